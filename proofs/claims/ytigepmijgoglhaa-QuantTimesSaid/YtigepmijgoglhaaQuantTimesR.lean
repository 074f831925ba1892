/- QuantTimes answers true for every time and every quantum. No conditions. QuantTimes: for every time and every quantum, the statement's function answers true and leaves its arguments alone. No conditions. -/
import Derived.Test.YtigepmijgoglhaaQGD
import Derived.Test.YtigepmijgoglhaaQGA
namespace Go.Proofs.Ytigepmijgoglhaa
open Go.ChangeShapes Go.WideShapes Go.ChangeAt Go.RowKit
attribute [local irreducible] Go.Calls

set_option maxRecDepth 100000 in
set_option maxHeartbeats 8000000 in
theorem qtimes_c (t q : Int) (w : World) (_ht : -9223372036854775808 ≤ t ∧ t ≤ 9223372036854775807) :
    Calls Try.prog 3 #[.int .i64 t, .int .i64 q] w fun e w' => e = .returned (.bool true) ∧ Below w.heap.size w w' := by
  have k1 := down_known (t := t) (q := q); have k2 := up_known (t := t) (q := q); have k3 := both_known (t := t) (q := q)
  obtain ⟨A, e, hD⟩ : ∃ A e, downS t q = (A, e) := ⟨_, _, rfl⟩
  obtain ⟨C, g, hU⟩ : ∃ C g, upS t q = (C, g) := ⟨_, _, rfl⟩
  rw [hD] at k1 k3
  rw [hU] at k2 k3
  simp only at k1 k2 k3
  have HD := hidE hD; have HU := hidE hU; have K1 := hidE k1; have K2 := hidE k2; have K3 := hidE k3
  clear hD hU k1 k2 k3
  go_enter Try.func3, Try.ntmps3
  go_upto_region 4 with (first | (go_at_call 5; ((with_reducible refine (qdown_s HD.out).mono ?_); rintro e w1 ⟨rfl, hb1⟩)) | (go_at_call 6; ((with_reducible refine (rdown_c t q _).mono ?_); rintro e w2 ⟨rfl, rfl⟩; rw [HD.out])) | (go_at_call 7; ((with_reducible refine (qup_s HU.out).mono ?_); rintro e w3 ⟨rfl, hb3⟩)))
  go_cut [11, 12] (fun s11 s12 wx => s11 = .int .i64 C ∧ s12 = .int .i64 g ∧ Below w.heap.size w wx)
  case first =>
    go_wp2_with (go_at_call 8; ((with_reducible refine (rup_c t q _).mono ?_); rintro e w4 ⟨rfl, rfl⟩; rw [HU.out]))
    go_meet
    case rel => exact ⟨rfl, rfl, by (repeat (first | exact Below.refl _ _ | assumption | refine balloc ?_ _ | refine below_drewN ?_ _ | refine bstep (by assumption) ?_ | refine bstep (Past.prop _) ?_ | refine Below.setCell ?_ (by first | exact Nat.le_refl _ | (simp; done) | (simp; omega)) _))⟩
  obtain ⟨rfl, rfl, hb⟩ := hcut
  clear hb1 hb3
  have HB := hidE hb
  clear hb
  by_cases he : e = 0
  · obtain ⟨hq, h2, h3, h4, h5, h6⟩ := K1.out he
    have ht2 := okT_iff.1 h2
    have hq0 : q ≠ 0 := by omega
    have hq1 : (q == 0) = false := beq_eq_false_iff_ne.2 hq0
    have hA : A.tmod q = 0 := (tmod_zero (by omega)).2 h6
    have d1 : decide (t < A) = false := decide_eq_false (by omega)
    have d2 : decide (q ≤ t - A) = false := decide_eq_false (by omega)
    have d3 : (e == 0) = true := beq_iff_eq.2 he
    have d4 : (e != 0) = false := by rw [bne_eq_false_iff_eq]; exact he
    have HQ := hidE hq; have HT2 := hidE ht2
    clear h2 h3 h6
    by_cases hg : g = 0
    · obtain ⟨_, g2, g3, g4, g5, g6⟩ := K2.out hg
      have hC : C.tmod q = 0 := (tmod_zero (by omega)).2 g6
      have d5 : decide (C < t) = false := decide_eq_false (by omega)
      have d6 : decide (q ≤ C - t) = false := decide_eq_false (by omega)
      have d7 : (g == 0) = true := beq_iff_eq.2 hg
      have d8 : (g != 0) = false := by rw [bne_eq_false_iff_eq]; exact hg
      have hk := K3.out he hg
      clear g2 g3 g6
      have hr := left_emod (t := t) (q := q) (by omega)
      have m1 := Int.emod_nonneg t hq0
      have m2 := Int.emod_lt_of_pos t (show 0 < q by omega)
      have hrb : -4096 ≤ t.tmod q ∧ t.tmod q < 4096 := by split at hr <;> omega
      have wr : IntKind.i64.wrap (t.tmod q) = t.tmod q := IntWalk.i64_in _ (by omega)
      clear hr m1 m2
      by_cases hz : t % q = 0
      · have d9 : (A == C) = true := beq_iff_eq.2 (hk.2 hz)
        have d10 : (t.tmod q == 0) = true := beq_iff_eq.2 ((tmod_zero (by omega)).2 hz)
        have d11 : t.tmod q = 0 := (tmod_zero (by omega)).2 hz
        clear hk hz K1 K2 K3 hrb
        go_wp2_with (go_at_call 9; ((with_reducible refine (qhead_c _).mono ?_); rintro e w9 ⟨rfl, hb9⟩))
        go_ret
        exact ⟨rfl, HB.out.trans (hb9.mono HB.out.size)⟩
      · have d9 : (A == C) = false := beq_eq_false_iff_ne.2 (fun c => hz (hk.1 c))
        have d10 : (t.tmod q == 0) = false := beq_eq_false_iff_ne.2 (fun c => hz ((tmod_zero (by omega)).1 c))
        clear hk hz K1 K2 K3
        go_wp2_with (go_at_call 9; ((with_reducible refine (qhead_c _).mono ?_); rintro e w9 ⟨rfl, hb9⟩))
        go_ret
        exact ⟨rfl, HB.out.trans (hb9.mono HB.out.size)⟩
    · have d7 : (g == 0) = false := beq_eq_false_iff_ne.2 hg
      have d8 : (g != 0) = true := bne_iff_ne.2 hg
      clear K1 K2 K3
      go_wp2_with (go_at_call 9; ((with_reducible refine (qhead_c _).mono ?_); rintro e w9 ⟨rfl, hb9⟩))
      go_ret
      exact ⟨rfl, HB.out.trans (hb9.mono HB.out.size)⟩
  · have d3 : (e == 0) = false := beq_eq_false_iff_ne.2 he
    have d4 : (e != 0) = true := bne_iff_ne.2 he
    by_cases hg : g = 0
    · obtain ⟨hq, g2, g3, g4, g5, g6⟩ := K2.out hg
      have ht2 := okT_iff.1 g2
      have hq0 : q ≠ 0 := by omega
      have hq1 : (q == 0) = false := beq_eq_false_iff_ne.2 hq0
      have hC : C.tmod q = 0 := (tmod_zero (by omega)).2 g6
      have d5 : decide (C < t) = false := decide_eq_false (by omega)
      have d6 : decide (q ≤ C - t) = false := decide_eq_false (by omega)
      have d7 : (g == 0) = true := beq_iff_eq.2 hg
      clear g2 g3 g6 K1 K2 K3
      go_wp2_with (go_at_call 9; ((with_reducible refine (qhead_c _).mono ?_); rintro e w9 ⟨rfl, hb9⟩))
      go_ret
      exact ⟨rfl, HB.out.trans (hb9.mono HB.out.size)⟩
    · have d7 : (g == 0) = false := beq_eq_false_iff_ne.2 hg
      clear K1 K2 K3
      go_wp2_with (go_at_call 9; ((with_reducible refine (qhead_c _).mono ?_); rintro e w9 ⟨rfl, hb9⟩))
      go_ret
      exact ⟨rfl, HB.out.trans (hb9.mono HB.out.size)⟩
end Go.Proofs.Ytigepmijgoglhaa

namespace Go.Proofs.Ytigepmijgoglhaa
open Go.ChangeShapes Go.WideShapes Go.ChangeAt Go.RowKit

set_option maxRecDepth 100000 in
theorem quantTimes_lifted (os : Os) (started : os.Started) (H : Type) (enc : TypeId × Value → H) :
    ReturnsInHanded {} Try.checked os 3 .any (Rows.quantTimesSpec.pre6 enc Try.prog Try.f3 Rows.quantTimesRow.domain false) (Rows.quantTimesSpec.post enc Try.prog Try.f3 false true false false) := by
  refine returnsInHanded_of_change (C := Try.checked) own started (by kernel_rfl) Try.func3
    (ChangeSpec.witness6 (enc := enc) (C := Try.checked) false ⟨#[], #[.int .i64 0, .int .i64 0], []⟩ 8 (by kernel_rfl) (by kernel_rfl) (by kernel_rfl) (by kernel_rfl)) ?_
  intro W base args ds gs before hval0 hW _ _
  have hval : ∀ (j : Nat) t v, Try.f3.params[j]? = some t → args[j]? = some v → Value.okWide Try.prog W .any base t v := hval0
  have hW' := hW
  obtain ⟨p, q, hA0, hV, rfl, hfz, hnd⟩ := hW
  have hA : DataW.TrodAll enc Try.prog W 0 (fun _ => true) true Try.f3.params.toList args.toList ds p := hA0
  rw [Try.params3] at hA hval
  obtain ⟨v0, vs0, d0, ds0, p0, q0, hargs, rfl, rfl, h0, r0⟩ := trodAll_cons hA
  obtain ⟨v1, vs1, d1, ds1, p1, q1, rfl, rfl, rfl, h1, r1⟩ := trodAll_cons r0
  obtain ⟨rfl, rfl, rfl⟩ := trodAll_nil r1
  obtain rfl : args = #[v0, v1] := by cases args; simp_all
  obtain ⟨a0, rfl, rfl, rfl, wa0⟩ := open_int Try.underlying2 (hval 0 2 v0 rfl rfl) h0
  have ha0 : -9223372036854775808 ≤ a0 ∧ a0 ≤ 9223372036854775807 := by simpa [Lit.wf, IntKind.min, IntKind.max, IntKind.signed, IntKind.bits] using wa0
  obtain ⟨a1, rfl, rfl, rfl, wa1⟩ := open_int Try.underlying2 (hval 1 2 v1 rfl rfl) h1
  have ha1 : -9223372036854775808 ≤ a1 ∧ a1 ≤ 9223372036854775807 := by simpa [Lit.wf, IntKind.min, IntKind.max, IntKind.signed, IntKind.bits] using wa1
  clear hA0 hval0
  refine (qtimes_c a0 a1 W ha0).mono fun e W' ⟨he, hb⟩ => ?_
  subst he
  exact ⟨_, rfl, law_post laidOut (readOk_spec (by kernel_rfl)) rfl Try.underlying4 rfl ⟨rfl, rfl, rfl⟩ hW' hb⟩

theorem quantTimes_holds : Rows.QuantTimesSaid :=
  OpenClaim.holds_of_wide 3 Try.f3 rfl rfl rfl rfl rfl rfl rfl ⟨rfl, rfl, rfl, rfl, rfl⟩ rfl rfl rfl rfl rfl (by kernel_rfl) Try.func3 (by kernel_rfl)
    (of_decide_eq_true (by kernel_rfl)) (by unfold Func.isWrapper; first | (rw [if_pos (by decide +kernel)]; kernel_rfl) | (rw [if_neg (by decide +kernel)]; exact ⟨rfl, rfl⟩))
    (fun os started H enc _ => quantTimes_lifted os started H enc)
end Go.Proofs.Ytigepmijgoglhaa
