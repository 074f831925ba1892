/- SpanTells answers true for every list of runs, and every window. No conditions but that the list lies within its capacity. SpanTells: for every list of runs, and every window, the statement's function answers true and leaves its arguments alone. No conditions. -/
import Derived.Test.YthgenmejjflceaaKF
import Derived.Test.YthgenmejjflceaaKG
namespace Go.Proofs.Ythgenmejjflceaa
open Go.ChangeShapes Go.WideShapes Go.ChangeAt Go.RowKit
attribute [local irreducible] Go.Calls

theorem wide_c (n : Nat) (x y : Int) (a : Option Addr) (cap : Nat) (w : World) :
    Calls Try.prog 8 #[.slice a n cap, .int .i64 x, .int .i64 y] w (RetB w fun r => r = false → n ≤ 40) := by
  by_cases h1 : 40 < n
  · have d1 : decide ((40 : Int) < (n : Int)) = true := decide_eq_true (by omega)
    go_enter Try.func8, Try.ntmps8
    go_wp2
    go_ret
    exact ⟨true, rfl, fun h => (by cases h), Below.refl _ _⟩
  · have d1 : decide ((40 : Int) < (n : Int)) = false := decide_eq_false (by omega)
    have HN := hidE (show n ≤ 40 by omega)
    clear h1
    by_cases h2 : x < y
    · have d2 : decide (x < y) = true := decide_eq_true h2
      go_enter Try.func8, Try.ntmps8
      go_wp2
      all_goals
        go_ret
        exact ⟨_, rfl, fun _ => HN.out, Below.refl _ _⟩
    · have d2 : decide (x < y) = false := decide_eq_false h2
      go_enter Try.func8, Try.ntmps8
      go_wp2
      all_goals
        go_ret
        exact ⟨_, rfl, fun _ => HN.out, Below.refl _ _⟩

set_option maxRecDepth 100000 in
set_option maxHeartbeats 8000000 in
theorem stells_c (F : List Sg) (n : Nat) (x y : Int) (a : Option Addr) (cap : Nat) (w : World) (S1 : SliS w (.slice a n cap) F) :
    Calls Try.prog 3 #[.slice a n cap, .int .i64 x, .int .i64 y] w fun e w' => e = .returned (.bool true) ∧ Below w.heap.size w w' := by
  have HW := hidE (wide_c n x y a cap)
  obtain ⟨r1, h1⟩ : ∃ r1, lowS F x y = r1 := ⟨_, rfl⟩
  obtain ⟨r2, h2⟩ : ∃ r2, highS F x y = r2 := ⟨_, rfl⟩
  obtain ⟨r3, h3⟩ : ∃ r3, totS F x y = r3 := ⟨_, rfl⟩
  have H1 := hidE h1; have H2 := hidE h2; have H3 := hidE h3
  clear h1 h2 h3
  go_enter Try.func3, Try.ntmps3
  go_upto_if 22 with (go_at_call 8; ((with_reducible refine (HW.out _).mono ?_); rintro e w1 ⟨r, rfl, hr, hb⟩))
  cases r
  · have hn := hr rfl
    clear hr HW
    replace S1 := S1.past hb
    obtain ⟨wb, hwb⟩ : ∃ wb, wb = w1 := ⟨_, rfl⟩
    go_upto_region 8 with (first | (go_at_call 10; ((with_reducible refine (low_s (F := F) (by (repeat (first | assumption | exact sliS_nil _ | (refine sliS_new (Blk.made _ _ _) rfl rfl (by decide); done) | refine SliS.past ?_ (by assumption) | refine sliS_alloc ?_ _))) (by omega) H1.out).mono ?_); rintro e wa ⟨rfl, hbwa⟩)) | (go_at_call 11; ((with_reducible refine (rlow_s (F := F) (by (repeat (first | assumption | exact sliS_nil _ | (refine sliS_new (Blk.made _ _ _) rfl rfl (by decide); done) | refine SliS.past ?_ (by assumption) | refine sliS_alloc ?_ _))) (by omega) H1.out).mono ?_); rintro e wc ⟨rfl, hbwc⟩)) | (go_at_call 12; ((with_reducible refine (high_s (F := F) (by (repeat (first | assumption | exact sliS_nil _ | (refine sliS_new (Blk.made _ _ _) rfl rfl (by decide); done) | refine SliS.past ?_ (by assumption) | refine sliS_alloc ?_ _))) (by omega) H2.out).mono ?_); rintro e wd ⟨rfl, hbwd⟩)) | (go_at_call 13; ((with_reducible refine (rhigh_s (F := F) (by (repeat (first | assumption | exact sliS_nil _ | (refine sliS_new (Blk.made _ _ _) rfl rfl (by decide); done) | refine SliS.past ?_ (by assumption) | refine sliS_alloc ?_ _))) (by omega) H2.out).mono ?_); rintro e we ⟨rfl, hbwe⟩)) | (go_at_call 14; ((with_reducible refine (sum_s (F := F) (by (repeat (first | assumption | exact sliS_nil _ | (refine sliS_new (Blk.made _ _ _) rfl rfl (by decide); done) | refine SliS.past ?_ (by assumption) | refine sliS_alloc ?_ _))) (by omega) H3.out).mono ?_); rintro e wf ⟨rfl, hbwf⟩)))
    go_cut [17, 18] (fun s17 s18 wx => ∃ p17 : Nat, s17 = .pointer (some ⟨p17, 0, none⟩) ∧ s18 = .int .i64 r3.2.2 ∧ Blk wx p17 #[.int .i64 r3.1, .int .i64 r3.2.1] 26 ∧ Blk wx wa.heap.size #[.int .i64 r1.1, .int .i64 r1.2.1] 26 ∧ Blk wx wc.heap.size #[.int .i64 r1.1, .int .i64 r1.2.1] 26 ∧ Blk wx wd.heap.size #[.int .i64 r2.1, .int .i64 r2.2.1] 26 ∧ Blk wx we.heap.size #[.int .i64 r2.1, .int .i64 r2.2.1] 26 ∧ Blk wx wf.heap.size #[.int .i64 r3.1, .int .i64 r3.2.1] 26 ∧ Below w.heap.size w wx)
    case first =>
      go_wp2_with ((go_at_call 15; ((with_reducible refine (rtot_s (F := F) (by (repeat (first | assumption | exact sliS_nil _ | (refine sliS_new (Blk.made _ _ _) rfl rfl (by decide); done) | refine SliS.past ?_ (by assumption) | refine sliS_alloc ?_ _))) (by omega) H3.out).mono ?_); rintro e wg ⟨rfl, hbwg⟩)))
      go_meet
      case rel => exact ⟨_, rfl, rfl, Blk.made _ _ _, (by (repeat (first | assumption | exact Blk.made _ _ _ | refine Blk.past ?_ (by assumption) | refine Blk.alloc ?_ _))), (by (repeat (first | assumption | exact Blk.made _ _ _ | refine Blk.past ?_ (by assumption) | refine Blk.alloc ?_ _))), (by (repeat (first | assumption | exact Blk.made _ _ _ | refine Blk.past ?_ (by assumption) | refine Blk.alloc ?_ _))), (by (repeat (first | assumption | exact Blk.made _ _ _ | refine Blk.past ?_ (by assumption) | refine Blk.alloc ?_ _))), (by (repeat (first | assumption | exact Blk.made _ _ _ | refine Blk.past ?_ (by assumption) | refine Blk.alloc ?_ _))), by (repeat (first | exact Below.refl _ _ | assumption | refine balloc ?_ _ | refine below_drewN ?_ _ | refine bstep (by assumption) ?_ | refine bstep (Past.prop _) ?_ | refine Below.setCell ?_ (by first | exact Nat.le_refl _ | (simp; done) | (simp; omega)) _))⟩
    obtain ⟨p17, rfl, rfl, B6, B1, B2, B3, B4, B5, hb2⟩ := hcut
    have c10 := B1.cell 0; have c11 := B1.cell 1; have z1 := B1.lt; have c20 := B2.cell 0; have c21 := B2.cell 1; have z2 := B2.lt; have c30 := B3.cell 0; have c31 := B3.cell 1; have z3 := B3.lt; have c40 := B4.cell 0; have c41 := B4.cell 1; have z4 := B4.lt; have c50 := B5.cell 0; have c51 := B5.cell 1; have z5 := B5.lt; have c60 := B6.cell 0; have c61 := B6.cell 1; have z6 := B6.lt
    simp at c10 c11 c20 c21 c30 c31 c40 c41 c50 c51 c60 c61
    clear B1 B2 B3 B4 B5 B6
    generalize wa.heap.size = p1 at *
    generalize wc.heap.size = p2 at *
    generalize wd.heap.size = p3 at *
    generalize we.heap.size = p4 at *
    generalize wf.heap.size = p5 at *
    clear hbwa hbwc hbwd hbwe hbwf
    go_wp2_with (go_at_call 9; ((with_reducible refine (shead_c _).mono ?_); rintro e w9 ⟨rfl, hb9⟩))
    go_ret
    exact ⟨by simp, by (repeat (first | exact Below.refl _ _ | assumption | refine balloc ?_ _ | refine below_drewN ?_ _ | refine bstep (by assumption) ?_ | refine bstep (Past.prop _) ?_ | refine Below.setCell ?_ (by first | exact Nat.le_refl _ | (simp; done) | (simp; omega)) _))⟩
  · clear hr HW
    go_wp2_with (go_at_call 9; ((with_reducible refine (shead_c _).mono ?_); rintro e w9 ⟨rfl, hb9⟩))
    go_ret
    exact ⟨rfl, by (repeat (first | exact Below.refl _ _ | assumption | refine balloc ?_ _ | refine below_drewN ?_ _ | refine bstep (by assumption) ?_ | refine bstep (Past.prop _) ?_ | refine Below.setCell ?_ (by first | exact Nat.le_refl _ | (simp; done) | (simp; omega)) _))⟩
end Go.Proofs.Ythgenmejjflceaa

namespace Go.Proofs.Ythgenmejjflceaa
open Go.ChangeShapes Go.WideShapes Go.ChangeAt Go.RowKit

set_option maxRecDepth 100000 in
theorem spanTells_lifted (os : Os) (started : os.Started) (H : Type) (enc : TypeId × Value → H) :
    ReturnsInHanded {} Try.checked os 3 .any (Rows.spanTellsSpec.pre6 enc Try.prog Try.f3 Rows.spanTellsRow.domain false) (Rows.spanTellsSpec.post enc Try.prog Try.f3 false true false false) := by
  refine returnsInHanded_of_change (C := Try.checked) own started (by kernel_rfl) Try.func3
    (ChangeSpec.witness6 (enc := enc) (C := Try.checked) false ⟨#[], #[.slice none 0 0, .int .i64 0, .int .i64 0], []⟩ 8 (by kernel_rfl) (by kernel_rfl) (by kernel_rfl) (by kernel_rfl)) ?_
  intro W base args ds gs before hval0 hW _ _
  have hval : ∀ (j : Nat) t v, Try.f3.params[j]? = some t → args[j]? = some v → Value.okWide Try.prog W .any base t v := hval0
  have hW' := hW
  obtain ⟨p, q, hA0, hV, rfl, hfz, hnd⟩ := hW
  have hA : DataW.TrodAll enc Try.prog W 0 (fun _ => true) true Try.f3.params.toList args.toList ds p := hA0
  rw [Try.params3] at hA hval
  obtain ⟨v0, vs0, d0, ds0, p0, q0, hargs, rfl, rfl, h0, r0⟩ := trodAll_cons hA
  obtain ⟨v1, vs1, d1, ds1, p1, q1, rfl, rfl, rfl, h1, r1⟩ := trodAll_cons r0
  obtain ⟨v2, vs2, d2, ds2, p2, q2, rfl, rfl, rfl, h2, r2⟩ := trodAll_cons r1
  obtain ⟨rfl, rfl, rfl⟩ := trodAll_nil r2
  obtain rfl : args = #[v0, v1, v2] := by cases args; simp_all
  obtain ⟨l0, o0, c0, rfl, hl0, hA0', hS0⟩ := open_slisP (hval 0 22 v0 rfl rfl) h0
  obtain ⟨a1, rfl, rfl, rfl, wa1⟩ := open_int Try.underlying2 (hval 1 2 v1 rfl rfl) h1
  have ha1 : -9223372036854775808 ≤ a1 ∧ a1 ≤ 9223372036854775807 := by simpa [Lit.wf, IntKind.min, IntKind.max, IntKind.signed, IntKind.bits] using wa1
  obtain ⟨a2, rfl, rfl, rfl, wa2⟩ := open_int Try.underlying2 (hval 2 2 v2 rfl rfl) h2
  have ha2 : -9223372036854775808 ≤ a2 ∧ a2 ≤ 9223372036854775807 := by simpa [Lit.wf, IntKind.min, IntKind.max, IntKind.signed, IntKind.bits] using wa2
  clear hA0 hval0
  refine (stells_c l0 l0.length a1 a2 o0 c0 W hA0').mono fun e W' ⟨he, hb⟩ => ?_
  subst he
  exact ⟨_, rfl, law_post laidOut (readOk_spec (by kernel_rfl)) rfl Try.underlying4 rfl ⟨rfl, rfl, rfl⟩ hW' hb⟩

theorem spanTells_holds : Rows.SpanTellsSaid :=
  OpenClaim.holds_of_wide 3 Try.f3 rfl rfl rfl rfl rfl rfl rfl ⟨rfl, rfl, rfl, rfl, rfl⟩ rfl rfl rfl rfl rfl (by kernel_rfl) Try.func3 (by kernel_rfl)
    (of_decide_eq_true (by kernel_rfl)) (by unfold Func.isWrapper; first | (rw [if_pos (by decide +kernel)]; kernel_rfl) | (rw [if_neg (by decide +kernel)]; exact ⟨rfl, rfl⟩))
    (fun os started H enc _ => spanTells_lifted os started H enc)
end Go.Proofs.Ythgenmejjflceaa
