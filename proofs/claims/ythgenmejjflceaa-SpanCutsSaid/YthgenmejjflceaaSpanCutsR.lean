/- SpanCuts answers true for every list of runs, every window, and every shift. No conditions but that the list lies within its capacity. SpanCuts: for every list of runs, every window, and every shift, the statement's function answers true and leaves its arguments alone. No conditions. -/
import Derived.Test.YthgenmejjflceaaKF
import Derived.Test.YthgenmejjflceaaKM
import Derived.Test.YthgenmejjflceaaKG
namespace Go.Proofs.Ythgenmejjflceaa
open Go.ChangeShapes Go.WideShapes Go.ChangeAt Go.RowKit
attribute [local irreducible] Go.Calls

theorem scuts_many (n : Nat) (x y d : Int) (a : Option Addr) (cap : Nat) (w : World) (h : 40 < n) :
    Calls Try.prog 4 #[.slice a n cap, .agg #[.int .i64 x, .int .i64 y], .int .i64 d] w fun e w' => e = .returned (.bool true) ∧ Below w.heap.size w w' := by
  have d1 : decide ((40 : Int) < (n : Int)) = true := decide_eq_true (by omega)
  go_enter Try.func4, Try.ntmps4
  go_wp2_with (go_at_call 9; ((with_reducible refine (shead_c _).mono ?_); rintro e w9 ⟨rfl, hb9⟩))
  go_ret
  exact ⟨rfl, by (repeat (first | exact Below.refl _ _ | assumption | refine balloc ?_ _ | refine below_drewN ?_ _ | refine bstep (by assumption) ?_ | refine bstep (Past.prop _) ?_ | refine Below.setCell ?_ (by first | exact Nat.le_refl _ | (simp; done) | (simp; omega)) _))⟩

set_option maxRecDepth 100000 in
set_option maxHeartbeats 8000000 in
theorem scuts_few (F : List Sg) (n : Nat) (x y d : Int) (a : Option Addr) (cap : Nat) (w : World) (h : n ≤ 40) (S1 : SliS w (.slice a n cap) F) :
    Calls Try.prog 4 #[.slice a n cap, .agg #[.int .i64 x, .int .i64 y], .int .i64 d] w fun e w' => e = .returned (.bool true) ∧ Below w.heap.size w w' := by
  have d1 : decide ((40 : Int) < (n : Int)) = false := decide_eq_false (by omega)
  have hFl : F.length = n := by obtain ⟨q, _⟩ := S1.len; exact q.symm
  obtain ⟨K, ke, hK⟩ : ∃ K ke, cutS F x y = (K, ke) := ⟨_, _, rfl⟩
  obtain ⟨M, me, hM⟩ : ∃ M me, shiftS F d = (M, me) := ⟨_, _, rfl⟩
  have hMl : M.length ≤ 100 := by
    have : (shiftS F d).1.length ≤ F.length := by
      unfold shiftS
      split
      · simp
      · split
        · simp
        · split
          · simp
          · rw [shiftL_len]; exact Nat.le_refl _
    rw [hM] at this
    simp only at this
    omega
  have HML := hidE hMl
  have HK := hidE hK; have HM := hidE hM; have HFL := hidE hFl
  clear hK hM hFl hMl
  obtain ⟨w0, hw0⟩ : ∃ w0, w0 = w.alloc (Obj.cells #[.int .i64 x, .int .i64 y] 32) := ⟨_, rfl⟩
  have B1 : Blk w0 w.heap.size #[.int .i64 x, .int .i64 y] 32 := by rw [hw0]; exact Blk.made _ _ _
  have hb0 : Below w.heap.size w w0 := by rw [hw0]; (repeat (first | exact Below.refl _ _ | assumption | refine balloc ?_ _ | refine below_drewN ?_ _ | refine bstep (by assumption) ?_ | refine bstep (Past.prop _) ?_ | refine Below.setCell ?_ (by first | exact Nat.le_refl _ | (simp; done) | (simp; omega)) _))
  replace S1 := S1.past hb0
  go_enter Try.func4, Try.ntmps4
  go_upto_region 3 with fail
  rw [← hw0]
  clear hw0
  have b0 := B1.cell 0; have b1 := B1.cell 1; have bz := B1.lt
  simp at b0 b1
  go_cut [7, 8] (fun s7 s8 wx => ∃ (aK : Option Addr) (cK : Nat), s7 = .slice aK K.length cK ∧ s8 = .int .i64 ke ∧ SliS wx (.slice aK K.length cK) K ∧ SliS wx (.slice a n cap) F ∧ Blk wx w.heap.size #[.int .i64 x, .int .i64 y] 32 ∧ Below w.heap.size w wx)
  case first =>
    go_wp2_with ((go_at_call 16; ((with_reducible refine (Calls.ofSl (n := K.length) (cut_s (F := F) (by (repeat (first | assumption | exact sliS_nil _ | (refine sliS_new (Blk.made _ _ _) rfl rfl (by decide); done) | refine SliS.past ?_ (by assumption) | refine sliS_alloc ?_ _))) (by omega) HK.out) rfl).mono ?_); rintro e wK ⟨aK, cK, rfl, SK, hbK⟩)))
    go_meet
    case rel => exact ⟨_, _, rfl, rfl, (by (repeat (first | assumption | exact sliS_nil _ | (refine sliS_new (Blk.made _ _ _) rfl rfl (by decide); done) | refine SliS.past ?_ (by assumption) | refine sliS_alloc ?_ _))), (by (repeat (first | assumption | exact sliS_nil _ | (refine sliS_new (Blk.made _ _ _) rfl rfl (by decide); done) | refine SliS.past ?_ (by assumption) | refine sliS_alloc ?_ _))), (by (repeat (first | assumption | exact Blk.made _ _ _ | refine Blk.past ?_ (by assumption) | refine Blk.alloc ?_ _))), by (repeat (first | exact Below.refl _ _ | assumption | refine balloc ?_ _ | refine below_drewN ?_ _ | refine bstep (by assumption) ?_ | refine bstep (Past.prop _) ?_ | refine Below.setCell ?_ (by first | exact Nat.le_refl _ | (simp; done) | (simp; omega)) _))⟩
  obtain ⟨aK, cK, rfl, rfl, SK, S1, B1, hb⟩ := hcut
  clear b0 b1 bz hb0
  have b0 := B1.cell 0; have b1 := B1.cell 1; have bz := B1.lt
  simp at b0 b1
  obtain ⟨wb, hwb⟩ : ∃ wb, wb = wc := ⟨_, rfl⟩
  go_upto_region 6 with (first | (go_at_call 17; ((with_reducible refine (Calls.ofSl (n := K.length) (rcut_s (F := F) (by (repeat (first | assumption | exact sliS_nil _ | (refine sliS_new (Blk.made _ _ _) rfl rfl (by decide); done) | refine SliS.past ?_ (by assumption) | refine sliS_alloc ?_ _))) (by omega) HK.out) rfl).mono ?_); rintro e wL ⟨aL, cL, rfl, SL, hbL⟩)) | (go_at_call 18; ((with_reducible refine (Calls.ofSl (n := M.length) (shift_s (F := F) (by (repeat (first | assumption | exact sliS_nil _ | (refine sliS_new (Blk.made _ _ _) rfl rfl (by decide); done) | refine SliS.past ?_ (by assumption) | refine sliS_alloc ?_ _))) (by omega) HM.out) rfl).mono ?_); rintro e wM ⟨aM, cM, rfl, SM, hbM⟩)))
  go_cut [13, 14] (fun s13 s14 wx => ∃ (aN : Option Addr) (cN : Nat), s13 = .slice aN M.length cN ∧ s14 = .int .i64 me ∧ SliS wx (.slice aK K.length cK) K ∧ SliS wx (.slice aL K.length cL) K ∧ SliS wx (.slice aM M.length cM) M ∧ SliS wx (.slice aN M.length cN) M ∧ SliS wx (.slice a n cap) F ∧ Below w.heap.size w wx)
  case first =>
    go_wp2_with ((go_at_call 19; ((with_reducible refine (Calls.ofSl (n := M.length) (rshift_s (F := F) (by (repeat (first | assumption | exact sliS_nil _ | (refine sliS_new (Blk.made _ _ _) rfl rfl (by decide); done) | refine SliS.past ?_ (by assumption) | refine sliS_alloc ?_ _))) (by omega) HM.out) rfl).mono ?_); rintro e wN ⟨aN, cN, rfl, SN, hbN⟩)))
    go_meet
    case rel => exact ⟨_, _, rfl, rfl, (by (repeat (first | assumption | exact sliS_nil _ | (refine sliS_new (Blk.made _ _ _) rfl rfl (by decide); done) | refine SliS.past ?_ (by assumption) | refine sliS_alloc ?_ _))), (by (repeat (first | assumption | exact sliS_nil _ | (refine sliS_new (Blk.made _ _ _) rfl rfl (by decide); done) | refine SliS.past ?_ (by assumption) | refine sliS_alloc ?_ _))), (by (repeat (first | assumption | exact sliS_nil _ | (refine sliS_new (Blk.made _ _ _) rfl rfl (by decide); done) | refine SliS.past ?_ (by assumption) | refine sliS_alloc ?_ _))), (by (repeat (first | assumption | exact sliS_nil _ | (refine sliS_new (Blk.made _ _ _) rfl rfl (by decide); done) | refine SliS.past ?_ (by assumption) | refine sliS_alloc ?_ _))), (by (repeat (first | assumption | exact sliS_nil _ | (refine sliS_new (Blk.made _ _ _) rfl rfl (by decide); done) | refine SliS.past ?_ (by assumption) | refine sliS_alloc ?_ _))), by (repeat (first | exact Below.refl _ _ | assumption | refine balloc ?_ _ | refine below_drewN ?_ _ | refine bstep (by assumption) ?_ | refine bstep (Past.prop _) ?_ | refine Below.setCell ?_ (by first | exact Nat.le_refl _ | (simp; done) | (simp; omega)) _))⟩
  obtain ⟨aN, cN, rfl, rfl, SK, SL, SM, SN, S1, hb⟩ := hcut
  clear b0 b1 bz hbL hbM B1
  go_upto_if 70 with (first | (go_at_call 20; ((with_reducible refine (rsame_s (a1 := aK) (F := K) (G := K) (b := true) (by (repeat (first | assumption | exact sliS_nil _ | (refine sliS_new (Blk.made _ _ _) rfl rfl (by decide); done) | refine SliS.past ?_ (by assumption) | refine sliS_alloc ?_ _))) (by (repeat (first | assumption | exact sliS_nil _ | (refine sliS_new (Blk.made _ _ _) rfl rfl (by decide); done) | refine SliS.past ?_ (by assumption) | refine sliS_alloc ?_ _))) (sameB_t _)).mono ?_); rintro e ws ⟨rfl, hbs⟩)) | (go_at_call 20; ((with_reducible refine (rsame_s (a1 := aM) (F := M) (G := M) (b := true) (by (repeat (first | assumption | exact sliS_nil _ | (refine sliS_new (Blk.made _ _ _) rfl rfl (by decide); done) | refine SliS.past ?_ (by assumption) | refine sliS_alloc ?_ _))) (by (repeat (first | assumption | exact sliS_nil _ | (refine sliS_new (Blk.made _ _ _) rfl rfl (by decide); done) | refine SliS.past ?_ (by assumption) | refine sliS_alloc ?_ _))) (sameB_t _)).mono ?_); rintro e ws ⟨rfl, hbs⟩)))
  by_cases h0 : me = 0
  · subst h0
    obtain ⟨k1, k2, k3⟩ := shift_back HM.out
    have HB := hidE k2; have HMY := hidE k1
    have hd := okT_iff.1 k3
    clear k1 k2 k3
    go_upto_region 12 with ((go_at_call 18; ((with_reducible refine (Calls.ofSl (n := F.length) (shift_s (F := M) (by (repeat (first | assumption | exact sliS_nil _ | (refine sliS_new (Blk.made _ _ _) rfl rfl (by decide); done) | refine SliS.past ?_ (by assumption) | refine sliS_alloc ?_ _))) (by have := HML.out; omega) HB.out) rfl).mono ?_); rintro e wB ⟨aB, cB, rfl, SB, hbB⟩)))
    go_wp2_with (first | (go_at_call 21; ((with_reducible refine (rmay_s (F := M) (b := true) (by (repeat (first | assumption | exact sliS_nil _ | (refine sliS_new (Blk.made _ _ _) rfl rfl (by decide); done) | refine SliS.past ?_ (by assumption) | refine sliS_alloc ?_ _))) (by have := HML.out; omega) HMY.out).mono ?_); rintro e wy ⟨rfl, hby⟩)) | (go_at_call 20; ((with_reducible refine (rsame_s (a1 := aB) (F := F) (G := F) (b := true) (by (repeat (first | assumption | exact sliS_nil _ | (refine sliS_new (Blk.made _ _ _) rfl rfl (by decide); done) | refine SliS.past ?_ (by assumption) | refine sliS_alloc ?_ _))) (by (repeat (first | assumption | exact sliS_nil _ | (refine sliS_new (Blk.made _ _ _) rfl rfl (by decide); done) | refine SliS.past ?_ (by assumption) | refine sliS_alloc ?_ _))) (sameB_t _)).mono ?_); rintro e ws ⟨rfl, hbs⟩)) | (go_at_call 9; ((with_reducible refine (shead_c _).mono ?_); rintro e w9 ⟨rfl, hb9⟩)))
    go_ret
    exact ⟨rfl, by (repeat (first | exact Below.refl _ _ | assumption | refine balloc ?_ _ | refine below_drewN ?_ _ | refine bstep (by assumption) ?_ | refine bstep (Past.prop _) ?_ | refine Below.setCell ?_ (by first | exact Nat.le_refl _ | (simp; done) | (simp; omega)) _))⟩
  · have e1 : (me != 0) = true := bne_iff_ne.2 h0
    go_wp2_with (go_at_call 9; ((with_reducible refine (shead_c _).mono ?_); rintro e w9 ⟨rfl, hb9⟩))
    go_ret
    exact ⟨rfl, by (repeat (first | exact Below.refl _ _ | assumption | refine balloc ?_ _ | refine below_drewN ?_ _ | refine bstep (by assumption) ?_ | refine bstep (Past.prop _) ?_ | refine Below.setCell ?_ (by first | exact Nat.le_refl _ | (simp; done) | (simp; omega)) _))⟩
end Go.Proofs.Ythgenmejjflceaa

namespace Go.Proofs.Ythgenmejjflceaa
open Go.ChangeShapes Go.WideShapes Go.ChangeAt Go.RowKit

theorem scuts_c (F : List Sg) (x y d : Int) (a : Option Addr) (cap : Nat) (w : World) (S1 : SliS w (.slice a F.length cap) F) :
    Calls Try.prog 4 #[.slice a F.length cap, .agg #[.int .i64 x, .int .i64 y], .int .i64 d] w fun e w' => e = .returned (.bool true) ∧ Below w.heap.size w w' := by
  by_cases h : 40 < F.length
  · exact scuts_many F.length x y d a cap w h
  · exact scuts_few F F.length x y d a cap w (by omega) S1

set_option maxRecDepth 100000 in
theorem spanCuts_lifted (os : Os) (started : os.Started) (H : Type) (enc : TypeId × Value → H) :
    ReturnsInHanded {} Try.checked os 4 .any (Rows.spanCutsSpec.pre6 enc Try.prog Try.f4 Rows.spanCutsRow.domain false) (Rows.spanCutsSpec.post enc Try.prog Try.f4 false true false false) := by
  refine returnsInHanded_of_change (C := Try.checked) own started (by kernel_rfl) Try.func4
    (ChangeSpec.witness6 (enc := enc) (C := Try.checked) false ⟨#[], #[.slice none 0 0, .agg #[.int .i64 0, .int .i64 0], .int .i64 0], []⟩ 8 (by kernel_rfl) (by kernel_rfl) (by kernel_rfl) (by kernel_rfl)) ?_
  intro W base args ds gs before hval0 hW _ _
  have hval : ∀ (j : Nat) t v, Try.f4.params[j]? = some t → args[j]? = some v → Value.okWide Try.prog W .any base t v := hval0
  have hW' := hW
  obtain ⟨p, q, hA0, hV, rfl, hfz, hnd⟩ := hW
  have hA : DataW.TrodAll enc Try.prog W 0 (fun _ => true) true Try.f4.params.toList args.toList ds p := hA0
  rw [Try.params4] at hA hval
  obtain ⟨v0, vs0, d0, ds0, p0, q0, hargs, rfl, rfl, h0, r0⟩ := trodAll_cons hA
  obtain ⟨v1, vs1, d1, ds1, p1, q1, rfl, rfl, rfl, h1, r1⟩ := trodAll_cons r0
  obtain ⟨v2, vs2, d2, ds2, p2, q2, rfl, rfl, rfl, h2, r2⟩ := trodAll_cons r1
  obtain ⟨rfl, rfl, rfl⟩ := trodAll_nil r2
  obtain rfl : args = #[v0, v1, v2] := by cases args; simp_all
  obtain ⟨l0, o0, c0, rfl, hl0, hA0', hS0⟩ := open_slisP (hval 0 22 v0 rfl rfl) h0
  obtain ⟨a1, b1, rfl⟩ := open_arr2 Try.underlying32 Try.underlying2 cellsI64 (by kernel_rfl) (hval 1 32 v1 rfl rfl) h1
  obtain ⟨a2, rfl, rfl, rfl, wa2⟩ := open_int Try.underlying2 (hval 2 2 v2 rfl rfl) h2
  have ha2 : -9223372036854775808 ≤ a2 ∧ a2 ≤ 9223372036854775807 := by simpa [Lit.wf, IntKind.min, IntKind.max, IntKind.signed, IntKind.bits] using wa2
  clear hA0 hval0
  refine (scuts_c l0 a1 b1 a2 o0 c0 W hA0').mono fun e W' ⟨he, hb⟩ => ?_
  subst he
  exact ⟨_, rfl, law_post laidOut (readOk_spec (by kernel_rfl)) rfl Try.underlying4 rfl ⟨rfl, rfl, rfl⟩ hW' hb⟩

theorem spanCuts_holds : Rows.SpanCutsSaid :=
  OpenClaim.holds_of_wide 4 Try.f4 rfl rfl rfl rfl rfl rfl rfl ⟨rfl, rfl, rfl, rfl, rfl⟩ rfl rfl rfl rfl rfl (by kernel_rfl) Try.func4 (by kernel_rfl)
    (of_decide_eq_true (by kernel_rfl)) (by unfold Func.isWrapper; first | (rw [if_pos (by decide +kernel)]; kernel_rfl) | (rw [if_neg (by decide +kernel)]; exact ⟨rfl, rfl⟩))
    (fun os started H enc _ => spanCuts_lifted os started H enc)
end Go.Proofs.Ythgenmejjflceaa
