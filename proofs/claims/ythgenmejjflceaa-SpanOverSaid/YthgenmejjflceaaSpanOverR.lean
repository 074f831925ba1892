/- SpanOver answers true for every list of runs, every time and width, and every limit. No conditions but that the list lies within its capacity. SpanOver: for every list of runs, every time and width, and every limit, the statement's function answers true and leaves its arguments alone. No conditions. -/
import Derived.Test.YthgenmejjflceaaKF
import Derived.Test.YthgenmejjflceaaKG
namespace Go.Proofs.Ythgenmejjflceaa
open Go.ChangeShapes Go.WideShapes Go.ChangeAt Go.RowKit
attribute [local irreducible] Go.Calls

set_option maxRecDepth 100000 in
set_option maxHeartbeats 8000000 in
theorem sover_c (F : List Sg) (n : Nat) (x y l1 l2 : Int) (a : Option Addr) (cap : Nat) (w : World) (S1 : SliS w (.slice a n cap) F) (hn : n ≤ 9223372036854775807) :
    Calls Try.prog 6 #[.slice a n cap, .agg #[.int .i64 x, .int .i64 y], V l1 l2] w fun e w' => e = .returned (.bool true) ∧ Below w.heap.size w w' := by
  obtain ⟨w0, hw0⟩ : ∃ w0, w0 = (w.alloc (Obj.cells #[.int .i64 x, .int .i64 y] 32)).alloc (Obj.cells #[.int .i64 l1, .int .i64 l2] 26) := ⟨_, rfl⟩
  have B1 : Blk w0 w.heap.size #[.int .i64 x, .int .i64 y] 32 := by rw [hw0]; exact (Blk.made _ _ _).alloc _
  have B2 : Blk w0 (w.heap.size + 1) #[.int .i64 l1, .int .i64 l2] 26 := by rw [hw0]; exact Blk.made_at _ _ _ _ (by simp)
  have hb0 : Below w.heap.size w w0 := by rw [hw0]; (repeat (first | exact Below.refl _ _ | assumption | refine balloc ?_ _ | refine below_drewN ?_ _ | refine bstep (by assumption) ?_ | refine bstep (Past.prop _) ?_ | refine Below.setCell ?_ (by first | exact Nat.le_refl _ | (simp; done) | (simp; omega)) _))
  replace S1 := S1.past hb0
  obtain ⟨r, hr⟩ : ∃ r, overS F x y (l1, l2) = r := ⟨_, rfl⟩
  have HR := hidE hr
  clear hr
  go_enter Try.func6, Try.ntmps6
  go_upto_region 1 with fail
  rw [← hw0]
  clear hw0
  have b0 := B1.cell 0; have b1 := B1.cell 1; have bz := B1.lt
  simp at b0 b1
  obtain ⟨wb, hwb⟩ : ∃ wb, wb = w0 := ⟨_, rfl⟩
  go_cut [42] (fun s42 wx => ∃ b : Bool, s42 = .bool b ∧ (b = false → n ≤ 30) ∧ SliS wx (.slice a n cap) F ∧ Blk wx w.heap.size #[.int .i64 x, .int .i64 y] 32 ∧ Blk wx (w.heap.size + 1) #[.int .i64 l1, .int .i64 l2] 26 ∧ Below w.heap.size w wx)
  case first =>
    by_cases h1 : 30 < n
    · skip
      have e0 : decide ((30 : Int) < (n : Int)) = true := decide_eq_true (by omega)
      go_wp2_with fail
      go_meet
      case rel => exact ⟨_, rfl, fun h => (by cases h), (by (repeat (first | assumption | exact sliS_nil _ | (refine sliS_new (Blk.made _ _ _) rfl rfl (by decide); done) | refine SliS.past ?_ (by assumption) | refine sliS_alloc ?_ _))), (by (repeat (first | assumption | exact Blk.made _ _ _ | refine Blk.past ?_ (by assumption) | refine Blk.alloc ?_ _))), (by (repeat (first | assumption | exact Blk.made _ _ _ | refine Blk.past ?_ (by assumption) | refine Blk.alloc ?_ _))), by (repeat (first | exact Below.refl _ _ | assumption | refine balloc ?_ _ | refine below_drewN ?_ _ | refine bstep (by assumption) ?_ | refine bstep (Past.prop _) ?_ | refine Below.setCell ?_ (by first | exact Nat.le_refl _ | (simp; done) | (simp; omega)) _))⟩
    by_cases h2 : 60 < y
    · by_cases h3 : y ≤ 4096
      · skip
        have e0 : decide ((30 : Int) < (n : Int)) = false := decide_eq_false (by omega)
        have e1 : decide (60 < y) = true := decide_eq_true (by omega)
        have e2 : decide (y ≤ 4096) = true := decide_eq_true (by omega)
        go_wp2_with fail
        go_meet
        case rel => exact ⟨_, rfl, fun _ => (by omega), (by (repeat (first | assumption | exact sliS_nil _ | (refine sliS_new (Blk.made _ _ _) rfl rfl (by decide); done) | refine SliS.past ?_ (by assumption) | refine sliS_alloc ?_ _))), (by (repeat (first | assumption | exact Blk.made _ _ _ | refine Blk.past ?_ (by assumption) | refine Blk.alloc ?_ _))), (by (repeat (first | assumption | exact Blk.made _ _ _ | refine Blk.past ?_ (by assumption) | refine Blk.alloc ?_ _))), by (repeat (first | exact Below.refl _ _ | assumption | refine balloc ?_ _ | refine below_drewN ?_ _ | refine bstep (by assumption) ?_ | refine bstep (Past.prop _) ?_ | refine Below.setCell ?_ (by first | exact Nat.le_refl _ | (simp; done) | (simp; omega)) _))⟩
      by_cases h4 : -562949953421312 ≤ x
      · by_cases h5 : x ≤ 562949953421312
        · cases hnr : nearB F x
          all_goals
            have HNR := hidE hnr
            clear hnr
            have e0 : decide ((30 : Int) < (n : Int)) = false := decide_eq_false (by omega)
            have e1 : decide (60 < y) = true := decide_eq_true (by omega)
            have e2 : decide (y ≤ 4096) = false := decide_eq_false (by omega)
            have e3 : decide (-562949953421312 ≤ x) = true := decide_eq_true (by omega)
            have e4 : decide (x ≤ 562949953421312) = true := decide_eq_true (by omega)
            go_wp2_with (go_at_call 24; ((with_reducible refine (rnear_s (F := F) (by (repeat (first | assumption | exact sliS_nil _ | (refine sliS_new (Blk.made _ _ _) rfl rfl (by decide); done) | refine SliS.past ?_ (by assumption) | refine sliS_alloc ?_ _))) (by omega) (by omega) (by omega) HNR.out).mono ?_); rintro e wn ⟨rfl, hbn⟩))
            go_meet
            case rel => exact ⟨_, rfl, fun _ => (by omega), (by (repeat (first | assumption | exact sliS_nil _ | (refine sliS_new (Blk.made _ _ _) rfl rfl (by decide); done) | refine SliS.past ?_ (by assumption) | refine sliS_alloc ?_ _))), (by (repeat (first | assumption | exact Blk.made _ _ _ | refine Blk.past ?_ (by assumption) | refine Blk.alloc ?_ _))), (by (repeat (first | assumption | exact Blk.made _ _ _ | refine Blk.past ?_ (by assumption) | refine Blk.alloc ?_ _))), by (repeat (first | exact Below.refl _ _ | assumption | refine balloc ?_ _ | refine below_drewN ?_ _ | refine bstep (by assumption) ?_ | refine bstep (Past.prop _) ?_ | refine Below.setCell ?_ (by first | exact Nat.le_refl _ | (simp; done) | (simp; omega)) _))⟩
        · skip
          have e0 : decide ((30 : Int) < (n : Int)) = false := decide_eq_false (by omega)
          have e1 : decide (60 < y) = true := decide_eq_true (by omega)
          have e2 : decide (y ≤ 4096) = false := decide_eq_false (by omega)
          have e3 : decide (-562949953421312 ≤ x) = true := decide_eq_true (by omega)
          have e4 : decide (x ≤ 562949953421312) = false := decide_eq_false (by omega)
          go_wp2_with fail
          go_meet
          case rel => exact ⟨_, rfl, fun _ => (by omega), (by (repeat (first | assumption | exact sliS_nil _ | (refine sliS_new (Blk.made _ _ _) rfl rfl (by decide); done) | refine SliS.past ?_ (by assumption) | refine sliS_alloc ?_ _))), (by (repeat (first | assumption | exact Blk.made _ _ _ | refine Blk.past ?_ (by assumption) | refine Blk.alloc ?_ _))), (by (repeat (first | assumption | exact Blk.made _ _ _ | refine Blk.past ?_ (by assumption) | refine Blk.alloc ?_ _))), by (repeat (first | exact Below.refl _ _ | assumption | refine balloc ?_ _ | refine below_drewN ?_ _ | refine bstep (by assumption) ?_ | refine bstep (Past.prop _) ?_ | refine Below.setCell ?_ (by first | exact Nat.le_refl _ | (simp; done) | (simp; omega)) _))⟩
      · skip
        have e0 : decide ((30 : Int) < (n : Int)) = false := decide_eq_false (by omega)
        have e1 : decide (60 < y) = true := decide_eq_true (by omega)
        have e2 : decide (y ≤ 4096) = false := decide_eq_false (by omega)
        have e3 : decide (-562949953421312 ≤ x) = false := decide_eq_false (by omega)
        go_wp2_with fail
        go_meet
        case rel => exact ⟨_, rfl, fun _ => (by omega), (by (repeat (first | assumption | exact sliS_nil _ | (refine sliS_new (Blk.made _ _ _) rfl rfl (by decide); done) | refine SliS.past ?_ (by assumption) | refine sliS_alloc ?_ _))), (by (repeat (first | assumption | exact Blk.made _ _ _ | refine Blk.past ?_ (by assumption) | refine Blk.alloc ?_ _))), (by (repeat (first | assumption | exact Blk.made _ _ _ | refine Blk.past ?_ (by assumption) | refine Blk.alloc ?_ _))), by (repeat (first | exact Below.refl _ _ | assumption | refine balloc ?_ _ | refine below_drewN ?_ _ | refine bstep (by assumption) ?_ | refine bstep (Past.prop _) ?_ | refine Below.setCell ?_ (by first | exact Nat.le_refl _ | (simp; done) | (simp; omega)) _))⟩
    · by_cases h4 : -562949953421312 ≤ x
      · by_cases h5 : x ≤ 562949953421312
        · cases hnr : nearB F x
          all_goals
            have HNR := hidE hnr
            clear hnr
            have e0 : decide ((30 : Int) < (n : Int)) = false := decide_eq_false (by omega)
            have e1 : decide (60 < y) = false := decide_eq_false (by omega)
            have e2 : decide (-562949953421312 ≤ x) = true := decide_eq_true (by omega)
            have e3 : decide (x ≤ 562949953421312) = true := decide_eq_true (by omega)
            go_wp2_with (go_at_call 24; ((with_reducible refine (rnear_s (F := F) (by (repeat (first | assumption | exact sliS_nil _ | (refine sliS_new (Blk.made _ _ _) rfl rfl (by decide); done) | refine SliS.past ?_ (by assumption) | refine sliS_alloc ?_ _))) (by omega) (by omega) (by omega) HNR.out).mono ?_); rintro e wn ⟨rfl, hbn⟩))
            go_meet
            case rel => exact ⟨_, rfl, fun _ => (by omega), (by (repeat (first | assumption | exact sliS_nil _ | (refine sliS_new (Blk.made _ _ _) rfl rfl (by decide); done) | refine SliS.past ?_ (by assumption) | refine sliS_alloc ?_ _))), (by (repeat (first | assumption | exact Blk.made _ _ _ | refine Blk.past ?_ (by assumption) | refine Blk.alloc ?_ _))), (by (repeat (first | assumption | exact Blk.made _ _ _ | refine Blk.past ?_ (by assumption) | refine Blk.alloc ?_ _))), by (repeat (first | exact Below.refl _ _ | assumption | refine balloc ?_ _ | refine below_drewN ?_ _ | refine bstep (by assumption) ?_ | refine bstep (Past.prop _) ?_ | refine Below.setCell ?_ (by first | exact Nat.le_refl _ | (simp; done) | (simp; omega)) _))⟩
        · skip
          have e0 : decide ((30 : Int) < (n : Int)) = false := decide_eq_false (by omega)
          have e1 : decide (60 < y) = false := decide_eq_false (by omega)
          have e2 : decide (-562949953421312 ≤ x) = true := decide_eq_true (by omega)
          have e3 : decide (x ≤ 562949953421312) = false := decide_eq_false (by omega)
          go_wp2_with fail
          go_meet
          case rel => exact ⟨_, rfl, fun _ => (by omega), (by (repeat (first | assumption | exact sliS_nil _ | (refine sliS_new (Blk.made _ _ _) rfl rfl (by decide); done) | refine SliS.past ?_ (by assumption) | refine sliS_alloc ?_ _))), (by (repeat (first | assumption | exact Blk.made _ _ _ | refine Blk.past ?_ (by assumption) | refine Blk.alloc ?_ _))), (by (repeat (first | assumption | exact Blk.made _ _ _ | refine Blk.past ?_ (by assumption) | refine Blk.alloc ?_ _))), by (repeat (first | exact Below.refl _ _ | assumption | refine balloc ?_ _ | refine below_drewN ?_ _ | refine bstep (by assumption) ?_ | refine bstep (Past.prop _) ?_ | refine Below.setCell ?_ (by first | exact Nat.le_refl _ | (simp; done) | (simp; omega)) _))⟩
      · skip
        have e0 : decide ((30 : Int) < (n : Int)) = false := decide_eq_false (by omega)
        have e1 : decide (60 < y) = false := decide_eq_false (by omega)
        have e2 : decide (-562949953421312 ≤ x) = false := decide_eq_false (by omega)
        go_wp2_with fail
        go_meet
        case rel => exact ⟨_, rfl, fun _ => (by omega), (by (repeat (first | assumption | exact sliS_nil _ | (refine sliS_new (Blk.made _ _ _) rfl rfl (by decide); done) | refine SliS.past ?_ (by assumption) | refine sliS_alloc ?_ _))), (by (repeat (first | assumption | exact Blk.made _ _ _ | refine Blk.past ?_ (by assumption) | refine Blk.alloc ?_ _))), (by (repeat (first | assumption | exact Blk.made _ _ _ | refine Blk.past ?_ (by assumption) | refine Blk.alloc ?_ _))), by (repeat (first | exact Below.refl _ _ | assumption | refine balloc ?_ _ | refine below_drewN ?_ _ | refine bstep (by assumption) ?_ | refine bstep (Past.prop _) ?_ | refine Below.setCell ?_ (by first | exact Nat.le_refl _ | (simp; done) | (simp; omega)) _))⟩
  obtain ⟨b, rfl, hs, S1, B1, B2, hb⟩ := hcut
  clear b0 b1 bz hb0
  cases b
  · have hn30 := hs rfl
    clear hs
    have b0 := B1.cell 0; have b1 := B1.cell 1; have bz := B1.lt; have d0 := B2.cell 0; have d1 := B2.cell 1; have dz := B2.lt
    simp at b0 b1 d0 d1
    go_upto_region 4 with (go_at_call 25; ((with_reducible refine (over_s (F := F) (by (repeat (first | assumption | exact sliS_nil _ | (refine sliS_new (Blk.made _ _ _) rfl rfl (by decide); done) | refine SliS.past ?_ (by assumption) | refine sliS_alloc ?_ _))) (by omega) HR.out).mono ?_); rintro e wo ⟨rfl, hbo⟩))
    have B1' := B1.past hbo; have B2' := B2.past hbo
    clear b0 b1 bz d0 d1 dz
    have b0 := B1'.cell 0; have b1 := B1'.cell 1; have bz := B1'.lt; have d0 := B2'.cell 0; have d1 := B2'.cell 1; have dz := B2'.lt
    simp at b0 b1 d0 d1
    go_wp2_with (first | (go_at_call 26; ((with_reducible refine (rover_s (F := F) (by (repeat (first | assumption | exact sliS_nil _ | (refine sliS_new (Blk.made _ _ _) rfl rfl (by decide); done) | refine SliS.past ?_ (by assumption) | refine sliS_alloc ?_ _))) (by omega) HR.out).mono ?_); rintro e wp ⟨rfl, hbp⟩)) | (go_at_call 9; ((with_reducible refine (shead_c _).mono ?_); rintro e w9 ⟨rfl, hb9⟩)))
    go_ret
    exact ⟨by simp, by (repeat (first | exact Below.refl _ _ | assumption | refine balloc ?_ _ | refine below_drewN ?_ _ | refine bstep (by assumption) ?_ | refine bstep (Past.prop _) ?_ | refine Below.setCell ?_ (by first | exact Nat.le_refl _ | (simp; done) | (simp; omega)) _))⟩
  · clear hs
    go_wp2_with (go_at_call 9; ((with_reducible refine (shead_c _).mono ?_); rintro e w9 ⟨rfl, hb9⟩))
    go_ret
    exact ⟨rfl, by (repeat (first | exact Below.refl _ _ | assumption | refine balloc ?_ _ | refine below_drewN ?_ _ | refine bstep (by assumption) ?_ | refine bstep (Past.prop _) ?_ | refine Below.setCell ?_ (by first | exact Nat.le_refl _ | (simp; done) | (simp; omega)) _))⟩
end Go.Proofs.Ythgenmejjflceaa

namespace Go.Proofs.Ythgenmejjflceaa
open Go.ChangeShapes Go.WideShapes Go.ChangeAt Go.RowKit

set_option maxRecDepth 100000 in
theorem spanOver_lifted (os : Os) (started : os.Started) (H : Type) (enc : TypeId × Value → H) :
    ReturnsInHanded {} Try.checked os 6 .any (Rows.spanOverSpec.pre6 enc Try.prog Try.f6 Rows.spanOverRow.domain false) (Rows.spanOverSpec.post enc Try.prog Try.f6 false true false false) := by
  refine returnsInHanded_of_change (C := Try.checked) own started (by kernel_rfl) Try.func6
    (ChangeSpec.witness6 (enc := enc) (C := Try.checked) false ⟨#[], #[.slice none 0 0, .agg #[.int .i64 0, .int .i64 0], .agg #[.int .i64 0, .int .i64 0]], []⟩ 8 (by kernel_rfl) (by kernel_rfl) (by kernel_rfl) (by kernel_rfl)) ?_
  intro W base args ds gs before hval0 hW _ _
  have hval : ∀ (j : Nat) t v, Try.f6.params[j]? = some t → args[j]? = some v → Value.okWide Try.prog W .any base t v := hval0
  have hW' := hW
  obtain ⟨p, q, hA0, hV, rfl, hfz, hnd⟩ := hW
  have hA : DataW.TrodAll enc Try.prog W 0 (fun _ => true) true Try.f6.params.toList args.toList ds p := hA0
  rw [Try.params6] at hA hval
  obtain ⟨v0, vs0, d0, ds0, p0, q0, hargs, rfl, rfl, h0, r0⟩ := trodAll_cons hA
  obtain ⟨v1, vs1, d1, ds1, p1, q1, rfl, rfl, rfl, h1, r1⟩ := trodAll_cons r0
  obtain ⟨v2, vs2, d2, ds2, p2, q2, rfl, rfl, rfl, h2, r2⟩ := trodAll_cons r1
  obtain ⟨rfl, rfl, rfl⟩ := trodAll_nil r2
  obtain rfl : args = #[v0, v1, v2] := by cases args; simp_all
  obtain ⟨l0, o0, c0, rfl, hl0, hA0', hS0⟩ := open_slisP (hval 0 22 v0 rfl rfl) h0
  obtain ⟨a1, b1, rfl⟩ := open_arr2 Try.underlying32 Try.underlying2 cellsI64 (by kernel_rfl) (hval 1 32 v1 rfl rfl) h1
  obtain ⟨a2, b2, rfl, ha2, hb2⟩ := open_vec Try.underlying26 rfl rfl Try.underlying2 (by kernel_rfl) cellsV (hval 2 26 v2 rfl rfl) h2
  clear hA0 hval0
  refine (sover_c l0 l0.length a1 b1 a2 b2 o0 c0 W hA0' (by have := hA0'.len; omega)).mono fun e W' ⟨he, hb⟩ => ?_
  subst he
  exact ⟨_, rfl, law_post laidOut (readOk_spec (by kernel_rfl)) rfl Try.underlying4 rfl ⟨rfl, rfl, rfl⟩ hW' hb⟩

theorem spanOver_holds : Rows.SpanOverSaid :=
  OpenClaim.holds_of_wide 6 Try.f6 rfl rfl rfl rfl rfl rfl rfl ⟨rfl, rfl, rfl, rfl, rfl⟩ rfl rfl rfl rfl rfl (by kernel_rfl) Try.func6 (by kernel_rfl)
    (of_decide_eq_true (by kernel_rfl)) (by unfold Func.isWrapper; first | (rw [if_pos (by decide +kernel)]; kernel_rfl) | (rw [if_neg (by decide +kernel)]; exact ⟨rfl, rfl⟩))
    (fun os started H enc _ => spanOver_lifted os started H enc)
end Go.Proofs.Ythgenmejjflceaa
