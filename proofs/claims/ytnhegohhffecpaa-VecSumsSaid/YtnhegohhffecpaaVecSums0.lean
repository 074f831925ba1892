/- VecSums for an empty slice, and the statement. No conditions. -/
import Derived.Test.YtnhegohhffecpaaVecSums
import Derived.Test.YtnhegohhffecpaaRow
import Derived.Deep.SlicePairs
namespace Go.Proofs.Ytnhegohhffecpaa
open Go.ChangeShapes Go.WideShapes Go.ChangeAt Go.RowKit
attribute [local irreducible] Go.Calls

theorem add_zero (a : Option Addr) (cap : Nat) (w : World) : Calls Try.prog 22 #[.slice a 0 cap] w fun e w' => e = .returned (VE (0, 0, 0)) ∧ Below w.heap.size w w' := by
  go_enter Try.func22, Try.ntmps22
  go_wp2
  refine wp_loop_rounds 1 ?_
  rw [rounds_succ]
  go_wp2
  refine bodyPost_ret (v := VE (0, 0, 0)) (by simp [results, Try.results22, go_sem, *]) rfl ⟨rfl, ?_⟩
  (repeat (first | exact Below.refl _ _ | assumption | refine balloc ?_ _ | refine below_drewN ?_ _ | refine bstep (by assumption) ?_ | refine bstep (Past.prop _) ?_ | refine Below.setCell ?_ (by first | exact Nat.le_refl _ | (simp; done) | (simp; omega)) _))
theorem sum_zero (a : Option Addr) (cap : Nat) (w : World) : Calls Try.prog 23 #[.slice a 0 cap] w fun e w' => e = .returned (VE (0, 0, 0)) ∧ Below w.heap.size w w' := by
  go_enter Try.func23, Try.ntmps23
  go_wp2
  refine wp_loop_rounds 1 ?_
  rw [rounds_succ]
  go_wp2
  refine bodyPost_ret (v := VE (0, 0, 0)) (by simp [results, Try.results23, go_sem, *]) rfl ⟨rfl, ?_⟩
  (repeat (first | exact Below.refl _ _ | assumption | refine balloc ?_ _ | refine below_drewN ?_ _ | refine bstep (by assumption) ?_ | refine bstep (Past.prop _) ?_ | refine Below.setCell ?_ (by first | exact Nat.le_refl _ | (simp; done) | (simp; omega)) _))

set_option maxRecDepth 100000 in
set_option maxHeartbeats 2000000 in
theorem sums_zero (a : Option Addr) (cap : Nat) (w : World) : Calls Try.prog 4 #[.slice a 0 cap] w fun e w' => e = .returned (.bool true) ∧ Below w.heap.size w w' := by
  go_enter Try.func4, Try.ntmps4
  go_upto_region 3 with fail
  go_cut [3, 4] (fun s3 s4 wx => ∃ p : Nat, s3 = .pointer (some ⟨p, 0, none⟩) ∧ s4 = .int .i64 0 ∧ Blk wx p #[.int .i64 0, .int .i64 0] 23 ∧ Below w.heap.size w wx)
  case first =>
    go_wp2_with (go_at_call 22; ((with_reducible refine (add_zero _ _ _).mono ?_); rintro e w' ⟨rfl, hb⟩; obtain ⟨hc, hf⟩ := bcell hb))
    go_meet
    case rel => exact ⟨_, rfl, rfl, Blk.made _ _ _, by (repeat (first | exact Below.refl _ _ | assumption | refine balloc ?_ _ | refine below_drewN ?_ _ | refine bstep (by assumption) ?_ | refine bstep (Past.prop _) ?_ | refine Below.setCell ?_ (by first | exact Nat.le_refl _ | (simp; done) | (simp; omega)) _))⟩
  obtain ⟨p3, rfl, rfl, B3, hb⟩ := hcut
  go_upto_region 4 with fail
  go_cut [5, 6] (fun s5 s6 wx => ∃ p : Nat, s5 = .pointer (some ⟨p, 0, none⟩) ∧ s6 = .int .i64 0 ∧ Blk wx p #[.int .i64 0, .int .i64 0] 23 ∧ Blk wx p3 #[.int .i64 0, .int .i64 0] 23 ∧ Below w.heap.size w wx)
  case first =>
    go_wp2_with (go_at_call 23; ((with_reducible refine (sum_zero _ _ _).mono ?_); rintro e w' ⟨rfl, hb⟩; obtain ⟨hc, hf⟩ := bcell hb))
    go_meet
    case rel => exact ⟨_, rfl, rfl, Blk.made _ _ _, by (repeat (first | assumption | refine Blk.past ?_ (by assumption) | refine Blk.past ?_ (Past.prop _) | refine Blk.alloc ?_ _ | refine Blk.other ?_ (by omega) _ | refine Blk.drew ?_ _)), by (repeat (first | exact Below.refl _ _ | assumption | refine balloc ?_ _ | refine below_drewN ?_ _ | refine bstep (by assumption) ?_ | refine bstep (Past.prop _) ?_ | refine Below.setCell ?_ (by first | exact Nat.le_refl _ | (simp; done) | (simp; omega)) _))⟩
  obtain ⟨p5, rfl, rfl, B5, B3, hb⟩ := hcut
  have C3 := B3.cell 0; have C3' := B3.cell 1; have C5 := B5.cell 0; have C5' := B5.cell 1
  simp at C3 C3' C5 C5'
  go_wp2_with (go_at_call 21; ((with_reducible refine (head_c _).mono ?_); rintro e w' ⟨rfl, hb9⟩))
  go_ret
  refine ⟨rfl, ?_⟩
  (repeat (first | exact Below.refl _ _ | assumption | refine balloc ?_ _ | refine below_drewN ?_ _ | refine bstep (by assumption) ?_ | refine bstep (Past.prop _) ?_ | refine Below.setCell ?_ (by first | exact Nat.le_refl _ | (simp; done) | (simp; omega)) _))

end Go.Proofs.Ytnhegohhffecpaa
