/- slices.swapRangeCmpFunc over a row of integers of the call's own. No conditions but the row's size. -/
import Derived.Test.YtibmldgbimjgfaaRows
import Derived.Test.YtibmldgbimjgfaaRowW
import Derived.LoopTactic
import Derived.BigRegion
import Derived.Outline
namespace Go.Proofs.Ytibmldgbimjgfaa
open Go.ChangeShapes Go.WideShapes Go.ChangeAt Go.RowKit
attribute [local irreducible] Go.Calls

set_option maxHeartbeats 1000000 in
theorem swapRange_c (w0 w : World) (blk n cap a b m : Nat) (t : TypeId) (d : Nat → Nat) (fv : Value) (h : RowW w0 blk n t d w) (hab : a + m ≤ b) (hb : b + m ≤ n) (hn : n ≤ 4611686018427387904) :
    Calls Try.prog 46 #[.slice (some ⟨blk, 0, none⟩) n cap, .int .i64 a, .int .i64 b, .int .i64 m, fv] w fun e w' => e = .returned (.tuple #[]) ∧ RowW w0 blk n t (swr d a b m) w' := by
  have H := hidE h; clear h
  go_enter Try.func46, Try.ntmps46
  go_wp2
  go_loopw [10] (fun i wr => ∃ k : Nat, k ≤ m ∧ i = .int .i64 k ∧ RowW w0 blk n t (swr d a b k) wr) (fun i _ => m - (intOf i).toNat)
  case atStart => exact ⟨0, Nat.zero_le _, rfl, H.out.ext (swr_zero _ _ _).symm⟩
  case round =>
    obtain ⟨k, hk, rfl, hr⟩ := hrel
    by_cases hlt : k < m
    · have c1 := hr.cell (i := a + k) (by omega)
      have c2 := hr.cell (i := b + k) (by omega)
      have c3 := hr.c2 (a + k) (b + k) (by omega) (swr d a b k (b + k))
      have f1 := hr.free (a + k)
      have f2 := hr.free (b + k)
      have hS := hidE ((hr.swap (a + k) (b + k)).drew.ext (swr_step d a b k (by omega)))
      rw [if_neg (by omega)] at c3
      clear hr
      generalize swr d a b k (b + k) = y at *
      generalize swr d a b k (a + k) = x at *
      go_wp2
      go_region
      go_wp2
      go_roundw
      case rel => exact ⟨k + 1, by omega, by go_num, hS.out⟩
      case measure => simp [intOf]; omega
    · go_wp2
      have : k = m := by omega
      subst this
      go_end0
      exact ⟨rfl, hr⟩
end Go.Proofs.Ytibmldgbimjgfaa
