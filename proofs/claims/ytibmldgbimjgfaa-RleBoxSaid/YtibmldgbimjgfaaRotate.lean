/- slices.rotateCmpFunc over a row of integers of the call's own. No conditions but the row's size. -/
import Derived.Test.YtibmldgbimjgfaaSwr
namespace Go.Proofs.Ytibmldgbimjgfaa
open Go.ChangeShapes Go.WideShapes Go.ChangeAt Go.RowKit
attribute [local irreducible] Go.Calls

theorem swapRange_eq {w0 w : World} {blk n cap a b m : Nat} {x y z : Int} {t : TypeId} {d d' : Nat → Nat} {fv : Value} (h : RowW w0 blk n t d w) (hx : x = a) (hy : y = b) (hz : z = m) (hab : a + m ≤ b) (hb : b + m ≤ n) (hn : n ≤ 4611686018427387904) (hd : swr d a b m = d') :
    Calls Try.prog 46 #[.slice (some ⟨blk, 0, none⟩) n cap, .int .i64 x, .int .i64 y, .int .i64 z, fv] w fun e w' => e = .returned (.tuple #[]) ∧ RowW w0 blk n t d' w' := by
  subst hx; subst hy; subst hz; subst hd
  exact swapRange_c w0 w blk n cap a b m t d fv h hab hb hn

set_option maxHeartbeats 1000000 in
theorem rotate_c (w0 w : World) (blk n cap a m b : Nat) (t : TypeId) (d : Nat → Nat) (fv : Value) (h : RowW w0 blk n t d w) (ham : a < m) (hmb : m < b) (hb : b ≤ n) (hn : n ≤ 4611686018427387904) :
    Calls Try.prog 45 #[.slice (some ⟨blk, 0, none⟩) n cap, .int .i64 a, .int .i64 m, .int .i64 b, fv] w fun e w' => e = .returned (.tuple #[]) ∧ RowW w0 blk n t (rot d a m b) w' := by
  have H := hidE h; clear h
  go_enter Try.func45, Try.ntmps45
  go_wp2
  go_loopw [10, 11] (fun vi vj wr => ∃ (i j : Nat) (dk : Nat → Nat), vi = .int .i64 i ∧ vj = .int .i64 j ∧ 0 < i ∧ i ≤ m ∧ 0 < j ∧ m + j ≤ n ∧ rot dk (m - i) m (m + j) = rot d a m b ∧ RowW w0 blk n t dk wr) (fun vi vj _ => (intOf vi).toNat + (intOf vj).toNat)
  case atStart => exact ⟨m - a, b - m, d, by go_num, by go_num, by omega, by omega, by omega, by omega, by rw [show m - (m - a) = a by omega, show m + (b - m) = b by omega], H.out⟩
  case round =>
    obtain ⟨i, j, dk, rfl, rfl, hi0, him, hj0, hjn, hrot, hr⟩ := hrel
    have HR := hidE hrot; have HW := hidE hr
    clear hrot hr
    rcases Nat.lt_trichotomy i j with c | c | c
    · have e1 : ((i : Int) == (j : Int)) = false := beq_eq_false_iff_ne.2 (by omega)
      have e2 : ((i : Int) != (j : Int)) = true := bne_iff_ne.2 (by omega)
      have e3 : ¬ (j : Int) < (i : Int) := by omega
      go_wp2_with (go_at_call 46; ((with_reducible refine (swapRange_eq (a := m - i) (b := m + j - i) (m := i) HW.out (by omega) (by omega) rfl (by omega) (by omega) hn rfl).mono ?_); rintro e w' ⟨rfl, hr2⟩))
      go_roundw
      case rel => exact ⟨i, j - i, _, rfl, by go_num, hi0, him, by omega, by omega, (rot_lt dk m i j him c).trans HR.out, hr2⟩
      case measure => simp [intOf]; omega
    · subst c
      go_wp2_with (go_at_call 46; ((with_reducible refine (swapRange_eq (a := m - i) (b := m) (m := i) HW.out (by omega) rfl rfl (by omega) (by omega) hn rfl).mono ?_); rintro e w' ⟨rfl, hr2⟩))
      go_end0
      exact ⟨rfl, hr2.ext ((rot_eq dk m i him).trans HR.out)⟩
    · have e1 : ((i : Int) == (j : Int)) = false := beq_eq_false_iff_ne.2 (by omega)
      have e2 : ((i : Int) != (j : Int)) = true := bne_iff_ne.2 (by omega)
      have e3 : (j : Int) < (i : Int) := by omega
      go_wp2_with (go_at_call 46; ((with_reducible refine (swapRange_eq (a := m - i) (b := m) (m := j) HW.out (by omega) rfl rfl (by omega) (by omega) hn rfl).mono ?_); rintro e w' ⟨rfl, hr2⟩))
      go_roundw
      case rel => exact ⟨i - j, j, _, by go_num, rfl, by omega, by omega, hj0, hjn, (rot_gt dk m i j him c).trans HR.out, hr2⟩
      case measure => simp [intOf]; omega
end Go.Proofs.Ytibmldgbimjgfaa
