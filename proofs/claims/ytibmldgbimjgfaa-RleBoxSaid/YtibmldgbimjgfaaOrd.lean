/- The contract of rle.inOrder: the places of the runs in the order of their times. No conditions but the list's size. -/
import Derived.Test.YtibmldgbimjgfaaStab
import Derived.Test.YtibmldgbimjgfaaRle3
import Derived.Laws.MakeOwn
import Derived.Laws.OwnMore
namespace Go.Proofs.Ytibmldgbimjgfaa
open Go.ChangeShapes Go.WideShapes Go.ChangeAt Go.RowKit
attribute [local irreducible] Go.Calls

theorem Try.infoInt : (Try.prog.info? 3).map (fun i => (i.zero, i.size, i.bytes)) = some (some (.int .i64 0), 1, 8) := by kernel_rfl

theorem madeInts (n : Nat) : madeCells #[.int .i64 0] (n * 1) = rowC n (fun _ => 0) := by
  apply Array.ext'
  rw [Nat.mul_one, toList_madeCells_one]
  apply List.ext_getElem
  · simp [rowC]
  · intro i h1 h2
    simp [rowC]

theorem make_ints (n : Nat) (hn : n ≤ 1099511627776) : ∀ w, (Instr.makeSlice 45 (.int .i64 (n : Int)) (.int .i64 (n : Int))).run Try.prog w = .ok (.slice (some ⟨w.heap.size, 0, none⟩) n n) (w.alloc (.cells (rowC n (fun _ => 0)) 3)) := by
  intro w
  obtain ⟨i0, hi, hz0, hz1, hz2⟩ := info_parts Try.infoInt
  have h := run_make (P := Try.prog) w 45 3 i0 (.int .i64 0) Try.underlying45 hi hz0 .i64 .i64 n n (by omega) (by omega) (by rw [hz2]; omega) (by omega)
  rw [h]
  simp only [Int.toNat_natCast, hz1, Value.cells]
  rw [madeInts]

/-- The first k places hold their own numbers. -/
def upI (k : Nat) : Nat → Nat := fun j => if j < k then j else 0
theorem upI_step (k : Nat) : (fun j => if j = k then k else upI k j) = upI (k + 1) := by
  funext j
  unfold upI
  by_cases c : j = k
  · subst c; rw [if_pos rfl, if_pos (by omega)]
  · rw [if_neg c]
    by_cases c2 : j < k
    · rw [if_pos c2, if_pos (by omega)]
    · rw [if_neg c2, if_neg (by omega)]

theorem cmps_runs {l : List Sg} {a : Option Addr} {cap : Nat} {w : World} (hl : l.length ≤ 9223372036854775807) (hA : ArgS w a l) : Cmps w w.heap.size l.length (.slice a l.length cap) (ats l) := by
  intro w1 hb x y hx hy
  obtain ⟨b, off, rfl, h1, h2⟩ := hA.past hb (by omega)
  exact cmpRuns_c l b off cap x y w1 h1 hl h2 hx hy

def OrdPost (w : World) (l : List Sg) (e : Ending) (w' : World) : Prop :=
  ∃ p d, e = .returned (.slice (some ⟨p, 0, none⟩) l.length l.length) ∧ w.heap.size ≤ p ∧ Blk w' p (rowC l.length d) 3 ∧ Below w.heap.size w w' ∧ Mv 0 l.length id d ∧ Srt (ats l) 0 l.length d

set_option maxHeartbeats 1000000 in
theorem inOrder_c (l : List Sg) (a : Option Addr) (cap : Nat) (w : World) (hl : l.length ≤ 1099511627776) (hA : ArgS w a l) :
    Calls Try.prog 18 #[.slice a l.length cap] w (OrdPost w l) := by
  have HC := hidE (cmps_runs (cap := cap) (by omega) hA)
  obtain ⟨n, hn⟩ : ∃ n, n = l.length := ⟨_, rfl⟩
  have HN := hidE hn
  rw [← hn] at hl HC ⊢
  have hmk := make_ints n hl
  clear hA
  have HMK := hidE hmk; clear hmk hn
  go_enter Try.func18, Try.ntmps18
  go_upto_region 1 with fail
  have hmk := HMK.out w
  go_wp2_with fail
  clear hmk
  go_loopw [10, 4] (fun i _ wr => ∃ k : Nat, k ≤ n ∧ i = .int .i64 k ∧ RowW w w.heap.size n 3 (upI k) wr) (fun i _ _ => n - (intOf i).toNat)
  case atStart => exact ⟨0, Nat.zero_le _, rfl, ⟨Blk.made _ _ _, by (repeat (first | exact Below.refl _ _ | assumption | refine balloc ?_ _ | refine below_drewN ?_ _ | refine bstep (by assumption) ?_ | refine bstep (Past.prop _) ?_ | refine Below.setCell ?_ (by first | exact Nat.le_refl _ | (simp; done) | (simp; omega)) _))⟩⟩
  case round =>
    obtain ⟨k, hk, rfl, hr⟩ := hrel
    by_cases hlt : k < n
    · have c1 := hr.cell (i := k) hlt
      have f1 := hr.free k
      have HR := hidE ((hr.set k k).ext (upI_step k)); clear hr
      go_wp2
      go_roundw
      case rel => exact ⟨k + 1, by omega, by go_num, HR.out⟩
      case measure => simp [intOf]; omega
    · have hk' : k = n := by omega
      subst hk'
      have hrow : RowW w w.heap.size k 3 id wr := ⟨by
        have e := rowC_ext (n := k) (d := upI k) (d' := id) (fun i hi => by unfold upI; rw [if_pos hi]; rfl)
        rw [← e]; exact hr.here, hr.low⟩
      have HR := hidE hrow; clear hr hrow
      have HI := hidE (show Inv (ats l) k id from fun i j h1 h2 => .inr h1)
      have HO := hidE (show Okd k id from fun i hi => hi)
      go_wp2_with (go_at_call 27; ((with_reducible refine (sortStable_c w _ w.heap.size k k 3 (ats l) (.slice a k cap) id HR.out HC.out HI.out HO.out (by omega)).mono ?_); rintro e w1 ⟨rfl, d1, hr1, hm1, hi1, hs1⟩))
      go_ret
      have e := HN.out
      subst e
      exact ⟨_, d1, rfl, Nat.le_refl _, hr1.here, hr1.low, hm1, hs1⟩
end Go.Proofs.Ytibmldgbimjgfaa
