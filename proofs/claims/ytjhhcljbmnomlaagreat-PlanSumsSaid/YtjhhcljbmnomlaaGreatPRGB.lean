/- The contracts of the operations that calc combines by: plus, vec.Sub, and vec.Min and vec.Max behind always. No conditions. A row of integers of a call's own, and what its exchanges come to. No conditions. slices.swapRangeCmpFunc over a row of integers of the call's own. No conditions but the row's size. slices.rotateCmpFunc over a row of integers of the call's own. No conditions but the row's size. The comparison of two runs by their times, handed on with the runs bound to it. No conditions but that the runs' cells read as integers. slices.insertionSortCmpFunc over a row of indices of the call's own, by the comparison of the runs' times. No conditions but the row's size. slices.symMergeCmpFunc where the first row is one element. No conditions but the row's size. slices.symMergeCmpFunc where the second row is one element. No conditions but the row's size. slices.symMergeCmpFunc, its general case, and the whole. No conditions but the row's size. slices.SortStableFunc over a row of indices of the call's own, by the comparison of the runs' times. No conditions but the row's size. The statements' own runs. No conditions. The contracts of rle's small functions. No conditions but that the lists' cells read as integers. The contract of rle.inOrder: the places of the runs in the order of their times. No conditions but the list's size. The contract of rle.Same. No conditions but that the lists' cells read as integers. The contract of rle.Of: the canonical function of raw runs, or an error. No conditions but the list's size. -/
import Derived.Test.YtjhhcljbmnomlaaGreatPRGA
import Derived.Test.YtjhhcljbmnomlaaGreatPRMA
import Derived.Test.YtjhhcljbmnomlaaGreatRows
import Derived.LoopTactic
import Derived.BigRegion
import Derived.Outline
import Derived.Deep.LoopGhost
import Derived.Deep.DeepCutAuto
import Derived.WalkMore
import Derived.ScopeJumps
import Derived.Laws.MakeOwn
import Derived.Laws.OwnMore
import Derived.Laws.AppendOwn
namespace Go.Proofs.YtjhhcljbmnomlaaGreat
open Go.ChangeShapes Go.WideShapes Go.ChangeAt Go.RowKit
attribute [local irreducible] Go.Calls

theorem addL_two (a b c d : Int) : addL [(a, b), (c, d)] = addS a b c d := by
  unfold addL addFrom addFrom addFrom
  simp only
  cases h1 : okV a b
  · have e1 : addS 0 0 a b = (0, 0, 10) := by unfold addS; rw [h1]; simp [gate]
    have e2 : addS a b c d = (0, 0, 10) := by unfold addS; rw [h1]; simp [gate]
    rw [e1, e2]; simp
  · have e0 : okV 0 0 = true := by decide
    have e1 : addS 0 0 a b = (a, b, 0) := by unfold addS; rw [h1, e0]; simp [gate, h1]
    rw [e1]
    simp only [if_true]
    by_cases h : (addS a b c d).2.2 = 0
    · rw [if_pos h]; exact Prod.ext rfl (Prod.ext rfl h.symm)
    · rw [if_neg h]
      unfold addS gate at h ⊢
      split
      · rename_i hh; rw [if_pos hh] at h; exact absurd rfl h
      · rfl

theorem plus_c (a b c d : Int) (w : World) : Calls Tryz.prog 141 #[V a b, V c d] w fun e w' => e = .returned (VE (opV 0 (a, b) (c, d))) ∧ Below w.heap.size w w' := by
  rw [opV_0, ← addL_two]
  generalize hg : addL [(a, b), (c, d)] = g
  have Hg := hidE hg; clear hg
  have HK := hidE (fun w b' hb hc => show Calls Tryz.prog 183 #[.slice (some ⟨b', 0, none⟩) 2 2] w _ from add_some [(a, b), (c, d)] b' 0 2 w hb (by simp) hc)
  go_enter Tryz.func141, Tryz.ntmps141
  go_wp2_with fail
  have B3 : Blk ((((w.alloc (Obj.cells #[Value.int IntKind.i64 a, Value.int IntKind.i64 b] 65)).alloc (Obj.cells #[Value.int IntKind.i64 c, Value.int IntKind.i64 d] 65)).alloc (Obj.cells #[Value.int IntKind.i64 0, Value.int IntKind.i64 0] 65)).alloc (Obj.cells #[Value.int IntKind.i64 a, Value.int IntKind.i64 b, Value.int IntKind.i64 c, Value.int IntKind.i64 d] 65)) (w.heap.size + 1 + 1 + 1) #[.int .i64 a, .int .i64 b, .int .i64 c, .int .i64 d] 65 := Blk.made_at _ _ _ _ (by simp)
  have B2 : Blk ((((w.alloc (Obj.cells #[Value.int IntKind.i64 a, Value.int IntKind.i64 b] 65)).alloc (Obj.cells #[Value.int IntKind.i64 c, Value.int IntKind.i64 d] 65)).alloc (Obj.cells #[Value.int IntKind.i64 0, Value.int IntKind.i64 0] 65)).alloc (Obj.cells #[Value.int IntKind.i64 a, Value.int IntKind.i64 b, Value.int IntKind.i64 c, Value.int IntKind.i64 d] 65)) (w.heap.size + 1 + 1) #[.int .i64 0, .int .i64 0] 65 := (Blk.made_at _ _ _ _ (by simp)).alloc _
  have hcv : CellsV ((((w.alloc (Obj.cells #[Value.int IntKind.i64 a, Value.int IntKind.i64 b] 65)).alloc (Obj.cells #[Value.int IntKind.i64 c, Value.int IntKind.i64 d] 65)).alloc (Obj.cells #[Value.int IntKind.i64 0, Value.int IntKind.i64 0] 65)).alloc (Obj.cells #[Value.int IntKind.i64 a, Value.int IntKind.i64 b, Value.int IntKind.i64 c, Value.int IntKind.i64 d] 65)) (w.heap.size + 1 + 1 + 1) 0 [(a, b), (c, d)] := by
    intro i hi
    simp only [List.length_cons, List.length_nil] at hi
    match i, hi with
    | 0, _ => exact ⟨B3.cell 0, B3.cell 1⟩
    | 1, _ => exact ⟨B3.cell 2, B3.cell 3⟩
  ((with_reducible refine (HK.out _ _ B3.lt hcv).mono ?_); rintro e w1 ⟨rfl, hb⟩)
  rw [Hg.out]
  have B2' := B2.past hb
  have hB : Below w.heap.size w w1 := by (repeat (first | exact Below.refl _ _ | assumption | refine balloc ?_ _ | refine below_drewN ?_ _ | refine bstep (by assumption) ?_ | refine bstep (Past.prop _) ?_ | refine Below.setCell ?_ (by first | exact Nat.le_refl _ | (simp; done) | (simp; omega)) _))
  have p0 := B2'.cell 0; have p1 := B2'.cell 1; have pf := B2'.free; have pz := B2'.lt
  simp at p0 p1
  clear hb B3 B2
  go_wp2
  refine bodyPost_ret (v := VE g) (by simp [results, Tryz.results141, go_sem, *]) rfl ⟨rfl, ?_⟩
  (repeat (first | exact Below.refl _ _ | assumption | refine balloc ?_ _ | refine below_drewN ?_ _ | refine bstep (by assumption) ?_ | refine bstep (Past.prop _) ?_ | refine Below.setCell ?_ (by first | exact Nat.le_refl _ | (simp; done) | (simp; omega)) _))

end Go.Proofs.YtjhhcljbmnomlaaGreat

namespace Go.Proofs.YtjhhcljbmnomlaaGreat
open Go.ChangeShapes Go.WideShapes Go.ChangeAt Go.RowKit

/-- The row's cells. -/
def rowC (n : Nat) (d : Nat → Nat) : Array Value := ((List.range n).map fun i => Value.int .i64 (d i)).toArray
theorem rowC_get {n : Nat} {d : Nat → Nat} {i : Nat} (h : i < n) : (rowC n d)[i]? = some (.int .i64 (d i)) := by
  simp [rowC, List.getElem?_range h]
theorem rowC_size (n : Nat) (d : Nat → Nat) : (rowC n d).size = n := by simp [rowC]
theorem rowC_ext {n : Nat} {d d' : Nat → Nat} (h : ∀ i, i < n → d i = d' i) : rowC n d = rowC n d' := by
  unfold rowC
  congr 1
  exact List.map_congr_left fun i hi => by rw [h i (by simpa using hi)]
theorem rowC_set {n : Nat} {d : Nat → Nat} {i : Nat} (v : Nat) : (rowC n d).setIfInBounds i (.int .i64 v) = rowC n (fun k => if k = i then v else d k) := by
  apply Array.ext_getElem?
  intro k
  rw [Array.getElem?_setIfInBounds, rowC_size]
  by_cases c : i = k
  · subst c
    rw [if_pos rfl]
    by_cases h : i < n
    · rw [if_pos h, rowC_get h, if_pos rfl]
    · rw [if_neg h, Array.getElem?_eq_none (by rw [rowC_size]; omega)]
  · rw [if_neg c]
    by_cases h : k < n
    · rw [rowC_get h, rowC_get h, if_neg (by omega)]
    · rw [Array.getElem?_eq_none (by rw [rowC_size]; omega), Array.getElem?_eq_none (by rw [rowC_size]; omega)]
theorem rowC_swap {n : Nat} {d : Nat → Nat} {i j : Nat} : ((rowC n d).setIfInBounds i (.int .i64 (d j))).setIfInBounds j (.int .i64 (d i)) = rowC n (sw d i j) := by
  rw [rowC_set, rowC_set]
  refine rowC_ext fun k _ => ?_
  unfold sw
  by_cases c1 : k = j
  · by_cases c2 : k = i
    · rw [if_pos c1, if_pos c2, ← c1, ← c2]
    · rw [if_pos c1, if_neg c2, if_pos c1]
  · rw [if_neg c1, if_neg c1]

/-- A world of the sort's: the row holds d; what lies below it is as it was. -/
structure RowW (w0 : World) (blk n : Nat) (t : TypeId) (d : Nat → Nat) (w : World) : Prop where
  here : Blk w blk (rowC n d) t
  low : Below blk w0 w
variable {w0 w w' : World} {blk n : Nat} {t : TypeId} {d : Nat → Nat}
theorem RowW.lt (h : RowW w0 blk n t d w) : blk < w.heap.size := h.here.lt
theorem RowW.cell (h : RowW w0 blk n t d w) {i : Nat} (hi : i < n) : w.cell? ⟨blk, i, none⟩ = some (.int .i64 (d i)) := (h.here.cell i).trans (rowC_get hi)
theorem RowW.free (h : RowW w0 blk n t d w) (i : Nat) : w.frozen? ⟨blk, i, none⟩ = false := h.here.free i
theorem RowW.past (h : RowW w0 blk n t d w) (hb : Below w.heap.size w w') : RowW w0 blk n t d w' := ⟨h.here.past hb, h.low.trans (hb.mono (Nat.le_of_lt h.lt))⟩
theorem RowW.set (h : RowW w0 blk n t d w) (i v : Nat) : RowW w0 blk n t (fun k => if k = i then v else d k) (w.setCell ⟨blk, i, none⟩ (.int .i64 v)) :=
  ⟨by rw [← rowC_set]; exact h.here.set i _, h.low.setCell (Nat.le_refl _) _⟩
theorem RowW.swap (h : RowW w0 blk n t d w) (i j : Nat) : RowW w0 blk n t (sw d i j) ((w.setCell ⟨blk, i, none⟩ (.int .i64 (d j))).setCell ⟨blk, j, none⟩ (.int .i64 (d i))) :=
  ⟨by rw [← rowC_swap]; exact (h.here.set i _).set j _, (h.low.setCell (Nat.le_refl _) _).setCell (Nat.le_refl _) _⟩
theorem RowW.drew (h : RowW w0 blk n t d w) : RowW w0 blk n t d w.drew := ⟨h.here.drew 1, h.low.drew⟩
theorem RowW.ext (h : RowW w0 blk n t d w) {d' : Nat → Nat} (e : d = d') : RowW w0 blk n t d' w := e ▸ h
/-- Behind the first store the second place still reads. -/
theorem RowW.c2 (h : RowW w0 blk n t d w) (i j : Nat) (hj : j < n) (v : Nat) : (w.setCell ⟨blk, i, none⟩ (.int .i64 v)).cell? ⟨blk, j, none⟩ = some (.int .i64 ((if j = i then v else d j : Nat))) :=
  (h.set i v).cell hj
end Go.Proofs.YtjhhcljbmnomlaaGreat

namespace Go.Proofs.YtjhhcljbmnomlaaGreat
open Go.ChangeShapes Go.WideShapes Go.ChangeAt Go.RowKit
attribute [local irreducible] Go.Calls

set_option maxHeartbeats 1000000 in
theorem swapRange_c (w0 w : World) (blk n cap a b m : Nat) (t : TypeId) (d : Nat → Nat) (fv : Value) (h : RowW w0 blk n t d w) (hab : a + m ≤ b) (hb : b + m ≤ n) (hn : n ≤ 4611686018427387904) :
    Calls Tryz.prog 258 #[.slice (some ⟨blk, 0, none⟩) n cap, .int .i64 a, .int .i64 b, .int .i64 m, fv] w fun e w' => e = .returned (.tuple #[]) ∧ RowW w0 blk n t (swr d a b m) w' := by
  have H := hidE h; clear h
  go_enter Tryz.func258, Tryz.ntmps258
  go_wp2
  go_loopw [10] (fun i wr => ∃ k : Nat, k ≤ m ∧ i = .int .i64 k ∧ RowW w0 blk n t (swr d a b k) wr) (fun i _ => m - (intOf i).toNat)
  case atStart => exact ⟨0, Nat.zero_le _, rfl, H.out.ext (swr_zero _ _ _).symm⟩
  case round =>
    obtain ⟨k, hk, rfl, hr⟩ := hrel
    by_cases hlt : k < m
    · have c1 := hr.cell (i := a + k) (by omega)
      have c2 := hr.cell (i := b + k) (by omega)
      have c3 := hr.c2 (a + k) (b + k) (by omega) (swr d a b k (b + k))
      have f1 := hr.free (a + k)
      have f2 := hr.free (b + k)
      have hS := hidE ((hr.swap (a + k) (b + k)).drew.ext (swr_step d a b k (by omega)))
      rw [if_neg (by omega)] at c3
      clear hr
      generalize swr d a b k (b + k) = y at *
      generalize swr d a b k (a + k) = x at *
      go_wp2
      go_region
      go_wp2
      go_roundw
      case rel => exact ⟨k + 1, by omega, by go_num, hS.out⟩
      case measure => simp [intOf]; omega
    · go_wp2
      have : k = m := by omega
      subst this
      go_end0
      exact ⟨rfl, hr⟩
end Go.Proofs.YtjhhcljbmnomlaaGreat

namespace Go.Proofs.YtjhhcljbmnomlaaGreat
open Go.ChangeShapes Go.WideShapes Go.ChangeAt Go.RowKit
attribute [local irreducible] Go.Calls

theorem swapRange_eq {w0 w : World} {blk n cap a b m : Nat} {x y z : Int} {t : TypeId} {d d' : Nat → Nat} {fv : Value} (h : RowW w0 blk n t d w) (hx : x = a) (hy : y = b) (hz : z = m) (hab : a + m ≤ b) (hb : b + m ≤ n) (hn : n ≤ 4611686018427387904) (hd : swr d a b m = d') :
    Calls Tryz.prog 258 #[.slice (some ⟨blk, 0, none⟩) n cap, .int .i64 x, .int .i64 y, .int .i64 z, fv] w fun e w' => e = .returned (.tuple #[]) ∧ RowW w0 blk n t d' w' := by
  subst hx; subst hy; subst hz; subst hd
  exact swapRange_c w0 w blk n cap a b m t d fv h hab hb hn

set_option maxHeartbeats 1000000 in
theorem rotate_c (w0 w : World) (blk n cap a m b : Nat) (t : TypeId) (d : Nat → Nat) (fv : Value) (h : RowW w0 blk n t d w) (ham : a < m) (hmb : m < b) (hb : b ≤ n) (hn : n ≤ 4611686018427387904) :
    Calls Tryz.prog 257 #[.slice (some ⟨blk, 0, none⟩) n cap, .int .i64 a, .int .i64 m, .int .i64 b, fv] w fun e w' => e = .returned (.tuple #[]) ∧ RowW w0 blk n t (rot d a m b) w' := by
  have H := hidE h; clear h
  go_enter Tryz.func257, Tryz.ntmps257
  go_wp2
  go_loopw [10, 11] (fun vi vj wr => ∃ (i j : Nat) (dk : Nat → Nat), vi = .int .i64 i ∧ vj = .int .i64 j ∧ 0 < i ∧ i ≤ m ∧ 0 < j ∧ m + j ≤ n ∧ rot dk (m - i) m (m + j) = rot d a m b ∧ RowW w0 blk n t dk wr) (fun vi vj _ => (intOf vi).toNat + (intOf vj).toNat)
  case atStart => exact ⟨m - a, b - m, d, by go_num, by go_num, by omega, by omega, by omega, by omega, by rw [show m - (m - a) = a by omega, show m + (b - m) = b by omega], H.out⟩
  case round =>
    obtain ⟨i, j, dk, rfl, rfl, hi0, him, hj0, hjn, hrot, hr⟩ := hrel
    have HR := hidE hrot; have HW := hidE hr
    clear hrot hr
    rcases Nat.lt_trichotomy i j with c | c | c
    · have e1 : ((i : Int) == (j : Int)) = false := beq_eq_false_iff_ne.2 (by omega)
      have e2 : ((i : Int) != (j : Int)) = true := bne_iff_ne.2 (by omega)
      have e3 : ¬ (j : Int) < (i : Int) := by omega
      go_wp2_with (go_at_call 258; ((with_reducible refine (swapRange_eq (a := m - i) (b := m + j - i) (m := i) HW.out (by omega) (by omega) rfl (by omega) (by omega) hn rfl).mono ?_); rintro e w' ⟨rfl, hr2⟩))
      go_roundw
      case rel => exact ⟨i, j - i, _, rfl, by go_num, hi0, him, by omega, by omega, (rot_lt dk m i j him c).trans HR.out, hr2⟩
      case measure => simp [intOf]; omega
    · subst c
      go_wp2_with (go_at_call 258; ((with_reducible refine (swapRange_eq (a := m - i) (b := m) (m := i) HW.out (by omega) rfl rfl (by omega) (by omega) hn rfl).mono ?_); rintro e w' ⟨rfl, hr2⟩))
      go_end0
      exact ⟨rfl, hr2.ext ((rot_eq dk m i him).trans HR.out)⟩
    · have e1 : ((i : Int) == (j : Int)) = false := beq_eq_false_iff_ne.2 (by omega)
      have e2 : ((i : Int) != (j : Int)) = true := bne_iff_ne.2 (by omega)
      have e3 : (j : Int) < (i : Int) := by omega
      go_wp2_with (go_at_call 258; ((with_reducible refine (swapRange_eq (a := m - i) (b := m) (m := j) HW.out (by omega) rfl rfl (by omega) (by omega) hn rfl).mono ?_); rintro e w' ⟨rfl, hr2⟩))
      go_roundw
      case rel => exact ⟨i - j, j, _, by go_num, rfl, by omega, by omega, hj0, hjn, (rot_gt dk m i j him c).trans HR.out, hr2⟩
      case measure => simp [intOf]; omega
end Go.Proofs.YtjhhcljbmnomlaaGreat

namespace Go.Proofs.YtjhhcljbmnomlaaGreat
open Go.ChangeShapes Go.WideShapes Go.ChangeAt Go.RowKit
attribute [local irreducible] Go.Calls

/-- Less, alike, more: -1, 0, 1. -/
def cmpI (a b : Int) : Int := if a < b then -1 else if b < a then 1 else 0
theorem cmpI_lt {a b : Int} (h : a < b) : cmpI a b = -1 := by unfold cmpI; rw [if_pos h]
theorem cmpI_neg {a b : Int} : decide (cmpI a b < 0) = decide (a < b) := by unfold cmpI; split <;> simp_all; split <;> simp_all

theorem isNaN_c (x : Int) (w : World) : Calls Tryz.prog 256 #[.int .i64 x] w fun e w' => e = .returned (.bool false) ∧ w' = w := by
  go_enter Tryz.func256, Tryz.ntmps256
  go_wp2
  go_ret
  exact ⟨rfl, rfl⟩

theorem compare64 (a b : Int) (w : World) : Calls Tryz.prog 253 #[.int .i64 a, .int .i64 b] w fun e w' => e = .returned (.int .i64 (cmpI a b)) ∧ w' = w := by
  rcases Int.lt_trichotomy a b with c | c | c
  · have hv : cmpI a b = -1 := cmpI_lt c
    have HV := hidE hv; clear hv
    go_enter Tryz.func253, Tryz.ntmps253
    go_wp2_with (go_at_call 256; ((with_reducible refine (isNaN_c _ _).mono ?_); rintro e w' ⟨rfl, rfl⟩))
    go_ret
    exact ⟨ret_int HV.out.symm, rfl⟩
  · have hv : cmpI a b = 0 := by unfold cmpI; rw [if_neg (by omega), if_neg (by omega)]
    have HV := hidE hv; clear hv
    subst c
    go_enter Tryz.func253, Tryz.ntmps253
    go_wp2_with (go_at_call 256; ((with_reducible refine (isNaN_c _ _).mono ?_); rintro e w' ⟨rfl, rfl⟩))
    go_ret
    exact ⟨ret_int HV.out.symm, rfl⟩
  · have hv : cmpI a b = 1 := by unfold cmpI; rw [if_neg (by omega), if_pos (by omega)]
    have HV := hidE hv; clear hv
    have c' : ¬ a < b := by omega
    go_enter Tryz.func253, Tryz.ntmps253
    go_wp2_with (go_at_call 256; ((with_reducible refine (isNaN_c _ _).mono ?_); rintro e w' ⟨rfl, rfl⟩))
    go_ret
    exact ⟨ret_int HV.out.symm, rfl⟩

theorem byAt_c (a m c a' m' c' : Int) (w : World) : Calls Tryz.prog 245 #[S a m c, S a' m' c'] w fun e w' => e = .returned (.int .i64 (cmpI a a')) ∧ Below w.heap.size w w' := by
  go_enter Tryz.func245, Tryz.ntmps245
  go_wp2_with (go_at_call 253; ((with_reducible refine (compare64 _ _ _).mono ?_); rintro e w' ⟨rfl, rfl⟩))
  go_ret
  exact ⟨rfl, by (repeat (first | exact Below.refl _ _ | assumption | refine balloc ?_ _ | refine below_drewN ?_ _ | refine bstep (by assumption) ?_ | refine bstep (Past.prop _) ?_ | refine Below.setCell ?_ (by first | exact Nat.le_refl _ | (simp; done) | (simp; omega)) _))⟩

theorem cmpRuns_c (l : List Sg) (b off cap x y : Nat) (w : World) (hb0 : b < w.heap.size) (_hl : l.length ≤ 9223372036854775807) (hc0 : CellsS w b off l) (hx : x < l.length) (hy : y < l.length) :
    Calls Tryz.prog 239 #[.slice (some ⟨b, off, none⟩) l.length cap, .int .i64 x, .int .i64 y] w fun e w' => e = .returned (.int .i64 (cmpI (ats l x) (ats l y))) ∧ Below w.heap.size w w' := by
  obtain ⟨x0, x1, x2⟩ := hc0.get hx
  obtain ⟨y0, y1, y2⟩ := hc0.get hy
  clear hc0
  generalize ats l x = u0 at *
  generalize vls l x = u at *
  generalize ats l y = v0 at *
  generalize vls l y = v at *
  go_enter Tryz.func239, Tryz.ntmps239
  go_wp2
  refine wp_region_past_lit (by kernel_rfl) (by kernel_rfl) ?_
  have hc := Past.cell (W := w)
  repeat (go_big_quiet_step ((go_at_call 245; exact Past.call _ (byAt_c _ _ _ _ _ _ _))))
  refine wpQuiet_nil ?_
  rintro _ ⟨x', rfl⟩
  go_wp2
  go_ret
  exact ⟨rfl, x'.2⟩
end Go.Proofs.YtjhhcljbmnomlaaGreat

namespace Go.Proofs.YtjhhcljbmnomlaaGreat
open Go.ChangeShapes Go.WideShapes Go.ChangeAt Go.RowKit
attribute [local irreducible] Go.Calls

/-- In whatever world of the sort's the comparison answers by the key, and only makes memory. -/
def Cmps (w0 : World) (blk n : Nat) (recv : Value) (K : Nat → Int) : Prop :=
  ∀ w, Below blk w0 w → ∀ x y : Nat, x < n → y < n → Calls Tryz.prog 239 #[recv, .int .i64 x, .int .i64 y] w fun e w' => e = .returned (.int .i64 (cmpI (K x) (K y))) ∧ Below w.heap.size w w'

/-- A row of numbers below n. -/
def Okd (n : Nat) (d : Nat → Nat) : Prop := ∀ k, k < n → d k < n
theorem Okd.mv {n a b : Nat} {d d' : Nat → Nat} (h : Okd n d) (hm : Mv a b d d') (hb : b ≤ n) : Okd n d' := fun k hk => by
  by_cases c : a ≤ k ∧ k < b
  · obtain ⟨k', h1, h2, e⟩ := hm.inn k c.1 c.2
    rw [e]; exact h _ (by omega)
  · rw [hm.out k (by omega)]; exact h _ hk

/-- The stretch [a, b) has been put in order. -/
def SrtTo (w0 : World) (blk n : Nat) (t : TypeId) (K : Nat → Int) (a b : Nat) (d : Nat → Nat) (e : Ending) (w' : World) : Prop :=
  e = .returned (.tuple #[]) ∧ ∃ d', RowW w0 blk n t d' w' ∧ Mv a b d d' ∧ Inv K n d' ∧ Srt K a b d'

theorem cmp_t {K : Nat → Int} {x y : Nat} (h : K x < K y) : decide (cmpI (K x) (K y) < 0) = true := by rw [cmpI_neg]; exact decide_eq_true h
theorem cmp_f {K : Nat → Int} {x y : Nat} (h : ¬ K x < K y) : decide (cmpI (K x) (K y) < 0) = false := by rw [cmpI_neg]; exact decide_eq_false h

set_option maxHeartbeats 4000000 in
theorem insertion_c (w0 w : World) (blk n cap a b : Nat) (t : TypeId) (K : Nat → Int) (recv : Value) (d : Nat → Nat) (h : RowW w0 blk n t d w) (hC : Cmps w0 blk n recv K) (hI : Inv K n d) (hO : Okd n d) (hab : a ≤ b) (hb : b ≤ n) (hn : n ≤ 4611686018427387904) :
    Calls Tryz.prog 254 #[.slice (some ⟨blk, 0, none⟩) n cap, .int .i64 a, .int .i64 b, .func (.func 239) #[recv] #[]] w (SrtTo w0 blk n t K a b d) := by
  have H := hidE h; have HC := hidE hC; have HI := hidE hI; have HO := hidE hO
  clear h hC hI hO
  go_enter Tryz.func254, Tryz.ntmps254
  go_wp2
  go_loopg [8] (b - a) (fun g1 vi wr => ∃ (i : Nat) (dk : Nat → Nat), vi = .int .i64 i ∧ a < i ∧ b - i ≤ g1 ∧ (i ≤ b ∨ i = a + 1) ∧ RowW w0 blk n t dk wr ∧ Mv a b d dk ∧ Inv K n dk ∧ Srt K a i dk)
  case atStart => exact ⟨a + 1, d, by go_num, by omega, by omega, by omega, H.out, Mv.refl _ _ _, HI.out, srt_one _ _ _ (by omega)⟩
  case round =>
    obtain ⟨i, dk, rfl, hai, hg1, hib, hr, hm, hi, hs⟩ := hrel
    have HR := hidE hr; have HM := hidE hm; have HJ := hidE hi; have HS := hidE hs
    clear hr hm hi hs
    by_cases hlt : i < b
    · have hltz : (i : Int) < (b : Int) := by omega
      obtain ⟨wo, rfl⟩ : ∃ wo : World, wo = wr := ⟨_, rfl⟩
      go_wp2
      go_loopg [9] i (fun g2 vj wr2 => ∃ (j : Nat) (dj : Nat → Nat), vj = .int .i64 j ∧ a ≤ j ∧ j ≤ i ∧ j ≤ g2 ∧ RowW w0 blk n t dj wr2 ∧ Mv a b d dj ∧ Inv K n dj ∧ InsR K a i j dj)
      case atStart => exact ⟨i, dk, rfl, by omega, Nat.le_refl _, Nat.le_refl _, HR.out, HM.out, HJ.out, InsR.start HS.out⟩
      case round =>
        clear HR HM HJ HS
        obtain ⟨j, dj, rfl, haj, hji, hg2, hr, hm, hi, hs⟩ := hrel
        have HR := hidE hr; have HM := hidE hm; have HJ := hidE hi; have HS := hidE hs
        have hok := HO.out.mv hm hb
        clear hr hm hi hs
        by_cases hja : a < j
        · obtain ⟨jp, rfl⟩ : ∃ q, j = q + 1 := ⟨j - 1, by omega⟩
          have hjd : decide ((a : Int) < (jp : Int) + 1) = true := decide_eq_true (by omega)
          have c1 := HR.out.cell (i := jp + 1) (by omega)
          have c2 := HR.out.cell (i := jp) (by omega)
          have z := HR.out.lt
          have k1 := hok (jp + 1) (by omega)
          have k2 := hok jp (by omega)
          have HCM := hidE (fun w hw => HC.out w hw (dj (jp + 1)) (dj jp) k1 k2)
          clear hok
          by_cases hkey : K (dj (jp + 1)) < K (dj jp)
          · have hd := cmp_t hkey
            have HX := hidE (⟨(HJ.out.swap' jp (by omega) hkey), (HM.out.trans (Mv.swap dj (jp + 1) jp (by omega) (by omega))), (HS.out.step (by omega) (by omega) hkey)⟩ : Inv K n (sw dj (jp + 1) jp) ∧ Mv a b d (sw dj (jp + 1) jp) ∧ InsR K a i jp (sw dj (jp + 1) jp))
            clear hkey HM HJ HS
            have HE := hidE (fun (w : World) (h : RowW w0 blk n t dj w) => (h.swap (jp + 1) jp).drew)
            have HF := hidE (fun (w : World) (h : RowW w0 blk n t dj w) => h.c2 (jp + 1) jp (by omega) (dj jp))
            generalize hx : dj (jp + 1) = x at *
            generalize hy : dj jp = y at *
            go_wp2_with fail
            refine wp_region_past_lit (by kernel_rfl) (by kernel_rfl) ?_
            have hc := Past.cell (W := wr)
            repeat (go_big_quiet_step ((go_at_call 239; exact Past.call _ (HCM.out _ (HR.out.low.trans ((Past.prop _).mono (Nat.le_of_lt z)))))))
            refine wpQuiet_nil ?_
            rintro _ ⟨x', rfl⟩
            have hr2 := HR.out.past x'.2
            clear c1 c2 hc
            generalize x'.1 = w2 at hr2 ⊢
            have g1 := hr2.cell (i := jp + 1) (by omega)
            have g2 := hr2.cell (i := jp) (by omega)
            have g3 := HF.out _ hr2
            have f1 := hr2.free (jp + 1)
            have f2 := hr2.free jp
            have hE := HE.out _ hr2
            rw [if_neg (by omega)] at g3
            rw [hx] at g1
            rw [hy] at g2
            have HE2 := hidE hE; have Hx := hidE hx; have Hy := hidE hy
            clear hE hr2 hx hy
            go_wp2_with fail
            go_region
            go_wp2
            go_roundg jp
            case measure => omega
            case rel => exact ⟨jp, _, by go_num, by omega, by omega, Nat.le_refl _, HE2.out, HX.out.2.1, HX.out.1, HX.out.2.2⟩
          · have hd := cmp_f hkey
            have HX := hidE (HS.out.done HJ.out (by omega) haj hji (.inr hkey))
            clear hkey
            generalize hx : dj (jp + 1) = x at *
            generalize hy : dj jp = y at *
            have Hx := hidE hx; have Hy := hidE hy
            clear hx hy
            go_wp2_with fail
            refine wp_region_past_lit (by kernel_rfl) (by kernel_rfl) ?_
            have hc := Past.cell (W := wr)
            repeat (go_big_quiet_step ((go_at_call 239; exact Past.call _ (HCM.out _ (HR.out.low.trans ((Past.prop _).mono (Nat.le_of_lt z)))))))
            refine wpQuiet_nil ?_
            rintro _ ⟨x', rfl⟩
            have hr2 := HR.out.past x'.2
            clear c1 c2 hc
            generalize x'.1 = w2 at hr2 ⊢
            have HR2 := hidE hr2; clear hr2
            go_wp2
            go_roundg (b - (i + 1))
            case measure => omega
            case rel => exact ⟨i + 1, _, by go_num, by omega, by omega, by omega, HR2.out, HM.out, HJ.out, HX.out⟩
        · have hja' : j = a := by omega
          subst hja'
          have HX := hidE (HS.out.done HJ.out (by omega) haj hji (.inl rfl))
          have hd : ¬ (j : Int) < (j : Int) := by omega
          go_wp2_with fail
          refine wp_region_past_lit (by kernel_rfl) (by kernel_rfl) ?_
          repeat (go_big_quiet_step (fail))
          refine wpQuiet_nil ?_
          rintro _ ⟨x', rfl⟩
          have hr2 := HR.out.past x'.2
          generalize x'.1 = w2 at hr2 ⊢
          have HR2 := hidE hr2; clear hr2
          go_wp2
          go_roundg (b - (i + 1))
          case measure => omega
          case rel => exact ⟨i + 1, _, by go_num, by omega, by omega, by omega, HR2.out, HM.out, HJ.out, HX.out⟩
    · go_wp2
      go_end0
      exact ⟨rfl, dk, HR.out, HM.out, HJ.out, HS.out.mono (Nat.le_refl _) (by omega)⟩
end Go.Proofs.YtjhhcljbmnomlaaGreat

namespace Go.Proofs.YtjhhcljbmnomlaaGreat
open Go.ChangeShapes Go.WideShapes Go.ChangeAt Go.RowKit
attribute [local irreducible] Go.Calls

theorem BubU.start' {K : Nat → Int} {n a m b i : Nat} {d : Nat → Nat} (hm1 : a < m) (hm2 : m ≤ a + 1) (hI : Inv K n d) (hbn : b ≤ n) (h : Srt K m b d) (hi : i ≤ b) (h1 : ∀ y, m ≤ y → y < i → K (d y) < K (d a)) (h2 : ∀ y, i ≤ y → y < b → ¬ K (d y) < K (d a)) : BubU K a b a i d := by
  have e : m = a + 1 := by omega
  subst e
  exact BubU.start hI hbn h hi h1 h2

set_option maxRecDepth 100000 in
set_option maxHeartbeats 4000000 in
theorem symMerge_up (w0 w : World) (blk n cap a m b : Nat) (t : TypeId) (K : Nat → Int) (recv : Value) (d : Nat → Nat) (h : RowW w0 blk n t d w) (hC : Cmps w0 blk n recv K) (hI : Inv K n d) (hO : Okd n d) (hm1 : a < m) (hm2 : m ≤ a + 1) (hmb : m < b) (hb : b ≤ n) (hn : n ≤ 4611686018427387904) (hs : Srt K m b d) :
    Calls Tryz.prog 255 #[.slice (some ⟨blk, 0, none⟩) n cap, .int .i64 a, .int .i64 m, .int .i64 b, .func (.func 239) #[recv] #[]] w (SrtTo w0 blk n t K a b d) := by
  have H := hidE h; have HC := hidE hC; have HI := hidE hI; have HO := hidE hO; have HS := hidE hs
  clear h hC hI hO hs
  have e1 : ((m : Int) - (a : Int) == 1) = true := beq_iff_eq.2 (by omega)
  go_enter Tryz.func255, Tryz.ntmps255
  go_wp2
  go_loopg [10, 11] b (fun g1 vi vj wr => ∃ (i j : Nat), vi = .int .i64 i ∧ vj = .int .i64 j ∧ m ≤ i ∧ i ≤ j ∧ j ≤ b ∧ j - i ≤ g1 ∧ RowW w0 blk n t d wr ∧ (∀ y, m ≤ y → y < i → K (d y) < K (d a)) ∧ (∀ y, j ≤ y → y < b → ¬ K (d y) < K (d a)))
  case atStart => exact ⟨m, b, rfl, rfl, by omega, by omega, by omega, by omega, H.out, fun y h1 h2 => by omega, fun y h1 h2 => by omega⟩
  case round =>
    obtain ⟨i, j, rfl, rfl, hai, hij, hjb, hg1, hr, hlo, hhi⟩ := hrel
    have HR := hidE hr; have HL := hidE hlo; have HH := hidE hhi
    clear hr hlo hhi
    by_cases hlt : i < j
    · have hltz : (i : Int) < (j : Int) := by omega
      obtain ⟨h, eh⟩ : ∃ h : Nat, ((i : Int) + (j : Int)) / 2 = (h : Int) := ⟨(i + j) / 2, by omega⟩
      have hih : i ≤ h := by omega
      have hhj : h < j := by omega
      have EH := hidE eh; clear eh
      have hok := HO.out
      have c1 := HR.out.cell (i := h) (by omega)
      have c2 := HR.out.cell (i := a) (by omega)
      have z := HR.out.lt
      have k1 := hok h (by omega)
      have k2 := hok a (by omega)
      have HCM := hidE (fun w hw => HC.out w hw (d h) (d a) k1 k2)
      clear hok
      go_wp2_with fail
      simp only [EH.out]
      by_cases hkey : K (d h) < K (d a)
      · have hd := cmp_t hkey
        have HX := hidE (fun y (h1 : m ≤ y) (h2 : y < h + 1) => (by
          have := HS.out.le (k := y) (k' := h) h1 (by omega) (by omega)
          omega : K (d y) < K (d a)))
        clear hkey
        generalize hx : d h = x at *
        generalize hy : d a = y at *
        have Hx := hidE hx; have Hy := hidE hy
        clear hx hy
        refine wp_region_past_lit (by kernel_rfl) (by kernel_rfl) ?_
        have hc := Past.cell (W := wr)
        repeat (go_big_quiet_step ((go_at_call 239; exact Past.call _ (HCM.out _ (HR.out.low.trans ((Past.prop _).mono (Nat.le_of_lt z)))))))
        refine wpQuiet_nil ?_
        rintro _ ⟨x', rfl⟩
        have hr2 := HR.out.past x'.2
        clear c1 c2 hc
        generalize x'.1 = w2 at hr2 ⊢
        have HR2 := hidE hr2; clear hr2
        go_wp2
        go_roundg (j - (h + 1))
        case measure => omega
        case rel => exact ⟨h + 1, j, by go_num, rfl, by omega, by omega, hjb, by omega, HR2.out, by simpa only [Hy.out] using HX.out, by simpa only [Hy.out] using HH.out⟩
      · have hd := cmp_f hkey
        have HX := hidE (fun y (h1 : h ≤ y) (h2 : y < b) => (by
          have := HS.out.le (k := h) (k' := y) (by omega) h1 h2
          omega : ¬ K (d y) < K (d a)))
        clear hkey
        generalize hx : d h = x at *
        generalize hy : d a = y at *
        have Hx := hidE hx; have Hy := hidE hy
        clear hx hy
        refine wp_region_past_lit (by kernel_rfl) (by kernel_rfl) ?_
        have hc := Past.cell (W := wr)
        repeat (go_big_quiet_step ((go_at_call 239; exact Past.call _ (HCM.out _ (HR.out.low.trans ((Past.prop _).mono (Nat.le_of_lt z)))))))
        refine wpQuiet_nil ?_
        rintro _ ⟨x', rfl⟩
        have hr2 := HR.out.past x'.2
        clear c1 c2 hc
        generalize x'.1 = w2 at hr2 ⊢
        have HR2 := hidE hr2; clear hr2
        go_wp2
        go_roundg (h - i)
        case measure => omega
        case rel => exact ⟨i, h, rfl, rfl, hai, by omega, by omega, by omega, HR2.out, by simpa only [Hy.out] using HL.out, by simpa only [Hy.out] using HX.out⟩
    · have : i = j := by omega
      subst this
      have hltz : ¬ (i : Int) < (i : Int) := by omega
      obtain ⟨ip, rfl⟩ : ∃ q, i = q + 1 := ⟨i - 1, by omega⟩
      have HB := hidE (BubU.start' hm1 hm2 HI.out hb HS.out hjb HL.out HH.out)
      clear HL HH
      obtain ⟨wo, rfl⟩ : ∃ wo : World, wo = wr := ⟨_, rfl⟩
      go_wp2
      go_loopg [13] (ip - a) (fun g2 vk wr2 => ∃ (k : Nat) (dk : Nat → Nat), vk = .int .i64 k ∧ a ≤ k ∧ k ≤ ip ∧ ip - k ≤ g2 ∧ RowW w0 blk n t dk wr2 ∧ Mv a b d dk ∧ Inv K n dk ∧ BubU K a b k (ip + 1) dk)
      case atStart => exact ⟨a, d, rfl, by omega, by omega, by omega, HR.out, Mv.refl _ _ _, HI.out, HB.out⟩
      case round =>
        clear HR HB
        obtain ⟨k, dk, rfl, hak, hki, hg2, hr, hm, hi, hs⟩ := hrel
        have HR := hidE hr; have HM := hidE hm; have HJ := hidE hi; have HB := hidE hs
        clear hr hm hi hs
        by_cases hlt : k < ip
        · have hltz : (k : Int) < (ip : Int) := by omega
          have HX := hidE (⟨HJ.out.swap k (by omega) (HB.out.mid _ (by omega) (by omega)), HM.out.trans (Mv.swap dk k (k + 1) (by omega) (by omega)), HB.out.step hak (by omega) hjb⟩ : Inv K n (sw dk k (k + 1)) ∧ Mv a b d (sw dk k (k + 1)) ∧ BubU K a b (k + 1) (ip + 1) (sw dk k (k + 1)))
          have c1 := HR.out.cell (i := k) (by omega)
          have c2 := HR.out.cell (i := k + 1) (by omega)
          have c3 := HR.out.c2 k (k + 1) (by omega) (dk (k + 1))
          have f1 := HR.out.free k
          have f2 := HR.out.free (k + 1)
          have HE := hidE (HR.out.swap k (k + 1)).drew
          rw [if_neg (by omega)] at c3
          generalize hx : dk (k + 1) = x at *
          generalize hy : dk k = y at *
          have Hx := hidE hx; have Hy := hidE hy
          clear hx hy
          go_wp2_with fail
          go_region
          go_wp2
          go_roundg (ip - (k + 1))
          case measure => omega
          case rel => exact ⟨k + 1, _, by go_num, by omega, by omega, Nat.le_refl _, HE.out, HX.out.2.1, HX.out.1, HX.out.2.2⟩
        · have hltz : ¬ (k : Int) < (ip : Int) := by omega
          go_wp2
          go_end0
          exact ⟨rfl, dk, HR.out, HM.out, HJ.out, HB.out.done (by omega)⟩
end Go.Proofs.YtjhhcljbmnomlaaGreat

namespace Go.Proofs.YtjhhcljbmnomlaaGreat
open Go.ChangeShapes Go.WideShapes Go.ChangeAt Go.RowKit
attribute [local irreducible] Go.Calls

theorem BubD.start' {K : Nat → Int} {n a m b i : Nat} {d : Nat → Nat} (hm1 : m < b) (hm2 : b ≤ m + 1) (hI : Inv K n d) (hbn : b ≤ n) (h : Srt K a m d) (h1 : ∀ x, a ≤ x → x < i → ¬ K (d m) < K (d x)) (h2 : ∀ x, i ≤ x → x < m → K (d m) < K (d x)) : BubD K a b m i d := by
  have e : b = m + 1 := by omega
  subst e
  exact BubD.start hI (by omega) h (fun x q1 q2 _ => h1 x q1 q2) h2

set_option maxRecDepth 100000 in
set_option maxHeartbeats 4000000 in
theorem symMerge_dn (w0 w : World) (blk n cap a m b : Nat) (t : TypeId) (K : Nat → Int) (recv : Value) (d : Nat → Nat) (h : RowW w0 blk n t d w) (hC : Cmps w0 blk n recv K) (hI : Inv K n d) (hO : Okd n d) (ham : a + 1 < m) (hm1 : m < b) (hm2 : b ≤ m + 1) (hb : b ≤ n) (hn : n ≤ 4611686018427387904) (hs : Srt K a m d) :
    Calls Tryz.prog 255 #[.slice (some ⟨blk, 0, none⟩) n cap, .int .i64 a, .int .i64 m, .int .i64 b, .func (.func 239) #[recv] #[]] w (SrtTo w0 blk n t K a b d) := by
  have H := hidE h; have HC := hidE hC; have HI := hidE hI; have HO := hidE hO; have HS := hidE hs
  clear h hC hI hO hs
  have e0 : ((m : Int) - (a : Int) == 1) = false := beq_eq_false_iff_ne.2 (by omega)
  have e1 : ((b : Int) - (m : Int) == 1) = true := beq_iff_eq.2 (by omega)
  go_enter Tryz.func255, Tryz.ntmps255
  go_wp2
  go_loopg [14, 15] m (fun g1 vi vj wr => ∃ (i j : Nat), vi = .int .i64 i ∧ vj = .int .i64 j ∧ a ≤ i ∧ i ≤ j ∧ j ≤ m ∧ j - i ≤ g1 ∧ RowW w0 blk n t d wr ∧ (∀ x, a ≤ x → x < i → ¬ K (d m) < K (d x)) ∧ (∀ x, j ≤ x → x < m → K (d m) < K (d x)))
  case atStart => exact ⟨a, m, rfl, rfl, by omega, by omega, by omega, by omega, H.out, fun y h1 h2 => by omega, fun y h1 h2 => by omega⟩
  case round =>
    obtain ⟨i, j, rfl, rfl, hai, hij, hjb, hg1, hr, hlo, hhi⟩ := hrel
    have HR := hidE hr; have HL := hidE hlo; have HH := hidE hhi
    clear hr hlo hhi
    by_cases hlt : i < j
    · have hltz : (i : Int) < (j : Int) := by omega
      obtain ⟨h, eh⟩ : ∃ h : Nat, ((i : Int) + (j : Int)) / 2 = (h : Int) := ⟨(i + j) / 2, by omega⟩
      have hih : i ≤ h := by omega
      have hhj : h < j := by omega
      have EH := hidE eh; clear eh
      have hok := HO.out
      have c1 := HR.out.cell (i := h) (by omega)
      have c2 := HR.out.cell (i := m) (by omega)
      have z := HR.out.lt
      have k1 := hok h (by omega)
      have k2 := hok m (by omega)
      have HCM := hidE (fun w hw => HC.out w hw (d m) (d h) k2 k1)
      clear hok
      go_wp2_with fail
      simp only [EH.out]
      by_cases hkey : K (d m) < K (d h)
      · have hd := cmp_t hkey
        have HX := hidE (fun x (h1 : h ≤ x) (h2 : x < m) => (by
          have := HS.out.le (k := h) (k' := x) (by omega) h1 h2
          omega : K (d m) < K (d x)))
        clear hkey
        generalize hx : d h = x at *
        generalize hy : d m = y at *
        have Hx := hidE hx; have Hy := hidE hy
        clear hx hy
        refine wp_region_past_lit (by kernel_rfl) (by kernel_rfl) ?_
        have hc := Past.cell (W := wr)
        repeat (go_big_quiet_step ((go_at_call 239; exact Past.call _ (HCM.out _ (HR.out.low.trans ((Past.prop _).mono (Nat.le_of_lt z)))))))
        refine wpQuiet_nil ?_
        rintro _ ⟨x', rfl⟩
        have hr2 := HR.out.past x'.2
        clear c1 c2 hc
        generalize x'.1 = w2 at hr2 ⊢
        have HR2 := hidE hr2; clear hr2
        go_wp2
        go_roundg (h - i)
        case measure => omega
        case rel => exact ⟨i, h, rfl, rfl, hai, by omega, by omega, by omega, HR2.out, by simpa only [Hy.out] using HL.out, by simpa only [Hy.out] using HX.out⟩
      · have hd := cmp_f hkey
        have HX := hidE (fun x (h1 : a ≤ x) (h2 : x < h + 1) => (by
          have := HS.out.le (k := x) (k' := h) h1 (by omega) (by omega)
          omega : ¬ K (d m) < K (d x)))
        clear hkey
        generalize hx : d h = x at *
        generalize hy : d m = y at *
        have Hx := hidE hx; have Hy := hidE hy
        clear hx hy
        refine wp_region_past_lit (by kernel_rfl) (by kernel_rfl) ?_
        have hc := Past.cell (W := wr)
        repeat (go_big_quiet_step ((go_at_call 239; exact Past.call _ (HCM.out _ (HR.out.low.trans ((Past.prop _).mono (Nat.le_of_lt z)))))))
        refine wpQuiet_nil ?_
        rintro _ ⟨x', rfl⟩
        have hr2 := HR.out.past x'.2
        clear c1 c2 hc
        generalize x'.1 = w2 at hr2 ⊢
        have HR2 := hidE hr2; clear hr2
        go_wp2
        go_roundg (j - (h + 1))
        case measure => omega
        case rel => exact ⟨h + 1, j, by go_num, rfl, by omega, by omega, hjb, by omega, HR2.out, by simpa only [Hy.out] using HX.out, by simpa only [Hy.out] using HH.out⟩
    · have : i = j := by omega
      subst this
      have hltz : ¬ (i : Int) < (i : Int) := by omega
      have HB := hidE (BubD.start' hm1 hm2 HI.out hb HS.out HL.out HH.out)
      clear HL HH
      obtain ⟨wo, rfl⟩ : ∃ wo : World, wo = wr := ⟨_, rfl⟩
      go_wp2
      go_loopg [17] (m - i) (fun g2 vk wr2 => ∃ (k : Nat) (dk : Nat → Nat), vk = .int .i64 k ∧ i ≤ k ∧ k ≤ m ∧ k - i ≤ g2 ∧ RowW w0 blk n t dk wr2 ∧ Mv a b d dk ∧ Inv K n dk ∧ BubD K a b k i dk)
      case atStart => exact ⟨m, d, rfl, by omega, by omega, by omega, HR.out, Mv.refl _ _ _, HI.out, HB.out⟩
      case round =>
        clear HR HB
        obtain ⟨k, dk, rfl, hak, hki, hg2, hr, hm, hi, hs⟩ := hrel
        have HR := hidE hr; have HM := hidE hm; have HJ := hidE hi; have HB := hidE hs
        clear hr hm hi hs
        by_cases hlt : i < k
        · obtain ⟨kp, rfl⟩ : ∃ q, k = q + 1 := ⟨k - 1, by omega⟩
          have hltz : (i : Int) < (kp : Int) + 1 := by omega
          have HX := hidE (⟨HJ.out.swap' kp (by omega) (HB.out.mid _ (by omega) (by omega)), HM.out.trans (Mv.swap dk (kp + 1) kp (by omega) (by omega)), HB.out.step hai (by omega) (by omega)⟩ : Inv K n (sw dk (kp + 1) kp) ∧ Mv a b d (sw dk (kp + 1) kp) ∧ BubD K a b kp i (sw dk (kp + 1) kp))
          have c1 := HR.out.cell (i := kp) (by omega)
          have c2 := HR.out.cell (i := kp + 1) (by omega)
          have c3 := HR.out.c2 (kp + 1) kp (by omega) (dk kp)
          have f1 := HR.out.free kp
          have f2 := HR.out.free (kp + 1)
          have HE := hidE (HR.out.swap (kp + 1) kp).drew
          rw [if_neg (by omega)] at c3
          generalize hx : dk (kp + 1) = x at *
          generalize hy : dk kp = y at *
          have Hx := hidE hx; have Hy := hidE hy
          clear hx hy
          go_wp2_with fail
          go_region
          go_wp2
          go_roundg (kp - i)
          case measure => omega
          case rel => exact ⟨kp, _, by go_num, by omega, by omega, Nat.le_refl _, HE.out, HX.out.2.1, HX.out.1, HX.out.2.2⟩
        · have hltz : ¬ (i : Int) < (k : Int) := by omega
          go_wp2
          go_end0
          exact ⟨rfl, dk, HR.out, HM.out, HJ.out, HB.out.done (by omega)⟩
end Go.Proofs.YtjhhcljbmnomlaaGreat

namespace Go.Proofs.YtjhhcljbmnomlaaGreat
open Go.ChangeShapes Go.WideShapes Go.ChangeAt Go.RowKit
attribute [local irreducible] Go.Calls

theorem sides_l {K : Nat → Int} {a s M : Nat} {d : Nat → Nat} (h1 : Srt K a s d) (h2 : Srt K s M d) (h3 : a ≤ s) (sM : s ≤ M) (h : s = a ∨ s = M) : Srt K a M d := by
  rcases h with h | h
  · subst h; exact h2
  · subst h; exact h1
theorem fin_c {K : Nat → Int} {a M b : Nat} {dd d2 d3 : Nat → Nat} (haM : a ≤ M) (hMb : M ≤ b) (m2 : Mv a M dd d2) (m3 : Mv M b d2 d3) (s2 : Srt K a M d2) (s3 : Srt K M b d3) (hx : ∀ x y, a ≤ x → x < M → M ≤ y → y < b → Lx K (dd x) (dd y)) : Mv a b dd d3 ∧ Srt K a b d3 :=
  ⟨(m2.mono (Nat.le_refl _) hMb).trans (m3.mono haM (Nat.le_refl _)), srt_join (s2.congr fun k _ h2 => m3.out k (.inl h2)) s3 (cross_mv (cross_mv hx (.inl m2)) (.inr m3))⟩

/-- What is asked of the calls of itself on shorter stretches. -/
def SymIH (w0 : World) (blk n cap : Nat) (t : TypeId) (K : Nat → Int) (recv : Value) (N : Nat) : Prop :=
  ∀ (w : World) (a m b : Nat) (d : Nat → Nat), b - a ≤ N → RowW w0 blk n t d w → Inv K n d → Okd n d → a < m → m < b → b ≤ n → Srt K a m d → Srt K m b d →
    Calls Tryz.prog 255 #[.slice (some ⟨blk, 0, none⟩) n cap, .int .i64 a, .int .i64 m, .int .i64 b, .func (.func 239) #[recv] #[]] w (SrtTo w0 blk n t K a b d)

theorem SymIH.app {w0 : World} {blk n cap : Nat} {t : TypeId} {K : Nat → Int} {recv : Value} {N : Nat} (h : SymIH w0 blk n cap t K recv N) {w : World} {a m b : Nat} {d : Nat → Nat} (h1 : b - a ≤ N) (h2 : RowW w0 blk n t d w) (h3 : Inv K n d) (h4 : Okd n d) (h5 : a < m) (h6 : m < b) (h7 : b ≤ n) (h8 : Srt K a m d) (h9 : Srt K m b d) :
    Calls Tryz.prog 255 #[.slice (some ⟨blk, 0, none⟩) n cap, .int .i64 a, .int .i64 m, .int .i64 b, .func (.func 239) #[recv] #[]] w (SrtTo w0 blk n t K a b d) :=
  h w a m b d h1 h2 h3 h4 h5 h6 h7 h8 h9

/-- The search under way. -/
def Srch (K : Nat → Int) (d : Nat → Nat) (P s0 i j r0 : Nat) : Prop :=
  (∀ c, s0 ≤ c → c < i → ¬ K (d (P - c)) < K (d c)) ∧ (∀ c, j ≤ c → c < r0 → K (d (P - c)) < K (d c))
theorem Srch.start (K : Nat → Int) (d : Nat → Nat) (P s0 r0 : Nat) : Srch K d P s0 s0 r0 r0 := ⟨fun c h1 h2 => by omega, fun c h1 h2 => by omega⟩
theorem Srch.up {K : Nat → Int} {d : Nat → Nat} {P s0 i j r0 h a m b : Nat} (hS : Srch K d P s0 i j r0) (h1 : Srt K a m d) (h2 : Srt K m b d) (q0 : a ≤ s0) (q1 : h < m) (q2 : m ≤ P - h) (q3 : P - s0 < b) (_q4 : s0 ≤ h) (hk : ¬ K (d (P - h)) < K (d h)) : Srch K d P s0 (h + 1) j r0 :=
  ⟨fun c g1 g2 => by
    have e1 := h1.le (k := c) (k' := h) (by omega) (by omega) q1
    have e2 := h2.le (k := P - h) (k' := P - c) q2 (by omega) (by omega)
    omega, hS.2⟩
theorem Srch.dn {K : Nat → Int} {d : Nat → Nat} {P s0 i j r0 h a m b : Nat} (hS : Srch K d P s0 i j r0) (h1 : Srt K a m d) (h2 : Srt K m b d) (q0 : a ≤ h) (q1 : r0 ≤ m) (q2 : m + r0 ≤ P + 1) (q3 : P - h < b) (hk : K (d (P - h)) < K (d h)) : Srch K d P s0 i h r0 :=
  ⟨hS.1, fun c g1 g2 => by
    have e1 := h1.le (k := h) (k' := c) q0 (by omega) (by omega)
    have e2 := h2.le (k := P - c) (k' := P - h) (by omega) (by omega) (by omega)
    omega⟩
theorem Srch.cut {K : Nat → Int} {d : Nat → Nat} {s0 i r0 a m b M : Nat} (hS : Srch K d (M + m - 1) s0 i i r0) (hM : (a + b) / 2 = M) (hs : s0 ≤ i) (hr : i ≤ r0) (am : a < m) (mb : m < b) (hc : (M < m ∧ s0 + b = M + m ∧ r0 = M) ∨ (m ≤ M ∧ s0 = a ∧ r0 = m)) : Cut K a m b i d := by
  obtain ⟨s1, s2⟩ := hS
  refine ⟨by omega, by omega, by omega, by omega, by omega, ?_, ?_⟩
  · intro h1 h2
    have := s1 (i - 1) (by omega) (by omega)
    rw [show (a + b) / 2 + m - i = M + m - 1 - (i - 1) by omega]
    exact this
  · intro h1 h2
    have := s2 i (by omega) (by omega)
    rw [show (a + b) / 2 + m - i - 1 = M + m - 1 - i by omega]
    exact this

set_option maxRecDepth 100000 in
set_option maxHeartbeats 16000000 in
theorem symMerge_mid (w0 w : World) (blk n cap a m b N M s0 r0 : Nat) (t : TypeId) (K : Nat → Int) (recv : Value) (d : Nat → Nat) (h : RowW w0 blk n t d w) (hC : Cmps w0 blk n recv K) (hI : Inv K n d) (hO : Okd n d) (ham : a + 1 < m) (hmb : m + 1 < b) (hb : b ≤ n) (hn : n ≤ 4611686018427387904)
    (hs1 : Srt K a m d) (hs2 : Srt K m b d) (ih : SymIH w0 blk n cap t K recv N) (hN : b - a ≤ N + 1) (hM : (a + b) / 2 = M) (hc : (M < m ∧ s0 + b = M + m ∧ r0 = M) ∨ (m ≤ M ∧ s0 = a ∧ r0 = m)) :
    Calls Tryz.prog 255 #[.slice (some ⟨blk, 0, none⟩) n cap, .int .i64 a, .int .i64 m, .int .i64 b, .func (.func 239) #[recv] #[]] w (SrtTo w0 blk n t K a b d) := by
  have H := hidE h; have HC := hidE hC; have HI := hidE hI; have HO := hidE hO; have HS1 := hidE hs1; have HS2 := hidE hs2; have IH := hidE ih
  have hMa : a < M := by omega
  have hMb : M < b := by omega
  have hM2 : 2 * M ≤ a + b := by omega
  have hM3 : a + b ≤ 2 * M + 1 := by omega
  have EM := hidE (show ((a : Int) + (b : Int)) / 2 = (M : Int) by omega)
  have HM := hidE hM
  have hP : ∃ P, P = M + m - 1 := ⟨_, rfl⟩
  obtain ⟨P, hP⟩ := hP
  have EP := hidE (show (M : Int) + (m : Int) - 1 = (P : Int) by omega)
  have HP := hidE hP
  have hPm : P + 1 = M + m := by omega
  have HPM := hidE hPm
  have b1 : P + 1 ≤ M + m := by omega
  have b2 : M + m ≤ P + 1 := by omega
  have hq1 : a ≤ s0 := by omega
  have hq2 : s0 ≤ r0 := by omega
  have hq3 : r0 ≤ m := by omega
  have hq4 : m + r0 ≤ P + 1 := by omega
  have hq5 : P < b + s0 := by omega
  have HCC := hidE hc
  clear h hC hI hO hs1 hs2 ih hM hP hPm
  have e0 : ((m : Int) - (a : Int) == 1) = false := beq_eq_false_iff_ne.2 (by omega)
  have e1 : ((b : Int) - (m : Int) == 1) = false := beq_eq_false_iff_ne.2 (by omega)
  rcases hc with hc | hc
  all_goals
    obtain ⟨hc1, hc2, hc3⟩ := hc
    have hct : ((M : Int) < (m : Int)) ∨ ¬ ((M : Int) < (m : Int)) := by omega
    have HC2 := hidE hc2; have HC3 := hidE hc3
    clear hc2 hc3 hct
    go_enter Tryz.func255, Tryz.ntmps255
    go_upto_region 25 with fail
    simp only [EM.out]
    go_upto_region 33 with fail
    simp only [EP.out]
    go_loopg [20, 21] b (fun g1 vi vj wr => ∃ (i j : Nat), vi = .int .i64 i ∧ vj = .int .i64 j ∧ s0 ≤ i ∧ i ≤ j ∧ j ≤ r0 ∧ j - i ≤ g1 ∧ RowW w0 blk n t d wr ∧ Srch K d P s0 i j r0)
    case atStart => exact ⟨s0, r0, by have := HC2.out; go_num, by have := HC3.out; go_num, by omega, by omega, by omega, by omega, H.out, Srch.start _ _ _ _ _⟩
    case round =>
      obtain ⟨i, j, rfl, rfl, hai, hij, hjb, hg1, hr, hlo⟩ := hrel
      have HR := hidE hr; have HL := hidE hlo
      clear hr hlo
      by_cases hlt : i < j
      · have hltz : (i : Int) < (j : Int) := by omega
        obtain ⟨h, eh⟩ : ∃ h : Nat, ((i : Int) + (j : Int)) / 2 = (h : Int) := ⟨(i + j) / 2, by omega⟩
        have hih : i ≤ h := by omega
        have hhj : h < j := by omega
        have EH := hidE eh; clear eh
        obtain ⟨q, hq⟩ : ∃ q, q = P - h := ⟨_, rfl⟩
        have eq1 : IntKind.i64.wrap ((P : Int) - (h : Int)) = (q : Int) := by rw [IntKind.wrap_i64]; omega
        have hok := HO.out
        have c1 := HR.out.cell (i := h) (by omega)
        have c2 := HR.out.cell (i := q) (by omega)
        have z := HR.out.lt
        have k1 := hok h (by omega)
        have k2 := hok q (by omega)
        have HCM := hidE (fun w hw => HC.out w hw (d q) (d h) k2 k1)
        have hqn : q < n := by omega
        clear hok
        go_wp2_with fail
        simp only [EH.out]
        have EQ1 := hidE eq1; clear eq1
        by_cases hkey : K (d q) < K (d h)
        · have hd := cmp_t hkey
          have HX := hidE (HL.out.dn HS1.out HS2.out (h := h) (by omega) hq3 hq4 (by omega) (by rw [← hq]; exact hkey))
          have HQ := hidE hq
          clear hkey hq
          generalize hx : d h = x at *
          generalize hy : d q = y at *
          have Hx := hidE hx; have Hy := hidE hy
          clear hx hy
          have eq1 := EQ1.out
          refine wp_region_past_lit (by kernel_rfl) (by kernel_rfl) ?_
          have hc := Past.cell (W := wr)
          repeat (go_big_quiet_step ((go_at_call 239; exact Past.call _ (HCM.out _ (HR.out.low.trans ((Past.prop _).mono (Nat.le_of_lt z)))))))
          refine wpQuiet_nil ?_
          rintro _ ⟨x', rfl⟩
          have hr2 := HR.out.past x'.2
          clear c1 c2 hc eq1
          generalize x'.1 = w2 at hr2 ⊢
          have HR2 := hidE hr2; clear hr2
          go_wp2
          go_roundg (h - i)
          case measure => omega
          case rel => exact ⟨i, h, rfl, rfl, hai, by omega, by omega, by omega, HR2.out, HX.out⟩
        · have hd := cmp_f hkey
          have HX := hidE (HL.out.up HS1.out HS2.out (h := h) hq1 (by omega) (by omega) (by omega) (by omega) (by rw [← hq]; exact hkey))
          have HQ := hidE hq
          clear hkey hq
          generalize hx : d h = x at *
          generalize hy : d q = y at *
          have Hx := hidE hx; have Hy := hidE hy
          clear hx hy
          have eq1 := EQ1.out
          refine wp_region_past_lit (by kernel_rfl) (by kernel_rfl) ?_
          have hc := Past.cell (W := wr)
          repeat (go_big_quiet_step ((go_at_call 239; exact Past.call _ (HCM.out _ (HR.out.low.trans ((Past.prop _).mono (Nat.le_of_lt z)))))))
          refine wpQuiet_nil ?_
          rintro _ ⟨x', rfl⟩
          have hr2 := HR.out.past x'.2
          clear c1 c2 hc eq1
          generalize x'.1 = w2 at hr2 ⊢
          have HR2 := hidE hr2; clear hr2
          go_wp2
          go_roundg (j - (h + 1))
          case measure => omega
          case rel => exact ⟨h + 1, j, by go_num, rfl, by omega, by omega, hjb, by omega, HR2.out, HX.out⟩
      · have : i = j := by omega
        subst this
        have hltz : ¬ (i : Int) < (i : Int) := by omega
        have hl := HL.out
        rw [HP.out] at hl
        have hcut := hl.cut HM.out hai hjb (by omega) (by omega) HCC.out
        have hcu := hcut.rotated HI.out hb HS1.out HS2.out
        have f1 := hcut.as; have f2 := hcut.sm; have f3 := hcut.smid; have f4 := hcut.me; have f5 := hcut.eb
        rw [HM.out] at hcu f3 f4 f5
        obtain ⟨E, hE⟩ : ∃ E, E = M + m - i := ⟨_, rfl⟩
        rw [← hE] at hcu f4 f5
        have EE := hidE (show (M : Int) + (m : Int) - (i : Int) = (E : Int) by omega)
        have hE1 : E + i ≤ M + m := by omega
        have hE2 : M + m ≤ E + i := by omega
        obtain ⟨u0, u1, u2, u3, u4, u5⟩ := hcu
        have hmv := Mv.rot d f2 f4
        have U0 := hidE u0; have U1 := hidE u1; have U2 := hidE u2; have U3 := hidE u3; have U4 := hidE u4; have U5 := hidE u5
        have UO := hidE (HO.out.mv hmv (by omega))
        have UM := hidE (hmv.mono f1 f5)
        clear u0 u1 u2 u3 u4 u5 hl hcut hE HL hmv
        go_upto_region 39 with fail
        simp only [EE.out]
        clear hltz

        by_cases hA : i < m
        · by_cases hB : m < E
          · by_cases hC : a < i
            · by_cases hD : E < b
              · have hE : i < M := by omega
                have hF : M < E := by omega
                have tA : ((i : Int) < (m : Int)) := by omega
                have tB : ((m : Int) < (E : Int)) := by omega
                have tC : ((a : Int) < (i : Int)) := by omega
                have tD : ((E : Int) < (b : Int)) := by omega
                have tE : ((i : Int) < (M : Int)) := by omega
                have tF : ((M : Int) < (E : Int)) := by omega
                go_wp2_with (go_at_call 257; ((with_reducible refine (rotate_c w0 _ blk n cap i m E t d _ HR.out hA hB (by omega) hn).mono ?_); rintro e w1 ⟨rfl, hr1⟩))
                clear HR
                have R1 := hidE hr1; clear hr1
                try go_wp2_with fail
                ((with_reducible refine (IH.out.app (a := a) (m := i) (b := M) (by omega) R1.out U0.out UO.out hC hE (by omega) U1.out U2.out).mono ?_); rintro e w2 ⟨rfl, d2, hr2, hm2, hi2, hs2⟩)
                have o2 := UO.out.mv hm2 (by omega)
                have R2 := hidE hr2; have M2 := hidE hm2; have I2 := hidE hi2; have S2 := hidE hs2; have O2 := hidE o2; clear hr2 hm2 hi2 hs2 o2
                go_wp2_with fail
                have x3 := U3.out.congr fun k (q1 : M ≤ k) (q2 : k < E) => M2.out.out k (.inr q1)
                have x4 := U4.out.congr fun k (q1 : E ≤ k) (q2 : k < b) => M2.out.out k (.inr (by omega))
                have X3 := hidE x3; have X4 := hidE x4; clear x3 x4
                ((with_reducible refine (IH.out.app (a := M) (m := E) (b := b) (by omega) R2.out I2.out O2.out hF hD hb X3.out X4.out).mono ?_); rintro e w3 ⟨rfl, d3, hr3, hm3, hi3, hs3⟩)
                have R3 := hidE hr3; have M3 := hidE hm3; have I3 := hidE hi3; have S3 := hidE hs3; clear hr3 hm3 hi3 hs3
                go_wp2
                all_goals go_end0
                all_goals obtain ⟨y1, y2⟩ := fin_c (Nat.le_of_lt hMa) (Nat.le_of_lt hMb) M2.out M3.out S2.out S3.out U5.out
                all_goals exact ⟨rfl, _, R3.out, UM.out.trans y1, I3.out, y2⟩
              · have hE : i < M := by omega
                have hF : M < E := by omega
                have tA : ((i : Int) < (m : Int)) := by omega
                have tB : ((m : Int) < (E : Int)) := by omega
                have tC : ((a : Int) < (i : Int)) := by omega
                have tD : ¬ ((E : Int) < (b : Int)) := by omega
                have tE : ((i : Int) < (M : Int)) := by omega
                have tF : ((M : Int) < (E : Int)) := by omega
                go_wp2_with (go_at_call 257; ((with_reducible refine (rotate_c w0 _ blk n cap i m E t d _ HR.out hA hB (by omega) hn).mono ?_); rintro e w1 ⟨rfl, hr1⟩))
                clear HR
                have R1 := hidE hr1; clear hr1
                try go_wp2_with fail
                ((with_reducible refine (IH.out.app (a := a) (m := i) (b := M) (by omega) R1.out U0.out UO.out hC hE (by omega) U1.out U2.out).mono ?_); rintro e w2 ⟨rfl, d2, hr2, hm2, hi2, hs2⟩)
                have o2 := UO.out.mv hm2 (by omega)
                have R2 := hidE hr2; have M2 := hidE hm2; have I2 := hidE hi2; have S2 := hidE hs2; have O2 := hidE o2; clear hr2 hm2 hi2 hs2 o2
                go_wp2
                all_goals go_end0
                all_goals obtain ⟨y1, y2⟩ := fin_c (Nat.le_of_lt hMa) (Nat.le_of_lt hMb) M2.out (Mv.refl _ _ _) S2.out (sides_l (U3.out.congr fun k (q1 : M ≤ k) (q2 : k < E) => M2.out.out k (.inr q1)) (U4.out.congr fun k (q1 : E ≤ k) (q2 : k < b) => M2.out.out k (.inr (by omega))) (by omega) f5 (by omega)) U5.out
                all_goals exact ⟨rfl, _, R2.out, UM.out.trans y1, I2.out, y2⟩
            · by_cases hD : E < b
              · have hE : i < M := by omega
                have hF : M < E := by omega
                have tA : ((i : Int) < (m : Int)) := by omega
                have tB : ((m : Int) < (E : Int)) := by omega
                have tC : ¬ ((a : Int) < (i : Int)) := by omega
                have tD : ((E : Int) < (b : Int)) := by omega
                have tE : ((i : Int) < (M : Int)) := by omega
                have tF : ((M : Int) < (E : Int)) := by omega
                go_wp2_with (go_at_call 257; ((with_reducible refine (rotate_c w0 _ blk n cap i m E t d _ HR.out hA hB (by omega) hn).mono ?_); rintro e w1 ⟨rfl, hr1⟩))
                clear HR
                have R1 := hidE hr1; clear hr1
                try go_wp2_with fail
                have x3 := U3.out; have x4 := U4.out
                have X3 := hidE x3; have X4 := hidE x4; clear x3 x4
                ((with_reducible refine (IH.out.app (a := M) (m := E) (b := b) (by omega) R1.out U0.out UO.out hF hD hb X3.out X4.out).mono ?_); rintro e w3 ⟨rfl, d3, hr3, hm3, hi3, hs3⟩)
                have R3 := hidE hr3; have M3 := hidE hm3; have I3 := hidE hi3; have S3 := hidE hs3; clear hr3 hm3 hi3 hs3
                go_wp2
                all_goals go_end0
                all_goals obtain ⟨y1, y2⟩ := fin_c (Nat.le_of_lt hMa) (Nat.le_of_lt hMb) (Mv.refl _ _ _) M3.out (sides_l U1.out U2.out f1 f3 (by omega)) S3.out U5.out
                all_goals exact ⟨rfl, _, R3.out, UM.out.trans y1, I3.out, y2⟩
              · have hE : i < M := by omega
                have hF : M < E := by omega
                have tA : ((i : Int) < (m : Int)) := by omega
                have tB : ((m : Int) < (E : Int)) := by omega
                have tC : ¬ ((a : Int) < (i : Int)) := by omega
                have tD : ¬ ((E : Int) < (b : Int)) := by omega
                have tE : ((i : Int) < (M : Int)) := by omega
                have tF : ((M : Int) < (E : Int)) := by omega
                go_wp2_with (go_at_call 257; ((with_reducible refine (rotate_c w0 _ blk n cap i m E t d _ HR.out hA hB (by omega) hn).mono ?_); rintro e w1 ⟨rfl, hr1⟩))
                clear HR
                have R1 := hidE hr1; clear hr1
                try go_wp2
                all_goals go_end0
                all_goals obtain ⟨y1, y2⟩ := fin_c (Nat.le_of_lt hMa) (Nat.le_of_lt hMb) (Mv.refl _ _ _) (Mv.refl _ _ _) (sides_l U1.out U2.out f1 f3 (by omega)) (sides_l U3.out U4.out (by omega) f5 (by omega)) U5.out
                all_goals exact ⟨rfl, _, R1.out, UM.out.trans y1, U0.out, y2⟩
          · by_cases hC : a < i
            · by_cases hD : E < b
              · have hF : M < E := by omega
                have tA : ((i : Int) < (m : Int)) := by omega
                have tB : ¬ ((m : Int) < (E : Int)) := by omega
                have tC : ((a : Int) < (i : Int)) := by omega
                have tD : ((E : Int) < (b : Int)) := by omega
                have tE : ¬ ((i : Int) < (M : Int)) := by omega
                have tF : ((M : Int) < (E : Int)) := by omega
                have hr1 := HR.out.ext (rot_none f2 f4 (by omega)).symm
                clear HR
                have R1 := hidE hr1; clear hr1
                go_wp2_with fail
                have x3 := U3.out; have x4 := U4.out
                have X3 := hidE x3; have X4 := hidE x4; clear x3 x4
                ((with_reducible refine (IH.out.app (a := M) (m := E) (b := b) (by omega) R1.out U0.out UO.out hF hD hb X3.out X4.out).mono ?_); rintro e w3 ⟨rfl, d3, hr3, hm3, hi3, hs3⟩)
                have R3 := hidE hr3; have M3 := hidE hm3; have I3 := hidE hi3; have S3 := hidE hs3; clear hr3 hm3 hi3 hs3
                go_wp2
                all_goals go_end0
                all_goals obtain ⟨y1, y2⟩ := fin_c (Nat.le_of_lt hMa) (Nat.le_of_lt hMb) (Mv.refl _ _ _) M3.out (sides_l U1.out U2.out f1 f3 (by omega)) S3.out U5.out
                all_goals exact ⟨rfl, _, R3.out, UM.out.trans y1, I3.out, y2⟩
              · have hF : M < E := by omega
                have tA : ((i : Int) < (m : Int)) := by omega
                have tB : ¬ ((m : Int) < (E : Int)) := by omega
                have tC : ((a : Int) < (i : Int)) := by omega
                have tD : ¬ ((E : Int) < (b : Int)) := by omega
                have tE : ¬ ((i : Int) < (M : Int)) := by omega
                have tF : ((M : Int) < (E : Int)) := by omega
                have hr1 := HR.out.ext (rot_none f2 f4 (by omega)).symm
                clear HR
                have R1 := hidE hr1; clear hr1
                go_wp2
                all_goals go_end0
                all_goals obtain ⟨y1, y2⟩ := fin_c (Nat.le_of_lt hMa) (Nat.le_of_lt hMb) (Mv.refl _ _ _) (Mv.refl _ _ _) (sides_l U1.out U2.out f1 f3 (by omega)) (sides_l U3.out U4.out (by omega) f5 (by omega)) U5.out
                all_goals exact ⟨rfl, _, R1.out, UM.out.trans y1, U0.out, y2⟩
            · by_cases hD : E < b
              · have hF : M < E := by omega
                have tA : ((i : Int) < (m : Int)) := by omega
                have tB : ¬ ((m : Int) < (E : Int)) := by omega
                have tC : ¬ ((a : Int) < (i : Int)) := by omega
                have tD : ((E : Int) < (b : Int)) := by omega
                have tE : ¬ ((i : Int) < (M : Int)) := by omega
                have tF : ((M : Int) < (E : Int)) := by omega
                have hr1 := HR.out.ext (rot_none f2 f4 (by omega)).symm
                clear HR
                have R1 := hidE hr1; clear hr1
                go_wp2_with fail
                have x3 := U3.out; have x4 := U4.out
                have X3 := hidE x3; have X4 := hidE x4; clear x3 x4
                ((with_reducible refine (IH.out.app (a := M) (m := E) (b := b) (by omega) R1.out U0.out UO.out hF hD hb X3.out X4.out).mono ?_); rintro e w3 ⟨rfl, d3, hr3, hm3, hi3, hs3⟩)
                have R3 := hidE hr3; have M3 := hidE hm3; have I3 := hidE hi3; have S3 := hidE hs3; clear hr3 hm3 hi3 hs3
                go_wp2
                all_goals go_end0
                all_goals obtain ⟨y1, y2⟩ := fin_c (Nat.le_of_lt hMa) (Nat.le_of_lt hMb) (Mv.refl _ _ _) M3.out (sides_l U1.out U2.out f1 f3 (by omega)) S3.out U5.out
                all_goals exact ⟨rfl, _, R3.out, UM.out.trans y1, I3.out, y2⟩
              · have hF : M < E := by omega
                have tA : ((i : Int) < (m : Int)) := by omega
                have tB : ¬ ((m : Int) < (E : Int)) := by omega
                have tC : ¬ ((a : Int) < (i : Int)) := by omega
                have tD : ¬ ((E : Int) < (b : Int)) := by omega
                have tE : ¬ ((i : Int) < (M : Int)) := by omega
                have tF : ((M : Int) < (E : Int)) := by omega
                have hr1 := HR.out.ext (rot_none f2 f4 (by omega)).symm
                clear HR
                have R1 := hidE hr1; clear hr1
                go_wp2
                all_goals go_end0
                all_goals obtain ⟨y1, y2⟩ := fin_c (Nat.le_of_lt hMa) (Nat.le_of_lt hMb) (Mv.refl _ _ _) (Mv.refl _ _ _) (sides_l U1.out U2.out f1 f3 (by omega)) (sides_l U3.out U4.out (by omega) f5 (by omega)) U5.out
                all_goals exact ⟨rfl, _, R1.out, UM.out.trans y1, U0.out, y2⟩
        · by_cases hB : m < E
          · by_cases hC : a < i
            · by_cases hD : E < b
              · have hE : i < M := by omega
                have tA : ¬ ((i : Int) < (m : Int)) := by omega
                have tB : ((m : Int) < (E : Int)) := by omega
                have tC : ((a : Int) < (i : Int)) := by omega
                have tD : ((E : Int) < (b : Int)) := by omega
                have tE : ((i : Int) < (M : Int)) := by omega
                have tF : ¬ ((M : Int) < (E : Int)) := by omega
                have hr1 := HR.out.ext (rot_none f2 f4 (by omega)).symm
                clear HR
                have R1 := hidE hr1; clear hr1
                go_wp2_with fail
                ((with_reducible refine (IH.out.app (a := a) (m := i) (b := M) (by omega) R1.out U0.out UO.out hC hE (by omega) U1.out U2.out).mono ?_); rintro e w2 ⟨rfl, d2, hr2, hm2, hi2, hs2⟩)
                have o2 := UO.out.mv hm2 (by omega)
                have R2 := hidE hr2; have M2 := hidE hm2; have I2 := hidE hi2; have S2 := hidE hs2; have O2 := hidE o2; clear hr2 hm2 hi2 hs2 o2
                go_wp2
                all_goals go_end0
                all_goals obtain ⟨y1, y2⟩ := fin_c (Nat.le_of_lt hMa) (Nat.le_of_lt hMb) M2.out (Mv.refl _ _ _) S2.out (sides_l (U3.out.congr fun k (q1 : M ≤ k) (q2 : k < E) => M2.out.out k (.inr q1)) (U4.out.congr fun k (q1 : E ≤ k) (q2 : k < b) => M2.out.out k (.inr (by omega))) (by omega) f5 (by omega)) U5.out
                all_goals exact ⟨rfl, _, R2.out, UM.out.trans y1, I2.out, y2⟩
              · have hE : i < M := by omega
                have tA : ¬ ((i : Int) < (m : Int)) := by omega
                have tB : ((m : Int) < (E : Int)) := by omega
                have tC : ((a : Int) < (i : Int)) := by omega
                have tD : ¬ ((E : Int) < (b : Int)) := by omega
                have tE : ((i : Int) < (M : Int)) := by omega
                have tF : ¬ ((M : Int) < (E : Int)) := by omega
                have hr1 := HR.out.ext (rot_none f2 f4 (by omega)).symm
                clear HR
                have R1 := hidE hr1; clear hr1
                go_wp2_with fail
                ((with_reducible refine (IH.out.app (a := a) (m := i) (b := M) (by omega) R1.out U0.out UO.out hC hE (by omega) U1.out U2.out).mono ?_); rintro e w2 ⟨rfl, d2, hr2, hm2, hi2, hs2⟩)
                have o2 := UO.out.mv hm2 (by omega)
                have R2 := hidE hr2; have M2 := hidE hm2; have I2 := hidE hi2; have S2 := hidE hs2; have O2 := hidE o2; clear hr2 hm2 hi2 hs2 o2
                go_wp2
                all_goals go_end0
                all_goals obtain ⟨y1, y2⟩ := fin_c (Nat.le_of_lt hMa) (Nat.le_of_lt hMb) M2.out (Mv.refl _ _ _) S2.out (sides_l (U3.out.congr fun k (q1 : M ≤ k) (q2 : k < E) => M2.out.out k (.inr q1)) (U4.out.congr fun k (q1 : E ≤ k) (q2 : k < b) => M2.out.out k (.inr (by omega))) (by omega) f5 (by omega)) U5.out
                all_goals exact ⟨rfl, _, R2.out, UM.out.trans y1, I2.out, y2⟩
            · by_cases hD : E < b
              · have hE : i < M := by omega
                have tA : ¬ ((i : Int) < (m : Int)) := by omega
                have tB : ((m : Int) < (E : Int)) := by omega
                have tC : ¬ ((a : Int) < (i : Int)) := by omega
                have tD : ((E : Int) < (b : Int)) := by omega
                have tE : ((i : Int) < (M : Int)) := by omega
                have tF : ¬ ((M : Int) < (E : Int)) := by omega
                have hr1 := HR.out.ext (rot_none f2 f4 (by omega)).symm
                clear HR
                have R1 := hidE hr1; clear hr1
                go_wp2
                all_goals go_end0
                all_goals obtain ⟨y1, y2⟩ := fin_c (Nat.le_of_lt hMa) (Nat.le_of_lt hMb) (Mv.refl _ _ _) (Mv.refl _ _ _) (sides_l U1.out U2.out f1 f3 (by omega)) (sides_l U3.out U4.out (by omega) f5 (by omega)) U5.out
                all_goals exact ⟨rfl, _, R1.out, UM.out.trans y1, U0.out, y2⟩
              · have hE : i < M := by omega
                have tA : ¬ ((i : Int) < (m : Int)) := by omega
                have tB : ((m : Int) < (E : Int)) := by omega
                have tC : ¬ ((a : Int) < (i : Int)) := by omega
                have tD : ¬ ((E : Int) < (b : Int)) := by omega
                have tE : ((i : Int) < (M : Int)) := by omega
                have tF : ¬ ((M : Int) < (E : Int)) := by omega
                have hr1 := HR.out.ext (rot_none f2 f4 (by omega)).symm
                clear HR
                have R1 := hidE hr1; clear hr1
                go_wp2
                all_goals go_end0
                all_goals obtain ⟨y1, y2⟩ := fin_c (Nat.le_of_lt hMa) (Nat.le_of_lt hMb) (Mv.refl _ _ _) (Mv.refl _ _ _) (sides_l U1.out U2.out f1 f3 (by omega)) (sides_l U3.out U4.out (by omega) f5 (by omega)) U5.out
                all_goals exact ⟨rfl, _, R1.out, UM.out.trans y1, U0.out, y2⟩
          · by_cases hC : a < i
            · by_cases hD : E < b
              · have tA : ¬ ((i : Int) < (m : Int)) := by omega
                have tB : ¬ ((m : Int) < (E : Int)) := by omega
                have tC : ((a : Int) < (i : Int)) := by omega
                have tD : ((E : Int) < (b : Int)) := by omega
                have tE : ¬ ((i : Int) < (M : Int)) := by omega
                have tF : ¬ ((M : Int) < (E : Int)) := by omega
                have hr1 := HR.out.ext (rot_none f2 f4 (by omega)).symm
                clear HR
                have R1 := hidE hr1; clear hr1
                go_wp2
                all_goals go_end0
                all_goals obtain ⟨y1, y2⟩ := fin_c (Nat.le_of_lt hMa) (Nat.le_of_lt hMb) (Mv.refl _ _ _) (Mv.refl _ _ _) (sides_l U1.out U2.out f1 f3 (by omega)) (sides_l U3.out U4.out (by omega) f5 (by omega)) U5.out
                all_goals exact ⟨rfl, _, R1.out, UM.out.trans y1, U0.out, y2⟩
              · have tA : ¬ ((i : Int) < (m : Int)) := by omega
                have tB : ¬ ((m : Int) < (E : Int)) := by omega
                have tC : ((a : Int) < (i : Int)) := by omega
                have tD : ¬ ((E : Int) < (b : Int)) := by omega
                have tE : ¬ ((i : Int) < (M : Int)) := by omega
                have tF : ¬ ((M : Int) < (E : Int)) := by omega
                have hr1 := HR.out.ext (rot_none f2 f4 (by omega)).symm
                clear HR
                have R1 := hidE hr1; clear hr1
                go_wp2
                all_goals go_end0
                all_goals obtain ⟨y1, y2⟩ := fin_c (Nat.le_of_lt hMa) (Nat.le_of_lt hMb) (Mv.refl _ _ _) (Mv.refl _ _ _) (sides_l U1.out U2.out f1 f3 (by omega)) (sides_l U3.out U4.out (by omega) f5 (by omega)) U5.out
                all_goals exact ⟨rfl, _, R1.out, UM.out.trans y1, U0.out, y2⟩
            · by_cases hD : E < b
              · have tA : ¬ ((i : Int) < (m : Int)) := by omega
                have tB : ¬ ((m : Int) < (E : Int)) := by omega
                have tC : ¬ ((a : Int) < (i : Int)) := by omega
                have tD : ((E : Int) < (b : Int)) := by omega
                have tE : ¬ ((i : Int) < (M : Int)) := by omega
                have tF : ¬ ((M : Int) < (E : Int)) := by omega
                have hr1 := HR.out.ext (rot_none f2 f4 (by omega)).symm
                clear HR
                have R1 := hidE hr1; clear hr1
                go_wp2
                all_goals go_end0
                all_goals obtain ⟨y1, y2⟩ := fin_c (Nat.le_of_lt hMa) (Nat.le_of_lt hMb) (Mv.refl _ _ _) (Mv.refl _ _ _) (sides_l U1.out U2.out f1 f3 (by omega)) (sides_l U3.out U4.out (by omega) f5 (by omega)) U5.out
                all_goals exact ⟨rfl, _, R1.out, UM.out.trans y1, U0.out, y2⟩
              · have tA : ¬ ((i : Int) < (m : Int)) := by omega
                have tB : ¬ ((m : Int) < (E : Int)) := by omega
                have tC : ¬ ((a : Int) < (i : Int)) := by omega
                have tD : ¬ ((E : Int) < (b : Int)) := by omega
                have tE : ¬ ((i : Int) < (M : Int)) := by omega
                have tF : ¬ ((M : Int) < (E : Int)) := by omega
                have hr1 := HR.out.ext (rot_none f2 f4 (by omega)).symm
                clear HR
                have R1 := hidE hr1; clear hr1
                go_wp2
                all_goals go_end0
                all_goals obtain ⟨y1, y2⟩ := fin_c (Nat.le_of_lt hMa) (Nat.le_of_lt hMb) (Mv.refl _ _ _) (Mv.refl _ _ _) (sides_l U1.out U2.out f1 f3 (by omega)) (sides_l U3.out U4.out (by omega) f5 (by omega)) U5.out
                all_goals exact ⟨rfl, _, R1.out, UM.out.trans y1, U0.out, y2⟩

theorem symMerge_c (w0 : World) (blk n cap : Nat) (t : TypeId) (K : Nat → Int) (recv : Value) (hC : Cmps w0 blk n recv K) (hn : n ≤ 4611686018427387904) : ∀ N, SymIH w0 blk n cap t K recv N := by
  intro N
  induction N with
  | zero => intro w a m b d hN _ _ _ h1 h2; omega
  | succ N ih =>
    intro w a m b d hN hR hI hO ham hmb hb hs1 hs2
    by_cases c1 : m ≤ a + 1
    · exact symMerge_up w0 w blk n cap a m b t K recv d hR hC hI hO ham c1 hmb hb hn hs2
    · by_cases c2 : b ≤ m + 1
      · exact symMerge_dn w0 w blk n cap a m b t K recv d hR hC hI hO (by omega) hmb c2 hb hn hs1
      · obtain ⟨M, hM⟩ : ∃ M, (a + b) / 2 = M := ⟨_, rfl⟩
        by_cases c3 : M < m
        · exact symMerge_mid w0 w blk n cap a m b N M (M + m - b) M t K recv d hR hC hI hO (by omega) (by omega) hb hn hs1 hs2 ih hN hM (.inl ⟨c3, by omega, rfl⟩)
        · exact symMerge_mid w0 w blk n cap a m b N M a m t K recv d hR hC hI hO (by omega) (by omega) hb hn hs1 hs2 ih hN hM (.inr ⟨by omega, rfl, rfl⟩)
end Go.Proofs.YtjhhcljbmnomlaaGreat

namespace Go.Proofs.YtjhhcljbmnomlaaGreat
open Go.ChangeShapes Go.WideShapes Go.ChangeAt Go.RowKit
attribute [local irreducible] Go.Calls

section
variable {K : Nat → Int} {n bs a : Nat} {d d' : Nat → Nat}
/-- Each block of bs places is in order. -/
def Bl (K : Nat → Int) (n bs : Nat) (d : Nat → Nat) : Prop := ∀ q, q * bs < n → Srt K (q * bs) (min (q * bs + bs) n) d
/-- Blocks are in order up to a. -/
def Bi (K : Nat → Int) (n bs a : Nat) (d : Nat → Nat) : Prop := (∃ Q, a = Q * bs) ∧ ∀ q, q * bs < a → Srt K (q * bs) (min (q * bs + bs) n) d
theorem lt_q {q Q x : Nat} (h : q * x < Q * x + x) : q ≤ Q := by
  rcases Nat.lt_or_ge Q q with c | c
  · have := Nat.mul_le_mul_right x c
    rw [Nat.succ_mul] at this
    omega
  · exact c
theorem le_q {q Q x : Nat} (h : q < Q) : q * x + x ≤ Q * x := by
  have := Nat.mul_le_mul_right x h
  rw [Nat.succ_mul] at this
  exact this
theorem bi_start (K : Nat → Int) (n bs : Nat) (d : Nat → Nat) : Bi K n bs 0 d := ⟨⟨0, by simp⟩, fun q h => by omega⟩
theorem bi_step (h : Bi K n bs a d) (hn : a + bs ≤ n) (hm : Mv a (a + bs) d d') (hs : Srt K a (a + bs) d') : Bi K n bs (a + bs) d' := by
  obtain ⟨⟨Q, rfl⟩, h2⟩ := h
  refine ⟨⟨Q + 1, by rw [Nat.succ_mul]⟩, fun q hq => ?_⟩
  have hqQ := lt_q hq
  rcases Nat.lt_or_ge q Q with c | c
  · have := le_q (x := bs) c
    by_cases z : bs = 0
    · subst z; exact srt_one _ _ _ (by omega)
    · exact (h2 q (by omega)).congr fun k q1 q2 => hm.out k (.inl (by omega))
  · have : q = Q := by omega
    subst this
    rw [Nat.min_eq_left hn]; exact hs
theorem bi_end (h : Bi K n bs a d) (hn : n < a + bs) (hm : Mv a n d d') (hs : Srt K a n d') : Bl K n bs d' := by
  obtain ⟨⟨Q, rfl⟩, h2⟩ := h
  intro q hq
  have hqQ := lt_q (Nat.lt_trans hq hn)
  rcases Nat.lt_or_ge q Q with c | c
  · have := le_q (x := bs) c
    by_cases z : bs = 0
    · subst z; exact srt_one _ _ _ (by omega)
    · exact (h2 q (by omega)).congr fun k q1 q2 => hm.out k (.inl (by omega))
  · have : q = Q := by omega
    subst this
    exact hs.mono (Nat.le_refl _) (Nat.min_le_right _ _)

/-- Blocks of twice the size up to a, of the size from a on. -/
def Bu (K : Nat → Int) (n bs a : Nat) (d : Nat → Nat) : Prop := Bi K n (2 * bs) a d ∧ ∀ q, a ≤ q * bs → q * bs < n → Srt K (q * bs) (min (q * bs + bs) n) d
theorem bu_start (h : Bl K n bs d) : Bu K n bs 0 d := ⟨bi_start K n _ d, fun q _ h2 => h q h2⟩
theorem dbl (Q bs : Nat) : Q * (2 * bs) = (2 * Q) * bs := by rw [← Nat.mul_assoc, Nat.mul_comm Q 2]
theorem bu_parts (h : Bu K n bs a d) : (a < n → Srt K a (min (a + bs) n) d) ∧ (a + bs < n → Srt K (a + bs) (min (a + bs + bs) n) d) := by
  obtain ⟨⟨⟨Q, hQ⟩, h1⟩, h2⟩ := h
  rw [dbl] at hQ
  refine ⟨fun c => ?_, fun c => ?_⟩
  · have := h2 (2 * Q) (by omega) (by omega)
    rw [← hQ] at this; exact this
  · have := h2 (2 * Q + 1) (by rw [Nat.succ_mul]; omega) (by rw [Nat.succ_mul]; omega)
    rw [Nat.succ_mul, ← hQ] at this; exact this
theorem bu_step (h : Bu K n bs a d) (hn : a + 2 * bs ≤ n) (hm : Mv a (a + 2 * bs) d d') (hs : Srt K a (a + 2 * bs) d') : Bu K n bs (a + 2 * bs) d' :=
  ⟨bi_step h.1 hn hm hs, fun q h1 h2 => (h.2 q (by omega) h2).congr fun k q1 q2 => hm.out k (.inr (by omega))⟩
theorem bu_end (h : Bu K n bs a d) (hn : n < a + 2 * bs) (hm : Mv a n d d') (hs : Srt K a n d') : Bl K n (2 * bs) d' := bi_end h.1 hn hm hs
theorem bu_end0 (h : Bu K n bs a d) (hn : n < a + 2 * bs) (h2 : n ≤ a + bs) : Bl K n (2 * bs) d := by
  refine bi_end h.1 hn (Mv.refl _ _ _) ?_
  by_cases c : a < n
  · have := (bu_parts h).1 c
    rw [Nat.min_eq_right h2] at this; exact this
  · exact srt_one _ _ _ (by omega)
theorem bl_whole (h : Bl K n bs d) (hn : n ≤ bs) : Srt K 0 n d := by
  by_cases c : 0 < n
  · have := h 0 (by omega)
    simp only [Nat.zero_mul, Nat.zero_add] at this
    rw [Nat.min_eq_right hn] at this; exact this
  · exact srt_one _ _ _ (by omega)
end

theorem insertion_eq {w0 w : World} {blk n cap a b : Nat} {x y : Int} {t : TypeId} {K : Nat → Int} {recv : Value} {d : Nat → Nat} (h : RowW w0 blk n t d w) (hC : Cmps w0 blk n recv K) (hI : Inv K n d) (hO : Okd n d) (hx : x = a) (hy : y = b) (hab : a ≤ b) (hb : b ≤ n) (hn : n ≤ 4611686018427387904) :
    Calls Tryz.prog 254 #[.slice (some ⟨blk, 0, none⟩) n cap, .int .i64 x, .int .i64 y, .func (.func 239) #[recv] #[]] w (SrtTo w0 blk n t K a b d) := by
  subst hx; subst hy; exact insertion_c w0 w blk n cap a b t K recv d h hC hI hO hab hb hn
theorem symMerge_eq {w0 w : World} {blk n cap a m b : Nat} {x y z : Int} {t : TypeId} {K : Nat → Int} {recv : Value} {d : Nat → Nat} (h : RowW w0 blk n t d w) (hC : Cmps w0 blk n recv K) (hI : Inv K n d) (hO : Okd n d) (hx : x = a) (hy : y = m) (hz : z = b) (ham : a < m) (hmb : m < b) (hb : b ≤ n) (hn : n ≤ 4611686018427387904) (h1 : Srt K a m d) (h2 : Srt K m b d) :
    Calls Tryz.prog 255 #[.slice (some ⟨blk, 0, none⟩) n cap, .int .i64 x, .int .i64 y, .int .i64 z, .func (.func 239) #[recv] #[]] w (SrtTo w0 blk n t K a b d) := by
  subst hx; subst hy; subst hz; exact symMerge_c w0 blk n cap t K recv hC hn (b - a) w a m b d (Nat.le_refl _) h hI hO ham hmb hb h1 h2

set_option maxRecDepth 100000 in
set_option maxHeartbeats 8000000 in
theorem stable_c (w0 w : World) (blk n cap : Nat) (t : TypeId) (K : Nat → Int) (recv : Value) (d : Nat → Nat) (h : RowW w0 blk n t d w) (hC : Cmps w0 blk n recv K) (hI : Inv K n d) (hO : Okd n d) (hn : n ≤ 2305843009213693952) :
    Calls Tryz.prog 252 #[.slice (some ⟨blk, 0, none⟩) n cap, .int .i64 n, .func (.func 239) #[recv] #[]] w (SrtTo w0 blk n t K 0 n d) := by
  have H := hidE h; have HC := hidE hC; have HI := hidE hI; have HO := hidE hO
  clear h hC hI hO
  go_enter Tryz.func252, Tryz.ntmps252
  go_wp2
  go_loopg [7, 8] n (fun g1 va vb wr => ∃ (a : Nat) (dk : Nat → Nat), va = .int .i64 a ∧ vb = .int .i64 ((a : Int) + 20) ∧ a ≤ n ∧ n - a ≤ g1 ∧ RowW w0 blk n t dk wr ∧ Mv 0 n d dk ∧ Inv K n dk ∧ Bi K n 20 a dk)
  case atStart => exact ⟨0, d, rfl, rfl, by omega, by omega, H.out, Mv.refl _ _ _, HI.out, bi_start _ _ _ _⟩
  case round =>
    obtain ⟨a, dk, rfl, rfl, han, hg1, hr, hm, hi, hb⟩ := hrel
    have HR := hidE hr; have HM := hidE hm; have HJ := hidE hi; have HB := hidE hb
    have HOK := hidE (HO.out.mv hm (Nat.le_refl _))
    clear hr hm hi hb
    by_cases hlt : a + 20 ≤ n
    · have hltz : (a : Int) + 20 ≤ (n : Int) := by omega
      go_wp2_with (go_at_call 254; ((with_reducible refine (insertion_eq (a := a) (b := a + 20) HR.out HC.out HJ.out HOK.out rfl (by omega) (by omega) (by omega) (by omega)).mono ?_); rintro e w1 ⟨rfl, d1, hr1, hm1, hi1, hs1⟩))
      go_roundg (n - (a + 20))
      case measure => omega
      case rel => exact ⟨a + 20, d1, by go_num, by go_num, by omega, by omega, hr1, HM.out.trans (hm1.mono (by omega) (by omega)), hi1, bi_step HB.out hlt hm1 hs1⟩
    · have hltz : ¬ (a : Int) + 20 ≤ (n : Int) := by omega
      go_wp2_with (go_at_call 254; ((with_reducible refine (insertion_eq (a := a) (b := n) HR.out HC.out HJ.out HOK.out rfl rfl (by omega) (by omega) (by omega)).mono ?_); rintro e w1 ⟨rfl, d1, hr1, hm1, hi1, hs1⟩))
      have R1 := hidE hr1; have M1 := hidE (HM.out.trans (hm1.mono (by omega) (by omega))); have I1 := hidE hi1; have B1 := hidE (bi_end HB.out (by omega) hm1 hs1)
      clear hr1 hm1 hi1 hs1 HR HM HJ HB HOK
      go_loopg [6, 7, 8, 9] n (fun g2 vs va vb vm wr2 => ∃ (bs : Nat) (dk : Nat → Nat), vs = .int .i64 bs ∧ 0 < bs ∧ bs ≤ 2 * n + 20 ∧ n - bs ≤ g2 ∧ RowW w0 blk n t dk wr2 ∧ Mv 0 n d dk ∧ Inv K n dk ∧ Bl K n bs dk)
      case atStart => exact ⟨20, d1, rfl, by omega, by omega, by omega, R1.out, M1.out, I1.out, B1.out⟩
      case round =>
        clear R1 M1 I1 B1
        obtain ⟨bs, dk, rfl, hbs, hbn, hg2, hr, hm, hi, hb⟩ := hrel
        have HR := hidE hr; have HM := hidE hm; have HJ := hidE hi; have HB := hidE hb
        clear hr hm hi hb
        by_cases hlt : bs < n
        · have hltz : (bs : Int) < (n : Int) := by omega
          obtain ⟨wo, rfl⟩ : ∃ wo : World, wo = wr := ⟨_, rfl⟩
          go_wp2
          go_loopg [7, 8] n (fun g3 va vb wr3 => ∃ (a : Nat) (dk : Nat → Nat), va = .int .i64 a ∧ vb = .int .i64 ((a : Int) + 2 * (bs : Int)) ∧ a ≤ n ∧ n - a ≤ g3 ∧ RowW w0 blk n t dk wr3 ∧ Mv 0 n d dk ∧ Inv K n dk ∧ Bu K n bs a dk)
          case atStart => exact ⟨0, dk, rfl, by go_num, by omega, by omega, HR.out, HM.out, HJ.out, bu_start HB.out⟩
          case round =>
            clear HR HM HJ HB
            obtain ⟨a, dk, rfl, rfl, han, hg3, hr, hm, hi, hb⟩ := hrel
            have HR := hidE hr; have HM := hidE hm; have HJ := hidE hi; have HB := hidE hb
            have HOK := hidE (HO.out.mv hm (Nat.le_refl _))
            have hp := bu_parts hb
            have HP := hidE hp
            clear hr hm hi hb hp
            by_cases hle : a + 2 * bs ≤ n
            · have hlez : (a : Int) + 2 * (bs : Int) ≤ (n : Int) := by omega
              have x1 := HP.out.1 (by omega)
              have x2 := HP.out.2 (by omega)
              rw [Nat.min_eq_left (by omega)] at x1 x2
              have X1 := hidE x1; have X2 := hidE (x2.mono (Nat.le_refl _) (show a + 2 * bs ≤ a + bs + bs by omega)); clear x1 x2
              go_wp2_with (go_at_call 255; ((with_reducible refine (symMerge_eq (a := a) (m := a + bs) (b := a + 2 * bs) HR.out HC.out HJ.out HOK.out rfl (by omega) (by omega) (by omega) (by omega) (by omega) (by omega) X1.out X2.out).mono ?_); rintro e w1 ⟨rfl, d1, hr1, hm1, hi1, hs1⟩))
              go_roundg (n - (a + 2 * bs))
              case measure => omega
              case rel => exact ⟨a + 2 * bs, d1, by go_num, by go_num, by omega, by omega, hr1, HM.out.trans (hm1.mono (by omega) (by omega)), hi1, bu_step HB.out hle hm1 hs1⟩
            · have hlez : ¬ (a : Int) + 2 * (bs : Int) ≤ (n : Int) := by omega
              by_cases hmn : a + bs < n
              · have hmz : (a : Int) + (bs : Int) < (n : Int) := by omega
                have x1 := HP.out.1 (by omega)
                have x2 := HP.out.2 (by omega)
                rw [Nat.min_eq_left (by omega)] at x1
                rw [Nat.min_eq_right (by omega)] at x2
                have X1 := hidE x1; have X2 := hidE x2; clear x1 x2
                go_wp2_with (go_at_call 255; ((with_reducible refine (symMerge_eq (a := a) (m := a + bs) (b := n) HR.out HC.out HJ.out HOK.out rfl (by omega) rfl (by omega) (by omega) (by omega) (by omega) X1.out X2.out).mono ?_); rintro e w1 ⟨rfl, d1, hr1, hm1, hi1, hs1⟩))
                go_roundg (n - 2 * bs)
                case measure => omega
                case rel => exact ⟨2 * bs, d1, by go_num, by omega, by omega, by omega, hr1, HM.out.trans (hm1.mono (by omega) (by omega)), hi1, bu_end HB.out (by omega) hm1 hs1⟩
              · have hmz : ¬ (a : Int) + (bs : Int) < (n : Int) := by omega
                have HZ := hidE (bu_end0 HB.out (by omega) (by omega))
                go_wp2
                go_roundg (n - 2 * bs)
                case measure => omega
                case rel => exact ⟨2 * bs, dk, by go_num, by omega, by omega, by omega, HR.out, HM.out, HJ.out, HZ.out⟩
        · have hltz : ¬ (bs : Int) < (n : Int) := by omega
          go_wp2
          go_end0
          exact ⟨rfl, dk, HR.out, HM.out, HJ.out, bl_whole HB.out (by omega)⟩

theorem sortStable_c (w0 w : World) (blk n cap : Nat) (t : TypeId) (K : Nat → Int) (recv : Value) (d : Nat → Nat) (h : RowW w0 blk n t d w) (hC : Cmps w0 blk n recv K) (hI : Inv K n d) (hO : Okd n d) (hn : n ≤ 2305843009213693952) :
    Calls Tryz.prog 238 #[.slice (some ⟨blk, 0, none⟩) n cap, .func (.func 239) #[recv] #[]] w (SrtTo w0 blk n t K 0 n d) := by
  have HK := hidE (stable_c w0 w blk n cap t K recv d h hC hI hO hn)
  clear h hC hI hO
  go_enter Tryz.func238, Tryz.ntmps238
  go_wp2_with (go_at_call 252; ((with_reducible refine (HK.out).mono ?_); rintro e w1 ⟨rfl, hx⟩))
  go_end0
  exact ⟨rfl, hx⟩
end Go.Proofs.YtjhhcljbmnomlaaGreat

namespace Go.Proofs.YtjhhcljbmnomlaaGreat
open Go.ChangeShapes Go.WideShapes Go.ChangeAt Go.RowKit
attribute [local irreducible] Go.Calls

end Go.Proofs.YtjhhcljbmnomlaaGreat

namespace Go.Proofs.YtjhhcljbmnomlaaGreat
open Go.ChangeShapes Go.WideShapes Go.ChangeAt Go.RowKit
attribute [local irreducible] Go.Calls

theorem valid_c (s : Sg) (w : World) : Calls Tryz.prog 123 #[S s.1 s.2.1 s.2.2] w fun e w' => e = .returned (.bool (okS s)) ∧ Below w.heap.size w w' := by
  obtain ⟨x, m, c⟩ := s
  show Calls _ _ #[S x m c] _ _
  by_cases h1 : -1125899906842624 ≤ x
  · by_cases h2 : x ≤ 1125899906842624
    · have e : okS (x, m, c) = okV m c := by
        have : okT x = true := okT_iff.2 ⟨h1, h2⟩
        unfold okS; simp only [this, Bool.true_and]
      rw [e]
      have d1 : decide (-1125899906842624 ≤ x) = true := decide_eq_true h1
      have d2 : decide (x ≤ 1125899906842624) = true := decide_eq_true h2
      clear e
      go_enter Tryz.func123, Tryz.ntmps123
      go_wp2_with (go_at_call 135; ((with_reducible refine (may m c _).mono ?_); rintro e w' ⟨rfl, hb⟩; obtain ⟨hc, hf⟩ := bcell hb))
      go_ret
      exact ⟨rfl, by (repeat (first | exact Below.refl _ _ | assumption | refine balloc ?_ _ | refine below_drewN ?_ _ | refine bstep (by assumption) ?_ | refine bstep (Past.prop _) ?_ | refine Below.setCell ?_ (by first | exact Nat.le_refl _ | (simp; done) | (simp; omega)) _))⟩
    · have e : okS (x, m, c) = false := by
        have : okT x = false := decide_eq_false (by omega)
        unfold okS; simp only [this, Bool.false_and]
      rw [e]
      have d1 : decide (-1125899906842624 ≤ x) = true := decide_eq_true h1
      have d2 : decide (x ≤ 1125899906842624) = false := decide_eq_false h2
      clear e
      go_enter Tryz.func123, Tryz.ntmps123
      go_wp2
      go_ret
      exact ⟨rfl, by (repeat (first | exact Below.refl _ _ | assumption | refine balloc ?_ _ | refine below_drewN ?_ _ | refine bstep (by assumption) ?_ | refine bstep (Past.prop _) ?_ | refine Below.setCell ?_ (by first | exact Nat.le_refl _ | (simp; done) | (simp; omega)) _))⟩
  · have e : okS (x, m, c) = false := by
      have : okT x = false := decide_eq_false (by omega)
      unfold okS; simp only [this, Bool.false_and]
    rw [e]
    have d1 : decide (-1125899906842624 ≤ x) = false := decide_eq_false h1
    clear e
    go_enter Tryz.func123, Tryz.ntmps123
    go_wp2
    go_ret
    exact ⟨rfl, by (repeat (first | exact Below.refl _ _ | assumption | refine balloc ?_ _ | refine below_drewN ?_ _ | refine bstep (by assumption) ?_ | refine bstep (Past.prop _) ?_ | refine Below.setCell ?_ (by first | exact Nat.le_refl _ | (simp; done) | (simp; omega)) _))⟩

/-- The closure that remembers: the block p holds what came last. -/
def ChgPost (w : World) (p : Nat) (m0 c0 m c : Int) (e : Ending) (w' : World) : Prop :=
  e = .returned (.bool (!((m, c) == (m0, c0)))) ∧ Blk w' p #[.int .i64 m, .int .i64 c] 65 ∧ w.grownBy w' (some p)

theorem chg_c (p : Nat) (m0 c0 m c : Int) (w : World) (hB : Blk w p #[.int .i64 m0, .int .i64 c0] 65) :
    Calls Tryz.prog 169 #[V m c, .pointer (some ⟨p, 0, none⟩)] w (ChgPost w p m0 c0 m c) := by
  have c1 := hB.cell 0; have c2 := hB.cell 1; have f := hB.free; have z := hB.lt
  simp at c1 c2
  have hp : p ≠ w.heap.size := by omega
  by_cases e1 : m = m0
  · subst e1
    by_cases e2 : c = c0
    · subst e2
      go_enter Tryz.func169, Tryz.ntmps169
      go_wp2
      go_ret
      refine ⟨ret_bool (by simp), ?_, ?_⟩
      · simpa using ((hB.set 0 (.int .i64 m)).set 1 (.int .i64 c)).alloc _
      · exact grown_trans (grown_trans (grown_set _ _ _ _) (grown_set _ _ _ _)) (grown_alloc _ _ _)
    · have d2 : (c == c0) = false := beq_eq_false_iff_ne.2 e2
      go_enter Tryz.func169, Tryz.ntmps169
      go_wp2
      go_ret
      refine ⟨ret_bool (by simp [e2]), ?_, ?_⟩
      · simpa using ((hB.set 0 (.int .i64 m)).set 1 (.int .i64 c)).alloc _
      · exact grown_trans (grown_trans (grown_set _ _ _ _) (grown_set _ _ _ _)) (grown_alloc _ _ _)
  · have d1 : (m == m0) = false := beq_eq_false_iff_ne.2 e1
    go_enter Tryz.func169, Tryz.ntmps169
    go_wp2
    go_ret
    refine ⟨ret_bool (by simp [e1]), ?_, ?_⟩
    · simpa using ((hB.set 0 (.int .i64 m)).set 1 (.int .i64 c)).alloc _
    · exact grown_trans (grown_trans (grown_set _ _ _ _) (grown_set _ _ _ _)) (grown_alloc _ _ _)

theorem changing_c (w : World) : Calls Tryz.prog 122 #[] w fun e w' => e = .returned (.func (.func 169) #[] #[.pointer (some ⟨w.heap.size, 0, none⟩)]) ∧ w' = w.alloc (.cells #[.int .i64 0, .int .i64 0] 65) := by
  go_enter Tryz.func122, Tryz.ntmps122
  go_wp2
  go_ret
  exact ⟨rfl, rfl⟩

theorem ends_c (l : List Sg) (a : Option Addr) (cap : Nat) (w : World) (hl : l.length ≤ 9223372036854775807) (hA : ArgS w a l) :
    Calls Tryz.prog 58 #[.slice a l.length cap] w fun e w' => e = .returned (.tuple #[.int .i64 (endsL l).1, .int .i64 (endsL l).2.1, .bool (endsL l).2.2]) ∧ Below w.heap.size w w' := by
  have HA := hidE hA; clear hA
  by_cases h0 : l.length = 0
  · have HE := hidE (show endsL l = (0, 0, true) by unfold endsL; rw [if_pos h0])
    obtain ⟨n, hn⟩ : ∃ n, n = l.length := ⟨_, rfl⟩
    rw [← hn] at h0 ⊢
    subst h0
    go_enter Tryz.func58, Tryz.ntmps58
    go_wp2
    go_ret3
    exact ⟨by rw [HE.out]; rfl, Below.refl _ _⟩
  · obtain ⟨k, hk⟩ : ∃ k, l.length = k + 1 := ⟨l.length - 1, by omega⟩
    have HE := hidE (show endsL l = (ats l 0, ats l k, vls l k == (0, 0)) by unfold endsL; rw [if_neg h0, hk, Nat.add_sub_cancel])
    obtain ⟨b, off, rfl, hb, hc⟩ := HA.out (by omega)
    obtain ⟨c0, c1, c2⟩ := hc.get (i := k) (by omega)
    obtain ⟨d0, d1, d2⟩ := hc.get (i := 0) (by omega)
    simp at d0
    have hk1 : k < 9223372036854775807 := by omega
    rw [hk]
    clear hc hk HA h0 d1 d2 hl
    generalize ats l 0 = u0 at *
    generalize ats l k = u at *
    generalize hv : vls l k = v at *
    obtain ⟨m, c⟩ := v
    clear hv
    dsimp only at c1 c2
    by_cases e1 : m = 0
    · subst e1
      by_cases e2 : c = 0
      · subst e2
        go_enter Tryz.func58, Tryz.ntmps58
        go_wp2
        go_quiet (fail)
        go_wp2
        go_ret3
        exact ⟨by rw [HE.out]; rfl, by (repeat (first | exact Below.refl _ _ | assumption | refine balloc ?_ _ | refine below_drewN ?_ _ | refine bstep (by assumption) ?_ | refine bstep (Past.prop _) ?_ | refine Below.setCell ?_ (by first | exact Nat.le_refl _ | (simp; done) | (simp; omega)) _))⟩
      · have e3 : (c == 0) = false := beq_eq_false_iff_ne.2 e2
        go_enter Tryz.func58, Tryz.ntmps58
        go_wp2
        go_quiet (fail)
        go_wp2
        go_ret3
        exact ⟨by rw [HE.out]; simp [e2], by (repeat (first | exact Below.refl _ _ | assumption | refine balloc ?_ _ | refine below_drewN ?_ _ | refine bstep (by assumption) ?_ | refine bstep (Past.prop _) ?_ | refine Below.setCell ?_ (by first | exact Nat.le_refl _ | (simp; done) | (simp; omega)) _))⟩
    · have e3 : (m == 0) = false := beq_eq_false_iff_ne.2 e1
      go_enter Tryz.func58, Tryz.ntmps58
      go_wp2
      go_quiet (fail)
      go_wp2
      go_ret3
      exact ⟨by rw [HE.out]; simp [e1], by (repeat (first | exact Below.refl _ _ | assumption | refine balloc ?_ _ | refine below_drewN ?_ _ | refine bstep (by assumption) ?_ | refine bstep (Past.prop _) ?_ | refine Below.setCell ?_ (by first | exact Nat.le_refl _ | (simp; done) | (simp; omega)) _))⟩
end Go.Proofs.YtjhhcljbmnomlaaGreat

namespace Go.Proofs.YtjhhcljbmnomlaaGreat
open Go.ChangeShapes Go.WideShapes Go.ChangeAt Go.RowKit
attribute [local irreducible] Go.Calls

theorem Tryz.infoInt : (Tryz.prog.info? 3).map (fun i => (i.zero, i.size, i.bytes)) = some (some (.int .i64 0), 1, 8) := by kernel_rfl

theorem madeInts (n : Nat) : madeCells #[.int .i64 0] (n * 1) = rowC n (fun _ => 0) := by
  apply Array.ext'
  rw [Nat.mul_one, toList_madeCells_one]
  apply List.ext_getElem
  · simp [rowC]
  · intro i h1 h2
    simp [rowC]

theorem make_ints (n : Nat) (hn : n ≤ 1099511627776) : ∀ w, (Instr.makeSlice 263 (.int .i64 (n : Int)) (.int .i64 (n : Int))).run Tryz.prog w = .ok (.slice (some ⟨w.heap.size, 0, none⟩) n n) (w.alloc (.cells (rowC n (fun _ => 0)) 3)) := by
  intro w
  obtain ⟨i0, hi, hz0, hz1, hz2⟩ := info_parts Tryz.infoInt
  have h := run_make (P := Tryz.prog) w 263 3 i0 (.int .i64 0) Tryz.underlying263 hi hz0 .i64 .i64 n n (by omega) (by omega) (by rw [hz2]; omega) (by omega)
  rw [h]
  simp only [Int.toNat_natCast, hz1, Value.cells]
  rw [madeInts]

/-- The first k places hold their own numbers. -/
def ordI (k : Nat) : Nat → Nat := fun j => if j < k then j else 0
theorem ordI_step (k : Nat) : (fun j => if j = k then k else ordI k j) = ordI (k + 1) := by
  funext j
  unfold ordI
  by_cases c : j = k
  · subst c; rw [if_pos rfl, if_pos (by omega)]
  · rw [if_neg c]
    by_cases c2 : j < k
    · rw [if_pos c2, if_pos (by omega)]
    · rw [if_neg c2, if_neg (by omega)]

theorem cmps_runs {l : List Sg} {a : Option Addr} {cap : Nat} {w : World} (hl : l.length ≤ 9223372036854775807) (hA : ArgS w a l) : Cmps w w.heap.size l.length (.slice a l.length cap) (ats l) := by
  intro w1 hb x y hx hy
  obtain ⟨b, off, rfl, h1, h2⟩ := hA.past hb (by omega)
  exact cmpRuns_c l b off cap x y w1 h1 hl h2 hx hy

def OrdPost (w : World) (l : List Sg) (e : Ending) (w' : World) : Prop :=
  ∃ p d, e = .returned (.slice (some ⟨p, 0, none⟩) l.length l.length) ∧ w.heap.size ≤ p ∧ Blk w' p (rowC l.length d) 3 ∧ Below w.heap.size w w' ∧ Mv 0 l.length id d ∧ Srt (ats l) 0 l.length d

set_option maxHeartbeats 1000000 in
theorem inOrder_c (l : List Sg) (a : Option Addr) (cap : Nat) (w : World) (hl : l.length ≤ 1099511627776) (hA : ArgS w a l) :
    Calls Tryz.prog 218 #[.slice a l.length cap] w (OrdPost w l) := by
  have HC := hidE (cmps_runs (cap := cap) (by omega) hA)
  obtain ⟨n, hn⟩ : ∃ n, n = l.length := ⟨_, rfl⟩
  have HN := hidE hn
  rw [← hn] at hl HC ⊢
  have hmk := make_ints n hl
  clear hA
  have HMK := hidE hmk; clear hmk hn
  go_enter Tryz.func218, Tryz.ntmps218
  go_upto_region 1 with fail
  have hmk := HMK.out w
  go_wp2_with fail
  clear hmk
  go_loopw [10, 4] (fun i _ wr => ∃ k : Nat, k ≤ n ∧ i = .int .i64 k ∧ RowW w w.heap.size n 3 (ordI k) wr) (fun i _ _ => n - (intOf i).toNat)
  case atStart => exact ⟨0, Nat.zero_le _, rfl, ⟨Blk.made _ _ _, by (repeat (first | exact Below.refl _ _ | assumption | refine balloc ?_ _ | refine below_drewN ?_ _ | refine bstep (by assumption) ?_ | refine bstep (Past.prop _) ?_ | refine Below.setCell ?_ (by first | exact Nat.le_refl _ | (simp; done) | (simp; omega)) _))⟩⟩
  case round =>
    obtain ⟨k, hk, rfl, hr⟩ := hrel
    by_cases hlt : k < n
    · have c1 := hr.cell (i := k) hlt
      have f1 := hr.free k
      have HR := hidE ((hr.set k k).ext (ordI_step k)); clear hr
      go_wp2
      go_roundw
      case rel => exact ⟨k + 1, by omega, by go_num, HR.out⟩
      case measure => simp [intOf]; omega
    · have hk' : k = n := by omega
      subst hk'
      have hrow : RowW w w.heap.size k 3 id wr := ⟨by
        have e := rowC_ext (n := k) (d := ordI k) (d' := id) (fun i hi => by unfold ordI; rw [if_pos hi]; rfl)
        rw [← e]; exact hr.here, hr.low⟩
      have HR := hidE hrow; clear hr hrow
      have HI := hidE (show Inv (ats l) k id from fun i j h1 h2 => .inr h1)
      have HO := hidE (show Okd k id from fun i hi => hi)
      go_wp2_with (go_at_call 238; ((with_reducible refine (sortStable_c w _ w.heap.size k k 3 (ats l) (.slice a k cap) id HR.out HC.out HI.out HO.out (by omega)).mono ?_); rintro e w1 ⟨rfl, d1, hr1, hm1, hi1, hs1⟩))
      go_ret
      have e := HN.out
      subst e
      exact ⟨_, d1, rfl, Nat.le_refl _, hr1.here, hr1.low, hm1, hs1⟩
end Go.Proofs.YtjhhcljbmnomlaaGreat

namespace Go.Proofs.YtjhhcljbmnomlaaGreat
open Go.ChangeShapes Go.WideShapes Go.ChangeAt Go.RowKit
attribute [local irreducible] Go.Calls

end Go.Proofs.YtjhhcljbmnomlaaGreat

namespace Go.Proofs.YtjhhcljbmnomlaaGreat
open Go.ChangeShapes Go.WideShapes Go.ChangeAt Go.RowKit
attribute [local irreducible] Go.Calls

theorem cmpr_nil (last : Int × Int) : cmpr last [] = [] := rfl
/-- One step of the compressing, at the place k of the order. -/
theorem cmpr_skip {s : List Sg} {k : Nat} {last : Int × Int} (h : k + 1 < s.length) (e : ats s (k + 1) = ats s k) : cmpr last (s.drop k) = cmpr last (s.drop (k + 1)) := by
  unfold ats at e
  rw [drop_cons (k := k) (by omega), drop_cons h]
  conv => lhs; unfold cmpr
  rw [if_pos e]
theorem cmpr_same {s : List Sg} {k : Nat} {last : Int × Int} (h : k < s.length) (e : k + 1 < s.length → ats s (k + 1) ≠ ats s k) (e2 : vls s k = last) : cmpr last (s.drop k) = cmpr (vls s k) (s.drop (k + 1)) := by
  rw [e2]
  unfold ats at e; unfold vls at e2
  by_cases c : k + 1 < s.length
  · rw [drop_cons (k := k) h, drop_cons c]
    conv => lhs; unfold cmpr
    rw [if_neg (e c), if_pos e2]
  · rw [drop_cons (k := k) h, List.drop_eq_nil_of_le (by omega : s.length ≤ k + 1)]
    unfold cmpr
    rw [if_pos e2]
theorem cmpr_new {s : List Sg} {k : Nat} {last : Int × Int} (h : k < s.length) (e : k + 1 < s.length → ats s (k + 1) ≠ ats s k) (e2 : vls s k ≠ last) : cmpr last (s.drop k) = s.getD k (0, 0, 0)   :: cmpr (vls s k) (s.drop (k + 1)) := by
  unfold ats at e; unfold vls at e2 ⊢
  by_cases c : k + 1 < s.length
  · rw [drop_cons (k := k) h, drop_cons c]
    conv => lhs; unfold cmpr
    rw [if_neg (e c), if_neg e2]
  · rw [drop_cons (k := k) h, List.drop_eq_nil_of_le (by omega : s.length ≤ k + 1)]
    unfold cmpr
    rw [if_neg e2]

set_option maxRecDepth 100000 in
set_option maxHeartbeats 4000000 in
theorem of_c (l : List Sg) (a : Option Addr) (cap : Nat) (w : World) (hl : l.length ≤ 1099511627776) (hA : ArgS w a l) :
    Calls Tryz.prog 182 #[.slice a l.length cap] w (OfPost w l) := by
  have HA := hidE hA; clear hA
  go_enter Tryz.func182, Tryz.ntmps182
  go_wp2
  go_loopg [13] l.length (fun g vi wr => ∃ k : Nat, k ≤ l.length ∧ l.length - k ≤ g ∧ vi = .int .i64 k ∧ (∀ i, i < k → okS (l.getD i (0, 0, 0)) = true) ∧ Below w.heap.size w wr)
  case atStart => exact ⟨0, Nat.zero_le _, by omega, rfl, fun i hi => by omega, Below.refl _ _⟩
  case round =>
    obtain ⟨k, hk, hg, rfl, hs, hb⟩ := hrel
    have HS := hidE hs; have HB := hidE hb; clear hs hb
    by_cases hlt : k < l.length
    · obtain ⟨b, off, rfl, hb, hc⟩ := (HA.out.past HB.out) (by omega)
      obtain ⟨c0, c1, c2⟩ := hc.get hlt
      clear hc
      cases hok : okS (l.getD k (0, 0, 0))
      · have HX := hidE (all_bad hlt hok)
        have HV := hidE (fun w => valid_c (l.getD k (0, 0, 0)) w)
        rw [hok] at HV
        change Hid (∀ w, Calls _ _ #[S (ats l k) (vls l k).1 (vls l k).2] _ _) at HV
        generalize ats l k = u at *
        generalize vls l k = v at *
        go_wp2_with (go_at_call 123; ((with_reducible refine (HV.out _).mono ?_); rintro e w1 ⟨rfl, hb1⟩))
        go_ret2
        exact ⟨_, [], 10, rfl, sliS_nil _, .inr ⟨HX.out, rfl, rfl⟩, by have := HB.out; (repeat (first | exact Below.refl _ _ | assumption | refine balloc ?_ _ | refine below_drewN ?_ _ | refine bstep (by assumption) ?_ | refine bstep (Past.prop _) ?_ | refine Below.setCell ?_ (by first | exact Nat.le_refl _ | (simp; done) | (simp; omega)) _))⟩
      · have HX := hidE (show ∀ i, i < k + 1 → okS (l.getD i (0, 0, 0)) = true from fun i hi => by
          by_cases e : i = k
          · rw [e]; exact hok
          · exact HS.out i (by omega))
        have HV := hidE (fun w => valid_c (l.getD k (0, 0, 0)) w)
        rw [hok] at HV
        change Hid (∀ w, Calls _ _ #[S (ats l k) (vls l k).1 (vls l k).2] _ _) at HV
        generalize ats l k = u at *
        generalize vls l k = v at *
        go_wp2_with (go_at_call 123; ((with_reducible refine (HV.out _).mono ?_); rintro e w1 ⟨rfl, hb1⟩))
        go_roundg (l.length - (k + 1))
        case measure => omega
        case rel => exact ⟨k + 1, by omega, Nat.le_refl _, by go_num, HX.out, by have := HB.out; (repeat (first | exact Below.refl _ _ | assumption | refine balloc ?_ _ | refine below_drewN ?_ _ | refine bstep (by assumption) ?_ | refine bstep (Past.prop _) ?_ | refine Below.setCell ?_ (by first | exact Nat.le_refl _ | (simp; done) | (simp; omega)) _))⟩
    · have hk' : k = l.length := by omega
      subst hk'
      have HX := hidE (all_good HS.out)
      clear HS
      go_wp2_with fail
      ((with_reducible refine (changing_c _).mono ?_); rintro e w1 ⟨rfl, rfl⟩)
      have hb0 : Below w.heap.size w (wr.alloc (.cells #[.int .i64 0, .int .i64 0] 65)) := by have := HB.out; (repeat (first | exact Below.refl _ _ | assumption | refine balloc ?_ _ | refine below_drewN ?_ _ | refine bstep (by assumption) ?_ | refine bstep (Past.prop _) ?_ | refine Below.setCell ?_ (by first | exact Nat.le_refl _ | (simp; done) | (simp; omega)) _))
      have hp0 : w.heap.size ≤ wr.heap.size := HB.out.size
      have B0 : Blk (wr.alloc (.cells #[.int .i64 0, .int .i64 0] 65)) wr.heap.size #[.int .i64 0, .int .i64 0] 65 := Blk.made _ _ _
      have HB0 := hidE hb0; have HBL := hidE B0
      clear hb0 B0 HB hg
      obtain ⟨p, hp⟩ : ∃ p, p = wr.heap.size := ⟨_, rfl⟩
      rw [← hp] at hp0 HBL ⊢
      generalize wr.alloc (.cells #[.int .i64 0, .int .i64 0] 65) = w1 at *
      clear hp
      go_wp2_with fail
      ((with_reducible refine (inOrder_c l a cap _ hl (HA.out.past HB0.out)).mono ?_); rintro e w2 ⟨q, d, rfl, hq, hbq, hb2, hm, hs⟩)
      have HIS := hidE (isOf_cmpr hm hs (fun x hx => List.all_eq_true.1 HX.out x hx))
      have HOD := hidE (show Okd l.length d from fun k hk => by
        obtain ⟨k', _, q2, e⟩ := hm.inn k (Nat.zero_le _) hk
        rw [e]; exact q2)
      have hpl := HBL.out.lt
      have HB2 := hidE (show Below w.heap.size w w2 by have := HB0.out; (repeat (first | exact Below.refl _ _ | assumption | refine balloc ?_ _ | refine below_drewN ?_ _ | refine bstep (by assumption) ?_ | refine bstep (Past.prop _) ?_ | refine Below.setCell ?_ (by first | exact Nat.le_refl _ | (simp; done) | (simp; omega)) _)))
      have HBP := hidE (HBL.out.past hb2)
      have HBQ := hidE hbq
      have hq2 := hbq.lt
      have hp2 : p < w2.heap.size := Nat.lt_of_lt_of_le hpl hb2.size
      have hpq : p ≠ q := by omega
      have hqw : w.heap.size ≤ q := Nat.le_trans HB0.out.size hq
      have hlo : w.heap.size ≤ w2.heap.size := by omega
      clear hm hs HBL HB0 hbq hb2 hpl hq
      generalize hB : w2.heap.size = B at hq2 hp2 hlo
      have HBE := hidE hB; clear hB
      go_wp2_with fail
      go_loopg [26, 6, 9, 10] l.length (fun g vi vf _ _ wr2 => ∃ (k : Nat) (fk : List Sg) (last : Int × Int) (v6 : Value), vi = .int .i64 k ∧ v6 = vf ∧ k ≤ l.length ∧ l.length - k ≤ g ∧ fk.length ≤ k ∧ wr2.ownsRow B 105 3 v6 fk.length (cellsOfS fk) ∧ Blk wr2 p #[.int .i64 last.1, .int .i64 last.2] 65 ∧ Blk wr2 q (rowC l.length d) 3 ∧ Below w.heap.size w wr2 ∧ B ≤ wr2.heap.size ∧ Hid (fk ++ cmpr last ((ordL l d).drop k) = cmpr (0, 0) (ordL l d)))
      case atStart => exact ⟨0, [], (0, 0), .slice none 0 0, rfl, rfl, by omega, by omega, Nat.le_refl _, ⟨rfl, .inl ⟨rfl, rfl⟩⟩, HBP.out, HBQ.out, HB2.out, Nat.le_of_eq HBE.out.symm, rfl⟩
      case round =>
        clear HBP HBQ HB2 HBE
        obtain ⟨k, fk, last, s6, rfl, rfl, hk, hg, hfk, hown, hbp, hbq, hb, hB, HF⟩ := hrel
        have HOW := hidE hown; have HBP := hidE hbp; have HBQ := hidE hbq; have HB := hidE hb
        clear hown hbp hbq hb
        by_cases hlt : k < l.length
        · obtain ⟨b, off, rfl, hb, hc⟩ := (HA.out.past HB.out) (by omega)
          have hbw : b < w.heap.size := by
            obtain ⟨b', off', e, hb', _⟩ := HA.out (by omega)
            simp at e; omega
          obtain ⟨c0, c1, c2⟩ := hc.get (i := d k) (HOD.out k hlt)
          have r0 := (HBQ.out.cell k).trans (rowC_get hlt)
          have hdk := HOD.out k hlt
          have hbz : b < wr.heap.size := hb
          have hqz := HBQ.out.lt
          have HEA := hidE (ordL_ats (l := l) (d := d) hlt)
          have HEV := hidE (ordL_vls (l := l) (d := d) hlt)
          by_cases hskip : k + 1 < l.length ∧ ats l (d (k + 1)) = ats l (d k)
          · obtain ⟨hk1, hsame⟩ := hskip
            have HF2 := hidE (show fk ++ cmpr last ((ordL l d).drop (k + 1)) = cmpr (0, 0) (ordL l d) by
              rw [← HF.out, cmpr_skip (k := k) (by rw [ordL_len]; exact hk1) (by rw [ordL_ats hk1, ordL_ats hlt]; exact hsame)])
            obtain ⟨d0, d1, d2⟩ := hc.get (i := d (k + 1)) (HOD.out _ hk1)
            have r1 := (HBQ.out.cell (k + 1)).trans (rowC_get hk1)
            have hdk1 := HOD.out _ hk1
            rw [hsame] at d0
            clear hc hsame c1 c2 d1 d2 HF HEA HEV
            have HCE := hidE (show ∀ x : Past wr, wr.heap.size ≤ x.1.heap.size from fun x => x.2.size)
            generalize ats l (d k) = u at *
            generalize d k = i0 at *
            generalize d (k + 1) = i1 at *
            have g1 : decide ((k : Int) + 1 < (l.length : Int)) = true := decide_eq_true (by omega)
            go_wp2
            refine wp_region_past_lit (by kernel_rfl) (by kernel_rfl) ?_
            have hcp := Past.cell (W := wr)
            repeat (go_big_quiet_step (fail))
            refine wpQuiet_nil ?_
            rintro _ ⟨x', rfl⟩
            have o1 := own_below HOW.out x'.2
            have o2 := HBP.out.past x'.2
            have o3 := HBQ.out.past x'.2
            have o4 : Below w.heap.size w x'.1 := by have := HB.out; (repeat (first | exact Below.refl _ _ | assumption | refine balloc ?_ _ | refine below_drewN ?_ _ | refine bstep (by assumption) ?_ | refine bstep (Past.prop _) ?_ | refine Below.setCell ?_ (by first | exact Nat.le_refl _ | (simp; done) | (simp; omega)) _))
            have o5 := Nat.le_trans hB x'.2.size
            clear hcp c0 d0 r0 r1
            generalize x'.1 = w3 at o1 o2 o3 o4 o5 ⊢
            go_wp2
            go_roundg (l.length - (k + 1))
            case measure => omega
            case rel => exact ⟨k + 1, fk, last, s6, by go_num, rfl, by omega, Nat.le_refl _, by omega, o1, o2, o3, o4, o5, HF2.out⟩
          · have HNE := hidE (show k + 1 < (ordL l d).length → ats (ordL l d) (k + 1) ≠ ats (ordL l d) k from fun h => by
              rw [ordL_len] at h
              rw [ordL_ats h, ordL_ats hlt]
              exact fun e => hskip ⟨h, e⟩)
            have HOL := hidE (show k < (ordL l d).length by rw [ordL_len]; exact hlt)
            generalize hdk0 : d k = dk at r0 c0 c1 c2 hdk HEA HEV hskip
            clear hdk0
            go_wp2
            go_cut [52] (fun s52 wx => s52 = .bool false ∧ wx.ownsRow B 105 3 s6 fk.length (cellsOfS fk) ∧ Blk wx p #[.int .i64 last.1, .int .i64 last.2] 65 ∧ Blk wx q (rowC l.length d) 3 ∧ Below w.heap.size w wx ∧ B ≤ wx.heap.size)
            case first =>
              by_cases hk1 : k + 1 < l.length
              · have hdf : (ats l (d (k + 1)) == ats l dk) = false := beq_eq_false_iff_ne.2 fun e => hskip ⟨hk1, e⟩
                obtain ⟨d0, d1, d2⟩ := hc.get (i := d (k + 1)) (HOD.out _ hk1)
                have r1 := (HBQ.out.cell (k + 1)).trans (rowC_get hk1)
                have hdk1 := HOD.out _ hk1
                clear hc hskip c1 c2 d1 d2 HF HEA HEV HNE
                generalize ats l dk = u at *
                generalize ats l (d (k + 1)) = u1 at *
                generalize d (k + 1) = i1 at *
                have g1 : decide ((k : Int) + 1 < (l.length : Int)) = true := decide_eq_true (by omega)
                refine wp_region_past_lit (by kernel_rfl) (by kernel_rfl) ?_
                have hcp := Past.cell (W := wr)
                repeat (go_big_quiet_step (fail))
                refine wpQuiet_nil ?_
                rintro _ ⟨x', rfl⟩
                go_wp2
                go_meet
                case rel => exact ⟨rfl, own_below HOW.out x'.2, HBP.out.past x'.2, HBQ.out.past x'.2, by have := HB.out; (repeat (first | exact Below.refl _ _ | assumption | refine balloc ?_ _ | refine below_drewN ?_ _ | refine bstep (by assumption) ?_ | refine bstep (Past.prop _) ?_ | refine Below.setCell ?_ (by first | exact Nat.le_refl _ | (simp; done) | (simp; omega)) _)), Nat.le_trans hB x'.2.size⟩
              · clear hc hskip c1 c2 HF HEA HEV HNE
                have g1 : decide ((k : Int) + 1 < (l.length : Int)) = false := decide_eq_false (by omega)
                refine wp_region_past_lit (by kernel_rfl) (by kernel_rfl) ?_
                have hcp := Past.cell (W := wr)
                repeat (go_big_quiet_step (fail))
                refine wpQuiet_nil ?_
                rintro _ ⟨x', rfl⟩
                go_wp2
                go_meet
                case rel => exact ⟨rfl, own_below HOW.out x'.2, HBP.out.past x'.2, HBQ.out.past x'.2, by have := HB.out; (repeat (first | exact Below.refl _ _ | assumption | refine balloc ?_ _ | refine below_drewN ?_ _ | refine bstep (by assumption) ?_ | refine bstep (Past.prop _) ?_ | refine Below.setCell ?_ (by first | exact Nat.le_refl _ | (simp; done) | (simp; omega)) _)), Nat.le_trans hB x'.2.size⟩
            obtain ⟨rfl, o1, o2, o3, o4, o5⟩ := hcut
            have hc2 : CellsS wc b off l := by
              obtain ⟨b', off', e, hb', hcc⟩ := HA.out.past o4 (by omega)
              simp at e
              obtain ⟨rfl, rfl⟩ := e
              exact hcc
            have hbc : b < wc.heap.size := by have := o4.size; omega
            obtain ⟨c0, c1, c2⟩ := hc2.get (i := dk) hdk
            have O1 := hidE o1; have O2 := hidE o2; have O3 := hidE o3; have O4 := hidE o4; have O5 := hidE o5
            clear o1 o2 o3 o4 hc hc2 r0 HOW HBP HBQ HB hskip
            by_cases hsv : vls l dk = last
            · have HF2 := hidE (show fk ++ cmpr (vls l dk) ((ordL l d).drop (k + 1)) = cmpr (0, 0) (ordL l d) by
                rw [← HF.out, cmpr_same (k := k) HOL.out HNE.out (by rw [HEV.out]; exact hsv), HEV.out])
              have hbb : (!(((vls l dk).1, (vls l dk).2) == (last.1, last.2))) = false := by rw [hsv]; simp
              clear HF HEA HEV HNE hsv
              generalize ats l dk = u at *
              generalize vls l dk = v at *
              go_wp2_with fail
              ((with_reducible refine (chg_c p last.1 last.2 v.1 v.2 _ O2.out).mono ?_); rintro e w3 ⟨rfl, q1, q2⟩)
              have n1 := own_grown O1.out q2 hp2
              have n3 := O3.out.grown q2 (by intro e; simp at e; omega)
              have n4 : Below w.heap.size w w3 := O4.out.grown q2 (by omega) (fun k hk => by simp at hk; omega)
              have n5 : B ≤ w3.heap.size := Nat.le_trans O5.out q2.size
              clear q2 c0 c1 c2
              go_wp2
              go_roundg (l.length - (k + 1))
              case measure => omega
              case rel => exact ⟨k + 1, fk, v, s6, by go_num, rfl, by omega, Nat.le_refl _, by omega, n1, q1, n3, n4, n5, HF2.out⟩
            · have HF2 := hidE (show (fk ++ [(ordL l d).getD k (0, 0, 0)]) ++ cmpr (vls l dk) ((ordL l d).drop (k + 1)) = cmpr (0, 0) (ordL l d) by
                rw [← HF.out, cmpr_new (k := k) HOL.out HNE.out (by rw [HEV.out]; exact hsv), HEV.out, List.append_assoc]; rfl)
              have hbb : (!(((vls l dk).1, (vls l dk).2) == (last.1, last.2))) = true := by
                rw [Bool.not_eq_true']; exact beq_eq_false_iff_ne.2 hsv
              have HSK := hidE (show cellsOfS (fk ++ [(ordL l d).getD k (0, 0, 0)]) = cellsOfS fk ++ [.int .i64 (ats l dk), .int .i64 (vls l dk).1, .int .i64 (vls l dk).2] by
                rw [cellsOfS_app]
                have e1 := HEA.out; have e2 := HEV.out
                unfold ats at e1 ⊢; unfold vls at e2 ⊢
                rw [← e1, ← e2]; rfl)
              clear HF HEA HEV HNE hsv
              generalize ats l dk = u at *
              generalize vls l dk = v at *
              obtain ⟨i0, hi, hz0, hz1, hz2⟩ := info_parts Tryz.infoSeg
              have HI := hidE hi; have HZ0 := hidE hz0; have HZ1 := hidE hz1; have HZ2 := hidE hz2
              clear hi hz0 hz1 hz2
              go_wp2_with fail
              ((with_reducible refine (chg_c p last.1 last.2 v.1 v.2 _ O2.out).mono ?_); rintro e w3 ⟨rfl, q1, q2⟩)
              have hc3 : b < w3.heap.size := Nat.lt_of_lt_of_le hbc q2.size
              have hbp : some b ≠ some p := by intro e; simp at e; omega
              have hblk := q2.block b hbc hbp
              have t0 : w3.cell? ⟨b, off + dk * 3, none⟩ = some (.int .i64 u) := (World.cell?_of_block (w := wc) (a := ⟨b, off + dk * 3, none⟩) hblk).trans c0
              have t1 : w3.cell? ⟨b, off + dk * 3 + 1, none⟩ = some (.int .i64 v.1) := (World.cell?_of_block (w := wc) (a := ⟨b, off + dk * 3 + 1, none⟩) hblk).trans c1
              have t2 : w3.cell? ⟨b, off + dk * 3 + 2, none⟩ = some (.int .i64 v.2) := (World.cell?_of_block (w := wc) (a := ⟨b, off + dk * 3 + 2, none⟩) hblk).trans c2
              have n1 := own_grown O1.out q2 hp2
              have n3 := O3.out.grown q2 (by intro e; simp at e; omega)
              have n4 : Below w.heap.size w w3 := O4.out.grown q2 (by omega) (fun k hk => by simp at hk; omega)
              have n5 : B ≤ w3.heap.size := Nat.le_trans O5.out q2.size
              have N1 := hidE n1; have N3 := hidE n3; have N4 := hidE n4; have Q1 := hidE q1
              clear q2 c0 c1 c2 n1 n3 n4 q1 hblk hbp
              go_wp2_with (at_builtin; refine wpList_append_own _ rfl (.tmp 60) (.tmp 65) 22 rfl B 105 i0 (.agg #[.int .i64 0, .int .i64 0, .int .i64 0]) 3 24 Tryz.underlying22 HI.out HZ0.out HZ1.out HZ2.out rfl (by decide) _ _ _ rfl (N1.out.alloc _) ⟨w3.heap.size, 0, none⟩ 1 1 [.int .i64 u, .int .i64 v.1, .int .i64 v.2] rfl rfl (new_cells w3 #[.int .i64 u, .int .i64 v.1, .int .i64 v.2] 105) (by intro x hx; simp at hx; rcases hx with rfl | rfl | rfl <;> rfl) (by unfold maxLen; omega) (by omega) (by simp; omega) ?_; intro v' w4 hown4 hgrow4 _)
              have p1 := (Blk.alloc Q1.out (.cells #[.int .i64 u, .int .i64 v.1, .int .i64 v.2] 105)).grown hgrow4 (fun e => by have := own_block N1.out e.symm; omega)
              have p3 := (Blk.alloc N3.out (.cells #[.int .i64 u, .int .i64 v.1, .int .i64 v.2] 105)).grown hgrow4 (fun e => by have := own_block N1.out e.symm; omega)
              have p4 : Below w.heap.size w w4 := Below.grown (N4.out.alloc (by omega) (.cells #[.int .i64 u, .int .i64 v.1, .int .i64 v.2] 105)) hgrow4 (by simp; omega) (fun k hk => by have := own_block N1.out hk; omega)
              have p5 : B ≤ w4.heap.size := Nat.le_trans n5 (Nat.le_trans (by simp) hgrow4.size)
              rw [← HSK.out] at hown4
              have P1 := hidE p1; have P3 := hidE p3; have P4 := hidE p4; have PO := hidE hown4
              clear p1 p3 p4 hown4 hgrow4 t0 t1 t2
              go_wp2
              go_roundg (l.length - (k + 1))
              case measure => omega
              case rel => exact ⟨k + 1, fk ++ [(ordL l d).getD k (0, 0, 0)], v, v', by go_num, rfl, by omega, Nat.le_refl _, by simp; omega, by rw [List.length_append]; exact PO.out, P1.out, P3.out, P4.out, p5, HF2.out⟩
        · have hk' : k = l.length := by omega
          subst hk'
          have e := HF.out
          rw [List.drop_eq_nil_of_le (by rw [ordL_len]; exact Nat.le_refl _)] at e
          rw [cmpr_nil, List.append_nil] at e
          have HE := hidE e; clear e
          go_wp2
          go_ret2
          exact ⟨_, fk, 0, rfl, sliS_own HOW.out, .inl ⟨HX.out, rfl, by rw [HE.out]; exact HIS.out⟩, HB.out⟩
end Go.Proofs.YtjhhcljbmnomlaaGreat
