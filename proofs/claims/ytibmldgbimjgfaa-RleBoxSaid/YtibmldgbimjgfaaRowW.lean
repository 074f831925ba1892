/- A row of integers of a call's own, and what its exchanges come to. No conditions. -/
import Derived.Test.YtibmldgbimjgfaaLib
import Derived.Test.YtibmldgbimjgfaaSortMath
namespace Go.Proofs.Ytibmldgbimjgfaa
open Go.ChangeShapes Go.WideShapes Go.ChangeAt Go.RowKit

/-- The row's cells. -/
def rowC (n : Nat) (d : Nat → Nat) : Array Value := ((List.range n).map fun i => Value.int .i64 (d i)).toArray
theorem rowC_get {n : Nat} {d : Nat → Nat} {i : Nat} (h : i < n) : (rowC n d)[i]? = some (.int .i64 (d i)) := by
  simp [rowC, List.getElem?_range h]
theorem rowC_size (n : Nat) (d : Nat → Nat) : (rowC n d).size = n := by simp [rowC]
theorem rowC_ext {n : Nat} {d d' : Nat → Nat} (h : ∀ i, i < n → d i = d' i) : rowC n d = rowC n d' := by
  unfold rowC
  congr 1
  exact List.map_congr_left fun i hi => by rw [h i (by simpa using hi)]
theorem rowC_set {n : Nat} {d : Nat → Nat} {i : Nat} (v : Nat) : (rowC n d).setIfInBounds i (.int .i64 v) = rowC n (fun k => if k = i then v else d k) := by
  apply Array.ext_getElem?
  intro k
  rw [Array.getElem?_setIfInBounds, rowC_size]
  by_cases c : i = k
  · subst c
    rw [if_pos rfl]
    by_cases h : i < n
    · rw [if_pos h, rowC_get h, if_pos rfl]
    · rw [if_neg h, Array.getElem?_eq_none (by rw [rowC_size]; omega)]
  · rw [if_neg c]
    by_cases h : k < n
    · rw [rowC_get h, rowC_get h, if_neg (by omega)]
    · rw [Array.getElem?_eq_none (by rw [rowC_size]; omega), Array.getElem?_eq_none (by rw [rowC_size]; omega)]
theorem rowC_swap {n : Nat} {d : Nat → Nat} {i j : Nat} : ((rowC n d).setIfInBounds i (.int .i64 (d j))).setIfInBounds j (.int .i64 (d i)) = rowC n (sw d i j) := by
  rw [rowC_set, rowC_set]
  refine rowC_ext fun k _ => ?_
  unfold sw
  by_cases c1 : k = j
  · by_cases c2 : k = i
    · rw [if_pos c1, if_pos c2, ← c1, ← c2]
    · rw [if_pos c1, if_neg c2, if_pos c1]
  · rw [if_neg c1, if_neg c1]

/-- A world of the sort's: the row holds d; what lies below it is as it was. -/
structure RowW (w0 : World) (blk n : Nat) (t : TypeId) (d : Nat → Nat) (w : World) : Prop where
  here : Blk w blk (rowC n d) t
  low : Below blk w0 w
variable {w0 w w' : World} {blk n : Nat} {t : TypeId} {d : Nat → Nat}
theorem RowW.lt (h : RowW w0 blk n t d w) : blk < w.heap.size := h.here.lt
theorem RowW.cell (h : RowW w0 blk n t d w) {i : Nat} (hi : i < n) : w.cell? ⟨blk, i, none⟩ = some (.int .i64 (d i)) := (h.here.cell i).trans (rowC_get hi)
theorem RowW.free (h : RowW w0 blk n t d w) (i : Nat) : w.frozen? ⟨blk, i, none⟩ = false := h.here.free i
theorem RowW.past (h : RowW w0 blk n t d w) (hb : Below w.heap.size w w') : RowW w0 blk n t d w' := ⟨h.here.past hb, h.low.trans (hb.mono (Nat.le_of_lt h.lt))⟩
theorem RowW.set (h : RowW w0 blk n t d w) (i v : Nat) : RowW w0 blk n t (fun k => if k = i then v else d k) (w.setCell ⟨blk, i, none⟩ (.int .i64 v)) :=
  ⟨by rw [← rowC_set]; exact h.here.set i _, h.low.setCell (Nat.le_refl _) _⟩
theorem RowW.swap (h : RowW w0 blk n t d w) (i j : Nat) : RowW w0 blk n t (sw d i j) ((w.setCell ⟨blk, i, none⟩ (.int .i64 (d j))).setCell ⟨blk, j, none⟩ (.int .i64 (d i))) :=
  ⟨by rw [← rowC_swap]; exact (h.here.set i _).set j _, (h.low.setCell (Nat.le_refl _) _).setCell (Nat.le_refl _) _⟩
theorem RowW.drew (h : RowW w0 blk n t d w) : RowW w0 blk n t d w.drew := ⟨h.here.drew 1, h.low.drew⟩
theorem RowW.ext (h : RowW w0 blk n t d w) {d' : Nat → Nat} (e : d = d') : RowW w0 blk n t d' w := e ▸ h
/-- Behind the first store the second place still reads. -/
theorem RowW.c2 (h : RowW w0 blk n t d w) (i j : Nat) (hj : j < n) (v : Nat) : (w.setCell ⟨blk, i, none⟩ (.int .i64 v)).cell? ⟨blk, j, none⟩ = some (.int .i64 ((if j = i then v else d j : Nat))) :=
  (h.set i v).cell hj
end Go.Proofs.Ytibmldgbimjgfaa
