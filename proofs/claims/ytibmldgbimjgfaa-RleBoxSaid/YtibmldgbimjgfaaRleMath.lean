/- Step functions as lists of runs: values, order, canonical lists. No program. No conditions. -/
import Derived.Test.YtibmldgbimjgfaaSortMath
import Derived.Test.YtibmldgbimjgfaaVecMath
namespace Go.Proofs.Ytibmldgbimjgfaa

/-- A run: its time, its vector. -/
abbrev Sg := Int × Int × Int
/-- The times of a list of runs, by their places. -/
def ats (l : List Sg) (i : Nat) : Int := (l.getD i (0, 0, 0)).1
/-- The vectors of a list of runs, by their places. -/
def vls (l : List Sg) (i : Nat) : Int × Int := (l.getD i (0, 0, 0)).2

def stepV (t : Int) (acc : Int × Int) (s : Sg) : Int × Int := if s.1 ≤ t then s.2 else acc
/-- The vector of the last run of the list among those that are at most t. -/
def vat (l : List Sg) (t : Int) : Int × Int := l.foldl (stepV t) (0, 0)

theorem vat_nil (t : Int) : vat [] t = (0, 0) := rfl
theorem vat_snoc (l : List Sg) (s : Sg) (t : Int) : vat (l ++ [s]) t = if s.1 ≤ t then s.2 else vat l t := by
  unfold vat; rw [List.foldl_append]; rfl
theorem foldl_gt (t : Int) : ∀ (r : List Sg) (acc : Int × Int), (∀ s ∈ r, t < s.1) → r.foldl (stepV t) acc = acc
  | [], _, _ => rfl
  | s :: r, acc, h => by
    have h1 : stepV t acc s = acc := by
      unfold stepV
      have := h s (by simp)
      rw [if_neg (by omega)]
    rw [List.foldl_cons, h1]
    exact foldl_gt t r acc fun x hx => h x (by simp [hx])
theorem vat_gt (l r : List Sg) (t : Int) (h : ∀ s ∈ r, t < s.1) : vat (l ++ r) t = vat l t := by
  unfold vat; rw [List.foldl_append]; exact foldl_gt t r _ h
theorem getD_get {α : Type} (l : List α) (i : Nat) (d : α) (h : i < l.length) : l.getD i d = l[i] := by
  rw [List.getD_eq_getElem?_getD, List.getElem?_eq_getElem h]; rfl
theorem vat_of {l : List Sg} {t : Int} {n : Nat} (hn : n ≤ l.length) (h1 : n = 0 ∨ ats l (n - 1) ≤ t) (h2 : ∀ i, n ≤ i → i < l.length → t < ats l i) : vat l t = if n = 0 then (0, 0) else vls l (n - 1) := by
  have e : l = l.take n ++ l.drop n := (List.take_append_drop n l).symm
  have hd : vat l t = vat (l.take n) t := by
    conv => lhs; rw [e]
    refine vat_gt _ _ _ fun s hs => ?_
    obtain ⟨i, hi, rfl⟩ := List.getElem_of_mem hs
    rw [List.length_drop] at hi
    rw [List.getElem_drop]
    have := h2 (n + i) (by omega) (by omega)
    unfold ats at this
    rw [getD_get _ _ _ (by omega)] at this
    exact this
  rw [hd]
  by_cases c : n = 0
  · subst c; simp [vat]
  · rw [if_neg c]
    have ht : l.take n = l.take (n - 1) ++ [l[n - 1]] := by
      have := List.take_succ_eq_append_getElem (l := l) (i := n - 1) (by omega)
      rw [show n - 1 + 1 = n by omega] at this
      exact this
    rw [ht, vat_snoc]
    have h3 := h1.resolve_left c
    unfold ats at h3
    rw [getD_get _ _ _ (by omega)] at h3
    rw [if_pos h3]
    unfold vls
    rw [getD_get _ _ _ (by omega)]

/-- The times of the list do not fall. -/
def Asc (l : List Sg) : Prop := ∀ i, i + 1 < l.length → ats l i ≤ ats l (i + 1)
theorem Asc.le {l : List Sg} (h : Asc l) : ∀ (k i : Nat), i + k < l.length → ats l i ≤ ats l (i + k)
  | 0, i, _ => Int.le_refl _
  | k + 1, i, hk => Int.le_trans (h.le k i (by omega)) (h (i + k) (by omega))
theorem Asc.le' {l : List Sg} (h : Asc l) {i j : Nat} (hij : i ≤ j) (hj : j < l.length) : ats l i ≤ ats l j := by
  have := h.le (j - i) i (by omega)
  rwa [show i + (j - i) = j by omega] at this
/-- What a search by halves finds. -/
def Found (l : List Sg) (t : Int) (n : Nat) : Prop := (n = 0 ∨ ats l (n - 1) ≤ t) ∧ (n = l.length ∨ t < ats l n)
theorem Found.vat {l : List Sg} {t : Int} {n : Nat} (h : Found l t n) (hn : n ≤ l.length) (ha : Asc l) : vat l t = if n = 0 then (0, 0) else vls l (n - 1) :=
  vat_of hn h.1 fun i h1 h2 => by
    rcases h.2 with c | c
    · omega
    · exact Int.lt_of_lt_of_le c (ha.le' h1 h2)
end Go.Proofs.Ytibmldgbimjgfaa
