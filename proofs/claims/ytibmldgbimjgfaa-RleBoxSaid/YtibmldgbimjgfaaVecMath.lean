/- What the functions of package vec come to, as plain functions of integers, and the facts on them. No conditions. -/
import Derived.WalkKit
namespace Go.Proofs.Ytibmldgbimjgfaa

def okV (x y : Int) : Bool := decide (-1125899906842624 ≤ x ∧ x ≤ 1125899906842624 ∧ -1125899906842624 ≤ y ∧ y ≤ 1125899906842624)
def leB (a b c d : Int) : Bool := decide (a ≤ c ∧ b ≤ d)
def mn (a b : Int) : Int := if a ≤ b then a else b
def mx (a b : Int) : Int := if a ≤ b then b else a
def gate (b : Bool) (x y : Int) : Int × Int × Int := if b then (x, y, 0) else (0, 0, 10)
def addS (a b c d : Int) : Int × Int × Int := gate (okV a b && okV c d && okV (a + c) (b + d)) (a + c) (b + d)
def subS (a b c d : Int) : Int × Int × Int := gate (okV a b && okV c d && okV (a - c) (b - d)) (a - c) (b - d)
def sclS (a b n : Int) : Int × Int × Int := gate (okV a b && okV (a * n) (b * n)) (a * n) (b * n)
def tmS (x n : Int) : Int := if x = 0 then 0 else if n < -(1125899906842624 / mx x (-x)) ∨ 1125899906842624 / mx x (-x) < n then 1125899906842625 else x * n
def unS (a b c d : Int) : Int × Int :=
  if c < 1 ∨ d < 1 then (0, 2) else if (okV a b && okV c d) = false then (0, 10) else if a < 0 ∨ b < 0 then (0, 0) else (mn (a / c) (b / d), 0)

theorem okV_iff {x y : Int} : okV x y = true ↔ (-1125899906842624 ≤ x ∧ x ≤ 1125899906842624 ∧ -1125899906842624 ≤ y ∧ y ≤ 1125899906842624) := by
  unfold okV; exact decide_eq_true_iff
theorem okV_not {x y : Int} : okV x y = false ↔ ¬ (-1125899906842624 ≤ x ∧ x ≤ 1125899906842624 ∧ -1125899906842624 ≤ y ∧ y ≤ 1125899906842624) := by
  unfold okV; exact decide_eq_false_iff_not
theorem leB_iff {a b c d : Int} : leB a b c d = true ↔ (a ≤ c ∧ b ≤ d) := by unfold leB; exact decide_eq_true_iff
theorem leB_not {a b c d : Int} : leB a b c d = false ↔ ¬ (a ≤ c ∧ b ≤ d) := by unfold leB; exact decide_eq_false_iff_not
theorem mn_min (a b : Int) : mn a b = min a b := by unfold mn; split <;> omega
theorem mx_max (a b : Int) : mx a b = max a b := by unfold mx; split <;> omega

theorem okV_parts (a b : Int) : (leB (-1125899906842624) (-1125899906842624) a b && leB a b 1125899906842624 1125899906842624) = okV a b := by
  unfold leB okV
  rw [Bool.eq_iff_iff]
  simp only [Bool.and_eq_true, decide_eq_true_eq]
  omega

/-- The program's product is the product where that may be, and else is no number that may be. -/
theorem tmS_ok {x n : Int} (hx : -1125899906842624 ≤ x) (hx' : x ≤ 1125899906842624) :
    (tmS x n = x * n ∧ -1125899906842624 ≤ x * n ∧ x * n ≤ 1125899906842624) ∨ (tmS x n = 1125899906842625 ∧ ¬ (-1125899906842624 ≤ x * n ∧ x * n ≤ 1125899906842624)) := by
  unfold tmS
  by_cases h0 : x = 0
  · subst h0; simp
  rw [if_neg h0]
  have hm : 1 ≤ mx x (-x) := by unfold mx; split <;> omega
  have habs : x = mx x (-x) ∨ x = - mx x (-x) := by unfold mx; split <;> omega
  generalize mx x (-x) = m at *
  have hd1 : m * (1125899906842624 / m) ≤ 1125899906842624 := Int.mul_ediv_self_le (by omega)
  have hd2 : 1125899906842624 < m * (1125899906842624 / m) + m := Int.lt_mul_ediv_self_add (by omega)
  generalize 1125899906842624 / m = q at *
  by_cases hn : n < -q ∨ q < n
  · rw [if_pos hn]
    refine .inr ⟨rfl, ?_⟩
    have key : m * (q + 1) ≤ m * n ∨ m * n ≤ m * (-q - 1) := by
      rcases hn with h | h
      · exact .inr (Int.mul_le_mul_of_nonneg_left (by omega) (by omega))
      · exact .inl (Int.mul_le_mul_of_nonneg_left (by omega) (by omega))
    have e1 : m * (q + 1) = m * q + m := by rw [Int.mul_add, Int.mul_one]
    have e2 : m * (-q - 1) = -(m * q) - m := by rw [Int.mul_sub, Int.mul_one, Int.mul_neg]
    have e3 : x * n = m * n ∨ x * n = -(m * n) := by
      rcases habs with h | h
      · exact .inl (by rw [← h])
      · exact .inr (by rw [h, Int.neg_mul])
    omega
  · rw [if_neg hn]
    refine .inl ⟨rfl, ?_⟩
    have key1 : m * n ≤ m * q := Int.mul_le_mul_of_nonneg_left (by omega) (by omega)
    have key2 : m * (-q) ≤ m * n := Int.mul_le_mul_of_nonneg_left (by omega) (by omega)
    have e2 : m * (-q) = -(m * q) := Int.mul_neg _ _
    have e3 : x * n = m * n ∨ x * n = -(m * n) := by
      rcases habs with h | h
      · exact .inl (by rw [← h])
      · exact .inr (by rw [h, Int.neg_mul])
    omega

theorem sclS_tm {a b n : Int} (h : okV a b = true) : gate (okV a b && okV (tmS a n) (tmS b n)) (tmS a n) (tmS b n) = sclS a b n := by
  rw [okV_iff] at h
  have ta := tmS_ok (x := a) (n := n) (by omega) (by omega)
  have tb := tmS_ok (x := b) (n := n) (by omega) (by omega)
  unfold sclS
  have e : okV (tmS a n) (tmS b n) = okV (a * n) (b * n) := by
    unfold okV; rw [decide_eq_decide]; omega
  rw [e]
  unfold gate
  by_cases hk : (okV a b && okV (a * n) (b * n)) = true
  · rw [if_pos hk, if_pos hk]
    have hk2 : okV (a * n) (b * n) = true := by simp at hk; exact hk.2
    rw [okV_iff] at hk2
    have e1 : tmS a n = a * n := by omega
    have e2 : tmS b n = b * n := by omega
    rw [e1, e2]
  · rw [if_neg hk, if_neg hk]

theorem gate_true {b : Bool} {x y : Int} (h : b = true) : gate b x y = (x, y, 0) := by unfold gate; rw [if_pos h]
theorem gate_false {b : Bool} {x y : Int} (h : b = false) : gate b x y = (0, 0, 10) := by unfold gate; rw [h]; rfl

end Go.Proofs.Ytibmldgbimjgfaa
