/- What the functions of package vec come to, as plain functions of integers, and the facts on them. No conditions. Arrangements of a row by a key, as functions of places: what insertions, rotations and merges come to. No program. No conditions. Step functions as lists of runs: values, order, canonical lists. No program. No conditions. The canonical function of raw runs: what the compressing of sorted runs comes to; canonical functions of the same values are the same. No program. No conditions. Raw runs at a time; lists of runs with one vector more. No program. No conditions. Lists of times, rising; functions built time by time. No program. No conditions. Canonical lists, place by place. No program. No conditions. Functions made of two functions, time by time. No program. No conditions. What is made of two canonical functions time by time is canonical, and at every time what is made of their values. No program. No conditions. Two functions traversed together: at each time at which one of them has a run, that time and both values. No program. No conditions. What comes of combining two canonical functions at the times at which one of them has a run. No program. No conditions. The first time at which one canonical function is not at most the other, by the way that goes over both together. No program. No conditions. Being at most, told of all times. No program. No conditions. What the document says of a function's windows, of what it is cut to and shifted by, and of its sliding sums, as plain functions. No conditions. What the document says of a function cut to a window: canonical, with the values that are asked; and how a sliding sum moves on by one time. No conditions. -/
import Derived.WalkKit
namespace Go.Proofs.Ytgflbidagdcfmaa

def okV (x y : Int) : Bool := decide (-1125899906842624 ≤ x ∧ x ≤ 1125899906842624 ∧ -1125899906842624 ≤ y ∧ y ≤ 1125899906842624)
def leB (a b c d : Int) : Bool := decide (a ≤ c ∧ b ≤ d)
def mn (a b : Int) : Int := if a ≤ b then a else b
def mx (a b : Int) : Int := if a ≤ b then b else a
def gate (b : Bool) (x y : Int) : Int × Int × Int := if b then (x, y, 0) else (0, 0, 10)
def addS (a b c d : Int) : Int × Int × Int := gate (okV a b && okV c d && okV (a + c) (b + d)) (a + c) (b + d)
def subS (a b c d : Int) : Int × Int × Int := gate (okV a b && okV c d && okV (a - c) (b - d)) (a - c) (b - d)
def sclS (a b n : Int) : Int × Int × Int := gate (okV a b && okV (a * n) (b * n)) (a * n) (b * n)
def tmS (x n : Int) : Int := if x = 0 then 0 else if n < -(1125899906842624 / mx x (-x)) ∨ 1125899906842624 / mx x (-x) < n then 1125899906842625 else x * n
def unS (a b c d : Int) : Int × Int :=
  if c < 1 ∨ d < 1 then (0, 2) else if (okV a b && okV c d) = false then (0, 10) else if a < 0 ∨ b < 0 then (0, 0) else (mn (a / c) (b / d), 0)

theorem okV_iff {x y : Int} : okV x y = true ↔ (-1125899906842624 ≤ x ∧ x ≤ 1125899906842624 ∧ -1125899906842624 ≤ y ∧ y ≤ 1125899906842624) := by
  unfold okV; exact decide_eq_true_iff
theorem okV_not {x y : Int} : okV x y = false ↔ ¬ (-1125899906842624 ≤ x ∧ x ≤ 1125899906842624 ∧ -1125899906842624 ≤ y ∧ y ≤ 1125899906842624) := by
  unfold okV; exact decide_eq_false_iff_not
theorem leB_iff {a b c d : Int} : leB a b c d = true ↔ (a ≤ c ∧ b ≤ d) := by unfold leB; exact decide_eq_true_iff
theorem leB_not {a b c d : Int} : leB a b c d = false ↔ ¬ (a ≤ c ∧ b ≤ d) := by unfold leB; exact decide_eq_false_iff_not
theorem mn_min (a b : Int) : mn a b = min a b := by unfold mn; split <;> omega
theorem mx_max (a b : Int) : mx a b = max a b := by unfold mx; split <;> omega

theorem okV_parts (a b : Int) : (leB (-1125899906842624) (-1125899906842624) a b && leB a b 1125899906842624 1125899906842624) = okV a b := by
  unfold leB okV
  rw [Bool.eq_iff_iff]
  simp only [Bool.and_eq_true, decide_eq_true_eq]
  omega

/-- The program's product is the product where that may be, and else is no number that may be. -/
theorem tmS_ok {x n : Int} (hx : -1125899906842624 ≤ x) (hx' : x ≤ 1125899906842624) :
    (tmS x n = x * n ∧ -1125899906842624 ≤ x * n ∧ x * n ≤ 1125899906842624) ∨ (tmS x n = 1125899906842625 ∧ ¬ (-1125899906842624 ≤ x * n ∧ x * n ≤ 1125899906842624)) := by
  unfold tmS
  by_cases h0 : x = 0
  · subst h0; simp
  rw [if_neg h0]
  have hm : 1 ≤ mx x (-x) := by unfold mx; split <;> omega
  have habs : x = mx x (-x) ∨ x = - mx x (-x) := by unfold mx; split <;> omega
  generalize mx x (-x) = m at *
  have hd1 : m * (1125899906842624 / m) ≤ 1125899906842624 := Int.mul_ediv_self_le (by omega)
  have hd2 : 1125899906842624 < m * (1125899906842624 / m) + m := Int.lt_mul_ediv_self_add (by omega)
  generalize 1125899906842624 / m = q at *
  by_cases hn : n < -q ∨ q < n
  · rw [if_pos hn]
    refine .inr ⟨rfl, ?_⟩
    have key : m * (q + 1) ≤ m * n ∨ m * n ≤ m * (-q - 1) := by
      rcases hn with h | h
      · exact .inr (Int.mul_le_mul_of_nonneg_left (by omega) (by omega))
      · exact .inl (Int.mul_le_mul_of_nonneg_left (by omega) (by omega))
    have e1 : m * (q + 1) = m * q + m := by rw [Int.mul_add, Int.mul_one]
    have e2 : m * (-q - 1) = -(m * q) - m := by rw [Int.mul_sub, Int.mul_one, Int.mul_neg]
    have e3 : x * n = m * n ∨ x * n = -(m * n) := by
      rcases habs with h | h
      · exact .inl (by rw [← h])
      · exact .inr (by rw [h, Int.neg_mul])
    omega
  · rw [if_neg hn]
    refine .inl ⟨rfl, ?_⟩
    have key1 : m * n ≤ m * q := Int.mul_le_mul_of_nonneg_left (by omega) (by omega)
    have key2 : m * (-q) ≤ m * n := Int.mul_le_mul_of_nonneg_left (by omega) (by omega)
    have e2 : m * (-q) = -(m * q) := Int.mul_neg _ _
    have e3 : x * n = m * n ∨ x * n = -(m * n) := by
      rcases habs with h | h
      · exact .inl (by rw [← h])
      · exact .inr (by rw [h, Int.neg_mul])
    omega

theorem sclS_tm {a b n : Int} (h : okV a b = true) : gate (okV a b && okV (tmS a n) (tmS b n)) (tmS a n) (tmS b n) = sclS a b n := by
  rw [okV_iff] at h
  have ta := tmS_ok (x := a) (n := n) (by omega) (by omega)
  have tb := tmS_ok (x := b) (n := n) (by omega) (by omega)
  unfold sclS
  have e : okV (tmS a n) (tmS b n) = okV (a * n) (b * n) := by
    unfold okV; rw [decide_eq_decide]; omega
  rw [e]
  unfold gate
  by_cases hk : (okV a b && okV (a * n) (b * n)) = true
  · rw [if_pos hk, if_pos hk]
    have hk2 : okV (a * n) (b * n) = true := by simp at hk; exact hk.2
    rw [okV_iff] at hk2
    have e1 : tmS a n = a * n := by omega
    have e2 : tmS b n = b * n := by omega
    rw [e1, e2]
  · rw [if_neg hk, if_neg hk]

theorem gate_true {b : Bool} {x y : Int} (h : b = true) : gate b x y = (x, y, 0) := by unfold gate; rw [if_pos h]
theorem gate_false {b : Bool} {x y : Int} (h : b = false) : gate b x y = (0, 0, 10) := by unfold gate; rw [h]; rfl

abbrev V (m c : Int) : Value := .agg #[.int .i64 m, .int .i64 c]
/-- The tuple of a vector and an error. -/
abbrev VE (g : Int × Int × Int) : Value := .tuple #[V g.1 g.2.1, .int .i64 g.2.2]
theorem gate_no {a b c : Bool} {x y : Int} (h : (a && b) = false) : gate (a && b && c) x y = (0, 0, 10) := by rw [h]; rfl
abbrev IE (g : Int × Int) : Value := .tuple #[.int .i64 g.1, .int .i64 g.2]
end Go.Proofs.Ytgflbidagdcfmaa

namespace Go.Proofs.Ytgflbidagdcfmaa

/-- Two places exchanged. -/
def sw (d : Nat → Nat) (i j : Nat) : Nat → Nat := fun k => if k = i then d j else if k = j then d i else d k

theorem sw_l (d : Nat → Nat) (i j : Nat) : sw d i j i = d j := by unfold sw; rw [if_pos rfl]
theorem sw_r (d : Nat → Nat) (i j : Nat) : sw d i j j = d i := by
  unfold sw
  by_cases h : j = i
  · rw [if_pos h, h]
  · rw [if_neg h, if_pos rfl]
theorem sw_o (d : Nat → Nat) (i j k : Nat) (h1 : k ≠ i) (h2 : k ≠ j) : sw d i j k = d k := by unfold sw; rw [if_neg h1, if_neg h2]

/-- d' is d, its places in [a, b) taken in another order. -/
def Mv (a b : Nat) (d d' : Nat → Nat) : Prop :=
  ∃ p q : Nat → Nat, (∀ k, d' k = d (p k)) ∧ (∀ k, p (q k) = k) ∧ (∀ k, q (p k) = k) ∧ (∀ k, (k < a ∨ b ≤ k) → p k = k)

theorem Mv.refl (a b : Nat) (d : Nat → Nat) : Mv a b d d := ⟨id, id, fun _ => rfl, fun _ => rfl, fun _ => rfl, fun _ _ => rfl⟩
theorem Mv.trans {a b : Nat} {d d' d'' : Nat → Nat} (h : Mv a b d d') (h' : Mv a b d' d'') : Mv a b d d'' := by
  obtain ⟨p, q, h1, h2, h3, h4⟩ := h
  obtain ⟨p', q', g1, g2, g3, g4⟩ := h'
  exact ⟨fun k => p (p' k), fun k => q' (q k), fun k => by rw [g1, h1], fun k => by simp only [g2, h2], fun k => by simp only [h3, g3], fun k hk => by show p (p' k) = k; rw [g4 k hk, h4 k hk]⟩
theorem Mv.mono {a b a' b' : Nat} {d d' : Nat → Nat} (h : Mv a b d d') (ha : a' ≤ a) (hb : b ≤ b') : Mv a' b' d d' := by
  obtain ⟨p, q, h1, h2, h3, h4⟩ := h
  exact ⟨p, q, h1, h2, h3, fun k hk => h4 k (by omega)⟩
theorem Mv.out {a b : Nat} {d d' : Nat → Nat} (h : Mv a b d d') (k : Nat) (hk : k < a ∨ b ≤ k) : d' k = d k := by
  obtain ⟨p, q, h1, _, _, h4⟩ := h
  rw [h1, h4 k hk]
theorem Mv.inn {a b : Nat} {d d' : Nat → Nat} (h : Mv a b d d') (k : Nat) (h0 : a ≤ k) (h1 : k < b) : ∃ k', a ≤ k' ∧ k' < b ∧ d' k = d k' := by
  obtain ⟨p, q, g1, g2, g3, g4⟩ := h
  refine ⟨p k, ?_⟩
  by_cases hp : p k < a ∨ b ≤ p k
  · have e := g4 _ hp
    have e2 : p k = k := by
      have := congrArg q e
      rw [g3, g3] at this; exact this
    omega
  · exact ⟨by omega, by omega, g1 k⟩
theorem Mv.back {a b : Nat} {d d' : Nat → Nat} (h : Mv a b d d') (k : Nat) (h0 : a ≤ k) (h1 : k < b) : ∃ k', a ≤ k' ∧ k' < b ∧ d k = d' k' := by
  obtain ⟨p, q, g1, g2, g3, g4⟩ := h
  refine ⟨q k, ?_⟩
  have e : d k = d' (q k) := by rw [g1, g2]
  by_cases hp : q k < a ∨ b ≤ q k
  · have e2 := g4 _ hp
    rw [g2] at e2
    omega
  · exact ⟨by omega, by omega, e⟩
theorem Mv.swap {a b : Nat} (d : Nat → Nat) (i j : Nat) (hi : a ≤ i ∧ i < b) (hj : a ≤ j ∧ j < b) : Mv a b d (sw d i j) := by
  have hp : ∀ k, (fun k => if k = i then j else if k = j then i else k) ((fun k => if k = i then j else if k = j then i else k) k) = k := by
    intro k
    show (if (if k = i then j else if k = j then i else k) = i then j else if (if k = i then j else if k = j then i else k) = j then i else (if k = i then j else if k = j then i else k)) = k
    by_cases h1 : k = i
    · simp [h1]
    · by_cases h2 : k = j
      · subst h2; simp [h1]
      · simp [h1, h2]
  refine ⟨fun k => if k = i then j else if k = j then i else k, fun k => if k = i then j else if k = j then i else k, ?_, hp, hp, ?_⟩
  · intro k
    unfold sw
    by_cases h1 : k = i
    · simp only [h1, if_true]
    · by_cases h2 : k = j
      · simp only [h2, if_true]
        by_cases h3 : j = i
        · rw [if_pos h3, if_pos h3, h3]
        · rw [if_neg h3, if_neg h3]
      · simp only [h1, h2, if_false]
  · intro k hk
    show (if k = i then j else if k = j then i else k) = k
    rw [if_neg (by omega), if_neg (by omega)]

section
variable (K : Nat → Int)
/-- Ahead, by the key, then by the number. -/
def Lx (x y : Nat) : Prop := K x < K y ∨ (K x = K y ∧ x < y)
/-- Where keys are alike the numbers rise: of the first n places. -/
def Inv (n : Nat) (d : Nat → Nat) : Prop := ∀ k k', k < k' → k' < n → K (d k) ≠ K (d k') ∨ d k < d k'
/-- [a, b) is in order. -/
def Srt (a b : Nat) (d : Nat → Nat) : Prop := ∀ k k', a ≤ k → k < k' → k' < b → Lx K (d k) (d k')
variable {K}

theorem Lx.trans {x y z : Nat} (h : Lx K x y) (h' : Lx K y z) : Lx K x z := by unfold Lx at *; omega
theorem Lx.of {x y : Nat} (h : K x < K y) : Lx K x y := Or.inl h
theorem Lx.le {x y : Nat} (h : Lx K x y) : K x ≤ K y := by unfold Lx at h; omega
theorem Inv.lx {n : Nat} {d : Nat → Nat} (h : Inv K n d) {k k' : Nat} (h1 : k < k') (h2 : k' < n) (h3 : ¬ K (d k') < K (d k)) : Lx K (d k) (d k') := by
  have := h k k' h1 h2
  unfold Lx; omega
theorem Srt.mono {a b a' b' : Nat} {d : Nat → Nat} (h : Srt K a b d) (ha : a ≤ a') (hb : b' ≤ b) : Srt K a' b' d := fun k k' h1 h2 h3 => h k k' (by omega) h2 (by omega)
theorem Srt.congr {a b : Nat} {d d' : Nat → Nat} (h : Srt K a b d) (e : ∀ k, a ≤ k → k < b → d' k = d k) : Srt K a b d' := fun k k' h1 h2 h3 => by
  rw [e k h1 (by omega), e k' (by omega) h3]; exact h k k' h1 h2 h3
theorem Srt.le {a b : Nat} {d : Nat → Nat} (h : Srt K a b d) {k k' : Nat} (h1 : a ≤ k) (h2 : k ≤ k') (h3 : k' < b) : K (d k) ≤ K (d k') := by
  rcases Nat.lt_or_ge k k' with h4 | h4
  · exact (h k k' h1 h4 h3).le
  · have : k = k' := by omega
    subst this; exact Int.le_refl _
theorem srt_one (a b : Nat) (d : Nat → Nat) (h : b ≤ a + 1) : Srt K a b d := fun k k' h1 h2 h3 => by omega

/-- Neighbours that stand wrongly, exchanged. -/
theorem Inv.swap {n : Nat} {d : Nat → Nat} (h : Inv K n d) (j : Nat) (hj : j + 1 < n) (hk : K (d (j + 1)) < K (d j)) : Inv K n (sw d j (j + 1)) := by
  intro k k' h1 h2
  by_cases e1 : k = j
  · subst e1
    rw [sw_l]
    by_cases e2 : k' = k + 1
    · subst e2; rw [sw_r]; omega
    · rw [sw_o _ _ _ _ (by omega) e2]; exact h _ _ (by omega) h2
  · by_cases e2 : k = j + 1
    · subst e2
      rw [sw_r, sw_o _ _ _ _ (by omega) (by omega)]; exact h _ _ (by omega) h2
    · rw [sw_o _ _ _ k e1 e2]
      by_cases e3 : k' = j
      · subst e3; rw [sw_l]; exact h _ _ (by omega) (by omega)
      · by_cases e4 : k' = j + 1
        · subst e4; rw [sw_r]; exact h _ _ (by omega) (by omega)
        · rw [sw_o _ _ _ _ e3 e4]; exact h _ _ h1 h2
theorem Inv.swap' {n : Nat} {d : Nat → Nat} (h : Inv K n d) (j : Nat) (hj : j + 1 < n) (hk : K (d (j + 1)) < K (d j)) : Inv K n (sw d (j + 1) j) := by
  have e : sw d (j + 1) j = sw d j (j + 1) := by
    funext k; unfold sw
    by_cases h1 : k = j
    · subst h1; simp
    · simp [h1]
  rw [e]; exact h.swap j hj hk

/-- An insertion under way: the one at j is still to go down. -/
def InsR (K : Nat → Int) (a i j : Nat) (d : Nat → Nat) : Prop := ∀ k k', a ≤ k → k < k' → k' ≤ i → k' ≠ j → Lx K (d k) (d k')
theorem InsR.start {a i : Nat} {d : Nat → Nat} (h : Srt K a i d) : InsR K a i i d := fun k k' h1 h2 h3 h4 => h k k' h1 h2 (by omega)
theorem InsR.step {a i j : Nat} {d : Nat → Nat} (h : InsR K a i (j + 1) d) (ha : a ≤ j) (hj : j + 1 ≤ i) (hk : K (d (j + 1)) < K (d j)) : InsR K a i j (sw d (j + 1) j) := by
  intro k k' h1 h2 h3 h4
  by_cases e1 : k' = j + 1
  · subst e1
    rw [sw_l]
    by_cases e2 : k = j
    · subst e2; rw [sw_r]; exact .of hk
    · rw [sw_o _ _ _ _ (by omega) e2]; exact h _ _ h1 (by omega) (by omega) (by omega)
  · rw [sw_o _ _ _ k' e1 h4]
    by_cases e2 : k = j + 1
    · subst e2; rw [sw_l]; exact h _ _ ha (by omega) h3 e1
    · by_cases e3 : k = j
      · subst e3; rw [sw_r]; exact h _ _ (by omega) (by omega) h3 e1
      · rw [sw_o _ _ _ _ e2 e3]; exact h _ _ h1 h2 h3 e1
theorem InsR.done {n a i j : Nat} {d : Nat → Nat} (h : InsR K a i j d) (hI : Inv K n d) (hn : i < n) (haj : a ≤ j) (hji : j ≤ i) (hs : j = a ∨ ¬ K (d j) < K (d (j - 1))) : Srt K a (i + 1) d := by
  intro k k' h1 h2 h3
  by_cases e : k' = j
  · subst e
    rcases hs with hs | hs
    · omega
    · have hl : Lx K (d (k' - 1)) (d k') := hI.lx (by omega) (by omega) hs
      by_cases e2 : k = k' - 1
      · rw [e2]; exact hl
      · exact (h k (k' - 1) h1 (by omega) (by omega) (by omega)).trans hl
  · exact h k k' h1 h2 (by omega) e

/-- One at k on its way up to the place below i. -/
structure BubU (K : Nat → Int) (a b k i : Nat) (d : Nat → Nat) : Prop where
  rest : ∀ x y, a ≤ x → x < y → y < b → x ≠ k → y ≠ k → Lx K (d x) (d y)
  low : ∀ x, a ≤ x → x < k → Lx K (d x) (d k)
  mid : ∀ y, k < y → y < i → K (d y) < K (d k)
  high : ∀ y, i ≤ y → k < y → y < b → Lx K (d k) (d y)
theorem BubU.start {n a b i : Nat} {d : Nat → Nat} (hI : Inv K n d) (hbn : b ≤ n) (h : Srt K (a + 1) b d) (_hi : i ≤ b) (h1 : ∀ y, a + 1 ≤ y → y < i → K (d y) < K (d a)) (h2 : ∀ y, i ≤ y → y < b → ¬ K (d y) < K (d a)) : BubU K a b a i d where
  rest := fun x y hx hxy hy hxa _ => h x y (by omega) hxy hy
  low := fun x hx hx' => by omega
  mid := fun y hy hyi => h1 y (by omega) hyi
  high := fun y hy hay hyb => hI.lx (by omega) (by omega) (h2 y hy hyb)
theorem BubU.step {a b k i : Nat} {d : Nat → Nat} (h : BubU K a b k i d) (hak : a ≤ k) (hk : k + 1 < i) (hib : i ≤ b) : BubU K a b (k + 1) i (sw d k (k + 1)) where
  rest := fun x y hx hxy hy h1 h2 => by
    by_cases e1 : x = k
    · subst e1
      rw [sw_l, sw_o _ _ _ _ (by omega) h2]; exact h.rest _ _ (by omega) (by omega) hy (by omega) (by omega)
    · rw [sw_o _ _ _ x e1 h1]
      by_cases e2 : y = k
      · subst e2; rw [sw_l]; exact h.rest _ _ hx (by omega) (by omega) e1 (by omega)
      · rw [sw_o _ _ _ _ e2 h2]; exact h.rest _ _ hx hxy hy e1 e2
  low := fun x hx hx' => by
    rw [sw_r]
    by_cases e1 : x = k
    · subst e1; rw [sw_l]; exact .of (h.mid _ (by omega) hk)
    · rw [sw_o _ _ _ _ e1 (by omega)]; exact h.low _ hx (by omega)
  mid := fun y hy hyi => by rw [sw_r, sw_o _ _ _ _ (by omega) (by omega)]; exact h.mid _ (by omega) hyi
  high := fun y hy hky hyb => by rw [sw_r, sw_o _ _ _ _ (by omega) (by omega)]; exact h.high _ hy (by omega) hyb
theorem BubU.done {a b k i : Nat} {d : Nat → Nat} (h : BubU K a b k i d) (hk : i ≤ k + 1) : Srt K a b d := fun x y hx hxy hy => by
  by_cases e1 : x = k
  · subst e1; exact h.high _ (by omega) hxy hy
  · by_cases e2 : y = k
    · subst e2; exact h.low _ hx hxy
    · exact h.rest _ _ hx hxy hy e1 e2

/-- One at k on its way down to i. -/
structure BubD (K : Nat → Int) (a b k i : Nat) (d : Nat → Nat) : Prop where
  rest : ∀ x y, a ≤ x → x < y → y < b → x ≠ k → y ≠ k → Lx K (d x) (d y)
  low : ∀ x, a ≤ x → x < i → x < k → Lx K (d x) (d k)
  mid : ∀ x, i ≤ x → x < k → K (d k) < K (d x)
  high : ∀ y, k < y → y < b → Lx K (d k) (d y)
theorem BubD.start {n a m i : Nat} {d : Nat → Nat} (hI : Inv K n d) (hbn : m < n) (h : Srt K a m d) (h1 : ∀ x, a ≤ x → x < i → x < m → ¬ K (d m) < K (d x)) (h2 : ∀ x, i ≤ x → x < m → K (d m) < K (d x)) : BubD K a (m + 1) m i d where
  rest := fun x y hx hxy hy hxm hym => h x y hx hxy (by omega)
  low := fun x hx hxi hxm => hI.lx hxm hbn (h1 x hx hxi hxm)
  mid := fun x hx hxm => h2 x hx hxm
  high := fun y hy hyb => by omega
theorem BubD.step {a b k i : Nat} {d : Nat → Nat} (h : BubD K a b (k + 1) i d) (hak : a ≤ i) (hk : i ≤ k) (hib : k + 1 < b) : BubD K a b k i (sw d (k + 1) k) where
  rest := fun x y hx hxy hy h1 h2 => by
    by_cases e1 : x = k + 1
    · subst e1
      rw [sw_l, sw_o _ _ _ _ (by omega) h2]; exact h.rest _ _ (by omega) (by omega) hy (by omega) (by omega)
    · rw [sw_o _ _ _ x e1 h1]
      by_cases e2 : y = k + 1
      · subst e2; rw [sw_l]; exact h.rest _ _ hx (by omega) (by omega) e1 (by omega)
      · rw [sw_o _ _ _ _ e2 h2]; exact h.rest _ _ hx hxy hy e1 e2
  low := fun x hx hxi hxk => by rw [sw_r, sw_o _ _ _ _ (by omega) (by omega)]; exact h.low _ hx hxi (by omega)
  mid := fun x hx hxk => by rw [sw_r, sw_o _ _ _ _ (by omega) (by omega)]; exact h.mid _ hx (by omega)
  high := fun y hy hyb => by
    rw [sw_r]
    by_cases e1 : y = k + 1
    · subst e1; rw [sw_l]; exact .of (h.mid _ hk (by omega))
    · rw [sw_o _ _ _ _ e1 (by omega)]; exact h.high _ (by omega) hyb
theorem BubD.done {a b k i : Nat} {d : Nat → Nat} (h : BubD K a b k i d) (hk : k ≤ i) : Srt K a b d := fun x y hx hxy hy => by
  by_cases e1 : x = k
  · subst e1; exact h.high _ hxy hy
  · by_cases e2 : y = k
    · subst e2; exact h.low _ hx (by omega) hxy
    · exact h.rest _ _ hx hxy hy e1 e2

/-- [s, m) and [m, e), exchanged as wholes. -/
def rot (d : Nat → Nat) (s m e : Nat) : Nat → Nat := fun k => if s ≤ k ∧ k < s + (e - m) then d (k + (m - s)) else if s + (e - m) ≤ k ∧ k < e then d (k - (e - m)) else d k
theorem rot_1 {d : Nat → Nat} {s m e k : Nat} (h : s ≤ k ∧ k < s + (e - m)) : rot d s m e k = d (k + (m - s)) := by unfold rot; rw [if_pos h]
theorem rot_2 {d : Nat → Nat} {s m e k : Nat} (h : s + (e - m) ≤ k ∧ k < e) : rot d s m e k = d (k - (e - m)) := by unfold rot; rw [if_neg (by omega), if_pos h]
theorem rot_3 {d : Nat → Nat} {s m e k : Nat} (h : k < s ∨ (e ≤ k ∧ s + (e - m) ≤ k)) : rot d s m e k = d k := by unfold rot; rw [if_neg (by omega), if_neg (by omega)]
theorem rot_none {d : Nat → Nat} {s m e : Nat} (hs : s ≤ m) (he : m ≤ e) (h : s = m ∨ e = m) : rot d s m e = d := by
  funext k
  unfold rot
  split
  · congr 1; omega
  · split
    · congr 1; omega
    · rfl
theorem Mv.rot (d : Nat → Nat) {s m e : Nat} (hs : s ≤ m) (he : m ≤ e) : Mv s e d (rot d s m e) := by
  refine ⟨fun k => if s ≤ k ∧ k < s + (e - m) then k + (m - s) else if s + (e - m) ≤ k ∧ k < e then k - (e - m) else k,
    fun k => if s ≤ k ∧ k < m then k + (e - m) else if m ≤ k ∧ k < e then k - (m - s) else k, ?_, ?_, ?_, ?_⟩
  · intro k
    unfold Ytgflbidagdcfmaa.rot
    dsimp only
    split
    · rfl
    · split <;> rfl
  · intro k; dsimp only; repeat' split
    all_goals omega
  · intro k; dsimp only; repeat' split
    all_goals omega
  · intro k hk; dsimp only; rw [if_neg (by omega), if_neg (by omega)]

/-- A rotation of what stands wrongly keeps the order of what is alike. -/
theorem Inv.rot {n s m e : Nat} {d : Nat → Nat} (h : Inv K n d) (hs : s ≤ m) (he : m ≤ e) (hn : e ≤ n) (hx : ∀ x y, s ≤ x → x < m → m ≤ y → y < e → K (d y) < K (d x)) : Inv K n (rot d s m e) := by
  intro k k' h1 h2
  by_cases c1 : s ≤ k ∧ k < s + (e - m)
  · rw [rot_1 c1]
    by_cases c2 : s ≤ k' ∧ k' < s + (e - m)
    · rw [rot_1 c2]; exact h _ _ (by omega) (by omega)
    · by_cases c3 : s + (e - m) ≤ k' ∧ k' < e
      · rw [rot_2 c3]
        have := hx (k' - (e - m)) (k + (m - s)) (by omega) (by omega) (by omega) (by omega)
        omega
      · rw [rot_3 (by omega)]; exact h _ _ (by omega) (by omega)
  · by_cases c2 : s + (e - m) ≤ k ∧ k < e
    · rw [rot_2 c2]
      by_cases c3 : s + (e - m) ≤ k' ∧ k' < e
      · rw [rot_2 c3]; exact h _ _ (by omega) (by omega)
      · rw [rot_3 (by omega)]; exact h _ _ (by omega) (by omega)
    · rw [rot_3 (k := k) (by omega)]
      by_cases c3 : s ≤ k' ∧ k' < s + (e - m)
      · rw [rot_1 c3]; exact h _ _ (by omega) (by omega)
      · by_cases c4 : s + (e - m) ≤ k' ∧ k' < e
        · rw [rot_2 c4]; exact h _ _ (by omega) (by omega)
        · rw [rot_3 (by omega)]; exact h _ _ (by omega) (by omega)

/-- A stretch of n places exchanged with another one. -/
def swr (d : Nat → Nat) (a b n : Nat) : Nat → Nat := fun k => if a ≤ k ∧ k < a + n then d (k + b - a) else if b ≤ k ∧ k < b + n then d (k + a - b) else d k
theorem swr_zero (d : Nat → Nat) (a b : Nat) : swr d a b 0 = d := by funext k; unfold swr; rw [if_neg (by omega), if_neg (by omega)]
theorem swr_1 {d : Nat → Nat} {a b n k : Nat} (h : a ≤ k ∧ k < a + n) : swr d a b n k = d (k + b - a) := by unfold swr; rw [if_pos h]
theorem swr_2 {d : Nat → Nat} {a b n k : Nat} (h : b ≤ k ∧ k < b + n) (h' : k < a ∨ a + n ≤ k) : swr d a b n k = d (k + a - b) := by unfold swr; rw [if_neg (by omega), if_pos h]
theorem swr_3 {d : Nat → Nat} {a b n k : Nat} (h : k < b ∨ b + n ≤ k) (h' : k < a ∨ a + n ≤ k) : swr d a b n k = d k := by unfold swr; rw [if_neg (by omega), if_neg (by omega)]
theorem at_eq {d : Nat → Nat} {x y : Nat} (h : x = y) : d x = d y := by rw [h]
theorem swr_step (d : Nat → Nat) (a b n : Nat) (h : a + n < b) : sw (swr d a b n) (a + n) (b + n) = swr d a b (n + 1) := by
  funext k
  by_cases e1 : k = a + n
  · subst e1
    rw [sw_l, swr_3 (by omega) (by omega), swr_1 (by omega)]; exact at_eq (by omega)
  by_cases e2 : k = b + n
  · subst e2
    rw [sw_r, swr_3 (by omega) (by omega), swr_2 (by omega) (by omega)]; first | done | exact at_eq (by omega)
  rw [sw_o _ _ _ _ e1 e2]
  by_cases c1 : a ≤ k ∧ k < a + n
  · rw [swr_1 c1, swr_1 (by omega)]
  · by_cases c2 : b ≤ k ∧ k < b + n
    · rw [swr_2 c2 (by omega), swr_2 (by omega) (by omega)]
    · rw [swr_3 (by omega) (by omega), swr_3 (by omega) (by omega)]

/-- The rotation's steps: i ahead of m, j from m on are still to be rotated. -/
theorem rot_gt (d : Nat → Nat) (m i j : Nat) (him : i ≤ m) (h : j < i) : rot (swr d (m - i) m j) (m - (i - j)) m (m + j) = rot d (m - i) m (m + j) := by
  funext k
  by_cases c0 : m - i ≤ k ∧ k < m - i + j
  · rw [rot_3 (by omega), swr_1 (by omega), rot_1 (by omega)]; exact at_eq (by omega)
  by_cases c1 : m - i + j ≤ k ∧ k < m - i + j + j
  · rw [rot_1 (by omega), swr_2 (by omega) (by omega), rot_2 (by omega)]; exact at_eq (by omega)
  by_cases c2 : m - i + j + j ≤ k ∧ k < m + j
  · rw [rot_2 (by omega), swr_3 (by omega) (by omega), rot_2 (by omega)]
  rw [rot_3 (by omega), swr_3 (by omega) (by omega), rot_3 (by omega)]
theorem rot_lt (d : Nat → Nat) (m i j : Nat) (him : i ≤ m) (h : i < j) : rot (swr d (m - i) (m + j - i) i) (m - i) m (m + (j - i)) = rot d (m - i) m (m + j) := by
  funext k
  by_cases c0 : m - i ≤ k ∧ k < m - i + (j - i)
  · rw [rot_1 (by omega), swr_3 (by omega) (by omega), rot_1 (by omega)]; first | done | exact at_eq (by omega)
  by_cases c1 : m - i + (j - i) ≤ k ∧ k < m + j - i
  · rw [rot_2 (by omega), swr_1 (by omega), rot_1 (by omega)]; exact at_eq (by omega)
  by_cases c2 : m + j - i ≤ k ∧ k < m + j
  · rw [rot_3 (by omega), swr_2 (by omega) (by omega), rot_2 (by omega)]; exact at_eq (by omega)
  rw [rot_3 (by omega), swr_3 (by omega) (by omega), rot_3 (by omega)]
theorem rot_eq (d : Nat → Nat) (m i : Nat) (him : i ≤ m) : swr d (m - i) m i = rot d (m - i) m (m + i) := by
  funext k
  by_cases c0 : m - i ≤ k ∧ k < m
  · rw [swr_1 (by omega), rot_1 (by omega)]; exact at_eq (by omega)
  by_cases c1 : m ≤ k ∧ k < m + i
  · rw [swr_2 (by omega) (by omega), rot_2 (by omega)]; exact at_eq (by omega)
  rw [swr_3 (by omega) (by omega), rot_3 (by omega)]

/-- What a merge's search has found: where the two rows are to be cut. -/
structure Cut (K : Nat → Int) (a m b s : Nat) (d : Nat → Nat) : Prop where
  as : a ≤ s
  sm : s ≤ m
  smid : s ≤ (a + b) / 2
  me : m ≤ (a + b) / 2 + m - s
  eb : (a + b) / 2 + m - s ≤ b
  up : a < s → (a + b) / 2 + m - s < b → ¬ K (d ((a + b) / 2 + m - s)) < K (d (s - 1))
  dn : s < m → m < (a + b) / 2 + m - s → K (d ((a + b) / 2 + m - s - 1)) < K (d s)

/-- What the rotation leaves: four rows in order, the first two ahead of the last two. -/
theorem Cut.rotated {n a m b s : Nat} {d : Nat → Nat} (h : Cut K a m b s d) (hI : Inv K n d) (hb : b ≤ n) (h1 : Srt K a m d) (h2 : Srt K m b d) :
    Inv K n (rot d s m ((a + b) / 2 + m - s)) ∧ Srt K a s (rot d s m ((a + b) / 2 + m - s)) ∧ Srt K s ((a + b) / 2) (rot d s m ((a + b) / 2 + m - s)) ∧
    Srt K ((a + b) / 2) ((a + b) / 2 + m - s) (rot d s m ((a + b) / 2 + m - s)) ∧ Srt K ((a + b) / 2 + m - s) b (rot d s m ((a + b) / 2 + m - s)) ∧
    ∀ x y, a ≤ x → x < (a + b) / 2 → (a + b) / 2 ≤ y → y < b → Lx K (rot d s m ((a + b) / 2 + m - s) x) (rot d s m ((a + b) / 2 + m - s) y) := by
  obtain ⟨as, sm, smid, me, eb, up, dn⟩ := h
  generalize hM : (a + b) / 2 = M at *
  generalize he : M + m - s = e at *
  have hx : ∀ x y, s ≤ x → x < m → m ≤ y → y < e → K (d y) < K (d x) := fun x y q1 q2 q3 q4 => by
    have z := dn (by omega) (by omega)
    have z1 := h1.le (k := s) (k' := x) as q1 q2
    have z2 := h2.le (k := y) (k' := e - 1) q3 (by omega) (by omega)
    omega
  have hc : ∀ x y, a ≤ x → x < s → e ≤ y → y < b → Lx K (d x) (d y) := fun x y q1 q2 q3 q4 => by
    have z : Lx K (d (s - 1)) (d e) := hI.lx (by omega) (by omega) (up (by omega) (by omega))
    have z1 : Lx K (d x) (d e) := by
      rcases Nat.lt_or_ge x (s - 1) with c | c
      · exact (h1 x (s - 1) q1 c (by omega)).trans z
      · rw [show x = s - 1 by omega]; exact z
    rcases Nat.lt_or_ge e y with c | c
    · exact z1.trans (h2 e y me c q4)
    · rw [show y = e by omega]; exact z1
  refine ⟨hI.rot sm me (by omega) hx, ?_, ?_, ?_, ?_, ?_⟩
  · exact (h1.mono (Nat.le_refl _) sm).congr fun k q1 q2 => rot_3 (by omega)
  · intro k k' q1 q2 q3
    rw [rot_1 (by omega), rot_1 (by omega)]; exact h2 _ _ (by omega) (by omega) (by omega)
  · intro k k' q1 q2 q3
    rw [rot_2 (by omega), rot_2 (by omega)]; exact h1 _ _ (by omega) (by omega) (by omega)
  · exact (h2.mono me (Nat.le_refl _)).congr fun k q1 q2 => rot_3 (by omega)
  · intro x y q1 q2 q3 q4
    by_cases c1 : x < s
    · rw [rot_3 (k := x) (by omega)]
      by_cases c2 : y < e
      · rw [rot_2 (by omega)]; exact h1 _ _ q1 (by omega) (by omega)
      · rw [rot_3 (by omega)]; exact hc _ _ q1 c1 (by omega) q4
    · rw [rot_1 (k := x) (by omega)]
      by_cases c2 : y < e
      · rw [rot_2 (by omega)]; exact .of (hx _ _ (by omega) (by omega) (by omega) (by omega))
      · rw [rot_3 (by omega)]; exact h2 _ _ (by omega) (by omega) q4

/-- Two rows in order, the one ahead of the other. -/
theorem srt_join {a M b : Nat} {d : Nat → Nat} (h1 : Srt K a M d) (h2 : Srt K M b d) (hx : ∀ x y, a ≤ x → x < M → M ≤ y → y < b → Lx K (d x) (d y)) : Srt K a b d := fun k k' q1 q2 q3 => by
  by_cases c : k' < M
  · exact h1 _ _ q1 q2 c
  · by_cases c2 : M ≤ k
    · exact h2 _ _ c2 q2 q3
    · exact hx _ _ q1 (by omega) (by omega) q3
theorem cross_mv {a M b : Nat} {d d' : Nat → Nat} (hx : ∀ x y, a ≤ x → x < M → M ≤ y → y < b → Lx K (d x) (d y)) (h : Mv a M d d' ∨ Mv M b d d') : ∀ x y, a ≤ x → x < M → M ≤ y → y < b → Lx K (d' x) (d' y) := fun x y q1 q2 q3 q4 => by
  rcases h with h | h
  · obtain ⟨x', r1, r2, e⟩ := h.inn x q1 q2
    rw [e, h.out y (by omega)]; exact hx _ _ r1 r2 q3 q4
  · obtain ⟨y', r1, r2, e⟩ := h.inn y q3 q4
    rw [e, h.out x (by omega)]; exact hx _ _ q1 q2 r1 r2

/-- Blocks of bs places, from the place lo on, each in order. -/
def BS (K : Nat → Int) (n bs lo hi : Nat) (d : Nat → Nat) : Prop := ∀ q, lo ≤ q * bs → q * bs < hi → Srt K (q * bs) (min (q * bs + bs) n) d
end
end Go.Proofs.Ytgflbidagdcfmaa

namespace Go.Proofs.Ytgflbidagdcfmaa

/-- A run: its time, its vector. -/
abbrev Sg := Int × Int × Int
/-- The times of a list of runs, by their places. -/
def ats (l : List Sg) (i : Nat) : Int := (l.getD i (0, 0, 0)).1
/-- The vectors of a list of runs, by their places. -/
def vls (l : List Sg) (i : Nat) : Int × Int := (l.getD i (0, 0, 0)).2

def stepV (t : Int) (acc : Int × Int) (s : Sg) : Int × Int := if s.1 ≤ t then s.2 else acc
/-- The vector of the last run of the list among those that are at most t. -/
def vat (l : List Sg) (t : Int) : Int × Int := l.foldl (stepV t) (0, 0)

theorem vat_nil (t : Int) : vat [] t = (0, 0) := rfl
theorem vat_snoc (l : List Sg) (s : Sg) (t : Int) : vat (l ++ [s]) t = if s.1 ≤ t then s.2 else vat l t := by
  unfold vat; rw [List.foldl_append]; rfl
theorem foldl_gt (t : Int) : ∀ (r : List Sg) (acc : Int × Int), (∀ s ∈ r, t < s.1) → r.foldl (stepV t) acc = acc
  | [], _, _ => rfl
  | s :: r, acc, h => by
    have h1 : stepV t acc s = acc := by
      unfold stepV
      have := h s (by simp)
      rw [if_neg (by omega)]
    rw [List.foldl_cons, h1]
    exact foldl_gt t r acc fun x hx => h x (by simp [hx])
theorem vat_gt (l r : List Sg) (t : Int) (h : ∀ s ∈ r, t < s.1) : vat (l ++ r) t = vat l t := by
  unfold vat; rw [List.foldl_append]; exact foldl_gt t r _ h
theorem getD_get {α : Type} (l : List α) (i : Nat) (d : α) (h : i < l.length) : l.getD i d = l[i] := by
  rw [List.getD_eq_getElem?_getD, List.getElem?_eq_getElem h]; rfl
theorem vat_of {l : List Sg} {t : Int} {n : Nat} (hn : n ≤ l.length) (h1 : n = 0 ∨ ats l (n - 1) ≤ t) (h2 : ∀ i, n ≤ i → i < l.length → t < ats l i) : vat l t = if n = 0 then (0, 0) else vls l (n - 1) := by
  have e : l = l.take n ++ l.drop n := (List.take_append_drop n l).symm
  have hd : vat l t = vat (l.take n) t := by
    conv => lhs; rw [e]
    refine vat_gt _ _ _ fun s hs => ?_
    obtain ⟨i, hi, rfl⟩ := List.getElem_of_mem hs
    rw [List.length_drop] at hi
    rw [List.getElem_drop]
    have := h2 (n + i) (by omega) (by omega)
    unfold ats at this
    rw [getD_get _ _ _ (by omega)] at this
    exact this
  rw [hd]
  by_cases c : n = 0
  · subst c; simp [vat]
  · rw [if_neg c]
    have ht : l.take n = l.take (n - 1) ++ [l[n - 1]] := by
      have := List.take_succ_eq_append_getElem (l := l) (i := n - 1) (by omega)
      rw [show n - 1 + 1 = n by omega] at this
      exact this
    rw [ht, vat_snoc]
    have h3 := h1.resolve_left c
    unfold ats at h3
    rw [getD_get _ _ _ (by omega)] at h3
    rw [if_pos h3]
    unfold vls
    rw [getD_get _ _ _ (by omega)]

/-- The times of the list do not fall. -/
def Asc (l : List Sg) : Prop := ∀ i, i + 1 < l.length → ats l i ≤ ats l (i + 1)
theorem Asc.le {l : List Sg} (h : Asc l) : ∀ (k i : Nat), i + k < l.length → ats l i ≤ ats l (i + k)
  | 0, i, _ => Int.le_refl _
  | k + 1, i, hk => Int.le_trans (h.le k i (by omega)) (h (i + k) (by omega))
theorem Asc.le' {l : List Sg} (h : Asc l) {i j : Nat} (hij : i ≤ j) (hj : j < l.length) : ats l i ≤ ats l j := by
  have := h.le (j - i) i (by omega)
  rwa [show i + (j - i) = j by omega] at this
/-- What a search by halves finds. -/
def Found (l : List Sg) (t : Int) (n : Nat) : Prop := (n = 0 ∨ ats l (n - 1) ≤ t) ∧ (n = l.length ∨ t < ats l n)
theorem Found.vat {l : List Sg} {t : Int} {n : Nat} (h : Found l t n) (hn : n ≤ l.length) (ha : Asc l) : vat l t = if n = 0 then (0, 0) else vls l (n - 1) :=
  vat_of hn h.1 fun i h1 h2 => by
    rcases h.2 with c | c
    · omega
    · exact Int.lt_of_lt_of_le c (ha.le' h1 h2)
end Go.Proofs.Ytgflbidagdcfmaa

namespace Go.Proofs.Ytgflbidagdcfmaa

def okT (x : Int) : Bool := decide (-1125899906842624 ≤ x ∧ x ≤ 1125899906842624)
/-- A run that may be. -/
def okS (s : Sg) : Bool := okT s.1 && okV s.2.1 s.2.2
theorem okT_iff {x : Int} : okT x = true ↔ (-1125899906842624 ≤ x ∧ x ≤ 1125899906842624) := by unfold okT; exact decide_eq_true_iff

/-- The last run of a time counts; what repeats the vector ahead of it is left out. -/
def cmpr : Int × Int → List Sg → List Sg
  | _, [] => []
  | last, [s] => if s.2 = last then [] else [s]
  | last, s :: t :: r => if t.1 = s.1 then cmpr last (t :: r) else if s.2 = last then cmpr last (t :: r) else s :: cmpr s.2 (t :: r)

theorem cmpr_mem : ∀ (r : List Sg) (last : Int × Int) (x : Sg), x ∈ cmpr last r → x ∈ r
  | [], _, _, h => by simp [cmpr] at h
  | [s], last, x, h => by
    unfold cmpr at h
    split at h
    · simp at h
    · exact h
  | s :: t :: r, last, x, h => by
    unfold cmpr at h
    split at h
    · exact List.mem_cons_of_mem _ (cmpr_mem (t :: r) last x h)
    · split at h
      · exact List.mem_cons_of_mem _ (cmpr_mem (t :: r) last x h)
      · rcases List.mem_cons.1 h with h | h
        · exact h ▸ List.mem_cons_self
        · exact List.mem_cons_of_mem _ (cmpr_mem (t :: r) _ x h)
theorem cmpr_len : ∀ (r : List Sg) (last : Int × Int), (cmpr last r).length ≤ r.length
  | [], _ => by simp [cmpr]
  | [s], last => by unfold cmpr; split <;> simp
  | s :: t :: r, last => by
    have h1 := cmpr_len (t :: r) last
    have h2 := cmpr_len (t :: r) s.2
    unfold cmpr
    simp only [List.length_cons] at *
    split
    · omega
    · split
      · omega
      · simp only [List.length_cons]; omega

/-- The times of a list do not fall. -/
def Up (r : List Sg) : Prop := r.Pairwise fun a b => a.1 ≤ b.1

theorem foldl_c {t : Int} {last : Int × Int} {s : Sg} {r : List Sg} : (s :: r).foldl (stepV t) last = r.foldl (stepV t) (stepV t last s) := rfl

theorem cmpr_val (t : Int) : ∀ (r : List Sg) (last : Int × Int), Up r → (cmpr last r).foldl (stepV t) last = r.foldl (stepV t) last
  | [], _, _ => rfl
  | [s], last, _ => by
    unfold cmpr
    split
    · rename_i h
      show last = stepV t last s
      unfold stepV; split
      · exact h.symm
      · rfl
    · rfl
  | s :: u :: r, last, h => by
    have hu : Up (u :: r) := (List.pairwise_cons.1 h).2
    have hs := (List.pairwise_cons.1 h).1
    unfold cmpr
    split
    · rename_i e
      rw [cmpr_val t (u :: r) last hu, List.foldl_cons, List.foldl_cons, List.foldl_cons]
      congr 1
      unfold stepV
      rw [e]
      split <;> rfl
    · rename_i e
      split
      · rename_i e2
        rw [cmpr_val t (u :: r) last hu, foldl_c (s := s) (r := u :: r)]
        congr 1
        unfold stepV
        split
        · exact e2.symm
        · rfl
      · rw [foldl_c (s := s) (r := cmpr s.2 (u :: r)), foldl_c (s := s) (r := u :: r)]
        by_cases c : s.1 ≤ t
        · have e3 : stepV t last s = s.2 := by unfold stepV; rw [if_pos c]
          rw [e3]
          exact cmpr_val t (u :: r) s.2 hu
        · have e3 : stepV t last s = last := by unfold stepV; rw [if_neg c]
          rw [e3, foldl_gt t _ _ (fun x hx => ?_), foldl_gt t _ _ (fun x hx => ?_)]
          · have := hs x hx; omega
          · have := hs x (cmpr_mem _ _ _ hx); omega

/-- A canonical function behind the vector last. -/
def CF : Int × Int → List Sg → Prop
  | _, [] => True
  | last, s :: r => okS s = true ∧ s.2 ≠ last ∧ (∀ x ∈ r, s.1 < x.1) ∧ CF s.2 r

theorem cmpr_cf : ∀ (r : List Sg) (last : Int × Int), Up r → (∀ x ∈ r, okS x = true) → CF last (cmpr last r)
  | [], _, _, _ => trivial
  | [s], last, _, ho => by
    unfold cmpr
    split
    · trivial
    · rename_i h
      exact ⟨ho s (by simp), h, fun x hx => by simp at hx, trivial⟩
  | s :: u :: r, last, h, ho => by
    have hu : Up (u :: r) := (List.pairwise_cons.1 h).2
    have hs := (List.pairwise_cons.1 h).1
    have ho' : ∀ x ∈ u :: r, okS x = true := fun x hx => ho x (List.mem_cons_of_mem _ hx)
    unfold cmpr
    split
    · exact cmpr_cf (u :: r) last hu ho'
    · rename_i e
      split
      · exact cmpr_cf (u :: r) last hu ho'
      · rename_i e2
        refine ⟨ho s (by simp), e2, fun x hx => ?_, cmpr_cf (u :: r) s.2 hu ho'⟩
        have h1 := hs u (by simp)
        have hx' := cmpr_mem _ _ _ hx
        rcases List.mem_cons.1 hx' with h2 | h2
        · rw [h2]; omega
        · have := (List.pairwise_cons.1 hu).1 x h2
          omega

/-- Two canonical functions, each with the other's vector at its own times, are the same. -/
theorem cf_unique : ∀ (f g : List Sg) (last : Int × Int), CF last f → CF last g → (∀ s ∈ f, g.foldl (stepV s.1) last = s.2) → (∀ s ∈ g, f.foldl (stepV s.1) last = s.2) → f = g
  | [], [], _, _, _, _, _ => rfl
  | [], s :: r, last, _, hg, _, h2 => by
    have := h2 s (by simp)
    exact absurd this.symm hg.2.1
  | s :: r, [], last, hf, _, h1, _ => by
    have := h1 s (by simp)
    exact absurd this.symm hf.2.1
  | s :: r, s' :: r', last, hf, hg, h1, h2 => by
    obtain ⟨_, f2, f3, f4⟩ := hf
    obtain ⟨_, g2, g3, g4⟩ := hg
    have k1 := h1 s (by simp)
    have k2 := h2 s' (by simp)
    have et : s.1 = s'.1 := by
      rcases Int.lt_trichotomy s.1 s'.1 with c | c | c
      · rw [foldl_gt _ _ _ (fun x hx => by
          rcases List.mem_cons.1 hx with hx | hx
          · rw [hx]; exact c
          · have := g3 x hx; omega)] at k1
        exact absurd k1.symm f2
      · exact c
      · rw [foldl_gt _ _ _ (fun x hx => by
          rcases List.mem_cons.1 hx with hx | hx
          · rw [hx]; exact c
          · have := f3 x hx; omega)] at k2
        exact absurd k2.symm g2
    have ev : s.2 = s'.2 := by
      rw [List.foldl_cons, foldl_gt _ _ _ (fun x hx => by have := g3 x hx; omega)] at k1
      unfold stepV at k1
      rw [if_pos (by omega)] at k1
      exact k1.symm
    have es : s = s' := Prod.ext et ev
    subst es
    have : r = r' := cf_unique r r' s.2 f4 g4 (fun x hx => by
        have := h1 x (List.mem_cons_of_mem _ hx)
        rw [List.foldl_cons] at this
        have e : stepV x.1 last s = s.2 := by unfold stepV; rw [if_pos (Int.le_of_lt (f3 x hx))]
        rw [e] at this; exact this) (fun x hx => by
        have := h2 x (List.mem_cons_of_mem _ hx)
        rw [List.foldl_cons] at this
        have e : stepV x.1 last s = s.2 := by unfold stepV; rw [if_pos (Int.le_of_lt (g3 x hx))]
        rw [e] at this; exact this)
    rw [this]
/-- A canonical function has at its own times its own vectors. -/
theorem cf_own : ∀ (f : List Sg) (last : Int × Int), CF last f → ∀ s ∈ f, f.foldl (stepV s.1) last = s.2
  | [], _, _, s, hs => by simp at hs
  | x :: r, last, h, s, hs => by
    obtain ⟨_, _, f3, f4⟩ := h
    rw [List.foldl_cons]
    rcases List.mem_cons.1 hs with e | e
    · subst e
      rw [foldl_gt _ _ _ (fun y hy => by have := f3 y hy; omega)]
      unfold stepV; rw [if_pos (Int.le_refl _)]
    · have : stepV s.1 last x = x.2 := by unfold stepV; rw [if_pos (Int.le_of_lt (f3 s e))]
      rw [this]; exact cf_own r x.2 f4 s e
theorem cf_ext {f g : List Sg} {last : Int × Int} (hf : CF last f) (hg : CF last g) (h : ∀ t, f.foldl (stepV t) last = g.foldl (stepV t) last) : f = g :=
  cf_unique f g last hf hg (fun s hs => by rw [← h]; exact cf_own f last hf s hs) (fun s hs => by rw [h]; exact cf_own g last hg s hs)
theorem CF.up : ∀ {f : List Sg} {last : Int × Int}, CF last f → f.Pairwise fun a b => a.1 < b.1
  | [], _, _ => List.Pairwise.nil
  | _ :: _, _, h => List.pairwise_cons.2 ⟨h.2.2.1, h.2.2.2.up⟩
theorem CF.ok : ∀ {f : List Sg} {last : Int × Int}, CF last f → ∀ x ∈ f, okS x = true
  | [], _, _, _, hx => by simp at hx
  | s :: r, _, h, x, hx => by
    rcases List.mem_cons.1 hx with e | e
    · subst e; exact h.1
    · exact h.2.2.2.ok x e

/-- A canonical function. -/
def Canon (f : List Sg) : Prop := CF (0, 0) f

/-- The reading of raw runs: the vector, the time, whether one was met. -/
def rstep (t : Int) (st : (Int × Int) × Int × Bool) (s : Sg) : (Int × Int) × Int × Bool := if s.1 ≤ t ∧ (st.2.2 = false ∨ st.2.1 ≤ s.1) then (s.2, s.1, true) else st
def rread (l : List Sg) (t : Int) : (Int × Int) × Int × Bool := l.foldl (rstep t) ((0, 0), 0, false)
/-- The value of raw runs at a time. -/
def rv (l : List Sg) (t : Int) : Int × Int := (rread l t).1

/-- i is the place that counts at the time t. -/
def Top (l : List Sg) (t : Int) (i : Nat) : Prop := i < l.length ∧ ats l i ≤ t ∧ ∀ j, j < l.length → ats l j ≤ t → ats l j < ats l i ∨ (ats l j = ats l i ∧ j ≤ i)
theorem Top.unique {l : List Sg} {t : Int} {i j : Nat} (h : Top l t i) (h' : Top l t j) : i = j := by
  have h1 := h.2.2 j h'.1 h'.2.1
  have h2 := h'.2.2 i h.1 h.2.1
  omega

theorem getD_app_l {l : List Sg} {s : Sg} {i : Nat} (h : i < l.length) : (l ++ [s]).getD i (0, 0, 0) = l.getD i (0, 0, 0) := by
  rw [getD_get _ _ _ (by simp; omega), getD_get _ _ _ h, List.getElem_append_left h]
theorem getD_app_r {l : List Sg} {s : Sg} : (l ++ [s]).getD l.length (0, 0, 0) = s := by
  rw [getD_get _ _ _ (by simp), List.getElem_append_right (Nat.le_refl _)]; simp

theorem rread_char (t : Int) : ∀ (n : Nat) (l : List Sg), l.length = n → (rread l t = ((0, 0), 0, false) ∧ ∀ j, j < l.length → t < ats l j) ∨ ∃ i, Top l t i ∧ rread l t = (vls l i, ats l i, true)
  | 0, l, h => by
    have : l = [] := List.eq_nil_of_length_eq_zero h
    subst this
    exact .inl ⟨rfl, fun j hj => by simp at hj⟩
  | n + 1, l, h => by
    obtain ⟨l', s, rfl⟩ : ∃ l' s, l = l' ++ [s] := ⟨l.dropLast, l.getLast (by intro e; subst e; simp at h), (List.dropLast_concat_getLast _).symm⟩
    have hl : l'.length = n := by simp at h; omega
    have ih := rread_char t n l' hl
    have hr : rread (l' ++ [s]) t = rstep t (rread l' t) s := by unfold rread; rw [List.foldl_append]; rfl
    have aL : ∀ i, i < l'.length → ats (l' ++ [s]) i = ats l' i := fun i hi => by unfold ats; rw [getD_app_l hi]
    have vL : ∀ i, i < l'.length → vls (l' ++ [s]) i = vls l' i := fun i hi => by unfold vls; rw [getD_app_l hi]
    have aR : ats (l' ++ [s]) l'.length = s.1 := by unfold ats; rw [getD_app_r]
    have vR : vls (l' ++ [s]) l'.length = s.2 := by unfold vls; rw [getD_app_r]
    have hlen : (l' ++ [s]).length = l'.length + 1 := by simp
    rw [hr]
    rcases ih with ⟨e, hgt⟩ | ⟨i, ht, e⟩
    · rw [e]
      unfold rstep
      by_cases c : s.1 ≤ t
      · rw [if_pos ⟨c, .inl rfl⟩]
        refine .inr ⟨l'.length, ⟨by omega, by rw [aR]; exact c, fun j hj hjt => ?_⟩, by rw [vR, aR]⟩
        by_cases hj' : j < l'.length
        · rw [aL j hj'] at hjt
          have := hgt j hj'
          omega
        · have : j = l'.length := by omega
          subst this; omega
      · rw [if_neg (by intro h; exact c h.1)]
        refine .inl ⟨rfl, fun j hj => ?_⟩
        by_cases hj' : j < l'.length
        · rw [aL j hj']; exact hgt j hj'
        · have : j = l'.length := by omega
          subst this; rw [aR]; omega
    · rw [e]
      unfold rstep
      by_cases c : s.1 ≤ t ∧ ats l' i ≤ s.1
      · rw [if_pos ⟨c.1, .inr c.2⟩]
        refine .inr ⟨l'.length, ⟨by omega, by rw [aR]; exact c.1, fun j hj hjt => ?_⟩, by rw [vR, aR]⟩
        by_cases hj' : j < l'.length
        · rw [aL j hj'] at hjt ⊢
          have := ht.2.2 j hj' hjt
          rw [aR]; omega
        · have : j = l'.length := by omega
          subst this; omega
      · rw [if_neg (by
          rintro ⟨h1, h2⟩
          rcases h2 with h2 | h2
          · exact Bool.noConfusion h2
          · exact c ⟨h1, h2⟩)]
        refine .inr ⟨i, ⟨by have := ht.1; omega, by rw [aL i ht.1]; exact ht.2.1, fun j hj hjt => ?_⟩, by rw [vL i ht.1, aL i ht.1]⟩
        rw [aL i ht.1]
        by_cases hj' : j < l'.length
        · rw [aL j hj'] at hjt ⊢
          exact ht.2.2 j hj' hjt
        · have : j = l'.length := by omega
          subst this
          rw [aR] at hjt ⊢
          omega

/-- The runs in the order d. -/
def ordL (l : List Sg) (d : Nat → Nat) : List Sg := (List.range l.length).map fun k => l.getD (d k) (0, 0, 0)
theorem ordL_len (l : List Sg) (d : Nat → Nat) : (ordL l d).length = l.length := by simp [ordL]
theorem ordL_get {l : List Sg} {d : Nat → Nat} {k : Nat} (h : k < l.length) : (ordL l d).getD k (0, 0, 0) = l.getD (d k) (0, 0, 0) := by
  rw [getD_get _ _ _ (by rw [ordL_len]; exact h)]; simp [ordL]
theorem ordL_ats {l : List Sg} {d : Nat → Nat} {k : Nat} (h : k < l.length) : ats (ordL l d) k = ats l (d k) := by unfold ats; rw [ordL_get h]
theorem ordL_vls {l : List Sg} {d : Nat → Nat} {k : Nat} (h : k < l.length) : vls (ordL l d) k = vls l (d k) := by unfold vls; rw [ordL_get h]
theorem cutAt (l : List Sg) (t : Int) : ∀ N, N ≤ l.length → ∃ m, m ≤ N ∧ (m = 0 ∨ ats l (m - 1) ≤ t) ∧ ∀ i, m ≤ i → i < N → t < ats l i
  | 0, _ => ⟨0, Nat.le_refl _, .inl rfl, fun i _ h => by omega⟩
  | N + 1, h => by
    obtain ⟨m, h1, h2, h3⟩ := cutAt l t N (by omega)
    by_cases c : ats l N ≤ t
    · exact ⟨N + 1, Nat.le_refl _, .inr (by rw [Nat.add_sub_cancel]; exact c), fun i _ h => by omega⟩
    · refine ⟨m, by omega, h2, fun i q1 q2 => ?_⟩
      by_cases e : i = N
      · rw [e]; omega
      · exact h3 i q1 (by omega)

theorem ordL_val {l : List Sg} {d : Nat → Nat} (hm : Mv 0 l.length id d) (hs : Srt (ats l) 0 l.length d) (t : Int) : vat (ordL l d) t = rv l t := by
  obtain ⟨m, h1, h2, h3⟩ := cutAt (ordL l d) t _ (Nat.le_refl _)
  rw [vat_of h1 h2 h3]
  rw [ordL_len] at h1 h3
  have hok : ∀ k, k < l.length → d k < l.length := fun k hk => by
    obtain ⟨k', _, q2, e⟩ := hm.inn k (Nat.zero_le _) hk
    rw [e]; exact q2
  rcases rread_char t _ l rfl with ⟨e, hgt⟩ | ⟨i, ht, e⟩
  · unfold rv; rw [e]
    by_cases c : m = 0
    · rw [if_pos c]
    · have q := h2.resolve_left c
      rw [ordL_ats (by omega)] at q
      have := hgt _ (hok (m - 1) (by omega))
      omega
  · unfold rv; rw [e]
    have hback := hm.back i (Nat.zero_le _) ht.1
    obtain ⟨k, _, hk, ek⟩ := hback
    simp only [id] at ek
    have hkm : k < m := by
      rcases Nat.lt_or_ge k m with c | c
      · exact c
      · have := h3 k c hk
        rw [ordL_ats hk, ← ek] at this
        have := ht.2.1
        omega
    have c : m ≠ 0 := by omega
    rw [if_neg c, ordL_vls (by omega)]
    have q := h2.resolve_left c
    rw [ordL_ats (by omega)] at q
    have htop : Top l t (d (m - 1)) := by
      refine ⟨hok _ (by omega), q, fun j hj hjt => ?_⟩
      obtain ⟨k', _, hk', ek'⟩ := hm.back j (Nat.zero_le _) hj
      simp only [id] at ek'
      have hk'm : k' < m := by
        rcases Nat.lt_or_ge k' m with c | c
        · exact c
        · have := h3 k' c hk'
          rw [ordL_ats hk', ← ek'] at this
          omega
      rw [ek']
      by_cases e2 : k' = m - 1
      · rw [e2]; omega
      · have := hs k' (m - 1) (Nat.zero_le _) (by omega) (by omega)
        unfold Lx at this
        omega
    rw [ht.unique htop]
theorem ordL_up {l : List Sg} {d : Nat → Nat} (hs : Srt (ats l) 0 l.length d) : Up (ordL l d) := by
  unfold Up
  rw [List.pairwise_iff_getElem]
  intro i j hi hj hij
  rw [ordL_len] at hi hj
  have h1 := hs.le (Nat.zero_le i) (Nat.le_of_lt hij) hj
  have e1 := ordL_ats (l := l) (d := d) hi
  have e2 := ordL_ats (l := l) (d := d) hj
  unfold ats at e1 e2
  rw [getD_get _ _ _ (by rw [ordL_len]; exact hi)] at e1
  rw [getD_get _ _ _ (by rw [ordL_len]; exact hj)] at e2
  rw [e1, e2]; exact h1
theorem ordL_ok {l : List Sg} {d : Nat → Nat} (hm : Mv 0 l.length id d) (ho : ∀ x ∈ l, okS x = true) : ∀ x ∈ ordL l d, okS x = true := by
  intro x hx
  unfold ordL at hx
  rw [List.mem_map] at hx
  obtain ⟨k, hk, rfl⟩ := hx
  rw [List.mem_range] at hk
  obtain ⟨k', _, q2, e⟩ := hm.inn k (Nat.zero_le _) hk
  rw [e, id, getD_get _ _ _ q2]
  exact ho _ (List.getElem_mem q2)

/-- f is the canonical function of the raw runs l. -/
def IsOf (l f : List Sg) : Prop := Canon f ∧ (∀ t, vat f t = rv l t) ∧ f.length ≤ l.length
theorem isOf_cmpr {l : List Sg} {d : Nat → Nat} (hm : Mv 0 l.length id d) (hs : Srt (ats l) 0 l.length d) (ho : ∀ x ∈ l, okS x = true) : IsOf l (cmpr (0, 0) (ordL l d)) := by
  refine ⟨cmpr_cf _ _ (ordL_up hs) (ordL_ok hm ho), fun t => ?_, ?_⟩
  · have := cmpr_val t (ordL l d) (0, 0) (ordL_up hs)
    unfold vat
    rw [this]
    exact ordL_val hm hs t
  · have := cmpr_len (ordL l d) (0, 0)
    rw [ordL_len] at this; exact this
theorem IsOf.unique {l f g : List Sg} (hf : IsOf l f) (hg : IsOf l g) : f = g := cf_ext hf.1 hg.1 fun t => (hf.2.1 t).trans (hg.2.1 t).symm
end Go.Proofs.Ytgflbidagdcfmaa

namespace Go.Proofs.Ytgflbidagdcfmaa

/-- The vector of the last run of a list at just the time t. -/
def rawS (t : Int) (acc : Int × Int) (s : Sg) : Int × Int := if s.1 = t then s.2 else acc
def rawAt (l : List Sg) (t : Int) : Int × Int := l.foldl (rawS t) (0, 0)
theorem rawAt_step {l : List Sg} {k : Nat} {t : Int} (h : k < l.length) : rawAt (l.take (k + 1)) t = if ats l k = t then vls l k else rawAt (l.take k) t := by
  unfold rawAt ats vls
  rw [List.take_succ_eq_append_getElem h, List.foldl_append, getD_get _ _ _ h]
  rfl

/-- The vector that a list of runs ends with. -/
def lastV (f : List Sg) : Int × Int := if f.length = 0 then (0, 0) else vls f (f.length - 1)
/-- A list of runs with one vector more. -/
def withL (f : List Sg) (t : Int) (v : Int × Int) : List Sg := if v = lastV f then f else f ++ [(t, v)]
end Go.Proofs.Ytgflbidagdcfmaa

namespace Go.Proofs.Ytgflbidagdcfmaa

/-- A time put into its place among rising ones. -/
def insT (x : Int) : List Int → List Int
  | [] => [x]
  | y :: r => if y < x then y :: insT x r else if y = x then y :: r else x :: y :: r
def timesL (l : List Int) : List Int := l.foldl (fun o x => insT x o) []
theorem insT_at {x : Int} : ∀ {o : List Int} {k : Nat}, k ≤ o.length → (∀ i, i < k → o.getD i 0 < x) → (k < o.length → ¬ o.getD k 0 < x) →
    insT x o = if k < o.length ∧ o.getD k 0 = x then o else o.take k ++ x :: o.drop k
  | [], k, hk, _, _ => by
    have : k = 0 := by simp at hk; exact hk
    subst this
    simp [insT]
  | y :: r, 0, _, _, h2 => by
    have h := h2 (by simp)
    simp at h
    unfold insT
    rw [if_neg (by omega)]
    by_cases e : y = x
    · rw [if_pos e, if_pos ⟨by simp, by simpa using e⟩]
    · rw [if_neg e, if_neg (by intro q; exact e (by simpa using q.2))]
      rfl
  | y :: r, k + 1, hk, h1, h2 => by
    have h := h1 0 (by omega)
    simp at h
    unfold insT
    rw [if_pos h]
    have ih := insT_at (x := x) (o := r) (k := k) (by simp at hk; omega) (fun i hi => by have := h1 (i + 1) (by omega); simpa using this) (fun hk' => by have := h2 (by simp; omega); simpa using this)
    rw [ih]
    by_cases c : k < r.length ∧ r.getD k 0 = x
    · rw [if_pos c, if_pos ⟨by simp; omega, by simpa using c.2⟩]
    · rw [if_neg c, if_neg (by intro q; exact c ⟨by simp at q; omega, by simpa using q.2⟩)]
      rfl
theorem insT_mem {x y : Int} : ∀ {o : List Int}, y ∈ insT x o ↔ y = x ∨ y ∈ o
  | [] => by simp [insT]
  | z :: r => by
    unfold insT
    split
    · rw [List.mem_cons, insT_mem (o := r), List.mem_cons]
      constructor
      · rintro (h | h | h)
        · exact .inr (.inl h)
        · exact .inl h
        · exact .inr (.inr h)
      · rintro (h | h | h)
        · exact .inr (.inl h)
        · exact .inl h
        · exact .inr (.inr h)
    · split
      · rename_i e
        rw [List.mem_cons]
        constructor
        · rintro (h | h)
          · exact .inl (h.trans e)
          · exact .inr (.inr h)
        · rintro (h | h)
          · exact .inl (h.trans e.symm)
          · exact h
      · rw [List.mem_cons]
theorem insT_up {x : Int} : ∀ {o : List Int}, o.Pairwise (· < ·) → (insT x o).Pairwise (· < ·)
  | [], _ => by simp [insT]
  | z :: r, h => by
    have hz := List.pairwise_cons.1 h
    unfold insT
    split
    · rename_i c
      refine List.pairwise_cons.2 ⟨fun y hy => ?_, insT_up hz.2⟩
      rcases insT_mem.1 hy with e | e
      · rw [e]; exact c
      · exact hz.1 y e
    · split
      · exact h
      · rename_i c1 c2
        refine List.pairwise_cons.2 ⟨fun y hy => ?_, h⟩
        rcases List.mem_cons.1 hy with e | e
        · rw [e]; omega
        · have := hz.1 y e; omega
theorem insT_len {x : Int} : ∀ {o : List Int}, (insT x o).length ≤ o.length + 1
  | [] => by simp [insT]
  | z :: r => by
    unfold insT
    split
    · have := insT_len (x := x) (o := r)
      simp only [List.length_cons]; omega
    · split <;> simp
theorem times_aux : ∀ (l o : List Int), o.Pairwise (· < ·) → (l.foldl (fun o x => insT x o) o).Pairwise (· < ·) ∧ (∀ y, y ∈ l.foldl (fun o x => insT x o) o ↔ y ∈ l ∨ y ∈ o) ∧ (l.foldl (fun o x => insT x o) o).length ≤ l.length + o.length
  | [], o, h => ⟨h, fun y => by simp, by simp⟩
  | x :: l, o, h => by
    obtain ⟨h1, h2, h3⟩ := times_aux l (insT x o) (insT_up h)
    refine ⟨h1, fun y => ?_, ?_⟩
    · rw [List.foldl_cons, h2, insT_mem, List.mem_cons]
      constructor
      · rintro (h | h | h)
        · exact .inl (.inr h)
        · exact .inl (.inl h)
        · exact .inr h
      · rintro ((h | h) | h)
        · exact .inr (.inl h)
        · exact .inl h
        · exact .inr (.inr h)
    · have := insT_len (x := x) (o := o)
      rw [List.foldl_cons]
      simp only [List.length_cons]; omega
theorem timesL_up (l : List Int) : (timesL l).Pairwise (· < ·) := (times_aux l [] List.Pairwise.nil).1
theorem timesL_mem {l : List Int} {y : Int} : y ∈ timesL l ↔ y ∈ l := by
  have := (times_aux l [] List.Pairwise.nil).2.1 y
  unfold timesL; rw [this]; simp
theorem timesL_len (l : List Int) : (timesL l).length ≤ l.length := by
  have := (times_aux l [] List.Pairwise.nil).2.2
  unfold timesL; simpa using this
theorem timesL_step {l : List Int} {k : Nat} (h : k < l.length) : timesL (l.take (k + 1)) = insT (l.getD k 0) (timesL (l.take k)) := by
  unfold timesL
  rw [List.take_succ_eq_append_getElem h, List.foldl_append, getD_get _ _ _ h]; rfl

/-- A function built time by time. -/
def buildL (g : Int → Int × Int) (ts : List Int) : List Sg := ts.foldl (fun f t => withL f t (g t)) []
theorem buildL_snoc (g : Int → Int × Int) (ts : List Int) (t : Int) : buildL g (ts ++ [t]) = withL (buildL g ts) t (g t) := by unfold buildL; rw [List.foldl_append]; rfl
def gval (g : Int → Int × Int) (ts : List Int) (t : Int) : Int × Int := ts.foldl (fun acc t' => if t' ≤ t then g t' else acc) (0, 0)
theorem gval_snoc (g : Int → Int × Int) (ts : List Int) (t t0 : Int) : gval g (ts ++ [t0]) t = if t0 ≤ t then g t0 else gval g ts t := by unfold gval; rw [List.foldl_append]; rfl
theorem cf_snoc : ∀ {f : List Sg} {last : Int × Int} {t : Int} {v : Int × Int}, CF last f → (∀ x ∈ f, x.1 < t) → okS (t, v) = true → v ≠ (if f = [] then last else lastV f) → CF last (f ++ [(t, v)])
  | [], last, t, v, _, _, h3, h4 => ⟨h3, by rw [if_pos rfl] at h4; exact h4, fun x hx => by simp at hx, trivial⟩
  | s :: r, last, t, v, h1, h2, h3, h4 => by
    obtain ⟨a1, a2, a3, a4⟩ := h1
    refine ⟨a1, a2, fun x hx => ?_, cf_snoc a4 (fun x hx => h2 x (List.mem_cons_of_mem _ hx)) h3 ?_⟩
    · rcases List.mem_append.1 hx with h | h
      · exact a3 x h
      · simp at h; subst h; exact h2 s (by simp)
    · rw [if_neg (by simp)] at h4
      unfold lastV at h4
      rw [if_neg (by simp)] at h4
      cases r with
      | nil => simpa [vls] using h4
      | cons u r' =>
        rw [if_neg (by simp)]
        unfold lastV
        rw [if_neg (by simp)]
        simpa [vls] using h4
theorem lastV_nil : lastV [] = (0, 0) := rfl
theorem lastV_snoc (f : List Sg) (s : Sg) : lastV (f ++ [s]) = s.2 := by
  unfold lastV vls
  rw [if_neg (by simp)]
  have e : (f ++ [s]).length - 1 = f.length := by simp
  rw [e, getD_app_r]
theorem vat_all : ∀ (n : Nat) (f : List Sg) (t : Int), f.length = n → (∀ x ∈ f, x.1 ≤ t) → vat f t = lastV f
  | 0, f, t, h, _ => by
    have : f = [] := List.eq_nil_of_length_eq_zero h
    subst this; rfl
  | n + 1, f, t, h, hx => by
    obtain ⟨f', s, rfl⟩ : ∃ l' s, f = l' ++ [s] := ⟨f.dropLast, f.getLast (by intro e; subst e; simp at h), (List.dropLast_concat_getLast _).symm⟩
    rw [vat_snoc, lastV_snoc, if_pos (hx s (by simp))]

theorem buildL_all (g : Int → Int × Int) : ∀ (n : Nat) (ts : List Int), ts.length = n → ts.Pairwise (· < ·) → (∀ t ∈ ts, okS (t, g t) = true) →
    CF (0, 0) (buildL g ts) ∧ (∀ x ∈ buildL g ts, x.1 ∈ ts) ∧ (∀ t, vat (buildL g ts) t = gval g ts t) ∧ (buildL g ts).length ≤ ts.length
  | 0, ts, h, _, _ => by
    have : ts = [] := List.eq_nil_of_length_eq_zero h
    subst this
    exact ⟨trivial, fun x hx => by simp [buildL] at hx, fun t => rfl, Nat.le_refl _⟩
  | n + 1, ts, h, hu, ho => by
    obtain ⟨ts', t0, rfl⟩ : ∃ l' s, ts = l' ++ [s] := ⟨ts.dropLast, ts.getLast (by intro e; subst e; simp at h), (List.dropLast_concat_getLast _).symm⟩
    have hu' := List.pairwise_append.1 hu
    obtain ⟨i1, i2, i3, i4⟩ := buildL_all g n ts' (by simp at h; omega) hu'.1 (fun t ht => ho t (by simp [ht]))
    have hlt : ∀ x ∈ buildL g ts', x.1 < t0 := fun x hx => hu'.2.2 x.1 (i2 x hx) t0 (by simp)
    rw [buildL_snoc]
    unfold withL
    by_cases c : g t0 = lastV (buildL g ts')
    · rw [if_pos c]
      refine ⟨i1, fun x hx => by simp [i2 x hx], fun t => ?_, by simp; omega⟩
      rw [gval_snoc]
      by_cases k : t0 ≤ t
      · rw [if_pos k, c]
        exact vat_all _ _ t rfl (fun x hx => by have := hlt x hx; omega)
      · rw [if_neg k]; exact i3 t
    · rw [if_neg c]
      refine ⟨cf_snoc i1 hlt (ho t0 (by simp)) ?_, fun x hx => ?_, fun t => ?_, by simp; omega⟩
      · split
        · rename_i e
          rw [e] at c; exact c
        · exact c
      · rcases List.mem_append.1 hx with q | q
        · simp [i2 x q]
        · simp at q; subst q; simp
      · rw [vat_snoc, gval_snoc, i3]

theorem gval_none {g : Int → Int × Int} {t : Int} : ∀ (n : Nat) (ts : List Int), ts.length = n → (∀ x ∈ ts, t < x) → gval g ts t = (0, 0)
  | 0, ts, h, _ => by
    have : ts = [] := List.eq_nil_of_length_eq_zero h
    subst this; rfl
  | n + 1, ts, h, hx => by
    obtain ⟨ts', t0, rfl⟩ : ∃ l' s, ts = l' ++ [s] := ⟨ts.dropLast, ts.getLast (by intro e; subst e; simp at h), (List.dropLast_concat_getLast _).symm⟩
    have := hx t0 (by simp)
    rw [gval_snoc, if_neg (by omega)]
    exact gval_none n ts' (by simp at h; omega) fun x hx' => hx x (by simp [hx'])
theorem gval_some {g : Int → Int × Int} {t s : Int} : ∀ (n : Nat) (ts : List Int), ts.length = n → ts.Pairwise (· < ·) → s ∈ ts → s ≤ t → (∀ x ∈ ts, x ≤ t → x ≤ s) → gval g ts t = g s
  | 0, ts, h, _, hm, _, _ => by
    have : ts = [] := List.eq_nil_of_length_eq_zero h
    subst this; simp at hm
  | n + 1, ts, h, hu, hm, hs, hx => by
    obtain ⟨ts', t0, rfl⟩ : ∃ l' s, ts = l' ++ [s] := ⟨ts.dropLast, ts.getLast (by intro e; subst e; simp at h), (List.dropLast_concat_getLast _).symm⟩
    have hu' := List.pairwise_append.1 hu
    rw [gval_snoc]
    rcases List.mem_append.1 hm with q | q
    · have h1 := hu'.2.2 s q t0 (by simp)
      have h2 : ¬ t0 ≤ t := fun h2 => by have := hx t0 (by simp) h2; omega
      rw [if_neg h2]
      exact gval_some n ts' (by simp at h; omega) hu'.1 q hs fun x hx' => hx x (by simp [hx'])
    · simp at q; subst q
      rw [if_pos hs]

theorem rawAt_last {l : List Sg} {t : Int} {i : Nat} (hi : i < l.length) (h1 : ats l i = t) (h2 : ∀ j, i < j → j < l.length → ats l j ≠ t) : ∀ k, i < k → k ≤ l.length → rawAt (l.take k) t = vls l i
  | 0, h, _ => by omega
  | k + 1, h, hk => by
    rw [rawAt_step (by omega)]
    by_cases e : k = i
    · subst e; rw [if_pos h1]
    · rw [if_neg (h2 k (by omega) (by omega))]
      exact rawAt_last hi h1 h2 k (by omega) (by omega)
theorem rawAt_okS {l : List Sg} {t : Int} (ho : ∀ x ∈ l, okS x = true) (ht : t ∈ l.map (·.1)) : okS (t, rawAt l t) = true := by
  have : ∀ k, k ≤ l.length → rawAt (l.take k) t = (0, 0) ∨ okS (t, rawAt (l.take k) t) = true := by
    intro k
    induction k with
    | zero => intro _; left; simp [rawAt]
    | succ k ih =>
      intro hk
      rw [rawAt_step (by omega)]
      split
      · rename_i e
        right
        have := ho _ (List.getElem_mem (show k < l.length by omega))
        unfold ats at e
        unfold vls
        rw [getD_get _ _ _ (by omega)] at e ⊢
        rw [← e]; exact this
      · exact ih (by omega)
  have h := this l.length (Nat.le_refl _)
  rw [List.take_length] at h
  rcases h with h | h
  · rw [h]
    rw [List.mem_map] at ht
    obtain ⟨x, hx, rfl⟩ := ht
    have := ho x hx
    unfold okS at this ⊢
    rw [Bool.and_eq_true] at this ⊢
    exact ⟨this.1, (show okV 0 0 = true by decide)⟩
  · exact h

/-- The document's own way comes to the canonical function. -/
theorem isOf_build {l : List Sg} (ho : ∀ x ∈ l, okS x = true) : IsOf l (buildL (rawAt l) (timesL (l.map (·.1)))) := by
  obtain ⟨h1, h2, h3, h4⟩ := buildL_all (rawAt l) _ (timesL (l.map (·.1))) rfl (timesL_up _) (fun t ht => rawAt_okS ho (timesL_mem.1 ht))
  refine ⟨h1, fun t => ?_, Nat.le_trans h4 (by have := timesL_len (l.map (·.1)); simpa using this)⟩
  rw [h3]
  have hmem : ∀ j, j < l.length → ats l j ∈ timesL (l.map (·.1)) := fun j hj => by
    rw [timesL_mem, List.mem_map]
    exact ⟨l[j], List.getElem_mem hj, by unfold ats; rw [getD_get _ _ _ hj]⟩
  have hmem' : ∀ x ∈ timesL (l.map (·.1)), ∃ j, j < l.length ∧ ats l j = x := fun x hx => by
    rw [timesL_mem, List.mem_map] at hx
    obtain ⟨s, hs, rfl⟩ := hx
    obtain ⟨j, hj, rfl⟩ := List.getElem_of_mem hs
    exact ⟨j, hj, by unfold ats; rw [getD_get _ _ _ hj]⟩
  rcases rread_char t _ l rfl with ⟨e, hgt⟩ | ⟨i, ht, e⟩
  · unfold rv; rw [e]
    exact gval_none _ _ rfl fun x hx => by
      obtain ⟨j, hj, rfl⟩ := hmem' x hx
      exact hgt j hj
  · unfold rv; rw [e]
    rw [gval_some (s := ats l i) _ _ rfl (timesL_up _) (hmem i ht.1) ht.2.1 (fun x hx hxt => by
      obtain ⟨j, hj, rfl⟩ := hmem' x hx
      have := ht.2.2 j hj hxt
      omega)]
    have := rawAt_last (l := l) (t := ats l i) ht.1 rfl (fun j hij hj e => by
      have hjt : ats l j ≤ t := by rw [e]; exact ht.2.1
      have := ht.2.2 j hj hjt
      omega) l.length ht.1 (Nat.le_refl _)
    rw [List.take_length] at this
    exact this
end Go.Proofs.Ytgflbidagdcfmaa

namespace Go.Proofs.Ytgflbidagdcfmaa

/-- The run at i may stand there, behind the vector last. -/
def okAt (last : Int × Int) (l : List Sg) (i : Nat) : Bool := okS (l.getD i (0, 0, 0)) && !(vls l i == (if i = 0 then last else vls l (i - 1))) && (decide (i = 0) || decide (ats l (i - 1) < ats l i))
theorem okAt_succ (last : Int × Int) (s : Sg) (r : List Sg) (i : Nat) : okAt last (s :: r) (i + 1) = true ↔ okAt s.2 r i = true ∧ (i = 0 → s.1 < ats r 0) := by
  unfold okAt
  cases i with
  | zero => simp [ats, vls]
  | succ i => simp [ats, vls]
theorem cf_okAt : ∀ (l : List Sg) (last : Int × Int), CF last l ↔ ∀ i, i < l.length → okAt last l i = true
  | [], _ => ⟨fun _ i h => by simp at h, fun _ => trivial⟩
  | s :: r, last => by
    have ih := cf_okAt r s.2
    constructor
    · rintro ⟨a1, a2, a3, a4⟩ i hi
      cases i with
      | zero => unfold okAt; simp [vls, a1, a2]
      | succ i =>
        rw [okAt_succ]
        have hi' : i < r.length := by simpa using hi
        refine ⟨ih.1 a4 i hi', fun e => ?_⟩
        subst e
        unfold ats
        rw [getD_get _ _ _ hi']
        exact a3 _ (List.getElem_mem hi')
    · intro h
      have h0 := h 0 (by simp)
      unfold okAt at h0
      simp [vls] at h0
      have hr : CF s.2 r := ih.2 fun i hi => ((okAt_succ last s r i).1 (h (i + 1) (by simp; omega))).1
      refine ⟨h0.1, h0.2, fun x hx => ?_, hr⟩
      cases r with
      | nil => simp at hx
      | cons u r' =>
        have h1 := ((okAt_succ last s (u :: r') 0).1 (h 1 (by simp))).2 rfl
        simp [ats] at h1
        rcases List.mem_cons.1 hx with e | e
        · rw [e]; exact h1
        · have := hr.2.2.1 x e
          omega
/-- Is a list canonical? -/
def mayB (l : List Sg) : Bool := (List.range l.length).all fun i => okAt (0, 0) l i
theorem mayB_iff {l : List Sg} : mayB l = true ↔ Canon l := by
  unfold mayB Canon
  rw [cf_okAt, List.all_eq_true]
  simp only [List.mem_range]
theorem mayB_bad {l : List Sg} {i : Nat} (hi : i < l.length) (h : okAt (0, 0) l i = false) : mayB l = false := by
  unfold mayB
  rw [List.all_eq_false]
  exact ⟨i, by simpa using hi, by rw [h]; exact Bool.false_ne_true⟩
theorem mayB_good {l : List Sg} (h : ∀ i, i < l.length → okAt (0, 0) l i = true) : mayB l = true := by
  unfold mayB
  rw [List.all_eq_true]
  intro i hi
  exact h i (by simpa using hi)
/-- The vector ahead of the place i. -/
def prevV (l : List Sg) (i : Nat) : Int × Int := if i = 0 then (0, 0) else vls l (i - 1)
theorem prevV_succ (l : List Sg) (i : Nat) : prevV l (i + 1) = vls l i := by unfold prevV; rw [if_neg (by omega), Nat.add_sub_cancel]
end Go.Proofs.Ytgflbidagdcfmaa

namespace Go.Proofs.Ytgflbidagdcfmaa

theorem vat_step {l : List Sg} {k : Nat} {t : Int} (h : k < l.length) : vat (l.take (k + 1)) t = if ats l k ≤ t then vls l k else vat (l.take k) t := by
  rw [List.take_succ_eq_append_getElem h, vat_snoc]
  unfold ats vls
  rw [getD_get _ _ _ h]

/-- Of two vectors, by a number: the sum, the difference, the least, the greatest; and the error. -/
def opV (k : Int) (a b : Int × Int) : Int × Int × Int :=
  if k = 0 then addS a.1 a.2 b.1 b.2 else if k = 1 then subS a.1 a.2 b.1 b.2 else if k = 2 then (mn a.1 b.1, mn a.2 b.2, 0) else (mx a.1 b.1, mx a.2 b.2, 0)
theorem opV_0 (a b c d : Int) : opV 0 (a, b) (c, d) = addS a b c d := rfl
theorem opV_1 (a b c d : Int) : opV 1 (a, b) (c, d) = subS a b c d := rfl
theorem opV_2 (a b c d : Int) : opV 2 (a, b) (c, d) = (mn a c, mn b d, 0) := rfl
theorem opV_3 {k a b c d : Int} (h0 : k ≠ 0) (h1 : k ≠ 1) (h2 : k ≠ 2) : opV k (a, b) (c, d) = (mx a c, mx b d, 0) := by unfold opV; rw [if_neg h0, if_neg h1, if_neg h2]

/-- The times of two functions. -/
def twoT (f g : List Sg) : List Int := timesL (f.map (·.1) ++ g.map (·.1))
theorem twoT_len (f g : List Sg) : (twoT f g).length ≤ f.length + g.length := by
  have := timesL_len (f.map (·.1) ++ g.map (·.1))
  simpa [twoT] using this
theorem twoT_up (f g : List Sg) : (twoT f g).Pairwise (· < ·) := timesL_up _
theorem twoT_mem {f g : List Sg} {t : Int} : t ∈ twoT f g ↔ (∃ s ∈ f, s.1 = t) ∨ ∃ s ∈ g, s.1 = t := by
  unfold twoT; rw [timesL_mem]; simp

/-- What is made of two functions at a time. -/
def opT (k : Int) (f g : List Sg) (t : Int) : Int × Int × Int := opV k (vat f t) (vat g t)
def opW (k : Int) (f g : List Sg) (t : Int) : Int × Int := ((opT k f g t).1, (opT k f g t).2.1)
def opOk (k : Int) (f g : List Sg) : Bool := (twoT f g).all fun t => (opT k f g t).2.2 == 0
def opL (k : Int) (f g : List Sg) : List Sg := buildL (opW k f g) (twoT f g)
/-- What the document's own Do hands back. -/
def doS (k : Int) (f g : List Sg) : List Sg × Int := if (mayB f && mayB g) = false then ([], 5) else if opOk k f g then (opL k f g, 0) else ([], 10)
theorem doS_form {k : Int} {f g : List Sg} (h : (mayB f && mayB g) = false) : doS k f g = ([], 5) := by unfold doS; rw [if_pos h]
theorem doS_ok {k : Int} {f g : List Sg} (h1 : mayB f = true) (h2 : mayB g = true) (h : ∀ i, i < (twoT f g).length → (opT k f g ((twoT f g).getD i 0)).2.2 = 0) : doS k f g = (opL k f g, 0) := by
  unfold doS
  rw [h1, h2, if_neg (by decide), if_pos]
  unfold opOk
  rw [List.all_eq_true]
  intro t ht
  obtain ⟨i, hi, rfl⟩ := List.getElem_of_mem ht
  have := h i hi
  rw [getD_get _ _ _ hi] at this
  simp [this]
theorem doS_bad {k : Int} {f g : List Sg} {i : Nat} (h1 : mayB f = true) (h2 : mayB g = true) (hi : i < (twoT f g).length) (h : (opT k f g ((twoT f g).getD i 0)).2.2 ≠ 0) : doS k f g = ([], 10) := by
  unfold doS
  rw [h1, h2, if_neg (by decide), if_neg]
  intro c
  unfold opOk at c
  rw [List.all_eq_true] at c
  rw [getD_get _ _ _ hi] at h
  have := c _ (List.getElem_mem hi)
  exact h (by simpa using this)

/-- The document's own sum of a row, its functions canonical: the error is that of the first step that has one. -/
def sumE (l : List (List Sg)) : List Sg × Int := l.foldl (fun acc f => if acc.2 = 0 then doS 0 acc.1 f else acc) ([], 0)
def sumS (l : List (List Sg)) : List Sg × Int := if l.all mayB then sumE l else ([], 5)

/-- The document's own LE: the first of the times, from one on, at which the one is not at most the other. -/
def badT (f g : List Sg) (from' t : Int) : Bool := decide (from' ≤ t) && !(leB (vat f t).1 (vat f t).2 (vat g t).1 (vat g t).2)
def leT (f g : List Sg) (from' : Int) : List Int := timesL (twoT f g ++ [from'])
def leS (f g : List Sg) (from' : Int) : Int × Bool × Int :=
  if (mayB f && mayB g) = false then (0, false, 5) else match (leT f g from').find? (badT f g from') with
    | some t => (t, false, 0)
    | none => (0, true, 0)
end Go.Proofs.Ytgflbidagdcfmaa

namespace Go.Proofs.Ytgflbidagdcfmaa

theorem foldl_same {s t : Int} : ∀ (l : List Sg) (acc : Int × Int), (∀ x ∈ l, x.1 ≤ s ↔ x.1 ≤ t) → l.foldl (stepV s) acc = l.foldl (stepV t) acc
  | [], _, _ => rfl
  | x :: r, acc, h => by
    have e : stepV s acc x = stepV t acc x := by
      unfold stepV
      have := h x (by simp)
      by_cases c : x.1 ≤ s
      · rw [if_pos c, if_pos (this.1 c)]
      · rw [if_neg c, if_neg (fun c' => c (this.2 c'))]
    rw [List.foldl_cons, List.foldl_cons, e]
    exact foldl_same r _ fun y hy => h y (List.mem_cons_of_mem _ hy)
/-- Between two times at which the same runs have begun, a function has one value. -/
theorem vat_same {l : List Sg} {s t : Int} (h : ∀ x ∈ l, x.1 ≤ s ↔ x.1 ≤ t) : vat l s = vat l t := foldl_same l _ h
theorem vat_before {l : List Sg} {t : Int} (h : ∀ x ∈ l, t < x.1) : vat l t = (0, 0) := foldl_gt t l _ h

/-- The last of some times that is at most t. -/
theorem lastT {t : Int} : ∀ (ts : List Int), (∀ x ∈ ts, t < x) ∨ ∃ s ∈ ts, s ≤ t ∧ ∀ x ∈ ts, x ≤ t → x ≤ s
  | [] => .inl fun x hx => by simp at hx
  | y :: r => by
    rcases lastT (t := t) r with h | ⟨s, hs, h1, h2⟩
    · by_cases c : y ≤ t
      · refine .inr ⟨y, by simp, c, fun x hx hxt => ?_⟩
        rcases List.mem_cons.1 hx with e | e
        · omega
        · have := h x e; omega
      · refine .inl fun x hx => ?_
        rcases List.mem_cons.1 hx with e | e
        · omega
        · exact h x e
    · by_cases c : y ≤ t ∧ s < y
      · refine .inr ⟨y, by simp, c.1, fun x hx hxt => ?_⟩
        rcases List.mem_cons.1 hx with e | e
        · omega
        · have := h2 x e hxt; omega
      · refine .inr ⟨s, List.mem_cons_of_mem _ hs, h1, fun x hx hxt => ?_⟩
        rcases List.mem_cons.1 hx with e | e
        · omega
        · exact h2 x e hxt

/-- A canonical function's values may be. -/
theorem vat_ok {f : List Sg} (h : ∀ x ∈ f, okS x = true) (t : Int) : okV (vat f t).1 (vat f t).2 = true := by
  have : ∀ (l : List Sg) (acc : Int × Int), (∀ x ∈ l, okS x = true) → okV acc.1 acc.2 = true → okV (l.foldl (stepV t) acc).1 (l.foldl (stepV t) acc).2 = true := by
    intro l
    induction l with
    | nil => intro acc _ h; exact h
    | cons x r ih =>
      intro acc hl ha
      rw [List.foldl_cons]
      refine ih _ (fun y hy => hl y (List.mem_cons_of_mem _ hy)) ?_
      unfold stepV
      split
      · have := hl x (by simp)
        unfold okS at this
        rw [Bool.and_eq_true] at this
        exact this.2
      · exact ha
  exact this f (0, 0) h (by decide)

theorem gate_ok {b : Bool} {x y : Int} (h : (gate b x y).2.2 = 0) : b = true := by
  unfold gate at h
  cases b
  · simp at h
  · rfl
theorem opV_ok {k : Int} {a b : Int × Int} (ha : okV a.1 a.2 = true) (hb : okV b.1 b.2 = true) (h : (opV k a b).2.2 = 0) : okV (opV k a b).1 (opV k a b).2.1 = true := by
  have A := okV_iff.1 ha; have B := okV_iff.1 hb
  unfold opV at h ⊢
  split
  · rename_i h0
    rw [if_pos h0] at h
    unfold addS at h ⊢
    have hg := gate_ok h
    rw [gate_true hg]
    simp only [Bool.and_eq_true] at hg
    exact hg.2
  · rename_i h0
    rw [if_neg h0] at h
    split
    · rename_i h1
      rw [if_pos h1] at h
      unfold subS at h ⊢
      have hg := gate_ok h
      rw [gate_true hg]
      simp only [Bool.and_eq_true] at hg
      exact hg.2
    · split
      · rw [okV_iff]; unfold mn; simp only; split <;> split <;> omega
      · rw [okV_iff]; unfold mx; simp only; split <;> split <;> omega
theorem opV_zero (k : Int) : opV k (0, 0) (0, 0) = (0, 0, 0) := by
  unfold opV
  split
  · decide
  · split
    · decide
    · split <;> decide

/-- At any time what is made is what is made at the last time at which something begins. -/
theorem opT_last (k : Int) (f g : List Sg) (t : Int) : ((∀ x ∈ twoT f g, t < x) ∧ opT k f g t = (0, 0, 0)) ∨ ∃ s ∈ twoT f g, s ≤ t ∧ (∀ x ∈ twoT f g, x ≤ t → x ≤ s) ∧ opT k f g t = opT k f g s := by
  rcases lastT (t := t) (twoT f g) with h | ⟨s, hs, h1, h2⟩
  · refine .inl ⟨h, ?_⟩
    unfold opT
    rw [vat_before (fun x hx => h x.1 (twoT_mem.2 (.inl ⟨x, hx, rfl⟩))), vat_before (fun x hx => h x.1 (twoT_mem.2 (.inr ⟨x, hx, rfl⟩)))]
    exact opV_zero k
  · refine .inr ⟨s, hs, h1, h2, ?_⟩
    unfold opT
    rw [vat_same (l := f) (s := s) (t := t) (fun x hx => ⟨fun h => by omega, fun h => h2 x.1 (twoT_mem.2 (.inl ⟨x, hx, rfl⟩)) h⟩),
      vat_same (l := g) (s := s) (t := t) (fun x hx => ⟨fun h => by omega, fun h => h2 x.1 (twoT_mem.2 (.inr ⟨x, hx, rfl⟩)) h⟩)]
theorem opOk_iff {k : Int} {f g : List Sg} : opOk k f g = true ↔ ∀ t, (opT k f g t).2.2 = 0 := by
  unfold opOk
  rw [List.all_eq_true]
  constructor
  · intro h t
    rcases opT_last k f g t with ⟨_, e⟩ | ⟨s, hs, _, _, e⟩
    · rw [e]
    · rw [e]; simpa using h s hs
  · intro h t _
    simp [h t]

/-- What is made of two canonical functions. -/
theorem opL_spec {k : Int} {f g : List Sg} (hf : Canon f) (hg : Canon g) (h : opOk k f g = true) : Canon (opL k f g) ∧ ∀ t, vat (opL k f g) t = opW k f g t := by
  have he := opOk_iff.1 h
  have hok : ∀ t ∈ twoT f g, okS (t, opW k f g t) = true := fun t ht => by
    have h1 : okV (opW k f g t).1 (opW k f g t).2 = true := opV_ok (vat_ok (CF.ok hf) t) (vat_ok (CF.ok hg) t) (he t)
    have h2 : okT t = true := by
      rcases twoT_mem.1 ht with ⟨x, hx, rfl⟩ | ⟨x, hx, rfl⟩
      · have := CF.ok hf x hx
        unfold okS at this
        rw [Bool.and_eq_true] at this
        exact this.1
      · have := CF.ok hg x hx
        unfold okS at this
        rw [Bool.and_eq_true] at this
        exact this.1
    unfold okS
    rw [Bool.and_eq_true]
    exact ⟨h2, h1⟩
  obtain ⟨h1, _, h3, _⟩ := buildL_all (opW k f g) _ (twoT f g) rfl (twoT_up f g) hok
  refine ⟨h1, fun t => ?_⟩
  unfold opL
  rw [h3]
  rcases opT_last k f g t with ⟨hn, e⟩ | ⟨s, hs, hst, hl, e⟩
  · rw [gval_none _ _ rfl hn]
    unfold opW; rw [e]
  · rw [gval_some _ _ rfl (twoT_up f g) hs hst hl]
    unfold opW; rw [e]
theorem opL_len (k : Int) (f g : List Sg) : (opL k f g).length ≤ f.length + g.length := by
  have h : ∀ (gv : Int → Int × Int) (ts : List Int) (f : List Sg), (ts.foldl (fun f t => withL f t (gv t)) f).length ≤ f.length + ts.length := by
    intro gv ts
    induction ts with
    | nil => intro f; simp
    | cons t r ih =>
      intro f
      rw [List.foldl_cons]
      have h1 := ih (withL f t (gv t))
      have h2 : (withL f t (gv t)).length ≤ f.length + 1 := by unfold withL; split <;> simp
      simp only [List.length_cons]
      omega
  have h1 := h (opW k f g) (twoT f g) []
  have h2 := twoT_len f g
  unfold opL buildL
  simp at h1
  omega
/-- A canonical function with these values is the one that is made. -/
theorem opL_unique {k : Int} {f g F : List Sg} (hf : Canon f) (hg : Canon g) (h : opOk k f g = true) (hF : Canon F) (hv : ∀ t, vat F t = opW k f g t) : F = opL k f g := by
  obtain ⟨h1, h2⟩ := opL_spec hf hg h
  exact cf_ext hF h1 fun t => (hv t).trans (h2 t).symm
end Go.Proofs.Ytgflbidagdcfmaa

namespace Go.Proofs.Ytgflbidagdcfmaa

/-- A time, and the values of both. -/
abbrev Tg := Int × (Int × Int) × (Int × Int)
def nextT (f g : List Sg) : Int := if g.length = 0 ∨ (0 < f.length ∧ ats f 0 < ats g 0) then ats f 0 else ats g 0
def hit (f : List Sg) (t : Int) : Bool := decide (0 < f.length ∧ ats f 0 = t)
def passV (f : List Sg) (t : Int) (v : Int × Int) : Int × Int := if hit f t then vls f 0 else v
def passF (f : List Sg) (t : Int) : List Sg := if hit f t then f.drop 1 else f
def tog : Nat → List Sg → List Sg → Int × Int → Int × Int → List Tg
  | 0, _, _, _, _ => []
  | n + 1, f, g, x, y => if f.length = 0 ∧ g.length = 0 then [] else
    (nextT f g, passV f (nextT f g) x, passV g (nextT f g) y) :: tog n (passF f (nextT f g)) (passF g (nextT f g)) (passV f (nextT f g) x) (passV g (nextT f g) y)
def togL (f g : List Sg) : List Tg := tog (f.length + g.length) f g (0, 0) (0, 0)

theorem tog_nil {n : Nat} {f g : List Sg} {x y : Int × Int} (hf : f.length = 0) (hg : g.length = 0) : tog n f g x y = [] := by
  cases n with
  | zero => rfl
  | succ n => unfold tog; rw [if_pos ⟨hf, hg⟩]
theorem tog_cons {n : Nat} {f g : List Sg} {x y : Int × Int} (h : ¬ (f.length = 0 ∧ g.length = 0)) :
    tog (n + 1) f g x y = (nextT f g, passV f (nextT f g) x, passV g (nextT f g) y) :: tog n (passF f (nextT f g)) (passF g (nextT f g)) (passV f (nextT f g) x) (passV g (nextT f g) y) := by
  conv => lhs; unfold tog
  rw [if_neg h]
theorem passF_len (f : List Sg) (t : Int) : (passF f t).length ≤ f.length := by unfold passF; split <;> simp
theorem pass_less {f g : List Sg} (h : ¬ (f.length = 0 ∧ g.length = 0)) : (passF f (nextT f g)).length + (passF g (nextT f g)).length + 1 ≤ f.length + g.length := by
  by_cases c : g.length = 0 ∨ (0 < f.length ∧ ats f 0 < ats g 0)
  · have e : nextT f g = ats f 0 := by unfold nextT; rw [if_pos c]
    have hl : 0 < f.length := by rcases c with c | c <;> omega
    have : passF f (nextT f g) = f.drop 1 := by unfold passF hit; rw [if_pos (decide_eq_true ⟨hl, e.symm⟩)]
    have h2 := passF_len g (nextT f g)
    rw [this, List.length_drop]; omega
  · have e : nextT f g = ats g 0 := by unfold nextT; rw [if_neg c]
    have hl : 0 < g.length := by omega
    have : passF g (nextT f g) = g.drop 1 := by unfold passF hit; rw [if_pos (decide_eq_true ⟨hl, e.symm⟩)]
    have h2 := passF_len f (nextT f g)
    rw [this, List.length_drop]; omega

/-- Rising times. -/
def UpT (f : List Sg) : Prop := f.Pairwise fun a b => a.1 < b.1
theorem pass_up {f : List Sg} (h : UpT f) (t : Int) : UpT (passF f t) := by
  unfold passF; split
  · exact h.sublist (List.drop_sublist 1 f)
  · exact h
/-- Where the next time is at most each run's, what is left is behind it, and a value is what it was, or the run's. -/
theorem pass_spec {f : List Sg} (h : UpT f) {t : Int} (ht : ∀ s ∈ f, t ≤ s.1) (x : Int × Int) : (∀ s ∈ passF f t, t < s.1) ∧ (∀ u, t ≤ u → (passF f t).foldl (stepV u) (passV f t x) = f.foldl (stepV u) x) ∧ (∀ s, s ∈ f ↔ s ∈ passF f t ∨ (s ∈ f ∧ s.1 = t)) := by
  cases f with
  | nil => exact ⟨fun s hs => by simp [passF, hit] at hs, fun u hu => by simp [passF, passV, hit], fun s => by simp [passF, hit]⟩
  | cons s0 r =>
    unfold UpT at h
    rw [List.pairwise_cons] at h
    have e0 : ats (s0 :: r) 0 = s0.1 := rfl
    have e1 : vls (s0 :: r) 0 = s0.2 := rfl
    by_cases c : s0.1 = t
    · have hh : hit (s0 :: r) t = true := decide_eq_true ⟨by simp, by rw [e0]; exact c⟩
      have hF : passF (s0 :: r) t = r := by unfold passF; rw [if_pos hh]; rfl
      have hV : passV (s0 :: r) t x = s0.2 := by unfold passV; rw [if_pos hh, e1]
      rw [hF, hV]
      refine ⟨fun s hs => by have := h.1 s hs; omega, fun u hu => ?_, fun s => ?_⟩
      · rw [List.foldl_cons]
        have : stepV u x s0 = s0.2 := by unfold stepV; rw [if_pos (by omega)]
        rw [this]
      · constructor
        · intro hs
          rcases List.mem_cons.1 hs with rfl | hs'
          · exact .inr ⟨hs, c⟩
          · exact .inl hs'
        · rintro (hs | hs)
          · exact List.mem_cons_of_mem _ hs
          · exact hs.1
    · have hh : hit (s0 :: r) t = false := decide_eq_false (fun e => c (by rw [← e0]; exact e.2))
      have hF : passF (s0 :: r) t = s0 :: r := by unfold passF; rw [if_neg (by rw [hh]; decide)]
      have hV : passV (s0 :: r) t x = x := by unfold passV; rw [if_neg (by rw [hh]; decide)]
      rw [hF, hV]
      have ht0 := ht s0 (by simp)
      refine ⟨fun s hs => ?_, fun u hu => rfl, fun s => ⟨fun hs => .inl hs, fun hs => hs.elim id (·.1)⟩⟩
      rcases List.mem_cons.1 hs with rfl | hs'
      · omega
      · have := h.1 s hs'; omega
theorem up_head {f : List Sg} (h : UpT f) : ∀ s ∈ f, ats f 0 ≤ s.1 := by
  cases f with
  | nil => intro s hs; simp at hs
  | cons s0 r =>
    unfold UpT at h
    rw [List.pairwise_cons] at h
    intro s hs
    have e0 : ats (s0 :: r) 0 = s0.1 := rfl
    rcases List.mem_cons.1 hs with rfl | hs'
    · omega
    · have := h.1 s hs'; omega
theorem next_least {f g : List Sg} (hf : UpT f) (hg : UpT g) : (∀ s ∈ f, nextT f g ≤ s.1) ∧ ∀ s ∈ g, nextT f g ≤ s.1 := by
  have h1 := up_head hf; have h2 := up_head hg
  by_cases c : g.length = 0 ∨ (0 < f.length ∧ ats f 0 < ats g 0)
  · have e : nextT f g = ats f 0 := by unfold nextT; rw [if_pos c]
    rw [e]
    refine ⟨h1, fun s hs => ?_⟩
    rcases c with c | c
    · rw [List.eq_nil_of_length_eq_zero c] at hs; simp at hs
    · have := h2 s hs; omega
  · have e : nextT f g = ats g 0 := by unfold nextT; rw [if_neg c]
    rw [e]
    refine ⟨fun s hs => ?_, h2⟩
    have hl : 0 < f.length := List.length_pos_of_mem hs
    have := h1 s hs; omega
theorem next_mem {f g : List Sg} (h : ¬ (f.length = 0 ∧ g.length = 0)) : (∃ s ∈ f, s.1 = nextT f g) ∨ ∃ s ∈ g, s.1 = nextT f g := by
  by_cases c : g.length = 0 ∨ (0 < f.length ∧ ats f 0 < ats g 0)
  · have e : nextT f g = ats f 0 := by unfold nextT; rw [if_pos c]
    have hl : 0 < f.length := by rcases c with c | c <;> omega
    refine .inl ⟨f.getD 0 (0, 0, 0), ?_, by rw [e]; rfl⟩
    rw [getD_get _ _ _ hl]; exact List.getElem_mem hl
  · have e : nextT f g = ats g 0 := by unfold nextT; rw [if_neg c]
    have hl : 0 < g.length := by omega
    refine .inr ⟨g.getD 0 (0, 0, 0), ?_, by rw [e]; rfl⟩
    rw [getD_get _ _ _ hl]; exact List.getElem_mem hl

/-- The items' times rise, they are the runs' times, and the values are the functions'. -/
theorem tog_spec : ∀ (n : Nat) (f g : List Sg) (x y : Int × Int), f.length + g.length ≤ n → UpT f → UpT g →
    ((tog n f g x y).Pairwise fun p q => p.1 < q.1) ∧ (∀ p ∈ tog n f g x y, p.2.1 = f.foldl (stepV p.1) x ∧ p.2.2 = g.foldl (stepV p.1) y) ∧
    (∀ t, (∃ p ∈ tog n f g x y, p.1 = t) ↔ (∃ s ∈ f, s.1 = t) ∨ ∃ s ∈ g, s.1 = t)
  | 0, f, g, x, y, hn, _, _ => by
    have e1 : f = [] := List.eq_nil_of_length_eq_zero (by omega)
    have e2 : g = [] := List.eq_nil_of_length_eq_zero (by omega)
    subst e1 e2
    simp [tog]
  | n + 1, f, g, x, y, hn, hf, hg => by
    by_cases h : f.length = 0 ∧ g.length = 0
    · have e1 : f = [] := List.eq_nil_of_length_eq_zero h.1
      have e2 : g = [] := List.eq_nil_of_length_eq_zero h.2
      subst e1 e2
      simp [tog]
    · have hless := pass_less h
      obtain ⟨l1, l2⟩ := next_least hf hg
      have hm := next_mem h
      rw [tog_cons h]
      obtain ⟨p1, p2, p3⟩ := pass_spec hf l1 x
      obtain ⟨q1, q2, q3⟩ := pass_spec hg l2 y
      obtain ⟨r1, r2, r3⟩ := tog_spec n (passF f (nextT f g)) (passF g (nextT f g)) (passV f (nextT f g) x) (passV g (nextT f g) y) (by omega) (pass_up hf _) (pass_up hg _)
      generalize nextT f g = t at *
      have late : ∀ p ∈ tog n (passF f t) (passF g t) (passV f t x) (passV g t y), t < p.1 := fun p hp => by
        rcases (r3 p.1).1 ⟨p, hp, rfl⟩ with ⟨s, hs, e⟩ | ⟨s, hs, e⟩
        · rw [← e]; exact p1 s hs
        · rw [← e]; exact q1 s hs
      refine ⟨List.pairwise_cons.2 ⟨fun p hp => late p hp, r1⟩, fun p hp => ?_, fun u => ?_⟩
      · rcases List.mem_cons.1 hp with rfl | hp'
        · have e1 := p2 t (Int.le_refl _); have e2 := q2 t (Int.le_refl _)
          have f1 : (passF f t).foldl (stepV t) (passV f t x) = passV f t x := foldl_gt t _ _ p1
          have f2 : (passF g t).foldl (stepV t) (passV g t y) = passV g t y := foldl_gt t _ _ q1
          exact ⟨f1.symm.trans e1, f2.symm.trans e2⟩
        · obtain ⟨e1, e2⟩ := r2 p hp'
          have := late p hp'
          exact ⟨e1.trans (p2 p.1 (by omega)), e2.trans (q2 p.1 (by omega))⟩
      · constructor
        · rintro ⟨p, hp, rfl⟩
          rcases List.mem_cons.1 hp with rfl | hp'
          · exact hm
          · rcases (r3 p.1).1 ⟨p, hp', rfl⟩ with ⟨s, hs, e⟩ | ⟨s, hs, e⟩
            · exact .inl ⟨s, (p3 s).2 (.inl hs), e⟩
            · exact .inr ⟨s, (q3 s).2 (.inl hs), e⟩
        · intro hu
          by_cases c : u = t
          · exact ⟨_, List.mem_cons_self, c.symm⟩
          · have : (∃ s ∈ passF f t, s.1 = u) ∨ ∃ s ∈ passF g t, s.1 = u := by
              rcases hu with ⟨s, hs, e⟩ | ⟨s, hs, e⟩
              · rcases (p3 s).1 hs with h' | h'
                · exact .inl ⟨s, h', e⟩
                · exact absurd (e.symm.trans h'.2) c
              · rcases (q3 s).1 hs with h' | h'
                · exact .inr ⟨s, h', e⟩
                · exact absurd (e.symm.trans h'.2) c
            obtain ⟨p, hp, e⟩ := (r3 u).2 this
            exact ⟨p, List.mem_cons_of_mem _ hp, e⟩

theorem tog_len : ∀ (n : Nat) (f g : List Sg) (x y : Int × Int), (tog n f g x y).length ≤ n
  | 0, _, _, _, _ => Nat.le_refl _
  | n + 1, f, g, x, y => by
    unfold tog
    split
    · simp
    · have := tog_len n (passF f (nextT f g)) (passF g (nextT f g)) (passV f (nextT f g) x) (passV g (nextT f g) y)
      simp only [List.length_cons]; omega
theorem togL_len (f g : List Sg) : (togL f g).length ≤ f.length + g.length := tog_len _ _ _ _ _
/-- Of two functions with rising times. -/
theorem togL_spec {f g : List Sg} (hf : UpT f) (hg : UpT g) : ((togL f g).Pairwise fun p q => p.1 < q.1) ∧ (∀ p ∈ togL f g, p.2.1 = vat f p.1 ∧ p.2.2 = vat g p.1) ∧ ∀ t, (∃ p ∈ togL f g, p.1 = t) ↔ t ∈ twoT f g := by
  obtain ⟨h1, h2, h3⟩ := tog_spec (f.length + g.length) f g (0, 0) (0, 0) (Nat.le_refl _) hf hg
  exact ⟨h1, h2, fun t => (h3 t).trans twoT_mem.symm⟩
end Go.Proofs.Ytgflbidagdcfmaa

namespace Go.Proofs.Ytgflbidagdcfmaa

def rawOf (k : Int) (p : Tg) : Sg := (p.1, ((opV k p.2.1 p.2.2).1, (opV k p.2.1 p.2.2).2.1))
def errOf (k : Int) (p : Tg) : Int := (opV k p.2.1 p.2.2).2.2

theorem gate_err (b : Bool) (x y : Int) : (gate b x y).2.2 = 0 ∨ (gate b x y).2.2 = 10 := by unfold gate; cases b <;> simp
theorem errOf_two (k : Int) (p : Tg) : errOf k p = 0 ∨ errOf k p = 10 := by
  unfold errOf opV
  split
  · exact gate_err _ _ _
  · split
    · exact gate_err _ _ _
    · split <;> simp
theorem canon_up {f : List Sg} (h : Canon f) : UpT f := CF.up h
theorem item_at {k : Int} {f g : List Sg} (hf : Canon f) (hg : Canon g) {p : Tg} (hp : p ∈ togL f g) : opT k f g p.1 = opV k p.2.1 p.2.2 := by
  obtain ⟨h1, h2⟩ := (togL_spec (canon_up hf) (canon_up hg)).2.1 p hp
  unfold opT; rw [h1, h2]
/-- An error at one of the times. -/
theorem comb_bad {k : Int} {f g : List Sg} (hf : mayB f = true) (hg : mayB g = true) {p : Tg} (hp : p ∈ togL f g) (he : errOf k p ≠ 0) : doS k f g = ([], errOf k p) := by
  have hf' := mayB_iff.1 hf; have hg' := mayB_iff.1 hg
  have h10 : errOf k p = 10 := (errOf_two k p).resolve_left he
  have ht : p.1 ∈ twoT f g := ((togL_spec (canon_up hf') (canon_up hg')).2.2 p.1).1 ⟨p, hp, rfl⟩
  obtain ⟨i, hi, hti⟩ := List.getElem_of_mem ht
  rw [h10]
  refine doS_bad (i := i) hf hg hi ?_
  rw [getD_get _ _ _ hi, hti, item_at hf' hg' hp]
  exact he
/-- No error at any time. -/
theorem comb_ok {k : Int} {f g : List Sg} (hf : mayB f = true) (hg : mayB g = true) (he : ∀ p ∈ togL f g, errOf k p = 0) :
    ((togL f g).map (rawOf k)).all okS = true ∧ ∀ r, IsOf ((togL f g).map (rawOf k)) r → doS k f g = (r, 0) := by
  have hf' := mayB_iff.1 hf; have hg' := mayB_iff.1 hg
  obtain ⟨s1, s2, s3⟩ := togL_spec (canon_up hf') (canon_up hg')
  have hz : ∀ i, i < (twoT f g).length → (opT k f g ((twoT f g).getD i 0)).2.2 = 0 := fun i hi => by
    rw [getD_get _ _ _ hi]
    obtain ⟨p, hp, e⟩ := (s3 _).2 (List.getElem_mem hi)
    rw [← e, item_at hf' hg' hp]; exact he p hp
  have hok : opOk k f g = true := by
    unfold opOk
    rw [List.all_eq_true]
    intro t ht
    obtain ⟨p, hp, e⟩ := (s3 t).2 ht
    rw [← e, item_at hf' hg' hp]
    have := he p hp
    unfold errOf at this
    rw [this]; rfl
  have hall := opOk_iff.1 hok
  constructor
  · rw [List.all_eq_true]
    intro x hx
    obtain ⟨p, hp, rfl⟩ := List.mem_map.1 hx
    have h1 : okV (opV k p.2.1 p.2.2).1 (opV k p.2.1 p.2.2).2.1 = true := by
      obtain ⟨e1, e2⟩ := s2 p hp
      exact opV_ok (by rw [e1]; exact vat_ok (CF.ok hf') _) (by rw [e2]; exact vat_ok (CF.ok hg') _) (he p hp)
    have h2 : okT p.1 = true := by
      rcases twoT_mem.1 ((s3 p.1).1 ⟨p, hp, rfl⟩) with ⟨x, hx, e⟩ | ⟨x, hx, e⟩
      · have := CF.ok hf' x hx
        unfold okS at this; rw [Bool.and_eq_true, e] at this; exact this.1
      · have := CF.ok hg' x hx
        unfold okS at this; rw [Bool.and_eq_true, e] at this; exact this.1
    unfold okS rawOf
    rw [Bool.and_eq_true]
    exact ⟨h2, h1⟩
  · intro r hr
    rw [doS_ok hf hg hz, opL_unique hf' hg' hok hr.1 fun t => ?_]
    rw [hr.2.1 t]
    have hmem : ∀ (x : Int), x ∈ twoT f g → ∃ j, j < ((togL f g).map (rawOf k)).length ∧ ats ((togL f g).map (rawOf k)) j = x := fun x hx => by
      obtain ⟨p, hp, e⟩ := (s3 x).2 hx
      obtain ⟨j, hj, rfl⟩ := List.getElem_of_mem hp
      refine ⟨j, by simpa using hj, ?_⟩
      unfold ats
      rw [getD_get _ _ _ (by simpa using hj), List.getElem_map]
      exact e
    rcases rread_char t _ ((togL f g).map (rawOf k)) rfl with ⟨e, hgt⟩ | ⟨i, htop, e⟩
    · unfold rv; rw [e]
      have hn : ∀ x ∈ twoT f g, t < x := fun x hx => by
        obtain ⟨j, hj, ej⟩ := hmem x hx
        rw [← ej]; exact hgt j hj
      unfold opW opT
      rw [vat_before (fun x hx => hn x.1 (twoT_mem.2 (.inl ⟨x, hx, rfl⟩))), vat_before (fun x hx => hn x.1 (twoT_mem.2 (.inr ⟨x, hx, rfl⟩))), opV_zero]
    · unfold rv; rw [e]
      obtain ⟨hi, hle, hbest⟩ := htop
      have hi' : i < (togL f g).length := by simpa using hi
      have hp : (togL f g)[i] ∈ togL f g := List.getElem_mem hi'
      have ea : ats ((togL f g).map (rawOf k)) i = (togL f g)[i].1 := by
        unfold ats; rw [getD_get _ _ _ hi, List.getElem_map]; rfl
      have ev : vls ((togL f g).map (rawOf k)) i = opW k f g (togL f g)[i].1 := by
        unfold vls; rw [getD_get _ _ _ hi, List.getElem_map]
        unfold opW; rw [item_at hf' hg' hp]; rfl
      rw [ea] at hle
      have hlast : ∀ x ∈ twoT f g, x ≤ t → x ≤ (togL f g)[i].1 := fun x hx hxt => by
        obtain ⟨j, hj, ej⟩ := hmem x hx
        have := hbest j hj (by rw [ej]; exact hxt)
        rw [ej, ea] at this
        omega
      show vls _ i = _
      rw [ev]
      unfold opW opT
      rw [vat_same (l := f) (s := (togL f g)[i].1) (t := t) (fun x hx => ⟨fun h => by omega, fun h => hlast x.1 (twoT_mem.2 (.inl ⟨x, hx, rfl⟩)) h⟩),
        vat_same (l := g) (s := (togL f g)[i].1) (t := t) (fun x hx => ⟨fun h => by omega, fun h => hlast x.1 (twoT_mem.2 (.inr ⟨x, hx, rfl⟩)) h⟩)]
end Go.Proofs.Ytgflbidagdcfmaa

namespace Go.Proofs.Ytgflbidagdcfmaa

def cndLE (x : Int) (p : Tg) : Bool := decide (x < p.1) && !(leB p.2.1.1 p.2.1.2 p.2.2.1 p.2.2.2)

theorem find_up {q : Int → Bool} {t : Int} : ∀ {l : List Int}, l.Pairwise (· < ·) → t ∈ l → q t = true → (∀ s ∈ l, s < t → q s = false) → l.find? q = some t
  | [], _, h, _, _ => by simp at h
  | y :: r, hu, hm, hq, hs => by
    rw [List.pairwise_cons] at hu
    by_cases e : y = t
    · subst e; rw [List.find?_cons_of_pos hq]
    · have hm' : t ∈ r := by
        rcases List.mem_cons.1 hm with h | h
        · exact absurd h.symm e
        · exact h
      have := hs y (by simp) (hu.1 t hm')
      rw [List.find?_cons_of_neg (by rw [this]; decide)]
      exact find_up hu.2 hm' hq fun s hs' => hs s (List.mem_cons_of_mem _ hs')
theorem leT_up (f g : List Sg) (x : Int) : (leT f g x).Pairwise (· < ·) := timesL_up _
theorem leT_mem {f g : List Sg} {x t : Int} : t ∈ leT f g x ↔ t ∈ twoT f g ∨ t = x := by
  unfold leT; rw [timesL_mem]; simp
theorem badT_iff {f g : List Sg} {x t : Int} : badT f g x t = true ↔ x ≤ t ∧ leB (vat f t).1 (vat f t).2 (vat g t).1 (vat g t).2 = false := by
  unfold badT; simp
theorem leS_someL {f g : List Sg} {x t : Int} (hf : mayB f = true) (hg : mayB g = true) (h : (leT f g x).find? (badT f g x) = some t) : leS f g x = (t, false, 0) := by
  unfold leS; rw [hf, hg, if_neg (by decide), h]
theorem leS_noneL {f g : List Sg} {x : Int} (hf : mayB f = true) (hg : mayB g = true) (h : (leT f g x).find? (badT f g x) = none) : leS f g x = (0, true, 0) := by
  unfold leS; rw [hf, hg, if_neg (by decide), h]
theorem leS_formL {f g : List Sg} {x : Int} (h : (mayB f && mayB g) = false) : leS f g x = (0, false, 5) := by
  unfold leS; rw [if_pos h]
/-- Not at most at the very time. -/
theorem le_first {f g : List Sg} {x : Int} (hf : mayB f = true) (hg : mayB g = true) (h : leB (vat f x).1 (vat f x).2 (vat g x).1 (vat g x).2 = false) : leS f g x = (x, false, 0) := by
  refine leS_someL hf hg (find_up (leT_up f g x) (leT_mem.2 (.inr rfl)) (badT_iff.2 ⟨Int.le_refl _, h⟩) fun s _ hs => ?_)
  rw [Bool.eq_false_iff]
  intro hb
  have := (badT_iff.1 hb).1
  omega
theorem cnd_bad {f g : List Sg} {x : Int} (hf : Canon f) (hg : Canon g) {p : Tg} (hp : p ∈ togL f g) : cndLE x p = true ↔ x < p.1 ∧ badT f g x p.1 = true := by
  obtain ⟨h1, h2⟩ := (togL_spec (canon_up hf) (canon_up hg)).2.1 p hp
  unfold cndLE
  rw [badT_iff, h1, h2]
  simp only [Bool.and_eq_true, decide_eq_true_eq, Bool.not_eq_true']
  constructor
  · rintro ⟨a, b⟩; exact ⟨a, by omega, b⟩
  · rintro ⟨a, _, b⟩; exact ⟨a, b⟩
/-- The first of the times that are met. -/
theorem le_hit {f g : List Sg} {x : Int} (hf : mayB f = true) (hg : mayB g = true) (h0 : leB (vat f x).1 (vat f x).2 (vat g x).1 (vat g x).2 = true) {pre : List Tg} {p : Tg} (hpre : pre ++ [p] <+: togL f g)
    (hno : ∀ q ∈ pre, cndLE x q = false) (hp : cndLE x p = true) : leS f g x = (p.1, false, 0) := by
  have hf' := mayB_iff.1 hf; have hg' := mayB_iff.1 hg
  obtain ⟨s1, s2, s3⟩ := togL_spec (canon_up hf') (canon_up hg')
  have hpm : p ∈ togL f g := hpre.subset (by simp)
  obtain ⟨hx, hb⟩ := (cnd_bad hf' hg' hpm).1 hp
  refine leS_someL hf hg (find_up (leT_up f g x) (leT_mem.2 (.inl ((s3 p.1).1 ⟨p, hpm, rfl⟩))) hb fun s hs hsp => ?_)
  rw [Bool.eq_false_iff]
  intro hbs
  have hxs := (badT_iff.1 hbs)
  rcases leT_mem.1 hs with h | h
  · obtain ⟨q, hq, e⟩ := (s3 s).2 h
    by_cases c : x < s
    · have hcq : cndLE x q = true := (cnd_bad hf' hg' hq).2 ⟨by rw [e]; exact c, by rw [e]; exact hbs⟩
      obtain ⟨rest, er⟩ := hpre
      rw [← er] at hq s1
      rcases List.mem_append.1 hq with hq' | hq'
      · rcases List.mem_append.1 hq' with hq'' | hq''
        · rw [hno q hq''] at hcq; cases hcq
        · simp at hq''; subst hq''; omega
      · have := (List.pairwise_append.1 s1).2.2 p (by simp) q hq'
        omega
    · have : s = x := by omega
      subst this
      rw [h0] at hxs
      exact absurd hxs.2 (by decide)
  · subst h
    rw [h0] at hxs
    exact absurd hxs.2 (by decide)
/-- At most at all of them. -/
theorem le_none {f g : List Sg} {x : Int} (hf : mayB f = true) (hg : mayB g = true) (h0 : leB (vat f x).1 (vat f x).2 (vat g x).1 (vat g x).2 = true) (hno : ∀ q ∈ togL f g, cndLE x q = false) : leS f g x = (0, true, 0) := by
  have hf' := mayB_iff.1 hf; have hg' := mayB_iff.1 hg
  obtain ⟨s1, s2, s3⟩ := togL_spec (canon_up hf') (canon_up hg')
  refine leS_noneL hf hg (List.find?_eq_none.2 fun s hs hbs => ?_)
  have hxs := (badT_iff.1 hbs)
  rcases leT_mem.1 hs with h | h
  · obtain ⟨q, hq, e⟩ := (s3 s).2 h
    by_cases c : x < s
    · have hcq : cndLE x q = true := (cnd_bad hf' hg' hq).2 ⟨by rw [e]; exact c, by rw [e]; exact hbs⟩
      rw [hno q hq] at hcq; cases hcq
    · have : s = x := by omega
      subst this
      rw [h0] at hxs
      exact absurd hxs.2 (by decide)
  · subst h
    rw [h0] at hxs
    exact absurd hxs.2 (by decide)
end Go.Proofs.Ytgflbidagdcfmaa

namespace Go.Proofs.Ytgflbidagdcfmaa

/-- Between two times nothing changes. -/
theorem le_between {F G : List Sg} {x t : Int} (hx : x ≤ t) : ∃ s ∈ leT F G x, x ≤ s ∧ s ≤ t ∧ vat F t = vat F s ∧ vat G t = vat G s := by
  rcases lastT (t := t) (leT F G x) with h | ⟨s, hs, h1, h2⟩
  · have := h x (leT_mem.2 (.inr rfl)); omega
  · refine ⟨s, hs, h2 x (leT_mem.2 (.inr rfl)) hx, h1, ?_, ?_⟩
    · exact (vat_same (l := F) (s := s) (t := t) (fun y hy => ⟨fun h => by omega, fun h => h2 y.1 (leT_mem.2 (.inl (twoT_mem.2 (.inl ⟨y, hy, rfl⟩)))) h⟩)).symm
    · exact (vat_same (l := G) (s := s) (t := t) (fun y hy => ⟨fun h => by omega, fun h => h2 y.1 (leT_mem.2 (.inl (twoT_mem.2 (.inr ⟨y, hy, rfl⟩)))) h⟩)).symm
theorem leS_may {F G : List Sg} (x : Int) (hF : mayB F = true) (hG : mayB G = true) :
    (leS F G x = (0, true, 0) ∧ ∀ t, x ≤ t → leB (vat F t).1 (vat F t).2 (vat G t).1 (vat G t).2 = true) ∨
    (∃ at', leS F G x = (at', false, 0) ∧ x ≤ at' ∧ leB (vat F at').1 (vat F at').2 (vat G at').1 (vat G at').2 = false ∧ (at' = x ∨ at' ∈ twoT F G) ∧ ∀ t, x ≤ t → t < at' → leB (vat F t).1 (vat F t).2 (vat G t).1 (vat G t).2 = true) := by
  cases h : (leT F G x).find? (badT F G x) with
  | none =>
    refine .inl ⟨leS_noneL hF hG h, fun t ht => ?_⟩
    obtain ⟨s, hs, h1, h2, e1, e2⟩ := le_between (F := F) (G := G) ht
    have := List.find?_eq_none.1 h s hs
    rw [e1, e2]
    cases hb : leB (vat F s).1 (vat F s).2 (vat G s).1 (vat G s).2
    · exact absurd (badT_iff.2 ⟨h1, hb⟩) this
    · rfl
  | some a =>
    obtain ⟨h1, h2⟩ := badT_iff.1 (List.find?_some h)
    have hm := List.mem_of_find?_eq_some h
    refine .inr ⟨a, leS_someL hF hG h, h1, h2, (leT_mem.1 hm).symm, fun t ht hta => ?_⟩
    obtain ⟨s, hs, q1, q2, e1, e2⟩ := le_between (F := F) (G := G) ht
    rw [e1, e2]
    cases hb : leB (vat F s).1 (vat F s).2 (vat G s).1 (vat G s).2
    · exfalso
      have hbs : badT F G x s = true := badT_iff.2 ⟨q1, hb⟩
      have hup := leT_up F G x
      have key : ∀ (l : List Int), l.Pairwise (· < ·) → s ∈ l → l.find? (badT F G x) = some a → a ≤ s := by
        intro l
        induction l with
        | nil => intro _ hs; simp at hs
        | cons y r ih =>
          intro hp hs' hf
          rw [List.pairwise_cons] at hp
          by_cases c : badT F G x y = true
          · rw [List.find?_cons_of_pos c] at hf
            cases hf
            rcases List.mem_cons.1 hs' with e | e
            · omega
            · have := hp.1 s e; omega
          · rw [List.find?_cons_of_neg c] at hf
            rcases List.mem_cons.1 hs' with e | e
            · subst e; exact absurd hbs c
            · exact ih hp.2 e hf
      have := key _ hup hs h
      omega
    · rfl
theorem leS_true {F G : List Sg} {x : Int} (hF : mayB F = true) (hG : mayB G = true) (h : ∀ t, x ≤ t → leB (vat F t).1 (vat F t).2 (vat G t).1 (vat G t).2 = true) : leS F G x = (0, true, 0) := by
  rcases leS_may x hF hG with ⟨e, _⟩ | ⟨a, _, h1, h2, _⟩
  · exact e
  · rw [h a h1] at h2; cases h2
end Go.Proofs.Ytgflbidagdcfmaa

namespace Go.Proofs.Ytgflbidagdcfmaa

/-- May a window be looked at? -/
def wndB (x y : Int) : Bool := decide (-1125899906842624 ≤ x ∧ x ≤ 1125899906842624 ∧ -1125899906842624 ≤ y ∧ y ≤ 1125899906842624 ∧ x < y ∧ y - x ≤ 8000)
theorem wndB_iff {x y : Int} : wndB x y = true ↔ (-1125899906842624 ≤ x ∧ x ≤ 1125899906842624 ∧ -1125899906842624 ≤ y ∧ y ≤ 1125899906842624 ∧ x < y ∧ y - x ≤ 8000) := by unfold wndB; exact decide_eq_true_iff
def badW (F : List Sg) (x y : Int) : Int := if mayB F = false then 5 else if wndB x y = false then 2 else 0
theorem badW_form {F : List Sg} {x y : Int} (h : mayB F = false) : badW F x y = 5 := by unfold badW; rw [if_pos h]
theorem badW_arg {F : List Sg} {x y : Int} (h : mayB F = true) (h2 : wndB x y = false) : badW F x y = 2 := by unfold badW; rw [if_neg (by rw [h]; decide), if_pos h2]
theorem badW_ok {F : List Sg} {x y : Int} (h : mayB F = true) (h2 : wndB x y = true) : badW F x y = 0 := by unfold badW; rw [if_neg (by rw [h]; decide), if_neg (by rw [h2]; decide)]
theorem badW_zero {F : List Sg} {x y : Int} : badW F x y = 0 ↔ mayB F = true ∧ wndB x y = true := by
  constructor
  · intro h
    cases h1 : mayB F
    · rw [badW_form h1] at h; omega
    · cases h2 : wndB x y
      · rw [badW_arg h1 h2] at h; omega
      · exact ⟨rfl, rfl⟩
  · intro h; exact badW_ok h.1 h.2

/-- The low, the high and the sum of the first k values from x on (the low and the high of the value at x, too). -/
def lowN (F : List Sg) (x : Int) : Nat → Int × Int
  | 0 => vat F x
  | k + 1 => (mn (lowN F x k).1 (vat F (x + k)).1, mn (lowN F x k).2 (vat F (x + k)).2)
def highN (F : List Sg) (x : Int) : Nat → Int × Int
  | 0 => vat F x
  | k + 1 => (mx (highN F x k).1 (vat F (x + k)).1, mx (highN F x k).2 (vat F (x + k)).2)
def sumN (F : List Sg) (x : Int) : Nat → Int × Int
  | 0 => (0, 0)
  | k + 1 => ((sumN F x k).1 + (vat F (x + k)).1, (sumN F x k).2 + (vat F (x + k)).2)
theorem lowN_step (F : List Sg) (x : Int) (k : Nat) : lowN F x (k + 1) = (mn (lowN F x k).1 (vat F (x + k)).1, mn (lowN F x k).2 (vat F (x + k)).2) := rfl
theorem highN_step (F : List Sg) (x : Int) (k : Nat) : highN F x (k + 1) = (mx (highN F x k).1 (vat F (x + k)).1, mx (highN F x k).2 (vat F (x + k)).2) := rfl
theorem sumN_step (F : List Sg) (x : Int) (k : Nat) : sumN F x (k + 1) = ((sumN F x k).1 + (vat F (x + k)).1, (sumN F x k).2 + (vat F (x + k)).2) := rfl
theorem sumN_le {F : List Sg} (h : ∀ s ∈ F, okS s = true) (x : Int) : ∀ k : Nat, -(1125899906842624 * (k : Int)) ≤ (sumN F x k).1 ∧ (sumN F x k).1 ≤ 1125899906842624 * (k : Int) ∧ -(1125899906842624 * (k : Int)) ≤ (sumN F x k).2 ∧ (sumN F x k).2 ≤ 1125899906842624 * (k : Int)
  | 0 => by simp [sumN]
  | k + 1 => by
    have ih := sumN_le h x k
    have hv := okV_iff.1 (vat_ok h (x + k))
    rw [sumN_step]
    simp only
    omega
/-- Two windows side by side. -/
theorem sumN_add (F : List Sg) (x : Int) (j : Nat) : ∀ k : Nat, sumN F x (j + k) = ((sumN F x j).1 + (sumN F (x + j) k).1, (sumN F x j).2 + (sumN F (x + j) k).2)
  | 0 => by simp [sumN]
  | k + 1 => by
    have ih := sumN_add F x j k
    rw [show j + (k + 1) = (j + k) + 1 by omega, sumN_step, ih, sumN_step]
    have e : x + ((j + k : Nat) : Int) = x + (j : Int) + (k : Int) := by omega
    rw [e]
    simp only [Prod.mk.injEq]
    omega
/-- The sum over times at which the value stays. -/
theorem sumN_const {F : List Sg} {x : Int} {v : Int × Int} : ∀ k : Nat, (∀ i : Nat, i < k → vat F (x + i) = v) → sumN F x k = ((k : Int) * v.1, (k : Int) * v.2)
  | 0, _ => by simp [sumN]
  | k + 1, h => by
    have ih := sumN_const k (fun i hi => h i (by omega))
    rw [sumN_step, ih, h k (by omega)]
    have e1 : ((k + 1 : Nat) : Int) = (k : Int) + 1 := by omega
    rw [e1, Int.add_mul, Int.add_mul]
    simp
theorem lowN_le {F : List Sg} {x : Int} : ∀ (n : Nat) {i : Nat}, i < n → (lowN F x n).1 ≤ (vat F (x + i)).1 ∧ (lowN F x n).2 ≤ (vat F (x + i)).2
  | 0, _, h => by omega
  | n + 1, i, h => by
    rw [lowN_step, mn_min, mn_min]
    by_cases e : i = n
    · subst e; simp only; omega
    · have ih := lowN_le (F := F) (x := x) n (i := i) (by omega)
      simp only; omega
theorem highN_ge {F : List Sg} {x : Int} : ∀ (n : Nat) {i : Nat}, i < n → (vat F (x + i)).1 ≤ (highN F x n).1 ∧ (vat F (x + i)).2 ≤ (highN F x n).2
  | 0, _, h => by omega
  | n + 1, i, h => by
    rw [highN_step, mx_max, mx_max]
    by_cases e : i = n
    · subst e; simp only; omega
    · have ih := highN_ge (F := F) (x := x) n (i := i) (by omega)
      simp only; omega
theorem lowN_met {F : List Sg} {x : Int} : ∀ n : Nat, 0 < n → (∃ i, i < n ∧ (vat F (x + i)).1 = (lowN F x n).1) ∧ ∃ i, i < n ∧ (vat F (x + i)).2 = (lowN F x n).2
  | 0, h => by omega
  | n + 1, _ => by
    rw [lowN_step, mn_min, mn_min]
    simp only
    by_cases e : n = 0
    · subst e
      have e2 : x + ((0 : Nat) : Int) = x := by omega
      constructor <;> exact ⟨0, by omega, by rw [e2]; simp [lowN]⟩
    · obtain ⟨⟨i, hi, h1⟩, j, hj, h2⟩ := lowN_met (F := F) (x := x) n (by omega)
      constructor
      · by_cases hq : (lowN F x n).1 ≤ (vat F (x + n)).1
        · exact ⟨i, by omega, by rw [h1]; omega⟩
        · exact ⟨n, by omega, by omega⟩
      · by_cases hq : (lowN F x n).2 ≤ (vat F (x + n)).2
        · exact ⟨j, by omega, by rw [h2]; omega⟩
        · exact ⟨n, by omega, by omega⟩
theorem highN_met {F : List Sg} {x : Int} : ∀ n : Nat, 0 < n → (∃ i, i < n ∧ (vat F (x + i)).1 = (highN F x n).1) ∧ ∃ i, i < n ∧ (vat F (x + i)).2 = (highN F x n).2
  | 0, h => by omega
  | n + 1, _ => by
    rw [highN_step, mx_max, mx_max]
    simp only
    by_cases e : n = 0
    · subst e
      have e2 : x + ((0 : Nat) : Int) = x := by omega
      constructor <;> exact ⟨0, by omega, by rw [e2]; simp [highN]⟩
    · obtain ⟨⟨i, hi, h1⟩, j, hj, h2⟩ := highN_met (F := F) (x := x) n (by omega)
      constructor
      · by_cases hq : (vat F (x + n)).1 ≤ (highN F x n).1
        · exact ⟨i, by omega, by rw [h1]; omega⟩
        · exact ⟨n, by omega, by omega⟩
      · by_cases hq : (vat F (x + n)).2 ≤ (highN F x n).2
        · exact ⟨j, by omega, by rw [h2]; omega⟩
        · exact ⟨n, by omega, by omega⟩

/-- What the document's own Low, High and Sum hand back. -/
def lowS (F : List Sg) (x y : Int) : Int × Int × Int := if badW F x y = 0 then ((lowN F x (y - x).toNat).1, (lowN F x (y - x).toNat).2, 0) else (0, 0, badW F x y)
def highS (F : List Sg) (x y : Int) : Int × Int × Int := if badW F x y = 0 then ((highN F x (y - x).toNat).1, (highN F x (y - x).toNat).2, 0) else (0, 0, badW F x y)
def totS (F : List Sg) (x y : Int) : Int × Int × Int := if badW F x y = 0 then ((sumN F x (y - x).toNat).1, (sumN F x (y - x).toNat).2, 0) else (0, 0, badW F x y)
theorem lowS_ok {F : List Sg} {x y : Int} (h : badW F x y = 0) : lowS F x y = ((lowN F x (y - x).toNat).1, (lowN F x (y - x).toNat).2, 0) := by unfold lowS; rw [if_pos h]
theorem lowS_no {F : List Sg} {x y : Int} (h : badW F x y ≠ 0) : lowS F x y = (0, 0, badW F x y) := by unfold lowS; rw [if_neg h]
theorem highS_ok {F : List Sg} {x y : Int} (h : badW F x y = 0) : highS F x y = ((highN F x (y - x).toNat).1, (highN F x (y - x).toNat).2, 0) := by unfold highS; rw [if_pos h]
theorem highS_no {F : List Sg} {x y : Int} (h : badW F x y ≠ 0) : highS F x y = (0, 0, badW F x y) := by unfold highS; rw [if_neg h]
theorem totS_ok {F : List Sg} {x y : Int} (h : badW F x y = 0) : totS F x y = ((sumN F x (y - x).toNat).1, (sumN F x (y - x).toNat).2, 0) := by unfold totS; rw [if_pos h]
theorem totS_no {F : List Sg} {x y : Int} (h : badW F x y ≠ 0) : totS F x y = (0, 0, badW F x y) := by unfold totS; rw [if_neg h]

/-- A function cut to a window, at a time. -/
def cutV (F : List Sg) (x y t : Int) : Int × Int := if x ≤ t ∧ t < y then vat F t else (0, 0)
def cutT (F : List Sg) (x y : Int) : List Int := timesL ([x, y] ++ F.map (·.1))
def cutL (F : List Sg) (x y : Int) : List Sg := buildL (cutV F x y) (cutT F x y)
def farS4 (x y : Int) : Bool := decide (-1125899906842624 ≤ x ∧ y ≤ 1125899906842624 ∧ x ≤ 1125899906842624 ∧ -1125899906842624 ≤ y)
def cutS (F : List Sg) (x y : Int) : List Sg × Int := if mayB F = false then ([], 5) else if y < x then ([], 2) else if farS4 x y = false then ([], 10) else (cutL F x y, 0)
theorem cutT_mem {F : List Sg} {x y t : Int} : t ∈ cutT F x y ↔ t = x ∨ t = y ∨ ∃ s ∈ F, s.1 = t := by
  unfold cutT
  rw [timesL_mem]
  simp
theorem cutT_up (F : List Sg) (x y : Int) : (cutT F x y).Pairwise (· < ·) := timesL_up _
theorem cutT_len (F : List Sg) (x y : Int) : (cutT F x y).length ≤ F.length + 2 := by
  have h := timesL_len ([x, y] ++ F.map (·.1))
  unfold cutT
  simp at h
  simp
  omega
/-- A function shifted. -/
def shiftL (F : List Sg) (d : Int) : List Sg := F.map fun s => (s.1 + d, s.2)
def shiftOk (F : List Sg) (d : Int) : Bool := (shiftL F d).all okS
def shiftS (F : List Sg) (d : Int) : List Sg × Int := if mayB F = false then ([], 5) else if okT d = false then ([], 10) else if shiftOk F d = false then ([], 10) else (shiftL F d, 0)
theorem shiftL_len (F : List Sg) (d : Int) : (shiftL F d).length = F.length := by simp [shiftL]
theorem shiftL_back (F : List Sg) (d : Int) : shiftL (shiftL F d) (-d) = F := by
  unfold shiftL
  rw [List.map_map]
  have : (fun s : Sg => (s.1 + -d, s.2)) ∘ (fun s : Sg => (s.1 + d, s.2)) = id := by
    funext s
    obtain ⟨a, b⟩ := s
    simp only [Function.comp, id]
    rw [show a + d + -d = a by omega]
  rw [this, List.map_id]

/-- The time behind which a function stays, and not ahead of x. -/
def lastF (F : List Sg) (x : Int) : Int := if F.length = 0 then x else mx x (ats F (F.length - 1))
theorem lastF_ge (F : List Sg) (x : Int) : x ≤ lastF F x := by
  unfold lastF
  split
  · omega
  · rw [mx_max]; omega
/-- Is the sliding sum of width n at a time over a limit? -/
def overB (F : List Sg) (n : Nat) (l : Int × Int) (t : Int) : Bool := !(leB (sumN F t n).1 (sumN F t n).2 l.1 l.2)
def overArg (x n : Int) : Bool := decide (1 ≤ n ∧ n ≤ 4096 ∧ -562949953421312 ≤ x ∧ x ≤ 562949953421312)
def overS (F : List Sg) (x n : Int) (l : Int × Int) : Int × Bool × Int :=
  if mayB F = false then (0, false, 5) else if overArg x n = false then (0, false, 2) else if okV l.1 l.2 = false then (0, false, 10)
  else match (List.range ((lastF F x - x).toNat + 1)).find? (fun k : Nat => overB F n.toNat l (x + k)) with
    | some k => (x + k, true, 0)
    | none => (0, false, 0)
theorem overS_form {F : List Sg} {x n : Int} {l : Int × Int} (h : mayB F = false) : overS F x n l = (0, false, 5) := by unfold overS; rw [if_pos h]
theorem overS_arg {F : List Sg} {x n : Int} {l : Int × Int} (h : mayB F = true) (h2 : overArg x n = false) : overS F x n l = (0, false, 2) := by unfold overS; rw [if_neg (by rw [h]; decide), if_pos h2]
theorem overS_range {F : List Sg} {x n : Int} {l : Int × Int} (h : mayB F = true) (h2 : overArg x n = true) (h3 : okV l.1 l.2 = false) : overS F x n l = (0, false, 10) := by
  unfold overS; rw [if_neg (by rw [h]; decide), if_neg (by rw [h2]; decide), if_pos h3]
theorem overS_none {F : List Sg} {x n : Int} {l : Int × Int} (h : mayB F = true) (h2 : overArg x n = true) (h3 : okV l.1 l.2 = true) (hno : ∀ k : Nat, x + k ≤ lastF F x → overB F n.toNat l (x + k) = false) : overS F x n l = (0, false, 0) := by
  unfold overS
  rw [if_neg (by rw [h]; decide), if_neg (by rw [h2]; decide), if_neg (by rw [h3]; decide)]
  have : (List.range ((lastF F x - x).toNat + 1)).find? (fun k : Nat => overB F n.toNat l (x + k)) = none := by
    rw [List.find?_eq_none]
    intro k hk
    rw [List.mem_range] at hk
    have hl := lastF_ge F x
    rw [hno k (by omega)]
    exact Bool.false_ne_true
  rw [this]
theorem overS_some {F : List Sg} {x n : Int} {l : Int × Int} {k : Nat} (h : mayB F = true) (h2 : overArg x n = true) (h3 : okV l.1 l.2 = true) (hk : x + k ≤ lastF F x) (hb : overB F n.toNat l (x + k) = true) (hno : ∀ j : Nat, j < k → overB F n.toNat l (x + j) = false) : overS F x n l = (x + k, true, 0) := by
  unfold overS
  rw [if_neg (by rw [h]; decide), if_neg (by rw [h2]; decide), if_neg (by rw [h3]; decide)]
  have : (List.range ((lastF F x - x).toNat + 1)).find? (fun k : Nat => overB F n.toNat l (x + k)) = some k := by
    rw [List.find?_range_eq_some]
    exact ⟨hb, by rw [List.mem_range]; have := lastF_ge F x; omega, fun j hj => by rw [hno j hj]; rfl⟩
  rw [this]
/-- Three answers: a time, whether, an error. -/
abbrev T3 (r : Int × Bool × Int) : Value := .tuple #[.int .i64 r.1, .bool r.2.1, .int .i64 r.2.2]
/-- Do all runs begin within 200 ticks of a time, or ahead of it? -/
def nearB (F : List Sg) (x : Int) : Bool := F.all fun s => decide (s.1 ≤ x + 200)
theorem nearB_f {F : List Sg} {x : Int} {i : Nat} (hi : i < F.length) (h : ¬ ats F i ≤ x + 200) : nearB F x = false := by
  unfold nearB
  rw [List.all_eq_false]
  refine ⟨F[i], List.getElem_mem hi, ?_⟩
  unfold ats at h
  rw [getD_get _ _ _ hi] at h
  simpa using h
theorem nearB_t {F : List Sg} {x : Int} (h : ∀ i, i < F.length → ats F i ≤ x + 200) : nearB F x = true := by
  unfold nearB
  rw [List.all_eq_true]
  intro s hs
  obtain ⟨i, hi, rfl⟩ := List.getElem_of_mem hs
  have := h i hi
  unfold ats at this
  rw [getD_get _ _ _ hi] at this
  simpa using this
theorem overArg_iff {x n : Int} : overArg x n = true ↔ (1 ≤ n ∧ n ≤ 4096 ∧ -562949953421312 ≤ x ∧ x ≤ 562949953421312) := by unfold overArg; exact decide_eq_true_iff
theorem overArg_not {x n : Int} (h : overArg x n = false) : n < 1 ∨ (1 ≤ n ∧ 4096 < n) ∨ (1 ≤ n ∧ n ≤ 4096 ∧ x < -562949953421312) ∨ (1 ≤ n ∧ n ≤ 4096 ∧ -562949953421312 ≤ x ∧ 562949953421312 < x) := by
  unfold overArg at h
  have := of_decide_eq_false h
  omega
theorem lastF_le {F : List Sg} {x : Int} (h : ∀ s ∈ F, okS s = true) (hx : x ≤ 1125899906842624) : lastF F x ≤ 1125899906842624 := by
  unfold lastF
  split
  · exact hx
  · rename_i h0
    have hi : F.length - 1 < F.length := by omega
    have := h _ (List.getElem_mem hi)
    unfold okS at this
    rw [Bool.and_eq_true, okT_iff] at this
    unfold ats
    rw [getD_get _ _ _ hi, mx_max]
    omega
/-- In a list whose times rise, the run that is read is the last one that has begun. -/
theorem rread_up {t : Int} : ∀ (l : List Sg) (acc : (Int × Int) × Int × Bool), (l.Pairwise fun a b => a.1 < b.1) → (∀ s ∈ l, acc.2.2 = true → acc.2.1 ≤ s.1) → (l.foldl (rstep t) acc).1 = l.foldl (stepV t) acc.1
  | [], _, _, _ => rfl
  | s :: r, acc, h, h2 => by
    rw [List.pairwise_cons] at h
    rw [List.foldl_cons, List.foldl_cons]
    by_cases c : s.1 ≤ t
    · have e1 : rstep t acc s = (s.2, s.1, true) := by
        unfold rstep
        rw [if_pos]
        refine ⟨c, ?_⟩
        cases hb : acc.2.2
        · exact .inl rfl
        · exact .inr (h2 s (by simp) hb)
      have e2 : stepV t acc.1 s = s.2 := by unfold stepV; rw [if_pos c]
      rw [e1, e2]
      exact rread_up r _ h.2 fun x hx _ => Int.le_of_lt (h.1 x hx)
    · have e1 : rstep t acc s = acc := by unfold rstep; rw [if_neg]; exact fun q => c q.1
      have e2 : stepV t acc.1 s = acc.1 := by unfold stepV; rw [if_neg c]
      rw [e1, e2]
      exact rread_up r _ h.2 fun x hx => h2 x (by simp [hx])
theorem rv_canon {l : List Sg} (h : Canon l) (t : Int) : rv l t = vat l t := rread_up l _ (CF.up h) (fun _ _ h => by cases h)
theorem isOf_self {l : List Sg} (h : Canon l) : IsOf l l := ⟨h, fun t => (rv_canon h t).symm, Nat.le_refl _⟩
theorem shift_cf {d : Int} : ∀ (F : List Sg) (last : Int × Int), CF last F → (∀ s ∈ shiftL F d, okS s = true) → CF last (shiftL F d)
  | [], _, _, _ => trivial
  | s :: r, last, ⟨_, h2, h3, h4⟩, ho => by
    refine ⟨ho _ (by simp [shiftL]), h2, fun x hx => ?_, shift_cf r _ h4 fun x hx => ho x (by simp only [shiftL, List.map_cons, List.mem_cons]; exact .inr hx)⟩
    unfold shiftL at hx
    rw [List.mem_map] at hx
    obtain ⟨y, hy, rfl⟩ := hx
    have := h3 y hy
    show s.1 + d < y.1 + d
    omega
theorem shift_canon {F : List Sg} {d : Int} (h : Canon F) (ho : shiftOk F d = true) : Canon (shiftL F d) := shift_cf F _ h (List.all_eq_true.1 ho)
theorem shift_fold {d t : Int} : ∀ (F : List Sg) (acc : Int × Int), (shiftL F d).foldl (stepV t) acc = F.foldl (stepV (t - d)) acc
  | [], _ => rfl
  | s :: r, acc => by
    show (shiftL r d).foldl (stepV t) (stepV t acc (s.1 + d, s.2)) = r.foldl (stepV (t - d)) (stepV (t - d) acc s)
    rw [shift_fold r]
    congr 1
    unfold stepV
    by_cases c : s.1 ≤ t - d
    · rw [if_pos c, if_pos (by simp only; omega)]
    · rw [if_neg c, if_neg (by simp only; omega)]
theorem shift_val (F : List Sg) (d t : Int) : vat (shiftL F d) t = vat F (t - d) := shift_fold F _
theorem shiftL_take {F : List Sg} {d : Int} {k : Nat} (h : k < F.length) : shiftL (F.take (k + 1)) d = shiftL (F.take k) d ++ [(ats F k + d, vls F k)] := by
  unfold shiftL
  rw [List.take_succ_eq_append_getElem h, List.map_append]
  unfold ats vls
  rw [getD_get _ _ _ h]; rfl
theorem shiftS_form {F : List Sg} {d : Int} (h : mayB F = false) : shiftS F d = ([], 5) := by unfold shiftS; rw [if_pos h]
theorem shiftS_far {F : List Sg} {d : Int} (h : mayB F = true) (h2 : okT d = false) : shiftS F d = ([], 10) := by unfold shiftS; rw [if_neg (by rw [h]; decide), if_pos h2]
theorem shiftS_no {F : List Sg} {d : Int} (h : mayB F = true) (h2 : okT d = true) (h3 : shiftOk F d = false) : shiftS F d = ([], 10) := by unfold shiftS; rw [if_neg (by rw [h]; decide), if_neg (by rw [h2]; decide), if_pos h3]
theorem shiftS_ok {F : List Sg} {d : Int} (h : mayB F = true) (h2 : okT d = true) (h3 : shiftOk F d = true) : shiftS F d = (shiftL F d, 0) := by unfold shiftS; rw [if_neg (by rw [h]; decide), if_neg (by rw [h2]; decide), if_neg (by rw [h3]; decide)]
end Go.Proofs.Ytgflbidagdcfmaa

namespace Go.Proofs.Ytgflbidagdcfmaa

theorem okT_of {F : List Sg} (h : ∀ s ∈ F, okS s = true) {s : Sg} (hs : s ∈ F) : okT s.1 = true := by
  have := h s hs
  unfold okS at this
  rw [Bool.and_eq_true] at this
  exact this.1
theorem cutV_last {F : List Sg} {x y : Int} (_hxy : x ≤ y) (t : Int) : ((∀ s ∈ cutT F x y, t < s) ∧ cutV F x y t = (0, 0)) ∨ ∃ s ∈ cutT F x y, s ≤ t ∧ (∀ z ∈ cutT F x y, z ≤ t → z ≤ s) ∧ cutV F x y t = cutV F x y s := by
  have mx' : x ∈ cutT F x y := cutT_mem.2 (.inl rfl)
  have my' : y ∈ cutT F x y := cutT_mem.2 (.inr (.inl rfl))
  rcases lastT (t := t) (cutT F x y) with h | ⟨s, hs, h1, h2⟩
  · refine .inl ⟨h, ?_⟩
    have := h x mx'
    unfold cutV
    rw [if_neg (by omega)]
  · refine .inr ⟨s, hs, h1, h2, ?_⟩
    unfold cutV
    have e : vat F s = vat F t := vat_same fun r hr => ⟨fun q => by omega, fun q => h2 r.1 (cutT_mem.2 (.inr (.inr ⟨r, hr, rfl⟩))) q⟩
    by_cases c : x ≤ t ∧ t < y
    · have := h2 x mx' c.1
      rw [if_pos c, if_pos (by omega), e]
    · rw [if_neg c]
      by_cases q : x ≤ s ∧ s < y
      · have : y ≤ t := by omega
        have := h2 y my' this
        omega
      · rw [if_neg q]
theorem cutL_spec {F : List Sg} {x y : Int} (hF : Canon F) (hxy : x ≤ y) (hb : farS4 x y = true) : Canon (cutL F x y) ∧ ∀ t, vat (cutL F x y) t = cutV F x y t := by
  have hb' : -1125899906842624 ≤ x ∧ y ≤ 1125899906842624 ∧ x ≤ 1125899906842624 ∧ -1125899906842624 ≤ y := by
    unfold farS4 at hb; exact of_decide_eq_true hb
  have hok : ∀ t ∈ cutT F x y, okS (t, cutV F x y t) = true := fun t ht => by
    have h1 : okV (cutV F x y t).1 (cutV F x y t).2 = true := by
      unfold cutV
      split
      · exact vat_ok (CF.ok hF) t
      · decide
    have h2 : okT t = true := by
      rcases cutT_mem.1 ht with rfl | rfl | ⟨s, hs, rfl⟩
      · rw [okT_iff]; omega
      · rw [okT_iff]; omega
      · exact okT_of (CF.ok hF) hs
    unfold okS
    rw [Bool.and_eq_true]
    exact ⟨h2, h1⟩
  obtain ⟨h1, _, h3, _⟩ := buildL_all (cutV F x y) _ (cutT F x y) rfl (cutT_up F x y) hok
  refine ⟨h1, fun t => ?_⟩
  unfold cutL
  rw [h3]
  rcases cutV_last (F := F) hxy t with ⟨hn, e⟩ | ⟨s, hs, hst, hl, e⟩
  · rw [gval_none _ _ rfl hn, e]
  · rw [gval_some _ _ rfl (cutT_up F x y) hs hst hl, e]
/-- A canonical function with the cut's values is the cut. -/
theorem cutL_unique {F G : List Sg} {x y : Int} (hF : Canon F) (hxy : x ≤ y) (hb : farS4 x y = true) (hG : Canon G) (hv : ∀ t, vat G t = cutV F x y t) : G = cutL F x y :=
  cf_ext hG (cutL_spec hF hxy hb).1 fun t => (hv t).trans ((cutL_spec hF hxy hb).2 t).symm
/-- A canonical function with the shifted one's values is the shifted one. -/
theorem shiftL_unique {F G : List Sg} {d : Int} (hF : Canon F) (ho : shiftOk F d = true) (hG : Canon G) (hv : ∀ t, vat G t = vat F (t - d)) : G = shiftL F d :=
  cf_ext hG (shift_canon hF ho) fun t => (hv t).trans (shift_val F d t).symm

/-- The sum of a window without its first value, and with one more behind it. -/
theorem sumN_head (F : List Sg) (x : Int) (n : Nat) : sumN F x (n + 1) = ((vat F x).1 + (sumN F (x + 1) n).1, (vat F x).2 + (sumN F (x + 1) n).2) := by
  have h := sumN_add F x 1 n
  rw [show 1 + n = n + 1 by omega] at h
  rw [h]
  have e : sumN F x 1 = vat F x := by
    rw [sumN_step]
    simp [sumN]
  rw [e]
  simp
theorem slide_one (F : List Sg) (x : Int) (n : Nat) : sumN F (x + 1) n = ((sumN F x n).1 + (vat F (x + n)).1 - (vat F x).1, (sumN F x n).2 + (vat F (x + n)).2 - (vat F x).2) := by
  have h1 := sumN_head F x n
  have h2 := sumN_step F x n
  rw [h1] at h2
  rw [Prod.ext_iff] at h2
  simp only at h2
  apply Prod.ext <;> simp only <;> omega
/-- Where neither the value at the window's begin nor that at its end changes, the sliding sum is a straight line. -/
theorem slide_line {F : List Sg} {x : Int} {n : Nat} {p q : Int × Int} : ∀ k : Nat, (∀ i : Nat, i < k → vat F (x + i) = p) → (∀ i : Nat, i < k → vat F (x + i + n) = q) →
    sumN F (x + k) n = ((sumN F x n).1 + k * (q.1 - p.1), (sumN F x n).2 + k * (q.2 - p.2))
  | 0, _, _ => by simp
  | k + 1, h1, h2 => by
    have ih := slide_line k (fun i hi => h1 i (by omega)) (fun i hi => h2 i (by omega))
    have e : x + ((k + 1 : Nat) : Int) = x + k + 1 := by omega
    rw [e, slide_one, ih, h1 k (by omega), h2 k (by omega)]
    have e2 : ((k + 1 : Nat) : Int) = (k : Int) + 1 := by omega
    rw [e2, Int.add_mul, Int.add_mul]
    apply Prod.ext <;> simp only [Int.one_mul] <;> omega
/-- Behind the time from which on a function stays, its sliding sum stays, too. -/
theorem slide_stay {F : List Sg} {x : Int} {n : Nat} {v : Int × Int} (h : ∀ t, x ≤ t → vat F t = v) {t : Int} (ht : x ≤ t) : sumN F t n = sumN F x n := by
  rw [sumN_const (v := v) n (fun i _ => h _ (by omega)), sumN_const (v := v) n (fun i _ => h _ (by omega))]
theorem lastF_stay {F : List Sg} (hF : Canon F) (x : Int) {t : Int} (ht : lastF F x ≤ t) : vat F t = vat F (lastF F x) := by
  refine (vat_same fun s hs => ⟨fun h => by omega, fun _ => ?_⟩).symm
  have h0 : F.length ≠ 0 := fun e => by
    rw [List.length_eq_zero_iff] at e
    subst e; simp at hs
  unfold lastF
  rw [if_neg h0, mx_max]
  obtain ⟨i, hi, rfl⟩ := List.getElem_of_mem hs
  have hl : F.length - 1 < F.length := by omega
  have e : ats F (F.length - 1) = F[F.length - 1].1 := by unfold ats; rw [getD_get _ _ _ hl]
  rw [e]
  by_cases c : i = F.length - 1
  · subst c; omega
  · have := List.pairwise_iff_getElem.1 (CF.up hF) i (F.length - 1) hi hl (by omega)
    omega
theorem overB_stay {F : List Sg} (hF : Canon F) (x : Int) {n : Nat} {l : Int × Int} {t : Int} (ht : lastF F x ≤ t) : overB F n l t = overB F n l (lastF F x) := by
  unfold overB
  rw [slide_stay (v := vat F (lastF F x)) (fun s hs => lastF_stay hF x hs) ht]
/-- What Over tells of all times: the first at which the sliding sum is over the limit, or that it never is. -/
theorem over_spec {F : List Sg} {x n : Int} {l : Int × Int} (hm : mayB F = true) (ha : overArg x n = true) (ho : okV l.1 l.2 = true) :
    (overS F x n l = (0, false, 0) ∧ ∀ s, x ≤ s → overB F n.toNat l s = false) ∨ ∃ t, x ≤ t ∧ t ≤ lastF F x ∧ overS F x n l = (t, true, 0) ∧ overB F n.toNat l t = true ∧ ∀ s, x ≤ s → s < t → overB F n.toNat l s = false := by
  have hF := mayB_iff.1 hm
  have hl := lastF_ge F x
  have key : ∀ m : Nat, (∀ k : Nat, k < m → overB F n.toNat l (x + k) = false) ∨ ∃ k : Nat, k < m ∧ overB F n.toNat l (x + k) = true ∧ ∀ j : Nat, j < k → overB F n.toNat l (x + j) = false := by
    intro m
    induction m with
    | zero => exact .inl fun k hk => by omega
    | succ m ih =>
      rcases ih with h | ⟨k, hk, h1, h2⟩
      · cases hb : overB F n.toNat l (x + m)
        · refine .inl fun k hk => ?_
          by_cases e : k = m
          · rw [e]; exact hb
          · exact h k (by omega)
        · exact .inr ⟨m, by omega, hb, h⟩
      · exact .inr ⟨k, by omega, h1, h2⟩
  have nat : ∀ s, x ≤ s → ∃ k : Nat, s = x + k := fun s hs => ⟨(s - x).toNat, by omega⟩
  rcases key ((lastF F x - x).toNat + 1) with h | ⟨k, hk, h1, h2⟩
  · refine .inl ⟨overS_none hm ha ho fun k hk => h k (by omega), fun s hs => ?_⟩
    by_cases c : s ≤ lastF F x
    · obtain ⟨k, rfl⟩ := nat s hs
      exact h k (by omega)
    · rw [overB_stay hF x (by omega)]
      obtain ⟨k, e⟩ := nat (lastF F x) hl
      rw [e]
      exact h k (by omega)
  · refine .inr ⟨x + k, by omega, by omega, overS_some hm ha ho (by omega) h1 h2, h1, fun s hs hst => ?_⟩
    obtain ⟨j, rfl⟩ := nat s hs
    exact h2 j (by omega)
theorem over_first {F : List Sg} {x n t : Int} {l : Int × Int} (hm : mayB F = true) (ha : overArg x n = true) (ho : okV l.1 l.2 = true) (hx : x ≤ t) (hb : overB F n.toNat l t = true) (hno : ∀ s, x ≤ s → s < t → overB F n.toNat l s = false) : overS F x n l = (t, true, 0) := by
  rcases over_spec hm ha ho with ⟨_, h⟩ | ⟨u, h1, h2, h3, h4, h5⟩
  · rw [h t hx] at hb; cases hb
  · by_cases c : u < t
    · rw [hno u h1 c] at h4; cases h4
    · by_cases c2 : t < u
      · rw [h5 t hx c2] at hb; cases hb
      · have : u = t := by omega
        rw [← this]; exact h3
theorem over_never {F : List Sg} {x n : Int} {l : Int × Int} (hm : mayB F = true) (ha : overArg x n = true) (ho : okV l.1 l.2 = true) (hno : ∀ s, x ≤ s → overB F n.toNat l s = false) : overS F x n l = (0, false, 0) := by
  rcases over_spec hm ha ho with ⟨h, _⟩ | ⟨u, h1, h2, h3, h4, h5⟩
  · exact h
  · rw [hno u h1] at h4; cases h4
/-- A greater limit is exceeded no earlier. -/
theorem overB_mono {F : List Sg} {n : Nat} {l l' : Int × Int} (h1 : l.1 ≤ l'.1) (h2 : l.2 ≤ l'.2) {t : Int} (h : overB F n l' t = true) : overB F n l t = true := by
  unfold overB at h ⊢
  have h' : leB (sumN F t n).1 (sumN F t n).2 l'.1 l'.2 = false := by simpa using h
  rw [leB_not] at h'
  have : leB (sumN F t n).1 (sumN F t n).2 l.1 l.2 = false := by rw [leB_not]; omega
  rw [this]; rfl
end Go.Proofs.Ytgflbidagdcfmaa
