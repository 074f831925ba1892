/- Arrangements of a row by a key, as functions of places: what insertions, rotations and merges come to. No program. No conditions. -/
import Derived.WalkKit
namespace Go.Proofs.Ytibmldgbimjgfaa

/-- Two places exchanged. -/
def sw (d : Nat → Nat) (i j : Nat) : Nat → Nat := fun k => if k = i then d j else if k = j then d i else d k

theorem sw_l (d : Nat → Nat) (i j : Nat) : sw d i j i = d j := by unfold sw; rw [if_pos rfl]
theorem sw_r (d : Nat → Nat) (i j : Nat) : sw d i j j = d i := by
  unfold sw
  by_cases h : j = i
  · rw [if_pos h, h]
  · rw [if_neg h, if_pos rfl]
theorem sw_o (d : Nat → Nat) (i j k : Nat) (h1 : k ≠ i) (h2 : k ≠ j) : sw d i j k = d k := by unfold sw; rw [if_neg h1, if_neg h2]

/-- d' is d, its places in [a, b) taken in another order. -/
def Mv (a b : Nat) (d d' : Nat → Nat) : Prop :=
  ∃ p q : Nat → Nat, (∀ k, d' k = d (p k)) ∧ (∀ k, p (q k) = k) ∧ (∀ k, q (p k) = k) ∧ (∀ k, (k < a ∨ b ≤ k) → p k = k)

theorem Mv.refl (a b : Nat) (d : Nat → Nat) : Mv a b d d := ⟨id, id, fun _ => rfl, fun _ => rfl, fun _ => rfl, fun _ _ => rfl⟩
theorem Mv.trans {a b : Nat} {d d' d'' : Nat → Nat} (h : Mv a b d d') (h' : Mv a b d' d'') : Mv a b d d'' := by
  obtain ⟨p, q, h1, h2, h3, h4⟩ := h
  obtain ⟨p', q', g1, g2, g3, g4⟩ := h'
  exact ⟨fun k => p (p' k), fun k => q' (q k), fun k => by rw [g1, h1], fun k => by simp only [g2, h2], fun k => by simp only [h3, g3], fun k hk => by show p (p' k) = k; rw [g4 k hk, h4 k hk]⟩
theorem Mv.mono {a b a' b' : Nat} {d d' : Nat → Nat} (h : Mv a b d d') (ha : a' ≤ a) (hb : b ≤ b') : Mv a' b' d d' := by
  obtain ⟨p, q, h1, h2, h3, h4⟩ := h
  exact ⟨p, q, h1, h2, h3, fun k hk => h4 k (by omega)⟩
theorem Mv.out {a b : Nat} {d d' : Nat → Nat} (h : Mv a b d d') (k : Nat) (hk : k < a ∨ b ≤ k) : d' k = d k := by
  obtain ⟨p, q, h1, _, _, h4⟩ := h
  rw [h1, h4 k hk]
theorem Mv.inn {a b : Nat} {d d' : Nat → Nat} (h : Mv a b d d') (k : Nat) (h0 : a ≤ k) (h1 : k < b) : ∃ k', a ≤ k' ∧ k' < b ∧ d' k = d k' := by
  obtain ⟨p, q, g1, g2, g3, g4⟩ := h
  refine ⟨p k, ?_⟩
  by_cases hp : p k < a ∨ b ≤ p k
  · have e := g4 _ hp
    have e2 : p k = k := by
      have := congrArg q e
      rw [g3, g3] at this; exact this
    omega
  · exact ⟨by omega, by omega, g1 k⟩
theorem Mv.back {a b : Nat} {d d' : Nat → Nat} (h : Mv a b d d') (k : Nat) (h0 : a ≤ k) (h1 : k < b) : ∃ k', a ≤ k' ∧ k' < b ∧ d k = d' k' := by
  obtain ⟨p, q, g1, g2, g3, g4⟩ := h
  refine ⟨q k, ?_⟩
  have e : d k = d' (q k) := by rw [g1, g2]
  by_cases hp : q k < a ∨ b ≤ q k
  · have e2 := g4 _ hp
    rw [g2] at e2
    omega
  · exact ⟨by omega, by omega, e⟩
theorem Mv.swap {a b : Nat} (d : Nat → Nat) (i j : Nat) (hi : a ≤ i ∧ i < b) (hj : a ≤ j ∧ j < b) : Mv a b d (sw d i j) := by
  have hp : ∀ k, (fun k => if k = i then j else if k = j then i else k) ((fun k => if k = i then j else if k = j then i else k) k) = k := by
    intro k
    show (if (if k = i then j else if k = j then i else k) = i then j else if (if k = i then j else if k = j then i else k) = j then i else (if k = i then j else if k = j then i else k)) = k
    by_cases h1 : k = i
    · simp [h1]
    · by_cases h2 : k = j
      · subst h2; simp [h1]
      · simp [h1, h2]
  refine ⟨fun k => if k = i then j else if k = j then i else k, fun k => if k = i then j else if k = j then i else k, ?_, hp, hp, ?_⟩
  · intro k
    unfold sw
    by_cases h1 : k = i
    · simp only [h1, if_true]
    · by_cases h2 : k = j
      · simp only [h1, h2, if_true, if_false]
        by_cases h3 : j = i
        · rw [if_pos h3, if_pos h3, h3]
        · rw [if_neg h3, if_neg h3]
      · simp only [h1, h2, if_false]
  · intro k hk
    show (if k = i then j else if k = j then i else k) = k
    rw [if_neg (by omega), if_neg (by omega)]

section
variable (K : Nat → Int)
/-- Ahead, by the key, then by the number. -/
def Lx (x y : Nat) : Prop := K x < K y ∨ (K x = K y ∧ x < y)
/-- Where keys are alike the numbers rise: of the first n places. -/
def Inv (n : Nat) (d : Nat → Nat) : Prop := ∀ k k', k < k' → k' < n → K (d k) ≠ K (d k') ∨ d k < d k'
/-- [a, b) is in order. -/
def Srt (a b : Nat) (d : Nat → Nat) : Prop := ∀ k k', a ≤ k → k < k' → k' < b → Lx K (d k) (d k')
variable {K}

theorem Lx.trans {x y z : Nat} (h : Lx K x y) (h' : Lx K y z) : Lx K x z := by unfold Lx at *; omega
theorem Lx.of {x y : Nat} (h : K x < K y) : Lx K x y := Or.inl h
theorem Lx.le {x y : Nat} (h : Lx K x y) : K x ≤ K y := by unfold Lx at h; omega
theorem Inv.lx {n : Nat} {d : Nat → Nat} (h : Inv K n d) {k k' : Nat} (h1 : k < k') (h2 : k' < n) (h3 : ¬ K (d k') < K (d k)) : Lx K (d k) (d k') := by
  have := h k k' h1 h2
  unfold Lx; omega
theorem Srt.mono {a b a' b' : Nat} {d : Nat → Nat} (h : Srt K a b d) (ha : a ≤ a') (hb : b' ≤ b) : Srt K a' b' d := fun k k' h1 h2 h3 => h k k' (by omega) h2 (by omega)
theorem Srt.congr {a b : Nat} {d d' : Nat → Nat} (h : Srt K a b d) (e : ∀ k, a ≤ k → k < b → d' k = d k) : Srt K a b d' := fun k k' h1 h2 h3 => by
  rw [e k h1 (by omega), e k' (by omega) h3]; exact h k k' h1 h2 h3
theorem Srt.le {a b : Nat} {d : Nat → Nat} (h : Srt K a b d) {k k' : Nat} (h1 : a ≤ k) (h2 : k ≤ k') (h3 : k' < b) : K (d k) ≤ K (d k') := by
  rcases Nat.lt_or_ge k k' with h4 | h4
  · exact (h k k' h1 h4 h3).le
  · have : k = k' := by omega
    subst this; exact Int.le_refl _
theorem srt_one (a b : Nat) (d : Nat → Nat) (h : b ≤ a + 1) : Srt K a b d := fun k k' h1 h2 h3 => by omega

/-- Neighbours that stand wrongly, exchanged. -/
theorem Inv.swap {n : Nat} {d : Nat → Nat} (h : Inv K n d) (j : Nat) (hj : j + 1 < n) (hk : K (d (j + 1)) < K (d j)) : Inv K n (sw d j (j + 1)) := by
  intro k k' h1 h2
  by_cases e1 : k = j
  · subst e1
    rw [sw_l]
    by_cases e2 : k' = k + 1
    · subst e2; rw [sw_r]; omega
    · rw [sw_o _ _ _ _ (by omega) e2]; exact h _ _ (by omega) h2
  · by_cases e2 : k = j + 1
    · subst e2
      rw [sw_r, sw_o _ _ _ _ (by omega) (by omega)]; exact h _ _ (by omega) h2
    · rw [sw_o _ _ _ k e1 e2]
      by_cases e3 : k' = j
      · subst e3; rw [sw_l]; exact h _ _ (by omega) (by omega)
      · by_cases e4 : k' = j + 1
        · subst e4; rw [sw_r]; exact h _ _ (by omega) (by omega)
        · rw [sw_o _ _ _ _ e3 e4]; exact h _ _ h1 h2
theorem Inv.swap' {n : Nat} {d : Nat → Nat} (h : Inv K n d) (j : Nat) (hj : j + 1 < n) (hk : K (d (j + 1)) < K (d j)) : Inv K n (sw d (j + 1) j) := by
  have e : sw d (j + 1) j = sw d j (j + 1) := by
    funext k; unfold sw
    by_cases h1 : k = j
    · subst h1; simp
    · simp [h1]
  rw [e]; exact h.swap j hj hk

/-- An insertion under way: the one at j is still to go down. -/
def InsR (K : Nat → Int) (a i j : Nat) (d : Nat → Nat) : Prop := ∀ k k', a ≤ k → k < k' → k' ≤ i → k' ≠ j → Lx K (d k) (d k')
theorem InsR.start {a i : Nat} {d : Nat → Nat} (h : Srt K a i d) : InsR K a i i d := fun k k' h1 h2 h3 h4 => h k k' h1 h2 (by omega)
theorem InsR.step {a i j : Nat} {d : Nat → Nat} (h : InsR K a i (j + 1) d) (ha : a ≤ j) (hj : j + 1 ≤ i) (hk : K (d (j + 1)) < K (d j)) : InsR K a i j (sw d (j + 1) j) := by
  intro k k' h1 h2 h3 h4
  by_cases e1 : k' = j + 1
  · subst e1
    rw [sw_l]
    by_cases e2 : k = j
    · subst e2; rw [sw_r]; exact .of hk
    · rw [sw_o _ _ _ _ (by omega) e2]; exact h _ _ h1 (by omega) (by omega) (by omega)
  · rw [sw_o _ _ _ k' e1 h4]
    by_cases e2 : k = j + 1
    · subst e2; rw [sw_l]; exact h _ _ ha (by omega) h3 e1
    · by_cases e3 : k = j
      · subst e3; rw [sw_r]; exact h _ _ (by omega) (by omega) h3 e1
      · rw [sw_o _ _ _ _ e2 e3]; exact h _ _ h1 h2 h3 e1
theorem InsR.done {n a i j : Nat} {d : Nat → Nat} (h : InsR K a i j d) (hI : Inv K n d) (hn : i < n) (haj : a ≤ j) (hji : j ≤ i) (hs : j = a ∨ ¬ K (d j) < K (d (j - 1))) : Srt K a (i + 1) d := by
  intro k k' h1 h2 h3
  by_cases e : k' = j
  · subst e
    rcases hs with hs | hs
    · omega
    · have hl : Lx K (d (k' - 1)) (d k') := hI.lx (by omega) (by omega) hs
      by_cases e2 : k = k' - 1
      · rw [e2]; exact hl
      · exact (h k (k' - 1) h1 (by omega) (by omega) (by omega)).trans hl
  · exact h k k' h1 h2 (by omega) e

/-- One at k on its way up to the place below i. -/
structure BubU (K : Nat → Int) (a b k i : Nat) (d : Nat → Nat) : Prop where
  rest : ∀ x y, a ≤ x → x < y → y < b → x ≠ k → y ≠ k → Lx K (d x) (d y)
  low : ∀ x, a ≤ x → x < k → Lx K (d x) (d k)
  mid : ∀ y, k < y → y < i → K (d y) < K (d k)
  high : ∀ y, i ≤ y → k < y → y < b → Lx K (d k) (d y)
theorem BubU.start {n a b i : Nat} {d : Nat → Nat} (hI : Inv K n d) (hbn : b ≤ n) (h : Srt K (a + 1) b d) (hi : i ≤ b) (h1 : ∀ y, a + 1 ≤ y → y < i → K (d y) < K (d a)) (h2 : ∀ y, i ≤ y → y < b → ¬ K (d y) < K (d a)) : BubU K a b a i d where
  rest := fun x y hx hxy hy hxa _ => h x y (by omega) hxy hy
  low := fun x hx hx' => by omega
  mid := fun y hy hyi => h1 y (by omega) hyi
  high := fun y hy hay hyb => hI.lx (by omega) (by omega) (h2 y hy hyb)
theorem BubU.step {a b k i : Nat} {d : Nat → Nat} (h : BubU K a b k i d) (hak : a ≤ k) (hk : k + 1 < i) (hib : i ≤ b) : BubU K a b (k + 1) i (sw d k (k + 1)) where
  rest := fun x y hx hxy hy h1 h2 => by
    by_cases e1 : x = k
    · subst e1
      rw [sw_l, sw_o _ _ _ _ (by omega) h2]; exact h.rest _ _ (by omega) (by omega) hy (by omega) (by omega)
    · rw [sw_o _ _ _ x e1 h1]
      by_cases e2 : y = k
      · subst e2; rw [sw_l]; exact h.rest _ _ hx (by omega) (by omega) e1 (by omega)
      · rw [sw_o _ _ _ _ e2 h2]; exact h.rest _ _ hx hxy hy e1 e2
  low := fun x hx hx' => by
    rw [sw_r]
    by_cases e1 : x = k
    · subst e1; rw [sw_l]; exact .of (h.mid _ (by omega) hk)
    · rw [sw_o _ _ _ _ e1 (by omega)]; exact h.low _ hx (by omega)
  mid := fun y hy hyi => by rw [sw_r, sw_o _ _ _ _ (by omega) (by omega)]; exact h.mid _ (by omega) hyi
  high := fun y hy hky hyb => by rw [sw_r, sw_o _ _ _ _ (by omega) (by omega)]; exact h.high _ hy (by omega) hyb
theorem BubU.done {a b k i : Nat} {d : Nat → Nat} (h : BubU K a b k i d) (hk : i ≤ k + 1) : Srt K a b d := fun x y hx hxy hy => by
  by_cases e1 : x = k
  · subst e1; exact h.high _ (by omega) hxy hy
  · by_cases e2 : y = k
    · subst e2; exact h.low _ hx hxy
    · exact h.rest _ _ hx hxy hy e1 e2

/-- One at k on its way down to i. -/
structure BubD (K : Nat → Int) (a b k i : Nat) (d : Nat → Nat) : Prop where
  rest : ∀ x y, a ≤ x → x < y → y < b → x ≠ k → y ≠ k → Lx K (d x) (d y)
  low : ∀ x, a ≤ x → x < i → x < k → Lx K (d x) (d k)
  mid : ∀ x, i ≤ x → x < k → K (d k) < K (d x)
  high : ∀ y, k < y → y < b → Lx K (d k) (d y)
theorem BubD.start {n a m i : Nat} {d : Nat → Nat} (hI : Inv K n d) (hbn : m < n) (h : Srt K a m d) (h1 : ∀ x, a ≤ x → x < i → x < m → ¬ K (d m) < K (d x)) (h2 : ∀ x, i ≤ x → x < m → K (d m) < K (d x)) : BubD K a (m + 1) m i d where
  rest := fun x y hx hxy hy hxm hym => h x y hx hxy (by omega)
  low := fun x hx hxi hxm => hI.lx hxm hbn (h1 x hx hxi hxm)
  mid := fun x hx hxm => h2 x hx hxm
  high := fun y hy hyb => by omega
theorem BubD.step {a b k i : Nat} {d : Nat → Nat} (h : BubD K a b (k + 1) i d) (hak : a ≤ i) (hk : i ≤ k) (hib : k + 1 < b) : BubD K a b k i (sw d (k + 1) k) where
  rest := fun x y hx hxy hy h1 h2 => by
    by_cases e1 : x = k + 1
    · subst e1
      rw [sw_l, sw_o _ _ _ _ (by omega) h2]; exact h.rest _ _ (by omega) (by omega) hy (by omega) (by omega)
    · rw [sw_o _ _ _ x e1 h1]
      by_cases e2 : y = k + 1
      · subst e2; rw [sw_l]; exact h.rest _ _ hx (by omega) (by omega) e1 (by omega)
      · rw [sw_o _ _ _ _ e2 h2]; exact h.rest _ _ hx hxy hy e1 e2
  low := fun x hx hxi hxk => by rw [sw_r, sw_o _ _ _ _ (by omega) (by omega)]; exact h.low _ hx hxi (by omega)
  mid := fun x hx hxk => by rw [sw_r, sw_o _ _ _ _ (by omega) (by omega)]; exact h.mid _ hx (by omega)
  high := fun y hy hyb => by
    rw [sw_r]
    by_cases e1 : y = k + 1
    · subst e1; rw [sw_l]; exact .of (h.mid _ hk (by omega))
    · rw [sw_o _ _ _ _ e1 (by omega)]; exact h.high _ (by omega) hyb
theorem BubD.done {a b k i : Nat} {d : Nat → Nat} (h : BubD K a b k i d) (hk : k ≤ i) : Srt K a b d := fun x y hx hxy hy => by
  by_cases e1 : x = k
  · subst e1; exact h.high _ hxy hy
  · by_cases e2 : y = k
    · subst e2; exact h.low _ hx (by omega) hxy
    · exact h.rest _ _ hx hxy hy e1 e2

/-- [s, m) and [m, e), exchanged as wholes. -/
def rot (d : Nat → Nat) (s m e : Nat) : Nat → Nat := fun k => if s ≤ k ∧ k < s + (e - m) then d (k + (m - s)) else if s + (e - m) ≤ k ∧ k < e then d (k - (e - m)) else d k
theorem rot_1 {d : Nat → Nat} {s m e k : Nat} (h : s ≤ k ∧ k < s + (e - m)) : rot d s m e k = d (k + (m - s)) := by unfold rot; rw [if_pos h]
theorem rot_2 {d : Nat → Nat} {s m e k : Nat} (h : s + (e - m) ≤ k ∧ k < e) : rot d s m e k = d (k - (e - m)) := by unfold rot; rw [if_neg (by omega), if_pos h]
theorem rot_3 {d : Nat → Nat} {s m e k : Nat} (h : k < s ∨ (e ≤ k ∧ s + (e - m) ≤ k)) : rot d s m e k = d k := by unfold rot; rw [if_neg (by omega), if_neg (by omega)]
theorem rot_none {d : Nat → Nat} {s m e : Nat} (hs : s ≤ m) (he : m ≤ e) (h : s = m ∨ e = m) : rot d s m e = d := by
  funext k
  unfold rot
  split
  · congr 1; omega
  · split
    · congr 1; omega
    · rfl
theorem Mv.rot (d : Nat → Nat) {s m e : Nat} (hs : s ≤ m) (he : m ≤ e) : Mv s e d (rot d s m e) := by
  refine ⟨fun k => if s ≤ k ∧ k < s + (e - m) then k + (m - s) else if s + (e - m) ≤ k ∧ k < e then k - (e - m) else k,
    fun k => if s ≤ k ∧ k < m then k + (e - m) else if m ≤ k ∧ k < e then k - (m - s) else k, ?_, ?_, ?_, ?_⟩
  · intro k
    unfold Ytibmldgbimjgfaa.rot
    dsimp only
    split
    · rfl
    · split <;> rfl
  · intro k; dsimp only; repeat' split
    all_goals omega
  · intro k; dsimp only; repeat' split
    all_goals omega
  · intro k hk; dsimp only; rw [if_neg (by omega), if_neg (by omega)]

/-- A rotation of what stands wrongly keeps the order of what is alike. -/
theorem Inv.rot {n s m e : Nat} {d : Nat → Nat} (h : Inv K n d) (hs : s ≤ m) (he : m ≤ e) (hn : e ≤ n) (hx : ∀ x y, s ≤ x → x < m → m ≤ y → y < e → K (d y) < K (d x)) : Inv K n (rot d s m e) := by
  intro k k' h1 h2
  by_cases c1 : s ≤ k ∧ k < s + (e - m)
  · rw [rot_1 c1]
    by_cases c2 : s ≤ k' ∧ k' < s + (e - m)
    · rw [rot_1 c2]; exact h _ _ (by omega) (by omega)
    · by_cases c3 : s + (e - m) ≤ k' ∧ k' < e
      · rw [rot_2 c3]
        have := hx (k' - (e - m)) (k + (m - s)) (by omega) (by omega) (by omega) (by omega)
        omega
      · rw [rot_3 (by omega)]; exact h _ _ (by omega) (by omega)
  · by_cases c2 : s + (e - m) ≤ k ∧ k < e
    · rw [rot_2 c2]
      by_cases c3 : s + (e - m) ≤ k' ∧ k' < e
      · rw [rot_2 c3]; exact h _ _ (by omega) (by omega)
      · rw [rot_3 (by omega)]; exact h _ _ (by omega) (by omega)
    · rw [rot_3 (k := k) (by omega)]
      by_cases c3 : s ≤ k' ∧ k' < s + (e - m)
      · rw [rot_1 c3]; exact h _ _ (by omega) (by omega)
      · by_cases c4 : s + (e - m) ≤ k' ∧ k' < e
        · rw [rot_2 c4]; exact h _ _ (by omega) (by omega)
        · rw [rot_3 (by omega)]; exact h _ _ (by omega) (by omega)

/-- A stretch of n places exchanged with another one. -/
def swr (d : Nat → Nat) (a b n : Nat) : Nat → Nat := fun k => if a ≤ k ∧ k < a + n then d (k + b - a) else if b ≤ k ∧ k < b + n then d (k + a - b) else d k
theorem swr_zero (d : Nat → Nat) (a b : Nat) : swr d a b 0 = d := by funext k; unfold swr; rw [if_neg (by omega), if_neg (by omega)]
theorem swr_1 {d : Nat → Nat} {a b n k : Nat} (h : a ≤ k ∧ k < a + n) : swr d a b n k = d (k + b - a) := by unfold swr; rw [if_pos h]
theorem swr_2 {d : Nat → Nat} {a b n k : Nat} (h : b ≤ k ∧ k < b + n) (h' : k < a ∨ a + n ≤ k) : swr d a b n k = d (k + a - b) := by unfold swr; rw [if_neg (by omega), if_pos h]
theorem swr_3 {d : Nat → Nat} {a b n k : Nat} (h : k < b ∨ b + n ≤ k) (h' : k < a ∨ a + n ≤ k) : swr d a b n k = d k := by unfold swr; rw [if_neg (by omega), if_neg (by omega)]
theorem at_eq {d : Nat → Nat} {x y : Nat} (h : x = y) : d x = d y := by rw [h]
theorem swr_step (d : Nat → Nat) (a b n : Nat) (h : a + n < b) : sw (swr d a b n) (a + n) (b + n) = swr d a b (n + 1) := by
  funext k
  by_cases e1 : k = a + n
  · subst e1
    rw [sw_l, swr_3 (by omega) (by omega), swr_1 (by omega)]; exact at_eq (by omega)
  by_cases e2 : k = b + n
  · subst e2
    rw [sw_r, swr_3 (by omega) (by omega), swr_2 (by omega) (by omega)]; first | done | exact at_eq (by omega)
  rw [sw_o _ _ _ _ e1 e2]
  by_cases c1 : a ≤ k ∧ k < a + n
  · rw [swr_1 c1, swr_1 (by omega)]
  · by_cases c2 : b ≤ k ∧ k < b + n
    · rw [swr_2 c2 (by omega), swr_2 (by omega) (by omega)]
    · rw [swr_3 (by omega) (by omega), swr_3 (by omega) (by omega)]

/-- The rotation's steps: i ahead of m, j from m on are still to be rotated. -/
theorem rot_gt (d : Nat → Nat) (m i j : Nat) (him : i ≤ m) (h : j < i) : rot (swr d (m - i) m j) (m - (i - j)) m (m + j) = rot d (m - i) m (m + j) := by
  funext k
  by_cases c0 : m - i ≤ k ∧ k < m - i + j
  · rw [rot_3 (by omega), swr_1 (by omega), rot_1 (by omega)]; exact at_eq (by omega)
  by_cases c1 : m - i + j ≤ k ∧ k < m - i + j + j
  · rw [rot_1 (by omega), swr_2 (by omega) (by omega), rot_2 (by omega)]; exact at_eq (by omega)
  by_cases c2 : m - i + j + j ≤ k ∧ k < m + j
  · rw [rot_2 (by omega), swr_3 (by omega) (by omega), rot_2 (by omega)]
  rw [rot_3 (by omega), swr_3 (by omega) (by omega), rot_3 (by omega)]
theorem rot_lt (d : Nat → Nat) (m i j : Nat) (him : i ≤ m) (h : i < j) : rot (swr d (m - i) (m + j - i) i) (m - i) m (m + (j - i)) = rot d (m - i) m (m + j) := by
  funext k
  by_cases c0 : m - i ≤ k ∧ k < m - i + (j - i)
  · rw [rot_1 (by omega), swr_3 (by omega) (by omega), rot_1 (by omega)]; first | done | exact at_eq (by omega)
  by_cases c1 : m - i + (j - i) ≤ k ∧ k < m + j - i
  · rw [rot_2 (by omega), swr_1 (by omega), rot_1 (by omega)]; exact at_eq (by omega)
  by_cases c2 : m + j - i ≤ k ∧ k < m + j
  · rw [rot_3 (by omega), swr_2 (by omega) (by omega), rot_2 (by omega)]; exact at_eq (by omega)
  rw [rot_3 (by omega), swr_3 (by omega) (by omega), rot_3 (by omega)]
theorem rot_eq (d : Nat → Nat) (m i : Nat) (him : i ≤ m) : swr d (m - i) m i = rot d (m - i) m (m + i) := by
  funext k
  by_cases c0 : m - i ≤ k ∧ k < m
  · rw [swr_1 (by omega), rot_1 (by omega)]; exact at_eq (by omega)
  by_cases c1 : m ≤ k ∧ k < m + i
  · rw [swr_2 (by omega) (by omega), rot_2 (by omega)]; exact at_eq (by omega)
  rw [swr_3 (by omega) (by omega), rot_3 (by omega)]

/-- What a merge's search has found: where the two rows are to be cut. -/
structure Cut (K : Nat → Int) (a m b s : Nat) (d : Nat → Nat) : Prop where
  as : a ≤ s
  sm : s ≤ m
  smid : s ≤ (a + b) / 2
  me : m ≤ (a + b) / 2 + m - s
  eb : (a + b) / 2 + m - s ≤ b
  up : a < s → (a + b) / 2 + m - s < b → ¬ K (d ((a + b) / 2 + m - s)) < K (d (s - 1))
  dn : s < m → m < (a + b) / 2 + m - s → K (d ((a + b) / 2 + m - s - 1)) < K (d s)

/-- What the rotation leaves: four rows in order, the first two ahead of the last two. -/
theorem Cut.rotated {n a m b s : Nat} {d : Nat → Nat} (h : Cut K a m b s d) (hI : Inv K n d) (hb : b ≤ n) (h1 : Srt K a m d) (h2 : Srt K m b d) :
    Inv K n (rot d s m ((a + b) / 2 + m - s)) ∧ Srt K a s (rot d s m ((a + b) / 2 + m - s)) ∧ Srt K s ((a + b) / 2) (rot d s m ((a + b) / 2 + m - s)) ∧
    Srt K ((a + b) / 2) ((a + b) / 2 + m - s) (rot d s m ((a + b) / 2 + m - s)) ∧ Srt K ((a + b) / 2 + m - s) b (rot d s m ((a + b) / 2 + m - s)) ∧
    ∀ x y, a ≤ x → x < (a + b) / 2 → (a + b) / 2 ≤ y → y < b → Lx K (rot d s m ((a + b) / 2 + m - s) x) (rot d s m ((a + b) / 2 + m - s) y) := by
  obtain ⟨as, sm, smid, me, eb, up, dn⟩ := h
  generalize hM : (a + b) / 2 = M at *
  generalize he : M + m - s = e at *
  have hx : ∀ x y, s ≤ x → x < m → m ≤ y → y < e → K (d y) < K (d x) := fun x y q1 q2 q3 q4 => by
    have z := dn (by omega) (by omega)
    have z1 := h1.le (k := s) (k' := x) as q1 q2
    have z2 := h2.le (k := y) (k' := e - 1) q3 (by omega) (by omega)
    omega
  have hc : ∀ x y, a ≤ x → x < s → e ≤ y → y < b → Lx K (d x) (d y) := fun x y q1 q2 q3 q4 => by
    have z : Lx K (d (s - 1)) (d e) := hI.lx (by omega) (by omega) (up (by omega) (by omega))
    have z1 : Lx K (d x) (d e) := by
      rcases Nat.lt_or_ge x (s - 1) with c | c
      · exact (h1 x (s - 1) q1 c (by omega)).trans z
      · rw [show x = s - 1 by omega]; exact z
    rcases Nat.lt_or_ge e y with c | c
    · exact z1.trans (h2 e y me c q4)
    · rw [show y = e by omega]; exact z1
  refine ⟨hI.rot sm me (by omega) hx, ?_, ?_, ?_, ?_, ?_⟩
  · exact (h1.mono (Nat.le_refl _) sm).congr fun k q1 q2 => rot_3 (by omega)
  · intro k k' q1 q2 q3
    rw [rot_1 (by omega), rot_1 (by omega)]; exact h2 _ _ (by omega) (by omega) (by omega)
  · intro k k' q1 q2 q3
    rw [rot_2 (by omega), rot_2 (by omega)]; exact h1 _ _ (by omega) (by omega) (by omega)
  · exact (h2.mono me (Nat.le_refl _)).congr fun k q1 q2 => rot_3 (by omega)
  · intro x y q1 q2 q3 q4
    by_cases c1 : x < s
    · rw [rot_3 (k := x) (by omega)]
      by_cases c2 : y < e
      · rw [rot_2 (by omega)]; exact h1 _ _ q1 (by omega) (by omega)
      · rw [rot_3 (by omega)]; exact hc _ _ q1 c1 (by omega) q4
    · rw [rot_1 (k := x) (by omega)]
      by_cases c2 : y < e
      · rw [rot_2 (by omega)]; exact .of (hx _ _ (by omega) (by omega) (by omega) (by omega))
      · rw [rot_3 (by omega)]; exact h2 _ _ (by omega) (by omega) q4

/-- Two rows in order, the one ahead of the other. -/
theorem srt_join {a M b : Nat} {d : Nat → Nat} (h1 : Srt K a M d) (h2 : Srt K M b d) (hx : ∀ x y, a ≤ x → x < M → M ≤ y → y < b → Lx K (d x) (d y)) : Srt K a b d := fun k k' q1 q2 q3 => by
  by_cases c : k' < M
  · exact h1 _ _ q1 q2 c
  · by_cases c2 : M ≤ k
    · exact h2 _ _ c2 q2 q3
    · exact hx _ _ q1 (by omega) (by omega) q3
theorem cross_mv {a M b : Nat} {d d' : Nat → Nat} (hx : ∀ x y, a ≤ x → x < M → M ≤ y → y < b → Lx K (d x) (d y)) (h : Mv a M d d' ∨ Mv M b d d') : ∀ x y, a ≤ x → x < M → M ≤ y → y < b → Lx K (d' x) (d' y) := fun x y q1 q2 q3 q4 => by
  rcases h with h | h
  · obtain ⟨x', r1, r2, e⟩ := h.inn x q1 q2
    rw [e, h.out y (by omega)]; exact hx _ _ r1 r2 q3 q4
  · obtain ⟨y', r1, r2, e⟩ := h.inn y q3 q4
    rw [e, h.out x (by omega)]; exact hx _ _ q1 q2 r1 r2

/-- Blocks of bs places, from the place lo on, each in order. -/
def BS (K : Nat → Int) (n bs lo hi : Nat) (d : Nat → Nat) : Prop := ∀ q, lo ≤ q * bs → q * bs < hi → Srt K (q * bs) (min (q * bs + bs) n) d
end
end Go.Proofs.Ytibmldgbimjgfaa
