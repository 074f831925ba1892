/- Parts, and forests of parts: their number, their depth, their list. No program. No conditions. Texts and their tokens, byte by byte: what a text's tokens are, the text of tokens, that the one goes back to the other, and that more white changes places alone. No program. No conditions. Parts read one behind the other: where a term ends, or where and why it may not be. No program. No conditions. What is known of parts that may be. No program. No conditions. One part more, one part less: what is said of them. No program. No conditions. The tokens of a text by steps that are counted: for texts that the document gives. No program. No conditions. Arrangements of a row by a key, as functions of places: what insertions, rotations and merges come to. No program. No conditions. Parts read with a row of open parts: as by recursion. No program. No conditions. The document's own definition of layer 8, and what is said of it. No program. No conditions. -/
import Derived.WalkKit
namespace Go.Proofs.YtioalnncjahlnaaGreatDoor

/-- A part. -/
structure Prt where
  kind : Nat
  n : Nat
  g : Nat
  d : Int
  kids : Int
deriving DecidableEq
/-- Terms beside each other: the first one's part (its number of children is told by its children), its children, the others. -/
inductive Fst where
  | nil : Fst
  | cons (x : Prt) (kids next : Fst) : Fst
def Fst.len : Fst → Nat
  | .nil => 0
  | .cons _ _ next => next.len + 1
def Fst.size : Fst → Nat
  | .nil => 0
  | .cons _ kids next => kids.size + next.size + 1
def Fst.depth : Fst → Nat
  | .nil => 0
  | .cons _ kids next => max (kids.depth + 1) next.depth
def Fst.flat : Fst → List Prt
  | .nil => []
  | .cons x kids next => { x with kids := kids.len } :: (kids.flat ++ next.flat)
theorem flat_len : ∀ F : Fst, F.flat.length = F.size
  | .nil => rfl
  | .cons x kids next => by simp only [Fst.flat, Fst.size, List.length_cons, List.length_append, flat_len kids, flat_len next]
theorem len_size : ∀ F : Fst, F.len ≤ F.size
  | .nil => Nat.le_refl _
  | .cons x kids next => by simp only [Fst.len, Fst.size]; have := len_size next; omega
/-- A part whose numbers are of its fields' kinds. -/
def PrtW (x : Prt) : Prop := x.kind ≤ 255 ∧ x.n ≤ 4294967295 ∧ x.g ≤ 4294967295 ∧ (-9223372036854775808 ≤ x.d ∧ x.d ≤ 9223372036854775807) ∧ -9223372036854775808 ≤ x.kids ∧ x.kids ≤ 9223372036854775807
end Go.Proofs.YtioalnncjahlnaaGreatDoor

namespace Go.Proofs.YtioalnncjahlnaaGreatDoor

def whiteB (c : UInt8) : Bool := c == 32 || c == 9 || c == 10 || c == 13
def letterB (c : UInt8) : Bool := decide (97 ≤ c) && decide (c ≤ 122)
def digitB (c : UInt8) : Bool := decide (48 ≤ c) && decide (c ≤ 57)
def alnumB (c : UInt8) : Bool := letterB c || digitB c
theorem white_not {c : UInt8} (h : whiteB c = true) : alnumB c = false := by
  unfold whiteB at h
  simp only [Bool.or_eq_true, beq_iff_eq] at h
  rcases h with ((rfl | rfl) | rfl) | rfl <;> decide
/-- The number that digits say. -/
def valD (s : List UInt8) : Int := s.foldl (fun n c => 10 * n + ((c.toNat : Int) - 48)) 0
def isNum (s : List UInt8) : Bool := !s.isEmpty && s.all digitB && (s.length == 1 || s.head? != some 48) && decide (valD s ≤ 1099511627776)
def isWord (s : List UInt8) : Bool := !s.isEmpty && s.all letterB
/-- What a token's bytes are: its kind, its number. -/
def kindOf (s : List UInt8) : Option (Nat × Int) :=
  if isNum s then some (1, valD s) else if s = [40] then some (2, 0) else if s = [41] then some (3, 0) else if s = [58] then some (4, 0) else if isWord s then some (0, 0) else none
/-- A token: its kind, its bytes, its number, its place. -/
structure Tok where
  kind : Nat
  text : List UInt8
  num : Int
  pos : Nat
deriving DecidableEq
/-- The tokens of a text from a place on, or the place of what is none. -/
def lexG (p : Nat) : List UInt8 → Except Nat (List Tok)
  | [] => .ok []
  | c :: r =>
    if whiteB c then lexG (p + 1) r
    else if alnumB c then
      match kindOf (c :: r.takeWhile alnumB) with
      | none => .error p
      | some (k, n) => (lexG (p + 1 + (r.takeWhile alnumB).length) (r.dropWhile alnumB)).map (⟨k, c :: r.takeWhile alnumB, n, p⟩ :: ·)
    else
      match kindOf [c] with
      | none => .error p
      | some (k, n) => (lexG (p + 1) r).map (⟨k, [c], n, p⟩ :: ·)
termination_by s => s.length
decreasing_by
  all_goals simp only [List.length_cons]
  · omega
  · have := (List.dropWhile_sublist alnumB (l := r)).length_le; omega
  · omega
theorem lexG_nil (p : Nat) : lexG p [] = .ok [] := by rw [lexG]
theorem lexG_white {p : Nat} {c : UInt8} {r : List UInt8} (h : whiteB c = true) : lexG p (c :: r) = lexG (p + 1) r := by rw [lexG, if_pos h]
/-- The bytes of a token: one of the three, or a run. -/
def okTok (t : List UInt8) (k : Nat) (n : Int) : Prop := kindOf t = some (k, n) ∧ ((∃ c, t = [c] ∧ alnumB c = false ∧ whiteB c = false) ∨ (t ≠ [] ∧ t.all alnumB = true))
theorem takeWhile_app {p : UInt8 → Bool} {a b : List UInt8} (h : a.all p = true) (hb : b = [] ∨ ∃ c r, b = c :: r ∧ p c = false) : (a ++ b).takeWhile p = a ∧ (a ++ b).dropWhile p = b := by
  induction a with
  | nil =>
    rcases hb with rfl | ⟨c, r, rfl, hc⟩
    · simp
    · simp [hc]
  | cons x a ih =>
    simp only [List.all_cons, Bool.and_eq_true] at h
    obtain ⟨i1, i2⟩ := ih h.2
    simp only [List.cons_append, List.takeWhile_cons, List.dropWhile_cons, h.1, if_true, i1, i2, and_self]
/-- A token ahead of what can't go on with its run. -/
theorem lexG_tok {p : Nat} {t r : List UInt8} {k : Nat} {n : Int} (h : okTok t k n) (hr : t.all alnumB = true → r = [] ∨ ∃ c r', r = c :: r' ∧ alnumB c = false) :
    lexG p (t ++ r) = (lexG (p + t.length) r).map (⟨k, t, n, p⟩ :: ·) := by
  obtain ⟨hk, ⟨c, rfl, h1, h2⟩ | ⟨hne, ha⟩⟩ := h
  · rw [List.cons_append, List.nil_append, lexG, if_neg (by rw [h2]; decide), if_neg (by rw [h1]; decide), hk]
    rfl
  · obtain ⟨c, t', rfl⟩ := List.exists_cons_of_ne_nil hne
    have ha' := ha
    simp only [List.all_cons, Bool.and_eq_true] at ha'
    have hw : whiteB c = false := by
      cases hw : whiteB c
      · rfl
      · rw [white_not hw] at ha'; exact absurd ha'.1 (by decide)
    obtain ⟨e1, e2⟩ := takeWhile_app ha'.2 (hr ha)
    rw [List.cons_append, lexG, if_neg (by rw [hw]; decide), if_pos ha'.1, e1, e2, hk]
    simp only [List.length_cons]
    rw [show p + 1 + t'.length = p + (t'.length + 1) by omega]
/-- What is told of a text: each token's bytes are a token's, and stand at its place, with white between. -/
def Spells (p : Nat) : List UInt8 → List Tok → Prop
  | s, [] => s.all whiteB = true
  | s, t :: l => ∃ w r, s = w ++ t.text ++ r ∧ w.all whiteB = true ∧ t.pos = p + w.length ∧ okTok t.text t.kind t.num ∧ (t.text.all alnumB = true → r = [] ∨ ∃ c r', r = c :: r' ∧ alnumB c = false) ∧ Spells (p + w.length + t.text.length) r l
theorem mem_run {p : UInt8 → Bool} {y : UInt8} : ∀ {r : List UInt8}, y ∈ r.takeWhile p → p y = true
  | [], h => by simp at h
  | c :: r, h => by
    rw [List.takeWhile_cons] at h
    cases hc : p c
    · rw [hc] at h; simp at h
    · rw [hc, if_pos rfl] at h
      rcases List.mem_cons.1 h with e | e
      · rw [e]; exact hc
      · exact mem_run e
theorem lexG_run (p : Nat) (c : UInt8) (r : List UInt8) : (∃ x, lexG p (c :: r) = .error x) ∨ whiteB c = true ∨ ∃ t r' k n, c :: r = t ++ r' ∧ okTok t k n ∧ (t.all alnumB = true → r' = [] ∨ ∃ c r'', r' = c :: r'' ∧ alnumB c = false) := by
  cases hw : whiteB c
  · cases ha : alnumB c
    · cases hk : kindOf [c] with
      | none => left; rw [lexG, if_neg (by rw [hw]; decide), if_neg (by rw [ha]; decide), hk]; exact ⟨p, rfl⟩
      | some x => exact .inr (.inr ⟨[c], r, x.1, x.2, rfl, ⟨hk, .inl ⟨c, rfl, ha, hw⟩⟩, fun h => by simp [ha] at h⟩)
    · cases hk : kindOf (c :: r.takeWhile alnumB) with
      | none => left; rw [lexG, if_neg (by rw [hw]; decide), if_pos ha, hk]; exact ⟨p, rfl⟩
      | some x =>
        refine .inr (.inr ⟨c :: r.takeWhile alnumB, r.dropWhile alnumB, x.1, x.2, by rw [List.cons_append, List.takeWhile_append_dropWhile], ⟨hk, .inr ⟨by simp, ?_⟩⟩, fun _ => ?_⟩)
        · rw [List.all_eq_true]
          intro y hy
          rcases List.mem_cons.1 hy with e | e
          · rw [e]; exact ha
          · exact mem_run e
        · cases hd : r.dropWhile alnumB with
          | nil => exact .inl rfl
          | cons y r'' =>
            refine .inr ⟨y, r'', rfl, ?_⟩
            have := List.head?_dropWhile_not alnumB r
            rw [hd] at this
            simpa using this
  · exact .inr (.inl rfl)
theorem lexG_spells : ∀ (m : Nat) (s : List UInt8) (p : Nat) (l : List Tok), s.length ≤ m → lexG p s = .ok l → Spells p s l
  | _, [], p, l, _, h => by
    rw [lexG_nil] at h
    cases h
    rfl
  | 0, c :: r, _, _, hm, _ => by simp at hm
  | m + 1, c :: r, p, l, hm, h => by
    simp only [List.length_cons] at hm
    rcases lexG_run p c r with ⟨x, e⟩ | hw | ⟨t, r', k, n, e, ht, hr⟩
    · rw [e] at h; cases h
    · rw [lexG_white hw] at h
      have ih := lexG_spells m r (p + 1) l (by omega) h
      cases l with
      | nil =>
        show (c :: r).all whiteB = true
        rw [List.all_cons, hw]
        exact ih
      | cons t l =>
        obtain ⟨w, r2, e, h1, h2, h3, h4, h5⟩ := ih
        refine ⟨c :: w, r2, by rw [e]; simp, by rw [List.all_cons, hw]; exact h1, by rw [h2]; simp only [List.length_cons]; omega, h3, h4, ?_⟩
        have e2 : p + (c :: w).length + t.text.length = p + 1 + w.length + t.text.length := by simp only [List.length_cons]; omega
        rw [e2]; exact h5
    · rw [e, lexG_tok ht hr] at h
      have hlen : r'.length ≤ m := by
        have h1 := congrArg List.length e
        have h2 : 0 < t.length := by
          rcases ht.2 with ⟨c', rfl, _⟩ | ⟨hne, _⟩
          · simp
          · exact List.length_pos_iff.2 hne
        simp only [List.length_cons, List.length_append] at h1
        omega
      cases hl : lexG (p + t.length) r' with
      | error y => rw [hl] at h; cases h
      | ok l' =>
        rw [hl] at h
        cases h
        refine ⟨[], r', by rw [e]; simp, rfl, by simp, ht, hr, ?_⟩
        simpa using lexG_spells m r' (p + t.length) l' hlen hl
theorem lexG_allwhite : ∀ (w : List UInt8) (p : Nat) (r : List UInt8), w.all whiteB = true → lexG p (w ++ r) = lexG (p + w.length) r
  | [], p, r, _ => rfl
  | c :: w, p, r, h => by
    rw [List.all_cons, Bool.and_eq_true] at h
    rw [List.cons_append, lexG_white h.1, lexG_allwhite w (p + 1) r h.2, List.length_cons]
    congr 1; omega
/-- And back: what is so spelled is so told. -/
theorem spells_lexG : ∀ (l : List Tok) (p : Nat) (s : List UInt8), Spells p s l → lexG p s = .ok l
  | [], p, s, h => by
    have h' : s.all whiteB = true := h
    have := lexG_allwhite s p [] h'
    rw [List.append_nil, lexG_nil] at this
    exact this
  | t :: l, p, s, ⟨w, r, e, h1, h2, h3, h4, h5⟩ => by
    subst e
    rw [List.append_assoc, lexG_allwhite w p _ h1, lexG_tok h3 h4, spells_lexG l _ r h5]
    simp only [Except.map]
    rw [← h2]

/-- The text of tokens. -/
def gapB (a b : Tok) : Bool := a.kind != 2 && b.kind != 3 && b.kind != 4
def textG : List Tok → List UInt8
  | [] => []
  | [t] => t.text
  | t :: u :: l => t.text ++ (if gapB t u then 32 :: textG (u :: l) else textG (u :: l))
/-- Tokens at the places at which their text has them. -/
def placeG (p : Nat) : List Tok → List Tok
  | [] => []
  | [t] => [{ t with pos := p }]
  | t :: u :: l => { t with pos := p } :: placeG (p + t.text.length + (if gapB t u then 1 else 0)) (u :: l)
theorem kind_punct {t : List UInt8} {k : Nat} {n : Int} (h : okTok t k n) (hk : k = 2 ∨ k = 3 ∨ k = 4) : ∃ c, t = [c] ∧ alnumB c = false := by
  obtain ⟨h1, _⟩ := h
  unfold kindOf at h1
  split at h1
  · cases h1; omega
  · split at h1
    · rename_i e; exact ⟨40, e, by decide⟩
    · split at h1
      · rename_i e; exact ⟨41, e, by decide⟩
      · split at h1
        · rename_i e; exact ⟨58, e, by decide⟩
        · split at h1
          · cases h1; omega
          · cases h1
theorem text_head {t : List UInt8} {k : Nat} {n : Int} (h : okTok t k n) : ∃ c r, t = c :: r := by
  rcases h.2 with ⟨c, rfl, _⟩ | ⟨hne, _⟩
  · exact ⟨c, [], rfl⟩
  · exact List.exists_cons_of_ne_nil hne
theorem textG_head {u : Tok} {l : List Tok} : ∃ r, textG (u :: l) = u.text ++ r := by
  cases l with
  | nil => exact ⟨[], by simp [textG]⟩
  | cons v l => exact ⟨_, rfl⟩
theorem text_spells : ∀ (l : List Tok) (p : Nat), (∀ t ∈ l, okTok t.text t.kind t.num) → Spells p (textG l) (placeG p l)
  | [], p, _ => rfl
  | [t], p, h => ⟨[], [], by simp [textG], rfl, rfl, h t (by simp), fun _ => .inl rfl, rfl⟩
  | t :: u :: l, p, h => by
    have ht := h t (by simp)
    have hu := h u (by simp)
    have ih := text_spells (u :: l) (p + t.text.length + (if gapB t u then 1 else 0)) fun x hx => h x (List.mem_cons_of_mem _ hx)
    refine ⟨[], if gapB t u then 32 :: textG (u :: l) else textG (u :: l), by simp [textG], rfl, rfl, ht, fun ha => ?_, ?_⟩
    · cases hg : gapB t u
      · rw [if_neg (by decide)]
        refine .inr ?_
        have hk : u.kind = 3 ∨ u.kind = 4 := by
          unfold gapB at hg
          have h2 : t.kind ≠ 2 := fun e => by
            obtain ⟨c, e2, hc⟩ := kind_punct ht (.inl e)
            rw [e2] at ha
            simp [hc] at ha
          simp only [Bool.and_eq_false_iff, bne_eq_false_iff_eq] at hg
          rcases hg with (hg | hg) | hg
          · exact absurd hg h2
          · exact .inl hg
          · exact .inr hg
        obtain ⟨c, e2, hc⟩ := kind_punct hu (.inr hk)
        obtain ⟨r, e3⟩ := textG_head (u := u) (l := l)
        rw [e3, e2]
        exact ⟨c, r, rfl, hc⟩
      · rw [if_pos rfl]
        exact .inr ⟨32, _, rfl, by decide⟩
    · show Spells _ _ (placeG _ (u :: l))
      simp only [List.length_nil, Nat.add_zero]
      cases hg : gapB t u
      · rw [hg] at ih
        simpa using ih
      · rw [hg] at ih
        simp only [if_true] at ih ⊢
        cases l with
        | nil =>
          obtain ⟨w, r, e, h1, h2, h3⟩ := ih
          refine ⟨32 :: w, r, by rw [e]; simp, by rw [List.all_cons, h1]; decide, by rw [h2]; simp only [List.length_cons]; omega, ?_⟩
          simp only [List.length_cons]
          rw [show p + t.text.length + (w.length + 1) = p + t.text.length + 1 + w.length by omega]
          exact h3
        | cons v l =>
          obtain ⟨w, r, e, h1, h2, h3⟩ := ih
          refine ⟨32 :: w, r, by rw [e]; simp, by rw [List.all_cons, h1]; decide, by rw [h2]; simp only [List.length_cons]; omega, ?_⟩
          simp only [List.length_cons]
          rw [show p + t.text.length + (w.length + 1) = p + t.text.length + 1 + w.length by omega]
          exact h3
theorem spells_ok : ∀ (l : List Tok) (p : Nat) (s : List UInt8), Spells p s l → ∀ t ∈ l, okTok t.text t.kind t.num
  | [], _, _, _, t, h => by simp at h
  | u :: l, p, s, ⟨w, r, e, h1, h2, h3, h4, h5⟩, t, h => by
    rcases List.mem_cons.1 h with e | e
    · rw [e]; exact h3
    · exact spells_ok l _ r h5 t e
/-- There and back: the tokens of the text of a text's tokens are these tokens, at their new places. -/
theorem lex_back {s : List UInt8} {l : List Tok} (h : lexG 0 s = .ok l) : lexG 0 (textG l) = .ok (placeG 0 l) :=
  spells_lexG _ _ _ (text_spells l 0 (spells_ok l 0 s (lexG_spells s.length s 0 l (Nat.le_refl _) h)))
theorem place_text : ∀ (l : List Tok) (p : Nat), textG (placeG p l) = textG l
  | [], _ => rfl
  | [t], _ => rfl
  | t :: u :: l, p => by
    have ih := place_text (u :: l) (p + t.text.length + (if gapB t u then 1 else 0))
    cases l with
    | nil => rfl
    | cons v l =>
      have e : placeG (p + t.text.length + (if gapB t u then 1 else 0)) (u :: v :: l) = { u with pos := p + t.text.length + (if gapB t u then 1 else 0) } :: placeG (p + t.text.length + (if gapB t u then 1 else 0) + u.text.length + (if gapB u v then 1 else 0)) (v :: l) := rfl
      rw [show placeG p (t :: u :: v :: l) = { t with pos := p } :: placeG (p + t.text.length + (if gapB t u then 1 else 0)) (u :: v :: l) from rfl, e]
      rw [e] at ih
      show t.text ++ (if gapB { t with pos := p } { u with pos := _ } then 32 :: textG _ else textG _) = t.text ++ (if gapB t u then 32 :: textG (u :: v :: l) else textG (u :: v :: l))
      rw [ih]
      rfl

/-- Tokens, so much farther. -/
def shiftG (d : Nat) (l : List Tok) : List Tok := l.map fun t => { t with pos := t.pos + d }
theorem spells_shift : ∀ (l : List Tok) (p : Nat) (s : List UInt8) (d : Nat), Spells p s l → Spells (p + d) s (shiftG d l)
  | [], _, _, _, h => h
  | t :: l, p, s, d, ⟨w, r, e, h1, h2, h3, h4, h5⟩ => by
    refine ⟨w, r, e, h1, ?_, h3, h4, ?_⟩
    · show t.pos + d = p + d + w.length
      omega
    · have := spells_shift l _ r d h5
      show Spells (p + d + w.length + t.text.length) r (shiftG d l)
      rw [show p + d + w.length + t.text.length = p + w.length + t.text.length + d by omega]
      exact this
/-- Tokens, from the k-th on so much farther. -/
def whiteG (d k : Nat) (l : List Tok) : List Tok := l.take k ++ shiftG d (l.drop k)
theorem spells_pos : ∀ (l : List Tok) (p : Nat) (s : List UInt8) (k : Nat) (t : Tok), Spells p s l → l[k]? = some t → p ≤ t.pos ∧ t.pos + t.text.length ≤ p + s.length
  | [], _, _, _, _, _, h => by simp at h
  | u :: l, p, s, k, t, ⟨w, r, e, h1, h2, h3, h4, h5⟩, hk => by
    have hl := congrArg List.length e
    simp only [List.length_append] at hl
    cases k with
    | zero =>
      simp only [List.getElem?_cons_zero, Option.some.injEq] at hk
      subst hk
      omega
    | succ k =>
      rw [List.getElem?_cons_succ] at hk
      have := spells_pos l _ r k t h5 hk
      omega
/-- More white ahead of a token changes places alone. -/
theorem spells_white : ∀ (l : List Tok) (p : Nat) (s : List UInt8) (k : Nat) (m : List UInt8) (t : Tok), Spells p s l → m.all whiteB = true → l[k]? = some t →
    Spells p (s.take (t.pos - p) ++ (m ++ s.drop (t.pos - p))) (whiteG m.length k l)
  | [], _, _, _, _, _, _, _, h => by simp at h
  | u :: l, p, s, 0, m, t, ⟨w, r, e, h1, h2, h3, h4, h5⟩, hm, hk => by
    simp only [List.getElem?_cons_zero, Option.some.injEq] at hk
    subst hk
    have e0 : u.pos - p = w.length := by omega
    rw [e0, e, List.append_assoc, List.take_left' rfl, List.drop_left' rfl]
    refine ⟨w ++ m, r, by simp, by rw [List.all_append, h1, hm]; rfl, ?_, h3, h4, ?_⟩
    · show u.pos + m.length = _
      rw [List.length_append]; omega
    · have := spells_shift l _ r m.length h5
      show Spells (p + (w ++ m).length + u.text.length) r (shiftG m.length l)
      rw [List.length_append, show p + (w.length + m.length) + u.text.length = p + w.length + u.text.length + m.length by omega]
      exact this
  | u :: l, p, s, k + 1, m, t, ⟨w, r, e, h1, h2, h3, h4, h5⟩, hm, hk => by
    rw [List.getElem?_cons_succ] at hk
    have hp := spells_pos l _ r k t h5 hk
    have ih := spells_white l _ r k m t h5 hm hk
    have hl : (w ++ u.text).length = w.length + u.text.length := by simp
    have e0 : t.pos - p = (w ++ u.text).length + (t.pos - (p + w.length + u.text.length)) := by rw [hl]; omega
    generalize hd : t.pos - (p + w.length + u.text.length) = d at *
    refine ⟨w, r.take d ++ (m ++ r.drop d), ?_, h1, h2, h3, fun ha => ?_, ih⟩
    · rw [e0, e, List.take_length_add_append, List.drop_length_add_append]
      simp only [List.append_assoc]
    · rcases h4 ha with e1 | ⟨c, r', e1, hc⟩
      · subst e1
        cases m with
        | nil => left; simp
        | cons c m =>
          rw [List.all_cons, Bool.and_eq_true] at hm
          exact .inr ⟨c, m, by simp, white_not hm.1⟩
      · subst e1
        cases d with
        | zero =>
          cases m with
          | nil => exact .inr ⟨c, r', rfl, hc⟩
          | cons x m =>
            rw [List.all_cons, Bool.and_eq_true] at hm
            exact .inr ⟨x, m ++ c :: r', rfl, white_not hm.1⟩
        | succ d => exact .inr ⟨c, _, rfl, hc⟩
theorem lex_white {s : List UInt8} {l : List Tok} {k : Nat} {t : Tok} {m : List UInt8} (h : lexG 0 s = .ok l) (hm : m.all whiteB = true) (hk : l[k]? = some t) :
    lexG 0 (s.take t.pos ++ (m ++ s.drop t.pos)) = .ok (whiteG m.length k l) :=
  spells_lexG _ _ _ (spells_white l 0 s k m t (lexG_spells s.length s 0 l (Nat.le_refl _) h) hm hk)

/-- A number's digits. -/
def digG (n : Nat) : List UInt8 := if n < 10 then [UInt8.ofNat (48 + n)] else digG (n / 10) ++ [UInt8.ofNat (48 + n % 10)]
theorem digit_of {d : Nat} (h : d < 10) : digitB (UInt8.ofNat (48 + d)) = true ∧ (UInt8.ofNat (48 + d)).toNat = 48 + d := by
  have e : (UInt8.ofNat (48 + d)).toNat = 48 + d := by rw [UInt8.toNat_ofNat']; omega
  refine ⟨?_, e⟩
  unfold digitB
  rw [Bool.and_eq_true, decide_eq_true_iff, decide_eq_true_iff, UInt8.le_iff_toNat_le, UInt8.le_iff_toNat_le, e]
  simp
  omega
theorem valD_snoc (a : List UInt8) (c : UInt8) : valD (a ++ [c]) = 10 * valD a + ((c.toNat : Int) - 48) := by
  unfold valD
  rw [List.foldl_append]
  rfl
theorem dig_facts : ∀ (m n : Nat), n ≤ m → valD (digG n) = n ∧ (digG n).all digitB = true ∧ 0 < (digG n).length ∧ (0 < n → (digG n).head? ≠ some 48) ∧ (n < 10 → (digG n).length = 1)
  | m, n, hm => by
    by_cases h : n < 10
    · rw [digG, if_pos h]
      have ⟨h1, h2⟩ := digit_of h
      refine ⟨?_, by rw [List.all_cons, h1]; rfl, by simp, fun h0 e => ?_, fun _ => rfl⟩
      · show 10 * 0 + (((UInt8.ofNat (48 + n)).toNat : Int) - 48) = n
        rw [h2]; omega
      · simp only [List.head?_cons, Option.some.injEq] at e
        rw [e] at h2
        have : (48 : UInt8).toNat = 48 := rfl
        omega
    · cases m with
      | zero => omega
      | succ m =>
        obtain ⟨i1, i2, i3, i4, _⟩ := dig_facts m (n / 10) (by omega)
        have ⟨h1, h2⟩ := digit_of (d := n % 10) (by omega)
        rw [digG, if_neg h]
        refine ⟨?_, ?_, by simp, fun _ => ?_, fun h' => absurd h' h⟩
        · rw [valD_snoc, i1, h2]; omega
        · rw [List.all_append, i2, List.all_cons, h1]; rfl
        · cases hd : digG (n / 10) with
          | nil => rw [hd] at i3; simp at i3
          | cons x r =>
            have := i4 (by omega)
            rw [hd] at this
            simpa using this
theorem dig_num {n : Nat} (h : n ≤ 1099511627776) : isNum (digG n) = true := by
  obtain ⟨i1, i2, i3, i4, i5⟩ := dig_facts n n (Nat.le_refl _)
  unfold isNum
  simp only [Bool.and_eq_true, Bool.or_eq_true, decide_eq_true_iff, i1, i2]
  refine ⟨⟨⟨?_, trivial⟩, ?_⟩, by omega⟩
  · cases hd : digG n with
    | nil => rw [hd] at i3; simp at i3
    | cons x r => rfl
  · by_cases h0 : 0 < n
    · right; simpa using i4 h0
    · left; simpa using i5 (by omega)
theorem dig_far {n : Nat} (h : 1099511627776 < n) : isNum (digG n) = false := by
  obtain ⟨i1, _⟩ := dig_facts n n (Nat.le_refl _)
  unfold isNum
  rw [i1, show decide ((n : Int) ≤ 1099511627776) = false from decide_eq_false (by omega), Bool.and_false]
theorem dig_zero (n : Nat) : isNum (48 :: digG n) = false := by
  obtain ⟨_, _, i3, _⟩ := dig_facts n n (Nat.le_refl _)
  unfold isNum
  have e1 : ((48 :: digG n).length == 1) = false := by
    simp only [List.length_cons, beq_eq_false_iff_ne]
    omega
  rw [e1]
  simp
theorem digit_letter {c : UInt8} (h : digitB c = true) : letterB c = false := by
  unfold digitB at h
  unfold letterB
  rw [Bool.and_eq_true, decide_eq_true_iff, decide_eq_true_iff, UInt8.le_iff_toNat_le, UInt8.le_iff_toNat_le] at h
  rw [Bool.and_eq_false_iff]
  left
  rw [decide_eq_false_iff_not, UInt8.le_iff_toNat_le]
  have e1 : (57 : UInt8).toNat = 57 := rfl
  have e2 : (97 : UInt8).toNat = 97 := rfl
  omega
theorem dig_word (n : Nat) : isWord (digG n) = false := by
  obtain ⟨_, i2, i3, _⟩ := dig_facts n n (Nat.le_refl _)
  unfold isWord
  cases hd : digG n with
  | nil => rfl
  | cons x r =>
    rw [hd, List.all_cons, Bool.and_eq_true] at i2
    rw [List.all_cons, digit_letter i2.1]
    simp
theorem dig_ok {n : Nat} (h : n ≤ 1099511627776) : okTok (digG n) 1 n := by
  obtain ⟨i1, i2, i3, _⟩ := dig_facts n n (Nat.le_refl _)
  refine ⟨?_, .inr ⟨List.length_pos_iff.1 i3, ?_⟩⟩
  · unfold kindOf
    rw [if_pos (dig_num h), i1]
  · rw [List.all_eq_true] at i2 ⊢
    intro x hx
    unfold alnumB
    rw [i2 x hx, Bool.or_true]
/-- The text of numbers, each with a blank behind it, and its tokens. -/
def numsG (l : List Nat) : List UInt8 := l.flatMap fun n => digG n ++ [32]
def ntoks (p : Nat) : List Nat → List Tok
  | [] => []
  | n :: l => ⟨1, digG n, n, p⟩ :: ntoks (p + (digG n).length + 1) l
theorem lex_nums : ∀ (l : List Nat) (p : Nat), (∀ n ∈ l, n ≤ 1099511627776) → lexG p (numsG l) = .ok (ntoks p l)
  | [], p, _ => lexG_nil p
  | n :: l, p, h => by
    have e : numsG (n :: l) = digG n ++ (32 :: numsG l) := by simp [numsG]
    rw [e, lexG_tok (dig_ok (h n (by simp))) (fun _ => .inr ⟨32, _, rfl, by decide⟩), lexG_white (by decide), lex_nums l _ fun x hx => h x (List.mem_cons_of_mem _ hx)]
    rfl
theorem ntoks_len : ∀ (l : List Nat) (p : Nat), (ntoks p l).length = l.length
  | [], _ => rfl
  | n :: l, p => by simp only [ntoks, List.length_cons, ntoks_len l]
theorem ntoks_get : ∀ (l : List Nat) (p i : Nat) (t : Tok), (ntoks p l)[i]? = some t → t.kind = 1 ∧ ∃ n, l[i]? = some n ∧ t.num = n
  | [], _, _, _, h => by simp [ntoks] at h
  | n :: l, p, 0, t, h => by
    simp only [ntoks, List.getElem?_cons_zero, Option.some.injEq] at h
    subst h
    exact ⟨rfl, n, rfl, rfl⟩
  | n :: l, p, i + 1, t, h => by
    simp only [ntoks, List.getElem?_cons_succ] at h
    exact ntoks_get l _ i t h
end Go.Proofs.YtioalnncjahlnaaGreatDoor

namespace Go.Proofs.YtioalnncjahlnaaGreatDoor

/-- May a part not be, by itself? -/
def badP (x : Prt) : Bool := if x.kind = 0 then decide (x.kids ≠ 0 ∨ x.n = 0 ∨ 4096 < x.n ∨ x.g = 0 ∨ x.n < x.g ∨ x.n % x.g ≠ 0 ∨ x.d < 1 ∨ 4096 < x.d) else decide (4 < x.kind ∨ x.kids < 1 ∨ 16 < x.kids ∨ x.n ≠ 0 ∨ x.g ≠ 0 ∨ x.d ≠ 0)
theorem bad_kids {x : Prt} (h : badP x = false) : 0 ≤ x.kids ∧ x.kids ≤ 16 := by
  unfold badP at h
  split at h
  · have := of_decide_eq_false h; omega
  · have := of_decide_eq_false h; omega
/-- What stands against a term at a place. -/
def stopS (l : List Prt) (p deep ink : Nat) : Option (Nat × Int) := match l[p]? with
  | none => some (p, 81)
  | some x => if 64 ≤ p ∨ badP x = true ∨ (ink = 2 ∧ x.kind ≠ 0) then some (p, 81) else if 8 < deep then some (p, 80) else none
/-- So many terms beside each other, from a place on: where they end; or where, and why, one may not be. -/
def rdS : Nat → List Prt → Nat → Nat → Nat → Nat → Except (Nat × Int) Nat
  | _, _, p, _, _, 0 => .ok p
  | 0, _, p, _, _, _ + 1 => .error (p, 81)
  | m + 1, l, p, deep, ink, n + 1 => match stopS l p deep ink with
    | some e => .error e
    | none => match rdS m l (p + 1) (deep + 1) (l.getD p ⟨0, 0, 0, 0, 0⟩).kind (l.getD p ⟨0, 0, 0, 0, 0⟩).kids.toNat with
      | .error e => .error e
      | .ok q => rdS m l q deep ink n
theorem rd_zero (m : Nat) (l : List Prt) (p deep ink : Nat) : rdS m l p deep ink 0 = .ok p := by cases m <;> rfl
theorem rd_cons (m : Nat) (l : List Prt) (p deep ink n : Nat) : rdS (m + 1) l p deep ink (n + 1) = match stopS l p deep ink with
    | some e => .error e
    | none => match rdS m l (p + 1) (deep + 1) (l.getD p ⟨0, 0, 0, 0, 0⟩).kind (l.getD p ⟨0, 0, 0, 0, 0⟩).kids.toNat with
      | .error e => .error e
      | .ok q => rdS m l q deep ink n := rfl
theorem stop_out {l : List Prt} {p deep ink : Nat} (h : l.length ≤ p) : stopS l p deep ink = some (p, 81) := by
  unfold stopS
  rw [List.getElem?_eq_none h]
theorem stop_none {l : List Prt} {p deep ink : Nat} (h : stopS l p deep ink = none) : p < l.length ∧ p < 64 ∧ badP (l.getD p ⟨0, 0, 0, 0, 0⟩) = false ∧ (ink = 2 → (l.getD p ⟨0, 0, 0, 0, 0⟩).kind = 0) ∧ deep ≤ 8 := by
  unfold stopS at h
  cases hx : l[p]? with
  | none => rw [hx] at h; cases h
  | some x =>
    have hlt := (List.getElem?_eq_some_iff.1 hx).1
    have e : l.getD p ⟨0, 0, 0, 0, 0⟩ = x := by rw [List.getD_eq_getElem?_getD, hx]; rfl
    rw [hx] at h
    simp only at h
    split at h
    · cases h
    · rename_i h1
      split at h
      · cases h
      · rename_i h2
        rw [e]
        refine ⟨hlt, ?_, ?_, ?_, by omega⟩
        · exact Nat.lt_of_not_le fun c => h1 (.inl c)
        · cases hb : badP x
          · rfl
          · exact absurd (.inr (.inl hb)) h1
        · intro hi
          by_cases c : x.kind = 0
          · exact c
          · exact absurd (.inr (.inr ⟨hi, c⟩)) h1
theorem rd_gt : ∀ (m : Nat) (l : List Prt) (p deep ink n e : Nat), rdS m l p deep ink n = .ok e → p + n ≤ e ∧ (0 < n → e ≤ l.length)
  | m, l, p, deep, ink, 0, e, h => by rw [rd_zero] at h; cases h; exact ⟨Nat.le_refl _, fun h => by omega⟩
  | 0, l, p, deep, ink, n + 1, e, h => by cases h
  | m + 1, l, p, deep, ink, n + 1, e, h => by
    rw [rd_cons] at h
    cases hs : stopS l p deep ink with
    | some x => rw [hs] at h; cases h
    | none =>
      rw [hs] at h
      simp only at h
      have hp := (stop_none hs).1
      cases hk : rdS m l (p + 1) (deep + 1) (l.getD p ⟨0, 0, 0, 0, 0⟩).kind (l.getD p ⟨0, 0, 0, 0, 0⟩).kids.toNat with
      | error x => rw [hk] at h; cases h
      | ok q =>
        rw [hk] at h
        simp only at h
        have h1 := rd_gt m l (p + 1) _ _ _ q hk
        have h2 := rd_gt m l q deep ink n e h
        refine ⟨by omega, fun _ => ?_⟩
        by_cases c : 0 < n
        · exact h2.2 c
        · obtain rfl : n = 0 := by omega
          rw [rd_zero] at h
          cases h
          by_cases c2 : 0 < (l.getD p ⟨0, 0, 0, 0, 0⟩).kids.toNat
          · exact h1.2 c2
          · rw [show (l.getD p ⟨0, 0, 0, 0, 0⟩).kids.toNat = 0 by omega, rd_zero] at hk
            cases hk
            omega
/-- Steps enough are enough. -/
theorem rd_fuel : ∀ (m m' : Nat) (l : List Prt) (p deep ink n : Nat), l.length + 1 - p ≤ m → l.length + 1 - p ≤ m' → 0 < m → 0 < m' → rdS m l p deep ink n = rdS m' l p deep ink n
  | m, m', l, p, deep, ink, 0, _, _, _, _ => by rw [rd_zero, rd_zero]
  | 0, _, _, _, _, _, n + 1, _, _, h, _ => by omega
  | _, 0, _, _, _, _, n + 1, _, _, _, h => by omega
  | m + 1, m' + 1, l, p, deep, ink, n + 1, h1, h2, _, _ => by
    rw [rd_cons, rd_cons]
    cases hs : stopS l p deep ink with
    | some x => rfl
    | none =>
      simp only
      have hp := (stop_none hs).1
      have e1 := rd_fuel m m' l (p + 1) (deep + 1) (l.getD p ⟨0, 0, 0, 0, 0⟩).kind (l.getD p ⟨0, 0, 0, 0, 0⟩).kids.toNat (by omega) (by omega) (by omega) (by omega)
      rw [e1]
      cases hk : rdS m' l (p + 1) (deep + 1) (l.getD p ⟨0, 0, 0, 0, 0⟩).kind (l.getD p ⟨0, 0, 0, 0, 0⟩).kids.toNat with
      | error x => rfl
      | ok q =>
        have h3 := rd_gt m' l (p + 1) _ _ _ q hk
        exact rd_fuel m m' l q deep ink n (by omega) (by omega) (by omega) (by omega)
/-- One term, and the others. -/
theorem rd_one {m : Nat} {l : List Prt} {p deep ink n : Nat} (h1 : l.length + 1 - p ≤ m) (h0 : 0 < m) : rdS m l p deep ink (n + 1) = match rdS m l p deep ink 1 with
    | .error e => .error e
    | .ok q => rdS m l q deep ink n := by
  obtain ⟨m, rfl⟩ : ∃ k, m = k + 1 := ⟨m - 1, by omega⟩
  rw [rd_cons, rd_cons]
  cases hs : stopS l p deep ink with
  | some x => rfl
  | none =>
    simp only
    have hp := (stop_none hs).1
    cases hk : rdS m l (p + 1) (deep + 1) (l.getD p ⟨0, 0, 0, 0, 0⟩).kind (l.getD p ⟨0, 0, 0, 0, 0⟩).kids.toNat with
    | error x => rfl
    | ok q =>
      have h3 := rd_gt m l (p + 1) _ _ _ q hk
      simp only [rd_zero]
      exact rd_fuel m (m + 1) l q deep ink n (by omega) (by omega) (by omega) (by omega)
theorem rd_open {l : List Prt} {p deep ink : Nat} (h : stopS l p deep ink = none) : rdS (l.length + 1) l p deep ink 1 = rdS (l.length + 1) l (p + 1) (deep + 1) (l.getD p ⟨0, 0, 0, 0, 0⟩).kind (l.getD p ⟨0, 0, 0, 0, 0⟩).kids.toNat := by
  have hp := (stop_none h).1
  rw [rd_cons, h]
  simp only [rd_zero]
  rw [rd_fuel l.length (l.length + 1) l (p + 1) (deep + 1) _ _ (by omega) (by omega) (by omega) (by omega)]
  split
  · rename_i e he; rw [he]
  · rename_i q he; rw [he]
theorem rd_stop {l : List Prt} {p deep ink : Nat} {e : Nat × Int} (h : stopS l p deep ink = some e) : rdS (l.length + 1) l p deep ink 1 = .error e := by
  rw [rd_cons, h]
theorem stop_shape {l : List Prt} {p deep ink : Nat} (h : p < l.length) (h2 : 64 ≤ p ∨ badP (l.getD p ⟨0, 0, 0, 0, 0⟩) = true ∨ (ink = 2 ∧ (l.getD p ⟨0, 0, 0, 0, 0⟩).kind ≠ 0)) : stopS l p deep ink = some (p, 81) := by
  unfold stopS
  rw [List.getElem?_eq_getElem h]
  rw [List.getD_eq_getElem?_getD, List.getElem?_eq_getElem h] at h2
  exact if_pos h2
theorem stop_deep {l : List Prt} {p deep ink : Nat} (h : p < l.length) (h2 : ¬ (64 ≤ p ∨ badP (l.getD p ⟨0, 0, 0, 0, 0⟩) = true ∨ (ink = 2 ∧ (l.getD p ⟨0, 0, 0, 0, 0⟩).kind ≠ 0))) : stopS l p deep ink = if 8 < deep then some (p, 80) else none := by
  unfold stopS
  rw [List.getElem?_eq_getElem h]
  rw [List.getD_eq_getElem?_getD, List.getElem?_eq_getElem h] at h2
  exact if_neg h2
/-- The three numbers that read hands back. -/
def rdT : Except (Nat × Int) Nat → Nat × Nat × Int
  | .ok e => (e, 0, 0)
  | .error x => (0, x.1, x.2)
/-- Why parts may not be, and where. -/
def treeS (l : List Prt) : Nat × Int := match rdS (l.length + 1) l 0 1 0 1 with
  | .error x => x
  | .ok e => if e < l.length then (e, 81) else (0, 0)
def chkS (fr to' : Int) (l : List Prt) : Int × Int := if fr < 0 ∨ to' ≤ fr ∨ 1099511627776 < to' ∨ 4096 < to' - fr then (-1, 82) else ((treeS l).1, (treeS l).2)
/-- Where what is below a part ends. -/
def endS (l : List Prt) (p : Nat) : Nat := (rdT (rdS (l.length + 1) l p 1 0 1)).1
def kidsGo (l : List Prt) : Nat → Nat → List Nat
  | 0, _ => []
  | n + 1, p => p :: kidsGo l n (endS l p)
def kidsS (l : List Prt) (p : Nat) : List Nat := kidsGo l (l.getD p ⟨0, 0, 0, 0, 0⟩).kids.toNat (p + 1)
def depthS (l : List Prt) (p : Nat) : Nat := ((List.range (p + 1)).filter fun i => decide (p < endS l i)).length
def mayS (l : List Prt) (z : Int) : Int := if (treeS l).2 ≠ 0 then 81 else if z < 0 ∨ (l.length : Int) ≤ z then 2 else 0
def atomsS8 (l : List Prt) : List Nat := (List.range l.length).filter fun i => decide ((l.getD i ⟨0, 0, 0, 0, 0⟩).kind = 0)
theorem stop_err {l : List Prt} {p deep ink : Nat} {e : Nat × Int} (h : stopS l p deep ink = some e) : e.2 = 81 ∨ e.2 = 80 := by
  unfold stopS at h
  split at h
  · cases h; exact .inl rfl
  · split at h
    · cases h; exact .inl rfl
    · split at h
      · cases h; exact .inr rfl
      · cases h
theorem rd_err : ∀ (m : Nat) (l : List Prt) (p deep ink n : Nat) (e : Nat × Int), rdS m l p deep ink n = .error e → e.2 = 81 ∨ e.2 = 80
  | m, l, p, deep, ink, 0, e, h => by rw [rd_zero] at h; cases h
  | 0, l, p, deep, ink, n + 1, e, h => by cases h; exact .inl rfl
  | m + 1, l, p, deep, ink, n + 1, e, h => by
    rw [rd_cons] at h
    cases hs : stopS l p deep ink with
    | some x => rw [hs] at h; cases h; exact stop_err hs
    | none =>
      rw [hs] at h
      simp only at h
      cases hk : rdS m l (p + 1) (deep + 1) (l.getD p ⟨0, 0, 0, 0, 0⟩).kind (l.getD p ⟨0, 0, 0, 0, 0⟩).kids.toNat with
      | error x => rw [hk] at h; cases h; exact rd_err m l _ _ _ _ _ hk
      | ok q => rw [hk] at h; exact rd_err m l _ _ _ _ _ h
end Go.Proofs.YtioalnncjahlnaaGreatDoor

namespace Go.Proofs.YtioalnncjahlnaaGreatDoor

theorem rd_fine : ∀ (m : Nat) (l : List Prt) (p deep ink n e : Nat), rdS m l p deep ink n = .ok e → ∀ i, p ≤ i → i < e → badP (l.getD i ⟨0, 0, 0, 0, 0⟩) = false ∧ i < 64
  | m, l, p, deep, ink, 0, e, h, i, h1, h2 => by rw [rd_zero] at h; cases h; omega
  | 0, l, p, deep, ink, n + 1, e, h, i, h1, h2 => by cases h
  | m + 1, l, p, deep, ink, n + 1, e, h, i, h1, h2 => by
    rw [rd_cons] at h
    cases hs : stopS l p deep ink with
    | some x => rw [hs] at h; cases h
    | none =>
      rw [hs] at h
      simp only at h
      have hp := stop_none hs
      cases hk : rdS m l (p + 1) (deep + 1) (l.getD p ⟨0, 0, 0, 0, 0⟩).kind (l.getD p ⟨0, 0, 0, 0, 0⟩).kids.toNat with
      | error x => rw [hk] at h; cases h
      | ok q =>
        rw [hk] at h
        simp only at h
        by_cases c : i = p
        · rw [c]; exact ⟨hp.2.2.1, hp.2.1⟩
        · by_cases c2 : i < q
          · exact rd_fine m l _ _ _ _ _ hk i (by omega) c2
          · exact rd_fine m l _ _ _ _ _ h i (by omega) h2
/-- What a definition that may be says of its parts. -/
theorem tree_fine {l : List Prt} (h : (treeS l).2 = 0) : rdS (l.length + 1) l 0 1 0 1 = .ok l.length := by
  unfold treeS at h
  cases hr : rdS (l.length + 1) l 0 1 0 1 with
  | error x =>
    rw [hr] at h
    rcases rd_err _ _ _ _ _ _ _ hr with e | e <;> rw [e] at h <;> cases h
  | ok e =>
    rw [hr] at h
    simp only at h
    have := (rd_gt _ _ _ _ _ _ _ hr).2 (by omega)
    split at h
    · cases h
    · rw [show e = l.length by omega]
theorem may_tree {l : List Prt} {z : Int} (h : mayS l z = 0) : (treeS l).2 = 0 ∧ 0 ≤ z ∧ z < (l.length : Int) := by
  unfold mayS at h
  split at h
  · cases h
  · rename_i h0
    split at h
    · cases h
    · exact ⟨Decidable.not_not.1 h0, by omega, by omega⟩
theorem tree_part {l : List Prt} (h : (treeS l).2 = 0) {i : Nat} (hi : i < l.length) : badP (l.getD i ⟨0, 0, 0, 0, 0⟩) = false ∧ i < 64 := rd_fine _ _ _ _ _ _ _ (tree_fine h) i (Nat.zero_le _) hi
theorem tree_kids {l : List Prt} (h : (treeS l).2 = 0) {i : Nat} (hi : i < l.length) : 0 ≤ (l.getD i ⟨0, 0, 0, 0, 0⟩).kids ∧ (l.getD i ⟨0, 0, 0, 0, 0⟩).kids ≤ 16 := bad_kids (tree_part h hi).1
/-- A definition of one atom. -/
theorem atom_chk (n g : Nat) (d : Int) : chkS 0 4096 [⟨0, n, g, d, 0⟩] = (0, if badP ⟨0, n, g, d, 0⟩ = true then 81 else 0) := by
  have ht : treeS [⟨0, n, g, d, 0⟩] = (0, if badP ⟨0, n, g, d, 0⟩ = true then 81 else 0) := by
    unfold treeS
    cases hb : badP ⟨0, n, g, d, 0⟩ with
    | true =>
      have hs : stopS [⟨0, n, g, d, 0⟩] 0 1 0 = some (0, 81) := stop_shape (by simp) (.inr (.inl hb))
      rw [rd_stop hs]
      rfl
    | false =>
      have hs : stopS [⟨0, n, g, d, 0⟩] 0 1 0 = none := by
        rw [stop_deep (by simp) (by
          rintro (h | h | h)
          · omega
          · rw [show ([⟨0, n, g, d, 0⟩] : List Prt).getD 0 ⟨0, 0, 0, 0, 0⟩ = ⟨0, n, g, d, 0⟩ from rfl, hb] at h; cases h
          · omega)]
        rfl
      rw [rd_open hs]
      have : (([⟨0, n, g, d, 0⟩] : List Prt).getD 0 ⟨0, 0, 0, 0, 0⟩).kids.toNat = 0 := rfl
      rw [this, rd_zero]
      simp
  unfold chkS
  rw [if_neg (by omega), ht]
  rfl
theorem badP_atom (n g : Nat) (d : Int) : badP ⟨0, n, g, d, 0⟩ = decide (n = 0 ∨ 4096 < n ∨ g = 0 ∨ n < g ∨ n % g ≠ 0 ∨ d < 1 ∨ 4096 < d) := by
  unfold badP
  rw [if_pos rfl]
  simp
/-- Where a row of gangs that has reached a number is it. -/
theorem gangs_meet {n g j : Nat} (hg : 0 < g) (h1 : n ≤ j * g) (h2 : j * g < n + g) : (j * g = n ↔ n % g = 0) := by
  constructor
  · intro h; rw [← h]; exact Nat.mul_mod_left j g
  · intro h
    obtain ⟨q, rfl⟩ : ∃ q, n = q * g := ⟨n / g, by have := Nat.div_add_mod n g; rw [h, Nat.add_zero, Nat.mul_comm] at this; exact this.symm⟩
    have a : q ≤ j := Nat.le_of_mul_le_mul_right h1 hg
    have b : j < q + 1 := by
      have : j * g < (q + 1) * g := by rw [Nat.succ_mul]; exact h2
      exact Nat.lt_of_mul_lt_mul_right this
    rw [show j = q by omega]
end Go.Proofs.YtioalnncjahlnaaGreatDoor

namespace Go.Proofs.YtioalnncjahlnaaGreatDoor

theorem stop_same {l l' : List Prt} {p : Nat} (h : l'[p]? = l[p]?) (deep ink : Nat) : stopS l' p deep ink = stopS l p deep ink := by
  unfold stopS; rw [h]
theorem getD_same {l l' : List Prt} {p : Nat} (h : l'[p]? = l[p]?) : l'.getD p ⟨0, 0, 0, 0, 0⟩ = l.getD p ⟨0, 0, 0, 0, 0⟩ := by
  rw [List.getD_eq_getElem?_getD, List.getD_eq_getElem?_getD, h]
theorem lt_same {l l' : List Prt} {p : Nat} (h : l'[p]? = l[p]?) (hp : p < l.length) : p < l'.length := by
  rw [List.getElem?_eq_getElem hp] at h
  exact (List.getElem?_eq_some_iff.1 h).1
/-- What lies behind what is read is of no matter. -/
theorem rd_ext : ∀ (m m' : Nat) (l l' : List Prt) (p deep ink n e : Nat), rdS m l p deep ink n = .ok e → (∀ i, i < e → l'[i]? = l[i]?) → l'.length + 1 - p ≤ m' → 0 < m' → rdS m' l' p deep ink n = .ok e
  | m, m', l, l', p, deep, ink, 0, e, h, _, _, _ => by rw [rd_zero] at h ⊢; exact h
  | 0, m', l, l', p, deep, ink, n + 1, e, h, _, _, _ => by cases h
  | m + 1, 0, l, l', p, deep, ink, n + 1, e, h, _, _, h0 => by omega
  | m + 1, m' + 1, l, l', p, deep, ink, n + 1, e, h, hs, hm, _ => by
    have hgt := rd_gt _ _ _ _ _ _ _ h
    have hp := hs p (by omega)
    rw [rd_cons] at h ⊢
    rw [stop_same hp, getD_same hp]
    cases hst : stopS l p deep ink with
    | some x => rw [hst] at h; cases h
    | none =>
      rw [hst] at h
      simp only at h ⊢
      have hpl := lt_same hp (stop_none hst).1
      cases hk : rdS m l (p + 1) (deep + 1) (l.getD p ⟨0, 0, 0, 0, 0⟩).kind (l.getD p ⟨0, 0, 0, 0, 0⟩).kids.toNat with
      | error x => rw [hk] at h; cases h
      | ok q =>
        rw [hk] at h
        simp only at h
        have h1 := rd_gt _ _ _ _ _ _ _ hk
        have h2 := rd_gt _ _ _ _ _ _ _ h
        rw [rd_ext m m' l l' _ _ _ _ _ hk (fun i hi => hs i (by omega)) (by omega) (by omega)]
        exact rd_ext m m' l l' _ _ _ _ _ h hs (by omega) (by omega)
/-- Parts that end too early may not be, where they end. -/
theorem rd_cut : ∀ (m m' : Nat) (l l' : List Prt) (p deep ink n e q : Nat), rdS m l p deep ink n = .ok e → (∀ i, i < q → l'[i]? = l[i]?) → l'.length = q → p ≤ q → q < e → l'.length + 1 - p ≤ m' → 0 < m' → rdS m' l' p deep ink n = .error (q, 81)
  | m, m', l, l', p, deep, ink, 0, e, q, h, _, _, h1, h2, _, _ => by rw [rd_zero] at h; cases h; omega
  | 0, m', l, l', p, deep, ink, n + 1, e, q, h, _, _, _, _, _, _ => by cases h
  | m + 1, 0, l, l', p, deep, ink, n + 1, e, q, h, _, _, _, _, _, h0 => by omega
  | m + 1, m' + 1, l, l', p, deep, ink, n + 1, e, q, h, hs, hl, h1, h2, hm, _ => by
    by_cases hpq : p = q
    · rw [rd_cons, stop_out (by omega), hpq]
    · have hp := hs p (by omega)
      rw [rd_cons] at h ⊢
      rw [stop_same hp, getD_same hp]
      cases hst : stopS l p deep ink with
      | some x => rw [hst] at h; cases h
      | none =>
        rw [hst] at h
        simp only at h ⊢
        cases hk : rdS m l (p + 1) (deep + 1) (l.getD p ⟨0, 0, 0, 0, 0⟩).kind (l.getD p ⟨0, 0, 0, 0, 0⟩).kids.toNat with
        | error x => rw [hk] at h; cases h
        | ok q1 =>
          rw [hk] at h
          simp only at h
          by_cases c : q < q1
          · rw [rd_cut m m' l l' _ _ _ _ _ q hk hs hl (by omega) c (by omega) (by omega)]
          · have h3 := rd_gt _ _ _ _ _ _ _ hk
            rw [rd_ext m m' l l' _ _ _ _ _ hk (fun i hi => hs i (by omega)) (by omega) (by omega)]
            exact rd_cut m m' l l' _ _ _ _ _ q h hs hl (by omega) h2 (by omega) (by omega)
/-- What Check says of a definition that may be. -/
theorem chk_ok {fr to' : Int} {l : List Prt} (h : (chkS fr to' l).2 = 0) : chkS fr to' l = (0, 0) ∧ ¬ (fr < 0 ∨ to' ≤ fr ∨ 1099511627776 < to' ∨ 4096 < to' - fr) ∧ (treeS l).2 = 0 ∧ 0 < l.length ∧ l.length ≤ 64 := by
  have hw : ¬ (fr < 0 ∨ to' ≤ fr ∨ 1099511627776 < to' ∨ 4096 < to' - fr) := fun c => by unfold chkS at h; rw [if_pos c] at h; cases h
  have ht : (treeS l).2 = 0 := by unfold chkS at h; rw [if_neg hw] at h; exact h
  have hr := tree_fine ht
  have hl := rd_gt _ _ _ _ _ _ _ hr
  have hz : treeS l = (0, 0) := by unfold treeS; rw [hr]; simp
  have h64 : l.length ≤ 64 := by
    by_cases c : l.length ≤ 64
    · exact c
    · have := (rd_fine _ _ _ _ _ _ _ hr 64 (by omega) (by omega)).2
      omega
  refine ⟨?_, hw, ht, by omega, h64⟩
  unfold chkS
  rw [if_neg hw, hz]
  rfl
theorem chk_win {fr to' : Int} {l : List Prt} (ht : (treeS l).2 = 0) (h : 0 ≤ fr ∧ fr < to' ∧ to' ≤ 1099511627776 ∧ to' - fr ≤ 4096) : chkS fr to' l = (0, 0) := by
  have hr := tree_fine ht
  have hz : treeS l = (0, 0) := by unfold treeS; rw [hr]; simp
  unfold chkS
  rw [if_neg (by omega), hz]
  rfl
theorem chk_nowin {fr to' : Int} {l : List Prt} (h : fr < 0 ∨ to' ≤ fr ∨ 1099511627776 < to' ∨ 4096 < to' - fr) : chkS fr to' l = (-1, 82) := by
  unfold chkS; rw [if_pos h]
theorem chk_more {fr to' : Int} {l : List Prt} (h : (chkS fr to' l).2 = 0) (x : Prt) : chkS fr to' (l ++ [x]) = (((l.length : Nat) : Int), 81) := by
  obtain ⟨_, hw, ht, _, _⟩ := chk_ok h
  have hr := rd_ext _ ((l ++ [x]).length + 1) l (l ++ [x]) 0 1 0 1 _ (tree_fine ht) (fun i hi => List.getElem?_append_left hi) (by omega) (by omega)
  have hz : treeS (l ++ [x]) = (l.length, 81) := by unfold treeS; rw [hr]; simp
  unfold chkS
  rw [if_neg hw, hz]
theorem chk_less {fr to' : Int} {l : List Prt} (h : (chkS fr to' l).2 = 0) : chkS fr to' (l.take (l.length - 1)) = (((l.length - 1 : Nat) : Int), 81) := by
  obtain ⟨_, hw, ht, h0, _⟩ := chk_ok h
  have hlen : (l.take (l.length - 1)).length = l.length - 1 := by rw [List.length_take]; omega
  have hr := rd_cut _ ((l.take (l.length - 1)).length + 1) l (l.take (l.length - 1)) 0 1 0 1 _ (l.length - 1) (tree_fine ht) (fun i hi => by rw [List.getElem?_take, if_pos hi]) hlen (by omega) (by omega) (by omega) (by omega)
  have hz : treeS (l.take (l.length - 1)) = (l.length - 1, 81) := by unfold treeS; rw [hr]
  unfold chkS
  rw [if_neg hw, hz]
end Go.Proofs.YtioalnncjahlnaaGreatDoor

namespace Go.Proofs.YtioalnncjahlnaaGreatDoor

def lexF : Nat → Nat → List UInt8 → Except Nat (List Tok)
  | _, _, [] => .ok []
  | 0, _, _ :: _ => .error 0
  | n + 1, p, c :: r =>
    if whiteB c then lexF n (p + 1) r
    else if alnumB c then
      match kindOf (c :: r.takeWhile alnumB) with
      | none => .error p
      | some (k, m) => (lexF n (p + 1 + (r.takeWhile alnumB).length) (r.dropWhile alnumB)).map (⟨k, c :: r.takeWhile alnumB, m, p⟩ :: ·)
    else
      match kindOf [c] with
      | none => .error p
      | some (k, m) => (lexF n (p + 1) r).map (⟨k, [c], m, p⟩ :: ·)
theorem lexF_eq : ∀ (n p : Nat) (s : List UInt8), s.length ≤ n → lexF n p s = lexG p s
  | n, p, [], _ => by rw [lexG_nil]; cases n <;> rfl
  | 0, _, c :: r, h => by simp at h
  | n + 1, p, c :: r, h => by
    simp only [List.length_cons] at h
    rw [lexF, lexG]
    have hd := (List.dropWhile_sublist alnumB (l := r)).length_le
    rw [lexF_eq n (p + 1) r (by omega), lexF_eq n _ (r.dropWhile alnumB) (by omega)]
    all_goals
      split
      · rfl
      · split
        · cases kindOf (c :: r.takeWhile alnumB) <;> rfl
        · cases kindOf [c] <;> rfl
/-- The first text of the document's examples. -/
def hd1 : List UInt8 := [40, 97, 116, 111, 109, 32, 50, 32, 49, 32, 49, 48, 41]
def hd1T : List Tok := [⟨2, [40], 0, 0⟩, ⟨0, [97, 116, 111, 109], 0, 1⟩, ⟨1, [50], 2, 6⟩, ⟨1, [49], 1, 8⟩, ⟨1, [49, 48], 10, 10⟩, ⟨3, [41], 0, 12⟩]
theorem hd1_lex : lexG 0 hd1 = .ok hd1T := (lexF_eq 13 0 hd1 (by decide)).symm.trans rfl
theorem hd1_text : textG hd1T = hd1 := rfl
def hd2 : List UInt8 := [102, 114, 111, 109, 32, 48, 32, 116, 111, 32, 57, 58, 32, 120]
def hd2T : List Tok := [⟨0, [102, 114, 111, 109], 0, 0⟩, ⟨1, [48], 0, 5⟩, ⟨0, [116, 111], 0, 7⟩, ⟨1, [57], 9, 10⟩, ⟨4, [58], 0, 11⟩, ⟨0, [120], 0, 13⟩]
theorem hd2_lex : lexG 0 hd2 = .ok hd2T := (lexF_eq 14 0 hd2 (by decide)).symm.trans rfl
theorem hd2_text : textG hd2T = hd2 := rfl
theorem hd3_lex : lexG 0 [97, 49] = .error 0 := (lexF_eq 2 0 _ (by decide)).symm.trans rfl
theorem hd4_lex : lexG 0 [48, 55] = .error 0 := (lexF_eq 2 0 _ (by decide)).symm.trans rfl
theorem hd5_lex : lexG 0 [49, 48, 57, 57, 53, 49, 49, 54, 50, 55, 55, 55, 55] = .error 0 := (lexF_eq 13 0 _ (by decide)).symm.trans rfl
theorem hd6_lex : lexG 0 [97, 32, 45, 32, 98] = .error 2 := (lexF_eq 5 0 _ (by decide)).symm.trans rfl
end Go.Proofs.YtioalnncjahlnaaGreatDoor

namespace Go.Proofs.YtioalnncjahlnaaGreatDoor

/-- Two places exchanged. -/
def sw (d : Nat → Nat) (i j : Nat) : Nat → Nat := fun k => if k = i then d j else if k = j then d i else d k

theorem sw_l (d : Nat → Nat) (i j : Nat) : sw d i j i = d j := by unfold sw; rw [if_pos rfl]
theorem sw_r (d : Nat → Nat) (i j : Nat) : sw d i j j = d i := by
  unfold sw
  by_cases h : j = i
  · rw [if_pos h, h]
  · rw [if_neg h, if_pos rfl]
theorem sw_o (d : Nat → Nat) (i j k : Nat) (h1 : k ≠ i) (h2 : k ≠ j) : sw d i j k = d k := by unfold sw; rw [if_neg h1, if_neg h2]

/-- d' is d, its places in [a, b) taken in another order. -/
def Mv (a b : Nat) (d d' : Nat → Nat) : Prop :=
  ∃ p q : Nat → Nat, (∀ k, d' k = d (p k)) ∧ (∀ k, p (q k) = k) ∧ (∀ k, q (p k) = k) ∧ (∀ k, (k < a ∨ b ≤ k) → p k = k)

theorem Mv.refl (a b : Nat) (d : Nat → Nat) : Mv a b d d := ⟨id, id, fun _ => rfl, fun _ => rfl, fun _ => rfl, fun _ _ => rfl⟩
theorem Mv.trans {a b : Nat} {d d' d'' : Nat → Nat} (h : Mv a b d d') (h' : Mv a b d' d'') : Mv a b d d'' := by
  obtain ⟨p, q, h1, h2, h3, h4⟩ := h
  obtain ⟨p', q', g1, g2, g3, g4⟩ := h'
  exact ⟨fun k => p (p' k), fun k => q' (q k), fun k => by rw [g1, h1], fun k => by simp only [g2, h2], fun k => by simp only [h3, g3], fun k hk => by show p (p' k) = k; rw [g4 k hk, h4 k hk]⟩
theorem Mv.mono {a b a' b' : Nat} {d d' : Nat → Nat} (h : Mv a b d d') (ha : a' ≤ a) (hb : b ≤ b') : Mv a' b' d d' := by
  obtain ⟨p, q, h1, h2, h3, h4⟩ := h
  exact ⟨p, q, h1, h2, h3, fun k hk => h4 k (by omega)⟩
theorem Mv.out {a b : Nat} {d d' : Nat → Nat} (h : Mv a b d d') (k : Nat) (hk : k < a ∨ b ≤ k) : d' k = d k := by
  obtain ⟨p, q, h1, _, _, h4⟩ := h
  rw [h1, h4 k hk]
theorem Mv.inn {a b : Nat} {d d' : Nat → Nat} (h : Mv a b d d') (k : Nat) (h0 : a ≤ k) (h1 : k < b) : ∃ k', a ≤ k' ∧ k' < b ∧ d' k = d k' := by
  obtain ⟨p, q, g1, g2, g3, g4⟩ := h
  refine ⟨p k, ?_⟩
  by_cases hp : p k < a ∨ b ≤ p k
  · have e := g4 _ hp
    have e2 : p k = k := by
      have := congrArg q e
      rw [g3, g3] at this; exact this
    omega
  · exact ⟨by omega, by omega, g1 k⟩
theorem Mv.back {a b : Nat} {d d' : Nat → Nat} (h : Mv a b d d') (k : Nat) (h0 : a ≤ k) (h1 : k < b) : ∃ k', a ≤ k' ∧ k' < b ∧ d k = d' k' := by
  obtain ⟨p, q, g1, g2, g3, g4⟩ := h
  refine ⟨q k, ?_⟩
  have e : d k = d' (q k) := by rw [g1, g2]
  by_cases hp : q k < a ∨ b ≤ q k
  · have e2 := g4 _ hp
    rw [g2] at e2
    omega
  · exact ⟨by omega, by omega, e⟩
theorem Mv.swap {a b : Nat} (d : Nat → Nat) (i j : Nat) (hi : a ≤ i ∧ i < b) (hj : a ≤ j ∧ j < b) : Mv a b d (sw d i j) := by
  have hp : ∀ k, (fun k => if k = i then j else if k = j then i else k) ((fun k => if k = i then j else if k = j then i else k) k) = k := by
    intro k
    show (if (if k = i then j else if k = j then i else k) = i then j else if (if k = i then j else if k = j then i else k) = j then i else (if k = i then j else if k = j then i else k)) = k
    by_cases h1 : k = i
    · simp [h1]
    · by_cases h2 : k = j
      · subst h2; simp [h1]
      · simp [h1, h2]
  refine ⟨fun k => if k = i then j else if k = j then i else k, fun k => if k = i then j else if k = j then i else k, ?_, hp, hp, ?_⟩
  · intro k
    unfold sw
    by_cases h1 : k = i
    · simp only [h1, if_true]
    · by_cases h2 : k = j
      · simp only [h2, if_true]
        by_cases h3 : j = i
        · rw [if_pos h3, if_pos h3, h3]
        · rw [if_neg h3, if_neg h3]
      · simp only [h1, h2, if_false]
  · intro k hk
    show (if k = i then j else if k = j then i else k) = k
    rw [if_neg (by omega), if_neg (by omega)]

section
variable (K : Nat → Int)
/-- Ahead, by the key, then by the number. -/
def Lx (x y : Nat) : Prop := K x < K y ∨ (K x = K y ∧ x < y)
/-- Where keys are alike the numbers rise: of the first n places. -/
def Inv (n : Nat) (d : Nat → Nat) : Prop := ∀ k k', k < k' → k' < n → K (d k) ≠ K (d k') ∨ d k < d k'
/-- [a, b) is in order. -/
def Srt (a b : Nat) (d : Nat → Nat) : Prop := ∀ k k', a ≤ k → k < k' → k' < b → Lx K (d k) (d k')
variable {K}

theorem Lx.trans {x y z : Nat} (h : Lx K x y) (h' : Lx K y z) : Lx K x z := by unfold Lx at *; omega
theorem Lx.of {x y : Nat} (h : K x < K y) : Lx K x y := Or.inl h
theorem Lx.le {x y : Nat} (h : Lx K x y) : K x ≤ K y := by unfold Lx at h; omega
theorem Inv.lx {n : Nat} {d : Nat → Nat} (h : Inv K n d) {k k' : Nat} (h1 : k < k') (h2 : k' < n) (h3 : ¬ K (d k') < K (d k)) : Lx K (d k) (d k') := by
  have := h k k' h1 h2
  unfold Lx; omega
theorem Srt.mono {a b a' b' : Nat} {d : Nat → Nat} (h : Srt K a b d) (ha : a ≤ a') (hb : b' ≤ b) : Srt K a' b' d := fun k k' h1 h2 h3 => h k k' (by omega) h2 (by omega)
theorem Srt.congr {a b : Nat} {d d' : Nat → Nat} (h : Srt K a b d) (e : ∀ k, a ≤ k → k < b → d' k = d k) : Srt K a b d' := fun k k' h1 h2 h3 => by
  rw [e k h1 (by omega), e k' (by omega) h3]; exact h k k' h1 h2 h3
theorem Srt.le {a b : Nat} {d : Nat → Nat} (h : Srt K a b d) {k k' : Nat} (h1 : a ≤ k) (h2 : k ≤ k') (h3 : k' < b) : K (d k) ≤ K (d k') := by
  rcases Nat.lt_or_ge k k' with h4 | h4
  · exact (h k k' h1 h4 h3).le
  · have : k = k' := by omega
    subst this; exact Int.le_refl _
theorem srt_one (a b : Nat) (d : Nat → Nat) (h : b ≤ a + 1) : Srt K a b d := fun k k' h1 h2 h3 => by omega

/-- Neighbours that stand wrongly, exchanged. -/
theorem Inv.swap {n : Nat} {d : Nat → Nat} (h : Inv K n d) (j : Nat) (hj : j + 1 < n) (hk : K (d (j + 1)) < K (d j)) : Inv K n (sw d j (j + 1)) := by
  intro k k' h1 h2
  by_cases e1 : k = j
  · subst e1
    rw [sw_l]
    by_cases e2 : k' = k + 1
    · subst e2; rw [sw_r]; omega
    · rw [sw_o _ _ _ _ (by omega) e2]; exact h _ _ (by omega) h2
  · by_cases e2 : k = j + 1
    · subst e2
      rw [sw_r, sw_o _ _ _ _ (by omega) (by omega)]; exact h _ _ (by omega) h2
    · rw [sw_o _ _ _ k e1 e2]
      by_cases e3 : k' = j
      · subst e3; rw [sw_l]; exact h _ _ (by omega) (by omega)
      · by_cases e4 : k' = j + 1
        · subst e4; rw [sw_r]; exact h _ _ (by omega) (by omega)
        · rw [sw_o _ _ _ _ e3 e4]; exact h _ _ h1 h2
theorem Inv.swap' {n : Nat} {d : Nat → Nat} (h : Inv K n d) (j : Nat) (hj : j + 1 < n) (hk : K (d (j + 1)) < K (d j)) : Inv K n (sw d (j + 1) j) := by
  have e : sw d (j + 1) j = sw d j (j + 1) := by
    funext k; unfold sw
    by_cases h1 : k = j
    · subst h1; simp
    · simp [h1]
  rw [e]; exact h.swap j hj hk

/-- An insertion under way: the one at j is still to go down. -/
def InsR (K : Nat → Int) (a i j : Nat) (d : Nat → Nat) : Prop := ∀ k k', a ≤ k → k < k' → k' ≤ i → k' ≠ j → Lx K (d k) (d k')
theorem InsR.start {a i : Nat} {d : Nat → Nat} (h : Srt K a i d) : InsR K a i i d := fun k k' h1 h2 h3 h4 => h k k' h1 h2 (by omega)
theorem InsR.step {a i j : Nat} {d : Nat → Nat} (h : InsR K a i (j + 1) d) (ha : a ≤ j) (hj : j + 1 ≤ i) (hk : K (d (j + 1)) < K (d j)) : InsR K a i j (sw d (j + 1) j) := by
  intro k k' h1 h2 h3 h4
  by_cases e1 : k' = j + 1
  · subst e1
    rw [sw_l]
    by_cases e2 : k = j
    · subst e2; rw [sw_r]; exact .of hk
    · rw [sw_o _ _ _ _ (by omega) e2]; exact h _ _ h1 (by omega) (by omega) (by omega)
  · rw [sw_o _ _ _ k' e1 h4]
    by_cases e2 : k = j + 1
    · subst e2; rw [sw_l]; exact h _ _ ha (by omega) h3 e1
    · by_cases e3 : k = j
      · subst e3; rw [sw_r]; exact h _ _ (by omega) (by omega) h3 e1
      · rw [sw_o _ _ _ _ e2 e3]; exact h _ _ h1 h2 h3 e1
theorem InsR.done {n a i j : Nat} {d : Nat → Nat} (h : InsR K a i j d) (hI : Inv K n d) (hn : i < n) (haj : a ≤ j) (hji : j ≤ i) (hs : j = a ∨ ¬ K (d j) < K (d (j - 1))) : Srt K a (i + 1) d := by
  intro k k' h1 h2 h3
  by_cases e : k' = j
  · subst e
    rcases hs with hs | hs
    · omega
    · have hl : Lx K (d (k' - 1)) (d k') := hI.lx (by omega) (by omega) hs
      by_cases e2 : k = k' - 1
      · rw [e2]; exact hl
      · exact (h k (k' - 1) h1 (by omega) (by omega) (by omega)).trans hl
  · exact h k k' h1 h2 (by omega) e

/-- One at k on its way up to the place below i. -/
structure BubU (K : Nat → Int) (a b k i : Nat) (d : Nat → Nat) : Prop where
  rest : ∀ x y, a ≤ x → x < y → y < b → x ≠ k → y ≠ k → Lx K (d x) (d y)
  low : ∀ x, a ≤ x → x < k → Lx K (d x) (d k)
  mid : ∀ y, k < y → y < i → K (d y) < K (d k)
  high : ∀ y, i ≤ y → k < y → y < b → Lx K (d k) (d y)
theorem BubU.start {n a b i : Nat} {d : Nat → Nat} (hI : Inv K n d) (hbn : b ≤ n) (h : Srt K (a + 1) b d) (_hi : i ≤ b) (h1 : ∀ y, a + 1 ≤ y → y < i → K (d y) < K (d a)) (h2 : ∀ y, i ≤ y → y < b → ¬ K (d y) < K (d a)) : BubU K a b a i d where
  rest := fun x y hx hxy hy hxa _ => h x y (by omega) hxy hy
  low := fun x hx hx' => by omega
  mid := fun y hy hyi => h1 y (by omega) hyi
  high := fun y hy hay hyb => hI.lx (by omega) (by omega) (h2 y hy hyb)
theorem BubU.step {a b k i : Nat} {d : Nat → Nat} (h : BubU K a b k i d) (hak : a ≤ k) (hk : k + 1 < i) (hib : i ≤ b) : BubU K a b (k + 1) i (sw d k (k + 1)) where
  rest := fun x y hx hxy hy h1 h2 => by
    by_cases e1 : x = k
    · subst e1
      rw [sw_l, sw_o _ _ _ _ (by omega) h2]; exact h.rest _ _ (by omega) (by omega) hy (by omega) (by omega)
    · rw [sw_o _ _ _ x e1 h1]
      by_cases e2 : y = k
      · subst e2; rw [sw_l]; exact h.rest _ _ hx (by omega) (by omega) e1 (by omega)
      · rw [sw_o _ _ _ _ e2 h2]; exact h.rest _ _ hx hxy hy e1 e2
  low := fun x hx hx' => by
    rw [sw_r]
    by_cases e1 : x = k
    · subst e1; rw [sw_l]; exact .of (h.mid _ (by omega) hk)
    · rw [sw_o _ _ _ _ e1 (by omega)]; exact h.low _ hx (by omega)
  mid := fun y hy hyi => by rw [sw_r, sw_o _ _ _ _ (by omega) (by omega)]; exact h.mid _ (by omega) hyi
  high := fun y hy hky hyb => by rw [sw_r, sw_o _ _ _ _ (by omega) (by omega)]; exact h.high _ hy (by omega) hyb
theorem BubU.done {a b k i : Nat} {d : Nat → Nat} (h : BubU K a b k i d) (hk : i ≤ k + 1) : Srt K a b d := fun x y hx hxy hy => by
  by_cases e1 : x = k
  · subst e1; exact h.high _ (by omega) hxy hy
  · by_cases e2 : y = k
    · subst e2; exact h.low _ hx hxy
    · exact h.rest _ _ hx hxy hy e1 e2

/-- One at k on its way down to i. -/
structure BubD (K : Nat → Int) (a b k i : Nat) (d : Nat → Nat) : Prop where
  rest : ∀ x y, a ≤ x → x < y → y < b → x ≠ k → y ≠ k → Lx K (d x) (d y)
  low : ∀ x, a ≤ x → x < i → x < k → Lx K (d x) (d k)
  mid : ∀ x, i ≤ x → x < k → K (d k) < K (d x)
  high : ∀ y, k < y → y < b → Lx K (d k) (d y)
theorem BubD.start {n a m i : Nat} {d : Nat → Nat} (hI : Inv K n d) (hbn : m < n) (h : Srt K a m d) (h1 : ∀ x, a ≤ x → x < i → x < m → ¬ K (d m) < K (d x)) (h2 : ∀ x, i ≤ x → x < m → K (d m) < K (d x)) : BubD K a (m + 1) m i d where
  rest := fun x y hx hxy hy hxm hym => h x y hx hxy (by omega)
  low := fun x hx hxi hxm => hI.lx hxm hbn (h1 x hx hxi hxm)
  mid := fun x hx hxm => h2 x hx hxm
  high := fun y hy hyb => by omega
theorem BubD.step {a b k i : Nat} {d : Nat → Nat} (h : BubD K a b (k + 1) i d) (hak : a ≤ i) (hk : i ≤ k) (hib : k + 1 < b) : BubD K a b k i (sw d (k + 1) k) where
  rest := fun x y hx hxy hy h1 h2 => by
    by_cases e1 : x = k + 1
    · subst e1
      rw [sw_l, sw_o _ _ _ _ (by omega) h2]; exact h.rest _ _ (by omega) (by omega) hy (by omega) (by omega)
    · rw [sw_o _ _ _ x e1 h1]
      by_cases e2 : y = k + 1
      · subst e2; rw [sw_l]; exact h.rest _ _ hx (by omega) (by omega) e1 (by omega)
      · rw [sw_o _ _ _ _ e2 h2]; exact h.rest _ _ hx hxy hy e1 e2
  low := fun x hx hxi hxk => by rw [sw_r, sw_o _ _ _ _ (by omega) (by omega)]; exact h.low _ hx hxi (by omega)
  mid := fun x hx hxk => by rw [sw_r, sw_o _ _ _ _ (by omega) (by omega)]; exact h.mid _ hx (by omega)
  high := fun y hy hyb => by
    rw [sw_r]
    by_cases e1 : y = k + 1
    · subst e1; rw [sw_l]; exact .of (h.mid _ hk (by omega))
    · rw [sw_o _ _ _ _ e1 (by omega)]; exact h.high _ (by omega) hyb
theorem BubD.done {a b k i : Nat} {d : Nat → Nat} (h : BubD K a b k i d) (hk : k ≤ i) : Srt K a b d := fun x y hx hxy hy => by
  by_cases e1 : x = k
  · subst e1; exact h.high _ hxy hy
  · by_cases e2 : y = k
    · subst e2; exact h.low _ hx (by omega) hxy
    · exact h.rest _ _ hx hxy hy e1 e2

/-- [s, m) and [m, e), exchanged as wholes. -/
def rot (d : Nat → Nat) (s m e : Nat) : Nat → Nat := fun k => if s ≤ k ∧ k < s + (e - m) then d (k + (m - s)) else if s + (e - m) ≤ k ∧ k < e then d (k - (e - m)) else d k
theorem rot_1 {d : Nat → Nat} {s m e k : Nat} (h : s ≤ k ∧ k < s + (e - m)) : rot d s m e k = d (k + (m - s)) := by unfold rot; rw [if_pos h]
theorem rot_2 {d : Nat → Nat} {s m e k : Nat} (h : s + (e - m) ≤ k ∧ k < e) : rot d s m e k = d (k - (e - m)) := by unfold rot; rw [if_neg (by omega), if_pos h]
theorem rot_3 {d : Nat → Nat} {s m e k : Nat} (h : k < s ∨ (e ≤ k ∧ s + (e - m) ≤ k)) : rot d s m e k = d k := by unfold rot; rw [if_neg (by omega), if_neg (by omega)]
theorem rot_none {d : Nat → Nat} {s m e : Nat} (hs : s ≤ m) (he : m ≤ e) (h : s = m ∨ e = m) : rot d s m e = d := by
  funext k
  unfold rot
  split
  · congr 1; omega
  · split
    · congr 1; omega
    · rfl
theorem Mv.rot (d : Nat → Nat) {s m e : Nat} (hs : s ≤ m) (he : m ≤ e) : Mv s e d (rot d s m e) := by
  refine ⟨fun k => if s ≤ k ∧ k < s + (e - m) then k + (m - s) else if s + (e - m) ≤ k ∧ k < e then k - (e - m) else k,
    fun k => if s ≤ k ∧ k < m then k + (e - m) else if m ≤ k ∧ k < e then k - (m - s) else k, ?_, ?_, ?_, ?_⟩
  · intro k
    unfold YtioalnncjahlnaaGreatDoor.rot
    dsimp only
    split
    · rfl
    · split <;> rfl
  · intro k; dsimp only; repeat' split
    all_goals omega
  · intro k; dsimp only; repeat' split
    all_goals omega
  · intro k hk; dsimp only; rw [if_neg (by omega), if_neg (by omega)]

/-- A rotation of what stands wrongly keeps the order of what is alike. -/
theorem Inv.rot {n s m e : Nat} {d : Nat → Nat} (h : Inv K n d) (hs : s ≤ m) (he : m ≤ e) (hn : e ≤ n) (hx : ∀ x y, s ≤ x → x < m → m ≤ y → y < e → K (d y) < K (d x)) : Inv K n (rot d s m e) := by
  intro k k' h1 h2
  by_cases c1 : s ≤ k ∧ k < s + (e - m)
  · rw [rot_1 c1]
    by_cases c2 : s ≤ k' ∧ k' < s + (e - m)
    · rw [rot_1 c2]; exact h _ _ (by omega) (by omega)
    · by_cases c3 : s + (e - m) ≤ k' ∧ k' < e
      · rw [rot_2 c3]
        have := hx (k' - (e - m)) (k + (m - s)) (by omega) (by omega) (by omega) (by omega)
        omega
      · rw [rot_3 (by omega)]; exact h _ _ (by omega) (by omega)
  · by_cases c2 : s + (e - m) ≤ k ∧ k < e
    · rw [rot_2 c2]
      by_cases c3 : s + (e - m) ≤ k' ∧ k' < e
      · rw [rot_2 c3]; exact h _ _ (by omega) (by omega)
      · rw [rot_3 (by omega)]; exact h _ _ (by omega) (by omega)
    · rw [rot_3 (k := k) (by omega)]
      by_cases c3 : s ≤ k' ∧ k' < s + (e - m)
      · rw [rot_1 c3]; exact h _ _ (by omega) (by omega)
      · by_cases c4 : s + (e - m) ≤ k' ∧ k' < e
        · rw [rot_2 c4]; exact h _ _ (by omega) (by omega)
        · rw [rot_3 (by omega)]; exact h _ _ (by omega) (by omega)

/-- A stretch of n places exchanged with another one. -/
def swr (d : Nat → Nat) (a b n : Nat) : Nat → Nat := fun k => if a ≤ k ∧ k < a + n then d (k + b - a) else if b ≤ k ∧ k < b + n then d (k + a - b) else d k
theorem swr_zero (d : Nat → Nat) (a b : Nat) : swr d a b 0 = d := by funext k; unfold swr; rw [if_neg (by omega), if_neg (by omega)]
theorem swr_1 {d : Nat → Nat} {a b n k : Nat} (h : a ≤ k ∧ k < a + n) : swr d a b n k = d (k + b - a) := by unfold swr; rw [if_pos h]
theorem swr_2 {d : Nat → Nat} {a b n k : Nat} (h : b ≤ k ∧ k < b + n) (h' : k < a ∨ a + n ≤ k) : swr d a b n k = d (k + a - b) := by unfold swr; rw [if_neg (by omega), if_pos h]
theorem swr_3 {d : Nat → Nat} {a b n k : Nat} (h : k < b ∨ b + n ≤ k) (h' : k < a ∨ a + n ≤ k) : swr d a b n k = d k := by unfold swr; rw [if_neg (by omega), if_neg (by omega)]
theorem at_eq {d : Nat → Nat} {x y : Nat} (h : x = y) : d x = d y := by rw [h]
theorem swr_step (d : Nat → Nat) (a b n : Nat) (h : a + n < b) : sw (swr d a b n) (a + n) (b + n) = swr d a b (n + 1) := by
  funext k
  by_cases e1 : k = a + n
  · subst e1
    rw [sw_l, swr_3 (by omega) (by omega), swr_1 (by omega)]; exact at_eq (by omega)
  by_cases e2 : k = b + n
  · subst e2
    rw [sw_r, swr_3 (by omega) (by omega), swr_2 (by omega) (by omega)]; first | done | exact at_eq (by omega)
  rw [sw_o _ _ _ _ e1 e2]
  by_cases c1 : a ≤ k ∧ k < a + n
  · rw [swr_1 c1, swr_1 (by omega)]
  · by_cases c2 : b ≤ k ∧ k < b + n
    · rw [swr_2 c2 (by omega), swr_2 (by omega) (by omega)]
    · rw [swr_3 (by omega) (by omega), swr_3 (by omega) (by omega)]

/-- The rotation's steps: i ahead of m, j from m on are still to be rotated. -/
theorem rot_gt (d : Nat → Nat) (m i j : Nat) (him : i ≤ m) (h : j < i) : rot (swr d (m - i) m j) (m - (i - j)) m (m + j) = rot d (m - i) m (m + j) := by
  funext k
  by_cases c0 : m - i ≤ k ∧ k < m - i + j
  · rw [rot_3 (by omega), swr_1 (by omega), rot_1 (by omega)]; exact at_eq (by omega)
  by_cases c1 : m - i + j ≤ k ∧ k < m - i + j + j
  · rw [rot_1 (by omega), swr_2 (by omega) (by omega), rot_2 (by omega)]; exact at_eq (by omega)
  by_cases c2 : m - i + j + j ≤ k ∧ k < m + j
  · rw [rot_2 (by omega), swr_3 (by omega) (by omega), rot_2 (by omega)]
  rw [rot_3 (by omega), swr_3 (by omega) (by omega), rot_3 (by omega)]
theorem rot_lt (d : Nat → Nat) (m i j : Nat) (him : i ≤ m) (h : i < j) : rot (swr d (m - i) (m + j - i) i) (m - i) m (m + (j - i)) = rot d (m - i) m (m + j) := by
  funext k
  by_cases c0 : m - i ≤ k ∧ k < m - i + (j - i)
  · rw [rot_1 (by omega), swr_3 (by omega) (by omega), rot_1 (by omega)]; first | done | exact at_eq (by omega)
  by_cases c1 : m - i + (j - i) ≤ k ∧ k < m + j - i
  · rw [rot_2 (by omega), swr_1 (by omega), rot_1 (by omega)]; exact at_eq (by omega)
  by_cases c2 : m + j - i ≤ k ∧ k < m + j
  · rw [rot_3 (by omega), swr_2 (by omega) (by omega), rot_2 (by omega)]; exact at_eq (by omega)
  rw [rot_3 (by omega), swr_3 (by omega) (by omega), rot_3 (by omega)]
theorem rot_eq (d : Nat → Nat) (m i : Nat) (him : i ≤ m) : swr d (m - i) m i = rot d (m - i) m (m + i) := by
  funext k
  by_cases c0 : m - i ≤ k ∧ k < m
  · rw [swr_1 (by omega), rot_1 (by omega)]; exact at_eq (by omega)
  by_cases c1 : m ≤ k ∧ k < m + i
  · rw [swr_2 (by omega) (by omega), rot_2 (by omega)]; exact at_eq (by omega)
  rw [swr_3 (by omega) (by omega), rot_3 (by omega)]

/-- What a merge's search has found: where the two rows are to be cut. -/
structure Cut (K : Nat → Int) (a m b s : Nat) (d : Nat → Nat) : Prop where
  as : a ≤ s
  sm : s ≤ m
  smid : s ≤ (a + b) / 2
  me : m ≤ (a + b) / 2 + m - s
  eb : (a + b) / 2 + m - s ≤ b
  up : a < s → (a + b) / 2 + m - s < b → ¬ K (d ((a + b) / 2 + m - s)) < K (d (s - 1))
  dn : s < m → m < (a + b) / 2 + m - s → K (d ((a + b) / 2 + m - s - 1)) < K (d s)

/-- What the rotation leaves: four rows in order, the first two ahead of the last two. -/
theorem Cut.rotated {n a m b s : Nat} {d : Nat → Nat} (h : Cut K a m b s d) (hI : Inv K n d) (hb : b ≤ n) (h1 : Srt K a m d) (h2 : Srt K m b d) :
    Inv K n (rot d s m ((a + b) / 2 + m - s)) ∧ Srt K a s (rot d s m ((a + b) / 2 + m - s)) ∧ Srt K s ((a + b) / 2) (rot d s m ((a + b) / 2 + m - s)) ∧
    Srt K ((a + b) / 2) ((a + b) / 2 + m - s) (rot d s m ((a + b) / 2 + m - s)) ∧ Srt K ((a + b) / 2 + m - s) b (rot d s m ((a + b) / 2 + m - s)) ∧
    ∀ x y, a ≤ x → x < (a + b) / 2 → (a + b) / 2 ≤ y → y < b → Lx K (rot d s m ((a + b) / 2 + m - s) x) (rot d s m ((a + b) / 2 + m - s) y) := by
  obtain ⟨as, sm, smid, me, eb, up, dn⟩ := h
  generalize hM : (a + b) / 2 = M at *
  generalize he : M + m - s = e at *
  have hx : ∀ x y, s ≤ x → x < m → m ≤ y → y < e → K (d y) < K (d x) := fun x y q1 q2 q3 q4 => by
    have z := dn (by omega) (by omega)
    have z1 := h1.le (k := s) (k' := x) as q1 q2
    have z2 := h2.le (k := y) (k' := e - 1) q3 (by omega) (by omega)
    omega
  have hc : ∀ x y, a ≤ x → x < s → e ≤ y → y < b → Lx K (d x) (d y) := fun x y q1 q2 q3 q4 => by
    have z : Lx K (d (s - 1)) (d e) := hI.lx (by omega) (by omega) (up (by omega) (by omega))
    have z1 : Lx K (d x) (d e) := by
      rcases Nat.lt_or_ge x (s - 1) with c | c
      · exact (h1 x (s - 1) q1 c (by omega)).trans z
      · rw [show x = s - 1 by omega]; exact z
    rcases Nat.lt_or_ge e y with c | c
    · exact z1.trans (h2 e y me c q4)
    · rw [show y = e by omega]; exact z1
  refine ⟨hI.rot sm me (by omega) hx, ?_, ?_, ?_, ?_, ?_⟩
  · exact (h1.mono (Nat.le_refl _) sm).congr fun k q1 q2 => rot_3 (by omega)
  · intro k k' q1 q2 q3
    rw [rot_1 (by omega), rot_1 (by omega)]; exact h2 _ _ (by omega) (by omega) (by omega)
  · intro k k' q1 q2 q3
    rw [rot_2 (by omega), rot_2 (by omega)]; exact h1 _ _ (by omega) (by omega) (by omega)
  · exact (h2.mono me (Nat.le_refl _)).congr fun k q1 q2 => rot_3 (by omega)
  · intro x y q1 q2 q3 q4
    by_cases c1 : x < s
    · rw [rot_3 (k := x) (by omega)]
      by_cases c2 : y < e
      · rw [rot_2 (by omega)]; exact h1 _ _ q1 (by omega) (by omega)
      · rw [rot_3 (by omega)]; exact hc _ _ q1 c1 (by omega) q4
    · rw [rot_1 (k := x) (by omega)]
      by_cases c2 : y < e
      · rw [rot_2 (by omega)]; exact .of (hx _ _ (by omega) (by omega) (by omega) (by omega))
      · rw [rot_3 (by omega)]; exact h2 _ _ (by omega) (by omega) q4

/-- Two rows in order, the one ahead of the other. -/
theorem srt_join {a M b : Nat} {d : Nat → Nat} (h1 : Srt K a M d) (h2 : Srt K M b d) (hx : ∀ x y, a ≤ x → x < M → M ≤ y → y < b → Lx K (d x) (d y)) : Srt K a b d := fun k k' q1 q2 q3 => by
  by_cases c : k' < M
  · exact h1 _ _ q1 q2 c
  · by_cases c2 : M ≤ k
    · exact h2 _ _ c2 q2 q3
    · exact hx _ _ q1 (by omega) (by omega) q3
theorem cross_mv {a M b : Nat} {d d' : Nat → Nat} (hx : ∀ x y, a ≤ x → x < M → M ≤ y → y < b → Lx K (d x) (d y)) (h : Mv a M d d' ∨ Mv M b d d') : ∀ x y, a ≤ x → x < M → M ≤ y → y < b → Lx K (d' x) (d' y) := fun x y q1 q2 q3 q4 => by
  rcases h with h | h
  · obtain ⟨x', r1, r2, e⟩ := h.inn x q1 q2
    rw [e, h.out y (by omega)]; exact hx _ _ r1 r2 q3 q4
  · obtain ⟨y', r1, r2, e⟩ := h.inn y q3 q4
    rw [e, h.out x (by omega)]; exact hx _ _ q1 q2 r1 r2

/-- Blocks of bs places, from the place lo on, each in order. -/
def BS (K : Nat → Int) (n bs lo hi : Nat) (d : Nat → Nat) : Prop := ∀ q, lo ≤ q * bs → q * bs < hi → Srt K (q * bs) (min (q * bs + bs) n) d
end
end Go.Proofs.YtioalnncjahlnaaGreatDoor

namespace Go.Proofs.YtioalnncjahlnaaGreatDoor

/-- What is still to be read: the open parts, the innermost first, each with its kind and how many children must still come. -/
def contS (l : List Prt) : List (Nat × Nat) → Nat → Except (Nat × Int) Nat
  | [], p => .ok p
  | x :: st, p => match rdS (l.length + 1) l p (st.length + 2) x.1 x.2 with
    | .error e => .error e
    | .ok q => contS l st q
def treeOf (l : List Prt) : Except (Nat × Int) Nat → Nat × Int
  | .error x => x
  | .ok e => if e < l.length then (e, 81) else (0, 0)
theorem tree_of (l : List Prt) : treeS l = treeOf l (rdS (l.length + 1) l 0 1 0 1) := by
  unfold treeS treeOf
  rfl
/-- The first part. -/
theorem of_first {l : List Prt} (h : stopS l 0 1 0 = none) : treeS l = treeOf l (contS l [((l.getD 0 ⟨0, 0, 0, 0, 0⟩).kind, (l.getD 0 ⟨0, 0, 0, 0, 0⟩).kids.toNat)] 1) := by
  rw [tree_of, rd_open h]
  simp only [contS, List.length_nil]
  split
  · rename_i e he; rw [he]
  · rename_i q hq; rw [hq]
theorem of_first_stop {l : List Prt} {e : Nat × Int} (h : stopS l 0 1 0 = some e) : treeS l = e := by
  rw [tree_of, rd_stop h]; rfl
/-- One more part. -/
theorem cont_zero (l : List Prt) (k : Nat) (st : List (Nat × Nat)) (p : Nat) : contS l ((k, 0) :: st) p = contS l st p := by
  simp only [contS, rd_zero]
theorem cont_stop {l : List Prt} {k n p : Nat} {st : List (Nat × Nat)} {e : Nat × Int} (h : stopS l p (st.length + 2) k = some e) : contS l ((k, n + 1) :: st) p = .error e := by
  simp only [contS]
  rw [rd_cons, h]
theorem cont_open {l : List Prt} {k n p : Nat} {st : List (Nat × Nat)} (h : stopS l p (st.length + 2) k = none) :
    contS l ((k, n + 1) :: st) p = contS l (((l.getD p ⟨0, 0, 0, 0, 0⟩).kind, (l.getD p ⟨0, 0, 0, 0, 0⟩).kids.toNat) :: (k, n) :: st) (p + 1) := by
  simp only [contS, List.length_cons]
  rw [rd_one (by omega) (by omega), rd_open h]
  rw [show st.length + 1 + 2 = st.length + 2 + 1 by omega]
  cases rdS (l.length + 1) l (p + 1) (st.length + 2 + 1) (l.getD p ⟨0, 0, 0, 0, 0⟩).kind (l.getD p ⟨0, 0, 0, 0, 0⟩).kids.toNat <;> rfl
/-- The open parts of a row, the innermost first. -/
def stk (O : Nat → Nat × Nat) : Nat → List (Nat × Nat)
  | 0 => []
  | d + 1 => O d :: stk O d
theorem stk_len (O : Nat → Nat × Nat) : ∀ d, (stk O d).length = d
  | 0 => rfl
  | d + 1 => by rw [stk, List.length_cons, stk_len O d]
def putO (O : Nat → Nat × Nat) (i : Nat) (x : Nat × Nat) : Nat → Nat × Nat := fun j => if j = i then x else O j
theorem putO_eq (O : Nat → Nat × Nat) (i : Nat) (x : Nat × Nat) : putO O i x i = x := if_pos rfl
theorem putO_ne (O : Nat → Nat × Nat) {i j : Nat} (x : Nat × Nat) (h : j ≠ i) : putO O i x j = O j := if_neg h
theorem stk_put (O : Nat → Nat × Nat) (i : Nat) (x : Nat × Nat) : ∀ d, d ≤ i → stk (putO O i x) d = stk O d
  | 0, _ => rfl
  | d + 1, h => by rw [stk, stk, stk_put O i x d (by omega), putO_ne O x (by omega)]
/-- How many stay open: those that need no more children are left. -/
def popN (O : Nat → Nat × Nat) : Nat → Nat
  | 0 => 0
  | d + 1 => if (O d).2 = 0 then popN O d else d + 1
theorem popN_le (O : Nat → Nat × Nat) : ∀ d, popN O d ≤ d
  | 0 => Nat.le_refl _
  | d + 1 => by
    unfold popN
    have := popN_le O d
    split <;> omega
theorem popN_top (O : Nat → Nat × Nat) : ∀ d, popN O d = 0 ∨ (O (popN O d - 1)).2 ≠ 0
  | 0 => .inl rfl
  | d + 1 => by
    unfold popN
    split
    · exact popN_top O d
    · rename_i h; exact .inr h
theorem cont_pop (l : List Prt) (O : Nat → Nat × Nat) (p : Nat) : ∀ d, contS l (stk O (popN O d)) p = contS l (stk O d) p
  | 0 => rfl
  | d + 1 => by
    unfold popN
    split
    · rename_i h
      rw [cont_pop l O p d]
      show _ = contS l (O d :: stk O d) p
      rw [show O d = ((O d).1, 0) by rw [← h], cont_zero]
    · rfl
/-- The row behind a part. -/
def rowO (d : Nat) (O : Nat → Nat × Nat) : Nat → Nat × Nat := if d = 0 then O else putO O (d - 1) ((O (d - 1)).1, (O (d - 1)).2 - 1)
def nextO (d : Nat) (O : Nat → Nat × Nat) (x : Prt) : Nat → Nat × Nat := if x.kind = 0 then rowO d O else putO (rowO d O) d (x.kind, x.kids.toNat)
def nextD (d : Nat) (x : Prt) : Nat := if x.kind = 0 then d else d + 1
def reasS (p d : Nat) (O : Nat → Nat × Nat) (x : Prt) : Nat → Bool
  | 0 => decide (0 < p) && decide (d = 0)
  | 1 => decide (64 ≤ p)
  | 2 => badP x
  | 3 => decide (0 < d) && (decide ((O (d - 1)).1 = 2) && decide (x.kind ≠ 0))
  | 4 => decide (8 ≤ d)
  | _ => false
/-- What is known where a part is to be read. -/
structure AtS (l : List Prt) (p d : Nat) (O : Nat → Nat × Nat) : Prop where
  le : d ≤ 8
  first : p = 0 → d = 0
  top : d = 0 ∨ (O (d - 1)).2 ≠ 0
  num : ∀ i, (O i).2 ≤ 16
  kin : ∀ i, (O i).1 ≤ 4
  eq : 0 < p → treeS l = treeOf l (contS l (stk O d) p)
theorem at_start (l : List Prt) : AtS l 0 0 (fun _ => (0, 0)) := ⟨by omega, fun _ => rfl, .inl rfl, fun _ => by simp, fun _ => by simp, fun h => by omega⟩
theorem at_err {l : List Prt} {p d : Nat} {O : Nat → Nat × Nat} (h : AtS l p d O) (hd : 0 < d) {e : Nat × Int} (hs : stopS l p (d + 1) (O (d - 1)).1 = some e) : treeS l = e := by
  have h0 : 0 < p := Nat.pos_of_ne_zero fun c => by have := h.first c; omega
  obtain ⟨d, rfl⟩ : ∃ k, d = k + 1 := ⟨d - 1, by omega⟩
  simp only [Nat.add_sub_cancel] at hs
  have ht := h.top
  simp only [Nat.add_sub_cancel] at ht
  obtain ⟨n, hn⟩ : ∃ n, (O d).2 = n + 1 := ⟨(O d).2 - 1, by omega⟩
  rw [h.eq h0, stk, show O d = ((O d).1, n + 1) by rw [← hn], cont_stop (by rw [stk_len]; exact hs)]
  rfl
/-- The first part that ends what is read. -/
theorem at_end {l : List Prt} {p d : Nat} {O : Nat → Nat × Nat} (h : AtS l p d O) (hp : l.length = p) : treeS l = if p = 0 ∨ 0 < d then (p, 81) else (0, 0) := by
  by_cases h0 : p = 0
  · rw [if_pos (.inl h0), of_first_stop (stop_out (by omega)), h0]
  · by_cases hd : 0 < d
    · rw [if_pos (.inr hd)]
      exact at_err h hd (stop_out (by omega))
    · rw [if_neg (by omega), h.eq (by omega), show d = 0 by omega]
      show treeOf l (.ok p) = _
      unfold treeOf
      simp only
      rw [if_neg (by omega)]
theorem at_reas {l : List Prt} {p d : Nat} {O : Nat → Nat × Nat} (h : AtS l p d O) (hp : p < l.length) : ∀ k, k < 5 → (∀ j, j < k → reasS p d O (l.getD p ⟨0, 0, 0, 0, 0⟩) j = false) → reasS p d O (l.getD p ⟨0, 0, 0, 0, 0⟩) k = true → treeS l = (p, if k = 4 then 80 else 81) := by
  intro k hk hj ht
  have shape : 0 < d ∨ p = 0 → (64 ≤ p ∨ badP (l.getD p ⟨0, 0, 0, 0, 0⟩) = true ∨ (0 < d ∧ (O (d - 1)).1 = 2 ∧ (l.getD p ⟨0, 0, 0, 0, 0⟩).kind ≠ 0)) → treeS l = (p, 81) := by
    intro h1 h2
    by_cases hd : 0 < d
    · exact at_err h hd (stop_shape hp (by rcases h2 with h2 | h2 | h2; exact .inl h2; exact .inr (.inl h2); exact .inr (.inr h2.2)))
    · have hp0 : p = 0 := by omega
      subst hp0
      exact of_first_stop (stop_shape hp (by rcases h2 with h2 | h2 | h2; exact .inl h2; exact .inr (.inl h2); omega))
  have out : ∀ j, k = j + 1 → 0 < d ∨ p = 0 := fun j hj' => by
    have := hj 0 (by omega)
    simp only [reasS, Bool.and_eq_false_iff, decide_eq_false_iff_not] at this
    omega
  rcases (show k = 0 ∨ k = 1 ∨ k = 2 ∨ k = 3 ∨ k = 4 by omega) with rfl | rfl | rfl | rfl | rfl
  · simp only [reasS, Bool.and_eq_true, decide_eq_true_eq] at ht
    rw [h.eq ht.1, ht.2]
    show treeOf l (.ok p) = _
    unfold treeOf
    simp only
    rw [if_pos hp, if_neg (by omega)]
  · simp only [reasS, decide_eq_true_eq] at ht
    rw [shape (out 0 rfl) (.inl ht)]; rfl
  · simp only [reasS] at ht
    rw [shape (out 1 rfl) (.inr (.inl ht))]; rfl
  · simp only [reasS, Bool.and_eq_true, decide_eq_true_eq] at ht
    rw [shape (out 2 rfl) (.inr (.inr ⟨ht.1, ht.2.1, ht.2.2⟩))]; rfl
  · simp only [reasS, decide_eq_true_eq] at ht
    have h1 := hj 1 (by omega)
    have h2 := hj 2 (by omega)
    have h3 := hj 3 (by omega)
    simp only [reasS] at h1 h2 h3
    have h1' := of_decide_eq_false h1
    refine at_err h (by omega) ?_
    rw [stop_deep hp (by
      rintro (c | c | c)
      · exact h1' c
      · rw [h2] at c; cases c
      · rw [decide_eq_true (by omega), decide_eq_true c.1, decide_eq_true c.2] at h3; cases h3), if_pos (by omega)]
    rfl
theorem at_next {l : List Prt} {p d : Nat} {O : Nat → Nat × Nat} (h : AtS l p d O) (hp : p < l.length) (hr : ∀ j, j < 5 → reasS p d O (l.getD p ⟨0, 0, 0, 0, 0⟩) j = false) :
    p < 64 ∧ d < 8 ∧ AtS l (p + 1) (popN (nextO d O (l.getD p ⟨0, 0, 0, 0, 0⟩)) (nextD d (l.getD p ⟨0, 0, 0, 0, 0⟩))) (nextO d O (l.getD p ⟨0, 0, 0, 0, 0⟩)) := by
  have h0 := hr 0 (by omega)
  have h1 := hr 1 (by omega)
  have h2 := hr 2 (by omega)
  have h3 := hr 3 (by omega)
  have h4 := hr 4 (by omega)
  simp only [reasS] at h0 h1 h2 h3 h4
  have h1' := of_decide_eq_false h1
  have h4' := of_decide_eq_false h4
  have hks := bad_kids h2
  have hkind : (l.getD p ⟨0, 0, 0, 0, 0⟩).kind ≤ 4 := by
    unfold badP at h2
    split at h2
    · omega
    · have := of_decide_eq_false h2; omega
  have hk0 : (l.getD p ⟨0, 0, 0, 0, 0⟩).kind = 0 → (l.getD p ⟨0, 0, 0, 0, 0⟩).kids.toNat = 0 := fun c => by
    unfold badP at h2
    rw [if_pos c] at h2
    have := of_decide_eq_false h2; omega
  have hrn : ∀ i, (rowO d O i).2 ≤ 16 := fun i => by
    unfold rowO
    split
    · exact h.num i
    · unfold putO
      split
      · have := h.num (d - 1); simp only; omega
      · exact h.num i
  have hrk : ∀ i, (rowO d O i).1 ≤ 4 := fun i => by
    unfold rowO
    split
    · exact h.kin i
    · unfold putO
      split
      · exact h.kin (d - 1)
      · exact h.kin i
  refine ⟨by omega, by omega, ?_, fun c => by omega, popN_top _ _, ?_, ?_, fun _ => ?_⟩
  · refine Nat.le_trans (popN_le _ _) ?_
    unfold nextD
    split <;> omega
  · intro i
    unfold nextO
    split
    · exact hrn i
    · unfold putO
      split
      · simp only; omega
      · exact hrn i
  · intro i
    unfold nextO
    split
    · exact hrk i
    · unfold putO
      split
      · simp only; omega
      · exact hrk i
  · rw [cont_pop]
    generalize hx : l.getD p ⟨0, 0, 0, 0, 0⟩ = x at *
    have hcont : contS l (stk (nextO d O x) (nextD d x)) (p + 1) = contS l ((x.kind, x.kids.toNat) :: stk (rowO d O) d) (p + 1) := by
      unfold nextO nextD
      by_cases c : x.kind = 0
      · rw [if_pos c, if_pos c, hk0 c, cont_zero]
      · rw [if_neg c, if_neg c, stk, putO_eq, stk_put _ _ _ _ (Nat.le_refl _)]
    rw [hcont]
    by_cases hd : d = 0
    · have hp0 : p = 0 := by
        simp only [Bool.and_eq_false_iff, decide_eq_false_iff_not] at h0
        omega
      subst hp0
      have hs : stopS l 0 1 0 = none := by
        rw [stop_deep hp (by
          rw [hx]
          rintro (c | c | c)
          · omega
          · rw [h2] at c; cases c
          · omega)]
        rfl
      rw [of_first hs, hx, hd]
      rfl
    · have hs : stopS l p (d + 1) (O (d - 1)).1 = none := by
        rw [stop_deep hp (by
          rw [hx]
          rintro (c | c | c)
          · omega
          · rw [h2] at c; cases c
          · rw [decide_eq_true (show 0 < d by omega), decide_eq_true c.1, decide_eq_true c.2] at h3; cases h3)]
        rw [if_neg (by omega)]
      have hp0 : 0 < p := Nat.pos_of_ne_zero fun c => by have := h.first c; omega
      obtain ⟨d, rfl⟩ : ∃ k, d = k + 1 := ⟨d - 1, by omega⟩
      simp only [Nat.add_sub_cancel] at hs
      have ht := h.top
      simp only [Nat.add_sub_cancel] at ht
      obtain ⟨n, hn⟩ : ∃ n, (O d).2 = n + 1 := ⟨(O d).2 - 1, by omega⟩
      rw [h.eq hp0, stk, show O d = ((O d).1, n + 1) by rw [← hn], cont_open (by rw [stk_len]; exact hs), hx]
      unfold rowO
      rw [if_neg (by omega), Nat.add_sub_cancel, stk, putO_eq, stk_put _ _ _ _ (Nat.le_refl _), hn]
      rfl
end Go.Proofs.YtioalnncjahlnaaGreatDoor

namespace Go.Proofs.YtioalnncjahlnaaGreatDoor

def T8 : List Prt := [⟨1, 0, 0, 0, 2⟩, ⟨0, 2, 1, 10, 0⟩, ⟨3, 0, 0, 0, 2⟩, ⟨0, 4, 2, 5, 0⟩, ⟨0, 1, 1, 20, 0⟩]
/-- The definition with an atom whose gangs are not whole. -/
def T8o : List Prt := [⟨1, 0, 0, 0, 2⟩, ⟨0, 2, 3, 10, 0⟩, ⟨3, 0, 0, 0, 2⟩, ⟨0, 4, 2, 5, 0⟩, ⟨0, 1, 1, 20, 0⟩]
/-- The definition without its last part. -/
def T8c : List Prt := [⟨1, 0, 0, 0, 2⟩, ⟨0, 2, 1, 10, 0⟩, ⟨3, 0, 0, 0, 2⟩, ⟨0, 4, 2, 5, 0⟩]
theorem t8_chk : chkS 0 100 T8 = (0, 0) := by decide +kernel
theorem t8_none : chkS 0 0 T8 = (-1, 82) := by decide +kernel
theorem t8_odd : chkS 0 100 T8o = (1, 81) := by decide +kernel
theorem t8_cut : chkS 0 100 T8c = (4, 81) := by decide +kernel
theorem t8_may0 : mayS T8 0 = 0 := by decide +kernel
theorem t8_may2 : mayS T8 2 = 0 := by decide +kernel
theorem t8_may4 : mayS T8 4 = 0 := by decide +kernel
theorem t8_may5 : mayS T8 5 = 2 := by decide +kernel
theorem t8_mayc : mayS T8c 0 = 81 := by decide +kernel
theorem t8_kids0 : kidsS T8 (Int.toNat 0) = [1, 2] := by decide +kernel
theorem t8_kids2 : kidsS T8 (Int.toNat 2) = [3, 4] := by decide +kernel
theorem t8_end : (if (0 : Int) = 0 then endS T8 (Int.toNat 2) else 0) = 5 := by decide +kernel
theorem t8_depth : (if (0 : Int) = 0 then depthS T8 (Int.toNat 4) else 0) = 3 := by decide +kernel
theorem t8_atoms : atomsS8 T8 = [1, 3, 4] := by decide +kernel
end Go.Proofs.YtioalnncjahlnaaGreatDoor
