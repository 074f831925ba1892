/- Texts and their tokens, byte by byte: what a text's tokens are, the text of tokens, that the one goes back to the other, and that more white changes places alone. No program. No conditions. Parts, and forests of parts: their number, their depth, their list. No program. No conditions. A text's runs, one after the other, each with its place, and its tokens out of them. No program. No conditions. The tokens of a text by steps that are counted: for texts that the document gives. No program. No conditions. -/
namespace Go.Proofs.YtaeipfnpglbooaaDoor

def whiteB (c : UInt8) : Bool := c == 32 || c == 9 || c == 10 || c == 13
def letterB (c : UInt8) : Bool := decide (97 ≤ c) && decide (c ≤ 122)
def digitB (c : UInt8) : Bool := decide (48 ≤ c) && decide (c ≤ 57)
def alnumB (c : UInt8) : Bool := letterB c || digitB c
theorem white_not {c : UInt8} (h : whiteB c = true) : alnumB c = false := by
  unfold whiteB at h
  simp only [Bool.or_eq_true, beq_iff_eq] at h
  rcases h with ((rfl | rfl) | rfl) | rfl <;> decide
/-- The number that digits say. -/
def valD (s : List UInt8) : Int := s.foldl (fun n c => 10 * n + ((c.toNat : Int) - 48)) 0
def isNum (s : List UInt8) : Bool := !s.isEmpty && s.all digitB && (s.length == 1 || s.head? != some 48) && decide (valD s ≤ 1099511627776)
def isWord (s : List UInt8) : Bool := !s.isEmpty && s.all letterB
/-- What a token's bytes are: its kind, its number. -/
def kindOf (s : List UInt8) : Option (Nat × Int) :=
  if isNum s then some (1, valD s) else if s = [40] then some (2, 0) else if s = [41] then some (3, 0) else if s = [58] then some (4, 0) else if isWord s then some (0, 0) else none
/-- A token: its kind, its bytes, its number, its place. -/
structure Tok where
  kind : Nat
  text : List UInt8
  num : Int
  pos : Nat
deriving DecidableEq
/-- The tokens of a text from a place on, or the place of what is none. -/
def lexG (p : Nat) : List UInt8 → Except Nat (List Tok)
  | [] => .ok []
  | c :: r =>
    if whiteB c then lexG (p + 1) r
    else if alnumB c then
      match kindOf (c :: r.takeWhile alnumB) with
      | none => .error p
      | some (k, n) => (lexG (p + 1 + (r.takeWhile alnumB).length) (r.dropWhile alnumB)).map (⟨k, c :: r.takeWhile alnumB, n, p⟩ :: ·)
    else
      match kindOf [c] with
      | none => .error p
      | some (k, n) => (lexG (p + 1) r).map (⟨k, [c], n, p⟩ :: ·)
termination_by s => s.length
decreasing_by
  all_goals simp only [List.length_cons]
  · omega
  · have := (List.dropWhile_sublist alnumB (l := r)).length_le; omega
  · omega
theorem lexG_nil (p : Nat) : lexG p [] = .ok [] := by rw [lexG]
theorem lexG_white {p : Nat} {c : UInt8} {r : List UInt8} (h : whiteB c = true) : lexG p (c :: r) = lexG (p + 1) r := by rw [lexG, if_pos h]
/-- The bytes of a token: one of the three, or a run. -/
def okTok (t : List UInt8) (k : Nat) (n : Int) : Prop := kindOf t = some (k, n) ∧ ((∃ c, t = [c] ∧ alnumB c = false ∧ whiteB c = false) ∨ (t ≠ [] ∧ t.all alnumB = true))
theorem takeWhile_app {p : UInt8 → Bool} {a b : List UInt8} (h : a.all p = true) (hb : b = [] ∨ ∃ c r, b = c :: r ∧ p c = false) : (a ++ b).takeWhile p = a ∧ (a ++ b).dropWhile p = b := by
  induction a with
  | nil =>
    rcases hb with rfl | ⟨c, r, rfl, hc⟩
    · simp
    · simp [hc]
  | cons x a ih =>
    simp only [List.all_cons, Bool.and_eq_true] at h
    obtain ⟨i1, i2⟩ := ih h.2
    simp only [List.cons_append, List.takeWhile_cons, List.dropWhile_cons, h.1, if_true, i1, i2, and_self]
/-- A token ahead of what can't go on with its run. -/
theorem lexG_tok {p : Nat} {t r : List UInt8} {k : Nat} {n : Int} (h : okTok t k n) (hr : t.all alnumB = true → r = [] ∨ ∃ c r', r = c :: r' ∧ alnumB c = false) :
    lexG p (t ++ r) = (lexG (p + t.length) r).map (⟨k, t, n, p⟩ :: ·) := by
  obtain ⟨hk, ⟨c, rfl, h1, h2⟩ | ⟨hne, ha⟩⟩ := h
  · rw [List.cons_append, List.nil_append, lexG, if_neg (by rw [h2]; decide), if_neg (by rw [h1]; decide), hk]
    rfl
  · obtain ⟨c, t', rfl⟩ := List.exists_cons_of_ne_nil hne
    have ha' := ha
    simp only [List.all_cons, Bool.and_eq_true] at ha'
    have hw : whiteB c = false := by
      cases hw : whiteB c
      · rfl
      · rw [white_not hw] at ha'; exact absurd ha'.1 (by decide)
    obtain ⟨e1, e2⟩ := takeWhile_app ha'.2 (hr ha)
    rw [List.cons_append, lexG, if_neg (by rw [hw]; decide), if_pos ha'.1, e1, e2, hk]
    simp only [List.length_cons]
    rw [show p + 1 + t'.length = p + (t'.length + 1) by omega]
/-- What is told of a text: each token's bytes are a token's, and stand at its place, with white between. -/
def Spells (p : Nat) : List UInt8 → List Tok → Prop
  | s, [] => s.all whiteB = true
  | s, t :: l => ∃ w r, s = w ++ t.text ++ r ∧ w.all whiteB = true ∧ t.pos = p + w.length ∧ okTok t.text t.kind t.num ∧ (t.text.all alnumB = true → r = [] ∨ ∃ c r', r = c :: r' ∧ alnumB c = false) ∧ Spells (p + w.length + t.text.length) r l
theorem mem_run {p : UInt8 → Bool} {y : UInt8} : ∀ {r : List UInt8}, y ∈ r.takeWhile p → p y = true
  | [], h => by simp at h
  | c :: r, h => by
    rw [List.takeWhile_cons] at h
    cases hc : p c
    · rw [hc] at h; simp at h
    · rw [hc, if_pos rfl] at h
      rcases List.mem_cons.1 h with e | e
      · rw [e]; exact hc
      · exact mem_run e
theorem lexG_run (p : Nat) (c : UInt8) (r : List UInt8) : (∃ x, lexG p (c :: r) = .error x) ∨ whiteB c = true ∨ ∃ t r' k n, c :: r = t ++ r' ∧ okTok t k n ∧ (t.all alnumB = true → r' = [] ∨ ∃ c r'', r' = c :: r'' ∧ alnumB c = false) := by
  cases hw : whiteB c
  · cases ha : alnumB c
    · cases hk : kindOf [c] with
      | none => left; rw [lexG, if_neg (by rw [hw]; decide), if_neg (by rw [ha]; decide), hk]; exact ⟨p, rfl⟩
      | some x => exact .inr (.inr ⟨[c], r, x.1, x.2, rfl, ⟨hk, .inl ⟨c, rfl, ha, hw⟩⟩, fun h => by simp [ha] at h⟩)
    · cases hk : kindOf (c :: r.takeWhile alnumB) with
      | none => left; rw [lexG, if_neg (by rw [hw]; decide), if_pos ha, hk]; exact ⟨p, rfl⟩
      | some x =>
        refine .inr (.inr ⟨c :: r.takeWhile alnumB, r.dropWhile alnumB, x.1, x.2, by rw [List.cons_append, List.takeWhile_append_dropWhile], ⟨hk, .inr ⟨by simp, ?_⟩⟩, fun _ => ?_⟩)
        · rw [List.all_eq_true]
          intro y hy
          rcases List.mem_cons.1 hy with e | e
          · rw [e]; exact ha
          · exact mem_run e
        · cases hd : r.dropWhile alnumB with
          | nil => exact .inl rfl
          | cons y r'' =>
            refine .inr ⟨y, r'', rfl, ?_⟩
            have := List.head?_dropWhile_not alnumB r
            rw [hd] at this
            simpa using this
  · exact .inr (.inl rfl)
theorem lexG_spells : ∀ (m : Nat) (s : List UInt8) (p : Nat) (l : List Tok), s.length ≤ m → lexG p s = .ok l → Spells p s l
  | _, [], p, l, _, h => by
    rw [lexG_nil] at h
    cases h
    rfl
  | 0, c :: r, _, _, hm, _ => by simp at hm
  | m + 1, c :: r, p, l, hm, h => by
    simp only [List.length_cons] at hm
    rcases lexG_run p c r with ⟨x, e⟩ | hw | ⟨t, r', k, n, e, ht, hr⟩
    · rw [e] at h; cases h
    · rw [lexG_white hw] at h
      have ih := lexG_spells m r (p + 1) l (by omega) h
      cases l with
      | nil =>
        show (c :: r).all whiteB = true
        rw [List.all_cons, hw]
        exact ih
      | cons t l =>
        obtain ⟨w, r2, e, h1, h2, h3, h4, h5⟩ := ih
        refine ⟨c :: w, r2, by rw [e]; simp, by rw [List.all_cons, hw]; exact h1, by rw [h2]; simp only [List.length_cons]; omega, h3, h4, ?_⟩
        have e2 : p + (c :: w).length + t.text.length = p + 1 + w.length + t.text.length := by simp only [List.length_cons]; omega
        rw [e2]; exact h5
    · rw [e, lexG_tok ht hr] at h
      have hlen : r'.length ≤ m := by
        have h1 := congrArg List.length e
        have h2 : 0 < t.length := by
          rcases ht.2 with ⟨c', rfl, _⟩ | ⟨hne, _⟩
          · simp
          · exact List.length_pos_iff.2 hne
        simp only [List.length_cons, List.length_append] at h1
        omega
      cases hl : lexG (p + t.length) r' with
      | error y => rw [hl] at h; cases h
      | ok l' =>
        rw [hl] at h
        cases h
        refine ⟨[], r', by rw [e]; simp, rfl, by simp, ht, hr, ?_⟩
        simpa using lexG_spells m r' (p + t.length) l' hlen hl
theorem lexG_allwhite : ∀ (w : List UInt8) (p : Nat) (r : List UInt8), w.all whiteB = true → lexG p (w ++ r) = lexG (p + w.length) r
  | [], p, r, _ => rfl
  | c :: w, p, r, h => by
    rw [List.all_cons, Bool.and_eq_true] at h
    rw [List.cons_append, lexG_white h.1, lexG_allwhite w (p + 1) r h.2, List.length_cons]
    congr 1; omega
/-- And back: what is so spelled is so told. -/
theorem spells_lexG : ∀ (l : List Tok) (p : Nat) (s : List UInt8), Spells p s l → lexG p s = .ok l
  | [], p, s, h => by
    have h' : s.all whiteB = true := h
    have := lexG_allwhite s p [] h'
    rw [List.append_nil, lexG_nil] at this
    exact this
  | t :: l, p, s, ⟨w, r, e, h1, h2, h3, h4, h5⟩ => by
    subst e
    rw [List.append_assoc, lexG_allwhite w p _ h1, lexG_tok h3 h4, spells_lexG l _ r h5]
    simp only [Except.map]
    rw [← h2]

/-- The text of tokens. -/
def gapB (a b : Tok) : Bool := a.kind != 2 && b.kind != 3 && b.kind != 4
def textG : List Tok → List UInt8
  | [] => []
  | [t] => t.text
  | t :: u :: l => t.text ++ (if gapB t u then 32 :: textG (u :: l) else textG (u :: l))
/-- Tokens at the places at which their text has them. -/
def placeG (p : Nat) : List Tok → List Tok
  | [] => []
  | [t] => [{ t with pos := p }]
  | t :: u :: l => { t with pos := p } :: placeG (p + t.text.length + (if gapB t u then 1 else 0)) (u :: l)
theorem kind_punct {t : List UInt8} {k : Nat} {n : Int} (h : okTok t k n) (hk : k = 2 ∨ k = 3 ∨ k = 4) : ∃ c, t = [c] ∧ alnumB c = false := by
  obtain ⟨h1, _⟩ := h
  unfold kindOf at h1
  split at h1
  · cases h1; omega
  · split at h1
    · rename_i e; exact ⟨40, e, by decide⟩
    · split at h1
      · rename_i e; exact ⟨41, e, by decide⟩
      · split at h1
        · rename_i e; exact ⟨58, e, by decide⟩
        · split at h1
          · cases h1; omega
          · cases h1
theorem text_head {t : List UInt8} {k : Nat} {n : Int} (h : okTok t k n) : ∃ c r, t = c :: r := by
  rcases h.2 with ⟨c, rfl, _⟩ | ⟨hne, _⟩
  · exact ⟨c, [], rfl⟩
  · exact List.exists_cons_of_ne_nil hne
theorem textG_head {u : Tok} {l : List Tok} : ∃ r, textG (u :: l) = u.text ++ r := by
  cases l with
  | nil => exact ⟨[], by simp [textG]⟩
  | cons v l => exact ⟨_, rfl⟩
theorem text_spells : ∀ (l : List Tok) (p : Nat), (∀ t ∈ l, okTok t.text t.kind t.num) → Spells p (textG l) (placeG p l)
  | [], p, _ => rfl
  | [t], p, h => ⟨[], [], by simp [textG], rfl, rfl, h t (by simp), fun _ => .inl rfl, rfl⟩
  | t :: u :: l, p, h => by
    have ht := h t (by simp)
    have hu := h u (by simp)
    have ih := text_spells (u :: l) (p + t.text.length + (if gapB t u then 1 else 0)) fun x hx => h x (List.mem_cons_of_mem _ hx)
    refine ⟨[], if gapB t u then 32 :: textG (u :: l) else textG (u :: l), by simp [textG], rfl, rfl, ht, fun ha => ?_, ?_⟩
    · cases hg : gapB t u
      · rw [if_neg (by decide)]
        refine .inr ?_
        have hk : u.kind = 3 ∨ u.kind = 4 := by
          unfold gapB at hg
          have h2 : t.kind ≠ 2 := fun e => by
            obtain ⟨c, e2, hc⟩ := kind_punct ht (.inl e)
            rw [e2] at ha
            simp [hc] at ha
          simp only [Bool.and_eq_false_iff, bne_eq_false_iff_eq] at hg
          rcases hg with (hg | hg) | hg
          · exact absurd hg h2
          · exact .inl hg
          · exact .inr hg
        obtain ⟨c, e2, hc⟩ := kind_punct hu (.inr hk)
        obtain ⟨r, e3⟩ := textG_head (u := u) (l := l)
        rw [e3, e2]
        exact ⟨c, r, rfl, hc⟩
      · rw [if_pos rfl]
        exact .inr ⟨32, _, rfl, by decide⟩
    · show Spells _ _ (placeG _ (u :: l))
      simp only [List.length_nil, Nat.add_zero]
      cases hg : gapB t u
      · rw [hg] at ih
        simpa using ih
      · rw [hg] at ih
        simp only [if_true] at ih ⊢
        cases l with
        | nil =>
          obtain ⟨w, r, e, h1, h2, h3⟩ := ih
          refine ⟨32 :: w, r, by rw [e]; simp, by rw [List.all_cons, h1]; decide, by rw [h2]; simp only [List.length_cons]; omega, ?_⟩
          simp only [List.length_cons]
          rw [show p + t.text.length + (w.length + 1) = p + t.text.length + 1 + w.length by omega]
          exact h3
        | cons v l =>
          obtain ⟨w, r, e, h1, h2, h3⟩ := ih
          refine ⟨32 :: w, r, by rw [e]; simp, by rw [List.all_cons, h1]; decide, by rw [h2]; simp only [List.length_cons]; omega, ?_⟩
          simp only [List.length_cons]
          rw [show p + t.text.length + (w.length + 1) = p + t.text.length + 1 + w.length by omega]
          exact h3
theorem spells_ok : ∀ (l : List Tok) (p : Nat) (s : List UInt8), Spells p s l → ∀ t ∈ l, okTok t.text t.kind t.num
  | [], _, _, _, t, h => by simp at h
  | u :: l, p, s, ⟨w, r, e, h1, h2, h3, h4, h5⟩, t, h => by
    rcases List.mem_cons.1 h with e | e
    · rw [e]; exact h3
    · exact spells_ok l _ r h5 t e
/-- There and back: the tokens of the text of a text's tokens are these tokens, at their new places. -/
theorem lex_back {s : List UInt8} {l : List Tok} (h : lexG 0 s = .ok l) : lexG 0 (textG l) = .ok (placeG 0 l) :=
  spells_lexG _ _ _ (text_spells l 0 (spells_ok l 0 s (lexG_spells s.length s 0 l (Nat.le_refl _) h)))
theorem place_text : ∀ (l : List Tok) (p : Nat), textG (placeG p l) = textG l
  | [], _ => rfl
  | [t], _ => rfl
  | t :: u :: l, p => by
    have ih := place_text (u :: l) (p + t.text.length + (if gapB t u then 1 else 0))
    cases l with
    | nil => rfl
    | cons v l =>
      have e : placeG (p + t.text.length + (if gapB t u then 1 else 0)) (u :: v :: l) = { u with pos := p + t.text.length + (if gapB t u then 1 else 0) } :: placeG (p + t.text.length + (if gapB t u then 1 else 0) + u.text.length + (if gapB u v then 1 else 0)) (v :: l) := rfl
      rw [show placeG p (t :: u :: v :: l) = { t with pos := p } :: placeG (p + t.text.length + (if gapB t u then 1 else 0)) (u :: v :: l) from rfl, e]
      rw [e] at ih
      show t.text ++ (if gapB { t with pos := p } { u with pos := _ } then 32 :: textG _ else textG _) = t.text ++ (if gapB t u then 32 :: textG (u :: v :: l) else textG (u :: v :: l))
      rw [ih]
      rfl

/-- Tokens, so much farther. -/
def shiftG (d : Nat) (l : List Tok) : List Tok := l.map fun t => { t with pos := t.pos + d }
theorem spells_shift : ∀ (l : List Tok) (p : Nat) (s : List UInt8) (d : Nat), Spells p s l → Spells (p + d) s (shiftG d l)
  | [], _, _, _, h => h
  | t :: l, p, s, d, ⟨w, r, e, h1, h2, h3, h4, h5⟩ => by
    refine ⟨w, r, e, h1, ?_, h3, h4, ?_⟩
    · show t.pos + d = p + d + w.length
      omega
    · have := spells_shift l _ r d h5
      show Spells (p + d + w.length + t.text.length) r (shiftG d l)
      rw [show p + d + w.length + t.text.length = p + w.length + t.text.length + d by omega]
      exact this
/-- Tokens, from the k-th on so much farther. -/
def whiteG (d k : Nat) (l : List Tok) : List Tok := l.take k ++ shiftG d (l.drop k)
theorem spells_pos : ∀ (l : List Tok) (p : Nat) (s : List UInt8) (k : Nat) (t : Tok), Spells p s l → l[k]? = some t → p ≤ t.pos ∧ t.pos + t.text.length ≤ p + s.length
  | [], _, _, _, _, _, h => by simp at h
  | u :: l, p, s, k, t, ⟨w, r, e, h1, h2, h3, h4, h5⟩, hk => by
    have hl := congrArg List.length e
    simp only [List.length_append] at hl
    cases k with
    | zero =>
      simp only [List.getElem?_cons_zero, Option.some.injEq] at hk
      subst hk
      omega
    | succ k =>
      rw [List.getElem?_cons_succ] at hk
      have := spells_pos l _ r k t h5 hk
      omega
/-- More white ahead of a token changes places alone. -/
theorem spells_white : ∀ (l : List Tok) (p : Nat) (s : List UInt8) (k : Nat) (m : List UInt8) (t : Tok), Spells p s l → m.all whiteB = true → l[k]? = some t →
    Spells p (s.take (t.pos - p) ++ (m ++ s.drop (t.pos - p))) (whiteG m.length k l)
  | [], _, _, _, _, _, _, _, h => by simp at h
  | u :: l, p, s, 0, m, t, ⟨w, r, e, h1, h2, h3, h4, h5⟩, hm, hk => by
    simp only [List.getElem?_cons_zero, Option.some.injEq] at hk
    subst hk
    have e0 : u.pos - p = w.length := by omega
    rw [e0, e, List.append_assoc, List.take_left' rfl, List.drop_left' rfl]
    refine ⟨w ++ m, r, by simp, by rw [List.all_append, h1, hm]; rfl, ?_, h3, h4, ?_⟩
    · show u.pos + m.length = _
      rw [List.length_append]; omega
    · have := spells_shift l _ r m.length h5
      show Spells (p + (w ++ m).length + u.text.length) r (shiftG m.length l)
      rw [List.length_append, show p + (w.length + m.length) + u.text.length = p + w.length + u.text.length + m.length by omega]
      exact this
  | u :: l, p, s, k + 1, m, t, ⟨w, r, e, h1, h2, h3, h4, h5⟩, hm, hk => by
    rw [List.getElem?_cons_succ] at hk
    have hp := spells_pos l _ r k t h5 hk
    have ih := spells_white l _ r k m t h5 hm hk
    have hl : (w ++ u.text).length = w.length + u.text.length := by simp
    have e0 : t.pos - p = (w ++ u.text).length + (t.pos - (p + w.length + u.text.length)) := by rw [hl]; omega
    generalize hd : t.pos - (p + w.length + u.text.length) = d at *
    refine ⟨w, r.take d ++ (m ++ r.drop d), ?_, h1, h2, h3, fun ha => ?_, ih⟩
    · rw [e0, e, List.take_length_add_append, List.drop_length_add_append]
      simp only [List.append_assoc]
    · rcases h4 ha with e1 | ⟨c, r', e1, hc⟩
      · subst e1
        cases m with
        | nil => left; simp
        | cons c m =>
          rw [List.all_cons, Bool.and_eq_true] at hm
          exact .inr ⟨c, m, by simp, white_not hm.1⟩
      · subst e1
        cases d with
        | zero =>
          cases m with
          | nil => exact .inr ⟨c, r', rfl, hc⟩
          | cons x m =>
            rw [List.all_cons, Bool.and_eq_true] at hm
            exact .inr ⟨x, m ++ c :: r', rfl, white_not hm.1⟩
        | succ d => exact .inr ⟨c, _, rfl, hc⟩
theorem lex_white {s : List UInt8} {l : List Tok} {k : Nat} {t : Tok} {m : List UInt8} (h : lexG 0 s = .ok l) (hm : m.all whiteB = true) (hk : l[k]? = some t) :
    lexG 0 (s.take t.pos ++ (m ++ s.drop t.pos)) = .ok (whiteG m.length k l) :=
  spells_lexG _ _ _ (spells_white l 0 s k m t (lexG_spells s.length s 0 l (Nat.le_refl _) h) hm hk)

/-- A number's digits. -/
def digG (n : Nat) : List UInt8 := if n < 10 then [UInt8.ofNat (48 + n)] else digG (n / 10) ++ [UInt8.ofNat (48 + n % 10)]
theorem digit_of {d : Nat} (h : d < 10) : digitB (UInt8.ofNat (48 + d)) = true ∧ (UInt8.ofNat (48 + d)).toNat = 48 + d := by
  have e : (UInt8.ofNat (48 + d)).toNat = 48 + d := by rw [UInt8.toNat_ofNat']; omega
  refine ⟨?_, e⟩
  unfold digitB
  rw [Bool.and_eq_true, decide_eq_true_iff, decide_eq_true_iff, UInt8.le_iff_toNat_le, UInt8.le_iff_toNat_le, e]
  simp
  omega
theorem valD_snoc (a : List UInt8) (c : UInt8) : valD (a ++ [c]) = 10 * valD a + ((c.toNat : Int) - 48) := by
  unfold valD
  rw [List.foldl_append]
  rfl
theorem dig_facts : ∀ (m n : Nat), n ≤ m → valD (digG n) = n ∧ (digG n).all digitB = true ∧ 0 < (digG n).length ∧ (0 < n → (digG n).head? ≠ some 48) ∧ (n < 10 → (digG n).length = 1)
  | m, n, hm => by
    by_cases h : n < 10
    · rw [digG, if_pos h]
      have ⟨h1, h2⟩ := digit_of h
      refine ⟨?_, by rw [List.all_cons, h1]; rfl, by simp, fun h0 e => ?_, fun _ => rfl⟩
      · show 10 * 0 + (((UInt8.ofNat (48 + n)).toNat : Int) - 48) = n
        rw [h2]; omega
      · simp only [List.head?_cons, Option.some.injEq] at e
        rw [e] at h2
        have : (48 : UInt8).toNat = 48 := rfl
        omega
    · cases m with
      | zero => omega
      | succ m =>
        obtain ⟨i1, i2, i3, i4, _⟩ := dig_facts m (n / 10) (by omega)
        have ⟨h1, h2⟩ := digit_of (d := n % 10) (by omega)
        rw [digG, if_neg h]
        refine ⟨?_, ?_, by simp, fun _ => ?_, fun h' => absurd h' h⟩
        · rw [valD_snoc, i1, h2]; omega
        · rw [List.all_append, i2, List.all_cons, h1]; rfl
        · cases hd : digG (n / 10) with
          | nil => rw [hd] at i3; simp at i3
          | cons x r =>
            have := i4 (by omega)
            rw [hd] at this
            simpa using this
theorem dig_num {n : Nat} (h : n ≤ 1099511627776) : isNum (digG n) = true := by
  obtain ⟨i1, i2, i3, i4, i5⟩ := dig_facts n n (Nat.le_refl _)
  unfold isNum
  simp only [Bool.and_eq_true, Bool.or_eq_true, decide_eq_true_iff, i1, i2]
  refine ⟨⟨⟨?_, trivial⟩, ?_⟩, by omega⟩
  · cases hd : digG n with
    | nil => rw [hd] at i3; simp at i3
    | cons x r => rfl
  · by_cases h0 : 0 < n
    · right; simpa using i4 h0
    · left; simpa using i5 (by omega)
theorem dig_far {n : Nat} (h : 1099511627776 < n) : isNum (digG n) = false := by
  obtain ⟨i1, _⟩ := dig_facts n n (Nat.le_refl _)
  unfold isNum
  rw [i1, show decide ((n : Int) ≤ 1099511627776) = false from decide_eq_false (by omega), Bool.and_false]
theorem dig_zero (n : Nat) : isNum (48 :: digG n) = false := by
  obtain ⟨_, _, i3, _⟩ := dig_facts n n (Nat.le_refl _)
  unfold isNum
  have e1 : ((48 :: digG n).length == 1) = false := by
    simp only [List.length_cons, beq_eq_false_iff_ne]
    omega
  rw [e1]
  simp
theorem digit_letter {c : UInt8} (h : digitB c = true) : letterB c = false := by
  unfold digitB at h
  unfold letterB
  rw [Bool.and_eq_true, decide_eq_true_iff, decide_eq_true_iff, UInt8.le_iff_toNat_le, UInt8.le_iff_toNat_le] at h
  rw [Bool.and_eq_false_iff]
  left
  rw [decide_eq_false_iff_not, UInt8.le_iff_toNat_le]
  have e1 : (57 : UInt8).toNat = 57 := rfl
  have e2 : (97 : UInt8).toNat = 97 := rfl
  omega
theorem dig_word (n : Nat) : isWord (digG n) = false := by
  obtain ⟨_, i2, i3, _⟩ := dig_facts n n (Nat.le_refl _)
  unfold isWord
  cases hd : digG n with
  | nil => rfl
  | cons x r =>
    rw [hd, List.all_cons, Bool.and_eq_true] at i2
    rw [List.all_cons, digit_letter i2.1]
    simp
theorem dig_ok {n : Nat} (h : n ≤ 1099511627776) : okTok (digG n) 1 n := by
  obtain ⟨i1, i2, i3, _⟩ := dig_facts n n (Nat.le_refl _)
  refine ⟨?_, .inr ⟨List.length_pos_iff.1 i3, ?_⟩⟩
  · unfold kindOf
    rw [if_pos (dig_num h), i1]
  · rw [List.all_eq_true] at i2 ⊢
    intro x hx
    unfold alnumB
    rw [i2 x hx, Bool.or_true]
/-- The text of numbers, each with a blank behind it, and its tokens. -/
def numsG (l : List Nat) : List UInt8 := l.flatMap fun n => digG n ++ [32]
def ntoks (p : Nat) : List Nat → List Tok
  | [] => []
  | n :: l => ⟨1, digG n, n, p⟩ :: ntoks (p + (digG n).length + 1) l
theorem lex_nums : ∀ (l : List Nat) (p : Nat), (∀ n ∈ l, n ≤ 1099511627776) → lexG p (numsG l) = .ok (ntoks p l)
  | [], p, _ => lexG_nil p
  | n :: l, p, h => by
    have e : numsG (n :: l) = digG n ++ (32 :: numsG l) := by simp [numsG]
    rw [e, lexG_tok (dig_ok (h n (by simp))) (fun _ => .inr ⟨32, _, rfl, by decide⟩), lexG_white (by decide), lex_nums l _ fun x hx => h x (List.mem_cons_of_mem _ hx)]
    rfl
theorem ntoks_len : ∀ (l : List Nat) (p : Nat), (ntoks p l).length = l.length
  | [], _ => rfl
  | n :: l, p => by simp only [ntoks, List.length_cons, ntoks_len l]
theorem ntoks_get : ∀ (l : List Nat) (p i : Nat) (t : Tok), (ntoks p l)[i]? = some t → t.kind = 1 ∧ ∃ n, l[i]? = some n ∧ t.num = n
  | [], _, _, _, h => by simp [ntoks] at h
  | n :: l, p, 0, t, h => by
    simp only [ntoks, List.getElem?_cons_zero, Option.some.injEq] at h
    subst h
    exact ⟨rfl, n, rfl, rfl⟩
  | n :: l, p, i + 1, t, h => by
    simp only [ntoks, List.getElem?_cons_succ] at h
    exact ntoks_get l _ i t h
end Go.Proofs.YtaeipfnpglbooaaDoor

namespace Go.Proofs.YtaeipfnpglbooaaDoor

/-- A part. -/
structure Prt where
  kind : Nat
  n : Nat
  g : Nat
  d : Int
  kids : Int
deriving DecidableEq
/-- Terms beside each other: the first one's part (its number of children is told by its children), its children, the others. -/
inductive Fst where
  | nil : Fst
  | cons (x : Prt) (kids next : Fst) : Fst
def Fst.len : Fst → Nat
  | .nil => 0
  | .cons _ _ next => next.len + 1
def Fst.size : Fst → Nat
  | .nil => 0
  | .cons _ kids next => kids.size + next.size + 1
def Fst.depth : Fst → Nat
  | .nil => 0
  | .cons _ kids next => max (kids.depth + 1) next.depth
def Fst.flat : Fst → List Prt
  | .nil => []
  | .cons x kids next => { x with kids := kids.len } :: (kids.flat ++ next.flat)
theorem flat_len : ∀ F : Fst, F.flat.length = F.size
  | .nil => rfl
  | .cons x kids next => by simp only [Fst.flat, Fst.size, List.length_cons, List.length_append, flat_len kids, flat_len next]
theorem len_size : ∀ F : Fst, F.len ≤ F.size
  | .nil => Nat.le_refl _
  | .cons x kids next => by simp only [Fst.len, Fst.size]; have := len_size next; omega
/-- A part whose numbers are of its fields' kinds. -/
def PrtW (x : Prt) : Prop := x.kind ≤ 255 ∧ x.n ≤ 4294967295 ∧ x.g ≤ 4294967295 ∧ (-9223372036854775808 ≤ x.d ∧ x.d ≤ 9223372036854775807) ∧ -9223372036854775808 ≤ x.kids ∧ x.kids ≤ 9223372036854775807
end Go.Proofs.YtaeipfnpglbooaaDoor

namespace Go.Proofs.YtaeipfnpglbooaaDoor

/-- Where what begins at a place ends: the run there, or the one byte. -/
def bhd (s : List UInt8) (k : Nat) : Nat := max (k + ((s.drop k).takeWhile alnumB).length) (k + 1)
theorem bhd_gt (s : List UInt8) (k : Nat) : k < bhd s k := by unfold bhd; omega
theorem takeWhile_len {p : UInt8 → Bool} (l : List UInt8) : (l.takeWhile p).length ≤ l.length := (List.takeWhile_sublist p).length_le
theorem bhd_le {s : List UInt8} {k : Nat} (h : k < s.length) : bhd s k ≤ s.length := by
  unfold bhd
  have := takeWhile_len (p := alnumB) (s.drop k)
  rw [List.length_drop] at this
  omega
/-- The runs of a text from a place on, and the single bytes that are in none and not white. -/
def itemsG : Nat → Nat → List UInt8 → List (Nat × List UInt8)
  | 0, _, _ => []
  | n + 1, k, s => if k < s.length then (if whiteB (s.getD k 0) then [] else [(k, (s.drop k).take (bhd s k - k))]) ++ itemsG n (bhd s k) s else []
theorem items_end {n k : Nat} {s : List UInt8} (h : ¬ k < s.length) : itemsG n k s = [] := by
  cases n with
  | zero => rfl
  | succ n => rw [itemsG, if_neg h]
theorem items_white {n k : Nat} {s : List UInt8} (h : k < s.length) (hw : whiteB (s.getD k 0) = true) : itemsG (n + 1) k s = itemsG n (bhd s k) s := by
  rw [itemsG, if_pos h, if_pos hw, List.nil_append]
theorem items_run {n k : Nat} {s : List UInt8} (h : k < s.length) (hw : whiteB (s.getD k 0) = false) : itemsG (n + 1) k s = (k, (s.drop k).take (bhd s k - k)) :: itemsG n (bhd s k) s := by
  rw [itemsG, if_pos h, if_neg (by rw [hw]; decide)]
  rfl
/-- The tokens of runs, or the place of the first that is none. -/
def lexI : List (Nat × List UInt8) → Except Nat (List Tok)
  | [] => .ok []
  | x :: l => match kindOf x.2 with
    | none => .error x.1
    | some k => (lexI l).map (⟨k.1, x.2, k.2, x.1⟩ :: ·)
theorem drop_at {s : List UInt8} {k : Nat} (h : k < s.length) : s.drop k = s.getD k 0 :: s.drop (k + 1) := by
  rw [List.drop_eq_getElem_cons h, List.getD_eq_getElem?_getD, List.getElem?_eq_getElem h]
  rfl
theorem takeWhile_take {p : UInt8 → Bool} : ∀ (l : List UInt8), l.take (l.takeWhile p).length = l.takeWhile p ∧ l.drop (l.takeWhile p).length = l.dropWhile p
  | [] => ⟨rfl, rfl⟩
  | c :: r => by
    obtain ⟨h1, h2⟩ := takeWhile_take (p := p) r
    cases hc : p c
    · rw [List.takeWhile_cons, List.dropWhile_cons, hc]; exact ⟨rfl, rfl⟩
    · rw [List.takeWhile_cons, List.dropWhile_cons, hc, if_pos rfl, if_pos rfl]
      simp only [List.length_cons, List.take_succ_cons, List.drop_succ_cons, h1, h2, and_self]
theorem lex_items (s : List UInt8) : ∀ (n k : Nat), s.length - k ≤ n → lexG k (s.drop k) = lexI (itemsG n k s)
  | n, k, hn => by
    by_cases h : k < s.length
    · obtain ⟨n, rfl⟩ : ∃ m, n = m + 1 := ⟨n - 1, by omega⟩
      have hg := bhd_gt s k
      have ih := lex_items s n (bhd s k) (by omega)
      cases hw : whiteB (s.getD k 0)
      · rw [items_run h hw, lexI]
        have e : bhd s k = k + 1 ∧ alnumB (s.getD k 0) = false ∨ (bhd s k = k + 1 + ((s.drop (k + 1)).takeWhile alnumB).length ∧ alnumB (s.getD k 0) = true) := by
          unfold bhd
          rw [drop_at h, List.takeWhile_cons]
          cases ha : alnumB (s.getD k 0)
          · left; simp
          · right; simp; omega
        rcases e with ⟨e, ha⟩ | ⟨e, ha⟩
        · rw [e] at ih ⊢
          rw [show k + 1 - k = 1 by omega, drop_at h, lexG, if_neg (by rw [hw]; decide), if_neg (by rw [ha]; decide)]
          rw [List.take_succ_cons, List.take_zero]
          cases hk : kindOf [s.getD k 0] with
          | none => rfl
          | some x => simp only; rw [ih]
        · have e3 : (s.drop k).take (bhd s k - k) = s.getD k 0 :: (s.drop (k + 1)).takeWhile alnumB := by
            rw [e, drop_at h, show k + 1 + ((s.drop (k + 1)).takeWhile alnumB).length - k = ((s.drop (k + 1)).takeWhile alnumB).length + 1 by omega, List.take_succ_cons, (takeWhile_take _).1]
          rw [e3]
          have e4 : s.drop (bhd s k) = (s.drop (k + 1)).dropWhile alnumB := by
            rw [e, ← List.drop_drop, (takeWhile_take _).2]
          rw [e4, e] at ih
          rw [drop_at h, lexG, if_neg (by rw [hw]; decide), if_pos ha]
          cases hk : kindOf (s.getD k 0 :: (s.drop (k + 1)).takeWhile alnumB) with
          | none => rfl
          | some x => simp only; rw [ih, e]
      · rw [items_white h hw, ← ih]
        have ha := white_not hw
        have e : bhd s k = k + 1 := by
          unfold bhd
          rw [drop_at h, List.takeWhile_cons, ha]
          simp
        rw [e, drop_at h, lexG_white hw]
    · rw [items_end h, List.drop_eq_nil_of_le (by omega), lexG_nil]
      rfl
theorem lex_all (s : List UInt8) : lexG 0 s = lexI (itemsG s.length 0 s) := lex_items s s.length 0 (by omega)
/-- The tokens of runs that are all some. -/
def tokI (x : Nat × List UInt8) : Tok := match kindOf x.2 with
  | none => ⟨0, x.2, 0, x.1⟩
  | some k => ⟨k.1, x.2, k.2, x.1⟩
theorem lexI_ok : ∀ (l : List (Nat × List UInt8)), (∀ x ∈ l, (kindOf x.2).isSome = true) → lexI l = .ok (l.map tokI)
  | [], _ => rfl
  | x :: l, h => by
    have h1 := h x (by simp)
    rw [lexI, lexI_ok l fun y hy => h y (List.mem_cons_of_mem _ hy)]
    cases hk : kindOf x.2 with
    | none => rw [hk] at h1; cases h1
    | some k => simp [hk, tokI, Except.map]
theorem lexI_no : ∀ (l : List (Nat × List UInt8)) (x : Nat × List UInt8) (r : List (Nat × List UInt8)), (∀ y ∈ l, (kindOf y.2).isSome = true) → kindOf x.2 = none → lexI (l ++ x :: r) = .error x.1
  | [], x, r, _, h => by rw [List.nil_append, lexI, h]
  | y :: l, x, r, h, hx => by
    have h1 := h y (by simp)
    rw [List.cons_append, lexI, lexI_no l x r (fun z hz => h z (List.mem_cons_of_mem _ hz)) hx]
    cases hk : kindOf y.2 with
    | none => rw [hk] at h1; cases h1
    | some k => simp [Except.map]
theorem items_mem {s : List UInt8} : ∀ (n k : Nat) (x : Nat × List UInt8), x ∈ itemsG n k s → x.2.length ≤ s.length ∧ x.2 ≠ [] ∧ x.1 < s.length
  | 0, _, _, h => by simp [itemsG] at h
  | n + 1, k, x, h => by
    by_cases hk : k < s.length
    · cases hw : whiteB (s.getD k 0)
      · rw [items_run hk hw] at h
        rcases List.mem_cons.1 h with rfl | h
        · have := bhd_gt s k
          refine ⟨by simp only [List.length_take, List.length_drop]; omega, fun e => ?_, hk⟩
          have e2 := congrArg List.length e
          simp only [List.length_take, List.length_drop, List.length_nil] at e2
          omega
        · exact items_mem n _ x h
      · rw [items_white hk hw] at h
        exact items_mem n _ x h
    · rw [items_end hk] at h; simp at h
theorem items_len {s : List UInt8} : ∀ (n k : Nat), (itemsG n k s).length ≤ n
  | 0, _ => by simp [itemsG]
  | n + 1, k => by
    have ih := items_len (s := s) n (bhd s k)
    by_cases hk : k < s.length
    · cases hw : whiteB (s.getD k 0)
      · rw [items_run hk hw, List.length_cons]; omega
      · rw [items_white hk hw]; omega
    · rw [items_end hk]; simp
end Go.Proofs.YtaeipfnpglbooaaDoor

namespace Go.Proofs.YtaeipfnpglbooaaDoor

def lexF : Nat → Nat → List UInt8 → Except Nat (List Tok)
  | _, _, [] => .ok []
  | 0, _, _ :: _ => .error 0
  | n + 1, p, c :: r =>
    if whiteB c then lexF n (p + 1) r
    else if alnumB c then
      match kindOf (c :: r.takeWhile alnumB) with
      | none => .error p
      | some (k, m) => (lexF n (p + 1 + (r.takeWhile alnumB).length) (r.dropWhile alnumB)).map (⟨k, c :: r.takeWhile alnumB, m, p⟩ :: ·)
    else
      match kindOf [c] with
      | none => .error p
      | some (k, m) => (lexF n (p + 1) r).map (⟨k, [c], m, p⟩ :: ·)
theorem lexF_eq : ∀ (n p : Nat) (s : List UInt8), s.length ≤ n → lexF n p s = lexG p s
  | n, p, [], _ => by rw [lexG_nil]; cases n <;> rfl
  | 0, _, c :: r, h => by simp at h
  | n + 1, p, c :: r, h => by
    simp only [List.length_cons] at h
    rw [lexF, lexG]
    have hd := (List.dropWhile_sublist alnumB (l := r)).length_le
    rw [lexF_eq n (p + 1) r (by omega), lexF_eq n _ (r.dropWhile alnumB) (by omega)]
    all_goals
      split
      · rfl
      · split
        · cases kindOf (c :: r.takeWhile alnumB) <;> rfl
        · cases kindOf [c] <;> rfl
/-- The first text of the document's examples. -/
def hd1 : List UInt8 := [40, 97, 116, 111, 109, 32, 50, 32, 49, 32, 49, 48, 41]
def hd1T : List Tok := [⟨2, [40], 0, 0⟩, ⟨0, [97, 116, 111, 109], 0, 1⟩, ⟨1, [50], 2, 6⟩, ⟨1, [49], 1, 8⟩, ⟨1, [49, 48], 10, 10⟩, ⟨3, [41], 0, 12⟩]
theorem hd1_lex : lexG 0 hd1 = .ok hd1T := (lexF_eq 13 0 hd1 (by decide)).symm.trans rfl
theorem hd1_text : textG hd1T = hd1 := rfl
def hd2 : List UInt8 := [102, 114, 111, 109, 32, 48, 32, 116, 111, 32, 57, 58, 32, 120]
def hd2T : List Tok := [⟨0, [102, 114, 111, 109], 0, 0⟩, ⟨1, [48], 0, 5⟩, ⟨0, [116, 111], 0, 7⟩, ⟨1, [57], 9, 10⟩, ⟨4, [58], 0, 11⟩, ⟨0, [120], 0, 13⟩]
theorem hd2_lex : lexG 0 hd2 = .ok hd2T := (lexF_eq 14 0 hd2 (by decide)).symm.trans rfl
theorem hd2_text : textG hd2T = hd2 := rfl
theorem hd3_lex : lexG 0 [97, 49] = .error 0 := (lexF_eq 2 0 _ (by decide)).symm.trans rfl
theorem hd4_lex : lexG 0 [48, 55] = .error 0 := (lexF_eq 2 0 _ (by decide)).symm.trans rfl
theorem hd5_lex : lexG 0 [49, 48, 57, 57, 53, 49, 49, 54, 50, 55, 55, 55, 55] = .error 0 := (lexF_eq 13 0 _ (by decide)).symm.trans rfl
theorem hd6_lex : lexG 0 [97, 32, 45, 32, 98] = .error 2 := (lexF_eq 5 0 _ (by decide)).symm.trans rfl
end Go.Proofs.YtaeipfnpglbooaaDoor
