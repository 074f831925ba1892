/- Lists of times, rising; functions built time by time. No program. No conditions. -/
import Derived.Test.YtibmldgbimjgfaaOfMath
import Derived.Test.YtibmldgbimjgfaaRef2Math
namespace Go.Proofs.Ytibmldgbimjgfaa

/-- A time put into its place among rising ones. -/
def insT (x : Int) : List Int → List Int
  | [] => [x]
  | y :: r => if y < x then y :: insT x r else if y = x then y :: r else x :: y :: r
def timesL (l : List Int) : List Int := l.foldl (fun o x => insT x o) []
theorem insT_at {x : Int} : ∀ {o : List Int} {k : Nat}, k ≤ o.length → (∀ i, i < k → o.getD i 0 < x) → (k < o.length → ¬ o.getD k 0 < x) →
    insT x o = if k < o.length ∧ o.getD k 0 = x then o else o.take k ++ x :: o.drop k
  | [], k, hk, _, _ => by
    have : k = 0 := by simp at hk; exact hk
    subst this
    simp [insT]
  | y :: r, 0, _, _, h2 => by
    have h := h2 (by simp)
    simp at h
    unfold insT
    rw [if_neg (by omega)]
    by_cases e : y = x
    · rw [if_pos e, if_pos ⟨by simp, by simpa using e⟩]
    · rw [if_neg e, if_neg (by intro q; exact e (by simpa using q.2))]
      rfl
  | y :: r, k + 1, hk, h1, h2 => by
    have h := h1 0 (by omega)
    simp at h
    unfold insT
    rw [if_pos h]
    have ih := insT_at (x := x) (o := r) (k := k) (by simp at hk; omega) (fun i hi => by have := h1 (i + 1) (by omega); simpa using this) (fun hk' => by have := h2 (by simp; omega); simpa using this)
    rw [ih]
    by_cases c : k < r.length ∧ r.getD k 0 = x
    · rw [if_pos c, if_pos ⟨by simp; omega, by simpa using c.2⟩]
    · rw [if_neg c, if_neg (by intro q; exact c ⟨by simp at q; omega, by simpa using q.2⟩)]
      rfl
theorem insT_mem {x y : Int} : ∀ {o : List Int}, y ∈ insT x o ↔ y = x ∨ y ∈ o
  | [] => by simp [insT]
  | z :: r => by
    unfold insT
    split
    · rw [List.mem_cons, insT_mem (o := r), List.mem_cons]
      constructor
      · rintro (h | h | h)
        · exact .inr (.inl h)
        · exact .inl h
        · exact .inr (.inr h)
      · rintro (h | h | h)
        · exact .inr (.inl h)
        · exact .inl h
        · exact .inr (.inr h)
    · split
      · rename_i e
        rw [List.mem_cons]
        constructor
        · rintro (h | h)
          · exact .inl (h.trans e)
          · exact .inr (.inr h)
        · rintro (h | h)
          · exact .inl (h.trans e.symm)
          · exact h
      · rw [List.mem_cons]
theorem insT_up {x : Int} : ∀ {o : List Int}, o.Pairwise (· < ·) → (insT x o).Pairwise (· < ·)
  | [], _ => by simp [insT]
  | z :: r, h => by
    have hz := List.pairwise_cons.1 h
    unfold insT
    split
    · rename_i c
      refine List.pairwise_cons.2 ⟨fun y hy => ?_, insT_up hz.2⟩
      rcases insT_mem.1 hy with e | e
      · rw [e]; exact c
      · exact hz.1 y e
    · split
      · exact h
      · rename_i c1 c2
        refine List.pairwise_cons.2 ⟨fun y hy => ?_, h⟩
        rcases List.mem_cons.1 hy with e | e
        · rw [e]; omega
        · have := hz.1 y e; omega
theorem insT_len {x : Int} : ∀ {o : List Int}, (insT x o).length ≤ o.length + 1
  | [] => by simp [insT]
  | z :: r => by
    unfold insT
    split
    · have := insT_len (x := x) (o := r)
      simp only [List.length_cons]; omega
    · split <;> simp
theorem times_aux : ∀ (l o : List Int), o.Pairwise (· < ·) → (l.foldl (fun o x => insT x o) o).Pairwise (· < ·) ∧ (∀ y, y ∈ l.foldl (fun o x => insT x o) o ↔ y ∈ l ∨ y ∈ o) ∧ (l.foldl (fun o x => insT x o) o).length ≤ l.length + o.length
  | [], o, h => ⟨h, fun y => by simp, by simp⟩
  | x :: l, o, h => by
    obtain ⟨h1, h2, h3⟩ := times_aux l (insT x o) (insT_up h)
    refine ⟨h1, fun y => ?_, ?_⟩
    · rw [List.foldl_cons, h2, insT_mem, List.mem_cons]
      constructor
      · rintro (h | h | h)
        · exact .inl (.inr h)
        · exact .inl (.inl h)
        · exact .inr h
      · rintro ((h | h) | h)
        · exact .inr (.inl h)
        · exact .inl h
        · exact .inr (.inr h)
    · have := insT_len (x := x) (o := o)
      rw [List.foldl_cons]
      simp only [List.length_cons]; omega
theorem timesL_up (l : List Int) : (timesL l).Pairwise (· < ·) := (times_aux l [] List.Pairwise.nil).1
theorem timesL_mem {l : List Int} {y : Int} : y ∈ timesL l ↔ y ∈ l := by
  have := (times_aux l [] List.Pairwise.nil).2.1 y
  unfold timesL; rw [this]; simp
theorem timesL_len (l : List Int) : (timesL l).length ≤ l.length := by
  have := (times_aux l [] List.Pairwise.nil).2.2
  unfold timesL; simpa using this
theorem timesL_step {l : List Int} {k : Nat} (h : k < l.length) : timesL (l.take (k + 1)) = insT (l.getD k 0) (timesL (l.take k)) := by
  unfold timesL
  rw [List.take_succ_eq_append_getElem h, List.foldl_append, getD_get _ _ _ h]; rfl

/-- A function built time by time. -/
def buildL (g : Int → Int × Int) (ts : List Int) : List Sg := ts.foldl (fun f t => withL f t (g t)) []
theorem buildL_snoc (g : Int → Int × Int) (ts : List Int) (t : Int) : buildL g (ts ++ [t]) = withL (buildL g ts) t (g t) := by unfold buildL; rw [List.foldl_append]; rfl
def gval (g : Int → Int × Int) (ts : List Int) (t : Int) : Int × Int := ts.foldl (fun acc t' => if t' ≤ t then g t' else acc) (0, 0)
theorem gval_snoc (g : Int → Int × Int) (ts : List Int) (t t0 : Int) : gval g (ts ++ [t0]) t = if t0 ≤ t then g t0 else gval g ts t := by unfold gval; rw [List.foldl_append]; rfl
theorem cf_snoc : ∀ {f : List Sg} {last : Int × Int} {t : Int} {v : Int × Int}, CF last f → (∀ x ∈ f, x.1 < t) → okS (t, v) = true → v ≠ (if f = [] then last else lastV f) → CF last (f ++ [(t, v)])
  | [], last, t, v, _, _, h3, h4 => ⟨h3, by rw [if_pos rfl] at h4; exact h4, fun x hx => by simp at hx, trivial⟩
  | s :: r, last, t, v, h1, h2, h3, h4 => by
    obtain ⟨a1, a2, a3, a4⟩ := h1
    refine ⟨a1, a2, fun x hx => ?_, cf_snoc a4 (fun x hx => h2 x (List.mem_cons_of_mem _ hx)) h3 ?_⟩
    · rcases List.mem_append.1 hx with h | h
      · exact a3 x h
      · simp at h; subst h; exact h2 s (by simp)
    · rw [if_neg (by simp)] at h4
      unfold lastV at h4
      rw [if_neg (by simp)] at h4
      cases r with
      | nil => simpa [vls] using h4
      | cons u r' =>
        rw [if_neg (by simp)]
        unfold lastV
        rw [if_neg (by simp)]
        simpa [vls] using h4
theorem lastV_nil : lastV [] = (0, 0) := rfl
theorem lastV_snoc (f : List Sg) (s : Sg) : lastV (f ++ [s]) = s.2 := by
  unfold lastV vls
  rw [if_neg (by simp)]
  have e : (f ++ [s]).length - 1 = f.length := by simp
  rw [e, getD_app_r]
theorem vat_all : ∀ (n : Nat) (f : List Sg) (t : Int), f.length = n → (∀ x ∈ f, x.1 ≤ t) → vat f t = lastV f
  | 0, f, t, h, _ => by
    have : f = [] := List.eq_nil_of_length_eq_zero h
    subst this; rfl
  | n + 1, f, t, h, hx => by
    obtain ⟨f', s, rfl⟩ : ∃ l' s, f = l' ++ [s] := ⟨f.dropLast, f.getLast (by intro e; subst e; simp at h), (List.dropLast_concat_getLast _).symm⟩
    rw [vat_snoc, lastV_snoc, if_pos (hx s (by simp))]

theorem buildL_all (g : Int → Int × Int) : ∀ (n : Nat) (ts : List Int), ts.length = n → ts.Pairwise (· < ·) → (∀ t ∈ ts, okS (t, g t) = true) →
    CF (0, 0) (buildL g ts) ∧ (∀ x ∈ buildL g ts, x.1 ∈ ts) ∧ (∀ t, vat (buildL g ts) t = gval g ts t) ∧ (buildL g ts).length ≤ ts.length
  | 0, ts, h, _, _ => by
    have : ts = [] := List.eq_nil_of_length_eq_zero h
    subst this
    exact ⟨trivial, fun x hx => by simp [buildL] at hx, fun t => rfl, Nat.le_refl _⟩
  | n + 1, ts, h, hu, ho => by
    obtain ⟨ts', t0, rfl⟩ : ∃ l' s, ts = l' ++ [s] := ⟨ts.dropLast, ts.getLast (by intro e; subst e; simp at h), (List.dropLast_concat_getLast _).symm⟩
    have hu' := List.pairwise_append.1 hu
    obtain ⟨i1, i2, i3, i4⟩ := buildL_all g n ts' (by simp at h; omega) hu'.1 (fun t ht => ho t (by simp [ht]))
    have hlt : ∀ x ∈ buildL g ts', x.1 < t0 := fun x hx => hu'.2.2 x.1 (i2 x hx) t0 (by simp)
    rw [buildL_snoc]
    unfold withL
    by_cases c : g t0 = lastV (buildL g ts')
    · rw [if_pos c]
      refine ⟨i1, fun x hx => by simp [i2 x hx], fun t => ?_, by simp; omega⟩
      rw [gval_snoc]
      by_cases k : t0 ≤ t
      · rw [if_pos k, c]
        exact vat_all _ _ t rfl (fun x hx => by have := hlt x hx; omega)
      · rw [if_neg k]; exact i3 t
    · rw [if_neg c]
      refine ⟨cf_snoc i1 hlt (ho t0 (by simp)) ?_, fun x hx => ?_, fun t => ?_, by simp; omega⟩
      · split
        · rename_i e
          rw [e] at c; exact c
        · exact c
      · rcases List.mem_append.1 hx with q | q
        · simp [i2 x q]
        · simp at q; subst q; simp
      · rw [vat_snoc, gval_snoc, i3]

theorem gval_none {g : Int → Int × Int} {t : Int} : ∀ (n : Nat) (ts : List Int), ts.length = n → (∀ x ∈ ts, t < x) → gval g ts t = (0, 0)
  | 0, ts, h, _ => by
    have : ts = [] := List.eq_nil_of_length_eq_zero h
    subst this; rfl
  | n + 1, ts, h, hx => by
    obtain ⟨ts', t0, rfl⟩ : ∃ l' s, ts = l' ++ [s] := ⟨ts.dropLast, ts.getLast (by intro e; subst e; simp at h), (List.dropLast_concat_getLast _).symm⟩
    have := hx t0 (by simp)
    rw [gval_snoc, if_neg (by omega)]
    exact gval_none n ts' (by simp at h; omega) fun x hx' => hx x (by simp [hx'])
theorem gval_some {g : Int → Int × Int} {t s : Int} : ∀ (n : Nat) (ts : List Int), ts.length = n → ts.Pairwise (· < ·) → s ∈ ts → s ≤ t → (∀ x ∈ ts, x ≤ t → x ≤ s) → gval g ts t = g s
  | 0, ts, h, _, hm, _, _ => by
    have : ts = [] := List.eq_nil_of_length_eq_zero h
    subst this; simp at hm
  | n + 1, ts, h, hu, hm, hs, hx => by
    obtain ⟨ts', t0, rfl⟩ : ∃ l' s, ts = l' ++ [s] := ⟨ts.dropLast, ts.getLast (by intro e; subst e; simp at h), (List.dropLast_concat_getLast _).symm⟩
    have hu' := List.pairwise_append.1 hu
    rw [gval_snoc]
    rcases List.mem_append.1 hm with q | q
    · have h1 := hu'.2.2 s q t0 (by simp)
      have h2 : ¬ t0 ≤ t := fun h2 => by have := hx t0 (by simp) h2; omega
      rw [if_neg h2]
      exact gval_some n ts' (by simp at h; omega) hu'.1 q hs fun x hx' => hx x (by simp [hx'])
    · simp at q; subst q
      rw [if_pos hs]

theorem rawAt_last {l : List Sg} {t : Int} {i : Nat} (hi : i < l.length) (h1 : ats l i = t) (h2 : ∀ j, i < j → j < l.length → ats l j ≠ t) : ∀ k, i < k → k ≤ l.length → rawAt (l.take k) t = vls l i
  | 0, h, _ => by omega
  | k + 1, h, hk => by
    rw [rawAt_step (by omega)]
    by_cases e : k = i
    · subst e; rw [if_pos h1]
    · rw [if_neg (h2 k (by omega) (by omega))]
      exact rawAt_last hi h1 h2 k (by omega) (by omega)
theorem rawAt_okS {l : List Sg} {t : Int} (ho : ∀ x ∈ l, okS x = true) (ht : t ∈ l.map (·.1)) : okS (t, rawAt l t) = true := by
  have : ∀ k, k ≤ l.length → rawAt (l.take k) t = (0, 0) ∨ okS (t, rawAt (l.take k) t) = true := by
    intro k
    induction k with
    | zero => intro _; left; simp [rawAt]
    | succ k ih =>
      intro hk
      rw [rawAt_step (by omega)]
      split
      · rename_i e
        right
        have := ho _ (List.getElem_mem (show k < l.length by omega))
        unfold ats at e
        unfold vls
        rw [getD_get _ _ _ (by omega)] at e ⊢
        rw [← e]; exact this
      · exact ih (by omega)
  have h := this l.length (Nat.le_refl _)
  rw [List.take_length] at h
  rcases h with h | h
  · rw [h]
    rw [List.mem_map] at ht
    obtain ⟨x, hx, rfl⟩ := ht
    have := ho x hx
    unfold okS at this ⊢
    rw [Bool.and_eq_true] at this ⊢
    exact ⟨this.1, (show okV 0 0 = true by decide)⟩
  · exact h

/-- The document's own way comes to the canonical function. -/
theorem isOf_build {l : List Sg} (ho : ∀ x ∈ l, okS x = true) : IsOf l (buildL (rawAt l) (timesL (l.map (·.1)))) := by
  obtain ⟨h1, h2, h3, h4⟩ := buildL_all (rawAt l) _ (timesL (l.map (·.1))) rfl (timesL_up _) (fun t ht => rawAt_okS ho (timesL_mem.1 ht))
  refine ⟨h1, fun t => ?_, Nat.le_trans h4 (by have := timesL_len (l.map (·.1)); simpa using this)⟩
  rw [h3]
  have hmem : ∀ j, j < l.length → ats l j ∈ timesL (l.map (·.1)) := fun j hj => by
    rw [timesL_mem, List.mem_map]
    exact ⟨l[j], List.getElem_mem hj, by unfold ats; rw [getD_get _ _ _ hj]⟩
  have hmem' : ∀ x ∈ timesL (l.map (·.1)), ∃ j, j < l.length ∧ ats l j = x := fun x hx => by
    rw [timesL_mem, List.mem_map] at hx
    obtain ⟨s, hs, rfl⟩ := hx
    obtain ⟨j, hj, rfl⟩ := List.getElem_of_mem hs
    exact ⟨j, hj, by unfold ats; rw [getD_get _ _ _ hj]⟩
  rcases rread_char t _ l rfl with ⟨e, hgt⟩ | ⟨i, ht, e⟩
  · unfold rv; rw [e]
    exact gval_none _ _ rfl fun x hx => by
      obtain ⟨j, hj, rfl⟩ := hmem' x hx
      exact hgt j hj
  · unfold rv; rw [e]
    rw [gval_some (s := ats l i) _ _ rfl (timesL_up _) (hmem i ht.1) ht.2.1 (fun x hx hxt => by
      obtain ⟨j, hj, rfl⟩ := hmem' x hx
      have := ht.2.2 j hj hxt
      omega)]
    have := rawAt_last (l := l) (t := ats l i) ht.1 rfl (fun j hij hj e => by
      have hjt : ats l j ≤ t := by rw [e]; exact ht.2.1
      have := ht.2.2 j hj hjt
      omega) l.length ht.1 (Nat.le_refl _)
    rw [List.take_length] at this
    exact this
end Go.Proofs.Ytibmldgbimjgfaa
