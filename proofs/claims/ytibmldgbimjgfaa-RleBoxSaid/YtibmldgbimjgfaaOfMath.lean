/- The canonical function of raw runs: what the compressing of sorted runs comes to; canonical functions of the same values are the same. No program. No conditions. -/
import Derived.Test.YtibmldgbimjgfaaRleMath
namespace Go.Proofs.Ytibmldgbimjgfaa

def okT (x : Int) : Bool := decide (-1125899906842624 ≤ x ∧ x ≤ 1125899906842624)
/-- A run that may be. -/
def okS (s : Sg) : Bool := okT s.1 && okV s.2.1 s.2.2
theorem okT_iff {x : Int} : okT x = true ↔ (-1125899906842624 ≤ x ∧ x ≤ 1125899906842624) := by unfold okT; exact decide_eq_true_iff

/-- The last run of a time counts; what repeats the vector ahead of it is left out. -/
def cmpr : Int × Int → List Sg → List Sg
  | _, [] => []
  | last, [s] => if s.2 = last then [] else [s]
  | last, s :: t :: r => if t.1 = s.1 then cmpr last (t :: r) else if s.2 = last then cmpr last (t :: r) else s :: cmpr s.2 (t :: r)

theorem cmpr_mem : ∀ (r : List Sg) (last : Int × Int) (x : Sg), x ∈ cmpr last r → x ∈ r
  | [], _, _, h => by simp [cmpr] at h
  | [s], last, x, h => by
    unfold cmpr at h
    split at h
    · simp at h
    · exact h
  | s :: t :: r, last, x, h => by
    unfold cmpr at h
    split at h
    · exact List.mem_cons_of_mem _ (cmpr_mem (t :: r) last x h)
    · split at h
      · exact List.mem_cons_of_mem _ (cmpr_mem (t :: r) last x h)
      · rcases List.mem_cons.1 h with h | h
        · exact h ▸ List.mem_cons_self
        · exact List.mem_cons_of_mem _ (cmpr_mem (t :: r) _ x h)
theorem cmpr_len : ∀ (r : List Sg) (last : Int × Int), (cmpr last r).length ≤ r.length
  | [], _ => by simp [cmpr]
  | [s], last => by unfold cmpr; split <;> simp
  | s :: t :: r, last => by
    have h1 := cmpr_len (t :: r) last
    have h2 := cmpr_len (t :: r) s.2
    unfold cmpr
    simp only [List.length_cons] at *
    split
    · omega
    · split
      · omega
      · simp only [List.length_cons]; omega

/-- The times of a list do not fall. -/
def Up (r : List Sg) : Prop := r.Pairwise fun a b => a.1 ≤ b.1

theorem foldl_c {t : Int} {last : Int × Int} {s : Sg} {r : List Sg} : (s :: r).foldl (stepV t) last = r.foldl (stepV t) (stepV t last s) := rfl

theorem cmpr_val (t : Int) : ∀ (r : List Sg) (last : Int × Int), Up r → (cmpr last r).foldl (stepV t) last = r.foldl (stepV t) last
  | [], _, _ => rfl
  | [s], last, _ => by
    unfold cmpr
    split
    · rename_i h
      show last = stepV t last s
      unfold stepV; split
      · exact h.symm
      · rfl
    · rfl
  | s :: u :: r, last, h => by
    have hu : Up (u :: r) := (List.pairwise_cons.1 h).2
    have hs := (List.pairwise_cons.1 h).1
    unfold cmpr
    split
    · rename_i e
      rw [cmpr_val t (u :: r) last hu, List.foldl_cons, List.foldl_cons, List.foldl_cons]
      congr 1
      unfold stepV
      rw [e]
      split <;> rfl
    · rename_i e
      split
      · rename_i e2
        rw [cmpr_val t (u :: r) last hu, foldl_c (s := s) (r := u :: r)]
        congr 1
        unfold stepV
        split
        · exact e2.symm
        · rfl
      · rw [foldl_c (s := s) (r := cmpr s.2 (u :: r)), foldl_c (s := s) (r := u :: r)]
        by_cases c : s.1 ≤ t
        · have e3 : stepV t last s = s.2 := by unfold stepV; rw [if_pos c]
          rw [e3]
          exact cmpr_val t (u :: r) s.2 hu
        · have e3 : stepV t last s = last := by unfold stepV; rw [if_neg c]
          rw [e3, foldl_gt t _ _ (fun x hx => ?_), foldl_gt t _ _ (fun x hx => ?_)]
          · have := hs x hx; omega
          · have := hs x (cmpr_mem _ _ _ hx); omega

/-- A canonical function behind the vector last. -/
def CF : Int × Int → List Sg → Prop
  | _, [] => True
  | last, s :: r => okS s = true ∧ s.2 ≠ last ∧ (∀ x ∈ r, s.1 < x.1) ∧ CF s.2 r

theorem cmpr_cf : ∀ (r : List Sg) (last : Int × Int), Up r → (∀ x ∈ r, okS x = true) → CF last (cmpr last r)
  | [], _, _, _ => trivial
  | [s], last, _, ho => by
    unfold cmpr
    split
    · trivial
    · rename_i h
      exact ⟨ho s (by simp), h, fun x hx => by simp at hx, trivial⟩
  | s :: u :: r, last, h, ho => by
    have hu : Up (u :: r) := (List.pairwise_cons.1 h).2
    have hs := (List.pairwise_cons.1 h).1
    have ho' : ∀ x ∈ u :: r, okS x = true := fun x hx => ho x (List.mem_cons_of_mem _ hx)
    unfold cmpr
    split
    · exact cmpr_cf (u :: r) last hu ho'
    · rename_i e
      split
      · exact cmpr_cf (u :: r) last hu ho'
      · rename_i e2
        refine ⟨ho s (by simp), e2, fun x hx => ?_, cmpr_cf (u :: r) s.2 hu ho'⟩
        have h1 := hs u (by simp)
        have hx' := cmpr_mem _ _ _ hx
        rcases List.mem_cons.1 hx' with h2 | h2
        · rw [h2]; omega
        · have := (List.pairwise_cons.1 hu).1 x h2
          omega

/-- Two canonical functions, each with the other's vector at its own times, are the same. -/
theorem cf_unique : ∀ (f g : List Sg) (last : Int × Int), CF last f → CF last g → (∀ s ∈ f, g.foldl (stepV s.1) last = s.2) → (∀ s ∈ g, f.foldl (stepV s.1) last = s.2) → f = g
  | [], [], _, _, _, _, _ => rfl
  | [], s :: r, last, _, hg, _, h2 => by
    have := h2 s (by simp)
    exact absurd this.symm hg.2.1
  | s :: r, [], last, hf, _, h1, _ => by
    have := h1 s (by simp)
    exact absurd this.symm hf.2.1
  | s :: r, s' :: r', last, hf, hg, h1, h2 => by
    obtain ⟨_, f2, f3, f4⟩ := hf
    obtain ⟨_, g2, g3, g4⟩ := hg
    have k1 := h1 s (by simp)
    have k2 := h2 s' (by simp)
    have et : s.1 = s'.1 := by
      rcases Int.lt_trichotomy s.1 s'.1 with c | c | c
      · rw [foldl_gt _ _ _ (fun x hx => by
          rcases List.mem_cons.1 hx with hx | hx
          · rw [hx]; exact c
          · have := g3 x hx; omega)] at k1
        exact absurd k1.symm f2
      · exact c
      · rw [foldl_gt _ _ _ (fun x hx => by
          rcases List.mem_cons.1 hx with hx | hx
          · rw [hx]; exact c
          · have := f3 x hx; omega)] at k2
        exact absurd k2.symm g2
    have ev : s.2 = s'.2 := by
      rw [List.foldl_cons, foldl_gt _ _ _ (fun x hx => by have := g3 x hx; omega)] at k1
      unfold stepV at k1
      rw [if_pos (by omega)] at k1
      exact k1.symm
    have es : s = s' := Prod.ext et ev
    subst es
    have : r = r' := cf_unique r r' s.2 f4 g4 (fun x hx => by
        have := h1 x (List.mem_cons_of_mem _ hx)
        rw [List.foldl_cons] at this
        have e : stepV x.1 last s = s.2 := by unfold stepV; rw [if_pos (Int.le_of_lt (f3 x hx))]
        rw [e] at this; exact this) (fun x hx => by
        have := h2 x (List.mem_cons_of_mem _ hx)
        rw [List.foldl_cons] at this
        have e : stepV x.1 last s = s.2 := by unfold stepV; rw [if_pos (Int.le_of_lt (g3 x hx))]
        rw [e] at this; exact this)
    rw [this]
/-- A canonical function has at its own times its own vectors. -/
theorem cf_own : ∀ (f : List Sg) (last : Int × Int), CF last f → ∀ s ∈ f, f.foldl (stepV s.1) last = s.2
  | [], _, _, s, hs => by simp at hs
  | x :: r, last, h, s, hs => by
    obtain ⟨_, _, f3, f4⟩ := h
    rw [List.foldl_cons]
    rcases List.mem_cons.1 hs with e | e
    · subst e
      rw [foldl_gt _ _ _ (fun y hy => by have := f3 y hy; omega)]
      unfold stepV; rw [if_pos (Int.le_refl _)]
    · have : stepV s.1 last x = x.2 := by unfold stepV; rw [if_pos (Int.le_of_lt (f3 s e))]
      rw [this]; exact cf_own r x.2 f4 s e
theorem cf_ext {f g : List Sg} {last : Int × Int} (hf : CF last f) (hg : CF last g) (h : ∀ t, f.foldl (stepV t) last = g.foldl (stepV t) last) : f = g :=
  cf_unique f g last hf hg (fun s hs => by rw [← h]; exact cf_own f last hf s hs) (fun s hs => by rw [h]; exact cf_own g last hg s hs)
theorem CF.up : ∀ {f : List Sg} {last : Int × Int}, CF last f → f.Pairwise fun a b => a.1 < b.1
  | [], _, _ => List.Pairwise.nil
  | _ :: _, _, h => List.pairwise_cons.2 ⟨h.2.2.1, h.2.2.2.up⟩
theorem CF.ok : ∀ {f : List Sg} {last : Int × Int}, CF last f → ∀ x ∈ f, okS x = true
  | [], _, _, _, hx => by simp at hx
  | s :: r, _, h, x, hx => by
    rcases List.mem_cons.1 hx with e | e
    · subst e; exact h.1
    · exact h.2.2.2.ok x e

/-- A canonical function. -/
def Canon (f : List Sg) : Prop := CF (0, 0) f

/-- The reading of raw runs: the vector, the time, whether one was met. -/
def rstep (t : Int) (st : (Int × Int) × Int × Bool) (s : Sg) : (Int × Int) × Int × Bool := if s.1 ≤ t ∧ (st.2.2 = false ∨ st.2.1 ≤ s.1) then (s.2, s.1, true) else st
def rread (l : List Sg) (t : Int) : (Int × Int) × Int × Bool := l.foldl (rstep t) ((0, 0), 0, false)
/-- The value of raw runs at a time. -/
def rv (l : List Sg) (t : Int) : Int × Int := (rread l t).1

/-- i is the place that counts at the time t. -/
def Top (l : List Sg) (t : Int) (i : Nat) : Prop := i < l.length ∧ ats l i ≤ t ∧ ∀ j, j < l.length → ats l j ≤ t → ats l j < ats l i ∨ (ats l j = ats l i ∧ j ≤ i)
theorem Top.unique {l : List Sg} {t : Int} {i j : Nat} (h : Top l t i) (h' : Top l t j) : i = j := by
  have h1 := h.2.2 j h'.1 h'.2.1
  have h2 := h'.2.2 i h.1 h.2.1
  omega

theorem getD_app_l {l : List Sg} {s : Sg} {i : Nat} (h : i < l.length) : (l ++ [s]).getD i (0, 0, 0) = l.getD i (0, 0, 0) := by
  rw [getD_get _ _ _ (by simp; omega), getD_get _ _ _ h, List.getElem_append_left h]
theorem getD_app_r {l : List Sg} {s : Sg} : (l ++ [s]).getD l.length (0, 0, 0) = s := by
  rw [getD_get _ _ _ (by simp), List.getElem_append_right (Nat.le_refl _)]; simp

theorem rread_char (t : Int) : ∀ (n : Nat) (l : List Sg), l.length = n → (rread l t = ((0, 0), 0, false) ∧ ∀ j, j < l.length → t < ats l j) ∨ ∃ i, Top l t i ∧ rread l t = (vls l i, ats l i, true)
  | 0, l, h => by
    have : l = [] := List.eq_nil_of_length_eq_zero h
    subst this
    exact .inl ⟨rfl, fun j hj => by simp at hj⟩
  | n + 1, l, h => by
    obtain ⟨l', s, rfl⟩ : ∃ l' s, l = l' ++ [s] := ⟨l.dropLast, l.getLast (by intro e; subst e; simp at h), (List.dropLast_concat_getLast _).symm⟩
    have hl : l'.length = n := by simp at h; omega
    have ih := rread_char t n l' hl
    have hr : rread (l' ++ [s]) t = rstep t (rread l' t) s := by unfold rread; rw [List.foldl_append]; rfl
    have aL : ∀ i, i < l'.length → ats (l' ++ [s]) i = ats l' i := fun i hi => by unfold ats; rw [getD_app_l hi]
    have vL : ∀ i, i < l'.length → vls (l' ++ [s]) i = vls l' i := fun i hi => by unfold vls; rw [getD_app_l hi]
    have aR : ats (l' ++ [s]) l'.length = s.1 := by unfold ats; rw [getD_app_r]
    have vR : vls (l' ++ [s]) l'.length = s.2 := by unfold vls; rw [getD_app_r]
    have hlen : (l' ++ [s]).length = l'.length + 1 := by simp
    rw [hr]
    rcases ih with ⟨e, hgt⟩ | ⟨i, ht, e⟩
    · rw [e]
      unfold rstep
      by_cases c : s.1 ≤ t
      · rw [if_pos ⟨c, .inl rfl⟩]
        refine .inr ⟨l'.length, ⟨by omega, by rw [aR]; exact c, fun j hj hjt => ?_⟩, by rw [vR, aR]⟩
        by_cases hj' : j < l'.length
        · rw [aL j hj'] at hjt
          have := hgt j hj'
          omega
        · have : j = l'.length := by omega
          subst this; omega
      · rw [if_neg (by intro h; exact c h.1)]
        refine .inl ⟨rfl, fun j hj => ?_⟩
        by_cases hj' : j < l'.length
        · rw [aL j hj']; exact hgt j hj'
        · have : j = l'.length := by omega
          subst this; rw [aR]; omega
    · rw [e]
      unfold rstep
      by_cases c : s.1 ≤ t ∧ ats l' i ≤ s.1
      · rw [if_pos ⟨c.1, .inr c.2⟩]
        refine .inr ⟨l'.length, ⟨by omega, by rw [aR]; exact c.1, fun j hj hjt => ?_⟩, by rw [vR, aR]⟩
        by_cases hj' : j < l'.length
        · rw [aL j hj'] at hjt ⊢
          have := ht.2.2 j hj' hjt
          rw [aR]; omega
        · have : j = l'.length := by omega
          subst this; omega
      · rw [if_neg (by
          rintro ⟨h1, h2⟩
          rcases h2 with h2 | h2
          · exact Bool.noConfusion h2
          · exact c ⟨h1, h2⟩)]
        refine .inr ⟨i, ⟨by have := ht.1; omega, by rw [aL i ht.1]; exact ht.2.1, fun j hj hjt => ?_⟩, by rw [vL i ht.1, aL i ht.1]⟩
        rw [aL i ht.1]
        by_cases hj' : j < l'.length
        · rw [aL j hj'] at hjt ⊢
          exact ht.2.2 j hj' hjt
        · have : j = l'.length := by omega
          subst this
          rw [aR] at hjt ⊢
          omega

/-- The runs in the order d. -/
def ordL (l : List Sg) (d : Nat → Nat) : List Sg := (List.range l.length).map fun k => l.getD (d k) (0, 0, 0)
theorem ordL_len (l : List Sg) (d : Nat → Nat) : (ordL l d).length = l.length := by simp [ordL]
theorem ordL_get {l : List Sg} {d : Nat → Nat} {k : Nat} (h : k < l.length) : (ordL l d).getD k (0, 0, 0) = l.getD (d k) (0, 0, 0) := by
  rw [getD_get _ _ _ (by rw [ordL_len]; exact h)]; simp [ordL]
theorem ordL_ats {l : List Sg} {d : Nat → Nat} {k : Nat} (h : k < l.length) : ats (ordL l d) k = ats l (d k) := by unfold ats; rw [ordL_get h]
theorem ordL_vls {l : List Sg} {d : Nat → Nat} {k : Nat} (h : k < l.length) : vls (ordL l d) k = vls l (d k) := by unfold vls; rw [ordL_get h]
theorem cutAt (l : List Sg) (t : Int) : ∀ N, N ≤ l.length → ∃ m, m ≤ N ∧ (m = 0 ∨ ats l (m - 1) ≤ t) ∧ ∀ i, m ≤ i → i < N → t < ats l i
  | 0, _ => ⟨0, Nat.le_refl _, .inl rfl, fun i _ h => by omega⟩
  | N + 1, h => by
    obtain ⟨m, h1, h2, h3⟩ := cutAt l t N (by omega)
    by_cases c : ats l N ≤ t
    · exact ⟨N + 1, Nat.le_refl _, .inr (by rw [Nat.add_sub_cancel]; exact c), fun i _ h => by omega⟩
    · refine ⟨m, by omega, h2, fun i q1 q2 => ?_⟩
      by_cases e : i = N
      · rw [e]; omega
      · exact h3 i q1 (by omega)

theorem ordL_val {l : List Sg} {d : Nat → Nat} (hm : Mv 0 l.length id d) (hs : Srt (ats l) 0 l.length d) (t : Int) : vat (ordL l d) t = rv l t := by
  obtain ⟨m, h1, h2, h3⟩ := cutAt (ordL l d) t _ (Nat.le_refl _)
  rw [vat_of h1 h2 h3]
  rw [ordL_len] at h1 h3
  have hok : ∀ k, k < l.length → d k < l.length := fun k hk => by
    obtain ⟨k', _, q2, e⟩ := hm.inn k (Nat.zero_le _) hk
    rw [e]; exact q2
  rcases rread_char t _ l rfl with ⟨e, hgt⟩ | ⟨i, ht, e⟩
  · unfold rv; rw [e]
    by_cases c : m = 0
    · rw [if_pos c]
    · have q := h2.resolve_left c
      rw [ordL_ats (by omega)] at q
      have := hgt _ (hok (m - 1) (by omega))
      omega
  · unfold rv; rw [e]
    have hback := hm.back i (Nat.zero_le _) ht.1
    obtain ⟨k, _, hk, ek⟩ := hback
    simp only [id] at ek
    have hkm : k < m := by
      rcases Nat.lt_or_ge k m with c | c
      · exact c
      · have := h3 k c hk
        rw [ordL_ats hk, ← ek] at this
        have := ht.2.1
        omega
    have c : m ≠ 0 := by omega
    rw [if_neg c, ordL_vls (by omega)]
    have q := h2.resolve_left c
    rw [ordL_ats (by omega)] at q
    have htop : Top l t (d (m - 1)) := by
      refine ⟨hok _ (by omega), q, fun j hj hjt => ?_⟩
      obtain ⟨k', _, hk', ek'⟩ := hm.back j (Nat.zero_le _) hj
      simp only [id] at ek'
      have hk'm : k' < m := by
        rcases Nat.lt_or_ge k' m with c | c
        · exact c
        · have := h3 k' c hk'
          rw [ordL_ats hk', ← ek'] at this
          omega
      rw [ek']
      by_cases e2 : k' = m - 1
      · rw [e2]; omega
      · have := hs k' (m - 1) (Nat.zero_le _) (by omega) (by omega)
        unfold Lx at this
        omega
    rw [ht.unique htop]
theorem ordL_up {l : List Sg} {d : Nat → Nat} (hs : Srt (ats l) 0 l.length d) : Up (ordL l d) := by
  unfold Up
  rw [List.pairwise_iff_getElem]
  intro i j hi hj hij
  rw [ordL_len] at hi hj
  have h1 := hs.le (Nat.zero_le i) (Nat.le_of_lt hij) hj
  have e1 := ordL_ats (l := l) (d := d) hi
  have e2 := ordL_ats (l := l) (d := d) hj
  unfold ats at e1 e2
  rw [getD_get _ _ _ (by rw [ordL_len]; exact hi)] at e1
  rw [getD_get _ _ _ (by rw [ordL_len]; exact hj)] at e2
  rw [e1, e2]; exact h1
theorem ordL_ok {l : List Sg} {d : Nat → Nat} (hm : Mv 0 l.length id d) (ho : ∀ x ∈ l, okS x = true) : ∀ x ∈ ordL l d, okS x = true := by
  intro x hx
  unfold ordL at hx
  rw [List.mem_map] at hx
  obtain ⟨k, hk, rfl⟩ := hx
  rw [List.mem_range] at hk
  obtain ⟨k', _, q2, e⟩ := hm.inn k (Nat.zero_le _) hk
  rw [e, id, getD_get _ _ _ q2]
  exact ho _ (List.getElem_mem q2)

/-- f is the canonical function of the raw runs l. -/
def IsOf (l f : List Sg) : Prop := Canon f ∧ (∀ t, vat f t = rv l t) ∧ f.length ≤ l.length
theorem isOf_cmpr {l : List Sg} {d : Nat → Nat} (hm : Mv 0 l.length id d) (hs : Srt (ats l) 0 l.length d) (ho : ∀ x ∈ l, okS x = true) : IsOf l (cmpr (0, 0) (ordL l d)) := by
  refine ⟨cmpr_cf _ _ (ordL_up hs) (ordL_ok hm ho), fun t => ?_, ?_⟩
  · have := cmpr_val t (ordL l d) (0, 0) (ordL_up hs)
    unfold vat
    rw [this]
    exact ordL_val hm hs t
  · have := cmpr_len (ordL l d) (0, 0)
    rw [ordL_len] at this; exact this
theorem IsOf.unique {l f g : List Sg} (hf : IsOf l f) (hg : IsOf l g) : f = g := cf_ext hf.1 hg.1 fun t => (hf.2.1 t).trans (hg.2.1 t).symm
end Go.Proofs.Ytibmldgbimjgfaa
