/- Parts, and forests of parts: their number, their depth, their list. No program. No conditions. Parts read one behind the other: where a term ends, or where and why it may not be. No program. No conditions. What is known of parts that may be. No program. No conditions. Parts read with a row of open parts: as by recursion. No program. No conditions. One part more, one part less: what is said of them. No program. No conditions. The document's own definition of layer 8, and what is said of it. No program. No conditions. -/
namespace Go.Proofs.Ytnifmdeojgfgcaa

/-- A part. -/
structure Prt where
  kind : Nat
  n : Nat
  g : Nat
  d : Int
  kids : Int
deriving DecidableEq
/-- Terms beside each other: the first one's part (its number of children is told by its children), its children, the others. -/
inductive Fst where
  | nil : Fst
  | cons (x : Prt) (kids next : Fst) : Fst
def Fst.len : Fst → Nat
  | .nil => 0
  | .cons _ _ next => next.len + 1
def Fst.size : Fst → Nat
  | .nil => 0
  | .cons _ kids next => kids.size + next.size + 1
def Fst.depth : Fst → Nat
  | .nil => 0
  | .cons _ kids next => max (kids.depth + 1) next.depth
def Fst.flat : Fst → List Prt
  | .nil => []
  | .cons x kids next => { x with kids := kids.len } :: (kids.flat ++ next.flat)
theorem flat_len : ∀ F : Fst, F.flat.length = F.size
  | .nil => rfl
  | .cons x kids next => by simp only [Fst.flat, Fst.size, List.length_cons, List.length_append, flat_len kids, flat_len next]
theorem len_size : ∀ F : Fst, F.len ≤ F.size
  | .nil => Nat.le_refl _
  | .cons x kids next => by simp only [Fst.len, Fst.size]; have := len_size next; omega
/-- A part whose numbers are of its fields' kinds. -/
def PrtW (x : Prt) : Prop := x.kind ≤ 255 ∧ x.n ≤ 4294967295 ∧ x.g ≤ 4294967295 ∧ (-9223372036854775808 ≤ x.d ∧ x.d ≤ 9223372036854775807) ∧ -9223372036854775808 ≤ x.kids ∧ x.kids ≤ 9223372036854775807
end Go.Proofs.Ytnifmdeojgfgcaa

namespace Go.Proofs.Ytnifmdeojgfgcaa

/-- May a part not be, by itself? -/
def badP (x : Prt) : Bool := if x.kind = 0 then decide (x.kids ≠ 0 ∨ x.n = 0 ∨ 4096 < x.n ∨ x.g = 0 ∨ x.n < x.g ∨ x.n % x.g ≠ 0 ∨ x.d < 1 ∨ 4096 < x.d) else decide (4 < x.kind ∨ x.kids < 1 ∨ 16 < x.kids ∨ x.n ≠ 0 ∨ x.g ≠ 0 ∨ x.d ≠ 0)
theorem bad_kids {x : Prt} (h : badP x = false) : 0 ≤ x.kids ∧ x.kids ≤ 16 := by
  unfold badP at h
  split at h
  · have := of_decide_eq_false h; omega
  · have := of_decide_eq_false h; omega
/-- What stands against a term at a place. -/
def stopS (l : List Prt) (p deep ink : Nat) : Option (Nat × Int) := match l[p]? with
  | none => some (p, 81)
  | some x => if 64 ≤ p ∨ badP x = true ∨ (ink = 2 ∧ x.kind ≠ 0) then some (p, 81) else if 8 < deep then some (p, 80) else none
/-- So many terms beside each other, from a place on: where they end; or where, and why, one may not be. -/
def rdS : Nat → List Prt → Nat → Nat → Nat → Nat → Except (Nat × Int) Nat
  | _, _, p, _, _, 0 => .ok p
  | 0, _, p, _, _, _ + 1 => .error (p, 81)
  | m + 1, l, p, deep, ink, n + 1 => match stopS l p deep ink with
    | some e => .error e
    | none => match rdS m l (p + 1) (deep + 1) (l.getD p ⟨0, 0, 0, 0, 0⟩).kind (l.getD p ⟨0, 0, 0, 0, 0⟩).kids.toNat with
      | .error e => .error e
      | .ok q => rdS m l q deep ink n
theorem rd_zero (m : Nat) (l : List Prt) (p deep ink : Nat) : rdS m l p deep ink 0 = .ok p := by cases m <;> rfl
theorem rd_cons (m : Nat) (l : List Prt) (p deep ink n : Nat) : rdS (m + 1) l p deep ink (n + 1) = match stopS l p deep ink with
    | some e => .error e
    | none => match rdS m l (p + 1) (deep + 1) (l.getD p ⟨0, 0, 0, 0, 0⟩).kind (l.getD p ⟨0, 0, 0, 0, 0⟩).kids.toNat with
      | .error e => .error e
      | .ok q => rdS m l q deep ink n := rfl
theorem stop_out {l : List Prt} {p deep ink : Nat} (h : l.length ≤ p) : stopS l p deep ink = some (p, 81) := by
  unfold stopS
  rw [List.getElem?_eq_none h]
theorem stop_none {l : List Prt} {p deep ink : Nat} (h : stopS l p deep ink = none) : p < l.length ∧ p < 64 ∧ badP (l.getD p ⟨0, 0, 0, 0, 0⟩) = false ∧ (ink = 2 → (l.getD p ⟨0, 0, 0, 0, 0⟩).kind = 0) ∧ deep ≤ 8 := by
  unfold stopS at h
  cases hx : l[p]? with
  | none => rw [hx] at h; cases h
  | some x =>
    have hlt := (List.getElem?_eq_some_iff.1 hx).1
    have e : l.getD p ⟨0, 0, 0, 0, 0⟩ = x := by rw [List.getD_eq_getElem?_getD, hx]; rfl
    rw [hx] at h
    simp only at h
    split at h
    · cases h
    · rename_i h1
      split at h
      · cases h
      · rename_i h2
        rw [e]
        refine ⟨hlt, ?_, ?_, ?_, by omega⟩
        · exact Nat.lt_of_not_le fun c => h1 (.inl c)
        · cases hb : badP x
          · rfl
          · exact absurd (.inr (.inl hb)) h1
        · intro hi
          by_cases c : x.kind = 0
          · exact c
          · exact absurd (.inr (.inr ⟨hi, c⟩)) h1
theorem rd_gt : ∀ (m : Nat) (l : List Prt) (p deep ink n e : Nat), rdS m l p deep ink n = .ok e → p + n ≤ e ∧ (0 < n → e ≤ l.length)
  | m, l, p, deep, ink, 0, e, h => by rw [rd_zero] at h; cases h; exact ⟨Nat.le_refl _, fun h => by omega⟩
  | 0, l, p, deep, ink, n + 1, e, h => by cases h
  | m + 1, l, p, deep, ink, n + 1, e, h => by
    rw [rd_cons] at h
    cases hs : stopS l p deep ink with
    | some x => rw [hs] at h; cases h
    | none =>
      rw [hs] at h
      simp only at h
      have hp := (stop_none hs).1
      cases hk : rdS m l (p + 1) (deep + 1) (l.getD p ⟨0, 0, 0, 0, 0⟩).kind (l.getD p ⟨0, 0, 0, 0, 0⟩).kids.toNat with
      | error x => rw [hk] at h; cases h
      | ok q =>
        rw [hk] at h
        simp only at h
        have h1 := rd_gt m l (p + 1) _ _ _ q hk
        have h2 := rd_gt m l q deep ink n e h
        refine ⟨by omega, fun _ => ?_⟩
        by_cases c : 0 < n
        · exact h2.2 c
        · obtain rfl : n = 0 := by omega
          rw [rd_zero] at h
          cases h
          by_cases c2 : 0 < (l.getD p ⟨0, 0, 0, 0, 0⟩).kids.toNat
          · exact h1.2 c2
          · rw [show (l.getD p ⟨0, 0, 0, 0, 0⟩).kids.toNat = 0 by omega, rd_zero] at hk
            cases hk
            omega
/-- Steps enough are enough. -/
theorem rd_fuel : ∀ (m m' : Nat) (l : List Prt) (p deep ink n : Nat), l.length + 1 - p ≤ m → l.length + 1 - p ≤ m' → 0 < m → 0 < m' → rdS m l p deep ink n = rdS m' l p deep ink n
  | m, m', l, p, deep, ink, 0, _, _, _, _ => by rw [rd_zero, rd_zero]
  | 0, _, _, _, _, _, n + 1, _, _, h, _ => by omega
  | _, 0, _, _, _, _, n + 1, _, _, _, h => by omega
  | m + 1, m' + 1, l, p, deep, ink, n + 1, h1, h2, _, _ => by
    rw [rd_cons, rd_cons]
    cases hs : stopS l p deep ink with
    | some x => rfl
    | none =>
      simp only
      have hp := (stop_none hs).1
      have e1 := rd_fuel m m' l (p + 1) (deep + 1) (l.getD p ⟨0, 0, 0, 0, 0⟩).kind (l.getD p ⟨0, 0, 0, 0, 0⟩).kids.toNat (by omega) (by omega) (by omega) (by omega)
      rw [e1]
      cases hk : rdS m' l (p + 1) (deep + 1) (l.getD p ⟨0, 0, 0, 0, 0⟩).kind (l.getD p ⟨0, 0, 0, 0, 0⟩).kids.toNat with
      | error x => rfl
      | ok q =>
        have h3 := rd_gt m' l (p + 1) _ _ _ q hk
        exact rd_fuel m m' l q deep ink n (by omega) (by omega) (by omega) (by omega)
/-- One term, and the others. -/
theorem rd_one {m : Nat} {l : List Prt} {p deep ink n : Nat} (h1 : l.length + 1 - p ≤ m) (h0 : 0 < m) : rdS m l p deep ink (n + 1) = match rdS m l p deep ink 1 with
    | .error e => .error e
    | .ok q => rdS m l q deep ink n := by
  obtain ⟨m, rfl⟩ : ∃ k, m = k + 1 := ⟨m - 1, by omega⟩
  rw [rd_cons, rd_cons]
  cases hs : stopS l p deep ink with
  | some x => rfl
  | none =>
    simp only
    have hp := (stop_none hs).1
    cases hk : rdS m l (p + 1) (deep + 1) (l.getD p ⟨0, 0, 0, 0, 0⟩).kind (l.getD p ⟨0, 0, 0, 0, 0⟩).kids.toNat with
    | error x => rfl
    | ok q =>
      have h3 := rd_gt m l (p + 1) _ _ _ q hk
      simp only [rd_zero]
      exact rd_fuel m (m + 1) l q deep ink n (by omega) (by omega) (by omega) (by omega)
theorem rd_open {l : List Prt} {p deep ink : Nat} (h : stopS l p deep ink = none) : rdS (l.length + 1) l p deep ink 1 = rdS (l.length + 1) l (p + 1) (deep + 1) (l.getD p ⟨0, 0, 0, 0, 0⟩).kind (l.getD p ⟨0, 0, 0, 0, 0⟩).kids.toNat := by
  have hp := (stop_none h).1
  rw [rd_cons, h]
  simp only [rd_zero]
  rw [rd_fuel l.length (l.length + 1) l (p + 1) (deep + 1) _ _ (by omega) (by omega) (by omega) (by omega)]
  split
  · rename_i e he; rw [he]
  · rename_i q he; rw [he]
theorem rd_stop {l : List Prt} {p deep ink : Nat} {e : Nat × Int} (h : stopS l p deep ink = some e) : rdS (l.length + 1) l p deep ink 1 = .error e := by
  rw [rd_cons, h]
theorem stop_shape {l : List Prt} {p deep ink : Nat} (h : p < l.length) (h2 : 64 ≤ p ∨ badP (l.getD p ⟨0, 0, 0, 0, 0⟩) = true ∨ (ink = 2 ∧ (l.getD p ⟨0, 0, 0, 0, 0⟩).kind ≠ 0)) : stopS l p deep ink = some (p, 81) := by
  unfold stopS
  rw [List.getElem?_eq_getElem h]
  rw [List.getD_eq_getElem?_getD, List.getElem?_eq_getElem h] at h2
  exact if_pos h2
theorem stop_deep {l : List Prt} {p deep ink : Nat} (h : p < l.length) (h2 : ¬ (64 ≤ p ∨ badP (l.getD p ⟨0, 0, 0, 0, 0⟩) = true ∨ (ink = 2 ∧ (l.getD p ⟨0, 0, 0, 0, 0⟩).kind ≠ 0))) : stopS l p deep ink = if 8 < deep then some (p, 80) else none := by
  unfold stopS
  rw [List.getElem?_eq_getElem h]
  rw [List.getD_eq_getElem?_getD, List.getElem?_eq_getElem h] at h2
  exact if_neg h2
/-- The three numbers that read hands back. -/
def rdT : Except (Nat × Int) Nat → Nat × Nat × Int
  | .ok e => (e, 0, 0)
  | .error x => (0, x.1, x.2)
/-- Why parts may not be, and where. -/
def treeS (l : List Prt) : Nat × Int := match rdS (l.length + 1) l 0 1 0 1 with
  | .error x => x
  | .ok e => if e < l.length then (e, 81) else (0, 0)
def chkS (fr to' : Int) (l : List Prt) : Int × Int := if fr < 0 ∨ to' ≤ fr ∨ 1099511627776 < to' ∨ 4096 < to' - fr then (-1, 82) else ((treeS l).1, (treeS l).2)
/-- Where what is below a part ends. -/
def endS (l : List Prt) (p : Nat) : Nat := (rdT (rdS (l.length + 1) l p 1 0 1)).1
def kidsGo (l : List Prt) : Nat → Nat → List Nat
  | 0, _ => []
  | n + 1, p => p :: kidsGo l n (endS l p)
def kidsS (l : List Prt) (p : Nat) : List Nat := kidsGo l (l.getD p ⟨0, 0, 0, 0, 0⟩).kids.toNat (p + 1)
def depthS (l : List Prt) (p : Nat) : Nat := ((List.range (p + 1)).filter fun i => decide (p < endS l i)).length
def mayS (l : List Prt) (z : Int) : Int := if (treeS l).2 ≠ 0 then 81 else if z < 0 ∨ (l.length : Int) ≤ z then 2 else 0
def atomsS8 (l : List Prt) : List Nat := (List.range l.length).filter fun i => decide ((l.getD i ⟨0, 0, 0, 0, 0⟩).kind = 0)
theorem stop_err {l : List Prt} {p deep ink : Nat} {e : Nat × Int} (h : stopS l p deep ink = some e) : e.2 = 81 ∨ e.2 = 80 := by
  unfold stopS at h
  split at h
  · cases h; exact .inl rfl
  · split at h
    · cases h; exact .inl rfl
    · split at h
      · cases h; exact .inr rfl
      · cases h
theorem rd_err : ∀ (m : Nat) (l : List Prt) (p deep ink n : Nat) (e : Nat × Int), rdS m l p deep ink n = .error e → e.2 = 81 ∨ e.2 = 80
  | m, l, p, deep, ink, 0, e, h => by rw [rd_zero] at h; cases h
  | 0, l, p, deep, ink, n + 1, e, h => by cases h; exact .inl rfl
  | m + 1, l, p, deep, ink, n + 1, e, h => by
    rw [rd_cons] at h
    cases hs : stopS l p deep ink with
    | some x => rw [hs] at h; cases h; exact stop_err hs
    | none =>
      rw [hs] at h
      simp only at h
      cases hk : rdS m l (p + 1) (deep + 1) (l.getD p ⟨0, 0, 0, 0, 0⟩).kind (l.getD p ⟨0, 0, 0, 0, 0⟩).kids.toNat with
      | error x => rw [hk] at h; cases h; exact rd_err m l _ _ _ _ _ hk
      | ok q => rw [hk] at h; exact rd_err m l _ _ _ _ _ h
end Go.Proofs.Ytnifmdeojgfgcaa

namespace Go.Proofs.Ytnifmdeojgfgcaa

theorem rd_fine : ∀ (m : Nat) (l : List Prt) (p deep ink n e : Nat), rdS m l p deep ink n = .ok e → ∀ i, p ≤ i → i < e → badP (l.getD i ⟨0, 0, 0, 0, 0⟩) = false ∧ i < 64
  | m, l, p, deep, ink, 0, e, h, i, h1, h2 => by rw [rd_zero] at h; cases h; omega
  | 0, l, p, deep, ink, n + 1, e, h, i, h1, h2 => by cases h
  | m + 1, l, p, deep, ink, n + 1, e, h, i, h1, h2 => by
    rw [rd_cons] at h
    cases hs : stopS l p deep ink with
    | some x => rw [hs] at h; cases h
    | none =>
      rw [hs] at h
      simp only at h
      have hp := stop_none hs
      cases hk : rdS m l (p + 1) (deep + 1) (l.getD p ⟨0, 0, 0, 0, 0⟩).kind (l.getD p ⟨0, 0, 0, 0, 0⟩).kids.toNat with
      | error x => rw [hk] at h; cases h
      | ok q =>
        rw [hk] at h
        simp only at h
        by_cases c : i = p
        · rw [c]; exact ⟨hp.2.2.1, hp.2.1⟩
        · by_cases c2 : i < q
          · exact rd_fine m l _ _ _ _ _ hk i (by omega) c2
          · exact rd_fine m l _ _ _ _ _ h i (by omega) h2
/-- What a definition that may be says of its parts. -/
theorem tree_fine {l : List Prt} (h : (treeS l).2 = 0) : rdS (l.length + 1) l 0 1 0 1 = .ok l.length := by
  unfold treeS at h
  cases hr : rdS (l.length + 1) l 0 1 0 1 with
  | error x =>
    rw [hr] at h
    rcases rd_err _ _ _ _ _ _ _ hr with e | e <;> rw [e] at h <;> cases h
  | ok e =>
    rw [hr] at h
    simp only at h
    have := (rd_gt _ _ _ _ _ _ _ hr).2 (by omega)
    split at h
    · cases h
    · rw [show e = l.length by omega]
theorem may_tree {l : List Prt} {z : Int} (h : mayS l z = 0) : (treeS l).2 = 0 ∧ 0 ≤ z ∧ z < (l.length : Int) := by
  unfold mayS at h
  split at h
  · cases h
  · rename_i h0
    split at h
    · cases h
    · exact ⟨Decidable.not_not.1 h0, by omega, by omega⟩
theorem tree_part {l : List Prt} (h : (treeS l).2 = 0) {i : Nat} (hi : i < l.length) : badP (l.getD i ⟨0, 0, 0, 0, 0⟩) = false ∧ i < 64 := rd_fine _ _ _ _ _ _ _ (tree_fine h) i (Nat.zero_le _) hi
theorem tree_kids {l : List Prt} (h : (treeS l).2 = 0) {i : Nat} (hi : i < l.length) : 0 ≤ (l.getD i ⟨0, 0, 0, 0, 0⟩).kids ∧ (l.getD i ⟨0, 0, 0, 0, 0⟩).kids ≤ 16 := bad_kids (tree_part h hi).1
/-- A definition of one atom. -/
theorem atom_chk (n g : Nat) (d : Int) : chkS 0 4096 [⟨0, n, g, d, 0⟩] = (0, if badP ⟨0, n, g, d, 0⟩ = true then 81 else 0) := by
  have ht : treeS [⟨0, n, g, d, 0⟩] = (0, if badP ⟨0, n, g, d, 0⟩ = true then 81 else 0) := by
    unfold treeS
    cases hb : badP ⟨0, n, g, d, 0⟩ with
    | true =>
      have hs : stopS [⟨0, n, g, d, 0⟩] 0 1 0 = some (0, 81) := stop_shape (by simp) (.inr (.inl hb))
      rw [rd_stop hs]
      rfl
    | false =>
      have hs : stopS [⟨0, n, g, d, 0⟩] 0 1 0 = none := by
        rw [stop_deep (by simp) (by
          rintro (h | h | h)
          · omega
          · rw [show ([⟨0, n, g, d, 0⟩] : List Prt).getD 0 ⟨0, 0, 0, 0, 0⟩ = ⟨0, n, g, d, 0⟩ from rfl, hb] at h; cases h
          · omega)]
        rfl
      rw [rd_open hs]
      have : (([⟨0, n, g, d, 0⟩] : List Prt).getD 0 ⟨0, 0, 0, 0, 0⟩).kids.toNat = 0 := rfl
      rw [this, rd_zero]
      simp
  unfold chkS
  rw [if_neg (by omega), ht]
  rfl
theorem badP_atom (n g : Nat) (d : Int) : badP ⟨0, n, g, d, 0⟩ = decide (n = 0 ∨ 4096 < n ∨ g = 0 ∨ n < g ∨ n % g ≠ 0 ∨ d < 1 ∨ 4096 < d) := by
  unfold badP
  rw [if_pos rfl]
  simp
/-- Where a row of gangs that has reached a number is it. -/
theorem gangs_meet {n g j : Nat} (hg : 0 < g) (h1 : n ≤ j * g) (h2 : j * g < n + g) : (j * g = n ↔ n % g = 0) := by
  constructor
  · intro h; rw [← h]; exact Nat.mul_mod_left j g
  · intro h
    obtain ⟨q, rfl⟩ : ∃ q, n = q * g := ⟨n / g, by have := Nat.div_add_mod n g; rw [h, Nat.add_zero, Nat.mul_comm] at this; exact this.symm⟩
    have a : q ≤ j := Nat.le_of_mul_le_mul_right h1 hg
    have b : j < q + 1 := by
      have : j * g < (q + 1) * g := by rw [Nat.succ_mul]; exact h2
      exact Nat.lt_of_mul_lt_mul_right this
    rw [show j = q by omega]
end Go.Proofs.Ytnifmdeojgfgcaa

namespace Go.Proofs.Ytnifmdeojgfgcaa

/-- What is still to be read: the open parts, the innermost first, each with its kind and how many children must still come. -/
def contS (l : List Prt) : List (Nat × Nat) → Nat → Except (Nat × Int) Nat
  | [], p => .ok p
  | x :: st, p => match rdS (l.length + 1) l p (st.length + 2) x.1 x.2 with
    | .error e => .error e
    | .ok q => contS l st q
def treeOf (l : List Prt) : Except (Nat × Int) Nat → Nat × Int
  | .error x => x
  | .ok e => if e < l.length then (e, 81) else (0, 0)
theorem tree_of (l : List Prt) : treeS l = treeOf l (rdS (l.length + 1) l 0 1 0 1) := by
  unfold treeS treeOf
  rfl
/-- The first part. -/
theorem of_first {l : List Prt} (h : stopS l 0 1 0 = none) : treeS l = treeOf l (contS l [((l.getD 0 ⟨0, 0, 0, 0, 0⟩).kind, (l.getD 0 ⟨0, 0, 0, 0, 0⟩).kids.toNat)] 1) := by
  rw [tree_of, rd_open h]
  simp only [contS, List.length_nil]
  split
  · rename_i e he; rw [he]
  · rename_i q hq; rw [hq]
theorem of_first_stop {l : List Prt} {e : Nat × Int} (h : stopS l 0 1 0 = some e) : treeS l = e := by
  rw [tree_of, rd_stop h]; rfl
/-- One more part. -/
theorem cont_zero (l : List Prt) (k : Nat) (st : List (Nat × Nat)) (p : Nat) : contS l ((k, 0) :: st) p = contS l st p := by
  simp only [contS, rd_zero]
theorem cont_stop {l : List Prt} {k n p : Nat} {st : List (Nat × Nat)} {e : Nat × Int} (h : stopS l p (st.length + 2) k = some e) : contS l ((k, n + 1) :: st) p = .error e := by
  simp only [contS]
  rw [rd_cons, h]
theorem cont_open {l : List Prt} {k n p : Nat} {st : List (Nat × Nat)} (h : stopS l p (st.length + 2) k = none) :
    contS l ((k, n + 1) :: st) p = contS l (((l.getD p ⟨0, 0, 0, 0, 0⟩).kind, (l.getD p ⟨0, 0, 0, 0, 0⟩).kids.toNat) :: (k, n) :: st) (p + 1) := by
  simp only [contS, List.length_cons]
  rw [rd_one (by omega) (by omega), rd_open h]
  rw [show st.length + 1 + 2 = st.length + 2 + 1 by omega]
  cases rdS (l.length + 1) l (p + 1) (st.length + 2 + 1) (l.getD p ⟨0, 0, 0, 0, 0⟩).kind (l.getD p ⟨0, 0, 0, 0, 0⟩).kids.toNat <;> rfl
/-- The open parts of a row, the innermost first. -/
def stk (O : Nat → Nat × Nat) : Nat → List (Nat × Nat)
  | 0 => []
  | d + 1 => O d :: stk O d
theorem stk_len (O : Nat → Nat × Nat) : ∀ d, (stk O d).length = d
  | 0 => rfl
  | d + 1 => by rw [stk, List.length_cons, stk_len O d]
def putO (O : Nat → Nat × Nat) (i : Nat) (x : Nat × Nat) : Nat → Nat × Nat := fun j => if j = i then x else O j
theorem putO_eq (O : Nat → Nat × Nat) (i : Nat) (x : Nat × Nat) : putO O i x i = x := if_pos rfl
theorem putO_ne (O : Nat → Nat × Nat) {i j : Nat} (x : Nat × Nat) (h : j ≠ i) : putO O i x j = O j := if_neg h
theorem stk_put (O : Nat → Nat × Nat) (i : Nat) (x : Nat × Nat) : ∀ d, d ≤ i → stk (putO O i x) d = stk O d
  | 0, _ => rfl
  | d + 1, h => by rw [stk, stk, stk_put O i x d (by omega), putO_ne O x (by omega)]
/-- How many stay open: those that need no more children are left. -/
def popN (O : Nat → Nat × Nat) : Nat → Nat
  | 0 => 0
  | d + 1 => if (O d).2 = 0 then popN O d else d + 1
theorem popN_le (O : Nat → Nat × Nat) : ∀ d, popN O d ≤ d
  | 0 => Nat.le_refl _
  | d + 1 => by
    unfold popN
    have := popN_le O d
    split <;> omega
theorem popN_top (O : Nat → Nat × Nat) : ∀ d, popN O d = 0 ∨ (O (popN O d - 1)).2 ≠ 0
  | 0 => .inl rfl
  | d + 1 => by
    unfold popN
    split
    · exact popN_top O d
    · rename_i h; exact .inr h
theorem cont_pop (l : List Prt) (O : Nat → Nat × Nat) (p : Nat) : ∀ d, contS l (stk O (popN O d)) p = contS l (stk O d) p
  | 0 => rfl
  | d + 1 => by
    unfold popN
    split
    · rename_i h
      rw [cont_pop l O p d]
      show _ = contS l (O d :: stk O d) p
      rw [show O d = ((O d).1, 0) by rw [← h], cont_zero]
    · rfl
/-- The row behind a part. -/
def rowO (d : Nat) (O : Nat → Nat × Nat) : Nat → Nat × Nat := if d = 0 then O else putO O (d - 1) ((O (d - 1)).1, (O (d - 1)).2 - 1)
def nextO (d : Nat) (O : Nat → Nat × Nat) (x : Prt) : Nat → Nat × Nat := if x.kind = 0 then rowO d O else putO (rowO d O) d (x.kind, x.kids.toNat)
def nextD (d : Nat) (x : Prt) : Nat := if x.kind = 0 then d else d + 1
def reasS (p d : Nat) (O : Nat → Nat × Nat) (x : Prt) : Nat → Bool
  | 0 => decide (0 < p) && decide (d = 0)
  | 1 => decide (64 ≤ p)
  | 2 => badP x
  | 3 => decide (0 < d) && (decide ((O (d - 1)).1 = 2) && decide (x.kind ≠ 0))
  | 4 => decide (8 ≤ d)
  | _ => false
/-- What is known where a part is to be read. -/
structure AtS (l : List Prt) (p d : Nat) (O : Nat → Nat × Nat) : Prop where
  le : d ≤ 8
  first : p = 0 → d = 0
  top : d = 0 ∨ (O (d - 1)).2 ≠ 0
  num : ∀ i, (O i).2 ≤ 16
  kin : ∀ i, (O i).1 ≤ 4
  eq : 0 < p → treeS l = treeOf l (contS l (stk O d) p)
theorem at_start (l : List Prt) : AtS l 0 0 (fun _ => (0, 0)) := ⟨by omega, fun _ => rfl, .inl rfl, fun _ => by simp, fun _ => by simp, fun h => by omega⟩
theorem at_err {l : List Prt} {p d : Nat} {O : Nat → Nat × Nat} (h : AtS l p d O) (hd : 0 < d) {e : Nat × Int} (hs : stopS l p (d + 1) (O (d - 1)).1 = some e) : treeS l = e := by
  have h0 : 0 < p := Nat.pos_of_ne_zero fun c => by have := h.first c; omega
  obtain ⟨d, rfl⟩ : ∃ k, d = k + 1 := ⟨d - 1, by omega⟩
  simp only [Nat.add_sub_cancel] at hs
  have ht := h.top
  simp only [Nat.add_sub_cancel] at ht
  obtain ⟨n, hn⟩ : ∃ n, (O d).2 = n + 1 := ⟨(O d).2 - 1, by omega⟩
  rw [h.eq h0, stk, show O d = ((O d).1, n + 1) by rw [← hn], cont_stop (by rw [stk_len]; exact hs)]
  rfl
/-- The first part that ends what is read. -/
theorem at_end {l : List Prt} {p d : Nat} {O : Nat → Nat × Nat} (h : AtS l p d O) (hp : l.length = p) : treeS l = if p = 0 ∨ 0 < d then (p, 81) else (0, 0) := by
  by_cases h0 : p = 0
  · rw [if_pos (.inl h0), of_first_stop (stop_out (by omega)), h0]
  · by_cases hd : 0 < d
    · rw [if_pos (.inr hd)]
      exact at_err h hd (stop_out (by omega))
    · rw [if_neg (by omega), h.eq (by omega), show d = 0 by omega]
      show treeOf l (.ok p) = _
      unfold treeOf
      simp only
      rw [if_neg (by omega)]
theorem at_reas {l : List Prt} {p d : Nat} {O : Nat → Nat × Nat} (h : AtS l p d O) (hp : p < l.length) : ∀ k, k < 5 → (∀ j, j < k → reasS p d O (l.getD p ⟨0, 0, 0, 0, 0⟩) j = false) → reasS p d O (l.getD p ⟨0, 0, 0, 0, 0⟩) k = true → treeS l = (p, if k = 4 then 80 else 81) := by
  intro k hk hj ht
  have shape : 0 < d ∨ p = 0 → (64 ≤ p ∨ badP (l.getD p ⟨0, 0, 0, 0, 0⟩) = true ∨ (0 < d ∧ (O (d - 1)).1 = 2 ∧ (l.getD p ⟨0, 0, 0, 0, 0⟩).kind ≠ 0)) → treeS l = (p, 81) := by
    intro h1 h2
    by_cases hd : 0 < d
    · exact at_err h hd (stop_shape hp (by rcases h2 with h2 | h2 | h2; exact .inl h2; exact .inr (.inl h2); exact .inr (.inr h2.2)))
    · have hp0 : p = 0 := by omega
      subst hp0
      exact of_first_stop (stop_shape hp (by rcases h2 with h2 | h2 | h2; exact .inl h2; exact .inr (.inl h2); omega))
  have out : ∀ j, k = j + 1 → 0 < d ∨ p = 0 := fun j hj' => by
    have := hj 0 (by omega)
    simp only [reasS, Bool.and_eq_false_iff, decide_eq_false_iff_not] at this
    omega
  rcases (show k = 0 ∨ k = 1 ∨ k = 2 ∨ k = 3 ∨ k = 4 by omega) with rfl | rfl | rfl | rfl | rfl
  · simp only [reasS, Bool.and_eq_true, decide_eq_true_eq] at ht
    rw [h.eq ht.1, ht.2]
    show treeOf l (.ok p) = _
    unfold treeOf
    simp only
    rw [if_pos hp, if_neg (by omega)]
  · simp only [reasS, decide_eq_true_eq] at ht
    rw [shape (out 0 rfl) (.inl ht)]; rfl
  · simp only [reasS] at ht
    rw [shape (out 1 rfl) (.inr (.inl ht))]; rfl
  · simp only [reasS, Bool.and_eq_true, decide_eq_true_eq] at ht
    rw [shape (out 2 rfl) (.inr (.inr ⟨ht.1, ht.2.1, ht.2.2⟩))]; rfl
  · simp only [reasS, decide_eq_true_eq] at ht
    have h1 := hj 1 (by omega)
    have h2 := hj 2 (by omega)
    have h3 := hj 3 (by omega)
    simp only [reasS] at h1 h2 h3
    have h1' := of_decide_eq_false h1
    refine at_err h (by omega) ?_
    rw [stop_deep hp (by
      rintro (c | c | c)
      · exact h1' c
      · rw [h2] at c; cases c
      · rw [decide_eq_true (by omega), decide_eq_true c.1, decide_eq_true c.2] at h3; cases h3), if_pos (by omega)]
    rfl
theorem at_next {l : List Prt} {p d : Nat} {O : Nat → Nat × Nat} (h : AtS l p d O) (hp : p < l.length) (hr : ∀ j, j < 5 → reasS p d O (l.getD p ⟨0, 0, 0, 0, 0⟩) j = false) :
    p < 64 ∧ d < 8 ∧ AtS l (p + 1) (popN (nextO d O (l.getD p ⟨0, 0, 0, 0, 0⟩)) (nextD d (l.getD p ⟨0, 0, 0, 0, 0⟩))) (nextO d O (l.getD p ⟨0, 0, 0, 0, 0⟩)) := by
  have h0 := hr 0 (by omega)
  have h1 := hr 1 (by omega)
  have h2 := hr 2 (by omega)
  have h3 := hr 3 (by omega)
  have h4 := hr 4 (by omega)
  simp only [reasS] at h0 h1 h2 h3 h4
  have h1' := of_decide_eq_false h1
  have h4' := of_decide_eq_false h4
  have hks := bad_kids h2
  have hkind : (l.getD p ⟨0, 0, 0, 0, 0⟩).kind ≤ 4 := by
    unfold badP at h2
    split at h2
    · omega
    · have := of_decide_eq_false h2; omega
  have hk0 : (l.getD p ⟨0, 0, 0, 0, 0⟩).kind = 0 → (l.getD p ⟨0, 0, 0, 0, 0⟩).kids.toNat = 0 := fun c => by
    unfold badP at h2
    rw [if_pos c] at h2
    have := of_decide_eq_false h2; omega
  have hrn : ∀ i, (rowO d O i).2 ≤ 16 := fun i => by
    unfold rowO
    split
    · exact h.num i
    · unfold putO
      split
      · have := h.num (d - 1); simp only; omega
      · exact h.num i
  have hrk : ∀ i, (rowO d O i).1 ≤ 4 := fun i => by
    unfold rowO
    split
    · exact h.kin i
    · unfold putO
      split
      · exact h.kin (d - 1)
      · exact h.kin i
  refine ⟨by omega, by omega, ?_, fun c => by omega, popN_top _ _, ?_, ?_, fun _ => ?_⟩
  · refine Nat.le_trans (popN_le _ _) ?_
    unfold nextD
    split <;> omega
  · intro i
    unfold nextO
    split
    · exact hrn i
    · unfold putO
      split
      · simp only; omega
      · exact hrn i
  · intro i
    unfold nextO
    split
    · exact hrk i
    · unfold putO
      split
      · simp only; omega
      · exact hrk i
  · rw [cont_pop]
    generalize hx : l.getD p ⟨0, 0, 0, 0, 0⟩ = x at *
    have hcont : contS l (stk (nextO d O x) (nextD d x)) (p + 1) = contS l ((x.kind, x.kids.toNat) :: stk (rowO d O) d) (p + 1) := by
      unfold nextO nextD
      by_cases c : x.kind = 0
      · rw [if_pos c, if_pos c, hk0 c, cont_zero]
      · rw [if_neg c, if_neg c, stk, putO_eq, stk_put _ _ _ _ (Nat.le_refl _)]
    rw [hcont]
    by_cases hd : d = 0
    · have hp0 : p = 0 := by
        simp only [Bool.and_eq_false_iff, decide_eq_false_iff_not] at h0
        omega
      subst hp0
      have hs : stopS l 0 1 0 = none := by
        rw [stop_deep hp (by
          rw [hx]
          rintro (c | c | c)
          · omega
          · rw [h2] at c; cases c
          · omega)]
        rfl
      rw [of_first hs, hx, hd]
      rfl
    · have hs : stopS l p (d + 1) (O (d - 1)).1 = none := by
        rw [stop_deep hp (by
          rw [hx]
          rintro (c | c | c)
          · omega
          · rw [h2] at c; cases c
          · rw [decide_eq_true (show 0 < d by omega), decide_eq_true c.1, decide_eq_true c.2] at h3; cases h3)]
        rw [if_neg (by omega)]
      have hp0 : 0 < p := Nat.pos_of_ne_zero fun c => by have := h.first c; omega
      obtain ⟨d, rfl⟩ : ∃ k, d = k + 1 := ⟨d - 1, by omega⟩
      simp only [Nat.add_sub_cancel] at hs
      have ht := h.top
      simp only [Nat.add_sub_cancel] at ht
      obtain ⟨n, hn⟩ : ∃ n, (O d).2 = n + 1 := ⟨(O d).2 - 1, by omega⟩
      rw [h.eq hp0, stk, show O d = ((O d).1, n + 1) by rw [← hn], cont_open (by rw [stk_len]; exact hs), hx]
      unfold rowO
      rw [if_neg (by omega), Nat.add_sub_cancel, stk, putO_eq, stk_put _ _ _ _ (Nat.le_refl _), hn]
      rfl
end Go.Proofs.Ytnifmdeojgfgcaa

namespace Go.Proofs.Ytnifmdeojgfgcaa

theorem stop_same {l l' : List Prt} {p : Nat} (h : l'[p]? = l[p]?) (deep ink : Nat) : stopS l' p deep ink = stopS l p deep ink := by
  unfold stopS; rw [h]
theorem getD_same {l l' : List Prt} {p : Nat} (h : l'[p]? = l[p]?) : l'.getD p ⟨0, 0, 0, 0, 0⟩ = l.getD p ⟨0, 0, 0, 0, 0⟩ := by
  rw [List.getD_eq_getElem?_getD, List.getD_eq_getElem?_getD, h]
theorem lt_same {l l' : List Prt} {p : Nat} (h : l'[p]? = l[p]?) (hp : p < l.length) : p < l'.length := by
  rw [List.getElem?_eq_getElem hp] at h
  exact (List.getElem?_eq_some_iff.1 h).1
/-- What lies behind what is read is of no matter. -/
theorem rd_ext : ∀ (m m' : Nat) (l l' : List Prt) (p deep ink n e : Nat), rdS m l p deep ink n = .ok e → (∀ i, i < e → l'[i]? = l[i]?) → l'.length + 1 - p ≤ m' → 0 < m' → rdS m' l' p deep ink n = .ok e
  | m, m', l, l', p, deep, ink, 0, e, h, _, _, _ => by rw [rd_zero] at h ⊢; exact h
  | 0, m', l, l', p, deep, ink, n + 1, e, h, _, _, _ => by cases h
  | m + 1, 0, l, l', p, deep, ink, n + 1, e, h, _, _, h0 => by omega
  | m + 1, m' + 1, l, l', p, deep, ink, n + 1, e, h, hs, hm, _ => by
    have hgt := rd_gt _ _ _ _ _ _ _ h
    have hp := hs p (by omega)
    rw [rd_cons] at h ⊢
    rw [stop_same hp, getD_same hp]
    cases hst : stopS l p deep ink with
    | some x => rw [hst] at h; cases h
    | none =>
      rw [hst] at h
      simp only at h ⊢
      have hpl := lt_same hp (stop_none hst).1
      cases hk : rdS m l (p + 1) (deep + 1) (l.getD p ⟨0, 0, 0, 0, 0⟩).kind (l.getD p ⟨0, 0, 0, 0, 0⟩).kids.toNat with
      | error x => rw [hk] at h; cases h
      | ok q =>
        rw [hk] at h
        simp only at h
        have h1 := rd_gt _ _ _ _ _ _ _ hk
        have h2 := rd_gt _ _ _ _ _ _ _ h
        rw [rd_ext m m' l l' _ _ _ _ _ hk (fun i hi => hs i (by omega)) (by omega) (by omega)]
        exact rd_ext m m' l l' _ _ _ _ _ h hs (by omega) (by omega)
/-- Parts that end too early may not be, where they end. -/
theorem rd_cut : ∀ (m m' : Nat) (l l' : List Prt) (p deep ink n e q : Nat), rdS m l p deep ink n = .ok e → (∀ i, i < q → l'[i]? = l[i]?) → l'.length = q → p ≤ q → q < e → l'.length + 1 - p ≤ m' → 0 < m' → rdS m' l' p deep ink n = .error (q, 81)
  | m, m', l, l', p, deep, ink, 0, e, q, h, _, _, h1, h2, _, _ => by rw [rd_zero] at h; cases h; omega
  | 0, m', l, l', p, deep, ink, n + 1, e, q, h, _, _, _, _, _, _ => by cases h
  | m + 1, 0, l, l', p, deep, ink, n + 1, e, q, h, _, _, _, _, _, h0 => by omega
  | m + 1, m' + 1, l, l', p, deep, ink, n + 1, e, q, h, hs, hl, h1, h2, hm, _ => by
    by_cases hpq : p = q
    · rw [rd_cons, stop_out (by omega), hpq]
    · have hp := hs p (by omega)
      rw [rd_cons] at h ⊢
      rw [stop_same hp, getD_same hp]
      cases hst : stopS l p deep ink with
      | some x => rw [hst] at h; cases h
      | none =>
        rw [hst] at h
        simp only at h ⊢
        cases hk : rdS m l (p + 1) (deep + 1) (l.getD p ⟨0, 0, 0, 0, 0⟩).kind (l.getD p ⟨0, 0, 0, 0, 0⟩).kids.toNat with
        | error x => rw [hk] at h; cases h
        | ok q1 =>
          rw [hk] at h
          simp only at h
          by_cases c : q < q1
          · rw [rd_cut m m' l l' _ _ _ _ _ q hk hs hl (by omega) c (by omega) (by omega)]
          · have h3 := rd_gt _ _ _ _ _ _ _ hk
            rw [rd_ext m m' l l' _ _ _ _ _ hk (fun i hi => hs i (by omega)) (by omega) (by omega)]
            exact rd_cut m m' l l' _ _ _ _ _ q h hs hl (by omega) h2 (by omega) (by omega)
/-- What Check says of a definition that may be. -/
theorem chk_ok {fr to' : Int} {l : List Prt} (h : (chkS fr to' l).2 = 0) : chkS fr to' l = (0, 0) ∧ ¬ (fr < 0 ∨ to' ≤ fr ∨ 1099511627776 < to' ∨ 4096 < to' - fr) ∧ (treeS l).2 = 0 ∧ 0 < l.length ∧ l.length ≤ 64 := by
  have hw : ¬ (fr < 0 ∨ to' ≤ fr ∨ 1099511627776 < to' ∨ 4096 < to' - fr) := fun c => by unfold chkS at h; rw [if_pos c] at h; cases h
  have ht : (treeS l).2 = 0 := by unfold chkS at h; rw [if_neg hw] at h; exact h
  have hr := tree_fine ht
  have hl := rd_gt _ _ _ _ _ _ _ hr
  have hz : treeS l = (0, 0) := by unfold treeS; rw [hr]; simp
  have h64 : l.length ≤ 64 := by
    by_cases c : l.length ≤ 64
    · exact c
    · have := (rd_fine _ _ _ _ _ _ _ hr 64 (by omega) (by omega)).2
      omega
  refine ⟨?_, hw, ht, by omega, h64⟩
  unfold chkS
  rw [if_neg hw, hz]
  rfl
theorem chk_win {fr to' : Int} {l : List Prt} (ht : (treeS l).2 = 0) (h : 0 ≤ fr ∧ fr < to' ∧ to' ≤ 1099511627776 ∧ to' - fr ≤ 4096) : chkS fr to' l = (0, 0) := by
  have hr := tree_fine ht
  have hz : treeS l = (0, 0) := by unfold treeS; rw [hr]; simp
  unfold chkS
  rw [if_neg (by omega), hz]
  rfl
theorem chk_nowin {fr to' : Int} {l : List Prt} (h : fr < 0 ∨ to' ≤ fr ∨ 1099511627776 < to' ∨ 4096 < to' - fr) : chkS fr to' l = (-1, 82) := by
  unfold chkS; rw [if_pos h]
theorem chk_more {fr to' : Int} {l : List Prt} (h : (chkS fr to' l).2 = 0) (x : Prt) : chkS fr to' (l ++ [x]) = (((l.length : Nat) : Int), 81) := by
  obtain ⟨_, hw, ht, _, _⟩ := chk_ok h
  have hr := rd_ext _ ((l ++ [x]).length + 1) l (l ++ [x]) 0 1 0 1 _ (tree_fine ht) (fun i hi => List.getElem?_append_left hi) (by omega) (by omega)
  have hz : treeS (l ++ [x]) = (l.length, 81) := by unfold treeS; rw [hr]; simp
  unfold chkS
  rw [if_neg hw, hz]
theorem chk_less {fr to' : Int} {l : List Prt} (h : (chkS fr to' l).2 = 0) : chkS fr to' (l.take (l.length - 1)) = (((l.length - 1 : Nat) : Int), 81) := by
  obtain ⟨_, hw, ht, h0, _⟩ := chk_ok h
  have hlen : (l.take (l.length - 1)).length = l.length - 1 := by rw [List.length_take]; omega
  have hr := rd_cut _ ((l.take (l.length - 1)).length + 1) l (l.take (l.length - 1)) 0 1 0 1 _ (l.length - 1) (tree_fine ht) (fun i hi => by rw [List.getElem?_take, if_pos hi]) hlen (by omega) (by omega) (by omega) (by omega)
  have hz : treeS (l.take (l.length - 1)) = (l.length - 1, 81) := by unfold treeS; rw [hr]
  unfold chkS
  rw [if_neg hw, hz]
end Go.Proofs.Ytnifmdeojgfgcaa

namespace Go.Proofs.Ytnifmdeojgfgcaa

def T8 : List Prt := [⟨1, 0, 0, 0, 2⟩, ⟨0, 2, 1, 10, 0⟩, ⟨3, 0, 0, 0, 2⟩, ⟨0, 4, 2, 5, 0⟩, ⟨0, 1, 1, 20, 0⟩]
/-- The definition with an atom whose gangs are not whole. -/
def T8o : List Prt := [⟨1, 0, 0, 0, 2⟩, ⟨0, 2, 3, 10, 0⟩, ⟨3, 0, 0, 0, 2⟩, ⟨0, 4, 2, 5, 0⟩, ⟨0, 1, 1, 20, 0⟩]
/-- The definition without its last part. -/
def T8c : List Prt := [⟨1, 0, 0, 0, 2⟩, ⟨0, 2, 1, 10, 0⟩, ⟨3, 0, 0, 0, 2⟩, ⟨0, 4, 2, 5, 0⟩]
theorem t8_chk : chkS 0 100 T8 = (0, 0) := by decide +kernel
theorem t8_none : chkS 0 0 T8 = (-1, 82) := by decide +kernel
theorem t8_odd : chkS 0 100 T8o = (1, 81) := by decide +kernel
theorem t8_cut : chkS 0 100 T8c = (4, 81) := by decide +kernel
theorem t8_may0 : mayS T8 0 = 0 := by decide +kernel
theorem t8_may2 : mayS T8 2 = 0 := by decide +kernel
theorem t8_may4 : mayS T8 4 = 0 := by decide +kernel
theorem t8_may5 : mayS T8 5 = 2 := by decide +kernel
theorem t8_mayc : mayS T8c 0 = 81 := by decide +kernel
theorem t8_kids0 : kidsS T8 (Int.toNat 0) = [1, 2] := by decide +kernel
theorem t8_kids2 : kidsS T8 (Int.toNat 2) = [3, 4] := by decide +kernel
theorem t8_end : (if (0 : Int) = 0 then endS T8 (Int.toNat 2) else 0) = 5 := by decide +kernel
theorem t8_depth : (if (0 : Int) = 0 then depthS T8 (Int.toNat 4) else 0) = 3 := by decide +kernel
theorem t8_atoms : atomsS8 T8 = [1, 3, 4] := by decide +kernel
end Go.Proofs.Ytnifmdeojgfgcaa
