/- A region that draws its order: every operation but a forced tail may run in whatever order; each is asked only what its own operands need. No conditions. liveryref07.End at a part of a list of whole terms. No conditions but sizes. Two strings side by side. No conditions but their length. The contracts of the document's own texts of parts: liveryref07.digits, Dec, Word, Text. No conditions but sizes. Parts that may have a text; the text of a term among others; what the rules ask of a term that may be. No program. No conditions. The contract of the document's own text of a part: liveryref07.Text. No conditions but sizes. Terms as the document's own answers of layer 9 have them: their parts and where each comes from; slices of them. No function of the program. No conditions. The contract of the document's own children of a term: liveryref09.kids. No conditions but sizes. Terms of package norm while they are normalized: seven cells each, slices of them, in blocks that are told by a property. No function of the program. No conditions. The parts of a term, one behind the other: (*list).add. Conditions: the list's rows lie apart from the term, sizes. -/
import Derived.Test.YtioalnncjahlnaaGreatDoorPAGA
import Derived.Deep.Quiet
import Derived.Test.YtioalnncjahlnaaGreatDoorPAGB
import Derived.Deep.RegionHeld3
import Derived.Laws.Concat
import Derived.Deep.RegionLaw
import Derived.Deep.DeepCutAuto
namespace Go.Proofs.YtioalnncjahlnaaGreatDoor
open Go.RowKit

/-- What is asked of one operation's outcome: its value and the world behind it. -/
def gives (P : Program) (G : Value → World → Prop) : Result Next → Prop
  | .ok (.value u) w' => G u w'
  | .ok .skip w' => G undef w'
  | .ok (.enter f args) w' => Calls P f args w' (fun e w'' => ∃ v, e = .returned v ∧ G v w'')
  | _ => False

theorem upon_of_gives {P : Program} {o : Oper} {a : Act} {next : Act → World → Prop} {Q : Exit → Act → World → Prop} {G : Value → World → Prop} {r : Result Next}
    (h : gives P G r) (hn : ∀ v w', G v w' → next (a.put o.dst v) w') : o.upon P a next Q r := by
  cases r with
  | ok n w' =>
    cases n <;> simp only [gives] at h <;> simp only [Oper.upon]
    case value u => exact hn _ _ h
    case skip => exact hn _ _ h
    case enter f args => exact h.mono fun e w'' ⟨v, he, hg⟩ => by subst he; exact hn _ _ hg
  | halt x w' => simp only [gives] at h

/-- Operation i waits for operation j. -/
def waits (ops : Array Oper) (i j : Nat) : Bool := match ops[i]? with
  | some o => o.after.any fun e => Region.binds .any e && e.on == j
  | none => false
def cover (ops : Array Oper) : Nat → Nat → Nat → Bool
  | 0, i, j => waits ops i j
  | d + 1, i, j => waits ops i j || (List.range i).any fun k => waits ops i k && cover ops d k j
/-- Most regions are shallow; the deep look is taken only where the other fails. -/
def coverX (ops : Array Oper) (i j : Nat) : Bool := cover ops 3 i j || cover ops 8 i j

/-- The frame in which the first n operations have left u. -/
def frm (l : List Oper) (u : Nat → Value) : Nat → Act → Act
  | k, a => match l with
    | [] => a
    | o :: r => frm r u (k + 1) (a.put o.dst (u k))

/-- The closed facts on a region: edges lead back; operands made in the region are waited for; no two write one slot; the tail waits for all ahead of it. -/
def jOk (l : List Oper) (n : Nat) (lax : List Nat) : Bool :=
  Region.noSelect l.toArray &&
  ((List.range l.length).all fun i => match l[i]? with
    | some o => o.after.all fun e => !Region.binds .any e || decide (e.on < i)
    | none => true) &&
  ((List.range n).all fun i => match l[i]? with
    | some o => (List.range n).all fun j => match l[j]? with
      | some p => match p.dst with
        | some t => (!(o.looksAt l.toArray).contains t || waits l.toArray i j) && (i == j || o.dst != some t)
        | none => true
      | none => true
    | none => true) &&
  ((List.range l.length).all fun i => decide (i < n) || (List.range i).all fun j => lax.contains j || coverX l.toArray i j) &&
  (lax.all fun i => decide (i < n)) &&
  (lax.all fun i => match l[i]? with
    | some o => (List.range l.length).all fun j => match l[j]? with
      | some p => j == i || (decide (j < n) && !lax.contains j) || waits l.toArray j i || o.apart l.toArray p
      | none => true
    | none => true)

structure Shut (ops : Array Oper) (listed : Array Bool) : Prop where
  size : listed.size = ops.size
  deps : ∀ i o, ops[i]? = some o → listed.getD i false = true → ∀ e ∈ o.after, Region.binds .any e = true → listed.getD e.on false = true

theorem waits_listed {ops : Array Oper} {listed : Array Bool} {i j : Nat} {o : Oper} (ho : ops[i]? = some o)
    (hd : ∀ e ∈ o.after, Region.binds .any e = true → listed.getD e.on false = true) (h : waits ops i j = true) : listed.getD j false = true := by
  unfold waits at h
  rw [ho] at h
  obtain ⟨e, he, hb⟩ := Array.any_eq_true'.1 h
  simp only [Bool.and_eq_true, beq_iff_eq] at hb
  exact hb.2 ▸ hd e he hb.1

theorem cover_listed {ops : Array Oper} {listed : Array Bool} (hs : Shut ops listed) : ∀ (d i j : Nat) (o : Oper), ops[i]? = some o →
    (∀ e ∈ o.after, Region.binds .any e = true → listed.getD e.on false = true) → cover ops d i j = true → listed.getD j false = true := by
  intro d
  induction d with
  | zero => intro i j o ho hd h; exact waits_listed ho hd h
  | succ d ih =>
    intro i j o ho hd h
    simp only [cover, Bool.or_eq_true, List.any_eq_true, Bool.and_eq_true] at h
    rcases h with h | ⟨k, _, hk, hc⟩
    · exact waits_listed ho hd h
    · have hkl := waits_listed ho hd hk
      cases hok : ops[k]? with
      | none =>
        have hlt : ¬ k < ops.size := by intro hlt; rw [Array.getElem?_eq_getElem hlt] at hok; cases hok
        rw [← hs.size] at hlt
        simp [Array.getElem?_eq_none (Nat.not_lt.1 hlt)] at hkl
      | some ok => exact ih k j ok hok (hs.deps k ok hok hkl) hc

theorem coverX_listed {ops : Array Oper} {listed : Array Bool} (hs : Shut ops listed) (i j : Nat) (o : Oper) (ho : ops[i]? = some o)
    (hd : ∀ e ∈ o.after, Region.binds .any e = true → listed.getD e.on false = true) (h : coverX ops i j = true) : listed.getD j false = true := by
  unfold coverX at h
  rw [Bool.or_eq_true] at h
  rcases h with h | h
  · exact cover_listed hs 3 i j o ho hd h
  · exact cover_listed hs 8 i j o ho hd h

theorem getD_flip {x : Array Bool} {j : Nat} (h : j < x.size) (d e : Bool) : x.getD j d = x.getD j e := by simp [h]

/-- The tail: one operation behind the other. -/
theorem tail_any {P : Program} {l : List Oper} {n : Nat} {Q : Exit → Act → World → Prop}
    (hback : ∀ i o, l[i]? = some o → ∀ e ∈ o.after, Region.binds .any e = true → e.on < i)
    (hok : ∀ i, n ≤ i → i < l.length → ∀ j, n ≤ j → j < i → coverX l.toArray i j = true) :
    ∀ (fuel k : Nat) (listed : Array Bool) (a : Act) (w : World), n ≤ k → k ≤ l.length → l.length ≤ k + fuel → Shut l.toArray listed →
      (∀ j, j < l.length → listed.getD j false = decide (j < k)) → wpList P l.toArray Q (l.drop k) a w → wpAny P .any l.toArray Q fuel listed a w := by
  have done : ∀ (k : Nat) (listed : Array Bool), l.length ≤ k → Shut l.toArray listed → (∀ j, j < l.length → listed.getD j false = decide (j < k)) → Region.ready .any l.toArray listed = [] := by
    intro k listed hk hs hl
    apply List.eq_nil_iff_forall_not_mem.2
    intro j hj
    obtain ⟨h0, o, ho, _⟩ := mem_ready.1 hj
    have hjl : j < l.length := by
      rcases Nat.lt_or_ge j l.length with h | h
      · exact h
      · simp [List.getElem?_eq_none h] at ho
    have := hl j hjl
    rw [getD_flip (by rw [hs.size]; simp; exact hjl) false true, h0] at this
    simp at this; omega
  intro fuel
  induction fuel with
  | zero =>
    intro k listed a w _ hk1 hk2 hs hl h
    have hk : k = l.length := by omega
    subst hk
    rw [List.drop_length] at h
    exact ⟨done _ _ (Nat.le_refl _) hs hl, h⟩
  | succ fuel ih =>
    intro k listed a w hnk hk1 hk2 hs hl h
    rcases Nat.lt_or_ge k l.length with hlt | hge
    · have hok' : l[k]? = some l[k] := List.getElem?_eq_getElem hlt
      have hka : l.toArray[k]? = some l[k] := by simp
      rw [List.drop_eq_getElem_cons hlt] at h
      have hdeps : ∀ e ∈ l[k].after, Region.binds .any e = true → listed.getD e.on false = true := fun e he hb => by
        have := hback k _ hok' e he hb
        rw [hl e.on (by omega)]; simpa using this
      refine ⟨fun h0 => ?_, fun j hj => ?_⟩
      · exfalso
        have : k ∈ Region.ready .any l.toArray listed := by
          refine mem_ready.2 ⟨?_, l[k], hka, hdeps⟩
          rw [getD_flip (by rw [hs.size]; simp; exact hlt) true false, hl k hlt]; simp
        rw [h0] at this; cases this
      · obtain ⟨h0, o, ho, hd⟩ := mem_ready.1 hj
        have hjl : j < l.length := by
          rcases Nat.lt_or_ge j l.length with h | h
          · exact h
          · simp [List.getElem?_eq_none h] at ho
        have hjk : k ≤ j := by
          have := hl j hjl
          rw [getD_flip (by rw [hs.size]; simp; exact hjl) false true, h0] at this
          simp at this; exact this
        have hej : j = k := by
          rcases Nat.lt_or_ge k j with hlt' | hge'
          · have := coverX_listed hs j k o ho hd (hok j (by omega) hjl k hnk hlt')
            rw [hl k hlt] at this; simp at this
          · omega
        subst hej
        have hwp : wpOp P l.toArray Q j (wpList P l.toArray Q (l.drop (j + 1))) a w := by
          unfold wpOp; simp only [hka]; exact h
        refine wpOp_mono (fun a' w' h' => ih (j + 1) _ a' w' (by omega) (by omega) (by omega) ⟨by simpa using hs.size, ?_⟩ ?_ h') hwp
        · intro i oi hi hli e he hb
          by_cases hij : i = j
          · subst hij
            rw [hka] at hi; cases hi
            exact getD_set_true (hdeps e he hb)
          · rw [getD_set_ne false (Ne.symm hij)] at hli
            exact getD_set_true (hs.deps i oi hi hli e he hb)
        · intro i hi
          by_cases hij : i = j
          · subst hij
            have : i < listed.size := by rw [hs.size]; simpa using hi
            simp [this]
          · rw [getD_set_ne false (Ne.symm hij), hl i hi, decide_eq_decide]; omega
    · have hk : k = l.length := by omega
      subst hk
      rw [List.drop_length] at h
      exact wpAny_done (done _ _ (Nat.le_refl _) hs hl) h _

theorem frm_spec (u : Nat → Value) : ∀ (l : List Oper) (k : Nat) (a : Act), (frm l u k a).tmps.size = a.tmps.size ∧ (frm l u k a).defers = a.defers ∧
    (∀ (t : Tmp), (∀ (j : Nat) (o : Oper), l[j]? = some o → o.dst ≠ some t) → (frm l u k a).tmps[t]? = a.tmps[t]?) ∧
    (∀ (j : Nat) (o : Oper) (t : Tmp), l[j]? = some o → o.dst = some t → (∀ (i : Nat) (p : Oper), l[i]? = some p → i ≠ j → p.dst ≠ some t) → t < a.tmps.size → (frm l u k a).tmps[t]? = some (u (k + j))) := by
  intro l
  induction l with
  | nil => intro k a; exact ⟨rfl, rfl, fun _ _ => rfl, fun j o t h => by simp at h⟩
  | cons q r ih =>
    intro k a
    obtain ⟨h1, h2, h3, h4⟩ := ih (k + 1) (a.put q.dst (u k))
    have hs : (a.put q.dst (u k)).tmps.size = a.tmps.size := by cases q.dst <;> simp [Act.put]
    have hd : (a.put q.dst (u k)).defers = a.defers := by cases q.dst <;> simp [Act.put]
    refine ⟨by rw [← hs]; exact h1, by rw [← hd]; exact h2, fun t ht => ?_, fun j o t hj hdst huniq hlt => ?_⟩
    · have e := h3 t (fun j o hj => ht (j + 1) o (by simpa using hj))
      show (frm r u (k + 1) (a.put q.dst (u k))).tmps[t]? = _
      rw [e]
      have hq := ht 0 q (by simp)
      cases hqd : q.dst with
      | none => rfl
      | some d =>
        have hne : d ≠ t := fun e => hq (by rw [hqd, e])
        simp [Act.put, Array.getElem?_setIfInBounds_ne hne]
    · show (frm r u (k + 1) (a.put q.dst (u k))).tmps[t]? = _
      cases j with
      | zero =>
        simp at hj; subst hj
        rw [h3 t (fun i p hi => huniq (i + 1) p (by simpa using hi) (by omega)), hdst]
        simp [Act.put, hlt]
      | succ j =>
        have := h4 j o t (by simpa using hj) hdst (fun i p hi hne => huniq (i + 1) p (by simpa using hi) (by omega)) (by rw [hs]; exact hlt)
        rw [this]; congr 2; omega

/-- What holds while the first n operations run, in whatever order. -/
structure JInv (l : List Oper) (n : Nat) (a0 : Act) (w0 : World) (R : Nat → Value → World → Prop) (fr : Nat → Bool) (u : Nat → Value) (listed : Array Bool) (a : Act) (w : World) : Prop where
  shut : Shut l.toArray listed
  notail : ∀ j, n ≤ j → j < l.length → listed.getD j false = false
  size : a.tmps.size = a0.tmps.size
  defers : a.defers = a0.defers
  mine : ∀ (j : Nat) (o : Oper) (t : Tmp), j < n → l[j]? = some o → listed.getD j false = true → o.dst = some t → t < a0.tmps.size → a.tmps[t]? = some (u j)
  rest : ∀ (t : Tmp), (∀ (j : Nat) (o : Oper), j < n → l[j]? = some o → listed.getD j false = true → o.dst ≠ some t) → a.tmps[t]? = a0.tmps[t]?
  past : Below w0.heap.size w0 w
  facts : ∀ j, j < n → listed.getD j false = true → R j (u j) w
  fresh : ∀ j, j < n → listed.getD j false = true → fr j = true → ∃ p, u j = .pointer (some ⟨p, 0, none⟩) ∧ p < w.heap.size
  apart : ∀ i j, i < n → j < n → i ≠ j → listed.getD i false = true → listed.getD j false = true → fr i = true → fr j = true → u i ≠ u j

/-- What is asked of operation i: in the frame in which all the first n have left u, in a world that has only grown, knowing what it waits for. -/
def JStep (P : Program) (l : List Oper) (n : Nat) (a0 : Act) (w0 : World) (R : Nat → Value → World → Prop) (fr : Nat → Bool) (i : Nat) (o : Oper) : Prop :=
  ∀ (u : Nat → Value) (x : Past w0), (∀ j, j < n → waits l.toArray i j = true → R j (u j) x.1) →
    if Region.wanted o (yielded l.toArray (frm (l.take n) u 0 a0).tmps) then
      gives P (fun v w' => Below x.1.heap.size x.1 w' ∧ R i v w' ∧ (fr i = true → ∃ p, v = .pointer (some ⟨p, 0, none⟩) ∧ x.1.heap.size ≤ p ∧ p < w'.heap.size)) ((execOp (frm (l.take n) u 0 a0).eval o).run P x.1)
    else R i undef x.1 ∧ fr i = false

structure JOk (l : List Oper) (n : Nat) (lax : List Nat) : Prop where
  sel : Region.noSelect l.toArray = true
  back : ∀ (i : Nat) (o : Oper), l[i]? = some o → ∀ e ∈ o.after, Region.binds .any e = true → e.on < i
  own : ∀ (i : Nat) (o : Oper) (j : Nat) (p : Oper) (t : Tmp), i < n → j < n → l[i]? = some o → l[j]? = some p → p.dst = some t → t ∈ o.looksAt l.toArray → waits l.toArray i j = true
  one : ∀ (i : Nat) (o : Oper) (j : Nat) (p : Oper) (t : Tmp), i < n → j < n → l[i]? = some o → l[j]? = some p → p.dst = some t → o.dst = some t → i = j
  tail : ∀ i, n ≤ i → i < l.length → ∀ j, j < i → j ∉ lax → coverX l.toArray i j = true
  laxLt : ∀ i, i ∈ lax → i < n
  laxA : ∀ (i j : Nat) (o p : Oper), i ∈ lax → l[i]? = some o → l[j]? = some p → j ≠ i → (n ≤ j ∨ j ∈ lax) → waits l.toArray j i = true ∨ o.apart l.toArray p = true

theorem jOk_spec {l : List Oper} {n : Nat} {lax : List Nat} (h : jOk l n lax = true) : JOk l n lax := by
  simp only [jOk, Bool.and_eq_true, List.all_eq_true, List.mem_range] at h
  obtain ⟨⟨⟨⟨⟨h1, h2⟩, h3⟩, h4⟩, h5⟩, h6⟩ := h
  refine ⟨h1, ?_, ?_, ?_, ?_, fun i hi => by simpa using h5 i hi, ?_⟩
  rotate_left 4
  · intro i j o p hi ho hp hne hj
    have := h6 i hi
    rw [ho] at this
    have := List.all_eq_true.1 this j (List.mem_range.2 (List.getElem?_eq_some_iff.1 hp).1)
    rw [hp] at this
    simp only [Bool.or_eq_true, Bool.and_eq_true, decide_eq_true_eq, beq_iff_eq, Bool.not_eq_true'] at this
    rcases this with ((h | h) | h) | h
    · exact absurd h hne
    · exfalso
      rcases hj with hj | hj
      · omega
      · have := h.2; simp [hj] at this
    · exact .inl h
    · exact .inr h
  · intro i o ho e he hb
    have := h2 i (List.getElem?_eq_some_iff.1 ho).1
    rw [ho] at this
    have := Array.all_eq_true_iff_forall_mem.1 this e he
    simpa [hb] using this
  · intro i o j p t hi hj ho hp ht hl
    have := h3 i hi
    rw [ho] at this
    have := List.all_eq_true.1 this j (List.mem_range.2 hj)
    rw [hp] at this
    simp only [ht, Bool.and_eq_true, Bool.or_eq_true, Bool.not_eq_true'] at this
    rcases this.1 with h | h
    · exact absurd hl (by simpa using h)
    · exact h
  · intro i o j p t hi hj ho hp ht hd
    have := h3 i hi
    rw [ho] at this
    have := List.all_eq_true.1 this j (List.mem_range.2 hj)
    rw [hp] at this
    simp only [ht, Bool.and_eq_true, Bool.or_eq_true] at this
    rcases this.2 with h | h
    · simpa using h
    · rw [hd] at h; simp at h
  · intro i hi hl j hj hjx
    have := h4 i hl
    simp only [Bool.or_eq_true, decide_eq_true_eq, List.all_eq_true, List.mem_range] at this
    rcases this with h | h
    · omega
    · rcases h j hj with h | h
      · exact absurd (by simpa using h) hjx
      · exact h

section
variable {P : Program} {l : List Oper} {n : Nat} {lax : List Nat} {a0 : Act} {w0 : World} {R : Nat → Value → World → Prop} {fr : Nat → Bool}

/-- What an operation that is ready looks at is as it will be when all have run. -/
theorem look_same (_hn : n ≤ l.length) (hok : JOk l n lax) {u : Nat → Value} {listed : Array Bool} {a : Act} {w : World} (hI : JInv l n a0 w0 R fr u listed a w)
    {i : Nat} {o : Oper} (hi : i < n) (ho : l[i]? = some o) (hd : ∀ e ∈ o.after, Region.binds .any e = true → listed.getD e.on false = true) :
    ∀ t, t ∈ o.looksAt l.toArray → a.tmps[t]? = (frm (l.take n) u 0 a0).tmps[t]? := by
  intro t ht
  obtain ⟨f1, _, f3, f4⟩ := frm_spec u (l.take n) 0 a0
  by_cases h : ∃ (j : Nat) (p : Oper), j < n ∧ l[j]? = some p ∧ p.dst = some t
  · obtain ⟨j, p, hj, hp, hpt⟩ := h
    have hw := hok.own i o j p t hi hj ho hp hpt ht
    have hl := waits_listed (ops := l.toArray) (i := i) (by simpa using ho) hd hw
    rcases Nat.lt_or_ge t a0.tmps.size with hlt | hge
    · rw [hI.mine j p t hj hp hl hpt hlt, f4 j p t (by rw [List.getElem?_take, if_pos hj]; exact hp) hpt (fun k q hq hne => ?_) hlt]
      · simp
      · intro hqt
        rw [List.getElem?_take] at hq
        split at hq
        · rename_i hk; exact hne (hok.one k q j p t hk hj hq hp hpt hqt)
        · cases hq
    · rw [Array.getElem?_eq_none (by rw [hI.size]; exact hge), Array.getElem?_eq_none (by rw [f1]; exact hge)]
  · rw [hI.rest t (fun j p hj hp _ hpt => h ⟨j, p, hj, hp, hpt⟩), f3 t (fun j p hp hpt => ?_)]
    rw [List.getElem?_take] at hp
    split at hp
    · rename_i hk; exact h ⟨j, p, hk, hp, hpt⟩
    · cases hp

theorem exec_same {a a' : Act} {o : Oper} {ops : Array Oper} (hs : ∀ cs b, o.op ≠ .select cs b) (h : ∀ t, t ∈ o.looksAt ops → a.tmps[t]? = a'.tmps[t]?) : execOp a.eval o = execOp a'.eval o := by
  refine execOp_congr o hs fun x hx => ?_
  cases x with
  | tmp t =>
    have := h t (List.mem_append_left _ (List.mem_filterMap.2 ⟨.tmp t, by simpa using hx, rfl⟩))
    simp only [Act.eval, Array.getD_eq_getD_getElem?, this]
  | const v => rfl
  | global g => rfl
  | func f => rfl

theorem wanted_same {a a' : Act} {o : Oper} {ops : Array Oper} (h : ∀ t, t ∈ o.looksAt ops → a.tmps[t]? = a'.tmps[t]?) :
    Region.wanted o (yielded ops a.tmps) = Region.wanted o (yielded ops a'.tmps) := by
  unfold Region.wanted
  cases hg : o.guard with
  | none => rfl
  | some gw =>
    obtain ⟨g, want⟩ := gw
    have hy : yielded ops a.tmps g = yielded ops a'.tmps g := by
      unfold yielded
      cases ht : (ops[g]?).bind (·.dst) with
      | none => rfl
      | some t => simp only [Option.bind_some, h t (List.mem_append_right _ (by simp [hg, ht]))]
    simp only [hy]

/-- One operation has run: what holds then. -/
theorem JInv.next (hok : JOk l n lax) (hst : ∀ i v w w', R i v w → Below w.heap.size w w' → R i v w') {u : Nat → Value} {listed : Array Bool} {a : Act} {w : World} (hI : JInv l n a0 w0 R fr u listed a w)
    {i : Nat} {o : Oper} (hi : i < n) (hn : n ≤ l.length) (ho : l[i]? = some o) (hun : listed.getD i false = false) (hd : ∀ e ∈ o.after, Region.binds .any e = true → listed.getD e.on false = true)
    {v : Value} {w' : World} (hb : Below w.heap.size w w') (hR : R i v w') (hf : fr i = true → ∃ p, v = .pointer (some ⟨p, 0, none⟩) ∧ w.heap.size ≤ p ∧ p < w'.heap.size) :
    JInv l n a0 w0 R fr (fun j => if j = i then v else u j) (listed.setIfInBounds i true) (a.put o.dst v) w' := by
  have hsz : (a.put o.dst v).tmps.size = a.tmps.size := by cases o.dst <;> simp [Act.put]
  have hil : i < listed.size := by rw [hI.shut.size]; simp; omega
  have hne : ∀ j, j ≠ i → (listed.setIfInBounds i true).getD j false = listed.getD j false := fun j h => getD_set_ne false (Ne.symm h)
  refine ⟨⟨by simpa using hI.shut.size, ?_⟩, ?_, by rw [hsz]; exact hI.size, ?_, ?_, ?_, ?_, ?_, ?_, ?_⟩
  · intro k ok hk hkl e he hbd
    by_cases hki : k = i
    · subst hki
      have : ok = o := by have : l.toArray[k]? = some o := by simpa using ho
                          rw [this] at hk; exact (Option.some.inj hk).symm
      subst this
      exact getD_set_true (hd e he hbd)
    · rw [hne k hki] at hkl
      exact getD_set_true (hI.shut.deps k ok hk hkl e he hbd)
  · intro j hj hjl
    rw [hne j (by omega)]; exact hI.notail j hj hjl
  · have : (a.put o.dst v).defers = a.defers := by cases o.dst <;> rfl
    rw [this]; exact hI.defers
  · intro j p t hj hp hl hpt hlt
    by_cases hji : j = i
    · subst hji
      have : p = o := by rw [ho] at hp; exact (Option.some.inj hp).symm
      subst this
      simp [Act.put, hpt, hI.size, hlt]
    · rw [hne j hji] at hl
      have hdst : o.dst ≠ some t := fun h => hji (hok.one j p i o t hj hi hp ho h hpt)
      have : (a.put o.dst v).tmps[t]? = a.tmps[t]? := by
        cases hod : o.dst with
        | none => rfl
        | some d => have : d ≠ t := fun e => hdst (by rw [hod, e])
                    simp [Act.put, Array.getElem?_setIfInBounds_ne this]
      rw [this, if_neg hji]
      exact hI.mine j p t hj hp hl hpt hlt
  · intro t ht
    have hdst : o.dst ≠ some t := ht i o hi ho (by simp [hil])
    have : (a.put o.dst v).tmps[t]? = a.tmps[t]? := by
      cases hod : o.dst with
      | none => rfl
      | some d => have : d ≠ t := fun e => hdst (by rw [hod, e])
                  simp [Act.put, Array.getElem?_setIfInBounds_ne this]
    rw [this]
    exact hI.rest t fun j p hj hp hl => ht j p hj hp (getD_set_true hl)
  · exact hI.past.trans (hb.mono hI.past.size)
  · intro j hj hl
    by_cases hji : j = i
    · subst hji; simpa using hR
    · rw [hne j hji] at hl
      simp only [if_neg hji]
      exact hst _ _ _ _ (hI.facts j hj hl) hb
  · intro j hj hl hfj
    by_cases hji : j = i
    · subst hji
      obtain ⟨p, h1, _, h3⟩ := hf hfj
      exact ⟨p, by simpa using h1, h3⟩
    · rw [hne j hji] at hl
      obtain ⟨p, h1, h2⟩ := hI.fresh j hj hl hfj
      exact ⟨p, by simpa [if_neg hji] using h1, Nat.lt_of_lt_of_le h2 hb.size⟩
  · intro j k hj hk hjk hjl hkl hfj hfk
    by_cases hji : j = i
    · subst hji
      rw [hne k (Ne.symm hjk)] at hkl
      obtain ⟨p, h1, h2, _⟩ := hf hfj
      obtain ⟨q, h3, h4⟩ := hI.fresh k hk hkl hfk
      simp only [if_true, if_neg (Ne.symm hjk), h1, h3]
      intro h; (simp at h <;> omega)
    · by_cases hki : k = i
      · subst hki
        rw [hne j hji] at hjl
        obtain ⟨p, h1, h2, _⟩ := hf hfk
        obtain ⟨q, h3, h4⟩ := hI.fresh j hj hjl hfj
        simp only [if_true, if_neg hji, h1, h3]
        intro h; (simp at h <;> omega)
      · rw [hne j hji] at hjl; rw [hne k hki] at hkl
        simp only [if_neg hji, if_neg hki]
        exact hI.apart j k hj hk hjk hjl hkl hfj hfk

/-- All of the first n operations have run: the frame is the whole one. -/
theorem JInv.whole (hok : JOk l n lax) {u : Nat → Value} {listed : Array Bool} {a : Act} {w : World} (hI : JInv l n a0 w0 R fr u listed a w) (_hn : n ≤ l.length)
    (hall : ∀ j, j < n → listed.getD j false = true) : a = frm (l.take n) u 0 a0 := by
  obtain ⟨f1, f2, f3, f4⟩ := frm_spec u (l.take n) 0 a0
  have htm : a.tmps = (frm (l.take n) u 0 a0).tmps := by
    apply Array.ext_getElem?
    intro t
    by_cases h : ∃ (j : Nat) (p : Oper), j < n ∧ l[j]? = some p ∧ p.dst = some t
    · obtain ⟨j, p, hj, hp, hpt⟩ := h
      rcases Nat.lt_or_ge t a0.tmps.size with hlt | hge
      · rw [hI.mine j p t hj hp (hall j hj) hpt hlt, f4 j p t (by rw [List.getElem?_take, if_pos hj]; exact hp) hpt (fun k q hq hne => ?_) hlt]
        · simp
        · intro hqt
          rw [List.getElem?_take] at hq
          split at hq
          · rename_i hk; exact hne (hok.one k q j p t hk hj hq hp hpt hqt)
          · cases hq
      · rw [Array.getElem?_eq_none (by rw [hI.size]; exact hge), Array.getElem?_eq_none (by rw [f1]; exact hge)]
    · rw [hI.rest t (fun j p hj hp _ hpt => h ⟨j, p, hj, hp, hpt⟩), f3 t (fun j p hp hpt => ?_)]
      rw [List.getElem?_take] at hp
      split at hp
      · rename_i hk; exact h ⟨j, p, hk, hp, hpt⟩
      · cases hp
  have hde : a.defers = (frm (l.take n) u 0 a0).defers := by rw [f2]; exact hI.defers
  cases a; cases hq : frm (l.take n) u 0 a0
  rw [hq] at htm hde
  simp only at htm hde
  rw [htm, hde]

def left (n : Nat) (listed : Array Bool) : Nat := ((List.range n).filter fun j => !listed.getD j false).length

theorem left_set {n i : Nat} {listed : Array Bool} (hi : i < n) (hil : i < listed.size) (hun : listed.getD i false = false) : left n (listed.setIfInBounds i true) + 1 ≤ left n listed := by
  unfold left
  have h1 : (List.range n).filter (fun j => !(listed.setIfInBounds i true).getD j false) = ((List.range n).filter fun j => !listed.getD j false).filter (fun j => j != i) := by
    rw [List.filter_filter]
    refine List.filter_congr fun j _ => ?_
    by_cases hji : j = i
    · subst hji; simp [hil]
    · rw [getD_set_ne false (Ne.symm hji)]; simp [hji]
  rw [h1]
  have hmem : i ∈ (List.range n).filter fun j => !listed.getD j false := by simp [List.mem_filter, hi]; simpa using hun
  have : (((List.range n).filter fun j => !listed.getD j false).filter (fun j => j != i)).length < ((List.range n).filter fun j => !listed.getD j false).length := by
    apply Nat.lt_of_not_le
    intro hle
    have := (List.filter_sublist (p := fun j => j != i) (l := (List.range n).filter fun j => !listed.getD j false)).eq_of_length_le hle
    rw [← this] at hmem
    simp at hmem
  omega

/-- What is asked besides of an operation that the tail need not wait for: it gives one value, in whatever world; and all that has not run is apart from it. -/
def JLax (P : Program) (l : List Oper) (n : Nat) (a0 : Act) (w0 : World) (R : Nat → Value → World → Prop) (fr : Nat → Bool) (Q : Exit → Act → World → Prop) (i : Nat) (o : Oper) : Prop :=
  fr i = false ∧
  (∀ c a w v, Q (.panic c) (a.put o.dst v) w → Q (.panic c) a w) ∧
  ∀ (u : Nat → Value) (x : Past w0), (∀ j, j < n → waits l.toArray i j = true → R j (u j) x.1) →
    Region.wanted o (yielded l.toArray (frm (l.take n) u 0 a0).tmps) = true ∧ ∃ v, R i v x.1 ∧ ∀ w, (execOp (frm (l.take n) u 0 a0).eval o).run P w = .ok (.value v) w

theorem prefix_any {Q : Exit → Act → World → Prop} (hn : n ≤ l.length) (hok : JOk l n lax) (hst : ∀ i v w w', R i v w → Below w.heap.size w w' → R i v w')
    (hstep : ∀ (i : Nat) (o : Oper), i < n → l[i]? = some o → JStep P l n a0 w0 R fr i o)
    (hlax : ∀ (i : Nat) (o : Oper), i ∈ lax → l[i]? = some o → JLax P l n a0 w0 R fr Q i o)
    (htail : ∀ (u : Nat → Value) (x : Past w0), (∀ i, i < n → R i (u i) x.1) → (∀ i j, i < n → j < n → i ≠ j → fr i = true → fr j = true → u i ≠ u j) → wpList P l.toArray Q (l.drop n) (frm (l.take n) u 0 a0) x.1) :
    ∀ (m fuel : Nat) (u : Nat → Value) (listed : Array Bool) (a : Act) (w : World), left n listed ≤ m → m + (l.length - n) ≤ fuel → JInv l n a0 w0 R fr u listed a w → wpAny P .any l.toArray Q fuel listed a w := by
  have ending : ∀ (fuel : Nat) (u : Nat → Value) (listed : Array Bool) (a : Act) (w : World), (l.length - n) ≤ fuel → JInv l n a0 w0 R fr u listed a w → (∀ j, j < n → listed.getD j false = true) → wpAny P .any l.toArray Q fuel listed a w := by
    intro fuel u listed a w hf hI hall
    have ha := hI.whole hok hn hall
    refine tail_any (n := n) hok.back (fun i h1 h2 j h3 h4 => hok.tail i h1 h2 j h4 (fun hx => by have := hok.laxLt j hx; omega)) fuel n listed a w (Nat.le_refl _) hn (by omega) hI.shut (fun j hj => ?_) ?_
    · by_cases h : j < n
      · rw [hall j h]; simp [h]
      · rw [hI.notail j (by omega) hj]; simp [h]
    · rw [ha]
      exact htail u ⟨w, hI.past⟩ (fun i hi => hI.facts i hi (hall i hi)) (fun i j hi hj hij h1 h2 => hI.apart i j hi hj hij (hall i hi) (hall j hj) h1 h2)
  intro m
  induction m with
  | zero =>
    intro fuel u listed a w hm hf hI
    refine ending fuel u listed a w (by omega) hI (fun j hj => ?_)
    cases h : listed.getD j false with
    | true => rfl
    | false =>
      exfalso
      have hmem : j ∈ (List.range n).filter fun j => !listed.getD j false := by simp [List.mem_filter, hj]; simpa using h
      have : (List.range n).filter (fun j => !listed.getD j false) = [] := List.length_eq_zero_iff.1 (by unfold left at hm; omega)
      rw [this] at hmem; cases hmem
  | succ m ih =>
    intro fuel u listed a w hm hf hI
    have hlt : ∀ j, j < n → j < listed.size := fun j hj => by rw [hI.shut.size]; simp; omega
    by_cases hall : ∀ j, j < n → listed.getD j false = true
    · exact ending fuel u listed a w (by omega) hI hall
    obtain ⟨fuel, rfl⟩ : ∃ f, fuel = f + 1 := ⟨fuel - 1, by omega⟩
    -- the least operation that has not run is ready
    have hex : ∃ j, j < n ∧ listed.getD j false = false ∧ ∀ k, k < j → listed.getD k false = true := by
      apply Classical.byContradiction
      intro hno
      refine hall fun j => ?_
      induction j using Nat.strongRecOn with
      | ind j ihj =>
        intro hj
        cases h : listed.getD j false with
        | true => rfl
        | false => exact absurd ⟨j, hj, h, fun k hk => ihj k hk (by omega)⟩ hno
    obtain ⟨j0, hj0, hj0l, hj0k⟩ := hex
    have hj0o : l[j0]? = some (l[j0]'(by omega)) := List.getElem?_eq_getElem (by omega)
    have hd0 : ∀ e ∈ (l[j0]'(by omega)).after, Region.binds .any e = true → listed.getD e.on false = true := fun e he hb => hj0k _ (hok.back j0 _ hj0o e he hb)
    have hr0 : j0 ∈ Region.ready .any l.toArray listed := mem_ready.2 ⟨by rw [getD_flip (hlt j0 hj0) true false]; exact hj0l, _, by rw [List.getElem?_toArray]; exact hj0o, hd0⟩
    by_cases hnz : ∀ j, j < n → j ∉ lax → listed.getD j false = true
    · -- what is left of the first n need not be waited for: it may be taken first
      have hx : j0 ∈ lax := Classical.byContradiction fun h => by rw [hnz j0 hj0 h] at hj0l; cases hj0l
      obtain ⟨h1, h3, h4⟩ := hlax j0 _ hx hj0o
      obtain ⟨h5, v, h6, h7⟩ := h4 u ⟨w, hI.past⟩ (fun j hj hw => hI.facts j hj (waits_listed (by rw [List.getElem?_toArray]; exact hj0o) hd0 hw))
      have hlook := look_same hn hok hI hj0 hj0o hd0
      have hsel := fun cs b => Region.noSelect_spec hok.sel j0 _ cs b (by rw [List.getElem?_toArray]; exact hj0o)
      refine wpAny_first (i := j0) (v := v) (by rw [List.getElem?_toArray]; exact hj0o) (Region.noSelect_spec hok.sel) (fun c a w => h3 c a w v) fuel listed a w ?_ hr0 ?_ ?_
      · intro j oj hoj hne hun hno
        rw [List.getElem?_toArray] at hoj
        have hj : n ≤ j ∨ j ∈ lax := by
          rcases Nat.lt_or_ge j n with h | h
          · right
            exact Classical.byContradiction fun hx' => by
              have := hnz j h hx'
              rw [getD_flip (hlt j h) true false, this] at hun; cases hun
          · exact .inl h
        rcases hok.laxA j0 j _ oj hx hj0o hoj hne hj with h | h
        · exfalso
          unfold waits at h
          rw [List.getElem?_toArray, hoj] at h
          obtain ⟨e, he, hb⟩ := Array.any_eq_true'.1 h
          simp only [Bool.and_eq_true, beq_iff_eq] at hb
          exact hno e he hb.1 hb.2
        · exact h
      · refine .inl ⟨by rw [wanted_same hlook]; exact h5, fun w' => ?_⟩
        rw [exec_same hsel hlook]; exact h7 w'
      · exact ih fuel _ _ _ _ (by have := left_set hj0 (hlt j0 hj0) hj0l; omega) (by omega) (hI.next hok hst hj0 hn hj0o hj0l hd0 (Below.refl _ _) h6 (fun h => by rw [h1] at h; cases h))
    · refine ⟨fun h0 => (by rw [h0] at hr0; cases hr0), fun i hi => ?_⟩
      obtain ⟨hun, o, ho, hd⟩ := mem_ready.1 hi
      have hil : i < l.length := by
        rcases Nat.lt_or_ge i l.length with h | h
        · exact h
        · simp [List.getElem?_eq_none h] at ho
      have hol : l[i]? = some o := by simpa using ho
      have hun' : listed.getD i false = false := by rw [← getD_flip (by rw [hI.shut.size]; simp; exact hil) true false]; exact hun
      have hin : i < n := by
        rcases Nat.lt_or_ge i n with h | h
        · exact h
        · exfalso
          exact hnz fun j hj hx => coverX_listed hI.shut i j o ho hd (hok.tail i h hil j (by omega) hx)
      have hlook := look_same hn hok hI hin hol hd
      have hs := hstep i o hin hol u ⟨w, hI.past⟩ (fun j hj hw => hI.facts j hj (waits_listed ho hd hw))
      have hsel := fun cs b => Region.noSelect_spec hok.sel i o cs b ho
      unfold wpOp
      simp only [ho]
      rw [wanted_same hlook]
      have go : ∀ v w', Below w.heap.size w w' → R i v w' → (fr i = true → ∃ p, v = .pointer (some ⟨p, 0, none⟩) ∧ w.heap.size ≤ p ∧ p < w'.heap.size) →
          wpAny P .any l.toArray Q fuel (listed.setIfInBounds i true) (a.put o.dst v) w' := fun v w' h1 h2 h3 =>
        ih fuel _ _ _ _ (by have := left_set hin (hlt i hin) hun'; omega) (by omega) (hI.next hok hst hin hn hol hun' hd h1 h2 h3)
      split
      · rename_i hwant
        rw [if_pos hwant] at hs
        refine .inl ?_
        unfold Oper.wp
        rw [exec_same hsel hlook]
        exact upon_of_gives hs fun v w' ⟨h1, h2, h3⟩ => go v w' h1 h2 h3
      · rename_i hwant
        rw [if_neg hwant] at hs
        exact go undef w (Below.refl _ _) hs.1 (fun h => by rw [hs.2] at h; cases h)

/-- A REGION THAT DRAWS ITS ORDER: the first n operations in whatever order, each by what it waits for; then the tail. -/
theorem wp_region_J {id : Nat} {Q : Exit → Act → World → Prop} (n : Nat) (lax : List Nat) (R : Nat → Value → World → Prop) (fr : Nat → Bool) (hm : P.follows .mixedOrders = true) (hn : n ≤ l.length) (hok : jOk l n lax = true)
    (hst : ∀ i v w w', R i v w → Below w.heap.size w w' → R i v w')
    (hstep : ∀ (i : Nat) (o : Oper), i < n → l[i]? = some o → JStep P l n a0 w0 R fr i o)
    (hlax : ∀ (i : Nat) (o : Oper), i ∈ lax → l[i]? = some o → JLax P l n a0 w0 R fr Q i o)
    (htail : ∀ (u : Nat → Value) (x : Past w0), (∀ i, i < n → R i (u i) x.1) → (∀ i j, i < n → j < n → i ≠ j → fr i = true → fr j = true → u i ≠ u j) → wpList P l.toArray Q (l.drop n) (frm (l.take n) u 0 a0) x.1) :
    (Code.region id l.toArray true).wp P Q a0 w0 := by
  have hok' := jOk_spec hok
  refine wp_region_any hm ?_
  have hun : ∀ j, (Array.replicate l.toArray.size false).getD j false = false := fun j => by
    simp only [Array.getD_eq_getD_getElem?, Array.getElem?_replicate]; split <;> rfl
  refine prefix_any hn hok' hst hstep hlax htail n l.toArray.size (fun _ => undef) _ a0 _ ?_ (by simp; omega) ?_
  · unfold left
    exact Nat.le_trans (List.length_filter_le _ _) (by simp)
  · have no : ∀ (j : Nat) (q : Prop), (Array.replicate l.toArray.size false).getD j false = true → q := fun j q h => by rw [hun] at h; cases h
    exact {
      shut := ⟨by simp, fun i o _ h => no i _ h⟩
      notail := fun j _ _ => hun j
      size := rfl
      defers := rfl
      mine := fun j o t _ _ h => no j _ h
      rest := fun _ _ => rfl
      past := (Below.refl _ _).drew
      facts := fun j _ h => no j _ h
      fresh := fun j _ h => no j _ h
      apart := fun i j _ _ _ h => no i _ h }

end

/-- The value is known; it is a new block's address, and the block is known. -/
def detR (v0 : Value) : Value → World → Prop := fun v _ => v = v0
def newR (B : Nat) (cs : Array Value) (t : TypeId) : Value → World → Prop := fun v w => ∃ p, v = .pointer (some ⟨p, 0, none⟩) ∧ B ≤ p ∧ Blk w p cs t
/-- The value is a slice over the whole of a new block. -/
def sliR (B n : Nat) (cs : Array Value) (t : TypeId) : Value → World → Prop := fun v w => ∃ p, v = .slice (some ⟨p, 0, none⟩) n n ∧ B ≤ p ∧ Blk w p cs t
def Stab (r : Value → World → Prop) : Prop := ∀ v w w', r v w → Below w.heap.size w w' → r v w'
theorem stab_det (v0 : Value) : Stab (detR v0) := fun _ _ _ h _ => h
theorem stab_new (B : Nat) (cs : Array Value) (t : TypeId) : Stab (newR B cs t) := fun _ _ _ ⟨p, h1, h2, h3⟩ hb => ⟨p, h1, h2, h3.past hb⟩
theorem stab_sli (B n : Nat) (cs : Array Value) (t : TypeId) : Stab (sliR B n cs t) := fun _ _ _ ⟨p, h1, h2, h3⟩ hb => ⟨p, h1, h2, h3.past hb⟩
def nthR (rs : List (Value → World → Prop)) (i : Nat) : Value → World → Prop := rs.getD i (fun _ _ => True)
theorem stab_nth {rs : List (Value → World → Prop)} (h : ∀ r ∈ rs, Stab r) : ∀ i v w w', nthR rs i v w → Below w.heap.size w w' → nthR rs i v w' := by
  intro i v w w' h1 h2
  unfold nthR at *
  rcases Nat.lt_or_ge i rs.length with hl | hl
  · rw [List.getD_eq_getElem?_getD, List.getElem?_eq_getElem hl] at *
    exact h _ (List.getElem_mem hl) v w w' h1 h2
  · rw [List.getD_eq_getElem?_getD, List.getElem?_eq_none hl]
    trivial

/-- A region in the text's order whose operations read and call what only makes memory: the same walk. -/
theorem wpList_of_quiet {P : Program} {ops : Array Oper} {C : World → Prop} {Q : Act → Prop} {Q' : Exit → Act → World → Prop} (hQ : ∀ a w, C w → Q a → Q' .normal a w) :
    ∀ (l : List Oper) (a : Act) (w : World), C w → wpQuiet P ops C Q l a → wpList P ops Q' l a w := by
  intro l
  induction l with
  | nil => intro a w hw h; exact hQ a w hw h
  | cons o r ih =>
    intro a w hw h
    unfold wpQuiet at h
    unfold wpList
    split
    · rename_i hwant
      rw [if_pos hwant] at h
      exact .inl (Oper.wp_of_quiet hw (fun a' w' hw' h' => ih a' w' hw' h') h)
    · rename_i hwant
      rw [if_neg hwant] at h
      exact ih _ _ hw h
theorem wp_region_past_seq {P : Program} {id : Nat} {Q : Exit → Act → World → Prop} {a : Act} {w : World} {l : List Oper}
    (h : wpQuiet P l.toArray (fun w' => ∃ x : Past w, w' = x.1) (fun a' => ∀ w', (∃ x : Past w, w' = x.1) → Q .normal a' w') l a) : (Code.region id l.toArray false).wp P Q a w :=
  wp_region_list (by
    have := wpList_of_quiet (P := P) (ops := l.toArray) (C := fun w' => ∃ x : Past w, w' = x.1) (Q := fun a' => ∀ w', (∃ x : Past w, w' = x.1) → Q .normal a' w') (Q' := Q) (fun a w hw h => h w hw) l a w ⟨⟨w, Below.refl _ _⟩, rfl⟩ h
    simpa using this)

end Go.Proofs.YtioalnncjahlnaaGreatDoor

namespace Go.Proofs.YtioalnncjahlnaaGreatDoor
open Go.ChangeShapes Go.WideShapes Go.ChangeAt Go.RowKit
attribute [local irreducible] Go.Calls

theorem getD_mid (A : List Prt) (y : Prt) (B : List Prt) : (A ++ y :: B).getD A.length pr0 = y := by
  rw [List.getD_eq_getElem?_getD, List.getElem?_append_right (Nat.le_refl _), Nat.sub_self]; rfl
set_option maxHeartbeats 1000000 in
theorem end_c (n : Nat) : ∀ (x : Prt) (kids : Fst) (A B l : List Prt) (a : Option Addr) (cap at0 : Nat) (w : World), kids.size < n → x.kind ≤ 4 → kids.kok → l = A ++ ({ x with kids := kids.len } :: (kids.flat ++ B)) → at0 = A.length → l.length ≤ 100000 → ArgP w a l →
    Calls Tryz.prog 65 #[.slice a l.length cap, .int .i64 at0] w fun e w' => e = .returned (.int .i64 (at0 + 1 + kids.size : Nat)) ∧ Below w.heap.size w w' := by
  induction n with
  | zero => intro x kids A B l a cap at0 w h; omega
  | succ n ih =>
    intro x kids A B l a cap at0 w hn hx hk hl hat hll hA
    have IH := hidE ih; have HK := hidE hk; have HA := hidE hA; have HAT := hidE hat; have HL := hidE hl
    have hlen : l.length = at0 + (kids.size + B.length + 1) := by rw [hl, hat]; simp only [List.length_append, List.length_cons, flat_len]
    have hg0 : l.getD at0 pr0 = { x with kids := kids.len } := by rw [hl, hat]; exact getD_mid _ _ _
    have hks := len_size kids
    have HS := hidE (show l = (A ++ [{ x with kids := (kids.len : Int) }]) ++ (kids.flat ++ B) by rw [hl]; simp)
    have HSl := hidE (show (A ++ [{ x with kids := (kids.len : Int) }]).length = at0 + 1 by rw [hat]; simp)
    clear ih hk hl hat
    obtain ⟨p, off, rfl, hpp, hc⟩ := hA (by omega)
    obtain ⟨c0, c1, c2, c3, c4⟩ := hc.get (i := at0) (by omega)
    rw [hg0] at c0 c4
    simp only at c0 c4
    have HN := hidE hn; have HLE := hidE hlen
    have hC0 := hidE c0; have hC4 := hidE c4
    generalize hS : kids.size = S at *
    generalize hK : kids.len = K at *
    have hSS := hidE hS; have hKK := hidE hK
    generalize hL : l.length = L at *
    have hLL := hidE hL
    have q0 : ¬ ((at0 : Int) < 0) := by omega
    have q1 : decide ((at0 : Int) ≥ (L : Int)) = false := decide_eq_false (by omega)
    have q2 : decide (at0 ≥ L) = false := decide_eq_false (by omega)
    have q3 : (at0 : Int) < (L : Int) := by omega
    have q4 : decide (x.kind > 4) = false := decide_eq_false (by omega)
    have q4' : decide ((x.kind : Int) > 4) = false := decide_eq_false (by omega)
    have q5 : ¬ ((K : Int) < 0) := by omega
    have q6 : decide ((K : Int) ≥ (L : Int)) = false := decide_eq_false (by omega)
    have q7 : decide (K ≥ L) = false := decide_eq_false (by omega)
    clear hc c1 c2 c3 hA hn hlen hg0 hS hK hL
    go_enter Tryz.func65, Tryz.ntmps65
    go_wp2
    go_loopg [5, 6] K (fun g ve vk wr => ∃ (k e : Nat) (G : Fst) (A' : List Prt), ve = .int .i64 e ∧ vk = .int .i64 k ∧ k + G.len = K ∧ G.len ≤ g ∧ G.kok ∧ e = A'.length ∧ e + G.size = at0 + 1 + S ∧ at0 + 1 ≤ e ∧ l = A' ++ (G.flat ++ B) ∧ Below w.heap.size w wr)
    case atStart => exact ⟨0, at0 + 1, kids, _, by go_num, rfl, by have := hKK.out; omega, by have := hKK.out; omega, HK.out, HSl.out.symm, by have := hSS.out; omega, by omega, HS.out, by (repeat (first | exact Below.refl _ _ | assumption | refine balloc ?_ _ | refine below_drewN ?_ _ | refine bstep (by assumption) ?_ | refine bstep (Past.prop _) ?_ | refine Below.setCell ?_ (by first | exact Nat.le_refl _ | (simp; done) | (simp; omega)) _))⟩
    case round =>
      obtain ⟨k, e, G, A', rfl, rfl, hkg, hgg, hgk, hea, hes, he0, hl2, hb⟩ := hrel
      have HB := hidE hb
      have d0 := (hb.cell (p := ⟨p, _, none⟩) hpp).trans hC0.out
      have d4 := (hb.cell (p := ⟨p, _, none⟩) hpp).trans hC4.out
      cases G with
      | nil =>
        have r1 : k = K := by simpa [Fst.len] using hkg
        have r2 : decide ((k : Int) < (K : Int)) = false := decide_eq_false (by omega)
        have r3 : decide (k < K) = false := decide_eq_false (by omega)
        have r4 : e = at0 + 1 + S := by simpa [Fst.size] using hes
        have R4 := hidE r4
        clear hl2 hea hes hkg hgg r1 r4 hb hgk
        go_wp2
        go_ret
        exact ⟨by rw [← R4.out]; rfl, HB.out⟩
      | cons y ky nx =>
        obtain ⟨g1, g2, g3, g4⟩ := hgk
        have r0 : k + (nx.len + 1) = K := by simpa [Fst.len] using hkg
        have rg := hgg; simp only [Fst.len] at rg
        have rs : e + (ky.size + nx.size + 1) = at0 + 1 + S := by simpa [Fst.size] using hes
        have r2 : decide ((k : Int) < (K : Int)) = true := decide_eq_true (by omega)
        have r3 : decide (k < K) = true := decide_eq_true (by omega)
        have r5 : decide ((e : Int) > 0) = true := decide_eq_true (by omega)
        have r6 : decide (e > 0) = true := decide_eq_true (by omega)
        have r7 : decide (0 < e) = true := decide_eq_true (by omega)
        have HC := hidE (IH.out y ky A' (nx.flat ++ B) l _ cap e wr (by have := HN.out; omega) g1 g3 (by rw [hl2]; simp [Fst.flat]) hea (by have := hLL.out; omega) (HA.out.past hb))
        have HE := hidE (show e + 1 + ky.size = (A' ++ ({ y with kids := (ky.len : Int) } :: ky.flat)).length by rw [hea]; simp [flat_len]; omega)
        have HL2 := hidE (show l = (A' ++ ({ y with kids := (ky.len : Int) } :: ky.flat)) ++ (nx.flat ++ B) by rw [hl2]; simp [Fst.flat])
        have r8 : (k : Int) + 1 ≤ 100001 := by have := HLE.out; omega
        have RS := hidE rs; have R0 := hidE r0; have RG := hidE rg; have G4 := hidE g4
        clear hl2 hea hes hkg hgg hb g1 g2 g3 g4 rs r0 rg
        rw [hLL.out] at HC
        go_wp2_with fail
        ((with_reducible refine (HC.out).mono ?_); rintro e1 w1 ⟨rfl, hb1⟩)
        have HB1 := hidE hb1; clear hb1
        go_wp2
        go_roundg nx.len
        case measure => have := RG.out; omega
        case rel => exact ⟨k + 1, e + 1 + ky.size, nx, _, rfl, by have := R0.out; have := HLE.out; go_num, by have := R0.out; omega, Nat.le_refl _, G4.out, HE.out, by have := RS.out; omega, by omega, HL2.out, HB.out.trans (HB1.out.mono HB.out.size)⟩
end Go.Proofs.YtioalnncjahlnaaGreatDoor

namespace Go.Proofs.YtioalnncjahlnaaGreatDoor
open Go.ChangeShapes Go.WideShapes Go.ChangeAt Go.RowKit

theorem str_add (w : World) (a b : List UInt8) (h : a.length + b.length ≤ 9223372036854775807) : (Op.stringOp .add ⟨a.toArray⟩ ⟨b.toArray⟩).run Tryz.prog w = .ok (strV (a ++ b)) w := by
  rw [run_string_add_sum (P := Tryz.prog) w ⟨a.toArray⟩ ⟨b.toArray⟩ (by simpa [ByteArray.size] using h)]
  have e : (⟨a.toArray⟩ : ByteArray) ++ ⟨b.toArray⟩ = ⟨(a ++ b).toArray⟩ := by
    rw [ByteArray.ext_iff, ByteArray.data_append]
    simp
  rw [e]
end Go.Proofs.YtioalnncjahlnaaGreatDoor

namespace Go.Proofs.YtioalnncjahlnaaGreatDoor
open Go.ChangeShapes Go.WideShapes Go.ChangeAt Go.RowKit
attribute [local irreducible] Go.Calls

theorem dig_le : ∀ (k n : Nat), n < 10 ^ (k + 1) → (digG n).length ≤ k + 1
  | 0, n, h => by rw [digG, if_pos (by omega)]; simp
  | k + 1, n, h => by
    by_cases c : n < 10
    · rw [digG, if_pos c]; simp
    · have := dig_le k (n / 10) (by have e : 10 ^ (k + 1 + 1) = 10 ^ (k + 1) * 10 := Nat.pow_succ ..; omega)
      rw [digG, if_neg c, List.length_append]
      simp only [List.length_cons, List.length_nil]
      omega
theorem dig_20 {n : Nat} (h : n ≤ 18446744073709551615) : (digG n).length ≤ 20 := dig_le 19 n (by omega)
/-- One byte in a block of its own, as a string. -/
theorem conv_one7 (w : World) (n : Nat) (h : n < 256) :
    (convert 207 9 (.slice (some ⟨w.heap.size, 0, none⟩) 1 1)).run Tryz.prog (w.alloc (.cells #[.int .u8 n] 5)) = .ok (strV [UInt8.ofNat n]) (w.alloc (.cells #[.int .u8 n] 5)) := by
  have hn : ((UInt8.ofNat n).toNat : Int) = n := by rw [UInt8.toNat_ofNat', Nat.mod_eq_of_lt h]
  refine run_convert_bytes_back (P := Tryz.prog) (w.alloc (.cells #[.int .u8 n] 5)) 207 9 5 ⟨w.heap.size, 0, none⟩ 1 [UInt8.ofNat n] (by kernel_rfl) (by kernel_rfl) (by kernel_rfl) fun j hj => ?_
  have hj0 : j = 0 := by simp at hj; exact hj
  subst hj0
  rw [new_cellsT w #[.int .u8 n] 5 0 (.int .u8 n) rfl]
  show some (Value.int .u8 n) = some (.int .u8 ((UInt8.ofNat n).toNat : Int))
  rw [hn]
set_option maxRecDepth 100000 in
/-- A number's digits. -/
theorem digits7_c : ∀ (m n : Nat) (w : World), n ≤ m → n ≤ 18446744073709551615 →
    Calls Tryz.prog 133 #[.int .u64 n] w fun e w' => e = .returned (strV (digG n)) ∧ Below w.heap.size w w'
  | m, n, w, hm, hn => by
    by_cases h : n < 10
    · have HE := hidE (show digG n = [UInt8.ofNat (48 + n)] by rw [digG, if_pos h])
      have e1 : decide ((n : Int) < 10) = true := decide_eq_true (by omega)
      have e2 : (n : Int).tmod 10 = n := by rw [Int.tmod_eq_of_lt (by omega) (by omega)]
      have hc := conv_one7 w (48 + n) (by omega)
      rw [show ((48 + n : Nat) : Int) = 48 + (n : Int) by omega] at hc
      rw [HE.out]
      generalize UInt8.ofNat (48 + n) = c at *
      go_enter Tryz.func133, Tryz.ntmps133
      go_wp2
      go_ret
      exact ⟨rfl, (Below.refl _ _).alloc (Nat.le_refl _) _⟩
    · cases m with
      | zero => omega
      | succ m =>
        have HE := hidE (show digG n = digG (n / 10) ++ [UInt8.ofNat (48 + n % 10)] by rw [digG, if_neg h])
        have e1 : decide ((n : Int) < 10) = false := decide_eq_false (by omega)
        have e2 : (n : Int).tmod 10 = (n % 10 : Nat) := by rw [Int.tmod_eq_emod_of_nonneg (by omega)]; omega
        have e3 : (n : Int).tdiv 10 = (n / 10 : Nat) := by rw [Int.tdiv_eq_ediv_of_nonneg (by omega)]; omega
        have hq : n / 10 ≤ m := by omega
        have hq2 : n / 10 ≤ 18446744073709551615 := by omega
        have hd : n % 10 < 10 := by omega
        have hlen := dig_20 hq2
        rw [HE.out]
        clear HE
        generalize n / 10 = q at *
        generalize n % 10 = d at *
        have hc := conv_one7 w (48 + d) (by omega)
        rw [show ((48 + d : Nat) : Int) = 48 + (d : Int) by omega] at hc
        generalize UInt8.ofNat (48 + d) = c at *
        go_enter Tryz.func133, Tryz.ntmps133
        go_wp2_with (go_at_call 133; refine (digits7_c m q _ hq hq2).mono ?_; rintro e w1 ⟨rfl, hb⟩; have hadd := str_add w1 (digG q) [c] (by simp only [List.length_cons, List.length_nil]; omega))
        go_ret
        exact ⟨rfl, ((Below.refl _ _).alloc (Nat.le_refl _) _).trans (hb.mono (by simp))⟩
/-- A number that isn't below none, in digits. -/
theorem dec7_c (n : Nat) (w : World) (hn : n ≤ 9223372036854775807) :
    Calls Tryz.prog 121 #[.int .i64 n] w fun e w' => e = .returned (strV (decS n)) ∧ Below w.heap.size w w' := by
  have HE := hidE (show decS n = digG n by unfold decS; rw [if_neg (by omega)]; rfl)
  have e1 : ¬ ((n : Int) < 0) := by omega
  have HD := hidE (fun w => digits7_c n n w (Nat.le_refl _) (by omega))
  rw [HE.out]
  clear HE
  go_enter Tryz.func121, Tryz.ntmps121
  go_wp2_with (go_at_call 133; ((with_reducible refine (HD.out _).mono ?_); rintro e w1 ⟨rfl, hb⟩))
  go_ret
  exact ⟨rfl, hb⟩
/-- A kind's word. -/
theorem word7_c (k : Nat) (w : World) (h : k ≤ 4) :
    Calls Tryz.prog 120 #[.int .u8 k] w fun e w' => e = .returned (strV (wordK k)) ∧ Below w.heap.size w w' := by
  have : k = 0 ∨ k = 1 ∨ k = 2 ∨ k = 3 ∨ k = 4 := by omega
  rcases this with rfl | rfl | rfl | rfl | rfl <;>
  · go_enter Tryz.func120, Tryz.ntmps120
    go_wp2
    go_ret
    exact ⟨rfl, (Below.refl _ _).alloc (Nat.le_refl _) _⟩
end Go.Proofs.YtioalnncjahlnaaGreatDoor

namespace Go.Proofs.YtioalnncjahlnaaGreatDoor

/-- A part's numbers are of their kinds, none below nought. -/
def PnW (x : Prt) : Prop := x.n ≤ 4294967295 ∧ x.g ≤ 4294967295 ∧ 0 ≤ x.d ∧ x.d ≤ 9223372036854775807
def Fst.num : Fst → Prop
  | .nil => True
  | .cons x K N => PnW x ∧ K.num ∧ N.num
def GdP (x : Prt) : Prop := x.kind ≤ 4 ∧ PnW x
def gdF (F : Fst) : Prop := ∀ x ∈ prsF F, GdP x
def gdT (t : Tm) : Prop := GdP t.1 ∧ gdF t.2
theorem gdF_cons {x : Prt} {K N : Fst} : gdF (.cons x K N) ↔ GdP x ∧ gdF K ∧ gdF N := by
  unfold gdF
  simp only [prsF, List.mem_cons, List.mem_append]
  exact ⟨fun h => ⟨h x (.inl rfl), fun y hy => h y (.inr (.inl hy)), fun y hy => h y (.inr (.inr hy))⟩, fun ⟨h1, h2, h3⟩ y hy => by
    rcases hy with rfl | hy | hy
    · exact h1
    · exact h2 y hy
    · exact h3 y hy⟩
theorem gd_kok : ∀ F : Fst, gdF F → (bare F).kok ∧ (bare F).num
  | .nil, _ => ⟨trivial, trivial⟩
  | .cons x K N, h => by
    obtain ⟨h1, h2, h3⟩ := gdF_cons.1 h
    obtain ⟨a1, a2⟩ := gd_kok K h2
    obtain ⟨b1, b2⟩ := gd_kok N h3
    exact ⟨⟨h1.1, rfl, a1, b1⟩, ⟨h1.2, a2, b2⟩⟩
theorem gd_all : ∀ F : Fst, gdF F ↔ ∀ t ∈ toL F, gdT t
  | .nil => by simp [gdF, prsF, toL]
  | .cons x K N => by
    rw [gdF_cons, gd_all N]
    simp only [toL, List.mem_cons, forall_eq_or_imp, gdT, and_assoc]
/-- A term's parts, and where they come from. -/
def flT (t : Tm) : List Prt := (Fst.cons t.1 t.2 .nil).flat
def frT (t : Tm) : List Nat := fromF (.cons t.1 t.2 .nil)
theorem flT_len (t : Tm) : (flT t).length = sizT t := by simp [flT, flat_len, Fst.size, sizT]
theorem frT_len (t : Tm) : (frT t).length = sizT t := by simp [frT, fromF_len, Fst.size, sizT]
def tm0 : Tm := (⟨0, 0, 0, 0, 0⟩, .nil)
theorem badP_num {x : Prt} (h : badP x = false) : x.kind ≤ 4 ∧ x.n ≤ 4096 ∧ x.g ≤ 4096 ∧ 0 ≤ x.d ∧ x.d ≤ 4096 ∧ 0 ≤ x.kids ∧ x.kids ≤ 16 := by
  unfold badP at h
  split at h
  · have := of_decide_eq_false h; omega
  · have := of_decide_eq_false h; omega
theorem fit_gdP {x : Prt} {n : Nat} (h : badP { x with kids := (n : Int) } = false) : GdP x := by
  have := badP_num h
  simp only at this
  exact ⟨this.1, by omega, by omega, this.2.2.2.1, by omega⟩
theorem fit_gd : ∀ (F : Fst) (deep ink : Nat), F.fit deep ink → gdF F
  | .nil, _, _, _ => fun x h => by first | (simp [prsF] at h; done) | cases h
  | .cons x K N, deep, ink, ⟨h1, _, _, h4, h5⟩ => gdF_cons.2 ⟨fit_gdP h1, fit_gd K _ _ h4, fit_gd N _ _ h5⟩
theorem fitT_gd {t : Tm} {deep ink : Nat} (h : FitT t deep ink) : gdT t := ⟨fit_gdP h.1, fit_gd _ _ _ h.2.2.2⟩
theorem fitT_len {t : Tm} {deep ink : Nat} (h : FitT t deep ink) : t.2.len ≤ 16 := by
  have := badP_num h.1
  simp only at this; omega
/-- The numbers of a valid term's parts are of their fields' kinds. -/
theorem fit_flat : ∀ (F : Fst) (deep ink : Nat), F.fit deep ink → ∀ x ∈ F.flat, x.kind ≤ 4 ∧ x.n ≤ 4096 ∧ x.g ≤ 4096 ∧ 0 ≤ x.d ∧ x.d ≤ 4096 ∧ 0 ≤ x.kids ∧ x.kids ≤ 16
  | .nil, _, _, _ => fun x h => by first | (simp [prsF] at h; done) | cases h
  | .cons y K N, deep, ink, ⟨h1, _, _, h4, h5⟩ => fun x hx => by
    simp only [Fst.flat, List.mem_cons, List.mem_append] at hx
    rcases hx with rfl | hx | hx
    · exact badP_num h1
    · exact fit_flat K _ _ h4 x hx
    · exact fit_flat N _ _ h5 x hx
theorem fitT_flat {t : Tm} {deep ink : Nat} (h : FitT t deep ink) : ∀ x ∈ flT t, PrtW x := fun x hx => by
  have := fit_flat (.cons t.1 t.2 .nil) deep ink ⟨h.1, h.2.1, h.2.2.1, h.2.2.2, trivial⟩ x hx
  unfold PrtW; omega
theorem fitT_kok {t : Tm} {deep ink : Nat} (h : FitT t deep ink) : (bare (.cons t.1 t.2 .nil)).kok :=
  (gd_kok _ (gdF_cons.2 ⟨(fitT_gd h).1, (fitT_gd h).2, fun x hx => by simp [prsF] at hx⟩)).1
theorem fitT_kid {t u : Tm} {deep ink : Nat} (h : FitT t deep ink) (hu : u ∈ toL t.2) : FitT u (deep + 1) t.1.kind := (fit_all _ _ _).1 h.2.2.2 u hu
theorem siz_mem {u : Tm} : ∀ {l : List Tm}, u ∈ l → sizT u ≤ sizL l
  | t :: l, h => by
    simp only [sizL]
    rcases List.mem_cons.1 h with rfl | h
    · omega
    · have := siz_mem h; omega
theorem siz_kid {t u : Tm} (h : u ∈ toL t.2) : sizT u < sizT t := by
  have := siz_mem h
  rw [sizL_to] at this
  simp only [sizT] at this ⊢; omega

/-! The rules, as the program tries them, one by one. -/
def oneR (t : Tm) : Option Tm := if (toL t.2).length = 1 then (toL t.2).head? else none
/-- Whether a child gives way. -/
def flatC (kind : Nat) : Nat → List Tm → Bool
  | _, [] => false
  | n, t :: l => if t.1.kind = kind ∧ n + t.2.len ≤ 17 then true else flatC kind n l
def flatR (t : Tm) : Option Tm := if flatC t.1.kind (toL t.2).length (toL t.2) then some (t.1, ofL (flatG t.1.kind (toL t.2).length (toL t.2))) else none
def onceR (t : Tm) : Option Tm := if t.1.kind = 3 ∧ (onceG [] (toL t.2)).length < (toL t.2).length then some (t.1, ofL (onceG [] (toL t.2))) else none
def srtB (l : List Tm) : Bool := decide (l.map txT = (sortG l).map txT)
def sortR (t : Tm) : Option Tm := if (t.1.kind = 3 ∨ t.1.kind = 4) ∧ srtB (toL t.2) = false then some (t.1, ofL (sortG (toL t.2))) else none
theorem flatC_id (kind : Nat) : ∀ (l : List Tm) (n : Nat), flatC kind n l = false → flatG kind n l = l
  | [], _, _ => rfl
  | t :: l, n, h => by
    rw [flatC] at h
    rw [flatG]
    split at h
    · cases h
    · rename_i c
      rw [if_neg c, flatC_id kind l n h]
theorem flatG_more (kind : Nat) : ∀ (l : List Tm) (n : Nat), (∀ t ∈ l, t.1.kind = kind → 2 ≤ t.2.len) → l.length ≤ (flatG kind n l).length
  | [], _, _ => Nat.le_refl _
  | t :: l, n, h => by
    rw [flatG]
    have ih := fun n => flatG_more kind l n (fun u hu => h u (List.mem_cons_of_mem _ hu))
    split
    · rename_i c
      have := h t (by simp) c.1
      have := ih (n + t.2.len - 1)
      rw [List.length_append, toL_len, List.length_cons]; omega
    · have := ih n
      simp only [List.length_cons]; omega
theorem flatC_len (kind : Nat) : ∀ (l : List Tm) (n : Nat), (∀ t ∈ l, t.1.kind = kind → 2 ≤ t.2.len) → flatC kind n l = true → l.length < (flatG kind n l).length
  | [], _, _, h => by cases h
  | t :: l, n, h, hc => by
    rw [flatC] at hc
    rw [flatG]
    split at hc
    · rename_i c
      rw [if_pos c]
      have := h t (by simp) c.1
      have := flatG_more kind l (n + t.2.len - 1) (fun u hu => h u (List.mem_cons_of_mem _ hu))
      rw [List.length_append, toL_len, List.length_cons]; omega
    · rename_i c
      rw [if_neg c]
      have := flatC_len kind l n (fun u hu => h u (List.mem_cons_of_mem _ hu)) hc
      simp only [List.length_cons]; omega
/-- Of a term whose children are plain the first rule that changes it is the rules' own. -/
theorem oneT_rules {t : Tm} {deep ink : Nat} (hf : FitT t deep ink) (hn : Nrm t.2) :
    oneT t = match oneR t with | some u => some u | none => match flatR t with | some u => some u | none => match onceR t with | some u => some u | none => sortR t := by
  have hkid := fun u hu => fitT_kid (u := u) hf hu
  have hnk := (nrm_all _).1 hn
  unfold oneT oneR
  simp only
  by_cases c1 : (toL t.2).length = 1
  · rw [if_pos c1, if_pos c1]
    match h : toL t.2, c1 with
    | [u], _ => rfl
  · rw [if_neg c1, if_neg c1]
    simp only
    unfold flatR
    have h2 : ∀ u ∈ toL t.2, u.1.kind = t.1.kind → 2 ≤ u.2.len := fun u hu e => by
      have hb := badP_kids (hkid u hu).1
      have hk0 : t.1.kind ≠ 0 := fun c => by
        have := (badP_kids hf.1).1 c
        rw [← toL_len] at this
        have : toL t.2 = [] := List.eq_nil_of_length_eq_zero this
        rw [this] at hu; cases hu
      have := hb.2 (by omega)
      have h3 := (hnk u hu).1
      have h4 := one_len h3
      omega
    by_cases c2 : flatC t.1.kind (toL t.2).length (toL t.2) = true
    · rw [if_pos c2]
      have hl := flatC_len _ _ _ h2 c2
      have hk : t.1.kind = 1 ∨ t.1.kind = 3 ∨ t.1.kind = 4 := by
        have hk4 := badP_kind hf.1
        simp only at hk4
        have : ∃ u ∈ toL t.2, u.1.kind = t.1.kind := by
          by_cases c : ∃ u ∈ toL t.2, u.1.kind = t.1.kind
          · exact c
          · exfalso
            rw [flatG_id _ _ (fun v hv e => c ⟨v, hv, e⟩)] at hl; omega
        obtain ⟨u, hu, e⟩ := this
        have hu2 := h2 u hu e
        have hub := (badP_kids (hkid u hu).1).1
        have hi := (hkid u hu).2.1
        have : t.1.kind ≠ 0 := fun c => by have := hub (by omega); omega
        have : t.1.kind ≠ 2 := fun c => by have := hi c; omega
        omega
      rw [if_pos ⟨hk, by omega⟩]
    · have e := flatC_id _ _ _ (by simpa using c2)
      rw [if_neg c2, if_neg (by rw [e]; omega)]
      simp only
      unfold onceR
      have hle := (onceG_siz (toL t.2) []).2
      by_cases c3 : t.1.kind = 3 ∧ (onceG [] (toL t.2)).length < (toL t.2).length
      · rw [if_pos c3, if_pos ⟨c3.1, by omega⟩]
      · rw [if_neg c3, if_neg (fun q => c3 ⟨q.1, by omega⟩)]
        simp only
        unfold sortR srtB
        simp only [decide_eq_false_iff_not]
end Go.Proofs.YtioalnncjahlnaaGreatDoor

namespace Go.Proofs.YtioalnncjahlnaaGreatDoor
open Go.ChangeShapes Go.WideShapes Go.ChangeAt Go.RowKit
attribute [local irreducible] Go.Calls

/-- A part's numbers, as its text has them. -/
def numS (x : Prt) : List UInt8 := if x.kind = 0 then 32 :: (decS x.n ++ 32 :: (decS x.g ++ 32 :: decS x.d)) else []
/-- A term's text, with no blank ahead. -/
def txt7 (x : Prt) (K : Fst) : List UInt8 := 40 :: (wordK x.kind ++ (numS x ++ (textF K ++ [41])))
theorem textF_cons9 (x : Prt) (K N : Fst) : textF (.cons x K N) = 32 :: (txt7 x K ++ textF N) := by
  simp only [textF, txt7, numS, List.cons_append, List.append_assoc, List.nil_append]
theorem wordK_le5 (k : Nat) : (wordK k).length ≤ 5 := by
  unfold wordK; split <;> simp
theorem numS_len {x : Prt} (h : PnW x) : (numS x).length ≤ 63 := by
  obtain ⟨h1, h2, h3, h4⟩ := h
  have e : ∀ z : Int, 0 ≤ z → z ≤ 9223372036854775807 → (decS z).length ≤ 20 := fun z z0 z1 => by
    unfold decS; rw [if_neg (by omega)]; exact dig_20 (by omega)
  unfold numS
  split
  · have a := e x.n (by omega) (by omega); have b := e x.g (by omega) (by omega); have c := e x.d h3 h4
    simp only [List.length_cons, List.length_append]; omega
  · simp
theorem text_len : ∀ F : Fst, F.num → (textF F).length ≤ 80 * F.size
  | .nil, _ => by simp [textF, Fst.size]
  | .cons x K N, ⟨h1, h2, h3⟩ => by
    have a := text_len K h2; have b := text_len N h3; have c := wordK_le5 x.kind; have d := numS_len h1
    rw [textF_cons9]
    simp only [txt7, List.length_cons, List.length_append, List.length_nil, Fst.size]; omega
set_option maxRecDepth 100000 in
set_option maxHeartbeats 4000000 in
theorem text7_c (n : Nat) : ∀ (x : Prt) (kids : Fst) (A B l : List Prt) (a : Option Addr) (cap at0 : Nat) (w : World), kids.size < n → PnW x → kids.num → x.kind ≤ 4 → kids.kok → l = A ++ ({ x with kids := kids.len } :: (kids.flat ++ B)) → at0 = A.length → l.length ≤ 100000 → ArgP w a l →
    Calls Tryz.prog 88 #[.slice a l.length cap, .int .i64 at0] w fun e w' => e = .returned (strV (txt7 x kids)) ∧ Below w.heap.size w w' := by
  induction n with
  | zero => intro x kids A B l a cap at0 w h; omega
  | succ n ih =>
    intro x kids A B l a cap at0 w hn hpn hkn hx hk hl hat hll hA
    have IH := hidE ih; have HK := hidE hk; have HA := hidE hA; have HKN := hidE hkn
    have hlen : l.length = at0 + (kids.size + B.length + 1) := by rw [hl, hat]; simp only [List.length_append, List.length_cons, flat_len]
    have hg0 : l.getD at0 pr0 = { x with kids := kids.len } := by rw [hl, hat]; exact getD_mid _ _ _
    have hks := len_size kids
    have HS := hidE (show l = (A ++ [{ x with kids := (kids.len : Int) }]) ++ (kids.flat ++ B) by rw [hl]; simp)
    have HSl := hidE (show (A ++ [{ x with kids := (kids.len : Int) }]).length = at0 + 1 by rw [hat]; simp)
    have wl := wordK_le5 x.kind
    have nl := numS_len hpn
    have tl := text_len kids hkn
    obtain ⟨TT, hTT⟩ : ∃ TT, TT = 40 :: (wordK x.kind ++ (numS x ++ textF kids)) := ⟨_, rfl⟩
    have hTl : TT.length ≤ 10000000 := by rw [hTT]; simp only [List.length_cons, List.length_append]; omega
    have HR := hidE (show txt7 x kids = TT ++ [41] by rw [hTT]; simp [txt7])
    have HTT := hidE hTT
    rw [HR.out]
    clear hk hl hat HR hTT
    obtain ⟨p, off, rfl, hpp, hc⟩ := hA (by omega)
    obtain ⟨c0, c1, c2, c3, c4⟩ := hc.get (i := at0) (by omega)
    rw [hg0] at c0 c1 c2 c3 c4
    simp only at c0 c1 c2 c3 c4
    have HN := hidE hn; have HLE := hidE hlen
    generalize hS : kids.size = S at *
    generalize hK : kids.len = K at *
    have hSS := hidE hS; have hKK := hidE hK
    generalize hL : l.length = L at *
    have hLL := hidE hL
    have q3 : (at0 : Int) < (L : Int) := by omega
    obtain ⟨d, hd⟩ : ∃ d : Nat, x.d = d := ⟨x.d.toNat, by have := hpn.2.2.1; omega⟩
    have hd2 : d ≤ 9223372036854775807 := by have := hpn.2.2.2; omega
    rw [hd] at c3
    have q0 : 0 ≤ (at0 : Int) := by omega
    have hpn1 := hpn.1
    have hpn2 := hpn.2.1
    have wadd1 := hidE fun w' => str_add w' [40] (wordK x.kind) (by simp only [List.length_cons, List.length_nil]; omega)
    clear hc hA hn hlen hg0 hS hK hL hkn
    by_cases hk0 : x.kind = 0
    · have q5 : ((x.kind : Int) == 0) = true := beq_iff_eq.2 (by omega)
      have q6 : (x.kind == 0) = true := beq_iff_eq.2 hk0
      have HPRE := hidE (show ([40] ++ wordK x.kind ++ [32] ++ decS x.n ++ [32] ++ decS x.g ++ [32] ++ decS x.d) ++ textF kids = TT by rw [HTT.out]; simp [numS, hk0])
      rw [hd] at HPRE
      have D1 := dec7_c x.n; have D2 := dec7_c x.g; have D3 := dec7_c d
      have l1 : (decS x.n).length ≤ 20 := by unfold decS; rw [if_neg (by omega)]; exact dig_20 (by omega)
      have l2 : (decS x.g).length ≤ 20 := by unfold decS; rw [if_neg (by omega)]; exact dig_20 (by omega)
      have l3 : (decS d).length ≤ 20 := by unfold decS; rw [if_neg (by omega)]; exact dig_20 (by omega)
      have ek : x.kind = 0 := hk0
      clear hk0 HTT nl hpn
      generalize decS (x.n : Int) = s1 at *
      generalize decS (x.g : Int) = s2 at *
      generalize decS (d : Int) = s3 at *
      have wl0 := wl
      have wadd := wadd1.out
      have WC := hidE fun w => word7_c x.kind w hx
      generalize wordK x.kind = wd at *
      obtain ⟨a1, ha1⟩ : ∃ a1, a1 = [40] ++ wd := ⟨_, rfl⟩
      obtain ⟨a2, ha2⟩ : ∃ a2, a2 = a1 ++ [32] := ⟨_, rfl⟩
      obtain ⟨a3, ha3⟩ : ∃ a3, a3 = a2 ++ s1 := ⟨_, rfl⟩
      obtain ⟨a4, ha4⟩ : ∃ a4, a4 = a3 ++ [32] := ⟨_, rfl⟩
      obtain ⟨a5, ha5⟩ : ∃ a5, a5 = a4 ++ s2 := ⟨_, rfl⟩
      obtain ⟨a6, ha6⟩ : ∃ a6, a6 = a5 ++ [32] := ⟨_, rfl⟩
      obtain ⟨a7, ha7⟩ : ∃ a7, a7 = a6 ++ s3 := ⟨_, rfl⟩
      rw [← ha1, ← ha2, ← ha3, ← ha4, ← ha5, ← ha6, ← ha7] at HPRE
      rw [← ha1] at wadd
      have e1 : a1.length ≤ 6 := by rw [ha1]; simp only [List.length_append, List.length_cons, List.length_nil]; omega
      have e2 : a2.length ≤ 7 := by rw [ha2]; simp only [List.length_append, List.length_cons, List.length_nil]; omega
      have e3 : a3.length ≤ 27 := by rw [ha3]; simp only [List.length_append]; omega
      have e4 : a4.length ≤ 28 := by rw [ha4]; simp only [List.length_append, List.length_cons, List.length_nil]; omega
      have e5 : a5.length ≤ 48 := by rw [ha5]; simp only [List.length_append]; omega
      have e6 : a6.length ≤ 49 := by rw [ha6]; simp only [List.length_append, List.length_cons, List.length_nil]; omega
      have f2 : ∀ w', (Op.stringOp .add ⟨a1.toArray⟩ ⟨[32].toArray⟩).run Tryz.prog w' = .ok (strV a2) w' := fun w' => by rw [ha2]; exact str_add w' _ _ (by simp only [List.length_cons, List.length_nil]; omega)
      have f3 : ∀ w', (Op.stringOp .add ⟨a2.toArray⟩ ⟨s1.toArray⟩).run Tryz.prog w' = .ok (strV a3) w' := fun w' => by rw [ha3]; exact str_add w' _ _ (by omega)
      have f4 : ∀ w', (Op.stringOp .add ⟨a3.toArray⟩ ⟨[32].toArray⟩).run Tryz.prog w' = .ok (strV a4) w' := fun w' => by rw [ha4]; exact str_add w' _ _ (by simp only [List.length_cons, List.length_nil]; omega)
      have f5 : ∀ w', (Op.stringOp .add ⟨a4.toArray⟩ ⟨s2.toArray⟩).run Tryz.prog w' = .ok (strV a5) w' := fun w' => by rw [ha5]; exact str_add w' _ _ (by omega)
      have f6 : ∀ w', (Op.stringOp .add ⟨a5.toArray⟩ ⟨[32].toArray⟩).run Tryz.prog w' = .ok (strV a6) w' := fun w' => by rw [ha6]; exact str_add w' _ _ (by simp only [List.length_cons, List.length_nil]; omega)
      have f7 : ∀ w', (Op.stringOp .add ⟨a6.toArray⟩ ⟨s3.toArray⟩).run Tryz.prog w' = .ok (strV a7) w' := fun w' => by rw [ha7]; exact str_add w' _ _ (by omega)
      clear ha1 ha2 ha3 ha4 ha5 ha6 ha7 ek
      go_enter Tryz.func88, Tryz.ntmps88
      go_wp2_with (go_at_call 120; ((with_reducible refine (WC.out _).mono ?_); rintro e w1 ⟨rfl, hb1⟩; have B1 := (Blk.made w #[.int .u8 x.kind, .int .u32 x.n, .int .u32 x.g, .int .i64 d, .int .i64 K] 35).past hb1; have g0 := B1.cell 0; have g1 := B1.cell 1; have g2 := B1.cell 2; have g3 := B1.cell 3; have z0 := B1.lt; simp at g0 g1 g2 g3))
      refine wp_region_past_lit (by kernel_rfl) (by kernel_rfl) ?_
      have HB1 := hidE hb1; have HBL := hidE B1
      clear hb1 B1
      have hcp := Past.cell (W := w1)
      repeat (go_big_quiet_step ((first | (go_at_call 121; exact Past.call _ (D1 _ (by omega))) | (go_at_call 121; exact Past.call _ (D2 _ (by omega))) | (go_at_call 121; exact Past.call _ (D3 _ (by omega))))))
      refine wpQuiet_nil ?_
      rintro _ ⟨x', rfl⟩
      have HB2 := hidE (show Below w.heap.size w x'.1 from bstep x'.2 (bstep HB1.out (by (repeat (first | exact Below.refl _ _ | assumption | refine balloc ?_ _ | refine below_drewN ?_ _ | refine bstep (by assumption) ?_ | refine bstep (Past.prop _) ?_ | refine Below.setCell ?_ (by first | exact Nat.le_refl _ | (simp; done) | (simp; omega)) _)))))
      have B2 := hidE (HBL.out.past x'.2)
      clear hcp HB1 HBL g0 g1 g2 g3 z0
      generalize x'.1 = w3 at *
      clear D1 D2 D3 f2 f3 f4 f5 f6 f7 wadd WC
      go_wp2
      go_loopg [6, 7, 8] K (fun gh v6 v7 v8 wr => ∃ (k e : Nat) (G : Fst) (A' : List Prt) (sg : List UInt8), v6 = strV sg ∧ v7 = .int .i64 e ∧ v8 = .int .i64 k ∧ k + G.len = K ∧ G.len ≤ gh ∧ G.kok ∧ G.num ∧ e = A'.length ∧ e + G.size = at0 + 1 + S ∧ at0 + 1 ≤ e ∧ l = A' ++ (G.flat ++ B) ∧ sg ++ textF G = TT ∧ Blk wr w.heap.size #[.int .u8 x.kind, .int .u32 x.n, .int .u32 x.g, .int .i64 d, .int .i64 K] 35 ∧ Below w.heap.size w wr)
      case atStart => exact ⟨0, at0 + 1, kids, _, a7, rfl, by go_num, rfl, by have := hKK.out; omega, by have := hKK.out; omega, HK.out, HKN.out, HSl.out.symm, by have := hSS.out; omega, by omega, HS.out, HPRE.out, B2.out, HB2.out⟩
      case round =>
        obtain ⟨k, e, G, A', sg, rfl, rfl, rfl, hkg, hgg, hgk, hgn, hea, hes, he0, hl2, htx, hbk, hb⟩ := hrel
        have HB := hidE hb; have HBK := hidE hbk
        have d4 := hbk.cell 4; have z4 := hbk.lt
        simp at d4
        cases G with
        | nil =>
          have r1 : k = K := by simpa [Fst.len] using hkg
          have r2 : decide ((k : Int) < (K : Int)) = false := decide_eq_false (by omega)
          have r3 : decide (k < K) = false := decide_eq_false (by omega)
          have rt : sg = TT := by simpa [textF] using htx
          subst rt
          have radd := fun w' => str_add w' sg [41] (by simp only [List.length_cons, List.length_nil]; omega)
          clear hl2 hea hes hkg hgg r1 hb hgk hbk htx hgn
          go_wp2
          go_ret
          exact ⟨rfl, HB.out⟩
        | cons y ky nx =>
          obtain ⟨g1, g2, g3, g4⟩ := hgk
          obtain ⟨n1, n2, n3⟩ := hgn
          have r0 : k + (nx.len + 1) = K := by simpa [Fst.len] using hkg
          have rg := hgg; simp only [Fst.len] at rg
          have rs : e + (ky.size + nx.size + 1) = at0 + 1 + S := by simpa [Fst.size] using hes
          have r2 : decide ((k : Int) < (K : Int)) = true := decide_eq_true (by omega)
          have r3 : decide (k < K) = true := decide_eq_true (by omega)
          rw [textF_cons9] at htx
          have hTl2 := congrArg List.length htx
          simp only [List.length_append, List.length_cons] at hTl2
          have HC := hidE (fun w' (hb' : Below w.heap.size w w') => IH.out y ky A' (nx.flat ++ B) l _ cap e w' (by have := HN.out; omega) n1 n2 g1 g3 (by rw [hl2]; simp [Fst.flat]) hea (by have := hLL.out; omega) (HA.out.past hb'))
          have HE := hidE (fun w' (hb' : Below w.heap.size w w') => end_c (ky.size + 1) y ky A' (nx.flat ++ B) l _ cap e w' (Nat.lt_succ_self _) g1 g3 (by rw [hl2]; simp [Fst.flat]) hea (by have := hLL.out; omega) (HA.out.past hb'))
          have HEA := hidE (show e + 1 + ky.size = (A' ++ ({ y with kids := (ky.len : Int) } :: ky.flat)).length by rw [hea]; simp [flat_len]; omega)
          have HL2 := hidE (show l = (A' ++ ({ y with kids := (ky.len : Int) } :: ky.flat)) ++ (nx.flat ++ B) by rw [hl2]; simp [Fst.flat])
          have r8 : (k : Int) + 1 ≤ 100001 := by have := HLE.out; omega
          generalize txt7 y ky = ty at *
          have HTX := hidE (show (sg ++ [32]) ++ ty ++ textF nx = TT by rw [← htx]; simp)
          have h1 := fun w' => str_add w' sg [32] (by simp only [List.length_cons, List.length_nil]; omega)
          have h2 := fun w' => str_add w' (sg ++ [32]) ty (by simp only [List.length_append, List.length_cons, List.length_nil]; omega)
          generalize hs1 : sg ++ [32] = sg1 at *
          generalize hs2 : sg1 ++ ty = sg2 at *
          have RS := hidE rs; have R0 := hidE r0; have RG := hidE rg; have G4 := hidE g4; have N3 := hidE n3
          clear hl2 hea hes hkg hgg hb g1 g2 g3 g4 rs r0 rg n1 n2 n3 htx hTl2 hbk hs1 hs2
          rw [hLL.out] at HC HE
          go_wp2_with (first | (go_at_call 88; ((with_reducible refine (HC.out _ HB.out).mono ?_); rintro e1 w4 ⟨rfl, hb4⟩; have HB4 := hidE hb4; clear hb4)) | (go_at_call 65; ((with_reducible refine (HE.out _ (bstep HB4.out HB.out)).mono ?_); rintro e1 w5 ⟨rfl, hb5⟩; have HB5 := hidE hb5; clear hb5)))
          go_roundg nx.len
          case measure => have := RG.out; omega
          case rel => exact ⟨k + 1, e + 1 + ky.size, nx, _, sg2, rfl, rfl, by go_num, by have := R0.out; omega, Nat.le_refl _, G4.out, N3.out, HEA.out, by have := RS.out; omega, by omega, HL2.out, HTX.out, (HBK.out.past HB4.out).past HB5.out, bstep HB5.out (bstep HB4.out HB.out)⟩
    · have q5 : ((x.kind : Int) == 0) = false := beq_eq_false_iff_ne.2 (by omega)
      have q6 : (x.kind == 0) = false := beq_eq_false_iff_ne.2 hk0
      have HPRE := hidE (show ([40] ++ wordK x.kind) ++ textF kids = TT by rw [HTT.out]; simp [numS, hk0])
      have ek : ¬ x.kind = 0 := hk0
      clear hk0 HTT nl hpn
      have wadd := wadd1.out
      have WC := hidE fun w => word7_c x.kind w hx
      generalize wordK x.kind = wd at *
      obtain ⟨a1, ha1⟩ : ∃ a1, a1 = [40] ++ wd := ⟨_, rfl⟩
      rw [← ha1] at HPRE wadd
      clear ha1 ek
      go_enter Tryz.func88, Tryz.ntmps88
      go_wp2_with (go_at_call 120; ((with_reducible refine (WC.out _).mono ?_); rintro e w3 ⟨rfl, hb1⟩; have B1 := (Blk.made w #[.int .u8 x.kind, .int .u32 x.n, .int .u32 x.g, .int .i64 d, .int .i64 K] 35).past hb1; have g0 := B1.cell 0; have g4 := B1.cell 4; have z0 := B1.lt; simp at g0 g4))
      have HB2 := hidE (show Below w.heap.size w w3 from bstep hb1 (by (repeat (first | exact Below.refl _ _ | assumption | refine balloc ?_ _ | refine below_drewN ?_ _ | refine bstep (by assumption) ?_ | refine bstep (Past.prop _) ?_ | refine Below.setCell ?_ (by first | exact Nat.le_refl _ | (simp; done) | (simp; omega)) _))))
      have B2 := hidE B1
      clear hb1 B1 g0 g4 z0 wadd WC
      go_loopg [6, 7, 8] K (fun gh v6 v7 v8 wr => ∃ (k e : Nat) (G : Fst) (A' : List Prt) (sg : List UInt8), v6 = strV sg ∧ v7 = .int .i64 e ∧ v8 = .int .i64 k ∧ k + G.len = K ∧ G.len ≤ gh ∧ G.kok ∧ G.num ∧ e = A'.length ∧ e + G.size = at0 + 1 + S ∧ at0 + 1 ≤ e ∧ l = A' ++ (G.flat ++ B) ∧ sg ++ textF G = TT ∧ Blk wr w.heap.size #[.int .u8 x.kind, .int .u32 x.n, .int .u32 x.g, .int .i64 d, .int .i64 K] 35 ∧ Below w.heap.size w wr)
      case atStart => exact ⟨0, at0 + 1, kids, _, a1, rfl, by go_num, rfl, by have := hKK.out; omega, by have := hKK.out; omega, HK.out, HKN.out, HSl.out.symm, by have := hSS.out; omega, by omega, HS.out, HPRE.out, B2.out, HB2.out⟩
      case round =>
        obtain ⟨k, e, G, A', sg, rfl, rfl, rfl, hkg, hgg, hgk, hgn, hea, hes, he0, hl2, htx, hbk, hb⟩ := hrel
        have HB := hidE hb; have HBK := hidE hbk
        have d4 := hbk.cell 4; have z4 := hbk.lt
        simp at d4
        cases G with
        | nil =>
          have r1 : k = K := by simpa [Fst.len] using hkg
          have r2 : decide ((k : Int) < (K : Int)) = false := decide_eq_false (by omega)
          have r3 : decide (k < K) = false := decide_eq_false (by omega)
          have rt : sg = TT := by simpa [textF] using htx
          subst rt
          have radd := fun w' => str_add w' sg [41] (by simp only [List.length_cons, List.length_nil]; omega)
          clear hl2 hea hes hkg hgg r1 hb hgk hbk htx hgn
          go_wp2
          go_ret
          exact ⟨rfl, HB.out⟩
        | cons y ky nx =>
          obtain ⟨g1, g2, g3, g4⟩ := hgk
          obtain ⟨n1, n2, n3⟩ := hgn
          have r0 : k + (nx.len + 1) = K := by simpa [Fst.len] using hkg
          have rg := hgg; simp only [Fst.len] at rg
          have rs : e + (ky.size + nx.size + 1) = at0 + 1 + S := by simpa [Fst.size] using hes
          have r2 : decide ((k : Int) < (K : Int)) = true := decide_eq_true (by omega)
          have r3 : decide (k < K) = true := decide_eq_true (by omega)
          rw [textF_cons9] at htx
          have hTl2 := congrArg List.length htx
          simp only [List.length_append, List.length_cons] at hTl2
          have HC := hidE (fun w' (hb' : Below w.heap.size w w') => IH.out y ky A' (nx.flat ++ B) l _ cap e w' (by have := HN.out; omega) n1 n2 g1 g3 (by rw [hl2]; simp [Fst.flat]) hea (by have := hLL.out; omega) (HA.out.past hb'))
          have HE := hidE (fun w' (hb' : Below w.heap.size w w') => end_c (ky.size + 1) y ky A' (nx.flat ++ B) l _ cap e w' (Nat.lt_succ_self _) g1 g3 (by rw [hl2]; simp [Fst.flat]) hea (by have := hLL.out; omega) (HA.out.past hb'))
          have HEA := hidE (show e + 1 + ky.size = (A' ++ ({ y with kids := (ky.len : Int) } :: ky.flat)).length by rw [hea]; simp [flat_len]; omega)
          have HL2 := hidE (show l = (A' ++ ({ y with kids := (ky.len : Int) } :: ky.flat)) ++ (nx.flat ++ B) by rw [hl2]; simp [Fst.flat])
          have r8 : (k : Int) + 1 ≤ 100001 := by have := HLE.out; omega
          generalize txt7 y ky = ty at *
          have HTX := hidE (show (sg ++ [32]) ++ ty ++ textF nx = TT by rw [← htx]; simp)
          have h1 := fun w' => str_add w' sg [32] (by simp only [List.length_cons, List.length_nil]; omega)
          have h2 := fun w' => str_add w' (sg ++ [32]) ty (by simp only [List.length_append, List.length_cons, List.length_nil]; omega)
          generalize hs1 : sg ++ [32] = sg1 at *
          generalize hs2 : sg1 ++ ty = sg2 at *
          have RS := hidE rs; have R0 := hidE r0; have RG := hidE rg; have G4 := hidE g4; have N3 := hidE n3
          clear hl2 hea hes hkg hgg hb g1 g2 g3 g4 rs r0 rg n1 n2 n3 htx hTl2 hbk hs1 hs2
          rw [hLL.out] at HC HE
          go_wp2_with (first | (go_at_call 88; ((with_reducible refine (HC.out _ HB.out).mono ?_); rintro e1 w4 ⟨rfl, hb4⟩; have HB4 := hidE hb4; clear hb4)) | (go_at_call 65; ((with_reducible refine (HE.out _ (bstep HB4.out HB.out)).mono ?_); rintro e1 w5 ⟨rfl, hb5⟩; have HB5 := hidE hb5; clear hb5)))
          go_roundg nx.len
          case measure => have := RG.out; omega
          case rel => exact ⟨k + 1, e + 1 + ky.size, nx, _, sg2, rfl, rfl, by go_num, by have := R0.out; omega, Nat.le_refl _, G4.out, N3.out, HEA.out, by have := RS.out; omega, by omega, HL2.out, HTX.out, (HBK.out.past HB4.out).past HB5.out, bstep HB5.out (bstep HB4.out HB.out)⟩
end Go.Proofs.YtioalnncjahlnaaGreatDoor

namespace Go.Proofs.YtioalnncjahlnaaGreatDoor
open Go.ChangeShapes Go.WideShapes Go.ChangeAt Go.RowKit
attribute [local irreducible] Go.Calls

/-- It lies in such a block. -/
def lowA (lo : Nat → Prop) (a : Option Addr) : Prop := ∀ x, a = some x → lo x.block
/-- Two slices that read as a term, in blocks from there on. -/
structure TmAt (lo : Nat → Prop) (w : World) (t : Tm) (a : Option Addr) (c : Nat) (a2 : Option Addr) (c2 : Nat) : Prop where
  n1 : sizT t ≤ c
  n1m : c ≤ 9223372036854775807
  n2 : sizT t ≤ c2
  n2m : c2 ≤ 9223372036854775807
  L : ArgP w a (flT t)
  F : ArgK .i64 w a2 (natsI (frT t))
  low : lowA lo a
  low2 : lowA lo a2
theorem TmAt.past {lo : Nat → Prop} {w w' : World} {t : Tm} {a a2 : Option Addr} {c c2 : Nat} (h : TmAt lo w t a c a2 c2) (hb : Below w.heap.size w w') : TmAt lo w' t a c a2 c2 :=
  ⟨h.n1, h.n1m, h.n2, h.n2m, h.L.past hb, h.F.past hb, h.low, h.low2⟩
theorem TmAt.lower {lo lo' : Nat → Prop} {w : World} {t : Tm} {a a2 : Option Addr} {c c2 : Nat} (h : TmAt lo w t a c a2 c2) (hl : ∀ k, lo k → lo' k) : TmAt lo' w t a c a2 c2 :=
  ⟨h.n1, h.n1m, h.n2, h.n2m, h.L, h.F, fun x e => hl _ (h.low x e), fun x e => hl _ (h.low2 x e)⟩
/-- A store ahead of where they lie. -/
theorem TmAt.store {lo : Nat → Prop} {w : World} {t : Tm} {a a2 : Option Addr} {c c2 : Nat} (h : TmAt lo w t a c a2 c2) {g : Nat} (hg : ¬ lo g) (i : Nat) (v : Value) : TmAt lo (w.setCell ⟨g, i, none⟩ v) t a c a2 c2 := by
  have hc : ∀ b o, b ≠ g → (w.setCell ⟨g, i, none⟩ v).cell? ⟨b, o, none⟩ = w.cell? ⟨b, o, none⟩ := fun b o hb => by
    have := Below.heap_setCell w ⟨g, i, none⟩ v b hb
    simp only [World.cell?, this]
  have hz : (w.setCell ⟨g, i, none⟩ v).heap.size = w.heap.size := by simp [World.setCell]
  refine ⟨h.n1, h.n1m, h.n2, h.n2m, fun hl => ?_, fun hl => ?_, h.low, h.low2⟩
  · obtain ⟨b, off, e, h1, h2⟩ := h.L hl
    have hb : b ≠ g := fun q => hg (q ▸ h.low _ e)
    refine ⟨b, off, e, by rw [hz]; exact h1, fun j hj => ?_⟩
    rw [hc b _ hb, hc b _ hb, hc b _ hb, hc b _ hb, hc b _ hb]
    exact h2 j hj
  · obtain ⟨b, off, e, h1, h2⟩ := h.F hl
    have hb : b ≠ g := fun q => hg (q ▸ h.low2 _ e)
    refine ⟨b, off, e, by rw [hz]; exact h1, fun j hj => ?_⟩
    rw [hc b _ hb]
    exact h2 j hj
/-- A term's value. -/
abbrev tmV (n : Nat) (a : Option Addr) (c : Nat) (a2 : Option Addr) (c2 : Nat) : Value := .agg #[.slice a n c, .slice a2 n c2]
theorem Tryz.infoTerm : (Tryz.prog.info? 63).map (fun i => (i.zero, i.size, i.bytes)) = some (some (.agg #[.slice none 0 0, .slice none 0 0]), 2, 48) := by kernel_rfl
/-- The terms that cells hold, two cells each. -/
def RowM (lo : Nat → Prop) (w : World) : List Value → List Tm → Prop
  | [], [] => True
  | v1 :: v2 :: xs, t :: l => (∃ a c a2 c2, v1 = .slice a (sizT t) c ∧ v2 = .slice a2 (sizT t) c2 ∧ TmAt lo w t a c a2 c2) ∧ RowM lo w xs l
  | _, _ => False
theorem RowM.past {lo : Nat → Prop} {w w' : World} (hb : Below w.heap.size w w') : ∀ {xs : List Value} {l : List Tm}, RowM lo w xs l → RowM lo w' xs l
  | [], [], _ => trivial
  | [], _ :: _, h => h
  | [_], [], h => h
  | [_], _ :: _, h => h
  | _ :: _ :: _, [], h => h
  | _v1 :: _v2 :: _xs, _t :: _l, ⟨⟨a, c, a2, c2, e1, e2, h⟩, h2⟩ => ⟨⟨a, c, a2, c2, e1, e2, h.past hb⟩, RowM.past hb h2⟩
theorem RowM.len {lo : Nat → Prop} {w : World} : ∀ {xs : List Value} {l : List Tm}, RowM lo w xs l → xs.length = l.length * 2
  | [], [], _ => rfl
  | [], _ :: _, h => h.elim
  | [_], [], h => h.elim
  | [_], _ :: _, h => h.elim
  | _ :: _ :: _, [], h => h.elim
  | _ :: _ :: xs, _ :: l, ⟨_, h2⟩ => by have := RowM.len h2; simp only [List.length_cons]; omega
theorem RowM.app {lo : Nat → Prop} {w : World} {ys : List Value} {r : List Tm} (h2 : RowM lo w ys r) : ∀ {xs : List Value} {l : List Tm}, RowM lo w xs l → RowM lo w (xs ++ ys) (l ++ r)
  | [], [], _ => h2
  | [], _ :: _, h => h.elim
  | [_], [], h => h.elim
  | [_], _ :: _, h => h.elim
  | _ :: _ :: _, [], h => h.elim
  | _ :: _ :: _, _ :: _, ⟨h1, h3⟩ => ⟨h1, RowM.app h2 h3⟩
theorem RowM.one {lo : Nat → Prop} {w : World} : ∀ {xs : List Value} {l : List Tm}, RowM lo w xs l → ∀ u ∈ xs, u.oneCell' = true
  | [], [], _ => fun u h => by cases h
  | [], _ :: _, h => h.elim
  | [_], [], h => h.elim
  | [_], _ :: _, h => h.elim
  | _ :: _ :: _, [], h => h.elim
  | v1 :: v2 :: xs, t :: l, ⟨⟨a, c, a2, c2, e1, e2, h⟩, h2⟩ => fun u hu => by
    simp only [List.mem_cons] at hu
    rcases hu with rfl | rfl | hu
    · rw [e1]; rfl
    · rw [e2]; rfl
    · exact RowM.one h2 u hu
theorem RowM.get {lo : Nat → Prop} {w : World} : ∀ {xs : List Value} {l : List Tm}, RowM lo w xs l → ∀ i, i < l.length → ∃ a c a2 c2, xs[i * 2]? = some (.slice a (sizT (l.getD i tm0)) c) ∧ xs[i * 2 + 1]? = some (.slice a2 (sizT (l.getD i tm0)) c2) ∧ TmAt lo w (l.getD i tm0) a c a2 c2
  | [], [], _ => fun i h => by simp at h
  | [], _ :: _, h => h.elim
  | [_], [], h => h.elim
  | [_], _ :: _, h => h.elim
  | _ :: _ :: _, [], h => h.elim
  | v1 :: v2 :: xs, t :: l, ⟨⟨a, c, a2, c2, e1, e2, h⟩, h2⟩ => fun i hi => by
    cases i with
    | zero => exact ⟨a, c, a2, c2, by simp [e1], by simp [e2], h⟩
    | succ i =>
      obtain ⟨b, d, b2, d2, g1, g2, g3⟩ := RowM.get h2 i (by simpa using hi)
      refine ⟨b, d, b2, d2, ?_, ?_, ?_⟩
      · rw [show (i + 1) * 2 = i * 2 + 1 + 1 by omega]; simpa using g1
      · rw [show (i + 1) * 2 + 1 = i * 2 + 1 + 1 + 1 by omega]; simpa using g2
      · simpa using g3
theorem RowM.set {lo : Nat → Prop} {w : World} {t' : Tm} {a : Option Addr} {c : Nat} {a2 : Option Addr} {c2 : Nat} (h' : TmAt lo w t' a c a2 c2) : ∀ {xs : List Value} {l : List Tm} (i : Nat), RowM lo w xs l → i < l.length → RowM lo w ((xs.set (i * 2) (.slice a (sizT t') c)).set (i * 2 + 1) (.slice a2 (sizT t') c2)) (l.set i t')
  | [], [], _, _, h => by simp at h
  | [], _ :: _, _, h, _ => h.elim
  | [_], [], _, h, _ => h.elim
  | [_], _ :: _, _, h, _ => h.elim
  | _ :: _ :: _, [], _, h, _ => h.elim
  | v1 :: v2 :: xs, t :: l, 0, ⟨_, h2⟩, _ => ⟨⟨a, c, a2, c2, rfl, rfl, h'⟩, h2⟩
  | v1 :: v2 :: xs, t :: l, i + 1, ⟨h1, h2⟩, hi => by
    have := RowM.set h' i h2 (by simpa using hi)
    rw [show (i + 1) * 2 = i * 2 + 1 + 1 by omega, show i * 2 + 1 + 1 + 1 = (i * 2 + 1) + 1 + 1 by omega]
    exact ⟨h1, this⟩
theorem rowM_one {lo : Nat → Prop} {w : World} {t : Tm} {a : Option Addr} {c : Nat} {a2 : Option Addr} {c2 n : Nat} (h : TmAt lo w t a c a2 c2) (hn : sizT t = n) : RowM lo w [.slice a n c, .slice a2 n c2] [t] := by
  subst hn
  exact ⟨⟨a, c, a2, c2, rfl, rfl, h⟩, trivial⟩
/-- The terms that a slice's cells hold. -/
def CellsM (lo : Nat → Prop) (w : World) (b off : Nat) (l : List Tm) : Prop :=
  ∃ xs : List Value, RowM lo w xs l ∧ ∀ j u, xs[j]? = some u → w.cell? ⟨b, off + j, none⟩ = some u
def ArgM (lo : Nat → Prop) (w : World) (a : Option Addr) (l : List Tm) : Prop := 0 < l.length → ∃ b off, a = some ⟨b, off, none⟩ ∧ b < w.heap.size ∧ CellsM lo w b off l
theorem CellsM.past {lo : Nat → Prop} {w w' : World} {b off : Nat} {l : List Tm} (h : CellsM lo w b off l) (hb : Below w.heap.size w w') (hB : b < w.heap.size) : CellsM lo w' b off l := by
  obtain ⟨xs, h1, h2⟩ := h
  exact ⟨xs, h1.past hb, fun j u hu => (hb.cell (p := ⟨b, _, none⟩) hB).trans (h2 j u hu)⟩
theorem ArgM.past {lo : Nat → Prop} {w w' : World} {a : Option Addr} {l : List Tm} (h : ArgM lo w a l) (hb : Below w.heap.size w w') : ArgM lo w' a l := fun hl => by
  obtain ⟨b, off, e, h1, h2⟩ := h hl
  exact ⟨b, off, e, Nat.lt_of_lt_of_le h1 hb.size, h2.past hb h1⟩
theorem CellsM.get {lo : Nat → Prop} {w : World} {b off : Nat} {l : List Tm} (h : CellsM lo w b off l) {i : Nat} (hi : i < l.length) : ∃ a c a2 c2, w.cell? ⟨b, off + i * 2, none⟩ = some (.slice a (sizT (l.getD i tm0)) c) ∧ w.cell? ⟨b, off + i * 2 + 1, none⟩ = some (.slice a2 (sizT (l.getD i tm0)) c2) ∧ TmAt lo w (l.getD i tm0) a c a2 c2 := by
  obtain ⟨xs, h1, h2⟩ := h
  obtain ⟨a, c, a2, c2, g1, g2, g3⟩ := h1.get i hi
  exact ⟨a, c, a2, c2, h2 _ _ g1, by rw [Nat.add_assoc]; exact h2 _ _ g2, g3⟩
/-- A slice value that reads as terms. -/
def SliM (lo : Nat → Prop) (w : World) (v : Value) (l : List Tm) : Prop := ∃ (a : Option Addr) (cap : Nat), v = .slice a l.length cap ∧ l.length ≤ cap ∧ cap ≤ 9223372036854775807 ∧ (a = none → cap = 0) ∧ ArgM lo w a l
theorem SliM.past {lo : Nat → Prop} {w w' : World} {v : Value} {l : List Tm} (h : SliM lo w v l) (hb : Below w.heap.size w w') : SliM lo w' v l := by
  obtain ⟨a, cap, h1, h2, h3, h4, h5⟩ := h
  exact ⟨a, cap, h1, h2, h3, h4, h5.past hb⟩
theorem sliM_nil (lo : Nat → Prop) (w : World) : SliM lo w (.slice none 0 0) [] := ⟨none, 0, rfl, Nat.le_refl _, by omega, fun _ => rfl, fun h => by simp at h⟩
/-- A row of the call's own that reads as terms. -/
def OwnM (B : Nat) (lo : Nat → Prop) (w : World) (v : Value) (l : List Tm) : Prop := ∃ xs, w.ownsRow B 63 2 v l.length xs ∧ RowM lo w xs l
theorem OwnM.sli {B : Nat} {lo : Nat → Prop} {w : World} {v : Value} {l : List Tm} (h : OwnM B lo w v l) : SliM lo w v l := by
  obtain ⟨xs, ⟨h1, h2 | ⟨g, cap, cur, rfl, h3, h4, h5, h6, h7, h8⟩⟩, hr⟩ := h
  · obtain ⟨rfl, h2⟩ := h2
    have : l = [] := List.eq_nil_of_length_eq_zero h2
    subst this
    exact sliM_nil _ _
  · refine ⟨some ⟨g, 0, none⟩, cap, rfl, h5, by unfold maxLen at h6; omega, fun e => (by simp at e), fun _ => ⟨g, 0, rfl, lt_of_block h4, xs, hr, fun j u hu => ?_⟩⟩
    have hj : j < l.length * 2 := by have := (List.getElem?_eq_some_iff.1 hu).1; have := hr.len; omega
    have e : w.cell? ⟨g, 0 + j, none⟩ = cur[j]? := by simp [World.cell?, h4]
    rw [e, ← Array.getElem?_toList]
    rw [← h8, List.getElem?_take, if_pos hj] at hu
    exact hu
theorem OwnM.past {B : Nat} {lo : Nat → Prop} {w w' : World} {v : Value} {l : List Tm} (h : OwnM B lo w v l) (hb : Below w.heap.size w w') : OwnM B lo w' v l := by
  obtain ⟨xs, h1, h2⟩ := h
  exact ⟨xs, own_below h1 hb, h2.past hb⟩
theorem ownM_nil (B : Nat) (lo : Nat → Prop) (w : World) : OwnM B lo w (.slice none 0 0) [] := ⟨[], own_nil _ _ _, trivial⟩
/-- What an append reads of a slice of terms. -/
theorem SliM.src {lo : Nat → Prop} {w : World} {v : Value} {l : List Tm} (h : SliM lo w v l) : ∃ ys, SrcV w 2 v l.length ys ∧ RowM lo w ys l := by
  obtain ⟨a, cap, rfl, h2, h3, h4, h5⟩ := h
  by_cases hl : 0 < l.length
  · obtain ⟨b, off, rfl, hb, xs, hr, hc⟩ := h5 hl
    refine ⟨xs, ⟨_, cap, rfl, fun e => (by simp at e), hr.len, hr.one, ?_⟩, hr⟩
    rintro ad ⟨⟩ j u hu
    have ad : (⟨b, off, none⟩ : Addr).add j = ⟨b, off + j, none⟩ := by
      unfold Addr.add
      by_cases c : j = 0
      · subst c; simp
      · simp [c]
    rw [ad]; exact hc j u hu
  · have : l = [] := List.eq_nil_of_length_eq_zero (by omega)
    subst this
    exact ⟨[], ⟨a, cap, rfl, fun e => ⟨rfl, h4 e⟩, rfl, fun u hu => by simp at hu, fun ad _ j u hu => by simp at hu⟩, trivial⟩
/-- A row's growth by terms that lie where the growth writes nothing. -/
theorem OwnM.grew {B : Nat} {lo : Nat → Prop} {_w w1 w' : World} {_v v' : Value} {l r : List Tm} {xs ys : List Value} (hr : RowM lo w1 xs l) (hy : RowM lo w1 ys r) (h' : w'.ownsRow B 63 2 v' (l.length + r.length) (xs ++ ys)) (hp : RowM lo w1 xs l → RowM lo w' xs l) (hp2 : RowM lo w1 ys r → RowM lo w' ys r) : OwnM B lo w' v' (l ++ r) :=
  ⟨xs ++ ys, by rw [List.length_append]; exact h', (hp2 hy).app (hp hr)⟩
/-- A row of the call's own, its terms' parts where they lay when it was called. -/
def RowIn (B : Nat) (lo : Nat → Prop) (w w' : World) (v : Value) (l : List Tm) : Prop := ∃ xs, w'.ownsRow B 63 2 v l.length xs ∧ RowM lo w xs l
theorem RowIn.own {B : Nat} {lo : Nat → Prop} {w w' : World} {v : Value} {l : List Tm} (h : RowIn B lo w w' v l) (hb : Below w.heap.size w w') : OwnM B lo w' v l := by
  obtain ⟨xs, h1, h2⟩ := h
  exact ⟨xs, h1, h2.past hb⟩
theorem RowIn.past {B : Nat} {lo : Nat → Prop} {w w' w2 : World} {v : Value} {l : List Tm} (h : RowIn B lo w w' v l) (hb : Below w'.heap.size w' w2) : RowIn B lo w w2 v l := by
  obtain ⟨xs, h1, h2⟩ := h
  exact ⟨xs, own_below h1 hb, h2⟩
theorem RowIn.lower {B B' : Nat} {lo : Nat → Prop} {w w' : World} {v : Value} {l : List Tm} (h : RowIn B lo w w' v l) (hB : B' ≤ B) : RowIn B' lo w w' v l := by
  obtain ⟨xs, ⟨h1, h2 | ⟨g, cap, cur, h3, h4, h5⟩⟩, hr⟩ := h
  · exact ⟨xs, ⟨h1, .inl h2⟩, hr⟩
  · exact ⟨xs, ⟨h1, .inr ⟨g, cap, cur, h3, Nat.le_trans hB h4, h5⟩⟩, hr⟩
theorem rowIn_nil (B : Nat) (lo : Nat → Prop) (w w' : World) : RowIn B lo w w' (.slice none 0 0) [] := ⟨[], own_nil _ _ _, trivial⟩
end Go.Proofs.YtioalnncjahlnaaGreatDoor

namespace Go.Proofs.YtioalnncjahlnaaGreatDoor
open Go.ChangeShapes Go.WideShapes Go.ChangeAt Go.RowKit
attribute [local irreducible] Go.Calls

theorem argP_sub {w : World} {b off : Nat} {A M R : List Prt} (h : ArgP w (some ⟨b, off, none⟩) (A ++ (M ++ R))) : ArgP w (some ⟨b, off + A.length * 5, none⟩) M := fun hl => by
  obtain ⟨b', off', e, h1, h2⟩ := h (by simp; omega)
  cases e
  exact ⟨b, _, rfl, h1, cellsP_part h2⟩
theorem argK_sub {k : IntKind} {w : World} {b off : Nat} {A M R : List Int} (h : ArgK k w (some ⟨b, off, none⟩) (A ++ (M ++ R))) : ArgK k w (some ⟨b, off + A.length, none⟩) M := fun hl => by
  obtain ⟨b', off', e, h1, h2⟩ := h (by simp; omega)
  cases e
  refine ⟨b, _, rfl, h1, fun i hi => ?_⟩
  have h3 := h2 (A.length + i) (by simp; omega)
  have e : (A ++ (M ++ R)).getD (A.length + i) 0 = M.getD i 0 := by
    rw [List.getD_eq_getElem?_getD, List.getD_eq_getElem?_getD, List.getElem?_append_right (by omega), List.getElem?_append_left (by omega)]
    congr 2; omega
  rw [e, ← Nat.add_assoc] at h3
  exact h3
theorem fromF_cons (x : Prt) (K N : Fst) : fromF (.cons x K N) = x.kids.toNat :: (fromF K ++ fromF N) := by simp [fromF, prsF]
set_option maxRecDepth 100000 in
set_option maxHeartbeats 4000000 in
theorem kids9_c (lo : Nat → Prop) (t : Tm) (a : Option Addr) (c : Nat) (a2 : Option Addr) (c2 : Nat) (w : World) (hg : gdT t) (hs : sizT t ≤ 100000) (hT : TmAt lo w t a c a2 c2) :
    Calls Tryz.prog 46 #[tmV (sizT t) a c a2 c2] w fun e w' => ∃ v, e = .returned v ∧ RowIn w.heap.size lo w w' v (toL t.2) ∧ Below w.heap.size w w' := by
  obtain ⟨x, K⟩ := t
  obtain ⟨hgx, hgK⟩ := hg
  have hsz : sizT (x, K) = K.size + 1 := rfl
  obtain ⟨b, off, rfl, hbb, hc⟩ := hT.L (by rw [flT_len]; omega)
  obtain ⟨b2, off2, rfl, hbb2, _⟩ := hT.F (by rw [natsI_len, frT_len]; omega)
  have hfl : flT (x, K) = [{ x with kids := (K.len : Int) }] ++ (K.flat ++ []) := by simp [flT, Fst.flat]
  have hfr : natsI (frT (x, K)) = [(x.kids.toNat : Int)] ++ (natsI (fromF K) ++ []) := by simp [frT, natsI, fromF, prsF]
  have hAL := hT.L; have hAF := hT.F
  rw [hfl] at hAL hc
  rw [hfr] at hAF
  obtain ⟨_, _, _, _, c4⟩ := hc.get (i := 0) (by simp)
  simp at c4
  have HT := hidE hT; have HGX := hidE hgx
  have HAL := hidE hAL; have HAF := hidE hAF
  have hll : (flT (x, K)).length = sizT (x, K) := flT_len _
  have HLF := hidE hfl; have HRF := hidE hfr; have HTL := hidE hT.L
  have HLL := hidE hll
  obtain ⟨ix, hix, hz0, hzz, hz4⟩ := info_parts Tryz.infoTerm
  have HI := hidE hix; have HZ0 := hidE hz0; have HZ1 := hidE hzz; have HZ2 := hidE hz4
  have hn1 := hT.n1; have hn2 := hT.n2; have hm1 := hT.n1m; have hm2 := hT.n2m
  have kl := len_size K
  have hn0 : (0 : Int) < (sizT (x, K) : Int) := by simp only [sizT]; omega
  clear hix hz0 hzz hz4 hT hc hgx hAL hAF hfl hfr hll hsz
  generalize hn : sizT (x, K) = n at *
  have HGK := hidE hgK
  generalize hkl : K.len = kn at *
  have HKL := hidE hkl; have HN := hidE hn
  clear hgK hkl hn
  go_enter Tryz.func46, Tryz.ntmps46
  go_wp2
  go_loopg [3, 4, 5] kn (fun gh v3 v4 v5 wr => ∃ (k e : Nat) (D : List Tm) (G : Fst) (A : List Prt) (F : List Int), v4 = .int .i64 e ∧ v5 = .int .i64 k ∧ k + G.len = kn ∧ G.len ≤ gh ∧ gdF G ∧ D.length = k ∧ D ++ toL G = toL K ∧ e = A.length ∧ e = F.length ∧ e + G.size = n ∧ 1 ≤ e ∧ flT (x, K) = A ++ (G.flat ++ []) ∧ natsI (frT (x, K)) = F ++ (natsI (fromF G) ++ []) ∧ RowIn (w.heap.size + 1) lo w wr v3 D ∧ Below w.heap.size w wr ∧ Blk wr w.heap.size #[.slice (some ⟨b, off, none⟩) n c, .slice (some ⟨b2, off2, none⟩) n c2] 63)
  case atStart => exact ⟨0, 1, [], K, _, _, rfl, rfl, by have := HKL.out; omega, by have := HKL.out; omega, HGK.out, rfl, rfl, rfl, rfl, by have := HN.out; simp only [sizT] at this; omega, Nat.le_refl _, HLF.out, HRF.out, rowIn_nil _ _ _ _, by (repeat (first | exact Below.refl _ _ | assumption | refine balloc ?_ _ | refine below_drewN ?_ _ | refine bstep (by assumption) ?_ | refine bstep (Past.prop _) ?_ | refine Below.setCell ?_ (by first | exact Nat.le_refl _ | (simp; done) | (simp; omega)) _)), Blk.made _ _ _⟩
  case round =>
    obtain ⟨k, e, D, G, A, F, rfl, rfl, hkg, hgg, hgG, hDl, hD, heA, heF, hes, he1, hlA, hlF, hrow, hb, hbk⟩ := hrel
    have HB := hidE hb; have HBK := hidE hbk
    have d0 := hbk.cell 0; have d1 := hbk.cell 1; have dz := hbk.lt
    simp at d0 d1
    have d4 := (hb.cell (p := ⟨b, _, none⟩) hbb).trans c4
    have zb := Nat.lt_of_lt_of_le hbb hb.size
    cases G with
    | nil =>
      have r1 : k = kn := by simpa [Fst.len] using hkg
      have r2 : decide ((k : Int) < (kn : Int)) = false := decide_eq_false (by omega)
      have r3 : decide (k < kn) = false := decide_eq_false (by omega)
      have hDK : D = toL K := by simpa [toL] using hD
      have HR := hidE (hDK ▸ hrow.lower (Nat.le_succ _))
      clear hkg hgg hgG hDl hD heA heF hes he1 hlA hlF hrow hb hbk r1 hDK
      go_wp2
      go_ret
      exact ⟨_, rfl, HR.out, HB.out⟩
    | cons y ky nx =>
      obtain ⟨g1, g2, g3⟩ := gdF_cons.1 hgG
      have r0 : k + (nx.len + 1) = kn := by simpa [Fst.len] using hkg
      have rg := hgg; simp only [Fst.len] at rg
      have rs : e + (ky.size + nx.size + 1) = n := by simpa [Fst.size] using hes
      have r2 : decide ((k : Int) < (kn : Int)) = true := decide_eq_true (by omega)
      have r3 : decide (k < kn) = true := decide_eq_true (by omega)
      have kb := gd_kok ky g2
      have HE := hidE (fun w' (hb' : Below w.heap.size w w') => end_c ((bare ky).size + 1) y (bare ky) A (nx.flat ++ []) (flT (x, K)) (some ⟨b, off, none⟩) c e w' (Nat.lt_succ_self _) g1.1 kb.1 (by rw [hlA, bare_flat, (bare_len ky).1]; simp [Fst.flat]) heA (by rw [HLL.out]; exact hs) (HTL.out.past hb'))
      rw [HLL.out, (bare_len ky).2] at HE
      have r8 : (k : Int) + 1 ≤ 100001 := by have := HN.out; simp only [sizT] at this; omega
      obtain ⟨av, cp, hv, _⟩ : ∃ av cp, u3 = .slice av k cp ∧ True := by
        obtain ⟨xs, ho, _⟩ := hrow
        obtain ⟨av, cp, e⟩ := own_sli ho
        exact ⟨av, cp, by rw [e, hDl], trivial⟩
      subst hv
      have HROW := hidE hrow; have HD := hidE hD; have HDL := hidE hDl; have HLA := hidE hlA; have HLF := hidE hlF; have HEA := hidE heA; have HEF := hidE heF
      have G1 := hidE g1; have G2 := hidE g2; have G3 := hidE g3; have R0 := hidE r0; have RG := hidE rg; have RS := hidE rs
      have q1 : e + 1 + ky.size ≤ n := by omega
      generalize hkz : ky.size = kz at *
      have HKZ := hidE hkz
      clear hkg hgg hgG hDl hD heA heF hes hlA hlF hrow hb hbk g1 g2 g3 r0 rg rs hkz kb
      go_wp2_with (go_at_call 65; ((with_reducible refine (HE.out _ HB.out).mono ?_); rintro e1 w4 ⟨rfl, hb4⟩; have HB4 := hidE hb4; have d0' := (hb4.cell (p := ⟨w.heap.size, 0, none⟩) dz).trans d0; have d1' := (hb4.cell (p := ⟨w.heap.size, 1, none⟩) dz).trans d1; have dz' := Nat.lt_of_lt_of_le dz hb4.size; clear hb4))
      have HB5 := hidE (bstep HB4.out HB.out)
      have HR5 := hidE (HROW.out.past HB4.out)
      have HK5 := hidE (HBK.out.past HB4.out)
      obtain ⟨xs, ho, hrx⟩ := HR5.out
      rw [HDL.out] at ho
      have HO := hidE ho; have HRX := hidE hrx
      have hws := HB5.out.size
      clear ho hrx HB4 HROW HBK d0 d1 d4
      have l1 : (e : Int) ≤ (e : Int) + 1 + (kz : Int) := by omega
      have l2 : (e : Int) + 1 + (kz : Int) ≤ (c : Int) := by omega
      have l3 : (e : Int) + 1 + (kz : Int) ≤ (c2 : Int) := by omega
      have ne1 : ¬ c = e := by omega
      have ne2 : ¬ c2 = e := by omega
      have tn : ((e : Int) + 1 + (kz : Int)).toNat - e = kz + 1 := by omega
      have HTM := hidE (show TmAt lo w (y, ky) (some ⟨b, off + e * 5, none⟩) (c - e) (some ⟨b2, off2 + e, none⟩) (c2 - e) from by
        have hf : flT (x, K) = A ++ (flT (y, ky) ++ nx.flat) := by rw [HLA.out]; simp [flT, Fst.flat]
        have hr : natsI (frT (x, K)) = F ++ (natsI (frT (y, ky)) ++ natsI (fromF nx)) := by rw [HLF.out]; simp [frT, natsI, fromF, prsF]
        have h1 := HTL.out; have h2 := HT.out.F
        rw [hf] at h1; rw [hr] at h2
        have hsz : sizT (y, ky) = kz + 1 := by simp only [sizT]; rw [HKZ.out]
        have h3 := argP_sub h1; have h4 := argK_sub h2
        rw [← HEA.out] at h3; rw [← HEF.out] at h4
        exact ⟨by omega, by omega, by omega, by omega, h3, h4, fun z hz => by have e := Option.some.inj hz; subst e; exact HT.out.low ⟨b, off, none⟩ rfl, fun z hz => by have e := Option.some.inj hz; subst e; exact HT.out.low2 ⟨b2, off2, none⟩ rfl⟩)
      have HSZ := hidE (show sizT (y, ky) = kz + 1 by simp only [sizT]; rw [HKZ.out])
      go_region_law ((refine step_appV rfl (.tmp 20) (.tmp 32) 99 rfl (w.heap.size + 1) 63 ix _ 2 48 Tryz.underlying99 HI.out HZ0.out HZ1.out HZ2.out rfl (by decide) _ k xs rfl (own_below HO.out (by (repeat (first | exact Below.refl _ _ | assumption | refine balloc ?_ _ | refine below_drewN ?_ _ | refine bstep (by assumption) ?_ | refine bstep (Past.prop _) ?_ | refine Below.setCell ?_ (by first | exact Nat.le_refl _ | (simp; done) | (simp; omega)) _)))) _ 1 [.slice (some ⟨b, off + e * 5, none⟩) (kz + 1) (c - e), .slice (some ⟨b2, off2 + e, none⟩) (kz + 1) (c2 - e)] rfl (srcV_new (Blk.made _ _ _) rfl (by intro u hu; simp at hu; rcases hu with rfl | rfl <;> rfl)) (by omega) (by omega) (by simp; omega) ?_; intro v' w' own' hg'))
      all_goals
        obtain ⟨av', cp', rfl⟩ := own_sli own'
        go_wp2
        go_roundg nx.len
        case measure => have := RG.out; omega
        case rel =>
          have hob : ∀ j, (Value.slice av k cp).ownBlock = some j → w.heap.size + 1 ≤ j := fun j hj => own_block HO.out hj
          refine ⟨k + 1, e + 1 + kz, D ++ [(y, ky)], nx, A ++ flT (y, ky), F ++ natsI (frT (y, ky)), by go_num, by go_num, by have := R0.out; omega, Nat.le_refl _, G3.out, by rw [List.length_append, HDL.out]; rfl, by rw [← HD.out]; simp [toL], ?_, ?_, by have := RS.out; omega, by omega, ?_, ?_, ⟨_, by rw [List.length_append, HDL.out]; exact own', RowM.app (rowM_one HTM.out HSZ.out) HRX.out⟩, ?_, ?_⟩
          · rw [List.length_append, flT_len, HSZ.out, ← HEA.out]; omega
          · rw [List.length_append, natsI_len, frT_len, HSZ.out, ← HEF.out]; omega
          · rw [HLA.out]; simp [flT, Fst.flat]
          · rw [HLF.out]; simp [frT, natsI, fromF, prsF]
          · exact HB5.out.trans (Below.grown ((show Below w4.heap.size w4 _ from by (repeat (first | exact Below.refl _ _ | assumption | refine balloc ?_ _ | refine below_drewN ?_ _ | refine bstep (by assumption) ?_ | refine bstep (Past.prop _) ?_ | refine Below.setCell ?_ (by first | exact Nat.le_refl _ | (simp; done) | (simp; omega)) _))).mono hws) hg' (by simp; omega) (fun j hj => by have := hob j hj; omega))
          · exact (HK5.out.past (by (repeat (first | exact Below.refl _ _ | assumption | refine balloc ?_ _ | refine below_drewN ?_ _ | refine bstep (by assumption) ?_ | refine bstep (Past.prop _) ?_ | refine Below.setCell ?_ (by first | exact Nat.le_refl _ | (simp; done) | (simp; omega)) _)))).grown hg' (fun q => by have := hob _ q.symm; omega)
end Go.Proofs.YtioalnncjahlnaaGreatDoor

namespace Go.Proofs.YtioalnncjahlnaaGreatDoor
open Go.ChangeShapes Go.WideShapes Go.ChangeAt Go.RowKit
attribute [local irreducible] Go.Calls

/-- A term's cells: its part (with whatever number of children), where it comes from, its children. -/
abbrev tcV (x : Prt) (z : Int) (v : Value) : List Value := [.int .u8 x.kind, .int .u32 x.n, .int .u32 x.g, .int .i64 x.d, .int .i64 z, .int .i64 x.kids, v]
abbrev tcA (x : Prt) (z : Int) (v : Value) : Array Value := #[.int .u8 x.kind, .int .u32 x.n, .int .u32 x.g, .int .i64 x.d, .int .i64 z, .int .i64 x.kids, v]
abbrev trV (x : Prt) (z : Int) (v : Value) : Value := .agg #[.int .u8 x.kind, .int .u32 x.n, .int .u32 x.g, .int .i64 x.d, .int .i64 z, .int .i64 x.kids, v]
/-- The blocks of the property stay; none goes. -/
structure Sam (S : Nat → Prop) (w w' : World) : Prop where
  size : w.heap.size ≤ w'.heap.size
  block : ∀ k, S k → k < w.heap.size → w'.heap[k]? = w.heap[k]?
section
variable {S S' : Nat → Prop} {w w' w2 : World}
theorem Sam.refl (S : Nat → Prop) (w : World) : Sam S w w := ⟨Nat.le_refl _, fun _ _ _ => rfl⟩
theorem Sam.trans (h : Sam S w w') (h2 : Sam S w' w2) : Sam S w w2 := ⟨Nat.le_trans h.size h2.size, fun k hs hk => (h2.block k hs (Nat.lt_of_lt_of_le hk h.size)).trans (h.block k hs hk)⟩
theorem Sam.past (hb : Below w.heap.size w w') : Sam S w w' := ⟨hb.size, fun k _ hk => hb.block k hk⟩
theorem Sam.below {B : Nat} (hb : Below B w w') (hS : ∀ k, S k → k < B) : Sam S w w' := ⟨hb.size, fun k hs _ => hb.block k (hS k hs)⟩
theorem Sam.grown {r : Option Nat} (hg : w.grownBy w' r) (hS : ∀ k, S k → some k ≠ r) : Sam S w w' := ⟨hg.size, fun k hs hk => hg.block k hk (hS k hs)⟩
theorem Sam.mono (h : Sam S w w') (hS : ∀ k, S' k → k < w.heap.size → S k) : Sam S' w w' := ⟨h.size, fun k hs hk => h.block k (hS k hs hk) hk⟩
theorem Sam.cell (h : Sam S w w') {b : Nat} (hs : S b) (hb : b < w.heap.size) (o : Nat) : w'.cell? ⟨b, o, none⟩ = w.cell? ⟨b, o, none⟩ := World.cell?_of_block (w := w) (h.block b hs hb)
end
/-- A slice value of so many elements whose cells are such. -/
def SlcT (S : Nat → Prop) (w : World) (v : Value) (n : Nat) (R : List Value → Prop) : Prop :=
  ∃ (a : Option Addr) (cap : Nat), v = .slice a n cap ∧ n ≤ cap ∧ cap ≤ 9223372036854775807 ∧ (a = none → cap = 0) ∧ (0 < n → ∃ b off, a = some ⟨b, off, none⟩ ∧ S b ∧ b < w.heap.size ∧ ∃ xs, R xs ∧ ∀ j u, xs[j]? = some u → w.cell? ⟨b, off + j, none⟩ = some u)
/-- The cells of terms. -/
def CelF (S : Nat → Prop) (w : World) : Fst → List Value → Prop
  | .nil => fun xs => xs = []
  | .cons x K N => fun xs => ∃ (z : Int) (v : Value) (ys : List Value), xs = tcV x z v ++ ys ∧ SlcT S w v K.len (CelF S w K) ∧ CelF S w N ys
abbrev SliF (S : Nat → Prop) (w : World) (v : Value) (F : Fst) : Prop := SlcT S w v F.len (CelF S w F)
theorem SlcT.imp {S S' : Nat → Prop} {w w' : World} {v : Value} {n : Nat} {R R' : List Value → Prop} (h : SlcT S w v n R) (hs : w.heap.size ≤ w'.heap.size) (hS : ∀ k, S k → k < w.heap.size → S' k ∧ w'.heap[k]? = w.heap[k]?) (hR : ∀ xs, R xs → R' xs) : SlcT S' w' v n R' := by
  obtain ⟨a, cap, e, h1, h2, h3, h4⟩ := h
  refine ⟨a, cap, e, h1, h2, h3, fun hn => ?_⟩
  obtain ⟨b, off, e2, g1, g2, xs, g3, g4⟩ := h4 hn
  obtain ⟨q1, q2⟩ := hS b g1 g2
  exact ⟨b, off, e2, q1, Nat.lt_of_lt_of_le g2 hs, xs, hR xs g3, fun j u hu => (World.cell?_of_block (w := w) (a := ⟨b, off + j, none⟩) q2).trans (g4 j u hu)⟩
theorem CelF.imp {S S' : Nat → Prop} {w w' : World} (hs : w.heap.size ≤ w'.heap.size) (hS : ∀ k, S k → k < w.heap.size → S' k ∧ w'.heap[k]? = w.heap[k]?) : ∀ (F : Fst) (xs : List Value), CelF S w F xs → CelF S' w' F xs
  | .nil, _, h => h
  | .cons _x K N, _, ⟨z, v, ys, e, h1, h2⟩ => ⟨z, v, ys, e, h1.imp hs hS (CelF.imp hs hS K), CelF.imp hs hS N ys h2⟩
section
variable {S S' : Nat → Prop} {w w' : World} {F : Fst} {xs ys : List Value} {v : Value}
theorem CelF.sam (h : CelF S w F xs) (hb : Sam S w w') : CelF S w' F xs := CelF.imp hb.size (fun k a b => ⟨a, hb.block k a b⟩) F xs h
theorem CelF.mono (h : CelF S w F xs) (hS : ∀ k, S k → k < w.heap.size → S' k) : CelF S' w F xs := CelF.imp (Nat.le_refl _) (fun k a b => ⟨hS k a b, rfl⟩) F xs h
theorem SlcT.sam (h : SliF S w v F) (hb : Sam S w w') : SliF S w' v F := SlcT.imp h hb.size (fun k a b => ⟨a, hb.block k a b⟩) fun _ q => q.sam hb
theorem SlcT.mono (h : SliF S w v F) (hS : ∀ k, S k → k < w.heap.size → S' k) : SliF S' w v F := SlcT.imp h (Nat.le_refl _) (fun k a b => ⟨hS k a b, rfl⟩) fun _ q => q.mono hS
theorem sliF_nil (S : Nat → Prop) (w : World) : SliF S w (.slice none 0 0) .nil := ⟨none, 0, rfl, Nat.le_refl _, by omega, fun _ => rfl, fun h => by cases h⟩
end
theorem CelF.len {S : Nat → Prop} {w : World} : ∀ {F : Fst} {xs : List Value}, CelF S w F xs → xs.length = F.len * 7
  | .nil, _, h => by cases h; rfl
  | .cons x K N, _, ⟨z, v, ys, e, h1, h2⟩ => by
    have := CelF.len h2
    rw [e, List.length_append, this]
    simp only [List.length_cons, List.length_nil, Fst.len]; omega
theorem CelF.one {S : Nat → Prop} {w : World} : ∀ {F : Fst} {xs : List Value}, CelF S w F xs → ∀ u ∈ xs, u.oneCell' = true
  | .nil, _, h => by cases h; exact fun u hu => by cases hu
  | .cons x K N, _, ⟨z, v, ys, e, ⟨a, cap, ev, _⟩, h2⟩ => fun u hu => by
    subst e ev
    simp only [tcV, List.cons_append, List.nil_append, List.mem_cons] at hu
    rcases hu with rfl | rfl | rfl | rfl | rfl | rfl | rfl | hu
    all_goals first | rfl | exact CelF.one h2 u hu
theorem CelF.app {S : Nat → Prop} {w : World} {r : List Tm} {ys : List Value} (h2 : CelF S w (ofL r) ys) : ∀ {l : List Tm} {xs : List Value}, CelF S w (ofL l) xs → CelF S w (ofL (l ++ r)) (xs ++ ys)
  | [], _, h => by cases h; exact h2
  | t :: l, _, ⟨z, v, zs, e, h1, h3⟩ => ⟨z, v, zs ++ ys, by rw [e, List.append_assoc], h1, CelF.app h2 h3⟩
theorem celF_one {S : Nat → Prop} {w : World} {t : Tm} {z : Int} {v : Value} (h : SliF S w v t.2) : CelF S w (ofL [t]) (tcV t.1 z v) := ⟨z, v, [], by simp, h, rfl⟩
theorem CelF.get {S : Nat → Prop} {w : World} : ∀ {F : Fst} {xs : List Value}, CelF S w F xs → ∀ i, i < F.len → ∃ z v, (∀ j u, (tcV ((toL F).getD i tm0).1 z v)[j]? = some u → xs[i * 7 + j]? = some u) ∧ SliF S w v ((toL F).getD i tm0).2
  | .nil, _, _ => fun i hi => by simp [Fst.len] at hi
  | .cons x K N, _, ⟨z, v, ys, e, h1, h2⟩ => fun i hi => by
    cases i with
    | zero =>
      refine ⟨z, v, fun j u hu => ?_, h1⟩
      have hj := (List.getElem?_eq_some_iff.1 hu).1
      rw [e, Nat.zero_mul, Nat.zero_add, List.getElem?_append_left (by simpa using hj)]; exact hu
    | succ i =>
      obtain ⟨z', v', g1, g2⟩ := CelF.get h2 i (by simpa [Fst.len] using hi)
      refine ⟨z', v', fun j u hu => ?_, by simpa [toL] using g2⟩
      rw [e, List.getElem?_append_right (by simp; omega)]
      have := g1 j u (by simpa [toL] using hu)
      rw [← this]
      congr 1
      simp; omega
/-- A term in a slice: its cells, one by one. -/
theorem SlcT.get {S : Nat → Prop} {w : World} {v : Value} {F : Fst} (h : SliF S w v F) {i : Nat} (hi : i < F.len) : ∃ b off cap z vk, v = .slice (some ⟨b, off, none⟩) F.len cap ∧ F.len ≤ cap ∧ b < w.heap.size ∧ S b ∧ SliF S w vk ((toL F).getD i tm0).2 ∧
    w.cell? ⟨b, off + i * 7, none⟩ = some (.int .u8 ((toL F).getD i tm0).1.kind) ∧ w.cell? ⟨b, off + i * 7 + 1, none⟩ = some (.int .u32 ((toL F).getD i tm0).1.n) ∧ w.cell? ⟨b, off + i * 7 + 2, none⟩ = some (.int .u32 ((toL F).getD i tm0).1.g) ∧ w.cell? ⟨b, off + i * 7 + 3, none⟩ = some (.int .i64 ((toL F).getD i tm0).1.d) ∧
    w.cell? ⟨b, off + i * 7 + 4, none⟩ = some (.int .i64 z) ∧ w.cell? ⟨b, off + i * 7 + 5, none⟩ = some (.int .i64 ((toL F).getD i tm0).1.kids) ∧ w.cell? ⟨b, off + i * 7 + 6, none⟩ = some vk := by
  obtain ⟨a, cap, e, h1, _, _, h4⟩ := h
  obtain ⟨b, off, rfl, g1, g2, xs, g3, g4⟩ := h4 (by omega)
  obtain ⟨z, vk, q1, q2⟩ := g3.get i hi
  have c : ∀ j u, (tcV ((toL F).getD i tm0).1 z vk)[j]? = some u → w.cell? ⟨b, off + i * 7 + j, none⟩ = some u := fun j u hu => by rw [Nat.add_assoc]; exact g4 _ u (q1 j u hu)
  exact ⟨b, off, cap, z, vk, e, h1, g2, g1, q2, c 0 _ rfl, c 1 _ rfl, c 2 _ rfl, c 3 _ rfl, c 4 _ rfl, c 5 _ rfl, c 6 _ rfl⟩
theorem SlcT.shape {S : Nat → Prop} {w : World} {v : Value} {n : Nat} {R : List Value → Prop} (h : SlcT S w v n R) : ∃ a cap, v = .slice a n cap ∧ n ≤ cap ∧ cap ≤ 9223372036854775807 := by
  obtain ⟨a, cap, e, h1, h2, _⟩ := h
  exact ⟨a, cap, e, h1, h2⟩
/-- What an append reads of a slice of terms. -/
theorem SlcT.src {S : Nat → Prop} {w : World} {v : Value} {F : Fst} (h : SliF S w v F) : ∃ ys, SrcV w 7 v F.len ys ∧ CelF S w F ys := by
  obtain ⟨a, cap, rfl, h1, h2, h3, h4⟩ := h
  by_cases hl : 0 < F.len
  · obtain ⟨b, off, rfl, g1, g2, xs, g3, g4⟩ := h4 hl
    refine ⟨xs, ⟨_, cap, rfl, fun e => (by simp at e), g3.len, g3.one, ?_⟩, g3⟩
    rintro ad ⟨⟩ j u hu
    have ad : (⟨b, off, none⟩ : Addr).add j = ⟨b, off + j, none⟩ := by
      unfold Addr.add
      by_cases c : j = 0
      · subst c; simp
      · simp [c]
    rw [ad]; exact g4 j u hu
  · cases F with
    | nil => exact ⟨[], ⟨a, cap, rfl, fun e => ⟨rfl, h3 e⟩, rfl, fun u hu => by simp at hu, fun ad _ j u hu => by simp at hu⟩, rfl⟩
    | cons x K N => simp [Fst.len] at hl
/-- A row of the call's own that reads as terms. -/
def OwnN (B : Nat) (S : Nat → Prop) (w : World) (v : Value) (l : List Tm) : Prop := ∃ xs, w.ownsRow B 79 7 v l.length xs ∧ CelF S w (ofL l) xs
theorem ownN_nil (B : Nat) (S : Nat → Prop) (w : World) : OwnN B S w (.slice none 0 0) [] := ⟨[], own_nil _ _ _, rfl⟩
/-- The blocks that were there. -/
def Old (S : Nat → Prop) (w : World) : Nat → Prop := fun k => S k ∧ k < w.heap.size
theorem SlcT.old {S : Nat → Prop} {w : World} {v : Value} {F : Fst} (h : SliF S w v F) : SliF (Old S w) w v F := h.mono fun _ a b => ⟨a, b⟩
theorem Sam.old {S : Nat → Prop} {w a b : World} (h : Below w.heap.size a b) : Sam (Old S w) a b := Sam.below h fun _ q => q.2
theorem OwnN.sli {B : Nat} {S S' : Nat → Prop} {w : World} {v : Value} {l : List Tm} (h : OwnN B S w v l) (hS : ∀ k, B ≤ k → S' k) (hS' : ∀ k, S k → S' k) : SliF S' w v (ofL l) := by
  obtain ⟨xs, ⟨h1, h2 | ⟨g, cap, cur, rfl, h3, h4, h5, h6, h7, h8⟩⟩, hr⟩ := h
  · obtain ⟨rfl, h2⟩ := h2
    have : l = [] := List.eq_nil_of_length_eq_zero h2
    subst this
    exact sliF_nil _ _
  · refine ⟨some ⟨g, 0, none⟩, cap, by rw [ofL_len], by rw [ofL_len]; exact h5, by unfold maxLen at h6; omega, fun e => (by simp at e), fun _ => ⟨g, 0, rfl, hS g h3, lt_of_block h4, xs, hr.mono (fun k a _ => hS' k a), fun j u hu => ?_⟩⟩
    have hj : j < l.length * 7 := by have := (List.getElem?_eq_some_iff.1 hu).1; have := hr.len; rw [ofL_len] at this; omega
    have e : w.cell? ⟨g, 0 + j, none⟩ = cur[j]? := by simp [World.cell?, h4]
    rw [e, ← Array.getElem?_toList]
    rw [← h8, List.getElem?_take, if_pos hj] at hu
    exact hu
theorem OwnN.past {B : Nat} {S : Nat → Prop} {w w' : World} {v : Value} {l : List Tm} (h : OwnN B S w v l) (hb : Below w.heap.size w w') : OwnN B S w' v l := by
  obtain ⟨xs, h1, h2⟩ := h
  exact ⟨xs, own_below h1 hb, h2.sam (Sam.past hb)⟩
/-- A term in a block. -/
def TermB (S : Nat → Prop) (w : World) (p : Nat) (t : Tm) : Prop := ∃ z v, Blk w p (tcA t.1 z v) 79 ∧ SliF S w v t.2
theorem TermB.sam {S : Nat → Prop} {w w' : World} {p : Nat} {t : Tm} (h : TermB S w p t) (hb : Sam S w w') (hp : w'.heap[p]? = w.heap[p]?) : TermB S w' p t := by
  obtain ⟨z, v, h1, h2⟩ := h
  exact ⟨z, v, hp.trans h1, h2.sam hb⟩
theorem TermB.past {S : Nat → Prop} {w w' : World} {p : Nat} {t : Tm} (h : TermB S w p t) (hb : Below w.heap.size w w') : TermB S w' p t := by
  obtain ⟨z, v, h1, h2⟩ := id h
  exact h.sam (Sam.past hb) (hb.block p h1.lt)
theorem TermB.lt {S : Nat → Prop} {w : World} {p : Nat} {t : Tm} (h : TermB S w p t) : p < w.heap.size := by
  obtain ⟨z, v, h1, h2⟩ := h
  exact h1.lt
/-- A term is stored into a block. -/
abbrev put7 (w : World) (p : Nat) (x : Prt) (z : Int) (v : Value) : World :=
  ((((((w.setCell ⟨p, 0, none⟩ (.int .u8 x.kind)).setCell ⟨p, 1, none⟩ (.int .u32 x.n)).setCell ⟨p, 2, none⟩ (.int .u32 x.g)).setCell ⟨p, 3, none⟩ (.int .i64 x.d)).setCell ⟨p, 4, none⟩ (.int .i64 z)).setCell ⟨p, 5, none⟩ (.int .i64 x.kids)).setCell ⟨p, 6, none⟩ v
theorem put7_blk {w : World} {p : Nat} {y : Prt} {q : Int} {u : Value} {T : TypeId} (h : Blk w p (tcA y q u) T) (x : Prt) (z : Int) (v : Value) : Blk (put7 w p x z v) p (tcA x z v) T := by
  have h0 := h.set 0 (.int .u8 x.kind)
  simp only [tcA, List.setIfInBounds_toArray, List.set_cons_zero] at h0
  have h1 := h0.set 1 (.int .u32 x.n)
  simp only [List.setIfInBounds_toArray, List.set_cons_zero, List.set_cons_succ] at h1
  have h2 := h1.set 2 (.int .u32 x.g)
  simp only [List.setIfInBounds_toArray, List.set_cons_zero, List.set_cons_succ] at h2
  have h3 := h2.set 3 (.int .i64 x.d)
  simp only [List.setIfInBounds_toArray, List.set_cons_zero, List.set_cons_succ] at h3
  have h4 := h3.set 4 (.int .i64 z)
  simp only [List.setIfInBounds_toArray, List.set_cons_zero, List.set_cons_succ] at h4
  have h5 := h4.set 5 (.int .i64 x.kids)
  simp only [List.setIfInBounds_toArray, List.set_cons_zero, List.set_cons_succ] at h5
  have h6 := h5.set 6 v
  simp only [List.setIfInBounds_toArray, List.set_cons_zero, List.set_cons_succ] at h6
  exact h6
theorem put7_grown (w : World) (p : Nat) (x : Prt) (z : Int) (v : Value) : w.grownBy (put7 w p x z v) (some p) := by
  refine grown_trans ?_ (grown_set _ p 6 _)
  refine grown_trans ?_ (grown_set _ p 5 _)
  refine grown_trans ?_ (grown_set _ p 4 _)
  refine grown_trans ?_ (grown_set _ p 3 _)
  refine grown_trans ?_ (grown_set _ p 2 _)
  refine grown_trans ?_ (grown_set _ p 1 _)
  exact grown_set _ p 0 _
theorem SlcT.off {S : Nat → Prop} {w w' : World} {v : Value} {F : Fst} (h : SliF S w v F) {p : Nat} (hS : ¬ S p) (hg : w.grownBy w' (some p)) : SliF S w' v F :=
  h.sam (Sam.grown hg fun k hk e => hS (by cases e; exact hk))
theorem Tryz.infoTermN : (Tryz.prog.info? 79).map (fun i => (i.zero, i.size, i.bytes)) = some (some (.agg #[.int .u8 0, .int .u32 0, .int .u32 0, .int .i64 0, .int .i64 0, .int .i64 0, .slice none 0 0]), 7, 64) := by kernel_rfl
end Go.Proofs.YtioalnncjahlnaaGreatDoor

namespace Go.Proofs.YtioalnncjahlnaaGreatDoor
open Go.ChangeShapes Go.WideShapes Go.ChangeAt Go.RowKit
attribute [local irreducible] Go.Calls

/-- Where a term's parts come from, as numbers. -/
def frI (t : Tm) : List Int := t.1.kids :: (prsF t.2).map (·.kids)
theorem ofL_flat : ∀ l r : List Tm, (ofL (l ++ r)).flat = (ofL l).flat ++ (ofL r).flat
  | [], _ => rfl
  | t :: l, r => by simp only [List.cons_append, ofL, Fst.flat, ofL_flat l r, List.append_assoc, List.cons_append]
theorem ofL_prs : ∀ l r : List Tm, prsF (ofL (l ++ r)) = prsF (ofL l) ++ prsF (ofL r)
  | [], _ => rfl
  | t :: l, r => by simp only [List.cons_append, ofL, prsF, ofL_prs l r, List.append_assoc, List.cons_append]
theorem flT_snoc (A : List Tm) (u : Tm) : (ofL (A ++ [u])).flat = (ofL A).flat ++ flT u := by rw [ofL_flat]; rfl
theorem frI_snoc (A : List Tm) (u : Tm) : (prsF (ofL (A ++ [u]))).map (·.kids) = (prsF (ofL A)).map (·.kids) ++ frI u := by
  rw [ofL_prs, List.map_append]
  simp [ofL, prsF, frI]
theorem flT_eq (t : Tm) : flT t = { t.1 with kids := (t.2.len : Int) } :: t.2.flat := by simp [flT, Fst.flat]
/-- Below B all but one block stays. -/
structure Bar (B g : Nat) (w w' : World) : Prop where
  os : w'.os = w.os
  tape : w'.tape = w.tape
  output : w'.output = w.output
  size : w.heap.size ≤ w'.heap.size
  block : ∀ k, k < B → k ≠ g → w'.heap[k]? = w.heap[k]?
section
variable {B g : Nat} {w w' w2 : World}
theorem Bar.refl (B g : Nat) (w : World) : Bar B g w w := ⟨rfl, rfl, rfl, Nat.le_refl _, fun _ _ _ => rfl⟩
theorem Bar.trans (h : Bar B g w w') (h2 : Bar B g w' w2) : Bar B g w w2 := ⟨h2.os.trans h.os, h2.tape.trans h.tape, h2.output.trans h.output, Nat.le_trans h.size h2.size, fun k a b => (h2.block k a b).trans (h.block k a b)⟩
theorem Bar.of (h : Below B w w') : Bar B g w w' := ⟨h.os, h.tape, h.output, h.size, fun k a _ => h.block k a⟩
theorem Bar.put (w : World) (g i : Nat) (v : Value) : Bar B g w (w.setCell ⟨g, i, none⟩ v) := ⟨rfl, rfl, rfl, by simp [World.setCell], fun k _ hk => Below.heap_setCell _ _ _ _ hk⟩
theorem Bar.sam {S : Nat → Prop} (h : Bar B g w w') (hS : ∀ k, S k → k < B ∧ k ≠ g) : Sam S w w' := ⟨h.size, fun k q _ => h.block k (hS k q).1 (hS k q).2⟩
/-- Nothing but that block is turned: below it all stays. -/
theorem Bar.below (h : Bar B g w w') (hg : g ≤ B) : Below g w w' := ⟨h.os, h.tape, h.output, h.size, fun k hk => h.block k (by omega) (by omega)⟩
end
theorem Tryz.infoIntN : (Tryz.prog.info? 3).map (fun i => (i.zero, i.size, i.bytes)) = some (some (.int .i64 0), 1, 8) := by kernel_rfl
/-- A list in block g: its rows lie from B on. -/
def ListAt (B g : Nat) (w : World) (P : List Prt) (R : List Int) : Prop :=
  ∃ vp vf, Blk w g #[vp, vf] 75 ∧ w.ownsRow B 35 5 vp P.length (cellsOfP P) ∧ w.ownsRow B 3 1 vf R.length (cellsK .i64 R)
theorem own_apart {w : World} {B sz sz' : Nat} {e e' : TypeId} {v v' : Value} {n n' : Nat} {xs ys : List Value} (h : w.ownsRow B e sz v n xs) (h' : w.ownsRow B e' sz' v' n' ys) (hne : e ≠ e') {k : Nat} (hk : v.ownBlock = some k) : v'.ownBlock ≠ some k := by
  obtain ⟨_, h2 | ⟨g, cap, cur, rfl, _, h4, _⟩⟩ := h
  · rw [h2.1] at hk; simp [Value.ownBlock] at hk
  · obtain ⟨_, h2 | ⟨g', cap', cur', rfl, _, h4', _⟩⟩ := h'
    · rw [h2.1]; simp [Value.ownBlock]
    · simp only [Value.ownBlock, Option.some.injEq] at hk ⊢
      subst hk
      intro e
      obtain rfl := Option.some.inj e
      rw [h4] at h4'
      simp only [Option.some.injEq, Obj.cells.injEq] at h4'
      exact hne h4'.2.1
/-- Both rows stay where what turns is a new block, or the list's own. -/
theorem ListAt.past {B g : Nat} {w w' : World} {P : List Prt} {R : List Int} (h : ListAt B g w P R) (hb : Below w.heap.size w w') : ListAt B g w' P R := by
  obtain ⟨vp, vf, h1, h2, h3⟩ := h
  exact ⟨vp, vf, h1.past hb, own_below h2 hb, own_below h3 hb⟩
/-- Within add: the list, and the term that was handed in. -/
def AddI (B g : Nat) (w : World) (x : Prt) (z : Int) (v : Value) (P : List Prt) (R : List Int) (W : World) : Prop := ListAt B g W P R ∧ Bar B g w W ∧ Blk W w.heap.size (tcA x z v) 79
theorem AddI.grown {B g : Nat} {w W w' : World} {x : Prt} {z : Int} {v : Value} {P : List Prt} {R : List Int} {vp vf : Value} (hgB : g < B) (hBw : B ≤ w.heap.size) (hB : Blk W g #[vp, vf] 75) (hop : W.ownsRow B 35 5 vp P.length (cellsOfP P)) (hof : W.ownsRow B 3 1 vf R.length (cellsK .i64 R)) (hbar : Bar B g w W) (hx : Blk W w.heap.size (tcA x z v) 79)
    (w1 : World) (h1 : Below W.heap.size W w1) :
    (∀ (v' : Value) (y : Prt), w'.ownsRow B 35 5 v' (P.length + 1) (cellsOfP P ++ [.int .u8 y.kind, .int .u32 y.n, .int .u32 y.g, .int .i64 y.d, .int .i64 y.kids]) → w1.grownBy w' vp.ownBlock → AddI B g w x z v (P ++ [y]) R (w'.setCell ⟨g, 0, none⟩ v')) ∧
    (∀ (v' : Value) (y : Int), w'.ownsRow B 3 1 v' (R.length + 1) (cellsK .i64 R ++ [.int .i64 y]) → w1.grownBy w' vf.ownBlock → AddI B g w x z v P (R ++ [y]) (w'.setCell ⟨g, 1, none⟩ v')) := by
  have hsz := h1.size
  have ne : ∀ {sz n : Nat} {e : TypeId} {v' : Value} {xs : List Value}, w'.ownsRow B e sz v' n xs → ∀ k, v'.ownBlock = some k → k ≠ g := fun h k hk => by have := own_block h hk; omega
  have ltw : Bar B g w w1 := hbar.trans (Bar.of (h1.mono (Nat.le_trans hBw hbar.size)))
  have bar : ∀ {r : Option Nat}, (∀ k, r = some k → B ≤ k) → w1.grownBy w' r → Bar B g w w' := fun hr hg => ltw.trans ⟨hg.os, hg.tape, hg.output, hg.size, fun k hk _ => hg.block k (by have := ltw.size; omega) (fun e => by have := hr k e.symm; omega)⟩
  have box : ∀ {sz n : Nat} {e : TypeId} {v' : Value} {xs : List Value}, W.ownsRow B e sz v' n xs → e ≠ 79 → w1.grownBy w' v'.ownBlock → Blk w' w.heap.size (tcA x z v) 79 := fun ho he hg => by
    refine (hx.past h1).grown hg fun e => ?_
    obtain ⟨_, h2 | ⟨q, cap, cur, rfl, _, h4, _⟩⟩ := ho
    · rw [h2.1] at e; simp [Value.ownBlock] at e
    · simp only [Value.ownBlock, Option.some.injEq] at e
      subst e
      unfold Blk at hx
      rw [hx] at h4
      simp only [Option.some.injEq, Obj.cells.injEq] at h4
      exact he h4.2.1.symm
  have lst : ∀ {r : Option Nat}, (∀ k, r = some k → B ≤ k) → w1.grownBy w' r → Blk w' g #[vp, vf] 75 := fun hr hg => (hB.past h1).grown hg fun e => by have := hr g e.symm; omega
  have oth : ∀ {sz n : Nat} {e : TypeId} {v' : Value} {xs : List Value} {r : Option Nat}, W.ownsRow B e sz v' n xs → (∀ k, r = some k → v'.ownBlock ≠ some k) → w1.grownBy w' r → w'.ownsRow B e sz v' n xs := fun ho hr hg => (own_below ho h1).kept hg (by
    cases hv : Value.ownBlock _ with
    | none => exact .inl rfl
    | some k => exact .inr fun e => (hr k e.symm) hv)
  constructor
  · intro v' y ho hg
    have hb := lst (fun k e => own_block hop e) hg
    have hs := hb.set 0 v'
    simp only [List.setIfInBounds_toArray, List.set_cons_zero] at hs
    refine ⟨⟨v', vf, hs, ?_, ?_⟩, (bar (fun k e => own_block hop e) hg).trans (Bar.put _ _ _ _), (box hop (by decide) hg).other (by omega) _⟩
    · refine own_kept ?_ (fun k e => keptS (ne ho k e) _)
      rw [List.length_append, cellsOfP_app]; exact ho
    · have := oth hof (fun k e => own_apart hop hof (by decide) e) hg
      exact own_kept this (fun k e => keptS (ne this k e) _)
  · intro v' y ho hg
    have hb := lst (fun k e => own_block hof e) hg
    have hs := hb.set 1 v'
    simp only [List.setIfInBounds_toArray, List.set_cons_zero, List.set_cons_succ] at hs
    refine ⟨⟨vp, v', hs, ?_, ?_⟩, (bar (fun k e => own_block hof e) hg).trans (Bar.put _ _ _ _), (box hof (by decide) hg).other (by omega) _⟩
    · have := oth hop (fun k e => own_apart hof hop (by decide) e) hg
      exact own_kept this (fun k e => keptS (ne this k e) _)
    · refine own_kept ?_ (fun k e => keptS (ne ho k e) _)
      rw [List.length_append, cellsK_app]; exact ho
set_option maxHeartbeats 4000000 in
set_option maxRecDepth 100000 in
theorem add_c (Sn : Nat → Prop) (B g : Nat) (hgB : g < B) (hSn : ∀ k, Sn k → k < B ∧ k ≠ g) : ∀ (m : Nat) (t : Tm) (z : Int) (v : Value) (P : List Prt) (R : List Int) (w : World), sizT t ≤ m → B ≤ w.heap.size → ListAt B g w P R → SliF Sn w v t.2 → P.length + sizT t ≤ 100000 → R.length = P.length →
    Calls Tryz.prog 31 #[.pointer (some ⟨g, 0, none⟩), trV t.1 z v] w fun e w' => e = .returned (.tuple #[]) ∧ ListAt B g w' (P ++ flT t) (R ++ frI t) ∧ Bar B g w w' := by
  intro m
  induction m with
  | zero => intro t z v P R w h; simp only [sizT] at h; omega
  | succ m ih =>
    intro t z v P R w hm hBw hL hv hsz hRP
    obtain ⟨av, cap, rfl, hc1, hc2⟩ := hv.shape
    obtain ⟨vp, vf, hb, hop, hof⟩ := hL
    have HB := hidE hb; have HOP := hidE hop; have HOF := hidE hof; have HV := hidE hv; have IH := hidE ih
    obtain ⟨ap, cp, rfl⟩ := own_sli hop
    obtain ⟨af, cf, rfl⟩ := own_sli hof
    obtain ⟨ip, hip, hpz0, hpz1, hpz2⟩ := info_parts Tryz.infoPart
    obtain ⟨ii, hii, hiz0, hiz1, hiz2⟩ := info_parts Tryz.infoIntN
    have HI := hidE hip; have HZ0 := hidE hpz0; have HZ1 := hidE hpz1; have HZ2 := hidE hpz2
    have JI := hidE hii; have JZ0 := hidE hiz0; have JZ1 := hidE hiz1; have JZ2 := hidE hiz2
    have c0 := hb.cell 0; have c1 := hb.cell 1; have gz := hb.lt; have f0 := hb.free 0; have f1 := hb.free 1
    simp at c0 c1
    have HRP := hidE hRP
    have hrz : R.length + sizT t ≤ 100000 := by omega
    clear hb hop hof hv hRP hip hpz0 hpz1 hpz2 hii hiz0 hiz1 hiz2 ih
    obtain ⟨part, hpart⟩ : ∃ part : Prt, part = { t.1 with kids := (t.2.len : Int) } := ⟨_, rfl⟩
    have HPART := hidE hpart
    clear hpart
    go_enter Tryz.func31, Tryz.ntmps31
    go_upto_region 3 with fail
    obtain ⟨w1, hw1⟩ : ∃ w1, w1 = (w.alloc (.cells (tcA t.1 z (.slice av t.2.len cap)) 79)).alloc (.cells #[.int .u8 t.1.kind, .int .u32 t.1.n, .int .u32 t.1.g, .int .i64 t.1.d, .int .i64 t.2.len] 35) := ⟨_, rfl⟩
    rw [← hw1]
    have hb1 : Below w.heap.size w w1 := by rw [hw1]; (repeat (first | exact Below.refl _ _ | assumption | refine balloc ?_ _ | refine below_drewN ?_ _ | refine bstep (by assumption) ?_ | refine bstep (Past.prop _) ?_ | refine Below.setCell ?_ (by first | exact Nat.le_refl _ | (simp; done) | (simp; omega)) _))
    have hbox : Blk w1 w.heap.size (tcA t.1 z (.slice av t.2.len cap)) 79 := by
      rw [hw1]; exact (Blk.made w _ _).alloc _
    have hprt : Blk w1 (w.heap.size + 1) #[.int .u8 part.kind, .int .u32 part.n, .int .u32 part.g, .int .i64 part.d, .int .i64 part.kids] 35 := by
      rw [hw1, HPART.out]
      exact Blk.made_at _ _ _ _ (by simp)
    have HB1 := hidE hb1; have HBOX := hidE hbox
    have L1 := hidE (HB.out.past hb1); have P1 := hidE (own_below HOP.out hb1); have F1 := hidE (own_below HOF.out hb1)
    have p0 := hprt.cell 0; have p1 := hprt.cell 1; have p2 := hprt.cell 2; have p3 := hprt.cell 3; have p4 := hprt.cell 4; have pz := hprt.lt
    simp at p0 p1 p2 p3 p4
    have c0 := L1.out.cell 0; have gz := L1.out.lt
    simp at c0
    have hB1 : B ≤ w1.heap.size := Nat.le_trans hBw hb1.size
    clear hw1 hb1 hbox hprt c1 f0 f1
    go_cut [] (fun wx => AddI B g w t.1 z (.slice av t.2.len cap) (P ++ [part]) R wx)
    case first =>
      go_region_law ((refine step_appV rfl (.tmp 17) (.tmp 19) 22 rfl B 35 ip _ 5 32 Tryz.underlying22 HI.out HZ0.out HZ1.out HZ2.out rfl (by decide) (.slice ap P.length cp) P.length (cellsOfP P) rfl (own_below P1.out (by (repeat (first | exact Below.refl _ _ | assumption | refine balloc ?_ _ | refine below_drewN ?_ _ | refine bstep (by assumption) ?_ | refine bstep (Past.prop _) ?_ | refine Below.setCell ?_ (by first | exact Nat.le_refl _ | (simp; done) | (simp; omega)) _)))) _ 1 [.int .u8 part.kind, .int .u32 part.n, .int .u32 part.g, .int .i64 part.d, .int .i64 part.kids] rfl (srcV_new (Blk.made_at _ _ _ _ (by first | rfl | (simp; done))) rfl (by intro y hy; simp at hy; rcases hy with rfl | rfl | rfl | rfl | rfl <;> rfl)) (by simp only [sizT] at hsz; omega) (by omega) (by simp; omega) ?_; intro v' w' own' hg'; obtain ⟨av', cp', rfl⟩ := own_sli own'; have hB2 := (L1.out.past (show Below w1.heap.size w1 _ from by (repeat (first | exact Below.refl _ _ | assumption | refine balloc ?_ _ | refine below_drewN ?_ _ | refine bstep (by assumption) ?_ | refine bstep (Past.prop _) ?_ | refine Below.setCell ?_ (by first | exact Nat.le_refl _ | (simp; done) | (simp; omega)) _)))).grown hg' (fun e => by have := own_block P1.out e.symm; omega); have e0 := hB2.cell 0; have ef := hB2.free 0; have ez := hB2.lt; simp at e0; clear hB2))
      all_goals
        go_wp2
        go_meet
        case rel =>
          exact (AddI.grown (w' := w') hgB hBw L1.out P1.out F1.out (Bar.of (HB1.out.mono hBw)) HBOX.out _ (by (repeat (first | exact Below.refl _ _ | assumption | refine balloc ?_ _ | refine below_drewN ?_ _ | refine bstep (by assumption) ?_ | refine bstep (Past.prop _) ?_ | refine Below.setCell ?_ (by first | exact Nat.le_refl _ | (simp; done) | (simp; omega)) _)))).1 _ part own' hg'
    case rest =>
      obtain ⟨⟨vp, vf, hl2, hp2, hf2⟩, hbar2, hbox2⟩ := hcut
      clear P1 F1 L1 HBOX HB1 c0 gz p0 p1 p2 p3 p4 pz hB1
      obtain ⟨ap2, cp2, rfl⟩ := own_sli hp2
      obtain ⟨af2, cf2, rfl⟩ := own_sli hf2
      have L2 := hidE hl2; have P2 := hidE hp2; have F2 := hidE hf2; have HBAR := hidE hbar2; have HBOX := hidE hbox2
      have c1 := hl2.cell 1; have gz := hl2.lt
      have p5 := hbox2.cell 5; have pz := hbox2.lt
      simp at c1 p5
      have hB1 : B ≤ wc.heap.size := Nat.le_trans hBw hbar2.size
      obtain ⟨w2, hw2⟩ : ∃ w2, w2 = wc := ⟨_, rfl⟩
      subst hw2
      clear hl2 hp2 hf2 hbar2 hbox2
      go_upto_region 4 with fail
      go_cut [] (fun wx => AddI B g w t.1 z (.slice av t.2.len cap) (P ++ [part]) (R ++ [t.1.kids]) wx)
      case first =>
        go_region_law ((refine step_appV rfl (.tmp 27) (.tmp 30) 29 rfl B 3 ii _ 1 8 Tryz.underlying29 JI.out JZ0.out JZ1.out JZ2.out rfl (by decide) (.slice af2 R.length cf2) R.length (cellsK .i64 R) rfl (own_below F2.out (by (repeat (first | exact Below.refl _ _ | assumption | refine balloc ?_ _ | refine below_drewN ?_ _ | refine bstep (by assumption) ?_ | refine bstep (Past.prop _) ?_ | refine Below.setCell ?_ (by first | exact Nat.le_refl _ | (simp; done) | (simp; omega)) _)))) _ 1 [.int .i64 t.1.kids] rfl (srcV_new (Blk.made_at _ _ _ _ (by first | rfl | (simp; done))) rfl (by intro y hy; simp at hy; subst hy; rfl)) (by simp only [sizT] at hrz; omega) (by omega) (by simp; omega) ?_; intro v' w' own' hg'; obtain ⟨av', cp', rfl⟩ := own_sli own'; have hB2 := (L2.out.past (show Below w2.heap.size w2 _ from by (repeat (first | exact Below.refl _ _ | assumption | refine balloc ?_ _ | refine below_drewN ?_ _ | refine bstep (by assumption) ?_ | refine bstep (Past.prop _) ?_ | refine Below.setCell ?_ (by first | exact Nat.le_refl _ | (simp; done) | (simp; omega)) _)))).grown hg' (fun e => by have := own_block F2.out e.symm; omega); have e0 := hB2.cell 1; have ef := hB2.free 1; have ez := hB2.lt; simp at e0; clear hB2))
        all_goals
          go_wp2
          go_meet
          case rel =>
            exact (AddI.grown (w' := w') hgB hBw L2.out P2.out F2.out HBAR.out HBOX.out _ (by (repeat (first | exact Below.refl _ _ | assumption | refine balloc ?_ _ | refine below_drewN ?_ _ | refine bstep (by assumption) ?_ | refine bstep (Past.prop _) ?_ | refine Below.setCell ?_ (by first | exact Nat.le_refl _ | (simp; done) | (simp; omega)) _)))).2 _ t.1.kids own' hg'
      case rest =>
        obtain ⟨hl3, hbar3, hbox3⟩ := hcut
        clear P2 F2 L2 HBOX c1 gz p5 pz hB1
        have L3 := hidE hl3; have HBAR3 := hidE hbar3
        have p6 := hbox3.cell 6; have pz := hbox3.lt
        simp at p6
        have HN := hidE (rfl : t.2.len = t.2.len)
        clear hl3 hbar3 hbox3 HBAR
        go_wp2_with fail
        go_loopg [37] t.2.len (fun gh v37 wr => ∃ (A C : List Tm), v37 = .int .i64 A.length ∧ A ++ C = toL t.2 ∧ C.length ≤ gh ∧ ListAt B g wr (P ++ part :: (ofL A).flat) (R ++ t.1.kids :: (prsF (ofL A)).map (·.kids)) ∧ Bar B g w wr)
        case atStart => exact ⟨[], toL t.2, rfl, rfl, by rw [toL_len]; exact Nat.le_refl _, L3.out, HBAR3.out⟩
        case round =>
          obtain ⟨A, C, rfl, hAC, hgh, hla, hba⟩ := hrel
          have HAC := hidE hAC; have HGH := hidE hgh; have HLA := hidE hla; have HBA := hidE hba
          have hAn : A.length + C.length = t.2.len := by rw [← toL_len, ← hAC, List.length_append]
          clear hgh hla hba
          cases C with
          | nil =>
            have q1 : decide ((A.length : Int) < (t.2.len : Int)) = false := decide_eq_false (by simp at hAn; omega)
            have q2 : ¬ A.length < t.2.len := by simp at hAn; omega
            have hA : A = toL t.2 := by simpa using hAC
            have hfin : ListAt B g wr (P ++ flT t) (R ++ frI t) := by
              have h := HLA.out
              rw [hA, of_to] at h
              rw [flT_eq, ← HPART.out]; exact h
            have HF := hidE hfin
            clear hAC hA hfin
            go_wp2
            go_end0
            exact ⟨rfl, HF.out, HBA.out⟩
          | cons u C =>
            have q1 : decide ((A.length : Int) < (t.2.len : Int)) = true := decide_eq_true (by simp at hAn; omega)
            have q2 : A.length < t.2.len := by simp at hAn; omega
            obtain ⟨b, off, cap', z', vk, e, _, hbz, hSb, hk, d0, d1, d2, d3, d4, d5, d6⟩ := (HV.out.sam (HBA.out.sam hSn)).get (i := A.length) q2
            cases e
            have hu : u ∈ toL t.2 := by rw [← hAC]; simp
            have hsu := siz_kid hu
            have hsA : sizL A + sizT u + 1 ≤ sizT t := by
              have := sizL_to t.2
              rw [← hAC, sizL_app] at this
              simp only [sizL] at this
              simp only [sizT] at this ⊢; omega
            have hge : (toL t.2).getD A.length tm0 = u := by rw [← hAC, List.getD_eq_getElem?_getD, List.getElem?_append_right (Nat.le_refl _), Nat.sub_self]; rfl
            rw [hge] at d0 d1 d2 d3 d5 hk
            obtain ⟨ak, ck, rfl, hk1, hk2⟩ := hk.shape
            have HK := hidE hk; have HSA := hidE hsA
            have hBr : B ≤ wr.heap.size := Nat.le_trans hBw HBA.out.size
            have HCALL := hidE (fun (w' : World) (hb : Below wr.heap.size wr w') => IH.out u z' (.slice ak u.2.len ck) _ _ w' (by omega) (Nat.le_trans hBr hb.size) (HLA.out.past hb) (HK.out.sam (Sam.past hb)) (by
              rw [List.length_append, List.length_cons, flat_len, sizL_of]; omega) (by
              simp only [List.length_append, List.length_cons, List.length_map, prsF_len, flat_len]; have := HRP.out; omega))
            clear hk hAC hge hsA hsu hu
            go_wp2_with (go_at_call 31; ((with_reducible refine (HCALL.out _ ?below).mono ?_); (case below => (repeat (first | exact Below.refl _ _ | assumption | refine balloc ?_ _ | refine below_drewN ?_ _ | refine bstep (by assumption) ?_ | refine bstep (Past.prop _) ?_ | refine Below.setCell ?_ (by first | exact Nat.le_refl _ | (simp; done) | (simp; omega)) _))); rintro e w4 ⟨rfl, hla4, hba4⟩; have HLA4 := hidE hla4; have HBA4 := hidE hba4; clear hla4 hba4))
            go_roundg C.length
            case measure => have := HGH.out; simp only [List.length_cons] at this; omega
            case rel =>
              refine ⟨A ++ [u], C, by simp, by rw [← HAC.out]; simp, Nat.le_refl _, ?_, (HBA.out.trans (Bar.of ((show Below wr.heap.size wr _ from by (repeat (first | exact Below.refl _ _ | assumption | refine balloc ?_ _ | refine below_drewN ?_ _ | refine bstep (by assumption) ?_ | refine bstep (Past.prop _) ?_ | refine Below.setCell ?_ (by first | exact Nat.le_refl _ | (simp; done) | (simp; omega)) _))).mono hBr))).trans HBA4.out⟩
              have h := HLA4.out
              simp only [List.append_assoc, List.cons_append] at h
              rw [flT_snoc, frI_snoc]; exact h
end Go.Proofs.YtioalnncjahlnaaGreatDoor
