/- A region that draws its order, by an invariant of what has run: an operation may use up what another one made (an append its row). No conditions. A region that draws its order and puts two rows behind a part, append(append([]T{x}, a...), b...), by an invariant of what has run. No function of the program. No conditions. Check of the document's own layer 8, of a slice of any length. No conditions but the machine's bounds. -/
import Derived.Test.YtioalnncjahlnaaGreatDoorPAGC
import Derived.Test.YtioalnncjahlnaaGreatDoorPAGB
import Derived.Test.YtioalnncjahlnaaGreatDoorPAMA
namespace Go.Proofs.YtioalnncjahlnaaGreatDoor
open Go.RowKit

section
variable {P : Program} {l : List Oper} {n : Nat} {a0 : Act} {w0 : World}
abbrev JTriv (l : List Oper) (n : Nat) (a0 : Act) (w0 : World) (u : Nat → Value) (listed : Array Bool) (a : Act) : Prop := JInv l n a0 w0 (fun _ _ _ => True) (fun _ => false) u listed a w0

/-- What is asked of operation i: whatever has run (all that it waits for, among it), from the invariant to the invariant. -/
def CStep (P : Program) (l : List Oper) (n : Nat) (a0 : Act) (I : (Nat → Bool) → (Nat → Value) → World → Prop) (i : Nat) (o : Oper) : Prop :=
  ∀ (L : Nat → Bool) (u : Nat → Value) (w : World), L i = false → (∀ j, j < n → waits l.toArray i j = true → L j = true) → I L u w →
    if Region.wanted o (yielded l.toArray (frm (l.take n) u 0 a0).tmps) then
      gives P (fun v w' => I (fun j => if j = i then true else L j) (fun j => if j = i then v else u j) w') ((execOp (frm (l.take n) u 0 a0).eval o).run P w)
    else I (fun j => if j = i then true else L j) (fun j => if j = i then undef else u j) w

theorem cstep_run {I : (Nat → Bool) → (Nat → Value) → World → Prop} {i : Nat} {o : Oper} (h : ∀ (L : Nat → Bool) (u : Nat → Value) (w : World), L i = false → (∀ j, j < n → waits l.toArray i j = true → L j = true) → I L u w →
    Region.wanted o (yielded l.toArray (frm (l.take n) u 0 a0).tmps) = true ∧ ∃ v w', (execOp (frm (l.take n) u 0 a0).eval o).run P w = .ok (.value v) w' ∧ I (fun j => if j = i then true else L j) (fun j => if j = i then v else u j) w') : CStep P l n a0 I i o := by
  intro L u w hl hw hI
  obtain ⟨h1, v, w', h2, h3⟩ := h L u w hl hw hI
  rw [if_pos h1, h2]
  exact h3

/-- The one operation among those that writes a slot. -/
def dstOnly (l : List Oper) (t j : Nat) : Bool := (match l[j]? with
    | some o => o.dst == some t
    | none => false) && (List.range l.length).all fun i => i == j || match l[i]? with
    | some p => p.dst != some t
    | none => true
def dstNone (l : List Oper) (t : Nat) : Bool := l.all fun p => p.dst != some t
theorem ev_mine {u : Nat → Value} {a0 : Act} {l : List Oper} {t j : Nat} (h : dstOnly l t j = true) (ht : t < a0.tmps.size) : (frm l u 0 a0).eval (.tmp t) = u j := by
  unfold dstOnly at h
  rw [Bool.and_eq_true] at h
  obtain ⟨h1, h2⟩ := h
  cases hj : l[j]? with
  | none => rw [hj] at h1; cases h1
  | some o =>
    rw [hj] at h1
    have := (frm_spec u l 0 a0).2.2.2 j o t hj (beq_iff_eq.1 h1) (fun i p hi hne => by
      rw [List.all_eq_true] at h2
      have hlt : i < l.length := (List.getElem?_eq_some_iff.1 hi).1
      have := h2 i (List.mem_range.2 hlt)
      rw [hi] at this
      simp only [Bool.or_eq_true, beq_iff_eq, bne_iff_ne] at this
      rcases this with e | e
      · exact absurd e hne
      · exact e) ht
    rw [Nat.zero_add] at this
    show (frm l u 0 a0).tmps.getD t undef = u j
    rw [Array.getD_eq_getD_getElem?, this]
    rfl
theorem ev_rest {u : Nat → Value} {a0 : Act} {l : List Oper} {t : Nat} (h : dstNone l t = true) : (frm l u 0 a0).eval (.tmp t) = a0.eval (.tmp t) := by
  have := (frm_spec u l 0 a0).2.2.1 t (fun j o hj e => by
    unfold dstNone at h
    rw [List.all_eq_true] at h
    have h2 := h o (List.mem_of_getElem? hj)
    rw [e] at h2
    simp at h2)
  show (frm l u 0 a0).tmps.getD t undef = a0.tmps.getD t undef
  rw [Array.getD_eq_getD_getElem?, Array.getD_eq_getD_getElem?, this]
/-- So asked, with nothing known of the frame but what each operand reads as. -/
theorem cstep_ev {I : (Nat → Bool) → (Nat → Value) → World → Prop} {i : Nat} {o : Oper} (hg : o.guard = none)
    (h : ∀ (E : Operand → Value) (L : Nat → Bool) (u : Nat → Value) (w : World), (∀ t j, dstOnly (l.take n) t j = true → t < a0.tmps.size → E (.tmp t) = u j) → (∀ t, dstNone (l.take n) t = true → E (.tmp t) = a0.eval (.tmp t)) → (∀ v, E (.const v) = v) →
      L i = false → (∀ j, j < n → waits l.toArray i j = true → L j = true) → I L u w → gives P (fun v w' => I (fun j => if j = i then true else L j) (fun j => if j = i then v else u j) w') ((execOp E o).run P w)) : CStep P l n a0 I i o := by
  intro L u w hl hw hI
  rw [if_pos (by unfold Region.wanted; rw [hg])]
  exact h _ L u w (fun t j hd ht => ev_mine hd ht) (fun t hd => ev_rest hd) (fun _ => rfl) hl hw hI
theorem prefix_inv {Q : Exit → Act → World → Prop} {I : (Nat → Bool) → (Nat → Value) → World → Prop} (hn : n ≤ l.length) (hok : JOk l n [])
    (hstep : ∀ (i : Nat) (o : Oper), i < n → l[i]? = some o → CStep P l n a0 I i o)
    (htail : ∀ (L : Nat → Bool) (u : Nat → Value) (w : World), (∀ j, j < n → L j = true) → I L u w → wpList P l.toArray Q (l.drop n) (frm (l.take n) u 0 a0) w) :
    ∀ (m fuel : Nat) (u : Nat → Value) (listed : Array Bool) (a : Act) (w : World), left n listed ≤ m → m + (l.length - n) ≤ fuel → JTriv l n a0 w0 u listed a → I (fun j => listed.getD j false) u w → wpAny P .any l.toArray Q fuel listed a w := by
  have ending : ∀ (fuel : Nat) (u : Nat → Value) (listed : Array Bool) (a : Act) (w : World), (l.length - n) ≤ fuel → JTriv l n a0 w0 u listed a → I (fun j => listed.getD j false) u w → (∀ j, j < n → listed.getD j false = true) → wpAny P .any l.toArray Q fuel listed a w := by
    intro fuel u listed a w hf hI hinv hall
    have ha := hI.whole hok hn hall
    refine tail_any (n := n) hok.back (fun i h1 h2 j h3 h4 => hok.tail i h1 h2 j h4 (by simp)) fuel n listed a w (Nat.le_refl _) hn (by omega) hI.shut (fun j hj => ?_) ?_
    · by_cases h : j < n
      · rw [hall j h]; simp [h]
      · rw [hI.notail j (by omega) hj]; simp [h]
    · rw [ha]
      exact htail _ u w hall hinv
  intro m
  induction m with
  | zero =>
    intro fuel u listed a w hm hf hI hinv
    refine ending fuel u listed a w (by omega) hI hinv (fun j hj => ?_)
    cases h : listed.getD j false with
    | true => rfl
    | false =>
      exfalso
      have hmem : j ∈ (List.range n).filter fun j => !listed.getD j false := by simp [List.mem_filter, hj]; simpa using h
      have : (List.range n).filter (fun j => !listed.getD j false) = [] := List.length_eq_zero_iff.1 (by unfold left at hm; omega)
      rw [this] at hmem; cases hmem
  | succ m ih =>
    intro fuel u listed a w hm hf hI hinv
    have hlt : ∀ j, j < n → j < listed.size := fun j hj => by rw [hI.shut.size]; simp; omega
    by_cases hall : ∀ j, j < n → listed.getD j false = true
    · exact ending fuel u listed a w (by omega) hI hinv hall
    obtain ⟨fuel, rfl⟩ : ∃ f, fuel = f + 1 := ⟨fuel - 1, by omega⟩
    have hex : ∃ j, j < n ∧ listed.getD j false = false ∧ ∀ k, k < j → listed.getD k false = true := by
      apply Classical.byContradiction
      intro hno
      refine hall fun j => ?_
      induction j using Nat.strongRecOn with
      | ind j ihj =>
        intro hj
        cases h : listed.getD j false with
        | true => rfl
        | false => exact absurd ⟨j, hj, h, fun k hk => ihj k hk (by omega)⟩ hno
    obtain ⟨j0, hj0, hj0l, hj0k⟩ := hex
    have hj0o : l[j0]? = some (l[j0]'(by omega)) := List.getElem?_eq_getElem (by omega)
    have hd0 : ∀ e ∈ (l[j0]'(by omega)).after, Region.binds .any e = true → listed.getD e.on false = true := fun e he hb => hj0k _ (hok.back j0 _ hj0o e he hb)
    have hr0 : j0 ∈ Region.ready .any l.toArray listed := mem_ready.2 ⟨by rw [getD_flip (hlt j0 hj0) true false]; exact hj0l, _, by rw [List.getElem?_toArray]; exact hj0o, hd0⟩
    refine ⟨fun h0 => (by rw [h0] at hr0; cases hr0), fun i hi => ?_⟩
    obtain ⟨hun, o, ho, hd⟩ := mem_ready.1 hi
    have hil : i < l.length := by
      rcases Nat.lt_or_ge i l.length with h | h
      · exact h
      · simp [List.getElem?_eq_none h] at ho
    have hol : l[i]? = some o := by simpa using ho
    have hun' : listed.getD i false = false := by rw [← getD_flip (by rw [hI.shut.size]; simp; exact hil) true false]; exact hun
    have hin : i < n := by
      rcases Nat.lt_or_ge i n with h | h
      · exact h
      · exfalso
        exact hall fun j hj => coverX_listed hI.shut i j o ho hd (hok.tail i h hil j (by omega) (by simp))
    have hlook := look_same hn hok hI hin hol hd
    have hs := hstep i o hin hol (fun j => listed.getD j false) u w hun' (fun j hj hw => waits_listed ho hd hw) hinv
    have hsel := fun cs b => Region.noSelect_spec hok.sel i o cs b ho
    have hset : (fun j => (listed.setIfInBounds i true).getD j false) = fun j => if j = i then true else listed.getD j false := by
      funext j
      by_cases h : j = i
      · subst h
        have := hlt j hin
        simp [this]
      · rw [if_neg h, getD_set_ne false (Ne.symm h)]
    unfold wpOp
    simp only [ho]
    rw [wanted_same hlook]
    have go : ∀ v w', I (fun j => if j = i then true else listed.getD j false) (fun j => if j = i then v else u j) w' →
        wpAny P .any l.toArray Q fuel (listed.setIfInBounds i true) (a.put o.dst v) w' := fun v w' h =>
      ih fuel _ _ _ _ (by have := left_set hin (hlt i hin) hun'; omega) (by omega) (hI.next hok (fun _ _ _ _ _ _ => trivial) hin hn hol hun' hd (Below.refl _ _) trivial (fun h => by cases h)) (by rw [hset]; exact h)
    split
    · rename_i hwant
      rw [if_pos hwant] at hs
      refine .inl ?_
      unfold Oper.wp
      rw [exec_same hsel hlook]
      exact upon_of_gives hs fun v w' h => go v w' h
    · rename_i hwant
      rw [if_neg hwant] at hs
      exact go undef w hs

/-- A REGION THAT DRAWS ITS ORDER, BY AN INVARIANT OF WHAT HAS RUN: the first n operations in whatever order; then the tail. -/
theorem wp_region_C {id : Nat} {Q : Exit → Act → World → Prop} (n : Nat) (I : (Nat → Bool) → (Nat → Value) → World → Prop) (hm : P.follows .mixedOrders = true) (hn : n ≤ l.length) (hok : jOk l n [] = true)
    (hstart : I (fun _ => false) (fun _ => undef) w0.drew)
    (hstep : ∀ (i : Nat) (o : Oper), i < n → l[i]? = some o → CStep P l n a0 I i o)
    (htail : ∀ (L : Nat → Bool) (u : Nat → Value) (w : World), (∀ j, j < n → L j = true) → I L u w → wpList P l.toArray Q (l.drop n) (frm (l.take n) u 0 a0) w) :
    (Code.region id l.toArray true).wp P Q a0 w0 := by
  have hok' := jOk_spec hok
  refine wp_region_any hm ?_
  have hun : ∀ j, (Array.replicate l.toArray.size false).getD j false = false := fun j => by
    simp only [Array.getD_eq_getD_getElem?, Array.getElem?_replicate]; split <;> rfl
  refine prefix_inv (w0 := w0) hn hok' hstep htail n l.toArray.size (fun _ => undef) _ a0 _ ?_ (by simp; omega) ?_ ?_
  · unfold left
    exact Nat.le_trans (List.length_filter_le _ _) (by simp)
  · have no : ∀ (j : Nat) (q : Prop), (Array.replicate l.toArray.size false).getD j false = true → q := fun j q h => by rw [hun] at h; cases h
    exact {
      shut := ⟨by simp, fun i o _ h => no i _ h⟩
      notail := fun j _ _ => hun j
      size := rfl
      defers := rfl
      mine := fun j o t _ _ h => no j _ h
      rest := fun _ _ => rfl
      past := Below.refl _ _
      facts := fun j _ h => no j _ h
      fresh := fun j _ h => no j _ h
      apart := fun i j _ _ _ h => no i _ h }
  · have : (fun j => (Array.replicate l.toArray.size false).getD j false) = fun _ => false := funext hun
    rw [this]
    exact hstart
end
end Go.Proofs.YtioalnncjahlnaaGreatDoor

namespace Go.Proofs.YtioalnncjahlnaaGreatDoor
open Go.ChangeShapes Go.WideShapes Go.ChangeAt Go.RowKit

abbrev upB (L : Nat → Bool) (i : Nat) : Nat → Bool := fun j => if j = i then true else L j
abbrev upV (u : Nat → Value) (i : Nat) (v : Value) : Nat → Value := fun j => if j = i then v else u j
/-- What holds while the operations run: the fixed values; the row, as far as it has got. -/
structure ApI (tp : TypeId) (sz : Nat) (W0 : World) (D : Nat → Option Value) (pB p1 p2 k n m : Nat) (cX c1 c2 : List Value) (L : Nat → Bool) (u : Nat → Value) (w : World) : Prop where
  bel : Below W0.heap.size W0 w
  det : ∀ j v, D j = some v → L j = true → u j = v
  o1 : L p1 = true → L pB = true
  o2 : L p2 = true → L p1 = true
  rB : L pB = true → L p1 = false → w.ownsRow W0.heap.size tp sz (u pB) k cX
  r1 : L p1 = true → L p2 = false → w.ownsRow W0.heap.size tp sz (u p1) (k + n) (cX ++ c1)
  r2 : L p2 = true → w.ownsRow W0.heap.size tp sz (u p2) (k + n + m) (cX ++ c1 ++ c2)
/-- The three places are apart, and none has a fixed value. -/
def ApOk (D : Nat → Option Value) (pB p1 p2 : Nat) : Prop := (pB ≠ p1 ∧ pB ≠ p2 ∧ p1 ≠ p2) ∧ D pB = none ∧ D p1 = none ∧ D p2 = none
section
variable {tp : TypeId} {sz : Nat} {W0 : World} {D : Nat → Option Value} {pB p1 p2 k n m : Nat} {cX c1 c2 : List Value} {L : Nat → Bool} {u : Nat → Value} {w w' : World}
theorem apI_start (hb : Below W0.heap.size W0 w) : ApI tp sz W0 D pB p1 p2 k n m cX c1 c2 (fun _ => false) (fun _ => undef) w :=
  ⟨hb, fun j v _ h => (by cases h), fun h => (by cases h), fun h => (by cases h), fun h => (by cases h), fun h => (by cases h), fun h => (by cases h)⟩
theorem ApI.ndet (h : ApI tp sz W0 D pB p1 p2 k n m cX c1 c2 L u w) (hk : ApOk D pB p1 p2) {i : Nat} {v : Value} (hd : D i = some v) (hb : Below w.heap.size w w') : ApI tp sz W0 D pB p1 p2 k n m cX c1 c2 (upB L i) (upV u i v) w' := by
  have iB : pB ≠ i := fun e => by rw [← e, hk.2.1] at hd; cases hd
  have i1 : p1 ≠ i := fun e => by rw [← e, hk.2.2.1] at hd; cases hd
  have i2 : p2 ≠ i := fun e => by rw [← e, hk.2.2.2] at hd; cases hd
  refine ⟨h.bel.trans (hb.mono h.bel.size), fun j x hx hj => ?_, ?_, ?_, ?_, ?_, ?_⟩
  · by_cases c : j = i
    · subst c
      rw [hd] at hx; cases hx
      simp [upV]
    · simp only [upB, upV, if_neg c] at hj ⊢; exact h.det j x hx hj
  · simp only [upB, if_neg i1, if_neg iB]; exact h.o1
  · simp only [upB, if_neg i1, if_neg i2]; exact h.o2
  · simp only [upB, upV, if_neg i1, if_neg iB]; exact fun a b => own_below (h.rB a b) hb
  · simp only [upB, upV, if_neg i1, if_neg i2]; exact fun a b => own_below (h.r1 a b) hb
  · simp only [upB, upV, if_neg i2]; exact fun a => own_below (h.r2 a) hb
theorem ApI.nbuild (h : ApI tp sz W0 D pB p1 p2 k n m cX c1 c2 L u w) (hk : ApOk D pB p1 p2) (hl : L pB = false) {v : Value} (ho : w'.ownsRow W0.heap.size tp sz v k cX) (hb : Below w.heap.size w w') : ApI tp sz W0 D pB p1 p2 k n m cX c1 c2 (upB L pB) (upV u pB v) w' := by
  obtain ⟨⟨a1, a2, a3⟩, b1, b2, b3⟩ := hk
  have l1 : L p1 = false := by
    cases e : L p1 with
    | false => rfl
    | true => rw [h.o1 e] at hl; cases hl
  have l2 : L p2 = false := by
    cases e : L p2 with
    | false => rfl
    | true => rw [h.o2 e] at l1; cases l1
  refine ⟨h.bel.trans (hb.mono h.bel.size), fun j x hx hj => ?_, ?_, ?_, ?_, ?_, ?_⟩
  · by_cases c : j = pB
    · subst c; rw [b1] at hx; cases hx
    · simp only [upB, upV, if_neg c] at hj ⊢; exact h.det j x hx hj
  · simp [upB]
  · simp only [upB, if_neg (Ne.symm a2), if_neg (Ne.symm a1), l2]; exact fun e => by cases e
  · intro _ _; simpa [upV] using ho
  · simp only [upB, if_neg (Ne.symm a1), l1]; exact fun e => by cases e
  · simp only [upB, if_neg (Ne.symm a2), l2]; exact fun e => by cases e
theorem ApI.napp1 (h : ApI tp sz W0 D pB p1 p2 k n m cX c1 c2 L u w) (hk : ApOk D pB p1 p2) (hl : L p1 = false) (hB : L pB = true) {v : Value} (ho : w'.ownsRow W0.heap.size tp sz v (k + n) (cX ++ c1)) (hg : w.grownBy w' (u pB).ownBlock) : ApI tp sz W0 D pB p1 p2 k n m cX c1 c2 (upB L p1) (upV u p1 v) w' := by
  obtain ⟨⟨a1, a2, a3⟩, b1, b2, b3⟩ := hk
  have l2 : L p2 = false := by
    cases e : L p2 with
    | false => rfl
    | true => rw [h.o2 e] at hl; cases hl
  have hrow := h.rB hB hl
  refine ⟨Below.grown h.bel hg h.bel.size (fun j e => own_block hrow e), fun j x hx hj => ?_, ?_, ?_, ?_, ?_, ?_⟩
  · by_cases c : j = p1
    · subst c; rw [b2] at hx; cases hx
    · simp only [upB, upV, if_neg c] at hj ⊢; exact h.det j x hx hj
  · simp [upB, hB]
  · simp [upB]
  · simp [upB]
  · intro _ _; simpa [upV] using ho
  · simp only [upB, if_neg (Ne.symm a3), l2]; exact fun e => by cases e
theorem ApI.napp2 (h : ApI tp sz W0 D pB p1 p2 k n m cX c1 c2 L u w) (hk : ApOk D pB p1 p2) (hl : L p2 = false) (h1 : L p1 = true) {v : Value} (ho : w'.ownsRow W0.heap.size tp sz v (k + n + m) (cX ++ c1 ++ c2)) (hg : w.grownBy w' (u p1).ownBlock) : ApI tp sz W0 D pB p1 p2 k n m cX c1 c2 (upB L p2) (upV u p2 v) w' := by
  obtain ⟨⟨a1, a2, a3⟩, b1, b2, b3⟩ := hk
  have hrow := h.r1 h1 hl
  refine ⟨Below.grown h.bel hg h.bel.size (fun j e => own_block hrow e), fun j x hx hj => ?_, ?_, ?_, ?_, ?_, ?_⟩
  · by_cases c : j = p2
    · subst c; rw [b3] at hx; cases hx
    · simp only [upB, upV, if_neg c] at hj ⊢; exact h.det j x hx hj
  · simp only [upB, if_neg a2, if_neg a3]; exact h.o1
  · simp [upB, h1]
  · simp only [upB, if_neg a3, h1]; exact fun _ e => by cases e
  · simp [upB]
  · intro _; simpa [upV] using ho
end
theorem cstep_evF {P : Program} {l : List Oper} {n : Nat} {a0 : Act} {I : (Nat → Bool) → (Nat → Value) → World → Prop} {i : Nat} {o : Oper} (hg : o.guard = none)
    (h : ∀ (E : Operand → Value) (L : Nat → Bool) (u : Nat → Value) (w : World), (∀ t j, dstOnly (l.take n) t j = true → t < a0.tmps.size → E (.tmp t) = u j) → (∀ t, dstNone (l.take n) t = true → E (.tmp t) = a0.eval (.tmp t)) → (∀ v, E (.const v) = v) → (∀ f, E (.func f) = .func (.func f) #[] #[]) →
      L i = false → (∀ j, j < n → waits l.toArray i j = true → L j = true) → I L u w → gives P (fun v w' => I (fun j => if j = i then true else L j) (fun j => if j = i then v else u j) w') ((execOp E o).run P w)) : CStep P l n a0 I i o := by
  intro L u w hl hw hI
  rw [if_pos (by unfold Region.wanted; rw [hg])]
  exact h _ L u w (fun t j hd ht => ev_mine hd ht) (fun t hd => ev_rest hd) (fun _ => rfl) (fun _ => rfl) hl hw hI
/-- The same with one row alone. -/
def Ap1 (tp : TypeId) (sz : Nat) (W0 : World) (D : Nat → Option Value) (pB p1 k n : Nat) (cX c1 : List Value) (L : Nat → Bool) (u : Nat → Value) (w : World) : Prop := ApI tp sz W0 D pB p1 999 k n 0 cX c1 [] L u w ∧ L 999 = false
section
variable {tp : TypeId} {sz : Nat} {W0 : World} {D : Nat → Option Value} {pB p1 k n : Nat} {cX c1 : List Value} {L : Nat → Bool} {u : Nat → Value} {w w' : World}
theorem ap1_start (hb : Below W0.heap.size W0 w) : Ap1 tp sz W0 D pB p1 k n cX c1 (fun _ => false) (fun _ => undef) w := ⟨apI_start hb, rfl⟩
theorem Ap1.bel (h : Ap1 tp sz W0 D pB p1 k n cX c1 L u w) : Below W0.heap.size W0 w := h.1.bel
theorem Ap1.det (h : Ap1 tp sz W0 D pB p1 k n cX c1 L u w) : ∀ j v, D j = some v → L j = true → u j = v := h.1.det
theorem Ap1.rB (h : Ap1 tp sz W0 D pB p1 k n cX c1 L u w) : L pB = true → L p1 = false → w.ownsRow W0.heap.size tp sz (u pB) k cX := h.1.rB
theorem Ap1.r1 (h : Ap1 tp sz W0 D pB p1 k n cX c1 L u w) (h1 : L p1 = true) : w.ownsRow W0.heap.size tp sz (u p1) (k + n) (cX ++ c1) := h.1.r1 h1 h.2
theorem Ap1.ndet (h : Ap1 tp sz W0 D pB p1 k n cX c1 L u w) (hk : ApOk D pB p1 999) {i : Nat} {v : Value} (hd : D i = some v) (hb : Below w.heap.size w w') : Ap1 tp sz W0 D pB p1 k n cX c1 (upB L i) (upV u i v) w' :=
  ⟨h.1.ndet hk hd hb, by
    have : ¬ 999 = i := fun e => by rw [← e, hk.2.2.2] at hd; cases hd
    simp only [upB, if_neg this]; exact h.2⟩
theorem Ap1.nbuild (h : Ap1 tp sz W0 D pB p1 k n cX c1 L u w) (hk : ApOk D pB p1 999) (hl : L pB = false) {v : Value} (ho : w'.ownsRow W0.heap.size tp sz v k cX) (hb : Below w.heap.size w w') : Ap1 tp sz W0 D pB p1 k n cX c1 (upB L pB) (upV u pB v) w' :=
  ⟨h.1.nbuild hk hl ho hb, by simp only [upB, if_neg (Ne.symm hk.1.2.1)]; exact h.2⟩
theorem Ap1.napp1 (h : Ap1 tp sz W0 D pB p1 k n cX c1 L u w) (hk : ApOk D pB p1 999) (hl : L p1 = false) (hB : L pB = true) {v : Value} (ho : w'.ownsRow W0.heap.size tp sz v (k + n) (cX ++ c1)) (hg : w.grownBy w' (u pB).ownBlock) : Ap1 tp sz W0 D pB p1 k n cX c1 (upB L p1) (upV u p1 v) w' :=
  ⟨h.1.napp1 hk hl hB ho hg, by simp only [upB, if_neg (Ne.symm hk.1.2.2)]; exact h.2⟩
end
/-- An append to a row that is owned, of a slice whose cells are known, asked as wp_region_C asks it. -/
theorem gives_appV {P : Program} {o : Oper} {E : Operand → Value} {w : World} {G : Value → World → Prop} (s x : Operand) (t : TypeId)
    (hop : o.op = Op.call { callee := Callee.builtin Builtin.append, args := #[s, x], argTypes := #[t, t] })
    (base : Nat) (e : TypeId) (i : TypeInfo) (z : Value) (sz by' : Nat) (ht : P.underlying t = some (.slice e)) (hi : P.info? e = some i) (hz : i.zero = some z) (hsize : i.size = sz) (hby : i.bytes = by') (hzs : z.cells.size = sz) (hs0 : 0 < sz)
    (n : Nat) (xs : List Value) (hown : w.ownsRow base e sz (E s) n xs)
    (m : Nat) (ys : List Value) (hsrc : SrcV w sz (E x) m ys)
    (h63 : n + m ≤ 1099511627776) (hb' : by' ≤ 100) (hbase : base ≤ w.heap.size)
    (h : ∀ v' w', w'.ownsRow base e sz v' (n + m) (xs ++ ys) → w.grownBy w' (E s).ownBlock → G v' w') : gives P G ((execOp E o).run P w) := by
  obtain ⟨a, cap, hx, h0, hl, h1, hc⟩ := hsrc
  cases a with
  | none =>
    obtain ⟨rfl, rfl⟩ := h0 rfl
    have hy : ys = [] := List.eq_nil_of_length_eq_zero (by omega)
    subst hy
    have hrun := run_append_owned_none (P := P) (w := w) base t o.type e i sz ht hi (E s) n xs hown
    have hK := h (E s) w (by simpa using hown) ⟨rfl, rfl, rfl, Nat.le_refl _, fun _ _ _ => rfl⟩
    unfold execOp
    simp [hop, resolve, invoke, builtin, hx, hrun, Result.andThen, gives]
    exact hK
  | some ad =>
    have hbb : (n + m) * by' ≤ (n + m) * 100 := Nat.mul_le_mul_left _ hb'
    obtain ⟨v', w', hr, h2, h3, h4⟩ := run_append_own (P := P) w base t o.type e i z sz by' ht hi hz hsize hby hzs hs0 (E s) n xs hown ad m cap ys hl (hc ad rfl) h1 (by unfold maxLen; omega) (by omega) hbase
    unfold execOp
    simp only [hop, resolve, invoke, builtin, Sem.run_bind, Sem.run_pure, Result.andThen_ok, List.map_toArray, List.map_cons, List.map_nil, hx, hr]
    exact h v' w' h2 h3
theorem gives_ok {P : Program} {G : Value → World → Prop} {r : Result Next} {v : Value} {w' : World} (h : r = .ok (.value v) w') (hG : G v w') : gives P G r := by rw [h]; exact hG
theorem gives_call {P : Program} {G : Value → World → Prop} {r : Result Next} {f : Nat} {args : Array Value} {w' : World} {C : Ending → World → Prop} (h : r = .ok (.enter f args) w') (hc : Calls P f args w' C) (hG : ∀ e w2, C e w2 → ∃ v, e = .returned v ∧ G v w2) : gives P G r := by
  rw [h]; exact hc.mono fun e w2 q => hG e w2 q
end Go.Proofs.YtioalnncjahlnaaGreatDoor

namespace Go.Proofs.YtioalnncjahlnaaGreatDoor
open Go.ChangeShapes Go.WideShapes Go.ChangeAt Go.RowKit
attribute [local irreducible] Go.Calls

set_option maxRecDepth 100000 in
set_option maxHeartbeats 4000000 in
theorem rreadL_c (l : List Prt) (a : Option Addr) (cap : Nat) (hl : l.length ≤ 9223372036854775807) : ∀ (m p deep ink : Nat) (w : World), l.length + 1 - p ≤ m → ArgP w a l → deep ≤ 1000000000 → p ≤ 1000000000 →
    Calls Tryz.prog 43 #[.slice a l.length cap, .int .i64 p, .int .i64 deep, .int .u8 ink] w fun e w' => e = .returned (I3 (rdT (rdS (l.length + 1) l p deep ink 1))) ∧ Below w.heap.size w w' := by
  intro m
  induction m with
  | zero =>
    intro p deep ink w hm hA hd hp
    have HE := hidE (rd_stop (stop_out (deep := deep) (ink := ink) (show l.length ≤ p by omega)))
    rw [HE.out]
    have q1 : decide ((p : Int) ≥ (l.length : Int)) = true := decide_eq_true (by omega)
    have q2 : decide (l.length ≤ p) = true := decide_eq_true (by omega)
    clear HE
    go_enter Tryz.func43, Tryz.ntmps43
    go_wp2
    refine bodyPost_ret (v := .tuple #[.int .i64 0, .int .i64 p, .int .i64 81]) (by simp [results, Tryz.results43, go_sem]) rfl ⟨rfl, Below.refl _ _⟩
  | succ m ih =>
    intro p deep ink w hm hA hd hp
    by_cases hlt : p < l.length
    · obtain ⟨b, off, rfl, hbb, hc⟩ := hA (by omega)
      obtain ⟨c0, c1, c2, c3, c4⟩ := hc.get hlt
      have q1 : decide ((p : Int) ≥ (l.length : Int)) = false := decide_eq_false (by omega)
      have q2 : decide (l.length ≤ p) = false := decide_eq_false (by omega)
      have HBAD := hidE (fun w => rbad_c (l.getD p ⟨0, 0, 0, 0, 0⟩) w)
      have HC := hidE hc
      have hHd := hd
      have HPR := hidE (show l.getD p pr0 = l.getD p ⟨0, 0, 0, 0, 0⟩ from rfl)
      rw [HPR.out] at c0 c1 c2 c3 c4
      by_cases h64 : 64 ≤ p
      · have HE := hidE (rd_stop (stop_shape (deep := deep) (ink := ink) hlt (.inl h64)))
        rw [HE.out]
        have q3 : decide ((p : Int) ≥ 64) = true := decide_eq_true (by omega)
        have q4 : decide (64 ≤ p) = true := decide_eq_true h64
        clear HE hc c0 c1 c2 c3 c4 ih
        go_enter Tryz.func43, Tryz.ntmps43
        go_wp2
        refine bodyPost_ret (v := .tuple #[.int .i64 0, .int .i64 p, .int .i64 81]) (by simp [results, Tryz.results43, go_sem]) rfl ⟨rfl, Below.refl _ _⟩
      · have q3 : decide ((p : Int) ≥ 64) = false := decide_eq_false (by omega)
        have q4 : decide (64 ≤ p) = false := decide_eq_false h64
        cases hbad : badP (l.getD p ⟨0, 0, 0, 0, 0⟩)
        · rw [hbad] at HBAD
          by_cases hin : ink = 2 ∧ (l.getD p ⟨0, 0, 0, 0, 0⟩).kind ≠ 0
          · have HE := hidE (rd_stop (stop_shape (deep := deep) (ink := ink) hlt (.inr (.inr hin))))
            rw [HE.out]
            have i1 : ((ink : Int) == 2) = true := by simp [hin.1]
            have i2 : (((l.getD p ⟨0, 0, 0, 0, 0⟩).kind : Int) != 0) = true := bne_iff_ne.2 (by have := hin.2; omega)
            clear HE hc ih hbad HPR hin
            generalize (l.getD p ⟨0, 0, 0, 0, 0⟩) = x at *
            obtain ⟨kd, n, g, d, ks⟩ := x
            simp only at c0 c1 c2 c3 c4 i2
            go_enter Tryz.func43, Tryz.ntmps43
            go_wp2_with (go_at_call 64; (with_reducible refine (HBAD.out _).mono ?_); rintro e w1 ⟨rfl, hb1⟩; have c5 := (hb1.cell (p := ⟨b, off + p * 5, none⟩) hbb).trans c0)
            refine bodyPost_ret (v := .tuple #[.int .i64 0, .int .i64 p, .int .i64 81]) (by simp [results, Tryz.results43, go_sem]) rfl ⟨rfl, hb1⟩
          · have hst := stop_deep (deep := deep) (ink := ink) hlt (fun h => by
              rcases h with h | h | h
              · exact h64 h
              · rw [hbad] at h; cases h
              · exact hin h)
            have hin2 : ((ink : Int) == 2) = false ∨ (((ink : Int) == 2) = true ∧ (((l.getD p ⟨0, 0, 0, 0, 0⟩).kind : Int) != 0) = false) := by
              by_cases c : ink = 2
              · refine .inr ⟨by simp [c], ?_⟩
                have : (l.getD p ⟨0, 0, 0, 0, 0⟩).kind = 0 := by
                  by_cases c2 : (l.getD p ⟨0, 0, 0, 0, 0⟩).kind = 0
                  · exact c2
                  · exact absurd ⟨c, c2⟩ hin
                rw [this]; rfl
              · exact .inl (by simp; omega)
            by_cases h8 : 8 < deep
            · rw [if_pos h8] at hst
              have HE := hidE (rd_stop hst)
              rw [HE.out]
              have d1 : decide ((deep : Int) > 8) = true := decide_eq_true (by omega)
              have d2 : decide (8 < deep) = true := decide_eq_true h8
              clear HE hc ih hbad HPR hin hst
              generalize (l.getD p ⟨0, 0, 0, 0, 0⟩) = x at *
              obtain ⟨kd, n, g, d, ks⟩ := x
              simp only at c0 c1 c2 c3 c4 hin2
              rcases hin2 with i1 | ⟨i1, i2⟩
              all_goals
                go_enter Tryz.func43, Tryz.ntmps43
                go_wp2_with (go_at_call 64; (with_reducible refine (HBAD.out _).mono ?_); rintro e w1 ⟨rfl, hb1⟩; have c5 := (hb1.cell (p := ⟨b, off + p * 5, none⟩) hbb).trans c0)
                refine bodyPost_ret (v := .tuple #[.int .i64 0, .int .i64 p, .int .i64 80]) (by simp [results, Tryz.results43, go_sem]) rfl ⟨rfl, hb1⟩
            · rw [if_neg h8] at hst
              have HOP := hidE (rd_open hst)
              have hks := bad_kids hbad
              have d1 : decide ((deep : Int) > 8) = false := decide_eq_false (by omega)
              have d2 : decide (8 < deep) = false := decide_eq_false h8
              have w1 : IntKind.i64.wrap ((p : Int) + 1) = (p : Int) + 1 := IntWalk.i64_in _ (by omega)
              have w2 : IntKind.i64.wrap ((deep : Int) + 1) = (deep : Int) + 1 := IntWalk.i64_in _ (by omega)
              clear hbad HPR hin hst hA
              generalize (l.getD p ⟨0, 0, 0, 0, 0⟩) = x at *
              obtain ⟨kd, n, g, d, ks⟩ := x
              simp only at c0 c1 c2 c3 c4 hin2 hks HOP
              obtain ⟨K, rfl⟩ : ∃ K : Nat, ks = (K : Int) := ⟨ks.toNat, by omega⟩
              rw [Int.toNat_natCast] at HOP
              have HA := hidE (show ArgP w (some ⟨b, off, none⟩) l from fun _ => ⟨b, off, rfl, hbb, HC.out⟩)
              have HI := hidE ih
              have HM := hidE (And.intro hm hHd)
              clear ih hc hm hHd hd
              rcases hin2 with i1 | ⟨i1, i2⟩
              all_goals
                go_enter Tryz.func43, Tryz.ntmps43
                go_wp2_with (go_at_call 64; (with_reducible refine (HBAD.out _).mono ?_); rintro e w1 ⟨rfl, hb1⟩; have c5 := (hb1.cell (p := ⟨b, off + p * 5, none⟩) hbb).trans c0)
                go_loopg [11, 12] K (fun gh v11 v12 wr => ∃ k q : Nat, k ≤ K ∧ K - k ≤ gh ∧ v12 = .int .i64 k ∧ v11 = .int .i64 q ∧ p < q ∧ (q ≤ l.length ∧ q ≤ 64) ∧ rdS (l.length + 1) l q (deep + 1) kd (K - k) = rdS (l.length + 1) l (p + 1) (deep + 1) kd K ∧ Below w.heap.size w wr)
                case atStart => exact ⟨0, p + 1, Nat.zero_le _, Nat.le_refl _, rfl, by simp, by omega, ⟨by omega, by omega⟩, rfl, hb1⟩
                case round =>
                  obtain ⟨k, q, hkk, hgh, rfl, rfl, hq1, ⟨hq2, hq3⟩, hR, hb⟩ := hrel
                  have HB := hidE hb; have HR := hidE hR; have HG := hidE hgh
                  have f0 := (hb.cell (p := ⟨b, off + p * 5, none⟩) hbb).trans c0
                  have f4 := (hb.cell (p := ⟨b, off + p * 5 + 4, none⟩) hbb).trans c4
                  have fz := Nat.lt_of_lt_of_le hbb hb.size
                  clear hb hR hgh c5 hb1 c1 c2 c3
                  by_cases hk : k < K
                  · have r1 : decide ((k : Int) < (K : Int)) = true := decide_eq_true (by omega)
                    have r2 : decide (k < K) = true := decide_eq_true hk
                    have HCALL := hidE (fun w' (hb' : Below w.heap.size w w') => show Calls Tryz.prog 43 #[.slice (some ⟨b, off, none⟩) l.length cap, .int .i64 q, .int .i64 ((deep : Int) + 1), .int .u8 kd] w' fun e w'' => e = .returned (I3 (rdT (rdS (l.length + 1) l q (deep + 1) kd 1))) ∧ Below w'.heap.size w' w'' from by
                      have := HI.out q (deep + 1) kd w' (by have := HM.out.1; omega) (HA.out.past hb') (by omega) (by omega)
                      rw [show ((deep + 1 : Nat) : Int) = (deep : Int) + 1 by omega] at this
                      exact this)
                    have HONE := hidE (rd_one (m := l.length + 1) (l := l) (p := q) (deep := deep + 1) (ink := kd) (n := K - k - 1) (by omega) (by omega))
                    cases hone : rdS (l.length + 1) l q (deep + 1) kd 1 with
                    | error e =>
                      rw [hone] at HCALL HONE
                      have he : (e.2 == 0) = false ∧ (e.2 != 0) = true := by
                        rcases rd_err _ _ _ _ _ _ _ hone with h | h <;> rw [h] <;> decide
                      obtain ⟨he1, he2⟩ := he
                      have HF := hidE (show rdS (l.length + 1) l p deep ink 1 = .error e by
                        rw [HOP.out, ← HR.out, show K - k = K - k - 1 + 1 by omega, HONE.out])
                      rw [show rdT (.error e) = (0, e.1, e.2) from rfl] at HCALL
                      clear hone
                      obtain ⟨ea, eb⟩ := e
                      simp only at he1 he2
                      go_wp2_with (go_at_call 43; (with_reducible refine (HCALL.out _ HB.out).mono ?_); rintro e w2 ⟨rfl, hb2⟩)
                      refine bodyPost_ret (v := .tuple #[.int .i64 0, .int .i64 ea, .int .i64 eb]) (by simp [results, Tryz.results43, go_sem]) rfl ⟨by rw [HF.out]; rfl, HB.out.trans (hb2.mono HB.out.size)⟩
                    | ok q' =>
                      rw [hone] at HCALL HONE
                      have hgt := rd_gt _ _ _ _ _ _ _ hone
                      have hfn := (rd_fine _ _ _ _ _ _ _ hone (q' - 1) (by omega) (by omega)).2
                      rw [show rdT (.ok q') = (q', 0, 0) from rfl] at HCALL
                      clear hone
                      go_wp2_with (go_at_call 43; (with_reducible refine (HCALL.out _ HB.out).mono ?_); rintro e w2 ⟨rfl, hb2⟩)
                      go_roundg (K - (k + 1))
                      case measure => have := HG.out; omega
                      case rel => exact ⟨k + 1, q', by omega, Nat.le_refl _, by go_num, rfl, by omega, ⟨by omega, by omega⟩, by rw [← HR.out, show K - k = K - k - 1 + 1 by omega, HONE.out]; rfl, HB.out.trans (hb2.mono HB.out.size)⟩
                  · obtain rfl : k = K := by omega
                    have r1 : decide ((k : Int) < (k : Int)) = false := decide_eq_false (by omega)
                    have r2 : decide (k < k) = false := decide_eq_false (by omega)
                    have HF := hidE (show rdS (l.length + 1) l p deep ink 1 = .ok q by rw [HOP.out, ← HR.out, Nat.sub_self, rd_zero])
                    go_wp2
                    refine bodyPost_ret (v := .tuple #[.int .i64 q, .int .i64 0, .int .i64 0]) (by simp [results, Tryz.results43, go_sem]) rfl ⟨by rw [HF.out]; rfl, HB.out⟩
        · have HE := hidE (rd_stop (stop_shape (deep := deep) (ink := ink) hlt (.inr (.inl hbad))))
          rw [HE.out]
          rw [hbad] at HBAD
          clear HE hc ih hbad HPR
          generalize (l.getD p ⟨0, 0, 0, 0, 0⟩) = x at *
          obtain ⟨kd, n, g, d, ks⟩ := x
          simp only at c0 c1 c2 c3 c4
          go_enter Tryz.func43, Tryz.ntmps43
          go_wp2_with (go_at_call 64; (with_reducible refine (HBAD.out _).mono ?_); rintro e w1 ⟨rfl, hb1⟩)
          refine bodyPost_ret (v := .tuple #[.int .i64 0, .int .i64 p, .int .i64 81]) (by simp [results, Tryz.results43, go_sem]) rfl ⟨rfl, hb1⟩
    · have HE := hidE (rd_stop (stop_out (deep := deep) (ink := ink) (show l.length ≤ p by omega)))
      rw [HE.out]
      have q1 : decide ((p : Int) ≥ (l.length : Int)) = true := decide_eq_true (by omega)
      have q2 : decide (l.length ≤ p) = true := decide_eq_true (by omega)
      clear HE ih
      go_enter Tryz.func43, Tryz.ntmps43
      go_wp2
      refine bodyPost_ret (v := .tuple #[.int .i64 0, .int .i64 p, .int .i64 81]) (by simp [results, Tryz.results43, go_sem]) rfl ⟨rfl, Below.refl _ _⟩
theorem rtreeL_c (l : List Prt) (a : Option Addr) (cap : Nat) (w : World) (hl : l.length ≤ 9223372036854775807) (hA : ArgP w a l) :
    Calls Tryz.prog 20 #[.slice a l.length cap] w fun e w' => e = .returned (.tuple #[.int .i64 (treeS l).1, .int .i64 (treeS l).2]) ∧ Below w.heap.size w w' := by
  have HR := hidE (show Calls Tryz.prog 43 #[.slice a l.length cap, .int .i64 0, .int .i64 1, .int .u8 0] w _ from rreadL_c l a cap hl (l.length + 1) 0 1 0 w (by omega) hA (by omega) (by omega))
  have HT := hidE (show treeS l = (match rdS (l.length + 1) l 0 1 0 1 with | .error x => x | .ok e => if e < l.length then (e, 81) else (0, 0)) from rfl)
  cases hrd : rdS (l.length + 1) l 0 1 0 1 with
  | error x =>
    rw [hrd] at HR HT
    have he : (x.2 == 0) = false ∧ (x.2 != 0) = true := by
      rcases rd_err _ _ _ _ _ _ _ hrd with h | h <;> rw [h] <;> decide
    obtain ⟨he1, he2⟩ := he
    obtain ⟨xa, xb⟩ := x
    simp only [rdT] at HR HT he1 he2
    clear hrd hA
    go_enter Tryz.func20, Tryz.ntmps20
    go_wp2_with (go_at_call 43; (with_reducible refine HR.out.mono ?_); rintro e w2 ⟨rfl, hb2⟩)
    go_ret2
    exact ⟨by rw [HT.out]; rfl, hb2⟩
  | ok q =>
    rw [hrd] at HR HT
    simp only [rdT] at HR HT
    by_cases hq : q < l.length
    · rw [if_pos hq] at HT
      have r1 : decide ((q : Int) < (l.length : Int)) = true := decide_eq_true (by omega)
      have r2 : decide (q < l.length) = true := decide_eq_true hq
      clear hrd hA
      go_enter Tryz.func20, Tryz.ntmps20
      go_wp2_with (go_at_call 43; (with_reducible refine HR.out.mono ?_); rintro e w2 ⟨rfl, hb2⟩)
      go_ret2
      exact ⟨by rw [HT.out]; rfl, hb2⟩
    · rw [if_neg hq] at HT
      have r1 : decide ((q : Int) < (l.length : Int)) = false := decide_eq_false (by omega)
      have r2 : decide (q < l.length) = false := decide_eq_false hq
      clear hrd hA
      go_enter Tryz.func20, Tryz.ntmps20
      go_wp2_with (go_at_call 43; (with_reducible refine HR.out.mono ?_); rintro e w2 ⟨rfl, hb2⟩)
      go_ret2
      exact ⟨by rw [HT.out]; rfl, hb2⟩
set_option maxHeartbeats 1000000 in
theorem rchkL_c (fr to' : Int) (l : List Prt) (a : Option Addr) (cap : Nat) (w : World) (hl : l.length ≤ 9223372036854775807) (hA : ArgP w a l) (hf : -9223372036854775808 ≤ fr ∧ fr ≤ 9223372036854775807) (ht : -9223372036854775808 ≤ to' ∧ to' ≤ 9223372036854775807) :
    Calls Tryz.prog 5 #[def8 fr to' a l.length cap] w fun e w' => e = .returned (.tuple #[.int .i64 (chkS fr to' l).1, .int .i64 (chkS fr to' l).2]) ∧ Below w.heap.size w w' := by
  have HR := hidE (fun w hA => rtreeL_c l a cap w hl hA)
  have HC := hidE (show chkS fr to' l = if fr < 0 ∨ to' ≤ fr ∨ 1099511627776 < to' ∨ 4096 < to' - fr then ((-1, 82) : Int × Int) else ((((treeS l).1 : Nat) : Int), (treeS l).2) from rfl)
  have HA := hidE hA
  clear hA
  generalize treeS l = T at *
  by_cases c1 : fr < 0
  · have q1 : decide (fr < 0) = true := decide_eq_true c1
    rw [if_pos (.inl c1)] at HC
    clear c1
    go_enter Tryz.func5, Tryz.ntmps5
    go_wp2
    go_ret2
    exact ⟨by rw [HC.out]; rfl, by (repeat (first | exact Below.refl _ _ | assumption | refine balloc ?_ _ | refine below_drewN ?_ _ | refine bstep (by assumption) ?_ | refine bstep (Past.prop _) ?_ | refine Below.setCell ?_ (by first | exact Nat.le_refl _ | (simp; done) | (simp; omega)) _))⟩
  have q1 : decide (fr < 0) = false := decide_eq_false c1
  by_cases c2 : to' ≤ fr
  · have q2 : decide (to' ≤ fr) = true := decide_eq_true c2
    rw [if_pos (.inr (.inl c2))] at HC
    clear c1 c2
    go_enter Tryz.func5, Tryz.ntmps5
    go_wp2
    go_ret2
    exact ⟨by rw [HC.out]; rfl, by (repeat (first | exact Below.refl _ _ | assumption | refine balloc ?_ _ | refine below_drewN ?_ _ | refine bstep (by assumption) ?_ | refine bstep (Past.prop _) ?_ | refine Below.setCell ?_ (by first | exact Nat.le_refl _ | (simp; done) | (simp; omega)) _))⟩
  have q2 : decide (to' ≤ fr) = false := decide_eq_false c2
  by_cases c3 : 1099511627776 < to'
  · have q3 : decide (to' > 1099511627776) = true := decide_eq_true c3
    have q3' : decide (1099511627776 < to') = true := decide_eq_true c3
    rw [if_pos (.inr (.inr (.inl c3)))] at HC
    clear c1 c2 c3
    go_enter Tryz.func5, Tryz.ntmps5
    go_wp2
    go_ret2
    exact ⟨by rw [HC.out]; rfl, by (repeat (first | exact Below.refl _ _ | assumption | refine balloc ?_ _ | refine below_drewN ?_ _ | refine bstep (by assumption) ?_ | refine bstep (Past.prop _) ?_ | refine Below.setCell ?_ (by first | exact Nat.le_refl _ | (simp; done) | (simp; omega)) _))⟩
  have q3 : decide (to' > 1099511627776) = false := decide_eq_false c3
  have q3' : decide (1099511627776 < to') = false := decide_eq_false c3
  have wr : IntKind.i64.wrap (to' - fr) = to' - fr := IntWalk.i64_in _ (by omega)
  by_cases c4 : 4096 < to' - fr
  · have q4 : decide (to' - fr > 4096) = true := decide_eq_true c4
    have q4' : decide (4096 < to' - fr) = true := decide_eq_true c4
    rw [if_pos (.inr (.inr (.inr c4)))] at HC
    clear c1 c2 c3 c4
    go_enter Tryz.func5, Tryz.ntmps5
    go_wp2
    go_ret2
    exact ⟨by rw [HC.out]; rfl, by (repeat (first | exact Below.refl _ _ | assumption | refine balloc ?_ _ | refine below_drewN ?_ _ | refine bstep (by assumption) ?_ | refine bstep (Past.prop _) ?_ | refine Below.setCell ?_ (by first | exact Nat.le_refl _ | (simp; done) | (simp; omega)) _))⟩
  have q4 : decide (to' - fr > 4096) = false := decide_eq_false c4
  have q4' : decide (4096 < to' - fr) = false := decide_eq_false c4
  rw [if_neg (by omega)] at HC
  clear c1 c2 c3 c4
  go_enter Tryz.func5, Tryz.ntmps5
  go_wp2_with (go_at_call 20; (with_reducible refine (HR.out _ (HA.out.past (by (repeat (first | exact Below.refl _ _ | assumption | refine balloc ?_ _ | refine below_drewN ?_ _ | refine bstep (by assumption) ?_ | refine bstep (Past.prop _) ?_ | refine Below.setCell ?_ (by first | exact Nat.le_refl _ | (simp; done) | (simp; omega)) _))))).mono ?_); rintro e w2 ⟨rfl, hb2⟩)
  go_ret2
  exact ⟨by rw [HC.out]; rfl, by (repeat (first | exact Below.refl _ _ | assumption | refine balloc ?_ _ | refine below_drewN ?_ _ | refine bstep (by assumption) ?_ | refine bstep (Past.prop _) ?_ | refine Below.setCell ?_ (by first | exact Nat.le_refl _ | (simp; done) | (simp; omega)) _))⟩
end Go.Proofs.YtioalnncjahlnaaGreatDoor
