/- Where the text of a definition that is too deep goes wrong: an opening bracket stands there; and a part's subtree. No program. No conditions. liveryref07.End at a part of a list of whole terms. No conditions but sizes. A region that draws its order, by an invariant of what has run: an operation may use up what another one made (an append its row). No conditions. A region that puts three rows of parts behind each other, by an invariant of what has run. No function of the program. No conditions. The operations of the statement's assignment of three rows behind each other, one step each. No conditions. The walk of the statement on swaps. No conditions but that the arguments are texts and a byte. ParseSwaps: for all texts and every place the statement's function answers true and leaves its arguments alone. No conditions. -/
import Derived.Test.YtaeipfnpglbooaaDoorP7GA
import Derived.Deep.RegionHeld3
import Derived.Test.YtaeipfnpglbooaaDoorP7GD
import Derived.Laws.AppendOwn
import Derived.Test.YtaeipfnpglbooaaDoorProg
import Derived.Test.YtaeipfnpglbooaaDoorP7GE
import Derived.BigRegion
namespace Go.Proofs.YtaeipfnpglbooaaDoor

theorem tk0_ne : tk0 ≠ tokO := by decide
theorem deep_open {fr to' : Int} {F : Fst} (h1 : okN fr) (h2 : okN to') (h3 : F.wf) {i : Nat} (h : badI F 8 0 = some i) : (textD fr to' F)[((placeG 0 (tokD fr to' F)).getD (5 + i) tk0).pos]? = some 40 := by
  have ho := badI_open F 8 0 i h
  have hi : i < F.toks.length := by
    rcases Nat.lt_or_ge i F.toks.length with c | c
    · exact c
    · rw [List.getD_eq_getElem?_getD, List.getElem?_eq_none c] at ho
      exact absurd ho tk0_ne
  have hl := textD_lex h1 h2 h3
  have hlen : (placeG 0 (tokD fr to' F)).length = 5 + F.toks.length := by rw [place_len]; simp only [tokD, List.length_cons]; omega
  have ht := (lex_at hl (i := 5 + i) (by omega)).text (by omega)
  have hs := congrArg (fun l => l[5 + i]?) (place_same (tokD fr to' F) 0)
  have hd : (tokD fr to' F)[5 + i]? = some tokO := by
    rw [List.getD_eq_getElem?_getD, List.getElem?_eq_getElem hi] at ho
    show (tokW wFrom :: tokN fr :: tokW wTo :: tokN to' :: tokL :: F.toks)[5 + i]? = _
    rw [show 5 + i = i + 1 + 1 + 1 + 1 + 1 by omega]
    simp only [List.getElem?_cons_succ]
    rw [List.getElem?_eq_getElem hi]
    exact congrArg some ho
  have htx : ((placeG 0 (tokD fr to' F)).getD (5 + i) tk0).text = [40] := by
    have hj : 5 + i < (placeG 0 (tokD fr to' F)).length := by omega
    simp only [List.getElem?_map, hd, List.getElem?_eq_getElem hj, Option.map_some] at hs
    have := congrArg Tok.text (Option.some.inj hs)
    rw [List.getD_eq_getElem?_getD, List.getElem?_eq_getElem hj]
    exact this
  rw [htx] at ht
  have := congrArg (fun l => l[0]?) ht
  simpa using this
/-- One term: its part, its children. -/
theorem one_cons {T : Fst} (h : T.len = 1) : ∃ x kids, T = .cons x kids .nil := by
  cases T with
  | nil => cases h
  | cons x kids next =>
    cases next with
    | nil => exact ⟨x, kids, rfl⟩
    | cons _ _ _ => simp [Fst.len] at h
end Go.Proofs.YtaeipfnpglbooaaDoor

namespace Go.Proofs.YtaeipfnpglbooaaDoor
open Go.ChangeShapes Go.WideShapes Go.ChangeAt Go.RowKit
attribute [local irreducible] Go.Calls

theorem getD_mid (A : List Prt) (y : Prt) (B : List Prt) : (A ++ y :: B).getD A.length pr0 = y := by
  rw [List.getD_eq_getElem?_getD, List.getElem?_append_right (Nat.le_refl _), Nat.sub_self]; rfl
set_option maxHeartbeats 1000000 in
theorem end_c (n : Nat) : ∀ (x : Prt) (kids : Fst) (A B l : List Prt) (a : Option Addr) (cap at0 : Nat) (w : World), kids.size < n → x.kind ≤ 4 → kids.kok → l = A ++ ({ x with kids := kids.len } :: (kids.flat ++ B)) → at0 = A.length → l.length ≤ 100000 → ArgP w a l →
    Calls Tryd.prog 12 #[.slice a l.length cap, .int .i64 at0] w fun e w' => e = .returned (.int .i64 (at0 + 1 + kids.size : Nat)) ∧ Below w.heap.size w w' := by
  induction n with
  | zero => intro x kids A B l a cap at0 w h; omega
  | succ n ih =>
    intro x kids A B l a cap at0 w hn hx hk hl hat hll hA
    have IH := hidE ih; have HK := hidE hk; have HA := hidE hA; have HAT := hidE hat; have HL := hidE hl
    have hlen : l.length = at0 + (kids.size + B.length + 1) := by rw [hl, hat]; simp only [List.length_append, List.length_cons, flat_len]
    have hg0 : l.getD at0 pr0 = { x with kids := kids.len } := by rw [hl, hat]; exact getD_mid _ _ _
    have hks := len_size kids
    have HS := hidE (show l = (A ++ [{ x with kids := (kids.len : Int) }]) ++ (kids.flat ++ B) by rw [hl]; simp)
    have HSl := hidE (show (A ++ [{ x with kids := (kids.len : Int) }]).length = at0 + 1 by rw [hat]; simp)
    clear ih hk hl hat
    obtain ⟨p, off, rfl, hpp, hc⟩ := hA (by omega)
    obtain ⟨c0, c1, c2, c3, c4⟩ := hc.get (i := at0) (by omega)
    rw [hg0] at c0 c4
    simp only at c0 c4
    have HN := hidE hn; have HLE := hidE hlen
    have hC0 := hidE c0; have hC4 := hidE c4
    generalize hS : kids.size = S at *
    generalize hK : kids.len = K at *
    have hSS := hidE hS; have hKK := hidE hK
    generalize hL : l.length = L at *
    have hLL := hidE hL
    have q0 : ¬ ((at0 : Int) < 0) := by omega
    have q1 : decide ((at0 : Int) ≥ (L : Int)) = false := decide_eq_false (by omega)
    have q2 : decide (at0 ≥ L) = false := decide_eq_false (by omega)
    have q3 : (at0 : Int) < (L : Int) := by omega
    have q4 : decide (x.kind > 4) = false := decide_eq_false (by omega)
    have q4' : decide ((x.kind : Int) > 4) = false := decide_eq_false (by omega)
    have q5 : ¬ ((K : Int) < 0) := by omega
    have q6 : decide ((K : Int) ≥ (L : Int)) = false := decide_eq_false (by omega)
    have q7 : decide (K ≥ L) = false := decide_eq_false (by omega)
    clear hc c1 c2 c3 hA hn hlen hg0 hS hK hL
    go_enter Tryd.func12, Tryd.ntmps12
    go_wp2
    go_loopg [5, 6] K (fun g ve vk wr => ∃ (k e : Nat) (G : Fst) (A' : List Prt), ve = .int .i64 e ∧ vk = .int .i64 k ∧ k + G.len = K ∧ G.len ≤ g ∧ G.kok ∧ e = A'.length ∧ e + G.size = at0 + 1 + S ∧ at0 + 1 ≤ e ∧ l = A' ++ (G.flat ++ B) ∧ Below w.heap.size w wr)
    case atStart => exact ⟨0, at0 + 1, kids, _, by go_num, rfl, by have := hKK.out; omega, by have := hKK.out; omega, HK.out, HSl.out.symm, by have := hSS.out; omega, by omega, HS.out, by (repeat (first | exact Below.refl _ _ | assumption | refine balloc ?_ _ | refine below_drewN ?_ _ | refine bstep (by assumption) ?_ | refine bstep (Past.prop _) ?_ | refine Below.setCell ?_ (by first | exact Nat.le_refl _ | (simp; done) | (simp; omega)) _))⟩
    case round =>
      obtain ⟨k, e, G, A', rfl, rfl, hkg, hgg, hgk, hea, hes, he0, hl2, hb⟩ := hrel
      have HB := hidE hb
      have d0 := (hb.cell (p := ⟨p, _, none⟩) hpp).trans hC0.out
      have d4 := (hb.cell (p := ⟨p, _, none⟩) hpp).trans hC4.out
      cases G with
      | nil =>
        have r1 : k = K := by simpa [Fst.len] using hkg
        have r2 : decide ((k : Int) < (K : Int)) = false := decide_eq_false (by omega)
        have r3 : decide (k < K) = false := decide_eq_false (by omega)
        have r4 : e = at0 + 1 + S := by simpa [Fst.size] using hes
        have R4 := hidE r4
        clear hl2 hea hes hkg hgg r1 r4 hb hgk
        go_wp2
        go_ret
        exact ⟨by rw [← R4.out]; rfl, HB.out⟩
      | cons y ky nx =>
        obtain ⟨g1, g2, g3, g4⟩ := hgk
        have r0 : k + (nx.len + 1) = K := by simpa [Fst.len] using hkg
        have rg := hgg; simp only [Fst.len] at rg
        have rs : e + (ky.size + nx.size + 1) = at0 + 1 + S := by simpa [Fst.size] using hes
        have r2 : decide ((k : Int) < (K : Int)) = true := decide_eq_true (by omega)
        have r3 : decide (k < K) = true := decide_eq_true (by omega)
        have r5 : decide ((e : Int) > 0) = true := decide_eq_true (by omega)
        have r6 : decide (e > 0) = true := decide_eq_true (by omega)
        have r7 : decide (0 < e) = true := decide_eq_true (by omega)
        have HC := hidE (IH.out y ky A' (nx.flat ++ B) l _ cap e wr (by have := HN.out; omega) g1 g3 (by rw [hl2]; simp [Fst.flat]) hea (by have := hLL.out; omega) (HA.out.past hb))
        have HE := hidE (show e + 1 + ky.size = (A' ++ ({ y with kids := (ky.len : Int) } :: ky.flat)).length by rw [hea]; simp [flat_len]; omega)
        have HL2 := hidE (show l = (A' ++ ({ y with kids := (ky.len : Int) } :: ky.flat)) ++ (nx.flat ++ B) by rw [hl2]; simp [Fst.flat])
        have r8 : (k : Int) + 1 ≤ 100001 := by have := HLE.out; omega
        have RS := hidE rs; have R0 := hidE r0; have RG := hidE rg; have G4 := hidE g4
        clear hl2 hea hes hkg hgg hb g1 g2 g3 g4 rs r0 rg
        rw [hLL.out] at HC
        go_wp2_with fail
        ((with_reducible refine (HC.out).mono ?_); rintro e1 w1 ⟨rfl, hb1⟩)
        have HB1 := hidE hb1; clear hb1
        go_wp2
        go_roundg nx.len
        case measure => have := RG.out; omega
        case rel => exact ⟨k + 1, e + 1 + ky.size, nx, _, rfl, by have := R0.out; have := HLE.out; go_num, by have := R0.out; omega, Nat.le_refl _, G4.out, HE.out, by have := RS.out; omega, by omega, HL2.out, HB.out.trans (HB1.out.mono HB.out.size)⟩
end Go.Proofs.YtaeipfnpglbooaaDoor

namespace Go.Proofs.YtaeipfnpglbooaaDoor
open Go.RowKit

section
variable {P : Program} {l : List Oper} {n : Nat} {a0 : Act} {w0 : World}
abbrev JTriv (l : List Oper) (n : Nat) (a0 : Act) (w0 : World) (u : Nat → Value) (listed : Array Bool) (a : Act) : Prop := JInv l n a0 w0 (fun _ _ _ => True) (fun _ => false) u listed a w0

/-- What is asked of operation i: whatever has run (all that it waits for, among it), from the invariant to the invariant. -/
def CStep (P : Program) (l : List Oper) (n : Nat) (a0 : Act) (I : (Nat → Bool) → (Nat → Value) → World → Prop) (i : Nat) (o : Oper) : Prop :=
  ∀ (L : Nat → Bool) (u : Nat → Value) (w : World), L i = false → (∀ j, j < n → waits l.toArray i j = true → L j = true) → I L u w →
    if Region.wanted o (yielded l.toArray (frm (l.take n) u 0 a0).tmps) then
      gives P (fun v w' => I (fun j => if j = i then true else L j) (fun j => if j = i then v else u j) w') ((execOp (frm (l.take n) u 0 a0).eval o).run P w)
    else I (fun j => if j = i then true else L j) (fun j => if j = i then undef else u j) w

theorem cstep_run {I : (Nat → Bool) → (Nat → Value) → World → Prop} {i : Nat} {o : Oper} (h : ∀ (L : Nat → Bool) (u : Nat → Value) (w : World), L i = false → (∀ j, j < n → waits l.toArray i j = true → L j = true) → I L u w →
    Region.wanted o (yielded l.toArray (frm (l.take n) u 0 a0).tmps) = true ∧ ∃ v w', (execOp (frm (l.take n) u 0 a0).eval o).run P w = .ok (.value v) w' ∧ I (fun j => if j = i then true else L j) (fun j => if j = i then v else u j) w') : CStep P l n a0 I i o := by
  intro L u w hl hw hI
  obtain ⟨h1, v, w', h2, h3⟩ := h L u w hl hw hI
  rw [if_pos h1, h2]
  exact h3

/-- The one operation among those that writes a slot. -/
def dstOnly (l : List Oper) (t j : Nat) : Bool := (match l[j]? with
    | some o => o.dst == some t
    | none => false) && (List.range l.length).all fun i => i == j || match l[i]? with
    | some p => p.dst != some t
    | none => true
def dstNone (l : List Oper) (t : Nat) : Bool := l.all fun p => p.dst != some t
theorem ev_mine {u : Nat → Value} {a0 : Act} {l : List Oper} {t j : Nat} (h : dstOnly l t j = true) (ht : t < a0.tmps.size) : (frm l u 0 a0).eval (.tmp t) = u j := by
  unfold dstOnly at h
  rw [Bool.and_eq_true] at h
  obtain ⟨h1, h2⟩ := h
  cases hj : l[j]? with
  | none => rw [hj] at h1; cases h1
  | some o =>
    rw [hj] at h1
    have := (frm_spec u l 0 a0).2.2.2 j o t hj (beq_iff_eq.1 h1) (fun i p hi hne => by
      rw [List.all_eq_true] at h2
      have hlt : i < l.length := (List.getElem?_eq_some_iff.1 hi).1
      have := h2 i (List.mem_range.2 hlt)
      rw [hi] at this
      simp only [Bool.or_eq_true, beq_iff_eq, bne_iff_ne] at this
      rcases this with e | e
      · exact absurd e hne
      · exact e) ht
    rw [Nat.zero_add] at this
    show (frm l u 0 a0).tmps.getD t undef = u j
    rw [Array.getD_eq_getD_getElem?, this]
    rfl
theorem ev_rest {u : Nat → Value} {a0 : Act} {l : List Oper} {t : Nat} (h : dstNone l t = true) : (frm l u 0 a0).eval (.tmp t) = a0.eval (.tmp t) := by
  have := (frm_spec u l 0 a0).2.2.1 t (fun j o hj e => by
    unfold dstNone at h
    rw [List.all_eq_true] at h
    have h2 := h o (List.mem_of_getElem? hj)
    rw [e] at h2
    simp at h2)
  show (frm l u 0 a0).tmps.getD t undef = a0.tmps.getD t undef
  rw [Array.getD_eq_getD_getElem?, Array.getD_eq_getD_getElem?, this]
/-- So asked, with nothing known of the frame but what each operand reads as. -/
theorem cstep_ev {I : (Nat → Bool) → (Nat → Value) → World → Prop} {i : Nat} {o : Oper} (hg : o.guard = none)
    (h : ∀ (E : Operand → Value) (L : Nat → Bool) (u : Nat → Value) (w : World), (∀ t j, dstOnly (l.take n) t j = true → t < a0.tmps.size → E (.tmp t) = u j) → (∀ t, dstNone (l.take n) t = true → E (.tmp t) = a0.eval (.tmp t)) → (∀ v, E (.const v) = v) →
      L i = false → (∀ j, j < n → waits l.toArray i j = true → L j = true) → I L u w → gives P (fun v w' => I (fun j => if j = i then true else L j) (fun j => if j = i then v else u j) w') ((execOp E o).run P w)) : CStep P l n a0 I i o := by
  intro L u w hl hw hI
  rw [if_pos (by unfold Region.wanted; rw [hg])]
  exact h _ L u w (fun t j hd ht => ev_mine hd ht) (fun t hd => ev_rest hd) (fun _ => rfl) hl hw hI
theorem prefix_inv {Q : Exit → Act → World → Prop} {I : (Nat → Bool) → (Nat → Value) → World → Prop} (hn : n ≤ l.length) (hok : JOk l n [])
    (hstep : ∀ (i : Nat) (o : Oper), i < n → l[i]? = some o → CStep P l n a0 I i o)
    (htail : ∀ (L : Nat → Bool) (u : Nat → Value) (w : World), (∀ j, j < n → L j = true) → I L u w → wpList P l.toArray Q (l.drop n) (frm (l.take n) u 0 a0) w) :
    ∀ (m fuel : Nat) (u : Nat → Value) (listed : Array Bool) (a : Act) (w : World), left n listed ≤ m → m + (l.length - n) ≤ fuel → JTriv l n a0 w0 u listed a → I (fun j => listed.getD j false) u w → wpAny P .any l.toArray Q fuel listed a w := by
  have ending : ∀ (fuel : Nat) (u : Nat → Value) (listed : Array Bool) (a : Act) (w : World), (l.length - n) ≤ fuel → JTriv l n a0 w0 u listed a → I (fun j => listed.getD j false) u w → (∀ j, j < n → listed.getD j false = true) → wpAny P .any l.toArray Q fuel listed a w := by
    intro fuel u listed a w hf hI hinv hall
    have ha := hI.whole hok hn hall
    refine tail_any (n := n) hok.back (fun i h1 h2 j h3 h4 => hok.tail i h1 h2 j h4 (by simp)) fuel n listed a w (Nat.le_refl _) hn (by omega) hI.shut (fun j hj => ?_) ?_
    · by_cases h : j < n
      · rw [hall j h]; simp [h]
      · rw [hI.notail j (by omega) hj]; simp [h]
    · rw [ha]
      exact htail _ u w hall hinv
  intro m
  induction m with
  | zero =>
    intro fuel u listed a w hm hf hI hinv
    refine ending fuel u listed a w (by omega) hI hinv (fun j hj => ?_)
    cases h : listed.getD j false with
    | true => rfl
    | false =>
      exfalso
      have hmem : j ∈ (List.range n).filter fun j => !listed.getD j false := by simp [List.mem_filter, hj]; simpa using h
      have : (List.range n).filter (fun j => !listed.getD j false) = [] := List.length_eq_zero_iff.1 (by unfold left at hm; omega)
      rw [this] at hmem; cases hmem
  | succ m ih =>
    intro fuel u listed a w hm hf hI hinv
    have hlt : ∀ j, j < n → j < listed.size := fun j hj => by rw [hI.shut.size]; simp; omega
    by_cases hall : ∀ j, j < n → listed.getD j false = true
    · exact ending fuel u listed a w (by omega) hI hinv hall
    obtain ⟨fuel, rfl⟩ : ∃ f, fuel = f + 1 := ⟨fuel - 1, by omega⟩
    have hex : ∃ j, j < n ∧ listed.getD j false = false ∧ ∀ k, k < j → listed.getD k false = true := by
      apply Classical.byContradiction
      intro hno
      refine hall fun j => ?_
      induction j using Nat.strongRecOn with
      | ind j ihj =>
        intro hj
        cases h : listed.getD j false with
        | true => rfl
        | false => exact absurd ⟨j, hj, h, fun k hk => ihj k hk (by omega)⟩ hno
    obtain ⟨j0, hj0, hj0l, hj0k⟩ := hex
    have hj0o : l[j0]? = some (l[j0]'(by omega)) := List.getElem?_eq_getElem (by omega)
    have hd0 : ∀ e ∈ (l[j0]'(by omega)).after, Region.binds .any e = true → listed.getD e.on false = true := fun e he hb => hj0k _ (hok.back j0 _ hj0o e he hb)
    have hr0 : j0 ∈ Region.ready .any l.toArray listed := mem_ready.2 ⟨by rw [getD_flip (hlt j0 hj0) true false]; exact hj0l, _, by rw [List.getElem?_toArray]; exact hj0o, hd0⟩
    refine ⟨fun h0 => (by rw [h0] at hr0; cases hr0), fun i hi => ?_⟩
    obtain ⟨hun, o, ho, hd⟩ := mem_ready.1 hi
    have hil : i < l.length := by
      rcases Nat.lt_or_ge i l.length with h | h
      · exact h
      · simp [List.getElem?_eq_none h] at ho
    have hol : l[i]? = some o := by simpa using ho
    have hun' : listed.getD i false = false := by rw [← getD_flip (by rw [hI.shut.size]; simp; exact hil) true false]; exact hun
    have hin : i < n := by
      rcases Nat.lt_or_ge i n with h | h
      · exact h
      · exfalso
        exact hall fun j hj => coverX_listed hI.shut i j o ho hd (hok.tail i h hil j (by omega) (by simp))
    have hlook := look_same hn hok hI hin hol hd
    have hs := hstep i o hin hol (fun j => listed.getD j false) u w hun' (fun j hj hw => waits_listed ho hd hw) hinv
    have hsel := fun cs b => Region.noSelect_spec hok.sel i o cs b ho
    have hset : (fun j => (listed.setIfInBounds i true).getD j false) = fun j => if j = i then true else listed.getD j false := by
      funext j
      by_cases h : j = i
      · subst h
        have := hlt j hin
        simp [this]
      · rw [if_neg h, getD_set_ne false (Ne.symm h)]
    unfold wpOp
    simp only [ho]
    rw [wanted_same hlook]
    have go : ∀ v w', I (fun j => if j = i then true else listed.getD j false) (fun j => if j = i then v else u j) w' →
        wpAny P .any l.toArray Q fuel (listed.setIfInBounds i true) (a.put o.dst v) w' := fun v w' h =>
      ih fuel _ _ _ _ (by have := left_set hin (hlt i hin) hun'; omega) (by omega) (hI.next hok (fun _ _ _ _ _ _ => trivial) hin hn hol hun' hd (Below.refl _ _) trivial (fun h => by cases h)) (by rw [hset]; exact h)
    split
    · rename_i hwant
      rw [if_pos hwant] at hs
      refine .inl ?_
      unfold Oper.wp
      rw [exec_same hsel hlook]
      exact upon_of_gives hs fun v w' h => go v w' h
    · rename_i hwant
      rw [if_neg hwant] at hs
      exact go undef w hs

/-- A REGION THAT DRAWS ITS ORDER, BY AN INVARIANT OF WHAT HAS RUN: the first n operations in whatever order; then the tail. -/
theorem wp_region_C {id : Nat} {Q : Exit → Act → World → Prop} (n : Nat) (I : (Nat → Bool) → (Nat → Value) → World → Prop) (hm : P.follows .mixedOrders = true) (hn : n ≤ l.length) (hok : jOk l n [] = true)
    (hstart : I (fun _ => false) (fun _ => undef) w0.drew)
    (hstep : ∀ (i : Nat) (o : Oper), i < n → l[i]? = some o → CStep P l n a0 I i o)
    (htail : ∀ (L : Nat → Bool) (u : Nat → Value) (w : World), (∀ j, j < n → L j = true) → I L u w → wpList P l.toArray Q (l.drop n) (frm (l.take n) u 0 a0) w) :
    (Code.region id l.toArray true).wp P Q a0 w0 := by
  have hok' := jOk_spec hok
  refine wp_region_any hm ?_
  have hun : ∀ j, (Array.replicate l.toArray.size false).getD j false = false := fun j => by
    simp only [Array.getD_eq_getD_getElem?, Array.getElem?_replicate]; split <;> rfl
  refine prefix_inv (w0 := w0) hn hok' hstep htail n l.toArray.size (fun _ => undef) _ a0 _ ?_ (by simp; omega) ?_ ?_
  · unfold left
    exact Nat.le_trans (List.length_filter_le _ _) (by simp)
  · have no : ∀ (j : Nat) (q : Prop), (Array.replicate l.toArray.size false).getD j false = true → q := fun j q h => by rw [hun] at h; cases h
    exact {
      shut := ⟨by simp, fun i o _ h => no i _ h⟩
      notail := fun j _ _ => hun j
      size := rfl
      defers := rfl
      mine := fun j o t _ _ h => no j _ h
      rest := fun _ _ => rfl
      past := Below.refl _ _
      facts := fun j _ h => no j _ h
      fresh := fun j _ h => no j _ h
      apart := fun i j _ _ _ h => no i _ h }
  · have : (fun j => (Array.replicate l.toArray.size false).getD j false) = fun _ => false := funext hun
    rw [this]
    exact hstart
end
end Go.Proofs.YtaeipfnpglbooaaDoor

namespace Go.Proofs.YtaeipfnpglbooaaDoor
open Go.ChangeShapes Go.WideShapes Go.ChangeAt Go.RowKit

/-- An append to a row that is owned, asked as wp_region_C asks it. -/
theorem gives_append {P : Program} {o : Oper} {E : Operand → Value} {w : World} {G : Value → World → Prop} (s x : Operand) (t : TypeId)
    (ho : o.op = .call { callee := .builtin .append, args := #[s, x], argTypes := #[t, t] })
    (base : Nat) (e : TypeId) (i : TypeInfo) (z : Value) (size bytes : Nat) (ht : P.underlying t = some (.slice e)) (hi : P.info? e = some i) (hz : i.zero = some z)
    (hsize : i.size = size) (hby : i.bytes = bytes) (hzs : z.cells.size = size) (hsz : 0 < size)
    (v : Value) (n : Nat) (xs : List Value) (hs : E s = v) (hown : w.ownsRow base e size v n xs)
    (ad : Addr) (m c : Nat) (news : List Value) (hx : E x = .slice (some ad) m c) (hl : news.length = m * size) (hnews : ∀ j u, news[j]? = some u → w.cell? (ad.add j) = some u) (h1 : ∀ u ∈ news, u.oneCell' = true)
    (h63 : n + m ≤ maxLen) (hbytes : (n + m) * bytes ≤ 140737488355328) (hbase : base ≤ w.heap.size)
    (h : ∀ v' w', w'.ownsRow base e size v' (n + m) (xs ++ news) → w.grownBy w' v.ownBlock → G v' w') : gives P G ((execOp E o).run P w) := by
  obtain ⟨v', w', hr, h2, h3, h4⟩ := run_append_own (P := P) w base t o.type e i z size bytes ht hi hz hsize hby hzs hsz v n xs hown ad m c news hl hnews h1 h63 hbytes hbase
  unfold execOp
  simp only [ho, resolve, invoke, builtin, Sem.run_bind, Sem.run_pure, Result.andThen_ok, List.map_toArray, List.map_cons, List.map_nil, hs, hx, hr]
  exact h v' w' h2 h3
theorem gives_ok {P : Program} {G : Value → World → Prop} {r : Result Next} {v : Value} {w' : World} (h : r = .ok (.value v) w') (hG : G v w') : gives P G r := by rw [h]; exact hG
theorem add_block (b off j : Nat) : ((⟨b, off, none⟩ : Addr).add j).block = b := by unfold Addr.add; split <;> rfl
theorem pown_block {w : World} {B : Nat} {e : TypeId} {sz : Nat} {v : Value} {n : Nat} {xs : List Value} (h : w.ownsRow B e sz v n xs) {k : Nat} (hk : v.ownBlock = some k) : B ≤ k := by
  obtain ⟨h1, h2 | ⟨g, cap, cur, h3, h4, h5, h6⟩⟩ := h
  · rw [h2.1] at hk; simp [Value.ownBlock] at hk
  · rw [h3] at hk; simp [Value.ownBlock] at hk; omega
/-- A block of another type is not the row's own. -/
theorem pown_apart {w : World} {B : Nat} {e t : TypeId} {sz : Nat} {v : Value} {n : Nat} {xs : List Value} {p : Nat} {cs : Array Value} (h : w.ownsRow B e sz v n xs) (hB : Blk w p cs t) (hne : e ≠ t) : v.ownBlock ≠ some p := fun hk => by
  obtain ⟨h1, h2 | ⟨g, cap, cur, h3, h4, h5, h6⟩⟩ := h
  · rw [h2.1] at hk; simp [Value.ownBlock] at hk
  · rw [h3] at hk
    simp [Value.ownBlock] at hk
    subst hk
    unfold Blk at hB
    rw [h5] at hB
    injection hB with hB
    injection hB with _ h _
    exact hne h

/-- What holds while the operations run: the fixed values; the row, as far as it has got; the new definition's block. -/
structure SwI (tp td : TypeId) (W0 : World) (D : Nat → Option Value) (fr to' : Int) (nA nG nB : Nat) (cA cG cB : List Value) (L : Nat → Bool) (u : Nat → Value) (w : World) : Prop where
  bel : Below W0.heap.size W0 w
  det : ∀ j v, D j = some v → L j = true → u j = v
  o9 : L 9 = true → L 4 = true
  o12 : L 12 = true → L 9 = true
  o17 : L 17 = true → L 12 = true
  r4 : L 4 = true → L 9 = false → w.ownsRow W0.heap.size tp 5 (u 4) 0 []
  r9 : L 9 = true → L 12 = false → w.ownsRow W0.heap.size tp 5 (u 9) nA cA
  r12 : L 12 = true → L 17 = false → w.ownsRow W0.heap.size tp 5 (u 12) (nA + nG) (cA ++ cG)
  r17 : L 17 = true → w.ownsRow W0.heap.size tp 5 (u 17) (nA + nG + nB) (cA ++ cG ++ cB)
  r18 : L 18 = true → L 17 = true ∧ u 18 = .agg #[.int .i64 fr, .int .i64 to', u 17]
  r19 : L 19 = true → ∃ px, u 19 = .pointer (some ⟨px, 0, none⟩) ∧ W0.heap.size ≤ px ∧ Blk w px #[.int .i64 0, .int .i64 0, .slice none 0 0] td
section
variable {tp td : TypeId} {W0 : World} {D : Nat → Option Value} {fr to' : Int} {nA nG nB : Nat} {cA cG cB : List Value} {L : Nat → Bool} {u : Nat → Value} {w w' : World}
theorem own_empty5 {B : Nat} (h : B ≤ w.heap.size) : (w.alloc (.cells #[] tp)).ownsRow B tp 5 (.slice (some ⟨w.heap.size, 0, none⟩) 0 0) 0 [] := ⟨rfl, .inr ⟨w.heap.size, 0, #[], rfl, h, Blk.made _ _ _, Nat.le_refl _, Nat.zero_le _, rfl, rfl⟩⟩
theorem bfalse {b : Bool} (h : ¬ b = true) : b = false := by cases b <;> simp_all
theorem SwI.ndet (h : SwI tp td W0 D fr to' nA nG nB cA cG cB L u w) {i : Nat} {v : Value} (hd : D i = some v) (hi : i ≠ 4 ∧ i ≠ 9 ∧ i ≠ 12 ∧ i ≠ 17 ∧ i ≠ 18 ∧ i ≠ 19) : SwI tp td W0 D fr to' nA nG nB cA cG cB (fun j => if j = i then true else L j) (fun j => if j = i then v else u j) w := by
  obtain ⟨i4, i9, i12, i17, i18, i19⟩ := hi
  have e4 := Ne.symm i4; have e9 := Ne.symm i9; have e12 := Ne.symm i12; have e17 := Ne.symm i17; have e18 := Ne.symm i18; have e19 := Ne.symm i19
  refine ⟨h.bel, ?_, by
    simp (config := { decide := true }) only [if_neg e4, if_neg e9]
    try (first | done | exact h.o9),
    by
    simp (config := { decide := true }) only [if_neg e9, if_neg e12]
    try (first | done | exact h.o12),
    by
    simp (config := { decide := true }) only [if_neg e12, if_neg e17]
    try (first | done | exact h.o17),
    by
    simp (config := { decide := true }) only [if_neg e4, if_neg e9]
    try (first | done | exact h.r4),
    by
    simp (config := { decide := true }) only [if_neg e9, if_neg e12]
    try (first | done | exact h.r9),
    by
    simp (config := { decide := true }) only [if_neg e12, if_neg e17]
    try (first | done | exact h.r12),
    by
    simp (config := { decide := true }) only [if_neg e17]
    try (first | done | exact h.r17),
    by
    simp (config := { decide := true }) only [if_neg e17, if_neg e18]
    try (first | done | exact h.r18),
    by
    simp (config := { decide := true }) only [if_neg e19]
    try (first | done | exact h.r19)⟩
  · intro j v' hj hl
    by_cases c : j = i
    · subst c
      rw [hd] at hj; simpa using Option.some.inj hj
    · simp only [if_neg c] at hl ⊢
      exact h.det j v' hj hl
theorem SwI.n4 (h : SwI tp td W0 D fr to' nA nG nB cA cG cB L u w) (hD : D 4 = none) (hl : L 4 = false) : SwI tp td W0 D fr to' nA nG nB cA cG cB (fun j => if j = 4 then true else L j) (fun j => if j = 4 then .slice (some ⟨w.heap.size, 0, none⟩) 0 0 else u j) (w.alloc (.cells #[] tp)) := by
  have l9 : L 9 = false := bfalse fun c => by have := h.o9 c; rw [hl] at this; cases this
  have l12 : L 12 = false := bfalse fun c => by have := h.o12 c; rw [l9] at this; cases this
  have l17 : L 17 = false := bfalse fun c => by have := h.o17 c; rw [l12] at this; cases this
  have l18 : L 18 = false := bfalse fun c => by have := (h.r18 c).1; rw [l17] at this; cases this
  refine ⟨h.bel.alloc h.bel.size _, ?_, by
    simp (config := { decide := true }) only [if_true, if_false, l9]
    try (first | done | (intro c; cases c; done) | (intro c _; cases c; done) | (intro _ c; cases c; done) | (intros; simp_all; done) | exact h.o9),
    by
    simp (config := { decide := true }) only [if_false, l9, l12]
    try (first | done | (intro c; cases c; done) | (intro c _; cases c; done) | (intro _ c; cases c; done) | (intros; simp_all; done) | exact h.o12),
    by
    simp (config := { decide := true }) only [if_false, l12, l17]
    try (first | done | (intro c; cases c; done) | (intro c _; cases c; done) | (intro _ c; cases c; done) | (intros; simp_all; done) | exact h.o17),
    by
    simp (config := { decide := true }) only [if_true, if_false, l9]
    try (first | done | exact fun _ _ => own_empty5 h.bel.size | exact fun _ => own_empty5 h.bel.size | exact own_empty5 h.bel.size | exact h.r4),
    by
    simp (config := { decide := true }) only [if_false, l9, l12]
    try (first | done | (intro c; cases c; done) | (intro c _; cases c; done) | (intro _ c; cases c; done) | (intros; simp_all; done) | exact h.r9),
    by
    simp (config := { decide := true }) only [if_false, l12, l17]
    try (first | done | (intro c; cases c; done) | (intro c _; cases c; done) | (intro _ c; cases c; done) | (intros; simp_all; done) | exact h.r12),
    by
    simp (config := { decide := true }) only [if_false, l17]
    try (first | done | (intro c; cases c; done) | (intro c _; cases c; done) | (intro _ c; cases c; done) | (intros; simp_all; done) | exact h.r17),
    by
    simp (config := { decide := true }) only [if_false, l17, l18]
    try (first | done | (intro c; cases c; done) | (intro c _; cases c; done) | (intro _ c; cases c; done) | (intros; simp_all; done) | exact h.r18),
    by
    simp (config := { decide := true }) only [if_false]
    try (first | done | exact fun c => (by obtain ⟨px, h1, h2, h3⟩ := h.r19 c; exact ⟨px, h1, h2, h3.alloc _⟩) | exact h.r19)⟩
  · intro j v' hj hl
    by_cases c : j = 4
    · subst c
      rw [hD] at hj; cases hj
    · simp only [if_neg c] at hl ⊢
      exact h.det j v' hj hl
theorem SwI.n9 (h : SwI tp td W0 D fr to' nA nG nB cA cG cB L u w) (hne : tp ≠ td) (hD : D 9 = none) (hl : L 9 = false) (hp : L 4 = true) {v : Value} (hw : w'.ownsRow W0.heap.size tp 5 v nA cA) (hg : w.grownBy w' (u 4).ownBlock) : SwI tp td W0 D fr to' nA nG nB cA cG cB (fun j => if j = 9 then true else L j) (fun j => if j = 9 then v else u j) w' := by
  have l12 : L 12 = false := bfalse fun c => by have := h.o12 c; rw [hl] at this; cases this
  have l17 : L 17 = false := bfalse fun c => by have := h.o17 c; rw [l12] at this; cases this
  have l18 : L 18 = false := bfalse fun c => by have := (h.r18 c).1; rw [l17] at this; cases this
  have hr := h.r4 hp hl
  refine ⟨h.bel.grown hg h.bel.size (fun k hk => pown_block hr hk), ?_, by
    simp (config := { decide := true }) only [if_true, if_false, hp]
    try (first | done | exact fun _ => hp | exact hp | (intro c; cases c; done) | (intro c _; cases c; done) | (intro _ c; cases c; done) | (intros; simp_all; done) | exact h.o9),
    by
    simp (config := { decide := true }) only [if_true, if_false, l12]
    try (first | done | exact fun _ => hp | exact hp | (intro c; cases c; done) | (intro c _; cases c; done) | (intro _ c; cases c; done) | (intros; simp_all; done) | exact h.o12),
    by
    simp (config := { decide := true }) only [if_false, l12, l17]
    try (first | done | exact fun _ => hp | exact hp | (intro c; cases c; done) | (intro c _; cases c; done) | (intro _ c; cases c; done) | (intros; simp_all; done) | exact h.o17),
    by
    simp (config := { decide := true }) only [if_true, if_false, hp]
    try (first | done | (intro c; cases c; done) | (intro c _; cases c; done) | (intro _ c; cases c; done) | (intros; simp_all; done) | exact h.r4),
    by
    simp (config := { decide := true }) only [if_true, if_false, l12]
    try (first | done | exact fun _ _ => hw | exact fun _ => hw | exact hw | exact h.r9),
    by
    simp (config := { decide := true }) only [if_false, l12, l17]
    try (first | done | (intro c; cases c; done) | (intro c _; cases c; done) | (intro _ c; cases c; done) | (intros; simp_all; done) | exact h.r12),
    by
    simp (config := { decide := true }) only [if_false, l17]
    try (first | done | (intro c; cases c; done) | (intro c _; cases c; done) | (intro _ c; cases c; done) | (intros; simp_all; done) | exact h.r17),
    by
    simp (config := { decide := true }) only [if_false, l18, l17]
    try (first | done | (intro c; cases c; done) | (intro c _; cases c; done) | (intro _ c; cases c; done) | (intros; simp_all; done) | exact h.r18),
    by
    simp (config := { decide := true }) only [if_false]
    try (first | done | exact fun c => (by obtain ⟨px, h1, h2, h3⟩ := h.r19 c; exact ⟨px, h1, h2, (hg.block px h3.lt (fun e => pown_apart hr h3 hne e.symm)).trans h3⟩) | exact h.r19)⟩
  · intro j v' hj hl
    by_cases c : j = 9
    · subst c
      rw [hD] at hj; cases hj
    · simp only [if_neg c] at hl ⊢
      exact h.det j v' hj hl
theorem SwI.n12 (h : SwI tp td W0 D fr to' nA nG nB cA cG cB L u w) (hne : tp ≠ td) (hD : D 12 = none) (hl : L 12 = false) (hp : L 9 = true) {v : Value} (hw : w'.ownsRow W0.heap.size tp 5 v (nA + nG) (cA ++ cG)) (hg : w.grownBy w' (u 9).ownBlock) : SwI tp td W0 D fr to' nA nG nB cA cG cB (fun j => if j = 12 then true else L j) (fun j => if j = 12 then v else u j) w' := by
  have l17 : L 17 = false := bfalse fun c => by have := h.o17 c; rw [hl] at this; cases this
  have l18 : L 18 = false := bfalse fun c => by have := (h.r18 c).1; rw [l17] at this; cases this
  have hr := h.r9 hp hl
  refine ⟨h.bel.grown hg h.bel.size (fun k hk => pown_block hr hk), ?_, by
    simp (config := { decide := true }) only [if_false, hp]
    try (first | done | exact fun _ => hp | exact hp | (intro c; cases c; done) | (intro c _; cases c; done) | (intro _ c; cases c; done) | (intros; simp_all; done) | exact fun _ => h.o9 hp | exact h.o9),
    by
    simp (config := { decide := true }) only [if_true, if_false, hp]
    try (first | done | exact fun _ => hp | exact hp | (intro c; cases c; done) | (intro c _; cases c; done) | (intro _ c; cases c; done) | (intros; simp_all; done) | exact h.o12),
    by
    simp (config := { decide := true }) only [if_true, if_false, l17]
    try (first | done | exact fun _ => hp | exact hp | (intro c; cases c; done) | (intro c _; cases c; done) | (intro _ c; cases c; done) | (intros; simp_all; done) | exact h.o17),
    by
    simp (config := { decide := true }) only [if_false, hp]
    try (first | done | (intro c; cases c; done) | (intro c _; cases c; done) | (intro _ c; cases c; done) | (intros; simp_all; done) | exact h.r4),
    by
    simp (config := { decide := true }) only [if_true, if_false, hp]
    try (first | done | (intro c; cases c; done) | (intro c _; cases c; done) | (intro _ c; cases c; done) | (intros; simp_all; done) | exact h.r9),
    by
    simp (config := { decide := true }) only [if_true, if_false, l17]
    try (first | done | exact fun _ _ => hw | exact fun _ => hw | exact hw | exact h.r12),
    by
    simp (config := { decide := true }) only [if_false, l17]
    try (first | done | (intro c; cases c; done) | (intro c _; cases c; done) | (intro _ c; cases c; done) | (intros; simp_all; done) | exact h.r17),
    by
    simp (config := { decide := true }) only [if_false, l18, l17]
    try (first | done | (intro c; cases c; done) | (intro c _; cases c; done) | (intro _ c; cases c; done) | (intros; simp_all; done) | exact h.r18),
    by
    simp (config := { decide := true }) only [if_false]
    try (first | done | exact fun c => (by obtain ⟨px, h1, h2, h3⟩ := h.r19 c; exact ⟨px, h1, h2, (hg.block px h3.lt (fun e => pown_apart hr h3 hne e.symm)).trans h3⟩) | exact h.r19)⟩
  · intro j v' hj hl
    by_cases c : j = 12
    · subst c
      rw [hD] at hj; cases hj
    · simp only [if_neg c] at hl ⊢
      exact h.det j v' hj hl
theorem SwI.n17 (h : SwI tp td W0 D fr to' nA nG nB cA cG cB L u w) (hne : tp ≠ td) (hD : D 17 = none) (hl : L 17 = false) (hp : L 12 = true) {v : Value} (hw : w'.ownsRow W0.heap.size tp 5 v (nA + nG + nB) (cA ++ cG ++ cB)) (hg : w.grownBy w' (u 12).ownBlock) : SwI tp td W0 D fr to' nA nG nB cA cG cB (fun j => if j = 17 then true else L j) (fun j => if j = 17 then v else u j) w' := by
  have l18 : L 18 = false := bfalse fun c => by have := (h.r18 c).1; rw [hl] at this; cases this
  have hr := h.r12 hp hl
  have h9 := h.o12 hp
  refine ⟨h.bel.grown hg h.bel.size (fun k hk => pown_block hr hk), ?_, by
    simp (config := { decide := true }) only [if_false, h9]
    try (first | done | exact fun _ => hp | exact hp | (intro c; cases c; done) | (intro c _; cases c; done) | (intro _ c; cases c; done) | (intros; simp_all; done) | exact fun _ => h.o9 (h.o12 hp) | exact h.o9),
    by
    simp (config := { decide := true }) only [if_false, hp, h9]
    try (first | done | exact fun _ => hp | exact hp | (intro c; cases c; done) | (intro c _; cases c; done) | (intro _ c; cases c; done) | (intros; simp_all; done) | exact h.o12),
    by
    simp (config := { decide := true }) only [if_true, if_false, hp]
    try (first | done | exact fun _ => hp | exact hp | (intro c; cases c; done) | (intro c _; cases c; done) | (intro _ c; cases c; done) | (intros; simp_all; done) | exact h.o17),
    by
    simp (config := { decide := true }) only [if_false, h9]
    try (first | done | (intro c; cases c; done) | (intro c _; cases c; done) | (intro _ c; cases c; done) | (intros; simp_all; done) | exact h.r4),
    by
    simp (config := { decide := true }) only [if_false, hp, h9]
    try (first | done | (intro c; cases c; done) | (intro c _; cases c; done) | (intro _ c; cases c; done) | (intros; simp_all; done) | exact h.r9),
    by
    simp (config := { decide := true }) only [if_true, if_false, hp]
    try (first | done | (intro c; cases c; done) | (intro c _; cases c; done) | (intro _ c; cases c; done) | (intros; simp_all; done) | exact h.r12),
    by
    simp (config := { decide := true }) only [if_true]
    try (first | done | exact fun _ _ => hw | exact fun _ => hw | exact hw | exact h.r17),
    by
    simp (config := { decide := true }) only [if_true, if_false, l18]
    try (first | done | (intro c; cases c; done) | (intro c _; cases c; done) | (intro _ c; cases c; done) | (intros; simp_all; done) | exact h.r18),
    by
    simp (config := { decide := true }) only [if_false]
    try (first | done | exact fun c => (by obtain ⟨px, h1, h2, h3⟩ := h.r19 c; exact ⟨px, h1, h2, (hg.block px h3.lt (fun e => pown_apart hr h3 hne e.symm)).trans h3⟩) | exact h.r19)⟩
  · intro j v' hj hl
    by_cases c : j = 17
    · subst c
      rw [hD] at hj; cases hj
    · simp only [if_neg c] at hl ⊢
      exact h.det j v' hj hl
theorem SwI.n18 (h : SwI tp td W0 D fr to' nA nG nB cA cG cB L u w) (hD : D 18 = none) (hp : L 17 = true) : SwI tp td W0 D fr to' nA nG nB cA cG cB (fun j => if j = 18 then true else L j) (fun j => if j = 18 then .agg #[.int .i64 fr, .int .i64 to', u 17] else u j) w := by
  refine ⟨h.bel, ?_, by
    simp (config := { decide := true }) only [if_false]
    try (first | done | exact h.o9),
    by
    simp (config := { decide := true }) only [if_false]
    try (first | done | exact h.o12),
    by
    simp (config := { decide := true }) only [if_false]
    try (first | done | exact h.o17),
    by
    simp (config := { decide := true }) only [if_false]
    try (first | done | exact h.r4),
    by
    simp (config := { decide := true }) only [if_false]
    try (first | done | exact h.r9),
    by
    simp (config := { decide := true }) only [if_false]
    try (first | done | exact h.r12),
    by
    simp (config := { decide := true }) only [if_false]
    try (first | done | exact h.r17),
    by
    simp (config := { decide := true }) only [if_true, if_false]
    try (first | done | exact fun _ => ⟨hp, rfl⟩ | exact ⟨hp, rfl⟩ | exact fun _ => ⟨hp, trivial⟩ | exact ⟨hp, trivial⟩ | exact fun _ => hp | exact hp | exact h.r18),
    by
    simp (config := { decide := true }) only [if_false]
    try (first | done | exact h.r19)⟩
  · intro j v' hj hl
    by_cases c : j = 18
    · subst c
      rw [hD] at hj; cases hj
    · simp only [if_neg c] at hl ⊢
      exact h.det j v' hj hl
theorem SwI.n19 (h : SwI tp td W0 D fr to' nA nG nB cA cG cB L u w) (hD : D 19 = none) : SwI tp td W0 D fr to' nA nG nB cA cG cB (fun j => if j = 19 then true else L j) (fun j => if j = 19 then .pointer (some ⟨w.heap.size, 0, none⟩) else u j) (w.alloc (.cells #[.int .i64 0, .int .i64 0, .slice none 0 0] td)) := by
  refine ⟨h.bel.alloc h.bel.size _, ?_, by
    simp (config := { decide := true }) only [if_false]
    try (first | done | exact h.o9),
    by
    simp (config := { decide := true }) only [if_false]
    try (first | done | exact h.o12),
    by
    simp (config := { decide := true }) only [if_false]
    try (first | done | exact h.o17),
    by
    simp (config := { decide := true }) only [if_false]
    try (first | done | exact fun a b => (h.r4 a b).alloc _ | exact h.r4),
    by
    simp (config := { decide := true }) only [if_false]
    try (first | done | exact fun a b => (h.r9 a b).alloc _ | exact h.r9),
    by
    simp (config := { decide := true }) only [if_false]
    try (first | done | exact fun a b => (h.r12 a b).alloc _ | exact h.r12),
    by
    simp (config := { decide := true }) only [if_false]
    try (first | done | exact fun a => (h.r17 a).alloc _ | exact h.r17),
    by
    simp (config := { decide := true }) only [if_false]
    try (first | done | exact h.r18),
    by
    simp (config := { decide := true }) only [if_true]
    try (first | done | exact fun _ => ⟨w.heap.size, rfl, h.bel.size, Blk.made _ _ _⟩ | exact ⟨w.heap.size, rfl, h.bel.size, Blk.made _ _ _⟩ | exact h.r19)⟩
  · intro j v' hj hl
    by_cases c : j = 19
    · subst c
      rw [hD] at hj; cases hj
    · simp only [if_neg c] at hl ⊢
      exact h.det j v' hj hl
end
end Go.Proofs.YtaeipfnpglbooaaDoor

namespace Go.Proofs.YtaeipfnpglbooaaDoor
open Go.ChangeShapes Go.WideShapes Go.ChangeAt Go.RowKit

def swO0 : Oper := { dst := some 68, op := Op.fieldAddr 24 (Operand.tmp 7) 0, type := 0, pos := "law.go:93", after := #[], guard := none }
def swO1 : Oper := { dst := some 69, op := Op.load 2 (Operand.tmp 68), type := 2, pos := "law.go:93", after := #[{ on := 0, ground := Ground.data }], guard := none }
def swO2 : Oper := { dst := some 70, op := Op.fieldAddr 24 (Operand.tmp 7) 1, type := 0, pos := "law.go:93", after := #[], guard := none }
def swO3 : Oper := { dst := some 71, op := Op.load 2 (Operand.tmp 70), type := 2, pos := "law.go:93", after := #[{ on := 2, ground := Ground.data }], guard := none }
def swO4 : Oper := { dst := some 72, op := Op.buildSlice 22 0 #[], type := 22, pos := "law.go:93", after := #[], guard := none }
def swO5 : Oper := { dst := some 73, op := Op.fieldAddr 24 (Operand.tmp 7) 2, type := 0, pos := "law.go:93", after := #[], guard := none }
def swO6 : Oper := { dst := some 74, op := Op.load 22 (Operand.tmp 73), type := 22, pos := "law.go:93", after := #[{ on := 5, ground := Ground.data }], guard := none }
def swO7 : Oper := { dst := some 75, op := Op.move (Operand.tmp 13), type := 3, pos := "law.go:93", after := #[], guard := none }
def swO8 : Oper := { dst := some 76, op := Op.slice 22 (Operand.tmp 74) none (some (Operand.tmp 75)) none, type := 22, pos := "law.go:93", after := #[{ on := 6, ground := Ground.data }, { on := 7, ground := Ground.data }], guard := none }
def swO9 : Oper := { dst := some 77, op := Op.call { callee := Callee.builtin Builtin.append, args := #[Operand.tmp 72, Operand.tmp 76], argTypes := #[22, 22] }, type := 22, pos := "law.go:93", after := #[{ on := 4, ground := Ground.data }, { on := 8, ground := Ground.data }], guard := none }
def swO10 : Oper := { dst := some 78, op := Op.fieldAddr 24 (Operand.tmp 10) 2, type := 0, pos := "law.go:93", after := #[], guard := none }
def swO11 : Oper := { dst := some 79, op := Op.load 22 (Operand.tmp 78), type := 22, pos := "law.go:93", after := #[{ on := 10, ground := Ground.data }], guard := none }
def swO12 : Oper := { dst := some 80, op := Op.call { callee := Callee.builtin Builtin.append, args := #[Operand.tmp 77, Operand.tmp 79], argTypes := #[22, 22] }, type := 22, pos := "law.go:93", after := #[{ on := 9, ground := Ground.data }, { on := 11, ground := Ground.data }, { on := 9, ground := Ground.chain }], guard := none }
def swO13 : Oper := { dst := some 81, op := Op.fieldAddr 24 (Operand.tmp 7) 2, type := 0, pos := "law.go:93", after := #[], guard := none }
def swO14 : Oper := { dst := some 82, op := Op.load 22 (Operand.tmp 81), type := 22, pos := "law.go:93", after := #[{ on := 13, ground := Ground.data }], guard := none }
def swO15 : Oper := { dst := some 83, op := Op.move (Operand.tmp 14), type := 3, pos := "law.go:93", after := #[], guard := none }
def swO16 : Oper := { dst := some 84, op := Op.slice 22 (Operand.tmp 82) (some (Operand.tmp 83)) none none, type := 22, pos := "law.go:93", after := #[{ on := 14, ground := Ground.data }, { on := 15, ground := Ground.data }], guard := none }
def swO17 : Oper := { dst := some 85, op := Op.call { callee := Callee.builtin Builtin.append, args := #[Operand.tmp 80, Operand.tmp 84], argTypes := #[22, 22] }, type := 22, pos := "law.go:93", after := #[{ on := 12, ground := Ground.data }, { on := 16, ground := Ground.data }, { on := 12, ground := Ground.chain }], guard := none }
def swO18 : Oper := { dst := some 86, op := Op.build 24 #[(0, Operand.tmp 69), (1, Operand.tmp 71), (2, Operand.tmp 85)], type := 24, pos := "law.go:93", after := #[{ on := 1, ground := Ground.data }, { on := 3, ground := Ground.data }, { on := 17, ground := Ground.data }], guard := none }
def swO19 : Oper := { dst := some 15, op := Op.alloc 24, type := 0, pos := "law.go:93", after := #[], guard := none }
def swO20 : Oper := { dst := none, op := Op.store 24 (Operand.tmp 15) (Operand.tmp 86), type := 0, pos := "law.go:93", after := #[{ on := 19, ground := Ground.data }, { on := 18, ground := Ground.data }, { on := 17, ground := Ground.chain }, { on := 0, ground := Ground.phase }, { on := 1, ground := Ground.phase }, { on := 2, ground := Ground.phase }, { on := 3, ground := Ground.phase }, { on := 4, ground := Ground.phase }, { on := 5, ground := Ground.phase }, { on := 6, ground := Ground.phase }, { on := 7, ground := Ground.phase }, { on := 8, ground := Ground.phase }, { on := 9, ground := Ground.phase }, { on := 10, ground := Ground.phase }, { on := 11, ground := Ground.phase }, { on := 12, ground := Ground.phase }, { on := 13, ground := Ground.phase }, { on := 14, ground := Ground.phase }, { on := 15, ground := Ground.phase }, { on := 16, ground := Ground.phase }, { on := 17, ground := Ground.phase }, { on := 18, ground := Ground.phase }, { on := 19, ground := Ground.phase }], guard := none }
def swOps : List Oper := [swO0, swO1, swO2, swO3, swO4, swO5, swO6, swO7, swO8, swO9, swO10, swO11, swO12, swO13, swO14, swO15, swO16, swO17, swO18, swO19, swO20]
/-- The fixed values. -/
def swD (p1 p2 b1 off1 n c1 b2 off2 m c2 k en : Nat) (fr1 to1 : Int) : Nat → Option Value := fun i => ([some (.pointer (some ⟨p1, 0, none⟩)), some (.int .i64 fr1), some (.pointer (some ⟨p1, 1, none⟩)), some (.int .i64 to1), none, some (.pointer (some ⟨p1, 2, none⟩)), some (.slice (some ⟨b1, off1, none⟩) n c1), some (.int .i64 k), some (.slice (some ⟨b1, off1, none⟩) k c1), none, some (.pointer (some ⟨p2, 2, none⟩)), some (.slice (some ⟨b2, off2, none⟩) m c2), none, some (.pointer (some ⟨p1, 2, none⟩)), some (.slice (some ⟨b1, off1, none⟩) n c1), some (.int .i64 en), some (.slice (if c1 = en then some ⟨b1, off1, none⟩ else some ⟨b1, off1 + en * 5, none⟩) (n - en) (c1 - en)), none, none, none] : List (Option Value)).getD i none
section
variable {w3 : World} {p1 p2 b1 off1 n c1 b2 off2 m c2 k en : Nat} {fr1 to1 : Int} {cA cG cB : List Value} {a0 : Act}
abbrev swJ (w3 : World) (p1 p2 b1 off1 n c1 b2 off2 m c2 k en : Nat) (fr1 to1 : Int) (cA cG cB : List Value) := SwI 41 24 w3 (swD p1 p2 b1 off1 n c1 b2 off2 m c2 k en fr1 to1) fr1 to1 k m (n - en) cA cG cB
set_option maxHeartbeats 1000000 in
theorem sw_steps (hs : 100 ≤ a0.tmps.size) (h7 : a0.eval (.tmp 7) = .pointer (some ⟨p1, 0, none⟩)) (h10 : a0.eval (.tmp 10) = .pointer (some ⟨p2, 0, none⟩)) (h13 : a0.eval (.tmp 13) = .int .i64 k) (h14 : a0.eval (.tmp 14) = .int .i64 en)
    (d1 : Blk w3 p1 #[.int .i64 fr1, .int .i64 to1, .slice (some ⟨b1, off1, none⟩) n c1] 24) (d2 : ∃ x y, Blk w3 p2 #[x, y, .slice (some ⟨b2, off2, none⟩) m c2] 24)
    (hk : k ≤ en) (hen : en ≤ n) (hn : n ≤ c1) (_hm : m ≤ c2) (hn1 : n ≤ 100) (hm1 : m ≤ 100) (_hc1 : c1 ≤ 9223372036854775807)
    (sA : ∀ j u, cA[j]? = some u → w3.cell? ((⟨b1, off1, none⟩ : Addr).add j) = some u) (lA : cA.length = k * 5) (oA : ∀ u ∈ cA, u.oneCell' = true)
    (sG : ∀ j u, cG[j]? = some u → w3.cell? ((⟨b2, off2, none⟩ : Addr).add j) = some u) (lG : cG.length = m * 5) (oG : ∀ u ∈ cG, u.oneCell' = true)
    (sB : ∀ j u, cB[j]? = some u → w3.cell? ((⟨b1, off1 + en * 5, none⟩ : Addr).add j) = some u) (lB : cB.length = (n - en) * 5) (oB : ∀ u ∈ cB, u.oneCell' = true)
    (hb1 : b1 < w3.heap.size) (hb2 : b2 < w3.heap.size) :
    ∀ (i : Nat) (o : Oper), i < 20 → swOps[i]? = some o → CStep Tryd.prog swOps 20 a0 (swJ w3 p1 p2 b1 off1 n c1 b2 off2 m c2 k en fr1 to1 cA cG cB) i o := by
  obtain ⟨x2, y2, d2⟩ := d2
  have hp1 := d1.lt; have hp2 := d2.lt
  obtain ⟨J, hJ⟩ : ∃ J, J = swJ w3 p1 p2 b1 off1 n c1 b2 off2 m c2 k en fr1 to1 cA cG cB := ⟨_, rfl⟩
  rw [← hJ]
  obtain ⟨i0, hi0, hz0, hz1, hz2⟩ := info_parts Tryd.infoPart
  intro i o hi ho
  match i, hi with
  | 0, _ =>
    have e := Option.some.inj (show some swO0 = some o from ho)
    have hg : o.guard = none := by rw [← e]; rfl
    refine cstep_ev hg ?_
    intro E L u w E1 E0 EC hl hw hI
    rw [hJ] at hI ⊢
    subst e
    have e := (E0 7 (by kernel_rfl)).trans h7
    have hr : (execOp E swO0).run Tryd.prog w = .ok (.value (.pointer (some ⟨p1, 0, none⟩))) w := by simp [execOp, swO0, go_sem, e]
    rw [hr]
    exact hI.ndet (i := 0) rfl (by decide)
  | 1, _ =>
    have e := Option.some.inj (show some swO1 = some o from ho)
    have hg : o.guard = none := by rw [← e]; rfl
    refine cstep_ev hg ?_
    intro E L u w E1 E0 EC hl hw hI
    rw [hJ] at hI ⊢
    subst e
    have e := (E1 68 0 (by kernel_rfl) (by omega)).trans (hI.det 0 _ rfl (hw 0 (by decide) (by kernel_rfl)))
    have c := (hI.bel.cell (p := ⟨p1, 0, none⟩) hp1).trans (d1.cell 0)
    simp at c
    have hr : (execOp E swO1).run Tryd.prog w = .ok (.value (.int .i64 fr1)) w := by simp [execOp, swO1, go_sem, e, c]
    rw [hr]
    exact hI.ndet (i := 1) rfl (by decide)
  | 2, _ =>
    have e := Option.some.inj (show some swO2 = some o from ho)
    have hg : o.guard = none := by rw [← e]; rfl
    refine cstep_ev hg ?_
    intro E L u w E1 E0 EC hl hw hI
    rw [hJ] at hI ⊢
    subst e
    have e := (E0 7 (by kernel_rfl)).trans h7
    have hr : (execOp E swO2).run Tryd.prog w = .ok (.value (.pointer (some ⟨p1, 1, none⟩))) w := by simp [execOp, swO2, go_sem, e]
    rw [hr]
    exact hI.ndet (i := 2) rfl (by decide)
  | 3, _ =>
    have e := Option.some.inj (show some swO3 = some o from ho)
    have hg : o.guard = none := by rw [← e]; rfl
    refine cstep_ev hg ?_
    intro E L u w E1 E0 EC hl hw hI
    rw [hJ] at hI ⊢
    subst e
    have e := (E1 70 2 (by kernel_rfl) (by omega)).trans (hI.det 2 _ rfl (hw 2 (by decide) (by kernel_rfl)))
    have c := (hI.bel.cell (p := ⟨p1, 1, none⟩) hp1).trans (d1.cell 1)
    simp at c
    have hr : (execOp E swO3).run Tryd.prog w = .ok (.value (.int .i64 to1)) w := by simp [execOp, swO3, go_sem, e, c]
    rw [hr]
    exact hI.ndet (i := 3) rfl (by decide)
  | 4, _ =>
    have e := Option.some.inj (show some swO4 = some o from ho)
    have hg : o.guard = none := by rw [← e]; rfl
    refine cstep_ev hg ?_
    intro E L u w E1 E0 EC hl hw hI
    rw [hJ] at hI ⊢
    subst e
    have hr : (execOp E swO4).run Tryd.prog w = .ok (.value (.slice (some ⟨w.heap.size, 0, none⟩) 0 0)) (w.alloc (.cells #[] 41)) := by simp [execOp, swO4, go_sem]
    rw [hr]
    exact hI.n4 rfl hl
  | 5, _ =>
    have e := Option.some.inj (show some swO5 = some o from ho)
    have hg : o.guard = none := by rw [← e]; rfl
    refine cstep_ev hg ?_
    intro E L u w E1 E0 EC hl hw hI
    rw [hJ] at hI ⊢
    subst e
    have e := (E0 7 (by kernel_rfl)).trans h7
    have hr : (execOp E swO5).run Tryd.prog w = .ok (.value (.pointer (some ⟨p1, 2, none⟩))) w := by simp [execOp, swO5, go_sem, e]
    rw [hr]
    exact hI.ndet (i := 5) rfl (by decide)
  | 6, _ =>
    have e := Option.some.inj (show some swO6 = some o from ho)
    have hg : o.guard = none := by rw [← e]; rfl
    refine cstep_ev hg ?_
    intro E L u w E1 E0 EC hl hw hI
    rw [hJ] at hI ⊢
    subst e
    have e := (E1 73 5 (by kernel_rfl) (by omega)).trans (hI.det 5 _ rfl (hw 5 (by decide) (by kernel_rfl)))
    have c := (hI.bel.cell (p := ⟨p1, 2, none⟩) hp1).trans (d1.cell 2)
    simp at c
    have hr : (execOp E swO6).run Tryd.prog w = .ok (.value (.slice (some ⟨b1, off1, none⟩) n c1)) w := by simp [execOp, swO6, go_sem, e, c]
    rw [hr]
    exact hI.ndet (i := 6) rfl (by decide)
  | 7, _ =>
    have e := Option.some.inj (show some swO7 = some o from ho)
    have hg : o.guard = none := by rw [← e]; rfl
    refine cstep_ev hg ?_
    intro E L u w E1 E0 EC hl hw hI
    rw [hJ] at hI ⊢
    subst e
    have e := (E0 13 (by kernel_rfl)).trans h13
    have hr : (execOp E swO7).run Tryd.prog w = .ok (.value (.int .i64 k)) w := by simp [execOp, swO7, go_sem, e]
    rw [hr]
    exact hI.ndet (i := 7) rfl (by decide)
  | 8, _ =>
    have e := Option.some.inj (show some swO8 = some o from ho)
    have hg : o.guard = none := by rw [← e]; rfl
    refine cstep_ev hg ?_
    intro E L u w E1 E0 EC hl hw hI
    rw [hJ] at hI ⊢
    subst e
    have e := (E1 74 6 (by kernel_rfl) (by omega)).trans (hI.det 6 _ rfl (hw 6 (by decide) (by kernel_rfl)))
    have e2 := (E1 75 7 (by kernel_rfl) (by omega)).trans (hI.det 7 _ rfl (hw 7 (by decide) (by kernel_rfl)))
    have hkc : k ≤ c1 := by omega
    have hr : (execOp E swO8).run Tryd.prog w = .ok (.value (.slice (some ⟨b1, off1, none⟩) k c1)) w := by simp [execOp, swO8, go_sem, e, e2, hkc]
    rw [hr]
    exact hI.ndet (i := 8) rfl (by decide)
  | 9, _ =>
    have e := Option.some.inj (show some swO9 = some o from ho)
    have hg : o.guard = none := by rw [← e]; rfl
    refine cstep_ev hg ?_
    intro E L u w E1 E0 EC hl hw hI
    rw [hJ] at hI ⊢
    subst e
    have e2 := (E1 76 8 (by kernel_rfl) (by omega)).trans (hI.det 8 _ rfl (hw 8 (by decide) (by kernel_rfl)))
    have e := E1 72 4 (by kernel_rfl) (by omega)
    have l0 := hw 4 (by decide) (by kernel_rfl)
    refine gives_append (.tmp 72) (.tmp 76) 22 rfl w3.heap.size 41 i0 (.agg #[.int .u8 0, .int .u32 0, .int .u32 0, .int .i64 0, .int .i64 0]) 5 32 Tryd.underlying22 hi0 hz0 hz1 hz2 rfl (by decide) (u 4) (0) ([]) e (hI.r4 l0 hl) ⟨b1, off1, none⟩ (k) (c1) cA e2 lA (fun j y h => (hI.bel.cell (by rw [add_block]; exact hb1)).trans (sA j y h)) oA (by unfold maxLen; omega) (by omega) hI.bel.size (fun v' w' ho hg => ?_)
    exact hI.n9 (by decide) rfl hl l0 (by simpa using ho) hg
  | 10, _ =>
    have e := Option.some.inj (show some swO10 = some o from ho)
    have hg : o.guard = none := by rw [← e]; rfl
    refine cstep_ev hg ?_
    intro E L u w E1 E0 EC hl hw hI
    rw [hJ] at hI ⊢
    subst e
    have e := (E0 10 (by kernel_rfl)).trans h10
    have hr : (execOp E swO10).run Tryd.prog w = .ok (.value (.pointer (some ⟨p2, 2, none⟩))) w := by simp [execOp, swO10, go_sem, e]
    rw [hr]
    exact hI.ndet (i := 10) rfl (by decide)
  | 11, _ =>
    have e := Option.some.inj (show some swO11 = some o from ho)
    have hg : o.guard = none := by rw [← e]; rfl
    refine cstep_ev hg ?_
    intro E L u w E1 E0 EC hl hw hI
    rw [hJ] at hI ⊢
    subst e
    have e := (E1 78 10 (by kernel_rfl) (by omega)).trans (hI.det 10 _ rfl (hw 10 (by decide) (by kernel_rfl)))
    have c := (hI.bel.cell (p := ⟨p2, 2, none⟩) hp2).trans (d2.cell 2)
    simp at c
    have hr : (execOp E swO11).run Tryd.prog w = .ok (.value (.slice (some ⟨b2, off2, none⟩) m c2)) w := by simp [execOp, swO11, go_sem, e, c]
    rw [hr]
    exact hI.ndet (i := 11) rfl (by decide)
  | 12, _ =>
    have e := Option.some.inj (show some swO12 = some o from ho)
    have hg : o.guard = none := by rw [← e]; rfl
    refine cstep_ev hg ?_
    intro E L u w E1 E0 EC hl hw hI
    rw [hJ] at hI ⊢
    subst e
    have e2 := (E1 79 11 (by kernel_rfl) (by omega)).trans (hI.det 11 _ rfl (hw 11 (by decide) (by kernel_rfl)))
    have e := E1 77 9 (by kernel_rfl) (by omega)
    have l0 := hw 9 (by decide) (by kernel_rfl)
    refine gives_append (.tmp 77) (.tmp 79) 22 rfl w3.heap.size 41 i0 (.agg #[.int .u8 0, .int .u32 0, .int .u32 0, .int .i64 0, .int .i64 0]) 5 32 Tryd.underlying22 hi0 hz0 hz1 hz2 rfl (by decide) (u 9) (k) (cA) e (hI.r9 l0 hl) ⟨b2, off2, none⟩ (m) (c2) cG e2 lG (fun j y h => (hI.bel.cell (by rw [add_block]; exact hb2)).trans (sG j y h)) oG (by unfold maxLen; omega) (by omega) hI.bel.size (fun v' w' ho hg => ?_)
    exact hI.n12 (by decide) rfl hl l0 ho hg
  | 13, _ =>
    have e := Option.some.inj (show some swO13 = some o from ho)
    have hg : o.guard = none := by rw [← e]; rfl
    refine cstep_ev hg ?_
    intro E L u w E1 E0 EC hl hw hI
    rw [hJ] at hI ⊢
    subst e
    have e := (E0 7 (by kernel_rfl)).trans h7
    have hr : (execOp E swO13).run Tryd.prog w = .ok (.value (.pointer (some ⟨p1, 2, none⟩))) w := by simp [execOp, swO13, go_sem, e]
    rw [hr]
    exact hI.ndet (i := 13) rfl (by decide)
  | 14, _ =>
    have e := Option.some.inj (show some swO14 = some o from ho)
    have hg : o.guard = none := by rw [← e]; rfl
    refine cstep_ev hg ?_
    intro E L u w E1 E0 EC hl hw hI
    rw [hJ] at hI ⊢
    subst e
    have e := (E1 81 13 (by kernel_rfl) (by omega)).trans (hI.det 13 _ rfl (hw 13 (by decide) (by kernel_rfl)))
    have c := (hI.bel.cell (p := ⟨p1, 2, none⟩) hp1).trans (d1.cell 2)
    simp at c
    have hr : (execOp E swO14).run Tryd.prog w = .ok (.value (.slice (some ⟨b1, off1, none⟩) n c1)) w := by simp [execOp, swO14, go_sem, e, c]
    rw [hr]
    exact hI.ndet (i := 14) rfl (by decide)
  | 15, _ =>
    have e := Option.some.inj (show some swO15 = some o from ho)
    have hg : o.guard = none := by rw [← e]; rfl
    refine cstep_ev hg ?_
    intro E L u w E1 E0 EC hl hw hI
    rw [hJ] at hI ⊢
    subst e
    have e := (E0 14 (by kernel_rfl)).trans h14
    have hr : (execOp E swO15).run Tryd.prog w = .ok (.value (.int .i64 en)) w := by simp [execOp, swO15, go_sem, e]
    rw [hr]
    exact hI.ndet (i := 15) rfl (by decide)
  | 16, _ =>
    have e := Option.some.inj (show some swO16 = some o from ho)
    have hg : o.guard = none := by rw [← e]; rfl
    refine cstep_ev hg ?_
    intro E L u w E1 E0 EC hl hw hI
    rw [hJ] at hI ⊢
    subst e
    have e := (E1 82 14 (by kernel_rfl) (by omega)).trans (hI.det 14 _ rfl (hw 14 (by decide) (by kernel_rfl)))
    have e2 := (E1 83 15 (by kernel_rfl) (by omega)).trans (hI.det 15 _ rfl (hw 15 (by decide) (by kernel_rfl)))
    have hr : (execOp E swO16).run Tryd.prog w = .ok (.value (.slice (if c1 = en then some ⟨b1, off1, none⟩ else some ⟨b1, off1 + en * 5, none⟩) (n - en) (c1 - en))) w := by simp [execOp, swO16, go_sem, e, e2, hen]
    rw [hr]
    exact hI.ndet (i := 16) rfl (by decide)
  | 17, _ =>
    have e := Option.some.inj (show some swO17 = some o from ho)
    have hg : o.guard = none := by rw [← e]; rfl
    refine cstep_ev hg ?_
    intro E L u w E1 E0 EC hl hw hI
    rw [hJ] at hI ⊢
    subst e
    have e2 := (E1 84 16 (by kernel_rfl) (by omega)).trans (hI.det 16 _ rfl (hw 16 (by decide) (by kernel_rfl)))
    by_cases hce : c1 = en
    · rw [if_pos hce] at e2
      have hB0 : cB = [] := List.eq_nil_of_length_eq_zero (by rw [lB]; omega)
      have e := E1 80 12 (by kernel_rfl) (by omega)
      have l0 := hw 12 (by decide) (by kernel_rfl)
      refine gives_append (.tmp 80) (.tmp 84) 22 rfl w3.heap.size 41 i0 (.agg #[.int .u8 0, .int .u32 0, .int .u32 0, .int .i64 0, .int .i64 0]) 5 32 Tryd.underlying22 hi0 hz0 hz1 hz2 rfl (by decide) (u 12) (k + m) (cA ++ cG) e (hI.r12 l0 hl) ⟨b1, off1, none⟩ (n - en) (c1 - en) cB e2 lB (fun j y h => (hI.bel.cell (by rw [add_block]; exact hb1)).trans ((fun j u h => by rw [hB0] at h; simp at h) j y h)) oB (by unfold maxLen; omega) (by omega) hI.bel.size (fun v' w' ho hg => ?_)
      exact hI.n17 (by decide) rfl hl l0 ho hg
    · rw [if_neg hce] at e2
      have e := E1 80 12 (by kernel_rfl) (by omega)
      have l0 := hw 12 (by decide) (by kernel_rfl)
      refine gives_append (.tmp 80) (.tmp 84) 22 rfl w3.heap.size 41 i0 (.agg #[.int .u8 0, .int .u32 0, .int .u32 0, .int .i64 0, .int .i64 0]) 5 32 Tryd.underlying22 hi0 hz0 hz1 hz2 rfl (by decide) (u 12) (k + m) (cA ++ cG) e (hI.r12 l0 hl) ⟨b1, off1 + en * 5, none⟩ (n - en) (c1 - en) cB e2 lB (fun j y h => (hI.bel.cell (by rw [add_block]; exact hb1)).trans (sB j y h)) oB (by unfold maxLen; omega) (by omega) hI.bel.size (fun v' w' ho hg => ?_)
      exact hI.n17 (by decide) rfl hl l0 ho hg
  | 18, _ =>
    have e := Option.some.inj (show some swO18 = some o from ho)
    have hg : o.guard = none := by rw [← e]; rfl
    refine cstep_ev hg ?_
    intro E L u w E1 E0 EC hl hw hI
    rw [hJ] at hI ⊢
    subst e
    have e := (E1 69 1 (by kernel_rfl) (by omega)).trans (hI.det 1 _ rfl (hw 1 (by decide) (by kernel_rfl)))
    have e2 := (E1 71 3 (by kernel_rfl) (by omega)).trans (hI.det 3 _ rfl (hw 3 (by decide) (by kernel_rfl)))
    have e3 := E1 85 17 (by kernel_rfl) (by omega)
    have l0 := hw 17 (by decide) (by kernel_rfl)
    have ho17 := hI.r17 l0
    have hx17 : ∃ a cap, u 17 = .slice a (k + m + (n - en)) cap := own_sli ho17
    clear ho17
    have hr : (execOp E swO18).run Tryd.prog w = .ok (.value (.agg #[.int .i64 fr1, .int .i64 to1, u 17])) w := by
      obtain ⟨a17, c17, e17⟩ := hx17
      simp [execOp, swO18, go_sem, e, e2, e3, e17]
    have K := hI.n18 (show swD p1 p2 b1 off1 n c1 b2 off2 m c2 k en fr1 to1 18 = none from rfl) l0
    rw [hr]
    exact K
  | 19, _ =>
    have e := Option.some.inj (show some swO19 = some o from ho)
    have hg : o.guard = none := by rw [← e]; rfl
    refine cstep_ev hg ?_
    intro E L u w E1 E0 EC hl hw hI
    rw [hJ] at hI ⊢
    subst e
    have hr : (execOp E swO19).run Tryd.prog w = .ok (.value (.pointer (some ⟨w.heap.size, 0, none⟩))) (w.alloc (.cells #[.int .i64 0, .int .i64 0, .slice none 0 0] 24)) := by simp [execOp, swO19, go_sem]
    rw [hr]
    exact hI.n19 rfl
  | i + 20, h => exact absurd h (by omega)
end
end Go.Proofs.YtaeipfnpglbooaaDoor

namespace Go.Proofs.YtaeipfnpglbooaaDoor
open Go.ChangeShapes Go.WideShapes Go.ChangeAt Go.RowKit
attribute [local irreducible] Go.Calls

/-- What is kept: the two definitions that were told. -/
def SwSt (W : World) (p : Nat) (fr1 to1 : Int) (a1 : Option Addr) (c1 n : Nat) (L : List Prt) (q : Nat) (fr2 to2 : Int) (a2 : Option Addr) (c2 m : Nat) (R : List Prt) (w : World) : Prop :=
  Below W.heap.size W w ∧ Blk w p #[.int .i64 fr1, .int .i64 to1, .slice a1 n c1] 24 ∧ Blk w q #[.int .i64 fr2, .int .i64 to2, .slice a2 m c2] 24 ∧ ArgP w a1 L ∧ ArgP w a2 R
section
variable {W : World} {p : Nat} {fr1 to1 : Int} {a1 : Option Addr} {c1 n : Nat} {L : List Prt} {q : Nat} {fr2 to2 : Int} {a2 : Option Addr} {c2 m : Nat} {R : List Prt} {w w' : World}
theorem SwSt.past (h : SwSt W p fr1 to1 a1 c1 n L q fr2 to2 a2 c2 m R w) (hb : Below w.heap.size w w') : SwSt W p fr1 to1 a1 c1 n L q fr2 to2 a2 c2 m R w' := ⟨h.1.trans (hb.mono h.1.size), h.2.1.past hb, h.2.2.1.past hb, h.2.2.2.1.past hb, h.2.2.2.2.past hb⟩
theorem SwSt.bel (h : SwSt W p fr1 to1 a1 c1 n L q fr2 to2 a2 c2 m R w) : Below W.heap.size W w := h.1
theorem SwSt.d1 (h : SwSt W p fr1 to1 a1 c1 n L q fr2 to2 a2 c2 m R w) : Blk w p #[.int .i64 fr1, .int .i64 to1, .slice a1 n c1] 24 := h.2.1
theorem SwSt.d2 (h : SwSt W p fr1 to1 a1 c1 n L q fr2 to2 a2 c2 m R w) : Blk w q #[.int .i64 fr2, .int .i64 to2, .slice a2 m c2] 24 := h.2.2.1
theorem SwSt.l1 (h : SwSt W p fr1 to1 a1 c1 n L q fr2 to2 a2 c2 m R w) : ArgP w a1 L := h.2.2.2.1
theorem SwSt.l2 (h : SwSt W p fr1 to1 a1 c1 n L q fr2 to2 a2 c2 m R w) : ArgP w a2 R := h.2.2.2.2
end
set_option maxRecDepth 100000 in
set_option maxHeartbeats 4000000 in
theorem lswap_main (s t : List UInt8) (at0 : Int) (W : World) (hs : s.length ≤ 2000) (ht : t.length ≤ 2000) (h0 : 0 ≤ at0 ∧ at0 ≤ 255) (e1 : (parseS s).2.2 = 0) (e2 : (parseS t).2.2 = 0) (hT : Tab W) :
    Calls Tryd.prog 4 #[strV s, strV t, .int .u8 at0] W fun e w' => e = .returned (.bool true) ∧ Below W.heap.size W w' := by
  have HH := hidE (fun w (hb : Below W.heap.size W w) => head_c w (hT.past hb))
  have HTB := hidE (fun w (hb : Below W.heap.size W w) => hT.past hb)
  clear hT
  obtain ⟨fr1, to1, F, hF, f1, f2, f3, f4, f5, f6, f7⟩ := parse_ok e1
  obtain ⟨fr2, to2, G, hG, g1, g2, g3, g4, g5, g6, g7⟩ := parse_ok e2
  have HPF := hidE hF; have HPG := hidE hG
  have sl : (⟨s.toArray⟩ : ByteArray).size = s.length := by simp [ByteArray.size]
  have tl : (⟨t.toArray⟩ : ByteArray).size = t.length := by simp [ByteArray.size]
  have q1 : decide ((s.length : Int) > 2000) = false := decide_eq_false (by omega)
  have q2 : decide (2000 < s.length) = false := decide_eq_false (by omega)
  have q3 : decide ((t.length : Int) > 2000) = false := decide_eq_false (by omega)
  have q4 : decide (2000 < t.length) = false := decide_eq_false (by omega)
  have hFl := flat_len F; have hGl := flat_len G
  have hF0 := len_size F
  obtain ⟨n, hn⟩ : ∃ n : Nat, n = F.flat.length := ⟨_, rfl⟩
  obtain ⟨m, hm⟩ : ∃ m : Nat, m = G.flat.length := ⟨_, rfl⟩
  have hn1 : 1 ≤ n ∧ n ≤ 64 := by omega
  have hm1 : m ≤ 64 := by omega
  have q5 : ((n : Int) == 0) = false := beq_eq_false_iff_ne.2 (by omega)
  have q6 : (n == 0) = false := beq_eq_false_iff_ne.2 (by omega)
  obtain ⟨k, ek⟩ : ∃ k : Nat, at0.tmod (n : Int) = (k : Int) := ⟨(at0.tmod n).toNat, by rw [Int.tmod_eq_emod_of_nonneg h0.1]; have := Int.emod_nonneg at0 (show (n : Int) ≠ 0 by omega); omega⟩
  have hk : k < n := by rw [Int.tmod_eq_emod_of_nonneg h0.1] at ek; have := Int.emod_lt_of_pos at0 (show (0 : Int) < n by omega); omega
  have q7 : ¬ (n : Int) = 0 := by omega
  obtain ⟨A, T, B, t1, t2, t3, t4, t5⟩ := fst_graft F k (by omega)
  obtain ⟨x, kids, rfl⟩ := one_cons t1
  obtain ⟨X, x1, x2, x3⟩ := t5 G g4
  have hX := x3 f3 g3
  have hTw := t4 f3
  have hxk : x.kind ≤ 4 := (wf_kok _ hTw).1
  have hkk : kids.kok := (wf_kok _ hTw).2.2.1
  obtain ⟨en, hen⟩ : ∃ en : Nat, en = k + 1 + kids.size := ⟨_, rfl⟩
  have hnl : n = A.length + (kids.size + 1) + B.length := by
    rw [hn, t2]; simp only [List.length_append, flat_len, Fst.size]; omega
  have hE := hidE (fun (a : Option Addr) (c : Nat) w hA => show Calls Tryd.prog 12 #[.slice a n c, .int .i64 k] w fun e w' => e = .returned (.int .i64 en) ∧ Below w.heap.size w w' from by
    have := end_c (kids.size + 1) x kids A B F.flat a c k w (by omega) hxk hkk (by rw [t2]; simp [Fst.flat]) t3.symm (by omega) hA
    rw [← hn, ← hen] at this
    exact this)
  have hen2 : en ≤ n := by omega
  have q8 : decide ((en : Int) < 0) = false := decide_eq_false (by omega)
  have HN := hidE hn; have HM := hidE hm; have HT2 := hidE t2; have HX2 := hidE x2; have HEN := hidE hen; have HT3 := hidE t3
  clear hn hm t2 x2 hen t3 t4 t5 t1 x3 hF hG e1 e2 hFl hGl
  have HNL := hidE hnl; clear hnl
  have hsl : s.length ≤ 9223372036854775807 := by omega
  have htl : t.length ≤ 9223372036854775807 := by omega
  have HP1 := hidE (fun w hT => par_is HPF.out hsl ⟨s.toArray⟩ rfl w hT)
  have HP2 := hidE (fun w hT => par_is HPG.out htl ⟨t.toArray⟩ rfl w hT)
  go_enter Tryd.func4, Tryd.ntmps4
  go_wp2_with fail
  ((with_reducible refine (HP1.out _ (HTB.out _ (by (repeat (first | exact Below.refl _ _ | assumption | refine balloc ?_ _ | refine below_drewN ?_ _ | refine bstep (by assumption) ?_ | refine bstep (Past.prop _) ?_ | refine Below.setCell ?_ (by first | exact Nat.le_refl _ | (simp; done) | (simp; omega)) _))))).mono ?_); rintro e w1 ⟨a1, c1, rfl, hcp1, hcm1, hA1, hb1⟩)
  simp only at hA1 hcp1
  rw [← HN.out] at hcp1
  simp only [← HN.out]
  have HA1 := hidE hA1; have HB1 := hidE hb1
  clear hA1 hb1
  go_wp2_with fail
  ((with_reducible refine (HP2.out _ (HTB.out _ (by have := HB1.out; (repeat (first | exact Below.refl _ _ | assumption | refine balloc ?_ _ | refine below_drewN ?_ _ | refine bstep (by assumption) ?_ | refine bstep (Past.prop _) ?_ | refine Below.setCell ?_ (by first | exact Nat.le_refl _ | (simp; done) | (simp; omega)) _))))).mono ?_); rintro e w2 ⟨a2, c2, rfl, hcp2, _, hA2, hb2⟩)
  simp only at hA2 hcp2
  rw [← HM.out] at hcp2
  simp only [← HM.out]
  have HS := hidE (show SwSt W w1.heap.size fr1 to1 a1 c1 n F.flat w2.heap.size fr2 to2 a2 c2 m G.flat (w2.alloc (.cells #[.int .i64 fr2, .int .i64 to2, .slice a2 m c2] 24)) from
    ⟨by have := HB1.out; (repeat (first | exact Below.refl _ _ | assumption | refine balloc ?_ _ | refine below_drewN ?_ _ | refine bstep (by assumption) ?_ | refine bstep (Past.prop _) ?_ | refine Below.setCell ?_ (by first | exact Nat.le_refl _ | (simp; done) | (simp; omega)) _)), ((Blk.made w1 _ _).past hb2).alloc _, Blk.made _ _ _, (HA1.out.past (by (repeat (first | exact Below.refl _ _ | assumption | refine balloc ?_ _ | refine below_drewN ?_ _ | refine bstep (by assumption) ?_ | refine bstep (Past.prop _) ?_ | refine Below.setCell ?_ (by first | exact Nat.le_refl _ | (simp; done) | (simp; omega)) _)))), hA2.past (by (repeat (first | exact Below.refl _ _ | assumption | refine balloc ?_ _ | refine below_drewN ?_ _ | refine bstep (by assumption) ?_ | refine bstep (Past.prop _) ?_ | refine Below.setCell ?_ (by first | exact Nat.le_refl _ | (simp; done) | (simp; omega)) _)))⟩)
  clear HA1 HB1 hA2 hb2
  have r0 := HS.out.d1.cell 0; have r1 := HS.out.d1.cell 1; have r2 := HS.out.d1.cell 2; have rz := HS.out.d1.lt
  have s2 := HS.out.d2.cell 2; have sz := HS.out.d2.lt
  simp at r0 r1 r2 s2
  go_upto_region 9 with ((with_reducible refine (hE.out _ _ _ HS.out.l1).mono ?_); rintro e w3 ⟨rfl, hb3⟩)
  have HS3 := hidE (HS.out.past hb3)
  clear HS hb3 r0 r1 r2 rz s2 sz
  go_cut [15] (fun s15 wx => ∃ (p3 : Nat) (a3 : Option Addr) (c3 : Nat), s15 = .pointer (some ⟨p3, 0, none⟩) ∧ Blk wx p3 #[.int .i64 fr1, .int .i64 to1, .slice a3 X.flat.length c3] 24 ∧ ArgP wx a3 X.flat ∧ Below W.heap.size W wx)
  case first =>
    obtain ⟨i0, hi, hz0, hz1, hz2⟩ := info_parts Tryd.infoPart
    have HI := hidE hi; have HZ0 := hidE hz0; have HZ1 := hidE hz1; have HZ2 := hidE hz2
    clear hi hz0 hz1 hz2
    generalize w1.heap.size = p1 at *
    generalize w2.heap.size = p2 at *
    obtain ⟨b1, off1, rfl, hb1, hc1⟩ := HS3.out.l1 (by have := HN.out; omega)
    obtain ⟨b2, off2, rfl, hb2, hc2⟩ := HS3.out.l2 (by have := len_size G; have := flat_len G; omega)
    have HC1 := hidE hc1; have HC2 := hidE hc2
    clear hc1 hc2
    have hD1 := HS3.out.d1; have hD2 := HS3.out.d2
    have hA0 : A.length = k := HT3.out
    refine wp_region_C (l := swOps) 20 (swJ w3 p1 p2 b1 off1 n c1 b2 off2 m c2 k en fr1 to1 (cellsOfP A) (cellsOfP G.flat) (cellsOfP B)) (by kernel_rfl) (by decide) (by kernel_rfl) ?start ?step ?tail
    case start => exact ⟨(Below.refl _ _).drew, fun _ _ _ h => (by cases h), fun h => (by cases h), fun h => (by cases h), fun h => (by cases h), fun h => (by cases h), fun h => (by cases h), fun h => (by cases h), fun h => (by cases h), fun h => (by cases h), fun h => (by cases h)⟩
    case step =>
      have hT : (Fst.cons x kids Fst.nil).flat.length = kids.size + 1 := by rw [flat_len]; simp [Fst.size]
      have hcA : CellsP w3 b1 off1 A := by
        have := cellsP_part (w := w3) (b := b1) (off := off1) (A := []) (B := A) (C := (Fst.cons x kids Fst.nil).flat ++ B) (by rw [List.nil_append, ← HT2.out]; exact HC1.out)
        simpa using this
      have hcB : CellsP w3 b1 (off1 + en * 5) B := by
        have := cellsP_part (w := w3) (b := b1) (off := off1) (A := A ++ (Fst.cons x kids Fst.nil).flat) (B := B) (C := []) (by rw [List.append_nil, List.append_assoc, ← HT2.out]; exact HC1.out)
        rw [List.length_append, hT, hA0, show k + (kids.size + 1) = en by have := HEN.out; omega] at this
        exact this
      exact sw_steps (Nat.le_of_ble_eq_true rfl) rfl rfl rfl rfl hD1 ⟨_, _, hD2⟩ (by have := HEN.out; omega) hen2 hcp1 hcp2 (by omega) (by omega) hcm1 (srcP hcA) (by rw [cellsOfP_len, hA0]) (cellsP_one A) (srcP HC2.out) (by rw [cellsOfP_len, ← HM.out]) (cellsP_one _) (srcP hcB) (by rw [cellsOfP_len]; have := HNL.out; have := HEN.out; congr 1; omega) (cellsP_one B) hb1 hb2
    case tail =>
      intro L u w hL hI
      obtain ⟨px, e19, hpx, hB⟩ := hI.r19 (hL 19 (by decide))
      have e18 := (hI.r18 (hL 18 (by decide))).2
      have e17 := hI.r17 (hL 17 (by decide))
      have hbw := hI.bel
      have hXc : cellsOfP A ++ cellsOfP G.flat ++ cellsOfP B = cellsOfP X.flat := by rw [HX2.out, cellsOfP_app, cellsOfP_app, List.append_assoc]
      have hXl : k + m + (n - en) = X.flat.length := by
        rw [HX2.out, List.length_append, List.length_append, hA0, ← HM.out]
        have := HNL.out; have := HEN.out; omega
      rw [hXc, hXl] at e17
      have hap := pown_apart e17 hB (by decide)
      obtain ⟨a17, c17, e17'⟩ := own_sli e17
      rw [e17'] at e17 e18 hap
      have HO := hidE e17; have HAP := hidE hap; have HBX := hidE hB; have HBW := hidE (HS3.out.bel.trans (hbw.mono HS3.out.bel.size))
      have x0 := hB.cell 0; have x1 := hB.cell 1; have x2 := hB.cell 2; have xf := hB.free; have xz := hB.lt
      simp at x0 x1 x2
      have hws := HS3.out.bel.size
      simp only [swOps, swO0, swO1, swO2, swO3, swO4, swO5, swO6, swO7, swO8, swO9, swO10, swO11, swO12, swO13, swO14, swO15, swO16, swO17, swO18, swO19, swO20, frm, List.take, List.drop, Act.put, e18, e19]
      clear hI hL e17 hap hB hbw hD1 hD2 HC1 HC2 HS3 hE HPF HPG HP1 HP2 e17' e18 e19
      go_wp2
      go_meet
      case rel =>
        have hO := own_kept (B := ((w.setCell ⟨px, 0, none⟩ (.int .i64 fr1)).setCell ⟨px, 1, none⟩ (.int .i64 to1)).setCell ⟨px, 2, none⟩ (.slice a17 X.flat.length c17)) HO.out (fun kk e => by
          have hne : kk ≠ px := fun c => HAP.out (by rw [e, c])
          exact (keptS hne _).trans ((keptS hne _).trans (keptS hne _)))
        obtain ⟨a', c', e', _, _, hA'⟩ := sliP_own hO
        cases e'
        refine ⟨px, a17, c17, rfl, by simpa using ((HBX.out.set 0 (.int .i64 fr1)).set 1 (.int .i64 to1)).set 2 (.slice a17 X.flat.length c17), hA', ?_⟩
        exact ((HBW.out.setCell (p := ⟨px, 0, none⟩) (by show W.heap.size ≤ px; omega) _).setCell (p := ⟨px, 1, none⟩) (by show W.heap.size ≤ px; omega) _).setCell (p := ⟨px, 2, none⟩) (by show W.heap.size ≤ px; omega) _
  case rest =>
    obtain ⟨p3, a3, c3, rfl, hB3, hA3, hbb3⟩ := hcut
    have HD := hidE hB3; have HA := hidE hA3; have HB := hidE hbb3
    clear hB3 hA3 hbb3 HS3
    have hXl : X.flat.length ≤ 1000 := by
      have := congrArg List.length HX2.out
      have h2 := HNL.out
      simp only [List.length_append] at this
      have h3 := HM.out
      omega
    obtain ⟨xl, hxl⟩ : ∃ xl : Nat, xl = X.flat.length := ⟨_, rfl⟩
    rw [← hxl] at hXl HD
    have HXL := hidE hxl
    have HXK := hidE (wf_kok X hX)
    have hX1 : X.len = 1 := x1.trans f4
    have HPT := hidE (fun h => parse_text f1 f2 hX hX1 (show (textD fr1 to1 X).length ≤ 4096 from h))
    have HOP := hidE (fun i (h : badI X 8 0 = some i) => deep_open f1 f2 hX h)
    rw [← print_text f1 f2 hX] at HPT HOP
    have HX1 := hidE hX1; have HWF := hidE hX; have HF1 := hidE f1; have HF2 := hidE f2
    clear hxl hX1 x1 f4 f1 f2 hX f3 f5 f6 f7 g1 g2 g3 g4 g5 g6 g7
    have r0 := HD.out.cell 0; have r1 := HD.out.cell 1; have r2 := HD.out.cell 2; have rz := HD.out.lt
    simp at r0 r1 r2
    go_wp2_with fail
    ((with_reducible refine (print_is HF1.out HF2.out HWF.out HXK.out HX1.out HXL.out (by omega) _ _ _ HA.out (HTB.out _ HB.out)).mono ?_); rintro e w5 ⟨rfl, hb5, htl⟩)
    have HD5 := hidE (HD.out.past hb5); have HA5 := hidE (HA.out.past hb5); have HB5 := hidE (HB.out.trans (hb5.mono HB.out.size))
    clear HD HA HB hb5 r0 r1 r2 rz
    generalize printF fr1 to1 X = u at *
    have ul : (⟨u.toArray⟩ : ByteArray).size = u.length := by simp [ByteArray.size]
    by_cases c : u.length ≤ 4096
    · have l1 : decide ((u.length : Int) > 4096) = false := decide_eq_false (by omega)
      have l2 : decide (4096 < u.length) = false := decide_eq_false (by omega)
      have hpt := HPT.out c
      clear c
      cases hb : badI X 8 0 with
      | none =>
        rw [hb] at hpt
        have HQ := hidE hpt
        clear hpt hb
        go_wp2_with fail
        ((with_reducible refine (par_is HQ.out (by omega) _ ?hb _ (HTB.out _ HB5.out)).mono ?_))
        case hb => rfl
        rintro e w6 ⟨a6, c6, rfl, _, _, hA6, hb6⟩
        simp only at hA6
        simp only [← HXL.out]
        have HB6 := hidE (HB5.out.trans (hb6.mono HB5.out.size))
        have r0 := (HD5.out.past hb6).cell 0; have r1 := (HD5.out.past hb6).cell 1; have r2 := (HD5.out.past hb6).cell 2; have rz := (HD5.out.past hb6).lt
        simp at r0 r1 r2
        have HA6 := hidE hA6; have HA56 := hidE (HA5.out.past hb6)
        have HB7 := hidE (HB6.out.alloc HB6.out.size (.cells #[.int .i64 fr1, .int .i64 to1, .slice a6 xl c6] 24))
        have HA7 := hidE (HA6.out.past (w' := w6.alloc (.cells #[.int .i64 fr1, .int .i64 to1, .slice a6 xl c6] 24)) (by (repeat (first | exact Below.refl _ _ | assumption | refine balloc ?_ _ | refine below_drewN ?_ _ | refine bstep (by assumption) ?_ | refine bstep (Past.prop _) ?_ | refine Below.setCell ?_ (by first | exact Nat.le_refl _ | (simp; done) | (simp; omega)) _))))
        have HA57 := hidE (HA56.out.past (w' := w6.alloc (.cells #[.int .i64 fr1, .int .i64 to1, .slice a6 xl c6] 24)) (by (repeat (first | exact Below.refl _ _ | assumption | refine balloc ?_ _ | refine below_drewN ?_ _ | refine bstep (by assumption) ?_ | refine bstep (Past.prop _) ?_ | refine Below.setCell ?_ (by first | exact Nat.le_refl _ | (simp; done) | (simp; omega)) _))))
        clear hA6 hb6 HA6 HA56 HD5 HA5 HB5
        go_wp2_with fail
        ((with_reducible refine (same_is HXL.out (by omega) _ _ _ _ _ HA7.out HA57.out).mono ?_); rintro e w8 ⟨rfl, hb8⟩)
        have HB8 := hidE (HB7.out.trans (hb8.mono HB7.out.size))
        clear hb8 HB7 HB6 HA7 HA57 r0 r1 r2 rz
        go_wp2_with fail
        ((with_reducible refine (HH.out _ HB8.out).mono ?_); rintro e w9 ⟨rfl, hb9⟩)
        have HBL := hidE (HB8.out.trans (hb9.mono HB8.out.size))
        clear hb9
        go_wp2
        go_ret
        exact ⟨rfl, HBL.out⟩
      | some i =>
        rw [hb] at hpt
        have hop := HOP.out i hb
        simp only at hpt
        generalize ((placeG 0 (tokD fr1 to1 X)).getD (5 + i) tk0).pos = p at *
        have HQ := hidE hpt
        have hpu : p < u.length := (List.getElem?_eq_some_iff.1 hop).1
        have m1 : decide ((p : Int) ≥ 0) = true := decide_eq_true (by omega)
        have m2 : decide ((p : Int) < (u.length : Int)) = true := decide_eq_true (by omega)
        have m3 : decide (p < u.length) = true := decide_eq_true hpu
        have m4 : (p : Int) < (u.length : Int) := by omega
        have m5 : u[p] = 40 := (List.getElem?_eq_some_iff.1 hop).2
        have m6 : (((⟨u.toArray⟩ : ByteArray)[p]'(by rw [ul]; exact hpu)).toNat : Int) = 40 := by
          show ((u.toArray[p]'(by simpa using hpu)).toNat : Int) = 40
          rw [List.getElem_toArray, m5]; rfl
        clear hpt hb m5 hop
        go_wp2_with fail
        ((with_reducible refine (par_is HQ.out (by omega) _ ?hb _ (HTB.out _ HB5.out)).mono ?_))
        case hb => rfl
        rintro e w6 ⟨a6, c6, rfl, _, _, hA6, hb6⟩
        simp only [df0, List.length_nil]
        have HB6 := hidE (HB5.out.trans (hb6.mono HB5.out.size))
        have HB7 := hidE (HB6.out.alloc HB6.out.size (.cells #[.int .i64 0, .int .i64 0, .slice a6 0 c6] 24))
        clear hA6 hb6 HB6 HB5 HD5 HA5
        go_wp2_with fail
        ((with_reducible refine (HH.out _ HB7.out).mono ?_); rintro e w9 ⟨rfl, hb9⟩)
        have HBL := hidE (HB7.out.trans (hb9.mono HB7.out.size))
        clear hb9
        go_wp2
        go_ret
        exact ⟨rfl, HBL.out⟩
    · have l1 : decide ((u.length : Int) > 4096) = true := decide_eq_true (by omega)
      have l2 : decide (4096 < u.length) = true := decide_eq_true (by omega)
      clear c
      go_wp2_with fail
      ((with_reducible refine (HH.out _ HB5.out).mono ?_); rintro e w9 ⟨rfl, hb9⟩)
      have HBL := hidE (HB5.out.trans (hb9.mono HB5.out.size))
      clear hb9
      go_wp2
      go_ret
      exact ⟨rfl, HBL.out⟩
end Go.Proofs.YtaeipfnpglbooaaDoor

namespace Go.Proofs.YtaeipfnpglbooaaDoor
open Go.ChangeShapes Go.WideShapes Go.ChangeAt Go.RowKit
open Go.ChangeMaps (open_string)
section
attribute [local irreducible] Go.Calls
set_option maxRecDepth 100000 in
set_option maxHeartbeats 2000000 in
theorem lswap_no (s t : List UInt8) (at0 : Int) (W : World) (hs : s.length ≤ 9223372036854775807) (ht : t.length ≤ 9223372036854775807) (hT : Tab W)
    (h : (parseS s).2.2 ≠ 0 ∨ ((parseS s).2.2 = 0 ∧ (parseS t).2.2 ≠ 0) ∨ ((parseS s).2.2 = 0 ∧ (parseS t).2.2 = 0 ∧ 2000 < s.length) ∨ ((parseS s).2.2 = 0 ∧ (parseS t).2.2 = 0 ∧ s.length ≤ 2000 ∧ 2000 < t.length)) :
    Calls Tryd.prog 4 #[strV s, strV t, .int .u8 at0] W fun e w' => e = .returned (.bool true) ∧ Below W.heap.size W w' := by
  have HH := hidE (fun w (hb : Below W.heap.size W w) => head_c w (hT.past hb))
  have HTB := hidE (fun w (hb : Below W.heap.size W w) => hT.past hb)
  clear hT
  have sl : (⟨s.toArray⟩ : ByteArray).size = s.length := by simp [ByteArray.size]
  have tl : (⟨t.toArray⟩ : ByteArray).size = t.length := by simp [ByteArray.size]
  have HP1 := hidE (fun w hT => parse_c s w hs hT)
  have HP2 := hidE (fun w hT => parse_c t w ht hT)
  generalize parseS s = r1 at *
  generalize parseS t = r2 at *
  obtain ⟨D1, p1, x1⟩ := r1
  obtain ⟨D2, p2, x2⟩ := r2
  simp only at HP1 HP2 h
  rcases h with h | ⟨h, h2⟩ | ⟨h, h2, h3⟩ | ⟨h, h2, h3, h4⟩
  · have q1 : (x1 != 0) = true := bne_iff_ne.2 h
    have q1' : (x1 == 0) = false := beq_eq_false_iff_ne.2 h
    clear h
    go_enter Tryd.func4, Tryd.ntmps4
    go_wp2_with fail
    ((with_reducible refine (HP1.out _ (HTB.out _ (by (repeat (first | exact Below.refl _ _ | assumption | refine balloc ?_ _ | refine below_drewN ?_ _ | refine bstep (by assumption) ?_ | refine bstep (Past.prop _) ?_ | refine Below.setCell ?_ (by first | exact Nat.le_refl _ | (simp; done) | (simp; omega)) _))))).mono ?_); rintro e w1 ⟨a1, c1, rfl, _, _, _, hb1⟩)
    go_wp2_with fail
    ((with_reducible refine (HP2.out _ (HTB.out _ (by (repeat (first | exact Below.refl _ _ | assumption | refine balloc ?_ _ | refine below_drewN ?_ _ | refine bstep (by assumption) ?_ | refine bstep (Past.prop _) ?_ | refine Below.setCell ?_ (by first | exact Nat.le_refl _ | (simp; done) | (simp; omega)) _))))).mono ?_); rintro e w2 ⟨a2, c2, rfl, _, _, _, hb2⟩)
    go_wp2_with fail
    ((with_reducible refine (HH.out _ (by (repeat (first | exact Below.refl _ _ | assumption | refine balloc ?_ _ | refine below_drewN ?_ _ | refine bstep (by assumption) ?_ | refine bstep (Past.prop _) ?_ | refine Below.setCell ?_ (by first | exact Nat.le_refl _ | (simp; done) | (simp; omega)) _)))).mono ?_); rintro e w3 ⟨rfl, hb3⟩)
    have HB := hidE (show Below W.heap.size W w3 by (repeat (first | exact Below.refl _ _ | assumption | refine balloc ?_ _ | refine below_drewN ?_ _ | refine bstep (by assumption) ?_ | refine bstep (Past.prop _) ?_ | refine Below.setCell ?_ (by first | exact Nat.le_refl _ | (simp; done) | (simp; omega)) _)))
    clear hb1 hb2 hb3
    go_wp2
    go_ret
    exact ⟨rfl, HB.out⟩
  · subst h
    have q1 : (x2 != 0) = true := bne_iff_ne.2 h2
    have q1' : (x2 == 0) = false := beq_eq_false_iff_ne.2 h2
    clear h2
    go_enter Tryd.func4, Tryd.ntmps4
    go_wp2_with fail
    ((with_reducible refine (HP1.out _ (HTB.out _ (by (repeat (first | exact Below.refl _ _ | assumption | refine balloc ?_ _ | refine below_drewN ?_ _ | refine bstep (by assumption) ?_ | refine bstep (Past.prop _) ?_ | refine Below.setCell ?_ (by first | exact Nat.le_refl _ | (simp; done) | (simp; omega)) _))))).mono ?_); rintro e w1 ⟨a1, c1, rfl, _, _, _, hb1⟩)
    go_wp2_with fail
    ((with_reducible refine (HP2.out _ (HTB.out _ (by (repeat (first | exact Below.refl _ _ | assumption | refine balloc ?_ _ | refine below_drewN ?_ _ | refine bstep (by assumption) ?_ | refine bstep (Past.prop _) ?_ | refine Below.setCell ?_ (by first | exact Nat.le_refl _ | (simp; done) | (simp; omega)) _))))).mono ?_); rintro e w2 ⟨a2, c2, rfl, _, _, _, hb2⟩)
    go_wp2_with fail
    ((with_reducible refine (HH.out _ (by (repeat (first | exact Below.refl _ _ | assumption | refine balloc ?_ _ | refine below_drewN ?_ _ | refine bstep (by assumption) ?_ | refine bstep (Past.prop _) ?_ | refine Below.setCell ?_ (by first | exact Nat.le_refl _ | (simp; done) | (simp; omega)) _)))).mono ?_); rintro e w3 ⟨rfl, hb3⟩)
    have HB := hidE (show Below W.heap.size W w3 by (repeat (first | exact Below.refl _ _ | assumption | refine balloc ?_ _ | refine below_drewN ?_ _ | refine bstep (by assumption) ?_ | refine bstep (Past.prop _) ?_ | refine Below.setCell ?_ (by first | exact Nat.le_refl _ | (simp; done) | (simp; omega)) _)))
    clear hb1 hb2 hb3
    go_wp2
    go_ret
    exact ⟨rfl, HB.out⟩
  · subst h h2
    have q1 : decide ((s.length : Int) > 2000) = true := decide_eq_true (by omega)
    have q2 : decide (2000 < s.length) = true := decide_eq_true h3
    go_enter Tryd.func4, Tryd.ntmps4
    go_wp2_with fail
    ((with_reducible refine (HP1.out _ (HTB.out _ (by (repeat (first | exact Below.refl _ _ | assumption | refine balloc ?_ _ | refine below_drewN ?_ _ | refine bstep (by assumption) ?_ | refine bstep (Past.prop _) ?_ | refine Below.setCell ?_ (by first | exact Nat.le_refl _ | (simp; done) | (simp; omega)) _))))).mono ?_); rintro e w1 ⟨a1, c1, rfl, _, _, _, hb1⟩)
    go_wp2_with fail
    ((with_reducible refine (HP2.out _ (HTB.out _ (by (repeat (first | exact Below.refl _ _ | assumption | refine balloc ?_ _ | refine below_drewN ?_ _ | refine bstep (by assumption) ?_ | refine bstep (Past.prop _) ?_ | refine Below.setCell ?_ (by first | exact Nat.le_refl _ | (simp; done) | (simp; omega)) _))))).mono ?_); rintro e w2 ⟨a2, c2, rfl, _, _, _, hb2⟩)
    go_wp2_with fail
    ((with_reducible refine (HH.out _ (by (repeat (first | exact Below.refl _ _ | assumption | refine balloc ?_ _ | refine below_drewN ?_ _ | refine bstep (by assumption) ?_ | refine bstep (Past.prop _) ?_ | refine Below.setCell ?_ (by first | exact Nat.le_refl _ | (simp; done) | (simp; omega)) _)))).mono ?_); rintro e w3 ⟨rfl, hb3⟩)
    have HB := hidE (show Below W.heap.size W w3 by (repeat (first | exact Below.refl _ _ | assumption | refine balloc ?_ _ | refine below_drewN ?_ _ | refine bstep (by assumption) ?_ | refine bstep (Past.prop _) ?_ | refine Below.setCell ?_ (by first | exact Nat.le_refl _ | (simp; done) | (simp; omega)) _)))
    clear hb1 hb2 hb3
    go_wp2
    go_ret
    exact ⟨rfl, HB.out⟩
  · subst h h2
    have q1 : decide ((s.length : Int) > 2000) = false := decide_eq_false (by omega)
    have q2 : decide (2000 < s.length) = false := decide_eq_false (by omega)
    have q3 : decide ((t.length : Int) > 2000) = true := decide_eq_true (by omega)
    have q4 : decide (2000 < t.length) = true := decide_eq_true h4
    go_enter Tryd.func4, Tryd.ntmps4
    go_wp2_with fail
    ((with_reducible refine (HP1.out _ (HTB.out _ (by (repeat (first | exact Below.refl _ _ | assumption | refine balloc ?_ _ | refine below_drewN ?_ _ | refine bstep (by assumption) ?_ | refine bstep (Past.prop _) ?_ | refine Below.setCell ?_ (by first | exact Nat.le_refl _ | (simp; done) | (simp; omega)) _))))).mono ?_); rintro e w1 ⟨a1, c1, rfl, _, _, _, hb1⟩)
    go_wp2_with fail
    ((with_reducible refine (HP2.out _ (HTB.out _ (by (repeat (first | exact Below.refl _ _ | assumption | refine balloc ?_ _ | refine below_drewN ?_ _ | refine bstep (by assumption) ?_ | refine bstep (Past.prop _) ?_ | refine Below.setCell ?_ (by first | exact Nat.le_refl _ | (simp; done) | (simp; omega)) _))))).mono ?_); rintro e w2 ⟨a2, c2, rfl, _, _, _, hb2⟩)
    go_wp2_with fail
    ((with_reducible refine (HH.out _ (by (repeat (first | exact Below.refl _ _ | assumption | refine balloc ?_ _ | refine below_drewN ?_ _ | refine bstep (by assumption) ?_ | refine bstep (Past.prop _) ?_ | refine Below.setCell ?_ (by first | exact Nat.le_refl _ | (simp; done) | (simp; omega)) _)))).mono ?_); rintro e w3 ⟨rfl, hb3⟩)
    have HB := hidE (show Below W.heap.size W w3 by (repeat (first | exact Below.refl _ _ | assumption | refine balloc ?_ _ | refine below_drewN ?_ _ | refine bstep (by assumption) ?_ | refine bstep (Past.prop _) ?_ | refine Below.setCell ?_ (by first | exact Nat.le_refl _ | (simp; done) | (simp; omega)) _)))
    clear hb1 hb2 hb3
    go_wp2
    go_ret
    exact ⟨rfl, HB.out⟩
end
theorem lswap_str (s t : ByteArray) (at0 : Int) (W : World) (hs : s.size ≤ maxLen) (ht : t.size ≤ maxLen) (h0 : 0 ≤ at0 ∧ at0 ≤ 255) (hT : Tab W) :
    Calls Tryd.prog 4 #[.string s, .string t, .int .u8 at0] W fun e w' => e = .returned (.bool true) ∧ Below W.heap.size W w' := by
  have e1 : Value.string s = strV s.data.toList := by simp [strV]
  have e2 : Value.string t = strV t.data.toList := by simp [strV]
  have l1 : s.data.toList.length ≤ 9223372036854775807 := by rw [Array.length_toList]; exact Nat.le_trans hs (by unfold maxLen; exact Nat.le_refl _)
  have l2 : t.data.toList.length ≤ 9223372036854775807 := by rw [Array.length_toList]; exact Nat.le_trans ht (by unfold maxLen; exact Nat.le_refl _)
  rw [e1, e2]
  by_cases c1 : (parseS s.data.toList).2.2 = 0
  · by_cases c2 : (parseS t.data.toList).2.2 = 0
    · by_cases c3 : s.data.toList.length ≤ 2000
      · by_cases c4 : t.data.toList.length ≤ 2000
        · exact lswap_main _ _ at0 W c3 c4 h0 c1 c2 hT
        · exact lswap_no _ _ at0 W l1 l2 hT (.inr (.inr (.inr ⟨c1, c2, c3, by omega⟩)))
      · exact lswap_no _ _ at0 W l1 l2 hT (.inr (.inr (.inl ⟨c1, c2, by omega⟩)))
    · exact lswap_no _ _ at0 W l1 l2 hT (.inr (.inl ⟨c1, c2⟩))
  · exact lswap_no _ _ at0 W l1 l2 hT (.inl c1)
def parseSwapsLaid : List (String × DataW Unit) := [("math/bits.deBruijn32tab", Rows.laid_math_bits_deBruijn32tab), ("math/bits.deBruijn64tab", Rows.laid_math_bits_deBruijn64tab), ("internal/strconv.uint64pow10", Rows.laid_internal_strconv_uint64pow10), ("livery/parse.words", Rows.laid_livery_parse_words)]
set_option maxRecDepth 100000 in
theorem parseSwaps_lifted (os : Os) (started : os.Started) (H : Type) (enc : TypeId × Value → H) :
    ReturnsInHanded {} Tryd.checked os 4 .any (fun w args => (Rows.parseSwapsSpec.pre enc Tryd.prog Tryd.f4 Rows.parseSwapsRow.domain false w args ∧ laidMetH Tryd.prog parseSwapsLaid w) ∧ sizedMet enc Tryd.prog Tryd.f4 (OpenSpec.ofChange Rows.parseSwapsSpec) false w args) (Rows.parseSwapsSpec.post enc Tryd.prog Tryd.f4 false true false false) := by
  refine returnsInHanded_of_change_and (C := Tryd.checked) (X := fun w _ => laidMetH Tryd.prog parseSwapsLaid w) (fun _ _ _ hh h => h.of_heap hh) own started (by kernel_rfl) Tryd.func4
    (ChangeSpec.witness_shaped (enc := enc) (C := Tryd.checked) (os := os) (X := fun w _ => laidMetH Tryd.prog parseSwapsLaid w) false (World.laidAll Tryd.prog os parseSwapsLaid) #[.string ⟨#[]⟩, .string ⟨#[]⟩, .int .u8 0] 8 (World.laidAll_os _ _ _) (World.shaped_of_ZipB (by kernel_rfl) (by kernel_rfl)) (by kernel_rfl) (by kernel_rfl) (by kernel_rfl)
      (by rw [MakeChecks.laidMetH_plain _ _ _ (by kernel_rfl)]; exact laidMet_laidAll _ (by kernel_rfl) (by kernel_rfl))) ?_
  intro W base args ds gs before hval0 hW _ _ hL _
  rw [MakeChecks.laidMetH_plain _ _ _ (by kernel_rfl)] at hL
  have hval : ∀ (j : Nat) t v, Tryd.f4.params[j]? = some t → args[j]? = some v → Value.okWide Tryd.prog W .any base t v := hval0
  have hW' := hW
  obtain ⟨p, q, hA0, hV, rfl, hfz, hnd⟩ := hW
  have hA : DataW.TrodAll enc Tryd.prog W 0 (fun _ => true) true Tryd.f4.params.toList args.toList ds p := hA0
  rw [Tryd.params4] at hA hval
  obtain ⟨v0, vs0, d0, ds0, p0, q0, hargs, rfl, rfl, h0, r0⟩ := trodAll_cons hA
  obtain ⟨v1, vs1, d1, ds1, p1, q1, rfl, rfl, rfl, h1, r1⟩ := trodAll_cons r0
  obtain ⟨v2, vs2, d2, ds2, p2, q2, rfl, rfl, rfl, h2, r2⟩ := trodAll_cons r1
  obtain ⟨rfl, rfl, rfl⟩ := trodAll_nil r2
  obtain rfl : args = #[v0, v1, v2] := by cases args; simp_all
  obtain ⟨s0, rfl, rfl, rfl, hs0⟩ := open_string Tryd.underlying9 (hval 0 9 v0 rfl rfl) h0
  obtain ⟨s1, rfl, rfl, rfl, hs1⟩ := open_string Tryd.underlying9 (hval 1 9 v1 rfl rfl) h1
  obtain ⟨a2, rfl, rfl, rfl, wa2⟩ := open_int Tryd.underlying5 (hval 2 5 v2 rfl rfl) h2
  have ha2 : 0 ≤ a2 ∧ a2 ≤ 255 := by simpa [Lit.wf, IntKind.min, IntKind.max, IntKind.signed, IntKind.bits] using wa2
  clear hA0 hval0
  refine (lswap_str s0 s1 a2 W hs0 hs1 ha2 ⟨(tab_of_laid (laidMet_tail (laidMet_tail hL))), words_of_laid (laidMet_tail (laidMet_tail (laidMet_tail hL)))⟩).mono fun e W' ⟨he, hb⟩ => ?_
  subst he
  exact ⟨_, rfl, law_post laidOut (readOk_spec (by kernel_rfl)) rfl Tryd.underlying4 rfl ⟨rfl, rfl, rfl⟩ hW' hb⟩

theorem parseSwaps_holds : Rows.ParseSwapsSaid :=
  OpenClaim.holds_of_wide 4 Tryd.f4 rfl rfl rfl rfl rfl rfl rfl ⟨rfl, rfl, rfl, rfl, rfl⟩ rfl rfl rfl rfl rfl (by kernel_rfl) Tryd.func4 (by kernel_rfl)
    (of_decide_eq_true (by kernel_rfl)) (by unfold Func.isWrapper; first | (rw [if_pos (by decide +kernel)]; kernel_rfl) | (rw [if_neg (by decide +kernel)]; exact ⟨rfl, rfl⟩))
    (fun os started H enc _ => parseSwaps_lifted os started H enc)

theorem parseSwaps_card : Rows.ParseSwapsCardSaid :=
  Claim7.holds_tied_plain_at .later [] [.data, .data, .data, .data] true (true, "2ef7e7388e02eb914236aa005a078e7a0a5f24b732900d437e54b97c03e5d287") true
    parseSwaps_holds (fun _ h => by cases h) (by kernel_rfl) (fun _ h => by cases h) parseSwaps_row_tie rfl ⟨rfl, rfl⟩ (by kernel_rfl) rfl
    (fun f fn hf hfn => by
      obtain rfl : f = 4 := Option.some.inj ((show Tryd.prog.funcNamed "livery/liverylaw07.ParseSwaps" = some 4 by kernel_rfl).symm.trans hf) |>.symm
      obtain rfl : fn = Tryd.f4 := (Option.some.inj (Tryd.func4.symm.trans hfn)).symm
      exact ⟨by kernel_rfl, fun j t ht => by
        rw [Tryd.params4] at ht
        have hm : t ∈ [9, 9, 5] := by simpa using Array.mem_of_getElem? ht
        have hall : ([9, 9, 5].all fun u => !Tryd.prog.wantsStandIn u) = true := by kernel_rfl
        exact (show Tryd.prog.wantsStandIn t = false by simpa using List.all_eq_true.1 hall t hm)⟩)
    (by kernel_rfl)
end Go.Proofs.YtaeipfnpglbooaaDoor
