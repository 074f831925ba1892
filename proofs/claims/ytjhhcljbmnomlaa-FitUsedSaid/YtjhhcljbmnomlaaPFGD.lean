/- A region that draws its order and has one operation that all before it must precede, and all behind it must follow: that one may write. No conditions. The contract of rle.May. No conditions but the list's size. The contracts of calc.canonical, calc.checked, calc.Sub, Min and Max. No conditions but the lists' sizes, and that the slices' cells read as integers. The contract of calc.Add. No conditions but the lists' sizes, and that the slices' cells read as integers. The contract of rle.Box, and of Of where the answer is known. No conditions. The contract of the document's own Range. No conditions but the list's size. The contract of calc.Range. No conditions but the lists' sizes, and that the slices' cells read as integers. The mathematics of sums, differences, windows, being at most: of functions by their values. No conditions. A range over a function whose body keeps a block of its own, made in an earlier round (a slice that it appends to): an iterator's contract with that block named, and the law for its caller. Program-free. No conditions. The contract of the iterator (span.window).stretches: it hands on the stretches of the window, one after the other. No conditions but that the slice's cells read as integers, and sizes. The contract of (span.window).evaluate: an error, or each of the window's stretches is handed on. No conditions but that the slice's cells read as integers, sizes, and what the function that is handed the stretches keeps. A row of runs that is appended to by a function value, round by round: where it lies, and what turns of memory leave it as it is. No function of the program. No conditions. The contract of span.Cut. No conditions but the list's size, and that the slice's cells read as integers. Package fit: functions from a time on, and each bound of the free function. No conditions but the lists' sizes, and that the slices' cells read as integers. -/
import Derived.Test.YtjhhcljbmnomlaaPFGC
import Derived.Test.YtjhhcljbmnomlaaPFGB
import Derived.Test.YtjhhcljbmnomlaaPFMA
import Derived.Test.YtjhhcljbmnomlaaPFGA
import Derived.Test.YtjhhcljbmnomlaaPFMB
import Derived.OwnWalkIn
import Derived.RangeFuncCalls
import Derived.Shelf.Abstract
import Derived.LoopTactic
namespace Go.Proofs.Ytjhhcljbmnomlaa
open Go.RowKit

def barOk (l : List Oper) (q : Nat) : Bool :=
  Region.noSelect l.toArray && decide (q < l.length) &&
  ((List.range l.length).all fun i => match l[i]? with
    | some o => o.after.all fun e => !Region.binds .any e || decide (e.on < i)
    | none => true) &&
  ((List.range q).all fun i => match l[i]? with
    | some o => match o.guard with
      | some g => decide (g.1 < q)
      | none => true
    | none => true) &&
  ((List.range l.length).all fun i => decide (i ≤ q) || (List.range i).any fun j => decide (q ≤ j) && waits l.toArray i j) &&
  ((List.range q).all fun j => (List.range (q + 1)).any fun i => decide (j < i) && waits l.toArray i j) &&
  Region.lexB .any (l.take q).toArray &&
  Region.lexFrom .any l.toArray (l.drop (q + 1)).length (q + 1) (Array.replicate (q + 1) true ++ Array.replicate (l.length - (q + 1)) false)

structure BarOk (l : List Oper) (q : Nat) : Prop where
  sel : Region.noSelect l.toArray = true
  lt : q < l.length
  back : ∀ i o, l[i]? = some o → ∀ e ∈ o.after, Region.binds .any e = true → e.on < i
  guard : ∀ i o, i < q → l[i]? = some o → ∀ g, o.guard = some g → g.1 < q
  after : ∀ i, i < l.length → q < i → ∃ j, q ≤ j ∧ j < i ∧ waits l.toArray i j = true
  before : ∀ j, j < q → ∃ i, j < i ∧ i ≤ q ∧ waits l.toArray i j = true
  lexP : Region.lexB .any (l.take q).toArray = true
  lexS : Region.lexFrom .any l.toArray (l.drop (q + 1)).length (q + 1) (Array.replicate (q + 1) true ++ Array.replicate (l.length - (q + 1)) false) = true

theorem barOk_spec {l : List Oper} {q : Nat} (h : barOk l q = true) : BarOk l q := by
  unfold barOk at h
  simp only [Bool.and_eq_true] at h
  obtain ⟨⟨⟨⟨⟨⟨⟨h1, h2⟩, h3⟩, h4⟩, h5⟩, h6⟩, h7⟩, h8⟩ := h
  rw [decide_eq_true_eq] at h2
  refine ⟨h1, h2, ?_, ?_, ?_, ?_, h7, h8⟩
  · intro i o ho e he hb
    have hi : i < l.length := (List.getElem?_eq_some_iff.1 ho).1
    have := List.all_eq_true.1 h3 i (by simpa using hi)
    rw [ho] at this
    have := Array.all_eq_true'.1 this e he
    rw [hb] at this
    simpa using this
  · intro i o hi ho g hg
    have := List.all_eq_true.1 h4 i (by simpa using hi)
    rw [ho] at this
    simp only [hg] at this
    simpa using this
  · intro i hi hqi
    have := List.all_eq_true.1 h5 i (by simpa using hi)
    rw [Bool.or_eq_true, decide_eq_true_eq] at this
    rcases this with c | c
    · omega
    · obtain ⟨j, hj, hc⟩ := List.any_eq_true.1 c
      rw [Bool.and_eq_true, decide_eq_true_eq] at hc
      exact ⟨j, hc.1, by simpa using hj, hc.2⟩
  · intro j hj
    have := List.all_eq_true.1 h6 j (by simpa using hj)
    obtain ⟨i, hi, hc⟩ := List.any_eq_true.1 this
    rw [Bool.and_eq_true, decide_eq_true_eq] at hc
    have := List.mem_range.1 hi
    exact ⟨i, hc.1, by omega, hc.2⟩

section
variable {l : List Oper} {q : Nat} (B : BarOk l q)
include B
/-- Whoever stands behind the bar waits for it. -/
theorem BarOk.behind {listed : Array Bool} (hs : Shut l.toArray listed) : ∀ (n i : Nat), i ≤ n → i < l.length → q < i → (∀ o, l[i]? = some o → ∀ e ∈ o.after, Region.binds .any e = true → listed.getD e.on false = true) → listed.getD q false = true := by
  intro n
  induction n with
  | zero => intro i h1 _ h3; omega
  | succ n ih =>
    intro i h1 h2 h3 hd
    obtain ⟨j, j1, j2, j3⟩ := B.after i h2 h3
    have hoi : l.toArray[i]? = some l[i] := by simp [h2]
    have hj := waits_listed hoi (hd l[i] (List.getElem?_eq_getElem h2)) j3
    by_cases c : j = q
    · rw [c] at hj; exact hj
    · refine ih j (by omega) (by omega) (by omega) fun o ho e he hb => ?_
      exact hs.deps j o (by simpa using ho) hj e he hb
/-- The bar waits for all ahead of it. -/
theorem BarOk.ahead {listed : Array Bool} (hs : Shut l.toArray listed) (hd : ∀ o, l[q]? = some o → ∀ e ∈ o.after, Region.binds .any e = true → listed.getD e.on false = true) : ∀ (n j : Nat), q - j ≤ n → j < q → listed.getD j false = true := by
  intro n
  induction n with
  | zero => intro j h1 h2; omega
  | succ n ih =>
    intro j h1 h2
    obtain ⟨i, i1, i2, i3⟩ := B.before j h2
    by_cases c : i = q
    · subst c
      have hll := B.lt
      have hoi : l.toArray[i]? = some l[i] := by simp [hll]
      exact waits_listed hoi (hd l[i] (List.getElem?_eq_getElem hll)) i3
    · have hi := ih i (by omega) (by omega)
      have hil : i < l.length := by have := B.lt; omega
      have hoi : l.toArray[i]? = some l[i] := by simp [hil]
      exact waits_listed hoi (fun e he hb => hs.deps i l[i] hoi hi e he hb) i3
end

theorem wanted_take {l : List Oper} {q : Nat} (o : Oper) (t : Array Value) (hg : ∀ g, o.guard = some g → g.1 < q) : Region.wanted o (yielded (l.take q).toArray t) = Region.wanted o (yielded l.toArray t) := by
  unfold Region.wanted
  cases h : o.guard with
  | none => rfl
  | some g =>
    have hlt := hg g h
    have e : yielded (l.take q).toArray t g.1 = yielded l.toArray t g.1 := by
      unfold yielded
      simp [hlt]
    simp only [e]

/-- The number of those ahead of the bar that are still to come. -/
def todo (q : Nat) (listed : Array Bool) : Nat := ((List.range q).filter fun i => !listed.getD i false).length
theorem todo_zero {q : Nat} {listed : Array Bool} (h : todo q listed = 0) : ∀ i, i < q → listed.getD i false = true := by
  intro i hi
  unfold todo at h
  have := List.eq_nil_of_length_eq_zero h
  cases hl : listed.getD i false with
  | true => rfl
  | false =>
    have hm : i ∈ (List.range q).filter fun i => !listed.getD i false := by
      rw [List.mem_filter]; exact ⟨by simpa using hi, by rw [hl]; rfl⟩
    rw [this] at hm; cases hm
theorem filter_set (listed : Array Bool) (i : Nat) (hi : i < listed.size) (hl : listed.getD i false = false) : ∀ (r : List Nat), r.Nodup → i ∈ r → (r.filter fun j => !listed.getD j false).length = (r.filter fun j => !(listed.setIfInBounds i true).getD j false).length + 1 := by
  intro r
  induction r with
  | nil => intro _ h; cases h
  | cons a r ih =>
    intro hn hm
    have hn' := List.nodup_cons.1 hn
    by_cases c : a = i
    · subst c
      have e : (r.filter fun j => !listed.getD j false) = r.filter fun j => !(listed.setIfInBounds a true).getD j false := by
        refine List.filter_congr fun j hj => ?_
        have : j ≠ a := fun e => hn'.1 (e ▸ hj)
        rw [getD_set_ne false (Ne.symm this)]
      rw [List.filter_cons_of_pos (by rw [hl]; rfl), List.filter_cons_of_neg (by simp [hi]), e]
      rfl
    · have hm' : i ∈ r := by
        rcases List.mem_cons.1 hm with h | h
        · exact absurd h.symm c
        · exact h
      have := ih hn'.2 hm'
      have e : (listed.setIfInBounds i true).getD a false = listed.getD a false := getD_set_ne false (Ne.symm c)
      cases hla : listed.getD a false with
      | true => rw [List.filter_cons_of_neg (by rw [hla]; simp), List.filter_cons_of_neg (by rw [e, hla]; simp)]; exact this
      | false => rw [List.filter_cons_of_pos (by rw [hla]; rfl), List.filter_cons_of_pos (by rw [e, hla]; rfl)]; simp only [List.length_cons]; omega
theorem todo_set {q : Nat} {listed : Array Bool} {i : Nat} (hi : i < q) (hs : i < listed.size) (hl : listed.getD i false = false) : todo q listed = todo q (listed.setIfInBounds i true) + 1 :=
  filter_set listed i hs hl _ List.nodup_range (by simpa using hi)

theorem prefix_bar {P : Program} {l : List Oper} {q : Nat} (B : BarOk l q) {C : World → Prop} {Q' : Act → Prop} {Q : Exit → Act → World → Prop} (r : Nat)
    (hK : ∀ (listed : Array Bool) a w, listed.size = l.length → (∀ i, i < l.length → listed.getD i false = decide (i < q)) → C w → Q' a → wpAny P .any l.toArray Q r listed a w) :
    ∀ (n : Nat) (listed L : Array Bool) (a : Act) (w : World), Shut l.toArray listed → (∀ i, q ≤ i → listed.getD i false = false) → todo q listed = n → L.size = q → (∀ i, i < q → L.getD i false = listed.getD i false) → C w →
      wpAnyQ P .any (l.take q).toArray C Q' n L a → wpAny P .any l.toArray Q (n + r) listed a w := by
  intro n
  have hql := B.lt
  induction n with
  | zero =>
    intro listed L a w hs hno ht hL hLe hC h
    rw [Nat.zero_add]
    refine hK listed a w (by simpa using hs.size) (fun i hi => ?_) hC h.2
    by_cases c : i < q
    · rw [todo_zero ht i c]; exact (decide_eq_true c).symm
    · rw [hno i (by omega)]; exact (decide_eq_false c).symm
  | succ n ih =>
    intro listed L a w hs hno ht hL hLe hC h
    have hsz : listed.size = l.length := by simpa using hs.size
    have hsome : ∃ i, i < q ∧ listed.getD i false = false := by
      unfold todo at ht
      cases hf : (List.range q).filter fun i => !listed.getD i false with
      | nil => rw [hf] at ht; simp at ht
      | cons x y =>
        have : x ∈ (List.range q).filter fun i => !listed.getD i false := by rw [hf]; simp
        rw [List.mem_filter] at this
        exact ⟨x, by simpa using this.1, by simpa using this.2⟩
    obtain ⟨j0, hj0, hl0⟩ := hsome
    rw [Nat.succ_add]
    refine ⟨fun h0 => ?_, fun i hi => ?_⟩
    · exfalso
      -- the least that is still to come may come
      have key : ∀ (m j : Nat), j ≤ m → j < q → listed.getD j false = false → Region.ready .any l.toArray listed ≠ [] := by
        intro m
        induction m with
        | zero =>
          intro j hjm hjq hjl hnil
          have hj0 : j = 0 := by omega
          subst hj0
          have hm : 0 ∈ Region.ready .any l.toArray listed := by
            refine mem_ready.2 ⟨by rw [getD_flip (by rw [hsz]; omega) true false]; exact hjl, l[0]'(by omega), by simp, fun e he hb => ?_⟩
            have := B.back 0 _ (List.getElem?_eq_getElem (by omega)) e he hb
            omega
          rw [hnil] at hm; cases hm
        | succ m ihm =>
          intro j hjm hjq hjl hnil
          by_cases hall : ∃ k, k < j ∧ listed.getD k false = false
          · obtain ⟨k, hk, hkl⟩ := hall
            exact ihm k (by omega) (by omega) hkl hnil
          · have hm : j ∈ Region.ready .any l.toArray listed := by
              refine mem_ready.2 ⟨by rw [getD_flip (by rw [hsz]; omega) true false]; exact hjl, l[j]'(by omega), by simp, fun e he hb => ?_⟩
              have := B.back j _ (List.getElem?_eq_getElem (by omega)) e he hb
              cases hx : listed.getD e.on false with
              | true => rfl
              | false => exact absurd ⟨e.on, this, hx⟩ hall
            rw [hnil] at hm; cases hm
      exact key j0 j0 (Nat.le_refl _) hj0 hl0 h0
    · obtain ⟨hil, o, ho, hd⟩ := mem_ready.1 hi
      have hilen : i < l.length := by
        rcases Nat.lt_or_ge i l.length with h | h
        · exact h
        · simp [List.getElem?_eq_none h] at ho
      have hol : l[i]? = some o := by simpa using ho
      have hil' : listed.getD i false = false := by rw [getD_flip (by rw [hsz]; exact hilen) false true]; exact hil
      have hiq : i < q := by
        rcases Nat.lt_trichotomy i q with c | c | c
        · exact c
        · exfalso
          subst c
          have := B.ahead hs (fun o' ho' e he hb => by rw [hol] at ho'; cases ho'; exact hd e he hb) i j0 (by omega) hj0
          rw [hl0] at this; cases this
        · exfalso
          have := B.behind hs i i (Nat.le_refl _) hilen c (fun o' ho' e he hb => by rw [hol] at ho'; cases ho'; exact hd e he hb)
          rw [hno q (Nat.le_refl _)] at this; cases this
      have hop : (l.take q).toArray[i]? = some o := by simp [hiq, hol]
      have hir : i ∈ Region.ready .any (l.take q).toArray L := by
        refine mem_ready.2 ⟨?_, o, hop, fun e he hb => ?_⟩
        · rw [getD_flip (by rw [hL]; exact hiq) true false, hLe i hiq]; exact hil'
        · have := B.back i o hol e he hb
          rw [hLe _ (by omega)]; exact hd e he hb
      have hq := h.2 i hir
      have hwp := wpOp_of_qOp (Q' := Q) (K' := fun a' w' => wpAny P .any l.toArray Q (n + r) (listed.setIfInBounds i true) a' w') hC (fun a' w' hC' hK' => ih (listed.setIfInBounds i true) (L.setIfInBounds i true) a' w' ⟨by simpa using hs.size, ?_⟩ ?_ ?_ (by simpa using hL) ?_ hC' hK') hq
      · unfold wpOp at hwp ⊢
        simp only [hop] at hwp
        simp only [ho]
        rw [wanted_take o a.tmps (fun g hg => B.guard i o hiq hol g hg)] at hwp
        exact hwp
      · intro k ok hk hkl e he hb
        by_cases hki : k = i
        · subst hki
          rw [ho] at hk; cases hk
          exact getD_set_true (hd e he hb)
        · rw [getD_set_ne false (Ne.symm hki)] at hkl
          exact getD_set_true (hs.deps k ok hk hkl e he hb)
      · intro k hk
        rw [getD_set_ne false (by omega)]; exact hno k hk
      · have := todo_set hiq (by rw [hsz]; exact hilen) hil'
        omega
      · intro k hk
        by_cases hki : k = i
        · subst hki
          simp [hL, hsz, hk, hilen]
        · rw [getD_set_ne false (Ne.symm hki), getD_set_ne false (Ne.symm hki)]; exact hLe k hk

/-- The region's law. -/
theorem wp_region_bar {P : Program} {id : Nat} {Q : Exit → Act → World → Prop} {a : Act} {w : World} {l : List Oper} (q : Nat) (o : Oper) (hm : P.follows .mixedOrders = true) (ho : l[q]? = some o) (hok : barOk l q = true) (G : Value → World → Prop)
    (h : wpQuiet P (l.take q).toArray (fun w' => ∃ x : Past w, w' = x.1) (fun a' => ∀ x : Past w, Region.wanted o (yielded l.toArray a'.tmps) = true ∧ gives P G ((execOp a'.eval o).run P x.1) ∧
      ∀ v w'', G v w'' → wpQuiet P l.toArray (fun w' => ∃ y : Past w'', w' = y.1) (fun a3 => ∀ w3, (∃ y : Past w'', w3 = y.1) → Q .normal a3 w3) (l.drop (q + 1)) (a'.put o.dst v)) (l.take q) a) : (Code.region id l.toArray true).wp P Q a w := by
  have B := barOk_spec hok
  have hql := B.lt
  refine wp_region_any hm ?_
  have hfuel : l.toArray.size = q + (l.length - q) := by simp; omega
  rw [hfuel]
  have hun : ∀ (n j : Nat), (Array.replicate n false).getD j false = false := fun n j => by
    simp only [Array.getD_eq_getD_getElem?, Array.getElem?_replicate]; split <;> rfl
  have hlexP := B.lexP
  simp only [Region.lexB, Bool.and_eq_true] at hlexP
  have hq0 := wpAnyQ_lex (P := P) (C := fun w' => ∃ x : Past w, w' = x.1) (md := .any) hlexP.1 (l.take q) 0 (Array.replicate (l.take q).toArray.size false) a (by simp) (by simpa using hlexP.2) h
  have hlen : (l.take q).length = q := by rw [List.length_take]; omega
  rw [hlen] at hq0
  refine prefix_bar B (l.length - q) ?_ q (Array.replicate (q + (l.length - q)) false) (Array.replicate (l.take q).toArray.size false) a _ ⟨by simp; omega, fun i oi _ hli => by rw [hun] at hli; cases hli⟩ (fun i _ => hun _ _) ?_ (by simp; omega) (fun i _ => by rw [hun, hun]) ⟨⟨_, (Below.refl _ _).drew⟩, rfl⟩ hq0
  · intro listed a' w' hsz hcan ⟨x, hx⟩ hQ'
    subst hx
    obtain ⟨hw, hg, hrest⟩ := hQ' x
    obtain ⟨r, hr⟩ : ∃ r, l.length - q = r + 1 := ⟨l.length - q - 1, by omega⟩
    rw [hr]
    have hs : Shut l.toArray listed := ⟨by simpa using hsz, fun i oi hi hli e he hb => by
      have hil : i < l.length := by
        rcases Nat.lt_or_ge i l.length with h | h
        · exact h
        · simp [List.getElem?_eq_none h] at hi
      rw [hcan i hil] at hli
      have := B.back i oi (by simpa using hi) e he hb
      have h1 := of_decide_eq_true hli
      rw [hcan e.on (by omega)]; exact decide_eq_true (by omega)⟩
    have hqr : q ∈ Region.ready .any l.toArray listed := by
      refine mem_ready.2 ⟨by rw [getD_flip (by rw [hsz]; exact hql) true false, hcan q hql]; simp, o, by simpa using ho, fun e he hb => ?_⟩
      have := B.back q o ho e he hb
      rw [hcan e.on (by omega)]; exact decide_eq_true this
    refine ⟨fun h0 => (by rw [h0] at hqr; cases hqr), fun i hi => ?_⟩
    obtain ⟨hil, oi, hoi, hd⟩ := mem_ready.1 hi
    have hilen : i < l.length := by
      rcases Nat.lt_or_ge i l.length with h | h
      · exact h
      · simp [List.getElem?_eq_none h] at hoi
    have hil' : listed.getD i false = false := by rw [getD_flip (by rw [hsz]; exact hilen) false true]; exact hil
    have hiq : i = q := by
      rcases Nat.lt_trichotomy i q with c | c | c
      · rw [hcan i hilen, decide_eq_true c] at hil'; cases hil'
      · exact c
      · exfalso
        have := B.behind hs i i (Nat.le_refl _) hilen c (fun o' ho' e he hb => by
          have : l[i]? = some oi := by simpa using hoi
          rw [this] at ho'; cases ho'; exact hd e he hb)
        rw [hcan q hql] at this; simp at this
    subst hiq
    have hoo : oi = o := by
      have : l[i]? = some oi := by simpa using hoi
      rw [this] at ho; cases ho; rfl
    subst hoo
    have hcanon : listed.setIfInBounds i true = Array.replicate (i + 1) true ++ Array.replicate (l.length - (i + 1)) false := by
      apply Array.ext_getElem?
      intro k
      rw [Array.getElem?_setIfInBounds, Array.getElem?_append, Array.getElem?_replicate, Array.getElem?_replicate]
      simp only [Array.size_replicate]
      have hget : k < l.length → listed[k]? = some (decide (k < i)) := fun hk => by
        have := hcan k hk
        rw [Array.getD_eq_getD_getElem?, Array.getElem?_eq_getElem (by omega)] at this
        rw [Array.getElem?_eq_getElem (by omega)]; simpa using this
      by_cases c1 : i = k
      · subst c1
        rw [if_pos rfl, if_pos (by omega), if_pos (by omega), if_pos (by omega)]
      · rw [if_neg c1]
        by_cases c2 : k < i + 1
        · rw [if_pos c2, if_pos c2, hget (by omega)]
          congr 1; exact decide_eq_true (by omega)
        · rw [if_neg c2]
          by_cases c3 : k < l.length
          · rw [hget c3, if_pos (by omega)]
            congr 1; exact decide_eq_false (by omega)
          · rw [if_neg (by omega), Array.getElem?_eq_none (by omega)]
    unfold wpOp
    simp only [hoi]
    rw [if_pos hw]
    refine .inl ?_
    unfold Oper.wp
    refine upon_of_gives hg fun v w'' hv => ?_
    have hsuf := hrest v w'' hv
    rw [hcanon]
    have hdl : (l.drop (i + 1)).length = r := by rw [List.length_drop]; omega
    have hq2 := wpAnyQ_lex (P := P) (C := fun w' => ∃ y : Past w'', w' = y.1) (md := .any) B.sel (l.drop (i + 1)) (i + 1) (Array.replicate (i + 1) true ++ Array.replicate (l.length - (i + 1)) false) _ (fun j => by simp [List.getElem?_drop]) B.lexS hsuf
    rw [hdl] at hq2
    exact wpAny_of_quiet (C := fun w' => ∃ y : Past w'', w' = y.1) (fun a3 w3 hw3 h3 => h3 w3 hw3) r _ _ _ ⟨⟨_, Below.refl _ _⟩, rfl⟩ hq2
  · unfold todo
    rw [List.filter_eq_self.2 (fun i _ => by rw [hun]; rfl), List.length_range]
end Go.Proofs.Ytjhhcljbmnomlaa

namespace Go.Proofs.Ytjhhcljbmnomlaa
open Go.ChangeShapes Go.WideShapes Go.ChangeAt Go.RowKit
attribute [local irreducible] Go.Calls

theorem below_blk {w w' : World} {B p : Nat} (h : Below B w w') (hp : p < B) {cs : Array Value} {t : TypeId} (hB : Blk w p cs t) : Blk w' p cs t := hB.below h hp

set_option maxRecDepth 100000 in
set_option maxHeartbeats 4000000 in
theorem pmay_c (l : List Sg) (a : Option Addr) (cap : Nat) (w : World) (hl : l.length ≤ 1099511627776) (hA : ArgS w a l) :
    Calls Try.prog 21 #[.slice a l.length cap] w fun e w' => e = .returned (.bool (mayB l)) ∧ Below w.heap.size w w' := by
  have HA := hidE hA; clear hA
  go_enter Try.func21, Try.ntmps21
  go_wp2_with fail
  ((with_reducible refine (changing_c _).mono ?_); rintro e w1 ⟨rfl, rfl⟩)
  have hb0 : Below w.heap.size w (w.alloc (.cells #[.int .i64 0, .int .i64 0] 27)) := by (repeat (first | exact Below.refl _ _ | assumption | refine balloc ?_ _ | refine below_drewN ?_ _ | refine bstep (by assumption) ?_ | refine bstep (Past.prop _) ?_ | refine Below.setCell ?_ (by first | exact Nat.le_refl _ | (simp; done) | (simp; omega)) _))
  have B0 : Blk (w.alloc (.cells #[.int .i64 0, .int .i64 0] 27)) w.heap.size #[.int .i64 0, .int .i64 0] 27 := Blk.made _ _ _
  have HB0 := hidE hb0; have HBL := hidE B0
  clear hb0 B0
  obtain ⟨p, hp⟩ : ∃ p, p = w.heap.size := ⟨_, rfl⟩
  have HP := hidE hp
  rw [← hp] at HBL ⊢
  generalize w.alloc (.cells #[.int .i64 0, .int .i64 0] 27) = w1 at *
  have hpw : w.heap.size ≤ p := by omega
  clear hp
  go_wp2_with fail
  go_loopg [9, 4, 5] l.length (fun g vi _ _ wr => ∃ k : Nat, k ≤ l.length ∧ l.length - k ≤ g ∧ vi = .int .i64 k ∧ (∀ i, i < k → okAt (0, 0) l i = true) ∧ Below w.heap.size w wr ∧ Blk wr p #[.int .i64 (prevV l k).1, .int .i64 (prevV l k).2] 27)
  case atStart => exact ⟨0, Nat.zero_le _, by omega, rfl, fun i hi => by omega, HB0.out, HBL.out⟩
  case round =>
    clear HB0 HBL
    obtain ⟨k, hk, hg, rfl, hs, hb, hB⟩ := hrel
    have HS := hidE hs; have HB := hidE hb; have HBP := hidE hB; clear hs hb hB
    by_cases hlt : k < l.length
    · obtain ⟨b, off, rfl, hbb, hc⟩ := (HA.out.past HB.out) (by omega)
      have hbw : b < w.heap.size := by
        obtain ⟨b', off', e, hb', _⟩ := HA.out (by omega)
        simp at e; omega
      obtain ⟨c0, c1, c2⟩ := hc.get hlt
      have hpz := HBP.out.lt
      have HV := hidE (fun w => valid_c (l.getD k (0, 0, 0)) w)
      change Hid (∀ w, Calls _ _ #[S (ats l k) (vls l k).1 (vls l k).2] _ _) at HV
      have HPS := hidE (prevV_succ l k)
      obtain ⟨wo, rfl⟩ : ∃ wo : World, wo = wr := ⟨_, rfl⟩
      cases hok : okS (l.getD k (0, 0, 0))
      · have HX := hidE (mayB_bad hlt (show okAt (0, 0) l k = false by unfold okAt; rw [hok]; rfl))
        rw [hok] at HV
        clear hc
        generalize ats l k = u at *
        generalize vls l k = v at *
        go_wp2_with fail
        refine wp_region_past_lit (by kernel_rfl) (by kernel_rfl) ?_
        have hcp := Past.cell (W := wo.alloc (.cells #[.int .i64 u, .int .i64 v.1, .int .i64 v.2] 54))
        repeat (go_big_quiet_step ((go_at_call 46; exact Past.call _ (HV.out _))))
        refine wpQuiet_nil ?_
        rintro _ ⟨x', rfl⟩
        have o1 : Below w.heap.size w x'.1 := by have := HB.out; (repeat (first | exact Below.refl _ _ | assumption | refine balloc ?_ _ | refine below_drewN ?_ _ | refine bstep (by assumption) ?_ | refine bstep (Past.prop _) ?_ | refine Below.setCell ?_ (by first | exact Nat.le_refl _ | (simp; done) | (simp; omega)) _))
        clear hcp
        generalize x'.1 = w5 at *
        go_wp2
        go_ret
        exact ⟨ret_bool (by rw [HX.out]), o1⟩
      · rw [hok] at HV
        have HOK := hidE hok
        have HPV := hidE (show okAt (0, 0) l k = (!(vls l k == prevV l k) && (decide (k = 0) || decide (ats l (k - 1) < ats l k))) by unfold okAt; rw [HOK.out, Bool.true_and]; rfl)
        have HQ : Blk (wo.alloc (.cells #[.int .i64 (ats l k), .int .i64 (vls l k).1, .int .i64 (vls l k).2] 54)) wo.heap.size #[.int .i64 (ats l k), .int .i64 (vls l k).1, .int .i64 (vls l k).2] 54 := Blk.made _ _ _
        have hqp : wo.heap.size ≠ p := by omega
        have HPA : Blk (wo.alloc (.cells #[.int .i64 (ats l k), .int .i64 (vls l k).1, .int .i64 (vls l k).2] 54)) p #[.int .i64 (prevV l k).1, .int .i64 (prevV l k).2] 27 := HBP.out.alloc _
        have HBA : Below w.heap.size w (wo.alloc (.cells #[.int .i64 (ats l k), .int .i64 (vls l k).1, .int .i64 (vls l k).2] 54)) := by have := HB.out; (repeat (first | exact Below.refl _ _ | assumption | refine balloc ?_ _ | refine below_drewN ?_ _ | refine bstep (by assumption) ?_ | refine bstep (Past.prop _) ?_ | refine Below.setCell ?_ (by first | exact Nat.le_refl _ | (simp; done) | (simp; omega)) _))
        have hqz := HQ.lt; have hpz2 := HPA.lt
        have HHQ := hidE HQ; have HHP := hidE HPA; have HHB := hidE HBA
        have hbA : b < (wo.alloc (.cells #[.int .i64 (ats l k), .int .i64 (vls l k).1, .int .i64 (vls l k).2] 54)).heap.size := by simp; omega
        have HCS := hidE (show CellsS (wo.alloc (.cells #[.int .i64 (ats l k), .int .i64 (vls l k).1, .int .i64 (vls l k).2] 54)) b off l from hc.below ((Below.refl _ _).alloc (Nat.le_refl _) _) hbb)
        have hbp : b ≠ p := by omega
        clear hc HQ HPA HBA HBP HB
        go_wp2_with fail
        clear c0 c1 c2
        generalize wo.heap.size = q at *
        generalize hWA : wo.alloc (.cells #[.int .i64 (ats l k), .int .i64 (vls l k).1, .int .i64 (vls l k).2] 54) = WA at *
        have q0 := HHQ.out.cell 0; have q1 := HHQ.out.cell 1; have q2 := HHQ.out.cell 2
        simp at q0 q1 q2
        clear hWA
        refine wp_region_bar 7 _ (by kernel_rfl) rfl (by kernel_rfl) (fun v w'' => v = .bool (!((vls l k) == (prevV l k))) ∧ Blk w'' p #[.int .i64 (vls l k).1, .int .i64 (vls l k).2] 27 ∧ WA.grownBy w'' (some p)) ?_
        simp only [List.take_succ_cons, List.take_zero, List.drop_succ_cons, List.drop_zero]
        have hcp := Past.cell (W := WA)
        repeat (go_big_quiet_step ((go_at_call 46; exact Past.call _ (HV.out _))))
        refine wpQuiet_nil ?_
        intro x
        refine ⟨rfl, ?_, ?_⟩
        · simp [go_sem, gives]
          exact (chg_c p (prevV l k).1 (prevV l k).2 (vls l k).1 (vls l k).2 _ (HHP.out.past x.2)).mono fun e w'' ⟨he, h1, h2⟩ => ⟨_, he, rfl, h1, grown_trans (grown_any x.2) h2⟩
        · rintro v w'' ⟨rfl, hBn, hg⟩
          have hbn : Below w.heap.size w w'' := HHB.out.grown hg (by have := HHB.out.size; omega) (fun k hk => by simp at hk; omega)
          have HG := hidE hbn; have HBN := hidE hBn
          have hq'' : Blk w'' q #[.int .i64 (ats l k), .int .i64 (vls l k).1, .int .i64 (vls l k).2] 54 := HHQ.out.grown hg (by intro e; simp at e; omega)
          have n0 := hq''.cell 0
          simp at n0
          have hqz'' := hq''.lt
          have hraw : CellsS w'' b off l := fun i hi => by
            obtain ⟨h1, h2, h3⟩ := HCS.out i hi
            have hblk := hg.block b hbA (by intro e; simp at e; omega)
            exact ⟨(World.cell?_of_block (w := WA) (a := ⟨b, _, none⟩) hblk).trans h1, (World.cell?_of_block (w := WA) (a := ⟨b, _, none⟩) hblk).trans h2, (World.cell?_of_block (w := WA) (a := ⟨b, _, none⟩) hblk).trans h3⟩
          have hbz'' : b < w''.heap.size := Nat.lt_of_lt_of_le hbA hg.size
          have HRAW := hidE hraw
          clear hbn hBn hq'' hg q0 q1 q2 hraw
          simp only [Act.put, List.setIfInBounds_toArray, List.set_cons_succ, List.set_cons_zero]
          cases hr : (!(vls l k == prevV l k))
          · have HX := hidE (mayB_bad hlt (show okAt (0, 0) l k = false by rw [HPV.out, hr]; rfl))
            clear hcp
            have hcq := Past.cell (W := w'')
            repeat (go_big_quiet_step (fail))
            refine wpQuiet_nil ?_
            rintro _ ⟨y, rfl⟩
            have o1 : Below w.heap.size w y.1 := bstep y.2 HG.out
            clear hcq
            generalize y.1 = w5 at *
            go_wp2
            go_ret
            exact ⟨ret_bool (by rw [HX.out]), o1⟩
          · have HR := hidE (show okAt (0, 0) l k = (decide (k = 0) || decide (ats l (k - 1) < ats l k)) by rw [HPV.out, hr, Bool.true_and])
            clear hr
            by_cases hk0 : k = 0
            · have HX := hidE (show ∀ i, i < k + 1 → okAt (0, 0) l i = true from fun i hi => by
                by_cases e : i = k
                · rw [e, HR.out, decide_eq_true hk0]; rfl
                · exact HS.out i (by omega))
              have hd : decide ((0 : Int) < (k : Int)) = false := decide_eq_false (by omega)
              clear hcp
              have hcq := Past.cell (W := w'')
              repeat (go_big_quiet_step (fail))
              refine wpQuiet_nil ?_
              rintro _ ⟨y, rfl⟩
              have o1 : Below w.heap.size w y.1 := bstep y.2 HG.out
              have o2 := HBN.out.past y.2
              clear hcq
              generalize y.1 = w5 at *
              go_wp2
              go_roundg (l.length - (k + 1))
              case measure => omega
              case rel => exact ⟨k + 1, by omega, Nat.le_refl _, by go_num, HX.out, o1, by rw [HPS.out]; exact o2⟩
            · obtain ⟨j, rfl⟩ : ∃ j, k = j + 1 := ⟨k - 1, by omega⟩
              have hd : decide ((0 : Int) < (j : Int) + 1) = true := decide_eq_true (by omega)
              obtain ⟨m0, m1, m2⟩ := HRAW.out.get (i := j) (by omega)
              clear m1 m2
              by_cases hle : ats l (j + 1) ≤ ats l j
              · have HX := hidE (mayB_bad hlt (show okAt (0, 0) l (j + 1) = false by
                  rw [HR.out, Nat.add_sub_cancel, decide_eq_false hk0, decide_eq_false (by omega)]; rfl))
                have hd2 : decide (ats l (j + 1) ≤ ats l j) = true := decide_eq_true hle
                clear hcp
                have hcq := Past.cell (W := w'')
                repeat (go_big_quiet_step (fail))
                refine wpQuiet_nil ?_
                rintro _ ⟨y, rfl⟩
                have o1 : Below w.heap.size w y.1 := bstep y.2 HG.out
                clear hcq
                generalize y.1 = w5 at *
                go_wp2
                go_ret
                exact ⟨ret_bool (by rw [HX.out]), o1⟩
              · have HX := hidE (show ∀ i, i < j + 1 + 1 → okAt (0, 0) l i = true from fun i hi => by
                  by_cases e : i = j + 1
                  · rw [e, HR.out, Nat.add_sub_cancel, decide_eq_true (show ats l j < ats l (j + 1) by omega), Bool.or_true]
                  · exact HS.out i (by omega))
                have hd2 : decide (ats l (j + 1) ≤ ats l j) = false := decide_eq_false hle
                clear hcp
                have hcq := Past.cell (W := w'')
                repeat (go_big_quiet_step (fail))
                refine wpQuiet_nil ?_
                rintro _ ⟨y, rfl⟩
                have o1 : Below w.heap.size w y.1 := bstep y.2 HG.out
                have o2 := HBN.out.past y.2
                clear hcq
                generalize y.1 = w5 at *
                go_wp2
                go_roundg (l.length - (j + 1 + 1))
                case measure => omega
                case rel => exact ⟨j + 1 + 1, by omega, Nat.le_refl _, by go_num, HX.out, o1, by rw [HPS.out]; exact o2⟩
    · have hk' : k = l.length := by omega
      subst hk'
      have HX := hidE (mayB_good HS.out)
      go_wp2
      go_ret
      exact ⟨ret_bool (by rw [HX.out]), HB.out⟩
end Go.Proofs.Ytjhhcljbmnomlaa

namespace Go.Proofs.Ytjhhcljbmnomlaa
open Go.ChangeShapes Go.WideShapes Go.ChangeAt Go.RowKit
attribute [local irreducible] Go.Calls

theorem all_no {L : List (List Sg)} {i : Nat} (hi : i < L.length) (h : mayB (L.getD i []) = false) : L.all mayB = false := by
  rw [getD_get _ _ _ hi] at h
  rw [List.all_eq_false]
  exact ⟨_, List.getElem_mem hi, by rw [h]; exact Bool.false_ne_true⟩
theorem all_yes {L : List (List Sg)} (h : ∀ i, i < L.length → mayB (L.getD i []) = true) : L.all mayB = true := by
  rw [List.all_eq_true]
  intro x hx
  obtain ⟨i, hi, rfl⟩ := List.getElem_of_mem hx
  have := h i hi
  rw [getD_get _ _ _ hi] at this; exact this

set_option maxRecDepth 100000 in
set_option maxHeartbeats 1000000 in
theorem canon_c (L : List (List Sg)) (a : Option Addr) (cap : Nat) (w : World) (hn : L.length ≤ 999999990) (hl : lenR L ≤ 999999990) (hA : ArgR w a L) :
    Calls Try.prog 31 #[.slice a L.length cap] w fun e w' => e = .returned (.bool (L.all mayB)) ∧ Below w.heap.size w w' := by
  have HA := hidE hA; clear hA
  go_enter Try.func31, Try.ntmps31
  go_wp2
  go_loopg [7, 4] L.length (fun gh vi _ wr => ∃ n : Nat, vi = .int .i64 n ∧ n ≤ L.length ∧ L.length - n ≤ gh ∧ (∀ i, i < n → mayB (L.getD i []) = true) ∧ Below w.heap.size w wr)
  case atStart => exact ⟨0, rfl, by omega, by omega, fun i hi => by omega, Below.refl _ _⟩
  case round =>
    obtain ⟨n, rfl, hnl, hg, hs, hbr⟩ := hrel
    have HS := hidE hs; have HBR := hidE hbr
    clear hs
    by_cases hlt : n < L.length
    · obtain ⟨b, off, rfl, hb, hc⟩ := (HA.out.past hbr) (by omega)
      obtain ⟨ai, ci, d0, hAi⟩ := hc n hlt
      have HAI := hidE hAi
      have hln := lenR_get hlt
      have HV := hidE (fun w hA => pmay_c (L.getD n []) ai ci w (by omega) hA)
      have HF := hidE (fun h => all_no hlt h)
      have HNS := hidE (fun (he : mayB (L.getD n []) = true) => show ∀ i, i < n + 1 → mayB (L.getD i []) = true from fun i hi => by
        by_cases e : i = n
        · rw [e]; exact he
        · exact HS.out i (by omega))
      clear hc hAi hbr
      generalize L.getD n [] = G at *
      cases hm : mayB G
      · have HD := hidE (HF.out hm)
        rw [hm] at HV
        clear HNS HF hm
        go_wp2_with fail
        ((with_reducible refine (HV.out _ HAI.out).mono ?_); rintro e w1 ⟨rfl, hb1⟩)
        go_wp2
        go_ret
        rw [HD.out]
        exact ⟨rfl, bstep hb1 HBR.out⟩
      · have HN := hidE (HNS.out hm)
        rw [hm] at HV
        clear HNS HF hm
        go_wp2_with fail
        ((with_reducible refine (HV.out _ HAI.out).mono ?_); rintro e w1 ⟨rfl, hb1⟩)
        have o1 := bstep hb1 HBR.out
        clear hb1 d0
        go_wp2
        go_roundg (L.length - (n + 1))
        case measure => omega
        case rel => exact ⟨n + 1, by go_num, by omega, Nat.le_refl _, HN.out, o1⟩
    · have hn' : n = L.length := by omega
      subst hn'
      have HE := hidE (all_yes HS.out)
      go_wp2
      go_ret
      rw [HE.out]
      exact ⟨rfl, HBR.out⟩

/-- A new block of two slices. -/
theorem argR_two {w : World} {p : Nat} {F G : List Sg} {a a' : Option Addr} {cap cap' : Nat} {t : TypeId} (h : Blk w p #[.slice a F.length cap, .slice a' G.length cap'] t) (hA : ArgS w a F) (hA' : ArgS w a' G) : ArgR w (some ⟨p, 0, none⟩) [F, G] := fun _ =>
  ⟨p, 0, rfl, h.lt, fun i hi => by
    simp only [List.length_cons, List.length_nil] at hi
    match i, hi with
    | 0, _ => exact ⟨a, cap, h.cell 0, hA⟩
    | 1, _ => exact ⟨a', cap', h.cell 1, hA'⟩⟩
theorem argR_one {w : World} {p : Nat} {F : List Sg} {a : Option Addr} {cap : Nat} {t : TypeId} (h : Blk w p #[.slice a F.length cap] t) (hA : ArgS w a F) : ArgR w (some ⟨p, 0, none⟩) [F] := fun _ =>
  ⟨p, 0, rfl, h.lt, fun i hi => by
    simp only [List.length_cons, List.length_nil] at hi
    match i, hi with
    | 0, _ => exact ⟨a, cap, h.cell 0, hA⟩⟩
theorem canon_two (F G : List Sg) (p : Nat) (a a' : Option Addr) (cap cap' c : Nat) (t : TypeId) (w : World) (hl : F.length + G.length ≤ 999999990) (h : Blk w p #[.slice a F.length cap, .slice a' G.length cap'] t) (hA : ArgS w a F) (hA' : ArgS w a' G) :
    Calls Try.prog 31 #[.slice (some ⟨p, 0, none⟩) 2 c] w fun e w' => e = .returned (.bool (mayB F && mayB G)) ∧ Below w.heap.size w w' := by
  have := canon_c [F, G] (some ⟨p, 0, none⟩) c w (by simp) (by simp [lenR]; omega) (argR_two h hA hA')
  simpa using this
theorem canon_one (F : List Sg) (p : Nat) (a : Option Addr) (cap c : Nat) (t : TypeId) (w : World) (hl : F.length ≤ 999999990) (h : Blk w p #[.slice a F.length cap] t) (hA : ArgS w a F) :
    Calls Try.prog 31 #[.slice (some ⟨p, 0, none⟩) 1 c] w fun e w' => e = .returned (.bool (mayB F)) ∧ Below w.heap.size w w' := by
  have := canon_c [F] (some ⟨p, 0, none⟩) c w (by simp) (by simp [lenR]; omega) (argR_one h hA)
  simpa using this

set_option maxRecDepth 100000 in
theorem checked_c (k : Int) (F G : List Sg) (a a' : Option Addr) (cap cap' : Nat) (fn : Fn) (r c : Array Value) (w : World) (hl : F.length + G.length ≤ 999999990) (hA : ArgS w a F) (hA' : ArgS w a' G)
    (HC : ∀ w', Below w.heap.size w w' → mayB F = true → mayB G = true → Calls Try.prog 34 #[.agg #[.slice a F.length cap, .slice a' G.length cap', .func fn r c]] w' (OfIs w' (doS k F G).1 (doS k F G).2)) :
    Calls Try.prog 36 #[.agg #[.slice a F.length cap, .slice a' G.length cap', .func fn r c]] w (OfIs w (doS k F G).1 (doS k F G).2) := by
  have HA := hidE hA; have HA' := hidE hA'; have HC' := hidE HC
  clear hA hA' HC
  have HCN := hidE (fun w p t h hA hA' => canon_two F G p a a' cap cap' 2 t w hl h hA hA')
  cases hm : (mayB F && mayB G)
  · have HE := hidE (doS_form (k := k) hm)
    rw [HE.out]
    rw [hm] at HCN
    go_enter Try.func36, Try.ntmps36
    go_wp2_with fail
    have B2 : Blk ((w.alloc (Obj.cells #[Value.slice a F.length cap, Value.slice a' G.length cap', Value.func fn r c] 76)).alloc (Obj.cells #[Value.slice a F.length cap, Value.slice a' G.length cap'] 22)) (w.heap.size + 1) #[.slice a F.length cap, .slice a' G.length cap'] 22 := Blk.made_at _ _ _ _ (by simp)
    ((with_reducible refine (HCN.out _ _ _ B2 (HA.out.past (by (repeat (first | exact Below.refl _ _ | assumption | refine balloc ?_ _ | refine below_drewN ?_ _ | refine bstep (by assumption) ?_ | refine bstep (Past.prop _) ?_ | refine Below.setCell ?_ (by first | exact Nat.le_refl _ | (simp; done) | (simp; omega)) _)))) (HA'.out.past (by (repeat (first | exact Below.refl _ _ | assumption | refine balloc ?_ _ | refine below_drewN ?_ _ | refine bstep (by assumption) ?_ | refine bstep (Past.prop _) ?_ | refine Below.setCell ?_ (by first | exact Nat.le_refl _ | (simp; done) | (simp; omega)) _))))).mono ?_); rintro e w1 ⟨rfl, hb1⟩)
    have hB : Below w.heap.size w w1 := by (repeat (first | exact Below.refl _ _ | assumption | refine balloc ?_ _ | refine below_drewN ?_ _ | refine bstep (by assumption) ?_ | refine bstep (Past.prop _) ?_ | refine Below.setCell ?_ (by first | exact Nat.le_refl _ | (simp; done) | (simp; omega)) _))
    clear hb1
    go_wp2
    go_ret2
    exact ⟨_, rfl, sliS_nil _, hB⟩
  · obtain ⟨h1, h2⟩ : mayB F = true ∧ mayB G = true := by simpa using hm
    rw [hm] at HCN
    have HC2 := hidE (fun w' hb => HC'.out w' hb h1 h2)
    clear hm h1 h2 HC'
    generalize doS k F G = D at *
    go_enter Try.func36, Try.ntmps36
    go_wp2_with fail
    have B2 : Blk ((w.alloc (Obj.cells #[Value.slice a F.length cap, Value.slice a' G.length cap', Value.func fn r c] 76)).alloc (Obj.cells #[Value.slice a F.length cap, Value.slice a' G.length cap'] 22)) (w.heap.size + 1) #[.slice a F.length cap, .slice a' G.length cap'] 22 := Blk.made_at _ _ _ _ (by simp)
    have B1 : Blk ((w.alloc (Obj.cells #[Value.slice a F.length cap, Value.slice a' G.length cap', Value.func fn r c] 76)).alloc (Obj.cells #[Value.slice a F.length cap, Value.slice a' G.length cap'] 22)) w.heap.size #[.slice a F.length cap, .slice a' G.length cap', .func fn r c] 76 := (Blk.made _ _ _).alloc _
    ((with_reducible refine (HCN.out _ _ _ B2 (HA.out.past (by (repeat (first | exact Below.refl _ _ | assumption | refine balloc ?_ _ | refine below_drewN ?_ _ | refine bstep (by assumption) ?_ | refine bstep (Past.prop _) ?_ | refine Below.setCell ?_ (by first | exact Nat.le_refl _ | (simp; done) | (simp; omega)) _)))) (HA'.out.past (by (repeat (first | exact Below.refl _ _ | assumption | refine balloc ?_ _ | refine below_drewN ?_ _ | refine bstep (by assumption) ?_ | refine bstep (Past.prop _) ?_ | refine Below.setCell ?_ (by first | exact Nat.le_refl _ | (simp; done) | (simp; omega)) _))))).mono ?_); rintro e w1 ⟨rfl, hb1⟩)
    have hB : Below w.heap.size w w1 := by (repeat (first | exact Below.refl _ _ | assumption | refine balloc ?_ _ | refine below_drewN ?_ _ | refine bstep (by assumption) ?_ | refine bstep (Past.prop _) ?_ | refine Below.setCell ?_ (by first | exact Nat.le_refl _ | (simp; done) | (simp; omega)) _))
    have q1 := B1.past hb1
    clear hb1 B1 B2
    have p0 := q1.cell 0; have p1 := q1.cell 1; have p2 := q1.cell 2; have pf := q1.free; have pz := q1.lt
    simp at p0 p1 p2
    have HB := hidE hB
    clear hB
    go_wp2_with fail
    ((with_reducible refine (HC2.out _ HB.out).mono ?_); rintro e w2 ⟨v2, rfl, hv2, hb2⟩)
    go_wp2
    go_ret2
    exact ⟨_, rfl, hv2, bstep hb2 HB.out⟩

set_option maxRecDepth 100000 in
theorem csub_c (F G : List Sg) (a a' : Option Addr) (cap cap' : Nat) (w : World) (hF : F.length ≤ cap) (hc : cap ≤ 9223372036854775807) (hG : G.length ≤ cap') (hc' : cap' ≤ 9223372036854775807) (hl : F.length + G.length ≤ 999999990) (hA : ArgS w a F) (hA' : ArgS w a' G) :
    Calls Try.prog 49 #[.slice a F.length cap, .slice a' G.length cap'] w (OfIs w (doS 1 F G).1 (doS 1 F G).2) := by
  have HK := hidE (checked_c 1 F G a a' cap cap' (.func 79) #[] #[] w hl hA hA' (fun w' hb h1 h2 => comb_sub F G a a' cap cap' w' hF hc hG hc' (by omega) (hA.past hb) (hA'.past hb) h1 h2))
  clear hA hA'
  go_enter Try.func49, Try.ntmps49
  go_wp2_with fail
  ((with_reducible refine (HK.out).mono ?_); rintro e w2 ⟨v2, rfl, hv2, hb2⟩)
  go_wp2
  go_ret2
  exact ⟨_, rfl, hv2, hb2⟩

set_option maxRecDepth 100000 in
theorem cmn_c (F G : List Sg) (a a' : Option Addr) (cap cap' : Nat) (w : World) (hF : F.length ≤ cap) (hc : cap ≤ 9223372036854775807) (hG : G.length ≤ cap') (hc' : cap' ≤ 9223372036854775807) (hl : F.length + G.length ≤ 999999990) (hA : ArgS w a F) (hA' : ArgS w a' G) :
    Calls Try.prog 17 #[.slice a F.length cap, .slice a' G.length cap'] w (OfIs w (doS 2 F G).1 (doS 2 F G).2) := by
  have hb0 : Below w.heap.size w (w.alloc (.cells #[.func (.func 39) #[] #[]] 82)) := (Below.refl _ _).alloc (Nat.le_refl _) _
  have hq : Blk (w.alloc (.cells #[.func (.func 39) #[] #[]] 82)) w.heap.size #[.func (.func 39) #[] #[]] 82 := Blk.made _ _ _
  have HK := hidE (checked_c 2 F G a a' cap cap' (.func 65) #[] #[.pointer (some ⟨w.heap.size, 0, none⟩)] _ hl (hA.past hb0) (hA'.past hb0)
    (fun w' hb h1 h2 => comb_mn F G a a' cap cap' w' w.heap.size ((hq.past hb).cell 0) (hq.past hb).lt hF hc hG hc' (by omega) ((hA.past hb0).past hb) ((hA'.past hb0).past hb) h1 h2))
  have HB0 := hidE hb0
  clear hA hA' hq hb0
  go_enter Try.func17, Try.ntmps17
  go_wp2_with fail
  ((with_reducible refine (always_mn _).mono ?_); rintro e w1 ⟨rfl, rfl⟩)
  go_wp2_with fail
  ((with_reducible refine (HK.out).mono ?_); rintro e w2 ⟨v2, rfl, hv2, hb2⟩)
  go_wp2
  go_ret2
  exact ⟨_, rfl, hv2, bstep hb2 HB0.out⟩
set_option maxRecDepth 100000 in
theorem cmx_c (F G : List Sg) (a a' : Option Addr) (cap cap' : Nat) (w : World) (hF : F.length ≤ cap) (hc : cap ≤ 9223372036854775807) (hG : G.length ≤ cap') (hc' : cap' ≤ 9223372036854775807) (hl : F.length + G.length ≤ 999999990) (hA : ArgS w a F) (hA' : ArgS w a' G) :
    Calls Try.prog 16 #[.slice a F.length cap, .slice a' G.length cap'] w (OfIs w (doS 3 F G).1 (doS 3 F G).2) := by
  have hb0 : Below w.heap.size w (w.alloc (.cells #[.func (.func 38) #[] #[]] 82)) := (Below.refl _ _).alloc (Nat.le_refl _) _
  have hq : Blk (w.alloc (.cells #[.func (.func 38) #[] #[]] 82)) w.heap.size #[.func (.func 38) #[] #[]] 82 := Blk.made _ _ _
  have HK := hidE (checked_c 3 F G a a' cap cap' (.func 65) #[] #[.pointer (some ⟨w.heap.size, 0, none⟩)] _ hl (hA.past hb0) (hA'.past hb0)
    (fun w' hb h1 h2 => comb_mx F G a a' cap cap' w' w.heap.size ((hq.past hb).cell 0) (hq.past hb).lt hF hc hG hc' (by omega) ((hA.past hb0).past hb) ((hA'.past hb0).past hb) h1 h2))
  have HB0 := hidE hb0
  clear hA hA' hq hb0
  go_enter Try.func16, Try.ntmps16
  go_wp2_with fail
  ((with_reducible refine (always_mx _).mono ?_); rintro e w1 ⟨rfl, rfl⟩)
  go_wp2_with fail
  ((with_reducible refine (HK.out).mono ?_); rintro e w2 ⟨v2, rfl, hv2, hb2⟩)
  go_wp2
  go_ret2
  exact ⟨_, rfl, hv2, bstep hb2 HB0.out⟩
end Go.Proofs.Ytjhhcljbmnomlaa

namespace Go.Proofs.Ytjhhcljbmnomlaa
open Go.ChangeShapes Go.WideShapes Go.ChangeAt Go.RowKit
attribute [local irreducible] Go.Calls

theorem doS_may {k : Int} {F G : List Sg} (h : (doS k F G).2 = 0) : mayB (doS k F G).1 = true := by
  unfold doS at h ⊢
  split
  · rename_i h1; rw [if_pos h1] at h; exact absurd h (by decide)
  · rename_i h1
    rw [if_neg h1] at h
    split
    · rename_i h2
      obtain ⟨a, b⟩ : mayB F = true ∧ mayB G = true := by simpa using h1
      exact mayB_iff.2 (opL_spec (mayB_iff.1 a) (mayB_iff.1 b) h2).1
    · rename_i h2; rw [if_neg h2] at h; exact absurd h (by decide)
/-- A slice of slices, each with its capacity. -/
def ArgQ (w : World) (a : Option Addr) (L : List (List Sg)) : Prop := 0 < L.length → ∃ b off, a = some ⟨b, off, none⟩ ∧ b < w.heap.size ∧ ∀ i, i < L.length → ∃ v, w.cell? ⟨b, off + i, none⟩ = some v ∧ SliS w v (L.getD i [])
theorem ArgQ.past {w w' : World} {a : Option Addr} {L : List (List Sg)} (h : ArgQ w a L) (hb : Below w.heap.size w w') : ArgQ w' a L := fun hl => by
  obtain ⟨b, off, e, h1, h2⟩ := h hl
  refine ⟨b, off, e, Nat.lt_of_lt_of_le h1 hb.size, fun i hi => ?_⟩
  obtain ⟨v, h3, h4⟩ := h2 i hi
  exact ⟨v, (hb.cell (p := ⟨b, _, none⟩) h1).trans h3, h4.past hb⟩
theorem ArgQ.row {w : World} {a : Option Addr} {L : List (List Sg)} (h : ArgQ w a L) : ArgR w a L := fun hl => by
  obtain ⟨b, off, e, h1, h2⟩ := h hl
  refine ⟨b, off, e, h1, fun i hi => ?_⟩
  obtain ⟨v, h3, a', c, rfl, _, _, h4⟩ := h2 i hi
  exact ⟨a', c, h3, h4⟩

end Go.Proofs.Ytjhhcljbmnomlaa

namespace Go.Proofs.Ytjhhcljbmnomlaa
open Go.ChangeShapes Go.WideShapes Go.ChangeAt Go.RowKit
attribute [local irreducible] Go.Calls

theorem of_ok {l F : List Sg} {a : Option Addr} {cap : Nat} {w : World} (hl : l.length ≤ 1099511627776) (hA : ArgS w a l) (ho : l.all okS = true) (hF : IsOf l F) :
    Calls Try.prog 59 #[.slice a l.length cap] w (OfIs w F 0) :=
  (of_c l a cap w hl hA).mono fun e w' ⟨v, f, er, h1, h2, h3, h4⟩ => by
    rcases h3 with ⟨_, rfl, h5⟩ | ⟨h5, _⟩
    · exact ⟨v, h1, by rw [hF.unique h5]; exact h2, h4⟩
    · rw [ho] at h5; cases h5
theorem of_bad {l : List Sg} {a : Option Addr} {cap : Nat} {w : World} (hl : l.length ≤ 1099511627776) (hA : ArgS w a l) (ho : l.all okS = false) :
    Calls Try.prog 59 #[.slice a l.length cap] w (OfIs w [] 10) :=
  (of_c l a cap w hl hA).mono fun e w' ⟨v, f, er, h1, h2, h3, h4⟩ => by
    rcases h3 with ⟨h5, _⟩ | ⟨_, rfl, rfl⟩
    · rw [ho] at h5; cases h5
    · exact ⟨v, h1, h2, h4⟩

theorem box_c (x y m c : Int) (w : World) : Calls Try.prog 32 #[.int .i64 x, .int .i64 y, V m c] w (OfIs w (boxS x y (m, c)).1 (boxS x y (m, c)).2) := by
  by_cases hxy : y < x
  · have HE := hidE (show boxS x y (m, c) = ([], 2) by unfold boxS; rw [if_pos hxy])
    rw [HE.out]
    go_enter Try.func32, Try.ntmps32
    go_wp2
    go_ret2
    exact ⟨_, rfl, sliS_nil _, by (repeat (first | exact Below.refl _ _ | assumption | refine balloc ?_ _ | refine below_drewN ?_ _ | refine bstep (by assumption) ?_ | refine bstep (Past.prop _) ?_ | refine Below.setCell ?_ (by first | exact Nat.le_refl _ | (simp; done) | (simp; omega)) _))⟩
  · have hz : ¬ y < x := hxy
    have HK : ∀ w1 p, Blk w1 p #[.int .i64 x, .int .i64 m, .int .i64 c, .int .i64 y, .int .i64 0, .int .i64 0] 54 → Calls Try.prog 59 #[.slice (some ⟨p, 0, none⟩) 2 2] w1 (OfIs w1 (boxS x y (m, c)).1 (boxS x y (m, c)).2) := by
      intro w1 p hB
      unfold boxS
      rw [if_neg hxy]
      cases ho : (okS (x, (m, c)) && okS (y, (0, 0)))
      · exact of_bad (l := [(x, (m, c)), (y, (0, 0))]) (by simp) (argS_blk (t := 54) hB) (by simpa [List.all_cons] using ho)
      · have h2 : okS (x, (m, c)) = true ∧ okS (y, (0, 0)) = true := by simpa using ho
        exact of_ok (l := [(x, (m, c)), (y, (0, 0))]) (by simp) (argS_blk (t := 54) hB) (by simpa [List.all_cons] using ho) (boxL_of (by omega) h2.1 h2.2)
    have HKK := hidE HK; clear HK hxy
    generalize boxS x y (m, c) = g at *
    go_enter Try.func32, Try.ntmps32
    go_wp2_with (go_at_call 59; ((with_reducible refine (HKK.out _ _ (Blk.made_at _ _ _ _ (by simp))).mono ?_); rintro e w1 ⟨v, rfl, hv, hb⟩))
    go_ret2
    exact ⟨_, rfl, hv, by (repeat (first | exact Below.refl _ _ | assumption | refine balloc ?_ _ | refine below_drewN ?_ _ | refine bstep (by assumption) ?_ | refine bstep (Past.prop _) ?_ | refine Below.setCell ?_ (by first | exact Nat.le_refl _ | (simp; done) | (simp; omega)) _))⟩

end Go.Proofs.Ytjhhcljbmnomlaa

namespace Go.Proofs.Ytjhhcljbmnomlaa
open Go.ChangeShapes Go.WideShapes Go.ChangeAt Go.RowKit
attribute [local irreducible] Go.Calls

/-- What the document's own Range hands back. -/
def rangeS (F : List Sg) (x y : Int) (v : Int × Int) : List Sg × Int :=
  if mayB F = false then ([], 5) else if (boxS x y v).2 ≠ 0 then ([], (boxS x y v).2) else doS 0 F (boxS x y v).1
theorem boxS_len (x y : Int) (v : Int × Int) : (boxS x y v).1.length ≤ 2 := by
  unfold boxS
  split
  · simp
  · split
    · unfold boxL; split <;> simp
    · simp

end Go.Proofs.Ytjhhcljbmnomlaa

namespace Go.Proofs.Ytjhhcljbmnomlaa
open Go.ChangeShapes Go.WideShapes Go.ChangeAt Go.RowKit
attribute [local irreducible] Go.Calls

theorem boxS_may (x y : Int) (v : Int × Int) : mayB (boxS x y v).1 = true := by
  unfold boxS
  split
  · rfl
  · rename_i hxy
    split
    · rename_i h
      obtain ⟨h1, h2⟩ : okS (x, v) = true ∧ okS (y, (0, 0)) = true := by simpa using h
      exact mayB_iff.2 (boxL_of (by omega) h1 h2).1
    · rfl

set_option maxRecDepth 100000 in
set_option maxHeartbeats 1000000 in
theorem crange_c (F : List Sg) (x y m c : Int) (a : Option Addr) (cap : Nat) (w : World) (hF : F.length ≤ cap) (hc : cap ≤ 9223372036854775807) (hl : F.length ≤ 999999980) (hA : ArgS w a F) :
    Calls Try.prog 10 #[.slice a F.length cap, .int .i64 x, .int .i64 y, V m c] w (OfIs w (rangeS F x y (m, c)).1 (rangeS F x y (m, c)).2) := by
  have HA := hidE hA
  have HCN := hidE (fun w p t h hA => canon_one F p a cap 1 t w (by omega) h hA)
  have HBX := hidE (fun w => box_c x y m c w)
  have HBM := hidE (boxS_may x y (m, c))
  have HBL := hidE (boxS_len x y (m, c))
  have HCB := hidE (fun (G : List Sg) a' cap' w' hG hc' hl hA hA' h1 h2 => comb_plus F G a a' cap cap' w' hF hc hG hc' hl hA hA' h1 h2)
  clear hA
  have B1 : Blk ((w.alloc (Obj.cells #[Value.int IntKind.i64 m, Value.int IntKind.i64 c] 27)).alloc (Obj.cells #[Value.slice a F.length cap] 22)) (w.heap.size + 1) #[.slice a F.length cap] 22 := Blk.made_at _ _ _ _ (by simp)
  have BV : Blk ((w.alloc (Obj.cells #[Value.int IntKind.i64 m, Value.int IntKind.i64 c] 27)).alloc (Obj.cells #[Value.slice a F.length cap] 22)) w.heap.size #[.int .i64 m, .int .i64 c] 27 := (Blk.made _ _ _).alloc _
  have HB1 := hidE B1; have HBV := hidE BV
  clear B1 BV
  cases hm : mayB F
  · have HE := hidE (show rangeS F x y (m, c) = ([], 5) by unfold rangeS; rw [if_pos hm])
    rw [HE.out]
    rw [hm] at HCN
    go_enter Try.func10, Try.ntmps10
    go_wp2_with fail
    ((with_reducible refine (HCN.out _ _ _ HB1.out (HA.out.past (by (repeat (first | exact Below.refl _ _ | assumption | refine balloc ?_ _ | refine below_drewN ?_ _ | refine bstep (by assumption) ?_ | refine bstep (Past.prop _) ?_ | refine Below.setCell ?_ (by first | exact Nat.le_refl _ | (simp; done) | (simp; omega)) _))))).mono ?_); rintro e w1 ⟨rfl, hb1⟩)
    have hB : Below w.heap.size w w1 := by (repeat (first | exact Below.refl _ _ | assumption | refine balloc ?_ _ | refine below_drewN ?_ _ | refine bstep (by assumption) ?_ | refine bstep (Past.prop _) ?_ | refine Below.setCell ?_ (by first | exact Nat.le_refl _ | (simp; done) | (simp; omega)) _))
    clear hb1
    go_wp2
    go_ret2
    exact ⟨_, rfl, sliS_nil _, hB⟩
  · have HE := hidE (show rangeS F x y (m, c) = if (boxS x y (m, c)).2 ≠ 0 then ([], (boxS x y (m, c)).2) else doS 0 F (boxS x y (m, c)).1 by unfold rangeS; rw [if_neg (by rw [hm]; decide)])
    rw [hm] at HCN
    have HM := hidE hm
    clear hm
    generalize boxS x y (m, c) = B at *
    generalize rangeS F x y (m, c) = D at *
    by_cases hq : B.2 = 0
    · have hd : (B.2 != 0) = false := by rw [bne_eq_false_iff_eq]; exact hq
      have HD := hidE (show D = doS 0 F B.1 by rw [HE.out, if_neg (by simpa using hq)])
      clear hq HE
      rw [HD.out]
      go_enter Try.func10, Try.ntmps10
      go_wp2_with fail
      ((with_reducible refine (HCN.out _ _ _ HB1.out (HA.out.past (by (repeat (first | exact Below.refl _ _ | assumption | refine balloc ?_ _ | refine below_drewN ?_ _ | refine bstep (by assumption) ?_ | refine bstep (Past.prop _) ?_ | refine Below.setCell ?_ (by first | exact Nat.le_refl _ | (simp; done) | (simp; omega)) _))))).mono ?_); rintro e w1 ⟨rfl, hb1⟩)
      have hB : Below w.heap.size w w1 := by (repeat (first | exact Below.refl _ _ | assumption | refine balloc ?_ _ | refine below_drewN ?_ _ | refine bstep (by assumption) ?_ | refine bstep (Past.prop _) ?_ | refine Below.setCell ?_ (by first | exact Nat.le_refl _ | (simp; done) | (simp; omega)) _))
      have q1 := HBV.out.past hb1
      have HB := hidE hB
      clear hb1 hB
      have p0 := q1.cell 0; have p1 := q1.cell 1; have pf := q1.free; have pz := q1.lt
      simp at p0 p1
      go_wp2_with fail
      ((with_reducible refine (HBX.out _).mono ?_); rintro e w2 ⟨v2, rfl, hv2, hb2⟩)
      obtain ⟨a2, c2, rfl, h1, h2, hA2⟩ := hv2
      have HB2 := hidE (bstep hb2 HB.out)
      have HK := hidE (HCB.out B.1 a2 c2 w2 h1 h2 (by have := HBL.out; omega) (HA.out.past HB2.out) hA2 HM.out HBM.out)
      clear hb2 hA2 p0 p1 pf pz q1 h1 h2
      go_wp2_with fail
      ((with_reducible refine (HK.out).mono ?_); rintro e w3 ⟨v3, rfl, hv3, hb3⟩)
      go_wp2
      go_ret2
      exact ⟨_, rfl, hv3, bstep hb3 HB2.out⟩
    · have hd : (B.2 != 0) = true := bne_iff_ne.2 hq
      have HD := hidE (show D = ([], B.2) by rw [HE.out, if_pos (by simpa using hq)])
      clear hq HE
      rw [HD.out]
      go_enter Try.func10, Try.ntmps10
      go_wp2_with fail
      ((with_reducible refine (HCN.out _ _ _ HB1.out (HA.out.past (by (repeat (first | exact Below.refl _ _ | assumption | refine balloc ?_ _ | refine below_drewN ?_ _ | refine bstep (by assumption) ?_ | refine bstep (Past.prop _) ?_ | refine Below.setCell ?_ (by first | exact Nat.le_refl _ | (simp; done) | (simp; omega)) _))))).mono ?_); rintro e w1 ⟨rfl, hb1⟩)
      have hB : Below w.heap.size w w1 := by (repeat (first | exact Below.refl _ _ | assumption | refine balloc ?_ _ | refine below_drewN ?_ _ | refine bstep (by assumption) ?_ | refine bstep (Past.prop _) ?_ | refine Below.setCell ?_ (by first | exact Nat.le_refl _ | (simp; done) | (simp; omega)) _))
      have q1 := HBV.out.past hb1
      have HB := hidE hB
      clear hb1 hB
      have p0 := q1.cell 0; have p1 := q1.cell 1; have pf := q1.free; have pz := q1.lt
      simp at p0 p1
      go_wp2_with fail
      ((with_reducible refine (HBX.out _).mono ?_); rintro e w2 ⟨v2, rfl, hv2, hb2⟩)
      have HB2 := hidE (bstep hb2 HB.out)
      clear hb2
      go_wp2
      go_ret2
      exact ⟨_, rfl, sliS_nil _, HB2.out⟩

end Go.Proofs.Ytjhhcljbmnomlaa

namespace Go.Proofs.Ytjhhcljbmnomlaa

theorem addS_ok {a b c d : Int} (h1 : okV a b = true) (h2 : okV c d = true) (h3 : okV (a + c) (b + d) = true) : addS a b c d = (a + c, b + d, 0) := by unfold addS; rw [h1, h2, h3]; rfl
theorem subS_ok {a b c d : Int} (h1 : okV a b = true) (h2 : okV c d = true) (h3 : okV (a - c) (b - d) = true) : subS a b c d = (a - c, b - d, 0) := by unfold subS; rw [h1, h2, h3]; rfl
theorem addS_zero {a b c d : Int} (h : (addS a b c d).2.2 = 0) : addS a b c d = (a + c, b + d, 0) ∧ okV a b = true ∧ okV c d = true ∧ okV (a + c) (b + d) = true := by
  unfold addS at h ⊢
  have hg := gate_ok h
  rw [gate_true hg]
  simp only [Bool.and_eq_true] at hg
  exact ⟨rfl, hg.1.1, hg.1.2, hg.2⟩
theorem subS_zero {a b c d : Int} (h : (subS a b c d).2.2 = 0) : subS a b c d = (a - c, b - d, 0) ∧ okV a b = true ∧ okV c d = true ∧ okV (a - c) (b - d) = true := by
  unfold subS at h ⊢
  have hg := gate_ok h
  rw [gate_true hg]
  simp only [Bool.and_eq_true] at hg
  exact ⟨rfl, hg.1.1, hg.1.2, hg.2⟩
theorem may_ok {F : List Sg} (h : mayB F = true) (t : Int) : okV (vat F t).1 (vat F t).2 = true := vat_ok (CF.ok (mayB_iff.1 h)) t

/-- What is made, by its values. -/
theorem doS_codes (k : Int) (F G : List Sg) : (doS k F G).2 = 0 ∨ (doS k F G).2 = 5 ∨ (doS k F G).2 = 10 := by
  unfold doS; split
  · simp
  · split <;> simp
theorem vat_none (t : Int) : vat [] t = (0, 0) := rfl
theorem doS_nil {F : List Sg} (h : mayB F = true) : doS 0 [] F = (F, 0) := doS_of rfl h h fun t => by
  show addS 0 0 (vat F t).1 (vat F t).2 = _
  have := may_ok h t
  rw [addS_ok (by decide) this (by simpa using this)]
  simp
/-- The sum of two. -/
theorem sumS_two (F G : List Sg) : sumS [F, G] = doS 0 F G := by
  cases h : (mayB F && mayB G)
  · have e : [F, G].all mayB = false := by simpa using h
    unfold sumS
    rw [e, doS_form h]; rfl
  · obtain ⟨h1, h2⟩ : mayB F = true ∧ mayB G = true := by simpa using h
    have e : [F, G].all mayB = true := by simp [h1, h2]
    unfold sumS
    rw [e, if_pos rfl]
    unfold sumE
    simp only [List.foldl_cons, List.foldl_nil, doS_nil h1, if_true]
/-- The difference, and back. -/
theorem back_sum {F G D : List Sg} (h : doS 1 G F = (D, 0)) : sumS [F, D] = (G, 0) := by
  obtain ⟨hG, hF, hD, hv⟩ := doS_vals h
  rw [sumS_two]
  refine doS_of hF hD hG fun t => ?_
  have e := hv t
  have e2 : subS (vat G t).1 (vat G t).2 (vat F t).1 (vat F t).2 = ((vat D t).1, (vat D t).2, 0) := e
  obtain ⟨q1, q2, q3, q4⟩ := subS_zero (by rw [e2])
  rw [e2] at q1
  obtain ⟨r1, r2⟩ := Prod.mk.inj q1
  obtain ⟨r2, _⟩ := Prod.mk.inj r2
  show addS (vat F t).1 (vat F t).2 (vat D t).1 (vat D t).2 = _
  rw [addS_ok q3 (may_ok hD t) (by rw [r1, r2]; have := may_ok hG t; rwa [show (vat F t).1 + ((vat G t).1 - (vat F t).1) = (vat G t).1 by omega, show (vat F t).2 + ((vat G t).2 - (vat F t).2) = (vat G t).2 by omega])]
  rw [r1, r2]
  exact Prod.ext (by simp; omega) (Prod.ext (by simp; omega) rfl)
theorem sub_self {F : List Sg} (h : mayB F = true) : doS 1 F F = ([], 0) := doS_of h h rfl fun t => by
  show subS (vat F t).1 (vat F t).2 (vat F t).1 (vat F t).2 = _
  have := may_ok h t
  rw [subS_ok this this (by simp [okV])]
  rw [vat_none]; simp
/-- The least and the greatest of two are there. -/
theorem low_is {F G : List Sg} (hF : mayB F = true) (hG : mayB G = true) : ∃ L, doS 2 F G = (L, 0) ∧ mayB L = true ∧ ∀ t, vat L t = (mn (vat F t).1 (vat G t).1, mn (vat F t).2 (vat G t).2) := by
  have hok : opOk 2 F G = true := opOk_iff.2 fun t => rfl
  have e : doS 2 F G = (opL 2 F G, 0) := by unfold doS; rw [hF, hG, if_neg (by decide), if_pos hok]
  obtain ⟨_, _, hm, hv⟩ := doS_vals e
  refine ⟨_, e, hm, fun t => ?_⟩
  have := hv t
  have e2 : opT 2 F G t = (mn (vat F t).1 (vat G t).1, mn (vat F t).2 (vat G t).2, 0) := rfl
  rw [e2] at this
  obtain ⟨r1, r2⟩ := Prod.mk.inj this
  obtain ⟨r2, _⟩ := Prod.mk.inj r2
  exact Prod.ext r1.symm r2.symm
theorem high_is {F G : List Sg} (hF : mayB F = true) (hG : mayB G = true) : ∃ H, doS 3 F G = (H, 0) ∧ mayB H = true ∧ ∀ t, vat H t = (mx (vat F t).1 (vat G t).1, mx (vat F t).2 (vat G t).2) := by
  have hok : opOk 3 F G = true := opOk_iff.2 fun t => rfl
  have e : doS 3 F G = (opL 3 F G, 0) := by unfold doS; rw [hF, hG, if_neg (by decide), if_pos hok]
  obtain ⟨_, _, hm, hv⟩ := doS_vals e
  refine ⟨_, e, hm, fun t => ?_⟩
  have := hv t
  have e2 : opT 3 F G t = (mx (vat F t).1 (vat G t).1, mx (vat F t).2 (vat G t).2, 0) := rfl
  rw [e2] at this
  obtain ⟨r1, r2⟩ := Prod.mk.inj this
  obtain ⟨r2, _⟩ := Prod.mk.inj r2
  exact Prod.ext r1.symm r2.symm
theorem mn_mx (a b : Int) : mn a b + mx a b = a + b := by unfold mn mx; split <;> omega
/-- They are both together. -/
theorem both_sum {F G L H : List Sg} (hF : mayB F = true) (hG : mayB G = true) (hL : mayB L = true) (hH : mayB H = true)
    (vL : ∀ t, vat L t = (mn (vat F t).1 (vat G t).1, mn (vat F t).2 (vat G t).2)) (vH : ∀ t, vat H t = (mx (vat F t).1 (vat G t).1, mx (vat F t).2 (vat G t).2)) : sumS [L, H] = sumS [F, G] := by
  rw [sumS_two, sumS_two]
  refine doS_ext hL hH hF hG fun t => ?_
  show addS (vat L t).1 (vat L t).2 (vat H t).1 (vat H t).2 = addS (vat F t).1 (vat F t).2 (vat G t).1 (vat G t).2
  unfold addS
  rw [may_ok hL t, may_ok hH t, may_ok hF t, may_ok hG t]
  rw [vL t, vH t]
  simp only [mn_mx]


/-- A vector more in a window. -/
theorem range_vals {F A : List Sg} {x y : Int} {v : Int × Int} (h : rangeS F x y v = (A, 0)) : mayB F = true ∧ mayB A = true ∧ okV v.1 v.2 = true ∧ (x ≤ y ∧ boxS x y v = (boxL x y v, 0)) ∧
    ∀ t, (vat A t).1 = (vat F t).1 + (if x ≤ t ∧ t < y then v.1 else 0) ∧ (vat A t).2 = (vat F t).2 + (if x ≤ t ∧ t < y then v.2 else 0) := by
  unfold rangeS at h
  split at h
  · cases h
  · rename_i hm
    have hF : mayB F = true := by simpa using hm
    split at h
    · rename_i h2
      exact absurd (Prod.mk.inj h).2 h2
    · rename_i h2
      have hb0 : (boxS x y v).2 = 0 := by simpa using h2
      have hbx : x ≤ y ∧ okS (x, v) = true ∧ okS (y, (0, 0)) = true ∧ boxS x y v = (boxL x y v, 0) := by
        unfold boxS at hb0 ⊢
        split at hb0
        · cases hb0
        · rename_i hxy
          rw [if_neg hxy]
          split at hb0
          · rename_i ho
            rw [if_pos ho]
            rw [Bool.and_eq_true] at ho
            exact ⟨by omega, ho.1, ho.2, rfl⟩
          · cases hb0
      obtain ⟨hxy, o1, o2, hbe⟩ := hbx
      obtain ⟨hc1, hc2, _⟩ := boxL_of hxy o1 o2
      rw [hbe] at h
      obtain ⟨_, _, hA, hv⟩ := doS_vals h
      have hbv : ∀ t, vat (boxL x y v) t = if x ≤ t ∧ t < y then v else (0, 0) := fun t => by
        rw [hc2 t]
        unfold rv rread
        simp only [List.foldl_cons, List.foldl_nil]
        unfold rstep
        by_cases k : x ≤ t <;> by_cases k2 : y ≤ t <;> first | omega | (simp [k, k2, hxy]; done) | (simp [k, k2, hxy]; omega)
      have ov : okV v.1 v.2 = true := by
        unfold okS at o1
        rw [Bool.and_eq_true] at o1
        exact o1.2
      refine ⟨hF, hA, ov, ⟨hxy, hbe⟩, fun t => ?_⟩
      have e : addS (vat F t).1 (vat F t).2 (vat (boxL x y v) t).1 (vat (boxL x y v) t).2 = ((vat A t).1, (vat A t).2, 0) := hv t
      obtain ⟨q1, _⟩ := addS_zero (by rw [e])
      rw [e] at q1
      obtain ⟨r1, r2⟩ := Prod.mk.inj q1
      obtain ⟨r2, _⟩ := Prod.mk.inj r2
      rw [hbv t] at r1 r2
      rw [r1, r2]
      constructor <;> split <;> rfl
/-- As much less again. -/
theorem range_back {F A : List Sg} {x y m c : Int} (h : rangeS F x y (m, c) = (A, 0)) : rangeS A x y (-m, -c) = (F, 0) := by
  obtain ⟨hF, hA, ov, ⟨hxy, hbe⟩, hv⟩ := range_vals h
  have ov' := okV_iff.1 ov
  dsimp only at ov' hv
  have hox : okS (x, (m, c)) = true ∧ okS (y, (0, 0)) = true := by
    unfold boxS at hbe
    rw [if_neg (by omega)] at hbe
    split at hbe
    · rename_i ho; rwa [Bool.and_eq_true] at ho
    · exact absurd (Prod.mk.inj hbe).2 (by decide)
  have hox' : okS (x, (-m, -c)) = true := by
    have := hox.1
    unfold okS at this ⊢
    rw [Bool.and_eq_true] at this ⊢
    exact ⟨this.1, okV_iff.2 (by dsimp only; omega)⟩
  have hbe' : boxS x y (-m, -c) = (boxL x y (-m, -c), 0) := by
    unfold boxS
    rw [if_neg (by omega), hox', hox.2]; rfl
  have hbm : mayB (boxL x y (-m, -c)) = true := by have := boxS_may x y (-m, -c); rw [hbe'] at this; exact this
  have hbv : ∀ t, vat (boxL x y (-m, -c)) t = if x ≤ t ∧ t < y then (-m, -c) else (0, 0) := fun t => by
    rw [(boxL_of hxy hox' hox.2).2.1 t]
    unfold rv rread
    simp only [List.foldl_cons, List.foldl_nil]
    unfold rstep
    by_cases k : x ≤ t <;> by_cases k2 : y ≤ t <;> first | omega | (simp [k, k2, hxy]; done) | (simp [k, k2, hxy]; omega)
  unfold rangeS
  rw [hA, if_neg (by decide), hbe', if_neg (by simp)]
  refine doS_of hA hbm hF fun t => ?_
  show addS (vat A t).1 (vat A t).2 (vat (boxL x y (-m, -c)) t).1 (vat (boxL x y (-m, -c)) t).2 = _
  have hvt := hv t
  have hFt := may_ok hF t
  have e1 : (vat A t).1 + (vat (boxL x y (-m, -c)) t).1 = (vat F t).1 := by rw [hvt.1, hbv t]; split <;> simp <;> omega
  have e2 : (vat A t).2 + (vat (boxL x y (-m, -c)) t).2 = (vat F t).2 := by rw [hvt.2, hbv t]; split <;> simp <;> omega
  rw [addS_ok (may_ok hA t) (may_ok hbm t) (by rw [e1, e2]; exact hFt), e1, e2]
end Go.Proofs.Ytjhhcljbmnomlaa

namespace Go.Proofs.Ytjhhcljbmnomlaa
open Go.RowKit

/-- The contract of an iterator value, as SeqT, with the one block that the body made in an earlier round and may write again (g: from where on the body's blocks lie, and that block). -/
def SeqO {α : Type} (P : Program) (gf : Nat) (rb lb : Array Value) (encs : α → Array Value) (n₀ : Nat) (S : List α) (w : World) : Prop :=
  ∀ (l : Nat) (J : List α → Option (Nat × Nat) → World → Prop) (Jx : List α → World → Prop) (W : World), Below w.heap.size w W →
    (∀ s g A B, J s g A → Below W.heap.size A B → (∀ b k, g = some (b, k) → B.heap[k]? = A.heap[k]?) → J s g B) → (∀ s g A, J s g A → ∀ b k, g = some (b, k) → b ≤ k ∧ k < A.heap.size) → (∀ s A B, Jx s A → Below W.heap.size A B → Jx s B) →
    (∀ pre x g W1, J pre g W1 → W.heap.size ≤ W1.heap.size → pre ++ [x] <+: S → YieldAt Fence.wide 0 P l (encs x) W1 fun e W' =>
      (e = .returned (.bool true) ∧ ∃ g', J (pre ++ [x]) g' W' ∧ Below n₀ W1 W' ∧ (∀ k, W.heap.size ≤ k → k < W1.heap.size → (∀ b, g ≠ some (b, k)) → W'.heap[k]? = W1.heap[k]?) ∧ (∀ b k, g' = some (b, k) → W1.heap.size ≤ b ∨ ∃ j, g = some (b, j))) ∨ (e = .returned (.bool false) ∧ Jx (pre ++ [x]) W')) →
    J [] none W →
    Calls P gf (rb ++ #[.func (.yield l) #[] #[]] ++ lb) W fun e W' => (∃ v, e = .returned v) ∧ ((∃ g, J S g W') ∨ ∃ pre, pre <+: S ∧ Jx pre W')

theorem SeqO.toT {α : Type} {P : Program} {gf : Nat} {rb lb : Array Value} {encs : α → Array Value} {n₀ : Nat} {S : List α} {w : World} (h : SeqO P gf rb lb encs n₀ S w) : SeqT P gf rb lb encs n₀ S w := by
  intro l J Jx W hW hJ hJx hY h0
  refine (h l (fun s g A => g = none ∧ J s A) Jx W hW (fun s g A B q hb _ => ⟨q.1, hJ _ _ _ q.2 hb⟩) (fun s g A q b k hk => by rw [q.1] at hk; cases hk) hJx ?_ ⟨rfl, h0⟩).mono ?_
  · rintro pre x g W1 ⟨rfl, q⟩ hz hpre
    obtain ⟨fn, tmps, assign, body, hy, hR⟩ := hY pre x W1 q hpre
    refine ⟨fn, tmps, assign, body, hy, hR.mono ?_⟩
    rintro e W' (⟨rfl, k1, k2⟩ | ⟨rfl, k1⟩)
    · exact .inl ⟨rfl, none, ⟨rfl, k1⟩, k2.below, fun k hk hl _ => k2.beyond k hk hl, fun b k hk => by cases hk⟩
    · exact .inr ⟨rfl, k1⟩
  · rintro e W' ⟨hv, ⟨g, _, q⟩ | q⟩
    · exact ⟨hv, .inl q⟩
    · exact ⟨hv, .inr q⟩

/-- How the body of a round may be left: by its end alone. -/
def postO {α : Type} (n₀ n₁ : Nat) (I : List α → Option (Nat × Nat) → World → Prop) (xs : List α) (g : Option (Nat × Nat)) (W : World) : Exit → Act → World → Prop
  | .normal, _, W' => ∃ g', I xs g' W' ∧ Below n₀ W W' ∧ (∀ k, n₁ ≤ k → k < W.heap.size → (∀ b, g ≠ some (b, k)) → W'.heap[k]? = W.heap[k]?) ∧ (∀ b k, g' = some (b, k) → W.heap.size ≤ b ∨ ∃ j, g = some (b, j))
  | _, _, _ => False

/-- The statement. -/
theorem wp_rangeFunc_O {α : Type} {P : Program} {gop : Operand} {ps : Array Tmp} {assign body : Code} {Q : Exit → Act → World → Prop} {a : Act} {w : World}
    {gf : Nat} {rb lb : Array Value} (hg : a.eval gop = .func (.func gf) rb lb) (eg : ∀ args w, (callFunc gf args).run P w = .ok (.enter gf args) w)
    {encs : α → Array Value} {n₀ : Nat} (hn₀ : n₀ ≤ w.heap.size) {S : List α} (hseq : SeqO P gf rb lb encs n₀ S w) (hps : ∀ x, (encs x).size = ps.size)
    (I : List α → Option (Nat × Nat) → World → Prop) (hI : ∀ s g A B, I s g A → Below w.heap.size A B → (∀ b k, g = some (b, k) → B.heap[k]? = A.heap[k]?) → I s g B) (hIg : ∀ s g A, I s g A → ∀ b k, g = some (b, k) → b ≤ k ∧ k < A.heap.size) (h0 : I [] none w)
    (Ax : α → Act → World → Prop) (hAx : ∀ x a' A l r o, Ax x a' A → A.heap[l]? = some (.loop r) → Ax x a' (A.putObj l o))
    (hassign : ∀ (l : Nat) (pre : List α) (x : α) (g : Option (Nat × Nat)) (W : World) (K : Act → World → Prop), w.heap.size ≤ W.heap.size → I pre g W → (∀ a' W', Below W.heap.size W W' → I pre g W' → Ax x a' W' → K a' W') →
      assign.wpIn (Fence.wide.inRound l) 0 P (Exit.then K (fun _ _ _ => False)) { tmps := (ps.zip (encs x)).foldl (fun t (p, v) => t.setIfInBounds p v) a.tmps, defers := [] } W)
    (hbody : ∀ (l : Nat) (pre : List α) (x : α) (g : Option (Nat × Nat)) (a' : Act) (W : World), w.heap.size ≤ W.heap.size → I pre g W → Ax x a' W → pre ++ [x] <+: S → body.wpIn (Fence.wide.inRound l) 0 P (postO n₀ w.heap.size I (pre ++ [x]) g W) a' W)
    (hdone : ∀ (D : Nat) (g : Option (Nat × Nat)) (W : World), D = w.heap.size → I S g W → (∀ b k, g = some (b, k) → w.heap.size + 2 ≤ b) → W.heap[D]? = some (.deferred (some [])) → Q .normal { a with defers := { target := .collected D, args := #[] } :: a.defers } W) :
    (Code.rangeFunc gop ps assign body).wp P Q a w := by
  refine (wpIn_wide (n := 0)).1 (wpIn_rangeFunc ?_)
  intro fn hfn
  obtain ⟨rec, hrec⟩ : ∃ rec : LoopState → Option Code → Loop, rec = fun st pe => { state := st, pending := pe, fn, tmps := a.tmps, params := ps, assign, body, defers := w.heap.size } := ⟨_, rfl⟩
  obtain ⟨W1, hW1⟩ : ∃ W1, (w.alloc (.deferred (some []))).alloc (.loop (rec .ready none)) = W1 := ⟨_, rfl⟩
  have hL1 : W1.heap[w.heap.size + 1]? = some (.loop (rec .ready none)) := by
    rw [← hW1]; have := World.alloc_heap_new (w.alloc (.deferred (some []))) (.loop (rec .ready none)); rwa [World.size_alloc] at this
  have hK1 : W1.heap[w.heap.size]? = some (.deferred (some [])) := by
    rw [← hW1]; exact (Below.heap_alloc _ _ _ (by simp)).trans (World.alloc_heap_new w _)
  have hb1 : Below w.heap.size w W1 := by
    rw [← hW1]; exact ((Below.refl _ w).alloc (Nat.le_refl _) _).alloc (by simp) _
  have hs1 : W1.heap.size = w.heap.size + 2 := by rw [← hW1]; simp
  have hI1 : I [] none W1 := hI _ _ _ _ h0 hb1 (fun b k hk => by cases hk)
  refine ⟨w.heap.size + 1, [{ target := .collected w.heap.size, args := #[] }], W1, { target := .fn (.func gf) lb, args := rb ++ #[.func (.yield (w.heap.size + 1)) #[] #[]] }, W1, gf,
    rb ++ #[.func (.yield (w.heap.size + 1)) #[] #[]] ++ lb, W1, ?_, ?_, ?_, ?_, fun h => by simp [Fence.wide] at h, ?_⟩
  · rw [← hW1, hrec]; exact run_enterLoop_outer _ _ _ _ _
  · simp only [resolve, hg]
    simp [go_sem, Deferred.ofValue]
  · intro f' hf'; trivial
  · simp [invoke, go_sem, eg]
  · refine callsIn_wide.2 ?_
    refine (hseq (w.heap.size + 1)
      (fun pre g W => I pre g W ∧ W.heap[w.heap.size + 1]? = some (.loop (rec .ready none)) ∧ W.heap[w.heap.size]? = some (.deferred (some [])) ∧ w.heap.size ≤ W.heap.size ∧ ∀ b k, g = some (b, k) → w.heap.size + 2 ≤ b)
      (fun _ _ => False)
      W1 hb1
      (fun s g A B hs hb hk => ⟨hI s g A B hs.1 (hb.mono (by omega)) hk, (hb.block _ (by omega)).trans hs.2.1, (hb.block _ (by omega)).trans hs.2.2.1, Nat.le_trans hs.2.2.2.1 hb.size, hs.2.2.2.2⟩)
      (fun s g A hs b k hk => hIg s g A hs.1 b k hk)
      (fun s A B hs _ => hs)
      ?_ ⟨hI1, hL1, hK1, hb1.size, fun b k hk => by cases hk⟩).mono ?_
    · -- one round
      rintro pre x g W ⟨hi, hl, hk, hsz, hg0⟩ hW1z hpre
      have hlt : w.heap.size + 1 < W.heap.size := (Array.getElem?_eq_some_iff.1 hl).1
      have hy := run_yield (P := P) (args := encs x) hl (by rw [hrec]; exact hps x)
      rw [hrec] at hy
      refine ⟨fn, _, assign, body, hy, roundIn_of_wpIn trivial (hassign _ pre x g W _ hsz hi ?_)⟩
      clear hy
      intro a' Wa hoa hia hax
      have hla := (hoa.block (w.heap.size + 1) hlt).trans hl
      have hka := (hoa.block w.heap.size (by omega)).trans hk
      have hlta : w.heap.size + 1 < Wa.heap.size := Nat.lt_of_lt_of_le hlt hoa.size
      refine ⟨_, run_beginRound hla (by rw [hrec]), ?_⟩
      have hl2 : (Wa.putObj (w.heap.size + 1) (.loop { rec .ready none with state := .busy })).heap[w.heap.size + 1]? = some (.loop { rec .ready none with state := .busy }) := World.putObj_heap_same hlta
      have hk2 : (Wa.putObj (w.heap.size + 1) (.loop { rec .ready none with state := .busy })).heap[w.heap.size]? = some (.deferred (some [])) := (World.putObj_heap_other (by omega)).trans hka
      have hb2 : Below w.heap.size Wa (Wa.putObj (w.heap.size + 1) (.loop { rec .ready none with state := .busy })) := below_putObj _ _ _ (by omega)
      refine wpIn_mono (hbody _ pre x g a' _ (by have := hoa.size; simp; omega) (hI _ _ _ _ hia hb2 (fun b k hk => World.putObj_heap_other (fun e => by have := hg0 b k hk; have := (hIg _ _ _ hi b k hk).1; omega))) (hAx _ _ _ _ _ _ hax hla) hpre) ?_
      rintro e a3 W3 hp
      cases e with
      | normal =>
        obtain ⟨g', hi3, hb3, hk3, hg3⟩ := hp
        have hz3 := hb3.size
        have hl3 := (hk3 (w.heap.size + 1) (by omega) (by simp; omega) (fun b e => by have := hg0 b _ e; have := (hIg _ _ _ hi b _ e).1; omega)).trans hl2
        have hd3 := (hk3 w.heap.size (Nat.le_refl _) (by simp; omega) (fun b e => by have := hg0 b _ e; have := (hIg _ _ _ hi b _ e).1; omega)).trans hk2
        have hr := run_endRound (P := P) (none : Option Code) hl3
        have hsz3 : w.heap.size + 1 < W3.heap.size := (Array.getElem?_eq_some_iff.1 hl3).1
        have hzz : W.heap.size ≤ W3.heap.size := by have := hoa.size; simp at hz3; omega
        have hg0' : ∀ b k, g' = some (b, k) → w.heap.size + 2 ≤ b := fun b k e => by
          rcases hg3 b k e with h | ⟨j, h⟩
          · simp at h
            have := hoa.size
            omega
          · exact hg0 b j h
        have hb4 : Below w.heap.size W3 (W3.putObj (w.heap.size + 1) (.loop (rec .ready none))) := below_putObj _ _ _ (by omega)
        refine ⟨.bool true, W3.putObj (w.heap.size + 1) (.loop (rec .ready none)), ?_, .inl ⟨rfl, g', ⟨hI _ _ _ _ hi3 hb4 (fun b k hk => World.putObj_heap_other (fun e => by have := hg0' b k hk; have := (hIg _ _ _ hi3 b k hk).1; omega)), World.putObj_heap_same hsz3, (World.putObj_heap_other (by omega)).trans hd3, by simp; omega, hg0'⟩, ?_, ?_, ?_⟩⟩
        · rw [hrec] at hr ⊢; exact hr
        · exact ((hoa.mono (by omega)).trans (hb2.mono hn₀)).trans (hb3.trans (hb4.mono hn₀))
        · intro k h1 h2 h3
          have h4 : k ≠ w.heap.size + 1 := by omega
          exact (World.putObj_heap_other h4).trans ((hk3 k (by omega) (by have := hoa.size; simp; omega) h3).trans ((World.putObj_heap_other h4).trans (hoa.block k h2)))
        · intro b k e
          rcases hg3 b k e with h | h
          · exact .inl (by have := hoa.size; simp at h; omega)
          · exact .inr h
      | ret => exact hp.elim
      | exit id => exact hp.elim
      | goto t => exact hp.elim
      | panic ch => exact hp.elim
      | outgrown => exact hp.elim
    · -- behind the iterator
      rintro e W2 ⟨⟨v, rfl⟩, (⟨g, hi, hl, hk, hz, hg0⟩ | ⟨pre, _, hf⟩)⟩
      · exact ⟨none, _, by have := run_endLoop (P := P) hl (by rw [hrec]; simp); rw [hrec] at this; exact this, hdone _ g _ rfl (hI _ _ _ _ hi (below_putObj _ _ _ (by omega)) (fun b k hk => World.putObj_heap_other (fun e => by have := hg0 b k hk; have := (hIg _ _ _ hi b k hk).1; omega))) hg0 ((World.putObj_heap_other (by omega)).trans hk)⟩
      · exact hf.elim
end Go.Proofs.Ytjhhcljbmnomlaa

namespace Go.Proofs.Ytjhhcljbmnomlaa
open Go.ChangeShapes Go.WideShapes Go.ChangeAt Go.RowKit
attribute [local irreducible] Go.Calls

/-- What yield is handed. -/
def encS (s : St) : Array Value := #[.agg #[.int .i64 s.1, .int .i64 s.2.1, .int .i64 s.2.2.1, .int .i64 s.2.2.2]]
/-- A window. -/
abbrev WN (a : Option Addr) (n cap : Nat) (x y : Int) : Value := .agg #[.slice a n cap, .int .i64 x, .int .i64 y]

/-- Where the walk stands between two rounds. -/
def StrAt (F : List Sg) (x y : Int) (w0 W : World) (J : List St → Option (Nat × Nat) → World → Prop) (gh : Nat) (v13 : Value) (wr : World) : Prop :=
  ∃ (k : Nat) (p q : Int) (v : Int × Int) (pre : List St) (g : Option (Nat × Nat)), (∀ b k, g = some (b, k) → W.heap.size + 2 ≤ b) ∧ k ≤ F.length ∧ F.length - k ≤ gh ∧ v13 = .int .i64 k ∧ pre ++ strG y (F.drop k) p v = strL F x y ∧ J pre g wr ∧
    Below w0.heap.size w0 wr ∧ W.heap.size + 1 < wr.heap.size ∧ Blk wr (W.heap.size + 1) #[.int .i64 p, .int .i64 q, .int .i64 v.1, .int .i64 v.2] 119

set_option maxRecDepth 100000 in
set_option maxHeartbeats 2000000 in
theorem strO_c (F : List Sg) (x y : Int) (a : Option Addr) (cap : Nat) (w0 w : World) (hl : F.length ≤ 1000000000) (hA : ArgS w0 a F) (hb : Below w0.heap.size w0 w) :
    SeqO Try.prog 78 #[WN a F.length cap x y] #[] encS w0.heap.size (strL F x y) w := by
  intro l J Jx W hW hJ hJg hJx hY h0
  have H0 := hidE h0; have HJ := hidE hJ; have HJG := hidE hJg; have HJX := hidE hJx; have HY := hidE hY
  have HA := hidE hA
  have hbW : Below w0.heap.size w0 W := hb.trans (hW.mono hb.size)
  have HBW := hidE hbW
  clear hA hJ hJg hJx hY h0 hb hW hbW
  show Calls Try.prog 78 #[WN a F.length cap x y, .func (.yield l) #[] #[]] W _
  go_enter Try.func78, Try.ntmps78
  go_wp2
  go_loopg [13] F.length (fun gh v13 wr => StrAt F x y w0 W J gh v13 wr ∧ Blk wr W.heap.size #[.slice a F.length cap, .int .i64 x, .int .i64 y] 117)
  case atStart =>
    refine ⟨⟨0, x, 0, (0, 0), [], none, fun b k h => (by cases h), Nat.zero_le _, Nat.le_refl _, rfl, rfl, HJ.out _ _ _ _ H0.out ?_ (fun b k h => by cases h), HBW.out.trans (Below.mono ?_ HBW.out.size), ?_, ?_⟩, ?_⟩
    · (repeat (first | exact Below.refl _ _ | assumption | refine balloc ?_ _ | refine below_drewN ?_ _ | refine bstep (by assumption) ?_ | refine bstep (Past.prop _) ?_ | refine Below.setCell ?_ (by first | exact Nat.le_refl _ | (simp; done) | (simp; omega)) _))
    · (repeat (first | exact Below.refl _ _ | assumption | refine balloc ?_ _ | refine below_drewN ?_ _ | refine bstep (by assumption) ?_ | refine bstep (Past.prop _) ?_ | refine Below.setCell ?_ (by first | exact Nat.le_refl _ | (simp; done) | (simp; omega)) _))
    · simp
    · exact Blk.made_at _ _ _ _ (by simp)
    · exact (Blk.made _ _ _).alloc _
  case round =>
    obtain ⟨⟨k, p, q, v, pre, g, hgb, hk, hgh, rfl, hpre, hJ1, hB1, hsz, blk⟩, blk0⟩ := hrel
    have HGB := hidE hgb
    have HK := hidE (fun b k (e : g = some (b, k)) => show W.heap.size + 1 < k ∧ k < wr.heap.size from by have h1 := hgb b k e; have h2 := HJG.out _ _ _ hJ1 b k e; omega)
    clear hgb
    have HJ1 := hidE hJ1; have HB1 := hidE hB1; have HPRE := hidE hpre; have HBK := hidE blk; have HBK0 := hidE blk0; have HSZ := hidE hsz; have HG := hidE hgh
    clear hJ1 hB1 hpre blk blk0 hsz hgh
    obtain ⟨wo, hwo⟩ : ∃ wo : World, wo = wr := ⟨_, rfl⟩
    have cases3 : ((¬ k < F.length ∨ (k < F.length ∧ decide ((k : Int) < (F.length : Int)) = true ∧ decide (y ≤ ats F k) = true)) ∧ pre ++ strZ y p v = strL F x y) ∨
        (k < F.length ∧ decide ((k : Int) < (F.length : Int)) = true ∧ decide (y ≤ ats F k) = false ∧ decide (p < ats F k) = false ∧ pre ++ strG y (F.drop (k + 1)) p (vls F k) = strL F x y) ∨
        (k < F.length ∧ decide ((k : Int) < (F.length : Int)) = true ∧ decide (y ≤ ats F k) = false ∧ decide (p < ats F k) = true ∧ pre ++ (p, ats F k, v) :: strG y (F.drop (k + 1)) (ats F k) (vls F k) = strL F x y) := by
      have hp := HPRE.out
      by_cases hlt : k < F.length
      · rw [drop_cons hlt] at hp
        have hd : decide ((k : Int) < (F.length : Int)) = true := decide_eq_true (by omega)
        by_cases h1 : y ≤ ats F k
        · rw [strG_end h1] at hp
          exact .inl ⟨.inr ⟨hlt, hd, decide_eq_true h1⟩, hp⟩
        · by_cases h2 : p < ats F k
          · rw [strG_cut h1 h2] at hp
            exact .inr (.inr ⟨hlt, hd, decide_eq_false h1, decide_eq_true h2, hp⟩)
          · rw [strG_on h1 h2] at hp
            exact .inr (.inl ⟨hlt, hd, decide_eq_false h1, decide_eq_false h2, hp⟩)
      · rw [List.drop_eq_nil_of_le (by omega), strG_nil] at hp
        exact .inl ⟨.inl hlt, hp⟩
    clear HPRE
    rcases cases3 with ⟨he, hp⟩ | ⟨hlt, hd, h1, h2, hp⟩ | ⟨hlt, hd, h1, h2, hp⟩
    · have HP := hidE hp
      clear hp
      have c3 := HBK0.out.cell 2; have c4 := HBK.out.cell 0; have c5 := HBK.out.cell 1; have c6 := HBK.out.cell 2; have c7 := HBK.out.cell 3; have f4 := HBK.out.free; have z4 := HBK.out.lt; have z3 := HBK0.out.lt
      simp at c3 c4 c5 c6 c7
      have hsz := HSZ.out
      by_cases hz : p < y
      · have dz : decide (p < y) = true := decide_eq_true hz
        have HP2 := hidE (show pre ++ [(p, y, v)] = strL F x y by rw [← HP.out]; unfold strZ; rw [if_pos hz])
        clear HP hz
        have hpre : pre ++ [(p, y, v)] <+: strL F x y := by rw [HP2.out]; exact List.prefix_refl _
        rcases he with he | ⟨hlt, he, he2⟩
        · have he1 : decide (k < F.length) = false := decide_eq_false he
          have he2 : decide ((k : Int) < (F.length : Int)) = false := decide_eq_false (by omega)
          have bb : Below W.heap.size wr (wr.setCell ⟨W.heap.size + 1, 1, none⟩ (.int .i64 y)) := (Below.refl _ wr).setCell (p := ⟨W.heap.size + 1, 1, none⟩) (by simp) _
          obtain ⟨fn, tmps, assign, body, hy, hR⟩ := HY.out pre (p, y, v) g _ (HJ.out _ _ _ _ HJ1.out bb (fun b k e => by obtain ⟨q1, q2⟩ := HK.out b k e; exact keptS (by omega) _)) (by simp [World.setCell]; omega) hpre
          dsimp only [encS] at hy
          go_upto_region 14 with fail
          refine (wpIn_wide (n := 0)).1 ?_
          gi_wp2
          refine ⟨rfl, hR.mono ?_⟩
          clear hy hR
          rintro e W' (⟨rfl, g', hJ', hO, hO2, hO3⟩ | ⟨rfl, hJx'⟩)
          all_goals
            gi_wp2
            try go_wp2
            go_end0
          · exact ⟨⟨_, rfl⟩, .inl ⟨g', by rw [← HP2.out]; exact hJ'⟩⟩
          · exact ⟨⟨_, rfl⟩, .inr ⟨pre ++ [(p, y, v)], hpre, hJx'⟩⟩
        · obtain ⟨b, off, rfl, hb, hc⟩ := (HA.out.past HB1.out) (by omega)
          obtain ⟨c0, c1, c2⟩ := hc.get hlt
          clear hc
          generalize ats F k = u at *
          generalize vls F k = v' at *
          have bb : Below W.heap.size wr ((wr.setCell ⟨W.heap.size + 1, 1, none⟩ (.int .i64 y)).alloc (Obj.cells #[.int .i64 u, .int .i64 v'.1, .int .i64 v'.2] 54)) :=
            ((Below.refl _ wr).setCell (p := ⟨W.heap.size + 1, 1, none⟩) (by simp) _).alloc (by simp [World.setCell]; omega) _
          obtain ⟨fn, tmps, assign, body, hy, hR⟩ := HY.out pre (p, y, v) g _ (HJ.out _ _ _ _ HJ1.out bb (fun b k e => by obtain ⟨q1, q2⟩ := HK.out b k e; exact (keptA (by simp [World.setCell]; omega) _).trans (keptS (by omega) _))) (by simp [World.setCell]; omega) hpre
          dsimp only [encS] at hy
          go_upto_region 14 with fail
          refine (wpIn_wide (n := 0)).1 ?_
          gi_wp2
          refine ⟨rfl, hR.mono ?_⟩
          clear hy hR
          rintro e W' (⟨rfl, g', hJ', hO, hO2, hO3⟩ | ⟨rfl, hJx'⟩)
          all_goals
            gi_wp2
            try go_wp2
            go_end0
          · exact ⟨⟨_, rfl⟩, .inl ⟨g', by rw [← HP2.out]; exact hJ'⟩⟩
          · exact ⟨⟨_, rfl⟩, .inr ⟨pre ++ [(p, y, v)], hpre, hJx'⟩⟩
      · have dz : decide (p < y) = false := decide_eq_false hz
        have HP2 := hidE (show pre = strL F x y by rw [← HP.out]; unfold strZ; rw [if_neg hz, List.append_nil])
        clear HP hz
        rcases he with he | ⟨hlt, he, he2⟩
        · have he1 : decide (k < F.length) = false := decide_eq_false he
          have he2 : decide ((k : Int) < (F.length : Int)) = false := decide_eq_false (by omega)
          have bb : Below W.heap.size wr (wr.setCell ⟨W.heap.size + 1, 1, none⟩ (.int .i64 y)) := (Below.refl _ wr).setCell (p := ⟨W.heap.size + 1, 1, none⟩) (by simp) _
          have HJ2 := hidE (HJ.out _ _ _ _ HJ1.out bb (fun b k e => by obtain ⟨q1, q2⟩ := HK.out b k e; exact keptS (by omega) _))
          clear bb
          go_wp2
          go_end0
          exact ⟨⟨_, rfl⟩, .inl ⟨g, by rw [← HP2.out]; exact HJ2.out⟩⟩
        · obtain ⟨b, off, rfl, hb, hc⟩ := (HA.out.past HB1.out) (by omega)
          obtain ⟨c0, c1, c2⟩ := hc.get hlt
          clear hc
          generalize ats F k = u at *
          generalize vls F k = v' at *
          have bb : Below W.heap.size wr ((wr.setCell ⟨W.heap.size + 1, 1, none⟩ (.int .i64 y)).alloc (Obj.cells #[.int .i64 u, .int .i64 v'.1, .int .i64 v'.2] 54)) :=
            ((Below.refl _ wr).setCell (p := ⟨W.heap.size + 1, 1, none⟩) (by simp) _).alloc (by simp [World.setCell]; omega) _
          have HJ2 := hidE (HJ.out _ _ _ _ HJ1.out bb (fun b k e => by obtain ⟨q1, q2⟩ := HK.out b k e; exact (keptA (by simp [World.setCell]; omega) _).trans (keptS (by omega) _)))
          clear bb
          go_wp2
          go_end0
          exact ⟨⟨_, rfl⟩, .inl ⟨g, by rw [← HP2.out]; exact HJ2.out⟩⟩
    · have HP := hidE hp
      obtain ⟨b, off, rfl, hb, hc⟩ := (HA.out.past HB1.out) (by omega)
      obtain ⟨c0, c1, c2⟩ := hc.get hlt
      have c3 := HBK0.out.cell 2; have c4 := HBK.out.cell 0; have c5 := HBK.out.cell 1; have c6 := HBK.out.cell 2; have c7 := HBK.out.cell 3; have f4 := HBK.out.free; have z4 := HBK.out.lt; have z3 := HBK0.out.lt
      simp at c3 c4 c5 c6 c7
      clear hc hp
      generalize ats F k = u at *
      generalize vls F k = v' at *
      go_wp2
      go_roundg (F.length - (k + 1))
      case measure => have := HG.out; omega
      case rel =>
        have hsz := HSZ.out
        have bb : Below W.heap.size wr (((wr.setCell ⟨W.heap.size + 1, 2, none⟩ (.int .i64 v'.1)).setCell ⟨W.heap.size + 1, 3, none⟩ (.int .i64 v'.2)).alloc (Obj.cells #[.int .i64 u, .int .i64 v'.1, .int .i64 v'.2] 54)) :=
          (((Below.refl _ wr).setCell (p := ⟨W.heap.size + 1, 2, none⟩) (by simp) _).setCell (p := ⟨W.heap.size + 1, 3, none⟩) (by simp) _).alloc (by simp [World.setCell]; omega) _
        exact ⟨⟨k + 1, p, q, v', pre, g, HGB.out, by omega, Nat.le_refl _, by go_num, HP.out, HJ.out _ _ _ _ HJ1.out bb (fun b k e => by obtain ⟨q1, q2⟩ := HK.out b k e; exact (keptA (by simp [World.setCell]; omega) _).trans ((keptS (by omega) _).trans (keptS (by omega) _))), HB1.out.trans (bb.mono HBW.out.size), by simp [World.setCell]; omega, ((HBK.out.set 2 (.int .i64 v'.1)).set 3 (.int .i64 v'.2)).alloc _⟩, ((HBK0.out.other (by omega) _).other (by omega) _).alloc _⟩
    · have HP := hidE hp
      obtain ⟨b, off, rfl, hb, hc⟩ := (HA.out.past HB1.out) (by omega)
      obtain ⟨c0, c1, c2⟩ := hc.get hlt
      have c3 := HBK0.out.cell 2; have c4 := HBK.out.cell 0; have c5 := HBK.out.cell 1; have c6 := HBK.out.cell 2; have c7 := HBK.out.cell 3; have f4 := HBK.out.free; have z4 := HBK.out.lt; have z3 := HBK0.out.lt
      simp at c3 c4 c5 c6 c7
      clear hc hp
      generalize ats F k = u at *
      generalize vls F k = v' at *
      have hpre : pre ++ [(p, u, v)] <+: strL F x y := ⟨strG y (F.drop (k + 1)) u v', by rw [← HP.out]; simp⟩
      have hsz := HSZ.out
      have q1 := (HBK.out.set 1 (.int .i64 u)).alloc (Obj.cells #[.int .i64 u, .int .i64 v'.1, .int .i64 v'.2] 54)
      have q0 := (HBK0.out.other (b := W.heap.size + 1) (i := 1) (by omega) (.int .i64 u)).alloc (Obj.cells #[.int .i64 u, .int .i64 v'.1, .int .i64 v'.2] 54)
      have qr : Blk ((wr.setCell ⟨W.heap.size + 1, 1, none⟩ (.int .i64 u)).alloc (Obj.cells #[.int .i64 u, .int .i64 v'.1, .int .i64 v'.2] 54)) wr.heap.size #[.int .i64 u, .int .i64 v'.1, .int .i64 v'.2] 54 := Blk.made_at _ _ _ _ (by simp [World.setCell])
      have bb : Below W.heap.size wr ((wr.setCell ⟨W.heap.size + 1, 1, none⟩ (.int .i64 u)).alloc (Obj.cells #[.int .i64 u, .int .i64 v'.1, .int .i64 v'.2] 54)) :=
        ((Below.refl _ wr).setCell (p := ⟨W.heap.size + 1, 1, none⟩) (by simp) _).alloc (by simp [World.setCell]; omega) _
      obtain ⟨fn, tmps, assign, body, hy, hR⟩ := HY.out pre (p, u, v) g _ (HJ.out _ _ _ _ HJ1.out bb (fun b k e => by obtain ⟨q1, q2⟩ := HK.out b k e; exact (keptA (by simp [World.setCell]; omega) _).trans (keptS (by omega) _))) (by simp [World.setCell]; omega) hpre
      dsimp only [encS] at hy
      have HQ1 := hidE q1; have HQ0 := hidE q0; have HQR := hidE qr; have HBB := hidE bb; have HPR := hidE hpre
      clear q1 q0 qr bb hpre
      go_upto_region 8 with fail
      refine (wpIn_wide (n := 0)).1 ?_
      gi_wp2
      refine ⟨rfl, hR.mono ?_⟩
      clear hy hR
      rintro e W' (⟨rfl, g', hJ', hO, hO2, hO3⟩ | ⟨rfl, hJx'⟩)
      · have hz1 := hO.size
        have hzz : W.heap.size ≤ wr.heap.size := by omega
        simp [World.setCell] at hz1
        have s1 := (hO2 _ (by omega) HQ1.out.lt (fun b e => by have := HK.out b _ e; omega)).trans HQ1.out
        have s0 := (hO2 _ (by omega) HQ0.out.lt (fun b e => by have := HK.out b _ e; omega)).trans HQ0.out
        have sr := (hO2 _ (by omega) HQR.out.lt (fun b e => by have := HK.out b _ e; omega)).trans HQR.out
        have HGB2 := hidE (fun b k (e : g' = some (b, k)) => show W.heap.size + 2 ≤ b from by
          rcases hO3 b k e with h | ⟨j, h⟩
          · simp [World.setCell] at h; omega
          · exact HGB.out b j h)
        have HJ2 := hidE hJ'; have HO := hidE hO
        clear hO hO2 hO3 hJ'
        change Blk W' _ _ _ at s1
        change Blk W' _ _ _ at s0
        change Blk W' _ _ _ at sr
        have d0 := sr.cell 0; have d1 := sr.cell 1; have d2 := sr.cell 2; have dz := sr.lt
        have g0 := s1.cell 0; have g1 := s1.cell 1; have g2 := s1.cell 2; have g3 := s1.cell 3; have gf := s1.free; have gz := s1.lt
        simp at d0 d1 d2 g0 g1 g2 g3
        clear hz1 c0 c1 c2 c3 c4 c5 c6 c7 f4 z4 z3 hb
        gi_wp2
        go_wp2
        go_roundg (F.length - (k + 1))
        case measure => have := HG.out; omega
        case rel =>
          have bc : Below W.heap.size W' (((W'.setCell ⟨W.heap.size + 1, 0, none⟩ (.int .i64 u)).setCell ⟨W.heap.size + 1, 2, none⟩ (.int .i64 v'.1)).setCell ⟨W.heap.size + 1, 3, none⟩ (.int .i64 v'.2)) :=
            (((Below.refl _ W').setCell (p := ⟨W.heap.size + 1, 0, none⟩) (by simp) _).setCell (p := ⟨W.heap.size + 1, 2, none⟩) (by simp) _).setCell (p := ⟨W.heap.size + 1, 3, none⟩) (by simp) _
          have hz1 := HO.out.size
          simp [World.setCell] at hz1
          refine ⟨⟨k + 1, u, u, v', pre ++ [(p, u, v)], g', HGB2.out, by omega, Nat.le_refl _, by go_num, ?_, HJ.out _ _ _ _ HJ2.out bc (fun b k e => by have q1 := HGB2.out b k e; have q2 := (HJG.out _ _ _ HJ2.out b k e).1; exact (keptS (by omega) _).trans ((keptS (by omega) _).trans (keptS (by omega) _))), ((HB1.out.trans (HBB.out.mono HBW.out.size)).trans HO.out).trans (bc.mono HBW.out.size), by simp [World.setCell]; omega, ?_⟩, ?_⟩
          · rw [← HP.out]; simp
          · simpa using ((s1.set 0 (.int .i64 u)).set 2 (.int .i64 v'.1)).set 3 (.int .i64 v'.2)
          · exact ((s0.other (by omega) _).other (by omega) _).other (by omega) _
      · gi_wp2
        go_wp2
        refine bodyPost_ret (results_none rfl _ _ _) rfl ?_
        exact ⟨⟨_, rfl⟩, .inr ⟨pre ++ [(p, u, v)], HPR.out, hJx'⟩⟩
theorem str_c (F : List Sg) (x y : Int) (a : Option Addr) (cap : Nat) (w0 w : World) (hl : F.length ≤ 1000000000) (hA : ArgS w0 a F) (hb : Below w0.heap.size w0 w) :
    SeqT Try.prog 78 #[WN a F.length cap x y] #[] encS w0.heap.size (strL F x y) w := (strO_c F x y a cap w0 w hl hA hb).toT
end Go.Proofs.Ytjhhcljbmnomlaa

namespace Go.Proofs.Ytjhhcljbmnomlaa
open Go.ChangeShapes Go.WideShapes Go.ChangeAt Go.RowKit Go.Shelf
attribute [local irreducible] Go.Calls
attribute [local go_sem] Oper.semAt_some

theorem spanPut {w : World} {k : Nat} {cs : Array Value} {t : TypeId} (h : Blk w k cs t) {b : Nat} (hb : k ≠ b) (o : Obj) : Blk (w.putObj b o) k cs t := (World.putObj_heap_other hb).trans h
theorem outBlk {n₀ n₁ k : Nat} {W W' : World} {cs : Array Value} {t : TypeId} (h : Blk W k cs t) (ho : Outside n₀ n₁ W W') (hk : n₁ ≤ k) : Blk W' k cs t := (ho.beyond k hk h.lt).trans h
/-- Between two rounds. -/
def EvI (a : Option Addr) (n cap : Nat) (x y : Int) (fv : Value) (J : List St → World → Prop) (w0 w : World) (pre : List St) (W : World) : Prop :=
  J pre W ∧ Below w0.heap.size w0 W ∧ Blk W (w.heap.size + 1) #[fv] 130 ∧ Blk W w.heap.size #[.slice a n cap, .int .i64 x, .int .i64 y] 117
theorem wndB_not {x y : Int} (h : wndB x y = false) : x < -1125899906842624 ∨ (-1125899906842624 ≤ x ∧ 1125899906842624 < y) ∨ (-1125899906842624 ≤ x ∧ y ≤ 1125899906842624 ∧ y ≤ x) ∨ (-1125899906842624 ≤ x ∧ y ≤ 1125899906842624 ∧ x < y ∧ 8000 < y - x) := by
  unfold wndB at h
  have := of_decide_eq_false h
  omega
/-- The stretches that are handed on. -/
def evS (F : List Sg) (x y : Int) : List St := if badW F x y = 0 then strL F x y else []

set_option maxRecDepth 100000 in
set_option maxHeartbeats 2000000 in
theorem ev_c (F : List Sg) (x y : Int) (a : Option Addr) (cap gk : Nat) (lk : Array Value) (w0 w : World) (J : List St → World → Prop) (hl : F.length ≤ 1000000000) (hA : ArgS w0 a F) (hb : Below w0.heap.size w0 w)
    (eg : ∀ args w, (callFunc gk args).run Try.prog w = .ok (.enter gk args) w)
    (hJ : ∀ s A B, J s A → Below w.heap.size A B → J s B)
    (hE : badW F x y = 0 → ∀ pre s W, w.heap.size ≤ W.heap.size → J pre W → pre ++ [s] <+: strL F x y → Calls Try.prog gk (encS s ++ lk) W fun e W' => (∃ v, e = .returned v) ∧ J (pre ++ [s]) W' ∧ Outside w0.heap.size w.heap.size W W') (h0 : J [] w) :
    Calls Try.prog 90 #[WN a F.length cap x y, .func (.func gk) #[] lk] w fun e w' => e = .returned (.int .i64 (badW F x y)) ∧ J (evS F x y) w' ∧ Below w0.heap.size w0 w' := by
  have HA := hidE hA; have HJ := hidE hJ; have HE := hidE hE; have H0 := hidE h0; have HBW := hidE hb
  have HV := hidE (fun w hA => pmay_c F a cap w (by omega) hA)
  have HZ := hidE hb.size
  clear hJ hE h0 hb
  cases h1 : mayB F
  · have HS := hidE (show evS F x y = [] by unfold evS; rw [badW_form h1, if_neg (by decide)])
    rw [badW_form h1]
    rw [h1] at HV
    clear h1 hA
    go_enter Try.func90, Try.ntmps90
    go_wp2_with fail
    ((with_reducible refine (HV.out _ (HA.out.past (HBW.out.trans (Below.mono (by (repeat (first | exact Below.refl _ _ | assumption | refine balloc ?_ _ | refine below_drewN ?_ _ | refine bstep (by assumption) ?_ | refine bstep (Past.prop _) ?_ | refine Below.setCell ?_ (by first | exact Nat.le_refl _ | (simp; done) | (simp; omega)) _))) HBW.out.size)))).mono ?_); rintro e w1 ⟨rfl, hb1⟩)
    have HB1 := hidE (show Below w.heap.size w w1 by (repeat (first | exact Below.refl _ _ | assumption | refine balloc ?_ _ | refine below_drewN ?_ _ | refine bstep (by assumption) ?_ | refine bstep (Past.prop _) ?_ | refine Below.setCell ?_ (by first | exact Nat.le_refl _ | (simp; done) | (simp; omega)) _)))
    clear hb1
    go_wp2
    go_ret
    exact ⟨rfl, by rw [HS.out]; exact HJ.out _ _ _ H0.out HB1.out, HBW.out.trans (HB1.out.mono HZ.out)⟩
  rw [h1] at HV
  cases h2 : wndB x y
  · have HS := hidE (show evS F x y = [] by unfold evS; rw [badW_arg h1 h2, if_neg (by decide)])
    rw [badW_arg h1 h2]
    have hq := wndB_not h2
    clear h1 h2 hA
    rcases hq with h | ⟨h, h'⟩ | ⟨h, h', h2⟩ | ⟨h, h', h2, h3⟩
    · have e1 : decide (x < -1125899906842624) = true := decide_eq_true h
      go_enter Try.func90, Try.ntmps90
      go_wp2_with fail
      ((with_reducible refine (HV.out _ (HA.out.past (HBW.out.trans (Below.mono (by (repeat (first | exact Below.refl _ _ | assumption | refine balloc ?_ _ | refine below_drewN ?_ _ | refine bstep (by assumption) ?_ | refine bstep (Past.prop _) ?_ | refine Below.setCell ?_ (by first | exact Nat.le_refl _ | (simp; done) | (simp; omega)) _))) HBW.out.size)))).mono ?_); rintro e w1 ⟨rfl, hb1⟩)
      have HB1 := hidE (show Below w.heap.size w w1 by (repeat (first | exact Below.refl _ _ | assumption | refine balloc ?_ _ | refine below_drewN ?_ _ | refine bstep (by assumption) ?_ | refine bstep (Past.prop _) ?_ | refine Below.setCell ?_ (by first | exact Nat.le_refl _ | (simp; done) | (simp; omega)) _)))
      have B1 := (Blk.alloc (Blk.made w #[.slice a F.length cap, .int .i64 x, .int .i64 y] 117) (Obj.cells #[Value.func (.func gk) #[] lk] 130)).past hb1
      have c1 := B1.cell 1; have c2 := B1.cell 2; have z1 := B1.lt
      simp at c1 c2
      clear hb1
      go_wp2
      go_ret
      exact ⟨rfl, by rw [HS.out]; exact HJ.out _ _ _ H0.out HB1.out, HBW.out.trans (HB1.out.mono HZ.out)⟩
    · have e0 : decide (x < -1125899906842624) = false := decide_eq_false (by omega)
      have e1 : decide (1125899906842624 < y) = true := decide_eq_true (by omega)
      go_enter Try.func90, Try.ntmps90
      go_wp2_with fail
      ((with_reducible refine (HV.out _ (HA.out.past (HBW.out.trans (Below.mono (by (repeat (first | exact Below.refl _ _ | assumption | refine balloc ?_ _ | refine below_drewN ?_ _ | refine bstep (by assumption) ?_ | refine bstep (Past.prop _) ?_ | refine Below.setCell ?_ (by first | exact Nat.le_refl _ | (simp; done) | (simp; omega)) _))) HBW.out.size)))).mono ?_); rintro e w1 ⟨rfl, hb1⟩)
      have HB1 := hidE (show Below w.heap.size w w1 by (repeat (first | exact Below.refl _ _ | assumption | refine balloc ?_ _ | refine below_drewN ?_ _ | refine bstep (by assumption) ?_ | refine bstep (Past.prop _) ?_ | refine Below.setCell ?_ (by first | exact Nat.le_refl _ | (simp; done) | (simp; omega)) _)))
      have B1 := (Blk.alloc (Blk.made w #[.slice a F.length cap, .int .i64 x, .int .i64 y] 117) (Obj.cells #[Value.func (.func gk) #[] lk] 130)).past hb1
      have c1 := B1.cell 1; have c2 := B1.cell 2; have z1 := B1.lt
      simp at c1 c2
      clear hb1
      go_wp2
      go_ret
      exact ⟨rfl, by rw [HS.out]; exact HJ.out _ _ _ H0.out HB1.out, HBW.out.trans (HB1.out.mono HZ.out)⟩
    · have e0 : decide (x < -1125899906842624) = false := decide_eq_false (by omega)
      have e1 : decide (1125899906842624 < y) = false := decide_eq_false (by omega)
      have e2 : decide (y ≤ x) = true := decide_eq_true (by omega)
      go_enter Try.func90, Try.ntmps90
      go_wp2_with fail
      ((with_reducible refine (HV.out _ (HA.out.past (HBW.out.trans (Below.mono (by (repeat (first | exact Below.refl _ _ | assumption | refine balloc ?_ _ | refine below_drewN ?_ _ | refine bstep (by assumption) ?_ | refine bstep (Past.prop _) ?_ | refine Below.setCell ?_ (by first | exact Nat.le_refl _ | (simp; done) | (simp; omega)) _))) HBW.out.size)))).mono ?_); rintro e w1 ⟨rfl, hb1⟩)
      have HB1 := hidE (show Below w.heap.size w w1 by (repeat (first | exact Below.refl _ _ | assumption | refine balloc ?_ _ | refine below_drewN ?_ _ | refine bstep (by assumption) ?_ | refine bstep (Past.prop _) ?_ | refine Below.setCell ?_ (by first | exact Nat.le_refl _ | (simp; done) | (simp; omega)) _)))
      have B1 := (Blk.alloc (Blk.made w #[.slice a F.length cap, .int .i64 x, .int .i64 y] 117) (Obj.cells #[Value.func (.func gk) #[] lk] 130)).past hb1
      have c1 := B1.cell 1; have c2 := B1.cell 2; have z1 := B1.lt
      simp at c1 c2
      clear hb1
      go_wp2
      go_ret
      exact ⟨rfl, by rw [HS.out]; exact HJ.out _ _ _ H0.out HB1.out, HBW.out.trans (HB1.out.mono HZ.out)⟩
    · have e0 : decide (x < -1125899906842624) = false := decide_eq_false (by omega)
      have e1 : decide (1125899906842624 < y) = false := decide_eq_false (by omega)
      have e2 : decide (y ≤ x) = false := decide_eq_false (by omega)
      have e3 : decide (8000 < y - x) = true := decide_eq_true (by omega)
      go_enter Try.func90, Try.ntmps90
      go_wp2_with fail
      ((with_reducible refine (HV.out _ (HA.out.past (HBW.out.trans (Below.mono (by (repeat (first | exact Below.refl _ _ | assumption | refine balloc ?_ _ | refine below_drewN ?_ _ | refine bstep (by assumption) ?_ | refine bstep (Past.prop _) ?_ | refine Below.setCell ?_ (by first | exact Nat.le_refl _ | (simp; done) | (simp; omega)) _))) HBW.out.size)))).mono ?_); rintro e w1 ⟨rfl, hb1⟩)
      have HB1 := hidE (show Below w.heap.size w w1 by (repeat (first | exact Below.refl _ _ | assumption | refine balloc ?_ _ | refine below_drewN ?_ _ | refine bstep (by assumption) ?_ | refine bstep (Past.prop _) ?_ | refine Below.setCell ?_ (by first | exact Nat.le_refl _ | (simp; done) | (simp; omega)) _)))
      have B1 := (Blk.alloc (Blk.made w #[.slice a F.length cap, .int .i64 x, .int .i64 y] 117) (Obj.cells #[Value.func (.func gk) #[] lk] 130)).past hb1
      have c1 := B1.cell 1; have c2 := B1.cell 2; have z1 := B1.lt
      simp at c1 c2
      clear hb1
      go_wp2
      go_ret
      exact ⟨rfl, by rw [HS.out]; exact HJ.out _ _ _ H0.out HB1.out, HBW.out.trans (HB1.out.mono HZ.out)⟩
  · have HS := hidE (show evS F x y = strL F x y by unfold evS; rw [badW_ok h1 h2, if_pos rfl])
    rw [badW_ok h1 h2]
    have HE := hidE (HE.out (badW_ok h1 h2))
    rw [wndB_iff] at h2
    have e0 : decide (x < -1125899906842624) = false := decide_eq_false (by omega)
    have e1 : decide (1125899906842624 < y) = false := decide_eq_false (by omega)
    have e2 : decide (y ≤ x) = false := decide_eq_false (by omega)
    have e3 : decide (8000 < y - x) = false := decide_eq_false (by omega)
    have HSEQ := hidE (fun w' hb => str_c F x y a cap w0 w' hl hA hb)
    clear h1 hA
    refine (callsIn_wide (n := 0)).1 (callsIn_of_wp_marks Try.func90 rfl trivial ((wpIn_wide (n := 0)).2 ?_))
    simp only [Try.ntmps90, List.size_toArray, List.length_cons, List.length_nil, Nat.reduceAdd, Nat.reduceSub, Array.replicate_succ, Array.replicate_zero, List.push_toArray, List.append_toArray, List.nil_append, List.cons_append]
    go_wp2_with fail
    ((with_reducible refine (HV.out _ (HA.out.past (HBW.out.trans (Below.mono (by (repeat (first | exact Below.refl _ _ | assumption | refine balloc ?_ _ | refine below_drewN ?_ _ | refine bstep (by assumption) ?_ | refine bstep (Past.prop _) ?_ | refine Below.setCell ?_ (by first | exact Nat.le_refl _ | (simp; done) | (simp; omega)) _))) HBW.out.size)))).mono ?_); rintro e w1 ⟨rfl, hb1⟩)
    have HB1 := hidE (show Below w.heap.size w w1 by (repeat (first | exact Below.refl _ _ | assumption | refine balloc ?_ _ | refine below_drewN ?_ _ | refine bstep (by assumption) ?_ | refine bstep (Past.prop _) ?_ | refine Below.setCell ?_ (by first | exact Nat.le_refl _ | (simp; done) | (simp; omega)) _)))
    have B1 := (Blk.alloc (Blk.made w #[.slice a F.length cap, .int .i64 x, .int .i64 y] 117) (Obj.cells #[Value.func (.func gk) #[] lk] 130)).past hb1
    have B2 := (Blk.made_at (w.alloc (Obj.cells #[.slice a F.length cap, .int .i64 x, .int .i64 y] 117)) #[Value.func (.func gk) #[] lk] 130 (w.heap.size + 1) (by simp)).past hb1
    have c0 := B1.cell 0; have c1 := B1.cell 1; have c2 := B1.cell 2; have z1 := B1.lt; have z2 := B2.lt
    simp at c0 c1 c2
    have HK1 := hidE B1; have HK2 := hidE B2
    clear hb1 B1 B2
    go_wp2
    have hn0 : w0.heap.size ≤ w1.heap.size := Nat.le_trans HZ.out HB1.out.size
    have hI0 : EvI a F.length cap x y (.func (.func gk) #[] lk) J w0 w [] w1 := ⟨HJ.out _ _ _ H0.out HB1.out, HBW.out.trans (HB1.out.mono HZ.out), HK2.out, HK1.out⟩
    clear e0 e1 e2 e3 c0 c1 c2 h2 HV
    refine wp_rangeFunc_T (n₀ := w0.heap.size) (S := strL F x y) rfl (enters_of Try.func78 (by kernel_rfl) rfl) hn0 (HSEQ.out _ hI0.2.1) (fun _ => rfl)
      (EvI a F.length cap x y (.func (.func gk) #[] lk) J w0 w) (fun _ _ _ => False)
      (fun s A B h hb => ⟨HJ.out _ _ _ h.1 (hb.mono HB1.out.size), h.2.1.trans (hb.mono hn0), h.2.2.1.below hb z2, h.2.2.2.below hb z1⟩) (fun c s A B h hb => h.elim) hI0
      (fun s a1 W => ∃ (Bx : Nat) (u0 u1 u2 u4 u6 u7 u8 u9 u10 u11 u12 u13 u14 u15 u16 u17 u18 u19 u20 u21 u22 u23 u24 u25 u26 u27 u28 u29 u30 u31 u32 u33 u34 u35 u36 u37 u38 : Value), w1.heap.size ≤ Bx ∧ Blk W Bx #[.int .i64 s.1, .int .i64 s.2.1, .int .i64 s.2.2.1, .int .i64 s.2.2.2] 119 ∧ a1 = { tmps := #[u0, u1, u2, .pointer (some ⟨w.heap.size + 1, 0, none⟩), u4, .pointer (some ⟨Bx, 0, none⟩), u6, u7, u8, u9, u10, u11, u12, u13, u14, u15, u16, u17, u18, u19, u20, u21, u22, u23, u24, u25, u26, u27, u28, u29, u30, u31, u32, u33, u34, u35, u36, u37, u38], defers := [] })
      ?hax ?assign ?body ?done ?stop
    case hax =>
      rintro p a1 A l r o ⟨Bx, u0, u1, u2, u4, u6, u7, u8, u9, u10, u11, u12, u13, u14, u15, u16, u17, u18, u19, u20, u21, u22, u23, u24, u25, u26, u27, u28, u29, u30, u31, u32, u33, u34, u35, u36, u37, u38, h1, h2, h3⟩ hlr
      exact ⟨Bx, _, _, _, _, _, _, _, _, _, _, _, _, _, _, _, _, _, _, _, _, _, _, _, _, _, _, _, _, _, _, _, _, _, _, _, _, _, h1, (World.putObj_heap_other (fun e => by subst e; rw [show A.heap[Bx]? = _ from h2] at hlr; cases hlr)).trans h2, h3⟩
    case assign =>
      intro l pre s W K hsz hi hK
      dsimp only [encS]
      gi_wp2
      refine hK _ _ (Outside.of_below ((Below.refl _ _).alloc (Nat.le_refl _) _) (by omega)) ⟨HJ.out _ _ _ hi.1 ((Below.refl _ _).alloc (by omega) _), hi.2.1.alloc (by omega) _, hi.2.2.1.alloc _, hi.2.2.2.alloc _⟩ ⟨W.heap.size, _, _, _, _, _, _, _, _, _, _, _, _, _, _, _, _, _, _, _, _, _, _, _, _, _, _, _, _, _, _, _, _, _, _, _, _, _, by omega, Blk.made _ _ _, rfl⟩
    case body =>
      rintro l pre s a1 W hsz ⟨i1, i2, i3, i4⟩ ⟨Bx, u0, u1, u2, u4, u6, u7, u8, u9, u10, u11, u12, u13, u14, u15, u16, u17, u18, u19, u20, u21, u22, u23, u24, u25, u26, u27, u28, u29, u30, u31, u32, u33, u34, u35, u36, u37, u38, hBx, bX, rfl⟩ hpre
      have HC := hidE (HE.out pre s W (by omega) i1 hpre)
      have y0 := bX.cell 0; have y1 := bX.cell 1; have y2 := bX.cell 2; have y3 := bX.cell 3; have yz := bX.lt
      have t0 := i3.cell 0; have t1 := i3.lt
      simp at y0 y1 y2 y3 t0
      clear hI0 HSEQ
      gi_wp2_with fail
      refine ⟨trivial, rfl, (CallsIn.inRound l (callsIn_wide.2 HC.out)).mono ?_⟩
      rintro e w3 ⟨⟨v, rfl⟩, hJ3, hO⟩
      gi_wp2
      have hO' : Outside w0.heap.size w1.heap.size W w3 := hO.weak (by omega)
      exact ⟨hO', hJ3, i2.trans hO.below, outBlk i3 hO (by omega), outBlk i4 hO (by omega)⟩
    case done =>
      rintro D W hD ⟨i1, i2, i3, i4⟩ hK
      clear hI0 HSEQ
      go_wp2
      refine ⟨by simp, .inl ⟨_, _, rfl, run_takeDeferred hK, ?_⟩⟩
      refine ⟨.int .i64 0, by simp [results, Try.results90, go_sem], rfl, by rw [HS.out]; exact HJ.out _ _ _ i1 (below_putObj _ _ _ (by omega)), i2.trans (below_putObj _ _ _ (by omega))⟩
    case stop =>
      rintro D c pre W hD hpre h hK
      exact h.elim
end Go.Proofs.Ytjhhcljbmnomlaa

namespace Go.Proofs.Ytjhhcljbmnomlaa
open Go.ChangeShapes Go.WideShapes Go.ChangeAt Go.RowKit
attribute [local irreducible] Go.Calls

theorem sfresh_at (w : World) (cs : Array Value) (t : TypeId) (k : Nat) (h : k = w.heap.size) : ∀ j u, cs.toList[j]? = some u → (w.alloc (.cells cs t)).cell? ((⟨k, 0, none⟩ : Addr).add j) = some u := by
  subst h
  exact new_cells w cs t
/-- A slice of runs lies on where only blocks of one cell, or of none, are turned. -/
theorem sargS_turn {w w' : World} {a : Option Addr} {l : List Sg} (h : ArgS w a l) (hs : w.heap.size ≤ w'.heap.size) (hk : ∀ k i v, w.cell? ⟨k, i + 1, none⟩ = some v → w'.heap[k]? = w.heap[k]?) : ArgS w' a l := fun hl => by
  obtain ⟨b, off, e, h1, h2⟩ := h hl
  have hb : w'.heap[b]? = w.heap[b]? := by
    obtain ⟨_, q, _⟩ := h2 0 hl
    exact hk b _ _ q
  have hc : ∀ i, w'.cell? ⟨b, i, none⟩ = w.cell? ⟨b, i, none⟩ := fun i => World.cell?_of_block (a := ⟨b, i, none⟩) hb
  refine ⟨b, off, e, Nat.lt_of_lt_of_le h1 hs, fun i hi => ?_⟩
  obtain ⟨q1, q2, q3⟩ := h2 i hi
  exact ⟨(hc _).trans q1, (hc _).trans q2, (hc _).trans q3⟩
theorem sno_cell {w : World} {k i : Nat} {v : Value} {d : Option (List Deferred)} (h : w.heap[k]? = some (.deferred d)) (hc : w.cell? ⟨k, i, none⟩ = some v) : False := by
  simp [World.cell?, h] at hc
theorem rawC_snoc (l : List St) (s : St) : rawC (l ++ [s]) = rawC l ++ [(s.1, s.2.2)] := by unfold rawC; rw [List.map_append]; rfl
theorem rawC_len (l : List St) : (rawC l).length = l.length := by unfold rawC; rw [List.length_map]
/-- Between two rounds. -/
def CutI (w : World) (p : Nat) (pre : List St) (g : Option (Nat × Nat)) (W : World) : Prop :=
  ∃ (v : Value) (β : Nat), Blk W p #[v] 22 ∧ Below w.heap.size w W ∧ W.ownsRow β 54 3 v pre.length (cellsOfS (rawC pre)) ∧ p < β ∧ β ≤ W.heap.size ∧ ((g = none ∧ v = .slice none 0 0) ∨ ∃ k, g = some (β, k) ∧ v.ownBlock = some k)
theorem cutI_keep {w : World} {p : Nat} {pre : List St} {g : Option (Nat × Nat)} {A B : World} {n : Nat} (hp : p < n) (hn : w.heap.size ≤ n) (h : CutI w p pre g A) (hb : Below n A B) (hk : ∀ b k, g = some (b, k) → B.heap[k]? = A.heap[k]?) : CutI w p pre g B := by
  obtain ⟨v, β, h1, h2, h3, h4, h5, h6⟩ := h
  refine ⟨v, β, h1.below hb hp, h2.trans (hb.mono hn), own_kept h3 (fun k e => ?_), h4, Nat.le_trans h5 hb.size, h6⟩
  rcases h6 with ⟨_, q⟩ | ⟨k', q, q2⟩
  · rw [q] at e; simp [Value.ownBlock] at e
  · rw [q2] at e; cases e; exact hk _ _ q
theorem cutI_own {w : World} {p : Nat} {pre : List St} {g : Option (Nat × Nat)} {A : World} (h : CutI w p pre g A) : ∀ b k, g = some (b, k) → b ≤ k ∧ k < A.heap.size := by
  obtain ⟨v, β, h1, h2, h3, h4, h5, h6⟩ := h
  rintro b k e
  rcases h6 with ⟨q, _⟩ | ⟨k', q, q2⟩
  · rw [q] at e; cases e
  · rw [q] at e; cases e
    exact ⟨own_block h3 q2, own_lt h3 q2⟩
/-- From where on what is appended may lie. -/
theorem cutI_base {w : World} {p : Nat} {pre : List St} {g : Option (Nat × Nat)} {A : World} (hz : p < A.heap.size) (h : CutI w p pre g A) : ∃ (av : Option Addr) (cap γ : Nat), Blk A p #[.slice av pre.length cap] 22 ∧ Below w.heap.size w A ∧ A.ownsRow γ 54 3 (.slice av pre.length cap) pre.length (cellsOfS (rawC pre)) ∧ p < γ ∧ γ ≤ A.heap.size ∧
    (∀ k, (Value.slice av pre.length cap).ownBlock = some k → g = some (γ, k) ∧ γ ≤ k) ∧ (A.heap.size ≤ γ ∨ ∃ j, g = some (γ, j)) := by
  obtain ⟨v, β, h1, h2, h3, h4, h5, h6⟩ := h
  obtain ⟨a, cap, rfl⟩ := own_sli h3
  rcases h6 with ⟨q, e⟩ | ⟨k', q, q2⟩
  · have hx : A.ownsRow A.heap.size 54 3 (.slice a pre.length cap) pre.length (cellsOfS (rawC pre)) := by
      obtain ⟨q1, q2 | ⟨g', cap', cur, q3, _⟩⟩ := h3
      · exact ⟨q1, .inl q2⟩
      · rw [q3] at e; cases e
    refine ⟨a, cap, A.heap.size, h1, h2, hx, hz, Nat.le_refl _, fun k hk => ?_, .inl (Nat.le_refl _)⟩
    rw [e] at hk; simp [Value.ownBlock] at hk
  · exact ⟨a, cap, β, h1, h2, h3, h4, h5, fun k hk => ⟨by rw [q2] at hk; cases hk; exact q, own_block h3 hk⟩, .inr ⟨k', q⟩⟩

end Go.Proofs.Ytjhhcljbmnomlaa

namespace Go.Proofs.Ytjhhcljbmnomlaa
open Go.ChangeShapes Go.WideShapes Go.ChangeAt Go.RowKit Go.Shelf
attribute [local irreducible] Go.Calls
attribute [local go_sem] Oper.semAt_some

set_option maxRecDepth 100000 in
set_option maxHeartbeats 2000000 in
theorem cut_c (F : List Sg) (x y : Int) (a : Option Addr) (cap : Nat) (w : World) (hl : F.length ≤ 999999990) (hA : ArgS w a F) :
    Calls Try.prog 48 #[.slice a F.length cap, .int .i64 x, .int .i64 y] w (OfIs w (cutS F x y).1 (cutS F x y).2) := by
  have HA := hidE hA
  have HV := hidE (fun w hA => pmay_c F a cap w (by omega) hA)
  cases h1 : mayB F
  · rw [cutS_form h1]
    rw [h1] at HV
    clear h1 hA
    go_enter Try.func48, Try.ntmps48
    go_wp2_with fail
    ((with_reducible refine (HV.out _ HA.out).mono ?_); rintro e w1 ⟨rfl, hb1⟩)
    go_wp2
    go_ret2
    exact ⟨_, rfl, sliS_nil _, hb1⟩
  rw [h1] at HV
  by_cases h2 : y < x
  · rw [cutS_arg h1 h2]
    have hd : decide (y < x) = true := decide_eq_true h2
    clear h1 hA h2
    go_enter Try.func48, Try.ntmps48
    go_wp2_with fail
    ((with_reducible refine (HV.out _ HA.out).mono ?_); rintro e w1 ⟨rfl, hb1⟩)
    go_wp2
    go_ret2
    exact ⟨_, rfl, sliS_nil _, hb1⟩
  have hd : decide (y < x) = false := decide_eq_false h2
  have HSEQ := hidE (fun w' hb => strO_c F x y a cap w w' (by omega) hA hb)
  have HLEN := hidE (strG_len y F x (0, 0))
  have HC := hidE (mayB_iff.1 h1)
  have HM := hidE h1
  have H2 := hidE h2
  clear h1 hA h2
  refine (callsIn_wide (n := 0)).1 (callsIn_of_wp_marks Try.func48 rfl trivial ((wpIn_wide (n := 0)).2 ?_))
  simp only [Try.ntmps48, List.size_toArray, List.length_cons, List.length_nil, Nat.reduceAdd, Nat.reduceSub, Array.replicate_succ, Array.replicate_zero, List.push_toArray, List.append_toArray, List.nil_append, List.cons_append]
  go_wp2_with fail
  ((with_reducible refine (HV.out _ HA.out).mono ?_); rintro e w1 ⟨rfl, hb1⟩)
  go_wp2
  obtain ⟨p, hp⟩ : ∃ p, p = w1.heap.size := ⟨_, rfl⟩
  obtain ⟨w2, hw2⟩ : ∃ w2, w2 = w1.alloc (Obj.cells #[.slice none 0 0] 22) := ⟨_, rfl⟩
  have hz2 : w2.heap.size = p + 1 := by rw [hw2, hp]; simp
  have hb2 : Below w.heap.size w w2 := by rw [hw2]; (repeat (first | exact Below.refl _ _ | assumption | refine balloc ?_ _ | refine below_drewN ?_ _ | refine bstep (by assumption) ?_ | refine bstep (Past.prop _) ?_ | refine Below.setCell ?_ (by first | exact Nat.le_refl _ | (simp; done) | (simp; omega)) _))
  have hB2 : Blk w2 p #[.slice none 0 0] 22 := by rw [hw2, hp]; exact Blk.made _ _ _
  have hwp : w.heap.size ≤ p := by rw [hp]; exact hb1.size
  rw [← hw2]
  subst hp
  clear hw2 hb1 hd
  have hI0 : CutI w w1.heap.size [] none w2 := ⟨.slice none 0 0, w1.heap.size + 1, hB2, hb2, own_nil _ _ _, by omega, by omega, .inl ⟨rfl, rfl⟩⟩
  refine wp_rangeFunc_O (n₀ := w.heap.size) (S := strL F x y) rfl (enters_of Try.func78 (by kernel_rfl) rfl) hb2.size (HSEQ.out _ hb2) (fun _ => rfl)
    (CutI w w1.heap.size) (fun s g A B h hb hk => cutI_keep (n := w2.heap.size) (by omega) (by omega) h hb hk) (fun s g A h => cutI_own h) hI0
    (fun s a1 W => ∃ (Bx : Nat) (u0 u1 u2 u3 u4 u5 u6 u7 u10 u11 u12 u13 u14 u15 u16 u17 u18 u19 u20 u21 u22 u23 u24 u25 u26 u27 u28 u29 u30 u31 u32 u33 u34 u35 u36 u37 : Value), w2.heap.size ≤ Bx ∧ Blk W Bx #[.int .i64 s.1, .int .i64 s.2.1, .int .i64 s.2.2.1, .int .i64 s.2.2.2] 119 ∧ a1 = { tmps := #[u0, u1, u2, u3, u4, u5, u6, u7, .pointer (some ⟨w1.heap.size, 0, none⟩), .pointer (some ⟨Bx, 0, none⟩), u10, u11, u12, u13, u14, u15, u16, u17, u18, u19, u20, u21, u22, u23, u24, u25, u26, u27, u28, u29, u30, u31, u32, u33, u34, u35, u36, u37], defers := [] })
    ?hax ?assign ?body ?done
  case hax =>
    rintro s a1 A l r o ⟨Bx, u0, u1, u2, u3, u4, u5, u6, u7, u10, u11, u12, u13, u14, u15, u16, u17, u18, u19, u20, u21, u22, u23, u24, u25, u26, u27, u28, u29, u30, u31, u32, u33, u34, u35, u36, u37, h1, h2, h3⟩ hlr
    exact ⟨Bx, _, _, _, _, _, _, _, _, _, _, _, _, _, _, _, _, _, _, _, _, _, _, _, _, _, _, _, _, _, _, _, _, _, _, _, _, h1, (World.putObj_heap_other (fun e => by subst e; rw [show A.heap[Bx]? = _ from h2] at hlr; cases hlr)).trans h2, h3⟩
  case assign =>
    intro l pre s g W K hsz hi hK
    have hown := cutI_own hi
    dsimp only [encS]
    gi_wp2
    refine hK _ _ ((Below.refl _ _).alloc (Nat.le_refl _) _) (cutI_keep (n := W.heap.size) (by omega) (by omega) hi ((Below.refl _ _).alloc (Nat.le_refl _) _) (fun b k e => keptA (hown b k e).2 _)) ⟨W.heap.size, _, _, _, _, _, _, _, _, _, _, _, _, _, _, _, _, _, _, _, _, _, _, _, _, _, _, _, _, _, _, _, _, _, _, _, _, by omega, Blk.made _ _ _, rfl⟩
  case body =>
    rintro l pre s g a1 W hsz hi ⟨Bx, u0, u1, u2, u3, u4, u5, u6, u7, u10, u11, u12, u13, u14, u15, u16, u17, u18, u19, u20, u21, u22, u23, u24, u25, u26, u27, u28, u29, u30, u31, u32, u33, u34, u35, u36, u37, hBx, bX, rfl⟩ hpre
    obtain ⟨av, cp, γ, i1, i2, i3, i4, i5, i6, i7⟩ := cutI_base (by omega) hi
    have hlt : pre.length ≤ F.length + 1 := by
      have h1 := hpre.length_le
      simp only [List.length_append, List.length_cons, List.length_nil] at h1
      have h2 := HLEN.out
      unfold strL at h1
      omega
    have y0 := bX.cell 0; have y1 := bX.cell 1; have y2 := bX.cell 2; have y3 := bX.cell 3; have yz := bX.lt
    have t0 := i1.cell 0; have t1 := i1.lt; have tf := i1.free
    simp at y0 y1 y2 y3 t0
    obtain ⟨ix, hix, hz0, hzz, hz4⟩ := info_parts Try.infoSeg
    have HI := hidE hix; have HZ0 := hidE hz0; have HZ1 := hidE hzz; have HZ2 := hidE hz4
    have I1 := hidE i1; have I2 := hidE i2; have I3 := hidE i3; have I6 := hidE i6; have I7 := hidE i7; have BX := hidE bX
    clear hI0 HSEQ hi hix hz0 hzz hz4 i1 i2 i3 i6 i7 bX hpre
    gi_wp2_with (gi_at_builtin; refine wpListIn_append_own _ rfl (.tmp 22) (.tmp 28) 22 rfl γ 54 ix (.agg #[.int .i64 0, .int .i64 0, .int .i64 0]) 3 24 Try.underlying22 HI.out HZ0.out HZ1.out HZ2.out rfl (by decide) _ _ _ rfl (own_kept I3.out (fun k e => keptA (own_lt I3.out e) _)) ⟨_, 0, none⟩ 1 1 [.int .i64 s.1, .int .i64 s.2.2.1, .int .i64 s.2.2.2] rfl rfl (sfresh_at _ #[.int .i64 s.1, .int .i64 s.2.2.1, .int .i64 s.2.2.2] 54 _ (by simp)) (by intro y hy; simp at hy; rcases hy with rfl | rfl | rfl <;> rfl) (by unfold maxLen; omega) (by omega) (by simp; omega) ?_; intro v4 w4 hown4 hgrow4 hnil4; obtain ⟨a4, c4, rfl⟩ := own_sli hown4; have HG4 := hidE hgrow4; have HO4 := hidE hown4; have HN4 := hidE hnil4; have BP4 : Blk w4 w1.heap.size #[.slice av pre.length cp] 22 := (I1.out.alloc _).grown HG4.out (fun e => by have := (I6.out _ e.symm).2; omega); have g4 := BP4.cell 0; have g5 := BP4.free; have g6 := BP4.lt; simp at g4; have HB4 := hidE BP4; clear hgrow4 hown4 hnil4 BP4 y0 y1 y2 y3 yz t0 t1 tf)
    have hv4 : (Value.slice a4 (pre.length + 1) c4) ≠ .slice none 0 0 := fun e => by have := (HN4.out.1 e).2; omega
    obtain ⟨k4, hk4⟩ := own_has HO4.out hv4
    have hown : (w4.setCell ⟨w1.heap.size, 0, none⟩ (Value.slice a4 (pre.length + 1) c4)).ownsRow γ 54 3 (Value.slice a4 (pre.length + 1) c4) (pre ++ [s]).length (cellsOfS (rawC (pre ++ [s]))) := by
      rw [rawC_snoc, cellsOfS_app, List.length_append]
      exact own_kept HO4.out (fun k e => keptS (by have := own_block HO4.out e; omega) _)
    have hz4 : W.heap.size ≤ w4.heap.size := by have := HG4.out.size; simp at this; omega
    have hb4 : Below w.heap.size W (w4.setCell ⟨w1.heap.size, 0, none⟩ (Value.slice a4 (pre.length + 1) c4)) :=
      (Below.grown ((Below.refl _ W).alloc (by omega) _) HG4.out (by simp; omega) (fun k e => by have := (I6.out k e).2; omega)).setCell (p := ⟨w1.heap.size, 0, none⟩) (by simp; omega) _
    refine ⟨some (γ, k4), ⟨(Value.slice a4 (pre.length + 1) c4), γ, by simpa using HB4.out.set 0 (Value.slice a4 (pre.length + 1) c4), I2.out.trans hb4, hown, i4, by simp [World.setCell]; omega, .inr ⟨k4, rfl, hk4⟩⟩, hb4, fun k e1 e2 e3 => ?_, fun b k e => ?_⟩
    · refine (keptS (by omega) _).trans ((HG4.out.block k (by simp; omega) (fun e => ?_)).trans (keptA e2 _))
      exact e3 _ (I6.out k e.symm).1
    · cases e; exact I7.out
  case done =>
    rintro D g W hD hi hgd hK
    obtain rfl : D = w1.heap.size + 1 := hD.trans hz2
    have hDz : (w1.heap.size + 1) < W.heap.size := (Array.getElem?_eq_some_iff.1 hK).1
    have hpD : w1.heap.size < w1.heap.size + 1 := by omega
    obtain ⟨av, cp, γ, i1, i2, i3, i4, i5, i6, i7⟩ := cutI_base (by omega) hi
    have hgD : ∀ k, (Value.slice av (strL F x y).length cp).ownBlock = some k → (w1.heap.size + 1) + 2 ≤ k := fun k e => by
      obtain ⟨q1, q2⟩ := i6 k e
      have := hgd _ _ q1
      omega
    have t0 := i1.cell 0; have t1 := i1.lt; have tf := i1.free
    simp at t0
    have hlt : (strL F x y).length ≤ F.length + 1 := HLEN.out
    obtain ⟨ix, hix, hz0, hzz, hz4⟩ := info_parts Try.infoSeg
    have HI := hidE hix; have HZ0 := hidE hz0; have HZ1 := hidE hzz; have HZ2 := hidE hz4
    have I1 := hidE i1; have I2 := hidE i2; have I3 := hidE i3; have I6 := hidE i6; have HGD := hidE hgD; have HKD := hidE hK
    clear hI0 HSEQ hi hix hz0 hzz hz4 i1 i2 i3 i6 i7 hgd hK hgD hB2 hD hz2
    go_wp2_with (first | (at_builtin; refine wpList_append_own _ rfl (.tmp 30) (.tmp 33) 22 rfl γ 54 ix (.agg #[.int .i64 0, .int .i64 0, .int .i64 0]) 3 24 Try.underlying22 HI.out HZ0.out HZ1.out HZ2.out rfl (by decide) _ _ _ rfl (own_kept I3.out (fun k e => keptA (own_lt I3.out e) _)) ⟨_, 0, none⟩ 1 1 [.int .i64 y, .int .i64 0, .int .i64 0] rfl rfl (sfresh_at _ #[.int .i64 y, .int .i64 0, .int .i64 0] 54 _ (by simp)) (by intro y hy; simp at hy; rcases hy with rfl | rfl | rfl <;> rfl) (by unfold maxLen; omega) (by omega) (by simp; omega) ?_; intro v4 w4 hown4 hgrow4 hnil4; obtain ⟨a4, c4, rfl⟩ := own_sli hown4; have HG4 := hidE hgrow4; have HO4 := hidE hown4; clear hgrow4 hown4 hnil4) | fail)
    have hR : cellsOfS (rawC (strL F x y)) ++ [.int .i64 y, .int .i64 0, .int .i64 0] = cellsOfS (cutR F x y) := by unfold cutR; rw [cellsOfS_app]; rfl
    have hRl : (cutR F x y).length = (strL F x y).length + 1 := by unfold cutR; rw [List.length_append, rawC_len]; rfl
    have hO := HO4.out
    rw [hR, ← hRl] at hO
    obtain ⟨aR, cR, eR, _, _, hAR⟩ := sliS_own hO
    rw [hRl] at eR
    cases eR
    have hOF := of_c (cutR F x y) a4 c4 w4 (by rw [hRl]; omega) hAR
    rw [hRl] at hOF
    ((with_reducible refine hOF.mono ?_); rintro e w5 ⟨v5, f5, er, rfl, hs5, hcase, hb5⟩)
    have hz4 : W.heap.size ≤ w4.heap.size := by have := HG4.out.size; simp at this; omega
    have hK4 : w4.heap[(w1.heap.size + 1)]? = some (.deferred (some [])) := (HG4.out.block (w1.heap.size + 1) (by simp; omega) (fun e => by have := HGD.out _ e.symm; omega)).trans ((keptA hDz _).trans HKD.out)
    have hK5 : w5.heap[(w1.heap.size + 1)]? = some (.deferred (some [])) := (hb5.block (w1.heap.size + 1) (by omega)).trans hK4
    have hb4 : Below w.heap.size w w4 := I2.out.trans (Below.grown ((Below.refl _ W).alloc (by have := I2.out.size; omega) _) HG4.out (by have := I2.out.size; simp; omega) (fun k e => by have := (I6.out k e).2; have := I2.out.size; omega))
    obtain ⟨a5, c5, rfl, h51, h52, h53⟩ := hs5
    have HS5 := hidE (And.intro h51 (And.intro h52 h53)); have HK5 := hidE hK5; have HC5 := hidE hcase
    have HB5 := hidE (hb4.trans (hb5.mono hb4.size))
    clear hb4 hK4 hb5 hcase h51 h52 h53 hK5 hOF hO hR hRl hAR t0 t1 tf
    go_wp2
    refine ⟨by simp, .inl ⟨_, _, rfl, run_takeDeferred HK5.out, ?_⟩⟩
    refine ⟨.tuple #[.slice a5 f5.length c5, .int .i64 er], by simp [results, Try.results48, go_sem], ?_⟩
    obtain ⟨h51, h52, h53⟩ := HS5.out
    have hxy : x ≤ y := by have := H2.out; omega
    have hSL : ∀ G : List Sg, f5 = G → SliS (w5.putObj (w1.heap.size + 1) (.deferred none)) (.slice a5 f5.length c5) G := fun G e => by
      subst e
      refine ⟨a5, c5, rfl, h51, h52, sargS_turn h53 (by simp) (fun k i v hc => World.putObj_heap_other (fun e => ?_))⟩
      subst e
      exact sno_cell HK5.out hc
    have hBF : Below w.heap.size w (w5.putObj (w1.heap.size + 1) (.deferred none)) := HB5.out.trans (below_putObj _ _ _ (by omega))
    cases hf : farS4 x y
    · rw [cutS_far HM.out (by have := H2.out; omega) hf]
      rcases HC5.out with ⟨q1, _, _⟩ | ⟨_, q2, q3⟩
      · rw [cutR_ok HC.out hxy, hf] at q1; cases q1
      · rw [q2]; exact ⟨_, rfl, hSL _ q3, hBF⟩
    · rw [cutS_ok HM.out (by have := H2.out; omega) hf]
      rcases HC5.out with ⟨_, q2, q3⟩ | ⟨q1, _, _⟩
      · rw [q2]; exact ⟨_, rfl, hSL _ (cutR_of HC.out hxy hf q3), hBF⟩
      · rw [cutR_ok HC.out hxy, hf] at q1; cases q1
end Go.Proofs.Ytjhhcljbmnomlaa

namespace Go.Proofs.Ytjhhcljbmnomlaa
open Go.ChangeShapes Go.WideShapes Go.ChangeAt Go.RowKit
attribute [local irreducible] Go.Calls

/-- A function's tail is handed back. -/
def SinR (F : List Sg) (x : Int) (w : World) (e : Ending) (w' : World) : Prop := ∃ (a : Option Addr) (n cap : Nat) (r : List Sg), e = .returned (.slice a n cap) ∧ SliS w' (.slice a n cap) r ∧ SinceIs F x r ∧ Below w.heap.size w w'
theorem since_c (F : List Sg) (x : Int) (a : Option Addr) (cap : Nat) (w : World) (hF : F.length ≤ cap) (hc : cap ≤ 9223372036854775807) (hl : F.length ≤ 10000000) (hA : ArgS w a F) (hm : mayB F = true) (hx : nowB x = true) :
    Calls Try.prog 25 #[.slice a F.length cap, .int .i64 x] w (SinR F x w) := by
  obtain ⟨e1, e2, r, e3, hr⟩ := since_spec hm hx
  have HC := hidE (fun w hA => cut_c F (-1125899906842624) x a cap w (by omega) hA)
  have HS := hidE (fun a2 c2 w (h1 : (cutL F (-1125899906842624) x).length ≤ c2) (h2 : c2 ≤ 9223372036854775807) hA hA2 => csub_c F (cutL F (-1125899906842624) x) a a2 cap c2 w hF hc h1 h2 (by omega) hA hA2)
  rw [e1] at HC
  rw [e3] at HS
  have HA := hidE hA; have HR := hidE hr
  clear hA e1 e2 e3 hr
  generalize cutL F (-1125899906842624) x = G at *
  go_enter Try.func25, Try.ntmps25
  go_wp2_with fail
  ((with_reducible refine (HC.out _ HA.out).mono ?_); rintro e w1 ⟨v1, rfl, hv1, hb1⟩)
  obtain ⟨a2, c2, rfl, g1, g2, hA2⟩ := hv1
  have HK := hidE (HS.out a2 c2 w1 g1 g2 (HA.out.past hb1) hA2)
  have HB := hidE hb1
  clear hb1 hA2 g1 g2
  go_wp2_with fail
  ((with_reducible refine (HK.out).mono ?_); rintro e w2 ⟨v2, rfl, hv2, hb2⟩)
  obtain ⟨a3, c3, rfl, g3, g4, hA3⟩ := hv2
  have HV := hidE (show SliS w2 (.slice a3 r.length c3) r from ⟨a3, c3, rfl, g3, g4, hA3⟩)
  have HB2 := hidE (bstep hb2 HB.out)
  clear g3 g4 hA3 hb2
  go_wp2
  go_ret
  exact ⟨_, _, _, r, rfl, HV.out, HR.out, HB2.out⟩
/-- For what the free function is asked. -/
abbrev QV (a1 a2 a3 : Option Addr) (n1 c1 n2 c2 n3 c3 : Nat) (x : Int) : Value := .agg #[.slice a1 n1 c1, .slice a2 n2 c2, .slice a3 n3 c3, .int .i64 x]
/-- The function that is one vector from a time on is handed back. -/
def ConR (x : Int) (v : Int × Int) (w : World) (e : Ending) (w' : World) : Prop := ∃ (a : Option Addr) (n cap : Nat) (f : List Sg) (er : Int), e = .returned (.tuple #[.slice a n cap, .int .i64 er]) ∧ SliS w' (.slice a n cap) f ∧ ((okV v.1 v.2 = true ∧ er = 0 ∧ ConIs x v f) ∨ (okV v.1 v.2 = false ∧ er = 10 ∧ f = [])) ∧ Below w.heap.size w w'
theorem const_c (a1 a2 a3 : Option Addr) (n1 c1 n2 c2 n3 c3 : Nat) (x m c : Int) (w : World) (hx : nowB x = true) :
    Calls Try.prog 80 #[QV a1 a2 a3 n1 c1 n2 c2 n3 c3 x, V m c] w (ConR x (m, c) w) := by
  have HK : ∀ w1 p, Blk w1 p #[.int .i64 x, .int .i64 m, .int .i64 c] 54 → Calls Try.prog 59 #[.slice (some ⟨p, 0, none⟩) 1 1] w1 (ConR x (m, c) w1) := fun w1 p hB =>
    (of_c [(x, (m, c))] (some ⟨p, 0, none⟩) 1 w1 (by simp) (argS_blk (t := 54) hB)).mono fun e w' ⟨v, f, er, h1, h2, h3, h4⟩ => by
      obtain ⟨a', c', rfl, g1, g2, g3⟩ := h2
      have hx' := nowB_iff.1 hx
      have hT : okT x = true := okT_iff.2 (by omega)
      refine ⟨a', f.length, c', f, er, h1, ⟨a', c', rfl, g1, g2, g3⟩, ?_, h4⟩
      rcases h3 with ⟨q1, q2, q3⟩ | ⟨q1, q2, q3⟩
      · refine .inl ⟨?_, q2, con_of q3⟩
        simpa [okS, hT] using q1
      · refine .inr ⟨?_, q2, q3⟩
        simpa [okS, hT] using q1
  have HKK := hidE HK
  clear HK hx
  go_enter Try.func80, Try.ntmps80
  go_wp2_with fail
  ((with_reducible refine (HKK.out _ _ (Blk.made_at _ _ _ _ (by simp))).mono ?_); rintro e w1 ⟨a4, n4, c4, f, er, rfl, hv, hd, hb⟩)
  have HV := hidE hv; have HD := hidE hd; have HB := hidE (show Below w.heap.size w w1 by (repeat (first | exact Below.refl _ _ | assumption | refine balloc ?_ _ | refine below_drewN ?_ _ | refine bstep (by assumption) ?_ | refine bstep (Past.prop _) ?_ | refine Below.setCell ?_ (by first | exact Nat.le_refl _ | (simp; done) | (simp; omega)) _)))
  clear hv hd hb
  go_wp2
  go_ret2
  exact ⟨_, _, _, f, er, rfl, HV.out, HD.out, HB.out⟩
/-- A bound is handed back. -/
def BdR (C L O : List Sg) (x : Int) (b : Bd) (w : World) (e : Ending) (w' : World) : Prop := ∃ (a : Option Addr) (n cap : Nat) (f : List Sg) (er : Int), e = .returned (.tuple #[.slice a n cap, .int .i64 er]) ∧ SliS w' (.slice a n cap) f ∧ BdIs C L O x b f er ∧ Below w.heap.size w w'
section
variable {C L O : List Sg} {x : Int} {a1 a2 a3 : Option Addr} {n1 c1 n2 c2 n3 c3 : Nat} {w : World}
theorem bmost_c (hx : nowB x = true) : Calls Try.prog 50 #[QV a1 a2 a3 n1 c1 n2 c2 n3 c3 x] w (BdR C L O x .most w) := by
  have HC := hidE (fun w => const_c a1 a2 a3 n1 c1 n2 c2 n3 c3 x 1125899906842624 1125899906842624 w hx)
  clear hx
  go_enter Try.func50, Try.ntmps50
  go_wp2_with fail
  ((with_reducible refine (HC.out _).mono ?_); rintro e w1 ⟨a4, n4, c4, f, er, rfl, hv, hd, hb⟩)
  have HV := hidE hv; have HD := hidE hd; have HB := hidE (show Below w.heap.size w w1 by (repeat (first | exact Below.refl _ _ | assumption | refine balloc ?_ _ | refine below_drewN ?_ _ | refine bstep (by assumption) ?_ | refine bstep (Past.prop _) ?_ | refine Below.setCell ?_ (by first | exact Nat.le_refl _ | (simp; done) | (simp; omega)) _)))
  clear hv hd hb
  go_wp2
  go_ret2
  refine ⟨_, _, _, f, er, rfl, HV.out, ?_, HB.out⟩
  rcases HD.out with ⟨_, rfl, h⟩ | ⟨h, _⟩
  · exact bd_most h
  · exact absurd h (by decide)
theorem brest_c (h1 : SliS w (.slice a1 n1 c1) C) (h2 : SliS w (.slice a2 n2 c2) L) (hC : mayB C = true) (hL : mayB L = true) (hl : n1 + n2 ≤ 100000000) :
    Calls Try.prog 52 #[QV a1 a2 a3 n1 c1 n2 c2 n3 c3 x] w (BdR C L O x .rest w) := by
  obtain ⟨a1', c1', e, g1, g2, g3⟩ := h1
  cases e
  obtain ⟨a2', c2', e, g4, g5, g6⟩ := h2
  cases e
  obtain ⟨⟨r, er⟩, hr⟩ : ∃ r, doS 1 C L = r := ⟨_, rfl⟩
  have HS := hidE (fun w hA hA2 => csub_c C L a1 a2 c1 c2 w g1 g2 g4 g5 (by omega) hA hA2)
  rw [hr] at HS
  have HB0 := hidE (bd_rest (O := O) (x := x) hC hL hr)
  have H1 := hidE g3; have H2 := hidE g6
  clear hr g1 g2 g3 g4 g5 g6
  go_enter Try.func52, Try.ntmps52
  go_wp2_with fail
  ((with_reducible refine (HS.out _ (H1.out.past (by (repeat (first | exact Below.refl _ _ | assumption | refine balloc ?_ _ | refine below_drewN ?_ _ | refine bstep (by assumption) ?_ | refine bstep (Past.prop _) ?_ | refine Below.setCell ?_ (by first | exact Nat.le_refl _ | (simp; done) | (simp; omega)) _)))) (H2.out.past (by (repeat (first | exact Below.refl _ _ | assumption | refine balloc ?_ _ | refine below_drewN ?_ _ | refine bstep (by assumption) ?_ | refine bstep (Past.prop _) ?_ | refine Below.setCell ?_ (by first | exact Nat.le_refl _ | (simp; done) | (simp; omega)) _))))).mono ?_); rintro e w1 ⟨v1, rfl, hv, hb⟩)
  obtain ⟨a4, c4, rfl, g7, g8, g9⟩ := hv
  have HV := hidE (show SliS w1 (.slice a4 r.length c4) r from ⟨a4, c4, rfl, g7, g8, g9⟩); have HB := hidE (show Below w.heap.size w w1 by (repeat (first | exact Below.refl _ _ | assumption | refine balloc ?_ _ | refine below_drewN ?_ _ | refine bstep (by assumption) ?_ | refine bstep (Past.prop _) ?_ | refine Below.setCell ?_ (by first | exact Nat.le_refl _ | (simp; done) | (simp; omega)) _)))
  clear hb g7 g8 g9
  go_wp2
  go_ret2
  exact ⟨_, _, _, r, er, rfl, HV.out, HB0.out, HB.out⟩
theorem bbelow_c {m c : Int} (h3 : SliS w (.slice a3 n3 c3) O) (hO : mayB O = true) (hl : n3 ≤ 100000000) (hx : nowB x = true) :
    Calls Try.prog 55 #[QV a1 a2 a3 n1 c1 n2 c2 n3 c3 x, V m c] w (BdR C L O x (.lim (m, c)) w) := by
  obtain ⟨a3', c3', e, g1, g2, g3⟩ := h3
  cases e
  have HC := hidE (fun w => const_c a1 a2 a3 n1 c1 n2 c2 O.length c3 x m c w hx)
  have H3 := hidE g3; have HG := hidE (show O.length ≤ c3 ∧ c3 ≤ 9223372036854775807 ∧ O.length ≤ 100000000 from ⟨g1, g2, hl⟩)
  clear hx g1 g2 g3
  go_enter Try.func55, Try.ntmps55
  go_wp2_with fail
  ((with_reducible refine (HC.out _).mono ?_); rintro e w1 ⟨a4, n4, c4, f, er, rfl, hv, hd, hb⟩)
  have hB : Below w.heap.size w w1 := by (repeat (first | exact Below.refl _ _ | assumption | refine balloc ?_ _ | refine below_drewN ?_ _ | refine bstep (by assumption) ?_ | refine bstep (Past.prop _) ?_ | refine Below.setCell ?_ (by first | exact Nat.le_refl _ | (simp; done) | (simp; omega)) _))
  rcases hd with ⟨hv1, rfl, hf⟩ | ⟨hv1, rfl, rfl⟩
  · obtain ⟨a4', c4', e, g1, g2, g4⟩ := hv
    cases e
    obtain ⟨⟨r, er⟩, hr⟩ : ∃ r, doS 1 f O = r := ⟨_, rfl⟩
    have HS := hidE (fun w hA hA2 => csub_c f O a4 a3 c4 c3 w g1 g2 HG.out.1 HG.out.2.1 (by have := HG.out; have := hf.2.1; omega) hA hA2)
    rw [hr] at HS
    have HB0 := hidE (bd_lim (C := C) (L := L) hv1 hO hf hr)
    have H4 := hidE g4
    have B0 : Blk w1 w.heap.size #[.slice a1 n1 c1, .slice a2 n2 c2, .slice a3 O.length c3, .int .i64 x] 62 := ((Blk.made w #[.slice a1 n1 c1, .slice a2 n2 c2, .slice a3 O.length c3, .int .i64 x] 62).alloc _).past hb
    have b2 := B0.cell 2; have bz := B0.lt
    simp at b2
    have HB := hidE hB
    clear hr g1 g2 g4 hb hB B0 hf hv1
    go_wp2_with fail
    ((with_reducible refine (HS.out _ (H4.out) (H3.out.past HB.out)).mono ?_); rintro e w2 ⟨v2, rfl, hv2, hb2⟩)
    obtain ⟨a5, c5, rfl, g7, g8, g9⟩ := hv2
    have HV := hidE (show SliS w2 (.slice a5 r.length c5) r from ⟨a5, c5, rfl, g7, g8, g9⟩); have HB2 := hidE (bstep hb2 HB.out)
    clear hb2 g7 g8 g9 b2 bz
    go_wp2
    go_ret2
    exact ⟨_, _, _, r, er, rfl, HV.out, HB0.out, HB2.out⟩
  · have HV1 := hidE hv1; have HB := hidE hB
    clear hv1 hB hb hv
    go_wp2
    go_ret2
    exact ⟨_, _, _, [], 10, rfl, sliS_nil _, bd_limbad HV1.out, HB.out⟩
theorem blim_c {m c : Int} {p : Nat} (h3 : SliS w (.slice a3 n3 c3) O) (hO : mayB O = true) (hl : n3 ≤ 100000000) (hx : nowB x = true) (hp : Blk w p #[.int .i64 m, .int .i64 c] 27) :
    Calls Try.prog 54 #[QV a1 a2 a3 n1 c1 n2 c2 n3 c3 x, .pointer (some ⟨p, 0, none⟩)] w (BdR C L O x (.lim (m, c)) w) := by
  have HC := hidE (fun w h3 => bbelow_c (C := C) (L := L) (O := O) (x := x) (a1 := a1) (a2 := a2) (a3 := a3) (n1 := n1) (c1 := c1) (n2 := n2) (c2 := c2) (n3 := n3) (c3 := c3) (w := w) (m := m) (c := c) h3 hO hl hx)
  have H3 := hidE h3
  have p0 := hp.cell 0; have p1 := hp.cell 1; have pz := hp.lt
  simp at p0 p1
  clear h3 hO hl hx hp
  go_enter Try.func54, Try.ntmps54
  go_wp2_with fail
  ((with_reducible refine (HC.out _ (H3.out.past (by (repeat (first | exact Below.refl _ _ | assumption | refine balloc ?_ _ | refine below_drewN ?_ _ | refine bstep (by assumption) ?_ | refine bstep (Past.prop _) ?_ | refine Below.setCell ?_ (by first | exact Nat.le_refl _ | (simp; done) | (simp; omega)) _))))).mono ?_); rintro e w1 ⟨a4, n4, c4, f, er, rfl, hv, hd, hb⟩)
  have HV := hidE hv; have HD := hidE hd; have HB := hidE (show Below w.heap.size w w1 by (repeat (first | exact Below.refl _ _ | assumption | refine balloc ?_ _ | refine below_drewN ?_ _ | refine bstep (by assumption) ?_ | refine bstep (Past.prop _) ?_ | refine Below.setCell ?_ (by first | exact Nat.le_refl _ | (simp; done) | (simp; omega)) _)))
  clear hv hd hb p0 p1 pz
  go_wp2
  go_ret2
  exact ⟨_, _, _, f, er, rfl, HV.out, HD.out, HB.out⟩
end
end Go.Proofs.Ytjhhcljbmnomlaa
