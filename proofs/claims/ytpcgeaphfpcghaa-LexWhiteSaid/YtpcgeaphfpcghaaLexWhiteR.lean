/- A region that draws its order and has one operation that all before it must precede, and all behind it must follow: that one may write. No conditions. The walk of the statement on white. No conditions but that the slice's cells read as bytes. LexWhite: for every text, every place and every kind of white the statement's function answers true and leaves its arguments alone. No conditions. -/
import Derived.Test.YtpcgeaphfpcghaaLGB
import Derived.Test.YtpcgeaphfpcghaaLGA
namespace Go.Proofs.Ytpcgeaphfpcghaa
open Go.RowKit

def barOk (l : List Oper) (q : Nat) : Bool :=
  Region.noSelect l.toArray && decide (q < l.length) &&
  ((List.range l.length).all fun i => match l[i]? with
    | some o => o.after.all fun e => !Region.binds .any e || decide (e.on < i)
    | none => true) &&
  ((List.range q).all fun i => match l[i]? with
    | some o => match o.guard with
      | some g => decide (g.1 < q)
      | none => true
    | none => true) &&
  ((List.range l.length).all fun i => decide (i ≤ q) || (List.range i).any fun j => decide (q ≤ j) && waits l.toArray i j) &&
  ((List.range q).all fun j => (List.range (q + 1)).any fun i => decide (j < i) && waits l.toArray i j) &&
  Region.lexB .any (l.take q).toArray &&
  Region.lexFrom .any l.toArray (l.drop (q + 1)).length (q + 1) (Array.replicate (q + 1) true ++ Array.replicate (l.length - (q + 1)) false)

structure BarOk (l : List Oper) (q : Nat) : Prop where
  sel : Region.noSelect l.toArray = true
  lt : q < l.length
  back : ∀ i o, l[i]? = some o → ∀ e ∈ o.after, Region.binds .any e = true → e.on < i
  guard : ∀ i o, i < q → l[i]? = some o → ∀ g, o.guard = some g → g.1 < q
  after : ∀ i, i < l.length → q < i → ∃ j, q ≤ j ∧ j < i ∧ waits l.toArray i j = true
  before : ∀ j, j < q → ∃ i, j < i ∧ i ≤ q ∧ waits l.toArray i j = true
  lexP : Region.lexB .any (l.take q).toArray = true
  lexS : Region.lexFrom .any l.toArray (l.drop (q + 1)).length (q + 1) (Array.replicate (q + 1) true ++ Array.replicate (l.length - (q + 1)) false) = true

theorem barOk_spec {l : List Oper} {q : Nat} (h : barOk l q = true) : BarOk l q := by
  unfold barOk at h
  simp only [Bool.and_eq_true] at h
  obtain ⟨⟨⟨⟨⟨⟨⟨h1, h2⟩, h3⟩, h4⟩, h5⟩, h6⟩, h7⟩, h8⟩ := h
  rw [decide_eq_true_eq] at h2
  refine ⟨h1, h2, ?_, ?_, ?_, ?_, h7, h8⟩
  · intro i o ho e he hb
    have hi : i < l.length := (List.getElem?_eq_some_iff.1 ho).1
    have := List.all_eq_true.1 h3 i (by simpa using hi)
    rw [ho] at this
    have := Array.all_eq_true'.1 this e he
    rw [hb] at this
    simpa using this
  · intro i o hi ho g hg
    have := List.all_eq_true.1 h4 i (by simpa using hi)
    rw [ho] at this
    simp only [hg] at this
    simpa using this
  · intro i hi hqi
    have := List.all_eq_true.1 h5 i (by simpa using hi)
    rw [Bool.or_eq_true, decide_eq_true_eq] at this
    rcases this with c | c
    · omega
    · obtain ⟨j, hj, hc⟩ := List.any_eq_true.1 c
      rw [Bool.and_eq_true, decide_eq_true_eq] at hc
      exact ⟨j, hc.1, by simpa using hj, hc.2⟩
  · intro j hj
    have := List.all_eq_true.1 h6 j (by simpa using hj)
    obtain ⟨i, hi, hc⟩ := List.any_eq_true.1 this
    rw [Bool.and_eq_true, decide_eq_true_eq] at hc
    have := List.mem_range.1 hi
    exact ⟨i, hc.1, by omega, hc.2⟩

section
variable {l : List Oper} {q : Nat} (B : BarOk l q)
include B
/-- Whoever stands behind the bar waits for it. -/
theorem BarOk.behind {listed : Array Bool} (hs : Shut l.toArray listed) : ∀ (n i : Nat), i ≤ n → i < l.length → q < i → (∀ o, l[i]? = some o → ∀ e ∈ o.after, Region.binds .any e = true → listed.getD e.on false = true) → listed.getD q false = true := by
  intro n
  induction n with
  | zero => intro i h1 _ h3; omega
  | succ n ih =>
    intro i h1 h2 h3 hd
    obtain ⟨j, j1, j2, j3⟩ := B.after i h2 h3
    have hoi : l.toArray[i]? = some l[i] := by simp [h2]
    have hj := waits_listed hoi (hd l[i] (List.getElem?_eq_getElem h2)) j3
    by_cases c : j = q
    · rw [c] at hj; exact hj
    · refine ih j (by omega) (by omega) (by omega) fun o ho e he hb => ?_
      exact hs.deps j o (by simpa using ho) hj e he hb
/-- The bar waits for all ahead of it. -/
theorem BarOk.ahead {listed : Array Bool} (hs : Shut l.toArray listed) (hd : ∀ o, l[q]? = some o → ∀ e ∈ o.after, Region.binds .any e = true → listed.getD e.on false = true) : ∀ (n j : Nat), q - j ≤ n → j < q → listed.getD j false = true := by
  intro n
  induction n with
  | zero => intro j h1 h2; omega
  | succ n ih =>
    intro j h1 h2
    obtain ⟨i, i1, i2, i3⟩ := B.before j h2
    by_cases c : i = q
    · subst c
      have hll := B.lt
      have hoi : l.toArray[i]? = some l[i] := by simp [hll]
      exact waits_listed hoi (hd l[i] (List.getElem?_eq_getElem hll)) i3
    · have hi := ih i (by omega) (by omega)
      have hil : i < l.length := by have := B.lt; omega
      have hoi : l.toArray[i]? = some l[i] := by simp [hil]
      exact waits_listed hoi (fun e he hb => hs.deps i l[i] hoi hi e he hb) i3
end

theorem wanted_take {l : List Oper} {q : Nat} (o : Oper) (t : Array Value) (hg : ∀ g, o.guard = some g → g.1 < q) : Region.wanted o (yielded (l.take q).toArray t) = Region.wanted o (yielded l.toArray t) := by
  unfold Region.wanted
  cases h : o.guard with
  | none => rfl
  | some g =>
    have hlt := hg g h
    have e : yielded (l.take q).toArray t g.1 = yielded l.toArray t g.1 := by
      unfold yielded
      simp [hlt]
    simp only [e]

/-- The number of those ahead of the bar that are still to come. -/
def todo (q : Nat) (listed : Array Bool) : Nat := ((List.range q).filter fun i => !listed.getD i false).length
theorem todo_zero {q : Nat} {listed : Array Bool} (h : todo q listed = 0) : ∀ i, i < q → listed.getD i false = true := by
  intro i hi
  unfold todo at h
  have := List.eq_nil_of_length_eq_zero h
  cases hl : listed.getD i false with
  | true => rfl
  | false =>
    have hm : i ∈ (List.range q).filter fun i => !listed.getD i false := by
      rw [List.mem_filter]; exact ⟨by simpa using hi, by rw [hl]; rfl⟩
    rw [this] at hm; cases hm
theorem filter_set (listed : Array Bool) (i : Nat) (hi : i < listed.size) (hl : listed.getD i false = false) : ∀ (r : List Nat), r.Nodup → i ∈ r → (r.filter fun j => !listed.getD j false).length = (r.filter fun j => !(listed.setIfInBounds i true).getD j false).length + 1 := by
  intro r
  induction r with
  | nil => intro _ h; cases h
  | cons a r ih =>
    intro hn hm
    have hn' := List.nodup_cons.1 hn
    by_cases c : a = i
    · subst c
      have e : (r.filter fun j => !listed.getD j false) = r.filter fun j => !(listed.setIfInBounds a true).getD j false := by
        refine List.filter_congr fun j hj => ?_
        have : j ≠ a := fun e => hn'.1 (e ▸ hj)
        rw [getD_set_ne false (Ne.symm this)]
      rw [List.filter_cons_of_pos (by rw [hl]; rfl), List.filter_cons_of_neg (by simp [hi]), e]
      rfl
    · have hm' : i ∈ r := by
        rcases List.mem_cons.1 hm with h | h
        · exact absurd h.symm c
        · exact h
      have := ih hn'.2 hm'
      have e : (listed.setIfInBounds i true).getD a false = listed.getD a false := getD_set_ne false (Ne.symm c)
      cases hla : listed.getD a false with
      | true => rw [List.filter_cons_of_neg (by rw [hla]; simp), List.filter_cons_of_neg (by rw [e, hla]; simp)]; exact this
      | false => rw [List.filter_cons_of_pos (by rw [hla]; rfl), List.filter_cons_of_pos (by rw [e, hla]; rfl)]; simp only [List.length_cons]; omega
theorem todo_set {q : Nat} {listed : Array Bool} {i : Nat} (hi : i < q) (hs : i < listed.size) (hl : listed.getD i false = false) : todo q listed = todo q (listed.setIfInBounds i true) + 1 :=
  filter_set listed i hs hl _ List.nodup_range (by simpa using hi)

theorem prefix_bar {P : Program} {l : List Oper} {q : Nat} (B : BarOk l q) {C : World → Prop} {Q' : Act → Prop} {Q : Exit → Act → World → Prop} (r : Nat)
    (hK : ∀ (listed : Array Bool) a w, listed.size = l.length → (∀ i, i < l.length → listed.getD i false = decide (i < q)) → C w → Q' a → wpAny P .any l.toArray Q r listed a w) :
    ∀ (n : Nat) (listed L : Array Bool) (a : Act) (w : World), Shut l.toArray listed → (∀ i, q ≤ i → listed.getD i false = false) → todo q listed = n → L.size = q → (∀ i, i < q → L.getD i false = listed.getD i false) → C w →
      wpAnyQ P .any (l.take q).toArray C Q' n L a → wpAny P .any l.toArray Q (n + r) listed a w := by
  intro n
  have hql := B.lt
  induction n with
  | zero =>
    intro listed L a w hs hno ht hL hLe hC h
    rw [Nat.zero_add]
    refine hK listed a w (by simpa using hs.size) (fun i hi => ?_) hC h.2
    by_cases c : i < q
    · rw [todo_zero ht i c]; exact (decide_eq_true c).symm
    · rw [hno i (by omega)]; exact (decide_eq_false c).symm
  | succ n ih =>
    intro listed L a w hs hno ht hL hLe hC h
    have hsz : listed.size = l.length := by simpa using hs.size
    have hsome : ∃ i, i < q ∧ listed.getD i false = false := by
      unfold todo at ht
      cases hf : (List.range q).filter fun i => !listed.getD i false with
      | nil => rw [hf] at ht; simp at ht
      | cons x y =>
        have : x ∈ (List.range q).filter fun i => !listed.getD i false := by rw [hf]; simp
        rw [List.mem_filter] at this
        exact ⟨x, by simpa using this.1, by simpa using this.2⟩
    obtain ⟨j0, hj0, hl0⟩ := hsome
    rw [Nat.succ_add]
    refine ⟨fun h0 => ?_, fun i hi => ?_⟩
    · exfalso
      -- the least that is still to come may come
      have key : ∀ (m j : Nat), j ≤ m → j < q → listed.getD j false = false → Region.ready .any l.toArray listed ≠ [] := by
        intro m
        induction m with
        | zero =>
          intro j hjm hjq hjl hnil
          have hj0 : j = 0 := by omega
          subst hj0
          have hm : 0 ∈ Region.ready .any l.toArray listed := by
            refine mem_ready.2 ⟨by rw [getD_flip (by rw [hsz]; omega) true false]; exact hjl, l[0]'(by omega), by simp, fun e he hb => ?_⟩
            have := B.back 0 _ (List.getElem?_eq_getElem (by omega)) e he hb
            omega
          rw [hnil] at hm; cases hm
        | succ m ihm =>
          intro j hjm hjq hjl hnil
          by_cases hall : ∃ k, k < j ∧ listed.getD k false = false
          · obtain ⟨k, hk, hkl⟩ := hall
            exact ihm k (by omega) (by omega) hkl hnil
          · have hm : j ∈ Region.ready .any l.toArray listed := by
              refine mem_ready.2 ⟨by rw [getD_flip (by rw [hsz]; omega) true false]; exact hjl, l[j]'(by omega), by simp, fun e he hb => ?_⟩
              have := B.back j _ (List.getElem?_eq_getElem (by omega)) e he hb
              cases hx : listed.getD e.on false with
              | true => rfl
              | false => exact absurd ⟨e.on, this, hx⟩ hall
            rw [hnil] at hm; cases hm
      exact key j0 j0 (Nat.le_refl _) hj0 hl0 h0
    · obtain ⟨hil, o, ho, hd⟩ := mem_ready.1 hi
      have hilen : i < l.length := by
        rcases Nat.lt_or_ge i l.length with h | h
        · exact h
        · simp [List.getElem?_eq_none h] at ho
      have hol : l[i]? = some o := by simpa using ho
      have hil' : listed.getD i false = false := by rw [getD_flip (by rw [hsz]; exact hilen) false true]; exact hil
      have hiq : i < q := by
        rcases Nat.lt_trichotomy i q with c | c | c
        · exact c
        · exfalso
          subst c
          have := B.ahead hs (fun o' ho' e he hb => by rw [hol] at ho'; cases ho'; exact hd e he hb) i j0 (by omega) hj0
          rw [hl0] at this; cases this
        · exfalso
          have := B.behind hs i i (Nat.le_refl _) hilen c (fun o' ho' e he hb => by rw [hol] at ho'; cases ho'; exact hd e he hb)
          rw [hno q (Nat.le_refl _)] at this; cases this
      have hop : (l.take q).toArray[i]? = some o := by simp [hiq, hol]
      have hir : i ∈ Region.ready .any (l.take q).toArray L := by
        refine mem_ready.2 ⟨?_, o, hop, fun e he hb => ?_⟩
        · rw [getD_flip (by rw [hL]; exact hiq) true false, hLe i hiq]; exact hil'
        · have := B.back i o hol e he hb
          rw [hLe _ (by omega)]; exact hd e he hb
      have hq := h.2 i hir
      have hwp := wpOp_of_qOp (Q' := Q) (K' := fun a' w' => wpAny P .any l.toArray Q (n + r) (listed.setIfInBounds i true) a' w') hC (fun a' w' hC' hK' => ih (listed.setIfInBounds i true) (L.setIfInBounds i true) a' w' ⟨by simpa using hs.size, ?_⟩ ?_ ?_ (by simpa using hL) ?_ hC' hK') hq
      · unfold wpOp at hwp ⊢
        simp only [hop] at hwp
        simp only [ho]
        rw [wanted_take o a.tmps (fun g hg => B.guard i o hiq hol g hg)] at hwp
        exact hwp
      · intro k ok hk hkl e he hb
        by_cases hki : k = i
        · subst hki
          rw [ho] at hk; cases hk
          exact getD_set_true (hd e he hb)
        · rw [getD_set_ne false (Ne.symm hki)] at hkl
          exact getD_set_true (hs.deps k ok hk hkl e he hb)
      · intro k hk
        rw [getD_set_ne false (by omega)]; exact hno k hk
      · have := todo_set hiq (by rw [hsz]; exact hilen) hil'
        omega
      · intro k hk
        by_cases hki : k = i
        · subst hki
          simp [hL, hsz, hk, hilen]
        · rw [getD_set_ne false (Ne.symm hki), getD_set_ne false (Ne.symm hki)]; exact hLe k hk

/-- The region's law. -/
theorem wp_region_bar {P : Program} {id : Nat} {Q : Exit → Act → World → Prop} {a : Act} {w : World} {l : List Oper} (q : Nat) (o : Oper) (hm : P.follows .mixedOrders = true) (ho : l[q]? = some o) (hok : barOk l q = true) (G : Value → World → Prop)
    (h : wpQuiet P (l.take q).toArray (fun w' => ∃ x : Past w, w' = x.1) (fun a' => ∀ x : Past w, Region.wanted o (yielded l.toArray a'.tmps) = true ∧ gives P G ((execOp a'.eval o).run P x.1) ∧
      ∀ v w'', G v w'' → wpQuiet P l.toArray (fun w' => ∃ y : Past w'', w' = y.1) (fun a3 => ∀ w3, (∃ y : Past w'', w3 = y.1) → Q .normal a3 w3) (l.drop (q + 1)) (a'.put o.dst v)) (l.take q) a) : (Code.region id l.toArray true).wp P Q a w := by
  have B := barOk_spec hok
  have hql := B.lt
  refine wp_region_any hm ?_
  have hfuel : l.toArray.size = q + (l.length - q) := by simp; omega
  rw [hfuel]
  have hun : ∀ (n j : Nat), (Array.replicate n false).getD j false = false := fun n j => by
    simp only [Array.getD_eq_getD_getElem?, Array.getElem?_replicate]; split <;> rfl
  have hlexP := B.lexP
  simp only [Region.lexB, Bool.and_eq_true] at hlexP
  have hq0 := wpAnyQ_lex (P := P) (C := fun w' => ∃ x : Past w, w' = x.1) (md := .any) hlexP.1 (l.take q) 0 (Array.replicate (l.take q).toArray.size false) a (by simp) (by simpa using hlexP.2) h
  have hlen : (l.take q).length = q := by rw [List.length_take]; omega
  rw [hlen] at hq0
  refine prefix_bar B (l.length - q) ?_ q (Array.replicate (q + (l.length - q)) false) (Array.replicate (l.take q).toArray.size false) a _ ⟨by simp; omega, fun i oi _ hli => by rw [hun] at hli; cases hli⟩ (fun i _ => hun _ _) ?_ (by simp; omega) (fun i _ => by rw [hun, hun]) ⟨⟨_, (Below.refl _ _).drew⟩, rfl⟩ hq0
  · intro listed a' w' hsz hcan ⟨x, hx⟩ hQ'
    subst hx
    obtain ⟨hw, hg, hrest⟩ := hQ' x
    obtain ⟨r, hr⟩ : ∃ r, l.length - q = r + 1 := ⟨l.length - q - 1, by omega⟩
    rw [hr]
    have hs : Shut l.toArray listed := ⟨by simpa using hsz, fun i oi hi hli e he hb => by
      have hil : i < l.length := by
        rcases Nat.lt_or_ge i l.length with h | h
        · exact h
        · simp [List.getElem?_eq_none h] at hi
      rw [hcan i hil] at hli
      have := B.back i oi (by simpa using hi) e he hb
      have h1 := of_decide_eq_true hli
      rw [hcan e.on (by omega)]; exact decide_eq_true (by omega)⟩
    have hqr : q ∈ Region.ready .any l.toArray listed := by
      refine mem_ready.2 ⟨by rw [getD_flip (by rw [hsz]; exact hql) true false, hcan q hql]; simp, o, by simpa using ho, fun e he hb => ?_⟩
      have := B.back q o ho e he hb
      rw [hcan e.on (by omega)]; exact decide_eq_true this
    refine ⟨fun h0 => (by rw [h0] at hqr; cases hqr), fun i hi => ?_⟩
    obtain ⟨hil, oi, hoi, hd⟩ := mem_ready.1 hi
    have hilen : i < l.length := by
      rcases Nat.lt_or_ge i l.length with h | h
      · exact h
      · simp [List.getElem?_eq_none h] at hoi
    have hil' : listed.getD i false = false := by rw [getD_flip (by rw [hsz]; exact hilen) false true]; exact hil
    have hiq : i = q := by
      rcases Nat.lt_trichotomy i q with c | c | c
      · rw [hcan i hilen, decide_eq_true c] at hil'; cases hil'
      · exact c
      · exfalso
        have := B.behind hs i i (Nat.le_refl _) hilen c (fun o' ho' e he hb => by
          have : l[i]? = some oi := by simpa using hoi
          rw [this] at ho'; cases ho'; exact hd e he hb)
        rw [hcan q hql] at this; simp at this
    subst hiq
    have hoo : oi = o := by
      have : l[i]? = some oi := by simpa using hoi
      rw [this] at ho; cases ho; rfl
    subst hoo
    have hcanon : listed.setIfInBounds i true = Array.replicate (i + 1) true ++ Array.replicate (l.length - (i + 1)) false := by
      apply Array.ext_getElem?
      intro k
      rw [Array.getElem?_setIfInBounds, Array.getElem?_append, Array.getElem?_replicate, Array.getElem?_replicate]
      simp only [Array.size_replicate]
      have hget : k < l.length → listed[k]? = some (decide (k < i)) := fun hk => by
        have := hcan k hk
        rw [Array.getD_eq_getD_getElem?, Array.getElem?_eq_getElem (by omega)] at this
        rw [Array.getElem?_eq_getElem (by omega)]; simpa using this
      by_cases c1 : i = k
      · subst c1
        rw [if_pos rfl, if_pos (by omega), if_pos (by omega), if_pos (by omega)]
      · rw [if_neg c1]
        by_cases c2 : k < i + 1
        · rw [if_pos c2, if_pos c2, hget (by omega)]
          congr 1; exact decide_eq_true (by omega)
        · rw [if_neg c2]
          by_cases c3 : k < l.length
          · rw [hget c3, if_pos (by omega)]
            congr 1; exact decide_eq_false (by omega)
          · rw [if_neg (by omega), Array.getElem?_eq_none (by omega)]
    unfold wpOp
    simp only [hoi]
    rw [if_pos hw]
    refine .inl ?_
    unfold Oper.wp
    refine upon_of_gives hg fun v w'' hv => ?_
    have hsuf := hrest v w'' hv
    rw [hcanon]
    have hdl : (l.drop (i + 1)).length = r := by rw [List.length_drop]; omega
    have hq2 := wpAnyQ_lex (P := P) (C := fun w' => ∃ y : Past w'', w' = y.1) (md := .any) B.sel (l.drop (i + 1)) (i + 1) (Array.replicate (i + 1) true ++ Array.replicate (l.length - (i + 1)) false) _ (fun j => by simp [List.getElem?_drop]) B.lexS hsuf
    rw [hdl] at hq2
    exact wpAny_of_quiet (C := fun w' => ∃ y : Past w'', w' = y.1) (fun a3 w3 hw3 h3 => h3 w3 hw3) r _ _ _ ⟨⟨_, Below.refl _ _⟩, rfl⟩ hq2
  · unfold todo
    rw [List.filter_eq_self.2 (fun i _ => by rw [hun]; rfl), List.length_range]
end Go.Proofs.Ytpcgeaphfpcghaa

namespace Go.Proofs.Ytpcgeaphfpcghaa
open Go.ChangeShapes Go.WideShapes Go.ChangeAt Go.RowKit
attribute [local irreducible] Go.Calls

/-- When the statement looks on. -/
def whGo (s : List UInt8) (l : List Tok) (er : Int) (n : Nat) : Bool := decide (er = 0) && decide (0 < l.length) && decide (s.length ≤ 4000) && decide (n ≤ 90)
set_option maxHeartbeats 2000000 in
theorem lwh_walk (s : List UInt8) (z0 : Int) (Wh : List Int) (a : Option Addr) (cap : Nat) (W : World) (hs : s.length ≤ 9223372036854775807) (hz0 : 0 ≤ z0 ∧ z0 ≤ 255) (hl : Wh.length ≤ 9223372036854775807) (hz : ∀ z ∈ Wh, 0 ≤ z ∧ z ≤ 255) (hA : ArgK .u8 W a Wh) :
    Calls Try.prog 4 #[strV s, .int .u8 z0, .slice a Wh.length cap] W fun e w' => e = .returned (.bool true) ∧ Below W.heap.size W w' := by
  have HH := hidE (fun w => head_c w)
  have HA := hidE hA
  have HL := hidE (fun w => lex_c s w hs)
  clear hA
  cases hgo : whGo s (lexS s).1 (lexS s).2.2 Wh.length
  · have hcase : (lexS s).2.2 ≠ 0 ∨ ((lexS s).2.2 = 0 ∧ (lexS s).1.length = 0) ∨ ((lexS s).2.2 = 0 ∧ (lexS s).1.length ≠ 0 ∧ 4000 < s.length) ∨ ((lexS s).2.2 = 0 ∧ (lexS s).1.length ≠ 0 ∧ s.length ≤ 4000 ∧ 90 < Wh.length) := by
      unfold whGo at hgo
      simp only [Bool.and_eq_false_iff, decide_eq_false_iff_not] at hgo
      omega
    clear hgo
    generalize lexS s = r at *
    obtain ⟨T, p, er⟩ := r
    simp only at HL hcase
    have slen : (⟨s.toArray⟩ : ByteArray).size = s.length := by simp [ByteArray.size]
    rcases hcase with c | ⟨c, c2⟩ | ⟨c, c2, c3⟩ | ⟨c, c2, c3, c4⟩
    · have e1 : (er != 0) = true := bne_iff_ne.2 c
      have e1' : (er == 0) = false := beq_eq_false_iff_ne.2 c
      go_enter Try.func4, Try.ntmps4
      go_wp2_with fail
      ((with_reducible refine (HL.out _).mono ?_))
      rintro e w1 ⟨v1, rfl, ⟨a1, cp1, rfl, _, _, hA1⟩, hb1⟩
      go_wp2_with fail
      ((with_reducible refine (HH.out _).mono ?_); rintro e w2 ⟨rfl, hb2⟩)
      have HB := hidE (hb1.trans (hb2.mono hb1.size))
      clear hb1 hb2
      go_wp2
      go_ret
      exact ⟨rfl, HB.out⟩
    · have e1 : (er != 0) = false := by rw [bne_eq_false_iff_eq]; exact c
      have e1' : (er == 0) = true := beq_iff_eq.2 c
      have e2 : ((T.length : Int) == 0) = true := beq_iff_eq.2 (by omega)
      go_enter Try.func4, Try.ntmps4
      go_wp2_with fail
      ((with_reducible refine (HL.out _).mono ?_))
      rintro e w1 ⟨v1, rfl, ⟨a1, cp1, rfl, _, _, hA1⟩, hb1⟩
      go_wp2_with fail
      ((with_reducible refine (HH.out _).mono ?_); rintro e w2 ⟨rfl, hb2⟩)
      have HB := hidE (hb1.trans (hb2.mono hb1.size))
      clear hb1 hb2
      go_wp2
      go_ret
      exact ⟨rfl, HB.out⟩
    · have e1 : (er != 0) = false := by rw [bne_eq_false_iff_eq]; exact c
      have e1' : (er == 0) = true := beq_iff_eq.2 c
      have e2 : ((T.length : Int) == 0) = false := beq_eq_false_iff_ne.2 (by omega)
      have e3 : decide ((4000 : Int) < (s.length : Int)) = true := decide_eq_true (by omega)
      have e3' : decide (4000 < s.length) = true := decide_eq_true c3
      go_enter Try.func4, Try.ntmps4
      go_wp2_with fail
      ((with_reducible refine (HL.out _).mono ?_))
      rintro e w1 ⟨v1, rfl, ⟨a1, cp1, rfl, _, _, hA1⟩, hb1⟩
      go_wp2_with fail
      ((with_reducible refine (HH.out _).mono ?_); rintro e w2 ⟨rfl, hb2⟩)
      have HB := hidE (hb1.trans (hb2.mono hb1.size))
      clear hb1 hb2
      go_wp2
      go_ret
      exact ⟨rfl, HB.out⟩
    · have e1 : (er != 0) = false := by rw [bne_eq_false_iff_eq]; exact c
      have e1' : (er == 0) = true := beq_iff_eq.2 c
      have e2 : ((T.length : Int) == 0) = false := beq_eq_false_iff_ne.2 (by omega)
      have e3 : decide ((4000 : Int) < (s.length : Int)) = false := decide_eq_false (by omega)
      have e3' : decide (4000 < s.length) = false := decide_eq_false (by omega)
      have e4 : decide ((90 : Int) < (Wh.length : Int)) = true := decide_eq_true (by omega)
      have e4' : decide (90 < Wh.length) = true := decide_eq_true c4
      go_enter Try.func4, Try.ntmps4
      go_wp2_with fail
      ((with_reducible refine (HL.out _).mono ?_))
      rintro e w1 ⟨v1, rfl, ⟨a1, cp1, rfl, _, _, hA1⟩, hb1⟩
      go_wp2_with fail
      ((with_reducible refine (HH.out _).mono ?_); rintro e w2 ⟨rfl, hb2⟩)
      have HB := hidE (hb1.trans (hb2.mono hb1.size))
      clear hb1 hb2
      go_wp2
      go_ret
      exact ⟨rfl, HB.out⟩
  · have hg : (lexS s).2.2 = 0 ∧ 0 < (lexS s).1.length ∧ s.length ≤ 4000 ∧ Wh.length ≤ 90 := by
      unfold whGo at hgo
      simpa [and_assoc] using hgo
    obtain ⟨h1, h2, h3, h4⟩ := hg
    clear hgo
    have hlex : lexG 0 s = .ok (lexS s).1 := by
      unfold lexS at h1 ⊢
      rw [if_neg (by omega)] at h1 ⊢
      cases hh : lexG 0 s with
      | ok l => rfl
      | error p => rw [hh] at h1; simp at h1
    have hS : lexS s = ((lexS s).1, 0, 0) := lexS_ok (by omega) hlex
    generalize (lexS s).1 = T at *
    have HLX := hidE hlex
    rw [hS] at HL
    have slen : (⟨s.toArray⟩ : ByteArray).size = s.length := by simp [ByteArray.size]
    have e2 : ((T.length : Int) == 0) = false := beq_eq_false_iff_ne.2 (by omega)
    have e3 : decide ((4000 : Int) < (s.length : Int)) = false := decide_eq_false (by omega)
    have e3' : decide (4000 < s.length) = false := decide_eq_false (by omega)
    have e4 : decide ((90 : Int) < (Wh.length : Int)) = false := decide_eq_false (by omega)
    have e4' : decide (90 < Wh.length) = false := decide_eq_false (by omega)
    have HZ := hidE hz
    have H2 := hidE h2; have H3 := hidE h3; have H4 := hidE h4
    have H5 := hidE (lex_count hlex)
    clear hS hlex h1 h2 h3 h4 hz
    go_enter Try.func4, Try.ntmps4
    go_wp2_with fail
    ((with_reducible refine (HL.out _).mono ?_))
    rintro e w1 ⟨v1, rfl, ⟨a1, cp1, rfl, _, _, hA1⟩, hb1⟩
    have HA1 := hidE hA1; have HB1 := hidE hb1
    clear hA1 hb1 HL
    simp only
    go_wp2
    go_loopg [10, 11] Wh.length (fun gh v10 v11 wr => ∃ i : Nat, i ≤ Wh.length ∧ Wh.length - i ≤ gh ∧ v11 = .int .i64 i ∧ v10 = strV (whL (Wh.take i)) ∧ Below w1.heap.size w1 wr)
    case atStart => exact ⟨0, Nat.zero_le _, Nat.le_refl _, rfl, rfl, Below.refl _ _⟩
    case round =>
      obtain ⟨i, hi, hgh, rfl, rfl, hb⟩ := hrel
      have HG := hidE hgh; have HB := hidE hb
      clear hgh hb
      obtain ⟨wo, hwo⟩ : ∃ wo : World, wo = wr := ⟨_, rfl⟩
      by_cases hlt : i < Wh.length
      · obtain ⟨b, off, rfl, hbb, hc⟩ := (HA.out.past (HB1.out.trans (HB.out.mono HB1.out.size))) (by omega)
        have c0 := hc i hlt
        have q1 : decide (i < Wh.length) = true := decide_eq_true hlt
        have q2 : decide ((i : Int) < (Wh.length : Int)) = true := decide_eq_true (by omega)
        have hzi := HZ.out _ (List.getElem_mem hlt)
        rw [← kgetD _ _ hlt] at hzi
        have HWT := hidE (whL_take hlt)
        have hwl : (whL (Wh.take i)).length ≤ 90 := by rw [whL_len, List.length_take]; have := H4.out; omega
        have hcase : ((Wh.getD i 0).tmod 4 = 0 ∧ whB (Wh.getD i 0) = 32) ∨ ((Wh.getD i 0).tmod 4 = 1 ∧ whB (Wh.getD i 0) = 9) ∨ ((Wh.getD i 0).tmod 4 = 2 ∧ whB (Wh.getD i 0) = 10) ∨ ((Wh.getD i 0).tmod 4 = 3 ∧ whB (Wh.getD i 0) = 13) := by
          unfold whB
          rw [Int.tmod_eq_emod_of_nonneg hzi.1]
          have h1 := Int.emod_nonneg (Wh.getD i 0) (show (4 : Int) ≠ 0 by omega)
          have h2 := Int.emod_lt_of_pos (Wh.getD i 0) (show (0 : Int) < 4 by omega)
          by_cases c0 : Wh.getD i 0 % 4 = 0
          · rw [if_pos c0]; exact .inl ⟨c0, rfl⟩
          · by_cases c1 : Wh.getD i 0 % 4 = 1
            · rw [if_neg c0, if_pos c1]; exact .inr (.inl ⟨c1, rfl⟩)
            · by_cases c2 : Wh.getD i 0 % 4 = 2
              · rw [if_neg c0, if_neg c1, if_pos c2]; exact .inr (.inr (.inl ⟨c2, rfl⟩))
              · rw [if_neg c0, if_neg c1, if_neg c2]; exact .inr (.inr (.inr ⟨by omega, rfl⟩))
        clear hc
        rcases hcase with h | h | h | h
        · obtain ⟨ct, cw⟩ := h
          rw [cw] at HWT
          clear cw
          have hc1 : (convert 33 9 (.slice (some ⟨wr.heap.size + 1, 0, none⟩) 1 1)).run Try.prog ((wr.alloc (.cells #[.int .u8 32, .int .u8 9, .int .u8 10, .int .u8 13] 5)).alloc (.cells #[.int .u8 32] 5)) = .ok (strV [32]) ((wr.alloc (.cells #[.int .u8 32, .int .u8 9, .int .u8 10, .int .u8 13] 5)).alloc (.cells #[.int .u8 32] 5)) := by
            have h := conv_one (wr.alloc (.cells #[.int .u8 32, .int .u8 9, .int .u8 10, .int .u8 13] 5)) 32 (by omega)
            rw [show (wr.alloc (.cells #[.int .u8 32, .int .u8 9, .int .u8 10, .int .u8 13] 5)).heap.size = wr.heap.size + 1 by simp] at h
            exact h
          generalize Wh.getD i 0 = z at *
          generalize whL (Wh.take i) = M at *
          have A1 := fun w => str_add w M [32] (by simp; omega)
          go_wp2
          go_roundg (Wh.length - (i + 1))
          case measure => have := HG.out; omega
          case rel =>
            refine ⟨i + 1, by omega, Nat.le_refl _, by go_num, ?_, by have := HB.out; (repeat (first | exact Below.refl _ _ | assumption | refine balloc ?_ _ | refine below_drewN ?_ _ | refine bstep (by assumption) ?_ | refine bstep (Past.prop _) ?_ | refine Below.setCell ?_ (by first | exact Nat.le_refl _ | (simp; done) | (simp; omega)) _))⟩
            rw [HWT.out]
        · obtain ⟨ct, cw⟩ := h
          rw [cw] at HWT
          clear cw
          have hc1 : (convert 33 9 (.slice (some ⟨wr.heap.size + 1, 0, none⟩) 1 1)).run Try.prog ((wr.alloc (.cells #[.int .u8 32, .int .u8 9, .int .u8 10, .int .u8 13] 5)).alloc (.cells #[.int .u8 9] 5)) = .ok (strV [9]) ((wr.alloc (.cells #[.int .u8 32, .int .u8 9, .int .u8 10, .int .u8 13] 5)).alloc (.cells #[.int .u8 9] 5)) := by
            have h := conv_one (wr.alloc (.cells #[.int .u8 32, .int .u8 9, .int .u8 10, .int .u8 13] 5)) 9 (by omega)
            rw [show (wr.alloc (.cells #[.int .u8 32, .int .u8 9, .int .u8 10, .int .u8 13] 5)).heap.size = wr.heap.size + 1 by simp] at h
            exact h
          generalize Wh.getD i 0 = z at *
          generalize whL (Wh.take i) = M at *
          have A1 := fun w => str_add w M [9] (by simp; omega)
          go_wp2
          go_roundg (Wh.length - (i + 1))
          case measure => have := HG.out; omega
          case rel =>
            refine ⟨i + 1, by omega, Nat.le_refl _, by go_num, ?_, by have := HB.out; (repeat (first | exact Below.refl _ _ | assumption | refine balloc ?_ _ | refine below_drewN ?_ _ | refine bstep (by assumption) ?_ | refine bstep (Past.prop _) ?_ | refine Below.setCell ?_ (by first | exact Nat.le_refl _ | (simp; done) | (simp; omega)) _))⟩
            rw [HWT.out]
        · obtain ⟨ct, cw⟩ := h
          rw [cw] at HWT
          clear cw
          have hc1 : (convert 33 9 (.slice (some ⟨wr.heap.size + 1, 0, none⟩) 1 1)).run Try.prog ((wr.alloc (.cells #[.int .u8 32, .int .u8 9, .int .u8 10, .int .u8 13] 5)).alloc (.cells #[.int .u8 10] 5)) = .ok (strV [10]) ((wr.alloc (.cells #[.int .u8 32, .int .u8 9, .int .u8 10, .int .u8 13] 5)).alloc (.cells #[.int .u8 10] 5)) := by
            have h := conv_one (wr.alloc (.cells #[.int .u8 32, .int .u8 9, .int .u8 10, .int .u8 13] 5)) 10 (by omega)
            rw [show (wr.alloc (.cells #[.int .u8 32, .int .u8 9, .int .u8 10, .int .u8 13] 5)).heap.size = wr.heap.size + 1 by simp] at h
            exact h
          generalize Wh.getD i 0 = z at *
          generalize whL (Wh.take i) = M at *
          have A1 := fun w => str_add w M [10] (by simp; omega)
          go_wp2
          go_roundg (Wh.length - (i + 1))
          case measure => have := HG.out; omega
          case rel =>
            refine ⟨i + 1, by omega, Nat.le_refl _, by go_num, ?_, by have := HB.out; (repeat (first | exact Below.refl _ _ | assumption | refine balloc ?_ _ | refine below_drewN ?_ _ | refine bstep (by assumption) ?_ | refine bstep (Past.prop _) ?_ | refine Below.setCell ?_ (by first | exact Nat.le_refl _ | (simp; done) | (simp; omega)) _))⟩
            rw [HWT.out]
        · obtain ⟨ct, cw⟩ := h
          rw [cw] at HWT
          clear cw
          have hc1 : (convert 33 9 (.slice (some ⟨wr.heap.size + 1, 0, none⟩) 1 1)).run Try.prog ((wr.alloc (.cells #[.int .u8 32, .int .u8 9, .int .u8 10, .int .u8 13] 5)).alloc (.cells #[.int .u8 13] 5)) = .ok (strV [13]) ((wr.alloc (.cells #[.int .u8 32, .int .u8 9, .int .u8 10, .int .u8 13] 5)).alloc (.cells #[.int .u8 13] 5)) := by
            have h := conv_one (wr.alloc (.cells #[.int .u8 32, .int .u8 9, .int .u8 10, .int .u8 13] 5)) 13 (by omega)
            rw [show (wr.alloc (.cells #[.int .u8 32, .int .u8 9, .int .u8 10, .int .u8 13] 5)).heap.size = wr.heap.size + 1 by simp] at h
            exact h
          generalize Wh.getD i 0 = z at *
          generalize whL (Wh.take i) = M at *
          have A1 := fun w => str_add w M [13] (by simp; omega)
          go_wp2
          go_roundg (Wh.length - (i + 1))
          case measure => have := HG.out; omega
          case rel =>
            refine ⟨i + 1, by omega, Nat.le_refl _, by go_num, ?_, by have := HB.out; (repeat (first | exact Below.refl _ _ | assumption | refine balloc ?_ _ | refine below_drewN ?_ _ | refine bstep (by assumption) ?_ | refine bstep (Past.prop _) ?_ | refine Below.setCell ?_ (by first | exact Nat.le_refl _ | (simp; done) | (simp; omega)) _))⟩
            rw [HWT.out]
      · obtain rfl : i = Wh.length := by omega
        have q1 : decide (Wh.length < Wh.length) = false := decide_eq_false (by omega)
        rw [List.take_length]
        have hml := whL_len Wh
        have hmw := whL_white Wh
        obtain ⟨k, hk⟩ : ∃ k : Nat, z0 % (T.length : Int) = (k : Int) := ⟨(z0 % (T.length : Int)).toNat, by have := Int.emod_nonneg z0 (show (T.length : Int) ≠ 0 by have := H2.out; omega); omega⟩
        have hk2 : z0.tmod (T.length : Int) = (k : Int) := by rw [Int.tmod_eq_emod_of_nonneg hz0.1]; exact hk
        have hkl : k < T.length := by have := Int.emod_lt_of_pos z0 (show (0 : Int) < T.length by have := H2.out; omega); omega
        have hkl2 : (k : Int) < (T.length : Int) := by omega
        have hT0 : ((T.length : Int) == 0) = false := e2
        obtain ⟨b1, off1, rfl, hbb1, hc1⟩ := (HA1.out.past HB.out) (by omega)
        obtain ⟨_, _, _, t3⟩ := hc1.get hkl
        have hpos := lex_pos HLX.out hkl
        have hput := wh_put HLX.out hmw hkl
        obtain ⟨P, hP⟩ : ∃ P, P = (T.getD k tk0).pos := ⟨_, rfl⟩
        rw [← hP] at t3 hpos hput
        have hlen2 : (s.take P ++ whL Wh ++ s.drop P).length = s.length + Wh.length := by
          rw [List.length_append, List.length_append, List.length_take, List.length_drop, hml]
          omega
        have hPs : P ≤ s.length := by omega
        have HLX2 := hidE (fun w => show Calls Try.prog 6 #[strV (s.take P ++ (whL Wh ++ s.drop P))] w (LexIs w (whiteG (whL Wh).length k T) 0 0) from lex_is (lexS_ok (by have := H3.out; have := H4.out; omega) hput) (by have := H3.out; have := H4.out; omega) _ (by rw [List.append_assoc]) w)
        have HWL := hidE (wh_len (whL Wh).length k T); have HWS := hidE (wh_same (whL Wh).length k T); have HWP := hidE (fun i (h : i < T.length) => wh_pos (d := (whL Wh).length) (k := k) h)
        have HP := hidE hP
        have X1 := str_take s P
        have X2 := str_drop s P s.length rfl
        have A1 := fun w => str_add w (s.take P) (whL Wh) (by have := H3.out; have := H4.out; rw [List.length_take, hml]; omega)
        have A2 := fun w => str_add w (s.take P ++ whL Wh) (s.drop P) (by have := H3.out; have := H4.out; rw [List.length_append, List.length_take, hml, List.length_drop]; omega)
        clear hc1 hP hput hlen2 hpos
        go_wp2
        refine wp_region_bar 9 _ (by kernel_rfl) rfl (by kernel_rfl) (fun v w'' => ∃ (a2 : Option Addr) (cap2 : Nat), v = .tuple #[.slice a2 T.length cap2, .int .i64 0, .int .i64 0] ∧ ArgT w'' a2 (whiteG (whL Wh).length k T) ∧ Below wr.heap.size wr w'') ?_
        simp only [List.take_succ_cons, List.take_zero, List.drop_succ_cons, List.drop_zero]
        repeat (go_big_quiet_step (fail))
        refine wpQuiet_nil ?_
        intro x
        refine ⟨rfl, ?_, ?_⟩
        · simp [go_sem, gives]
          refine (HLX2.out x.1).mono fun e w'' h => ?_
          obtain ⟨v, he, ⟨a2, cap2, hv, _, _, hA2⟩, hb2⟩ := h
          subst hv
          rw [HWL.out] at he
          exact ⟨_, he, a2, ⟨cap2, rfl⟩, hA2, (x.2).trans (hb2.mono x.2.size)⟩
        · rintro v w'' ⟨a2, cap2, rfl, hA2, hb2⟩
          simp only [Act.put, List.setIfInBounds_toArray, List.set_cons_succ, List.set_cons_zero]
          repeat (go_big_quiet_step (fail))
          refine wpQuiet_nil ?_
          rintro _ ⟨y, rfl⟩
          have hy := y.2
          have HA2 := hidE (hA2.past hy)
          have HB2 := hidE (hb2.trans (hy.mono hb2.size))
          have HA1' := hidE (HA1.out.past (HB.out.trans (HB2.out.mono HB.out.size)))
          have HBB := hidE (HB1.out.trans ((HB.out.trans (HB2.out.mono HB.out.size)).mono HB1.out.size))
          clear hA2 hb2 hy HLX2 HB2 A1 A2 X1 X2
          generalize y.1 = w5 at *
          have HSM := hidE (fun w ha hb => rsameT_c T (whiteG (whL Wh).length k T) (some ⟨b1, off1, none⟩) a2 cp1 cap2 false w (by have := H3.out; have := H5.out; omega) (by rw [HWL.out]; have := H3.out; have := H5.out; omega) ha hb)
          rw [HWS.out, HWL.out] at HSM
          generalize hMo : whL Wh = Mo at *
          have HMO := hidE hMo
          clear hMo
          generalize whiteG Mo.length k T = T2 at *
          go_wp2_with fail
          ((with_reducible refine (HSM.out _ HA1'.out HA2.out).mono ?_); rintro e w6 ⟨rfl, hb6⟩)
          have HA2' := hidE (HA2.out.past hb6)
          have HA1 := hidE (HA1'.out.past hb6)
          have HB6 := hidE (HBB.out.trans (hb6.mono HBB.out.size))
          clear hb6 HA2 HA1' HBB HSM HWS
          go_wp2
          go_loopg [17] T.length (fun gh v17 wr => ∃ j : Nat, j ≤ T.length ∧ T.length - j ≤ gh ∧ v17 = .int .i64 j ∧ Below w6.heap.size w6 wr)
          case atStart => exact ⟨0, Nat.zero_le _, by omega, rfl, Below.refl _ _⟩
          case round =>
            obtain ⟨j, hj, hgh, rfl, hb⟩ := hrel
            have HG2 := hidE hgh; have HB7 := hidE hb
            clear hgh hb
            obtain ⟨wo2, hwo2⟩ : ∃ wo2 : World, wo2 = wr := ⟨_, rfl⟩
            by_cases hjl : j < T.length
            · obtain ⟨b', off', e', hb', hc'⟩ := (HA1.out.past HB7.out) (by omega)
              cases e'
              obtain ⟨_, _, _, t3⟩ := hc'.get hjl
              obtain ⟨b2, off2, rfl, hb2, hc2⟩ := (HA2'.out.past HB7.out) (by have := HWL.out; omega)
              obtain ⟨_, _, _, u3⟩ := hc2.get (i := j) (by have := HWL.out; omega)
              have hwp := HWP.out j hjl
              have hps := lex_pos HLX.out hjl
              have hmo : Mo.length ≤ 90 := by rw [← HMO.out, whL_len]; exact H4.out
              have h3 := H3.out
              rw [hwp] at u3
              have q2 : decide ((j : Int) < (T.length : Int)) = true := decide_eq_true (by omega)
              have q3 : decide (j < T.length) = true := decide_eq_true hjl
              clear hc' hc2 hwp
              generalize (T.getD j tk0).pos = P1 at *
              generalize (T.getD j tk0).text.length = TL at *
              by_cases hkj : k ≤ j
              · have q4 : decide ((k : Int) ≤ (j : Int)) = true := decide_eq_true (by omega)
                have q5 : decide (k ≤ j) = true := decide_eq_true hkj
                rw [if_pos hkj] at u3
                clear hkj
                have wq : IntKind.i64.wrap ((P1 : Int) + (Mo.length : Int)) = (P1 : Int) + (Mo.length : Int) := IntWalk.i64_in _ (by omega)
                rw [Int.natCast_add] at u3
                go_wp2
                go_roundg (T.length - (j + 1))
                case measure => have := HG2.out; omega
                case rel => exact ⟨j + 1, by omega, Nat.le_refl _, by go_num, HB7.out⟩
              · have q4 : decide ((k : Int) ≤ (j : Int)) = false := decide_eq_false (by omega)
                have q5 : decide (k ≤ j) = false := decide_eq_false hkj
                rw [if_neg hkj] at u3
                clear hkj
                go_wp2
                go_roundg (T.length - (j + 1))
                case measure => have := HG2.out; omega
                case rel => exact ⟨j + 1, by omega, Nat.le_refl _, by go_num, HB7.out⟩
            · have q2 : decide ((j : Int) < (T.length : Int)) = false := decide_eq_false (by omega)
              have q3 : decide (j < T.length) = false := decide_eq_false hjl
              go_wp2_with fail
              ((with_reducible refine (HH.out _).mono ?_); rintro e w7 ⟨rfl, hb7⟩)
              have HB8 := hidE (HB6.out.trans ((HB7.out.trans (hb7.mono HB7.out.size)).mono HB6.out.size))
              clear hb7
              go_wp2
              go_ret
              exact ⟨rfl, HB8.out⟩
end Go.Proofs.Ytpcgeaphfpcghaa

namespace Go.Proofs.Ytpcgeaphfpcghaa
open Go.ChangeShapes Go.WideShapes Go.ChangeAt Go.RowKit
open Go.ChangeMaps (open_string)

theorem lwh_str (s : ByteArray) (z0 : Int) (Wh : List Int) (a : Option Addr) (cap : Nat) (W : World) (hs : s.size ≤ maxLen) (hz0 : 0 ≤ z0 ∧ z0 ≤ 255) (hl : Wh.length ≤ 9223372036854775807) (hz : ∀ z ∈ Wh, 0 ≤ z ∧ z ≤ 255) (hA : ArgK .u8 W a Wh) :
    Calls Try.prog 4 #[.string s, .int .u8 z0, .slice a Wh.length cap] W fun e w' => e = .returned (.bool true) ∧ Below W.heap.size W w' :=
  lwh_walk s.data.toList z0 Wh a cap W (by rw [Array.length_toList]; exact hs) hz0 hl hz hA
set_option maxRecDepth 100000 in
theorem lexWhite_lifted (os : Os) (started : os.Started) (H : Type) (enc : TypeId × Value → H) :
    ReturnsInHanded {} Try.checked os 4 .any (Rows.lexWhiteSpec.pre6 enc Try.prog Try.f4 Rows.lexWhiteRow.domain false) (Rows.lexWhiteSpec.post enc Try.prog Try.f4 false true false false) := by
  refine returnsInHanded_of_change (C := Try.checked) own started (by kernel_rfl) Try.func4
    (ChangeSpec.witness6 (enc := enc) (C := Try.checked) false ⟨#[], #[.string ⟨#[]⟩, .int .u8 0, .slice none 0 0], []⟩ 8 (by kernel_rfl) (by kernel_rfl) (by kernel_rfl) (by kernel_rfl)) ?_
  intro W base args ds gs before hval0 hW _ _
  have hval : ∀ (j : Nat) t v, Try.f4.params[j]? = some t → args[j]? = some v → Value.okWide Try.prog W .any base t v := hval0
  have hW' := hW
  obtain ⟨p, q, hA0, hV, rfl, hfz, hnd⟩ := hW
  have hA : DataW.TrodAll enc Try.prog W 0 (fun _ => true) true Try.f4.params.toList args.toList ds p := hA0
  rw [Try.params4] at hA hval
  obtain ⟨v0, vs0, d0, ds0, p0, q0, hargs, rfl, rfl, h0, r0⟩ := trodAll_cons hA
  obtain ⟨v1, vs1, d1, ds1, p1, q1, rfl, rfl, rfl, h1, r1⟩ := trodAll_cons r0
  obtain ⟨v2, vs2, d2, ds2, p2, q2, rfl, rfl, rfl, h2, r2⟩ := trodAll_cons r1
  obtain ⟨rfl, rfl, rfl⟩ := trodAll_nil r2
  obtain rfl : args = #[v0, v1, v2] := by cases args; simp_all
  obtain ⟨s0, rfl, rfl, rfl, hs0⟩ := open_string Try.underlying9 (hval 0 9 v0 rfl rfl) h0
  obtain ⟨a1, rfl, rfl, rfl, wa1⟩ := open_int Try.underlying5 (hval 1 5 v1 rfl rfl) h1
  have ha1 : 0 ≤ a1 ∧ a1 ≤ 255 := by simpa [Lit.wf, IntKind.min, IntKind.max, IntKind.signed, IntKind.bits] using wa1
  obtain ⟨l2, o2, c2, rfl, hl2, hA2', hz2⟩ := open_u8lP (hval 2 33 v2 rfl rfl) h2
  clear hA0 hval0
  refine (lwh_str s0 a1 l2 o2 c2 W hs0 ha1 hl2 hz2 hA2').mono fun e W' ⟨he, hb⟩ => ?_
  subst he
  exact ⟨_, rfl, law_post laidOut (readOk_spec (by kernel_rfl)) rfl Try.underlying4 rfl ⟨rfl, rfl, rfl⟩ hW' hb⟩

theorem lexWhite_holds : Rows.LexWhiteSaid :=
  OpenClaim.holds_of_wide 4 Try.f4 rfl rfl rfl rfl rfl rfl rfl ⟨rfl, rfl, rfl, rfl, rfl⟩ rfl rfl rfl rfl rfl (by kernel_rfl) Try.func4 (by kernel_rfl)
    (of_decide_eq_true (by kernel_rfl)) (by unfold Func.isWrapper; first | (rw [if_pos (by decide +kernel)]; kernel_rfl) | (rw [if_neg (by decide +kernel)]; exact ⟨rfl, rfl⟩))
    (fun os started H enc _ => lexWhite_lifted os started H enc)
end Go.Proofs.Ytpcgeaphfpcghaa
