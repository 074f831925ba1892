/- A region that draws its order and has one operation that all before it must precede, and all behind it must follow: that one may write. No conditions. -/
import Derived.Test.YtibmldgbimjgfaaJ
namespace Go.Proofs.Ytibmldgbimjgfaa
open Go.RowKit

def barOk (l : List Oper) (q : Nat) : Bool :=
  Region.noSelect l.toArray && decide (q < l.length) &&
  ((List.range l.length).all fun i => match l[i]? with
    | some o => o.after.all fun e => !Region.binds .any e || decide (e.on < i)
    | none => true) &&
  ((List.range q).all fun i => match l[i]? with
    | some o => match o.guard with
      | some g => decide (g.1 < q)
      | none => true
    | none => true) &&
  ((List.range l.length).all fun i => decide (i ≤ q) || (List.range i).any fun j => decide (q ≤ j) && waits l.toArray i j) &&
  ((List.range q).all fun j => (List.range (q + 1)).any fun i => decide (j < i) && waits l.toArray i j) &&
  Region.lexB .any (l.take q).toArray &&
  Region.lexFrom .any l.toArray (l.drop (q + 1)).length (q + 1) (Array.replicate (q + 1) true ++ Array.replicate (l.length - (q + 1)) false)

structure BarOk (l : List Oper) (q : Nat) : Prop where
  sel : Region.noSelect l.toArray = true
  lt : q < l.length
  back : ∀ i o, l[i]? = some o → ∀ e ∈ o.after, Region.binds .any e = true → e.on < i
  guard : ∀ i o, i < q → l[i]? = some o → ∀ g, o.guard = some g → g.1 < q
  after : ∀ i, i < l.length → q < i → ∃ j, q ≤ j ∧ j < i ∧ waits l.toArray i j = true
  before : ∀ j, j < q → ∃ i, j < i ∧ i ≤ q ∧ waits l.toArray i j = true
  lexP : Region.lexB .any (l.take q).toArray = true
  lexS : Region.lexFrom .any l.toArray (l.drop (q + 1)).length (q + 1) (Array.replicate (q + 1) true ++ Array.replicate (l.length - (q + 1)) false) = true

theorem barOk_spec {l : List Oper} {q : Nat} (h : barOk l q = true) : BarOk l q := by
  unfold barOk at h
  simp only [Bool.and_eq_true] at h
  obtain ⟨⟨⟨⟨⟨⟨⟨h1, h2⟩, h3⟩, h4⟩, h5⟩, h6⟩, h7⟩, h8⟩ := h
  rw [decide_eq_true_eq] at h2
  refine ⟨h1, h2, ?_, ?_, ?_, ?_, h7, h8⟩
  · intro i o ho e he hb
    have hi : i < l.length := (List.getElem?_eq_some_iff.1 ho).1
    have := List.all_eq_true.1 h3 i (by simpa using hi)
    rw [ho] at this
    have := Array.all_eq_true'.1 this e he
    rw [hb] at this
    simpa using this
  · intro i o hi ho g hg
    have := List.all_eq_true.1 h4 i (by simpa using hi)
    rw [ho] at this
    simp only [hg] at this
    simpa using this
  · intro i hi hqi
    have := List.all_eq_true.1 h5 i (by simpa using hi)
    rw [Bool.or_eq_true, decide_eq_true_eq] at this
    rcases this with c | c
    · omega
    · obtain ⟨j, hj, hc⟩ := List.any_eq_true.1 c
      rw [Bool.and_eq_true, decide_eq_true_eq] at hc
      exact ⟨j, hc.1, by simpa using hj, hc.2⟩
  · intro j hj
    have := List.all_eq_true.1 h6 j (by simpa using hj)
    obtain ⟨i, hi, hc⟩ := List.any_eq_true.1 this
    rw [Bool.and_eq_true, decide_eq_true_eq] at hc
    have := List.mem_range.1 hi
    exact ⟨i, hc.1, by omega, hc.2⟩

section
variable {l : List Oper} {q : Nat} (B : BarOk l q)
include B
/-- Whoever stands behind the bar waits for it. -/
theorem BarOk.behind {listed : Array Bool} (hs : Shut l.toArray listed) : ∀ (n i : Nat), i ≤ n → i < l.length → q < i → (∀ o, l[i]? = some o → ∀ e ∈ o.after, Region.binds .any e = true → listed.getD e.on false = true) → listed.getD q false = true := by
  intro n
  induction n with
  | zero => intro i h1 _ h3; omega
  | succ n ih =>
    intro i h1 h2 h3 hd
    obtain ⟨j, j1, j2, j3⟩ := B.after i h2 h3
    have hoi : l.toArray[i]? = some l[i] := by simp [h2]
    have hj := waits_listed hoi (hd l[i] (List.getElem?_eq_getElem h2)) j3
    by_cases c : j = q
    · rw [c] at hj; exact hj
    · refine ih j (by omega) (by omega) (by omega) fun o ho e he hb => ?_
      exact hs.deps j o (by simpa using ho) hj e he hb
/-- The bar waits for all ahead of it. -/
theorem BarOk.ahead {listed : Array Bool} (hs : Shut l.toArray listed) (hd : ∀ o, l[q]? = some o → ∀ e ∈ o.after, Region.binds .any e = true → listed.getD e.on false = true) : ∀ (n j : Nat), q - j ≤ n → j < q → listed.getD j false = true := by
  intro n
  induction n with
  | zero => intro j h1 h2; omega
  | succ n ih =>
    intro j h1 h2
    obtain ⟨i, i1, i2, i3⟩ := B.before j h2
    by_cases c : i = q
    · subst c
      have hll := B.lt
      have hoi : l.toArray[i]? = some l[i] := by simp [hll]
      exact waits_listed hoi (hd l[i] (List.getElem?_eq_getElem hll)) i3
    · have hi := ih i (by omega) (by omega)
      have hil : i < l.length := by have := B.lt; omega
      have hoi : l.toArray[i]? = some l[i] := by simp [hil]
      exact waits_listed hoi (fun e he hb => hs.deps i l[i] hoi hi e he hb) i3
end

theorem wanted_take {l : List Oper} {q : Nat} (o : Oper) (t : Array Value) (hg : ∀ g, o.guard = some g → g.1 < q) : Region.wanted o (yielded (l.take q).toArray t) = Region.wanted o (yielded l.toArray t) := by
  unfold Region.wanted
  cases h : o.guard with
  | none => rfl
  | some g =>
    have hlt := hg g h
    have e : yielded (l.take q).toArray t g.1 = yielded l.toArray t g.1 := by
      unfold yielded
      simp [List.getElem?_take, hlt]
    simp only [e]

/-- The number of those ahead of the bar that are still to come. -/
def todo (q : Nat) (listed : Array Bool) : Nat := ((List.range q).filter fun i => !listed.getD i false).length
theorem todo_zero {q : Nat} {listed : Array Bool} (h : todo q listed = 0) : ∀ i, i < q → listed.getD i false = true := by
  intro i hi
  unfold todo at h
  have := List.eq_nil_of_length_eq_zero h
  cases hl : listed.getD i false with
  | true => rfl
  | false =>
    have hm : i ∈ (List.range q).filter fun i => !listed.getD i false := by
      rw [List.mem_filter]; exact ⟨by simpa using hi, by rw [hl]; rfl⟩
    rw [this] at hm; cases hm
theorem filter_set (listed : Array Bool) (i : Nat) (hi : i < listed.size) (hl : listed.getD i false = false) : ∀ (r : List Nat), r.Nodup → i ∈ r → (r.filter fun j => !listed.getD j false).length = (r.filter fun j => !(listed.setIfInBounds i true).getD j false).length + 1 := by
  intro r
  induction r with
  | nil => intro _ h; cases h
  | cons a r ih =>
    intro hn hm
    have hn' := List.nodup_cons.1 hn
    by_cases c : a = i
    · subst c
      have e : (r.filter fun j => !listed.getD j false) = r.filter fun j => !(listed.setIfInBounds a true).getD j false := by
        refine List.filter_congr fun j hj => ?_
        have : j ≠ a := fun e => hn'.1 (e ▸ hj)
        rw [getD_set_ne false (Ne.symm this)]
      rw [List.filter_cons_of_pos (by rw [hl]; rfl), List.filter_cons_of_neg (by simp [hi]), e]
      rfl
    · have hm' : i ∈ r := by
        rcases List.mem_cons.1 hm with h | h
        · exact absurd h.symm c
        · exact h
      have := ih hn'.2 hm'
      have e : (listed.setIfInBounds i true).getD a false = listed.getD a false := getD_set_ne false (Ne.symm c)
      cases hla : listed.getD a false with
      | true => rw [List.filter_cons_of_neg (by rw [hla]; simp), List.filter_cons_of_neg (by rw [e, hla]; simp)]; exact this
      | false => rw [List.filter_cons_of_pos (by rw [hla]; rfl), List.filter_cons_of_pos (by rw [e, hla]; rfl)]; simp only [List.length_cons]; omega
theorem todo_set {q : Nat} {listed : Array Bool} {i : Nat} (hi : i < q) (hs : i < listed.size) (hl : listed.getD i false = false) : todo q listed = todo q (listed.setIfInBounds i true) + 1 :=
  filter_set listed i hs hl _ List.nodup_range (by simpa using hi)

theorem prefix_bar {P : Program} {l : List Oper} {q : Nat} (B : BarOk l q) {C : World → Prop} {Q' : Act → Prop} {Q : Exit → Act → World → Prop} (r : Nat)
    (hK : ∀ (listed : Array Bool) a w, listed.size = l.length → (∀ i, i < l.length → listed.getD i false = decide (i < q)) → C w → Q' a → wpAny P .any l.toArray Q r listed a w) :
    ∀ (n : Nat) (listed L : Array Bool) (a : Act) (w : World), Shut l.toArray listed → (∀ i, q ≤ i → listed.getD i false = false) → todo q listed = n → L.size = q → (∀ i, i < q → L.getD i false = listed.getD i false) → C w →
      wpAnyQ P .any (l.take q).toArray C Q' n L a → wpAny P .any l.toArray Q (n + r) listed a w := by
  intro n
  have hql := B.lt
  induction n with
  | zero =>
    intro listed L a w hs hno ht hL hLe hC h
    rw [Nat.zero_add]
    refine hK listed a w (by simpa using hs.size) (fun i hi => ?_) hC h.2
    by_cases c : i < q
    · rw [todo_zero ht i c]; exact (decide_eq_true c).symm
    · rw [hno i (by omega)]; exact (decide_eq_false c).symm
  | succ n ih =>
    intro listed L a w hs hno ht hL hLe hC h
    have hsz : listed.size = l.length := by simpa using hs.size
    have hsome : ∃ i, i < q ∧ listed.getD i false = false := by
      unfold todo at ht
      cases hf : (List.range q).filter fun i => !listed.getD i false with
      | nil => rw [hf] at ht; simp at ht
      | cons x y =>
        have : x ∈ (List.range q).filter fun i => !listed.getD i false := by rw [hf]; simp
        rw [List.mem_filter] at this
        exact ⟨x, by simpa using this.1, by simpa using this.2⟩
    obtain ⟨j0, hj0, hl0⟩ := hsome
    rw [Nat.succ_add]
    refine ⟨fun h0 => ?_, fun i hi => ?_⟩
    · exfalso
      -- the least that is still to come may come
      have key : ∀ (m j : Nat), j ≤ m → j < q → listed.getD j false = false → Region.ready .any l.toArray listed ≠ [] := by
        intro m
        induction m with
        | zero =>
          intro j hjm hjq hjl hnil
          have hj0 : j = 0 := by omega
          subst hj0
          have hm : 0 ∈ Region.ready .any l.toArray listed := by
            refine mem_ready.2 ⟨by rw [getD_flip (by rw [hsz]; omega) true false]; exact hjl, l[0]'(by omega), by simp, fun e he hb => ?_⟩
            have := B.back 0 _ (List.getElem?_eq_getElem (by omega)) e he hb
            omega
          rw [hnil] at hm; cases hm
        | succ m ihm =>
          intro j hjm hjq hjl hnil
          by_cases hall : ∃ k, k < j ∧ listed.getD k false = false
          · obtain ⟨k, hk, hkl⟩ := hall
            exact ihm k (by omega) (by omega) hkl hnil
          · have hm : j ∈ Region.ready .any l.toArray listed := by
              refine mem_ready.2 ⟨by rw [getD_flip (by rw [hsz]; omega) true false]; exact hjl, l[j]'(by omega), by simp, fun e he hb => ?_⟩
              have := B.back j _ (List.getElem?_eq_getElem (by omega)) e he hb
              cases hx : listed.getD e.on false with
              | true => rfl
              | false => exact absurd ⟨e.on, this, hx⟩ hall
            rw [hnil] at hm; cases hm
      exact key j0 j0 (Nat.le_refl _) hj0 hl0 h0
    · obtain ⟨hil, o, ho, hd⟩ := mem_ready.1 hi
      have hilen : i < l.length := by
        rcases Nat.lt_or_ge i l.length with h | h
        · exact h
        · simp [List.getElem?_eq_none h] at ho
      have hol : l[i]? = some o := by simpa using ho
      have hil' : listed.getD i false = false := by rw [getD_flip (by rw [hsz]; exact hilen) false true]; exact hil
      have hiq : i < q := by
        rcases Nat.lt_trichotomy i q with c | c | c
        · exact c
        · exfalso
          subst c
          have := B.ahead hs (fun o' ho' e he hb => by rw [hol] at ho'; cases ho'; exact hd e he hb) i j0 (by omega) hj0
          rw [hl0] at this; cases this
        · exfalso
          have := B.behind hs i i (Nat.le_refl _) hilen c (fun o' ho' e he hb => by rw [hol] at ho'; cases ho'; exact hd e he hb)
          rw [hno q (Nat.le_refl _)] at this; cases this
      have hop : (l.take q).toArray[i]? = some o := by simp [List.getElem?_take, hiq, hol]
      have hir : i ∈ Region.ready .any (l.take q).toArray L := by
        refine mem_ready.2 ⟨?_, o, hop, fun e he hb => ?_⟩
        · rw [getD_flip (by rw [hL]; exact hiq) true false, hLe i hiq]; exact hil'
        · have := B.back i o hol e he hb
          rw [hLe _ (by omega)]; exact hd e he hb
      have hq := h.2 i hir
      have hwp := wpOp_of_qOp (Q' := Q) (K' := fun a' w' => wpAny P .any l.toArray Q (n + r) (listed.setIfInBounds i true) a' w') hC (fun a' w' hC' hK' => ih (listed.setIfInBounds i true) (L.setIfInBounds i true) a' w' ⟨by simpa using hs.size, ?_⟩ ?_ ?_ (by simpa using hL) ?_ hC' hK') hq
      · unfold wpOp at hwp ⊢
        simp only [hop] at hwp
        simp only [ho]
        rw [wanted_take o a.tmps (fun g hg => B.guard i o hiq hol g hg)] at hwp
        exact hwp
      · intro k ok hk hkl e he hb
        by_cases hki : k = i
        · subst hki
          rw [ho] at hk; cases hk
          exact getD_set_true (hd e he hb)
        · rw [getD_set_ne false (Ne.symm hki)] at hkl
          exact getD_set_true (hs.deps k ok hk hkl e he hb)
      · intro k hk
        rw [getD_set_ne false (by omega)]; exact hno k hk
      · have := todo_set hiq (by rw [hsz]; exact hilen) hil'
        omega
      · intro k hk
        by_cases hki : k = i
        · subst hki
          simp [hL, hsz, hk, hilen]
        · rw [getD_set_ne false (Ne.symm hki), getD_set_ne false (Ne.symm hki)]; exact hLe k hk

/-- The region's law. -/
theorem wp_region_bar {P : Program} {id : Nat} {Q : Exit → Act → World → Prop} {a : Act} {w : World} {l : List Oper} (q : Nat) (o : Oper) (hm : P.follows .mixedOrders = true) (ho : l[q]? = some o) (hok : barOk l q = true) (G : Value → World → Prop)
    (h : wpQuiet P (l.take q).toArray (fun w' => ∃ x : Past w, w' = x.1) (fun a' => ∀ x : Past w, Region.wanted o (yielded l.toArray a'.tmps) = true ∧ gives P G ((execOp a'.eval o).run P x.1) ∧
      ∀ v w'', G v w'' → wpQuiet P l.toArray (fun w' => ∃ y : Past w'', w' = y.1) (fun a3 => ∀ w3, (∃ y : Past w'', w3 = y.1) → Q .normal a3 w3) (l.drop (q + 1)) (a'.put o.dst v)) (l.take q) a) : (Code.region id l.toArray true).wp P Q a w := by
  have B := barOk_spec hok
  have hql := B.lt
  refine wp_region_any hm ?_
  have hfuel : l.toArray.size = q + (l.length - q) := by simp; omega
  rw [hfuel]
  have hun : ∀ (n j : Nat), (Array.replicate n false).getD j false = false := fun n j => by
    simp only [Array.getD_eq_getD_getElem?, Array.getElem?_replicate]; split <;> rfl
  have hlexP := B.lexP
  simp only [Region.lexB, Bool.and_eq_true] at hlexP
  have hq0 := wpAnyQ_lex (P := P) (C := fun w' => ∃ x : Past w, w' = x.1) (md := .any) hlexP.1 (l.take q) 0 (Array.replicate (l.take q).toArray.size false) a (by simp) (by simpa using hlexP.2) h
  have hlen : (l.take q).length = q := by rw [List.length_take]; omega
  rw [hlen] at hq0
  refine prefix_bar B (l.length - q) ?_ q (Array.replicate (q + (l.length - q)) false) (Array.replicate (l.take q).toArray.size false) a _ ⟨by simp; omega, fun i oi _ hli => by rw [hun] at hli; cases hli⟩ (fun i _ => hun _ _) ?_ (by simp; omega) (fun i _ => by rw [hun, hun]) ⟨⟨_, (Below.refl _ _).drew⟩, rfl⟩ hq0
  · intro listed a' w' hsz hcan ⟨x, hx⟩ hQ'
    subst hx
    obtain ⟨hw, hg, hrest⟩ := hQ' x
    obtain ⟨r, hr⟩ : ∃ r, l.length - q = r + 1 := ⟨l.length - q - 1, by omega⟩
    rw [hr]
    have hs : Shut l.toArray listed := ⟨by simpa using hsz, fun i oi hi hli e he hb => by
      have hil : i < l.length := by
        rcases Nat.lt_or_ge i l.length with h | h
        · exact h
        · simp [List.getElem?_eq_none h] at hi
      rw [hcan i hil] at hli
      have := B.back i oi (by simpa using hi) e he hb
      have h1 := of_decide_eq_true hli
      rw [hcan e.on (by omega)]; exact decide_eq_true (by omega)⟩
    have hqr : q ∈ Region.ready .any l.toArray listed := by
      refine mem_ready.2 ⟨by rw [getD_flip (by rw [hsz]; exact hql) true false, hcan q hql]; simp, o, by simpa using ho, fun e he hb => ?_⟩
      have := B.back q o ho e he hb
      rw [hcan e.on (by omega)]; exact decide_eq_true this
    refine ⟨fun h0 => (by rw [h0] at hqr; cases hqr), fun i hi => ?_⟩
    obtain ⟨hil, oi, hoi, hd⟩ := mem_ready.1 hi
    have hilen : i < l.length := by
      rcases Nat.lt_or_ge i l.length with h | h
      · exact h
      · simp [List.getElem?_eq_none h] at hoi
    have hil' : listed.getD i false = false := by rw [getD_flip (by rw [hsz]; exact hilen) false true]; exact hil
    have hiq : i = q := by
      rcases Nat.lt_trichotomy i q with c | c | c
      · rw [hcan i hilen, decide_eq_true c] at hil'; cases hil'
      · exact c
      · exfalso
        have := B.behind hs i i (Nat.le_refl _) hilen c (fun o' ho' e he hb => by
          have : l[i]? = some oi := by simpa using hoi
          rw [this] at ho'; cases ho'; exact hd e he hb)
        rw [hcan q hql] at this; simp at this
    subst hiq
    have hoo : oi = o := by
      have : l[i]? = some oi := by simpa using hoi
      rw [this] at ho; cases ho; rfl
    subst hoo
    have hcanon : listed.setIfInBounds i true = Array.replicate (i + 1) true ++ Array.replicate (l.length - (i + 1)) false := by
      apply Array.ext_getElem?
      intro k
      rw [Array.getElem?_setIfInBounds, Array.getElem?_append, Array.getElem?_replicate, Array.getElem?_replicate]
      simp only [Array.size_replicate]
      have hget : k < l.length → listed[k]? = some (decide (k < i)) := fun hk => by
        have := hcan k hk
        rw [Array.getD_eq_getD_getElem?, Array.getElem?_eq_getElem (by omega)] at this
        rw [Array.getElem?_eq_getElem (by omega)]; simpa using this
      by_cases c1 : i = k
      · subst c1
        rw [if_pos rfl, if_pos (by omega), if_pos (by omega), if_pos (by omega)]
      · rw [if_neg c1]
        by_cases c2 : k < i + 1
        · rw [if_pos c2, if_pos c2, hget (by omega)]
          congr 1; exact decide_eq_true (by omega)
        · rw [if_neg c2]
          by_cases c3 : k < l.length
          · rw [hget c3, if_pos (by omega)]
            congr 1; exact decide_eq_false (by omega)
          · rw [if_neg (by omega), Array.getElem?_eq_none (by omega)]
    unfold wpOp
    simp only [hoi]
    rw [if_pos hw]
    refine .inl ?_
    unfold Oper.wp
    refine upon_of_gives hg fun v w'' hv => ?_
    have hsuf := hrest v w'' hv
    rw [hcanon]
    have hdl : (l.drop (i + 1)).length = r := by rw [List.length_drop]; omega
    have hq2 := wpAnyQ_lex (P := P) (C := fun w' => ∃ y : Past w'', w' = y.1) (md := .any) B.sel (l.drop (i + 1)) (i + 1) (Array.replicate (i + 1) true ++ Array.replicate (l.length - (i + 1)) false) _ (fun j => by simp [List.getElem?_drop]) B.lexS hsuf
    rw [hdl] at hq2
    exact wpAny_of_quiet (C := fun w' => ∃ y : Past w'', w' = y.1) (fun a3 w3 hw3 h3 => h3 w3 hw3) r _ _ _ ⟨⟨_, Below.refl _ _⟩, rfl⟩ hq2
  · unfold todo
    rw [List.filter_eq_self.2 (fun i _ => by rw [hun]; rfl), List.length_range]
end Go.Proofs.Ytibmldgbimjgfaa
