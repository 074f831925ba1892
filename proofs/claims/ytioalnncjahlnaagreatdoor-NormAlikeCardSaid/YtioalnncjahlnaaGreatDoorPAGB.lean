/- Terms that may be, as terms and as lists of parts; the normal form of one that may be may be. No program. No conditions. Terms that say the same have the same normal form. No program. No conditions. Terms whose parts are numbered: the numbers hinder no rule; the normal form's parts bear numbers of parts that were there, each once. No program. No conditions. A row of cells that is appended to, round by round: where it lies, and what turns of memory leave it as it is: for any kind of element. Program-free. No conditions. Appends to a row of the call's own, of a slice whose cells are known, elements of any size. No function of the program. No conditions. The contracts of the document's own answers of layer 8: bad, read, Tree, Check, End, May. No conditions but sizes, and that the slice's cells read as parts. Slices that read as lists of integers of one kind (uint8, uint64 ..). No function of the program. No conditions. The contracts of the document's own answers of layer 8: Tree, Check, End, May, Kids, Depth, Atoms, Same. No conditions but sizes, and that the slices' cells read as parts, as places. Terms in each other and beside each other: which is one too many, and where it stands. No program. No conditions. Slices that read as lists of parts: five cells each. No function of the program. No conditions. -/
import Derived.Test.YtioalnncjahlnaaGreatDoorPAGA
import Derived.Test.YtioalnncjahlnaaGreatDoorPAMA
import Derived.Laws.AppendOwn
import Derived.Laws.OwnMore
import Derived.Test.YtioalnncjahlnaaGreatDoorRows
import Derived.LoopTactic
import Derived.Deep.LoopGhost
import Derived.WalkMore
import Derived.ScopeJumps
import Derived.Deep.DeepCutAuto
import Derived.Outline
import Derived.BigRegion
import Derived.Laws.IdiomStrings
namespace Go.Proofs.YtioalnncjahlnaaGreatDoor

/-- Terms that may be, at a depth, in a part of a kind. -/
def Fst.fit : Fst → Nat → Nat → Prop
  | .nil, _, _ => True
  | .cons x K N, deep, ink => badP { x with kids := K.len } = false ∧ (ink = 2 → x.kind = 0) ∧ deep ≤ 8 ∧ K.fit (deep + 1) x.kind ∧ N.fit deep ink
theorem rd_fit : ∀ (F : Fst) (m : Nat) (l : List Prt) (o deep ink : Nat), F.size ≤ m → (∀ i, i < F.size → l[o + i]? = F.flat[i]?) → o + F.size ≤ 64 → F.fit deep ink → rdS m l o deep ink F.len = .ok (o + F.size)
  | .nil, m, l, o, deep, ink, _, _, _, _ => by rw [Fst.len, rd_zero]; rfl
  | .cons x K N, m, l, o, deep, ink, hm, hl, h64, ⟨h1, h2, h3, h4, h5⟩ => by
    simp only [Fst.size] at hm hl h64
    obtain ⟨m, rfl⟩ : ∃ k, m = k + 1 := ⟨m - 1, by omega⟩
    have h0 : l[o]? = some { x with kids := (K.len : Int) } := by
      have := hl 0 (by omega)
      rw [Nat.add_zero] at this
      rw [this]; rfl
    have hlt := (List.getElem?_eq_some_iff.1 h0).1
    have hd : l.getD o ⟨0, 0, 0, 0, 0⟩ = { x with kids := (K.len : Int) } := by rw [List.getD_eq_getElem?_getD, h0]; rfl
    have hst : stopS l o deep ink = none := by
      rw [stop_deep hlt (by
        rw [hd]
        rintro (c | c | ⟨c, c2⟩)
        · omega
        · rw [h1] at c; cases c
        · exact c2 (h2 c))]
      exact if_neg (by omega)
    have hK := rd_fit K m l (o + 1) (deep + 1) x.kind (by omega) (fun i hi => by
      have := hl (1 + i) (by omega)
      rw [show o + 1 + i = o + (1 + i) by omega, this, Fst.flat, Nat.add_comm 1 i, List.getElem?_cons_succ, List.getElem?_append_left (by rw [flat_len]; exact hi)]) (by omega) h4
    have hN := rd_fit N m l (o + 1 + K.size) deep ink (by omega) (fun i hi => by
      have := hl (1 + K.size + i) (by omega)
      rw [show o + 1 + K.size + i = o + (1 + K.size + i) by omega, this, Fst.flat, show 1 + K.size + i = (K.size + i) + 1 by omega, List.getElem?_cons_succ, List.getElem?_append_right (by rw [flat_len]; omega), flat_len, Nat.add_sub_cancel_left]) (by omega) h5
    rw [Fst.len, rd_cons, hst]
    simp only [hd, Int.toNat_natCast, hK, hN, Fst.size]
    congr 1; omega
theorem tree_fit {F : Fst} (h1 : F.len = 1) (h2 : F.size ≤ 64) (h3 : F.fit 1 0) : treeS F.flat = (0, 0) := by
  have h := rd_fit F (F.flat.length + 1) F.flat 0 1 0 (by rw [flat_len]; omega) (fun i _ => by rw [Nat.zero_add]) (by omega) h3
  unfold treeS
  rw [h1] at h
  rw [h, flat_len]
  simp
theorem badP_kind {x : Prt} (h : badP x = false) : x.kind ≤ 4 := by
  unfold badP at h
  split at h
  · omega
  · have := of_decide_eq_false h; omega
theorem rd_unflat : ∀ (m : Nat) (l : List Prt) (p deep ink n e : Nat), rdS m l p deep ink n = .ok e → ∃ F : Fst, F.kok ∧ F.len = n ∧ F.fit deep ink ∧ e = p + F.size ∧ ∀ i, i < F.size → l[p + i]? = F.flat[i]?
  | m, l, p, deep, ink, 0, e, h => by
    rw [rd_zero] at h; cases h
    exact ⟨.nil, trivial, rfl, trivial, rfl, fun i hi => by simp [Fst.size] at hi⟩
  | 0, l, p, deep, ink, n + 1, e, h => by cases h
  | m + 1, l, p, deep, ink, n + 1, e, h => by
    rw [rd_cons] at h
    cases hst : stopS l p deep ink with
    | some x => rw [hst] at h; cases h
    | none =>
      rw [hst] at h
      simp only at h
      obtain ⟨s1, s2, s3, s4, s5⟩ := stop_none hst
      cases hk : rdS m l (p + 1) (deep + 1) (l.getD p ⟨0, 0, 0, 0, 0⟩).kind (l.getD p ⟨0, 0, 0, 0, 0⟩).kids.toNat with
      | error x => rw [hk] at h; cases h
      | ok q =>
        rw [hk] at h
        simp only at h
        obtain ⟨K, k1, k2, k3, k4, k5⟩ := rd_unflat m l _ _ _ _ _ hk
        obtain ⟨N, n1, n2, n3, n4, n5⟩ := rd_unflat m l _ _ _ _ _ h
        have hx : l[p]? = some (l.getD p ⟨0, 0, 0, 0, 0⟩) := by
          rw [List.getD_eq_getElem?_getD, List.getElem?_eq_getElem s1]; rfl
        generalize l.getD p ⟨0, 0, 0, 0, 0⟩ = x at *
        have hk0 := (bad_kids s3).1
        have e1 : ({ x with kids := (K.len : Int) } : Prt) = x := by
          obtain ⟨a, b, c, d, f⟩ := x
          simp only at k2 hk0 ⊢
          rw [k2]; congr 1; omega
        refine ⟨.cons { x with kids := 0 } K N, ⟨(badP_kind s3 : x.kind ≤ 4), rfl, k1, n1⟩, by simp only [Fst.len, n2], ⟨?_, s4, s5, k3, n3⟩, by simp only [Fst.size]; omega, fun i hi => ?_⟩
        · exact (congrArg badP e1).trans s3
        · simp only [Fst.size] at hi
          have e2 : (Fst.cons { x with kids := 0 } K N).flat = x :: (K.flat ++ N.flat) := by
            simp only [Fst.flat]
            exact congrArg (· :: _) e1
          rw [e2]
          match i with
          | 0 => exact hx
          | i + 1 =>
            rw [List.getElem?_cons_succ]
            by_cases c : i < K.size
            · rw [List.getElem?_append_left (by rw [flat_len]; exact c), ← k5 i c]
              congr 1; omega
            · rw [List.getElem?_append_right (by rw [flat_len]; omega), flat_len, ← n5 (i - K.size) (by omega)]
              congr 1; omega
/-- Parts that may be are a term that may be. -/
theorem fit_tree {l : List Prt} (h : (treeS l).2 = 0) : ∃ F : Fst, F.kok ∧ F.len = 1 ∧ l = F.flat ∧ F.fit 1 0 ∧ F.size ≤ 64 := by
  obtain ⟨F, h1, h2, h3, h4, h5⟩ := rd_unflat _ _ _ _ _ _ _ (tree_fine h)
  have e : l = F.flat := by
    apply List.ext_getElem?
    intro i
    by_cases c : i < F.size
    · rw [← h5 i c, Nat.zero_add]
    · rw [List.getElem?_eq_none (by omega), List.getElem?_eq_none (by rw [flat_len]; omega)]
  refine ⟨F, h1, h2, e, h3, ?_⟩
  by_cases c : F.size ≤ 64
  · exact c
  · have := (tree_part h (i := 64) (by omega)).2; omega
def FitT (t : Tm) (deep ink : Nat) : Prop := badP { t.1 with kids := t.2.len } = false ∧ (ink = 2 → t.1.kind = 0) ∧ deep ≤ 8 ∧ t.2.fit (deep + 1) t.1.kind
theorem fit_all : ∀ (F : Fst) (deep ink : Nat), F.fit deep ink ↔ ∀ t ∈ toL F, FitT t deep ink
  | .nil, _, _ => by simp [Fst.fit, toL]
  | .cons x K N, deep, ink => by
    rw [toL, List.forall_mem_cons, ← fit_all N]
    simp only [Fst.fit, FitT, and_assoc]
theorem fit_of {l : List Tm} {deep ink : Nat} (h : ∀ t ∈ l, FitT t deep ink) : (ofL l).fit deep ink := by rw [fit_all, to_of]; exact h
theorem fit_up : ∀ (F : Fst) (deep deep' ink : Nat), F.fit deep ink → deep' ≤ deep → F.fit deep' ink
  | .nil, _, _, _, _, _ => trivial
  | .cons x K N, deep, deep', ink, ⟨h1, h2, h3, h4, h5⟩, hd => ⟨h1, h2, by omega, fit_up K _ _ _ h4 (by omega), fit_up N _ _ _ h5 hd⟩
theorem fitT_up {t : Tm} {deep deep' ink ink' : Nat} (h : FitT t deep ink) (hd : deep' ≤ deep) (hi : ink' = 2 → t.1.kind = 0) : FitT t deep' ink' :=
  ⟨h.1, hi, by have := h.2.2.1; omega, fit_up _ _ _ _ h.2.2.2 (by omega)⟩
theorem badP_len {x : Prt} {a b : Nat} (h : badP { x with kids := (a : Int) } = false) (hk : x.kind ≠ 0) (h1 : 1 ≤ b) (h2 : b ≤ 16) : badP { x with kids := (b : Int) } = false := by
  unfold badP at h ⊢
  simp only at h ⊢
  rw [if_neg hk] at h ⊢
  have := of_decide_eq_false h
  exact decide_eq_false (by omega)
theorem badP_kids {x : Prt} {a : Nat} (h : badP { x with kids := (a : Int) } = false) : (x.kind = 0 → a = 0) ∧ (x.kind ≠ 0 → 1 ≤ a ∧ a ≤ 16) := by
  unfold badP at h
  simp only at h
  constructor
  · intro hk
    rw [if_pos hk] at h
    have := of_decide_eq_false h
    omega
  · intro hk
    rw [if_neg hk] at h
    have := of_decide_eq_false h
    omega
theorem flatG_len (kind : Nat) : ∀ (l : List Tm) (n : Nat), (∀ t ∈ l, t.1.kind = kind → 1 ≤ t.2.len) → l.length ≤ (flatG kind n l).length ∧ (l.length ≤ n → n ≤ 16 → n - l.length + (flatG kind n l).length ≤ 16)
  | [], n, _ => ⟨Nat.le_refl _, fun _ h => by simp [flatG]; omega⟩
  | t :: l, n, h => by
    rw [flatG]
    split
    · rename_i c
      have h1 := h t (by simp) c.1
      have ih := flatG_len kind l (n + t.2.len - 1) (fun u hu => h u (List.mem_cons_of_mem _ hu))
      simp only [List.length_append, List.length_cons, toL_len]
      refine ⟨by omega, fun a b => ?_⟩
      have := ih.2 (by omega) (by omega)
      omega
    · have ih := flatG_len kind l n (fun u hu => h u (List.mem_cons_of_mem _ hu))
      simp only [List.length_cons]
      refine ⟨by omega, fun a b => ?_⟩
      have := ih.2 (by omega) b
      omega
theorem onceG_pos : ∀ (l : List Tm), 1 ≤ l.length → 1 ≤ (onceG [] l).length
  | [], h => by simp at h
  | t :: l, _ => by
    rw [onceG, if_neg (by simp)]
    simp
/-- A rule keeps what may be. -/
theorem oneT_fit {t u : Tm} {deep ink : Nat} (h : oneT t = some u) (hf : FitT t deep ink) : FitT u deep ink := by
  obtain ⟨h1, h2, h3, h4⟩ := hf
  have hk := badP_kids h1
  have hall := (fit_all _ _ _).1 h4
  have key : ∀ l : List Tm, t.1.kind ≠ 0 → 1 ≤ l.length → l.length ≤ 16 → (∀ v ∈ l, FitT v (deep + 1) t.1.kind) → FitT (t.1, ofL l) deep ink := fun l k0 a b c =>
    ⟨by simp only [ofL_len]; exact badP_len h1 k0 a b, h2, h3, fit_of c⟩
  rcases oneT_cases h with h | ⟨hk2, _, rfl⟩ | ⟨hk2, _, rfl⟩ | ⟨hk2, _, rfl⟩
  · have hu := hall u (by rw [h]; simp)
    have hlen : t.2.len = 1 := by rw [← toL_len, h]; rfl
    exact fitT_up hu (by omega) fun c => absurd (hk.1 (h2 c)) (by omega)
  · have k0 : t.1.kind ≠ 0 := by omega
    have hn := hk.2 k0
    rw [← toL_len] at hn
    have hl := flatG_len t.1.kind (toL t.2) (toL t.2).length (fun v hv e => ((badP_kids (hall v hv).1).2 (by omega)).1)
    refine key _ k0 (by omega) (by have := hl.2 (Nat.le_refl _) hn.2; omega) fun v hv => ?_
    rcases flatG_mem _ _ _ _ hv with hv | ⟨s, hs, e, hv⟩
    · exact hall v hv
    · have := (fit_all _ _ _).1 (hall s hs).2.2.2 v hv
      exact fitT_up this (by omega) (by omega)
  · have k0 : t.1.kind ≠ 0 := by omega
    have hn := hk.2 k0
    rw [← toL_len] at hn
    exact key _ k0 (onceG_pos _ hn.1) (by have := (onceG_siz (toL t.2) []).2; omega) fun v hv => hall v (onceG_mem _ _ _ hv)
  · have k0 : t.1.kind ≠ 0 := by omega
    have hn := hk.2 k0
    rw [← toL_len, ← (sortG_siz (toL t.2)).2] at hn
    exact key _ k0 hn.1 hn.2 fun v hv => hall v ((sortG_mem _ _).1 hv)
/-- The normal form of what may be may be. -/
theorem plain_fit : ∀ (F : Fst) (deep ink : Nat), F.fit deep ink → (plainF F).fit deep ink
  | .nil, _, _, _ => trivial
  | .cons x K N, deep, ink, ⟨h1, h2, h3, h4, h5⟩ => by
    have hI : FitT (x, plainF K) deep ink := ⟨by simp only [(plain_siz K).2]; exact h1, h2, h3, plain_fit K _ _ h4⟩
    have h := loopT_keep (I := fun t => FitT t deep ink) (fun t u h e => oneT_fit e h) (2 * K.size + 4) (x, plainF K) hI
    exact ⟨h.1, h.2.1, h.2.2.1, h.2.2.2, plain_fit N _ _ h5⟩
theorem plain_tree {F : Fst} (h1 : F.len = 1) (h2 : F.size ≤ 64) (h3 : F.fit 1 0) : treeS (plainF F).flat = (0, 0) :=
  tree_fit ((plain_siz F).2.trans h1) (Nat.le_trans (plain_siz F).1 h2) (plain_fit F 1 0 h3)
end Go.Proofs.YtioalnncjahlnaaGreatDoor

namespace Go.Proofs.YtioalnncjahlnaaGreatDoor

theorem loop_eq : ∀ (m m' : Nat) (t : Tm), mu t ≤ m → mu t ≤ m' → loopT m t = loopT m' t
  | 0, _, t, h, _ => by have := mu_le t; simp only [sizT] at this; omega
  | _, 0, t, _, h => by have := mu_le t; simp only [sizT] at this; omega
  | m + 1, m' + 1, t, h, h' => by
    rw [loopT, loopT]
    cases h1 : oneT t with
    | none => rfl
    | some u => exact loop_eq m m' u (by have := (oneT_siz h1).2; omega) (by have := (oneT_siz h1).2; omega)
/-- What a term becomes whose children are plain. -/
def nfT (t : Tm) : Tm := loopT (mu t) t
theorem nf_none {t : Tm} (h : oneT t = none) : nfT t = t := loopT_fix h _
theorem nf_some {t u : Tm} (h : oneT t = some u) : nfT t = nfT u := by
  have hm := (oneT_siz h).2
  unfold nfT
  obtain ⟨m, hm2⟩ : ∃ m, mu t = m + 1 := ⟨mu t - 1, by omega⟩
  rw [hm2, loopT, h]
  exact loop_eq _ _ u (by omega) (Nat.le_refl _)
theorem plain_cons (x : Prt) (K N : Fst) : plainF (.cons x K N) = .cons (nfT (x, plainF K)).1 (nfT (x, plainF K)).2 (plainF N) := by
  rw [plainF]
  have : loopT (2 * K.size + 4) (x, plainF K) = nfT (x, plainF K) := by
    refine loop_eq _ _ _ ?_ (Nat.le_refl _)
    have h1 := (mu_le (x, plainF K)).2
    have h2 := (plain_siz K).1
    simp only [sizT] at h1; omega
  rw [this]
theorem nf_end (t : Tm) : oneT (nfT t) = none := loopT_end _ _ (Nat.le_refl _)
/-! What the rules leave alone. -/
theorem flatG_id {k : Nat} : ∀ (l : List Tm) (n : Nat), (∀ v ∈ l, v.1.kind ≠ k) → flatG k n l = l
  | [], _, _ => rfl
  | t :: l, n, h => by
    rw [flatG, if_neg (fun c => h t (by simp) c.1), flatG_id l n fun v hv => h v (List.mem_cons_of_mem _ hv)]
theorem flatG_grow {k : Nat} : ∀ (l : List Tm) (n : Nat), (∀ v ∈ l, v.1.kind = k → 2 ≤ v.2.len ∧ n + v.2.len ≤ 17) → (∃ v ∈ l, v.1.kind = k) → l.length < (flatG k n l).length
  | [], _, _, ⟨v, hv, _⟩ => by cases hv
  | t :: l, n, h, hex => by
    rw [flatG]
    by_cases c : t.1.kind = k
    · have h2 := h t (by simp) c
      rw [if_pos ⟨c, h2.2⟩]
      have := (flatG_len k l (n + t.2.len - 1) fun v hv e => by have := (h v (List.mem_cons_of_mem _ hv) e).1; omega).1
      simp only [List.length_append, List.length_cons, toL_len]; omega
    · rw [if_neg (fun d => c d.1)]
      have := flatG_grow l n (fun v hv => h v (List.mem_cons_of_mem _ hv)) (by
        obtain ⟨v, hv, e⟩ := hex
        rcases List.mem_cons.1 hv with rfl | hv
        · exact absurd e c
        · exact ⟨v, hv, e⟩)
      simp only [List.length_cons]; omega
theorem onceG_sub : ∀ (l : List Tm) (s : List (List UInt8)), (onceG s l).Sublist l
  | [], _ => List.Sublist.refl _
  | t :: l, s => by
    rw [onceG]
    split
    · exact (onceG_sub l s).cons _
    · exact (onceG_sub l _).cons_cons _
theorem onceG_text : ∀ (l : List Tm) (s : List (List UInt8)) (t : Tm), t ∈ l → txT t ∈ s ∨ ∃ u ∈ onceG s l, txT u = txT t
  | [], _, _, h => by cases h
  | v :: l, s, t, h => by
    rw [onceG]
    by_cases c : s.contains (txT v) = true
    · rw [if_pos c]
      rcases List.mem_cons.1 h with rfl | h
      · exact .inl (by simpa using c)
      · exact onceG_text l s t h
    · rw [if_neg c]
      rcases List.mem_cons.1 h with rfl | h
      · exact .inr ⟨t, by simp, rfl⟩
      · rcases onceG_text l (txT v :: s) t h with e | ⟨u, hu, e⟩
        · rcases List.mem_cons.1 e with e | e
          · exact .inr ⟨v, by simp, e.symm⟩
          · exact .inl e
        · exact .inr ⟨u, List.mem_cons_of_mem _ hu, e⟩
theorem onceG_new : ∀ (l : List Tm) (s : List (List UInt8)), (∀ u ∈ onceG s l, txT u ∉ s) ∧ ((onceG s l).map txT).Nodup
  | [], _ => ⟨fun u hu => (by cases hu), List.nodup_nil⟩
  | v :: l, s => by
    rw [onceG]
    by_cases c : s.contains (txT v) = true
    · rw [if_pos c]; exact onceG_new l s
    · rw [if_neg c]
      obtain ⟨h1, h2⟩ := onceG_new l (txT v :: s)
      refine ⟨fun u hu => ?_, ?_⟩
      · rcases List.mem_cons.1 hu with rfl | hu
        · simpa using c
        · exact fun d => h1 u hu (List.mem_cons_of_mem _ d)
      · rw [List.map_cons, List.nodup_cons]
        refine ⟨fun d => ?_, h2⟩
        obtain ⟨u, hu, e⟩ := List.mem_map.1 d
        exact h1 u hu (by rw [e]; simp)
theorem onceG_keep : ∀ (l : List Tm) (s : List (List UInt8)), (∀ u ∈ l, txT u ∉ s) → (l.map txT).Nodup → onceG s l = l
  | [], _, _, _ => rfl
  | v :: l, s, h, hn => by
    rw [List.map_cons, List.nodup_cons] at hn
    rw [onceG, if_neg (by simpa using h v (by simp)), onceG_keep l (txT v :: s) (fun u hu d => ?_) hn.2]
    rcases List.mem_cons.1 d with e | e
    · exact hn.1 (by rw [← e]; exact List.mem_map.2 ⟨u, hu, rfl⟩)
    · exact h u (List.mem_cons_of_mem _ hu) e
theorem insG_perm (t : Tm) : ∀ l : List Tm, (insG t l).Perm (t :: l)
  | [] => List.Perm.refl _
  | u :: l => by
    rw [insG]
    split
    · exact List.Perm.refl _
    · exact ((insG_perm t l).cons u).trans (List.Perm.swap t u l)
theorem sort_fold_perm : ∀ (l a : List Tm), (l.foldl (fun a t => insG t a) a).Perm (l ++ a)
  | [], a => List.Perm.refl _
  | t :: l, a => by
    rw [List.foldl_cons]
    refine (sort_fold_perm l (insG t a)).trans (((insG_perm t a).append_left l).trans ?_)
    exact List.perm_middle
theorem sortG_perm (l : List Tm) : (sortG l).Perm l := by
  have := sort_fold_perm l []
  rwa [List.append_nil] at this
/-- Texts tell these terms apart. -/
def Inj (l : List Tm) : Prop := ∀ u ∈ l, ∀ v ∈ l, txT u = txT v → u = v
theorem sort_same {l r : List Tm} (h : l.Perm r) (hi : Inj l) : sortG l = sortG r := by
  have hp : (sortG l).Perm (sortG r) := (sortG_perm l).trans (h.trans (sortG_perm r).symm)
  refine List.Perm.eq_of_pairwise (le := fun u v => ltB (txT v) (txT u) = false) (fun u v hu hv h1 h2 => ?_) (sortG_srt l) (sortG_srt r) hp
  refine hi u ((sortG_mem l u).1 hu) v (h.mem_iff.2 ((sortG_mem r v).1 hv)) (ltB_total _ _ h2 h1)
theorem map_same : ∀ (l r : List Tm), (∀ u ∈ l, ∀ v ∈ r, txT u = txT v → u = v) → l.map txT = r.map txT → l = r
  | [], [], _, _ => rfl
  | [], _ :: _, _, h => by simp at h
  | _ :: _, [], _, h => by simp at h
  | u :: l, v :: r, hi, h => by
    rw [List.map_cons, List.map_cons, List.cons.injEq] at h
    rw [hi u (by simp) v (by simp) h.1, map_same l r (fun a ha b hb => hi a (List.mem_cons_of_mem _ ha) b (List.mem_cons_of_mem _ hb)) h.2]
theorem sort_fix_of {l : List Tm} (hi : Inj l) (h : l.map txT = (sortG l).map txT) : sortG l = l :=
  (map_same l (sortG l) (fun u hu v hv => hi u hu v ((sortG_mem l v).1 hv)) h).symm
/-! One term by its rules. -/
theorem one_single (w : Prt) (p : Tm) : oneT (w, ofL [p]) = some p := by
  unfold oneT
  simp only [to_of, List.length_singleton, if_true, List.head?_cons]
theorem nf_single {w : Prt} {p : Tm} (h : oneT p = none) : nfT (w, ofL [p]) = p := by rw [nf_some (one_single w p), nf_none h]
/-- No rule but the last may change it. -/
theorem nf_sort {w : Prt} {l : List Tm} (hw : w.kind = 3 ∨ w.kind = 4) (h1 : l.length ≠ 1) (hk : ∀ v ∈ l, v.1.kind ≠ w.kind) (ho : w.kind = 3 → (l.map txT).Nodup) (hi : Inj l) : nfT (w, ofL l) = (w, ofL (sortG l)) := by
  have key : ∀ r : List Tm, r.Perm l → oneT (w, ofL r) = if r.map txT ≠ (sortG r).map txT then some (w, ofL (sortG r)) else none := fun r hr => by
    have hl := hr.length_eq
    unfold oneT
    simp only [to_of]
    rw [if_neg (by omega), flatG_id r _ (fun v hv => hk v (hr.mem_iff.1 hv)), if_neg (fun c => c.2 rfl)]
    have h3 : ¬ (w.kind = 3 ∧ (onceG [] r).length ≠ r.length) := fun c => by
      rw [onceG_keep r [] (by simp) ((hr.map txT).nodup_iff.2 (ho c.1))] at c
      exact c.2 rfl
    rw [if_neg h3]
    by_cases c : r.map txT ≠ (sortG r).map txT
    · rw [if_pos ⟨hw, c⟩, if_pos c]
    · rw [if_neg (fun d => c d.2), if_neg c]
  by_cases c : l.map txT = (sortG l).map txT
  · rw [nf_none (by rw [key l (List.Perm.refl _), if_neg (fun d => d c)]), sort_fix_of hi c]
  · rw [nf_some (by rw [key l (List.Perm.refl _), if_pos c])]
    refine nf_none ?_
    rw [key _ (sortG_perm l), if_neg (by rw [sortG_fix (sortG_srt l)]; exact fun d => d rfl)]
/-- What an any becomes of children that are no any. -/
def anyR (w : Prt) : List Tm → Tm
  | [v] => v
  | l => (w, ofL (sortG l))
theorem anyR_one (w : Prt) (v : Tm) : anyR w [v] = v := rfl
theorem anyR_more {w : Prt} {l : List Tm} (h : l.length ≠ 1) : anyR w l = (w, ofL (sortG l)) := by
  match l, h with
  | [], _ => rfl
  | [_], h => exact absurd rfl h
  | _ :: _ :: _, _ => rfl
theorem nf_any {w : Prt} {l : List Tm} (hw : w.kind = 3) (h1 : l.length ≠ 1) (hk : ∀ v ∈ l, v.1.kind ≠ 3) (hn : ∀ v ∈ l, oneT v = none) (hi : Inj l) : nfT (w, ofL l) = anyR w (onceG [] l) := by
  by_cases c : (onceG [] l).length = l.length
  · have e := (onceG_sub l []).eq_of_length c
    rw [e, anyR_more h1]
    exact nf_sort (.inl hw) h1 (by rw [hw]; exact hk) (fun _ => by rw [← e]; exact (onceG_new l []).2) hi
  · have h2 : oneT (w, ofL l) = some (w, ofL (onceG [] l)) := by
      unfold oneT
      simp only [to_of]
      rw [if_neg h1, hw, flatG_id l _ hk, if_neg (fun d => d.2 rfl), if_pos ⟨rfl, c⟩]
    rw [nf_some h2]
    have hm : ∀ v ∈ onceG [] l, v ∈ l := fun v hv => onceG_mem _ _ _ hv
    by_cases c1 : (onceG [] l).length = 1
    · obtain ⟨v, hv⟩ := List.length_eq_one_iff.1 c1
      rw [hv, anyR_one]
      exact nf_single (hn v (hm v (by rw [hv]; simp)))
    · rw [anyR_more c1]
      exact nf_sort (.inl hw) c1 (fun v hv => by rw [hw]; exact hk v (hm v hv)) (fun _ => (onceG_new l []).2) (fun u hu v hv => hi u (hm u hu) v (hm v hv))
theorem nf_all {w : Prt} {l : List Tm} (hw : w.kind = 4) (h1 : l.length ≠ 1) (hk : ∀ v ∈ l, v.1.kind ≠ 4) (hi : Inj l) : nfT (w, ofL l) = (w, ofL (sortG l)) :=
  nf_sort (.inr hw) h1 (by rw [hw]; exact hk) (fun c => by omega) hi
theorem once_iff {l : List Tm} (hi : Inj l) (u : Tm) : u ∈ onceG [] l ↔ u ∈ l := by
  refine ⟨onceG_mem _ _ _, fun h => ?_⟩
  rcases onceG_text l [] u h with e | ⟨v, hv, e⟩
  · cases e
  · rw [← hi v (onceG_mem _ _ _ hv) u h e]; exact hv
theorem once_perm {l r : List Tm} (hi : Inj l) (hj : Inj r) (h : ∀ u, u ∈ l ↔ u ∈ r) : (onceG [] l).Perm (onceG [] r) := by
  have nd : ∀ l : List Tm, (onceG [] l).Nodup := fun l => List.Pairwise.of_map txT (fun a b h e => h (by rw [e])) (onceG_new l []).2
  exact (List.perm_ext_iff_of_nodup (nd l) (nd r)).2 fun u => by rw [once_iff hi, once_iff hj, h u]
theorem anyR_perm {w : Prt} {l r : List Tm} (h : l.Perm r) (hi : Inj l) : anyR w l = anyR w r := by
  have hl := h.length_eq
  by_cases c : l.length = 1
  · obtain ⟨v, rfl⟩ := List.length_eq_one_iff.1 c
    obtain ⟨u, rfl⟩ := List.length_eq_one_iff.1 (hl.symm.trans c)
    have := List.perm_singleton.1 h.symm
    simp at this
    rw [this]
  · rw [anyR_more c, anyR_more (by omega), sort_same h hi]
/-- A plain term that is not wide. -/
structure Pl (t : Tm) : Prop where
  one : oneT t = none
  kids : ∀ v ∈ toL t.2, oneT v = none
  pos : t.1.kind ≠ 0 → 1 ≤ t.2.len
  kpos : ∀ v ∈ toL t.2, v.1.kind ≠ 0 → 1 ≤ v.2.len
  wide : t.2.len ≤ 7
  kwide : ∀ v ∈ toL t.2, v.2.len ≤ 7
theorem one_len {t : Tm} (h : oneT t = none) : t.2.len ≠ 1 := fun c => by
  unfold oneT at h
  simp only at h
  rw [← toL_len] at c
  rw [if_pos c] at h
  obtain ⟨v, hv⟩ := List.length_eq_one_iff.1 c
  rw [hv] at h; cases h
theorem one_flat {t : Tm} (h : oneT t = none) (hk : t.1.kind = 1 ∨ t.1.kind = 3 ∨ t.1.kind = 4) : (flatG t.1.kind (toL t.2).length (toL t.2)).length = (toL t.2).length := by
  have hl := one_len h
  rw [← toL_len] at hl
  unfold oneT at h
  simp only at h
  rw [if_neg hl] at h
  by_cases c : (flatG t.1.kind (toL t.2).length (toL t.2)).length = (toL t.2).length
  · exact c
  · rw [if_pos ⟨hk, c⟩] at h; cases h
theorem one_any {t : Tm} (h : oneT t = none) (hk : t.1.kind = 3) : onceG [] (toL t.2) = toL t.2 := by
  have hl := one_len h
  have hf := one_flat h (by omega)
  rw [← toL_len] at hl
  unfold oneT at h
  simp only at h
  rw [if_neg hl, if_neg (fun c => c.2 hf)] at h
  by_cases c : (onceG [] (toL t.2)).length = (toL t.2).length
  · exact (onceG_sub _ _).eq_of_length c
  · rw [if_pos ⟨hk, c⟩] at h; cases h
theorem one_sort {t : Tm} (h : oneT t = none) (hk : t.1.kind = 3 ∨ t.1.kind = 4) : (toL t.2).map txT = (sortG (toL t.2)).map txT := by
  have hl := one_len h
  have hf := one_flat h (by omega)
  have ho : ¬ (t.1.kind = 3 ∧ (onceG [] (toL t.2)).length ≠ (toL t.2).length) := fun c => c.2 (by rw [one_any h c.1])
  rw [← toL_len] at hl
  unfold oneT at h
  simp only at h
  rw [if_neg hl, if_neg (fun c => c.2 hf), if_neg ho] at h
  by_cases c : (toL t.2).map txT = (sortG (toL t.2)).map txT
  · exact c
  · rw [if_pos ⟨hk, c⟩] at h; cases h
theorem Pl.none {t : Tm} (h : Pl t) (hk : t.1.kind = 1 ∨ t.1.kind = 3 ∨ t.1.kind = 4) : ∀ v ∈ toL t.2, v.1.kind ≠ t.1.kind := fun v hv e => by
  have hf := one_flat h.one hk
  have := flatG_grow (k := t.1.kind) (toL t.2) (toL t.2).length (fun u hu e => by
    have h1 := h.kpos u hu (by omega)
    have h2 := one_len (h.kids u hu)
    have h3 := h.kwide u hu
    have h4 := h.wide
    rw [toL_len]; omega) ⟨v, hv, e⟩
  omega
/-- What a child gives to a term of the kind. -/
def unF (k : Nat) (t : Tm) : List Tm := if t.1.kind = k then toL t.2 else [t]
theorem un_pos {k : Nat} {t : Tm} (h : Pl t) (hk : k ≠ 0) : 1 ≤ (unF k t).length ∧ (unF k t).length ≤ 7 ∧ (t.1.kind = k → 2 ≤ (unF k t).length) := by
  unfold unF
  split
  · rename_i c
    rw [toL_len]
    have h1 := h.pos (by omega)
    have h2 := one_len h.one
    have := h.wide
    exact ⟨h1, this, fun _ => by omega⟩
  · rename_i c
    exact ⟨Nat.le_refl _, by simp, fun d => absurd d c⟩
theorem un_kind {k : Nat} {t : Tm} (h : Pl t) (hk : k = 1 ∨ k = 3 ∨ k = 4) : ∀ v ∈ unF k t, v.1.kind ≠ k ∧ oneT v = none := fun v hv => by
  unfold unF at hv
  split at hv
  · rename_i c
    exact ⟨by rw [← c]; exact h.none (by omega) v hv, h.kids v hv⟩
  · rename_i c
    simp at hv
    subst hv
    exact ⟨c, h.one⟩
theorem nf_two {w : Prt} {p q : Tm} (hw : w.kind = 1 ∨ w.kind = 3 ∨ w.kind = 4) (hp : Pl p) (hq : Pl q) : nfT (w, ofL [p, q]) = nfT (w, ofL (unF w.kind p ++ unF w.kind q)) := by
  have h1 := un_pos (k := w.kind) hp (by omega)
  have h2 := un_pos (k := w.kind) hq (by omega)
  have hf : flatG w.kind 2 [p, q] = unF w.kind p ++ unF w.kind q := by
    have hp7 := hp.wide; have hq7 := hq.wide
    unfold unF
    rw [flatG]
    by_cases c : p.1.kind = w.kind
    · rw [if_pos ⟨c, by omega⟩, if_pos c, flatG]
      by_cases d : q.1.kind = w.kind
      · rw [if_pos ⟨d, by omega⟩, if_pos d, flatG, List.append_nil]
      · rw [if_neg (fun e => d e.1), if_neg d, flatG]
    · rw [if_neg (fun e => c e.1), if_neg c, flatG]
      by_cases d : q.1.kind = w.kind
      · rw [if_pos ⟨d, by omega⟩, if_pos d, flatG, List.append_nil]; rfl
      · rw [if_neg (fun e => d e.1), if_neg d, flatG]; rfl
  by_cases c : p.1.kind = w.kind ∨ q.1.kind = w.kind
  · refine nf_some ?_
    unfold oneT
    simp only [to_of]
    have h3 : 2 < (unF w.kind p).length + (unF w.kind q).length := by
      rcases c with c | c
      · have := h1.2.2 c; omega
      · have := h2.2.2 c; omega
    rw [if_neg (by simp), show ([p, q] : List Tm).length = 2 from rfl, hf, if_pos ⟨hw, by rw [List.length_append]; omega⟩]
  · have e1 : unF w.kind p = [p] := if_neg fun d => c (.inl d)
    have e2 : unF w.kind q = [q] := if_neg fun d => c (.inr d)
    rw [e1, e2]; rfl
/-- The children of an any, or an all, the other way round. -/
theorem nf_swap {w : Prt} {p q : Tm} (hw : w.kind = 3 ∨ w.kind = 4) (hp : Pl p) (hq : Pl q) (hi : Inj (unF w.kind p ++ unF w.kind q)) : nfT (w, ofL [p, q]) = nfT (w, ofL [q, p]) := by
  rw [nf_two (by omega) hp hq, nf_two (by omega) hq hp]
  have h1 := un_pos (k := w.kind) hp (by omega)
  have h2 := un_pos (k := w.kind) hq (by omega)
  have hk : ∀ v ∈ unF w.kind p ++ unF w.kind q, v.1.kind ≠ w.kind ∧ oneT v = none := fun v hv => by
    rcases List.mem_append.1 hv with hv | hv
    · exact un_kind hp (by omega) v hv
    · exact un_kind hq (by omega) v hv
  have hperm : (unF w.kind p ++ unF w.kind q).Perm (unF w.kind q ++ unF w.kind p) := List.perm_append_comm
  have hk' : ∀ v ∈ unF w.kind q ++ unF w.kind p, v.1.kind ≠ w.kind ∧ oneT v = none := fun v hv => hk v (hperm.mem_iff.2 hv)
  have hi' : Inj (unF w.kind q ++ unF w.kind p) := fun u hu v hv => hi u (hperm.mem_iff.2 hu) v (hperm.mem_iff.2 hv)
  have hl : (unF w.kind p ++ unF w.kind q).length ≠ 1 := by rw [List.length_append]; omega
  have hl' : (unF w.kind q ++ unF w.kind p).length ≠ 1 := by rw [List.length_append]; omega
  rcases hw with hw | hw
  · rw [nf_any hw hl (fun v hv => by rw [← hw]; exact (hk v hv).1) (fun v hv => (hk v hv).2) hi, nf_any hw hl' (fun v hv => by rw [← hw]; exact (hk' v hv).1) (fun v hv => (hk' v hv).2) hi']
    exact anyR_perm (once_perm hi hi' fun u => hperm.mem_iff) fun u hu v hv => hi u (onceG_mem _ _ _ hu) v (onceG_mem _ _ _ hv)
  · rw [nf_all hw hl (fun v hv => by rw [← hw]; exact (hk v hv).1) hi, nf_all hw hl' (fun v hv => by rw [← hw]; exact (hk' v hv).1) hi', sort_same hperm hi]
/-- One twice in an any. -/
theorem nf_twice {w : Prt} {p : Tm} (hw : w.kind = 3) (hp : Pl p) (he : p.1.kind = 3 → p.1 = w) (hi : Inj (unF 3 p)) : nfT (w, ofL [p, p]) = p := by
  rw [nf_two (by omega) hp hp, hw]
  have h1 := un_pos (k := 3) hp (by omega)
  have hmem : ∀ u, u ∈ unF 3 p ++ unF 3 p ↔ u ∈ unF 3 p := fun u => by simp
  have hi2 : Inj (unF 3 p ++ unF 3 p) := fun u hu v hv => hi u ((hmem u).1 hu) v ((hmem v).1 hv)
  have hk := un_kind (k := 3) hp (by omega)
  rw [nf_any hw (by rw [List.length_append]; omega) (fun v hv => (hk v ((hmem v).1 hv)).1) (fun v hv => (hk v ((hmem v).1 hv)).2) hi2]
  rw [anyR_perm (once_perm hi2 hi hmem) fun u hu v hv => hi2 u (onceG_mem _ _ _ hu) v (onceG_mem _ _ _ hv)]
  by_cases c : p.1.kind = 3
  · have e : unF 3 p = toL p.2 := if_pos c
    rw [e] at hi ⊢
    have hl := one_len hp.one
    rw [← toL_len] at hl
    rw [one_any hp.one c, anyR_more hl, sort_fix_of hi (one_sort hp.one (.inl c)), of_to, ← he c]
  · have e : unF 3 p = [p] := if_neg c
    rw [e, onceG_keep [p] [] (by simp) (by simp), anyR_one]
/-! Texts tell terms apart. -/
theorem text_inj {F G : Fst} (hf : F.wf) (hg : G.wf) (f1 : F.len = 1) (g1 : G.len = 1) (f8 : F.depth ≤ 8) (g8 : G.depth ≤ 8) (f64 : F.size ≤ 64) (g64 : G.size ≤ 64) (h : textF F = textF G) : F = G := by
  have h0 : okN 0 := ⟨by omega, by omega⟩
  have hp : printF 0 0 F = printF 0 0 G := by unfold printF; rw [h]
  rw [print_text h0 h0 hf, print_text h0 h0 hg] at hp
  have hl := textD_lex h0 h0 hf
  rw [hp, textD_lex h0 h0 hg] at hl
  have hm : ∀ H : Fst, (placeG 0 (tokD 0 0 H)).map noPos = tokD 0 0 H := fun H => by
    rw [place_same]
    unfold tokD
    simp only [List.map_cons, toks_pos]
    rfl
  have d1 := defP_toks (hm F) h0 h0 hf f1
  have d2 := defP_toks (hm G) h0 h0 hg g1
  rw [badI_none F 8 0 f8 (fun _ => by omega)] at d1
  rw [badI_none G 8 0 g8 (fun _ => by omega)] at d2
  have he : placeG 0 (tokD 0 0 G) = placeG 0 (tokD 0 0 F) := by
    injection hl
  rw [he, d1] at d2
  simp only [Except.ok.injEq, Prod.mk.injEq, true_and] at d2
  exact d2
theorem fit_wf : ∀ (F : Fst) (deep ink : Nat), F.kok → F.fit deep ink → F.wf
  | .nil, _, _, _, _ => trivial
  | .cons x K N, deep, ink, ⟨h1, h2, h3, h4⟩, ⟨f1, _, _, f4, f5⟩ => by
    refine ⟨?_, h2, fit_wf K _ _ h3 f4, fit_wf N _ _ h4 f5⟩
    have hz : ((K.len : Nat) : Int) = 0 ↔ K = .nil := by rw [← len_nil]; omega
    unfold badP at f1
    simp only at f1
    by_cases c : x.kind = 0
    · rw [if_pos c] at f1
      have := of_decide_eq_false f1
      exact .inl ⟨c, by omega, by omega, by omega, by omega, hz.1 (by omega)⟩
    · rw [if_neg c] at f1
      have := of_decide_eq_false f1
      exact .inr ⟨by omega, h1, by omega, by omega, by omega, fun e => by have := hz.2 e; omega⟩
end Go.Proofs.YtioalnncjahlnaaGreatDoor

namespace Go.Proofs.YtioalnncjahlnaaGreatDoor

/-- Each part's place is kept with it. -/
def lab : Fst → Nat → Fst
  | .nil, _ => .nil
  | .cons x K N, o => .cons { x with kids := (o : Int) } (lab K (o + 1)) (lab N (o + 1 + K.size))
def bareP (x : Prt) : Prt := { x with kids := 0 }
def bare : Fst → Fst
  | .nil => .nil
  | .cons x K N => .cons (bareP x) (bare K) (bare N)
def bareT (t : Tm) : Tm := (bareP t.1, bare t.2)
theorem bare_len : ∀ F : Fst, (bare F).len = F.len ∧ (bare F).size = F.size
  | .nil => ⟨rfl, rfl⟩
  | .cons x K N => by simp only [bare, Fst.len, Fst.size, bare_len K, bare_len N, and_self]
theorem bare_flat : ∀ F : Fst, (bare F).flat = F.flat
  | .nil => rfl
  | .cons x K N => by simp only [bare, Fst.flat, bare_flat K, bare_flat N, bareP, bare_len K]
theorem bare_lab : ∀ (F : Fst) (o : Nat), F.kok → bare (lab F o) = F
  | .nil, _, _ => rfl
  | .cons x K N, o, ⟨_, h2, h3, h4⟩ => by
    obtain ⟨a, b, c, d, e⟩ := x
    simp only at h2; subst h2
    simp only [lab, bare, bareP, bare_lab K _ h3, bare_lab N _ h4]
theorem bare_kok : ∀ (F : Fst) (deep ink : Nat), F.fit deep ink → (bare F).kok
  | .nil, _, _, _ => trivial
  | .cons x K N, _deep, _ink, ⟨h1, _, _, h4, h5⟩ => ⟨badP_kind (x := { x with kids := (K.len : Int) }) h1, rfl, bare_kok K _ _ h4, bare_kok N _ _ h5⟩
theorem bare_text : ∀ F : Fst, textF (bare F) = textF F
  | .nil => rfl
  | .cons x K N => by simp only [bare, textF, bareP, bare_text K, bare_text N]
theorem bare_toL : ∀ F : Fst, toL (bare F) = (toL F).map bareT
  | .nil => rfl
  | .cons x K N => by simp only [bare, toL, List.map_cons, bare_toL N, bareT]
theorem bare_ofL : ∀ l : List Tm, bare (ofL l) = ofL (l.map bareT)
  | [] => rfl
  | t :: l => by simp only [ofL, bare, List.map_cons, bare_ofL l, bareT]
theorem bare_txT (t : Tm) : txT (bareT t) = txT t := by
  have := bare_text (.cons t.1 t.2 .nil)
  exact this
theorem bare_txs (l : List Tm) : (l.map bareT).map txT = l.map txT := by
  rw [List.map_map]
  exact List.map_congr_left fun t _ => bare_txT t
theorem bare_flatG (kind : Nat) : ∀ (l : List Tm) (n : Nat), flatG kind n (l.map bareT) = (flatG kind n l).map bareT
  | [], _ => rfl
  | t :: l, n => by
    simp only [List.map_cons, flatG, bareT, bare_len]
    have e : (bareP t.1).kind = t.1.kind := rfl
    rw [e]
    split
    · rw [bare_flatG kind l, bare_toL, List.map_append]
    · rw [bare_flatG kind l, List.map_cons]; rfl
theorem bare_onceG : ∀ (l : List Tm) (s : List (List UInt8)), onceG s (l.map bareT) = (onceG s l).map bareT
  | [], _ => rfl
  | t :: l, s => by
    simp only [List.map_cons, onceG, bare_txT]
    split
    · exact bare_onceG l s
    · rw [bare_onceG l, List.map_cons]
theorem bare_insG (t : Tm) : ∀ l : List Tm, insG (bareT t) (l.map bareT) = (insG t l).map bareT
  | [] => rfl
  | u :: l => by
    simp only [List.map_cons, insG, bare_txT]
    split
    · rfl
    · rw [bare_insG t l, List.map_cons]
theorem bare_fold : ∀ (l a : List Tm), (l.map bareT).foldl (fun a t => insG t a) (a.map bareT) = (l.foldl (fun a t => insG t a) a).map bareT
  | [], a => rfl
  | t :: l, a => by
    simp only [List.map_cons, List.foldl_cons, bare_insG]
    exact bare_fold l _
theorem bare_sortG (l : List Tm) : sortG (l.map bareT) = (sortG l).map bareT := bare_fold l []
theorem bare_oneT (t : Tm) : oneT (bareT t) = (oneT t).map bareT := by
  have e1 : toL (bareT t).2 = (toL t.2).map bareT := bare_toL t.2
  have e2 : (bareT t).1.kind = t.1.kind := rfl
  unfold oneT
  simp only [e1, e2, List.length_map, bare_flatG, bare_onceG, bare_sortG, bare_txs]
  split
  · cases toL t.2 <;> rfl
  · split
    · simp only [Option.map_some, bareT, bare_ofL]
    · split
      · simp only [Option.map_some, bareT, bare_ofL]
      · split
        · simp only [Option.map_some, bareT, bare_ofL]
        · rfl
theorem bare_loopT : ∀ (m : Nat) (t : Tm), loopT m (bareT t) = bareT (loopT m t)
  | 0, _ => rfl
  | m + 1, t => by
    rw [loopT, loopT, bare_oneT]
    cases oneT t with
    | none => rfl
    | some u => exact bare_loopT m u
theorem bare_plain : ∀ F : Fst, plainF (bare F) = bare (plainF F)
  | .nil => rfl
  | .cons x K N => by
    have h := bare_loopT (2 * K.size + 4) (x, plainF K)
    simp only [bareT] at h
    simp only [bare, plainF, bare_plain K, bare_plain N, bare_len K, h]
theorem bare_nrm : ∀ F : Fst, Nrm (bare F) ↔ Nrm F
  | .nil => Iff.rfl
  | .cons x K N => by
    have h := bare_oneT (x, K)
    have e : bareT (x, K) = (bareP x, bare K) := rfl
    rw [e] at h
    simp only [bare, Nrm, bare_nrm K, bare_nrm N, h, Option.map_eq_none_iff]
theorem lab_len : ∀ (F : Fst) (o : Nat), (lab F o).len = F.len ∧ (lab F o).size = F.size
  | .nil, _ => ⟨rfl, rfl⟩
  | .cons x K N, o => by simp only [lab, Fst.len, Fst.size, lab_len K, lab_len N, and_self]
theorem lab_flat : ∀ (F : Fst) (o : Nat), (lab F o).flat = F.flat
  | .nil, _ => rfl
  | .cons x K N, o => by simp only [lab, Fst.flat, lab_flat K, lab_flat N, (lab_len K _).1]
theorem lab_fit : ∀ (F : Fst) (o deep ink : Nat), F.fit deep ink → (lab F o).fit deep ink
  | .nil, _, _, _, _ => trivial
  | .cons x K N, o, deep, ink, ⟨h1, h2, h3, h4, h5⟩ => ⟨by simp only [(lab_len K _).1]; exact h1, h2, h3, lab_fit K _ _ _ h4, lab_fit N _ _ _ h5⟩
theorem prsF_get : ∀ (F : Fst) (i : Nat), i < F.size → ∃ x ∈ (prsF F)[i]?, ∃ y ∈ F.flat[i]?, y.kind = x.kind ∧ y.n = x.n ∧ y.g = x.g ∧ y.d = x.d
  | .nil, i, h => by simp [Fst.size] at h
  | .cons x K N, 0, _ => ⟨x, rfl, { x with kids := (K.len : Int) }, rfl, rfl, rfl, rfl, rfl⟩
  | .cons x K N, i + 1, h => by
    simp only [Fst.size] at h
    simp only [prsF, Fst.flat, List.getElem?_cons_succ]
    by_cases c : i < K.size
    · rw [List.getElem?_append_left (by rw [prsF_len]; exact c), List.getElem?_append_left (by rw [flat_len]; exact c)]
      exact prsF_get K i c
    · rw [List.getElem?_append_right (by rw [prsF_len]; omega), List.getElem?_append_right (by rw [flat_len]; omega), flat_len, prsF_len]
      exact prsF_get N _ (by omega)
theorem lab_prs : ∀ (F : Fst) (o i : Nat), i < F.size → ∃ x ∈ (prsF (lab F o))[i]?, x.kids = ((o + i : Nat) : Int)
  | .nil, _, i, h => by simp [Fst.size] at h
  | .cons x K N, o, 0, _ => ⟨{ x with kids := (o : Int) }, rfl, rfl⟩
  | .cons x K N, o, i + 1, h => by
    simp only [Fst.size] at h
    simp only [lab, prsF, List.getElem?_cons_succ]
    have e := (lab_len K (o + 1)).2
    by_cases c : i < K.size
    · rw [List.getElem?_append_left (by rw [prsF_len, e]; exact c)]
      obtain ⟨y, h1, h2⟩ := lab_prs K (o + 1) i c
      exact ⟨y, h1, by rw [h2]; congr 1; omega⟩
    · rw [List.getElem?_append_right (by rw [prsF_len, e]; omega), prsF_len, e]
      obtain ⟨y, h1, h2⟩ := lab_prs N (o + 1 + K.size) (i - K.size) (by omega)
      exact ⟨y, h1, by rw [h2]; congr 1; omega⟩
/-- Where the parts come from. -/
def fromF (F : Fst) : List Nat := (prsF F).map fun x => x.kids.toNat
theorem fromF_len (F : Fst) : (fromF F).length = F.size := by simp only [fromF, List.length_map, prsF_len]
theorem from_lab (F : Fst) (o i : Nat) (h : i < F.size) : (fromF (lab F o)).getD i 0 = o + i := by
  obtain ⟨x, h1, h2⟩ := lab_prs F o i h
  unfold fromF
  rw [List.getD_eq_getElem?_getD, List.getElem?_map, h1, Option.map_some, h2]
  simp only [Option.getD_some, Int.toNat_natCast]
/-- A part of the normal form comes from one of its kind. -/
theorem from_plain (F : Fst) (i : Nat) (h : i < (plainF (lab F 0)).size) : (fromF (plainF (lab F 0))).getD i 0 < F.size ∧
    ∃ y ∈ (plainF (lab F 0)).flat[i]?, ∃ z ∈ F.flat[(fromF (plainF (lab F 0))).getD i 0]?, y.kind = z.kind ∧ y.n = z.n ∧ y.g = z.g ∧ y.d = z.d := by
  obtain ⟨x, hx, y, hy, e1, e2, e3, e4⟩ := prsF_get _ i h
  have hm : x ∈ prsF (lab F 0) := by
    have h1 := plain_cnt x (lab F 0)
    have h2 : 0 < (prsF (plainF (lab F 0))).count x := List.count_pos_iff.2 (List.mem_of_getElem? hx)
    exact List.count_pos_iff.1 (by omega)
  obtain ⟨j, hj⟩ := List.getElem?_of_mem hm
  have hjl : j < F.size := by
    have := (List.getElem?_eq_some_iff.1 hj).1
    rw [prsF_len, (lab_len F 0).2] at this; exact this
  obtain ⟨x', h1, h2⟩ := lab_prs F 0 j hjl
  rw [hj] at h1; cases h1
  have e : (fromF (plainF (lab F 0))).getD i 0 = j := by
    unfold fromF
    rw [List.getD_eq_getElem?_getD, List.getElem?_map, hx, Option.map_some, h2]
    simp only [Option.getD_some, Int.toNat_natCast, Nat.zero_add]
  rw [e]
  obtain ⟨x', h3, z, hz, f1, f2, f3, f4⟩ := prsF_get (lab F 0) j (by rw [(lab_len F 0).2]; exact hjl)
  rw [hj] at h3; cases h3
  rw [lab_flat] at hz
  exact ⟨hjl, y, hy, z, hz, by rw [e1, f1], by rw [e2, f2], by rw [e3, f3], by rw [e4, f4]⟩
theorem count_two {α} [DecidableEq α] {l : List α} {i j : Nat} {x : α} (hij : j < i) (hi : l[i]? = some x) (hj : l[j]? = some x) : 2 ≤ l.count x := by
  rw [← List.take_append_drop (j + 1) l, List.count_append]
  have h1 : x ∈ l.take (j + 1) := List.mem_of_getElem? (i := j) (by rw [List.getElem?_take, if_pos (by omega)]; exact hj)
  have h2 : x ∈ l.drop (j + 1) := List.mem_of_getElem? (i := i - (j + 1)) (by rw [List.getElem?_drop, show j + 1 + (i - (j + 1)) = i by omega]; exact hi)
  have := List.count_pos_iff.2 h1
  have := List.count_pos_iff.2 h2
  omega
/-- No two parts of the normal form come from one. -/
theorem from_once (F : Fst) {i j : Nat} (hij : j < i) (hi : i < (plainF (lab F 0)).size) : (fromF (plainF (lab F 0))).getD i 0 ≠ (fromF (plainF (lab F 0))).getD j 0 := by
  intro he
  obtain ⟨x, hx, _⟩ := prsF_get _ i hi
  obtain ⟨y, hy, _⟩ := prsF_get _ j (by omega : j < (plainF (lab F 0)).size)
  have mem : ∀ x ∈ prsF (plainF (lab F 0)), x ∈ prsF (lab F 0) := fun x hx => by
    have h1 := plain_cnt x (lab F 0)
    have h2 := List.count_pos_iff.2 hx
    exact List.count_pos_iff.1 (by omega)
  obtain ⟨a, ha⟩ := List.getElem?_of_mem (mem x (List.mem_of_getElem? hx))
  obtain ⟨b, hb⟩ := List.getElem?_of_mem (mem y (List.mem_of_getElem? hy))
  have lt : ∀ {a : Nat} {x : Prt}, (prsF (lab F 0))[a]? = some x → a < F.size ∧ x.kids = (a : Int) := fun {a x} h => by
    have hl := (List.getElem?_eq_some_iff.1 h).1
    rw [prsF_len, (lab_len F 0).2] at hl
    obtain ⟨x', h1, h2⟩ := lab_prs F 0 a hl
    rw [h] at h1; cases h1
    rw [Nat.zero_add] at h2
    exact ⟨hl, h2⟩
  have hab : a = b := by
    unfold fromF at he
    rw [List.getD_eq_getElem?_getD, List.getD_eq_getElem?_getD, List.getElem?_map, List.getElem?_map, hx, hy] at he
    simp only [Option.map_some, Option.getD_some, (lt ha).2, (lt hb).2, Int.toNat_natCast] at he
    exact he
  subst hab
  have hxy : x = y := by rw [ha] at hb; exact Option.some.inj hb
  subst hxy
  have h2 := count_two hij hx hy
  have h3 := plain_cnt x (lab F 0)
  have h4 : (prsF (lab F 0)).count x ≤ 1 := by
    refine Nat.le_of_not_lt fun c => ?_
    obtain ⟨A, B, hAB⟩ := List.append_of_mem (List.mem_of_getElem? ha)
    rw [hAB, List.count_append, List.count_cons_self] at c
    have : x ∈ A ∨ x ∈ B := by
      by_cases cA : 0 < A.count x
      · exact .inl (List.count_pos_iff.1 cA)
      · exact .inr (List.count_pos_iff.1 (by omega))
    have ex : ∃ i j : Nat, i ≠ j ∧ (prsF (lab F 0))[i]? = some x ∧ (prsF (lab F 0))[j]? = some x := by
      have hA : (prsF (lab F 0))[A.length]? = some x := by rw [hAB, List.getElem?_append_right (Nat.le_refl _), Nat.sub_self]; rfl
      rcases this with hm | hm
      · obtain ⟨k, hk⟩ := List.getElem?_of_mem hm
        have hkl := (List.getElem?_eq_some_iff.1 hk).1
        exact ⟨k, A.length, by omega, by rw [hAB, List.getElem?_append_left hkl]; exact hk, hA⟩
      · obtain ⟨k, hk⟩ := List.getElem?_of_mem hm
        exact ⟨A.length + (k + 1), A.length, by omega, by rw [hAB, List.getElem?_append_right (by omega), Nat.add_sub_cancel_left, List.getElem?_cons_succ]; exact hk, hA⟩
    obtain ⟨i', j', hne, q1, q2⟩ := ex
    have r1 := (lt q1).2; have r2 := (lt q2).2
    omega
  omega
/-- The normal form of a normal form, numbered anew: it, each part from itself. -/
theorem again {F : Fst} (hk : F.kok) : ∃ H : Fst, H.kok ∧ H.flat = (plainF (lab F 0)).flat ∧ plainF (lab H 0) = lab H 0 ∧ H.len = F.len ∧ H = plainF F := by
  have e : bare (plainF (lab F 0)) = plainF F := by rw [← bare_plain, bare_lab F 0 hk]
  have hb : ∀ G : Fst, (∀ x ∈ G.flat, x.kind ≤ 4) → (bare G).kok := by
    intro G
    induction G with
    | nil => intro _; trivial
    | cons x K N ihK ihN =>
      intro h
      simp only [Fst.flat, List.mem_cons, List.mem_append] at h
      exact ⟨h { x with kids := (K.len : Int) } (.inl rfl), rfl, ihK fun y hy => h y (.inr (.inl hy)), ihN fun y hy => h y (.inr (.inr hy))⟩
  have hkok : (plainF F).kok := by
    rw [← e]
    refine hb _ fun x hx => ?_
    obtain ⟨i, hi⟩ := List.getElem?_of_mem hx
    have hlt : i < (plainF (lab F 0)).size := by rw [← flat_len]; exact (List.getElem?_eq_some_iff.1 hi).1
    obtain ⟨_, y, hy, z, hz, e1, _⟩ := from_plain F i hlt
    rw [hi] at hy; cases hy
    rw [e1]
    exact kok_kind F hk z (List.mem_of_getElem? hz)
  refine ⟨plainF F, hkok, by rw [← e, bare_flat], ?_, (plain_siz F).2, rfl⟩
  exact plain_fix _ ((bare_nrm _).1 (by rw [bare_lab _ 0 hkok]; exact plain_nrm F))
end Go.Proofs.YtioalnncjahlnaaGreatDoor

namespace Go.Proofs.YtioalnncjahlnaaGreatDoor
open Go.ChangeShapes Go.WideShapes Go.ChangeAt Go.RowKit
attribute [local irreducible] Go.Calls

theorem own_below {w w' : World} {B : Nat} {e : TypeId} {sz : Nat} {v : Value} {n : Nat} {xs : List Value} (h : w.ownsRow B e sz v n xs) (hb : Below w.heap.size w w') : w'.ownsRow B e sz v n xs := by
  obtain ⟨h1, h2 | ⟨g, cap, cur, h3, h4, h5, h6⟩⟩ := h
  · exact ⟨h1, .inl h2⟩
  · exact ⟨h1, .inr ⟨g, cap, cur, h3, h4, (hb.block g (lt_of_block h5)).trans h5, h6⟩⟩
/-- The block that an append may write lies from the base on. -/
theorem own_block {w : World} {B : Nat} {e : TypeId} {sz : Nat} {v : Value} {n : Nat} {xs : List Value} (h : w.ownsRow B e sz v n xs) {k : Nat} (hk : v.ownBlock = some k) : B ≤ k := by
  obtain ⟨h1, h2 | ⟨g, cap, cur, h3, h4, h5, h6⟩⟩ := h
  · rw [h2.1] at hk; simp [Value.ownBlock] at hk
  · rw [h3] at hk; simp [Value.ownBlock] at hk; omega
theorem own_kept {A B : World} {β sz n : Nat} {e : TypeId} {v : Value} {xs : List Value} (h : A.ownsRow β e sz v n xs) (hk : ∀ k, v.ownBlock = some k → B.heap[k]? = A.heap[k]?) : B.ownsRow β e sz v n xs := by
  obtain ⟨h1, h2 | ⟨g, cap, cur, h3, h4, h5, h6⟩⟩ := h
  · exact ⟨h1, .inl h2⟩
  · exact ⟨h1, .inr ⟨g, cap, cur, h3, h4, (hk g (by rw [h3]; rfl)).trans h5, h6⟩⟩
theorem own_lt {A : World} {β sz n : Nat} {e : TypeId} {v : Value} {xs : List Value} (h : A.ownsRow β e sz v n xs) {k : Nat} (hk : v.ownBlock = some k) : k < A.heap.size := by
  obtain ⟨h1, h2 | ⟨g, cap, cur, h3, h4, h5, h6⟩⟩ := h
  · rw [h2.1] at hk; simp [Value.ownBlock] at hk
  · rw [h3] at hk; simp [Value.ownBlock] at hk; subst hk; exact lt_of_block h5
theorem own_has {A : World} {β sz n : Nat} {e : TypeId} {v : Value} {xs : List Value} (h : A.ownsRow β e sz v n xs) (hv : v ≠ .slice none 0 0) : ∃ k, v.ownBlock = some k := by
  obtain ⟨h1, h2 | ⟨g, cap, cur, h3, h4, h5, h6⟩⟩ := h
  · exact absurd h2.1 hv
  · exact ⟨g, by rw [h3]; rfl⟩
theorem own_sli {A : World} {β sz n : Nat} {e : TypeId} {v : Value} {xs : List Value} (h : A.ownsRow β e sz v n xs) : ∃ a cap, v = .slice a n cap := by
  obtain ⟨h1, h2 | ⟨g, cap, cur, h3, h4, h5, h6⟩⟩ := h
  · exact ⟨none, 0, by rw [h2.1, h2.2]⟩
  · exact ⟨_, cap, h3⟩
theorem own_nil {A : World} (β sz : Nat) (e : TypeId) : A.ownsRow β e sz (.slice none 0 0) 0 [] := ⟨by simp, .inl ⟨rfl, rfl⟩⟩
theorem keptS {w : World} {k b i : Nat} (h : k ≠ b) (v : Value) : (w.setCell ⟨b, i, none⟩ v).heap[k]? = w.heap[k]? := Below.heap_setCell _ _ _ _ h
theorem keptA {w : World} {k : Nat} (h : k < w.heap.size) (o : Obj) : (w.alloc o).heap[k]? = w.heap[k]? := Below.heap_alloc _ _ _ h
/-- The block p holds a slice that owns its row; g: from where on its blocks lie, and the one that it has. -/
def OwnI (w : World) (p : Nat) (t e : TypeId) (sz n : Nat) (xs : List Value) (g : Option (Nat × Nat)) (W : World) : Prop :=
  ∃ (v : Value) (β : Nat), Blk W p #[v] t ∧ Below w.heap.size w W ∧ W.ownsRow β e sz v n xs ∧ p < β ∧ β ≤ W.heap.size ∧ ((g = none ∧ v = .slice none 0 0) ∨ ∃ k, g = some (β, k) ∧ v.ownBlock = some k)
theorem ownI_keep {w : World} {p sz n : Nat} {t e : TypeId} {xs : List Value} {g : Option (Nat × Nat)} {A B : World} {m : Nat} (hp : p < m) (hn : w.heap.size ≤ m) (h : OwnI w p t e sz n xs g A) (hb : Below m A B) (hk : ∀ b k, g = some (b, k) → B.heap[k]? = A.heap[k]?) : OwnI w p t e sz n xs g B := by
  obtain ⟨v, β, h1, h2, h3, h4, h5, h6⟩ := h
  refine ⟨v, β, h1.below hb hp, h2.trans (hb.mono hn), own_kept h3 (fun k e => ?_), h4, Nat.le_trans h5 hb.size, h6⟩
  rcases h6 with ⟨_, q⟩ | ⟨k', q, q2⟩
  · rw [q] at e; simp [Value.ownBlock] at e
  · rw [q2] at e; cases e; exact hk _ _ q
theorem ownI_own {w : World} {p sz n : Nat} {t e : TypeId} {xs : List Value} {g : Option (Nat × Nat)} {A : World} (h : OwnI w p t e sz n xs g A) : ∀ b k, g = some (b, k) → b ≤ k ∧ k < A.heap.size := by
  obtain ⟨v, β, h1, h2, h3, h4, h5, h6⟩ := h
  rintro b k e
  rcases h6 with ⟨q, _⟩ | ⟨k', q, q2⟩
  · rw [q] at e; cases e
  · rw [q] at e; cases e
    exact ⟨own_block h3 q2, own_lt h3 q2⟩
theorem ownI_lt {w : World} {p sz n : Nat} {t e : TypeId} {xs : List Value} {g : Option (Nat × Nat)} {A : World} (h : OwnI w p t e sz n xs g A) : p < A.heap.size := by
  obtain ⟨v, β, h1, _⟩ := h
  exact h1.lt
/-- From where on what is appended may lie. -/
theorem ownI_base {w : World} {p sz n : Nat} {t e : TypeId} {xs : List Value} {g : Option (Nat × Nat)} {A : World} (h : OwnI w p t e sz n xs g A) : ∃ (av : Option Addr) (cap γ : Nat), Blk A p #[.slice av n cap] t ∧ Below w.heap.size w A ∧ A.ownsRow γ e sz (.slice av n cap) n xs ∧ p < γ ∧ γ ≤ A.heap.size ∧
    (∀ k, (Value.slice av n cap).ownBlock = some k → g = some (γ, k) ∧ γ ≤ k) ∧ (A.heap.size ≤ γ ∨ ∃ j, g = some (γ, j)) := by
  have hz := ownI_lt h
  obtain ⟨v, β, h1, h2, h3, h4, h5, h6⟩ := h
  obtain ⟨a, cap, rfl⟩ := own_sli h3
  rcases h6 with ⟨q, e'⟩ | ⟨k', q, q2⟩
  · have hx : A.ownsRow A.heap.size e sz (.slice a n cap) n xs := by
      obtain ⟨q1, q2 | ⟨g', cap', cur, q3, _⟩⟩ := h3
      · exact ⟨q1, .inl q2⟩
      · rw [q3] at e'; cases e'
    refine ⟨a, cap, A.heap.size, h1, h2, hx, hz, Nat.le_refl _, fun k hk => ?_, .inl (Nat.le_refl _)⟩
    rw [e'] at hk; simp [Value.ownBlock] at hk
  · exact ⟨a, cap, β, h1, h2, h3, h4, h5, fun k hk => ⟨by rw [q2] at hk; cases hk; exact q, own_block h3 hk⟩, .inr ⟨k', q⟩⟩
theorem grown_set (w : World) (p i : Nat) (v : Value) : w.grownBy (w.setCell ⟨p, i, none⟩ v) (some p) := ⟨rfl, rfl, rfl, by simp [World.setCell], fun k _ hk => Below.heap_setCell _ _ _ _ (fun e => hk (by rw [e]))⟩
theorem grown_trans {a b c : World} {r : Option Nat} (h : a.grownBy b r) (h' : b.grownBy c r) : a.grownBy c r :=
  ⟨h'.os.trans h.os, h'.tape.trans h.tape, h'.output.trans h.output, Nat.le_trans h.size h'.size, fun k hk hr => (h'.block k (Nat.lt_of_lt_of_le hk h.size) hr).trans (h.block k hk hr)⟩
theorem grown_refl (w : World) (r : Option Nat) : w.grownBy w r := ⟨rfl, rfl, rfl, Nat.le_refl _, fun _ _ _ => rfl⟩
theorem grown_any {w w' : World} {r : Option Nat} (h : Below w.heap.size w w') : w.grownBy w' r := ⟨h.os, h.tape, h.output, h.size, fun k hk _ => h.block k hk⟩
theorem Blk.grown {w w' : World} {k : Nat} {cs : Array Value} {t : TypeId} {r : Option Nat} (h : Blk w k cs t) (hg : w.grownBy w' r) (hr : some k ≠ r) : Blk w' k cs t := (hg.block k h.lt hr).trans h
theorem own_grown {w w' : World} {B p : Nat} {e : TypeId} {sz : Nat} {v : Value} {n : Nat} {xs : List Value} (h : w.ownsRow B e sz v n xs) (hg : w.grownBy w' (some p)) (hp : p < B) : w'.ownsRow B e sz v n xs := by
  obtain ⟨h1, h2 | ⟨g, cap, cur, h3, h4, h5, h6⟩⟩ := h
  · exact ⟨h1, .inl h2⟩
  · exact ⟨h1, .inr ⟨g, cap, cur, h3, h4, (hg.block g (lt_of_block h5) (fun e => by simp at e; omega)).trans h5, h6⟩⟩
theorem new_cellsB (w : World) (cs : Array Value) (t : TypeId) : ∀ j u, cs.toList[j]? = some u → (w.alloc (.cells cs t)).cell? ((⟨w.heap.size, 0, none⟩ : Addr).add j) = some u := by
  intro j u h
  have e : ((⟨w.heap.size, 0, none⟩ : Addr).add j) = ⟨w.heap.size, j, none⟩ := by
    unfold Addr.add
    by_cases c : j = 0
    · subst c; simp
    · simp [c]
  rw [e, (Blk.made w cs t).cell j, ← h, Array.getElem?_toList]
end Go.Proofs.YtioalnncjahlnaaGreatDoor

namespace Go.Proofs.YtioalnncjahlnaaGreatDoor
open Go.ChangeShapes Go.WideShapes Go.ChangeAt Go.RowKit

/-- A slice value of so many elements whose cells are these. -/
def SrcV (w : World) (sz : Nat) (v : Value) (n : Nat) (ys : List Value) : Prop :=
  ∃ (a : Option Addr) (cap : Nat), v = .slice a n cap ∧ (a = none → n = 0 ∧ cap = 0) ∧ ys.length = n * sz ∧ (∀ u ∈ ys, u.oneCell' = true) ∧ ∀ ad, a = some ad → ∀ j u, ys[j]? = some u → w.cell? (ad.add j) = some u
theorem srcV_nil (w : World) (sz : Nat) : SrcV w sz (.slice none 0 0) 0 [] := ⟨none, 0, rfl, fun _ => ⟨rfl, rfl⟩, by simp, (fun u h => by cases h), (fun ad h => by cases h)⟩
theorem srcV_new {w : World} {p sz n cap : Nat} {ys : List Value} {t : TypeId} (h : Blk w p ys.toArray t) (hl : ys.length = n * sz) (h1 : ∀ u ∈ ys, u.oneCell' = true) : SrcV w sz (.slice (some ⟨p, 0, none⟩) n cap) n ys := by
  refine ⟨_, cap, rfl, fun h => by simp at h, hl, h1, ?_⟩
  rintro ad ⟨⟩ j u hu
  have e : ((⟨p, 0, none⟩ : Addr).add j) = ⟨p, j, none⟩ := by
    unfold Addr.add
    by_cases c : j = 0
    · subst c; simp
    · simp [c]
  rw [e, h.cell j, ← hu]
  simp
theorem wp_appV {P : Program} {o : Oper} {a : Act} {w : World} {K : Act → World → Prop} {Q : Exit → Act → World → Prop}
    (s x : Operand) (t : TypeId) (hop : o.op = Op.call { callee := Callee.builtin Builtin.append, args := #[s, x], argTypes := #[t, t] })
    (base : Nat) (e : TypeId) (i : TypeInfo) (z : Value) (sz by' : Nat) (ht : P.underlying t = some (.slice e)) (hi : P.info? e = some i) (hz : i.zero = some z) (hsize : i.size = sz) (hby : i.bytes = by') (hzs : z.cells.size = sz) (hs0 : 0 < sz)
    (v : Value) (n : Nat) (xs : List Value) (hs : a.eval s = v) (hown : w.ownsRow base e sz v n xs)
    (vx : Value) (m : Nat) (ys : List Value) (hx : a.eval x = vx) (hsrc : SrcV w sz vx m ys)
    (h63 : n + m ≤ 1099511627776) (hb' : by' ≤ 100) (hbase : base ≤ w.heap.size)
    (h : ∀ v' w', w'.ownsRow base e sz v' (n + m) (xs ++ ys) → w.grownBy w' v.ownBlock → K (a.put o.dst v') w') : Oper.wp P o a w K Q := by
  obtain ⟨ad, cap, rfl, hn, hl, h1, hc⟩ := hsrc
  cases ad with
  | none =>
    obtain ⟨rfl, rfl⟩ := hn rfl
    have hy : ys = [] := List.eq_nil_of_length_eq_zero (by omega)
    subst hy
    have hrun := run_append_owned_none (P := P) (w := w) base t o.type e i sz ht hi v n xs hown
    have hK := h v w (by simpa using hown) ⟨rfl, rfl, rfl, Nat.le_refl _, fun _ _ _ => rfl⟩
    unfold Oper.wp
    simp [execOp, hop, resolve, invoke, builtin, hs, hx, hrun, Result.andThen]
    exact hK
  | some ad =>
    have hbb : (n + m) * by' ≤ (n + m) * 100 := Nat.mul_le_mul_left _ hb'
    exact wp_append_own w s x t hop base e i z sz by' ht hi hz hsize hby hzs hs0 v n xs hs hown ad m cap ys hx hl (hc ad rfl) h1 (by unfold maxLen; omega) (by omega) hbase fun v' w' h1 h2 _ => h v' w' h1 h2
/-- For a region in the text's order. -/
theorem list_appV {P : Program} {ops : Array Oper} {rest : List Oper} {o : Oper} {a : Act} {w : World} {Q : Exit → Act → World → Prop} (hgd : o.guard = none) (s x : Operand) (t : TypeId)
    (ho : o.op = .call { callee := .builtin .append, args := #[s, x], argTypes := #[t, t] })
    (base : Nat) (e : TypeId) (i : TypeInfo) (z : Value) (sz by' : Nat) (ht : P.underlying t = some (.slice e)) (hi : P.info? e = some i) (hz : i.zero = some z) (hsize : i.size = sz) (hby : i.bytes = by') (hzs : z.cells.size = sz) (hs0 : 0 < sz)
    (v : Value) (n : Nat) (xs : List Value) (hs : a.eval s = v) (hown : w.ownsRow base e sz v n xs)
    (vx : Value) (m : Nat) (ys : List Value) (hx : a.eval x = vx) (hsrc : SrcV w sz vx m ys)
    (h63 : n + m ≤ 1099511627776) (hb' : by' ≤ 100) (hbase : base ≤ w.heap.size)
    (h : ∀ v' w', w'.ownsRow base e sz v' (n + m) (xs ++ ys) → w.grownBy w' v.ownBlock → wpList P ops Q rest (a.put o.dst v') w') : wpList P ops Q (o :: rest) a w :=
  wpList_plain hgd fun _ hK => wp_appV s x t ho base e i z sz by' ht hi hz hsize hby hzs hs0 v n xs hs hown vx m ys hx hsrc h63 hb' hbase fun v' w' h2 h3 => hK _ _ (h v' w' h2 h3)
/-- For a region that draws its order. -/
theorem step_appV {P : Program} {ops : Array Oper} {o : Oper} {a : Act} {w : World} {K : Act → World → Prop} {Q : Exit → Act → World → Prop} {E : Prop}
    (hg : o.guard = none) (s x : Operand) (t : TypeId) (hop : o.op = Op.call { callee := Callee.builtin Builtin.append, args := #[s, x], argTypes := #[t, t] })
    (base : Nat) (e : TypeId) (i : TypeInfo) (z : Value) (sz by' : Nat) (ht : P.underlying t = some (.slice e)) (hi : P.info? e = some i) (hz : i.zero = some z) (hsize : i.size = sz) (hby : i.bytes = by') (hzs : z.cells.size = sz) (hs0 : 0 < sz)
    (v : Value) (n : Nat) (xs : List Value) (hs : a.eval s = v) (hown : w.ownsRow base e sz v n xs)
    (vx : Value) (m : Nat) (ys : List Value) (hx : a.eval x = vx) (hsrc : SrcV w sz vx m ys)
    (h63 : n + m ≤ 1099511627776) (hb' : by' ≤ 100) (hbase : base ≤ w.heap.size)
    (h : ∀ v' w', w'.ownsRow base e sz v' (n + m) (xs ++ ys) → w.grownBy w' v.ownBlock → K (a.put o.dst v') w') :
    if Region.wanted o (yielded ops a.tmps) = true then Oper.wp P o a w K Q else E := by
  have hw : Region.wanted o (yielded ops a.tmps) = true := by simp [Region.wanted, hg]
  rw [if_pos hw]
  exact wp_appV s x t hop base e i z sz by' ht hi hz hsize hby hzs hs0 v n xs hs hown vx m ys hx hsrc h63 hb' hbase h
end Go.Proofs.YtioalnncjahlnaaGreatDoor

namespace Go.Proofs.YtioalnncjahlnaaGreatDoor
open Go.ChangeShapes Go.WideShapes Go.ChangeAt Go.RowKit
attribute [local irreducible] Go.Calls

set_option maxHeartbeats 1000000 in
theorem rbad_c (x : Prt) (w : World) : Calls Tryz.prog 64 #[prtV x] w fun e w' => e = .returned (.bool (badP x)) ∧ Below w.heap.size w w' := by
  obtain ⟨kd, n, g, d, ks⟩ := x
  by_cases hk : kd = 0
  · have HE := hidE (show badP ⟨kd, n, g, d, ks⟩ = decide (ks ≠ 0 ∨ n = 0 ∨ 4096 < n ∨ g = 0 ∨ n < g ∨ n % g ≠ 0 ∨ d < 1 ∨ 4096 < d) by unfold badP; rw [if_pos hk])
    rw [HE.out]
    have k1 : ((kd : Int) == 0) = true := by simp [hk]
    have hmod : (n : Int).tmod (g : Int) = ((n % g : Nat) : Int) := by rw [Int.tmod_eq_emod_of_nonneg (by omega)]; omega
    clear HE hk
    go_enter Tryz.func64, Tryz.ntmps64
    go_wp2
    all_goals
      go_ret
      refine ⟨ret_bool ?_, by (repeat (first | exact Below.refl _ _ | assumption | refine balloc ?_ _ | refine below_drewN ?_ _ | refine bstep (by assumption) ?_ | refine bstep (Past.prop _) ?_ | refine Below.setCell ?_ (by first | exact Nat.le_refl _ | (simp; done) | (simp; omega)) _))⟩
      first
        | (symm; apply decide_eq_true; omega)
        | (symm; apply decide_eq_false; omega)
        | (simp_all; done)
        | (rw [Bool.eq_iff_iff]; simp_all; omega)
  · have HE := hidE (show badP ⟨kd, n, g, d, ks⟩ = decide (4 < kd ∨ ks < 1 ∨ 16 < ks ∨ n ≠ 0 ∨ g ≠ 0 ∨ d ≠ 0) by unfold badP; rw [if_neg hk])
    rw [HE.out]
    have k1 : ((kd : Int) == 0) = false := by simp; omega
    clear HE hk
    go_enter Tryz.func64, Tryz.ntmps64
    go_wp2
    all_goals
      go_ret
      refine ⟨ret_bool ?_, by (repeat (first | exact Below.refl _ _ | assumption | refine balloc ?_ _ | refine below_drewN ?_ _ | refine bstep (by assumption) ?_ | refine bstep (Past.prop _) ?_ | refine Below.setCell ?_ (by first | exact Nat.le_refl _ | (simp; done) | (simp; omega)) _))⟩
      first
        | (symm; apply decide_eq_true; omega)
        | (symm; apply decide_eq_false; omega)
        | (simp_all; done)
        | (rw [Bool.eq_iff_iff]; simp_all; omega)
/-- Three integers. -/
abbrev I3 (r : Nat × Nat × Int) : Value := .tuple #[.int .i64 r.1, .int .i64 r.2.1, .int .i64 r.2.2]
set_option maxRecDepth 100000 in
set_option maxHeartbeats 4000000 in
theorem rread_c (l : List Prt) (a : Option Addr) (cap : Nat) (hl : l.length ≤ 1000000000) : ∀ (m p deep ink : Nat) (w : World), l.length + 1 - p ≤ m → ArgP w a l → deep ≤ 1000000000 → p ≤ 1000000000 →
    Calls Tryz.prog 43 #[.slice a l.length cap, .int .i64 p, .int .i64 deep, .int .u8 ink] w fun e w' => e = .returned (I3 (rdT (rdS (l.length + 1) l p deep ink 1))) ∧ Below w.heap.size w w' := by
  intro m
  induction m with
  | zero =>
    intro p deep ink w hm hA hd hp
    have HE := hidE (rd_stop (stop_out (deep := deep) (ink := ink) (show l.length ≤ p by omega)))
    rw [HE.out]
    have q1 : decide ((p : Int) ≥ (l.length : Int)) = true := decide_eq_true (by omega)
    have q2 : decide (l.length ≤ p) = true := decide_eq_true (by omega)
    clear HE
    go_enter Tryz.func43, Tryz.ntmps43
    go_wp2
    refine bodyPost_ret (v := .tuple #[.int .i64 0, .int .i64 p, .int .i64 81]) (by simp [results, Tryz.results43, go_sem]) rfl ⟨rfl, Below.refl _ _⟩
  | succ m ih =>
    intro p deep ink w hm hA hd hp
    by_cases hlt : p < l.length
    · obtain ⟨b, off, rfl, hbb, hc⟩ := hA (by omega)
      obtain ⟨c0, c1, c2, c3, c4⟩ := hc.get hlt
      have q1 : decide ((p : Int) ≥ (l.length : Int)) = false := decide_eq_false (by omega)
      have q2 : decide (l.length ≤ p) = false := decide_eq_false (by omega)
      have HBAD := hidE (fun w => rbad_c (l.getD p ⟨0, 0, 0, 0, 0⟩) w)
      have HC := hidE hc
      have hHd := hd
      have HPR := hidE (show l.getD p pr0 = l.getD p ⟨0, 0, 0, 0, 0⟩ from rfl)
      rw [HPR.out] at c0 c1 c2 c3 c4
      by_cases h64 : 64 ≤ p
      · have HE := hidE (rd_stop (stop_shape (deep := deep) (ink := ink) hlt (.inl h64)))
        rw [HE.out]
        have q3 : decide ((p : Int) ≥ 64) = true := decide_eq_true (by omega)
        have q4 : decide (64 ≤ p) = true := decide_eq_true h64
        clear HE hc c0 c1 c2 c3 c4 ih
        go_enter Tryz.func43, Tryz.ntmps43
        go_wp2
        refine bodyPost_ret (v := .tuple #[.int .i64 0, .int .i64 p, .int .i64 81]) (by simp [results, Tryz.results43, go_sem]) rfl ⟨rfl, Below.refl _ _⟩
      · have q3 : decide ((p : Int) ≥ 64) = false := decide_eq_false (by omega)
        have q4 : decide (64 ≤ p) = false := decide_eq_false h64
        cases hbad : badP (l.getD p ⟨0, 0, 0, 0, 0⟩)
        · rw [hbad] at HBAD
          by_cases hin : ink = 2 ∧ (l.getD p ⟨0, 0, 0, 0, 0⟩).kind ≠ 0
          · have HE := hidE (rd_stop (stop_shape (deep := deep) (ink := ink) hlt (.inr (.inr hin))))
            rw [HE.out]
            have i1 : ((ink : Int) == 2) = true := by simp [hin.1]
            have i2 : (((l.getD p ⟨0, 0, 0, 0, 0⟩).kind : Int) != 0) = true := bne_iff_ne.2 (by have := hin.2; omega)
            clear HE hc ih hbad HPR hin
            generalize (l.getD p ⟨0, 0, 0, 0, 0⟩) = x at *
            obtain ⟨kd, n, g, d, ks⟩ := x
            simp only at c0 c1 c2 c3 c4 i2
            go_enter Tryz.func43, Tryz.ntmps43
            go_wp2_with (go_at_call 64; (with_reducible refine (HBAD.out _).mono ?_); rintro e w1 ⟨rfl, hb1⟩; have c5 := (hb1.cell (p := ⟨b, off + p * 5, none⟩) hbb).trans c0)
            refine bodyPost_ret (v := .tuple #[.int .i64 0, .int .i64 p, .int .i64 81]) (by simp [results, Tryz.results43, go_sem]) rfl ⟨rfl, hb1⟩
          · have hst := stop_deep (deep := deep) (ink := ink) hlt (fun h => by
              rcases h with h | h | h
              · exact h64 h
              · rw [hbad] at h; cases h
              · exact hin h)
            have hin2 : ((ink : Int) == 2) = false ∨ (((ink : Int) == 2) = true ∧ (((l.getD p ⟨0, 0, 0, 0, 0⟩).kind : Int) != 0) = false) := by
              by_cases c : ink = 2
              · refine .inr ⟨by simp [c], ?_⟩
                have : (l.getD p ⟨0, 0, 0, 0, 0⟩).kind = 0 := by
                  by_cases c2 : (l.getD p ⟨0, 0, 0, 0, 0⟩).kind = 0
                  · exact c2
                  · exact absurd ⟨c, c2⟩ hin
                rw [this]; rfl
              · exact .inl (by simp; omega)
            by_cases h8 : 8 < deep
            · rw [if_pos h8] at hst
              have HE := hidE (rd_stop hst)
              rw [HE.out]
              have d1 : decide ((deep : Int) > 8) = true := decide_eq_true (by omega)
              have d2 : decide (8 < deep) = true := decide_eq_true h8
              clear HE hc ih hbad HPR hin hst
              generalize (l.getD p ⟨0, 0, 0, 0, 0⟩) = x at *
              obtain ⟨kd, n, g, d, ks⟩ := x
              simp only at c0 c1 c2 c3 c4 hin2
              rcases hin2 with i1 | ⟨i1, i2⟩
              all_goals
                go_enter Tryz.func43, Tryz.ntmps43
                go_wp2_with (go_at_call 64; (with_reducible refine (HBAD.out _).mono ?_); rintro e w1 ⟨rfl, hb1⟩; have c5 := (hb1.cell (p := ⟨b, off + p * 5, none⟩) hbb).trans c0)
                refine bodyPost_ret (v := .tuple #[.int .i64 0, .int .i64 p, .int .i64 80]) (by simp [results, Tryz.results43, go_sem]) rfl ⟨rfl, hb1⟩
            · rw [if_neg h8] at hst
              have HOP := hidE (rd_open hst)
              have hks := bad_kids hbad
              have d1 : decide ((deep : Int) > 8) = false := decide_eq_false (by omega)
              have d2 : decide (8 < deep) = false := decide_eq_false h8
              have w1 : IntKind.i64.wrap ((p : Int) + 1) = (p : Int) + 1 := IntWalk.i64_in _ (by omega)
              have w2 : IntKind.i64.wrap ((deep : Int) + 1) = (deep : Int) + 1 := IntWalk.i64_in _ (by omega)
              clear hbad HPR hin hst hA
              generalize (l.getD p ⟨0, 0, 0, 0, 0⟩) = x at *
              obtain ⟨kd, n, g, d, ks⟩ := x
              simp only at c0 c1 c2 c3 c4 hin2 hks HOP
              obtain ⟨K, rfl⟩ : ∃ K : Nat, ks = (K : Int) := ⟨ks.toNat, by omega⟩
              rw [Int.toNat_natCast] at HOP
              have HA := hidE (show ArgP w (some ⟨b, off, none⟩) l from fun _ => ⟨b, off, rfl, hbb, HC.out⟩)
              have HI := hidE ih
              have HM := hidE (And.intro hm hHd)
              clear ih hc hm hHd hd
              rcases hin2 with i1 | ⟨i1, i2⟩
              all_goals
                go_enter Tryz.func43, Tryz.ntmps43
                go_wp2_with (go_at_call 64; (with_reducible refine (HBAD.out _).mono ?_); rintro e w1 ⟨rfl, hb1⟩; have c5 := (hb1.cell (p := ⟨b, off + p * 5, none⟩) hbb).trans c0)
                go_loopg [11, 12] K (fun gh v11 v12 wr => ∃ k q : Nat, k ≤ K ∧ K - k ≤ gh ∧ v12 = .int .i64 k ∧ v11 = .int .i64 q ∧ p < q ∧ q ≤ l.length ∧ rdS (l.length + 1) l q (deep + 1) kd (K - k) = rdS (l.length + 1) l (p + 1) (deep + 1) kd K ∧ Below w.heap.size w wr)
                case atStart => exact ⟨0, p + 1, Nat.zero_le _, Nat.le_refl _, rfl, by simp, by omega, by omega, rfl, hb1⟩
                case round =>
                  obtain ⟨k, q, hkk, hgh, rfl, rfl, hq1, hq2, hR, hb⟩ := hrel
                  have HB := hidE hb; have HR := hidE hR; have HG := hidE hgh
                  have f0 := (hb.cell (p := ⟨b, off + p * 5, none⟩) hbb).trans c0
                  have f4 := (hb.cell (p := ⟨b, off + p * 5 + 4, none⟩) hbb).trans c4
                  have fz := Nat.lt_of_lt_of_le hbb hb.size
                  clear hb hR hgh c5 hb1 c1 c2 c3
                  by_cases hk : k < K
                  · have r1 : decide ((k : Int) < (K : Int)) = true := decide_eq_true (by omega)
                    have r2 : decide (k < K) = true := decide_eq_true hk
                    have HCALL := hidE (fun w' (hb' : Below w.heap.size w w') => show Calls Tryz.prog 43 #[.slice (some ⟨b, off, none⟩) l.length cap, .int .i64 q, .int .i64 ((deep : Int) + 1), .int .u8 kd] w' fun e w'' => e = .returned (I3 (rdT (rdS (l.length + 1) l q (deep + 1) kd 1))) ∧ Below w'.heap.size w' w'' from by
                      have := HI.out q (deep + 1) kd w' (by have := HM.out.1; omega) (HA.out.past hb') (by omega) (by omega)
                      rw [show ((deep + 1 : Nat) : Int) = (deep : Int) + 1 by omega] at this
                      exact this)
                    have HONE := hidE (rd_one (m := l.length + 1) (l := l) (p := q) (deep := deep + 1) (ink := kd) (n := K - k - 1) (by omega) (by omega))
                    cases hone : rdS (l.length + 1) l q (deep + 1) kd 1 with
                    | error e =>
                      rw [hone] at HCALL HONE
                      have he : (e.2 == 0) = false ∧ (e.2 != 0) = true := by
                        rcases rd_err _ _ _ _ _ _ _ hone with h | h <;> rw [h] <;> decide
                      obtain ⟨he1, he2⟩ := he
                      have HF := hidE (show rdS (l.length + 1) l p deep ink 1 = .error e by
                        rw [HOP.out, ← HR.out, show K - k = K - k - 1 + 1 by omega, HONE.out])
                      rw [show rdT (.error e) = (0, e.1, e.2) from rfl] at HCALL
                      clear hone
                      obtain ⟨ea, eb⟩ := e
                      simp only at he1 he2
                      go_wp2_with (go_at_call 43; (with_reducible refine (HCALL.out _ HB.out).mono ?_); rintro e w2 ⟨rfl, hb2⟩)
                      refine bodyPost_ret (v := .tuple #[.int .i64 0, .int .i64 ea, .int .i64 eb]) (by simp [results, Tryz.results43, go_sem]) rfl ⟨by rw [HF.out]; rfl, HB.out.trans (hb2.mono HB.out.size)⟩
                    | ok q' =>
                      rw [hone] at HCALL HONE
                      have hgt := rd_gt _ _ _ _ _ _ _ hone
                      rw [show rdT (.ok q') = (q', 0, 0) from rfl] at HCALL
                      clear hone
                      go_wp2_with (go_at_call 43; (with_reducible refine (HCALL.out _ HB.out).mono ?_); rintro e w2 ⟨rfl, hb2⟩)
                      go_roundg (K - (k + 1))
                      case measure => have := HG.out; omega
                      case rel => exact ⟨k + 1, q', by omega, Nat.le_refl _, by go_num, rfl, by omega, by omega, by rw [← HR.out, show K - k = K - k - 1 + 1 by omega, HONE.out]; rfl, HB.out.trans (hb2.mono HB.out.size)⟩
                  · obtain rfl : k = K := by omega
                    have r1 : decide ((k : Int) < (k : Int)) = false := decide_eq_false (by omega)
                    have r2 : decide (k < k) = false := decide_eq_false (by omega)
                    have HF := hidE (show rdS (l.length + 1) l p deep ink 1 = .ok q by rw [HOP.out, ← HR.out, Nat.sub_self, rd_zero])
                    go_wp2
                    refine bodyPost_ret (v := .tuple #[.int .i64 q, .int .i64 0, .int .i64 0]) (by simp [results, Tryz.results43, go_sem]) rfl ⟨by rw [HF.out]; rfl, HB.out⟩
        · have HE := hidE (rd_stop (stop_shape (deep := deep) (ink := ink) hlt (.inr (.inl hbad))))
          rw [HE.out]
          rw [hbad] at HBAD
          clear HE hc ih hbad HPR
          generalize (l.getD p ⟨0, 0, 0, 0, 0⟩) = x at *
          obtain ⟨kd, n, g, d, ks⟩ := x
          simp only at c0 c1 c2 c3 c4
          go_enter Tryz.func43, Tryz.ntmps43
          go_wp2_with (go_at_call 64; (with_reducible refine (HBAD.out _).mono ?_); rintro e w1 ⟨rfl, hb1⟩)
          refine bodyPost_ret (v := .tuple #[.int .i64 0, .int .i64 p, .int .i64 81]) (by simp [results, Tryz.results43, go_sem]) rfl ⟨rfl, hb1⟩
    · have HE := hidE (rd_stop (stop_out (deep := deep) (ink := ink) (show l.length ≤ p by omega)))
      rw [HE.out]
      have q1 : decide ((p : Int) ≥ (l.length : Int)) = true := decide_eq_true (by omega)
      have q2 : decide (l.length ≤ p) = true := decide_eq_true (by omega)
      clear HE ih
      go_enter Tryz.func43, Tryz.ntmps43
      go_wp2
      refine bodyPost_ret (v := .tuple #[.int .i64 0, .int .i64 p, .int .i64 81]) (by simp [results, Tryz.results43, go_sem]) rfl ⟨rfl, Below.refl _ _⟩
end Go.Proofs.YtioalnncjahlnaaGreatDoor

namespace Go.Proofs.YtioalnncjahlnaaGreatDoor
open Go.ChangeShapes Go.WideShapes Go.ChangeAt Go.RowKit
attribute [local irreducible] Go.Calls

/-- The numbers that a slice's cells hold. -/
def CellsK (k : IntKind) (w : World) (b off : Nat) (l : List Int) : Prop := ∀ i, i < l.length → w.cell? ⟨b, off + i, none⟩ = some (.int k (l.getD i 0))
def ArgK (k : IntKind) (w : World) (a : Option Addr) (l : List Int) : Prop := 0 < l.length → ∃ b off, a = some ⟨b, off, none⟩ ∧ b < w.heap.size ∧ CellsK k w b off l
theorem CellsK.below {k : IntKind} {w w' : World} {b off B : Nat} {l : List Int} (h : CellsK k w b off l) (hb : Below B w w') (hB : b < B) : CellsK k w' b off l := fun i hi => (hb.cell (p := ⟨b, _, none⟩) hB).trans (h i hi)
theorem ArgK.past {k : IntKind} {w w' : World} {a : Option Addr} {l : List Int} (h : ArgK k w a l) (hb : Below w.heap.size w w') : ArgK k w' a l := fun hl => by
  obtain ⟨b, off, e, h1, h2⟩ := h hl
  exact ⟨b, off, e, Nat.lt_of_lt_of_le h1 hb.size, h2.below hb h1⟩
/-- The cells of a list of numbers. -/
def cellsK (k : IntKind) (l : List Int) : List Value := l.map (.int k)
theorem cellsK_app (k : IntKind) (l r : List Int) : cellsK k (l ++ r) = cellsK k l ++ cellsK k r := by unfold cellsK; rw [List.map_append]
theorem kgetD (l : List Int) (i : Nat) (h : i < l.length) : l.getD i 0 = l[i] := by rw [List.getD_eq_getElem?_getD, List.getElem?_eq_getElem h]; rfl
theorem cellsK_get {k : IntKind} {l : List Int} {i : Nat} (h : i < l.length) : (cellsK k l)[i]? = some (.int k (l.getD i 0)) := by
  unfold cellsK
  rw [List.getElem?_map, List.getElem?_eq_getElem h, kgetD _ _ h]; rfl
/-- What a call has appended to reads as a slice. -/
theorem argK_own {k : IntKind} {w : World} {base : Nat} {e : TypeId} {v : Value} {l : List Int} (h : w.ownsRow base e 1 v l.length (cellsK k l)) : ∃ a cap, v = .slice a l.length cap ∧ ArgK k w a l := by
  obtain ⟨h1, h2 | ⟨g, cap, cur, rfl, h3, h4, h5, h6, h7, h8⟩⟩ := h
  · obtain ⟨rfl, h2⟩ := h2
    have : l = [] := List.eq_nil_of_length_eq_zero h2
    subst this
    exact ⟨none, 0, rfl, fun h => by simp at h⟩
  · refine ⟨some ⟨g, 0, none⟩, cap, rfl, fun _ => ⟨g, 0, rfl, lt_of_block h4, fun i hi => ?_⟩⟩
    have hg := cellsK_get (k := k) hi
    have e : w.cell? ⟨g, 0 + i, none⟩ = cur[i]? := by simp [World.cell?, h4]
    rw [e, ← Array.getElem?_toList]
    rw [← h8, List.getElem?_take, if_pos (by omega)] at hg
    exact hg
end Go.Proofs.YtioalnncjahlnaaGreatDoor

namespace Go.Proofs.YtioalnncjahlnaaGreatDoor
open Go.ChangeShapes Go.WideShapes Go.ChangeAt Go.RowKit
attribute [local irreducible] Go.Calls

theorem rtree_c (l : List Prt) (a : Option Addr) (cap : Nat) (w : World) (hl : l.length ≤ 1000000000) (hA : ArgP w a l) :
    Calls Tryz.prog 20 #[.slice a l.length cap] w fun e w' => e = .returned (.tuple #[.int .i64 (treeS l).1, .int .i64 (treeS l).2]) ∧ Below w.heap.size w w' := by
  have HR := hidE (show Calls Tryz.prog 43 #[.slice a l.length cap, .int .i64 0, .int .i64 1, .int .u8 0] w _ from rread_c l a cap hl (l.length + 1) 0 1 0 w (by omega) hA (by omega) (by omega))
  have HT := hidE (show treeS l = (match rdS (l.length + 1) l 0 1 0 1 with | .error x => x | .ok e => if e < l.length then (e, 81) else (0, 0)) from rfl)
  cases hrd : rdS (l.length + 1) l 0 1 0 1 with
  | error x =>
    rw [hrd] at HR HT
    have he : (x.2 == 0) = false ∧ (x.2 != 0) = true := by
      rcases rd_err _ _ _ _ _ _ _ hrd with h | h <;> rw [h] <;> decide
    obtain ⟨he1, he2⟩ := he
    obtain ⟨xa, xb⟩ := x
    simp only [rdT] at HR HT he1 he2
    clear hrd hA
    go_enter Tryz.func20, Tryz.ntmps20
    go_wp2_with (go_at_call 43; (with_reducible refine HR.out.mono ?_); rintro e w2 ⟨rfl, hb2⟩)
    go_ret2
    exact ⟨by rw [HT.out]; rfl, hb2⟩
  | ok q =>
    rw [hrd] at HR HT
    simp only [rdT] at HR HT
    by_cases hq : q < l.length
    · rw [if_pos hq] at HT
      have r1 : decide ((q : Int) < (l.length : Int)) = true := decide_eq_true (by omega)
      have r2 : decide (q < l.length) = true := decide_eq_true hq
      clear hrd hA
      go_enter Tryz.func20, Tryz.ntmps20
      go_wp2_with (go_at_call 43; (with_reducible refine HR.out.mono ?_); rintro e w2 ⟨rfl, hb2⟩)
      go_ret2
      exact ⟨by rw [HT.out]; rfl, hb2⟩
    · rw [if_neg hq] at HT
      have r1 : decide ((q : Int) < (l.length : Int)) = false := decide_eq_false (by omega)
      have r2 : decide (q < l.length) = false := decide_eq_false hq
      clear hrd hA
      go_enter Tryz.func20, Tryz.ntmps20
      go_wp2_with (go_at_call 43; (with_reducible refine HR.out.mono ?_); rintro e w2 ⟨rfl, hb2⟩)
      go_ret2
      exact ⟨by rw [HT.out]; rfl, hb2⟩
/-- A definition's value. -/
abbrev def8 (fr to' : Int) (a : Option Addr) (n cap : Nat) : Value := .agg #[.int .i64 fr, .int .i64 to', .slice a n cap]
set_option maxHeartbeats 1000000 in
theorem rchk_c (fr to' : Int) (l : List Prt) (a : Option Addr) (cap : Nat) (w : World) (hl : l.length ≤ 1000000000) (hA : ArgP w a l) (hf : -9223372036854775808 ≤ fr ∧ fr ≤ 9223372036854775807) (ht : -9223372036854775808 ≤ to' ∧ to' ≤ 9223372036854775807) :
    Calls Tryz.prog 5 #[def8 fr to' a l.length cap] w fun e w' => e = .returned (.tuple #[.int .i64 (chkS fr to' l).1, .int .i64 (chkS fr to' l).2]) ∧ Below w.heap.size w w' := by
  have HR := hidE (fun w hA => rtree_c l a cap w hl hA)
  have HC := hidE (show chkS fr to' l = if fr < 0 ∨ to' ≤ fr ∨ 1099511627776 < to' ∨ 4096 < to' - fr then ((-1, 82) : Int × Int) else ((((treeS l).1 : Nat) : Int), (treeS l).2) from rfl)
  have HA := hidE hA
  clear hA
  generalize treeS l = T at *
  by_cases c1 : fr < 0
  · have q1 : decide (fr < 0) = true := decide_eq_true c1
    rw [if_pos (.inl c1)] at HC
    clear c1
    go_enter Tryz.func5, Tryz.ntmps5
    go_wp2
    go_ret2
    exact ⟨by rw [HC.out]; rfl, by (repeat (first | exact Below.refl _ _ | assumption | refine balloc ?_ _ | refine below_drewN ?_ _ | refine bstep (by assumption) ?_ | refine bstep (Past.prop _) ?_ | refine Below.setCell ?_ (by first | exact Nat.le_refl _ | (simp; done) | (simp; omega)) _))⟩
  have q1 : decide (fr < 0) = false := decide_eq_false c1
  by_cases c2 : to' ≤ fr
  · have q2 : decide (to' ≤ fr) = true := decide_eq_true c2
    rw [if_pos (.inr (.inl c2))] at HC
    clear c1 c2
    go_enter Tryz.func5, Tryz.ntmps5
    go_wp2
    go_ret2
    exact ⟨by rw [HC.out]; rfl, by (repeat (first | exact Below.refl _ _ | assumption | refine balloc ?_ _ | refine below_drewN ?_ _ | refine bstep (by assumption) ?_ | refine bstep (Past.prop _) ?_ | refine Below.setCell ?_ (by first | exact Nat.le_refl _ | (simp; done) | (simp; omega)) _))⟩
  have q2 : decide (to' ≤ fr) = false := decide_eq_false c2
  by_cases c3 : 1099511627776 < to'
  · have q3 : decide (to' > 1099511627776) = true := decide_eq_true c3
    have q3' : decide (1099511627776 < to') = true := decide_eq_true c3
    rw [if_pos (.inr (.inr (.inl c3)))] at HC
    clear c1 c2 c3
    go_enter Tryz.func5, Tryz.ntmps5
    go_wp2
    go_ret2
    exact ⟨by rw [HC.out]; rfl, by (repeat (first | exact Below.refl _ _ | assumption | refine balloc ?_ _ | refine below_drewN ?_ _ | refine bstep (by assumption) ?_ | refine bstep (Past.prop _) ?_ | refine Below.setCell ?_ (by first | exact Nat.le_refl _ | (simp; done) | (simp; omega)) _))⟩
  have q3 : decide (to' > 1099511627776) = false := decide_eq_false c3
  have q3' : decide (1099511627776 < to') = false := decide_eq_false c3
  have wr : IntKind.i64.wrap (to' - fr) = to' - fr := IntWalk.i64_in _ (by omega)
  by_cases c4 : 4096 < to' - fr
  · have q4 : decide (to' - fr > 4096) = true := decide_eq_true c4
    have q4' : decide (4096 < to' - fr) = true := decide_eq_true c4
    rw [if_pos (.inr (.inr (.inr c4)))] at HC
    clear c1 c2 c3 c4
    go_enter Tryz.func5, Tryz.ntmps5
    go_wp2
    go_ret2
    exact ⟨by rw [HC.out]; rfl, by (repeat (first | exact Below.refl _ _ | assumption | refine balloc ?_ _ | refine below_drewN ?_ _ | refine bstep (by assumption) ?_ | refine bstep (Past.prop _) ?_ | refine Below.setCell ?_ (by first | exact Nat.le_refl _ | (simp; done) | (simp; omega)) _))⟩
  have q4 : decide (to' - fr > 4096) = false := decide_eq_false c4
  have q4' : decide (4096 < to' - fr) = false := decide_eq_false c4
  rw [if_neg (by omega)] at HC
  clear c1 c2 c3 c4
  go_enter Tryz.func5, Tryz.ntmps5
  go_wp2_with (go_at_call 20; (with_reducible refine (HR.out _ (HA.out.past (by (repeat (first | exact Below.refl _ _ | assumption | refine balloc ?_ _ | refine below_drewN ?_ _ | refine bstep (by assumption) ?_ | refine bstep (Past.prop _) ?_ | refine Below.setCell ?_ (by first | exact Nat.le_refl _ | (simp; done) | (simp; omega)) _))))).mono ?_); rintro e w2 ⟨rfl, hb2⟩)
  go_ret2
  exact ⟨by rw [HC.out]; rfl, by (repeat (first | exact Below.refl _ _ | assumption | refine balloc ?_ _ | refine below_drewN ?_ _ | refine bstep (by assumption) ?_ | refine bstep (Past.prop _) ?_ | refine Below.setCell ?_ (by first | exact Nat.le_refl _ | (simp; done) | (simp; omega)) _))⟩
theorem rend_c (l : List Prt) (p : Nat) (a : Option Addr) (cap : Nat) (w : World) (hl : l.length ≤ 1000000000) (hp : p ≤ 1000000000) (hA : ArgP w a l) :
    Calls Tryz.prog 24 #[.slice a l.length cap, .int .i64 p] w fun e w' => e = .returned (.int .i64 (endS l p)) ∧ Below w.heap.size w w' := by
  have HR := hidE (show Calls Tryz.prog 43 #[.slice a l.length cap, .int .i64 p, .int .i64 1, .int .u8 0] w _ from rread_c l a cap hl (l.length + 1) p 1 0 w (by omega) hA (by omega) hp)
  have HE := hidE (show endS l p = (rdT (rdS (l.length + 1) l p 1 0 1)).1 from rfl)
  rw [HE.out]
  generalize rdT (rdS (l.length + 1) l p 1 0 1) = R at *
  obtain ⟨x, y, z⟩ := R
  clear HE hA
  go_enter Tryz.func24, Tryz.ntmps24
  go_wp2_with (go_at_call 43; (with_reducible refine HR.out.mono ?_); rintro e w2 ⟨rfl, hb2⟩)
  go_ret
  exact ⟨rfl, hb2⟩
theorem Tryz.infoIntL : (Tryz.prog.info? 3).map (fun i => (i.zero, i.size, i.bytes)) = some (some (.int .i64 0), 1, 8) := by kernel_rfl
/-- Places, as integers. -/
def natsI (l : List Nat) : List Int := l.map fun (n : Nat) => (n : Int)
theorem natsI_len (l : List Nat) : (natsI l).length = l.length := by unfold natsI; rw [List.length_map]
theorem natsI_app (l r : List Nat) : natsI (l ++ r) = natsI l ++ natsI r := by unfold natsI; rw [List.map_append]
/-- A slice value that reads as the list of places. -/
def SliN (w : World) (v : Value) (l : List Nat) : Prop := ∃ (a : Option Addr) (cap : Nat), v = .slice a l.length cap ∧ l.length ≤ cap ∧ cap ≤ 9223372036854775807 ∧ ArgK .i64 w a (natsI l)
theorem SliN.past {w w' : World} {v : Value} {l : List Nat} (h : SliN w v l) (hb : Below w.heap.size w w') : SliN w' v l := by
  obtain ⟨a, cap, h1, h2, h3, h4⟩ := h
  exact ⟨a, cap, h1, h2, h3, h4.past hb⟩
theorem sliN_own {w : World} {base : Nat} {e : TypeId} {v : Value} {l : List Nat} (h : w.ownsRow base e 1 v l.length (cellsK .i64 (natsI l))) : SliN w v l := by
  obtain ⟨a, cap, hv, hA⟩ := argK_own (l := natsI l) (by rw [natsI_len]; exact h)
  rw [natsI_len] at hv
  obtain ⟨h1, h2 | ⟨g, cp, cur, h3, h4, h5, h6, h7, h8⟩⟩ := h
  · obtain ⟨rfl, h2⟩ := h2
    have e := List.eq_nil_of_length_eq_zero h2
    subst e
    exact ⟨none, 0, rfl, Nat.le_refl _, by omega, fun hh => by simp [natsI] at hh⟩
  · rw [hv] at h3
    cases h3
    exact ⟨_, cap, hv, h6, by unfold maxLen at h7; omega, hA⟩
theorem kidsGo_len (l : List Prt) : ∀ (n p : Nat), (kidsGo l n p).length = n
  | 0, _ => rfl
  | n + 1, p => by simp only [kidsGo, List.length_cons, kidsGo_len l n]
/-- Where the child behind so many begins. -/
def kidAt (l : List Prt) (p : Nat) : Nat → Nat
  | 0 => p
  | k + 1 => endS l (kidAt l p k)
theorem kidsGo_snoc (l : List Prt) : ∀ (n p : Nat), kidsGo l (n + 1) p = kidsGo l n p ++ [kidAt l p n]
  | 0, p => rfl
  | n + 1, p => by
    have h : ∀ k, kidAt l (endS l p) k = kidAt l p (k + 1) := fun k => by
      induction k with
      | zero => rfl
      | succ k ih => simp only [kidAt] at ih ⊢; rw [ih]
    rw [kidsGo, kidsGo_snoc l n (endS l p), h]
    rfl
theorem endS_le (l : List Prt) (p : Nat) : endS l p ≤ l.length := by
  unfold endS
  cases h : rdS (l.length + 1) l p 1 0 1 with
  | error x => simp [rdT]
  | ok q => exact (rd_gt _ _ _ _ _ _ _ h).2 (by omega)
theorem kidAt_le {l : List Prt} {p : Nat} (hp : p ≤ l.length) : ∀ k, kidAt l p k ≤ l.length
  | 0 => hp
  | _k + 1 => endS_le l _
end Go.Proofs.YtioalnncjahlnaaGreatDoor

namespace Go.Proofs.YtioalnncjahlnaaGreatDoor

/-- The place of a token in the text of tokens. -/
theorem place_pos : ∀ (a : List Tok) (t u : Tok) (b : List Tok) (p : Nat), ((placeG p (t :: (a ++ u :: b))).getD (a.length + 1) tk0).pos + u.text.length = p + (t.text ++ tailG t (a ++ [u])).length
  | [], t, u, b, p => by
    have e : placeG p (t :: ([] ++ u :: b)) = { t with pos := p } :: placeG (p + t.text.length + (if gapB t u then 1 else 0)) (u :: b) := rfl
    have e2 : ∀ q, ((placeG q (u :: b)).getD 0 tk0).pos = q := fun q => by cases b <;> rfl
    rw [e]
    show ((placeG _ (u :: b)).getD 0 tk0).pos + u.text.length = _
    rw [e2]
    simp only [List.nil_append, tailG, List.append_nil, List.length_append]
    split <;> simp <;> omega
  | v :: a, t, u, b, p => by
    have e : placeG p (t :: (v :: a ++ u :: b)) = { t with pos := p } :: placeG (p + t.text.length + (if gapB t v then 1 else 0)) (v :: (a ++ u :: b)) := rfl
    rw [e]
    show ((placeG _ (v :: (a ++ u :: b))).getD (a.length + 1) tk0).pos + u.text.length = _
    rw [place_pos a v u b]
    simp only [List.cons_append, tailG, List.length_append]
    split <;> simp <;> omega

def atom1 (next : Fst) : Fst := .cons ⟨0, 1, 1, 1, 0⟩ .nil next
def deepF (k : Nat) : Nat → Fst
  | 0 => atom1 .nil
  | n + 1 => .cons ⟨k, 0, 0, 0, 0⟩ (deepF k n) .nil
def wideF : Nat → Fst
  | 0 => .nil
  | m + 1 => atom1 (wideF m)
def allF (m : Nat) : Fst := .cons ⟨4, 0, 0, 0, 0⟩ (wideF m) .nil
theorem deepF_wf {k : Nat} (hk : 1 ≤ k ∧ k ≤ 4) : ∀ n, (deepF k n).wf
  | 0 => ⟨.inl ⟨rfl, by decide, by decide, by decide, by decide, rfl⟩, rfl, trivial, trivial⟩
  | n + 1 => ⟨.inr ⟨hk.1, hk.2, rfl, rfl, rfl, fun e => by cases n <;> cases e⟩, rfl, deepF_wf hk n, trivial⟩
theorem wideF_wf : ∀ m, (wideF m).wf
  | 0 => trivial
  | m + 1 => ⟨.inl ⟨rfl, by decide, by decide, by decide, by decide, rfl⟩, rfl, trivial, wideF_wf m⟩
theorem allF_wf {m : Nat} (h : 0 < m) : (allF m).wf := ⟨.inr ⟨by decide, by decide, rfl, rfl, rfl, fun e => by cases m with | zero => omega | succ m => cases e⟩, rfl, wideF_wf m, trivial⟩
theorem deepF_len (k n : Nat) : (deepF k n).len = 1 := by cases n <;> rfl
theorem deepF_size (k : Nat) : ∀ n, (deepF k n).size = n + 1
  | 0 => rfl
  | n + 1 => by simp only [deepF, Fst.size, deepF_size k n]
theorem deepF_depth (k : Nat) : ∀ n, (deepF k n).depth = n + 1
  | 0 => rfl
  | n + 1 => by simp only [deepF, Fst.depth, deepF_depth k n]; omega
theorem wideF_size : ∀ m, (wideF m).size = m
  | 0 => rfl
  | m + 1 => by simp only [wideF, atom1, Fst.size, wideF_size m]; omega
theorem wideF_len : ∀ m, (wideF m).len = m
  | 0 => rfl
  | m + 1 => by simp only [wideF, atom1, Fst.len, wideF_len m]
theorem wideF_depth : ∀ m, (wideF m).depth ≤ 1
  | 0 => Nat.zero_le _
  | m + 1 => by simp only [wideF, atom1, Fst.depth]; have := wideF_depth m; omega
theorem deep_ok {k n : Nat} (h : n < 8) : badI (deepF k n) 8 0 = none := badI_none _ _ _ (by rw [deepF_depth]; omega) (fun _ => by rw [deepF_size]; omega)
theorem deep_bad {k : Nat} (hk : k ≠ 0) : ∀ (f cnt n : Nat), f ≤ n → cnt + f < 64 → badI (deepF k n) f cnt = some (2 * f)
  | 0, cnt, n, _, _ => by
    cases n with
    | zero => rfl
    | succ n => rw [deepF, badI, if_pos (.inl rfl)]
  | f + 1, cnt, 0, h, _ => by omega
  | f + 1, cnt, n + 1, h, hc => by
    rw [deepF, badI, if_neg (by omega), Nat.add_sub_cancel, deep_bad hk f (cnt + 1) n (by omega) (by omega)]
    simp only [if_neg hk]
    congr 1
    omega
theorem wide_none : ∀ (m f cnt : Nat), 0 < f → cnt + m ≤ 64 → badI (wideF m) f cnt = none := fun m f cnt hf h => badI_none _ _ _ (by have := wideF_depth m; omega) (fun _ => by rw [wideF_size]; exact h)
theorem wide_bad : ∀ (m f cnt : Nat), 0 < f → cnt ≤ 64 → 64 < cnt + m → badI (wideF m) f cnt = some (6 * (64 - cnt))
  | 0, _, _, _, h1, h2 => by omega
  | m + 1, f, cnt, hf, h1, h2 => by
    rw [wideF, atom1, badI]
    by_cases c : 64 ≤ cnt
    · rw [if_pos (.inr c)]
      congr 1
      omega
    · rw [if_neg (by omega), badI]
      simp only [Fst.size, Nat.add_zero, Fst.toks, List.length_nil]
      rw [wide_bad m f (cnt + 1) hf (by omega) (by omega)]
      simp only
      congr 1
      simp
      omega
theorem all_ok {m : Nat} (h : m < 64) : badI (allF m) 8 0 = none := badI_none _ _ _ (by unfold allF; simp only [Fst.depth]; have := wideF_depth m; omega) (fun _ => by unfold allF; simp only [Fst.size, wideF_size]; omega)
theorem all_bad {m : Nat} (h : 64 ≤ m) : badI (allF m) 8 0 = some (2 + 6 * 63) := by
  rw [allF, badI, if_neg (by omega), wide_bad m 7 1 (by omega) (by omega) (by omega)]
  rfl
/-- The tokens ahead of the first one that is too deep. -/
def deepA (k : Nat) : Nat → List Tok
  | 0 => []
  | f + 1 => tokO :: tokW (wordK k) :: deepA k f
theorem deepA_len (k : Nat) : ∀ f, (deepA k f).length = 2 * f
  | 0 => rfl
  | f + 1 => by simp only [deepA, List.length_cons, deepA_len k f]; omega
theorem deep_toks {k : Nat} (hk : k ≠ 0) : ∀ (f n : Nat), f ≤ n → ∃ r, (deepF k n).toks = deepA k f ++ tokO :: r
  | 0, 0, _ => ⟨_, rfl⟩
  | 0, n + 1, _ => ⟨_, rfl⟩
  | f + 1, 0, h => by omega
  | f + 1, n + 1, h => by
    obtain ⟨r, e⟩ := deep_toks hk f n (by omega)
    refine ⟨r ++ tokC :: [], ?_⟩
    simp only [deepF, Fst.toks, if_neg hk, e, deepA]
    simp
def wideA : Nat → List Tok
  | 0 => []
  | m + 1 => tokO :: tokW (wordK 0) :: tokN 1 :: tokN 1 :: tokN 1 :: tokC :: wideA m
theorem wideA_len : ∀ m, (wideA m).length = 6 * m
  | 0 => rfl
  | m + 1 => by simp only [wideA, List.length_cons, wideA_len m]; omega
theorem wide_toks : ∀ (j m : Nat), j < m → ∃ r, (wideF m).toks = wideA j ++ tokO :: r
  | 0, 0, h => by omega
  | 0, m + 1, _ => ⟨_, rfl⟩
  | j + 1, 0, h => by omega
  | j + 1, m + 1, h => by
    obtain ⟨r, e⟩ := wide_toks j m (by omega)
    refine ⟨r, ?_⟩
    simp only [wideF, atom1, Fst.toks, if_pos, e, wideA]
    simp
theorem tail_gap {t u : Tok} {l : List Tok} (h : gapB t u = true) : (tailG t (u :: l)).length = 1 + u.text.length + (tailG u l).length := by
  rw [tailG, h, if_pos rfl]
  simp only [List.length_append, List.length_cons, List.length_nil]
  omega
theorem tail_no {t u : Tok} {l : List Tok} (h : gapB t u = false) : (tailG t (u :: l)).length = u.text.length + (tailG u l).length := by
  rw [tailG, h, if_neg (by decide)]
  simp only [List.length_append, List.length_nil]
  omega
theorem gap_open {t : Tok} (ht : t.kind ≠ 2) : gapB t tokO = true := by unfold gapB; rw [show (t.kind != 2) = true from bne_iff_ne.2 ht]; rfl
theorem dig1 : digG 1 = [49] := by rw [digG, if_pos (by decide)]; rfl
theorem dig2 : digG 2 = [50] := by rw [digG, if_pos (by decide)]; rfl
theorem dec1 : decS 1 = [49] := by rw [decS_of (by decide)]; exact dig1
theorem dec2 : decS 2 = [50] := by rw [decS_of (by decide)]; exact dig2
theorem tokN1 : (tokN 1).text.length = 1 := by show (digG 1).length = 1; rw [dig1]; rfl
theorem tokN2 : (tokN 2).text.length = 1 := by show (digG 2).length = 1; rw [dig2]; rfl
theorem deepA_tail (k : Nat) : ∀ (f : Nat) (t : Tok), t.kind ≠ 2 → (tailG t (deepA k f ++ [tokO])).length = f * (2 + (wordK k).length) + 2
  | 0, t, ht => by
    rw [deepA, List.nil_append, tail_gap (gap_open ht)]
    simp [tailG, tokO]
  | f + 1, t, ht => by
    rw [deepA, List.cons_append, List.cons_append, tail_gap (gap_open ht), tail_no (show gapB tokO (tokW (wordK k)) = false from rfl), deepA_tail k f (tokW (wordK k)) (by show (0 : Nat) ≠ 2; decide), Nat.succ_mul]
    have l1 : tokO.text.length = 1 := rfl
    have l2 : (tokW (wordK k)).text.length = (wordK k).length := rfl
    omega
theorem wideA_tail : ∀ (j : Nat) (t : Tok), t.kind ≠ 2 → (tailG t (wideA j ++ [tokO])).length = j * 13 + 2
  | 0, t, ht => by
    rw [wideA, List.nil_append, tail_gap (gap_open ht)]
    simp [tailG, tokO]
  | j + 1, t, ht => by
    simp only [wideA, List.cons_append]
    rw [tail_gap (gap_open ht), tail_no (show gapB tokO (tokW (wordK 0)) = false from rfl), tail_gap (show gapB (tokW (wordK 0)) (tokN 1) = true from rfl), tail_gap (show gapB (tokN 1) (tokN 1) = true from rfl), tail_gap (show gapB (tokN 1) (tokN 1) = true from rfl), tail_no (show gapB (tokN 1) tokC = false from rfl), wideA_tail j tokC (by decide)]
    have l1 : tokO.text.length = 1 := rfl
    have l2 : (tokW (wordK 0)).text.length = 4 := rfl
    have l3 := tokN1
    have l4 : tokC.text.length = 1 := rfl
    omega
theorem pre_tail (l : List Tok) : (tailG (tokW wFrom) (tokN 1 :: tokW wTo :: tokN 2 :: tokL :: l)).length = 8 + (tailG tokL l).length := by
  rw [tail_gap (show gapB (tokW wFrom) (tokN 1) = true from rfl), tail_gap (show gapB (tokN 1) (tokW wTo) = true from rfl), tail_gap (show gapB (tokW wTo) (tokN 2) = true from rfl), tail_no (show gapB (tokN 2) tokL = false from rfl)]
  have l1 := tokN1
  have l2 := tokN2
  have l3 : (tokW wTo).text.length = 2 := rfl
  have l4 : tokL.text.length = 1 := rfl
  omega
theorem okN12 : okN 1 ∧ okN 2 := ⟨⟨by decide, by decide⟩, by decide, by decide⟩
/-- The place of the term that is too deep. -/
theorem deep_place {k n : Nat} (hk : k ≠ 0) (h : 8 ≤ n) : ((placeG 0 (tokD 1 2 (deepF k n))).getD (5 + 2 * 8) tk0).pos = 13 + 8 * (2 + (wordK k).length) := by
  obtain ⟨r, e⟩ := deep_toks hk 8 n h
  have hp := place_pos (tokN 1 :: tokW wTo :: tokN 2 :: tokL :: deepA k 8) (tokW wFrom) tokO r 0
  unfold tokD
  rw [e]
  have hl : (tokN 1 :: tokW wTo :: tokN 2 :: tokL :: deepA k 8).length + 1 = 5 + 2 * 8 := by simp only [List.length_cons, deepA_len]
  rw [hl] at hp
  have ht : (tailG (tokW wFrom) (tokN 1 :: tokW wTo :: tokN 2 :: tokL :: deepA k 8 ++ [tokO])).length = 8 + (tailG tokL (deepA k 8 ++ [tokO])).length := pre_tail _
  rw [List.length_append, ht, deepA_tail k 8 tokL (by decide)] at hp
  have l1 : tokO.text.length = 1 := rfl
  have l2 : (tokW wFrom).text.length = 4 := rfl
  rw [l1, l2] at hp
  simp only [List.cons_append] at hp
  omega
theorem wide_place {m : Nat} (h : 64 ≤ m) : ((placeG 0 (tokD 1 2 (allF m))).getD (5 + (2 + 6 * 63)) tk0).pos = 18 + 63 * 13 := by
  obtain ⟨r, e⟩ := wide_toks 63 m (by omega)
  have ea : (allF m).toks = tokO :: tokW (wordK 4) :: (wideA 63 ++ tokO :: (r ++ [tokC])) := by
    simp only [allF, Fst.toks, e]
    simp
  have hp := place_pos (tokN 1 :: tokW wTo :: tokN 2 :: tokL :: tokO :: tokW (wordK 4) :: wideA 63) (tokW wFrom) tokO (r ++ [tokC]) 0
  unfold tokD
  rw [ea]
  have hl : (tokN 1 :: tokW wTo :: tokN 2 :: tokL :: tokO :: tokW (wordK 4) :: wideA 63).length + 1 = 5 + (2 + 6 * 63) := by simp only [List.length_cons, wideA_len]
  rw [hl] at hp
  have ht : (tailG (tokW wFrom) (tokN 1 :: tokW wTo :: tokN 2 :: tokL :: tokO :: tokW (wordK 4) :: wideA 63 ++ [tokO])).length = 13 + (tailG (tokW (wordK 4)) (wideA 63 ++ [tokO])).length := by
    simp only [List.cons_append]
    rw [pre_tail, tail_gap (show gapB tokL tokO = true from rfl), tail_no (show gapB tokO (tokW (wordK 4)) = false from rfl)]
    have l1 : tokO.text.length = 1 := rfl
    have l2 : (tokW (wordK 4)).text.length = 3 := rfl
    omega
  rw [List.length_append, ht, wideA_tail 63 _ (by show (0 : Nat) ≠ 2; decide)] at hp
  have l1 : tokO.text.length = 1 := rfl
  have l2 : (tokW wFrom).text.length = 4 := rfl
  rw [l1, l2] at hp
  simp only [List.cons_append] at hp
  omega
/-- Their texts. -/
def pre12 : List UInt8 := [102, 114, 111, 109, 32, 49, 32, 116, 111, 32, 50, 58, 32]
def atomS : List UInt8 := [40, 97, 116, 111, 109, 32, 49, 32, 49, 32, 49, 41]
def openS (k : Nat) : Nat → List UInt8
  | 0 => []
  | n + 1 => openS k n ++ (40 :: (wordK k ++ [32]))
def closeS (n : Nat) : List UInt8 := List.replicate n 41
def deepS (k n : Nat) : List UInt8 := pre12 ++ openS k n ++ (atomS ++ closeS n)
def wideS : Nat → List UInt8
  | 0 => [102, 114, 111, 109, 32, 49, 32, 116, 111, 32, 50, 58, 32, 40, 97, 108, 108]
  | m + 1 => wideS m ++ 32 :: atomS
theorem openS_front (k : Nat) : ∀ n, openS k (n + 1) = 40 :: (wordK k ++ 32 :: openS k n)
  | 0 => by simp [openS]
  | n + 1 => by
    show openS k (n + 1) ++ (40 :: (wordK k ++ [32])) = 40 :: (wordK k ++ 32 :: (openS k n ++ (40 :: (wordK k ++ [32]))))
    rw [openS_front k n]
    simp
theorem atom1_text (next : Fst) : textF (atom1 next) = 32 :: (atomS ++ textF next) := by
  rw [atom1, textF, if_pos rfl, textF]
  simp only [Int.natCast_one]
  rw [dec1]
  rfl
theorem deep_body {k : Nat} (hk : k ≠ 0) : ∀ n, textF (deepF k n) = 32 :: (openS k n ++ (atomS ++ closeS n))
  | 0 => by rw [deepF, atom1_text]; rfl
  | n + 1 => by
    rw [deepF, textF, if_neg hk, deep_body hk n, openS_front]
    simp [closeS, List.replicate_succ']
    rfl
theorem deep_text {k : Nat} (hk : k ≠ 0) (n : Nat) : printF 1 2 (deepF k n) = deepS k n := by
  unfold printF
  rw [deep_body hk n]
  unfold deepS
  rw [dec1, dec2]
  simp [wFrom, wTo, pre12]
def atomsS : Nat → List UInt8
  | 0 => []
  | m + 1 => atomsS m ++ 32 :: atomS
theorem atomsS_front : ∀ m, atomsS (m + 1) = 32 :: (atomS ++ atomsS m)
  | 0 => by simp [atomsS]
  | m + 1 => by
    show atomsS (m + 1) ++ 32 :: atomS = 32 :: (atomS ++ (atomsS m ++ 32 :: atomS))
    rw [atomsS_front m]
    simp
theorem wide_body : ∀ m, textF (wideF m) = atomsS m
  | 0 => rfl
  | m + 1 => by
    rw [wideF, atom1_text, wide_body m, atomsS_front]
theorem wideS_eq : ∀ m, wideS m = [102, 114, 111, 109, 32, 49, 32, 116, 111, 32, 50, 58, 32, 40, 97, 108, 108] ++ atomsS m
  | 0 => rfl
  | m + 1 => by rw [wideS, wideS_eq m, atomsS]; simp
theorem wide_text (m : Nat) : printF 1 2 (allF m) = wideS m ++ [41] := by
  unfold printF allF
  rw [textF, wide_body, wideS_eq]
  rw [dec1, dec2]
  simp [wFrom, wTo, wordK, textF]
theorem openS_len (k : Nat) : ∀ n, (openS k n).length = n * (2 + (wordK k).length)
  | 0 => by simp [openS]
  | n + 1 => by
    rw [openS, List.length_append, openS_len k n, Nat.succ_mul]
    simp
    omega
theorem deepS_len (k n : Nat) : (deepS k n).length = 25 + n * (3 + (wordK k).length) := by
  unfold deepS closeS
  simp only [List.length_append, openS_len, List.length_replicate]
  rw [Nat.mul_add, Nat.mul_add]
  simp only [pre12, atomS, List.length_cons, List.length_nil]
  omega
theorem wideS_len : ∀ m, (wideS m).length = 17 + 13 * m
  | 0 => rfl
  | m + 1 => by
    rw [wideS, List.length_append, wideS_len m]
    simp only [atomS, List.length_cons, List.length_nil]
    omega
/-- What the statement on depth asks. -/
theorem deep_parse {k n : Nat} (hk : 1 ≤ k ∧ k ≤ 4) (hn : n < 20) : parseS (deepS k n) = if n < 8 then (⟨1, 2, (deepF k n).flat⟩, 0, 0) else (df0, 13 + 8 * (2 + (wordK k).length), 80) := by
  have hk0 : k ≠ 0 := by omega
  have hw : (wordK k).length ≤ 5 := by
    have : k = 1 ∨ k = 2 ∨ k = 3 ∨ k = 4 := by omega
    rcases this with rfl | rfl | rfl | rfl <;> decide
  have hlen : (deepS k n).length ≤ 4096 := by
    rw [deepS_len]
    have := Nat.mul_le_mul (show n ≤ 20 by omega) (show 3 + (wordK k).length ≤ 8 by omega)
    omega
  rw [← deep_text hk0 n] at hlen ⊢
  rw [print_text okN12.1 okN12.2 (deepF_wf hk n)] at hlen ⊢
  rw [parse_text okN12.1 okN12.2 (deepF_wf hk n) (deepF_len k n) hlen]
  by_cases c : n < 8
  · rw [if_pos c, deep_ok c]
  · rw [if_neg c, deep_bad hk0 8 0 n (by omega) (by omega)]
    simp only
    rw [deep_place hk0 (by omega)]
theorem wide_parse {m : Nat} (h0 : 0 < m) (hm : m ≤ 100) : parseS (wideS m ++ [41]) = if m < 64 then (⟨1, 2, (allF m).flat⟩, 0, 0) else (df0, 18 + 63 * 13, 80) := by
  have hlen : (wideS m ++ [41]).length ≤ 4096 := by rw [List.length_append, wideS_len]; simp; omega
  rw [← wide_text m] at hlen ⊢
  rw [print_text okN12.1 okN12.2 (allF_wf h0)] at hlen ⊢
  rw [parse_text okN12.1 okN12.2 (allF_wf h0) rfl hlen]
  by_cases c : m < 64
  · rw [if_pos c, all_ok c]
  · rw [if_neg c, all_bad (by omega)]
    simp only
    rw [wide_place (by omega)]
theorem all_flat_len (m : Nat) : (allF m).flat.length = m + 1 := by rw [flat_len]; unfold allF; simp only [Fst.size, wideF_size]
end Go.Proofs.YtioalnncjahlnaaGreatDoor

namespace Go.Proofs.YtioalnncjahlnaaGreatDoor
open Go.ChangeShapes Go.WideShapes Go.ChangeAt Go.RowKit
attribute [local irreducible] Go.Calls

/-- What Parse hands back, where the answer is known. -/
def ParIs (w : World) (d : Df) (p : Nat) (er : Int) (e : Ending) (w' : World) : Prop := ∃ (a : Option Addr) (cap : Nat), e = .returned (.tuple #[defV d.fr d.to' a d.T.length cap, .int .i64 p, .int .i64 er]) ∧ d.T.length ≤ cap ∧ cap ≤ 9223372036854775807 ∧ ArgP w' a d.T ∧ Below w.heap.size w w'
/-- Are two definitions the same? -/
def sameD (d e : Df) : Bool := decide (d = e)
theorem df_iff {d e : Df} : d = e ↔ d.fr = e.fr ∧ d.to' = e.to' ∧ d.T = e.T := by
  obtain ⟨a, b, c⟩ := d
  obtain ⟨a', b', c'⟩ := e
  simp
end Go.Proofs.YtioalnncjahlnaaGreatDoor
