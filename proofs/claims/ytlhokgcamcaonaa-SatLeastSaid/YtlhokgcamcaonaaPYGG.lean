/- The document's own answer of layer 10: Ends. Conditions: the slices read as parts that may be, as pieces; sizes. The document's own answer of layer 10: Short. Conditions: the slices read as parts that may be; sizes. The document's own answer of layer 10: Term. Conditions: the slices read as parts that may be, as pieces that may be; sizes. The document's own answer of layer 10: Term, of one kind. Conditions: the slices read as parts that may be, as pieces that may be; sizes. The document's own answer of layer 10: Term, of one kind. Conditions: the slices read as parts that may be, as pieces that may be; sizes. The document's own answer of layer 10: Term, of one kind. Conditions: the slices read as parts that may be, as pieces that may be; sizes. The document's own answer of layer 10: Term, of one kind. Conditions: the slices read as parts that may be, as pieces that may be; sizes. The document's own answer of layer 10: Term. Conditions: the slices read as parts that may be, as pieces that may be; sizes. What a witness uses at each time, as one canonical function; a piece more. No program. No conditions. Package sat's look, Sat, Term, Ends, Short. Conditions: the slices read as parts, as pieces; sizes. Package sat's Sat, Term, Ends, Short. Conditions: the slices read as parts, as pieces; sizes. -/
import Derived.Test.YtlhokgcamcaonaaPYGF
import Derived.Test.YtlhokgcamcaonaaPYGB
import Derived.Test.YtlhokgcamcaonaaPYGE
import Derived.Test.YtlhokgcamcaonaaPYGC
import Derived.Test.YtlhokgcamcaonaaPYMA
import Derived.Test.YtlhokgcamcaonaaPYGA
namespace Go.Proofs.Ytlhokgcamcaonaa
open Go.ChangeShapes Go.WideShapes Go.ChangeAt Go.RowKit
attribute [local irreducible] Go.Calls

/-- The parts' ticks are few. -/
def DOk (l : List Prt) : Prop := ∀ i, i < l.length → 0 ≤ (l.getD i pr0).d ∧ (l.getD i pr0).d ≤ 4096 ∧ (l.getD i pr0).n ≤ 4096
theorem dOk_tree {l : List Prt} (h : (treeS l).2 = 0) : DOk l := fun i hi => by
  have := badP_num (tree_part h hi).1
  exact ⟨this.2.2.2.1, this.2.2.2.2.1, this.2.1⟩
end Go.Proofs.Ytlhokgcamcaonaa

namespace Go.Proofs.Ytlhokgcamcaonaa
open Go.ChangeShapes Go.WideShapes Go.ChangeAt Go.RowKit
attribute [local irreducible] Go.Calls

/-- Between two children. -/
structure ShI (l : List Prt) (W : List Pc) (y : Prt) (K : Fst) (o : Nat) (D : List TI) (C : Fst) (oo : Nat) : Prop where
  tot : D ++ satF W C oo = satF W K (o + 1)
  pos : ∃ pre, posF K (o + 1) = pre ++ posF C oo ∧ pre.length = D.length
  atf : AtF l oo C
  fit : ∃ deep ink, C.fit deep ink
  siz : C.size ≤ K.size
  len : D.length + C.len = K.len
theorem ShI.start {l : List Prt} {W : List Pc} {y : Prt} {K : Fst} {o deep ink : Nat} (hat : AtF l o (.cons y K .nil)) (hfit : (Fst.cons y K .nil).fit deep ink) : ShI l W y K o [] K (o + 1) :=
  ⟨rfl, ⟨[], rfl, rfl⟩, hat.kids, ⟨_, _, hfit.2.2.2.1⟩, Nat.le_refl _, by simp⟩
theorem ShI.next {l : List Prt} {W : List Pc} {y : Prt} {K : Fst} {o : Nat} {D : List TI} {x : Prt} {Kx N : Fst} {oo : Nat} (h : ShI l W y K o D (.cons x Kx N) oo) : ShI l W y K o (D ++ [satI W x Kx oo]) N (oo + 1 + Kx.size) := by
  obtain ⟨pre, h1, h2⟩ := h.pos
  obtain ⟨deep, ink, hf⟩ := h.fit
  refine ⟨by rw [← h.tot, satF_cons]; simp, ⟨pre ++ [oo], by rw [h1, posF]; simp, by simp [h2]⟩, h.atf.next, ⟨deep, ink, hf.2.2.2.2⟩, by have := h.siz; simp only [Fst.size] at this; omega, by have := h.len; simp only [Fst.len] at this; simp; omega⟩
theorem ShI.place {l : List Prt} {W : List Pc} {y : Prt} {K : Fst} {o : Nat} {D : List TI} {x : Prt} {Kx N : Fst} {oo : Nat} (h : ShI l W y K o D (.cons x Kx N) oo) : (natsI (posF K (o + 1))).getD D.length 0 = (oo : Int) := by
  obtain ⟨pre, h1, h2⟩ := h.pos
  rw [h1, posF, natsI_app, List.getD_eq_getElem?_getD, List.getElem?_append_right (by rw [natsI_len]; omega), natsI_len, h2, Nat.sub_self]; rfl
theorem at_size {l : List Prt} {o : Nat} {y : Prt} {K : Fst} (hat : AtF l o (.cons y K .nil)) : o + K.size < l.length := by
  have := hat.1 K.size (by simp only [Fst.size]; omega)
  have h2 : ((Fst.cons y K .nil).flat)[K.size]? ≠ none := by rw [ne_eq, List.getElem?_eq_none_iff, flat_len]; simp only [Fst.size]; omega
  rw [← this] at h2
  exact (List.getElem?_eq_some_iff.1 (Option.ne_none_iff_exists'.1 h2).choose_spec).1
end Go.Proofs.Ytlhokgcamcaonaa

namespace Go.Proofs.Ytlhokgcamcaonaa
open Go.ChangeShapes Go.WideShapes Go.ChangeAt Go.RowKit
attribute [local irreducible] Go.Calls

theorem pcs_atoms {l : List Prt} : ∀ {W : List Pc} {last : Int}, -1 ≤ last → pcsB l last W = true → Atoms l W
  | [], _, _, _, p, hp => by cases hp
  | q :: W, last, hl, h, p, hp => by
    simp only [pcsB, Bool.and_eq_true, decide_eq_true_eq] at h
    obtain ⟨h1, h2, h3, h4⟩ := h
    rcases List.mem_cons.1 hp with rfl | hp
    · exact ⟨by omega, h2, h3⟩
    · exact pcs_atoms (by omega) h4 p hp
theorem end_at {l : List Prt} {x : Prt} {Kx N : Fst} {oo : Nat} (h : AtF l oo (.cons x Kx N)) : endS l oo = oo + 1 + Kx.size := h.2.1
end Go.Proofs.Ytlhokgcamcaonaa

namespace Go.Proofs.Ytlhokgcamcaonaa
open Go.ChangeShapes Go.WideShapes Go.ChangeAt Go.RowKit
attribute [local irreducible] Go.Calls

end Go.Proofs.Ytlhokgcamcaonaa

namespace Go.Proofs.Ytlhokgcamcaonaa
open Go.ChangeShapes Go.WideShapes Go.ChangeAt Go.RowKit
attribute [local irreducible] Go.Calls

end Go.Proofs.Ytlhokgcamcaonaa

namespace Go.Proofs.Ytlhokgcamcaonaa
open Go.ChangeShapes Go.WideShapes Go.ChangeAt Go.RowKit
attribute [local irreducible] Go.Calls

end Go.Proofs.Ytlhokgcamcaonaa

namespace Go.Proofs.Ytlhokgcamcaonaa
open Go.ChangeShapes Go.WideShapes Go.ChangeAt Go.RowKit
attribute [local irreducible] Go.Calls

end Go.Proofs.Ytlhokgcamcaonaa

namespace Go.Proofs.Ytlhokgcamcaonaa
open Go.ChangeShapes Go.WideShapes Go.ChangeAt Go.RowKit
attribute [local irreducible] Go.Calls

end Go.Proofs.Ytlhokgcamcaonaa

namespace Go.Proofs.Ytlhokgcamcaonaa

/-- The pieces and the unit are within bounds. -/
structure UseOk (l : List Prt) (m c : Int) (W : List Pc) : Prop where
  atoms : Atoms l W
  parts : ∀ i, i < l.length → 0 ≤ (l.getD i pr0).d ∧ (l.getD i pr0).d ≤ 4096 ∧ (l.getD i pr0).n ≤ 4096
  times : ∀ p ∈ W, -1099511627776 ≤ p.2 ∧ p.2 ≤ 1099511627776
  len : W.length ≤ 64
  mem : 1 ≤ m ∧ m ≤ 1073741824
  cor : 1 ≤ c ∧ c ≤ 1073741824
def dP (l : List Prt) (p : Pc) : Int := (l.getD p.1.toNat pr0).d
def nP (l : List Prt) (p : Pc) : Int := (l.getD p.1.toNat pr0).n
def onP (l : List Prt) (t : Int) (p : Pc) : Bool := decide (p.2 ≤ t) && decide (t < p.2 + dP l p)
/-- How many units are used at a time. -/
def boxN (l : List Prt) (W : List Pc) (t : Int) : Int := W.foldl (fun n p => if onP l t p then n + nP l p else n) 0
theorem boxN_snoc (l : List Prt) (W : List Pc) (p : Pc) (t : Int) : boxN l (W ++ [p]) t = if onP l t p then boxN l W t + nP l p else boxN l W t := by
  unfold boxN; rw [List.foldl_append]; rfl
theorem boxN_congr (l : List Prt) {s t : Int} : ∀ (W : List Pc) (n : Int), (∀ p ∈ W, onP l s p = onP l t p) → W.foldl (fun n p => if onP l s p then n + nP l p else n) n = W.foldl (fun n p => if onP l t p then n + nP l p else n) n
  | [], _, _ => rfl
  | p :: W, n, h => by
    rw [List.foldl_cons, List.foldl_cons, h p (by simp)]
    exact boxN_congr l W _ fun q hq => h q (List.mem_cons_of_mem _ hq)
theorem boxN_zero (l : List Prt) {t : Int} : ∀ (W : List Pc) (n : Int), (∀ p ∈ W, onP l t p = false) → W.foldl (fun n p => if onP l t p then n + nP l p else n) n = n
  | [], _, _ => rfl
  | p :: W, n, h => by
    rw [List.foldl_cons, h p (by simp)]
    exact boxN_zero l W _ fun q hq => h q (List.mem_cons_of_mem _ hq)
def useV (l : List Prt) (m c : Int) (W : List Pc) (t : Int) : Int × Int := (boxN l W t * m, boxN l W t * c)
def rawTs (l : List Prt) (W : List Pc) : List Int := W.flatMap fun p => [p.2, p.2 + dP l p]
def useTs (l : List Prt) (W : List Pc) : List Int := timesL (rawTs l W)
def useL (l : List Prt) (m c : Int) (W : List Pc) : List Sg := buildL (useV l m c W) (useTs l W)
theorem rawTs_len (l : List Prt) (W : List Pc) : (rawTs l W).length = W.length * 2 := by
  unfold rawTs
  induction W with
  | nil => rfl
  | cons p W ih => rw [List.flatMap_cons, List.length_append, ih]; simp; omega
section
variable {l : List Prt} {m c : Int} {W : List Pc}
theorem UseOk.np (h : UseOk l m c W) {p : Pc} (hp : p ∈ W) : 0 ≤ nP l p ∧ nP l p ≤ 4096 ∧ 0 ≤ dP l p ∧ dP l p ≤ 4096 := by
  obtain ⟨a1, a2, _⟩ := h.atoms p hp
  have := h.parts p.1.toNat (by omega)
  unfold nP dP
  omega
theorem boxN_bd {t : Int} : ∀ (W : List Pc) (n : Int), (∀ p ∈ W, 0 ≤ nP l p ∧ nP l p ≤ 4096) → n ≤ W.foldl (fun n p => if onP l t p then n + nP l p else n) n ∧ W.foldl (fun n p => if onP l t p then n + nP l p else n) n ≤ n + W.length * 4096
  | [], n, _ => by simp
  | p :: W, n, h => by
    rw [List.foldl_cons]
    have h1 := h p (by simp)
    have h2 := boxN_bd (t := t) W (if onP l t p then n + nP l p else n) fun q hq => h q (List.mem_cons_of_mem _ hq)
    have e : ((p :: W).length : Int) * 4096 = W.length * 4096 + 4096 := by simp; omega
    rw [e]
    split at h2 <;> rename_i hc <;> simp only [hc, if_true] <;> first | omega | (simp only [Bool.false_eq_true, if_false]; omega)
theorem UseOk.bd (h : UseOk l m c W) (t : Int) : 0 ≤ boxN l W t ∧ boxN l W t ≤ 262144 := by
  have := boxN_bd (t := t) W 0 fun p hp => ⟨(h.np hp).1, (h.np hp).2.1⟩
  have h2 := h.len
  have h3 : (W.length : Int) * 4096 ≤ 64 * 4096 := by omega
  unfold boxN
  omega
theorem UseOk.val (h : UseOk l m c W) (t : Int) : okV (useV l m c W t).1 (useV l m c W t).2 = true := by
  have hb := h.bd t
  have hm := h.mem; have hc := h.cor
  have e1 : 0 ≤ boxN l W t * m := Int.mul_nonneg hb.1 (by omega)
  have e2 : 0 ≤ boxN l W t * c := Int.mul_nonneg hb.1 (by omega)
  have e3 : boxN l W t * m ≤ 262144 * 1073741824 := Int.mul_le_mul hb.2 hm.2 (by omega) (by omega)
  have e4 : boxN l W t * c ≤ 262144 * 1073741824 := Int.mul_le_mul hb.2 hc.2 (by omega) (by omega)
  unfold okV useV
  simp only
  exact decide_eq_true (by omega)
theorem mem_raw {x : Int} : x ∈ rawTs l W ↔ ∃ p ∈ W, x = p.2 ∨ x = p.2 + dP l p := by
  unfold rawTs
  rw [List.mem_flatMap]
  constructor
  · rintro ⟨p, hp, hx⟩
    refine ⟨p, hp, ?_⟩
    simpa using hx
  · rintro ⟨p, hp, hx⟩
    exact ⟨p, hp, by simpa using hx⟩
theorem UseOk.time (h : UseOk l m c W) {x : Int} (hx : x ∈ rawTs l W) : okT x = true := by
  obtain ⟨p, hp, hx⟩ := mem_raw.1 hx
  have h1 := h.times p hp
  have h2 := h.np hp
  unfold okT
  exact decide_eq_true (by omega)
/-- The greatest of them that is not behind a time. -/
theorem last_of (t : Int) : ∀ ts : List Int, (∀ x ∈ ts, t < x) ∨ ∃ s ∈ ts, s ≤ t ∧ ∀ x ∈ ts, x ≤ t → x ≤ s
  | [] => .inl fun x hx => by cases hx
  | a :: ts => by
    rcases last_of t ts with h | ⟨s, h1, h2, h3⟩
    · by_cases c : a ≤ t
      · refine .inr ⟨a, by simp, c, fun x hx hxt => ?_⟩
        rcases List.mem_cons.1 hx with rfl | hx
        · exact Int.le_refl _
        · have := h x hx; omega
      · refine .inl fun x hx => ?_
        rcases List.mem_cons.1 hx with rfl | hx
        · omega
        · exact h x hx
    · by_cases c : a ≤ t ∧ s ≤ a
      · refine .inr ⟨a, by simp, c.1, fun x hx hxt => ?_⟩
        rcases List.mem_cons.1 hx with rfl | hx
        · exact Int.le_refl _
        · have := h3 x hx hxt; omega
      · refine .inr ⟨s, by simp [h1], h2, fun x hx hxt => ?_⟩
        rcases List.mem_cons.1 hx with rfl | hx
        · omega
        · exact h3 x hx hxt
theorem UseOk.gval (_h : UseOk l m c W) (t : Int) : gval (useV l m c W) (useTs l W) t = useV l m c W t := by
  have hm : ∀ x, x ∈ useTs l W ↔ x ∈ rawTs l W := fun x => timesL_mem
  rcases last_of t (useTs l W) with h1 | ⟨s, h1, h2, h3⟩
  · rw [gval_none _ _ rfl h1]
    have : boxN l W t = 0 := boxN_zero l W 0 fun p hp => by
      have := h1 p.2 ((hm _).2 (mem_raw.2 ⟨p, hp, .inl rfl⟩))
      unfold onP
      rw [decide_eq_false (show ¬ p.2 ≤ t by omega)]; rfl
    unfold useV
    rw [this]; simp
  · rw [gval_some _ (useTs l W) rfl (show (useTs l W).Pairwise (· < ·) from timesL_up _) h1 h2 h3]
    have : boxN l W s = boxN l W t := boxN_congr l W 0 fun p hp => by
      have a1 := h3 p.2 ((hm _).2 (mem_raw.2 ⟨p, hp, .inl rfl⟩))
      have a2 := h3 (p.2 + dP l p) ((hm _).2 (mem_raw.2 ⟨p, hp, .inr rfl⟩))
      unfold onP
      rw [Bool.eq_iff_iff]
      simp only [Bool.and_eq_true, decide_eq_true_eq]
      omega
    unfold useV
    rw [this]
/-- What is used is one canonical function of these values. -/
theorem UseOk.spec (h : UseOk l m c W) : mayB (useL l m c W) = true ∧ (∀ t, vat (useL l m c W) t = useV l m c W t) ∧ (useL l m c W).length ≤ 128 := by
  obtain ⟨h1, _, h3, h4⟩ := buildL_all (useV l m c W) _ (useTs l W) rfl (timesL_up _) fun t ht => by
    unfold okS
    rw [Bool.and_eq_true]
    exact ⟨h.time (timesL_mem.1 ht), h.val t⟩
  refine ⟨mayB_iff.2 h1, fun t => (h3 t).trans (h.gval t), ?_⟩
  have := timesL_len (rawTs l W)
  rw [rawTs_len] at this
  have h5 := h.len
  unfold useL
  unfold useTs at *
  omega
theorem doS_ofU {k : Int} {F G R : List Sg} (hF : mayB F = true) (hG : mayB G = true) (hR : mayB R = true) (h : ∀ t, opT k F G t = ((vat R t).1, (vat R t).2, 0)) : doS k F G = (R, 0) := by
  have hok : opOk k F G = true := opOk_iff.2 fun t => by rw [h t]
  unfold doS
  rw [hF, hG, if_neg (by decide), if_pos hok]
  rw [opL_unique (mayB_iff.1 hF) (mayB_iff.1 hG) hok (mayB_iff.1 hR) fun t => by unfold opW; rw [h t]]
theorem addS_okU {a b c d : Int} (h1 : okV a b = true) (h2 : okV c d = true) (h3 : okV (a + c) (b + d) = true) : addS a b c d = (a + c, b + d, 0) := by unfold addS; rw [h1, h2, h3]; rfl
theorem may_okU {F : List Sg} (h : mayB F = true) (t : Int) : okV (vat F t).1 (vat F t).2 = true := vat_ok (CF.ok (mayB_iff.1 h)) t
theorem doS_nilU {F : List Sg} (h : mayB F = true) : doS 0 [] F = (F, 0) := doS_ofU rfl h h fun t => by
  show addS 0 0 (vat F t).1 (vat F t).2 = _
  have := may_okU h t
  rw [addS_okU (by decide) this (by simpa using this)]
  simp
theorem vat_boxU {x y : Int} {v : Int × Int} (_h : x ≤ y) (t : Int) : vat (boxL x y v) t = if x ≤ t ∧ t < y then v else (0, 0) := by
  unfold boxL
  by_cases c : x = y ∨ v = (0, 0)
  · rw [if_pos c]
    show (0, 0) = _
    rcases c with c | c
    · rw [if_neg (by omega)]
    · rw [c]; split <;> rfl
  · rw [if_neg c]
    unfold vat
    simp only [List.foldl_cons, List.foldl_nil]
    unfold stepV
    by_cases k2 : y ≤ t
    · rw [if_pos k2, if_neg (by omega)]
    · rw [if_neg k2]
      by_cases k : x ≤ t
      · rw [if_pos k, if_pos ⟨k, by omega⟩]
      · rw [if_neg k, if_neg (by omega)]
/-- A piece more. -/
theorem use_step {p : Pc} (h : UseOk l m c (W ++ [p])) : ∃ B : List Sg, boxS p.2 (p.2 + dP l p) (nP l p * m, nP l p * c) = (B, 0) ∧ B.length ≤ 2 ∧ sumS [B, useL l m c W] = (useL l m c (W ++ [p]), 0) := by
  have hW : UseOk l m c W := ⟨fun q hq => h.atoms q (by simp [hq]), h.parts, fun q hq => h.times q (by simp [hq]), by have := h.len; simp at this; omega, h.mem, h.cor⟩
  have hn := h.np (p := p) (by simp)
  have ht := h.times p (by simp)
  have hm := h.mem; have hc := h.cor
  have e1 : 0 ≤ nP l p * m := Int.mul_nonneg hn.1 (by omega)
  have e2 : 0 ≤ nP l p * c := Int.mul_nonneg hn.1 (by omega)
  have e3 : nP l p * m ≤ 4096 * 1073741824 := Int.mul_le_mul hn.2.1 hm.2 (by omega) (by omega)
  have e4 : nP l p * c ≤ 4096 * 1073741824 := Int.mul_le_mul hn.2.1 hc.2 (by omega) (by omega)
  have ok1 : okS (p.2, (nP l p * m, nP l p * c)) = true := by
    unfold okS okT okV
    rw [Bool.and_eq_true]
    exact ⟨decide_eq_true (by simp only; omega), decide_eq_true (by simp only; omega)⟩
  have ok2 : okS (p.2 + dP l p, (0, 0)) = true := by
    unfold okS okT okV
    rw [Bool.and_eq_true]
    exact ⟨decide_eq_true (by simp only; omega), decide_eq_true (by simp only; omega)⟩
  have hB := boxL_of (x := p.2) (y := p.2 + dP l p) (v := (nP l p * m, nP l p * c)) (by omega) ok1 ok2
  refine ⟨boxL p.2 (p.2 + dP l p) (nP l p * m, nP l p * c), ?_, hB.2.2, ?_⟩
  · unfold boxS
    rw [if_neg (by omega), ok1, ok2]; rfl
  · have hBm : mayB (boxL p.2 (p.2 + dP l p) (nP l p * m, nP l p * c)) = true := mayB_iff.2 hB.1
    obtain ⟨u1, u2, _⟩ := hW.spec
    obtain ⟨v1, v2, _⟩ := h.spec
    unfold sumS
    rw [if_pos (by simp [hBm, u1])]
    unfold sumE
    simp only [List.foldl_cons, List.foldl_nil, if_true]
    rw [doS_nilU hBm]
    simp only [if_true]
    refine doS_ofU hBm u1 v1 fun t => ?_
    show addS _ _ _ _ = _
    have o1 := may_okU hBm t
    have o2 := may_okU u1 t
    have o3 := may_okU v1 t
    have key : ((vat (boxL p.2 (p.2 + dP l p) (nP l p * m, nP l p * c)) t).1 + (vat (useL l m c W) t).1, (vat (boxL p.2 (p.2 + dP l p) (nP l p * m, nP l p * c)) t).2 + (vat (useL l m c W) t).2) = vat (useL l m c (W ++ [p])) t := by
      rw [vat_boxU (by omega), u2, v2]
      unfold useV
      rw [boxN_snoc]
      unfold onP
      by_cases q1 : p.2 ≤ t ∧ t < p.2 + dP l p
      · rw [if_pos q1, decide_eq_true q1.1, decide_eq_true q1.2]
        simp only [Bool.and_self, if_true, Int.add_mul]
        exact Prod.ext (by simp only; omega) (by simp only; omega)
      · rw [if_neg q1]
        have : (decide (p.2 ≤ t) && decide (t < p.2 + dP l p)) = false := by
          rw [Bool.eq_false_iff]
          intro hq
          simp only [Bool.and_eq_true, decide_eq_true_eq] at hq
          exact q1 hq
        rw [this]
        simp
    have k1 := congrArg Prod.fst key
    have k2 := congrArg Prod.snd key
    simp only at k1 k2
    rw [addS_okU o1 o2 (by rw [k1, k2]; exact o3), k1, k2]
end
end Go.Proofs.Ytlhokgcamcaonaa

namespace Go.Proofs.Ytlhokgcamcaonaa
open Go.ChangeShapes Go.WideShapes Go.ChangeAt Go.RowKit
attribute [local irreducible] Go.Calls

def tiZ : TI := ⟨p00, 0, none, false⟩
def lookT (er : Int) (t : TI) : TI := if er = 0 then t else tiZ
def LkPost (w : World) (t : TI) (er : Int) (e : Ending) (w' : World) : Prop := ∃ k : TV, k.t = t ∧ e = .returned (.tuple #[.agg k.arr, .int .i64 er]) ∧ Below w.heap.size w w'
/-- What is known of the part at a place. -/
def Here (l : List Prt) (W : List Pc) (z : Int) (t : TI) : Prop := ∃ (y : Prt) (K : Fst) (deep ink o : Nat), AtF l o (.cons y K .nil) ∧ (Fst.cons y K .nil).fit deep ink ∧ t = satI W y K o ∧ z = (o : Int)
theorem wrong_zero {fr to' : Int} {l : List Prt} {fits : Bool} {W : List Pc} (h : wrongS fr to' l fits W = 0) : (chkS fr to' l).2 = 0 ∧ fits = true ∧ pcsB l (-1) W = true ∧ farB W = false := by
  unfold wrongS at h
  split at h
  · cases h
  · rename_i h1
    split at h
    · cases h
    · rename_i h2
      split at h
      · cases h
      · rename_i h3
        refine ⟨by omega, ?_, ?_, by simpa using h3⟩
        · cases fits
          · exact absurd (.inl rfl) h2
          · rfl
        · cases hp : pcsB l (-1) W
          · exact absurd (.inr hp) h2
          · rfl
theorem far_ok {W : List Pc} (h : farB W = false) : PcOk W := by
  intro p hp
  unfold farB at h
  rw [List.any_eq_false] at h
  have := h p hp
  unfold isFarB at this
  simp at this
  omega
set_option maxHeartbeats 4000000 in
set_option maxRecDepth 100000 in
theorem look_c (fr to' : Int) (l : List Prt) (W : List Pc) (a wa : Option Addr) (cap wcap : Nat) (z : Int) (t : TI) (w : World) (hl : l.length ≤ 9223372036854775807) (hWl : W.length ≤ 100000) (hA : ArgP w a l) (hW : ArgVs w wa W) (hf : -9223372036854775808 ≤ fr ∧ fr ≤ 9223372036854775807) (ht : -9223372036854775808 ≤ to' ∧ to' ≤ 9223372036854775807) (hz : -9223372036854775808 ≤ z ∧ z ≤ 9223372036854775807) (hh : wrongS fr to' l (decide (0 ≤ z ∧ z < (l.length : Int))) W = 0 → Here l W z t) :
    Calls Try.prog 24 #[def8 fr to' a l.length cap, .slice wa W.length wcap, .int .i64 z] w (LkPost w (lookT (wrongS fr to' l (decide (0 ≤ z ∧ z < (l.length : Int))) W) t) (wrongS fr to' l (decide (0 ≤ z ∧ z < (l.length : Int))) W)) := by
  obtain ⟨E, hE⟩ : ∃ E, wrongS fr to' l (decide (0 ≤ z ∧ z < (l.length : Int))) W = E := ⟨_, rfl⟩
  have HER := hidE hE
  rw [hE] at hh ⊢
  have HH := hidE hh
  clear hE hh
  by_cases z0 : 0 ≤ z
  · have q0 : decide (0 ≤ z) = true := decide_eq_true z0
    by_cases z1 : z < (l.length : Int)
    · have q1 : decide (z < (l.length : Int)) = true := decide_eq_true z1
      have hfit : decide (0 ≤ z ∧ z < (l.length : Int)) = true := decide_eq_true ⟨z0, z1⟩
      have HWR := hidE (fun (w' : World) (h : Below w.heap.size w w') => wrong_c fr to' l W a wa cap wcap true w' hl (by omega) (hA.past h) (hW.past h) hf ht)
      rw [hfit] at HER
      clear hfit
      obtain ⟨er, her⟩ : ∃ er, wrongS fr to' l true W = er := ⟨_, rfl⟩
      rw [her] at HWR HER
      have HE2 := hidE her
      have HA := hidE hA; have HW := hidE hW
      obtain rfl : er = E := HER.out
      clear her hA hW
      go_enter Try.func24, Try.ntmps24
      go_wp2_with fail
      ((with_reducible refine (HWR.out _ (by (repeat (first | exact Below.refl _ _ | assumption | refine balloc ?_ _ | refine below_drewN ?_ _ | refine bstep (by assumption) ?_ | refine bstep (Past.prop _) ?_ | refine Below.setCell ?_ (by first | exact Nat.le_refl _ | (simp; done) | (simp; omega)) _)))).mono ?_); rintro e w1 ⟨rfl, hb1⟩)
      have hd := ((Blk.made w #[.int .i64 fr, .int .i64 to', .slice a l.length cap] 24).alloc (.cells ti0 69)).past hb1
      have hr := (Blk.made_at (w.alloc (.cells #[.int .i64 fr, .int .i64 to', .slice a l.length cap] 24)) ti0 69 (w.heap.size + 1) (by simp)).past hb1
      have hb := (show Below w.heap.size w ((w.alloc (.cells #[.int .i64 fr, .int .i64 to', .slice a l.length cap] 24)).alloc (.cells ti0 69)) from by (repeat (first | exact Below.refl _ _ | assumption | refine balloc ?_ _ | refine below_drewN ?_ _ | refine bstep (by assumption) ?_ | refine bstep (Past.prop _) ?_ | refine Below.setCell ?_ (by first | exact Nat.le_refl _ | (simp; done) | (simp; omega)) _))).trans (hb1.mono (by simp; omega))
      obtain ⟨rb, hrb⟩ : ∃ r, r = w.heap.size + 1 := ⟨_, rfl⟩
      rw [← hrb] at hr ⊢
      have hrz : w.heap.size < rb := by omega
      have e2 := hd.cell 2; have dz := hd.lt
      simp at e2
      have HB := hidE hb; have HR := hidE hr
      clear hb1 hd hb hr hrb
      by_cases h0 : er = 0
      · subst h0
        obtain ⟨y, K, deep, ink, o, hat, hfit, rfl, hzo⟩ := HH.out rfl
        subst hzo
        have hwz := wrong_zero HE2.out
        have hck := chk_ok hwz.1
        have HT := hidE (term_c l W a wa cap wcap hck.2.2.2.2 hck.2.2.1 hWl (far_ok hwz.2.2.2) (K.size + 1) y K o deep ink w1 (Nat.lt_succ_self _) hat hfit (HA.out.past HB.out) (HW.out.past HB.out))
        clear hat hfit hwz hck
        go_wp2_with fail
        ((with_reducible refine HT.out.mono ?_); rintro e w2 ⟨k, hk, rfl, hb2⟩)
        have HK := hidE hk
        have hr2 := HR.out.past hb2
        have s0 := hr2.free 0; have s1 := hr2.free 1; have s2 := hr2.free 2; have s3 := hr2.free 3; have s4 := hr2.free 4; have s5 := hr2.free 5; have s6 := hr2.free 6; have s7 := hr2.free 7; have s8 := hr2.free 8; have s9 := hr2.free 9; have s10 := hr2.free 10
        have r0 := hr2.cell 0; have r1 := hr2.cell 1; have r2 := hr2.cell 2; have r3 := hr2.cell 3; have r4 := hr2.cell 4; have r5 := hr2.cell 5; have r6 := hr2.cell 6; have r7 := hr2.cell 7; have r8 := hr2.cell 8; have r9 := hr2.cell 9; have r10 := hr2.cell 10; have rz := hr2.lt
        simp at r0 r1 r2 r3 r4 r5 r6 r7 r8 r9 r10
        have HR2 := hidE hr2; have HB2 := hidE (HB.out.trans (hb2.mono HB.out.size))
        clear hk hr2 hb2 HT e2 dz
        go_wp2
        have hfin : Blk (put11 w2 rb k) rb k.arr 69 := put11_blk (x := p00) (v := .slice none 0 0) (n := 0) (s := none) (b := false) HR2.out k
        have HBF := hidE (Below.grown HB2.out (put11_grown w2 rb k) HB2.out.size (fun q e => by cases e; omega))
        have x0 := hfin.cell 0; have x1 := hfin.cell 1; have x2 := hfin.cell 2; have x3 := hfin.cell 3; have x4 := hfin.cell 4; have x5 := hfin.cell 5; have x6 := hfin.cell 6; have x7 := hfin.cell 7; have x8 := hfin.cell 8; have x9 := hfin.cell 9; have x10 := hfin.cell 10
        simp at x0 x1 x2 x3 x4 x5 x6 x7 x8 x9 x10
        change bodyPost _ _ _ _ _ (put11 w2 rb k)
        clear hfin HR2 HB2 r0 s0 r1 s1 r2 s2 r3 s3 r4 s4 r5 s5 r6 s6 r7 s7 r8 s8 r9 s9 r10 s10 rz
        generalize put11 w2 rb k = wf at *
        exact bodyPost_ret (v := .tuple #[.agg k.arr, .int .i64 0]) (by simp [results, Try.results24, go_sem, x0, x1, x2, x3, x4, x5, x6, x7, x8, x9, x10]) rfl ⟨k, by unfold lookT; rw [if_pos rfl]; exact HK.out, rfl, HBF.out⟩
      · have r0 : (er != 0) = true := bne_iff_ne.2 h0
        have HN := hidE (show lookT er t = tiZ by unfold lookT; rw [if_neg h0])
        have s0 := HR.out.free 0; have s1 := HR.out.free 1; have s2 := HR.out.free 2; have s3 := HR.out.free 3; have s4 := HR.out.free 4; have s5 := HR.out.free 5; have s6 := HR.out.free 6; have s7 := HR.out.free 7; have s8 := HR.out.free 8; have s9 := HR.out.free 9; have s10 := HR.out.free 10
        have r0 := HR.out.cell 0; have r1 := HR.out.cell 1; have r2 := HR.out.cell 2; have r3 := HR.out.cell 3; have r4 := HR.out.cell 4; have r5 := HR.out.cell 5; have r6 := HR.out.cell 6; have r7 := HR.out.cell 7; have r8 := HR.out.cell 8; have r9 := HR.out.cell 9; have r10 := HR.out.cell 10; have rz := HR.out.lt
        simp at r0 r1 r2 r3 r4 r5 r6 r7 r8 r9 r10
        clear h0 e2 dz
        go_wp2
        have hfin : Blk (put11 w1 rb (⟨tiZ, none, 0, 0⟩ : TV)) rb (⟨tiZ, none, 0, 0⟩ : TV).arr 69 := put11_blk (x := p00) (v := .slice none 0 0) (n := 0) (s := none) (b := false) HR.out (⟨tiZ, none, 0, 0⟩ : TV)
        have HBF := hidE (Below.grown HB.out (put11_grown w1 rb (⟨tiZ, none, 0, 0⟩ : TV)) HB.out.size (fun q e => by cases e; omega))
        have x0 := hfin.cell 0; have x1 := hfin.cell 1; have x2 := hfin.cell 2; have x3 := hfin.cell 3; have x4 := hfin.cell 4; have x5 := hfin.cell 5; have x6 := hfin.cell 6; have x7 := hfin.cell 7; have x8 := hfin.cell 8; have x9 := hfin.cell 9; have x10 := hfin.cell 10
        simp at x0 x1 x2 x3 x4 x5 x6 x7 x8 x9 x10
        change bodyPost _ _ _ _ _ (put11 w1 rb (⟨tiZ, none, 0, 0⟩ : TV))
        clear hfin HR HB r0 s0 r1 s1 r2 s2 r3 s3 r4 s4 r5 s5 r6 s6 r7 s7 r8 s8 r9 s9 r10 s10 rz
        generalize put11 w1 rb (⟨tiZ, none, 0, 0⟩ : TV) = wf at *
        exact bodyPost_ret (v := .tuple #[.agg (⟨tiZ, none, 0, 0⟩ : TV).arr, .int .i64 er]) (by simp [results, Try.results24, go_sem, x0, x1, x2, x3, x4, x5, x6, x7, x8, x9, x10]) rfl ⟨(⟨tiZ, none, 0, 0⟩ : TV), by rw [HN.out], rfl, HBF.out⟩

    · have q1 : decide (z < (l.length : Int)) = false := decide_eq_false z1
      have hfit : decide (0 ≤ z ∧ z < (l.length : Int)) = false := decide_eq_false fun h => z1 h.2
      have HWR := hidE (fun (w' : World) (h : Below w.heap.size w w') => wrong_c fr to' l W a wa cap wcap false w' hl (by omega) (hA.past h) (hW.past h) hf ht)
      rw [hfit] at HER
      clear hfit
      obtain ⟨er, her⟩ : ∃ er, wrongS fr to' l false W = er := ⟨_, rfl⟩
      rw [her] at HWR HER
      have HE2 := hidE her
      have HA := hidE hA; have HW := hidE hW
      obtain rfl : er = E := HER.out
      clear her hA hW
      go_enter Try.func24, Try.ntmps24
      go_wp2_with fail
      ((with_reducible refine (HWR.out _ (by (repeat (first | exact Below.refl _ _ | assumption | refine balloc ?_ _ | refine below_drewN ?_ _ | refine bstep (by assumption) ?_ | refine bstep (Past.prop _) ?_ | refine Below.setCell ?_ (by first | exact Nat.le_refl _ | (simp; done) | (simp; omega)) _)))).mono ?_); rintro e w1 ⟨rfl, hb1⟩)
      have hd := ((Blk.made w #[.int .i64 fr, .int .i64 to', .slice a l.length cap] 24).alloc (.cells ti0 69)).past hb1
      have hr := (Blk.made_at (w.alloc (.cells #[.int .i64 fr, .int .i64 to', .slice a l.length cap] 24)) ti0 69 (w.heap.size + 1) (by simp)).past hb1
      have hb := (show Below w.heap.size w ((w.alloc (.cells #[.int .i64 fr, .int .i64 to', .slice a l.length cap] 24)).alloc (.cells ti0 69)) from by (repeat (first | exact Below.refl _ _ | assumption | refine balloc ?_ _ | refine below_drewN ?_ _ | refine bstep (by assumption) ?_ | refine bstep (Past.prop _) ?_ | refine Below.setCell ?_ (by first | exact Nat.le_refl _ | (simp; done) | (simp; omega)) _))).trans (hb1.mono (by simp; omega))
      obtain ⟨rb, hrb⟩ : ∃ r, r = w.heap.size + 1 := ⟨_, rfl⟩
      rw [← hrb] at hr ⊢
      have hrz : w.heap.size < rb := by omega
      have e2 := hd.cell 2; have dz := hd.lt
      simp at e2
      have HB := hidE hb; have HR := hidE hr
      clear hb1 hd hb hr hrb
      by_cases h0 : er = 0
      · subst h0
        exact absurd (wrong_zero HE2.out).2.1 (by decide)
      · have r0 : (er != 0) = true := bne_iff_ne.2 h0
        have HN := hidE (show lookT er t = tiZ by unfold lookT; rw [if_neg h0])
        have s0 := HR.out.free 0; have s1 := HR.out.free 1; have s2 := HR.out.free 2; have s3 := HR.out.free 3; have s4 := HR.out.free 4; have s5 := HR.out.free 5; have s6 := HR.out.free 6; have s7 := HR.out.free 7; have s8 := HR.out.free 8; have s9 := HR.out.free 9; have s10 := HR.out.free 10
        have r0 := HR.out.cell 0; have r1 := HR.out.cell 1; have r2 := HR.out.cell 2; have r3 := HR.out.cell 3; have r4 := HR.out.cell 4; have r5 := HR.out.cell 5; have r6 := HR.out.cell 6; have r7 := HR.out.cell 7; have r8 := HR.out.cell 8; have r9 := HR.out.cell 9; have r10 := HR.out.cell 10; have rz := HR.out.lt
        simp at r0 r1 r2 r3 r4 r5 r6 r7 r8 r9 r10
        clear h0 e2 dz
        go_wp2
        have hfin : Blk (put11 w1 rb (⟨tiZ, none, 0, 0⟩ : TV)) rb (⟨tiZ, none, 0, 0⟩ : TV).arr 69 := put11_blk (x := p00) (v := .slice none 0 0) (n := 0) (s := none) (b := false) HR.out (⟨tiZ, none, 0, 0⟩ : TV)
        have HBF := hidE (Below.grown HB.out (put11_grown w1 rb (⟨tiZ, none, 0, 0⟩ : TV)) HB.out.size (fun q e => by cases e; omega))
        have x0 := hfin.cell 0; have x1 := hfin.cell 1; have x2 := hfin.cell 2; have x3 := hfin.cell 3; have x4 := hfin.cell 4; have x5 := hfin.cell 5; have x6 := hfin.cell 6; have x7 := hfin.cell 7; have x8 := hfin.cell 8; have x9 := hfin.cell 9; have x10 := hfin.cell 10
        simp at x0 x1 x2 x3 x4 x5 x6 x7 x8 x9 x10
        change bodyPost _ _ _ _ _ (put11 w1 rb (⟨tiZ, none, 0, 0⟩ : TV))
        clear hfin HR HB r0 s0 r1 s1 r2 s2 r3 s3 r4 s4 r5 s5 r6 s6 r7 s7 r8 s8 r9 s9 r10 s10 rz
        generalize put11 w1 rb (⟨tiZ, none, 0, 0⟩ : TV) = wf at *
        exact bodyPost_ret (v := .tuple #[.agg (⟨tiZ, none, 0, 0⟩ : TV).arr, .int .i64 er]) (by simp [results, Try.results24, go_sem, x0, x1, x2, x3, x4, x5, x6, x7, x8, x9, x10]) rfl ⟨(⟨tiZ, none, 0, 0⟩ : TV), by rw [HN.out], rfl, HBF.out⟩

  · have q0 : decide (0 ≤ z) = false := decide_eq_false z0
    have hfit : decide (0 ≤ z ∧ z < (l.length : Int)) = false := decide_eq_false fun h => z0 h.1
    have HWR := hidE (fun (w' : World) (h : Below w.heap.size w w') => wrong_c fr to' l W a wa cap wcap false w' hl (by omega) (hA.past h) (hW.past h) hf ht)
    rw [hfit] at HER
    clear hfit
    obtain ⟨er, her⟩ : ∃ er, wrongS fr to' l false W = er := ⟨_, rfl⟩
    rw [her] at HWR HER
    have HE2 := hidE her
    have HA := hidE hA; have HW := hidE hW
    obtain rfl : er = E := HER.out
    clear her hA hW
    go_enter Try.func24, Try.ntmps24
    go_wp2_with fail
    ((with_reducible refine (HWR.out _ (by (repeat (first | exact Below.refl _ _ | assumption | refine balloc ?_ _ | refine below_drewN ?_ _ | refine bstep (by assumption) ?_ | refine bstep (Past.prop _) ?_ | refine Below.setCell ?_ (by first | exact Nat.le_refl _ | (simp; done) | (simp; omega)) _)))).mono ?_); rintro e w1 ⟨rfl, hb1⟩)
    have hd := ((Blk.made w #[.int .i64 fr, .int .i64 to', .slice a l.length cap] 24).alloc (.cells ti0 69)).past hb1
    have hr := (Blk.made_at (w.alloc (.cells #[.int .i64 fr, .int .i64 to', .slice a l.length cap] 24)) ti0 69 (w.heap.size + 1) (by simp)).past hb1
    have hb := (show Below w.heap.size w ((w.alloc (.cells #[.int .i64 fr, .int .i64 to', .slice a l.length cap] 24)).alloc (.cells ti0 69)) from by (repeat (first | exact Below.refl _ _ | assumption | refine balloc ?_ _ | refine below_drewN ?_ _ | refine bstep (by assumption) ?_ | refine bstep (Past.prop _) ?_ | refine Below.setCell ?_ (by first | exact Nat.le_refl _ | (simp; done) | (simp; omega)) _))).trans (hb1.mono (by simp; omega))
    obtain ⟨rb, hrb⟩ : ∃ r, r = w.heap.size + 1 := ⟨_, rfl⟩
    rw [← hrb] at hr ⊢
    have hrz : w.heap.size < rb := by omega
    have e2 := hd.cell 2; have dz := hd.lt
    simp at e2
    have HB := hidE hb; have HR := hidE hr
    clear hb1 hd hb hr hrb
    by_cases h0 : er = 0
    · subst h0
      exact absurd (wrong_zero HE2.out).2.1 (by decide)
    · have r0 : (er != 0) = true := bne_iff_ne.2 h0
      have HN := hidE (show lookT er t = tiZ by unfold lookT; rw [if_neg h0])
      have s0 := HR.out.free 0; have s1 := HR.out.free 1; have s2 := HR.out.free 2; have s3 := HR.out.free 3; have s4 := HR.out.free 4; have s5 := HR.out.free 5; have s6 := HR.out.free 6; have s7 := HR.out.free 7; have s8 := HR.out.free 8; have s9 := HR.out.free 9; have s10 := HR.out.free 10
      have r0 := HR.out.cell 0; have r1 := HR.out.cell 1; have r2 := HR.out.cell 2; have r3 := HR.out.cell 3; have r4 := HR.out.cell 4; have r5 := HR.out.cell 5; have r6 := HR.out.cell 6; have r7 := HR.out.cell 7; have r8 := HR.out.cell 8; have r9 := HR.out.cell 9; have r10 := HR.out.cell 10; have rz := HR.out.lt
      simp at r0 r1 r2 r3 r4 r5 r6 r7 r8 r9 r10
      clear h0 e2 dz
      go_wp2
      have hfin : Blk (put11 w1 rb (⟨tiZ, none, 0, 0⟩ : TV)) rb (⟨tiZ, none, 0, 0⟩ : TV).arr 69 := put11_blk (x := p00) (v := .slice none 0 0) (n := 0) (s := none) (b := false) HR.out (⟨tiZ, none, 0, 0⟩ : TV)
      have HBF := hidE (Below.grown HB.out (put11_grown w1 rb (⟨tiZ, none, 0, 0⟩ : TV)) HB.out.size (fun q e => by cases e; omega))
      have x0 := hfin.cell 0; have x1 := hfin.cell 1; have x2 := hfin.cell 2; have x3 := hfin.cell 3; have x4 := hfin.cell 4; have x5 := hfin.cell 5; have x6 := hfin.cell 6; have x7 := hfin.cell 7; have x8 := hfin.cell 8; have x9 := hfin.cell 9; have x10 := hfin.cell 10
      simp at x0 x1 x2 x3 x4 x5 x6 x7 x8 x9 x10
      change bodyPost _ _ _ _ _ (put11 w1 rb (⟨tiZ, none, 0, 0⟩ : TV))
      clear hfin HR HB r0 s0 r1 s1 r2 s2 r3 s3 r4 s4 r5 s5 r6 s6 r7 s7 r8 s8 r9 s9 r10 s10 rz
      generalize put11 w1 rb (⟨tiZ, none, 0, 0⟩ : TV) = wf at *
      exact bodyPost_ret (v := .tuple #[.agg (⟨tiZ, none, 0, 0⟩ : TV).arr, .int .i64 er]) (by simp [results, Try.results24, go_sem, x0, x1, x2, x3, x4, x5, x6, x7, x8, x9, x10]) rfl ⟨(⟨tiZ, none, 0, 0⟩ : TV), by rw [HN.out], rfl, HBF.out⟩

end Go.Proofs.Ytlhokgcamcaonaa

namespace Go.Proofs.Ytlhokgcamcaonaa
open Go.ChangeShapes Go.WideShapes Go.ChangeAt Go.RowKit
attribute [local irreducible] Go.Calls

set_option maxHeartbeats 2000000 in
set_option maxRecDepth 100000 in
theorem satTerm_c (fr to' : Int) (l : List Prt) (W : List Pc) (a wa : Option Addr) (cap wcap : Nat) (z er : Int) (t : TI) (w : World) (hl : l.length ≤ 9223372036854775807) (hWl : W.length ≤ 100000) (hA : ArgP w a l) (hW : ArgVs w wa W) (hf : -9223372036854775808 ≤ fr ∧ fr ≤ 9223372036854775807) (ht : -9223372036854775808 ≤ to' ∧ to' ≤ 9223372036854775807) (hz : -9223372036854775808 ≤ z ∧ z ≤ 9223372036854775807) (her : wrongS fr to' l (decide (0 ≤ z ∧ z < (l.length : Int))) W = er) (hh : er = 0 → Here l W z t) : Calls Try.prog 9 #[def8 fr to' a l.length cap, .slice wa W.length wcap, .int .i64 z] w fun e w' => e = .returned (.tuple #[.bool (lookT er t).ok, .int .i64 er]) ∧ Below w.heap.size w w' := by
  have HLK := hidE (fun (w' : World) (h : Below w.heap.size w w') => by
    have := look_c fr to' l W a wa cap wcap z t w' hl hWl (hA.past h) (hW.past h) hf ht hz (by rw [her]; exact hh)
    rw [her] at this
    exact this)
  clear hA hW her hh
  generalize lookT er t = t2 at *
  go_enter Try.func9, Try.ntmps9
  go_wp2_with fail
  ((with_reducible refine (HLK.out _ (by (repeat (first | exact Below.refl _ _ | assumption | refine balloc ?_ _ | refine below_drewN ?_ _ | refine bstep (by assumption) ?_ | refine bstep (Past.prop _) ?_ | refine Below.setCell ?_ (by first | exact Nat.le_refl _ | (simp; done) | (simp; omega)) _)))).mono ?_); rintro e w1 ⟨k, hk, rfl, hb1⟩)
  have HK := hidE hk
  have hb := (show Below w.heap.size w (w.alloc (.cells #[.int .i64 fr, .int .i64 to', .slice a l.length cap] 24)) from by (repeat (first | exact Below.refl _ _ | assumption | refine balloc ?_ _ | refine below_drewN ?_ _ | refine bstep (by assumption) ?_ | refine bstep (Past.prop _) ?_ | refine Below.setCell ?_ (by first | exact Nat.le_refl _ | (simp; done) | (simp; omega)) _))).trans (hb1.mono (by simp))
  have hd := (Blk.made w #[.int .i64 fr, .int .i64 to', .slice a l.length cap] 24).past hb1
  have e0 := hd.cell 0; have e1 := hd.cell 1; have dz := hd.lt
  simp at e0 e1
  have HB := hidE hb
  clear hb1 hd hb hk
  go_wp2
  go_ret2
  exact ⟨by rw [← HK.out]; rfl, HB.out.trans ((show Below w1.heap.size w1 _ from by (repeat (first | exact Below.refl _ _ | assumption | refine balloc ?_ _ | refine below_drewN ?_ _ | refine bstep (by assumption) ?_ | refine bstep (Past.prop _) ?_ | refine Below.setCell ?_ (by first | exact Nat.le_refl _ | (simp; done) | (simp; omega)) _))).mono HB.out.size)⟩
set_option maxHeartbeats 2000000 in
set_option maxRecDepth 100000 in
theorem satEnds_c (fr to' : Int) (l : List Prt) (W : List Pc) (a wa : Option Addr) (cap wcap : Nat) (z er : Int) (t : TI) (w : World) (hl : l.length ≤ 9223372036854775807) (hWl : W.length ≤ 100000) (hA : ArgP w a l) (hW : ArgVs w wa W) (hf : -9223372036854775808 ≤ fr ∧ fr ≤ 9223372036854775807) (ht : -9223372036854775808 ≤ to' ∧ to' ≤ 9223372036854775807) (hz : -9223372036854775808 ≤ z ∧ z ≤ 9223372036854775807) (her : wrongS fr to' l (decide (0 ≤ z ∧ z < (l.length : Int))) W = er) (hh : er = 0 → Here l W z t) : Calls Try.prog 10 #[def8 fr to' a l.length cap, .slice wa W.length wcap, .int .i64 z] w fun e w' => e = .returned (.tuple #[.int .i64 (seB (lookT er t).se), .int .i64 (seE (lookT er t).se), .bool (lookT er t).se.isSome, .int .i64 er]) ∧ Below w.heap.size w w' := by
  have HLK := hidE (fun (w' : World) (h : Below w.heap.size w w') => by
    have := look_c fr to' l W a wa cap wcap z t w' hl hWl (hA.past h) (hW.past h) hf ht hz (by rw [her]; exact hh)
    rw [her] at this
    exact this)
  clear hA hW her hh
  generalize lookT er t = t2 at *
  go_enter Try.func10, Try.ntmps10
  go_wp2_with fail
  ((with_reducible refine (HLK.out _ (by (repeat (first | exact Below.refl _ _ | assumption | refine balloc ?_ _ | refine below_drewN ?_ _ | refine bstep (by assumption) ?_ | refine bstep (Past.prop _) ?_ | refine Below.setCell ?_ (by first | exact Nat.le_refl _ | (simp; done) | (simp; omega)) _)))).mono ?_); rintro e w1 ⟨k, hk, rfl, hb1⟩)
  have HK := hidE hk
  have hb := (show Below w.heap.size w (w.alloc (.cells #[.int .i64 fr, .int .i64 to', .slice a l.length cap] 24)) from by (repeat (first | exact Below.refl _ _ | assumption | refine balloc ?_ _ | refine below_drewN ?_ _ | refine bstep (by assumption) ?_ | refine bstep (Past.prop _) ?_ | refine Below.setCell ?_ (by first | exact Nat.le_refl _ | (simp; done) | (simp; omega)) _))).trans (hb1.mono (by simp))
  have hd := (Blk.made w #[.int .i64 fr, .int .i64 to', .slice a l.length cap] 24).past hb1
  have e0 := hd.cell 0; have e1 := hd.cell 1; have dz := hd.lt
  simp at e0 e1
  have HB := hidE hb
  clear hb1 hd hb hk
  go_wp2
  go_quiet (fail)
  go_wp2
  refine bodyPost_ret (v := .tuple #[.int .i64 (seB k.t.se), .int .i64 (seE k.t.se), .bool k.t.se.isSome, .int .i64 er]) (by simp [results, Try.results10, go_sem]) rfl ?_
  exact ⟨by rw [← HK.out], HB.out.trans ((show Below w1.heap.size w1 _ from by (repeat (first | exact Below.refl _ _ | assumption | refine balloc ?_ _ | refine below_drewN ?_ _ | refine bstep (by assumption) ?_ | refine bstep (Past.prop _) ?_ | refine Below.setCell ?_ (by first | exact Nat.le_refl _ | (simp; done) | (simp; omega)) _))).mono HB.out.size)⟩
set_option maxHeartbeats 2000000 in
set_option maxRecDepth 100000 in
theorem satShort_c (fr to' : Int) (l : List Prt) (a : Option Addr) (cap : Nat) (z er : Int) (t : TI) (w : World) (hl : l.length ≤ 9223372036854775807) (hA : ArgP w a l) (hf : -9223372036854775808 ≤ fr ∧ fr ≤ 9223372036854775807) (ht : -9223372036854775808 ≤ to' ∧ to' ≤ 9223372036854775807) (hz : -9223372036854775808 ≤ z ∧ z ≤ 9223372036854775807) (her : wrongS fr to' l (decide (0 ≤ z ∧ z < (l.length : Int))) [] = er) (hh : er = 0 → Here l [] z t) :
    Calls Try.prog 13 #[def8 fr to' a l.length cap, .int .i64 z] w fun e w' => e = .returned (.tuple #[.int .i64 (lookT er t).len, .int .i64 er]) ∧ Below w.heap.size w w' := by
  have HLK := hidE (fun (w' : World) (h : Below w.heap.size w w') => by
    have := look_c fr to' l [] a none cap 0 z t w' hl (by simp) (hA.past h) (fun h => by simp at h) hf ht hz (by rw [her]; exact hh)
    rw [her, List.length_nil] at this
    exact this)
  clear hA her hh
  generalize lookT er t = t2 at *
  go_enter Try.func13, Try.ntmps13
  go_wp2_with fail
  ((with_reducible refine (HLK.out _ (by (repeat (first | exact Below.refl _ _ | assumption | refine balloc ?_ _ | refine below_drewN ?_ _ | refine bstep (by assumption) ?_ | refine bstep (Past.prop _) ?_ | refine Below.setCell ?_ (by first | exact Nat.le_refl _ | (simp; done) | (simp; omega)) _)))).mono ?_); rintro e w1 ⟨k, hk, rfl, hb1⟩)
  have HK := hidE hk
  have hb := (show Below w.heap.size w (w.alloc (.cells #[.int .i64 fr, .int .i64 to', .slice a l.length cap] 24)) from by (repeat (first | exact Below.refl _ _ | assumption | refine balloc ?_ _ | refine below_drewN ?_ _ | refine bstep (by assumption) ?_ | refine bstep (Past.prop _) ?_ | refine Below.setCell ?_ (by first | exact Nat.le_refl _ | (simp; done) | (simp; omega)) _))).trans (hb1.mono (by simp))
  have hd := (Blk.made w #[.int .i64 fr, .int .i64 to', .slice a l.length cap] 24).past hb1
  have e0 := hd.cell 0; have e1 := hd.cell 1; have dz := hd.lt
  simp at e0 e1
  have HB := hidE hb
  clear hb1 hd hb hk
  go_wp2
  go_ret2
  exact ⟨by rw [← HK.out]; rfl, HB.out.trans ((show Below w1.heap.size w1 _ from by (repeat (first | exact Below.refl _ _ | assumption | refine balloc ?_ _ | refine below_drewN ?_ _ | refine bstep (by assumption) ?_ | refine bstep (Past.prop _) ?_ | refine Below.setCell ?_ (by first | exact Nat.le_refl _ | (simp; done) | (simp; omega)) _))).mono HB.out.size)⟩
set_option maxHeartbeats 2000000 in
set_option maxRecDepth 100000 in
theorem satSat_c (fr to' : Int) (l : List Prt) (W : List Pc) (a wa : Option Addr) (cap wcap : Nat) (er : Int) (t : TI) (w : World) (hl : l.length ≤ 9223372036854775807) (hWl : W.length ≤ 100000) (hA : ArgP w a l) (hW : ArgVs w wa W) (hf : -9223372036854775808 ≤ fr ∧ fr ≤ 9223372036854775807) (ht : -9223372036854775808 ≤ to' ∧ to' ≤ 9223372036854775807) (her : wrongS fr to' l (decide ((0 : Int) ≤ 0 ∧ 0 < (l.length : Int))) W = er) (hh : er = 0 → Here l W 0 t) :
    Calls Try.prog 15 #[def8 fr to' a l.length cap, .slice wa W.length wcap] w fun e w' => e = .returned (.bool ((lookT er t).ok && (decide (fr ≤ seB (lookT er t).se) && decide (seE (lookT er t).se ≤ to')))) ∧ Below w.heap.size w w' := by
  have HLK := hidE (fun (w' : World) (h : Below w.heap.size w w') => by
    have := look_c fr to' l W a wa cap wcap 0 t w' hl hWl (hA.past h) (hW.past h) hf ht (by omega) (by rw [her]; exact hh)
    rw [her] at this
    exact this)
  clear hA hW her hh
  generalize lookT er t = t2 at *
  go_enter Try.func15, Try.ntmps15
  go_wp2_with fail
  ((with_reducible refine (HLK.out _ (by (repeat (first | exact Below.refl _ _ | assumption | refine balloc ?_ _ | refine below_drewN ?_ _ | refine bstep (by assumption) ?_ | refine bstep (Past.prop _) ?_ | refine Below.setCell ?_ (by first | exact Nat.le_refl _ | (simp; done) | (simp; omega)) _)))).mono ?_); rintro e w1 ⟨k, hk, rfl, hb1⟩)
  have HK := hidE hk
  have hb := (show Below w.heap.size w (w.alloc (.cells #[.int .i64 fr, .int .i64 to', .slice a l.length cap] 24)) from by (repeat (first | exact Below.refl _ _ | assumption | refine balloc ?_ _ | refine below_drewN ?_ _ | refine bstep (by assumption) ?_ | refine bstep (Past.prop _) ?_ | refine Below.setCell ?_ (by first | exact Nat.le_refl _ | (simp; done) | (simp; omega)) _))).trans (hb1.mono (by simp))
  have hd := (Blk.made w #[.int .i64 fr, .int .i64 to', .slice a l.length cap] 24).past hb1
  have e0 := hd.cell 0; have e1 := hd.cell 1; have dz := hd.lt
  simp at e0 e1
  have HB := hidE hb
  clear hb1 hd hb hk
  obtain ⟨v, hv⟩ : ∃ v, v = (k.t.ok && (decide (fr ≤ seB k.t.se) && decide (seE k.t.se ≤ to'))) := ⟨_, rfl⟩
  have HV := hidE (show (t2.ok && (decide (fr ≤ seB t2.se) && decide (seE t2.se ≤ to'))) = v by rw [← HK.out, hv])
  obtain ⟨ok, hok⟩ : ∃ ok, k.t.ok = ok := ⟨_, rfl⟩
  obtain ⟨b1, hb1⟩ : ∃ b1, decide (fr ≤ seB k.t.se) = b1 := ⟨_, rfl⟩
  obtain ⟨b2, hb2⟩ : ∃ b2, decide (seE k.t.se ≤ to') = b2 := ⟨_, rfl⟩
  rw [hok, hb1, hb2] at hv
  have HVV := hidE hv
  clear hv
  cases ok with
  | false =>
    go_wp2
    go_ret
    exact ⟨by rw [HV.out, HVV.out]; rfl, HB.out.trans ((show Below w1.heap.size w1 _ from by (repeat (first | exact Below.refl _ _ | assumption | refine balloc ?_ _ | refine below_drewN ?_ _ | refine bstep (by assumption) ?_ | refine bstep (Past.prop _) ?_ | refine Below.setCell ?_ (by first | exact Nat.le_refl _ | (simp; done) | (simp; omega)) _))).mono HB.out.size)⟩
  | true =>
    cases b1 with
    | false =>
      go_wp2
      go_ret
      exact ⟨by rw [HV.out, HVV.out]; rfl, HB.out.trans ((show Below w1.heap.size w1 _ from by (repeat (first | exact Below.refl _ _ | assumption | refine balloc ?_ _ | refine below_drewN ?_ _ | refine bstep (by assumption) ?_ | refine bstep (Past.prop _) ?_ | refine Below.setCell ?_ (by first | exact Nat.le_refl _ | (simp; done) | (simp; omega)) _))).mono HB.out.size)⟩
    | true =>
      go_wp2
      go_ret
      exact ⟨by rw [HV.out, HVV.out, ← hb2]; rfl, HB.out.trans ((show Below w1.heap.size w1 _ from by (repeat (first | exact Below.refl _ _ | assumption | refine balloc ?_ _ | refine below_drewN ?_ _ | refine bstep (by assumption) ?_ | refine bstep (Past.prop _) ?_ | refine Below.setCell ?_ (by first | exact Nat.le_refl _ | (simp; done) | (simp; omega)) _))).mono HB.out.size)⟩
end Go.Proofs.Ytlhokgcamcaonaa
