/- Sums of many functions of small values: no order, no overflow. No program. No conditions. Slices of slices of runs, and slices of int64, that are handed in. No conditions. CalcSums answers true for every row of lists of runs, and every list of times. No conditions but that the lists lie within their capacities. CalcSums: for every row of lists of runs, and every list of times, the statement's function answers true and leaves its arguments alone. No conditions. -/
import Derived.Test.YtgbgnpdfjoeonaaJE
import Derived.Test.YtgbgnpdfjoeonaaJF
import Derived.Test.YtgbgnpdfjoeonaaJD
import Derived.Test.YtgbgnpdfjoeonaaJX
import Derived.Test.YtgbgnpdfjoeonaaCalcOrderR
import Derived.Deep.LoopGhost
namespace Go.Proofs.Ytgbgnpdfjoeonaa

def smallV (v : Int × Int) : Prop := -1099511627776 ≤ v.1 ∧ v.1 ≤ 1099511627776 ∧ -1099511627776 ≤ v.2 ∧ v.2 ≤ 1099511627776
/-- A canonical function of small values. -/
def smallF (f : List Sg) : Prop := mayB f = true ∧ ∀ s ∈ f, smallV s.2
theorem vat_small {f : List Sg} (h : ∀ s ∈ f, smallV s.2) (t : Int) : smallV (vat f t) := by
  have : ∀ (l : List Sg) (acc : Int × Int), (∀ s ∈ l, smallV s.2) → smallV acc → smallV (l.foldl (stepV t) acc) := by
    intro l
    induction l with
    | nil => intro acc _ h; exact h
    | cons s r ih =>
      intro acc hl ha
      rw [List.foldl_cons]
      refine ih _ (fun y hy => hl y (List.mem_cons_of_mem _ hy)) ?_
      unfold stepV; split
      · exact hl s (by simp)
      · exact ha
  exact this f (0, 0) h (by unfold smallV; simp)
def s1 (L : List (List Sg)) (t : Int) : Int := (L.map fun f => (vat f t).1).sum
def s2 (L : List (List Sg)) (t : Int) : Int := (L.map fun f => (vat f t).2).sum
theorem s_step {L : List (List Sg)} {n : Nat} (h : n < L.length) (t : Int) : s1 (L.take (n + 1)) t = s1 (L.take n) t + (vat (L.getD n []) t).1 ∧ s2 (L.take (n + 1)) t = s2 (L.take n) t + (vat (L.getD n []) t).2 := by
  unfold s1 s2
  rw [List.take_succ_eq_append_getElem h, getD_get _ _ _ h, List.map_append, List.map_append, List.sum_append, List.sum_append]
  constructor <;> simp only [List.map_cons, List.map_nil, List.sum_cons, List.sum_nil, Int.add_zero]
theorem s_bound {L : List (List Sg)} (h : ∀ f ∈ L, smallF f) (t : Int) : ∀ n, n ≤ L.length → (-1099511627776 * (n : Int) ≤ s1 (L.take n) t ∧ s1 (L.take n) t ≤ 1099511627776 * (n : Int)) ∧ (-1099511627776 * (n : Int) ≤ s2 (L.take n) t ∧ s2 (L.take n) t ≤ 1099511627776 * (n : Int))
  | 0, _ => by simp [s1, s2]
  | n + 1, hn => by
    obtain ⟨⟨a1, a2⟩, b1, b2⟩ := s_bound h t n (by omega)
    obtain ⟨e1, e2⟩ := s_step (L := L) (n := n) (by omega) t
    have hm : L.getD n [] ∈ L := by rw [getD_get _ _ _ (by omega)]; exact List.getElem_mem _
    obtain ⟨c1, c2, c3, c4⟩ := vat_small (h _ hm).2 t
    rw [e1, e2]
    omega
theorem s_add {L : List (List Sg)} (h : ∀ f ∈ L, smallF f) (hl : L.length ≤ 8) (t : Int) {n : Nat} (hn : n < L.length) :
    addS (s1 (L.take n) t) (s2 (L.take n) t) (vat (L.getD n []) t).1 (vat (L.getD n []) t).2 = (s1 (L.take (n + 1)) t, s2 (L.take (n + 1)) t, 0) := by
  obtain ⟨e1, e2⟩ := s_step hn t
  have hm : L.getD n [] ∈ L := by rw [getD_get _ _ _ hn]; exact List.getElem_mem _
  obtain ⟨⟨a1, a2⟩, b1, b2⟩ := s_bound h t n (by omega)
  obtain ⟨⟨a3, a4⟩, b3, b4⟩ := s_bound h t (n + 1) (by omega)
  rw [e1] at a3 a4; rw [e2] at b3 b4
  rw [addS_ok (okV_iff.2 (by omega)) (may_ok (h _ hm).1 t) (okV_iff.2 (by omega)), e1, e2]
theorem sumE_small {L : List (List Sg)} (h : ∀ f ∈ L, smallF f) (hl : L.length ≤ 8) : ∀ n, n ≤ L.length → (sumE (L.take n)).2 = 0 ∧ mayB (sumE (L.take n)).1 = true ∧ ∀ t, vat (sumE (L.take n)).1 t = (s1 (L.take n) t, s2 (L.take n) t)
  | 0, _ => ⟨rfl, rfl, fun t => rfl⟩
  | n + 1, hn => by
    obtain ⟨h0, hm, hv⟩ := sumE_small h hl n (by omega)
    have hlt : n < L.length := by omega
    rw [sumE_step hlt h0]
    have hgm : L.getD n [] ∈ L := by rw [getD_get _ _ _ hlt]; exact List.getElem_mem _
    have hg := (h _ hgm).1
    have hok : opOk 0 (sumE (L.take n)).1 (L.getD n []) = true := opOk_iff.2 fun t => by
      show (addS (vat (sumE (L.take n)).1 t).1 (vat (sumE (L.take n)).1 t).2 (vat (L.getD n []) t).1 (vat (L.getD n []) t).2).2.2 = 0
      rw [hv t, s_add h hl t hlt]
    have e : doS 0 (sumE (L.take n)).1 (L.getD n []) = (opL 0 (sumE (L.take n)).1 (L.getD n []), 0) := by unfold doS; rw [hm, hg, if_neg (by decide), if_pos hok]
    obtain ⟨_, _, hm', hv'⟩ := doS_vals e
    rw [e]
    refine ⟨rfl, hm', fun t => ?_⟩
    have q : opT 0 (sumE (L.take n)).1 (L.getD n []) t = addS (vat (sumE (L.take n)).1 t).1 (vat (sumE (L.take n)).1 t).2 (vat (L.getD n []) t).1 (vat (L.getD n []) t).2 := rfl
    have := hv' t
    rw [q, hv t, s_add h hl t hlt] at this
    obtain ⟨r1, r2⟩ := Prod.mk.inj this
    obtain ⟨r2, _⟩ := Prod.mk.inj r2
    exact Prod.ext r1.symm r2.symm
theorem sum_rev (l : List Int) : l.reverse.sum = l.sum := by
  induction l with
  | nil => rfl
  | cons x r ih => rw [List.reverse_cons, List.sum_append, ih]; simp; omega
theorem s_rev (L : List (List Sg)) (t : Int) : s1 L.reverse t = s1 L t ∧ s2 L.reverse t = s2 L t := by
  unfold s1 s2
  rw [List.map_reverse, List.map_reverse, sum_rev, sum_rev]
  exact ⟨rfl, rfl⟩
theorem sumE_len {L : List (List Sg)} : ∀ n, n ≤ L.length → (sumE (L.take n)).1.length ≤ lenR (L.take n)
  | 0, _ => by simp [sumE]
  | n + 1, hn => by
    have ih := sumE_len (L := L) n (by omega)
    have hls := lenR_step (L := L) (n := n) (by omega)
    by_cases h0 : (sumE (L.take n)).2 = 0
    · rw [sumE_step (by omega) h0]
      have := doS_len 0 (sumE (L.take n)).1 (L.getD n [])
      omega
    · have : sumE (L.take (n + 1)) = sumE (L.take n) := by
        unfold sumE at h0 ⊢
        rw [List.take_succ_eq_append_getElem (show n < L.length by omega), List.foldl_append]
        exact sumE_err _ _ h0
      rw [this]; omega
/-- The sum, in either order. -/
theorem sums_same {L : List (List Sg)} (h : ∀ f ∈ L, smallF f) (hl : L.length ≤ 8) : ∃ A, sumS L = (A, 0) ∧ sumS L.reverse = (A, 0) ∧ mayB A = true ∧ (∀ t, vat A t = (s1 L t, s2 L t)) ∧ A.length ≤ lenR L := by
  have hr : ∀ f ∈ L.reverse, smallF f := fun f hf => h f (by simpa using hf)
  obtain ⟨a1, a2, a3⟩ := sumE_small h hl L.length (Nat.le_refl _)
  obtain ⟨b1, b2, b3⟩ := sumE_small hr (by simpa using hl) L.reverse.length (Nat.le_refl _)
  have al := sumE_len (L := L) L.length (Nat.le_refl _)
  rw [List.take_length] at a1 a2 a3 b1 b2 b3 al
  have e1 : L.all mayB = true := by rw [List.all_eq_true]; exact fun f hf => (h f hf).1
  have e2 : L.reverse.all mayB = true := by rw [List.all_eq_true]; exact fun f hf => (hr f hf).1
  have heq : (sumE L.reverse).1 = (sumE L).1 := cf_ext (mayB_iff.1 b2) (mayB_iff.1 a2) fun t => by
    have q := s_rev L t
    exact (b3 t).trans ((Prod.ext q.1 q.2).trans (a3 t).symm)
  refine ⟨(sumE L).1, ?_, ?_, a2, a3, al⟩
  · unfold sumS; rw [if_pos e1]; exact Prod.ext rfl a1
  · unfold sumS; rw [if_pos e2]; exact Prod.ext heq b1
end Go.Proofs.Ytgbgnpdfjoeonaa

namespace Go.Proofs.Ytgbgnpdfjoeonaa
open Go.ChangeShapes Go.WideShapes Go.ChangeAt Go.RowKit
section
variable {H : Type} {enc : TypeId × Value → H} {P : Program}
theorem trod_slis {ts e tv ti : TypeId} {f0 f1 g0 g1 : Field} {W : World} {cs : List Value} {x : DataW H × List MemPlace} {fuel : Nat} (hs : P.underlying ts = some (.slice e)) (he : P.underlying e = some (.struct #[f0, f1]))
    (ce : P.cellsOf e = 3) (o0 : f0.offset = 0) (o1 : f1.offset = 1) (t0 : f0.type = ti) (t1 : f1.type = tv) (ci : P.cellsOf ti = 1) (cv : P.cellsOf tv = 2) (hi : P.underlying ti = some (.int .i64))
    (hv : P.underlying tv = some (.struct #[g0, g1])) (p0 : g0.offset = 0) (p1 : g1.offset = 1) (u0 : g0.type = ti) (u1 : g1.type = ti)
    (hf : DataW.trod enc P W 0 (fun _ => true) true fuel ts cs = some x) :
    ∃ (l : List Sg) (a : Option Addr) (cap : Nat), cs = [.slice a l.length cap] ∧ l.length ≤ 9223372036854775807 ∧ SliS W (.slice a l.length cap) l ∧ ∀ x ∈ l, S64 x := by
  rcases Deep.open_slice hs hf with ⟨hcs, _⟩ | ⟨a', len, cap, m, n, D, Pl, hcs, _, hlc, hcm, hm, _, hx⟩
  · subst hcs
    exact ⟨[], none, 0, rfl, by simp, sliS_nil _, fun x hx => by simp at hx⟩
  · subst hcs
    have hlen : len ≤ m := by rw [hm]; simpa using hlc
    have each : ∀ i, i < len → ∃ s : Sg, (W.cell? (a'.add (i * 3)) = some (.int .i64 s.1) ∧ W.cell? ((a'.add (i * 3)).add 1) = some (.int .i64 s.2.1) ∧ W.cell? ((a'.add (i * 3)).add 2) = some (.int .i64 s.2.2)) ∧ S64 s := fun i hi' => by
      obtain ⟨cs', hc, ht⟩ := hx i (by omega)
      rw [ce] at hc
      obtain ⟨_, hcl, hat⟩ := World.cells?_some hc
      obtain ⟨ys, n', _, _, hl1, hyl, hfs⟩ := DataW.trod_struct he ht
      have h0 := hfs 0 f0 rfl
      have h1 := hfs 1 f1 rfl
      rw [o0, t0, ci] at h0
      rw [o1, t1, cv] at h1
      match cs', hcl with
      | [c0, c1, c2], _ =>
        match ys, hyl with
        | [y0, y1], _ =>
          simp at h0 h1
          obtain ⟨z0, e0, _, w0⟩ := DataW.trod_int hi h0
          obtain ⟨zs, n2, _, _, hl2, hzl, hgs⟩ := DataW.trod_struct hv h1
          have k0 := hgs 0 g0 rfl
          have k1 := hgs 1 g1 rfl
          rw [p0, u0, ci] at k0
          rw [p1, u1, ci] at k1
          match zs, hzl with
          | [q0, q1], _ =>
            simp at k0 k1
            obtain ⟨z1, e1, _, w1⟩ := DataW.trod_int hi k0
            obtain ⟨z2, e2, _, w2⟩ := DataW.trod_int hi k1
            simp at e0 e1 e2
            subst e0 e1 e2
            have a0 := hat 0 (by omega)
            have a1 := hat 1 (by omega)
            have a2 := hat 2 (by omega)
            simp at a1 a2
            refine ⟨(z0, z1, z2), ⟨?_, a1, a2⟩, wf64 w0, wf64 w1, wf64 w2⟩
            have ea : (a'.add (i * 3)).add 0 = a'.add (i * 3) := by simp [Addr.add]
            rw [ea] at a0
            simpa using a0
    obtain ⟨F, hF⟩ := Deep.choose_lt each
    refine ⟨(List.range len).map F, some a', cap, by simp, by simp; unfold maxLen at hcm; omega, ⟨some a', cap, rfl, by simp; omega, by unfold maxLen at hcm; omega, fun hl => ?_⟩, fun x hx => ?_⟩
    · simp at hl
      have hc00 := (hF 0 hl).1.1
      obtain ⟨b, off, spot⟩ := a'
      have hsp : spot = none := by
        cases spot with
        | none => rfl
        | some s => simp [Addr.add, World.cell?] at hc00; split at hc00 <;> simp at hc00
      subst hsp
      have hb : b < W.heap.size := by
        apply Nat.lt_of_not_le
        intro hge
        simp [Addr.add, World.cell?, Array.getElem?_eq_none hge] at hc00
      refine ⟨b, off, rfl, hb, fun i hi => ?_⟩
      have hi' : i < len := by simpa using hi
      have hg : ((List.range len).map F).getD i (0, 0, 0) = F i := by simp [List.getD_eq_getElem?_getD, hi']
      obtain ⟨⟨h1, h2, h3⟩, _⟩ := hF i hi'
      have ad : ∀ x y : Nat, (⟨b, x, none⟩ : Addr).add y = ⟨b, x + y, none⟩ := fun x y => by
        unfold Addr.add
        by_cases c : y = 0
        · subst c; simp
        · simp [c]
      rw [ad] at h1 h2 h3
      rw [ad] at h2 h3
      rw [hg]
      exact ⟨h1, h2, h3⟩
    · rw [List.mem_map] at hx
      obtain ⟨i, hi, rfl⟩ := hx
      exact (hF i (by simpa using hi)).2
theorem open_rows {tss ts e tv ti : TypeId} {f0 f1 g0 g1 : Field} {W : World} {v : Value} {d : DataW H} {p : List MemPlace} (hss : P.underlying tss = some (.slice ts)) (css : P.cellsOf ts = 1) (hs : P.underlying ts = some (.slice e)) (he : P.underlying e = some (.struct #[f0, f1]))
    (ce : P.cellsOf e = 3) (o0 : f0.offset = 0) (o1 : f1.offset = 1) (t0 : f0.type = ti) (t1 : f1.type = tv) (ci : P.cellsOf ti = 1) (cv : P.cellsOf tv = 2) (hi : P.underlying ti = some (.int .i64))
    (hv : P.underlying tv = some (.struct #[g0, g1])) (p0 : g0.offset = 0) (p1 : g1.offset = 1) (u0 : g0.type = ti) (u1 : g1.type = ti)
    {r : Reach} {b0 : Nat} (ho : Value.okWide P W r b0 tss v) (h : DataW.Trod enc P W 0 (fun _ => true) true tss v d p) :
    ∃ (L : List (List Sg)) (a : Option Addr) (cap : Nat), v = .slice a L.length cap ∧ L.length ≤ 9223372036854775807 ∧ ArgQ W a L := by
  obtain ⟨a, len, cap, rfl⟩ := okWide_slice hss ho
  obtain ⟨fuel, hf⟩ := h
  rcases Deep.open_slice (cs := [.slice a len cap]) hss hf with ⟨hcs, _⟩ | ⟨a', len', cap', m, n, D, Pl, hcs, _, hlc, hcm, hm, _, hx⟩
  · simp at hcs
    obtain ⟨rfl, rfl, rfl⟩ := hcs
    exact ⟨[], none, 0, rfl, by simp, fun h => by simp at h⟩
  · simp at hcs
    obtain ⟨rfl, rfl, rfl⟩ := hcs
    have hlen : len ≤ m := by rw [hm]; simpa using hlc
    have each : ∀ i, i < len → ∃ lv : List Sg × Value, W.cell? (a'.add i) = some lv.2 ∧ SliS W lv.2 lv.1 := fun i hi' => by
      obtain ⟨cs', hc, ht⟩ := hx i (by omega)
      rw [css] at hc
      obtain ⟨_, hcl, hat⟩ := World.cells?_some hc
      obtain ⟨l, al, cl, rfl, _, hS, _⟩ := trod_slis hs he ce o0 o1 t0 t1 ci cv hi hv p0 p1 u0 u1 ht
      have a0 := hat 0 (by omega)
      simp at a0
      refine ⟨(l, .slice al l.length cl), ?_, hS⟩
      have ea : ((a'.add i).add 0) = a'.add i := by simp [Addr.add]
      first | exact a0 | (rw [ea] at a0; exact a0)
    obtain ⟨F, hF⟩ := Deep.choose_lt each
    refine ⟨(List.range len).map fun i => (F i).1, some a', cap, by simp, by simp; unfold maxLen at hcm; omega, fun hl => ?_⟩
    simp at hl
    have hc00 := (hF 0 hl).1
    have hs00 := (hF 0 hl).2
    obtain ⟨aw, cw, ew, _⟩ := hs00
    rw [ew] at hc00
    obtain ⟨b, off, spot⟩ := a'
    have hsp : spot = none := by
      cases spot with
      | none => rfl
      | some s => simp [Addr.add, World.cell?] at hc00; split at hc00 <;> simp at hc00
    subst hsp
    have hb : b < W.heap.size := by
      apply Nat.lt_of_not_le
      intro hge
      simp [Addr.add, World.cell?, Array.getElem?_eq_none hge] at hc00
    refine ⟨b, off, rfl, hb, fun i hi => ?_⟩
    have hi' : i < len := by simpa using hi
    have hg : ((List.range len).map fun i => (F i).1).getD i [] = (F i).1 := by simp [List.getD_eq_getElem?_getD, hi']
    obtain ⟨h1, h2⟩ := hF i hi'
    have ad : (⟨b, off, none⟩ : Addr).add i = ⟨b, off + i, none⟩ := by
      unfold Addr.add
      by_cases c : i = 0
      · subst c; simp
      · simp [c]
    rw [ad] at h1
    rw [hg]
    exact ⟨(F i).2, h1, h2⟩
theorem open_i64s {ts ti : TypeId} {W : World} {v : Value} {d : DataW H} {p : List MemPlace} (hs : P.underlying ts = some (.slice ti)) (ci : P.cellsOf ti = 1) (hi : P.underlying ti = some (.int .i64))
    {r : Reach} {b0 : Nat} (ho : Value.okWide P W r b0 ts v) (h : DataW.Trod enc P W 0 (fun _ => true) true ts v d p) :
    ∃ (l : List Int) (a : Option Addr) (cap : Nat), v = .slice a l.length cap ∧ l.length ≤ 9223372036854775807 ∧ ArgI W a l := by
  obtain ⟨a, len, cap, rfl⟩ := okWide_slice hs ho
  obtain ⟨fuel, hf⟩ := h
  rcases Deep.open_slice (cs := [.slice a len cap]) hs hf with ⟨hcs, _⟩ | ⟨a', len', cap', m, n, D, Pl, hcs, _, hlc, hcm, hm, _, hx⟩
  · simp at hcs
    obtain ⟨rfl, rfl, rfl⟩ := hcs
    exact ⟨[], none, 0, rfl, by simp, fun h => by simp at h⟩
  · simp at hcs
    obtain ⟨rfl, rfl, rfl⟩ := hcs
    have hlen : len ≤ m := by rw [hm]; simpa using hlc
    have each : ∀ i, i < len → ∃ z : Int, W.cell? (a'.add i) = some (.int .i64 z) := fun i hi' => by
      obtain ⟨cs', hc, ht⟩ := hx i (by omega)
      rw [ci] at hc
      obtain ⟨_, hcl, hat⟩ := World.cells?_some hc
      obtain ⟨z, ez, _, _⟩ := DataW.trod_int hi ht
      subst ez
      have a0 := hat 0 (by omega)
      simp at a0
      refine ⟨z, ?_⟩
      have ea : ((a'.add i).add 0) = a'.add i := by simp [Addr.add]
      first | exact a0 | (rw [ea] at a0; exact a0)
    obtain ⟨F, hF⟩ := Deep.choose_lt each
    refine ⟨(List.range len).map F, some a', cap, by simp, by simp; unfold maxLen at hcm; omega, fun hl => ?_⟩
    simp at hl
    have hc00 := hF 0 hl
    obtain ⟨b, off, spot⟩ := a'
    have hsp : spot = none := by
      cases spot with
      | none => rfl
      | some s => simp [Addr.add, World.cell?] at hc00; split at hc00 <;> simp at hc00
    subst hsp
    have hb : b < W.heap.size := by
      apply Nat.lt_of_not_le
      intro hge
      simp [Addr.add, World.cell?, Array.getElem?_eq_none hge] at hc00
    refine ⟨b, off, rfl, hb, fun i hi => ?_⟩
    have hi' : i < len := by simpa using hi
    have hg : ((List.range len).map F).getD i 0 = F i := by simp [List.getD_eq_getElem?_getD, hi']
    have h1 := hF i hi'
    have ad : (⟨b, off, none⟩ : Addr).add i = ⟨b, off + i, none⟩ := by
      unfold Addr.add
      by_cases c : i = 0
      · subst c; simp
      · simp [c]
    rw [ad] at h1
    rw [hg]
    exact h1
end
set_option maxRecDepth 100000 in
theorem cellsSlice : Try.prog.cellsOf 22 = 1 := by kernel_rfl
set_option maxRecDepth 100000 in
/-- For this program. -/
theorem open_rowsP {H : Type} {enc : TypeId × Value → H} {W : World} {v : Value} {d : DataW H} {p : List MemPlace} {r : Reach} {b0 : Nat} (ho : Value.okWide Try.prog W r b0 30 v) (h : DataW.Trod enc Try.prog W 0 (fun _ => true) true 30 v d p) :
    ∃ (L : List (List Sg)) (a : Option Addr) (cap : Nat), v = .slice a L.length cap ∧ L.length ≤ 9223372036854775807 ∧ ArgQ W a L :=
  open_rows (P := Try.prog) Try.underlying30 cellsSlice Try.underlying22 Try.underlying42 cellsSeg rfl rfl rfl rfl cellsI64 cellsV Try.underlying2 Try.underlying40 rfl rfl rfl rfl ho h
set_option maxRecDepth 100000 in
theorem open_i64sP {H : Type} {enc : TypeId × Value → H} {W : World} {v : Value} {d : DataW H} {p : List MemPlace} {r : Reach} {b0 : Nat} (ho : Value.okWide Try.prog W r b0 51 v) (h : DataW.Trod enc Try.prog W 0 (fun _ => true) true 51 v d p) :
    ∃ (l : List Int) (a : Option Addr) (cap : Nat), v = .slice a l.length cap ∧ l.length ≤ 9223372036854775807 ∧ ArgI W a l :=
  open_i64s (P := Try.prog) Try.underlying51 cellsI64 Try.underlying2 ho h
end Go.Proofs.Ytgbgnpdfjoeonaa

namespace Go.Proofs.Ytgbgnpdfjoeonaa
open Go.ChangeShapes Go.WideShapes Go.ChangeAt Go.RowKit
attribute [local irreducible] Go.Calls

theorem Try.infoSl : (Try.prog.info? 22).map (fun i => (i.zero, i.size, i.bytes)) = some (some (.slice none 0 0), 1, 24) := by kernel_rfl
/-- The greatest of four. -/
def mx4 (x y z u : Int) : Int := if u > (if z > (if y > x then y else x) then z else (if y > x then y else x)) then u else (if z > (if y > x then y else x) then z else (if y > x then y else x))
theorem run_max_four {P : Program} {w : World} (ts : Array TypeId) (t : TypeId) (x y z u : Int) : (Builtin.max_ ts t #[.int .i64 x, .int .i64 y, .int .i64 z, .int .i64 u]).run P w = .ok (.int .i64 (mx4 x y z u)) w := by
  simp [Builtin.max_, Builtin.max2, mx4]
attribute [local go_sem] run_max_four
theorem mx4_small (x y : Int) : mx4 x (-x) y (-y) ≤ 1099511627776 ↔ (-1099511627776 ≤ x ∧ x ≤ 1099511627776 ∧ -1099511627776 ≤ y ∧ y ≤ 1099511627776) := by
  unfold mx4
  (repeat' split) <;> omega

theorem sums_many (n m : Nat) (a a' : Option Addr) (cap cap' : Nat) (w : World) (h : 8 < n ∨ 40 < m) :
    Calls Try.prog 7 #[.slice a n cap, .slice a' m cap'] w fun e w' => e = .returned (.bool true) ∧ Below w.heap.size w w' := by
  by_cases h1 : 8 < n
  · have d1 : decide ((8 : Int) < (n : Int)) = true := decide_eq_true (by omega)
    clear h
    go_enter Try.func7, Try.ntmps7
    go_wp2_with (go_at_call 9; ((with_reducible refine (chead_c _).mono ?_); rintro e w2 ⟨rfl, hb2⟩))
    go_ret
    exact ⟨rfl, by (repeat (first | exact Below.refl _ _ | assumption | refine balloc ?_ _ | refine below_drewN ?_ _ | refine bstep (by assumption) ?_ | refine bstep (Past.prop _) ?_ | refine Below.setCell ?_ (by first | exact Nat.le_refl _ | (simp; done) | (simp; omega)) _))⟩
  · have d1 : decide ((8 : Int) < (n : Int)) = false := decide_eq_false (by omega)
    have d2 : decide ((40 : Int) < (m : Int)) = true := decide_eq_true (by omega)
    clear h
    go_enter Try.func7, Try.ntmps7
    go_wp2_with (go_at_call 9; ((with_reducible refine (chead_c _).mono ?_); rintro e w2 ⟨rfl, hb2⟩))
    go_ret
    exact ⟨rfl, by (repeat (first | exact Below.refl _ _ | assumption | refine balloc ?_ _ | refine below_drewN ?_ _ | refine bstep (by assumption) ?_ | refine bstep (Past.prop _) ?_ | refine Below.setCell ?_ (by first | exact Nat.le_refl _ | (simp; done) | (simp; omega)) _))⟩

/-- The slice of slices as it was handed in: each cell its value, whatever is made behind. -/
def RowQ (w : World) (b off : Nat) (sv : Nat → Value) (L : List (List Sg)) : Prop :=
  b < w.heap.size ∧ ∀ i, i < L.length → w.cell? ⟨b, off + i, none⟩ = some (sv i) ∧ SliS w (sv i) (L.getD i [])
theorem RowQ.past {w w' : World} {b off : Nat} {sv : Nat → Value} {L : List (List Sg)} (h : RowQ w b off sv L) (hb : Below w.heap.size w w') : RowQ w' b off sv L :=
  ⟨Nat.lt_of_lt_of_le h.1 hb.size, fun i hi => ⟨(hb.cell (p := ⟨b, _, none⟩) h.1).trans (h.2 i hi).1, (h.2 i hi).2.past hb⟩⟩
theorem RowQ.arg {w : World} {b off : Nat} {sv : Nat → Value} {L : List (List Sg)} (h : RowQ w b off sv L) : ArgQ w (some ⟨b, off, none⟩) L := fun _ =>
  ⟨b, off, rfl, h.1, fun i hi => ⟨sv i, (h.2 i hi).1, (h.2 i hi).2⟩⟩
theorem choose_row {n : Nat} {P : Nat → Value → Prop} (h : ∀ i, i < n → ∃ v, P i v) : ∃ f : Nat → Value, ∀ i, i < n → P i (f i) :=
  ⟨fun i => if hi : i < n then Classical.choose (h i hi) else undef, fun i hi => by
    dsimp only
    rw [dif_pos hi]; exact Classical.choose_spec (h i hi)⟩
theorem rowQ_of {w : World} {a : Option Addr} {L : List (List Sg)} (h : ArgQ w a L) (hl : 0 < L.length) : ∃ b off sv, a = some ⟨b, off, none⟩ ∧ RowQ w b off sv L := by
  obtain ⟨b, off, e, h1, h2⟩ := h hl
  obtain ⟨sv, hsv⟩ := choose_row h2
  exact ⟨b, off, sv, e, h1, hsv⟩
/-- A function of small values, as far as its first k runs. -/
def smallTo (f : List Sg) (k : Nat) : Prop := ∀ i, i < k → smallV (vls f i)
theorem smallTo_all {f : List Sg} (h : smallTo f f.length) : ∀ s ∈ f, smallV s.2 := fun s hs => by
  obtain ⟨i, hi, rfl⟩ := List.getElem_of_mem hs
  have := h i hi
  unfold vls at this
  rw [getD_get _ _ _ hi] at this; exact this

set_option maxRecDepth 100000 in
set_option maxHeartbeats 8000000 in
theorem sums_few (L : List (List Sg)) (ts : List Int) (m : Nat) (a' : Option Addr) (cap cap' b off : Nat) (sv : Nat → Value) (w : World) (h0 : 0 < L.length) (h : L.length ≤ 8) (h' : m ≤ 40) (hm : m = ts.length) (hR : RowQ w b off sv L) (hT : ArgI w a' ts) :
    Calls Try.prog 7 #[.slice (some ⟨b, off, none⟩) L.length cap, .slice a' m cap'] w fun e w' => e = .returned (.bool true) ∧ Below w.heap.size w w' := by
  have HR := hidE hR; have HT := hidE hT; have HM := hidE hm
  clear hR hT hm
  have d1 : decide ((8 : Int) < (L.length : Int)) = false := decide_eq_false (by omega)
  have d2 : decide ((40 : Int) < (m : Int)) = false := decide_eq_false (by omega)
  go_enter Try.func7, Try.ntmps7
  go_wp2_with fail
  go_loopg [5, 6, 7] L.length (fun gh vi _ _ wr => ∃ i : Nat, vi = .int .i64 i ∧ i ≤ L.length ∧ L.length - i ≤ gh ∧ (∀ j, j < i → (L.getD j []).length ≤ 30 ∧ smallF (L.getD j [])) ∧ Below w.heap.size w wr)
  case atStart => exact ⟨0, rfl, by omega, by omega, fun j hj => by omega, Below.refl _ _⟩
  case round =>
    obtain ⟨i, rfl, hi, hg, hs, hb⟩ := hrel
    have HS := hidE hs; clear hs
    by_cases hlt : i < L.length
    · have hrow := HR.out.past hb
      have hbz := hrow.1
      obtain ⟨ci, hsi⟩ := hrow.2 i hlt
      obtain ⟨ai, ki, evi, q1, q2, q3⟩ := hsi
      rw [evi] at ci
      have HEV := hidE evi
      have HSI := hidE (show SliS wr (.slice ai (L.getD i []).length ki) (L.getD i []) from ⟨ai, ki, rfl, q1, q2, q3⟩)
      clear hrow evi q1 q2 q3
      obtain ⟨f, hf⟩ : ∃ f, L.getD i [] = f := ⟨_, rfl⟩
      rw [hf] at ci HSI HEV
      have HF := hidE hf
      clear hf
      by_cases hlen : 30 < f.length
      · have e1 : decide ((30 : Int) < (f.length : Int)) = true := decide_eq_true (by omega)
        have e1' : 30 < f.length := hlen
        go_wp2_with (go_at_call 9; ((with_reducible refine (chead_c _).mono ?_); rintro e w2 ⟨rfl, hb2⟩))
        go_ret
        exact ⟨rfl, by (repeat (first | exact Below.refl _ _ | assumption | refine balloc ?_ _ | refine below_drewN ?_ _ | refine bstep (by assumption) ?_ | refine bstep (Past.prop _) ?_ | refine Below.setCell ?_ (by first | exact Nat.le_refl _ | (simp; done) | (simp; omega)) _))⟩
      · have e1 : decide ((30 : Int) < (f.length : Int)) = false := decide_eq_false (by omega)
        have hl30 : f.length ≤ 30 := by omega
        clear hlen
        cases hmf : mayB f
        · have HMF := hidE hmf
          clear hmf
          have S1 := HSI.out
          go_wp2_with (first | (go_at_call 23; ((with_reducible refine (rmay_s (F := f) (by (repeat (first | assumption | exact sliS_nil _ | (refine sliS_new (Blk.made _ _ _) rfl rfl (by decide); done) | refine SliS.past ?_ (by assumption) | refine sliS_alloc ?_ _))) (by omega) HMF.out).mono ?_); rintro e w2 ⟨rfl, hb2⟩)) | (go_at_call 9; ((with_reducible refine (chead_c _).mono ?_); rintro e w3 ⟨rfl, hb3⟩)))
          go_ret
          exact ⟨rfl, by (repeat (first | exact Below.refl _ _ | assumption | refine balloc ?_ _ | refine below_drewN ?_ _ | refine bstep (by assumption) ?_ | refine bstep (Past.prop _) ?_ | refine Below.setCell ?_ (by first | exact Nat.le_refl _ | (simp; done) | (simp; omega)) _))⟩
        · have HMF := hidE hmf
          have HOK := hidE (CF.ok (mayB_iff.1 hmf))
          clear hmf
          have S1 := HSI.out
          go_upto_region 8 with ((go_at_call 23; ((with_reducible refine (rmay_s (F := f) (by (repeat (first | assumption | exact sliS_nil _ | (refine sliS_new (Blk.made _ _ _) rfl rfl (by decide); done) | refine SliS.past ?_ (by assumption) | refine sliS_alloc ?_ _))) (by omega) HMF.out).mono ?_); rintro e w2 ⟨rfl, hb2⟩)))
          have HB2 := hidE hb2
          go_wp2_with fail
          go_loopg [6, 7] f.length (fun gh vk _ wr2 => ∃ k : Nat, vk = .int .i64 k ∧ k ≤ f.length ∧ f.length - k ≤ gh ∧ smallTo f k ∧ Below wr.heap.size wr wr2)
          case atStart => exact ⟨0, rfl, by omega, by omega, fun j hj => by omega, hb2⟩
          case round =>
            clear hb2 ci S1 e1
            obtain ⟨k, rfl, hk, hg2, hsm, hb2⟩ := hrel
            have HSM := hidE hsm; clear hsm
            obtain ⟨wq, hwq⟩ : ∃ wq : World, wq = wr := ⟨_, rfl⟩
            have hrow := HR.out.past (hb.trans (hb2.mono hb.size))
            have hbz2 := hrow.1
            have ci := (hrow.2 i hlt).1
            rw [HEV.out] at ci
            clear hrow
            by_cases hkl : k < f.length
            · obtain ⟨_, _, _, hAf⟩ := (HSI.out.past hb2).len
              obtain ⟨bf, of', rfl, hbf, hcf⟩ := hAf (by omega)
              obtain ⟨_, c1, c2⟩ := hcf.get hkl
              have hok := HOK.out _ (List.getElem_mem hkl)
              have hvl : vls f k = (f[k]).2 := by unfold vls; rw [getD_get _ _ _ hkl]
              have hok2 : okV (vls f k).1 (vls f k).2 = true := by
                unfold okS at hok; rw [Bool.and_eq_true] at hok; rw [hvl]; exact hok.2
              have hbd := okV_iff.1 hok2
              clear hcf hok hvl hok2
              have HVL := hidE (rfl : vls f k = vls f k)
              by_cases hs : smallV (vls f k)
              · have HNX := hidE (show smallTo f (k + 1) from fun j hj => by
                  by_cases e : j = k
                  · rw [e]; exact hs
                  · exact HSM.out j (by omega))
                obtain ⟨u1, u2, u3, u4⟩ := hs
                generalize vls f k = v at *
                have dM : decide (1099511627776 < mx4 v.1 (-v.1) v.2 (-v.2)) = false := decide_eq_false (by have := (mx4_small v.1 v.2).2 ⟨u1, u2, u3, u4⟩; omega)
                clear u1 u2 u3 u4
                go_wp2
                go_roundg (f.length - (k + 1))
                case measure => omega
                case rel => exact ⟨k + 1, by go_num, by omega, Nat.le_refl _, HNX.out, by (repeat (first | exact Below.refl _ _ | assumption | refine balloc ?_ _ | refine below_drewN ?_ _ | refine bstep (by assumption) ?_ | refine bstep (Past.prop _) ?_ | refine Below.setCell ?_ (by first | exact Nat.le_refl _ | (simp; done) | (simp; omega)) _))⟩
              · generalize hvv : vls f k = v at *
                have dM : decide (1099511627776 < mx4 v.1 (-v.1) v.2 (-v.2)) = true := decide_eq_true (by
                  apply Int.lt_of_not_ge
                  intro hle
                  exact hs ((mx4_small v.1 v.2).1 hle))
                clear hs hvv
                go_wp2_with (go_at_call 9; ((with_reducible refine (chead_c _).mono ?_); rintro e w3 ⟨rfl, hb3⟩))
                go_ret
                exact ⟨rfl, by (repeat (first | exact Below.refl _ _ | assumption | refine balloc ?_ _ | refine below_drewN ?_ _ | refine bstep (by assumption) ?_ | refine bstep (Past.prop _) ?_ | refine Below.setCell ?_ (by first | exact Nat.le_refl _ | (simp; done) | (simp; omega)) _))⟩
            · have hk' : k = f.length := by omega
              subst hk'
              have HNX := hidE (show ∀ j, j < i + 1 → (L.getD j []).length ≤ 30 ∧ smallF (L.getD j []) from fun j hj => by
                by_cases e : j = i
                · rw [e, HF.out]; exact ⟨hl30, HMF.out, smallTo_all HSM.out⟩
                · exact HS.out j (by omega))
              go_wp2
              go_roundg (L.length - (i + 1))
              case measure => omega
              case rel => exact ⟨i + 1, by go_num, by omega, Nat.le_refl _, HNX.out, by (repeat (first | exact Below.refl _ _ | assumption | refine balloc ?_ _ | refine below_drewN ?_ _ | refine bstep (by assumption) ?_ | refine bstep (Past.prop _) ?_ | refine Below.setCell ?_ (by first | exact Nat.le_refl _ | (simp; done) | (simp; omega)) _))⟩
    · have hn' : i = L.length := by omega
      subst hn'
      have hsm : ∀ f ∈ L, smallF f := fun f hf => by
        obtain ⟨j, hj, rfl⟩ := List.getElem_of_mem hf
        have := (HS.out j hj).2
        rwa [getD_get _ _ _ hj] at this
      have hlr : lenR L ≤ 240 := by
        have : ∀ n, n ≤ L.length → lenR (L.take n) ≤ 30 * n := by
          intro n
          induction n with
          | zero => intro _; simp [lenR]
          | succ n ih =>
            intro hn
            rw [lenR_step (by omega)]
            have := ih (by omega)
            have := (HS.out n (by omega)).1
            omega
        have := this L.length (Nat.le_refl _)
        rw [List.take_length] at this
        omega
      obtain ⟨A, hA1, hA2, hAm, hAv, hAl⟩ := sums_same hsm h
      have hrev : L.reverse.length = L.length := by simp
      have hlr2 : lenR L.reverse ≤ 240 := by
        have : lenR L.reverse = lenR L := by
          unfold lenR
          rw [List.map_reverse]
          have : ∀ (l : List Nat), l.reverse.sum = l.sum := by
            intro l
            induction l with
            | nil => rfl
            | cons x r ih => rw [List.reverse_cons, List.sum_append, ih]; simp; omega
          exact this _
        omega
      have HSM := hidE hsm; have HA1 := hidE hA1; have HA2 := hidE hA2; have HAM := hidE hAm; have HAV := hidE hAv; have HLR := hidE (And.intro hlr hlr2); have HREV := hidE hrev
      have hA240 : A.length ≤ 240 := by omega
      clear hsm hA1 hA2 hAm hAv hlr hlr2 HS hAl hrev hlt
      obtain ⟨i0, hix, hz0, hz1, hz2⟩ := info_parts Try.infoSl
      have HI := hidE hix; have HZ0 := hidE hz0; have HZ1 := hidE hz1; have HZ2 := hidE hz2
      clear hix hz0 hz1 hz2
      obtain ⟨wl, hwl⟩ : ∃ wl : World, wl = wr := ⟨_, rfl⟩
      subst hwl
      have HRL := hidE (HR.out.past hb)
      have HB := hidE hb
      go_wp2_with fail
      go_loopg [8, 9] (L.length + 1) (fun gh vf vz wr => ∃ (n : Nat) (z : Int) (v : Value), v = vf ∧ vz = .int .i64 z ∧ Hid (z = (L.length : Int) - 1 - n) ∧ n ≤ L.length ∧ L.length + 1 - n ≤ gh ∧ Below wl.heap.size wl wr ∧ wr.ownsRow wl.heap.size 22 1 v n ((List.range n).map fun q => sv (L.length - 1 - q)))
      case atStart => exact ⟨0, (L.length : Int) - 1, .slice none 0 0, rfl, rfl, hidE (by omega), by omega, by omega, Below.refl _ _, ⟨rfl, .inl ⟨rfl, rfl⟩⟩⟩
      case round =>
        obtain ⟨n, z, v, rfl, rfl, hz, hn, hgg, hbr, ho⟩ := hrel
        have HBR := hidE hbr; have HO := hidE ho
        clear ho
        by_cases hlt : n < L.length
        · obtain ⟨j, rfl⟩ : ∃ j : Nat, z = j := ⟨L.length - 1 - n, by have := hz.out; omega⟩
          have hjl : j < L.length := by have := hz.out; omega
          have HJ := hidE (show j = L.length - 1 - n by have := hz.out; omega)
          have hrow := HRL.out.past hbr
          have hbz := hrow.1
          obtain ⟨cj, aj, kj, evj, _, _, _⟩ := hrow.2 j hjl
          rw [evj] at cj
          have HEVJ := hidE evj
          have dj : decide ((0 : Int) ≤ (j : Int)) = true := decide_eq_true (by omega)
          clear hrow evj hbr hz
          generalize hlj : (L.getD j []).length = lj at *
          have HLJ := hidE hlj
          clear hlj
          go_wp2_with (at_builtin; refine wpList_append_own _ rfl (.tmp 84) (.tmp 89) 30 rfl wl.heap.size 22 i0 (.slice none 0 0) 1 24 Try.underlying30 HI.out HZ0.out HZ1.out HZ2.out rfl (by decide) _ _ _ rfl (own_past HO.out ((Below.refl _ _).alloc (Nat.le_refl _) (Obj.cells #[Value.slice aj lj kj] 22))) ⟨_, 0, none⟩ 1 1 [.slice aj lj kj] rfl rfl (fresh_at _ #[.slice aj lj kj] 22 _ (by simp)) (by intro y hy; simp at hy; subst hy; rfl) (by unfold maxLen; omega) (by omega) (by have := HBR.out.size; simp; omega) ?_; intro v' w4 hown4 hgrow4 _)
          have hbal : Below wl.heap.size wl (wr.alloc (Obj.cells #[Value.slice aj lj kj] 22)) := by have := HBR.out; (repeat (first | exact Below.refl _ _ | assumption | refine balloc ?_ _ | refine below_drewN ?_ _ | refine bstep (by assumption) ?_ | refine bstep (Past.prop _) ?_ | refine Below.setCell ?_ (by first | exact Nat.le_refl _ | (simp; done) | (simp; omega)) _))
          have hb4 : Below wl.heap.size wl w4 := Below.grown hbal hgrow4 hbal.size (fun k hk => own_block HO.out hk)
          have hown5 : w4.ownsRow wl.heap.size 22 1 v' (n + 1) ((List.range (n + 1)).map fun q => sv (L.length - 1 - q)) := by
            rw [List.range_succ, List.map_append, List.map_cons, List.map_nil, ← HJ.out, HEVJ.out]
            exact hown4
          have HB4 := hidE hb4; have HO5 := hidE hown5
          clear hb4 hown4 hown5 hgrow4 hbal
          go_wp2
          go_roundg (L.length + 1 - (n + 1))
          case measure => omega
          case rel => exact ⟨n + 1, (j : Int) - 1, v', rfl, by go_num, hidE (by have := HJ.out; omega), by omega, Nat.le_refl _, HB4.out, HO5.out⟩
        · have hn' : n = L.length := by omega
          subst hn'
          obtain rfl : z = -1 := by have := hz.out; omega
          have hb := HB.out.trans (hbr.mono HB.out.size)
          have hrow := HRL.out.past hbr
          rcases HO.out with ⟨_, ⟨_, h2⟩ | ⟨g, cg, cur, rfl, h3, h4, h5, h6, h7, h8⟩⟩
          · omega
          have hcell : ∀ q, q < L.length → wr.cell? ⟨g, q, none⟩ = some (sv (L.length - 1 - q)) := fun q hq => by
            have e2 : wr.cell? ⟨g, q, none⟩ = cur[q]? := by simp [World.cell?, h4]
            have e3 : ((List.range L.length).map fun q => sv (L.length - 1 - q))[q]? = some (sv (L.length - 1 - q)) := by simp [hq]
            rw [e2, ← Array.getElem?_toList]
            rw [← h8, List.getElem?_take, if_pos (by omega)] at e3
            exact e3
          have hQ2 : ArgQ wr (some ⟨g, 0, none⟩) L.reverse := fun _ => ⟨g, 0, rfl, lt_of_block h4, fun q hq => by
            rw [HREV.out] at hq
            refine ⟨sv (L.length - 1 - q), by simpa using hcell q hq, ?_⟩
            have e : L.reverse.getD q [] = L.getD (L.length - 1 - q) [] := by
              rw [getD_get _ _ _ (by simpa using hq), getD_get _ _ _ (by omega), List.getElem_reverse]
            rw [e]
            exact (hrow.2 _ (by omega)).2⟩
          have HQ1 := hidE hrow.arg; have HQ2 := hidE hQ2; have HBW := hidE hb
          have HC1 := hidE (fun w (hq : ArgQ w (some ⟨b, off, none⟩) L) => show Calls Try.prog 10 #[.slice (some ⟨b, off, none⟩) L.length cap] w (OfIs w A 0) from by
            have := cadd_c L (some ⟨b, off, none⟩) cap w (by omega) (by have := HLR.out.1; omega) hq
            rw [HA1.out] at this; exact this)
          have HC2 := hidE (fun w (hq : ArgQ w (some ⟨g, 0, none⟩) L.reverse) => show Calls Try.prog 10 #[.slice (some ⟨g, 0, none⟩) L.length cg] w (OfIs w A 0) from by
            have := cadd_c L.reverse (some ⟨g, 0, none⟩) cg w (by rw [HREV.out]; omega) (by have := HLR.out.2; omega) hq
            rw [HA2.out, HREV.out] at this; exact this)
          clear hcell hQ2 hrow h3 h4 h5 h6 h7 h8 hbr hz HO HBR
          go_wp2_with fail
          ((with_reducible refine (Calls.ofSl (n := A.length) (HC1.out _ HQ1.out) rfl).mono ?_); rintro e w5 ⟨a10, c10, rfl, S10, hb5⟩)
          go_wp2_with fail
          ((with_reducible refine (Calls.ofSl (n := A.length) (HC2.out _ (HQ2.out.past hb5)) rfl).mono ?_); rintro e w6 ⟨a12, c12, rfl, S12, hb6⟩)
          go_upto_region 23 with (first | (go_at_call 18; ((with_reducible refine (rsame_s (a1 := a10) (a2 := a12) (F := A) (G := A) (b := true) (by (repeat (first | assumption | exact sliS_nil _ | (refine sliS_new (Blk.made _ _ _) rfl rfl (by decide); done) | refine SliS.past ?_ (by assumption) | refine sliS_alloc ?_ _))) (by (repeat (first | assumption | exact sliS_nil _ | (refine sliS_new (Blk.made _ _ _) rfl rfl (by decide); done) | refine SliS.past ?_ (by assumption) | refine sliS_alloc ?_ _))) (sameB_t _)).mono ?_); rintro e w7 ⟨rfl, hb7⟩)) | (go_at_call 23; ((with_reducible refine (rmay_s (a := a10) (F := A) (by (repeat (first | assumption | exact sliS_nil _ | (refine sliS_new (Blk.made _ _ _) rfl rfl (by decide); done) | refine SliS.past ?_ (by assumption) | refine sliS_alloc ?_ _))) (by omega) HAM.out).mono ?_); rintro e w8 ⟨rfl, hb8⟩)))
          have T10 : SliS w8 (.slice a10 A.length c10) A := (by (repeat (first | assumption | exact sliS_nil _ | (refine sliS_new (Blk.made _ _ _) rfl rfl (by decide); done) | refine SliS.past ?_ (by assumption) | refine sliS_alloc ?_ _)))
          have hb8' : Below w.heap.size w w8 := by have := HBW.out; (repeat (first | exact Below.refl _ _ | assumption | refine balloc ?_ _ | refine below_drewN ?_ _ | refine bstep (by assumption) ?_ | refine bstep (Past.prop _) ?_ | refine Below.setCell ?_ (by first | exact Nat.le_refl _ | (simp; done) | (simp; omega)) _))
          clear S10 S12 HQ1 HQ2 HC1 HC2 HB HRL HI HZ0 HZ1 HZ2
          go_wp2_with fail
          go_loopg [14, 15, 16] m (fun gh vi _ _ wr => ∃ i : Nat, vi = .int .i64 i ∧ i ≤ m ∧ m - i ≤ gh ∧ SliS wr (.slice a10 A.length c10) A ∧ Below w.heap.size w wr)
          case atStart => exact ⟨0, rfl, by omega, by omega, T10, hb8'⟩
          case round =>
            clear T10 hb8'
            obtain ⟨i, rfl, hi2, hg4, S10, hb⟩ := hrel
            by_cases hit : i < m
            · obtain ⟨bt, ot, rfl, hbt, hct⟩ := (HT.out.past hb) (by have := HM.out; omega)
              have ct0 := hct i (by have := HM.out; omega)
              have HTC := hidE (And.intro hbt ct0)
              clear hct ct0 hbt
              generalize ts.getD i 0 = t at *
              obtain ⟨wo, hwo⟩ : ∃ wo : World, wo = wr := ⟨_, rfl⟩
              subst hwo
              have HBO := hidE hb; have HS10 := hidE S10
              clear hb S10
              go_wp2_with fail
              go_loopg [16] L.length (fun gh vk wr2 => ∃ k : Nat, vk = .int .i64 k ∧ k ≤ L.length ∧ L.length - k ≤ gh ∧ Blk wr2 wo.heap.size #[.int .i64 (s1 (L.take k) t), .int .i64 (s2 (L.take k) t)] 40 ∧ Below wo.heap.size wo wr2)
              case atStart => exact ⟨0, rfl, by omega, by omega, Blk.made _ _ _, (Below.refl _ _).alloc (Nat.le_refl _) _⟩
              case round =>
                obtain ⟨k, rfl, hk2, hg5, BW, hb2⟩ := hrel
                have hbW := HBO.out.trans (hb2.mono HBO.out.size)
                have HBX := hidE hb2
                by_cases hkl : k < L.length
                · have hrow := HR.out.past hbW
                  have hbz := hrow.1
                  obtain ⟨ck, ak, kk, evk, l1, l2, hAk⟩ := hrow.2 k hkl
                  rw [evk] at ck
                  have HNXT := hidE (s_add HSM.out h t hkl)
                  have hlk : (L.getD k []).length ≤ 240 := by have := lenR_get hkl; have := HLR.out.1; omega
                  clear hrow evk
                  obtain ⟨f, hf⟩ : ∃ f, L.getD k [] = f := ⟨_, rfl⟩
                  rw [hf] at ck l1 hAk HNXT hlk
                  have HSK := hidE (show SliS wr (.slice ak f.length kk) f from ⟨ak, kk, rfl, l1, l2, hAk⟩)
                  clear l1 l2 hAk hf
                  have hpp : ∃ p : Int × Int, s1 (L.take k) t = p.1 ∧ s2 (L.take k) t = p.2 := ⟨(_, _), rfl, rfl⟩
                  obtain ⟨p, e1, e2⟩ := hpp
                  obtain ⟨r, e3, e4⟩ : ∃ r : Int × Int, s1 (L.take (k + 1)) t = r.1 ∧ s2 (L.take (k + 1)) t = r.2 := ⟨(_, _), rfl, rfl⟩
                  rw [e1, e2] at BW HNXT
                  rw [e3, e4] at HNXT
                  obtain ⟨q, hq⟩ : ∃ q, vat f t = q := ⟨_, rfl⟩
                  rw [hq] at HNXT
                  have HAT := hidE (fun w (hS : SliS w (.slice ak f.length kk) f) => rat_s (t := t) (v := q) hS (by omega) hq)
                  have HAD := hidE (fun w => show Calls Try.prog 22 #[V p.1 p.2, V q.1 q.2] w fun e w' => e = .returned (VE (r.1, r.2, 0)) ∧ Below w.heap.size w w' from by
                    have := radd p.1 p.2 q.1 q.2 w
                    rw [HNXT.out] at this; exact this)
                  have HE3 := hidE (And.intro e3 e4)
                  have g0 := BW.cell 0; have g1 := BW.cell 1; have gz := BW.lt
                  simp at g0 g1
                  have ct : wr.cell? ⟨bt, ot + i, none⟩ = some (.int .i64 t) := (hb2.cell (p := ⟨bt, _, none⟩) HTC.out.1).trans HTC.out.2
                  have htz : bt < wr.heap.size := Nat.lt_of_lt_of_le HTC.out.1 hb2.size
                  have HBWW := hidE BW
                  clear e1 e2 e3 e4 hq HNXT BW hb2 hbW
                  go_wp2_with fail
                  refine wp_region_J 14 [13] (nthR [detR (V p.1 p.2), detR (.slice (some ⟨b, off, none⟩) L.length cap), detR (.int .i64 k), detR (.pointer (some ⟨b, off + k, none⟩)), detR (.slice ak f.length kk), detR (.slice (some ⟨bt, ot, none⟩) m cap'), detR (.int .i64 i), detR (.pointer (some ⟨bt, ot + i, none⟩)), detR (.int .i64 t), detR (V q.1 q.2), detR (VE (r.1, r.2, 0)), detR (VE (r.1, r.2, 0)), detR (V r.1 r.2), detR (.int .i64 0)]) (fun _ => false) (by kernel_rfl) (by simp) (by kernel_rfl) (stab_nth (by simp [stab_det])) ?_ ?_ ?_
                  · intro i o hi ho
                    match i, hi with
                    | 0, _ =>
                      obtain rfl := Option.some.inj ho
                      intro u x hd
                      have hc := Past.cell x
                      simp [go_sem, gives, frm, Act.put, nthR, detR, Region.wanted, Below.refl, hc, g0, g1, gz]
                    | 1, _ =>
                      obtain rfl := Option.some.inj ho
                      intro u x hd
                      have hc := Past.cell x
                      simp [go_sem, gives, frm, Act.put, nthR, detR, Region.wanted, Below.refl]
                    | 2, _ =>
                      obtain rfl := Option.some.inj ho
                      intro u x hd
                      have hc := Past.cell x
                      simp [go_sem, gives, frm, Act.put, nthR, detR, Region.wanted, Below.refl]
                    | 3, _ =>
                      obtain rfl := Option.some.inj ho
                      intro u x hd
                      have hc := Past.cell x
                      have d1 := hd 1 (by decide) (by kernel_rfl)
                      have d2 := hd 2 (by decide) (by kernel_rfl)
                      simp only [nthR, detR, List.getD_cons_zero, List.getD_cons_succ] at d1 d2
                      simp [go_sem, gives, frm, Act.put, nthR, detR, Region.wanted, Below.refl, d1, d2, hkl]
                    | 4, _ =>
                      obtain rfl := Option.some.inj ho
                      intro u x hd
                      have hc := Past.cell x
                      have d3 := hd 3 (by decide) (by kernel_rfl)
                      simp only [nthR, detR, List.getD_cons_zero, List.getD_cons_succ] at d3
                      simp [go_sem, gives, frm, Act.put, nthR, detR, Region.wanted, Below.refl, hc, d3, ck, hbz]
                    | 5, _ =>
                      obtain rfl := Option.some.inj ho
                      intro u x hd
                      have hc := Past.cell x
                      simp [go_sem, gives, frm, Act.put, nthR, detR, Region.wanted, Below.refl]
                    | 6, _ =>
                      obtain rfl := Option.some.inj ho
                      intro u x hd
                      have hc := Past.cell x
                      simp [go_sem, gives, frm, Act.put, nthR, detR, Region.wanted, Below.refl]
                    | 7, _ =>
                      obtain rfl := Option.some.inj ho
                      intro u x hd
                      have hc := Past.cell x
                      have d5 := hd 5 (by decide) (by kernel_rfl)
                      have d6 := hd 6 (by decide) (by kernel_rfl)
                      simp only [nthR, detR, List.getD_cons_zero, List.getD_cons_succ] at d5 d6
                      simp [go_sem, gives, frm, Act.put, nthR, detR, Region.wanted, Below.refl, d5, d6, hit]
                    | 8, _ =>
                      obtain rfl := Option.some.inj ho
                      intro u x hd
                      have hc := Past.cell x
                      have d7 := hd 7 (by decide) (by kernel_rfl)
                      simp only [nthR, detR, List.getD_cons_zero, List.getD_cons_succ] at d7
                      simp [go_sem, gives, frm, Act.put, nthR, detR, Region.wanted, Below.refl, hc, d7, ct, htz]
                    | 9, _ =>
                      obtain rfl := Option.some.inj ho
                      intro u x hd
                      have hc := Past.cell x
                      have d4 := hd 4 (by decide) (by kernel_rfl)
                      have d8 := hd 8 (by decide) (by kernel_rfl)
                      simp only [nthR, detR, List.getD_cons_zero, List.getD_cons_succ] at d4 d8
                      simp [go_sem, gives, frm, Act.put, nthR, detR, Region.wanted, d4, d8]
                      exact HAT.out _ (HSK.out.past x.2)
                    | 10, _ =>
                      obtain rfl := Option.some.inj ho
                      intro u x hd
                      have hc := Past.cell x
                      have d0 := hd 0 (by decide) (by kernel_rfl)
                      have d9 := hd 9 (by decide) (by kernel_rfl)
                      simp only [nthR, detR, List.getD_cons_zero, List.getD_cons_succ] at d0 d9
                      simp [go_sem, gives, frm, Act.put, nthR, detR, Region.wanted, d0, d9]
                      exact HAD.out _
                    | 11, _ =>
                      obtain rfl := Option.some.inj ho
                      intro u x hd
                      have hc := Past.cell x
                      have d10 := hd 10 (by decide) (by kernel_rfl)
                      simp only [nthR, detR, List.getD_cons_zero, List.getD_cons_succ] at d10
                      simp [go_sem, gives, frm, Act.put, nthR, detR, Region.wanted, Below.refl, d10]
                    | 12, _ =>
                      obtain rfl := Option.some.inj ho
                      intro u x hd
                      have hc := Past.cell x
                      have d11 := hd 11 (by decide) (by kernel_rfl)
                      simp only [nthR, detR, List.getD_cons_zero, List.getD_cons_succ] at d11
                      simp [go_sem, gives, frm, Act.put, nthR, detR, Region.wanted, Below.refl, d11]
                    | 13, _ =>
                      obtain rfl := Option.some.inj ho
                      intro u x hd
                      have hc := Past.cell x
                      have d11 := hd 11 (by decide) (by kernel_rfl)
                      simp only [nthR, detR, List.getD_cons_zero, List.getD_cons_succ] at d11
                      simp [go_sem, gives, frm, Act.put, nthR, detR, Region.wanted, Below.refl, d11]
                    | i + 14, h => exact absurd h (by omega)
                  · intro i o hx ho
                    simp only [List.mem_cons, List.not_mem_nil, or_false] at hx
                    rcases hx with rfl
                    · obtain rfl := Option.some.inj ho
                      refine ⟨rfl, fun _ _ _ _ h => h, fun u x hd => ?_⟩
                      have d11 := hd 11 (by decide) (by kernel_rfl)
                      simp only [nthR, detR, List.getD_cons_zero, List.getD_cons_succ] at d11
                      refine ⟨rfl, .int .i64 0, rfl, fun w' => ?_⟩
                      simp [go_sem, frm, Act.put, d11]
                  · intro u x hu hne
                    have d12 := hu 12 (by decide)
                    simp only [nthR, detR, List.getD_cons_zero, List.getD_cons_succ] at d12
                    have BWx := HBWW.out.past x.2
                    have hbx := HBX.out.trans (x.2.mono HBX.out.size)
                    have z0 := BWx.cell 0; have z1 := BWx.cell 1; have zf := BWx.free; have zz := BWx.lt
                    simp at z0 z1
                    simp only [frm, List.take, Act.put, d12]
                    clear d12 hu hne g0 g1 gz ct htz ck hbz
                    generalize x.1 = wz at *
                    go_wp2
                    go_roundg (L.length - (k + 1))
                    case measure => omega
                    case rel =>
                      refine ⟨k + 1, by go_num, by omega, Nat.le_refl _, ?_, (hbx.setCell (p := ⟨wo.heap.size, 0, none⟩) (by simp) _).setCell (p := ⟨wo.heap.size, 1, none⟩) (by simp) _⟩
                      rw [HE3.out.1, HE3.out.2]
                      simpa using (BWx.set 0 (.int .i64 r.1)).set 1 (.int .i64 r.2)
                · have hk' : k = L.length := by omega
                  subst hk'
                  rw [List.take_length] at BW
                  have HAV' := hidE (HAV.out t)
                  have hbW' := hidE hbW
                  have hS10 := HS10.out.past hb2
                  have ct : wr.cell? ⟨bt, ot + i, none⟩ = some (.int .i64 t) := (hb2.cell (p := ⟨bt, _, none⟩) HTC.out.1).trans HTC.out.2
                  have htz : bt < wr.heap.size := Nat.lt_of_lt_of_le HTC.out.1 hb2.size
                  obtain ⟨r, hr⟩ : ∃ r : Int × Int, (s1 L t, s2 L t) = r := ⟨_, rfl⟩
                  have BW' : Blk wr wo.heap.size #[.int .i64 r.1, .int .i64 r.2] 40 := by rw [← hr]; exact BW
                  rw [hr] at HAV'
                  have HAT := hidE (fun w (hS : SliS w (.slice a10 A.length c10) A) => rat_s (t := t) (v := r) hS (by omega) HAV'.out)
                  have g0 := BW'.cell 0; have g1 := BW'.cell 1; have gz := BW'.lt
                  simp at g0 g1
                  have hcp := Past.cell (W := wr)
                  clear BW hr hb2 hbW
                  go_wp2_with fail
                  refine wp_region_past_lit (by kernel_rfl) (by kernel_rfl) ?_
                  repeat (go_big_quiet_step ((go_at_call 21; exact Past.call _ (HAT.out _ (hS10.past (Past.prop _))))))
                  refine wpQuiet_nil ?_
                  rintro _ ⟨x', rfl⟩
                  have S10 := hS10.past x'.2
                  have o1 : Below w.heap.size w x'.1 := hbW'.out.trans (x'.2.mono hbW'.out.size)
                  clear hcp g0 g1 gz BW' ct htz hS10
                  generalize x'.1 = w7 at *
                  go_wp2
                  go_roundg (m - (i + 1))
                  case measure => omega
                  case rel => exact ⟨i + 1, by go_num, by omega, Nat.le_refl _, S10, o1⟩
            · go_wp2_with (go_at_call 9; ((with_reducible refine (chead_c _).mono ?_); rintro e w3 ⟨rfl, hb3⟩))
              go_ret
              exact ⟨rfl, by (repeat (first | exact Below.refl _ _ | assumption | refine balloc ?_ _ | refine below_drewN ?_ _ | refine bstep (by assumption) ?_ | refine bstep (Past.prop _) ?_ | refine Below.setCell ?_ (by first | exact Nat.le_refl _ | (simp; done) | (simp; omega)) _))⟩

set_option maxRecDepth 100000 in
set_option maxHeartbeats 4000000 in
theorem sums_none (ts : List Int) (m : Nat) (a a' : Option Addr) (cap cap' : Nat) (w : World) (h' : m ≤ 40) (hm : m = ts.length) (hT : ArgI w a' ts) :
    Calls Try.prog 7 #[.slice a 0 cap, .slice a' m cap'] w fun e w' => e = .returned (.bool true) ∧ Below w.heap.size w w' := by
  have HT := hidE hT; have HM := hidE hm
  clear hT hm
  have d2 : decide ((40 : Int) < (m : Int)) = false := decide_eq_false (by omega)
  have HC := hidE (fun (b : Option Addr) (c : Nat) w => show Calls Try.prog 10 #[.slice b 0 c] w (OfIs w [] 0) from cadd_c [] b c w (by simp) (by simp [lenR]) (fun h => by simp at h))
  go_enter Try.func7, Try.ntmps7
  go_wp2_with fail
  refine wp_loop_rounds 1 ?_
  rw [rounds_succ]
  go_wp2_with fail
  refine wp_loop_rounds 1 ?_
  rw [rounds_succ]
  go_wp2_with fail
  ((with_reducible refine (Calls.ofSl (n := 0) (HC.out _ _ _) rfl).mono ?_); rintro e w5 ⟨a10, c10, rfl, S10, hb5⟩)
  go_wp2_with fail
  ((with_reducible refine (Calls.ofSl (n := 0) (HC.out _ _ _) rfl).mono ?_); rintro e w6 ⟨a12, c12, rfl, S12, hb6⟩)
  go_upto_region 23 with (first | (go_at_call 18; ((with_reducible refine (rsame_s (a1 := a10) (a2 := a12) (F := []) (G := []) (b := true) (by (repeat (first | assumption | exact sliS_nil _ | (refine sliS_new (Blk.made _ _ _) rfl rfl (by decide); done) | refine SliS.past ?_ (by assumption) | refine sliS_alloc ?_ _))) (by (repeat (first | assumption | exact sliS_nil _ | (refine sliS_new (Blk.made _ _ _) rfl rfl (by decide); done) | refine SliS.past ?_ (by assumption) | refine sliS_alloc ?_ _))) (sameB_t _)).mono ?_); rintro e w7 ⟨rfl, hb7⟩)) | (go_at_call 23; ((with_reducible refine (rmay_s (a := a10) (F := []) (b := true) (by (repeat (first | assumption | exact sliS_nil _ | (refine sliS_new (Blk.made _ _ _) rfl rfl (by decide); done) | refine SliS.past ?_ (by assumption) | refine sliS_alloc ?_ _))) (by omega) rfl).mono ?_); rintro e w8 ⟨rfl, hb8⟩)))
  have T10 : SliS w8 (.slice a10 0 c10) [] := (by (repeat (first | assumption | exact sliS_nil _ | (refine sliS_new (Blk.made _ _ _) rfl rfl (by decide); done) | refine SliS.past ?_ (by assumption) | refine sliS_alloc ?_ _)))
  have hb8' : Below w.heap.size w w8 := by (repeat (first | exact Below.refl _ _ | assumption | refine balloc ?_ _ | refine below_drewN ?_ _ | refine bstep (by assumption) ?_ | refine bstep (Past.prop _) ?_ | refine Below.setCell ?_ (by first | exact Nat.le_refl _ | (simp; done) | (simp; omega)) _))
  clear S10 S12
  go_wp2_with fail
  go_loopg [14, 15, 16] m (fun gh vi _ _ wr => ∃ i : Nat, vi = .int .i64 i ∧ i ≤ m ∧ m - i ≤ gh ∧ SliS wr (.slice a10 0 c10) [] ∧ Below w.heap.size w wr)
  case atStart => exact ⟨0, rfl, by omega, by omega, T10, hb8'⟩
  case round =>
    clear T10 hb8'
    obtain ⟨i, rfl, hi2, hg4, S10, hb⟩ := hrel
    by_cases hit : i < m
    · obtain ⟨bt, ot, rfl, hbt, hct⟩ := (HT.out.past hb) (by have := HM.out; omega)
      have ct0 := hct i (by have := HM.out; omega)
      clear hct
      generalize ts.getD i 0 = t at *
      go_wp2_with fail
      refine wp_loop_rounds 1 ?_
      rw [rounds_succ]
      go_wp2_with fail
      have HAT := hidE (fun w (hS : SliS w (.slice a10 0 c10) []) => rat_s (t := t) (v := (0, 0)) hS (by omega) rfl)
      have T10 := sliS_alloc S10 (Obj.cells #[Value.int IntKind.i64 0, Value.int IntKind.i64 0] 40)
      have BW := Blk.made wr #[.int .i64 0, .int .i64 0] 40
      have ct : (wr.alloc (Obj.cells #[Value.int IntKind.i64 0, Value.int IntKind.i64 0] 40)).cell? ⟨bt, ot + i, none⟩ = some (.int .i64 t) := by rw [World.cell?_alloc_past _ _ _ hbt]; exact ct0
      have htz : bt < (wr.alloc (Obj.cells #[Value.int IntKind.i64 0, Value.int IntKind.i64 0] 40)).heap.size := by simp; omega
      have hbw : Below w.heap.size w (wr.alloc (Obj.cells #[Value.int IntKind.i64 0, Value.int IntKind.i64 0] 40)) := by (repeat (first | exact Below.refl _ _ | assumption | refine balloc ?_ _ | refine below_drewN ?_ _ | refine bstep (by assumption) ?_ | refine bstep (Past.prop _) ?_ | refine Below.setCell ?_ (by first | exact Nat.le_refl _ | (simp; done) | (simp; omega)) _))
      have hwz : wr.heap.size < (wr.alloc (Obj.cells #[Value.int IntKind.i64 0, Value.int IntKind.i64 0] 40)).heap.size := by simp
      clear ct0 hbt S10 hb
      generalize wr.alloc (Obj.cells #[Value.int IntKind.i64 0, Value.int IntKind.i64 0] 40) = wz at *
      have g0 := BW.cell 0; have g1 := BW.cell 1
      simp at g0 g1
      clear BW
      refine wp_region_past_lit (by kernel_rfl) (by kernel_rfl) ?_
      have hcp := Past.cell (W := wz)
      repeat (go_big_quiet_step ((go_at_call 21; exact Past.call _ (HAT.out _ (T10.past (Past.prop _))))))
      refine wpQuiet_nil ?_
      rintro _ ⟨x', rfl⟩
      have S10 := T10.past x'.2
      have o1 : Below w.heap.size w x'.1 := hbw.trans (x'.2.mono hbw.size)
      clear hcp g0 g1 ct htz T10
      generalize x'.1 = w7 at *
      go_wp2
      go_roundg (m - (i + 1))
      case measure => omega
      case rel => exact ⟨i + 1, by go_num, by omega, Nat.le_refl _, S10, o1⟩
    · go_wp2_with (go_at_call 9; ((with_reducible refine (chead_c _).mono ?_); rintro e w3 ⟨rfl, hb3⟩))
      go_ret
      exact ⟨rfl, by (repeat (first | exact Below.refl _ _ | assumption | refine balloc ?_ _ | refine below_drewN ?_ _ | refine bstep (by assumption) ?_ | refine bstep (Past.prop _) ?_ | refine Below.setCell ?_ (by first | exact Nat.le_refl _ | (simp; done) | (simp; omega)) _))⟩

theorem sums_c (L : List (List Sg)) (ts : List Int) (a a' : Option Addr) (cap cap' : Nat) (w : World) (hQ : ArgQ w a L) (hT : ArgI w a' ts) :
    Calls Try.prog 7 #[.slice a L.length cap, .slice a' ts.length cap'] w fun e w' => e = .returned (.bool true) ∧ Below w.heap.size w w' := by
  by_cases h : 8 < L.length ∨ 40 < ts.length
  · exact sums_many L.length ts.length a a' cap cap' w h
  · by_cases h0 : 0 < L.length
    · obtain ⟨b, off, sv, rfl, hR⟩ := rowQ_of hQ h0
      exact sums_few L ts ts.length a' cap cap' b off sv w h0 (by omega) (by omega) rfl hR hT
    · have : L = [] := List.eq_nil_of_length_eq_zero (by omega)
      subst this
      exact sums_none ts ts.length a a' cap cap' w (by omega) rfl hT
end Go.Proofs.Ytgbgnpdfjoeonaa

namespace Go.Proofs.Ytgbgnpdfjoeonaa
open Go.ChangeShapes Go.WideShapes Go.ChangeAt Go.RowKit

set_option maxRecDepth 100000 in
theorem calcSums_lifted (os : Os) (started : os.Started) (H : Type) (enc : TypeId × Value → H) :
    ReturnsInHanded {} Try.checked os 7 .any (Rows.calcSumsSpec.pre6 enc Try.prog Try.f7 Rows.calcSumsRow.domain false) (Rows.calcSumsSpec.post enc Try.prog Try.f7 false true false false) := by
  refine returnsInHanded_of_change (C := Try.checked) own started (by kernel_rfl) Try.func7
    (ChangeSpec.witness6 (enc := enc) (C := Try.checked) false ⟨#[], #[.slice none 0 0, .slice none 0 0], []⟩ 8 (by kernel_rfl) (by kernel_rfl) (by kernel_rfl) (by kernel_rfl)) ?_
  intro W base args ds gs before hval0 hW _ _
  have hval : ∀ (j : Nat) t v, Try.f7.params[j]? = some t → args[j]? = some v → Value.okWide Try.prog W .any base t v := hval0
  have hW' := hW
  obtain ⟨p, q, hA0, hV, rfl, hfz, hnd⟩ := hW
  have hA : DataW.TrodAll enc Try.prog W 0 (fun _ => true) true Try.f7.params.toList args.toList ds p := hA0
  rw [Try.params7] at hA hval
  obtain ⟨v0, vs0, d0, ds0, p0, q0, hargs, rfl, rfl, h0, r0⟩ := trodAll_cons hA
  obtain ⟨v1, vs1, d1, ds1, p1, q1, rfl, rfl, rfl, h1, r1⟩ := trodAll_cons r0
  obtain ⟨rfl, rfl, rfl⟩ := trodAll_nil r1
  obtain rfl : args = #[v0, v1] := by cases args; simp_all
  obtain ⟨l0, o0, c0, rfl, hl0, hA0'⟩ := open_rowsP (hval 0 30 v0 rfl rfl) h0
  obtain ⟨l1, o1, c1, rfl, hl1, hA1'⟩ := open_i64sP (hval 1 51 v1 rfl rfl) h1
  clear hA0 hval0
  refine (sums_c l0 l1 o0 o1 c0 c1 W hA0' hA1').mono fun e W' ⟨he, hb⟩ => ?_
  subst he
  exact ⟨_, rfl, law_post laidOut (readOk_spec (by kernel_rfl)) rfl Try.underlying4 rfl ⟨rfl, rfl, rfl⟩ hW' hb⟩

theorem calcSums_holds : Rows.CalcSumsSaid :=
  OpenClaim.holds_of_wide 7 Try.f7 rfl rfl rfl rfl rfl rfl rfl ⟨rfl, rfl, rfl, rfl, rfl⟩ rfl rfl rfl rfl rfl (by kernel_rfl) Try.func7 (by kernel_rfl)
    (of_decide_eq_true (by kernel_rfl)) (by unfold Func.isWrapper; first | (rw [if_pos (by decide +kernel)]; kernel_rfl) | (rw [if_neg (by decide +kernel)]; exact ⟨rfl, rfl⟩))
    (fun os started H enc _ => calcSums_lifted os started H enc)
end Go.Proofs.Ytgbgnpdfjoeonaa
