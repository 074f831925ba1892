/- Lists of parts that are trees; parts in another one's stead; the text of a definition, byte by byte. No program. No conditions. The normal form of terms: the rules, on a term and the list of its children; that they end, and that what they end in stays. No program. No conditions. The normal form: it is reached, it stays, it is no greater and no deeper, its parts are parts that were there, and it may be. No program. No conditions. Terms that may be, as terms and as lists of parts; the normal form of one that may be may be. No program. No conditions. Terms that say the same have the same normal form. No program. No conditions. Terms whose parts are numbered: the numbers hinder no rule; the normal form's parts bear numbers of parts that were there, each once. No program. No conditions. Parts that may have a text; the text of a term among others; what the rules ask of a term that may be. No program. No conditions. The contracts of the document's own answers of layer 8: bad, read, Tree, Check, End, May. No conditions but sizes, and that the slice's cells read as parts. Slices that read as lists of integers of one kind (uint8, uint64 ..). No function of the program. No conditions. The contracts of the document's own answers of layer 8: Tree, Check, End, May, Kids, Depth, Atoms, Same. No conditions but sizes, and that the slices' cells read as parts, as places. The contracts of the document's own answers of layer 8: Depth, Atoms, Same. No conditions but sizes, and that the slices' cells read as parts, as places. How parts that may be hang together: ends, children, depths. No program. No conditions. -/
import Derived.Test.YtlhokgcamcaonaaPYGA
import Derived.Test.YtlhokgcamcaonaaPYMA
import Derived.Test.YtlhokgcamcaonaaRows
import Derived.LoopTactic
import Derived.Deep.LoopGhost
import Derived.WalkMore
import Derived.ScopeJumps
import Derived.Deep.DeepCutAuto
import Derived.Outline
import Derived.BigRegion
import Derived.Laws.AppendOwn
import Derived.Laws.OwnMore
import Derived.Laws.IdiomStrings
namespace Go.Proofs.Ytlhokgcamcaonaa

/-- Known kinds; the number of children is told by the children alone. -/
def Fst.kok : Fst → Prop
  | .nil => True
  | .cons x kids next => x.kind ≤ 4 ∧ x.kids = 0 ∧ kids.kok ∧ next.kok
end Go.Proofs.Ytlhokgcamcaonaa

namespace Go.Proofs.Ytlhokgcamcaonaa

/-- A term: its part, its children. -/
abbrev Tm := Prt × Fst
end Go.Proofs.Ytlhokgcamcaonaa

namespace Go.Proofs.Ytlhokgcamcaonaa

end Go.Proofs.Ytlhokgcamcaonaa

namespace Go.Proofs.Ytlhokgcamcaonaa

/-- Terms that may be, at a depth, in a part of a kind. -/
def Fst.fit : Fst → Nat → Nat → Prop
  | .nil, _, _ => True
  | .cons x K N, deep, ink => badP { x with kids := K.len } = false ∧ (ink = 2 → x.kind = 0) ∧ deep ≤ 8 ∧ K.fit (deep + 1) x.kind ∧ N.fit deep ink
theorem rd_fit : ∀ (F : Fst) (m : Nat) (l : List Prt) (o deep ink : Nat), F.size ≤ m → (∀ i, i < F.size → l[o + i]? = F.flat[i]?) → o + F.size ≤ 64 → F.fit deep ink → rdS m l o deep ink F.len = .ok (o + F.size)
  | .nil, m, l, o, deep, ink, _, _, _, _ => by rw [Fst.len, rd_zero]; rfl
  | .cons x K N, m, l, o, deep, ink, hm, hl, h64, ⟨h1, h2, h3, h4, h5⟩ => by
    simp only [Fst.size] at hm hl h64
    obtain ⟨m, rfl⟩ : ∃ k, m = k + 1 := ⟨m - 1, by omega⟩
    have h0 : l[o]? = some { x with kids := (K.len : Int) } := by
      have := hl 0 (by omega)
      rw [Nat.add_zero] at this
      rw [this]; rfl
    have hlt := (List.getElem?_eq_some_iff.1 h0).1
    have hd : l.getD o ⟨0, 0, 0, 0, 0⟩ = { x with kids := (K.len : Int) } := by rw [List.getD_eq_getElem?_getD, h0]; rfl
    have hst : stopS l o deep ink = none := by
      rw [stop_deep hlt (by
        rw [hd]
        rintro (c | c | ⟨c, c2⟩)
        · omega
        · rw [h1] at c; cases c
        · exact c2 (h2 c))]
      exact if_neg (by omega)
    have hK := rd_fit K m l (o + 1) (deep + 1) x.kind (by omega) (fun i hi => by
      have := hl (1 + i) (by omega)
      rw [show o + 1 + i = o + (1 + i) by omega, this, Fst.flat, Nat.add_comm 1 i, List.getElem?_cons_succ, List.getElem?_append_left (by rw [flat_len]; exact hi)]) (by omega) h4
    have hN := rd_fit N m l (o + 1 + K.size) deep ink (by omega) (fun i hi => by
      have := hl (1 + K.size + i) (by omega)
      rw [show o + 1 + K.size + i = o + (1 + K.size + i) by omega, this, Fst.flat, show 1 + K.size + i = (K.size + i) + 1 by omega, List.getElem?_cons_succ, List.getElem?_append_right (by rw [flat_len]; omega), flat_len, Nat.add_sub_cancel_left]) (by omega) h5
    rw [Fst.len, rd_cons, hst]
    simp only [hd, Int.toNat_natCast, hK, hN, Fst.size]
    congr 1; omega
theorem badP_kind {x : Prt} (h : badP x = false) : x.kind ≤ 4 := by
  unfold badP at h
  split at h
  · omega
  · have := of_decide_eq_false h; omega
theorem rd_unflat : ∀ (m : Nat) (l : List Prt) (p deep ink n e : Nat), rdS m l p deep ink n = .ok e → ∃ F : Fst, F.kok ∧ F.len = n ∧ F.fit deep ink ∧ e = p + F.size ∧ ∀ i, i < F.size → l[p + i]? = F.flat[i]?
  | m, l, p, deep, ink, 0, e, h => by
    rw [rd_zero] at h; cases h
    exact ⟨.nil, trivial, rfl, trivial, rfl, fun i hi => by simp [Fst.size] at hi⟩
  | 0, l, p, deep, ink, n + 1, e, h => by cases h
  | m + 1, l, p, deep, ink, n + 1, e, h => by
    rw [rd_cons] at h
    cases hst : stopS l p deep ink with
    | some x => rw [hst] at h; cases h
    | none =>
      rw [hst] at h
      simp only at h
      obtain ⟨s1, s2, s3, s4, s5⟩ := stop_none hst
      cases hk : rdS m l (p + 1) (deep + 1) (l.getD p ⟨0, 0, 0, 0, 0⟩).kind (l.getD p ⟨0, 0, 0, 0, 0⟩).kids.toNat with
      | error x => rw [hk] at h; cases h
      | ok q =>
        rw [hk] at h
        simp only at h
        obtain ⟨K, k1, k2, k3, k4, k5⟩ := rd_unflat m l _ _ _ _ _ hk
        obtain ⟨N, n1, n2, n3, n4, n5⟩ := rd_unflat m l _ _ _ _ _ h
        have hx : l[p]? = some (l.getD p ⟨0, 0, 0, 0, 0⟩) := by
          rw [List.getD_eq_getElem?_getD, List.getElem?_eq_getElem s1]; rfl
        generalize l.getD p ⟨0, 0, 0, 0, 0⟩ = x at *
        have hk0 := (bad_kids s3).1
        have e1 : ({ x with kids := (K.len : Int) } : Prt) = x := by
          obtain ⟨a, b, c, d, f⟩ := x
          simp only at k2 hk0 ⊢
          rw [k2]; congr 1; omega
        refine ⟨.cons { x with kids := 0 } K N, ⟨(badP_kind s3 : x.kind ≤ 4), rfl, k1, n1⟩, by simp only [Fst.len, n2], ⟨?_, s4, s5, k3, n3⟩, by simp only [Fst.size]; omega, fun i hi => ?_⟩
        · exact (congrArg badP e1).trans s3
        · simp only [Fst.size] at hi
          have e2 : (Fst.cons { x with kids := 0 } K N).flat = x :: (K.flat ++ N.flat) := by
            simp only [Fst.flat]
            exact congrArg (· :: _) e1
          rw [e2]
          match i with
          | 0 => exact hx
          | i + 1 =>
            rw [List.getElem?_cons_succ]
            by_cases c : i < K.size
            · rw [List.getElem?_append_left (by rw [flat_len]; exact c), ← k5 i c]
              congr 1; omega
            · rw [List.getElem?_append_right (by rw [flat_len]; omega), flat_len, ← n5 (i - K.size) (by omega)]
              congr 1; omega
/-- Parts that may be are a term that may be. -/
theorem fit_tree {l : List Prt} (h : (treeS l).2 = 0) : ∃ F : Fst, F.kok ∧ F.len = 1 ∧ l = F.flat ∧ F.fit 1 0 ∧ F.size ≤ 64 := by
  obtain ⟨F, h1, h2, h3, h4, h5⟩ := rd_unflat _ _ _ _ _ _ _ (tree_fine h)
  have e : l = F.flat := by
    apply List.ext_getElem?
    intro i
    by_cases c : i < F.size
    · rw [← h5 i c, Nat.zero_add]
    · rw [List.getElem?_eq_none (by omega), List.getElem?_eq_none (by rw [flat_len]; omega)]
  refine ⟨F, h1, h2, e, h3, ?_⟩
  by_cases c : F.size ≤ 64
  · exact c
  · have := (tree_part h (i := 64) (by omega)).2; omega
def FitT (t : Tm) (deep ink : Nat) : Prop := badP { t.1 with kids := t.2.len } = false ∧ (ink = 2 → t.1.kind = 0) ∧ deep ≤ 8 ∧ t.2.fit (deep + 1) t.1.kind
theorem badP_kids {x : Prt} {a : Nat} (h : badP { x with kids := (a : Int) } = false) : (x.kind = 0 → a = 0) ∧ (x.kind ≠ 0 → 1 ≤ a ∧ a ≤ 16) := by
  unfold badP at h
  simp only at h
  constructor
  · intro hk
    rw [if_pos hk] at h
    have := of_decide_eq_false h
    omega
  · intro hk
    rw [if_neg hk] at h
    have := of_decide_eq_false h
    omega
end Go.Proofs.Ytlhokgcamcaonaa

namespace Go.Proofs.Ytlhokgcamcaonaa

/-! What the rules leave alone. -/
/-! One term by its rules. -/
/-! Texts tell terms apart. -/
end Go.Proofs.Ytlhokgcamcaonaa

namespace Go.Proofs.Ytlhokgcamcaonaa

end Go.Proofs.Ytlhokgcamcaonaa

namespace Go.Proofs.Ytlhokgcamcaonaa

theorem badP_num {x : Prt} (h : badP x = false) : x.kind ≤ 4 ∧ x.n ≤ 4096 ∧ x.g ≤ 4096 ∧ 0 ≤ x.d ∧ x.d ≤ 4096 ∧ 0 ≤ x.kids ∧ x.kids ≤ 16 := by
  unfold badP at h
  split at h
  · have := of_decide_eq_false h; omega
  · have := of_decide_eq_false h; omega
theorem fitT_len {t : Tm} {deep ink : Nat} (h : FitT t deep ink) : t.2.len ≤ 16 := by
  have := badP_num h.1
  simp only at this; omega
/-! The rules, as the program tries them, one by one. -/
end Go.Proofs.Ytlhokgcamcaonaa

namespace Go.Proofs.Ytlhokgcamcaonaa
open Go.ChangeShapes Go.WideShapes Go.ChangeAt Go.RowKit
attribute [local irreducible] Go.Calls

set_option maxHeartbeats 1000000 in
theorem rbad_c (x : Prt) (w : World) : Calls Try.prog 64 #[prtV x] w fun e w' => e = .returned (.bool (badP x)) ∧ Below w.heap.size w w' := by
  obtain ⟨kd, n, g, d, ks⟩ := x
  by_cases hk : kd = 0
  · have HE := hidE (show badP ⟨kd, n, g, d, ks⟩ = decide (ks ≠ 0 ∨ n = 0 ∨ 4096 < n ∨ g = 0 ∨ n < g ∨ n % g ≠ 0 ∨ d < 1 ∨ 4096 < d) by unfold badP; rw [if_pos hk])
    rw [HE.out]
    have k1 : ((kd : Int) == 0) = true := by simp [hk]
    have hmod : (n : Int).tmod (g : Int) = ((n % g : Nat) : Int) := by rw [Int.tmod_eq_emod_of_nonneg (by omega)]; omega
    clear HE hk
    go_enter Try.func64, Try.ntmps64
    go_wp2
    all_goals
      go_ret
      refine ⟨ret_bool ?_, by (repeat (first | exact Below.refl _ _ | assumption | refine balloc ?_ _ | refine below_drewN ?_ _ | refine bstep (by assumption) ?_ | refine bstep (Past.prop _) ?_ | refine Below.setCell ?_ (by first | exact Nat.le_refl _ | (simp; done) | (simp; omega)) _))⟩
      first
        | (symm; apply decide_eq_true; omega)
        | (symm; apply decide_eq_false; omega)
        | (simp_all; done)
        | (rw [Bool.eq_iff_iff]; simp_all; omega)
  · have HE := hidE (show badP ⟨kd, n, g, d, ks⟩ = decide (4 < kd ∨ ks < 1 ∨ 16 < ks ∨ n ≠ 0 ∨ g ≠ 0 ∨ d ≠ 0) by unfold badP; rw [if_neg hk])
    rw [HE.out]
    have k1 : ((kd : Int) == 0) = false := by simp; omega
    clear HE hk
    go_enter Try.func64, Try.ntmps64
    go_wp2
    all_goals
      go_ret
      refine ⟨ret_bool ?_, by (repeat (first | exact Below.refl _ _ | assumption | refine balloc ?_ _ | refine below_drewN ?_ _ | refine bstep (by assumption) ?_ | refine bstep (Past.prop _) ?_ | refine Below.setCell ?_ (by first | exact Nat.le_refl _ | (simp; done) | (simp; omega)) _))⟩
      first
        | (symm; apply decide_eq_true; omega)
        | (symm; apply decide_eq_false; omega)
        | (simp_all; done)
        | (rw [Bool.eq_iff_iff]; simp_all; omega)
/-- Three integers. -/
abbrev I3 (r : Nat × Nat × Int) : Value := .tuple #[.int .i64 r.1, .int .i64 r.2.1, .int .i64 r.2.2]
set_option maxRecDepth 100000 in
set_option maxHeartbeats 4000000 in
theorem rread_c (l : List Prt) (a : Option Addr) (cap : Nat) (hl : l.length ≤ 1000000000) : ∀ (m p deep ink : Nat) (w : World), l.length + 1 - p ≤ m → ArgP w a l → deep ≤ 1000000000 → p ≤ 1000000000 →
    Calls Try.prog 49 #[.slice a l.length cap, .int .i64 p, .int .i64 deep, .int .u8 ink] w fun e w' => e = .returned (I3 (rdT (rdS (l.length + 1) l p deep ink 1))) ∧ Below w.heap.size w w' := by
  intro m
  induction m with
  | zero =>
    intro p deep ink w hm hA hd hp
    have HE := hidE (rd_stop (stop_out (deep := deep) (ink := ink) (show l.length ≤ p by omega)))
    rw [HE.out]
    have q1 : decide ((p : Int) ≥ (l.length : Int)) = true := decide_eq_true (by omega)
    have q2 : decide (l.length ≤ p) = true := decide_eq_true (by omega)
    clear HE
    go_enter Try.func49, Try.ntmps49
    go_wp2
    refine bodyPost_ret (v := .tuple #[.int .i64 0, .int .i64 p, .int .i64 81]) (by simp [results, Try.results49, go_sem]) rfl ⟨rfl, Below.refl _ _⟩
  | succ m ih =>
    intro p deep ink w hm hA hd hp
    by_cases hlt : p < l.length
    · obtain ⟨b, off, rfl, hbb, hc⟩ := hA (by omega)
      obtain ⟨c0, c1, c2, c3, c4⟩ := hc.get hlt
      have q1 : decide ((p : Int) ≥ (l.length : Int)) = false := decide_eq_false (by omega)
      have q2 : decide (l.length ≤ p) = false := decide_eq_false (by omega)
      have HBAD := hidE (fun w => rbad_c (l.getD p ⟨0, 0, 0, 0, 0⟩) w)
      have HC := hidE hc
      have hHd := hd
      have HPR := hidE (show l.getD p pr0 = l.getD p ⟨0, 0, 0, 0, 0⟩ from rfl)
      rw [HPR.out] at c0 c1 c2 c3 c4
      by_cases h64 : 64 ≤ p
      · have HE := hidE (rd_stop (stop_shape (deep := deep) (ink := ink) hlt (.inl h64)))
        rw [HE.out]
        have q3 : decide ((p : Int) ≥ 64) = true := decide_eq_true (by omega)
        have q4 : decide (64 ≤ p) = true := decide_eq_true h64
        clear HE hc c0 c1 c2 c3 c4 ih
        go_enter Try.func49, Try.ntmps49
        go_wp2
        refine bodyPost_ret (v := .tuple #[.int .i64 0, .int .i64 p, .int .i64 81]) (by simp [results, Try.results49, go_sem]) rfl ⟨rfl, Below.refl _ _⟩
      · have q3 : decide ((p : Int) ≥ 64) = false := decide_eq_false (by omega)
        have q4 : decide (64 ≤ p) = false := decide_eq_false h64
        cases hbad : badP (l.getD p ⟨0, 0, 0, 0, 0⟩)
        · rw [hbad] at HBAD
          by_cases hin : ink = 2 ∧ (l.getD p ⟨0, 0, 0, 0, 0⟩).kind ≠ 0
          · have HE := hidE (rd_stop (stop_shape (deep := deep) (ink := ink) hlt (.inr (.inr hin))))
            rw [HE.out]
            have i1 : ((ink : Int) == 2) = true := by simp [hin.1]
            have i2 : (((l.getD p ⟨0, 0, 0, 0, 0⟩).kind : Int) != 0) = true := bne_iff_ne.2 (by have := hin.2; omega)
            clear HE hc ih hbad HPR hin
            generalize (l.getD p ⟨0, 0, 0, 0, 0⟩) = x at *
            obtain ⟨kd, n, g, d, ks⟩ := x
            simp only at c0 c1 c2 c3 c4 i2
            go_enter Try.func49, Try.ntmps49
            go_wp2_with (go_at_call 64; (with_reducible refine (HBAD.out _).mono ?_); rintro e w1 ⟨rfl, hb1⟩; have c5 := (hb1.cell (p := ⟨b, off + p * 5, none⟩) hbb).trans c0)
            refine bodyPost_ret (v := .tuple #[.int .i64 0, .int .i64 p, .int .i64 81]) (by simp [results, Try.results49, go_sem]) rfl ⟨rfl, hb1⟩
          · have hst := stop_deep (deep := deep) (ink := ink) hlt (fun h => by
              rcases h with h | h | h
              · exact h64 h
              · rw [hbad] at h; cases h
              · exact hin h)
            have hin2 : ((ink : Int) == 2) = false ∨ (((ink : Int) == 2) = true ∧ (((l.getD p ⟨0, 0, 0, 0, 0⟩).kind : Int) != 0) = false) := by
              by_cases c : ink = 2
              · refine .inr ⟨by simp [c], ?_⟩
                have : (l.getD p ⟨0, 0, 0, 0, 0⟩).kind = 0 := by
                  by_cases c2 : (l.getD p ⟨0, 0, 0, 0, 0⟩).kind = 0
                  · exact c2
                  · exact absurd ⟨c, c2⟩ hin
                rw [this]; rfl
              · exact .inl (by simp; omega)
            by_cases h8 : 8 < deep
            · rw [if_pos h8] at hst
              have HE := hidE (rd_stop hst)
              rw [HE.out]
              have d1 : decide ((deep : Int) > 8) = true := decide_eq_true (by omega)
              have d2 : decide (8 < deep) = true := decide_eq_true h8
              clear HE hc ih hbad HPR hin hst
              generalize (l.getD p ⟨0, 0, 0, 0, 0⟩) = x at *
              obtain ⟨kd, n, g, d, ks⟩ := x
              simp only at c0 c1 c2 c3 c4 hin2
              rcases hin2 with i1 | ⟨i1, i2⟩
              all_goals
                go_enter Try.func49, Try.ntmps49
                go_wp2_with (go_at_call 64; (with_reducible refine (HBAD.out _).mono ?_); rintro e w1 ⟨rfl, hb1⟩; have c5 := (hb1.cell (p := ⟨b, off + p * 5, none⟩) hbb).trans c0)
                refine bodyPost_ret (v := .tuple #[.int .i64 0, .int .i64 p, .int .i64 80]) (by simp [results, Try.results49, go_sem]) rfl ⟨rfl, hb1⟩
            · rw [if_neg h8] at hst
              have HOP := hidE (rd_open hst)
              have hks := bad_kids hbad
              have d1 : decide ((deep : Int) > 8) = false := decide_eq_false (by omega)
              have d2 : decide (8 < deep) = false := decide_eq_false h8
              have w1 : IntKind.i64.wrap ((p : Int) + 1) = (p : Int) + 1 := IntWalk.i64_in _ (by omega)
              have w2 : IntKind.i64.wrap ((deep : Int) + 1) = (deep : Int) + 1 := IntWalk.i64_in _ (by omega)
              clear hbad HPR hin hst hA
              generalize (l.getD p ⟨0, 0, 0, 0, 0⟩) = x at *
              obtain ⟨kd, n, g, d, ks⟩ := x
              simp only at c0 c1 c2 c3 c4 hin2 hks HOP
              obtain ⟨K, rfl⟩ : ∃ K : Nat, ks = (K : Int) := ⟨ks.toNat, by omega⟩
              rw [Int.toNat_natCast] at HOP
              have HA := hidE (show ArgP w (some ⟨b, off, none⟩) l from fun _ => ⟨b, off, rfl, hbb, HC.out⟩)
              have HI := hidE ih
              have HM := hidE (And.intro hm hHd)
              clear ih hc hm hHd hd
              rcases hin2 with i1 | ⟨i1, i2⟩
              all_goals
                go_enter Try.func49, Try.ntmps49
                go_wp2_with (go_at_call 64; (with_reducible refine (HBAD.out _).mono ?_); rintro e w1 ⟨rfl, hb1⟩; have c5 := (hb1.cell (p := ⟨b, off + p * 5, none⟩) hbb).trans c0)
                go_loopg [11, 12] K (fun gh v11 v12 wr => ∃ k q : Nat, k ≤ K ∧ K - k ≤ gh ∧ v12 = .int .i64 k ∧ v11 = .int .i64 q ∧ p < q ∧ q ≤ l.length ∧ rdS (l.length + 1) l q (deep + 1) kd (K - k) = rdS (l.length + 1) l (p + 1) (deep + 1) kd K ∧ Below w.heap.size w wr)
                case atStart => exact ⟨0, p + 1, Nat.zero_le _, Nat.le_refl _, rfl, by simp, by omega, by omega, rfl, hb1⟩
                case round =>
                  obtain ⟨k, q, hkk, hgh, rfl, rfl, hq1, hq2, hR, hb⟩ := hrel
                  have HB := hidE hb; have HR := hidE hR; have HG := hidE hgh
                  have f0 := (hb.cell (p := ⟨b, off + p * 5, none⟩) hbb).trans c0
                  have f4 := (hb.cell (p := ⟨b, off + p * 5 + 4, none⟩) hbb).trans c4
                  have fz := Nat.lt_of_lt_of_le hbb hb.size
                  clear hb hR hgh c5 hb1 c1 c2 c3
                  by_cases hk : k < K
                  · have r1 : decide ((k : Int) < (K : Int)) = true := decide_eq_true (by omega)
                    have r2 : decide (k < K) = true := decide_eq_true hk
                    have HCALL := hidE (fun w' (hb' : Below w.heap.size w w') => show Calls Try.prog 49 #[.slice (some ⟨b, off, none⟩) l.length cap, .int .i64 q, .int .i64 ((deep : Int) + 1), .int .u8 kd] w' fun e w'' => e = .returned (I3 (rdT (rdS (l.length + 1) l q (deep + 1) kd 1))) ∧ Below w'.heap.size w' w'' from by
                      have := HI.out q (deep + 1) kd w' (by have := HM.out.1; omega) (HA.out.past hb') (by omega) (by omega)
                      rw [show ((deep + 1 : Nat) : Int) = (deep : Int) + 1 by omega] at this
                      exact this)
                    have HONE := hidE (rd_one (m := l.length + 1) (l := l) (p := q) (deep := deep + 1) (ink := kd) (n := K - k - 1) (by omega) (by omega))
                    cases hone : rdS (l.length + 1) l q (deep + 1) kd 1 with
                    | error e =>
                      rw [hone] at HCALL HONE
                      have he : (e.2 == 0) = false ∧ (e.2 != 0) = true := by
                        rcases rd_err _ _ _ _ _ _ _ hone with h | h <;> rw [h] <;> decide
                      obtain ⟨he1, he2⟩ := he
                      have HF := hidE (show rdS (l.length + 1) l p deep ink 1 = .error e by
                        rw [HOP.out, ← HR.out, show K - k = K - k - 1 + 1 by omega, HONE.out])
                      rw [show rdT (.error e) = (0, e.1, e.2) from rfl] at HCALL
                      clear hone
                      obtain ⟨ea, eb⟩ := e
                      simp only at he1 he2
                      go_wp2_with (go_at_call 49; (with_reducible refine (HCALL.out _ HB.out).mono ?_); rintro e w2 ⟨rfl, hb2⟩)
                      refine bodyPost_ret (v := .tuple #[.int .i64 0, .int .i64 ea, .int .i64 eb]) (by simp [results, Try.results49, go_sem]) rfl ⟨by rw [HF.out]; rfl, HB.out.trans (hb2.mono HB.out.size)⟩
                    | ok q' =>
                      rw [hone] at HCALL HONE
                      have hgt := rd_gt _ _ _ _ _ _ _ hone
                      rw [show rdT (.ok q') = (q', 0, 0) from rfl] at HCALL
                      clear hone
                      go_wp2_with (go_at_call 49; (with_reducible refine (HCALL.out _ HB.out).mono ?_); rintro e w2 ⟨rfl, hb2⟩)
                      go_roundg (K - (k + 1))
                      case measure => have := HG.out; omega
                      case rel => exact ⟨k + 1, q', by omega, Nat.le_refl _, by go_num, rfl, by omega, by omega, by rw [← HR.out, show K - k = K - k - 1 + 1 by omega, HONE.out]; rfl, HB.out.trans (hb2.mono HB.out.size)⟩
                  · obtain rfl : k = K := by omega
                    have r1 : decide ((k : Int) < (k : Int)) = false := decide_eq_false (by omega)
                    have r2 : decide (k < k) = false := decide_eq_false (by omega)
                    have HF := hidE (show rdS (l.length + 1) l p deep ink 1 = .ok q by rw [HOP.out, ← HR.out, Nat.sub_self, rd_zero])
                    go_wp2
                    refine bodyPost_ret (v := .tuple #[.int .i64 q, .int .i64 0, .int .i64 0]) (by simp [results, Try.results49, go_sem]) rfl ⟨by rw [HF.out]; rfl, HB.out⟩
        · have HE := hidE (rd_stop (stop_shape (deep := deep) (ink := ink) hlt (.inr (.inl hbad))))
          rw [HE.out]
          rw [hbad] at HBAD
          clear HE hc ih hbad HPR
          generalize (l.getD p ⟨0, 0, 0, 0, 0⟩) = x at *
          obtain ⟨kd, n, g, d, ks⟩ := x
          simp only at c0 c1 c2 c3 c4
          go_enter Try.func49, Try.ntmps49
          go_wp2_with (go_at_call 64; (with_reducible refine (HBAD.out _).mono ?_); rintro e w1 ⟨rfl, hb1⟩)
          refine bodyPost_ret (v := .tuple #[.int .i64 0, .int .i64 p, .int .i64 81]) (by simp [results, Try.results49, go_sem]) rfl ⟨rfl, hb1⟩
    · have HE := hidE (rd_stop (stop_out (deep := deep) (ink := ink) (show l.length ≤ p by omega)))
      rw [HE.out]
      have q1 : decide ((p : Int) ≥ (l.length : Int)) = true := decide_eq_true (by omega)
      have q2 : decide (l.length ≤ p) = true := decide_eq_true (by omega)
      clear HE ih
      go_enter Try.func49, Try.ntmps49
      go_wp2
      refine bodyPost_ret (v := .tuple #[.int .i64 0, .int .i64 p, .int .i64 81]) (by simp [results, Try.results49, go_sem]) rfl ⟨rfl, Below.refl _ _⟩
end Go.Proofs.Ytlhokgcamcaonaa

namespace Go.Proofs.Ytlhokgcamcaonaa
open Go.ChangeShapes Go.WideShapes Go.ChangeAt Go.RowKit
attribute [local irreducible] Go.Calls

/-- The numbers that a slice's cells hold. -/
def CellsK (k : IntKind) (w : World) (b off : Nat) (l : List Int) : Prop := ∀ i, i < l.length → w.cell? ⟨b, off + i, none⟩ = some (.int k (l.getD i 0))
def ArgK (k : IntKind) (w : World) (a : Option Addr) (l : List Int) : Prop := 0 < l.length → ∃ b off, a = some ⟨b, off, none⟩ ∧ b < w.heap.size ∧ CellsK k w b off l
/-- The cells of a list of numbers. -/
def cellsK (k : IntKind) (l : List Int) : List Value := l.map (.int k)
theorem cellsK_app (k : IntKind) (l r : List Int) : cellsK k (l ++ r) = cellsK k l ++ cellsK k r := by unfold cellsK; rw [List.map_append]
theorem kgetD (l : List Int) (i : Nat) (h : i < l.length) : l.getD i 0 = l[i] := by rw [List.getD_eq_getElem?_getD, List.getElem?_eq_getElem h]; rfl
theorem cellsK_get {k : IntKind} {l : List Int} {i : Nat} (h : i < l.length) : (cellsK k l)[i]? = some (.int k (l.getD i 0)) := by
  unfold cellsK
  rw [List.getElem?_map, List.getElem?_eq_getElem h, kgetD _ _ h]; rfl
/-- What a call has appended to reads as a slice. -/
theorem argK_own {k : IntKind} {w : World} {base : Nat} {e : TypeId} {v : Value} {l : List Int} (h : w.ownsRow base e 1 v l.length (cellsK k l)) : ∃ a cap, v = .slice a l.length cap ∧ ArgK k w a l := by
  obtain ⟨h1, h2 | ⟨g, cap, cur, rfl, h3, h4, h5, h6, h7, h8⟩⟩ := h
  · obtain ⟨rfl, h2⟩ := h2
    have : l = [] := List.eq_nil_of_length_eq_zero h2
    subst this
    exact ⟨none, 0, rfl, fun h => by simp at h⟩
  · refine ⟨some ⟨g, 0, none⟩, cap, rfl, fun _ => ⟨g, 0, rfl, lt_of_block h4, fun i hi => ?_⟩⟩
    have hg := cellsK_get (k := k) hi
    have e : w.cell? ⟨g, 0 + i, none⟩ = cur[i]? := by simp [World.cell?, h4]
    rw [e, ← Array.getElem?_toList]
    rw [← h8, List.getElem?_take, if_pos (by omega)] at hg
    exact hg
end Go.Proofs.Ytlhokgcamcaonaa

namespace Go.Proofs.Ytlhokgcamcaonaa
open Go.ChangeShapes Go.WideShapes Go.ChangeAt Go.RowKit
attribute [local irreducible] Go.Calls

/-- A definition's value. -/
abbrev def8 (fr to' : Int) (a : Option Addr) (n cap : Nat) : Value := .agg #[.int .i64 fr, .int .i64 to', .slice a n cap]
theorem rend_c (l : List Prt) (p : Nat) (a : Option Addr) (cap : Nat) (w : World) (hl : l.length ≤ 1000000000) (hp : p ≤ 1000000000) (hA : ArgP w a l) :
    Calls Try.prog 35 #[.slice a l.length cap, .int .i64 p] w fun e w' => e = .returned (.int .i64 (endS l p)) ∧ Below w.heap.size w w' := by
  have HR := hidE (show Calls Try.prog 49 #[.slice a l.length cap, .int .i64 p, .int .i64 1, .int .u8 0] w _ from rread_c l a cap hl (l.length + 1) p 1 0 w (by omega) hA (by omega) hp)
  have HE := hidE (show endS l p = (rdT (rdS (l.length + 1) l p 1 0 1)).1 from rfl)
  rw [HE.out]
  generalize rdT (rdS (l.length + 1) l p 1 0 1) = R at *
  obtain ⟨x, y, z⟩ := R
  clear HE hA
  go_enter Try.func35, Try.ntmps35
  go_wp2_with (go_at_call 49; (with_reducible refine HR.out.mono ?_); rintro e w2 ⟨rfl, hb2⟩)
  go_ret
  exact ⟨rfl, hb2⟩
theorem Try.infoIntL : (Try.prog.info? 3).map (fun i => (i.zero, i.size, i.bytes)) = some (some (.int .i64 0), 1, 8) := by kernel_rfl
/-- Places, as integers. -/
def natsI (l : List Nat) : List Int := l.map fun (n : Nat) => (n : Int)
theorem natsI_len (l : List Nat) : (natsI l).length = l.length := by unfold natsI; rw [List.length_map]
theorem natsI_app (l r : List Nat) : natsI (l ++ r) = natsI l ++ natsI r := by unfold natsI; rw [List.map_append]
/-- A slice value that reads as the list of places. -/
def SliN (w : World) (v : Value) (l : List Nat) : Prop := ∃ (a : Option Addr) (cap : Nat), v = .slice a l.length cap ∧ l.length ≤ cap ∧ cap ≤ 9223372036854775807 ∧ ArgK .i64 w a (natsI l)
theorem sliN_own {w : World} {base : Nat} {e : TypeId} {v : Value} {l : List Nat} (h : w.ownsRow base e 1 v l.length (cellsK .i64 (natsI l))) : SliN w v l := by
  obtain ⟨a, cap, hv, hA⟩ := argK_own (l := natsI l) (by rw [natsI_len]; exact h)
  rw [natsI_len] at hv
  obtain ⟨h1, h2 | ⟨g, cp, cur, h3, h4, h5, h6, h7, h8⟩⟩ := h
  · obtain ⟨rfl, h2⟩ := h2
    have e := List.eq_nil_of_length_eq_zero h2
    subst e
    exact ⟨none, 0, rfl, Nat.le_refl _, by omega, fun hh => by simp [natsI] at hh⟩
  · rw [hv] at h3
    cases h3
    exact ⟨_, cap, hv, h6, by unfold maxLen at h7; omega, hA⟩
theorem kidsGo_len (l : List Prt) : ∀ (n p : Nat), (kidsGo l n p).length = n
  | 0, _ => rfl
  | n + 1, p => by simp only [kidsGo, List.length_cons, kidsGo_len l n]
/-- Where the child behind so many begins. -/
def kidAt (l : List Prt) (p : Nat) : Nat → Nat
  | 0 => p
  | k + 1 => endS l (kidAt l p k)
theorem kidsGo_snoc (l : List Prt) : ∀ (n p : Nat), kidsGo l (n + 1) p = kidsGo l n p ++ [kidAt l p n]
  | 0, p => rfl
  | n + 1, p => by
    have h : ∀ k, kidAt l (endS l p) k = kidAt l p (k + 1) := fun k => by
      induction k with
      | zero => rfl
      | succ k ih => simp only [kidAt] at ih ⊢; rw [ih]
    rw [kidsGo, kidsGo_snoc l n (endS l p), h]
    rfl
theorem endS_le (l : List Prt) (p : Nat) : endS l p ≤ l.length := by
  unfold endS
  cases h : rdS (l.length + 1) l p 1 0 1 with
  | error x => simp [rdT]
  | ok q => exact (rd_gt _ _ _ _ _ _ _ h).2 (by omega)
theorem kidAt_le {l : List Prt} {p : Nat} (hp : p ≤ l.length) : ∀ k, kidAt l p k ≤ l.length
  | 0 => hp
  | _k + 1 => endS_le l _
set_option maxRecDepth 100000 in
set_option maxHeartbeats 1000000 in
theorem rkids_c (l : List Prt) (p : Nat) (a : Option Addr) (cap : Nat) (w : World) (hl : l.length ≤ 1000000000) (hp : p < l.length) (hk : (l.getD p ⟨0, 0, 0, 0, 0⟩).kids ≤ 1000) (hA : ArgP w a l) :
    Calls Try.prog 34 #[.slice a l.length cap, .int .i64 p] w fun e w' => ∃ v, e = .returned v ∧ SliN w' v (kidsS l p) ∧ Below w.heap.size w w' := by
  obtain ⟨b, off, rfl, hbb, hc⟩ := hA (by omega)
  obtain ⟨_, _, _, _, c4⟩ := hc.get hp
  have hpr : l.getD p pr0 = l.getD p ⟨0, 0, 0, 0, 0⟩ := rfl
  rw [hpr] at c4
  have HA := hidE (show ArgP w (some ⟨b, off, none⟩) l from fun _ => ⟨b, off, rfl, hbb, hc⟩)
  have HKS := hidE (show kidsS l p = kidsGo l (l.getD p ⟨0, 0, 0, 0, 0⟩).kids.toNat (p + 1) from rfl)
  rw [HKS.out]
  clear HKS hc hA hpr
  generalize (l.getD p ⟨0, 0, 0, 0, 0⟩).kids = ks at *
  have HE := hidE (fun q w' hq hb => rend_c l q (some ⟨b, off, none⟩) cap w' hl hq (HA.out.past hb))
  obtain ⟨ix, hix, hz0, hzz, hz4⟩ := info_parts Try.infoIntL
  have HI := hidE hix; have HZ0 := hidE hz0; have HZ1 := hidE hzz; have HZ2 := hidE hz4
  have wp1 : IntKind.i64.wrap ((p : Int) + 1) = (p : Int) + 1 := IntWalk.i64_in _ (by omega)
  clear hix hz0 hzz hz4
  go_enter Try.func34, Try.ntmps34
  go_wp2
  go_loopg [5, 6, 7] ks.toNat (fun gh v5 v6 v7 wr => ∃ k : Nat, k ≤ ks.toNat ∧ ks.toNat - k ≤ gh ∧ v7 = .int .i64 k ∧ v6 = .int .i64 (kidAt l (p + 1) k) ∧ wr.ownsRow w.heap.size 3 1 v5 k (cellsK .i64 (natsI (kidsGo l k (p + 1)))) ∧ Below w.heap.size w wr)
  case atStart => exact ⟨0, Nat.zero_le _, Nat.le_refl _, rfl, by simp [kidAt], show w.ownsRow w.heap.size 3 1 _ 0 [] from own_nil _ _ _, Below.refl _ _⟩
  case round =>
    obtain ⟨k, hkk, hgh, rfl, rfl, hown, hb⟩ := hrel
    obtain ⟨av, cp, rfl⟩ := own_sli hown
    have HB := hidE hb; have HO := hidE hown; have HG := hidE hgh
    have f4 := (hb.cell (p := ⟨b, off + p * 5 + 4, none⟩) hbb).trans c4
    have fz := Nat.lt_of_lt_of_le hbb hb.size
    have hws := hb.size
    clear hown hb hgh
    by_cases hlt : (k : Int) < ks
    · have r1 : decide ((k : Int) < ks) = true := decide_eq_true hlt
      have hkl := kidAt_le (l := l) (p := p + 1) (by omega) k
      have HSN := hidE (show cellsK .i64 (natsI (kidsGo l (k + 1) (p + 1))) = cellsK .i64 (natsI (kidsGo l k (p + 1))) ++ [.int .i64 (kidAt l (p + 1) k)] by rw [kidsGo_snoc, natsI_app, cellsK_app]; rfl)
      have HNX := hidE (show kidAt l (p + 1) (k + 1) = endS l (kidAt l (p + 1) k) from rfl)
      generalize kidAt l (p + 1) k = q at *
      go_wp2_with (first | (at_builtin; refine wpList_append_own _ rfl (.tmp 19) (.tmp 21) 82 rfl w.heap.size 3 ix (.int .i64 0) 1 8 Try.underlying82 HI.out HZ0.out HZ1.out HZ2.out rfl (by decide) _ _ _ rfl (own_below HO.out ((Below.refl _ _).alloc (Nat.le_refl _) _)) ⟨_, 0, none⟩ 1 1 [.int .i64 q] rfl rfl (new_cellsB _ #[.int .i64 q] 3) (by intro y hy; simp at hy; rcases hy with rfl; rfl) (by unfold maxLen; omega) (by omega) (by simp; omega) ?_; intro v4 w4 hown4 hgrow4 hnil4; obtain ⟨a4, c4', rfl⟩ := own_sli hown4; have HG4 := hidE hgrow4; have HO4 := hidE hown4; clear hgrow4 hown4 hnil4 f4) | fail)
      have HB4 := hidE (show Below w.heap.size w w4 from HB.out.trans (Below.grown ((Below.refl _ wr).alloc (by omega) _) HG4.out (by simp; omega) (fun k e => own_block HO.out (show (Value.slice av _ cp).ownBlock = some k from e))))
      ((with_reducible refine (HE.out q _ (by omega) HB4.out).mono ?_); rintro e w5 ⟨rfl, hb5⟩)
      go_wp2
      go_roundg (ks.toNat - (k + 1))
      case measure => have := HG.out; omega
      case rel => exact ⟨k + 1, by omega, Nat.le_refl _, by go_num, by rw [HNX.out], by rw [HSN.out]; exact own_below HO4.out hb5, HB4.out.trans (hb5.mono HB4.out.size)⟩
    · have r1 : decide ((k : Int) < ks) = false := decide_eq_false hlt
      obtain rfl : k = ks.toNat := by omega
      go_wp2
      go_ret
      exact ⟨_, rfl, sliN_own (by rw [kidsGo_len]; exact HO.out), HB.out⟩
end Go.Proofs.Ytlhokgcamcaonaa

namespace Go.Proofs.Ytlhokgcamcaonaa
open Go.ChangeShapes Go.WideShapes Go.ChangeAt Go.RowKit
attribute [local irreducible] Go.Calls

end Go.Proofs.Ytlhokgcamcaonaa

namespace Go.Proofs.Ytlhokgcamcaonaa

abbrev prN (l : List Prt) (i : Nat) : Prt := l.getD i ⟨0, 0, 0, 0, 0⟩
theorem stop_le {l : List Prt} {p deep deep' ink ink' : Nat} (h : stopS l p deep ink = none) (hd : deep' ≤ deep) (hi : ink' = 2 → ink = 2) : stopS l p deep' ink' = none := by
  obtain ⟨h1, h2, h3, h4, h5⟩ := stop_none h
  rw [stop_deep h1 (by
    rintro (c | c | ⟨c, c2⟩)
    · omega
    · rw [h3] at c; cases c
    · exact c2 (h4 (hi c)))]
  exact if_neg (by omega)
theorem rd_mono : ∀ (m : Nat) (l : List Prt) (p deep deep' ink ink' n e : Nat), rdS m l p deep ink n = .ok e → deep' ≤ deep → (ink' = 2 → ink = 2) → rdS m l p deep' ink' n = .ok e
  | m, l, p, deep, deep', ink, ink', 0, e, h, _, _ => by rw [rd_zero] at h ⊢; exact h
  | 0, l, p, deep, deep', ink, ink', n + 1, e, h, _, _ => by cases h
  | m + 1, l, p, deep, deep', ink, ink', n + 1, e, h, hd, hi => by
    rw [rd_cons] at h ⊢
    cases hst : stopS l p deep ink with
    | some x => rw [hst] at h; cases h
    | none =>
      rw [hst] at h
      rw [stop_le hst hd hi]
      simp only at h ⊢
      cases hk : rdS m l (p + 1) (deep + 1) (prN l p).kind (prN l p).kids.toNat with
      | error x => rw [hk] at h; cases h
      | ok q =>
        rw [hk] at h
        rw [rd_mono m l _ _ (deep' + 1) _ _ _ _ hk (by omega) id]
        exact rd_mono m l _ _ _ _ _ _ _ h hd hi
theorem end_of {m : Nat} {l : List Prt} {p deep ink e : Nat} (h : rdS m l p deep ink 1 = .ok e) (hd : 1 ≤ deep) : endS l p = e := by
  have h1 := rd_ext m (l.length + 1) l l p deep ink 1 e h (fun _ _ => rfl) (by omega) (by omega)
  unfold endS
  rw [rd_mono _ _ _ _ 1 _ 0 _ _ h1 hd (fun c => by cases c)]
  rfl
theorem kidAt_next (l : List Prt) (p : Nat) : ∀ k, kidAt l p (k + 1) = kidAt l (endS l p) k
  | 0 => rfl
  | k + 1 => by
    rw [kidAt, kidAt_next l p k]
    rfl
/-- The children's ends make a chain up to the end. -/
theorem chain_of : ∀ (n m : Nat) (l : List Prt) (p deep ink e : Nat), rdS m l p deep ink n = .ok e → 1 ≤ deep → kidAt l p n = e ∧ ∀ k, k < n → kidAt l p k < e
  | 0, m, l, p, deep, ink, e, h, _ => by rw [rd_zero] at h; cases h; exact ⟨rfl, fun k hk => by omega⟩
  | n + 1, m, l, p, deep, ink, e, h, hd => by
    have h' := rd_ext m (l.length + 1) l l p deep ink (n + 1) e h (fun _ _ => rfl) (by omega) (by omega)
    rw [rd_one (by omega) (by omega)] at h'
    cases h1 : rdS (l.length + 1) l p deep ink 1 with
    | error x => rw [h1] at h'; cases h'
    | ok q =>
      rw [h1] at h'
      simp only at h'
      have hq := end_of h1 hd
      have g1 := rd_gt _ _ _ _ _ _ _ h1
      have g2 := rd_gt _ _ _ _ _ _ _ h'
      obtain ⟨c1, c2⟩ := chain_of n _ l q deep ink e h' hd
      refine ⟨by rw [kidAt_next, hq]; exact c1, fun k hk => ?_⟩
      cases k with
      | zero => show p < e; omega
      | succ k => rw [kidAt_next, hq]; exact c2 k (by omega)
/-- So many parts from one place on, ahead of another one, hold it. -/
def ancS (l : List Prt) (i : Nat) : Nat → Nat → Nat
  | _, 0 => 0
  | p, n + 1 => (if i < endS l p then 1 else 0) + ancS l i (p + 1) n
theorem anc_none (l : List Prt) (i : Nat) : ∀ (n p : Nat), (∀ a, p ≤ a → a < p + n → endS l a ≤ i) → ancS l i p n = 0
  | 0, p, _ => rfl
  | n + 1, p, h => by
    rw [ancS, if_neg (by have := h p (Nat.le_refl _) (by omega); omega), anc_none l i n (p + 1) (fun a h1 h2 => h a (by omega) (by omega))]
theorem anc_add (l : List Prt) (i : Nat) : ∀ (n m p : Nat), ancS l i p (n + m) = ancS l i p n + ancS l i (p + n) m
  | 0, m, p => by simp [ancS]
  | n + 1, m, p => by
    rw [show n + 1 + m = (n + m) + 1 by omega, ancS, ancS, anc_add l i n m (p + 1), show p + 1 + n = p + (n + 1) by omega]
    omega
/-- How parts that are read hang together. -/
theorem rd_hang : ∀ (m : Nat) (l : List Prt) (p deep ink n e : Nat), rdS m l p deep ink n = .ok e → 1 ≤ deep → ∀ i, p ≤ i → i < e →
    i < endS l i ∧ endS l i ≤ e ∧ (∀ a, i ≤ a → a < endS l i → endS l a ≤ endS l i) ∧ kidAt l (i + 1) (prN l i).kids.toNat = endS l i ∧ (∀ k, k < (prN l i).kids.toNat → kidAt l (i + 1) k < endS l i) ∧ deep + ancS l i p (i - p) ≤ 8
  | m, l, p, deep, ink, 0, e, h, _, i, h1, h2 => by rw [rd_zero] at h; cases h; omega
  | 0, l, p, deep, ink, n + 1, e, h, _, i, h1, h2 => by cases h
  | m + 1, l, p, deep, ink, n + 1, e, h, hd, i, h1, h2 => by
    rw [rd_cons] at h
    cases hst : stopS l p deep ink with
    | some x => rw [hst] at h; cases h
    | none =>
      rw [hst] at h
      simp only at h
      cases hk : rdS m l (p + 1) (deep + 1) (prN l p).kind (prN l p).kids.toNat with
      | error x => rw [hk] at h; cases h
      | ok q =>
        rw [hk] at h
        simp only at h
        have gk := rd_gt _ _ _ _ _ _ _ hk
        have gn := rd_gt _ _ _ _ _ _ _ h
        have hEp : endS l p = q := end_of (m := m + 1) (deep := deep) (ink := ink) (by rw [rd_cons, hst]; simp only [hk, rd_zero]) hd
        have IHk := rd_hang m l _ _ _ _ _ hk (by omega)
        have IHn := rd_hang m l _ _ _ _ _ h hd
        by_cases c : i = p
        · subst c
          obtain ⟨c1, c2⟩ := chain_of _ _ _ _ _ _ _ hk (by omega)
          refine ⟨by omega, by omega, fun a ha1 ha2 => ?_, by rw [hEp]; exact c1, fun k hk2 => by rw [hEp]; exact c2 k hk2, ?_⟩
          · by_cases ca : a = i
            · rw [ca]; exact Nat.le_refl _
            · rw [hEp] at ha2 ⊢
              exact (IHk a (by omega) ha2).2.1
          · rw [Nat.sub_self]; exact (stop_none hst).2.2.2.2
        · by_cases c2 : i < q
          · obtain ⟨a1, a2, a3, a4, a5, a6⟩ := IHk i (by omega) c2
            refine ⟨a1, by omega, a3, a4, a5, ?_⟩
            rw [show i - p = (i - (p + 1)) + 1 by omega, ancS, if_pos (by omega)]
            omega
          · obtain ⟨a1, a2, a3, a4, a5, a6⟩ := IHn i (by omega) h2
            refine ⟨a1, a2, a3, a4, a5, ?_⟩
            rw [show i - p = (q - p) + (i - q) by omega, anc_add, show p + (q - p) = q by omega]
            have hz : ancS l i p (q - p) = 0 := anc_none l i _ _ (fun a ha1 ha2 => by
              by_cases ca : a = p
              · rw [ca, hEp]; omega
              · have := (IHk a (by omega) (by omega)).2.1; omega)
            omega
/-- What a definition that may be says of its parts. -/
structure Hang (l : List Prt) : Prop where
  up : ∀ i, i < l.length → i < endS l i ∧ endS l i ≤ l.length
  inn : ∀ i a, i < l.length → i ≤ a → a < endS l i → endS l a ≤ endS l i
  chain : ∀ i, i < l.length → kidAt l (i + 1) (prN l i).kids.toNat = endS l i
  kid : ∀ i k, i < l.length → k < (prN l i).kids.toNat → kidAt l (i + 1) k < endS l i
  deep : ∀ i, i < l.length → 1 + ancS l i 0 i ≤ 8
  all : endS l 0 = l.length
theorem tree_hang {l : List Prt} (h : (treeS l).2 = 0) : Hang l := by
  have hr := tree_fine h
  have hh := rd_hang _ _ _ _ _ _ _ hr (Nat.le_refl _)
  exact ⟨fun i hi => ⟨(hh i (Nat.zero_le _) hi).1, (hh i (Nat.zero_le _) hi).2.1⟩, fun i a hi => (hh i (Nat.zero_le _) hi).2.2.1 a, fun i hi => (hh i (Nat.zero_le _) hi).2.2.2.1, fun i k hi => (hh i (Nat.zero_le _) hi).2.2.2.2.1 k, fun i hi => by have := (hh i (Nat.zero_le _) hi).2.2.2.2.2; simpa using this, end_of hr (Nat.le_refl _)⟩
end Go.Proofs.Ytlhokgcamcaonaa
