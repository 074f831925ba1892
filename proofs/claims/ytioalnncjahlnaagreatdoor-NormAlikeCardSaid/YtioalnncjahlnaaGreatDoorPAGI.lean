/- The document's own normal form of a definition: liveryref09.Norm; and whether a part has many children. Conditions: the definition may be, and is small. The contract of Same, over slices.Equal at parts. Conditions: the lists' lengths. The contract of package norm's Same, of definitions that may be. Conditions: both may be, the tables. Definitions that say the same have the same normal form, as lists of parts. No program. No conditions. The document's examples of normal forms. No program. No conditions. The pieces that the document's example carries back: Back of two pieces, and of one that is none. No conditions. The contracts of the document's own answers that layer 7's statements reach: Same, End; and of the statements' own plain. No conditions but sizes. The statements' own head: the document's examples. Condition: the tables. The statements' own head: the document's examples. Condition: the tables. -/
import Derived.Test.YtioalnncjahlnaaGreatDoorPAGF
import Derived.Test.YtioalnncjahlnaaGreatDoorPAGH
import Derived.Test.YtioalnncjahlnaaGreatDoorPAGB
import Derived.Deep.RegionHeld3
import Derived.Test.YtioalnncjahlnaaGreatDoorPAMA
import Derived.Test.YtioalnncjahlnaaGreatDoorPAGC
import Derived.Test.YtioalnncjahlnaaGreatDoorPAGG
namespace Go.Proofs.YtioalnncjahlnaaGreatDoor
open Go.ChangeShapes Go.WideShapes Go.ChangeAt Go.RowKit
attribute [local irreducible] Go.Calls

theorem lab_pos : ∀ (F : Fst) (o : Nat), ∀ y ∈ prsF (lab F o), 0 ≤ y.kids := fun F o y hy => by
  obtain ⟨i, hi⟩ := List.getElem?_of_mem hy
  have hil : i < F.size := by have := (List.getElem?_eq_some_iff.1 hi).1; rw [prsF_len, (lab_len _ o).2] at this; exact this
  obtain ⟨x', h3, h4⟩ := lab_prs F o i hil
  rw [hi] at h3; cases h3
  rw [h4]; omega
/-- A definition's term, each part's place kept. -/
abbrev labTm (y : Prt) (K : Fst) : Tm := ({ y with kids := ((0 : Nat) : Int) }, lab K 1)
theorem labTm_F {F : Fst} {y : Prt} {K : Fst} (h : F = .cons y K .nil) : flT (labTm y K) = F.flat ∧ sizT (labTm y K) = F.size ∧ frT (labTm y K) = fromF (lab F 0) := by
  subst h
  have e : lab (.cons y K .nil) 0 = .cons (labTm y K).1 (labTm y K).2 .nil := rfl
  refine ⟨?_, ?_, ?_⟩
  · have := lab_flat (.cons y K .nil) 0
    rw [e] at this; exact this
  · simp only [sizT, (lab_len K 1).2, Fst.size]
  · rw [e]; rfl
theorem lab_range {F : Fst} : natsI (fromF (lab F 0)) = natsI (List.range F.size) := by
  refine congrArg natsI (List.ext_getElem (by rw [fromF_len, (lab_len F 0).2, List.length_range]) fun i h1 h2 => ?_)
  rw [fromF_len, (lab_len F 0).2] at h1
  have := from_lab F 0 i h1
  rw [List.getD_eq_getElem?_getD, List.getElem?_eq_getElem (by rw [fromF_len, (lab_len F 0).2]; exact h1), Option.getD_some, Nat.zero_add] at this
  rw [this, List.getElem_range]
theorem labTm_lab (y : Prt) (K : Fst) : labT (labTm y K) := ⟨by simp, fun z hz => lab_pos K 1 z hz⟩
theorem labTm_fit {F : Fst} {y : Prt} {K : Fst} (h : F = .cons y K .nil) (hf : F.fit 1 0) : FitT (labTm y K) 1 0 := by
  subst h
  obtain ⟨h1, h2, h3, h4, h5⟩ := hf
  exact ⟨by simp only [(lab_len K 1).1]; exact h1, h2, h3, lab_fit K 1 _ _ h4⟩
/-- What the document's own Norm hands back. -/
def Nm9 (w : World) (fr to' : Int) (G : Fst) (e : Ending) (w' : World) : Prop :=
  ∃ (a3 : Option Addr) (c3 : Nat) (a4 : Option Addr) (c4 : Nat), e = .returned (.tuple #[defV fr to' a3 G.size c3, .slice a4 G.size c4, .int .i64 0]) ∧ ArgP w' a3 G.flat ∧ Below w.heap.size w w'
theorem blk_three {W : World} {p : Nat} {v0 v1 v2 : Value} {t : TypeId} (h : Blk W p #[v0, v1, v2] t) (u0 u1 u2 : Value) : Blk (((W.setCell ⟨p, 0, none⟩ u0).setCell ⟨p, 1, none⟩ u1).setCell ⟨p, 2, none⟩ u2) p #[u0, u1, u2] t := by
  have := ((h.set 0 u0).set 1 u1).set 2 u2
  simpa using this
theorem argP_store {W : World} {a : Option Addr} {l : List Prt} {p : Nat} (h : ArgP W a l) (hp : ∀ x, a = some x → x.block ≠ p) (i : Nat) (v : Value) : ArgP (W.setCell ⟨p, i, none⟩ v) a l := fun hl => by
  obtain ⟨b, off, e, h1, h2⟩ := h hl
  have hb : b ≠ p := hp _ e
  have hc : ∀ o, (W.setCell ⟨p, i, none⟩ v).cell? ⟨b, o, none⟩ = W.cell? ⟨b, o, none⟩ := fun o => by
    have := Below.heap_setCell W ⟨p, i, none⟩ v b hb
    simp only [World.cell?, this]
  refine ⟨b, off, e, by simpa [World.setCell] using h1, fun j hj => ?_⟩
  rw [hc, hc, hc, hc, hc]
  exact h2 j hj
theorem argP_store3 {W : World} {a : Option Addr} {l : List Prt} {p : Nat} (h : ArgP W a l) (hp : ∀ x, a = some x → x.block ≠ p) (u0 u1 u2 : Value) : ArgP (((W.setCell ⟨p, 0, none⟩ u0).setCell ⟨p, 1, none⟩ u1).setCell ⟨p, 2, none⟩ u2) a l :=
  argP_store (argP_store (argP_store h hp 0 u0) hp 1 u1) hp 2 u2
set_option maxHeartbeats 4000000 in
set_option maxRecDepth 100000 in
theorem norm9_c (fr to' : Int) (F : Fst) (a : Option Addr) (cap n : Nat) (hn : n = F.flat.length) (w : World) (hA : ArgP w a F.flat) (hcap : n ≤ cap ∧ cap ≤ 9223372036854775807) (h : chkS fr to' F.flat = (0, 0)) (hl : F.len = 1) (hf : F.fit 1 0) (hs : F.size ≤ 64) (hfr : -9223372036854775808 ≤ fr ∧ fr ≤ 9223372036854775807) (hto : -9223372036854775808 ≤ to' ∧ to' ≤ 9223372036854775807) :
    Calls Tryz.prog 8 #[defV fr to' a n cap] w (Nm9 w fr to' (plainF (lab F 0))) := by
  subst hn
  obtain ⟨y, K, hF⟩ := one_cons hl
  have hln : F.flat.length = F.size := flat_len F
  obtain ⟨b, off, rfl, hbb, hc⟩ := hA (by rw [hln, hF]; simp only [Fst.size]; omega)
  have HCK := hidE (fun (V : World) (hb : Below w.heap.size w V) => rchk_c fr to' F.flat (some ⟨b, off, none⟩) cap V (by omega) (hA.past hb) hfr hto)
  rw [h] at HCK
  have HF := hidE hF; have HA := hidE hA; have HFIT := hidE hf; have HS := hidE hs; have HFL := hidE (flat_nz hF)
  obtain ⟨n, hnl⟩ : ∃ n, n = F.flat.length := ⟨_, rfl⟩
  have hnz : n = F.size := by rw [hnl, hln]
  rw [← hnl] at HCK hcap
  rw [← hnl]
  have hn64 : n ≤ 64 := by omega
  have HN := hidE hnz
  obtain ⟨iI, hiI, hI0, hI1, hI2⟩ := info_parts Tryz.infoIntN
  have HII := hidE hiI; have HI0 := hidE hI0; have HI1 := hidE hI1; have HI2 := hidE hI2
  clear hA hc hf hs hF h hnl hln hnz hiI hI0 hI1 hI2
  go_enter Tryz.func8, Tryz.ntmps8
  go_wp2_with fail
  obtain ⟨w1, hw1⟩ : ∃ w1, w1 = (w.alloc (.cells #[.int .i64 fr, .int .i64 to', .slice (some ⟨b, off, none⟩) n cap] 24)).alloc (.cells #[.int .i64 0, .int .i64 0, .slice none 0 0] 24) := ⟨_, rfl⟩
  rw [← hw1]
  have hb1 : Below w.heap.size w w1 := by rw [hw1]; (repeat (first | exact Below.refl _ _ | assumption | refine balloc ?_ _ | refine below_drewN ?_ _ | refine bstep (by assumption) ?_ | refine bstep (Past.prop _) ?_ | refine Below.setCell ?_ (by first | exact Nat.le_refl _ | (simp; done) | (simp; omega)) _))
  have h1 : Blk w1 w.heap.size #[.int .i64 fr, .int .i64 to', .slice (some ⟨b, off, none⟩) n cap] 24 := by rw [hw1]; exact (Blk.made _ _ _).alloc _
  have h2 : Blk w1 (w.heap.size + 1) #[.int .i64 0, .int .i64 0, .slice none 0 0] 24 := by rw [hw1]; exact Blk.made_at _ _ _ _ (by simp)
  clear hw1
  ((with_reducible refine (HCK.out w1 hb1).mono ?_); rintro e w2 ⟨rfl, hb2⟩)
  have HB := hidE (hb1.trans (hb2.mono hb1.size)); have H1 := hidE (h1.past hb2); have H2 := hidE (h2.past hb2)
  have b2 := H1.out.cell 2; have bz := H1.out.lt
  simp at b2
  clear hb1 h1 h2 hb2 HCK
  go_wp2_with fail
  obtain ⟨w3, hw3⟩ : ∃ w3, w3 = w2.alloc (.cells #[.slice (some ⟨b, off, none⟩) n cap, .slice none 0 0] 63) := ⟨_, rfl⟩
  have hb3 : Below w2.heap.size w2 w3 := by rw [hw3]; (repeat (first | exact Below.refl _ _ | assumption | refine balloc ?_ _ | refine below_drewN ?_ _ | refine bstep (by assumption) ?_ | refine bstep (Past.prop _) ?_ | refine Below.setCell ?_ (by first | exact Nat.le_refl _ | (simp; done) | (simp; omega)) _))
  have h7 : Blk w3 w2.heap.size #[.slice (some ⟨b, off, none⟩) n cap, .slice none 0 0] 63 := by rw [hw3]; exact Blk.made _ _ _
  have hz3 : w3.heap.size = w2.heap.size + 1 := by rw [hw3]; simp
  rw [← hw3]
  have hw2z := HB.out.size
  have hp2 := H2.out.lt
  have HST := hidE (show Blk w3 w.heap.size #[.int .i64 fr, .int .i64 to', .slice (some ⟨b, off, none⟩) n cap] 24 ∧ Blk w3 (w.heap.size + 1) #[.int .i64 0, .int .i64 0, .slice none 0 0] 24 ∧ Blk w3 w2.heap.size #[.slice (some ⟨b, off, none⟩) n cap, .slice none 0 0] 63 ∧ Below w.heap.size w w3 from ⟨H1.out.past hb3, H2.out.past hb3, h7, HB.out.trans (hb3.mono HB.out.size)⟩)
  obtain ⟨p7, hp7⟩ : ∃ p7, p7 = w2.heap.size := ⟨_, rfl⟩
  rw [← hp7] at HST hz3 hp2 hw2z bz
  rw [← hp7]
  clear hw3 hb3 h7 H1 H2 HB b2 hp7
  go_loopg [8] n (fun gh v8 wr => ∃ (k : Nat) (v : Value), v8 = .int .i64 k ∧ k ≤ n ∧ n - k ≤ gh ∧ Blk wr w.heap.size #[.int .i64 fr, .int .i64 to', .slice (some ⟨b, off, none⟩) n cap] 24 ∧ Blk wr (w.heap.size + 1) #[.int .i64 0, .int .i64 0, .slice none 0 0] 24 ∧ Blk wr p7 #[.slice (some ⟨b, off, none⟩) n cap, v] 63 ∧ Below w.heap.size w wr ∧ wr.ownsRow (p7 + 1) 3 1 v k (cellsK .i64 (natsI (List.range k))) ∧ p7 < wr.heap.size)
  case atStart => exact ⟨0, _, rfl, Nat.zero_le _, Nat.le_refl _, HST.out.1, HST.out.2.1, HST.out.2.2.1, HST.out.2.2.2, own_nil _ _ _, by omega⟩
  case round =>
    clear HST
    obtain ⟨k, v, rfl, hkn, hgk, h1, h2, h7, hb, ho, hpz⟩ := hrel
    have HGK := hidE hgk; have H1 := hidE h1; have H2 := hidE h2; have H7 := hidE h7; have HB := hidE hb; have HO := hidE ho
    have c2 := h1.cell 2; have c1 := h1.cell 1; have c0 := h1.cell 0; have cz := h1.lt
    have e0 := h7.cell 0; have e1 := h7.cell 1; have ez := h7.lt; have ef := h7.free 1
    obtain ⟨av, cv, rfl⟩ := own_sli ho
    simp at c0 c1 c2 e0 e1
    clear hgk h1 h2 h7 hb ho
    by_cases hk : k < n
    · have q1 : decide ((k : Int) < (n : Int)) = true := decide_eq_true (by omega)
      go_wp2_with (at_builtin; go_loud (refine list_appV rfl (.tmp 28) (.tmp 30) 29 rfl (p7 + 1) 3 iI _ 1 8 Tryz.underlying29 HII.out HI0.out HI1.out HI2.out rfl (by decide) (.slice av k cv) k (cellsK .i64 (natsI (List.range k))) rfl (own_below HO.out (by (repeat (first | exact Below.refl _ _ | assumption | refine balloc ?_ _ | refine below_drewN ?_ _ | refine bstep (by assumption) ?_ | refine bstep (Past.prop _) ?_ | refine Below.setCell ?_ (by first | exact Nat.le_refl _ | (simp; done) | (simp; omega)) _)))) _ 1 [.int .i64 k] rfl (srcV_new (Blk.made_at _ _ _ _ (by first | rfl | (simp; done))) rfl (by intro y hy; simp at hy; subst hy; rfl)) (by omega) (by omega) (by simp; omega) ?_); intro v4 w4 own4 hg4; obtain ⟨a4, c4, rfl⟩ := own_sli own4; have H7' := hidE ((H7.out.past (show Below wr.heap.size wr _ from by (repeat (first | exact Below.refl _ _ | assumption | refine balloc ?_ _ | refine below_drewN ?_ _ | refine bstep (by assumption) ?_ | refine bstep (Past.prop _) ?_ | refine Below.setCell ?_ (by first | exact Nat.le_refl _ | (simp; done) | (simp; omega)) _)))).grown hg4 (fun e => by have := own_block HO.out e.symm; omega)); have g1 := H7'.out.cell 1; have gz := H7'.out.lt; have gf := H7'.out.free 1; simp at g1)
      have hb4 : Below w.heap.size w w4 := Below.grown ((show Below wr.heap.size wr _ from by (repeat (first | exact Below.refl _ _ | assumption | refine balloc ?_ _ | refine below_drewN ?_ _ | refine bstep (by assumption) ?_ | refine bstep (Past.prop _) ?_ | refine Below.setCell ?_ (by first | exact Nat.le_refl _ | (simp; done) | (simp; omega)) _))).mono HB.out.size |> HB.out.trans) hg4 (by have := HB.out.size; simp; omega) (fun j e => by have := own_block HO.out e; omega)
      have hs7 := H7'.out.set 1 (.slice a4 (k + 1) c4)
      simp at hs7
      have H1' := hidE (((H1.out.past (show Below wr.heap.size wr _ from by (repeat (first | exact Below.refl _ _ | assumption | refine balloc ?_ _ | refine below_drewN ?_ _ | refine bstep (by assumption) ?_ | refine bstep (Past.prop _) ?_ | refine Below.setCell ?_ (by first | exact Nat.le_refl _ | (simp; done) | (simp; omega)) _)))).grown hg4 (fun e => by have := own_block HO.out e.symm; omega)).other (b := p7) (i := 1) (by omega) (.slice a4 (k + 1) c4))
      have H2' := hidE (((H2.out.past (show Below wr.heap.size wr _ from by (repeat (first | exact Below.refl _ _ | assumption | refine balloc ?_ _ | refine below_drewN ?_ _ | refine bstep (by assumption) ?_ | refine bstep (Past.prop _) ?_ | refine Below.setCell ?_ (by first | exact Nat.le_refl _ | (simp; done) | (simp; omega)) _)))).grown hg4 (fun e => by have := own_block HO.out e.symm; omega)).other (b := p7) (i := 1) (by omega) (.slice a4 (k + 1) c4))
      have HS7 := hidE hs7
      have HB4 := hidE (hb4.setCell (p := ⟨p7, 1, none⟩) (by simp; omega) (.slice a4 (k + 1) c4))
      have HO4 := hidE (own_kept (B := w4.setCell ⟨p7, 1, none⟩ (.slice a4 (k + 1) c4)) own4 (fun j e => keptS (show j ≠ p7 by have := own_block own4 e; omega) _))
      clear hb4 hs7 own4 hg4
      go_roundg (n - (k + 1))
      case measure => have := HGK.out; omega
      case rel =>
        refine ⟨k + 1, _, by go_num, by omega, Nat.le_refl _, H1'.out, H2'.out, HS7.out, HB4.out, ?_, by have := HS7.out.lt; omega⟩
        have h := HO4.out
        have e : cellsK .i64 (natsI (List.range (k + 1))) = cellsK .i64 (natsI (List.range k)) ++ [.int .i64 (k : Int)] := by
          rw [List.range_succ, natsI_app, cellsK_app]; rfl
        rw [e]; exact h
    · obtain rfl : k = n := by omega
      have q1 : decide ((k : Int) < (k : Int)) = false := decide_eq_false (by omega)
      have hTM : TmAt (fun j => j ≠ p7 ∧ j ≠ w.heap.size + 1) wr (labTm y K) (some ⟨b, off, none⟩) cap av cv := by
        obtain ⟨e1, e2, e3⟩ := labTm_F HF.out
        have hsz : sizT (labTm y K) = k := by rw [e2, HN.out]
        obtain ⟨_, av2, cv2, ev, hh⟩ : ∃ (_ : True) (av2 : Option Addr) (cv2 : Nat), Value.slice av k cv = .slice av2 (natsI (List.range k)).length cv2 ∧ k ≤ cv2 ∧ cv2 ≤ 9223372036854775807 ∧ ArgK .i64 wr av2 (natsI (List.range k)) := by
          obtain ⟨x1, x2, x3, x4, x5, x6⟩ := sliN_own (l := List.range k) (by rw [List.length_range]; exact HO.out)
          rw [List.length_range] at x3 x4
          exact ⟨trivial, x1, x2, by rw [x3, natsI_len, List.length_range], x4, x5, x6⟩
        simp only [Value.slice.injEq] at ev
        obtain ⟨rfl, _, rfl⟩ := ev
        refine ⟨by rw [hsz]; exact hcap.1, hcap.2, by rw [hsz]; exact hh.1, hh.2.1, by rw [e1]; exact HA.out.past HB.out, ?_, fun x hx => ?_, fun x hx => ?_⟩
        · rw [e3, lab_range, ← HN.out]; exact hh.2.2
        · cases hx; exact ⟨show b ≠ p7 by omega, show b ≠ w.heap.size + 1 by omega⟩
        · subst hx; have h8 := own_block HO.out (k := x.block) rfl; exact ⟨by omega, by omega⟩
      have hpl : Calls Tryz.prog 25 #[tmV k (some ⟨b, off, none⟩) cap av cv] wr (PlIs (fun j => j ≠ p7 ∧ j ≠ w.heap.size + 1) wr (nzT y K 0)) := plain9_c (K.size + 1) (fun j => j ≠ p7 ∧ j ≠ w.heap.size + 1) (labTm y K).1 (labTm y K).2 1 0 k (some ⟨b, off, none⟩) cap av cv wr (by simp only [(lab_len K 1).2]; omega) (by rw [HN.out]; exact (labTm_F HF.out).2.1.symm) (labTm_fit HF.out HFIT.out) (Nat.le_refl _) hn64 (labTm_lab y K) hTM
      have HZ := hidE HFL.out
      obtain ⟨T, hT⟩ : ∃ T, T = nzT y K 0 := ⟨_, rfl⟩
      rw [← hT] at hpl HZ
      have HPL := hidE hpl
      clear hpl hT
      clear hTM
      obtain ⟨w4, hw4⟩ : ∃ w4, w4 = wr := ⟨_, rfl⟩
      subst hw4
      go_upto_region 10 with (go_at_call 25; ((with_reducible refine HPL.out.mono ?_); rintro e w5 ⟨a6, c6, a7, c7, rfl, hT6, hb5⟩; have HT6 := hidE hT6; have HB5 := hidE hb5; have HG5 := hidE (H7.out.past hb5); have j0 := HG5.out.cell 0; have j1 := HG5.out.cell 1; have y0 := HG5.out.free 0; have y1 := HG5.out.free 1; have z5 := HG5.out.lt; simp at j0 j1; clear hT6 hb5))
      obtain ⟨nz, hnz⟩ : ∃ nz, nz = sizT T := ⟨_, rfl⟩
      rw [← hnz]
      have HNZ := hidE (show nz = (plainF (lab F 0)).size from by rw [hnz]; exact HZ.out.2)
      have hT7 := (HT6.out.store (g := p7) (fun q => by rcases q with q | q; exact q.1 rfl; omega) 0 (.slice a6 nz c6)).store (g := p7) (fun q => by rcases q with q | q; exact q.1 rfl; omega) 1 (.slice a7 nz c7)
      have hb7 : Below w.heap.size w ((w5.setCell ⟨p7, 0, none⟩ (.slice a6 nz c6)).setCell ⟨p7, 1, none⟩ (.slice a7 nz c7)) := ((HB.out.trans (HB5.out.mono HB.out.size)).setCell (p := ⟨p7, 0, none⟩) (by simp; omega) _).setCell (p := ⟨p7, 1, none⟩) (by simp; omega) _
      have h17 := ((H1.out.past HB5.out).other (b := p7) (i := 0) (by omega) (.slice a6 nz c6)).other (b := p7) (i := 1) (by omega) (.slice a7 nz c7)
      have h27 := ((H2.out.past HB5.out).other (b := p7) (i := 0) (by omega) (.slice a6 nz c6)).other (b := p7) (i := 1) (by omega) (.slice a7 nz c7)
      have h77 := putM HG5.out (.slice a6 nz c6) (.slice a7 nz c7)
      generalize ((w5.setCell ⟨p7, 0, none⟩ (.slice a6 nz c6)).setCell ⟨p7, 1, none⟩ (.slice a7 nz c7)) = w7 at *
      have s0 := h17.cell 0; have s1 := h17.cell 1; have sz := h17.lt; have t0 := h77.cell 0; have t1 := h77.cell 1; have tz := h77.lt
      have r0 := h27.cell 0; have r1 := h27.cell 1; have r2 := h27.cell 2; have rz := h27.lt; have f0 := h27.free 0; have f1 := h27.free 1; have f2 := h27.free 2
      simp at s0 s1 t0 t1 r0 r1 r2
      have HFIN := hidE (blk_three h27 (.int .i64 fr) (.int .i64 to') (.slice a6 nz c6))
      have HPF := hidE (show ArgP w7 a6 (plainF (lab F 0)).flat from by
        have := hT7.L
        rw [← HZ.out.1]; exact this)
      have HLOW := hidE hT7.low
      have HB7 := hidE hb7
      have HW5 := hidE (show w.heap.size + 1 < w4.heap.size from H2.out.lt)
      clear hT7 hb7 h17 h27 h77 hnz HT6 HB5 HG5 j0 j1 y0 y1 z5 c0 c1 c2 cz e0 e1 ez ef H1 H2 H7 HB HO
      go_region
      all_goals
        go_wp2
        have c0 := HFIN.out.cell 0; have c1 := HFIN.out.cell 1; have c2 := HFIN.out.cell 2
        simp at c0 c1 c2
        refine bodyPost_ret (v := .tuple #[defV fr to' a6 nz c6, .slice a7 nz c7, .int .i64 0]) (by simp [results, Tryz.results8, go_sem, c0, c1, c2]) rfl ⟨a6, c6, a7, c7, by rw [HNZ.out], ?_, ?_⟩
        · refine argP_store3 HPF.out (fun x hx => ?_) _ _ _
          have h8 := HLOW.out x hx
          have h9 := HW5.out
          rcases h8 with q | q
          · exact q.2
          · omega
        · first | exact ((HB7.out.setCell (p := ⟨w.heap.size + 1, 0, none⟩) (by simp) _).setCell (p := ⟨w.heap.size + 1, 1, none⟩) (by simp) _).setCell (p := ⟨w.heap.size + 1, 2, none⟩) (by simp) _ | exact (((HB7.out.setCell (p := ⟨w.heap.size + 1, 0, none⟩) (by simp) _).setCell (p := ⟨w.heap.size + 1, 1, none⟩) (by simp) _).setCell (p := ⟨w.heap.size + 1, 2, none⟩) (by simp) _).drew
/-- Has a part many children? -/
def wideB (l : List Prt) : Bool := l.any fun x => decide (7 < x.kids)
set_option maxHeartbeats 1000000 in
theorem wide9_c (fr to' : Int) (l : List Prt) (a : Option Addr) (cap n : Nat) (hn : n = l.length) (w : World) (hl : n ≤ 100000) (hA : ArgP w a l) :
    Calls Tryz.prog 9 #[defV fr to' a n cap] w fun e w' => e = .returned (.bool (wideB l)) ∧ Below w.heap.size w w' := by
  have HA := hidE hA; have HN := hidE hn
  clear hA hn
  go_enter Tryz.func9, Tryz.ntmps9
  go_wp2
  obtain ⟨w1, hw1⟩ : ∃ w1, w1 = w.alloc (.cells #[.int .i64 fr, .int .i64 to', .slice a n cap] 24) := ⟨_, rfl⟩
  have hb1 : Below w.heap.size w w1 := by rw [hw1]; (repeat (first | exact Below.refl _ _ | assumption | refine balloc ?_ _ | refine below_drewN ?_ _ | refine bstep (by assumption) ?_ | refine bstep (Past.prop _) ?_ | refine Below.setCell ?_ (by first | exact Nat.le_refl _ | (simp; done) | (simp; omega)) _))
  have h1 : Blk w1 w.heap.size #[.int .i64 fr, .int .i64 to', .slice a n cap] 24 := by rw [hw1]; exact Blk.made _ _ _
  rw [← hw1]
  have HB := hidE hb1
  have c2 := h1.cell 2; have cz := h1.lt
  simp at c2
  clear hw1 h1 hb1
  go_loopg [3] n (fun gh v3 wr => ∃ k : Nat, v3 = .int .i64 k ∧ k ≤ n ∧ n - k ≤ gh ∧ wideB (l.take k) = false ∧ wr = w1)
  case atStart => exact ⟨0, rfl, Nat.zero_le _, Nat.le_refl _, by simp [wideB], rfl⟩
  case round =>
    obtain ⟨k, rfl, hkn, hgk, hwd, rfl⟩ := hrel
    have HGK := hidE hgk; have HWD := hidE hwd
    clear hgk hwd
    by_cases hk : k < n
    · have q1 : decide ((k : Int) < (n : Int)) = true := decide_eq_true (by omega)
      have hkl : k < l.length := by have := HN.out; omega
      obtain ⟨b, off, rfl, hbb, hc⟩ := HA.out (by omega)
      have p4 := (HB.out.cell (p := ⟨b, _, none⟩) hbb).trans (hc.get hkl).2.2.2.2
      have bz := Nat.lt_of_lt_of_le hbb HB.out.size
      have htk := take_snoc l pr0 hkl
      have hstep : wideB (l.take (k + 1)) = decide (7 < (l.getD k pr0).kids) := by
        have h := HWD.out
        rw [htk]; unfold wideB at h ⊢; rw [List.any_append, h]; simp
      obtain ⟨z, hz⟩ : ∃ z, (l.getD k pr0).kids = z := ⟨_, rfl⟩
      rw [hz] at hstep p4
      have HSTEP := hidE hstep
      clear hc hkl htk hstep hz
      by_cases hz7 : 7 < z
      · have r1 : decide (z > 7) = true := decide_eq_true hz7
        go_wp2
        go_ret
        refine ⟨?_, HB.out⟩
        have h := HSTEP.out
        rw [decide_eq_true hz7] at h
        have : wideB l = true := by
          unfold wideB at h ⊢
          rw [List.any_eq_true] at h ⊢
          obtain ⟨x, hx, hp⟩ := h
          exact ⟨x, List.mem_of_mem_take hx, hp⟩
        rw [this]
        rfl
      · have r1 : decide (z > 7) = false := decide_eq_false hz7
        go_wp2
        go_roundg (n - (k + 1))
        case measure => have := HGK.out; omega
        case rel => exact ⟨k + 1, by go_num, by omega, Nat.le_refl _, by rw [HSTEP.out]; exact decide_eq_false (by omega), rfl⟩
    · obtain rfl : k = n := by omega
      have q1 : decide ((k : Int) < (k : Int)) = false := decide_eq_false (by omega)
      have hall : wideB l = false := by have := HWD.out; rw [HN.out, List.take_length] at this; exact this
      have HALL := hidE hall
      clear hall
      go_wp2
      go_ret
      exact ⟨by rw [HALL.out]; rfl, HB.out⟩
end Go.Proofs.YtioalnncjahlnaaGreatDoor

namespace Go.Proofs.YtioalnncjahlnaaGreatDoor
open Go.ChangeShapes Go.WideShapes Go.ChangeAt Go.RowKit
attribute [local irreducible] Go.Calls

set_option maxHeartbeats 1000000 in
theorem pequal_c (l r : List Prt) (a a2 : Option Addr) (cap cap2 : Nat) (w : World) (hl : l.length ≤ 9223372036854775807) (hr : r.length ≤ 9223372036854775807) (hA : ArgP w a l) (hA2 : ArgP w a2 r) :
    Calls Tryz.prog 49 #[.slice a l.length cap, .slice a2 r.length cap2] w fun e w' => e = .returned (.bool (decide (l = r))) ∧ Below w.heap.size w w' := by
  have HA := hidE hA; have HA2 := hidE hA2; clear hA hA2
  by_cases hlen : l.length = r.length
  · have e1 : ((l.length : Int) != (r.length : Int)) = false := by rw [bne_eq_false_iff_eq]; omega
    have HS := hidE (fun (i : Nat) (_ : i < l.length) (h : l.getD i pr0 ≠ r.getD i pr0) => show decide (l = r) = false from decide_eq_false fun e => h (by rw [e]))
    have HT := hidE (fun (h : ∀ i, i < l.length → l.getD i pr0 = r.getD i pr0) => show decide (l = r) = true from decide_eq_true (list_extP hlen h))
    have HC := hidE hlen
    clear hlen
    generalize decide (l = r) = ans at *
    go_enter Tryz.func49, Tryz.ntmps49
    go_wp2
    go_loopg [13] l.length (fun g vi wr => ∃ k : Nat, k ≤ l.length ∧ l.length - k ≤ g ∧ vi = .int .i64 k ∧ (∀ i, i < k → l.getD i pr0 = r.getD i pr0) ∧ Below w.heap.size w wr)
    case atStart => exact ⟨0, Nat.zero_le _, Nat.le_refl _, rfl, fun i hi => by omega, Below.refl _ _⟩
    case round =>
      obtain ⟨k, hk, hg, rfl, hs, hb⟩ := hrel
      have HSS := hidE hs; have HB := hidE hb; have HG := hidE hg; clear hs hb hg
      obtain ⟨wo, hwo⟩ : ∃ wo : World, wo = wr := ⟨_, rfl⟩
      by_cases hlt : k < l.length
      · have hltr : k < r.length := by have := HC.out; omega
        obtain ⟨p, off, rfl, hpp, hc⟩ := (HA.out.past HB.out) (by omega)
        obtain ⟨c0, c1, c2, c3, c4⟩ := hc.get hlt
        obtain ⟨p2, off2, rfl, hpp2, hc2⟩ := (HA2.out.past HB.out) (by omega)
        obtain ⟨d0, d1, d2, d3, d4⟩ := hc2.get hltr
        have q1 : decide ((k : Int) < (l.length : Int)) = true := decide_eq_true (by omega)
        have q2 : decide (k < l.length) = true := decide_eq_true hlt
        have q3 : (k : Int) < (r.length : Int) := by omega
        clear hc hc2
        by_cases hne0 : l.getD k pr0 = r.getD k pr0
        · rw [← hne0] at d0 d1 d2 d3 d4
          have HX := hidE (show ∀ i, i < k + 1 → l.getD i pr0 = r.getD i pr0 from fun i hi => by
            by_cases c : i = k
            · rw [c]; exact hne0
            · exact HSS.out i (by omega))
          clear hne0
          generalize l.getD k pr0 = x at *
          go_wp2
          go_quiet (fail)
          go_wp2
          go_roundg (l.length - (k + 1))
          case measure => have := HG.out; omega
          case rel => exact ⟨k + 1, by omega, Nat.le_refl _, by go_num, HX.out, by have := HB.out; (repeat (first | exact Below.refl _ _ | assumption | refine balloc ?_ _ | refine below_drewN ?_ _ | refine bstep (by assumption) ?_ | refine bstep (Past.prop _) ?_ | refine Below.setCell ?_ (by first | exact Nat.le_refl _ | (simp; done) | (simp; omega)) _))⟩
        have HX := hidE (HS.out k hlt hne0)
        generalize l.getD k pr0 = x at *
        generalize r.getD k pr0 = y at *
        by_cases n0 : x.kind = y.kind
        · rw [← n0] at d0
          by_cases n1 : x.n = y.n
          · rw [← n1] at d1
            by_cases n2 : x.g = y.g
            · rw [← n2] at d2
              by_cases n3 : x.d = y.d
              · rw [← n3] at d3
                by_cases n4 : x.kids = y.kids
                · rw [← n4] at d4
                  exact absurd (prt_iff.2 ⟨n0, n1, n2, n3, n4⟩) hne0
                · have b9 : (x.kids == y.kids) = false := beq_eq_false_iff_ne.2 (by omega)
                  clear hne0
                  go_wp2
                  go_quiet (fail)
                  go_wp2
                  go_ret
                  exact ⟨ret_bool HX.out.symm, by have := HB.out; (repeat (first | exact Below.refl _ _ | assumption | refine balloc ?_ _ | refine below_drewN ?_ _ | refine bstep (by assumption) ?_ | refine bstep (Past.prop _) ?_ | refine Below.setCell ?_ (by first | exact Nat.le_refl _ | (simp; done) | (simp; omega)) _))⟩
              · have b8 : (x.d == y.d) = false := beq_eq_false_iff_ne.2 (by omega)
                clear hne0
                go_wp2
                go_quiet (fail)
                go_wp2
                go_ret
                exact ⟨ret_bool HX.out.symm, by have := HB.out; (repeat (first | exact Below.refl _ _ | assumption | refine balloc ?_ _ | refine below_drewN ?_ _ | refine bstep (by assumption) ?_ | refine bstep (Past.prop _) ?_ | refine Below.setCell ?_ (by first | exact Nat.le_refl _ | (simp; done) | (simp; omega)) _))⟩
            · have b7 : (((x.g : Nat) : Int) == ((y.g : Nat) : Int)) = false := beq_eq_false_iff_ne.2 (by omega)
              have b72 : (x.g == y.g) = false := beq_eq_false_iff_ne.2 (by omega)
              clear hne0
              go_wp2
              go_quiet (fail)
              go_wp2
              go_ret
              exact ⟨ret_bool HX.out.symm, by have := HB.out; (repeat (first | exact Below.refl _ _ | assumption | refine balloc ?_ _ | refine below_drewN ?_ _ | refine bstep (by assumption) ?_ | refine bstep (Past.prop _) ?_ | refine Below.setCell ?_ (by first | exact Nat.le_refl _ | (simp; done) | (simp; omega)) _))⟩
          · have b6 : (((x.n : Nat) : Int) == ((y.n : Nat) : Int)) = false := beq_eq_false_iff_ne.2 (by omega)
            have b62 : (x.n == y.n) = false := beq_eq_false_iff_ne.2 (by omega)
            clear hne0
            go_wp2
            go_quiet (fail)
            go_wp2
            go_ret
            exact ⟨ret_bool HX.out.symm, by have := HB.out; (repeat (first | exact Below.refl _ _ | assumption | refine balloc ?_ _ | refine below_drewN ?_ _ | refine bstep (by assumption) ?_ | refine bstep (Past.prop _) ?_ | refine Below.setCell ?_ (by first | exact Nat.le_refl _ | (simp; done) | (simp; omega)) _))⟩
        · have b5 : (((x.kind : Nat) : Int) == ((y.kind : Nat) : Int)) = false := beq_eq_false_iff_ne.2 (by omega)
          have b52 : (x.kind == y.kind) = false := beq_eq_false_iff_ne.2 (by omega)
          clear hne0
          go_wp2
          go_quiet (fail)
          go_wp2
          go_ret
          exact ⟨ret_bool HX.out.symm, by have := HB.out; (repeat (first | exact Below.refl _ _ | assumption | refine balloc ?_ _ | refine below_drewN ?_ _ | refine bstep (by assumption) ?_ | refine bstep (Past.prop _) ?_ | refine Below.setCell ?_ (by first | exact Nat.le_refl _ | (simp; done) | (simp; omega)) _))⟩
      · have q1 : decide ((k : Int) < (l.length : Int)) = false := decide_eq_false (by omega)
        have q2 : decide (k < l.length) = false := decide_eq_false hlt
        have HX := hidE (HT.out (fun i hi => HSS.out i (by omega)))
        go_wp2
        go_ret
        exact ⟨ret_bool HX.out.symm, HB.out⟩
  · have e1 : ((l.length : Int) != (r.length : Int)) = true := bne_iff_ne.2 (by omega)
    have HX := hidE (show decide (l = r) = false from decide_eq_false fun e => hlen (by rw [e]))
    clear hlen
    generalize decide (l = r) = ans at *
    go_enter Tryz.func49, Tryz.ntmps49
    go_wp2
    go_ret
    exact ⟨ret_bool HX.out.symm, Below.refl _ _⟩
set_option maxHeartbeats 1000000 in
theorem psame_c (d e : Df) (a a2 : Option Addr) (cap cap2 : Nat) (w : World) (hl : d.T.length ≤ 100000) (hl2 : e.T.length ≤ 100000) (hA : ArgP w a d.T) (hA2 : ArgP w a2 e.T) : Calls Tryz.prog 26 #[defV d.fr d.to' a d.T.length cap, defV e.fr e.to' a2 e.T.length cap2] w fun x w' => x = .returned (.bool (sameD d e)) ∧ Below w.heap.size w w' := by
  obtain ⟨f1, t1, l⟩ := d
  obtain ⟨f2, t2, r⟩ := e
  simp only at hl hl2 hA hA2
  show Calls _ _ #[defV f1 t1 a l.length cap, defV f2 t2 a2 r.length cap2] _ _
  have HE := hidE (fun w' (hb : Below w.heap.size w w') => pequal_c l r a a2 cap cap2 w' (by omega) (by omega) (hA.past hb) (hA2.past hb))
  have hs : sameD ⟨f1, t1, l⟩ ⟨f2, t2, r⟩ = (decide (f1 = f2) && (decide (t1 = t2) && decide (l = r))) := by
    unfold sameD
    by_cases c1 : f1 = f2 <;> by_cases c2 : t1 = t2 <;> by_cases c3 : l = r <;> simp [df_iff, c1, c2, c3]
  rw [hs]
  clear hs hA hA2
  generalize decide (l = r) = ans at *
  by_cases c1 : f1 = f2
  · have b1 : (f1 == f2) = true := beq_iff_eq.2 c1
    rw [decide_eq_true c1, Bool.true_and]
    by_cases c2 : t1 = t2
    · have b2 : (t1 == t2) = true := beq_iff_eq.2 c2
      rw [decide_eq_true c2, Bool.true_and]
      clear c1 c2
      go_enter Tryz.func26, Tryz.ntmps26
      go_wp2_with fail
      ((with_reducible refine (HE.out _ (by (repeat (first | exact Below.refl _ _ | assumption | refine balloc ?_ _ | refine below_drewN ?_ _ | refine bstep (by assumption) ?_ | refine bstep (Past.prop _) ?_ | refine Below.setCell ?_ (by first | exact Nat.le_refl _ | (simp; done) | (simp; omega)) _)))).mono ?_); rintro e w1 ⟨rfl, hb⟩)
      have HB := hidE (show Below w.heap.size w w1 by (repeat (first | exact Below.refl _ _ | assumption | refine balloc ?_ _ | refine below_drewN ?_ _ | refine bstep (by assumption) ?_ | refine bstep (Past.prop _) ?_ | refine Below.setCell ?_ (by first | exact Nat.le_refl _ | (simp; done) | (simp; omega)) _)))
      clear hb
      go_wp2
      go_ret
      exact ⟨rfl, HB.out⟩
    · have b2 : (t1 == t2) = false := beq_eq_false_iff_ne.2 c2
      rw [decide_eq_false c2, Bool.false_and]
      clear c1 c2
      go_enter Tryz.func26, Tryz.ntmps26
      go_wp2
      go_ret
      exact ⟨rfl, by (repeat (first | exact Below.refl _ _ | assumption | refine balloc ?_ _ | refine below_drewN ?_ _ | refine bstep (by assumption) ?_ | refine bstep (Past.prop _) ?_ | refine Below.setCell ?_ (by first | exact Nat.le_refl _ | (simp; done) | (simp; omega)) _))⟩
  · have b1 : (f1 == f2) = false := beq_eq_false_iff_ne.2 c1
    rw [decide_eq_false c1, Bool.false_and]
    clear c1
    go_enter Tryz.func26, Tryz.ntmps26
    go_wp2
    go_ret
    exact ⟨rfl, by (repeat (first | exact Below.refl _ _ | assumption | refine balloc ?_ _ | refine below_drewN ?_ _ | refine bstep (by assumption) ?_ | refine bstep (Past.prop _) ?_ | refine Below.setCell ?_ (by first | exact Nat.le_refl _ | (simp; done) | (simp; omega)) _))⟩
end Go.Proofs.YtioalnncjahlnaaGreatDoor

namespace Go.Proofs.YtioalnncjahlnaaGreatDoor
open Go.ChangeShapes Go.WideShapes Go.ChangeAt Go.RowKit
attribute [local irreducible] Go.Calls

/-- A definition that may be, its terms known. -/
structure Fine (fr to' : Int) (F : Fst) : Prop where
  chk : chkS fr to' F.flat = (0, 0)
  kok : F.kok
  len : F.len = 1
  fit : F.fit 1 0
  siz : F.size ≤ 64
  hfr : -9223372036854775808 ≤ fr ∧ fr ≤ 9223372036854775807
  hto : -9223372036854775808 ≤ to' ∧ to' ≤ 9223372036854775807
theorem Fine.nz {fr to' : Int} {F : Fst} (h : Fine fr to' F) : (plainF (lab F 0)).flat.length ≤ 64 := by
  have := (plain_siz (lab F 0)).1; rw [(lab_len F 0).2] at this; rw [flat_len]; have := h.siz; omega
set_option maxHeartbeats 4000000 in
set_option maxRecDepth 100000 in
theorem nsame_c (f1 t1 f2 t2 : Int) (F G : Fst) (a a2 : Option Addr) (cap cap2 n n2 : Nat) (hn : n = F.flat.length) (hn2 : n2 = G.flat.length) (w : World) (hF : Fine f1 t1 F) (hG : Fine f2 t2 G) (hA : ArgP w a F.flat) (hA2 : ArgP w a2 G.flat) (hT : Tab w) :
    Calls Tryz.prog 11 #[defV f1 t1 a n cap, defV f2 t2 a2 n2 cap2] w fun e w' => e = .returned (.tuple #[.bool (sameD ⟨f1, t1, (plainF (lab F 0)).flat⟩ ⟨f2, t2, (plainF (lab G 0)).flat⟩), .int .i64 0]) ∧ Below w.heap.size w w' := by
  have HN1 := hidE (fun (V : World) (hb : Below w.heap.size w V) => norm_c f1 t1 F a cap n hn V (hA.past hb) hF.chk hF.kok hF.len hF.fit hF.siz (hT.past hb) hF.hfr hF.hto)
  have HN2 := hidE (fun (V : World) (hb : Below w.heap.size w V) => norm_c f2 t2 G a2 cap2 n2 hn2 V (hA2.past hb) hG.chk hG.kok hG.len hG.fit hG.siz (hT.past hb) hG.hfr hG.hto)
  have Z1 := hidE hF.nz; have Z2 := hidE hG.nz
  clear hA hA2 hT hn hn2 hF hG
  generalize (plainF (lab F 0)).flat = L at *
  generalize (plainF (lab G 0)).flat = R at *
  generalize fromF (plainF (lab F 0)) = kL at *
  generalize fromF (plainF (lab G 0)) = kR at *
  go_enter Tryz.func11, Tryz.ntmps11
  go_wp2_with fail
  obtain ⟨w1, hw1⟩ : ∃ w1, w1 = (w.alloc (.cells #[.int .i64 f1, .int .i64 t1, .slice a n cap] 24)).alloc (.cells #[.int .i64 f2, .int .i64 t2, .slice a2 n2 cap2] 24) := ⟨_, rfl⟩
  rw [← hw1]
  have hb1 : Below w.heap.size w w1 := by rw [hw1]; (repeat (first | exact Below.refl _ _ | assumption | refine balloc ?_ _ | refine below_drewN ?_ _ | refine bstep (by assumption) ?_ | refine bstep (Past.prop _) ?_ | refine Below.setCell ?_ (by first | exact Nat.le_refl _ | (simp; done) | (simp; omega)) _))
  have h2 : Blk w1 (w.heap.size + 1) #[.int .i64 f2, .int .i64 t2, .slice a2 n2 cap2] 24 := by rw [hw1]; exact Blk.made_at _ _ _ _ (by simp)
  clear hw1
  ((with_reducible refine (HN1.out w1 hb1).mono ?_); rintro e w2 ⟨b1, k1, c1, d1, rfl, m1, m2, hL, -, hb2⟩)
  have HB := hidE (hb1.trans (hb2.mono hb1.size)); have H2 := hidE (h2.past hb2); have HL := hidE hL
  clear hb1 h2 hb2 hL HN1
  obtain ⟨w3, hw3⟩ : ∃ w3, w3 = w2.alloc (.cells #[.int .i64 f1, .int .i64 t1, .slice b1 L.length c1] 24) := ⟨_, rfl⟩
  have hb3 : Below w2.heap.size w2 w3 := by rw [hw3]; (repeat (first | exact Below.refl _ _ | assumption | refine balloc ?_ _ | refine below_drewN ?_ _ | refine bstep (by assumption) ?_ | refine bstep (Past.prop _) ?_ | refine Below.setCell ?_ (by first | exact Nat.le_refl _ | (simp; done) | (simp; omega)) _))
  have h6 : Blk w3 w2.heap.size #[.int .i64 f1, .int .i64 t1, .slice b1 L.length c1] 24 := by rw [hw3]; exact Blk.made _ _ _
  have e2 := H2.out.past hb3
  have x0 := e2.cell 0; have x1 := e2.cell 1; have x2 := e2.cell 2; have xz := e2.lt
  simp at x0 x1 x2
  have HB3 := hidE (HB.out.trans (hb3.mono HB.out.size)); have H6 := hidE h6; have HL3 := hidE (HL.out.past hb3)
  have HW3 := hidE hw3
  go_upto_region 2 with fail
  rw [← HW3.out]
  clear hw3 hb3 h6 e2 HB H2 HL HW3
  go_wp2_with fail
  ((with_reducible refine (HN2.out w3 HB3.out).mono ?_); rintro e w4 ⟨b2, k2, c2, d2, rfl, m3, m4, hR, -, hb4⟩)
  obtain ⟨w5, hw5⟩ : ∃ w5, w5 = w4.alloc (.cells #[.int .i64 f2, .int .i64 t2, .slice b2 R.length c2] 24) := ⟨_, rfl⟩
  have hb5 : Below w4.heap.size w4 w5 := by rw [hw5]; (repeat (first | exact Below.refl _ _ | assumption | refine balloc ?_ _ | refine below_drewN ?_ _ | refine bstep (by assumption) ?_ | refine bstep (Past.prop _) ?_ | refine Below.setCell ?_ (by first | exact Nat.le_refl _ | (simp; done) | (simp; omega)) _))
  have h9 : Blk w5 w4.heap.size #[.int .i64 f2, .int .i64 t2, .slice b2 R.length c2] 24 := by rw [hw5]; exact Blk.made _ _ _
  have h65 := (H6.out.past hb4).past hb5
  have HB5 := hidE (HB3.out.trans ((hb4.trans (hb5.mono hb4.size)).mono HB3.out.size))
  have HPS := hidE (psame_c ⟨f1, t1, L⟩ ⟨f2, t2, R⟩ b1 b2 c1 c2 w5 (by have := Z1.out; simp only; omega) (by have := Z2.out; simp only; omega) ((HL3.out.past hb4).past hb5) (hR.past hb5))
  have y0 := h65.cell 0; have y1 := h65.cell 1; have y2 := h65.cell 2; have yz := h65.lt
  have z0 := h9.cell 0; have z1 := h9.cell 1; have z2 := h9.cell 2; have zz := h9.lt
  simp at y0 y1 y2 z0 z1 z2
  have HW5 := hidE hw5
  go_upto_region 3 with fail
  rw [← HW5.out]
  clear hw5 hb5 h65 h9 hb4 hR HL3 H6 HB3 HN2 HW5 x0 x1 x2 xz
  go_wp2_with fail
  ((with_reducible refine HPS.out.mono ?_); rintro e w6 ⟨rfl, hb6⟩)
  have HB6 := hidE (HB5.out.trans (hb6.mono HB5.out.size))
  clear hb6
  go_wp2
  go_ret2
  exact ⟨rfl, HB6.out⟩
end Go.Proofs.YtioalnncjahlnaaGreatDoor

namespace Go.Proofs.YtioalnncjahlnaaGreatDoor

theorem map_self {α} {f : α → α} : ∀ {l : List α}, l.map f = l → ∀ v ∈ l, f v = v
  | [], _, v, hv => by cases hv
  | a :: l, h, v, hv => by
    rw [List.map_cons, List.cons.injEq] at h
    rcases List.mem_cons.1 hv with rfl | hv
    · exact h.1
    · exact map_self h.2 v hv
theorem bare_self {F : Fst} (hk : F.kok) : bare F = F := by
  have h1 := bare_lab F 0 hk
  have : ∀ F : Fst, F.kok → bare F = F := by
    intro F
    induction F with
    | nil => intro _; rfl
    | cons x K N ihK ihN =>
      intro h
      obtain ⟨_, h2, h3, h4⟩ := h
      rw [bare, ihK h3, ihN h4]
      have : bareP x = x := by unfold bareP; cases x; simp at h2; simp [h2]
      rw [this]
  exact this F hk
theorem plain_lab_flat {F : Fst} (hk : F.kok) : (plainF (lab F 0)).flat = (plainF F).flat := by
  have h := bare_plain (lab F 0)
  rw [bare_lab F 0 hk] at h
  rw [h, bare_flat]
theorem plain_kok {F : Fst} {d i : Nat} (hk : F.kok) (hf : F.fit d i) : (plainF F).kok := by
  have h := bare_plain F
  rw [bare_self hk] at h
  rw [h]
  exact bare_kok _ _ _ (plain_fit F d i hf)
theorem fit_deeper : ∀ (F : Fst) (d i d' i' : Nat), F.fit d i → d' + F.depth ≤ 9 → (i' = 2 → i = 2 ∨ ∀ t ∈ toL F, t.1.kind = 0) → F.fit d' i'
  | .nil, _, _, _, _, _, _, _ => trivial
  | .cons x K N, d, i, d', i', ⟨h1, h2, h3, h4, h5⟩, hd, hi => by
    simp only [Fst.depth] at hd
    refine ⟨h1, fun e => ?_, by omega, fit_deeper K _ _ _ _ h4 (by omega) (fun e => .inl e), fit_deeper N _ _ _ _ h5 (by omega) (fun e => ?_)⟩
    · rcases hi e with q | q
      · exact h2 q
      · exact q (x, K) (by simp [toL])
    · rcases hi e with q | q
      · exact .inl q
      · exact .inr fun t ht => q t (by simp [toL, ht])
theorem badP_root (k n : Nat) (h1 : 1 ≤ k) (h4 : k ≤ 4) (hn : 1 ≤ n) (hn2 : n ≤ 16) : badP ⟨k, 0, 0, 0, (n : Int)⟩ = false := by
  unfold badP
  simp only
  rw [if_neg (by omega)]
  exact decide_eq_false (by omega)
theorem badP_zero {x : Prt} {n : Nat} (h : badP { x with kids := (n : Int) } = false) (hk : x.kind ≠ 0) : x.n = 0 ∧ x.g = 0 ∧ x.d = 0 := by
  unfold badP at h
  simp only at h
  rw [if_neg hk] at h
  have := of_decide_eq_false h
  exact ⟨by omega, by omega, by omega⟩
theorem wide_kids : ∀ (F : Fst), wideB F.flat = false → ∀ x ∈ F.flat, x.kids ≤ 7 := fun F h x hx => by
  unfold wideB at h
  rw [List.any_eq_false] at h
  have := h x hx
  simp at this
  exact this
theorem flat_mem_cons {x : Prt} {K N : Fst} : { x with kids := (K.len : Int) } ∈ (Fst.cons x K N).flat := by simp [Fst.flat]
theorem flat_mem_kid : ∀ {F : Fst} {t : Tm}, t ∈ toL F → ({ t.1 with kids := (t.2.len : Int) } : Prt) ∈ F.flat
  | .cons x K N, t, h => by
    simp only [toL, List.mem_cons] at h
    rcases h with rfl | h
    · exact flat_mem_cons
    · have := flat_mem_kid h
      simp [Fst.flat, this]
/-- One definition, made plain. -/
structure Pn (y : Prt) (K : Fst) (p : Tm) : Prop where
  eq : plainF (.cons y K .nil) = .cons p.1 p.2 .nil
  pl : Pl p
  fit : FitT p 1 0
  siz : sizT p ≤ 64
  bare : bareT p = p
  root : p.1.kind = 3 → p.1 = ⟨3, 0, 0, 0, 0⟩
theorem pn_of {fr to' : Int} {y : Prt} {K : Fst} (h : Fine fr to' (.cons y K .nil)) (hw : wideB (plainF (.cons y K .nil)).flat = false) : Pn y K (nfT (y, plainF K)) := by
  have he : plainF (.cons y K .nil) = .cons (nfT (y, plainF K)).1 (nfT (y, plainF K)).2 .nil := by rw [plain_cons]; rfl
  generalize nfT (y, plainF K) = p at *
  have hft := plain_fit _ 1 0 h.fit
  rw [he] at hft hw
  have hnr := plain_nrm (.cons y K .nil)
  rw [he] at hnr
  have hkk := plain_kok h.kok h.fit
  rw [he] at hkk
  have hf : FitT p 1 0 := ⟨hft.1, hft.2.1, hft.2.2.1, hft.2.2.2.1⟩
  have hall := (fit_all p.2 _ _).1 hf.2.2.2
  have hwd := wide_kids _ hw
  have hsz : sizT p ≤ 64 := by
    have h1 := (plain_siz (.cons y K .nil)).1
    rw [he] at h1
    have h2 := h.siz
    simp only [Fst.size] at h1 h2
    simp only [sizT]; omega
  have hb := bare_self hkk
  refine ⟨he, ⟨hnr.1, fun v hv => ((nrm_all p.2).1 hnr.2.1 v hv).1, fun hk => ((badP_kids hf.1).2 hk).1, fun v hv hk => ((badP_kids (hall v hv).1).2 hk).1, ?_, fun v hv => ?_⟩, hf, hsz, ?_, fun hk => ?_⟩
  · have := hwd _ (flat_mem_cons (x := p.1) (K := p.2) (N := .nil)); simp only at this; omega
  · have hm := flat_mem_kid hv
    have := hwd _ (show ({ v.1 with kids := (v.2.len : Int) } : Prt) ∈ (Fst.cons p.1 p.2 .nil).flat by simp [Fst.flat, hm])
    simp only at this; omega
  · simp only [Go.Proofs.YtioalnncjahlnaaGreatDoor.bare, Fst.cons.injEq, and_true] at hb
    exact Prod.ext hb.1 hb.2
  · have hz := badP_zero hf.1 (by omega)
    have hkd : p.1.kids = 0 := hkk.2.1
    obtain ⟨⟨a, b, c, d, e⟩, q⟩ := p
    simp only at hk hz hkd ⊢
    obtain ⟨rfl, rfl, rfl⟩ := hz
    rw [hk, hkd]
theorem un_inj {k : Nat} {y z : Prt} {K G : Fst} {p q : Tm} (hp : Pn y K p) (hq : Pn z G q) : Inj (unF k p ++ unF k q) := by
  have go : ∀ {y : Prt} {K : Fst} {p : Tm}, Pn y K p → ∀ v ∈ unF k p, ∃ d i, FitT v d i ∧ 1 ≤ d ∧ sizT v ≤ 64 ∧ bareT v = v := fun {y K p} hp v hv => by
    unfold unF at hv
    split at hv
    · have hall := (fit_all p.2 _ _).1 hp.fit.2.2.2 v hv
      refine ⟨2, p.1.kind, hall, by omega, ?_, ?_⟩
      · obtain ⟨A, B, e⟩ := List.append_of_mem hv
        have := sizL_to p.2
        rw [e, sizL_app] at this
        have h3 := hp.siz
        simp only [sizL] at this
        simp only [sizT] at h3 this ⊢; omega
      · have hb := congrArg Prod.snd hp.bare
        have h2 : (toL p.2).map bareT = toL p.2 := by rw [← bare_toL]; exact congrArg toL hb
        exact map_self h2 v hv
    · simp at hv
      subst hv
      exact ⟨1, 0, hp.fit, Nat.le_refl _, hp.siz, hp.bare⟩
  intro u hu v hv e
  have hu' : ∃ d i, FitT u d i ∧ 1 ≤ d ∧ sizT u ≤ 64 ∧ bareT u = u := (List.mem_append.1 hu).elim (go hp u) (go hq u)
  have hv' : ∃ d i, FitT v d i ∧ 1 ≤ d ∧ sizT v ≤ 64 ∧ bareT v = v := (List.mem_append.1 hv).elim (go hp v) (go hq v)
  obtain ⟨d1, i1, a1, a2, a3, a4⟩ := hu'
  obtain ⟨d2, i2, b1, b2, b3, b4⟩ := hv'
  rw [← a4, ← b4]
  exact txT_inj a1 b1 a2 b2 a3 b3 e
/-- The definition behind a root of this kind; two behind one. -/
abbrev oneF (k : Nat) (F : Fst) : Fst := .cons ⟨k, 0, 0, 0, 0⟩ F .nil
abbrev twoF (k : Nat) (y : Prt) (K : Fst) (G : Fst) : Fst := .cons ⟨k, 0, 0, 0, 0⟩ (.cons y K G) .nil
theorem oneF_flat (k : Nat) {F : Fst} (h : F.len = 1) : (oneF k F).flat = ⟨k, 0, 0, 0, 1⟩ :: F.flat := by simp [Fst.flat, h]
theorem twoF_flat (k : Nat) (y z : Prt) (K L : Fst) : (twoF k y K (.cons z L .nil)).flat = ⟨k, 0, 0, 0, 2⟩ :: ((Fst.cons y K .nil).flat ++ (Fst.cons z L .nil).flat) := by simp [Fst.flat, Fst.len]
theorem fine_one {fr to' : Int} {k : Nat} {F : Fst} (h : Fine fr to' F) (h1 : 1 ≤ k) (h4 : k ≤ 4) (h2 : k = 2 → ∀ t ∈ toL F, t.1.kind = 0) (hs : F.size ≤ 60) (hd : F.depth ≤ 6) : Fine fr to' (oneF k F) := by
  have hf : (oneF k F).fit 1 0 := by
    refine ⟨?_, fun e => absurd e (by omega), by omega, fit_deeper F 1 0 2 k h.fit (by omega) (fun e => .inr (h2 e)), trivial⟩
    have := badP_root k 1 h1 h4 (by omega) (by omega)
    rw [h.len]; exact this
  have hsz : (oneF k F).size ≤ 64 := by simp only [Fst.size]; omega
  refine ⟨?_, ⟨h4, rfl, h.kok, trivial⟩, rfl, hf, hsz, h.hfr, h.hto⟩
  exact chk_win (by rw [tree_fit rfl hsz hf]) (by have := (chk_ok (show (chkS fr to' _).2 = 0 by rw [h.chk])).2.1; omega)
theorem fine_two {fr to' f1 t1 f2 t2 : Int} {k : Nat} {y z : Prt} {K L H : Fst} (h0 : Fine fr to' H) (h : Fine f1 t1 (.cons y K .nil)) (h' : Fine f2 t2 (.cons z L .nil)) (h1 : k = 3 ∨ k = 4) (hs : (Fst.cons y K .nil).size ≤ 30) (hs' : (Fst.cons z L .nil).size ≤ 30) (hd : (Fst.cons y K .nil).depth ≤ 6) (hd' : (Fst.cons z L .nil).depth ≤ 6) : Fine fr to' (twoF k y K (.cons z L .nil)) := by
  have g1 := fit_deeper _ 1 0 2 k h.fit (by omega) (fun e => by omega)
  have g2 := fit_deeper _ 1 0 2 k h'.fit (by omega) (fun e => by omega)
  have hf : (twoF k y K (.cons z L .nil)).fit 1 0 := by
    refine ⟨?_, fun e => absurd e (by omega), by omega, ⟨g1.1, g1.2.1, g1.2.2.1, g1.2.2.2.1, g2⟩, trivial⟩
    have := badP_root k 2 (by omega) (by omega) (by omega) (by omega)
    simp only [Fst.len]; exact this
  have hsz : (twoF k y K (.cons z L .nil)).size ≤ 64 := by simp only [Fst.size] at hs hs' ⊢; omega
  refine ⟨?_, ⟨by simp only; omega, rfl, ⟨h.kok.1, h.kok.2.1, h.kok.2.2.1, h'.kok⟩, trivial⟩, rfl, hf, hsz, h0.hfr, h0.hto⟩
  exact chk_win (by rw [tree_fit rfl hsz hf]) (by have := (chk_ok (show (chkS fr to' _).2 = 0 by rw [h0.chk])).2.1; omega)
/-- In a part of its own. -/
theorem same_one {y : Prt} {K : Fst} {p : Tm} (k : Nat) (h : Pn y K p) : plainF (oneF k (.cons y K .nil)) = plainF (.cons y K .nil) := by
  have e : plainF (Fst.cons y K .nil) = ofL [p] := by rw [h.eq]; rfl
  rw [plain_cons, e, nf_single h.pl.one]
  rfl
theorem plain_two (k : Nat) {y z : Prt} {K L : Fst} {p q : Tm} (h : Pn y K p) (h' : Pn z L q) : plainF (twoF k y K (.cons z L .nil)) = .cons (nfT (⟨k, 0, 0, 0, 0⟩, ofL [p, q])).1 (nfT (⟨k, 0, 0, 0, 0⟩, ofL [p, q])).2 .nil := by
  have e1 := h.eq
  have e2 := h'.eq
  rw [plain_cons] at e1
  rw [Fst.cons.injEq] at e1
  have e : plainF (Fst.cons y K (.cons z L .nil)) = ofL [p, q] := by
    rw [plain_cons, e2, e1.1, e1.2.1]; rfl
  rw [plain_cons, e]
  rfl
/-- Twice in an any. -/
theorem same_twice {y : Prt} {K : Fst} {p : Tm} (h : Pn y K p) : plainF (twoF 3 y K (.cons y K .nil)) = plainF (.cons y K .nil) := by
  rw [plain_two 3 h h, nf_twice rfl h.pl h.root (fun u hu v hv => un_inj (k := 3) h h u (by simp [hu]) v (by simp [hv])), h.eq]
/-- The other way round. -/
theorem same_swap {k : Nat} {y z : Prt} {K L : Fst} {p q : Tm} (h : Pn y K p) (h' : Pn z L q) (hk : k = 3 ∨ k = 4) : plainF (twoF k y K (.cons z L .nil)) = plainF (twoF k z L (.cons y K .nil)) := by
  rw [plain_two k h h', plain_two k h' h, nf_swap hk h.pl h'.pl (un_inj h h')]
end Go.Proofs.YtioalnncjahlnaaGreatDoor

namespace Go.Proofs.YtioalnncjahlnaaGreatDoor

def exA : Prt := ⟨0, 1, 1, 1, 0⟩
def exB : Prt := ⟨0, 1, 1, 2, 0⟩
def exG (k : Nat) (z : Int) : Prt := ⟨k, 0, 0, 0, z⟩
/-- One of the examples: a tree, its parts, its normal form's parts, where they come from. -/
structure Ex (F : Fst) (l want : List Prt) (k : List Nat) : Prop where
  flat : F.flat = l
  kok : F.kok
  len : F.len = 1
  fit : F.fit 1 0
  siz : F.size ≤ 64
  nf : (plainF (lab F 0)).flat = want
  frm : fromF (plainF (lab F 0)) = k
def ex1F : Fst := .cons (exG 1 0) (.cons exA .nil (.cons (exG 1 0) (.cons exB .nil (.cons exA .nil .nil)) .nil)) .nil
def ex2F : Fst := .cons (exG 3 0) (.cons exB .nil (.cons (exG 3 0) (.cons exA .nil (.cons exB .nil .nil)) .nil)) .nil
def ex3F : Fst := .cons (exG 4 0) (.cons (exG 2 0) (.cons exB .nil .nil) (.cons (exG 3 0) (.cons exA .nil (.cons exA .nil .nil)) .nil)) .nil
def ex4F : Fst := .cons (exG 1 0) (.cons (exG 4 0) (.cons exA .nil .nil) .nil) .nil
theorem ex1_nf : (plainF (lab ex1F 0)).flat = [exG 1 3, exA, exB, exA] ∧ fromF (plainF (lab ex1F 0)) = [0, 1, 3, 4] := by decide +kernel
theorem ex2_nf : (plainF (lab ex2F 0)).flat = [exG 3 2, exA, exB] ∧ fromF (plainF (lab ex2F 0)) = [0, 3, 1] := by decide +kernel
theorem ex3_nf : (plainF (lab ex3F 0)).flat = [exG 4 2, exA, exB] ∧ fromF (plainF (lab ex3F 0)) = [0, 4, 2] := by decide +kernel
theorem ex4_nf : (plainF (lab ex4F 0)).flat = [exA] ∧ fromF (plainF (lab ex4F 0)) = [2] := by decide +kernel
theorem ex1 : Ex ex1F [exG 1 2, exA, exG 1 2, exB, exA] [exG 1 3, exA, exB, exA] [0, 1, 3, 4] :=
  ⟨rfl, by simp [ex1F, Fst.kok, exG, exA, exB], rfl, by simp [ex1F, Fst.fit, exG, exA, exB, badP, Fst.len], by decide, ex1_nf.1, ex1_nf.2⟩
theorem ex2 : Ex ex2F [exG 3 2, exB, exG 3 2, exA, exB] [exG 3 2, exA, exB] [0, 3, 1] :=
  ⟨rfl, by simp [ex2F, Fst.kok, exG, exA, exB], rfl, by simp [ex2F, Fst.fit, exG, exA, exB, badP, Fst.len], by decide, ex2_nf.1, ex2_nf.2⟩
theorem ex3 : Ex ex3F [exG 4 2, exG 2 1, exB, exG 3 2, exA, exA] [exG 4 2, exA, exB] [0, 4, 2] :=
  ⟨rfl, by simp [ex3F, Fst.kok, exG, exA, exB], rfl, by simp [ex3F, Fst.fit, exG, exA, exB, badP, Fst.len], by decide, ex3_nf.1, ex3_nf.2⟩
theorem ex4 : Ex ex4F [exG 1 1, exG 4 1, exA] [exA] [2] :=
  ⟨rfl, by simp [ex4F, Fst.kok, exG, exA], rfl, by simp [ex4F, Fst.fit, exG, exA, badP, Fst.len], by decide, ex4_nf.1, ex4_nf.2⟩
theorem Ex.chk {F : Fst} {l want : List Prt} {k : List Nat} (h : Ex F l want k) : chkS 0 9 F.flat = (0, 0) := by
  unfold chkS
  rw [if_neg (by omega), tree_fit h.len h.siz h.fit]; rfl
end Go.Proofs.YtioalnncjahlnaaGreatDoor

namespace Go.Proofs.YtioalnncjahlnaaGreatDoor
open Go.ChangeShapes Go.WideShapes Go.ChangeAt Go.RowKit
attribute [local irreducible] Go.Calls

set_option maxRecDepth 100000 in
theorem cmpI_lt' {a b : Int} (h : a < b) : cmpI a b = -1 := by unfold cmpI; rw [if_pos h]
set_option maxRecDepth 100000 in
theorem isNaNI_c (x : Int) (w : World) : Calls Tryz.prog 55 #[.int .i64 x] w fun e w' => e = .returned (.bool false) ∧ w' = w := by
  go_enter Tryz.func55, Tryz.ntmps55
  go_wp2
  go_ret
  exact ⟨rfl, rfl⟩
set_option maxRecDepth 100000 in
theorem compareI (a b : Int) (w : World) : Calls Tryz.prog 35 #[.int .i64 a, .int .i64 b] w fun e w' => e = .returned (.int .i64 (cmpI a b)) ∧ w' = w := by
  rcases Int.lt_trichotomy a b with c | c | c
  · have hv : cmpI a b = -1 := cmpI_lt' c
    have HV := hidE hv; clear hv
    go_enter Tryz.func35, Tryz.ntmps35
    go_wp2_with (go_at_call 55; ((with_reducible refine (isNaNI_c _ _).mono ?_); rintro e w' ⟨rfl, rfl⟩))
    go_ret
    exact ⟨ret_int HV.out.symm, rfl⟩
  · have hv : cmpI a b = 0 := by unfold cmpI; rw [if_neg (by omega), if_neg (by omega)]
    have HV := hidE hv; clear hv
    subst c
    go_enter Tryz.func35, Tryz.ntmps35
    go_wp2_with (go_at_call 55; ((with_reducible refine (isNaNI_c _ _).mono ?_); rintro e w' ⟨rfl, rfl⟩))
    go_ret
    exact ⟨ret_int HV.out.symm, rfl⟩
  · have hv : cmpI a b = 1 := by unfold cmpI; rw [if_neg (by omega), if_pos (by omega)]
    have HV := hidE hv; clear hv
    have c' : ¬ a < b := by omega
    go_enter Tryz.func35, Tryz.ntmps35
    go_wp2_with (go_at_call 55; ((with_reducible refine (isNaNI_c _ _).mono ?_); rintro e w' ⟨rfl, rfl⟩))
    go_ret
    exact ⟨ret_int HV.out.symm, rfl⟩
set_option maxRecDepth 100000 in
theorem bcmp_c (a m b n : Int) (w : World) : Calls Tryz.prog 34 #[.agg #[.int .i64 a, .int .i64 m], .agg #[.int .i64 b, .int .i64 n]] w fun e w' => e = .returned (.int .i64 (cmpI a b)) ∧ Below w.heap.size w w' := by
  go_enter Tryz.func34, Tryz.ntmps34
  go_wp2_with (go_at_call 35; ((with_reducible refine (compareI _ _ _).mono ?_); rintro e w' ⟨rfl, rfl⟩))
  go_ret
  exact ⟨rfl, by (repeat (first | exact Below.refl _ _ | assumption | refine balloc ?_ _ | refine below_drewN ?_ _ | refine bstep (by assumption) ?_ | refine bstep (Past.prop _) ?_ | refine Below.setCell ?_ (by first | exact Nat.le_refl _ | (simp; done) | (simp; omega)) _))⟩
/-- Two pieces in a row of the call's own, with room behind it. -/
structure Pc2 (w0 : World) (g : Nat) (p q r s : Int) (w : World) : Prop where
  here : ∃ tl : Array Value, Blk w g (#[.int .i64 p, .int .i64 q, .int .i64 r, .int .i64 s] ++ tl) 60
  low : Below g w0 w
section
variable {w0 w w' : World} {g : Nat} {p q r s : Int}
theorem Pc2.lt (h : Pc2 w0 g p q r s w) : g < w.heap.size := by obtain ⟨tl, e⟩ := h.here; exact e.lt
theorem Pc2.cells (h : Pc2 w0 g p q r s w) : w.cell? ⟨g, 0, none⟩ = some (.int .i64 p) ∧ w.cell? ⟨g, 1, none⟩ = some (.int .i64 q) ∧ w.cell? ⟨g, 2, none⟩ = some (.int .i64 r) ∧ w.cell? ⟨g, 3, none⟩ = some (.int .i64 s) := by
  obtain ⟨tl, e⟩ := h.here
  refine ⟨?_, ?_, ?_, ?_⟩
  all_goals
    rw [e.cell, Array.getElem?_append_left (by simp)]; rfl
theorem Pc2.free (h : Pc2 w0 g p q r s w) (i : Nat) : w.frozen? ⟨g, i, none⟩ = false := by obtain ⟨tl, e⟩ := h.here; exact e.free i
theorem Pc2.past (h : Pc2 w0 g p q r s w) (hb : Below w.heap.size w w') : Pc2 w0 g p q r s w' := by
  obtain ⟨tl, e⟩ := h.here
  exact ⟨⟨tl, e.past hb⟩, h.low.trans (hb.mono (Nat.le_of_lt e.lt))⟩
theorem Pc2.drew (h : Pc2 w0 g p q r s w) : Pc2 w0 g p q r s w.drew := by
  obtain ⟨tl, e⟩ := h.here
  exact ⟨⟨tl, e.drew 1⟩, h.low.drew⟩
theorem app_set4 (a b c d v : Value) (tl : Array Value) : ((#[a, b, c, d] ++ tl).setIfInBounds 0 v = #[v, b, c, d] ++ tl) ∧ ((#[a, b, c, d] ++ tl).setIfInBounds 1 v = #[a, v, c, d] ++ tl) ∧ ((#[a, b, c, d] ++ tl).setIfInBounds 2 v = #[a, b, v, d] ++ tl) ∧ ((#[a, b, c, d] ++ tl).setIfInBounds 3 v = #[a, b, c, v] ++ tl) := by
  obtain ⟨l⟩ := tl
  simp
theorem Pc2.put (h : Pc2 w0 g p q r s w) (z : Int) : Pc2 w0 g z q r s (w.setCell ⟨g, 0, none⟩ (.int .i64 z)) ∧ Pc2 w0 g p z r s (w.setCell ⟨g, 1, none⟩ (.int .i64 z)) ∧ Pc2 w0 g p q z s (w.setCell ⟨g, 2, none⟩ (.int .i64 z)) ∧ Pc2 w0 g p q r z (w.setCell ⟨g, 3, none⟩ (.int .i64 z)) := by
  obtain ⟨tl, e⟩ := h.here
  have t := app_set4 (.int .i64 p) (.int .i64 q) (.int .i64 r) (.int .i64 s) (.int .i64 z) tl
  exact ⟨⟨⟨tl, by rw [← t.1]; exact e.set 0 _⟩, h.low.setCell (Nat.le_refl _) _⟩, ⟨⟨tl, by rw [← t.2.1]; exact e.set 1 _⟩, h.low.setCell (Nat.le_refl _) _⟩, ⟨⟨tl, by rw [← t.2.2.1]; exact e.set 2 _⟩, h.low.setCell (Nat.le_refl _) _⟩, ⟨⟨tl, by rw [← t.2.2.2]; exact e.set 3 _⟩, h.low.setCell (Nat.le_refl _) _⟩⟩
end
set_option maxHeartbeats 4000000 in
set_option maxRecDepth 100000 in
theorem bins_c (w0 w : World) (g cap : Nat) (p q r s : Int) (h : Pc2 w0 g p q r s w) (hpr : r < p) :
    Calls Tryz.prog 75 #[.slice (some ⟨g, 0, none⟩) 2 cap, .int .i64 0, .int .i64 2, .func (.func 34) #[] #[]] w fun e w' => e = .returned (.tuple #[]) ∧ Pc2 w0 g r s p q w' := by
  have H := hidE h
  have HC := hidE (show ∀ w, Calls Tryz.prog 34 #[.agg #[.int .i64 r, .int .i64 s], .agg #[.int .i64 p, .int .i64 q]] w fun e w' => e = .returned (.int .i64 (-1)) ∧ Below w.heap.size w w' from fun w => by
    have := bcmp_c r s p q w; rw [cmpI_lt' hpr] at this; exact this)
  clear h
  go_enter Tryz.func75, Tryz.ntmps75
  go_wp2
  go_loopg [8] 1 (fun gh v8 wr => (v8 = .int .i64 1 ∧ 1 ≤ gh ∧ Pc2 w0 g p q r s wr) ∨ (v8 = .int .i64 2 ∧ Pc2 w0 g r s p q wr))
  case atStart => exact .inl ⟨rfl, Nat.le_refl _, H.out⟩
  case round =>
    clear H
    rcases hrel with ⟨rfl, hgh, hr⟩ | ⟨rfl, hr⟩
    · have HR := hidE hr
      have HGH := hidE hgh
      clear hr hgh
      obtain ⟨wo, rfl⟩ : ∃ wo : World, wo = wr := ⟨_, rfl⟩
      go_wp2
      go_loopg [9] 1 (fun g2 v9 wi => (v9 = .int .i64 1 ∧ 1 ≤ g2 ∧ Pc2 w0 g p q r s wi) ∨ (v9 = .int .i64 0 ∧ Pc2 w0 g r s p q wi))
      case atStart => exact .inl ⟨rfl, Nat.le_refl _, HR.out⟩
      case round =>
        clear HR
        rcases hrel with ⟨rfl, hg2, hr⟩ | ⟨rfl, hr⟩
        · obtain ⟨c0, c1, c2, c3⟩ := hr.cells
          have z := hr.lt
          have HR := hidE hr; have HG2 := hidE hg2
          have hd : decide ((1 : Int) > 0) = true := rfl
          clear hr hg2
          go_wp2_with fail
          refine wp_region_past_lit (by kernel_rfl) (by kernel_rfl) ?_
          have hc := Past.cell (W := wr)
          repeat (go_big_quiet_step ((go_at_call 34; exact Past.call _ (HC.out _))))
          refine wpQuiet_nil ?_
          rintro _ ⟨x', rfl⟩
          have hr2 := HR.out.past x'.2
          clear c0 c1 c2 c3 hc
          generalize x'.1 = w2 at hr2 ⊢
          obtain ⟨c0, c1, c2, c3⟩ := hr2.cells
          have z2 := hr2.lt
          have f0 := hr2.free 0; have f1 := hr2.free 1; have f2 := hr2.free 2; have f3 := hr2.free 3
          have HR2 := hidE hr2
          clear hr2
          go_wp2_with fail
          go_region
          all_goals
            have HF := hidE ((((HR2.out.put p).2.2.1.put q).2.2.2.put r).1.put s).2.1
            clear c0 c1 c2 c3 f0 f1 f2 f3 z2 HR2
            go_wp2
            go_roundg 0
            case measure => have := HG2.out; omega
            case rel => exact .inr ⟨rfl, by first | exact HF.out | exact HF.out.drew⟩
        · have HR := hidE hr
          have hd : decide ((0 : Int) > 0) = false := rfl
          clear hr
          go_wp2_with fail
          refine wp_region_past_lit (by kernel_rfl) (by kernel_rfl) ?_
          repeat (go_big_quiet_step (fail))
          refine wpQuiet_nil ?_
          rintro _ ⟨x', rfl⟩
          have hr2 := hidE (HR.out.past x'.2)
          generalize x'.1 = w2 at hr2 ⊢
          go_wp2
          go_roundg 0
          case measure => have := HGH.out; omega
          case rel => exact .inr ⟨rfl, hr2.out⟩
    · have HR := hidE hr
      clear hr
      go_wp2
      go_end0
      exact ⟨rfl, HR.out⟩
set_option maxRecDepth 100000 in
set_option maxHeartbeats 8000000 in
theorem stableP_c (w0 w : World) (g cap : Nat) (p q r s : Int) (h : Pc2 w0 g p q r s w) (hpr : r < p) :
    Calls Tryz.prog 54 #[.slice (some ⟨g, 0, none⟩) 2 cap, .int .i64 2, .func (.func 34) #[] #[]] w fun e w' => e = .returned (.tuple #[]) ∧ Pc2 w0 g r s p q w' := by
  have HB := hidE (bins_c w0 w g cap p q r s h hpr)
  clear h
  go_enter Tryz.func54, Tryz.ntmps54
  go_wp2
  go_loopg [7, 8] 0 (fun g1 va vb wr => va = .int .i64 0 ∧ vb = .int .i64 20 ∧ wr = w)
  case atStart => exact ⟨rfl, rfl, rfl⟩
  case round =>
    obtain ⟨rfl, rfl, rfl⟩ := hrel
    have hltz : decide ((20 : Int) ≤ 2) = false := rfl
    go_wp2_with (go_at_call 75; ((with_reducible refine HB.out.mono ?_); rintro e w1 ⟨rfl, hr1⟩))
    have R1 := hidE hr1
    clear hr1
    go_loopg [6] 0 (fun g2 vs wr2 => vs = .int .i64 20 ∧ wr2 = w1)
    case atStart => exact ⟨rfl, rfl⟩
    case round =>
      obtain ⟨rfl, rfl⟩ := hrel
      have hltz : decide ((20 : Int) < 2) = false := rfl
      go_wp2
      go_end0
      exact ⟨rfl, R1.out⟩
set_option maxRecDepth 100000 in
theorem sortP_c (w0 w : World) (g cap : Nat) (p q r s : Int) (h : Pc2 w0 g p q r s w) (hpr : r < p) :
    Calls Tryz.prog 33 #[.slice (some ⟨g, 0, none⟩) 2 cap, .func (.func 34) #[] #[]] w fun e w' => e = .returned (.tuple #[]) ∧ Pc2 w0 g r s p q w' := by
  have HB := hidE (stableP_c w0 w g cap p q r s h hpr)
  clear h
  go_enter Tryz.func33, Tryz.ntmps33
  go_wp2_with (go_at_call 54; ((with_reducible refine HB.out.mono ?_); rintro e w1 ⟨rfl, hx⟩))
  go_end0
  exact ⟨rfl, hx⟩
theorem Tryz.infoPc : (Tryz.prog.info? 60).map (fun i => (i.zero, i.size, i.bytes)) = some (some (.agg #[.int .i64 0, .int .i64 0]), 2, 16) := by kernel_rfl
theorem Tryz.infoBoolN : (Tryz.prog.info? 4).map (fun i => (i.zero, i.size, i.bytes)) = some (some (.bool false), 1, 1) := by kernel_rfl
theorem make3 (w : World) : (Instr.makeSlice 81 (.int .i64 3) (.int .i64 3)).run Tryz.prog w = .ok (.slice (some ⟨w.heap.size, 0, none⟩) 3 3) (w.alloc (.cells #[.bool false, .bool false, .bool false] 4)) := by
  obtain ⟨i0, hi, hz0, hz1, hz2⟩ := info_parts Tryz.infoBoolN
  have h := run_make (P := Tryz.prog) w 81 4 i0 (.bool false) Tryz.underlying81 hi hz0 .i64 .i64 3 3 (by omega) (by omega) (by rw [hz2]; omega) (by omega)
  have e : madeCells (Value.bool false).cells (Int.toNat 3 * 1) = #[.bool false, .bool false, .bool false] := by
    show madeCells #[.bool false] 3 = _
    apply Array.ext'
    rw [toList_madeCells_one]; rfl
  rw [h, hz1, e]
  rfl
theorem make1 (w : World) : (Instr.makeSlice 81 (.int .i64 1) (.int .i64 1)).run Tryz.prog w = .ok (.slice (some ⟨w.heap.size, 0, none⟩) 1 1) (w.alloc (.cells #[.bool false] 4)) := by
  obtain ⟨i0, hi, hz0, hz1, hz2⟩ := info_parts Tryz.infoBoolN
  have h := run_make (P := Tryz.prog) w 81 4 i0 (.bool false) Tryz.underlying81 hi hz0 .i64 .i64 1 1 (by omega) (by omega) (by rw [hz2]; omega) (by omega)
  have e : madeCells (Value.bool false).cells (Int.toNat 1 * 1) = #[.bool false] := by
    show madeCells #[.bool false] 1 = _
    apply Array.ext'
    rw [toList_madeCells_one]; rfl
  rw [h, hz1, e]
  rfl
def seenC : Nat → Array Value
  | 0 => #[.bool false, .bool false, .bool false]
  | 1 => #[.bool false, .bool true, .bool false]
  | _ => #[.bool false, .bool true, .bool true]
def rowPc : Nat → List Value
  | 0 => []
  | 1 => [.int .i64 3, .int .i64 5]
  | _ => [.int .i64 3, .int .i64 5, .int .i64 1, .int .i64 4]
theorem pc2_own {w : World} {B c : Nat} {e : TypeId} {a : Option Addr} (h : w.ownsRow B e 2 (.slice a 2 c) 2 (rowPc 2)) : ∃ g, a = some ⟨g, 0, none⟩ ∧ B ≤ g ∧ (e = 60 → Pc2 w g 3 5 1 4 w) := by
  obtain ⟨_, h2 | ⟨g, cap, cur, hv, h3, h4, h5, h6, h7, h8⟩⟩ := h
  · exact absurd h2.2 (by omega)
  · cases hv
    refine ⟨g, rfl, h3, fun he => ⟨⟨(cur.toList.drop 4).toArray, ?_⟩, Below.refl _ _⟩⟩
    subst he
    unfold Blk
    rw [h4]
    congr 2
    apply Array.toList_inj.1
    have := List.take_append_drop 4 cur.toList
    rw [← this, show cur.toList.take 4 = rowPc 2 from h8]
    simp [rowPc]
set_option maxRecDepth 100000 in
set_option maxHeartbeats 8000000 in
/-- Two pieces of the document's example are carried back. -/
theorem back2_c (w : World) (bf bw cf cw : Nat) (hF : Blk w bf #[.int .i64 0, .int .i64 3, .int .i64 1] 3) (hW : Blk w bw #[.int .i64 1, .int .i64 5, .int .i64 2, .int .i64 4] 60) :
    Calls Tryz.prog 14 #[.slice (some ⟨bf, 0, none⟩) 3 cf, .slice (some ⟨bw, 0, none⟩) 2 cw] w fun e w' => ∃ g c, e = .returned (.tuple #[.slice (some ⟨g, 0, none⟩) 2 c, .int .i64 0]) ∧ Pc2 w' g 1 4 3 5 w' ∧ Below w.heap.size w w' := by
  obtain ⟨ix, hix, hz0, hzz, hz4⟩ := info_parts Tryz.infoPc
  have HI := hidE hix; have HZ0 := hidE hz0; have HY1 := hidE hzz; have HY2 := hidE hz4
  have a0 := hF.cell 0; have a1 := hF.cell 1; have a2 := hF.cell 2; have az := hF.lt
  have b0 := hW.cell 0; have b1 := hW.cell 1; have b2 := hW.cell 2; have b3 := hW.cell 3; have bz := hW.lt
  simp at a0 a1 a2 b0 b1 b2 b3
  have HF := hidE hF; have HW := hidE hW
  have hmk := make3
  clear hix hz0 hzz hz4 hF hW
  go_enter Tryz.func14, Tryz.ntmps14
  go_wp2
  go_loopg [7, 15] 2 (fun gh v7 v15 wr => ∃ k : Nat, k ≤ 2 ∧ 2 - k ≤ gh ∧ v15 = .int .i64 k ∧ Blk wr w.heap.size (seenC k) 4 ∧ wr.ownsRow (w.heap.size + 1) 60 2 v7 k (rowPc k) ∧ Below w.heap.size w wr)
  case atStart => exact ⟨0, by omega, by omega, rfl, Blk.made _ _ _, own_nil _ _ _, by (repeat (first | exact Below.refl _ _ | assumption | refine balloc ?_ _ | refine below_drewN ?_ _ | refine bstep (by assumption) ?_ | refine bstep (Past.prop _) ?_ | refine Below.setCell ?_ (by first | exact Nat.le_refl _ | (simp; done) | (simp; omega)) _))⟩
  case round =>
    obtain ⟨k, hk, hgh, rfl, hsn, hown, hbl⟩ := hrel
    have HGH := hidE hgh; have HSN := hidE hsn; have HOW := hidE hown; have HBL := hidE hbl
    obtain ⟨a7, c7, rfl⟩ := own_sli hown
    have A0 := (hbl.cell (p := ⟨bf, 0, none⟩) az).trans a0; have A1 := (hbl.cell (p := ⟨bf, 1, none⟩) az).trans a1; have A2 := (hbl.cell (p := ⟨bf, 2, none⟩) az).trans a2
    have B0 := (hbl.cell (p := ⟨bw, 0, none⟩) bz).trans b0; have B1 := (hbl.cell (p := ⟨bw, 1, none⟩) bz).trans b1; have B2 := (hbl.cell (p := ⟨bw, 2, none⟩) bz).trans b2; have B3 := (hbl.cell (p := ⟨bw, 3, none⟩) bz).trans b3
    have Az := Nat.lt_of_lt_of_le az hbl.size; have Bz := Nat.lt_of_lt_of_le bz hbl.size
    have hws := hbl.size
    have sz := hsn.lt
    clear hgh hsn hown hbl a0 a1 a2 b0 b1 b2 b3
    rcases (show k = 0 ∨ k = 1 ∨ k = 2 by omega) with rfl | rfl | rfl
    · have s1 : wr.cell? ⟨w.heap.size, 1, none⟩ = some (.bool false) := HSN.out.cell 1
      have sf := HSN.out.free 1
      have hsn1 : Blk (wr.setCell ⟨w.heap.size, 1, none⟩ (.bool true)) w.heap.size (seenC 1) 4 := by
        have := HSN.out.set 1 (.bool true)
        simp only [seenC, List.setIfInBounds_toArray, List.set_cons_zero, List.set_cons_succ] at this
        exact this
      have hb1 : Below w.heap.size w (wr.setCell ⟨w.heap.size, 1, none⟩ (.bool true)) := HBL.out.setCell (p := ⟨w.heap.size, 1, none⟩) (Nat.le_refl _) _
      have ho1 := ownsRow_setCell_below HOW.out (a := ⟨w.heap.size, 1, none⟩) (by show w.heap.size < w.heap.size + 1; omega) (.bool true)
      have HS1 := hidE hsn1; have HB1 := hidE hb1; have HO1 := hidE ho1
      clear hsn1 hb1 ho1
      go_upto_region 9 with fail
      obtain ⟨w8, hw8⟩ : ∃ w8, w8 = (wr.setCell ⟨w.heap.size, 1, none⟩ (.bool true)).alloc (.cells #[.int .i64 1, .int .i64 5] 60) := ⟨_, rfl⟩
      rw [← hw8]
      have h18 : Below (wr.setCell ⟨w.heap.size, 1, none⟩ (.bool true)).heap.size (wr.setCell ⟨w.heap.size, 1, none⟩ (.bool true)) w8 := by rw [hw8]; (repeat (first | exact Below.refl _ _ | assumption | refine balloc ?_ _ | refine below_drewN ?_ _ | refine bstep (by assumption) ?_ | refine bstep (Past.prop _) ?_ | refine Below.setCell ?_ (by first | exact Nat.le_refl _ | (simp; done) | (simp; omega)) _))
      have hpc : Blk w8 wr.heap.size #[.int .i64 1, .int .i64 5] 60 := by rw [hw8]; exact Blk.made_at _ _ _ _ (by simp [World.setCell])
      have O8 := hidE (own_below HO1.out h18); have S8 := hidE (HS1.out.past h18); have B8 := hidE (HB1.out.trans (h18.mono HB1.out.size))
      have A1' := (B8.out.cell (p := ⟨bf, 1, none⟩) az).trans ((HBL.out.cell (p := ⟨bf, 1, none⟩) az).symm.trans A1)
      have p0 := hpc.cell 0; have p1 := hpc.cell 1; have pz := hpc.lt
      simp at p0 p1
      have hw8s : w.heap.size + 1 ≤ w8.heap.size := by have := S8.out.lt; omega
      have Az' := Nat.lt_of_lt_of_le az B8.out.size
      have hlt : (1 : Int) < 3 := by omega
      clear hw8 h18 hpc A0 A1 A2 B0 B1 B2 B3 s1 sf
      go_region_law ((refine step_appV rfl (.tmp 40) (.tmp 49) 41 rfl (w.heap.size + 1) 60 ix _ 2 16 Tryz.underlying41 HI.out HZ0.out HY1.out HY2.out rfl (by decide) (.slice a7 0 c7) 0 (rowPc 0) rfl (own_below O8.out (by (repeat (first | exact Below.refl _ _ | assumption | refine balloc ?_ _ | refine below_drewN ?_ _ | refine bstep (by assumption) ?_ | refine bstep (Past.prop _) ?_ | refine Below.setCell ?_ (by first | exact Nat.le_refl _ | (simp; done) | (simp; omega)) _)))) _ 1 [.int .i64 3, .int .i64 5] rfl (srcV_new (Blk.made_at _ _ _ _ (by first | rfl | (simp; done))) rfl (by intro y hy; simp at hy; rcases hy with rfl | rfl <;> rfl)) (by omega) (by omega) (by simp; omega) ?_; intro v' w' own' hg'; obtain ⟨av', cp', rfl⟩ := own_sli own'))
      all_goals
        go_wp2
        go_roundg 1
        case measure => have := HGH.out; omega
        case rel =>
          have hbb := (show Below w.heap.size w w' from Below.grown (B8.out.trans ((show Below w8.heap.size w8 _ from by (repeat (first | exact Below.refl _ _ | assumption | refine balloc ?_ _ | refine below_drewN ?_ _ | refine bstep (by assumption) ?_ | refine bstep (Past.prop _) ?_ | refine Below.setCell ?_ (by first | exact Nat.le_refl _ | (simp; done) | (simp; omega)) _))).mono B8.out.size)) hg' (by have := B8.out.size; simp; omega) (fun j hj => by have := own_block O8.out hj; omega))
          have hss := ((S8.out.past (show Below w8.heap.size w8 _ from by (repeat (first | exact Below.refl _ _ | assumption | refine balloc ?_ _ | refine below_drewN ?_ _ | refine bstep (by assumption) ?_ | refine bstep (Past.prop _) ?_ | refine Below.setCell ?_ (by first | exact Nat.le_refl _ | (simp; done) | (simp; omega)) _)))).grown hg' (fun e => by have := own_block O8.out e.symm; omega) : Blk w' w.heap.size (seenC 1) 4)
          exact ⟨1, by omega, by omega, rfl, hss, own', hbb⟩
    · have s1 : wr.cell? ⟨w.heap.size, 2, none⟩ = some (.bool false) := HSN.out.cell 2
      have sf := HSN.out.free 2
      have hsn1 : Blk (wr.setCell ⟨w.heap.size, 2, none⟩ (.bool true)) w.heap.size (seenC 2) 4 := by
        have := HSN.out.set 2 (.bool true)
        simp only [seenC, List.setIfInBounds_toArray, List.set_cons_zero, List.set_cons_succ] at this
        exact this
      have hb1 : Below w.heap.size w (wr.setCell ⟨w.heap.size, 2, none⟩ (.bool true)) := HBL.out.setCell (p := ⟨w.heap.size, 2, none⟩) (Nat.le_refl _) _
      have ho1 := ownsRow_setCell_below HOW.out (a := ⟨w.heap.size, 2, none⟩) (by show w.heap.size < w.heap.size + 1; omega) (.bool true)
      have HS1 := hidE hsn1; have HB1 := hidE hb1; have HO1 := hidE ho1
      clear hsn1 hb1 ho1
      go_upto_region 9 with fail
      obtain ⟨w8, hw8⟩ : ∃ w8, w8 = (wr.setCell ⟨w.heap.size, 2, none⟩ (.bool true)).alloc (.cells #[.int .i64 2, .int .i64 4] 60) := ⟨_, rfl⟩
      rw [← hw8]
      have h18 : Below (wr.setCell ⟨w.heap.size, 2, none⟩ (.bool true)).heap.size (wr.setCell ⟨w.heap.size, 2, none⟩ (.bool true)) w8 := by rw [hw8]; (repeat (first | exact Below.refl _ _ | assumption | refine balloc ?_ _ | refine below_drewN ?_ _ | refine bstep (by assumption) ?_ | refine bstep (Past.prop _) ?_ | refine Below.setCell ?_ (by first | exact Nat.le_refl _ | (simp; done) | (simp; omega)) _))
      have hpc : Blk w8 wr.heap.size #[.int .i64 2, .int .i64 4] 60 := by rw [hw8]; exact Blk.made_at _ _ _ _ (by simp [World.setCell])
      have O8 := hidE (own_below HO1.out h18); have S8 := hidE (HS1.out.past h18); have B8 := hidE (HB1.out.trans (h18.mono HB1.out.size))
      have A2' := (B8.out.cell (p := ⟨bf, 2, none⟩) az).trans ((HBL.out.cell (p := ⟨bf, 2, none⟩) az).symm.trans A2)
      have p0 := hpc.cell 0; have p1 := hpc.cell 1; have pz := hpc.lt
      simp at p0 p1
      have hw8s : w.heap.size + 1 ≤ w8.heap.size := by have := S8.out.lt; omega
      have Az' := Nat.lt_of_lt_of_le az B8.out.size
      have hlt : (2 : Int) < 3 := by omega
      clear hw8 h18 hpc A0 A1 A2 B0 B1 B2 B3 s1 sf
      go_region_law ((refine step_appV rfl (.tmp 40) (.tmp 49) 41 rfl (w.heap.size + 1) 60 ix _ 2 16 Tryz.underlying41 HI.out HZ0.out HY1.out HY2.out rfl (by decide) (.slice a7 1 c7) 1 (rowPc 1) rfl (own_below O8.out (by (repeat (first | exact Below.refl _ _ | assumption | refine balloc ?_ _ | refine below_drewN ?_ _ | refine bstep (by assumption) ?_ | refine bstep (Past.prop _) ?_ | refine Below.setCell ?_ (by first | exact Nat.le_refl _ | (simp; done) | (simp; omega)) _)))) _ 1 [.int .i64 1, .int .i64 4] rfl (srcV_new (Blk.made_at _ _ _ _ (by first | rfl | (simp; done))) rfl (by intro y hy; simp at hy; rcases hy with rfl | rfl <;> rfl)) (by omega) (by omega) (by simp; omega) ?_; intro v' w' own' hg'; obtain ⟨av', cp', rfl⟩ := own_sli own'))
      all_goals
        go_wp2
        go_roundg 0
        case measure => have := HGH.out; omega
        case rel =>
          have hbb := (show Below w.heap.size w w' from Below.grown (B8.out.trans ((show Below w8.heap.size w8 _ from by (repeat (first | exact Below.refl _ _ | assumption | refine balloc ?_ _ | refine below_drewN ?_ _ | refine bstep (by assumption) ?_ | refine bstep (Past.prop _) ?_ | refine Below.setCell ?_ (by first | exact Nat.le_refl _ | (simp; done) | (simp; omega)) _))).mono B8.out.size)) hg' (by have := B8.out.size; simp; omega) (fun j hj => by have := own_block O8.out hj; omega))
          have hss := ((S8.out.past (show Below w8.heap.size w8 _ from by (repeat (first | exact Below.refl _ _ | assumption | refine balloc ?_ _ | refine below_drewN ?_ _ | refine bstep (by assumption) ?_ | refine bstep (Past.prop _) ?_ | refine Below.setCell ?_ (by first | exact Nat.le_refl _ | (simp; done) | (simp; omega)) _)))).grown hg' (fun e => by have := own_block O8.out e.symm; omega) : Blk w' w.heap.size (seenC 2) 4)
          exact ⟨2, by omega, by omega, rfl, hss, own', hbb⟩
    · obtain ⟨g, hv, hgB, hpc⟩ := pc2_own HOW.out
      cases hv
      have HSO := hidE (sortP_c wr wr g c7 3 5 1 4 (hpc rfl) (by omega))
      clear hpc A0 A1 A2 B0 B1 B2 B3
      go_wp2_with (go_at_call 33; ((with_reducible refine HSO.out.mono ?_); rintro e w9 ⟨rfl, hp9⟩))
      have HP9 := hidE hp9
      clear hp9
      go_wp2
      refine bodyPost_ret (v := .tuple #[.slice (some ⟨g, 0, none⟩) 2 c7, .int .i64 0]) (by simp [results, Tryz.results14, go_sem]) rfl ⟨g, c7, rfl, ⟨HP9.out.here, Below.refl _ _⟩, HBL.out.trans (HP9.out.low.mono (by omega))⟩
set_option maxRecDepth 100000 in
set_option maxHeartbeats 8000000 in
/-- A piece of no part is refused. -/
theorem back1_c (w : World) (bf bw cf cw : Nat) (_hF : Blk w bf #[.int .i64 0] 3) (hW : Blk w bw #[.int .i64 1, .int .i64 0] 60) :
    Calls Tryz.prog 14 #[.slice (some ⟨bf, 0, none⟩) 1 cf, .slice (some ⟨bw, 0, none⟩) 1 cw] w fun e w' => e = .returned (.tuple #[.slice none 0 0, .int .i64 2]) ∧ Below w.heap.size w w' := by
  have b0 := hW.cell 0; have b1 := hW.cell 1; have bz := hW.lt
  simp at b0 b1
  have hmk := make1
  clear _hF hW
  go_enter Tryz.func14, Tryz.ntmps14
  go_wp2
  go_loopg [7, 15] 0 (fun gh v7 v15 wr => v15 = .int .i64 0 ∧ Below w.heap.size w wr)
  case atStart => exact ⟨rfl, by (repeat (first | exact Below.refl _ _ | assumption | refine balloc ?_ _ | refine below_drewN ?_ _ | refine bstep (by assumption) ?_ | refine bstep (Past.prop _) ?_ | refine Below.setCell ?_ (by first | exact Nat.le_refl _ | (simp; done) | (simp; omega)) _))⟩
  case round =>
    obtain ⟨rfl, hbl⟩ := hrel
    have HBL := hidE hbl
    have B0 := (hbl.cell (p := ⟨bw, 0, none⟩) bz).trans b0; have B1 := (hbl.cell (p := ⟨bw, 1, none⟩) bz).trans b1
    have Bz := Nat.lt_of_lt_of_le bz hbl.size
    clear hbl b0 b1
    go_wp2
    refine bodyPost_ret (v := .tuple #[.slice none 0 0, .int .i64 2]) (by simp [results, Tryz.results14, go_sem]) rfl ⟨rfl, ?_⟩
    exact HBL.out.trans ((show Below wr.heap.size wr _ from by (repeat (first | exact Below.refl _ _ | assumption | refine balloc ?_ _ | refine below_drewN ?_ _ | refine bstep (by assumption) ?_ | refine bstep (Past.prop _) ?_ | refine Below.setCell ?_ (by first | exact Nat.le_refl _ | (simp; done) | (simp; omega)) _))).mono HBL.out.size)
end Go.Proofs.YtioalnncjahlnaaGreatDoor

namespace Go.Proofs.YtioalnncjahlnaaGreatDoor
open Go.ChangeShapes Go.WideShapes Go.ChangeAt Go.RowKit
attribute [local irreducible] Go.Calls

set_option maxHeartbeats 1000000 in
theorem rsame7_c (d e : Df) (a a2 : Option Addr) (cap cap2 : Nat) (w : World) (hl : d.T.length ≤ 9223372036854775807) (hl2 : e.T.length ≤ 9223372036854775807) (hA : ArgP w a d.T) (hA2 : ArgP w a2 e.T) :
    Calls Tryz.prog 44 #[defV d.fr d.to' a d.T.length cap, defV e.fr e.to' a2 e.T.length cap2] w fun x w' => x = .returned (.bool (sameD d e)) ∧ Below w.heap.size w w' := by
  have HA := hidE hA; have HA2 := hidE hA2
  clear hA hA2
  obtain ⟨f1, t1, l⟩ := d
  obtain ⟨f2, t2, r⟩ := e
  simp only at HA HA2 hl hl2
  show Calls _ _ #[defV f1 t1 a l.length cap, defV f2 t2 a2 r.length cap2] _ _
  have hno : f1 ≠ f2 ∨ t1 ≠ t2 ∨ l.length ≠ r.length → sameD ⟨f1, t1, l⟩ ⟨f2, t2, r⟩ = false := fun h => decide_eq_false fun e => by
    rw [df_iff] at e
    obtain ⟨e1, e2, e3⟩ := e
    simp only at e1 e2 e3
    rcases h with h | h | h
    · exact h e1
    · exact h e2
    · exact h (congrArg List.length e3)
  by_cases c1 : f1 = f2
  · by_cases c2 : t1 = t2
    · by_cases c3 : l.length = r.length
      · have b1 : (f1 != f2) = false := by rw [bne_eq_false_iff_eq]; exact c1
        have b2 : (t1 != t2) = false := by rw [bne_eq_false_iff_eq]; exact c2
        have b3 : ((l.length : Int) != (r.length : Int)) = false := by rw [bne_eq_false_iff_eq]; omega
        have HS := hidE (fun (i : Nat) (hi : i < l.length) (h : l.getD i pr0 ≠ r.getD i pr0) => show sameD ⟨f1, t1, l⟩ ⟨f2, t2, r⟩ = false from decide_eq_false fun e => by
          rw [df_iff] at e
          have e3 : l = r := e.2.2
          exact h (by rw [e3]))
        have HT := hidE (fun (h : ∀ i, i < l.length → l.getD i pr0 = r.getD i pr0) => show sameD ⟨f1, t1, l⟩ ⟨f2, t2, r⟩ = true from decide_eq_true (df_iff.2 ⟨c1, c2, list_extP c3 h⟩))
        have HC := hidE c3
        clear hno c1 c2 c3
        generalize sameD ⟨f1, t1, l⟩ ⟨f2, t2, r⟩ = ans at *
        go_enter Tryz.func44, Tryz.ntmps44
        go_wp2
        go_loopg [5] l.length (fun g vi wr => ∃ k : Nat, k ≤ l.length ∧ l.length - k ≤ g ∧ vi = .int .i64 k ∧ (∀ i, i < k → l.getD i pr0 = r.getD i pr0) ∧ Below w.heap.size w wr ∧
          Blk wr w.heap.size #[.int .i64 f1, .int .i64 t1, .slice a l.length cap] 24 ∧ Blk wr (w.heap.size + 1) #[.int .i64 f2, .int .i64 t2, .slice a2 r.length cap2] 24)
        case atStart => exact ⟨0, Nat.zero_le _, Nat.le_refl _, rfl, fun i hi => by omega, by (repeat (first | exact Below.refl _ _ | assumption | refine balloc ?_ _ | refine below_drewN ?_ _ | refine bstep (by assumption) ?_ | refine bstep (Past.prop _) ?_ | refine Below.setCell ?_ (by first | exact Nat.le_refl _ | (simp; done) | (simp; omega)) _)), (Blk.made _ _ _).alloc _, Blk.made_at _ _ _ _ (by simp)⟩
        case round =>
          obtain ⟨k, hk, hg, rfl, hs, hb, hB1, hB2⟩ := hrel
          have HSS := hidE hs; have HB := hidE hb; have HB1 := hidE hB1; have HB2 := hidE hB2; have HG := hidE hg
          have p0 := hB1.cell 2; have pz := hB1.lt; have p1 := hB2.cell 2; have pz1 := hB2.lt
          simp at p0 p1
          clear hs hb hB1 hB2 hg
          obtain ⟨wo, hwo⟩ : ∃ wo : World, wo = wr := ⟨_, rfl⟩
          by_cases hlt : k < l.length
          · have hltr : k < r.length := by have := HC.out; omega
            obtain ⟨p, off, rfl, hpp, hc⟩ := (HA.out.past HB.out) (by omega)
            obtain ⟨c0, c1, c2, c3, c4⟩ := hc.get hlt
            obtain ⟨p', off', rfl, hpp', hc'⟩ := (HA2.out.past HB.out) (by omega)
            obtain ⟨d0, d1, d2, d3, d4⟩ := hc'.get hltr
            have q1 : decide ((k : Int) < (l.length : Int)) = true := decide_eq_true (by omega)
            have q2 : decide (k < l.length) = true := decide_eq_true hlt
            have q3 : (k : Int) < (r.length : Int) := by omega
            clear hc hc'
            by_cases hne0 : l.getD k pr0 = r.getD k pr0
            · rw [← hne0] at d0 d1 d2 d3 d4
              have HX := hidE (show ∀ i, i < k + 1 → l.getD i pr0 = r.getD i pr0 from fun i hi => by
                by_cases c : i = k
                · rw [c]; exact hne0
                · exact HSS.out i (by omega))
              clear hne0
              generalize l.getD k pr0 = x at *
              go_wp2
              go_quiet (fail)
              go_wp2
              go_roundg (l.length - (k + 1))
              case measure => have := HG.out; omega
              case rel => exact ⟨k + 1, by omega, Nat.le_refl _, by go_num, HX.out, by have := HB.out; (repeat (first | exact Below.refl _ _ | assumption | refine balloc ?_ _ | refine below_drewN ?_ _ | refine bstep (by assumption) ?_ | refine bstep (Past.prop _) ?_ | refine Below.setCell ?_ (by first | exact Nat.le_refl _ | (simp; done) | (simp; omega)) _)), HB1.out.drew _, HB2.out.drew _⟩
            · have HX := hidE (HS.out k hlt hne0)
              generalize l.getD k pr0 = x at *
              generalize r.getD k pr0 = y at *
              by_cases n0 : x.kind = y.kind
              · rw [← n0] at d0
                by_cases n1 : x.n = y.n
                · rw [← n1] at d1
                  by_cases n2 : x.g = y.g
                  · rw [← n2] at d2
                    by_cases n3 : x.d = y.d
                    · rw [← n3] at d3
                      by_cases n4 : x.kids = y.kids
                      · rw [← n4] at d4
                        exact absurd (prt_iff.2 ⟨n0, n1, n2, n3, n4⟩) hne0
                      · have b9 : (x.kids == y.kids) = false := beq_eq_false_iff_ne.2 (by omega)
                        clear hne0
                        go_wp2
                        go_quiet (fail)
                        go_wp2
                        go_ret
                        exact ⟨ret_bool HX.out.symm, by have := HB.out; (repeat (first | exact Below.refl _ _ | assumption | refine balloc ?_ _ | refine below_drewN ?_ _ | refine bstep (by assumption) ?_ | refine bstep (Past.prop _) ?_ | refine Below.setCell ?_ (by first | exact Nat.le_refl _ | (simp; done) | (simp; omega)) _))⟩
                    · have b8 : (x.d == y.d) = false := beq_eq_false_iff_ne.2 (by omega)
                      clear hne0
                      go_wp2
                      go_quiet (fail)
                      go_wp2
                      go_ret
                      exact ⟨ret_bool HX.out.symm, by have := HB.out; (repeat (first | exact Below.refl _ _ | assumption | refine balloc ?_ _ | refine below_drewN ?_ _ | refine bstep (by assumption) ?_ | refine bstep (Past.prop _) ?_ | refine Below.setCell ?_ (by first | exact Nat.le_refl _ | (simp; done) | (simp; omega)) _))⟩
                  · have b7 : (((x.g : Nat) : Int) == ((y.g : Nat) : Int)) = false := beq_eq_false_iff_ne.2 (by omega)
                    have b7' : (x.g == y.g) = false := beq_eq_false_iff_ne.2 (by omega)
                    clear hne0
                    go_wp2
                    go_quiet (fail)
                    go_wp2
                    go_ret
                    exact ⟨ret_bool HX.out.symm, by have := HB.out; (repeat (first | exact Below.refl _ _ | assumption | refine balloc ?_ _ | refine below_drewN ?_ _ | refine bstep (by assumption) ?_ | refine bstep (Past.prop _) ?_ | refine Below.setCell ?_ (by first | exact Nat.le_refl _ | (simp; done) | (simp; omega)) _))⟩
                · have b6 : (((x.n : Nat) : Int) == ((y.n : Nat) : Int)) = false := beq_eq_false_iff_ne.2 (by omega)
                  have b6' : (x.n == y.n) = false := beq_eq_false_iff_ne.2 (by omega)
                  clear hne0
                  go_wp2
                  go_quiet (fail)
                  go_wp2
                  go_ret
                  exact ⟨ret_bool HX.out.symm, by have := HB.out; (repeat (first | exact Below.refl _ _ | assumption | refine balloc ?_ _ | refine below_drewN ?_ _ | refine bstep (by assumption) ?_ | refine bstep (Past.prop _) ?_ | refine Below.setCell ?_ (by first | exact Nat.le_refl _ | (simp; done) | (simp; omega)) _))⟩
              · have b5 : (((x.kind : Nat) : Int) == ((y.kind : Nat) : Int)) = false := beq_eq_false_iff_ne.2 (by omega)
                have b5' : (x.kind == y.kind) = false := beq_eq_false_iff_ne.2 (by omega)
                clear hne0
                go_wp2
                go_quiet (fail)
                go_wp2
                go_ret
                exact ⟨ret_bool HX.out.symm, by have := HB.out; (repeat (first | exact Below.refl _ _ | assumption | refine balloc ?_ _ | refine below_drewN ?_ _ | refine bstep (by assumption) ?_ | refine bstep (Past.prop _) ?_ | refine Below.setCell ?_ (by first | exact Nat.le_refl _ | (simp; done) | (simp; omega)) _))⟩
          · have q1 : decide ((k : Int) < (l.length : Int)) = false := decide_eq_false (by omega)
            have q2 : decide (k < l.length) = false := decide_eq_false hlt
            have HX := hidE (HT.out (fun i hi => HSS.out i (by omega)))
            go_wp2
            go_ret
            exact ⟨ret_bool HX.out.symm, HB.out⟩
      · have HN := hidE (hno (.inr (.inr c3)))
        have b1 : (f1 != f2) = false := by rw [bne_eq_false_iff_eq]; exact c1
        have b2 : (t1 != t2) = false := by rw [bne_eq_false_iff_eq]; exact c2
        have b3 : ((l.length : Int) != (r.length : Int)) = true := bne_iff_ne.2 (by omega)
        clear hno c1 c2 c3
        rw [HN.out]
        go_enter Tryz.func44, Tryz.ntmps44
        go_wp2
        go_ret
        exact ⟨rfl, by (repeat (first | exact Below.refl _ _ | assumption | refine balloc ?_ _ | refine below_drewN ?_ _ | refine bstep (by assumption) ?_ | refine bstep (Past.prop _) ?_ | refine Below.setCell ?_ (by first | exact Nat.le_refl _ | (simp; done) | (simp; omega)) _))⟩
    · have HN := hidE (hno (.inr (.inl c2)))
      have b1 : (f1 != f2) = false := by rw [bne_eq_false_iff_eq]; exact c1
      have b2 : (t1 != t2) = true := bne_iff_ne.2 c2
      clear hno c1 c2
      rw [HN.out]
      go_enter Tryz.func44, Tryz.ntmps44
      go_wp2
      go_ret
      exact ⟨rfl, by (repeat (first | exact Below.refl _ _ | assumption | refine balloc ?_ _ | refine below_drewN ?_ _ | refine bstep (by assumption) ?_ | refine bstep (Past.prop _) ?_ | refine Below.setCell ?_ (by first | exact Nat.le_refl _ | (simp; done) | (simp; omega)) _))⟩
  · have HN := hidE (hno (.inl c1))
    have b1 : (f1 != f2) = true := bne_iff_ne.2 c1
    clear hno c1
    rw [HN.out]
    go_enter Tryz.func44, Tryz.ntmps44
    go_wp2
    go_ret
    exact ⟨rfl, by (repeat (first | exact Below.refl _ _ | assumption | refine balloc ?_ _ | refine below_drewN ?_ _ | refine bstep (by assumption) ?_ | refine bstep (Past.prop _) ?_ | refine Below.setCell ?_ (by first | exact Nat.le_refl _ | (simp; done) | (simp; omega)) _))⟩
end Go.Proofs.YtioalnncjahlnaaGreatDoor

namespace Go.Proofs.YtioalnncjahlnaaGreatDoor
open Go.ChangeShapes Go.WideShapes Go.ChangeAt Go.RowKit
attribute [local irreducible] Go.Calls

set_option maxRecDepth 100000 in
theorem atom9_c (d : Int) (w : World) : Calls Tryz.prog 21 #[.int .i64 d] w fun e w' => e = .returned (prtV ⟨0, 1, 1, d, 0⟩) ∧ Below w.heap.size w w' := by
  go_enter Tryz.func21, Tryz.ntmps21
  go_wp2
  refine bodyPost_ret (v := prtV ⟨0, 1, 1, d, 0⟩) (by simp [results, Tryz.results21, go_sem]) rfl ⟨rfl, by (repeat (first | exact Below.refl _ _ | assumption | refine balloc ?_ _ | refine below_drewN ?_ _ | refine bstep (by assumption) ?_ | refine bstep (Past.prop _) ?_ | refine Below.setCell ?_ (by first | exact Nat.le_refl _ | (simp; done) | (simp; omega)) _))⟩
set_option maxRecDepth 100000 in
theorem ofl9_c (k : Nat) (z : Int) (w : World) : Calls Tryz.prog 10 #[.int .u8 k, .int .i64 z] w fun e w' => e = .returned (prtV ⟨k, 0, 0, 0, z⟩) ∧ Below w.heap.size w w' := by
  go_enter Tryz.func10, Tryz.ntmps10
  go_wp2
  refine bodyPost_ret (v := prtV ⟨k, 0, 0, 0, z⟩) (by simp [results, Tryz.results10, go_sem]) rfl ⟨rfl, by (repeat (first | exact Below.refl _ _ | assumption | refine balloc ?_ _ | refine below_drewN ?_ _ | refine bstep (by assumption) ?_ | refine bstep (Past.prop _) ?_ | refine Below.setCell ?_ (by first | exact Nat.le_refl _ | (simp; done) | (simp; omega)) _))⟩
set_option maxHeartbeats 4000000 in
set_option maxRecDepth 100000 in
theorem becomes_c {F : Fst} {l want : List Prt} {k : List Nat} (h : Ex F l want k) (a1 a2 a3 : Option Addr) (c1 c2 c3 : Nat) (w : World) (hA1 : ArgP w a1 l) (hA2 : ArgP w a2 want) (hA3 : ArgK .i64 w a3 (natsI k)) (hT : Tab w) :
    Calls Tryz.prog 22 #[.slice a1 l.length c1, .slice a2 want.length c2, .slice a3 k.length c3] w fun e w' => e = .returned (.bool true) ∧ Below w.heap.size w w' := by
  have HN := hidE (norm_c 0 9 F a1 c1 l.length (by rw [h.flat]) w (by rw [h.flat]; exact hA1) h.chk h.kok h.len h.fit h.siz hT (by omega) (by omega))
  rw [h.nf, h.frm] at HN
  have hw64 : want.length ≤ 64 := by rw [← h.nf, flat_len]; have := (plain_siz (lab F 0)).1; rw [(lab_len F 0).2] at this; have := h.siz; omega
  have hk64 : k.length ≤ 64 := by rw [← h.frm, fromF_len]; have := (plain_siz (lab F 0)).1; rw [(lab_len F 0).2] at this; have := h.siz; omega
  have HA2 := hidE hA2; have HA3 := hidE hA3
  have HS7 := hidE (fun (a a' : Option Addr) (c c' : Nat) (w' : World) (h1 : ArgP w' a want) (h2 : ArgP w' a' want) => show Calls Tryz.prog 44 #[defV 0 9 a want.length c, defV 0 9 a' want.length c'] w' fun x w2 => x = .returned (.bool true) ∧ Below w'.heap.size w' w2 from by
    have := rsame7_c ⟨0, 9, want⟩ ⟨0, 9, want⟩ a a' c c' w' (by show want.length ≤ _; omega) (by show want.length ≤ _; omega) h1 h2
    rw [show sameD ⟨0, 9, want⟩ ⟨0, 9, want⟩ = true from decide_eq_true rfl] at this
    exact this)
  have HS8 := hidE (fun (a a' : Option Addr) (c c' : Nat) (w' : World) (h1 : ArgK .i64 w' a (natsI k)) (h2 : ArgK .i64 w' a' (natsI k)) => show Calls Tryz.prog 45 #[.slice a k.length c, .slice a' k.length c'] w' fun x w2 => x = .returned (.bool true) ∧ Below w'.heap.size w' w2 from by
    have := rsame8_c k k a a' c c' w' (by omega) (by omega) h1 h2
    rw [show sameN k k = true from by simp [sameN]] at this
    exact this)
  clear hA1 hA2 hA3 hT h
  go_enter Tryz.func22, Tryz.ntmps22
  go_wp2_with fail
  ((with_reducible refine HN.out.mono ?_); rintro e w1 ⟨b1, b2, d1, d2, rfl, hd1, hd2, hB1, hB2, hb1⟩)
  have HB1 := hidE (hB1.past (show Below w1.heap.size w1 (w1.alloc (.cells #[.int .i64 0, .int .i64 9, .slice b1 want.length d1] 24)) from by (repeat (first | exact Below.refl _ _ | assumption | refine balloc ?_ _ | refine below_drewN ?_ _ | refine bstep (by assumption) ?_ | refine bstep (Past.prop _) ?_ | refine Below.setCell ?_ (by first | exact Nat.le_refl _ | (simp; done) | (simp; omega)) _))))
  have HB2 := hidE (hB2.past (show Below w1.heap.size w1 (w1.alloc (.cells #[.int .i64 0, .int .i64 9, .slice b1 want.length d1] 24)) from by (repeat (first | exact Below.refl _ _ | assumption | refine balloc ?_ _ | refine below_drewN ?_ _ | refine bstep (by assumption) ?_ | refine bstep (Past.prop _) ?_ | refine Below.setCell ?_ (by first | exact Nat.le_refl _ | (simp; done) | (simp; omega)) _))))
  have HBL := hidE hb1
  clear hB1 hB2 hb1 HN
  go_wp2_with fail
  ((with_reducible refine (HS7.out _ _ _ _ _ HB1.out ?ha2).mono ?_); (case ha2 => exact (HA2.out.past HBL.out).past (by (repeat (first | exact Below.refl _ _ | assumption | refine balloc ?_ _ | refine below_drewN ?_ _ | refine bstep (by assumption) ?_ | refine bstep (Past.prop _) ?_ | refine Below.setCell ?_ (by first | exact Nat.le_refl _ | (simp; done) | (simp; omega)) _)))); rintro e w2 ⟨rfl, hb2⟩)
  have H2 := hidE hb2
  clear hb2
  go_wp2_with fail
  ((with_reducible refine (HS8.out _ _ _ _ _ ?hb ?ha3).mono ?_); (case hb => exact HB2.out.past H2.out); (case ha3 => exact ((HA3.out.past HBL.out).past (by (repeat (first | exact Below.refl _ _ | assumption | refine balloc ?_ _ | refine below_drewN ?_ _ | refine bstep (by assumption) ?_ | refine bstep (Past.prop _) ?_ | refine Below.setCell ?_ (by first | exact Nat.le_refl _ | (simp; done) | (simp; omega)) _)))).past H2.out); rintro e w3 ⟨rfl, hb3⟩)
  have H3 := hidE hb3
  clear hb3
  go_wp2
  go_ret
  exact ⟨rfl, ((HBL.out.trans ((show Below w1.heap.size w1 _ from by (repeat (first | exact Below.refl _ _ | assumption | refine balloc ?_ _ | refine below_drewN ?_ _ | refine bstep (by assumption) ?_ | refine bstep (Past.prop _) ?_ | refine Below.setCell ?_ (by first | exact Nat.le_refl _ | (simp; done) | (simp; omega)) _))).mono HBL.out.size)).trans (H2.out.mono (by have := HBL.out.size; simp; omega))).trans (H3.out.mono (by have := HBL.out.size; have := H2.out.size; simp at this; omega))⟩
set_option maxRecDepth 100000 in
/-- The pieces that the head asks are the example's. -/
theorem samep_c (g c bw cw : Nat) (w : World) (h : Pc2 w g 1 4 3 5 w) (hW : Blk w bw #[.int .i64 1, .int .i64 4, .int .i64 3, .int .i64 5] 60) :
    Calls Tryz.prog 23 #[.slice (some ⟨g, 0, none⟩) 2 c, .slice (some ⟨bw, 0, none⟩) 2 cw] w fun e w' => e = .returned (.bool true) ∧ Below w.heap.size w w' := by
  obtain ⟨a0, a1, a2, a3⟩ := h.cells
  have az := h.lt
  have b0 := hW.cell 0; have b1 := hW.cell 1; have b2 := hW.cell 2; have b3 := hW.cell 3; have bz := hW.lt
  simp at b0 b1 b2 b3
  clear h hW
  go_enter Tryz.func23, Tryz.ntmps23
  go_wp2
  go_loopg [5] 2 (fun gh v5 wr => ∃ k : Nat, k ≤ 2 ∧ 2 - k ≤ gh ∧ v5 = .int .i64 k ∧ Below w.heap.size w wr)
  case atStart => exact ⟨0, by omega, by omega, rfl, Below.refl _ _⟩
  case round =>
    obtain ⟨k, hk, hgh, rfl, hbl⟩ := hrel
    have A0 := (hbl.cell (p := ⟨g, 0, none⟩) az).trans a0; have A1 := (hbl.cell (p := ⟨g, 1, none⟩) az).trans a1; have A2 := (hbl.cell (p := ⟨g, 2, none⟩) az).trans a2; have A3 := (hbl.cell (p := ⟨g, 3, none⟩) az).trans a3
    have B0 := (hbl.cell (p := ⟨bw, 0, none⟩) bz).trans b0; have B1 := (hbl.cell (p := ⟨bw, 1, none⟩) bz).trans b1; have B2 := (hbl.cell (p := ⟨bw, 2, none⟩) bz).trans b2; have B3 := (hbl.cell (p := ⟨bw, 3, none⟩) bz).trans b3
    have Az := Nat.lt_of_lt_of_le az hbl.size; have Bz := Nat.lt_of_lt_of_le bz hbl.size
    have HBL := hidE hbl; have HGH := hidE hgh
    clear hbl hgh a0 a1 a2 a3 b0 b1 b2 b3
    rcases (show k = 0 ∨ k = 1 ∨ k = 2 by omega) with rfl | rfl | rfl
    · go_wp2
      go_quiet (fail)
      go_wp2
      go_roundg 1
      case measure => have := HGH.out; omega
      case rel => exact ⟨1, by omega, by omega, rfl, HBL.out.trans ((show Below wr.heap.size wr _ from by (repeat (first | exact Below.refl _ _ | assumption | refine balloc ?_ _ | refine below_drewN ?_ _ | refine bstep (by assumption) ?_ | refine bstep (Past.prop _) ?_ | refine Below.setCell ?_ (by first | exact Nat.le_refl _ | (simp; done) | (simp; omega)) _))).mono HBL.out.size)⟩
    · go_wp2
      go_quiet (fail)
      go_wp2
      go_roundg 0
      case measure => have := HGH.out; omega
      case rel => exact ⟨2, by omega, by omega, rfl, HBL.out.trans ((show Below wr.heap.size wr _ from by (repeat (first | exact Below.refl _ _ | assumption | refine balloc ?_ _ | refine below_drewN ?_ _ | refine bstep (by assumption) ?_ | refine bstep (Past.prop _) ?_ | refine Below.setCell ?_ (by first | exact Nat.le_refl _ | (simp; done) | (simp; omega)) _))).mono HBL.out.size)⟩
    · go_wp2
      go_ret
      exact ⟨rfl, HBL.out⟩
end Go.Proofs.YtioalnncjahlnaaGreatDoor

namespace Go.Proofs.YtioalnncjahlnaaGreatDoor
open Go.ChangeShapes Go.WideShapes Go.ChangeAt Go.RowKit
attribute [local irreducible] Go.Calls

theorem argK_blk {w : World} {p : Nat} {l : List Int} {t : TypeId} (h : Blk w p (cellsK .i64 l).toArray t) : ArgK .i64 w (some ⟨p, 0, none⟩) l := fun _ =>
  ⟨p, 0, rfl, h.lt, fun i hi => by
    rw [Nat.zero_add, h.cell i]
    simpa using cellsK_get (k := .i64) hi⟩
set_option maxRecDepth 100000 in
theorem ofl9_1_2 (w : World) : Calls Tryz.prog 10 #[.int .u8 1, .int .i64 2] w fun e w' => e = .returned (prtV ⟨1, 0, 0, 0, 2⟩) ∧ Below w.heap.size w w' := ofl9_c 1 2 w
set_option maxRecDepth 100000 in
theorem ofl9_1_3 (w : World) : Calls Tryz.prog 10 #[.int .u8 1, .int .i64 3] w fun e w' => e = .returned (prtV ⟨1, 0, 0, 0, 3⟩) ∧ Below w.heap.size w w' := ofl9_c 1 3 w
set_option maxRecDepth 100000 in
theorem ofl9_3_2 (w : World) : Calls Tryz.prog 10 #[.int .u8 3, .int .i64 2] w fun e w' => e = .returned (prtV ⟨3, 0, 0, 0, 2⟩) ∧ Below w.heap.size w w' := ofl9_c 3 2 w
set_option maxRecDepth 100000 in
theorem ofl9_4_2 (w : World) : Calls Tryz.prog 10 #[.int .u8 4, .int .i64 2] w fun e w' => e = .returned (prtV ⟨4, 0, 0, 0, 2⟩) ∧ Below w.heap.size w w' := ofl9_c 4 2 w
set_option maxRecDepth 100000 in
theorem ofl9_2_1 (w : World) : Calls Tryz.prog 10 #[.int .u8 2, .int .i64 1] w fun e w' => e = .returned (prtV ⟨2, 0, 0, 0, 1⟩) ∧ Below w.heap.size w w' := ofl9_c 2 1 w
set_option maxRecDepth 100000 in
theorem ofl9_1_1 (w : World) : Calls Tryz.prog 10 #[.int .u8 1, .int .i64 1] w fun e w' => e = .returned (prtV ⟨1, 0, 0, 0, 1⟩) ∧ Below w.heap.size w w' := ofl9_c 1 1 w
set_option maxRecDepth 100000 in
theorem ofl9_4_1 (w : World) : Calls Tryz.prog 10 #[.int .u8 4, .int .i64 1] w fun e w' => e = .returned (prtV ⟨4, 0, 0, 0, 1⟩) ∧ Below w.heap.size w w' := ofl9_c 4 1 w
/-- What the head keeps: the two atoms in their blocks. -/
def Hd9 (w : World) (p : Nat) (wx : World) : Prop := Blk wx p #[.int .u8 exA.kind, .int .u32 exA.n, .int .u32 exA.g, .int .i64 exA.d, .int .i64 exA.kids] 35 ∧ Blk wx (p + 1) #[.int .u8 exB.kind, .int .u32 exB.n, .int .u32 exB.g, .int .i64 exB.d, .int .i64 exB.kids] 35 ∧ Below w.heap.size w wx
set_option maxHeartbeats 8000000 in
set_option maxRecDepth 100000 in
theorem head9_c (w : World) (hT : Tab w) : Calls Tryz.prog 6 #[] w fun e w' => e = .returned (.bool true) ∧ Below w.heap.size w w' := by
  have HT := hidE hT
  clear hT
  go_enter Tryz.func6, Tryz.ntmps6
  go_wp2_with fail
  ((with_reducible refine (atom9_c _ _).mono ?_); rintro e w1 ⟨rfl, hb1⟩)
  have H1 := hidE hb1
  clear hb1
  go_wp2_with fail
  ((with_reducible refine (atom9_c _ _).mono ?_); rintro e w2 ⟨rfl, hb2⟩)
  have H2 := hidE (H1.out.trans (hb2.mono H1.out.size))
  clear hb2 H1
  go_wp2_with fail
  obtain ⟨w3, hw3⟩ : ∃ w3, w3 = (w2.alloc (.cells #[.int .u8 0, .int .u32 1, .int .u32 1, .int .i64 1, .int .i64 0] 35)).alloc (.cells #[.int .u8 0, .int .u32 1, .int .u32 1, .int .i64 2, .int .i64 0] 35) := ⟨_, rfl⟩
  have hd3 : Hd9 w w2.heap.size w3 := by
    rw [hw3]
    exact ⟨(Blk.made _ _ _).alloc _, Blk.made_at _ _ _ _ (by simp), by have := H2.out; (repeat (first | exact Below.refl _ _ | assumption | refine balloc ?_ _ | refine below_drewN ?_ _ | refine bstep (by assumption) ?_ | refine bstep (Past.prop _) ?_ | refine Below.setCell ?_ (by first | exact Nat.le_refl _ | (simp; done) | (simp; omega)) _))⟩
  rw [← hw3]
  clear hw3
  obtain ⟨p, hp⟩ : ∃ p, p = w2.heap.size := ⟨_, rfl⟩
  rw [← hp] at hd3 ⊢
  clear hp H2
  have HE := hidE (show Calls Tryz.prog 13 #[defV 0 0 none 0 0] w3 (fun e w' => e = .returned (.tuple #[defV 0 0 none 0 0, .slice none 0 0, .int .i64 81]) ∧ Below w3.heap.size w3 w') from norm_e 0 0 [] none 0 w3 (by simp) (by intro h; simp at h) (by omega) (by omega) (by decide))
  ((with_reducible refine HE.out.mono ?_); rintro e w4 ⟨rfl, hb4⟩)
  clear HE
  have hd4 : Hd9 w p (w4.alloc (.cells #[.int .i64 0, .int .i64 0, .slice none 0 0] 24)) := by
    have hb5 : Below w3.heap.size w3 (w4.alloc (.cells #[.int .i64 0, .int .i64 0, .slice none 0 0] 24)) := by (repeat (first | exact Below.refl _ _ | assumption | refine balloc ?_ _ | refine below_drewN ?_ _ | refine bstep (by assumption) ?_ | refine bstep (Past.prop _) ?_ | refine Below.setCell ?_ (by first | exact Nat.le_refl _ | (simp; done) | (simp; omega)) _))
    exact ⟨hd3.1.past hb5, hd3.2.1.past hb5, hd3.2.2.trans (hb5.mono hd3.2.2.size)⟩
  clear hb4 hd3
  obtain ⟨wx3, hwx⟩ : ∃ wx, wx = w4.alloc (.cells #[.int .i64 0, .int .i64 0, .slice none 0 0] 24) := ⟨_, rfl⟩
  have hd3 : Hd9 w p wx3 := by rw [hwx]; exact hd4
  clear hd4
  go_upto_region 3 with fail
  rw [← hwx]
  clear hwx
  obtain ⟨W, hWe⟩ : ∃ W, W = wx3 := ⟨_, rfl⟩
  subst hWe
  have HA := hidE hd3.1; have HB := hidE hd3.2.1; have HL := hidE hd3.2.2
  have a0 := HA.out.cell 0; have a1 := HA.out.cell 1; have a2 := HA.out.cell 2; have a3 := HA.out.cell 3; have a4 := HA.out.cell 4; have az := HA.out.lt
  have b0 := HB.out.cell 0; have b1 := HB.out.cell 1; have b2 := HB.out.cell 2; have b3 := HB.out.cell 3; have b4 := HB.out.cell 4; have bz := HB.out.lt
  simp [exA] at a0 a1 a2 a3 a4
  simp [exB] at b0 b1 b2 b3 b4
  clear hd3
  go_cut [6] (fun s wx => s = .bool true ∧ Hd9 w p wx)
  case first =>
    refine wp_region_J 12 [] (nthR [detR (prtV (exG 1 2)), detR (prtV (exA)), detR (prtV (exG 1 2)), detR (prtV (exB)), detR (prtV (exA)), sliR W.heap.size 5 (cellsOfP [exG 1 2, exA, exG 1 2, exB, exA]).toArray 35, detR (prtV (exG 1 3)), detR (prtV (exA)), detR (prtV (exB)), detR (prtV (exA)), sliR W.heap.size 4 (cellsOfP [exG 1 3, exA, exB, exA]).toArray 35, sliR W.heap.size 4 (cellsK .i64 (natsI [0, 1, 3, 4])).toArray 3]) (fun _ => false) (by kernel_rfl) (by simp) (by kernel_rfl) (stab_nth (by simp [stab_det, stab_sli])) ?_ ?_ ?_
    · intro i o hi ho
      match i, hi with
      | 0, _ =>
        obtain rfl := Option.some.inj ho
        intro u x hd
        have hc := Past.cell x
        simp [go_sem, gives, frm, Act.put, nthR, detR, Region.wanted, exG]
        (with_reducible refine (ofl9_1_2 _).mono ?_); rintro e w3 ⟨rfl, hb⟩; exact ⟨rfl, hb⟩
      | 1, _ =>
        obtain rfl := Option.some.inj ho
        intro u x hd
        have hc := Past.cell x
        simp [go_sem, gives, frm, Act.put, nthR, detR, Region.wanted, Below.refl, hc, a0, a1, a2, a3, a4, az, exA]
      | 2, _ =>
        obtain rfl := Option.some.inj ho
        intro u x hd
        have hc := Past.cell x
        simp [go_sem, gives, frm, Act.put, nthR, detR, Region.wanted, exG]
        (with_reducible refine (ofl9_1_2 _).mono ?_); rintro e w3 ⟨rfl, hb⟩; exact ⟨rfl, hb⟩
      | 3, _ =>
        obtain rfl := Option.some.inj ho
        intro u x hd
        have hc := Past.cell x
        simp [go_sem, gives, frm, Act.put, nthR, detR, Region.wanted, Below.refl, hc, b0, b1, b2, b3, b4, bz, exB]
      | 4, _ =>
        obtain rfl := Option.some.inj ho
        intro u x hd
        have hc := Past.cell x
        simp [go_sem, gives, frm, Act.put, nthR, detR, Region.wanted, Below.refl, hc, a0, a1, a2, a3, a4, az, exA]
      | 5, _ =>
        obtain rfl := Option.some.inj ho
        intro u x hd
        have hc := Past.cell x
        have d0 := hd 0 (by decide) (by kernel_rfl)
        have d1 := hd 1 (by decide) (by kernel_rfl)
        have d2 := hd 2 (by decide) (by kernel_rfl)
        have d3 := hd 3 (by decide) (by kernel_rfl)
        have d4 := hd 4 (by decide) (by kernel_rfl)
        simp only [nthR, detR, List.getD_cons_zero, List.getD_cons_succ] at d0 d1 d2 d3 d4
        simp [go_sem, gives, frm, Act.put, nthR, Region.wanted, d0, d1, d2, d3, d4, exA, exB, exG]
        exact ⟨by (repeat (first | exact Below.refl _ _ | assumption | refine balloc ?_ _ | refine below_drewN ?_ _ | refine bstep (by assumption) ?_ | refine bstep (Past.prop _) ?_ | refine Below.setCell ?_ (by first | exact Nat.le_refl _ | (simp; done) | (simp; omega)) _)), ⟨_, rfl, by simpa using x.2.size, Blk.made _ _ _⟩⟩
      | 6, _ =>
        obtain rfl := Option.some.inj ho
        intro u x hd
        have hc := Past.cell x
        simp [go_sem, gives, frm, Act.put, nthR, detR, Region.wanted, exG]
        (with_reducible refine (ofl9_1_3 _).mono ?_); rintro e w3 ⟨rfl, hb⟩; exact ⟨rfl, hb⟩
      | 7, _ =>
        obtain rfl := Option.some.inj ho
        intro u x hd
        have hc := Past.cell x
        simp [go_sem, gives, frm, Act.put, nthR, detR, Region.wanted, Below.refl, hc, a0, a1, a2, a3, a4, az, exA]
      | 8, _ =>
        obtain rfl := Option.some.inj ho
        intro u x hd
        have hc := Past.cell x
        simp [go_sem, gives, frm, Act.put, nthR, detR, Region.wanted, Below.refl, hc, b0, b1, b2, b3, b4, bz, exB]
      | 9, _ =>
        obtain rfl := Option.some.inj ho
        intro u x hd
        have hc := Past.cell x
        simp [go_sem, gives, frm, Act.put, nthR, detR, Region.wanted, Below.refl, hc, a0, a1, a2, a3, a4, az, exA]
      | 10, _ =>
        obtain rfl := Option.some.inj ho
        intro u x hd
        have hc := Past.cell x
        have d6 := hd 6 (by decide) (by kernel_rfl)
        have d7 := hd 7 (by decide) (by kernel_rfl)
        have d8 := hd 8 (by decide) (by kernel_rfl)
        have d9 := hd 9 (by decide) (by kernel_rfl)
        simp only [nthR, detR, List.getD_cons_zero, List.getD_cons_succ] at d6 d7 d8 d9
        simp [go_sem, gives, frm, Act.put, nthR, Region.wanted, d6, d7, d8, d9, exA, exB, exG]
        exact ⟨by (repeat (first | exact Below.refl _ _ | assumption | refine balloc ?_ _ | refine below_drewN ?_ _ | refine bstep (by assumption) ?_ | refine bstep (Past.prop _) ?_ | refine Below.setCell ?_ (by first | exact Nat.le_refl _ | (simp; done) | (simp; omega)) _)), ⟨_, rfl, by simpa using x.2.size, Blk.made _ _ _⟩⟩
      | 11, _ =>
        obtain rfl := Option.some.inj ho
        intro u x hd
        have hc := Past.cell x
        simp [go_sem, gives, frm, Act.put, nthR, Region.wanted, exA, exB, exG]
        exact ⟨by (repeat (first | exact Below.refl _ _ | assumption | refine balloc ?_ _ | refine below_drewN ?_ _ | refine bstep (by assumption) ?_ | refine bstep (Past.prop _) ?_ | refine Below.setCell ?_ (by first | exact Nat.le_refl _ | (simp; done) | (simp; omega)) _)), ⟨_, rfl, by simpa using x.2.size, Blk.made _ _ _⟩⟩
      | i + 12, h => exact absurd h (by omega)
    · intro i o h; cases h
    · intro u x hu hne
      obtain ⟨q1, e1, _, B1⟩ : sliR W.heap.size 5 (cellsOfP [exG 1 2, exA, exG 1 2, exB, exA]).toArray 35 (u 5) x.1 := hu 5 (by decide)
      obtain ⟨q2, e2, _, B2⟩ : sliR W.heap.size 4 (cellsOfP [exG 1 3, exA, exB, exA]).toArray 35 (u 10) x.1 := hu 10 (by decide)
      obtain ⟨q3, e3, _, B3⟩ : sliR W.heap.size 4 (cellsK .i64 (natsI [0, 1, 3, 4])).toArray 3 (u 11) x.1 := hu 11 (by decide)
      have HBE := hidE (show Calls Tryz.prog 22 #[.slice (some ⟨q1, 0, none⟩) 5 5, .slice (some ⟨q2, 0, none⟩) 4 4, .slice (some ⟨q3, 0, none⟩) 4 4] x.1 (fun e w' => e = .returned (.bool true) ∧ Below x.1.heap.size x.1 w') from becomes_c ex1 (some ⟨q1, 0, none⟩) (some ⟨q2, 0, none⟩) (some ⟨q3, 0, none⟩) 5 4 4 x.1 (argP_blk B1) (argP_blk B2) (argK_blk B3) ((HT.out.past HL.out).past x.2))
      have HX := hidE x.2
      simp only [frm, List.take, Act.put, e1, e2, e3]
      clear hu hne B1 B2 B3 e1 e2 e3 a0 a1 a2 a3 a4 az b0 b1 b2 b3 b4 bz
      go_wp2_with fail
      ((with_reducible refine HBE.out.mono ?_); rintro e w9 ⟨rfl, hb9⟩)
      have HB9 := hidE hb9
      clear hb9 HBE
      go_wp2
      go_meet
      case rel => exact ⟨rfl, (HA.out.past HX.out).past HB9.out, (HB.out.past HX.out).past HB9.out, (HL.out.trans (HX.out.mono HL.out.size)).trans (HB9.out.mono (Nat.le_trans HL.out.size HX.out.size))⟩
  case rest =>
    obtain ⟨rfl, hd4⟩ := hcut
    obtain ⟨wx4, hwx⟩ : ∃ wx, wx = wc := ⟨_, rfl⟩
    subst hwx
    clear HA HB HL a0 a1 a2 a3 a4 az b0 b1 b2 b3 b4 bz
    obtain ⟨W, hWe⟩ : ∃ W, W = wx4 := ⟨_, rfl⟩
    subst hWe
    have HA := hidE hd4.1; have HB := hidE hd4.2.1; have HL := hidE hd4.2.2
    have a0 := HA.out.cell 0; have a1 := HA.out.cell 1; have a2 := HA.out.cell 2; have a3 := HA.out.cell 3; have a4 := HA.out.cell 4; have az := HA.out.lt
    have b0 := HB.out.cell 0; have b1 := HB.out.cell 1; have b2 := HB.out.cell 2; have b3 := HB.out.cell 3; have b4 := HB.out.cell 4; have bz := HB.out.lt
    simp [exA] at a0 a1 a2 a3 a4
    simp [exB] at b0 b1 b2 b3 b4
    clear hd4
    go_upto_region 4 with fail
    go_cut [7] (fun s wx => s = .bool true ∧ Hd9 w p wx)
    case first =>
      refine wp_region_J 11 [] (nthR [detR (prtV (exG 3 2)), detR (prtV (exB)), detR (prtV (exG 3 2)), detR (prtV (exA)), detR (prtV (exB)), sliR W.heap.size 5 (cellsOfP [exG 3 2, exB, exG 3 2, exA, exB]).toArray 35, detR (prtV (exG 3 2)), detR (prtV (exA)), detR (prtV (exB)), sliR W.heap.size 3 (cellsOfP [exG 3 2, exA, exB]).toArray 35, sliR W.heap.size 3 (cellsK .i64 (natsI [0, 3, 1])).toArray 3]) (fun _ => false) (by kernel_rfl) (by simp) (by kernel_rfl) (stab_nth (by simp [stab_det, stab_sli])) ?_ ?_ ?_
      · intro i o hi ho
        match i, hi with
        | 0, _ =>
          obtain rfl := Option.some.inj ho
          intro u x hd
          have hc := Past.cell x
          simp [go_sem, gives, frm, Act.put, nthR, detR, Region.wanted, exG]
          (with_reducible refine (ofl9_3_2 _).mono ?_); rintro e w3 ⟨rfl, hb⟩; exact ⟨rfl, hb⟩
        | 1, _ =>
          obtain rfl := Option.some.inj ho
          intro u x hd
          have hc := Past.cell x
          simp [go_sem, gives, frm, Act.put, nthR, detR, Region.wanted, Below.refl, hc, b0, b1, b2, b3, b4, bz, exB]
        | 2, _ =>
          obtain rfl := Option.some.inj ho
          intro u x hd
          have hc := Past.cell x
          simp [go_sem, gives, frm, Act.put, nthR, detR, Region.wanted, exG]
          (with_reducible refine (ofl9_3_2 _).mono ?_); rintro e w3 ⟨rfl, hb⟩; exact ⟨rfl, hb⟩
        | 3, _ =>
          obtain rfl := Option.some.inj ho
          intro u x hd
          have hc := Past.cell x
          simp [go_sem, gives, frm, Act.put, nthR, detR, Region.wanted, Below.refl, hc, a0, a1, a2, a3, a4, az, exA]
        | 4, _ =>
          obtain rfl := Option.some.inj ho
          intro u x hd
          have hc := Past.cell x
          simp [go_sem, gives, frm, Act.put, nthR, detR, Region.wanted, Below.refl, hc, b0, b1, b2, b3, b4, bz, exB]
        | 5, _ =>
          obtain rfl := Option.some.inj ho
          intro u x hd
          have hc := Past.cell x
          have d0 := hd 0 (by decide) (by kernel_rfl)
          have d1 := hd 1 (by decide) (by kernel_rfl)
          have d2 := hd 2 (by decide) (by kernel_rfl)
          have d3 := hd 3 (by decide) (by kernel_rfl)
          have d4 := hd 4 (by decide) (by kernel_rfl)
          simp only [nthR, detR, List.getD_cons_zero, List.getD_cons_succ] at d0 d1 d2 d3 d4
          simp [go_sem, gives, frm, Act.put, nthR, Region.wanted, d0, d1, d2, d3, d4, exA, exB, exG]
          exact ⟨by (repeat (first | exact Below.refl _ _ | assumption | refine balloc ?_ _ | refine below_drewN ?_ _ | refine bstep (by assumption) ?_ | refine bstep (Past.prop _) ?_ | refine Below.setCell ?_ (by first | exact Nat.le_refl _ | (simp; done) | (simp; omega)) _)), ⟨_, rfl, by simpa using x.2.size, Blk.made _ _ _⟩⟩
        | 6, _ =>
          obtain rfl := Option.some.inj ho
          intro u x hd
          have hc := Past.cell x
          simp [go_sem, gives, frm, Act.put, nthR, detR, Region.wanted, exG]
          (with_reducible refine (ofl9_3_2 _).mono ?_); rintro e w3 ⟨rfl, hb⟩; exact ⟨rfl, hb⟩
        | 7, _ =>
          obtain rfl := Option.some.inj ho
          intro u x hd
          have hc := Past.cell x
          simp [go_sem, gives, frm, Act.put, nthR, detR, Region.wanted, Below.refl, hc, a0, a1, a2, a3, a4, az, exA]
        | 8, _ =>
          obtain rfl := Option.some.inj ho
          intro u x hd
          have hc := Past.cell x
          simp [go_sem, gives, frm, Act.put, nthR, detR, Region.wanted, Below.refl, hc, b0, b1, b2, b3, b4, bz, exB]
        | 9, _ =>
          obtain rfl := Option.some.inj ho
          intro u x hd
          have hc := Past.cell x
          have d6 := hd 6 (by decide) (by kernel_rfl)
          have d7 := hd 7 (by decide) (by kernel_rfl)
          have d8 := hd 8 (by decide) (by kernel_rfl)
          simp only [nthR, detR, List.getD_cons_zero, List.getD_cons_succ] at d6 d7 d8
          simp [go_sem, gives, frm, Act.put, nthR, Region.wanted, d6, d7, d8, exA, exB, exG]
          exact ⟨by (repeat (first | exact Below.refl _ _ | assumption | refine balloc ?_ _ | refine below_drewN ?_ _ | refine bstep (by assumption) ?_ | refine bstep (Past.prop _) ?_ | refine Below.setCell ?_ (by first | exact Nat.le_refl _ | (simp; done) | (simp; omega)) _)), ⟨_, rfl, by simpa using x.2.size, Blk.made _ _ _⟩⟩
        | 10, _ =>
          obtain rfl := Option.some.inj ho
          intro u x hd
          have hc := Past.cell x
          simp [go_sem, gives, frm, Act.put, nthR, Region.wanted, exA, exB, exG]
          exact ⟨by (repeat (first | exact Below.refl _ _ | assumption | refine balloc ?_ _ | refine below_drewN ?_ _ | refine bstep (by assumption) ?_ | refine bstep (Past.prop _) ?_ | refine Below.setCell ?_ (by first | exact Nat.le_refl _ | (simp; done) | (simp; omega)) _)), ⟨_, rfl, by simpa using x.2.size, Blk.made _ _ _⟩⟩
        | i + 11, h => exact absurd h (by omega)
      · intro i o h; cases h
      · intro u x hu hne
        obtain ⟨q1, e1, _, B1⟩ : sliR W.heap.size 5 (cellsOfP [exG 3 2, exB, exG 3 2, exA, exB]).toArray 35 (u 5) x.1 := hu 5 (by decide)
        obtain ⟨q2, e2, _, B2⟩ : sliR W.heap.size 3 (cellsOfP [exG 3 2, exA, exB]).toArray 35 (u 9) x.1 := hu 9 (by decide)
        obtain ⟨q3, e3, _, B3⟩ : sliR W.heap.size 3 (cellsK .i64 (natsI [0, 3, 1])).toArray 3 (u 10) x.1 := hu 10 (by decide)
        have HBE := hidE (show Calls Tryz.prog 22 #[.slice (some ⟨q1, 0, none⟩) 5 5, .slice (some ⟨q2, 0, none⟩) 3 3, .slice (some ⟨q3, 0, none⟩) 3 3] x.1 (fun e w' => e = .returned (.bool true) ∧ Below x.1.heap.size x.1 w') from becomes_c ex2 (some ⟨q1, 0, none⟩) (some ⟨q2, 0, none⟩) (some ⟨q3, 0, none⟩) 5 3 3 x.1 (argP_blk B1) (argP_blk B2) (argK_blk B3) ((HT.out.past HL.out).past x.2))
        have HX := hidE x.2
        simp only [frm, List.take, Act.put, e1, e2, e3]
        clear hu hne B1 B2 B3 e1 e2 e3 a0 a1 a2 a3 a4 az b0 b1 b2 b3 b4 bz
        go_wp2_with fail
        ((with_reducible refine HBE.out.mono ?_); rintro e w9 ⟨rfl, hb9⟩)
        have HB9 := hidE hb9
        clear hb9 HBE
        go_wp2
        go_meet
        case rel => exact ⟨rfl, (HA.out.past HX.out).past HB9.out, (HB.out.past HX.out).past HB9.out, (HL.out.trans (HX.out.mono HL.out.size)).trans (HB9.out.mono (Nat.le_trans HL.out.size HX.out.size))⟩
    case rest =>
      obtain ⟨rfl, hd5⟩ := hcut
      obtain ⟨wx5, hwx⟩ : ∃ wx, wx = wc := ⟨_, rfl⟩
      subst hwx
      clear HA HB HL a0 a1 a2 a3 a4 az b0 b1 b2 b3 b4 bz
      obtain ⟨W, hWe⟩ : ∃ W, W = wx5 := ⟨_, rfl⟩
      subst hWe
      have HA := hidE hd5.1; have HB := hidE hd5.2.1; have HL := hidE hd5.2.2
      have a0 := HA.out.cell 0; have a1 := HA.out.cell 1; have a2 := HA.out.cell 2; have a3 := HA.out.cell 3; have a4 := HA.out.cell 4; have az := HA.out.lt
      have b0 := HB.out.cell 0; have b1 := HB.out.cell 1; have b2 := HB.out.cell 2; have b3 := HB.out.cell 3; have b4 := HB.out.cell 4; have bz := HB.out.lt
      simp [exA] at a0 a1 a2 a3 a4
      simp [exB] at b0 b1 b2 b3 b4
      clear hd5
      go_upto_region 5 with fail
      go_cut [8] (fun s wx => s = .bool true ∧ Hd9 w p wx)
      case first =>
        refine wp_region_J 12 [] (nthR [detR (prtV (exG 4 2)), detR (prtV (exG 2 1)), detR (prtV (exB)), detR (prtV (exG 3 2)), detR (prtV (exA)), detR (prtV (exA)), sliR W.heap.size 6 (cellsOfP [exG 4 2, exG 2 1, exB, exG 3 2, exA, exA]).toArray 35, detR (prtV (exG 4 2)), detR (prtV (exA)), detR (prtV (exB)), sliR W.heap.size 3 (cellsOfP [exG 4 2, exA, exB]).toArray 35, sliR W.heap.size 3 (cellsK .i64 (natsI [0, 4, 2])).toArray 3]) (fun _ => false) (by kernel_rfl) (by simp) (by kernel_rfl) (stab_nth (by simp [stab_det, stab_sli])) ?_ ?_ ?_
        · intro i o hi ho
          match i, hi with
          | 0, _ =>
            obtain rfl := Option.some.inj ho
            intro u x hd
            have hc := Past.cell x
            simp [go_sem, gives, frm, Act.put, nthR, detR, Region.wanted, exG]
            (with_reducible refine (ofl9_4_2 _).mono ?_); rintro e w3 ⟨rfl, hb⟩; exact ⟨rfl, hb⟩
          | 1, _ =>
            obtain rfl := Option.some.inj ho
            intro u x hd
            have hc := Past.cell x
            simp [go_sem, gives, frm, Act.put, nthR, detR, Region.wanted, exG]
            (with_reducible refine (ofl9_2_1 _).mono ?_); rintro e w3 ⟨rfl, hb⟩; exact ⟨rfl, hb⟩
          | 2, _ =>
            obtain rfl := Option.some.inj ho
            intro u x hd
            have hc := Past.cell x
            simp [go_sem, gives, frm, Act.put, nthR, detR, Region.wanted, Below.refl, hc, b0, b1, b2, b3, b4, bz, exB]
          | 3, _ =>
            obtain rfl := Option.some.inj ho
            intro u x hd
            have hc := Past.cell x
            simp [go_sem, gives, frm, Act.put, nthR, detR, Region.wanted, exG]
            (with_reducible refine (ofl9_3_2 _).mono ?_); rintro e w3 ⟨rfl, hb⟩; exact ⟨rfl, hb⟩
          | 4, _ =>
            obtain rfl := Option.some.inj ho
            intro u x hd
            have hc := Past.cell x
            simp [go_sem, gives, frm, Act.put, nthR, detR, Region.wanted, Below.refl, hc, a0, a1, a2, a3, a4, az, exA]
          | 5, _ =>
            obtain rfl := Option.some.inj ho
            intro u x hd
            have hc := Past.cell x
            simp [go_sem, gives, frm, Act.put, nthR, detR, Region.wanted, Below.refl, hc, a0, a1, a2, a3, a4, az, exA]
          | 6, _ =>
            obtain rfl := Option.some.inj ho
            intro u x hd
            have hc := Past.cell x
            have d0 := hd 0 (by decide) (by kernel_rfl)
            have d1 := hd 1 (by decide) (by kernel_rfl)
            have d2 := hd 2 (by decide) (by kernel_rfl)
            have d3 := hd 3 (by decide) (by kernel_rfl)
            have d4 := hd 4 (by decide) (by kernel_rfl)
            have d5 := hd 5 (by decide) (by kernel_rfl)
            simp only [nthR, detR, List.getD_cons_zero, List.getD_cons_succ] at d0 d1 d2 d3 d4 d5
            simp [go_sem, gives, frm, Act.put, nthR, Region.wanted, d0, d1, d2, d3, d4, d5, exA, exB, exG]
            exact ⟨by (repeat (first | exact Below.refl _ _ | assumption | refine balloc ?_ _ | refine below_drewN ?_ _ | refine bstep (by assumption) ?_ | refine bstep (Past.prop _) ?_ | refine Below.setCell ?_ (by first | exact Nat.le_refl _ | (simp; done) | (simp; omega)) _)), ⟨_, rfl, by simpa using x.2.size, Blk.made _ _ _⟩⟩
          | 7, _ =>
            obtain rfl := Option.some.inj ho
            intro u x hd
            have hc := Past.cell x
            simp [go_sem, gives, frm, Act.put, nthR, detR, Region.wanted, exG]
            (with_reducible refine (ofl9_4_2 _).mono ?_); rintro e w3 ⟨rfl, hb⟩; exact ⟨rfl, hb⟩
          | 8, _ =>
            obtain rfl := Option.some.inj ho
            intro u x hd
            have hc := Past.cell x
            simp [go_sem, gives, frm, Act.put, nthR, detR, Region.wanted, Below.refl, hc, a0, a1, a2, a3, a4, az, exA]
          | 9, _ =>
            obtain rfl := Option.some.inj ho
            intro u x hd
            have hc := Past.cell x
            simp [go_sem, gives, frm, Act.put, nthR, detR, Region.wanted, Below.refl, hc, b0, b1, b2, b3, b4, bz, exB]
          | 10, _ =>
            obtain rfl := Option.some.inj ho
            intro u x hd
            have hc := Past.cell x
            have d7 := hd 7 (by decide) (by kernel_rfl)
            have d8 := hd 8 (by decide) (by kernel_rfl)
            have d9 := hd 9 (by decide) (by kernel_rfl)
            simp only [nthR, detR, List.getD_cons_zero, List.getD_cons_succ] at d7 d8 d9
            simp [go_sem, gives, frm, Act.put, nthR, Region.wanted, d7, d8, d9, exA, exB, exG]
            exact ⟨by (repeat (first | exact Below.refl _ _ | assumption | refine balloc ?_ _ | refine below_drewN ?_ _ | refine bstep (by assumption) ?_ | refine bstep (Past.prop _) ?_ | refine Below.setCell ?_ (by first | exact Nat.le_refl _ | (simp; done) | (simp; omega)) _)), ⟨_, rfl, by simpa using x.2.size, Blk.made _ _ _⟩⟩
          | 11, _ =>
            obtain rfl := Option.some.inj ho
            intro u x hd
            have hc := Past.cell x
            simp [go_sem, gives, frm, Act.put, nthR, Region.wanted, exA, exB, exG]
            exact ⟨by (repeat (first | exact Below.refl _ _ | assumption | refine balloc ?_ _ | refine below_drewN ?_ _ | refine bstep (by assumption) ?_ | refine bstep (Past.prop _) ?_ | refine Below.setCell ?_ (by first | exact Nat.le_refl _ | (simp; done) | (simp; omega)) _)), ⟨_, rfl, by simpa using x.2.size, Blk.made _ _ _⟩⟩
          | i + 12, h => exact absurd h (by omega)
        · intro i o h; cases h
        · intro u x hu hne
          obtain ⟨q1, e1, _, B1⟩ : sliR W.heap.size 6 (cellsOfP [exG 4 2, exG 2 1, exB, exG 3 2, exA, exA]).toArray 35 (u 6) x.1 := hu 6 (by decide)
          obtain ⟨q2, e2, _, B2⟩ : sliR W.heap.size 3 (cellsOfP [exG 4 2, exA, exB]).toArray 35 (u 10) x.1 := hu 10 (by decide)
          obtain ⟨q3, e3, _, B3⟩ : sliR W.heap.size 3 (cellsK .i64 (natsI [0, 4, 2])).toArray 3 (u 11) x.1 := hu 11 (by decide)
          have HBE := hidE (show Calls Tryz.prog 22 #[.slice (some ⟨q1, 0, none⟩) 6 6, .slice (some ⟨q2, 0, none⟩) 3 3, .slice (some ⟨q3, 0, none⟩) 3 3] x.1 (fun e w' => e = .returned (.bool true) ∧ Below x.1.heap.size x.1 w') from becomes_c ex3 (some ⟨q1, 0, none⟩) (some ⟨q2, 0, none⟩) (some ⟨q3, 0, none⟩) 6 3 3 x.1 (argP_blk B1) (argP_blk B2) (argK_blk B3) ((HT.out.past HL.out).past x.2))
          have HX := hidE x.2
          simp only [frm, List.take, Act.put, e1, e2, e3]
          clear hu hne B1 B2 B3 e1 e2 e3 a0 a1 a2 a3 a4 az b0 b1 b2 b3 b4 bz
          go_wp2_with fail
          ((with_reducible refine HBE.out.mono ?_); rintro e w9 ⟨rfl, hb9⟩)
          have HB9 := hidE hb9
          clear hb9 HBE
          go_wp2
          go_meet
          case rel => exact ⟨rfl, (HA.out.past HX.out).past HB9.out, (HB.out.past HX.out).past HB9.out, (HL.out.trans (HX.out.mono HL.out.size)).trans (HB9.out.mono (Nat.le_trans HL.out.size HX.out.size))⟩
      case rest =>
        obtain ⟨rfl, hd6⟩ := hcut
        obtain ⟨wx6, hwx⟩ : ∃ wx, wx = wc := ⟨_, rfl⟩
        subst hwx
        clear HA HB HL a0 a1 a2 a3 a4 az b0 b1 b2 b3 b4 bz
        obtain ⟨W, hWe⟩ : ∃ W, W = wx6 := ⟨_, rfl⟩
        subst hWe
        have HA := hidE hd6.1; have HB := hidE hd6.2.1; have HL := hidE hd6.2.2
        have a0 := HA.out.cell 0; have a1 := HA.out.cell 1; have a2 := HA.out.cell 2; have a3 := HA.out.cell 3; have a4 := HA.out.cell 4; have az := HA.out.lt
        have b0 := HB.out.cell 0; have b1 := HB.out.cell 1; have b2 := HB.out.cell 2; have b3 := HB.out.cell 3; have b4 := HB.out.cell 4; have bz := HB.out.lt
        simp [exA] at a0 a1 a2 a3 a4
        simp [exB] at b0 b1 b2 b3 b4
        clear hd6
        go_upto_region 6 with fail
        go_cut [9] (fun s wx => s = .bool true ∧ Hd9 w p wx)
        case first =>
          refine wp_region_J 7 [] (nthR [detR (prtV (exG 1 1)), detR (prtV (exG 4 1)), detR (prtV (exA)), sliR W.heap.size 3 (cellsOfP [exG 1 1, exG 4 1, exA]).toArray 35, detR (prtV (exA)), sliR W.heap.size 1 (cellsOfP [exA]).toArray 35, sliR W.heap.size 1 (cellsK .i64 (natsI [2])).toArray 3]) (fun _ => false) (by kernel_rfl) (by simp) (by kernel_rfl) (stab_nth (by simp [stab_det, stab_sli])) ?_ ?_ ?_
          · intro i o hi ho
            match i, hi with
            | 0, _ =>
              obtain rfl := Option.some.inj ho
              intro u x hd
              have hc := Past.cell x
              simp [go_sem, gives, frm, Act.put, nthR, detR, Region.wanted, exG]
              (with_reducible refine (ofl9_1_1 _).mono ?_); rintro e w3 ⟨rfl, hb⟩; exact ⟨rfl, hb⟩
            | 1, _ =>
              obtain rfl := Option.some.inj ho
              intro u x hd
              have hc := Past.cell x
              simp [go_sem, gives, frm, Act.put, nthR, detR, Region.wanted, exG]
              (with_reducible refine (ofl9_4_1 _).mono ?_); rintro e w3 ⟨rfl, hb⟩; exact ⟨rfl, hb⟩
            | 2, _ =>
              obtain rfl := Option.some.inj ho
              intro u x hd
              have hc := Past.cell x
              simp [go_sem, gives, frm, Act.put, nthR, detR, Region.wanted, Below.refl, hc, a0, a1, a2, a3, a4, az, exA]
            | 3, _ =>
              obtain rfl := Option.some.inj ho
              intro u x hd
              have hc := Past.cell x
              have d0 := hd 0 (by decide) (by kernel_rfl)
              have d1 := hd 1 (by decide) (by kernel_rfl)
              have d2 := hd 2 (by decide) (by kernel_rfl)
              simp only [nthR, detR, List.getD_cons_zero, List.getD_cons_succ] at d0 d1 d2
              simp [go_sem, gives, frm, Act.put, nthR, Region.wanted, d0, d1, d2, exA, exG]
              exact ⟨by (repeat (first | exact Below.refl _ _ | assumption | refine balloc ?_ _ | refine below_drewN ?_ _ | refine bstep (by assumption) ?_ | refine bstep (Past.prop _) ?_ | refine Below.setCell ?_ (by first | exact Nat.le_refl _ | (simp; done) | (simp; omega)) _)), ⟨_, rfl, by simpa using x.2.size, Blk.made _ _ _⟩⟩
            | 4, _ =>
              obtain rfl := Option.some.inj ho
              intro u x hd
              have hc := Past.cell x
              simp [go_sem, gives, frm, Act.put, nthR, detR, Region.wanted, Below.refl, hc, a0, a1, a2, a3, a4, az, exA]
            | 5, _ =>
              obtain rfl := Option.some.inj ho
              intro u x hd
              have hc := Past.cell x
              have d4 := hd 4 (by decide) (by kernel_rfl)
              simp only [nthR, detR, List.getD_cons_zero, List.getD_cons_succ] at d4
              simp [go_sem, gives, frm, Act.put, nthR, Region.wanted, d4, exA, exG]
              exact ⟨by (repeat (first | exact Below.refl _ _ | assumption | refine balloc ?_ _ | refine below_drewN ?_ _ | refine bstep (by assumption) ?_ | refine bstep (Past.prop _) ?_ | refine Below.setCell ?_ (by first | exact Nat.le_refl _ | (simp; done) | (simp; omega)) _)), ⟨_, rfl, by simpa using x.2.size, Blk.made _ _ _⟩⟩
            | 6, _ =>
              obtain rfl := Option.some.inj ho
              intro u x hd
              have hc := Past.cell x
              simp [go_sem, gives, frm, Act.put, nthR, Region.wanted, exA, exG]
              exact ⟨by (repeat (first | exact Below.refl _ _ | assumption | refine balloc ?_ _ | refine below_drewN ?_ _ | refine bstep (by assumption) ?_ | refine bstep (Past.prop _) ?_ | refine Below.setCell ?_ (by first | exact Nat.le_refl _ | (simp; done) | (simp; omega)) _)), ⟨_, rfl, by simpa using x.2.size, Blk.made _ _ _⟩⟩
            | i + 7, h => exact absurd h (by omega)
          · intro i o h; cases h
          · intro u x hu hne
            obtain ⟨q1, e1, _, B1⟩ : sliR W.heap.size 3 (cellsOfP [exG 1 1, exG 4 1, exA]).toArray 35 (u 3) x.1 := hu 3 (by decide)
            obtain ⟨q2, e2, _, B2⟩ : sliR W.heap.size 1 (cellsOfP [exA]).toArray 35 (u 5) x.1 := hu 5 (by decide)
            obtain ⟨q3, e3, _, B3⟩ : sliR W.heap.size 1 (cellsK .i64 (natsI [2])).toArray 3 (u 6) x.1 := hu 6 (by decide)
            have HBE := hidE (show Calls Tryz.prog 22 #[.slice (some ⟨q1, 0, none⟩) 3 3, .slice (some ⟨q2, 0, none⟩) 1 1, .slice (some ⟨q3, 0, none⟩) 1 1] x.1 (fun e w' => e = .returned (.bool true) ∧ Below x.1.heap.size x.1 w') from becomes_c ex4 (some ⟨q1, 0, none⟩) (some ⟨q2, 0, none⟩) (some ⟨q3, 0, none⟩) 3 1 1 x.1 (argP_blk B1) (argP_blk B2) (argK_blk B3) ((HT.out.past HL.out).past x.2))
            have HX := hidE x.2
            simp only [frm, List.take, Act.put, e1, e2, e3]
            clear hu hne B1 B2 B3 e1 e2 e3 a0 a1 a2 a3 a4 az b0 b1 b2 b3 b4 bz
            go_wp2_with fail
            ((with_reducible refine HBE.out.mono ?_); rintro e w9 ⟨rfl, hb9⟩)
            have HB9 := hidE hb9
            clear hb9 HBE
            go_wp2
            go_meet
            case rel => exact ⟨rfl, (HA.out.past HX.out).past HB9.out, (HB.out.past HX.out).past HB9.out, (HL.out.trans (HX.out.mono HL.out.size)).trans (HB9.out.mono (Nat.le_trans HL.out.size HX.out.size))⟩
        case rest =>
          obtain ⟨rfl, hd7⟩ := hcut
          obtain ⟨wx7, hwx⟩ : ∃ wx, wx = wc := ⟨_, rfl⟩
          subst hwx
          clear HA HB HL a0 a1 a2 a3 a4 az b0 b1 b2 b3 b4 bz
          have HL := hidE hd7.2.2
          clear hd7
          go_wp2_with fail
          obtain ⟨w8, hw8⟩ : ∃ w8, w8 = (wx7.alloc (.cells #[.int .i64 0, .int .i64 3, .int .i64 1] 3)).alloc (.cells #[.int .i64 1, .int .i64 5, .int .i64 2, .int .i64 4] 60) := ⟨_, rfl⟩
          rw [← hw8]
          have hf8 : Blk w8 wx7.heap.size #[.int .i64 0, .int .i64 3, .int .i64 1] 3 := by rw [hw8]; exact (Blk.made _ _ _).alloc _
          have hp8 : Blk w8 (wx7.heap.size + 1) #[.int .i64 1, .int .i64 5, .int .i64 2, .int .i64 4] 60 := by rw [hw8]; exact Blk.made_at _ _ _ _ (by simp)
          have hb8 : Below w.heap.size w w8 := by rw [hw8]; have := HL.out; (repeat (first | exact Below.refl _ _ | assumption | refine balloc ?_ _ | refine below_drewN ?_ _ | refine bstep (by assumption) ?_ | refine bstep (Past.prop _) ?_ | refine Below.setCell ?_ (by first | exact Nat.le_refl _ | (simp; done) | (simp; omega)) _))
          clear hw8
          ((with_reducible refine (back2_c w8 _ _ 3 2 hf8 hp8).mono ?_); rintro e w9 ⟨g, c, rfl, hpc, hb9⟩)
          have HPC := hidE hpc
          have HL9 := hidE (hb8.trans (hb9.mono hb8.size))
          clear hf8 hp8 hb8 hb9 hpc HL
          go_wp2_with fail
          obtain ⟨w10, hw10⟩ : ∃ w10, w10 = (w9.alloc (.cells #[.int .i64 0] 3)).alloc (.cells #[.int .i64 1, .int .i64 0] 60) := ⟨_, rfl⟩
          rw [← hw10]
          have hf10 : Blk w10 w9.heap.size #[.int .i64 0] 3 := by rw [hw10]; exact (Blk.made _ _ _).alloc _
          have hp10 : Blk w10 (w9.heap.size + 1) #[.int .i64 1, .int .i64 0] 60 := by rw [hw10]; exact Blk.made_at _ _ _ _ (by simp)
          have hb10 : Below w9.heap.size w9 w10 := by rw [hw10]; (repeat (first | exact Below.refl _ _ | assumption | refine balloc ?_ _ | refine below_drewN ?_ _ | refine bstep (by assumption) ?_ | refine bstep (Past.prop _) ?_ | refine Below.setCell ?_ (by first | exact Nat.le_refl _ | (simp; done) | (simp; omega)) _))
          clear hw10
          ((with_reducible refine (back1_c w10 _ _ 1 1 hf10 hp10).mono ?_); rintro e w11 ⟨rfl, hb11⟩)
          have hb911 := hb10.trans (hb11.mono hb10.size)
          have HP11 := hidE (HPC.out.past hb911)
          have HL11 := hidE (HL9.out.trans (hb911.mono HL9.out.size))
          clear hf10 hp10 hb10 hb11 hb911 HPC HL9
          go_wp2_with fail
          obtain ⟨w12, hw12⟩ : ∃ w12, w12 = w11.alloc (.cells #[.int .i64 1, .int .i64 4, .int .i64 3, .int .i64 5] 60) := ⟨_, rfl⟩
          rw [← hw12]
          have hp12 : Blk w12 w11.heap.size #[.int .i64 1, .int .i64 4, .int .i64 3, .int .i64 5] 60 := by rw [hw12]; exact Blk.made _ _ _
          have hb12 : Below w11.heap.size w11 w12 := by rw [hw12]; (repeat (first | exact Below.refl _ _ | assumption | refine balloc ?_ _ | refine below_drewN ?_ _ | refine bstep (by assumption) ?_ | refine bstep (Past.prop _) ?_ | refine Below.setCell ?_ (by first | exact Nat.le_refl _ | (simp; done) | (simp; omega)) _))
          clear hw12
          have hpg : Pc2 w12 g 1 4 3 5 w12 := ⟨(HP11.out.past hb12).here, Below.refl _ _⟩
          ((with_reducible refine (samep_c g c _ 2 w12 hpg hp12).mono ?_); rintro e w13 ⟨rfl, hb13⟩)
          have HL13 := hidE ((HL11.out.trans (hb12.mono HL11.out.size)).trans (hb13.mono (Nat.le_trans HL11.out.size hb12.size)))
          clear hp12 hb12 hpg hb13 HP11 HL11
          go_wp2
          go_ret
          exact ⟨rfl, HL13.out⟩
end Go.Proofs.YtioalnncjahlnaaGreatDoor
