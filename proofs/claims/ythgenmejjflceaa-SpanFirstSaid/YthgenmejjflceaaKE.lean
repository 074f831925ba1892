/- The contracts of span.above, (slide).straight and (cursor).move. No conditions but sizes, and that the slices' cells read as integers. The contract of (slide).over. No conditions but sizes, and that the slices' cells read as integers. The contract of span.Over. No conditions but the list's size, and that the slice's cells read as integers. -/
import Derived.Test.YthgenmejjflceaaKA
import Derived.Test.YthgenmejjflceaaKM
import Derived.BigRegion
import Derived.Test.YthgenmejjflceaaKD
namespace Go.Proofs.Ythgenmejjflceaa
open Go.ChangeShapes Go.WideShapes Go.ChangeAt Go.RowKit
attribute [local irreducible] Go.Calls

theorem above_c (s p l : Int) (w : World) (h1 : -9223372036854775808 ≤ l - s) (h2 : l - s ≤ 9223372036854775806) :
    Calls Try.prog 64 #[.int .i64 s, .int .i64 p, .int .i64 l] w fun e w' => e = .returned (.int .i64 (abvI s p l)) ∧ w' = w := by
  by_cases c : l < s
  · have HE := hidE (show abvI s p l = 0 by unfold abvI; rw [if_pos c])
    have e1 : decide (l < s) = true := decide_eq_true c
    rw [HE.out]
    go_enter Try.func64, Try.ntmps64
    go_wp2
    go_ret
    exact ⟨rfl, rfl⟩
  · have e1 : decide (l < s) = false := decide_eq_false c
    by_cases c2 : p ≤ 0
    · have HE := hidE (show abvI s p l = 9223372036854775807 by unfold abvI; rw [if_neg c, if_pos c2])
      have e2 : decide (p ≤ 0) = true := decide_eq_true c2
      rw [HE.out]
      go_enter Try.func64, Try.ntmps64
      go_wp2
      go_ret
      exact ⟨rfl, rfl⟩
    · have HE := hidE (show abvI s p l = (l - s).tdiv p + 1 by unfold abvI; rw [if_neg c, if_neg c2])
      have e2 : decide (p ≤ 0) = false := decide_eq_false c2
      have q1 : 0 ≤ (l - s).tdiv p := Int.tdiv_nonneg (by omega) (by omega)
      have q2 : (l - s).tdiv p ≤ l - s := by
        rw [Int.tdiv_eq_ediv_of_nonneg (by omega)]
        exact Int.ediv_le_self _ (by omega)
      rw [HE.out]
      have HW := hidE (IntWalk.i64_quo' (l - s) p (by omega))
      go_enter Try.func64, Try.ntmps64
      go_wp2
      go_ret
      exact ⟨rfl, rfl⟩

theorem mv_tail {b off : Nat} {f : List Sg} (w0 : World) (h : ArgS w0 (some ⟨b, off, none⟩) f) : ArgS w0 (some ⟨b, off + 3, none⟩) (f.drop 1) := fun hl => by
  rw [List.length_drop] at hl
  obtain ⟨b', off', e, hb, hc⟩ := h (by omega)
  cases e
  refine ⟨b, off + 3, rfl, hb, fun i hi => ?_⟩
  rw [List.length_drop] at hi
  obtain ⟨h1, h2, h3⟩ := hc (i + 1) (by omega)
  have e : (f.drop 1).getD i (0, 0, 0) = f.getD (i + 1) (0, 0, 0) := by simp [List.getD_eq_getElem?_getD]
  rw [e, show off + 3 + i * 3 = off + (i + 1) * 3 by omega]
  exact ⟨h1, h2, h3⟩
/-- A slide, cell by cell. -/
abbrev SLC (x n : Int) (s v u : Int × Int) (f g : Value) : Array Value := #[.int .i64 x, .int .i64 n, .int .i64 s.1, .int .i64 s.2, .int .i64 v.1, .int .i64 v.2, f, .int .i64 u.1, .int .i64 u.2, g]
def straightL (f g : List Sg) (x n : Int) : Int := if f.length = 0 then 0 else if g.length = 0 then ats f 0 - x else mn (ats f 0 - x) (ats g 0 - n - x)
theorem straight_is (F : List Sg) (x n : Int) : straightI F x n = straightL (curF F x) (curF F (x + n)) x n := rfl
set_option maxHeartbeats 1000000 in
theorem straight_c (f g : List Sg) (x n : Int) (s v u : Int × Int) (a a' : Option Addr) (c c' : Nat) (w : World) (hf : f.length ≤ 9223372036854775807) (hg : g.length ≤ 9223372036854775807) (hA : ArgS w a f) (hA' : ArgS w a' g)
    (hx : -2251799813685248 ≤ x ∧ x ≤ 2251799813685248) (hn : 0 ≤ n ∧ n ≤ 4096) (h1 : 0 < f.length → -1125899906842624 ≤ ats f 0 ∧ ats f 0 ≤ 1125899906842624) (h2 : 0 < g.length → -1125899906842624 ≤ ats g 0 ∧ ats g 0 ≤ 1125899906842624) :
    Calls Try.prog 63 #[.agg (SLC x n s v u (.slice a f.length c) (.slice a' g.length c'))] w fun e w' => e = .returned (.int .i64 (straightL f g x n)) ∧ Below w.heap.size w w' := by
  have HA := hidE hA; have HA' := hidE hA'
  clear hA hA'
  by_cases c1 : f.length = 0
  · have HE := hidE (show straightL f g x n = 0 by unfold straightL; rw [if_pos c1])
    have e1 : ((f.length : Int) == 0) = true := beq_iff_eq.2 (by omega)
    rw [HE.out]
    clear h1 h2 c1 HE
    generalize f.length = kf at *
    go_enter Try.func63, Try.ntmps63
    go_wp2
    go_ret
    exact ⟨rfl, by (repeat (first | exact Below.refl _ _ | assumption | refine balloc ?_ _ | refine below_drewN ?_ _ | refine bstep (by assumption) ?_ | refine bstep (Past.prop _) ?_ | refine Below.setCell ?_ (by first | exact Nat.le_refl _ | (simp; done) | (simp; omega)) _))⟩
  · obtain ⟨b, off, rfl, hb, hc⟩ := HA.out (by omega)
    obtain ⟨d0, _, _⟩ := hc.get (i := 0) (by omega)
    simp at d0
    have hp := h1 (by omega)
    have e1 : ((f.length : Int) == 0) = false := beq_eq_false_iff_ne.2 (by omega)
    have hf0 : 0 < f.length := by omega
    by_cases c2 : g.length = 0
    · have HE := hidE (show straightL f g x n = ats f 0 - x by unfold straightL; rw [if_neg c1, if_pos c2])
      have e2 : decide (0 < (g.length : Int)) = false := decide_eq_false (by omega)
      have e3 : decide (0 < g.length) = false := decide_eq_false (by omega)
      have e4 : ¬ 0 < (g.length : Int) := by omega
      rw [HE.out]
      clear h1 h2 c1 c2 HE hc
      generalize ats f 0 = t at *
      generalize f.length = kf at *
      generalize g.length = kg at *
      go_enter Try.func63, Try.ntmps63
      go_wp2
      go_quiet (fail)
      go_wp2
      go_ret
      exact ⟨rfl, by (repeat (first | exact Below.refl _ _ | assumption | refine balloc ?_ _ | refine below_drewN ?_ _ | refine bstep (by assumption) ?_ | refine bstep (Past.prop _) ?_ | refine Below.setCell ?_ (by first | exact Nat.le_refl _ | (simp; done) | (simp; omega)) _))⟩
    · obtain ⟨b', off', rfl, hb', hc'⟩ := HA'.out (by omega)
      obtain ⟨d1, _, _⟩ := hc'.get (i := 0) (by omega)
      simp at d1
      have hp2 := h2 (by omega)
      have e2 : decide (0 < (g.length : Int)) = true := decide_eq_true (by omega)
      have e3 : decide (0 < g.length) = true := decide_eq_true (by omega)
      have hg0 : 0 < g.length := by omega
      have HE := hidE (show straightL f g x n = mn (ats f 0 - x) (ats g 0 - n - x) by unfold straightL; rw [if_neg c1, if_neg c2])
      rw [HE.out]
      clear h1 h2 c1 c2 HE hc hc'
      generalize ats f 0 = t at *
      generalize ats g 0 = t' at *
      generalize f.length = kf at *
      generalize g.length = kg at *
      go_enter Try.func63, Try.ntmps63
      go_wp2
      go_quiet (fail)
      go_wp2
      go_region
      all_goals try go_wp2
      all_goals
        go_ret
        refine ⟨ret_int (by unfold mn; split <;> omega), ?_⟩
        (repeat (first | exact Below.refl _ _ | assumption | refine balloc ?_ _ | refine below_drewN ?_ _ | refine bstep (by assumption) ?_ | refine bstep (Past.prop _) ?_ | refine Below.setCell ?_ (by first | exact Nat.le_refl _ | (simp; done) | (simp; omega)) _))


set_option maxRecDepth 100000 in
set_option maxHeartbeats 2000000 in
theorem mvtail_c (f : List Sg) (x n t : Int) (s v u : Int × Int) (h : Value) (k : Nat) (a : Option Addr) (cap : Nat) (w0 w : World) (hl : f.length ≤ cap) (hc : cap ≤ 9223372036854775807) (hA : ArgS w0 a f) (hw : Below w0.heap.size w0 w) (hk : w0.heap.size ≤ k)
    (hB : Blk w k (SLC x n s v u (.slice a f.length cap) h) 81) :
    Calls Try.prog 62 #[.pointer (some ⟨k, 4, none⟩), .int .i64 t] w fun e w' => (∃ v, e = .returned v) ∧ (∃ a' cap', Blk w' k (SLC x n s (moveV f t v) u (.slice a' (moveF f t).length cap') h) 81 ∧ (moveF f t).length ≤ cap' ∧ cap' ≤ 9223372036854775807 ∧ ArgS w0 a' (moveF f t)) ∧ w.grownBy w' (some k) := by
  have HW := hidE hw; have HK := hidE hk
  obtain ⟨f0, hf0⟩ : ∃ f0, f0 = f := ⟨_, rfl⟩
  obtain ⟨v0, hv0⟩ : ∃ v0, v0 = v := ⟨_, rfl⟩
  go_enter Try.func62, Try.ntmps62
  go_wp2
  go_loopg [] f.length (fun gh wr => ∃ (f1 : List Sg) (v1 : Int × Int) (a1 : Option Addr) (c1 : Nat), f1.length ≤ gh ∧ moveF f1 t = moveF f t ∧ moveV f1 t v1 = moveV f t v ∧ Blk wr k (SLC x n s v1 u (.slice a1 f1.length c1) h) 81 ∧ f1.length ≤ c1 ∧ c1 ≤ 9223372036854775807 ∧ ArgS w0 a1 f1 ∧ w.grownBy wr (some k))
  case atStart => exact ⟨f, v, a, cap, Nat.le_refl _, rfl, rfl, hB, hl, hc, hA, grown_refl _ _⟩
  case round =>
    obtain ⟨f1, v1, a1, c1, hg, m1, m2, hB1, l1, l2, hA1, hgr⟩ := hrel
    have HG := hidE hgr; have HB := hidE hB1; have HA1 := hidE hA1; have HM1 := hidE m1; have HM2 := hidE m2; have HL := hidE l1; have HGH := hidE hg
    clear hgr hA1 m1 m2 hB hA hg hw hk
    obtain ⟨wo, hwo⟩ : ∃ wo : World, wo = wr := ⟨_, rfl⟩
    by_cases h0 : f1.length = 0
    · have HF := hidE (show moveF f t = f1 by rw [← HM1.out, List.length_eq_zero_iff.1 h0]; rfl)
      have HV := hidE (show moveV f t v = v1 by rw [← HM2.out, List.length_eq_zero_iff.1 h0]; rfl)
      have e1 : decide (0 < (f1.length : Int)) = false := decide_eq_false (by omega)
      have e2 : decide (0 < f1.length) = false := decide_eq_false (by omega)
      have e3 : ¬ 0 < (f1.length : Int) := by omega
      have b0 := hB1.cell 4; have b1 := hB1.cell 5; have b2 := hB1.cell 6; have b3 := hB1.cell 7; have b4 := hB1.cell 8; have b5 := hB1.cell 9; have bz := hB1.lt
      simp at b0 b1 b2 b3 b4 b5
      clear h0 hB1
      go_wp2
      go_end0
      rw [HF.out, HV.out]
      exact ⟨⟨_, rfl⟩, ⟨a1, c1, HB.out, HL.out, l2, HA1.out⟩, HG.out⟩
    · have hpos : 0 < f1.length := by omega
      obtain ⟨b, off, rfl, hb0, hc0⟩ := HA1.out hpos
      have hbw : Below w0.heap.size w0 wr := HW.out.grown HG.out HW.out.size (fun k' e' => by cases e'; exact HK.out)
      have hc := hc0.below hbw hb0
      obtain ⟨d0, d1, d2⟩ := hc.get (i := 0) hpos
      simp at d0 d1 d2
      have hbk : b ≠ k := by have := HK.out; omega
      have hbz : b < wr.heap.size := by have := hbw.size; omega
      have b0 := hB1.cell 4; have b1 := hB1.cell 5; have b2 := hB1.cell 6; have b3 := hB1.cell 7; have b4 := hB1.cell 8; have b5 := hB1.cell 9; have bz := hB1.lt; have bf := hB1.free
      simp at b0 b1 b2 b3 b4 b5
      have e0 : decide (0 < f1.length) = true := decide_eq_true hpos
      have e1 : decide ((0 : Int) < (f1.length : Int)) = true := decide_eq_true (by omega)
      by_cases ht : ats f1 0 ≤ t
      · have HF1 := hidE (show moveF (f1.drop 1) t = moveF f t by
          rw [← HM1.out]
          cases f1 with
          | nil => simp at hpos
          | cons r f2 =>
            have ht' : r.1 ≤ t := ht
            show moveF f2 t = moveF (r :: f2) t
            rw [show moveF (r :: f2) t = if r.1 ≤ t then moveF f2 t else r :: f2 from rfl, if_pos ht'])
        have HF2 := hidE (show moveV (f1.drop 1) t (vls f1 0) = moveV f t v by
          rw [← HM2.out]
          cases f1 with
          | nil => simp at hpos
          | cons r f2 =>
            have ht' : r.1 ≤ t := ht
            show moveV f2 t r.2 = moveV (r :: f2) t v1
            rw [show moveV (r :: f2) t v1 = if r.1 ≤ t then moveV f2 t r.2 else v1 from rfl, if_pos ht'])
        have HTL := hidE (mv_tail (b := b) (off := off) (f := f1) w0)
        have HLN := hidE (show (f1.drop 1).length = f1.length - 1 by rw [List.length_drop])
        have e2 : decide (ats f1 0 ≤ t) = true := decide_eq_true ht
        clear hc hc0 ht HM1 HM2 hB1
        generalize f1.drop 1 = f2 at *
        generalize ats f1 0 = q at *
        generalize vls f1 0 = z at *
        go_upto_region 1 with fail
        go_region
        obtain ⟨av, hav⟩ : ∃ av : Option Addr, av = (if c1 = 1 then some ⟨b, off, none⟩ else some ⟨b, off + 3, none⟩) := ⟨_, rfl⟩
        have hA2 : ArgS w0 av f2 := by
          rw [hav]
          by_cases hc1 : c1 = 1
          · rw [if_pos hc1]
            intro hl2
            have := HLN.out
            omega
          · rw [if_neg hc1]; exact HTL.out HA1.out
        have hB2 := ((HB.out.set 4 (.int .i64 z.1)).set 5 (.int .i64 z.2)).set 6 (.slice av (f1.length - 1) (c1 - 1))
        have hg2 : w.grownBy (((wr.setCell ⟨k, 4, none⟩ (.int .i64 z.1)).setCell ⟨k, 5, none⟩ (.int .i64 z.2)).setCell ⟨k, 6, none⟩ (.slice av (f1.length - 1) (c1 - 1))) (some k) :=
          grown_trans (grown_trans (grown_trans HG.out (grown_set _ _ _ _)) (grown_set _ _ _ _)) (grown_set _ _ _ _)
        have HB2 := hidE hB2; have HG2 := hidE hg2; have HA2 := hidE hA2
        clear hB2 hg2 hA2
        rw [← hav]
        go_wp2
        go_roundg (f1.length - 1)
        case measure => have := HGH.out; omega
        case rel =>
          refine ⟨f2, z, av, c1 - 1, by rw [HLN.out]; exact Nat.le_refl _, HF1.out, HF2.out, ?_, by rw [HLN.out]; omega, by omega, HA2.out, ?_⟩
          · rw [HLN.out]
            have q := HB2.out
            simp at q
            exact q
          · exact grown_trans HG2.out (grown_any ((Below.refl _ _).drew))
      · have HF := hidE (show moveF f t = f1 by
          rw [← HM1.out]
          cases f1 with
          | nil => rfl
          | cons r f2 =>
            have ht' : ¬ r.1 ≤ t := ht
            rw [show moveF (r :: f2) t = if r.1 ≤ t then moveF f2 t else r :: f2 from rfl, if_neg ht'])
        have HV := hidE (show moveV f t v = v1 by
          rw [← HM2.out]
          cases f1 with
          | nil => rfl
          | cons r f2 =>
            have ht' : ¬ r.1 ≤ t := ht
            rw [show moveV (r :: f2) t v1 = if r.1 ≤ t then moveV f2 t r.2 else v1 from rfl, if_neg ht'])
        have e2 : decide (ats f1 0 ≤ t) = false := decide_eq_false ht
        clear hc hc0 ht hB1
        generalize ats f1 0 = q at *
        go_wp2
        go_end0
        rw [HF.out, HV.out]
        exact ⟨⟨_, rfl⟩, ⟨_, c1, HB.out, HL.out, l2, HA1.out⟩, HG.out⟩

set_option maxRecDepth 100000 in
set_option maxHeartbeats 2000000 in
theorem mvhead_c (f : List Sg) (x n t : Int) (s v u : Int × Int) (h : Value) (k : Nat) (a : Option Addr) (cap : Nat) (w0 w : World) (hl : f.length ≤ cap) (hc : cap ≤ 9223372036854775807) (hA : ArgS w0 a f) (hw : Below w0.heap.size w0 w) (hk : w0.heap.size ≤ k)
    (hB : Blk w k (SLC x n s u v h (.slice a f.length cap)) 81) :
    Calls Try.prog 62 #[.pointer (some ⟨k, 7, none⟩), .int .i64 t] w fun e w' => (∃ v, e = .returned v) ∧ (∃ a' cap', Blk w' k (SLC x n s u (moveV f t v) h (.slice a' (moveF f t).length cap')) 81 ∧ (moveF f t).length ≤ cap' ∧ cap' ≤ 9223372036854775807 ∧ ArgS w0 a' (moveF f t)) ∧ w.grownBy w' (some k) := by
  have HW := hidE hw; have HK := hidE hk
  obtain ⟨f0, hf0⟩ : ∃ f0, f0 = f := ⟨_, rfl⟩
  obtain ⟨v0, hv0⟩ : ∃ v0, v0 = v := ⟨_, rfl⟩
  go_enter Try.func62, Try.ntmps62
  go_wp2
  go_loopg [] f.length (fun gh wr => ∃ (f1 : List Sg) (v1 : Int × Int) (a1 : Option Addr) (c1 : Nat), f1.length ≤ gh ∧ moveF f1 t = moveF f t ∧ moveV f1 t v1 = moveV f t v ∧ Blk wr k (SLC x n s u v1 h (.slice a1 f1.length c1)) 81 ∧ f1.length ≤ c1 ∧ c1 ≤ 9223372036854775807 ∧ ArgS w0 a1 f1 ∧ w.grownBy wr (some k))
  case atStart => exact ⟨f, v, a, cap, Nat.le_refl _, rfl, rfl, hB, hl, hc, hA, grown_refl _ _⟩
  case round =>
    obtain ⟨f1, v1, a1, c1, hg, m1, m2, hB1, l1, l2, hA1, hgr⟩ := hrel
    have HG := hidE hgr; have HB := hidE hB1; have HA1 := hidE hA1; have HM1 := hidE m1; have HM2 := hidE m2; have HL := hidE l1; have HGH := hidE hg
    clear hgr hA1 m1 m2 hB hA hg hw hk
    obtain ⟨wo, hwo⟩ : ∃ wo : World, wo = wr := ⟨_, rfl⟩
    by_cases h0 : f1.length = 0
    · have HF := hidE (show moveF f t = f1 by rw [← HM1.out, List.length_eq_zero_iff.1 h0]; rfl)
      have HV := hidE (show moveV f t v = v1 by rw [← HM2.out, List.length_eq_zero_iff.1 h0]; rfl)
      have e1 : decide (0 < (f1.length : Int)) = false := decide_eq_false (by omega)
      have e2 : decide (0 < f1.length) = false := decide_eq_false (by omega)
      have e3 : ¬ 0 < (f1.length : Int) := by omega
      have b0 := hB1.cell 4; have b1 := hB1.cell 5; have b2 := hB1.cell 6; have b3 := hB1.cell 7; have b4 := hB1.cell 8; have b5 := hB1.cell 9; have bz := hB1.lt
      simp at b0 b1 b2 b3 b4 b5
      clear h0 hB1
      go_wp2
      go_end0
      rw [HF.out, HV.out]
      exact ⟨⟨_, rfl⟩, ⟨a1, c1, HB.out, HL.out, l2, HA1.out⟩, HG.out⟩
    · have hpos : 0 < f1.length := by omega
      obtain ⟨b, off, rfl, hb0, hc0⟩ := HA1.out hpos
      have hbw : Below w0.heap.size w0 wr := HW.out.grown HG.out HW.out.size (fun k' e' => by cases e'; exact HK.out)
      have hc := hc0.below hbw hb0
      obtain ⟨d0, d1, d2⟩ := hc.get (i := 0) hpos
      simp at d0 d1 d2
      have hbk : b ≠ k := by have := HK.out; omega
      have hbz : b < wr.heap.size := by have := hbw.size; omega
      have b0 := hB1.cell 4; have b1 := hB1.cell 5; have b2 := hB1.cell 6; have b3 := hB1.cell 7; have b4 := hB1.cell 8; have b5 := hB1.cell 9; have bz := hB1.lt; have bf := hB1.free
      simp at b0 b1 b2 b3 b4 b5
      have e0 : decide (0 < f1.length) = true := decide_eq_true hpos
      have e1 : decide ((0 : Int) < (f1.length : Int)) = true := decide_eq_true (by omega)
      by_cases ht : ats f1 0 ≤ t
      · have HF1 := hidE (show moveF (f1.drop 1) t = moveF f t by
          rw [← HM1.out]
          cases f1 with
          | nil => simp at hpos
          | cons r f2 =>
            have ht' : r.1 ≤ t := ht
            show moveF f2 t = moveF (r :: f2) t
            rw [show moveF (r :: f2) t = if r.1 ≤ t then moveF f2 t else r :: f2 from rfl, if_pos ht'])
        have HF2 := hidE (show moveV (f1.drop 1) t (vls f1 0) = moveV f t v by
          rw [← HM2.out]
          cases f1 with
          | nil => simp at hpos
          | cons r f2 =>
            have ht' : r.1 ≤ t := ht
            show moveV f2 t r.2 = moveV (r :: f2) t v1
            rw [show moveV (r :: f2) t v1 = if r.1 ≤ t then moveV f2 t r.2 else v1 from rfl, if_pos ht'])
        have HTL := hidE (mv_tail (b := b) (off := off) (f := f1) w0)
        have HLN := hidE (show (f1.drop 1).length = f1.length - 1 by rw [List.length_drop])
        have e2 : decide (ats f1 0 ≤ t) = true := decide_eq_true ht
        clear hc hc0 ht HM1 HM2 hB1
        generalize f1.drop 1 = f2 at *
        generalize ats f1 0 = q at *
        generalize vls f1 0 = z at *
        go_upto_region 1 with fail
        go_region
        obtain ⟨av, hav⟩ : ∃ av : Option Addr, av = (if c1 = 1 then some ⟨b, off, none⟩ else some ⟨b, off + 3, none⟩) := ⟨_, rfl⟩
        have hA2 : ArgS w0 av f2 := by
          rw [hav]
          by_cases hc1 : c1 = 1
          · rw [if_pos hc1]
            intro hl2
            have := HLN.out
            omega
          · rw [if_neg hc1]; exact HTL.out HA1.out
        have hB2 := ((HB.out.set 7 (.int .i64 z.1)).set 8 (.int .i64 z.2)).set 9 (.slice av (f1.length - 1) (c1 - 1))
        have hg2 : w.grownBy (((wr.setCell ⟨k, 7, none⟩ (.int .i64 z.1)).setCell ⟨k, 8, none⟩ (.int .i64 z.2)).setCell ⟨k, 9, none⟩ (.slice av (f1.length - 1) (c1 - 1))) (some k) :=
          grown_trans (grown_trans (grown_trans HG.out (grown_set _ _ _ _)) (grown_set _ _ _ _)) (grown_set _ _ _ _)
        have HB2 := hidE hB2; have HG2 := hidE hg2; have HA2 := hidE hA2
        clear hB2 hg2 hA2
        rw [← hav]
        go_wp2
        go_roundg (f1.length - 1)
        case measure => have := HGH.out; omega
        case rel =>
          refine ⟨f2, z, av, c1 - 1, by rw [HLN.out]; exact Nat.le_refl _, HF1.out, HF2.out, ?_, by rw [HLN.out]; omega, by omega, HA2.out, ?_⟩
          · rw [HLN.out]
            have q := HB2.out
            simp at q
            exact q
          · exact grown_trans HG2.out (grown_any ((Below.refl _ _).drew))
      · have HF := hidE (show moveF f t = f1 by
          rw [← HM1.out]
          cases f1 with
          | nil => rfl
          | cons r f2 =>
            have ht' : ¬ r.1 ≤ t := ht
            rw [show moveF (r :: f2) t = if r.1 ≤ t then moveF f2 t else r :: f2 from rfl, if_neg ht'])
        have HV := hidE (show moveV f t v = v1 by
          rw [← HM2.out]
          cases f1 with
          | nil => rfl
          | cons r f2 =>
            have ht' : ¬ r.1 ≤ t := ht
            rw [show moveV (r :: f2) t v1 = if r.1 ≤ t then moveV f2 t r.2 else v1 from rfl, if_neg ht'])
        have e2 : decide (ats f1 0 ≤ t) = false := decide_eq_false ht
        clear hc hc0 ht hB1
        generalize ats f1 0 = q at *
        go_wp2
        go_end0
        rw [HF.out, HV.out]
        exact ⟨⟨_, rfl⟩, ⟨_, c1, HB.out, HL.out, l2, HA1.out⟩, HG.out⟩
end Go.Proofs.Ythgenmejjflceaa

namespace Go.Proofs.Ythgenmejjflceaa
open Go.ChangeShapes Go.WideShapes Go.ChangeAt Go.RowKit Go.Shelf
attribute [local irreducible] Go.Calls

theorem slope_c (a b c d : Int) (w : World) (h1 : -9223372036854775808 ≤ a - c ∧ a - c ≤ 9223372036854775807) (h2 : -9223372036854775808 ≤ b - d ∧ b - d ≤ 9223372036854775807) :
    Calls Try.prog 36 #[V a b, .int .i64 (-1), V c d] w fun e w' => e = .returned (V (a - c) (b - d)) ∧ Below w.heap.size w w' := by
  have := along_c a b (-1) c d w (by omega) (by omega)
  rw [show a + -1 * c = a - c by omega, show b + -1 * d = b - d by omega] at this
  exact this
/-- Between two rounds. -/
def OvI (F : List Sg) (x0 : Int) (n : Nat) (l : Int × Int) (w : World) (gh : Nat) (W : World) : Prop :=
  ∃ (z p q : Int) (a1 a2 : Option Addr) (c1 c2 : Nat), x0 ≤ z ∧ z ≤ 1125899906842624 ∧ p ≤ z ∧ q ≤ z + n ∧ (curF F z).length + (curF F (z + n)).length ≤ gh ∧
    Blk W w.heap.size (SLC z n (sumN F z n) (vat F p) (vat F q) (.slice a1 (curF F p).length c1) (.slice a2 (curF F q).length c2)) 81 ∧
    (curF F p).length ≤ c1 ∧ c1 ≤ 9223372036854775807 ∧ (curF F q).length ≤ c2 ∧ c2 ≤ 9223372036854775807 ∧ ArgS w a1 (curF F p) ∧ ArgS w a2 (curF F q) ∧
    Blk W (w.heap.size + 1) #[.int .i64 l.1, .int .i64 l.2] 26 ∧ (∀ s, x0 ≤ s → s < z → overB F n l s = false) ∧ Below w.heap.size w W
/-- What it hands back. -/
def OvR (F : List Sg) (x0 : Int) (n : Nat) (l : Int × Int) (r : Int × Bool) : Prop :=
  (r = (0, false) ∧ ∀ s, x0 ≤ s → overB F n l s = false) ∨ ∃ t, r = (t, true) ∧ x0 ≤ t ∧ overB F n l t = true ∧ ∀ s, x0 ≤ s → s < t → overB F n l s = false

set_option maxRecDepth 100000 in
set_option maxHeartbeats 4000000 in
theorem over_c (F : List Sg) (x0 : Int) (n : Nat) (l : Int × Int) (a : Option Addr) (cap : Nat) (w : World) (hl : F.length ≤ cap) (hc : cap ≤ 9223372036854775807) (hA : ArgS w a F) (hF : Canon F) (hx : -562949953421312 ≤ x0 ∧ x0 ≤ 562949953421312) (hn : n ≤ 4096) (hlo : okV l.1 l.2 = true) :
    Calls Try.prog 47 #[.agg (SLC x0 n (sumN F x0 n) (0, 0) (0, 0) (.slice a F.length cap) (.slice a F.length cap)), V l.1 l.2] w fun e w' => (∃ r, e = .returned (.tuple #[.int .i64 r.1, .bool r.2]) ∧ OvR F x0 n l r) ∧ Below w.heap.size w w' := by
  obtain ⟨hfar1, hfar2⟩ := cur_far hF
  go_enter Try.func47, Try.ntmps47
  go_wp2
  go_step3
  go_wp2
  go_step3
  go_wp2
  go_loopg [4, 5] (F.length + F.length) (fun gh v4 v5 wr => v4 = .int .i64 0 ∧ v5 = .bool false ∧ OvI F x0 n l w gh wr)
  case atStart =>
    refine ⟨rfl, rfl, x0, -1125899906842625, -1125899906842625, a, a, cap, cap, by omega, by omega, by omega, by omega, ?_, ?_, by rw [hfar1]; exact hl, hc, by rw [hfar1]; exact hl, hc, by rw [hfar1]; exact hA, by rw [hfar1]; exact hA, Blk.made_at _ _ _ _ (by simp), fun s h1 h2 => by omega, by (repeat (first | exact Below.refl _ _ | assumption | refine balloc ?_ _ | refine below_drewN ?_ _ | refine bstep (by assumption) ?_ | refine bstep (Past.prop _) ?_ | refine Below.setCell ?_ (by first | exact Nat.le_refl _ | (simp; done) | (simp; omega)) _))⟩
    · have := curF_len F x0
      have := curF_len F (x0 + n)
      omega
    · rw [hfar1, hfar2]
      exact (Blk.made _ _ _).alloc _
  case round =>
    obtain ⟨rfl, rfl, z, p, q, a1, a2, c1, c2, hz0, hz1, hpz, hqz, hgh, hB, l1, l2, l3, l4, hA1, hA2, hB2, hno, hb⟩ := hrel
    have HB := hidE hB; have HB2 := hidE hB2; have HNO := hidE hno; have HBE := hidE hb; have HGH := hidE hgh
    have HMT := hidE (mvtail_c (curF F p) z n z (sumN F z n) (vat F p) (vat F q) (.slice a2 (curF F q).length c2) w.heap.size a1 c1 w wr l1 l2 hA1 hb (Nat.le_refl _) hB)
    rw [move_f hF hpz, move_v hF hpz] at HMT
    have t0 := hB.cell 0; have tz := hB.lt
    simp at t0
    clear hB hno hb hgh hB2
    obtain ⟨wo, hwo⟩ : ∃ wo : World, wo = wr := ⟨_, rfl⟩
    go_wp2_with fail
    ((with_reducible refine (HMT.out).mono ?_); rintro e w3 ⟨⟨v3, rfl⟩, ⟨a3, c3, hB3, l5, l6, hA3⟩, hg3⟩)
    have HMH := hidE (mvhead_c (curF F q) z n (z + n) (sumN F z n) (vat F q) (vat F z) (.slice a3 (curF F z).length c3) w.heap.size a2 c2 w w3 l3 l4 hA2 (HBE.out.grown hg3 HBE.out.size (fun k e => by cases e; exact Nat.le_refl _)) (Nat.le_refl _) hB3)
    rw [move_f hF hqz, move_v hF hqz] at HMH
    have hg3' := hidE hg3
    clear t0 tz
    have t0 := hB3.cell 0; have t1 := hB3.cell 1; have tz := hB3.lt
    simp at t0 t1
    clear hg3 hB3
    go_wp2_with fail
    ((with_reducible refine (HMH.out).mono ?_); rintro e w4 ⟨⟨v4, rfl⟩, ⟨a4, c4, hB4, l7, l8, hA4⟩, hg4⟩)
    have hB4' := hidE hB4; have hg4' := hidE hg4
    -- names
    have hsp := straight_spec hF (x := z) (n := (n : Int)) (by omega)
    have hst := slide_step (F := F) (x0 := x0) (x := z) (n := n) (l := l) hF (by omega) hz0 HNO.out
    have HSM := hidE (sumN_le (CF.ok hF) z n)
    have HSM2 := hidE (fun t => sumN_le (CF.ok hF) t n)
    have HV1 := hidE (okV_iff.1 (vat_ok (CF.ok hF) z)); have HV2 := hidE (okV_iff.1 (vat_ok (CF.ok hF) (z + n)))
    have HSP := hidE hsp; have HST := hidE hst
    have HC1 := hidE (fun h => cur_in hF (s := z) h); have HC2 := hidE (fun h => cur_in hF (s := z + n) h)
    have HLO := hidE (okV_iff.1 hlo)
    have HSTR := hidE (straight_is F z n)
    clear hsp hst t0 t1 tz
    have hbe4 : Below w.heap.size w w4 := HBE.out.grown (grown_trans hg3'.out hg4) HBE.out.size (fun k e => by cases e; exact Nat.le_refl _)
    have hB24 : Blk w4 (w.heap.size + 1) #[.int .i64 l.1, .int .i64 l.2] 26 := HB2.out.grown (grown_trans hg3'.out hg4) (by simp)
    have HBE4 := hidE hbe4; have HB24 := hidE hB24
    clear hg4 hB4 hbe4 hB24
    change Hid (straightI F z n = straightL (curF F z) (curF F (z + n)) z n) at HSTR
    unfold riseI at HST
    have hpar : ∀ (fz fq : List Sg) (sm vv uu : Int × Int), fz = curF F z → fq = curF F (z + n) → sm = sumN F z n → vv = vat F z → uu = vat F (z + n) → True := fun _ _ _ _ _ _ _ _ _ _ => trivial
    clear hpar
    obtain ⟨fz, hfz⟩ : ∃ fz, fz = curF F z := ⟨_, rfl⟩
    obtain ⟨fq, hfq⟩ : ∃ fq, fq = curF F (z + n) := ⟨_, rfl⟩
    obtain ⟨sm, hsm⟩ : ∃ sm, sm = sumN F z n := ⟨_, rfl⟩
    obtain ⟨vv, hvv⟩ : ∃ vv, vv = vat F z := ⟨_, rfl⟩
    obtain ⟨uu, huu⟩ : ∃ uu, uu = vat F (z + n) := ⟨_, rfl⟩
    obtain ⟨tk, htk⟩ : ∃ tk, tk = straightI F z n := ⟨_, rfl⟩
    rw [← hfz, ← hfq, ← hsm, ← hvv, ← huu] at hB4'
    rw [← hfz] at hA3 l5 HC1
    rw [← hfq] at hA4 l7 HC2
    rw [← htk, ← hsm, ← hvv, ← huu] at HST
    rw [← htk, ← hfz, ← hfq, ← hvv, ← huu] at HSP
    rw [← htk, ← hfz, ← hfq] at HSTR
    rw [← hsm] at HSM
    rw [← hvv] at HV1
    rw [← huu] at HV2
    have HFZ := hidE hfz; have HFQ := hidE hfq; have HSMM := hidE hsm; have HVV := hidE hvv; have HUU := hidE huu; have HTKK := hidE htk
    clear hfz hfq hsm hvv huu htk
    have hm1 := HSM.out; have hv1 := HV1.out; have hv2 := HV2.out; have hlo1 := HLO.out
    have hnn : (n : Int) ≤ 4096 := by omega
    have hmm : (1125899906842624 : Int) * (n : Int) ≤ 4611686018427387904 := by omega
    have HSLO := hidE (fun w => slope_c uu.1 uu.2 vv.1 vv.2 w (by omega) (by omega))
    have HTK := hidE (fun (w' : World) (hb : Below w4.heap.size w4 w') => show Calls Try.prog 63 #[.agg (SLC z n sm vv uu (.slice a3 fz.length c3) (.slice a4 fq.length c4))] w' (fun e w'' => e = .returned (.int .i64 tk) ∧ Below w'.heap.size w' w'') from by
      have := straight_c fz fq z n sm vv uu a3 a4 c3 c4 w' (by omega) (by omega) (hA3.past (bstep hb HBE4.out)) (hA4.past (bstep hb HBE4.out)) (by omega) (by omega) HC1.out HC2.out
      rw [← HSTR.out] at this; exact this)
    have HRA := hidE (fun w => same_below (above_c sm.1 (uu.1 - vv.1) l.1 w (by omega) (by omega)))
    have HRB := hidE (fun w => same_below (above_c sm.2 (uu.2 - vv.2) l.2 w (by omega) (by omega)))
    have HRG := hidE (show 0 ≤ mn (abvI sm.1 (uu.1 - vv.1) l.1) (abvI sm.2 (uu.2 - vv.2) l.2) from rise_ge (s := sm) (v := uu) (w := vv) (l := l))
    generalize abvI sm.1 (uu.1 - vv.1) l.1 = ra at *
    generalize abvI sm.2 (uu.2 - vv.2) l.2 = rb at *
    have HA3 := hidE hA3; have HA4 := hidE hA4
    have HRR := hidE (And.intro (And.intro l5 l6) (And.intro l7 l8))
    have HR1 := hidE (And.intro (And.intro hz0 hz1) (And.intro hx hn))
    have k0 := hB4'.out.cell 0; have k1 := hB4'.out.cell 1; have k2 := hB4'.out.cell 2; have k3 := hB4'.out.cell 3; have k4 := hB4'.out.cell 4; have k5 := hB4'.out.cell 5; have k6 := hB4'.out.cell 6; have k7 := hB4'.out.cell 7; have k8 := hB4'.out.cell 8; have k9 := hB4'.out.cell 9; have kz := hB4'.out.lt
    simp at k0 k1 k2 k3 k4 k5 k6 k7 k8 k9
    clear hA3 hA4 hm1 hv1 hv2 hlo1 hmm hnn HSM HV1 HV2 HLO HSTR HC1 HC2 l5 l6 l7 l8 l1 l2 l3 l4 hA1 hA2 HMT HMH hz0 hz1 hx hn hpz hqz hfar1 hfar2 hA hl hc hwo
    go_upto_region 3 with fail
    go_cut [6, 7] (fun s6 s7 wx => ∃ p6 : Nat, s6 = .pointer (some ⟨p6, 0, none⟩) ∧ s7 = .int .i64 tk ∧ w4.heap.size ≤ p6 ∧ Blk wx p6 #[.int .i64 (uu.1 - vv.1), .int .i64 (uu.2 - vv.2)] 26 ∧ Below w4.heap.size w4 wx)
    case first =>
      refine wp_region_J 10 [] (nthR [detR (.pointer (some ⟨w.heap.size, 7, none⟩)), detR (.pointer (some ⟨w.heap.size, 7, none⟩)), detR (V uu.1 uu.2), detR (.pointer (some ⟨w.heap.size, 4, none⟩)), detR (.pointer (some ⟨w.heap.size, 4, none⟩)), detR (V vv.1 vv.2), detR (V (uu.1 - vv.1) (uu.2 - vv.2)), detR (.agg (SLC z n sm vv uu (.slice a3 fz.length c3) (.slice a4 fq.length c4))), detR (.int .i64 tk), newR w4.heap.size #[.int .i64 0, .int .i64 0] 26]) (fun _ => false) (by kernel_rfl) (by simp) (by kernel_rfl) (stab_nth (by simp [stab_det, stab_new])) ?_ ?_ ?_
      · intro i o hi ho
        match i, hi with
        | 0, _ =>
          obtain rfl := Option.some.inj ho
          intro u' x' hd
          have hc := Past.cell x'
          simp [go_sem, gives, frm, Act.put, nthR, detR, Region.wanted, Below.refl]
        | 1, _ =>
          obtain rfl := Option.some.inj ho
          intro u' x' hd
          have hc := Past.cell x'
          have d0 := hd 0 (by decide) (by kernel_rfl)
          simp only [nthR, detR, List.getD_cons_zero] at d0
          simp [go_sem, gives, frm, Act.put, nthR, detR, Region.wanted, Below.refl, d0]
        | 2, _ =>
          obtain rfl := Option.some.inj ho
          intro u' x' hd
          have hc := Past.cell x'
          have d1 := hd 1 (by decide) (by kernel_rfl)
          simp only [nthR, detR, List.getD_cons_zero, List.getD_cons_succ] at d1
          simp [go_sem, gives, frm, Act.put, nthR, detR, Region.wanted, Below.refl, hc, d1, k7, k8, kz]
        | 3, _ =>
          obtain rfl := Option.some.inj ho
          intro u' x' hd
          have hc := Past.cell x'
          simp [go_sem, gives, frm, Act.put, nthR, detR, Region.wanted, Below.refl]
        | 4, _ =>
          obtain rfl := Option.some.inj ho
          intro u' x' hd
          have hc := Past.cell x'
          have d3 := hd 3 (by decide) (by kernel_rfl)
          simp only [nthR, detR, List.getD_cons_zero, List.getD_cons_succ] at d3
          simp [go_sem, gives, frm, Act.put, nthR, detR, Region.wanted, Below.refl, d3]
        | 5, _ =>
          obtain rfl := Option.some.inj ho
          intro u' x' hd
          have hc := Past.cell x'
          have d4 := hd 4 (by decide) (by kernel_rfl)
          simp only [nthR, detR, List.getD_cons_zero, List.getD_cons_succ] at d4
          simp [go_sem, gives, frm, Act.put, nthR, detR, Region.wanted, Below.refl, hc, d4, k4, k5, kz]
        | 6, _ =>
          obtain rfl := Option.some.inj ho
          intro u' x' hd
          have hc := Past.cell x'
          have d2 := hd 2 (by decide) (by kernel_rfl)
          have d5 := hd 5 (by decide) (by kernel_rfl)
          simp only [nthR, detR, List.getD_cons_zero, List.getD_cons_succ] at d2 d5
          simp [go_sem, gives, frm, Act.put, nthR, detR, Region.wanted, d2, d5]
          exact HSLO.out _
        | 7, _ =>
          obtain rfl := Option.some.inj ho
          intro u' x' hd
          have hc := Past.cell x'
          simp [go_sem, gives, frm, Act.put, nthR, detR, Region.wanted, Below.refl, hc, k0, k1, k2, k3, k4, k5, k6, k7, k8, k9, kz]
        | 8, _ =>
          obtain rfl := Option.some.inj ho
          intro u' x' hd
          have hc := Past.cell x'
          have d7 := hd 7 (by decide) (by kernel_rfl)
          simp only [nthR, detR, List.getD_cons_zero, List.getD_cons_succ] at d7
          simp [go_sem, gives, frm, Act.put, nthR, detR, Region.wanted, d7]
          exact HTK.out _ x'.2
        | 9, _ =>
          obtain rfl := Option.some.inj ho
          intro u' x' hd
          have hc := Past.cell x'
          simp [go_sem, gives, nthR, Region.wanted]
          exact ⟨by (repeat (first | exact Below.refl _ _ | assumption | refine balloc ?_ _ | refine below_drewN ?_ _ | refine bstep (by assumption) ?_ | refine bstep (Past.prop _) ?_ | refine Below.setCell ?_ (by first | exact Nat.le_refl _ | (simp; done) | (simp; omega)) _)), ⟨_, rfl, by simpa using x'.2.size, Blk.made _ _ _⟩⟩
        | i + 10, h => exact absurd h (by omega)
      · intro i o h; cases h
      · intro u' x' hu hne
        have d6 := hu 6 (by decide); have d8 := hu 8 (by decide)
        obtain ⟨p, h9, l9, B9⟩ : newR _ _ _ _ _ := hu 9 (by decide)
        simp only [nthR, detR, List.getD_cons_zero, List.getD_cons_succ] at d6 d8
        have g0 := B9.cell 0; have g1 := B9.cell 1; have f9 := B9.free; have z9 := B9.lt
        simp at g0 g1
        simp only [frm, List.take, Act.put, d6, d8, h9]
        clear d6 d8 hu hne
        have hx' := x'.2
        go_wp2
        go_meet
        case rel => exact ⟨p, rfl, rfl, l9, by simpa using (B9.set 0 (.int .i64 (uu.1 - vv.1))).set 1 (.int .i64 (uu.2 - vv.2)), (hx'.setCell (p := ⟨p, 0, none⟩) l9 _).setCell (p := ⟨p, 1, none⟩) l9 _⟩
    obtain ⟨p6, rfl, rfl, l6, B6, hb6⟩ := hcut
    have hB5 := hB4'.out.past hb6
    have hL5 := HB24.out.past hb6
    have hbe5 := bstep hb6 HBE4.out
    have hz6 : wc.heap.size ≤ wc.heap.size := Nat.le_refl _
    have HB5 := hidE hB5; have HL5 := hidE hL5; have HBE5 := hidE hbe5; have HB6 := hidE B6; have HB66 := hidE hb6
    clear k0 k1 k2 k3 k4 k5 k6 k7 k8 k9 kz hz6
    have k2 := hB5.cell 2; have k3 := hB5.cell 3; have kz := hB5.lt; have l0 := hL5.cell 0; have l1 := hL5.cell 1; have lz := hL5.lt; have b0 := B6.cell 0; have b1 := B6.cell 1; have bz := B6.lt
    simp at k2 k3 l0 l1 b0 b1
    clear hB5 hL5 hbe5 hb6 B6 HTK HSLO
    obtain ⟨w5, hw5⟩ : ∃ w5 : World, w5 = wc := ⟨_, rfl⟩
    go_upto_region 4 with fail
    go_cut [8] (fun s8 wx => s8 = .int .i64 (mn ra rb) ∧ Below w5.heap.size w5 wx)
    case first =>
      subst hw5
      refine wp_region_J 16 [] (nthR [detR (.pointer (some ⟨w.heap.size, 2, none⟩)), detR (.pointer (some ⟨w.heap.size, 2, none⟩)), detR (.int .i64 sm.1), detR (.pointer (some ⟨p6, 0, none⟩)), detR (.int .i64 (uu.1 - vv.1)), detR (.pointer (some ⟨(w.heap.size + 1), 0, none⟩)), detR (.int .i64 l.1), detR (.int .i64 ra), detR (.pointer (some ⟨w.heap.size, 2, none⟩)), detR (.pointer (some ⟨w.heap.size, 3, none⟩)), detR (.int .i64 sm.2), detR (.pointer (some ⟨p6, 1, none⟩)), detR (.int .i64 (uu.2 - vv.2)), detR (.pointer (some ⟨(w.heap.size + 1), 1, none⟩)), detR (.int .i64 l.2), detR (.int .i64 rb)]) (fun _ => false) (by kernel_rfl) (by simp) (by kernel_rfl) (stab_nth (by simp [stab_det])) ?_ ?_ ?_
      · intro i o hi ho
        match i, hi with
        | 0, _ =>
          obtain rfl := Option.some.inj ho
          intro u' x' hd
          have hc := Past.cell x'
          simp [go_sem, gives, frm, Act.put, nthR, detR, Region.wanted, Below.refl]
        | 1, _ =>
          obtain rfl := Option.some.inj ho
          intro u' x' hd
          have hc := Past.cell x'
          have d0 := hd 0 (by decide) (by kernel_rfl)
          simp only [nthR, detR, List.getD_cons_zero] at d0
          simp [go_sem, gives, frm, Act.put, nthR, detR, Region.wanted, Below.refl, d0]
        | 2, _ =>
          obtain rfl := Option.some.inj ho
          intro u' x' hd
          have hc := Past.cell x'
          have d1 := hd 1 (by decide) (by kernel_rfl)
          simp only [nthR, detR, List.getD_cons_zero, List.getD_cons_succ] at d1
          simp [go_sem, gives, frm, Act.put, nthR, detR, Region.wanted, Below.refl, hc, d1, k2, kz]
        | 3, _ =>
          obtain rfl := Option.some.inj ho
          intro u' x' hd
          have hc := Past.cell x'
          simp [go_sem, gives, frm, Act.put, nthR, detR, Region.wanted, Below.refl]
        | 4, _ =>
          obtain rfl := Option.some.inj ho
          intro u' x' hd
          have hc := Past.cell x'
          have d3 := hd 3 (by decide) (by kernel_rfl)
          simp only [nthR, detR, List.getD_cons_zero, List.getD_cons_succ] at d3
          simp [go_sem, gives, frm, Act.put, nthR, detR, Region.wanted, Below.refl, hc, d3, b0, bz]
        | 5, _ =>
          obtain rfl := Option.some.inj ho
          intro u' x' hd
          have hc := Past.cell x'
          simp [go_sem, gives, frm, Act.put, nthR, detR, Region.wanted, Below.refl]
        | 6, _ =>
          obtain rfl := Option.some.inj ho
          intro u' x' hd
          have hc := Past.cell x'
          have d5 := hd 5 (by decide) (by kernel_rfl)
          simp only [nthR, detR, List.getD_cons_zero, List.getD_cons_succ] at d5
          simp [go_sem, gives, frm, Act.put, nthR, detR, Region.wanted, Below.refl, hc, d5, l0, lz]
        | 7, _ =>
          obtain rfl := Option.some.inj ho
          intro u' x' hd
          have hc := Past.cell x'
          have d2 := hd 2 (by decide) (by kernel_rfl)
          have d4 := hd 4 (by decide) (by kernel_rfl)
          have d6 := hd 6 (by decide) (by kernel_rfl)
          simp only [nthR, detR, List.getD_cons_zero, List.getD_cons_succ] at d2 d4 d6
          simp [go_sem, gives, frm, Act.put, nthR, detR, Region.wanted, d2, d4, d6]
          exact HRA.out _
        | 8, _ =>
          obtain rfl := Option.some.inj ho
          intro u' x' hd
          have hc := Past.cell x'
          simp [go_sem, gives, frm, Act.put, nthR, detR, Region.wanted, Below.refl]
        | 9, _ =>
          obtain rfl := Option.some.inj ho
          intro u' x' hd
          have hc := Past.cell x'
          have d8 := hd 8 (by decide) (by kernel_rfl)
          simp only [nthR, detR, List.getD_cons_zero, List.getD_cons_succ] at d8
          simp [go_sem, gives, frm, Act.put, nthR, detR, Region.wanted, Below.refl, d8]
        | 10, _ =>
          obtain rfl := Option.some.inj ho
          intro u' x' hd
          have hc := Past.cell x'
          have d9 := hd 9 (by decide) (by kernel_rfl)
          simp only [nthR, detR, List.getD_cons_zero, List.getD_cons_succ] at d9
          simp [go_sem, gives, frm, Act.put, nthR, detR, Region.wanted, Below.refl, hc, d9, k3, kz]
        | 11, _ =>
          obtain rfl := Option.some.inj ho
          intro u' x' hd
          have hc := Past.cell x'
          simp [go_sem, gives, frm, Act.put, nthR, detR, Region.wanted, Below.refl]
        | 12, _ =>
          obtain rfl := Option.some.inj ho
          intro u' x' hd
          have hc := Past.cell x'
          have d11 := hd 11 (by decide) (by kernel_rfl)
          simp only [nthR, detR, List.getD_cons_zero, List.getD_cons_succ] at d11
          simp [go_sem, gives, frm, Act.put, nthR, detR, Region.wanted, Below.refl, hc, d11, b1, bz]
        | 13, _ =>
          obtain rfl := Option.some.inj ho
          intro u' x' hd
          have hc := Past.cell x'
          simp [go_sem, gives, frm, Act.put, nthR, detR, Region.wanted, Below.refl]
        | 14, _ =>
          obtain rfl := Option.some.inj ho
          intro u' x' hd
          have hc := Past.cell x'
          have d13 := hd 13 (by decide) (by kernel_rfl)
          simp only [nthR, detR, List.getD_cons_zero, List.getD_cons_succ] at d13
          simp [go_sem, gives, frm, Act.put, nthR, detR, Region.wanted, Below.refl, hc, d13, l1, lz]
        | 15, _ =>
          obtain rfl := Option.some.inj ho
          intro u' x' hd
          have hc := Past.cell x'
          have d10 := hd 10 (by decide) (by kernel_rfl)
          have d12 := hd 12 (by decide) (by kernel_rfl)
          have d14 := hd 14 (by decide) (by kernel_rfl)
          simp only [nthR, detR, List.getD_cons_zero, List.getD_cons_succ] at d10 d12 d14
          simp [go_sem, gives, frm, Act.put, nthR, detR, Region.wanted, d10, d12, d14]
          exact HRB.out _
        | i + 16, h => exact absurd h (by omega)
      · intro i o h; cases h
      · intro u' x' hu hne
        have d7 := hu 7 (by decide); have d15 := hu 15 (by decide)
        simp only [nthR, detR, List.getD_cons_zero, List.getD_cons_succ] at d7 d15
        simp only [frm, List.take, Act.put, d7, d15]
        clear d7 d15 hu hne
        have hx' := x'.2
        generalize x'.1 = w6 at *
        by_cases hab : ra ≤ rb
        · have hmn : mn ra rb = ra := by rw [mn_min]; omega
          have HMN := hidE hmn
          clear hmn
          go_wp2
          go_meet
          case rel => exact ⟨by rw [HMN.out], hx'⟩
        · have hmn : mn ra rb = rb := by rw [mn_min]; omega
          have hab2 : rb ≤ ra := by omega
          have HMN := hidE hmn
          clear hmn
          go_wp2
          go_meet
          case rel => exact ⟨by rw [HMN.out], hx'⟩
    obtain ⟨rfl, hb7⟩ := hcut
    subst hw5
    have hb7' := hb7
    have hB7 := HB5.out.past hb7
    have h67 := HB6.out.past hb7
    have hbe7 := bstep hb7 HBE5.out
    have HB7 := hidE hB7; have HBE7 := hidE hbe7
    clear k2 k3 kz l0 l1 lz b0 b1 bz
    have k0 := hB7.cell 0; have k2 := hB7.cell 2; have k3 := hB7.cell 3; have kz := hB7.lt; have kf := hB7.free; have b0 := h67.cell 0; have b1 := h67.cell 1; have bz := h67.lt
    simp at k0 k2 k3 b0 b1
    clear hB7 h67 hbe7 hb7 HRA HRB
    obtain ⟨⟨hz0, hz1⟩, hx, hn⟩ := HR1.out
    obtain ⟨q1, q2, q3⟩ := HST.out
    have hrr : 0 ≤ mn ra rb := HRG.out
    generalize mn ra rb = R at *
    have htk : 0 ≤ tk ∧ z + tk ≤ 1125899906842624 := by
      rcases HSP.out with h | h
      · omega
      · omega
    by_cases hle : R ≤ tk
    · have HQ := hidE (q1 hle)
      have e1 : decide (R ≤ tk) = true := decide_eq_true hle
      clear q1 q2 q3
      go_wp2
      rw [Exit.noGoto_ret]
      go_ret2
      exact ⟨⟨(z + R, true), rfl, .inr ⟨z + R, rfl, HQ.out⟩⟩, HBE7.out⟩
    · have e1 : decide (R ≤ tk) = false := decide_eq_false hle
      by_cases h0 : tk = 0
      · have HQ := hidE (q2 (by omega) h0)
        have e2 : (tk == 0) = true := beq_iff_eq.2 h0
        clear q1 q2 q3
        go_wp2
        try rw [Exit.noGoto_ret]
        go_ret2
        exact ⟨⟨(0, false), rfl, .inl ⟨rfl, HQ.out⟩⟩, HBE7.out⟩
      · have HQ := hidE (q3 (by omega) h0)
        have e2 : (tk == 0) = false := beq_eq_false_iff_ne.2 h0
        clear q1 q2 q3
        have hs := HSM2.out (z + tk)
        rw [HQ.out.1] at hs
        have hnn : (n : Int) ≤ 4096 := by omega
        have hmm : (1125899906842624 : Int) * (n : Int) ≤ 4611686018427387904 := by omega
        have HAL := hidE (fun w => along_c sm.1 sm.2 tk (uu.1 - vv.1) (uu.2 - vv.2) w (by simp only at hs; omega) (by simp only at hs; omega))
        have WRZ := hidE (show IntKind.i64.wrap (z + tk) = z + tk from IntWalk.i64_in _ (by omega))
        clear hs hnn hmm
        obtain ⟨w7, hw7⟩ : ∃ w7 : World, w7 = wc := ⟨_, rfl⟩
        go_upto_region 8 with fail
        subst hw7
        refine wp_region_J 9 [] (nthR [detR (.pointer (some ⟨w.heap.size, 0, none⟩)), detR (.int .i64 z), detR (.int .i64 tk), detR (.int .i64 (z + tk)), detR (.pointer (some ⟨w.heap.size, 2, none⟩)), detR (V sm.1 sm.2), detR (.int .i64 tk), detR (V (uu.1 - vv.1) (uu.2 - vv.2)), detR (V (sm.1 + tk * (uu.1 - vv.1)) (sm.2 + tk * (uu.2 - vv.2)))]) (fun _ => false) (by kernel_rfl) (by simp) (by kernel_rfl) (stab_nth (by simp [stab_det])) ?_ ?_ ?_
        · intro i o hi ho
          match i, hi with
          | 0, _ =>
            obtain rfl := Option.some.inj ho
            intro u' x' hd
            have hc := Past.cell x'
            simp [go_sem, gives, frm, Act.put, nthR, detR, Region.wanted, Below.refl]
          | 1, _ =>
            obtain rfl := Option.some.inj ho
            intro u' x' hd
            have hc := Past.cell x'
            have d0 := hd 0 (by decide) (by kernel_rfl)
            simp only [nthR, detR, List.getD_cons_zero] at d0
            simp [go_sem, gives, frm, Act.put, nthR, detR, Region.wanted, Below.refl, hc, d0, k0, kz]
          | 2, _ =>
            obtain rfl := Option.some.inj ho
            intro u' x' hd
            have hc := Past.cell x'
            simp [go_sem, gives, frm, Act.put, nthR, detR, Region.wanted, Below.refl]
          | 3, _ =>
            obtain rfl := Option.some.inj ho
            intro u' x' hd
            have hc := Past.cell x'
            have d1 := hd 1 (by decide) (by kernel_rfl)
            have d2 := hd 2 (by decide) (by kernel_rfl)
            simp only [nthR, detR, List.getD_cons_zero, List.getD_cons_succ] at d1 d2
            simp [go_sem, gives, frm, Act.put, nthR, detR, Region.wanted, Below.refl, d1, d2, WRZ.out]
          | 4, _ =>
            obtain rfl := Option.some.inj ho
            intro u' x' hd
            have hc := Past.cell x'
            simp [go_sem, gives, frm, Act.put, nthR, detR, Region.wanted, Below.refl]
          | 5, _ =>
            obtain rfl := Option.some.inj ho
            intro u' x' hd
            have hc := Past.cell x'
            have d4 := hd 4 (by decide) (by kernel_rfl)
            simp only [nthR, detR, List.getD_cons_zero, List.getD_cons_succ] at d4
            simp [go_sem, gives, frm, Act.put, nthR, detR, Region.wanted, Below.refl, hc, d4, k2, k3, kz]
          | 6, _ =>
            obtain rfl := Option.some.inj ho
            intro u' x' hd
            have hc := Past.cell x'
            simp [go_sem, gives, frm, Act.put, nthR, detR, Region.wanted, Below.refl]
          | 7, _ =>
            obtain rfl := Option.some.inj ho
            intro u' x' hd
            have hc := Past.cell x'
            simp [go_sem, gives, frm, Act.put, nthR, detR, Region.wanted, Below.refl, hc, b0, b1, bz]
          | 8, _ =>
            obtain rfl := Option.some.inj ho
            intro u' x' hd
            have hc := Past.cell x'
            have d5 := hd 5 (by decide) (by kernel_rfl)
            have d6 := hd 6 (by decide) (by kernel_rfl)
            have d7 := hd 7 (by decide) (by kernel_rfl)
            simp only [nthR, detR, List.getD_cons_zero, List.getD_cons_succ] at d5 d6 d7
            simp [go_sem, gives, frm, Act.put, nthR, detR, Region.wanted, d5, d6, d7]
            exact HAL.out _
          | i + 9, h => exact absurd h (by omega)
        · intro i o h; cases h
        · intro u' x' hu hne
          have d3 := hu 3 (by decide); have d8 := hu 8 (by decide)
          simp only [nthR, detR, List.getD_cons_zero, List.getD_cons_succ] at d3 d8
          simp only [frm, List.take, Act.put, d3, d8]
          clear d3 d8 hu hne
          have hb8 : Below w7.heap.size w7 x'.1 := x'.2
          generalize x'.1 = w8 at *
          have hB8 := HB7.out.past hb8
          have HB8 := hidE hB8
          have HBE8 := hidE (bstep hb8 HBE7.out)
          have HB28 := hidE ((HL5.out.past hb7').past hb8)
          clear k0 k2 k3 kz kf b0 b1 bz
          have k0 := hB8.cell 0; have k2 := hB8.cell 2; have k3 := hB8.cell 3; have kz := hB8.lt; have kf := hB8.free
          simp at k0 k2 k3
          clear hB8 hb8
          go_wp2
          go_roundg ((curF F (z + tk)).length + (curF F (z + tk + n)).length)
          case measure =>
            have := HGH.out
            rw [← HFZ.out, ← HFQ.out] at this
            rcases HSP.out with h | h
            · omega
            · have := h.2.2.2.2; omega
          case rel =>
            refine ⟨rfl, rfl, z + tk, z, z + n, a3, a4, c3, c4, by omega, htk.2, by omega, by omega, Nat.le_refl _, ?_, ?_, HRR.out.1.2, ?_, HRR.out.2.2, ?_, ?_, ?_, HQ.out.2, ?_⟩
            · rw [← HFZ.out, ← HFQ.out, ← HVV.out, ← HUU.out, HQ.out.1]
              have q := ((HB8.out.set 0 (.int .i64 (z + tk))).set 2 (.int .i64 (sm.1 + tk * (uu.1 - vv.1)))).set 3 (.int .i64 (sm.2 + tk * (uu.2 - vv.2)))
              simpa using q
            · rw [← HFZ.out]; exact HRR.out.1.1
            · rw [← HFQ.out]; exact HRR.out.2.1
            · rw [← HFZ.out]; exact HA3.out
            · rw [← HFQ.out]; exact HA4.out
            · exact ((HB28.out.other (by omega) _).other (by omega) _).other (by omega) _
            · exact ((HBE8.out.setCell (p := ⟨w.heap.size, 0, none⟩) (Nat.le_refl _) _).setCell (p := ⟨w.heap.size, 2, none⟩) (Nat.le_refl _) _).setCell (p := ⟨w.heap.size, 3, none⟩) (Nat.le_refl _) _
end Go.Proofs.Ythgenmejjflceaa

namespace Go.Proofs.Ythgenmejjflceaa
open Go.ChangeShapes Go.WideShapes Go.ChangeAt Go.RowKit Go.Shelf
attribute [local irreducible] Go.Calls

set_option maxRecDepth 100000 in
set_option maxHeartbeats 2000000 in
theorem overP_c (F : List Sg) (x n l1 l2 : Int) (a : Option Addr) (cap : Nat) (w : World) (hl : F.length ≤ cap) (hc : cap ≤ 9223372036854775807) (hl2 : F.length ≤ 999999990) (hA : ArgS w a F) :
    Calls Try.prog 25 #[.slice a F.length cap, .int .i64 x, .int .i64 n, V l1 l2] w fun e w' => e = .returned (T3 (overS F x n (l1, l2))) ∧ Below w.heap.size w w' := by
  have HA := hidE hA; clear hA
  have HV := hidE (fun w hA => pmay_c F a cap w (by omega) hA)
  cases hm : mayB F
  · rw [overS_form hm]
    rw [hm] at HV
    clear hm
    go_enter Try.func25, Try.ntmps25
    go_wp2_with fail
    ((with_reducible refine (HV.out _ (HA.out.past (by (repeat (first | exact Below.refl _ _ | assumption | refine balloc ?_ _ | refine below_drewN ?_ _ | refine bstep (by assumption) ?_ | refine bstep (Past.prop _) ?_ | refine Below.setCell ?_ (by first | exact Nat.le_refl _ | (simp; done) | (simp; omega)) _))))).mono ?_); rintro e w1 ⟨rfl, hb1⟩)
    go_wp2
    refine bodyPost_ret (v := T3 (0, false, 5)) (by simp [results, Try.results25, go_sem]) rfl ⟨rfl, ?_⟩
    (repeat (first | exact Below.refl _ _ | assumption | refine balloc ?_ _ | refine below_drewN ?_ _ | refine bstep (by assumption) ?_ | refine bstep (Past.prop _) ?_ | refine Below.setCell ?_ (by first | exact Nat.le_refl _ | (simp; done) | (simp; omega)) _))
  rw [hm] at HV
  cases hg : overArg x n
  · rw [overS_arg hm hg]
    have hq := overArg_not hg
    clear hm hg
    rcases hq with h | ⟨h, h2⟩ | ⟨h, h2, h3⟩ | ⟨h, h2, h3, h4⟩
    · have e1 : decide (n < 1) = true := decide_eq_true h
      go_enter Try.func25, Try.ntmps25
      go_wp2_with fail
      ((with_reducible refine (HV.out _ (HA.out.past (by (repeat (first | exact Below.refl _ _ | assumption | refine balloc ?_ _ | refine below_drewN ?_ _ | refine bstep (by assumption) ?_ | refine bstep (Past.prop _) ?_ | refine Below.setCell ?_ (by first | exact Nat.le_refl _ | (simp; done) | (simp; omega)) _))))).mono ?_); rintro e w1 ⟨rfl, hb1⟩)
      go_wp2
      refine bodyPost_ret (v := T3 (0, false, 2)) (by simp [results, Try.results25, go_sem]) rfl ⟨rfl, ?_⟩
      (repeat (first | exact Below.refl _ _ | assumption | refine balloc ?_ _ | refine below_drewN ?_ _ | refine bstep (by assumption) ?_ | refine bstep (Past.prop _) ?_ | refine Below.setCell ?_ (by first | exact Nat.le_refl _ | (simp; done) | (simp; omega)) _))
    · have e1 : decide (n < 1) = false := decide_eq_false (by omega)
      have e2 : decide (4096 < n) = true := decide_eq_true h2
      go_enter Try.func25, Try.ntmps25
      go_wp2_with fail
      ((with_reducible refine (HV.out _ (HA.out.past (by (repeat (first | exact Below.refl _ _ | assumption | refine balloc ?_ _ | refine below_drewN ?_ _ | refine bstep (by assumption) ?_ | refine bstep (Past.prop _) ?_ | refine Below.setCell ?_ (by first | exact Nat.le_refl _ | (simp; done) | (simp; omega)) _))))).mono ?_); rintro e w1 ⟨rfl, hb1⟩)
      go_wp2
      refine bodyPost_ret (v := T3 (0, false, 2)) (by simp [results, Try.results25, go_sem]) rfl ⟨rfl, ?_⟩
      (repeat (first | exact Below.refl _ _ | assumption | refine balloc ?_ _ | refine below_drewN ?_ _ | refine bstep (by assumption) ?_ | refine bstep (Past.prop _) ?_ | refine Below.setCell ?_ (by first | exact Nat.le_refl _ | (simp; done) | (simp; omega)) _))
    · have e1 : decide (n < 1) = false := decide_eq_false (by omega)
      have e2 : decide (4096 < n) = false := decide_eq_false (by omega)
      have e3 : decide (x < -562949953421312) = true := decide_eq_true h3
      go_enter Try.func25, Try.ntmps25
      go_wp2_with fail
      ((with_reducible refine (HV.out _ (HA.out.past (by (repeat (first | exact Below.refl _ _ | assumption | refine balloc ?_ _ | refine below_drewN ?_ _ | refine bstep (by assumption) ?_ | refine bstep (Past.prop _) ?_ | refine Below.setCell ?_ (by first | exact Nat.le_refl _ | (simp; done) | (simp; omega)) _))))).mono ?_); rintro e w1 ⟨rfl, hb1⟩)
      go_wp2
      refine bodyPost_ret (v := T3 (0, false, 2)) (by simp [results, Try.results25, go_sem]) rfl ⟨rfl, ?_⟩
      (repeat (first | exact Below.refl _ _ | assumption | refine balloc ?_ _ | refine below_drewN ?_ _ | refine bstep (by assumption) ?_ | refine bstep (Past.prop _) ?_ | refine Below.setCell ?_ (by first | exact Nat.le_refl _ | (simp; done) | (simp; omega)) _))
    · have e1 : decide (n < 1) = false := decide_eq_false (by omega)
      have e2 : decide (4096 < n) = false := decide_eq_false (by omega)
      have e3 : decide (x < -562949953421312) = false := decide_eq_false (by omega)
      have e4 : decide (562949953421312 < x) = true := decide_eq_true h4
      go_enter Try.func25, Try.ntmps25
      go_wp2_with fail
      ((with_reducible refine (HV.out _ (HA.out.past (by (repeat (first | exact Below.refl _ _ | assumption | refine balloc ?_ _ | refine below_drewN ?_ _ | refine bstep (by assumption) ?_ | refine bstep (Past.prop _) ?_ | refine Below.setCell ?_ (by first | exact Nat.le_refl _ | (simp; done) | (simp; omega)) _))))).mono ?_); rintro e w1 ⟨rfl, hb1⟩)
      go_wp2
      refine bodyPost_ret (v := T3 (0, false, 2)) (by simp [results, Try.results25, go_sem]) rfl ⟨rfl, ?_⟩
      (repeat (first | exact Below.refl _ _ | assumption | refine balloc ?_ _ | refine below_drewN ?_ _ | refine bstep (by assumption) ?_ | refine bstep (Past.prop _) ?_ | refine Below.setCell ?_ (by first | exact Nat.le_refl _ | (simp; done) | (simp; omega)) _))
  obtain ⟨g1, g2, g3, g4⟩ := overArg_iff.1 hg
  have e1 : decide (n < 1) = false := decide_eq_false (by omega)
  have e2 : decide (4096 < n) = false := decide_eq_false (by omega)
  have e3 : decide (x < -562949953421312) = false := decide_eq_false (by omega)
  have e4 : decide (562949953421312 < x) = false := decide_eq_false (by omega)
  cases ho : okV l1 l2
  · rw [overS_range hm hg ho]
    clear hm hg
    go_enter Try.func25, Try.ntmps25
    go_wp2_with fail
    ((with_reducible refine (HV.out _ (HA.out.past (by (repeat (first | exact Below.refl _ _ | assumption | refine balloc ?_ _ | refine below_drewN ?_ _ | refine bstep (by assumption) ?_ | refine bstep (Past.prop _) ?_ | refine Below.setCell ?_ (by first | exact Nat.le_refl _ | (simp; done) | (simp; omega)) _))))).mono ?_); rintro e w1 ⟨rfl, hb1⟩)
    have B1 : Blk w1 w.heap.size #[.int .i64 l1, .int .i64 l2] 26 := (Blk.made _ _ _).past hb1
    have c0 := B1.cell 0; have c1 := B1.cell 1; have z1 := B1.lt
    simp at c0 c1
    go_wp2_with fail
    ((with_reducible refine (may_eq ho).mono ?_); rintro e w2 ⟨rfl, hb2⟩)
    go_wp2
    refine bodyPost_ret (v := T3 (0, false, 10)) (by simp [results, Try.results25, go_sem]) rfl ⟨rfl, ?_⟩
    (repeat (first | exact Below.refl _ _ | assumption | refine balloc ?_ _ | refine below_drewN ?_ _ | refine bstep (by assumption) ?_ | refine bstep (Past.prop _) ?_ | refine Below.setCell ?_ (by first | exact Nat.le_refl _ | (simp; done) | (simp; omega)) _))
  have HN := hidE (fun h => over_never (F := F) (x := x) (n := n) (l := (l1, l2)) hm hg ho h)
  have HF := hidE (fun t h1 h2 h3 => over_first (F := F) (x := x) (n := n) (t := t) (l := (l1, l2)) hm hg ho h1 h2 h3)
  have hC := mayB_iff.1 hm
  obtain ⟨m, rfl⟩ : ∃ m : Nat, n = m := ⟨n.toNat, by omega⟩
  rw [Int.toNat_natCast] at HN HF
  have hbad : badW F x (x + m) = 0 := badW_ok hm (wndB_iff.2 (by omega))
  have HTS := hidE (totS_ok hbad)
  rw [show (x + (m : Int) - x).toNat = m by omega] at HTS
  have HSU := hidE (fun w hA => sum_c F x (x + m) a cap w (by omega) hA)
  rw [HTS.out] at HSU
  have HOV := hidE (fun w hA => over_c F x m (l1, l2) a cap w hl hc hA hC ⟨g3, g4⟩ (by omega) ho)
  clear hm hg hbad hC HTS
  unfold OvR at HOV
  generalize overS F x m (l1, l2) = D at *
  generalize sumN F x m = q at *
  go_enter Try.func25, Try.ntmps25
  go_wp2_with fail
  ((with_reducible refine (HV.out _ (HA.out.past (by (repeat (first | exact Below.refl _ _ | assumption | refine balloc ?_ _ | refine below_drewN ?_ _ | refine bstep (by assumption) ?_ | refine bstep (Past.prop _) ?_ | refine Below.setCell ?_ (by first | exact Nat.le_refl _ | (simp; done) | (simp; omega)) _))))).mono ?_); rintro e w1 ⟨rfl, hb1⟩)
  have B1 : Blk w1 w.heap.size #[.int .i64 l1, .int .i64 l2] 26 := (Blk.made _ _ _).past hb1
  have c0 := B1.cell 0; have c1 := B1.cell 1; have z1 := B1.lt
  simp at c0 c1
  have HB1 := hidE (show Below w.heap.size w w1 by (repeat (first | exact Below.refl _ _ | assumption | refine balloc ?_ _ | refine below_drewN ?_ _ | refine bstep (by assumption) ?_ | refine bstep (Past.prop _) ?_ | refine Below.setCell ?_ (by first | exact Nat.le_refl _ | (simp; done) | (simp; omega)) _)))
  have HBB := hidE B1
  clear hb1 B1 HV
  go_wp2_with fail
  ((with_reducible refine (may_eq ho).mono ?_); rintro e w2 ⟨rfl, hb2⟩)
  have HB2 := hidE (bstep hb2 HB1.out)
  have HBB2 := hidE (HBB.out.past hb2)
  clear hb2 HB1 HBB c0 c1 z1 ho
  go_wp2_with fail
  ((with_reducible refine (HSU.out _ (HA.out.past HB2.out)).mono ?_); rintro e w3 ⟨rfl, hb3⟩)
  have HB3 := hidE (bstep hb3 HB2.out)
  have hBB3 := HBB2.out.past hb3
  have c0 := hBB3.cell 0; have c1 := hBB3.cell 1; have z1 := hBB3.lt
  simp at c0 c1
  clear hb3 hBB3 HB2 HBB2 HSU
  go_wp2_with fail
  ((with_reducible refine (HOV.out _ (HA.out.past (by have := HB3.out; (repeat (first | exact Below.refl _ _ | assumption | refine balloc ?_ _ | refine below_drewN ?_ _ | refine bstep (by assumption) ?_ | refine bstep (Past.prop _) ?_ | refine Below.setCell ?_ (by first | exact Nat.le_refl _ | (simp; done) | (simp; omega)) _))))).mono ?_); rintro e w4 ⟨⟨r, rfl, hr⟩, hb4⟩)
  have HB4 := hidE (show Below w.heap.size w w4 by have := HB3.out; (repeat (first | exact Below.refl _ _ | assumption | refine balloc ?_ _ | refine below_drewN ?_ _ | refine bstep (by assumption) ?_ | refine bstep (Past.prop _) ?_ | refine Below.setCell ?_ (by first | exact Nat.le_refl _ | (simp; done) | (simp; omega)) _)))
  clear hb4 c0 c1 z1
  have HR := hidE hr
  clear hr
  go_wp2
  refine bodyPost_ret (v := T3 (r.1, r.2, 0)) (by simp [results, Try.results25, go_sem]) rfl ⟨?_, HB4.out⟩
  rcases HR.out with ⟨rfl, h⟩ | ⟨t, rfl, h1, h2, h3⟩
  · rw [HN.out h]
  · rw [HF.out t h1 h2 h3]
end Go.Proofs.Ythgenmejjflceaa
