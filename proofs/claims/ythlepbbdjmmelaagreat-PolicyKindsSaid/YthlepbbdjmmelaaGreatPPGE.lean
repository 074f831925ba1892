/- The contract of rle.At and what it calls. No conditions but that the list's cells read as integers. The contract of rle.At. No conditions but that the list's cells read as integers. The contract of calc.LE. No conditions but the lists' sizes, and that the slices' cells read as integers. The contract of the document's own LE of functions. No conditions but the lists' sizes. A range over a function whose body keeps a block of its own, made in an earlier round (a slice that it appends to): an iterator's contract with that block named, and the law for its caller. Program-free. No conditions. The contract of the iterator (span.window).stretches: it hands on the stretches of the window, one after the other. No conditions but that the slice's cells read as integers, and sizes. The contract of (span.window).evaluate: an error, or each of the window's stretches is handed on. No conditions but that the slice's cells read as integers, sizes, and what the function that is handed the stretches keeps. The contracts of span.along, Sum, Low and High. No conditions but the lists' sizes, and that the slices' cells read as integers. The contracts of span.above, (slide).straight and (cursor).move. No conditions but sizes, and that the slices' cells read as integers. -/
import Derived.Test.YthlepbbdjmmelaaGreatPPGA
import Derived.LoopTactic
import Derived.Deep.LoopGhost
import Derived.WalkMore
import Derived.ScopeJumps
import Derived.Deep.DeepCutAuto
import Derived.Outline
import Derived.Test.YthlepbbdjmmelaaGreatPPGD
import Derived.Test.YthlepbbdjmmelaaGreatPPMA
import Derived.Test.YthlepbbdjmmelaaGreatPPGC
import Derived.Test.YthlepbbdjmmelaaGreatPPMB
import Derived.OwnWalkIn
import Derived.RangeFuncCalls
import Derived.Shelf.Abstract
import Derived.BigRegion
namespace Go.Proofs.YthlepbbdjmmelaaGreat
open Go.ChangeShapes Go.WideShapes Go.ChangeAt Go.RowKit
attribute [local irreducible] Go.Calls

set_option maxHeartbeats 1000000 in
theorem scan_c (l : List Sg) (a : Option Addr) (cap : Nat) (t : Int) (w : World) (hl : l.length ≤ 9223372036854775807) (hA : ArgS w a l) :
    Calls Tryz.prog 203 #[.slice a l.length cap, .int .i64 t] w (RetN w fun n => n ≤ l.length ∧ (n = 0 ∨ ats l (n - 1) ≤ t) ∧ ∀ i, n ≤ i → i < l.length → t < ats l i) := by
  have HA := hidE hA; clear hA
  go_enter Tryz.func203, Tryz.ntmps203
  go_wp2
  go_loop [5] (fun i => ∃ n : Nat, n ≤ l.length ∧ i = .int .i64 n ∧ ∀ i, n ≤ i → i < l.length → t < ats l i) (fun i => (intOf i).toNat)
  case atStart => exact ⟨l.length, Nat.le_refl _, rfl, fun i h1 h2 => by omega⟩
  case round =>
    obtain ⟨n, hn, rfl, h2⟩ := hrel
    have H2 := hidE h2; clear h2
    by_cases h0 : n = 0
    · subst h0
      go_wp2
      go_ret
      exact ⟨0, rfl, ⟨hn, .inl rfl, H2.out⟩, Below.refl _ _⟩
    · obtain ⟨k, rfl⟩ : ∃ k, n = k + 1 := ⟨n - 1, by omega⟩
      obtain ⟨b, off, rfl, hb, hc⟩ := HA.out (by omega)
      obtain ⟨c0, c1, c2⟩ := hc.get (i := k) (by omega)
      clear hc HA
      by_cases hgt : t < ats l k
      · have HX := hidE (show ∀ i, k ≤ i → i < l.length → t < ats l i from fun i h1 h2 => by
          by_cases e : i = k
          · rw [e]; exact hgt
          · exact H2.out i (by omega) h2)
        generalize ats l k = u at *
        go_wp2
        go_round
        case rel => exact ⟨k, by omega, by go_num, HX.out⟩
        case measure => simp [intOf]
      · have HX := hidE (show ats l (k + 1 - 1) ≤ t by rw [Nat.add_sub_cancel]; omega)
        generalize ats l k = u at *
        go_wp2
        go_ret
        exact ⟨k + 1, by go_num, ⟨hn, .inr HX.out, H2.out⟩, Below.refl _ _⟩

set_option maxHeartbeats 1000000 in
theorem sorted_c (l : List Sg) (a : Option Addr) (cap : Nat) (w : World) (hl : l.length ≤ 9223372036854775807) (hA : ArgS w a l) :
    Calls Tryz.prog 201 #[.slice a l.length cap, .func (.func 202) #[] #[]] w (RetB w fun r => r = true → Asc l) := by
  have HA := hidE hA; clear hA
  go_enter Tryz.func201, Tryz.ntmps201
  go_wp2
  go_loopg [5] l.length (fun g vi wr => ∃ n : Nat, n ≤ l.length ∧ n ≤ g ∧ vi = .int .i64 ((n : Int) - 1) ∧ (∀ i, n ≤ i + 1 → i + 1 < l.length → ats l i ≤ ats l (i + 1)) ∧ Below w.heap.size w wr)
  case atStart => exact ⟨l.length, Nat.le_refl _, Nat.le_refl _, rfl, fun i h1 h2 => by omega, Below.refl _ _⟩
  case round =>
    obtain ⟨n, hn, hg, rfl, h2, hb⟩ := hrel
    have H2 := hidE h2; have HB := hidE hb; clear h2 hb
    by_cases h0 : n ≤ 1
    · have hz : ¬ (0 : Int) < (n : Int) - 1 := by omega
      have hz' : ¬ (1 : Int) < (n : Int) := by omega
      go_wp2
      go_ret
      exact ⟨true, rfl, fun _ i h => H2.out i (by omega) h, HB.out⟩
    · obtain ⟨k, rfl⟩ : ∃ k, n = k + 2 := ⟨n - 2, by omega⟩
      obtain ⟨b, off, rfl, hb, hc⟩ := (HA.out.past HB.out) (by omega)
      obtain ⟨c0, c1, c2⟩ := hc.get (i := k) (by omega)
      obtain ⟨d0, d1, d2⟩ := hc.get (i := k + 1) (by omega)
      clear hc
      have e1 : (k : Int) + 2 - 1 = (k : Int) + 1 := by omega
      have z : b < wr.heap.size := hb
      by_cases hlt : ats l (k + 1) < ats l k
      · have hd : decide (cmpI (ats l (k + 1)) (ats l k) < 0) = true := by rw [cmpI_neg]; exact decide_eq_true hlt
        generalize ats l k = u at *
        generalize ats l (k + 1) = v at *
        go_wp2
        try simp only [e1]
        refine wp_region_past_lit (by kernel_rfl) (by kernel_rfl) ?_
        have hc := Past.cell (W := wr)
        repeat (go_big_quiet_step ((go_at_call 202; exact Past.call _ (byAt_c _ _ _ _ _ _ _))))
        refine wpQuiet_nil ?_
        rintro _ ⟨x', rfl⟩
        go_wp2
        go_ret
        exact ⟨false, rfl, (fun h => by cases h), bstep x'.2 HB.out⟩
      · have hd : decide (cmpI (ats l (k + 1)) (ats l k) < 0) = false := by rw [cmpI_neg]; exact decide_eq_false hlt
        have HX := hidE (show ∀ i, k + 1 ≤ i + 1 → i + 1 < l.length → ats l i ≤ ats l (i + 1) from fun i h1 h2 => by
          by_cases e : i = k
          · rw [e]; omega
          · exact H2.out i (by omega) h2)
        generalize ats l k = u at *
        generalize ats l (k + 1) = v at *
        go_wp2
        try simp only [e1]
        refine wp_region_past_lit (by kernel_rfl) (by kernel_rfl) ?_
        have hc := Past.cell (W := wr)
        repeat (go_big_quiet_step ((go_at_call 202; exact Past.call _ (byAt_c _ _ _ _ _ _ _))))
        refine wpQuiet_nil ?_
        rintro _ ⟨x', rfl⟩
        go_wp2
        go_roundg (k + 1)
        case measure => omega
        case rel => exact ⟨k + 1, by omega, Nat.le_refl _, by go_num, HX.out, bstep x'.2 HB.out⟩

set_option maxHeartbeats 1000000 in
theorem search_c (l : List Sg) (a : Option Addr) (cap : Nat) (t : Int) (w : World) (hl : l.length ≤ 9223372036854775807) (hA : ArgS w a l) :
    Calls Tryz.prog 200 #[.slice a l.length cap, .int .i64 t] w (RetN w fun n => n ≤ l.length ∧ Found l t n) := by
  have HA := hidE hA; clear hA
  go_enter Tryz.func200, Tryz.ntmps200
  go_wp2
  refine wp_scope_jumps 0 (fun a' w' => w' = w ∧ ∃ (lo hi : Nat) (u7 u8 u9 u10 u11 u12 u13 u14 u15 u16 u17 u18 u19 u20 u21 u22 u23 u24 u25 u26 u27 u28 u29 : Value), a' = { tmps := #[.slice a l.length cap, .int .i64 t, undef, undef, .int .i64 0, .int .i64 lo, .int .i64 hi, u7, u8, u9, u10, u11, u12, u13, u14, u15, u16, u17, u18, u19, u20, u21, u22, u23, u24, u25, u26, u27, u28, u29], defers := [] } ∧ lo ≤ hi ∧ hi ≤ l.length ∧ (lo = 0 ∨ ats l (lo - 1) ≤ t) ∧ (hi = l.length ∨ t < ats l hi)) (fun a' _ => (intOf (a'.tmps.getD 6 undef) - intOf (a'.tmps.getD 5 undef)).toNat) rfl ?_ ?_
  · by_cases hlt : l.length = 0
    · have e1 : ((0 : Int) == (l.length : Int)) = true := beq_iff_eq.2 (by omega)
      go_wp2
      go_step3
      go_wp2
      simp only [Exit.jump]
      go_ret
      exact ⟨0, rfl, ⟨Nat.zero_le _, .inl rfl, .inl (by omega)⟩, Below.refl _ _⟩
    · have e1 : ((0 : Int) == (l.length : Int)) = false := beq_eq_false_iff_ne.2 (by omega)
      obtain ⟨q, eq⟩ : ∃ q : Nat, (l.length : Int) / 2 = (q : Int) := ⟨l.length / 2, by omega⟩
      have b1 : 0 ≤ q := by omega
      have b2 : q < l.length := by omega
      have EM := hidE eq
      obtain ⟨b, off, rfl, hb, hc⟩ := HA.out (by omega)
      obtain ⟨c0, c1, c2⟩ := hc.get (i := q) (by omega)
      clear hc eq c1 c2
      by_cases hle : ats l q ≤ t
      · have HX := hidE hle
        generalize hu : ats l q = u at *
        have HU := hidE hu
        clear hu
        go_wp2
        go_step3
        go_upto_region 5 with fail
        simp only [EM.out]
        go_wp2
        go_step3
        exact ⟨rfl, ⟨rfl, q + 1, l.length, _, _, _, _, _, _, _, _, _, _, _, _, _, _, _, _, _, _, _, _, _, _, _, (by go_num), by omega, by omega, .inr (by rw [Nat.add_sub_cancel, HU.out]; exact HX.out), (.inl rfl)⟩⟩
      · have HX := hidE hle
        generalize hu : ats l q = u at *
        have HU := hidE hu
        clear hu
        go_wp2
        go_step3
        go_upto_region 5 with fail
        simp only [EM.out]
        go_wp2
        go_step3
        exact ⟨rfl, ⟨rfl, 0, q, _, _, _, _, _, _, _, _, _, _, _, _, _, _, _, _, _, _, _, _, _, _, _, rfl, by omega, by omega, (.inl rfl), .inr (by rw [HU.out]; have := HX.out; omega)⟩⟩
  · rintro a' w' ⟨rfl, lo, hi, u7, u8, u9, u10, u11, u12, u13, u14, u15, u16, u17, u18, u19, u20, u21, u22, u23, u24, u25, u26, u27, u28, u29, rfl, h1, h2, h3, h4⟩
    have H3 := hidE h3; have H4 := hidE h4; clear h3 h4
    by_cases hlt : lo = hi
    · subst hlt
      have e1 : ((lo : Int) == (lo : Int)) = true := beq_self_eq_true _
      go_wp2
      simp only [Exit.jump]
      go_ret
      exact ⟨lo, rfl, ⟨h2, H3.out, H4.out⟩, Below.refl _ _⟩
    · have e1 : ((lo : Int) == (hi : Int)) = false := beq_eq_false_iff_ne.2 (by omega)
      obtain ⟨q, eq⟩ : ∃ q : Nat, (lo : Int) + ((hi : Int) - (lo : Int)) / 2 = (q : Int) := ⟨lo + (hi - lo) / 2, by omega⟩
      have b1 : lo ≤ q := by omega
      have b2 : q < hi := by omega
      have EM := hidE eq
      obtain ⟨b, off, rfl, hb, hc⟩ := HA.out (by omega)
      obtain ⟨c0, c1, c2⟩ := hc.get (i := q) (by omega)
      clear hc eq c1 c2
      by_cases hle : ats l q ≤ t
      · have HX := hidE hle
        generalize hu : ats l q = u at *
        have HU := hidE hu
        clear hu
        go_upto_region 5 with fail
        simp only [EM.out]
        go_wp2
        go_step3
        exact ⟨rfl, ⟨rfl, q + 1, hi, _, _, _, _, _, _, _, _, _, _, _, _, _, _, _, _, _, _, _, _, _, _, _, (by go_num), by omega, by omega, .inr (by rw [Nat.add_sub_cancel, HU.out]; exact HX.out), H4.out⟩, by simp [intOf]; omega⟩
      · have HX := hidE hle
        generalize hu : ats l q = u at *
        have HU := hidE hu
        clear hu
        go_upto_region 5 with fail
        simp only [EM.out]
        go_wp2
        go_step3
        exact ⟨rfl, ⟨rfl, lo, q, _, _, _, _, _, _, _, _, _, _, _, _, _, _, _, _, _, _, _, _, _, _, _, rfl, by omega, by omega, H3.out, .inr (by rw [HU.out]; have := HX.out; omega)⟩, by simp [intOf]; omega⟩
end Go.Proofs.YthlepbbdjmmelaaGreat

namespace Go.Proofs.YthlepbbdjmmelaaGreat
open Go.ChangeShapes Go.WideShapes Go.ChangeAt Go.RowKit
attribute [local irreducible] Go.Calls

/-- The end of At, from where the number of runs up to the time is known. -/
theorem at_tail_eq {l : List Sg} {t : Int} {n : Nat} (hv : vat l t = if n = 0 then (0, 0) else vls l (n - 1)) (h0 : n = 0) : V 0 0 = V (vat l t).1 (vat l t).2 := by rw [hv, if_pos h0]
theorem at_tail_ne {l : List Sg} {t : Int} {n : Nat} (hv : vat l t = if n = 0 then (0, 0) else vls l (n - 1)) (h0 : n ≠ 0) : V (vls l (n - 1)).1 (vls l (n - 1)).2 = V (vat l t).1 (vat l t).2 := by rw [hv, if_neg h0]
set_option maxHeartbeats 1000000 in
theorem at_c (l : List Sg) (a : Option Addr) (cap : Nat) (t : Int) (w : World) (hl : l.length ≤ 9223372036854775807) (hA : ArgS w a l) :
    Calls Tryz.prog 189 #[.slice a l.length cap, .int .i64 t] w fun e w' => e = .returned (V (vat l t).1 (vat l t).2) ∧ Below w.heap.size w w' := by
  have HA := hidE hA; clear hA
  go_enter Tryz.func189, Tryz.ntmps189
  go_wp2_with fail
  ((with_reducible refine (search_c l a cap t _ hl (HA.out.past (by (repeat (first | exact Below.refl _ _ | assumption | refine balloc ?_ _ | refine below_drewN ?_ _ | refine bstep (by assumption) ?_ | refine bstep (Past.prop _) ?_ | refine Below.setCell ?_ (by first | exact Nat.le_refl _ | (simp; done) | (simp; omega)) _))))).mono ?_); rintro e w1 ⟨n, rfl, ⟨hn, hf⟩, hb1⟩)
  have HF := hidE hf; clear hf
  have hb1' : Below w.heap.size w w1 := by (repeat (first | exact Below.refl _ _ | assumption | refine balloc ?_ _ | refine below_drewN ?_ _ | refine bstep (by assumption) ?_ | refine bstep (Past.prop _) ?_ | refine Below.setCell ?_ (by first | exact Nat.le_refl _ | (simp; done) | (simp; omega)) _))
  have B1 : Blk w1 w.heap.size #[.int .i64 0, .int .i64 0] 65 := (Blk.made _ _ _).past hb1
  have HB1 := hidE hb1'; clear hb1 hb1'
  go_wp2_with fail
  ((with_reducible refine (sorted_c l a cap _ hl (HA.out.past HB1.out)).mono ?_); rintro e w2 ⟨r, rfl, hr, hb2⟩)
  have HR := hidE hr; clear hr
  have hb2' : Below w.heap.size w w2 := by have := HB1.out; (repeat (first | exact Below.refl _ _ | assumption | refine balloc ?_ _ | refine below_drewN ?_ _ | refine bstep (by assumption) ?_ | refine bstep (Past.prop _) ?_ | refine Below.setCell ?_ (by first | exact Nat.le_refl _ | (simp; done) | (simp; omega)) _))
  have B := B1.past hb2
  have HB := hidE hb2'; clear hb2 hb2' HB1 B1
  cases r
  · go_wp2_with fail
    ((with_reducible refine (scan_c l a cap t _ hl (HA.out.past HB.out)).mono ?_); rintro e w3 ⟨m, rfl, ⟨hm, h1, h2⟩, hb3⟩)
    have HV := hidE (vat_of hm h1 h2)
    have hb3' : Below w.heap.size w w3 := by have := HB.out; (repeat (first | exact Below.refl _ _ | assumption | refine balloc ?_ _ | refine below_drewN ?_ _ | refine bstep (by assumption) ?_ | refine bstep (Past.prop _) ?_ | refine Below.setCell ?_ (by first | exact Nat.le_refl _ | (simp; done) | (simp; omega)) _))
    have B := B.past hb3
    clear HF HB h1 h2 hb3 hn
    have HB := hidE hb3'; clear hb3'
    obtain ⟨n, rfl⟩ : ∃ n' : Nat, n' = m := ⟨m, rfl⟩
    have hn := hm; clear hm
    obtain ⟨w2, rfl⟩ : ∃ w' : World, w' = w3 := ⟨w3, rfl⟩

    by_cases h0 : n = 0
    · have HT := hidE (at_tail_eq HV.out h0)
      have e1 : ((n : Int) == 0) = true := beq_iff_eq.2 (by omega)
      have g0 := B.cell 0; have g1 := B.cell 1; have gf := B.free; have gz := B.lt
      simp at g0 g1
      clear h0
      go_wp2_with fail
      have B1 := (B.set 0 (.int .i64 0)).set 1 (.int .i64 0)
      have q0 := B1.cell 0; have q1 := B1.cell 1
      simp at q0 q1
      refine bodyPost_ret (v := V 0 0) (by simp [results, Tryz.results189, go_sem, q0, q1]) rfl ⟨ret_v HT.out, ?_⟩
      have hbb := HB.out
      (repeat (first | exact Below.refl _ _ | assumption | refine balloc ?_ _ | refine below_drewN ?_ _ | refine bstep (by assumption) ?_ | refine bstep (Past.prop _) ?_ | refine Below.setCell ?_ (by first | exact Nat.le_refl _ | (simp; done) | (simp; omega)) _))
    · obtain ⟨k, rfl⟩ : ∃ k, n = k + 1 := ⟨n - 1, by omega⟩
      have e1 : ((k : Int) + 1 == 0) = false := beq_eq_false_iff_ne.2 (by omega)
      obtain ⟨b, off, rfl, hb, hc⟩ := HA.out (by omega)
      obtain ⟨c0, c1, c2⟩ := (hc.below HB.out hb).get (i := k) (by omega)
      have hz : b < w2.heap.size := Nat.lt_of_lt_of_le hb HB.out.size
      have HT := hidE (at_tail_ne HV.out (by omega))
      rw [Nat.add_sub_cancel] at HT
      have g0 := B.cell 0; have g1 := B.cell 1; have gf := B.free; have gz := B.lt
      simp at g0 g1
      clear hc c0
      generalize vls l k = v at *
      have hne : b ≠ w.heap.size := by omega
      go_wp2_with fail
      have B1 := (B.set 0 (.int .i64 v.1)).set 1 (.int .i64 v.2)
      have q0 := B1.cell 0; have q1 := B1.cell 1
      simp at q0 q1
      refine bodyPost_ret (v := V v.1 v.2) (by simp [results, Tryz.results189, go_sem, q0, q1]) rfl ⟨ret_v HT.out, ?_⟩
      have hbb := HB.out
      (repeat (first | exact Below.refl _ _ | assumption | refine balloc ?_ _ | refine below_drewN ?_ _ | refine bstep (by assumption) ?_ | refine bstep (Past.prop _) ?_ | refine Below.setCell ?_ (by first | exact Nat.le_refl _ | (simp; done) | (simp; omega)) _))

  · have HV := hidE (HF.out.vat hn (HR.out rfl))
    clear HF

    by_cases h0 : n = 0
    · have HT := hidE (at_tail_eq HV.out h0)
      have e1 : ((n : Int) == 0) = true := beq_iff_eq.2 (by omega)
      have g0 := B.cell 0; have g1 := B.cell 1; have gf := B.free; have gz := B.lt
      simp at g0 g1
      clear h0
      go_wp2_with fail
      have B1 := (B.set 0 (.int .i64 0)).set 1 (.int .i64 0)
      have q0 := B1.cell 0; have q1 := B1.cell 1
      simp at q0 q1
      refine bodyPost_ret (v := V 0 0) (by simp [results, Tryz.results189, go_sem, q0, q1]) rfl ⟨ret_v HT.out, ?_⟩
      have hbb := HB.out
      (repeat (first | exact Below.refl _ _ | assumption | refine balloc ?_ _ | refine below_drewN ?_ _ | refine bstep (by assumption) ?_ | refine bstep (Past.prop _) ?_ | refine Below.setCell ?_ (by first | exact Nat.le_refl _ | (simp; done) | (simp; omega)) _))
    · obtain ⟨k, rfl⟩ : ∃ k, n = k + 1 := ⟨n - 1, by omega⟩
      have e1 : ((k : Int) + 1 == 0) = false := beq_eq_false_iff_ne.2 (by omega)
      obtain ⟨b, off, rfl, hb, hc⟩ := HA.out (by omega)
      obtain ⟨c0, c1, c2⟩ := (hc.below HB.out hb).get (i := k) (by omega)
      have hz : b < w2.heap.size := Nat.lt_of_lt_of_le hb HB.out.size
      have HT := hidE (at_tail_ne HV.out (by omega))
      rw [Nat.add_sub_cancel] at HT
      have g0 := B.cell 0; have g1 := B.cell 1; have gf := B.free; have gz := B.lt
      simp at g0 g1
      clear hc c0
      generalize vls l k = v at *
      have hne : b ≠ w.heap.size := by omega
      go_wp2_with fail
      have B1 := (B.set 0 (.int .i64 v.1)).set 1 (.int .i64 v.2)
      have q0 := B1.cell 0; have q1 := B1.cell 1
      simp at q0 q1
      refine bodyPost_ret (v := V v.1 v.2) (by simp [results, Tryz.results189, go_sem, q0, q1]) rfl ⟨ret_v HT.out, ?_⟩
      have hbb := HB.out
      (repeat (first | exact Below.refl _ _ | assumption | refine balloc ?_ _ | refine below_drewN ?_ _ | refine bstep (by assumption) ?_ | refine bstep (Past.prop _) ?_ | refine Below.setCell ?_ (by first | exact Nat.le_refl _ | (simp; done) | (simp; omega)) _))

end Go.Proofs.YthlepbbdjmmelaaGreat

namespace Go.Proofs.YthlepbbdjmmelaaGreat
open Go.ChangeShapes Go.WideShapes Go.ChangeAt Go.RowKit Go.Shelf
attribute [local irreducible] Go.Calls
attribute [local go_sem] Oper.semAt_some

theorem run_store_nilF {P : Program} {w : World} {a : Addr} {m : Mode} : (store a .nilFunc m).run P w = stored P w a .nilFunc m := run_store P w a _ m rfl
attribute [local go_sem] run_store_nilF
abbrev M3 (r : Int × Bool × Int) : Value := .tuple #[.int .i64 r.1, .bool r.2.1, .int .i64 r.2.2]
/-- Between two rounds. -/
def LeI (x : Int) (w : World) (pre : List Tg) (W : World) : Prop :=
  Below w.heap.size w W ∧ Blk W w.heap.size #[.int .i64 x] 2 ∧ Blk W (w.heap.size + 1) #[.int .i64 0] 2 ∧ Blk W (w.heap.size + 1 + 1) #[.bool false] 4 ∧ Blk W (w.heap.size + 1 + 1 + 1) #[.int .i64 0] 28 ∧ ∀ q ∈ pre, cndLE x q = false
/-- A round has left. -/
def LeX (F G : List Sg) (x : Int) (w : World) (c : Code) (W : World) : Prop :=
  c = .ret ∧ Below w.heap.size w W ∧ Blk W (w.heap.size + 1) #[.int .i64 (leS F G x).1] 2 ∧ Blk W (w.heap.size + 1 + 1) #[.bool (leS F G x).2.1] 4 ∧ Blk W (w.heap.size + 1 + 1 + 1) #[.int .i64 (leS F G x).2.2] 28
theorem leI_below {x : Int} {w : World} {pre : List Tg} {A B : World} {n : Nat} (hn : w.heap.size + 1 + 1 + 1 < n) (h : LeI x w pre A) (hb : Below n A B) : LeI x w pre B := by
  obtain ⟨h1, h2, h3, h4, h5, h6⟩ := h
  exact ⟨h1.trans (hb.mono (by omega)), h2.below hb (by omega), h3.below hb (by omega), h4.below hb (by omega), h5.below hb (by omega), h6⟩
theorem leX_below {F G : List Sg} {x : Int} {w : World} {c : Code} {A B : World} {n : Nat} (hn : w.heap.size + 1 + 1 + 1 < n) (h : LeX F G x w c A) (hb : Below n A B) : LeX F G x w c B := by
  obtain ⟨h1, h2, h3, h4, h5⟩ := h
  exact ⟨h1, h2.trans (hb.mono (by omega)), h3.below hb (by omega), h4.below hb (by omega), h5.below hb (by omega)⟩

set_option maxRecDepth 100000 in
set_option maxHeartbeats 4000000 in
theorem cle_c (F G : List Sg) (x : Int) (a a' : Option Addr) (cap cap' : Nat) (w : World) (hF : F.length ≤ cap) (hc : cap ≤ 9223372036854775807) (hG : G.length ≤ cap') (hc' : cap' ≤ 9223372036854775807) (hl : F.length + G.length ≤ 999999980) (hA : ArgS w a F) (hA' : ArgS w a' G) :
    Calls Tryz.prog 169 #[.slice a F.length cap, .slice a' G.length cap', .int .i64 x] w fun e w' => e = .returned (M3 (leS F G x)) ∧ Below w.heap.size w w' := by
  have HA := hidE hA; have HA' := hidE hA'
  have HCN := hidE (fun w p t h hA hA' => canon_two F G p a a' cap cap' 2 t w (by omega) h hA hA')
  have HATF := hidE (fun w hA => at_c F a cap x w (by omega) hA)
  have HATG := hidE (fun w hA => at_c G a' cap' x w (by omega) hA)
  have HSEQ := hidE (fun w' hb => tog_c F G a a' cap cap' .nilFunc w w' hF hc hG hc' (by omega) hA hA' hb)
  clear hA hA' hF hc hG hc'
  obtain ⟨wS, hwS⟩ : ∃ wS, wS = ((((w.alloc (Obj.cells #[Value.int IntKind.i64 x] 2)).alloc (Obj.cells #[Value.int IntKind.i64 0] 2)).alloc (Obj.cells #[Value.bool false] 4)).alloc (Obj.cells #[Value.int IntKind.i64 0] 28)).alloc (Obj.cells #[Value.slice a F.length cap, Value.slice a' G.length cap'] 22) := ⟨_, rfl⟩
  have BS : Blk wS (w.heap.size + 1 + 1 + 1 + 1) #[.slice a F.length cap, .slice a' G.length cap'] 22 := hwS ▸ Blk.made_at _ _ _ _ (by simp)
  have B0 : Blk wS w.heap.size #[.int .i64 x] 2 := hwS ▸ ((((Blk.made _ _ _).alloc _).alloc _).alloc _).alloc _
  have B1 : Blk wS (w.heap.size + 1) #[.int .i64 0] 2 := hwS ▸ (((Blk.made_at _ _ _ _ (by simp)).alloc _).alloc _).alloc _
  have B2 : Blk wS (w.heap.size + 1 + 1) #[.bool false] 4 := hwS ▸ ((Blk.made_at _ _ _ _ (by simp)).alloc _).alloc _
  have B3 : Blk wS (w.heap.size + 1 + 1 + 1) #[.int .i64 0] 28 := hwS ▸ (Blk.made_at _ _ _ _ (by simp)).alloc _
  have hBS : Below w.heap.size w wS := by rw [hwS]; (repeat (first | exact Below.refl _ _ | assumption | refine balloc ?_ _ | refine below_drewN ?_ _ | refine bstep (by assumption) ?_ | refine bstep (Past.prop _) ?_ | refine Below.setCell ?_ (by first | exact Nat.le_refl _ | (simp; done) | (simp; omega)) _))
  have HBS := hidE hBS; have HB0 := hidE B0; have HB1 := hidE B1; have HB2 := hidE B2; have HB3 := hidE B3; have HSS := hidE BS
  clear hBS B0 B1 B2 B3 BS
  refine (callsIn_wide (n := 0)).1 (callsIn_of_wp_marks Tryz.func169 rfl trivial ((wpIn_wide (n := 0)).2 ?_))
  simp only [Tryz.ntmps169, List.size_toArray, List.length_cons, List.length_nil, Nat.reduceAdd, Nat.reduceSub, Array.replicate_succ, Array.replicate_zero, List.push_toArray, List.append_toArray, List.nil_append, List.cons_append]
  cases hm : (mayB F && mayB G)
  · have HE := hidE (leS_formL (x := x) hm)
    rw [hm] at HCN
    clear HSEQ HATF HATG hm
    go_wp2_with fail
    rw [← hwS]
    ((with_reducible refine (HCN.out _ _ _ HSS.out (HA.out.past HBS.out) (HA'.out.past HBS.out)).mono ?_); rintro e w1 ⟨rfl, hb1⟩)
    have q1 := HB1.out.past hb1; have q2 := HB2.out.past hb1; have q3 := HB3.out.past hb1
    have hB : Below w.heap.size w w1 := bstep hb1 HBS.out
    have p1 := q1.cell 0; have p2 := q2.cell 0; have p3 := q3.cell 0; have f1 := q1.free; have f2 := q2.free; have f3 := q3.free; have z1 := q1.lt; have z2 := q2.lt; have z3 := q3.lt
    simp at p1 p2 p3
    have Q3 := ((q3.other (b := w.heap.size + 1) (i := 0) (by omega) (.int .i64 0)).other (b := w.heap.size + 1 + 1) (i := 0) (by omega) (.bool false)).set 0 (.int .i64 5)
    have Q2 := ((q2.other (b := w.heap.size + 1) (i := 0) (by omega) (.int .i64 0)).set 0 (.bool false)).other (b := w.heap.size + 1 + 1 + 1) (i := 0) (by omega) (.int .i64 5)
    have Q1 := ((q1.set 0 (.int .i64 0)).other (b := w.heap.size + 1 + 1) (i := 0) (by omega) (.bool false)).other (b := w.heap.size + 1 + 1 + 1) (i := 0) (by omega) (.int .i64 5)
    have r1 := Q1.cell 0; have r2 := Q2.cell 0; have r3 := Q3.cell 0
    simp at r1 r2 r3
    have R1 := hidE r1; have R2 := hidE r2; have R3 := hidE r3
    clear hb1 q1 q2 q3 Q1 Q2 Q3 r1 r2 r3
    go_wp2
    refine ⟨M3 (0, false, 5), by simp [results, Tryz.results169, go_sem, R1.out, R2.out, R3.out], by rw [HE.out], ?_⟩
    (repeat (first | exact Below.refl _ _ | assumption | refine balloc ?_ _ | refine below_drewN ?_ _ | refine bstep (by assumption) ?_ | refine bstep (Past.prop _) ?_ | refine Below.setCell ?_ (by first | exact Nat.le_refl _ | (simp; done) | (simp; omega)) _))
  · obtain ⟨h1, h2⟩ : mayB F = true ∧ mayB G = true := by simpa using hm
    rw [hm] at HCN
    clear hm
    go_wp2_with fail
    rw [← hwS]
    ((with_reducible refine (HCN.out _ _ _ HSS.out (HA.out.past HBS.out) (HA'.out.past HBS.out)).mono ?_); rintro e w1 ⟨rfl, hb1⟩)
    have q0 := HB0.out.past hb1; have q1 := HB1.out.past hb1; have q2 := HB2.out.past hb1; have q3 := HB3.out.past hb1
    have hB : Below w.heap.size w w1 := bstep hb1 HBS.out
    have HB := hidE hB
    have p0 := q0.cell 0; have z0 := q0.lt; have z3 := q3.lt
    simp at p0
    have Q0 := hidE q0; have Q1 := hidE q1; have Q2 := hidE q2; have Q3 := hidE q3
    have HAF := hidE (HA.out.past HB.out); have HAG := hidE (HA'.out.past HB.out)
    clear hb1 q1 q2 q3 hB HB0 HB1 HB2 HB3 HSS HA HA'
    have HV := hidE (fun w => le (vat F x).1 (vat F x).2 (vat G x).1 (vat G x).2 w)
    cases hle : leB (vat F x).1 (vat F x).2 (vat G x).1 (vat G x).2
    · have HE := hidE (le_first h1 h2 hle)
      rw [hle] at HV
      clear HSEQ h1 h2 hle
      generalize vat F x = y at *
      generalize vat G x = z at *
      go_wp2_with fail
      refine wp_region_past_lit (by kernel_rfl) (by kernel_rfl) ?_
      have hcp := Past.cell (W := w1)
      repeat (go_big_quiet_step (first | (go_at_call 189; first | exact Past.call _ (HATF.out _ (HAF.out.past (Past.prop _))) | exact Past.call _ (HATG.out _ (HAG.out.past (Past.prop _)))) | (go_at_call 113; exact Past.call _ (HV.out _))))
      refine wpQuiet_nil ?_
      rintro _ ⟨x', rfl⟩
      have o1 : Below w.heap.size w x'.1 := bstep x'.2 HB.out
      have q0 := Q0.out.past x'.2; have q1 := Q1.out.past x'.2; have q2 := Q2.out.past x'.2; have q3 := Q3.out.past x'.2
      clear hcp p0 z0 z3
      generalize x'.1 = w2 at *
      have p0 := q0.cell 0; have p1 := q1.cell 0; have p2 := q2.cell 0; have p3 := q3.cell 0; have f1 := q1.free; have f2 := q2.free; have f3 := q3.free; have z0 := q0.lt; have z1 := q1.lt; have z2 := q2.lt; have z3 := q3.lt
      simp at p0 p1 p2 p3
      have Q3 := ((q3.other (b := w.heap.size + 1) (i := 0) (by omega) (.int .i64 x)).other (b := w.heap.size + 1 + 1) (i := 0) (by omega) (.bool false)).set 0 (.int .i64 0)
      have Q2 := ((q2.other (b := w.heap.size + 1) (i := 0) (by omega) (.int .i64 x)).set 0 (.bool false)).other (b := w.heap.size + 1 + 1 + 1) (i := 0) (by omega) (.int .i64 0)
      have Q1 := ((q1.set 0 (.int .i64 x)).other (b := w.heap.size + 1 + 1) (i := 0) (by omega) (.bool false)).other (b := w.heap.size + 1 + 1 + 1) (i := 0) (by omega) (.int .i64 0)
      have r1 := Q1.cell 0; have r2 := Q2.cell 0; have r3 := Q3.cell 0
      simp at r1 r2 r3
      have R1 := hidE r1; have R2 := hidE r2; have R3 := hidE r3
      clear q0 q1 q2 q3 Q1 Q2 Q3 r1 r2 r3
      go_wp2
      refine ⟨M3 (x, false, 0), by simp [results, Tryz.results169, go_sem, R1.out, R2.out, R3.out], by rw [HE.out], ?_⟩
      (repeat (first | exact Below.refl _ _ | assumption | refine balloc ?_ _ | refine below_drewN ?_ _ | refine bstep (by assumption) ?_ | refine bstep (Past.prop _) ?_ | refine Below.setCell ?_ (by first | exact Nat.le_refl _ | (simp; done) | (simp; omega)) _))
    · have HHIT := hidE (fun pre p h3 h4 h5 => le_hit (pre := pre) (p := p) h1 h2 hle h3 h4 h5)
      have HNO := hidE (fun h => le_none h1 h2 hle h)
      rw [hle] at HV
      clear h1 h2 hle
      generalize vat F x = y at *
      generalize vat G x = z at *
      go_wp2_with fail
      refine wp_region_past_lit (by kernel_rfl) (by kernel_rfl) ?_
      have hcp := Past.cell (W := w1)
      repeat (go_big_quiet_step (first | (go_at_call 189; first | exact Past.call _ (HATF.out _ (HAF.out.past (Past.prop _))) | exact Past.call _ (HATG.out _ (HAG.out.past (Past.prop _)))) | (go_at_call 113; exact Past.call _ (HV.out _))))
      refine wpQuiet_nil ?_
      rintro _ ⟨x', rfl⟩
      have o1 : Below w.heap.size w x'.1 := bstep x'.2 HB.out
      have q0 := Q0.out.past x'.2; have q1 := Q1.out.past x'.2; have q2 := Q2.out.past x'.2; have q3 := Q3.out.past x'.2
      clear hcp p0 z0 z3
      generalize x'.1 = w2 at *
      clear HATF HATG HAF HAG HV HCN Q0 Q1 Q2 Q3
      have z3 := q3.lt
      go_wp2
      have HI0 : LeI x w [] (w2.alloc (Obj.cells #[Value.slice a F.length cap, Value.slice a' G.length cap', Value.nilFunc] 190)) := ⟨by (repeat (first | exact Below.refl _ _ | assumption | refine balloc ?_ _ | refine below_drewN ?_ _ | refine bstep (by assumption) ?_ | refine bstep (Past.prop _) ?_ | refine Below.setCell ?_ (by first | exact Nat.le_refl _ | (simp; done) | (simp; omega)) _)), q0.alloc _, q1.alloc _, q2.alloc _, q3.alloc _, fun q hq => by simp at hq⟩
      have HB5 : Below w.heap.size w (w2.alloc (Obj.cells #[Value.slice a F.length cap, Value.slice a' G.length cap', Value.nilFunc] 190)) := by (repeat (first | exact Below.refl _ _ | assumption | refine balloc ?_ _ | refine below_drewN ?_ _ | refine bstep (by assumption) ?_ | refine bstep (Past.prop _) ?_ | refine Below.setCell ?_ (by first | exact Nat.le_refl _ | (simp; done) | (simp; omega)) _))
      have HZ5 : w.heap.size + 1 + 1 + 1 < (w2.alloc (Obj.cells #[Value.slice a F.length cap, Value.slice a' G.length cap', Value.nilFunc] 190)).heap.size := by simp; omega
      clear q0 q1 q2 q3 o1
      generalize w2.alloc (Obj.cells #[Value.slice a F.length cap, Value.slice a' G.length cap', Value.nilFunc] 190) = W5 at *
      refine wp_rangeFunc_T (n₀ := w.heap.size) (S := togL F G) rfl (enters_of Tryz.func143 (by kernel_rfl) rfl) HB5.size (HSEQ.out _ HB5) (fun _ => rfl)
        (LeI x w) (fun c _ W => LeX F G x w c W)
        (fun s A B h hb => leI_below HZ5 h hb) (fun c s A B h hb => leX_below HZ5 h hb) HI0
        (fun p a1 W => ∃ (Bx : Nat) (u0 u1 u2 u3 u4 u9 u12 u13 u14 u15 u16 u17 u18 u19 u20 u21 u22 u23 u24 u25 u26 u27 u28 u29 u30 u31 u32 u33 u34 u35 u36 u37 u38 u39 u40 u41 u42 u43 u44 : Value), W5.heap.size ≤ Bx ∧ Blk W Bx #[.int .i64 p.2.1.1, .int .i64 p.2.1.2, .int .i64 p.2.2.1, .int .i64 p.2.2.2] 208 ∧ a1 = { tmps := #[u0, u1, u2, u3, u4, .pointer (some ⟨w.heap.size, 0, none⟩), .pointer (some ⟨w.heap.size + 1, 0, none⟩), .pointer (some ⟨w.heap.size + 1 + 1, 0, none⟩), .pointer (some ⟨w.heap.size + 1 + 1 + 1, 0, none⟩), u9, .int .i64 p.1, .pointer (some ⟨Bx, 0, none⟩), u12, u13, u14, u15, u16, u17, u18, u19, u20, u21, u22, u23, u24, u25, u26, u27, u28, u29, u30, u31, u32, u33, u34, u35, u36, u37, u38, u39, u40, u41, u42, u43, u44], defers := [] })
        ?hax ?assign ?body ?done ?stop
      case hax =>
        rintro p a1 A l r o ⟨Bx, u0, u1, u2, u3, u4, u9, u12, u13, u14, u15, u16, u17, u18, u19, u20, u21, u22, u23, u24, u25, u26, u27, u28, u29, u30, u31, u32, u33, u34, u35, u36, u37, u38, u39, u40, u41, u42, u43, u44, h1, h2, h3⟩ hlr
        exact ⟨Bx, _, _, _, _, _, _, _, _, _, _, _, _, _, _, _, _, _, _, _, _, _, _, _, _, _, _, _, _, _, _, _, _, _, _, _, _, _, _, _, h1, (World.putObj_heap_other (fun e => by subst e; rw [show A.heap[Bx]? = _ from h2] at hlr; cases hlr)).trans h2, h3⟩
      case assign =>
        intro l pre p W K hsz hi hK
        dsimp only [encT]
        gi_wp2
        exact hK _ _ (Outside.of_below ((Below.refl _ _).alloc (Nat.le_refl _) _) (by omega)) (leI_below HZ5 hi ((Below.refl _ _).alloc hsz _)) ⟨W.heap.size, _, _, _, _, _, _, _, _, _, _, _, _, _, _, _, _, _, _, _, _, _, _, _, _, _, _, _, _, _, _, _, _, _, _, _, _, _, _, _, by omega, Blk.made _ _ _, rfl⟩
      case body =>
        rintro l pre p a1 W hsz ⟨i1, i2, i3, i4, i5, i6⟩ ⟨Bx, u0, u1, u2, u3, u4, u9, u12, u13, u14, u15, u16, u17, u18, u19, u20, u21, u22, u23, u24, u25, u26, u27, u28, u29, u30, u31, u32, u33, u34, u35, u36, u37, u38, u39, u40, u41, u42, u43, u44, hBx, bX, rfl⟩ hpre
        clear HI0 HSEQ
        have c0 := i2.cell 0; have c1 := i3.cell 0; have c2 := i4.cell 0; have c3 := i5.cell 0; have f1 := i3.free; have f2 := i4.free; have f3 := i5.free
        have y0 := bX.cell 0; have y1 := bX.cell 1; have y2 := bX.cell 2; have y3 := bX.cell 3; have yz := bX.lt
        have t0 := i2.lt; have t1 := i3.lt; have t2 := i4.lt; have t3 := i5.lt
        simp at c0 c1 c2 c3 y0 y1 y2 y3
        by_cases hx : x < p.1
        · have hd : decide (x < p.1) = true := decide_eq_true hx
          have HLE := hidE (le p.2.1.1 p.2.1.2 p.2.2.1 p.2.2.2 W)
          have HCD := hidE (show cndLE x p = !(leB p.2.1.1 p.2.1.2 p.2.2.1 p.2.2.2) by unfold cndLE; rw [hd]; rfl)
          clear hx
          cases hb : leB p.2.1.1 p.2.1.2 p.2.2.1 p.2.2.2
          all_goals
            rw [hb] at HLE HCD
            gi_wp2_with fail
            refine ⟨trivial, rfl, (CallsIn.inRound l (callsIn_wide.2 HLE.out)).mono ?_⟩
            rintro e w3 ⟨rfl, hb3⟩
            have o3 : Outside w.heap.size W5.heap.size W w3 := Outside.of_below hb3 i1.size
          · have HD := hidE (HHIT.out pre p hpre i6 HCD.out)
            have q1 := i3.past hb3; have q2 := i4.past hb3; have q3 := i5.past hb3
            clear c0 c1 c2 c3 f1 f2 f3 y0 y1 y2 y3 yz t0 t1 t2 t3 hb3 bX
            have c1 := q1.cell 0; have c2 := q2.cell 0; have c3 := q3.cell 0; have f1 := q1.free; have f2 := q2.free; have f3 := q3.free; have t1 := q1.lt; have t2 := q2.lt; have t3 := q3.lt
            simp at c1 c2 c3
            gi_wp2
            have o4 : Outside w.heap.size W5.heap.size w3 _ := Outside.of_grown (grown_set w3 (w.heap.size + 1) 0 (.int .i64 p.1)) (by omega) (by omega) (by omega)
            have o5 : Outside w.heap.size W5.heap.size _ _ := Outside.of_grown (grown_set (w3.setCell ⟨w.heap.size + 1, 0, none⟩ (.int .i64 p.1)) (w.heap.size + 1 + 1) 0 (.bool false)) (by omega) (by omega) (by simp [World.setCell]; omega)
            have o6 : Outside w.heap.size W5.heap.size _ _ := Outside.of_grown (grown_set ((w3.setCell ⟨w.heap.size + 1, 0, none⟩ (.int .i64 p.1)).setCell ⟨w.heap.size + 1 + 1, 0, none⟩ (.bool false)) (w.heap.size + 1 + 1 + 1) 0 (.int .i64 0)) (by omega) (by omega) (by simp [World.setCell]; omega)
            have oo := ((o3.trans o4).trans o5).trans o6
            refine ⟨oo, rfl, i1.trans oo.below, ?_, ?_, ?_⟩
            · rw [HD.out]
              simpa using ((q1.set 0 (.int .i64 p.1)).other (b := w.heap.size + 1 + 1) (i := 0) (by omega) (.bool false)).other (b := w.heap.size + 1 + 1 + 1) (i := 0) (by omega) (.int .i64 0)
            · rw [HD.out]
              simpa using ((q2.other (b := w.heap.size + 1) (i := 0) (by omega) (.int .i64 p.1)).set 0 (.bool false)).other (b := w.heap.size + 1 + 1 + 1) (i := 0) (by omega) (.int .i64 0)
            · rw [HD.out]
              simpa using ((q3.other (b := w.heap.size + 1) (i := 0) (by omega) (.int .i64 p.1)).other (b := w.heap.size + 1 + 1) (i := 0) (by omega) (.bool false)).set 0 (.int .i64 0)
          · gi_wp2
            refine ⟨o3, leI_below (n := W5.heap.size) HZ5 ⟨i1, i2, i3, i4, i5, fun q hq => ?_⟩ (hb3.mono hsz)⟩
            rcases List.mem_append.1 hq with h | h
            · exact i6 q h
            · simp at h; subst h; exact HCD.out
        · have hd : decide (x < p.1) = false := decide_eq_false hx
          have HCD := hidE (show cndLE x p = false by unfold cndLE; rw [hd]; rfl)
          clear hx
          gi_wp2
          refine ⟨trivial, ?_⟩
          gi_wp2
          refine ⟨Outside.refl _ _ _, i1, i2, i3, i4, i5, fun q hq => ?_⟩
          rcases List.mem_append.1 hq with h | h
          · exact i6 q h
          · simp at h; subst h; exact HCD.out
      case done =>
        rintro D W hD ⟨i1, i2, i3, i4, i5, i6⟩ hK
        have HE := hidE (HNO.out i6)
        have hDz : D < W.heap.size := (Array.getElem?_eq_some_iff.1 hK).1
        have c1 := i3.cell 0; have c2 := i4.cell 0; have c3 := i5.cell 0; have f1 := i3.free; have f2 := i4.free; have f3 := i5.free
        have t1 := i3.lt; have t2 := i4.lt; have t3 := i5.lt
        simp at c1 c2 c3
        have hkf : (((W.setCell ⟨w.heap.size + 1, 0, none⟩ (.int .i64 0)).setCell ⟨w.heap.size + 1 + 1, 0, none⟩ (.bool true)).setCell ⟨w.heap.size + 1 + 1 + 1, 0, none⟩ (.int .i64 0)).heap[D]? = some (.deferred (some [])) :=
          (Below.heap_setCell _ _ _ _ (by simp; omega)).trans ((Below.heap_setCell _ _ _ _ (by simp; omega)).trans ((Below.heap_setCell _ _ _ _ (by simp; omega)).trans hK))
        have r1 := ((((i3.set 0 (.int .i64 0)).other (b := w.heap.size + 1 + 1) (i := 0) (by omega) (.bool true)).other (b := w.heap.size + 1 + 1 + 1) (i := 0) (by omega) (.int .i64 0)).put (b := D) (by omega) (.deferred none)).cell 0
        have r2 := ((((i4.other (b := w.heap.size + 1) (i := 0) (by omega) (.int .i64 0)).set 0 (.bool true)).other (b := w.heap.size + 1 + 1 + 1) (i := 0) (by omega) (.int .i64 0)).put (b := D) (by omega) (.deferred none)).cell 0
        have r3 := ((((i5.other (b := w.heap.size + 1) (i := 0) (by omega) (.int .i64 0)).other (b := w.heap.size + 1 + 1) (i := 0) (by omega) (.bool true)).set 0 (.int .i64 0)).put (b := D) (by omega) (.deferred none)).cell 0
        simp at r1 r2 r3
        have R1 := hidE r1; have R2 := hidE r2; have R3 := hidE r3; have HI1 := hidE i1; have HKF := hidE hkf
        clear HI0 HSEQ r1 r2 r3 i1 i2 i3 i4 i5 hkf hK
        go_wp2
        refine ⟨by simp, .inl ⟨_, _, rfl, run_takeDeferred HKF.out, ?_⟩⟩
        refine ⟨M3 (0, true, 0), by simp [results, Tryz.results169, go_sem, R1.out, R2.out, R3.out], by rw [HE.out], ?_⟩
        exact ((((HI1.out.setCell (p := ⟨w.heap.size + 1, 0, none⟩) (by simp) _).setCell (p := ⟨w.heap.size + 1 + 1, 0, none⟩) (by simp; omega) _).setCell (p := ⟨w.heap.size + 1 + 1 + 1, 0, none⟩) (by simp; omega) _)).trans (below_putObj _ _ _ (by omega))
      case stop =>
        rintro D c pre W hD hpre ⟨rfl, i1, i3, i4, i5⟩ hK
        have r1 := (i3.put (b := D) (by omega) (.deferred none)).cell 0
        have r2 := (i4.put (b := D) (by omega) (.deferred none)).cell 0
        have r3 := (i5.put (b := D) (by omega) (.deferred none)).cell 0
        simp at r1 r2 r3
        have R1 := hidE r1; have R2 := hidE r2; have R3 := hidE r3; have HI1 := hidE i1
        clear HI0 HSEQ r1 r2 r3 i1 i3 i4 i5
        go_wp2
        refine ⟨by simp, .inl ⟨_, _, rfl, run_takeDeferred hK, ?_⟩⟩
        refine ⟨M3 (leS F G x), by simp [results, Tryz.results169, go_sem, R1.out, R2.out, R3.out], rfl, ?_⟩
        exact HI1.out.trans (below_putObj _ _ _ (by omega))
end Go.Proofs.YthlepbbdjmmelaaGreat

namespace Go.Proofs.YthlepbbdjmmelaaGreat
open Go.ChangeShapes Go.WideShapes Go.ChangeAt Go.RowKit
attribute [local irreducible] Go.Calls

theorem leS_form {F G : List Sg} {x : Int} (h : (mayB F && mayB G) = false) : leS F G x = (0, false, 5) := by unfold leS; rw [if_pos h]
theorem leS_none {F G : List Sg} {x : Int} (h1 : mayB F = true) (h2 : mayB G = true) (h : ∀ i, i < (leT F G x).length → badT F G x ((leT F G x).getD i 0) = false) : leS F G x = (0, true, 0) := by
  unfold leS
  rw [h1, h2, if_neg (by decide)]
  have : (leT F G x).find? (badT F G x) = none := by
    rw [List.find?_eq_none]
    intro t ht
    obtain ⟨i, hi, rfl⟩ := List.getElem_of_mem ht
    have := h i hi
    rw [getD_get _ _ _ hi] at this
    rw [this]; exact Bool.false_ne_true
  rw [this]
theorem find_first {p : Int → Bool} : ∀ (l : List Int) (i : Nat), i < l.length → p (l.getD i 0) = true → (∀ j, j < i → p (l.getD j 0) = false) → l.find? p = some (l.getD i 0)
  | [], _, h, _, _ => by simp at h
  | y :: r, 0, _, h, _ => by
    rw [List.getD_cons_zero] at h ⊢
    rw [List.find?_cons_of_pos h]
  | y :: r, i + 1, hi, h, hj => by
    have h0 := hj 0 (by omega)
    rw [List.getD_cons_zero] at h0
    rw [List.find?_cons_of_neg (by rw [h0]; exact Bool.false_ne_true), List.getD_cons_succ]
    rw [List.getD_cons_succ] at h
    exact find_first r i (by simpa using hi) h fun j hj' => by
      have := hj (j + 1) (by omega)
      rw [List.getD_cons_succ] at this; exact this
theorem leS_bad {F G : List Sg} {x : Int} {i : Nat} (h1 : mayB F = true) (h2 : mayB G = true) (hi : i < (leT F G x).length) (hj : ∀ j, j < i → badT F G x ((leT F G x).getD j 0) = false) (h : badT F G x ((leT F G x).getD i 0) = true) : leS F G x = ((leT F G x).getD i 0, false, 0) := by
  unfold leS
  rw [h1, h2, if_neg (by decide), find_first _ i hi h hj]
theorem leT_len (F G : List Sg) (x : Int) : (leT F G x).length ≤ F.length + G.length + 1 := by
  have h1 := timesL_len (twoT F G ++ [x])
  have h2 := twoT_len F G
  unfold leT
  simp at h1
  omega
abbrev L3 (r : Int × Bool × Int) : Value := .tuple #[.int .i64 r.1, .bool r.2.1, .int .i64 r.2.2]

theorem rleq_form {F G : List Sg} {x : Int} {a a' : Option Addr} {cap cap' : Nat} {w : World} (hl : F.length + G.length ≤ 999999990) (hA : ArgS w a F) (hA' : ArgS w a' G) (h : (mayB F && mayB G) = false) :
    Calls Tryz.prog 81 #[.slice a F.length cap, .slice a' G.length cap', .int .i64 x] w fun e w' => e = .returned (L3 (leS F G x)) ∧ Below w.heap.size w w' := by
  rw [leS_form h]
  have HA := hidE hA; have HA' := hidE hA'; clear hA hA'
  have HV := hidE (fun w hA => rmayf_c F a cap w (by omega) hA)
  have HV' := hidE (fun w hA => rmayf_c G a' cap' w (by omega) hA)
  cases h1 : mayB F
  · rw [h1] at HV
    clear h HV'
    go_enter Tryz.func81, Tryz.ntmps81
    go_wp2_with fail
    ((with_reducible refine (HV.out _ HA.out).mono ?_); rintro e w1 ⟨rfl, hb1⟩)
    go_wp2
    exact bodyPost_ret (v := L3 (0, false, 5)) (by simp [results, Tryz.results81, go_sem]) rfl ⟨rfl, hb1⟩
  · have h2 : mayB G = false := by rw [h1] at h; simpa using h
    rw [h1] at HV; rw [h2] at HV'
    clear h
    go_enter Tryz.func81, Tryz.ntmps81
    go_wp2_with fail
    ((with_reducible refine (HV.out _ HA.out).mono ?_); rintro e w1 ⟨rfl, hb1⟩)
    have HB1 := hidE hb1; clear hb1
    go_wp2_with fail
    ((with_reducible refine (HV'.out _ (HA'.out.past HB1.out)).mono ?_); rintro e w2 ⟨rfl, hb2⟩)
    go_wp2
    exact bodyPost_ret (v := L3 (0, false, 5)) (by simp [results, Tryz.results81, go_sem]) rfl ⟨rfl, bstep hb2 HB1.out⟩

set_option maxRecDepth 100000 in
set_option maxHeartbeats 4000000 in
theorem rleq_c (F G : List Sg) (x : Int) (a a' : Option Addr) (cap cap' : Nat) (w : World) (hl : F.length + G.length ≤ 999999990) (hA : ArgS w a F) (hA' : ArgS w a' G) :
    Calls Tryz.prog 81 #[.slice a F.length cap, .slice a' G.length cap', .int .i64 x] w fun e w' => e = .returned (L3 (leS F G x)) ∧ Below w.heap.size w w' := by
  cases h : (mayB F && mayB G)
  · exact rleq_form hl hA hA' h
  obtain ⟨h1, h2⟩ : mayB F = true ∧ mayB G = true := by simpa using h
  have HGOOD := hidE (fun hi => leS_none (x := x) h1 h2 hi)
  have HBAD := hidE (fun i hi hj hb => leS_bad (x := x) (i := i) h1 h2 hi hj hb)
  have HTL := hidE (leT_len F G x)
  have HT2 := hidE (twoT_len F G)
  have HA := hidE hA; have HA' := hidE hA'; clear hA hA' h
  have HV := hidE (fun w hA => rmayf_c F a cap w (by omega) hA)
  have HV' := hidE (fun w hA => rmayf_c G a' cap' w (by omega) hA)
  rw [h1] at HV; rw [h2] at HV'
  clear h1 h2
  generalize leS F G x = D at *
  obtain ⟨i0, hi, hz0, hz1, hz2⟩ := info_parts Tryz.infoI64
  have HI := hidE hi; have HZ0 := hidE hz0; have HZ1 := hidE hz1; have HZ2 := hidE hz2
  clear hi hz0 hz1 hz2
  go_enter Tryz.func81, Tryz.ntmps81
  go_wp2_with fail
  ((with_reducible refine (HV.out _ HA.out).mono ?_); rintro e w1 ⟨rfl, hb1⟩)
  have HB1 := hidE hb1; clear hb1
  go_wp2_with fail
  ((with_reducible refine (HV'.out _ (HA'.out.past HB1.out)).mono ?_); rintro e w2 ⟨rfl, hb2⟩)
  have HB2 := hidE (bstep hb2 HB1.out); clear hb2 HV HV' HB1
  go_wp2_with fail
  ((with_reducible refine (rtwo_own F G a a' cap cap' _ (by omega) (HA.out.past HB2.out) (HA'.out.past HB2.out)).mono ?_); rintro e w3 ⟨v3, rfl, ho3, hb3⟩)
  have HB3 := hidE (bstep hb3 HB2.out); have HO3 := hidE (own_low ho3 HB2.out.size)
  clear hb3 ho3 HB2
  go_wp2_with (at_builtin; refine wpList_append_src rfl (.tmp 21) (.tmp 23) 59 rfl w.heap.size 2 i0 Tryz.underlying59 HI.out HZ0.out HZ1.out HZ2.out _ _ _ rfl (HO3.out.alloc _) _ [x] rfl (src_one (Blk.made _ _ _)) (by have := HT2.out; simp; omega) (by have := HB3.out.size; simp; omega) ?_; intro v4 w4 ho4 hg4)
  have hb4 : Below w.heap.size w w4 := Below.grown (HB3.out.alloc HB3.out.size (.cells #[.int .i64 x] 2)) hg4 (by have := HB3.out.size; simp; omega) (fun k hk => own_block HO3.out hk)
  have ho4' : w4.ownsRow w.heap.size 2 1 v4 (twoT F G ++ [x]).length (cellsI (twoT F G ++ [x])) := by
    rw [cellsI_app, List.length_append]; exact ho4
  obtain ⟨a4, c4, rfl, _, _, hA4⟩ := sliI_own ho4'
  have hrt := rtimes_c (twoT F G ++ [x]) a4 c4 w4 (by have := HT2.out; simp; omega) hA4
  have HRT := hidE hrt
  have HB4 := hidE hb4
  clear ho4 ho4' hg4 hb4 hA4 hrt HO3 HB3
  go_wp2_with fail
  ((with_reducible refine (HRT.out).mono ?_); rintro e w5 ⟨v5, rfl, ho5, hb5⟩)
  change w5.ownsRow w4.heap.size 2 1 v5 (leT F G x).length (cellsI (leT F G x)) at ho5
  obtain ⟨a5, c5, rfl, _, _, hA5⟩ := sliI_own ho5
  have HB5 := hidE (bstep hb5 HB4.out); have HA5 := hidE hA5
  clear hb5 hA5 ho5 HRT HB4
  generalize leT F G x = ts at *
  go_wp2_with fail
  go_loopg [10] ts.length (fun gh vi wr => ∃ n : Nat, vi = .int .i64 n ∧ n ≤ ts.length ∧ ts.length - n ≤ gh ∧ (∀ i, i < n → badT F G x (ts.getD i 0) = false) ∧ Below w5.heap.size w5 wr)
  case atStart => exact ⟨0, rfl, by omega, by omega, fun i hi => by omega, Below.refl _ _⟩
  case round =>
    obtain ⟨n, rfl, hn, hg, hs, hbr⟩ := hrel
    have HS := hidE hs; have HBR := hidE hbr
    clear hs
    by_cases hlt : n < ts.length
    · obtain ⟨b, off, rfl, hb, hc⟩ := (HA5.out.past hbr) (by omega)
      have d0 := hc n hlt
      have HAF := hidE (show ArgS wr a F from (HA.out.past HB5.out).past hbr)
      have HAG := hidE (show ArgS wr a' G from (HA'.out.past HB5.out).past hbr)
      have HATF := hidE (fun w hA => rat_c F a cap (ts.getD n 0) w (by omega) hA)
      have HATG := hidE (fun w hA => rat_c G a' cap' (ts.getD n 0) w (by omega) hA)
      have HLE := hidE (fun w => rle (vat F (ts.getD n 0)).1 (vat F (ts.getD n 0)).2 (vat G (ts.getD n 0)).1 (vat G (ts.getD n 0)).2 w)
      have HNB := hidE (fun hb => HBAD.out n hlt HS.out hb)
      have HNS := hidE (fun (he : badT F G x (ts.getD n 0) = false) => show ∀ i, i < n + 1 → badT F G x (ts.getD i 0) = false from fun i hi => by
        by_cases e : i = n
        · rw [e]; exact he
        · exact HS.out i (by omega))
      have HQ := hidE (show badT F G x (ts.getD n 0) = (decide (x ≤ ts.getD n 0) && !(leB (vat F (ts.getD n 0)).1 (vat F (ts.getD n 0)).2 (vat G (ts.getD n 0)).1 (vat G (ts.getD n 0)).2)) from rfl)
      clear hc hbr
      generalize vat F (ts.getD n 0) = y at *
      generalize vat G (ts.getD n 0) = z at *
      generalize badT F G x (ts.getD n 0) = bad at *
      generalize ts.getD n 0 = t at *
      obtain ⟨wo, rfl⟩ : ∃ wo : World, wo = wr := ⟨_, rfl⟩
      cases hd : decide (x ≤ t)
      · have HN := hidE (HNS.out (by rw [HQ.out, hd]; rfl))
        clear HNB HNS HQ HATF HATG HLE HAF HAG
        go_wp2_with fail
        refine wp_region_past_lit (by kernel_rfl) (by kernel_rfl) ?_
        have hcp := Past.cell (W := wo)
        repeat (go_big_quiet_step (fail))
        refine wpQuiet_nil ?_
        rintro _ ⟨x', rfl⟩
        have o1 : Below w5.heap.size w5 x'.1 := bstep x'.2 HBR.out
        clear hcp d0 hb
        generalize x'.1 = w6 at *
        go_wp2
        go_roundg (ts.length - (n + 1))
        case measure => omega
        case rel => exact ⟨n + 1, by go_num, by omega, Nat.le_refl _, HN.out, o1⟩
      · rw [hd, Bool.true_and] at HQ
        cases hle : leB y.1 y.2 z.1 z.2
        · have HD := hidE (HNB.out (by rw [HQ.out, hle]; rfl))
          rw [hle] at HLE
          clear HNB HNS HQ hle
          go_wp2_with fail
          refine wp_region_past_lit (by kernel_rfl) (by kernel_rfl) ?_
          have hcp := Past.cell (W := wo)
          repeat (go_big_quiet_step (first | (go_at_call 30; first | exact Past.call _ (HATF.out _ (HAF.out.past (Past.prop _))) | exact Past.call _ (HATG.out _ (HAG.out.past (Past.prop _)))) | (go_at_call 46; exact Past.call _ (HLE.out _))))
          refine wpQuiet_nil ?_
          rintro _ ⟨x', rfl⟩
          have o1 : Below w5.heap.size w5 x'.1 := bstep x'.2 HBR.out
          have r0 := (hcp x' b (off + n) hb).trans d0
          have hbz : b < x'.1.heap.size := Nat.lt_of_lt_of_le hb x'.2.size
          clear hcp d0 hb
          generalize x'.1 = w6 at *
          go_wp2
          exact bodyPost_ret (v := L3 (t, false, 0)) (by simp [results, Tryz.results81, go_sem]) rfl ⟨by rw [HD.out], HB5.out.trans (o1.mono HB5.out.size)⟩
        · have HN := hidE (HNS.out (by rw [HQ.out, hle]; rfl))
          rw [hle] at HLE
          clear HNB HNS HQ hle
          go_wp2_with fail
          refine wp_region_past_lit (by kernel_rfl) (by kernel_rfl) ?_
          have hcp := Past.cell (W := wo)
          repeat (go_big_quiet_step (first | (go_at_call 30; first | exact Past.call _ (HATF.out _ (HAF.out.past (Past.prop _))) | exact Past.call _ (HATG.out _ (HAG.out.past (Past.prop _)))) | (go_at_call 46; exact Past.call _ (HLE.out _))))
          refine wpQuiet_nil ?_
          rintro _ ⟨x', rfl⟩
          have o1 : Below w5.heap.size w5 x'.1 := bstep x'.2 HBR.out
          clear hcp d0 hb
          generalize x'.1 = w6 at *
          go_wp2
          go_roundg (ts.length - (n + 1))
          case measure => omega
          case rel => exact ⟨n + 1, by go_num, by omega, Nat.le_refl _, HN.out, o1⟩
    · have hn' : n = ts.length := by omega
      subst hn'
      have HD := hidE (HGOOD.out HS.out)
      go_wp2
      exact bodyPost_ret (v := L3 (0, true, 0)) (by simp [results, Tryz.results81, go_sem]) rfl ⟨by rw [HD.out], HB5.out.trans (HBR.out.mono HB5.out.size)⟩
end Go.Proofs.YthlepbbdjmmelaaGreat

namespace Go.Proofs.YthlepbbdjmmelaaGreat
open Go.RowKit

/-- The contract of an iterator value, as SeqT, with the one block that the body made in an earlier round and may write again (g: from where on the body's blocks lie, and that block). -/
def SeqO {α : Type} (P : Program) (gf : Nat) (rb lb : Array Value) (encs : α → Array Value) (n₀ : Nat) (S : List α) (w : World) : Prop :=
  ∀ (l : Nat) (J : List α → Option (Nat × Nat) → World → Prop) (Jx : List α → World → Prop) (W : World), Below w.heap.size w W →
    (∀ s g A B, J s g A → Below W.heap.size A B → (∀ b k, g = some (b, k) → B.heap[k]? = A.heap[k]?) → J s g B) → (∀ s g A, J s g A → ∀ b k, g = some (b, k) → b ≤ k ∧ k < A.heap.size) → (∀ s A B, Jx s A → Below W.heap.size A B → Jx s B) →
    (∀ pre x g W1, J pre g W1 → W.heap.size ≤ W1.heap.size → pre ++ [x] <+: S → YieldAt Fence.wide 0 P l (encs x) W1 fun e W' =>
      (e = .returned (.bool true) ∧ ∃ g', J (pre ++ [x]) g' W' ∧ Below n₀ W1 W' ∧ (∀ k, W.heap.size ≤ k → k < W1.heap.size → (∀ b, g ≠ some (b, k)) → W'.heap[k]? = W1.heap[k]?) ∧ (∀ b k, g' = some (b, k) → W1.heap.size ≤ b ∨ ∃ j, g = some (b, j))) ∨ (e = .returned (.bool false) ∧ Jx (pre ++ [x]) W')) →
    J [] none W →
    Calls P gf (rb ++ #[.func (.yield l) #[] #[]] ++ lb) W fun e W' => (∃ v, e = .returned v) ∧ ((∃ g, J S g W') ∨ ∃ pre, pre <+: S ∧ Jx pre W')

theorem SeqO.toT {α : Type} {P : Program} {gf : Nat} {rb lb : Array Value} {encs : α → Array Value} {n₀ : Nat} {S : List α} {w : World} (h : SeqO P gf rb lb encs n₀ S w) : SeqT P gf rb lb encs n₀ S w := by
  intro l J Jx W hW hJ hJx hY h0
  refine (h l (fun s g A => g = none ∧ J s A) Jx W hW (fun s g A B q hb _ => ⟨q.1, hJ _ _ _ q.2 hb⟩) (fun s g A q b k hk => by rw [q.1] at hk; cases hk) hJx ?_ ⟨rfl, h0⟩).mono ?_
  · rintro pre x g W1 ⟨rfl, q⟩ hz hpre
    obtain ⟨fn, tmps, assign, body, hy, hR⟩ := hY pre x W1 q hpre
    refine ⟨fn, tmps, assign, body, hy, hR.mono ?_⟩
    rintro e W' (⟨rfl, k1, k2⟩ | ⟨rfl, k1⟩)
    · exact .inl ⟨rfl, none, ⟨rfl, k1⟩, k2.below, fun k hk hl _ => k2.beyond k hk hl, fun b k hk => by cases hk⟩
    · exact .inr ⟨rfl, k1⟩
  · rintro e W' ⟨hv, ⟨g, _, q⟩ | q⟩
    · exact ⟨hv, .inl q⟩
    · exact ⟨hv, .inr q⟩

/-- How the body of a round may be left: by its end alone. -/
def postO {α : Type} (n₀ n₁ : Nat) (I : List α → Option (Nat × Nat) → World → Prop) (xs : List α) (g : Option (Nat × Nat)) (W : World) : Exit → Act → World → Prop
  | .normal, _, W' => ∃ g', I xs g' W' ∧ Below n₀ W W' ∧ (∀ k, n₁ ≤ k → k < W.heap.size → (∀ b, g ≠ some (b, k)) → W'.heap[k]? = W.heap[k]?) ∧ (∀ b k, g' = some (b, k) → W.heap.size ≤ b ∨ ∃ j, g = some (b, j))
  | _, _, _ => False

/-- The statement. -/
theorem wp_rangeFunc_O {α : Type} {P : Program} {gop : Operand} {ps : Array Tmp} {assign body : Code} {Q : Exit → Act → World → Prop} {a : Act} {w : World}
    {gf : Nat} {rb lb : Array Value} (hg : a.eval gop = .func (.func gf) rb lb) (eg : ∀ args w, (callFunc gf args).run P w = .ok (.enter gf args) w)
    {encs : α → Array Value} {n₀ : Nat} (hn₀ : n₀ ≤ w.heap.size) {S : List α} (hseq : SeqO P gf rb lb encs n₀ S w) (hps : ∀ x, (encs x).size = ps.size)
    (I : List α → Option (Nat × Nat) → World → Prop) (hI : ∀ s g A B, I s g A → Below w.heap.size A B → (∀ b k, g = some (b, k) → B.heap[k]? = A.heap[k]?) → I s g B) (hIg : ∀ s g A, I s g A → ∀ b k, g = some (b, k) → b ≤ k ∧ k < A.heap.size) (h0 : I [] none w)
    (Ax : α → Act → World → Prop) (hAx : ∀ x a' A l r o, Ax x a' A → A.heap[l]? = some (.loop r) → Ax x a' (A.putObj l o))
    (hassign : ∀ (l : Nat) (pre : List α) (x : α) (g : Option (Nat × Nat)) (W : World) (K : Act → World → Prop), w.heap.size ≤ W.heap.size → I pre g W → (∀ a' W', Below W.heap.size W W' → I pre g W' → Ax x a' W' → K a' W') →
      assign.wpIn (Fence.wide.inRound l) 0 P (Exit.then K (fun _ _ _ => False)) { tmps := (ps.zip (encs x)).foldl (fun t (p, v) => t.setIfInBounds p v) a.tmps, defers := [] } W)
    (hbody : ∀ (l : Nat) (pre : List α) (x : α) (g : Option (Nat × Nat)) (a' : Act) (W : World), w.heap.size ≤ W.heap.size → I pre g W → Ax x a' W → pre ++ [x] <+: S → body.wpIn (Fence.wide.inRound l) 0 P (postO n₀ w.heap.size I (pre ++ [x]) g W) a' W)
    (hdone : ∀ (D : Nat) (g : Option (Nat × Nat)) (W : World), D = w.heap.size → I S g W → (∀ b k, g = some (b, k) → w.heap.size + 2 ≤ b) → W.heap[D]? = some (.deferred (some [])) → Q .normal { a with defers := { target := .collected D, args := #[] } :: a.defers } W) :
    (Code.rangeFunc gop ps assign body).wp P Q a w := by
  refine (wpIn_wide (n := 0)).1 (wpIn_rangeFunc ?_)
  intro fn hfn
  obtain ⟨rec, hrec⟩ : ∃ rec : LoopState → Option Code → Loop, rec = fun st pe => { state := st, pending := pe, fn, tmps := a.tmps, params := ps, assign, body, defers := w.heap.size } := ⟨_, rfl⟩
  obtain ⟨W1, hW1⟩ : ∃ W1, (w.alloc (.deferred (some []))).alloc (.loop (rec .ready none)) = W1 := ⟨_, rfl⟩
  have hL1 : W1.heap[w.heap.size + 1]? = some (.loop (rec .ready none)) := by
    rw [← hW1]; have := World.alloc_heap_new (w.alloc (.deferred (some []))) (.loop (rec .ready none)); rwa [World.size_alloc] at this
  have hK1 : W1.heap[w.heap.size]? = some (.deferred (some [])) := by
    rw [← hW1]; exact (Below.heap_alloc _ _ _ (by simp)).trans (World.alloc_heap_new w _)
  have hb1 : Below w.heap.size w W1 := by
    rw [← hW1]; exact ((Below.refl _ w).alloc (Nat.le_refl _) _).alloc (by simp) _
  have hs1 : W1.heap.size = w.heap.size + 2 := by rw [← hW1]; simp
  have hI1 : I [] none W1 := hI _ _ _ _ h0 hb1 (fun b k hk => by cases hk)
  refine ⟨w.heap.size + 1, [{ target := .collected w.heap.size, args := #[] }], W1, { target := .fn (.func gf) lb, args := rb ++ #[.func (.yield (w.heap.size + 1)) #[] #[]] }, W1, gf,
    rb ++ #[.func (.yield (w.heap.size + 1)) #[] #[]] ++ lb, W1, ?_, ?_, ?_, ?_, fun h => by simp [Fence.wide] at h, ?_⟩
  · rw [← hW1, hrec]; exact run_enterLoop_outer _ _ _ _ _
  · simp only [resolve, hg]
    simp [go_sem, Deferred.ofValue]
  · intro f' hf'; trivial
  · simp [invoke, go_sem, eg]
  · refine callsIn_wide.2 ?_
    refine (hseq (w.heap.size + 1)
      (fun pre g W => I pre g W ∧ W.heap[w.heap.size + 1]? = some (.loop (rec .ready none)) ∧ W.heap[w.heap.size]? = some (.deferred (some [])) ∧ w.heap.size ≤ W.heap.size ∧ ∀ b k, g = some (b, k) → w.heap.size + 2 ≤ b)
      (fun _ _ => False)
      W1 hb1
      (fun s g A B hs hb hk => ⟨hI s g A B hs.1 (hb.mono (by omega)) hk, (hb.block _ (by omega)).trans hs.2.1, (hb.block _ (by omega)).trans hs.2.2.1, Nat.le_trans hs.2.2.2.1 hb.size, hs.2.2.2.2⟩)
      (fun s g A hs b k hk => hIg s g A hs.1 b k hk)
      (fun s A B hs _ => hs)
      ?_ ⟨hI1, hL1, hK1, hb1.size, fun b k hk => by cases hk⟩).mono ?_
    · -- one round
      rintro pre x g W ⟨hi, hl, hk, hsz, hg0⟩ hW1z hpre
      have hlt : w.heap.size + 1 < W.heap.size := (Array.getElem?_eq_some_iff.1 hl).1
      have hy := run_yield (P := P) (args := encs x) hl (by rw [hrec]; exact hps x)
      rw [hrec] at hy
      refine ⟨fn, _, assign, body, hy, roundIn_of_wpIn trivial (hassign _ pre x g W _ hsz hi ?_)⟩
      clear hy
      intro a' Wa hoa hia hax
      have hla := (hoa.block (w.heap.size + 1) hlt).trans hl
      have hka := (hoa.block w.heap.size (by omega)).trans hk
      have hlta : w.heap.size + 1 < Wa.heap.size := Nat.lt_of_lt_of_le hlt hoa.size
      refine ⟨_, run_beginRound hla (by rw [hrec]), ?_⟩
      have hl2 : (Wa.putObj (w.heap.size + 1) (.loop { rec .ready none with state := .busy })).heap[w.heap.size + 1]? = some (.loop { rec .ready none with state := .busy }) := World.putObj_heap_same hlta
      have hk2 : (Wa.putObj (w.heap.size + 1) (.loop { rec .ready none with state := .busy })).heap[w.heap.size]? = some (.deferred (some [])) := (World.putObj_heap_other (by omega)).trans hka
      have hb2 : Below w.heap.size Wa (Wa.putObj (w.heap.size + 1) (.loop { rec .ready none with state := .busy })) := below_putObj _ _ _ (by omega)
      refine wpIn_mono (hbody _ pre x g a' _ (by have := hoa.size; simp; omega) (hI _ _ _ _ hia hb2 (fun b k hk => World.putObj_heap_other (fun e => by have := hg0 b k hk; have := (hIg _ _ _ hi b k hk).1; omega))) (hAx _ _ _ _ _ _ hax hla) hpre) ?_
      rintro e a3 W3 hp
      cases e with
      | normal =>
        obtain ⟨g', hi3, hb3, hk3, hg3⟩ := hp
        have hz3 := hb3.size
        have hl3 := (hk3 (w.heap.size + 1) (by omega) (by simp; omega) (fun b e => by have := hg0 b _ e; have := (hIg _ _ _ hi b _ e).1; omega)).trans hl2
        have hd3 := (hk3 w.heap.size (Nat.le_refl _) (by simp; omega) (fun b e => by have := hg0 b _ e; have := (hIg _ _ _ hi b _ e).1; omega)).trans hk2
        have hr := run_endRound (P := P) (none : Option Code) hl3
        have hsz3 : w.heap.size + 1 < W3.heap.size := (Array.getElem?_eq_some_iff.1 hl3).1
        have hzz : W.heap.size ≤ W3.heap.size := by have := hoa.size; simp at hz3; omega
        have hg0' : ∀ b k, g' = some (b, k) → w.heap.size + 2 ≤ b := fun b k e => by
          rcases hg3 b k e with h | ⟨j, h⟩
          · simp at h
            have := hoa.size
            omega
          · exact hg0 b j h
        have hb4 : Below w.heap.size W3 (W3.putObj (w.heap.size + 1) (.loop (rec .ready none))) := below_putObj _ _ _ (by omega)
        refine ⟨.bool true, W3.putObj (w.heap.size + 1) (.loop (rec .ready none)), ?_, .inl ⟨rfl, g', ⟨hI _ _ _ _ hi3 hb4 (fun b k hk => World.putObj_heap_other (fun e => by have := hg0' b k hk; have := (hIg _ _ _ hi3 b k hk).1; omega)), World.putObj_heap_same hsz3, (World.putObj_heap_other (by omega)).trans hd3, by simp; omega, hg0'⟩, ?_, ?_, ?_⟩⟩
        · rw [hrec] at hr ⊢; exact hr
        · exact ((hoa.mono (by omega)).trans (hb2.mono hn₀)).trans (hb3.trans (hb4.mono hn₀))
        · intro k h1 h2 h3
          have h4 : k ≠ w.heap.size + 1 := by omega
          exact (World.putObj_heap_other h4).trans ((hk3 k (by omega) (by have := hoa.size; simp; omega) h3).trans ((World.putObj_heap_other h4).trans (hoa.block k h2)))
        · intro b k e
          rcases hg3 b k e with h | h
          · exact .inl (by have := hoa.size; simp at h; omega)
          · exact .inr h
      | ret => exact hp.elim
      | exit id => exact hp.elim
      | goto t => exact hp.elim
      | panic ch => exact hp.elim
      | outgrown => exact hp.elim
    · -- behind the iterator
      rintro e W2 ⟨⟨v, rfl⟩, (⟨g, hi, hl, hk, hz, hg0⟩ | ⟨pre, _, hf⟩)⟩
      · exact ⟨none, _, by have := run_endLoop (P := P) hl (by rw [hrec]; simp); rw [hrec] at this; exact this, hdone _ g _ rfl (hI _ _ _ _ hi (below_putObj _ _ _ (by omega)) (fun b k hk => World.putObj_heap_other (fun e => by have := hg0 b k hk; have := (hIg _ _ _ hi b k hk).1; omega))) hg0 ((World.putObj_heap_other (by omega)).trans hk)⟩
      · exact hf.elim
end Go.Proofs.YthlepbbdjmmelaaGreat

namespace Go.Proofs.YthlepbbdjmmelaaGreat
open Go.ChangeShapes Go.WideShapes Go.ChangeAt Go.RowKit
attribute [local irreducible] Go.Calls

/-- What yield is handed. -/
def encS (s : St) : Array Value := #[.agg #[.int .i64 s.1, .int .i64 s.2.1, .int .i64 s.2.2.1, .int .i64 s.2.2.2]]
/-- A window. -/
abbrev WN (a : Option Addr) (n cap : Nat) (x y : Int) : Value := .agg #[.slice a n cap, .int .i64 x, .int .i64 y]

/-- Where the walk stands between two rounds. -/
def StrAt (F : List Sg) (x y : Int) (w0 W : World) (J : List St → Option (Nat × Nat) → World → Prop) (gh : Nat) (v13 : Value) (wr : World) : Prop :=
  ∃ (k : Nat) (p q : Int) (v : Int × Int) (pre : List St) (g : Option (Nat × Nat)), (∀ b k, g = some (b, k) → W.heap.size + 2 ≤ b) ∧ k ≤ F.length ∧ F.length - k ≤ gh ∧ v13 = .int .i64 k ∧ pre ++ strG y (F.drop k) p v = strL F x y ∧ J pre g wr ∧
    Below w0.heap.size w0 wr ∧ W.heap.size + 1 < wr.heap.size ∧ Blk wr (W.heap.size + 1) #[.int .i64 p, .int .i64 q, .int .i64 v.1, .int .i64 v.2] 274

set_option maxRecDepth 100000 in
set_option maxHeartbeats 2000000 in
theorem strO_c (F : List Sg) (x y : Int) (a : Option Addr) (cap : Nat) (w0 w : World) (hl : F.length ≤ 1000000000) (hA : ArgS w0 a F) (hb : Below w0.heap.size w0 w) :
    SeqO Tryz.prog 212 #[WN a F.length cap x y] #[] encS w0.heap.size (strL F x y) w := by
  intro l J Jx W hW hJ hJg hJx hY h0
  have H0 := hidE h0; have HJ := hidE hJ; have HJG := hidE hJg; have HJX := hidE hJx; have HY := hidE hY
  have HA := hidE hA
  have hbW : Below w0.heap.size w0 W := hb.trans (hW.mono hb.size)
  have HBW := hidE hbW
  clear hA hJ hJg hJx hY h0 hb hW hbW
  show Calls Tryz.prog 212 #[WN a F.length cap x y, .func (.yield l) #[] #[]] W _
  go_enter Tryz.func212, Tryz.ntmps212
  go_wp2
  go_loopg [13] F.length (fun gh v13 wr => StrAt F x y w0 W J gh v13 wr ∧ Blk wr W.heap.size #[.slice a F.length cap, .int .i64 x, .int .i64 y] 271)
  case atStart =>
    refine ⟨⟨0, x, 0, (0, 0), [], none, fun b k h => (by cases h), Nat.zero_le _, Nat.le_refl _, rfl, rfl, HJ.out _ _ _ _ H0.out ?_ (fun b k h => by cases h), HBW.out.trans (Below.mono ?_ HBW.out.size), ?_, ?_⟩, ?_⟩
    · (repeat (first | exact Below.refl _ _ | assumption | refine balloc ?_ _ | refine below_drewN ?_ _ | refine bstep (by assumption) ?_ | refine bstep (Past.prop _) ?_ | refine Below.setCell ?_ (by first | exact Nat.le_refl _ | (simp; done) | (simp; omega)) _))
    · (repeat (first | exact Below.refl _ _ | assumption | refine balloc ?_ _ | refine below_drewN ?_ _ | refine bstep (by assumption) ?_ | refine bstep (Past.prop _) ?_ | refine Below.setCell ?_ (by first | exact Nat.le_refl _ | (simp; done) | (simp; omega)) _))
    · simp
    · exact Blk.made_at _ _ _ _ (by simp)
    · exact (Blk.made _ _ _).alloc _
  case round =>
    obtain ⟨⟨k, p, q, v, pre, g, hgb, hk, hgh, rfl, hpre, hJ1, hB1, hsz, blk⟩, blk0⟩ := hrel
    have HGB := hidE hgb
    have HK := hidE (fun b k (e : g = some (b, k)) => show W.heap.size + 1 < k ∧ k < wr.heap.size from by have h1 := hgb b k e; have h2 := HJG.out _ _ _ hJ1 b k e; omega)
    clear hgb
    have HJ1 := hidE hJ1; have HB1 := hidE hB1; have HPRE := hidE hpre; have HBK := hidE blk; have HBK0 := hidE blk0; have HSZ := hidE hsz; have HG := hidE hgh
    clear hJ1 hB1 hpre blk blk0 hsz hgh
    obtain ⟨wo, hwo⟩ : ∃ wo : World, wo = wr := ⟨_, rfl⟩
    have cases3 : ((¬ k < F.length ∨ (k < F.length ∧ decide ((k : Int) < (F.length : Int)) = true ∧ decide (y ≤ ats F k) = true)) ∧ pre ++ strZ y p v = strL F x y) ∨
        (k < F.length ∧ decide ((k : Int) < (F.length : Int)) = true ∧ decide (y ≤ ats F k) = false ∧ decide (p < ats F k) = false ∧ pre ++ strG y (F.drop (k + 1)) p (vls F k) = strL F x y) ∨
        (k < F.length ∧ decide ((k : Int) < (F.length : Int)) = true ∧ decide (y ≤ ats F k) = false ∧ decide (p < ats F k) = true ∧ pre ++ (p, ats F k, v) :: strG y (F.drop (k + 1)) (ats F k) (vls F k) = strL F x y) := by
      have hp := HPRE.out
      by_cases hlt : k < F.length
      · rw [drop_cons hlt] at hp
        have hd : decide ((k : Int) < (F.length : Int)) = true := decide_eq_true (by omega)
        by_cases h1 : y ≤ ats F k
        · rw [strG_end h1] at hp
          exact .inl ⟨.inr ⟨hlt, hd, decide_eq_true h1⟩, hp⟩
        · by_cases h2 : p < ats F k
          · rw [strG_cut h1 h2] at hp
            exact .inr (.inr ⟨hlt, hd, decide_eq_false h1, decide_eq_true h2, hp⟩)
          · rw [strG_on h1 h2] at hp
            exact .inr (.inl ⟨hlt, hd, decide_eq_false h1, decide_eq_false h2, hp⟩)
      · rw [List.drop_eq_nil_of_le (by omega), strG_nil] at hp
        exact .inl ⟨.inl hlt, hp⟩
    clear HPRE
    rcases cases3 with ⟨he, hp⟩ | ⟨hlt, hd, h1, h2, hp⟩ | ⟨hlt, hd, h1, h2, hp⟩
    · have HP := hidE hp
      clear hp
      have c3 := HBK0.out.cell 2; have c4 := HBK.out.cell 0; have c5 := HBK.out.cell 1; have c6 := HBK.out.cell 2; have c7 := HBK.out.cell 3; have f4 := HBK.out.free; have z4 := HBK.out.lt; have z3 := HBK0.out.lt
      simp at c3 c4 c5 c6 c7
      have hsz := HSZ.out
      by_cases hz : p < y
      · have dz : decide (p < y) = true := decide_eq_true hz
        have HP2 := hidE (show pre ++ [(p, y, v)] = strL F x y by rw [← HP.out]; unfold strZ; rw [if_pos hz])
        clear HP hz
        have hpre : pre ++ [(p, y, v)] <+: strL F x y := by rw [HP2.out]; exact List.prefix_refl _
        rcases he with he | ⟨hlt, he, he2⟩
        · have he1 : decide (k < F.length) = false := decide_eq_false he
          have he2 : decide ((k : Int) < (F.length : Int)) = false := decide_eq_false (by omega)
          have bb : Below W.heap.size wr (wr.setCell ⟨W.heap.size + 1, 1, none⟩ (.int .i64 y)) := (Below.refl _ wr).setCell (p := ⟨W.heap.size + 1, 1, none⟩) (by simp) _
          obtain ⟨fn, tmps, assign, body, hy, hR⟩ := HY.out pre (p, y, v) g _ (HJ.out _ _ _ _ HJ1.out bb (fun b k e => by obtain ⟨q1, q2⟩ := HK.out b k e; exact keptS (by omega) _)) (by simp [World.setCell]; omega) hpre
          dsimp only [encS] at hy
          go_upto_region 14 with fail
          refine (wpIn_wide (n := 0)).1 ?_
          gi_wp2
          refine ⟨rfl, hR.mono ?_⟩
          clear hy hR
          rintro e W' (⟨rfl, g', hJ', hO, hO2, hO3⟩ | ⟨rfl, hJx'⟩)
          all_goals
            gi_wp2
            try go_wp2
            go_end0
          · exact ⟨⟨_, rfl⟩, .inl ⟨g', by rw [← HP2.out]; exact hJ'⟩⟩
          · exact ⟨⟨_, rfl⟩, .inr ⟨pre ++ [(p, y, v)], hpre, hJx'⟩⟩
        · obtain ⟨b, off, rfl, hb, hc⟩ := (HA.out.past HB1.out) (by omega)
          obtain ⟨c0, c1, c2⟩ := hc.get hlt
          clear hc
          generalize ats F k = u at *
          generalize vls F k = v' at *
          have bb : Below W.heap.size wr ((wr.setCell ⟨W.heap.size + 1, 1, none⟩ (.int .i64 y)).alloc (Obj.cells #[.int .i64 u, .int .i64 v'.1, .int .i64 v'.2] 112)) :=
            ((Below.refl _ wr).setCell (p := ⟨W.heap.size + 1, 1, none⟩) (by simp) _).alloc (by simp [World.setCell]; omega) _
          obtain ⟨fn, tmps, assign, body, hy, hR⟩ := HY.out pre (p, y, v) g _ (HJ.out _ _ _ _ HJ1.out bb (fun b k e => by obtain ⟨q1, q2⟩ := HK.out b k e; exact (keptA (by simp [World.setCell]; omega) _).trans (keptS (by omega) _))) (by simp [World.setCell]; omega) hpre
          dsimp only [encS] at hy
          go_upto_region 14 with fail
          refine (wpIn_wide (n := 0)).1 ?_
          gi_wp2
          refine ⟨rfl, hR.mono ?_⟩
          clear hy hR
          rintro e W' (⟨rfl, g', hJ', hO, hO2, hO3⟩ | ⟨rfl, hJx'⟩)
          all_goals
            gi_wp2
            try go_wp2
            go_end0
          · exact ⟨⟨_, rfl⟩, .inl ⟨g', by rw [← HP2.out]; exact hJ'⟩⟩
          · exact ⟨⟨_, rfl⟩, .inr ⟨pre ++ [(p, y, v)], hpre, hJx'⟩⟩
      · have dz : decide (p < y) = false := decide_eq_false hz
        have HP2 := hidE (show pre = strL F x y by rw [← HP.out]; unfold strZ; rw [if_neg hz, List.append_nil])
        clear HP hz
        rcases he with he | ⟨hlt, he, he2⟩
        · have he1 : decide (k < F.length) = false := decide_eq_false he
          have he2 : decide ((k : Int) < (F.length : Int)) = false := decide_eq_false (by omega)
          have bb : Below W.heap.size wr (wr.setCell ⟨W.heap.size + 1, 1, none⟩ (.int .i64 y)) := (Below.refl _ wr).setCell (p := ⟨W.heap.size + 1, 1, none⟩) (by simp) _
          have HJ2 := hidE (HJ.out _ _ _ _ HJ1.out bb (fun b k e => by obtain ⟨q1, q2⟩ := HK.out b k e; exact keptS (by omega) _))
          clear bb
          go_wp2
          go_end0
          exact ⟨⟨_, rfl⟩, .inl ⟨g, by rw [← HP2.out]; exact HJ2.out⟩⟩
        · obtain ⟨b, off, rfl, hb, hc⟩ := (HA.out.past HB1.out) (by omega)
          obtain ⟨c0, c1, c2⟩ := hc.get hlt
          clear hc
          generalize ats F k = u at *
          generalize vls F k = v' at *
          have bb : Below W.heap.size wr ((wr.setCell ⟨W.heap.size + 1, 1, none⟩ (.int .i64 y)).alloc (Obj.cells #[.int .i64 u, .int .i64 v'.1, .int .i64 v'.2] 112)) :=
            ((Below.refl _ wr).setCell (p := ⟨W.heap.size + 1, 1, none⟩) (by simp) _).alloc (by simp [World.setCell]; omega) _
          have HJ2 := hidE (HJ.out _ _ _ _ HJ1.out bb (fun b k e => by obtain ⟨q1, q2⟩ := HK.out b k e; exact (keptA (by simp [World.setCell]; omega) _).trans (keptS (by omega) _)))
          clear bb
          go_wp2
          go_end0
          exact ⟨⟨_, rfl⟩, .inl ⟨g, by rw [← HP2.out]; exact HJ2.out⟩⟩
    · have HP := hidE hp
      obtain ⟨b, off, rfl, hb, hc⟩ := (HA.out.past HB1.out) (by omega)
      obtain ⟨c0, c1, c2⟩ := hc.get hlt
      have c3 := HBK0.out.cell 2; have c4 := HBK.out.cell 0; have c5 := HBK.out.cell 1; have c6 := HBK.out.cell 2; have c7 := HBK.out.cell 3; have f4 := HBK.out.free; have z4 := HBK.out.lt; have z3 := HBK0.out.lt
      simp at c3 c4 c5 c6 c7
      clear hc hp
      generalize ats F k = u at *
      generalize vls F k = v' at *
      go_wp2
      go_roundg (F.length - (k + 1))
      case measure => have := HG.out; omega
      case rel =>
        have hsz := HSZ.out
        have bb : Below W.heap.size wr (((wr.setCell ⟨W.heap.size + 1, 2, none⟩ (.int .i64 v'.1)).setCell ⟨W.heap.size + 1, 3, none⟩ (.int .i64 v'.2)).alloc (Obj.cells #[.int .i64 u, .int .i64 v'.1, .int .i64 v'.2] 112)) :=
          (((Below.refl _ wr).setCell (p := ⟨W.heap.size + 1, 2, none⟩) (by simp) _).setCell (p := ⟨W.heap.size + 1, 3, none⟩) (by simp) _).alloc (by simp [World.setCell]; omega) _
        exact ⟨⟨k + 1, p, q, v', pre, g, HGB.out, by omega, Nat.le_refl _, by go_num, HP.out, HJ.out _ _ _ _ HJ1.out bb (fun b k e => by obtain ⟨q1, q2⟩ := HK.out b k e; exact (keptA (by simp [World.setCell]; omega) _).trans ((keptS (by omega) _).trans (keptS (by omega) _))), HB1.out.trans (bb.mono HBW.out.size), by simp [World.setCell]; omega, ((HBK.out.set 2 (.int .i64 v'.1)).set 3 (.int .i64 v'.2)).alloc _⟩, ((HBK0.out.other (by omega) _).other (by omega) _).alloc _⟩
    · have HP := hidE hp
      obtain ⟨b, off, rfl, hb, hc⟩ := (HA.out.past HB1.out) (by omega)
      obtain ⟨c0, c1, c2⟩ := hc.get hlt
      have c3 := HBK0.out.cell 2; have c4 := HBK.out.cell 0; have c5 := HBK.out.cell 1; have c6 := HBK.out.cell 2; have c7 := HBK.out.cell 3; have f4 := HBK.out.free; have z4 := HBK.out.lt; have z3 := HBK0.out.lt
      simp at c3 c4 c5 c6 c7
      clear hc hp
      generalize ats F k = u at *
      generalize vls F k = v' at *
      have hpre : pre ++ [(p, u, v)] <+: strL F x y := ⟨strG y (F.drop (k + 1)) u v', by rw [← HP.out]; simp⟩
      have hsz := HSZ.out
      have q1 := (HBK.out.set 1 (.int .i64 u)).alloc (Obj.cells #[.int .i64 u, .int .i64 v'.1, .int .i64 v'.2] 112)
      have q0 := (HBK0.out.other (b := W.heap.size + 1) (i := 1) (by omega) (.int .i64 u)).alloc (Obj.cells #[.int .i64 u, .int .i64 v'.1, .int .i64 v'.2] 112)
      have qr : Blk ((wr.setCell ⟨W.heap.size + 1, 1, none⟩ (.int .i64 u)).alloc (Obj.cells #[.int .i64 u, .int .i64 v'.1, .int .i64 v'.2] 112)) wr.heap.size #[.int .i64 u, .int .i64 v'.1, .int .i64 v'.2] 112 := Blk.made_at _ _ _ _ (by simp [World.setCell])
      have bb : Below W.heap.size wr ((wr.setCell ⟨W.heap.size + 1, 1, none⟩ (.int .i64 u)).alloc (Obj.cells #[.int .i64 u, .int .i64 v'.1, .int .i64 v'.2] 112)) :=
        ((Below.refl _ wr).setCell (p := ⟨W.heap.size + 1, 1, none⟩) (by simp) _).alloc (by simp [World.setCell]; omega) _
      obtain ⟨fn, tmps, assign, body, hy, hR⟩ := HY.out pre (p, u, v) g _ (HJ.out _ _ _ _ HJ1.out bb (fun b k e => by obtain ⟨q1, q2⟩ := HK.out b k e; exact (keptA (by simp [World.setCell]; omega) _).trans (keptS (by omega) _))) (by simp [World.setCell]; omega) hpre
      dsimp only [encS] at hy
      have HQ1 := hidE q1; have HQ0 := hidE q0; have HQR := hidE qr; have HBB := hidE bb; have HPR := hidE hpre
      clear q1 q0 qr bb hpre
      go_upto_region 8 with fail
      refine (wpIn_wide (n := 0)).1 ?_
      gi_wp2
      refine ⟨rfl, hR.mono ?_⟩
      clear hy hR
      rintro e W' (⟨rfl, g', hJ', hO, hO2, hO3⟩ | ⟨rfl, hJx'⟩)
      · have hz1 := hO.size
        have hzz : W.heap.size ≤ wr.heap.size := by omega
        simp [World.setCell] at hz1
        have s1 := (hO2 _ (by omega) HQ1.out.lt (fun b e => by have := HK.out b _ e; omega)).trans HQ1.out
        have s0 := (hO2 _ (by omega) HQ0.out.lt (fun b e => by have := HK.out b _ e; omega)).trans HQ0.out
        have sr := (hO2 _ (by omega) HQR.out.lt (fun b e => by have := HK.out b _ e; omega)).trans HQR.out
        have HGB2 := hidE (fun b k (e : g' = some (b, k)) => show W.heap.size + 2 ≤ b from by
          rcases hO3 b k e with h | ⟨j, h⟩
          · simp [World.setCell] at h; omega
          · exact HGB.out b j h)
        have HJ2 := hidE hJ'; have HO := hidE hO
        clear hO hO2 hO3 hJ'
        change Blk W' _ _ _ at s1
        change Blk W' _ _ _ at s0
        change Blk W' _ _ _ at sr
        have d0 := sr.cell 0; have d1 := sr.cell 1; have d2 := sr.cell 2; have dz := sr.lt
        have g0 := s1.cell 0; have g1 := s1.cell 1; have g2 := s1.cell 2; have g3 := s1.cell 3; have gf := s1.free; have gz := s1.lt
        simp at d0 d1 d2 g0 g1 g2 g3
        clear hz1 c0 c1 c2 c3 c4 c5 c6 c7 f4 z4 z3 hb
        gi_wp2
        go_wp2
        go_roundg (F.length - (k + 1))
        case measure => have := HG.out; omega
        case rel =>
          have bc : Below W.heap.size W' (((W'.setCell ⟨W.heap.size + 1, 0, none⟩ (.int .i64 u)).setCell ⟨W.heap.size + 1, 2, none⟩ (.int .i64 v'.1)).setCell ⟨W.heap.size + 1, 3, none⟩ (.int .i64 v'.2)) :=
            (((Below.refl _ W').setCell (p := ⟨W.heap.size + 1, 0, none⟩) (by simp) _).setCell (p := ⟨W.heap.size + 1, 2, none⟩) (by simp) _).setCell (p := ⟨W.heap.size + 1, 3, none⟩) (by simp) _
          have hz1 := HO.out.size
          simp [World.setCell] at hz1
          refine ⟨⟨k + 1, u, u, v', pre ++ [(p, u, v)], g', HGB2.out, by omega, Nat.le_refl _, by go_num, ?_, HJ.out _ _ _ _ HJ2.out bc (fun b k e => by have q1 := HGB2.out b k e; have q2 := (HJG.out _ _ _ HJ2.out b k e).1; exact (keptS (by omega) _).trans ((keptS (by omega) _).trans (keptS (by omega) _))), ((HB1.out.trans (HBB.out.mono HBW.out.size)).trans HO.out).trans (bc.mono HBW.out.size), by simp [World.setCell]; omega, ?_⟩, ?_⟩
          · rw [← HP.out]; simp
          · simpa using ((s1.set 0 (.int .i64 u)).set 2 (.int .i64 v'.1)).set 3 (.int .i64 v'.2)
          · exact ((s0.other (by omega) _).other (by omega) _).other (by omega) _
      · gi_wp2
        go_wp2
        refine bodyPost_ret (results_none rfl _ _ _) rfl ?_
        exact ⟨⟨_, rfl⟩, .inr ⟨pre ++ [(p, u, v)], HPR.out, hJx'⟩⟩
theorem str_c (F : List Sg) (x y : Int) (a : Option Addr) (cap : Nat) (w0 w : World) (hl : F.length ≤ 1000000000) (hA : ArgS w0 a F) (hb : Below w0.heap.size w0 w) :
    SeqT Tryz.prog 212 #[WN a F.length cap x y] #[] encS w0.heap.size (strL F x y) w := (strO_c F x y a cap w0 w hl hA hb).toT
end Go.Proofs.YthlepbbdjmmelaaGreat

namespace Go.Proofs.YthlepbbdjmmelaaGreat
open Go.ChangeShapes Go.WideShapes Go.ChangeAt Go.RowKit Go.Shelf
attribute [local irreducible] Go.Calls
attribute [local go_sem] Oper.semAt_some

theorem spanPut {w : World} {k : Nat} {cs : Array Value} {t : TypeId} (h : Blk w k cs t) {b : Nat} (hb : k ≠ b) (o : Obj) : Blk (w.putObj b o) k cs t := (World.putObj_heap_other hb).trans h
theorem outBlk {n₀ n₁ k : Nat} {W W' : World} {cs : Array Value} {t : TypeId} (h : Blk W k cs t) (ho : Outside n₀ n₁ W W') (hk : n₁ ≤ k) : Blk W' k cs t := (ho.beyond k hk h.lt).trans h
/-- Between two rounds. -/
def EvI (a : Option Addr) (n cap : Nat) (x y : Int) (fv : Value) (J : List St → World → Prop) (w0 w : World) (pre : List St) (W : World) : Prop :=
  J pre W ∧ Below w0.heap.size w0 W ∧ Blk W (w.heap.size + 1) #[fv] 276 ∧ Blk W w.heap.size #[.slice a n cap, .int .i64 x, .int .i64 y] 271
theorem wndB_not {x y : Int} (h : wndB x y = false) : x < -1125899906842624 ∨ (-1125899906842624 ≤ x ∧ 1125899906842624 < y) ∨ (-1125899906842624 ≤ x ∧ y ≤ 1125899906842624 ∧ y ≤ x) ∨ (-1125899906842624 ≤ x ∧ y ≤ 1125899906842624 ∧ x < y ∧ 8000 < y - x) := by
  unfold wndB at h
  have := of_decide_eq_false h
  omega
/-- The stretches that are handed on. -/
def evS (F : List Sg) (x y : Int) : List St := if badW F x y = 0 then strL F x y else []

set_option maxRecDepth 100000 in
set_option maxHeartbeats 2000000 in
theorem ev_c (F : List Sg) (x y : Int) (a : Option Addr) (cap gk : Nat) (lk : Array Value) (w0 w : World) (J : List St → World → Prop) (hl : F.length ≤ 1000000000) (hA : ArgS w0 a F) (hb : Below w0.heap.size w0 w)
    (eg : ∀ args w, (callFunc gk args).run Tryz.prog w = .ok (.enter gk args) w)
    (hJ : ∀ s A B, J s A → Below w.heap.size A B → J s B)
    (hE : badW F x y = 0 → ∀ pre s W, w.heap.size ≤ W.heap.size → J pre W → pre ++ [s] <+: strL F x y → Calls Tryz.prog gk (encS s ++ lk) W fun e W' => (∃ v, e = .returned v) ∧ J (pre ++ [s]) W' ∧ Outside w0.heap.size w.heap.size W W') (h0 : J [] w) :
    Calls Tryz.prog 204 #[WN a F.length cap x y, .func (.func gk) #[] lk] w fun e w' => e = .returned (.int .i64 (badW F x y)) ∧ J (evS F x y) w' ∧ Below w0.heap.size w0 w' := by
  have HA := hidE hA; have HJ := hidE hJ; have HE := hidE hE; have H0 := hidE h0; have HBW := hidE hb
  have HV := hidE (fun w hA => pmay_c F a cap w (by omega) hA)
  have HZ := hidE hb.size
  clear hJ hE h0 hb
  cases h1 : mayB F
  · have HS := hidE (show evS F x y = [] by unfold evS; rw [badW_form h1, if_neg (by decide)])
    rw [badW_form h1]
    rw [h1] at HV
    clear h1 hA
    go_enter Tryz.func204, Tryz.ntmps204
    go_wp2_with fail
    ((with_reducible refine (HV.out _ (HA.out.past (HBW.out.trans (Below.mono (by (repeat (first | exact Below.refl _ _ | assumption | refine balloc ?_ _ | refine below_drewN ?_ _ | refine bstep (by assumption) ?_ | refine bstep (Past.prop _) ?_ | refine Below.setCell ?_ (by first | exact Nat.le_refl _ | (simp; done) | (simp; omega)) _))) HBW.out.size)))).mono ?_); rintro e w1 ⟨rfl, hb1⟩)
    have HB1 := hidE (show Below w.heap.size w w1 by (repeat (first | exact Below.refl _ _ | assumption | refine balloc ?_ _ | refine below_drewN ?_ _ | refine bstep (by assumption) ?_ | refine bstep (Past.prop _) ?_ | refine Below.setCell ?_ (by first | exact Nat.le_refl _ | (simp; done) | (simp; omega)) _)))
    clear hb1
    go_wp2
    go_ret
    exact ⟨rfl, by rw [HS.out]; exact HJ.out _ _ _ H0.out HB1.out, HBW.out.trans (HB1.out.mono HZ.out)⟩
  rw [h1] at HV
  cases h2 : wndB x y
  · have HS := hidE (show evS F x y = [] by unfold evS; rw [badW_arg h1 h2, if_neg (by decide)])
    rw [badW_arg h1 h2]
    have hq := wndB_not h2
    clear h1 h2 hA
    rcases hq with h | ⟨h, h'⟩ | ⟨h, h', h2⟩ | ⟨h, h', h2, h3⟩
    · have e1 : decide (x < -1125899906842624) = true := decide_eq_true h
      go_enter Tryz.func204, Tryz.ntmps204
      go_wp2_with fail
      ((with_reducible refine (HV.out _ (HA.out.past (HBW.out.trans (Below.mono (by (repeat (first | exact Below.refl _ _ | assumption | refine balloc ?_ _ | refine below_drewN ?_ _ | refine bstep (by assumption) ?_ | refine bstep (Past.prop _) ?_ | refine Below.setCell ?_ (by first | exact Nat.le_refl _ | (simp; done) | (simp; omega)) _))) HBW.out.size)))).mono ?_); rintro e w1 ⟨rfl, hb1⟩)
      have HB1 := hidE (show Below w.heap.size w w1 by (repeat (first | exact Below.refl _ _ | assumption | refine balloc ?_ _ | refine below_drewN ?_ _ | refine bstep (by assumption) ?_ | refine bstep (Past.prop _) ?_ | refine Below.setCell ?_ (by first | exact Nat.le_refl _ | (simp; done) | (simp; omega)) _)))
      have B1 := (Blk.alloc (Blk.made w #[.slice a F.length cap, .int .i64 x, .int .i64 y] 271) (Obj.cells #[Value.func (.func gk) #[] lk] 276)).past hb1
      have c1 := B1.cell 1; have c2 := B1.cell 2; have z1 := B1.lt
      simp at c1 c2
      clear hb1
      go_wp2
      go_ret
      exact ⟨rfl, by rw [HS.out]; exact HJ.out _ _ _ H0.out HB1.out, HBW.out.trans (HB1.out.mono HZ.out)⟩
    · have e0 : decide (x < -1125899906842624) = false := decide_eq_false (by omega)
      have e1 : decide (1125899906842624 < y) = true := decide_eq_true (by omega)
      go_enter Tryz.func204, Tryz.ntmps204
      go_wp2_with fail
      ((with_reducible refine (HV.out _ (HA.out.past (HBW.out.trans (Below.mono (by (repeat (first | exact Below.refl _ _ | assumption | refine balloc ?_ _ | refine below_drewN ?_ _ | refine bstep (by assumption) ?_ | refine bstep (Past.prop _) ?_ | refine Below.setCell ?_ (by first | exact Nat.le_refl _ | (simp; done) | (simp; omega)) _))) HBW.out.size)))).mono ?_); rintro e w1 ⟨rfl, hb1⟩)
      have HB1 := hidE (show Below w.heap.size w w1 by (repeat (first | exact Below.refl _ _ | assumption | refine balloc ?_ _ | refine below_drewN ?_ _ | refine bstep (by assumption) ?_ | refine bstep (Past.prop _) ?_ | refine Below.setCell ?_ (by first | exact Nat.le_refl _ | (simp; done) | (simp; omega)) _)))
      have B1 := (Blk.alloc (Blk.made w #[.slice a F.length cap, .int .i64 x, .int .i64 y] 271) (Obj.cells #[Value.func (.func gk) #[] lk] 276)).past hb1
      have c1 := B1.cell 1; have c2 := B1.cell 2; have z1 := B1.lt
      simp at c1 c2
      clear hb1
      go_wp2
      go_ret
      exact ⟨rfl, by rw [HS.out]; exact HJ.out _ _ _ H0.out HB1.out, HBW.out.trans (HB1.out.mono HZ.out)⟩
    · have e0 : decide (x < -1125899906842624) = false := decide_eq_false (by omega)
      have e1 : decide (1125899906842624 < y) = false := decide_eq_false (by omega)
      have e2 : decide (y ≤ x) = true := decide_eq_true (by omega)
      go_enter Tryz.func204, Tryz.ntmps204
      go_wp2_with fail
      ((with_reducible refine (HV.out _ (HA.out.past (HBW.out.trans (Below.mono (by (repeat (first | exact Below.refl _ _ | assumption | refine balloc ?_ _ | refine below_drewN ?_ _ | refine bstep (by assumption) ?_ | refine bstep (Past.prop _) ?_ | refine Below.setCell ?_ (by first | exact Nat.le_refl _ | (simp; done) | (simp; omega)) _))) HBW.out.size)))).mono ?_); rintro e w1 ⟨rfl, hb1⟩)
      have HB1 := hidE (show Below w.heap.size w w1 by (repeat (first | exact Below.refl _ _ | assumption | refine balloc ?_ _ | refine below_drewN ?_ _ | refine bstep (by assumption) ?_ | refine bstep (Past.prop _) ?_ | refine Below.setCell ?_ (by first | exact Nat.le_refl _ | (simp; done) | (simp; omega)) _)))
      have B1 := (Blk.alloc (Blk.made w #[.slice a F.length cap, .int .i64 x, .int .i64 y] 271) (Obj.cells #[Value.func (.func gk) #[] lk] 276)).past hb1
      have c1 := B1.cell 1; have c2 := B1.cell 2; have z1 := B1.lt
      simp at c1 c2
      clear hb1
      go_wp2
      go_ret
      exact ⟨rfl, by rw [HS.out]; exact HJ.out _ _ _ H0.out HB1.out, HBW.out.trans (HB1.out.mono HZ.out)⟩
    · have e0 : decide (x < -1125899906842624) = false := decide_eq_false (by omega)
      have e1 : decide (1125899906842624 < y) = false := decide_eq_false (by omega)
      have e2 : decide (y ≤ x) = false := decide_eq_false (by omega)
      have e3 : decide (8000 < y - x) = true := decide_eq_true (by omega)
      go_enter Tryz.func204, Tryz.ntmps204
      go_wp2_with fail
      ((with_reducible refine (HV.out _ (HA.out.past (HBW.out.trans (Below.mono (by (repeat (first | exact Below.refl _ _ | assumption | refine balloc ?_ _ | refine below_drewN ?_ _ | refine bstep (by assumption) ?_ | refine bstep (Past.prop _) ?_ | refine Below.setCell ?_ (by first | exact Nat.le_refl _ | (simp; done) | (simp; omega)) _))) HBW.out.size)))).mono ?_); rintro e w1 ⟨rfl, hb1⟩)
      have HB1 := hidE (show Below w.heap.size w w1 by (repeat (first | exact Below.refl _ _ | assumption | refine balloc ?_ _ | refine below_drewN ?_ _ | refine bstep (by assumption) ?_ | refine bstep (Past.prop _) ?_ | refine Below.setCell ?_ (by first | exact Nat.le_refl _ | (simp; done) | (simp; omega)) _)))
      have B1 := (Blk.alloc (Blk.made w #[.slice a F.length cap, .int .i64 x, .int .i64 y] 271) (Obj.cells #[Value.func (.func gk) #[] lk] 276)).past hb1
      have c1 := B1.cell 1; have c2 := B1.cell 2; have z1 := B1.lt
      simp at c1 c2
      clear hb1
      go_wp2
      go_ret
      exact ⟨rfl, by rw [HS.out]; exact HJ.out _ _ _ H0.out HB1.out, HBW.out.trans (HB1.out.mono HZ.out)⟩
  · have HS := hidE (show evS F x y = strL F x y by unfold evS; rw [badW_ok h1 h2, if_pos rfl])
    rw [badW_ok h1 h2]
    have HE := hidE (HE.out (badW_ok h1 h2))
    rw [wndB_iff] at h2
    have e0 : decide (x < -1125899906842624) = false := decide_eq_false (by omega)
    have e1 : decide (1125899906842624 < y) = false := decide_eq_false (by omega)
    have e2 : decide (y ≤ x) = false := decide_eq_false (by omega)
    have e3 : decide (8000 < y - x) = false := decide_eq_false (by omega)
    have HSEQ := hidE (fun w' hb => str_c F x y a cap w0 w' hl hA hb)
    clear h1 hA
    refine (callsIn_wide (n := 0)).1 (callsIn_of_wp_marks Tryz.func204 rfl trivial ((wpIn_wide (n := 0)).2 ?_))
    simp only [Tryz.ntmps204, List.size_toArray, List.length_cons, List.length_nil, Nat.reduceAdd, Nat.reduceSub, Array.replicate_succ, Array.replicate_zero, List.push_toArray, List.append_toArray, List.nil_append, List.cons_append]
    go_wp2_with fail
    ((with_reducible refine (HV.out _ (HA.out.past (HBW.out.trans (Below.mono (by (repeat (first | exact Below.refl _ _ | assumption | refine balloc ?_ _ | refine below_drewN ?_ _ | refine bstep (by assumption) ?_ | refine bstep (Past.prop _) ?_ | refine Below.setCell ?_ (by first | exact Nat.le_refl _ | (simp; done) | (simp; omega)) _))) HBW.out.size)))).mono ?_); rintro e w1 ⟨rfl, hb1⟩)
    have HB1 := hidE (show Below w.heap.size w w1 by (repeat (first | exact Below.refl _ _ | assumption | refine balloc ?_ _ | refine below_drewN ?_ _ | refine bstep (by assumption) ?_ | refine bstep (Past.prop _) ?_ | refine Below.setCell ?_ (by first | exact Nat.le_refl _ | (simp; done) | (simp; omega)) _)))
    have B1 := (Blk.alloc (Blk.made w #[.slice a F.length cap, .int .i64 x, .int .i64 y] 271) (Obj.cells #[Value.func (.func gk) #[] lk] 276)).past hb1
    have B2 := (Blk.made_at (w.alloc (Obj.cells #[.slice a F.length cap, .int .i64 x, .int .i64 y] 271)) #[Value.func (.func gk) #[] lk] 276 (w.heap.size + 1) (by simp)).past hb1
    have c0 := B1.cell 0; have c1 := B1.cell 1; have c2 := B1.cell 2; have z1 := B1.lt; have z2 := B2.lt
    simp at c0 c1 c2
    have HK1 := hidE B1; have HK2 := hidE B2
    clear hb1 B1 B2
    go_wp2
    have hn0 : w0.heap.size ≤ w1.heap.size := Nat.le_trans HZ.out HB1.out.size
    have hI0 : EvI a F.length cap x y (.func (.func gk) #[] lk) J w0 w [] w1 := ⟨HJ.out _ _ _ H0.out HB1.out, HBW.out.trans (HB1.out.mono HZ.out), HK2.out, HK1.out⟩
    clear e0 e1 e2 e3 c0 c1 c2 h2 HV
    refine wp_rangeFunc_T (n₀ := w0.heap.size) (S := strL F x y) rfl (enters_of Tryz.func212 (by kernel_rfl) rfl) hn0 (HSEQ.out _ hI0.2.1) (fun _ => rfl)
      (EvI a F.length cap x y (.func (.func gk) #[] lk) J w0 w) (fun _ _ _ => False)
      (fun s A B h hb => ⟨HJ.out _ _ _ h.1 (hb.mono HB1.out.size), h.2.1.trans (hb.mono hn0), h.2.2.1.below hb z2, h.2.2.2.below hb z1⟩) (fun c s A B h hb => h.elim) hI0
      (fun s a1 W => ∃ (Bx : Nat) (u0 u1 u2 u4 u6 u7 u8 u9 u10 u11 u12 u13 u14 u15 u16 u17 u18 u19 u20 u21 u22 u23 u24 u25 u26 u27 u28 u29 u30 u31 u32 u33 u34 u35 u36 u37 u38 : Value), w1.heap.size ≤ Bx ∧ Blk W Bx #[.int .i64 s.1, .int .i64 s.2.1, .int .i64 s.2.2.1, .int .i64 s.2.2.2] 274 ∧ a1 = { tmps := #[u0, u1, u2, .pointer (some ⟨w.heap.size + 1, 0, none⟩), u4, .pointer (some ⟨Bx, 0, none⟩), u6, u7, u8, u9, u10, u11, u12, u13, u14, u15, u16, u17, u18, u19, u20, u21, u22, u23, u24, u25, u26, u27, u28, u29, u30, u31, u32, u33, u34, u35, u36, u37, u38], defers := [] })
      ?hax ?assign ?body ?done ?stop
    case hax =>
      rintro p a1 A l r o ⟨Bx, u0, u1, u2, u4, u6, u7, u8, u9, u10, u11, u12, u13, u14, u15, u16, u17, u18, u19, u20, u21, u22, u23, u24, u25, u26, u27, u28, u29, u30, u31, u32, u33, u34, u35, u36, u37, u38, h1, h2, h3⟩ hlr
      exact ⟨Bx, _, _, _, _, _, _, _, _, _, _, _, _, _, _, _, _, _, _, _, _, _, _, _, _, _, _, _, _, _, _, _, _, _, _, _, _, _, h1, (World.putObj_heap_other (fun e => by subst e; rw [show A.heap[Bx]? = _ from h2] at hlr; cases hlr)).trans h2, h3⟩
    case assign =>
      intro l pre s W K hsz hi hK
      dsimp only [encS]
      gi_wp2
      refine hK _ _ (Outside.of_below ((Below.refl _ _).alloc (Nat.le_refl _) _) (by omega)) ⟨HJ.out _ _ _ hi.1 ((Below.refl _ _).alloc (by omega) _), hi.2.1.alloc (by omega) _, hi.2.2.1.alloc _, hi.2.2.2.alloc _⟩ ⟨W.heap.size, _, _, _, _, _, _, _, _, _, _, _, _, _, _, _, _, _, _, _, _, _, _, _, _, _, _, _, _, _, _, _, _, _, _, _, _, _, by omega, Blk.made _ _ _, rfl⟩
    case body =>
      rintro l pre s a1 W hsz ⟨i1, i2, i3, i4⟩ ⟨Bx, u0, u1, u2, u4, u6, u7, u8, u9, u10, u11, u12, u13, u14, u15, u16, u17, u18, u19, u20, u21, u22, u23, u24, u25, u26, u27, u28, u29, u30, u31, u32, u33, u34, u35, u36, u37, u38, hBx, bX, rfl⟩ hpre
      have HC := hidE (HE.out pre s W (by omega) i1 hpre)
      have y0 := bX.cell 0; have y1 := bX.cell 1; have y2 := bX.cell 2; have y3 := bX.cell 3; have yz := bX.lt
      have t0 := i3.cell 0; have t1 := i3.lt
      simp at y0 y1 y2 y3 t0
      clear hI0 HSEQ
      gi_wp2_with fail
      refine ⟨trivial, rfl, (CallsIn.inRound l (callsIn_wide.2 HC.out)).mono ?_⟩
      rintro e w3 ⟨⟨v, rfl⟩, hJ3, hO⟩
      gi_wp2
      have hO' : Outside w0.heap.size w1.heap.size W w3 := hO.weak (by omega)
      exact ⟨hO', hJ3, i2.trans hO.below, outBlk i3 hO (by omega), outBlk i4 hO (by omega)⟩
    case done =>
      rintro D W hD ⟨i1, i2, i3, i4⟩ hK
      clear hI0 HSEQ
      go_wp2
      refine ⟨by simp, .inl ⟨_, _, rfl, run_takeDeferred hK, ?_⟩⟩
      refine ⟨.int .i64 0, by simp [results, Tryz.results204, go_sem], rfl, by rw [HS.out]; exact HJ.out _ _ _ i1 (below_putObj _ _ _ (by omega)), i2.trans (below_putObj _ _ _ (by omega))⟩
    case stop =>
      rintro D c pre W hD hpre h hK
      exact h.elim
end Go.Proofs.YthlepbbdjmmelaaGreat

namespace Go.Proofs.YthlepbbdjmmelaaGreat
open Go.ChangeShapes Go.WideShapes Go.ChangeAt Go.RowKit Go.Shelf
attribute [local irreducible] Go.Calls

theorem wrap_add {a b : Int} (h : -9223372036854775808 ≤ a + b) (h2 : a + b ≤ 9223372036854775807) : wrap64 (a + wrap64 b) = a + b := by unfold wrap64; omega
set_option maxHeartbeats 1000000 in
theorem along_c (a b n c d : Int) (w : World) (h1 : -9223372036854775808 ≤ a + n * c ∧ a + n * c ≤ 9223372036854775807) (h2 : -9223372036854775808 ≤ b + n * d ∧ b + n * d ≤ 9223372036854775807) :
    Calls Tryz.prog 206 #[V a b, .int .i64 n, V c d] w fun e w' => e = .returned (V (a + n * c) (b + n * d)) ∧ Below w.heap.size w w' := by
  have H1 := hidE (wrap_add h1.1 h1.2); have H2 := hidE (wrap_add h2.1 h2.2)
  clear h1 h2
  go_enter Tryz.func206, Tryz.ntmps206
  go_wp2
  refine bodyPost_ret (v := V (a + n * c) (b + n * d)) ?_ rfl ⟨rfl, ?_⟩
  · have q1 := H1.out; have q2 := H2.out
    simp [results, Tryz.results206, go_sem, q1, q2]
  · (repeat (first | exact Below.refl _ _ | assumption | refine balloc ?_ _ | refine below_drewN ?_ _ | refine bstep (by assumption) ?_ | refine bstep (Past.prop _) ?_ | refine Below.setCell ?_ (by first | exact Nat.le_refl _ | (simp; done) | (simp; omega)) _))

/-- What the closure keeps. -/
theorem addcl_c (s : St) (p : Nat) (acc : Int × Int) (w : World) (hB : Blk w p #[.int .i64 acc.1, .int .i64 acc.2] 65)
    (h0 : -9223372036854775808 ≤ s.2.1 - s.1 ∧ s.2.1 - s.1 ≤ 9223372036854775807)
    (h1 : -9223372036854775808 ≤ (addG acc s).1 ∧ (addG acc s).1 ≤ 9223372036854775807) (h2 : -9223372036854775808 ≤ (addG acc s).2 ∧ (addG acc s).2 ≤ 9223372036854775807) :
    Calls Tryz.prog 205 (encS s ++ #[.pointer (some ⟨p, 0, none⟩)]) w fun e w' => (∃ v, e = .returned v) ∧ Blk w' p #[.int .i64 (addG acc s).1, .int .i64 (addG acc s).2] 65 ∧ w.grownBy w' (some p) := by
  have HC := hidE (fun w => along_c acc.1 acc.2 (s.2.1 - s.1) s.2.2.1 s.2.2.2 w h1 h2)
  have e0 := hB.cell 0; have e1 := hB.cell 1; have ef := hB.free; have ez := hB.lt
  simp at e0 e1
  have HB := hidE hB
  have HG := hidE (show addG acc s = (acc.1 + (s.2.1 - s.1) * s.2.2.1, acc.2 + (s.2.1 - s.1) * s.2.2.2) from rfl)
  clear h1 h2 hB
  rw [HG.out]
  show Calls _ _ #[.agg #[.int .i64 s.1, .int .i64 s.2.1, .int .i64 s.2.2.1, .int .i64 s.2.2.2], .pointer (some ⟨p, 0, none⟩)] _ _
  generalize acc.1 + (s.2.1 - s.1) * s.2.2.1 = q1 at *
  generalize acc.2 + (s.2.1 - s.1) * s.2.2.2 = q2 at *
  go_enter Tryz.func205, Tryz.ntmps205
  go_wp2_with fail
  ((with_reducible refine (HC.out _).mono ?_); rintro e w1 ⟨rfl, hb1⟩)
  have hb : Below w.heap.size w w1 := by (repeat (first | exact Below.refl _ _ | assumption | refine balloc ?_ _ | refine below_drewN ?_ _ | refine bstep (by assumption) ?_ | refine bstep (Past.prop _) ?_ | refine Below.setCell ?_ (by first | exact Nat.le_refl _ | (simp; done) | (simp; omega)) _))
  have B1 := HB.out.below hb ez
  clear hb1 e0 e1 ef ez
  have e0 := B1.cell 0; have e1 := B1.cell 1; have ef := B1.free; have ez := B1.lt
  simp at e0 e1
  go_wp2
  go_end0
  refine ⟨⟨_, rfl⟩, by simpa using (B1.set 0 (.int .i64 q1)).set 1 (.int .i64 q2), ?_⟩
  exact grown_trans (grown_trans (grown_any hb) (grown_set _ _ _ _)) (grown_set _ _ _ _)

/-- The sum so far. -/
def sumJ (F : List Sg) (x : Int) (p : Nat) (pre : List St) (W : World) : Prop :=
  Blk W p #[.int .i64 (sumN F x (endG x pre - x).toNat).1, .int .i64 (sumN F x (endG x pre - x).toNat).2] 65
set_option maxHeartbeats 1000000 in
theorem sum_c (F : List Sg) (x y : Int) (a : Option Addr) (cap : Nat) (w : World) (hl : F.length ≤ 1000000000) (hA : ArgS w a F) :
    Calls Tryz.prog 192 #[.slice a F.length cap, .int .i64 x, .int .i64 y] w fun e w' => e = .returned (VE (totS F x y)) ∧ Below w.heap.size w w' := by
  obtain ⟨w0, hw0⟩ : ∃ w0, w0 = w.alloc (Obj.cells #[.int .i64 0, .int .i64 0] 65) := ⟨_, rfl⟩
  have hz0 : w0.heap.size = w.heap.size + 1 := by rw [hw0]; simp
  have hA0 : ArgS w0 a F := hA.past (by rw [hw0]; (repeat (first | exact Below.refl _ _ | assumption | refine balloc ?_ _ | refine below_drewN ?_ _ | refine bstep (by assumption) ?_ | refine bstep (Past.prop _) ?_ | refine Below.setCell ?_ (by first | exact Nat.le_refl _ | (simp; done) | (simp; omega)) _)))
  have HEV := hidE (fun (w' : World) (hb : Below w0.heap.size w0 w') (hB : Blk w' (w.heap.size + 1) #[.int .i64 0, .int .i64 0] 65) => ev_c F x y a cap 205 #[.pointer (some ⟨w.heap.size + 1, 0, none⟩)] w0 w' (sumJ F x (w.heap.size + 1)) hl hA0 hb
    (enters_of Tryz.func205 (by kernel_rfl) rfl) (fun s A B h hb2 => h.below hb2 hB.lt)
    (fun hbad pre s W hz hJ hpre => by
      obtain ⟨hm, hwn⟩ := badW_zero.1 hbad
      rw [wndB_iff] at hwn
      obtain ⟨k1, k2, k3, k4, k5⟩ := str_at (mayB_iff.1 hm) hpre
      have hsum := add_str (F := F) k2 k3 k5
      have hle := sumN_le (CF.ok (mayB_iff.1 hm)) x (s.2.1 - x).toNat
      have hke : (s.2.1 - x).toNat ≤ 8000 := by omega
      unfold sumJ at hJ
      rw [← k1] at hJ
      have hq : ((((s.2.1 - x).toNat : Nat)) : Int) ≤ 8000 := by omega
      have hm2 : (1125899906842624 : Int) * (((s.2.1 - x).toNat : Nat)) ≤ 9007199254740992000 := by omega
      refine (addcl_c s (w.heap.size + 1) (sumN F x (s.1 - x).toNat) W hJ (by omega) (by rw [← hsum]; omega) (by rw [← hsum]; omega)).mono ?_
      rintro e W' ⟨hv, hB2, hg⟩
      refine ⟨hv, ?_, Outside.of_grown hg (by omega) hB.lt (Nat.le_trans hb.size hz)⟩
      unfold sumJ
      rw [endG_snoc, hsum]
      exact hB2)
    (by unfold sumJ; rw [show endG x [] - x = 0 from Int.sub_self x]; exact hB))
  have HT := hidE (show totS F x y = ((sumN F x (endG x (evS F x y) - x).toNat).1, (sumN F x (endG x (evS F x y) - x).toNat).2, badW F x y) from by
    by_cases hq : badW F x y = 0
    · obtain ⟨hm, hwn⟩ := badW_zero.1 hq
      rw [wndB_iff] at hwn
      rw [totS_ok hq, show evS F x y = strL F x y from if_pos hq, str_end (mayB_iff.1 hm) (by omega), hq]
    · rw [totS_no hq, show evS F x y = [] from if_neg hq, show endG x [] - x = 0 from Int.sub_self x]; rfl)
  clear hA hA0
  rw [HT.out]
  unfold sumJ at HEV
  generalize sumN F x (endG x (evS F x y) - x).toNat = q at *
  generalize badW F x y = er at *
  have HB00 := hidE (show Blk w0 w.heap.size #[.int .i64 0, .int .i64 0] 65 by rw [hw0]; exact Blk.made _ _ _)
  have HBW := hidE (show Below w.heap.size w w0 by rw [hw0]; (repeat (first | exact Below.refl _ _ | assumption | refine balloc ?_ _ | refine below_drewN ?_ _ | refine bstep (by assumption) ?_ | refine bstep (Past.prop _) ?_ | refine Below.setCell ?_ (by first | exact Nat.le_refl _ | (simp; done) | (simp; omega)) _)))
  go_enter Tryz.func192, Tryz.ntmps192
  go_wp2_with fail
  rw [← hw0]
  ((with_reducible refine (HEV.out _ ?hb0 ?hB0).mono ?_)); case hb0 => exact (Below.refl _ w0).alloc (Nat.le_refl _) _
  case hB0 => exact Blk.made_at _ _ _ _ (by omega)
  rintro e w1 ⟨rfl, hB1, hb1⟩
  have B0 := HB00.out.below hb1 (by omega)
  have e0 := hB1.cell 0; have e1 := hB1.cell 1; have ez := hB1.lt; have d0 := B0.cell 0; have d1 := B0.cell 1; have df := B0.free; have dz := B0.lt
  simp at e0 e1 d0 d1
  have B2 := (B0.set 0 (.int .i64 q.1)).set 1 (.int .i64 q.2)
  have g0 := B2.cell 0; have g1 := B2.cell 1
  simp at g0 g1
  have HBB := hidE (HBW.out.trans (hb1.mono (by omega)))
  clear hB1 hb1 B0 B2
  go_wp2
  refine bodyPost_ret (v := VE (q.1, q.2, er)) (by simp [results, Tryz.results192, go_sem, g0, g1]) rfl ⟨rfl, ?_⟩
  exact (HBB.out.setCell (p := ⟨w.heap.size, 0, none⟩) (Nat.le_refl _) _).setCell (p := ⟨w.heap.size, 1, none⟩) (Nat.le_refl _) _
end Go.Proofs.YthlepbbdjmmelaaGreat

namespace Go.Proofs.YthlepbbdjmmelaaGreat
open Go.ChangeShapes Go.WideShapes Go.ChangeAt Go.RowKit
attribute [local irreducible] Go.Calls

theorem above_c (s p l : Int) (w : World) (h1 : -9223372036854775808 ≤ l - s) (h2 : l - s ≤ 9223372036854775806) :
    Calls Tryz.prog 209 #[.int .i64 s, .int .i64 p, .int .i64 l] w fun e w' => e = .returned (.int .i64 (abvI s p l)) ∧ w' = w := by
  by_cases c : l < s
  · have HE := hidE (show abvI s p l = 0 by unfold abvI; rw [if_pos c])
    have e1 : decide (l < s) = true := decide_eq_true c
    rw [HE.out]
    go_enter Tryz.func209, Tryz.ntmps209
    go_wp2
    go_ret
    exact ⟨rfl, rfl⟩
  · have e1 : decide (l < s) = false := decide_eq_false c
    by_cases c2 : p ≤ 0
    · have HE := hidE (show abvI s p l = 9223372036854775807 by unfold abvI; rw [if_neg c, if_pos c2])
      have e2 : decide (p ≤ 0) = true := decide_eq_true c2
      rw [HE.out]
      go_enter Tryz.func209, Tryz.ntmps209
      go_wp2
      go_ret
      exact ⟨rfl, rfl⟩
    · have HE := hidE (show abvI s p l = (l - s).tdiv p + 1 by unfold abvI; rw [if_neg c, if_neg c2])
      have e2 : decide (p ≤ 0) = false := decide_eq_false c2
      have q1 : 0 ≤ (l - s).tdiv p := Int.tdiv_nonneg (by omega) (by omega)
      have q2 : (l - s).tdiv p ≤ l - s := by
        rw [Int.tdiv_eq_ediv_of_nonneg (by omega)]
        exact Int.ediv_le_self _ (by omega)
      rw [HE.out]
      have HW := hidE (IntWalk.i64_quo' (l - s) p (by omega))
      go_enter Tryz.func209, Tryz.ntmps209
      go_wp2
      go_ret
      exact ⟨rfl, rfl⟩

theorem mv_tail {b off : Nat} {f : List Sg} (w0 : World) (h : ArgS w0 (some ⟨b, off, none⟩) f) : ArgS w0 (some ⟨b, off + 3, none⟩) (f.drop 1) := fun hl => by
  rw [List.length_drop] at hl
  obtain ⟨b', off', e, hb, hc⟩ := h (by omega)
  cases e
  refine ⟨b, off + 3, rfl, hb, fun i hi => ?_⟩
  rw [List.length_drop] at hi
  obtain ⟨h1, h2, h3⟩ := hc (i + 1) (by omega)
  have e : (f.drop 1).getD i (0, 0, 0) = f.getD (i + 1) (0, 0, 0) := by simp [List.getD_eq_getElem?_getD]
  rw [e, show off + 3 + i * 3 = off + (i + 1) * 3 by omega]
  exact ⟨h1, h2, h3⟩
/-- A slide, cell by cell. -/
abbrev SLC (x n : Int) (s v u : Int × Int) (f g : Value) : Array Value := #[.int .i64 x, .int .i64 n, .int .i64 s.1, .int .i64 s.2, .int .i64 v.1, .int .i64 v.2, f, .int .i64 u.1, .int .i64 u.2, g]
def straightL (f g : List Sg) (x n : Int) : Int := if f.length = 0 then 0 else if g.length = 0 then ats f 0 - x else mn (ats f 0 - x) (ats g 0 - n - x)
theorem straight_is (F : List Sg) (x n : Int) : straightI F x n = straightL (curF F x) (curF F (x + n)) x n := rfl
set_option maxHeartbeats 1000000 in
theorem straight_c (f g : List Sg) (x n : Int) (s v u : Int × Int) (a a' : Option Addr) (c c' : Nat) (w : World) (hf : f.length ≤ 9223372036854775807) (hg : g.length ≤ 9223372036854775807) (hA : ArgS w a f) (hA' : ArgS w a' g)
    (hx : -2251799813685248 ≤ x ∧ x ≤ 2251799813685248) (hn : 0 ≤ n ∧ n ≤ 4096) (h1 : 0 < f.length → -1125899906842624 ≤ ats f 0 ∧ ats f 0 ≤ 1125899906842624) (h2 : 0 < g.length → -1125899906842624 ≤ ats g 0 ∧ ats g 0 ≤ 1125899906842624) :
    Calls Tryz.prog 208 #[.agg (SLC x n s v u (.slice a f.length c) (.slice a' g.length c'))] w fun e w' => e = .returned (.int .i64 (straightL f g x n)) ∧ Below w.heap.size w w' := by
  have HA := hidE hA; have HA' := hidE hA'
  clear hA hA'
  by_cases c1 : f.length = 0
  · have HE := hidE (show straightL f g x n = 0 by unfold straightL; rw [if_pos c1])
    have e1 : ((f.length : Int) == 0) = true := beq_iff_eq.2 (by omega)
    rw [HE.out]
    clear h1 h2 c1 HE
    generalize f.length = kf at *
    go_enter Tryz.func208, Tryz.ntmps208
    go_wp2
    go_ret
    exact ⟨rfl, by (repeat (first | exact Below.refl _ _ | assumption | refine balloc ?_ _ | refine below_drewN ?_ _ | refine bstep (by assumption) ?_ | refine bstep (Past.prop _) ?_ | refine Below.setCell ?_ (by first | exact Nat.le_refl _ | (simp; done) | (simp; omega)) _))⟩
  · obtain ⟨b, off, rfl, hb, hc⟩ := HA.out (by omega)
    obtain ⟨d0, _, _⟩ := hc.get (i := 0) (by omega)
    simp at d0
    have hp := h1 (by omega)
    have e1 : ((f.length : Int) == 0) = false := beq_eq_false_iff_ne.2 (by omega)
    have hf0 : 0 < f.length := by omega
    by_cases c2 : g.length = 0
    · have HE := hidE (show straightL f g x n = ats f 0 - x by unfold straightL; rw [if_neg c1, if_pos c2])
      have e2 : decide (0 < (g.length : Int)) = false := decide_eq_false (by omega)
      have e3 : decide (0 < g.length) = false := decide_eq_false (by omega)
      have e4 : ¬ 0 < (g.length : Int) := by omega
      rw [HE.out]
      clear h1 h2 c1 c2 HE hc
      generalize ats f 0 = t at *
      generalize f.length = kf at *
      generalize g.length = kg at *
      go_enter Tryz.func208, Tryz.ntmps208
      go_wp2
      go_quiet (fail)
      go_wp2
      go_ret
      exact ⟨rfl, by (repeat (first | exact Below.refl _ _ | assumption | refine balloc ?_ _ | refine below_drewN ?_ _ | refine bstep (by assumption) ?_ | refine bstep (Past.prop _) ?_ | refine Below.setCell ?_ (by first | exact Nat.le_refl _ | (simp; done) | (simp; omega)) _))⟩
    · obtain ⟨b', off', rfl, hb', hc'⟩ := HA'.out (by omega)
      obtain ⟨d1, _, _⟩ := hc'.get (i := 0) (by omega)
      simp at d1
      have hp2 := h2 (by omega)
      have e2 : decide (0 < (g.length : Int)) = true := decide_eq_true (by omega)
      have e3 : decide (0 < g.length) = true := decide_eq_true (by omega)
      have hg0 : 0 < g.length := by omega
      have HE := hidE (show straightL f g x n = mn (ats f 0 - x) (ats g 0 - n - x) by unfold straightL; rw [if_neg c1, if_neg c2])
      rw [HE.out]
      clear h1 h2 c1 c2 HE hc hc'
      generalize ats f 0 = t at *
      generalize ats g 0 = t' at *
      generalize f.length = kf at *
      generalize g.length = kg at *
      go_enter Tryz.func208, Tryz.ntmps208
      go_wp2
      go_quiet (fail)
      go_wp2
      go_region
      all_goals try go_wp2
      all_goals
        go_ret
        refine ⟨ret_int (by unfold mn; split <;> omega), ?_⟩
        (repeat (first | exact Below.refl _ _ | assumption | refine balloc ?_ _ | refine below_drewN ?_ _ | refine bstep (by assumption) ?_ | refine bstep (Past.prop _) ?_ | refine Below.setCell ?_ (by first | exact Nat.le_refl _ | (simp; done) | (simp; omega)) _))


set_option maxRecDepth 100000 in
set_option maxHeartbeats 2000000 in
theorem mvtail_c (f : List Sg) (x n t : Int) (s v u : Int × Int) (h : Value) (k : Nat) (a : Option Addr) (cap : Nat) (w0 w : World) (hl : f.length ≤ cap) (hc : cap ≤ 9223372036854775807) (hA : ArgS w0 a f) (hw : Below w0.heap.size w0 w) (hk : w0.heap.size ≤ k)
    (hB : Blk w k (SLC x n s v u (.slice a f.length cap) h) 256) :
    Calls Tryz.prog 207 #[.pointer (some ⟨k, 4, none⟩), .int .i64 t] w fun e w' => (∃ v, e = .returned v) ∧ (∃ a' cap', Blk w' k (SLC x n s (moveV f t v) u (.slice a' (moveF f t).length cap') h) 256 ∧ (moveF f t).length ≤ cap' ∧ cap' ≤ 9223372036854775807 ∧ ArgS w0 a' (moveF f t)) ∧ w.grownBy w' (some k) := by
  have HW := hidE hw; have HK := hidE hk
  obtain ⟨f0, hf0⟩ : ∃ f0, f0 = f := ⟨_, rfl⟩
  obtain ⟨v0, hv0⟩ : ∃ v0, v0 = v := ⟨_, rfl⟩
  go_enter Tryz.func207, Tryz.ntmps207
  go_wp2
  go_loopg [] f.length (fun gh wr => ∃ (f1 : List Sg) (v1 : Int × Int) (a1 : Option Addr) (c1 : Nat), f1.length ≤ gh ∧ moveF f1 t = moveF f t ∧ moveV f1 t v1 = moveV f t v ∧ Blk wr k (SLC x n s v1 u (.slice a1 f1.length c1) h) 256 ∧ f1.length ≤ c1 ∧ c1 ≤ 9223372036854775807 ∧ ArgS w0 a1 f1 ∧ w.grownBy wr (some k))
  case atStart => exact ⟨f, v, a, cap, Nat.le_refl _, rfl, rfl, hB, hl, hc, hA, grown_refl _ _⟩
  case round =>
    obtain ⟨f1, v1, a1, c1, hg, m1, m2, hB1, l1, l2, hA1, hgr⟩ := hrel
    have HG := hidE hgr; have HB := hidE hB1; have HA1 := hidE hA1; have HM1 := hidE m1; have HM2 := hidE m2; have HL := hidE l1; have HGH := hidE hg
    clear hgr hA1 m1 m2 hB hA hg hw hk
    obtain ⟨wo, hwo⟩ : ∃ wo : World, wo = wr := ⟨_, rfl⟩
    by_cases h0 : f1.length = 0
    · have HF := hidE (show moveF f t = f1 by rw [← HM1.out, List.length_eq_zero_iff.1 h0]; rfl)
      have HV := hidE (show moveV f t v = v1 by rw [← HM2.out, List.length_eq_zero_iff.1 h0]; rfl)
      have e1 : decide (0 < (f1.length : Int)) = false := decide_eq_false (by omega)
      have e2 : decide (0 < f1.length) = false := decide_eq_false (by omega)
      have e3 : ¬ 0 < (f1.length : Int) := by omega
      have b0 := hB1.cell 4; have b1 := hB1.cell 5; have b2 := hB1.cell 6; have b3 := hB1.cell 7; have b4 := hB1.cell 8; have b5 := hB1.cell 9; have bz := hB1.lt
      simp at b0 b1 b2 b3 b4 b5
      clear h0 hB1
      go_wp2
      go_end0
      rw [HF.out, HV.out]
      exact ⟨⟨_, rfl⟩, ⟨a1, c1, HB.out, HL.out, l2, HA1.out⟩, HG.out⟩
    · have hpos : 0 < f1.length := by omega
      obtain ⟨b, off, rfl, hb0, hc0⟩ := HA1.out hpos
      have hbw : Below w0.heap.size w0 wr := HW.out.grown HG.out HW.out.size (fun k' e' => by cases e'; exact HK.out)
      have hc := hc0.below hbw hb0
      obtain ⟨d0, d1, d2⟩ := hc.get (i := 0) hpos
      simp at d0 d1 d2
      have hbk : b ≠ k := by have := HK.out; omega
      have hbz : b < wr.heap.size := by have := hbw.size; omega
      have b0 := hB1.cell 4; have b1 := hB1.cell 5; have b2 := hB1.cell 6; have b3 := hB1.cell 7; have b4 := hB1.cell 8; have b5 := hB1.cell 9; have bz := hB1.lt; have bf := hB1.free
      simp at b0 b1 b2 b3 b4 b5
      have e0 : decide (0 < f1.length) = true := decide_eq_true hpos
      have e1 : decide ((0 : Int) < (f1.length : Int)) = true := decide_eq_true (by omega)
      by_cases ht : ats f1 0 ≤ t
      · have HF1 := hidE (show moveF (f1.drop 1) t = moveF f t by
          rw [← HM1.out]
          cases f1 with
          | nil => simp at hpos
          | cons r f2 =>
            have ht' : r.1 ≤ t := ht
            show moveF f2 t = moveF (r :: f2) t
            rw [show moveF (r :: f2) t = if r.1 ≤ t then moveF f2 t else r :: f2 from rfl, if_pos ht'])
        have HF2 := hidE (show moveV (f1.drop 1) t (vls f1 0) = moveV f t v by
          rw [← HM2.out]
          cases f1 with
          | nil => simp at hpos
          | cons r f2 =>
            have ht' : r.1 ≤ t := ht
            show moveV f2 t r.2 = moveV (r :: f2) t v1
            rw [show moveV (r :: f2) t v1 = if r.1 ≤ t then moveV f2 t r.2 else v1 from rfl, if_pos ht'])
        have HTL := hidE (mv_tail (b := b) (off := off) (f := f1) w0)
        have HLN := hidE (show (f1.drop 1).length = f1.length - 1 by rw [List.length_drop])
        have e2 : decide (ats f1 0 ≤ t) = true := decide_eq_true ht
        clear hc hc0 ht HM1 HM2 hB1
        generalize f1.drop 1 = f2 at *
        generalize ats f1 0 = q at *
        generalize vls f1 0 = z at *
        go_upto_region 1 with fail
        go_region
        obtain ⟨av, hav⟩ : ∃ av : Option Addr, av = (if c1 = 1 then some ⟨b, off, none⟩ else some ⟨b, off + 3, none⟩) := ⟨_, rfl⟩
        have hA2 : ArgS w0 av f2 := by
          rw [hav]
          by_cases hc1 : c1 = 1
          · rw [if_pos hc1]
            intro hl2
            have := HLN.out
            omega
          · rw [if_neg hc1]; exact HTL.out HA1.out
        have hB2 := ((HB.out.set 4 (.int .i64 z.1)).set 5 (.int .i64 z.2)).set 6 (.slice av (f1.length - 1) (c1 - 1))
        have hg2 : w.grownBy (((wr.setCell ⟨k, 4, none⟩ (.int .i64 z.1)).setCell ⟨k, 5, none⟩ (.int .i64 z.2)).setCell ⟨k, 6, none⟩ (.slice av (f1.length - 1) (c1 - 1))) (some k) :=
          grown_trans (grown_trans (grown_trans HG.out (grown_set _ _ _ _)) (grown_set _ _ _ _)) (grown_set _ _ _ _)
        have HB2 := hidE hB2; have HG2 := hidE hg2; have HA2 := hidE hA2
        clear hB2 hg2 hA2
        rw [← hav]
        go_wp2
        go_roundg (f1.length - 1)
        case measure => have := HGH.out; omega
        case rel =>
          refine ⟨f2, z, av, c1 - 1, by rw [HLN.out]; exact Nat.le_refl _, HF1.out, HF2.out, ?_, by rw [HLN.out]; omega, by omega, HA2.out, ?_⟩
          · rw [HLN.out]
            have q := HB2.out
            simp at q
            exact q
          · exact grown_trans HG2.out (grown_any ((Below.refl _ _).drew))
      · have HF := hidE (show moveF f t = f1 by
          rw [← HM1.out]
          cases f1 with
          | nil => rfl
          | cons r f2 =>
            have ht' : ¬ r.1 ≤ t := ht
            rw [show moveF (r :: f2) t = if r.1 ≤ t then moveF f2 t else r :: f2 from rfl, if_neg ht'])
        have HV := hidE (show moveV f t v = v1 by
          rw [← HM2.out]
          cases f1 with
          | nil => rfl
          | cons r f2 =>
            have ht' : ¬ r.1 ≤ t := ht
            rw [show moveV (r :: f2) t v1 = if r.1 ≤ t then moveV f2 t r.2 else v1 from rfl, if_neg ht'])
        have e2 : decide (ats f1 0 ≤ t) = false := decide_eq_false ht
        clear hc hc0 ht hB1
        generalize ats f1 0 = q at *
        go_wp2
        go_end0
        rw [HF.out, HV.out]
        exact ⟨⟨_, rfl⟩, ⟨_, c1, HB.out, HL.out, l2, HA1.out⟩, HG.out⟩

set_option maxRecDepth 100000 in
set_option maxHeartbeats 2000000 in
theorem mvhead_c (f : List Sg) (x n t : Int) (s v u : Int × Int) (h : Value) (k : Nat) (a : Option Addr) (cap : Nat) (w0 w : World) (hl : f.length ≤ cap) (hc : cap ≤ 9223372036854775807) (hA : ArgS w0 a f) (hw : Below w0.heap.size w0 w) (hk : w0.heap.size ≤ k)
    (hB : Blk w k (SLC x n s u v h (.slice a f.length cap)) 256) :
    Calls Tryz.prog 207 #[.pointer (some ⟨k, 7, none⟩), .int .i64 t] w fun e w' => (∃ v, e = .returned v) ∧ (∃ a' cap', Blk w' k (SLC x n s u (moveV f t v) h (.slice a' (moveF f t).length cap')) 256 ∧ (moveF f t).length ≤ cap' ∧ cap' ≤ 9223372036854775807 ∧ ArgS w0 a' (moveF f t)) ∧ w.grownBy w' (some k) := by
  have HW := hidE hw; have HK := hidE hk
  obtain ⟨f0, hf0⟩ : ∃ f0, f0 = f := ⟨_, rfl⟩
  obtain ⟨v0, hv0⟩ : ∃ v0, v0 = v := ⟨_, rfl⟩
  go_enter Tryz.func207, Tryz.ntmps207
  go_wp2
  go_loopg [] f.length (fun gh wr => ∃ (f1 : List Sg) (v1 : Int × Int) (a1 : Option Addr) (c1 : Nat), f1.length ≤ gh ∧ moveF f1 t = moveF f t ∧ moveV f1 t v1 = moveV f t v ∧ Blk wr k (SLC x n s u v1 h (.slice a1 f1.length c1)) 256 ∧ f1.length ≤ c1 ∧ c1 ≤ 9223372036854775807 ∧ ArgS w0 a1 f1 ∧ w.grownBy wr (some k))
  case atStart => exact ⟨f, v, a, cap, Nat.le_refl _, rfl, rfl, hB, hl, hc, hA, grown_refl _ _⟩
  case round =>
    obtain ⟨f1, v1, a1, c1, hg, m1, m2, hB1, l1, l2, hA1, hgr⟩ := hrel
    have HG := hidE hgr; have HB := hidE hB1; have HA1 := hidE hA1; have HM1 := hidE m1; have HM2 := hidE m2; have HL := hidE l1; have HGH := hidE hg
    clear hgr hA1 m1 m2 hB hA hg hw hk
    obtain ⟨wo, hwo⟩ : ∃ wo : World, wo = wr := ⟨_, rfl⟩
    by_cases h0 : f1.length = 0
    · have HF := hidE (show moveF f t = f1 by rw [← HM1.out, List.length_eq_zero_iff.1 h0]; rfl)
      have HV := hidE (show moveV f t v = v1 by rw [← HM2.out, List.length_eq_zero_iff.1 h0]; rfl)
      have e1 : decide (0 < (f1.length : Int)) = false := decide_eq_false (by omega)
      have e2 : decide (0 < f1.length) = false := decide_eq_false (by omega)
      have e3 : ¬ 0 < (f1.length : Int) := by omega
      have b0 := hB1.cell 4; have b1 := hB1.cell 5; have b2 := hB1.cell 6; have b3 := hB1.cell 7; have b4 := hB1.cell 8; have b5 := hB1.cell 9; have bz := hB1.lt
      simp at b0 b1 b2 b3 b4 b5
      clear h0 hB1
      go_wp2
      go_end0
      rw [HF.out, HV.out]
      exact ⟨⟨_, rfl⟩, ⟨a1, c1, HB.out, HL.out, l2, HA1.out⟩, HG.out⟩
    · have hpos : 0 < f1.length := by omega
      obtain ⟨b, off, rfl, hb0, hc0⟩ := HA1.out hpos
      have hbw : Below w0.heap.size w0 wr := HW.out.grown HG.out HW.out.size (fun k' e' => by cases e'; exact HK.out)
      have hc := hc0.below hbw hb0
      obtain ⟨d0, d1, d2⟩ := hc.get (i := 0) hpos
      simp at d0 d1 d2
      have hbk : b ≠ k := by have := HK.out; omega
      have hbz : b < wr.heap.size := by have := hbw.size; omega
      have b0 := hB1.cell 4; have b1 := hB1.cell 5; have b2 := hB1.cell 6; have b3 := hB1.cell 7; have b4 := hB1.cell 8; have b5 := hB1.cell 9; have bz := hB1.lt; have bf := hB1.free
      simp at b0 b1 b2 b3 b4 b5
      have e0 : decide (0 < f1.length) = true := decide_eq_true hpos
      have e1 : decide ((0 : Int) < (f1.length : Int)) = true := decide_eq_true (by omega)
      by_cases ht : ats f1 0 ≤ t
      · have HF1 := hidE (show moveF (f1.drop 1) t = moveF f t by
          rw [← HM1.out]
          cases f1 with
          | nil => simp at hpos
          | cons r f2 =>
            have ht' : r.1 ≤ t := ht
            show moveF f2 t = moveF (r :: f2) t
            rw [show moveF (r :: f2) t = if r.1 ≤ t then moveF f2 t else r :: f2 from rfl, if_pos ht'])
        have HF2 := hidE (show moveV (f1.drop 1) t (vls f1 0) = moveV f t v by
          rw [← HM2.out]
          cases f1 with
          | nil => simp at hpos
          | cons r f2 =>
            have ht' : r.1 ≤ t := ht
            show moveV f2 t r.2 = moveV (r :: f2) t v1
            rw [show moveV (r :: f2) t v1 = if r.1 ≤ t then moveV f2 t r.2 else v1 from rfl, if_pos ht'])
        have HTL := hidE (mv_tail (b := b) (off := off) (f := f1) w0)
        have HLN := hidE (show (f1.drop 1).length = f1.length - 1 by rw [List.length_drop])
        have e2 : decide (ats f1 0 ≤ t) = true := decide_eq_true ht
        clear hc hc0 ht HM1 HM2 hB1
        generalize f1.drop 1 = f2 at *
        generalize ats f1 0 = q at *
        generalize vls f1 0 = z at *
        go_upto_region 1 with fail
        go_region
        obtain ⟨av, hav⟩ : ∃ av : Option Addr, av = (if c1 = 1 then some ⟨b, off, none⟩ else some ⟨b, off + 3, none⟩) := ⟨_, rfl⟩
        have hA2 : ArgS w0 av f2 := by
          rw [hav]
          by_cases hc1 : c1 = 1
          · rw [if_pos hc1]
            intro hl2
            have := HLN.out
            omega
          · rw [if_neg hc1]; exact HTL.out HA1.out
        have hB2 := ((HB.out.set 7 (.int .i64 z.1)).set 8 (.int .i64 z.2)).set 9 (.slice av (f1.length - 1) (c1 - 1))
        have hg2 : w.grownBy (((wr.setCell ⟨k, 7, none⟩ (.int .i64 z.1)).setCell ⟨k, 8, none⟩ (.int .i64 z.2)).setCell ⟨k, 9, none⟩ (.slice av (f1.length - 1) (c1 - 1))) (some k) :=
          grown_trans (grown_trans (grown_trans HG.out (grown_set _ _ _ _)) (grown_set _ _ _ _)) (grown_set _ _ _ _)
        have HB2 := hidE hB2; have HG2 := hidE hg2; have HA2 := hidE hA2
        clear hB2 hg2 hA2
        rw [← hav]
        go_wp2
        go_roundg (f1.length - 1)
        case measure => have := HGH.out; omega
        case rel =>
          refine ⟨f2, z, av, c1 - 1, by rw [HLN.out]; exact Nat.le_refl _, HF1.out, HF2.out, ?_, by rw [HLN.out]; omega, by omega, HA2.out, ?_⟩
          · rw [HLN.out]
            have q := HB2.out
            simp at q
            exact q
          · exact grown_trans HG2.out (grown_any ((Below.refl _ _).drew))
      · have HF := hidE (show moveF f t = f1 by
          rw [← HM1.out]
          cases f1 with
          | nil => rfl
          | cons r f2 =>
            have ht' : ¬ r.1 ≤ t := ht
            rw [show moveF (r :: f2) t = if r.1 ≤ t then moveF f2 t else r :: f2 from rfl, if_neg ht'])
        have HV := hidE (show moveV f t v = v1 by
          rw [← HM2.out]
          cases f1 with
          | nil => rfl
          | cons r f2 =>
            have ht' : ¬ r.1 ≤ t := ht
            rw [show moveV (r :: f2) t v1 = if r.1 ≤ t then moveV f2 t r.2 else v1 from rfl, if_neg ht'])
        have e2 : decide (ats f1 0 ≤ t) = false := decide_eq_false ht
        clear hc hc0 ht hB1
        generalize ats f1 0 = q at *
        go_wp2
        go_end0
        rw [HF.out, HV.out]
        exact ⟨⟨_, rfl⟩, ⟨_, c1, HB.out, HL.out, l2, HA1.out⟩, HG.out⟩
end Go.Proofs.YthlepbbdjmmelaaGreat
