/- The contract of rle.At. No conditions but that the list's cells read as integers. -/
import Derived.Test.YtibmldgbimjgfaaAt
namespace Go.Proofs.Ytibmldgbimjgfaa
open Go.ChangeShapes Go.WideShapes Go.ChangeAt Go.RowKit
attribute [local irreducible] Go.Calls

/-- The end of At, from where the number of runs up to the time is known. -/
theorem at_tail_eq {l : List Sg} {t : Int} {n : Nat} (hv : vat l t = if n = 0 then (0, 0) else vls l (n - 1)) (h0 : n = 0) : V 0 0 = V (vat l t).1 (vat l t).2 := by rw [hv, if_pos h0]
theorem at_tail_ne {l : List Sg} {t : Int} {n : Nat} (hv : vat l t = if n = 0 then (0, 0) else vls l (n - 1)) (h0 : n ≠ 0) : V (vls l (n - 1)).1 (vls l (n - 1)).2 = V (vat l t).1 (vat l t).2 := by rw [hv, if_neg h0]
theorem ret_v {a b : Value} (h : a = b) : Ending.returned a = .returned b := by rw [h]

set_option maxHeartbeats 1000000 in
theorem at_c (l : List Sg) (a : Option Addr) (cap : Nat) (t : Int) (w : World) (hl : l.length ≤ 9223372036854775807) (hA : ArgS w a l) :
    Calls Try.prog 8 #[.slice a l.length cap, .int .i64 t] w fun e w' => e = .returned (V (vat l t).1 (vat l t).2) ∧ Below w.heap.size w w' := by
  have HA := hidE hA; clear hA
  go_enter Try.func8, Try.ntmps8
  go_wp2_with fail
  ((with_reducible refine (search_c l a cap t _ hl (HA.out.past (by (repeat (first | exact Below.refl _ _ | assumption | refine balloc ?_ _ | refine below_drewN ?_ _ | refine bstep (by assumption) ?_ | refine bstep (Past.prop _) ?_ | refine Below.setCell ?_ (by first | exact Nat.le_refl _ | (simp; done) | (simp; omega)) _))))).mono ?_); rintro e w1 ⟨n, rfl, ⟨hn, hf⟩, hb1⟩)
  have HF := hidE hf; clear hf
  have hb1' : Below w.heap.size w w1 := by (repeat (first | exact Below.refl _ _ | assumption | refine balloc ?_ _ | refine below_drewN ?_ _ | refine bstep (by assumption) ?_ | refine bstep (Past.prop _) ?_ | refine Below.setCell ?_ (by first | exact Nat.le_refl _ | (simp; done) | (simp; omega)) _))
  have B1 : Blk w1 w.heap.size #[.int .i64 0, .int .i64 0] 28 := (Blk.made _ _ _).past hb1
  have HB1 := hidE hb1'; clear hb1 hb1'
  go_wp2_with fail
  ((with_reducible refine (sorted_c l a cap _ hl (HA.out.past HB1.out)).mono ?_); rintro e w2 ⟨r, rfl, hr, hb2⟩)
  have HR := hidE hr; clear hr
  have hb2' : Below w.heap.size w w2 := by have := HB1.out; (repeat (first | exact Below.refl _ _ | assumption | refine balloc ?_ _ | refine below_drewN ?_ _ | refine bstep (by assumption) ?_ | refine bstep (Past.prop _) ?_ | refine Below.setCell ?_ (by first | exact Nat.le_refl _ | (simp; done) | (simp; omega)) _))
  have B := B1.past hb2
  have HB := hidE hb2'; clear hb2 hb2' HB1 B1
  cases r
  · go_wp2_with fail
    ((with_reducible refine (scan_c l a cap t _ hl (HA.out.past HB.out)).mono ?_); rintro e w3 ⟨m, rfl, ⟨hm, h1, h2⟩, hb3⟩)
    have HV := hidE (vat_of hm h1 h2)
    have hb3' : Below w.heap.size w w3 := by have := HB.out; (repeat (first | exact Below.refl _ _ | assumption | refine balloc ?_ _ | refine below_drewN ?_ _ | refine bstep (by assumption) ?_ | refine bstep (Past.prop _) ?_ | refine Below.setCell ?_ (by first | exact Nat.le_refl _ | (simp; done) | (simp; omega)) _))
    have B := B.past hb3
    clear HF HB h1 h2 hb3 hn
    have HB := hidE hb3'; clear hb3'
    obtain ⟨n, rfl⟩ : ∃ n' : Nat, n' = m := ⟨m, rfl⟩
    have hn := hm; clear hm
    obtain ⟨w2, rfl⟩ : ∃ w' : World, w' = w3 := ⟨w3, rfl⟩

    by_cases h0 : n = 0
    · have HT := hidE (at_tail_eq HV.out h0)
      have e1 : ((n : Int) == 0) = true := beq_iff_eq.2 (by omega)
      have g0 := B.cell 0; have g1 := B.cell 1; have gf := B.free; have gz := B.lt
      simp at g0 g1
      clear h0
      go_wp2_with fail
      have B1 := (B.set 0 (.int .i64 0)).set 1 (.int .i64 0)
      have q0 := B1.cell 0; have q1 := B1.cell 1
      simp at q0 q1
      refine bodyPost_ret (v := V 0 0) (by simp [results, Try.results8, go_sem, q0, q1]) rfl ⟨ret_v HT.out, ?_⟩
      have hbb := HB.out
      (repeat (first | exact Below.refl _ _ | assumption | refine balloc ?_ _ | refine below_drewN ?_ _ | refine bstep (by assumption) ?_ | refine bstep (Past.prop _) ?_ | refine Below.setCell ?_ (by first | exact Nat.le_refl _ | (simp; done) | (simp; omega)) _))
    · obtain ⟨k, rfl⟩ : ∃ k, n = k + 1 := ⟨n - 1, by omega⟩
      have e1 : ((k : Int) + 1 == 0) = false := beq_eq_false_iff_ne.2 (by omega)
      obtain ⟨b, off, rfl, hb, hc⟩ := HA.out (by omega)
      obtain ⟨c0, c1, c2⟩ := (hc.below HB.out hb).get (i := k) (by omega)
      have hz : b < w2.heap.size := Nat.lt_of_lt_of_le hb HB.out.size
      have HT := hidE (at_tail_ne HV.out (by omega))
      rw [Nat.add_sub_cancel] at HT
      have g0 := B.cell 0; have g1 := B.cell 1; have gf := B.free; have gz := B.lt
      simp at g0 g1
      clear hc c0
      generalize vls l k = v at *
      have hne : b ≠ w.heap.size := by omega
      go_wp2_with fail
      have B1 := (B.set 0 (.int .i64 v.1)).set 1 (.int .i64 v.2)
      have q0 := B1.cell 0; have q1 := B1.cell 1
      simp at q0 q1
      refine bodyPost_ret (v := V v.1 v.2) (by simp [results, Try.results8, go_sem, q0, q1]) rfl ⟨ret_v HT.out, ?_⟩
      have hbb := HB.out
      (repeat (first | exact Below.refl _ _ | assumption | refine balloc ?_ _ | refine below_drewN ?_ _ | refine bstep (by assumption) ?_ | refine bstep (Past.prop _) ?_ | refine Below.setCell ?_ (by first | exact Nat.le_refl _ | (simp; done) | (simp; omega)) _))

  · have HV := hidE (HF.out.vat hn (HR.out rfl))
    clear HF

    by_cases h0 : n = 0
    · have HT := hidE (at_tail_eq HV.out h0)
      have e1 : ((n : Int) == 0) = true := beq_iff_eq.2 (by omega)
      have g0 := B.cell 0; have g1 := B.cell 1; have gf := B.free; have gz := B.lt
      simp at g0 g1
      clear h0
      go_wp2_with fail
      have B1 := (B.set 0 (.int .i64 0)).set 1 (.int .i64 0)
      have q0 := B1.cell 0; have q1 := B1.cell 1
      simp at q0 q1
      refine bodyPost_ret (v := V 0 0) (by simp [results, Try.results8, go_sem, q0, q1]) rfl ⟨ret_v HT.out, ?_⟩
      have hbb := HB.out
      (repeat (first | exact Below.refl _ _ | assumption | refine balloc ?_ _ | refine below_drewN ?_ _ | refine bstep (by assumption) ?_ | refine bstep (Past.prop _) ?_ | refine Below.setCell ?_ (by first | exact Nat.le_refl _ | (simp; done) | (simp; omega)) _))
    · obtain ⟨k, rfl⟩ : ∃ k, n = k + 1 := ⟨n - 1, by omega⟩
      have e1 : ((k : Int) + 1 == 0) = false := beq_eq_false_iff_ne.2 (by omega)
      obtain ⟨b, off, rfl, hb, hc⟩ := HA.out (by omega)
      obtain ⟨c0, c1, c2⟩ := (hc.below HB.out hb).get (i := k) (by omega)
      have hz : b < w2.heap.size := Nat.lt_of_lt_of_le hb HB.out.size
      have HT := hidE (at_tail_ne HV.out (by omega))
      rw [Nat.add_sub_cancel] at HT
      have g0 := B.cell 0; have g1 := B.cell 1; have gf := B.free; have gz := B.lt
      simp at g0 g1
      clear hc c0
      generalize vls l k = v at *
      have hne : b ≠ w.heap.size := by omega
      go_wp2_with fail
      have B1 := (B.set 0 (.int .i64 v.1)).set 1 (.int .i64 v.2)
      have q0 := B1.cell 0; have q1 := B1.cell 1
      simp at q0 q1
      refine bodyPost_ret (v := V v.1 v.2) (by simp [results, Try.results8, go_sem, q0, q1]) rfl ⟨ret_v HT.out, ?_⟩
      have hbb := HB.out
      (repeat (first | exact Below.refl _ _ | assumption | refine balloc ?_ _ | refine below_drewN ?_ _ | refine bstep (by assumption) ?_ | refine bstep (Past.prop _) ?_ | refine Below.setCell ?_ (by first | exact Nat.le_refl _ | (simp; done) | (simp; omega)) _))

end Go.Proofs.Ytibmldgbimjgfaa
