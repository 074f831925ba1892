/- The contract of the document's own answer of two vectors, by a number. No conditions. The contracts of the document's own At and May. No conditions but the lists' sizes. The contract of the document's own May of functions. No conditions but the list's size. The contract of the document's own list of the times of two functions. No conditions but the lists' sizes. The contract of the document's own function of two functions. No conditions but the lists' sizes. The contract of the document's own Range. No conditions but the list's size. The contract of the document's own LE of functions. No conditions but the lists' sizes. The contract of the document's own sum of a row of functions. No conditions but the lists' sizes. -/
import Derived.Test.YtgbgnpdfjoeonaaJA
import Derived.Test.YtgbgnpdfjoeonaaJM
import Derived.Test.YtgbgnpdfjoeonaaJX
namespace Go.Proofs.Ytgbgnpdfjoeonaa
open Go.ChangeShapes Go.WideShapes Go.ChangeAt Go.RowKit

theorem rone (k a b c d : Int) (w : World) : Calls Try.prog 32 #[.int .i64 k, V a b, V c d] w fun e w' => e = .returned (VE (opV k (a, b) (c, d))) ∧ Below w.heap.size w w' := by
  by_cases h0 : k = 0
  · subst h0
    rw [opV_0]
    generalize hg : addS a b c d = g
    have Hg := hidE hg; clear hg
    go_enter Try.func32, Try.ntmps32
    go_wp2_with (go_at_call 22; ((with_reducible refine (radd a b c d _).mono ?_); rintro e w' ⟨rfl, hb⟩; rw [Hg.out]; obtain ⟨hc, hf⟩ := bcell hb; have hz0 := bsz hb (w.heap.size) (by first | assumption | (simp; done) | (simp; omega)); have hz1 := bsz hb (w.heap.size + 1) (by first | assumption | (simp; done) | (simp; omega)); have hz2 := bsz hb (w.heap.size + 1 + 1) (by first | assumption | (simp; done) | (simp; omega))))
    refine bodyPost_ret (v := VE g) (by simp [results, Try.results32, go_sem, *]) rfl ⟨rfl, ?_⟩
    (repeat (first | exact Below.refl _ _ | assumption | refine balloc ?_ _ | refine below_drewN ?_ _ | refine bstep (by assumption) ?_ | refine bstep (Past.prop _) ?_ | refine Below.setCell ?_ (by first | exact Nat.le_refl _ | (simp; done) | (simp; omega)) _))
  have d0 : (k == 0) = false := beq_eq_false_iff_ne.2 h0
  by_cases h1 : k = 1
  · subst h1
    rw [opV_1]
    generalize hg : subS a b c d = g
    have Hg := hidE hg; clear hg
    clear h0
    go_enter Try.func32, Try.ntmps32
    go_wp2_with (go_at_call 52; ((with_reducible refine (rsub a b c d _).mono ?_); rintro e w' ⟨rfl, hb⟩; rw [Hg.out]; obtain ⟨hc, hf⟩ := bcell hb; have hz0 := bsz hb (w.heap.size) (by first | assumption | (simp; done) | (simp; omega)); have hz1 := bsz hb (w.heap.size + 1) (by first | assumption | (simp; done) | (simp; omega)); have hz2 := bsz hb (w.heap.size + 1 + 1) (by first | assumption | (simp; done) | (simp; omega))))
    refine bodyPost_ret (v := VE g) (by simp [results, Try.results32, go_sem, *]) rfl ⟨rfl, ?_⟩
    (repeat (first | exact Below.refl _ _ | assumption | refine balloc ?_ _ | refine below_drewN ?_ _ | refine bstep (by assumption) ?_ | refine bstep (Past.prop _) ?_ | refine Below.setCell ?_ (by first | exact Nat.le_refl _ | (simp; done) | (simp; omega)) _))
  have d1 : (k == 1) = false := beq_eq_false_iff_ne.2 h1
  by_cases h2 : k = 2
  · subst h2
    rw [opV_2]
    clear h0 h1
    go_enter Try.func32, Try.ntmps32
    go_wp2_with (go_at_call 53; ((with_reducible refine (rmn a b c d _).mono ?_); rintro e w' ⟨rfl, hb⟩; obtain ⟨hc, hf⟩ := bcell hb; have hz0 := bsz hb (w.heap.size) (by first | assumption | (simp; done) | (simp; omega)); have hz1 := bsz hb (w.heap.size + 1) (by first | assumption | (simp; done) | (simp; omega)); have hz2 := bsz hb (w.heap.size + 1 + 1) (by first | assumption | (simp; done) | (simp; omega))))
    refine bodyPost_ret (v := VE (mn a c, mn b d, 0)) (by simp [results, Try.results32, go_sem, *]) rfl ⟨rfl, ?_⟩
    (repeat (first | exact Below.refl _ _ | assumption | refine balloc ?_ _ | refine below_drewN ?_ _ | refine bstep (by assumption) ?_ | refine bstep (Past.prop _) ?_ | refine Below.setCell ?_ (by first | exact Nat.le_refl _ | (simp; done) | (simp; omega)) _))
  have d2 : (k == 2) = false := beq_eq_false_iff_ne.2 h2
  rw [opV_3 h0 h1 h2]
  clear h0 h1 h2
  go_enter Try.func32, Try.ntmps32
  go_wp2_with (go_at_call 54; ((with_reducible refine (rmx a b c d _).mono ?_); rintro e w' ⟨rfl, hb⟩; obtain ⟨hc, hf⟩ := bcell hb; have hz0 := bsz hb (w.heap.size) (by first | assumption | (simp; done) | (simp; omega)); have hz1 := bsz hb (w.heap.size + 1) (by first | assumption | (simp; done) | (simp; omega)); have hz2 := bsz hb (w.heap.size + 1 + 1) (by first | assumption | (simp; done) | (simp; omega))))
  refine bodyPost_ret (v := VE (mx a c, mx b d, 0)) (by simp [results, Try.results32, go_sem, *]) rfl ⟨rfl, ?_⟩
  (repeat (first | exact Below.refl _ _ | assumption | refine balloc ?_ _ | refine below_drewN ?_ _ | refine bstep (by assumption) ?_ | refine bstep (Past.prop _) ?_ | refine Below.setCell ?_ (by first | exact Nat.le_refl _ | (simp; done) | (simp; omega)) _))
end Go.Proofs.Ytgbgnpdfjoeonaa

namespace Go.Proofs.Ytgbgnpdfjoeonaa
open Go.ChangeShapes Go.WideShapes Go.ChangeAt Go.RowKit
attribute [local irreducible] Go.Calls

set_option maxHeartbeats 1000000 in
theorem rat_c (l : List Sg) (a : Option Addr) (cap : Nat) (t : Int) (w : World) (hl : l.length ≤ 9223372036854775807) (hA : ArgS w a l) :
    Calls Try.prog 21 #[.slice a l.length cap, .int .i64 t] w fun e w' => e = .returned (V (vat l t).1 (vat l t).2) ∧ Below w.heap.size w w' := by
  have HA := hidE hA; clear hA
  go_enter Try.func21, Try.ntmps21
  go_wp2
  go_loopg [6] l.length (fun g vi wr => ∃ k : Nat, k ≤ l.length ∧ l.length - k ≤ g ∧ vi = .int .i64 k ∧ Below w.heap.size w wr ∧ Blk wr (w.heap.size + 1) #[.int .i64 (vat (l.take k) t).1, .int .i64 (vat (l.take k) t).2] 40 ∧ Blk wr w.heap.size #[.int .i64 0, .int .i64 0] 40)
  case atStart => exact ⟨0, Nat.zero_le _, by omega, rfl, by (repeat (first | exact Below.refl _ _ | assumption | refine balloc ?_ _ | refine below_drewN ?_ _ | refine bstep (by assumption) ?_ | refine bstep (Past.prop _) ?_ | refine Below.setCell ?_ (by first | exact Nat.le_refl _ | (simp; done) | (simp; omega)) _)), Blk.made_at _ _ _ _ (by simp), (Blk.made _ _ _).alloc _⟩
  case round =>
    obtain ⟨k, hk, hg, rfl, hb, h1, h0⟩ := hrel
    have c10 := h1.cell 0; have c11 := h1.cell 1; have f1 := h1.free; have c00 := h0.cell 0; have c01 := h0.cell 1; have f0 := h0.free; have z1 := h1.lt; have z0 := h0.lt
    simp at c10 c11 c00 c01
    by_cases hlt : k < l.length
    · have HST := hidE (vat_step (t := t) hlt)
      obtain ⟨b, off, rfl, hbb, hc⟩ := (HA.out.past hb) (by omega)
      have hbw : b < w.heap.size := by
        obtain ⟨b', off', e, hb', _⟩ := HA.out (by omega)
        simp at e; omega
      obtain ⟨d0, d1, d2⟩ := hc.get hlt
      clear hc
      by_cases hq : ats l k ≤ t
      · have HS := hidE (show vat (l.take (k + 1)) t = vls l k by rw [HST.out, if_pos hq])
        have d3 : decide (ats l k ≤ t) = true := decide_eq_true hq
        have hn1 : b ≠ w.heap.size := by omega
        have hn2 : b ≠ w.heap.size + 1 := by omega
        clear HST c00 c01
        generalize ats l k = u at *
        generalize vls l k = v at *
        generalize vat (l.take k) t = q at *
        go_wp2
        go_roundg (l.length - (k + 1))
        case measure => omega
        case rel => exact ⟨k + 1, by omega, Nat.le_refl _, by go_num, by (repeat (first | exact Below.refl _ _ | assumption | refine balloc ?_ _ | refine below_drewN ?_ _ | refine bstep (by assumption) ?_ | refine bstep (Past.prop _) ?_ | refine Below.setCell ?_ (by first | exact Nat.le_refl _ | (simp; done) | (simp; omega)) _)), by rw [HS.out]; exact (h1.set 0 _).set 1 _, (h0.other (by omega) _).other (by omega) _⟩
      · have HS := hidE (show vat (l.take (k + 1)) t = vat (l.take k) t by rw [HST.out, if_neg hq])
        have d3 : decide (ats l k ≤ t) = false := decide_eq_false hq
        clear HST
        generalize ats l k = u at *
        go_wp2
        go_roundg (l.length - (k + 1))
        case measure => omega
        case rel => exact ⟨k + 1, by omega, Nat.le_refl _, by go_num, hb, by rw [HS.out]; exact h1, h0⟩
    · have hk' : k = l.length := by omega
      subst hk'
      have e : vat (l.take l.length) t = vat l t := by rw [List.take_length]
      rw [e] at c10 c11
      clear e
      generalize hq : vat l t = q at *
      have HQ := hidE hq; clear hq
      go_wp2
      have B0 := (h0.set 0 (.int .i64 q.1)).set 1 (.int .i64 q.2)
      have g0 := B0.cell 0; have g1 := B0.cell 1
      simp at g0 g1
      refine bodyPost_ret (v := V q.1 q.2) (by simp [results, Try.results21, go_sem, g0, g1]) rfl ⟨by rw [HQ.out], ?_⟩
      (repeat (first | exact Below.refl _ _ | assumption | refine balloc ?_ _ | refine below_drewN ?_ _ | refine bstep (by assumption) ?_ | refine bstep (Past.prop _) ?_ | refine Below.setCell ?_ (by first | exact Nat.le_refl _ | (simp; done) | (simp; omega)) _))
end Go.Proofs.Ytgbgnpdfjoeonaa

namespace Go.Proofs.Ytgbgnpdfjoeonaa
open Go.ChangeShapes Go.WideShapes Go.ChangeAt Go.RowKit
attribute [local irreducible] Go.Calls

set_option maxRecDepth 100000 in
set_option maxHeartbeats 4000000 in
theorem rmayf_c (l : List Sg) (a : Option Addr) (cap : Nat) (w : World) (hl : l.length ≤ 1099511627776) (hA : ArgS w a l) :
    Calls Try.prog 23 #[.slice a l.length cap] w fun e w' => e = .returned (.bool (mayB l)) ∧ Below w.heap.size w w' := by
  have HA := hidE hA; clear hA
  obtain ⟨p, hp⟩ : ∃ p, p = w.heap.size := ⟨_, rfl⟩
  have HPP := hidE hp
  go_enter Try.func23, Try.ntmps23
  go_wp2
  go_loopg [4] l.length (fun g vi wr => ∃ k : Nat, k ≤ l.length ∧ l.length - k ≤ g ∧ vi = .int .i64 k ∧ (∀ i, i < k → okAt (0, 0) l i = true) ∧ Below w.heap.size w wr ∧ Blk wr w.heap.size #[.int .i64 (prevV l k).1, .int .i64 (prevV l k).2] 40)
  case atStart => exact ⟨0, Nat.zero_le _, by omega, rfl, fun i hi => by omega, by (repeat (first | exact Below.refl _ _ | assumption | refine balloc ?_ _ | refine below_drewN ?_ _ | refine bstep (by assumption) ?_ | refine bstep (Past.prop _) ?_ | refine Below.setCell ?_ (by first | exact Nat.le_refl _ | (simp; done) | (simp; omega)) _)), Blk.made_at _ _ _ _ (by simp)⟩
  case round =>
    obtain ⟨k, hk, hg, rfl, hs, hb, hB⟩ := hrel
    have HS := hidE hs; have HB := hidE hb; have HBP := hidE hB
    have q0 := hB.cell 0; have q1 := hB.cell 1; have qf := hB.free; have qz := hB.lt
    simp at q0 q1
    clear hs hb hB
    by_cases hlt : k < l.length
    · obtain ⟨b, off, rfl, hbb, hc⟩ := (HA.out.past HB.out) (by omega)
      have hbw : b < w.heap.size := by
        obtain ⟨b', off', e, hb', _⟩ := HA.out (by omega)
        simp at e; omega
      have hn1 : b ≠ w.heap.size := by omega
      obtain ⟨c0, c1, c2⟩ := hc.get hlt
      have HV := hidE (fun w => rin_c (l.getD k (0, 0, 0)) w)
      change Hid (∀ w, Calls _ _ #[S (ats l k) (vls l k).1 (vls l k).2] _ _) at HV
      have HPS := hidE (prevV_succ l k)
      obtain ⟨wo, rfl⟩ : ∃ wo : World, wo = wr := ⟨_, rfl⟩
      cases hok : okS (l.getD k (0, 0, 0))
      · have HX := hidE (mayB_bad hlt (show okAt (0, 0) l k = false by unfold okAt; rw [hok]; rfl))
        rw [hok] at HV
        clear hc HPP hp
        generalize ats l k = u at *
        generalize vls l k = v at *
        generalize prevV l k = q at *
        go_wp2_with fail
        refine wp_region_past_lit (by kernel_rfl) (by kernel_rfl) ?_
        have hcp := Past.cell (W := wo)
        repeat (go_big_quiet_step ((go_at_call 45; exact Past.call _ (HV.out _))))
        refine wpQuiet_nil ?_
        rintro _ ⟨x', rfl⟩
        have o1 : Below w.heap.size w x'.1 := bstep x'.2 HB.out
        clear hcp
        generalize x'.1 = w5 at *
        go_wp2
        go_ret
        exact ⟨ret_bool (by rw [HX.out]), o1⟩
      · rw [hok] at HV
        have HOK := hidE hok
        have HPV := hidE (show okAt (0, 0) l k = (!(vls l k == prevV l k) && (decide (k = 0) || decide (ats l (k - 1) < ats l k))) by unfold okAt; rw [HOK.out, Bool.true_and]; rfl)
        by_cases hv : vls l k = prevV l k
        · have HX := hidE (mayB_bad hlt (show okAt (0, 0) l k = false by rw [HPV.out, hv]; simp))
          rw [← hv] at q0 q1
          clear hc HPP hp hv HPV HBP HOK hok
          generalize ats l k = u at *
          generalize vls l k = v at *
          go_wp2_with fail
          refine wp_region_past_lit (by kernel_rfl) (by kernel_rfl) ?_
          have hcp := Past.cell (W := wo)
          repeat (go_big_quiet_step ((go_at_call 45; exact Past.call _ (HV.out _))))
          refine wpQuiet_nil ?_
          rintro _ ⟨x', rfl⟩
          have o1 : Below w.heap.size w x'.1 := bstep x'.2 HB.out
          clear hcp
          generalize x'.1 = w5 at *
          go_wp2
          go_ret
          exact ⟨ret_bool (by rw [HX.out]), o1⟩
        · have hne : ((vls l k).1 == (prevV l k).1) = true → ((vls l k).2 == (prevV l k).2) = false := fun h => by
            rw [Bool.eq_false_iff]; intro h2
            exact hv (Prod.ext (beq_iff_eq.1 h) (beq_iff_eq.1 h2))
          have HNE := hidE hne
          have HR := hidE (show okAt (0, 0) l k = (decide (k = 0) || decide (ats l (k - 1) < ats l k)) by rw [HPV.out, beq_eq_false_iff_ne.2 hv]; rfl)
          clear hne hv HPV HOK hok
          by_cases hk0 : k = 0
          · have HX := hidE (show ∀ i, i < k + 1 → okAt (0, 0) l i = true from fun i hi => by
              by_cases e : i = k
              · rw [e, HR.out, decide_eq_true hk0]; rfl
              · exact HS.out i (by omega))
            have hd : decide (0 < k) = false := decide_eq_false (by omega)
            clear hc HPP hp HR hk0
            generalize ats l k = u at *
            generalize vls l k = v at *
            generalize prevV l k = q at *
            cases hm : (v.1 == q.1)
            rotate_left
            · have hm2 := HNE.out hm
              go_wp2_with fail
              refine wp_region_past_lit (by kernel_rfl) (by kernel_rfl) ?_
              have hcp := Past.cell (W := wo)
              repeat (go_big_quiet_step ((go_at_call 45; exact Past.call _ (HV.out _))))
              refine wpQuiet_nil ?_
              rintro _ ⟨x', rfl⟩
              have o1 : Below w.heap.size w x'.1 := bstep x'.2 HB.out
              have oB := HBP.out.past x'.2
              have r0 := (hcp x' b (off + k * 3 + 1) hbb).trans c1
              have r1 := (hcp x' b (off + k * 3 + 2) hbb).trans c2
              have of' := oB.free
              have y0 := oB.cell 0
              have y1 := oB.cell 1
              simp at y0 y1
              have oz := oB.lt
              have obz : b < x'.1.heap.size := Nat.lt_of_lt_of_le hbb x'.2.size
              clear hcp c0 c1 c2 q0 q1 qf qz hbb
              generalize x'.1 = w5 at *
              go_wp2
              go_roundg (l.length - (k + 1))
              case measure => omega
              case rel => exact ⟨k + 1, by omega, Nat.le_refl _, by go_num, HX.out, by (repeat (first | exact Below.refl _ _ | assumption | refine balloc ?_ _ | refine below_drewN ?_ _ | refine bstep (by assumption) ?_ | refine bstep (Past.prop _) ?_ | refine Below.setCell ?_ (by first | exact Nat.le_refl _ | (simp; done) | (simp; omega)) _)), by rw [HPS.out]; exact (oB.set 0 _).set 1 _⟩
            · clear HNE
              go_wp2_with fail
              refine wp_region_past_lit (by kernel_rfl) (by kernel_rfl) ?_
              have hcp := Past.cell (W := wo)
              repeat (go_big_quiet_step ((go_at_call 45; exact Past.call _ (HV.out _))))
              refine wpQuiet_nil ?_
              rintro _ ⟨x', rfl⟩
              have o1 : Below w.heap.size w x'.1 := bstep x'.2 HB.out
              have oB := HBP.out.past x'.2
              have r0 := (hcp x' b (off + k * 3 + 1) hbb).trans c1
              have r1 := (hcp x' b (off + k * 3 + 2) hbb).trans c2
              have of' := oB.free
              have y0 := oB.cell 0
              have y1 := oB.cell 1
              simp at y0 y1
              have oz := oB.lt
              have obz : b < x'.1.heap.size := Nat.lt_of_lt_of_le hbb x'.2.size
              clear hcp c0 c1 c2 q0 q1 qf qz hbb
              generalize x'.1 = w5 at *
              go_wp2
              go_roundg (l.length - (k + 1))
              case measure => omega
              case rel => exact ⟨k + 1, by omega, Nat.le_refl _, by go_num, HX.out, by (repeat (first | exact Below.refl _ _ | assumption | refine balloc ?_ _ | refine below_drewN ?_ _ | refine bstep (by assumption) ?_ | refine bstep (Past.prop _) ?_ | refine Below.setCell ?_ (by first | exact Nat.le_refl _ | (simp; done) | (simp; omega)) _)), by rw [HPS.out]; exact (oB.set 0 _).set 1 _⟩
          · obtain ⟨j, hj⟩ : ∃ j, k = j + 1 := ⟨k - 1, by omega⟩
            have hd : decide (0 < k) = true := decide_eq_true (by omega)
            have hkj : (k : Int) - 1 = (j : Int) := by omega
            have HKJ := hidE hkj
            have hjl : j < l.length := by omega
            obtain ⟨e0, _, _⟩ := hc.get hjl
            by_cases hlt2 : ats l j < ats l k
            · have HX := hidE (show ∀ i, i < k + 1 → okAt (0, 0) l i = true from fun i hi => by
                by_cases e : i = k
                · rw [e, HR.out, hj, Nat.add_sub_cancel, ← hj, decide_eq_true hlt2, Bool.or_true]
                · exact HS.out i (by omega))
              have hd2 : decide (ats l k ≤ ats l j) = false := decide_eq_false (by omega)
              have HHJ := hidE hj
              clear hc HPP hp HR hlt2 hj hkj
              generalize ats l j = u' at *
              generalize ats l k = u at *
              generalize vls l k = v at *
              generalize prevV l k = q at *
              cases hm : (v.1 == q.1)
              rotate_left
              · have hm2 := HNE.out hm
                go_wp2_with fail
                refine wp_region_past_lit (by kernel_rfl) (by kernel_rfl) ?_
                have hcp := Past.cell (W := wo)
                have hkj := HKJ.out
                repeat (go_big_quiet_step ((go_at_call 45; exact Past.call _ (HV.out _))))
                refine wpQuiet_nil ?_
                rintro _ ⟨x', rfl⟩
                have o1 : Below w.heap.size w x'.1 := bstep x'.2 HB.out
                have oB := HBP.out.past x'.2
                have r0 := (hcp x' b (off + k * 3 + 1) hbb).trans c1
                have r1 := (hcp x' b (off + k * 3 + 2) hbb).trans c2
                have of' := oB.free
                have y0 := oB.cell 0
                have y1 := oB.cell 1
                simp at y0 y1
                have oz := oB.lt
                have obz : b < x'.1.heap.size := Nat.lt_of_lt_of_le hbb x'.2.size
                clear hcp c0 c1 c2 q0 q1 qf qz hbb
                generalize x'.1 = w5 at *
                go_wp2
                go_roundg (l.length - (k + 1))
                case measure => omega
                case rel => exact ⟨k + 1, by omega, Nat.le_refl _, by go_num, HX.out, by (repeat (first | exact Below.refl _ _ | assumption | refine balloc ?_ _ | refine below_drewN ?_ _ | refine bstep (by assumption) ?_ | refine bstep (Past.prop _) ?_ | refine Below.setCell ?_ (by first | exact Nat.le_refl _ | (simp; done) | (simp; omega)) _)), by rw [HPS.out]; exact (oB.set 0 _).set 1 _⟩
              · clear HNE
                go_wp2_with fail
                refine wp_region_past_lit (by kernel_rfl) (by kernel_rfl) ?_
                have hcp := Past.cell (W := wo)
                have hkj := HKJ.out
                repeat (go_big_quiet_step ((go_at_call 45; exact Past.call _ (HV.out _))))
                refine wpQuiet_nil ?_
                rintro _ ⟨x', rfl⟩
                have o1 : Below w.heap.size w x'.1 := bstep x'.2 HB.out
                have oB := HBP.out.past x'.2
                have r0 := (hcp x' b (off + k * 3 + 1) hbb).trans c1
                have r1 := (hcp x' b (off + k * 3 + 2) hbb).trans c2
                have of' := oB.free
                have y0 := oB.cell 0
                have y1 := oB.cell 1
                simp at y0 y1
                have oz := oB.lt
                have obz : b < x'.1.heap.size := Nat.lt_of_lt_of_le hbb x'.2.size
                clear hcp c0 c1 c2 q0 q1 qf qz hbb
                generalize x'.1 = w5 at *
                go_wp2
                go_roundg (l.length - (k + 1))
                case measure => omega
                case rel => exact ⟨k + 1, by omega, Nat.le_refl _, by go_num, HX.out, by (repeat (first | exact Below.refl _ _ | assumption | refine balloc ?_ _ | refine below_drewN ?_ _ | refine bstep (by assumption) ?_ | refine bstep (Past.prop _) ?_ | refine Below.setCell ?_ (by first | exact Nat.le_refl _ | (simp; done) | (simp; omega)) _)), by rw [HPS.out]; exact (oB.set 0 _).set 1 _⟩
            · have HX := hidE (mayB_bad hlt (show okAt (0, 0) l k = false by
                rw [HR.out, decide_eq_false hk0, Bool.false_or, hj, Nat.add_sub_cancel, ← hj]; exact decide_eq_false hlt2))
              have hd2 : decide (ats l k ≤ ats l j) = true := decide_eq_true (by omega)
              have HHJ := hidE hj
              clear hc HPP hp HR hlt2 hj hkj
              generalize ats l j = u' at *
              generalize ats l k = u at *
              generalize vls l k = v at *
              generalize prevV l k = q at *
              cases hm : (v.1 == q.1)
              rotate_left
              · have hm2 := HNE.out hm
                go_wp2_with fail
                refine wp_region_past_lit (by kernel_rfl) (by kernel_rfl) ?_
                have hcp := Past.cell (W := wo)
                have hkj := HKJ.out
                repeat (go_big_quiet_step ((go_at_call 45; exact Past.call _ (HV.out _))))
                refine wpQuiet_nil ?_
                rintro _ ⟨x', rfl⟩
                have o1 : Below w.heap.size w x'.1 := bstep x'.2 HB.out
                clear hcp
                generalize x'.1 = w5 at *
                go_wp2
                go_ret
                exact ⟨ret_bool (by rw [HX.out]), o1⟩
              · clear HNE
                go_wp2_with fail
                refine wp_region_past_lit (by kernel_rfl) (by kernel_rfl) ?_
                have hcp := Past.cell (W := wo)
                have hkj := HKJ.out
                repeat (go_big_quiet_step ((go_at_call 45; exact Past.call _ (HV.out _))))
                refine wpQuiet_nil ?_
                rintro _ ⟨x', rfl⟩
                have o1 : Below w.heap.size w x'.1 := bstep x'.2 HB.out
                clear hcp
                generalize x'.1 = w5 at *
                go_wp2
                go_ret
                exact ⟨ret_bool (by rw [HX.out]), o1⟩
    · have hk' : k = l.length := by omega
      subst hk'
      have HX := hidE (mayB_good HS.out)
      go_wp2
      go_ret
      exact ⟨ret_bool (by rw [HX.out]), by have := HB.out; (repeat (first | exact Below.refl _ _ | assumption | refine balloc ?_ _ | refine below_drewN ?_ _ | refine bstep (by assumption) ?_ | refine bstep (Past.prop _) ?_ | refine Below.setCell ?_ (by first | exact Nat.le_refl _ | (simp; done) | (simp; omega)) _))⟩
end Go.Proofs.Ytgbgnpdfjoeonaa

namespace Go.Proofs.Ytgbgnpdfjoeonaa
open Go.ChangeShapes Go.WideShapes Go.ChangeAt Go.RowKit
attribute [local irreducible] Go.Calls

/-- A row of numbers made by calls: a slice to append from. -/
theorem src_own {w : World} {B : Nat} {e : TypeId} {v : Value} {l : List Int} (h : w.ownsRow B e 1 v l.length (cellsI l)) : SrcI w v l := by
  obtain ⟨h1, h2 | ⟨g, cap, cur, rfl, h3, h4, h5, h6, h7, h8⟩⟩ := h
  · obtain ⟨rfl, h2⟩ := h2
    have : l = [] := List.eq_nil_of_length_eq_zero h2
    subst this
    exact src_nil w
  · refine ⟨some ⟨g, 0, none⟩, cap, rfl, (fun h => by cases h), fun ad had j u hj => ?_⟩
    cases had
    have hjl : j < l.length := by
      have := (List.getElem?_eq_some_iff.1 hj).1
      simpa [cellsI] using this
    have e2 : w.cell? ⟨g, j, none⟩ = cur[j]? := by simp [World.cell?, h4]
    have e3 : ((⟨g, 0, none⟩ : Addr).add j) = ⟨g, j, none⟩ := by
      unfold Addr.add
      by_cases c : j = 0
      · subst c; simp
      · simp [c]
    rw [e3, e2, ← Array.getElem?_toList]
    rw [← h8, List.getElem?_take, if_pos (by omega)] at hj
    exact hj
theorem wpList_append_src {P : Program} {ops : Array Oper} {rest : List Oper} {o : Oper} {a : Act} {w : World} {Q : Exit → Act → World → Prop} (hgd : o.guard = none) (s x : Operand) (t : TypeId)
    (hop : o.op = .call { callee := .builtin .append, args := #[s, x], argTypes := #[t, t] })
    (base : Nat) (e : TypeId) (i : TypeInfo) (ht : P.underlying t = some (.slice e)) (hi : P.info? e = some i) (hz : i.zero = some (.int .i64 0)) (hsize : i.size = 1) (hby : i.bytes = 8)
    (v : Value) (n : Nat) (xs : List Value) (hs : a.eval s = v) (hown : w.ownsRow base e 1 v n xs)
    (vx : Value) (news : List Int) (hx : a.eval x = vx) (hsrc : SrcI w vx news)
    (h63 : n + news.length ≤ 1099511627776) (hbase : base ≤ w.heap.size)
    (h : ∀ v' w', w'.ownsRow base e 1 v' (n + news.length) (xs ++ cellsI news) → w.grownBy w' v.ownBlock → wpList P ops Q rest (a.put o.dst v') w') : wpList P ops Q (o :: rest) a w := by
  obtain ⟨ad, cap, rfl, hn, hc⟩ := hsrc
  cases ad with
  | none =>
    obtain ⟨rfl, rfl⟩ := hn rfl
    exact wpList_append_own_none hgd s x t hop base e i 1 ht hi v n xs hs hown hx (h v w (by simpa [cellsI] using hown) ⟨rfl, rfl, rfl, Nat.le_refl _, fun _ _ _ => rfl⟩)
  | some ad =>
    exact wpList_append_own w hgd s x t hop base e i (.int .i64 0) 1 8 ht hi hz hsize hby rfl (by decide) v n xs hs hown ad news.length cap (cellsI news) hx (by simp [cellsI]) (hc ad rfl) (cellsI_one news) (by unfold maxLen; omega) (by omega) hbase fun v' w' h1 h2 _ => h v' w' h1 h2

set_option maxHeartbeats 1000000 in
theorem rtwo_own (f g : List Sg) (a a' : Option Addr) (cap cap' : Nat) (w : World) (hl : f.length + g.length ≤ 1000000000) (hA : ArgS w a f) (hA' : ArgS w a' g) :
    Calls Try.prog 31 #[.slice a f.length cap, .slice a' g.length cap'] w (RetV w fun v w' => w'.ownsRow w.heap.size 2 1 v (twoT f g).length (cellsI (twoT f g))) := by
  have HA := hidE hA; have HA' := hidE hA'; clear hA hA'
  obtain ⟨i0, hi, hz0, hz1, hz2⟩ := info_parts Try.infoI64
  have HI := hidE hi; have HZ0 := hidE hz0; have HZ1 := hidE hz1; have HZ2 := hidE hz2
  clear hi hz0 hz1 hz2
  go_enter Try.func31, Try.ntmps31
  go_wp2_with fail
  ((with_reducible refine (rwhen_c f a cap _ (by omega) HA.out).mono ?_); rintro e w1 ⟨v1, rfl, ho1, hb1⟩)
  have HB1 := hidE hb1; have HO1 := hidE ho1
  clear hb1 ho1
  go_wp2_with fail
  ((with_reducible refine (rwhen_c g a' cap' _ (by omega) (HA'.out.past HB1.out)).mono ?_); rintro e w2 ⟨v2, rfl, ho2, hb2⟩)
  have HB2 := hidE (bstep hb2 HB1.out)
  have HO1' := hidE (own_below HO1.out hb2)
  have ho2' : w2.ownsRow w1.heap.size 2 1 v2 (g.map (·.1)).length (cellsI (g.map (·.1))) := by rw [List.length_map]; exact ho2
  have HS2 := hidE (src_own ho2')
  clear ho2 ho2' hb2 HO1
  go_wp2_with (at_builtin; refine wpList_append_src rfl (.tmp 6) (.tmp 8) 51 rfl w.heap.size 2 i0 Try.underlying51 HI.out HZ0.out HZ1.out HZ2.out _ _ _ rfl HO1'.out _ _ rfl HS2.out (by simp; omega) HB2.out.size ?_; intro v3 w3 ho3 hg3)
  have hb3 : Below w.heap.size w w3 := Below.grown HB2.out hg3 HB2.out.size (fun k hk => own_block HO1'.out hk)
  have ho3' : w3.ownsRow w.heap.size 2 1 v3 (f.map (·.1) ++ g.map (·.1)).length (cellsI (f.map (·.1) ++ g.map (·.1))) := by
    rw [cellsI_app, List.length_append, List.length_map]; exact ho3
  obtain ⟨a3, c3, rfl, _, _, hA3⟩ := sliI_own ho3'
  have hrt := rtimes_c (f.map (·.1) ++ g.map (·.1)) a3 c3 w3 (by simp; omega) hA3
  rw [show (f.map (·.1) ++ g.map (·.1)).length = f.length + g.length by simp] at hrt
  have HRT := hidE hrt
  clear hrt
  have HB3 := hidE hb3
  clear ho3 ho3' hg3 hb3 hA3
  go_wp2_with fail
  ((with_reducible refine (HRT.out).mono ?_); rintro e w4 ⟨v4, rfl, ho4, hb4⟩)
  have HB4 := hidE (bstep hb4 HB3.out)
  have HO4 := hidE (own_low ho4 HB3.out.size)
  clear hb4 ho4
  go_wp2
  go_ret
  exact ⟨_, rfl, HO4.out, HB4.out⟩
theorem rtwo_c (f g : List Sg) (a a' : Option Addr) (cap cap' : Nat) (w : World) (hl : f.length + g.length ≤ 1000000000) (hA : ArgS w a f) (hA' : ArgS w a' g) :
    Calls Try.prog 31 #[.slice a f.length cap, .slice a' g.length cap'] w (RetV w fun v w' => SliI w' v (twoT f g)) :=
  (rtwo_own f g a a' cap cap' w hl hA hA').mono fun _ _ ⟨v, h1, h2, h3⟩ => ⟨v, h1, sliI_own h2, h3⟩
end Go.Proofs.Ytgbgnpdfjoeonaa

namespace Go.Proofs.Ytgbgnpdfjoeonaa
open Go.ChangeShapes Go.WideShapes Go.ChangeAt Go.RowKit
attribute [local irreducible] Go.Calls

theorem rdo_form {k : Int} {F G : List Sg} {a a' : Option Addr} {cap cap' : Nat} {w : World} (hl : F.length + G.length ≤ 1000000000) (hA : ArgS w a F) (hA' : ArgS w a' G) (h : (mayB F && mayB G) = false) :
    Calls Try.prog 13 #[.int .i64 k, .slice a F.length cap, .slice a' G.length cap'] w (OfIs w (doS k F G).1 (doS k F G).2) := by
  rw [doS_form h]
  have HA := hidE hA; have HA' := hidE hA'; clear hA hA'
  have HV := hidE (fun w hA => rmayf_c F a cap w (by omega) hA)
  have HV' := hidE (fun w hA => rmayf_c G a' cap' w (by omega) hA)
  cases h1 : mayB F
  · rw [h1] at HV
    clear h HV'
    go_enter Try.func13, Try.ntmps13
    go_wp2_with fail
    ((with_reducible refine (HV.out _ HA.out).mono ?_); rintro e w1 ⟨rfl, hb1⟩)
    go_wp2
    go_ret2
    exact ⟨_, rfl, sliS_nil _, hb1⟩
  · have h2 : mayB G = false := by rw [h1] at h; simpa using h
    rw [h1] at HV; rw [h2] at HV'
    clear h
    go_enter Try.func13, Try.ntmps13
    go_wp2_with fail
    ((with_reducible refine (HV.out _ HA.out).mono ?_); rintro e w1 ⟨rfl, hb1⟩)
    have HB1 := hidE hb1; clear hb1
    go_wp2_with fail
    ((with_reducible refine (HV'.out _ (HA'.out.past HB1.out)).mono ?_); rintro e w2 ⟨rfl, hb2⟩)
    go_wp2
    go_ret2
    exact ⟨_, rfl, sliS_nil _, bstep hb2 HB1.out⟩

set_option maxRecDepth 100000 in
set_option maxHeartbeats 4000000 in
theorem rdo_c (k : Int) (F G : List Sg) (a a' : Option Addr) (cap cap' : Nat) (w : World) (hl : F.length + G.length ≤ 1000000000) (hA : ArgS w a F) (hA' : ArgS w a' G) :
    Calls Try.prog 13 #[.int .i64 k, .slice a F.length cap, .slice a' G.length cap'] w (OfIs w (doS k F G).1 (doS k F G).2) := by
  cases h : (mayB F && mayB G)
  · exact rdo_form hl hA hA' h
  obtain ⟨h1, h2⟩ : mayB F = true ∧ mayB G = true := by simpa using h
  have HGOOD := hidE (fun hi => doS_ok (k := k) h1 h2 hi)
  have HBAD := hidE (fun i hi hb => doS_bad (k := k) (i := i) h1 h2 hi hb)
  have HTL := hidE (twoT_len F G)
  have HA := hidE hA; have HA' := hidE hA'; clear hA hA' h
  have HV := hidE (fun w hA => rmayf_c F a cap w (by omega) hA)
  have HV' := hidE (fun w hA => rmayf_c G a' cap' w (by omega) hA)
  rw [h1] at HV; rw [h2] at HV'
  clear h1 h2
  change Hid ((∀ i, i < (twoT F G).length → (opT k F G ((twoT F G).getD i 0)).2.2 = 0) → doS k F G = (buildL (opW k F G) (twoT F G), 0)) at HGOOD
  generalize doS k F G = D at *
  go_enter Try.func13, Try.ntmps13
  go_wp2_with fail
  ((with_reducible refine (HV.out _ HA.out).mono ?_); rintro e w1 ⟨rfl, hb1⟩)
  have HB1 := hidE hb1; clear hb1
  go_wp2_with fail
  ((with_reducible refine (HV'.out _ (HA'.out.past HB1.out)).mono ?_); rintro e w2 ⟨rfl, hb2⟩)
  have HB2 := hidE (bstep hb2 HB1.out); clear hb2 HV HV' HB1
  go_wp2_with fail
  ((with_reducible refine (rtwo_c F G a a' cap cap' _ hl (HA.out.past HB2.out) (HA'.out.past HB2.out)).mono ?_); rintro e w3 ⟨v3, rfl, hs3, hb3⟩)
  obtain ⟨a3, c3, rfl, _, _, hA3⟩ := hs3
  have HB3 := hidE (bstep hb3 HB2.out); have HA3 := hidE hA3
  clear hb3 hA3 HB2
  generalize twoT F G = ts at *
  go_wp2_with fail
  go_loopg [9, 10, 11, 12] ts.length (fun gh vf vi _ _ wr => ∃ (n : Nat) (v : Value), v = vf ∧ vi = .int .i64 n ∧ n ≤ ts.length ∧ ts.length - n ≤ gh ∧ (∀ i, i < n → (opT k F G (ts.getD i 0)).2.2 = 0) ∧ Below w3.heap.size w3 wr ∧ wr.ownsRow w3.heap.size 42 3 v (buildL (opW k F G) (ts.take n)).length (cellsOfS (buildL (opW k F G) (ts.take n))))
  case atStart => exact ⟨0, .slice none 0 0, rfl, rfl, by omega, by omega, fun i hi => by omega, Below.refl _ _, ⟨rfl, .inl ⟨rfl, rfl⟩⟩⟩
  case round =>
    obtain ⟨n, v, rfl, rfl, hn, hg, hs, hbr, ho⟩ := hrel
    have HS := hidE hs; have HBR := hidE hbr; have HO := hidE ho
    clear hs ho
    by_cases hlt : n < ts.length
    · obtain ⟨b, off, rfl, hb, hc⟩ := (HA3.out.past hbr) (by omega)
      have d0 := hc n hlt
      have HST := hidE (buildL_step (g := opW k F G) hlt)
      have hfl := buildL_len (opW k F G) ts n hn
      have HAF := hidE (show ArgS wr a F from (HA.out.past HB3.out).past hbr)
      have HAG := hidE (show ArgS wr a' G from (HA'.out.past HB3.out).past hbr)
      have HATF := hidE (fun w hA => rat_c F a cap (ts.getD n 0) w (by omega) hA)
      have HATG := hidE (fun w hA => rat_c G a' cap' (ts.getD n 0) w (by omega) hA)
      have HONE := hidE (fun w => rone k (vat F (ts.getD n 0)).1 (vat F (ts.getD n 0)).2 (vat G (ts.getD n 0)).1 (vat G (ts.getD n 0)).2 w)
      have HNB := hidE (HBAD.out n hlt)
      have HNS := hidE (fun (he : (opT k F G (ts.getD n 0)).2.2 = 0) => show ∀ i, i < n + 1 → (opT k F G (ts.getD i 0)).2.2 = 0 from fun i hi => by
        by_cases e : i = n
        · rw [e]; exact he
        · exact HS.out i (by omega))
      change Hid (∀ w, Calls _ _ _ w fun e w' => e = .returned (VE (opT k F G (ts.getD n 0))) ∧ _) at HONE
      change Hid (buildL (opW k F G) (ts.take (n + 1)) = withL (buildL (opW k F G) (ts.take n)) (ts.getD n 0) ((opT k F G (ts.getD n 0)).1, (opT k F G (ts.getD n 0)).2.1)) at HST
      clear hc hbr
      generalize buildL (opW k F G) (ts.take n) = f at *
      generalize vat F (ts.getD n 0) = x at *
      generalize vat G (ts.getD n 0) = y at *
      generalize opT k F G (ts.getD n 0) = q at *
      generalize ts.getD n 0 = t at *
      have HWI := hidE (fun (w : World) (hB : w3.heap.size ≤ w.heap.size) (ho : w.ownsRow w3.heap.size 42 3 v f.length (cellsOfS f)) => rwith_c f v w3.heap.size t q.1 q.2.1 w hB (by have := HTL.out; omega) ho)
      have hwr : w3.heap.size ≤ wr.heap.size := HBR.out.size
      obtain ⟨wo, rfl⟩ : ∃ wo : World, wo = wr := ⟨_, rfl⟩
      go_upto_region 8 with fail
      go_cut [11, 12] (fun s11 s12 wx => ∃ p : Nat, s11 = .pointer (some ⟨p, 0, none⟩) ∧ s12 = .int .i64 q.2.2 ∧ Blk wx p #[.int .i64 q.1, .int .i64 q.2.1] 40 ∧ Below wo.heap.size wo wx)
      case first =>
        refine wp_region_J 18 [16] (nthR [detR (.int .i64 k), detR (.slice a F.length cap), detR (.slice (some ⟨b, off, none⟩) ts.length c3), detR (.int .i64 n), detR (.pointer (some ⟨b, off + n, none⟩)), detR (.int .i64 t), detR (V x.1 x.2), detR (.slice a' G.length cap'), detR (.slice (some ⟨b, off, none⟩) ts.length c3), detR (.int .i64 n), detR (.pointer (some ⟨b, off + n, none⟩)), detR (.int .i64 t), detR (V y.1 y.2), detR (VE q), detR (VE q), detR (V q.1 q.2.1), detR (.int .i64 q.2.2), newR wo.heap.size #[.int .i64 0, .int .i64 0] 40]) (fun _ => false) (by kernel_rfl) (by simp) (by kernel_rfl) (stab_nth (by simp [stab_det, stab_new])) ?_ ?_ ?_
        · intro i o hi ho
          match i, hi with
          | 0, _ =>
            obtain rfl := Option.some.inj ho
            intro u x' hd
            have hc := Past.cell x'
            simp [go_sem, gives, frm, Act.put, nthR, detR, Region.wanted, Below.refl]
          | 1, _ =>
            obtain rfl := Option.some.inj ho
            intro u x' hd
            have hc := Past.cell x'
            simp [go_sem, gives, frm, Act.put, nthR, detR, Region.wanted, Below.refl]
          | 2, _ =>
            obtain rfl := Option.some.inj ho
            intro u x' hd
            have hc := Past.cell x'
            simp [go_sem, gives, frm, Act.put, nthR, detR, Region.wanted, Below.refl]
          | 3, _ =>
            obtain rfl := Option.some.inj ho
            intro u x' hd
            have hc := Past.cell x'
            simp [go_sem, gives, frm, Act.put, nthR, detR, Region.wanted, Below.refl]
          | 4, _ =>
            obtain rfl := Option.some.inj ho
            intro u x' hd
            have hc := Past.cell x'
            have d2 := hd 2 (by decide) (by kernel_rfl)
            have d3 := hd 3 (by decide) (by kernel_rfl)
            simp only [nthR, detR, List.getD_cons_zero, List.getD_cons_succ] at d2 d3
            simp [go_sem, gives, frm, Act.put, nthR, detR, Region.wanted, Below.refl, d2, d3, hlt]
          | 5, _ =>
            obtain rfl := Option.some.inj ho
            intro u x' hd
            have hc := Past.cell x'
            have d4 := hd 4 (by decide) (by kernel_rfl)
            simp only [nthR, detR, List.getD_cons_zero, List.getD_cons_succ] at d4
            simp [go_sem, gives, frm, Act.put, nthR, detR, Region.wanted, Below.refl, hc, d4, d0, hb]
          | 6, _ =>
            obtain rfl := Option.some.inj ho
            intro u x' hd
            have hc := Past.cell x'
            have d1 := hd 1 (by decide) (by kernel_rfl)
            have d5 := hd 5 (by decide) (by kernel_rfl)
            simp only [nthR, detR, List.getD_cons_zero, List.getD_cons_succ] at d1 d5
            simp [go_sem, gives, frm, Act.put, nthR, detR, Region.wanted, d1, d5]
            exact HATF.out _ (HAF.out.past x'.2)
          | 7, _ =>
            obtain rfl := Option.some.inj ho
            intro u x' hd
            have hc := Past.cell x'
            simp [go_sem, gives, frm, Act.put, nthR, detR, Region.wanted, Below.refl]
          | 8, _ =>
            obtain rfl := Option.some.inj ho
            intro u x' hd
            have hc := Past.cell x'
            simp [go_sem, gives, frm, Act.put, nthR, detR, Region.wanted, Below.refl]
          | 9, _ =>
            obtain rfl := Option.some.inj ho
            intro u x' hd
            have hc := Past.cell x'
            simp [go_sem, gives, frm, Act.put, nthR, detR, Region.wanted, Below.refl]
          | 10, _ =>
            obtain rfl := Option.some.inj ho
            intro u x' hd
            have hc := Past.cell x'
            have d8 := hd 8 (by decide) (by kernel_rfl)
            have d9 := hd 9 (by decide) (by kernel_rfl)
            simp only [nthR, detR, List.getD_cons_zero, List.getD_cons_succ] at d8 d9
            simp [go_sem, gives, frm, Act.put, nthR, detR, Region.wanted, Below.refl, d8, d9, hlt]
          | 11, _ =>
            obtain rfl := Option.some.inj ho
            intro u x' hd
            have hc := Past.cell x'
            have d10 := hd 10 (by decide) (by kernel_rfl)
            simp only [nthR, detR, List.getD_cons_zero, List.getD_cons_succ] at d10
            simp [go_sem, gives, frm, Act.put, nthR, detR, Region.wanted, Below.refl, hc, d10, d0, hb]
          | 12, _ =>
            obtain rfl := Option.some.inj ho
            intro u x' hd
            have hc := Past.cell x'
            have d7 := hd 7 (by decide) (by kernel_rfl)
            have d11 := hd 11 (by decide) (by kernel_rfl)
            simp only [nthR, detR, List.getD_cons_zero, List.getD_cons_succ] at d7 d11
            simp [go_sem, gives, frm, Act.put, nthR, detR, Region.wanted, d7, d11]
            exact HATG.out _ (HAG.out.past x'.2)
          | 13, _ =>
            obtain rfl := Option.some.inj ho
            intro u x' hd
            have hc := Past.cell x'
            have d0 := hd 0 (by decide) (by kernel_rfl)
            have d6 := hd 6 (by decide) (by kernel_rfl)
            have d12 := hd 12 (by decide) (by kernel_rfl)
            simp only [nthR, detR, List.getD_cons_zero, List.getD_cons_succ] at d0 d6 d12
            simp [go_sem, gives, frm, Act.put, nthR, detR, Region.wanted, d0, d6, d12]
            exact HONE.out _
          | 14, _ =>
            obtain rfl := Option.some.inj ho
            intro u x' hd
            have hc := Past.cell x'
            have d13 := hd 13 (by decide) (by kernel_rfl)
            simp only [nthR, detR, List.getD_cons_zero, List.getD_cons_succ] at d13
            simp [go_sem, gives, frm, Act.put, nthR, detR, Region.wanted, Below.refl, d13]
          | 15, _ =>
            obtain rfl := Option.some.inj ho
            intro u x' hd
            have hc := Past.cell x'
            have d14 := hd 14 (by decide) (by kernel_rfl)
            simp only [nthR, detR, List.getD_cons_zero, List.getD_cons_succ] at d14
            simp [go_sem, gives, frm, Act.put, nthR, detR, Region.wanted, Below.refl, d14]
          | 16, _ =>
            obtain rfl := Option.some.inj ho
            intro u x' hd
            have hc := Past.cell x'
            have d14 := hd 14 (by decide) (by kernel_rfl)
            simp only [nthR, detR, List.getD_cons_zero, List.getD_cons_succ] at d14
            simp [go_sem, gives, frm, Act.put, nthR, detR, Region.wanted, Below.refl, d14]
          | 17, _ =>
            obtain rfl := Option.some.inj ho
            intro u x' hd
            have hc := Past.cell x'
            simp [go_sem, gives, nthR, Region.wanted]
            exact ⟨by (repeat (first | exact Below.refl _ _ | assumption | refine balloc ?_ _ | refine below_drewN ?_ _ | refine bstep (by assumption) ?_ | refine bstep (Past.prop _) ?_ | refine Below.setCell ?_ (by first | exact Nat.le_refl _ | (simp; done) | (simp; omega)) _)), ⟨_, rfl, by simpa using x'.2.size, Blk.made _ _ _⟩⟩
          | i + 18, h => exact absurd h (by omega)
        · intro i o hx ho
          simp only [List.mem_cons, List.not_mem_nil, or_false] at hx
          rcases hx with rfl
          · obtain rfl := Option.some.inj ho
            refine ⟨rfl, fun _ _ _ _ h => h, fun u x' hd => ?_⟩
            have d14 := hd 14 (by decide) (by kernel_rfl)
            simp only [nthR, detR, List.getD_cons_zero, List.getD_cons_succ] at d14
            refine ⟨rfl, .int .i64 q.2.2, rfl, fun w' => ?_⟩
            simp [go_sem, frm, Act.put, d14]
        · intro u x' hu hne
          have d15 := hu 15 (by decide); have d16 := hu 16 (by decide)
          obtain ⟨p, h17, l17, B17⟩ : newR _ _ _ _ _ := hu 17 (by decide)
          simp only [nthR, detR, List.getD_cons_zero, List.getD_cons_succ] at d15 d16
          have g0 := B17.cell 0; have g1 := B17.cell 1; have f17 := B17.free
          simp at g0 g1
          simp only [frm, List.take, Act.put, d15, d16, h17]
          clear d15 d16 hu hne
          have hx' := x'.2
          go_wp2
          go_meet
          case rel => exact ⟨p, rfl, rfl, (B17.set 0 _).set 1 _, (hx'.setCell l17 _).setCell l17 _⟩
      obtain ⟨p, rfl, rfl, BP, hbx⟩ := hcut
      have HBX := hidE hbx
      have d0' := (hbx.cell (p := ⟨b, off + n, none⟩) hb).trans d0
      have hb' := Nat.lt_of_lt_of_le hb hbx.size
      have p0 := BP.cell 0; have p1 := BP.cell 1; have pz := BP.lt
      simp at p0 p1
      clear hbx d0 hb HATF HATG HONE HAF HAG
      by_cases hq0 : q.2.2 = 0
      · have g2 : (q.2.2 != 0) = false := by rw [bne_eq_false_iff_eq]; exact hq0
        have HNS' := hidE (HNS.out hq0)
        clear hq0 HNB HNS
        go_wp2_with fail
        refine wp_region_J 6 [] (nthR [detR v, detR (.slice (some ⟨b, off, none⟩) ts.length c3), detR (.int .i64 n), detR (.pointer (some ⟨b, off + n, none⟩)), detR (.int .i64 t), detR (V q.1 q.2.1)]) (fun _ => false) (by kernel_rfl) (by simp) (by kernel_rfl) (stab_nth (by simp [stab_det])) ?_ ?_ ?_
        · intro i o hi ho
          match i, hi with
          | 0, _ =>
            obtain rfl := Option.some.inj ho
            intro u x' hd
            have hc := Past.cell x'
            simp [go_sem, gives, frm, Act.put, nthR, detR, Region.wanted, Below.refl]
          | 1, _ =>
            obtain rfl := Option.some.inj ho
            intro u x' hd
            have hc := Past.cell x'
            simp [go_sem, gives, frm, Act.put, nthR, detR, Region.wanted, Below.refl]
          | 2, _ =>
            obtain rfl := Option.some.inj ho
            intro u x' hd
            have hc := Past.cell x'
            simp [go_sem, gives, frm, Act.put, nthR, detR, Region.wanted, Below.refl]
          | 3, _ =>
            obtain rfl := Option.some.inj ho
            intro u x' hd
            have hc := Past.cell x'
            have d1 := hd 1 (by decide) (by kernel_rfl)
            have d2 := hd 2 (by decide) (by kernel_rfl)
            simp only [nthR, detR, List.getD_cons_zero, List.getD_cons_succ] at d1 d2
            simp [go_sem, gives, frm, Act.put, nthR, detR, Region.wanted, Below.refl, d1, d2, hlt]
          | 4, _ =>
            obtain rfl := Option.some.inj ho
            intro u x' hd
            have hc := Past.cell x'
            have d3 := hd 3 (by decide) (by kernel_rfl)
            simp only [nthR, detR, List.getD_cons_zero, List.getD_cons_succ] at d3
            simp [go_sem, gives, frm, Act.put, nthR, detR, Region.wanted, Below.refl, hc, d3, d0', hb']
          | 5, _ =>
            obtain rfl := Option.some.inj ho
            intro u x' hd
            have hc := Past.cell x'
            simp [go_sem, gives, frm, Act.put, nthR, detR, Region.wanted, Below.refl, hc, p0, p1, pz]
          | i + 6, h => exact absurd h (by omega)
        · intro i o h; cases h
        · intro u x' hu hne
          have e0 := hu 0 (by decide); have e4 := hu 4 (by decide); have e5 := hu 5 (by decide)
          simp only [nthR, detR, List.getD_cons_zero, List.getD_cons_succ] at e0 e4 e5
          have hx := x'.2
          have HXX := hidE (show Below wo.heap.size wo x'.1 from bstep hx HBX.out)
          clear hx hu hne
          simp only [frm, List.take, Act.put, e0, e4, e5]
          clear e0 e4 e5
          generalize x'.1 = w5 at *
          go_wp2_with (go_at_call 33; ((with_reducible refine (HWI.out _ (Nat.le_trans hwr HXX.out.size) (own_below HO.out HXX.out)).mono ?_); rintro e w6 ⟨v', rfl, ho6, hg6⟩))
          have hb6 : Below w3.heap.size w3 w6 := (HBR.out.trans (HXX.out.mono hwr)).grown hg6 (Nat.le_trans hwr HXX.out.size) (fun k hk => own_block HO.out hk)
          rw [← HST.out] at ho6
          have HB6 := hidE hb6; have HO6 := hidE ho6
          clear hb6 ho6 hg6
          go_wp2
          go_roundg (ts.length - (n + 1))
          case measure => omega
          case rel => exact ⟨n + 1, v', rfl, by go_num, by omega, Nat.le_refl _, HNS'.out, HB6.out, HO6.out⟩
      · have g2 : (q.2.2 != 0) = true := bne_iff_ne.2 hq0
        have HD := hidE (HNB.out hq0)
        clear hq0 HNB HNS
        go_wp2
        go_ret2
        rw [HD.out]
        exact ⟨_, rfl, sliS_nil _, HB3.out.trans ((HBR.out.trans (HBX.out.mono hwr)).mono HB3.out.size)⟩
    · have hn' : n = ts.length := by omega
      subst hn'
      have ho := HO.out
      rw [List.take_length] at ho
      have HO2 := hidE ho; clear ho HO
      have HD := hidE (HGOOD.out HS.out)
      go_wp2
      go_ret2
      rw [HD.out]
      exact ⟨_, rfl, sliS_own HO2.out, HB3.out.trans (HBR.out.mono HB3.out.size)⟩
end Go.Proofs.Ytgbgnpdfjoeonaa

namespace Go.Proofs.Ytgbgnpdfjoeonaa
open Go.ChangeShapes Go.WideShapes Go.ChangeAt Go.RowKit
attribute [local irreducible] Go.Calls

/-- What the document's own Range hands back. -/
def rangeS (F : List Sg) (x y : Int) (v : Int × Int) : List Sg × Int :=
  if mayB F = false then ([], 5) else if (boxS x y v).2 ≠ 0 then ([], (boxS x y v).2) else doS 0 F (boxS x y v).1
theorem boxS_len (x y : Int) (v : Int × Int) : (boxS x y v).1.length ≤ 2 := by
  unfold boxS
  split
  · simp
  · split
    · unfold boxL; split <;> simp
    · simp

set_option maxHeartbeats 1000000 in
theorem rrange_c (F : List Sg) (x y m c : Int) (a : Option Addr) (cap : Nat) (w : World) (hl : F.length ≤ 999999990) (hA : ArgS w a F) :
    Calls Try.prog 20 #[.slice a F.length cap, .int .i64 x, .int .i64 y, V m c] w (OfIs w (rangeS F x y (m, c)).1 (rangeS F x y (m, c)).2) := by
  have HA := hidE hA; clear hA
  have HV := hidE (fun w hA => rmayf_c F a cap w (by omega) hA)
  cases h1 : mayB F
  · have HE := hidE (show rangeS F x y (m, c) = ([], 5) by unfold rangeS; rw [if_pos h1])
    rw [h1] at HV
    rw [HE.out]
    clear h1
    go_enter Try.func20, Try.ntmps20
    go_wp2_with fail
    ((with_reducible refine (HV.out _ (HA.out.past (by (repeat (first | exact Below.refl _ _ | assumption | refine balloc ?_ _ | refine below_drewN ?_ _ | refine bstep (by assumption) ?_ | refine bstep (Past.prop _) ?_ | refine Below.setCell ?_ (by first | exact Nat.le_refl _ | (simp; done) | (simp; omega)) _))))).mono ?_); rintro e w1 ⟨rfl, hb1⟩)
    go_wp2
    go_ret2
    exact ⟨_, rfl, sliS_nil _, by (repeat (first | exact Below.refl _ _ | assumption | refine balloc ?_ _ | refine below_drewN ?_ _ | refine bstep (by assumption) ?_ | refine bstep (Past.prop _) ?_ | refine Below.setCell ?_ (by first | exact Nat.le_refl _ | (simp; done) | (simp; omega)) _))⟩
  · have HE := hidE (show rangeS F x y (m, c) = if (boxS x y (m, c)).2 ≠ 0 then ([], (boxS x y (m, c)).2) else doS 0 F (boxS x y (m, c)).1 by unfold rangeS; rw [if_neg (by rw [h1]; decide)])
    have HBL := hidE (boxS_len x y (m, c))
    have HBX := hidE (fun w => rbox_c x y m c w)
    rw [h1] at HV
    clear h1
    generalize boxS x y (m, c) = B at *
    generalize rangeS F x y (m, c) = D at *
    by_cases hq : B.2 = 0
    · have hd : (B.2 != 0) = false := by rw [bne_eq_false_iff_eq]; exact hq
      have HD := hidE (show D = doS 0 F B.1 by rw [HE.out, if_neg (by simpa using hq)])
      clear hq HE
      rw [HD.out]
      go_enter Try.func20, Try.ntmps20
      go_wp2_with fail
      ((with_reducible refine (HV.out _ (HA.out.past (by (repeat (first | exact Below.refl _ _ | assumption | refine balloc ?_ _ | refine below_drewN ?_ _ | refine bstep (by assumption) ?_ | refine bstep (Past.prop _) ?_ | refine Below.setCell ?_ (by first | exact Nat.le_refl _ | (simp; done) | (simp; omega)) _))))).mono ?_); rintro e w1 ⟨rfl, hb1⟩)
      obtain ⟨hc1, hf1⟩ := bcell hb1
      have hz1 := bsz hb1 w.heap.size (by simp)
      have HB1 := hidE (show Below w.heap.size w w1 by (repeat (first | exact Below.refl _ _ | assumption | refine balloc ?_ _ | refine below_drewN ?_ _ | refine bstep (by assumption) ?_ | refine bstep (Past.prop _) ?_ | refine Below.setCell ?_ (by first | exact Nat.le_refl _ | (simp; done) | (simp; omega)) _)))
      clear hb1
      go_wp2_with fail
      ((with_reducible refine (HBX.out _).mono ?_); rintro e w2 ⟨v2, rfl, hv2, hb2⟩)
      obtain ⟨a2, c2, rfl, _, _, hA2⟩ := hv2
      have HB2 := hidE (bstep hb2 HB1.out); have HA2 := hidE hA2
      clear hb2 hA2 hc1 hf1 hz1
      go_wp2_with fail
      ((with_reducible refine (rdo_c 0 F B.1 a a2 cap c2 _ (by have := HBL.out; omega) (HA.out.past HB2.out) HA2.out).mono ?_); rintro e w3 ⟨v3, rfl, hv3, hb3⟩)
      go_wp2
      go_ret2
      exact ⟨_, rfl, hv3, bstep hb3 HB2.out⟩
    · have hd : (B.2 != 0) = true := bne_iff_ne.2 hq
      have HD := hidE (show D = ([], B.2) by rw [HE.out, if_pos (by simpa using hq)])
      clear hq HE
      rw [HD.out]
      go_enter Try.func20, Try.ntmps20
      go_wp2_with fail
      ((with_reducible refine (HV.out _ (HA.out.past (by (repeat (first | exact Below.refl _ _ | assumption | refine balloc ?_ _ | refine below_drewN ?_ _ | refine bstep (by assumption) ?_ | refine bstep (Past.prop _) ?_ | refine Below.setCell ?_ (by first | exact Nat.le_refl _ | (simp; done) | (simp; omega)) _))))).mono ?_); rintro e w1 ⟨rfl, hb1⟩)
      obtain ⟨hc1, hf1⟩ := bcell hb1
      have hz1 := bsz hb1 w.heap.size (by simp)
      have HB1 := hidE (show Below w.heap.size w w1 by (repeat (first | exact Below.refl _ _ | assumption | refine balloc ?_ _ | refine below_drewN ?_ _ | refine bstep (by assumption) ?_ | refine bstep (Past.prop _) ?_ | refine Below.setCell ?_ (by first | exact Nat.le_refl _ | (simp; done) | (simp; omega)) _)))
      clear hb1
      go_wp2_with fail
      ((with_reducible refine (HBX.out _).mono ?_); rintro e w2 ⟨v2, rfl, hv2, hb2⟩)
      have HB2 := hidE (bstep hb2 HB1.out)
      clear hb2 hc1 hf1 hz1
      go_wp2
      go_ret2
      exact ⟨_, rfl, sliS_nil _, HB2.out⟩
end Go.Proofs.Ytgbgnpdfjoeonaa

namespace Go.Proofs.Ytgbgnpdfjoeonaa
open Go.ChangeShapes Go.WideShapes Go.ChangeAt Go.RowKit
attribute [local irreducible] Go.Calls

theorem leS_form {F G : List Sg} {x : Int} (h : (mayB F && mayB G) = false) : leS F G x = (0, false, 5) := by unfold leS; rw [if_pos h]
theorem leS_none {F G : List Sg} {x : Int} (h1 : mayB F = true) (h2 : mayB G = true) (h : ∀ i, i < (leT F G x).length → badT F G x ((leT F G x).getD i 0) = false) : leS F G x = (0, true, 0) := by
  unfold leS
  rw [h1, h2, if_neg (by decide)]
  have : (leT F G x).find? (badT F G x) = none := by
    rw [List.find?_eq_none]
    intro t ht
    obtain ⟨i, hi, rfl⟩ := List.getElem_of_mem ht
    have := h i hi
    rw [getD_get _ _ _ hi] at this
    rw [this]; exact Bool.false_ne_true
  rw [this]
theorem find_first {p : Int → Bool} : ∀ (l : List Int) (i : Nat), i < l.length → p (l.getD i 0) = true → (∀ j, j < i → p (l.getD j 0) = false) → l.find? p = some (l.getD i 0)
  | [], _, h, _, _ => by simp at h
  | y :: r, 0, _, h, _ => by
    rw [List.getD_cons_zero] at h ⊢
    rw [List.find?_cons_of_pos h]
  | y :: r, i + 1, hi, h, hj => by
    have h0 := hj 0 (by omega)
    rw [List.getD_cons_zero] at h0
    rw [List.find?_cons_of_neg (by rw [h0]; exact Bool.false_ne_true), List.getD_cons_succ]
    rw [List.getD_cons_succ] at h
    exact find_first r i (by simpa using hi) h fun j hj' => by
      have := hj (j + 1) (by omega)
      rw [List.getD_cons_succ] at this; exact this
theorem leS_bad {F G : List Sg} {x : Int} {i : Nat} (h1 : mayB F = true) (h2 : mayB G = true) (hi : i < (leT F G x).length) (hj : ∀ j, j < i → badT F G x ((leT F G x).getD j 0) = false) (h : badT F G x ((leT F G x).getD i 0) = true) : leS F G x = ((leT F G x).getD i 0, false, 0) := by
  unfold leS
  rw [h1, h2, if_neg (by decide), find_first _ i hi h hj]
theorem leT_len (F G : List Sg) (x : Int) : (leT F G x).length ≤ F.length + G.length + 1 := by
  have h1 := timesL_len (twoT F G ++ [x])
  have h2 := twoT_len F G
  unfold leT
  simp at h1
  omega
abbrev L3 (r : Int × Bool × Int) : Value := .tuple #[.int .i64 r.1, .bool r.2.1, .int .i64 r.2.2]

theorem rleq_form {F G : List Sg} {x : Int} {a a' : Option Addr} {cap cap' : Nat} {w : World} (hl : F.length + G.length ≤ 999999990) (hA : ArgS w a F) (hA' : ArgS w a' G) (h : (mayB F && mayB G) = false) :
    Calls Try.prog 17 #[.slice a F.length cap, .slice a' G.length cap', .int .i64 x] w fun e w' => e = .returned (L3 (leS F G x)) ∧ Below w.heap.size w w' := by
  rw [leS_form h]
  have HA := hidE hA; have HA' := hidE hA'; clear hA hA'
  have HV := hidE (fun w hA => rmayf_c F a cap w (by omega) hA)
  have HV' := hidE (fun w hA => rmayf_c G a' cap' w (by omega) hA)
  cases h1 : mayB F
  · rw [h1] at HV
    clear h HV'
    go_enter Try.func17, Try.ntmps17
    go_wp2_with fail
    ((with_reducible refine (HV.out _ HA.out).mono ?_); rintro e w1 ⟨rfl, hb1⟩)
    go_wp2
    exact bodyPost_ret (v := L3 (0, false, 5)) (by simp [results, Try.results17, go_sem]) rfl ⟨rfl, hb1⟩
  · have h2 : mayB G = false := by rw [h1] at h; simpa using h
    rw [h1] at HV; rw [h2] at HV'
    clear h
    go_enter Try.func17, Try.ntmps17
    go_wp2_with fail
    ((with_reducible refine (HV.out _ HA.out).mono ?_); rintro e w1 ⟨rfl, hb1⟩)
    have HB1 := hidE hb1; clear hb1
    go_wp2_with fail
    ((with_reducible refine (HV'.out _ (HA'.out.past HB1.out)).mono ?_); rintro e w2 ⟨rfl, hb2⟩)
    go_wp2
    exact bodyPost_ret (v := L3 (0, false, 5)) (by simp [results, Try.results17, go_sem]) rfl ⟨rfl, bstep hb2 HB1.out⟩

set_option maxRecDepth 100000 in
set_option maxHeartbeats 4000000 in
theorem rleq_c (F G : List Sg) (x : Int) (a a' : Option Addr) (cap cap' : Nat) (w : World) (hl : F.length + G.length ≤ 999999990) (hA : ArgS w a F) (hA' : ArgS w a' G) :
    Calls Try.prog 17 #[.slice a F.length cap, .slice a' G.length cap', .int .i64 x] w fun e w' => e = .returned (L3 (leS F G x)) ∧ Below w.heap.size w w' := by
  cases h : (mayB F && mayB G)
  · exact rleq_form hl hA hA' h
  obtain ⟨h1, h2⟩ : mayB F = true ∧ mayB G = true := by simpa using h
  have HGOOD := hidE (fun hi => leS_none (x := x) h1 h2 hi)
  have HBAD := hidE (fun i hi hj hb => leS_bad (x := x) (i := i) h1 h2 hi hj hb)
  have HTL := hidE (leT_len F G x)
  have HT2 := hidE (twoT_len F G)
  have HA := hidE hA; have HA' := hidE hA'; clear hA hA' h
  have HV := hidE (fun w hA => rmayf_c F a cap w (by omega) hA)
  have HV' := hidE (fun w hA => rmayf_c G a' cap' w (by omega) hA)
  rw [h1] at HV; rw [h2] at HV'
  clear h1 h2
  generalize leS F G x = D at *
  obtain ⟨i0, hi, hz0, hz1, hz2⟩ := info_parts Try.infoI64
  have HI := hidE hi; have HZ0 := hidE hz0; have HZ1 := hidE hz1; have HZ2 := hidE hz2
  clear hi hz0 hz1 hz2
  go_enter Try.func17, Try.ntmps17
  go_wp2_with fail
  ((with_reducible refine (HV.out _ HA.out).mono ?_); rintro e w1 ⟨rfl, hb1⟩)
  have HB1 := hidE hb1; clear hb1
  go_wp2_with fail
  ((with_reducible refine (HV'.out _ (HA'.out.past HB1.out)).mono ?_); rintro e w2 ⟨rfl, hb2⟩)
  have HB2 := hidE (bstep hb2 HB1.out); clear hb2 HV HV' HB1
  go_wp2_with fail
  ((with_reducible refine (rtwo_own F G a a' cap cap' _ (by omega) (HA.out.past HB2.out) (HA'.out.past HB2.out)).mono ?_); rintro e w3 ⟨v3, rfl, ho3, hb3⟩)
  have HB3 := hidE (bstep hb3 HB2.out); have HO3 := hidE (own_low ho3 HB2.out.size)
  clear hb3 ho3 HB2
  go_wp2_with (at_builtin; refine wpList_append_src rfl (.tmp 21) (.tmp 23) 51 rfl w.heap.size 2 i0 Try.underlying51 HI.out HZ0.out HZ1.out HZ2.out _ _ _ rfl (HO3.out.alloc _) _ [x] rfl (src_one (Blk.made _ _ _)) (by have := HT2.out; simp; omega) (by have := HB3.out.size; simp; omega) ?_; intro v4 w4 ho4 hg4)
  have hb4 : Below w.heap.size w w4 := Below.grown (HB3.out.alloc HB3.out.size (.cells #[.int .i64 x] 2)) hg4 (by have := HB3.out.size; simp; omega) (fun k hk => own_block HO3.out hk)
  have ho4' : w4.ownsRow w.heap.size 2 1 v4 (twoT F G ++ [x]).length (cellsI (twoT F G ++ [x])) := by
    rw [cellsI_app, List.length_append]; exact ho4
  obtain ⟨a4, c4, rfl, _, _, hA4⟩ := sliI_own ho4'
  have hrt := rtimes_c (twoT F G ++ [x]) a4 c4 w4 (by have := HT2.out; simp; omega) hA4
  have HRT := hidE hrt
  have HB4 := hidE hb4
  clear ho4 ho4' hg4 hb4 hA4 hrt HO3 HB3
  go_wp2_with fail
  ((with_reducible refine (HRT.out).mono ?_); rintro e w5 ⟨v5, rfl, ho5, hb5⟩)
  change w5.ownsRow w4.heap.size 2 1 v5 (leT F G x).length (cellsI (leT F G x)) at ho5
  obtain ⟨a5, c5, rfl, _, _, hA5⟩ := sliI_own ho5
  have HB5 := hidE (bstep hb5 HB4.out); have HA5 := hidE hA5
  clear hb5 hA5 ho5 HRT HB4
  generalize leT F G x = ts at *
  go_wp2_with fail
  go_loopg [10] ts.length (fun gh vi wr => ∃ n : Nat, vi = .int .i64 n ∧ n ≤ ts.length ∧ ts.length - n ≤ gh ∧ (∀ i, i < n → badT F G x (ts.getD i 0) = false) ∧ Below w5.heap.size w5 wr)
  case atStart => exact ⟨0, rfl, by omega, by omega, fun i hi => by omega, Below.refl _ _⟩
  case round =>
    obtain ⟨n, rfl, hn, hg, hs, hbr⟩ := hrel
    have HS := hidE hs; have HBR := hidE hbr
    clear hs
    by_cases hlt : n < ts.length
    · obtain ⟨b, off, rfl, hb, hc⟩ := (HA5.out.past hbr) (by omega)
      have d0 := hc n hlt
      have HAF := hidE (show ArgS wr a F from (HA.out.past HB5.out).past hbr)
      have HAG := hidE (show ArgS wr a' G from (HA'.out.past HB5.out).past hbr)
      have HATF := hidE (fun w hA => rat_c F a cap (ts.getD n 0) w (by omega) hA)
      have HATG := hidE (fun w hA => rat_c G a' cap' (ts.getD n 0) w (by omega) hA)
      have HLE := hidE (fun w => rle (vat F (ts.getD n 0)).1 (vat F (ts.getD n 0)).2 (vat G (ts.getD n 0)).1 (vat G (ts.getD n 0)).2 w)
      have HNB := hidE (fun hb => HBAD.out n hlt HS.out hb)
      have HNS := hidE (fun (he : badT F G x (ts.getD n 0) = false) => show ∀ i, i < n + 1 → badT F G x (ts.getD i 0) = false from fun i hi => by
        by_cases e : i = n
        · rw [e]; exact he
        · exact HS.out i (by omega))
      have HQ := hidE (show badT F G x (ts.getD n 0) = (decide (x ≤ ts.getD n 0) && !(leB (vat F (ts.getD n 0)).1 (vat F (ts.getD n 0)).2 (vat G (ts.getD n 0)).1 (vat G (ts.getD n 0)).2)) from rfl)
      clear hc hbr
      generalize vat F (ts.getD n 0) = y at *
      generalize vat G (ts.getD n 0) = z at *
      generalize badT F G x (ts.getD n 0) = bad at *
      generalize ts.getD n 0 = t at *
      obtain ⟨wo, rfl⟩ : ∃ wo : World, wo = wr := ⟨_, rfl⟩
      cases hd : decide (x ≤ t)
      · have HN := hidE (HNS.out (by rw [HQ.out, hd]; rfl))
        clear HNB HNS HQ HATF HATG HLE HAF HAG
        go_wp2_with fail
        refine wp_region_past_lit (by kernel_rfl) (by kernel_rfl) ?_
        have hcp := Past.cell (W := wo)
        repeat (go_big_quiet_step (fail))
        refine wpQuiet_nil ?_
        rintro _ ⟨x', rfl⟩
        have o1 : Below w5.heap.size w5 x'.1 := bstep x'.2 HBR.out
        clear hcp d0 hb
        generalize x'.1 = w6 at *
        go_wp2
        go_roundg (ts.length - (n + 1))
        case measure => omega
        case rel => exact ⟨n + 1, by go_num, by omega, Nat.le_refl _, HN.out, o1⟩
      · rw [hd, Bool.true_and] at HQ
        cases hle : leB y.1 y.2 z.1 z.2
        · have HD := hidE (HNB.out (by rw [HQ.out, hle]; rfl))
          rw [hle] at HLE
          clear HNB HNS HQ hle
          go_wp2_with fail
          refine wp_region_past_lit (by kernel_rfl) (by kernel_rfl) ?_
          have hcp := Past.cell (W := wo)
          repeat (go_big_quiet_step (first | (go_at_call 21; first | exact Past.call _ (HATF.out _ (HAF.out.past (Past.prop _))) | exact Past.call _ (HATG.out _ (HAG.out.past (Past.prop _)))) | (go_at_call 24; exact Past.call _ (HLE.out _))))
          refine wpQuiet_nil ?_
          rintro _ ⟨x', rfl⟩
          have o1 : Below w5.heap.size w5 x'.1 := bstep x'.2 HBR.out
          have r0 := (hcp x' b (off + n) hb).trans d0
          have hbz : b < x'.1.heap.size := Nat.lt_of_lt_of_le hb x'.2.size
          clear hcp d0 hb
          generalize x'.1 = w6 at *
          go_wp2
          exact bodyPost_ret (v := L3 (t, false, 0)) (by simp [results, Try.results17, go_sem]) rfl ⟨by rw [HD.out], HB5.out.trans (o1.mono HB5.out.size)⟩
        · have HN := hidE (HNS.out (by rw [HQ.out, hle]; rfl))
          rw [hle] at HLE
          clear HNB HNS HQ hle
          go_wp2_with fail
          refine wp_region_past_lit (by kernel_rfl) (by kernel_rfl) ?_
          have hcp := Past.cell (W := wo)
          repeat (go_big_quiet_step (first | (go_at_call 21; first | exact Past.call _ (HATF.out _ (HAF.out.past (Past.prop _))) | exact Past.call _ (HATG.out _ (HAG.out.past (Past.prop _)))) | (go_at_call 24; exact Past.call _ (HLE.out _))))
          refine wpQuiet_nil ?_
          rintro _ ⟨x', rfl⟩
          have o1 : Below w5.heap.size w5 x'.1 := bstep x'.2 HBR.out
          clear hcp d0 hb
          generalize x'.1 = w6 at *
          go_wp2
          go_roundg (ts.length - (n + 1))
          case measure => omega
          case rel => exact ⟨n + 1, by go_num, by omega, Nat.le_refl _, HN.out, o1⟩
    · have hn' : n = ts.length := by omega
      subst hn'
      have HD := hidE (HGOOD.out HS.out)
      go_wp2
      exact bodyPost_ret (v := L3 (0, true, 0)) (by simp [results, Try.results17, go_sem]) rfl ⟨by rw [HD.out], HB5.out.trans (HBR.out.mono HB5.out.size)⟩
end Go.Proofs.Ytgbgnpdfjoeonaa

namespace Go.Proofs.Ytgbgnpdfjoeonaa
open Go.ChangeShapes Go.WideShapes Go.ChangeAt Go.RowKit
attribute [local irreducible] Go.Calls

/-- A slice whose cells are slices that read as lists of runs. -/
def CellsR (w : World) (b off : Nat) (L : List (List Sg)) : Prop :=
  ∀ i, i < L.length → ∃ (a : Option Addr) (c : Nat), w.cell? ⟨b, off + i, none⟩ = some (.slice a (L.getD i []).length c) ∧ ArgS w a (L.getD i [])
def ArgR (w : World) (a : Option Addr) (L : List (List Sg)) : Prop := 0 < L.length → ∃ b off, a = some ⟨b, off, none⟩ ∧ b < w.heap.size ∧ CellsR w b off L
theorem ArgR.past {w w' : World} {a : Option Addr} {L : List (List Sg)} (h : ArgR w a L) (hb : Below w.heap.size w w') : ArgR w' a L := fun hl => by
  obtain ⟨b, off, e, h1, h2⟩ := h hl
  refine ⟨b, off, e, Nat.lt_of_lt_of_le h1 hb.size, fun i hi => ?_⟩
  obtain ⟨a', c, h3, h4⟩ := h2 i hi
  exact ⟨a', c, (hb.cell (p := ⟨b, _, none⟩) h1).trans h3, h4.past hb⟩

/-- How many runs a row of functions has. -/
def lenR (L : List (List Sg)) : Nat := (L.map List.length).sum
theorem lenR_step {L : List (List Sg)} {n : Nat} (h : n < L.length) : lenR (L.take (n + 1)) = lenR (L.take n) + (L.getD n []).length := by
  unfold lenR
  rw [List.take_succ_eq_append_getElem h, getD_get _ _ _ h, List.map_append, List.sum_append]
  simp only [List.map_cons, List.map_nil, List.sum_cons, List.sum_nil, Nat.add_zero]
theorem lenR_take : ∀ (L : List (List Sg)) (n : Nat), lenR (L.take n) ≤ lenR L
  | [], n => by simp [lenR]
  | x :: r, 0 => by simp [lenR]
  | x :: r, n + 1 => by
    have := lenR_take r n
    unfold lenR at this ⊢
    simp only [List.take_succ_cons, List.map_cons, List.sum_cons]
    omega
theorem lenR_get {L : List (List Sg)} {n : Nat} (h : n < L.length) : (L.getD n []).length ≤ lenR L := by
  have h1 := lenR_step h
  have h2 := lenR_take L (n + 1)
  omega
theorem doS_len (k : Int) (F G : List Sg) : (doS k F G).1.length ≤ F.length + G.length := by
  unfold doS
  split
  · simp
  · split
    · exact opL_len k F G
    · simp
theorem sumE_step {L : List (List Sg)} {n : Nat} (h : n < L.length) (h0 : (sumE (L.take n)).2 = 0) : sumE (L.take (n + 1)) = doS 0 (sumE (L.take n)).1 (L.getD n []) := by
  have : sumE (L.take (n + 1)) = if (sumE (L.take n)).2 = 0 then doS 0 (sumE (L.take n)).1 (L.getD n []) else sumE (L.take n) := by
    unfold sumE
    rw [List.take_succ_eq_append_getElem h, List.foldl_append, getD_get _ _ _ h]; rfl
  rw [this, if_pos h0]
theorem sumE_err : ∀ (r : List (List Sg)) (acc : List Sg × Int), acc.2 ≠ 0 → r.foldl (fun acc f => if acc.2 = 0 then doS 0 acc.1 f else acc) acc = acc
  | [], _, _ => rfl
  | x :: r, acc, h => by
    rw [List.foldl_cons, if_neg h]
    exact sumE_err r acc h
theorem sumE_bad {L : List (List Sg)} {n : Nat} (h : (sumE (L.take n)).2 ≠ 0) : sumE L = sumE (L.take n) := by
  have e : sumE L = (L.drop n).foldl (fun acc f => if acc.2 = 0 then doS 0 acc.1 f else acc) (sumE (L.take n)) := by
    unfold sumE
    rw [← List.foldl_append, List.take_append_drop]
  rw [e]; exact sumE_err _ _ h
theorem doS_err {k : Int} {F G : List Sg} (h : (doS k F G).2 ≠ 0) : (doS k F G).1 = [] := by
  unfold doS at h ⊢
  split
  · rfl
  · split
    · rename_i h1 h2
      rw [if_neg h1, if_pos h2] at h
      exact absurd rfl h
    · rfl
theorem sumS_form {L : List (List Sg)} {i : Nat} (hi : i < L.length) (h : mayB (L.getD i []) = false) : sumS L = ([], 5) := by
  unfold sumS
  rw [if_neg]
  intro c
  rw [List.all_eq_true] at c
  rw [getD_get _ _ _ hi] at h
  rw [c _ (List.getElem_mem hi)] at h
  cases h
theorem sumS_good {L : List (List Sg)} (h : ∀ i, i < L.length → mayB (L.getD i []) = true) : sumS L = sumE L := by
  unfold sumS
  rw [if_pos]
  rw [List.all_eq_true]
  intro x hx
  obtain ⟨i, hi, rfl⟩ := List.getElem_of_mem hx
  have := h i hi
  rw [getD_get _ _ _ hi] at this; exact this

set_option maxRecDepth 100000 in
set_option maxHeartbeats 2000000 in
theorem rsum_c (L : List (List Sg)) (a : Option Addr) (cap : Nat) (w : World) (hn : L.length ≤ 999999990) (hl : lenR L ≤ 999999990) (hA : ArgR w a L) :
    Calls Try.prog 11 #[.slice a L.length cap] w (OfIs w (sumS L).1 (sumS L).2) := by
  have HA := hidE hA; clear hA
  go_enter Try.func11, Try.ntmps11
  go_wp2
  go_loopg [4] L.length (fun gh vi wr => ∃ n : Nat, vi = .int .i64 n ∧ n ≤ L.length ∧ L.length - n ≤ gh ∧ (∀ i, i < n → mayB (L.getD i []) = true) ∧ Below w.heap.size w wr)
  case atStart => exact ⟨0, rfl, by omega, by omega, fun i hi => by omega, Below.refl _ _⟩
  case round =>
    obtain ⟨n, rfl, hnl, hg, hs, hbr⟩ := hrel
    have HS := hidE hs; have HBR := hidE hbr
    clear hs
    by_cases hlt : n < L.length
    · obtain ⟨b, off, rfl, hb, hc⟩ := (HA.out.past hbr) (by omega)
      obtain ⟨ai, ci, d0, hAi⟩ := hc n hlt
      have HAI := hidE hAi
      have hln := lenR_get hlt
      have HV := hidE (fun w hA => rmayf_c (L.getD n []) ai ci w (by omega) hA)
      have HF := hidE (fun h => sumS_form hlt h)
      have HNS := hidE (fun (he : mayB (L.getD n []) = true) => show ∀ i, i < n + 1 → mayB (L.getD i []) = true from fun i hi => by
        by_cases e : i = n
        · rw [e]; exact he
        · exact HS.out i (by omega))
      clear hc hAi hbr
      generalize L.getD n [] = G at *
      cases hm : mayB G
      · have HD := hidE (HF.out hm)
        rw [hm] at HV
        clear HNS HF hm
        go_wp2_with fail
        ((with_reducible refine (HV.out _ HAI.out).mono ?_); rintro e w1 ⟨rfl, hb1⟩)
        go_wp2
        go_ret2
        rw [HD.out]
        exact ⟨_, rfl, sliS_nil _, bstep hb1 HBR.out⟩
      · have HN := hidE (HNS.out hm)
        rw [hm] at HV
        clear HNS HF hm
        go_wp2_with fail
        ((with_reducible refine (HV.out _ HAI.out).mono ?_); rintro e w1 ⟨rfl, hb1⟩)
        have o1 := bstep hb1 HBR.out
        clear hb1 d0
        go_wp2
        go_roundg (L.length - (n + 1))
        case measure => omega
        case rel => exact ⟨n + 1, by go_num, by omega, Nat.le_refl _, HN.out, o1⟩
    · have hn' : n = L.length := by omega
      subst hn'
      have HE := hidE (sumS_good HS.out)
      clear HS hbr
      go_wp2_with fail
      go_loopg [5, 6, 7, 8] L.length (fun gh vf vi _ _ wr2 => ∃ (n : Nat) (v : Value), v = vf ∧ vi = .int .i64 n ∧ n ≤ L.length ∧ L.length - n ≤ gh ∧ (sumE (L.take n)).2 = 0 ∧ (sumE (L.take n)).1.length ≤ lenR (L.take n) ∧ SliS wr2 v (sumE (L.take n)).1 ∧ Below w.heap.size w wr2)
      case atStart => exact ⟨0, .slice none 0 0, rfl, rfl, by omega, by omega, rfl, by simp [sumE], sliS_nil _, HBR.out⟩
      case round =>
        obtain ⟨n, v, rfl, rfl, hnl, hg2, h0, hlen, hv, hb2⟩ := hrel
        have HB2 := hidE hb2; have H0 := hidE h0
        by_cases hlt : n < L.length
        · obtain ⟨b, off, rfl, hb, hc⟩ := (HA.out.past hb2) (by omega)
          obtain ⟨ai, ci, d0, hAi⟩ := hc n hlt
          obtain ⟨a1, c1, rfl, _, _, hA1⟩ := hv
          have HAI := hidE hAi; have HA1 := hidE hA1
          have HST := hidE (sumE_step hlt h0)
          have HBD := hidE (fun h => sumE_bad (L := L) (n := n + 1) h)
          have hls := lenR_step hlt
          have hlt2 := lenR_take L (n + 1)
          clear hc hAi hA1 hb2 h0
          have HDL := hidE (doS_len 0 (sumE (L.take n)).1 (L.getD n []))
          have HDE := hidE (fun h => doS_err (k := 0) (F := (sumE (L.take n)).1) (G := L.getD n []) h)
          have HDO := hidE (fun w hA hA' => rdo_c 0 (sumE (L.take n)).1 (L.getD n []) a1 ai c1 ci w (by omega) hA hA')
          rw [← HST.out] at HDL HDE HDO
          generalize (sumE (L.take n)).1 = f at *
          generalize L.getD n [] = G at *
          generalize hqq : sumE (L.take (n + 1)) = q at *
          have HQQ := hidE hqq
          clear hqq
          by_cases hq : q.2 = 0
          · have hd : (q.2 != 0) = false := by rw [bne_eq_false_iff_eq]; exact hq
            have HQ := hidE hq
            clear hq HBD HDE
            go_wp2_with fail
            ((with_reducible refine (HDO.out _ HA1.out HAI.out).mono ?_); rintro e w3 ⟨v3, rfl, hv3, hb3⟩)
            have o1 := bstep hb3 HB2.out
            clear hb3 d0
            go_wp2
            go_roundg (L.length - (n + 1))
            case measure => omega
            case rel => exact ⟨n + 1, v3, rfl, by go_num, by omega, Nat.le_refl _, by rw [HQQ.out]; exact HQ.out, by rw [HQQ.out]; have := HDL.out; omega, by rw [HQQ.out]; exact hv3, o1⟩
          · have hd : (q.2 != 0) = true := bne_iff_ne.2 hq
            have HD := hidE (HBD.out hq)
            have HQ1 := hidE (HDE.out hq)
            clear hq HBD HDE
            go_wp2_with fail
            ((with_reducible refine (HDO.out _ HA1.out HAI.out).mono ?_); rintro e w3 ⟨v3, rfl, hv3, hb3⟩)
            have o1 := bstep hb3 HB2.out
            clear hb3 d0
            go_wp2
            go_ret2
            rw [HE.out, HD.out, HQ1.out]
            exact ⟨_, rfl, sliS_nil _, o1⟩
        · have hn' : n = L.length := by omega
          subst hn'
          have h0' := H0.out
          rw [List.take_length] at h0' hv
          have HH := hidE h0'; have HV2 := hidE hv
          clear h0' hv h0 H0 hlen hb2
          go_wp2
          go_ret2
          rw [HE.out, HH.out]
          exact ⟨_, rfl, HV2.out, HB2.out⟩
end Go.Proofs.Ytgbgnpdfjoeonaa
