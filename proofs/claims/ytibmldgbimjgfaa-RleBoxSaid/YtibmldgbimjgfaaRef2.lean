/- The contracts of the document's own small answers for rle. No conditions but that the lists' cells read as integers. -/
import Derived.Test.YtibmldgbimjgfaaBox
import Derived.Test.YtibmldgbimjgfaaRef2Math
namespace Go.Proofs.Ytibmldgbimjgfaa
open Go.ChangeShapes Go.WideShapes Go.ChangeAt Go.RowKit
attribute [local irreducible] Go.Calls

theorem rmay (a b : Int) (w : World) : Calls Try.prog 39 #[V a b] w fun e w' => e = .returned (.bool (okV a b)) ∧ Below w.heap.size w w' := by
  go_enter Try.func39, Try.ntmps39
  go_wp2
  all_goals
    go_ret
    refine ⟨ret_bool (by unfold okV; rw [Bool.eq_iff_iff]; simp; omega), ?_⟩
    (repeat (first | exact Below.refl _ _ | assumption | refine balloc ?_ _ | refine below_drewN ?_ _ | refine bstep (by assumption) ?_ | refine bstep (Past.prop _) ?_ | refine Below.setCell ?_ (by first | exact Nat.le_refl _ | (simp; done) | (simp; omega)) _))

theorem rin_c (s : Sg) (w : World) : Calls Try.prog 30 #[S s.1 s.2.1 s.2.2] w fun e w' => e = .returned (.bool (okS s)) ∧ Below w.heap.size w w' := by
  obtain ⟨x, m, c⟩ := s
  show Calls _ _ #[S x m c] _ _
  by_cases h1 : -1125899906842624 ≤ x
  · by_cases h2 : x ≤ 1125899906842624
    · have e : okS (x, m, c) = okV m c := by
        have : okT x = true := okT_iff.2 ⟨h1, h2⟩
        unfold okS; simp only [this, Bool.true_and]
      rw [e]
      have d1 : decide (-1125899906842624 ≤ x) = true := decide_eq_true h1
      have d2 : decide (x ≤ 1125899906842624) = true := decide_eq_true h2
      clear e
      go_enter Try.func30, Try.ntmps30
      go_wp2_with (go_at_call 39; ((with_reducible refine (rmay m c _).mono ?_); rintro e w' ⟨rfl, hb⟩; obtain ⟨hc, hf⟩ := bcell hb))
      go_ret
      exact ⟨rfl, by (repeat (first | exact Below.refl _ _ | assumption | refine balloc ?_ _ | refine below_drewN ?_ _ | refine bstep (by assumption) ?_ | refine bstep (Past.prop _) ?_ | refine Below.setCell ?_ (by first | exact Nat.le_refl _ | (simp; done) | (simp; omega)) _))⟩
    · have e : okS (x, m, c) = false := by
        have : okT x = false := decide_eq_false (by omega)
        unfold okS; simp only [this, Bool.false_and]
      rw [e]
      have d1 : decide (-1125899906842624 ≤ x) = true := decide_eq_true h1
      have d2 : decide (x ≤ 1125899906842624) = false := decide_eq_false h2
      clear e
      go_enter Try.func30, Try.ntmps30
      go_wp2
      go_ret
      exact ⟨rfl, by (repeat (first | exact Below.refl _ _ | assumption | refine balloc ?_ _ | refine below_drewN ?_ _ | refine bstep (by assumption) ?_ | refine bstep (Past.prop _) ?_ | refine Below.setCell ?_ (by first | exact Nat.le_refl _ | (simp; done) | (simp; omega)) _))⟩
  · have e : okS (x, m, c) = false := by
      have : okT x = false := decide_eq_false (by omega)
      unfold okS; simp only [this, Bool.false_and]
    rw [e]
    have d1 : decide (-1125899906842624 ≤ x) = false := decide_eq_false h1
    clear e
    go_enter Try.func30, Try.ntmps30
    go_wp2
    go_ret
    exact ⟨rfl, by (repeat (first | exact Below.refl _ _ | assumption | refine balloc ?_ _ | refine below_drewN ?_ _ | refine bstep (by assumption) ?_ | refine bstep (Past.prop _) ?_ | refine Below.setCell ?_ (by first | exact Nat.le_refl _ | (simp; done) | (simp; omega)) _))⟩

set_option maxHeartbeats 1000000 in
theorem rsame_c (l r : List Sg) (a a' : Option Addr) (cap cap' : Nat) (w : World) (hl : l.length ≤ 9223372036854775807) (hr : r.length ≤ 9223372036854775807) (hA : ArgS w a l) (hA' : ArgS w a' r) :
    Calls Try.prog 12 #[.slice a l.length cap, .slice a' r.length cap'] w fun e w' => e = .returned (.bool (sameB l r)) ∧ Below w.heap.size w w' := by
  have HA := hidE hA; have HA' := hidE hA'; clear hA hA'
  by_cases hlen : l.length = r.length
  · have e1 : ((l.length : Int) != (r.length : Int)) = false := by rw [bne_eq_false_iff_eq]; omega
    have e2 : ((l.length : Int) == (r.length : Int)) = true := beq_iff_eq.2 (by omega)
    have HL := hidE hlen
    have le1 : l.length ≤ r.length := by omega
    clear hlen
    go_enter Try.func12, Try.ntmps12
    go_wp2
    go_loopg [5] l.length (fun g vi wr => ∃ k : Nat, k ≤ l.length ∧ l.length - k ≤ g ∧ vi = .int .i64 k ∧ (∀ i, i < k → ats l i = ats r i ∧ vls l i = vls r i) ∧ Below w.heap.size w wr)
    case atStart => exact ⟨0, Nat.zero_le _, by omega, rfl, fun i hi => by omega, Below.refl _ _⟩
    case round =>
      obtain ⟨k, hk, hg, rfl, hs, hb⟩ := hrel
      have HS := hidE hs; have HB := hidE hb; clear hs hb
      by_cases hlt : k < l.length
      · obtain ⟨b, off, rfl, hb, hc⟩ := (HA.out.past HB.out) (by omega)
        obtain ⟨c0, c1, c2⟩ := hc.get hlt
        obtain ⟨b', off', rfl, hb', hc'⟩ := (HA'.out.past HB.out) (by omega)
        obtain ⟨d0, d1, d2⟩ := hc'.get (i := k) (by omega)
        clear hc hc'
        by_cases hne : ats l k = ats r k ∧ (vls l k).1 = (vls r k).1 ∧ (vls l k).2 = (vls r k).2
        · have HX := hidE (show ∀ i, i < k + 1 → ats l i = ats r i ∧ vls l i = vls r i from fun i hi => by
            by_cases e : i = k
            · rw [e]; exact ⟨hne.1, Prod.ext hne.2.1 hne.2.2⟩
            · exact HS.out i (by omega))
          obtain ⟨n1, n2, n3⟩ := hne
          rw [← n1] at d0; rw [← n2] at d1; rw [← n3] at d2
          clear n1 n2 n3
          generalize ats l k = u at *
          generalize vls l k = v at *
          go_wp2
          go_quiet (fail)
          go_wp2
          go_roundg (l.length - (k + 1))
          case measure => omega
          case rel => exact ⟨k + 1, by omega, Nat.le_refl _, by go_num, HX.out, by have := HB.out; (repeat (first | exact Below.refl _ _ | assumption | refine balloc ?_ _ | refine below_drewN ?_ _ | refine bstep (by assumption) ?_ | refine bstep (Past.prop _) ?_ | refine Below.setCell ?_ (by first | exact Nat.le_refl _ | (simp; done) | (simp; omega)) _))⟩
        · have HX := hidE (show sameB l r = false from same_f (i := k) (by
            by_cases e : ats l k = ats r k
            · right; intro h; exact hne ⟨e, by rw [h], by rw [h]⟩
            · exact .inl e))
          by_cases n1 : ats l k = ats r k
          · by_cases n2 : (vls l k).1 = (vls r k).1
            · have n3 : ((vls l k).2 == (vls r k).2) = false := beq_eq_false_iff_ne.2 fun h => hne ⟨n1, n2, h⟩
              rw [← n1] at d0; rw [← n2] at d1
              clear n1 n2 hne
              generalize ats l k = u at *
              generalize vls l k = v at *
              generalize vls r k = v' at *
              go_wp2
              go_quiet (fail)
              go_wp2
              go_ret
              exact ⟨ret_bool (by rw [HX.out]), by have := HB.out; (repeat (first | exact Below.refl _ _ | assumption | refine balloc ?_ _ | refine below_drewN ?_ _ | refine bstep (by assumption) ?_ | refine bstep (Past.prop _) ?_ | refine Below.setCell ?_ (by first | exact Nat.le_refl _ | (simp; done) | (simp; omega)) _))⟩
            · have n3 : ((vls l k).1 == (vls r k).1) = false := beq_eq_false_iff_ne.2 n2
              rw [← n1] at d0
              clear n1 n2 hne
              generalize ats l k = u at *
              generalize vls l k = v at *
              generalize vls r k = v' at *
              go_wp2
              go_quiet (fail)
              go_wp2
              go_ret
              exact ⟨ret_bool (by rw [HX.out]), by have := HB.out; (repeat (first | exact Below.refl _ _ | assumption | refine balloc ?_ _ | refine below_drewN ?_ _ | refine bstep (by assumption) ?_ | refine bstep (Past.prop _) ?_ | refine Below.setCell ?_ (by first | exact Nat.le_refl _ | (simp; done) | (simp; omega)) _))⟩
          · have n3 : (ats l k == ats r k) = false := beq_eq_false_iff_ne.2 n1
            clear n1 hne
            generalize ats l k = u at *
            generalize vls l k = v at *
            generalize ats r k = u' at *
            generalize vls r k = v' at *
            go_wp2
            go_quiet (fail)
            go_wp2
            go_ret
            exact ⟨ret_bool (by rw [HX.out]), by have := HB.out; (repeat (first | exact Below.refl _ _ | assumption | refine balloc ?_ _ | refine below_drewN ?_ _ | refine bstep (by assumption) ?_ | refine bstep (Past.prop _) ?_ | refine Below.setCell ?_ (by first | exact Nat.le_refl _ | (simp; done) | (simp; omega)) _))⟩
      · have hk' : k = l.length := by omega
        subst hk'
        have HX := hidE (same_t HL.out HS.out)
        go_wp2
        go_ret
        exact ⟨ret_bool (by rw [HX.out]), HB.out⟩
  · have e1 : ((l.length : Int) != (r.length : Int)) = true := bne_iff_ne.2 (by omega)
    have e2 : ((l.length : Int) == (r.length : Int)) = false := beq_eq_false_iff_ne.2 (by omega)
    have HX := hidE (show sameB l r = false from decide_eq_false (fun e => hlen (by rw [e])))
    clear hlen
    go_enter Try.func12, Try.ntmps12
    go_wp2
    go_ret
    exact ⟨ret_bool (by rw [HX.out]), Below.refl _ _⟩

set_option maxHeartbeats 1000000 in
theorem rraw_c (l : List Sg) (a : Option Addr) (cap : Nat) (t : Int) (w : World) (hl : l.length ≤ 9223372036854775807) (hA : ArgS w a l) :
    Calls Try.prog 34 #[.slice a l.length cap, .int .i64 t] w fun e w' => e = .returned (V (rawAt l t).1 (rawAt l t).2) ∧ Below w.heap.size w w' := by
  have HA := hidE hA; clear hA
  go_enter Try.func34, Try.ntmps34
  go_wp2
  go_loopg [6] l.length (fun g vi wr => ∃ k : Nat, k ≤ l.length ∧ l.length - k ≤ g ∧ vi = .int .i64 k ∧ Below w.heap.size w wr ∧ Blk wr (w.heap.size + 1) #[.int .i64 (rawAt (l.take k) t).1, .int .i64 (rawAt (l.take k) t).2] 28 ∧ Blk wr w.heap.size #[.int .i64 0, .int .i64 0] 28)
  case atStart => exact ⟨0, Nat.zero_le _, by omega, rfl, by (repeat (first | exact Below.refl _ _ | assumption | refine balloc ?_ _ | refine below_drewN ?_ _ | refine bstep (by assumption) ?_ | refine bstep (Past.prop _) ?_ | refine Below.setCell ?_ (by first | exact Nat.le_refl _ | (simp; done) | (simp; omega)) _)), Blk.made_at _ _ _ _ (by simp), (Blk.made _ _ _).alloc _⟩
  case round =>
    obtain ⟨k, hk, hg, rfl, hb, h1, h0⟩ := hrel
    have c10 := h1.cell 0; have c11 := h1.cell 1; have f1 := h1.free; have c00 := h0.cell 0; have c01 := h0.cell 1; have f0 := h0.free; have z1 := h1.lt; have z0 := h0.lt
    simp at c10 c11 c00 c01
    by_cases hlt : k < l.length
    · have HST := hidE (rawAt_step (t := t) hlt)
      obtain ⟨b, off, rfl, hbb, hc⟩ := (HA.out.past hb) (by omega)
      have hbw : b < w.heap.size := by
        obtain ⟨b', off', e, hb', _⟩ := HA.out (by omega)
        simp at e; omega
      obtain ⟨d0, d1, d2⟩ := hc.get hlt
      clear hc
      by_cases hq : ats l k = t
      · have HS := hidE (show rawAt (l.take (k + 1)) t = vls l k by rw [HST.out, if_pos hq])
        have d3 : (ats l k == t) = true := beq_iff_eq.2 hq
        have hn1 : b ≠ w.heap.size := by omega
        have hn2 : b ≠ w.heap.size + 1 := by omega
        clear hq HST c00 c01
        generalize ats l k = u at *
        generalize vls l k = v at *
        generalize rawAt (l.take k) t = q at *
        go_wp2
        go_roundg (l.length - (k + 1))
        case measure => omega
        case rel => exact ⟨k + 1, by omega, Nat.le_refl _, by go_num, by (repeat (first | exact Below.refl _ _ | assumption | refine balloc ?_ _ | refine below_drewN ?_ _ | refine bstep (by assumption) ?_ | refine bstep (Past.prop _) ?_ | refine Below.setCell ?_ (by first | exact Nat.le_refl _ | (simp; done) | (simp; omega)) _)), by rw [HS.out]; exact (h1.set 0 _).set 1 _, (h0.other (by omega) _).other (by omega) _⟩
      · have HS := hidE (show rawAt (l.take (k + 1)) t = rawAt (l.take k) t by rw [HST.out, if_neg hq])
        have d3 : (ats l k == t) = false := beq_eq_false_iff_ne.2 hq
        clear hq HST
        generalize ats l k = u at *
        go_wp2
        go_roundg (l.length - (k + 1))
        case measure => omega
        case rel => exact ⟨k + 1, by omega, Nat.le_refl _, by go_num, hb, by rw [HS.out]; exact h1, h0⟩
    · have hk' : k = l.length := by omega
      subst hk'
      have e : rawAt (l.take l.length) t = rawAt l t := by rw [List.take_length]
      rw [e] at c10 c11
      clear e
      generalize hq : rawAt l t = q at *
      have HQ := hidE hq; clear hq
      go_wp2
      have B0 := (h0.set 0 (.int .i64 q.1)).set 1 (.int .i64 q.2)
      have g0 := B0.cell 0; have g1 := B0.cell 1
      simp at g0 g1
      refine bodyPost_ret (v := V q.1 q.2) (by simp [results, Try.results34, go_sem, g0, g1]) rfl ⟨by rw [HQ.out], ?_⟩
      (repeat (first | exact Below.refl _ _ | assumption | refine balloc ?_ _ | refine below_drewN ?_ _ | refine bstep (by assumption) ?_ | refine bstep (Past.prop _) ?_ | refine Below.setCell ?_ (by first | exact Nat.le_refl _ | (simp; done) | (simp; omega)) _))
end Go.Proofs.Ytibmldgbimjgfaa
