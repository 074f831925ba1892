/- RleBox answers true for every window, and every list of runs. No conditions but that the numbers fit an int64. -/
import Derived.Test.YtibmldgbimjgfaaRleHead
import Derived.Test.YtibmldgbimjgfaaRBox
import Derived.Test.YtibmldgbimjgfaaMay
namespace Go.Proofs.Ytibmldgbimjgfaa
open Go.ChangeShapes Go.WideShapes Go.ChangeAt Go.RowKit
attribute [local irreducible] Go.Calls

theorem okS_t {x : Int} {v : Int × Int} (h : okS (x, v) = true) : -1125899906842624 ≤ x ∧ x ≤ 1125899906842624 := by
  unfold okS at h
  rw [Bool.and_eq_true] at h
  exact okT_iff.1 h.1
theorem boxS_cases (x y : Int) (v : Int × Int) : boxS x y v = ([], 2) ∨ boxS x y v = ([], 10) ∨ (boxS x y v = (boxL x y v, 0) ∧ x ≤ y ∧ (-1125899906842624 ≤ x ∧ x ≤ 1125899906842624) ∧ (-1125899906842624 ≤ y ∧ y ≤ 1125899906842624) ∧ mayB (boxL x y v) = true) := by
  unfold boxS
  by_cases h : y < x
  · rw [if_pos h]; exact .inl rfl
  · rw [if_neg h]
    cases ho : (okS (x, v) && okS (y, (0, 0)))
    · exact .inr (.inl rfl)
    · have h2 : okS (x, v) = true ∧ okS (y, (0, 0)) = true := by simpa using ho
      exact .inr (.inr ⟨rfl, by omega, okS_t h2.1, okS_t h2.2, mayB_iff.2 (boxL_of (by omega) h2.1 h2.2).1⟩)
theorem vat_boxL {x y : Int} {v : Int × Int} (h : x ≤ y) (t : Int) : vat (boxL x y v) t = if x ≤ t ∧ t < y then v else (0, 0) := by
  unfold boxL
  by_cases c : x = y ∨ v = (0, 0)
  · rw [if_pos c]
    show (0, 0) = _
    rcases c with c | c
    · rw [if_neg (by omega)]
    · rw [c]; split <;> rfl
  · rw [if_neg c]
    unfold vat
    simp only [List.foldl_cons, List.foldl_nil]
    unfold stepV
    by_cases k2 : y ≤ t
    · rw [if_pos k2, if_neg (by omega)]
    · rw [if_neg k2]
      by_cases k : x ≤ t
      · rw [if_pos k, if_pos ⟨k, by omega⟩]
      · rw [if_neg k, if_neg (by omega)]
theorem ends_boxL (x y : Int) (v : Int × Int) : (endsL (boxL x y v)).2.2 = true := by
  unfold boxL
  split
  · rfl
  · rfl
theorem sameB_refl (f : List Sg) : sameB f f = true := decide_eq_true rfl
theorem boxL_len (x y : Int) (v : Int × Int) : (boxL x y v).length ≤ 2 := by unfold boxL; split <;> simp

theorem boxlaw_many (x y : Int) (l : List Sg) (a : Option Addr) (cap : Nat) (w : World) (hl : l.length ≤ 9223372036854775807) (h : 60 < l.length) :
    Calls Try.prog 5 #[.int .i64 x, .int .i64 y, .slice a l.length cap] w fun e w' => e = .returned (.bool true) ∧ Below w.heap.size w w' := by
  have d1 : decide ((60 : Int) < (l.length : Int)) = true := decide_eq_true (by omega)
  go_enter Try.func5, Try.ntmps5
  go_wp2_with (go_at_call 6; ((with_reducible refine (rhead_c _).mono ?_); rintro e w1 ⟨rfl, hb⟩))
  go_ret
  exact ⟨rfl, hb⟩

set_option maxRecDepth 100000 in
set_option maxHeartbeats 8000000 in
theorem boxlaw_few (x y : Int) (l : List Sg) (a : Option Addr) (cap : Nat) (w : World) (h : l.length ≤ 60) (hA : ArgS w a l) :
    Calls Try.prog 5 #[.int .i64 x, .int .i64 y, .slice a l.length cap] w fun e w' => e = .returned (.bool true) ∧ Below w.heap.size w w' := by
  have HA := hidE hA; clear hA
  have d1 : decide ((60 : Int) < (l.length : Int)) = false := decide_eq_false (by omega)
  have d1' : ¬ (60 : Int) < (l.length : Int) := by omega
  go_enter Try.func5, Try.ntmps5
  go_upto_if 25 with fail
  go_cut [25] (fun s25 wx => ∃ m c : Int, s25 = .bool (decide ((0 : Int) < (l.length : Int))) ∧ Blk wx w.heap.size #[.int .i64 m, .int .i64 c] 28 ∧ Below w.heap.size w wx)
  case first =>
    by_cases h0 : l.length = 0
    · have hd : decide ((0 : Int) < (l.length : Int)) = false := decide_eq_false (by omega)
      have hd' : ¬ (0 : Int) < (l.length : Int) := by omega
      clear h0
      go_wp2
      go_meet
      case rel => exact ⟨1, 2, by rw [hd], Blk.made _ _ _, by (repeat (first | exact Below.refl _ _ | assumption | refine balloc ?_ _ | refine below_drewN ?_ _ | refine bstep (by assumption) ?_ | refine bstep (Past.prop _) ?_ | refine Below.setCell ?_ (by first | exact Nat.le_refl _ | (simp; done) | (simp; omega)) _))⟩
    · obtain ⟨b, off, rfl, hb, hc⟩ := HA.out (by omega)
      obtain ⟨c0, c1, c2⟩ := hc.get (i := 0) (by omega)
      have hd : decide ((0 : Int) < (l.length : Int)) = true := decide_eq_true (by omega)
      have hl0 : 0 < l.length := by omega
      have hbn : b ≠ w.heap.size := by omega
      simp at c1 c2
      clear hc h0 c0
      generalize vls l 0 = v at *
      go_wp2
      go_meet
      case rel => exact ⟨v.1, v.2, by rw [hd], Blk.made _ _ _, by (repeat (first | exact Below.refl _ _ | assumption | refine balloc ?_ _ | refine below_drewN ?_ _ | refine bstep (by assumption) ?_ | refine bstep (Past.prop _) ?_ | refine Below.setCell ?_ (by first | exact Nat.le_refl _ | (simp; done) | (simp; omega)) _))⟩
  obtain ⟨m, c, rfl, B7, hb⟩ := hcut
  have HAC := hidE (HA.out.past hb)
  have c70 := B7.cell 0; have c71 := B7.cell 1
  simp at c70 c71
  have z7 := B7.lt
  have HBS := hidE (boxS_cases x y (m, c))
  have HB7 := hidE B7; have HB := hidE hb
  clear B7 hb HA
  go_wp2_with fail
  ((with_reducible refine (box_c x y m c _).mono ?_); rintro e w1 ⟨v1, rfl, hv1, hb1⟩)
  have B7 := HB7.out.past hb1
  have c70 := B7.cell 0; have c71 := B7.cell 1
  simp at c70 c71
  have z7 := B7.lt
  have HB7 := hidE B7
  have HAC := hidE (HAC.out.past hb1)
  have HB := hidE (bstep hb1 HB.out)
  have HV1 := hidE hv1
  clear B7 hb1 hv1
  go_wp2_with fail
  ((with_reducible refine (rbox_c x y m c _).mono ?_); rintro e w2 ⟨v2, rfl, hv2, hb2⟩)
  have B7 := HB7.out.past hb2
  have c70 := B7.cell 0; have c71 := B7.cell 1
  simp at c70 c71
  have z7 := B7.lt
  have hv1 := HV1.out.past hb2
  have HB7 := hidE B7
  have HAC := hidE (HAC.out.past hb2)
  have HB := hidE (bstep hb2 HB.out)
  clear B7 hb2 HV1
  have hgl : (boxS x y (m, c)).1.length ≤ 2 := by
    rcases HBS.out with e | e | e
    · rw [e]; simp
    · rw [e]; simp
    · rw [e.1]; exact boxL_len x y (m, c)
  generalize hg : boxS x y (m, c) = g at *
  obtain ⟨a1, k1, rfl, _, _, hA1⟩ := hv1
  obtain ⟨a2, k2, rfl, _, _, hA2⟩ := hv2
  have HG := hidE hg
  have HA1 := hidE hA1; have HA2 := hidE hA2
  have hge : (g.2 != g.2) = false := by simp
  have hge' : (g.2 == g.2) = true := by simp
  clear hg hA1 hA2
  go_wp2_with fail
  ((with_reducible refine (rsame_c g.1 g.1 a1 a2 k1 k2 _ (by omega) (by omega) HA1.out HA2.out).mono ?_); rintro e w3 ⟨rfl, hb3⟩)
  rw [sameB_refl]
  have B7 := HB7.out.past hb3
  have HB7 := hidE B7
  have HAC := hidE (HAC.out.past hb3)
  have HA1 := hidE (HA1.out.past hb3)
  have HB := hidE (bstep hb3 HB.out)
  clear B7 hb3 HA2 c70 c71 z7
  go_wp2_with fail
  ((with_reducible refine (ends_c l a cap _ (by omega) HAC.out).mono ?_); rintro e w4 ⟨rfl, hb4⟩)
  have HB7 := hidE (HB7.out.past hb4)
  have HAC := hidE (HAC.out.past hb4)
  have HA1 := hidE (HA1.out.past hb4)
  have HB := hidE (bstep hb4 HB.out)
  clear hb4
  go_upto_region 11 with fail
  go_cut [12, 13, 14, 53, 55, 56, 57, 58, 110] (fun _ _ _ _ _ _ _ _ s110 wx => s110 = .bool false ∧ w4 = wx)
  case first =>
    by_cases h0 : l.length = 0
    · have hE : endsL l = (0, 0, true) := by unfold endsL; rw [if_pos h0]
      have hd : ((l.length : Int) == 0) = true := beq_iff_eq.2 (by omega)
      have hd2 : decide ((0 : Int) < (l.length : Int)) = false := decide_eq_false (by omega)
      have hd3 : ¬ (0 : Int) < (l.length : Int) := by omega
      rw [hE]
      clear hE h0
      go_wp2
      go_meet
      case rel => exact ⟨rfl, rfl⟩
    · obtain ⟨k, hk⟩ : ∃ k, l.length = k + 1 := ⟨l.length - 1, by omega⟩
      have hE : endsL l = (ats l 0, ats l k, vls l k == (0, 0)) := by unfold endsL; rw [if_neg h0, hk, Nat.add_sub_cancel]
      obtain ⟨b, off, rfl, hb, hc⟩ := HAC.out (by omega)
      obtain ⟨p0, p1, p2⟩ := hc.get (i := k) (by omega)
      obtain ⟨r0, r1, r2⟩ := hc.get (i := 0) (by omega)
      simp at r0
      have hd : ((l.length : Int) == 0) = false := beq_eq_false_iff_ne.2 (by omega)
      have hd2 : decide ((0 : Int) < (l.length : Int)) = true := decide_eq_true (by omega)
      have hd3 : (0 : Int) < (l.length : Int) := by omega
      have hkz : (l.length : Int) - 1 = (k : Int) := by omega
      have hkl : k < l.length := by omega
      have h0l : 0 < l.length := by omega
      rw [hE]
      clear hE h0 hk hc r1 r2 HAC
      generalize ats l 0 = u0 at *
      generalize ats l k = u at *
      generalize vls l k = v at *
      obtain ⟨v1, v2⟩ := v
      dsimp only at p1 p2
      by_cases e1 : v1 = 0
      · subst e1
        by_cases e2 : v2 = 0
        · subst e2
          have hz : (((0, 0) : Int × Int) == (0, 0)) = true := rfl
          rw [hz]
          go_wp2
          go_meet
          case rel => exact ⟨rfl, rfl⟩
        · have e3 : (v2 == 0) = false := beq_eq_false_iff_ne.2 e2
          have hz : (((0, v2) : Int × Int) == (0, 0)) = false := by simp [e2]
          rw [hz]
          go_wp2
          go_meet
          case rel => exact ⟨rfl, rfl⟩
      · have e3 : (v1 == 0) = false := beq_eq_false_iff_ne.2 e1
        have hz : (((v1, v2) : Int × Int) == (0, 0)) = false := by simp [e1]
        rw [hz]
        go_wp2
        go_meet
        case rel => exact ⟨rfl, rfl⟩
  obtain ⟨rfl, rfl⟩ := hcut
  rcases HBS.out with e | e | ⟨e, hxy, hx, hy, hmay⟩
  · subst e
    go_wp2_with (go_at_call 6; ((with_reducible refine (rhead_c _).mono ?_); rintro e w5 ⟨rfl, hb5⟩))
    go_ret
    exact ⟨rfl, bstep hb5 HB.out⟩
  · subst e
    go_wp2_with (go_at_call 6; ((with_reducible refine (rhead_c _).mono ?_); rintro e w5 ⟨rfl, hb5⟩))
    go_ret
    exact ⟨rfl, bstep hb5 HB.out⟩
  · subst e
    dsimp only at *
    have HMY := hidE hmay
    have HEN := hidE (ends_boxL x y (m, c))
    have hv := fun t => vat_boxL (v := (m, c)) hxy t
    have V3 := hidE (show vat (boxL x y (m, c)) (x - 1) = (0, 0) by rw [hv, if_neg (by omega)])
    have V4 := hidE (show vat (boxL x y (m, c)) y = (0, 0) by rw [hv, if_neg (by omega)])
    have V1 := hidE (show x < y → vat (boxL x y (m, c)) x = (m, c) from fun h => by rw [hv, if_pos ⟨Int.le_refl _, h⟩])
    have V2 := hidE (show x < y → vat (boxL x y (m, c)) (y - 1) = (m, c) from fun h => by rw [hv, if_pos ⟨by omega, by omega⟩])
    clear hv hmay HG HBS
    generalize boxL x y (m, c) = F at *
    have A3 := hidE (fun w h => at_eqv (n := F.length) (l := F) (a := a1) (cap := k1) (t := x - 1) (w := w) (g := (0, 0)) h rfl (by omega) V3.out)
    have A4 := hidE (fun w h => at_eqv (n := F.length) (l := F) (a := a1) (cap := k1) (t := y) (w := w) (g := (0, 0)) h rfl (by omega) V4.out)
    have c70 := HB7.out.cell 0; have c71 := HB7.out.cell 1
    simp at c70 c71
    have z7 := HB7.out.lt
    have hx1 : IntKind.i64.wrap (x - 1) = x - 1 := by rw [IntKind.wrap_i64]; omega
    have hy1 : IntKind.i64.wrap (y - 1) = y - 1 := by rw [IntKind.wrap_i64]; omega
    have HX1 := hidE hx1; have HY1 := hidE hy1
    clear hx1 hy1
    by_cases hlt : x < y
    · have A1 := hidE (fun w h => at_eqv (n := F.length) (l := F) (a := a1) (cap := k1) (t := x) (w := w) (g := (m, c)) h rfl (by omega) (V1.out hlt))
      have A2 := hidE (fun w h => at_eqv (n := F.length) (l := F) (a := a1) (cap := k1) (t := y - 1) (w := w) (g := (m, c)) h rfl (by omega) (V2.out hlt))
      have hdl : decide (x < y) = true := decide_eq_true hlt
      go_wp2_with fail
      refine wp_region_past_lit (by kernel_rfl) (by kernel_rfl) ?_
      have hcp := Past.cell (W := w4)
      repeat (go_big_quiet_step ((first | (go_at_call 8; exact Past.call _ (A1.out _ (HA1.out.past (Past.prop _)))) | (go_at_call 8; exact Past.call _ (A2.out _ (HA1.out.past (Past.prop _)))) | (go_at_call 8; exact Past.call _ (A3.out _ (HA1.out.past (Past.prop _)))) | (go_at_call 8; exact Past.call _ (A4.out _ (HA1.out.past (Past.prop _)))))))
      refine wpQuiet_nil ?_
      rintro _ ⟨x', rfl⟩
      have o1 := bstep x'.2 HB.out
      have o2 := HA1.out.past x'.2
      clear hcp c70 c71
      generalize x'.1 = w5 at *
      have HO1 := hidE o1; have HO2 := hidE o2; clear o1 o2
      go_wp2_with fail
      ((with_reducible refine (ends_c F a1 k1 _ (by omega) HO2.out).mono ?_); rintro e w6 ⟨rfl, hb6⟩)
      rw [HEN.out]
      have HO2 := hidE (HO2.out.past hb6); have HO1 := hidE (bstep hb6 HO1.out); clear hb6
      go_wp2_with fail
      ((with_reducible refine (pmay_c F a1 k1 _ (by omega) HO2.out).mono ?_); rintro e w7 ⟨rfl, hb7⟩)
      rw [HMY.out]
      go_wp2_with (go_at_call 6; ((with_reducible refine (rhead_c _).mono ?_); rintro e w8 ⟨rfl, hb8⟩))
      go_ret
      exact ⟨rfl, bstep hb8 (bstep hb7 HO1.out)⟩
    · have hdl : decide (x < y) = false := decide_eq_false hlt
      go_wp2_with fail
      refine wp_region_past_lit (by kernel_rfl) (by kernel_rfl) ?_
      have hcp := Past.cell (W := w4)
      repeat (go_big_quiet_step ((first | (go_at_call 8; exact Past.call _ (A3.out _ (HA1.out.past (Past.prop _)))) | (go_at_call 8; exact Past.call _ (A4.out _ (HA1.out.past (Past.prop _)))))))
      refine wpQuiet_nil ?_
      rintro _ ⟨x', rfl⟩
      have o1 := bstep x'.2 HB.out
      have o2 := HA1.out.past x'.2
      clear hcp c70 c71
      generalize x'.1 = w5 at *
      have HO1 := hidE o1; have HO2 := hidE o2; clear o1 o2
      go_wp2_with fail
      ((with_reducible refine (ends_c F a1 k1 _ (by omega) HO2.out).mono ?_); rintro e w6 ⟨rfl, hb6⟩)
      rw [HEN.out]
      have HO2 := hidE (HO2.out.past hb6); have HO1 := hidE (bstep hb6 HO1.out); clear hb6
      go_wp2_with fail
      ((with_reducible refine (pmay_c F a1 k1 _ (by omega) HO2.out).mono ?_); rintro e w7 ⟨rfl, hb7⟩)
      rw [HMY.out]
      go_wp2_with (go_at_call 6; ((with_reducible refine (rhead_c _).mono ?_); rintro e w8 ⟨rfl, hb8⟩))
      go_ret
      exact ⟨rfl, bstep hb8 (bstep hb7 HO1.out)⟩
end Go.Proofs.Ytibmldgbimjgfaa
