/- The contract of (slide).over. No conditions but sizes, and that the slices' cells read as integers. The contract of span.Over. No conditions but the list's size, and that the slice's cells read as integers. The contracts of the document's own windows: may, bad, Low, High, Total, Sum. No conditions but the list's size. The contracts of the document's own sum of a window. No conditions but the list's size. The contracts of the document's own last, Near and Over. No conditions but the list's size. For policy's walks: what the layers below hand back, from slices that read as lists. No conditions. The contract of vec.Scale. No conditions but that n is an int64. Package policy: which policies may be, how a question is answered. No conditions but the sizes of the lists. Package policy: how a question is answered. No conditions but the sizes of the lists. Package policy: Least, of a row of policies. No conditions but the row's size. Package policy: Check, of three functions. No conditions but the sizes of the lists. -/
import Derived.Test.YthlepbbdjmmelaaGreatPPGE
import Derived.Test.YthlepbbdjmmelaaGreatPPGD
import Derived.Test.YthlepbbdjmmelaaGreatPPGC
import Derived.Test.YthlepbbdjmmelaaGreatPPMA
import Derived.Test.YthlepbbdjmmelaaGreatPPGA
import Derived.Test.YthlepbbdjmmelaaGreatPPGB
import Derived.Deep.DeepCutAuto
import Derived.LoopTactic
import Derived.Test.YthlepbbdjmmelaaGreatPPMB
namespace Go.Proofs.YthlepbbdjmmelaaGreat
open Go.ChangeShapes Go.WideShapes Go.ChangeAt Go.RowKit Go.Shelf
attribute [local irreducible] Go.Calls

theorem slope_c (a b c d : Int) (w : World) (h1 : -9223372036854775808 ≤ a - c ∧ a - c ≤ 9223372036854775807) (h2 : -9223372036854775808 ≤ b - d ∧ b - d ≤ 9223372036854775807) :
    Calls Tryz.prog 206 #[V a b, .int .i64 (-1), V c d] w fun e w' => e = .returned (V (a - c) (b - d)) ∧ Below w.heap.size w w' := by
  have := along_c a b (-1) c d w (by omega) (by omega)
  rw [show a + -1 * c = a - c by omega, show b + -1 * d = b - d by omega] at this
  exact this
/-- Between two rounds. -/
def OvI (F : List Sg) (x0 : Int) (n : Nat) (l : Int × Int) (w : World) (gh : Nat) (W : World) : Prop :=
  ∃ (z p q : Int) (a1 a2 : Option Addr) (c1 c2 : Nat), x0 ≤ z ∧ z ≤ 1125899906842624 ∧ p ≤ z ∧ q ≤ z + n ∧ (curF F z).length + (curF F (z + n)).length ≤ gh ∧
    Blk W w.heap.size (SLC z n (sumN F z n) (vat F p) (vat F q) (.slice a1 (curF F p).length c1) (.slice a2 (curF F q).length c2)) 256 ∧
    (curF F p).length ≤ c1 ∧ c1 ≤ 9223372036854775807 ∧ (curF F q).length ≤ c2 ∧ c2 ≤ 9223372036854775807 ∧ ArgS w a1 (curF F p) ∧ ArgS w a2 (curF F q) ∧
    Blk W (w.heap.size + 1) #[.int .i64 l.1, .int .i64 l.2] 65 ∧ (∀ s, x0 ≤ s → s < z → overB F n l s = false) ∧ Below w.heap.size w W
/-- What it hands back. -/
def OvR (F : List Sg) (x0 : Int) (n : Nat) (l : Int × Int) (r : Int × Bool) : Prop :=
  (r = (0, false) ∧ ∀ s, x0 ≤ s → overB F n l s = false) ∨ ∃ t, r = (t, true) ∧ x0 ≤ t ∧ overB F n l t = true ∧ ∀ s, x0 ≤ s → s < t → overB F n l s = false

set_option maxRecDepth 100000 in
set_option maxHeartbeats 4000000 in
theorem over_c (F : List Sg) (x0 : Int) (n : Nat) (l : Int × Int) (a : Option Addr) (cap : Nat) (w : World) (hl : F.length ≤ cap) (hc : cap ≤ 9223372036854775807) (hA : ArgS w a F) (hF : Canon F) (hx : -562949953421312 ≤ x0 ∧ x0 ≤ 562949953421312) (hn : n ≤ 4096) (hlo : okV l.1 l.2 = true) :
    Calls Tryz.prog 193 #[.agg (SLC x0 n (sumN F x0 n) (0, 0) (0, 0) (.slice a F.length cap) (.slice a F.length cap)), V l.1 l.2] w fun e w' => (∃ r, e = .returned (.tuple #[.int .i64 r.1, .bool r.2]) ∧ OvR F x0 n l r) ∧ Below w.heap.size w w' := by
  obtain ⟨hfar1, hfar2⟩ := cur_far hF
  go_enter Tryz.func193, Tryz.ntmps193
  go_wp2
  go_step3
  go_wp2
  go_step3
  go_wp2
  go_loopg [4, 5] (F.length + F.length) (fun gh v4 v5 wr => v4 = .int .i64 0 ∧ v5 = .bool false ∧ OvI F x0 n l w gh wr)
  case atStart =>
    refine ⟨rfl, rfl, x0, -1125899906842625, -1125899906842625, a, a, cap, cap, by omega, by omega, by omega, by omega, ?_, ?_, by rw [hfar1]; exact hl, hc, by rw [hfar1]; exact hl, hc, by rw [hfar1]; exact hA, by rw [hfar1]; exact hA, Blk.made_at _ _ _ _ (by simp), fun s h1 h2 => by omega, by (repeat (first | exact Below.refl _ _ | assumption | refine balloc ?_ _ | refine below_drewN ?_ _ | refine bstep (by assumption) ?_ | refine bstep (Past.prop _) ?_ | refine Below.setCell ?_ (by first | exact Nat.le_refl _ | (simp; done) | (simp; omega)) _))⟩
    · have := curF_len F x0
      have := curF_len F (x0 + n)
      omega
    · rw [hfar1, hfar2]
      exact (Blk.made _ _ _).alloc _
  case round =>
    obtain ⟨rfl, rfl, z, p, q, a1, a2, c1, c2, hz0, hz1, hpz, hqz, hgh, hB, l1, l2, l3, l4, hA1, hA2, hB2, hno, hb⟩ := hrel
    have HB := hidE hB; have HB2 := hidE hB2; have HNO := hidE hno; have HBE := hidE hb; have HGH := hidE hgh
    have HMT := hidE (mvtail_c (curF F p) z n z (sumN F z n) (vat F p) (vat F q) (.slice a2 (curF F q).length c2) w.heap.size a1 c1 w wr l1 l2 hA1 hb (Nat.le_refl _) hB)
    rw [move_f hF hpz, move_v hF hpz] at HMT
    have t0 := hB.cell 0; have tz := hB.lt
    simp at t0
    clear hB hno hb hgh hB2
    obtain ⟨wo, hwo⟩ : ∃ wo : World, wo = wr := ⟨_, rfl⟩
    go_wp2_with fail
    ((with_reducible refine (HMT.out).mono ?_); rintro e w3 ⟨⟨v3, rfl⟩, ⟨a3, c3, hB3, l5, l6, hA3⟩, hg3⟩)
    have HMH := hidE (mvhead_c (curF F q) z n (z + n) (sumN F z n) (vat F q) (vat F z) (.slice a3 (curF F z).length c3) w.heap.size a2 c2 w w3 l3 l4 hA2 (HBE.out.grown hg3 HBE.out.size (fun k e => by cases e; exact Nat.le_refl _)) (Nat.le_refl _) hB3)
    rw [move_f hF hqz, move_v hF hqz] at HMH
    have hg3' := hidE hg3
    clear t0 tz
    have t0 := hB3.cell 0; have t1 := hB3.cell 1; have tz := hB3.lt
    simp at t0 t1
    clear hg3 hB3
    go_wp2_with fail
    ((with_reducible refine (HMH.out).mono ?_); rintro e w4 ⟨⟨v4, rfl⟩, ⟨a4, c4, hB4, l7, l8, hA4⟩, hg4⟩)
    have hB4' := hidE hB4; have hg4' := hidE hg4
    -- names
    have hsp := straight_spec hF (x := z) (n := (n : Int)) (by omega)
    have hst := slide_step (F := F) (x0 := x0) (x := z) (n := n) (l := l) hF (by omega) hz0 HNO.out
    have HSM := hidE (sumN_le (CF.ok hF) z n)
    have HSM2 := hidE (fun t => sumN_le (CF.ok hF) t n)
    have HV1 := hidE (okV_iff.1 (vat_ok (CF.ok hF) z)); have HV2 := hidE (okV_iff.1 (vat_ok (CF.ok hF) (z + n)))
    have HSP := hidE hsp; have HST := hidE hst
    have HC1 := hidE (fun h => cur_in hF (s := z) h); have HC2 := hidE (fun h => cur_in hF (s := z + n) h)
    have HLO := hidE (okV_iff.1 hlo)
    have HSTR := hidE (straight_is F z n)
    clear hsp hst t0 t1 tz
    have hbe4 : Below w.heap.size w w4 := HBE.out.grown (grown_trans hg3'.out hg4) HBE.out.size (fun k e => by cases e; exact Nat.le_refl _)
    have hB24 : Blk w4 (w.heap.size + 1) #[.int .i64 l.1, .int .i64 l.2] 65 := HB2.out.grown (grown_trans hg3'.out hg4) (by simp)
    have HBE4 := hidE hbe4; have HB24 := hidE hB24
    clear hg4 hB4 hbe4 hB24
    change Hid (straightI F z n = straightL (curF F z) (curF F (z + n)) z n) at HSTR
    unfold riseI at HST
    have hpar : ∀ (fz fq : List Sg) (sm vv uu : Int × Int), fz = curF F z → fq = curF F (z + n) → sm = sumN F z n → vv = vat F z → uu = vat F (z + n) → True := fun _ _ _ _ _ _ _ _ _ _ => trivial
    clear hpar
    obtain ⟨fz, hfz⟩ : ∃ fz, fz = curF F z := ⟨_, rfl⟩
    obtain ⟨fq, hfq⟩ : ∃ fq, fq = curF F (z + n) := ⟨_, rfl⟩
    obtain ⟨sm, hsm⟩ : ∃ sm, sm = sumN F z n := ⟨_, rfl⟩
    obtain ⟨vv, hvv⟩ : ∃ vv, vv = vat F z := ⟨_, rfl⟩
    obtain ⟨uu, huu⟩ : ∃ uu, uu = vat F (z + n) := ⟨_, rfl⟩
    obtain ⟨tk, htk⟩ : ∃ tk, tk = straightI F z n := ⟨_, rfl⟩
    rw [← hfz, ← hfq, ← hsm, ← hvv, ← huu] at hB4'
    rw [← hfz] at hA3 l5 HC1
    rw [← hfq] at hA4 l7 HC2
    rw [← htk, ← hsm, ← hvv, ← huu] at HST
    rw [← htk, ← hfz, ← hfq, ← hvv, ← huu] at HSP
    rw [← htk, ← hfz, ← hfq] at HSTR
    rw [← hsm] at HSM
    rw [← hvv] at HV1
    rw [← huu] at HV2
    have HFZ := hidE hfz; have HFQ := hidE hfq; have HSMM := hidE hsm; have HVV := hidE hvv; have HUU := hidE huu; have HTKK := hidE htk
    clear hfz hfq hsm hvv huu htk
    have hm1 := HSM.out; have hv1 := HV1.out; have hv2 := HV2.out; have hlo1 := HLO.out
    have hnn : (n : Int) ≤ 4096 := by omega
    have hmm : (1125899906842624 : Int) * (n : Int) ≤ 4611686018427387904 := by omega
    have HSLO := hidE (fun w => slope_c uu.1 uu.2 vv.1 vv.2 w (by omega) (by omega))
    have HTK := hidE (fun (w' : World) (hb : Below w4.heap.size w4 w') => show Calls Tryz.prog 208 #[.agg (SLC z n sm vv uu (.slice a3 fz.length c3) (.slice a4 fq.length c4))] w' (fun e w'' => e = .returned (.int .i64 tk) ∧ Below w'.heap.size w' w'') from by
      have := straight_c fz fq z n sm vv uu a3 a4 c3 c4 w' (by omega) (by omega) (hA3.past (bstep hb HBE4.out)) (hA4.past (bstep hb HBE4.out)) (by omega) (by omega) HC1.out HC2.out
      rw [← HSTR.out] at this; exact this)
    have HRA := hidE (fun w => same_below (above_c sm.1 (uu.1 - vv.1) l.1 w (by omega) (by omega)))
    have HRB := hidE (fun w => same_below (above_c sm.2 (uu.2 - vv.2) l.2 w (by omega) (by omega)))
    have HRG := hidE (show 0 ≤ mn (abvI sm.1 (uu.1 - vv.1) l.1) (abvI sm.2 (uu.2 - vv.2) l.2) from rise_ge (s := sm) (v := uu) (w := vv) (l := l))
    generalize abvI sm.1 (uu.1 - vv.1) l.1 = ra at *
    generalize abvI sm.2 (uu.2 - vv.2) l.2 = rb at *
    have HA3 := hidE hA3; have HA4 := hidE hA4
    have HRR := hidE (And.intro (And.intro l5 l6) (And.intro l7 l8))
    have HR1 := hidE (And.intro (And.intro hz0 hz1) (And.intro hx hn))
    have k0 := hB4'.out.cell 0; have k1 := hB4'.out.cell 1; have k2 := hB4'.out.cell 2; have k3 := hB4'.out.cell 3; have k4 := hB4'.out.cell 4; have k5 := hB4'.out.cell 5; have k6 := hB4'.out.cell 6; have k7 := hB4'.out.cell 7; have k8 := hB4'.out.cell 8; have k9 := hB4'.out.cell 9; have kz := hB4'.out.lt
    simp at k0 k1 k2 k3 k4 k5 k6 k7 k8 k9
    clear hA3 hA4 hm1 hv1 hv2 hlo1 hmm hnn HSM HV1 HV2 HLO HSTR HC1 HC2 l5 l6 l7 l8 l1 l2 l3 l4 hA1 hA2 HMT HMH hz0 hz1 hx hn hpz hqz hfar1 hfar2 hA hl hc hwo
    go_upto_region 3 with fail
    go_cut [6, 7] (fun s6 s7 wx => ∃ p6 : Nat, s6 = .pointer (some ⟨p6, 0, none⟩) ∧ s7 = .int .i64 tk ∧ w4.heap.size ≤ p6 ∧ Blk wx p6 #[.int .i64 (uu.1 - vv.1), .int .i64 (uu.2 - vv.2)] 65 ∧ Below w4.heap.size w4 wx)
    case first =>
      refine wp_region_J 10 [] (nthR [detR (.pointer (some ⟨w.heap.size, 7, none⟩)), detR (.pointer (some ⟨w.heap.size, 7, none⟩)), detR (V uu.1 uu.2), detR (.pointer (some ⟨w.heap.size, 4, none⟩)), detR (.pointer (some ⟨w.heap.size, 4, none⟩)), detR (V vv.1 vv.2), detR (V (uu.1 - vv.1) (uu.2 - vv.2)), detR (.agg (SLC z n sm vv uu (.slice a3 fz.length c3) (.slice a4 fq.length c4))), detR (.int .i64 tk), newR w4.heap.size #[.int .i64 0, .int .i64 0] 65]) (fun _ => false) (by kernel_rfl) (by simp) (by kernel_rfl) (stab_nth (by simp [stab_det, stab_new])) ?_ ?_ ?_
      · intro i o hi ho
        match i, hi with
        | 0, _ =>
          obtain rfl := Option.some.inj ho
          intro u' x' hd
          have hc := Past.cell x'
          simp [go_sem, gives, frm, Act.put, nthR, detR, Region.wanted, Below.refl]
        | 1, _ =>
          obtain rfl := Option.some.inj ho
          intro u' x' hd
          have hc := Past.cell x'
          have d0 := hd 0 (by decide) (by kernel_rfl)
          simp only [nthR, detR, List.getD_cons_zero] at d0
          simp [go_sem, gives, frm, Act.put, nthR, detR, Region.wanted, Below.refl, d0]
        | 2, _ =>
          obtain rfl := Option.some.inj ho
          intro u' x' hd
          have hc := Past.cell x'
          have d1 := hd 1 (by decide) (by kernel_rfl)
          simp only [nthR, detR, List.getD_cons_zero, List.getD_cons_succ] at d1
          simp [go_sem, gives, frm, Act.put, nthR, detR, Region.wanted, Below.refl, hc, d1, k7, k8, kz]
        | 3, _ =>
          obtain rfl := Option.some.inj ho
          intro u' x' hd
          have hc := Past.cell x'
          simp [go_sem, gives, frm, Act.put, nthR, detR, Region.wanted, Below.refl]
        | 4, _ =>
          obtain rfl := Option.some.inj ho
          intro u' x' hd
          have hc := Past.cell x'
          have d3 := hd 3 (by decide) (by kernel_rfl)
          simp only [nthR, detR, List.getD_cons_zero, List.getD_cons_succ] at d3
          simp [go_sem, gives, frm, Act.put, nthR, detR, Region.wanted, Below.refl, d3]
        | 5, _ =>
          obtain rfl := Option.some.inj ho
          intro u' x' hd
          have hc := Past.cell x'
          have d4 := hd 4 (by decide) (by kernel_rfl)
          simp only [nthR, detR, List.getD_cons_zero, List.getD_cons_succ] at d4
          simp [go_sem, gives, frm, Act.put, nthR, detR, Region.wanted, Below.refl, hc, d4, k4, k5, kz]
        | 6, _ =>
          obtain rfl := Option.some.inj ho
          intro u' x' hd
          have hc := Past.cell x'
          have d2 := hd 2 (by decide) (by kernel_rfl)
          have d5 := hd 5 (by decide) (by kernel_rfl)
          simp only [nthR, detR, List.getD_cons_zero, List.getD_cons_succ] at d2 d5
          simp [go_sem, gives, frm, Act.put, nthR, detR, Region.wanted, d2, d5]
          exact HSLO.out _
        | 7, _ =>
          obtain rfl := Option.some.inj ho
          intro u' x' hd
          have hc := Past.cell x'
          simp [go_sem, gives, frm, Act.put, nthR, detR, Region.wanted, Below.refl, hc, k0, k1, k2, k3, k4, k5, k6, k7, k8, k9, kz]
        | 8, _ =>
          obtain rfl := Option.some.inj ho
          intro u' x' hd
          have hc := Past.cell x'
          have d7 := hd 7 (by decide) (by kernel_rfl)
          simp only [nthR, detR, List.getD_cons_zero, List.getD_cons_succ] at d7
          simp [go_sem, gives, frm, Act.put, nthR, detR, Region.wanted, d7]
          exact HTK.out _ x'.2
        | 9, _ =>
          obtain rfl := Option.some.inj ho
          intro u' x' hd
          have hc := Past.cell x'
          simp [go_sem, gives, nthR, Region.wanted]
          exact ⟨by (repeat (first | exact Below.refl _ _ | assumption | refine balloc ?_ _ | refine below_drewN ?_ _ | refine bstep (by assumption) ?_ | refine bstep (Past.prop _) ?_ | refine Below.setCell ?_ (by first | exact Nat.le_refl _ | (simp; done) | (simp; omega)) _)), ⟨_, rfl, by simpa using x'.2.size, Blk.made _ _ _⟩⟩
        | i + 10, h => exact absurd h (by omega)
      · intro i o h; cases h
      · intro u' x' hu hne
        have d6 := hu 6 (by decide); have d8 := hu 8 (by decide)
        obtain ⟨p, h9, l9, B9⟩ : newR _ _ _ _ _ := hu 9 (by decide)
        simp only [nthR, detR, List.getD_cons_zero, List.getD_cons_succ] at d6 d8
        have g0 := B9.cell 0; have g1 := B9.cell 1; have f9 := B9.free; have z9 := B9.lt
        simp at g0 g1
        simp only [frm, List.take, Act.put, d6, d8, h9]
        clear d6 d8 hu hne
        have hx' := x'.2
        go_wp2
        go_meet
        case rel => exact ⟨p, rfl, rfl, l9, by simpa using (B9.set 0 (.int .i64 (uu.1 - vv.1))).set 1 (.int .i64 (uu.2 - vv.2)), (hx'.setCell (p := ⟨p, 0, none⟩) l9 _).setCell (p := ⟨p, 1, none⟩) l9 _⟩
    obtain ⟨p6, rfl, rfl, l6, B6, hb6⟩ := hcut
    have hB5 := hB4'.out.past hb6
    have hL5 := HB24.out.past hb6
    have hbe5 := bstep hb6 HBE4.out
    have hz6 : wc.heap.size ≤ wc.heap.size := Nat.le_refl _
    have HB5 := hidE hB5; have HL5 := hidE hL5; have HBE5 := hidE hbe5; have HB6 := hidE B6; have HB66 := hidE hb6
    clear k0 k1 k2 k3 k4 k5 k6 k7 k8 k9 kz hz6
    have k2 := hB5.cell 2; have k3 := hB5.cell 3; have kz := hB5.lt; have l0 := hL5.cell 0; have l1 := hL5.cell 1; have lz := hL5.lt; have b0 := B6.cell 0; have b1 := B6.cell 1; have bz := B6.lt
    simp at k2 k3 l0 l1 b0 b1
    clear hB5 hL5 hbe5 hb6 B6 HTK HSLO
    obtain ⟨w5, hw5⟩ : ∃ w5 : World, w5 = wc := ⟨_, rfl⟩
    go_upto_region 4 with fail
    go_cut [8] (fun s8 wx => s8 = .int .i64 (mn ra rb) ∧ Below w5.heap.size w5 wx)
    case first =>
      subst hw5
      refine wp_region_J 16 [] (nthR [detR (.pointer (some ⟨w.heap.size, 2, none⟩)), detR (.pointer (some ⟨w.heap.size, 2, none⟩)), detR (.int .i64 sm.1), detR (.pointer (some ⟨p6, 0, none⟩)), detR (.int .i64 (uu.1 - vv.1)), detR (.pointer (some ⟨(w.heap.size + 1), 0, none⟩)), detR (.int .i64 l.1), detR (.int .i64 ra), detR (.pointer (some ⟨w.heap.size, 2, none⟩)), detR (.pointer (some ⟨w.heap.size, 3, none⟩)), detR (.int .i64 sm.2), detR (.pointer (some ⟨p6, 1, none⟩)), detR (.int .i64 (uu.2 - vv.2)), detR (.pointer (some ⟨(w.heap.size + 1), 1, none⟩)), detR (.int .i64 l.2), detR (.int .i64 rb)]) (fun _ => false) (by kernel_rfl) (by simp) (by kernel_rfl) (stab_nth (by simp [stab_det])) ?_ ?_ ?_
      · intro i o hi ho
        match i, hi with
        | 0, _ =>
          obtain rfl := Option.some.inj ho
          intro u' x' hd
          have hc := Past.cell x'
          simp [go_sem, gives, frm, Act.put, nthR, detR, Region.wanted, Below.refl]
        | 1, _ =>
          obtain rfl := Option.some.inj ho
          intro u' x' hd
          have hc := Past.cell x'
          have d0 := hd 0 (by decide) (by kernel_rfl)
          simp only [nthR, detR, List.getD_cons_zero] at d0
          simp [go_sem, gives, frm, Act.put, nthR, detR, Region.wanted, Below.refl, d0]
        | 2, _ =>
          obtain rfl := Option.some.inj ho
          intro u' x' hd
          have hc := Past.cell x'
          have d1 := hd 1 (by decide) (by kernel_rfl)
          simp only [nthR, detR, List.getD_cons_zero, List.getD_cons_succ] at d1
          simp [go_sem, gives, frm, Act.put, nthR, detR, Region.wanted, Below.refl, hc, d1, k2, kz]
        | 3, _ =>
          obtain rfl := Option.some.inj ho
          intro u' x' hd
          have hc := Past.cell x'
          simp [go_sem, gives, frm, Act.put, nthR, detR, Region.wanted, Below.refl]
        | 4, _ =>
          obtain rfl := Option.some.inj ho
          intro u' x' hd
          have hc := Past.cell x'
          have d3 := hd 3 (by decide) (by kernel_rfl)
          simp only [nthR, detR, List.getD_cons_zero, List.getD_cons_succ] at d3
          simp [go_sem, gives, frm, Act.put, nthR, detR, Region.wanted, Below.refl, hc, d3, b0, bz]
        | 5, _ =>
          obtain rfl := Option.some.inj ho
          intro u' x' hd
          have hc := Past.cell x'
          simp [go_sem, gives, frm, Act.put, nthR, detR, Region.wanted, Below.refl]
        | 6, _ =>
          obtain rfl := Option.some.inj ho
          intro u' x' hd
          have hc := Past.cell x'
          have d5 := hd 5 (by decide) (by kernel_rfl)
          simp only [nthR, detR, List.getD_cons_zero, List.getD_cons_succ] at d5
          simp [go_sem, gives, frm, Act.put, nthR, detR, Region.wanted, Below.refl, hc, d5, l0, lz]
        | 7, _ =>
          obtain rfl := Option.some.inj ho
          intro u' x' hd
          have hc := Past.cell x'
          have d2 := hd 2 (by decide) (by kernel_rfl)
          have d4 := hd 4 (by decide) (by kernel_rfl)
          have d6 := hd 6 (by decide) (by kernel_rfl)
          simp only [nthR, detR, List.getD_cons_zero, List.getD_cons_succ] at d2 d4 d6
          simp [go_sem, gives, frm, Act.put, nthR, detR, Region.wanted, d2, d4, d6]
          exact HRA.out _
        | 8, _ =>
          obtain rfl := Option.some.inj ho
          intro u' x' hd
          have hc := Past.cell x'
          simp [go_sem, gives, frm, Act.put, nthR, detR, Region.wanted, Below.refl]
        | 9, _ =>
          obtain rfl := Option.some.inj ho
          intro u' x' hd
          have hc := Past.cell x'
          have d8 := hd 8 (by decide) (by kernel_rfl)
          simp only [nthR, detR, List.getD_cons_zero, List.getD_cons_succ] at d8
          simp [go_sem, gives, frm, Act.put, nthR, detR, Region.wanted, Below.refl, d8]
        | 10, _ =>
          obtain rfl := Option.some.inj ho
          intro u' x' hd
          have hc := Past.cell x'
          have d9 := hd 9 (by decide) (by kernel_rfl)
          simp only [nthR, detR, List.getD_cons_zero, List.getD_cons_succ] at d9
          simp [go_sem, gives, frm, Act.put, nthR, detR, Region.wanted, Below.refl, hc, d9, k3, kz]
        | 11, _ =>
          obtain rfl := Option.some.inj ho
          intro u' x' hd
          have hc := Past.cell x'
          simp [go_sem, gives, frm, Act.put, nthR, detR, Region.wanted, Below.refl]
        | 12, _ =>
          obtain rfl := Option.some.inj ho
          intro u' x' hd
          have hc := Past.cell x'
          have d11 := hd 11 (by decide) (by kernel_rfl)
          simp only [nthR, detR, List.getD_cons_zero, List.getD_cons_succ] at d11
          simp [go_sem, gives, frm, Act.put, nthR, detR, Region.wanted, Below.refl, hc, d11, b1, bz]
        | 13, _ =>
          obtain rfl := Option.some.inj ho
          intro u' x' hd
          have hc := Past.cell x'
          simp [go_sem, gives, frm, Act.put, nthR, detR, Region.wanted, Below.refl]
        | 14, _ =>
          obtain rfl := Option.some.inj ho
          intro u' x' hd
          have hc := Past.cell x'
          have d13 := hd 13 (by decide) (by kernel_rfl)
          simp only [nthR, detR, List.getD_cons_zero, List.getD_cons_succ] at d13
          simp [go_sem, gives, frm, Act.put, nthR, detR, Region.wanted, Below.refl, hc, d13, l1, lz]
        | 15, _ =>
          obtain rfl := Option.some.inj ho
          intro u' x' hd
          have hc := Past.cell x'
          have d10 := hd 10 (by decide) (by kernel_rfl)
          have d12 := hd 12 (by decide) (by kernel_rfl)
          have d14 := hd 14 (by decide) (by kernel_rfl)
          simp only [nthR, detR, List.getD_cons_zero, List.getD_cons_succ] at d10 d12 d14
          simp [go_sem, gives, frm, Act.put, nthR, detR, Region.wanted, d10, d12, d14]
          exact HRB.out _
        | i + 16, h => exact absurd h (by omega)
      · intro i o h; cases h
      · intro u' x' hu hne
        have d7 := hu 7 (by decide); have d15 := hu 15 (by decide)
        simp only [nthR, detR, List.getD_cons_zero, List.getD_cons_succ] at d7 d15
        simp only [frm, List.take, Act.put, d7, d15]
        clear d7 d15 hu hne
        have hx' := x'.2
        generalize x'.1 = w6 at *
        by_cases hab : ra ≤ rb
        · have hmn : mn ra rb = ra := by rw [mn_min]; omega
          have HMN := hidE hmn
          clear hmn
          go_wp2
          go_meet
          case rel => exact ⟨by rw [HMN.out], hx'⟩
        · have hmn : mn ra rb = rb := by rw [mn_min]; omega
          have hab2 : rb ≤ ra := by omega
          have HMN := hidE hmn
          clear hmn
          go_wp2
          go_meet
          case rel => exact ⟨by rw [HMN.out], hx'⟩
    obtain ⟨rfl, hb7⟩ := hcut
    subst hw5
    have hb7' := hb7
    have hB7 := HB5.out.past hb7
    have h67 := HB6.out.past hb7
    have hbe7 := bstep hb7 HBE5.out
    have HB7 := hidE hB7; have HBE7 := hidE hbe7
    clear k2 k3 kz l0 l1 lz b0 b1 bz
    have k0 := hB7.cell 0; have k2 := hB7.cell 2; have k3 := hB7.cell 3; have kz := hB7.lt; have kf := hB7.free; have b0 := h67.cell 0; have b1 := h67.cell 1; have bz := h67.lt
    simp at k0 k2 k3 b0 b1
    clear hB7 h67 hbe7 hb7 HRA HRB
    obtain ⟨⟨hz0, hz1⟩, hx, hn⟩ := HR1.out
    obtain ⟨q1, q2, q3⟩ := HST.out
    have hrr : 0 ≤ mn ra rb := HRG.out
    generalize mn ra rb = R at *
    have htk : 0 ≤ tk ∧ z + tk ≤ 1125899906842624 := by
      rcases HSP.out with h | h
      · omega
      · omega
    by_cases hle : R ≤ tk
    · have HQ := hidE (q1 hle)
      have e1 : decide (R ≤ tk) = true := decide_eq_true hle
      clear q1 q2 q3
      go_wp2
      rw [Exit.noGoto_ret]
      go_ret2
      exact ⟨⟨(z + R, true), rfl, .inr ⟨z + R, rfl, HQ.out⟩⟩, HBE7.out⟩
    · have e1 : decide (R ≤ tk) = false := decide_eq_false hle
      by_cases h0 : tk = 0
      · have HQ := hidE (q2 (by omega) h0)
        have e2 : (tk == 0) = true := beq_iff_eq.2 h0
        clear q1 q2 q3
        go_wp2
        try rw [Exit.noGoto_ret]
        go_ret2
        exact ⟨⟨(0, false), rfl, .inl ⟨rfl, HQ.out⟩⟩, HBE7.out⟩
      · have HQ := hidE (q3 (by omega) h0)
        have e2 : (tk == 0) = false := beq_eq_false_iff_ne.2 h0
        clear q1 q2 q3
        have hs := HSM2.out (z + tk)
        rw [HQ.out.1] at hs
        have hnn : (n : Int) ≤ 4096 := by omega
        have hmm : (1125899906842624 : Int) * (n : Int) ≤ 4611686018427387904 := by omega
        have HAL := hidE (fun w => along_c sm.1 sm.2 tk (uu.1 - vv.1) (uu.2 - vv.2) w (by simp only at hs; omega) (by simp only at hs; omega))
        have WRZ := hidE (show IntKind.i64.wrap (z + tk) = z + tk from IntWalk.i64_in _ (by omega))
        clear hs hnn hmm
        obtain ⟨w7, hw7⟩ : ∃ w7 : World, w7 = wc := ⟨_, rfl⟩
        go_upto_region 8 with fail
        subst hw7
        refine wp_region_J 9 [] (nthR [detR (.pointer (some ⟨w.heap.size, 0, none⟩)), detR (.int .i64 z), detR (.int .i64 tk), detR (.int .i64 (z + tk)), detR (.pointer (some ⟨w.heap.size, 2, none⟩)), detR (V sm.1 sm.2), detR (.int .i64 tk), detR (V (uu.1 - vv.1) (uu.2 - vv.2)), detR (V (sm.1 + tk * (uu.1 - vv.1)) (sm.2 + tk * (uu.2 - vv.2)))]) (fun _ => false) (by kernel_rfl) (by simp) (by kernel_rfl) (stab_nth (by simp [stab_det])) ?_ ?_ ?_
        · intro i o hi ho
          match i, hi with
          | 0, _ =>
            obtain rfl := Option.some.inj ho
            intro u' x' hd
            have hc := Past.cell x'
            simp [go_sem, gives, frm, Act.put, nthR, detR, Region.wanted, Below.refl]
          | 1, _ =>
            obtain rfl := Option.some.inj ho
            intro u' x' hd
            have hc := Past.cell x'
            have d0 := hd 0 (by decide) (by kernel_rfl)
            simp only [nthR, detR, List.getD_cons_zero] at d0
            simp [go_sem, gives, frm, Act.put, nthR, detR, Region.wanted, Below.refl, hc, d0, k0, kz]
          | 2, _ =>
            obtain rfl := Option.some.inj ho
            intro u' x' hd
            have hc := Past.cell x'
            simp [go_sem, gives, frm, Act.put, nthR, detR, Region.wanted, Below.refl]
          | 3, _ =>
            obtain rfl := Option.some.inj ho
            intro u' x' hd
            have hc := Past.cell x'
            have d1 := hd 1 (by decide) (by kernel_rfl)
            have d2 := hd 2 (by decide) (by kernel_rfl)
            simp only [nthR, detR, List.getD_cons_zero, List.getD_cons_succ] at d1 d2
            simp [go_sem, gives, frm, Act.put, nthR, detR, Region.wanted, Below.refl, d1, d2, WRZ.out]
          | 4, _ =>
            obtain rfl := Option.some.inj ho
            intro u' x' hd
            have hc := Past.cell x'
            simp [go_sem, gives, frm, Act.put, nthR, detR, Region.wanted, Below.refl]
          | 5, _ =>
            obtain rfl := Option.some.inj ho
            intro u' x' hd
            have hc := Past.cell x'
            have d4 := hd 4 (by decide) (by kernel_rfl)
            simp only [nthR, detR, List.getD_cons_zero, List.getD_cons_succ] at d4
            simp [go_sem, gives, frm, Act.put, nthR, detR, Region.wanted, Below.refl, hc, d4, k2, k3, kz]
          | 6, _ =>
            obtain rfl := Option.some.inj ho
            intro u' x' hd
            have hc := Past.cell x'
            simp [go_sem, gives, frm, Act.put, nthR, detR, Region.wanted, Below.refl]
          | 7, _ =>
            obtain rfl := Option.some.inj ho
            intro u' x' hd
            have hc := Past.cell x'
            simp [go_sem, gives, frm, Act.put, nthR, detR, Region.wanted, Below.refl, hc, b0, b1, bz]
          | 8, _ =>
            obtain rfl := Option.some.inj ho
            intro u' x' hd
            have hc := Past.cell x'
            have d5 := hd 5 (by decide) (by kernel_rfl)
            have d6 := hd 6 (by decide) (by kernel_rfl)
            have d7 := hd 7 (by decide) (by kernel_rfl)
            simp only [nthR, detR, List.getD_cons_zero, List.getD_cons_succ] at d5 d6 d7
            simp [go_sem, gives, frm, Act.put, nthR, detR, Region.wanted, d5, d6, d7]
            exact HAL.out _
          | i + 9, h => exact absurd h (by omega)
        · intro i o h; cases h
        · intro u' x' hu hne
          have d3 := hu 3 (by decide); have d8 := hu 8 (by decide)
          simp only [nthR, detR, List.getD_cons_zero, List.getD_cons_succ] at d3 d8
          simp only [frm, List.take, Act.put, d3, d8]
          clear d3 d8 hu hne
          have hb8 : Below w7.heap.size w7 x'.1 := x'.2
          generalize x'.1 = w8 at *
          have hB8 := HB7.out.past hb8
          have HB8 := hidE hB8
          have HBE8 := hidE (bstep hb8 HBE7.out)
          have HB28 := hidE ((HL5.out.past hb7').past hb8)
          clear k0 k2 k3 kz kf b0 b1 bz
          have k0 := hB8.cell 0; have k2 := hB8.cell 2; have k3 := hB8.cell 3; have kz := hB8.lt; have kf := hB8.free
          simp at k0 k2 k3
          clear hB8 hb8
          go_wp2
          go_roundg ((curF F (z + tk)).length + (curF F (z + tk + n)).length)
          case measure =>
            have := HGH.out
            rw [← HFZ.out, ← HFQ.out] at this
            rcases HSP.out with h | h
            · omega
            · have := h.2.2.2.2; omega
          case rel =>
            refine ⟨rfl, rfl, z + tk, z, z + n, a3, a4, c3, c4, by omega, htk.2, by omega, by omega, Nat.le_refl _, ?_, ?_, HRR.out.1.2, ?_, HRR.out.2.2, ?_, ?_, ?_, HQ.out.2, ?_⟩
            · rw [← HFZ.out, ← HFQ.out, ← HVV.out, ← HUU.out, HQ.out.1]
              have q := ((HB8.out.set 0 (.int .i64 (z + tk))).set 2 (.int .i64 (sm.1 + tk * (uu.1 - vv.1)))).set 3 (.int .i64 (sm.2 + tk * (uu.2 - vv.2)))
              simpa using q
            · rw [← HFZ.out]; exact HRR.out.1.1
            · rw [← HFQ.out]; exact HRR.out.2.1
            · rw [← HFZ.out]; exact HA3.out
            · rw [← HFQ.out]; exact HA4.out
            · exact ((HB28.out.other (by omega) _).other (by omega) _).other (by omega) _
            · exact ((HBE8.out.setCell (p := ⟨w.heap.size, 0, none⟩) (Nat.le_refl _) _).setCell (p := ⟨w.heap.size, 2, none⟩) (Nat.le_refl _) _).setCell (p := ⟨w.heap.size, 3, none⟩) (Nat.le_refl _) _
end Go.Proofs.YthlepbbdjmmelaaGreat

namespace Go.Proofs.YthlepbbdjmmelaaGreat
open Go.ChangeShapes Go.WideShapes Go.ChangeAt Go.RowKit Go.Shelf
attribute [local irreducible] Go.Calls

set_option maxRecDepth 100000 in
set_option maxHeartbeats 2000000 in
theorem overP_c (F : List Sg) (x n l1 l2 : Int) (a : Option Addr) (cap : Nat) (w : World) (hl : F.length ≤ cap) (hc : cap ≤ 9223372036854775807) (hl2 : F.length ≤ 999999990) (hA : ArgS w a F) :
    Calls Tryz.prog 171 #[.slice a F.length cap, .int .i64 x, .int .i64 n, V l1 l2] w fun e w' => e = .returned (T3 (overS F x n (l1, l2))) ∧ Below w.heap.size w w' := by
  have HA := hidE hA; clear hA
  have HV := hidE (fun w hA => pmay_c F a cap w (by omega) hA)
  cases hm : mayB F
  · rw [overS_form hm]
    rw [hm] at HV
    clear hm
    go_enter Tryz.func171, Tryz.ntmps171
    go_wp2_with fail
    ((with_reducible refine (HV.out _ (HA.out.past (by (repeat (first | exact Below.refl _ _ | assumption | refine balloc ?_ _ | refine below_drewN ?_ _ | refine bstep (by assumption) ?_ | refine bstep (Past.prop _) ?_ | refine Below.setCell ?_ (by first | exact Nat.le_refl _ | (simp; done) | (simp; omega)) _))))).mono ?_); rintro e w1 ⟨rfl, hb1⟩)
    go_wp2
    refine bodyPost_ret (v := T3 (0, false, 5)) (by simp [results, Tryz.results171, go_sem]) rfl ⟨rfl, ?_⟩
    (repeat (first | exact Below.refl _ _ | assumption | refine balloc ?_ _ | refine below_drewN ?_ _ | refine bstep (by assumption) ?_ | refine bstep (Past.prop _) ?_ | refine Below.setCell ?_ (by first | exact Nat.le_refl _ | (simp; done) | (simp; omega)) _))
  rw [hm] at HV
  cases hg : overArg x n
  · rw [overS_arg hm hg]
    have hq := overArg_not hg
    clear hm hg
    rcases hq with h | ⟨h, h2⟩ | ⟨h, h2, h3⟩ | ⟨h, h2, h3, h4⟩
    · have e1 : decide (n < 1) = true := decide_eq_true h
      go_enter Tryz.func171, Tryz.ntmps171
      go_wp2_with fail
      ((with_reducible refine (HV.out _ (HA.out.past (by (repeat (first | exact Below.refl _ _ | assumption | refine balloc ?_ _ | refine below_drewN ?_ _ | refine bstep (by assumption) ?_ | refine bstep (Past.prop _) ?_ | refine Below.setCell ?_ (by first | exact Nat.le_refl _ | (simp; done) | (simp; omega)) _))))).mono ?_); rintro e w1 ⟨rfl, hb1⟩)
      go_wp2
      refine bodyPost_ret (v := T3 (0, false, 2)) (by simp [results, Tryz.results171, go_sem]) rfl ⟨rfl, ?_⟩
      (repeat (first | exact Below.refl _ _ | assumption | refine balloc ?_ _ | refine below_drewN ?_ _ | refine bstep (by assumption) ?_ | refine bstep (Past.prop _) ?_ | refine Below.setCell ?_ (by first | exact Nat.le_refl _ | (simp; done) | (simp; omega)) _))
    · have e1 : decide (n < 1) = false := decide_eq_false (by omega)
      have e2 : decide (4096 < n) = true := decide_eq_true h2
      go_enter Tryz.func171, Tryz.ntmps171
      go_wp2_with fail
      ((with_reducible refine (HV.out _ (HA.out.past (by (repeat (first | exact Below.refl _ _ | assumption | refine balloc ?_ _ | refine below_drewN ?_ _ | refine bstep (by assumption) ?_ | refine bstep (Past.prop _) ?_ | refine Below.setCell ?_ (by first | exact Nat.le_refl _ | (simp; done) | (simp; omega)) _))))).mono ?_); rintro e w1 ⟨rfl, hb1⟩)
      go_wp2
      refine bodyPost_ret (v := T3 (0, false, 2)) (by simp [results, Tryz.results171, go_sem]) rfl ⟨rfl, ?_⟩
      (repeat (first | exact Below.refl _ _ | assumption | refine balloc ?_ _ | refine below_drewN ?_ _ | refine bstep (by assumption) ?_ | refine bstep (Past.prop _) ?_ | refine Below.setCell ?_ (by first | exact Nat.le_refl _ | (simp; done) | (simp; omega)) _))
    · have e1 : decide (n < 1) = false := decide_eq_false (by omega)
      have e2 : decide (4096 < n) = false := decide_eq_false (by omega)
      have e3 : decide (x < -562949953421312) = true := decide_eq_true h3
      go_enter Tryz.func171, Tryz.ntmps171
      go_wp2_with fail
      ((with_reducible refine (HV.out _ (HA.out.past (by (repeat (first | exact Below.refl _ _ | assumption | refine balloc ?_ _ | refine below_drewN ?_ _ | refine bstep (by assumption) ?_ | refine bstep (Past.prop _) ?_ | refine Below.setCell ?_ (by first | exact Nat.le_refl _ | (simp; done) | (simp; omega)) _))))).mono ?_); rintro e w1 ⟨rfl, hb1⟩)
      go_wp2
      refine bodyPost_ret (v := T3 (0, false, 2)) (by simp [results, Tryz.results171, go_sem]) rfl ⟨rfl, ?_⟩
      (repeat (first | exact Below.refl _ _ | assumption | refine balloc ?_ _ | refine below_drewN ?_ _ | refine bstep (by assumption) ?_ | refine bstep (Past.prop _) ?_ | refine Below.setCell ?_ (by first | exact Nat.le_refl _ | (simp; done) | (simp; omega)) _))
    · have e1 : decide (n < 1) = false := decide_eq_false (by omega)
      have e2 : decide (4096 < n) = false := decide_eq_false (by omega)
      have e3 : decide (x < -562949953421312) = false := decide_eq_false (by omega)
      have e4 : decide (562949953421312 < x) = true := decide_eq_true h4
      go_enter Tryz.func171, Tryz.ntmps171
      go_wp2_with fail
      ((with_reducible refine (HV.out _ (HA.out.past (by (repeat (first | exact Below.refl _ _ | assumption | refine balloc ?_ _ | refine below_drewN ?_ _ | refine bstep (by assumption) ?_ | refine bstep (Past.prop _) ?_ | refine Below.setCell ?_ (by first | exact Nat.le_refl _ | (simp; done) | (simp; omega)) _))))).mono ?_); rintro e w1 ⟨rfl, hb1⟩)
      go_wp2
      refine bodyPost_ret (v := T3 (0, false, 2)) (by simp [results, Tryz.results171, go_sem]) rfl ⟨rfl, ?_⟩
      (repeat (first | exact Below.refl _ _ | assumption | refine balloc ?_ _ | refine below_drewN ?_ _ | refine bstep (by assumption) ?_ | refine bstep (Past.prop _) ?_ | refine Below.setCell ?_ (by first | exact Nat.le_refl _ | (simp; done) | (simp; omega)) _))
  obtain ⟨g1, g2, g3, g4⟩ := overArg_iff.1 hg
  have e1 : decide (n < 1) = false := decide_eq_false (by omega)
  have e2 : decide (4096 < n) = false := decide_eq_false (by omega)
  have e3 : decide (x < -562949953421312) = false := decide_eq_false (by omega)
  have e4 : decide (562949953421312 < x) = false := decide_eq_false (by omega)
  cases ho : okV l1 l2
  · rw [overS_range hm hg ho]
    clear hm hg
    go_enter Tryz.func171, Tryz.ntmps171
    go_wp2_with fail
    ((with_reducible refine (HV.out _ (HA.out.past (by (repeat (first | exact Below.refl _ _ | assumption | refine balloc ?_ _ | refine below_drewN ?_ _ | refine bstep (by assumption) ?_ | refine bstep (Past.prop _) ?_ | refine Below.setCell ?_ (by first | exact Nat.le_refl _ | (simp; done) | (simp; omega)) _))))).mono ?_); rintro e w1 ⟨rfl, hb1⟩)
    have B1 : Blk w1 w.heap.size #[.int .i64 l1, .int .i64 l2] 65 := (Blk.made _ _ _).past hb1
    have c0 := B1.cell 0; have c1 := B1.cell 1; have z1 := B1.lt
    simp at c0 c1
    go_wp2_with fail
    ((with_reducible refine (may_eq ho).mono ?_); rintro e w2 ⟨rfl, hb2⟩)
    go_wp2
    refine bodyPost_ret (v := T3 (0, false, 10)) (by simp [results, Tryz.results171, go_sem]) rfl ⟨rfl, ?_⟩
    (repeat (first | exact Below.refl _ _ | assumption | refine balloc ?_ _ | refine below_drewN ?_ _ | refine bstep (by assumption) ?_ | refine bstep (Past.prop _) ?_ | refine Below.setCell ?_ (by first | exact Nat.le_refl _ | (simp; done) | (simp; omega)) _))
  have HN := hidE (fun h => over_never (F := F) (x := x) (n := n) (l := (l1, l2)) hm hg ho h)
  have HF := hidE (fun t h1 h2 h3 => over_first (F := F) (x := x) (n := n) (t := t) (l := (l1, l2)) hm hg ho h1 h2 h3)
  have hC := mayB_iff.1 hm
  obtain ⟨m, rfl⟩ : ∃ m : Nat, n = m := ⟨n.toNat, by omega⟩
  rw [Int.toNat_natCast] at HN HF
  have hbad : badW F x (x + m) = 0 := badW_ok hm (wndB_iff.2 (by omega))
  have HTS := hidE (totS_ok hbad)
  rw [show (x + (m : Int) - x).toNat = m by omega] at HTS
  have HSU := hidE (fun w hA => sum_c F x (x + m) a cap w (by omega) hA)
  rw [HTS.out] at HSU
  have HOV := hidE (fun w hA => over_c F x m (l1, l2) a cap w hl hc hA hC ⟨g3, g4⟩ (by omega) ho)
  clear hm hg hbad hC HTS
  unfold OvR at HOV
  generalize overS F x m (l1, l2) = D at *
  generalize sumN F x m = q at *
  go_enter Tryz.func171, Tryz.ntmps171
  go_wp2_with fail
  ((with_reducible refine (HV.out _ (HA.out.past (by (repeat (first | exact Below.refl _ _ | assumption | refine balloc ?_ _ | refine below_drewN ?_ _ | refine bstep (by assumption) ?_ | refine bstep (Past.prop _) ?_ | refine Below.setCell ?_ (by first | exact Nat.le_refl _ | (simp; done) | (simp; omega)) _))))).mono ?_); rintro e w1 ⟨rfl, hb1⟩)
  have B1 : Blk w1 w.heap.size #[.int .i64 l1, .int .i64 l2] 65 := (Blk.made _ _ _).past hb1
  have c0 := B1.cell 0; have c1 := B1.cell 1; have z1 := B1.lt
  simp at c0 c1
  have HB1 := hidE (show Below w.heap.size w w1 by (repeat (first | exact Below.refl _ _ | assumption | refine balloc ?_ _ | refine below_drewN ?_ _ | refine bstep (by assumption) ?_ | refine bstep (Past.prop _) ?_ | refine Below.setCell ?_ (by first | exact Nat.le_refl _ | (simp; done) | (simp; omega)) _)))
  have HBB := hidE B1
  clear hb1 B1 HV
  go_wp2_with fail
  ((with_reducible refine (may_eq ho).mono ?_); rintro e w2 ⟨rfl, hb2⟩)
  have HB2 := hidE (bstep hb2 HB1.out)
  have HBB2 := hidE (HBB.out.past hb2)
  clear hb2 HB1 HBB c0 c1 z1 ho
  go_wp2_with fail
  ((with_reducible refine (HSU.out _ (HA.out.past HB2.out)).mono ?_); rintro e w3 ⟨rfl, hb3⟩)
  have HB3 := hidE (bstep hb3 HB2.out)
  have hBB3 := HBB2.out.past hb3
  have c0 := hBB3.cell 0; have c1 := hBB3.cell 1; have z1 := hBB3.lt
  simp at c0 c1
  clear hb3 hBB3 HB2 HBB2 HSU
  go_wp2_with fail
  ((with_reducible refine (HOV.out _ (HA.out.past (by have := HB3.out; (repeat (first | exact Below.refl _ _ | assumption | refine balloc ?_ _ | refine below_drewN ?_ _ | refine bstep (by assumption) ?_ | refine bstep (Past.prop _) ?_ | refine Below.setCell ?_ (by first | exact Nat.le_refl _ | (simp; done) | (simp; omega)) _))))).mono ?_); rintro e w4 ⟨⟨r, rfl, hr⟩, hb4⟩)
  have HB4 := hidE (show Below w.heap.size w w4 by have := HB3.out; (repeat (first | exact Below.refl _ _ | assumption | refine balloc ?_ _ | refine below_drewN ?_ _ | refine bstep (by assumption) ?_ | refine bstep (Past.prop _) ?_ | refine Below.setCell ?_ (by first | exact Nat.le_refl _ | (simp; done) | (simp; omega)) _)))
  clear hb4 c0 c1 z1
  have HR := hidE hr
  clear hr
  go_wp2
  refine bodyPost_ret (v := T3 (r.1, r.2, 0)) (by simp [results, Tryz.results171, go_sem]) rfl ⟨?_, HB4.out⟩
  rcases HR.out with ⟨rfl, h⟩ | ⟨t, rfl, h1, h2, h3⟩
  · rw [HN.out h]
  · rw [HF.out t h1 h2 h3]
end Go.Proofs.YthlepbbdjmmelaaGreat

namespace Go.Proofs.YthlepbbdjmmelaaGreat
open Go.ChangeShapes Go.WideShapes Go.ChangeAt Go.RowKit
attribute [local irreducible] Go.Calls

end Go.Proofs.YthlepbbdjmmelaaGreat

namespace Go.Proofs.YthlepbbdjmmelaaGreat
open Go.ChangeShapes Go.WideShapes Go.ChangeAt Go.RowKit
attribute [local irreducible] Go.Calls

theorem may_ok {F : List Sg} (h : mayB F = true) : ∀ s ∈ F, okS s = true := CF.ok (mayB_iff.1 h)

set_option maxHeartbeats 2000000 in
theorem rtot_c (F : List Sg) (x : Int) (m : Nat) (a : Option Addr) (cap : Nat) (w : World) (hl : F.length ≤ 1099511627776) (ho : ∀ s ∈ F, okS s = true) (hm : m ≤ 8191) (hx : -4611686018427387904 ≤ x) (hx' : x ≤ 4611686018427387904) (hA : ArgS w a F) :
    Calls Tryz.prog 112 #[.slice a F.length cap, .int .i64 x, .int .i64 (x + m)] w fun e w' => e = .returned (V (sumN F x m).1 (sumN F x m).2) ∧ Below w.heap.size w w' := by
  have HA := hidE hA; clear hA
  have HS := hidE (fun k => sumN_le ho x k)
  have HO := hidE (fun t => okV_iff.1 (vat_ok ho t))
  clear ho
  go_enter Tryz.func112, Tryz.ntmps112
  go_wp2
  go_loopg [8, 9] m (fun g vi _ wr => ∃ k : Nat, k ≤ m ∧ m - k ≤ g ∧ vi = .int .i64 (x + k) ∧ Below w.heap.size w wr ∧ Blk wr (w.heap.size + 1) #[.int .i64 (sumN F x k).1, .int .i64 (sumN F x k).2] 65 ∧ Blk wr w.heap.size #[.int .i64 0, .int .i64 0] 65)
  case atStart => exact ⟨0, Nat.zero_le _, by omega, by go_num, by (repeat (first | exact Below.refl _ _ | assumption | refine balloc ?_ _ | refine below_drewN ?_ _ | refine bstep (by assumption) ?_ | refine bstep (Past.prop _) ?_ | refine Below.setCell ?_ (by first | exact Nat.le_refl _ | (simp; done) | (simp; omega)) _)), Blk.made_at _ _ _ _ (by simp), (Blk.made _ _ _).alloc _⟩
  case round =>
    obtain ⟨k, hk, hg, rfl, hb, h1, h0⟩ := hrel
    have H1 := hidE h1; have H0 := hidE h0; have HB := hidE hb
    by_cases hlt : k < m
    · have HAR := hidE (show ArgS wr a F from HA.out.past hb)
      have HAT := hidE (fun w hA => rat_c F a cap (x + k) w (by omega) hA)
      have HST := hidE (sumN_step F x k)
      have s1 := HS.out k
      have o1 := HO.out (x + k)
      clear h1 h0 hb
      generalize sumN F x k = q at *
      generalize vat F (x + k) = y at *
      obtain ⟨p1, p2, p3, p4⟩ := s1
      obtain ⟨q1, q2, q3, q4⟩ := o1
      have r1 : -9222246136947933184 ≤ q.1 := by omega
      have r2 : q.1 ≤ 9222246136947933184 := by omega
      have r3 : -9222246136947933184 ≤ q.2 := by omega
      have r4 : q.2 ≤ 9222246136947933184 := by omega
      have r5 : -9223372036854775808 ≤ q.1 + y.1 := by omega
      have r6 : q.1 + y.1 ≤ 9223372036854775807 := by omega
      have r7 : -9223372036854775808 ≤ q.2 + y.2 := by omega
      have r8 : q.2 + y.2 ≤ 9223372036854775807 := by omega
      clear p1 p2 p3 p4 q1 q2 q3 q4 r1 r2 r3 r4
      go_wp2_with fail
      ((with_reducible refine (HAT.out _ HAR.out).mono ?_); rintro e w1 ⟨rfl, hb1⟩)
      have B1 := H1.out.past hb1
      have B0 := H0.out.past hb1
      have HB1 := hidE (bstep hb1 HB.out)
      have c0 := B1.cell 0; have c1 := B1.cell 1; have f1 := B1.free; have z1 := B1.lt; have z0 := B0.lt
      simp at c0 c1
      have HB0 := hidE B0; have HBB1 := hidE B1
      clear hb1 B0 B1
      go_wp2
      go_roundg (m - (k + 1))
      case measure => omega
      case rel => exact ⟨k + 1, by omega, Nat.le_refl _, by go_num, by have := HB1.out; (repeat (first | exact Below.refl _ _ | assumption | refine balloc ?_ _ | refine below_drewN ?_ _ | refine bstep (by assumption) ?_ | refine bstep (Past.prop _) ?_ | refine Below.setCell ?_ (by first | exact Nat.le_refl _ | (simp; done) | (simp; omega)) _)), by rw [HST.out]; exact ((HBB1.out.set 0 _).set 1 _).alloc _, ((HB0.out.other (by omega) _).other (by omega) _).alloc _⟩
    · have hk' : k = m := by omega
      subst hk'
      have c0 := h1.cell 0; have c1 := h1.cell 1; have f1 := h1.free; have hp := h1.lt
      have c00 := h0.cell 0; have c01 := h0.cell 1; have f0 := h0.free; have hp0 := h0.lt
      simp at c0 c1 c00 c01
      generalize hqq : sumN F x k = q at *
      have HQQ := hidE hqq; clear hqq
      go_wp2
      have B0 := (h0.set 0 (.int .i64 q.1)).set 1 (.int .i64 q.2)
      have g0 := B0.cell 0; have g1 := B0.cell 1
      simp at g0 g1
      refine bodyPost_ret (v := V q.1 q.2) (by simp [results, Tryz.results112, go_sem, g0, g1]) rfl ⟨by rw [HQQ.out], ?_⟩
      (repeat (first | exact Below.refl _ _ | assumption | refine balloc ?_ _ | refine below_drewN ?_ _ | refine bstep (by assumption) ?_ | refine bstep (Past.prop _) ?_ | refine Below.setCell ?_ (by first | exact Nat.le_refl _ | (simp; done) | (simp; omega)) _))

end Go.Proofs.YthlepbbdjmmelaaGreat

namespace Go.Proofs.YthlepbbdjmmelaaGreat
open Go.ChangeShapes Go.WideShapes Go.ChangeAt Go.RowKit
attribute [local irreducible] Go.Calls

theorem rlast_c (F : List Sg) (x : Int) (a : Option Addr) (cap : Nat) (w : World) (hl : F.length ≤ 1099511627776) (hA : ArgS w a F) :
    Calls Tryz.prog 111 #[.slice a F.length cap, .int .i64 x] w fun e w' => e = .returned (.int .i64 (lastF F x)) ∧ Below w.heap.size w w' := by
  have HA := hidE hA; clear hA
  by_cases h0 : F.length = 0
  · have HE := hidE (show lastF F x = x by unfold lastF; rw [if_pos h0])
    have hd : decide ((0 : Int) < (F.length : Int)) = false := decide_eq_false (by omega)
    have hd' : ¬ (0 : Int) < (F.length : Int) := by omega
    have hd2 : ¬ 0 < F.length := by omega
    rw [HE.out]
    clear h0 HE
    go_enter Tryz.func111, Tryz.ntmps111
    go_wp2
    go_ret
    exact ⟨rfl, Below.refl _ _⟩
  · obtain ⟨k, hk⟩ : ∃ k, F.length = k + 1 := ⟨F.length - 1, by omega⟩
    have HE := hidE (show lastF F x = mx x (ats F k) by unfold lastF; rw [if_neg h0, hk, Nat.add_sub_cancel])
    obtain ⟨b, off, rfl, hb, hc⟩ := HA.out (by omega)
    obtain ⟨d0, d1, d2⟩ := hc.get (i := k) (by omega)
    have hd : decide ((0 : Int) < (F.length : Int)) = true := decide_eq_true (by omega)
    have HKZ := hidE (show (F.length : Int) - 1 = (k : Int) by omega)
    have hkl : k < F.length := by omega
    rw [HE.out]
    clear hc hk h0 d1 d2 HE
    generalize ats F k = u at *
    go_enter Tryz.func111, Tryz.ntmps111
    go_upto_region 3 with fail
    have hkz := HKZ.out
    go_wp2
    all_goals exact bodyPost_ret (v := .int .i64 (mx x u)) (by unfold mx; simp [results, Tryz.results111, go_sem, *]; try omega) rfl ⟨rfl, Below.refl _ _⟩

set_option maxHeartbeats 1000000 in
theorem rnear_c (F : List Sg) (x : Int) (a : Option Addr) (cap : Nat) (w : World) (hl : F.length ≤ 1099511627776) (hx : -562949953421312 ≤ x) (hx' : x ≤ 562949953421312) (hA : ArgS w a F) :
    Calls Tryz.prog 76 #[.slice a F.length cap, .int .i64 x, .int .i64 200] w fun e w' => e = .returned (.bool (nearB F x)) ∧ Below w.heap.size w w' := by
  have HA := hidE hA; clear hA
  have e2 : decide (x < -562949953421312) = false := decide_eq_false (by omega)
  have HT := hidE (fun h => nearB_t (F := F) (x := x) h)
  have HF := hidE (fun i hi h => nearB_f (F := F) (x := x) (i := i) hi h)
  generalize nearB F x = D at *
  go_enter Tryz.func76, Tryz.ntmps76
  go_wp2
  go_loopg [7] F.length (fun g vi wr => ∃ k : Nat, k ≤ F.length ∧ F.length - k ≤ g ∧ vi = .int .i64 k ∧ (∀ i, i < k → ats F i ≤ x + 200) ∧ Below w.heap.size w wr)
  case atStart => exact ⟨0, Nat.zero_le _, by omega, rfl, fun i hi => by omega, Below.refl _ _⟩
  case round =>
    obtain ⟨k, hk, hg, rfl, hs, hb⟩ := hrel
    have HS := hidE hs; have HB := hidE hb
    clear hs
    by_cases hlt : k < F.length
    · obtain ⟨b, off, rfl, hbb, hc⟩ := (HA.out.past hb) (by omega)
      obtain ⟨d0, d1, d2⟩ := hc.get hlt
      have HNO := hidE (fun h => HF.out k hlt h)
      have HNS := hidE (fun (he : ats F k ≤ x + 200) => show ∀ i, i < k + 1 → ats F i ≤ x + 200 from fun i hi => by
        by_cases e : i = k
        · rw [e]; exact he
        · exact HS.out i (by omega))
      clear hc d1 d2 hb
      generalize ats F k = u at *
      by_cases hq : u ≤ x + 200
      · have HN := hidE (HNS.out hq)
        clear HNO HNS
        have e3 : decide (x + 200 < u) = false := decide_eq_false (by omega)
        by_cases hq2 : x < u
        · have e1 : decide (x < u) = true := decide_eq_true hq2
          go_wp2
          go_roundg (F.length - (k + 1))
          case measure => omega
          case rel => exact ⟨k + 1, by omega, Nat.le_refl _, by go_num, HN.out, HB.out⟩
        · have e1 : decide (x < u) = false := decide_eq_false hq2
          go_wp2
          go_roundg (F.length - (k + 1))
          case measure => omega
          case rel => exact ⟨k + 1, by omega, Nat.le_refl _, by go_num, HN.out, HB.out⟩
      · have HD := hidE (HNO.out (by omega))
        have e3 : decide (x + 200 < u) = true := decide_eq_true (by omega)
        have e1 : decide (x < u) = true := decide_eq_true (by omega)
        clear HNO HNS
        go_wp2
        exact bodyPost_ret (v := .bool false) (by simp [results, Tryz.results76, go_sem]) rfl ⟨by rw [HD.out], HB.out⟩
    · have hk' : k = F.length := by omega
      subst hk'
      have HD := hidE (HT.out HS.out)
      go_wp2
      exact bodyPost_ret (v := .bool true) (by simp [results, Tryz.results76, go_sem]) rfl ⟨by rw [HD.out], HB.out⟩

set_option maxRecDepth 100000 in
set_option maxHeartbeats 2000000 in
theorem rover_c (F : List Sg) (x n l1 l2 : Int) (a : Option Addr) (cap : Nat) (w : World) (hl : F.length ≤ 1099511627776) (hA : ArgS w a F) :
    Calls Tryz.prog 83 #[.slice a F.length cap, .int .i64 x, .int .i64 n, V l1 l2] w fun e w' => e = .returned (T3 (overS F x n (l1, l2))) ∧ Below w.heap.size w w' := by
  have HA := hidE hA; clear hA
  have HV := hidE (fun w hA => rmayf_c F a cap w (by omega) hA)
  cases hm : mayB F
  · rw [overS_form hm]
    rw [hm] at HV
    clear hm
    go_enter Tryz.func83, Tryz.ntmps83
    go_wp2_with fail
    ((with_reducible refine (HV.out _ (HA.out.past (by (repeat (first | exact Below.refl _ _ | assumption | refine balloc ?_ _ | refine below_drewN ?_ _ | refine bstep (by assumption) ?_ | refine bstep (Past.prop _) ?_ | refine Below.setCell ?_ (by first | exact Nat.le_refl _ | (simp; done) | (simp; omega)) _))))).mono ?_); rintro e w1 ⟨rfl, hb1⟩)
    go_wp2
    refine bodyPost_ret (v := T3 (0, false, 5)) (by simp [results, Tryz.results83, go_sem]) rfl ⟨rfl, ?_⟩
    (repeat (first | exact Below.refl _ _ | assumption | refine balloc ?_ _ | refine below_drewN ?_ _ | refine bstep (by assumption) ?_ | refine bstep (Past.prop _) ?_ | refine Below.setCell ?_ (by first | exact Nat.le_refl _ | (simp; done) | (simp; omega)) _))
  rw [hm] at HV
  cases hg : overArg x n
  · rw [overS_arg hm hg]
    have hq := overArg_not hg
    clear hm hg
    rcases hq with h | ⟨h, h2⟩ | ⟨h, h2, h3⟩ | ⟨h, h2, h3, h4⟩
    · have e1 : decide (n < 1) = true := decide_eq_true h
      go_enter Tryz.func83, Tryz.ntmps83
      go_wp2_with fail
      ((with_reducible refine (HV.out _ (HA.out.past (by (repeat (first | exact Below.refl _ _ | assumption | refine balloc ?_ _ | refine below_drewN ?_ _ | refine bstep (by assumption) ?_ | refine bstep (Past.prop _) ?_ | refine Below.setCell ?_ (by first | exact Nat.le_refl _ | (simp; done) | (simp; omega)) _))))).mono ?_); rintro e w1 ⟨rfl, hb1⟩)
      go_wp2
      refine bodyPost_ret (v := T3 (0, false, 2)) (by simp [results, Tryz.results83, go_sem]) rfl ⟨rfl, ?_⟩
      (repeat (first | exact Below.refl _ _ | assumption | refine balloc ?_ _ | refine below_drewN ?_ _ | refine bstep (by assumption) ?_ | refine bstep (Past.prop _) ?_ | refine Below.setCell ?_ (by first | exact Nat.le_refl _ | (simp; done) | (simp; omega)) _))
    · have e1 : decide (n < 1) = false := decide_eq_false (by omega)
      have e2 : decide (4096 < n) = true := decide_eq_true h2
      go_enter Tryz.func83, Tryz.ntmps83
      go_wp2_with fail
      ((with_reducible refine (HV.out _ (HA.out.past (by (repeat (first | exact Below.refl _ _ | assumption | refine balloc ?_ _ | refine below_drewN ?_ _ | refine bstep (by assumption) ?_ | refine bstep (Past.prop _) ?_ | refine Below.setCell ?_ (by first | exact Nat.le_refl _ | (simp; done) | (simp; omega)) _))))).mono ?_); rintro e w1 ⟨rfl, hb1⟩)
      go_wp2
      refine bodyPost_ret (v := T3 (0, false, 2)) (by simp [results, Tryz.results83, go_sem]) rfl ⟨rfl, ?_⟩
      (repeat (first | exact Below.refl _ _ | assumption | refine balloc ?_ _ | refine below_drewN ?_ _ | refine bstep (by assumption) ?_ | refine bstep (Past.prop _) ?_ | refine Below.setCell ?_ (by first | exact Nat.le_refl _ | (simp; done) | (simp; omega)) _))
    · have e1 : decide (n < 1) = false := decide_eq_false (by omega)
      have e2 : decide (4096 < n) = false := decide_eq_false (by omega)
      have e3 : decide (x < -562949953421312) = true := decide_eq_true h3
      go_enter Tryz.func83, Tryz.ntmps83
      go_wp2_with fail
      ((with_reducible refine (HV.out _ (HA.out.past (by (repeat (first | exact Below.refl _ _ | assumption | refine balloc ?_ _ | refine below_drewN ?_ _ | refine bstep (by assumption) ?_ | refine bstep (Past.prop _) ?_ | refine Below.setCell ?_ (by first | exact Nat.le_refl _ | (simp; done) | (simp; omega)) _))))).mono ?_); rintro e w1 ⟨rfl, hb1⟩)
      go_wp2
      refine bodyPost_ret (v := T3 (0, false, 2)) (by simp [results, Tryz.results83, go_sem]) rfl ⟨rfl, ?_⟩
      (repeat (first | exact Below.refl _ _ | assumption | refine balloc ?_ _ | refine below_drewN ?_ _ | refine bstep (by assumption) ?_ | refine bstep (Past.prop _) ?_ | refine Below.setCell ?_ (by first | exact Nat.le_refl _ | (simp; done) | (simp; omega)) _))
    · have e1 : decide (n < 1) = false := decide_eq_false (by omega)
      have e2 : decide (4096 < n) = false := decide_eq_false (by omega)
      have e3 : decide (x < -562949953421312) = false := decide_eq_false (by omega)
      have e4 : decide (562949953421312 < x) = true := decide_eq_true h4
      go_enter Tryz.func83, Tryz.ntmps83
      go_wp2_with fail
      ((with_reducible refine (HV.out _ (HA.out.past (by (repeat (first | exact Below.refl _ _ | assumption | refine balloc ?_ _ | refine below_drewN ?_ _ | refine bstep (by assumption) ?_ | refine bstep (Past.prop _) ?_ | refine Below.setCell ?_ (by first | exact Nat.le_refl _ | (simp; done) | (simp; omega)) _))))).mono ?_); rintro e w1 ⟨rfl, hb1⟩)
      go_wp2
      refine bodyPost_ret (v := T3 (0, false, 2)) (by simp [results, Tryz.results83, go_sem]) rfl ⟨rfl, ?_⟩
      (repeat (first | exact Below.refl _ _ | assumption | refine balloc ?_ _ | refine below_drewN ?_ _ | refine bstep (by assumption) ?_ | refine bstep (Past.prop _) ?_ | refine Below.setCell ?_ (by first | exact Nat.le_refl _ | (simp; done) | (simp; omega)) _))
  have hg' := overArg_iff.1 hg
  obtain ⟨g1, g2, g3, g4⟩ := hg'
  have e1 : decide (n < 1) = false := decide_eq_false (by omega)
  have e2 : decide (4096 < n) = false := decide_eq_false (by omega)
  have e3 : decide (x < -562949953421312) = false := decide_eq_false (by omega)
  have e4 : decide (562949953421312 < x) = false := decide_eq_false (by omega)
  cases ho : okV l1 l2
  · rw [overS_range hm hg ho]
    clear hm hg
    go_enter Tryz.func83, Tryz.ntmps83
    go_wp2_with fail
    ((with_reducible refine (HV.out _ (HA.out.past (by (repeat (first | exact Below.refl _ _ | assumption | refine balloc ?_ _ | refine below_drewN ?_ _ | refine bstep (by assumption) ?_ | refine bstep (Past.prop _) ?_ | refine Below.setCell ?_ (by first | exact Nat.le_refl _ | (simp; done) | (simp; omega)) _))))).mono ?_); rintro e w1 ⟨rfl, hb1⟩)
    have B1 : Blk w1 w.heap.size #[.int .i64 l1, .int .i64 l2] 65 := (Blk.made _ _ _).past hb1
    have c0 := B1.cell 0; have c1 := B1.cell 1; have z1 := B1.lt
    simp at c0 c1
    go_wp2_with fail
    ((with_reducible refine (rmay_eq ho).mono ?_); rintro e w2 ⟨rfl, hb2⟩)
    go_wp2
    refine bodyPost_ret (v := T3 (0, false, 10)) (by simp [results, Tryz.results83, go_sem]) rfl ⟨rfl, ?_⟩
    (repeat (first | exact Below.refl _ _ | assumption | refine balloc ?_ _ | refine below_drewN ?_ _ | refine bstep (by assumption) ?_ | refine bstep (Past.prop _) ?_ | refine Below.setCell ?_ (by first | exact Nat.le_refl _ | (simp; done) | (simp; omega)) _))
  have HOK := hidE (may_ok hm)
  have HLL := hidE (lastF_le (x := x) (may_ok hm) (by omega))
  have HNO := hidE (fun h => overS_none (F := F) (x := x) (n := n) (l := (l1, l2)) hm hg ho h)
  have HSO := hidE (fun k hk hb h => overS_some (F := F) (x := x) (n := n) (l := (l1, l2)) (k := k) hm hg ho hk hb h)
  have HLG := hidE (lastF_ge F x)
  clear hm hg
  obtain ⟨m, rfl⟩ : ∃ m : Nat, n = m := ⟨n.toNat, by omega⟩
  rw [Int.toNat_natCast] at HNO HSO
  have HTT := hidE (fun (t : Int) w (h1 : -4611686018427387904 ≤ t) (h2 : t ≤ 4611686018427387904) hA => rtot_c F t m a cap w hl HOK.out (by omega) h1 h2 hA)
  have HLA := hidE (fun w hA => rlast_c F x a cap w hl hA)
  generalize overS F x m (l1, l2) = D at *
  generalize lastF F x = L at *
  obtain ⟨N, hN⟩ : ∃ N : Nat, L = x + N := ⟨(L - x).toNat, by have := HLG.out; omega⟩
  subst hN
  have hLL := HLL.out
  clear HLL HLG HOK
  go_enter Tryz.func83, Tryz.ntmps83
  go_wp2_with fail
  ((with_reducible refine (HV.out _ (HA.out.past (by (repeat (first | exact Below.refl _ _ | assumption | refine balloc ?_ _ | refine below_drewN ?_ _ | refine bstep (by assumption) ?_ | refine bstep (Past.prop _) ?_ | refine Below.setCell ?_ (by first | exact Nat.le_refl _ | (simp; done) | (simp; omega)) _))))).mono ?_); rintro e w1 ⟨rfl, hb1⟩)
  have B1 : Blk w1 w.heap.size #[.int .i64 l1, .int .i64 l2] 65 := (Blk.made _ _ _).past hb1
  have c0 := B1.cell 0; have c1 := B1.cell 1; have z1 := B1.lt
  simp at c0 c1
  have HB1 := hidE (show Below w.heap.size w w1 by (repeat (first | exact Below.refl _ _ | assumption | refine balloc ?_ _ | refine below_drewN ?_ _ | refine bstep (by assumption) ?_ | refine bstep (Past.prop _) ?_ | refine Below.setCell ?_ (by first | exact Nat.le_refl _ | (simp; done) | (simp; omega)) _)))
  have HBB := hidE B1
  clear hb1 B1 HV
  go_wp2_with fail
  ((with_reducible refine (rmay_eq ho).mono ?_); rintro e w2 ⟨rfl, hb2⟩)
  have HB2 := hidE (bstep hb2 HB1.out)
  have HBB2 := hidE (HBB.out.past hb2)
  clear hb2 HB1 HBB c0 c1 z1 ho
  go_wp2_with fail
  go_loopg [11] (N + 1) (fun g vi wr => ∃ k : Nat, k ≤ N + 1 ∧ N + 1 - k ≤ g ∧ vi = .int .i64 (x + k) ∧ (∀ j : Nat, j < k → overB F m (l1, l2) (x + j) = false) ∧ Blk wr w.heap.size #[.int .i64 l1, .int .i64 l2] 65 ∧ Below w.heap.size w wr)
  case atStart => exact ⟨0, Nat.zero_le _, by omega, by go_num, fun j hj => by omega, HBB2.out, HB2.out⟩
  case round =>
    obtain ⟨k, hk, hg, rfl, hs, hB, hb⟩ := hrel
    have HS := hidE hs; have HB := hidE hb; have HBK := hidE hB
    clear hs hb hB
    go_wp2_with fail
    ((with_reducible refine (HLA.out _ (HA.out.past HB.out)).mono ?_); rintro e w3 ⟨rfl, hb3⟩)
    have HB3 := hidE (bstep hb3 HB.out)
    have HBK3 := hidE (HBK.out.past hb3)
    clear hb3 HB HBK
    by_cases hlt : k ≤ N
    · have hd : decide (x + (k : Int) ≤ x + (N : Int)) = true := decide_eq_true (by omega)
      have HT2 := hidE (fun w hA => HTT.out (x + k) w (by omega) (by omega) hA)
      have HNS := hidE (fun (he : overB F m (l1, l2) (x + k) = false) => show ∀ j : Nat, j < k + 1 → overB F m (l1, l2) (x + j) = false from fun j hj => by
        by_cases e : j = k
        · rw [e]; exact he
        · exact HS.out j (by omega))
      have HSM := hidE (fun hb => HSO.out k (by omega) hb HS.out)
      have HQ1 := hidE (fun (h : leB (sumN F (x + k) m).1 (sumN F (x + k) m).2 l1 l2 = false) => show overB F m (l1, l2) (x + k) = true by unfold overB; rw [h]; rfl)
      have HQ2 := hidE (fun (h : leB (sumN F (x + k) m).1 (sumN F (x + k) m).2 l1 l2 = true) => show overB F m (l1, l2) (x + k) = false by unfold overB; rw [h]; rfl)
      generalize overB F m (l1, l2) (x + k) = bad at *
      generalize sumN F (x + k) m = q at *
      have hBK := HBK3.out
      have c0 := hBK.cell 0; have c1 := hBK.cell 1; have z1 := hBK.lt
      simp at c0 c1
      clear hBK
      obtain ⟨wo, rfl⟩ : ∃ wo : World, wo = w3 := ⟨_, rfl⟩
      have HAR := hidE (HA.out.past HB3.out)
      have HLE := hidE (fun w => rle q.1 q.2 l1 l2 w)
      cases hle : leB q.1 q.2 l1 l2
      · have HD := hidE (HSM.out (HQ1.out hle))
        rw [hle] at HLE
        clear HNS HQ1 HQ2 hle HSM HSO HNO HTT
        go_wp2_with fail
        refine wp_region_past_lit (by kernel_rfl) (by kernel_rfl) ?_
        have hcp := Past.cell (W := wo)
        repeat (go_big_quiet_step (first | (go_at_call 112; exact Past.call _ (HT2.out _ (HAR.out.past (Past.prop _)))) | (go_at_call 46; exact Past.call _ (HLE.out _))))
        refine wpQuiet_nil ?_
        rintro _ ⟨x', rfl⟩
        have o1 := bstep x'.2 HB3.out
        clear hcp
        generalize x'.1 = w6 at *
        go_wp2
        exact bodyPost_ret (v := T3 (x + k, true, 0)) (by simp [results, Tryz.results83, go_sem]) rfl ⟨by rw [HD.out], o1⟩
      · have HN := hidE (HNS.out (HQ2.out hle))
        rw [hle] at HLE
        clear HNS HQ1 HQ2 hle HSM HSO HNO HTT
        go_wp2_with fail
        refine wp_region_past_lit (by kernel_rfl) (by kernel_rfl) ?_
        have hcp := Past.cell (W := wo)
        repeat (go_big_quiet_step (first | (go_at_call 112; exact Past.call _ (HT2.out _ (HAR.out.past (Past.prop _)))) | (go_at_call 46; exact Past.call _ (HLE.out _))))
        refine wpQuiet_nil ?_
        rintro _ ⟨x', rfl⟩
        have o1 := bstep x'.2 HB3.out
        have o2 := HBK3.out.past x'.2
        clear hcp
        generalize x'.1 = w6 at *
        have HO1 := hidE o1; have HO2 := hidE o2
        clear o1 o2
        go_wp2
        go_roundg (N + 1 - (k + 1))
        case measure => omega
        case rel => exact ⟨k + 1, by omega, Nat.le_refl _, by go_num, HN.out, HO2.out, HO1.out⟩
    · have hd : decide (x + (k : Int) ≤ x + (N : Int)) = false := decide_eq_false (by omega)
      have HD := hidE (HNO.out fun j hj => HS.out j (by omega))
      go_wp2
      exact bodyPost_ret (v := T3 (0, false, 0)) (by simp [results, Tryz.results83, go_sem]) rfl ⟨by rw [HD.out], HB3.out⟩
end Go.Proofs.YthlepbbdjmmelaaGreat

namespace Go.Proofs.YthlepbbdjmmelaaGreat
open Go.ChangeShapes Go.WideShapes Go.ChangeAt Go.RowKit
attribute [local irreducible] Go.Calls

theorem cle_s {w : World} {n m c1 c2 : Nat} {a1 a2 : Option Addr} {x : Int} {F G : List Sg} {r : Int × Bool × Int} (h1 : SliS w (.slice a1 n c1) F) (h2 : SliS w (.slice a2 m c2) G) (hl : n + m ≤ 999999980) (he : leS F G x = r) :
    Calls Tryz.prog 169 #[.slice a1 n c1, .slice a2 m c2, .int .i64 x] w fun e w' => e = .returned (.tuple #[.int .i64 r.1, .bool r.2.1, .int .i64 r.2.2]) ∧ Below w.heap.size w w' := by
  obtain ⟨e1, q1, q2, q3⟩ := h1.len; obtain ⟨e2, s1, s2, s3⟩ := h2.len
  subst e1; subst e2; subst he
  exact cle_c F G x a1 a2 c1 c2 w q1 q2 s1 s2 (by omega) q3 s3
theorem rle_s {w : World} {n m c1 c2 : Nat} {a1 a2 : Option Addr} {x : Int} {F G : List Sg} {r : Int × Bool × Int} (h1 : SliS w (.slice a1 n c1) F) (h2 : SliS w (.slice a2 m c2) G) (hl : n + m ≤ 999999990) (he : leS F G x = r) :
    Calls Tryz.prog 81 #[.slice a1 n c1, .slice a2 m c2, .int .i64 x] w fun e w' => e = .returned (.tuple #[.int .i64 r.1, .bool r.2.1, .int .i64 r.2.2]) ∧ Below w.heap.size w w' := by
  obtain ⟨e1, q1, q2, q3⟩ := h1.len; obtain ⟨e2, s1, s2, s3⟩ := h2.len
  subst e1; subst e2; subst he
  exact rleq_c F G x a1 a2 c1 c2 w (by omega) q3 s3
theorem over_s {w : World} {k c1 : Nat} {a1 : Option Addr} {x n l1 l2 : Int} {F : List Sg} {r : Int × Bool × Int} (h1 : SliS w (.slice a1 k c1) F) (hl : k ≤ 999999990) (he : overS F x n (l1, l2) = r) :
    Calls Tryz.prog 171 #[.slice a1 k c1, .int .i64 x, .int .i64 n, V l1 l2] w fun e w' => e = .returned (.tuple #[.int .i64 r.1, .bool r.2.1, .int .i64 r.2.2]) ∧ Below w.heap.size w w' := by
  obtain ⟨e1, q1, q2, q3⟩ := h1.len
  subst e1; subst he
  exact overP_c F x n l1 l2 a1 c1 w q1 q2 (by omega) q3
theorem rover_s {w : World} {k c1 : Nat} {a1 : Option Addr} {x n l1 l2 : Int} {F : List Sg} {r : Int × Bool × Int} (h1 : SliS w (.slice a1 k c1) F) (hl : k ≤ 1099511627776) (he : overS F x n (l1, l2) = r) :
    Calls Tryz.prog 83 #[.slice a1 k c1, .int .i64 x, .int .i64 n, V l1 l2] w fun e w' => e = .returned (.tuple #[.int .i64 r.1, .bool r.2.1, .int .i64 r.2.2]) ∧ Below w.heap.size w w' := by
  obtain ⟨e1, q1, q2, q3⟩ := h1.len
  subst e1; subst he
  exact rover_c F x n l1 l2 a1 c1 w (by omega) q3
theorem rnear_s {w : World} {k c1 : Nat} {a1 : Option Addr} {x : Int} {F : List Sg} {r : Bool} (h1 : SliS w (.slice a1 k c1) F) (hl : k ≤ 1099511627776) (hx : -562949953421312 ≤ x) (hx' : x ≤ 562949953421312) (he : nearB F x = r) :
    Calls Tryz.prog 76 #[.slice a1 k c1, .int .i64 x, .int .i64 200] w fun e w' => e = .returned (.bool r) ∧ Below w.heap.size w w' := by
  obtain ⟨e1, q1, q2, q3⟩ := h1.len
  subst e1; subst he
  exact rnear_c F x a1 c1 w (by omega) hx hx' q3
theorem rsame_s {w : World} {n m c1 c2 : Nat} {a1 a2 : Option Addr} {F G : List Sg} {b : Bool} (h1 : SliS w (.slice a1 n c1) F) (h2 : SliS w (.slice a2 m c2) G) (he : sameB F G = b) :
    Calls Tryz.prog 33 #[.slice a1 n c1, .slice a2 m c2] w fun e w' => e = .returned (.bool b) ∧ Below w.heap.size w w' := by
  obtain ⟨e1, q1, q2, q3⟩ := h1.len; obtain ⟨e2, s1, s2, s3⟩ := h2.len
  subst e1; subst e2; subst he
  exact rsame_c F G a1 a2 c1 c2 w (by omega) (by omega) q3 s3
theorem rmay_s {w : World} {n c1 : Nat} {a1 : Option Addr} {F : List Sg} {b : Bool} (h1 : SliS w (.slice a1 n c1) F) (hl : n ≤ 1099511627776) (he : mayB F = b) :
    Calls Tryz.prog 49 #[.slice a1 n c1] w fun e w' => e = .returned (.bool b) ∧ Below w.heap.size w w' := by
  obtain ⟨e1, q1, q2, q3⟩ := h1.len
  subst e1; subst he
  exact rmayf_c F a1 c1 w (by omega) q3
theorem pmay_s {w : World} {n c1 : Nat} {a1 : Option Addr} {F : List Sg} {b : Bool} (h1 : SliS w (.slice a1 n c1) F) (hl : n ≤ 1099511627776) (he : mayB F = b) :
    Calls Tryz.prog 79 #[.slice a1 n c1] w fun e w' => e = .returned (.bool b) ∧ Below w.heap.size w w' := by
  obtain ⟨e1, q1, q2, q3⟩ := h1.len
  subst e1; subst he
  exact pmay_c F a1 c1 w (by omega) q3
theorem rat_s {w : World} {n c1 : Nat} {a1 : Option Addr} {t : Int} {F : List Sg} {v : Int × Int} (h1 : SliS w (.slice a1 n c1) F) (hl : n ≤ 1099511627776) (he : vat F t = v) :
    Calls Tryz.prog 30 #[.slice a1 n c1, .int .i64 t] w fun e w' => e = .returned (V v.1 v.2) ∧ Below w.heap.size w w' := by
  obtain ⟨e1, q1, q2, q3⟩ := h1.len
  subst e1; subst he
  exact rat_c F a1 c1 t w (by omega) q3
end Go.Proofs.YthlepbbdjmmelaaGreat

namespace Go.Proofs.YthlepbbdjmmelaaGreat
open Go.ChangeShapes Go.WideShapes Go.ChangeAt Go.RowKit

theorem tm (x n : Int) (w : World) (hx : -1125899906842624 ≤ x ∧ x ≤ 1125899906842624) (_hn : -9223372036854775808 ≤ n ∧ n ≤ 9223372036854775807) : Calls Tryz.prog 191 #[.int .i64 x, .int .i64 n] w fun e w' => e = .returned (.int .i64 (tmS x n)) ∧ w' = w := by
  have ht := tmS_ok (x := x) (n := n) (by omega) (by omega)
  rcases Int.lt_trichotomy x 0 with h | h | h
  · obtain ⟨m, rfl⟩ : ∃ m, x = -m := ⟨-x, by omega⟩
    have h0 : 0 < m := by omega
    have hm : mx (-m) (- -m) = m := by unfold mx; split <;> omega
    have hq : 0 ≤ 1125899906842624 / m ∧ 1125899906842624 / m ≤ 1125899906842624 := ⟨Int.ediv_nonneg (by omega) (by omega), Int.ediv_le_self _ (by omega)⟩
    have ht' : tmS (-m) n = if n < -(1125899906842624 / m) ∨ 1125899906842624 / m < n then 1125899906842625 else -m * n := by unfold tmS; rw [hm, if_neg (by omega)]
    have HT := hidE ht; have HT' := hidE ht'
    clear ht hm ht' h
    by_cases hl : n < -(1125899906842624 / m)
    · go_enter Tryz.func191, Tryz.ntmps191
      go_wp2
      go_ret
      exact ⟨ret_int (by rw [HT'.out, if_pos (.inl hl)]), rfl⟩
    by_cases hr : 1125899906842624 / m < n
    · go_enter Tryz.func191, Tryz.ntmps191
      go_wp2
      go_ret
      exact ⟨ret_int (by rw [HT'.out, if_pos (.inr hr)]), rfl⟩
    · go_enter Tryz.func191, Tryz.ntmps191
      go_wp2
      go_ret
      refine ⟨ret_int ?_, rfl⟩
      have e := HT'.out
      rw [if_neg (by omega)] at e
      rw [e]
      exact IntWalk.wrap64_in _ (by rcases HT.out with ⟨e1, e2⟩ | ⟨e1, e2⟩ <;> omega)
  · subst h
    go_enter Tryz.func191, Tryz.ntmps191
    go_wp2
    go_ret
    exact ⟨ret_int (by simp [tmS]), rfl⟩
  · have hm : mx x (-x) = x := by unfold mx; split <;> omega
    have hq : 0 ≤ 1125899906842624 / x ∧ 1125899906842624 / x ≤ 1125899906842624 := ⟨Int.ediv_nonneg (by omega) (by omega), Int.ediv_le_self _ (by omega)⟩
    have ht' : tmS x n = if n < -(1125899906842624 / x) ∨ 1125899906842624 / x < n then 1125899906842625 else x * n := by unfold tmS; rw [hm, if_neg (by omega)]
    have HT := hidE ht; have HT' := hidE ht'
    clear ht hm ht'
    by_cases hl : n < -(1125899906842624 / x)
    · go_enter Tryz.func191, Tryz.ntmps191
      go_wp2
      go_ret
      exact ⟨ret_int (by rw [HT'.out, if_pos (.inl hl)]), rfl⟩
    by_cases hr : 1125899906842624 / x < n
    · go_enter Tryz.func191, Tryz.ntmps191
      go_wp2
      go_ret
      exact ⟨ret_int (by rw [HT'.out, if_pos (.inr hr)]), rfl⟩
    · go_enter Tryz.func191, Tryz.ntmps191
      go_wp2
      go_ret
      refine ⟨ret_int ?_, rfl⟩
      have e := HT'.out
      rw [if_neg (by omega)] at e
      rw [e]
      exact IntWalk.wrap64_in _ (by rcases HT.out with ⟨e1, e2⟩ | ⟨e1, e2⟩ <;> omega)

theorem cl_scl (x y n : Int) (p : Addr) (w : World) (hx : -1125899906842624 ≤ x ∧ x ≤ 1125899906842624) (hn : -9223372036854775808 ≤ n ∧ n ≤ 9223372036854775807) (hp : w.cell? p = some (.int .i64 n)) :
    Calls Tryz.prog 190 #[.int .i64 x, .int .i64 y, .pointer (some p)] w fun e w' => e = .returned (.int .i64 (tmS x n)) ∧ w' = w := by
  have Hn := hidE hn; clear hn
  go_enter Tryz.func190, Tryz.ntmps190
  go_wp2_with (go_at_call 191; refine (tm _ _ _ hx Hn.out).mono ?_; rintro e w' ⟨rfl, rfl⟩)
  go_ret
  exact ⟨rfl, rfl⟩

theorem both_scl (a b c d n : Int) (k : Nat) (w : World) (h1 : okV a b = true) (hn : -9223372036854775808 ≤ n ∧ n ≤ 9223372036854775807) (hk : k < w.heap.size) (hp : w.cell? ⟨k, 0, none⟩ = some (.int .i64 n)) :
    Calls Tryz.prog 115 #[V a b, V c d, .func (.func 190) #[] #[.pointer (some ⟨k, 0, none⟩)]] w fun e w' => e = .returned (.tuple #[.int .i64 (tmS a n), .int .i64 (tmS b n)]) ∧ Below w.heap.size w w' := by
  have g1 := h1
  simp only [okV_iff] at g1
  have G1 := hidE g1; clear g1 h1
  have Hn := hidE hn; clear hn
  have hp2 : ∀ nq, (((w.alloc (Obj.cells #[Value.int IntKind.i64 a, Value.int IntKind.i64 b] 65)).alloc (Obj.cells #[Value.int IntKind.i64 c, Value.int IntKind.i64 d] 65)).drewN nq).cell? ⟨k, 0, none⟩ = some (.int .i64 n) := fun _ => by
    show ((w.alloc _).alloc _).cell? ⟨k, 0, none⟩ = _
    rw [World.cell?_alloc_past _ _ _ (by simp; omega), World.cell?_alloc_past _ _ _ hk]; exact hp
  have HP := hidE hp2; clear hp2 hp
  go_enter Tryz.func115, Tryz.ntmps115
  go_wp2
  go_quiet ((go_at_call 190; exact Calls.quiet_of_same (cl_scl _ _ _ _ _ (by have := G1.out; omega) Hn.out (HP.out _))))
  go_wp2
  go_ret2
  exact ⟨rfl, below_drewN (((Below.refl _ _).alloc (Nat.le_refl _) _).alloc (by simp) _) _⟩


theorem scl_c (a b n : Int) (w : World) (hn : -9223372036854775808 ≤ n ∧ n ≤ 9223372036854775807) : Calls Tryz.prog 170 #[V a b, .int .i64 n] w fun e w' => e = .returned (VE (sclS a b n)) ∧ Below w.heap.size w w' := by
  cases h : okV a b
  · have e : sclS a b n = (0, 0, 10) := by unfold sclS; rw [h]; rfl
    rw [e]; clear e
    have h' : (okV a b && okV a b) = false := by rw [h]; rfl
    clear hn h
    go_enter Tryz.func170, Tryz.ntmps170
    go_wp2_with (go_at_call 172; ((with_reducible refine (valid_no _ _ _ _ _ _ h').mono ?_); rintro e w' ⟨rfl, hb⟩; obtain ⟨hc, hf⟩ := bcell hb; have hz0 := bsz hb (w.heap.size) (by first | assumption | (simp; done) | (simp; omega)); have hz1 := bsz hb (w.heap.size + 1) (by first | assumption | (simp; done) | (simp; omega)); have hz2 := bsz hb (w.heap.size + 1 + 1) (by first | assumption | (simp; done) | (simp; omega))))
    refine bodyPost_ret (v := VE (0, 0, 10)) (by simp [results, Tryz.results170, go_sem, *]) rfl ⟨rfl, ?_⟩
    (repeat (first | exact Below.refl _ _ | assumption | refine balloc ?_ _ | refine below_drewN ?_ _ | refine bstep (by assumption) ?_ | refine bstep (Past.prop _) ?_ | refine Below.setCell ?_ (by first | exact Nat.le_refl _ | (simp; done) | (simp; omega)) _))
  · have e : sclS a b n = gate (okV (tmS a n) (tmS b n)) (tmS a n) (tmS b n) := by rw [← sclS_tm h, h]; rfl
    rw [e]; clear e
    generalize hg : gate (okV (tmS a n) (tmS b n)) (tmS a n) (tmS b n) = g
    have Hg := hidE hg; clear hg
    have HB : ∀ w', Below (((w.alloc (Obj.cells #[Value.int IntKind.i64 a, Value.int IntKind.i64 b] 65)).alloc (Obj.cells #[Value.int IntKind.i64 n] 2)).alloc (Obj.cells #[Value.int IntKind.i64 0, Value.int IntKind.i64 0] 65)).heap.size (((w.alloc (Obj.cells #[Value.int IntKind.i64 a, Value.int IntKind.i64 b] 65)).alloc (Obj.cells #[Value.int IntKind.i64 n] 2)).alloc (Obj.cells #[Value.int IntKind.i64 0, Value.int IntKind.i64 0] 65)) w' → Calls Tryz.prog 115 #[V a b, V a b, .func (.func 190) #[] #[.pointer (some ⟨w.heap.size + 1, 0, none⟩)]] w' fun e w'' => e = .returned (.tuple #[.int .i64 (tmS a n), .int .i64 (tmS b n)]) ∧ Below w'.heap.size w' w'' := fun w' hw' =>
      both_scl _ _ _ _ n _ _ h hn (Nat.lt_of_lt_of_le (by simp) hw'.size) (by rw [hw'.cell (by simp)]; simp [go_sem])
    have HB' := hidE HB; clear HB hn
    go_enter Tryz.func170, Tryz.ntmps170
    go_wp2_with (go_at_call 172; ((with_reducible refine (valid_yes _ _ _ _ _ (tmS a n) (tmS b n) _ h h HB'.out).mono ?_); rintro e w' ⟨rfl, hb⟩; rw [Hg.out]; obtain ⟨hc, hf⟩ := bcell hb; have hz2 := bsz hb (w.heap.size + 1 + 1) (by simp)))
    refine bodyPost_ret (v := VE g) (by simp [results, Tryz.results170, go_sem, *]) rfl ⟨rfl, ?_⟩
    (repeat (first | exact Below.refl _ _ | assumption | refine balloc ?_ _ | refine below_drewN ?_ _ | refine bstep (by assumption) ?_ | refine bstep (Past.prop _) ?_ | refine Below.setCell ?_ (by first | exact Nat.le_refl _ | (simp; done) | (simp; omega)) _))
end Go.Proofs.YthlepbbdjmmelaaGreat

namespace Go.Proofs.YthlepbbdjmmelaaGreat
open Go.ChangeShapes Go.WideShapes Go.ChangeAt Go.RowKit
attribute [local irreducible] Go.Calls

theorem most_c (w : World) : Calls Tryz.prog 88 #[] w fun e w' => e = .returned (V 1073741824 1073741824) ∧ Below w.heap.size w w' := by
  go_enter Tryz.func88, Tryz.ntmps88
  go_wp2
  exact bodyPost_ret (v := V 1073741824 1073741824) (by simp [results, Tryz.results88, go_sem]) rfl ⟨rfl, by (repeat (first | exact Below.refl _ _ | assumption | refine balloc ?_ _ | refine below_drewN ?_ _ | refine bstep (by assumption) ?_ | refine bstep (Past.prop _) ?_ | refine Below.setCell ?_ (by first | exact Nat.le_refl _ | (simp; done) | (simp; omega)) _))⟩
theorem isCap_c (a b : Int) (w : World) : Calls Tryz.prog 84 #[V a b] w fun e w' => e = .returned (.bool (capB (a, b))) ∧ Below w.heap.size w w' := by
  have e : capB (a, b) = (leB 0 0 a b && leB a b 1073741824 1073741824) := rfl
  rw [e]; clear e
  cases h1 : leB 0 0 a b
  all_goals
    go_enter Tryz.func84, Tryz.ntmps84
    go_wp2
    refine wp_region_past_lit (by kernel_rfl) (by kernel_rfl) ?_
    have hc := Past.cell (W := w.alloc (Obj.cells #[Value.int IntKind.i64 a, Value.int IntKind.i64 b] 65))
    repeat (go_big_quiet_step ((first | (go_at_call 88; exact Past.call _ (most_c _)) | (go_at_call 113; exact Past.call _ (le_eq h1)) | (go_at_call 113; exact Past.call _ (le _ _ _ _ _)))))
    refine wpQuiet_nil ?_
    rintro _ ⟨x, rfl⟩
    go_wp2
    go_ret
    exact ⟨rfl, ((Below.refl _ _).alloc (Nat.le_refl _) _).trans (x.2.mono (by simp))⟩
theorem isCap_eq {a b : Int} {r : Bool} {w : World} (h : capB (a, b) = r) : Calls Tryz.prog 84 #[V a b] w fun e w' => e = .returned (.bool r) ∧ Below w.heap.size w w' := h ▸ isCap_c a b w
set_option maxRecDepth 100000 in
theorem pomay_c (k a b n : Int) (w : World) (hk : 0 ≤ k ∧ k ≤ 255) : Calls Tryz.prog 40 #[.agg #[.int .u8 k, .int .i64 a, .int .i64 b, .int .i64 n]] w fun e w' => e = .returned (.bool (polB (k, (a, b), n))) ∧ Below w.heap.size w w' := by
  by_cases k0 : k = 0
  · subst k0
    by_cases ha : a = 0
    · by_cases hb : b = 0
      · subst ha; subst hb
        have e : polB (0, (0, 0), n) = (n == 0) := by by_cases hn : n = 0 <;> simp [polB, hn]
        have E := hidE e; rw [E.out]; clear e
        go_enter Tryz.func40, Tryz.ntmps40
        go_wp2
        go_ret
        exact ⟨by simp, by (repeat (first | exact Below.refl _ _ | assumption | refine balloc ?_ _ | refine below_drewN ?_ _ | refine bstep (by assumption) ?_ | refine bstep (Past.prop _) ?_ | refine Below.setCell ?_ (by first | exact Nat.le_refl _ | (simp; done) | (simp; omega)) _))⟩
      · have e : polB (0, (a, b), n) = false := by unfold polB; simp [hb]
        have E := hidE e; rw [E.out]; clear e
        have zb : (b == 0) = false := beq_eq_false_iff_ne.2 hb
        subst ha
        go_enter Tryz.func40, Tryz.ntmps40
        go_wp2
        go_ret
        exact ⟨by simp, by (repeat (first | exact Below.refl _ _ | assumption | refine balloc ?_ _ | refine below_drewN ?_ _ | refine bstep (by assumption) ?_ | refine bstep (Past.prop _) ?_ | refine Below.setCell ?_ (by first | exact Nat.le_refl _ | (simp; done) | (simp; omega)) _))⟩
    · have e : polB (0, (a, b), n) = false := by unfold polB; simp [ha]
      have E := hidE e; rw [E.out]; clear e
      have za : (a == 0) = false := beq_eq_false_iff_ne.2 ha
      go_enter Tryz.func40, Tryz.ntmps40
      go_wp2
      go_ret
      exact ⟨by simp, by (repeat (first | exact Below.refl _ _ | assumption | refine balloc ?_ _ | refine below_drewN ?_ _ | refine bstep (by assumption) ?_ | refine bstep (Past.prop _) ?_ | refine Below.setCell ?_ (by first | exact Nat.le_refl _ | (simp; done) | (simp; omega)) _))⟩
  by_cases k1 : k = 1
  · subst k1
    cases hc : capB (a, b)
    · have e : polB (1, (a, b), n) = false := by unfold polB; simp [hc]
      have E := hidE e; rw [E.out]; clear e k0
      go_enter Tryz.func40, Tryz.ntmps40
      go_wp2_with (go_at_call 84; ((with_reducible refine (isCap_eq hc).mono ?_); rintro e w' ⟨rfl, hb⟩; obtain ⟨hc, hf⟩ := bcell hb; have hz0 := bsz hb (w.heap.size) (by first | assumption | (simp; done) | (simp; omega))))
      go_ret
      exact ⟨rfl, by (repeat (first | exact Below.refl _ _ | assumption | refine balloc ?_ _ | refine below_drewN ?_ _ | refine bstep (by assumption) ?_ | refine bstep (Past.prop _) ?_ | refine Below.setCell ?_ (by first | exact Nat.le_refl _ | (simp; done) | (simp; omega)) _))⟩
    · have e : polB (1, (a, b), n) = (n == 0) := by by_cases hn : n = 0 <;> simp [polB, hc, hn]
      have E := hidE e; rw [E.out]; clear e k0
      go_enter Tryz.func40, Tryz.ntmps40
      go_wp2_with (go_at_call 84; ((with_reducible refine (isCap_eq hc).mono ?_); rintro e w' ⟨rfl, hb⟩; obtain ⟨hc, hf⟩ := bcell hb; have hz0 := bsz hb (w.heap.size) (by first | assumption | (simp; done) | (simp; omega))))
      go_ret
      exact ⟨rfl, by (repeat (first | exact Below.refl _ _ | assumption | refine balloc ?_ _ | refine below_drewN ?_ _ | refine bstep (by assumption) ?_ | refine bstep (Past.prop _) ?_ | refine Below.setCell ?_ (by first | exact Nat.le_refl _ | (simp; done) | (simp; omega)) _))⟩
  by_cases k2 : k = 2
  · subst k2
    cases hc : capB (a, b)
    · have e : polB (2, (a, b), n) = false := by unfold polB; simp [hc]
      have E := hidE e; rw [E.out]; clear e k0 k1
      go_enter Tryz.func40, Tryz.ntmps40
      go_wp2_with (go_at_call 84; ((with_reducible refine (isCap_eq hc).mono ?_); rintro e w' ⟨rfl, hb⟩; obtain ⟨hc, hf⟩ := bcell hb; have hz0 := bsz hb (w.heap.size) (by first | assumption | (simp; done) | (simp; omega))))
      go_ret
      exact ⟨rfl, by (repeat (first | exact Below.refl _ _ | assumption | refine balloc ?_ _ | refine below_drewN ?_ _ | refine bstep (by assumption) ?_ | refine bstep (Past.prop _) ?_ | refine Below.setCell ?_ (by first | exact Nat.le_refl _ | (simp; done) | (simp; omega)) _))⟩
    · by_cases h1 : 1 ≤ n
      · have e : polB (2, (a, b), n) = decide (n ≤ 4096) := by unfold polB; simp [hc, h1]
        have E := hidE e; rw [E.out]; clear e k0 k1
        have d1 : decide (1 ≤ n) = true := decide_eq_true h1
        clear h1
        go_enter Tryz.func40, Tryz.ntmps40
        go_wp2_with (go_at_call 84; ((with_reducible refine (isCap_eq hc).mono ?_); rintro e w' ⟨rfl, hb⟩; obtain ⟨hc, hf⟩ := bcell hb; have hz0 := bsz hb (w.heap.size) (by first | assumption | (simp; done) | (simp; omega))))
        go_ret
        exact ⟨rfl, by (repeat (first | exact Below.refl _ _ | assumption | refine balloc ?_ _ | refine below_drewN ?_ _ | refine bstep (by assumption) ?_ | refine bstep (Past.prop _) ?_ | refine Below.setCell ?_ (by first | exact Nat.le_refl _ | (simp; done) | (simp; omega)) _))⟩
      · have e : polB (2, (a, b), n) = false := by unfold polB; simp [h1]
        have E := hidE e; rw [E.out]; clear e k0 k1
        have d1 : decide (1 ≤ n) = false := decide_eq_false h1
        clear h1
        go_enter Tryz.func40, Tryz.ntmps40
        go_wp2_with (go_at_call 84; ((with_reducible refine (isCap_eq hc).mono ?_); rintro e w' ⟨rfl, hb⟩; obtain ⟨hc, hf⟩ := bcell hb; have hz0 := bsz hb (w.heap.size) (by first | assumption | (simp; done) | (simp; omega))))
        go_ret
        exact ⟨rfl, by (repeat (first | exact Below.refl _ _ | assumption | refine balloc ?_ _ | refine below_drewN ?_ _ | refine bstep (by assumption) ?_ | refine bstep (Past.prop _) ?_ | refine Below.setCell ?_ (by first | exact Nat.le_refl _ | (simp; done) | (simp; omega)) _))⟩
  · have e : polB (k, (a, b), n) = false := by unfold polB; simp [k0, k1, k2]
    have E := hidE e; rw [E.out]; clear e
    have z0 : (k == 0) = false := beq_eq_false_iff_ne.2 k0
    have z1 : (k == 1) = false := beq_eq_false_iff_ne.2 k1
    have z2 : (k == 2) = false := beq_eq_false_iff_ne.2 k2
    go_enter Tryz.func40, Tryz.ntmps40
    go_wp2
    go_ret
    exact ⟨rfl, by (repeat (first | exact Below.refl _ _ | assumption | refine balloc ?_ _ | refine below_drewN ?_ _ | refine bstep (by assumption) ?_ | refine bstep (Past.prop _) ?_ | refine Below.setCell ?_ (by first | exact Nat.le_refl _ | (simp; done) | (simp; omega)) _))⟩
theorem pomay_eq {k a b n : Int} {r : Bool} {w : World} (hk : 0 ≤ k ∧ k ≤ 255) (h : polB (k, (a, b), n) = r) : Calls Tryz.prog 40 #[.agg #[.int .u8 k, .int .i64 a, .int .i64 b, .int .i64 n]] w fun e w' => e = .returned (.bool r) ∧ Below w.heap.size w w' := h ▸ pomay_c k a b n w hk
theorem canAsk_c (k a b n now : Int) (w : World) (hk : 0 ≤ k ∧ k ≤ 255) : Calls Tryz.prog 78 #[.agg #[.int .u8 k, .int .i64 a, .int .i64 b, .int .i64 n], .int .i64 now] w fun e w' => e = .returned (.bool (polB (k, (a, b), n) && nowB now)) ∧ Below w.heap.size w w' := by
  cases hp : polB (k, (a, b), n)
  · go_enter Tryz.func78, Tryz.ntmps78
    go_wp2_with (go_at_call 40; ((with_reducible refine (pomay_eq hk hp).mono ?_); rintro e w' ⟨rfl, hb⟩; obtain ⟨hc, hf⟩ := bcell hb; have hz0 := bsz hb (w.heap.size) (by first | assumption | (simp; done) | (simp; omega))))
    go_ret
    exact ⟨rfl, by (repeat (first | exact Below.refl _ _ | assumption | refine balloc ?_ _ | refine below_drewN ?_ _ | refine bstep (by assumption) ?_ | refine bstep (Past.prop _) ?_ | refine Below.setCell ?_ (by first | exact Nat.le_refl _ | (simp; done) | (simp; omega)) _))⟩
  · by_cases h1 : -1099511627776 ≤ now
    · have e : nowB now = decide (now ≤ 1099511627776) := by unfold nowB; rw [decide_eq_decide]; omega
      have E := hidE e; rw [E.out]; clear e
      have d1 : decide (-1099511627776 ≤ now) = true := decide_eq_true h1
      clear h1
      go_enter Tryz.func78, Tryz.ntmps78
      go_wp2_with (go_at_call 40; ((with_reducible refine (pomay_eq hk hp).mono ?_); rintro e w' ⟨rfl, hb⟩; obtain ⟨hc, hf⟩ := bcell hb; have hz0 := bsz hb (w.heap.size) (by first | assumption | (simp; done) | (simp; omega))))
      go_ret
      exact ⟨rfl, by (repeat (first | exact Below.refl _ _ | assumption | refine balloc ?_ _ | refine below_drewN ?_ _ | refine bstep (by assumption) ?_ | refine bstep (Past.prop _) ?_ | refine Below.setCell ?_ (by first | exact Nat.le_refl _ | (simp; done) | (simp; omega)) _))⟩
    · have e : nowB now = false := by unfold nowB; exact decide_eq_false (by omega)
      have E := hidE e; rw [E.out]; clear e
      have d1 : decide (-1099511627776 ≤ now) = false := decide_eq_false h1
      clear h1
      go_enter Tryz.func78, Tryz.ntmps78
      go_wp2_with (go_at_call 40; ((with_reducible refine (pomay_eq hk hp).mono ?_); rintro e w' ⟨rfl, hb⟩; obtain ⟨hc, hf⟩ := bcell hb; have hz0 := bsz hb (w.heap.size) (by first | assumption | (simp; done) | (simp; omega))))
      go_ret
      exact ⟨rfl, by (repeat (first | exact Below.refl _ _ | assumption | refine balloc ?_ _ | refine below_drewN ?_ _ | refine bstep (by assumption) ?_ | refine bstep (Past.prop _) ?_ | refine Below.setCell ?_ (by first | exact Nat.le_refl _ | (simp; done) | (simp; omega)) _))⟩
theorem canAsk_eq {k a b n now : Int} {r : Bool} {w : World} (hk : 0 ≤ k ∧ k ≤ 255) (h : (polB (k, (a, b), n) && nowB now) = r) : Calls Tryz.prog 78 #[.agg #[.int .u8 k, .int .i64 a, .int .i64 b, .int .i64 n], .int .i64 now] w fun e w' => e = .returned (.bool r) ∧ Below w.heap.size w w' := h ▸ canAsk_c k a b n now w hk
end Go.Proofs.YthlepbbdjmmelaaGreat

namespace Go.Proofs.YthlepbbdjmmelaaGreat
open Go.ChangeShapes Go.WideShapes Go.ChangeAt Go.RowKit
attribute [local irreducible] Go.Calls

theorem run_store_fnP {P : Program} {w : World} {a : Addr} {m : Mode} {f : Fn} {l r : Array Value} : (store a (.func f l r) m).run P w = stored P w a (.func f l r) m := run_store P w a _ m rfl
attribute [local go_sem] run_store_fnP
/-- A question. -/
abbrev QV (k a b n now : Int) (a1 a2 a3 : Option Addr) (n1 c1 n2 c2 n3 c3 : Nat) : Value := .agg #[.int .u8 k, .int .i64 a, .int .i64 b, .int .i64 n, .int .i64 now, .slice a1 n1 c1, .slice a2 n2 c2, .slice a3 n3 c3]
/-- A row of one limit. -/
theorem lim_of {now a b : Int} {p : Nat} {t : TypeId} {w : World} (hn : okT now = true) (hc : okV a b = true) (hB : Blk w p #[.int .i64 now, .int .i64 a, .int .i64 b] t) :
    Calls Tryz.prog 144 #[.slice (some ⟨p, 0, none⟩) 1 1] w fun e w' => ∃ (q : Option Addr) (m c : Nat), e = .returned (.tuple #[.slice q m c, .int .i64 0]) ∧ m ≤ 1 ∧ SliS w' (.slice q m c) (limL now (a, b)) ∧ Below w.heap.size w w' := by
  refine (of_c [(now, (a, b))] (some ⟨p, 0, none⟩) 1 w (by simp) (argS_blk hB)).mono ?_
  rintro e w' ⟨v, f, er, rfl, hs, hd, hb⟩
  have hok : [(now, (a, b))].all okS = true := by simp [okS, hn, hc]
  rcases hd with ⟨_, rfl, hof⟩ | ⟨h, _⟩
  · have := limL_isOf hn hc hof
    subst this
    obtain ⟨q, c, rfl, h1, h2, h3⟩ := hs
    refine ⟨q, _, c, rfl, ?_, ⟨q, c, rfl, h1, h2, h3⟩, hb⟩
    unfold limL; split <;> simp
  · rw [hok] at h; cases h
theorem commit_c {F G : List Sg} (k a b n now : Int) (a1 a2 a3 : Option Addr) (n1 c1 n2 c2 n3 c3 : Nat) (w : World) (S1 : SliS w (.slice a1 n1 c1) F) (S2 : SliS w (.slice a2 n2 c2) G) (hl : n1 + n2 ≤ 999999980) :
    Calls Tryz.prog 137 #[QV k a b n now a1 a2 a3 n1 c1 n2 c2 n3 c3] w fun e w' => e = .returned (.tuple #[.int .i64 (leP F G now).1, .bool (leP F G now).2]) ∧ Below w.heap.size w w' := by
  unfold leP
  go_enter Tryz.func137, Tryz.ntmps137
  go_wp2_with (go_at_call 169; ((with_reducible refine (cle_s (F := F) (G := G) (S1.past (by (repeat (first | exact Below.refl _ _ | assumption | refine balloc ?_ _ | refine below_drewN ?_ _ | refine bstep (by assumption) ?_ | refine bstep (Past.prop _) ?_ | refine Below.setCell ?_ (by first | exact Nat.le_refl _ | (simp; done) | (simp; omega)) _)))) (S2.past (by (repeat (first | exact Below.refl _ _ | assumption | refine balloc ?_ _ | refine below_drewN ?_ _ | refine bstep (by assumption) ?_ | refine bstep (Past.prop _) ?_ | refine Below.setCell ?_ (by first | exact Nat.le_refl _ | (simp; done) | (simp; omega)) _)))) hl rfl).mono ?_); rintro e w' ⟨rfl, hb⟩))
  go_ret2
  exact ⟨rfl, by (repeat (first | exact Below.refl _ _ | assumption | refine balloc ?_ _ | refine below_drewN ?_ _ | refine bstep (by assumption) ?_ | refine bstep (Past.prop _) ?_ | refine Below.setCell ?_ (by first | exact Nat.le_refl _ | (simp; done) | (simp; omega)) _))⟩
theorem bound_c {H : List Sg} (k a b n now : Int) (a1 a2 a3 : Option Addr) (n1 c1 n2 c2 n3 c3 : Nat) (w : World) (hn : nowB now = true) (hc : capB (a, b) = true) (S3 : SliS w (.slice a3 n3 c3) H) (hl : n3 ≤ 999999970) :
    Calls Tryz.prog 138 #[QV k a b n now a1 a2 a3 n1 c1 n2 c2 n3 c3] w fun e w' => e = .returned (.tuple #[.int .i64 (leP H (limL now (a, b)) now).1, .bool (leP H (limL now (a, b)) now).2]) ∧ Below w.heap.size w w' := by
  unfold leP
  have hT := now_okT hn; have hV : okV a b = true := cap_ok hc
  have HLIM := hidE (fun p t w' (hB : Blk w' p #[.int .i64 now, .int .i64 a, .int .i64 b] t) => lim_of hT hV hB)
  have HS3 := hidE S3
  clear hT hV hn hc S3
  obtain ⟨w0, hw0⟩ : ∃ w0, w0 = w.alloc (Obj.cells #[.int .u8 k, .int .i64 a, .int .i64 b, .int .i64 n, .int .i64 now, .slice a1 n1 c1, .slice a2 n2 c2, .slice a3 n3 c3] 142) := ⟨_, rfl⟩
  have B1 : Blk w0 w.heap.size #[.int .u8 k, .int .i64 a, .int .i64 b, .int .i64 n, .int .i64 now, .slice a1 n1 c1, .slice a2 n2 c2, .slice a3 n3 c3] 142 := by rw [hw0]; exact Blk.made _ _ _
  have hb0 : Below w.heap.size w w0 := by rw [hw0]; (repeat (first | exact Below.refl _ _ | assumption | refine balloc ?_ _ | refine below_drewN ?_ _ | refine bstep (by assumption) ?_ | refine bstep (Past.prop _) ?_ | refine Below.setCell ?_ (by first | exact Nat.le_refl _ | (simp; done) | (simp; omega)) _))
  have HB0 := hidE hb0
  obtain ⟨r, hr⟩ : ∃ r, leS H (limL now (a, b)) now = r := ⟨_, rfl⟩
  rw [hr]
  have HR := hidE hr
  clear hr
  go_enter Tryz.func138, Tryz.ntmps138
  go_upto_region 1 with fail
  rw [← hw0]
  clear hw0
  have b0 := B1.cell 0; have b1 := B1.cell 1; have b2 := B1.cell 2; have b3 := B1.cell 3; have b4 := B1.cell 4; have b5 := B1.cell 5; have b6 := B1.cell 6; have b7 := B1.cell 7; have bz := B1.lt
  simp at b0 b1 b2 b3 b4 b5 b6 b7
  go_wp2_with fail
  ((with_reducible refine (HLIM.out _ _ _ (Blk.made_at _ _ _ _ (by simp))).mono ?_); rintro e w1 ⟨q, m, c, rfl, hm, hq, hb1⟩)
  have B1 := (B1.alloc (.cells #[.int .i64 now, .int .i64 a, .int .i64 b] 112)).past hb1
  have hB1 : Below w.heap.size w w1 := by (repeat (first | exact Below.refl _ _ | assumption | refine balloc ?_ _ | refine below_drewN ?_ _ | refine bstep (by assumption) ?_ | refine bstep (Past.prop _) ?_ | refine Below.setCell ?_ (by first | exact Nat.le_refl _ | (simp; done) | (simp; omega)) _))
  clear b0 b1 b2 b3 b4 b5 b6 b7 bz hb1
  have b0 := B1.cell 0; have b1 := B1.cell 1; have b2 := B1.cell 2; have b3 := B1.cell 3; have b4 := B1.cell 4; have b5 := B1.cell 5; have b6 := B1.cell 6; have b7 := B1.cell 7; have bz := B1.lt
  simp at b0 b1 b2 b3 b4 b5 b6 b7
  go_wp2_with fail
  ((with_reducible refine (cle_s (F := H) (G := limL now (a, b)) (HS3.out.past hB1) hq (by omega) HR.out).mono ?_); rintro e w2 ⟨rfl, hb2⟩)
  go_wp2
  go_ret2
  exact ⟨rfl, by (repeat (first | exact Below.refl _ _ | assumption | refine balloc ?_ _ | refine below_drewN ?_ _ | refine bstep (by assumption) ?_ | refine bstep (Past.prop _) ?_ | refine Below.setCell ?_ (by first | exact Nat.le_refl _ | (simp; done) | (simp; omega)) _))⟩
theorem average_c {H : List Sg} (k a b n now : Int) (a1 a2 a3 : Option Addr) (n1 c1 n2 c2 n3 c3 : Nat) (w : World) (hc : capB (a, b) = true) (h1 : 1 ≤ n) (h2 : n ≤ 4096) (S3 : SliS w (.slice a3 n3 c3) H) (hl : n3 ≤ 999999990) :
    Calls Tryz.prog 139 #[QV k a b n now a1 a2 a3 n1 c1 n2 c2 n3 c3] w fun e w' => e = .returned (.tuple #[.int .i64 (ovP H now n (wide (a, b) n)).1, .bool (ovP H now n (wide (a, b) n)).2]) ∧ Below w.heap.size w w' := by
  have hs := scl_wide hc h1 h2
  unfold ovP
  obtain ⟨l1, l2, hw⟩ : ∃ l1 l2, wide (a, b) n = (l1, l2) := ⟨_, _, rfl⟩
  rw [hw] at hs ⊢
  simp only at hs
  clear hw
  have HSC := hidE (fun w' => hs ▸ scl_c a b n w' (by omega))
  obtain ⟨r, hr⟩ : ∃ r, overS H now n (l1, l2) = r := ⟨_, rfl⟩
  rw [hr]
  have HR := hidE hr
  have HS3 := hidE S3
  clear hs hr hc h1 h2 S3
  obtain ⟨w0, hw0⟩ : ∃ w0, w0 = w.alloc (Obj.cells #[.int .u8 k, .int .i64 a, .int .i64 b, .int .i64 n, .int .i64 now, .slice a1 n1 c1, .slice a2 n2 c2, .slice a3 n3 c3] 142) := ⟨_, rfl⟩
  have B1 : Blk w0 w.heap.size #[.int .u8 k, .int .i64 a, .int .i64 b, .int .i64 n, .int .i64 now, .slice a1 n1 c1, .slice a2 n2 c2, .slice a3 n3 c3] 142 := by rw [hw0]; exact Blk.made _ _ _
  have hb0 : Below w.heap.size w w0 := by rw [hw0]; (repeat (first | exact Below.refl _ _ | assumption | refine balloc ?_ _ | refine below_drewN ?_ _ | refine bstep (by assumption) ?_ | refine bstep (Past.prop _) ?_ | refine Below.setCell ?_ (by first | exact Nat.le_refl _ | (simp; done) | (simp; omega)) _))
  have HB0 := hidE hb0
  go_enter Tryz.func139, Tryz.ntmps139
  go_upto_region 1 with fail
  rw [← hw0]
  clear hw0
  have b0 := B1.cell 0; have b1 := B1.cell 1; have b2 := B1.cell 2; have b3 := B1.cell 3; have b4 := B1.cell 4; have b5 := B1.cell 5; have b6 := B1.cell 6; have b7 := B1.cell 7; have bz := B1.lt
  simp at b0 b1 b2 b3 b4 b5 b6 b7
  go_wp2_with fail
  ((with_reducible refine (HSC.out _).mono ?_); rintro e w1 ⟨rfl, hb1⟩)
  have B1 := B1.past hb1
  have hB1 : Below w.heap.size w w1 := by (repeat (first | exact Below.refl _ _ | assumption | refine balloc ?_ _ | refine below_drewN ?_ _ | refine bstep (by assumption) ?_ | refine bstep (Past.prop _) ?_ | refine Below.setCell ?_ (by first | exact Nat.le_refl _ | (simp; done) | (simp; omega)) _))
  clear b0 b1 b2 b3 b4 b5 b6 b7 bz
  have b0 := B1.cell 0; have b1 := B1.cell 1; have b2 := B1.cell 2; have b3 := B1.cell 3; have b4 := B1.cell 4; have b5 := B1.cell 5; have b6 := B1.cell 6; have b7 := B1.cell 7; have bz := B1.lt
  simp at b0 b1 b2 b3 b4 b5 b6 b7
  go_wp2_with fail
  ((with_reducible refine (over_s (F := H) (HS3.out.past (by (repeat (first | exact Below.refl _ _ | assumption | refine balloc ?_ _ | refine below_drewN ?_ _ | refine bstep (by assumption) ?_ | refine bstep (Past.prop _) ?_ | refine Below.setCell ?_ (by first | exact Nat.le_refl _ | (simp; done) | (simp; omega)) _)))) hl HR.out).mono ?_); rintro e w2 ⟨rfl, hb2⟩)
  go_wp2
  go_ret2
  exact ⟨rfl, by (repeat (first | exact Below.refl _ _ | assumption | refine balloc ?_ _ | refine below_drewN ?_ _ | refine bstep (by assumption) ?_ | refine bstep (Past.prop _) ?_ | refine Below.setCell ?_ (by first | exact Nat.le_refl _ | (simp; done) | (simp; omega)) _))⟩

theorem pkinds_c (w : World) : Calls Tryz.prog 109 #[] w fun e w' => e = .returned (.agg #[.func (.func 137) #[] #[], .func (.func 138) #[] #[], .func (.func 139) #[] #[]]) ∧ Below w.heap.size w w' := by
  go_enter Tryz.func109, Tryz.ntmps109
  go_wp2
  exact bodyPost_ret (v := .agg #[.func (.func 137) #[] #[], .func (.func 138) #[] #[], .func (.func 139) #[] #[]]) (by simp [results, Tryz.results109, go_sem]) rfl ⟨rfl, by (repeat (first | exact Below.refl _ _ | assumption | refine balloc ?_ _ | refine below_drewN ?_ _ | refine bstep (by assumption) ?_ | refine bstep (Past.prop _) ?_ | refine Below.setCell ?_ (by first | exact Nat.le_refl _ | (simp; done) | (simp; omega)) _))⟩
set_option maxRecDepth 100000 in
set_option maxHeartbeats 2000000 in
theorem answer_c {F G H : List Sg} (k a b n now : Int) (a1 a2 a3 : Option Addr) (n1 c1 n2 c2 n3 c3 : Nat) (w : World) (hp : polB (k, (a, b), n) = true) (hn : nowB now = true) (S1 : SliS w (.slice a1 n1 c1) F) (S2 : SliS w (.slice a2 n2 c2) G) (S3 : SliS w (.slice a3 n3 c3) H) (h1 : n1 + n2 ≤ 999999980) (h3 : n3 ≤ 999999970) :
    Calls Tryz.prog 80 #[QV k a b n now a1 a2 a3 n1 c1 n2 c2 n3 c3] w fun e w' => e = .returned (.tuple #[.int .i64 (ansP (k, (a, b), n) now F G H).1, .bool (ansP (k, (a, b), n) now F G H).2]) ∧ Below w.heap.size w w' := by
  have HS1 := hidE S1; have HS2 := hidE S2; have HS3 := hidE S3
  obtain ⟨r, hr⟩ : ∃ r, ansP (k, (a, b), n) now F G H = r := ⟨_, rfl⟩
  have hk := pol_kind hp
  simp only at hk
  obtain ⟨w0, hw0⟩ : ∃ w0, w0 = w.alloc (Obj.cells #[.int .u8 k, .int .i64 a, .int .i64 b, .int .i64 n, .int .i64 now, .slice a1 n1 c1, .slice a2 n2 c2, .slice a3 n3 c3] 142) := ⟨_, rfl⟩
  have B1 : Blk w0 w.heap.size #[.int .u8 k, .int .i64 a, .int .i64 b, .int .i64 n, .int .i64 now, .slice a1 n1 c1, .slice a2 n2 c2, .slice a3 n3 c3] 142 := by rw [hw0]; exact Blk.made _ _ _
  have hb0 : Below w.heap.size w w0 := by rw [hw0]; (repeat (first | exact Below.refl _ _ | assumption | refine balloc ?_ _ | refine below_drewN ?_ _ | refine bstep (by assumption) ?_ | refine bstep (Past.prop _) ?_ | refine Below.setCell ?_ (by first | exact Nat.le_refl _ | (simp; done) | (simp; omega)) _))
  have HB0 := hidE hb0
  rw [hr]
  rcases hk with ⟨rfl, hz⟩ | ⟨rfl, hc, hz⟩ | ⟨rfl, hc, hn1, hn2⟩
  · clear hz
    have er : r = leP F G now := by rw [← hr]; rfl
    subst er
    have i0 : ∀ w, (Instr.index 177 (.agg #[.func (.func 137) #[] #[], .func (.func 138) #[] #[], .func (.func 139) #[] #[]]) (.int .u8 0)).run Tryz.prog w = .ok (.func (.func 137) #[] #[]) w := fun _ => by kernel_rfl
    have HC := hidE (fun w' (hb : Below w.heap.size w w') => commit_c 0 a b n now a1 a2 a3 n1 c1 n2 c2 n3 c3 w' (HS1.out.past hb) (HS2.out.past hb) h1)
    generalize leP F G now = g at *
    clear S1 S2 S3 hr
    go_enter Tryz.func80, Tryz.ntmps80
    go_wp2
    rw [← hw0]
    refine wp_region_past_lit (by kernel_rfl) (by kernel_rfl) ?_
    have hcell := Past.cell (W := w0)
    have b0 := B1.cell 0; have b1 := B1.cell 1; have b2 := B1.cell 2; have b3 := B1.cell 3; have b4 := B1.cell 4; have b5 := B1.cell 5; have b6 := B1.cell 6; have b7 := B1.cell 7; have bz := B1.lt
    simp at b0 b1 b2 b3 b4 b5 b6 b7
    repeat (go_big_quiet_step ((first | (go_at_call 109; exact Past.call _ (pkinds_c _)) | (go_at_call 137; exact Past.call _ (HC.out _ (HB0.out.trans ((Past.prop _).mono HB0.out.size)))))))
    refine wpQuiet_nil ?_
    rintro _ ⟨x, rfl⟩
    go_wp2
    go_ret2
    exact ⟨rfl, HB0.out.trans (x.2.mono HB0.out.size)⟩
  · clear hz
    have er : r = leP H (limL now (a, b)) now := by rw [← hr]; rfl
    subst er
    have i0 : ∀ w, (Instr.index 177 (.agg #[.func (.func 137) #[] #[], .func (.func 138) #[] #[], .func (.func 139) #[] #[]]) (.int .u8 1)).run Tryz.prog w = .ok (.func (.func 138) #[] #[]) w := fun _ => by kernel_rfl
    have HC := hidE (fun w' (hb : Below w.heap.size w w') => bound_c 1 a b n now a1 a2 a3 n1 c1 n2 c2 n3 c3 w' hn hc (HS3.out.past hb) h3)
    generalize leP H (limL now (a, b)) now = g at *
    clear S1 S2 S3 hr
    go_enter Tryz.func80, Tryz.ntmps80
    go_wp2
    rw [← hw0]
    refine wp_region_past_lit (by kernel_rfl) (by kernel_rfl) ?_
    have hcell := Past.cell (W := w0)
    have b0 := B1.cell 0; have b1 := B1.cell 1; have b2 := B1.cell 2; have b3 := B1.cell 3; have b4 := B1.cell 4; have b5 := B1.cell 5; have b6 := B1.cell 6; have b7 := B1.cell 7; have bz := B1.lt
    simp at b0 b1 b2 b3 b4 b5 b6 b7
    repeat (go_big_quiet_step ((first | (go_at_call 109; exact Past.call _ (pkinds_c _)) | (go_at_call 138; exact Past.call _ (HC.out _ (HB0.out.trans ((Past.prop _).mono HB0.out.size)))))))
    refine wpQuiet_nil ?_
    rintro _ ⟨x, rfl⟩
    go_wp2
    go_ret2
    exact ⟨rfl, HB0.out.trans (x.2.mono HB0.out.size)⟩
  · have er : r = ovP H now n (wide (a, b) n) := by rw [← hr]; rfl
    subst er
    have i0 : ∀ w, (Instr.index 177 (.agg #[.func (.func 137) #[] #[], .func (.func 138) #[] #[], .func (.func 139) #[] #[]]) (.int .u8 2)).run Tryz.prog w = .ok (.func (.func 139) #[] #[]) w := fun _ => by kernel_rfl
    have HC := hidE (fun w' (hb : Below w.heap.size w w') => average_c 2 a b n now a1 a2 a3 n1 c1 n2 c2 n3 c3 w' hc hn1 hn2 (HS3.out.past hb) (by omega))
    generalize ovP H now n (wide (a, b) n) = g at *
    clear S1 S2 S3 hr
    go_enter Tryz.func80, Tryz.ntmps80
    go_wp2
    rw [← hw0]
    refine wp_region_past_lit (by kernel_rfl) (by kernel_rfl) ?_
    have hcell := Past.cell (W := w0)
    have b0 := B1.cell 0; have b1 := B1.cell 1; have b2 := B1.cell 2; have b3 := B1.cell 3; have b4 := B1.cell 4; have b5 := B1.cell 5; have b6 := B1.cell 6; have b7 := B1.cell 7; have bz := B1.lt
    simp at b0 b1 b2 b3 b4 b5 b6 b7
    repeat (go_big_quiet_step ((first | (go_at_call 109; exact Past.call _ (pkinds_c _)) | (go_at_call 139; exact Past.call _ (HC.out _ (HB0.out.trans ((Past.prop _).mono HB0.out.size)))))))
    refine wpQuiet_nil ?_
    rintro _ ⟨x, rfl⟩
    go_wp2
    go_ret2
    exact ⟨rfl, HB0.out.trans (x.2.mono HB0.out.size)⟩
end Go.Proofs.YthlepbbdjmmelaaGreat

namespace Go.Proofs.YthlepbbdjmmelaaGreat
open Go.ChangeShapes Go.WideShapes Go.ChangeAt Go.RowKit
attribute [local irreducible] Go.Calls

theorem leastV_step {l : List Pol} {k : Nat} (h : k < l.length) : leastV (l.take (k + 1)) = if userB (l.getD k (0, (0, 0), 0)) then minV (leastV (l.take k)) (l.getD k (0, (0, 0), 0)).2.1 else leastV (l.take k) := by
  rw [← leastV_snoc]
  congr 1
  rw [List.take_add_one, List.getElem?_eq_getElem h]
  simp [List.getD_eq_getElem?_getD, h]
set_option maxRecDepth 100000 in
set_option maxHeartbeats 2000000 in
theorem least_c (l : List Pol) (a : Option Addr) (cap : Nat) (w : World) (hl : l.length ≤ 1000000) (hA : ArgPs w a l) (h64 : ∀ x ∈ l, P64 x) :
    Calls Tryz.prog 50 #[.slice a l.length cap] w fun e w' => e = .returned (.agg #[.int .u8 1, .int .i64 (leastV l).1, .int .i64 (leastV l).2, .int .i64 0]) ∧ Below w.heap.size w w' := by
  have HA := hidE hA; have H64 := hidE h64
  clear hA h64
  go_enter Tryz.func50, Tryz.ntmps50
  go_wp2_with fail
  ((with_reducible refine (most_c _).mono ?_); rintro e w1 ⟨rfl, hb1⟩)
  have B0 : Blk w1 w.heap.size #[.int .u8 0, .int .i64 0, .int .i64 0, .int .i64 0] 84 := (Blk.made _ _ _).past hb1
  have hB1 : Below w.heap.size w w1 := bstep hb1 (by (repeat (first | exact Below.refl _ _ | assumption | refine balloc ?_ _ | refine below_drewN ?_ _ | refine bstep (by assumption) ?_ | refine bstep (Past.prop _) ?_ | refine Below.setCell ?_ (by first | exact Nat.le_refl _ | (simp; done) | (simp; omega)) _)))
  have hz1 := B0.lt
  clear hb1
  go_wp2
  go_loopw [10] (fun i wr => ∃ k : Nat, ∃ x y : Int, k ≤ l.length ∧ i = .int .i64 k ∧ leastV (l.take k) = (x, y) ∧ Below w.heap.size w wr ∧ Blk wr w1.heap.size #[.int .u8 1, .int .i64 x, .int .i64 y, .int .i64 0] 84 ∧ Blk wr w.heap.size #[.int .u8 0, .int .i64 0, .int .i64 0, .int .i64 0] 84) (fun i _ => l.length - (intOf i).toNat)
  case atStart => exact ⟨0, 1073741824, 1073741824, Nat.zero_le _, rfl, rfl, by (repeat (first | exact Below.refl _ _ | assumption | refine balloc ?_ _ | refine below_drewN ?_ _ | refine bstep (by assumption) ?_ | refine bstep (Past.prop _) ?_ | refine Below.setCell ?_ (by first | exact Nat.le_refl _ | (simp; done) | (simp; omega)) _)), Blk.made _ _ _, B0.alloc _⟩
  case round =>
    obtain ⟨k, x, y, hk, rfl, hs, hb, s1, s0⟩ := hrel
    have HS := hidE hs; clear hs
    have c10 := s1.cell 0; have c11 := s1.cell 1; have c12 := s1.cell 2; have c13 := s1.cell 3; have f1 := s1.free; have z1 := s1.lt
    simp at c10 c11 c12 c13
    by_cases hlt : k < l.length
    · obtain ⟨b, off, rfl, hbz, hc⟩ := HA.out (by omega)
      have hbr : b < wr.heap.size := Nat.lt_of_lt_of_le hbz hb.size
      obtain ⟨e0, e1, e2, e3⟩ := hc k hlt
      rw [← hb.cell hbz] at e0 e1 e2 e3
      have HST := hidE (leastV_step hlt)
      have hq : P64 (l.getD k (0, (0, 0), 0)) := by
        rw [List.getD_eq_getElem?_getD, List.getElem?_eq_getElem hlt]; exact H64.out _ (List.getElem_mem hlt)
      generalize l.getD k (0, (0, 0), 0) = q at *
      obtain ⟨qk, ⟨qa, qb⟩, qn⟩ := q
      simp only at e0 e1 e2 e3
      have hq1 : 0 ≤ qk ∧ qk ≤ 255 := hq.1
      clear hq hc
      have hmade : ∀ (wz : World), wz = wr.alloc (.cells #[.int .u8 qk, .int .i64 qa, .int .i64 qb, .int .i64 qn] 84) → Blk wz w1.heap.size #[.int .u8 1, .int .i64 x, .int .i64 y, .int .i64 0] 84 ∧ Blk wz w.heap.size #[.int .u8 0, .int .i64 0, .int .i64 0, .int .i64 0] 84 ∧ Blk wz wr.heap.size #[.int .u8 qk, .int .i64 qa, .int .i64 qb, .int .i64 qn] 84 := fun wz hz => by
        subst hz; exact ⟨s1.alloc _, s0.alloc _, Blk.made _ _ _⟩
      have HMADE := hidE hmade
      clear hmade
      by_cases k1 : qk = 1
      · subst k1
        cases hp : polB (1, (qa, qb), qn)
        · have hu : userB (1, (qa, qb), qn) = false := by unfold userB; rw [hp]; rfl
          have HN := HST.out
          rw [hu, if_neg (by decide), HS.out] at HN
          have HN := hidE HN
          clear hu HST
          go_wp2_with fail
          ((with_reducible refine (pomay_eq hq1 hp).mono ?_); rintro e w2 ⟨rfl, hb2⟩)
          obtain ⟨m1, m0, mr⟩ := HMADE.out _ rfl
          have m1 := m1.past hb2; have m0 := m0.past hb2
          have hB2 : Below w.heap.size w w2 := bstep hb2 (by (repeat (first | exact Below.refl _ _ | assumption | refine balloc ?_ _ | refine below_drewN ?_ _ | refine bstep (by assumption) ?_ | refine bstep (Past.prop _) ?_ | refine Below.setCell ?_ (by first | exact Nat.le_refl _ | (simp; done) | (simp; omega)) _)))
          clear hb2 e0 e1 e2 e3
          go_wp2
          exact ⟨⟨k + 1, x, y, by omega, by go_num, HN.out, hB2, m1, m0⟩, by simp [intOf]; omega⟩
        · have hu : userB (1, (qa, qb), qn) = true := by unfold userB; rw [hp]; rfl
          have HN := HST.out
          rw [hu, if_pos rfl, HS.out] at HN
          unfold minV at HN
          simp only at HN
          have HN := hidE HN
          clear hu HST
          go_wp2_with fail
          ((with_reducible refine (pomay_eq hq1 hp).mono ?_); rintro e w2 ⟨rfl, hb2⟩)
          obtain ⟨m1, m0, mr⟩ := HMADE.out _ rfl
          have m1 := m1.past hb2; have m0 := m0.past hb2; have mr := mr.past hb2
          have hB2 : Below w.heap.size w w2 := bstep hb2 (by (repeat (first | exact Below.refl _ _ | assumption | refine balloc ?_ _ | refine below_drewN ?_ _ | refine bstep (by assumption) ?_ | refine bstep (Past.prop _) ?_ | refine Below.setCell ?_ (by first | exact Nat.le_refl _ | (simp; done) | (simp; omega)) _)))
          have hsz := hb.size
          clear hb2 e0 e1 e2 e3 c10 c11 c12 c13 f1 z1
          have c10 := m1.cell 0; have c11 := m1.cell 1; have c12 := m1.cell 2; have c13 := m1.cell 3; have f1 := m1.free; have z1 := m1.lt
          have g0 := mr.cell 0; have g1 := mr.cell 1; have g2 := mr.cell 2; have g3 := mr.cell 3; have gz := mr.lt
          simp at c10 c11 c12 c13 g0 g1 g2 g3
          go_wp2_with fail
          ((with_reducible refine (mn_c _ _ _ _ _).mono ?_); rintro e w3 ⟨rfl, hb3⟩)
          have m1 := m1.past hb3; have m0 := m0.past hb3
          have hB3 : Below w.heap.size w w3 := bstep hb3 hB2
          clear hb3 hB2 c10 c11 c12 c13 f1 z1 g0 g1 g2 g3 gz
          have c10 := m1.cell 0; have c11 := m1.cell 1; have c12 := m1.cell 2; have c13 := m1.cell 3; have f1 := m1.free; have z1 := m1.lt
          simp at c10 c11 c12 c13
          go_wp2
          exact ⟨⟨k + 1, _, _, by omega, by go_num, HN.out, by (repeat (first | exact Below.refl _ _ | assumption | refine balloc ?_ _ | refine below_drewN ?_ _ | refine bstep (by assumption) ?_ | refine bstep (Past.prop _) ?_ | refine Below.setCell ?_ (by first | exact Nat.le_refl _ | (simp; done) | (simp; omega)) _)), (m1.set 1 _).set 2 _, (m0.other (by omega) _).other (by omega) _⟩, by simp [intOf]; omega⟩
      · have z1' : (qk == 1) = false := beq_eq_false_iff_ne.2 k1
        have hu : userB (qk, (qa, qb), qn) = false := by unfold userB; simp [k1]
        have HN := HST.out
        rw [hu, if_neg (by decide), HS.out] at HN
        have HN := hidE HN
        clear hu HST
        go_wp2
        obtain ⟨m1, m0, mr⟩ := HMADE.out _ rfl
        exact ⟨⟨k + 1, x, y, by omega, by go_num, HN.out, by (repeat (first | exact Below.refl _ _ | assumption | refine balloc ?_ _ | refine below_drewN ?_ _ | refine bstep (by assumption) ?_ | refine bstep (Past.prop _) ?_ | refine Below.setCell ?_ (by first | exact Nat.le_refl _ | (simp; done) | (simp; omega)) _)), m1, m0⟩, by simp [intOf]; omega⟩
    · have hkl : k = l.length := by omega
      have c00 := s0.cell 0; have c01 := s0.cell 1; have c02 := s0.cell 2; have c03 := s0.cell 3; have f0 := s0.free; have z0 := s0.lt
      simp at c00 c01 c02 c03
      go_wp2
      subst hkl
      have e := HS.out
      rw [List.take_length] at e
      refine bodyPost_ret (v := .agg #[.int .u8 1, .int .i64 x, .int .i64 y, .int .i64 0]) (by simp [results, Tryz.results50, go_sem, *]) rfl ⟨by rw [e], ?_⟩
      (repeat (first | exact Below.refl _ _ | assumption | refine balloc ?_ _ | refine below_drewN ?_ _ | refine bstep (by assumption) ?_ | refine bstep (Past.prop _) ?_ | refine Below.setCell ?_ (by first | exact Nat.le_refl _ | (simp; done) | (simp; omega)) _))
end Go.Proofs.YthlepbbdjmmelaaGreat

namespace Go.Proofs.YthlepbbdjmmelaaGreat
open Go.ChangeShapes Go.WideShapes Go.ChangeAt Go.RowKit
attribute [local irreducible] Go.Calls

abbrev C3 (r : Int × Bool × Int) : Value := .tuple #[.int .i64 r.1, .bool r.2.1, .int .i64 r.2.2]
abbrev PB (k a b n : Int) : Array Value := #[.int .u8 k, .int .i64 a, .int .i64 b, .int .i64 n]
abbrev F3 (a1 a2 a3 : Option Addr) (n1 c1 n2 c2 n3 c3 : Nat) : Array Value := #[.slice a1 n1 c1, .slice a2 n2 c2, .slice a3 n3 c3]
set_option maxRecDepth 100000 in
set_option maxHeartbeats 4000000 in
theorem pchk_c {F G H : List Sg} (k a b n now : Int) (a1 a2 a3 : Option Addr) (n1 c1 n2 c2 n3 c3 : Nat) (w : World) (hk : 0 ≤ k ∧ k ≤ 255) (S1 : SliS w (.slice a1 n1 c1) F) (S2 : SliS w (.slice a2 n2 c2) G) (S3 : SliS w (.slice a3 n3 c3) H) (h1 : n1 ≤ 100000000) (h2 : n2 ≤ 100000000) (h3 : n3 ≤ 100000000) :
    Calls Tryz.prog 38 #[.agg (PB k a b n), .int .i64 now, .agg (F3 a1 a2 a3 n1 c1 n2 c2 n3 c3)] w fun e w' => e = .returned (C3 (chkP (k, (a, b), n) now F G H)) ∧ Below w.heap.size w w' := by
  have HS1 := hidE S1; have HS2 := hidE S2; have HS3 := hidE S3
  have i0 : ∀ w, (Instr.index 85 (.agg (F3 a1 a2 a3 n1 c1 n2 c2 n3 c3)) (.int .i64 0)).run Tryz.prog w = .ok (.slice a1 n1 c1) w := fun _ => by kernel_rfl
  have i1 : ∀ w, (Instr.index 85 (.agg (F3 a1 a2 a3 n1 c1 n2 c2 n3 c3)) (.int .i64 1)).run Tryz.prog w = .ok (.slice a2 n2 c2) w := fun _ => by kernel_rfl
  have i2 : ∀ w, (Instr.index 85 (.agg (F3 a1 a2 a3 n1 c1 n2 c2 n3 c3)) (.int .i64 2)).run Tryz.prog w = .ok (.slice a3 n3 c3) w := fun _ => by kernel_rfl
  obtain ⟨w0, hw0⟩ : ∃ w0, w0 = (w.alloc (Obj.cells (PB k a b n) 84)).alloc (Obj.cells (F3 a1 a2 a3 n1 c1 n2 c2 n3 c3) 85) := ⟨_, rfl⟩
  have B1 : Blk w0 w.heap.size (PB k a b n) 84 := by rw [hw0]; exact (Blk.made _ _ _).alloc _
  have B2 : Blk w0 (w.heap.size + 1) (F3 a1 a2 a3 n1 c1 n2 c2 n3 c3) 85 := by rw [hw0]; exact Blk.made_at _ _ _ _ (by simp)
  have hb0 : Below w.heap.size w w0 := by rw [hw0]; (repeat (first | exact Below.refl _ _ | assumption | refine balloc ?_ _ | refine below_drewN ?_ _ | refine bstep (by assumption) ?_ | refine bstep (Past.prop _) ?_ | refine Below.setCell ?_ (by first | exact Nat.le_refl _ | (simp; done) | (simp; omega)) _))
  have HB0 := hidE hb0
  have HM1 := hidE (fun b w' (hb : Below w.heap.size w w') (e : mayB F = b) => pmay_s (HS1.out.past hb) (by omega) e)
  have HM2 := hidE (fun b w' (hb : Below w.heap.size w w') (e : mayB G = b) => pmay_s (HS2.out.past hb) (by omega) e)
  have HM3 := hidE (fun b w' (hb : Below w.heap.size w w') (e : mayB H = b) => pmay_s (HS3.out.past hb) (by omega) e)
  clear S1 S2 S3
  cases hp : polB (k, (a, b), n) && nowB now
  · have HE := hidE (chk_arg (F := F) (G := G) (H := H) hp)
    rw [HE.out]
    clear HE HM1 HM2 HM3
    go_enter Tryz.func38, Tryz.ntmps38
    go_upto_region 1 with fail
    rw [← hw0]
    clear hw0
    have b0 := B1.cell 0; have b1 := B1.cell 1; have b2 := B1.cell 2; have b3 := B1.cell 3; have bz := B1.lt; have d0 := B2.cell 0; have d1 := B2.cell 1; have d2 := B2.cell 2; have dz := B2.lt
    simp at b0 b1 b2 b3 d0 d1 d2
    go_wp2_with (go_at_call 78; ((with_reducible refine (canAsk_eq hk hp).mono ?_); rintro e w1 ⟨rfl, hb1⟩))
    refine bodyPost_ret (v := C3 (0, false, 2)) (by simp [results, Tryz.results38, go_sem]) rfl ⟨rfl, ?_⟩
    (repeat (first | exact Below.refl _ _ | assumption | refine balloc ?_ _ | refine below_drewN ?_ _ | refine bstep (by assumption) ?_ | refine bstep (Past.prop _) ?_ | refine Below.setCell ?_ (by first | exact Nat.le_refl _ | (simp; done) | (simp; omega)) _))
  have hp' := hp
  rw [Bool.and_eq_true] at hp'
  obtain ⟨hp1, hp2⟩ := hp'
  cases e1 : mayB F
  · have hm : (mayB F && mayB G && mayB H) = false := by simp [e1]
    have HE := hidE (chk_form hp hm)
    rw [HE.out]
    clear HE hm hp1 hp2
    go_enter Tryz.func38, Tryz.ntmps38
    go_upto_region 1 with fail
    rw [← hw0]
    clear hw0
    have b0 := B1.cell 0; have b1 := B1.cell 1; have b2 := B1.cell 2; have b3 := B1.cell 3; have bz := B1.lt; have d0 := B2.cell 0; have d1 := B2.cell 1; have d2 := B2.cell 2; have dz := B2.lt
    simp at b0 b1 b2 b3 d0 d1 d2
    go_wp2_with fail
    ((with_reducible refine (canAsk_eq hk hp).mono ?_); rintro e w1 ⟨rfl, hb1⟩)
    have hB : Below w.heap.size w w1 := bstep hb1 HB0.out
    have B1 := B1.past hb1; have B2 := B2.past hb1
    clear b0 b1 b2 b3 bz d0 d1 d2 dz hb1
    have b0 := B1.cell 0; have b1 := B1.cell 1; have b2 := B1.cell 2; have b3 := B1.cell 3; have bz := B1.lt; have d0 := B2.cell 0; have d1 := B2.cell 1; have d2 := B2.cell 2; have dz := B2.lt
    simp at b0 b1 b2 b3 d0 d1 d2
    go_wp2
    refine wp_loop_rounds 4 ?_
    rw [rounds_succ]
    go_wp2_with fail
    ((with_reducible refine (HM1.out _ _ (by (repeat (first | exact Below.refl _ _ | assumption | refine balloc ?_ _ | refine below_drewN ?_ _ | refine bstep (by assumption) ?_ | refine bstep (Past.prop _) ?_ | refine Below.setCell ?_ (by first | exact Nat.le_refl _ | (simp; done) | (simp; omega)) _))) e1).mono ?_); rintro e w2 ⟨rfl, hb2⟩)
    go_wp2
    refine bodyPost_ret (v := C3 (0, false, 5)) (by simp [results, Tryz.results38, go_sem]) rfl ⟨rfl, ?_⟩
    (repeat (first | exact Below.refl _ _ | assumption | refine balloc ?_ _ | refine below_drewN ?_ _ | refine bstep (by assumption) ?_ | refine bstep (Past.prop _) ?_ | refine Below.setCell ?_ (by first | exact Nat.le_refl _ | (simp; done) | (simp; omega)) _))
  cases e2 : mayB G
  · have hm : (mayB F && mayB G && mayB H) = false := by simp [e1, e2]
    have HE := hidE (chk_form hp hm)
    rw [HE.out]
    clear HE hm hp1 hp2
    go_enter Tryz.func38, Tryz.ntmps38
    go_upto_region 1 with fail
    rw [← hw0]
    clear hw0
    have b0 := B1.cell 0; have b1 := B1.cell 1; have b2 := B1.cell 2; have b3 := B1.cell 3; have bz := B1.lt; have d0 := B2.cell 0; have d1 := B2.cell 1; have d2 := B2.cell 2; have dz := B2.lt
    simp at b0 b1 b2 b3 d0 d1 d2
    go_wp2_with fail
    ((with_reducible refine (canAsk_eq hk hp).mono ?_); rintro e w1 ⟨rfl, hb1⟩)
    have hB : Below w.heap.size w w1 := bstep hb1 HB0.out
    have B1 := B1.past hb1; have B2 := B2.past hb1
    clear b0 b1 b2 b3 bz d0 d1 d2 dz hb1
    have b0 := B1.cell 0; have b1 := B1.cell 1; have b2 := B1.cell 2; have b3 := B1.cell 3; have bz := B1.lt; have d0 := B2.cell 0; have d1 := B2.cell 1; have d2 := B2.cell 2; have dz := B2.lt
    simp at b0 b1 b2 b3 d0 d1 d2
    go_wp2
    refine wp_loop_rounds 4 ?_
    rw [rounds_succ]
    go_wp2_with fail
    ((with_reducible refine (HM1.out _ _ (by (repeat (first | exact Below.refl _ _ | assumption | refine balloc ?_ _ | refine below_drewN ?_ _ | refine bstep (by assumption) ?_ | refine bstep (Past.prop _) ?_ | refine Below.setCell ?_ (by first | exact Nat.le_refl _ | (simp; done) | (simp; omega)) _))) e1).mono ?_); rintro e w2 ⟨rfl, hb2⟩)
    go_wp2
    rw [rounds_succ]
    go_wp2_with fail
    ((with_reducible refine (HM2.out _ _ (by (repeat (first | exact Below.refl _ _ | assumption | refine balloc ?_ _ | refine below_drewN ?_ _ | refine bstep (by assumption) ?_ | refine bstep (Past.prop _) ?_ | refine Below.setCell ?_ (by first | exact Nat.le_refl _ | (simp; done) | (simp; omega)) _))) e2).mono ?_); rintro e w3 ⟨rfl, hb3⟩)
    go_wp2
    refine bodyPost_ret (v := C3 (0, false, 5)) (by simp [results, Tryz.results38, go_sem]) rfl ⟨rfl, ?_⟩
    (repeat (first | exact Below.refl _ _ | assumption | refine balloc ?_ _ | refine below_drewN ?_ _ | refine bstep (by assumption) ?_ | refine bstep (Past.prop _) ?_ | refine Below.setCell ?_ (by first | exact Nat.le_refl _ | (simp; done) | (simp; omega)) _))
  cases e3 : mayB H
  · have hm : (mayB F && mayB G && mayB H) = false := by simp [e1, e2, e3]
    have HE := hidE (chk_form hp hm)
    rw [HE.out]
    clear HE hm hp1 hp2
    go_enter Tryz.func38, Tryz.ntmps38
    go_upto_region 1 with fail
    rw [← hw0]
    clear hw0
    have b0 := B1.cell 0; have b1 := B1.cell 1; have b2 := B1.cell 2; have b3 := B1.cell 3; have bz := B1.lt; have d0 := B2.cell 0; have d1 := B2.cell 1; have d2 := B2.cell 2; have dz := B2.lt
    simp at b0 b1 b2 b3 d0 d1 d2
    go_wp2_with fail
    ((with_reducible refine (canAsk_eq hk hp).mono ?_); rintro e w1 ⟨rfl, hb1⟩)
    have hB : Below w.heap.size w w1 := bstep hb1 HB0.out
    have B1 := B1.past hb1; have B2 := B2.past hb1
    clear b0 b1 b2 b3 bz d0 d1 d2 dz hb1
    have b0 := B1.cell 0; have b1 := B1.cell 1; have b2 := B1.cell 2; have b3 := B1.cell 3; have bz := B1.lt; have d0 := B2.cell 0; have d1 := B2.cell 1; have d2 := B2.cell 2; have dz := B2.lt
    simp at b0 b1 b2 b3 d0 d1 d2
    go_wp2
    refine wp_loop_rounds 4 ?_
    rw [rounds_succ]
    go_wp2_with fail
    ((with_reducible refine (HM1.out _ _ (by (repeat (first | exact Below.refl _ _ | assumption | refine balloc ?_ _ | refine below_drewN ?_ _ | refine bstep (by assumption) ?_ | refine bstep (Past.prop _) ?_ | refine Below.setCell ?_ (by first | exact Nat.le_refl _ | (simp; done) | (simp; omega)) _))) e1).mono ?_); rintro e w2 ⟨rfl, hb2⟩)
    go_wp2
    rw [rounds_succ]
    go_wp2_with fail
    ((with_reducible refine (HM2.out _ _ (by (repeat (first | exact Below.refl _ _ | assumption | refine balloc ?_ _ | refine below_drewN ?_ _ | refine bstep (by assumption) ?_ | refine bstep (Past.prop _) ?_ | refine Below.setCell ?_ (by first | exact Nat.le_refl _ | (simp; done) | (simp; omega)) _))) e2).mono ?_); rintro e w3 ⟨rfl, hb3⟩)
    go_wp2
    rw [rounds_succ]
    go_wp2_with fail
    ((with_reducible refine (HM3.out _ _ (by (repeat (first | exact Below.refl _ _ | assumption | refine balloc ?_ _ | refine below_drewN ?_ _ | refine bstep (by assumption) ?_ | refine bstep (Past.prop _) ?_ | refine Below.setCell ?_ (by first | exact Nat.le_refl _ | (simp; done) | (simp; omega)) _))) e3).mono ?_); rintro e w4 ⟨rfl, hb4⟩)
    go_wp2
    refine bodyPost_ret (v := C3 (0, false, 5)) (by simp [results, Tryz.results38, go_sem]) rfl ⟨rfl, ?_⟩
    (repeat (first | exact Below.refl _ _ | assumption | refine balloc ?_ _ | refine below_drewN ?_ _ | refine bstep (by assumption) ?_ | refine bstep (Past.prop _) ?_ | refine Below.setCell ?_ (by first | exact Nat.le_refl _ | (simp; done) | (simp; omega)) _))
  have hm : (mayB F && mayB G && mayB H) = true := by simp [e1, e2, e3]
  have HE := hidE (chk_ok hp hm)
  rw [HE.out]
  clear HE hm
  have HAN := hidE (fun w' (hb : Below w.heap.size w w') => answer_c k a b n now a1 a2 a3 n1 c1 n2 c2 n3 c3 w' hp1 hp2 (HS1.out.past hb) (HS2.out.past hb) (HS3.out.past hb) (by omega) (by omega))
  generalize ansP (k, (a, b), n) now F G H = g at *
  clear hp1 hp2
  go_enter Tryz.func38, Tryz.ntmps38
  go_upto_region 1 with fail
  rw [← hw0]
  clear hw0
  have b0 := B1.cell 0; have b1 := B1.cell 1; have b2 := B1.cell 2; have b3 := B1.cell 3; have bz := B1.lt; have d0 := B2.cell 0; have d1 := B2.cell 1; have d2 := B2.cell 2; have dz := B2.lt
  simp at b0 b1 b2 b3 d0 d1 d2
  go_wp2_with fail
  ((with_reducible refine (canAsk_eq hk hp).mono ?_); rintro e w1 ⟨rfl, hb1⟩)
  have hB : Below w.heap.size w w1 := bstep hb1 HB0.out
  have B1 := B1.past hb1; have B2 := B2.past hb1
  clear b0 b1 b2 b3 bz d0 d1 d2 dz hb1
  have b0 := B1.cell 0; have b1 := B1.cell 1; have b2 := B1.cell 2; have b3 := B1.cell 3; have bz := B1.lt; have d0 := B2.cell 0; have d1 := B2.cell 1; have d2 := B2.cell 2; have dz := B2.lt
  simp at b0 b1 b2 b3 d0 d1 d2
  go_wp2
  refine wp_loop_rounds 4 ?_
  rw [rounds_succ]
  go_wp2_with fail
  ((with_reducible refine (HM1.out _ _ (by (repeat (first | exact Below.refl _ _ | assumption | refine balloc ?_ _ | refine below_drewN ?_ _ | refine bstep (by assumption) ?_ | refine bstep (Past.prop _) ?_ | refine Below.setCell ?_ (by first | exact Nat.le_refl _ | (simp; done) | (simp; omega)) _))) e1).mono ?_); rintro e w2 ⟨rfl, hb2⟩)
  go_wp2
  rw [rounds_succ]
  go_wp2_with fail
  ((with_reducible refine (HM2.out _ _ (by (repeat (first | exact Below.refl _ _ | assumption | refine balloc ?_ _ | refine below_drewN ?_ _ | refine bstep (by assumption) ?_ | refine bstep (Past.prop _) ?_ | refine Below.setCell ?_ (by first | exact Nat.le_refl _ | (simp; done) | (simp; omega)) _))) e2).mono ?_); rintro e w3 ⟨rfl, hb3⟩)
  go_wp2
  rw [rounds_succ]
  go_wp2_with fail
  ((with_reducible refine (HM3.out _ _ (by (repeat (first | exact Below.refl _ _ | assumption | refine balloc ?_ _ | refine below_drewN ?_ _ | refine bstep (by assumption) ?_ | refine bstep (Past.prop _) ?_ | refine Below.setCell ?_ (by first | exact Nat.le_refl _ | (simp; done) | (simp; omega)) _))) e3).mono ?_); rintro e w4 ⟨rfl, hb4⟩)
  go_wp2
  rw [rounds_succ]
  have B1 := ((B1.past hb2).past hb3).past hb4; have B2 := ((B2.past hb2).past hb3).past hb4
  clear b0 b1 b2 b3 bz d0 d1 d2 dz
  have b0 := B1.cell 0; have b1 := B1.cell 1; have b2 := B1.cell 2; have b3 := B1.cell 3; have bz := B1.lt; have d0 := B2.cell 0; have d1 := B2.cell 1; have d2 := B2.cell 2; have dz := B2.lt
  simp at b0 b1 b2 b3 d0 d1 d2
  go_wp2_with fail
  ((with_reducible refine (HAN.out _ (by (repeat (first | exact Below.refl _ _ | assumption | refine balloc ?_ _ | refine below_drewN ?_ _ | refine bstep (by assumption) ?_ | refine bstep (Past.prop _) ?_ | refine Below.setCell ?_ (by first | exact Nat.le_refl _ | (simp; done) | (simp; omega)) _)))).mono ?_); rintro e w5 ⟨rfl, hb5⟩)
  go_wp2
  refine bodyPost_ret (v := C3 (g.1, g.2, 0)) (by simp [results, Tryz.results38, go_sem]) rfl ⟨rfl, ?_⟩
  (repeat (first | exact Below.refl _ _ | assumption | refine balloc ?_ _ | refine below_drewN ?_ _ | refine bstep (by assumption) ?_ | refine bstep (Past.prop _) ?_ | refine Below.setCell ?_ (by first | exact Nat.le_refl _ | (simp; done) | (simp; omega)) _))
end Go.Proofs.YthlepbbdjmmelaaGreat
