/- The contract of slot.Begins. No conditions but the lists' sizes, and that the slices' cells read as integers. Package slot: the first and the last begin. No conditions but the lists' sizes, and that the slices' cells read as integers. What the statements on package slot call of their own: what is too great, the document's example, rows compared. No conditions but sizes. A range over a function whose body keeps a block of its own, made in an earlier round (a slice that it appends to): an iterator's contract with that block named, and the law for its caller. Program-free. No conditions. The contract of the iterator (span.window).stretches: it hands on the stretches of the window, one after the other. No conditions but that the slice's cells read as integers, and sizes. The contract of (span.window).evaluate: an error, or each of the window's stretches is handed on. No conditions but that the slice's cells read as integers, sizes, and what the function that is handed the stretches keeps. The contracts of vec.Min and vec.Max. No conditions. The contracts of span.along, Sum, Low and High. No conditions but the lists' sizes, and that the slices' cells read as integers. The contracts of span.Low and High. No conditions but the lists' sizes, and that the slices' cells read as integers. Package fit: whether a window can be asked for, what fits, what is taken, how many units. No conditions but the lists' sizes, and that the slices' cells read as integers. -/
import Derived.Test.YtmjfogmpbidooaaSFGC
import Derived.Test.YtmjfogmpbidooaaSFGB
import Derived.Test.YtmjfogmpbidooaaSFGA
import Derived.Test.YtmjfogmpbidooaaSFMB
import Derived.OwnWalkIn
import Derived.RangeFuncCalls
import Derived.Shelf.Abstract
import Derived.LoopTactic
namespace Go.Proofs.Ytmjfogmpbidooaa
open Go.ChangeShapes Go.WideShapes Go.ChangeAt Go.RowKit
attribute [local irreducible] Go.Calls

set_option maxRecDepth 100000 in
set_option maxHeartbeats 16000000 in
theorem begins_c (F l : List Sg) (a b : Int) (f g : Option Addr) (cF cL : Nat) (w : World) (hF : F.length ≤ 100000) (hl : l.length ≤ 1000000000) (ha : -9223372036854775808 ≤ a ∧ a ≤ 9223372036854775807) (hb : -9223372036854775808 ≤ b ∧ b ≤ 9223372036854775807) (hA : ArgS w f F) (hL : ArgS w g l) :
    Calls Try.prog 8 #[.slice f F.length cF, V a b, .slice g l.length cL] w (VsIs w (begS F a b l).1 (begS F a b l).2) := by
  have HFA := hidE (fun w hA hL => sfault_c F l a b f g cF cL w (by omega) hl ha hb hA hL)
  have HA := hidE hA; have HL := hidE hL
  clear hA hL
  by_cases h0 : slotE F a b l = 0
  · rw [begS_yes h0]
    obtain ⟨z1, z2, z3, z4, z5⟩ := slotE_zero h0
    obtain ⟨y1, y2, y3⟩ := lenE_zero z2
    rw [h0] at HFA
    have HLN := hidE (fun w hL => length_c l g cL w (by omega) hL)
    rw [show lenE l = (lenG l, 0) from Prod.ext y3 z2] at HLN
    have hlb := lenG_bound y2
    have HRK := hidE (runs_ok z1 z3.1)
    have HBG := hidE (fun k => bg_at (runs_ok z1 z3.1) z3.1 y1.1 y2 k)
    have HY2 := hidE y2; have HZ3 := hidE z3; have HZ4 := hidE z4; have HY1 := hidE y1
    have HTK := hidE (fun k => lenG_take_le y2 k)
    obtain ⟨n, hn⟩ : ∃ n, n = lenG l := ⟨_, rfl⟩
    have hn1 : 0 ≤ n ∧ n ≤ 65536 := by omega
    have hn2 : 0 ≤ n ∧ n ≤ 1000000 := by omega
    have HRM := hidE (fun w => room_c a b n w (by omega) (by omega) hn2)
    have HWI := hidE (fun w hA => within_c F a b f cF w (by omega) hA)
    rw [← hn] at HLN
    have HN := hidE hn
    have e0 : ((0 : Int) != 0) = false := rfl
    clear h0 z1 z2 z3 z4 z5 y1 y2 y3 hlb hn
    obtain ⟨p, hp⟩ : ∃ p, p = w.heap.size := ⟨_, rfl⟩
    go_enter Try.func8, Try.ntmps8
    go_upto_region 1 with fail
    obtain ⟨w0, hw0⟩ : ∃ w0, w0 = w.alloc (Obj.cells #[.int .i64 a, .int .i64 b] 24) := ⟨_, rfl⟩
    have B0 : Blk w0 p #[.int .i64 a, .int .i64 b] 24 := by rw [hw0, hp]; exact Blk.made _ _ _
    have hb0 : Below w.heap.size w w0 := by rw [hw0]; (repeat (first | exact Below.refl _ _ | assumption | refine balloc ?_ _ | refine below_drewN ?_ _ | refine bstep (by assumption) ?_ | refine bstep (Past.prop _) ?_ | refine Below.setCell ?_ (by first | exact Nat.le_refl _ | (simp; done) | (simp; omega)) _))
    rw [← hw0, ← hp]
    have HP := hidE hp; have HB0 := hidE hb0; have HB := hidE B0
    clear hw0 hp hb0
    have p0 := B0.cell 0; have p1 := B0.cell 1; have pz := B0.lt
    simp at p0 p1
    clear B0
    go_wp2_with fail
    ((with_reducible refine (HFA.out _ (HA.out.past HB0.out) (HL.out.past HB0.out)).mono ?_); rintro e w1 ⟨rfl, hb1⟩)
    have HB1 := hidE (HB0.out.trans (hb1.mono HB0.out.size)); have HP1 := hidE (HB.out.past hb1)
    clear hb1 p0 p1 pz HB HB0
    go_wp2_with fail
    ((with_reducible refine (HLN.out _ (HL.out.past HB1.out)).mono ?_); rintro e w2 ⟨rfl, hb2⟩)
    have HB2 := hidE (HB1.out.trans (hb2.mono HB1.out.size)); have HP2 := hidE (HP1.out.past hb2)
    have p0 := HP2.out.cell 0; have p1 := HP2.out.cell 1; have pz := HP2.out.lt
    simp at p0 p1
    clear hb2 HB1 HP1
    go_upto_region 5 with fail
    have HWR := hidE (fun (x : Past w2) => HRM.out x.1)
    have HWW := hidE (fun (x : Past w2) => HWI.out x.1 (HA.out.past (HB2.out.trans (x.2.mono HB2.out.size))))
    refine wp_region_J 6 [] (nthR [detR (V a b), detR (.int .i64 n), ownR w2.heap.size 24 2 (roomL a b n).length (cellsOfV (roomL a b n)), detR (.slice f F.length cF), detR (V a b), ownR w2.heap.size 48 3 (runsR F a b).length (cellsOfS (runsR F a b))]) (fun _ => false) (by kernel_rfl) (by decide) (by kernel_rfl) (stab_nth (by intro r hr; simp only [List.mem_cons, List.not_mem_nil, or_false] at hr; rcases hr with rfl | rfl | rfl | rfl | rfl | rfl <;> first | exact stab_det _ | exact stab_own _ _ _ _ _)) ?_ ?_ ?_
    · intro i o hi ho
      match i, hi with
      | 0, _ =>
        obtain rfl := Option.some.inj ho
        intro u x hd
        have hc := Past.cell x
        simp [go_sem, gives, frm, Act.put, nthR, detR, Region.wanted, Below.refl, hc, p0, p1, pz]
      | 1, _ =>
        obtain rfl := Option.some.inj ho
        intro u x hd
        have hc := Past.cell x
        simp [go_sem, gives, frm, Act.put, nthR, detR, Region.wanted, Below.refl]
      | 2, _ =>
        obtain rfl := Option.some.inj ho
        intro u x hd
        have hc := Past.cell x
        have d0 := hd 0 (by decide) (by kernel_rfl)
        have d1 := hd 1 (by decide) (by kernel_rfl)
        simp only [nthR, detR, List.getD_cons_zero, List.getD_cons_succ] at d0 d1
        simp [go_sem, gives, frm, Act.put, nthR, Region.wanted, d0, d1]
        (with_reducible refine (HWR.out x).mono ?_); rintro e w3 ⟨v, rfl, h3, hb3⟩; obtain ⟨av, cv, rfl⟩ := own_sli h3; exact ⟨_, rfl, hb3, ⟨av, _, cv, rfl, Nat.le_trans (Past.prop x).size hb3.size, own_base h3 (Past.prop x).size⟩⟩
      | 3, _ =>
        obtain rfl := Option.some.inj ho
        intro u x hd
        have hc := Past.cell x
        simp [go_sem, gives, frm, Act.put, nthR, detR, Region.wanted, Below.refl]
      | 4, _ =>
        obtain rfl := Option.some.inj ho
        intro u x hd
        have hc := Past.cell x
        simp [go_sem, gives, frm, Act.put, nthR, detR, Region.wanted, Below.refl, hc, p0, p1, pz]
      | 5, _ =>
        obtain rfl := Option.some.inj ho
        intro u x hd
        have hc := Past.cell x
        have d3 := hd 3 (by decide) (by kernel_rfl)
        have d4 := hd 4 (by decide) (by kernel_rfl)
        simp only [nthR, detR, List.getD_cons_zero, List.getD_cons_succ] at d3 d4
        simp [go_sem, gives, frm, Act.put, nthR, Region.wanted, d3, d4]
        (with_reducible refine (HWW.out x).mono ?_); rintro e w3 ⟨v, rfl, h3, hb3⟩; obtain ⟨av, cv, rfl⟩ := own_sli h3; exact ⟨_, rfl, hb3, ⟨av, _, cv, rfl, Nat.le_trans (Past.prop x).size hb3.size, own_base h3 (Past.prop x).size⟩⟩
      | i + 6, h => exact absurd h (by omega)
    · intro i o hx ho
      simp at hx
    · intro u x9 hu hne
      have g2 : ownR w2.heap.size 24 2 (roomL a b n).length (cellsOfV (roomL a b n)) (u 2) x9.1 := hu 2 (by decide)
      have g5 : ownR w2.heap.size 48 3 (runsR F a b).length (cellsOfS (runsR F a b)) (u 5) x9.1 := hu 5 (by decide)
      obtain ⟨av2, n2, cv2, e2, hz2, o2⟩ := g2
      obtain ⟨av5, n5, cv5, e5, _, o5⟩ := g5
      have e0' : u 0 = V a b := hu 0 (by decide)
      have e1' : u 1 = .int .i64 n := hu 1 (by decide)
      have e3' : u 3 = .slice f F.length cF := hu 3 (by decide)
      have e4' : u 4 = V a b := hu 4 (by decide)
      simp only [frm, List.take, Act.put, e0', e1', e2, e3', e4', e5]
      obtain ⟨w3, hw3⟩ : ∃ w3, w3 = x9.1 := ⟨_, rfl⟩
      have hx9 := Past.prop x9
      rw [← hw3] at o2 o5 hx9 hz2
      rw [← hw3]
      have HB3 := hidE (HB2.out.trans (hx9.mono HB2.out.size)); have HZ23 := hidE hz2; have HZ02 := hidE HB2.out.size
      obtain ⟨rb, cur, rfl, hn5, hc5, hm5, hB5, hAR⟩ := runs_own o5 (by rw [runsR_len]; omega)
      have HB5 := hidE hB5; have HAR := hidE hAR; have HO2 := hidE o2; have HN5 := hidE hn5
      have HRN := hidE (show (midR F a b).length + 1 ≤ 1000000 from by have := midR_len F a b; omega)
      have HRL := hidE (show (runsR F a b).length = ((midR F a b).length + 1) + 1 from by rw [runsR_len])
      have hk2 : n2 = (roomL a b n).length := by obtain ⟨a', c', e', _⟩ := sliVs_own o2; cases e'; rfl
      have HK2 := hidE hk2
      clear hw3 hx9 o2 o5 hB5 hAR hn5 hk2 e0' e1' e2 e3' e4' e5 hu p0 p1 pz hz2 HWR HWW
      obtain ⟨R, hR⟩ : ∃ R, R = runsR F a b := ⟨_, rfl⟩
      rw [← hR] at HAR HN5 HRK HRL
      have HRR := hidE hR
      obtain ⟨rm, hrm⟩ : ∃ rm, rm = roomL a b n := ⟨_, rfl⟩
      rw [← hrm] at HO2 HK2
      have HRM2 := hidE hrm
      have HGO := hidE (show begG F a b l = (bgS R rm l).1 from by rw [hR, hrm, HN.out]; rfl)
      have HBGK := hidE (fun k => show CW (bgS R rm (l.take k)).1 ∧ ∀ x ∈ (bgS R rm (l.take k)).1, a ≤ x.1 ∧ x.2 ≤ b from by rw [hR, hrm, HN.out]; exact HBG.out k)
      obtain ⟨N, hN⟩ : ∃ N, N = (midR F a b).length + 1 := ⟨_, rfl⟩
      rw [← hN] at HRK HRN HRL
      clear hR hrm hN HBG
      go_wp2
      go_loopg [11, 13, 36] l.length (fun gh v11 v13 v36 wr => ∃ (k : Nat) (av : Option Addr) (m cv β : Nat), l.length - k ≤ gh ∧ k ≤ l.length ∧ v36 = .int .i64 k ∧ v13 = .int .i64 (lenG (l.take k)) ∧ v11 = .slice av m cv ∧ w2.heap.size ≤ β ∧ β ≤ wr.heap.size ∧ wr.ownsRow β 24 2 (.slice av m cv) (bgS R rm (l.take k)).1.length (cellsOfV (bgS R rm (l.take k)).1) ∧ Blk wr rb cur 48 ∧ Below w2.heap.size w3 wr)
      case atStart => exact ⟨0, av2, n2, cv2, w2.heap.size, Nat.sub_le _ _, Nat.zero_le _, rfl, rfl, rfl, Nat.le_refl _, HZ23.out, HO2.out, HB5.out, Below.refl _ _⟩
      case round =>
        obtain ⟨k, av, m, cv, β, hgh, hk, rfl, rfl, rfl, hβ, hβz, ho, hB, hbel⟩ := hrel
        have HG := hidE hgh; have HO := hidE ho; have HBK := hidE hB; have HBL := hidE hbel
        clear hgh ho hB hbel
        have HWR := hidE (show Below w.heap.size w wr from HB3.out.trans (HBL.out.mono HZ02.out))
        by_cases hlt : k < l.length
        · obtain ⟨lb, off, rfl, hbz, hc⟩ := HL.out (by omega)
          have hbr : lb < wr.heap.size := by have := HWR.out.size; omega
          obtain ⟨e1, e2, e3⟩ := hc.get hlt
          rw [← HWR.out.cell hbz] at e1 e2 e3
          have HX := hidE (HY2.out (l.getD k (0, 0, 0)) (by rw [getD_get _ _ _ hlt]; exact List.getElem_mem hlt))
          have HT := hidE (show l.take (k + 1) = l.take k ++ [l.getD k (0, 0, 0)] from by rw [List.take_succ_eq_append_getElem hlt, getD_get _ _ _ hlt])
          have HS := hidE (lenG_take hlt)
          have hs := HTK.out k
          unfold ats at e1; unfold vls at e2 e3
          generalize l.getD k (0, 0, 0) = s at *
          obtain ⟨d, vm, vc⟩ := s
          have HX := hidE (show 1 ≤ d ∧ d ≤ 4096 from HX.out)
          have HS := hidE (show lenG (l.take (k + 1)) = lenG (l.take k) + d from HS.out)
          simp only at e1 e2 e3
          clear hc
          have hln : lenG l ≤ 65536 := by have := HN.out; omega
          obtain ⟨st, hst⟩ : ∃ st, st = lenG (l.take k) := ⟨_, rfl⟩
          rw [← hst] at hs HS
          rw [← hst]
          have HST := hidE hst
          have hs0 : 0 ≤ st ∧ st ≤ 65536 := by omega
          have HBW := HBGK.out k
          have HGP := hidE (gapK_ok HRK.out (s := st) (v := (vm, vc)) HX.out.1)
          have HSH := hidE (fun pre (hpre : pre <+: gapK R st d (vm, vc) N) => show (woF (bgS R rm (l.take k)).1 pre).1.length + (woF (bgS R rm (l.take k)).1 pre).2.length ≤ 1000000 from by
            have h1 := wo_short HBW.1 HBW.2 (by have := HZ3.out; omega) HGP.out.1 HGP.out.2 hpre
            have := HZ3.out
            omega)
          have HSN := hidE (show bgS R rm (l.take (k + 1)) = bgT R (bgS R rm (l.take k)) (d, (vm, vc)) from by rw [HT.out, bgS_snoc])
          have HSS := hidE (show (bgS R rm (l.take k)).2 = st from by rw [HST.out, bgS_start])
          generalize bgS R rm (l.take k) = bk at *
          have HSEQ := hidE (fun w' (_ : Below (wr.alloc (Obj.cells #[.int .i64 d, .int .i64 vm, .int .i64 vc] 37)).heap.size (wr.alloc (Obj.cells #[.int .i64 d, .int .i64 vm, .int .i64 vc] 37)) w') =>
            gaps_c R st d vm vc (some ⟨rb, 0, none⟩) cv5 β N w' HRL.out (by have := HRN.out; omega) HX.out (by omega) (fun i hi => by have := HRK.out.le hi; have := HZ4.out; omega) (by rw [← HN5.out]; exact hc5) hm5 (fun W => Blk W rb cur 48) (fun W hW => HAR.out W hW))
          rw [← HN5.out] at HSEQ
          clear hst HBW
          have HXB := hidE (Blk.made wr #[.int .i64 d, .int .i64 vm, .int .i64 vc] 37)
          have hza : Below wr.heap.size wr (wr.alloc (Obj.cells #[.int .i64 d, .int .i64 vm, .int .i64 vc] 37)) := (Below.refl _ _).alloc (Nat.le_refl _) _
          have HZA := hidE hza
          have heg : ∀ args w, (callFunc 21 args).run Try.prog w = .ok (.enter 21 args) w := enters_of Try.func21 (by kernel_rfl) rfl
          have HEG := hidE heg
          clear heg
          clear hza
          go_wp2_with fail
          ((with_reducible refine (without_c bk.1 (gapK R st d (vm, vc) N) av m cv β _ _ _ rb cur _ HEG.out (own_below HO.out HZA.out) ?hβ1 ?hB1 HSEQ.out HSH.out).mono ?_)
           case hβ1 => simp; omega
           case hB1 => exact HBK.out.past HZA.out)
          rintro e w4 ⟨v4, rfl, ho4, hb4, hB4, hk4⟩
          have hX4 := hk4 _ _ _ (by decide) (by decide) HXB.out
          have c0 := hX4.cell 0; have cz := hX4.lt
          simp at c0
          obtain ⟨a4, c4, rfl⟩ := own_sli ho4
          have HO4 := hidE ho4; have HB4 := hidE hB4
          have HBL4 := hidE (show Below w2.heap.size w3 w4 from HBL.out.trans ((HZA.out.mono (by have := HBL.out.size; have := HZ23.out; omega)).trans (hb4.mono hβ)))
          have hz4 : wr.heap.size + 1 ≤ w4.heap.size := by have := hb4.size; simpa using this
          have hw : IntKind.i64.wrap (st + d) = st + d := IntWalk.i64_in _ (by have := HX.out; omega)
          have HSN1 := hidE (show (bgS R rm (l.take (k + 1))).1 = woL bk.1 (gapK R st d (vm, vc) N) from by
            rw [HSN.out]; unfold bgT; rw [HSS.out, HRL.out]; rfl)
          clear ho4 hb4 hB4 hk4 hX4 HSEQ HSH HXB HZA e1 e2 e3
          go_wp2
          go_roundg (l.length - (k + 1))
          case measure => have := HG.out; omega
          case rel => exact ⟨k + 1, a4, _, c4, wr.heap.size + 1, Nat.le_refl _, by omega, by go_num, by rw [HS.out], rfl, by have := HBL.out.size; have := HZ23.out; omega, hz4, by rw [HSN1.out]; exact own_base HO4.out (by simp), HB4.out, HBL4.out⟩
        · have hk2 : l.take k = l := by rw [show k = l.length by omega, List.take_length]
          rw [hk2] at HO
          have d3 : decide ((k : Int) < (l.length : Int)) = false := decide_eq_false (by omega)
          have d3' : decide (k < l.length) = false := decide_eq_false hlt
          obtain ⟨av', cv', e', q1, q2, q3⟩ := sliVs_own HO.out
          cases e'
          have HQ := hidE (And.intro q1 (And.intro q2 q3))
          clear hk2 q1 q2 q3
          go_wp2
          go_ret2
          rw [HGO.out]
          exact ⟨_, _, rfl, ⟨_, _, rfl, HQ.out.1, HQ.out.2.1, HQ.out.2.2⟩, HWR.out⟩
  · rw [begS_no h0]
    have d1 : (slotE F a b l != 0) = true := bne_iff_ne.2 h0
    clear h0
    generalize slotE F a b l = er at *
    go_enter Try.func8, Try.ntmps8
    go_wp2_with fail
    ((with_reducible refine (HFA.out _ (HA.out.past (by (repeat (first | exact Below.refl _ _ | assumption | refine balloc ?_ _ | refine below_drewN ?_ _ | refine bstep (by assumption) ?_ | refine bstep (Past.prop _) ?_ | refine Below.setCell ?_ (by first | exact Nat.le_refl _ | (simp; done) | (simp; omega)) _)))) (HL.out.past (by (repeat (first | exact Below.refl _ _ | assumption | refine balloc ?_ _ | refine below_drewN ?_ _ | refine bstep (by assumption) ?_ | refine bstep (Past.prop _) ?_ | refine Below.setCell ?_ (by first | exact Nat.le_refl _ | (simp; done) | (simp; omega)) _))))).mono ?_); rintro e w1 ⟨rfl, hb1⟩)
    go_wp2
    go_ret2
    exact ⟨none, 0, rfl, ⟨none, 0, rfl, Nat.le_refl _, by omega, fun h => by simp at h⟩, by (repeat (first | exact Below.refl _ _ | assumption | refine balloc ?_ _ | refine below_drewN ?_ _ | refine bstep (by assumption) ?_ | refine bstep (Past.prop _) ?_ | refine Below.setCell ?_ (by first | exact Nat.le_refl _ | (simp; done) | (simp; omega)) _))⟩
end Go.Proofs.Ytmjfogmpbidooaa

namespace Go.Proofs.Ytmjfogmpbidooaa
open Go.ChangeShapes Go.WideShapes Go.ChangeAt Go.RowKit Go.Shelf
attribute [local irreducible] Go.Calls
attribute [local go_sem] Oper.semAt_some

theorem from_cl (x0 x1 : Int) (w : World) (h : -9223372036854775807 ≤ x1 ∧ x1 ≤ 9223372036854775807) : Calls Try.prog 30 #[V x0 x1] w fun e w' => e = .returned (.int .i64 x0) ∧ Below w.heap.size w w' := by
  have hw : IntKind.i64.wrap (x1 - 1) = x1 - 1 := IntWalk.i64_in _ (by omega)
  go_enter Try.func30, Try.ntmps30
  go_wp2
  go_ret
  exact ⟨rfl, by (repeat (first | exact Below.refl _ _ | assumption | refine balloc ?_ _ | refine below_drewN ?_ _ | refine bstep (by assumption) ?_ | refine bstep (Past.prop _) ?_ | refine Below.setCell ?_ (by first | exact Nat.le_refl _ | (simp; done) | (simp; omega)) _))⟩
theorem last_cl (x0 x1 : Int) (w : World) (h : -9223372036854775807 ≤ x1 ∧ x1 ≤ 9223372036854775807) : Calls Try.prog 32 #[V x0 x1] w fun e w' => e = .returned (.int .i64 (x1 - 1)) ∧ Below w.heap.size w w' := by
  have hw : IntKind.i64.wrap (x1 - 1) = x1 - 1 := IntWalk.i64_in _ (by omega)
  go_enter Try.func32, Try.ntmps32
  go_wp2
  go_ret
  exact ⟨rfl, by (repeat (first | exact Below.refl _ _ | assumption | refine balloc ?_ _ | refine below_drewN ?_ _ | refine bstep (by assumption) ?_ | refine bstep (Past.prop _) ?_ | refine Below.setCell ?_ (by first | exact Nat.le_refl _ | (simp; done) | (simp; omega)) _))⟩
theorem all_f (a : Option Addr) (n c : Nat) (w : World) : Calls Try.prog 29 #[.slice a n c] w fun e w' => ∃ p, e = .returned (.func (.func 49) #[] #[.pointer (some ⟨p, 0, none⟩)]) ∧ Blk w' p #[.slice a n c] 28 ∧ Below w.heap.size w w' := by
  go_enter Try.func29, Try.ntmps29
  go_wp2
  go_ret
  exact ⟨_, rfl, Blk.made _ _ _, by (repeat (first | exact Below.refl _ _ | assumption | refine balloc ?_ _ | refine below_drewN ?_ _ | refine bstep (by assumption) ?_ | refine bstep (Past.prop _) ?_ | refine Below.setCell ?_ (by first | exact Nat.le_refl _ | (simp; done) | (simp; omega)) _))⟩
theorem back_f (a : Option Addr) (n c : Nat) (w : World) : Calls Try.prog 31 #[.slice a n c] w fun e w' => ∃ p, e = .returned (.func (.func 50) #[] #[.pointer (some ⟨p, 0, none⟩)]) ∧ Blk w' p #[.slice a n c] 28 ∧ Below w.heap.size w w' := by
  go_enter Try.func31, Try.ntmps31
  go_wp2
  go_ret
  exact ⟨_, rfl, Blk.made _ _ _, by (repeat (first | exact Below.refl _ _ | assumption | refine balloc ?_ _ | refine below_drewN ?_ _ | refine bstep (by assumption) ?_ | refine bstep (Past.prop _) ?_ | refine Below.setCell ?_ (by first | exact Nat.le_refl _ | (simp; done) | (simp; omega)) _))⟩
/-- What outermost says. -/
def fstS (gf : Wn → Int) : List (Nat × Wn) → Int × Int
  | [] => (0, 210)
  | x :: _ => (gf x.2, 0)
def outS (er : Int) (S : List (Nat × Wn)) (gf : Wn → Int) : Int × Int := if er ≠ 0 then (0, er) else fstS gf S
/-- In a round that returns. -/
def OuX (w : World) (gf : Wn → Int) (pre : List (Nat × Wn)) (W : World) : Prop := ∃ x, pre = [x] ∧ Below w.heap.size w W ∧ Blk W (w.heap.size + 1) #[.int .i64 (gf x.2)] 2 ∧ Blk W (w.heap.size + 1 + 1) #[.int .i64 0] 29
set_option maxRecDepth 100000 in
set_option maxHeartbeats 16000000 in
theorem outermost_c (S : List (Nat × Wn)) (gf : Wn → Int) (fo it : Nat) (lb : Array Value) (er : Int) (K : World → Prop) (w : World)
    (hof : ∀ (x : Wn) w, (∃ i, (i, x) ∈ S) → Calls Try.prog fo #[V x.1 x.2] w fun e w' => e = .returned (.int .i64 (gf x)) ∧ Below w.heap.size w w')
    (eo : ∀ args w, (callFunc fo args).run Try.prog w = .ok (.enter fo args) w) (eg : ∀ args w, (callFunc it args).run Try.prog w = .ok (.enter it args) w)
    (hK : ∀ W, Below w.heap.size w W → K W) (hseq : er = 0 → ∀ w', Below w.heap.size w w' → SeqX Try.prog it #[] lb encA w.heap.size K S w') :
    Calls Try.prog 28 #[.func (.func it) #[] lb, .int .i64 er, .func (.func fo) #[] #[]] w fun e w' => e = .returned (IE (outS er S gf)) ∧ Below w.heap.size w w' := by
  have HOF := hidE hof; have HK := hidE hK; have HSEQ := hidE hseq
  clear hof hK hseq
  by_cases h0 : er = 0
  · subst h0
    have HE := hidE (show outS 0 S gf = fstS gf S from rfl)
    rw [HE.out]
    have HSQ := hidE (HSEQ.out rfl)
    clear HSEQ HE
    refine (callsIn_wide (n := 0)).1 (callsIn_of_wp_marks Try.func28 rfl trivial ((wpIn_wide (n := 0)).2 ?_))
    simp only [Try.ntmps28, List.size_toArray, List.length_cons, List.length_nil, Nat.reduceAdd, Nat.reduceSub, Array.replicate_succ, Array.replicate_zero, List.push_toArray, List.append_toArray, List.nil_append, List.cons_append]
    go_wp2
    obtain ⟨w2, hw2⟩ : ∃ w2, w2 = ((w.alloc (Obj.cells #[.func (.func fo) #[] #[]] 72)).alloc (Obj.cells #[.int .i64 0] 2)).alloc (Obj.cells #[.int .i64 0] 29) := ⟨_, rfl⟩
    have hz2 : w2.heap.size = w.heap.size + 3 := by rw [hw2]; simp
    have hb2 : Below w.heap.size w w2 := by rw [hw2]; (repeat (first | exact Below.refl _ _ | assumption | refine balloc ?_ _ | refine below_drewN ?_ _ | refine bstep (by assumption) ?_ | refine bstep (Past.prop _) ?_ | refine Below.setCell ?_ (by first | exact Nat.le_refl _ | (simp; done) | (simp; omega)) _))
    have B5 : Blk w2 w.heap.size #[.func (.func fo) #[] #[]] 72 := by rw [hw2]; exact ((Blk.made _ _ _).alloc _).alloc _
    have B6 : Blk w2 (w.heap.size + 1) #[.int .i64 0] 2 := by rw [hw2]; exact (Blk.made_at _ _ _ _ (by simp)).alloc _
    have B7 : Blk w2 (w.heap.size + 1 + 1) #[.int .i64 0] 29 := by rw [hw2]; exact Blk.made_at _ _ _ _ (by simp)
    rw [← hw2]
    have HB2 := hidE hb2
    have HI0 := hidE (show Below w.heap.size w w2 ∧ Blk w2 w.heap.size #[.func (.func fo) #[] #[]] 72 ∧ Blk w2 (w.heap.size + 1) #[.int .i64 0] 2 ∧ Blk w2 (w.heap.size + 1 + 1) #[.int .i64 0] 29 from ⟨hb2, B5, B6, B7⟩)
    clear hw2 B5 B6 B7
    refine wp_rangeFunc_X (n₀ := w.heap.size) (S := S) (K := K) rfl eg (by omega) (HSQ.out _ hb2) (fun _ => rfl)
      (fun pre g W => pre = [] ∧ g = none ∧ Below w.heap.size w W ∧ Blk W w.heap.size #[.func (.func fo) #[] #[]] 72 ∧ Blk W (w.heap.size + 1) #[.int .i64 0] 2 ∧ Blk W (w.heap.size + 1 + 1) #[.int .i64 0] 29)
      (fun s g A B h hb _ => ⟨h.1, h.2.1, h.2.2.1.trans (hb.mono (by omega)), h.2.2.2.1.below hb (by omega), h.2.2.2.2.1.below hb (by omega), h.2.2.2.2.2.below hb (by omega)⟩)
      (fun s g A h b k e => by rw [h.2.1] at e; cases e) (fun s g A h => HK.out _ h.2.2.1) ⟨rfl, rfl, HI0.out⟩ (OuX w gf)
      (fun s A B h hb => by obtain ⟨x, h1, h2, h3, h4⟩ := h; exact ⟨x, h1, h2.trans (hb.mono (by omega)), h3.below hb (by omega), h4.below hb (by omega)⟩)
      (fun y a1 W => ∃ (Bx : Nat) (u0 u1 u2 u3 u4 u8 u10 u11 u12 u13 u14 u15 u16 u17 u18 : Value), w2.heap.size ≤ Bx ∧ Blk W Bx #[.int .i64 y.2.1, .int .i64 y.2.2] 24 ∧ a1 = { tmps := #[u0, u1, u2, u3, u4, .pointer (some ⟨w.heap.size, 0, none⟩), .pointer (some ⟨w.heap.size + 1, 0, none⟩), .pointer (some ⟨w.heap.size + 1 + 1, 0, none⟩), u8, .pointer (some ⟨Bx, 0, none⟩), u10, u11, u12, u13, u14, u15, u16, u17, u18], defers := [] })
      ?hax ?assign ?body ?done ?stop
    case hax =>
      rintro y a1 A lp r o ⟨Bx, u0, u1, u2, u3, u4, u8, u10, u11, u12, u13, u14, u15, u16, u17, u18, h1, h2, h5⟩ hlr
      exact ⟨Bx, _, _, _, _, _, _, _, _, _, _, _, _, _, _, _, h1, (World.putObj_heap_other (fun e => by subst e; rw [show A.heap[Bx]? = _ from h2] at hlr; cases hlr)).trans h2, h5⟩
    case assign =>
      intro lp pre y g W K' hsz hi hK'
      dsimp only [encA]
      gi_wp2
      have hal : Below W.heap.size W (W.alloc (Obj.cells #[.int .i64 y.2.1, .int .i64 y.2.2] 24)) := (Below.refl _ _).alloc (Nat.le_refl _) _
      refine hK' _ _ hal ⟨hi.1, hi.2.1, hi.2.2.1.trans (hal.mono (by omega)), hi.2.2.2.1.past hal, hi.2.2.2.2.1.past hal, hi.2.2.2.2.2.past hal⟩ ⟨W.heap.size, _, _, _, _, _, _, _, _, _, _, _, _, _, _, _, by omega, Blk.made _ _ _, rfl⟩
    case body =>
      rintro lp pre y g a1 W hsz ⟨rfl, rfl, hbl, C5, C6, C7⟩ ⟨Bx, u0, u1, u2, u3, u4, u8, u10, u11, u12, u13, u14, u15, u16, u17, u18, hBx, bX, rfl⟩ hpre
      have hy : ∃ i, (i, y.2) ∈ S := ⟨y.1, hpre.subset (by simp)⟩
      have HCL := hidE (HOF.out y.2 W hy)
      have k0 := C5.cell 0; have kz := C5.lt; have x0 := bX.cell 0; have x1 := bX.cell 1; have xz := bX.lt
      simp at k0 x0 x1
      have H6 := hidE C6; have H7 := hidE C7; have HBL := hidE hbl
      clear C5 C6 C7 hbl hpre hy bX HSQ HI0
      gi_wp2_with fail
      refine ⟨trivial, ?_⟩
      refine ⟨rfl, (CallsIn.inRound lp (callsIn_wide.2 HCL.out)).mono ?_⟩
      rintro e w3 ⟨rfl, hb3⟩
      have D6 := H6.out.past hb3; have D7 := H7.out.past hb3
      have y0 := D6.cell 0; have yz := D6.lt; have yf := D6.free; have z0 := D7.cell 0; have zz := D7.lt; have zf := D7.free
      simp at y0 z0
      have H6' := hidE D6; have H7' := hidE D7; have HB3 := hidE (HBL.out.trans (hb3.mono HBL.out.size)); have HW3 := hidE hb3
      clear D6 D7 hb3 k0 kz x0 x1 xz
      gi_wp2
      refine ⟨⟨y, rfl, ?_, ?_, ?_⟩, fun k h1 h2 h0 => ?_⟩
      · exact (HB3.out.setCell (p := ⟨w.heap.size + 1, 0, none⟩) (show w.heap.size ≤ w.heap.size + 1 by omega) _).setCell (p := ⟨w.heap.size + 1 + 1, 0, none⟩) (show w.heap.size ≤ w.heap.size + 1 + 1 by omega) _
      · simpa using (H6'.out.set 0 (.int .i64 (gf y.2))).other (b := w.heap.size + 1 + 1) (i := 0) (by omega) (.int .i64 0)
      · simpa using (H7'.out.other (b := w.heap.size + 1) (i := 0) (by omega) (.int .i64 (gf y.2))).set 0 (.int .i64 0)
      · exact (keptS (by omega) _).trans ((keptS (by omega) _).trans (HW3.out.block k (by omega)))
    case done =>
      rintro D g W hD ⟨hS, rfl, hbl, C5, C6, C7⟩ hgd hK
      subst hS
      have hDz : D < W.heap.size := (Array.getElem?_eq_some_iff.1 hK).1
      have y0 := C6.cell 0; have yz := C6.lt; have yf := C6.free; have z0 := C7.cell 0; have zz := C7.lt; have zf := C7.free
      simp at y0 z0
      have E6 := (C6.set 0 (.int .i64 0)).other (b := w.heap.size + 1 + 1) (i := 0) (by omega) (.int .i64 210)
      have E7 := (C7.other (b := w.heap.size + 1) (i := 0) (by omega) (.int .i64 0)).set 0 (.int .i64 210)
      have hkf : ((W.setCell ⟨w.heap.size + 1, 0, none⟩ (.int .i64 0)).setCell ⟨w.heap.size + 1 + 1, 0, none⟩ (.int .i64 210)).heap[D]? = some (.deferred (some [])) := (keptS (by omega) _).trans ((keptS (by omega) _).trans hK)
      have r1 := (show ((_ : World).putObj D (.deferred none)).heap[w.heap.size + 1]? = _ from (World.putObj_heap_other (by omega)).trans E6)
      have r2 := (show ((_ : World).putObj D (.deferred none)).heap[w.heap.size + 1 + 1]? = _ from (World.putObj_heap_other (by omega)).trans E7)
      have R1 := hidE (Blk.cell r1 0); have R2 := hidE (Blk.cell r2 0); have HKF := hidE hkf
      have HBF := hidE (show Below w.heap.size w (((W.setCell ⟨w.heap.size + 1, 0, none⟩ (.int .i64 0)).setCell ⟨w.heap.size + 1 + 1, 0, none⟩ (.int .i64 210)).putObj D (.deferred none)) from
        ((hbl.setCell (p := ⟨w.heap.size + 1, 0, none⟩) (show w.heap.size ≤ w.heap.size + 1 by omega) _).setCell (p := ⟨w.heap.size + 1 + 1, 0, none⟩) (show w.heap.size ≤ w.heap.size + 1 + 1 by omega) _).trans (below_putObj _ _ _ (by omega)))
      clear E6 E7 r1 r2 hkf hK hbl HI0 HSQ C5 C6 C7
      go_wp2
      refine ⟨by simp, .inl ⟨_, _, rfl, run_takeDeferred HKF.out, ?_⟩⟩
      have r1 := R1.out; have r2 := R2.out
      simp at r1 r2
      refine ⟨IE (0, 210), by simp [results, Try.results28, go_sem, r1, r2], rfl, HBF.out⟩
    case stop =>
      rintro D pre W hD hpre ⟨x, rfl, hbl, C6, C7⟩ hK
      obtain ⟨S', rfl⟩ : ∃ S', S = x :: S' := by
        obtain ⟨t, ht⟩ := hpre
        exact ⟨t, ht.symm⟩
      have hDz : D < W.heap.size := (Array.getElem?_eq_some_iff.1 hK).1
      have r1 := (show (W.putObj D (.deferred none)).heap[w.heap.size + 1]? = _ from (World.putObj_heap_other (by omega)).trans C6)
      have r2 := (show (W.putObj D (.deferred none)).heap[w.heap.size + 1 + 1]? = _ from (World.putObj_heap_other (by omega)).trans C7)
      have R1 := hidE (Blk.cell r1 0); have R2 := hidE (Blk.cell r2 0); have HKF := hidE hK
      have HBF := hidE (show Below w.heap.size w (W.putObj D (.deferred none)) from hbl.trans (below_putObj _ _ _ (by omega)))
      clear r1 r2 hK hbl HI0 HSQ C6 C7 hpre
      go_wp2
      refine ⟨by simp, .inl ⟨_, _, rfl, run_takeDeferred HKF.out, ?_⟩⟩
      have r1 := R1.out; have r2 := R2.out
      simp at r1 r2
      refine ⟨IE (gf x.2, 0), by simp [results, Try.results28, go_sem, r1, r2], rfl, HBF.out⟩
  · have HE := hidE (show outS er S gf = (0, er) from by unfold outS; rw [if_pos h0])
    have d1 : (er != 0) = true := bne_iff_ne.2 h0
    rw [HE.out]
    clear h0 HSEQ HE
    go_enter Try.func28, Try.ntmps28
    go_wp2
    obtain ⟨w2, hw2⟩ : ∃ w2, w2 = ((w.alloc (Obj.cells #[.func (.func fo) #[] #[]] 72)).alloc (Obj.cells #[.int .i64 0] 2)).alloc (Obj.cells #[.int .i64 er] 29) := ⟨_, rfl⟩
    have hb2 : Below w.heap.size w w2 := by rw [hw2]; (repeat (first | exact Below.refl _ _ | assumption | refine balloc ?_ _ | refine below_drewN ?_ _ | refine bstep (by assumption) ?_ | refine bstep (Past.prop _) ?_ | refine Below.setCell ?_ (by first | exact Nat.le_refl _ | (simp; done) | (simp; omega)) _))
    have B6 : Blk w2 (w.heap.size + 1) #[.int .i64 0] 2 := by rw [hw2]; exact (Blk.made_at _ _ _ _ (by simp)).alloc _
    have B7 : Blk w2 (w.heap.size + 1 + 1) #[.int .i64 er] 29 := by rw [hw2]; exact Blk.made_at _ _ _ _ (by simp)
    rw [← hw2]
    have r1 := B6.cell 0; have r2 := B7.cell 0
    simp at r1 r2
    exact bodyPost_ret (v := IE (0, er)) (by simp [results, Try.results28, go_sem, r1, r2]) rfl ⟨rfl, hb2⟩
/-- The first, the last begin. -/
def earS (F : List Sg) (a b : Int) (l : List Sg) : Int × Int := outS (begS F a b l).2 (mapK (alF (begS F a b l).1) (begS F a b l).1.length) (fun x => x.1)
def latS (F : List Sg) (a b : Int) (l : List Sg) : Int × Int := outS (begS F a b l).2 (mapK (bkF (begS F a b l).1) (begS F a b l).1.length) (fun x => x.2 - 1)
theorem begS_in {F l : List Sg} {a b : Int} {x : Wn} (hx : x ∈ (begS F a b l).1) : -1099511627776 ≤ x.1 ∧ x.2 ≤ 1099511627776 ∧ x.1 < x.2 := by
  by_cases h : slotE F a b l = 0
  · obtain ⟨h1, h2, h3, h4, h5⟩ := slotE_zero h
    have hl := (lenE_zero h2).2.1
    have h6 := begS_is (show (begS F a b l).2 = 0 by rw [begS_err]; exact h)
    have hp := lenG_bound hl
    have hx1 := h6.1.1 x hx
    have q1 := (h6.2 x.1).1 ⟨x, hx, Int.le_refl _, hx1⟩
    have q2 := (h6.2 (x.2 - 1)).1 ⟨x, hx, by omega, by omega⟩
    unfold mayG at q1 q2
    have := (lenE_zero h2).1
    omega
  · rw [begS_no h] at hx; simp at hx
theorem mapK_in {f : Nat → Nat × Wn} {L : List Wn} (hf : ∀ i, i < L.length → (f i).2 ∈ L) {x : Wn} (h : ∃ i, (i, x) ∈ mapK f L.length) : x ∈ L := by
  obtain ⟨i, h⟩ := h
  unfold mapK at h
  obtain ⟨j, hj, e⟩ := List.mem_map.1 h
  have := hf j (List.mem_range.1 hj)
  rw [e] at this
  exact this
theorem getD_in {L : List Wn} {i : Nat} (h : i < L.length) : L.getD i (0, 0) ∈ L := by rw [getD_get _ _ _ h]; exact List.getElem_mem h
set_option maxRecDepth 100000 in
set_option maxHeartbeats 4000000 in
theorem earliest_c (F l : List Sg) (a b : Int) (f g : Option Addr) (cF cL : Nat) (w : World) (hF : F.length ≤ 100000) (hl : l.length ≤ 1000000000) (ha : -9223372036854775808 ≤ a ∧ a ≤ 9223372036854775807) (hb : -9223372036854775808 ≤ b ∧ b ≤ 9223372036854775807) (hA : ArgS w f F) (hL : ArgS w g l) :
    Calls Try.prog 14 #[.slice f F.length cF, V a b, .slice g l.length cL] w fun e w' => e = .returned (IE (earS F a b l)) ∧ Below w.heap.size w w' := by
  have HBG := hidE (fun w hA hL => begins_c F l a b f g cF cL w hF hl ha hb hA hL)
  have HA := hidE hA; have HL := hidE hL
  have HLEN := hidE (begS_len (F := F) (a := a) (b := b) (l := l))
  have HIN := hidE (fun x => begS_in (F := F) (a := a) (b := b) (l := l) (x := x))
  have HE := hidE (show earS F a b l = outS (begS F a b l).2 (mapK (alF (begS F a b l).1) (begS F a b l).1.length) (fun x => x.1) from rfl)
  rw [HE.out]
  clear hA hL HE
  generalize begS F a b l = B at *
  obtain ⟨L, er⟩ := B
  have HLEN := hidE (show (L.length : Int) ≤ 4096 from HLEN.out)
  have HIN := hidE (fun x => show x ∈ L → _ from HIN.out x)
  have HBG := hidE (fun w hA hL => show Calls Try.prog 8 #[.slice f F.length cF, V a b, .slice g l.length cL] w (VsIs w L er) from HBG.out w hA hL)
  show Calls _ _ _ w fun e w' => e = .returned (IE (outS er (mapK (alF L) L.length) (fun x => x.1))) ∧ _
  have HO := hidE (fun p (a1 : Option Addr) (c1 : Nat) W (hB : Blk W p #[.slice a1 L.length c1] 28) (hA1 : ArgVs W a1 L) => outermost_c (mapK (alF L) L.length) (fun x => x.1) 30 49 #[.pointer (some ⟨p, 0, none⟩)] er (fun W => Blk W p #[.slice a1 L.length c1] 28 ∧ ArgVs W a1 L) W
    (fun x w' hx => by
      have hm := HIN.out x (mapK_in (L := L) (f := alF L) (fun i hi => getD_in (by exact hi)) hx)
      exact from_cl x.1 x.2 w' (by omega))
    (enters_of Try.func30 (by kernel_rfl) rfl) (enters_of Try.func49 (by kernel_rfl) rfl) (fun W' hW' => ⟨hB.past hW', hA1.past hW'⟩) (fun _ w' hw' => allIt_c L p a1 L.length c1 W.heap.size w' rfl (by have := HLEN.out; omega)))
  go_enter Try.func14, Try.ntmps14
  go_wp2_with fail
  ((with_reducible refine (HBG.out _ (HA.out.past (by (repeat (first | exact Below.refl _ _ | assumption | refine balloc ?_ _ | refine below_drewN ?_ _ | refine bstep (by assumption) ?_ | refine bstep (Past.prop _) ?_ | refine Below.setCell ?_ (by first | exact Nat.le_refl _ | (simp; done) | (simp; omega)) _)))) (HL.out.past (by (repeat (first | exact Below.refl _ _ | assumption | refine balloc ?_ _ | refine below_drewN ?_ _ | refine bstep (by assumption) ?_ | refine bstep (Past.prop _) ?_ | refine Below.setCell ?_ (by first | exact Nat.le_refl _ | (simp; done) | (simp; omega)) _))))).mono ?_); rintro e w1 ⟨a1, c1, rfl, hs1, hb1⟩)
  obtain ⟨_, _, _, hs4⟩ := sliVs_len hs1
  have HB1 := hidE (show Below w.heap.size w w1 by (repeat (first | exact Below.refl _ _ | assumption | refine balloc ?_ _ | refine below_drewN ?_ _ | refine bstep (by assumption) ?_ | refine bstep (Past.prop _) ?_ | refine Below.setCell ?_ (by first | exact Nat.le_refl _ | (simp; done) | (simp; omega)) _)))
  have HS := hidE hs4
  clear hs1 hs4 hb1
  go_wp2_with fail
  ((with_reducible refine (all_f _ _ _ _).mono ?_); rintro e w2 ⟨p2, rfl, hp2, hb2⟩)
  have HP := hidE hp2; have HB2 := hidE hb2
  clear hp2 hb2
  go_wp2_with fail
  ((with_reducible refine (HO.out p2 a1 c1 _ HP.out (HS.out.past HB2.out)).mono ?_); rintro e w3 ⟨rfl, hb3⟩)
  have HB3 := hidE (bstep hb3 (bstep HB2.out HB1.out))
  clear HO hb3
  generalize hR : outS er (mapK (alF L) L.length) (fun x => x.1) = R at *
  have HR := hidE hR
  clear hR
  go_wp2
  exact bodyPost_ret (v := IE R) (by simp [results, Try.results14, go_sem]) rfl ⟨by rw [← HR.out], HB3.out⟩
set_option maxRecDepth 100000 in
set_option maxHeartbeats 4000000 in
theorem latest_c (F l : List Sg) (a b : Int) (f g : Option Addr) (cF cL : Nat) (w : World) (hF : F.length ≤ 100000) (hl : l.length ≤ 1000000000) (ha : -9223372036854775808 ≤ a ∧ a ≤ 9223372036854775807) (hb : -9223372036854775808 ≤ b ∧ b ≤ 9223372036854775807) (hA : ArgS w f F) (hL : ArgS w g l) :
    Calls Try.prog 15 #[.slice f F.length cF, V a b, .slice g l.length cL] w fun e w' => e = .returned (IE (latS F a b l)) ∧ Below w.heap.size w w' := by
  have HBG := hidE (fun w hA hL => begins_c F l a b f g cF cL w hF hl ha hb hA hL)
  have HA := hidE hA; have HL := hidE hL
  have HLEN := hidE (begS_len (F := F) (a := a) (b := b) (l := l))
  have HIN := hidE (fun x => begS_in (F := F) (a := a) (b := b) (l := l) (x := x))
  have HE := hidE (show latS F a b l = outS (begS F a b l).2 (mapK (bkF (begS F a b l).1) (begS F a b l).1.length) (fun x => x.2 - 1) from rfl)
  rw [HE.out]
  clear hA hL HE
  generalize begS F a b l = B at *
  obtain ⟨L, er⟩ := B
  have HLEN := hidE (show (L.length : Int) ≤ 4096 from HLEN.out)
  have HIN := hidE (fun x => show x ∈ L → _ from HIN.out x)
  have HBG := hidE (fun w hA hL => show Calls Try.prog 8 #[.slice f F.length cF, V a b, .slice g l.length cL] w (VsIs w L er) from HBG.out w hA hL)
  show Calls _ _ _ w fun e w' => e = .returned (IE (outS er (mapK (bkF L) L.length) (fun x => x.2 - 1))) ∧ _
  have HO := hidE (fun p (a1 : Option Addr) (c1 : Nat) W (hB : Blk W p #[.slice a1 L.length c1] 28) (hA1 : ArgVs W a1 L) => outermost_c (mapK (bkF L) L.length) (fun x => x.2 - 1) 32 50 #[.pointer (some ⟨p, 0, none⟩)] er (fun W => Blk W p #[.slice a1 L.length c1] 28 ∧ ArgVs W a1 L) W
    (fun x w' hx => by
      have hm := HIN.out x (mapK_in (L := L) (f := bkF L) (fun i hi => getD_in (by omega)) hx)
      exact last_cl x.1 x.2 w' (by omega))
    (enters_of Try.func32 (by kernel_rfl) rfl) (enters_of Try.func50 (by kernel_rfl) rfl) (fun W' hW' => ⟨hB.past hW', hA1.past hW'⟩) (fun _ w' hw' => backIt_c L p a1 L.length c1 W.heap.size w' rfl (by have := HLEN.out; omega)))
  go_enter Try.func15, Try.ntmps15
  go_wp2_with fail
  ((with_reducible refine (HBG.out _ (HA.out.past (by (repeat (first | exact Below.refl _ _ | assumption | refine balloc ?_ _ | refine below_drewN ?_ _ | refine bstep (by assumption) ?_ | refine bstep (Past.prop _) ?_ | refine Below.setCell ?_ (by first | exact Nat.le_refl _ | (simp; done) | (simp; omega)) _)))) (HL.out.past (by (repeat (first | exact Below.refl _ _ | assumption | refine balloc ?_ _ | refine below_drewN ?_ _ | refine bstep (by assumption) ?_ | refine bstep (Past.prop _) ?_ | refine Below.setCell ?_ (by first | exact Nat.le_refl _ | (simp; done) | (simp; omega)) _))))).mono ?_); rintro e w1 ⟨a1, c1, rfl, hs1, hb1⟩)
  obtain ⟨_, _, _, hs4⟩ := sliVs_len hs1
  have HB1 := hidE (show Below w.heap.size w w1 by (repeat (first | exact Below.refl _ _ | assumption | refine balloc ?_ _ | refine below_drewN ?_ _ | refine bstep (by assumption) ?_ | refine bstep (Past.prop _) ?_ | refine Below.setCell ?_ (by first | exact Nat.le_refl _ | (simp; done) | (simp; omega)) _)))
  have HS := hidE hs4
  clear hs1 hs4 hb1
  go_wp2_with fail
  ((with_reducible refine (back_f _ _ _ _).mono ?_); rintro e w2 ⟨p2, rfl, hp2, hb2⟩)
  have HP := hidE hp2; have HB2 := hidE hb2
  clear hp2 hb2
  go_wp2_with fail
  ((with_reducible refine (HO.out p2 a1 c1 _ HP.out (HS.out.past HB2.out)).mono ?_); rintro e w3 ⟨rfl, hb3⟩)
  have HB3 := hidE (bstep hb3 (bstep HB2.out HB1.out))
  clear HO hb3
  generalize hR : outS er (mapK (bkF L) L.length) (fun x => x.2 - 1) = R at *
  have HR := hidE hR
  clear hR
  go_wp2
  exact bodyPost_ret (v := IE R) (by simp [results, Try.results15, go_sem]) rfl ⟨by rw [← HR.out], HB3.out⟩

end Go.Proofs.Ytmjfogmpbidooaa

namespace Go.Proofs.Ytmjfogmpbidooaa
open Go.ChangeShapes Go.WideShapes Go.ChangeAt Go.RowKit
attribute [local irreducible] Go.Calls

def hsF : List Sg := [(0, (5, 5)), (10, (2, 2)), (12, (5, 5)), (20, (0, 0))]
def hsL : List Sg := [(4, (3, 3))]
def hsM : List Sg := [(4, (3, 3)), (2, (1, 1))]
theorem hs1 : begS hsF 0 30 hsL = ([(0, 7), (12, 17)], 0) := by decide +kernel
theorem hs2 : earS hsF 0 30 hsL = (0, 0) := by decide +kernel
theorem hs3 : latS hsF 0 30 hsL = (16, 0) := by decide +kernel
theorem hs4 : earS hsF 7 30 hsL = (12, 0) := by decide +kernel
theorem hs5 : begS hsF 0 30 hsM = ([(0, 7), (12, 15)], 0) := by decide +kernel
theorem hs6 : lenE hsM = (6, 0) := by decide +kernel
theorem hs7 : earS hsF 7 15 hsL = (0, 210) := by decide +kernel
theorem hs8 : earS hsF 7 7 hsL = (0, 2) := by decide +kernel

theorem slv_c (n : Int) (w : World) : Calls Try.prog 13 #[.int .i64 n] w fun e w' => e = .returned (V n n) ∧ Below w.heap.size w w' := by
  go_enter Try.func13, Try.ntmps13
  go_wp2
  exact bodyPost_ret (v := V n n) (by simp [results, Try.results13, go_sem]) rfl ⟨rfl, by (repeat (first | exact Below.refl _ _ | assumption | refine balloc ?_ _ | refine below_drewN ?_ _ | refine bstep (by assumption) ?_ | refine bstep (Past.prop _) ?_ | refine Below.setCell ?_ (by first | exact Nat.le_refl _ | (simp; done) | (simp; omega)) _))⟩
theorem sliS_mkS {w : World} {p n : Nat} {l : List Sg} {t : TypeId} (hn : n = l.length) (h2 : n ≤ 1000000) (h : Blk w p (cellsOfS l).toArray t) : SliS w (.slice (some ⟨p, 0, none⟩) n n) l := by
  subst hn
  exact ⟨some ⟨p, 0, none⟩, l.length, rfl, Nat.le_refl _, by omega, argS_blk h⟩
theorem sliVs_mk {w : World} {p n : Nat} {l : List Wn} {t : TypeId} (hn : n = l.length) (h2 : n ≤ 1000000) (h : Blk w p (cellsOfV l).toArray t) : SliVs w (.slice (some ⟨p, 0, none⟩) n n) l := by
  subst hn
  refine ⟨some ⟨p, 0, none⟩, l.length, rfl, Nat.le_refl _, by omega, fun _ => ⟨p, 0, rfl, h.lt, fun i hi => ?_⟩⟩
  obtain ⟨g0, g1⟩ := cellsOfV_get l i hi
  rw [Nat.zero_add, h.cell, h.cell, List.getElem?_toArray, List.getElem?_toArray]
  exact ⟨g0, g1⟩
set_option maxRecDepth 100000 in
set_option maxHeartbeats 2000000 in
theorem rsameW_t {w : World} {n1 n2 c1 c2 : Nat} {a1 a2 : Option Addr} {L : List Wn} (h1 : SliVs w (.slice a1 n1 c1) L) (h2 : SliVs w (.slice a2 n2 c2) L) : Calls Try.prog 12 #[.slice a1 n1 c1, .slice a2 n2 c2] w fun e w' => e = .returned (.bool true) ∧ Below w.heap.size w w' := by
  obtain ⟨e1, q1, q2, q3⟩ := sliVs_len h1
  obtain ⟨e2, s1, s2, s3⟩ := sliVs_len h2
  have HQ := hidE q3; have HS := hidE s3
  obtain rfl : n1 = n2 := e1.trans e2.symm
  have HN := hidE e1
  have hn5 : n1 ≤ 9223372036854775807 := by omega
  clear h1 h2 q3 s3 s1 s2 e1 e2 q1 q2
  go_enter Try.func12, Try.ntmps12
  go_wp2
  go_loopg [5] n1 (fun gh v5 wr => ∃ k : Nat, n1 - k ≤ gh ∧ k ≤ n1 ∧ v5 = .int .i64 k ∧ Below w.heap.size w wr)
  case atStart => exact ⟨0, Nat.sub_le _ _, Nat.zero_le _, rfl, by (repeat (first | exact Below.refl _ _ | assumption | refine balloc ?_ _ | refine below_drewN ?_ _ | refine bstep (by assumption) ?_ | refine bstep (Past.prop _) ?_ | refine Below.setCell ?_ (by first | exact Nat.le_refl _ | (simp; done) | (simp; omega)) _))⟩
  case round =>
    obtain ⟨k, hgh, hk, rfl, hb⟩ := hrel
    have HG := hidE hgh; have HB := hidE hb
    clear hgh
    by_cases hlt : k < n1
    · have d1 : decide ((k : Int) < (n1 : Int)) = true := decide_eq_true (by omega)
      have d1' : decide (k < n1) = true := decide_eq_true hlt
      have hkL : k < L.length := by have := HN.out; omega
      obtain ⟨b1, o1, rfl, z1, hc1⟩ := HQ.out (by omega)
      obtain ⟨b2, o2, rfl, z2, hc2⟩ := HS.out (by omega)
      obtain ⟨e0, e1⟩ := hc1 k hkL
      obtain ⟨f0, f1⟩ := hc2 k hkL
      rw [← hb.cell z1] at e0 e1
      rw [← hb.cell z2] at f0 f1
      have hz := hb.size
      have z3 : b1 < wr.heap.size := by omega
      have z4 : b2 < wr.heap.size := by omega
      generalize L.getD k (0, 0) = x at *
      obtain ⟨x0, x1⟩ := x
      simp only at e0 e1 f0 f1
      clear hc1 hc2
      go_wp2
      go_quiet (fail)
      go_wp2
      go_roundg (n1 - (k + 1))
      case measure => have := HG.out; omega
      case rel => exact ⟨k + 1, Nat.le_refl _, by omega, by go_num, by (repeat (first | exact Below.refl _ _ | assumption | refine balloc ?_ _ | refine below_drewN ?_ _ | refine bstep (by assumption) ?_ | refine bstep (Past.prop _) ?_ | refine Below.setCell ?_ (by first | exact Nat.le_refl _ | (simp; done) | (simp; omega)) _))⟩
    · have d1 : decide ((k : Int) < (n1 : Int)) = false := decide_eq_false (by omega)
      have d1' : decide (k < n1) = false := decide_eq_false hlt
      go_wp2
      go_ret
      exact ⟨rfl, HB.out⟩
/-- Is it more than a statement looks at? -/
def grB (n m : Nat) (a b : Int) : Bool := decide (60 < n ∨ 30 < m ∨ (a < b ∧ 150 < b - a ∧ b - a ≤ 4096))
theorem grB_no {n m : Nat} {a b : Int} (h : grB n m a b = false) : n ≤ 60 ∧ m ≤ 30 ∧ (a < b → b - a ≤ 4096 → b - a ≤ 150) := by
  unfold grB at h
  rw [decide_eq_false_iff_not] at h
  omega
set_option maxRecDepth 100000 in
theorem sgreat_c (af al : Option Addr) (n m cF cL : Nat) (a b : Int) (w : World) (ha : -9223372036854775808 ≤ a ∧ a ≤ 9223372036854775807) (hb : -9223372036854775808 ≤ b ∧ b ≤ 9223372036854775807) (hn : n ≤ 9223372036854775807) (hm : m ≤ 9223372036854775807) :
    Calls Try.prog 6 #[.slice af n cF, V a b, .slice al m cL] w fun e w' => e = .returned (.bool (grB n m a b)) ∧ Below w.heap.size w w' := by
  by_cases h1 : 60 < n
  · have e : grB n m a b = true := by unfold grB; exact decide_eq_true (by omega)
    have d1 : decide (60 < (n : Int)) = true := decide_eq_true (by omega)
    have d1' : decide (60 < n) = true := decide_eq_true h1
    have E := hidE e
    clear h1 e
    rw [E.out]
    go_enter Try.func6, Try.ntmps6
    go_wp2
    go_ret
    exact ⟨rfl, by (repeat (first | exact Below.refl _ _ | assumption | refine balloc ?_ _ | refine below_drewN ?_ _ | refine bstep (by assumption) ?_ | refine bstep (Past.prop _) ?_ | refine Below.setCell ?_ (by first | exact Nat.le_refl _ | (simp; done) | (simp; omega)) _))⟩
  have d1 : decide (60 < (n : Int)) = false := decide_eq_false (by omega)
  have d1' : decide (60 < n) = false := decide_eq_false h1
  by_cases h2 : 30 < m
  · have e : grB n m a b = true := by unfold grB; exact decide_eq_true (by omega)
    have d2 : decide (30 < (m : Int)) = true := decide_eq_true (by omega)
    have d2' : decide (30 < m) = true := decide_eq_true h2
    have E := hidE e
    clear h1 h2 e
    rw [E.out]
    go_enter Try.func6, Try.ntmps6
    go_wp2
    go_ret
    exact ⟨rfl, by (repeat (first | exact Below.refl _ _ | assumption | refine balloc ?_ _ | refine below_drewN ?_ _ | refine bstep (by assumption) ?_ | refine bstep (Past.prop _) ?_ | refine Below.setCell ?_ (by first | exact Nat.le_refl _ | (simp; done) | (simp; omega)) _))⟩
  have d2 : decide (30 < (m : Int)) = false := decide_eq_false (by omega)
  have d2' : decide (30 < m) = false := decide_eq_false h2
  by_cases h3 : a < b
  · have d3 : decide (a < b) = true := decide_eq_true h3
    obtain ⟨D, hD⟩ : ∃ D, D = IntKind.i64.wrap (b - a) := ⟨_, rfl⟩
    have hD1 : IntKind.i64.wrap (b - a) = D := hD.symm
    have hD2 : wrap64 (b - a) = D := by rw [← hD1]; exact (IntWalk.i64_left _).symm
    have hE : grB n m a b = (decide (150 < D) && decide (D ≤ 4096)) := by
      unfold grB
      have : D = wrap64 (b - a) := hD2.symm
      unfold wrap64 at this
      rw [← Bool.decide_and, decide_eq_decide]
      constructor
      · rintro (h | h | ⟨_, h4, h5⟩)
        · omega
        · omega
        · omega
      · rintro ⟨h4, h5⟩
        refine .inr (.inr ⟨h3, ?_, ?_⟩) <;> omega
    have E := hidE hE
    clear h1 h2 h3 hE hD
    rw [E.out]
    by_cases h4 : 150 < D
    · have d4 : decide (150 < D) = true := decide_eq_true h4
      go_enter Try.func6, Try.ntmps6
      go_wp2
      go_ret
      exact ⟨by rw [d4]; rfl, by (repeat (first | exact Below.refl _ _ | assumption | refine balloc ?_ _ | refine below_drewN ?_ _ | refine bstep (by assumption) ?_ | refine bstep (Past.prop _) ?_ | refine Below.setCell ?_ (by first | exact Nat.le_refl _ | (simp; done) | (simp; omega)) _))⟩
    · have d4 : decide (150 < D) = false := decide_eq_false h4
      go_enter Try.func6, Try.ntmps6
      go_wp2
      go_ret
      exact ⟨rfl, by (repeat (first | exact Below.refl _ _ | assumption | refine balloc ?_ _ | refine below_drewN ?_ _ | refine bstep (by assumption) ?_ | refine bstep (Past.prop _) ?_ | refine Below.setCell ?_ (by first | exact Nat.le_refl _ | (simp; done) | (simp; omega)) _))⟩
  · have e : grB n m a b = false := by unfold grB; exact decide_eq_false (by omega)
    have d3 : decide (a < b) = false := decide_eq_false h3
    have E := hidE e
    clear h1 h2 h3 e
    rw [E.out]
    go_enter Try.func6, Try.ntmps6
    go_wp2
    go_ret
    exact ⟨rfl, by (repeat (first | exact Below.refl _ _ | assumption | refine balloc ?_ _ | refine below_drewN ?_ _ | refine bstep (by assumption) ?_ | refine bstep (Past.prop _) ?_ | refine Below.setCell ?_ (by first | exact Nat.le_refl _ | (simp; done) | (simp; omega)) _))⟩
theorem begins_eq {F l : List Sg} {a b er : Int} {L : List Wn} {f g : Option Addr} {n m cF cL : Nat} {w : World} (h1 : SliS w (.slice f n cF) F) (h2 : SliS w (.slice g m cL) l) (hn : n ≤ 100000) (hm : m ≤ 1000000000) (ha : -9223372036854775808 ≤ a ∧ a ≤ 9223372036854775807) (hb : -9223372036854775808 ≤ b ∧ b ≤ 9223372036854775807) (he : begS F a b l = (L, er)) :
    Calls Try.prog 8 #[.slice f n cF, V a b, .slice g m cL] w (VsIs w L er) := by
  obtain ⟨a', c', e, q1, q2, q3⟩ := h1
  obtain ⟨a'', c'', e2, s1, s2, s3⟩ := h2
  cases e; cases e2
  have := begins_c F l a b f g cF cL w hn hm ha hb q3 s3
  rw [he] at this
  exact this
theorem ear_eq {F l : List Sg} {a b : Int} {r : Int × Int} {f g : Option Addr} {n m cF cL : Nat} {w : World} (h1 : SliS w (.slice f n cF) F) (h2 : SliS w (.slice g m cL) l) (hn : n ≤ 100000) (hm : m ≤ 1000000000) (ha : -9223372036854775808 ≤ a ∧ a ≤ 9223372036854775807) (hb : -9223372036854775808 ≤ b ∧ b ≤ 9223372036854775807) (he : earS F a b l = r) :
    Calls Try.prog 14 #[.slice f n cF, V a b, .slice g m cL] w fun e w' => e = .returned (IE r) ∧ Below w.heap.size w w' := by
  obtain ⟨a', c', e, q1, q2, q3⟩ := h1
  obtain ⟨a'', c'', e2, s1, s2, s3⟩ := h2
  cases e; cases e2; subst he
  exact earliest_c F l a b f g cF cL w hn hm ha hb q3 s3
theorem lat_eq {F l : List Sg} {a b : Int} {r : Int × Int} {f g : Option Addr} {n m cF cL : Nat} {w : World} (h1 : SliS w (.slice f n cF) F) (h2 : SliS w (.slice g m cL) l) (hn : n ≤ 100000) (hm : m ≤ 1000000000) (ha : -9223372036854775808 ≤ a ∧ a ≤ 9223372036854775807) (hb : -9223372036854775808 ≤ b ∧ b ≤ 9223372036854775807) (he : latS F a b l = r) :
    Calls Try.prog 15 #[.slice f n cF, V a b, .slice g m cL] w fun e w' => e = .returned (IE r) ∧ Below w.heap.size w w' := by
  obtain ⟨a', c', e, q1, q2, q3⟩ := h1
  obtain ⟨a'', c'', e2, s1, s2, s3⟩ := h2
  cases e; cases e2; subst he
  exact latest_c F l a b f g cF cL w hn hm ha hb q3 s3
set_option maxRecDepth 100000 in
set_option maxHeartbeats 16000000 in
theorem shead_c (w : World) : Calls Try.prog 7 #[] w fun e w' => e = .returned (.bool true) ∧ Below w.heap.size w w' := by
  go_enter Try.func7, Try.ntmps7
  go_wp2_with fail
  ((with_reducible refine (slv_c _ _).mono ?_); rintro e w1 ⟨rfl, hb⟩)
  have HX := hidE (show Below w.heap.size w w1 from hb)
  have HB := HX
  clear hb HX
  go_wp2_with fail
  ((with_reducible refine (slv_c _ _).mono ?_); rintro e w2 ⟨rfl, hb⟩)
  have HX := hidE (show Below w1.heap.size w1 w2 from hb)
  have HB := hidE (bstep HX.out HB.out)
  clear hb HX
  go_wp2_with fail
  ((with_reducible refine (slv_c _ _).mono ?_); rintro e w3 ⟨rfl, hb⟩)
  have HX := hidE (show Below w2.heap.size w2 w3 from hb)
  have HB := hidE (bstep HX.out HB.out)
  clear hb HX
  go_upto_region 2 with fail
  obtain ⟨w4, hw⟩ : ∃ z, z = w3.alloc (Obj.cells #[.int .i64 0, .int .i64 5, .int .i64 5, .int .i64 10, .int .i64 2, .int .i64 2, .int .i64 12, .int .i64 5, .int .i64 5, .int .i64 20, .int .i64 0, .int .i64 0] 48) := ⟨_, rfl⟩
  have BN : Blk w4 w3.heap.size #[.int .i64 0, .int .i64 5, .int .i64 5, .int .i64 10, .int .i64 2, .int .i64 2, .int .i64 12, .int .i64 5, .int .i64 5, .int .i64 20, .int .i64 0, .int .i64 0] 48 := by rw [hw]; exact Blk.made _ _ _
  obtain ⟨pF, hp⟩ : ∃ z, z = w3.heap.size := ⟨_, rfl⟩
  rw [← hw, ← hp]
  rw [← hp] at BN
  have hb : Below w3.heap.size w3 w4 := by rw [hw]; exact (Below.refl _ _).alloc (Nat.le_refl _) _
  have HX := hidE (show Below w3.heap.size w3 w4 from hb)
  have HB := hidE (bstep HX.out HB.out)
  clear hb HX
  have SF := hidE (show SliS w4 (.slice (some ⟨pF, 0, none⟩) 4 4) hsF from sliS_mkS rfl (by omega) BN)
  clear BN hw hp
  go_upto_region 3 with fail
  obtain ⟨w5, hw⟩ : ∃ z, z = w4.alloc (Obj.cells #[.int .i64 0, .int .i64 30] 24) := ⟨_, rfl⟩
  have BN : Blk w5 w4.heap.size #[.int .i64 0, .int .i64 30] 24 := by rw [hw]; exact Blk.made _ _ _
  obtain ⟨pW, hp⟩ : ∃ z, z = w4.heap.size := ⟨_, rfl⟩
  rw [← hw, ← hp]
  rw [← hp] at BN
  have hb : Below w4.heap.size w4 w5 := by rw [hw]; exact (Below.refl _ _).alloc (Nat.le_refl _) _
  have HX := hidE (show Below w4.heap.size w4 w5 from hb)
  have HB := hidE (bstep HX.out HB.out)
  have SF := hidE (SF.out.past HX.out)
  clear hb HX
  have BW := hidE (BN)
  clear BN hw hp
  go_wp2_with fail
  ((with_reducible refine (slv_c _ _).mono ?_); rintro e w6 ⟨rfl, hb⟩)
  have HX := hidE (show Below w5.heap.size w5 w6 from hb)
  have HB := hidE (bstep HX.out HB.out)
  have SF := hidE (SF.out.past HX.out); have BW := hidE (BW.out.past HX.out)
  clear hb HX
  go_upto_region 4 with fail
  obtain ⟨w7, hw⟩ : ∃ z, z = w6.alloc (Obj.cells #[.int .i64 4, .int .i64 3, .int .i64 3] 37) := ⟨_, rfl⟩
  have BN : Blk w7 w6.heap.size #[.int .i64 4, .int .i64 3, .int .i64 3] 37 := by rw [hw]; exact Blk.made _ _ _
  obtain ⟨pL, hp⟩ : ∃ z, z = w6.heap.size := ⟨_, rfl⟩
  rw [← hw, ← hp]
  rw [← hp] at BN
  have hb : Below w6.heap.size w6 w7 := by rw [hw]; exact (Below.refl _ _).alloc (Nat.le_refl _) _
  have HX := hidE (show Below w6.heap.size w6 w7 from hb)
  have HB := hidE (bstep HX.out HB.out)
  have SF := hidE (SF.out.past HX.out); have BW := hidE (BW.out.past HX.out)
  clear hb HX
  have SL := hidE (show SliS w7 (.slice (some ⟨pL, 0, none⟩) 1 1) hsL from sliS_mkS rfl (by omega) BN)
  clear BN hw hp
  go_wp2_with fail
  ((with_reducible refine (slv_c _ _).mono ?_); rintro e w8 ⟨rfl, hb⟩)
  have HX := hidE (show Below w7.heap.size w7 w8 from hb)
  have HB := hidE (bstep HX.out HB.out)
  have SF := hidE (SF.out.past HX.out); have BW := hidE (BW.out.past HX.out); have SL := hidE (SL.out.past HX.out)
  clear hb HX
  go_wp2_with fail
  ((with_reducible refine (slv_c _ _).mono ?_); rintro e w9 ⟨rfl, hb⟩)
  have HX := hidE (show Below w8.heap.size w8 w9 from hb)
  have HB := hidE (bstep HX.out HB.out)
  have SF := hidE (SF.out.past HX.out); have BW := hidE (BW.out.past HX.out); have SL := hidE (SL.out.past HX.out)
  clear hb HX
  go_upto_region 5 with fail
  obtain ⟨w10, hw⟩ : ∃ z, z = w9.alloc (Obj.cells #[.int .i64 4, .int .i64 3, .int .i64 3, .int .i64 2, .int .i64 1, .int .i64 1] 37) := ⟨_, rfl⟩
  have BN : Blk w10 w9.heap.size #[.int .i64 4, .int .i64 3, .int .i64 3, .int .i64 2, .int .i64 1, .int .i64 1] 37 := by rw [hw]; exact Blk.made _ _ _
  obtain ⟨pM, hp⟩ : ∃ z, z = w9.heap.size := ⟨_, rfl⟩
  rw [← hw, ← hp]
  rw [← hp] at BN
  have hb : Below w9.heap.size w9 w10 := by rw [hw]; exact (Below.refl _ _).alloc (Nat.le_refl _) _
  have HX := hidE (show Below w9.heap.size w9 w10 from hb)
  have HB := hidE (bstep HX.out HB.out)
  have SF := hidE (SF.out.past HX.out); have BW := hidE (BW.out.past HX.out); have SL := hidE (SL.out.past HX.out)
  clear hb HX
  have SM := hidE (show SliS w10 (.slice (some ⟨pM, 0, none⟩) 2 2) hsM from sliS_mkS rfl (by omega) BN)
  clear BN hw hp
  have x0 := BW.out.cell 0; have x1 := BW.out.cell 1; have xz := BW.out.lt
  simp at x0 x1
  go_wp2_with fail
  ((with_reducible refine (begins_eq SF.out SL.out (by omega) (by omega) (by omega) (by omega) hs1).mono ?_); rintro e w11 ⟨a5, c5, rfl, hs5a, hb⟩)
  have HX := hidE (show Below w10.heap.size w10 w11 from hb)
  have HB := hidE (bstep HX.out HB.out)
  have SF := hidE (SF.out.past HX.out); have BW := hidE (BW.out.past HX.out); have SL := hidE (SL.out.past HX.out); have SM := hidE (SM.out.past HX.out)
  clear hb HX
  clear x0 x1 xz
  have S5 := hidE (show SliVs w11 (.slice a5 2 c5) [(0, 7), (12, 17)] from hs5a)
  clear hs5a
  have x0 := BW.out.cell 0; have x1 := BW.out.cell 1; have xz := BW.out.lt
  simp at x0 x1
  go_wp2_with fail
  ((with_reducible refine (ear_eq SF.out SL.out (by omega) (by omega) (by omega) (by omega) hs2).mono ?_); rintro e w12 ⟨rfl, hb⟩)
  have HX := hidE (show Below w11.heap.size w11 w12 from hb)
  have HB := hidE (bstep HX.out HB.out)
  have SF := hidE (SF.out.past HX.out); have BW := hidE (BW.out.past HX.out); have SL := hidE (SL.out.past HX.out); have SM := hidE (SM.out.past HX.out); have S5 := hidE (S5.out.past HX.out)
  clear hb HX
  clear x0 x1 xz
  have x0 := BW.out.cell 0; have x1 := BW.out.cell 1; have xz := BW.out.lt
  simp at x0 x1
  go_wp2_with fail
  ((with_reducible refine (lat_eq SF.out SL.out (by omega) (by omega) (by omega) (by omega) hs3).mono ?_); rintro e w13 ⟨rfl, hb⟩)
  have HX := hidE (show Below w12.heap.size w12 w13 from hb)
  have HB := hidE (bstep HX.out HB.out)
  have SF := hidE (SF.out.past HX.out); have BW := hidE (BW.out.past HX.out); have SL := hidE (SL.out.past HX.out); have SM := hidE (SM.out.past HX.out); have S5 := hidE (S5.out.past HX.out)
  clear hb HX
  clear x0 x1 xz
  go_wp2_with fail
  ((with_reducible refine (ear_eq SF.out SL.out (by omega) (by omega) (by omega) (by omega) hs4).mono ?_); rintro e w14 ⟨rfl, hb⟩)
  have HX := hidE (show Below w13.heap.size w13 w14 from hb)
  have HB := hidE (bstep HX.out HB.out)
  have SF := hidE (SF.out.past HX.out); have BW := hidE (BW.out.past HX.out); have SL := hidE (SL.out.past HX.out); have SM := hidE (SM.out.past HX.out); have S5 := hidE (S5.out.past HX.out)
  clear hb HX
  have x0 := BW.out.cell 0; have x1 := BW.out.cell 1; have xz := BW.out.lt
  simp at x0 x1
  go_wp2_with fail
  ((with_reducible refine (begins_eq SF.out SM.out (by omega) (by omega) (by omega) (by omega) hs5).mono ?_); rintro e w15 ⟨a6, c6, rfl, hs6a, hb⟩)
  have HX := hidE (show Below w14.heap.size w14 w15 from hb)
  have HB := hidE (bstep HX.out HB.out)
  have SF := hidE (SF.out.past HX.out); have BW := hidE (BW.out.past HX.out); have SL := hidE (SL.out.past HX.out); have SM := hidE (SM.out.past HX.out); have S5 := hidE (S5.out.past HX.out)
  clear hb HX
  clear x0 x1 xz
  have S6 := hidE (show SliVs w15 (.slice a6 2 c6) [(0, 7), (12, 15)] from hs6a)
  clear hs6a
  go_wp2_with fail
  ((with_reducible refine (length_eq SM.out (by omega) hs6).mono ?_); rintro e w16 ⟨rfl, hb⟩)
  have HX := hidE (show Below w15.heap.size w15 w16 from hb)
  have HB := hidE (bstep HX.out HB.out)
  have SF := hidE (SF.out.past HX.out); have BW := hidE (BW.out.past HX.out); have SL := hidE (SL.out.past HX.out); have SM := hidE (SM.out.past HX.out); have S5 := hidE (S5.out.past HX.out); have S6 := hidE (S6.out.past HX.out)
  clear hb HX
  go_wp2_with fail
  ((with_reducible refine (ear_eq SF.out SL.out (by omega) (by omega) (by omega) (by omega) hs7).mono ?_); rintro e w17 ⟨rfl, hb⟩)
  have HX := hidE (show Below w16.heap.size w16 w17 from hb)
  have HB := hidE (bstep HX.out HB.out)
  have SF := hidE (SF.out.past HX.out); have BW := hidE (BW.out.past HX.out); have SL := hidE (SL.out.past HX.out); have SM := hidE (SM.out.past HX.out); have S5 := hidE (S5.out.past HX.out); have S6 := hidE (S6.out.past HX.out)
  clear hb HX
  go_wp2_with fail
  ((with_reducible refine (ear_eq SF.out SL.out (by omega) (by omega) (by omega) (by omega) hs8).mono ?_); rintro e w18 ⟨rfl, hb⟩)
  have HX := hidE (show Below w17.heap.size w17 w18 from hb)
  have HB := hidE (bstep HX.out HB.out)
  have SF := hidE (SF.out.past HX.out); have BW := hidE (BW.out.past HX.out); have SL := hidE (SL.out.past HX.out); have SM := hidE (SM.out.past HX.out); have S5 := hidE (S5.out.past HX.out); have S6 := hidE (S6.out.past HX.out)
  clear hb HX
  have ha : Below w18.heap.size w18 (w18.alloc (Obj.cells #[.int .i64 0, .int .i64 7, .int .i64 12, .int .i64 17] 24)) := (Below.refl _ _).alloc (Nat.le_refl _) _
  have HA := hidE ha
  clear ha
  go_wp2_with fail
  ((with_reducible refine (rsameW_t (S5.out.past HA.out) (sliVs_mk (n := 2) (l := [(0, 7), (12, 17)]) ?hln ?hlb (Blk.made _ _ _))).mono ?_)
   case hln => rfl
   case hlb => omega)
  rintro e wa ⟨rfl, hb⟩
  have HX := hidE (show Below w18.heap.size w18 wa from HA.out.trans (hb.mono HA.out.size))
  have HB := hidE (bstep HX.out HB.out)
  have S6 := hidE (S6.out.past HX.out)
  clear hb HX HA
  have ha : Below wa.heap.size wa (wa.alloc (Obj.cells #[.int .i64 0, .int .i64 7, .int .i64 12, .int .i64 15] 24)) := (Below.refl _ _).alloc (Nat.le_refl _) _
  have HA := hidE ha
  clear ha
  go_wp2_with fail
  ((with_reducible refine (rsameW_t (S6.out.past HA.out) (sliVs_mk (n := 2) (l := [(0, 7), (12, 15)]) ?hln2 ?hlb2 (Blk.made _ _ _))).mono ?_)
   case hln2 => rfl
   case hlb2 => omega)
  rintro e wb ⟨rfl, hb⟩
  have HX := hidE (show Below wa.heap.size wa wb from HA.out.trans (hb.mono HA.out.size))
  have HB := hidE (bstep HX.out HB.out)
  clear hb HX HA
  go_wp2
  go_ret
  exact ⟨rfl, HB.out⟩
end Go.Proofs.Ytmjfogmpbidooaa

namespace Go.Proofs.Ytmjfogmpbidooaa
open Go.RowKit

/-- The contract of an iterator value, as SeqT, with the one block that the body made in an earlier round and may write again (g: from where on the body's blocks lie, and that block). -/
def SeqO {α : Type} (P : Program) (gf : Nat) (rb lb : Array Value) (encs : α → Array Value) (n₀ : Nat) (S : List α) (w : World) : Prop :=
  ∀ (l : Nat) (J : List α → Option (Nat × Nat) → World → Prop) (Jx : List α → World → Prop) (W : World), Below w.heap.size w W →
    (∀ s g A B, J s g A → Below W.heap.size A B → (∀ b k, g = some (b, k) → B.heap[k]? = A.heap[k]?) → J s g B) → (∀ s g A, J s g A → ∀ b k, g = some (b, k) → b ≤ k ∧ k < A.heap.size) → (∀ s A B, Jx s A → Below W.heap.size A B → Jx s B) →
    (∀ pre x g W1, J pre g W1 → W.heap.size ≤ W1.heap.size → pre ++ [x] <+: S → YieldAt Fence.wide 0 P l (encs x) W1 fun e W' =>
      (e = .returned (.bool true) ∧ ∃ g', J (pre ++ [x]) g' W' ∧ Below n₀ W1 W' ∧ (∀ k, W.heap.size ≤ k → k < W1.heap.size → (∀ b, g ≠ some (b, k)) → W'.heap[k]? = W1.heap[k]?) ∧ (∀ b k, g' = some (b, k) → W1.heap.size ≤ b ∨ ∃ j, g = some (b, j))) ∨ (e = .returned (.bool false) ∧ Jx (pre ++ [x]) W')) →
    J [] none W →
    Calls P gf (rb ++ #[.func (.yield l) #[] #[]] ++ lb) W fun e W' => (∃ v, e = .returned v) ∧ ((∃ g, J S g W') ∨ ∃ pre, pre <+: S ∧ Jx pre W')

theorem SeqO.toT {α : Type} {P : Program} {gf : Nat} {rb lb : Array Value} {encs : α → Array Value} {n₀ : Nat} {S : List α} {w : World} (h : SeqO P gf rb lb encs n₀ S w) : SeqT P gf rb lb encs n₀ S w := by
  intro l J Jx W hW hJ hJx hY h0
  refine (h l (fun s g A => g = none ∧ J s A) Jx W hW (fun s g A B q hb _ => ⟨q.1, hJ _ _ _ q.2 hb⟩) (fun s g A q b k hk => by rw [q.1] at hk; cases hk) hJx ?_ ⟨rfl, h0⟩).mono ?_
  · rintro pre x g W1 ⟨rfl, q⟩ hz hpre
    obtain ⟨fn, tmps, assign, body, hy, hR⟩ := hY pre x W1 q hpre
    refine ⟨fn, tmps, assign, body, hy, hR.mono ?_⟩
    rintro e W' (⟨rfl, k1, k2⟩ | ⟨rfl, k1⟩)
    · exact .inl ⟨rfl, none, ⟨rfl, k1⟩, k2.below, fun k hk hl _ => k2.beyond k hk hl, fun b k hk => by cases hk⟩
    · exact .inr ⟨rfl, k1⟩
  · rintro e W' ⟨hv, ⟨g, _, q⟩ | q⟩
    · exact ⟨hv, .inl q⟩
    · exact ⟨hv, .inr q⟩

/-- How the body of a round may be left: by its end alone. -/
def postO {α : Type} (n₀ n₁ : Nat) (I : List α → Option (Nat × Nat) → World → Prop) (xs : List α) (g : Option (Nat × Nat)) (W : World) : Exit → Act → World → Prop
  | .normal, _, W' => ∃ g', I xs g' W' ∧ Below n₀ W W' ∧ (∀ k, n₁ ≤ k → k < W.heap.size → (∀ b, g ≠ some (b, k)) → W'.heap[k]? = W.heap[k]?) ∧ (∀ b k, g' = some (b, k) → W.heap.size ≤ b ∨ ∃ j, g = some (b, j))
  | _, _, _ => False

/-- The statement. -/
theorem wp_rangeFunc_O {α : Type} {P : Program} {gop : Operand} {ps : Array Tmp} {assign body : Code} {Q : Exit → Act → World → Prop} {a : Act} {w : World}
    {gf : Nat} {rb lb : Array Value} (hg : a.eval gop = .func (.func gf) rb lb) (eg : ∀ args w, (callFunc gf args).run P w = .ok (.enter gf args) w)
    {encs : α → Array Value} {n₀ : Nat} (hn₀ : n₀ ≤ w.heap.size) {S : List α} (hseq : SeqO P gf rb lb encs n₀ S w) (hps : ∀ x, (encs x).size = ps.size)
    (I : List α → Option (Nat × Nat) → World → Prop) (hI : ∀ s g A B, I s g A → Below w.heap.size A B → (∀ b k, g = some (b, k) → B.heap[k]? = A.heap[k]?) → I s g B) (hIg : ∀ s g A, I s g A → ∀ b k, g = some (b, k) → b ≤ k ∧ k < A.heap.size) (h0 : I [] none w)
    (Ax : α → Act → World → Prop) (hAx : ∀ x a' A l r o, Ax x a' A → A.heap[l]? = some (.loop r) → Ax x a' (A.putObj l o))
    (hassign : ∀ (l : Nat) (pre : List α) (x : α) (g : Option (Nat × Nat)) (W : World) (K : Act → World → Prop), w.heap.size ≤ W.heap.size → I pre g W → (∀ a' W', Below W.heap.size W W' → I pre g W' → Ax x a' W' → K a' W') →
      assign.wpIn (Fence.wide.inRound l) 0 P (Exit.then K (fun _ _ _ => False)) { tmps := (ps.zip (encs x)).foldl (fun t (p, v) => t.setIfInBounds p v) a.tmps, defers := [] } W)
    (hbody : ∀ (l : Nat) (pre : List α) (x : α) (g : Option (Nat × Nat)) (a' : Act) (W : World), w.heap.size ≤ W.heap.size → I pre g W → Ax x a' W → pre ++ [x] <+: S → body.wpIn (Fence.wide.inRound l) 0 P (postO n₀ w.heap.size I (pre ++ [x]) g W) a' W)
    (hdone : ∀ (D : Nat) (g : Option (Nat × Nat)) (W : World), D = w.heap.size → I S g W → (∀ b k, g = some (b, k) → w.heap.size + 2 ≤ b) → W.heap[D]? = some (.deferred (some [])) → Q .normal { a with defers := { target := .collected D, args := #[] } :: a.defers } W) :
    (Code.rangeFunc gop ps assign body).wp P Q a w := by
  refine (wpIn_wide (n := 0)).1 (wpIn_rangeFunc ?_)
  intro fn hfn
  obtain ⟨rec, hrec⟩ : ∃ rec : LoopState → Option Code → Loop, rec = fun st pe => { state := st, pending := pe, fn, tmps := a.tmps, params := ps, assign, body, defers := w.heap.size } := ⟨_, rfl⟩
  obtain ⟨W1, hW1⟩ : ∃ W1, (w.alloc (.deferred (some []))).alloc (.loop (rec .ready none)) = W1 := ⟨_, rfl⟩
  have hL1 : W1.heap[w.heap.size + 1]? = some (.loop (rec .ready none)) := by
    rw [← hW1]; have := World.alloc_heap_new (w.alloc (.deferred (some []))) (.loop (rec .ready none)); rwa [World.size_alloc] at this
  have hK1 : W1.heap[w.heap.size]? = some (.deferred (some [])) := by
    rw [← hW1]; exact (Below.heap_alloc _ _ _ (by simp)).trans (World.alloc_heap_new w _)
  have hb1 : Below w.heap.size w W1 := by
    rw [← hW1]; exact ((Below.refl _ w).alloc (Nat.le_refl _) _).alloc (by simp) _
  have hs1 : W1.heap.size = w.heap.size + 2 := by rw [← hW1]; simp
  have hI1 : I [] none W1 := hI _ _ _ _ h0 hb1 (fun b k hk => by cases hk)
  refine ⟨w.heap.size + 1, [{ target := .collected w.heap.size, args := #[] }], W1, { target := .fn (.func gf) lb, args := rb ++ #[.func (.yield (w.heap.size + 1)) #[] #[]] }, W1, gf,
    rb ++ #[.func (.yield (w.heap.size + 1)) #[] #[]] ++ lb, W1, ?_, ?_, ?_, ?_, fun h => by simp [Fence.wide] at h, ?_⟩
  · rw [← hW1, hrec]; exact run_enterLoop_outer _ _ _ _ _
  · simp only [resolve, hg]
    simp [go_sem, Deferred.ofValue]
  · intro f' hf'; trivial
  · simp [invoke, go_sem, eg]
  · refine callsIn_wide.2 ?_
    refine (hseq (w.heap.size + 1)
      (fun pre g W => I pre g W ∧ W.heap[w.heap.size + 1]? = some (.loop (rec .ready none)) ∧ W.heap[w.heap.size]? = some (.deferred (some [])) ∧ w.heap.size ≤ W.heap.size ∧ ∀ b k, g = some (b, k) → w.heap.size + 2 ≤ b)
      (fun _ _ => False)
      W1 hb1
      (fun s g A B hs hb hk => ⟨hI s g A B hs.1 (hb.mono (by omega)) hk, (hb.block _ (by omega)).trans hs.2.1, (hb.block _ (by omega)).trans hs.2.2.1, Nat.le_trans hs.2.2.2.1 hb.size, hs.2.2.2.2⟩)
      (fun s g A hs b k hk => hIg s g A hs.1 b k hk)
      (fun s A B hs _ => hs)
      ?_ ⟨hI1, hL1, hK1, hb1.size, fun b k hk => by cases hk⟩).mono ?_
    · -- one round
      rintro pre x g W ⟨hi, hl, hk, hsz, hg0⟩ hW1z hpre
      have hlt : w.heap.size + 1 < W.heap.size := (Array.getElem?_eq_some_iff.1 hl).1
      have hy := run_yield (P := P) (args := encs x) hl (by rw [hrec]; exact hps x)
      rw [hrec] at hy
      refine ⟨fn, _, assign, body, hy, roundIn_of_wpIn trivial (hassign _ pre x g W _ hsz hi ?_)⟩
      clear hy
      intro a' Wa hoa hia hax
      have hla := (hoa.block (w.heap.size + 1) hlt).trans hl
      have hka := (hoa.block w.heap.size (by omega)).trans hk
      have hlta : w.heap.size + 1 < Wa.heap.size := Nat.lt_of_lt_of_le hlt hoa.size
      refine ⟨_, run_beginRound hla (by rw [hrec]), ?_⟩
      have hl2 : (Wa.putObj (w.heap.size + 1) (.loop { rec .ready none with state := .busy })).heap[w.heap.size + 1]? = some (.loop { rec .ready none with state := .busy }) := World.putObj_heap_same hlta
      have hk2 : (Wa.putObj (w.heap.size + 1) (.loop { rec .ready none with state := .busy })).heap[w.heap.size]? = some (.deferred (some [])) := (World.putObj_heap_other (by omega)).trans hka
      have hb2 : Below w.heap.size Wa (Wa.putObj (w.heap.size + 1) (.loop { rec .ready none with state := .busy })) := below_putObj _ _ _ (by omega)
      refine wpIn_mono (hbody _ pre x g a' _ (by have := hoa.size; simp; omega) (hI _ _ _ _ hia hb2 (fun b k hk => World.putObj_heap_other (fun e => by have := hg0 b k hk; have := (hIg _ _ _ hi b k hk).1; omega))) (hAx _ _ _ _ _ _ hax hla) hpre) ?_
      rintro e a3 W3 hp
      cases e with
      | normal =>
        obtain ⟨g', hi3, hb3, hk3, hg3⟩ := hp
        have hz3 := hb3.size
        have hl3 := (hk3 (w.heap.size + 1) (by omega) (by simp; omega) (fun b e => by have := hg0 b _ e; have := (hIg _ _ _ hi b _ e).1; omega)).trans hl2
        have hd3 := (hk3 w.heap.size (Nat.le_refl _) (by simp; omega) (fun b e => by have := hg0 b _ e; have := (hIg _ _ _ hi b _ e).1; omega)).trans hk2
        have hr := run_endRound (P := P) (none : Option Code) hl3
        have hsz3 : w.heap.size + 1 < W3.heap.size := (Array.getElem?_eq_some_iff.1 hl3).1
        have hzz : W.heap.size ≤ W3.heap.size := by have := hoa.size; simp at hz3; omega
        have hg0' : ∀ b k, g' = some (b, k) → w.heap.size + 2 ≤ b := fun b k e => by
          rcases hg3 b k e with h | ⟨j, h⟩
          · simp at h
            have := hoa.size
            omega
          · exact hg0 b j h
        have hb4 : Below w.heap.size W3 (W3.putObj (w.heap.size + 1) (.loop (rec .ready none))) := below_putObj _ _ _ (by omega)
        refine ⟨.bool true, W3.putObj (w.heap.size + 1) (.loop (rec .ready none)), ?_, .inl ⟨rfl, g', ⟨hI _ _ _ _ hi3 hb4 (fun b k hk => World.putObj_heap_other (fun e => by have := hg0' b k hk; have := (hIg _ _ _ hi3 b k hk).1; omega)), World.putObj_heap_same hsz3, (World.putObj_heap_other (by omega)).trans hd3, by simp; omega, hg0'⟩, ?_, ?_, ?_⟩⟩
        · rw [hrec] at hr ⊢; exact hr
        · exact ((hoa.mono (by omega)).trans (hb2.mono hn₀)).trans (hb3.trans (hb4.mono hn₀))
        · intro k h1 h2 h3
          have h4 : k ≠ w.heap.size + 1 := by omega
          exact (World.putObj_heap_other h4).trans ((hk3 k (by omega) (by have := hoa.size; simp; omega) h3).trans ((World.putObj_heap_other h4).trans (hoa.block k h2)))
        · intro b k e
          rcases hg3 b k e with h | h
          · exact .inl (by have := hoa.size; simp at h; omega)
          · exact .inr h
      | ret => exact hp.elim
      | exit id => exact hp.elim
      | goto t => exact hp.elim
      | panic ch => exact hp.elim
      | outgrown => exact hp.elim
    · -- behind the iterator
      rintro e W2 ⟨⟨v, rfl⟩, (⟨g, hi, hl, hk, hz, hg0⟩ | ⟨pre, _, hf⟩)⟩
      · exact ⟨none, _, by have := run_endLoop (P := P) hl (by rw [hrec]; simp); rw [hrec] at this; exact this, hdone _ g _ rfl (hI _ _ _ _ hi (below_putObj _ _ _ (by omega)) (fun b k hk => World.putObj_heap_other (fun e => by have := hg0 b k hk; have := (hIg _ _ _ hi b k hk).1; omega))) hg0 ((World.putObj_heap_other (by omega)).trans hk)⟩
      · exact hf.elim
end Go.Proofs.Ytmjfogmpbidooaa

namespace Go.Proofs.Ytmjfogmpbidooaa
open Go.ChangeShapes Go.WideShapes Go.ChangeAt Go.RowKit
attribute [local irreducible] Go.Calls

/-- What yield is handed. -/
def encS (s : St) : Array Value := #[.agg #[.int .i64 s.1, .int .i64 s.2.1, .int .i64 s.2.2.1, .int .i64 s.2.2.2]]
/-- A window. -/
abbrev WN (a : Option Addr) (n cap : Nat) (x y : Int) : Value := .agg #[.slice a n cap, .int .i64 x, .int .i64 y]

/-- Where the walk stands between two rounds. -/
def StrAt (F : List Sg) (x y : Int) (w0 W : World) (J : List St → Option (Nat × Nat) → World → Prop) (gh : Nat) (v13 : Value) (wr : World) : Prop :=
  ∃ (k : Nat) (p q : Int) (v : Int × Int) (pre : List St) (g : Option (Nat × Nat)), (∀ b k, g = some (b, k) → W.heap.size + 2 ≤ b) ∧ k ≤ F.length ∧ F.length - k ≤ gh ∧ v13 = .int .i64 k ∧ pre ++ strG y (F.drop k) p v = strL F x y ∧ J pre g wr ∧
    Below w0.heap.size w0 wr ∧ W.heap.size + 1 < wr.heap.size ∧ Blk wr (W.heap.size + 1) #[.int .i64 p, .int .i64 q, .int .i64 v.1, .int .i64 v.2] 116

set_option maxRecDepth 100000 in
set_option maxHeartbeats 2000000 in
theorem strO_c (F : List Sg) (x y : Int) (a : Option Addr) (cap : Nat) (w0 w : World) (hl : F.length ≤ 1000000000) (hA : ArgS w0 a F) (hb : Below w0.heap.size w0 w) :
    SeqO Try.prog 75 #[WN a F.length cap x y] #[] encS w0.heap.size (strL F x y) w := by
  intro l J Jx W hW hJ hJg hJx hY h0
  have H0 := hidE h0; have HJ := hidE hJ; have HJG := hidE hJg; have HJX := hidE hJx; have HY := hidE hY
  have HA := hidE hA
  have hbW : Below w0.heap.size w0 W := hb.trans (hW.mono hb.size)
  have HBW := hidE hbW
  clear hA hJ hJg hJx hY h0 hb hW hbW
  show Calls Try.prog 75 #[WN a F.length cap x y, .func (.yield l) #[] #[]] W _
  go_enter Try.func75, Try.ntmps75
  go_wp2
  go_loopg [13] F.length (fun gh v13 wr => StrAt F x y w0 W J gh v13 wr ∧ Blk wr W.heap.size #[.slice a F.length cap, .int .i64 x, .int .i64 y] 106)
  case atStart =>
    refine ⟨⟨0, x, 0, (0, 0), [], none, fun b k h => (by cases h), Nat.zero_le _, Nat.le_refl _, rfl, rfl, HJ.out _ _ _ _ H0.out ?_ (fun b k h => by cases h), HBW.out.trans (Below.mono ?_ HBW.out.size), ?_, ?_⟩, ?_⟩
    · (repeat (first | exact Below.refl _ _ | assumption | refine balloc ?_ _ | refine below_drewN ?_ _ | refine bstep (by assumption) ?_ | refine bstep (Past.prop _) ?_ | refine Below.setCell ?_ (by first | exact Nat.le_refl _ | (simp; done) | (simp; omega)) _))
    · (repeat (first | exact Below.refl _ _ | assumption | refine balloc ?_ _ | refine below_drewN ?_ _ | refine bstep (by assumption) ?_ | refine bstep (Past.prop _) ?_ | refine Below.setCell ?_ (by first | exact Nat.le_refl _ | (simp; done) | (simp; omega)) _))
    · simp
    · exact Blk.made_at _ _ _ _ (by simp)
    · exact (Blk.made _ _ _).alloc _
  case round =>
    obtain ⟨⟨k, p, q, v, pre, g, hgb, hk, hgh, rfl, hpre, hJ1, hB1, hsz, blk⟩, blk0⟩ := hrel
    have HGB := hidE hgb
    have HK := hidE (fun b k (e : g = some (b, k)) => show W.heap.size + 1 < k ∧ k < wr.heap.size from by have h1 := hgb b k e; have h2 := HJG.out _ _ _ hJ1 b k e; omega)
    clear hgb
    have HJ1 := hidE hJ1; have HB1 := hidE hB1; have HPRE := hidE hpre; have HBK := hidE blk; have HBK0 := hidE blk0; have HSZ := hidE hsz; have HG := hidE hgh
    clear hJ1 hB1 hpre blk blk0 hsz hgh
    obtain ⟨wo, hwo⟩ : ∃ wo : World, wo = wr := ⟨_, rfl⟩
    have cases3 : ((¬ k < F.length ∨ (k < F.length ∧ decide ((k : Int) < (F.length : Int)) = true ∧ decide (y ≤ ats F k) = true)) ∧ pre ++ strZ y p v = strL F x y) ∨
        (k < F.length ∧ decide ((k : Int) < (F.length : Int)) = true ∧ decide (y ≤ ats F k) = false ∧ decide (p < ats F k) = false ∧ pre ++ strG y (F.drop (k + 1)) p (vls F k) = strL F x y) ∨
        (k < F.length ∧ decide ((k : Int) < (F.length : Int)) = true ∧ decide (y ≤ ats F k) = false ∧ decide (p < ats F k) = true ∧ pre ++ (p, ats F k, v) :: strG y (F.drop (k + 1)) (ats F k) (vls F k) = strL F x y) := by
      have hp := HPRE.out
      by_cases hlt : k < F.length
      · rw [drop_cons hlt] at hp
        have hd : decide ((k : Int) < (F.length : Int)) = true := decide_eq_true (by omega)
        by_cases h1 : y ≤ ats F k
        · rw [strG_end h1] at hp
          exact .inl ⟨.inr ⟨hlt, hd, decide_eq_true h1⟩, hp⟩
        · by_cases h2 : p < ats F k
          · rw [strG_cut h1 h2] at hp
            exact .inr (.inr ⟨hlt, hd, decide_eq_false h1, decide_eq_true h2, hp⟩)
          · rw [strG_on h1 h2] at hp
            exact .inr (.inl ⟨hlt, hd, decide_eq_false h1, decide_eq_false h2, hp⟩)
      · rw [List.drop_eq_nil_of_le (by omega), strG_nil] at hp
        exact .inl ⟨.inl hlt, hp⟩
    clear HPRE
    rcases cases3 with ⟨he, hp⟩ | ⟨hlt, hd, h1, h2, hp⟩ | ⟨hlt, hd, h1, h2, hp⟩
    · have HP := hidE hp
      clear hp
      have c3 := HBK0.out.cell 2; have c4 := HBK.out.cell 0; have c5 := HBK.out.cell 1; have c6 := HBK.out.cell 2; have c7 := HBK.out.cell 3; have f4 := HBK.out.free; have z4 := HBK.out.lt; have z3 := HBK0.out.lt
      simp at c3 c4 c5 c6 c7
      have hsz := HSZ.out
      by_cases hz : p < y
      · have dz : decide (p < y) = true := decide_eq_true hz
        have HP2 := hidE (show pre ++ [(p, y, v)] = strL F x y by rw [← HP.out]; unfold strZ; rw [if_pos hz])
        clear HP hz
        have hpre : pre ++ [(p, y, v)] <+: strL F x y := by rw [HP2.out]; exact List.prefix_refl _
        rcases he with he | ⟨hlt, he, he2⟩
        · have he1 : decide (k < F.length) = false := decide_eq_false he
          have he2 : decide ((k : Int) < (F.length : Int)) = false := decide_eq_false (by omega)
          have bb : Below W.heap.size wr (wr.setCell ⟨W.heap.size + 1, 1, none⟩ (.int .i64 y)) := (Below.refl _ wr).setCell (p := ⟨W.heap.size + 1, 1, none⟩) (by simp) _
          obtain ⟨fn, tmps, assign, body, hy, hR⟩ := HY.out pre (p, y, v) g _ (HJ.out _ _ _ _ HJ1.out bb (fun b k e => by obtain ⟨q1, q2⟩ := HK.out b k e; exact keptS (by omega) _)) (by simp [World.setCell]; omega) hpre
          dsimp only [encS] at hy
          go_upto_region 14 with fail
          refine (wpIn_wide (n := 0)).1 ?_
          gi_wp2
          refine ⟨rfl, hR.mono ?_⟩
          clear hy hR
          rintro e W' (⟨rfl, g', hJ', hO, hO2, hO3⟩ | ⟨rfl, hJx'⟩)
          all_goals
            gi_wp2
            try go_wp2
            go_end0
          · exact ⟨⟨_, rfl⟩, .inl ⟨g', by rw [← HP2.out]; exact hJ'⟩⟩
          · exact ⟨⟨_, rfl⟩, .inr ⟨pre ++ [(p, y, v)], hpre, hJx'⟩⟩
        · obtain ⟨b, off, rfl, hb, hc⟩ := (HA.out.past HB1.out) (by omega)
          obtain ⟨c0, c1, c2⟩ := hc.get hlt
          clear hc
          generalize ats F k = u at *
          generalize vls F k = v' at *
          have bb : Below W.heap.size wr ((wr.setCell ⟨W.heap.size + 1, 1, none⟩ (.int .i64 y)).alloc (Obj.cells #[.int .i64 u, .int .i64 v'.1, .int .i64 v'.2] 48)) :=
            ((Below.refl _ wr).setCell (p := ⟨W.heap.size + 1, 1, none⟩) (by simp) _).alloc (by simp [World.setCell]; omega) _
          obtain ⟨fn, tmps, assign, body, hy, hR⟩ := HY.out pre (p, y, v) g _ (HJ.out _ _ _ _ HJ1.out bb (fun b k e => by obtain ⟨q1, q2⟩ := HK.out b k e; exact (keptA (by simp [World.setCell]; omega) _).trans (keptS (by omega) _))) (by simp [World.setCell]; omega) hpre
          dsimp only [encS] at hy
          go_upto_region 14 with fail
          refine (wpIn_wide (n := 0)).1 ?_
          gi_wp2
          refine ⟨rfl, hR.mono ?_⟩
          clear hy hR
          rintro e W' (⟨rfl, g', hJ', hO, hO2, hO3⟩ | ⟨rfl, hJx'⟩)
          all_goals
            gi_wp2
            try go_wp2
            go_end0
          · exact ⟨⟨_, rfl⟩, .inl ⟨g', by rw [← HP2.out]; exact hJ'⟩⟩
          · exact ⟨⟨_, rfl⟩, .inr ⟨pre ++ [(p, y, v)], hpre, hJx'⟩⟩
      · have dz : decide (p < y) = false := decide_eq_false hz
        have HP2 := hidE (show pre = strL F x y by rw [← HP.out]; unfold strZ; rw [if_neg hz, List.append_nil])
        clear HP hz
        rcases he with he | ⟨hlt, he, he2⟩
        · have he1 : decide (k < F.length) = false := decide_eq_false he
          have he2 : decide ((k : Int) < (F.length : Int)) = false := decide_eq_false (by omega)
          have bb : Below W.heap.size wr (wr.setCell ⟨W.heap.size + 1, 1, none⟩ (.int .i64 y)) := (Below.refl _ wr).setCell (p := ⟨W.heap.size + 1, 1, none⟩) (by simp) _
          have HJ2 := hidE (HJ.out _ _ _ _ HJ1.out bb (fun b k e => by obtain ⟨q1, q2⟩ := HK.out b k e; exact keptS (by omega) _))
          clear bb
          go_wp2
          go_end0
          exact ⟨⟨_, rfl⟩, .inl ⟨g, by rw [← HP2.out]; exact HJ2.out⟩⟩
        · obtain ⟨b, off, rfl, hb, hc⟩ := (HA.out.past HB1.out) (by omega)
          obtain ⟨c0, c1, c2⟩ := hc.get hlt
          clear hc
          generalize ats F k = u at *
          generalize vls F k = v' at *
          have bb : Below W.heap.size wr ((wr.setCell ⟨W.heap.size + 1, 1, none⟩ (.int .i64 y)).alloc (Obj.cells #[.int .i64 u, .int .i64 v'.1, .int .i64 v'.2] 48)) :=
            ((Below.refl _ wr).setCell (p := ⟨W.heap.size + 1, 1, none⟩) (by simp) _).alloc (by simp [World.setCell]; omega) _
          have HJ2 := hidE (HJ.out _ _ _ _ HJ1.out bb (fun b k e => by obtain ⟨q1, q2⟩ := HK.out b k e; exact (keptA (by simp [World.setCell]; omega) _).trans (keptS (by omega) _)))
          clear bb
          go_wp2
          go_end0
          exact ⟨⟨_, rfl⟩, .inl ⟨g, by rw [← HP2.out]; exact HJ2.out⟩⟩
    · have HP := hidE hp
      obtain ⟨b, off, rfl, hb, hc⟩ := (HA.out.past HB1.out) (by omega)
      obtain ⟨c0, c1, c2⟩ := hc.get hlt
      have c3 := HBK0.out.cell 2; have c4 := HBK.out.cell 0; have c5 := HBK.out.cell 1; have c6 := HBK.out.cell 2; have c7 := HBK.out.cell 3; have f4 := HBK.out.free; have z4 := HBK.out.lt; have z3 := HBK0.out.lt
      simp at c3 c4 c5 c6 c7
      clear hc hp
      generalize ats F k = u at *
      generalize vls F k = v' at *
      go_wp2
      go_roundg (F.length - (k + 1))
      case measure => have := HG.out; omega
      case rel =>
        have hsz := HSZ.out
        have bb : Below W.heap.size wr (((wr.setCell ⟨W.heap.size + 1, 2, none⟩ (.int .i64 v'.1)).setCell ⟨W.heap.size + 1, 3, none⟩ (.int .i64 v'.2)).alloc (Obj.cells #[.int .i64 u, .int .i64 v'.1, .int .i64 v'.2] 48)) :=
          (((Below.refl _ wr).setCell (p := ⟨W.heap.size + 1, 2, none⟩) (by simp) _).setCell (p := ⟨W.heap.size + 1, 3, none⟩) (by simp) _).alloc (by simp [World.setCell]; omega) _
        exact ⟨⟨k + 1, p, q, v', pre, g, HGB.out, by omega, Nat.le_refl _, by go_num, HP.out, HJ.out _ _ _ _ HJ1.out bb (fun b k e => by obtain ⟨q1, q2⟩ := HK.out b k e; exact (keptA (by simp [World.setCell]; omega) _).trans ((keptS (by omega) _).trans (keptS (by omega) _))), HB1.out.trans (bb.mono HBW.out.size), by simp [World.setCell]; omega, ((HBK.out.set 2 (.int .i64 v'.1)).set 3 (.int .i64 v'.2)).alloc _⟩, ((HBK0.out.other (by omega) _).other (by omega) _).alloc _⟩
    · have HP := hidE hp
      obtain ⟨b, off, rfl, hb, hc⟩ := (HA.out.past HB1.out) (by omega)
      obtain ⟨c0, c1, c2⟩ := hc.get hlt
      have c3 := HBK0.out.cell 2; have c4 := HBK.out.cell 0; have c5 := HBK.out.cell 1; have c6 := HBK.out.cell 2; have c7 := HBK.out.cell 3; have f4 := HBK.out.free; have z4 := HBK.out.lt; have z3 := HBK0.out.lt
      simp at c3 c4 c5 c6 c7
      clear hc hp
      generalize ats F k = u at *
      generalize vls F k = v' at *
      have hpre : pre ++ [(p, u, v)] <+: strL F x y := ⟨strG y (F.drop (k + 1)) u v', by rw [← HP.out]; simp⟩
      have hsz := HSZ.out
      have q1 := (HBK.out.set 1 (.int .i64 u)).alloc (Obj.cells #[.int .i64 u, .int .i64 v'.1, .int .i64 v'.2] 48)
      have q0 := (HBK0.out.other (b := W.heap.size + 1) (i := 1) (by omega) (.int .i64 u)).alloc (Obj.cells #[.int .i64 u, .int .i64 v'.1, .int .i64 v'.2] 48)
      have qr : Blk ((wr.setCell ⟨W.heap.size + 1, 1, none⟩ (.int .i64 u)).alloc (Obj.cells #[.int .i64 u, .int .i64 v'.1, .int .i64 v'.2] 48)) wr.heap.size #[.int .i64 u, .int .i64 v'.1, .int .i64 v'.2] 48 := Blk.made_at _ _ _ _ (by simp [World.setCell])
      have bb : Below W.heap.size wr ((wr.setCell ⟨W.heap.size + 1, 1, none⟩ (.int .i64 u)).alloc (Obj.cells #[.int .i64 u, .int .i64 v'.1, .int .i64 v'.2] 48)) :=
        ((Below.refl _ wr).setCell (p := ⟨W.heap.size + 1, 1, none⟩) (by simp) _).alloc (by simp [World.setCell]; omega) _
      obtain ⟨fn, tmps, assign, body, hy, hR⟩ := HY.out pre (p, u, v) g _ (HJ.out _ _ _ _ HJ1.out bb (fun b k e => by obtain ⟨q1, q2⟩ := HK.out b k e; exact (keptA (by simp [World.setCell]; omega) _).trans (keptS (by omega) _))) (by simp [World.setCell]; omega) hpre
      dsimp only [encS] at hy
      have HQ1 := hidE q1; have HQ0 := hidE q0; have HQR := hidE qr; have HBB := hidE bb; have HPR := hidE hpre
      clear q1 q0 qr bb hpre
      go_upto_region 8 with fail
      refine (wpIn_wide (n := 0)).1 ?_
      gi_wp2
      refine ⟨rfl, hR.mono ?_⟩
      clear hy hR
      rintro e W' (⟨rfl, g', hJ', hO, hO2, hO3⟩ | ⟨rfl, hJx'⟩)
      · have hz1 := hO.size
        have hzz : W.heap.size ≤ wr.heap.size := by omega
        simp [World.setCell] at hz1
        have s1 := (hO2 _ (by omega) HQ1.out.lt (fun b e => by have := HK.out b _ e; omega)).trans HQ1.out
        have s0 := (hO2 _ (by omega) HQ0.out.lt (fun b e => by have := HK.out b _ e; omega)).trans HQ0.out
        have sr := (hO2 _ (by omega) HQR.out.lt (fun b e => by have := HK.out b _ e; omega)).trans HQR.out
        have HGB2 := hidE (fun b k (e : g' = some (b, k)) => show W.heap.size + 2 ≤ b from by
          rcases hO3 b k e with h | ⟨j, h⟩
          · simp [World.setCell] at h; omega
          · exact HGB.out b j h)
        have HJ2 := hidE hJ'; have HO := hidE hO
        clear hO hO2 hO3 hJ'
        change Blk W' _ _ _ at s1
        change Blk W' _ _ _ at s0
        change Blk W' _ _ _ at sr
        have d0 := sr.cell 0; have d1 := sr.cell 1; have d2 := sr.cell 2; have dz := sr.lt
        have g0 := s1.cell 0; have g1 := s1.cell 1; have g2 := s1.cell 2; have g3 := s1.cell 3; have gf := s1.free; have gz := s1.lt
        simp at d0 d1 d2 g0 g1 g2 g3
        clear hz1 c0 c1 c2 c3 c4 c5 c6 c7 f4 z4 z3 hb
        gi_wp2
        go_wp2
        go_roundg (F.length - (k + 1))
        case measure => have := HG.out; omega
        case rel =>
          have bc : Below W.heap.size W' (((W'.setCell ⟨W.heap.size + 1, 0, none⟩ (.int .i64 u)).setCell ⟨W.heap.size + 1, 2, none⟩ (.int .i64 v'.1)).setCell ⟨W.heap.size + 1, 3, none⟩ (.int .i64 v'.2)) :=
            (((Below.refl _ W').setCell (p := ⟨W.heap.size + 1, 0, none⟩) (by simp) _).setCell (p := ⟨W.heap.size + 1, 2, none⟩) (by simp) _).setCell (p := ⟨W.heap.size + 1, 3, none⟩) (by simp) _
          have hz1 := HO.out.size
          simp [World.setCell] at hz1
          refine ⟨⟨k + 1, u, u, v', pre ++ [(p, u, v)], g', HGB2.out, by omega, Nat.le_refl _, by go_num, ?_, HJ.out _ _ _ _ HJ2.out bc (fun b k e => by have q1 := HGB2.out b k e; have q2 := (HJG.out _ _ _ HJ2.out b k e).1; exact (keptS (by omega) _).trans ((keptS (by omega) _).trans (keptS (by omega) _))), ((HB1.out.trans (HBB.out.mono HBW.out.size)).trans HO.out).trans (bc.mono HBW.out.size), by simp [World.setCell]; omega, ?_⟩, ?_⟩
          · rw [← HP.out]; simp
          · simpa using ((s1.set 0 (.int .i64 u)).set 2 (.int .i64 v'.1)).set 3 (.int .i64 v'.2)
          · exact ((s0.other (by omega) _).other (by omega) _).other (by omega) _
      · gi_wp2
        go_wp2
        refine bodyPost_ret (results_none rfl _ _ _) rfl ?_
        exact ⟨⟨_, rfl⟩, .inr ⟨pre ++ [(p, u, v)], HPR.out, hJx'⟩⟩
theorem str_c (F : List Sg) (x y : Int) (a : Option Addr) (cap : Nat) (w0 w : World) (hl : F.length ≤ 1000000000) (hA : ArgS w0 a F) (hb : Below w0.heap.size w0 w) :
    SeqT Try.prog 75 #[WN a F.length cap x y] #[] encS w0.heap.size (strL F x y) w := (strO_c F x y a cap w0 w hl hA hb).toT
end Go.Proofs.Ytmjfogmpbidooaa

namespace Go.Proofs.Ytmjfogmpbidooaa
open Go.ChangeShapes Go.WideShapes Go.ChangeAt Go.RowKit Go.Shelf
attribute [local irreducible] Go.Calls
attribute [local go_sem] Oper.semAt_some

theorem spanPut {w : World} {k : Nat} {cs : Array Value} {t : TypeId} (h : Blk w k cs t) {b : Nat} (hb : k ≠ b) (o : Obj) : Blk (w.putObj b o) k cs t := (World.putObj_heap_other hb).trans h
theorem outBlk {n₀ n₁ k : Nat} {W W' : World} {cs : Array Value} {t : TypeId} (h : Blk W k cs t) (ho : Outside n₀ n₁ W W') (hk : n₁ ≤ k) : Blk W' k cs t := (ho.beyond k hk h.lt).trans h
/-- Between two rounds. -/
def EvI (a : Option Addr) (n cap : Nat) (x y : Int) (fv : Value) (J : List St → World → Prop) (w0 w : World) (pre : List St) (W : World) : Prop :=
  J pre W ∧ Below w0.heap.size w0 W ∧ Blk W (w.heap.size + 1) #[fv] 117 ∧ Blk W w.heap.size #[.slice a n cap, .int .i64 x, .int .i64 y] 106
theorem wndB_not {x y : Int} (h : wndB x y = false) : x < -1125899906842624 ∨ (-1125899906842624 ≤ x ∧ 1125899906842624 < y) ∨ (-1125899906842624 ≤ x ∧ y ≤ 1125899906842624 ∧ y ≤ x) ∨ (-1125899906842624 ≤ x ∧ y ≤ 1125899906842624 ∧ x < y ∧ 8000 < y - x) := by
  unfold wndB at h
  have := of_decide_eq_false h
  omega
/-- The stretches that are handed on. -/
def evS (F : List Sg) (x y : Int) : List St := if badW F x y = 0 then strL F x y else []

set_option maxRecDepth 100000 in
set_option maxHeartbeats 2000000 in
theorem ev_c (F : List Sg) (x y : Int) (a : Option Addr) (cap gk : Nat) (lk : Array Value) (w0 w : World) (J : List St → World → Prop) (hl : F.length ≤ 1000000000) (hA : ArgS w0 a F) (hb : Below w0.heap.size w0 w)
    (eg : ∀ args w, (callFunc gk args).run Try.prog w = .ok (.enter gk args) w)
    (hJ : ∀ s A B, J s A → Below w.heap.size A B → J s B)
    (hE : badW F x y = 0 → ∀ pre s W, w.heap.size ≤ W.heap.size → J pre W → pre ++ [s] <+: strL F x y → Calls Try.prog gk (encS s ++ lk) W fun e W' => (∃ v, e = .returned v) ∧ J (pre ++ [s]) W' ∧ Outside w0.heap.size w.heap.size W W') (h0 : J [] w) :
    Calls Try.prog 68 #[WN a F.length cap x y, .func (.func gk) #[] lk] w fun e w' => e = .returned (.int .i64 (badW F x y)) ∧ J (evS F x y) w' ∧ Below w0.heap.size w0 w' := by
  have HA := hidE hA; have HJ := hidE hJ; have HE := hidE hE; have H0 := hidE h0; have HBW := hidE hb
  have HV := hidE (fun w hA => pmay_c F a cap w (by omega) hA)
  have HZ := hidE hb.size
  clear hJ hE h0 hb
  cases h1 : mayB F
  · have HS := hidE (show evS F x y = [] by unfold evS; rw [badW_form h1, if_neg (by decide)])
    rw [badW_form h1]
    rw [h1] at HV
    clear h1 hA
    go_enter Try.func68, Try.ntmps68
    go_wp2_with fail
    ((with_reducible refine (HV.out _ (HA.out.past (HBW.out.trans (Below.mono (by (repeat (first | exact Below.refl _ _ | assumption | refine balloc ?_ _ | refine below_drewN ?_ _ | refine bstep (by assumption) ?_ | refine bstep (Past.prop _) ?_ | refine Below.setCell ?_ (by first | exact Nat.le_refl _ | (simp; done) | (simp; omega)) _))) HBW.out.size)))).mono ?_); rintro e w1 ⟨rfl, hb1⟩)
    have HB1 := hidE (show Below w.heap.size w w1 by (repeat (first | exact Below.refl _ _ | assumption | refine balloc ?_ _ | refine below_drewN ?_ _ | refine bstep (by assumption) ?_ | refine bstep (Past.prop _) ?_ | refine Below.setCell ?_ (by first | exact Nat.le_refl _ | (simp; done) | (simp; omega)) _)))
    clear hb1
    go_wp2
    go_ret
    exact ⟨rfl, by rw [HS.out]; exact HJ.out _ _ _ H0.out HB1.out, HBW.out.trans (HB1.out.mono HZ.out)⟩
  rw [h1] at HV
  cases h2 : wndB x y
  · have HS := hidE (show evS F x y = [] by unfold evS; rw [badW_arg h1 h2, if_neg (by decide)])
    rw [badW_arg h1 h2]
    have hq := wndB_not h2
    clear h1 h2 hA
    rcases hq with h | ⟨h, h'⟩ | ⟨h, h', h2⟩ | ⟨h, h', h2, h3⟩
    · have e1 : decide (x < -1125899906842624) = true := decide_eq_true h
      go_enter Try.func68, Try.ntmps68
      go_wp2_with fail
      ((with_reducible refine (HV.out _ (HA.out.past (HBW.out.trans (Below.mono (by (repeat (first | exact Below.refl _ _ | assumption | refine balloc ?_ _ | refine below_drewN ?_ _ | refine bstep (by assumption) ?_ | refine bstep (Past.prop _) ?_ | refine Below.setCell ?_ (by first | exact Nat.le_refl _ | (simp; done) | (simp; omega)) _))) HBW.out.size)))).mono ?_); rintro e w1 ⟨rfl, hb1⟩)
      have HB1 := hidE (show Below w.heap.size w w1 by (repeat (first | exact Below.refl _ _ | assumption | refine balloc ?_ _ | refine below_drewN ?_ _ | refine bstep (by assumption) ?_ | refine bstep (Past.prop _) ?_ | refine Below.setCell ?_ (by first | exact Nat.le_refl _ | (simp; done) | (simp; omega)) _)))
      have B1 := (Blk.alloc (Blk.made w #[.slice a F.length cap, .int .i64 x, .int .i64 y] 106) (Obj.cells #[Value.func (.func gk) #[] lk] 117)).past hb1
      have c1 := B1.cell 1; have c2 := B1.cell 2; have z1 := B1.lt
      simp at c1 c2
      clear hb1
      go_wp2
      go_ret
      exact ⟨rfl, by rw [HS.out]; exact HJ.out _ _ _ H0.out HB1.out, HBW.out.trans (HB1.out.mono HZ.out)⟩
    · have e0 : decide (x < -1125899906842624) = false := decide_eq_false (by omega)
      have e1 : decide (1125899906842624 < y) = true := decide_eq_true (by omega)
      go_enter Try.func68, Try.ntmps68
      go_wp2_with fail
      ((with_reducible refine (HV.out _ (HA.out.past (HBW.out.trans (Below.mono (by (repeat (first | exact Below.refl _ _ | assumption | refine balloc ?_ _ | refine below_drewN ?_ _ | refine bstep (by assumption) ?_ | refine bstep (Past.prop _) ?_ | refine Below.setCell ?_ (by first | exact Nat.le_refl _ | (simp; done) | (simp; omega)) _))) HBW.out.size)))).mono ?_); rintro e w1 ⟨rfl, hb1⟩)
      have HB1 := hidE (show Below w.heap.size w w1 by (repeat (first | exact Below.refl _ _ | assumption | refine balloc ?_ _ | refine below_drewN ?_ _ | refine bstep (by assumption) ?_ | refine bstep (Past.prop _) ?_ | refine Below.setCell ?_ (by first | exact Nat.le_refl _ | (simp; done) | (simp; omega)) _)))
      have B1 := (Blk.alloc (Blk.made w #[.slice a F.length cap, .int .i64 x, .int .i64 y] 106) (Obj.cells #[Value.func (.func gk) #[] lk] 117)).past hb1
      have c1 := B1.cell 1; have c2 := B1.cell 2; have z1 := B1.lt
      simp at c1 c2
      clear hb1
      go_wp2
      go_ret
      exact ⟨rfl, by rw [HS.out]; exact HJ.out _ _ _ H0.out HB1.out, HBW.out.trans (HB1.out.mono HZ.out)⟩
    · have e0 : decide (x < -1125899906842624) = false := decide_eq_false (by omega)
      have e1 : decide (1125899906842624 < y) = false := decide_eq_false (by omega)
      have e2 : decide (y ≤ x) = true := decide_eq_true (by omega)
      go_enter Try.func68, Try.ntmps68
      go_wp2_with fail
      ((with_reducible refine (HV.out _ (HA.out.past (HBW.out.trans (Below.mono (by (repeat (first | exact Below.refl _ _ | assumption | refine balloc ?_ _ | refine below_drewN ?_ _ | refine bstep (by assumption) ?_ | refine bstep (Past.prop _) ?_ | refine Below.setCell ?_ (by first | exact Nat.le_refl _ | (simp; done) | (simp; omega)) _))) HBW.out.size)))).mono ?_); rintro e w1 ⟨rfl, hb1⟩)
      have HB1 := hidE (show Below w.heap.size w w1 by (repeat (first | exact Below.refl _ _ | assumption | refine balloc ?_ _ | refine below_drewN ?_ _ | refine bstep (by assumption) ?_ | refine bstep (Past.prop _) ?_ | refine Below.setCell ?_ (by first | exact Nat.le_refl _ | (simp; done) | (simp; omega)) _)))
      have B1 := (Blk.alloc (Blk.made w #[.slice a F.length cap, .int .i64 x, .int .i64 y] 106) (Obj.cells #[Value.func (.func gk) #[] lk] 117)).past hb1
      have c1 := B1.cell 1; have c2 := B1.cell 2; have z1 := B1.lt
      simp at c1 c2
      clear hb1
      go_wp2
      go_ret
      exact ⟨rfl, by rw [HS.out]; exact HJ.out _ _ _ H0.out HB1.out, HBW.out.trans (HB1.out.mono HZ.out)⟩
    · have e0 : decide (x < -1125899906842624) = false := decide_eq_false (by omega)
      have e1 : decide (1125899906842624 < y) = false := decide_eq_false (by omega)
      have e2 : decide (y ≤ x) = false := decide_eq_false (by omega)
      have e3 : decide (8000 < y - x) = true := decide_eq_true (by omega)
      go_enter Try.func68, Try.ntmps68
      go_wp2_with fail
      ((with_reducible refine (HV.out _ (HA.out.past (HBW.out.trans (Below.mono (by (repeat (first | exact Below.refl _ _ | assumption | refine balloc ?_ _ | refine below_drewN ?_ _ | refine bstep (by assumption) ?_ | refine bstep (Past.prop _) ?_ | refine Below.setCell ?_ (by first | exact Nat.le_refl _ | (simp; done) | (simp; omega)) _))) HBW.out.size)))).mono ?_); rintro e w1 ⟨rfl, hb1⟩)
      have HB1 := hidE (show Below w.heap.size w w1 by (repeat (first | exact Below.refl _ _ | assumption | refine balloc ?_ _ | refine below_drewN ?_ _ | refine bstep (by assumption) ?_ | refine bstep (Past.prop _) ?_ | refine Below.setCell ?_ (by first | exact Nat.le_refl _ | (simp; done) | (simp; omega)) _)))
      have B1 := (Blk.alloc (Blk.made w #[.slice a F.length cap, .int .i64 x, .int .i64 y] 106) (Obj.cells #[Value.func (.func gk) #[] lk] 117)).past hb1
      have c1 := B1.cell 1; have c2 := B1.cell 2; have z1 := B1.lt
      simp at c1 c2
      clear hb1
      go_wp2
      go_ret
      exact ⟨rfl, by rw [HS.out]; exact HJ.out _ _ _ H0.out HB1.out, HBW.out.trans (HB1.out.mono HZ.out)⟩
  · have HS := hidE (show evS F x y = strL F x y by unfold evS; rw [badW_ok h1 h2, if_pos rfl])
    rw [badW_ok h1 h2]
    have HE := hidE (HE.out (badW_ok h1 h2))
    rw [wndB_iff] at h2
    have e0 : decide (x < -1125899906842624) = false := decide_eq_false (by omega)
    have e1 : decide (1125899906842624 < y) = false := decide_eq_false (by omega)
    have e2 : decide (y ≤ x) = false := decide_eq_false (by omega)
    have e3 : decide (8000 < y - x) = false := decide_eq_false (by omega)
    have HSEQ := hidE (fun w' hb => str_c F x y a cap w0 w' hl hA hb)
    clear h1 hA
    refine (callsIn_wide (n := 0)).1 (callsIn_of_wp_marks Try.func68 rfl trivial ((wpIn_wide (n := 0)).2 ?_))
    simp only [Try.ntmps68, List.size_toArray, List.length_cons, List.length_nil, Nat.reduceAdd, Nat.reduceSub, Array.replicate_succ, Array.replicate_zero, List.push_toArray, List.append_toArray, List.nil_append, List.cons_append]
    go_wp2_with fail
    ((with_reducible refine (HV.out _ (HA.out.past (HBW.out.trans (Below.mono (by (repeat (first | exact Below.refl _ _ | assumption | refine balloc ?_ _ | refine below_drewN ?_ _ | refine bstep (by assumption) ?_ | refine bstep (Past.prop _) ?_ | refine Below.setCell ?_ (by first | exact Nat.le_refl _ | (simp; done) | (simp; omega)) _))) HBW.out.size)))).mono ?_); rintro e w1 ⟨rfl, hb1⟩)
    have HB1 := hidE (show Below w.heap.size w w1 by (repeat (first | exact Below.refl _ _ | assumption | refine balloc ?_ _ | refine below_drewN ?_ _ | refine bstep (by assumption) ?_ | refine bstep (Past.prop _) ?_ | refine Below.setCell ?_ (by first | exact Nat.le_refl _ | (simp; done) | (simp; omega)) _)))
    have B1 := (Blk.alloc (Blk.made w #[.slice a F.length cap, .int .i64 x, .int .i64 y] 106) (Obj.cells #[Value.func (.func gk) #[] lk] 117)).past hb1
    have B2 := (Blk.made_at (w.alloc (Obj.cells #[.slice a F.length cap, .int .i64 x, .int .i64 y] 106)) #[Value.func (.func gk) #[] lk] 117 (w.heap.size + 1) (by simp)).past hb1
    have c0 := B1.cell 0; have c1 := B1.cell 1; have c2 := B1.cell 2; have z1 := B1.lt; have z2 := B2.lt
    simp at c0 c1 c2
    have HK1 := hidE B1; have HK2 := hidE B2
    clear hb1 B1 B2
    go_wp2
    have hn0 : w0.heap.size ≤ w1.heap.size := Nat.le_trans HZ.out HB1.out.size
    have hI0 : EvI a F.length cap x y (.func (.func gk) #[] lk) J w0 w [] w1 := ⟨HJ.out _ _ _ H0.out HB1.out, HBW.out.trans (HB1.out.mono HZ.out), HK2.out, HK1.out⟩
    clear e0 e1 e2 e3 c0 c1 c2 h2 HV
    refine wp_rangeFunc_T (n₀ := w0.heap.size) (S := strL F x y) rfl (enters_of Try.func75 (by kernel_rfl) rfl) hn0 (HSEQ.out _ hI0.2.1) (fun _ => rfl)
      (EvI a F.length cap x y (.func (.func gk) #[] lk) J w0 w) (fun _ _ _ => False)
      (fun s A B h hb => ⟨HJ.out _ _ _ h.1 (hb.mono HB1.out.size), h.2.1.trans (hb.mono hn0), h.2.2.1.below hb z2, h.2.2.2.below hb z1⟩) (fun c s A B h hb => h.elim) hI0
      (fun s a1 W => ∃ (Bx : Nat) (u0 u1 u2 u4 u6 u7 u8 u9 u10 u11 u12 u13 u14 u15 u16 u17 u18 u19 u20 u21 u22 u23 u24 u25 u26 u27 u28 u29 u30 u31 u32 u33 u34 u35 u36 u37 u38 : Value), w1.heap.size ≤ Bx ∧ Blk W Bx #[.int .i64 s.1, .int .i64 s.2.1, .int .i64 s.2.2.1, .int .i64 s.2.2.2] 116 ∧ a1 = { tmps := #[u0, u1, u2, .pointer (some ⟨w.heap.size + 1, 0, none⟩), u4, .pointer (some ⟨Bx, 0, none⟩), u6, u7, u8, u9, u10, u11, u12, u13, u14, u15, u16, u17, u18, u19, u20, u21, u22, u23, u24, u25, u26, u27, u28, u29, u30, u31, u32, u33, u34, u35, u36, u37, u38], defers := [] })
      ?hax ?assign ?body ?done ?stop
    case hax =>
      rintro p a1 A l r o ⟨Bx, u0, u1, u2, u4, u6, u7, u8, u9, u10, u11, u12, u13, u14, u15, u16, u17, u18, u19, u20, u21, u22, u23, u24, u25, u26, u27, u28, u29, u30, u31, u32, u33, u34, u35, u36, u37, u38, h1, h2, h3⟩ hlr
      exact ⟨Bx, _, _, _, _, _, _, _, _, _, _, _, _, _, _, _, _, _, _, _, _, _, _, _, _, _, _, _, _, _, _, _, _, _, _, _, _, _, h1, (World.putObj_heap_other (fun e => by subst e; rw [show A.heap[Bx]? = _ from h2] at hlr; cases hlr)).trans h2, h3⟩
    case assign =>
      intro l pre s W K hsz hi hK
      dsimp only [encS]
      gi_wp2
      refine hK _ _ (Outside.of_below ((Below.refl _ _).alloc (Nat.le_refl _) _) (by omega)) ⟨HJ.out _ _ _ hi.1 ((Below.refl _ _).alloc (by omega) _), hi.2.1.alloc (by omega) _, hi.2.2.1.alloc _, hi.2.2.2.alloc _⟩ ⟨W.heap.size, _, _, _, _, _, _, _, _, _, _, _, _, _, _, _, _, _, _, _, _, _, _, _, _, _, _, _, _, _, _, _, _, _, _, _, _, _, by omega, Blk.made _ _ _, rfl⟩
    case body =>
      rintro l pre s a1 W hsz ⟨i1, i2, i3, i4⟩ ⟨Bx, u0, u1, u2, u4, u6, u7, u8, u9, u10, u11, u12, u13, u14, u15, u16, u17, u18, u19, u20, u21, u22, u23, u24, u25, u26, u27, u28, u29, u30, u31, u32, u33, u34, u35, u36, u37, u38, hBx, bX, rfl⟩ hpre
      have HC := hidE (HE.out pre s W (by omega) i1 hpre)
      have y0 := bX.cell 0; have y1 := bX.cell 1; have y2 := bX.cell 2; have y3 := bX.cell 3; have yz := bX.lt
      have t0 := i3.cell 0; have t1 := i3.lt
      simp at y0 y1 y2 y3 t0
      clear hI0 HSEQ
      gi_wp2_with fail
      refine ⟨trivial, rfl, (CallsIn.inRound l (callsIn_wide.2 HC.out)).mono ?_⟩
      rintro e w3 ⟨⟨v, rfl⟩, hJ3, hO⟩
      gi_wp2
      have hO' : Outside w0.heap.size w1.heap.size W w3 := hO.weak (by omega)
      exact ⟨hO', hJ3, i2.trans hO.below, outBlk i3 hO (by omega), outBlk i4 hO (by omega)⟩
    case done =>
      rintro D W hD ⟨i1, i2, i3, i4⟩ hK
      clear hI0 HSEQ
      go_wp2
      refine ⟨by simp, .inl ⟨_, _, rfl, run_takeDeferred hK, ?_⟩⟩
      refine ⟨.int .i64 0, by simp [results, Try.results68, go_sem], rfl, by rw [HS.out]; exact HJ.out _ _ _ i1 (below_putObj _ _ _ (by omega)), i2.trans (below_putObj _ _ _ (by omega))⟩
    case stop =>
      rintro D c pre W hD hpre h hK
      exact h.elim
end Go.Proofs.Ytmjfogmpbidooaa

namespace Go.Proofs.Ytmjfogmpbidooaa
open Go.ChangeShapes Go.WideShapes Go.ChangeAt Go.RowKit

theorem cl_mn (x y : Int) (w : World) : Calls Try.prog 70 #[.int .i64 x, .int .i64 y] w fun e w' => e = .returned (.int .i64 (mn x y)) ∧ w' = w := by
  go_enter Try.func70, Try.ntmps70
  go_wp2
  all_goals
    go_ret
    exact ⟨ret_int (by unfold mn; split <;> omega), rfl⟩
theorem cl_mx (x y : Int) (w : World) : Calls Try.prog 48 #[.int .i64 x, .int .i64 y] w fun e w' => e = .returned (.int .i64 (mx x y)) ∧ w' = w := by
  go_enter Try.func48, Try.ntmps48
  go_wp2
  all_goals
    go_ret
    exact ⟨ret_int (by unfold mx; split <;> omega), rfl⟩
theorem both_mn (a b c d : Int) (w : World) :
    Calls Try.prog 47 #[V a b, V c d, .func (.func 70) #[] #[]] w fun e w' => e = .returned (.tuple #[.int .i64 (mn a c), .int .i64 (mn b d)]) ∧ Below w.heap.size w w' := by
  go_enter Try.func47, Try.ntmps47
  go_wp2
  go_quiet ((go_at_call 70; exact Calls.quiet_of_same (cl_mn _ _ _)))
  go_wp2
  go_ret2
  exact ⟨rfl, below_drewN (((Below.refl _ _).alloc (Nat.le_refl _) _).alloc (by simp) _) _⟩
theorem both_mx (a b c d : Int) (w : World) :
    Calls Try.prog 47 #[V a b, V c d, .func (.func 48) #[] #[]] w fun e w' => e = .returned (.tuple #[.int .i64 (mx a c), .int .i64 (mx b d)]) ∧ Below w.heap.size w w' := by
  go_enter Try.func47, Try.ntmps47
  go_wp2
  go_quiet ((go_at_call 48; exact Calls.quiet_of_same (cl_mx _ _ _)))
  go_wp2
  go_ret2
  exact ⟨rfl, below_drewN (((Below.refl _ _).alloc (Nat.le_refl _) _).alloc (by simp) _) _⟩
theorem mn_c (a b c d : Int) (w : World) : Calls Try.prog 62 #[V a b, V c d] w fun e w' => e = .returned (V (mn a c) (mn b d)) ∧ Below w.heap.size w w' := by
  go_enter Try.func62, Try.ntmps62
  go_wp2_with (first | (go_at_call 47; ((with_reducible refine (both_mn _ _ _ _ _).mono ?_); rintro e w' ⟨rfl, hb⟩; obtain ⟨hc, hf⟩ := bcell hb; have hz0 := bsz hb (w.heap.size) (by first | assumption | (simp; done) | (simp; omega)); have hz1 := bsz hb (w.heap.size + 1) (by first | assumption | (simp; done) | (simp; omega)); have hz2 := bsz hb (w.heap.size + 1 + 1) (by first | assumption | (simp; done) | (simp; omega)))) | (go_at_call 46; ((with_reducible refine (of_ _ _ _).mono ?_); rintro e w' ⟨rfl, hb⟩; obtain ⟨hc, hf⟩ := bcell hb; have hz0 := bsz hb (w.heap.size) (by first | assumption | (simp; done) | (simp; omega)); have hz1 := bsz hb (w.heap.size + 1) (by first | assumption | (simp; done) | (simp; omega)); have hz2 := bsz hb (w.heap.size + 1 + 1) (by first | assumption | (simp; done) | (simp; omega)))))
  refine bodyPost_ret (v := V (mn a c) (mn b d)) (by simp [results, Try.results62, go_sem, *]) rfl ⟨rfl, ?_⟩
  (repeat (first | exact Below.refl _ _ | assumption | refine balloc ?_ _ | refine below_drewN ?_ _ | refine bstep (by assumption) ?_ | refine bstep (Past.prop _) ?_ | refine Below.setCell ?_ (by first | exact Nat.le_refl _ | (simp; done) | (simp; omega)) _))
theorem mx_c (a b c d : Int) (w : World) : Calls Try.prog 27 #[V a b, V c d] w fun e w' => e = .returned (V (mx a c) (mx b d)) ∧ Below w.heap.size w w' := by
  go_enter Try.func27, Try.ntmps27
  go_wp2_with (first | (go_at_call 47; ((with_reducible refine (both_mx _ _ _ _ _).mono ?_); rintro e w' ⟨rfl, hb⟩; obtain ⟨hc, hf⟩ := bcell hb; have hz0 := bsz hb (w.heap.size) (by first | assumption | (simp; done) | (simp; omega)); have hz1 := bsz hb (w.heap.size + 1) (by first | assumption | (simp; done) | (simp; omega)); have hz2 := bsz hb (w.heap.size + 1 + 1) (by first | assumption | (simp; done) | (simp; omega)))) | (go_at_call 46; ((with_reducible refine (of_ _ _ _).mono ?_); rintro e w' ⟨rfl, hb⟩; obtain ⟨hc, hf⟩ := bcell hb; have hz0 := bsz hb (w.heap.size) (by first | assumption | (simp; done) | (simp; omega)); have hz1 := bsz hb (w.heap.size + 1) (by first | assumption | (simp; done) | (simp; omega)); have hz2 := bsz hb (w.heap.size + 1 + 1) (by first | assumption | (simp; done) | (simp; omega)))))
  refine bodyPost_ret (v := V (mx a c) (mx b d)) (by simp [results, Try.results27, go_sem, *]) rfl ⟨rfl, ?_⟩
  (repeat (first | exact Below.refl _ _ | assumption | refine balloc ?_ _ | refine below_drewN ?_ _ | refine bstep (by assumption) ?_ | refine bstep (Past.prop _) ?_ | refine Below.setCell ?_ (by first | exact Nat.le_refl _ | (simp; done) | (simp; omega)) _))
end Go.Proofs.Ytmjfogmpbidooaa

namespace Go.Proofs.Ytmjfogmpbidooaa
open Go.ChangeShapes Go.WideShapes Go.ChangeAt Go.RowKit Go.Shelf
attribute [local irreducible] Go.Calls

theorem wrap_add {a b : Int} (h : -9223372036854775808 ≤ a + b) (h2 : a + b ≤ 9223372036854775807) : wrap64 (a + wrap64 b) = a + b := by unfold wrap64; omega
end Go.Proofs.Ytmjfogmpbidooaa

namespace Go.Proofs.Ytmjfogmpbidooaa
open Go.ChangeShapes Go.WideShapes Go.ChangeAt Go.RowKit Go.Shelf
attribute [local irreducible] Go.Calls

/-- What the closure keeps. -/
theorem lowcl_c (s : St) (p p0 p2 n cap : Nat) (a : Option Addr) (x y : Int) (v r : Int × Int) (w : World) (hB : Blk w p #[.int .i64 v.1, .int .i64 v.2] 35)
    (hW : Blk w p0 #[.slice a n cap, .int .i64 x, .int .i64 y] 106) (hP : Blk w p2 #[.func (.func 62) #[] #[]] 65) (_hp0 : p0 ≠ p) (hp2 : p2 ≠ p)
    (hr : r = if s.1 = x then (mn s.2.2.1 s.2.2.1, mn s.2.2.2 s.2.2.2) else (mn v.1 s.2.2.1, mn v.2 s.2.2.2)) :
    Calls Try.prog 69 (encS s ++ #[.pointer (some ⟨p0, 0, none⟩), .pointer (some ⟨p, 0, none⟩), .pointer (some ⟨p2, 0, none⟩)]) w fun e w' => (∃ v, e = .returned v) ∧ Blk w' p #[.int .i64 r.1, .int .i64 r.2] 35 ∧ w.grownBy w' (some p) := by
  have c0 := hB.cell 0; have c1 := hB.cell 1; have cf := hB.free; have cz := hB.lt; have d1 := hW.cell 1; have dz := hW.lt; have g0 := hP.cell 0; have gz := hP.lt
  simp at c0 c1 d1 g0
  have HB := hidE hB; have HP := hidE hP
  have HR := hidE hr
  clear hB hW hP hr
  show Calls _ _ #[.agg #[.int .i64 s.1, .int .i64 s.2.1, .int .i64 s.2.2.1, .int .i64 s.2.2.2], .pointer (some ⟨p0, 0, none⟩), .pointer (some ⟨p, 0, none⟩), .pointer (some ⟨p2, 0, none⟩)] _ _
  by_cases hx : s.1 = x
  · have hd : (s.1 == x) = true := beq_iff_eq.2 hx
    have HR2 := hidE (HR.out.trans (if_pos hx))
    have HC := hidE (fun w => mn_c s.2.2.1 s.2.2.2 s.2.2.1 s.2.2.2 w)
    rw [HR2.out]
    clear hx HR
    generalize mn s.2.2.1 s.2.2.1 = q1 at *
    generalize mn s.2.2.2 s.2.2.2 = q2 at *
    go_enter Try.func69, Try.ntmps69
    go_upto_region 3 with fail
    go_wp2_with fail
    ((with_reducible refine (HC.out _).mono ?_); rintro e w1 ⟨rfl, hb1⟩)
    have hg : w.grownBy w1 (some p) := grown_trans (grown_trans (grown_trans (grown_set _ _ _ _) (grown_set _ _ _ _)) (grown_alloc _ _ _)) (grown_any hb1)
    have B1 : Blk w1 p #[.int .i64 s.2.2.1, .int .i64 s.2.2.2] 35 := by
      have := ((((HB.out.set 0 (.int .i64 s.2.2.1)).set 1 (.int .i64 s.2.2.2)).alloc (Obj.cells #[.int .i64 s.1, .int .i64 s.2.1, .int .i64 s.2.2.1, .int .i64 s.2.2.2] 116))).past hb1
      simpa using this
    have hg' := hidE hg; have HB1 := hidE B1
    have e0 := B1.cell 0; have e1 := B1.cell 1; have ef := B1.free; have ez := B1.lt
    simp at e0 e1
    clear hg B1 hb1 c0 c1 cf cz d1 dz g0 gz
    go_wp2
    go_end0
    refine ⟨⟨_, rfl⟩, by simpa using (HB1.out.set 0 (.int .i64 q1)).set 1 (.int .i64 q2), ?_⟩
    exact grown_trans (grown_trans hg'.out (grown_set _ _ _ _)) (grown_set _ _ _ _)
  · have hd : (s.1 == x) = false := beq_eq_false_iff_ne.2 hx
    have HR2 := hidE (HR.out.trans (if_neg hx))
    have HC := hidE (fun w => mn_c v.1 v.2 s.2.2.1 s.2.2.2 w)
    rw [HR2.out]
    clear hx HR
    generalize mn v.1 s.2.2.1 = q1 at *
    generalize mn v.2 s.2.2.2 = q2 at *
    go_enter Try.func69, Try.ntmps69
    go_upto_region 3 with fail
    go_wp2_with fail
    ((with_reducible refine (HC.out _).mono ?_); rintro e w1 ⟨rfl, hb1⟩)
    have hg : w.grownBy w1 (some p) := grown_trans (grown_alloc _ _ _) (grown_any hb1)
    have B1 : Blk w1 p #[.int .i64 v.1, .int .i64 v.2] 35 := (HB.out.alloc (Obj.cells #[.int .i64 s.1, .int .i64 s.2.1, .int .i64 s.2.2.1, .int .i64 s.2.2.2] 116)).past hb1
    have hg' := hidE hg; have HB1 := hidE B1
    have e0 := B1.cell 0; have e1 := B1.cell 1; have ef := B1.free; have ez := B1.lt
    simp at e0 e1
    clear hg B1 hb1 c0 c1 cf cz d1 dz g0 gz
    go_wp2
    go_end0
    refine ⟨⟨_, rfl⟩, by simpa using (HB1.out.set 0 (.int .i64 q1)).set 1 (.int .i64 q2), ?_⟩
    exact grown_trans (grown_trans hg'.out (grown_set _ _ _ _)) (grown_set _ _ _ _)
/-- The value so far. -/
def lowV (F : List Sg) (x z : Int) : Int × Int := if z = x then (0, 0) else lowN F x (z - x).toNat
def lowJ (F : List Sg) (x : Int) (w : World) (wn pk : Array Value) (pre : List St) (W : World) : Prop :=
  Blk W (w.heap.size + 1 + 1 + 1) #[.int .i64 (lowV F x (endG x pre)).1, .int .i64 (lowV F x (endG x pre)).2] 35 ∧ Blk W w.heap.size wn 106 ∧ Blk W (w.heap.size + 1) pk 65
theorem lowV_step {F : List Sg} {x : Int} {s : St} (hx : x ≤ s.1) (h : s.1 < s.2.1) (hv : ∀ t, s.1 ≤ t → t < s.2.1 → vat F t = s.2.2) :
    lowV F x s.2.1 = if s.1 = x then (mn s.2.2.1 s.2.2.1, mn s.2.2.2 s.2.2.2) else (mn (lowV F x s.1).1 s.2.2.1, mn (lowV F x s.1).2 s.2.2.2) := by
  have e := low_str hx h hv
  unfold lowV
  rw [if_neg (by omega), e]
  by_cases c : s.1 = x
  · rw [if_pos c, c, Int.sub_self]
    have : lowN F x (Int.toNat 0) = s.2.2 := by
      show vat F x = s.2.2
      exact hv x (by omega) (by omega)
    rw [this]
  · rw [if_neg c, if_neg c]

set_option maxHeartbeats 1000000 in
theorem lowex_c (F : List Sg) (x y : Int) (a : Option Addr) (cap : Nat) (w : World) (hl : F.length ≤ 1000000000) (hA : ArgS w a F) :
    Calls Try.prog 61 #[WN a F.length cap x y, .func (.func 62) #[] #[]] w fun e w' => e = .returned (VE (lowS F x y)) ∧ Below w.heap.size w w' := by
  obtain ⟨w0, hw0⟩ : ∃ w0, w0 = ((w.alloc (Obj.cells #[.slice a F.length cap, .int .i64 x, .int .i64 y] 106)).alloc (Obj.cells #[.func (.func 62) #[] #[]] 65)).alloc (Obj.cells #[.int .i64 0, .int .i64 0] 35) := ⟨_, rfl⟩
  have hz0 : w0.heap.size = w.heap.size + 1 + 1 + 1 := by rw [hw0]; simp
  have hbw0 : Below w.heap.size w w0 := by rw [hw0]; (repeat (first | exact Below.refl _ _ | assumption | refine balloc ?_ _ | refine below_drewN ?_ _ | refine bstep (by assumption) ?_ | refine bstep (Past.prop _) ?_ | refine Below.setCell ?_ (by first | exact Nat.le_refl _ | (simp; done) | (simp; omega)) _))
  have hA0 : ArgS w0 a F := hA.past hbw0
  have HB0 := hidE (show Blk w0 w.heap.size #[.slice a F.length cap, .int .i64 x, .int .i64 y] 106 by rw [hw0]; exact ((Blk.made _ _ _).alloc _).alloc _)
  have HB1 := hidE (show Blk w0 (w.heap.size + 1) #[.func (.func 62) #[] #[]] 65 by rw [hw0]; exact (Blk.made_at _ _ _ _ (by simp)).alloc _)
  have HB2 := hidE (show Blk w0 (w.heap.size + 1 + 1) #[.int .i64 0, .int .i64 0] 35 by rw [hw0]; exact Blk.made_at _ _ _ _ (by simp))
  have HEV := hidE (fun (w' : World) (hb : Below w0.heap.size w0 w') (hB : Blk w' (w.heap.size + 1 + 1 + 1) #[.int .i64 0, .int .i64 0] 35) => ev_c F x y a cap 69 #[.pointer (some ⟨w.heap.size, 0, none⟩), .pointer (some ⟨w.heap.size + 1 + 1 + 1, 0, none⟩), .pointer (some ⟨w.heap.size + 1, 0, none⟩)] w0 w'
    (fun pre W => lowJ F x w #[.slice a F.length cap, .int .i64 x, .int .i64 y] #[.func (.func 62) #[] #[]] pre W) hl hA0 hb
    (enters_of Try.func69 (by kernel_rfl) rfl) (fun s A B h hb2 => ⟨h.1.below hb2 hB.lt, h.2.1.below hb2 (by have := hB.lt; omega), h.2.2.below hb2 (by have := hB.lt; omega)⟩)
    (fun hbad pre s W hz hJ hpre => by
      obtain ⟨hm, hwn⟩ := badW_zero.1 hbad
      obtain ⟨k1, k2, k3, k4, k5⟩ := str_at (mayB_iff.1 hm) hpre
      obtain ⟨j1, j2, j3⟩ := hJ
      rw [← k1] at j1
      refine (lowcl_c s (w.heap.size + 1 + 1 + 1) w.heap.size (w.heap.size + 1) F.length cap a x y (lowV F x s.1) (lowV F x s.2.1) W j1 j2 j3 (by omega) (by omega) (lowV_step k2 k3 k5)).mono ?_
      rintro e W' ⟨hv, hB2, hg⟩
      refine ⟨hv, ⟨?_, j2.grown hg (by simp; omega), j3.grown hg (by simp)⟩, Outside.of_grown hg (by omega) hB.lt (Nat.le_trans hb.size hz)⟩
      rw [endG_snoc]
      exact hB2)
    ⟨by rw [show lowV F x (endG x []) = (0, 0) from if_pos rfl]; exact hB, HB0.out.below hb (by omega), HB1.out.below hb (by omega)⟩)
  have HT := hidE (show lowS F x y = ((lowV F x (endG x (evS F x y))).1, (lowV F x (endG x (evS F x y))).2, badW F x y) from by
    by_cases hq : badW F x y = 0
    · obtain ⟨hm, hwn⟩ := badW_zero.1 hq
      rw [wndB_iff] at hwn
      rw [lowS_ok hq, show evS F x y = strL F x y from if_pos hq, str_end (mayB_iff.1 hm) (by omega), hq]
      unfold lowV
      rw [if_neg (by omega)]
    · rw [lowS_no hq, show evS F x y = [] from if_neg hq, show lowV F x (endG x []) = (0, 0) from if_pos rfl])
  clear hA hA0
  rw [HT.out]
  unfold lowJ at HEV
  generalize lowV F x (endG x (evS F x y)) = q at *
  generalize badW F x y = er at *
  have HBW := hidE hbw0
  clear hbw0
  have c0 := HB0.out.cell 0; have c1 := HB0.out.cell 1; have c2 := HB0.out.cell 2; have z0 := HB0.out.lt; have z2 := HB2.out.lt
  simp at c0 c1 c2
  go_enter Try.func61, Try.ntmps61
  go_wp2_with fail
  rw [← hw0]
  ((with_reducible refine (HEV.out _ ?hb0 ?hB0).mono ?_)); case hb0 => exact (Below.refl _ w0).alloc (Nat.le_refl _) _
  case hB0 => exact Blk.made_at _ _ _ _ (by omega)
  rintro e w1 ⟨rfl, ⟨hB1, _, _⟩, hb1⟩
  have B0 := HB2.out.below hb1 (by omega)
  clear c0 c1 c2 z0 z2
  have e0 := hB1.cell 0; have e1 := hB1.cell 1; have ez := hB1.lt; have d0 := B0.cell 0; have d1 := B0.cell 1; have df := B0.free; have dz := B0.lt
  simp at e0 e1 d0 d1
  have B2 := (B0.set 0 (.int .i64 q.1)).set 1 (.int .i64 q.2)
  have g0 := B2.cell 0; have g1 := B2.cell 1
  simp at g0 g1
  have HBB := hidE (HBW.out.trans (hb1.mono (by omega)))
  clear hB1 hb1 B0 B2
  go_wp2
  refine bodyPost_ret (v := VE (q.1, q.2, er)) (by simp [results, Try.results61, go_sem, g0, g1]) rfl ⟨rfl, ?_⟩
  exact (HBB.out.setCell (p := ⟨w.heap.size + 1 + 1, 0, none⟩) (by simp; omega) _).setCell (p := ⟨w.heap.size + 1 + 1, 1, none⟩) (by simp; omega) _

theorem low_c (F : List Sg) (x y : Int) (a : Option Addr) (cap : Nat) (w : World) (hl : F.length ≤ 1000000000) (hA : ArgS w a F) :
    Calls Try.prog 40 #[.slice a F.length cap, .int .i64 x, .int .i64 y] w fun e w' => e = .returned (VE (lowS F x y)) ∧ Below w.heap.size w w' := by
  have HA := hidE hA
  have HX := hidE (fun w' hA => lowex_c F x y a cap w' hl hA)
  clear hA
  generalize lowS F x y = q at *
  go_enter Try.func40, Try.ntmps40
  go_wp2_with fail
  ((with_reducible refine (HX.out _ (HA.out.past (by (repeat (first | exact Below.refl _ _ | assumption | refine balloc ?_ _ | refine below_drewN ?_ _ | refine bstep (by assumption) ?_ | refine bstep (Past.prop _) ?_ | refine Below.setCell ?_ (by first | exact Nat.le_refl _ | (simp; done) | (simp; omega)) _))))).mono ?_); rintro e w1 ⟨rfl, hb1⟩)
  have B0 := (Blk.made w #[.int .i64 0, .int .i64 0] 35).past hb1
  have d0 := B0.cell 0; have d1 := B0.cell 1; have df := B0.free; have dz := B0.lt
  simp at d0 d1
  have B2 := (B0.set 0 (.int .i64 q.1)).set 1 (.int .i64 q.2.1)
  have g0 := B2.cell 0; have g1 := B2.cell 1
  simp at g0 g1
  have hb : Below w.heap.size w w1 := by (repeat (first | exact Below.refl _ _ | assumption | refine balloc ?_ _ | refine below_drewN ?_ _ | refine bstep (by assumption) ?_ | refine bstep (Past.prop _) ?_ | refine Below.setCell ?_ (by first | exact Nat.le_refl _ | (simp; done) | (simp; omega)) _))
  have HBB := hidE hb
  clear B0 B2 hb hb1
  go_wp2
  refine bodyPost_ret (v := VE q) (by simp [results, Try.results40, go_sem, g0, g1]) rfl ⟨rfl, ?_⟩
  exact (HBB.out.setCell (p := ⟨w.heap.size, 0, none⟩) (Nat.le_refl _) _).setCell (p := ⟨w.heap.size, 1, none⟩) (Nat.le_refl _) _
end Go.Proofs.Ytmjfogmpbidooaa

namespace Go.Proofs.Ytmjfogmpbidooaa
open Go.ChangeShapes Go.WideShapes Go.ChangeAt Go.RowKit
attribute [local irreducible] Go.Calls

theorem fisTime_c (t : Int) (w : World) : Calls Try.prog 60 #[.int .i64 t] w fun e w' => e = .returned (.bool (nowB t)) ∧ Below w.heap.size w w' := by
  by_cases h1 : -1099511627776 ≤ t
  · have e : nowB t = decide (t ≤ 1099511627776) := by unfold nowB; rw [decide_eq_decide]; omega
    have E := hidE e; rw [E.out]; clear e
    have d1 : decide (-1099511627776 ≤ t) = true := decide_eq_true h1
    clear h1
    go_enter Try.func60, Try.ntmps60
    go_wp2
    go_ret
    exact ⟨rfl, by (repeat (first | exact Below.refl _ _ | assumption | refine balloc ?_ _ | refine below_drewN ?_ _ | refine bstep (by assumption) ?_ | refine bstep (Past.prop _) ?_ | refine Below.setCell ?_ (by first | exact Nat.le_refl _ | (simp; done) | (simp; omega)) _))⟩
  · have e : nowB t = false := by unfold nowB; exact decide_eq_false (by omega)
    have E := hidE e; rw [E.out]; clear e
    have d1 : decide (-1099511627776 ≤ t) = false := decide_eq_false h1
    clear h1
    go_enter Try.func60, Try.ntmps60
    go_wp2
    go_ret
    exact ⟨rfl, by (repeat (first | exact Below.refl _ _ | assumption | refine balloc ?_ _ | refine below_drewN ?_ _ | refine bstep (by assumption) ?_ | refine bstep (Past.prop _) ?_ | refine Below.setCell ?_ (by first | exact Nat.le_refl _ | (simp; done) | (simp; omega)) _))⟩
theorem fisTime_eq {t : Int} {r : Bool} {w : World} (h : nowB t = r) : Calls Try.prog 60 #[.int .i64 t] w fun e w' => e = .returned (.bool r) ∧ Below w.heap.size w w' := h ▸ fisTime_c t w
theorem ffault_c (F : List Sg) (x d m c : Int) (a : Option Addr) (cap : Nat) (w : World) (hl : F.length ≤ 1000000000) (hA : ArgS w a F) :
    Calls Try.prog 39 #[.slice a F.length cap, .int .i64 x, .int .i64 d, V m c] w fun e w' => e = .returned (.int .i64 (fitE F x d (m, c))) ∧ Below w.heap.size w w' := by
  have HM := hidE (fun w hA => pmay_c F a cap w (by omega) hA)
  have HA := hidE hA
  clear hA
  cases h1 : mayB F
  · have HE := hidE (fitE_form (x := x) (d := d) (v := (m, c)) h1)
    rw [h1] at HM
    rw [HE.out]
    clear h1
    go_enter Try.func39, Try.ntmps39
    go_wp2_with fail
    ((with_reducible refine (HM.out _ (HA.out.past (by (repeat (first | exact Below.refl _ _ | assumption | refine balloc ?_ _ | refine below_drewN ?_ _ | refine bstep (by assumption) ?_ | refine bstep (Past.prop _) ?_ | refine Below.setCell ?_ (by first | exact Nat.le_refl _ | (simp; done) | (simp; omega)) _))))).mono ?_); rintro e w1 ⟨rfl, hb1⟩)
    go_wp2
    go_ret
    exact ⟨rfl, by (repeat (first | exact Below.refl _ _ | assumption | refine balloc ?_ _ | refine below_drewN ?_ _ | refine bstep (by assumption) ?_ | refine bstep (Past.prop _) ?_ | refine Below.setCell ?_ (by first | exact Nat.le_refl _ | (simp; done) | (simp; omega)) _))⟩
  · by_cases h2 : d < 1 ∨ 4096 < d
    · have HE := hidE (fitE_arg (x := x) (v := (m, c)) h1 h2)
      rw [h1] at HM
      rw [HE.out]
      clear h1
      by_cases h3 : d < 1
      · have d1 : decide (d < 1) = true := decide_eq_true h3
        clear h2 h3
        go_enter Try.func39, Try.ntmps39
        go_wp2_with fail
        ((with_reducible refine (HM.out _ (HA.out.past (by (repeat (first | exact Below.refl _ _ | assumption | refine balloc ?_ _ | refine below_drewN ?_ _ | refine bstep (by assumption) ?_ | refine bstep (Past.prop _) ?_ | refine Below.setCell ?_ (by first | exact Nat.le_refl _ | (simp; done) | (simp; omega)) _))))).mono ?_); rintro e w1 ⟨rfl, hb1⟩)
        go_wp2
        go_ret
        exact ⟨rfl, by (repeat (first | exact Below.refl _ _ | assumption | refine balloc ?_ _ | refine below_drewN ?_ _ | refine bstep (by assumption) ?_ | refine bstep (Past.prop _) ?_ | refine Below.setCell ?_ (by first | exact Nat.le_refl _ | (simp; done) | (simp; omega)) _))⟩
      · have d1 : decide (d < 1) = false := decide_eq_false h3
        have d2 : decide (4096 < d) = true := decide_eq_true (by omega)
        clear h2 h3
        go_enter Try.func39, Try.ntmps39
        go_wp2_with fail
        ((with_reducible refine (HM.out _ (HA.out.past (by (repeat (first | exact Below.refl _ _ | assumption | refine balloc ?_ _ | refine below_drewN ?_ _ | refine bstep (by assumption) ?_ | refine bstep (Past.prop _) ?_ | refine Below.setCell ?_ (by first | exact Nat.le_refl _ | (simp; done) | (simp; omega)) _))))).mono ?_); rintro e w1 ⟨rfl, hb1⟩)
        go_wp2
        go_ret
        exact ⟨rfl, by (repeat (first | exact Below.refl _ _ | assumption | refine balloc ?_ _ | refine below_drewN ?_ _ | refine bstep (by assumption) ?_ | refine bstep (Past.prop _) ?_ | refine Below.setCell ?_ (by first | exact Nat.le_refl _ | (simp; done) | (simp; omega)) _))⟩
    · have d1 : decide (d < 1) = false := decide_eq_false (by omega)
      have d2 : decide (4096 < d) = false := decide_eq_false (by omega)
      have hdd : 1 ≤ d ∧ d ≤ 4096 := by omega
      cases h3 : nowB x
      · have HE := hidE (fitE_range (F := F) (x := x) (d := d) (v := (m, c)) h1 hdd (.inl h3))
        rw [h1] at HM
        rw [HE.out]
        clear h1 h2 hdd
        go_enter Try.func39, Try.ntmps39
        go_wp2_with fail
        ((with_reducible refine (HM.out _ (HA.out.past (by (repeat (first | exact Below.refl _ _ | assumption | refine balloc ?_ _ | refine below_drewN ?_ _ | refine bstep (by assumption) ?_ | refine bstep (Past.prop _) ?_ | refine Below.setCell ?_ (by first | exact Nat.le_refl _ | (simp; done) | (simp; omega)) _))))).mono ?_); rintro e w1 ⟨rfl, hb1⟩)
        go_wp2_with fail
        ((with_reducible refine (fisTime_eq h3).mono ?_); rintro e w2 ⟨rfl, hb2⟩)
        go_wp2
        go_ret
        exact ⟨rfl, by (repeat (first | exact Below.refl _ _ | assumption | refine balloc ?_ _ | refine below_drewN ?_ _ | refine bstep (by assumption) ?_ | refine bstep (Past.prop _) ?_ | refine Below.setCell ?_ (by first | exact Nat.le_refl _ | (simp; done) | (simp; omega)) _))⟩
      · have HE := hidE (show fitE F x d (m, c) = if okV m c then 0 else 10 by
          cases h4 : okV m c
          · exact fitE_range (F := F) (x := x) (d := d) (v := (m, c)) h1 hdd (.inr h4)
          · exact fitE_ok (F := F) (x := x) (d := d) (v := (m, c)) h1 hdd h3 h4)
        rw [h1] at HM
        rw [HE.out]
        clear h1 h2 hdd
        cases h4 : okV m c
        all_goals
          go_enter Try.func39, Try.ntmps39
          go_wp2_with fail
          ((with_reducible refine (HM.out _ (HA.out.past (by (repeat (first | exact Below.refl _ _ | assumption | refine balloc ?_ _ | refine below_drewN ?_ _ | refine bstep (by assumption) ?_ | refine bstep (Past.prop _) ?_ | refine Below.setCell ?_ (by first | exact Nat.le_refl _ | (simp; done) | (simp; omega)) _))))).mono ?_); rintro e w1 ⟨rfl, hb1⟩)
          have hb1' : Below w.heap.size w w1 := by (repeat (first | exact Below.refl _ _ | assumption | refine balloc ?_ _ | refine below_drewN ?_ _ | refine bstep (by assumption) ?_ | refine bstep (Past.prop _) ?_ | refine Below.setCell ?_ (by first | exact Nat.le_refl _ | (simp; done) | (simp; omega)) _))
          have B0 := (Blk.made w #[.int .i64 m, .int .i64 c] 35).past hb1
          have b0 := B0.cell 0; have b1 := B0.cell 1; have bz := B0.lt
          simp at b0 b1
          go_wp2_with fail
          ((with_reducible refine (fisTime_eq h3).mono ?_); rintro e w2 ⟨rfl, hb2⟩)
          have B2 := B0.past hb2
          have hb2' : Below w.heap.size w w2 := bstep hb2 hb1'
          clear b0 b1 bz hb1 hb2
          have b0 := B2.cell 0; have b1 := B2.cell 1; have bz := B2.lt
          simp at b0 b1
          go_wp2_with fail
          ((with_reducible refine (may_eq h4).mono ?_); rintro e w3 ⟨rfl, hb3⟩)
          go_wp2
          go_ret
          exact ⟨rfl, by (repeat (first | exact Below.refl _ _ | assumption | refine balloc ?_ _ | refine below_drewN ?_ _ | refine bstep (by assumption) ?_ | refine bstep (Past.prop _) ?_ | refine Below.setCell ?_ (by first | exact Nat.le_refl _ | (simp; done) | (simp; omega)) _))⟩
theorem ffault_eq {F : List Sg} {x d m c : Int} {a : Option Addr} {cap : Nat} {w : World} {r : Int} (hl : F.length ≤ 1000000000) (hA : ArgS w a F) (h : fitE F x d (m, c) = r) :
    Calls Try.prog 39 #[.slice a F.length cap, .int .i64 x, .int .i64 d, V m c] w fun e w' => e = .returned (.int .i64 r) ∧ Below w.heap.size w w' := h ▸ ffault_c F x d m c a cap w hl hA
/-- What the closure is handed: the low, where the window may be asked for. -/
theorem exam_fi (F : List Sg) (x d m c : Int) (a : Option Addr) (cap p q : Nat) (w : World) (R : World → Prop) (hl : F.length ≤ 1000000000) (hA : ArgS w a F)
    (hS : fitE F x d (m, c) = 0 → ∀ W, Below w.heap.size w W → Calls Try.prog 23 #[V (lowN F x d.toNat).1 (lowN F x d.toNat).2, .pointer (some ⟨p, 0, none⟩), .pointer (some ⟨q, 0, none⟩)] W fun e W' => (∃ v, e = .returned v) ∧ R W') :
    Calls Try.prog 22 #[.slice a F.length cap, .int .i64 x, .int .i64 d, V m c, .func (.func 23) #[] #[.pointer (some ⟨p, 0, none⟩), .pointer (some ⟨q, 0, none⟩)]] w fun e w' =>
      e = .returned (.int .i64 (fitE F x d (m, c))) ∧ (fitE F x d (m, c) = 0 → R w') ∧ (fitE F x d (m, c) ≠ 0 → Below w.heap.size w w') := by
  have HFA := hidE (fun w hA => ffault_c F x d m c a cap w hl hA)
  have HA := hidE hA
  have HS := hidE hS
  clear hA hS
  by_cases h0 : fitE F x d (m, c) = 0
  · obtain ⟨q1, q2, q3, q4⟩ := fitE_zero h0
    have q3 := nowB_iff.1 q3
    have HL := hidE (fun w hA => low_c F x (x + d) a cap w hl hA)
    rw [low_win h0] at HL
    have HS2 := hidE (HS.out h0)
    have wq : IntKind.i64.wrap (x + d) = x + d := IntWalk.i64_in _ (by omega)
    clear HS
    rw [h0] at HFA
    rw [h0]
    clear h0 q1 q2 q3 q4
    generalize lowN F x d.toNat = L at *
    go_enter Try.func22, Try.ntmps22
    go_wp2_with fail
    ((with_reducible refine (HFA.out _ (HA.out.past (by (repeat (first | exact Below.refl _ _ | assumption | refine balloc ?_ _ | refine below_drewN ?_ _ | refine bstep (by assumption) ?_ | refine bstep (Past.prop _) ?_ | refine Below.setCell ?_ (by first | exact Nat.le_refl _ | (simp; done) | (simp; omega)) _))))).mono ?_); rintro e w1 ⟨rfl, hb1⟩)
    have hB1 : Below w.heap.size w w1 := by (repeat (first | exact Below.refl _ _ | assumption | refine balloc ?_ _ | refine below_drewN ?_ _ | refine bstep (by assumption) ?_ | refine bstep (Past.prop _) ?_ | refine Below.setCell ?_ (by first | exact Nat.le_refl _ | (simp; done) | (simp; omega)) _))
    clear hb1
    go_wp2_with fail
    ((with_reducible refine (HL.out _ (HA.out.past hB1)).mono ?_); rintro e w2 ⟨rfl, hb2⟩)
    have hB2 : Below w.heap.size w w2 := bstep hb2 hB1
    clear hb2
    go_wp2_with fail
    ((with_reducible refine (HS2.out _ (by (repeat (first | exact Below.refl _ _ | assumption | refine balloc ?_ _ | refine below_drewN ?_ _ | refine bstep (by assumption) ?_ | refine bstep (Past.prop _) ?_ | refine Below.setCell ?_ (by first | exact Nat.le_refl _ | (simp; done) | (simp; omega)) _)))).mono ?_); rintro e w3 ⟨⟨v3, rfl⟩, hR⟩)
    go_wp2
    go_ret
    exact ⟨rfl, fun _ => hR, fun h => absurd rfl h⟩
  · have e0 : (fitE F x d (m, c) == 0) = false := beq_eq_false_iff_ne.2 h0
    have H0 := hidE h0
    clear h0 HS
    generalize fitE F x d (m, c) = k at *
    go_enter Try.func22, Try.ntmps22
    go_wp2_with fail
    ((with_reducible refine (HFA.out _ (HA.out.past (by (repeat (first | exact Below.refl _ _ | assumption | refine balloc ?_ _ | refine below_drewN ?_ _ | refine bstep (by assumption) ?_ | refine bstep (Past.prop _) ?_ | refine Below.setCell ?_ (by first | exact Nat.le_refl _ | (simp; done) | (simp; omega)) _))))).mono ?_); rintro e w1 ⟨rfl, hb1⟩)
    go_wp2
    go_ret
    exact ⟨rfl, fun h => absurd h H0.out, fun _ => by (repeat (first | exact Below.refl _ _ | assumption | refine balloc ?_ _ | refine below_drewN ?_ _ | refine bstep (by assumption) ?_ | refine bstep (Past.prop _) ?_ | refine Below.setCell ?_ (by first | exact Nat.le_refl _ | (simp; done) | (simp; omega)) _))⟩
/-- What the closure of Fits writes. -/
theorem fitcl_c (m c l1 l2 : Int) (p q : Nat) (b : Bool) (w : World) (hp : Blk w p #[.int .i64 m, .int .i64 c] 35) (hq : Blk w q #[.bool b] 4) :
    Calls Try.prog 23 #[V l1 l2, .pointer (some ⟨p, 0, none⟩), .pointer (some ⟨q, 0, none⟩)] w fun e w' => (∃ v, e = .returned v) ∧ (Blk w' q #[.bool (leB m c l1 l2)] 4 ∧ Below q w w') := by
  have p0 := hp.cell 0; have p1 := hp.cell 1; have pz := hp.lt; have qz := hq.lt
  simp at p0 p1
  have HQ := hidE hq; have HQZ := hidE (Nat.le_of_lt qz)
  clear hq
  go_enter Try.func23, Try.ntmps23
  go_wp2_with fail
  ((with_reducible refine (le _ _ _ _ _).mono ?_); rintro e w1 ⟨rfl, hb1⟩)
  have hB : Below w.heap.size w w1 := by (repeat (first | exact Below.refl _ _ | assumption | refine balloc ?_ _ | refine below_drewN ?_ _ | refine bstep (by assumption) ?_ | refine bstep (Past.prop _) ?_ | refine Below.setCell ?_ (by first | exact Nat.le_refl _ | (simp; done) | (simp; omega)) _))
  have B1 := HQ.out.past hB
  have q0 := B1.cell 0; have qf := B1.free; have qz1 := B1.lt
  simp at q0
  have HB := hidE hB
  clear p0 p1 pz hb1 hB
  go_wp2
  go_end0
  exact ⟨⟨_, rfl⟩, by simpa using B1.set 0 (.bool (leB m c l1 l2)), Below.setCell (p := ⟨q, 0, none⟩) (Below.mono HB.out HQZ.out) (Nat.le_refl _) _⟩
theorem fits_c (F : List Sg) (x d m c : Int) (a : Option Addr) (cap : Nat) (w : World) (hl : F.length ≤ 1000000000) (hA : ArgS w a F) :
    Calls Try.prog 9 #[.slice a F.length cap, .int .i64 x, .int .i64 d, V m c] w fun e w' => e = .returned (.tuple #[.bool (fitsS F x d (m, c)).1, .int .i64 (fitsS F x d (m, c)).2]) ∧ Below w.heap.size w w' := by
  obtain ⟨w0, hw0⟩ : ∃ w0, w0 = (w.alloc (Obj.cells #[.int .i64 m, .int .i64 c] 35)).alloc (Obj.cells #[.bool false] 4) := ⟨_, rfl⟩
  have hz0 : w0.heap.size = w.heap.size + 2 := by rw [hw0]; simp
  have hbw : Below w.heap.size w w0 := by rw [hw0]; (repeat (first | exact Below.refl _ _ | assumption | refine balloc ?_ _ | refine below_drewN ?_ _ | refine bstep (by assumption) ?_ | refine bstep (Past.prop _) ?_ | refine Below.setCell ?_ (by first | exact Nat.le_refl _ | (simp; done) | (simp; omega)) _))
  have B0 : Blk w0 w.heap.size #[.int .i64 m, .int .i64 c] 35 := by rw [hw0]; exact (Blk.made _ _ _).alloc _
  have B1 : Blk w0 (w.heap.size + 1) #[.bool false] 4 := by rw [hw0]; exact Blk.made_at _ _ _ _ (by simp)
  have HX := hidE (exam_fi F x d m c a cap w.heap.size (w.heap.size + 1) w0 (fun W' => Blk W' (w.heap.size + 1) #[.bool (fitB F x d (m, c))] 4 ∧ Below (w.heap.size + 1) w0 W') hl (hA.past hbw) (fun h W hb =>
    (fitcl_c m c (lowN F x d.toNat).1 (lowN F x d.toNat).2 w.heap.size (w.heap.size + 1) false W (B0.past hb) (B1.past hb)).mono fun e W' ⟨h1, h2, h3⟩ => ⟨h1, h2, (hb.mono (by omega)).trans h3⟩))
  have HBW := hidE hbw; have HB1 := hidE B1
  have HB0 := hidE B0
  have b0 := B0.cell 0; have b1 := B0.cell 1; have bz := B0.lt; have c0 := B1.cell 0; have cz := B1.lt
  simp at b0 b1 c0
  clear hA hbw
  by_cases h0 : fitE F x d (m, c) = 0
  · have HE := hidE (show fitsS F x d (m, c) = (fitB F x d (m, c), 0) by unfold fitsS; rw [if_pos h0])
    rw [h0] at HX
    rw [HE.out]
    clear h0
    generalize fitB F x d (m, c) = r at *
    go_enter Try.func9, Try.ntmps9
    go_upto_region 2 with fail
    rw [← hw0]
    clear hw0
    go_wp2_with fail
    ((with_reducible refine (HX.out).mono ?_); rintro e w1 ⟨rfl, hR, _⟩)
    obtain ⟨q1, q2⟩ := hR (by trivial)
    have HQ2 := hidE q2
    clear b0 b1 bz c0 cz hR B0 B1 q2
    have c0 := q1.cell 0; have cz := q1.lt
    simp at c0
    go_wp2
    go_ret2
    exact ⟨rfl, HBW.out.trans (HQ2.out.mono (by omega))⟩
  · have HE := hidE (show fitsS F x d (m, c) = (false, fitE F x d (m, c)) by unfold fitsS; rw [if_neg h0])
    rw [HE.out]
    have H0 := hidE h0
    clear h0
    generalize fitE F x d (m, c) = k at *
    go_enter Try.func9, Try.ntmps9
    go_upto_region 2 with fail
    rw [← hw0]
    clear hw0
    go_wp2_with fail
    ((with_reducible refine (HX.out).mono ?_); rintro e w1 ⟨rfl, _, hR⟩)
    have hb := hR H0.out
    have q1 := HB1.out.past hb
    have HQ2 := hidE hb
    clear b0 b1 bz c0 cz hR B0 B1 hb
    have c0 := q1.cell 0; have cz := q1.lt
    simp at c0
    go_wp2
    go_ret2
    exact ⟨rfl, HBW.out.trans (HQ2.out.mono (by omega))⟩
theorem fits_eq {F : List Sg} {x d m c : Int} {a : Option Addr} {n cap : Nat} {w : World} {r : Bool × Int} (h1 : SliS w (.slice a n cap) F) (hl : n ≤ 1000000) (he : fitsS F x d (m, c) = r) :
    Calls Try.prog 9 #[.slice a n cap, .int .i64 x, .int .i64 d, V m c] w fun e w' => e = .returned (.tuple #[.bool r.1, .int .i64 r.2]) ∧ Below w.heap.size w w' := by
  obtain ⟨a', c', e, h2, h3, h4⟩ := h1
  cases e; subst he
  exact fits_c F x d m c a cap w (by omega) h4
end Go.Proofs.Ytmjfogmpbidooaa
