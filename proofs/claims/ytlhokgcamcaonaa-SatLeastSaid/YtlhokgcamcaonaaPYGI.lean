/- The contract of rle.Of: the canonical function of raw runs, or an error. No conditions but the list's size. The contract of (calc.pair).combined. No conditions but the lists' sizes, that the slices' cells read as integers, and that the functions are canonical. The contract of the document's own sum of a row of functions. No conditions but the lists' sizes. A region that draws its order and has one operation that all before it must precede, and all behind it must follow: that one may write. No conditions. The contract of rle.May. No conditions but the list's size. The contracts of calc.canonical, calc.checked, calc.Sub, Min and Max. No conditions but the lists' sizes, and that the slices' cells read as integers. The contract of rle.Box, and of Of where the answer is known. No conditions. The contract of the document's own Range. No conditions but the list's size. The contracts of calc.Range and calc.Add. No conditions but the lists' sizes, and that the slices' cells read as integers. Package sat's Use. Conditions: the slices read as parts, as pieces; sizes. Package sat's Use, its loop. Conditions: the slices read as parts, as pieces; sizes. A witness that can be looked at and a unit: within bounds. No program. No conditions. The document's own answer of layer 10: Sat. Conditions: the slices read as parts, as pieces; sizes. Each part of a definition that may be has its term; a witness lies in the window just if its begin and its end do. No program. No conditions. The document's example of layer 10, evaluated. No program. No conditions. -/
import Derived.Test.YtlhokgcamcaonaaPYGH
import Derived.Deep.DeepCutAuto
import Derived.Laws.AppendOwn
import Derived.Test.YtlhokgcamcaonaaPYMB
import Derived.Laws.MakeOwn
import Derived.RangeFuncCalls
import Derived.Shelf.Abstract
import Derived.Test.YtlhokgcamcaonaaPYMA
import Derived.Test.YtlhokgcamcaonaaPYGA
import Derived.LoopTactic
import Derived.Deep.LoopGhost
import Derived.Test.YtlhokgcamcaonaaPYGE
import Derived.Test.YtlhokgcamcaonaaPYGG
namespace Go.Proofs.Ytlhokgcamcaonaa
open Go.ChangeShapes Go.WideShapes Go.ChangeAt Go.RowKit
attribute [local irreducible] Go.Calls

theorem cmpr_nil (last : Int × Int) : cmpr last [] = [] := rfl
/-- One step of the compressing, at the place k of the order. -/
theorem cmpr_skip {s : List Sg} {k : Nat} {last : Int × Int} (h : k + 1 < s.length) (e : ats s (k + 1) = ats s k) : cmpr last (s.drop k) = cmpr last (s.drop (k + 1)) := by
  unfold ats at e
  rw [drop_cons (k := k) (by omega), drop_cons h]
  conv => lhs; unfold cmpr
  rw [if_pos e]
theorem cmpr_same {s : List Sg} {k : Nat} {last : Int × Int} (h : k < s.length) (e : k + 1 < s.length → ats s (k + 1) ≠ ats s k) (e2 : vls s k = last) : cmpr last (s.drop k) = cmpr (vls s k) (s.drop (k + 1)) := by
  rw [e2]
  unfold ats at e; unfold vls at e2
  by_cases c : k + 1 < s.length
  · rw [drop_cons (k := k) h, drop_cons c]
    conv => lhs; unfold cmpr
    rw [if_neg (e c), if_pos e2]
  · rw [drop_cons (k := k) h, List.drop_eq_nil_of_le (by omega : s.length ≤ k + 1)]
    unfold cmpr
    rw [if_pos e2]
theorem cmpr_new {s : List Sg} {k : Nat} {last : Int × Int} (h : k < s.length) (e : k + 1 < s.length → ats s (k + 1) ≠ ats s k) (e2 : vls s k ≠ last) : cmpr last (s.drop k) = s.getD k (0, 0, 0)   :: cmpr (vls s k) (s.drop (k + 1)) := by
  unfold ats at e; unfold vls at e2 ⊢
  by_cases c : k + 1 < s.length
  · rw [drop_cons (k := k) h, drop_cons c]
    conv => lhs; unfold cmpr
    rw [if_neg (e c), if_neg e2]
  · rw [drop_cons (k := k) h, List.drop_eq_nil_of_le (by omega : s.length ≤ k + 1)]
    unfold cmpr
    rw [if_neg e2]

set_option maxRecDepth 100000 in
set_option maxHeartbeats 4000000 in
theorem of_c (l : List Sg) (a : Option Addr) (cap : Nat) (w : World) (hl : l.length ≤ 1099511627776) (hA : ArgS w a l) :
    Calls Try.prog 45 #[.slice a l.length cap] w (OfPost w l) := by
  have HA := hidE hA; clear hA
  go_enter Try.func45, Try.ntmps45
  go_wp2
  go_loopg [13] l.length (fun g vi wr => ∃ k : Nat, k ≤ l.length ∧ l.length - k ≤ g ∧ vi = .int .i64 k ∧ (∀ i, i < k → okS (l.getD i (0, 0, 0)) = true) ∧ Below w.heap.size w wr)
  case atStart => exact ⟨0, Nat.zero_le _, by omega, rfl, fun i hi => by omega, Below.refl _ _⟩
  case round =>
    obtain ⟨k, hk, hg, rfl, hs, hb⟩ := hrel
    have HS := hidE hs; have HB := hidE hb; clear hs hb
    by_cases hlt : k < l.length
    · obtain ⟨b, off, rfl, hb, hc⟩ := (HA.out.past HB.out) (by omega)
      obtain ⟨c0, c1, c2⟩ := hc.get hlt
      clear hc
      cases hok : okS (l.getD k (0, 0, 0))
      · have HX := hidE (all_bad hlt hok)
        have HV := hidE (fun w => valid_c (l.getD k (0, 0, 0)) w)
        rw [hok] at HV
        change Hid (∀ w, Calls _ _ #[S (ats l k) (vls l k).1 (vls l k).2] _ _) at HV
        generalize ats l k = u at *
        generalize vls l k = v at *
        go_wp2_with (go_at_call 59; ((with_reducible refine (HV.out _).mono ?_); rintro e w1 ⟨rfl, hb1⟩))
        go_ret2
        exact ⟨_, [], 10, rfl, sliS_nil _, .inr ⟨HX.out, rfl, rfl⟩, by have := HB.out; (repeat (first | exact Below.refl _ _ | assumption | refine balloc ?_ _ | refine below_drewN ?_ _ | refine bstep (by assumption) ?_ | refine bstep (Past.prop _) ?_ | refine Below.setCell ?_ (by first | exact Nat.le_refl _ | (simp; done) | (simp; omega)) _))⟩
      · have HX := hidE (show ∀ i, i < k + 1 → okS (l.getD i (0, 0, 0)) = true from fun i hi => by
          by_cases e : i = k
          · rw [e]; exact hok
          · exact HS.out i (by omega))
        have HV := hidE (fun w => valid_c (l.getD k (0, 0, 0)) w)
        rw [hok] at HV
        change Hid (∀ w, Calls _ _ #[S (ats l k) (vls l k).1 (vls l k).2] _ _) at HV
        generalize ats l k = u at *
        generalize vls l k = v at *
        go_wp2_with (go_at_call 59; ((with_reducible refine (HV.out _).mono ?_); rintro e w1 ⟨rfl, hb1⟩))
        go_roundg (l.length - (k + 1))
        case measure => omega
        case rel => exact ⟨k + 1, by omega, Nat.le_refl _, by go_num, HX.out, by have := HB.out; (repeat (first | exact Below.refl _ _ | assumption | refine balloc ?_ _ | refine below_drewN ?_ _ | refine bstep (by assumption) ?_ | refine bstep (Past.prop _) ?_ | refine Below.setCell ?_ (by first | exact Nat.le_refl _ | (simp; done) | (simp; omega)) _))⟩
    · have hk' : k = l.length := by omega
      subst hk'
      have HX := hidE (all_good HS.out)
      clear HS
      go_wp2_with fail
      ((with_reducible refine (changing_c _).mono ?_); rintro e w1 ⟨rfl, rfl⟩)
      have hb0 : Below w.heap.size w (wr.alloc (.cells #[.int .i64 0, .int .i64 0] 29)) := by have := HB.out; (repeat (first | exact Below.refl _ _ | assumption | refine balloc ?_ _ | refine below_drewN ?_ _ | refine bstep (by assumption) ?_ | refine bstep (Past.prop _) ?_ | refine Below.setCell ?_ (by first | exact Nat.le_refl _ | (simp; done) | (simp; omega)) _))
      have hp0 : w.heap.size ≤ wr.heap.size := HB.out.size
      have B0 : Blk (wr.alloc (.cells #[.int .i64 0, .int .i64 0] 29)) wr.heap.size #[.int .i64 0, .int .i64 0] 29 := Blk.made _ _ _
      have HB0 := hidE hb0; have HBL := hidE B0
      clear hb0 B0 HB hg
      obtain ⟨p, hp⟩ : ∃ p, p = wr.heap.size := ⟨_, rfl⟩
      rw [← hp] at hp0 HBL ⊢
      generalize wr.alloc (.cells #[.int .i64 0, .int .i64 0] 29) = w1 at *
      clear hp
      go_wp2_with fail
      ((with_reducible refine (inOrder_c l a cap _ hl (HA.out.past HB0.out)).mono ?_); rintro e w2 ⟨q, d, rfl, hq, hbq, hb2, hm, hs⟩)
      have HIS := hidE (isOf_cmpr hm hs (fun x hx => List.all_eq_true.1 HX.out x hx))
      have HOD := hidE (show Okd l.length d from fun k hk => by
        obtain ⟨k', _, q2, e⟩ := hm.inn k (Nat.zero_le _) hk
        rw [e]; exact q2)
      have hpl := HBL.out.lt
      have HB2 := hidE (show Below w.heap.size w w2 by have := HB0.out; (repeat (first | exact Below.refl _ _ | assumption | refine balloc ?_ _ | refine below_drewN ?_ _ | refine bstep (by assumption) ?_ | refine bstep (Past.prop _) ?_ | refine Below.setCell ?_ (by first | exact Nat.le_refl _ | (simp; done) | (simp; omega)) _)))
      have HBP := hidE (HBL.out.past hb2)
      have HBQ := hidE hbq
      have hq2 := hbq.lt
      have hp2 : p < w2.heap.size := Nat.lt_of_lt_of_le hpl hb2.size
      have hpq : p ≠ q := by omega
      have hqw : w.heap.size ≤ q := Nat.le_trans HB0.out.size hq
      have hlo : w.heap.size ≤ w2.heap.size := by omega
      clear hm hs HBL HB0 hbq hb2 hpl hq
      generalize hB : w2.heap.size = B at hq2 hp2 hlo
      have HBE := hidE hB; clear hB
      go_wp2_with fail
      go_loopg [26, 6, 9, 10] l.length (fun g vi vf _ _ wr2 => ∃ (k : Nat) (fk : List Sg) (last : Int × Int) (v6 : Value), vi = .int .i64 k ∧ v6 = vf ∧ k ≤ l.length ∧ l.length - k ≤ g ∧ fk.length ≤ k ∧ wr2.ownsRow B 52 3 v6 fk.length (cellsOfS fk) ∧ Blk wr2 p #[.int .i64 last.1, .int .i64 last.2] 29 ∧ Blk wr2 q (rowC l.length d) 3 ∧ Below w.heap.size w wr2 ∧ B ≤ wr2.heap.size ∧ Hid (fk ++ cmpr last ((ordL l d).drop k) = cmpr (0, 0) (ordL l d)))
      case atStart => exact ⟨0, [], (0, 0), .slice none 0 0, rfl, rfl, by omega, by omega, Nat.le_refl _, ⟨rfl, .inl ⟨rfl, rfl⟩⟩, HBP.out, HBQ.out, HB2.out, Nat.le_of_eq HBE.out.symm, rfl⟩
      case round =>
        clear HBP HBQ HB2 HBE
        obtain ⟨k, fk, last, s6, rfl, rfl, hk, hg, hfk, hown, hbp, hbq, hb, hB, HF⟩ := hrel
        have HOW := hidE hown; have HBP := hidE hbp; have HBQ := hidE hbq; have HB := hidE hb
        clear hown hbp hbq hb
        by_cases hlt : k < l.length
        · obtain ⟨b, off, rfl, hb, hc⟩ := (HA.out.past HB.out) (by omega)
          have hbw : b < w.heap.size := by
            obtain ⟨b', off', e, hb', _⟩ := HA.out (by omega)
            simp at e; omega
          obtain ⟨c0, c1, c2⟩ := hc.get (i := d k) (HOD.out k hlt)
          have r0 := (HBQ.out.cell k).trans (rowC_get hlt)
          have hdk := HOD.out k hlt
          have hbz : b < wr.heap.size := hb
          have hqz := HBQ.out.lt
          have HEA := hidE (ordL_ats (l := l) (d := d) hlt)
          have HEV := hidE (ordL_vls (l := l) (d := d) hlt)
          by_cases hskip : k + 1 < l.length ∧ ats l (d (k + 1)) = ats l (d k)
          · obtain ⟨hk1, hsame⟩ := hskip
            have HF2 := hidE (show fk ++ cmpr last ((ordL l d).drop (k + 1)) = cmpr (0, 0) (ordL l d) by
              rw [← HF.out, cmpr_skip (k := k) (by rw [ordL_len]; exact hk1) (by rw [ordL_ats hk1, ordL_ats hlt]; exact hsame)])
            obtain ⟨d0, d1, d2⟩ := hc.get (i := d (k + 1)) (HOD.out _ hk1)
            have r1 := (HBQ.out.cell (k + 1)).trans (rowC_get hk1)
            have hdk1 := HOD.out _ hk1
            rw [hsame] at d0
            clear hc hsame c1 c2 d1 d2 HF HEA HEV
            have HCE := hidE (show ∀ x : Past wr, wr.heap.size ≤ x.1.heap.size from fun x => x.2.size)
            generalize ats l (d k) = u at *
            generalize d k = i0 at *
            generalize d (k + 1) = i1 at *
            have g1 : decide ((k : Int) + 1 < (l.length : Int)) = true := decide_eq_true (by omega)
            go_wp2
            refine wp_region_past_lit (by kernel_rfl) (by kernel_rfl) ?_
            have hcp := Past.cell (W := wr)
            repeat (go_big_quiet_step (fail))
            refine wpQuiet_nil ?_
            rintro _ ⟨x', rfl⟩
            have o1 := own_below HOW.out x'.2
            have o2 := HBP.out.past x'.2
            have o3 := HBQ.out.past x'.2
            have o4 : Below w.heap.size w x'.1 := by have := HB.out; (repeat (first | exact Below.refl _ _ | assumption | refine balloc ?_ _ | refine below_drewN ?_ _ | refine bstep (by assumption) ?_ | refine bstep (Past.prop _) ?_ | refine Below.setCell ?_ (by first | exact Nat.le_refl _ | (simp; done) | (simp; omega)) _))
            have o5 := Nat.le_trans hB x'.2.size
            clear hcp c0 d0 r0 r1
            generalize x'.1 = w3 at o1 o2 o3 o4 o5 ⊢
            go_wp2
            go_roundg (l.length - (k + 1))
            case measure => omega
            case rel => exact ⟨k + 1, fk, last, s6, by go_num, rfl, by omega, Nat.le_refl _, by omega, o1, o2, o3, o4, o5, HF2.out⟩
          · have HNE := hidE (show k + 1 < (ordL l d).length → ats (ordL l d) (k + 1) ≠ ats (ordL l d) k from fun h => by
              rw [ordL_len] at h
              rw [ordL_ats h, ordL_ats hlt]
              exact fun e => hskip ⟨h, e⟩)
            have HOL := hidE (show k < (ordL l d).length by rw [ordL_len]; exact hlt)
            generalize hdk0 : d k = dk at r0 c0 c1 c2 hdk HEA HEV hskip
            clear hdk0
            go_wp2
            go_cut [52] (fun s52 wx => s52 = .bool false ∧ wx.ownsRow B 52 3 s6 fk.length (cellsOfS fk) ∧ Blk wx p #[.int .i64 last.1, .int .i64 last.2] 29 ∧ Blk wx q (rowC l.length d) 3 ∧ Below w.heap.size w wx ∧ B ≤ wx.heap.size)
            case first =>
              by_cases hk1 : k + 1 < l.length
              · have hdf : (ats l (d (k + 1)) == ats l dk) = false := beq_eq_false_iff_ne.2 fun e => hskip ⟨hk1, e⟩
                obtain ⟨d0, d1, d2⟩ := hc.get (i := d (k + 1)) (HOD.out _ hk1)
                have r1 := (HBQ.out.cell (k + 1)).trans (rowC_get hk1)
                have hdk1 := HOD.out _ hk1
                clear hc hskip c1 c2 d1 d2 HF HEA HEV HNE
                generalize ats l dk = u at *
                generalize ats l (d (k + 1)) = u1 at *
                generalize d (k + 1) = i1 at *
                have g1 : decide ((k : Int) + 1 < (l.length : Int)) = true := decide_eq_true (by omega)
                refine wp_region_past_lit (by kernel_rfl) (by kernel_rfl) ?_
                have hcp := Past.cell (W := wr)
                repeat (go_big_quiet_step (fail))
                refine wpQuiet_nil ?_
                rintro _ ⟨x', rfl⟩
                go_wp2
                go_meet
                case rel => exact ⟨rfl, own_below HOW.out x'.2, HBP.out.past x'.2, HBQ.out.past x'.2, by have := HB.out; (repeat (first | exact Below.refl _ _ | assumption | refine balloc ?_ _ | refine below_drewN ?_ _ | refine bstep (by assumption) ?_ | refine bstep (Past.prop _) ?_ | refine Below.setCell ?_ (by first | exact Nat.le_refl _ | (simp; done) | (simp; omega)) _)), Nat.le_trans hB x'.2.size⟩
              · clear hc hskip c1 c2 HF HEA HEV HNE
                have g1 : decide ((k : Int) + 1 < (l.length : Int)) = false := decide_eq_false (by omega)
                refine wp_region_past_lit (by kernel_rfl) (by kernel_rfl) ?_
                have hcp := Past.cell (W := wr)
                repeat (go_big_quiet_step (fail))
                refine wpQuiet_nil ?_
                rintro _ ⟨x', rfl⟩
                go_wp2
                go_meet
                case rel => exact ⟨rfl, own_below HOW.out x'.2, HBP.out.past x'.2, HBQ.out.past x'.2, by have := HB.out; (repeat (first | exact Below.refl _ _ | assumption | refine balloc ?_ _ | refine below_drewN ?_ _ | refine bstep (by assumption) ?_ | refine bstep (Past.prop _) ?_ | refine Below.setCell ?_ (by first | exact Nat.le_refl _ | (simp; done) | (simp; omega)) _)), Nat.le_trans hB x'.2.size⟩
            obtain ⟨rfl, o1, o2, o3, o4, o5⟩ := hcut
            have hc2 : CellsS wc b off l := by
              obtain ⟨b', off', e, hb', hcc⟩ := HA.out.past o4 (by omega)
              simp at e
              obtain ⟨rfl, rfl⟩ := e
              exact hcc
            have hbc : b < wc.heap.size := by have := o4.size; omega
            obtain ⟨c0, c1, c2⟩ := hc2.get (i := dk) hdk
            have O1 := hidE o1; have O2 := hidE o2; have O3 := hidE o3; have O4 := hidE o4; have O5 := hidE o5
            clear o1 o2 o3 o4 hc hc2 r0 HOW HBP HBQ HB hskip
            by_cases hsv : vls l dk = last
            · have HF2 := hidE (show fk ++ cmpr (vls l dk) ((ordL l d).drop (k + 1)) = cmpr (0, 0) (ordL l d) by
                rw [← HF.out, cmpr_same (k := k) HOL.out HNE.out (by rw [HEV.out]; exact hsv), HEV.out])
              have hbb : (!(((vls l dk).1, (vls l dk).2) == (last.1, last.2))) = false := by rw [hsv]; simp
              clear HF HEA HEV HNE hsv
              generalize ats l dk = u at *
              generalize vls l dk = v at *
              go_wp2_with fail
              ((with_reducible refine (chg_c p last.1 last.2 v.1 v.2 _ O2.out).mono ?_); rintro e w3 ⟨rfl, q1, q2⟩)
              have n1 := own_grown O1.out q2 hp2
              have n3 := O3.out.grown q2 (by intro e; simp at e; omega)
              have n4 : Below w.heap.size w w3 := O4.out.grown q2 (by omega) (fun k hk => by simp at hk; omega)
              have n5 : B ≤ w3.heap.size := Nat.le_trans O5.out q2.size
              clear q2 c0 c1 c2
              go_wp2
              go_roundg (l.length - (k + 1))
              case measure => omega
              case rel => exact ⟨k + 1, fk, v, s6, by go_num, rfl, by omega, Nat.le_refl _, by omega, n1, q1, n3, n4, n5, HF2.out⟩
            · have HF2 := hidE (show (fk ++ [(ordL l d).getD k (0, 0, 0)]) ++ cmpr (vls l dk) ((ordL l d).drop (k + 1)) = cmpr (0, 0) (ordL l d) by
                rw [← HF.out, cmpr_new (k := k) HOL.out HNE.out (by rw [HEV.out]; exact hsv), HEV.out, List.append_assoc]; rfl)
              have hbb : (!(((vls l dk).1, (vls l dk).2) == (last.1, last.2))) = true := by
                rw [Bool.not_eq_true']; exact beq_eq_false_iff_ne.2 hsv
              have HSK := hidE (show cellsOfS (fk ++ [(ordL l d).getD k (0, 0, 0)]) = cellsOfS fk ++ [.int .i64 (ats l dk), .int .i64 (vls l dk).1, .int .i64 (vls l dk).2] by
                rw [cellsOfS_app]
                have e1 := HEA.out; have e2 := HEV.out
                unfold ats at e1 ⊢; unfold vls at e2 ⊢
                rw [← e1, ← e2]; rfl)
              clear HF HEA HEV HNE hsv
              generalize ats l dk = u at *
              generalize vls l dk = v at *
              obtain ⟨i0, hi, hz0, hz1, hz2⟩ := info_parts Try.infoSeg
              have HI := hidE hi; have HZ0 := hidE hz0; have HZ1 := hidE hz1; have HZ2 := hidE hz2
              clear hi hz0 hz1 hz2
              go_wp2_with fail
              ((with_reducible refine (chg_c p last.1 last.2 v.1 v.2 _ O2.out).mono ?_); rintro e w3 ⟨rfl, q1, q2⟩)
              have hc3 : b < w3.heap.size := Nat.lt_of_lt_of_le hbc q2.size
              have hbp : some b ≠ some p := by intro e; simp at e; omega
              have hblk := q2.block b hbc hbp
              have t0 : w3.cell? ⟨b, off + dk * 3, none⟩ = some (.int .i64 u) := (World.cell?_of_block (w := wc) (a := ⟨b, off + dk * 3, none⟩) hblk).trans c0
              have t1 : w3.cell? ⟨b, off + dk * 3 + 1, none⟩ = some (.int .i64 v.1) := (World.cell?_of_block (w := wc) (a := ⟨b, off + dk * 3 + 1, none⟩) hblk).trans c1
              have t2 : w3.cell? ⟨b, off + dk * 3 + 2, none⟩ = some (.int .i64 v.2) := (World.cell?_of_block (w := wc) (a := ⟨b, off + dk * 3 + 2, none⟩) hblk).trans c2
              have n1 := own_grown O1.out q2 hp2
              have n3 := O3.out.grown q2 (by intro e; simp at e; omega)
              have n4 : Below w.heap.size w w3 := O4.out.grown q2 (by omega) (fun k hk => by simp at hk; omega)
              have n5 : B ≤ w3.heap.size := Nat.le_trans O5.out q2.size
              have N1 := hidE n1; have N3 := hidE n3; have N4 := hidE n4; have Q1 := hidE q1
              clear q2 c0 c1 c2 n1 n3 n4 q1 hblk hbp
              go_wp2_with (at_builtin; refine wpList_append_own _ rfl (.tmp 60) (.tmp 65) 36 rfl B 52 i0 (.agg #[.int .i64 0, .int .i64 0, .int .i64 0]) 3 24 Try.underlying36 HI.out HZ0.out HZ1.out HZ2.out rfl (by decide) _ _ _ rfl (N1.out.alloc _) ⟨w3.heap.size, 0, none⟩ 1 1 [.int .i64 u, .int .i64 v.1, .int .i64 v.2] rfl rfl (new_cells w3 #[.int .i64 u, .int .i64 v.1, .int .i64 v.2] 52) (by intro x hx; simp at hx; rcases hx with rfl | rfl | rfl <;> rfl) (by unfold maxLen; omega) (by omega) (by simp; omega) ?_; intro v' w4 hown4 hgrow4 _)
              have p1 := (Blk.alloc Q1.out (.cells #[.int .i64 u, .int .i64 v.1, .int .i64 v.2] 52)).grown hgrow4 (fun e => by have := own_block N1.out e.symm; omega)
              have p3 := (Blk.alloc N3.out (.cells #[.int .i64 u, .int .i64 v.1, .int .i64 v.2] 52)).grown hgrow4 (fun e => by have := own_block N1.out e.symm; omega)
              have p4 : Below w.heap.size w w4 := Below.grown (N4.out.alloc (by omega) (.cells #[.int .i64 u, .int .i64 v.1, .int .i64 v.2] 52)) hgrow4 (by simp; omega) (fun k hk => by have := own_block N1.out hk; omega)
              have p5 : B ≤ w4.heap.size := Nat.le_trans n5 (Nat.le_trans (by simp) hgrow4.size)
              rw [← HSK.out] at hown4
              have P1 := hidE p1; have P3 := hidE p3; have P4 := hidE p4; have PO := hidE hown4
              clear p1 p3 p4 hown4 hgrow4 t0 t1 t2
              go_wp2
              go_roundg (l.length - (k + 1))
              case measure => omega
              case rel => exact ⟨k + 1, fk ++ [(ordL l d).getD k (0, 0, 0)], v, v', by go_num, rfl, by omega, Nat.le_refl _, by simp; omega, by rw [List.length_append]; exact PO.out, P1.out, P3.out, P4.out, p5, HF2.out⟩
        · have hk' : k = l.length := by omega
          subst hk'
          have e := HF.out
          rw [List.drop_eq_nil_of_le (by rw [ordL_len]; exact Nat.le_refl _)] at e
          rw [cmpr_nil, List.append_nil] at e
          have HE := hidE e; clear e
          go_wp2
          go_ret2
          exact ⟨_, fk, 0, rfl, sliS_own HOW.out, .inl ⟨HX.out, rfl, by rw [HE.out]; exact HIS.out⟩, HB.out⟩
end Go.Proofs.Ytlhokgcamcaonaa

namespace Go.Proofs.Ytlhokgcamcaonaa
open Go.ChangeShapes Go.WideShapes Go.ChangeAt Go.RowKit Go.Shelf
attribute [local irreducible] Go.Calls
attribute [local go_sem] Oper.semAt_some

theorem make_segs (n : Nat) (hn : n ≤ 1000000000) : ∀ w, (Instr.makeSlice 36 (.int .i64 0) (.int .i64 (n : Int))).run Try.prog w = .ok (.slice (some ⟨w.heap.size, 0, none⟩) 0 n) (w.alloc (.cells (madeCells #[.int .i64 0, .int .i64 0, .int .i64 0] (n * 3)) 52)) := by
  intro w
  obtain ⟨i0, hi, hz0, hz1, hz2⟩ := info_parts Try.infoSeg
  have h := run_make (P := Try.prog) w 36 52 i0 (.agg #[.int .i64 0, .int .i64 0, .int .i64 0]) Try.underlying36 hi hz0 .i64 .i64 0 n (by omega) (by omega) (by rw [hz2]; omega) (by omega)
  rw [h]
  simp only [Int.toNat_natCast, hz1, Value.cells]
  rfl

theorem make_segs2 (n m : Nat) (hn : n + m ≤ 1000000000) : ∀ w, (Instr.makeSlice 36 (.int .i64 0) (.int .i64 ((n : Int) + (m : Int)))).run Try.prog w = .ok (.slice (some ⟨w.heap.size, 0, none⟩) 0 (n + m)) (w.alloc (.cells (madeCells #[.int .i64 0, .int .i64 0, .int .i64 0] ((n + m) * 3)) 52)) := by
  intro w
  rw [← Int.natCast_add]
  exact make_segs (n + m) hn w

/-- A block whose first cells hold a list of runs. -/
def RowAt (W : World) (g cap : Nat) (l : List Sg) : Prop := ∃ cur : Array Value, Blk W g cur 52 ∧ cur.size = cap * 3 ∧ l.length ≤ cap ∧ cap ≤ 1000000000 ∧ cur.toList.take (l.length * 3) = cellsOfS l
theorem RowAt.below {W W' : World} {g cap B : Nat} {l : List Sg} (h : RowAt W g cap l) (hb : Below B W W') (hg : g < B) : RowAt W' g cap l := by
  obtain ⟨cur, h1, h2⟩ := h
  exact ⟨cur, h1.below hb hg, h2⟩
theorem RowAt.own {W : World} {g cap base : Nat} {l : List Sg} (h : RowAt W g cap l) (hb : base ≤ g) : W.ownsRow base 52 3 (.slice (some ⟨g, 0, none⟩) l.length cap) l.length (cellsOfS l) := by
  obtain ⟨cur, h1, h2, h3, h4, h5⟩ := h
  exact ⟨by rw [cellsOfS_len], .inr ⟨g, cap, cur, rfl, hb, h1, h3, by unfold maxLen; omega, h2, h5⟩⟩
theorem RowAt.of_own {W : World} {g cap base : Nat} {l : List Sg} (hc : cap ≤ 1000000000) (h : W.ownsRow base 52 3 (.slice (some ⟨g, 0, none⟩) l.length cap) l.length (cellsOfS l)) : RowAt W g cap l := by
  obtain ⟨h1, h2 | ⟨g', cap', cur, e, h3, h4, h5, h6, h7, h8⟩⟩ := h
  · cases h2.1
  · cases e
    exact ⟨cur, h4, h7, h5, hc, h8⟩
theorem RowAt.other {W : World} {g cap b i : Nat} {l : List Sg} (h : RowAt W g cap l) (hne : g ≠ b) (v : Value) : RowAt (W.setCell ⟨b, i, none⟩ v) g cap l := by
  obtain ⟨cur, h1, h2⟩ := h
  exact ⟨cur, h1.other hne v, h2⟩
theorem RowAt.made {W : World} (n : Nat) (hn : n ≤ 1000000000) : RowAt (W.alloc (.cells (madeCells #[.int .i64 0, .int .i64 0, .int .i64 0] (n * 3)) 52)) W.heap.size n [] :=
  ⟨_, Blk.made _ _ _, by simp [madeCells], by simp, hn, by simp [cellsOfS]⟩
theorem fresh_at (w : World) (cs : Array Value) (t : TypeId) (k : Nat) (h : k = w.heap.size) : ∀ j u, cs.toList[j]? = some u → (w.alloc (.cells cs t)).cell? ((⟨k, 0, none⟩ : Addr).add j) = some u := by
  subst h
  exact new_cells w cs t
theorem madeRow (n : Nat) (hn : n ≤ 1000000000) (W : World) (o : Obj) (g : Nat) (h : g = W.heap.size) : RowAt ((W.alloc (.cells (madeCells #[.int .i64 0, .int .i64 0, .int .i64 0] (n * 3)) 52)).alloc o) g n [] := by
  subst h
  obtain ⟨cur, h1, h2⟩ := RowAt.made (W := W) n hn
  exact ⟨cur, h1.alloc _, h2⟩
/-- A slice of runs lies on where only blocks of one cell, or of none, are turned. -/
theorem argS_turn {w w' : World} {a : Option Addr} {l : List Sg} (h : ArgS w a l) (hs : w.heap.size ≤ w'.heap.size) (hk : ∀ k i v, w.cell? ⟨k, i + 1, none⟩ = some v → w'.heap[k]? = w.heap[k]?) : ArgS w' a l := fun hl => by
  obtain ⟨b, off, e, h1, h2⟩ := h hl
  have hb : w'.heap[b]? = w.heap[b]? := by
    obtain ⟨_, q, _⟩ := h2 0 hl
    exact hk b _ _ q
  have hc : ∀ i, w'.cell? ⟨b, i, none⟩ = w.cell? ⟨b, i, none⟩ := fun i => World.cell?_of_block (a := ⟨b, i, none⟩) hb
  refine ⟨b, off, e, Nat.lt_of_lt_of_le h1 hs, fun i hi => ?_⟩
  obtain ⟨q1, q2, q3⟩ := h2 i hi
  exact ⟨(hc _).trans q1, (hc _).trans q2, (hc _).trans q3⟩
theorem one_cell {w : World} {k i : Nat} {x v : Value} {t : TypeId} (h : Blk w k #[x] t) (hc : w.cell? ⟨k, i + 1, none⟩ = some v) : False := by
  rw [h.cell] at hc; simp at hc
theorem no_cell {w : World} {k i : Nat} {v : Value} {d : Option (List Deferred)} (h : w.heap[k]? = some (.deferred d)) (hc : w.cell? ⟨k, i, none⟩ = some v) : False := by
  simp [World.cell?, h] at hc
theorem Blk.put {w : World} {k : Nat} {cs : Array Value} {t : TypeId} (h : Blk w k cs t) {b : Nat} (hb : k ≠ b) (o : Obj) : Blk (w.putObj b o) k cs t := (World.putObj_heap_other hb).trans h
/-- Between two rounds of the loop. -/
def CombI (k : Int) (F G : List Sg) (w : World) (v0 : Value) (pre : List Tg) (W : World) : Prop :=
  Below w.heap.size w W ∧ w.heap.size + 1 + 1 + 1 + 1 < W.heap.size ∧ Blk W w.heap.size v0.cells 106 ∧ Blk W (w.heap.size + 1) #[.slice none 0 0] 36 ∧ Blk W (w.heap.size + 1 + 1) #[.int .i64 0] 31 ∧
    RowAt W (w.heap.size + 1 + 1 + 1) (F.length + G.length) (pre.map (rawOf k)) ∧ Blk W (w.heap.size + 1 + 1 + 1 + 1) #[.slice (some ⟨w.heap.size + 1 + 1 + 1, 0, none⟩) pre.length (F.length + G.length)] 36 ∧ (∀ p ∈ pre, errOf k p = 0)
/-- A round has left with an error. -/
def CombX (k : Int) (F G : List Sg) (w : World) (c : Code) (W : World) : Prop :=
  c = .ret ∧ Below w.heap.size w W ∧ Blk W (w.heap.size + 1) #[.slice none 0 0] 36 ∧ Blk W (w.heap.size + 1 + 1) #[.int .i64 (doS k F G).2] 31 ∧ (doS k F G).1 = []
theorem combI_below {k : Int} {F G : List Sg} {w : World} {v0 : Value} {pre : List Tg} {A B : World} (h : CombI k F G w v0 pre A) (hb : Below (w.heap.size + 1 + 1 + 1 + 1 + 1) A B) : CombI k F G w v0 pre B := by
  obtain ⟨h1, h2, h3, h4, h5, h6, h7, h8⟩ := h
  exact ⟨h1.trans (hb.mono (by omega)), Nat.lt_of_lt_of_le h2 hb.size, h3.below hb (by omega), h4.below hb (by omega), h5.below hb (by omega), h6.below hb (by omega), h7.below hb (by omega), h8⟩
theorem combX_below {k : Int} {F G : List Sg} {w : World} {c : Code} {A B : World} (h : CombX k F G w c A) (hb : Below (w.heap.size + 1 + 1 + 1 + 1 + 1) A B) : CombX k F G w c B := by
  obtain ⟨h1, h2, h3, h4, h5⟩ := h
  exact ⟨h1, h2.trans (hb.mono (by omega)), h3.below hb (by omega), h4.below hb (by omega), h5⟩

set_option maxRecDepth 100000 in
set_option maxHeartbeats 2000000 in
theorem comb_plus (F G : List Sg) (a a' : Option Addr) (cap cap' : Nat) (w : World) (hF : F.length ≤ cap) (hc : cap ≤ 9223372036854775807) (hG : G.length ≤ cap') (hc' : cap' ≤ 9223372036854775807) (hl : F.length + G.length ≤ 1000000000)
    (hA : ArgS w a F) (hA' : ArgS w a' G) (hm : mayB F = true) (hm' : mayB G = true) :
    Calls Try.prog 48 #[.agg #[.slice a F.length cap, .slice a' G.length cap', .func (.func 47) #[] #[]]] w (OfIs w (doS 0 F G).1 (doS 0 F G).2) := by
  have HBAD := hidE (fun (p : Tg) hp he => comb_bad (k := 0) hm hm' (p := p) hp he)
  have HOK := hidE (fun he => comb_ok (k := 0) hm hm' he)
  have HSEQ := hidE (fun w' hb => tog_c F G a a' cap cap' (.func (.func 47) #[] #[]) w w' hF hc hG hc' hl hA hA' hb)
  have HLEN := hidE (togL_len F G)
  have HMK := hidE (make_segs2 F.length G.length hl)
  clear hA hA' hm hm' hF hc hG hc'
  refine (callsIn_wide (n := 0)).1 (callsIn_of_wp_marks Try.func48 rfl trivial ((wpIn_wide (n := 0)).2 ?_))
  simp only [Try.ntmps48, List.size_toArray, List.length_cons, List.length_nil, Nat.reduceAdd, Nat.reduceSub, Array.replicate_succ, Array.replicate_zero, List.push_toArray, List.append_toArray, List.nil_append, List.cons_append]
  have hmk := HMK.out
  go_wp2
  have hm3 := madeRow (F.length + G.length) hl
  have HI0 : CombI 0 F G w (.agg #[.slice a F.length cap, .slice a' G.length cap', .func (.func 47) #[] #[]]) [] ((((((w.alloc (Obj.cells #[Value.slice a F.length cap, Value.slice a' G.length cap', .func (.func 47) #[] #[]] 106)).alloc (Obj.cells #[Value.slice none 0 0] 36)).alloc (Obj.cells #[Value.int IntKind.i64 0] 31)).alloc (Obj.cells (madeCells #[Value.int IntKind.i64 0, Value.int IntKind.i64 0, Value.int IntKind.i64 0] ((F.length + G.length) * 3)) 52)).alloc (Obj.cells #[Value.slice (some { block := w.heap.size + 1 + 1 + 1, off := 0 }) 0 (F.length + G.length)] 36))) :=
    ⟨by (repeat (first | exact Below.refl _ _ | assumption | refine balloc ?_ _ | refine below_drewN ?_ _ | refine bstep (by assumption) ?_ | refine bstep (Past.prop _) ?_ | refine Below.setCell ?_ (by first | exact Nat.le_refl _ | (simp; done) | (simp; omega)) _)), by simp, (((Blk.made _ _ _).alloc _).alloc _).alloc _ |>.alloc _, (((Blk.made_at _ _ _ _ (by simp)).alloc _).alloc _).alloc _, ((Blk.made_at _ _ _ _ (by simp)).alloc _).alloc _, hm3 _ _ _ (by simp), Blk.made_at _ _ _ _ (by simp), fun p hp => by simp at hp⟩
  have HS5 : (((((((w.alloc (Obj.cells #[Value.slice a F.length cap, Value.slice a' G.length cap', .func (.func 47) #[] #[]] 106)).alloc (Obj.cells #[Value.slice none 0 0] 36)).alloc (Obj.cells #[Value.int IntKind.i64 0] 31)).alloc (Obj.cells (madeCells #[Value.int IntKind.i64 0, Value.int IntKind.i64 0, Value.int IntKind.i64 0] ((F.length + G.length) * 3)) 52)).alloc (Obj.cells #[Value.slice (some { block := w.heap.size + 1 + 1 + 1, off := 0 }) 0 (F.length + G.length)] 36)))).heap.size = w.heap.size + 1 + 1 + 1 + 1 + 1 := by simp
  have HB5 : Below w.heap.size w ((((((w.alloc (Obj.cells #[Value.slice a F.length cap, Value.slice a' G.length cap', .func (.func 47) #[] #[]] 106)).alloc (Obj.cells #[Value.slice none 0 0] 36)).alloc (Obj.cells #[Value.int IntKind.i64 0] 31)).alloc (Obj.cells (madeCells #[Value.int IntKind.i64 0, Value.int IntKind.i64 0, Value.int IntKind.i64 0] ((F.length + G.length) * 3)) 52)).alloc (Obj.cells #[Value.slice (some { block := w.heap.size + 1 + 1 + 1, off := 0 }) 0 (F.length + G.length)] 36))) := by (repeat (first | exact Below.refl _ _ | assumption | refine balloc ?_ _ | refine below_drewN ?_ _ | refine bstep (by assumption) ?_ | refine bstep (Past.prop _) ?_ | refine Below.setCell ?_ (by first | exact Nat.le_refl _ | (simp; done) | (simp; omega)) _))
  generalize ((((((w.alloc (Obj.cells #[Value.slice a F.length cap, Value.slice a' G.length cap', .func (.func 47) #[] #[]] 106)).alloc (Obj.cells #[Value.slice none 0 0] 36)).alloc (Obj.cells #[Value.int IntKind.i64 0] 31)).alloc (Obj.cells (madeCells #[Value.int IntKind.i64 0, Value.int IntKind.i64 0, Value.int IntKind.i64 0] ((F.length + G.length) * 3)) 52)).alloc (Obj.cells #[Value.slice (some { block := w.heap.size + 1 + 1 + 1, off := 0 }) 0 (F.length + G.length)] 36))) = W5 at *
  refine wp_rangeFunc_T (n₀ := w.heap.size) (S := togL F G) rfl (enters_of Try.func63 (by kernel_rfl) rfl) HB5.size (HSEQ.out _ HB5) (fun _ => rfl)
    (CombI 0 F G w (.agg #[.slice a F.length cap, .slice a' G.length cap', .func (.func 47) #[] #[]])) (fun c _ W => CombX 0 F G w c W)
    (fun s A B h hb => combI_below h (HS5 ▸ hb)) (fun c s A B h hb => combX_below h (HS5 ▸ hb)) HI0
    (fun x a1 W => ∃ Bx : Nat, w.heap.size + 1 + 1 + 1 + 1 + 1 ≤ Bx ∧ Blk W Bx #[.int .i64 x.2.1.1, .int .i64 x.2.1.2, .int .i64 x.2.2.1, .int .i64 x.2.2.2] 132 ∧ a1 = { tmps := #[.agg #[.slice a F.length cap, .slice a' G.length cap', .func (.func 47) #[] #[]], .pointer (some ⟨w.heap.size, 0, none⟩), .pointer (some ⟨w.heap.size + 1, 0, none⟩), .pointer (some ⟨w.heap.size + 1 + 1, 0, none⟩), .pointer (some ⟨w.heap.size + 1 + 1 + 1 + 1, 0, none⟩), .int .i64 x.1, .pointer (some ⟨Bx, 0, none⟩), undef, undef,
      .pointer (some ⟨w.heap.size, 0, none⟩), .slice a F.length cap, .int .i64 F.length, .pointer (some ⟨w.heap.size, 1, none⟩), .slice a' G.length cap', .int .i64 G.length, .int .i64 ((F.length : Int) + (G.length : Int)), .slice (some ⟨w.heap.size + 1 + 1 + 1, 0, none⟩) 0 (F.length + G.length), .agg #[.slice a F.length cap, .slice a' G.length cap', .func (.func 47) #[] #[]],
      .func (.func 63) #[.agg #[.slice a F.length cap, .slice a' G.length cap', .func (.func 47) #[] #[]]] #[], .int .i64 x.1, .agg #[.int .i64 x.2.1.1, .int .i64 x.2.1.2, .int .i64 x.2.2.1, .int .i64 x.2.2.2], undef, undef, undef, undef, undef, undef, undef, undef, undef, undef, undef, undef, undef, undef, undef, undef, undef, undef, undef, undef, undef, undef, undef], defers := [] })
    ?hax ?assign ?body ?done ?stop
  case hax =>
    rintro x a1 A l r o ⟨Bx, h1, h2, h3⟩ hlr
    exact ⟨Bx, h1, (World.putObj_heap_other (fun e => by subst e; rw [show A.heap[Bx]? = _ from h2] at hlr; cases hlr)).trans h2, h3⟩
  case assign =>
    intro l pre x W K hsz hi hK
    rw [HS5] at hsz
    dsimp only [encT]
    gi_wp2
    exact hK _ _ (Outside.of_below ((Below.refl _ _).alloc (Nat.le_refl _) _) (by omega)) (combI_below hi ((Below.refl _ _).alloc (by omega) _)) ⟨W.heap.size, by omega, Blk.made _ _ _, rfl⟩
  case body =>
    rintro l pre x a1 W hsz ⟨i1, i2, i3, i4, i5, i6, i7, i8⟩ ⟨Bx, hBx, bX, rfl⟩ hpre
    rw [HS5] at hsz
    clear HI0 HSEQ HMK hmk hm3
    have HOP := hidE (plus_c x.2.1.1 x.2.1.2 x.2.2.1 x.2.2.2 W)
    change Hid (Calls _ _ _ W fun e w' => e = .returned (VE (opV 0 x.2.1 x.2.2)) ∧ _) at HOP
    have HRAW := hidE (show rawOf 0 x = (x.1, ((opV 0 x.2.1 x.2.2).1, (opV 0 x.2.1 x.2.2).2.1)) from rfl)
    have HERR := hidE (show errOf 0 x = (opV 0 x.2.1 x.2.2).2.2 from rfl)
    generalize opV 0 x.2.1 x.2.2 = q at *
    have p2 := i3.cell 2; have r0 := i7.cell 0; have rf := i7.free; have e0 := i5.cell 0; have ef := i5.free; have v0 := i4.cell 0; have vf := i4.free
    have x0 := bX.cell 0; have x1 := bX.cell 1; have x2 := bX.cell 2; have x3 := bX.cell 3; have xz := bX.lt
    simp [Value.cells] at p2 r0 e0 v0 x0 x1 x2 x3
    gi_wp2_with fail
    refine ⟨trivial, rfl, (CallsIn.inRound l (callsIn_wide.2 HOP.out)).mono ?_⟩
    rintro e w1 ⟨rfl, hb1⟩
    clear p2 r0 rf e0 ef v0 vf x0 x1 x2 x3 xz
    have HB1 := hidE hb1
    have o1 : Outside w.heap.size W5.heap.size W w1 := Outside.of_below hb1 i1.size
    have hz1 : w.heap.size + 1 + 1 + 1 + 1 + 1 ≤ w1.heap.size := Nat.le_trans hsz hb1.size
    have BE := i5.past hb1; have BV := i4.past hb1; have BR := i7.past hb1
    have r0 := BR.cell 0; have rf := BR.free; have rz := BR.lt; have e0 := BE.cell 0; have ef := BE.free; have ez := BE.lt; have v0 := BV.cell 0; have vf := BV.free; have vz := BV.lt
    simp at r0 e0 v0
    by_cases hq : q.2.2 = 0
    · have g2 : (q.2.2 != 0) = false := by rw [bne_eq_false_iff_eq]; exact hq
      have HE0 := hidE (HERR.out.trans hq)
      have hsl : (pre.map (rawOf 0)).length = pre.length := by simp
      have hlt : pre.length + 1 ≤ F.length + G.length := by
        have h1 := hpre.length_le
        simp only [List.length_append, List.length_cons, List.length_nil] at h1
        have := HLEN.out; omega
      have HROW := hidE (i6.below hb1 (by omega))
      have APP := hidE (fun W' (hb : Below w1.heap.size w1 W') => show W'.ownsRow w.heap.size 52 3 (.slice (some ⟨w.heap.size + 1 + 1 + 1, 0, none⟩) pre.length (F.length + G.length)) pre.length (cellsOfS (pre.map (rawOf 0))) from by
        have := (HROW.out.below hb (by omega)).own (base := w.heap.size) (by omega)
        rw [hsl] at this; exact this)
      obtain ⟨ix, hix, hz0, hzz, hz2⟩ := info_parts Try.infoSeg
      have HI := hidE hix; have HZ1 := hidE hzz
      have HI1 := hidE i1; have HI3 := hidE i3; have HI8 := hidE i8; have HPRE := hidE hpre
      have BF := i3.past hb1; have BE' := hidE BE; have BV' := hidE BV
      clear hq hix hz0 hzz hz2 i1 i3 i4 i5 i6 i7 i8 hpre BE BV HERR HOP HBAD HOK bX e0 ef ez v0 vf vz hb1 hsl
      gi_wp2_with (gi_at_builtin; refine wpListIn_append_fits _ rfl (.tmp 34) (.tmp 38) 36 rfl w.heap.size 52 ix 3 Try.underlying36 HI.out HZ1.out (w.heap.size + 1 + 1 + 1) pre.length (F.length + G.length) _ rfl (APP.out _ (by (repeat (first | exact Below.refl _ _ | assumption | refine balloc ?_ _ | refine below_drewN ?_ _ | refine bstep (by assumption) ?_ | refine bstep (Past.prop _) ?_ | refine Below.setCell ?_ (by first | exact Nat.le_refl _ | (simp; done) | (simp; omega)) _)))) ⟨_, 0, none⟩ 1 1 [.int .i64 x.1, .int .i64 q.1, .int .i64 q.2.1] rfl rfl (fresh_at _ #[.int .i64 x.1, .int .i64 q.1, .int .i64 q.2.1] 52 _ (by simp)) (by intro y hy; simp at hy; rcases hy with rfl | rfl | rfl <;> rfl) (by omega) ?_; intro w4 hown4 hgrow4; have BR4 := ((BR.alloc _).alloc _).grown hgrow4 (by simp); have r4 := BR4.cell 0; have rf4 := BR4.free; have rz4 := BR4.lt; simp at r4; have HG4 := hidE hgrow4; have HO4 := hidE hown4; have HR4 := hidE BR4; clear hgrow4 hown4 r0 rf rz BR4)
      have o2 : Outside w.heap.size W5.heap.size w1 _ := Outside.of_below (((Below.refl _ w1).alloc (Nat.le_refl _) (Obj.cells #[Value.int IntKind.i64 q.fst, Value.int IntKind.i64 q.snd.fst] 29)).alloc (by simp) (Obj.cells #[Value.int IntKind.i64 x.fst, Value.int IntKind.i64 q.fst, Value.int IntKind.i64 q.snd.fst] 52)) (by omega)
      have o3 : Outside w.heap.size W5.heap.size _ w4 := Outside.of_grown HG4.out (by omega) (by omega) (by simp; omega)
      have o4 : Outside w.heap.size W5.heap.size w4 _ := Outside.of_grown (grown_set w4 (w.heap.size + 1 + 1 + 1 + 1) 0 (.slice (some ⟨w.heap.size + 1 + 1 + 1, 0, none⟩) (pre.length + 1) (F.length + G.length))) (by omega) (by omega) (by omega)
      have oo := ((o1.trans o2).trans o3).trans o4
      have hmap : (pre ++ [x]).map (rawOf 0) = pre.map (rawOf 0) ++ [(x.1, (q.1, q.2.1))] := by rw [List.map_append, List.map_cons, List.map_nil, HRAW.out]
      have hlen : ((pre ++ [x]).map (rawOf 0)).length = pre.length + 1 := by simp
      have hrow : RowAt w4 (w.heap.size + 1 + 1 + 1) (F.length + G.length) ((pre ++ [x]).map (rawOf 0)) := RowAt.of_own (base := w.heap.size) hl (by
        rw [hlen, hmap, cellsOfS_app]; exact HO4.out)
      refine ⟨oo, HI1.out.trans oo.below, by simp [World.setCell]; omega, (((BF.alloc _).alloc _).grown HG4.out (by simp; omega)).other (by omega) _, (((BV'.out.alloc _).alloc _).grown HG4.out (by simp)).other (by omega) _, (((BE'.out.alloc _).alloc _).grown HG4.out (by simp)).other (by omega) _, hrow.other (by omega) _, ?_, fun p hp => ?_⟩
      · have := HR4.out.set 0 (.slice (some ⟨w.heap.size + 1 + 1 + 1, 0, none⟩) (pre.length + 1) (F.length + G.length))
        simpa using this
      · rcases List.mem_append.1 hp with h | h
        · exact HI8.out p h
        · simp at h; subst h; exact HE0.out
    · have g2 : (q.2.2 != 0) = true := bne_iff_ne.2 hq
      have HB := hidE (HBAD.out x (hpre.subset (by simp)) (by rw [HERR.out]; exact hq))
      have hb' := HB.out
      rw [HERR.out] at hb'
      have HD := hidE hb'
      clear hb'
      gi_wp2
      have o2 : Outside w.heap.size W5.heap.size _ _ := Outside.of_grown (grown_set w1 (w.heap.size + 1) 0 (.slice none 0 0)) (by omega) (by omega) (by omega)
      have o3 : Outside w.heap.size W5.heap.size _ _ := Outside.of_grown (grown_set (w1.setCell ⟨w.heap.size + 1, 0, none⟩ (.slice none 0 0)) (w.heap.size + 1 + 1) 0 (.int .i64 q.2.2)) (by omega) (by omega) (by simp [World.setCell]; omega)
      have o4 : Outside w.heap.size W5.heap.size _ _ := Outside.of_below ((Below.refl _ ((w1.setCell ⟨w.heap.size + 1, 0, none⟩ (.slice none 0 0)).setCell ⟨w.heap.size + 1 + 1, 0, none⟩ (.int .i64 q.2.2))).alloc (Nat.le_refl _) (Obj.cells #[Value.int IntKind.i64 q.fst, Value.int IntKind.i64 q.snd.fst] 29)) (by simp [World.setCell]; omega)
      have oo := ((o1.trans o2).trans o3).trans o4
      refine ⟨oo, rfl, i1.trans oo.below, ?_, ?_, by rw [HD.out]⟩
      · have := ((BV.set 0 (.slice none 0 0)).other (b := w.heap.size + 1 + 1) (i := 0) (by omega) (.int .i64 q.2.2)).alloc (Obj.cells #[Value.int IntKind.i64 q.fst, Value.int IntKind.i64 q.snd.fst] 29)
        simpa using this
      · have := ((BE.other (b := w.heap.size + 1) (i := 0) (by omega) (.slice none 0 0)).set 0 (.int .i64 q.2.2)).alloc (Obj.cells #[Value.int IntKind.i64 q.fst, Value.int IntKind.i64 q.snd.fst] 29)
        rw [HD.out]
        simpa using this
  case done =>
    rintro D W hD ⟨i1, i2, i3, i4, i5, i6, i7, i8⟩ hK
    rw [HS5] at hD
    have hD' : D < W.heap.size := (Array.getElem?_eq_some_iff.1 hK).1
    obtain ⟨hok, hun⟩ := HOK.out i8
    have HUN := hidE hun; have HALL := hidE hok
    have hml : ((togL F G).map (rawOf 0)).length = (togL F G).length := by simp
    obtain ⟨aR, capR, eR, _, _, hAR⟩ := sliS_own (i6.own (base := w.heap.size) (by omega))
    cases eR
    have HOF := hidE (show Calls Try.prog 45 #[.slice (some ⟨w.heap.size + 1 + 1 + 1, 0, none⟩) (togL F G).length (F.length + G.length)] W (OfPost W ((togL F G).map (rawOf 0))) from by
      have := of_c ((togL F G).map (rawOf 0)) _ (F.length + G.length) W (by rw [hml]; have := HLEN.out; omega) hAR
      rw [hml] at this; exact this)
    have r0 := i7.cell 0; have rf := i7.free; have rz := i7.lt; have e0 := i5.cell 0; have ef := i5.free; have ez := i5.lt; have v0 := i4.cell 0; have vf := i4.free; have vz := i4.lt
    simp at r0 e0 v0
    have HKD := hidE hK; have BE := hidE i5; have BV := hidE i4
    clear HI0 HSEQ HMK hmk hm3 hun hok hAR i3 i4 i5 i6 i7 hK HOK HBAD
    go_wp2_with fail
    ((with_reducible refine (HOF.out).mono ?_); rintro e w1 ⟨v1, f1, er, rfl, hs1, hcase, hb1⟩)
    clear r0 rf rz e0 ef ez v0 vf vz
    have BE1 := BE.out.past hb1; have BV1 := BV.out.past hb1
    have e0 := BE1.cell 0; have ef := BE1.free; have ez := BE1.lt; have v0 := BV1.cell 0; have vf := BV1.free; have vz := BV1.lt
    simp at e0 v0
    obtain ⟨a1, c1, rfl, hs11, hs12, hs13⟩ := hs1
    have HS1 := hidE (And.intro hs11 (And.intro hs12 hs13)); have HC := hidE hcase; have HB1 := hidE hb1
    clear hs11 hs12 hs13 hcase hb1
    go_wp2
    obtain ⟨h2, h3, h4⟩ := HS1.out
    have hkf : ((w1.setCell ⟨w.heap.size + 1, 0, none⟩ (.slice a1 f1.length c1)).setCell ⟨w.heap.size + 1 + 1, 0, none⟩ (.int .i64 er)).heap[D]? = some (.deferred (some [])) :=
      (Below.heap_setCell _ _ _ _ (by simp; omega)).trans ((Below.heap_setCell _ _ _ _ (by simp; omega)).trans ((HB1.out.block D hD').trans HKD.out))
    have g1 := (((BV1.set 0 (.slice a1 f1.length c1)).other (b := w.heap.size + 1 + 1) (i := 0) (by omega) (.int .i64 er)).put (b := D) (by omega) (.deferred none)).cell 0
    have g2 := (((BE1.other (b := w.heap.size + 1) (i := 0) (by omega) (.slice a1 f1.length c1)).set 0 (.int .i64 er)).put (b := D) (by omega) (.deferred none)).cell 0
    simp at g1 g2
    have hdz : D < w1.heap.size := Nat.lt_of_lt_of_le hD' HB1.out.size
    refine ⟨by simp, .inl ⟨_, _, rfl, run_takeDeferred hkf, ?_⟩⟩
    refine ⟨.tuple #[.slice a1 f1.length c1, .int .i64 er], by simp [results, Try.results48, go_sem, g1, g2], ?_⟩
    rcases HC.out with ⟨_, q2, q3⟩ | ⟨q1, _, _⟩
    · rw [HUN.out _ q3, q2]
      refine ⟨_, rfl, ⟨a1, c1, rfl, h2, h3, argS_turn h4 (by simp [World.setCell]) (fun k i v hc => ?_)⟩, ?_⟩
      · by_cases e1 : k = w.heap.size + 1
        · subst e1; exact (one_cell BV1 hc).elim
        by_cases e2 : k = w.heap.size + 1 + 1
        · subst e2; exact (one_cell BE1 hc).elim
        by_cases e3 : k = D
        · subst e3; exact (no_cell ((HB1.out.block k hD').trans HKD.out) hc).elim
        · exact (World.putObj_heap_other e3).trans ((Below.heap_setCell _ _ _ _ e2).trans (Below.heap_setCell _ _ _ _ e1))
      · refine ((((i1.trans (HB1.out.mono i1.size)).setCell (p := ⟨w.heap.size + 1, 0, none⟩) (by simp) _).setCell (p := ⟨w.heap.size + 1 + 1, 0, none⟩) (by simp; omega) _)).trans (below_putObj _ _ _ (by omega))
    · rw [HALL.out] at q1; cases q1
  case stop =>
    rintro D c pre W hD hpre ⟨rfl, i1, i2, i3, hnil⟩ hK
    rw [HS5] at hD
    have g1 := (i2.put (b := D) (by omega) (.deferred none)).cell 0
    have g2 := (i3.put (b := D) (by omega) (.deferred none)).cell 0
    simp at g1 g2
    have HI1 := hidE i1
    clear HI0 HSEQ HMK hmk hm3 i2 i3 HOK HBAD
    go_wp2
    refine ⟨by simp, .inl ⟨_, _, rfl, run_takeDeferred hK, ?_⟩⟩
    refine ⟨.tuple #[.slice none 0 0, .int .i64 (doS 0 F G).2], by simp [results, Try.results48, go_sem, g1, g2], ?_⟩
    rw [hnil]
    exact ⟨_, rfl, sliS_nil _, HI1.out.trans (below_putObj _ _ _ (by omega))⟩

end Go.Proofs.Ytlhokgcamcaonaa

namespace Go.Proofs.Ytlhokgcamcaonaa
open Go.ChangeShapes Go.WideShapes Go.ChangeAt Go.RowKit
attribute [local irreducible] Go.Calls

/-- A slice whose cells are slices that read as lists of runs. -/
def CellsR (w : World) (b off : Nat) (L : List (List Sg)) : Prop :=
  ∀ i, i < L.length → ∃ (a : Option Addr) (c : Nat), w.cell? ⟨b, off + i, none⟩ = some (.slice a (L.getD i []).length c) ∧ ArgS w a (L.getD i [])
def ArgR (w : World) (a : Option Addr) (L : List (List Sg)) : Prop := 0 < L.length → ∃ b off, a = some ⟨b, off, none⟩ ∧ b < w.heap.size ∧ CellsR w b off L
theorem ArgR.past {w w' : World} {a : Option Addr} {L : List (List Sg)} (h : ArgR w a L) (hb : Below w.heap.size w w') : ArgR w' a L := fun hl => by
  obtain ⟨b, off, e, h1, h2⟩ := h hl
  refine ⟨b, off, e, Nat.lt_of_lt_of_le h1 hb.size, fun i hi => ?_⟩
  obtain ⟨a', c, h3, h4⟩ := h2 i hi
  exact ⟨a', c, (hb.cell (p := ⟨b, _, none⟩) h1).trans h3, h4.past hb⟩

/-- How many runs a row of functions has. -/
def lenR (L : List (List Sg)) : Nat := (L.map List.length).sum
theorem lenR_step {L : List (List Sg)} {n : Nat} (h : n < L.length) : lenR (L.take (n + 1)) = lenR (L.take n) + (L.getD n []).length := by
  unfold lenR
  rw [List.take_succ_eq_append_getElem h, getD_get _ _ _ h, List.map_append, List.sum_append]
  simp only [List.map_cons, List.map_nil, List.sum_cons, List.sum_nil, Nat.add_zero]
theorem lenR_take : ∀ (L : List (List Sg)) (n : Nat), lenR (L.take n) ≤ lenR L
  | [], n => by simp [lenR]
  | x :: r, 0 => by simp [lenR]
  | x :: r, n + 1 => by
    have := lenR_take r n
    unfold lenR at this ⊢
    simp only [List.take_succ_cons, List.map_cons, List.sum_cons]
    omega
theorem lenR_get {L : List (List Sg)} {n : Nat} (h : n < L.length) : (L.getD n []).length ≤ lenR L := by
  have h1 := lenR_step h
  have h2 := lenR_take L (n + 1)
  omega
theorem doS_len (k : Int) (F G : List Sg) : (doS k F G).1.length ≤ F.length + G.length := by
  unfold doS
  split
  · simp
  · split
    · exact opL_len k F G
    · simp
theorem sumE_step {L : List (List Sg)} {n : Nat} (h : n < L.length) (h0 : (sumE (L.take n)).2 = 0) : sumE (L.take (n + 1)) = doS 0 (sumE (L.take n)).1 (L.getD n []) := by
  have : sumE (L.take (n + 1)) = if (sumE (L.take n)).2 = 0 then doS 0 (sumE (L.take n)).1 (L.getD n []) else sumE (L.take n) := by
    unfold sumE
    rw [List.take_succ_eq_append_getElem h, List.foldl_append, getD_get _ _ _ h]; rfl
  rw [this, if_pos h0]
theorem sumE_err : ∀ (r : List (List Sg)) (acc : List Sg × Int), acc.2 ≠ 0 → r.foldl (fun acc f => if acc.2 = 0 then doS 0 acc.1 f else acc) acc = acc
  | [], _, _ => rfl
  | x :: r, acc, h => by
    rw [List.foldl_cons, if_neg h]
    exact sumE_err r acc h
theorem sumE_bad {L : List (List Sg)} {n : Nat} (h : (sumE (L.take n)).2 ≠ 0) : sumE L = sumE (L.take n) := by
  have e : sumE L = (L.drop n).foldl (fun acc f => if acc.2 = 0 then doS 0 acc.1 f else acc) (sumE (L.take n)) := by
    unfold sumE
    rw [← List.foldl_append, List.take_append_drop]
  rw [e]; exact sumE_err _ _ h
theorem doS_err {k : Int} {F G : List Sg} (h : (doS k F G).2 ≠ 0) : (doS k F G).1 = [] := by
  unfold doS at h ⊢
  split
  · rfl
  · split
    · rename_i h1 h2
      rw [if_neg h1, if_pos h2] at h
      exact absurd rfl h
    · rfl
end Go.Proofs.Ytlhokgcamcaonaa

namespace Go.Proofs.Ytlhokgcamcaonaa
open Go.RowKit

def barOk (l : List Oper) (q : Nat) : Bool :=
  Region.noSelect l.toArray && decide (q < l.length) &&
  ((List.range l.length).all fun i => match l[i]? with
    | some o => o.after.all fun e => !Region.binds .any e || decide (e.on < i)
    | none => true) &&
  ((List.range q).all fun i => match l[i]? with
    | some o => match o.guard with
      | some g => decide (g.1 < q)
      | none => true
    | none => true) &&
  ((List.range l.length).all fun i => decide (i ≤ q) || (List.range i).any fun j => decide (q ≤ j) && waits l.toArray i j) &&
  ((List.range q).all fun j => (List.range (q + 1)).any fun i => decide (j < i) && waits l.toArray i j) &&
  Region.lexB .any (l.take q).toArray &&
  Region.lexFrom .any l.toArray (l.drop (q + 1)).length (q + 1) (Array.replicate (q + 1) true ++ Array.replicate (l.length - (q + 1)) false)

structure BarOk (l : List Oper) (q : Nat) : Prop where
  sel : Region.noSelect l.toArray = true
  lt : q < l.length
  back : ∀ i o, l[i]? = some o → ∀ e ∈ o.after, Region.binds .any e = true → e.on < i
  guard : ∀ i o, i < q → l[i]? = some o → ∀ g, o.guard = some g → g.1 < q
  after : ∀ i, i < l.length → q < i → ∃ j, q ≤ j ∧ j < i ∧ waits l.toArray i j = true
  before : ∀ j, j < q → ∃ i, j < i ∧ i ≤ q ∧ waits l.toArray i j = true
  lexP : Region.lexB .any (l.take q).toArray = true
  lexS : Region.lexFrom .any l.toArray (l.drop (q + 1)).length (q + 1) (Array.replicate (q + 1) true ++ Array.replicate (l.length - (q + 1)) false) = true

theorem barOk_spec {l : List Oper} {q : Nat} (h : barOk l q = true) : BarOk l q := by
  unfold barOk at h
  simp only [Bool.and_eq_true] at h
  obtain ⟨⟨⟨⟨⟨⟨⟨h1, h2⟩, h3⟩, h4⟩, h5⟩, h6⟩, h7⟩, h8⟩ := h
  rw [decide_eq_true_eq] at h2
  refine ⟨h1, h2, ?_, ?_, ?_, ?_, h7, h8⟩
  · intro i o ho e he hb
    have hi : i < l.length := (List.getElem?_eq_some_iff.1 ho).1
    have := List.all_eq_true.1 h3 i (by simpa using hi)
    rw [ho] at this
    have := Array.all_eq_true'.1 this e he
    rw [hb] at this
    simpa using this
  · intro i o hi ho g hg
    have := List.all_eq_true.1 h4 i (by simpa using hi)
    rw [ho] at this
    simp only [hg] at this
    simpa using this
  · intro i hi hqi
    have := List.all_eq_true.1 h5 i (by simpa using hi)
    rw [Bool.or_eq_true, decide_eq_true_eq] at this
    rcases this with c | c
    · omega
    · obtain ⟨j, hj, hc⟩ := List.any_eq_true.1 c
      rw [Bool.and_eq_true, decide_eq_true_eq] at hc
      exact ⟨j, hc.1, by simpa using hj, hc.2⟩
  · intro j hj
    have := List.all_eq_true.1 h6 j (by simpa using hj)
    obtain ⟨i, hi, hc⟩ := List.any_eq_true.1 this
    rw [Bool.and_eq_true, decide_eq_true_eq] at hc
    have := List.mem_range.1 hi
    exact ⟨i, hc.1, by omega, hc.2⟩

section
variable {l : List Oper} {q : Nat} (B : BarOk l q)
include B
/-- Whoever stands behind the bar waits for it. -/
theorem BarOk.behind {listed : Array Bool} (hs : Shut l.toArray listed) : ∀ (n i : Nat), i ≤ n → i < l.length → q < i → (∀ o, l[i]? = some o → ∀ e ∈ o.after, Region.binds .any e = true → listed.getD e.on false = true) → listed.getD q false = true := by
  intro n
  induction n with
  | zero => intro i h1 _ h3; omega
  | succ n ih =>
    intro i h1 h2 h3 hd
    obtain ⟨j, j1, j2, j3⟩ := B.after i h2 h3
    have hoi : l.toArray[i]? = some l[i] := by simp [h2]
    have hj := waits_listed hoi (hd l[i] (List.getElem?_eq_getElem h2)) j3
    by_cases c : j = q
    · rw [c] at hj; exact hj
    · refine ih j (by omega) (by omega) (by omega) fun o ho e he hb => ?_
      exact hs.deps j o (by simpa using ho) hj e he hb
/-- The bar waits for all ahead of it. -/
theorem BarOk.ahead {listed : Array Bool} (hs : Shut l.toArray listed) (hd : ∀ o, l[q]? = some o → ∀ e ∈ o.after, Region.binds .any e = true → listed.getD e.on false = true) : ∀ (n j : Nat), q - j ≤ n → j < q → listed.getD j false = true := by
  intro n
  induction n with
  | zero => intro j h1 h2; omega
  | succ n ih =>
    intro j h1 h2
    obtain ⟨i, i1, i2, i3⟩ := B.before j h2
    by_cases c : i = q
    · subst c
      have hll := B.lt
      have hoi : l.toArray[i]? = some l[i] := by simp [hll]
      exact waits_listed hoi (hd l[i] (List.getElem?_eq_getElem hll)) i3
    · have hi := ih i (by omega) (by omega)
      have hil : i < l.length := by have := B.lt; omega
      have hoi : l.toArray[i]? = some l[i] := by simp [hil]
      exact waits_listed hoi (fun e he hb => hs.deps i l[i] hoi hi e he hb) i3
end

theorem wanted_take {l : List Oper} {q : Nat} (o : Oper) (t : Array Value) (hg : ∀ g, o.guard = some g → g.1 < q) : Region.wanted o (yielded (l.take q).toArray t) = Region.wanted o (yielded l.toArray t) := by
  unfold Region.wanted
  cases h : o.guard with
  | none => rfl
  | some g =>
    have hlt := hg g h
    have e : yielded (l.take q).toArray t g.1 = yielded l.toArray t g.1 := by
      unfold yielded
      simp [hlt]
    simp only [e]

/-- The number of those ahead of the bar that are still to come. -/
def todo (q : Nat) (listed : Array Bool) : Nat := ((List.range q).filter fun i => !listed.getD i false).length
theorem todo_zero {q : Nat} {listed : Array Bool} (h : todo q listed = 0) : ∀ i, i < q → listed.getD i false = true := by
  intro i hi
  unfold todo at h
  have := List.eq_nil_of_length_eq_zero h
  cases hl : listed.getD i false with
  | true => rfl
  | false =>
    have hm : i ∈ (List.range q).filter fun i => !listed.getD i false := by
      rw [List.mem_filter]; exact ⟨by simpa using hi, by rw [hl]; rfl⟩
    rw [this] at hm; cases hm
theorem filter_set (listed : Array Bool) (i : Nat) (hi : i < listed.size) (hl : listed.getD i false = false) : ∀ (r : List Nat), r.Nodup → i ∈ r → (r.filter fun j => !listed.getD j false).length = (r.filter fun j => !(listed.setIfInBounds i true).getD j false).length + 1 := by
  intro r
  induction r with
  | nil => intro _ h; cases h
  | cons a r ih =>
    intro hn hm
    have hn' := List.nodup_cons.1 hn
    by_cases c : a = i
    · subst c
      have e : (r.filter fun j => !listed.getD j false) = r.filter fun j => !(listed.setIfInBounds a true).getD j false := by
        refine List.filter_congr fun j hj => ?_
        have : j ≠ a := fun e => hn'.1 (e ▸ hj)
        rw [getD_set_ne false (Ne.symm this)]
      rw [List.filter_cons_of_pos (by rw [hl]; rfl), List.filter_cons_of_neg (by simp [hi]), e]
      rfl
    · have hm' : i ∈ r := by
        rcases List.mem_cons.1 hm with h | h
        · exact absurd h.symm c
        · exact h
      have := ih hn'.2 hm'
      have e : (listed.setIfInBounds i true).getD a false = listed.getD a false := getD_set_ne false (Ne.symm c)
      cases hla : listed.getD a false with
      | true => rw [List.filter_cons_of_neg (by rw [hla]; simp), List.filter_cons_of_neg (by rw [e, hla]; simp)]; exact this
      | false => rw [List.filter_cons_of_pos (by rw [hla]; rfl), List.filter_cons_of_pos (by rw [e, hla]; rfl)]; simp only [List.length_cons]; omega
theorem todo_set {q : Nat} {listed : Array Bool} {i : Nat} (hi : i < q) (hs : i < listed.size) (hl : listed.getD i false = false) : todo q listed = todo q (listed.setIfInBounds i true) + 1 :=
  filter_set listed i hs hl _ List.nodup_range (by simpa using hi)

theorem prefix_bar {P : Program} {l : List Oper} {q : Nat} (B : BarOk l q) {C : World → Prop} {Q' : Act → Prop} {Q : Exit → Act → World → Prop} (r : Nat)
    (hK : ∀ (listed : Array Bool) a w, listed.size = l.length → (∀ i, i < l.length → listed.getD i false = decide (i < q)) → C w → Q' a → wpAny P .any l.toArray Q r listed a w) :
    ∀ (n : Nat) (listed L : Array Bool) (a : Act) (w : World), Shut l.toArray listed → (∀ i, q ≤ i → listed.getD i false = false) → todo q listed = n → L.size = q → (∀ i, i < q → L.getD i false = listed.getD i false) → C w →
      wpAnyQ P .any (l.take q).toArray C Q' n L a → wpAny P .any l.toArray Q (n + r) listed a w := by
  intro n
  have hql := B.lt
  induction n with
  | zero =>
    intro listed L a w hs hno ht hL hLe hC h
    rw [Nat.zero_add]
    refine hK listed a w (by simpa using hs.size) (fun i hi => ?_) hC h.2
    by_cases c : i < q
    · rw [todo_zero ht i c]; exact (decide_eq_true c).symm
    · rw [hno i (by omega)]; exact (decide_eq_false c).symm
  | succ n ih =>
    intro listed L a w hs hno ht hL hLe hC h
    have hsz : listed.size = l.length := by simpa using hs.size
    have hsome : ∃ i, i < q ∧ listed.getD i false = false := by
      unfold todo at ht
      cases hf : (List.range q).filter fun i => !listed.getD i false with
      | nil => rw [hf] at ht; simp at ht
      | cons x y =>
        have : x ∈ (List.range q).filter fun i => !listed.getD i false := by rw [hf]; simp
        rw [List.mem_filter] at this
        exact ⟨x, by simpa using this.1, by simpa using this.2⟩
    obtain ⟨j0, hj0, hl0⟩ := hsome
    rw [Nat.succ_add]
    refine ⟨fun h0 => ?_, fun i hi => ?_⟩
    · exfalso
      -- the least that is still to come may come
      have key : ∀ (m j : Nat), j ≤ m → j < q → listed.getD j false = false → Region.ready .any l.toArray listed ≠ [] := by
        intro m
        induction m with
        | zero =>
          intro j hjm hjq hjl hnil
          have hj0 : j = 0 := by omega
          subst hj0
          have hm : 0 ∈ Region.ready .any l.toArray listed := by
            refine mem_ready.2 ⟨by rw [getD_flip (by rw [hsz]; omega) true false]; exact hjl, l[0]'(by omega), by simp, fun e he hb => ?_⟩
            have := B.back 0 _ (List.getElem?_eq_getElem (by omega)) e he hb
            omega
          rw [hnil] at hm; cases hm
        | succ m ihm =>
          intro j hjm hjq hjl hnil
          by_cases hall : ∃ k, k < j ∧ listed.getD k false = false
          · obtain ⟨k, hk, hkl⟩ := hall
            exact ihm k (by omega) (by omega) hkl hnil
          · have hm : j ∈ Region.ready .any l.toArray listed := by
              refine mem_ready.2 ⟨by rw [getD_flip (by rw [hsz]; omega) true false]; exact hjl, l[j]'(by omega), by simp, fun e he hb => ?_⟩
              have := B.back j _ (List.getElem?_eq_getElem (by omega)) e he hb
              cases hx : listed.getD e.on false with
              | true => rfl
              | false => exact absurd ⟨e.on, this, hx⟩ hall
            rw [hnil] at hm; cases hm
      exact key j0 j0 (Nat.le_refl _) hj0 hl0 h0
    · obtain ⟨hil, o, ho, hd⟩ := mem_ready.1 hi
      have hilen : i < l.length := by
        rcases Nat.lt_or_ge i l.length with h | h
        · exact h
        · simp [List.getElem?_eq_none h] at ho
      have hol : l[i]? = some o := by simpa using ho
      have hil' : listed.getD i false = false := by rw [getD_flip (by rw [hsz]; exact hilen) false true]; exact hil
      have hiq : i < q := by
        rcases Nat.lt_trichotomy i q with c | c | c
        · exact c
        · exfalso
          subst c
          have := B.ahead hs (fun o' ho' e he hb => by rw [hol] at ho'; cases ho'; exact hd e he hb) i j0 (by omega) hj0
          rw [hl0] at this; cases this
        · exfalso
          have := B.behind hs i i (Nat.le_refl _) hilen c (fun o' ho' e he hb => by rw [hol] at ho'; cases ho'; exact hd e he hb)
          rw [hno q (Nat.le_refl _)] at this; cases this
      have hop : (l.take q).toArray[i]? = some o := by simp [hiq, hol]
      have hir : i ∈ Region.ready .any (l.take q).toArray L := by
        refine mem_ready.2 ⟨?_, o, hop, fun e he hb => ?_⟩
        · rw [getD_flip (by rw [hL]; exact hiq) true false, hLe i hiq]; exact hil'
        · have := B.back i o hol e he hb
          rw [hLe _ (by omega)]; exact hd e he hb
      have hq := h.2 i hir
      have hwp := wpOp_of_qOp (Q' := Q) (K' := fun a' w' => wpAny P .any l.toArray Q (n + r) (listed.setIfInBounds i true) a' w') hC (fun a' w' hC' hK' => ih (listed.setIfInBounds i true) (L.setIfInBounds i true) a' w' ⟨by simpa using hs.size, ?_⟩ ?_ ?_ (by simpa using hL) ?_ hC' hK') hq
      · unfold wpOp at hwp ⊢
        simp only [hop] at hwp
        simp only [ho]
        rw [wanted_take o a.tmps (fun g hg => B.guard i o hiq hol g hg)] at hwp
        exact hwp
      · intro k ok hk hkl e he hb
        by_cases hki : k = i
        · subst hki
          rw [ho] at hk; cases hk
          exact getD_set_true (hd e he hb)
        · rw [getD_set_ne false (Ne.symm hki)] at hkl
          exact getD_set_true (hs.deps k ok hk hkl e he hb)
      · intro k hk
        rw [getD_set_ne false (by omega)]; exact hno k hk
      · have := todo_set hiq (by rw [hsz]; exact hilen) hil'
        omega
      · intro k hk
        by_cases hki : k = i
        · subst hki
          simp [hL, hsz, hk, hilen]
        · rw [getD_set_ne false (Ne.symm hki), getD_set_ne false (Ne.symm hki)]; exact hLe k hk

/-- The region's law. -/
theorem wp_region_bar {P : Program} {id : Nat} {Q : Exit → Act → World → Prop} {a : Act} {w : World} {l : List Oper} (q : Nat) (o : Oper) (hm : P.follows .mixedOrders = true) (ho : l[q]? = some o) (hok : barOk l q = true) (G : Value → World → Prop)
    (h : wpQuiet P (l.take q).toArray (fun w' => ∃ x : Past w, w' = x.1) (fun a' => ∀ x : Past w, Region.wanted o (yielded l.toArray a'.tmps) = true ∧ gives P G ((execOp a'.eval o).run P x.1) ∧
      ∀ v w'', G v w'' → wpQuiet P l.toArray (fun w' => ∃ y : Past w'', w' = y.1) (fun a3 => ∀ w3, (∃ y : Past w'', w3 = y.1) → Q .normal a3 w3) (l.drop (q + 1)) (a'.put o.dst v)) (l.take q) a) : (Code.region id l.toArray true).wp P Q a w := by
  have B := barOk_spec hok
  have hql := B.lt
  refine wp_region_any hm ?_
  have hfuel : l.toArray.size = q + (l.length - q) := by simp; omega
  rw [hfuel]
  have hun : ∀ (n j : Nat), (Array.replicate n false).getD j false = false := fun n j => by
    simp only [Array.getD_eq_getD_getElem?, Array.getElem?_replicate]; split <;> rfl
  have hlexP := B.lexP
  simp only [Region.lexB, Bool.and_eq_true] at hlexP
  have hq0 := wpAnyQ_lex (P := P) (C := fun w' => ∃ x : Past w, w' = x.1) (md := .any) hlexP.1 (l.take q) 0 (Array.replicate (l.take q).toArray.size false) a (by simp) (by simpa using hlexP.2) h
  have hlen : (l.take q).length = q := by rw [List.length_take]; omega
  rw [hlen] at hq0
  refine prefix_bar B (l.length - q) ?_ q (Array.replicate (q + (l.length - q)) false) (Array.replicate (l.take q).toArray.size false) a _ ⟨by simp; omega, fun i oi _ hli => by rw [hun] at hli; cases hli⟩ (fun i _ => hun _ _) ?_ (by simp; omega) (fun i _ => by rw [hun, hun]) ⟨⟨_, (Below.refl _ _).drew⟩, rfl⟩ hq0
  · intro listed a' w' hsz hcan ⟨x, hx⟩ hQ'
    subst hx
    obtain ⟨hw, hg, hrest⟩ := hQ' x
    obtain ⟨r, hr⟩ : ∃ r, l.length - q = r + 1 := ⟨l.length - q - 1, by omega⟩
    rw [hr]
    have hs : Shut l.toArray listed := ⟨by simpa using hsz, fun i oi hi hli e he hb => by
      have hil : i < l.length := by
        rcases Nat.lt_or_ge i l.length with h | h
        · exact h
        · simp [List.getElem?_eq_none h] at hi
      rw [hcan i hil] at hli
      have := B.back i oi (by simpa using hi) e he hb
      have h1 := of_decide_eq_true hli
      rw [hcan e.on (by omega)]; exact decide_eq_true (by omega)⟩
    have hqr : q ∈ Region.ready .any l.toArray listed := by
      refine mem_ready.2 ⟨by rw [getD_flip (by rw [hsz]; exact hql) true false, hcan q hql]; simp, o, by simpa using ho, fun e he hb => ?_⟩
      have := B.back q o ho e he hb
      rw [hcan e.on (by omega)]; exact decide_eq_true this
    refine ⟨fun h0 => (by rw [h0] at hqr; cases hqr), fun i hi => ?_⟩
    obtain ⟨hil, oi, hoi, hd⟩ := mem_ready.1 hi
    have hilen : i < l.length := by
      rcases Nat.lt_or_ge i l.length with h | h
      · exact h
      · simp [List.getElem?_eq_none h] at hoi
    have hil' : listed.getD i false = false := by rw [getD_flip (by rw [hsz]; exact hilen) false true]; exact hil
    have hiq : i = q := by
      rcases Nat.lt_trichotomy i q with c | c | c
      · rw [hcan i hilen, decide_eq_true c] at hil'; cases hil'
      · exact c
      · exfalso
        have := B.behind hs i i (Nat.le_refl _) hilen c (fun o' ho' e he hb => by
          have : l[i]? = some oi := by simpa using hoi
          rw [this] at ho'; cases ho'; exact hd e he hb)
        rw [hcan q hql] at this; simp at this
    subst hiq
    have hoo : oi = o := by
      have : l[i]? = some oi := by simpa using hoi
      rw [this] at ho; cases ho; rfl
    subst hoo
    have hcanon : listed.setIfInBounds i true = Array.replicate (i + 1) true ++ Array.replicate (l.length - (i + 1)) false := by
      apply Array.ext_getElem?
      intro k
      rw [Array.getElem?_setIfInBounds, Array.getElem?_append, Array.getElem?_replicate, Array.getElem?_replicate]
      simp only [Array.size_replicate]
      have hget : k < l.length → listed[k]? = some (decide (k < i)) := fun hk => by
        have := hcan k hk
        rw [Array.getD_eq_getD_getElem?, Array.getElem?_eq_getElem (by omega)] at this
        rw [Array.getElem?_eq_getElem (by omega)]; simpa using this
      by_cases c1 : i = k
      · subst c1
        rw [if_pos rfl, if_pos (by omega), if_pos (by omega), if_pos (by omega)]
      · rw [if_neg c1]
        by_cases c2 : k < i + 1
        · rw [if_pos c2, if_pos c2, hget (by omega)]
          congr 1; exact decide_eq_true (by omega)
        · rw [if_neg c2]
          by_cases c3 : k < l.length
          · rw [hget c3, if_pos (by omega)]
            congr 1; exact decide_eq_false (by omega)
          · rw [if_neg (by omega), Array.getElem?_eq_none (by omega)]
    unfold wpOp
    simp only [hoi]
    rw [if_pos hw]
    refine .inl ?_
    unfold Oper.wp
    refine upon_of_gives hg fun v w'' hv => ?_
    have hsuf := hrest v w'' hv
    rw [hcanon]
    have hdl : (l.drop (i + 1)).length = r := by rw [List.length_drop]; omega
    have hq2 := wpAnyQ_lex (P := P) (C := fun w' => ∃ y : Past w'', w' = y.1) (md := .any) B.sel (l.drop (i + 1)) (i + 1) (Array.replicate (i + 1) true ++ Array.replicate (l.length - (i + 1)) false) _ (fun j => by simp [List.getElem?_drop]) B.lexS hsuf
    rw [hdl] at hq2
    exact wpAny_of_quiet (C := fun w' => ∃ y : Past w'', w' = y.1) (fun a3 w3 hw3 h3 => h3 w3 hw3) r _ _ _ ⟨⟨_, Below.refl _ _⟩, rfl⟩ hq2
  · unfold todo
    rw [List.filter_eq_self.2 (fun i _ => by rw [hun]; rfl), List.length_range]
end Go.Proofs.Ytlhokgcamcaonaa

namespace Go.Proofs.Ytlhokgcamcaonaa
open Go.ChangeShapes Go.WideShapes Go.ChangeAt Go.RowKit
attribute [local irreducible] Go.Calls

set_option maxRecDepth 100000 in
set_option maxHeartbeats 4000000 in
theorem pmay_c (l : List Sg) (a : Option Addr) (cap : Nat) (w : World) (hl : l.length ≤ 1099511627776) (hA : ArgS w a l) :
    Calls Try.prog 50 #[.slice a l.length cap] w fun e w' => e = .returned (.bool (mayB l)) ∧ Below w.heap.size w w' := by
  have HA := hidE hA; clear hA
  go_enter Try.func50, Try.ntmps50
  go_wp2_with fail
  ((with_reducible refine (changing_c _).mono ?_); rintro e w1 ⟨rfl, rfl⟩)
  have hb0 : Below w.heap.size w (w.alloc (.cells #[.int .i64 0, .int .i64 0] 29)) := by (repeat (first | exact Below.refl _ _ | assumption | refine balloc ?_ _ | refine below_drewN ?_ _ | refine bstep (by assumption) ?_ | refine bstep (Past.prop _) ?_ | refine Below.setCell ?_ (by first | exact Nat.le_refl _ | (simp; done) | (simp; omega)) _))
  have B0 : Blk (w.alloc (.cells #[.int .i64 0, .int .i64 0] 29)) w.heap.size #[.int .i64 0, .int .i64 0] 29 := Blk.made _ _ _
  have HB0 := hidE hb0; have HBL := hidE B0
  clear hb0 B0
  obtain ⟨p, hp⟩ : ∃ p, p = w.heap.size := ⟨_, rfl⟩
  have HP := hidE hp
  rw [← hp] at HBL ⊢
  generalize w.alloc (.cells #[.int .i64 0, .int .i64 0] 29) = w1 at *
  have hpw : w.heap.size ≤ p := by omega
  clear hp
  go_wp2_with fail
  go_loopg [9, 4, 5] l.length (fun g vi _ _ wr => ∃ k : Nat, k ≤ l.length ∧ l.length - k ≤ g ∧ vi = .int .i64 k ∧ (∀ i, i < k → okAt (0, 0) l i = true) ∧ Below w.heap.size w wr ∧ Blk wr p #[.int .i64 (prevV l k).1, .int .i64 (prevV l k).2] 29)
  case atStart => exact ⟨0, Nat.zero_le _, by omega, rfl, fun i hi => by omega, HB0.out, HBL.out⟩
  case round =>
    clear HB0 HBL
    obtain ⟨k, hk, hg, rfl, hs, hb, hB⟩ := hrel
    have HS := hidE hs; have HB := hidE hb; have HBP := hidE hB; clear hs hb hB
    by_cases hlt : k < l.length
    · obtain ⟨b, off, rfl, hbb, hc⟩ := (HA.out.past HB.out) (by omega)
      have hbw : b < w.heap.size := by
        obtain ⟨b', off', e, hb', _⟩ := HA.out (by omega)
        simp at e; omega
      obtain ⟨c0, c1, c2⟩ := hc.get hlt
      have hpz := HBP.out.lt
      have HV := hidE (fun w => valid_c (l.getD k (0, 0, 0)) w)
      change Hid (∀ w, Calls _ _ #[S (ats l k) (vls l k).1 (vls l k).2] _ _) at HV
      have HPS := hidE (prevV_succ l k)
      obtain ⟨wo, rfl⟩ : ∃ wo : World, wo = wr := ⟨_, rfl⟩
      cases hok : okS (l.getD k (0, 0, 0))
      · have HX := hidE (mayB_bad hlt (show okAt (0, 0) l k = false by unfold okAt; rw [hok]; rfl))
        rw [hok] at HV
        clear hc
        generalize ats l k = u at *
        generalize vls l k = v at *
        go_wp2_with fail
        refine wp_region_past_lit (by kernel_rfl) (by kernel_rfl) ?_
        have hcp := Past.cell (W := wo.alloc (.cells #[.int .i64 u, .int .i64 v.1, .int .i64 v.2] 52))
        repeat (go_big_quiet_step ((go_at_call 59; exact Past.call _ (HV.out _))))
        refine wpQuiet_nil ?_
        rintro _ ⟨x', rfl⟩
        have o1 : Below w.heap.size w x'.1 := by have := HB.out; (repeat (first | exact Below.refl _ _ | assumption | refine balloc ?_ _ | refine below_drewN ?_ _ | refine bstep (by assumption) ?_ | refine bstep (Past.prop _) ?_ | refine Below.setCell ?_ (by first | exact Nat.le_refl _ | (simp; done) | (simp; omega)) _))
        clear hcp
        generalize x'.1 = w5 at *
        go_wp2
        go_ret
        exact ⟨ret_bool (by rw [HX.out]), o1⟩
      · rw [hok] at HV
        have HOK := hidE hok
        have HPV := hidE (show okAt (0, 0) l k = (!(vls l k == prevV l k) && (decide (k = 0) || decide (ats l (k - 1) < ats l k))) by unfold okAt; rw [HOK.out, Bool.true_and]; rfl)
        have HQ : Blk (wo.alloc (.cells #[.int .i64 (ats l k), .int .i64 (vls l k).1, .int .i64 (vls l k).2] 52)) wo.heap.size #[.int .i64 (ats l k), .int .i64 (vls l k).1, .int .i64 (vls l k).2] 52 := Blk.made _ _ _
        have hqp : wo.heap.size ≠ p := by omega
        have HPA : Blk (wo.alloc (.cells #[.int .i64 (ats l k), .int .i64 (vls l k).1, .int .i64 (vls l k).2] 52)) p #[.int .i64 (prevV l k).1, .int .i64 (prevV l k).2] 29 := HBP.out.alloc _
        have HBA : Below w.heap.size w (wo.alloc (.cells #[.int .i64 (ats l k), .int .i64 (vls l k).1, .int .i64 (vls l k).2] 52)) := by have := HB.out; (repeat (first | exact Below.refl _ _ | assumption | refine balloc ?_ _ | refine below_drewN ?_ _ | refine bstep (by assumption) ?_ | refine bstep (Past.prop _) ?_ | refine Below.setCell ?_ (by first | exact Nat.le_refl _ | (simp; done) | (simp; omega)) _))
        have hqz := HQ.lt; have hpz2 := HPA.lt
        have HHQ := hidE HQ; have HHP := hidE HPA; have HHB := hidE HBA
        have hbA : b < (wo.alloc (.cells #[.int .i64 (ats l k), .int .i64 (vls l k).1, .int .i64 (vls l k).2] 52)).heap.size := by simp; omega
        have HCS := hidE (show CellsS (wo.alloc (.cells #[.int .i64 (ats l k), .int .i64 (vls l k).1, .int .i64 (vls l k).2] 52)) b off l from hc.below ((Below.refl _ _).alloc (Nat.le_refl _) _) hbb)
        have hbp : b ≠ p := by omega
        clear hc HQ HPA HBA HBP HB
        go_wp2_with fail
        clear c0 c1 c2
        generalize wo.heap.size = q at *
        generalize hWA : wo.alloc (.cells #[.int .i64 (ats l k), .int .i64 (vls l k).1, .int .i64 (vls l k).2] 52) = WA at *
        have q0 := HHQ.out.cell 0; have q1 := HHQ.out.cell 1; have q2 := HHQ.out.cell 2
        simp at q0 q1 q2
        clear hWA
        refine wp_region_bar 7 _ (by kernel_rfl) rfl (by kernel_rfl) (fun v w'' => v = .bool (!((vls l k) == (prevV l k))) ∧ Blk w'' p #[.int .i64 (vls l k).1, .int .i64 (vls l k).2] 29 ∧ WA.grownBy w'' (some p)) ?_
        simp only [List.take_succ_cons, List.take_zero, List.drop_succ_cons, List.drop_zero]
        have hcp := Past.cell (W := WA)
        repeat (go_big_quiet_step ((go_at_call 59; exact Past.call _ (HV.out _))))
        refine wpQuiet_nil ?_
        intro x
        refine ⟨rfl, ?_, ?_⟩
        · simp [go_sem, gives]
          exact (chg_c p (prevV l k).1 (prevV l k).2 (vls l k).1 (vls l k).2 _ (HHP.out.past x.2)).mono fun e w'' ⟨he, h1, h2⟩ => ⟨_, he, rfl, h1, grown_trans (grown_any x.2) h2⟩
        · rintro v w'' ⟨rfl, hBn, hg⟩
          have hbn : Below w.heap.size w w'' := HHB.out.grown hg (by have := HHB.out.size; omega) (fun k hk => by simp at hk; omega)
          have HG := hidE hbn; have HBN := hidE hBn
          have hq'' : Blk w'' q #[.int .i64 (ats l k), .int .i64 (vls l k).1, .int .i64 (vls l k).2] 52 := HHQ.out.grown hg (by intro e; simp at e; omega)
          have n0 := hq''.cell 0
          simp at n0
          have hqz'' := hq''.lt
          have hraw : CellsS w'' b off l := fun i hi => by
            obtain ⟨h1, h2, h3⟩ := HCS.out i hi
            have hblk := hg.block b hbA (by intro e; simp at e; omega)
            exact ⟨(World.cell?_of_block (w := WA) (a := ⟨b, _, none⟩) hblk).trans h1, (World.cell?_of_block (w := WA) (a := ⟨b, _, none⟩) hblk).trans h2, (World.cell?_of_block (w := WA) (a := ⟨b, _, none⟩) hblk).trans h3⟩
          have hbz'' : b < w''.heap.size := Nat.lt_of_lt_of_le hbA hg.size
          have HRAW := hidE hraw
          clear hbn hBn hq'' hg q0 q1 q2 hraw
          simp only [Act.put, List.setIfInBounds_toArray, List.set_cons_succ, List.set_cons_zero]
          cases hr : (!(vls l k == prevV l k))
          · have HX := hidE (mayB_bad hlt (show okAt (0, 0) l k = false by rw [HPV.out, hr]; rfl))
            clear hcp
            have hcq := Past.cell (W := w'')
            repeat (go_big_quiet_step (fail))
            refine wpQuiet_nil ?_
            rintro _ ⟨y, rfl⟩
            have o1 : Below w.heap.size w y.1 := bstep y.2 HG.out
            clear hcq
            generalize y.1 = w5 at *
            go_wp2
            go_ret
            exact ⟨ret_bool (by rw [HX.out]), o1⟩
          · have HR := hidE (show okAt (0, 0) l k = (decide (k = 0) || decide (ats l (k - 1) < ats l k)) by rw [HPV.out, hr, Bool.true_and])
            clear hr
            by_cases hk0 : k = 0
            · have HX := hidE (show ∀ i, i < k + 1 → okAt (0, 0) l i = true from fun i hi => by
                by_cases e : i = k
                · rw [e, HR.out, decide_eq_true hk0]; rfl
                · exact HS.out i (by omega))
              have hd : decide ((0 : Int) < (k : Int)) = false := decide_eq_false (by omega)
              clear hcp
              have hcq := Past.cell (W := w'')
              repeat (go_big_quiet_step (fail))
              refine wpQuiet_nil ?_
              rintro _ ⟨y, rfl⟩
              have o1 : Below w.heap.size w y.1 := bstep y.2 HG.out
              have o2 := HBN.out.past y.2
              clear hcq
              generalize y.1 = w5 at *
              go_wp2
              go_roundg (l.length - (k + 1))
              case measure => omega
              case rel => exact ⟨k + 1, by omega, Nat.le_refl _, by go_num, HX.out, o1, by rw [HPS.out]; exact o2⟩
            · obtain ⟨j, rfl⟩ : ∃ j, k = j + 1 := ⟨k - 1, by omega⟩
              have hd : decide ((0 : Int) < (j : Int) + 1) = true := decide_eq_true (by omega)
              obtain ⟨m0, m1, m2⟩ := HRAW.out.get (i := j) (by omega)
              clear m1 m2
              by_cases hle : ats l (j + 1) ≤ ats l j
              · have HX := hidE (mayB_bad hlt (show okAt (0, 0) l (j + 1) = false by
                  rw [HR.out, Nat.add_sub_cancel, decide_eq_false hk0, decide_eq_false (by omega)]; rfl))
                have hd2 : decide (ats l (j + 1) ≤ ats l j) = true := decide_eq_true hle
                clear hcp
                have hcq := Past.cell (W := w'')
                repeat (go_big_quiet_step (fail))
                refine wpQuiet_nil ?_
                rintro _ ⟨y, rfl⟩
                have o1 : Below w.heap.size w y.1 := bstep y.2 HG.out
                clear hcq
                generalize y.1 = w5 at *
                go_wp2
                go_ret
                exact ⟨ret_bool (by rw [HX.out]), o1⟩
              · have HX := hidE (show ∀ i, i < j + 1 + 1 → okAt (0, 0) l i = true from fun i hi => by
                  by_cases e : i = j + 1
                  · rw [e, HR.out, Nat.add_sub_cancel, decide_eq_true (show ats l j < ats l (j + 1) by omega), Bool.or_true]
                  · exact HS.out i (by omega))
                have hd2 : decide (ats l (j + 1) ≤ ats l j) = false := decide_eq_false hle
                clear hcp
                have hcq := Past.cell (W := w'')
                repeat (go_big_quiet_step (fail))
                refine wpQuiet_nil ?_
                rintro _ ⟨y, rfl⟩
                have o1 : Below w.heap.size w y.1 := bstep y.2 HG.out
                have o2 := HBN.out.past y.2
                clear hcq
                generalize y.1 = w5 at *
                go_wp2
                go_roundg (l.length - (j + 1 + 1))
                case measure => omega
                case rel => exact ⟨j + 1 + 1, by omega, Nat.le_refl _, by go_num, HX.out, o1, by rw [HPS.out]; exact o2⟩
    · have hk' : k = l.length := by omega
      subst hk'
      have HX := hidE (mayB_good HS.out)
      go_wp2
      go_ret
      exact ⟨ret_bool (by rw [HX.out]), HB.out⟩
end Go.Proofs.Ytlhokgcamcaonaa

namespace Go.Proofs.Ytlhokgcamcaonaa
open Go.ChangeShapes Go.WideShapes Go.ChangeAt Go.RowKit
attribute [local irreducible] Go.Calls

theorem all_no {L : List (List Sg)} {i : Nat} (hi : i < L.length) (h : mayB (L.getD i []) = false) : L.all mayB = false := by
  rw [getD_get _ _ _ hi] at h
  rw [List.all_eq_false]
  exact ⟨_, List.getElem_mem hi, by rw [h]; exact Bool.false_ne_true⟩
theorem all_yes {L : List (List Sg)} (h : ∀ i, i < L.length → mayB (L.getD i []) = true) : L.all mayB = true := by
  rw [List.all_eq_true]
  intro x hx
  obtain ⟨i, hi, rfl⟩ := List.getElem_of_mem hx
  have := h i hi
  rw [getD_get _ _ _ hi] at this; exact this

set_option maxRecDepth 100000 in
set_option maxHeartbeats 1000000 in
theorem canon_c (L : List (List Sg)) (a : Option Addr) (cap : Nat) (w : World) (hn : L.length ≤ 999999990) (hl : lenR L ≤ 999999990) (hA : ArgR w a L) :
    Calls Try.prog 46 #[.slice a L.length cap] w fun e w' => e = .returned (.bool (L.all mayB)) ∧ Below w.heap.size w w' := by
  have HA := hidE hA; clear hA
  go_enter Try.func46, Try.ntmps46
  go_wp2
  go_loopg [7, 4] L.length (fun gh vi _ wr => ∃ n : Nat, vi = .int .i64 n ∧ n ≤ L.length ∧ L.length - n ≤ gh ∧ (∀ i, i < n → mayB (L.getD i []) = true) ∧ Below w.heap.size w wr)
  case atStart => exact ⟨0, rfl, by omega, by omega, fun i hi => by omega, Below.refl _ _⟩
  case round =>
    obtain ⟨n, rfl, hnl, hg, hs, hbr⟩ := hrel
    have HS := hidE hs; have HBR := hidE hbr
    clear hs
    by_cases hlt : n < L.length
    · obtain ⟨b, off, rfl, hb, hc⟩ := (HA.out.past hbr) (by omega)
      obtain ⟨ai, ci, d0, hAi⟩ := hc n hlt
      have HAI := hidE hAi
      have hln := lenR_get hlt
      have HV := hidE (fun w hA => pmay_c (L.getD n []) ai ci w (by omega) hA)
      have HF := hidE (fun h => all_no hlt h)
      have HNS := hidE (fun (he : mayB (L.getD n []) = true) => show ∀ i, i < n + 1 → mayB (L.getD i []) = true from fun i hi => by
        by_cases e : i = n
        · rw [e]; exact he
        · exact HS.out i (by omega))
      clear hc hAi hbr
      generalize L.getD n [] = G at *
      cases hm : mayB G
      · have HD := hidE (HF.out hm)
        rw [hm] at HV
        clear HNS HF hm
        go_wp2_with fail
        ((with_reducible refine (HV.out _ HAI.out).mono ?_); rintro e w1 ⟨rfl, hb1⟩)
        go_wp2
        go_ret
        rw [HD.out]
        exact ⟨rfl, bstep hb1 HBR.out⟩
      · have HN := hidE (HNS.out hm)
        rw [hm] at HV
        clear HNS HF hm
        go_wp2_with fail
        ((with_reducible refine (HV.out _ HAI.out).mono ?_); rintro e w1 ⟨rfl, hb1⟩)
        have o1 := bstep hb1 HBR.out
        clear hb1 d0
        go_wp2
        go_roundg (L.length - (n + 1))
        case measure => omega
        case rel => exact ⟨n + 1, by go_num, by omega, Nat.le_refl _, HN.out, o1⟩
    · have hn' : n = L.length := by omega
      subst hn'
      have HE := hidE (all_yes HS.out)
      go_wp2
      go_ret
      rw [HE.out]
      exact ⟨rfl, HBR.out⟩

end Go.Proofs.Ytlhokgcamcaonaa

namespace Go.Proofs.Ytlhokgcamcaonaa
open Go.ChangeShapes Go.WideShapes Go.ChangeAt Go.RowKit
attribute [local irreducible] Go.Calls

theorem of_ok {l F : List Sg} {a : Option Addr} {cap : Nat} {w : World} (hl : l.length ≤ 1099511627776) (hA : ArgS w a l) (ho : l.all okS = true) (hF : IsOf l F) :
    Calls Try.prog 45 #[.slice a l.length cap] w (OfIs w F 0) :=
  (of_c l a cap w hl hA).mono fun e w' ⟨v, f, er, h1, h2, h3, h4⟩ => by
    rcases h3 with ⟨_, rfl, h5⟩ | ⟨h5, _⟩
    · exact ⟨v, h1, by rw [hF.unique h5]; exact h2, h4⟩
    · rw [ho] at h5; cases h5
theorem of_bad {l : List Sg} {a : Option Addr} {cap : Nat} {w : World} (hl : l.length ≤ 1099511627776) (hA : ArgS w a l) (ho : l.all okS = false) :
    Calls Try.prog 45 #[.slice a l.length cap] w (OfIs w [] 10) :=
  (of_c l a cap w hl hA).mono fun e w' ⟨v, f, er, h1, h2, h3, h4⟩ => by
    rcases h3 with ⟨h5, _⟩ | ⟨_, rfl, rfl⟩
    · rw [ho] at h5; cases h5
    · exact ⟨v, h1, h2, h4⟩

theorem box_c (x y m c : Int) (w : World) : Calls Try.prog 28 #[.int .i64 x, .int .i64 y, V m c] w (OfIs w (boxS x y (m, c)).1 (boxS x y (m, c)).2) := by
  by_cases hxy : y < x
  · have HE := hidE (show boxS x y (m, c) = ([], 2) by unfold boxS; rw [if_pos hxy])
    rw [HE.out]
    go_enter Try.func28, Try.ntmps28
    go_wp2
    go_ret2
    exact ⟨_, rfl, sliS_nil _, by (repeat (first | exact Below.refl _ _ | assumption | refine balloc ?_ _ | refine below_drewN ?_ _ | refine bstep (by assumption) ?_ | refine bstep (Past.prop _) ?_ | refine Below.setCell ?_ (by first | exact Nat.le_refl _ | (simp; done) | (simp; omega)) _))⟩
  · have hz : ¬ y < x := hxy
    have HK : ∀ w1 p, Blk w1 p #[.int .i64 x, .int .i64 m, .int .i64 c, .int .i64 y, .int .i64 0, .int .i64 0] 52 → Calls Try.prog 45 #[.slice (some ⟨p, 0, none⟩) 2 2] w1 (OfIs w1 (boxS x y (m, c)).1 (boxS x y (m, c)).2) := by
      intro w1 p hB
      unfold boxS
      rw [if_neg hxy]
      cases ho : (okS (x, (m, c)) && okS (y, (0, 0)))
      · exact of_bad (l := [(x, (m, c)), (y, (0, 0))]) (by simp) (argS_blk (t := 52) hB) (by simpa [List.all_cons] using ho)
      · have h2 : okS (x, (m, c)) = true ∧ okS (y, (0, 0)) = true := by simpa using ho
        exact of_ok (l := [(x, (m, c)), (y, (0, 0))]) (by simp) (argS_blk (t := 52) hB) (by simpa [List.all_cons] using ho) (boxL_of (by omega) h2.1 h2.2)
    have HKK := hidE HK; clear HK hxy
    generalize boxS x y (m, c) = g at *
    go_enter Try.func28, Try.ntmps28
    go_wp2_with (go_at_call 45; ((with_reducible refine (HKK.out _ _ (Blk.made_at _ _ _ _ (by simp))).mono ?_); rintro e w1 ⟨v, rfl, hv, hb⟩))
    go_ret2
    exact ⟨_, rfl, hv, by (repeat (first | exact Below.refl _ _ | assumption | refine balloc ?_ _ | refine below_drewN ?_ _ | refine bstep (by assumption) ?_ | refine bstep (Past.prop _) ?_ | refine Below.setCell ?_ (by first | exact Nat.le_refl _ | (simp; done) | (simp; omega)) _))⟩

end Go.Proofs.Ytlhokgcamcaonaa

namespace Go.Proofs.Ytlhokgcamcaonaa
open Go.ChangeShapes Go.WideShapes Go.ChangeAt Go.RowKit
attribute [local irreducible] Go.Calls

end Go.Proofs.Ytlhokgcamcaonaa

namespace Go.Proofs.Ytlhokgcamcaonaa
open Go.ChangeShapes Go.WideShapes Go.ChangeAt Go.RowKit
attribute [local irreducible] Go.Calls

theorem doS_may {k : Int} {F G : List Sg} (h : (doS k F G).2 = 0) : mayB (doS k F G).1 = true := by
  unfold doS at h ⊢
  split
  · rename_i h1; rw [if_pos h1] at h; exact absurd h (by decide)
  · rename_i h1
    rw [if_neg h1] at h
    split
    · rename_i h2
      obtain ⟨a, b⟩ : mayB F = true ∧ mayB G = true := by simpa using h1
      exact mayB_iff.2 (opL_spec (mayB_iff.1 a) (mayB_iff.1 b) h2).1
    · rename_i h2; rw [if_neg h2] at h; exact absurd h (by decide)
/-- A slice of slices, each with its capacity. -/
def ArgQ (w : World) (a : Option Addr) (L : List (List Sg)) : Prop := 0 < L.length → ∃ b off, a = some ⟨b, off, none⟩ ∧ b < w.heap.size ∧ ∀ i, i < L.length → ∃ v, w.cell? ⟨b, off + i, none⟩ = some v ∧ SliS w v (L.getD i [])
theorem ArgQ.past {w w' : World} {a : Option Addr} {L : List (List Sg)} (h : ArgQ w a L) (hb : Below w.heap.size w w') : ArgQ w' a L := fun hl => by
  obtain ⟨b, off, e, h1, h2⟩ := h hl
  refine ⟨b, off, e, Nat.lt_of_lt_of_le h1 hb.size, fun i hi => ?_⟩
  obtain ⟨v, h3, h4⟩ := h2 i hi
  exact ⟨v, (hb.cell (p := ⟨b, _, none⟩) h1).trans h3, h4.past hb⟩
theorem ArgQ.row {w : World} {a : Option Addr} {L : List (List Sg)} (h : ArgQ w a L) : ArgR w a L := fun hl => by
  obtain ⟨b, off, e, h1, h2⟩ := h hl
  refine ⟨b, off, e, h1, fun i hi => ?_⟩
  obtain ⟨v, h3, a', c, rfl, _, _, h4⟩ := h2 i hi
  exact ⟨a', c, h3, h4⟩

set_option maxRecDepth 100000 in
set_option maxHeartbeats 2000000 in
theorem cadd_c (L : List (List Sg)) (a : Option Addr) (cap : Nat) (w : World) (hn : L.length ≤ 999999990) (hl : lenR L ≤ 999999990) (hA : ArgQ w a L) :
    Calls Try.prog 30 #[.slice a L.length cap] w (OfIs w (sumS L).1 (sumS L).2) := by
  have HA := hidE hA
  have HCN := hidE (canon_c L a cap w hn hl hA.row)
  clear hA
  cases hm : L.all mayB
  · have HE := hidE (show sumS L = ([], 5) by unfold sumS; rw [if_neg (by rw [hm]; decide)])
    rw [hm] at HCN
    rw [HE.out]
    go_enter Try.func30, Try.ntmps30
    go_wp2_with fail
    ((with_reducible refine (HCN.out).mono ?_); rintro e w1 ⟨rfl, hb1⟩)
    go_wp2
    go_ret2
    exact ⟨_, rfl, sliS_nil _, hb1⟩
  · have HE := hidE (show sumS L = sumE L by unfold sumS; rw [if_pos hm])
    have HM := hidE (fun i (hi : i < L.length) => show mayB (L.getD i []) = true from by
      rw [getD_get _ _ _ hi]; exact List.all_eq_true.1 hm _ (List.getElem_mem hi))
    rw [hm] at HCN
    rw [HE.out]
    clear hm HE
    go_enter Try.func30, Try.ntmps30
    go_wp2_with fail
    ((with_reducible refine (HCN.out).mono ?_); rintro e w1 ⟨rfl, hb1⟩)
    have HB1 := hidE hb1
    clear hb1 HCN
    go_wp2_with fail
    go_loopg [4, 13, 6, 7] L.length (fun gh vf vi _ _ wr2 => ∃ (n : Nat) (v : Value), v = vf ∧ vi = .int .i64 n ∧ n ≤ L.length ∧ L.length - n ≤ gh ∧ (sumE (L.take n)).2 = 0 ∧ mayB (sumE (L.take n)).1 = true ∧ (sumE (L.take n)).1.length ≤ lenR (L.take n) ∧ SliS wr2 v (sumE (L.take n)).1 ∧ Below w.heap.size w wr2)
    case atStart => exact ⟨0, .slice none 0 0, rfl, rfl, by omega, by omega, rfl, rfl, by simp [sumE], sliS_nil _, HB1.out⟩
    case round =>
      obtain ⟨n, v, rfl, rfl, hnl, hg2, h0, hmay, hlen, hv, hb2⟩ := hrel
      have HB2 := hidE hb2; have H0 := hidE h0
      by_cases hlt : n < L.length
      · obtain ⟨b, off, rfl, hb, hc⟩ := (HA.out.past hb2) (by omega)
        obtain ⟨vi, d0, ai, ci, rfl, hi1, hi2, hAi⟩ := hc n hlt
        obtain ⟨a1, c1, rfl, hv1, hv2, hA1⟩ := hv
        have HST := hidE (sumE_step hlt h0)
        have HBD := hidE (fun h => sumE_bad (L := L) (n := n + 1) h)
        have hls := lenR_step hlt
        have hlt2 := lenR_take L (n + 1)
        have hmi := HM.out n hlt
        have HDL := hidE (doS_len 0 (sumE (L.take n)).1 (L.getD n []))
        have HDE := hidE (fun h => doS_err (k := 0) (F := (sumE (L.take n)).1) (G := L.getD n []) h)
        have HDM := hidE (fun h => doS_may (k := 0) (F := (sumE (L.take n)).1) (G := L.getD n []) h)
        have HDO := hidE (comb_plus (sumE (L.take n)).1 (L.getD n []) a1 ai c1 ci wr hv1 hv2 hi1 hi2 (by omega) hA1 hAi hmay hmi)
        rw [← HST.out] at HDL HDE HDO HDM
        clear hc hAi hA1 hb2 h0 hmay hmi hi1 hi2 hv1 hv2
        generalize (sumE (L.take n)).1 = f at *
        generalize L.getD n [] = G at *
        generalize hqq : sumE (L.take (n + 1)) = q at *
        have HQQ := hidE hqq
        clear hqq
        by_cases hq : q.2 = 0
        · have hd : (q.2 != 0) = false := by rw [bne_eq_false_iff_eq]; exact hq
          have HQ := hidE hq
          have HQM := hidE (HDM.out hq)
          clear hq HBD HDE HDM
          go_wp2_with fail
          ((with_reducible refine (HDO.out).mono ?_); rintro e w3 ⟨v3, rfl, hv3, hb3⟩)
          have o1 := bstep hb3 HB2.out
          clear hb3 d0
          go_wp2
          go_roundg (L.length - (n + 1))
          case measure => omega
          case rel => exact ⟨n + 1, v3, rfl, by go_num, by omega, Nat.le_refl _, by rw [HQQ.out]; exact HQ.out, by rw [HQQ.out]; exact HQM.out, by rw [HQQ.out]; have := HDL.out; omega, by rw [HQQ.out]; exact hv3, o1⟩
        · have hd : (q.2 != 0) = true := bne_iff_ne.2 hq
          have HD := hidE (HBD.out hq)
          have HQ1 := hidE (HDE.out hq)
          clear hq HBD HDE HDM
          go_wp2_with fail
          ((with_reducible refine (HDO.out).mono ?_); rintro e w3 ⟨v3, rfl, hv3, hb3⟩)
          have o1 := bstep hb3 HB2.out
          clear hb3 d0
          go_wp2
          go_ret2
          rw [HD.out, HQ1.out]
          exact ⟨_, rfl, sliS_nil _, o1⟩
      · have hn' : n = L.length := by omega
        subst hn'
        have h0' := H0.out
        rw [List.take_length] at h0' hv
        have HH := hidE h0'; have HV2 := hidE hv
        clear h0' hv h0 H0 hlen hb2 hmay
        go_wp2
        go_ret2
        rw [HH.out]
        exact ⟨_, rfl, HV2.out, HB2.out⟩
end Go.Proofs.Ytlhokgcamcaonaa

namespace Go.Proofs.Ytlhokgcamcaonaa
open Go.ChangeShapes Go.WideShapes Go.ChangeAt Go.RowKit
attribute [local irreducible] Go.Calls

def unitB (m c : Int) : Bool := decide (1 ≤ m) && (decide (m ≤ 1073741824) && (decide (1 ≤ c) && decide (c ≤ 1073741824)))
set_option maxRecDepth 100000 in
theorem isUnit_c (m c : Int) (w : World) : Calls Try.prog 26 #[V m c] w fun e w' => e = .returned (.bool (unitB m c)) ∧ Below w.heap.size w w' := by
  obtain ⟨b1, h1⟩ : ∃ b, decide (1 ≤ m) = b := ⟨_, rfl⟩
  obtain ⟨b2, h2⟩ : ∃ b, decide (m ≤ 1073741824) = b := ⟨_, rfl⟩
  obtain ⟨b3, h3⟩ : ∃ b, decide (1 ≤ c) = b := ⟨_, rfl⟩
  obtain ⟨b4, h4⟩ : ∃ b, decide (c ≤ 1073741824) = b := ⟨_, rfl⟩
  have HU := hidE (show unitB m c = (b1 && (b2 && (b3 && b4))) by unfold unitB; rw [h1, h2, h3, h4])
  rw [HU.out]
  cases b1 with
  | false =>
    go_enter Try.func26, Try.ntmps26
    go_wp2
    go_ret
    exact ⟨rfl, by (repeat (first | exact Below.refl _ _ | assumption | refine balloc ?_ _ | refine below_drewN ?_ _ | refine bstep (by assumption) ?_ | refine bstep (Past.prop _) ?_ | refine Below.setCell ?_ (by first | exact Nat.le_refl _ | (simp; done) | (simp; omega)) _))⟩
  | true =>
    cases b2 with
    | false =>
      go_enter Try.func26, Try.ntmps26
      go_wp2
      go_ret
      exact ⟨rfl, by (repeat (first | exact Below.refl _ _ | assumption | refine balloc ?_ _ | refine below_drewN ?_ _ | refine bstep (by assumption) ?_ | refine bstep (Past.prop _) ?_ | refine Below.setCell ?_ (by first | exact Nat.le_refl _ | (simp; done) | (simp; omega)) _))⟩
    | true =>
      cases b3 with
      | false =>
        go_enter Try.func26, Try.ntmps26
        go_wp2
        go_ret
        exact ⟨rfl, by (repeat (first | exact Below.refl _ _ | assumption | refine balloc ?_ _ | refine below_drewN ?_ _ | refine bstep (by assumption) ?_ | refine bstep (Past.prop _) ?_ | refine Below.setCell ?_ (by first | exact Nat.le_refl _ | (simp; done) | (simp; omega)) _))⟩
      | true =>
        cases b4 with
        | false =>
          go_enter Try.func26, Try.ntmps26
          go_wp2
          go_ret
          exact ⟨rfl, by (repeat (first | exact Below.refl _ _ | assumption | refine balloc ?_ _ | refine below_drewN ?_ _ | refine bstep (by assumption) ?_ | refine bstep (Past.prop _) ?_ | refine Below.setCell ?_ (by first | exact Nat.le_refl _ | (simp; done) | (simp; omega)) _))⟩
        | true =>
          go_enter Try.func26, Try.ntmps26
          go_wp2
          go_ret
          exact ⟨rfl, by (repeat (first | exact Below.refl _ _ | assumption | refine balloc ?_ _ | refine below_drewN ?_ _ | refine bstep (by assumption) ?_ | refine bstep (Past.prop _) ?_ | refine Below.setCell ?_ (by first | exact Nat.le_refl _ | (simp; done) | (simp; omega)) _))⟩
set_option maxRecDepth 100000 in
theorem units_c (n m c : Int) (w : World) (hn : 0 ≤ n ∧ n ≤ 4096) (hm : 1 ≤ m ∧ m ≤ 1073741824) (hc : 1 ≤ c ∧ c ≤ 1073741824) : Calls Try.prog 29 #[.int .i64 n, V m c] w fun e w' => e = .returned (.agg #[.int .i64 (n * m), .int .i64 (n * c)]) ∧ Below w.heap.size w w' := by
  have e1 : 0 ≤ n * m := Int.mul_nonneg hn.1 (by omega)
  have e2 : 0 ≤ n * c := Int.mul_nonneg hn.1 (by omega)
  have e3 : n * m ≤ 4096 * 1073741824 := Int.mul_le_mul hn.2 hm.2 (by omega) (by omega)
  have e4 : n * c ≤ 4096 * 1073741824 := Int.mul_le_mul hn.2 hc.2 (by omega) (by omega)
  have r1 : IntKind.i64.wrap (n * m) = n * m := IntWalk.i64_in _ (by omega)
  have r2 : IntKind.i64.wrap (n * c) = n * c := IntWalk.i64_in _ (by omega)
  have r3 : wrap64 (n * m) = n * m := by unfold wrap64; omega
  have r4 : wrap64 (n * c) = n * c := by unfold wrap64; omega
  clear hn hm hc e1 e2 e3 e4
  go_enter Try.func29, Try.ntmps29
  go_wp2
  refine bodyPost_ret (v := .agg #[.int .i64 (n * m), .int .i64 (n * c)]) (by simp [results, Try.results29, go_sem]) rfl ⟨rfl, by (repeat (first | exact Below.refl _ _ | assumption | refine balloc ?_ _ | refine below_drewN ?_ _ | refine bstep (by assumption) ?_ | refine bstep (Past.prop _) ?_ | refine Below.setCell ?_ (by first | exact Nat.le_refl _ | (simp; done) | (simp; omega)) _))⟩
theorem argQ_twoU {w : World} {p : Nat} {F G : List Sg} {v1 v2 : Value} {t : TypeId} (h : Blk w p #[v1, v2] t) (h1 : SliS w v1 F) (h2 : SliS w v2 G) : ArgQ w (some ⟨p, 0, none⟩) [F, G] := fun _ =>
  ⟨p, 0, rfl, h.lt, fun i hi => by
    simp only [List.length_cons, List.length_nil] at hi
    match i, hi with
    | 0, _ => exact ⟨v1, h.cell 0, h1⟩
    | 1, _ => exact ⟨v2, h.cell 1, h2⟩⟩
theorem cadd_twoU {w : World} {p c : Nat} {v1 v2 : Value} {F G r : List Sg} {er : Int} {t : TypeId} (h : Blk w p #[v1, v2] t) (h1 : SliS w v1 F) (h2 : SliS w v2 G) (hl : F.length + G.length ≤ 100000) (he : sumS [F, G] = (r, er)) :
    Calls Try.prog 30 #[.slice (some ⟨p, 0, none⟩) 2 c] w (OfIs w r er) := by
  have := cadd_c [F, G] (some ⟨p, 0, none⟩) c w (by simp) (by simp [lenR]; omega) (argQ_twoU h h1 h2)
  rw [he] at this; exact this
/-- A slice of runs lies on where a block of one cell is stored into. -/
theorem sliS_put {w : World} {v : Value} {F : List Sg} {b : Nat} {x y : Value} {t : TypeId} (h : SliS w v F) (hb : Blk w b #[x] t) : SliS (w.setCell ⟨b, 0, none⟩ y) v F := by
  obtain ⟨a, cap, e, h1, h2, h3⟩ := h
  refine ⟨a, cap, e, h1, h2, argS_turn h3 (by simp [World.setCell]) fun k i u hu => Below.heap_setCell _ _ _ _ fun e => ?_⟩
  have : k = b := e
  subst this
  exact one_cell hb hu
/-- A pair of a slice of runs and an error. -/
def boxR (F : List Sg) (er : Int) : Value → World → Prop := fun v w => ∃ sv, v = .tuple #[sv, .int .i64 er] ∧ SliS w sv F
theorem stab_box (F : List Sg) (er : Int) : Stab (boxR F er) := fun _ _ _ ⟨sv, e, h⟩ hb => ⟨sv, e, h.past hb⟩
def sliSR (F : List Sg) : Value → World → Prop := fun v w => SliS w v F
theorem stab_sliS (F : List Sg) : Stab (sliSR F) := fun _ _ _ h hb => h.past hb
end Go.Proofs.Ytlhokgcamcaonaa

namespace Go.Proofs.Ytlhokgcamcaonaa
open Go.ChangeShapes Go.WideShapes Go.ChangeAt Go.RowKit
attribute [local irreducible] Go.Calls


set_option maxHeartbeats 40000000 in
set_option maxRecDepth 100000 in
theorem use1_c (l : List Prt) (m c : Int) (W : List Pc) (q : Pc) (x : Prt) (bu bs : Nat) (sv : Value) (w : World) (hU : UseOk l m c (W ++ [q])) (hx : (x.n : Int) = nP l q ∧ x.d = dP l q) (hbu : Blk w bu #[.int .i64 m, .int .i64 c] 29) (hbs : Blk w bs #[sv] 36) (hs : SliS w sv (useL l m c W)) :
    Calls Try.prog 27 #[prtV x, .int .i64 q.2, .pointer (some ⟨bu, 0, none⟩), .pointer (some ⟨bs, 0, none⟩)] w fun e w' => e = .returned (.tuple #[]) ∧ (∃ sv', Blk w' bs #[sv'] 36 ∧ SliS w' sv' (useL l m c (W ++ [q]))) ∧ w.grownBy w' (some bs) := by
  obtain ⟨B, hB, hB2, hsum⟩ := use_step hU
  have hnp := hU.np (p := q) (by simp)
  have htm := hU.times q (by simp)
  have hW : UseOk l m c W := ⟨fun p hp => hU.atoms p (by simp [hp]), hU.parts, fun p hp => hU.times p (by simp [hp]), by have := hU.len; simp at this; omega, hU.mem, hU.cor⟩
  have hul := hW.spec.2.2
  rw [← hx.1, ← hx.2] at hB
  rw [← hx.1, ← hx.2] at hnp
  obtain ⟨U, hUU⟩ : ∃ U, useL l m c W = U := ⟨_, rfl⟩
  rw [hUU] at hs hul hsum
  obtain ⟨asv, csv, rfl, _⟩ := id hs
  obtain ⟨z, tq⟩ := q
  simp only at hB htm
  have HUN := hidE (fun w' => units_c (x.n : Int) m c w' ⟨hnp.1, hnp.2.1⟩ hU.mem hU.cor)
  have HBX := hidE (fun w' => by have := box_c tq (tq + x.d) ((x.n : Int) * m) ((x.n : Int) * c) w'; rw [hB] at this; exact this)
  have HSUM := hidE hsum
  have HBU := hidE hbu; have HBS := hidE hbs; have HS := hidE hs
  have z1 : IntKind.i64.wrap (tq + x.d) = tq + x.d := IntWalk.i64_in _ (by omega)
  have hx1 : x.n ≤ 4096 := by omega
  have z2 : IntKind.i64.wrap (x.n : Int) = (x.n : Int) := IntWalk.i64_in _ (by omega)
  have hd1 := hnp.2.2.1; have hd2 := hnp.2.2.2
  have ht1 := htm.1; have ht2 := htm.2
  obtain ⟨G, hG⟩ : ∃ G, useL l m c (W ++ [(z, tq)]) = G := ⟨_, rfl⟩
  rw [hG] at HSUM
  rw [hG]
  clear hU hx hbu hbs hs hB hsum hW hnp htm hG hUU
  go_enter Try.func27, Try.ntmps27
  go_upto_region 1 with fail
  obtain ⟨w1, hw1⟩ : ∃ w1, w1 = w.alloc (.cells #[.int .u8 x.kind, .int .u32 x.n, .int .u32 x.g, .int .i64 x.d, .int .i64 x.kids] 57) := ⟨_, rfl⟩
  obtain ⟨pb, hpb⟩ : ∃ pb, pb = w.heap.size := ⟨_, rfl⟩
  rw [← hw1, ← hpb]
  have hb1 : Below w.heap.size w w1 := by rw [hw1]; (repeat (first | exact Below.refl _ _ | assumption | refine balloc ?_ _ | refine below_drewN ?_ _ | refine bstep (by assumption) ?_ | refine bstep (Past.prop _) ?_ | refine Below.setCell ?_ (by first | exact Nat.le_refl _ | (simp; done) | (simp; omega)) _))
  have hP : Blk w1 pb #[.int .u8 x.kind, .int .u32 x.n, .int .u32 x.g, .int .i64 x.d, .int .i64 x.kids] 57 := by rw [hw1, hpb]; exact Blk.made _ _ _
  have hu1 := HBU.out.past hb1
  have p1 := hP.cell 1; have p3 := hP.cell 3; have pz := hP.lt; have u0 := hu1.cell 0; have u1 := hu1.cell 1; have uz := hu1.lt
  simp at p1 p3 u0 u1
  have HB1 := hidE hb1; have HBU1 := hidE hu1
  clear hw1 hb1 hP hu1 hpb
  refine wp_region_J 14 [13] (nthR [detR (.int .i64 tq), detR (.int .i64 tq), detR (.pointer (some ⟨pb, 3, none⟩)), detR (.int .i64 x.d), detR (.int .i64 (tq + x.d)), detR (.pointer (some ⟨pb, 1, none⟩)), detR (.int .u32 x.n), detR (.int .i64 x.n), detR (.agg #[.int .i64 m, .int .i64 c]), detR (.agg #[.int .i64 ((x.n : Int) * m), .int .i64 ((x.n : Int) * c)]), boxR B 0, boxR B 0, sliSR B, detR (.int .i64 0)]) (fun _ => false) (by kernel_rfl) (by simp) (by kernel_rfl) (stab_nth (by simp [stab_det, stab_box, stab_sliS])) ?_ ?_ ?_
  · intro i o hi ho
    match i, hi with
    | 0, _ =>
      obtain rfl := Option.some.inj ho
      intro u x hd
      have hc := Past.cell x
      simp [go_sem, gives, frm, Act.put, nthR, detR, Region.wanted, Below.refl]
    | 1, _ =>
      obtain rfl := Option.some.inj ho
      intro u x hd
      have hc := Past.cell x
      simp [go_sem, gives, frm, Act.put, nthR, detR, Region.wanted, Below.refl]
    | 2, _ =>
      obtain rfl := Option.some.inj ho
      intro u x hd
      have hc := Past.cell x
      simp [go_sem, gives, frm, Act.put, nthR, detR, Region.wanted, Below.refl]
    | 3, _ =>
      obtain rfl := Option.some.inj ho
      intro u x hd
      have hc := Past.cell x
      have d2 := hd 2 (by decide) (by kernel_rfl)
      simp only [nthR, detR, List.getD_cons_zero, List.getD_cons_succ] at d2
      simp [go_sem, gives, frm, Act.put, nthR, detR, Region.wanted, Below.refl, hc, d2, p3, pz]
    | 4, _ =>
      obtain rfl := Option.some.inj ho
      intro u x hd
      have hc := Past.cell x
      have d1 := hd 1 (by decide) (by kernel_rfl)
      have d3 := hd 3 (by decide) (by kernel_rfl)
      simp only [nthR, detR, List.getD_cons_zero, List.getD_cons_succ] at d1 d3
      simp [go_sem, gives, frm, Act.put, nthR, detR, Region.wanted, Below.refl, d1, d3, z1]
    | 5, _ =>
      obtain rfl := Option.some.inj ho
      intro u x hd
      have hc := Past.cell x
      simp [go_sem, gives, frm, Act.put, nthR, detR, Region.wanted, Below.refl]
    | 6, _ =>
      obtain rfl := Option.some.inj ho
      intro u x hd
      have hc := Past.cell x
      have d5 := hd 5 (by decide) (by kernel_rfl)
      simp only [nthR, detR, List.getD_cons_zero, List.getD_cons_succ] at d5
      simp [go_sem, gives, frm, Act.put, nthR, detR, Region.wanted, Below.refl, hc, d5, p1, pz]
    | 7, _ =>
      obtain rfl := Option.some.inj ho
      intro u x hd
      have hc := Past.cell x
      have d6 := hd 6 (by decide) (by kernel_rfl)
      simp only [nthR, detR, List.getD_cons_zero, List.getD_cons_succ] at d6
      simp [go_sem, gives, frm, Act.put, nthR, detR, Region.wanted, Below.refl, d6, z2]
    | 8, _ =>
      obtain rfl := Option.some.inj ho
      intro u x hd
      have hc := Past.cell x
      simp [go_sem, gives, frm, Act.put, nthR, detR, Region.wanted, Below.refl, hc, u0, u1, uz]
    | 9, _ =>
      obtain rfl := Option.some.inj ho
      intro u x hd
      have hc := Past.cell x
      have d7 := hd 7 (by decide) (by kernel_rfl)
      have d8 := hd 8 (by decide) (by kernel_rfl)
      simp only [nthR, detR, List.getD_cons_zero, List.getD_cons_succ] at d7 d8
      simp [go_sem, gives, frm, Act.put, nthR, detR, Region.wanted, d7, d8]
      exact HUN.out _
    | 10, _ =>
      obtain rfl := Option.some.inj ho
      intro u x hd
      have hc := Past.cell x
      have d0 := hd 0 (by decide) (by kernel_rfl)
      have d4 := hd 4 (by decide) (by kernel_rfl)
      have d9 := hd 9 (by decide) (by kernel_rfl)
      simp only [nthR, detR, List.getD_cons_zero, List.getD_cons_succ] at d0 d4 d9
      simp [go_sem, gives, frm, Act.put, nthR, Region.wanted, d0, d4, d9]
      (with_reducible refine (HBX.out _).mono ?_); rintro e w3 ⟨v, rfl, hs3, hb3⟩; exact ⟨_, rfl, hb3, ⟨v, rfl, hs3⟩⟩
    | 11, _ =>
      obtain rfl := Option.some.inj ho
      intro u x hd
      have hc := Past.cell x
      have h10 : boxR B 0 (u 10) x.1 := hd 10 (by decide) (by kernel_rfl)
      obtain ⟨sv1, e10, hs1⟩ := h10
      simp [go_sem, gives, frm, Act.put, nthR, Region.wanted, Below.refl, e10]
      exact ⟨sv1, rfl, hs1⟩
    | 12, _ =>
      obtain rfl := Option.some.inj ho
      intro u x hd
      have hc := Past.cell x
      have h11 : boxR B 0 (u 11) x.1 := hd 11 (by decide) (by kernel_rfl)
      have e11 := h11.choose_spec.1; have hs1 := h11.choose_spec.2; generalize h11.choose = sv1 at *
      simp [go_sem, gives, frm, Act.put, nthR, Region.wanted, Below.refl, e11]
      exact hs1
    | 13, _ =>
      obtain rfl := Option.some.inj ho
      intro u x hd
      have hc := Past.cell x
      have h11 : boxR B 0 (u 11) x.1 := hd 11 (by decide) (by kernel_rfl)
      have e11 := h11.choose_spec.1; have hs1 := h11.choose_spec.2; generalize h11.choose = sv1 at *
      simp [go_sem, gives, frm, Act.put, nthR, detR, Region.wanted, Below.refl, e11]
    | i + 14, h => exact absurd h (by omega)
  · intro i o hx ho
    simp only [List.mem_cons, List.not_mem_nil, or_false] at hx
    rcases hx with rfl
    · obtain rfl := Option.some.inj ho
      refine ⟨rfl, fun _ _ _ _ h => h, fun u x hd => ?_⟩
      have h11 : boxR B 0 (u 11) x.1 := hd 11 (by decide) (by kernel_rfl)
      have e11 := h11.choose_spec.1; have hs1 := h11.choose_spec.2; generalize h11.choose = sv1 at *
      refine ⟨rfl, .int .i64 0, rfl, fun w' => ?_⟩
      simp [go_sem, frm, Act.put, e11]
  · intro u x9 hu hne
    have hvb0 : SliS x9.1 (u 12) B := hu 12 (by decide)
    have e13 : u 13 = .int .i64 0 := hu 13 (by decide)
    obtain ⟨vb, e12⟩ : ∃ vb, u 12 = vb := ⟨_, rfl⟩
    rw [e12] at hvb0
    obtain ⟨ab, capb, rfl, hvc⟩ := id hvb0
    have hvb := hvb0
    simp only [frm, List.take, Act.put, e12, e13]
    have hB9 := HB1.out.trans (x9.2.mono HB1.out.size)
    have hS9 := HS.out.past hB9
    have hbs9 := HBS.out.past hB9
    have b0 := hbs9.cell 0; have bz := hbs9.lt
    simp at b0
    have HB9 := hidE hB9; have HS9 := hidE hS9; have HBS9 := hidE hbs9; have HVB := hidE hvb
    clear hu hne e12 e13 hvb0 hvc hvb hB9 hS9 hbs9 p1 p3 pz u0 u1 uz HBU1 HBX HUN
    generalize x9.1 = w9 at *
    go_wp2_with fail
    ((with_reducible refine (cadd_twoU (F := B) (G := U) (Blk.made_at _ _ _ _ (by first | rfl | simp)) (HVB.out.past (show Below w9.heap.size w9 (w9.alloc _) from balloc (Below.refl _ _) _)) (HS9.out.past (show Below w9.heap.size w9 (w9.alloc _) from balloc (Below.refl _ _) _)) (by omega) HSUM.out).mono ?_); rintro e w10 ⟨v10, rfl, hv10, hb10⟩)
    obtain ⟨a9, c9, rfl, _⟩ := id hv10
    have hbb := HB9.out.trans ((show Below w9.heap.size w9 w10 from by (repeat (first | exact Below.refl _ _ | assumption | refine balloc ?_ _ | refine below_drewN ?_ _ | refine bstep (by assumption) ?_ | refine bstep (Past.prop _) ?_ | refine Below.setCell ?_ (by first | exact Nat.le_refl _ | (simp; done) | (simp; omega)) _))).mono HB9.out.size)
    have hbs10 := HBS.out.past hbb
    have b0 := hbs10.cell 0; have bf := hbs10.free 0; have bz := hbs10.lt
    simp at b0
    have HV10 := hidE hv10; have HBB := hidE hbb; have HBS10 := hidE hbs10
    clear hv10 hb10 hbb hbs10 HB9 HS9 HBS9 HVB
    go_wp2
    go_end0
    refine ⟨rfl, ⟨_, ?_, sliS_put HV10.out HBS10.out⟩, grown_trans (grown_any HBB.out) (grown_set _ _ _ _)⟩
    have := HBS10.out.set 0 (.slice a9 G.length c9)
    simpa using this
end Go.Proofs.Ytlhokgcamcaonaa

namespace Go.Proofs.Ytlhokgcamcaonaa

theorem pcs_len {l : List Prt} : ∀ {W : List Pc} {last : Int}, -1 ≤ last → pcsB l last W = true → (W.length : Int) ≤ (l.length : Int) - 1 - last ∨ W = []
  | [], _, _, _ => .inr rfl
  | q :: W, last, hl, h => by
    simp only [pcsB, Bool.and_eq_true, decide_eq_true_eq] at h
    obtain ⟨h1, h2, h3, h4⟩ := h
    rcases pcs_len (last := q.1) (by omega) h4 with e | e
    · left; simp only [List.length_cons]; omega
    · left; subst e; simp only [List.length_cons, List.length_nil]; omega
theorem useOk_of {fr to' m c : Int} {l : List Prt} {W : List Pc} (h : wrongS fr to' l (unitB m c) W = 0) : UseOk l m c W := by
  obtain ⟨h1, h2, h3, h4⟩ := wrong_zero h
  have hck := chk_ok h1
  have hu : (1 ≤ m ∧ m ≤ 1073741824) ∧ 1 ≤ c ∧ c ≤ 1073741824 := by
    unfold unitB at h2
    simp only [Bool.and_eq_true, decide_eq_true_eq] at h2
    exact ⟨⟨h2.1, h2.2.1⟩, h2.2.2.1, h2.2.2.2⟩
  exact {
    atoms := pcs_atoms (by omega) h3
    parts := dOk_tree hck.2.2.1
    times := fun p hp => far_ok h4 p hp
    len := by
      have h64 := hck.2.2.2.2
      rcases pcs_len (by omega) h3 with e | e
      · omega
      · subst e; simp
    mem := hu.1
    cor := hu.2 }
theorem UseOk.take {l : List Prt} {m c : Int} {W : List Pc} (h : UseOk l m c W) (k : Nat) : UseOk l m c (W.take k) :=
  ⟨fun p hp => h.atoms p (List.mem_of_mem_take hp), h.parts, fun p hp => h.times p (List.mem_of_mem_take hp), by have := h.len; rw [List.length_take]; omega, h.mem, h.cor⟩
theorem take_snoc {α : Type} {W : List α} {k : Nat} {q : α} (h : W[k]? = some q) : W.take (k + 1) = W.take k ++ [q] := by rw [List.take_add_one, h]; rfl
theorem useL_nil (l : List Prt) (m c : Int) : useL l m c [] = [] := by
  unfold useL useTs rawTs; rfl
end Go.Proofs.Ytlhokgcamcaonaa

namespace Go.Proofs.Ytlhokgcamcaonaa
open Go.ChangeShapes Go.WideShapes Go.ChangeAt Go.RowKit
attribute [local irreducible] Go.Calls
end Go.Proofs.Ytlhokgcamcaonaa

namespace Go.Proofs.Ytlhokgcamcaonaa

theorem here_at {l : List Prt} {W : List Pc} : ∀ (F : Fst) (o deep ink : Nat), AtF l o F → F.fit deep ink → ∀ z, o ≤ z → z < o + F.size → ∃ t, Here l W (z : Int) t
  | .nil, o, _, _, _, _, z, h1, h2 => by simp only [Fst.size] at h2; omega
  | .cons x K N, o, deep, ink, h, hf, z, h1, h2 => by
    obtain ⟨f1, f2, f3, f4, f5⟩ := hf
    simp only [Fst.size] at h2
    by_cases c : z = o
    · subst c
      exact ⟨_, x, K, deep, ink, z, h.one, ⟨f1, f2, f3, f4, trivial⟩, rfl, rfl⟩
    · by_cases c2 : z < o + 1 + K.size
      · exact here_at K (o + 1) _ _ h.kids f4 z (by omega) (by omega)
      · exact here_at N (o + 1 + K.size) _ _ h.next f5 z (by omega) (by omega)
theorem tree_at {l : List Prt} (h : (treeS l).2 = 0) : ∃ F : Fst, F.len = 1 ∧ AtF l 0 F ∧ F.fit 1 0 ∧ F.size = l.length := by
  obtain ⟨F, h1, h2, rfl, h3, h4⟩ := fit_tree h
  have he : EndsAt F.flat 0 F := ends_fit F F.flat 0 1 0 (fun i _ => by rw [Nat.zero_add]) (by omega) (Nat.le_refl _) h3
  exact ⟨F, h2, ⟨fun i _ => by rw [Nat.zero_add], he⟩, h3, (flat_len F).symm⟩
theorem here_of {l : List Prt} (W : List Pc) (h : (treeS l).2 = 0) {z : Int} (h0 : 0 ≤ z) (h1 : z < (l.length : Int)) : ∃ t, Here l W z t := by
  obtain ⟨F, h2, h3, h4, h5⟩ := tree_at h
  obtain ⟨j, rfl⟩ : ∃ j : Nat, z = (j : Int) := ⟨z.toNat, by omega⟩
  exact here_at F 0 _ _ h3 h4 j (by omega) (by omega)
end Go.Proofs.Ytlhokgcamcaonaa

namespace Go.Proofs.Ytlhokgcamcaonaa

def T10 : List Prt := [⟨1, 0, 0, 0, 2⟩, ⟨0, 2, 1, 10, 0⟩, ⟨3, 0, 0, 0, 2⟩, ⟨0, 4, 2, 5, 0⟩, ⟨0, 1, 1, 20, 0⟩]
def y10 : Prt := ⟨1, 0, 0, 0, 2⟩
def z10 : Prt := ⟨3, 0, 0, 0, 2⟩
def J10 : Fst := .cons ⟨0, 4, 2, 5, 0⟩ .nil (.cons ⟨0, 1, 1, 20, 0⟩ .nil .nil)
def K10 : Fst := .cons ⟨0, 2, 1, 10, 0⟩ .nil (.cons z10 J10 .nil)
theorem fit10 : (Fst.cons y10 K10 .nil).fit 1 0 := by
  unfold K10 J10
  exact ⟨by decide +kernel, (fun h => by cases h), by omega, ⟨by decide +kernel, (fun h => by cases h), by omega, trivial, by decide +kernel, (fun h => by cases h), by omega, ⟨by decide +kernel, (fun _ => rfl), by omega, trivial, by decide +kernel, (fun _ => rfl), by omega, trivial, trivial⟩, trivial⟩, trivial⟩
theorem flat10 : (Fst.cons y10 K10 .nil).flat = T10 := by decide +kernel
theorem at10 : AtF T10 0 (.cons y10 K10 .nil) := by
  rw [← flat10]
  exact ⟨fun i _ => by rw [Nat.zero_add], ends_fit _ _ 0 1 0 (fun i _ => by rw [Nat.zero_add]) (by decide +kernel) (Nat.le_refl _) fit10⟩
theorem here10 (W : List Pc) : Here T10 W 0 (satI W y10 K10 0) := ⟨y10, K10, 1, 0, 0, at10, fit10, rfl, rfl⟩
theorem here10_2 (W : List Pc) : Here T10 W 2 (satI W z10 J10 2) := ⟨z10, J10, 2, 1, 2, (at10.kids.next).one, ⟨fit10.2.2.2.1.2.2.2.2.1, fit10.2.2.2.1.2.2.2.2.2.1, by omega, fit10.2.2.2.1.2.2.2.2.2.2.2.1, trivial⟩, rfl, rfl⟩
def good10 : List Pc := [(1, 0), (3, 10)]
def late10 : List Pc := [(1, 80), (4, 90)]
theorem w10_good : wrongS 0 100 T10 true good10 = 0 := by decide +kernel
theorem w10_late : wrongS 0 100 T10 true late10 = 0 := by decide +kernel
theorem w10_nine : wrongS 0 100 T10 true [(1, 0), (3, 9)] = 0 := by decide +kernel
theorem w10_both : wrongS 0 100 T10 true [(1, 0), (3, 10), (4, 20)] = 0 := by decide +kernel
theorem w10_one : wrongS 0 100 T10 true [(1, 0)] = 0 := by decide +kernel
theorem w10_none : wrongS 0 100 T10 true [] = 0 := by decide +kernel
theorem w10_unit : wrongS 0 100 T10 (unitB 1 0) good10 = 2 := by decide +kernel
theorem w10_use : wrongS 0 100 T10 (unitB 1 2) good10 = 0 := by decide +kernel
theorem w10_group : wrongS 0 100 T10 true [(0, 0)] = 2 := by decide +kernel
theorem s10_good : (satI good10 y10 K10 0).ok = true ∧ seB (satI good10 y10 K10 0).se = 0 ∧ seE (satI good10 y10 K10 0).se = 15 := by decide +kernel
theorem s10_late : (satI late10 y10 K10 0).ok = true ∧ seB (satI late10 y10 K10 0).se = 80 ∧ seE (satI late10 y10 K10 0).se = 110 ∧ (satI late10 y10 K10 0).se.isSome = true := by decide +kernel
theorem s10_nine : (satI [(1, 0), (3, 9)] y10 K10 0).ok = false := by decide +kernel
theorem s10_both : (satI [(1, 0), (3, 10), (4, 20)] y10 K10 0).ok = false := by decide +kernel
theorem s10_one : (satI [(1, 0)] y10 K10 0).ok = false := by decide +kernel
theorem s10_len : (satI [] y10 K10 0).len = 15 ∧ (satI [] z10 J10 2).len = 5 := by decide +kernel
theorem u10 : useL T10 1 2 good10 = [(0, (2, 4)), (10, (4, 8)), (15, (0, 0))] := by decide +kernel
end Go.Proofs.Ytlhokgcamcaonaa
