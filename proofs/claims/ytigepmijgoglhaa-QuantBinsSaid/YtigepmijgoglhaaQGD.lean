/- The contract of rle.Of: the canonical function of raw runs, or an error. No conditions but the list's size. The contract of quant.Quant. No conditions but the list's size, and that the slice's cells read as integers. Slices that read as lists of vectors. No function of the program. No conditions. A row of cells that is appended to by a function value, round by round: where it lies, and what turns of memory leave it as it is: for any kind of element. No function of the program. No conditions. The contract of the function that Bins hands to rows: it appends a vector for each quantum. No conditions. The contract of quant.Bins. No conditions but the list's size, and that the slice's cells read as integers. The contracts of package quant, together. The contracts of the document's own small answers for rle. No conditions but that the lists' cells read as integers. The contracts of the document's own At and May. No conditions but the lists' sizes. The contracts of the document's own answers for vec: sums, differences, least, greatest, at most. No conditions. For the statements' walks: what package quant's functions hand back, from slices that read as lists. No conditions. What the document fixes of package quant: the statements' own 'head' answers true. No conditions. -/
import Derived.Test.YtigepmijgoglhaaQGC
import Derived.Test.YtigepmijgoglhaaQGB
import Derived.Deep.DeepCutAuto
import Derived.Laws.AppendOwn
import Derived.Test.YtigepmijgoglhaaQGA
import Derived.Test.YtigepmijgoglhaaQMA
namespace Go.Proofs.Ytigepmijgoglhaa
open Go.ChangeShapes Go.WideShapes Go.ChangeAt Go.RowKit
attribute [local irreducible] Go.Calls

theorem cmpr_nil (last : Int × Int) : cmpr last [] = [] := rfl
/-- One step of the compressing, at the place k of the order. -/
theorem cmpr_skip {s : List Sg} {k : Nat} {last : Int × Int} (h : k + 1 < s.length) (e : ats s (k + 1) = ats s k) : cmpr last (s.drop k) = cmpr last (s.drop (k + 1)) := by
  unfold ats at e
  rw [drop_cons (k := k) (by omega), drop_cons h]
  conv => lhs; unfold cmpr
  rw [if_pos e]
theorem cmpr_same {s : List Sg} {k : Nat} {last : Int × Int} (h : k < s.length) (e : k + 1 < s.length → ats s (k + 1) ≠ ats s k) (e2 : vls s k = last) : cmpr last (s.drop k) = cmpr (vls s k) (s.drop (k + 1)) := by
  rw [e2]
  unfold ats at e; unfold vls at e2
  by_cases c : k + 1 < s.length
  · rw [drop_cons (k := k) h, drop_cons c]
    conv => lhs; unfold cmpr
    rw [if_neg (e c), if_pos e2]
  · rw [drop_cons (k := k) h, List.drop_eq_nil_of_le (by omega : s.length ≤ k + 1)]
    unfold cmpr
    rw [if_pos e2]
theorem cmpr_new {s : List Sg} {k : Nat} {last : Int × Int} (h : k < s.length) (e : k + 1 < s.length → ats s (k + 1) ≠ ats s k) (e2 : vls s k ≠ last) : cmpr last (s.drop k) = s.getD k (0, 0, 0)   :: cmpr (vls s k) (s.drop (k + 1)) := by
  unfold ats at e; unfold vls at e2 ⊢
  by_cases c : k + 1 < s.length
  · rw [drop_cons (k := k) h, drop_cons c]
    conv => lhs; unfold cmpr
    rw [if_neg (e c), if_neg e2]
  · rw [drop_cons (k := k) h, List.drop_eq_nil_of_le (by omega : s.length ≤ k + 1)]
    unfold cmpr
    rw [if_neg e2]

set_option maxRecDepth 100000 in
set_option maxHeartbeats 4000000 in
theorem of_c (l : List Sg) (a : Option Addr) (cap : Nat) (w : World) (hl : l.length ≤ 1099511627776) (hA : ArgS w a l) :
    Calls Try.prog 35 #[.slice a l.length cap] w (OfPost w l) := by
  have HA := hidE hA; clear hA
  go_enter Try.func35, Try.ntmps35
  go_wp2
  go_loopg [13] l.length (fun g vi wr => ∃ k : Nat, k ≤ l.length ∧ l.length - k ≤ g ∧ vi = .int .i64 k ∧ (∀ i, i < k → okS (l.getD i (0, 0, 0)) = true) ∧ Below w.heap.size w wr)
  case atStart => exact ⟨0, Nat.zero_le _, by omega, rfl, fun i hi => by omega, Below.refl _ _⟩
  case round =>
    obtain ⟨k, hk, hg, rfl, hs, hb⟩ := hrel
    have HS := hidE hs; have HB := hidE hb; clear hs hb
    by_cases hlt : k < l.length
    · obtain ⟨b, off, rfl, hb, hc⟩ := (HA.out.past HB.out) (by omega)
      obtain ⟨c0, c1, c2⟩ := hc.get hlt
      clear hc
      cases hok : okS (l.getD k (0, 0, 0))
      · have HX := hidE (all_bad hlt hok)
        have HV := hidE (fun w => valid_c (l.getD k (0, 0, 0)) w)
        rw [hok] at HV
        change Hid (∀ w, Calls _ _ #[S (ats l k) (vls l k).1 (vls l k).2] _ _) at HV
        generalize ats l k = u at *
        generalize vls l k = v at *
        go_wp2_with (go_at_call 37; ((with_reducible refine (HV.out _).mono ?_); rintro e w1 ⟨rfl, hb1⟩))
        go_ret2
        exact ⟨_, [], 10, rfl, sliS_nil _, .inr ⟨HX.out, rfl, rfl⟩, by have := HB.out; (repeat (first | exact Below.refl _ _ | assumption | refine balloc ?_ _ | refine below_drewN ?_ _ | refine bstep (by assumption) ?_ | refine bstep (Past.prop _) ?_ | refine Below.setCell ?_ (by first | exact Nat.le_refl _ | (simp; done) | (simp; omega)) _))⟩
      · have HX := hidE (show ∀ i, i < k + 1 → okS (l.getD i (0, 0, 0)) = true from fun i hi => by
          by_cases e : i = k
          · rw [e]; exact hok
          · exact HS.out i (by omega))
        have HV := hidE (fun w => valid_c (l.getD k (0, 0, 0)) w)
        rw [hok] at HV
        change Hid (∀ w, Calls _ _ #[S (ats l k) (vls l k).1 (vls l k).2] _ _) at HV
        generalize ats l k = u at *
        generalize vls l k = v at *
        go_wp2_with (go_at_call 37; ((with_reducible refine (HV.out _).mono ?_); rintro e w1 ⟨rfl, hb1⟩))
        go_roundg (l.length - (k + 1))
        case measure => omega
        case rel => exact ⟨k + 1, by omega, Nat.le_refl _, by go_num, HX.out, by have := HB.out; (repeat (first | exact Below.refl _ _ | assumption | refine balloc ?_ _ | refine below_drewN ?_ _ | refine bstep (by assumption) ?_ | refine bstep (Past.prop _) ?_ | refine Below.setCell ?_ (by first | exact Nat.le_refl _ | (simp; done) | (simp; omega)) _))⟩
    · have hk' : k = l.length := by omega
      subst hk'
      have HX := hidE (all_good HS.out)
      clear HS
      go_wp2_with fail
      ((with_reducible refine (changing_c _).mono ?_); rintro e w1 ⟨rfl, rfl⟩)
      have hb0 : Below w.heap.size w (wr.alloc (.cells #[.int .i64 0, .int .i64 0] 35)) := by have := HB.out; (repeat (first | exact Below.refl _ _ | assumption | refine balloc ?_ _ | refine below_drewN ?_ _ | refine bstep (by assumption) ?_ | refine bstep (Past.prop _) ?_ | refine Below.setCell ?_ (by first | exact Nat.le_refl _ | (simp; done) | (simp; omega)) _))
      have hp0 : w.heap.size ≤ wr.heap.size := HB.out.size
      have B0 : Blk (wr.alloc (.cells #[.int .i64 0, .int .i64 0] 35)) wr.heap.size #[.int .i64 0, .int .i64 0] 35 := Blk.made _ _ _
      have HB0 := hidE hb0; have HBL := hidE B0
      clear hb0 B0 HB hg
      obtain ⟨p, hp⟩ : ∃ p, p = wr.heap.size := ⟨_, rfl⟩
      rw [← hp] at hp0 HBL ⊢
      generalize wr.alloc (.cells #[.int .i64 0, .int .i64 0] 35) = w1 at *
      clear hp
      go_wp2_with fail
      ((with_reducible refine (inOrder_c l a cap _ hl (HA.out.past HB0.out)).mono ?_); rintro e w2 ⟨q, d, rfl, hq, hbq, hb2, hm, hs⟩)
      have HIS := hidE (isOf_cmpr hm hs (fun x hx => List.all_eq_true.1 HX.out x hx))
      have HOD := hidE (show Okd l.length d from fun k hk => by
        obtain ⟨k', _, q2, e⟩ := hm.inn k (Nat.zero_le _) hk
        rw [e]; exact q2)
      have hpl := HBL.out.lt
      have HB2 := hidE (show Below w.heap.size w w2 by have := HB0.out; (repeat (first | exact Below.refl _ _ | assumption | refine balloc ?_ _ | refine below_drewN ?_ _ | refine bstep (by assumption) ?_ | refine bstep (Past.prop _) ?_ | refine Below.setCell ?_ (by first | exact Nat.le_refl _ | (simp; done) | (simp; omega)) _)))
      have HBP := hidE (HBL.out.past hb2)
      have HBQ := hidE hbq
      have hq2 := hbq.lt
      have hp2 : p < w2.heap.size := Nat.lt_of_lt_of_le hpl hb2.size
      have hpq : p ≠ q := by omega
      have hqw : w.heap.size ≤ q := Nat.le_trans HB0.out.size hq
      have hlo : w.heap.size ≤ w2.heap.size := by omega
      clear hm hs HBL HB0 hbq hb2 hpl hq
      generalize hB : w2.heap.size = B at hq2 hp2 hlo
      have HBE := hidE hB; clear hB
      go_wp2_with fail
      go_loopg [26, 6, 9, 10] l.length (fun g vi vf _ _ wr2 => ∃ (k : Nat) (fk : List Sg) (last : Int × Int) (v6 : Value), vi = .int .i64 k ∧ v6 = vf ∧ k ≤ l.length ∧ l.length - k ≤ g ∧ fk.length ≤ k ∧ wr2.ownsRow B 43 3 v6 fk.length (cellsOfS fk) ∧ Blk wr2 p #[.int .i64 last.1, .int .i64 last.2] 35 ∧ Blk wr2 q (rowC l.length d) 3 ∧ Below w.heap.size w wr2 ∧ B ≤ wr2.heap.size ∧ Hid (fk ++ cmpr last ((ordL l d).drop k) = cmpr (0, 0) (ordL l d)))
      case atStart => exact ⟨0, [], (0, 0), .slice none 0 0, rfl, rfl, by omega, by omega, Nat.le_refl _, ⟨rfl, .inl ⟨rfl, rfl⟩⟩, HBP.out, HBQ.out, HB2.out, Nat.le_of_eq HBE.out.symm, rfl⟩
      case round =>
        clear HBP HBQ HB2 HBE
        obtain ⟨k, fk, last, s6, rfl, rfl, hk, hg, hfk, hown, hbp, hbq, hb, hB, HF⟩ := hrel
        have HOW := hidE hown; have HBP := hidE hbp; have HBQ := hidE hbq; have HB := hidE hb
        clear hown hbp hbq hb
        by_cases hlt : k < l.length
        · obtain ⟨b, off, rfl, hb, hc⟩ := (HA.out.past HB.out) (by omega)
          have hbw : b < w.heap.size := by
            obtain ⟨b', off', e, hb', _⟩ := HA.out (by omega)
            simp at e; omega
          obtain ⟨c0, c1, c2⟩ := hc.get (i := d k) (HOD.out k hlt)
          have r0 := (HBQ.out.cell k).trans (rowC_get hlt)
          have hdk := HOD.out k hlt
          have hbz : b < wr.heap.size := hb
          have hqz := HBQ.out.lt
          have HEA := hidE (ordL_ats (l := l) (d := d) hlt)
          have HEV := hidE (ordL_vls (l := l) (d := d) hlt)
          by_cases hskip : k + 1 < l.length ∧ ats l (d (k + 1)) = ats l (d k)
          · obtain ⟨hk1, hsame⟩ := hskip
            have HF2 := hidE (show fk ++ cmpr last ((ordL l d).drop (k + 1)) = cmpr (0, 0) (ordL l d) by
              rw [← HF.out, cmpr_skip (k := k) (by rw [ordL_len]; exact hk1) (by rw [ordL_ats hk1, ordL_ats hlt]; exact hsame)])
            obtain ⟨d0, d1, d2⟩ := hc.get (i := d (k + 1)) (HOD.out _ hk1)
            have r1 := (HBQ.out.cell (k + 1)).trans (rowC_get hk1)
            have hdk1 := HOD.out _ hk1
            rw [hsame] at d0
            clear hc hsame c1 c2 d1 d2 HF HEA HEV
            have HCE := hidE (show ∀ x : Past wr, wr.heap.size ≤ x.1.heap.size from fun x => x.2.size)
            generalize ats l (d k) = u at *
            generalize d k = i0 at *
            generalize d (k + 1) = i1 at *
            have g1 : decide ((k : Int) + 1 < (l.length : Int)) = true := decide_eq_true (by omega)
            go_wp2
            refine wp_region_past_lit (by kernel_rfl) (by kernel_rfl) ?_
            have hcp := Past.cell (W := wr)
            repeat (go_big_quiet_step (fail))
            refine wpQuiet_nil ?_
            rintro _ ⟨x', rfl⟩
            have o1 := own_below HOW.out x'.2
            have o2 := HBP.out.past x'.2
            have o3 := HBQ.out.past x'.2
            have o4 : Below w.heap.size w x'.1 := by have := HB.out; (repeat (first | exact Below.refl _ _ | assumption | refine balloc ?_ _ | refine below_drewN ?_ _ | refine bstep (by assumption) ?_ | refine bstep (Past.prop _) ?_ | refine Below.setCell ?_ (by first | exact Nat.le_refl _ | (simp; done) | (simp; omega)) _))
            have o5 := Nat.le_trans hB x'.2.size
            clear hcp c0 d0 r0 r1
            generalize x'.1 = w3 at o1 o2 o3 o4 o5 ⊢
            go_wp2
            go_roundg (l.length - (k + 1))
            case measure => omega
            case rel => exact ⟨k + 1, fk, last, s6, by go_num, rfl, by omega, Nat.le_refl _, by omega, o1, o2, o3, o4, o5, HF2.out⟩
          · have HNE := hidE (show k + 1 < (ordL l d).length → ats (ordL l d) (k + 1) ≠ ats (ordL l d) k from fun h => by
              rw [ordL_len] at h
              rw [ordL_ats h, ordL_ats hlt]
              exact fun e => hskip ⟨h, e⟩)
            have HOL := hidE (show k < (ordL l d).length by rw [ordL_len]; exact hlt)
            generalize hdk0 : d k = dk at r0 c0 c1 c2 hdk HEA HEV hskip
            clear hdk0
            go_wp2
            go_cut [52] (fun s52 wx => s52 = .bool false ∧ wx.ownsRow B 43 3 s6 fk.length (cellsOfS fk) ∧ Blk wx p #[.int .i64 last.1, .int .i64 last.2] 35 ∧ Blk wx q (rowC l.length d) 3 ∧ Below w.heap.size w wx ∧ B ≤ wx.heap.size)
            case first =>
              by_cases hk1 : k + 1 < l.length
              · have hdf : (ats l (d (k + 1)) == ats l dk) = false := beq_eq_false_iff_ne.2 fun e => hskip ⟨hk1, e⟩
                obtain ⟨d0, d1, d2⟩ := hc.get (i := d (k + 1)) (HOD.out _ hk1)
                have r1 := (HBQ.out.cell (k + 1)).trans (rowC_get hk1)
                have hdk1 := HOD.out _ hk1
                clear hc hskip c1 c2 d1 d2 HF HEA HEV HNE
                generalize ats l dk = u at *
                generalize ats l (d (k + 1)) = u1 at *
                generalize d (k + 1) = i1 at *
                have g1 : decide ((k : Int) + 1 < (l.length : Int)) = true := decide_eq_true (by omega)
                refine wp_region_past_lit (by kernel_rfl) (by kernel_rfl) ?_
                have hcp := Past.cell (W := wr)
                repeat (go_big_quiet_step (fail))
                refine wpQuiet_nil ?_
                rintro _ ⟨x', rfl⟩
                go_wp2
                go_meet
                case rel => exact ⟨rfl, own_below HOW.out x'.2, HBP.out.past x'.2, HBQ.out.past x'.2, by have := HB.out; (repeat (first | exact Below.refl _ _ | assumption | refine balloc ?_ _ | refine below_drewN ?_ _ | refine bstep (by assumption) ?_ | refine bstep (Past.prop _) ?_ | refine Below.setCell ?_ (by first | exact Nat.le_refl _ | (simp; done) | (simp; omega)) _)), Nat.le_trans hB x'.2.size⟩
              · clear hc hskip c1 c2 HF HEA HEV HNE
                have g1 : decide ((k : Int) + 1 < (l.length : Int)) = false := decide_eq_false (by omega)
                refine wp_region_past_lit (by kernel_rfl) (by kernel_rfl) ?_
                have hcp := Past.cell (W := wr)
                repeat (go_big_quiet_step (fail))
                refine wpQuiet_nil ?_
                rintro _ ⟨x', rfl⟩
                go_wp2
                go_meet
                case rel => exact ⟨rfl, own_below HOW.out x'.2, HBP.out.past x'.2, HBQ.out.past x'.2, by have := HB.out; (repeat (first | exact Below.refl _ _ | assumption | refine balloc ?_ _ | refine below_drewN ?_ _ | refine bstep (by assumption) ?_ | refine bstep (Past.prop _) ?_ | refine Below.setCell ?_ (by first | exact Nat.le_refl _ | (simp; done) | (simp; omega)) _)), Nat.le_trans hB x'.2.size⟩
            obtain ⟨rfl, o1, o2, o3, o4, o5⟩ := hcut
            have hc2 : CellsS wc b off l := by
              obtain ⟨b', off', e, hb', hcc⟩ := HA.out.past o4 (by omega)
              simp at e
              obtain ⟨rfl, rfl⟩ := e
              exact hcc
            have hbc : b < wc.heap.size := by have := o4.size; omega
            obtain ⟨c0, c1, c2⟩ := hc2.get (i := dk) hdk
            have O1 := hidE o1; have O2 := hidE o2; have O3 := hidE o3; have O4 := hidE o4; have O5 := hidE o5
            clear o1 o2 o3 o4 hc hc2 r0 HOW HBP HBQ HB hskip
            by_cases hsv : vls l dk = last
            · have HF2 := hidE (show fk ++ cmpr (vls l dk) ((ordL l d).drop (k + 1)) = cmpr (0, 0) (ordL l d) by
                rw [← HF.out, cmpr_same (k := k) HOL.out HNE.out (by rw [HEV.out]; exact hsv), HEV.out])
              have hbb : (!(((vls l dk).1, (vls l dk).2) == (last.1, last.2))) = false := by rw [hsv]; simp
              clear HF HEA HEV HNE hsv
              generalize ats l dk = u at *
              generalize vls l dk = v at *
              go_wp2_with fail
              ((with_reducible refine (chg_c p last.1 last.2 v.1 v.2 _ O2.out).mono ?_); rintro e w3 ⟨rfl, q1, q2⟩)
              have n1 := own_grown O1.out q2 hp2
              have n3 := O3.out.grown q2 (by intro e; simp at e; omega)
              have n4 : Below w.heap.size w w3 := O4.out.grown q2 (by omega) (fun k hk => by simp at hk; omega)
              have n5 : B ≤ w3.heap.size := Nat.le_trans O5.out q2.size
              clear q2 c0 c1 c2
              go_wp2
              go_roundg (l.length - (k + 1))
              case measure => omega
              case rel => exact ⟨k + 1, fk, v, s6, by go_num, rfl, by omega, Nat.le_refl _, by omega, n1, q1, n3, n4, n5, HF2.out⟩
            · have HF2 := hidE (show (fk ++ [(ordL l d).getD k (0, 0, 0)]) ++ cmpr (vls l dk) ((ordL l d).drop (k + 1)) = cmpr (0, 0) (ordL l d) by
                rw [← HF.out, cmpr_new (k := k) HOL.out HNE.out (by rw [HEV.out]; exact hsv), HEV.out, List.append_assoc]; rfl)
              have hbb : (!(((vls l dk).1, (vls l dk).2) == (last.1, last.2))) = true := by
                rw [Bool.not_eq_true']; exact beq_eq_false_iff_ne.2 hsv
              have HSK := hidE (show cellsOfS (fk ++ [(ordL l d).getD k (0, 0, 0)]) = cellsOfS fk ++ [.int .i64 (ats l dk), .int .i64 (vls l dk).1, .int .i64 (vls l dk).2] by
                rw [cellsOfS_app]
                have e1 := HEA.out; have e2 := HEV.out
                unfold ats at e1 ⊢; unfold vls at e2 ⊢
                rw [← e1, ← e2]; rfl)
              clear HF HEA HEV HNE hsv
              generalize ats l dk = u at *
              generalize vls l dk = v at *
              obtain ⟨i0, hi, hz0, hz1, hz2⟩ := info_parts Try.infoSeg
              have HI := hidE hi; have HZ0 := hidE hz0; have HZ1 := hidE hz1; have HZ2 := hidE hz2
              clear hi hz0 hz1 hz2
              go_wp2_with fail
              ((with_reducible refine (chg_c p last.1 last.2 v.1 v.2 _ O2.out).mono ?_); rintro e w3 ⟨rfl, q1, q2⟩)
              have hc3 : b < w3.heap.size := Nat.lt_of_lt_of_le hbc q2.size
              have hbp : some b ≠ some p := by intro e; simp at e; omega
              have hblk := q2.block b hbc hbp
              have t0 : w3.cell? ⟨b, off + dk * 3, none⟩ = some (.int .i64 u) := (World.cell?_of_block (w := wc) (a := ⟨b, off + dk * 3, none⟩) hblk).trans c0
              have t1 : w3.cell? ⟨b, off + dk * 3 + 1, none⟩ = some (.int .i64 v.1) := (World.cell?_of_block (w := wc) (a := ⟨b, off + dk * 3 + 1, none⟩) hblk).trans c1
              have t2 : w3.cell? ⟨b, off + dk * 3 + 2, none⟩ = some (.int .i64 v.2) := (World.cell?_of_block (w := wc) (a := ⟨b, off + dk * 3 + 2, none⟩) hblk).trans c2
              have n1 := own_grown O1.out q2 hp2
              have n3 := O3.out.grown q2 (by intro e; simp at e; omega)
              have n4 : Below w.heap.size w w3 := O4.out.grown q2 (by omega) (fun k hk => by simp at hk; omega)
              have n5 : B ≤ w3.heap.size := Nat.le_trans O5.out q2.size
              have N1 := hidE n1; have N3 := hidE n3; have N4 := hidE n4; have Q1 := hidE q1
              clear q2 c0 c1 c2 n1 n3 n4 q1 hblk hbp
              go_wp2_with (at_builtin; refine wpList_append_own _ rfl (.tmp 60) (.tmp 65) 29 rfl B 43 i0 (.agg #[.int .i64 0, .int .i64 0, .int .i64 0]) 3 24 Try.underlying29 HI.out HZ0.out HZ1.out HZ2.out rfl (by decide) _ _ _ rfl (N1.out.alloc _) ⟨w3.heap.size, 0, none⟩ 1 1 [.int .i64 u, .int .i64 v.1, .int .i64 v.2] rfl rfl (new_cells w3 #[.int .i64 u, .int .i64 v.1, .int .i64 v.2] 43) (by intro x hx; simp at hx; rcases hx with rfl | rfl | rfl <;> rfl) (by unfold maxLen; omega) (by omega) (by simp; omega) ?_; intro v' w4 hown4 hgrow4 _)
              have p1 := (Blk.alloc Q1.out (.cells #[.int .i64 u, .int .i64 v.1, .int .i64 v.2] 43)).grown hgrow4 (fun e => by have := own_block N1.out e.symm; omega)
              have p3 := (Blk.alloc N3.out (.cells #[.int .i64 u, .int .i64 v.1, .int .i64 v.2] 43)).grown hgrow4 (fun e => by have := own_block N1.out e.symm; omega)
              have p4 : Below w.heap.size w w4 := Below.grown (N4.out.alloc (by omega) (.cells #[.int .i64 u, .int .i64 v.1, .int .i64 v.2] 43)) hgrow4 (by simp; omega) (fun k hk => by have := own_block N1.out hk; omega)
              have p5 : B ≤ w4.heap.size := Nat.le_trans n5 (Nat.le_trans (by simp) hgrow4.size)
              rw [← HSK.out] at hown4
              have P1 := hidE p1; have P3 := hidE p3; have P4 := hidE p4; have PO := hidE hown4
              clear p1 p3 p4 hown4 hgrow4 t0 t1 t2
              go_wp2
              go_roundg (l.length - (k + 1))
              case measure => omega
              case rel => exact ⟨k + 1, fk ++ [(ordL l d).getD k (0, 0, 0)], v, v', by go_num, rfl, by omega, Nat.le_refl _, by simp; omega, by rw [List.length_append]; exact PO.out, P1.out, P3.out, P4.out, p5, HF2.out⟩
        · have hk' : k = l.length := by omega
          subst hk'
          have e := HF.out
          rw [List.drop_eq_nil_of_le (by rw [ordL_len]; exact Nat.le_refl _)] at e
          rw [cmpr_nil, List.append_nil] at e
          have HE := hidE e; clear e
          go_wp2
          go_ret2
          exact ⟨_, fk, 0, rfl, sliS_own HOW.out, .inl ⟨HX.out, rfl, by rw [HE.out]; exact HIS.out⟩, HB.out⟩
end Go.Proofs.Ytigepmijgoglhaa

namespace Go.Proofs.Ytigepmijgoglhaa
open Go.ChangeShapes Go.WideShapes Go.ChangeAt Go.RowKit
attribute [local irreducible] Go.Calls

/-- What is kept between two rows. -/
def QuI (F : List Sg) (q x y : Int) (w : World) (p : Nat) (pre : List St) (g : Option (Nat × Nat)) (W : World) : Prop := CutI w p pre g W ∧ RowsOk (fun m => highN F m q.toNat) q x y pre
set_option maxHeartbeats 2000000 in
theorem quant_c (F : List Sg) (q : Int) (a : Option Addr) (cap : Nat) (w : World) (hc : F.length ≤ cap) (hc' : cap ≤ 9223372036854775807) (hl : F.length ≤ 999999) (hA : ArgS w a F) :
    Calls Try.prog 19 #[.slice a F.length cap, .int .i64 q] w (OfIs w (quantS F q).1 (quantS F q).2) := by
  have HA := hidE hA
  have HV := hidE (fun w hA => pmay_c F a cap w (by omega) hA)
  have HQ := hidE (isq_c q)
  clear hA
  cases h1 : mayB F
  · rw [quantS_form h1]
    rw [h1] at HV
    clear h1
    go_enter Try.func19, Try.ntmps19
    go_wp2_with fail
    ((with_reducible refine (HV.out _ HA.out).mono ?_); rintro e w1 ⟨rfl, hb1⟩)
    go_wp2
    go_ret2
    exact ⟨_, rfl, sliS_nil _, hb1⟩
  rw [h1] at HV
  cases h2 : qArg q
  · rw [quantS_arg h1 h2]
    rw [h2] at HQ
    clear h1 h2
    go_enter Try.func19, Try.ntmps19
    go_wp2_with fail
    ((with_reducible refine (HV.out _ HA.out).mono ?_); rintro e w1 ⟨rfl, hb1⟩)
    go_wp2_with fail
    ((with_reducible refine (HQ.out _).mono ?_); rintro e w2 ⟨rfl, rfl⟩)
    go_wp2
    go_ret2
    exact ⟨_, rfl, sliS_nil _, hb1⟩
  rw [h2] at HQ
  have hF := mayB_iff.1 h1
  have HN := hidE (fun w hA => near_c F a cap w (by omega) hF hA)
  cases h3 : nearL F
  · rw [quantS_far h1 h2 h3]
    rw [h3] at HN
    clear h1 h2 h3 hF
    go_enter Try.func19, Try.ntmps19
    go_wp2_with fail
    ((with_reducible refine (HV.out _ HA.out).mono ?_); rintro e w1 ⟨rfl, hb1⟩)
    go_wp2_with fail
    ((with_reducible refine (HQ.out _).mono ?_); rintro e w2 ⟨rfl, rfl⟩)
    go_wp2_with fail
    ((with_reducible refine (HN.out _ (HA.out.past hb1)).mono ?_); rintro e w2 ⟨rfl, hb2⟩)
    have hb := hb1.trans (hb2.mono hb1.size)
    go_wp2
    go_ret2
    exact ⟨_, rfl, sliS_nil _, hb⟩
  rw [quantS_ok h1 h2 h3]
  rw [h3] at HN
  have hq := qArg_iff.1 h2
  have hne := (near_ends hF).1 h3
  have HEN := hidE (fun w hA => ends_c F a cap w (by omega) hA)
  obtain ⟨x, hx⟩ : ∃ x, x = downI (endsL F).1 q := ⟨_, rfl⟩
  obtain ⟨z, hz⟩ : ∃ z, z = downI (endsL F).2.1 q := ⟨_, rfl⟩
  obtain ⟨y, hy⟩ : ∃ y, y = z + 2 * q := ⟨_, rfl⟩
  have HD1 := hidE (fun W => down_c (endsL F).1 q W hq (by omega))
  have HD2 := hidE (fun W => down_c (endsL F).2.1 q W hq (by omega))
  rw [← hx] at HD1
  rw [← hz] at HD2
  have d1 := down_le (t := (endsL F).1) (q := q) (by omega); have d2 := down_gt (t := (endsL F).1) (q := q) (by omega)
  have f1 := down_le (t := (endsL F).2.1) (q := q) (by omega); have f2 := down_gt (t := (endsL F).2.1) (q := q) (by omega)
  have hxm : x % q = 0 := by rw [hx]; exact down_mul
  have hzm : z % q = 0 := by rw [hz]; exact down_mul
  have hym : y % q = 0 := by rw [hy, show z + 2 * q = (z + q) + q by omega]; exact add_mul (add_mul hzm)
  have hxy : x ≤ y := by
    by_cases c : F.length = 0
    · have e : endsL F = (0, 0, true) := by unfold endsL; rw [if_pos c]
      rw [e] at hx hz
      simp only at hx hz
      omega
    · have := canon_first hF (List.getElem_mem (show 0 < F.length by omega))
      by_cases c2 : x ≤ z
      · omega
      · have := mul_next (by omega) hzm hxm (by omega); omega
  have HFIN := hidE (fun l G (h : RowsOk (fun m => highN F m q.toNat) q x y l) (he : endG x l = y) => And.intro (quant_rows hF hq h3 hx (by rw [hy, hz]) h he).1 (quant_is (G := G) hF hq h3 hx (by rw [hy, hz]) h he))
  have wq1 : IntKind.i64.wrap (2 * q) = 2 * q := IntWalk.i64_in _ (by omega)
  have WQ := hidE (show wrap64 (z + 2 * q) = y by unfold wrap64; omega)
  have HRW := hidE (fun (W : World) (p : Nat) (hp : p < W.heap.size) (hwp : w.heap.size ≤ p) (hb : Below w.heap.size w W) (hB : Blk W p #[.slice none 0 0] 29) =>
    rows_hi_c F q x y a cap #[.pointer (some ⟨p, 0, none⟩)] w W (QuI F q x y w p) (by omega) hc hc' HA.out hb hF hq hxm hym hxy (by omega) (by omega)
      (fun s g A B h hb2 hk => ⟨cutI_keep (n := W.heap.size) (by omega) hb.size h.1 hb2 hk, h.2⟩) (fun s g A h => cutI_own h.1)
      (fun pre s g W1 h hz hn hr => (qcl_c w W1 p W.heap.size pre s g (by omega) hwp hz (by omega) h.1).mono (fun e W' ⟨h1, g', h2, h3, h4, h5⟩ => ⟨h1, g', ⟨h2, rowsOk_snoc h.2 hr⟩, h3, h4, h5⟩))
      ⟨⟨.slice none 0 0, p + 1, hB, hb, own_nil _ _ _, by omega, by omega, .inl ⟨rfl, rfl⟩⟩, rowsOk_nil _ _ _ _⟩)
  have HLL := hidE hl
  have HY := hidE hy
  clear h1 h2 h3 hF hne d1 d2 f1 f2 hxm hzm hym hxy hx hz hc hc' hy
  generalize endsL F = en at *
  obtain ⟨b0, en0, ez⟩ := en
  simp only at HEN HD1 HD2
  go_enter Try.func19, Try.ntmps19
  go_wp2_with fail
  ((with_reducible refine (HV.out _ HA.out).mono ?_); rintro e w1 ⟨rfl, hb1⟩)
  go_wp2_with fail
  ((with_reducible refine (HQ.out _).mono ?_); rintro e w2 ⟨rfl, rfl⟩)
  go_wp2_with fail
  ((with_reducible refine (HN.out _ (HA.out.past hb1)).mono ?_); rintro e w2 ⟨rfl, hb2⟩)
  have hb02 := hb1.trans (hb2.mono hb1.size)
  go_wp2_with fail
  ((with_reducible refine (HEN.out _ (HA.out.past hb02)).mono ?_); rintro e w3 ⟨rfl, hb3⟩)
  have hb03 := hb02.trans (hb3.mono hb02.size)
  have HB03 := hidE hb03
  clear hb1 hb2 hb3 hb02 hb03
  go_wp2_with fail
  ((with_reducible refine (HD1.out _).mono ?_); rintro e w4 ⟨rfl, hb4⟩)
  have B4 := (Blk.made w3 #[.slice none 0 0] 29).past hb4
  have HB4 := hidE B4
  have HB04 := hidE ((HB03.out.alloc HB03.out.size _).trans (hb4.mono (by have := HB03.out.size; simp; omega)))
  clear B4 hb4
  go_wp2_with fail
  ((with_reducible refine (HD2.out _).mono ?_); rintro e w5 ⟨rfl, hb5⟩)
  have B5 := HB4.out.past hb5
  have HB5 := hidE B5
  have HB05 := hidE (HB04.out.trans (hb5.mono HB04.out.size))
  have HP := hidE (show w.heap.size ≤ w3.heap.size from HB03.out.size)
  clear B5 hb5
  generalize w3.heap.size = p at *
  go_wp2_with fail
  rw [WQ.out]
  ((with_reducible refine (HRW.out w5 p HB5.out.lt HP.out HB05.out HB5.out).mono ?_))
  rintro e w6 ⟨⟨v6, rfl⟩, pre, g, ⟨hI, hR⟩, he, hn, hb6⟩
  have hp6 : p < w6.heap.size := by obtain ⟨_, _, h, _⟩ := hI; exact h.lt
  obtain ⟨av, cp, γ, i1, i2, i3, i4, i5, i6, i7⟩ := cutI_base hp6 hI
  have t0 := i1.cell 0; have t1 := i1.lt
  simp at t0
  rw [← rawC_len pre] at i3 t0
  obtain ⟨aR, cR, eR, _, _, hAR⟩ := sliS_own i3
  cases eR
  have hOF := of_c (rawC pre) av cp w6 (by rw [rawC_len]; have := HLL.out; omega) hAR
  obtain ⟨k1, k2⟩ := HFIN.out pre (quantL F q) hR he
  have HK1 := hidE k1
  have HK2 := hidE (fun G => (HFIN.out pre G hR he).2)
  have HOF := hidE hOF
  have HB6 := hidE hb6
  clear k1 k2 hOF hb6 hAR i1 i2 i3 i4 i5 i6 i7 hI hR he hn
  generalize rawC pre = rw' at *
  go_wp2_with fail
  ((with_reducible refine (HOF.out).mono ?_))
  rintro e w7 ⟨v7, f7, er, rfl, hs7, hcase, hb7⟩
  obtain ⟨a7, c7, rfl, h71, h72, h73⟩ := hs7
  have hcase' : er = 0 ∧ f7 = quantL F q := by
    rcases hcase with ⟨_, h2, h3⟩ | ⟨h1, _, _⟩
    · exact ⟨h2, HK2.out _ h3⟩
    · rw [HK1.out] at h1; cases h1
  obtain ⟨rfl, hf7⟩ := hcase'
  have HS7 := hidE (show SliS w7 (.slice a7 f7.length c7) (quantL F q) from hf7 ▸ ⟨a7, c7, rfl, h71, h72, h73⟩)
  have HB7 := hidE (HB6.out.trans (hb7.mono HB6.out.size))
  clear hcase hf7 h71 h72 h73 hb7
  go_wp2
  go_ret2
  exact ⟨_, rfl, HS7.out, HB7.out⟩
end Go.Proofs.Ytigepmijgoglhaa

namespace Go.Proofs.Ytigepmijgoglhaa
open Go.ChangeShapes Go.WideShapes Go.ChangeAt Go.RowKit
attribute [local irreducible] Go.Calls

/-- The vectors that a slice's cells hold. -/
def VCells (w : World) (b off : Nat) (l : List (Int × Int)) : Prop :=
  ∀ i, i < l.length → w.cell? ⟨b, off + i * 2, none⟩ = some (.int .i64 (l.getD i (0, 0)).1) ∧ w.cell? ⟨b, off + i * 2 + 1, none⟩ = some (.int .i64 (l.getD i (0, 0)).2)
def ArgVs (w : World) (a : Option Addr) (l : List (Int × Int)) : Prop := 0 < l.length → ∃ b off, a = some ⟨b, off, none⟩ ∧ b < w.heap.size ∧ VCells w b off l
theorem VCells.below {w w' : World} {b off B : Nat} {l : List (Int × Int)} (h : VCells w b off l) (hb : Below B w w') (hB : b < B) : VCells w' b off l := fun i hi => by
  obtain ⟨h1, h2⟩ := h i hi
  exact ⟨(hb.cell (p := ⟨b, _, none⟩) hB).trans h1, (hb.cell (p := ⟨b, _, none⟩) hB).trans h2⟩
theorem ArgVs.past {w w' : World} {a : Option Addr} {l : List (Int × Int)} (h : ArgVs w a l) (hb : Below w.heap.size w w') : ArgVs w' a l := fun hl => by
  obtain ⟨b, off, e, h1, h2⟩ := h hl
  exact ⟨b, off, e, Nat.lt_of_lt_of_le h1 hb.size, h2.below hb h1⟩
/-- A slice value that reads as the list of vectors. -/
def SliVs (w : World) (v : Value) (l : List (Int × Int)) : Prop := ∃ (a : Option Addr) (cap : Nat), v = .slice a l.length cap ∧ l.length ≤ cap ∧ cap ≤ 9223372036854775807 ∧ ArgVs w a l
theorem SliVs.past {w w' : World} {v : Value} {l : List (Int × Int)} (h : SliVs w v l) (hb : Below w.heap.size w w') : SliVs w' v l := by
  obtain ⟨a, cap, h1, h2, h3, h4⟩ := h
  exact ⟨a, cap, h1, h2, h3, h4.past hb⟩
/-- What a call hands back, where the answer is known: a slice of vectors, and an error. -/
def VsIs (w : World) (L : List (Int × Int)) (er : Int) (e : Ending) (w' : World) : Prop := ∃ (a : Option Addr) (cap : Nat), e = .returned (.tuple #[.slice a L.length cap, .int .i64 er]) ∧ SliVs w' (.slice a L.length cap) L ∧ Below w.heap.size w w'
theorem sliVs_len {w : World} {a : Option Addr} {n cap : Nat} {l : List (Int × Int)} (h : SliVs w (.slice a n cap) l) : n = l.length ∧ l.length ≤ cap ∧ cap ≤ 9223372036854775807 ∧ ArgVs w a l := by
  obtain ⟨a', c', e, h1, h2, h3⟩ := h
  cases e
  exact ⟨rfl, h1, h2, h3⟩
end Go.Proofs.Ytigepmijgoglhaa

namespace Go.Proofs.Ytigepmijgoglhaa
open Go.ChangeShapes Go.WideShapes Go.ChangeAt Go.RowKit
attribute [local irreducible] Go.Calls

/-- The block p holds a slice that owns its row; g: from where on its blocks lie, and the one that it has. -/
def OwnI (w : World) (p : Nat) (t e : TypeId) (sz n : Nat) (xs : List Value) (g : Option (Nat × Nat)) (W : World) : Prop :=
  ∃ (v : Value) (β : Nat), Blk W p #[v] t ∧ Below w.heap.size w W ∧ W.ownsRow β e sz v n xs ∧ p < β ∧ β ≤ W.heap.size ∧ ((g = none ∧ v = .slice none 0 0) ∨ ∃ k, g = some (β, k) ∧ v.ownBlock = some k)
theorem ownI_keep {w : World} {p sz n : Nat} {t e : TypeId} {xs : List Value} {g : Option (Nat × Nat)} {A B : World} {m : Nat} (hp : p < m) (hn : w.heap.size ≤ m) (h : OwnI w p t e sz n xs g A) (hb : Below m A B) (hk : ∀ b k, g = some (b, k) → B.heap[k]? = A.heap[k]?) : OwnI w p t e sz n xs g B := by
  obtain ⟨v, β, h1, h2, h3, h4, h5, h6⟩ := h
  refine ⟨v, β, h1.below hb hp, h2.trans (hb.mono hn), own_kept h3 (fun k e => ?_), h4, Nat.le_trans h5 hb.size, h6⟩
  rcases h6 with ⟨_, q⟩ | ⟨k', q, q2⟩
  · rw [q] at e; simp [Value.ownBlock] at e
  · rw [q2] at e; cases e; exact hk _ _ q
theorem ownI_own {w : World} {p sz n : Nat} {t e : TypeId} {xs : List Value} {g : Option (Nat × Nat)} {A : World} (h : OwnI w p t e sz n xs g A) : ∀ b k, g = some (b, k) → b ≤ k ∧ k < A.heap.size := by
  obtain ⟨v, β, h1, h2, h3, h4, h5, h6⟩ := h
  rintro b k e
  rcases h6 with ⟨q, _⟩ | ⟨k', q, q2⟩
  · rw [q] at e; cases e
  · rw [q] at e; cases e
    exact ⟨own_block h3 q2, own_lt h3 q2⟩
theorem ownI_lt {w : World} {p sz n : Nat} {t e : TypeId} {xs : List Value} {g : Option (Nat × Nat)} {A : World} (h : OwnI w p t e sz n xs g A) : p < A.heap.size := by
  obtain ⟨v, β, h1, _⟩ := h
  exact h1.lt
/-- From where on what is appended may lie. -/
theorem ownI_base {w : World} {p sz n : Nat} {t e : TypeId} {xs : List Value} {g : Option (Nat × Nat)} {A : World} (h : OwnI w p t e sz n xs g A) : ∃ (av : Option Addr) (cap γ : Nat), Blk A p #[.slice av n cap] t ∧ Below w.heap.size w A ∧ A.ownsRow γ e sz (.slice av n cap) n xs ∧ p < γ ∧ γ ≤ A.heap.size ∧
    (∀ k, (Value.slice av n cap).ownBlock = some k → g = some (γ, k) ∧ γ ≤ k) ∧ (A.heap.size ≤ γ ∨ ∃ j, g = some (γ, j)) := by
  have hz := ownI_lt h
  obtain ⟨v, β, h1, h2, h3, h4, h5, h6⟩ := h
  obtain ⟨a, cap, rfl⟩ := own_sli h3
  rcases h6 with ⟨q, e'⟩ | ⟨k', q, q2⟩
  · have hx : A.ownsRow A.heap.size e sz (.slice a n cap) n xs := by
      obtain ⟨q1, q2 | ⟨g', cap', cur, q3, _⟩⟩ := h3
      · exact ⟨q1, .inl q2⟩
      · rw [q3] at e'; cases e'
    refine ⟨a, cap, A.heap.size, h1, h2, hx, hz, Nat.le_refl _, fun k hk => ?_, .inl (Nat.le_refl _)⟩
    rw [e'] at hk; simp [Value.ownBlock] at hk
  · exact ⟨a, cap, β, h1, h2, h3, h4, h5, fun k hk => ⟨by rw [q2] at hk; cases hk; exact q, own_block h3 hk⟩, .inr ⟨k', q⟩⟩
/-- The cells of a list of vectors. -/
def cellsOfV : List (Int × Int) → List Value
  | [] => []
  | s :: r => .int .i64 s.1 :: .int .i64 s.2 :: cellsOfV r
theorem cellsOfV_len : ∀ l, (cellsOfV l).length = l.length * 2
  | [] => rfl
  | s :: r => by simp only [cellsOfV, List.length_cons, cellsOfV_len r]; omega
theorem cellsOfV_app : ∀ l r, cellsOfV (l ++ r) = cellsOfV l ++ cellsOfV r
  | [], _ => rfl
  | s :: l, r => by simp only [cellsOfV, List.cons_append, cellsOfV_app l r]
theorem cellsOfV_get : ∀ (l : List (Int × Int)) (i : Nat), i < l.length → (cellsOfV l)[i * 2]? = some (.int .i64 (l.getD i (0, 0)).1) ∧ (cellsOfV l)[i * 2 + 1]? = some (.int .i64 (l.getD i (0, 0)).2)
  | [], i, h => by simp at h
  | s :: l, 0, _ => ⟨rfl, rfl⟩
  | s :: l, i + 1, h => by
    obtain ⟨h1, h2⟩ := cellsOfV_get l i (by simp at h; omega)
    have e : ∀ j, (cellsOfV (s :: l))[(i + 1) * 2 + j]? = (cellsOfV l)[i * 2 + j]? := fun j => by
      simp only [cellsOfV]
      rw [show (i + 1) * 2 + j = i * 2 + j + 1 + 1 by omega]
      simp only [List.getElem?_cons_succ]
    exact ⟨(e 0).trans h1, (e 1).trans h2⟩
/-- What a call has appended to reads as a slice of vectors. -/
theorem sliVs_own {w : World} {base : Nat} {e : TypeId} {v : Value} {l : List (Int × Int)} (h : w.ownsRow base e 2 v l.length (cellsOfV l)) : SliVs w v l := by
  obtain ⟨h1, h2 | ⟨g, cap, cur, rfl, h3, h4, h5, h6, h7, h8⟩⟩ := h
  · obtain ⟨rfl, h2⟩ := h2
    have : l = [] := List.eq_nil_of_length_eq_zero h2
    subst this
    exact ⟨none, 0, rfl, Nat.le_refl _, by omega, fun h => by simp at h⟩
  · refine ⟨some ⟨g, 0, none⟩, cap, rfl, h5, by unfold maxLen at h6; omega, fun _ => ⟨g, 0, rfl, lt_of_block h4, fun i hi => ?_⟩⟩
    have hg := cellsOfV_get l i hi
    have hc : ∀ j x, j < l.length * 2 → (cellsOfV l)[j]? = some x → w.cell? ⟨g, j, none⟩ = some x := fun j x hj hx => by
      have e : w.cell? ⟨g, j, none⟩ = cur[j]? := by simp [World.cell?, h4]
      rw [e, ← Array.getElem?_toList]
      rw [← h8, List.getElem?_take, if_pos hj] at hx
      exact hx
    simp only [Nat.zero_add]
    exact ⟨hc _ _ (by omega) hg.1, hc _ _ (by omega) hg.2⟩
end Go.Proofs.Ytigepmijgoglhaa

namespace Go.Proofs.Ytigepmijgoglhaa
open Go.ChangeShapes Go.WideShapes Go.ChangeAt Go.RowKit
attribute [local irreducible] Go.Calls

theorem Try.infoVec : (Try.prog.info? 35).map (fun i => (i.zero, i.size, i.bytes)) = some (some (.agg #[.int .i64 0, .int .i64 0]), 2, 16) := by kernel_rfl
theorem binL_succ (F : List Sg) (d : Int) (q k : Nat) : binL F d q (k + 1) = binL F d q k ++ [sumN F (d + (k * q : Nat)) q] := by
  unfold binL
  rw [List.range_succ, List.map_append]
  rfl
/-- What is kept between two rows: as many bins as quanta. -/
def BiI (F : List Sg) (q x : Int) (w : World) (p pq : Nat) (pre : List St) (g : Option (Nat × Nat)) (W : World) : Prop :=
  ∃ n : Nat, endG x pre = x + (n * q.toNat : Nat) ∧ OwnI w p 31 35 2 n (cellsOfV (binL F x q.toNat n)) g W ∧ Blk W pq #[.int .i64 q] 2 ∧ (g = none ∨ 1 ≤ n)
theorem own_size {A : World} {β sz n k : Nat} {e t : TypeId} {v : Value} {xs : List Value} {cs : Array Value} (h : A.ownsRow β e sz v n xs) (hk : v.ownBlock = some k) (hB : Blk A k cs t) : n * sz ≤ cs.size := by
  obtain ⟨h1, h2 | ⟨g, cap, cur, h3, h4, h5, h6, h7, h8, h9⟩⟩ := h
  · rw [h2.1] at hk; simp [Value.ownBlock] at hk
  · rw [h3] at hk; simp [Value.ownBlock] at hk; subst hk
    have e : some (Obj.cells cs t (0, 0)) = some (Obj.cells cur _ (0, 0)) := hB.symm.trans h5
    cases e
    rw [h8]
    exact Nat.mul_le_mul_right _ h6
set_option maxHeartbeats 1000000 in
theorem bcl_c (F : List Sg) (q x y : Int) (w W : World) (p pq n1 : Nat) (pre : List St) (s : St) (g : Option (Nat × Nat)) (hp : p < n1) (hpq : pq < p) (hw : w.heap.size ≤ pq) (hz : n1 ≤ W.heap.size) (hq : 1 ≤ q ∧ q ≤ 4096) (hyl : y - x ≤ 16777216) (hxl : -4398046511104 ≤ x) (hyl2 : y ≤ 4398046511104)
    (hi : BiI F q x w p pq pre g W) (hr : RowAt (fun m => sumN F m q.toNat) q x y pre s) :
    Calls Try.prog 27 (encR s ++ #[.pointer (some ⟨pq, 0, none⟩), .pointer (some ⟨p, 0, none⟩)]) W fun e W' => (∃ v, e = .returned v) ∧ ∃ g', BiI F q x w p pq (pre ++ [s]) g' W' ∧ Below w.heap.size W W' ∧
      (∀ k, n1 ≤ k → k < W.heap.size → (∀ b j, g = some (b, j) → k < b) → W'.heap[k]? = W.heap[k]?) ∧ (∀ b k, g' = some (b, k) → W.heap.size ≤ b ∨ ∃ j, g = some (b, j)) := by
  obtain ⟨n0, h1, h2, h3, h4⟩ := hi
  obtain ⟨ix, hix, hz0, hzz, hz4⟩ := info_parts Try.infoVec
  have HI := hidE hix; have HZ0 := hidE hz0; have HZ1 := hidE hzz; have HZ2 := hidE hz4
  have H2 := hidE h2; have H3 := hidE h3; have HR := hidE hr; have H1 := hidE h1; have H4 := hidE h4
  have HSE := hidE (show s.1 = x + (n0 * q.toNat : Nat) from hr.at'.trans h1)
  clear h1 h2 h3 h4 hr hix hz0 hzz hz4
  show Calls _ _ #[.int .i64 s.1, .int .i64 s.2.1, .agg #[.int .i64 s.2.2.1, .int .i64 s.2.2.2], .pointer (some ⟨pq, 0, none⟩), .pointer (some ⟨p, 0, none⟩)] _ _
  go_enter Try.func27, Try.ntmps27
  go_wp2
  go_loopg [0] (s.2.1 - s.1).toNat (fun gh v0 wr => ∃ (z : Int) (n : Nat) (g' : Option (Nat × Nat)), v0 = .int .i64 z ∧ (s.2.1 - z).toNat ≤ gh ∧ z = x + (n * q.toNat : Nat) ∧ z % q = 0 ∧ s.1 ≤ z ∧ z ≤ s.2.1 ∧
    OwnI w p 31 35 2 n (cellsOfV (binL F x q.toNat n)) g' wr ∧ Blk wr pq #[.int .i64 q] 2 ∧ Blk wr W.heap.size #[.int .i64 s.2.2.1, .int .i64 s.2.2.2] 35 ∧ Below w.heap.size W wr ∧
    (∀ k, n1 ≤ k → k < W.heap.size → (∀ b j, g = some (b, j) → k < b) → wr.heap[k]? = W.heap[k]?) ∧ (∀ b k, g' = some (b, k) → W.heap.size ≤ b ∨ ∃ j, g = some (b, j)) ∧ (∀ b k, g' = some (b, k) → k ≠ W.heap.size) ∧ (g' = none ∨ 1 ≤ n))
  case atStart =>
    refine ⟨s.1, n0, g, rfl, Nat.le_refl _, HSE.out, HR.out.sm, Int.le_refl _, by have := HR.out.lt; omega, ownI_keep (m := W.heap.size) (by omega) (by omega) H2.out ((Below.refl _ _).alloc (Nat.le_refl _) _) (fun b k e => keptA ((ownI_own H2.out b k e).2) _), H3.out.alloc _, Blk.made _ _ _, (Below.refl _ _).alloc (by omega) _, fun k _ h _ => keptA h _, fun b k e => .inr ⟨k, e⟩, fun b k e => ?_, H4.out⟩
    have := (ownI_own H2.out b k e).2
    omega
  case round =>
    obtain ⟨z, n, g', rfl, hgh, hzn, hzm, hz1, hz2, ho, bq, bv, hbw, hun, hgb, hgb2, hgn⟩ := hrel
    obtain ⟨av, cp, γ, i1, i2, i3, i4, i5, i6, i7⟩ := ownI_base ho
    have t0 := i1.cell 0; have t1 := i1.lt; have tf := i1.free; have q0 := bq.cell 0; have q1 := bq.lt; have v0 := bv.cell 0; have v1 := bv.cell 1; have vz := bv.lt
    simp at t0 q0 v0 v1
    have HGH := hidE hgh; have HZN := hidE hzn; have HZM := hidE hzm; have HO := hidE ho; have BQ := hidE bq; have BV := hidE bv; have HBW := hidE hbw; have HUN := hidE hun; have HGB := hidE hgb; have HGB2 := hidE hgb2; have HGN := hidE hgn
    have I1 := hidE i1; have I2 := hidE i2; have I3 := hidE i3; have I6 := hidE i6; have I7 := hidE i7
    have hws := hbw.size
    have hWr : W.heap.size < wr.heap.size := bv.lt
    have HXY := hidE (show x ≤ s.1 ∧ s.2.1 ≤ y from ⟨HR.out.xs, HR.out.ly⟩)
    by_cases hlt : z < s.2.1
    · have e1 : decide (z < s.2.1) = true := decide_eq_true hlt
      have wq : IntKind.i64.wrap (z + q) = z + q := IntWalk.i64_in _ (by have := HXY.out; omega)
      have HV := hidE (show sumN F z q.toNat = s.2.2 from HR.out.val z hzm hz1 hlt)
      have HZQ := hidE (show z + q ≤ s.2.1 from mul_next (by omega) hzm HR.out.em hlt)
      have hn24 : n ≤ 16777216 := by
        have h1 : n ≤ n * q.toNat := Nat.le_mul_of_pos_right n (by omega)
        have := HXY.out
        omega
      have HLT := hidE hlt
      clear hgh hzn hzm ho bq bv hbw hun hgb hgb2 hgn i1 i2 i3 i6 i7 hlt H2
      obtain ⟨wo, hwo⟩ : ∃ wo : World, wo = wr := ⟨_, rfl⟩
      go_wp2_with (first | (at_builtin; refine wpList_append_own _ rfl (.tmp 14) (.tmp 16) 31 rfl γ 35 ix (.agg #[.int .i64 0, .int .i64 0]) 2 16 Try.underlying31 HI.out HZ0.out HZ1.out HZ2.out rfl (by decide) _ _ _ rfl (own_kept I3.out (fun k e => keptA (own_lt I3.out e) _)) ⟨_, 0, none⟩ 1 1 [.int .i64 s.2.2.1, .int .i64 s.2.2.2] rfl rfl (sfresh_at _ #[.int .i64 s.2.2.1, .int .i64 s.2.2.2] 35 _ (by simp)) (by intro y hy; simp at hy; rcases hy with rfl | rfl <;> rfl) (by unfold maxLen; omega) (by omega) (by simp; omega) ?_; intro v4 w4 hown4 hgrow4 hnil4; obtain ⟨a4, c4, rfl⟩ := own_sli hown4; have HG4 := hidE hgrow4; have HO4 := hidE hown4; have HN4 := hidE hnil4; have BP4 : Blk w4 p #[.slice av n cp] 31 := ((I1.out.alloc _)).grown HG4.out (fun e => by have := (I6.out _ e.symm).2; omega); have BQ4 : Blk w4 pq #[.int .i64 q] 2 := ((BQ.out.alloc _)).grown HG4.out (fun e => by have := (I6.out _ e.symm).2; omega); have BV4 : Blk w4 W.heap.size #[.int .i64 s.2.2.1, .int .i64 s.2.2.2] 35 := ((BV.out.alloc _)).grown HG4.out (fun e => HGB2.out _ _ (I6.out _ e.symm).1 rfl); have g4 := BP4.cell 0; have g5 := BP4.free; have g6 := BP4.lt; have g7 := BQ4.cell 0; have g8 := BQ4.lt; simp at g4 g7; have HB4 := hidE BP4; have HBQ4 := hidE BQ4; have HBV4 := hidE BV4; clear hgrow4 hown4 hnil4 BP4 BQ4 BV4 t0 t1 tf q0 q1 v0 v1 vz) | fail)
      have hv4 : (Value.slice a4 (n + 1) c4) ≠ .slice none 0 0 := fun e => by have := (HN4.out.1 e).2; omega
      obtain ⟨k4, hk4⟩ := own_has HO4.out hv4
      have hown : (w4.setCell ⟨p, 0, none⟩ (Value.slice a4 (n + 1) c4)).ownsRow γ 35 2 (Value.slice a4 (n + 1) c4) (n + 1) (cellsOfV (binL F x q.toNat (n + 1))) := by
        rw [binL_succ, cellsOfV_app, ← HZN.out, HV.out]
        exact own_kept HO4.out (fun k e => keptS (by have := own_block HO4.out e; omega) _)
      have hz4 : wr.heap.size ≤ w4.heap.size := by have := HG4.out.size; simp at this; omega
      have hb4 : Below w.heap.size wr (w4.setCell ⟨p, 0, none⟩ (Value.slice a4 (n + 1) c4)) :=
        (Below.grown ((Below.refl _ wr).alloc (by omega) _) HG4.out (by simp; omega) (fun k e => by have := (I6.out k e).2; omega)).setCell (p := ⟨p, 0, none⟩) (by simp; omega) _
      have hk4W : k4 ≠ W.heap.size := fun e => by
        subst e
        rcases HGN.out with h | h
        · rcases I7.out with h2 | ⟨j, h2⟩
          · have := own_block HO4.out hk4; omega
          · rw [h] at h2; cases h2
        · have := own_size HO4.out hk4 HBV4.out
          simp at this
          omega
      have hzn : z + q = x + ((n + 1) * q.toNat : Nat) := by
        have h1 := HZN.out
        rw [Nat.succ_mul]
        omega
      go_roundg (s.2.1 - (z + q)).toNat
      case measure => have := HGH.out; have := HLT.out; omega
      case rel =>
        refine ⟨z + q, n + 1, some (γ, k4), rfl, Nat.le_refl _, hzn, add_mul HZM.out, by omega, HZQ.out, ⟨_, γ, by simpa using HB4.out.set 0 (Value.slice a4 (n + 1) c4), I2.out.trans hb4, hown, i4, by simp [World.setCell]; omega, .inr ⟨k4, rfl, hk4⟩⟩, HBQ4.out.other (by omega) _, HBV4.out.other (by omega) _, HBW.out.trans hb4, fun k h1 h2 h3 => ?_, fun b k e => ?_, fun b k e => ?_, .inr (by omega)⟩
        · refine (keptS (by omega) _).trans ((HG4.out.block k (by simp; omega) (fun e => ?_)).trans ((keptA (by omega) _).trans (HUN.out k h1 h2 h3)))
          obtain ⟨q1, q2⟩ := I6.out k e.symm
          rcases HGB.out _ _ q1 with h | ⟨j, h⟩
          · omega
          · have := h3 _ _ h; omega
        · cases e
          rcases I7.out with h | ⟨j, h⟩
          · exact .inl (by omega)
          · exact HGB.out _ _ h
        · cases e; exact hk4W
    · have e1 : decide (z < s.2.1) = false := decide_eq_false hlt
      have HZE := hidE (show s.2.1 = x + (n * q.toNat : Nat) by omega)
      clear hgh hzn hzm ho bq bv hbw hun hgb hgb2 hgn i1 i2 i3 i6 i7 hlt H2
      go_wp2
      go_end0
      exact ⟨⟨_, rfl⟩, g', ⟨n, (endG_snoc _ _ _).trans HZE.out, HO.out, BQ.out, HGN.out⟩, HBW.out, HUN.out, HGB.out⟩
end Go.Proofs.Ytigepmijgoglhaa

namespace Go.Proofs.Ytigepmijgoglhaa
open Go.ChangeShapes Go.WideShapes Go.ChangeAt Go.RowKit
attribute [local irreducible] Go.Calls

theorem sliVs_nil (w : World) : SliVs w (.slice none 0 0) [] := ⟨none, 0, rfl, Nat.le_refl _, by omega, fun h => by simp at h⟩
theorem biI_keep {F : List Sg} {q x : Int} {w A B : World} {p pq m : Nat} {pre : List St} {g : Option (Nat × Nat)} (hp : p < m) (hpq : pq < m) (hn : w.heap.size ≤ m) (h : BiI F q x w p pq pre g A) (hb : Below m A B) (hk : ∀ b k, g = some (b, k) → B.heap[k]? = A.heap[k]?) : BiI F q x w p pq pre g B := by
  obtain ⟨n, h1, h2, h3, h4⟩ := h
  exact ⟨n, h1, ownI_keep hp hn h2 hb hk, h3.below hb hpq, h4⟩
set_option maxHeartbeats 2000000 in
theorem bins_c (F : List Sg) (q x m : Int) (a : Option Addr) (cap : Nat) (w : World) (hc : F.length ≤ cap) (hc' : cap ≤ 9223372036854775807) (hl : F.length ≤ 999999) (hA : ArgS w a F) :
    Calls Try.prog 10 #[.slice a F.length cap, .int .i64 q, .int .i64 x, .int .i64 m] w (VsIs w (binsS F q x m).1 (binsS F q x m).2) := by
  have HA := hidE hA
  have HV := hidE (fun w hA => pmay_c F a cap w (by omega) hA)
  have HQ := hidE (isq_c q)
  have HX := hidE (fun w => within_c x 1099511627776 w (by omega))
  clear hA
  cases h1 : mayB F
  · rw [binsS_form h1]
    rw [h1] at HV
    clear h1
    go_enter Try.func10, Try.ntmps10
    go_wp2_with fail
    ((with_reducible refine (HV.out _ (HA.out.past (by (repeat (first | exact Below.refl _ _ | assumption | refine balloc ?_ _ | refine below_drewN ?_ _ | refine bstep (by assumption) ?_ | refine bstep (Past.prop _) ?_ | refine Below.setCell ?_ (by first | exact Nat.le_refl _ | (simp; done) | (simp; omega)) _))))).mono ?_); rintro e w1 ⟨rfl, hb1⟩)
    have hb : Below w.heap.size w w1 := by (repeat (first | exact Below.refl _ _ | assumption | refine balloc ?_ _ | refine below_drewN ?_ _ | refine bstep (by assumption) ?_ | refine bstep (Past.prop _) ?_ | refine Below.setCell ?_ (by first | exact Nat.le_refl _ | (simp; done) | (simp; omega)) _))
    go_wp2
    go_ret2
    exact ⟨_, _, rfl, sliVs_nil _, hb⟩
  rw [h1] at HV
  cases h2 : bArg q x m
  · rw [binsS_arg h1 h2]
    have hcase : qArg q = false ∨ (qArg q = true ∧ m < 0) ∨ (qArg q = true ∧ 0 ≤ m ∧ 4096 < m) ∨ (qArg q = true ∧ 0 ≤ m ∧ m ≤ 4096 ∧ inB x 1099511627776 = false) := by
      cases c : qArg q
      · exact .inl rfl
      · by_cases c1 : m < 0
        · exact .inr (.inl ⟨rfl, c1⟩)
        · by_cases c2 : 4096 < m
          · exact .inr (.inr (.inl ⟨rfl, by omega, c2⟩))
          · refine .inr (.inr (.inr ⟨rfl, by omega, by omega, ?_⟩))
            cases c3 : inB x 1099511627776
            · rfl
            · have := qArg_iff.1 c; have := inB_iff.1 c3
              have := bArg_iff.2 (show 1 ≤ q ∧ q ≤ 4096 ∧ 0 ≤ m ∧ m ≤ 4096 ∧ -1099511627776 ≤ x ∧ x ≤ 1099511627776 by omega)
              rw [h2] at this
              cases this
    clear h1 h2
    rcases hcase with c | ⟨c, c1⟩ | ⟨c, c1, c2⟩ | ⟨c, c1, c2, c3⟩
    · rw [c] at HQ
      clear c
      go_enter Try.func10, Try.ntmps10
      go_wp2_with fail
      ((with_reducible refine (HV.out _ (HA.out.past (by (repeat (first | exact Below.refl _ _ | assumption | refine balloc ?_ _ | refine below_drewN ?_ _ | refine bstep (by assumption) ?_ | refine bstep (Past.prop _) ?_ | refine Below.setCell ?_ (by first | exact Nat.le_refl _ | (simp; done) | (simp; omega)) _))))).mono ?_); rintro e w1 ⟨rfl, hb1⟩)
      have hb : Below w.heap.size w w1 := by (repeat (first | exact Below.refl _ _ | assumption | refine balloc ?_ _ | refine below_drewN ?_ _ | refine bstep (by assumption) ?_ | refine bstep (Past.prop _) ?_ | refine Below.setCell ?_ (by first | exact Nat.le_refl _ | (simp; done) | (simp; omega)) _))
      have BQ := (Blk.made w #[.int .i64 q] 2).past hb1
      have t0 := BQ.cell 0; have t1 := BQ.lt
      simp at t0
      clear hb1
      go_wp2_with fail
      ((with_reducible refine (HQ.out _).mono ?_); rintro e w2 ⟨rfl, rfl⟩)
      go_wp2
      go_ret2
      exact ⟨_, _, rfl, sliVs_nil _, hb⟩
    · rw [c] at HQ
      have e1 : decide (m < 0) = true := decide_eq_true c1
      clear c
      go_enter Try.func10, Try.ntmps10
      go_wp2_with fail
      ((with_reducible refine (HV.out _ (HA.out.past (by (repeat (first | exact Below.refl _ _ | assumption | refine balloc ?_ _ | refine below_drewN ?_ _ | refine bstep (by assumption) ?_ | refine bstep (Past.prop _) ?_ | refine Below.setCell ?_ (by first | exact Nat.le_refl _ | (simp; done) | (simp; omega)) _))))).mono ?_); rintro e w1 ⟨rfl, hb1⟩)
      have hb : Below w.heap.size w w1 := by (repeat (first | exact Below.refl _ _ | assumption | refine balloc ?_ _ | refine below_drewN ?_ _ | refine bstep (by assumption) ?_ | refine bstep (Past.prop _) ?_ | refine Below.setCell ?_ (by first | exact Nat.le_refl _ | (simp; done) | (simp; omega)) _))
      have BQ := (Blk.made w #[.int .i64 q] 2).past hb1
      have t0 := BQ.cell 0; have t1 := BQ.lt
      simp at t0
      clear hb1
      go_wp2_with fail
      ((with_reducible refine (HQ.out _).mono ?_); rintro e w2 ⟨rfl, rfl⟩)
      go_wp2
      go_ret2
      exact ⟨_, _, rfl, sliVs_nil _, hb⟩
    · rw [c] at HQ
      have e1 : decide (m < 0) = false := decide_eq_false (by omega)
      have e2 : decide (4096 < m) = true := decide_eq_true c2
      clear c
      go_enter Try.func10, Try.ntmps10
      go_wp2_with fail
      ((with_reducible refine (HV.out _ (HA.out.past (by (repeat (first | exact Below.refl _ _ | assumption | refine balloc ?_ _ | refine below_drewN ?_ _ | refine bstep (by assumption) ?_ | refine bstep (Past.prop _) ?_ | refine Below.setCell ?_ (by first | exact Nat.le_refl _ | (simp; done) | (simp; omega)) _))))).mono ?_); rintro e w1 ⟨rfl, hb1⟩)
      have hb : Below w.heap.size w w1 := by (repeat (first | exact Below.refl _ _ | assumption | refine balloc ?_ _ | refine below_drewN ?_ _ | refine bstep (by assumption) ?_ | refine bstep (Past.prop _) ?_ | refine Below.setCell ?_ (by first | exact Nat.le_refl _ | (simp; done) | (simp; omega)) _))
      have BQ := (Blk.made w #[.int .i64 q] 2).past hb1
      have t0 := BQ.cell 0; have t1 := BQ.lt
      simp at t0
      clear hb1
      go_wp2_with fail
      ((with_reducible refine (HQ.out _).mono ?_); rintro e w2 ⟨rfl, rfl⟩)
      go_wp2
      go_ret2
      exact ⟨_, _, rfl, sliVs_nil _, hb⟩
    · rw [c] at HQ
      rw [c3] at HX
      have e1 : decide (m < 0) = false := decide_eq_false (by omega)
      have e2 : decide (4096 < m) = false := decide_eq_false (by omega)
      clear c c3
      go_enter Try.func10, Try.ntmps10
      go_wp2_with fail
      ((with_reducible refine (HV.out _ (HA.out.past (by (repeat (first | exact Below.refl _ _ | assumption | refine balloc ?_ _ | refine below_drewN ?_ _ | refine bstep (by assumption) ?_ | refine bstep (Past.prop _) ?_ | refine Below.setCell ?_ (by first | exact Nat.le_refl _ | (simp; done) | (simp; omega)) _))))).mono ?_); rintro e w1 ⟨rfl, hb1⟩)
      have hb : Below w.heap.size w w1 := by (repeat (first | exact Below.refl _ _ | assumption | refine balloc ?_ _ | refine below_drewN ?_ _ | refine bstep (by assumption) ?_ | refine bstep (Past.prop _) ?_ | refine Below.setCell ?_ (by first | exact Nat.le_refl _ | (simp; done) | (simp; omega)) _))
      have BQ := (Blk.made w #[.int .i64 q] 2).past hb1
      have t0 := BQ.cell 0; have t1 := BQ.lt
      simp at t0
      clear hb1
      go_wp2_with fail
      ((with_reducible refine (HQ.out _).mono ?_); rintro e w2 ⟨rfl, rfl⟩)
      go_wp2_with fail
      ((with_reducible refine (HX.out _).mono ?_); rintro e w2 ⟨rfl, rfl⟩)
      go_wp2
      go_ret2
      exact ⟨_, _, rfl, sliVs_nil _, hb⟩
  have hF := mayB_iff.1 h1
  have hb := bArg_iff.1 h2
  have hq : 1 ≤ q ∧ q ≤ 4096 := by omega
  rw [show qArg q = true from qArg_iff.2 hq] at HQ
  rw [show inB x 1099511627776 = true from inB_iff.2 (by omega)] at HX
  have HN := hidE (fun w hA => near_c F a cap w (by omega) hF hA)
  have e1 : decide (m < 0) = false := decide_eq_false (by omega)
  have e2 : decide (4096 < m) = false := decide_eq_false (by omega)
  cases h3 : nearL F
  · rw [binsS_far h1 h2 h3]
    rw [h3] at HN
    clear h1 h2 h3 hF hb
    go_enter Try.func10, Try.ntmps10
    go_wp2_with fail
    ((with_reducible refine (HV.out _ (HA.out.past (by (repeat (first | exact Below.refl _ _ | assumption | refine balloc ?_ _ | refine below_drewN ?_ _ | refine bstep (by assumption) ?_ | refine bstep (Past.prop _) ?_ | refine Below.setCell ?_ (by first | exact Nat.le_refl _ | (simp; done) | (simp; omega)) _))))).mono ?_); rintro e w1 ⟨rfl, hb1⟩)
    have hb : Below w.heap.size w w1 := by (repeat (first | exact Below.refl _ _ | assumption | refine balloc ?_ _ | refine below_drewN ?_ _ | refine bstep (by assumption) ?_ | refine bstep (Past.prop _) ?_ | refine Below.setCell ?_ (by first | exact Nat.le_refl _ | (simp; done) | (simp; omega)) _))
    have BQ := (Blk.made w #[.int .i64 q] 2).past hb1
    have t0 := BQ.cell 0; have t1 := BQ.lt
    simp at t0
    clear hb1
    go_wp2_with fail
    ((with_reducible refine (HQ.out _).mono ?_); rintro e w2 ⟨rfl, rfl⟩)
    go_wp2_with fail
    ((with_reducible refine (HX.out _).mono ?_); rintro e w2 ⟨rfl, rfl⟩)
    go_wp2_with fail
    ((with_reducible refine (HN.out _ (HA.out.past hb)).mono ?_); rintro e w2 ⟨rfl, hb2⟩)
    have hb2' := hb.trans (hb2.mono hb.size)
    go_wp2
    go_ret2
    exact ⟨_, _, rfl, sliVs_nil _, hb2'⟩
  rw [binsS_ok h1 h2 h3]
  rw [h3] at HN
  obtain ⟨d, hd⟩ : ∃ d, d = downI x q := ⟨_, rfl⟩
  rw [← hd]
  have HD := hidE (fun W => down_c x q W hq (by omega))
  rw [← hd] at HD
  have d1 := down_le (t := x) (q := q) (by omega); have d2 := down_gt (t := x) (q := q) (by omega)
  have hdm : d % q = 0 := by rw [hd]; exact down_mul
  obtain ⟨mq, hmq⟩ : ∃ mq, mq = m * q := ⟨_, rfl⟩
  have hmq0 : 0 ≤ mq := by rw [hmq]; exact Int.mul_nonneg (by omega) (by omega)
  have hmq1 : mq ≤ 16777216 := by
    rw [hmq]
    have := Int.mul_le_mul (a := m) (b := q) (c := 4096) (d := 4096) (by omega) (by omega) (by omega) (by omega)
    omega
  obtain ⟨y, hy⟩ : ∃ y, y = d + mq := ⟨_, rfl⟩
  have hym : y % q = 0 := by rw [hy, hmq, Int.add_mul_emod_self_right]; exact hdm
  have HFIN := hidE (show ∀ n : Nat, y = d + (n * q.toNat : Nat) → n = m.toNat from fun n h => by
    have h1 : ((n * q.toNat : Nat) : Int) = m * q := by omega
    rw [Int.natCast_mul, show ((q.toNat : Nat) : Int) = q by omega] at h1
    have := Int.eq_of_mul_eq_mul_right (show q ≠ 0 by omega) h1
    omega)
  have WM := hidE (show IntKind.i64.wrap (m * q) = mq by rw [← hmq]; exact IntWalk.i64_in _ (by omega))
  have WM2 := hidE (show wrap64 (m * q) = mq by rw [← hmq]; unfold wrap64; omega)
  have WQ := hidE (show wrap64 (d + mq) = y by unfold wrap64; omega)
  have HRW := hidE (fun (W : World) (p pq : Nat) (hp : p < W.heap.size) (hpq : pq < p) (hwp : w.heap.size ≤ pq) (hb' : Below w.heap.size w W) (hB : Blk W p #[.slice none 0 0] 31) (hB2 : Blk W pq #[.int .i64 q] 2) =>
    rows_su_c F q d y a cap #[.pointer (some ⟨pq, 0, none⟩), .pointer (some ⟨p, 0, none⟩)] w W (BiI F q d w p pq) (by omega) hc hc' HA.out hb' hF hq hdm hym (by omega) (by omega) (by omega)
      (fun s g A B h hb2 hk => biI_keep (m := W.heap.size) hp (by omega) hb'.size h hb2 hk) (fun s g A ⟨n, _, h, _, _⟩ => ownI_own h)
      (fun pre s g W1 h hz hn hr => bcl_c F q d y w W1 p pq W.heap.size pre s g hp hpq hwp hz hq (by omega) (by omega) (by omega) h hr)
      ⟨0, by simp [endG], ⟨.slice none 0 0, p + 1, hB, hb', own_nil _ _ _, by omega, by omega, .inl ⟨rfl, rfl⟩⟩, hB2, .inl rfl⟩)
  clear h1 h2 h3 hF hb hd d1 d2 hdm hmq hmq0 hmq1 hy hym hc hc'
  go_enter Try.func10, Try.ntmps10
  go_wp2_with fail
  ((with_reducible refine (HV.out _ (HA.out.past (by (repeat (first | exact Below.refl _ _ | assumption | refine balloc ?_ _ | refine below_drewN ?_ _ | refine bstep (by assumption) ?_ | refine bstep (Past.prop _) ?_ | refine Below.setCell ?_ (by first | exact Nat.le_refl _ | (simp; done) | (simp; omega)) _))))).mono ?_); rintro e w1 ⟨rfl, hb1⟩)
  have hb : Below w.heap.size w w1 := by (repeat (first | exact Below.refl _ _ | assumption | refine balloc ?_ _ | refine below_drewN ?_ _ | refine bstep (by assumption) ?_ | refine bstep (Past.prop _) ?_ | refine Below.setCell ?_ (by first | exact Nat.le_refl _ | (simp; done) | (simp; omega)) _))
  have BQ := (Blk.made w #[.int .i64 q] 2).past hb1
  have t0 := BQ.cell 0; have t1 := BQ.lt
  simp at t0
  have HBQ := hidE BQ
  clear hb1 BQ
  go_wp2_with fail
  ((with_reducible refine (HQ.out _).mono ?_); rintro e w2 ⟨rfl, rfl⟩)
  go_wp2_with fail
  ((with_reducible refine (HX.out _).mono ?_); rintro e w2 ⟨rfl, rfl⟩)
  go_wp2_with fail
  ((with_reducible refine (HN.out _ (HA.out.past hb)).mono ?_); rintro e w2 ⟨rfl, hb2⟩)
  have hb2' := hb.trans (hb2.mono hb.size)
  have BQ2 := HBQ.out.past hb2
  clear t0 t1 hb hb2 HBQ
  have t0 := BQ2.cell 0; have t1 := BQ2.lt
  simp at t0
  have HB2 := hidE hb2'; have HBQ := hidE BQ2
  clear hb2' BQ2
  go_wp2_with fail
  ((with_reducible refine (HD.out _).mono ?_); rintro e w3 ⟨rfl, hb3⟩)
  have BQ3 := HBQ.out.past hb3
  have HB3 := hidE (HB2.out.trans (hb3.mono HB2.out.size))
  have HPQ := hidE (show w.heap.size < w3.heap.size by have := HBQ.out.lt; have := hb3.size; omega)
  clear t0 t1 hb3 HB2 HBQ
  have t0 := BQ3.cell 0; have t1 := BQ3.lt
  simp at t0
  have HBQ := hidE BQ3
  clear BQ3
  go_wp2_with fail
  rw [WM2.out, WQ.out]
  have HBP := hidE (Blk.made w3 #[.slice none 0 0] 31)
  have HB4 := hidE (HB3.out.alloc HB3.out.size (.cells #[.slice none 0 0] 31))
  have HBQ4 := hidE (HBQ.out.alloc (.cells #[.slice none 0 0] 31))
  clear HBQ HB3 t0 t1
  generalize w3.alloc (.cells #[.slice none 0 0] 31) = w4 at *
  generalize w3.heap.size = p at *
  ((with_reducible refine (HRW.out w4 p w.heap.size HBP.out.lt HPQ.out (Nat.le_refl _) HB4.out HBP.out HBQ4.out).mono ?_))
  rintro e w6 ⟨⟨v6, rfl⟩, pre, g, ⟨n, hen, ho, hbq, hgn⟩, he, hn, hb6⟩
  obtain ⟨av, cp, γ, i1, i2, i3, i4, i5, i6, i7⟩ := ownI_base ho
  obtain rfl := HFIN.out n (he.symm.trans hen)
  have t0 := i1.cell 0; have t1 := i1.lt
  simp at t0
  have hsl : SliVs w6 (.slice av (binL F d q.toNat m.toNat).length cp) (binL F d q.toNat m.toNat) := sliVs_own (by rw [binL_len]; exact i3)
  have HSL := hidE hsl
  have HB6 := hidE hb6
  rw [show m.toNat = (binL F d q.toNat m.toNat).length from (binL_len _ _ _ _).symm] at t0
  clear hsl hb6 i1 i2 i3 i4 i5 i6 i7 ho hbq hgn hen he hn HRW
  generalize binL F d q.toNat m.toNat = L at *
  go_wp2
  go_ret2
  exact ⟨_, _, rfl, HSL.out, HB6.out⟩
end Go.Proofs.Ytigepmijgoglhaa



namespace Go.Proofs.Ytigepmijgoglhaa
open Go.ChangeShapes Go.WideShapes Go.ChangeAt Go.RowKit
attribute [local irreducible] Go.Calls

set_option maxHeartbeats 1000000 in
theorem rsame_c (l r : List Sg) (a a' : Option Addr) (cap cap' : Nat) (w : World) (hl : l.length ≤ 9223372036854775807) (hr : r.length ≤ 9223372036854775807) (hA : ArgS w a l) (hA' : ArgS w a' r) :
    Calls Try.prog 20 #[.slice a l.length cap, .slice a' r.length cap'] w fun e w' => e = .returned (.bool (sameB l r)) ∧ Below w.heap.size w w' := by
  have HA := hidE hA; have HA' := hidE hA'; clear hA hA'
  by_cases hlen : l.length = r.length
  · have e1 : ((l.length : Int) != (r.length : Int)) = false := by rw [bne_eq_false_iff_eq]; omega
    have e2 : ((l.length : Int) == (r.length : Int)) = true := beq_iff_eq.2 (by omega)
    have HL := hidE hlen
    have le1 : l.length ≤ r.length := by omega
    clear hlen
    go_enter Try.func20, Try.ntmps20
    go_wp2
    go_loopg [5] l.length (fun g vi wr => ∃ k : Nat, k ≤ l.length ∧ l.length - k ≤ g ∧ vi = .int .i64 k ∧ (∀ i, i < k → ats l i = ats r i ∧ vls l i = vls r i) ∧ Below w.heap.size w wr)
    case atStart => exact ⟨0, Nat.zero_le _, by omega, rfl, fun i hi => by omega, Below.refl _ _⟩
    case round =>
      obtain ⟨k, hk, hg, rfl, hs, hb⟩ := hrel
      have HS := hidE hs; have HB := hidE hb; clear hs hb
      by_cases hlt : k < l.length
      · obtain ⟨b, off, rfl, hb, hc⟩ := (HA.out.past HB.out) (by omega)
        obtain ⟨c0, c1, c2⟩ := hc.get hlt
        obtain ⟨b', off', rfl, hb', hc'⟩ := (HA'.out.past HB.out) (by omega)
        obtain ⟨d0, d1, d2⟩ := hc'.get (i := k) (by omega)
        clear hc hc'
        by_cases hne : ats l k = ats r k ∧ (vls l k).1 = (vls r k).1 ∧ (vls l k).2 = (vls r k).2
        · have HX := hidE (show ∀ i, i < k + 1 → ats l i = ats r i ∧ vls l i = vls r i from fun i hi => by
            by_cases e : i = k
            · rw [e]; exact ⟨hne.1, Prod.ext hne.2.1 hne.2.2⟩
            · exact HS.out i (by omega))
          obtain ⟨n1, n2, n3⟩ := hne
          rw [← n1] at d0; rw [← n2] at d1; rw [← n3] at d2
          clear n1 n2 n3
          generalize ats l k = u at *
          generalize vls l k = v at *
          go_wp2
          go_quiet (fail)
          go_wp2
          go_roundg (l.length - (k + 1))
          case measure => omega
          case rel => exact ⟨k + 1, by omega, Nat.le_refl _, by go_num, HX.out, by have := HB.out; (repeat (first | exact Below.refl _ _ | assumption | refine balloc ?_ _ | refine below_drewN ?_ _ | refine bstep (by assumption) ?_ | refine bstep (Past.prop _) ?_ | refine Below.setCell ?_ (by first | exact Nat.le_refl _ | (simp; done) | (simp; omega)) _))⟩
        · have HX := hidE (show sameB l r = false from same_f (i := k) (by
            by_cases e : ats l k = ats r k
            · right; intro h; exact hne ⟨e, by rw [h], by rw [h]⟩
            · exact .inl e))
          by_cases n1 : ats l k = ats r k
          · by_cases n2 : (vls l k).1 = (vls r k).1
            · have n3 : ((vls l k).2 == (vls r k).2) = false := beq_eq_false_iff_ne.2 fun h => hne ⟨n1, n2, h⟩
              rw [← n1] at d0; rw [← n2] at d1
              clear n1 n2 hne
              generalize ats l k = u at *
              generalize vls l k = v at *
              generalize vls r k = v' at *
              go_wp2
              go_quiet (fail)
              go_wp2
              go_ret
              exact ⟨ret_bool (by rw [HX.out]), by have := HB.out; (repeat (first | exact Below.refl _ _ | assumption | refine balloc ?_ _ | refine below_drewN ?_ _ | refine bstep (by assumption) ?_ | refine bstep (Past.prop _) ?_ | refine Below.setCell ?_ (by first | exact Nat.le_refl _ | (simp; done) | (simp; omega)) _))⟩
            · have n3 : ((vls l k).1 == (vls r k).1) = false := beq_eq_false_iff_ne.2 n2
              rw [← n1] at d0
              clear n1 n2 hne
              generalize ats l k = u at *
              generalize vls l k = v at *
              generalize vls r k = v' at *
              go_wp2
              go_quiet (fail)
              go_wp2
              go_ret
              exact ⟨ret_bool (by rw [HX.out]), by have := HB.out; (repeat (first | exact Below.refl _ _ | assumption | refine balloc ?_ _ | refine below_drewN ?_ _ | refine bstep (by assumption) ?_ | refine bstep (Past.prop _) ?_ | refine Below.setCell ?_ (by first | exact Nat.le_refl _ | (simp; done) | (simp; omega)) _))⟩
          · have n3 : (ats l k == ats r k) = false := beq_eq_false_iff_ne.2 n1
            clear n1 hne
            generalize ats l k = u at *
            generalize vls l k = v at *
            generalize ats r k = u' at *
            generalize vls r k = v' at *
            go_wp2
            go_quiet (fail)
            go_wp2
            go_ret
            exact ⟨ret_bool (by rw [HX.out]), by have := HB.out; (repeat (first | exact Below.refl _ _ | assumption | refine balloc ?_ _ | refine below_drewN ?_ _ | refine bstep (by assumption) ?_ | refine bstep (Past.prop _) ?_ | refine Below.setCell ?_ (by first | exact Nat.le_refl _ | (simp; done) | (simp; omega)) _))⟩
      · have hk' : k = l.length := by omega
        subst hk'
        have HX := hidE (same_t HL.out HS.out)
        go_wp2
        go_ret
        exact ⟨ret_bool (by rw [HX.out]), HB.out⟩
  · have e1 : ((l.length : Int) != (r.length : Int)) = true := bne_iff_ne.2 (by omega)
    have e2 : ((l.length : Int) == (r.length : Int)) = false := beq_eq_false_iff_ne.2 (by omega)
    have HX := hidE (show sameB l r = false from decide_eq_false (fun e => hlen (by rw [e])))
    clear hlen
    go_enter Try.func20, Try.ntmps20
    go_wp2
    go_ret
    exact ⟨ret_bool (by rw [HX.out]), Below.refl _ _⟩

end Go.Proofs.Ytigepmijgoglhaa

namespace Go.Proofs.Ytigepmijgoglhaa
open Go.ChangeShapes Go.WideShapes Go.ChangeAt Go.RowKit
attribute [local irreducible] Go.Calls

set_option maxHeartbeats 1000000 in
theorem rat_c (l : List Sg) (a : Option Addr) (cap : Nat) (t : Int) (w : World) (hl : l.length ≤ 9223372036854775807) (hA : ArgS w a l) :
    Calls Try.prog 28 #[.slice a l.length cap, .int .i64 t] w fun e w' => e = .returned (V (vat l t).1 (vat l t).2) ∧ Below w.heap.size w w' := by
  have HA := hidE hA; clear hA
  go_enter Try.func28, Try.ntmps28
  go_wp2
  go_loopg [6] l.length (fun g vi wr => ∃ k : Nat, k ≤ l.length ∧ l.length - k ≤ g ∧ vi = .int .i64 k ∧ Below w.heap.size w wr ∧ Blk wr (w.heap.size + 1) #[.int .i64 (vat (l.take k) t).1, .int .i64 (vat (l.take k) t).2] 35 ∧ Blk wr w.heap.size #[.int .i64 0, .int .i64 0] 35)
  case atStart => exact ⟨0, Nat.zero_le _, by omega, rfl, by (repeat (first | exact Below.refl _ _ | assumption | refine balloc ?_ _ | refine below_drewN ?_ _ | refine bstep (by assumption) ?_ | refine bstep (Past.prop _) ?_ | refine Below.setCell ?_ (by first | exact Nat.le_refl _ | (simp; done) | (simp; omega)) _)), Blk.made_at _ _ _ _ (by simp), (Blk.made _ _ _).alloc _⟩
  case round =>
    obtain ⟨k, hk, hg, rfl, hb, h1, h0⟩ := hrel
    have c10 := h1.cell 0; have c11 := h1.cell 1; have f1 := h1.free; have c00 := h0.cell 0; have c01 := h0.cell 1; have f0 := h0.free; have z1 := h1.lt; have z0 := h0.lt
    simp at c10 c11 c00 c01
    by_cases hlt : k < l.length
    · have HST := hidE (vat_step (t := t) hlt)
      obtain ⟨b, off, rfl, hbb, hc⟩ := (HA.out.past hb) (by omega)
      have hbw : b < w.heap.size := by
        obtain ⟨b', off', e, hb', _⟩ := HA.out (by omega)
        simp at e; omega
      obtain ⟨d0, d1, d2⟩ := hc.get hlt
      clear hc
      by_cases hq : ats l k ≤ t
      · have HS := hidE (show vat (l.take (k + 1)) t = vls l k by rw [HST.out, if_pos hq])
        have d3 : decide (ats l k ≤ t) = true := decide_eq_true hq
        have hn1 : b ≠ w.heap.size := by omega
        have hn2 : b ≠ w.heap.size + 1 := by omega
        clear HST c00 c01
        generalize ats l k = u at *
        generalize vls l k = v at *
        generalize vat (l.take k) t = q at *
        go_wp2
        go_roundg (l.length - (k + 1))
        case measure => omega
        case rel => exact ⟨k + 1, by omega, Nat.le_refl _, by go_num, by (repeat (first | exact Below.refl _ _ | assumption | refine balloc ?_ _ | refine below_drewN ?_ _ | refine bstep (by assumption) ?_ | refine bstep (Past.prop _) ?_ | refine Below.setCell ?_ (by first | exact Nat.le_refl _ | (simp; done) | (simp; omega)) _)), by rw [HS.out]; exact (h1.set 0 _).set 1 _, (h0.other (by omega) _).other (by omega) _⟩
      · have HS := hidE (show vat (l.take (k + 1)) t = vat (l.take k) t by rw [HST.out, if_neg hq])
        have d3 : decide (ats l k ≤ t) = false := decide_eq_false hq
        clear HST
        generalize ats l k = u at *
        go_wp2
        go_roundg (l.length - (k + 1))
        case measure => omega
        case rel => exact ⟨k + 1, by omega, Nat.le_refl _, by go_num, hb, by rw [HS.out]; exact h1, h0⟩
    · have hk' : k = l.length := by omega
      subst hk'
      have e : vat (l.take l.length) t = vat l t := by rw [List.take_length]
      rw [e] at c10 c11
      clear e
      generalize hq : vat l t = q at *
      have HQ := hidE hq; clear hq
      go_wp2
      have B0 := (h0.set 0 (.int .i64 q.1)).set 1 (.int .i64 q.2)
      have g0 := B0.cell 0; have g1 := B0.cell 1
      simp at g0 g1
      refine bodyPost_ret (v := V q.1 q.2) (by simp [results, Try.results28, go_sem, g0, g1]) rfl ⟨by rw [HQ.out], ?_⟩
      (repeat (first | exact Below.refl _ _ | assumption | refine balloc ?_ _ | refine below_drewN ?_ _ | refine bstep (by assumption) ?_ | refine bstep (Past.prop _) ?_ | refine Below.setCell ?_ (by first | exact Nat.le_refl _ | (simp; done) | (simp; omega)) _))
end Go.Proofs.Ytigepmijgoglhaa

namespace Go.Proofs.Ytigepmijgoglhaa
open Go.ChangeShapes Go.WideShapes Go.ChangeAt Go.RowKit



end Go.Proofs.Ytigepmijgoglhaa

namespace Go.Proofs.Ytigepmijgoglhaa
open Go.ChangeShapes Go.WideShapes Go.ChangeAt Go.RowKit
attribute [local irreducible] Go.Calls

theorem qdown_s {t q : Int} {w : World} {r : Int × Int} (he : downS t q = r) : Calls Try.prog 5 #[.int .i64 t, .int .i64 q] w fun e w' => e = .returned (I2 r) ∧ Below w.heap.size w w' := he ▸ qdown_c t q w
theorem qup_s {t q : Int} {w : World} {r : Int × Int} (he : upS t q = r) : Calls Try.prog 7 #[.int .i64 t, .int .i64 q] w fun e w' => e = .returned (I2 r) ∧ Below w.heap.size w w' := he ▸ qup_c t q w
theorem quant_s {w : World} {n c1 : Nat} {a1 : Option Addr} {q : Int} {F r : List Sg} {er : Int} (h1 : SliS w (.slice a1 n c1) F) (hl : n ≤ 100000) (he : quantS F q = (r, er)) :
    Calls Try.prog 19 #[.slice a1 n c1, .int .i64 q] w (OfIs w r er) := by
  obtain ⟨e1, q1, q2, q3⟩ := h1.len
  subst e1
  have := quant_c F q a1 c1 w q1 q2 (by omega) q3
  rw [he] at this; exact this
theorem bins_s {w : World} {n c1 : Nat} {a1 : Option Addr} {q x m : Int} {F : List Sg} {r : List (Int × Int)} {er : Int} (h1 : SliS w (.slice a1 n c1) F) (hl : n ≤ 100000) (he : binsS F q x m = (r, er)) :
    Calls Try.prog 10 #[.slice a1 n c1, .int .i64 q, .int .i64 x, .int .i64 m] w (VsIs w r er) := by
  obtain ⟨e1, q1, q2, q3⟩ := h1.len
  subst e1
  have := bins_c F q x m a1 c1 w q1 q2 (by omega) q3
  rw [he] at this; exact this
theorem qsame_s {w : World} {n m c1 c2 : Nat} {a1 a2 : Option Addr} {F G : List Sg} {b : Bool} (h1 : SliS w (.slice a1 n c1) F) (h2 : SliS w (.slice a2 m c2) G) (he : sameB F G = b) :
    Calls Try.prog 20 #[.slice a1 n c1, .slice a2 m c2] w fun e w' => e = .returned (.bool b) ∧ Below w.heap.size w w' := by
  obtain ⟨e1, q1, q2, q3⟩ := h1.len; obtain ⟨e2, s1, s2, s3⟩ := h2.len
  subst e1; subst e2; subst he
  exact rsame_c F G a1 a2 c1 c2 w (by omega) (by omega) q3 s3
theorem qat_s {w : World} {n c1 : Nat} {a1 : Option Addr} {t : Int} {F : List Sg} {v : Int × Int} (h1 : SliS w (.slice a1 n c1) F) (hl : n ≤ 100000) (he : vat F t = v) :
    Calls Try.prog 28 #[.slice a1 n c1, .int .i64 t] w fun e w' => e = .returned (V v.1 v.2) ∧ Below w.heap.size w w' := by
  obtain ⟨e1, q1, q2, q3⟩ := h1.len
  subst e1; subst he
  exact rat_c F a1 c1 t w (by omega) q3
theorem qsame_t (l : List Sg) : sameB l l = true := decide_eq_true rfl
end Go.Proofs.Ytigepmijgoglhaa

namespace Go.Proofs.Ytigepmijgoglhaa
open Go.ChangeShapes Go.WideShapes Go.ChangeAt Go.RowKit
attribute [local irreducible] Go.Calls

theorem hq_d1 : downS 7 5 = (5, 0) := by decide +kernel
theorem hq_d2 : downS (-1) 5 = (-5, 0) := by decide +kernel
theorem hq_u1 : upS 7 5 = (10, 0) := by decide +kernel
theorem hq_u2 : upS 10 5 = (10, 0) := by decide +kernel
theorem hq_u3 : upS (-1) 5 = (0, 0) := by decide +kernel
theorem hq_d3 : downS 1125899906842624 3 = (1125899906842623, 0) := by decide +kernel
theorem hq_q : quantS [(2, (3, 1)), (7, (1, 5)), (8, (0, 0))] 5 = ([(0, (3, 1)), (5, (3, 5)), (10, (0, 0))], 0) := by decide +kernel
theorem hq_q0 : quantS [(2, (3, 1)), (7, (1, 5)), (8, (0, 0))] 0 = ([], 2) := by decide +kernel
theorem hq_b : binsS [(2, (3, 1)), (7, (1, 5)), (8, (0, 0))] 5 3 3 = ([(9, 3), (7, 7), (0, 0)], 0) := by decide +kernel

set_option maxRecDepth 100000 in
set_option maxHeartbeats 8000000 in
theorem qhead_c (w : World) : Calls Try.prog 9 #[] w fun e w' => e = .returned (.bool true) ∧ Below w.heap.size w w' := by
  go_enter Try.func9, Try.ntmps9
  go_upto_region 1 with fail
  go_cut [1] (fun s1 wx => ∃ (a1 : Option Addr) (c1 : Nat), s1 = .slice a1 3 c1 ∧ SliS wx (.slice a1 3 c1) [(2, (3, 1)), (7, (1, 5)), (8, (0, 0))] ∧ Below w.heap.size w wx)
  case first =>
    go_wp2_with (go_at_call 18; ((with_reducible refine (seg_c _ _ _ _).mono ?_); rintro e w1 ⟨rfl, hb1⟩))
    go_meet
    case rel => exact ⟨_, _, rfl, (by (repeat (first | assumption | exact sliS_nil _ | (refine sliS_new (Blk.made _ _ _) rfl rfl (by decide); done) | refine SliS.past ?_ (by assumption) | refine sliS_alloc ?_ _))), by (repeat (first | exact Below.refl _ _ | assumption | refine balloc ?_ _ | refine below_drewN ?_ _ | refine bstep (by assumption) ?_ | refine bstep (Past.prop _) ?_ | refine Below.setCell ?_ (by first | exact Nat.le_refl _ | (simp; done) | (simp; omega)) _))⟩
  obtain ⟨a1, c1, rfl, S1, hb⟩ := hcut
  go_upto_region 7 with (first | (go_at_call 5; ((with_reducible refine (qdown_s hq_d1).mono ?_); rintro e w2 ⟨rfl, hb2⟩)) | (go_at_call 5; ((with_reducible refine (qdown_s hq_d2).mono ?_); rintro e w2 ⟨rfl, hb2⟩)) | (go_at_call 7; ((with_reducible refine (qup_s hq_u1).mono ?_); rintro e w2 ⟨rfl, hb2⟩)) | (go_at_call 7; ((with_reducible refine (qup_s hq_u2).mono ?_); rintro e w2 ⟨rfl, hb2⟩)) | (go_at_call 7; ((with_reducible refine (qup_s hq_u3).mono ?_); rintro e w2 ⟨rfl, hb2⟩)))
  go_cut [12, 13] (fun s12 s13 wx => ∃ (aM : Option Addr) (cM : Nat), s12 = .slice aM 3 cM ∧ s13 = .int .i64 0 ∧ SliS wx (.slice a1 3 c1) [(2, (3, 1)), (7, (1, 5)), (8, (0, 0))] ∧ SliS wx (.slice aM 3 cM) [(0, (3, 1)), (5, (3, 5)), (10, (0, 0))] ∧ Below w.heap.size w wx)
  case first =>
    go_wp2_with ((go_at_call 19; ((with_reducible refine (Calls.ofSl (n := 3) (quant_s (F := [(2, (3, 1)), (7, (1, 5)), (8, (0, 0))]) (by (repeat (first | assumption | exact sliS_nil _ | (refine sliS_new (Blk.made _ _ _) rfl rfl (by decide); done) | refine SliS.past ?_ (by assumption) | refine sliS_alloc ?_ _))) (by omega) hq_q) rfl).mono ?_); rintro e wM ⟨aM, cM, rfl, SM, hbM⟩)))
    go_meet
    case rel => exact ⟨_, _, rfl, rfl, (by (repeat (first | assumption | exact sliS_nil _ | (refine sliS_new (Blk.made _ _ _) rfl rfl (by decide); done) | refine SliS.past ?_ (by assumption) | refine sliS_alloc ?_ _))), (by (repeat (first | assumption | exact sliS_nil _ | (refine sliS_new (Blk.made _ _ _) rfl rfl (by decide); done) | refine SliS.past ?_ (by assumption) | refine sliS_alloc ?_ _))), by (repeat (first | exact Below.refl _ _ | assumption | refine balloc ?_ _ | refine below_drewN ?_ _ | refine bstep (by assumption) ?_ | refine bstep (Past.prop _) ?_ | refine Below.setCell ?_ (by first | exact Nat.le_refl _ | (simp; done) | (simp; omega)) _))⟩
  obtain ⟨aM, cM, rfl, rfl, S1, SM, hb⟩ := hcut
  go_upto_region 8 with fail
  go_cut [14, 15] (fun s14 s15 wx => ∃ (aB : Option Addr) (cB : Nat), s14 = .slice aB 3 cB ∧ s15 = .int .i64 0 ∧ SliS wx (.slice a1 3 c1) [(2, (3, 1)), (7, (1, 5)), (8, (0, 0))] ∧ SliS wx (.slice aM 3 cM) [(0, (3, 1)), (5, (3, 5)), (10, (0, 0))] ∧ SliVs wx (.slice aB 3 cB) [(9, 3), (7, 7), (0, 0)] ∧ Below w.heap.size w wx)
  case first =>
    go_wp2_with (go_at_call 10; ((with_reducible refine (bins_s (F := [(2, (3, 1)), (7, (1, 5)), (8, (0, 0))]) (by (repeat (first | assumption | exact sliS_nil _ | (refine sliS_new (Blk.made _ _ _) rfl rfl (by decide); done) | refine SliS.past ?_ (by assumption) | refine sliS_alloc ?_ _))) (by omega) hq_b).mono ?_); rintro e wB ⟨aB, cB, rfl, SB, hbB⟩))
    go_meet
    case rel => exact ⟨aB, cB, rfl, rfl, (by (repeat (first | assumption | exact sliS_nil _ | (refine sliS_new (Blk.made _ _ _) rfl rfl (by decide); done) | refine SliS.past ?_ (by assumption) | refine sliS_alloc ?_ _))), (by (repeat (first | assumption | exact sliS_nil _ | (refine sliS_new (Blk.made _ _ _) rfl rfl (by decide); done) | refine SliS.past ?_ (by assumption) | refine sliS_alloc ?_ _))), SB, by (repeat (first | exact Below.refl _ _ | assumption | refine balloc ?_ _ | refine below_drewN ?_ _ | refine bstep (by assumption) ?_ | refine bstep (Past.prop _) ?_ | refine Below.setCell ?_ (by first | exact Nat.le_refl _ | (simp; done) | (simp; omega)) _))⟩
  obtain ⟨aB, cB, rfl, rfl, S1, SM, SB, hb⟩ := hcut
  go_upto_region 9 with fail
  go_cut [16, 17] (fun s16 s17 wx => s17 = .int .i64 2 ∧ SliS wx (.slice aM 3 cM) [(0, (3, 1)), (5, (3, 5)), (10, (0, 0))] ∧ SliVs wx (.slice aB 3 cB) [(9, 3), (7, 7), (0, 0)] ∧ Below w.heap.size w wx)
  case first =>
    go_wp2_with ((go_at_call 19; ((with_reducible refine (Calls.ofSl (n := 0) (quant_s (F := [(2, (3, 1)), (7, (1, 5)), (8, (0, 0))]) (by (repeat (first | assumption | exact sliS_nil _ | (refine sliS_new (Blk.made _ _ _) rfl rfl (by decide); done) | refine SliS.past ?_ (by assumption) | refine sliS_alloc ?_ _))) (by omega) hq_q0) rfl).mono ?_); rintro e wZ ⟨aZ, cZ, rfl, SZ, hbZ⟩)))
    go_meet
    case rel => exact ⟨rfl, (by (repeat (first | assumption | exact sliS_nil _ | (refine sliS_new (Blk.made _ _ _) rfl rfl (by decide); done) | refine SliS.past ?_ (by assumption) | refine sliS_alloc ?_ _))), SB.past hbZ, by (repeat (first | exact Below.refl _ _ | assumption | refine balloc ?_ _ | refine below_drewN ?_ _ | refine bstep (by assumption) ?_ | refine bstep (Past.prop _) ?_ | refine Below.setCell ?_ (by first | exact Nat.le_refl _ | (simp; done) | (simp; omega)) _))⟩
  obtain ⟨rfl, SM, SB, hb⟩ := hcut
  go_upto_region 11 with ((go_at_call 5; ((with_reducible refine (qdown_s hq_d3).mono ?_); rintro e w2 ⟨rfl, hb2⟩)))
  have SB := SB.past hb2
  have SM := SM.past hb2
  have hbw : Below w.heap.size w w2 := hb.trans (hb2.mono hb.size)
  clear hb hb2
  obtain ⟨_, _, _, hAV⟩ := sliVs_len SB
  obtain ⟨bv, ov, rfl, hbv, hcv⟩ := hAV (by decide)
  obtain ⟨m0, m1⟩ := hcv 0 (by decide)
  obtain ⟨m2, m3⟩ := hcv 1 (by decide)
  obtain ⟨m4, m5⟩ := hcv 2 (by decide)
  simp at m0 m1 m2 m3 m4 m5
  have M0 := hidE m0; have M1 := hidE m1; have M2 := hidE m2; have M3 := hidE m3; have M4 := hidE m4; have M5 := hidE m5
  clear m0 m1 m2 m3 m4 m5 SB hAV hcv
  obtain ⟨wz, hwz⟩ : ∃ wz : World, wz = w2 := ⟨_, rfl⟩
  subst hwz
  try simp only [List.append_eq, List.cons_append, List.nil_append]
  go_wp2_with (go_at_call 18; ((with_reducible refine (seg_c _ _ _ _).mono ?_); rintro e w1 ⟨rfl, hb1⟩))
  refine (qsame_s (a1 := aM) (F := [(0, (3, 1)), (5, (3, 5)), (10, (0, 0))]) (G := [(0, (3, 1)), (5, (3, 5)), (10, (0, 0))]) (b := true) (by (repeat (first | assumption | exact sliS_nil _ | (refine sliS_new (Blk.made _ _ _) rfl rfl (by decide); done) | refine SliS.past ?_ (by assumption) | refine sliS_alloc ?_ _))) (by (repeat (first | assumption | exact sliS_nil _ | (refine sliS_new (Blk.made _ _ _) rfl rfl (by decide); done) | refine SliS.past ?_ (by assumption) | refine sliS_alloc ?_ _))) (by decide)).mono ?_
  rintro e w5 ⟨rfl, hb5⟩
  have hz5 : Below wz.heap.size wz w5 := by (repeat (first | exact Below.refl _ _ | assumption | refine balloc ?_ _ | refine below_drewN ?_ _ | refine bstep (by assumption) ?_ | refine bstep (Past.prop _) ?_ | refine Below.setCell ?_ (by first | exact Nat.le_refl _ | (simp; done) | (simp; omega)) _))
  have n0 := (hz5.cell (p := ⟨bv, _, none⟩) hbv).trans M0.out; have n1 := (hz5.cell (p := ⟨bv, _, none⟩) hbv).trans M1.out; have n2 := (hz5.cell (p := ⟨bv, _, none⟩) hbv).trans M2.out; have n3 := (hz5.cell (p := ⟨bv, _, none⟩) hbv).trans M3.out; have n4 := (hz5.cell (p := ⟨bv, _, none⟩) hbv).trans M4.out; have n5 := (hz5.cell (p := ⟨bv, _, none⟩) hbv).trans M5.out
  have nz : bv < w5.heap.size := Nat.lt_of_lt_of_le hbv hz5.size
  have HZ5 := hidE hz5
  clear hb5 hz5
  go_wp2
  go_ret
  exact ⟨rfl, hbw.trans (HZ5.out.mono hbw.size)⟩
end Go.Proofs.Ytigepmijgoglhaa
