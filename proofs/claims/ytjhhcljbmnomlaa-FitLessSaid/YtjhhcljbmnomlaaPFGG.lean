/- The contract of the document's own May of functions. No conditions but the list's size. The contracts of the document's own answers for vec: sums, differences, least, greatest, at most. No conditions. The contract of the document's own LE of functions. No conditions but the lists' sizes. The contract of the document's own canonical function. No conditions but the list's size. The contract of the document's own Box. No conditions. For the walks of fit's statements: what the layers below hand back, from slices that read as lists. No conditions. What the document fixes of package fit: the statements' own 'head' answers true. No conditions. A region that draws its order, by an invariant of what has run: an operation may use up what another one made (an append its row). No conditions. Appends to a row of the call's own, of a slice whose cells are known, elements of any size. No function of the program. No conditions. A region that draws its order and puts two rows behind a part, append(append([]T{x}, a...), b...), by an invariant of what has run. No function of the program. No conditions. A region that draws its order and holds a chain of appends, append(append(r, a...), b...), whose sources may be made in the region too: an invariant of what has run. No function of the program. No conditions. For the walks of FitUsed and FitLess: rows of policies, what is too great, being at most everywhere. No conditions but the sizes. -/
import Derived.Test.YtjhhcljbmnomlaaPFGF
import Derived.Test.YtjhhcljbmnomlaaPFGC
import Derived.Test.YtjhhcljbmnomlaaPFMB
import Derived.Test.YtjhhcljbmnomlaaPFGA
import Derived.Test.YtjhhcljbmnomlaaRows
import Derived.LoopTactic
import Derived.Deep.LoopGhost
import Derived.WalkMore
import Derived.ScopeJumps
import Derived.Deep.DeepCutAuto
import Derived.Outline
import Derived.BigRegion
import Derived.Laws.AppendOwn
import Derived.Laws.OwnMore
import Derived.Laws.IdiomStrings
import Derived.Maps.AppendAt
namespace Go.Proofs.Ytjhhcljbmnomlaa
open Go.ChangeShapes Go.WideShapes Go.ChangeAt Go.RowKit
attribute [local irreducible] Go.Calls

set_option maxRecDepth 100000 in
set_option maxHeartbeats 4000000 in
theorem rmayf_c (l : List Sg) (a : Option Addr) (cap : Nat) (w : World) (hl : l.length ≤ 1099511627776) (hA : ArgS w a l) :
    Calls Try.prog 62 #[.slice a l.length cap] w fun e w' => e = .returned (.bool (mayB l)) ∧ Below w.heap.size w w' := by
  have HA := hidE hA; clear hA
  obtain ⟨p, hp⟩ : ∃ p, p = w.heap.size := ⟨_, rfl⟩
  have HPP := hidE hp
  go_enter Try.func62, Try.ntmps62
  go_wp2
  go_loopg [4] l.length (fun g vi wr => ∃ k : Nat, k ≤ l.length ∧ l.length - k ≤ g ∧ vi = .int .i64 k ∧ (∀ i, i < k → okAt (0, 0) l i = true) ∧ Below w.heap.size w wr ∧ Blk wr w.heap.size #[.int .i64 (prevV l k).1, .int .i64 (prevV l k).2] 27)
  case atStart => exact ⟨0, Nat.zero_le _, by omega, rfl, fun i hi => by omega, by (repeat (first | exact Below.refl _ _ | assumption | refine balloc ?_ _ | refine below_drewN ?_ _ | refine bstep (by assumption) ?_ | refine bstep (Past.prop _) ?_ | refine Below.setCell ?_ (by first | exact Nat.le_refl _ | (simp; done) | (simp; omega)) _)), Blk.made_at _ _ _ _ (by simp)⟩
  case round =>
    obtain ⟨k, hk, hg, rfl, hs, hb, hB⟩ := hrel
    have HS := hidE hs; have HB := hidE hb; have HBP := hidE hB
    have q0 := hB.cell 0; have q1 := hB.cell 1; have qf := hB.free; have qz := hB.lt
    simp at q0 q1
    clear hs hb hB
    by_cases hlt : k < l.length
    · obtain ⟨b, off, rfl, hbb, hc⟩ := (HA.out.past HB.out) (by omega)
      have hbw : b < w.heap.size := by
        obtain ⟨b', off', e, hb', _⟩ := HA.out (by omega)
        simp at e; omega
      have hn1 : b ≠ w.heap.size := by omega
      obtain ⟨c0, c1, c2⟩ := hc.get hlt
      have HV := hidE (fun w => rin_c (l.getD k (0, 0, 0)) w)
      change Hid (∀ w, Calls _ _ #[S (ats l k) (vls l k).1 (vls l k).2] _ _) at HV
      have HPS := hidE (prevV_succ l k)
      obtain ⟨wo, rfl⟩ : ∃ wo : World, wo = wr := ⟨_, rfl⟩
      cases hok : okS (l.getD k (0, 0, 0))
      · have HX := hidE (mayB_bad hlt (show okAt (0, 0) l k = false by unfold okAt; rw [hok]; rfl))
        rw [hok] at HV
        clear hc HPP hp
        generalize ats l k = u at *
        generalize vls l k = v at *
        generalize prevV l k = q at *
        go_wp2_with fail
        refine wp_region_past_lit (by kernel_rfl) (by kernel_rfl) ?_
        have hcp := Past.cell (W := wo)
        repeat (go_big_quiet_step ((go_at_call 86; exact Past.call _ (HV.out _))))
        refine wpQuiet_nil ?_
        rintro _ ⟨x', rfl⟩
        have o1 : Below w.heap.size w x'.1 := bstep x'.2 HB.out
        clear hcp
        generalize x'.1 = w5 at *
        go_wp2
        go_ret
        exact ⟨ret_bool (by rw [HX.out]), o1⟩
      · rw [hok] at HV
        have HOK := hidE hok
        have HPV := hidE (show okAt (0, 0) l k = (!(vls l k == prevV l k) && (decide (k = 0) || decide (ats l (k - 1) < ats l k))) by unfold okAt; rw [HOK.out, Bool.true_and]; rfl)
        by_cases hv : vls l k = prevV l k
        · have HX := hidE (mayB_bad hlt (show okAt (0, 0) l k = false by rw [HPV.out, hv]; simp))
          rw [← hv] at q0 q1
          clear hc HPP hp hv HPV HBP HOK hok
          generalize ats l k = u at *
          generalize vls l k = v at *
          go_wp2_with fail
          refine wp_region_past_lit (by kernel_rfl) (by kernel_rfl) ?_
          have hcp := Past.cell (W := wo)
          repeat (go_big_quiet_step ((go_at_call 86; exact Past.call _ (HV.out _))))
          refine wpQuiet_nil ?_
          rintro _ ⟨x', rfl⟩
          have o1 : Below w.heap.size w x'.1 := bstep x'.2 HB.out
          clear hcp
          generalize x'.1 = w5 at *
          go_wp2
          go_ret
          exact ⟨ret_bool (by rw [HX.out]), o1⟩
        · have hne : ((vls l k).1 == (prevV l k).1) = true → ((vls l k).2 == (prevV l k).2) = false := fun h => by
            rw [Bool.eq_false_iff]; intro h2
            exact hv (Prod.ext (beq_iff_eq.1 h) (beq_iff_eq.1 h2))
          have HNE := hidE hne
          have HR := hidE (show okAt (0, 0) l k = (decide (k = 0) || decide (ats l (k - 1) < ats l k)) by rw [HPV.out, beq_eq_false_iff_ne.2 hv]; rfl)
          clear hne hv HPV HOK hok
          by_cases hk0 : k = 0
          · have HX := hidE (show ∀ i, i < k + 1 → okAt (0, 0) l i = true from fun i hi => by
              by_cases e : i = k
              · rw [e, HR.out, decide_eq_true hk0]; rfl
              · exact HS.out i (by omega))
            have hd : decide (0 < k) = false := decide_eq_false (by omega)
            clear hc HPP hp HR hk0
            generalize ats l k = u at *
            generalize vls l k = v at *
            generalize prevV l k = q at *
            cases hm : (v.1 == q.1)
            rotate_left
            · have hm2 := HNE.out hm
              go_wp2_with fail
              refine wp_region_past_lit (by kernel_rfl) (by kernel_rfl) ?_
              have hcp := Past.cell (W := wo)
              repeat (go_big_quiet_step ((go_at_call 86; exact Past.call _ (HV.out _))))
              refine wpQuiet_nil ?_
              rintro _ ⟨x', rfl⟩
              have o1 : Below w.heap.size w x'.1 := bstep x'.2 HB.out
              have oB := HBP.out.past x'.2
              have r0 := (hcp x' b (off + k * 3 + 1) hbb).trans c1
              have r1 := (hcp x' b (off + k * 3 + 2) hbb).trans c2
              have of' := oB.free
              have y0 := oB.cell 0
              have y1 := oB.cell 1
              simp at y0 y1
              have oz := oB.lt
              have obz : b < x'.1.heap.size := Nat.lt_of_lt_of_le hbb x'.2.size
              clear hcp c0 c1 c2 q0 q1 qf qz hbb
              generalize x'.1 = w5 at *
              go_wp2
              go_roundg (l.length - (k + 1))
              case measure => omega
              case rel => exact ⟨k + 1, by omega, Nat.le_refl _, by go_num, HX.out, by (repeat (first | exact Below.refl _ _ | assumption | refine balloc ?_ _ | refine below_drewN ?_ _ | refine bstep (by assumption) ?_ | refine bstep (Past.prop _) ?_ | refine Below.setCell ?_ (by first | exact Nat.le_refl _ | (simp; done) | (simp; omega)) _)), by rw [HPS.out]; exact (oB.set 0 _).set 1 _⟩
            · clear HNE
              go_wp2_with fail
              refine wp_region_past_lit (by kernel_rfl) (by kernel_rfl) ?_
              have hcp := Past.cell (W := wo)
              repeat (go_big_quiet_step ((go_at_call 86; exact Past.call _ (HV.out _))))
              refine wpQuiet_nil ?_
              rintro _ ⟨x', rfl⟩
              have o1 : Below w.heap.size w x'.1 := bstep x'.2 HB.out
              have oB := HBP.out.past x'.2
              have r0 := (hcp x' b (off + k * 3 + 1) hbb).trans c1
              have r1 := (hcp x' b (off + k * 3 + 2) hbb).trans c2
              have of' := oB.free
              have y0 := oB.cell 0
              have y1 := oB.cell 1
              simp at y0 y1
              have oz := oB.lt
              have obz : b < x'.1.heap.size := Nat.lt_of_lt_of_le hbb x'.2.size
              clear hcp c0 c1 c2 q0 q1 qf qz hbb
              generalize x'.1 = w5 at *
              go_wp2
              go_roundg (l.length - (k + 1))
              case measure => omega
              case rel => exact ⟨k + 1, by omega, Nat.le_refl _, by go_num, HX.out, by (repeat (first | exact Below.refl _ _ | assumption | refine balloc ?_ _ | refine below_drewN ?_ _ | refine bstep (by assumption) ?_ | refine bstep (Past.prop _) ?_ | refine Below.setCell ?_ (by first | exact Nat.le_refl _ | (simp; done) | (simp; omega)) _)), by rw [HPS.out]; exact (oB.set 0 _).set 1 _⟩
          · obtain ⟨j, hj⟩ : ∃ j, k = j + 1 := ⟨k - 1, by omega⟩
            have hd : decide (0 < k) = true := decide_eq_true (by omega)
            have hkj : (k : Int) - 1 = (j : Int) := by omega
            have HKJ := hidE hkj
            have hjl : j < l.length := by omega
            obtain ⟨e0, _, _⟩ := hc.get hjl
            by_cases hlt2 : ats l j < ats l k
            · have HX := hidE (show ∀ i, i < k + 1 → okAt (0, 0) l i = true from fun i hi => by
                by_cases e : i = k
                · rw [e, HR.out, hj, Nat.add_sub_cancel, ← hj, decide_eq_true hlt2, Bool.or_true]
                · exact HS.out i (by omega))
              have hd2 : decide (ats l k ≤ ats l j) = false := decide_eq_false (by omega)
              have HHJ := hidE hj
              clear hc HPP hp HR hlt2 hj hkj
              generalize ats l j = u' at *
              generalize ats l k = u at *
              generalize vls l k = v at *
              generalize prevV l k = q at *
              cases hm : (v.1 == q.1)
              rotate_left
              · have hm2 := HNE.out hm
                go_wp2_with fail
                refine wp_region_past_lit (by kernel_rfl) (by kernel_rfl) ?_
                have hcp := Past.cell (W := wo)
                have hkj := HKJ.out
                repeat (go_big_quiet_step ((go_at_call 86; exact Past.call _ (HV.out _))))
                refine wpQuiet_nil ?_
                rintro _ ⟨x', rfl⟩
                have o1 : Below w.heap.size w x'.1 := bstep x'.2 HB.out
                have oB := HBP.out.past x'.2
                have r0 := (hcp x' b (off + k * 3 + 1) hbb).trans c1
                have r1 := (hcp x' b (off + k * 3 + 2) hbb).trans c2
                have of' := oB.free
                have y0 := oB.cell 0
                have y1 := oB.cell 1
                simp at y0 y1
                have oz := oB.lt
                have obz : b < x'.1.heap.size := Nat.lt_of_lt_of_le hbb x'.2.size
                clear hcp c0 c1 c2 q0 q1 qf qz hbb
                generalize x'.1 = w5 at *
                go_wp2
                go_roundg (l.length - (k + 1))
                case measure => omega
                case rel => exact ⟨k + 1, by omega, Nat.le_refl _, by go_num, HX.out, by (repeat (first | exact Below.refl _ _ | assumption | refine balloc ?_ _ | refine below_drewN ?_ _ | refine bstep (by assumption) ?_ | refine bstep (Past.prop _) ?_ | refine Below.setCell ?_ (by first | exact Nat.le_refl _ | (simp; done) | (simp; omega)) _)), by rw [HPS.out]; exact (oB.set 0 _).set 1 _⟩
              · clear HNE
                go_wp2_with fail
                refine wp_region_past_lit (by kernel_rfl) (by kernel_rfl) ?_
                have hcp := Past.cell (W := wo)
                have hkj := HKJ.out
                repeat (go_big_quiet_step ((go_at_call 86; exact Past.call _ (HV.out _))))
                refine wpQuiet_nil ?_
                rintro _ ⟨x', rfl⟩
                have o1 : Below w.heap.size w x'.1 := bstep x'.2 HB.out
                have oB := HBP.out.past x'.2
                have r0 := (hcp x' b (off + k * 3 + 1) hbb).trans c1
                have r1 := (hcp x' b (off + k * 3 + 2) hbb).trans c2
                have of' := oB.free
                have y0 := oB.cell 0
                have y1 := oB.cell 1
                simp at y0 y1
                have oz := oB.lt
                have obz : b < x'.1.heap.size := Nat.lt_of_lt_of_le hbb x'.2.size
                clear hcp c0 c1 c2 q0 q1 qf qz hbb
                generalize x'.1 = w5 at *
                go_wp2
                go_roundg (l.length - (k + 1))
                case measure => omega
                case rel => exact ⟨k + 1, by omega, Nat.le_refl _, by go_num, HX.out, by (repeat (first | exact Below.refl _ _ | assumption | refine balloc ?_ _ | refine below_drewN ?_ _ | refine bstep (by assumption) ?_ | refine bstep (Past.prop _) ?_ | refine Below.setCell ?_ (by first | exact Nat.le_refl _ | (simp; done) | (simp; omega)) _)), by rw [HPS.out]; exact (oB.set 0 _).set 1 _⟩
            · have HX := hidE (mayB_bad hlt (show okAt (0, 0) l k = false by
                rw [HR.out, decide_eq_false hk0, Bool.false_or, hj, Nat.add_sub_cancel, ← hj]; exact decide_eq_false hlt2))
              have hd2 : decide (ats l k ≤ ats l j) = true := decide_eq_true (by omega)
              have HHJ := hidE hj
              clear hc HPP hp HR hlt2 hj hkj
              generalize ats l j = u' at *
              generalize ats l k = u at *
              generalize vls l k = v at *
              generalize prevV l k = q at *
              cases hm : (v.1 == q.1)
              rotate_left
              · have hm2 := HNE.out hm
                go_wp2_with fail
                refine wp_region_past_lit (by kernel_rfl) (by kernel_rfl) ?_
                have hcp := Past.cell (W := wo)
                have hkj := HKJ.out
                repeat (go_big_quiet_step ((go_at_call 86; exact Past.call _ (HV.out _))))
                refine wpQuiet_nil ?_
                rintro _ ⟨x', rfl⟩
                have o1 : Below w.heap.size w x'.1 := bstep x'.2 HB.out
                clear hcp
                generalize x'.1 = w5 at *
                go_wp2
                go_ret
                exact ⟨ret_bool (by rw [HX.out]), o1⟩
              · clear HNE
                go_wp2_with fail
                refine wp_region_past_lit (by kernel_rfl) (by kernel_rfl) ?_
                have hcp := Past.cell (W := wo)
                have hkj := HKJ.out
                repeat (go_big_quiet_step ((go_at_call 86; exact Past.call _ (HV.out _))))
                refine wpQuiet_nil ?_
                rintro _ ⟨x', rfl⟩
                have o1 : Below w.heap.size w x'.1 := bstep x'.2 HB.out
                clear hcp
                generalize x'.1 = w5 at *
                go_wp2
                go_ret
                exact ⟨ret_bool (by rw [HX.out]), o1⟩
    · have hk' : k = l.length := by omega
      subst hk'
      have HX := hidE (mayB_good HS.out)
      go_wp2
      go_ret
      exact ⟨ret_bool (by rw [HX.out]), by have := HB.out; (repeat (first | exact Below.refl _ _ | assumption | refine balloc ?_ _ | refine below_drewN ?_ _ | refine bstep (by assumption) ?_ | refine bstep (Past.prop _) ?_ | refine Below.setCell ?_ (by first | exact Nat.le_refl _ | (simp; done) | (simp; omega)) _))⟩
end Go.Proofs.Ytjhhcljbmnomlaa

namespace Go.Proofs.Ytjhhcljbmnomlaa
open Go.ChangeShapes Go.WideShapes Go.ChangeAt Go.RowKit

theorem rle (a b c d : Int) (w : World) : Calls Try.prog 12 #[V a b, V c d] w fun e w' => e = .returned (.bool (leB a b c d)) ∧ Below w.heap.size w w' := by
  go_enter Try.func12, Try.ntmps12
  go_wp2
  all_goals
    go_ret
    refine ⟨ret_bool (by unfold leB; rw [Bool.eq_iff_iff]; simp; omega), ?_⟩
    (repeat (first | exact Below.refl _ _ | assumption | refine balloc ?_ _ | refine below_drewN ?_ _ | refine bstep (by assumption) ?_ | refine bstep (Past.prop _) ?_ | refine Below.setCell ?_ (by first | exact Nat.le_refl _ | (simp; done) | (simp; omega)) _))


end Go.Proofs.Ytjhhcljbmnomlaa

namespace Go.Proofs.Ytjhhcljbmnomlaa
open Go.ChangeShapes Go.WideShapes Go.ChangeAt Go.RowKit
attribute [local irreducible] Go.Calls

theorem leS_form {F G : List Sg} {x : Int} (h : (mayB F && mayB G) = false) : leS F G x = (0, false, 5) := by unfold leS; rw [if_pos h]
theorem leS_none {F G : List Sg} {x : Int} (h1 : mayB F = true) (h2 : mayB G = true) (h : ∀ i, i < (leT F G x).length → badT F G x ((leT F G x).getD i 0) = false) : leS F G x = (0, true, 0) := by
  unfold leS
  rw [h1, h2, if_neg (by decide)]
  have : (leT F G x).find? (badT F G x) = none := by
    rw [List.find?_eq_none]
    intro t ht
    obtain ⟨i, hi, rfl⟩ := List.getElem_of_mem ht
    have := h i hi
    rw [getD_get _ _ _ hi] at this
    rw [this]; exact Bool.false_ne_true
  rw [this]
theorem find_first {p : Int → Bool} : ∀ (l : List Int) (i : Nat), i < l.length → p (l.getD i 0) = true → (∀ j, j < i → p (l.getD j 0) = false) → l.find? p = some (l.getD i 0)
  | [], _, h, _, _ => by simp at h
  | y :: r, 0, _, h, _ => by
    rw [List.getD_cons_zero] at h ⊢
    rw [List.find?_cons_of_pos h]
  | y :: r, i + 1, hi, h, hj => by
    have h0 := hj 0 (by omega)
    rw [List.getD_cons_zero] at h0
    rw [List.find?_cons_of_neg (by rw [h0]; exact Bool.false_ne_true), List.getD_cons_succ]
    rw [List.getD_cons_succ] at h
    exact find_first r i (by simpa using hi) h fun j hj' => by
      have := hj (j + 1) (by omega)
      rw [List.getD_cons_succ] at this; exact this
theorem leS_bad {F G : List Sg} {x : Int} {i : Nat} (h1 : mayB F = true) (h2 : mayB G = true) (hi : i < (leT F G x).length) (hj : ∀ j, j < i → badT F G x ((leT F G x).getD j 0) = false) (h : badT F G x ((leT F G x).getD i 0) = true) : leS F G x = ((leT F G x).getD i 0, false, 0) := by
  unfold leS
  rw [h1, h2, if_neg (by decide), find_first _ i hi h hj]
theorem leT_len (F G : List Sg) (x : Int) : (leT F G x).length ≤ F.length + G.length + 1 := by
  have h1 := timesL_len (twoT F G ++ [x])
  have h2 := twoT_len F G
  unfold leT
  simp at h1
  omega
abbrev L3 (r : Int × Bool × Int) : Value := .tuple #[.int .i64 r.1, .bool r.2.1, .int .i64 r.2.2]

theorem rleq_form {F G : List Sg} {x : Int} {a a' : Option Addr} {cap cap' : Nat} {w : World} (hl : F.length + G.length ≤ 999999990) (hA : ArgS w a F) (hA' : ArgS w a' G) (h : (mayB F && mayB G) = false) :
    Calls Try.prog 35 #[.slice a F.length cap, .slice a' G.length cap', .int .i64 x] w fun e w' => e = .returned (L3 (leS F G x)) ∧ Below w.heap.size w w' := by
  rw [leS_form h]
  have HA := hidE hA; have HA' := hidE hA'; clear hA hA'
  have HV := hidE (fun w hA => rmayf_c F a cap w (by omega) hA)
  have HV' := hidE (fun w hA => rmayf_c G a' cap' w (by omega) hA)
  cases h1 : mayB F
  · rw [h1] at HV
    clear h HV'
    go_enter Try.func35, Try.ntmps35
    go_wp2_with fail
    ((with_reducible refine (HV.out _ HA.out).mono ?_); rintro e w1 ⟨rfl, hb1⟩)
    go_wp2
    exact bodyPost_ret (v := L3 (0, false, 5)) (by simp [results, Try.results35, go_sem]) rfl ⟨rfl, hb1⟩
  · have h2 : mayB G = false := by rw [h1] at h; simpa using h
    rw [h1] at HV; rw [h2] at HV'
    clear h
    go_enter Try.func35, Try.ntmps35
    go_wp2_with fail
    ((with_reducible refine (HV.out _ HA.out).mono ?_); rintro e w1 ⟨rfl, hb1⟩)
    have HB1 := hidE hb1; clear hb1
    go_wp2_with fail
    ((with_reducible refine (HV'.out _ (HA'.out.past HB1.out)).mono ?_); rintro e w2 ⟨rfl, hb2⟩)
    go_wp2
    exact bodyPost_ret (v := L3 (0, false, 5)) (by simp [results, Try.results35, go_sem]) rfl ⟨rfl, bstep hb2 HB1.out⟩

set_option maxRecDepth 100000 in
set_option maxHeartbeats 4000000 in
theorem rleq_c (F G : List Sg) (x : Int) (a a' : Option Addr) (cap cap' : Nat) (w : World) (hl : F.length + G.length ≤ 999999990) (hA : ArgS w a F) (hA' : ArgS w a' G) :
    Calls Try.prog 35 #[.slice a F.length cap, .slice a' G.length cap', .int .i64 x] w fun e w' => e = .returned (L3 (leS F G x)) ∧ Below w.heap.size w w' := by
  cases h : (mayB F && mayB G)
  · exact rleq_form hl hA hA' h
  obtain ⟨h1, h2⟩ : mayB F = true ∧ mayB G = true := by simpa using h
  have HGOOD := hidE (fun hi => leS_none (x := x) h1 h2 hi)
  have HBAD := hidE (fun i hi hj hb => leS_bad (x := x) (i := i) h1 h2 hi hj hb)
  have HTL := hidE (leT_len F G x)
  have HT2 := hidE (twoT_len F G)
  have HA := hidE hA; have HA' := hidE hA'; clear hA hA' h
  have HV := hidE (fun w hA => rmayf_c F a cap w (by omega) hA)
  have HV' := hidE (fun w hA => rmayf_c G a' cap' w (by omega) hA)
  rw [h1] at HV; rw [h2] at HV'
  clear h1 h2
  generalize leS F G x = D at *
  obtain ⟨i0, hi, hz0, hz1, hz2⟩ := info_parts Try.infoI64
  have HI := hidE hi; have HZ0 := hidE hz0; have HZ1 := hidE hz1; have HZ2 := hidE hz2
  clear hi hz0 hz1 hz2
  go_enter Try.func35, Try.ntmps35
  go_wp2_with fail
  ((with_reducible refine (HV.out _ HA.out).mono ?_); rintro e w1 ⟨rfl, hb1⟩)
  have HB1 := hidE hb1; clear hb1
  go_wp2_with fail
  ((with_reducible refine (HV'.out _ (HA'.out.past HB1.out)).mono ?_); rintro e w2 ⟨rfl, hb2⟩)
  have HB2 := hidE (bstep hb2 HB1.out); clear hb2 HV HV' HB1
  go_wp2_with fail
  ((with_reducible refine (rtwo_own F G a a' cap cap' _ (by omega) (HA.out.past HB2.out) (HA'.out.past HB2.out)).mono ?_); rintro e w3 ⟨v3, rfl, ho3, hb3⟩)
  have HB3 := hidE (bstep hb3 HB2.out); have HO3 := hidE (own_low ho3 HB2.out.size)
  clear hb3 ho3 HB2
  go_wp2_with (at_builtin; refine wpList_append_src rfl (.tmp 21) (.tmp 23) 38 rfl w.heap.size 2 i0 Try.underlying38 HI.out HZ0.out HZ1.out HZ2.out _ _ _ rfl (HO3.out.alloc _) _ [x] rfl (src_one (Blk.made _ _ _)) (by have := HT2.out; simp; omega) (by have := HB3.out.size; simp; omega) ?_; intro v4 w4 ho4 hg4)
  have hb4 : Below w.heap.size w w4 := Below.grown (HB3.out.alloc HB3.out.size (.cells #[.int .i64 x] 2)) hg4 (by have := HB3.out.size; simp; omega) (fun k hk => own_block HO3.out hk)
  have ho4' : w4.ownsRow w.heap.size 2 1 v4 (twoT F G ++ [x]).length (cellsI (twoT F G ++ [x])) := by
    rw [cellsI_app, List.length_append]; exact ho4
  obtain ⟨a4, c4, rfl, _, _, hA4⟩ := sliI_own ho4'
  have hrt := rtimes_c (twoT F G ++ [x]) a4 c4 w4 (by have := HT2.out; simp; omega) hA4
  have HRT := hidE hrt
  have HB4 := hidE hb4
  clear ho4 ho4' hg4 hb4 hA4 hrt HO3 HB3
  go_wp2_with fail
  ((with_reducible refine (HRT.out).mono ?_); rintro e w5 ⟨v5, rfl, ho5, hb5⟩)
  change w5.ownsRow w4.heap.size 2 1 v5 (leT F G x).length (cellsI (leT F G x)) at ho5
  obtain ⟨a5, c5, rfl, _, _, hA5⟩ := sliI_own ho5
  have HB5 := hidE (bstep hb5 HB4.out); have HA5 := hidE hA5
  clear hb5 hA5 ho5 HRT HB4
  generalize leT F G x = ts at *
  go_wp2_with fail
  go_loopg [10] ts.length (fun gh vi wr => ∃ n : Nat, vi = .int .i64 n ∧ n ≤ ts.length ∧ ts.length - n ≤ gh ∧ (∀ i, i < n → badT F G x (ts.getD i 0) = false) ∧ Below w5.heap.size w5 wr)
  case atStart => exact ⟨0, rfl, by omega, by omega, fun i hi => by omega, Below.refl _ _⟩
  case round =>
    obtain ⟨n, rfl, hn, hg, hs, hbr⟩ := hrel
    have HS := hidE hs; have HBR := hidE hbr
    clear hs
    by_cases hlt : n < ts.length
    · obtain ⟨b, off, rfl, hb, hc⟩ := (HA5.out.past hbr) (by omega)
      have d0 := hc n hlt
      have HAF := hidE (show ArgS wr a F from (HA.out.past HB5.out).past hbr)
      have HAG := hidE (show ArgS wr a' G from (HA'.out.past HB5.out).past hbr)
      have HATF := hidE (fun w hA => rat_c F a cap (ts.getD n 0) w (by omega) hA)
      have HATG := hidE (fun w hA => rat_c G a' cap' (ts.getD n 0) w (by omega) hA)
      have HLE := hidE (fun w => rle (vat F (ts.getD n 0)).1 (vat F (ts.getD n 0)).2 (vat G (ts.getD n 0)).1 (vat G (ts.getD n 0)).2 w)
      have HNB := hidE (fun hb => HBAD.out n hlt HS.out hb)
      have HNS := hidE (fun (he : badT F G x (ts.getD n 0) = false) => show ∀ i, i < n + 1 → badT F G x (ts.getD i 0) = false from fun i hi => by
        by_cases e : i = n
        · rw [e]; exact he
        · exact HS.out i (by omega))
      have HQ := hidE (show badT F G x (ts.getD n 0) = (decide (x ≤ ts.getD n 0) && !(leB (vat F (ts.getD n 0)).1 (vat F (ts.getD n 0)).2 (vat G (ts.getD n 0)).1 (vat G (ts.getD n 0)).2)) from rfl)
      clear hc hbr
      generalize vat F (ts.getD n 0) = y at *
      generalize vat G (ts.getD n 0) = z at *
      generalize badT F G x (ts.getD n 0) = bad at *
      generalize ts.getD n 0 = t at *
      obtain ⟨wo, rfl⟩ : ∃ wo : World, wo = wr := ⟨_, rfl⟩
      cases hd : decide (x ≤ t)
      · have HN := hidE (HNS.out (by rw [HQ.out, hd]; rfl))
        clear HNB HNS HQ HATF HATG HLE HAF HAG
        go_wp2_with fail
        refine wp_region_past_lit (by kernel_rfl) (by kernel_rfl) ?_
        have hcp := Past.cell (W := wo)
        repeat (go_big_quiet_step (fail))
        refine wpQuiet_nil ?_
        rintro _ ⟨x', rfl⟩
        have o1 : Below w5.heap.size w5 x'.1 := bstep x'.2 HBR.out
        clear hcp d0 hb
        generalize x'.1 = w6 at *
        go_wp2
        go_roundg (ts.length - (n + 1))
        case measure => omega
        case rel => exact ⟨n + 1, by go_num, by omega, Nat.le_refl _, HN.out, o1⟩
      · rw [hd, Bool.true_and] at HQ
        cases hle : leB y.1 y.2 z.1 z.2
        · have HD := hidE (HNB.out (by rw [HQ.out, hle]; rfl))
          rw [hle] at HLE
          clear HNB HNS HQ hle
          go_wp2_with fail
          refine wp_region_past_lit (by kernel_rfl) (by kernel_rfl) ?_
          have hcp := Past.cell (W := wo)
          repeat (go_big_quiet_step (first | (go_at_call 13; first | exact Past.call _ (HATF.out _ (HAF.out.past (Past.prop _))) | exact Past.call _ (HATG.out _ (HAG.out.past (Past.prop _)))) | (go_at_call 12; exact Past.call _ (HLE.out _))))
          refine wpQuiet_nil ?_
          rintro _ ⟨x', rfl⟩
          have o1 : Below w5.heap.size w5 x'.1 := bstep x'.2 HBR.out
          have r0 := (hcp x' b (off + n) hb).trans d0
          have hbz : b < x'.1.heap.size := Nat.lt_of_lt_of_le hb x'.2.size
          clear hcp d0 hb
          generalize x'.1 = w6 at *
          go_wp2
          exact bodyPost_ret (v := L3 (t, false, 0)) (by simp [results, Try.results35, go_sem]) rfl ⟨by rw [HD.out], HB5.out.trans (o1.mono HB5.out.size)⟩
        · have HN := hidE (HNS.out (by rw [HQ.out, hle]; rfl))
          rw [hle] at HLE
          clear HNB HNS HQ hle
          go_wp2_with fail
          refine wp_region_past_lit (by kernel_rfl) (by kernel_rfl) ?_
          have hcp := Past.cell (W := wo)
          repeat (go_big_quiet_step (first | (go_at_call 13; first | exact Past.call _ (HATF.out _ (HAF.out.past (Past.prop _))) | exact Past.call _ (HATG.out _ (HAG.out.past (Past.prop _)))) | (go_at_call 12; exact Past.call _ (HLE.out _))))
          refine wpQuiet_nil ?_
          rintro _ ⟨x', rfl⟩
          have o1 : Below w5.heap.size w5 x'.1 := bstep x'.2 HBR.out
          clear hcp d0 hb
          generalize x'.1 = w6 at *
          go_wp2
          go_roundg (ts.length - (n + 1))
          case measure => omega
          case rel => exact ⟨n + 1, by go_num, by omega, Nat.le_refl _, HN.out, o1⟩
    · have hn' : n = ts.length := by omega
      subst hn'
      have HD := hidE (HGOOD.out HS.out)
      go_wp2
      exact bodyPost_ret (v := L3 (0, true, 0)) (by simp [results, Try.results35, go_sem]) rfl ⟨by rw [HD.out], HB5.out.trans (HBR.out.mono HB5.out.size)⟩
end Go.Proofs.Ytjhhcljbmnomlaa

namespace Go.Proofs.Ytjhhcljbmnomlaa
open Go.ChangeShapes Go.WideShapes Go.ChangeAt Go.RowKit
attribute [local irreducible] Go.Calls

theorem buildL_step {g : Int → Int × Int} {ts : List Int} {k : Nat} (h : k < ts.length) : buildL g (ts.take (k + 1)) = withL (buildL g (ts.take k)) (ts.getD k 0) (g (ts.getD k 0)) := by
  rw [List.take_succ_eq_append_getElem h, buildL_snoc, getD_get _ _ _ h]
theorem withL_len (f : List Sg) (t : Int) (v : Int × Int) : (withL f t v).length ≤ f.length + 1 := by unfold withL; split <;> simp
theorem buildL_len (g : Int → Int × Int) (ts : List Int) : ∀ k, k ≤ ts.length → (buildL g (ts.take k)).length ≤ k
  | 0, _ => by simp [buildL]
  | k + 1, h => by
    rw [buildL_step (by omega)]
    have := withL_len (buildL g (ts.take k)) (ts.getD k 0) (g (ts.getD k 0))
    have := buildL_len g ts k (by omega)
    omega

set_option maxRecDepth 100000 in
set_option maxHeartbeats 4000000 in
theorem rof_c (l : List Sg) (a : Option Addr) (cap : Nat) (w : World) (hl : l.length ≤ 1000000000) (hA : ArgS w a l) :
    Calls Try.prog 76 #[.slice a l.length cap] w (OfPost w l) := by
  have HA := hidE hA; clear hA
  go_enter Try.func76, Try.ntmps76
  go_wp2
  go_loopg [4] l.length (fun g vi wr => ∃ k : Nat, k ≤ l.length ∧ l.length - k ≤ g ∧ vi = .int .i64 k ∧ (∀ i, i < k → okS (l.getD i (0, 0, 0)) = true) ∧ Below w.heap.size w wr)
  case atStart => exact ⟨0, Nat.zero_le _, by omega, rfl, fun i hi => by omega, Below.refl _ _⟩
  case round =>
    obtain ⟨k, hk, hg, rfl, hs, hb⟩ := hrel
    have HS := hidE hs; have HB := hidE hb; clear hs hb
    by_cases hlt : k < l.length
    · obtain ⟨b, off, rfl, hb, hc⟩ := (HA.out.past HB.out) (by omega)
      obtain ⟨c0, c1, c2⟩ := hc.get hlt
      clear hc
      cases hok : okS (l.getD k (0, 0, 0))
      · have HX := hidE (all_bad hlt hok)
        have HV := hidE (fun w => rin_c (l.getD k (0, 0, 0)) w)
        rw [hok] at HV
        change Hid (∀ w, Calls _ _ #[S (ats l k) (vls l k).1 (vls l k).2] _ _) at HV
        generalize ats l k = u at *
        generalize vls l k = v at *
        go_wp2_with (go_at_call 86; ((with_reducible refine (HV.out _).mono ?_); rintro e w1 ⟨rfl, hb1⟩))
        go_ret2
        exact ⟨_, [], 10, rfl, sliS_nil _, .inr ⟨HX.out, rfl, rfl⟩, by have := HB.out; (repeat (first | exact Below.refl _ _ | assumption | refine balloc ?_ _ | refine below_drewN ?_ _ | refine bstep (by assumption) ?_ | refine bstep (Past.prop _) ?_ | refine Below.setCell ?_ (by first | exact Nat.le_refl _ | (simp; done) | (simp; omega)) _))⟩
      · have HX := hidE (show ∀ i, i < k + 1 → okS (l.getD i (0, 0, 0)) = true from fun i hi => by
          by_cases e : i = k
          · rw [e]; exact hok
          · exact HS.out i (by omega))
        have HV := hidE (fun w => rin_c (l.getD k (0, 0, 0)) w)
        rw [hok] at HV
        change Hid (∀ w, Calls _ _ #[S (ats l k) (vls l k).1 (vls l k).2] _ _) at HV
        generalize ats l k = u at *
        generalize vls l k = v at *
        go_wp2_with (go_at_call 86; ((with_reducible refine (HV.out _).mono ?_); rintro e w1 ⟨rfl, hb1⟩))
        go_roundg (l.length - (k + 1))
        case measure => omega
        case rel => exact ⟨k + 1, by omega, Nat.le_refl _, by go_num, HX.out, by have := HB.out; (repeat (first | exact Below.refl _ _ | assumption | refine balloc ?_ _ | refine below_drewN ?_ _ | refine bstep (by assumption) ?_ | refine bstep (Past.prop _) ?_ | refine Below.setCell ?_ (by first | exact Nat.le_refl _ | (simp; done) | (simp; omega)) _))⟩
    · have hk' : k = l.length := by omega
      subst hk'
      have HX := hidE (all_good HS.out)
      clear HS
      go_wp2_with fail
      ((with_reducible refine (rwhen_c l a cap _ (by omega) (HA.out.past HB.out)).mono ?_); rintro e w1 ⟨v1, rfl, ho1, hb1⟩)
      have hb1' := bstep hb1 HB.out
      have ho1' : w1.ownsRow wr.heap.size 2 1 v1 (l.map (·.1)).length (cellsI (l.map (·.1))) := by rw [List.length_map]; exact ho1
      obtain ⟨a1, c1, rfl, _, _, hA1⟩ := sliI_own ho1'
      have HB1 := hidE hb1'; have HA1 := hidE hA1
      clear ho1 ho1' hb1 hb1' HB hA1
      have hrt := rtimes_c (l.map (·.1)) a1 c1 w1 (by rw [List.length_map]; exact hl) HA1.out
      rw [List.length_map] at hrt
      have HRT := hidE hrt; clear hrt
      go_wp2_with fail
      ((with_reducible refine (HRT.out).mono ?_); rintro e w2 ⟨v2, rfl, ho2, hb2⟩)
      have hb2' := bstep hb2 HB1.out
      obtain ⟨a2, c2, rfl, _, _, hA2⟩ := sliI_own ho2
      have hts := timesL_len (l.map (·.1))
      rw [List.length_map] at hts
      have HI := hidE (isOf_build (l := l) (fun x hx => List.all_eq_true.1 HX.out x hx))
      have HB2 := hidE hb2'; have HA2 := hidE hA2
      clear ho2 hb2 hb2' HA1 HB1 hA2
      generalize timesL (l.map (·.1)) = ts at *
      go_wp2_with fail
      go_loopg [6, 7] ts.length (fun g vf vi wr2 => ∃ (k : Nat) (v : Value), v = vf ∧ vi = .int .i64 k ∧ k ≤ ts.length ∧ ts.length - k ≤ g ∧ Below w2.heap.size w2 wr2 ∧ wr2.ownsRow w2.heap.size 54 3 v (buildL (rawAt l) (ts.take k)).length (cellsOfS (buildL (rawAt l) (ts.take k))))
      case atStart => exact ⟨0, .slice none 0 0, rfl, rfl, by omega, by omega, Below.refl _ _, ⟨rfl, .inl ⟨rfl, rfl⟩⟩⟩
      case round =>
        obtain ⟨k, v, rfl, rfl, hk, hg, hbr, ho⟩ := hrel
        have HBR := hidE hbr; have HO := hidE ho
        clear ho
        by_cases hlt : k < ts.length
        · obtain ⟨b, off, rfl, hb, hc⟩ := (HA2.out.past hbr) (by omega)
          have d0 := hc k hlt
          have HST := hidE (buildL_step (g := rawAt l) hlt)
          have hfl := buildL_len (rawAt l) ts k hk
          have HAL : ArgS wr a l := (HA.out.past HB2.out).past hbr
          have HALL := hidE HAL
          have HRW := hidE (fun w hA => rraw_c l a cap (ts.getD k 0) w (by omega) hA)
          clear hc hbr HAL
          generalize buildL (rawAt l) (ts.take k) = f at *
          generalize rawAt l (ts.getD k 0) = y at *
          generalize ts.getD k 0 = t at *
          have HWI := hidE (fun (w : World) (hB : w2.heap.size ≤ w.heap.size) (ho : w.ownsRow w2.heap.size 54 3 v f.length (cellsOfS f)) => rwith_c f v w2.heap.size t y.1 y.2 w hB (by omega) ho)
          have hwr : w2.heap.size ≤ wr.heap.size := HBR.out.size
          obtain ⟨wo, rfl⟩ : ∃ wo : World, wo = wr := ⟨_, rfl⟩
          go_wp2_with fail
          refine wp_region_J 11 [] (nthR [detR v, detR (.slice (some ⟨b, off, none⟩) ts.length c2), detR (.int .i64 k), detR (.pointer (some ⟨b, off + k, none⟩)), detR (.int .i64 t), detR (.slice a l.length cap), detR (.slice (some ⟨b, off, none⟩) ts.length c2), detR (.int .i64 k), detR (.pointer (some ⟨b, off + k, none⟩)), detR (.int .i64 t), detR (V y.1 y.2)]) (fun _ => false) (by kernel_rfl) (by simp) (by kernel_rfl) (stab_nth (by simp [stab_det])) ?_ ?_ ?_
          · intro i o hi ho
            match i, hi with
            | 0, _ =>
              obtain rfl := Option.some.inj ho
              intro u x hd
              have hc := Past.cell x
              simp [go_sem, gives, frm, Act.put, nthR, detR, Region.wanted, Below.refl]
            | 1, _ =>
              obtain rfl := Option.some.inj ho
              intro u x hd
              have hc := Past.cell x
              simp [go_sem, gives, frm, Act.put, nthR, detR, Region.wanted, Below.refl]
            | 2, _ =>
              obtain rfl := Option.some.inj ho
              intro u x hd
              have hc := Past.cell x
              simp [go_sem, gives, frm, Act.put, nthR, detR, Region.wanted, Below.refl]
            | 3, _ =>
              obtain rfl := Option.some.inj ho
              intro u x hd
              have hc := Past.cell x
              have d1 := hd 1 (by decide) (by kernel_rfl)
              have d2 := hd 2 (by decide) (by kernel_rfl)
              simp only [nthR, detR, List.getD_cons_zero, List.getD_cons_succ] at d1 d2
              simp [go_sem, gives, frm, Act.put, nthR, detR, Region.wanted, Below.refl, d1, d2, hlt]
            | 4, _ =>
              obtain rfl := Option.some.inj ho
              intro u x hd
              have hc := Past.cell x
              have d3 := hd 3 (by decide) (by kernel_rfl)
              simp only [nthR, detR, List.getD_cons_zero, List.getD_cons_succ] at d3
              simp [go_sem, gives, frm, Act.put, nthR, detR, Region.wanted, Below.refl, hc, d3, d0, hb]
            | 5, _ =>
              obtain rfl := Option.some.inj ho
              intro u x hd
              have hc := Past.cell x
              simp [go_sem, gives, frm, Act.put, nthR, detR, Region.wanted, Below.refl]
            | 6, _ =>
              obtain rfl := Option.some.inj ho
              intro u x hd
              have hc := Past.cell x
              simp [go_sem, gives, frm, Act.put, nthR, detR, Region.wanted, Below.refl]
            | 7, _ =>
              obtain rfl := Option.some.inj ho
              intro u x hd
              have hc := Past.cell x
              simp [go_sem, gives, frm, Act.put, nthR, detR, Region.wanted, Below.refl]
            | 8, _ =>
              obtain rfl := Option.some.inj ho
              intro u x hd
              have hc := Past.cell x
              have d6 := hd 6 (by decide) (by kernel_rfl)
              have d7 := hd 7 (by decide) (by kernel_rfl)
              simp only [nthR, detR, List.getD_cons_zero, List.getD_cons_succ] at d6 d7
              simp [go_sem, gives, frm, Act.put, nthR, detR, Region.wanted, Below.refl, d6, d7, hlt]
            | 9, _ =>
              obtain rfl := Option.some.inj ho
              intro u x hd
              have hc := Past.cell x
              have d8 := hd 8 (by decide) (by kernel_rfl)
              simp only [nthR, detR, List.getD_cons_zero, List.getD_cons_succ] at d8
              simp [go_sem, gives, frm, Act.put, nthR, detR, Region.wanted, Below.refl, hc, d8, d0, hb]
            | 10, _ =>
              obtain rfl := Option.some.inj ho
              intro u x hd
              have hc := Past.cell x
              have d5 := hd 5 (by decide) (by kernel_rfl)
              have d9 := hd 9 (by decide) (by kernel_rfl)
              simp only [nthR, detR, List.getD_cons_zero, List.getD_cons_succ] at d5 d9
              simp [go_sem, gives, frm, Act.put, nthR, detR, Region.wanted, d5, d9]
              exact HRW.out _ (HALL.out.past x.2)
            | i + 11, h => exact absurd h (by omega)
          · intro i o h; cases h
          · intro u x hu hne
            have d0 := hu 0 (by decide); have d4 := hu 4 (by decide); have d10 := hu 10 (by decide)
            simp only [nthR, detR, List.getD_cons_zero, List.getD_cons_succ] at d0 d4 d10
            have hx := x.2
            have HXX := hidE hx
            clear hx hu hne
            simp only [frm, List.take, Act.put, d0, d4, d10]
            clear d0 d4 d10
            generalize x.1 = w5 at *
            go_wp2_with (go_at_call 87; ((with_reducible refine (HWI.out _ (Nat.le_trans hwr HXX.out.size) (own_below HO.out HXX.out)).mono ?_); rintro e w6 ⟨v', rfl, ho6, hg6⟩))
            have hb6 : Below w2.heap.size w2 w6 := (HBR.out.trans (HXX.out.mono hwr)).grown hg6 (Nat.le_trans hwr HXX.out.size) (fun k hk => own_block HO.out hk)
            have hlen := withL_len f t y
            rw [← HST.out] at ho6
            have HB6 := hidE hb6; have HO6 := hidE ho6
            clear hb6 ho6 hg6
            go_wp2
            go_roundg (ts.length - (k + 1))
            case measure => omega
            case rel => exact ⟨k + 1, v', rfl, by go_num, by omega, Nat.le_refl _, HB6.out, HO6.out⟩
        · have hk' : k = ts.length := by omega
          subst hk'
          have ho := HO.out
          rw [List.take_length] at ho
          have HO2 := hidE ho; clear ho HO
          go_wp2
          go_ret2
          exact ⟨_, _, 0, rfl, sliS_own HO2.out, .inl ⟨HX.out, rfl, HI.out⟩, HB2.out.trans (HBR.out.mono HB2.out.size)⟩
theorem rof_ok {l F : List Sg} {a : Option Addr} {cap : Nat} {w : World} (hl : l.length ≤ 1000000000) (hA : ArgS w a l) (ho : l.all okS = true) (hF : IsOf l F) :
    Calls Try.prog 76 #[.slice a l.length cap] w (OfIs w F 0) :=
  (rof_c l a cap w hl hA).mono fun e w' ⟨v, f, er, h1, h2, h3, h4⟩ => by
    rcases h3 with ⟨_, rfl, h5⟩ | ⟨h5, _⟩
    · exact ⟨v, h1, by rw [hF.unique h5]; exact h2, h4⟩
    · rw [ho] at h5; cases h5
theorem rof_bad {l : List Sg} {a : Option Addr} {cap : Nat} {w : World} (hl : l.length ≤ 1000000000) (hA : ArgS w a l) (ho : l.all okS = false) :
    Calls Try.prog 76 #[.slice a l.length cap] w (OfIs w [] 10) :=
  (rof_c l a cap w hl hA).mono fun e w' ⟨v, f, er, h1, h2, h3, h4⟩ => by
    rcases h3 with ⟨h5, _⟩ | ⟨_, rfl, rfl⟩
    · rw [ho] at h5; cases h5
    · exact ⟨v, h1, h2, h4⟩
end Go.Proofs.Ytjhhcljbmnomlaa

namespace Go.Proofs.Ytjhhcljbmnomlaa
open Go.ChangeShapes Go.WideShapes Go.ChangeAt Go.RowKit
attribute [local irreducible] Go.Calls

theorem rbox_c (x y m c : Int) (w : World) : Calls Try.prog 44 #[.int .i64 x, .int .i64 y, V m c] w (OfIs w (boxS x y (m, c)).1 (boxS x y (m, c)).2) := by
  by_cases hxy : y < x
  · have HE := hidE (show boxS x y (m, c) = ([], 2) by unfold boxS; rw [if_pos hxy])
    rw [HE.out]
    go_enter Try.func44, Try.ntmps44
    go_wp2
    go_ret2
    exact ⟨_, rfl, sliS_nil _, by (repeat (first | exact Below.refl _ _ | assumption | refine balloc ?_ _ | refine below_drewN ?_ _ | refine bstep (by assumption) ?_ | refine bstep (Past.prop _) ?_ | refine Below.setCell ?_ (by first | exact Nat.le_refl _ | (simp; done) | (simp; omega)) _))⟩
  · have hz : ¬ y < x := hxy
    have HK : ∀ w1 p, Blk w1 p #[.int .i64 x, .int .i64 m, .int .i64 c, .int .i64 y, .int .i64 0, .int .i64 0] 54 → Calls Try.prog 76 #[.slice (some ⟨p, 0, none⟩) 2 2] w1 (OfIs w1 (boxS x y (m, c)).1 (boxS x y (m, c)).2) := by
      intro w1 p hB
      unfold boxS
      rw [if_neg hxy]
      cases ho : (okS (x, (m, c)) && okS (y, (0, 0)))
      · exact rof_bad (l := [(x, (m, c)), (y, (0, 0))]) (by simp) (argS_blk (t := 54) hB) (by simpa [List.all_cons] using ho)
      · have h2 : okS (x, (m, c)) = true ∧ okS (y, (0, 0)) = true := by simpa using ho
        exact rof_ok (l := [(x, (m, c)), (y, (0, 0))]) (by simp) (argS_blk (t := 54) hB) (by simpa [List.all_cons] using ho) (boxL_of (by omega) h2.1 h2.2)
    have HKK := hidE HK; clear HK hxy
    generalize boxS x y (m, c) = g at *
    by_cases e : x = y
    · have hd : (x == y) = true := beq_iff_eq.2 e
      clear e
      go_enter Try.func44, Try.ntmps44
      go_wp2_with (go_at_call 76; ((with_reducible refine (HKK.out _ _ (Blk.made_at _ _ _ _ (by simp))).mono ?_); rintro e w1 ⟨v, rfl, hv, hb⟩))
      go_ret2
      exact ⟨_, rfl, hv, by (repeat (first | exact Below.refl _ _ | assumption | refine balloc ?_ _ | refine below_drewN ?_ _ | refine bstep (by assumption) ?_ | refine bstep (Past.prop _) ?_ | refine Below.setCell ?_ (by first | exact Nat.le_refl _ | (simp; done) | (simp; omega)) _))⟩
    · have hd : (x == y) = false := beq_eq_false_iff_ne.2 e
      clear e
      go_enter Try.func44, Try.ntmps44
      go_wp2_with (go_at_call 76; ((with_reducible refine (HKK.out _ _ (Blk.made_at _ _ _ _ (by simp))).mono ?_); rintro e w1 ⟨v, rfl, hv, hb⟩))
      go_ret2
      exact ⟨_, rfl, hv, by (repeat (first | exact Below.refl _ _ | assumption | refine balloc ?_ _ | refine below_drewN ?_ _ | refine bstep (by assumption) ?_ | refine bstep (Past.prop _) ?_ | refine Below.setCell ?_ (by first | exact Nat.le_refl _ | (simp; done) | (simp; omega)) _))⟩
end Go.Proofs.Ytjhhcljbmnomlaa

namespace Go.Proofs.Ytjhhcljbmnomlaa
open Go.ChangeShapes Go.WideShapes Go.ChangeAt Go.RowKit
attribute [local irreducible] Go.Calls

theorem rsame_f {w : World} {n m c1 c2 : Nat} {a1 a2 : Option Addr} {F G : List Sg} {b : Bool} (h1 : SliS w (.slice a1 n c1) F) (h2 : SliS w (.slice a2 m c2) G) (he : sameB F G = b) :
    Calls Try.prog 14 #[.slice a1 n c1, .slice a2 m c2] w fun e w' => e = .returned (.bool b) ∧ Below w.heap.size w w' := by
  obtain ⟨e1, q1, q2, q3⟩ := h1.len; obtain ⟨e2, s1, s2, s3⟩ := h2.len
  subst e1; subst e2; subst he
  exact rsame_c F G a1 a2 c1 c2 w (by omega) (by omega) q3 s3
theorem cmn_f {w : World} {n m c1 c2 : Nat} {a1 a2 : Option Addr} {F G r : List Sg} {er : Int} (h1 : SliS w (.slice a1 n c1) F) (h2 : SliS w (.slice a2 m c2) G) (hl : n + m ≤ 100000) (he : doS 2 F G = (r, er)) :
    Calls Try.prog 17 #[.slice a1 n c1, .slice a2 m c2] w (OfIs w r er) := by
  obtain ⟨e1, q1, q2, q3⟩ := h1.len; obtain ⟨e2, s1, s2, s3⟩ := h2.len
  subst e1; subst e2
  have := cmn_c F G a1 a2 c1 c2 w q1 q2 s1 s2 (by omega) q3 s3
  rw [he] at this; exact this
theorem cmx_f {w : World} {n m c1 c2 : Nat} {a1 a2 : Option Addr} {F G r : List Sg} {er : Int} (h1 : SliS w (.slice a1 n c1) F) (h2 : SliS w (.slice a2 m c2) G) (hl : n + m ≤ 100000) (he : doS 3 F G = (r, er)) :
    Calls Try.prog 16 #[.slice a1 n c1, .slice a2 m c2] w (OfIs w r er) := by
  obtain ⟨e1, q1, q2, q3⟩ := h1.len; obtain ⟨e2, s1, s2, s3⟩ := h2.len
  subst e1; subst e2
  have := cmx_c F G a1 a2 c1 c2 w q1 q2 s1 s2 (by omega) q3 s3
  rw [he] at this; exact this
theorem crange_f {w : World} {n c1 : Nat} {a1 : Option Addr} {x y m c : Int} {F r : List Sg} {er : Int} (h1 : SliS w (.slice a1 n c1) F) (hl : n ≤ 100000) (he : rangeS F x y (m, c) = (r, er)) :
    Calls Try.prog 10 #[.slice a1 n c1, .int .i64 x, .int .i64 y, V m c] w (OfIs w r er) := by
  obtain ⟨e1, q1, q2, q3⟩ := h1.len
  subst e1
  have := crange_c F x y m c a1 c1 w q1 q2 (by omega) q3
  rw [he] at this; exact this
theorem rle_f {w : World} {n m c1 c2 : Nat} {a1 a2 : Option Addr} {x : Int} {F G : List Sg} {r : Int × Bool × Int} (h1 : SliS w (.slice a1 n c1) F) (h2 : SliS w (.slice a2 m c2) G) (hl : n + m ≤ 999999990) (he : leS F G x = r) :
    Calls Try.prog 35 #[.slice a1 n c1, .slice a2 m c2, .int .i64 x] w fun e w' => e = .returned (.tuple #[.int .i64 r.1, .bool r.2.1, .int .i64 r.2.2]) ∧ Below w.heap.size w w' := by
  obtain ⟨e1, q1, q2, q3⟩ := h1.len; obtain ⟨e2, s1, s2, s3⟩ := h2.len
  subst e1; subst e2; subst he
  exact rleq_c F G x a1 a2 c1 c2 w (by omega) q3 s3
theorem rat_f {w : World} {n c1 : Nat} {a1 : Option Addr} {t : Int} {F : List Sg} {v : Int × Int} (h1 : SliS w (.slice a1 n c1) F) (hl : n ≤ 1099511627776) (he : vat F t = v) :
    Calls Try.prog 13 #[.slice a1 n c1, .int .i64 t] w fun e w' => e = .returned (V v.1 v.2) ∧ Below w.heap.size w w' := by
  obtain ⟨e1, q1, q2, q3⟩ := h1.len
  subst e1; subst he
  exact rat_c F a1 c1 t w (by omega) q3
end Go.Proofs.Ytjhhcljbmnomlaa

namespace Go.Proofs.Ytjhhcljbmnomlaa
open Go.ChangeShapes Go.WideShapes Go.ChangeAt Go.RowKit
attribute [local irreducible] Go.Calls

theorem h15_7 : takeS hF 0 2 (10, 10) = ([(2, (7, 9)), (8, (10, 10))], 0) := by decide +kernel
theorem fbox_c (x y m c : Int) (w : World) : Calls Try.prog 20 #[.int .i64 x, .int .i64 y, .int .i64 m, .int .i64 c] w fun e w' => ∃ (a : Option Addr) (n cap : Nat), e = .returned (.slice a n cap) ∧ SliS w' (.slice a n cap) (boxS x y (m, c)).1 ∧ Below w.heap.size w w' := by
  have HB := hidE (fun w => rbox_c x y m c w)
  generalize boxS x y (m, c) = b at *
  go_enter Try.func20, Try.ntmps20
  go_wp2_with fail
  ((with_reducible refine (HB.out _).mono ?_); rintro e w1 ⟨v1, rfl, hv1, hb1⟩)
  obtain ⟨a2, c2, rfl, g1, g2, g3⟩ := hv1
  have HV := hidE (show SliS w1 (.slice a2 b.1.length c2) b.1 from ⟨a2, c2, rfl, g1, g2, g3⟩); have HB1 := hidE hb1
  clear g1 g2 g3 hb1
  go_wp2
  go_ret
  exact ⟨_, _, _, rfl, HV.out, HB1.out⟩
theorem argPs_one {w : World} {p : Nat} {k a b n : Int} {t : TypeId} (h : Blk w p #[.int .u8 k, .int .i64 a, .int .i64 b, .int .i64 n] t) : ArgPs w (some ⟨p, 0, none⟩) [(k, (a, b), n)] := fun _ => ⟨p, 0, rfl, h.lt, fun i hi => by
  have c0 := h.cell 0; have c1 := h.cell 1; have c2 := h.cell 2; have c3 := h.cell 3
  simp at hi c0 c1 c2 c3
  subst hi
  exact ⟨c0, c1, c2, c3⟩⟩
theorem sliS_mk {w : World} {p n : Nat} {l : List Sg} {t : TypeId} (hn : n = l.length) (h2 : n ≤ 1000000) (h : Blk w p (cellsOfS l).toArray t) : SliS w (.slice (some ⟨p, 0, none⟩) n n) l := by
  subst hn
  exact ⟨some ⟨p, 0, none⟩, l.length, rfl, Nat.le_refl _, by omega, argS_blk h⟩
theorem hbox_is : (boxS 2 8 (3, 1)).1 = hL := by decide +kernel
set_option maxRecDepth 100000 in
set_option maxHeartbeats 8000000 in
theorem fhead_c (w : World) : Calls Try.prog 7 #[] w fun e w' => e = .returned (.bool true) ∧ Below w.heap.size w w' := by
  have HBX := hidE (fun w => fbox_c 2 8 3 1 w)
  rw [hbox_is] at HBX
  have H1 := hidE (fun f er (h : FreeIs [(0, (0, 0), 0)] hC hL hL 0 f er) => h.unique h15_1 (fun p => Iff.rfl))
  have H2 := hidE (fun f er (h : FreeIs [(1, (4, 4), 0)] hC hL hL 3 f er) => h.unique h15_2 (fun p => Iff.rfl))
  have H3 := hidE (fun f er (h : FreeIs [(3, (0, 0), 0)] hC hL hL 0 f er) => h.unique h15_3 (fun p => Iff.rfl))
  obtain ⟨w0, hw0⟩ : ∃ w0, w0 = w.alloc (Obj.cells #[.int .i64 0, .int .i64 10, .int .i64 10] 54) := ⟨_, rfl⟩
  have SC := hidE (show SliS w0 (.slice (some ⟨w.heap.size, 0, none⟩) 1 1) hC by rw [hw0]; exact sliS_mk rfl (by omega) (Blk.made _ _ _))
  have HB := hidE (show Below w.heap.size w w0 by rw [hw0]; (repeat (first | exact Below.refl _ _ | assumption | refine balloc ?_ _ | refine below_drewN ?_ _ | refine bstep (by assumption) ?_ | refine bstep (Past.prop _) ?_ | refine Below.setCell ?_ (by first | exact Nat.le_refl _ | (simp; done) | (simp; omega)) _)))
  obtain ⟨ac, hac⟩ : ∃ ac : Option Addr, ac = some ⟨w.heap.size, 0, none⟩ := ⟨_, rfl⟩
  rw [← hac] at SC
  go_enter Try.func7, Try.ntmps7
  go_upto_region 2 with fail
  rw [← hw0]
  rw [← hac]
  clear hw0 hac
  go_wp2_with fail
  ((with_reducible refine (HBX.out _).mono ?_); rintro e w1 ⟨al, nl, cl, rfl, hsl, hb1⟩)
  have SL := hidE hsl; have SC := hidE (SC.out.past hb1); have HB := hidE (bstep hb1 HB.out)
  have NL := hidE (show nl ≤ 10000 by have := hsl.len.1; simp at this; omega)
  clear hsl hb1
  go_wp2_with fail
  (with_reducible refine (free_s (P := [(0, (0, 0), 0)]) (C := hC) (L := hL) (O := hL) (x := 0) (n4 := 1) ?hc1 ?hl1 ?hl1 ?hp1 rfl ?hm1 ?hn1 ?hn1 (by omega)).mono ?_)
  case hm1 => omega
  case hc1 => exact SC.out.past ((Below.refl _ _).alloc (Nat.le_refl _) _)
  case hl1 => exact SL.out.past ((Below.refl _ _).alloc (Nat.le_refl _) _)
  case hp1 => exact argPs_one (Blk.made _ _ _)
  case hn1 => exact NL.out
  rintro e w2 ⟨aF, nF, cF, fF, eF, rfl, hs, hi, _, hb⟩
  obtain ⟨rfl, rfl⟩ := H1.out _ _ hi
  have HX := hidE (show Below w1.heap.size w1 w2 from ((Below.refl _ _).alloc (Nat.le_refl _) _).trans (hb.mono (by simp)))
  have HB := hidE (bstep HX.out HB.out)
  have SC := hidE (SC.out.past HX.out); have SL := hidE (SL.out.past HX.out)
  have SF := hidE hs
  have NF := hidE (show nF ≤ 10000 by have := hs.len.1; simp at this; omega)
  clear hs hi hb HX
  go_wp2_with fail
  (with_reducible refine (free_s (P := [(1, (4, 4), 0)]) (C := hC) (L := hL) (O := hL) (x := 3) (n4 := 1) ?hc2 ?hl2 ?hl2 ?hp2 rfl ?hm2 ?hn2 ?hn2 (by omega)).mono ?_)
  case hm2 => omega
  case hc2 => exact SC.out.past ((Below.refl _ _).alloc (Nat.le_refl _) _)
  case hl2 => exact SL.out.past ((Below.refl _ _).alloc (Nat.le_refl _) _)
  case hp2 => exact argPs_one (Blk.made _ _ _)
  case hn2 => exact NL.out
  rintro e w3 ⟨aG, nG, cG, fG, eG, rfl, hs, hi, _, hb⟩
  obtain ⟨rfl, rfl⟩ := H2.out _ _ hi
  have HX := hidE (show Below w2.heap.size w2 w3 from ((Below.refl _ _).alloc (Nat.le_refl _) _).trans (hb.mono (by simp)))
  have HB := hidE (bstep HX.out HB.out)
  have SC := hidE (SC.out.past HX.out); have SL := hidE (SL.out.past HX.out); have SF := hidE (SF.out.past HX.out)
  have SG := hidE hs
  have NG := hidE (show nG ≤ 10000 by have := hs.len.1; simp at this; omega)
  clear hs hi hb HX
  go_wp2_with fail
  (with_reducible refine (fits_eq (F := hF) ?hs3 ?hn3 h15_4).mono ?_)
  case hs3 => exact SF.out
  case hn3 => have := NF.out; omega
  rintro e w4 ⟨rfl, hb⟩
  have HX := hidE hb
  have HB := hidE (bstep hb HB.out)
  have SC := hidE (SC.out.past HX.out); have SL := hidE (SL.out.past HX.out); have SF := hidE (SF.out.past HX.out); have SG := hidE (SG.out.past HX.out)
  clear hb HX
  go_wp2_with fail
  (with_reducible refine (fits_eq (F := hF) ?hs4 ?hn4 h15_5).mono ?_)
  case hs4 => exact SF.out
  case hn4 => have := NF.out; omega
  rintro e w5 ⟨rfl, hb⟩
  have HX := hidE hb
  have HB := hidE (bstep hb HB.out)
  have SC := hidE (SC.out.past HX.out); have SL := hidE (SL.out.past HX.out); have SF := hidE (SF.out.past HX.out); have SG := hidE (SG.out.past HX.out)
  clear hb HX
  go_wp2_with fail
  (with_reducible refine (most_eq (F := hF) ?hs5 ?hn5 h15_6).mono ?_)
  case hs5 => exact SF.out
  case hn5 => have := NF.out; omega
  rintro e w6 ⟨rfl, hb⟩
  have HX := hidE hb
  have HB := hidE (bstep hb HB.out)
  have SC := hidE (SC.out.past HX.out); have SL := hidE (SL.out.past HX.out); have SF := hidE (SF.out.past HX.out); have SG := hidE (SG.out.past HX.out)
  clear hb HX
  go_wp2_with fail
  (with_reducible refine (take_s (F := hF) ?hs6 ?hn6 h15_7).mono ?_)
  case hs6 => exact SF.out
  case hn6 => have := NF.out; omega
  rintro e w7 ⟨v6, rfl, hv6, hb⟩
  have HX := hidE hb
  have HB := hidE (bstep hb HB.out)
  have SC := hidE (SC.out.past HX.out); have SL := hidE (SL.out.past HX.out); have SF := hidE (SF.out.past HX.out); have SG := hidE (SG.out.past HX.out)
  obtain ⟨aT, cT, rfl, g1, g2, g3⟩ := hv6
  have ST := hidE (show SliS w7 (.slice aT 2 cT) [(2, (7, 9)), (8, (10, 10))] from ⟨aT, cT, rfl, g1, g2, g3⟩)
  clear g1 g2 g3
  clear hb HX
  go_wp2_with fail
  (with_reducible refine (fits_eq (F := hF) ?hs7 ?hn7 h15_8).mono ?_)
  case hs7 => exact SF.out
  case hn7 => have := NF.out; omega
  rintro e w8 ⟨rfl, hb⟩
  have HX := hidE hb
  have HB := hidE (bstep hb HB.out)
  have SC := hidE (SC.out.past HX.out); have SL := hidE (SL.out.past HX.out); have SF := hidE (SF.out.past HX.out); have SG := hidE (SG.out.past HX.out); have ST := hidE (ST.out.past HX.out)
  clear hb HX
  go_wp2_with fail
  (with_reducible refine (free_s (P := [(3, (0, 0), 0)]) (C := hC) (L := hL) (O := hL) (x := 0) (n4 := 1) ?hc8 ?hl8 ?hl8 ?hp8 rfl ?hm8 ?hn8 ?hn8 (by omega)).mono ?_)
  case hm8 => omega
  case hc8 => exact SC.out.past ((Below.refl _ _).alloc (Nat.le_refl _) _)
  case hl8 => exact SL.out.past ((Below.refl _ _).alloc (Nat.le_refl _) _)
  case hp8 => exact argPs_one (Blk.made _ _ _)
  case hn8 => exact NL.out
  rintro e w9 ⟨aK, nK, cK, fK, eK, rfl, hs, hi, _, hb⟩
  obtain ⟨rfl, rfl⟩ := H3.out _ _ hi
  have HX := hidE (show Below w8.heap.size w8 w9 from ((Below.refl _ _).alloc (Nat.le_refl _) _).trans (hb.mono (by simp)))
  have HB := hidE (bstep HX.out HB.out)
  have SC := hidE (SC.out.past HX.out); have SL := hidE (SL.out.past HX.out); have SF := hidE (SF.out.past HX.out); have SG := hidE (SG.out.past HX.out); have ST := hidE (ST.out.past HX.out)
  have SK := hidE hs
  have NK := hidE (show nK ≤ 10000 by have := hs.len.1; simp at this; omega)
  clear hs hi hb HX
  go_upto_region 13 with fail
  obtain ⟨w10, hw10⟩ : ∃ w10, w10 = (w9.alloc (Obj.cells #[.int .i64 10, .int .i64 10] 27)).alloc (Obj.cells #[.int .i64 7, .int .i64 9] 27) := ⟨_, rfl⟩
  have HX := hidE (show Below w9.heap.size w9 w10 by rw [hw10]; exact ((Below.refl _ _).alloc (Nat.le_refl _) _).alloc (by simp) _)
  have B1 := hidE (show Blk w10 w9.heap.size #[.int .i64 10, .int .i64 10] 27 by rw [hw10]; exact (Blk.made _ _ _).alloc _)
  have B2 := hidE (show Blk w10 (w9.heap.size + 1) #[.int .i64 7, .int .i64 9] 27 by rw [hw10]; exact Blk.made_at _ _ _ _ (by simp))
  have HB := hidE (bstep HX.out HB.out); have SF := hidE (SF.out.past HX.out); have SG := hidE (SG.out.past HX.out); have ST := hidE (ST.out.past HX.out)
  have e0 := B1.out.cell 0; have e1 := B1.out.cell 1; have e2 := B2.out.cell 0; have e3 := B2.out.cell 1; have z1 := B1.out.lt; have z2 := B2.out.lt
  simp at e0 e1 e2 e3
  rw [← hw10]
  clear hw10 HX SC SL SK
  generalize w9.heap.size = p at *
  go_wp2_with fail
  (with_reducible refine (rsame_f (F := hF) (G := hF) (b := true) ?hs1 ?ht1 rfl).mono ?_)
  case hs1 => exact SF.out.past ((Below.refl _ _).alloc (Nat.le_refl _) _)
  case ht1 => exact sliS_mk rfl (by omega) (Blk.made _ _ _)
  rintro e w11 ⟨rfl, hb⟩
  have HX := hidE (show Below w10.heap.size w10 w11 from ((Below.refl _ _).alloc (Nat.le_refl _) _).trans (hb.mono (by simp)))
  have HB := hidE (bstep HX.out HB.out); have SG := hidE (SG.out.past HX.out); have ST := hidE (ST.out.past HX.out); have B1 := hidE (B1.out.past HX.out); have B2 := hidE (B2.out.past HX.out)
  clear e0 e1 e2 e3 z1 z2 hb HX SF
  have e0 := B1.out.cell 0; have e1 := B1.out.cell 1; have e2 := B2.out.cell 0; have e3 := B2.out.cell 1; have z1 := B1.out.lt; have z2 := B2.out.lt
  simp at e0 e1 e2 e3
  go_wp2_with fail
  (with_reducible refine (rsame_f (F := hG) (G := hG) (b := true) ?hs2 ?ht2 rfl).mono ?_)
  case hs2 => exact SG.out.past ((Below.refl _ _).alloc (Nat.le_refl _) _)
  case ht2 => exact sliS_mk rfl (by omega) (Blk.made _ _ _)
  rintro e w12 ⟨rfl, hb⟩
  have HX := hidE (show Below w11.heap.size w11 w12 from ((Below.refl _ _).alloc (Nat.le_refl _) _).trans (hb.mono (by simp)))
  have HB := hidE (bstep HX.out HB.out); have ST := hidE (ST.out.past HX.out); have B1 := hidE (B1.out.past HX.out); have B2 := hidE (B2.out.past HX.out)
  clear e0 e1 e2 e3 z1 z2 hb HX SG
  have e0 := B1.out.cell 0; have e1 := B1.out.cell 1; have e2 := B2.out.cell 0; have e3 := B2.out.cell 1; have z1 := B1.out.lt; have z2 := B2.out.lt
  simp at e0 e1 e2 e3
  go_wp2_with fail
  (with_reducible refine (rsame_f (F := [(2, (7, 9)), (8, (10, 10))]) (G := [(2, (7, 9)), (8, (10, 10))]) (b := true) ?hs3 ?ht3 rfl).mono ?_)
  case hs3 => exact ST.out.past ((Below.refl _ _).alloc (Nat.le_refl _) _)
  case ht3 => exact sliS_mk rfl (by omega) (Blk.made _ _ _)
  rintro e w13 ⟨rfl, hb⟩
  have HB := hidE (show Below w.heap.size w w13 from bstep (show Below w12.heap.size w12 w13 from ((Below.refl _ _).alloc (Nat.le_refl _) _).trans (hb.mono (by simp))) HB.out)
  clear e0 e1 e2 e3 z1 z2 hb ST B1 B2
  go_wp2
  go_ret
  exact ⟨rfl, HB.out⟩
end Go.Proofs.Ytjhhcljbmnomlaa

namespace Go.Proofs.Ytjhhcljbmnomlaa
open Go.RowKit

section
variable {P : Program} {l : List Oper} {n : Nat} {a0 : Act} {w0 : World}
abbrev JTriv (l : List Oper) (n : Nat) (a0 : Act) (w0 : World) (u : Nat → Value) (listed : Array Bool) (a : Act) : Prop := JInv l n a0 w0 (fun _ _ _ => True) (fun _ => false) u listed a w0

/-- What is asked of operation i: whatever has run (all that it waits for, among it), from the invariant to the invariant. -/
def CStep (P : Program) (l : List Oper) (n : Nat) (a0 : Act) (I : (Nat → Bool) → (Nat → Value) → World → Prop) (i : Nat) (o : Oper) : Prop :=
  ∀ (L : Nat → Bool) (u : Nat → Value) (w : World), L i = false → (∀ j, j < n → waits l.toArray i j = true → L j = true) → I L u w →
    if Region.wanted o (yielded l.toArray (frm (l.take n) u 0 a0).tmps) then
      gives P (fun v w' => I (fun j => if j = i then true else L j) (fun j => if j = i then v else u j) w') ((execOp (frm (l.take n) u 0 a0).eval o).run P w)
    else I (fun j => if j = i then true else L j) (fun j => if j = i then undef else u j) w

theorem cstep_run {I : (Nat → Bool) → (Nat → Value) → World → Prop} {i : Nat} {o : Oper} (h : ∀ (L : Nat → Bool) (u : Nat → Value) (w : World), L i = false → (∀ j, j < n → waits l.toArray i j = true → L j = true) → I L u w →
    Region.wanted o (yielded l.toArray (frm (l.take n) u 0 a0).tmps) = true ∧ ∃ v w', (execOp (frm (l.take n) u 0 a0).eval o).run P w = .ok (.value v) w' ∧ I (fun j => if j = i then true else L j) (fun j => if j = i then v else u j) w') : CStep P l n a0 I i o := by
  intro L u w hl hw hI
  obtain ⟨h1, v, w', h2, h3⟩ := h L u w hl hw hI
  rw [if_pos h1, h2]
  exact h3

/-- The one operation among those that writes a slot. -/
def dstOnly (l : List Oper) (t j : Nat) : Bool := (match l[j]? with
    | some o => o.dst == some t
    | none => false) && (List.range l.length).all fun i => i == j || match l[i]? with
    | some p => p.dst != some t
    | none => true
def dstNone (l : List Oper) (t : Nat) : Bool := l.all fun p => p.dst != some t
theorem ev_mine {u : Nat → Value} {a0 : Act} {l : List Oper} {t j : Nat} (h : dstOnly l t j = true) (ht : t < a0.tmps.size) : (frm l u 0 a0).eval (.tmp t) = u j := by
  unfold dstOnly at h
  rw [Bool.and_eq_true] at h
  obtain ⟨h1, h2⟩ := h
  cases hj : l[j]? with
  | none => rw [hj] at h1; cases h1
  | some o =>
    rw [hj] at h1
    have := (frm_spec u l 0 a0).2.2.2 j o t hj (beq_iff_eq.1 h1) (fun i p hi hne => by
      rw [List.all_eq_true] at h2
      have hlt : i < l.length := (List.getElem?_eq_some_iff.1 hi).1
      have := h2 i (List.mem_range.2 hlt)
      rw [hi] at this
      simp only [Bool.or_eq_true, beq_iff_eq, bne_iff_ne] at this
      rcases this with e | e
      · exact absurd e hne
      · exact e) ht
    rw [Nat.zero_add] at this
    show (frm l u 0 a0).tmps.getD t undef = u j
    rw [Array.getD_eq_getD_getElem?, this]
    rfl
theorem ev_rest {u : Nat → Value} {a0 : Act} {l : List Oper} {t : Nat} (h : dstNone l t = true) : (frm l u 0 a0).eval (.tmp t) = a0.eval (.tmp t) := by
  have := (frm_spec u l 0 a0).2.2.1 t (fun j o hj e => by
    unfold dstNone at h
    rw [List.all_eq_true] at h
    have h2 := h o (List.mem_of_getElem? hj)
    rw [e] at h2
    simp at h2)
  show (frm l u 0 a0).tmps.getD t undef = a0.tmps.getD t undef
  rw [Array.getD_eq_getD_getElem?, Array.getD_eq_getD_getElem?, this]
/-- So asked, with nothing known of the frame but what each operand reads as. -/
theorem cstep_ev {I : (Nat → Bool) → (Nat → Value) → World → Prop} {i : Nat} {o : Oper} (hg : o.guard = none)
    (h : ∀ (E : Operand → Value) (L : Nat → Bool) (u : Nat → Value) (w : World), (∀ t j, dstOnly (l.take n) t j = true → t < a0.tmps.size → E (.tmp t) = u j) → (∀ t, dstNone (l.take n) t = true → E (.tmp t) = a0.eval (.tmp t)) → (∀ v, E (.const v) = v) →
      L i = false → (∀ j, j < n → waits l.toArray i j = true → L j = true) → I L u w → gives P (fun v w' => I (fun j => if j = i then true else L j) (fun j => if j = i then v else u j) w') ((execOp E o).run P w)) : CStep P l n a0 I i o := by
  intro L u w hl hw hI
  rw [if_pos (by unfold Region.wanted; rw [hg])]
  exact h _ L u w (fun t j hd ht => ev_mine hd ht) (fun t hd => ev_rest hd) (fun _ => rfl) hl hw hI
theorem prefix_inv {Q : Exit → Act → World → Prop} {I : (Nat → Bool) → (Nat → Value) → World → Prop} (hn : n ≤ l.length) (hok : JOk l n [])
    (hstep : ∀ (i : Nat) (o : Oper), i < n → l[i]? = some o → CStep P l n a0 I i o)
    (htail : ∀ (L : Nat → Bool) (u : Nat → Value) (w : World), (∀ j, j < n → L j = true) → I L u w → wpList P l.toArray Q (l.drop n) (frm (l.take n) u 0 a0) w) :
    ∀ (m fuel : Nat) (u : Nat → Value) (listed : Array Bool) (a : Act) (w : World), left n listed ≤ m → m + (l.length - n) ≤ fuel → JTriv l n a0 w0 u listed a → I (fun j => listed.getD j false) u w → wpAny P .any l.toArray Q fuel listed a w := by
  have ending : ∀ (fuel : Nat) (u : Nat → Value) (listed : Array Bool) (a : Act) (w : World), (l.length - n) ≤ fuel → JTriv l n a0 w0 u listed a → I (fun j => listed.getD j false) u w → (∀ j, j < n → listed.getD j false = true) → wpAny P .any l.toArray Q fuel listed a w := by
    intro fuel u listed a w hf hI hinv hall
    have ha := hI.whole hok hn hall
    refine tail_any (n := n) hok.back (fun i h1 h2 j h3 h4 => hok.tail i h1 h2 j h4 (by simp)) fuel n listed a w (Nat.le_refl _) hn (by omega) hI.shut (fun j hj => ?_) ?_
    · by_cases h : j < n
      · rw [hall j h]; simp [h]
      · rw [hI.notail j (by omega) hj]; simp [h]
    · rw [ha]
      exact htail _ u w hall hinv
  intro m
  induction m with
  | zero =>
    intro fuel u listed a w hm hf hI hinv
    refine ending fuel u listed a w (by omega) hI hinv (fun j hj => ?_)
    cases h : listed.getD j false with
    | true => rfl
    | false =>
      exfalso
      have hmem : j ∈ (List.range n).filter fun j => !listed.getD j false := by simp [List.mem_filter, hj]; simpa using h
      have : (List.range n).filter (fun j => !listed.getD j false) = [] := List.length_eq_zero_iff.1 (by unfold left at hm; omega)
      rw [this] at hmem; cases hmem
  | succ m ih =>
    intro fuel u listed a w hm hf hI hinv
    have hlt : ∀ j, j < n → j < listed.size := fun j hj => by rw [hI.shut.size]; simp; omega
    by_cases hall : ∀ j, j < n → listed.getD j false = true
    · exact ending fuel u listed a w (by omega) hI hinv hall
    obtain ⟨fuel, rfl⟩ : ∃ f, fuel = f + 1 := ⟨fuel - 1, by omega⟩
    have hex : ∃ j, j < n ∧ listed.getD j false = false ∧ ∀ k, k < j → listed.getD k false = true := by
      apply Classical.byContradiction
      intro hno
      refine hall fun j => ?_
      induction j using Nat.strongRecOn with
      | ind j ihj =>
        intro hj
        cases h : listed.getD j false with
        | true => rfl
        | false => exact absurd ⟨j, hj, h, fun k hk => ihj k hk (by omega)⟩ hno
    obtain ⟨j0, hj0, hj0l, hj0k⟩ := hex
    have hj0o : l[j0]? = some (l[j0]'(by omega)) := List.getElem?_eq_getElem (by omega)
    have hd0 : ∀ e ∈ (l[j0]'(by omega)).after, Region.binds .any e = true → listed.getD e.on false = true := fun e he hb => hj0k _ (hok.back j0 _ hj0o e he hb)
    have hr0 : j0 ∈ Region.ready .any l.toArray listed := mem_ready.2 ⟨by rw [getD_flip (hlt j0 hj0) true false]; exact hj0l, _, by rw [List.getElem?_toArray]; exact hj0o, hd0⟩
    refine ⟨fun h0 => (by rw [h0] at hr0; cases hr0), fun i hi => ?_⟩
    obtain ⟨hun, o, ho, hd⟩ := mem_ready.1 hi
    have hil : i < l.length := by
      rcases Nat.lt_or_ge i l.length with h | h
      · exact h
      · simp [List.getElem?_eq_none h] at ho
    have hol : l[i]? = some o := by simpa using ho
    have hun' : listed.getD i false = false := by rw [← getD_flip (by rw [hI.shut.size]; simp; exact hil) true false]; exact hun
    have hin : i < n := by
      rcases Nat.lt_or_ge i n with h | h
      · exact h
      · exfalso
        exact hall fun j hj => coverX_listed hI.shut i j o ho hd (hok.tail i h hil j (by omega) (by simp))
    have hlook := look_same hn hok hI hin hol hd
    have hs := hstep i o hin hol (fun j => listed.getD j false) u w hun' (fun j hj hw => waits_listed ho hd hw) hinv
    have hsel := fun cs b => Region.noSelect_spec hok.sel i o cs b ho
    have hset : (fun j => (listed.setIfInBounds i true).getD j false) = fun j => if j = i then true else listed.getD j false := by
      funext j
      by_cases h : j = i
      · subst h
        have := hlt j hin
        simp [this]
      · rw [if_neg h, getD_set_ne false (Ne.symm h)]
    unfold wpOp
    simp only [ho]
    rw [wanted_same hlook]
    have go : ∀ v w', I (fun j => if j = i then true else listed.getD j false) (fun j => if j = i then v else u j) w' →
        wpAny P .any l.toArray Q fuel (listed.setIfInBounds i true) (a.put o.dst v) w' := fun v w' h =>
      ih fuel _ _ _ _ (by have := left_set hin (hlt i hin) hun'; omega) (by omega) (hI.next hok (fun _ _ _ _ _ _ => trivial) hin hn hol hun' hd (Below.refl _ _) trivial (fun h => by cases h)) (by rw [hset]; exact h)
    split
    · rename_i hwant
      rw [if_pos hwant] at hs
      refine .inl ?_
      unfold Oper.wp
      rw [exec_same hsel hlook]
      exact upon_of_gives hs fun v w' h => go v w' h
    · rename_i hwant
      rw [if_neg hwant] at hs
      exact go undef w hs

/-- A REGION THAT DRAWS ITS ORDER, BY AN INVARIANT OF WHAT HAS RUN: the first n operations in whatever order; then the tail. -/
theorem wp_region_C {id : Nat} {Q : Exit → Act → World → Prop} (n : Nat) (I : (Nat → Bool) → (Nat → Value) → World → Prop) (hm : P.follows .mixedOrders = true) (hn : n ≤ l.length) (hok : jOk l n [] = true)
    (hstart : I (fun _ => false) (fun _ => undef) w0.drew)
    (hstep : ∀ (i : Nat) (o : Oper), i < n → l[i]? = some o → CStep P l n a0 I i o)
    (htail : ∀ (L : Nat → Bool) (u : Nat → Value) (w : World), (∀ j, j < n → L j = true) → I L u w → wpList P l.toArray Q (l.drop n) (frm (l.take n) u 0 a0) w) :
    (Code.region id l.toArray true).wp P Q a0 w0 := by
  have hok' := jOk_spec hok
  refine wp_region_any hm ?_
  have hun : ∀ j, (Array.replicate l.toArray.size false).getD j false = false := fun j => by
    simp only [Array.getD_eq_getD_getElem?, Array.getElem?_replicate]; split <;> rfl
  refine prefix_inv (w0 := w0) hn hok' hstep htail n l.toArray.size (fun _ => undef) _ a0 _ ?_ (by simp; omega) ?_ ?_
  · unfold left
    exact Nat.le_trans (List.length_filter_le _ _) (by simp)
  · have no : ∀ (j : Nat) (q : Prop), (Array.replicate l.toArray.size false).getD j false = true → q := fun j q h => by rw [hun] at h; cases h
    exact {
      shut := ⟨by simp, fun i o _ h => no i _ h⟩
      notail := fun j _ _ => hun j
      size := rfl
      defers := rfl
      mine := fun j o t _ _ h => no j _ h
      rest := fun _ _ => rfl
      past := Below.refl _ _
      facts := fun j _ h => no j _ h
      fresh := fun j _ h => no j _ h
      apart := fun i j _ _ _ h => no i _ h }
  · have : (fun j => (Array.replicate l.toArray.size false).getD j false) = fun _ => false := funext hun
    rw [this]
    exact hstart
end
end Go.Proofs.Ytjhhcljbmnomlaa

namespace Go.Proofs.Ytjhhcljbmnomlaa
open Go.ChangeShapes Go.WideShapes Go.ChangeAt Go.RowKit

/-- A slice value of so many elements whose cells are these. -/
def SrcV (w : World) (sz : Nat) (v : Value) (n : Nat) (ys : List Value) : Prop :=
  ∃ (a : Option Addr) (cap : Nat), v = .slice a n cap ∧ (a = none → n = 0 ∧ cap = 0) ∧ ys.length = n * sz ∧ (∀ u ∈ ys, u.oneCell' = true) ∧ ∀ ad, a = some ad → ∀ j u, ys[j]? = some u → w.cell? (ad.add j) = some u
theorem srcV_nil (w : World) (sz : Nat) : SrcV w sz (.slice none 0 0) 0 [] := ⟨none, 0, rfl, fun _ => ⟨rfl, rfl⟩, by simp, (fun u h => by cases h), (fun ad h => by cases h)⟩
theorem srcV_new {w : World} {p sz n cap : Nat} {ys : List Value} {t : TypeId} (h : Blk w p ys.toArray t) (hl : ys.length = n * sz) (h1 : ∀ u ∈ ys, u.oneCell' = true) : SrcV w sz (.slice (some ⟨p, 0, none⟩) n cap) n ys := by
  refine ⟨_, cap, rfl, fun h => by simp at h, hl, h1, ?_⟩
  rintro ad ⟨⟩ j u hu
  have e : ((⟨p, 0, none⟩ : Addr).add j) = ⟨p, j, none⟩ := by
    unfold Addr.add
    by_cases c : j = 0
    · subst c; simp
    · simp [c]
  rw [e, h.cell j, ← hu]
  simp
theorem wp_appV {P : Program} {o : Oper} {a : Act} {w : World} {K : Act → World → Prop} {Q : Exit → Act → World → Prop}
    (s x : Operand) (t : TypeId) (hop : o.op = Op.call { callee := Callee.builtin Builtin.append, args := #[s, x], argTypes := #[t, t] })
    (base : Nat) (e : TypeId) (i : TypeInfo) (z : Value) (sz by' : Nat) (ht : P.underlying t = some (.slice e)) (hi : P.info? e = some i) (hz : i.zero = some z) (hsize : i.size = sz) (hby : i.bytes = by') (hzs : z.cells.size = sz) (hs0 : 0 < sz)
    (v : Value) (n : Nat) (xs : List Value) (hs : a.eval s = v) (hown : w.ownsRow base e sz v n xs)
    (vx : Value) (m : Nat) (ys : List Value) (hx : a.eval x = vx) (hsrc : SrcV w sz vx m ys)
    (h63 : n + m ≤ 1099511627776) (hb' : by' ≤ 100) (hbase : base ≤ w.heap.size)
    (h : ∀ v' w', w'.ownsRow base e sz v' (n + m) (xs ++ ys) → w.grownBy w' v.ownBlock → K (a.put o.dst v') w') : Oper.wp P o a w K Q := by
  obtain ⟨ad, cap, rfl, hn, hl, h1, hc⟩ := hsrc
  cases ad with
  | none =>
    obtain ⟨rfl, rfl⟩ := hn rfl
    have hy : ys = [] := List.eq_nil_of_length_eq_zero (by omega)
    subst hy
    have hrun := run_append_owned_none (P := P) (w := w) base t o.type e i sz ht hi v n xs hown
    have hK := h v w (by simpa using hown) ⟨rfl, rfl, rfl, Nat.le_refl _, fun _ _ _ => rfl⟩
    unfold Oper.wp
    simp [execOp, hop, resolve, invoke, builtin, hs, hx, hrun, Result.andThen]
    exact hK
  | some ad =>
    have hbb : (n + m) * by' ≤ (n + m) * 100 := Nat.mul_le_mul_left _ hb'
    exact wp_append_own w s x t hop base e i z sz by' ht hi hz hsize hby hzs hs0 v n xs hs hown ad m cap ys hx hl (hc ad rfl) h1 (by unfold maxLen; omega) (by omega) hbase fun v' w' h1 h2 _ => h v' w' h1 h2
/-- For a region in the text's order. -/
theorem list_appV {P : Program} {ops : Array Oper} {rest : List Oper} {o : Oper} {a : Act} {w : World} {Q : Exit → Act → World → Prop} (hgd : o.guard = none) (s x : Operand) (t : TypeId)
    (ho : o.op = .call { callee := .builtin .append, args := #[s, x], argTypes := #[t, t] })
    (base : Nat) (e : TypeId) (i : TypeInfo) (z : Value) (sz by' : Nat) (ht : P.underlying t = some (.slice e)) (hi : P.info? e = some i) (hz : i.zero = some z) (hsize : i.size = sz) (hby : i.bytes = by') (hzs : z.cells.size = sz) (hs0 : 0 < sz)
    (v : Value) (n : Nat) (xs : List Value) (hs : a.eval s = v) (hown : w.ownsRow base e sz v n xs)
    (vx : Value) (m : Nat) (ys : List Value) (hx : a.eval x = vx) (hsrc : SrcV w sz vx m ys)
    (h63 : n + m ≤ 1099511627776) (hb' : by' ≤ 100) (hbase : base ≤ w.heap.size)
    (h : ∀ v' w', w'.ownsRow base e sz v' (n + m) (xs ++ ys) → w.grownBy w' v.ownBlock → wpList P ops Q rest (a.put o.dst v') w') : wpList P ops Q (o :: rest) a w :=
  wpList_plain hgd fun _ hK => wp_appV s x t ho base e i z sz by' ht hi hz hsize hby hzs hs0 v n xs hs hown vx m ys hx hsrc h63 hb' hbase fun v' w' h2 h3 => hK _ _ (h v' w' h2 h3)
/-- For a region that draws its order. -/
theorem step_appV {P : Program} {ops : Array Oper} {o : Oper} {a : Act} {w : World} {K : Act → World → Prop} {Q : Exit → Act → World → Prop} {E : Prop}
    (hg : o.guard = none) (s x : Operand) (t : TypeId) (hop : o.op = Op.call { callee := Callee.builtin Builtin.append, args := #[s, x], argTypes := #[t, t] })
    (base : Nat) (e : TypeId) (i : TypeInfo) (z : Value) (sz by' : Nat) (ht : P.underlying t = some (.slice e)) (hi : P.info? e = some i) (hz : i.zero = some z) (hsize : i.size = sz) (hby : i.bytes = by') (hzs : z.cells.size = sz) (hs0 : 0 < sz)
    (v : Value) (n : Nat) (xs : List Value) (hs : a.eval s = v) (hown : w.ownsRow base e sz v n xs)
    (vx : Value) (m : Nat) (ys : List Value) (hx : a.eval x = vx) (hsrc : SrcV w sz vx m ys)
    (h63 : n + m ≤ 1099511627776) (hb' : by' ≤ 100) (hbase : base ≤ w.heap.size)
    (h : ∀ v' w', w'.ownsRow base e sz v' (n + m) (xs ++ ys) → w.grownBy w' v.ownBlock → K (a.put o.dst v') w') :
    if Region.wanted o (yielded ops a.tmps) = true then Oper.wp P o a w K Q else E := by
  have hw : Region.wanted o (yielded ops a.tmps) = true := by simp [Region.wanted, hg]
  rw [if_pos hw]
  exact wp_appV s x t hop base e i z sz by' ht hi hz hsize hby hzs hs0 v n xs hs hown vx m ys hx hsrc h63 hb' hbase h
end Go.Proofs.Ytjhhcljbmnomlaa

namespace Go.Proofs.Ytjhhcljbmnomlaa
open Go.ChangeShapes Go.WideShapes Go.ChangeAt Go.RowKit

abbrev upB (L : Nat → Bool) (i : Nat) : Nat → Bool := fun j => if j = i then true else L j
abbrev upV (u : Nat → Value) (i : Nat) (v : Value) : Nat → Value := fun j => if j = i then v else u j
/-- What holds while the operations run: the fixed values; the row, as far as it has got. -/
structure ApI (tp : TypeId) (sz : Nat) (W0 : World) (D : Nat → Option Value) (pB p1 p2 k n m : Nat) (cX c1 c2 : List Value) (L : Nat → Bool) (u : Nat → Value) (w : World) : Prop where
  bel : Below W0.heap.size W0 w
  det : ∀ j v, D j = some v → L j = true → u j = v
  o1 : L p1 = true → L pB = true
  o2 : L p2 = true → L p1 = true
  rB : L pB = true → L p1 = false → w.ownsRow W0.heap.size tp sz (u pB) k cX
  r1 : L p1 = true → L p2 = false → w.ownsRow W0.heap.size tp sz (u p1) (k + n) (cX ++ c1)
  r2 : L p2 = true → w.ownsRow W0.heap.size tp sz (u p2) (k + n + m) (cX ++ c1 ++ c2)
/-- The three places are apart, and none has a fixed value. -/
def ApOk (D : Nat → Option Value) (pB p1 p2 : Nat) : Prop := (pB ≠ p1 ∧ pB ≠ p2 ∧ p1 ≠ p2) ∧ D pB = none ∧ D p1 = none ∧ D p2 = none
section
variable {tp : TypeId} {sz : Nat} {W0 : World} {D : Nat → Option Value} {pB p1 p2 k n m : Nat} {cX c1 c2 : List Value} {L : Nat → Bool} {u : Nat → Value} {w w' : World}
theorem apI_start (hb : Below W0.heap.size W0 w) : ApI tp sz W0 D pB p1 p2 k n m cX c1 c2 (fun _ => false) (fun _ => undef) w :=
  ⟨hb, fun j v _ h => (by cases h), fun h => (by cases h), fun h => (by cases h), fun h => (by cases h), fun h => (by cases h), fun h => (by cases h)⟩
theorem ApI.ndet (h : ApI tp sz W0 D pB p1 p2 k n m cX c1 c2 L u w) (hk : ApOk D pB p1 p2) {i : Nat} {v : Value} (hd : D i = some v) (hb : Below w.heap.size w w') : ApI tp sz W0 D pB p1 p2 k n m cX c1 c2 (upB L i) (upV u i v) w' := by
  have iB : pB ≠ i := fun e => by rw [← e, hk.2.1] at hd; cases hd
  have i1 : p1 ≠ i := fun e => by rw [← e, hk.2.2.1] at hd; cases hd
  have i2 : p2 ≠ i := fun e => by rw [← e, hk.2.2.2] at hd; cases hd
  refine ⟨h.bel.trans (hb.mono h.bel.size), fun j x hx hj => ?_, ?_, ?_, ?_, ?_, ?_⟩
  · by_cases c : j = i
    · subst c
      rw [hd] at hx; cases hx
      simp [upV]
    · simp only [upB, upV, if_neg c] at hj ⊢; exact h.det j x hx hj
  · simp only [upB, if_neg i1, if_neg iB]; exact h.o1
  · simp only [upB, if_neg i1, if_neg i2]; exact h.o2
  · simp only [upB, upV, if_neg i1, if_neg iB]; exact fun a b => own_below (h.rB a b) hb
  · simp only [upB, upV, if_neg i1, if_neg i2]; exact fun a b => own_below (h.r1 a b) hb
  · simp only [upB, upV, if_neg i2]; exact fun a => own_below (h.r2 a) hb
theorem ApI.nbuild (h : ApI tp sz W0 D pB p1 p2 k n m cX c1 c2 L u w) (hk : ApOk D pB p1 p2) (hl : L pB = false) {v : Value} (ho : w'.ownsRow W0.heap.size tp sz v k cX) (hb : Below w.heap.size w w') : ApI tp sz W0 D pB p1 p2 k n m cX c1 c2 (upB L pB) (upV u pB v) w' := by
  obtain ⟨⟨a1, a2, a3⟩, b1, b2, b3⟩ := hk
  have l1 : L p1 = false := by
    cases e : L p1 with
    | false => rfl
    | true => rw [h.o1 e] at hl; cases hl
  have l2 : L p2 = false := by
    cases e : L p2 with
    | false => rfl
    | true => rw [h.o2 e] at l1; cases l1
  refine ⟨h.bel.trans (hb.mono h.bel.size), fun j x hx hj => ?_, ?_, ?_, ?_, ?_, ?_⟩
  · by_cases c : j = pB
    · subst c; rw [b1] at hx; cases hx
    · simp only [upB, upV, if_neg c] at hj ⊢; exact h.det j x hx hj
  · simp [upB]
  · simp only [upB, if_neg (Ne.symm a2), if_neg (Ne.symm a1), l2]; exact fun e => by cases e
  · intro _ _; simpa [upV] using ho
  · simp only [upB, if_neg (Ne.symm a1), l1]; exact fun e => by cases e
  · simp only [upB, if_neg (Ne.symm a2), l2]; exact fun e => by cases e
theorem ApI.napp1 (h : ApI tp sz W0 D pB p1 p2 k n m cX c1 c2 L u w) (hk : ApOk D pB p1 p2) (hl : L p1 = false) (hB : L pB = true) {v : Value} (ho : w'.ownsRow W0.heap.size tp sz v (k + n) (cX ++ c1)) (hg : w.grownBy w' (u pB).ownBlock) : ApI tp sz W0 D pB p1 p2 k n m cX c1 c2 (upB L p1) (upV u p1 v) w' := by
  obtain ⟨⟨a1, a2, a3⟩, b1, b2, b3⟩ := hk
  have l2 : L p2 = false := by
    cases e : L p2 with
    | false => rfl
    | true => rw [h.o2 e] at hl; cases hl
  have hrow := h.rB hB hl
  refine ⟨Below.grown h.bel hg h.bel.size (fun j e => own_block hrow e), fun j x hx hj => ?_, ?_, ?_, ?_, ?_, ?_⟩
  · by_cases c : j = p1
    · subst c; rw [b2] at hx; cases hx
    · simp only [upB, upV, if_neg c] at hj ⊢; exact h.det j x hx hj
  · simp [upB, hB]
  · simp [upB]
  · simp [upB]
  · intro _ _; simpa [upV] using ho
  · simp only [upB, if_neg (Ne.symm a3), l2]; exact fun e => by cases e
theorem ApI.napp2 (h : ApI tp sz W0 D pB p1 p2 k n m cX c1 c2 L u w) (hk : ApOk D pB p1 p2) (hl : L p2 = false) (h1 : L p1 = true) {v : Value} (ho : w'.ownsRow W0.heap.size tp sz v (k + n + m) (cX ++ c1 ++ c2)) (hg : w.grownBy w' (u p1).ownBlock) : ApI tp sz W0 D pB p1 p2 k n m cX c1 c2 (upB L p2) (upV u p2 v) w' := by
  obtain ⟨⟨a1, a2, a3⟩, b1, b2, b3⟩ := hk
  have hrow := h.r1 h1 hl
  refine ⟨Below.grown h.bel hg h.bel.size (fun j e => own_block hrow e), fun j x hx hj => ?_, ?_, ?_, ?_, ?_, ?_⟩
  · by_cases c : j = p2
    · subst c; rw [b3] at hx; cases hx
    · simp only [upB, upV, if_neg c] at hj ⊢; exact h.det j x hx hj
  · simp only [upB, if_neg a2, if_neg a3]; exact h.o1
  · simp [upB, h1]
  · simp only [upB, if_neg a3, h1]; exact fun _ e => by cases e
  · simp [upB]
  · intro _; simpa [upV] using ho
end
theorem cstep_evF {P : Program} {l : List Oper} {n : Nat} {a0 : Act} {I : (Nat → Bool) → (Nat → Value) → World → Prop} {i : Nat} {o : Oper} (hg : o.guard = none)
    (h : ∀ (E : Operand → Value) (L : Nat → Bool) (u : Nat → Value) (w : World), (∀ t j, dstOnly (l.take n) t j = true → t < a0.tmps.size → E (.tmp t) = u j) → (∀ t, dstNone (l.take n) t = true → E (.tmp t) = a0.eval (.tmp t)) → (∀ v, E (.const v) = v) → (∀ f, E (.func f) = .func (.func f) #[] #[]) →
      L i = false → (∀ j, j < n → waits l.toArray i j = true → L j = true) → I L u w → gives P (fun v w' => I (fun j => if j = i then true else L j) (fun j => if j = i then v else u j) w') ((execOp E o).run P w)) : CStep P l n a0 I i o := by
  intro L u w hl hw hI
  rw [if_pos (by unfold Region.wanted; rw [hg])]
  exact h _ L u w (fun t j hd ht => ev_mine hd ht) (fun t hd => ev_rest hd) (fun _ => rfl) (fun _ => rfl) hl hw hI
/-- The same with one row alone. -/
def Ap1 (tp : TypeId) (sz : Nat) (W0 : World) (D : Nat → Option Value) (pB p1 k n : Nat) (cX c1 : List Value) (L : Nat → Bool) (u : Nat → Value) (w : World) : Prop := ApI tp sz W0 D pB p1 999 k n 0 cX c1 [] L u w ∧ L 999 = false
section
variable {tp : TypeId} {sz : Nat} {W0 : World} {D : Nat → Option Value} {pB p1 k n : Nat} {cX c1 : List Value} {L : Nat → Bool} {u : Nat → Value} {w w' : World}
theorem ap1_start (hb : Below W0.heap.size W0 w) : Ap1 tp sz W0 D pB p1 k n cX c1 (fun _ => false) (fun _ => undef) w := ⟨apI_start hb, rfl⟩
theorem Ap1.bel (h : Ap1 tp sz W0 D pB p1 k n cX c1 L u w) : Below W0.heap.size W0 w := h.1.bel
theorem Ap1.det (h : Ap1 tp sz W0 D pB p1 k n cX c1 L u w) : ∀ j v, D j = some v → L j = true → u j = v := h.1.det
theorem Ap1.rB (h : Ap1 tp sz W0 D pB p1 k n cX c1 L u w) : L pB = true → L p1 = false → w.ownsRow W0.heap.size tp sz (u pB) k cX := h.1.rB
theorem Ap1.r1 (h : Ap1 tp sz W0 D pB p1 k n cX c1 L u w) (h1 : L p1 = true) : w.ownsRow W0.heap.size tp sz (u p1) (k + n) (cX ++ c1) := h.1.r1 h1 h.2
theorem Ap1.ndet (h : Ap1 tp sz W0 D pB p1 k n cX c1 L u w) (hk : ApOk D pB p1 999) {i : Nat} {v : Value} (hd : D i = some v) (hb : Below w.heap.size w w') : Ap1 tp sz W0 D pB p1 k n cX c1 (upB L i) (upV u i v) w' :=
  ⟨h.1.ndet hk hd hb, by
    have : ¬ 999 = i := fun e => by rw [← e, hk.2.2.2] at hd; cases hd
    simp only [upB, if_neg this]; exact h.2⟩
theorem Ap1.nbuild (h : Ap1 tp sz W0 D pB p1 k n cX c1 L u w) (hk : ApOk D pB p1 999) (hl : L pB = false) {v : Value} (ho : w'.ownsRow W0.heap.size tp sz v k cX) (hb : Below w.heap.size w w') : Ap1 tp sz W0 D pB p1 k n cX c1 (upB L pB) (upV u pB v) w' :=
  ⟨h.1.nbuild hk hl ho hb, by simp only [upB, if_neg (Ne.symm hk.1.2.1)]; exact h.2⟩
theorem Ap1.napp1 (h : Ap1 tp sz W0 D pB p1 k n cX c1 L u w) (hk : ApOk D pB p1 999) (hl : L p1 = false) (hB : L pB = true) {v : Value} (ho : w'.ownsRow W0.heap.size tp sz v (k + n) (cX ++ c1)) (hg : w.grownBy w' (u pB).ownBlock) : Ap1 tp sz W0 D pB p1 k n cX c1 (upB L p1) (upV u p1 v) w' :=
  ⟨h.1.napp1 hk hl hB ho hg, by simp only [upB, if_neg (Ne.symm hk.1.2.2)]; exact h.2⟩
end
/-- An append to a row that is owned, of a slice whose cells are known, asked as wp_region_C asks it. -/
theorem gives_appV {P : Program} {o : Oper} {E : Operand → Value} {w : World} {G : Value → World → Prop} (s x : Operand) (t : TypeId)
    (hop : o.op = Op.call { callee := Callee.builtin Builtin.append, args := #[s, x], argTypes := #[t, t] })
    (base : Nat) (e : TypeId) (i : TypeInfo) (z : Value) (sz by' : Nat) (ht : P.underlying t = some (.slice e)) (hi : P.info? e = some i) (hz : i.zero = some z) (hsize : i.size = sz) (hby : i.bytes = by') (hzs : z.cells.size = sz) (hs0 : 0 < sz)
    (n : Nat) (xs : List Value) (hown : w.ownsRow base e sz (E s) n xs)
    (m : Nat) (ys : List Value) (hsrc : SrcV w sz (E x) m ys)
    (h63 : n + m ≤ 1099511627776) (hb' : by' ≤ 100) (hbase : base ≤ w.heap.size)
    (h : ∀ v' w', w'.ownsRow base e sz v' (n + m) (xs ++ ys) → w.grownBy w' (E s).ownBlock → G v' w') : gives P G ((execOp E o).run P w) := by
  obtain ⟨a, cap, hx, h0, hl, h1, hc⟩ := hsrc
  cases a with
  | none =>
    obtain ⟨rfl, rfl⟩ := h0 rfl
    have hy : ys = [] := List.eq_nil_of_length_eq_zero (by omega)
    subst hy
    have hrun := run_append_owned_none (P := P) (w := w) base t o.type e i sz ht hi (E s) n xs hown
    have hK := h (E s) w (by simpa using hown) ⟨rfl, rfl, rfl, Nat.le_refl _, fun _ _ _ => rfl⟩
    unfold execOp
    simp [hop, resolve, invoke, builtin, hx, hrun, Result.andThen, gives]
    exact hK
  | some ad =>
    have hbb : (n + m) * by' ≤ (n + m) * 100 := Nat.mul_le_mul_left _ hb'
    obtain ⟨v', w', hr, h2, h3, h4⟩ := run_append_own (P := P) w base t o.type e i z sz by' ht hi hz hsize hby hzs hs0 (E s) n xs hown ad m cap ys hl (hc ad rfl) h1 (by unfold maxLen; omega) (by omega) hbase
    unfold execOp
    simp only [hop, resolve, invoke, builtin, Sem.run_bind, Sem.run_pure, Result.andThen_ok, List.map_toArray, List.map_cons, List.map_nil, hx, hr]
    exact h v' w' h2 h3
theorem gives_ok {P : Program} {G : Value → World → Prop} {r : Result Next} {v : Value} {w' : World} (h : r = .ok (.value v) w') (hG : G v w') : gives P G r := by rw [h]; exact hG
theorem gives_call {P : Program} {G : Value → World → Prop} {r : Result Next} {f : Nat} {args : Array Value} {w' : World} {C : Ending → World → Prop} (h : r = .ok (.enter f args) w') (hc : Calls P f args w' C) (hG : ∀ e w2, C e w2 → ∃ v, e = .returned v ∧ G v w2) : gives P G r := by
  rw [h]; exact hc.mono fun e w2 q => hG e w2 q
end Go.Proofs.Ytjhhcljbmnomlaa

namespace Go.Proofs.Ytjhhcljbmnomlaa
open Go.ChangeShapes Go.WideShapes Go.ChangeAt Go.RowKit

theorem srcV_grown {w w' : World} {sz n : Nat} {v : Value} {ys : List Value} {r : Option Nat} (h : SrcV w sz v n ys) (hz : ∀ k, v.ownBlock = some k → k < w.heap.size) (hg : w.grownBy w' r) (hne : ∀ k, v.ownBlock = some k → r ≠ some k) : SrcV w' sz v n ys := by
  obtain ⟨a, cap, rfl, h0, h1, h2, h3⟩ := h
  refine ⟨a, cap, rfl, h0, h1, h2, fun ad e j u hu => ?_⟩
  subst e
  have hb : (ad.add j).block = ad.block := by unfold Addr.add; split <;> rfl
  have hk : w'.heap[ad.block]? = w.heap[ad.block]? := hg.block _ (hz ad.block rfl) (fun e => hne ad.block rfl e.symm)
  exact (World.cell?_of_block (a := ad.add j) (by rw [hb]; exact hk)).trans (h3 ad rfl j u hu)
theorem grown_below {w w' : World} (h : Below w.heap.size w w') : w.grownBy w' none := ⟨h.os, h.tape, h.output, h.size, fun k hk _ => h.block k hk⟩
theorem srcV_pastC {w w' : World} {sz n : Nat} {v : Value} {ys : List Value} (h : SrcV w sz v n ys) (hz : ∀ k, v.ownBlock = some k → k < w.heap.size) (hb : Below w.heap.size w w') : SrcV w' sz v n ys := srcV_grown h hz (grown_below hb) (fun k _ e => by cases e)
/-- A row that is owned can be copied. -/
theorem srcV_own {w : World} {B sz n : Nat} {e : TypeId} {v : Value} {xs : List Value} (h : w.ownsRow B e sz v n xs) (h1 : ∀ u ∈ xs, u.oneCell' = true) : SrcV w sz v n xs := by
  obtain ⟨h2, h3 | ⟨g, cap, cur, rfl, h4, h5, h6, h7, h8, h9⟩⟩ := id h
  · obtain ⟨rfl, rfl⟩ := h3
    have : xs = [] := List.eq_nil_of_length_eq_zero (by simpa using h2)
    subst this
    exact srcV_nil _ _
  · refine ⟨_, cap, rfl, fun e => (by cases e), h2, h1, fun ad e j u hu => ?_⟩
    cases e
    exact h.cells (g := g) rfl j u hu

/-- The places are apart. -/
def ChOk (D : Nat → Option Value) (Pl sl : Nat → Nat) (N : Nat) : Prop :=
  (∀ i, i ≤ N → D (Pl i) = none) ∧ (∀ j, D (sl j) = none) ∧ (∀ i k, i ≤ N → k ≤ N → Pl i = Pl k → i = k) ∧ (∀ i j, i ≤ N → Pl i ≠ sl j)
/-- What holds while the operations run: the fixed values; the row, as far as it has got; the sources that have not been used. -/
structure ChI (tp : TypeId) (sz : Nat) (W0 : World) (D : Nat → Option Value) (Pl sl : Nat → Nat) (N : Nat) (nn mm : Nat → Nat) (R C : Nat → List Value) (L : Nat → Bool) (u : Nat → Value) (w : World) : Prop where
  bel : Below W0.heap.size W0 w
  det : ∀ j v, D j = some v → L j = true → u j = v
  ord : ∀ i, i < N → L (Pl (i + 1)) = true → L (Pl i) = true
  row : ∀ i, i ≤ N → L (Pl i) = true → (i < N → L (Pl (i + 1)) = false) → w.ownsRow W0.heap.size tp sz (u (Pl i)) (nn i) (R i)
  src : ∀ j, j ≤ N → L (sl j) = true → L (Pl j) = false → SrcV w sz (u (sl j)) (mm j) (C j) ∧ (∀ k, (u (sl j)).ownBlock = some k → k < w.heap.size) ∧
    ∀ i, i ≤ N → L (Pl i) = true → (i < N → L (Pl (i + 1)) = false) → ∀ k, (u (sl j)).ownBlock = some k → (u (Pl i)).ownBlock ≠ some k
section
variable {tp : TypeId} {sz : Nat} {W0 : World} {D : Nat → Option Value} {Pl sl : Nat → Nat} {N : Nat} {nn mm : Nat → Nat} {R C : Nat → List Value} {L : Nat → Bool} {u : Nat → Value} {w w' : World}
theorem chI_start (hb : Below W0.heap.size W0 w) : ChI tp sz W0 D Pl sl N nn mm R C (fun _ => false) (fun _ => undef) w :=
  ⟨hb, fun j v _ h => (by cases h), fun i _ h => (by cases h), fun i _ h => (by cases h), fun j _ h => (by cases h)⟩
theorem ChI.ndet (h : ChI tp sz W0 D Pl sl N nn mm R C L u w) (hk : ChOk D Pl sl N) {i : Nat} {v : Value} (hd : D i = some v) (hb : Below w.heap.size w w') : ChI tp sz W0 D Pl sl N nn mm R C (upB L i) (upV u i v) w' := by
  have iP : ∀ k, k ≤ N → ¬ Pl k = i := fun k hkN e => by rw [← e, hk.1 k hkN] at hd; cases hd
  have iS : ∀ k, ¬ sl k = i := fun k e => by rw [← e, hk.2.1 k] at hd; cases hd
  refine ⟨h.bel.trans (hb.mono h.bel.size), fun j x hx hj => ?_, fun k hkN => ?_, fun k hkN => ?_, fun j hj => ?_⟩
  · by_cases c : j = i
    · subst c
      rw [hd] at hx; cases hx
      simp [upV]
    · simp only [upB, upV, if_neg c] at hj ⊢; exact h.det j x hx hj
  · simp only [upB, if_neg (iP _ (show k + 1 ≤ N from hkN)), if_neg (iP k (by omega))]; exact h.ord k hkN
  · intro h1 h2
    simp only [upB, upV, if_neg (iP k hkN)] at h1 ⊢
    refine own_below (h.row k hkN h1 fun hlt => ?_) hb
    have := h2 hlt
    simpa only [upB, if_neg (iP _ (show k + 1 ≤ N from hlt))] using this
  · intro h1 h2
    simp only [upB, upV, if_neg (iS j), if_neg (iP j hj)] at h1 h2 ⊢
    obtain ⟨q1, q2, q3⟩ := h.src j hj h1 h2
    refine ⟨srcV_pastC q1 q2 hb, fun k hk' => Nat.lt_of_lt_of_le (q2 k hk') hb.size, fun k hkN h3 h4 => ?_⟩
    simp only [if_neg (iP k hkN)] at h3 ⊢
    refine q3 k hkN h3 fun hlt => ?_
    have := h4 hlt
    simpa only [if_neg (iP _ (show k + 1 ≤ N from hlt))] using this
/-- The row begins. -/
theorem ChI.nbase (h : ChI tp sz W0 D Pl sl N nn mm R C L u w) (hk : ChOk D Pl sl N) (hl : L (Pl 0) = false) {v : Value} (ho : w'.ownsRow W0.heap.size tp sz v (nn 0) (R 0)) (hb : Below w.heap.size w w') (hf : ∀ k, v.ownBlock = some k → w.heap.size ≤ k) :
    ChI tp sz W0 D Pl sl N nn mm R C (upB L (Pl 0)) (upV u (Pl 0) v) w' := by
  have all : ∀ k, k ≤ N → L (Pl k) = false := fun k => by
    induction k with
    | zero => intro _; exact hl
    | succ k ih =>
      intro hk'
      cases e : L (Pl (k + 1)) with
      | false => rfl
      | true =>
        have := h.ord k (by omega) e
        rw [ih (by omega)] at this; cases this
  have iP : ∀ k, k ≤ N → k ≠ 0 → ¬ Pl k = Pl 0 := fun k hkN h0 e => h0 (hk.2.2.1 k 0 hkN (by omega) e)
  have iS : ∀ k, ¬ sl k = Pl 0 := fun k e => hk.2.2.2 0 k (by omega) e.symm
  refine ⟨h.bel.trans (hb.mono h.bel.size), fun j x hx hj => ?_, fun k hkN => ?_, fun k hkN h1 h2 => ?_, fun j hj h1 h2 => ?_⟩
  · by_cases c : j = Pl 0
    · subst c; rw [hk.1 0 (by omega)] at hx; cases hx
    · simp only [upB, upV, if_neg c] at hj ⊢; exact h.det j x hx hj
  · simp only [upB, if_neg (iP (k + 1) hkN (by omega)), all (k + 1) hkN]; exact fun e => by cases e
  · by_cases c : k = 0
    · subst c; simpa [upV] using ho
    · simp only [upB, if_neg (iP k hkN c), all k hkN] at h1; cases h1
  · have hj0 : j ≠ 0 := fun e => by subst e; simp [upB] at h2
    simp only [upB, upV, if_neg (iS j), if_neg (iP j hj hj0)] at h1 h2 ⊢
    obtain ⟨q1, q2, q3⟩ := h.src j hj h1 h2
    refine ⟨srcV_pastC q1 q2 hb, fun k hk' => Nat.lt_of_lt_of_le (q2 k hk') hb.size, fun i hi h3 h4 k hk' e => ?_⟩
    by_cases c : i = 0
    · subst c
      rw [if_pos rfl] at e
      have := hf k e; have := q2 k hk'; omega
    · simp only [if_neg (iP i hi c), all i hi] at h3; cases h3
/-- A source is made. -/
theorem ChI.nsrc (h : ChI tp sz W0 D Pl sl N nn mm R C L u w) (hk : ChOk D Pl sl N) {j : Nat} (hinj : ∀ k, k ≤ N → sl k = sl j → k = j) {v : Value} (hs : SrcV w' sz v (mm j) (C j)) (hz : ∀ k, v.ownBlock = some k → w.heap.size ≤ k ∧ k < w'.heap.size) (hb : Below w.heap.size w w') :
    ChI tp sz W0 D Pl sl N nn mm R C (upB L (sl j)) (upV u (sl j) v) w' := by
  have iP : ∀ k, k ≤ N → ¬ Pl k = sl j := fun k hkN e => hk.2.2.2 k j hkN e
  refine ⟨h.bel.trans (hb.mono h.bel.size), fun i x hx hj => ?_, fun k hkN => ?_, fun k hkN h1 h2 => ?_, fun i hi h1 h2 => ?_⟩
  · by_cases c : i = sl j
    · subst c; rw [hk.2.1 j] at hx; cases hx
    · simp only [upB, upV, if_neg c] at hj ⊢; exact h.det i x hx hj
  · simp only [upB, if_neg (iP _ (show k + 1 ≤ N from hkN)), if_neg (iP k (by omega))]; exact h.ord k hkN
  · simp only [upB, upV, if_neg (iP k hkN)] at h1 ⊢
    refine own_below (h.row k hkN h1 fun hlt => ?_) hb
    have := h2 hlt
    simpa only [upB, if_neg (iP _ (show k + 1 ≤ N from hlt))] using this
  · have back : ∀ k, k ≤ N → (k < N → upB L (sl j) (Pl (k + 1)) = false) → (k < N → L (Pl (k + 1)) = false) := fun k hkN h4 hlt => by
      have := h4 hlt
      simpa only [upB, if_neg (iP _ (show k + 1 ≤ N from hlt))] using this
    by_cases c : sl i = sl j
    · have := hinj i hi c
      subst this
      simp only [upV, if_true]
      refine ⟨hs, fun k hk' => (hz k hk').2, fun k hkN h3 h4 b hb' e => ?_⟩
      simp only [upB, if_neg (iP k hkN)] at h3 e
      have hr := h.row k hkN h3 (back k hkN h4)
      have := own_lt hr e; have := (hz b hb').1; omega
    · simp only [upB, upV, if_neg c, if_neg (iP i hi)] at h1 h2 ⊢
      obtain ⟨q1, q2, q3⟩ := h.src i hi h1 h2
      refine ⟨srcV_pastC q1 q2 hb, fun k hk' => Nat.lt_of_lt_of_le (q2 k hk') hb.size, fun k hkN h3 h4 => ?_⟩
      simp only [if_neg (iP k hkN)] at h3 ⊢
      exact q3 k hkN h3 (back k hkN h4)
/-- The row grows. -/
theorem ChI.napp (h : ChI tp sz W0 D Pl sl N nn mm R C L u w) (hk : ChOk D Pl sl N) {i : Nat} (hi : i < N) (hl : L (Pl (i + 1)) = false) (hp : L (Pl i) = true) {v : Value} (ho : w'.ownsRow W0.heap.size tp sz v (nn (i + 1)) (R (i + 1))) (hg : w.grownBy w' (u (Pl i)).ownBlock)
    (hat : v.ownBlock = (u (Pl i)).ownBlock ∨ v.ownBlock = some w.heap.size) : ChI tp sz W0 D Pl sl N nn mm R C (upB L (Pl (i + 1))) (upV u (Pl (i + 1)) v) w' := by
  have hrow := h.row i (by omega) hp fun _ => hl
  have up : ∀ k, i < k → k ≤ N → L (Pl k) = false := fun k => by
    induction k with
    | zero => intro h1; omega
    | succ k ih =>
      intro h1 h2
      by_cases c : k = i
      · subst c; exact hl
      · cases e : L (Pl (k + 1)) with
        | false => rfl
        | true =>
          have := h.ord k (by omega) e
          rw [ih (by omega) (by omega)] at this; cases this
  have dn : ∀ k, k ≤ i → L (Pl k) = true := fun k hk' => by
    have : ∀ m, m ≤ i → L (Pl (i - m)) = true := fun m => by
      induction m with
      | zero => intro _; exact hp
      | succ m ih =>
        intro hm
        have h1 := ih (by omega)
        have h2 := h.ord (i - (m + 1)) (by omega) (by rw [show i - (m + 1) + 1 = i - m by omega]; exact h1)
        exact h2
    have h1 := this (i - k) (by omega)
    rwa [show i - (i - k) = k by omega] at h1
  have iP : ∀ k, k ≤ N → k ≠ i + 1 → ¬ Pl k = Pl (i + 1) := fun k hkN h0 e => h0 (hk.2.2.1 k (i + 1) hkN (by omega) e)
  have iS : ∀ k, ¬ sl k = Pl (i + 1) := fun k e => hk.2.2.2 (i + 1) k (by omega) e.symm
  refine ⟨Below.grown h.bel hg h.bel.size (fun k e => own_block hrow e), fun j x hx hj => ?_, fun k hkN h1 => ?_, fun k hkN h1 h2 => ?_, fun j hj h1 h2 => ?_⟩
  · by_cases c : j = Pl (i + 1)
    · subst c; rw [hk.1 (i + 1) (by omega)] at hx; cases hx
    · simp only [upB, upV, if_neg c] at hj ⊢; exact h.det j x hx hj
  · by_cases c : k = i + 1
    · subst c; simp [upB]
    · simp only [upB, if_neg (iP k (by omega) c)]
      by_cases c2 : k = i
      · subst c2; exact hp
      · simp only [upB, if_neg (iP (k + 1) hkN (by omega))] at h1
        exact h.ord k hkN h1
  · by_cases c : k = i + 1
    · subst c; simpa [upV] using ho
    · simp only [upB, if_neg (iP k hkN c)] at h1
      by_cases c2 : k < i + 1
      · exfalso
        have := h2 (by omega)
        by_cases c3 : k = i
        · subst c3; simp [upB] at this
        · simp only [upB, if_neg (iP (k + 1) (by omega) (by omega))] at this
          rw [dn (k + 1) (by omega)] at this; cases this
      · rw [up k (by omega) hkN] at h1; cases h1
  · have hji : j ≠ i + 1 := fun e => by subst e; simp [upB] at h2
    simp only [upB, upV, if_neg (iS j), if_neg (iP j hj hji)] at h1 h2 ⊢
    obtain ⟨q1, q2, q3⟩ := h.src j hj h1 h2
    have q3i := q3 i (by omega) hp fun _ => hl
    refine ⟨srcV_grown q1 q2 hg (fun k hk' => q3i k hk'), fun k hk' => Nat.lt_of_lt_of_le (q2 k hk') hg.size, fun k hkN h3 h4 b hb' e => ?_⟩
    by_cases c : k = i + 1
    · subst c
      rw [if_pos rfl] at e
      rcases hat with hat | hat
      · exact q3i b hb' (hat.symm.trans e)
      · rw [hat] at e
        have := q2 b hb'
        cases e; omega
    · simp only [if_neg (iP k hkN c)] at h3
      by_cases c2 : k < i + 1
      · have := h4 (by omega)
        by_cases c3 : k = i
        · subst c3; simp at this
        · simp only [if_neg (iP (k + 1) (by omega) (by omega))] at this
          rw [dn (k + 1) (by omega)] at this; cases this
      · rw [up k (by omega) hkN] at h3; cases h3
end
/-- An append, asked as wp_region_C asks it; and where the row lies behind it. -/
theorem gives_appC {P : Program} {o : Oper} {E : Operand → Value} {w : World} {G : Value → World → Prop} (s x : Operand) (t : TypeId)
    (hop : o.op = Op.call { callee := Callee.builtin Builtin.append, args := #[s, x], argTypes := #[t, t] })
    (base : Nat) (e : TypeId) (i : TypeInfo) (z : Value) (sz by' : Nat) (ht : P.underlying t = some (.slice e)) (hi : P.info? e = some i) (hz : i.zero = some z) (hsize : i.size = sz) (hby : i.bytes = by') (hzs : z.cells.size = sz) (hs0 : 0 < sz)
    (n : Nat) (xs : List Value) (hown : w.ownsRow base e sz (E s) n xs)
    (m : Nat) (ys : List Value) (hsrc : SrcV w sz (E x) m ys)
    (h63 : n + m ≤ 1099511627776) (hb' : by' ≤ 100) (hbase : base ≤ w.heap.size)
    (h : ∀ v' w', w'.ownsRow base e sz v' (n + m) (xs ++ ys) → w.grownBy w' (E s).ownBlock → (v'.ownBlock = (E s).ownBlock ∨ v'.ownBlock = some w.heap.size) → G v' w') : gives P G ((execOp E o).run P w) := by
  obtain ⟨a, cap, hx, h0, hl, h1, hc⟩ := hsrc
  cases a with
  | none =>
    obtain ⟨rfl, rfl⟩ := h0 rfl
    have hy : ys = [] := List.eq_nil_of_length_eq_zero (by omega)
    subst hy
    have hrun := run_append_owned_none (P := P) (w := w) base t o.type e i sz ht hi (E s) n xs hown
    have hK := h (E s) w (by simpa using hown) ⟨rfl, rfl, rfl, Nat.le_refl _, fun _ _ _ => rfl⟩ (.inl rfl)
    unfold execOp
    simp [hop, resolve, invoke, builtin, hx, hrun, Result.andThen, gives]
    exact hK
  | some ad =>
    have hbb : (n + m) * by' ≤ (n + m) * 100 := Nat.mul_le_mul_left _ hb'
    obtain ⟨v', w', hr, h2, h3, h4, h5⟩ := run_append_own_at (P := P) w base t o.type e i z sz by' ht hi hz hsize hby hzs hs0 (E s) n xs hown ad m cap ys hl (hc ad rfl) h1 (by unfold maxLen; omega) (by omega) hbase
    unfold execOp
    simp only [hop, resolve, invoke, builtin, Sem.run_bind, Sem.run_pure, Result.andThen_ok, List.map_toArray, List.map_cons, List.map_nil, hx, hr]
    exact h v' w' h2 h3 h5
end Go.Proofs.Ytjhhcljbmnomlaa

namespace Go.Proofs.Ytjhhcljbmnomlaa
open Go.ChangeShapes Go.WideShapes Go.ChangeAt Go.RowKit
attribute [local irreducible] Go.Calls

theorem sameB_selfQ (F : List Sg) : sameB F F = true := by unfold sameB; exact decide_eq_true rfl
theorem own_emptyF {w : World} {p base sz : Nat} {e : TypeId} (hB : Blk w p #[] e) (hp : base ≤ p) : w.ownsRow base e sz (.slice (some ⟨p, 0, none⟩) 0 0) 0 [] :=
  ⟨by simp, .inr ⟨p, 0, #[], rfl, hp, hB, Nat.le_refl _, Nat.zero_le _, by simp, by simp⟩⟩
/-- The cells of a list of policies. -/
def cellsOfPo : List Pol → List Value
  | [] => []
  | s :: r => .int .u8 s.1 :: .int .i64 s.2.1.1 :: .int .i64 s.2.1.2 :: .int .i64 s.2.2 :: cellsOfPo r
theorem cellsOfPo_len : ∀ l, (cellsOfPo l).length = l.length * 4
  | [] => rfl
  | s :: r => by simp only [cellsOfPo, List.length_cons, cellsOfPo_len r]; omega
theorem cellsOfPo_app : ∀ l r, cellsOfPo (l ++ r) = cellsOfPo l ++ cellsOfPo r
  | [], _ => rfl
  | s :: l, r => by simp only [cellsOfPo, List.cons_append, cellsOfPo_app l r]
theorem cellsOfPo_one : ∀ (l : List Pol), ∀ u ∈ cellsOfPo l, u.oneCell' = true
  | [], u, h => by simp [cellsOfPo] at h
  | s :: r, u, h => by
    simp only [cellsOfPo, List.mem_cons] at h
    rcases h with rfl | rfl | rfl | rfl | h
    · rfl
    · rfl
    · rfl
    · rfl
    · exact cellsOfPo_one r u h
theorem cellsOfPo_get : ∀ (l : List Pol) (i : Nat), i < l.length → (cellsOfPo l)[i * 4]? = some (.int .u8 (l.getD i (0, (0, 0), 0)).1) ∧ (cellsOfPo l)[i * 4 + 1]? = some (.int .i64 (l.getD i (0, (0, 0), 0)).2.1.1) ∧
    (cellsOfPo l)[i * 4 + 2]? = some (.int .i64 (l.getD i (0, (0, 0), 0)).2.1.2) ∧ (cellsOfPo l)[i * 4 + 3]? = some (.int .i64 (l.getD i (0, (0, 0), 0)).2.2)
  | [], i, h => by simp at h
  | s :: l, 0, _ => ⟨rfl, rfl, rfl, rfl⟩
  | s :: l, i + 1, h => by
    obtain ⟨h1, h2, h3, h4⟩ := cellsOfPo_get l i (by simp at h; omega)
    have e : ∀ j, (cellsOfPo (s :: l))[(i + 1) * 4 + j]? = (cellsOfPo l)[i * 4 + j]? := fun j => by
      simp only [cellsOfPo]
      rw [show (i + 1) * 4 + j = i * 4 + j + 1 + 1 + 1 + 1 by omega]
      simp only [List.getElem?_cons_succ]
    exact ⟨(e 0).trans h1, (e 1).trans h2, (e 2).trans h3, (e 3).trans h4⟩
/-- What a call has appended to reads as a slice of policies. -/
theorem argPs_own {w : World} {base : Nat} {e : TypeId} {a : Option Addr} {n cap : Nat} {l : List Pol} (h : w.ownsRow base e 4 (.slice a n cap) l.length (cellsOfPo l)) : n = l.length ∧ ArgPs w a l := by
  obtain ⟨h1, h2 | ⟨g, cap', cur, e', h3, h4, h5, h6, h7, h8⟩⟩ := h
  · obtain ⟨e', h2⟩ := h2
    cases e'
    exact ⟨h2.symm, fun h => by omega⟩
  · cases e'
    refine ⟨rfl, fun _ => ⟨g, 0, rfl, lt_of_block h4, fun i hi => ?_⟩⟩
    have hg := cellsOfPo_get l i hi
    have hc : ∀ j x, j < l.length * 4 → (cellsOfPo l)[j]? = some x → w.cell? ⟨g, j, none⟩ = some x := fun j x hj hx => by
      have e : w.cell? ⟨g, j, none⟩ = cur[j]? := by simp [World.cell?, h4]
      rw [e, ← Array.getElem?_toList]
      rw [← h8, List.getElem?_take, if_pos hj] at hx
      exact hx
    simp only [Nat.zero_add]
    exact ⟨hc _ _ (by omega) hg.1, hc _ _ (by omega) hg.2.1, hc _ _ (by omega) hg.2.2.1, hc _ _ (by omega) hg.2.2.2⟩
/-- A slice of policies can be copied. -/
theorem srcV_Po {w : World} {a : Option Addr} {cap : Nat} {l : List Pol} (h : ArgPs w a l) (h0 : a = none → l.length = 0 ∧ cap = 0) : SrcV w 4 (.slice a l.length cap) l.length (cellsOfPo l) := by
  refine ⟨a, cap, rfl, h0, cellsOfPo_len l, cellsOfPo_one l, fun ad e j u hu => ?_⟩
  have hj : j < l.length * 4 := by
    have := (List.getElem?_eq_some_iff.1 hu).1
    rw [cellsOfPo_len] at this; exact this
  obtain ⟨b, off, e2, hb, hc⟩ := h (by omega)
  rw [e] at e2; cases e2
  have hd : j / 4 < l.length := by omega
  obtain ⟨c0, c1, c2, c3⟩ := hc (j / 4) hd
  obtain ⟨g0, g1, g2, g3⟩ := cellsOfPo_get l (j / 4) hd
  have ad' : ∀ y : Nat, (⟨b, off, none⟩ : Addr).add y = ⟨b, off + y, none⟩ := fun y => by
    unfold Addr.add
    by_cases c : y = 0
    · subst c; simp
    · simp [c]
  rw [ad']
  have hm : j % 4 = 0 ∨ j % 4 = 1 ∨ j % 4 = 2 ∨ j % 4 = 3 := by omega
  rcases hm with hm | hm | hm | hm
  · have ej : j = j / 4 * 4 := by omega
    rw [ej] at hu ⊢
    rw [g0] at hu; cases hu; exact c0
  · have ej : j = j / 4 * 4 + 1 := by omega
    rw [ej] at hu ⊢
    rw [g1] at hu; cases hu; exact c1
  · have ej : j = j / 4 * 4 + 2 := by omega
    rw [ej] at hu ⊢
    rw [g2] at hu; cases hu; exact c2
  · have ej : j = j / 4 * 4 + 3 := by omega
    rw [ej] at hu ⊢
    rw [g3] at hu; cases hu; exact c3
def greatF (n1 n2 n3 n4 : Nat) : Bool := decide (40 < n1) || (decide (40 < n2) || (decide (40 < n3) || decide (10 < n4)))
theorem greatF_no {n1 n2 n3 n4 : Nat} (h : greatF n1 n2 n3 n4 = false) : n1 ≤ 40 ∧ n2 ≤ 40 ∧ n3 ≤ 40 ∧ n4 ≤ 10 := by
  unfold greatF at h
  simp at h
  omega
set_option maxRecDepth 100000 in
theorem fgreat_c (a1 a2 a3 a4 : Option Addr) (n1 c1 n2 c2 n3 c3 n4 c4 : Nat) (x : Int) (w : World) :
    Calls Try.prog 6 #[.agg #[.slice a1 n1 c1, .slice a2 n2 c2, .slice a3 n3 c3, .slice a4 n4 c4, .int .i64 x]] w fun e w' => e = .returned (.bool (greatF n1 n2 n3 n4)) ∧ Below w.heap.size w w' := by
  have cast : ∀ (k n : Nat), decide ((k : Int) < (n : Int)) = decide (k < n) := fun k n => by rw [decide_eq_decide]; omega
  by_cases h1 : 40 < n1
  · have E := hidE (show greatF n1 n2 n3 n4 = true by unfold greatF; simp [h1])
    have d1 : decide ((40 : Int) < (n1 : Int)) = true := decide_eq_true (by omega)
    have d1' : decide (40 < n1) = true := decide_eq_true h1
    rw [E.out]
    clear h1
    go_enter Try.func6, Try.ntmps6
    go_wp2
    go_ret
    exact ⟨rfl, by (repeat (first | exact Below.refl _ _ | assumption | refine balloc ?_ _ | refine below_drewN ?_ _ | refine bstep (by assumption) ?_ | refine bstep (Past.prop _) ?_ | refine Below.setCell ?_ (by first | exact Nat.le_refl _ | (simp; done) | (simp; omega)) _))⟩
  · have d1 : decide ((40 : Int) < (n1 : Int)) = false := decide_eq_false (by omega)
    have d1' : decide (40 < n1) = false := decide_eq_false h1
    by_cases h2 : 40 < n2
    · have E := hidE (show greatF n1 n2 n3 n4 = true by unfold greatF; simp [h2])
      have d2 : decide ((40 : Int) < (n2 : Int)) = true := decide_eq_true (by omega)
      have d2' : decide (40 < n2) = true := decide_eq_true h2
      rw [E.out]
      clear h1 h2
      go_enter Try.func6, Try.ntmps6
      go_wp2
      go_ret
      exact ⟨rfl, by (repeat (first | exact Below.refl _ _ | assumption | refine balloc ?_ _ | refine below_drewN ?_ _ | refine bstep (by assumption) ?_ | refine bstep (Past.prop _) ?_ | refine Below.setCell ?_ (by first | exact Nat.le_refl _ | (simp; done) | (simp; omega)) _))⟩
    · have d2 : decide ((40 : Int) < (n2 : Int)) = false := decide_eq_false (by omega)
      have d2' : decide (40 < n2) = false := decide_eq_false h2
      by_cases h3 : 40 < n3
      · have E := hidE (show greatF n1 n2 n3 n4 = true by unfold greatF; simp [h3])
        have d3 : decide ((40 : Int) < (n3 : Int)) = true := decide_eq_true (by omega)
        have d3' : decide (40 < n3) = true := decide_eq_true h3
        rw [E.out]
        clear h1 h2 h3
        go_enter Try.func6, Try.ntmps6
        go_wp2
        go_ret
        exact ⟨rfl, by (repeat (first | exact Below.refl _ _ | assumption | refine balloc ?_ _ | refine below_drewN ?_ _ | refine bstep (by assumption) ?_ | refine bstep (Past.prop _) ?_ | refine Below.setCell ?_ (by first | exact Nat.le_refl _ | (simp; done) | (simp; omega)) _))⟩
      · have d3 : decide ((40 : Int) < (n3 : Int)) = false := decide_eq_false (by omega)
        have d3' : decide (40 < n3) = false := decide_eq_false h3
        have E := hidE (show greatF n1 n2 n3 n4 = decide (10 < n4) by unfold greatF; rw [d1', d2', d3']; rfl)
        have d4 := cast 10 n4
        simp only [Int.cast_ofNat_Int] at d4
        rw [E.out]
        clear h1 h2 h3 cast
        go_enter Try.func6, Try.ntmps6
        go_wp2
        go_ret
        exact ⟨by first | rfl | (rw [← d4]; rfl) | simp, by (repeat (first | exact Below.refl _ _ | assumption | refine balloc ?_ _ | refine below_drewN ?_ _ | refine bstep (by assumption) ?_ | refine bstep (Past.prop _) ?_ | refine Below.setCell ?_ (by first | exact Nat.le_refl _ | (simp; done) | (simp; omega)) _))⟩
/-- At most everywhere. -/
theorem fbelow_c {F G : List Sg} {a1 a2 : Option Addr} {n1 c1 n2 c2 : Nat} {w : World} (h1 : SliS w (.slice a1 n1 c1) F) (h2 : SliS w (.slice a2 n2 c2) G) (hl : n1 + n2 ≤ 999999990) (m1 : mayB F = true) (m2 : mayB G = true) (hle : ∀ t, leB (vat F t).1 (vat F t).2 (vat G t).1 (vat G t).2 = true) :
    Calls Try.prog 15 #[.slice a1 n1 c1, .slice a2 n2 c2] w fun e w' => e = .returned (.bool true) ∧ Below w.heap.size w w' := by
  have he : leS F G (-1125899906842624) = (0, true, 0) := by
    rcases leS_may (F := F) (G := G) (-1125899906842624) m1 m2 with ⟨e, _⟩ | ⟨t, _, _, hb, _⟩
    · exact e
    · rw [hle t] at hb; cases hb
  have HL := hidE (fun w (h1 : SliS w (.slice a1 n1 c1) F) (h2 : SliS w (.slice a2 n2 c2) G) => rle_f h1 h2 hl he)
  have H1 := hidE h1; have H2 := hidE h2
  clear h1 h2 hl he hle
  go_enter Try.func15, Try.ntmps15
  go_wp2_with fail
  ((with_reducible refine (HL.out _ H1.out H2.out).mono ?_); rintro e w1 ⟨rfl, hb⟩)
  go_wp2
  go_ret
  exact ⟨rfl, by (repeat (first | exact Below.refl _ _ | assumption | refine balloc ?_ _ | refine below_drewN ?_ _ | refine bstep (by assumption) ?_ | refine bstep (Past.prop _) ?_ | refine Below.setCell ?_ (by first | exact Nat.le_refl _ | (simp; done) | (simp; omega)) _))⟩
end Go.Proofs.Ytjhhcljbmnomlaa
