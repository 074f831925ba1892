/- RleOne answers true for every two lists of runs. No conditions. -/
import Derived.Test.YtibmldgbimjgfaaRleHead
namespace Go.Proofs.Ytibmldgbimjgfaa
open Go.ChangeShapes Go.WideShapes Go.ChangeAt Go.RowKit
attribute [local irreducible] Go.Calls

/-- g has at each of the runs' times that run's vector. -/
def alk (g r : List Sg) : Bool := r.all fun s => decide (vat g s.1 = s.2)
theorem alk_step {g r : List Sg} {k : Nat} (h : k < r.length) : alk g (r.take (k + 1)) = (alk g (r.take k) && decide (vat g (ats r k) = vls r k)) := by
  unfold alk ats vls
  rw [List.take_succ_eq_append_getElem h, List.all_append, getD_get _ _ _ h]
  simp
theorem alk_same {f g : List Sg} (hf : Canon f) (hg : Canon g) : (alk g f && alk f g) = sameB f g := by
  rw [Bool.eq_iff_iff]
  unfold alk sameB
  simp only [Bool.and_eq_true, List.all_eq_true, decide_eq_true_eq]
  constructor
  · rintro ⟨h1, h2⟩
    exact cf_unique f g (0, 0) hf hg h1 h2
  · intro h
    subst h
    exact ⟨fun s hs => cf_own f (0, 0) hf s hs, fun s hs => cf_own f (0, 0) hf s hs⟩
theorem sameB_comm (f g : List Sg) : sameB g f = sameB f g := by unfold sameB; rw [decide_eq_decide]; exact eq_comm
theorem sameB_self (f : List Sg) : sameB f f = true := decide_eq_true rfl

theorem one_many (l r : List Sg) (a a' : Option Addr) (cap cap' : Nat) (w : World) (hl : l.length ≤ 9223372036854775807) (hr : r.length ≤ 9223372036854775807) (h : 60 < l.length ∨ 60 < r.length) :
    Calls Try.prog 4 #[.slice a l.length cap, .slice a' r.length cap'] w fun e w' => e = .returned (.bool true) ∧ Below w.heap.size w w' := by
  by_cases h1 : 60 < l.length
  · have d1 : decide ((60 : Int) < (l.length : Int)) = true := decide_eq_true (by omega)
    clear h
    go_enter Try.func4, Try.ntmps4
    go_wp2_with (go_at_call 6; ((with_reducible refine (rhead_c _).mono ?_); rintro e w1 ⟨rfl, hb⟩))
    go_ret
    exact ⟨rfl, hb⟩
  · have h2 : 60 < r.length := h.resolve_left h1
    have d1 : decide ((60 : Int) < (l.length : Int)) = false := decide_eq_false (by omega)
    have d2 : decide ((60 : Int) < (r.length : Int)) = true := decide_eq_true (by omega)
    clear h
    go_enter Try.func4, Try.ntmps4
    go_wp2_with (go_at_call 6; ((with_reducible refine (rhead_c _).mono ?_); rintro e w1 ⟨rfl, hb⟩))
    go_ret
    exact ⟨rfl, hb⟩

set_option maxRecDepth 100000 in
set_option maxHeartbeats 8000000 in
theorem one_few (l r : List Sg) (a a' : Option Addr) (cap cap' : Nat) (w : World) (h : l.length ≤ 60) (h' : r.length ≤ 60) (hA : ArgS w a l) (hA' : ArgS w a' r) :
    Calls Try.prog 4 #[.slice a l.length cap, .slice a' r.length cap'] w fun e w' => e = .returned (.bool true) ∧ Below w.heap.size w w' := by
  have HA := hidE hA; have HA' := hidE hA'; clear hA hA'
  have d1 : decide ((60 : Int) < (l.length : Int)) = false := decide_eq_false (by omega)
  have d2 : decide ((60 : Int) < (r.length : Int)) = false := decide_eq_false (by omega)
  go_enter Try.func4, Try.ntmps4
  go_wp2_with fail
  ((with_reducible refine (of_c l a cap _ (by omega) HA.out).mono ?_); rintro e w1 ⟨v, f, er, rfl, hv, hf, hb⟩)
  have HV := hidE hv; have HB := hidE hb; clear hv hb
  go_wp2_with fail
  ((with_reducible refine (of_c r a' cap' _ (by omega) (HA'.out.past HB.out)).mono ?_); rintro e w2 ⟨v', g, er', rfl, hv', hg, hb'⟩)
  have HB2 := hidE (show Below w.heap.size w w2 from bstep hb' HB.out)
  have hv2 := HV.out.past hb'
  clear HB HV hb' HA HA'
  rcases hf with ⟨_, rfl, hf⟩ | ⟨_, rfl, rfl⟩
  rotate_left
  · clear hv' hv2 hg
    go_wp2_with (go_at_call 6; ((with_reducible refine (rhead_c _).mono ?_); rintro e w3 ⟨rfl, hb1⟩))
    go_ret
    exact ⟨rfl, bstep hb1 HB2.out⟩
  rcases hg with ⟨_, rfl, hg⟩ | ⟨_, rfl, rfl⟩
  rotate_left
  · clear hv' hv2 hf
    go_wp2_with (go_at_call 6; ((with_reducible refine (rhead_c _).mono ?_); rintro e w3 ⟨rfl, hb1⟩))
    go_ret
    exact ⟨rfl, bstep hb1 HB2.out⟩
  obtain ⟨af, cf, rfl, _, _, hAf⟩ := hv2
  obtain ⟨ag, cg, rfl, _, _, hAg⟩ := hv'
  have HS := hidE (alk_same hf.1 hg.1)
  have hfl : f.length ≤ l.length := hf.2.2
  have hgl : g.length ≤ r.length := hg.2.2
  have HAF := hidE hAf; have HAG := hidE hAg
  clear hf hg hAf hAg
  go_wp2_with fail
  go_loopg [9, 10] f.length (fun gg va vi wr => ∃ k : Nat, vi = .int .i64 k ∧ k ≤ f.length ∧ f.length - k ≤ gg ∧ va = .bool (alk g (f.take k)) ∧ Below w2.heap.size w2 wr)
  case atStart => exact ⟨0, rfl, by omega, by omega, rfl, Below.refl _ _⟩
  case round =>
    obtain ⟨k, rfl, hk, hgg, rfl, hbr⟩ := hrel
    have HBR := hidE hbr; clear hbr
    by_cases hlt : k < f.length
    · have HST := hidE (alk_step (g := g) hlt)
      obtain ⟨b, off, rfl, hb, hc⟩ := (HAF.out.past HBR.out) (by omega)
      obtain ⟨c0, c1, c2⟩ := hc.get hlt
      clear hc
      cases hq : alk g (f.take k)
      · have HST2 := hidE (show alk g (f.take (k + 1)) = false by rw [HST.out, hq]; rfl)
        clear HST hq c0 c1 c2
        go_wp2_with fail
        refine wp_region_past_lit (by kernel_rfl) (by kernel_rfl) ?_
        repeat (go_big_quiet_step (fail))
        refine wpQuiet_nil ?_
        rintro _ ⟨x', rfl⟩
        have o1 : Below w2.heap.size w2 x'.1 := by have := HBR.out; (repeat (first | exact Below.refl _ _ | assumption | refine balloc ?_ _ | refine below_drewN ?_ _ | refine bstep (by assumption) ?_ | refine bstep (Past.prop _) ?_ | refine Below.setCell ?_ (by first | exact Nat.le_refl _ | (simp; done) | (simp; omega)) _))
        generalize x'.1 = w5 at *
        go_wp2
        go_roundg (f.length - (k + 1))
        case measure => omega
        case rel => exact ⟨k + 1, by go_num, by omega, Nat.le_refl _, by rw [HST2.out], o1⟩
      · have HAT := hidE (fun w h => at_eqv (n := g.length) (l := g) (a := ag) (cap := cg) (t := ats f k) (w := w) (g := vat g (ats f k)) h rfl (by omega) rfl)
        have HE := hidE (show alk g (f.take (k + 1)) = decide (vat g (ats f k) = vls f k) by rw [HST.out, hq]; rfl)
        clear HST hq
        generalize vat g (ats f k) = y at *
        generalize ats f k = x at *
        generalize vls f k = v at *
        obtain ⟨y1, y2⟩ := y
        obtain ⟨v1, v2⟩ := v
        dsimp only at c1 c2
        by_cases e1 : y1 = v1
        · subst e1
          by_cases e2 : y2 = v2
          · subst e2
            have HF := hidE (show alk g (f.take (k + 1)) = true by rw [HE.out]; exact decide_eq_true rfl)
            clear HE
            go_wp2_with fail
            refine wp_region_past_lit (by kernel_rfl) (by kernel_rfl) ?_
            have hcp := Past.cell (W := wr)
            repeat (go_big_quiet_step ((go_at_call 8; exact Past.call _ (HAT.out _ ((HAG.out.past HBR.out).past (Past.prop _))))))
            refine wpQuiet_nil ?_
            rintro _ ⟨x', rfl⟩
            have o1 : Below w2.heap.size w2 x'.1 := by have := HBR.out; (repeat (first | exact Below.refl _ _ | assumption | refine balloc ?_ _ | refine below_drewN ?_ _ | refine bstep (by assumption) ?_ | refine bstep (Past.prop _) ?_ | refine Below.setCell ?_ (by first | exact Nat.le_refl _ | (simp; done) | (simp; omega)) _))
            clear hcp c0 c1 c2
            generalize x'.1 = w5 at *
            go_wp2
            go_roundg (f.length - (k + 1))
            case measure => omega
            case rel => exact ⟨k + 1, by go_num, by omega, Nat.le_refl _, by rw [HF.out], o1⟩
          · have d3 : (y2 == v2) = false := beq_eq_false_iff_ne.2 e2
            have HF := hidE (show alk g (f.take (k + 1)) = false by rw [HE.out]; exact decide_eq_false (fun h => e2 (by simpa using h)))
            clear HE
            go_wp2_with fail
            refine wp_region_past_lit (by kernel_rfl) (by kernel_rfl) ?_
            have hcp := Past.cell (W := wr)
            repeat (go_big_quiet_step ((go_at_call 8; exact Past.call _ (HAT.out _ ((HAG.out.past HBR.out).past (Past.prop _))))))
            refine wpQuiet_nil ?_
            rintro _ ⟨x', rfl⟩
            have o1 : Below w2.heap.size w2 x'.1 := by have := HBR.out; (repeat (first | exact Below.refl _ _ | assumption | refine balloc ?_ _ | refine below_drewN ?_ _ | refine bstep (by assumption) ?_ | refine bstep (Past.prop _) ?_ | refine Below.setCell ?_ (by first | exact Nat.le_refl _ | (simp; done) | (simp; omega)) _))
            clear hcp c0 c1 c2
            generalize x'.1 = w5 at *
            go_wp2
            go_roundg (f.length - (k + 1))
            case measure => omega
            case rel => exact ⟨k + 1, by go_num, by omega, Nat.le_refl _, by rw [HF.out], o1⟩
        · have d3 : (y1 == v1) = false := beq_eq_false_iff_ne.2 e1
          have HF := hidE (show alk g (f.take (k + 1)) = false by rw [HE.out]; exact decide_eq_false (fun h => e1 (by simp at h; exact h.1)))
          clear HE
          go_wp2_with fail
          refine wp_region_past_lit (by kernel_rfl) (by kernel_rfl) ?_
          have hcp := Past.cell (W := wr)
          repeat (go_big_quiet_step ((go_at_call 8; exact Past.call _ (HAT.out _ ((HAG.out.past HBR.out).past (Past.prop _))))))
          refine wpQuiet_nil ?_
          rintro _ ⟨x', rfl⟩
          have o1 : Below w2.heap.size w2 x'.1 := by have := HBR.out; (repeat (first | exact Below.refl _ _ | assumption | refine balloc ?_ _ | refine below_drewN ?_ _ | refine bstep (by assumption) ?_ | refine bstep (Past.prop _) ?_ | refine Below.setCell ?_ (by first | exact Nat.le_refl _ | (simp; done) | (simp; omega)) _))
          clear hcp c0 c1 c2
          generalize x'.1 = w5 at *
          go_wp2
          go_roundg (f.length - (k + 1))
          case measure => omega
          case rel => exact ⟨k + 1, by go_num, by omega, Nat.le_refl _, by rw [HF.out], o1⟩
    · have hk' : k = f.length := by omega
      subst hk'
      rw [List.take_length]
      go_wp2_with fail
      go_loopg [9, 11] g.length (fun gg va vi wr => ∃ k : Nat, vi = .int .i64 k ∧ k ≤ g.length ∧ g.length - k ≤ gg ∧ va = .bool (alk g f && alk f (g.take k)) ∧ Below w2.heap.size w2 wr)
      case atStart => exact ⟨0, rfl, by omega, by omega, by simp [alk], HBR.out⟩
      case round =>
        clear HBR
        obtain ⟨k, rfl, hk, hgg, rfl, hbr⟩ := hrel
        have HBR := hidE hbr; clear hbr
        by_cases hlt : k < g.length
        · have HST := hidE (show (alk g f && alk f (g.take (k + 1))) = ((alk g f && alk f (g.take k)) && decide (vat f (ats g k) = vls g k)) by rw [alk_step (g := f) hlt, Bool.and_assoc])
          obtain ⟨b, off, rfl, hb, hc⟩ := (HAG.out.past HBR.out) (by omega)
          obtain ⟨c0, c1, c2⟩ := hc.get hlt
          clear hc
          cases hq : (alk g f && alk f (g.take k))
          · have HST2 := hidE (show (alk g f && alk f (g.take (k + 1))) = false by rw [HST.out, hq]; rfl)
            clear HST hq c0 c1 c2
            go_wp2_with fail
            refine wp_region_past_lit (by kernel_rfl) (by kernel_rfl) ?_
            repeat (go_big_quiet_step (fail))
            refine wpQuiet_nil ?_
            rintro _ ⟨x', rfl⟩
            have o1 : Below w2.heap.size w2 x'.1 := by have := HBR.out; (repeat (first | exact Below.refl _ _ | assumption | refine balloc ?_ _ | refine below_drewN ?_ _ | refine bstep (by assumption) ?_ | refine bstep (Past.prop _) ?_ | refine Below.setCell ?_ (by first | exact Nat.le_refl _ | (simp; done) | (simp; omega)) _))
            generalize x'.1 = w5 at *
            go_wp2
            go_roundg (g.length - (k + 1))
            case measure => omega
            case rel => exact ⟨k + 1, by go_num, by omega, Nat.le_refl _, by rw [HST2.out], o1⟩
          · have HAT := hidE (fun w h => at_eqv (n := f.length) (l := f) (a := af) (cap := cf) (t := ats g k) (w := w) (g := vat f (ats g k)) h rfl (by omega) rfl)
            have HE := hidE (show (alk g f && alk f (g.take (k + 1))) = decide (vat f (ats g k) = vls g k) by rw [HST.out, hq]; rfl)
            clear HST hq
            generalize vat f (ats g k) = y at *
            generalize ats g k = x at *
            generalize vls g k = v at *
            obtain ⟨y1, y2⟩ := y
            obtain ⟨v1, v2⟩ := v
            dsimp only at c1 c2
            by_cases e1 : y1 = v1
            · subst e1
              by_cases e2 : y2 = v2
              · subst e2
                have HF := hidE (show (alk g f && alk f (g.take (k + 1))) = true by rw [HE.out]; exact decide_eq_true rfl)
                clear HE
                go_wp2_with fail
                refine wp_region_past_lit (by kernel_rfl) (by kernel_rfl) ?_
                have hcp := Past.cell (W := wr)
                repeat (go_big_quiet_step ((go_at_call 8; exact Past.call _ (HAT.out _ ((HAF.out.past HBR.out).past (Past.prop _))))))
                refine wpQuiet_nil ?_
                rintro _ ⟨x', rfl⟩
                have o1 : Below w2.heap.size w2 x'.1 := by have := HBR.out; (repeat (first | exact Below.refl _ _ | assumption | refine balloc ?_ _ | refine below_drewN ?_ _ | refine bstep (by assumption) ?_ | refine bstep (Past.prop _) ?_ | refine Below.setCell ?_ (by first | exact Nat.le_refl _ | (simp; done) | (simp; omega)) _))
                clear hcp c0 c1 c2
                generalize x'.1 = w5 at *
                go_wp2
                go_roundg (g.length - (k + 1))
                case measure => omega
                case rel => exact ⟨k + 1, by go_num, by omega, Nat.le_refl _, by rw [HF.out], o1⟩
              · have d3 : (y2 == v2) = false := beq_eq_false_iff_ne.2 e2
                have HF := hidE (show (alk g f && alk f (g.take (k + 1))) = false by rw [HE.out]; exact decide_eq_false (fun h => e2 (by simpa using h)))
                clear HE
                go_wp2_with fail
                refine wp_region_past_lit (by kernel_rfl) (by kernel_rfl) ?_
                have hcp := Past.cell (W := wr)
                repeat (go_big_quiet_step ((go_at_call 8; exact Past.call _ (HAT.out _ ((HAF.out.past HBR.out).past (Past.prop _))))))
                refine wpQuiet_nil ?_
                rintro _ ⟨x', rfl⟩
                have o1 : Below w2.heap.size w2 x'.1 := by have := HBR.out; (repeat (first | exact Below.refl _ _ | assumption | refine balloc ?_ _ | refine below_drewN ?_ _ | refine bstep (by assumption) ?_ | refine bstep (Past.prop _) ?_ | refine Below.setCell ?_ (by first | exact Nat.le_refl _ | (simp; done) | (simp; omega)) _))
                clear hcp c0 c1 c2
                generalize x'.1 = w5 at *
                go_wp2
                go_roundg (g.length - (k + 1))
                case measure => omega
                case rel => exact ⟨k + 1, by go_num, by omega, Nat.le_refl _, by rw [HF.out], o1⟩
            · have d3 : (y1 == v1) = false := beq_eq_false_iff_ne.2 e1
              have HF := hidE (show (alk g f && alk f (g.take (k + 1))) = false by rw [HE.out]; exact decide_eq_false (fun h => e1 (by simp at h; exact h.1)))
              clear HE
              go_wp2_with fail
              refine wp_region_past_lit (by kernel_rfl) (by kernel_rfl) ?_
              have hcp := Past.cell (W := wr)
              repeat (go_big_quiet_step ((go_at_call 8; exact Past.call _ (HAT.out _ ((HAF.out.past HBR.out).past (Past.prop _))))))
              refine wpQuiet_nil ?_
              rintro _ ⟨x', rfl⟩
              have o1 : Below w2.heap.size w2 x'.1 := by have := HBR.out; (repeat (first | exact Below.refl _ _ | assumption | refine balloc ?_ _ | refine below_drewN ?_ _ | refine bstep (by assumption) ?_ | refine bstep (Past.prop _) ?_ | refine Below.setCell ?_ (by first | exact Nat.le_refl _ | (simp; done) | (simp; omega)) _))
              clear hcp c0 c1 c2
              generalize x'.1 = w5 at *
              go_wp2
              go_roundg (g.length - (k + 1))
              case measure => omega
              case rel => exact ⟨k + 1, by go_num, by omega, Nat.le_refl _, by rw [HF.out], o1⟩
        · have hk' : k = g.length := by omega
          subst hk'
          have hq : (alk g f && alk f (g.take g.length)) = sameB f g := by rw [List.take_length]; exact HS.out
          rw [hq]
          have HC := hidE (fun w h1 h2 b hb => same_eqv (n := f.length) (m := g.length) (l := f) (r := g) (a := af) (a' := ag) (cap := cf) (cap' := cg) (w := w) (b := b) h1 h2 rfl rfl (by omega) (by omega) hb)
          have HC2 := hidE (fun w h1 h2 b hb => same_eqv (n := g.length) (m := f.length) (l := g) (r := f) (a := ag) (a' := af) (cap := cg) (cap' := cf) (w := w) (b := b) h1 h2 rfl rfl (by omega) (by omega) hb)
          have HC3 := hidE (fun w h1 => same_eqv (n := f.length) (m := f.length) (l := f) (r := f) (a := af) (a' := af) (cap := cf) (cap' := cf) (w := w) (b := true) h1 h1 rfl rfl (by omega) (by omega) (sameB_self f))
          have hs2 : sameB g f = sameB f g := sameB_comm f g
          clear HS hq
          cases hr : sameB f g
          all_goals
            rw [hr] at hs2
            have HR := hidE hr; have HR2 := hidE hs2
            clear hr hs2
            have HX : ArgS wr af f := HAF.out.past HBR.out
            have HY : ArgS wr ag g := HAG.out.past HBR.out
            go_wp2_with fail
            ((with_reducible refine (HC.out _ HX HY _ HR.out).mono ?_); rintro e w5 ⟨rfl, hb5⟩)
            have HX := HX.past hb5; have HY := HY.past hb5
            go_wp2_with fail
            ((with_reducible refine (HC.out _ HX HY _ HR.out).mono ?_); rintro e w6 ⟨rfl, hb6⟩)
            have HX := HX.past hb6; have HY := HY.past hb6
            go_wp2_with fail
            ((with_reducible refine (HC2.out _ HY HX _ HR2.out).mono ?_); rintro e w7 ⟨rfl, hb7⟩)
            have HX := HX.past hb7; have HY := HY.past hb7
            go_wp2_with fail
            ((with_reducible refine (HC3.out _ HX).mono ?_); rintro e w8 ⟨rfl, hb8⟩)
            go_wp2_with (go_at_call 6; ((with_reducible refine (rhead_c _).mono ?_); rintro e w9 ⟨rfl, hb9⟩))
            go_ret
            exact ⟨rfl, bstep hb9 (bstep hb8 (bstep hb7 (bstep hb6 (bstep hb5 (HB2.out.trans (HBR.out.mono HB2.out.size))))))⟩
end Go.Proofs.Ytibmldgbimjgfaa
