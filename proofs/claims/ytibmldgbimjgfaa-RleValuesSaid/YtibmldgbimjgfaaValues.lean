/- RleValues answers true for every list of runs. No conditions. -/
import Derived.Test.YtibmldgbimjgfaaRleHead
namespace Go.Proofs.Ytibmldgbimjgfaa
open Go.ChangeShapes Go.WideShapes Go.ChangeAt Go.RowKit
attribute [local irreducible] Go.Calls

theorem rread_step {l : List Sg} {j : Nat} {t : Int} (h : j < l.length) : rread (l.take (j + 1)) t = rstep t (rread (l.take j) t) (l.getD j (0, 0, 0)) := by
  rw [List.take_succ_eq_append_getElem h, getD_get _ _ _ h]
  unfold rread
  rw [List.foldl_append]; rfl
theorem rread_full {l : List Sg} {t : Int} : rread (l.take l.length) t = rread l t := by rw [List.take_length]
theorem rstep_yes {t : Int} {st : (Int × Int) × Int × Bool} {s : Sg} (h1 : s.1 ≤ t) (h2 : st.2.2 = false ∨ st.2.1 ≤ s.1) : rstep t st s = (s.2, s.1, true) := by unfold rstep; rw [if_pos ⟨h1, h2⟩]
theorem rstep_no {t : Int} {st : (Int × Int) × Int × Bool} {s : Sg} (h : ¬ (s.1 ≤ t ∧ (st.2.2 = false ∨ st.2.1 ≤ s.1))) : rstep t st s = st := by unfold rstep; rw [if_neg h]
theorem all_okT {l : List Sg} (h : l.all okS = true) {k : Nat} (hk : k < l.length) : -1125899906842624 ≤ ats l k ∧ ats l k ≤ 1125899906842624 := by
  have h1 := List.all_eq_true.1 h _ (List.getElem_mem hk)
  unfold okS at h1
  rw [Bool.and_eq_true] at h1
  have := okT_iff.1 h1.1
  unfold ats
  rw [getD_get _ _ _ hk]; exact this

theorem values_many (l : List Sg) (a : Option Addr) (cap : Nat) (w : World) (hl : l.length ≤ 9223372036854775807) (h : 60 < l.length) :
    Calls Try.prog 3 #[.slice a l.length cap] w fun e w' => e = .returned (.bool true) ∧ Below w.heap.size w w' := by
  go_enter Try.func3, Try.ntmps3
  go_wp2_with (go_at_call 6; ((with_reducible refine (rhead_c _).mono ?_); rintro e w1 ⟨rfl, hb⟩))
  go_ret
  exact ⟨rfl, hb⟩

/-- The three times that are asked for each run. -/
def tms (u : Int) (k : Nat) : Int := if k = 0 then u else if k = 1 then u - 1 else 1125899906842629
theorem tms_cell {w : World} {tb : Nat} {u : Int} {t : TypeId} (h : Blk w tb #[.int .i64 u, .int .i64 (u - 1), .int .i64 1125899906842629] t) {k : Nat} (hk : k < 3) : w.cell? ⟨tb, k, none⟩ = some (.int .i64 (tms u k)) := by
  have e : k = 0 ∨ k = 1 ∨ k = 2 := by omega
  rcases e with rfl | rfl | rfl
  · exact h.cell 0
  · exact h.cell 1
  · exact h.cell 2

set_option maxRecDepth 100000 in
set_option maxHeartbeats 8000000 in
theorem values_few (l : List Sg) (a : Option Addr) (cap : Nat) (w : World) (h : l.length ≤ 60) (hA : ArgS w a l) :
    Calls Try.prog 3 #[.slice a l.length cap] w fun e w' => e = .returned (.bool true) ∧ Below w.heap.size w w' := by
  have HA := hidE hA; clear hA
  go_enter Try.func3, Try.ntmps3
  go_wp2_with fail
  ((with_reducible refine (of_c l a cap _ (by omega) HA.out).mono ?_); rintro e w2 ⟨v, f, er, rfl, hv, hf, hb⟩)
  rcases hf with ⟨hok, rfl, hf⟩ | ⟨_, rfl, rfl⟩
  rotate_left
  · clear hv
    go_wp2_with (go_at_call 6; ((with_reducible refine (rhead_c _).mono ?_); rintro e w1 ⟨rfl, hb1⟩))
    go_ret
    exact ⟨rfl, by (repeat (first | exact Below.refl _ _ | assumption | refine balloc ?_ _ | refine below_drewN ?_ _ | refine bstep (by assumption) ?_ | refine bstep (Past.prop _) ?_ | refine Below.setCell ?_ (by first | exact Nat.le_refl _ | (simp; done) | (simp; omega)) _))⟩
  obtain ⟨af, capf, rfl, hlc, hcc, hAf⟩ := hv
  have HF := hidE hf; have HO := hidE hok; have HAF := hidE hAf; have HA2 := hidE (HA.out.past hb); have HB := hidE hb
  have hfl : f.length ≤ l.length := hf.2.2
  clear hf hok hAf hb HA
  go_wp2_with fail
  go_loopg [5] l.length (fun g vi wr => ∃ i : Nat, vi = .int .i64 i ∧ i ≤ l.length ∧ l.length - i ≤ g ∧ Below w2.heap.size w2 wr)
  case atStart => exact ⟨0, rfl, by omega, by omega, Below.refl _ _⟩
  case round =>
    obtain ⟨i, rfl, hi, hg, hbr⟩ := hrel
    by_cases hlt : i < l.length
    · obtain ⟨b, off, rfl, hb, hc⟩ := (HA2.out.past hbr) (by omega)
      obtain ⟨c0, c1, c2⟩ := hc.get hlt
      have ht := all_okT HO.out hlt
      have HBR := hidE hbr
      clear hc c1 c2 hbr
      generalize ats l i = u at *
      go_wp2_with fail
      go_region
      have hb1 : Below w2.heap.size w2 (wr.alloc (Obj.cells #[.int .i64 u, .int .i64 (u - 1), .int .i64 1125899906842629] 2)).drew := by have := HBR.out; (repeat (first | exact Below.refl _ _ | assumption | refine balloc ?_ _ | refine below_drewN ?_ _ | refine bstep (by assumption) ?_ | refine bstep (Past.prop _) ?_ | refine Below.setCell ?_ (by first | exact Nat.le_refl _ | (simp; done) | (simp; omega)) _))
      have B1 : Blk (wr.alloc (Obj.cells #[.int .i64 u, .int .i64 (u - 1), .int .i64 1125899906842629] 2)).drew wr.heap.size #[.int .i64 u, .int .i64 (u - 1), .int .i64 1125899906842629] 2 := (Blk.made _ _ _).drew 1
      have htb : w2.heap.size ≤ wr.heap.size := HBR.out.size
      generalize htbe : wr.heap.size = tb at B1 htb ⊢
      generalize (wr.alloc (Obj.cells #[.int .i64 u, .int .i64 (u - 1), .int .i64 1125899906842629] 2)).drew = w3 at B1 hb1 ⊢
      have HB1 := hidE hb1; have HT := hidE B1
      clear hb1 B1 HBR htbe c0 ht hb
      go_wp2_with fail
      go_loopg [7] 3 (fun g2 vk wr2 => ∃ k : Nat, vk = .int .i64 k ∧ k ≤ 3 ∧ 3 - k ≤ g2 ∧ Below w2.heap.size w2 wr2 ∧ Blk wr2 tb #[.int .i64 u, .int .i64 (u - 1), .int .i64 1125899906842629] 2)
      case atStart => exact ⟨0, rfl, by omega, by omega, HB1.out, HT.out⟩
      case round =>
        clear HB1 HT
        obtain ⟨k, rfl, hk, hg2, hb1, hT⟩ := hrel
        have HB1 := hidE hb1; have HT := hidE hT
        clear hb1 hT
        by_cases hk3 : k < 3
        · have hk3d : decide ((k : Int) < 3) = true := decide_eq_true (by omega)
          obtain ⟨wo, rfl⟩ : ∃ wo : World, wo = wr := ⟨_, rfl⟩
          have hbw : Below w2.heap.size w2 (wo.alloc (Obj.cells #[.int .i64 0, .int .i64 0] 28)) := by have := HB1.out; (repeat (first | exact Below.refl _ _ | assumption | refine balloc ?_ _ | refine below_drewN ?_ _ | refine bstep (by assumption) ?_ | refine bstep (Past.prop _) ?_ | refine Below.setCell ?_ (by first | exact Nat.le_refl _ | (simp; done) | (simp; omega)) _))
          have BT : Blk (wo.alloc (Obj.cells #[.int .i64 0, .int .i64 0] 28)) tb #[.int .i64 u, .int .i64 (u - 1), .int .i64 1125899906842629] 2 := HT.out.alloc _
          have BW : Blk (wo.alloc (Obj.cells #[.int .i64 0, .int .i64 0] 28)) wo.heap.size #[.int .i64 0, .int .i64 0] 28 := Blk.made _ _ _
          have hwb : w2.heap.size ≤ wo.heap.size := HB1.out.size
          have htw : tb ≠ wo.heap.size := Nat.ne_of_lt HT.out.lt
          have HBW := hidE hbw; have HBT := hidE BT; have HW := hidE BW
          clear hbw BT BW HB1 HT
          go_wp2_with fail
          generalize wo.heap.size = wb at HW hwb htw ⊢
          generalize wo.alloc (Obj.cells #[.int .i64 0, .int .i64 0] 28) = w4 at HBW HBT HW ⊢
          go_loopg [9, 10, 11] l.length (fun g3 va vis vj wr3 => ∃ (j : Nat) (st : (Int × Int) × Int × Bool), va = .int .i64 st.2.1 ∧ vis = .bool st.2.2 ∧ vj = .int .i64 j ∧ j ≤ l.length ∧ l.length - j ≤ g3 ∧ Hid (rread (l.take j) (tms u k) = st) ∧ Below w2.heap.size w2 wr3 ∧ Blk wr3 tb #[.int .i64 u, .int .i64 (u - 1), .int .i64 1125899906842629] 2 ∧ Blk wr3 wb #[.int .i64 st.1.1, .int .i64 st.1.2] 28)
          case atStart => exact ⟨0, ((0, 0), 0, false), rfl, rfl, rfl, by omega, by omega, rfl, HBW.out, HBT.out, HW.out⟩
          case round =>
            clear HBW HBT HW
            obtain ⟨j, ⟨⟨wm, wv⟩, at', is⟩, rfl, rfl, rfl, hj, hg3, HST, hbw, hbt, hw⟩ := hrel
            dsimp only at hw ⊢
            by_cases hjl : j < l.length
            · have HBW := hidE hbw; have HBT := hidE hbt; have HW := hidE hw
              have hne : b ≠ wb := by
                obtain ⟨b', off', e, hb', _⟩ := HA2.out (by omega)
                simp at e; omega
              obtain ⟨b', off', e, hbb, hcc⟩ := (HA2.out.past hbw) (by omega)
              simp at e
              obtain ⟨rfl, rfl⟩ := e
              obtain ⟨d0, d1, d2⟩ := hcc.get hjl
              have ct := tms_cell hbt hk3
              have htz := hbt.lt
              have hSt := rread_step (t := tms u k) hjl
              rw [HST.out] at hSt
              have hSt2 : rread (l.take (j + 1)) (tms u k) = rstep (tms u k) ((wm, wv), at', is) (ats l j, vls l j) := hSt
              clear hSt hcc hbw hbt hw
              have hSt := hSt2; clear hSt2
              generalize ats l j = x at *
              generalize vls l j = v at *
              generalize tms u k = T at *
              by_cases q1 : x ≤ T
              · have t1 : decide (x ≤ T) = true := decide_eq_true q1
                cases is
                · have HN := hidE (hSt.trans (rstep_yes (t := T) (by exact q1) (.inl rfl)))
                  clear hSt
                  go_wp2_with fail
                  refine wp_region_past_lit (by kernel_rfl) (by kernel_rfl) ?_
                  have hcp := Past.cell (W := wr)
                  repeat (go_big_quiet_step (fail))
                  refine wpQuiet_nil ?_
                  rintro _ ⟨x', rfl⟩
                  have o1 : Below w2.heap.size w2 x'.1 := by have := HBW.out; (repeat (first | exact Below.refl _ _ | assumption | refine balloc ?_ _ | refine below_drewN ?_ _ | refine bstep (by assumption) ?_ | refine bstep (Past.prop _) ?_ | refine Below.setCell ?_ (by first | exact Nat.le_refl _ | (simp; done) | (simp; omega)) _))
                  have o2 := HBT.out.past x'.2
                  have o3 := HW.out.past x'.2
                  have e0 := (hcp x' b (off + j * 3) hbb).trans d0
                  have e1 := (hcp x' b (off + j * 3 + 1) hbb).trans d1
                  have e2 := (hcp x' b (off + j * 3 + 2) hbb).trans d2
                  have hbz5 : b < x'.1.heap.size := Nat.lt_of_lt_of_le hbb x'.2.size
                  have g0 := o3.cell 0; have g1 := o3.cell 1; have gf := o3.free; have gz := o3.lt
                  simp at g0 g1
                  clear hcp d0 d1 d2 ct
                  generalize x'.1 = w5 at *
                  go_wp2
                  go_roundg (l.length - (j + 1))
                  case measure => omega
                  case rel => exact ⟨j + 1, (v, x, true), rfl, rfl, by go_num, by omega, Nat.le_refl _, HN.out, (o1.setCell hwb _).setCell hwb _, (o2.other htw _).other htw _, (o3.set 0 (.int .i64 v.1)).set 1 (.int .i64 v.2)⟩
                · by_cases q2 : at' ≤ x
                  · have t2 : decide (at' ≤ x) = true := decide_eq_true q2
                    have HN := hidE (hSt.trans (rstep_yes (t := T) (by exact q1) (.inr q2)))
                    clear hSt
                    go_wp2_with fail
                    refine wp_region_past_lit (by kernel_rfl) (by kernel_rfl) ?_
                    have hcp := Past.cell (W := wr)
                    repeat (go_big_quiet_step (fail))
                    refine wpQuiet_nil ?_
                    rintro _ ⟨x', rfl⟩
                    have o1 : Below w2.heap.size w2 x'.1 := by have := HBW.out; (repeat (first | exact Below.refl _ _ | assumption | refine balloc ?_ _ | refine below_drewN ?_ _ | refine bstep (by assumption) ?_ | refine bstep (Past.prop _) ?_ | refine Below.setCell ?_ (by first | exact Nat.le_refl _ | (simp; done) | (simp; omega)) _))
                    have o2 := HBT.out.past x'.2
                    have o3 := HW.out.past x'.2
                    have e0 := (hcp x' b (off + j * 3) hbb).trans d0
                    have e1 := (hcp x' b (off + j * 3 + 1) hbb).trans d1
                    have e2 := (hcp x' b (off + j * 3 + 2) hbb).trans d2
                    have hbz5 : b < x'.1.heap.size := Nat.lt_of_lt_of_le hbb x'.2.size
                    have g0 := o3.cell 0; have g1 := o3.cell 1; have gf := o3.free; have gz := o3.lt
                    simp at g0 g1
                    clear hcp d0 d1 d2 ct
                    generalize x'.1 = w5 at *
                    go_wp2
                    go_roundg (l.length - (j + 1))
                    case measure => omega
                    case rel => exact ⟨j + 1, (v, x, true), rfl, rfl, by go_num, by omega, Nat.le_refl _, HN.out, (o1.setCell hwb _).setCell hwb _, (o2.other htw _).other htw _, (o3.set 0 (.int .i64 v.1)).set 1 (.int .i64 v.2)⟩
                  · have t2 : decide (at' ≤ x) = false := decide_eq_false q2
                    have HN := hidE (hSt.trans (rstep_no (t := T) (by rintro ⟨q1, q2⟩; simp at q2; omega)))
                    clear hSt d1 d2
                    go_wp2_with fail
                    refine wp_region_past_lit (by kernel_rfl) (by kernel_rfl) ?_
                    have hcp := Past.cell (W := wr)
                    repeat (go_big_quiet_step (fail))
                    refine wpQuiet_nil ?_
                    rintro _ ⟨x', rfl⟩
                    have o1 : Below w2.heap.size w2 x'.1 := by have := HBW.out; (repeat (first | exact Below.refl _ _ | assumption | refine balloc ?_ _ | refine below_drewN ?_ _ | refine bstep (by assumption) ?_ | refine bstep (Past.prop _) ?_ | refine Below.setCell ?_ (by first | exact Nat.le_refl _ | (simp; done) | (simp; omega)) _))
                    have o2 := HBT.out.past x'.2
                    have o3 := HW.out.past x'.2
                    clear hcp d0 ct
                    generalize x'.1 = w5 at o1 o2 o3 ⊢
                    go_wp2
                    go_roundg (l.length - (j + 1))
                    case measure => omega
                    case rel => exact ⟨j + 1, _, rfl, rfl, by go_num, by omega, Nat.le_refl _, HN.out, o1, o2, o3⟩
              · have t1 : decide (x ≤ T) = false := decide_eq_false q1
                have HN := hidE (hSt.trans (rstep_no (t := T) (by rintro ⟨q1, q2⟩; simp at q2; omega)))
                clear hSt d1 d2
                go_wp2_with fail
                refine wp_region_past_lit (by kernel_rfl) (by kernel_rfl) ?_
                have hcp := Past.cell (W := wr)
                repeat (go_big_quiet_step (fail))
                refine wpQuiet_nil ?_
                rintro _ ⟨x', rfl⟩
                have o1 : Below w2.heap.size w2 x'.1 := by have := HBW.out; (repeat (first | exact Below.refl _ _ | assumption | refine balloc ?_ _ | refine below_drewN ?_ _ | refine bstep (by assumption) ?_ | refine bstep (Past.prop _) ?_ | refine Below.setCell ?_ (by first | exact Nat.le_refl _ | (simp; done) | (simp; omega)) _))
                have o2 := HBT.out.past x'.2
                have o3 := HW.out.past x'.2
                clear hcp d0 ct
                generalize x'.1 = w5 at o1 o2 o3 ⊢
                go_wp2
                go_roundg (l.length - (j + 1))
                case measure => omega
                case rel => exact ⟨j + 1, _, rfl, rfl, by go_num, by omega, Nat.le_refl _, HN.out, o1, o2, o3⟩
            · have hj' : j = l.length := by omega
              subst hj'
              have hr := HST.out
              rw [rread_full] at hr
              have hv : vat f (tms u k) = (wm, wv) := by
                rw [HF.out.2.1]; unfold rv; rw [hr]
              have HV := hidE (fun w h => at_eqv (n := f.length) (l := f) (a := af) (cap := capf) (t := tms u k) (w := w) (g := (wm, wv)) h rfl (by omega) hv)
              have hAf2 := HAF.out.past hbw
              have HAF2 := hidE hAf2; have HBW := hidE hbw; have HBT := hidE hbt; have HW := hidE hw
              have ct := tms_cell hbt hk3
              have htz := hbt.lt
              have g0 := hw.cell 0; have g1 := hw.cell 1; have gz := hw.lt
              simp at g0 g1
              clear hAf2 hbw hbt hw hr hv
              generalize tms u k = T at *
              go_wp2_with fail
              refine wp_region_past_lit (by kernel_rfl) (by kernel_rfl) ?_
              have hcp := Past.cell (W := wr)
              repeat (go_big_quiet_step ((go_at_call 8; exact Past.call _ (HV.out _ (HAF2.out.past (Past.prop _))))))
              refine wpQuiet_nil ?_
              rintro _ ⟨x', rfl⟩
              have o1 : Below w2.heap.size w2 x'.1 := by have := HBW.out; (repeat (first | exact Below.refl _ _ | assumption | refine balloc ?_ _ | refine below_drewN ?_ _ | refine bstep (by assumption) ?_ | refine bstep (Past.prop _) ?_ | refine Below.setCell ?_ (by first | exact Nat.le_refl _ | (simp; done) | (simp; omega)) _))
              have o2 := HBT.out.past x'.2
              clear hcp ct g0 g1
              generalize x'.1 = w5 at *
              go_wp2
              go_roundg (3 - (k + 1))
              case measure => omega
              case rel => exact ⟨k + 1, by go_num, by omega, Nat.le_refl _, o1, o2⟩
        · go_wp2_with fail
          go_roundg (l.length - (i + 1))
          case measure => omega
          case rel => exact ⟨i + 1, by go_num, by omega, Nat.le_refl _, HB1.out⟩
    · have hbw : Below w.heap.size w wr := HB.out.trans (hbr.mono HB.out.size)
      have HBW := hidE hbw
      have hle : (f.length : Int) ≤ (l.length : Int) := by omega
      have hd : decide ((f.length : Int) ≤ (l.length : Int)) = true := decide_eq_true hle
      clear hbw hbr
      go_wp2_with (go_at_call 6; ((with_reducible refine (rhead_c _).mono ?_); rintro e w1 ⟨rfl, hb1⟩))
      go_ret
      exact ⟨rfl, bstep hb1 HBW.out⟩
end Go.Proofs.Ytibmldgbimjgfaa
