/- Two strings side by side. No conditions but their length. The walk of the statement on depth and width. No conditions but that the arguments are bytes. ParseDeep: for every depth, width and kind the statement's function answers true and leaves its arguments alone. No conditions. -/
import Derived.Test.YtaeipfnpglbooaaDoorP7GA
import Derived.Test.YtaeipfnpglbooaaDoorP7GE
namespace Go.Proofs.YtaeipfnpglbooaaDoor
open Go.ChangeShapes Go.WideShapes Go.ChangeAt Go.RowKit

theorem str_add (w : World) (a b : List UInt8) (h : a.length + b.length ≤ 9223372036854775807) : (Op.stringOp .add ⟨a.toArray⟩ ⟨b.toArray⟩).run Tryd.prog w = .ok (strV (a ++ b)) w := by
  rw [run_string_add_sum (P := Tryd.prog) w ⟨a.toArray⟩ ⟨b.toArray⟩ (by simpa [ByteArray.size] using h)]
  have e : (⟨a.toArray⟩ : ByteArray) ++ ⟨b.toArray⟩ = ⟨(a ++ b).toArray⟩ := by
    rw [ByteArray.ext_iff, ByteArray.data_append]
    simp
  rw [e]
end Go.Proofs.YtaeipfnpglbooaaDoor

namespace Go.Proofs.YtaeipfnpglbooaaDoor
open Go.ChangeShapes Go.WideShapes Go.ChangeAt Go.RowKit
attribute [local irreducible] Go.Calls

theorem word_len {k : Nat} (h : 1 ≤ k ∧ k ≤ 4) : (wordK k).length ≤ 5 := by
  have : k = 1 ∨ k = 2 ∨ k = 3 ∨ k = 4 := by omega
  rcases this with rfl | rfl | rfl | rfl <;> decide
def wordsV : Array Value := #[strV [111, 114, 100, 101, 114], strV [110, 101, 120, 116], strV [97, 110, 121], strV [97, 108, 108]]
theorem words_at {k : Nat} (h : k < 4) : wordsV[k]? = some (strV (wordK (k + 1))) := by
  have : k = 0 ∨ k = 1 ∨ k = 2 ∨ k = 3 := by omega
  rcases this with rfl | rfl | rfl | rfl <;> rfl
set_option maxRecDepth 100000 in
set_option maxHeartbeats 4000000 in
theorem ldeep_walk (dp wd kd : Int) (W : World) (h1 : 0 ≤ dp ∧ dp ≤ 255) (h2 : 0 ≤ wd ∧ wd ≤ 255) (h3 : 0 ≤ kd ∧ kd ≤ 255) (hT : Tab W) :
    Calls Tryd.prog 5 #[.int .u8 dp, .int .u8 wd, .int .u8 kd] W fun e w' => e = .returned (.bool true) ∧ Below W.heap.size W w' := by
  have HH := hidE (fun w (hb : Below W.heap.size W w) => head_c w (hT.past hb))
  have HTB := hidE (fun w (hb : Below W.heap.size W w) => hT.past hb)
  clear hT
  obtain ⟨n, e1⟩ : ∃ n : Nat, dp.tmod 20 = (n : Int) := ⟨(dp.tmod 20).toNat, by rw [Int.tmod_eq_emod_of_nonneg h1.1]; omega⟩
  obtain ⟨m, e2⟩ : ∃ m : Nat, wd.tmod 100 = (m : Int) := ⟨(wd.tmod 100).toNat, by rw [Int.tmod_eq_emod_of_nonneg h2.1]; omega⟩
  obtain ⟨k, e3⟩ : ∃ k : Nat, kd.tmod 4 = (k : Int) := ⟨(kd.tmod 4).toNat, by rw [Int.tmod_eq_emod_of_nonneg h3.1]; omega⟩
  have hn : n < 20 := by rw [Int.tmod_eq_emod_of_nonneg h1.1] at e1; omega
  have hm : m < 100 := by rw [Int.tmod_eq_emod_of_nonneg h2.1] at e2; omega
  have hk : k < 4 := by rw [Int.tmod_eq_emod_of_nonneg h3.1] at e3; omega
  have hwl := word_len (k := k + 1) (by omega)
  have HD := hidE (deep_parse (k := k + 1) (n := n) (by omega) hn)
  have HW := hidE (wide_parse (m := m + 1) (by omega) (by omega))
  have HK := hidE (words_at hk)
  have slen : (⟨(wordK (k + 1)).toArray⟩ : ByteArray).size = (wordK (k + 1)).length := by simp [ByteArray.size]
  have HO := hidE (openS_len (k + 1))
  have HWL := hidE wideS_len
  go_enter Tryd.func5, Tryd.ntmps5
  go_wp2
  go_loopg [10, 11, 12] n (fun g v1 v2 vi wr => ∃ i : Nat, i ≤ n ∧ n - i ≤ g ∧ v1 = strV (pre12 ++ openS (k + 1) i) ∧ v2 = strV (closeS i) ∧ vi = .int .i64 i ∧ Below W.heap.size W wr ∧ Blk wr W.heap.size wordsV 9)
  case atStart => exact ⟨0, Nat.zero_le _, Nat.le_refl _, rfl, rfl, rfl, by (repeat (first | exact Below.refl _ _ | assumption | refine balloc ?_ _ | refine below_drewN ?_ _ | refine bstep (by assumption) ?_ | refine bstep (Past.prop _) ?_ | refine Below.setCell ?_ (by first | exact Nat.le_refl _ | (simp; done) | (simp; omega)) _)), Blk.made _ _ _⟩
  case round =>
    obtain ⟨i, hi, hg, rfl, rfl, rfl, hb, hB⟩ := hrel
    have HB := hidE hb; have HBB := hidE hB; have HG := hidE hg
    have p0 := (hB.cell k).trans HK.out; have pz := hB.lt
    clear hb hB hg
    by_cases hlt : i < n
    · have q1 : decide ((i : Int) < (n : Int)) = true := decide_eq_true (by omega)
      have q2 : decide (i < n) = true := decide_eq_true hlt
      have ho := HO.out i
      have hin := Nat.mul_le_mul (show i ≤ 20 by omega) (show 2 + (wordK (k + 1)).length ≤ 7 by omega)
      have hpl : (pre12 ++ openS (k + 1) i).length ≤ 160 := by rw [List.length_append, ho]; show 13 + _ ≤ 160; omega
      have hcl : (closeS i).length ≤ 20 := by unfold closeS; rw [List.length_replicate]; omega
      have hN := hidE (show pre12 ++ openS (k + 1) (i + 1) = pre12 ++ openS (k + 1) i ++ 40 :: (wordK (k + 1) ++ [32]) by rw [openS]; simp)
      have hC := hidE (show closeS (i + 1) = closeS i ++ [41] by unfold closeS; rw [List.replicate_succ'])
      clear ho hin
      have hik : (i : Int) + 1 ≤ 100 := by omega
      generalize pre12 ++ openS (k + 1) i = P at *
      generalize closeS i = C at *
      have A1 := fun w => str_add w P [40] (by simp; omega)
      have A2 := fun w => str_add w (P ++ [40]) (wordK (k + 1)) (by simp; omega)
      have A3 := fun w => str_add w (P ++ 40 :: wordK (k + 1)) [32] (by simp; omega)
      have A4 := fun w => str_add w C [41] (by simp; omega)
      go_wp2_with fail
      go_roundg (n - (i + 1))
      case measure => have := HG.out; omega
      case rel => exact ⟨i + 1, by omega, Nat.le_refl _, by rw [hN.out], by rw [hC.out], by go_num, HB.out, HBB.out⟩
    · have q1 : decide ((i : Int) < (n : Int)) = false := decide_eq_false (by omega)
      have q2 : decide (i < n) = false := decide_eq_false hlt
      have hin : i = n := by omega
      subst hin
      have ho := HO.out i
      have hin := Nat.mul_le_mul (show i ≤ 20 by omega) (show 2 + (wordK (k + 1)).length ≤ 7 by omega)
      have hpl : (pre12 ++ openS (k + 1) i).length ≤ 160 := by rw [List.length_append, ho]; show 13 + _ ≤ 160; omega
      have hcl : (closeS i).length ≤ 20 := by unfold closeS; rw [List.length_replicate]; omega
      have hE : deepS (k + 1) i = pre12 ++ openS (k + 1) i ++ ([40, 97, 116, 111, 109, 32, 49, 32, 49, 32, 49, 41] ++ closeS i) := rfl
      clear ho hin
      rw [hE] at HD
      generalize pre12 ++ openS (k + 1) i = P at *
      generalize closeS i = C at *
      have A1 := fun w => str_add w P [40, 97, 116, 111, 109, 32, 49, 32, 49, 32, 49, 41] (by simp; omega)
      have A2 := fun w => str_add w (P ++ [40, 97, 116, 111, 109, 32, 49, 32, 49, 32, 49, 41]) C (by simp; omega)
      by_cases c8 : i < 8
      · have HP := hidE (HD.out.trans (if_pos c8))
        have r1 : decide ((i : Int) < 8) = true := decide_eq_true (by omega)
        have r2 : decide (i < 8) = true := decide_eq_true c8
        have r3 : decide ((i : Int) ≥ 8) = false := decide_eq_false (by omega)
        have r4 : decide (i ≥ 8) = false := decide_eq_false (by omega)
        have hsz : (P ++ ([40, 97, 116, 111, 109, 32, 49, 32, 49, 32, 49, 41] ++ C)).length ≤ 300 := by simp only [List.length_append, List.length_cons, List.length_nil]; omega
        have HZ := hidE hsz
        clear c8 hsz
        go_wp2_with fail
        ((with_reducible refine (par_is HP.out (by have := HZ.out; omega) _ ?hb _ (HTB.out _ (by have := HB.out; (repeat (first | exact Below.refl _ _ | assumption | refine balloc ?_ _ | refine below_drewN ?_ _ | refine bstep (by assumption) ?_ | refine bstep (Past.prop _) ?_ | refine Below.setCell ?_ (by first | exact Nat.le_refl _ | (simp; done) | (simp; omega)) _))))).mono ?_))
        case hb => rfl
        rintro e w1 ⟨a1, cp1, rfl, _, _, hA1, hb1⟩
        go_wp2_with fail
        have hb2 := HB.out.trans (hb1.mono HB.out.size)
        have HB2 := hidE hb2; clear hb2
        go_loopg [16, 17] (m + 1) (fun g v vi wx => ∃ j : Nat, j ≤ m + 1 ∧ m + 1 - j ≤ g ∧ v = strV (wideS j) ∧ vi = .int .i64 j ∧ Below W.heap.size W wx)
        case atStart => exact ⟨0, Nat.zero_le _, Nat.le_refl _, rfl, rfl, by have := HB2.out; (repeat (first | exact Below.refl _ _ | assumption | refine balloc ?_ _ | refine below_drewN ?_ _ | refine bstep (by assumption) ?_ | refine bstep (Past.prop _) ?_ | refine Below.setCell ?_ (by first | exact Nat.le_refl _ | (simp; done) | (simp; omega)) _))⟩
        case round =>
          obtain ⟨j, hj, hg2, rfl, rfl, hb3⟩ := hrel
          have HB3 := hidE hb3; have HG2 := hidE hg2
          clear hb3 hg2
          by_cases hjt : j < m + 1
          · have s1 : decide ((j : Int) < 1 + (m : Int)) = true := decide_eq_true (by omega)
            have s2 : decide (j < m + 1) = true := decide_eq_true hjt
            have hql : (wideS j).length ≤ 1400 := by rw [HWL.out]; omega
            have hN := hidE (show wideS (j + 1) = wideS j ++ [32, 40, 97, 116, 111, 109, 32, 49, 32, 49, 32, 49, 41] from rfl)
            have hj1 : (j : Int) + 1 ≤ 200 := by omega
            generalize wideS j = Q at *
            have A5 := fun w => str_add w Q [32, 40, 97, 116, 111, 109, 32, 49, 32, 49, 32, 49, 41] (by simp; omega)
            go_wp2_with fail
            go_roundg (m + 1 - (j + 1))
            case measure => have := HG2.out; omega
            case rel => exact ⟨j + 1, by omega, Nat.le_refl _, by rw [hN.out], by go_num, HB3.out⟩
          · have s1 : decide ((j : Int) < 1 + (m : Int)) = false := decide_eq_false (by omega)
            have s2 : decide (j < m + 1) = false := decide_eq_false hjt
            have hjm : j = m + 1 := by omega
            have HWj := hidE HW.out
            rw [← hjm] at HWj
            have hql : (wideS j).length ≤ 1400 := by rw [HWL.out]; omega
            have hfl := all_flat_len j
            have HJ := hidE hjm; clear hjm
            generalize wideS j = Q at *
            have A5 := fun w => str_add w Q [41] (by simp; omega)
            have HQ := hidE hql
            by_cases c64 : j < 64
            · have HP2 := hidE (HWj.out.trans (if_pos c64))
              have t1 : decide (1 + (m : Int) < 64) = true := decide_eq_true (by have := HJ.out; omega)
              have t2 : decide (m + 1 < 64) = true := decide_eq_true (by have := HJ.out; omega)
              have t3 : (((m + 2 : Nat) : Int) == 1 + (m : Int) + 1) = true := beq_iff_eq.2 (by omega)
              have hfl2 : (allF j).flat.length = m + 2 := by rw [hfl]; have := HJ.out; omega
              clear c64 hfl
              go_wp2_with fail
              ((with_reducible refine (par_is HP2.out (by have := HQ.out; simp only [List.length_append, List.length_cons, List.length_nil]; omega) _ ?hb _ (HTB.out _ (by have := HB3.out; (repeat (first | exact Below.refl _ _ | assumption | refine balloc ?_ _ | refine below_drewN ?_ _ | refine bstep (by assumption) ?_ | refine bstep (Past.prop _) ?_ | refine Below.setCell ?_ (by first | exact Nat.le_refl _ | (simp; done) | (simp; omega)) _))))).mono ?_))
              case hb => rfl
              rintro e w3 ⟨a3, cp3, rfl, _, _, hA3, hb3⟩
              rw [hfl2]
              go_wp2_with fail
              ((with_reducible refine (HH.out _ (by have := HB3.out; (repeat (first | exact Below.refl _ _ | assumption | refine balloc ?_ _ | refine below_drewN ?_ _ | refine bstep (by assumption) ?_ | refine bstep (Past.prop _) ?_ | refine Below.setCell ?_ (by first | exact Nat.le_refl _ | (simp; done) | (simp; omega)) _)))).mono ?_); rintro e w4 ⟨rfl, hb4⟩)
              have HB4 := hidE (by have := HB3.out; (repeat (first | exact Below.refl _ _ | assumption | refine balloc ?_ _ | refine below_drewN ?_ _ | refine bstep (by assumption) ?_ | refine bstep (Past.prop _) ?_ | refine Below.setCell ?_ (by first | exact Nat.le_refl _ | (simp; done) | (simp; omega)) _)) : Below W.heap.size W w4)
              clear hb3 hb4
              go_wp2
              go_ret
              exact ⟨rfl, HB4.out⟩
            · have HP2 := hidE (HWj.out.trans (if_neg c64))
              have t1 : decide (1 + (m : Int) < 64) = false := decide_eq_false (by have := HJ.out; omega)
              have t2 : decide (m + 1 < 64) = false := decide_eq_false (by have := HJ.out; omega)
              clear c64 hfl
              go_wp2_with fail
              ((with_reducible refine (par_is HP2.out (by have := HQ.out; simp only [List.length_append, List.length_cons, List.length_nil]; omega) _ ?hb _ (HTB.out _ (by have := HB3.out; (repeat (first | exact Below.refl _ _ | assumption | refine balloc ?_ _ | refine below_drewN ?_ _ | refine bstep (by assumption) ?_ | refine bstep (Past.prop _) ?_ | refine Below.setCell ?_ (by first | exact Nat.le_refl _ | (simp; done) | (simp; omega)) _))))).mono ?_))
              case hb => rfl
              rintro e w3 ⟨a3, cp3, rfl, _, _, hA3, hb3⟩
              go_wp2_with fail
              ((with_reducible refine (HH.out _ (by have := HB3.out; (repeat (first | exact Below.refl _ _ | assumption | refine balloc ?_ _ | refine below_drewN ?_ _ | refine bstep (by assumption) ?_ | refine bstep (Past.prop _) ?_ | refine Below.setCell ?_ (by first | exact Nat.le_refl _ | (simp; done) | (simp; omega)) _)))).mono ?_); rintro e w4 ⟨rfl, hb4⟩)
              have HB4 := hidE (by have := HB3.out; (repeat (first | exact Below.refl _ _ | assumption | refine balloc ?_ _ | refine below_drewN ?_ _ | refine bstep (by assumption) ?_ | refine bstep (Past.prop _) ?_ | refine Below.setCell ?_ (by first | exact Nat.le_refl _ | (simp; done) | (simp; omega)) _)) : Below W.heap.size W w4)
              clear hb3 hb4
              go_wp2
              go_ret
              exact ⟨rfl, HB4.out⟩
      · have HP := hidE (HD.out.trans (if_neg c8))
        have r1 : decide ((i : Int) < 8) = false := decide_eq_false (by omega)
        have r2 : decide (i < 8) = false := decide_eq_false c8
        have r3 : decide ((i : Int) ≥ 8) = true := decide_eq_true (by omega)
        have r4 : decide (i ≥ 8) = true := decide_eq_true (by omega)
        have hsz : (P ++ ([40, 97, 116, 111, 109, 32, 49, 32, 49, 32, 49, 41] ++ C)).length ≤ 300 := by simp only [List.length_append, List.length_cons, List.length_nil]; omega
        have HZ := hidE hsz
        clear c8 hsz
        generalize (wordK (k + 1)).length = wl at *
        obtain ⟨pl, hpl2⟩ : ∃ pl : Nat, pl = 13 + 8 * (2 + wl) := ⟨_, rfl⟩
        rw [← hpl2] at HP
        have r5 : ((pl : Int) != 13 + 8 * (2 + (wl : Int))) = false := by rw [bne_eq_false_iff_eq]; omega
        have HPL := hidE hpl2; clear hpl2
        go_wp2_with fail
        ((with_reducible refine (par_is HP.out (by have := HZ.out; omega) _ ?hb _ (HTB.out _ (by have := HB.out; (repeat (first | exact Below.refl _ _ | assumption | refine balloc ?_ _ | refine below_drewN ?_ _ | refine bstep (by assumption) ?_ | refine bstep (Past.prop _) ?_ | refine Below.setCell ?_ (by first | exact Nat.le_refl _ | (simp; done) | (simp; omega)) _))))).mono ?_))
        case hb => rfl
        rintro e w1 ⟨a1, cp1, rfl, _, _, hA1, hb1⟩
        have p0 := (HBB.out.past hb1).cell k |>.trans HK.out
        have pz := (HBB.out.past hb1).lt
        go_wp2_with fail
        have hb2 := HB.out.trans (hb1.mono HB.out.size)
        have HB2 := hidE hb2; clear hb2
        go_loopg [16, 17] (m + 1) (fun g v vi wx => ∃ j : Nat, j ≤ m + 1 ∧ m + 1 - j ≤ g ∧ v = strV (wideS j) ∧ vi = .int .i64 j ∧ Below W.heap.size W wx)
        case atStart => exact ⟨0, Nat.zero_le _, Nat.le_refl _, rfl, rfl, by have := HB2.out; (repeat (first | exact Below.refl _ _ | assumption | refine balloc ?_ _ | refine below_drewN ?_ _ | refine bstep (by assumption) ?_ | refine bstep (Past.prop _) ?_ | refine Below.setCell ?_ (by first | exact Nat.le_refl _ | (simp; done) | (simp; omega)) _))⟩
        case round =>
          obtain ⟨j, hj, hg2, rfl, rfl, hb3⟩ := hrel
          have HB3 := hidE hb3; have HG2 := hidE hg2
          clear hb3 hg2
          by_cases hjt : j < m + 1
          · have s1 : decide ((j : Int) < 1 + (m : Int)) = true := decide_eq_true (by omega)
            have s2 : decide (j < m + 1) = true := decide_eq_true hjt
            have hql : (wideS j).length ≤ 1400 := by rw [HWL.out]; omega
            have hN := hidE (show wideS (j + 1) = wideS j ++ [32, 40, 97, 116, 111, 109, 32, 49, 32, 49, 32, 49, 41] from rfl)
            have hj1 : (j : Int) + 1 ≤ 200 := by omega
            generalize wideS j = Q at *
            have A5 := fun w => str_add w Q [32, 40, 97, 116, 111, 109, 32, 49, 32, 49, 32, 49, 41] (by simp; omega)
            go_wp2_with fail
            go_roundg (m + 1 - (j + 1))
            case measure => have := HG2.out; omega
            case rel => exact ⟨j + 1, by omega, Nat.le_refl _, by rw [hN.out], by go_num, HB3.out⟩
          · have s1 : decide ((j : Int) < 1 + (m : Int)) = false := decide_eq_false (by omega)
            have s2 : decide (j < m + 1) = false := decide_eq_false hjt
            have hjm : j = m + 1 := by omega
            have HWj := hidE HW.out
            rw [← hjm] at HWj
            have hql : (wideS j).length ≤ 1400 := by rw [HWL.out]; omega
            have hfl := all_flat_len j
            have HJ := hidE hjm; clear hjm
            generalize wideS j = Q at *
            have A5 := fun w => str_add w Q [41] (by simp; omega)
            have HQ := hidE hql
            by_cases c64 : j < 64
            · have HP2 := hidE (HWj.out.trans (if_pos c64))
              have t1 : decide (1 + (m : Int) < 64) = true := decide_eq_true (by have := HJ.out; omega)
              have t2 : decide (m + 1 < 64) = true := decide_eq_true (by have := HJ.out; omega)
              have t3 : (((m + 2 : Nat) : Int) == 1 + (m : Int) + 1) = true := beq_iff_eq.2 (by omega)
              have hfl2 : (allF j).flat.length = m + 2 := by rw [hfl]; have := HJ.out; omega
              clear c64 hfl
              go_wp2_with fail
              ((with_reducible refine (par_is HP2.out (by have := HQ.out; simp only [List.length_append, List.length_cons, List.length_nil]; omega) _ ?hb _ (HTB.out _ (by have := HB3.out; (repeat (first | exact Below.refl _ _ | assumption | refine balloc ?_ _ | refine below_drewN ?_ _ | refine bstep (by assumption) ?_ | refine bstep (Past.prop _) ?_ | refine Below.setCell ?_ (by first | exact Nat.le_refl _ | (simp; done) | (simp; omega)) _))))).mono ?_))
              case hb => rfl
              rintro e w3 ⟨a3, cp3, rfl, _, _, hA3, hb3⟩
              rw [hfl2]
              go_wp2_with fail
              ((with_reducible refine (HH.out _ (by have := HB3.out; (repeat (first | exact Below.refl _ _ | assumption | refine balloc ?_ _ | refine below_drewN ?_ _ | refine bstep (by assumption) ?_ | refine bstep (Past.prop _) ?_ | refine Below.setCell ?_ (by first | exact Nat.le_refl _ | (simp; done) | (simp; omega)) _)))).mono ?_); rintro e w4 ⟨rfl, hb4⟩)
              have HB4 := hidE (by have := HB3.out; (repeat (first | exact Below.refl _ _ | assumption | refine balloc ?_ _ | refine below_drewN ?_ _ | refine bstep (by assumption) ?_ | refine bstep (Past.prop _) ?_ | refine Below.setCell ?_ (by first | exact Nat.le_refl _ | (simp; done) | (simp; omega)) _)) : Below W.heap.size W w4)
              clear hb3 hb4
              go_wp2
              go_ret
              exact ⟨rfl, HB4.out⟩
            · have HP2 := hidE (HWj.out.trans (if_neg c64))
              have t1 : decide (1 + (m : Int) < 64) = false := decide_eq_false (by have := HJ.out; omega)
              have t2 : decide (m + 1 < 64) = false := decide_eq_false (by have := HJ.out; omega)
              clear c64 hfl
              go_wp2_with fail
              ((with_reducible refine (par_is HP2.out (by have := HQ.out; simp only [List.length_append, List.length_cons, List.length_nil]; omega) _ ?hb _ (HTB.out _ (by have := HB3.out; (repeat (first | exact Below.refl _ _ | assumption | refine balloc ?_ _ | refine below_drewN ?_ _ | refine bstep (by assumption) ?_ | refine bstep (Past.prop _) ?_ | refine Below.setCell ?_ (by first | exact Nat.le_refl _ | (simp; done) | (simp; omega)) _))))).mono ?_))
              case hb => rfl
              rintro e w3 ⟨a3, cp3, rfl, _, _, hA3, hb3⟩
              go_wp2_with fail
              ((with_reducible refine (HH.out _ (by have := HB3.out; (repeat (first | exact Below.refl _ _ | assumption | refine balloc ?_ _ | refine below_drewN ?_ _ | refine bstep (by assumption) ?_ | refine bstep (Past.prop _) ?_ | refine Below.setCell ?_ (by first | exact Nat.le_refl _ | (simp; done) | (simp; omega)) _)))).mono ?_); rintro e w4 ⟨rfl, hb4⟩)
              have HB4 := hidE (by have := HB3.out; (repeat (first | exact Below.refl _ _ | assumption | refine balloc ?_ _ | refine below_drewN ?_ _ | refine bstep (by assumption) ?_ | refine bstep (Past.prop _) ?_ | refine Below.setCell ?_ (by first | exact Nat.le_refl _ | (simp; done) | (simp; omega)) _)) : Below W.heap.size W w4)
              clear hb3 hb4
              go_wp2
              go_ret
              exact ⟨rfl, HB4.out⟩
end Go.Proofs.YtaeipfnpglbooaaDoor

namespace Go.Proofs.YtaeipfnpglbooaaDoor
open Go.ChangeShapes Go.WideShapes Go.ChangeAt Go.RowKit
def parseDeepLaid : List (String × DataW Unit) := [("math/bits.deBruijn32tab", Rows.laid_math_bits_deBruijn32tab), ("math/bits.deBruijn64tab", Rows.laid_math_bits_deBruijn64tab), ("internal/strconv.uint64pow10", Rows.laid_internal_strconv_uint64pow10), ("livery/parse.words", Rows.laid_livery_parse_words)]
set_option maxRecDepth 100000 in
theorem parseDeep_lifted (os : Os) (started : os.Started) (H : Type) (enc : TypeId × Value → H) :
    ReturnsInHanded {} Tryd.checked os 5 .any (fun w args => (Rows.parseDeepSpec.pre enc Tryd.prog Tryd.f5 Rows.parseDeepRow.domain false w args ∧ laidMetH Tryd.prog parseDeepLaid w) ∧ sizedMet enc Tryd.prog Tryd.f5 (OpenSpec.ofChange Rows.parseDeepSpec) false w args) (Rows.parseDeepSpec.post enc Tryd.prog Tryd.f5 false true false false) := by
  refine returnsInHanded_of_change_and (C := Tryd.checked) (X := fun w _ => laidMetH Tryd.prog parseDeepLaid w) (fun _ _ _ hh h => h.of_heap hh) own started (by kernel_rfl) Tryd.func5
    (ChangeSpec.witness_shaped (enc := enc) (C := Tryd.checked) (os := os) (X := fun w _ => laidMetH Tryd.prog parseDeepLaid w) false (World.laidAll Tryd.prog os parseDeepLaid) #[.int .u8 0, .int .u8 0, .int .u8 0] 8 (World.laidAll_os _ _ _) (World.shaped_of_ZipB (by kernel_rfl) (by kernel_rfl)) (by kernel_rfl) (by kernel_rfl) (by kernel_rfl)
      (by rw [MakeChecks.laidMetH_plain _ _ _ (by kernel_rfl)]; exact laidMet_laidAll _ (by kernel_rfl) (by kernel_rfl))) ?_
  intro W base args ds gs before hval0 hW _ _ hL _
  rw [MakeChecks.laidMetH_plain _ _ _ (by kernel_rfl)] at hL
  have hval : ∀ (j : Nat) t v, Tryd.f5.params[j]? = some t → args[j]? = some v → Value.okWide Tryd.prog W .any base t v := hval0
  have hW' := hW
  obtain ⟨p, q, hA0, hV, rfl, hfz, hnd⟩ := hW
  have hA : DataW.TrodAll enc Tryd.prog W 0 (fun _ => true) true Tryd.f5.params.toList args.toList ds p := hA0
  rw [Tryd.params5] at hA hval
  obtain ⟨v0, vs0, d0, ds0, p0, q0, hargs, rfl, rfl, h0, r0⟩ := trodAll_cons hA
  obtain ⟨v1, vs1, d1, ds1, p1, q1, rfl, rfl, rfl, h1, r1⟩ := trodAll_cons r0
  obtain ⟨v2, vs2, d2, ds2, p2, q2, rfl, rfl, rfl, h2, r2⟩ := trodAll_cons r1
  obtain ⟨rfl, rfl, rfl⟩ := trodAll_nil r2
  obtain rfl : args = #[v0, v1, v2] := by cases args; simp_all
  obtain ⟨a0, rfl, rfl, rfl, wa0⟩ := open_int Tryd.underlying5 (hval 0 5 v0 rfl rfl) h0
  have ha0 : 0 ≤ a0 ∧ a0 ≤ 255 := by simpa [Lit.wf, IntKind.min, IntKind.max, IntKind.signed, IntKind.bits] using wa0
  obtain ⟨a1, rfl, rfl, rfl, wa1⟩ := open_int Tryd.underlying5 (hval 1 5 v1 rfl rfl) h1
  have ha1 : 0 ≤ a1 ∧ a1 ≤ 255 := by simpa [Lit.wf, IntKind.min, IntKind.max, IntKind.signed, IntKind.bits] using wa1
  obtain ⟨a2, rfl, rfl, rfl, wa2⟩ := open_int Tryd.underlying5 (hval 2 5 v2 rfl rfl) h2
  have ha2 : 0 ≤ a2 ∧ a2 ≤ 255 := by simpa [Lit.wf, IntKind.min, IntKind.max, IntKind.signed, IntKind.bits] using wa2
  clear hA0 hval0
  refine (ldeep_walk a0 a1 a2 W ha0 ha1 ha2 ⟨(tab_of_laid (laidMet_tail (laidMet_tail hL))), words_of_laid (laidMet_tail (laidMet_tail (laidMet_tail hL)))⟩).mono fun e W' ⟨he, hb⟩ => ?_
  subst he
  exact ⟨_, rfl, law_post laidOut (readOk_spec (by kernel_rfl)) rfl Tryd.underlying4 rfl ⟨rfl, rfl, rfl⟩ hW' hb⟩

theorem parseDeep_holds : Rows.ParseDeepSaid :=
  OpenClaim.holds_of_wide 5 Tryd.f5 rfl rfl rfl rfl rfl rfl rfl ⟨rfl, rfl, rfl, rfl, rfl⟩ rfl rfl rfl rfl rfl (by kernel_rfl) Tryd.func5 (by kernel_rfl)
    (of_decide_eq_true (by kernel_rfl)) (by unfold Func.isWrapper; first | (rw [if_pos (by decide +kernel)]; kernel_rfl) | (rw [if_neg (by decide +kernel)]; exact ⟨rfl, rfl⟩))
    (fun os started H enc _ => parseDeep_lifted os started H enc)

theorem parseDeep_card : Rows.ParseDeepCardSaid :=
  Claim7.holds_tied_plain_at .later [] [.data, .data, .data, .data] true (true, "2ef7e7388e02eb914236aa005a078e7a0a5f24b732900d437e54b97c03e5d287") true
    parseDeep_holds (fun _ h => by cases h) (by kernel_rfl) (fun _ h => by cases h) parseDeep_row_tie rfl ⟨rfl, rfl⟩ (by kernel_rfl) rfl
    (fun f fn hf hfn => by
      obtain rfl : f = 5 := Option.some.inj ((show Tryd.prog.funcNamed "livery/liverylaw07.ParseDeep" = some 5 by kernel_rfl).symm.trans hf) |>.symm
      obtain rfl : fn = Tryd.f5 := (Option.some.inj (Tryd.func5.symm.trans hfn)).symm
      exact ⟨by kernel_rfl, fun j t ht => by
        rw [Tryd.params5] at ht
        have hm : t ∈ [5, 5, 5] := by simpa using Array.mem_of_getElem? ht
        have hall : ([5, 5, 5].all fun u => !Tryd.prog.wantsStandIn u) = true := by kernel_rfl
        exact (show Tryd.prog.wantsStandIn t = false by simpa using List.all_eq_true.1 hall t hm)⟩)
    (by kernel_rfl)
end Go.Proofs.YtaeipfnpglbooaaDoor
