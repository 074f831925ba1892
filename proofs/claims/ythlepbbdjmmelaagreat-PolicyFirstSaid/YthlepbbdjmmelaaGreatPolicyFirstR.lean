/- An array of two int64 that is handed in: two integers. No conditions. The sum of a function in a window, run by run. No program. No conditions. The statements' own sum of a function in a window, run by run. No conditions but that the function is canonical and the window small. The walk of the statement on the first violation: one of the three ways to the later time. Conditions: that the slices read as functions. The walk of the statement on the first violation: one of the three ways to the later time. Conditions: that the slices read as functions. The walk of the statement on the first violation: one of the three ways to the later time. Conditions: that the slices read as functions. The walk of the statement on the first violation, whole. Conditions: that the slices read as functions. PolicyFirst: for every policy, every two numbers and any three functions, the statement's function answers true and leaves its arguments alone. No conditions. -/
import Derived.Test.YthlepbbdjmmelaaGreatPPGA
import Derived.OpenShut
import Derived.Test.YthlepbbdjmmelaaGreatPPMB
import Derived.Test.YthlepbbdjmmelaaGreatPPGF
import Derived.LoopTactic
import Derived.Test.YthlepbbdjmmelaaGreatPPGG
namespace Go.Proofs.YthlepbbdjmmelaaGreat
open Go.ChangeShapes Go.WideShapes Go.ChangeAt Go.RowKit

theorem open_arr2 {H : Type} {enc : TypeId × Value → H} {P : Program} {t ti : TypeId} (ht : P.underlying t = some (.array 2 ti)) (hti : P.underlying ti = some (.int .i64)) (ce : P.cellsOf ti = 1) (ct : P.cellsOf t = 2)
    {W : World} {v : Value} {d : DataW H} {p : List MemPlace} {r : Reach} {b0 base : Nat} {sp : Nat → Bool} {held : Bool} (ho : Value.okWide P W r b0 t v) (h : DataW.Trod enc P W base sp held t v d p) :
    ∃ x y : Int, v = .agg #[.int .i64 x, .int .i64 y] := by
  simp only [Value.okWide, ht] at ho
  obtain ⟨cs, rfl, hsz, _⟩ := ho
  obtain ⟨fuel, hf⟩ := h
  obtain ⟨xs, m, _, _, hl, hxl, hx⟩ := DataW.trod_array ht hf
  rw [ct] at hsz
  obtain ⟨c0, c1, rfl⟩ : ∃ c0 c1, cs = #[c0, c1] := by
    obtain ⟨l⟩ := cs
    match l, hsz with
    | [c0, c1], _ => exact ⟨c0, c1, rfl⟩
  match xs, hxl with
  | [y0, y1], _ =>
    have h0 := hx 0 (by omega)
    have h1 := hx 1 (by omega)
    rw [ce] at h0 h1
    simp [Value.cells] at h0 h1
    obtain ⟨z0, e0, _, _⟩ := DataW.trod_int hti h0
    obtain ⟨z1, e1, _, _⟩ := DataW.trod_int hti h1
    simp at e0 e1
    subst e0 e1
    exact ⟨z0, z1, rfl⟩
end Go.Proofs.YthlepbbdjmmelaaGreat

namespace Go.Proofs.YthlepbbdjmmelaaGreat

/-- Up to where the first k runs are gone over. -/
def totT (F : List Sg) (x n : Int) (k : Nat) : Int := if k = 0 then x else mn (x + n) (mx (ats F (k - 1)) x)
def totNx (F : List Sg) (x n : Int) (k : Nat) : Int := if k < F.length then mn (x + n) (mx (ats F k) x) else x + n
theorem totT_le {F : List Sg} {x n : Int} (hn : 0 ≤ n) (k : Nat) : x ≤ totT F x n k ∧ totT F x n k ≤ x + n := by
  unfold totT mn mx
  split
  · omega
  · split <;> split <;> omega
theorem totNx_le {F : List Sg} {x n : Int} (hn : 0 ≤ n) (k : Nat) : x ≤ totNx F x n k ∧ totNx F x n k ≤ x + n := by
  unfold totNx mn mx
  split
  · split <;> split <;> omega
  · omega
theorem totT_step {F : List Sg} {x n : Int} {k : Nat} (h : k < F.length) : totT F x n (k + 1) = totNx F x n k := by
  unfold totT totNx
  rw [if_neg (by omega), if_pos h]
  rfl
theorem totT_mono {F : List Sg} {x n : Int} (hF : Canon F) (hn : 0 ≤ n) {k : Nat} (h : k < F.length) : totT F x n k ≤ totNx F x n k := by
  unfold totT
  split
  · exact (totNx_le hn k).1
  · rename_i hk
    have hup : ats F (k - 1) < ats F k := by
      have := List.pairwise_iff_getElem.1 (CF.up hF) (k - 1) k (by omega) h (by omega)
      unfold ats
      rw [getD_get _ _ _ (by omega), getD_get _ _ _ h]; exact this
    unfold totNx mn mx
    rw [if_pos h]
    (repeat' split) <;> omega
theorem totT_at {F : List Sg} {x n : Int} {k : Nat} (hk : k ≠ 0) : totT F x n k = x + n ∨ ats F (k - 1) ≤ totT F x n k := by
  unfold totT mn mx
  rw [if_neg hk]
  (repeat' split) <;> omega
/-- Between two of these times the function stays. -/
theorem tot_same {F : List Sg} {x n : Int} (hF : Canon F) (hn : 0 ≤ n) {k : Nat} (hk : k ≤ F.length) {s : Int} (h1 : totT F x n k ≤ s) (h2 : s < totNx F x n k) : vat F s = vat F (totT F x n k) := by
  have hx := totT_le (F := F) (x := x) hn k
  refine (vat_same fun r hr => ⟨fun h => by omega, fun h => ?_⟩).symm
  obtain ⟨i, hi, rfl⟩ := List.getElem_of_mem hr
  have ei : ats F i = F[i].1 := by unfold ats; rw [getD_get _ _ _ hi]
  by_cases c : i < k
  · have hle : ats F i ≤ ats F (k - 1) := by
      by_cases q : i = k - 1
      · rw [q]; exact Int.le_refl _
      · have := List.pairwise_iff_getElem.1 (CF.up hF) i (k - 1) hi (by omega) (by omega)
        unfold ats
        rw [getD_get _ _ _ hi, getD_get _ _ _ (by omega)]; omega
    have hb := (totNx_le (F := F) (x := x) hn k).2
    have := totT_at (F := F) (x := x) (n := n) (k := k) (by omega)
    omega
  · exfalso
    have hkl : k < F.length := by omega
    have hle : ats F k ≤ ats F i := by
      by_cases q : i = k
      · rw [q]; exact Int.le_refl _
      · have := List.pairwise_iff_getElem.1 (CF.up hF) k i hkl hi (by omega)
        unfold ats
        rw [getD_get _ _ _ hi, getD_get _ _ _ hkl]; omega
    unfold totNx mn mx at h2
    rw [if_pos hkl] at h2
    have := totT_le (F := F) (x := x) hn k
    split at h2 <;> split at h2 <;> omega
/-- What the sum is so far. -/
def totSum (F : List Sg) (x n : Int) (k : Nat) : Int × Int := sumN F x (totT F x n k - x).toNat
theorem tot_go {F : List Sg} {x n : Int} (hF : Canon F) (hn : 0 ≤ n) {k : Nat} (hk : k ≤ F.length) {a b : Int} (ha : a = totT F x n k) (hb : b = totNx F x n k) (hab : a < b) :
    sumN F x (b - x).toNat = ((sumN F x (a - x).toNat).1 + (vat F a).1 * (b - a), (sumN F x (a - x).toNat).2 + (vat F a).2 * (b - a)) := by
  have h1 := totT_le (F := F) (x := x) hn k
  have e : (b - x).toNat = (a - x).toNat + (b - a).toNat := by omega
  rw [e, sumN_add, show x + ((a - x).toNat : Int) = a by omega]
  rw [sumN_const (v := vat F a) (b - a).toNat fun i hi => by rw [ha]; exact tot_same hF hn hk (by omega) (by omega)]
  rw [show (((b - a).toNat : Nat) : Int) = b - a by omega, Int.mul_comm (b - a), Int.mul_comm (b - a)]
theorem tot_bound {F : List Sg} (hF : Canon F) {x a : Int} (h : a - x ≤ 4096) (h0 : x ≤ a) : -4611686018427387904 ≤ (sumN F x (a - x).toNat).1 ∧ (sumN F x (a - x).toNat).1 ≤ 4611686018427387904 ∧ -4611686018427387904 ≤ (sumN F x (a - x).toNat).2 ∧ (sumN F x (a - x).toNat).2 ≤ 4611686018427387904 := by
  have := sumN_le (CF.ok hF) x (a - x).toNat
  omega
/-- Up to where the first k rounds have gone over. -/
def totK (F : List Sg) (x n : Int) (k : Nat) : Int := if k ≤ F.length then totT F x n k else x + n
theorem totK_zero (F : List Sg) (x n : Int) : totK F x n 0 = x := by unfold totK totT; simp
theorem totK_end (F : List Sg) (x n : Int) : totK F x n (F.length + 1) = x + n := by unfold totK; rw [if_neg (by omega)]
theorem totK_le {F : List Sg} {x n : Int} (hn : 0 ≤ n) (k : Nat) : x ≤ totK F x n k ∧ totK F x n k ≤ x + n := by
  unfold totK
  split
  · exact totT_le hn k
  · omega
theorem totK_step {F : List Sg} {x n : Int} {k : Nat} (h : k ≤ F.length) : totK F x n (k + 1) = totNx F x n k := by
  by_cases c : k < F.length
  · unfold totK
    rw [if_pos (by omega)]
    exact totT_step c
  · unfold totK totNx
    rw [if_neg (by omega), if_neg c]
theorem totK_mono {F : List Sg} {x n : Int} (hF : Canon F) (hn : 0 ≤ n) {k : Nat} (h : k ≤ F.length) : totK F x n k ≤ totNx F x n k := by
  by_cases c : k < F.length
  · unfold totK
    rw [if_pos h]
    exact totT_mono hF hn c
  · have := (totK_le (F := F) (x := x) hn k).2
    unfold totNx
    rw [if_neg c]; exact this
theorem totK_go {F : List Sg} {x n : Int} (hF : Canon F) (hn : 0 ≤ n) {k : Nat} (hk : k ≤ F.length) (hab : totK F x n k < totNx F x n k) :
    sumN F x (totNx F x n k - x).toNat = ((sumN F x (totK F x n k - x).toNat).1 + (vat F (totK F x n k)).1 * (totNx F x n k - totK F x n k), (sumN F x (totK F x n k - x).toNat).2 + (vat F (totK F x n k)).2 * (totNx F x n k - totK F x n k)) := by
  have e : totK F x n k = totT F x n k := by unfold totK; rw [if_pos hk]
  exact tot_go hF hn hk e rfl hab
end Go.Proofs.YthlepbbdjmmelaaGreat

namespace Go.Proofs.YthlepbbdjmmelaaGreat
open Go.ChangeShapes Go.WideShapes Go.ChangeAt Go.RowKit
attribute [local irreducible] Go.Calls

theorem wrap2 {p q : Int} (h1 : -4611686018427387904 ≤ q ∧ q ≤ 4611686018427387904) (h2 : -4611686018427387904 ≤ p + q ∧ p + q ≤ 4611686018427387904) : wrap64 (p + wrap64 q) = p + q := by
  have e1 : wrap64 q = q := IntWalk.wrap64_in _ (by omega)
  rw [e1]
  exact IntWalk.wrap64_in _ (by omega)
theorem mul_wide {m d : Int} (h : -1125899906842624 ≤ m ∧ m ≤ 1125899906842624) (hd : 0 ≤ d ∧ d ≤ 4096) : -4611686018427387904 ≤ m * d ∧ m * d ≤ 4611686018427387904 := by
  obtain ⟨e, rfl⟩ : ∃ e : Nat, d = e := ⟨d.toNat, by omega⟩
  have h1 : m * (e : Int) ≤ 1125899906842624 * (e : Int) := Int.mul_le_mul_of_nonneg_right h.2 (by omega)
  have h2 : -1125899906842624 * (e : Int) ≤ m * (e : Int) := Int.mul_le_mul_of_nonneg_right h.1 (by omega)
  omega
set_option maxRecDepth 100000 in
set_option maxHeartbeats 2000000 in
theorem tot13_c (F : List Sg) (x n : Int) (a : Option Addr) (cap : Nat) (w : World) (hF : Canon F) (hl : F.length ≤ 1000000) (hx : -2251799813685248 ≤ x ∧ x ≤ 2251799813685248) (hn : 0 ≤ n ∧ n ≤ 4096) (hA : ArgS w a F) :
    Calls Tryz.prog 48 #[.slice a F.length cap, .int .i64 x, .int .i64 n] w fun e w' => e = .returned (V (sumN F x n.toNat).1 (sumN F x n.toNat).2) ∧ Below w.heap.size w w' := by
  have HA := hidE hA; have HF := hidE hF
  clear hA hF
  go_enter Tryz.func48, Tryz.ntmps48
  go_wp2
  go_loopw [8, 9] (fun t i wr => ∃ k : Nat, ∃ p q : Int, k ≤ F.length + 1 ∧ i = .int .i64 k ∧ t = .int .i64 (totK F x n k) ∧ sumN F x (totK F x n k - x).toNat = (p, q) ∧ Below w.heap.size w wr ∧ Blk wr (w.heap.size + 1) #[.int .i64 p, .int .i64 q] 65 ∧ Blk wr w.heap.size #[.int .i64 0, .int .i64 0] 65) (fun _ i _ => F.length + 1 - (intOf i).toNat)
  case atStart => exact ⟨0, 0, 0, by omega, rfl, by rw [totK_zero], by rw [totK_zero]; simp [sumN], by (repeat (first | exact Below.refl _ _ | assumption | refine balloc ?_ _ | refine below_drewN ?_ _ | refine bstep (by assumption) ?_ | refine bstep (Past.prop _) ?_ | refine Below.setCell ?_ (by first | exact Nat.le_refl _ | (simp; done) | (simp; omega)) _)), Blk.made_at _ _ _ _ (by simp), (Blk.made _ _ _).alloc _⟩
  case round =>
    obtain ⟨k, p, q, hk, rfl, rfl, hs, hb, s1, s0⟩ := hrel
    have HS := hidE hs; clear hs
    have c10 := s1.cell 0; have c11 := s1.cell 1; have f1 := s1.free; have z1 := s1.lt
    simp at c10 c11
    by_cases hlt : k ≤ F.length
    · have HKL := hidE (totK_le (F := F) (x := x) hn.1 k)
      have HNL := hidE (totNx_le (F := F) (x := x) hn.1 k)
      have HST := hidE (totK_step (F := F) (x := x) (n := n) hlt)
      have HMO := hidE (totK_mono (F := F) (x := x) HF.out hn.1 hlt)
      have HGO := hidE (totK_go (F := F) (x := x) HF.out hn.1 hlt)
      by_cases hl2 : k < F.length
      · obtain ⟨b, off, rfl, hbz, hc⟩ := HA.out (by omega)
        have hbr : b < wr.heap.size := Nat.lt_of_lt_of_le hbz hb.size
        obtain ⟨e0, e1, e2⟩ := hc.get hl2
        rw [← hb.cell hbz] at e0 e1 e2
        go_upto_region 9 with fail
        first
          | (rw [show (if (if ats F k < x then x else ats F k) < x + n then (if ats F k < x then x else ats F k) else x + n) = totNx F x n k from by unfold totNx mn mx; rw [if_pos hl2]; (repeat' split) <;> omega]; generalize (if ats F k < x then x else ats F k) = mv)
          | (rw [show min (x + n) (max (ats F k) x) = totNx F x n k from by unfold totNx mn mx; rw [if_pos hl2]; (repeat' split) <;> omega]; generalize max (ats F k) x = mv)
        have hkl := HKL.out; have hnl := HNL.out
        generalize totNx F x n k = nx at *
        have hok := hidE (vat_ok (CF.ok HF.out) (totK F x n k))
        have HAT := hidE (fun w' (hb : Below w.heap.size w w') => rat_c F (some ⟨b, off, none⟩) cap (totK F x n k) w' (by omega) (HA.out.past hb))
        have hbd := hidE (tot_bound HF.out (x := x) (a := nx) (by omega) (by omega))
        generalize vat F (totK F x n k) = mc at *
        obtain ⟨m, c⟩ := mc
        simp only at HAT hok HGO
        have hm := okV_iff.1 hok.out
        by_cases hgt : totK F x n k < nx
        · have hd : decide (totK F x n k < nx) = true := decide_eq_true hgt
          have hg := HGO.out hgt
          rw [HS.out] at hg
          simp only at hg
          have hgb := hbd.out
          rw [hg] at hgb
          simp only at hgb
          have HG := hidE hg
          clear hg HGO hbd hok
          generalize totK F x n k = t at *
          have hwd : 0 ≤ nx - t ∧ nx - t ≤ 4096 := by omega
          have hp1 := mul_wide (m := m) (d := nx - t) ⟨hm.1, hm.2.1⟩ hwd
          have hp2 := mul_wide (m := c) (d := nx - t) ⟨hm.2.2.1, hm.2.2.2⟩ hwd
          generalize hq1 : m * (nx - t) = q1 at *
          generalize hq2 : c * (nx - t) = q2 at *
          have HQ1 := hidE hq1; have HQ2 := hidE hq2
          have HGB := hidE hgb
          clear hq1 hq2 hgb
          go_wp2_with fail
          ((with_reducible refine (HAT.out _ hb).mono ?_); rintro e w2 ⟨rfl, hb2⟩)
          have s1 := s1.past hb2; have s0 := s0.past hb2
          have hB2 : Below w.heap.size w w2 := bstep hb2 hb
          clear hb2 c10 c11 f1 z1
          have c10 := s1.cell 0; have c11 := s1.cell 1; have f1 := s1.free; have z1 := s1.lt
          simp at c10 c11
          go_wp2
          exact ⟨⟨k + 1, _, _, by omega, by go_num, by rw [HST.out], by rw [HST.out, HG.out, HQ1.out, HQ2.out]; exact Prod.ext (wrap2 hp1 ⟨HGB.out.1, HGB.out.2.1⟩).symm (wrap2 hp2 ⟨HGB.out.2.2.1, HGB.out.2.2.2⟩).symm, (((hB2.setCell (Nat.le_succ _) _).setCell (Nat.le_succ _) _).alloc (by simp; have := hB2.size; omega) _), ((s1.set 0 _).set 1 _).alloc _, ((s0.other (by omega) _).other (by omega) _).alloc _⟩, by simp [intOf]; omega⟩
        · have hd : decide (totK F x n k < nx) = false := decide_eq_false hgt
          have hen : nx = totK F x n k := by have := HMO.out; omega
          clear HGO hbd hok hgt
          go_wp2
          exact ⟨⟨k + 1, p, q, by omega, by go_num, by rw [HST.out, hen], by rw [HST.out, hen]; exact HS.out, hb, s1, s0⟩, by simp [intOf]; omega⟩
      · go_upto_region 9 with fail
        rw [show x + n = totNx F x n k from by unfold totNx; rw [if_neg hl2]]
        have hkl := HKL.out; have hnl := HNL.out
        generalize totNx F x n k = nx at *
        have hok := hidE (vat_ok (CF.ok HF.out) (totK F x n k))
        have HAT := hidE (fun w' (hb : Below w.heap.size w w') => rat_c F a cap (totK F x n k) w' (by omega) (HA.out.past hb))
        have hbd := hidE (tot_bound HF.out (x := x) (a := nx) (by omega) (by omega))
        generalize vat F (totK F x n k) = mc at *
        obtain ⟨m, c⟩ := mc
        simp only at HAT hok HGO
        have hm := okV_iff.1 hok.out
        by_cases hgt : totK F x n k < nx
        · have hd : decide (totK F x n k < nx) = true := decide_eq_true hgt
          have hg := HGO.out hgt
          rw [HS.out] at hg
          simp only at hg
          have hgb := hbd.out
          rw [hg] at hgb
          simp only at hgb
          have HG := hidE hg
          clear hg HGO hbd hok
          generalize totK F x n k = t at *
          have hwd : 0 ≤ nx - t ∧ nx - t ≤ 4096 := by omega
          have hp1 := mul_wide (m := m) (d := nx - t) ⟨hm.1, hm.2.1⟩ hwd
          have hp2 := mul_wide (m := c) (d := nx - t) ⟨hm.2.2.1, hm.2.2.2⟩ hwd
          generalize hq1 : m * (nx - t) = q1 at *
          generalize hq2 : c * (nx - t) = q2 at *
          have HQ1 := hidE hq1; have HQ2 := hidE hq2
          have HGB := hidE hgb
          clear hq1 hq2 hgb
          go_wp2_with fail
          ((with_reducible refine (HAT.out _ hb).mono ?_); rintro e w2 ⟨rfl, hb2⟩)
          have s1 := s1.past hb2; have s0 := s0.past hb2
          have hB2 : Below w.heap.size w w2 := bstep hb2 hb
          clear hb2 c10 c11 f1 z1
          have c10 := s1.cell 0; have c11 := s1.cell 1; have f1 := s1.free; have z1 := s1.lt
          simp at c10 c11
          go_wp2
          exact ⟨⟨k + 1, _, _, by omega, by go_num, by rw [HST.out], by rw [HST.out, HG.out, HQ1.out, HQ2.out]; exact Prod.ext (wrap2 hp1 ⟨HGB.out.1, HGB.out.2.1⟩).symm (wrap2 hp2 ⟨HGB.out.2.2.1, HGB.out.2.2.2⟩).symm, (((hB2.setCell (Nat.le_succ _) _).setCell (Nat.le_succ _) _).alloc (by simp; have := hB2.size; omega) _), ((s1.set 0 _).set 1 _).alloc _, ((s0.other (by omega) _).other (by omega) _).alloc _⟩, by simp [intOf]; omega⟩
        · have hd : decide (totK F x n k < nx) = false := decide_eq_false hgt
          have hen : nx = totK F x n k := by have := HMO.out; omega
          clear HGO hbd hok hgt
          go_wp2
          exact ⟨⟨k + 1, p, q, by omega, by go_num, by rw [HST.out, hen], by rw [HST.out, hen]; exact HS.out, hb, s1, s0⟩, by simp [intOf]; omega⟩
    · have hkl : k = F.length + 1 := by omega
      have c00 := s0.cell 0; have c01 := s0.cell 1; have f0 := s0.free; have z0 := s0.lt
      simp at c00 c01
      have hd : decide (k ≤ F.length) = false := decide_eq_false (by omega)
      have HKL := hidE hkl
      clear hkl hlt
      go_wp2
      have e := HS.out
      rw [HKL.out, totK_end, show x + n - x = n by omega] at e
      refine bodyPost_ret (v := V p q) (by simp [results, Tryz.results48, go_sem, *]) rfl ⟨by rw [e], ?_⟩
      (repeat (first | exact Below.refl _ _ | assumption | refine balloc ?_ _ | refine below_drewN ?_ _ | refine bstep (by assumption) ?_ | refine bstep (Past.prop _) ?_ | refine Below.setCell ?_ (by first | exact Nat.le_refl _ | (simp; done) | (simp; omega)) _))
theorem tot_s {w : World} {m c1 : Nat} {a1 : Option Addr} {F : List Sg} (x n : Int) (h1 : SliS w (.slice a1 m c1) F) (hF : mayB F = true) (hl : m ≤ 1000000) (hx : -2251799813685248 ≤ x ∧ x ≤ 2251799813685248) (hn : 0 ≤ n ∧ n ≤ 4096) :
    Calls Tryz.prog 48 #[.slice a1 m c1, .int .i64 x, .int .i64 n] w fun e w' => e = .returned (V (sumN F x n.toNat).1 (sumN F x n.toNat).2) ∧ Below w.heap.size w w' := by
  obtain ⟨e1, q1, q2, q3⟩ := h1.len
  subst e1
  exact tot13_c F x n a1 c1 w (mayB_iff.1 hF) hl hx hn q3
theorem rle_eq13 {a b c d : Int} {r : Bool} {w : World} (h : leB a b c d = r) : Calls Tryz.prog 46 #[V a b, V c d] w fun e w' => e = .returned (.bool r) ∧ Below w.heap.size w w' := h ▸ rle a b c d w
end Go.Proofs.YthlepbbdjmmelaaGreat

namespace Go.Proofs.YthlepbbdjmmelaaGreat
open Go.ChangeShapes Go.WideShapes Go.ChangeAt Go.RowKit
attribute [local irreducible] Go.Calls

set_option maxRecDepth 100000 in
set_option maxHeartbeats 8000000 in
theorem pofst1 {F G H : List Sg} (k a b n p q : Int) (a1 a2 a3 : Option Addr) (n1 c1 n2 c2 n3 c3 : Nat) (w : World) (hk : 0 ≤ k ∧ k ≤ 255) (h64 : (-9223372036854775808 ≤ a ∧ a ≤ 9223372036854775807) ∧ (-9223372036854775808 ≤ b ∧ b ≤ 9223372036854775807) ∧ (-9223372036854775808 ≤ n ∧ n ≤ 9223372036854775807)) (hq : q ≤ 0) (S1 : SliS w (.slice a1 n1 c1) F) (S2 : SliS w (.slice a2 n2 c2) G) (S3 : SliS w (.slice a3 n3 c3) H) (l1 : n1 ≤ 30) (l2 : n2 ≤ 30) (l3 : n3 ≤ 30) :
    Calls Tryz.prog 10 #[.agg #[.int .u8 k, .int .i64 a, .int .i64 b, .int .i64 n], .agg #[.int .i64 p, .int .i64 q], .agg #[.slice a1 n1 c1, .slice a2 n2 c2, .slice a3 n3 c3]] w fun e w' => e = .returned (.bool true) ∧ Below w.heap.size w w' := by
  have HS1 := hidE S1; have HS2 := hidE S2; have HS3 := hidE S3
  clear S1 S2 S3
  obtain ⟨w0, hw0⟩ : ∃ w0, w0 = ((w.alloc (Obj.cells #[.int .u8 k, .int .i64 a, .int .i64 b, .int .i64 n] 84)).alloc (Obj.cells #[.int .i64 p, .int .i64 q] 101)).alloc (Obj.cells #[.slice a1 n1 c1, .slice a2 n2 c2, .slice a3 n3 c3] 85) := ⟨_, rfl⟩
  have B1 : Blk w0 w.heap.size #[.int .u8 k, .int .i64 a, .int .i64 b, .int .i64 n] 84 := by rw [hw0]; exact ((Blk.made _ _ _).alloc _).alloc _
  have B2 : Blk w0 (w.heap.size + 1) #[.int .i64 p, .int .i64 q] 101 := by rw [hw0]; exact (Blk.made_at _ _ _ _ (by simp)).alloc _
  have B3 : Blk w0 (w.heap.size + 1 + 1) #[.slice a1 n1 c1, .slice a2 n2 c2, .slice a3 n3 c3] 85 := by rw [hw0]; exact Blk.made_at _ _ _ _ (by simp)
  have hb0 : Below w.heap.size w w0 := by rw [hw0]; (repeat (first | exact Below.refl _ _ | assumption | refine balloc ?_ _ | refine below_drewN ?_ _ | refine bstep (by assumption) ?_ | refine bstep (Past.prop _) ?_ | refine Below.setCell ?_ (by first | exact Nat.le_refl _ | (simp; done) | (simp; omega)) _))
  have HLL := hidE (show nowB p = true → p ≤ p ∧ p ≤ p + 1000 from fun hn => by have := nowB_iff.1 hn; omega)
  obtain ⟨L, hL⟩ : ∃ L, L = p := ⟨_, rfl⟩
  have HLL := hidE (show nowB p = true → p ≤ L ∧ L ≤ p + 1000 from hL ▸ HLL.out)
  obtain ⟨⟨t, qb, er⟩, hr⟩ : ∃ r, chkP (k, (a, b), n) p F G H = r := ⟨_, rfl⟩
  obtain ⟨⟨t2, qb2, er2⟩, hr2⟩ : ∃ r, chkP (k, (a, b), n) L F G H = r := ⟨_, rfl⟩
  have HK := hidE (pol_first hr hr2 HLL.out)
  have HR := hidE hr; have HR2 := hidE hr2
  clear hr hr2 HLL
  have q1 : decide ((30 : Int) < (n1 : Int)) = false := decide_eq_false (by omega)
  have q2 : decide ((30 : Int) < (n2 : Int)) = false := decide_eq_false (by omega)
  have q3 : decide ((30 : Int) < (n3 : Int)) = false := decide_eq_false (by omega)
  have r0 : decide (0 < q) = false := decide_eq_false (by omega)
  have HN := hidE hq
  clear hq
  go_enter Tryz.func10, Tryz.ntmps10
  go_upto_region 1 with fail
  rw [← hw0]
  clear hw0
  have b0 := B1.cell 0; have b1 := B1.cell 1; have b2 := B1.cell 2; have b3 := B1.cell 3; have bz := B1.lt; have g0 := B2.cell 0; have g1 := B2.cell 1; have gz := B2.lt; have d0 := B3.cell 0; have d1 := B3.cell 1; have d2 := B3.cell 2; have dz := B3.lt
  simp at b0 b1 b2 b3 g0 g1 d0 d1 d2
  go_wp2_with fail
  ((with_reducible refine (pchk_eq (F := F) (G := G) (H := H) hk (HS1.out.past hb0) (HS2.out.past hb0) (HS3.out.past hb0) (by omega) (by omega) (by omega) HR.out).mono ?_); rintro e w1 ⟨rfl, hb1⟩)
  have B1 := B1.past hb1; have B2 := B2.past hb1; have B3 := B3.past hb1
  have hB : Below w.heap.size w w1 := bstep hb1 hb0
  clear b0 b1 b2 b3 bz g0 g1 gz d0 d1 d2 dz hb1 hb0
  have b0 := B1.cell 0; have b1 := B1.cell 1; have b2 := B1.cell 2; have b3 := B1.cell 3; have bz := B1.lt; have g0 := B2.cell 0; have g1 := B2.cell 1; have gz := B2.lt; have d0 := B3.cell 0; have d1 := B3.cell 1; have d2 := B3.cell 2; have dz := B3.lt
  simp at b0 b1 b2 b3 g0 g1 d0 d1 d2
  go_upto_region 7 with fail
  rw [← hL]
  have HLE := hidE hL
  clear hL r0
  go_wp2_with fail
  ((with_reducible refine (pchk_eq (F := F) (G := G) (H := H) hk (HS1.out.past hB) (HS2.out.past hB) (HS3.out.past hB) (by omega) (by omega) (by omega) HR2.out).mono ?_); rintro e w2 ⟨rfl, hb2⟩)
  have B1 := B1.past hb2; have B2 := B2.past hb2; have B3 := B3.past hb2
  have hB : Below w.heap.size w w2 := bstep hb2 hB
  clear b0 b1 b2 b3 bz g0 g1 gz d0 d1 d2 dz hb2
  have b0 := B1.cell 0; have b1 := B1.cell 1; have b2 := B1.cell 2; have b3 := B1.cell 3; have bz := B1.lt; have g0 := B2.cell 0; have g1 := B2.cell 1; have gz := B2.lt; have d0 := B3.cell 0; have d1 := B3.cell 1; have d2 := B3.cell 2; have dz := B3.lt
  simp at b0 b1 b2 b3 g0 g1 d0 d1 d2
  rcases HK.out with ⟨he, hqb, ht⟩ | ⟨he, he2, hl⟩ | ⟨he, he2, hqb, hqb2, ht⟩ | ⟨he, he2, hqb, hpt, hlt, hc3, hbd, hpo, hp0, hF, hG, hH, hbad⟩
  · subst hqb; subst ht
    clear HK HR HR2
    rcases he with he | he
    all_goals
      subst he
      go_wp2_with (go_at_call 37; ((with_reducible refine (pohead_c _).mono ?_); rintro e w9 ⟨rfl, hb9⟩))
      go_ret
      exact ⟨rfl, by (repeat (first | exact Below.refl _ _ | assumption | refine balloc ?_ _ | refine below_drewN ?_ _ | refine bstep (by assumption) ?_ | refine bstep (Past.prop _) ?_ | refine Below.setCell ?_ (by first | exact Nat.le_refl _ | (simp; done) | (simp; omega)) _))⟩
  · subst he; subst he2
    clear HK HR HR2
    have hd : decide (1099511627776 < L) = true := decide_eq_true hl
    clear hl
    go_wp2_with (go_at_call 37; ((with_reducible refine (pohead_c _).mono ?_); rintro e w9 ⟨rfl, hb9⟩))
    go_ret
    exact ⟨rfl, by (repeat (first | exact Below.refl _ _ | assumption | refine balloc ?_ _ | refine below_drewN ?_ _ | refine bstep (by assumption) ?_ | refine bstep (Past.prop _) ?_ | refine Below.setCell ?_ (by first | exact Nat.le_refl _ | (simp; done) | (simp; omega)) _))⟩
  · subst he; subst he2; subst hqb; subst hqb2; subst ht
    clear HK HR HR2
    go_wp2_with (go_at_call 37; ((with_reducible refine (pohead_c _).mono ?_); rintro e w9 ⟨rfl, hb9⟩))
    go_ret
    exact ⟨rfl, by (repeat (first | exact Below.refl _ _ | assumption | refine balloc ?_ _ | refine below_drewN ?_ _ | refine bstep (by assumption) ?_ | refine bstep (Past.prop _) ?_ | refine Below.setCell ?_ (by first | exact Nat.le_refl _ | (simp; done) | (simp; omega)) _))⟩
  subst he; subst he2; subst hqb
  clear HK HR HR2
  have HC3 := hidE hc3; have HLT := hidE hlt; have HPT := hidE hpt; have HBAD := hidE hbad; have HBD := hidE hbd; have HP := hidE hpo; have HP0 := hidE hp0; have HCF := hidE hF; have HCG := hidE hG; have HCH := hidE hH
  clear hc3 hlt hpt hbad hbd hpo hp0 hF hG hH
  obtain ⟨⟨t3, qb3, er3⟩, hr3⟩ : ∃ r, chkP (k, (a, b), n) t F G H = r := ⟨_, rfl⟩
  have HR3 := hidE hr3
  clear hr3
  go_wp2_with fail
  ((with_reducible refine (pchk_eq (F := F) (G := G) (H := H) hk (HS1.out.past hB) (HS2.out.past hB) (HS3.out.past hB) (by omega) (by omega) (by omega) HR3.out).mono ?_); rintro e w3 ⟨rfl, hb3⟩)
  have B1 := B1.past hb3; have B2 := B2.past hb3; have B3 := B3.past hb3
  have hB : Below w.heap.size w w3 := bstep hb3 hB
  clear b0 b1 b2 b3 bz g0 g1 gz d0 d1 d2 dz hb3
  have b0 := B1.cell 0; have b1 := B1.cell 1; have b2 := B1.cell 2; have b3 := B1.cell 3; have bz := B1.lt; have g0 := B2.cell 0; have g1 := B2.cell 1; have gz := B2.lt; have d0 := B3.cell 0; have d1 := B3.cell 1; have d2 := B3.cell 2; have dz := B3.lt
  simp at b0 b1 b2 b3 g0 g1 d0 d1 d2
  go_upto_region 15 with fail
  go_cut [130] (fun s wx => s = .bool false ∧ Blk wx w.heap.size #[.int .u8 k, .int .i64 a, .int .i64 b, .int .i64 n] 84 ∧ Blk wx (w.heap.size + 1) #[.int .i64 p, .int .i64 q] 101 ∧ Blk wx (w.heap.size + 1 + 1) #[.slice a1 n1 c1, .slice a2 n2 c2, .slice a3 n3 c3] 85 ∧ Below w.heap.size w wx)
  case first =>
    have e1 : decide (t < p) = false := decide_eq_false (by have := HPT.out; omega)
    by_cases hle : t ≤ 1099511627776
    · have hh := HR3.out
      rw [HC3.out hle] at hh
      simp only [Prod.mk.injEq] at hh
      obtain ⟨rfl, rfl, rfl⟩ := hh
      clear HR3
      have e2 : decide (t ≤ 1099511627776) = true := decide_eq_true hle
      by_cases hlt : L ≤ t
      · have e4 := HLT.out hlt
        subst e4
        have e3 : decide (L ≤ t) = true := decide_eq_true hlt
        clear hlt hle
        go_wp2_with fail
        go_meet
        case rel => exact ⟨rfl, B1, B2, B3, hB⟩
      · have e3 : decide (L ≤ t) = false := decide_eq_false hlt
        clear hlt hle
        go_wp2_with fail
        go_meet
        case rel => exact ⟨rfl, B1, B2, B3, hB⟩
    · have e2 : decide (t ≤ 1099511627776) = false := decide_eq_false hle
      by_cases hlt : L ≤ t
      · have e4 := HLT.out hlt
        subst e4
        have e3 : decide (L ≤ t) = true := decide_eq_true hlt
        clear hlt hle
        go_wp2_with fail
        go_meet
        case rel => exact ⟨rfl, B1, B2, B3, hB⟩
      · have e3 : decide (L ≤ t) = false := decide_eq_false hlt
        clear hlt hle
        go_wp2_with fail
        go_meet
        case rel => exact ⟨rfl, B1, B2, B3, hB⟩
  clear b0 b1 b2 b3 bz g0 g1 gz d0 d1 d2 dz B1 B2 B3 hB
  obtain ⟨rfl, B1, B2, B3, hB⟩ := hcut
  have b0 := B1.cell 0; have b1 := B1.cell 1; have b2 := B1.cell 2; have b3 := B1.cell 3; have bz := B1.lt; have g0 := B2.cell 0; have g1 := B2.cell 1; have gz := B2.lt; have d0 := B3.cell 0; have d1 := B3.cell 1; have d2 := B3.cell 2; have dz := B3.lt
  simp at b0 b1 b2 b3 g0 g1 d0 d1 d2
  have HB := hidE hB
  have hkk := pol_kind HP.out
  simp only at hkk
  rcases hkk with ⟨rfl, hz⟩ | ⟨rfl, hc, hz⟩ | ⟨rfl, hc, hn1, hn2⟩
  · clear hz
    have hle : leB (vat F t).1 (vat F t).2 (vat G t).1 (vat G t).2 = false := by have := HBAD.out; unfold badP leBad at this; simpa using this
    have HLEB := hidE hle
    clear hle HBAD HBD
    go_upto_region 18 with fail
    refine wp_region_past_lit (by kernel_rfl) (by kernel_rfl) ?_
    have hc := Past.cell (W := wc)
    repeat (go_big_quiet_step ((first | (go_at_call 30; exact Past.call _ (rat_s (F := F) (HS1.out.past (HB.out.trans ((Past.prop _).mono HB.out.size))) (by omega) rfl)) | (go_at_call 30; exact Past.call _ (rat_s (F := G) (HS2.out.past (HB.out.trans ((Past.prop _).mono HB.out.size))) (by omega) rfl)) | (go_at_call 46; exact Past.call _ (rle_eq13 HLEB.out)) | (go_at_call 37; exact Past.call _ (pohead_c _)))))
    refine wpQuiet_nil ?_
    rintro _ ⟨x, rfl⟩
    go_wp2
    go_ret
    exact ⟨rfl, HB.out.trans (x.2.mono HB.out.size)⟩
  · clear hz
    have hle : leB (vat H t).1 (vat H t).2 a b = false := by have := HBAD.out; unfold badP at this; simpa using this
    have HLEB := hidE hle
    clear hle HBAD HBD hc
    go_upto_region 20 with fail
    refine wp_region_past_lit (by kernel_rfl) (by kernel_rfl) ?_
    have hc := Past.cell (W := wc)
    repeat (go_big_quiet_step ((first | (go_at_call 30; exact Past.call _ (rat_s (F := H) (HS3.out.past (HB.out.trans ((Past.prop _).mono HB.out.size))) (by omega) rfl)) | (go_at_call 46; exact Past.call _ (rle_eq13 HLEB.out)) | (go_at_call 37; exact Past.call _ (pohead_c _)))))
    refine wpQuiet_nil ?_
    rintro _ ⟨x, rfl⟩
    go_wp2
    go_ret
    exact ⟨rfl, HB.out.trans (x.2.mono HB.out.size)⟩
  · have hov : overB H n.toNat (wide (a, b) n) t = true := by have := HBAD.out; unfold badP at this; simpa using this
    have hs := scl_wide hc hn1 hn2
    obtain ⟨m1, m2, hw⟩ : ∃ m1 m2, wide (a, b) n = (m1, m2) := ⟨_, _, rfl⟩
    rw [hw] at hs hov
    simp only at hs
    have HSC := hidE (fun w' => hs ▸ rscl a b n w' h64.1 h64.2.1 h64.2.2)
    have hle : leB (sumN H t n.toNat).1 (sumN H t n.toNat).2 m1 m2 = false := by unfold overB at hov; simpa using hov
    have HLEB := hidE hle
    have hbt := HBD.out rfl
    have HTT := hidE (fun w' (hb : Below w.heap.size w w') => tot_s t n (HS3.out.past hb) HCH.out (by omega) (by have := HP0.out; have := HPT.out; omega) (by omega))
    clear hle hov hs hw hc HBAD HBD hbt hn1 hn2
    go_upto_region 21 with fail
    go_wp2_with fail
    ((with_reducible refine (HSC.out _).mono ?_); rintro e w5 ⟨rfl, hb5⟩)
    obtain ⟨w6, hw6⟩ : ∃ w6, w6 = w5.alloc (Obj.cells #[.int .i64 m1, .int .i64 m2] 65) := ⟨_, rfl⟩
    have B4 : Blk w6 w5.heap.size #[.int .i64 m1, .int .i64 m2] 65 := by rw [hw6]; exact Blk.made _ _ _
    have B1 := (B1.past hb5).alloc (Obj.cells #[.int .i64 m1, .int .i64 m2] 65); have B3 := (B3.past hb5).alloc (Obj.cells #[.int .i64 m1, .int .i64 m2] 65)
    rw [← hw6] at B1 B3
    have hB : Below w.heap.size w w6 := by rw [hw6]; exact (bstep hb5 HB.out).alloc (bstep hb5 HB.out).size _
    clear b0 b1 b2 b3 bz g0 g1 gz d0 d1 d2 dz hb5
    have b0 := B1.cell 0; have b1 := B1.cell 1; have b2 := B1.cell 2; have b3 := B1.cell 3; have bz := B1.lt; have d0 := B3.cell 0; have d1 := B3.cell 1; have d2 := B3.cell 2; have dz := B3.lt
    have h0 := B4.cell 0; have h1 := B4.cell 1; have hz := B4.lt
    simp at b0 b1 b2 b3 d0 d1 d2 h0 h1
    go_upto_region 22 with fail
    rw [← hw6]
    clear hw6
    have HB := hidE hB
    refine wp_region_past_lit (by kernel_rfl) (by kernel_rfl) ?_
    have hc := Past.cell (W := w6)
    repeat (go_big_quiet_step ((first | (go_at_call 48; exact Past.call _ (HTT.out _ (HB.out.trans ((Past.prop _).mono HB.out.size)))) | (go_at_call 46; exact Past.call _ (rle_eq13 HLEB.out)) | (go_at_call 37; exact Past.call _ (pohead_c _)))))
    refine wpQuiet_nil ?_
    rintro _ ⟨x, rfl⟩
    go_wp2
    go_ret
    exact ⟨rfl, HB.out.trans (x.2.mono HB.out.size)⟩
end Go.Proofs.YthlepbbdjmmelaaGreat

namespace Go.Proofs.YthlepbbdjmmelaaGreat
open Go.ChangeShapes Go.WideShapes Go.ChangeAt Go.RowKit
attribute [local irreducible] Go.Calls

set_option maxRecDepth 100000 in
set_option maxHeartbeats 8000000 in
theorem pofst2 {F G H : List Sg} (k a b n p q : Int) (a1 a2 a3 : Option Addr) (n1 c1 n2 c2 n3 c3 : Nat) (w : World) (hk : 0 ≤ k ∧ k ≤ 255) (h64 : (-9223372036854775808 ≤ a ∧ a ≤ 9223372036854775807) ∧ (-9223372036854775808 ≤ b ∧ b ≤ 9223372036854775807) ∧ (-9223372036854775808 ≤ n ∧ n ≤ 9223372036854775807)) (hq : 0 < q ∧ q ≤ 1000) (S1 : SliS w (.slice a1 n1 c1) F) (S2 : SliS w (.slice a2 n2 c2) G) (S3 : SliS w (.slice a3 n3 c3) H) (l1 : n1 ≤ 30) (l2 : n2 ≤ 30) (l3 : n3 ≤ 30) :
    Calls Tryz.prog 10 #[.agg #[.int .u8 k, .int .i64 a, .int .i64 b, .int .i64 n], .agg #[.int .i64 p, .int .i64 q], .agg #[.slice a1 n1 c1, .slice a2 n2 c2, .slice a3 n3 c3]] w fun e w' => e = .returned (.bool true) ∧ Below w.heap.size w w' := by
  have HS1 := hidE S1; have HS2 := hidE S2; have HS3 := hidE S3
  clear S1 S2 S3
  obtain ⟨w0, hw0⟩ : ∃ w0, w0 = ((w.alloc (Obj.cells #[.int .u8 k, .int .i64 a, .int .i64 b, .int .i64 n] 84)).alloc (Obj.cells #[.int .i64 p, .int .i64 q] 101)).alloc (Obj.cells #[.slice a1 n1 c1, .slice a2 n2 c2, .slice a3 n3 c3] 85) := ⟨_, rfl⟩
  have B1 : Blk w0 w.heap.size #[.int .u8 k, .int .i64 a, .int .i64 b, .int .i64 n] 84 := by rw [hw0]; exact ((Blk.made _ _ _).alloc _).alloc _
  have B2 : Blk w0 (w.heap.size + 1) #[.int .i64 p, .int .i64 q] 101 := by rw [hw0]; exact (Blk.made_at _ _ _ _ (by simp)).alloc _
  have B3 : Blk w0 (w.heap.size + 1 + 1) #[.slice a1 n1 c1, .slice a2 n2 c2, .slice a3 n3 c3] 85 := by rw [hw0]; exact Blk.made_at _ _ _ _ (by simp)
  have hb0 : Below w.heap.size w w0 := by rw [hw0]; (repeat (first | exact Below.refl _ _ | assumption | refine balloc ?_ _ | refine below_drewN ?_ _ | refine bstep (by assumption) ?_ | refine bstep (Past.prop _) ?_ | refine Below.setCell ?_ (by first | exact Nat.le_refl _ | (simp; done) | (simp; omega)) _))
  have HLL := hidE (show nowB p = true → p ≤ wrap64 (p + q) ∧ wrap64 (p + q) ≤ p + 1000 from fun hn => by have := nowB_iff.1 hn; rw [IntWalk.wrap64_in _ (by omega)]; omega)
  obtain ⟨L, hL⟩ : ∃ L, L = wrap64 (p + q) := ⟨_, rfl⟩
  have HLL := hidE (show nowB p = true → p ≤ L ∧ L ≤ p + 1000 from hL ▸ HLL.out)
  obtain ⟨⟨t, qb, er⟩, hr⟩ : ∃ r, chkP (k, (a, b), n) p F G H = r := ⟨_, rfl⟩
  obtain ⟨⟨t2, qb2, er2⟩, hr2⟩ : ∃ r, chkP (k, (a, b), n) L F G H = r := ⟨_, rfl⟩
  have HK := hidE (pol_first hr hr2 HLL.out)
  have HR := hidE hr; have HR2 := hidE hr2
  clear hr hr2 HLL
  have q1 : decide ((30 : Int) < (n1 : Int)) = false := decide_eq_false (by omega)
  have q2 : decide ((30 : Int) < (n2 : Int)) = false := decide_eq_false (by omega)
  have q3 : decide ((30 : Int) < (n3 : Int)) = false := decide_eq_false (by omega)
  have r0 : decide (0 < q) = true := decide_eq_true (by omega)
  have r1 : decide (q ≤ 1000) = true := decide_eq_true (by omega)
  have HN := hidE hq
  clear hq
  go_enter Tryz.func10, Tryz.ntmps10
  go_upto_region 1 with fail
  rw [← hw0]
  clear hw0
  have b0 := B1.cell 0; have b1 := B1.cell 1; have b2 := B1.cell 2; have b3 := B1.cell 3; have bz := B1.lt; have g0 := B2.cell 0; have g1 := B2.cell 1; have gz := B2.lt; have d0 := B3.cell 0; have d1 := B3.cell 1; have d2 := B3.cell 2; have dz := B3.lt
  simp at b0 b1 b2 b3 g0 g1 d0 d1 d2
  go_wp2_with fail
  ((with_reducible refine (pchk_eq (F := F) (G := G) (H := H) hk (HS1.out.past hb0) (HS2.out.past hb0) (HS3.out.past hb0) (by omega) (by omega) (by omega) HR.out).mono ?_); rintro e w1 ⟨rfl, hb1⟩)
  have B1 := B1.past hb1; have B2 := B2.past hb1; have B3 := B3.past hb1
  have hB : Below w.heap.size w w1 := bstep hb1 hb0
  clear b0 b1 b2 b3 bz g0 g1 gz d0 d1 d2 dz hb1 hb0
  have b0 := B1.cell 0; have b1 := B1.cell 1; have b2 := B1.cell 2; have b3 := B1.cell 3; have bz := B1.lt; have g0 := B2.cell 0; have g1 := B2.cell 1; have gz := B2.lt; have d0 := B3.cell 0; have d1 := B3.cell 1; have d2 := B3.cell 2; have dz := B3.lt
  simp at b0 b1 b2 b3 g0 g1 d0 d1 d2
  go_upto_region 7 with fail
  rw [← hL]
  have HLE := hidE hL
  clear hL r0 r1
  go_wp2_with fail
  ((with_reducible refine (pchk_eq (F := F) (G := G) (H := H) hk (HS1.out.past hB) (HS2.out.past hB) (HS3.out.past hB) (by omega) (by omega) (by omega) HR2.out).mono ?_); rintro e w2 ⟨rfl, hb2⟩)
  have B1 := B1.past hb2; have B2 := B2.past hb2; have B3 := B3.past hb2
  have hB : Below w.heap.size w w2 := bstep hb2 hB
  clear b0 b1 b2 b3 bz g0 g1 gz d0 d1 d2 dz hb2
  have b0 := B1.cell 0; have b1 := B1.cell 1; have b2 := B1.cell 2; have b3 := B1.cell 3; have bz := B1.lt; have g0 := B2.cell 0; have g1 := B2.cell 1; have gz := B2.lt; have d0 := B3.cell 0; have d1 := B3.cell 1; have d2 := B3.cell 2; have dz := B3.lt
  simp at b0 b1 b2 b3 g0 g1 d0 d1 d2
  rcases HK.out with ⟨he, hqb, ht⟩ | ⟨he, he2, hl⟩ | ⟨he, he2, hqb, hqb2, ht⟩ | ⟨he, he2, hqb, hpt, hlt, hc3, hbd, hpo, hp0, hF, hG, hH, hbad⟩
  · subst hqb; subst ht
    clear HK HR HR2
    rcases he with he | he
    all_goals
      subst he
      go_wp2_with (go_at_call 37; ((with_reducible refine (pohead_c _).mono ?_); rintro e w9 ⟨rfl, hb9⟩))
      go_ret
      exact ⟨rfl, by (repeat (first | exact Below.refl _ _ | assumption | refine balloc ?_ _ | refine below_drewN ?_ _ | refine bstep (by assumption) ?_ | refine bstep (Past.prop _) ?_ | refine Below.setCell ?_ (by first | exact Nat.le_refl _ | (simp; done) | (simp; omega)) _))⟩
  · subst he; subst he2
    clear HK HR HR2
    have hd : decide (1099511627776 < L) = true := decide_eq_true hl
    clear hl
    go_wp2_with (go_at_call 37; ((with_reducible refine (pohead_c _).mono ?_); rintro e w9 ⟨rfl, hb9⟩))
    go_ret
    exact ⟨rfl, by (repeat (first | exact Below.refl _ _ | assumption | refine balloc ?_ _ | refine below_drewN ?_ _ | refine bstep (by assumption) ?_ | refine bstep (Past.prop _) ?_ | refine Below.setCell ?_ (by first | exact Nat.le_refl _ | (simp; done) | (simp; omega)) _))⟩
  · subst he; subst he2; subst hqb; subst hqb2; subst ht
    clear HK HR HR2
    go_wp2_with (go_at_call 37; ((with_reducible refine (pohead_c _).mono ?_); rintro e w9 ⟨rfl, hb9⟩))
    go_ret
    exact ⟨rfl, by (repeat (first | exact Below.refl _ _ | assumption | refine balloc ?_ _ | refine below_drewN ?_ _ | refine bstep (by assumption) ?_ | refine bstep (Past.prop _) ?_ | refine Below.setCell ?_ (by first | exact Nat.le_refl _ | (simp; done) | (simp; omega)) _))⟩
  subst he; subst he2; subst hqb
  clear HK HR HR2
  have HC3 := hidE hc3; have HLT := hidE hlt; have HPT := hidE hpt; have HBAD := hidE hbad; have HBD := hidE hbd; have HP := hidE hpo; have HP0 := hidE hp0; have HCF := hidE hF; have HCG := hidE hG; have HCH := hidE hH
  clear hc3 hlt hpt hbad hbd hpo hp0 hF hG hH
  obtain ⟨⟨t3, qb3, er3⟩, hr3⟩ : ∃ r, chkP (k, (a, b), n) t F G H = r := ⟨_, rfl⟩
  have HR3 := hidE hr3
  clear hr3
  go_wp2_with fail
  ((with_reducible refine (pchk_eq (F := F) (G := G) (H := H) hk (HS1.out.past hB) (HS2.out.past hB) (HS3.out.past hB) (by omega) (by omega) (by omega) HR3.out).mono ?_); rintro e w3 ⟨rfl, hb3⟩)
  have B1 := B1.past hb3; have B2 := B2.past hb3; have B3 := B3.past hb3
  have hB : Below w.heap.size w w3 := bstep hb3 hB
  clear b0 b1 b2 b3 bz g0 g1 gz d0 d1 d2 dz hb3
  have b0 := B1.cell 0; have b1 := B1.cell 1; have b2 := B1.cell 2; have b3 := B1.cell 3; have bz := B1.lt; have g0 := B2.cell 0; have g1 := B2.cell 1; have gz := B2.lt; have d0 := B3.cell 0; have d1 := B3.cell 1; have d2 := B3.cell 2; have dz := B3.lt
  simp at b0 b1 b2 b3 g0 g1 d0 d1 d2
  go_upto_region 15 with fail
  go_cut [130] (fun s wx => s = .bool false ∧ Blk wx w.heap.size #[.int .u8 k, .int .i64 a, .int .i64 b, .int .i64 n] 84 ∧ Blk wx (w.heap.size + 1) #[.int .i64 p, .int .i64 q] 101 ∧ Blk wx (w.heap.size + 1 + 1) #[.slice a1 n1 c1, .slice a2 n2 c2, .slice a3 n3 c3] 85 ∧ Below w.heap.size w wx)
  case first =>
    have e1 : decide (t < p) = false := decide_eq_false (by have := HPT.out; omega)
    by_cases hle : t ≤ 1099511627776
    · have hh := HR3.out
      rw [HC3.out hle] at hh
      simp only [Prod.mk.injEq] at hh
      obtain ⟨rfl, rfl, rfl⟩ := hh
      clear HR3
      have e2 : decide (t ≤ 1099511627776) = true := decide_eq_true hle
      by_cases hlt : L ≤ t
      · have e4 := HLT.out hlt
        subst e4
        have e3 : decide (L ≤ t) = true := decide_eq_true hlt
        clear hlt hle
        go_wp2_with fail
        go_meet
        case rel => exact ⟨rfl, B1, B2, B3, hB⟩
      · have e3 : decide (L ≤ t) = false := decide_eq_false hlt
        clear hlt hle
        go_wp2_with fail
        go_meet
        case rel => exact ⟨rfl, B1, B2, B3, hB⟩
    · have e2 : decide (t ≤ 1099511627776) = false := decide_eq_false hle
      by_cases hlt : L ≤ t
      · have e4 := HLT.out hlt
        subst e4
        have e3 : decide (L ≤ t) = true := decide_eq_true hlt
        clear hlt hle
        go_wp2_with fail
        go_meet
        case rel => exact ⟨rfl, B1, B2, B3, hB⟩
      · have e3 : decide (L ≤ t) = false := decide_eq_false hlt
        clear hlt hle
        go_wp2_with fail
        go_meet
        case rel => exact ⟨rfl, B1, B2, B3, hB⟩
  clear b0 b1 b2 b3 bz g0 g1 gz d0 d1 d2 dz B1 B2 B3 hB
  obtain ⟨rfl, B1, B2, B3, hB⟩ := hcut
  have b0 := B1.cell 0; have b1 := B1.cell 1; have b2 := B1.cell 2; have b3 := B1.cell 3; have bz := B1.lt; have g0 := B2.cell 0; have g1 := B2.cell 1; have gz := B2.lt; have d0 := B3.cell 0; have d1 := B3.cell 1; have d2 := B3.cell 2; have dz := B3.lt
  simp at b0 b1 b2 b3 g0 g1 d0 d1 d2
  have HB := hidE hB
  have hkk := pol_kind HP.out
  simp only at hkk
  rcases hkk with ⟨rfl, hz⟩ | ⟨rfl, hc, hz⟩ | ⟨rfl, hc, hn1, hn2⟩
  · clear hz
    have hle : leB (vat F t).1 (vat F t).2 (vat G t).1 (vat G t).2 = false := by have := HBAD.out; unfold badP leBad at this; simpa using this
    have HLEB := hidE hle
    clear hle HBAD HBD
    go_upto_region 18 with fail
    refine wp_region_past_lit (by kernel_rfl) (by kernel_rfl) ?_
    have hc := Past.cell (W := wc)
    repeat (go_big_quiet_step ((first | (go_at_call 30; exact Past.call _ (rat_s (F := F) (HS1.out.past (HB.out.trans ((Past.prop _).mono HB.out.size))) (by omega) rfl)) | (go_at_call 30; exact Past.call _ (rat_s (F := G) (HS2.out.past (HB.out.trans ((Past.prop _).mono HB.out.size))) (by omega) rfl)) | (go_at_call 46; exact Past.call _ (rle_eq13 HLEB.out)) | (go_at_call 37; exact Past.call _ (pohead_c _)))))
    refine wpQuiet_nil ?_
    rintro _ ⟨x, rfl⟩
    go_wp2
    go_ret
    exact ⟨rfl, HB.out.trans (x.2.mono HB.out.size)⟩
  · clear hz
    have hle : leB (vat H t).1 (vat H t).2 a b = false := by have := HBAD.out; unfold badP at this; simpa using this
    have HLEB := hidE hle
    clear hle HBAD HBD hc
    go_upto_region 20 with fail
    refine wp_region_past_lit (by kernel_rfl) (by kernel_rfl) ?_
    have hc := Past.cell (W := wc)
    repeat (go_big_quiet_step ((first | (go_at_call 30; exact Past.call _ (rat_s (F := H) (HS3.out.past (HB.out.trans ((Past.prop _).mono HB.out.size))) (by omega) rfl)) | (go_at_call 46; exact Past.call _ (rle_eq13 HLEB.out)) | (go_at_call 37; exact Past.call _ (pohead_c _)))))
    refine wpQuiet_nil ?_
    rintro _ ⟨x, rfl⟩
    go_wp2
    go_ret
    exact ⟨rfl, HB.out.trans (x.2.mono HB.out.size)⟩
  · have hov : overB H n.toNat (wide (a, b) n) t = true := by have := HBAD.out; unfold badP at this; simpa using this
    have hs := scl_wide hc hn1 hn2
    obtain ⟨m1, m2, hw⟩ : ∃ m1 m2, wide (a, b) n = (m1, m2) := ⟨_, _, rfl⟩
    rw [hw] at hs hov
    simp only at hs
    have HSC := hidE (fun w' => hs ▸ rscl a b n w' h64.1 h64.2.1 h64.2.2)
    have hle : leB (sumN H t n.toNat).1 (sumN H t n.toNat).2 m1 m2 = false := by unfold overB at hov; simpa using hov
    have HLEB := hidE hle
    have hbt := HBD.out rfl
    have HTT := hidE (fun w' (hb : Below w.heap.size w w') => tot_s t n (HS3.out.past hb) HCH.out (by omega) (by have := HP0.out; have := HPT.out; omega) (by omega))
    clear hle hov hs hw hc HBAD HBD hbt hn1 hn2
    go_upto_region 21 with fail
    go_wp2_with fail
    ((with_reducible refine (HSC.out _).mono ?_); rintro e w5 ⟨rfl, hb5⟩)
    obtain ⟨w6, hw6⟩ : ∃ w6, w6 = w5.alloc (Obj.cells #[.int .i64 m1, .int .i64 m2] 65) := ⟨_, rfl⟩
    have B4 : Blk w6 w5.heap.size #[.int .i64 m1, .int .i64 m2] 65 := by rw [hw6]; exact Blk.made _ _ _
    have B1 := (B1.past hb5).alloc (Obj.cells #[.int .i64 m1, .int .i64 m2] 65); have B3 := (B3.past hb5).alloc (Obj.cells #[.int .i64 m1, .int .i64 m2] 65)
    rw [← hw6] at B1 B3
    have hB : Below w.heap.size w w6 := by rw [hw6]; exact (bstep hb5 HB.out).alloc (bstep hb5 HB.out).size _
    clear b0 b1 b2 b3 bz g0 g1 gz d0 d1 d2 dz hb5
    have b0 := B1.cell 0; have b1 := B1.cell 1; have b2 := B1.cell 2; have b3 := B1.cell 3; have bz := B1.lt; have d0 := B3.cell 0; have d1 := B3.cell 1; have d2 := B3.cell 2; have dz := B3.lt
    have h0 := B4.cell 0; have h1 := B4.cell 1; have hz := B4.lt
    simp at b0 b1 b2 b3 d0 d1 d2 h0 h1
    go_upto_region 22 with fail
    rw [← hw6]
    clear hw6
    have HB := hidE hB
    refine wp_region_past_lit (by kernel_rfl) (by kernel_rfl) ?_
    have hc := Past.cell (W := w6)
    repeat (go_big_quiet_step ((first | (go_at_call 48; exact Past.call _ (HTT.out _ (HB.out.trans ((Past.prop _).mono HB.out.size)))) | (go_at_call 46; exact Past.call _ (rle_eq13 HLEB.out)) | (go_at_call 37; exact Past.call _ (pohead_c _)))))
    refine wpQuiet_nil ?_
    rintro _ ⟨x, rfl⟩
    go_wp2
    go_ret
    exact ⟨rfl, HB.out.trans (x.2.mono HB.out.size)⟩
end Go.Proofs.YthlepbbdjmmelaaGreat

namespace Go.Proofs.YthlepbbdjmmelaaGreat
open Go.ChangeShapes Go.WideShapes Go.ChangeAt Go.RowKit
attribute [local irreducible] Go.Calls

set_option maxRecDepth 100000 in
set_option maxHeartbeats 8000000 in
theorem pofst3 {F G H : List Sg} (k a b n p q : Int) (a1 a2 a3 : Option Addr) (n1 c1 n2 c2 n3 c3 : Nat) (w : World) (hk : 0 ≤ k ∧ k ≤ 255) (h64 : (-9223372036854775808 ≤ a ∧ a ≤ 9223372036854775807) ∧ (-9223372036854775808 ≤ b ∧ b ≤ 9223372036854775807) ∧ (-9223372036854775808 ≤ n ∧ n ≤ 9223372036854775807)) (hq : 1000 < q) (S1 : SliS w (.slice a1 n1 c1) F) (S2 : SliS w (.slice a2 n2 c2) G) (S3 : SliS w (.slice a3 n3 c3) H) (l1 : n1 ≤ 30) (l2 : n2 ≤ 30) (l3 : n3 ≤ 30) :
    Calls Tryz.prog 10 #[.agg #[.int .u8 k, .int .i64 a, .int .i64 b, .int .i64 n], .agg #[.int .i64 p, .int .i64 q], .agg #[.slice a1 n1 c1, .slice a2 n2 c2, .slice a3 n3 c3]] w fun e w' => e = .returned (.bool true) ∧ Below w.heap.size w w' := by
  have HS1 := hidE S1; have HS2 := hidE S2; have HS3 := hidE S3
  clear S1 S2 S3
  obtain ⟨w0, hw0⟩ : ∃ w0, w0 = ((w.alloc (Obj.cells #[.int .u8 k, .int .i64 a, .int .i64 b, .int .i64 n] 84)).alloc (Obj.cells #[.int .i64 p, .int .i64 q] 101)).alloc (Obj.cells #[.slice a1 n1 c1, .slice a2 n2 c2, .slice a3 n3 c3] 85) := ⟨_, rfl⟩
  have B1 : Blk w0 w.heap.size #[.int .u8 k, .int .i64 a, .int .i64 b, .int .i64 n] 84 := by rw [hw0]; exact ((Blk.made _ _ _).alloc _).alloc _
  have B2 : Blk w0 (w.heap.size + 1) #[.int .i64 p, .int .i64 q] 101 := by rw [hw0]; exact (Blk.made_at _ _ _ _ (by simp)).alloc _
  have B3 : Blk w0 (w.heap.size + 1 + 1) #[.slice a1 n1 c1, .slice a2 n2 c2, .slice a3 n3 c3] 85 := by rw [hw0]; exact Blk.made_at _ _ _ _ (by simp)
  have hb0 : Below w.heap.size w w0 := by rw [hw0]; (repeat (first | exact Below.refl _ _ | assumption | refine balloc ?_ _ | refine below_drewN ?_ _ | refine bstep (by assumption) ?_ | refine bstep (Past.prop _) ?_ | refine Below.setCell ?_ (by first | exact Nat.le_refl _ | (simp; done) | (simp; omega)) _))
  have HLL := hidE (show nowB p = true → p ≤ p ∧ p ≤ p + 1000 from fun hn => by have := nowB_iff.1 hn; omega)
  obtain ⟨L, hL⟩ : ∃ L, L = p := ⟨_, rfl⟩
  have HLL := hidE (show nowB p = true → p ≤ L ∧ L ≤ p + 1000 from hL ▸ HLL.out)
  obtain ⟨⟨t, qb, er⟩, hr⟩ : ∃ r, chkP (k, (a, b), n) p F G H = r := ⟨_, rfl⟩
  obtain ⟨⟨t2, qb2, er2⟩, hr2⟩ : ∃ r, chkP (k, (a, b), n) L F G H = r := ⟨_, rfl⟩
  have HK := hidE (pol_first hr hr2 HLL.out)
  have HR := hidE hr; have HR2 := hidE hr2
  clear hr hr2 HLL
  have q1 : decide ((30 : Int) < (n1 : Int)) = false := decide_eq_false (by omega)
  have q2 : decide ((30 : Int) < (n2 : Int)) = false := decide_eq_false (by omega)
  have q3 : decide ((30 : Int) < (n3 : Int)) = false := decide_eq_false (by omega)
  have r0 : decide (0 < q) = true := decide_eq_true (by omega)
  have r1 : decide (q ≤ 1000) = false := decide_eq_false (by omega)
  have HN := hidE hq
  clear hq
  go_enter Tryz.func10, Tryz.ntmps10
  go_upto_region 1 with fail
  rw [← hw0]
  clear hw0
  have b0 := B1.cell 0; have b1 := B1.cell 1; have b2 := B1.cell 2; have b3 := B1.cell 3; have bz := B1.lt; have g0 := B2.cell 0; have g1 := B2.cell 1; have gz := B2.lt; have d0 := B3.cell 0; have d1 := B3.cell 1; have d2 := B3.cell 2; have dz := B3.lt
  simp at b0 b1 b2 b3 g0 g1 d0 d1 d2
  go_wp2_with fail
  ((with_reducible refine (pchk_eq (F := F) (G := G) (H := H) hk (HS1.out.past hb0) (HS2.out.past hb0) (HS3.out.past hb0) (by omega) (by omega) (by omega) HR.out).mono ?_); rintro e w1 ⟨rfl, hb1⟩)
  have B1 := B1.past hb1; have B2 := B2.past hb1; have B3 := B3.past hb1
  have hB : Below w.heap.size w w1 := bstep hb1 hb0
  clear b0 b1 b2 b3 bz g0 g1 gz d0 d1 d2 dz hb1 hb0
  have b0 := B1.cell 0; have b1 := B1.cell 1; have b2 := B1.cell 2; have b3 := B1.cell 3; have bz := B1.lt; have g0 := B2.cell 0; have g1 := B2.cell 1; have gz := B2.lt; have d0 := B3.cell 0; have d1 := B3.cell 1; have d2 := B3.cell 2; have dz := B3.lt
  simp at b0 b1 b2 b3 g0 g1 d0 d1 d2
  go_upto_region 7 with fail
  rw [← hL]
  have HLE := hidE hL
  clear hL r0 r1
  go_wp2_with fail
  ((with_reducible refine (pchk_eq (F := F) (G := G) (H := H) hk (HS1.out.past hB) (HS2.out.past hB) (HS3.out.past hB) (by omega) (by omega) (by omega) HR2.out).mono ?_); rintro e w2 ⟨rfl, hb2⟩)
  have B1 := B1.past hb2; have B2 := B2.past hb2; have B3 := B3.past hb2
  have hB : Below w.heap.size w w2 := bstep hb2 hB
  clear b0 b1 b2 b3 bz g0 g1 gz d0 d1 d2 dz hb2
  have b0 := B1.cell 0; have b1 := B1.cell 1; have b2 := B1.cell 2; have b3 := B1.cell 3; have bz := B1.lt; have g0 := B2.cell 0; have g1 := B2.cell 1; have gz := B2.lt; have d0 := B3.cell 0; have d1 := B3.cell 1; have d2 := B3.cell 2; have dz := B3.lt
  simp at b0 b1 b2 b3 g0 g1 d0 d1 d2
  rcases HK.out with ⟨he, hqb, ht⟩ | ⟨he, he2, hl⟩ | ⟨he, he2, hqb, hqb2, ht⟩ | ⟨he, he2, hqb, hpt, hlt, hc3, hbd, hpo, hp0, hF, hG, hH, hbad⟩
  · subst hqb; subst ht
    clear HK HR HR2
    rcases he with he | he
    all_goals
      subst he
      go_wp2_with (go_at_call 37; ((with_reducible refine (pohead_c _).mono ?_); rintro e w9 ⟨rfl, hb9⟩))
      go_ret
      exact ⟨rfl, by (repeat (first | exact Below.refl _ _ | assumption | refine balloc ?_ _ | refine below_drewN ?_ _ | refine bstep (by assumption) ?_ | refine bstep (Past.prop _) ?_ | refine Below.setCell ?_ (by first | exact Nat.le_refl _ | (simp; done) | (simp; omega)) _))⟩
  · subst he; subst he2
    clear HK HR HR2
    have hd : decide (1099511627776 < L) = true := decide_eq_true hl
    clear hl
    go_wp2_with (go_at_call 37; ((with_reducible refine (pohead_c _).mono ?_); rintro e w9 ⟨rfl, hb9⟩))
    go_ret
    exact ⟨rfl, by (repeat (first | exact Below.refl _ _ | assumption | refine balloc ?_ _ | refine below_drewN ?_ _ | refine bstep (by assumption) ?_ | refine bstep (Past.prop _) ?_ | refine Below.setCell ?_ (by first | exact Nat.le_refl _ | (simp; done) | (simp; omega)) _))⟩
  · subst he; subst he2; subst hqb; subst hqb2; subst ht
    clear HK HR HR2
    go_wp2_with (go_at_call 37; ((with_reducible refine (pohead_c _).mono ?_); rintro e w9 ⟨rfl, hb9⟩))
    go_ret
    exact ⟨rfl, by (repeat (first | exact Below.refl _ _ | assumption | refine balloc ?_ _ | refine below_drewN ?_ _ | refine bstep (by assumption) ?_ | refine bstep (Past.prop _) ?_ | refine Below.setCell ?_ (by first | exact Nat.le_refl _ | (simp; done) | (simp; omega)) _))⟩
  subst he; subst he2; subst hqb
  clear HK HR HR2
  have HC3 := hidE hc3; have HLT := hidE hlt; have HPT := hidE hpt; have HBAD := hidE hbad; have HBD := hidE hbd; have HP := hidE hpo; have HP0 := hidE hp0; have HCF := hidE hF; have HCG := hidE hG; have HCH := hidE hH
  clear hc3 hlt hpt hbad hbd hpo hp0 hF hG hH
  obtain ⟨⟨t3, qb3, er3⟩, hr3⟩ : ∃ r, chkP (k, (a, b), n) t F G H = r := ⟨_, rfl⟩
  have HR3 := hidE hr3
  clear hr3
  go_wp2_with fail
  ((with_reducible refine (pchk_eq (F := F) (G := G) (H := H) hk (HS1.out.past hB) (HS2.out.past hB) (HS3.out.past hB) (by omega) (by omega) (by omega) HR3.out).mono ?_); rintro e w3 ⟨rfl, hb3⟩)
  have B1 := B1.past hb3; have B2 := B2.past hb3; have B3 := B3.past hb3
  have hB : Below w.heap.size w w3 := bstep hb3 hB
  clear b0 b1 b2 b3 bz g0 g1 gz d0 d1 d2 dz hb3
  have b0 := B1.cell 0; have b1 := B1.cell 1; have b2 := B1.cell 2; have b3 := B1.cell 3; have bz := B1.lt; have g0 := B2.cell 0; have g1 := B2.cell 1; have gz := B2.lt; have d0 := B3.cell 0; have d1 := B3.cell 1; have d2 := B3.cell 2; have dz := B3.lt
  simp at b0 b1 b2 b3 g0 g1 d0 d1 d2
  go_upto_region 15 with fail
  go_cut [130] (fun s wx => s = .bool false ∧ Blk wx w.heap.size #[.int .u8 k, .int .i64 a, .int .i64 b, .int .i64 n] 84 ∧ Blk wx (w.heap.size + 1) #[.int .i64 p, .int .i64 q] 101 ∧ Blk wx (w.heap.size + 1 + 1) #[.slice a1 n1 c1, .slice a2 n2 c2, .slice a3 n3 c3] 85 ∧ Below w.heap.size w wx)
  case first =>
    have e1 : decide (t < p) = false := decide_eq_false (by have := HPT.out; omega)
    by_cases hle : t ≤ 1099511627776
    · have hh := HR3.out
      rw [HC3.out hle] at hh
      simp only [Prod.mk.injEq] at hh
      obtain ⟨rfl, rfl, rfl⟩ := hh
      clear HR3
      have e2 : decide (t ≤ 1099511627776) = true := decide_eq_true hle
      by_cases hlt : L ≤ t
      · have e4 := HLT.out hlt
        subst e4
        have e3 : decide (L ≤ t) = true := decide_eq_true hlt
        clear hlt hle
        go_wp2_with fail
        go_meet
        case rel => exact ⟨rfl, B1, B2, B3, hB⟩
      · have e3 : decide (L ≤ t) = false := decide_eq_false hlt
        clear hlt hle
        go_wp2_with fail
        go_meet
        case rel => exact ⟨rfl, B1, B2, B3, hB⟩
    · have e2 : decide (t ≤ 1099511627776) = false := decide_eq_false hle
      by_cases hlt : L ≤ t
      · have e4 := HLT.out hlt
        subst e4
        have e3 : decide (L ≤ t) = true := decide_eq_true hlt
        clear hlt hle
        go_wp2_with fail
        go_meet
        case rel => exact ⟨rfl, B1, B2, B3, hB⟩
      · have e3 : decide (L ≤ t) = false := decide_eq_false hlt
        clear hlt hle
        go_wp2_with fail
        go_meet
        case rel => exact ⟨rfl, B1, B2, B3, hB⟩
  clear b0 b1 b2 b3 bz g0 g1 gz d0 d1 d2 dz B1 B2 B3 hB
  obtain ⟨rfl, B1, B2, B3, hB⟩ := hcut
  have b0 := B1.cell 0; have b1 := B1.cell 1; have b2 := B1.cell 2; have b3 := B1.cell 3; have bz := B1.lt; have g0 := B2.cell 0; have g1 := B2.cell 1; have gz := B2.lt; have d0 := B3.cell 0; have d1 := B3.cell 1; have d2 := B3.cell 2; have dz := B3.lt
  simp at b0 b1 b2 b3 g0 g1 d0 d1 d2
  have HB := hidE hB
  have hkk := pol_kind HP.out
  simp only at hkk
  rcases hkk with ⟨rfl, hz⟩ | ⟨rfl, hc, hz⟩ | ⟨rfl, hc, hn1, hn2⟩
  · clear hz
    have hle : leB (vat F t).1 (vat F t).2 (vat G t).1 (vat G t).2 = false := by have := HBAD.out; unfold badP leBad at this; simpa using this
    have HLEB := hidE hle
    clear hle HBAD HBD
    go_upto_region 18 with fail
    refine wp_region_past_lit (by kernel_rfl) (by kernel_rfl) ?_
    have hc := Past.cell (W := wc)
    repeat (go_big_quiet_step ((first | (go_at_call 30; exact Past.call _ (rat_s (F := F) (HS1.out.past (HB.out.trans ((Past.prop _).mono HB.out.size))) (by omega) rfl)) | (go_at_call 30; exact Past.call _ (rat_s (F := G) (HS2.out.past (HB.out.trans ((Past.prop _).mono HB.out.size))) (by omega) rfl)) | (go_at_call 46; exact Past.call _ (rle_eq13 HLEB.out)) | (go_at_call 37; exact Past.call _ (pohead_c _)))))
    refine wpQuiet_nil ?_
    rintro _ ⟨x, rfl⟩
    go_wp2
    go_ret
    exact ⟨rfl, HB.out.trans (x.2.mono HB.out.size)⟩
  · clear hz
    have hle : leB (vat H t).1 (vat H t).2 a b = false := by have := HBAD.out; unfold badP at this; simpa using this
    have HLEB := hidE hle
    clear hle HBAD HBD hc
    go_upto_region 20 with fail
    refine wp_region_past_lit (by kernel_rfl) (by kernel_rfl) ?_
    have hc := Past.cell (W := wc)
    repeat (go_big_quiet_step ((first | (go_at_call 30; exact Past.call _ (rat_s (F := H) (HS3.out.past (HB.out.trans ((Past.prop _).mono HB.out.size))) (by omega) rfl)) | (go_at_call 46; exact Past.call _ (rle_eq13 HLEB.out)) | (go_at_call 37; exact Past.call _ (pohead_c _)))))
    refine wpQuiet_nil ?_
    rintro _ ⟨x, rfl⟩
    go_wp2
    go_ret
    exact ⟨rfl, HB.out.trans (x.2.mono HB.out.size)⟩
  · have hov : overB H n.toNat (wide (a, b) n) t = true := by have := HBAD.out; unfold badP at this; simpa using this
    have hs := scl_wide hc hn1 hn2
    obtain ⟨m1, m2, hw⟩ : ∃ m1 m2, wide (a, b) n = (m1, m2) := ⟨_, _, rfl⟩
    rw [hw] at hs hov
    simp only at hs
    have HSC := hidE (fun w' => hs ▸ rscl a b n w' h64.1 h64.2.1 h64.2.2)
    have hle : leB (sumN H t n.toNat).1 (sumN H t n.toNat).2 m1 m2 = false := by unfold overB at hov; simpa using hov
    have HLEB := hidE hle
    have hbt := HBD.out rfl
    have HTT := hidE (fun w' (hb : Below w.heap.size w w') => tot_s t n (HS3.out.past hb) HCH.out (by omega) (by have := HP0.out; have := HPT.out; omega) (by omega))
    clear hle hov hs hw hc HBAD HBD hbt hn1 hn2
    go_upto_region 21 with fail
    go_wp2_with fail
    ((with_reducible refine (HSC.out _).mono ?_); rintro e w5 ⟨rfl, hb5⟩)
    obtain ⟨w6, hw6⟩ : ∃ w6, w6 = w5.alloc (Obj.cells #[.int .i64 m1, .int .i64 m2] 65) := ⟨_, rfl⟩
    have B4 : Blk w6 w5.heap.size #[.int .i64 m1, .int .i64 m2] 65 := by rw [hw6]; exact Blk.made _ _ _
    have B1 := (B1.past hb5).alloc (Obj.cells #[.int .i64 m1, .int .i64 m2] 65); have B3 := (B3.past hb5).alloc (Obj.cells #[.int .i64 m1, .int .i64 m2] 65)
    rw [← hw6] at B1 B3
    have hB : Below w.heap.size w w6 := by rw [hw6]; exact (bstep hb5 HB.out).alloc (bstep hb5 HB.out).size _
    clear b0 b1 b2 b3 bz g0 g1 gz d0 d1 d2 dz hb5
    have b0 := B1.cell 0; have b1 := B1.cell 1; have b2 := B1.cell 2; have b3 := B1.cell 3; have bz := B1.lt; have d0 := B3.cell 0; have d1 := B3.cell 1; have d2 := B3.cell 2; have dz := B3.lt
    have h0 := B4.cell 0; have h1 := B4.cell 1; have hz := B4.lt
    simp at b0 b1 b2 b3 d0 d1 d2 h0 h1
    go_upto_region 22 with fail
    rw [← hw6]
    clear hw6
    have HB := hidE hB
    refine wp_region_past_lit (by kernel_rfl) (by kernel_rfl) ?_
    have hc := Past.cell (W := w6)
    repeat (go_big_quiet_step ((first | (go_at_call 48; exact Past.call _ (HTT.out _ (HB.out.trans ((Past.prop _).mono HB.out.size)))) | (go_at_call 46; exact Past.call _ (rle_eq13 HLEB.out)) | (go_at_call 37; exact Past.call _ (pohead_c _)))))
    refine wpQuiet_nil ?_
    rintro _ ⟨x, rfl⟩
    go_wp2
    go_ret
    exact ⟨rfl, HB.out.trans (x.2.mono HB.out.size)⟩
end Go.Proofs.YthlepbbdjmmelaaGreat

namespace Go.Proofs.YthlepbbdjmmelaaGreat
open Go.ChangeShapes Go.WideShapes Go.ChangeAt Go.RowKit
attribute [local irreducible] Go.Calls

set_option maxRecDepth 100000 in
set_option maxHeartbeats 4000000 in
theorem pofirst_c {F G H : List Sg} (k a b n p q : Int) (a1 a2 a3 : Option Addr) (n1 c1 n2 c2 n3 c3 : Nat) (w : World) (hk : 0 ≤ k ∧ k ≤ 255) (h64 : (-9223372036854775808 ≤ a ∧ a ≤ 9223372036854775807) ∧ (-9223372036854775808 ≤ b ∧ b ≤ 9223372036854775807) ∧ (-9223372036854775808 ≤ n ∧ n ≤ 9223372036854775807)) (S1 : SliS w (.slice a1 n1 c1) F) (S2 : SliS w (.slice a2 n2 c2) G) (S3 : SliS w (.slice a3 n3 c3) H) :
    Calls Tryz.prog 10 #[.agg #[.int .u8 k, .int .i64 a, .int .i64 b, .int .i64 n], .agg #[.int .i64 p, .int .i64 q], .agg #[.slice a1 n1 c1, .slice a2 n2 c2, .slice a3 n3 c3]] w fun e w' => e = .returned (.bool true) ∧ Below w.heap.size w w' := by
  by_cases hl : n1 ≤ 30 ∧ n2 ≤ 30 ∧ n3 ≤ 30
  · obtain ⟨l1, l2, l3⟩ := hl
    by_cases h1 : q ≤ 0
    · exact pofst1 k a b n p q a1 a2 a3 n1 c1 n2 c2 n3 c3 w hk h64 h1 S1 S2 S3 l1 l2 l3
    by_cases h2 : q ≤ 1000
    · exact pofst2 k a b n p q a1 a2 a3 n1 c1 n2 c2 n3 c3 w hk h64 (by omega) S1 S2 S3 l1 l2 l3
    · exact pofst3 k a b n p q a1 a2 a3 n1 c1 n2 c2 n3 c3 w hk h64 (by omega) S1 S2 S3 l1 l2 l3
  clear S1 S2 S3
  obtain ⟨w0, hw0⟩ : ∃ w0, w0 = ((w.alloc (Obj.cells #[.int .u8 k, .int .i64 a, .int .i64 b, .int .i64 n] 84)).alloc (Obj.cells #[.int .i64 p, .int .i64 q] 101)).alloc (Obj.cells #[.slice a1 n1 c1, .slice a2 n2 c2, .slice a3 n3 c3] 85) := ⟨_, rfl⟩
  have B3 : Blk w0 (w.heap.size + 1 + 1) #[.slice a1 n1 c1, .slice a2 n2 c2, .slice a3 n3 c3] 85 := by rw [hw0]; exact Blk.made_at _ _ _ _ (by simp)
  have hb0 : Below w.heap.size w w0 := by rw [hw0]; (repeat (first | exact Below.refl _ _ | assumption | refine balloc ?_ _ | refine below_drewN ?_ _ | refine bstep (by assumption) ?_ | refine bstep (Past.prop _) ?_ | refine Below.setCell ?_ (by first | exact Nat.le_refl _ | (simp; done) | (simp; omega)) _))
  go_enter Tryz.func10, Tryz.ntmps10
  go_upto_region 1 with fail
  rw [← hw0]
  clear hw0
  have d0 := B3.cell 0; have d1 := B3.cell 1; have d2 := B3.cell 2; have dz := B3.lt
  simp at d0 d1 d2
  by_cases h1 : 30 < n1
  · skip
    have e0 : decide ((30 : Int) < (n1 : Int)) = true := decide_eq_true (by omega)
    clear hl
    go_wp2_with (go_at_call 37; ((with_reducible refine (pohead_c _).mono ?_); rintro e w9 ⟨rfl, hb9⟩))
    go_ret
    exact ⟨rfl, by (repeat (first | exact Below.refl _ _ | assumption | refine balloc ?_ _ | refine below_drewN ?_ _ | refine bstep (by assumption) ?_ | refine bstep (Past.prop _) ?_ | refine Below.setCell ?_ (by first | exact Nat.le_refl _ | (simp; done) | (simp; omega)) _))⟩
  by_cases h2 : 30 < n2
  · skip
    have e0 : decide ((30 : Int) < (n1 : Int)) = false := decide_eq_false (by omega)
    have e1 : decide ((30 : Int) < (n2 : Int)) = true := decide_eq_true (by omega)
    clear hl
    go_wp2_with (go_at_call 37; ((with_reducible refine (pohead_c _).mono ?_); rintro e w9 ⟨rfl, hb9⟩))
    go_ret
    exact ⟨rfl, by (repeat (first | exact Below.refl _ _ | assumption | refine balloc ?_ _ | refine below_drewN ?_ _ | refine bstep (by assumption) ?_ | refine bstep (Past.prop _) ?_ | refine Below.setCell ?_ (by first | exact Nat.le_refl _ | (simp; done) | (simp; omega)) _))⟩
  · skip
    have e0 : decide ((30 : Int) < (n1 : Int)) = false := decide_eq_false (by omega)
    have e1 : decide ((30 : Int) < (n2 : Int)) = false := decide_eq_false (by omega)
    have e2 : decide ((30 : Int) < (n3 : Int)) = true := decide_eq_true (by omega)
    clear hl
    go_wp2_with (go_at_call 37; ((with_reducible refine (pohead_c _).mono ?_); rintro e w9 ⟨rfl, hb9⟩))
    go_ret
    exact ⟨rfl, by (repeat (first | exact Below.refl _ _ | assumption | refine balloc ?_ _ | refine below_drewN ?_ _ | refine bstep (by assumption) ?_ | refine bstep (Past.prop _) ?_ | refine Below.setCell ?_ (by first | exact Nat.le_refl _ | (simp; done) | (simp; omega)) _))⟩
end Go.Proofs.YthlepbbdjmmelaaGreat

namespace Go.Proofs.YthlepbbdjmmelaaGreat
open Go.ChangeShapes Go.WideShapes Go.ChangeAt Go.RowKit

set_option maxRecDepth 100000 in
theorem policyFirst_lifted (os : Os) (started : os.Started) (H : Type) (enc : TypeId × Value → H) :
    ReturnsInHanded {} Tryz.checked os 10 .any (Rows.policyFirstSpec.pre6 enc Tryz.prog Tryz.f10 Rows.policyFirstRow.domain false) (Rows.policyFirstSpec.post enc Tryz.prog Tryz.f10 false true false false) := by
  refine returnsInHanded_of_change (C := Tryz.checked) own started (by kernel_rfl) Tryz.func10
    (ChangeSpec.witness6 (enc := enc) (C := Tryz.checked) false ⟨#[], #[.agg #[.int .u8 0, .int .i64 0, .int .i64 0, .int .i64 0], .agg #[.int .i64 0, .int .i64 0], .agg #[.slice none 0 0, .slice none 0 0, .slice none 0 0]], []⟩ 8 (by kernel_rfl) (by kernel_rfl) (by kernel_rfl) (by kernel_rfl)) ?_
  intro W base args ds gs before hval0 hW _ _
  have hval : ∀ (j : Nat) t v, Tryz.f10.params[j]? = some t → args[j]? = some v → Value.okWide Tryz.prog W .any base t v := hval0
  have hW' := hW
  obtain ⟨p, q, hA0, hV, rfl, hfz, hnd⟩ := hW
  have hA : DataW.TrodAll enc Tryz.prog W 0 (fun _ => true) true Tryz.f10.params.toList args.toList ds p := hA0
  rw [Tryz.params10] at hA hval
  obtain ⟨v0, vs0, d0, ds0, p0, q0, hargs, rfl, rfl, h0, r0⟩ := trodAll_cons hA
  obtain ⟨v1, vs1, d1, ds1, p1, q1, rfl, rfl, rfl, h1, r1⟩ := trodAll_cons r0
  obtain ⟨v2, vs2, d2, ds2, p2, q2, rfl, rfl, rfl, h2, r2⟩ := trodAll_cons r1
  obtain ⟨rfl, rfl, rfl⟩ := trodAll_nil r2
  obtain rfl : args = #[v0, v1, v2] := by cases args; simp_all
  obtain ⟨x0, rfl, hx0⟩ := open_polP (hval 0 84 v0 rfl rfl) h0
  obtain ⟨a1, b1, rfl⟩ := open_arr2 Tryz.underlying101 Tryz.underlying2 cellsI64 (by kernel_rfl) (hval 1 101 v1 rfl rfl) h1
  obtain ⟨F2, G2, K2, a2, b2, e2, n2, m2, k2, rfl, SF2, SG2, SK2, hF2, hG2, hK2⟩ := open_slis3P (hval 2 85 v2 rfl rfl) h2
  clear hA0 hval0
  refine (pofirst_c x0.1 x0.2.1.1 x0.2.1.2 x0.2.2 a1 b1 a2 b2 e2 F2.length n2 G2.length m2 K2.length k2 W hx0.1 ⟨hx0.2.1, hx0.2.2.1, hx0.2.2.2⟩ SF2 SG2 SK2).mono fun e W' ⟨he, hb⟩ => ?_
  subst he
  exact ⟨_, rfl, law_post laidOut (readOk_spec (by kernel_rfl)) rfl Tryz.underlying4 rfl ⟨rfl, rfl, rfl⟩ hW' hb⟩

theorem policyFirst_holds : Rows.PolicyFirstSaid :=
  OpenClaim.holds_of_wide 10 Tryz.f10 rfl rfl rfl rfl rfl rfl rfl ⟨rfl, rfl, rfl, rfl, rfl⟩ rfl rfl rfl rfl rfl (by kernel_rfl) Tryz.func10 (by kernel_rfl)
    (of_decide_eq_true (by kernel_rfl)) (by unfold Func.isWrapper; first | (rw [if_pos (by decide +kernel)]; kernel_rfl) | (rw [if_neg (by decide +kernel)]; exact ⟨rfl, rfl⟩))
    (fun os started H enc _ => policyFirst_lifted os started H enc)
end Go.Proofs.YthlepbbdjmmelaaGreat
