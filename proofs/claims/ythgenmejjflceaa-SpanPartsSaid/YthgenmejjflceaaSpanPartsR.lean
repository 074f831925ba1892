/- SpanParts answers true for every list of runs, every time, and whatever lengths. No conditions but that the list lies within its capacity. SpanParts: for every list of runs, every time, and whatever lengths, the statement's function answers true and leaves its arguments alone. No conditions. -/
import Derived.Test.YthgenmejjflceaaKF
import Derived.Test.YthgenmejjflceaaKM
import Derived.Test.YthgenmejjflceaaKA
import Derived.Test.YthgenmejjflceaaKG
namespace Go.Proofs.Ythgenmejjflceaa
open Go.ChangeShapes Go.WideShapes Go.ChangeAt Go.RowKit
attribute [local irreducible] Go.Calls

theorem eq4 : ∀ w, (Op.equalIn 10000 43 (.agg #[.bool true, .bool true, .bool true, .bool true]) (.agg #[.bool true, .bool true, .bool true, .bool true])).run Try.prog w = .ok true w := fun w => by kernel_rfl
/-- What is known of the windows. -/
theorem parts_known {F : List Sg} {x : Int} {j k : Nat} (hm : mayB F = true) (hj : 1 ≤ j ∧ j ≤ 100) (hk : 1 ≤ k ∧ k ≤ 100) (hx : -562949953421312 ≤ x ∧ x ≤ 562949953421312) :
    ∃ (A B lo hi : Int × Int) (C : List Sg), totS F x (x + j) = (A.1, A.2, 0) ∧ totS F (x + j) (x + j + k) = (B.1, B.2, 0) ∧ totS F x (x + j + k) = (A.1 + B.1, A.2 + B.2, 0) ∧ cutS F x (x + j + k) = (C, 0) ∧ C.length ≤ F.length + 2 ∧ totS C (x - 5) (x + j + k + 5) = (A.1 + B.1, A.2 + B.2, 0) ∧
      lowS F x (x + j + k) = (lo.1, lo.2, 0) ∧ highS F x (x + j + k) = (hi.1, hi.2, 0) ∧
      (∀ i : Nat, i < j + k → leB lo.1 lo.2 (vat F (x + i)).1 (vat F (x + i)).2 = true ∧ leB (vat F (x + i)).1 (vat F (x + i)).2 hi.1 hi.2 = true) ∧
      ((∃ i : Nat, i < j + k ∧ (vat F (x + i)).1 = lo.1) ∧ (∃ i : Nat, i < j + k ∧ (vat F (x + i)).2 = lo.2) ∧ (∃ i : Nat, i < j + k ∧ (vat F (x + i)).1 = hi.1) ∧ ∃ i : Nat, i < j + k ∧ (vat F (x + i)).2 = hi.2) ∧
      (-1125899906842624000 ≤ A.1 ∧ A.1 ≤ 1125899906842624000 ∧ -1125899906842624000 ≤ A.2 ∧ A.2 ≤ 1125899906842624000) ∧ (-1125899906842624000 ≤ B.1 ∧ B.1 ≤ 1125899906842624000 ∧ -1125899906842624000 ≤ B.2 ∧ B.2 ≤ 1125899906842624000) := by
  have hF := mayB_iff.1 hm
  have hfar : farB x (x + (j + k : Nat)) = true := by unfold farB; exact decide_eq_true (by omega)
  have hC := (cutL_spec hF (show x ≤ x + (j + k : Nat) by omega) hfar).1
  have ejk : x + (j : Int) + k = x + ((j + k : Nat) : Int) := by omega
  have hadd := sumN_add F x j k
  have lo1 := fun i (hi : i < j + k) => lowN_le (F := F) (x := x) (j + k) hi
  have hi1 := fun i (hi : i < j + k) => highN_ge (F := F) (x := x) (j + k) hi
  obtain ⟨m1, m2⟩ := lowN_met (F := F) (x := x) (j + k) (by omega)
  obtain ⟨m3, m4⟩ := highN_met (F := F) (x := x) (j + k) (by omega)
  have hA := sumN_le (CF.ok hF) x j
  have hB := sumN_le (CF.ok hF) (x + j) k
  have w1 : badW F x (x + j) = 0 := badW_ok hm (wndB_iff.2 (by omega))
  have w2 : badW F (x + j) (x + j + k) = 0 := badW_ok hm (wndB_iff.2 (by omega))
  have w3 : badW F x (x + j + k) = 0 := badW_ok hm (wndB_iff.2 (by omega))
  have w4 : badW (cutL F x (x + (j + k : Nat))) (x - 5) (x + j + k + 5) = 0 := badW_ok (mayB_iff.2 hC) (wndB_iff.2 (by omega))
  refine ⟨sumN F x j, sumN F (x + j) k, lowN F x (j + k), highN F x (j + k), cutL F x (x + (j + k : Nat)), ?_, ?_, ?_, ?_, ?_, ?_, ?_, ?_, fun i hi => ⟨leB_true (lo1 i hi), leB_true (hi1 i hi)⟩, ⟨m1, m2, m3, m4⟩, by omega, by omega⟩
  · rw [totS_ok w1, show (x + (j : Int) - x).toNat = j by omega]
  · rw [totS_ok w2, show (x + (j : Int) + k - (x + j)).toNat = k by omega]
  · rw [totS_ok w3, show (x + (j : Int) + k - x).toNat = j + k by omega, hadd]
  · rw [ejk]; exact cutS_ok hm (by omega) hfar
  · have h1 : (cutL F x (x + (j + k : Nat))).length ≤ (cutT F x (x + (j + k : Nat))).length := buildL_lenM _ _
    have h2 := cutT_len F x (x + (j + k : Nat))
    omega
  · rw [totS_ok w4, show (x + (j : Int) + k + 5 - (x - 5)).toNat = 5 + (j + k) + 5 by omega, cut_sum hF hfar, hadd]
  · rw [lowS_ok w3, show (x + (j : Int) + k - x).toNat = j + k by omega]
  · rw [highS_ok w3, show (x + (j : Int) + k - x).toNat = j + k by omega]

set_option maxRecDepth 100000 in
theorem sparts_many (F : List Sg) (n : Nat) (x n0 n1 : Int) (a : Option Addr) (cap : Nat) (w : World) (S1 : SliS w (.slice a n cap) F) (h : 40 < n ∨ x < -562949953421312 ∨ 562949953421312 < x ∨ mayB F = false) :
    Calls Try.prog 5 #[.slice a n cap, .int .i64 x, .agg #[.int .u8 n0, .int .u8 n1]] w fun e w' => e = .returned (.bool true) ∧ Below w.heap.size w w' := by
  by_cases h1 : 40 < n
  · have e1 : decide ((40 : Int) < (n : Int)) = true := decide_eq_true (by omega)
    go_enter Try.func5, Try.ntmps5
    go_wp2_with (go_at_call 9; ((with_reducible refine (shead_c _).mono ?_); rintro e w9 ⟨rfl, hb9⟩))
    go_ret
    exact ⟨rfl, by (repeat (first | exact Below.refl _ _ | assumption | refine balloc ?_ _ | refine below_drewN ?_ _ | refine bstep (by assumption) ?_ | refine bstep (Past.prop _) ?_ | refine Below.setCell ?_ (by first | exact Nat.le_refl _ | (simp; done) | (simp; omega)) _))⟩
  have e1 : decide ((40 : Int) < (n : Int)) = false := decide_eq_false (by omega)
  by_cases h2 : x < -562949953421312
  · have e2 : decide (x < -562949953421312) = true := decide_eq_true h2
    go_enter Try.func5, Try.ntmps5
    go_wp2_with (go_at_call 9; ((with_reducible refine (shead_c _).mono ?_); rintro e w9 ⟨rfl, hb9⟩))
    go_ret
    exact ⟨rfl, by (repeat (first | exact Below.refl _ _ | assumption | refine balloc ?_ _ | refine below_drewN ?_ _ | refine bstep (by assumption) ?_ | refine bstep (Past.prop _) ?_ | refine Below.setCell ?_ (by first | exact Nat.le_refl _ | (simp; done) | (simp; omega)) _))⟩
  have e2 : decide (x < -562949953421312) = false := decide_eq_false h2
  by_cases h3 : 562949953421312 < x
  · have e3 : decide (562949953421312 < x) = true := decide_eq_true h3
    go_enter Try.func5, Try.ntmps5
    go_wp2_with (go_at_call 9; ((with_reducible refine (shead_c _).mono ?_); rintro e w9 ⟨rfl, hb9⟩))
    go_ret
    exact ⟨rfl, by (repeat (first | exact Below.refl _ _ | assumption | refine balloc ?_ _ | refine below_drewN ?_ _ | refine bstep (by assumption) ?_ | refine bstep (Past.prop _) ?_ | refine Below.setCell ?_ (by first | exact Nat.le_refl _ | (simp; done) | (simp; omega)) _))⟩
  have e3 : decide (562949953421312 < x) = false := decide_eq_false h3
  have HNR := hidE (show mayB F = false by rcases h with h | h | h | h <;> first | exact h | omega)
  clear h
  go_enter Try.func5, Try.ntmps5
  go_wp2_with (first | (go_at_call 21; ((with_reducible refine (rmay_s (F := F) (by (repeat (first | assumption | exact sliS_nil _ | (refine sliS_new (Blk.made _ _ _) rfl rfl (by decide); done) | refine SliS.past ?_ (by assumption) | refine sliS_alloc ?_ _))) (by omega) HNR.out).mono ?_); rintro e wn ⟨rfl, hbn⟩)) | (go_at_call 9; ((with_reducible refine (shead_c _).mono ?_); rintro e w9 ⟨rfl, hb9⟩)))
  go_ret
  exact ⟨rfl, by (repeat (first | exact Below.refl _ _ | assumption | refine balloc ?_ _ | refine below_drewN ?_ _ | refine bstep (by assumption) ?_ | refine bstep (Past.prop _) ?_ | refine Below.setCell ?_ (by first | exact Nat.le_refl _ | (simp; done) | (simp; omega)) _))⟩

set_option maxRecDepth 100000 in
set_option maxHeartbeats 16000000 in
theorem sparts_few (F : List Sg) (n : Nat) (x n0 n1 : Int) (a : Option Addr) (cap : Nat) (w : World) (S1 : SliS w (.slice a n cap) F) (hn40 : n ≤ 40) (hx1 : -562949953421312 ≤ x) (hx2 : x ≤ 562949953421312) (hm : mayB F = true) (h0 : 0 ≤ n0 ∧ n0 ≤ 255) (h1 : 0 ≤ n1 ∧ n1 ≤ 255) :
    Calls Try.prog 5 #[.slice a n cap, .int .i64 x, .agg #[.int .u8 n0, .int .u8 n1]] w fun e w' => e = .returned (.bool true) ∧ Below w.heap.size w w' := by
  have e1 : decide ((40 : Int) < (n : Int)) = false := decide_eq_false (by omega)
  have e2 : decide (x < -562949953421312) = false := decide_eq_false (by omega)
  have e3 : decide (562949953421312 < x) = false := decide_eq_false (by omega)
  obtain ⟨w0, hw0⟩ : ∃ w0, w0 = w.alloc (Obj.cells #[.int .u8 n0, .int .u8 n1] 42) := ⟨_, rfl⟩
  have B1 : Blk w0 w.heap.size #[.int .u8 n0, .int .u8 n1] 42 := by rw [hw0]; exact Blk.made _ _ _
  have hb0 : Below w.heap.size w w0 := by rw [hw0]; (repeat (first | exact Below.refl _ _ | assumption | refine balloc ?_ _ | refine below_drewN ?_ _ | refine bstep (by assumption) ?_ | refine bstep (Past.prop _) ?_ | refine Below.setCell ?_ (by first | exact Nat.le_refl _ | (simp; done) | (simp; omega)) _))
  replace S1 := S1.past hb0
  have HNR := hidE hm
  go_enter Try.func5, Try.ntmps5
  go_upto_region 1 with fail
  rw [← hw0]
  clear hw0
  obtain ⟨wb, hwb⟩ : ∃ wb, wb = w0 := ⟨_, rfl⟩
  go_upto_region 3 with (go_at_call 21; ((with_reducible refine (rmay_s (F := F) (by (repeat (first | assumption | exact sliS_nil _ | (refine sliS_new (Blk.made _ _ _) rfl rfl (by decide); done) | refine SliS.past ?_ (by assumption) | refine sliS_alloc ?_ _))) (by omega) HNR.out).mono ?_); rintro e wn ⟨rfl, hbn⟩))
  replace S1 := S1.past hbn
  replace B1 := B1.past hbn
  have hb : Below w.heap.size w wn := hb0.trans (hbn.mono hb0.size)
  clear hbn hb0 e1 e2 e3
  obtain ⟨wc, rfl⟩ : ∃ wc : World, wc = wn := ⟨_, rfl⟩
  obtain ⟨j, hj⟩ : ∃ j : Nat, 1 + n0 % 100 = (j : Int) := ⟨(1 + n0 % 100).toNat, by omega⟩
  obtain ⟨k, hk⟩ : ∃ k : Nat, 1 + n1 % 100 = (k : Int) := ⟨(1 + n1 % 100).toNat, by omega⟩
  have hj1 : 1 ≤ j ∧ j ≤ 100 := by omega
  have hk1 : 1 ≤ k ∧ k ≤ 100 := by omega
  obtain ⟨A, B, lo, hi, C, q1, q2, q3, q4, q5, q6, q7, q8, q9, q10, q11, q12⟩ := parts_known hm hj1 hk1 ⟨hx1, hx2⟩
  have hFl : F.length = n := by obtain ⟨q, _⟩ := S1.len; exact q.symm
  have Q1 := hidE q1; have Q2 := hidE q2; have Q3 := hidE q3; have Q4 := hidE q4; have Q5 := hidE (show C.length ≤ 42 by omega); have Q6 := hidE q6; have Q7 := hidE q7; have Q8 := hidE q8; have Q9 := hidE q9; have Q10 := hidE q10; have Q11 := hidE q11; have Q12 := hidE q12
  have HJ := hidE hj; have HK := hidE hk; have HFL := hidE hFl; have HX := hidE (And.intro hx1 hx2); have HJK := hidE (And.intro hj1 hk1)
  clear q1 q2 q3 q4 q5 q6 q7 q8 q9 q10 q11 q12 hm hFl
  have b0 := B1.cell 0; have b1 := B1.cell 1; have bz := B1.lt
  simp at b0 b1
  obtain ⟨wd, hwd⟩ : ∃ wd, wd = wc := ⟨_, rfl⟩
  go_upto_region 3 with fail
  go_cut [7, 8] (fun s7 s8 wx => s7 = .int .i64 (x + j) ∧ s8 = .int .i64 (x + j + k) ∧ SliS wx (.slice a n cap) F ∧ Below w.heap.size w wx)
  case first =>
    clear hj hk
    go_quiet (fail)
    go_wp2
    go_meet
    case rel =>
      have h1 := HJ.out; have h2 := HK.out
      exact ⟨congrArg (Value.int .i64) (by omega), congrArg (Value.int .i64) (by omega), S1.past (below_drewN (Below.refl _ _) _), below_drewN hb _⟩
  obtain ⟨rfl, rfl, S1, hb⟩ := hcut
  clear hj hk b0 b1 bz B1
  obtain ⟨we, hwe⟩ : ∃ we, we = wc := ⟨_, rfl⟩
  go_upto_region 7 with (first | (go_at_call 14; ((with_reducible refine (sum_s (F := F) (by (repeat (first | assumption | exact sliS_nil _ | (refine sliS_new (Blk.made _ _ _) rfl rfl (by decide); done) | refine SliS.past ?_ (by assumption) | refine sliS_alloc ?_ _))) (by have := Q5.out; omega) Q1.out).mono ?_); rintro e wA ⟨rfl, hbwA⟩)) | (go_at_call 14; ((with_reducible refine (sum_s (F := F) (by (repeat (first | assumption | exact sliS_nil _ | (refine sliS_new (Blk.made _ _ _) rfl rfl (by decide); done) | refine SliS.past ?_ (by assumption) | refine sliS_alloc ?_ _))) (by have := Q5.out; omega) Q2.out).mono ?_); rintro e wB ⟨rfl, hbwB⟩)) | (go_at_call 14; ((with_reducible refine (sum_s (F := F) (by (repeat (first | assumption | exact sliS_nil _ | (refine sliS_new (Blk.made _ _ _) rfl rfl (by decide); done) | refine SliS.past ?_ (by assumption) | refine sliS_alloc ?_ _))) (by have := Q5.out; omega) Q3.out).mono ?_); rintro e wC ⟨rfl, hbwC⟩)))
  go_cut [15, 16] (fun s15 s16 wx => ∃ (aK : Option Addr) (cK : Nat), s15 = .slice aK C.length cK ∧ s16 = .int .i64 0 ∧ SliS wx (.slice aK C.length cK) C ∧ SliS wx (.slice a n cap) F ∧ Blk wx wA.heap.size #[.int .i64 A.1, .int .i64 A.2] 26 ∧ Blk wx wB.heap.size #[.int .i64 B.1, .int .i64 B.2] 26 ∧ Blk wx wC.heap.size #[.int .i64 (A.1 + B.1), .int .i64 (A.2 + B.2)] 26 ∧ Below w.heap.size w wx)
  case first =>
    go_wp2_with ((go_at_call 16; ((with_reducible refine (Calls.ofSl (n := C.length) (cut_s (F := F) (by (repeat (first | assumption | exact sliS_nil _ | (refine sliS_new (Blk.made _ _ _) rfl rfl (by decide); done) | refine SliS.past ?_ (by assumption) | refine sliS_alloc ?_ _))) (by omega) Q4.out) rfl).mono ?_); rintro e wK ⟨aK, cK, rfl, SK, hbK⟩)))
    go_meet
    case rel => exact ⟨_, _, rfl, rfl, (by (repeat (first | assumption | exact sliS_nil _ | (refine sliS_new (Blk.made _ _ _) rfl rfl (by decide); done) | refine SliS.past ?_ (by assumption) | refine sliS_alloc ?_ _))), (by (repeat (first | assumption | exact sliS_nil _ | (refine sliS_new (Blk.made _ _ _) rfl rfl (by decide); done) | refine SliS.past ?_ (by assumption) | refine sliS_alloc ?_ _))), (by (repeat (first | assumption | exact Blk.made _ _ _ | refine Blk.past ?_ (by assumption) | refine Blk.alloc ?_ _))), (by (repeat (first | assumption | exact Blk.made _ _ _ | refine Blk.past ?_ (by assumption) | refine Blk.alloc ?_ _))), (by (repeat (first | assumption | exact Blk.made _ _ _ | refine Blk.past ?_ (by assumption) | refine Blk.alloc ?_ _))), by (repeat (first | exact Below.refl _ _ | assumption | refine balloc ?_ _ | refine below_drewN ?_ _ | refine bstep (by assumption) ?_ | refine bstep (Past.prop _) ?_ | refine Below.setCell ?_ (by first | exact Nat.le_refl _ | (simp; done) | (simp; omega)) _))⟩
  obtain ⟨aK, cK, rfl, rfl, SK, S1, BA, BB, BC, hb⟩ := hcut
  generalize wA.heap.size = pA at *
  generalize wB.heap.size = pB at *
  generalize wC.heap.size = pC at *
  clear hbwA hbwB hbwC
  obtain ⟨wf, hwf⟩ : ∃ wf, wf = wc := ⟨_, rfl⟩
  go_upto_region 10 with (first | (go_at_call 14; ((with_reducible refine (sum_s (F := C) (by (repeat (first | assumption | exact sliS_nil _ | (refine sliS_new (Blk.made _ _ _) rfl rfl (by decide); done) | refine SliS.past ?_ (by assumption) | refine sliS_alloc ?_ _))) (by have := Q5.out; omega) Q6.out).mono ?_); rintro e wD ⟨rfl, hbwD⟩)) | (go_at_call 10; ((with_reducible refine (low_s (F := F) (by (repeat (first | assumption | exact sliS_nil _ | (refine sliS_new (Blk.made _ _ _) rfl rfl (by decide); done) | refine SliS.past ?_ (by assumption) | refine sliS_alloc ?_ _))) (by have := Q5.out; omega) Q7.out).mono ?_); rintro e wL ⟨rfl, hbwL⟩)))
  go_cut [21, 22] (fun s21 s22 wx => ∃ pH : Nat, s21 = .pointer (some ⟨pH, 0, none⟩) ∧ s22 = .int .i64 0 ∧ SliS wx (.slice a n cap) F ∧ Blk wx pA #[.int .i64 A.1, .int .i64 A.2] 26 ∧ Blk wx pB #[.int .i64 B.1, .int .i64 B.2] 26 ∧ Blk wx pC #[.int .i64 (A.1 + B.1), .int .i64 (A.2 + B.2)] 26 ∧ Blk wx wD.heap.size #[.int .i64 (A.1 + B.1), .int .i64 (A.2 + B.2)] 26 ∧ Blk wx wL.heap.size #[.int .i64 lo.1, .int .i64 lo.2] 26 ∧ Blk wx pH #[.int .i64 hi.1, .int .i64 hi.2] 26 ∧ Below w.heap.size w wx)
  case first =>
    go_wp2_with ((go_at_call 12; ((with_reducible refine (high_s (F := F) (by (repeat (first | assumption | exact sliS_nil _ | (refine sliS_new (Blk.made _ _ _) rfl rfl (by decide); done) | refine SliS.past ?_ (by assumption) | refine sliS_alloc ?_ _))) (by have := Q5.out; omega) Q8.out).mono ?_); rintro e wH ⟨rfl, hbwH⟩)))
    go_meet
    case rel => exact ⟨_, rfl, rfl, (by (repeat (first | assumption | exact sliS_nil _ | (refine sliS_new (Blk.made _ _ _) rfl rfl (by decide); done) | refine SliS.past ?_ (by assumption) | refine sliS_alloc ?_ _))), (by (repeat (first | assumption | exact Blk.made _ _ _ | refine Blk.past ?_ (by assumption) | refine Blk.alloc ?_ _))), (by (repeat (first | assumption | exact Blk.made _ _ _ | refine Blk.past ?_ (by assumption) | refine Blk.alloc ?_ _))), (by (repeat (first | assumption | exact Blk.made _ _ _ | refine Blk.past ?_ (by assumption) | refine Blk.alloc ?_ _))), (by (repeat (first | assumption | exact Blk.made _ _ _ | refine Blk.past ?_ (by assumption) | refine Blk.alloc ?_ _))), (by (repeat (first | assumption | exact Blk.made _ _ _ | refine Blk.past ?_ (by assumption) | refine Blk.alloc ?_ _))), Blk.made _ _ _, by (repeat (first | exact Below.refl _ _ | assumption | refine balloc ?_ _ | refine below_drewN ?_ _ | refine bstep (by assumption) ?_ | refine bstep (Past.prop _) ?_ | refine Below.setCell ?_ (by first | exact Nat.le_refl _ | (simp; done) | (simp; omega)) _))⟩
  obtain ⟨pH, rfl, rfl, S1, BA, BB, BC, BD, BL, BH, hb⟩ := hcut
  generalize wD.heap.size = pD at *
  generalize wL.heap.size = pL at *
  clear hbwD hbwL SK
  have g0 := BA.cell 0; have g1 := BA.cell 1; have gz := BA.lt; have g2 := BB.cell 0; have g3 := BB.cell 1; have gz2 := BB.lt; have g4 := BC.cell 0; have g5 := BC.cell 1; have gz4 := BC.lt; have g6 := BD.cell 0; have g7 := BD.cell 1; have gz6 := BD.lt
  simp at g0 g1 g2 g3 g4 g5 g6 g7
  obtain ⟨r1, r2, r3, r4⟩ := Q11.out
  obtain ⟨r5, r6, r7, r8⟩ := Q12.out
  have HBL := hidE BL; have HBH := hidE BH; have HS1 := hidE S1; have HBE := hidE hb
  have HN40 := hidE hn40
  clear BA BB BC BD BL BH S1 hb hn40 hx1 hx2 hj1 hk1
  go_upto_region 15 with fail
  clear g0 g1 gz g2 g3 gz2 g4 g5 gz4 g6 g7 gz6 r1 r2 r3 r4 r5 r6 r7 r8
  obtain ⟨wg, hwg⟩ : ∃ wg, wg = wc := ⟨_, rfl⟩
  subst hwg
  go_wp2
  obtain ⟨wh, hwh⟩ : ∃ wh, wh = wg.alloc (Obj.cells #[.bool false, .bool false, .bool false, .bool false] 43) := ⟨_, rfl⟩
  have hBM : Blk wh wg.heap.size #[.bool false, .bool false, .bool false, .bool false] 43 := by rw [hwh]; exact Blk.made _ _ _
  have hbh : Below wg.heap.size wg wh := by rw [hwh]; exact (Below.refl _ _).alloc (Nat.le_refl _) _
  rw [← hwh]
  have HBM := hidE hBM; have HBH2 := hidE hbh
  clear hwh hBM hbh
  go_loopg [24] (j + k) (fun gh v24 wr => ∃ (i : Nat) (b0 b1 b2 b3 : Bool), i ≤ j + k ∧ j + k - i ≤ gh ∧ v24 = .int .i64 (x + i) ∧ Blk wr wg.heap.size #[.bool b0, .bool b1, .bool b2, .bool b3] 43 ∧
    (∀ q : Nat, q < i → ((vat F (x + q)).1 = lo.1 → b0 = true) ∧ ((vat F (x + q)).2 = lo.2 → b1 = true) ∧ ((vat F (x + q)).1 = hi.1 → b2 = true) ∧ ((vat F (x + q)).2 = hi.2 → b3 = true)) ∧ Below wg.heap.size wg wr)
  case atStart => exact ⟨0, false, false, false, false, Nat.zero_le _, by omega, congrArg (Value.int .i64) (by omega), HBM.out, fun q hq => by omega, HBH2.out⟩
  case round =>
    obtain ⟨i, b0, b1, b2, b3, hi', hg, rfl, hM, hcond, hb⟩ := hrel
    have HM := hidE hM; have HCO := hidE hcond; have HB := hidE hb; have HG := hidE hg
    have HLW := hidE (HBL.out.below hb HBL.out.lt); have HHW := hidE (HBH.out.below hb HBH.out.lt)
    clear hM hcond hb hg
    have hx := HX.out; have hjk := HJK.out
    obtain ⟨wo, hwo⟩ : ∃ wo : World, wo = wr := ⟨_, rfl⟩
    by_cases hlt : i < j + k
    · have hd : decide (x + (i : Int) < x + (j : Int) + (k : Int)) = true := decide_eq_true (by omega)
      obtain ⟨l1, l2⟩ := Q9.out i hlt
      obtain ⟨v, hv⟩ : ∃ v, vat F (x + i) = v := ⟨_, rfl⟩
      rw [hv] at l1 l2
      have HV := hidE hv
      have HL1 := hidE (fun w => rle lo.1 lo.2 v.1 v.2 w); have HL2 := hidE (fun w => rle v.1 v.2 hi.1 hi.2 w)
      rw [l1] at HL1; rw [l2] at HL2
      have HSW := hidE (HS1.out.past HB.out)
      clear l1 l2 hv
      go_upto_region 20 with (go_at_call 22; ((with_reducible refine (rat_s (F := F) HSW.out (by have := HN40.out; omega) HV.out).mono ?_); rintro e w1 ⟨rfl, hb1⟩))
      have hB25 : Blk (w1.alloc (Obj.cells #[.int .i64 v.1, .int .i64 v.2] 26)) w1.heap.size #[.int .i64 v.1, .int .i64 v.2] 26 := Blk.made _ _ _
      have hL1 := (HLW.out.past hb1).alloc (Obj.cells #[.int .i64 v.1, .int .i64 v.2] 26)
      have hH1 := (HHW.out.past hb1).alloc (Obj.cells #[.int .i64 v.1, .int .i64 v.2] 26)
      have hM1 := (HM.out.past hb1).alloc (Obj.cells #[.int .i64 v.1, .int .i64 v.2] 26)
      have hbw1 : Below wg.heap.size wg (w1.alloc (Obj.cells #[.int .i64 v.1, .int .i64 v.2] 26)) := by have := HB.out; (repeat (first | exact Below.refl _ _ | assumption | refine balloc ?_ _ | refine below_drewN ?_ _ | refine bstep (by assumption) ?_ | refine bstep (Past.prop _) ?_ | refine Below.setCell ?_ (by first | exact Nat.le_refl _ | (simp; done) | (simp; omega)) _))
      obtain ⟨w2, hw2⟩ : ∃ w2, w2 = w1.alloc (Obj.cells #[.int .i64 v.1, .int .i64 v.2] 26) := ⟨_, rfl⟩
      rw [← hw2] at hB25 hL1 hH1 hM1 hbw1 ⊢
      have HNE25 := hidE (show w1.heap.size ≠ wg.heap.size by have := hb1.size; have := HM.out.lt; omega)
      generalize w1.heap.size = p25 at *
      have HBW2 := hidE hbw1; have HM2 := hidE hM1; have H25 := hidE hB25; have HL22 := hidE hL1; have HH22 := hidE hH1
      have a0 := hB25.cell 0; have a1 := hB25.cell 1; have az := hB25.lt; have c0 := hL1.cell 0; have c1 := hL1.cell 1; have cz := hL1.lt; have d0 := hH1.cell 0; have d1 := hH1.cell 1; have dz := hH1.lt
      simp at a0 a1 c0 c1 d0 d1
      clear hw2 hb1 hB25 hL1 hH1 hM1 hbw1
      go_upto_region 22 with (first | (go_at_call 23; ((with_reducible refine (HL1.out _).mono ?_); rintro e w3 ⟨rfl, hb3⟩; obtain ⟨hc3, hf3⟩ := bcell hb3)) | (go_at_call 23; ((with_reducible refine (HL2.out _).mono ?_); rintro e w4 ⟨rfl, hb4⟩)))
      have hM4 := (HM2.out.past hb3).past hb4
      have h254 := (H25.out.past hb3).past hb4
      have hL4 := (HL22.out.past hb3).past hb4
      have hH4 := (HH22.out.past hb3).past hb4
      have hbw4 := bstep hb4 (bstep hb3 HBW2.out)
      clear a0 a1 az c0 c1 cz d0 d1 dz hc3 hf3 hb3 hb4
      have HNE := hidE (show p25 ≠ wg.heap.size ∧ pL ≠ wg.heap.size ∧ pH ≠ wg.heap.size from ⟨HNE25.out, by have := HBL.out.lt; omega, by have := HBH.out.lt; omega⟩)
      have m0 := hM4.cell 0; have m1 := hM4.cell 1; have m2 := hM4.cell 2; have m3 := hM4.cell 3; have mz := hM4.lt; have mf := hM4.free; have a0 := h254.cell 0; have a1 := h254.cell 1; have az := h254.lt; have c0 := hL4.cell 0; have c1 := hL4.cell 1; have cz := hL4.lt
      simp at m0 m1 m2 m3 a0 a1 c0 c1
      have HM4 := hidE hM4; have H254 := hidE h254; have HL4 := hidE hL4; have HH4 := hidE hH4; have HBW4 := hidE hbw4
      clear hM4 h254 hL4 hH4 hbw4
      have hne1 : p25 ≠ wg.heap.size := HNE.out.1
      have hne2 : pL ≠ wg.heap.size := HNE.out.2.1
      have hne3 : pH ≠ wg.heap.size := HNE.out.2.2
      go_upto_region 22 with fail
      go_cut [190] (fun s190 wx => Blk wx wg.heap.size #[.bool (b0 || (v.1 == lo.1)), .bool b1, .bool b2, .bool b3] 43 ∧ Blk wx p25 #[.int .i64 v.1, .int .i64 v.2] 26 ∧ Blk wx pL #[.int .i64 lo.1, .int .i64 lo.2] 26 ∧ Blk wx pH #[.int .i64 hi.1, .int .i64 hi.2] 26 ∧ Below wg.heap.size wg wx)
      case first =>
        cases b0
        all_goals
          go_wp2
          go_meet
          case rel => exact ⟨by simpa using HM4.out.set 0 _, H254.out.other hne1 _, HL4.out.other hne2 _, HH4.out.other hne3 _, HBW4.out.setCell (p := ⟨wg.heap.size, 0, none⟩) (Nat.le_refl _) _⟩
      obtain ⟨hM4, h254, hL4, hH4, hbw4⟩ := hcut
      clear m0 m1 m2 m3 mz mf a0 a1 az c0 c1 cz HM4 H254 HL4 HH4 HBW4
      have m0 := hM4.cell 0; have m1 := hM4.cell 1; have m2 := hM4.cell 2; have m3 := hM4.cell 3; have mz := hM4.lt; have mf := hM4.free; have a0 := h254.cell 0; have a1 := h254.cell 1; have az := h254.lt; have c0 := hL4.cell 0; have c1 := hL4.cell 1; have cz := hL4.lt
      simp at m0 m1 m2 m3 a0 a1 c0 c1
      have HM4 := hidE hM4; have H254 := hidE h254; have HL4 := hidE hL4; have HH4 := hidE hH4; have HBW4 := hidE hbw4
      clear hM4 h254 hL4 hH4 hbw4
      have hne1 : p25 ≠ wg.heap.size := HNE.out.1
      have hne2 : pL ≠ wg.heap.size := HNE.out.2.1
      have hne3 : pH ≠ wg.heap.size := HNE.out.2.2
      go_upto_region 23 with fail
      go_cut [200] (fun s200 wx => Blk wx wg.heap.size #[.bool (b0 || (v.1 == lo.1)), .bool (b1 || (v.2 == lo.2)), .bool b2, .bool b3] 43 ∧ Blk wx p25 #[.int .i64 v.1, .int .i64 v.2] 26 ∧ Blk wx pL #[.int .i64 lo.1, .int .i64 lo.2] 26 ∧ Blk wx pH #[.int .i64 hi.1, .int .i64 hi.2] 26 ∧ Below wg.heap.size wg wx)
      case first =>
        cases b1
        all_goals
          go_wp2
          go_meet
          case rel => exact ⟨by simpa using HM4.out.set 1 _, H254.out.other hne1 _, HL4.out.other hne2 _, HH4.out.other hne3 _, HBW4.out.setCell (p := ⟨wg.heap.size, 1, none⟩) (Nat.le_refl _) _⟩
      obtain ⟨hM4, h254, hL4, hH4, hbw4⟩ := hcut
      clear m0 m1 m2 m3 mz mf a0 a1 az c0 c1 cz HM4 H254 HL4 HH4 HBW4
      have m0 := hM4.cell 0; have m1 := hM4.cell 1; have m2 := hM4.cell 2; have m3 := hM4.cell 3; have mz := hM4.lt; have mf := hM4.free; have a0 := h254.cell 0; have a1 := h254.cell 1; have az := h254.lt; have c0 := hH4.cell 0; have c1 := hH4.cell 1; have cz := hH4.lt
      simp at m0 m1 m2 m3 a0 a1 c0 c1
      have HM4 := hidE hM4; have H254 := hidE h254; have HL4 := hidE hL4; have HH4 := hidE hH4; have HBW4 := hidE hbw4
      clear hM4 h254 hL4 hH4 hbw4
      have hne1 : p25 ≠ wg.heap.size := HNE.out.1
      have hne2 : pL ≠ wg.heap.size := HNE.out.2.1
      have hne3 : pH ≠ wg.heap.size := HNE.out.2.2
      go_upto_region 24 with fail
      go_cut [210] (fun s210 wx => Blk wx wg.heap.size #[.bool (b0 || (v.1 == lo.1)), .bool (b1 || (v.2 == lo.2)), .bool (b2 || (v.1 == hi.1)), .bool b3] 43 ∧ Blk wx p25 #[.int .i64 v.1, .int .i64 v.2] 26 ∧ Blk wx pL #[.int .i64 lo.1, .int .i64 lo.2] 26 ∧ Blk wx pH #[.int .i64 hi.1, .int .i64 hi.2] 26 ∧ Below wg.heap.size wg wx)
      case first =>
        cases b2
        all_goals
          go_wp2
          go_meet
          case rel => exact ⟨by simpa using HM4.out.set 2 _, H254.out.other hne1 _, HL4.out.other hne2 _, HH4.out.other hne3 _, HBW4.out.setCell (p := ⟨wg.heap.size, 2, none⟩) (Nat.le_refl _) _⟩
      obtain ⟨hM4, h254, hL4, hH4, hbw4⟩ := hcut
      clear m0 m1 m2 m3 mz mf a0 a1 az c0 c1 cz HM4 H254 HL4 HH4 HBW4
      have m0 := hM4.cell 0; have m1 := hM4.cell 1; have m2 := hM4.cell 2; have m3 := hM4.cell 3; have mz := hM4.lt; have mf := hM4.free; have a0 := h254.cell 0; have a1 := h254.cell 1; have az := h254.lt; have c0 := hH4.cell 0; have c1 := hH4.cell 1; have cz := hH4.lt
      simp at m0 m1 m2 m3 a0 a1 c0 c1
      have HM4 := hidE hM4; have H254 := hidE h254; have HL4 := hidE hL4; have HH4 := hidE hH4; have HBW4 := hidE hbw4
      clear hM4 h254 hL4 hH4 hbw4
      have hne1 : p25 ≠ wg.heap.size := HNE.out.1
      have hne2 : pL ≠ wg.heap.size := HNE.out.2.1
      have hne3 : pH ≠ wg.heap.size := HNE.out.2.2
      cases b3
      case false =>
        go_wp2
        go_roundg (j + k - (i + 1))
        case measure => have := HG.out; omega
        case rel =>
          refine ⟨i + 1, b0 || (v.1 == lo.1), b1 || (v.2 == lo.2), b2 || (v.1 == hi.1), (v.2 == hi.2), by omega, Nat.le_refl _, congrArg (Value.int .i64) (by omega), by simpa using HM4.out.set 3 _, fun q hq => ?_, HBW4.out.setCell (p := ⟨wg.heap.size, 3, none⟩) (Nat.le_refl _) _⟩
          have hco := HCO.out
          by_cases e : q = i
          · subst e
            rw [HV.out]
            refine ⟨fun h => ?_, fun h => ?_, fun h => ?_, fun h => ?_⟩ <;> simp [h]
          · obtain ⟨k1, k2, k3, k4⟩ := hco q (by omega)
            refine ⟨fun h => ?_, fun h => ?_, fun h => ?_, fun h => ?_⟩
            · rw [k1 h]; rfl
            · rw [k2 h]; rfl
            · rw [k3 h]; rfl
            · exact absurd (k4 h) (by decide)
      case true =>
        go_wp2
        go_roundg (j + k - (i + 1))
        case measure => have := HG.out; omega
        case rel =>
          refine ⟨i + 1, b0 || (v.1 == lo.1), b1 || (v.2 == lo.2), b2 || (v.1 == hi.1), true, by omega, Nat.le_refl _, congrArg (Value.int .i64) (by omega), by simpa using HM4.out.set 3 _, fun q hq => ?_, HBW4.out.setCell (p := ⟨wg.heap.size, 3, none⟩) (Nat.le_refl _) _⟩
          have hco := HCO.out
          by_cases e : q = i
          · subst e
            rw [HV.out]
            refine ⟨fun h => ?_, fun h => ?_, fun h => ?_, fun h => ?_⟩ <;> simp [h]
          · obtain ⟨k1, k2, k3, k4⟩ := hco q (by omega)
            refine ⟨fun h => ?_, fun h => ?_, fun h => ?_, fun h => ?_⟩
            · rw [k1 h]; rfl
            · rw [k2 h]; rfl
            · rw [k3 h]; rfl
            · rfl
    · obtain rfl : i = j + k := by omega
      have hd : decide (x + ((j + k : Nat) : Int) < x + (j : Int) + (k : Int)) = false := decide_eq_false (by omega)
      have hd2 : decide (x + ((j : Int) + (k : Int)) < x + (j : Int) + (k : Int)) = false := decide_eq_false (by omega)
      obtain ⟨⟨t1, ht1, e1⟩, ⟨t2, ht2, e2⟩, ⟨t3, ht3, e3⟩, t4, ht4, e4⟩ := Q10.out
      obtain rfl : b0 = true := (HCO.out t1 ht1).1 e1
      obtain rfl : b1 = true := (HCO.out t2 ht2).2.1 e2
      obtain rfl : b2 = true := (HCO.out t3 ht3).2.2.1 e3
      obtain rfl : b3 = true := (HCO.out t4 ht4).2.2.2 e4
      have m0 := HM.out.cell 0; have m1 := HM.out.cell 1; have m2 := HM.out.cell 2; have m3 := HM.out.cell 3; have mz := HM.out.lt
      simp at m0 m1 m2 m3
      have heq4 := eq4
      go_wp2_with (go_at_call 9; ((with_reducible refine (shead_c _).mono ?_); rintro e w9 ⟨rfl, hb9⟩))
      go_ret
      exact ⟨rfl, (HBE.out.trans (HB.out.mono HBE.out.size)).trans (hb9.mono (by have := HBE.out.size; have := HB.out.size; omega))⟩
end Go.Proofs.Ythgenmejjflceaa

namespace Go.Proofs.Ythgenmejjflceaa
open Go.ChangeShapes Go.WideShapes Go.ChangeAt Go.RowKit

theorem sparts_c (F : List Sg) (x n0 n1 : Int) (a : Option Addr) (cap : Nat) (w : World) (S1 : SliS w (.slice a F.length cap) F) (h0 : 0 ≤ n0 ∧ n0 ≤ 255) (h1 : 0 ≤ n1 ∧ n1 ≤ 255) :
    Calls Try.prog 5 #[.slice a F.length cap, .int .i64 x, .agg #[.int .u8 n0, .int .u8 n1]] w fun e w' => e = .returned (.bool true) ∧ Below w.heap.size w w' := by
  by_cases h : 40 < F.length ∨ x < -562949953421312 ∨ 562949953421312 < x ∨ mayB F = false
  · exact sparts_many F F.length x n0 n1 a cap w S1 h
  · have hm : mayB F = true := by
      cases q : mayB F
      · exact absurd (.inr (.inr (.inr q))) h
      · rfl
    exact sparts_few F F.length x n0 n1 a cap w S1 (by omega) (by omega) (by omega) hm h0 h1

set_option maxRecDepth 100000 in
theorem spanParts_lifted (os : Os) (started : os.Started) (H : Type) (enc : TypeId × Value → H) :
    ReturnsInHanded {} Try.checked os 5 .any (Rows.spanPartsSpec.pre6 enc Try.prog Try.f5 Rows.spanPartsRow.domain false) (Rows.spanPartsSpec.post enc Try.prog Try.f5 false true false false) := by
  refine returnsInHanded_of_change (C := Try.checked) own started (by kernel_rfl) Try.func5
    (ChangeSpec.witness6 (enc := enc) (C := Try.checked) false ⟨#[], #[.slice none 0 0, .int .i64 0, .agg #[.int .u8 0, .int .u8 0]], []⟩ 8 (by kernel_rfl) (by kernel_rfl) (by kernel_rfl) (by kernel_rfl)) ?_
  intro W base args ds gs before hval0 hW _ _
  have hval : ∀ (j : Nat) t v, Try.f5.params[j]? = some t → args[j]? = some v → Value.okWide Try.prog W .any base t v := hval0
  have hW' := hW
  obtain ⟨p, q, hA0, hV, rfl, hfz, hnd⟩ := hW
  have hA : DataW.TrodAll enc Try.prog W 0 (fun _ => true) true Try.f5.params.toList args.toList ds p := hA0
  rw [Try.params5] at hA hval
  obtain ⟨v0, vs0, d0, ds0, p0, q0, hargs, rfl, rfl, h0, r0⟩ := trodAll_cons hA
  obtain ⟨v1, vs1, d1, ds1, p1, q1, rfl, rfl, rfl, h1, r1⟩ := trodAll_cons r0
  obtain ⟨v2, vs2, d2, ds2, p2, q2, rfl, rfl, rfl, h2, r2⟩ := trodAll_cons r1
  obtain ⟨rfl, rfl, rfl⟩ := trodAll_nil r2
  obtain rfl : args = #[v0, v1, v2] := by cases args; simp_all
  obtain ⟨l0, o0, c0, rfl, hl0, hA0', hS0⟩ := open_slisP (hval 0 22 v0 rfl rfl) h0
  obtain ⟨a1, rfl, rfl, rfl, wa1⟩ := open_int Try.underlying2 (hval 1 2 v1 rfl rfl) h1
  have ha1 : -9223372036854775808 ≤ a1 ∧ a1 ≤ 9223372036854775807 := by simpa [Lit.wf, IntKind.min, IntKind.max, IntKind.signed, IntKind.bits] using wa1
  obtain ⟨a2, b2, rfl, ha2, hb2⟩ := open_u8s Try.underlying42 Try.underlying5 (by kernel_rfl) (by kernel_rfl) (hval 2 42 v2 rfl rfl) h2
  clear hA0 hval0
  refine (sparts_c l0 a1 a2 b2 o0 c0 W hA0' ha2 hb2).mono fun e W' ⟨he, hb⟩ => ?_
  subst he
  exact ⟨_, rfl, law_post laidOut (readOk_spec (by kernel_rfl)) rfl Try.underlying4 rfl ⟨rfl, rfl, rfl⟩ hW' hb⟩

theorem spanParts_holds : Rows.SpanPartsSaid :=
  OpenClaim.holds_of_wide 5 Try.f5 rfl rfl rfl rfl rfl rfl rfl ⟨rfl, rfl, rfl, rfl, rfl⟩ rfl rfl rfl rfl rfl (by kernel_rfl) Try.func5 (by kernel_rfl)
    (of_decide_eq_true (by kernel_rfl)) (by unfold Func.isWrapper; first | (rw [if_pos (by decide +kernel)]; kernel_rfl) | (rw [if_neg (by decide +kernel)]; exact ⟨rfl, rfl⟩))
    (fun os started H enc _ => spanParts_lifted os started H enc)
end Go.Proofs.Ythgenmejjflceaa
