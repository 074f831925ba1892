/- The reference's product. No conditions. -/
import Derived.Test.YtnhegohhffecpaaVecRef
namespace Go.Proofs.Ytnhegohhffecpaa
open Go.ChangeShapes Go.WideShapes Go.ChangeAt Go.RowKit

theorem rtimes_pp (A B : Int) (w : World) (hA : 0 < A ∧ A ≤ 1125899906842624) (hB : 0 < B ∧ B ≤ 1125899906842624) :
    Calls Try.prog 30 #[.int .i64 (A), .int .i64 (B)] w (RTs (A) (B) w) := by
  have hs : A * B = (A * B) := by first | rfl | exact Int.neg_mul _ _ | exact Int.mul_neg _ _ | exact Int.neg_mul_neg _ _
  have hp : 0 ≤ A * B := Int.mul_nonneg (by omega) (by omega)
  have hq : A ≤ 1125899906842624 / B ↔ A * B ≤ 1125899906842624 := Int.le_ediv_iff_mul_le hB.1
  have HS := hidE hs; have HP := hidE hp; have HQ := hidE hq
  clear hs hp hq
  have z1 : (A == 0) = false := beq_eq_false_iff_ne.2 (by omega)
  have z2 : (B == 0) = false := beq_eq_false_iff_ne.2 (by omega)
  have z3 : ((-A) == 0) = false := beq_eq_false_iff_ne.2 (by omega)
  have z4 : ((-B) == 0) = false := beq_eq_false_iff_ne.2 (by omega)
  by_cases h : A ≤ 1125899906842624 / B
  · have hk : A * B ≤ 1125899906842624 := HQ.out.1 h
    have HK := hidE hk; clear hk
    go_enter Try.func30, Try.ntmps30
    go_wp2
    go_ret2
    refine ⟨_, _, rfl, ?_, rfl⟩
    intro _
    have e1 := HS.out; have e2 := HP.out; have e3 := HK.out
    refine ⟨(decide_eq_true (by omega)).symm, fun _ => ?_⟩
    first | rfl | exact IntWalk.wrap64_in _ (by omega) | (simp only [e1]; exact IntWalk.wrap64_in _ (by omega)) | (rw [e1]; simp)
  · have hk : ¬ A * B ≤ 1125899906842624 := fun h' => h (HQ.out.2 h')
    have HK := hidE hk; clear hk
    go_enter Try.func30, Try.ntmps30
    go_wp2
    go_ret2
    refine ⟨_, _, rfl, ?_, rfl⟩
    intro _
    have e1 := HS.out; have e2 := HP.out; have e3 := HK.out
    exact ⟨(decide_eq_false (by omega)).symm, fun h' => by cases h'⟩
theorem rtimes_np (A B : Int) (w : World) (hA : 0 < A ∧ A ≤ 1125899906842624) (hB : 0 < B ∧ B ≤ 1125899906842624) :
    Calls Try.prog 30 #[.int .i64 (-A), .int .i64 (B)] w (RTs (-A) (B) w) := by
  have hs : -A * B = (-(A * B)) := by first | rfl | exact Int.neg_mul _ _ | exact Int.mul_neg _ _ | exact Int.neg_mul_neg _ _
  have hp : 0 ≤ A * B := Int.mul_nonneg (by omega) (by omega)
  have hq : A ≤ 1125899906842624 / B ↔ A * B ≤ 1125899906842624 := Int.le_ediv_iff_mul_le hB.1
  have HS := hidE hs; have HP := hidE hp; have HQ := hidE hq
  clear hs hp hq
  have z1 : (A == 0) = false := beq_eq_false_iff_ne.2 (by omega)
  have z2 : (B == 0) = false := beq_eq_false_iff_ne.2 (by omega)
  have z3 : ((-A) == 0) = false := beq_eq_false_iff_ne.2 (by omega)
  have z4 : ((-B) == 0) = false := beq_eq_false_iff_ne.2 (by omega)
  by_cases h : A ≤ 1125899906842624 / B
  · have hk : A * B ≤ 1125899906842624 := HQ.out.1 h
    have HK := hidE hk; clear hk
    go_enter Try.func30, Try.ntmps30
    go_wp2
    go_ret2
    refine ⟨_, _, rfl, ?_, rfl⟩
    intro _
    have e1 := HS.out; have e2 := HP.out; have e3 := HK.out
    refine ⟨(decide_eq_true (by omega)).symm, fun _ => ?_⟩
    first | rfl | exact IntWalk.wrap64_in _ (by omega) | (simp only [e1]; exact IntWalk.wrap64_in _ (by omega)) | (rw [e1]; simp)
  · have hk : ¬ A * B ≤ 1125899906842624 := fun h' => h (HQ.out.2 h')
    have HK := hidE hk; clear hk
    go_enter Try.func30, Try.ntmps30
    go_wp2
    go_ret2
    refine ⟨_, _, rfl, ?_, rfl⟩
    intro _
    have e1 := HS.out; have e2 := HP.out; have e3 := HK.out
    exact ⟨(decide_eq_false (by omega)).symm, fun h' => by cases h'⟩
theorem rtimes_pn (A B : Int) (w : World) (hA : 0 < A ∧ A ≤ 1125899906842624) (hB : 0 < B ∧ B ≤ 1125899906842624) :
    Calls Try.prog 30 #[.int .i64 (A), .int .i64 (-B)] w (RTs (A) (-B) w) := by
  have hs : A * -B = (-(A * B)) := by first | rfl | exact Int.neg_mul _ _ | exact Int.mul_neg _ _ | exact Int.neg_mul_neg _ _
  have hp : 0 ≤ A * B := Int.mul_nonneg (by omega) (by omega)
  have hq : A ≤ 1125899906842624 / B ↔ A * B ≤ 1125899906842624 := Int.le_ediv_iff_mul_le hB.1
  have HS := hidE hs; have HP := hidE hp; have HQ := hidE hq
  clear hs hp hq
  have z1 : (A == 0) = false := beq_eq_false_iff_ne.2 (by omega)
  have z2 : (B == 0) = false := beq_eq_false_iff_ne.2 (by omega)
  have z3 : ((-A) == 0) = false := beq_eq_false_iff_ne.2 (by omega)
  have z4 : ((-B) == 0) = false := beq_eq_false_iff_ne.2 (by omega)
  by_cases h : A ≤ 1125899906842624 / B
  · have hk : A * B ≤ 1125899906842624 := HQ.out.1 h
    have HK := hidE hk; clear hk
    go_enter Try.func30, Try.ntmps30
    go_wp2
    go_ret2
    refine ⟨_, _, rfl, ?_, rfl⟩
    intro _
    have e1 := HS.out; have e2 := HP.out; have e3 := HK.out
    refine ⟨(decide_eq_true (by omega)).symm, fun _ => ?_⟩
    first | rfl | exact IntWalk.wrap64_in _ (by omega) | (simp only [e1]; exact IntWalk.wrap64_in _ (by omega)) | (rw [e1]; simp)
  · have hk : ¬ A * B ≤ 1125899906842624 := fun h' => h (HQ.out.2 h')
    have HK := hidE hk; clear hk
    go_enter Try.func30, Try.ntmps30
    go_wp2
    go_ret2
    refine ⟨_, _, rfl, ?_, rfl⟩
    intro _
    have e1 := HS.out; have e2 := HP.out; have e3 := HK.out
    exact ⟨(decide_eq_false (by omega)).symm, fun h' => by cases h'⟩
theorem rtimes_nn (A B : Int) (w : World) (hA : 0 < A ∧ A ≤ 1125899906842624) (hB : 0 < B ∧ B ≤ 1125899906842624) :
    Calls Try.prog 30 #[.int .i64 (-A), .int .i64 (-B)] w (RTs (-A) (-B) w) := by
  have hs : -A * -B = (A * B) := by first | rfl | exact Int.neg_mul _ _ | exact Int.mul_neg _ _ | exact Int.neg_mul_neg _ _
  have hp : 0 ≤ A * B := Int.mul_nonneg (by omega) (by omega)
  have hq : A ≤ 1125899906842624 / B ↔ A * B ≤ 1125899906842624 := Int.le_ediv_iff_mul_le hB.1
  have HS := hidE hs; have HP := hidE hp; have HQ := hidE hq
  clear hs hp hq
  have z1 : (A == 0) = false := beq_eq_false_iff_ne.2 (by omega)
  have z2 : (B == 0) = false := beq_eq_false_iff_ne.2 (by omega)
  have z3 : ((-A) == 0) = false := beq_eq_false_iff_ne.2 (by omega)
  have z4 : ((-B) == 0) = false := beq_eq_false_iff_ne.2 (by omega)
  by_cases h : A ≤ 1125899906842624 / B
  · have hk : A * B ≤ 1125899906842624 := HQ.out.1 h
    have HK := hidE hk; clear hk
    go_enter Try.func30, Try.ntmps30
    go_wp2
    go_ret2
    refine ⟨_, _, rfl, ?_, rfl⟩
    intro _
    have e1 := HS.out; have e2 := HP.out; have e3 := HK.out
    refine ⟨(decide_eq_true (by omega)).symm, fun _ => ?_⟩
    first | rfl | exact IntWalk.wrap64_in _ (by omega) | (simp only [e1]; exact IntWalk.wrap64_in _ (by omega)) | (rw [e1]; simp)
  · have hk : ¬ A * B ≤ 1125899906842624 := fun h' => h (HQ.out.2 h')
    have HK := hidE hk; clear hk
    go_enter Try.func30, Try.ntmps30
    go_wp2
    go_ret2
    refine ⟨_, _, rfl, ?_, rfl⟩
    intro _
    have e1 := HS.out; have e2 := HP.out; have e3 := HK.out
    exact ⟨(decide_eq_false (by omega)).symm, fun h' => by cases h'⟩

theorem far_mul {x n : Int} (hx : x ≠ 0) (h : n < -1125899906842624 ∨ 1125899906842624 < n) : ¬ (-1125899906842624 ≤ x * n ∧ x * n ≤ 1125899906842624) := by
  have key : ∀ A B : Int, 1 ≤ A → 1125899906842624 < B → 1125899906842624 < A * B := fun A B hA hB => by
    have := Int.mul_le_mul_of_nonneg_right (c := B) hA (by omega)
    omega
  rcases Int.lt_or_gt_of_ne hx with hx | hx
  · rcases h with h | h
    · have := key (-x) (-n) (by omega) (by omega); rw [Int.neg_mul_neg] at this; omega
    · have := key (-x) n (by omega) (by omega); rw [Int.neg_mul] at this; omega
  · rcases h with h | h
    · have := key x (-n) (by omega) (by omega); rw [Int.mul_neg] at this; omega
    · have := key x n (by omega) (by omega); omega

theorem rtimes (x n : Int) (w : World) (hx : -9223372036854775808 ≤ x ∧ x ≤ 9223372036854775807) (hn : -9223372036854775808 ≤ n ∧ n ≤ 9223372036854775807) :
    Calls Try.prog 30 #[.int .i64 x, .int .i64 n] w (RTs x n w) := by
  by_cases x0 : x = 0
  · subst x0
    go_enter Try.func30, Try.ntmps30
    go_wp2
    go_ret2
    exact ⟨_, _, rfl, fun _ => ⟨by simp, fun _ => by simp⟩, rfl⟩
  have zx : (x == 0) = false := beq_eq_false_iff_ne.2 x0
  by_cases n0 : n = 0
  · subst n0
    go_enter Try.func30, Try.ntmps30
    go_wp2
    go_ret2
    exact ⟨_, _, rfl, fun _ => ⟨by simp, fun _ => by simp⟩, rfl⟩
  have zn : (n == 0) = false := beq_eq_false_iff_ne.2 n0
  have FM := fun h => hidE (far_mul (x := x) (n := n) x0 h)
  have FM' := hidE FM; clear FM
  by_cases h1 : 1125899906842624 < n
  · go_enter Try.func30, Try.ntmps30
    go_wp2
    go_ret2
    exact ⟨_, _, rfl, fun _ => ⟨(decide_eq_false (FM'.out (.inr h1)).out).symm, fun h => by cases h⟩, rfl⟩
  by_cases h2 : n < -1125899906842624
  · go_enter Try.func30, Try.ntmps30
    go_wp2
    go_ret2
    exact ⟨_, _, rfl, fun _ => ⟨(decide_eq_false (FM'.out (.inl h2)).out).symm, fun h => by cases h⟩, rfl⟩
  by_cases hv : -1125899906842624 ≤ x ∧ x ≤ 1125899906842624
  · clear FM' zx zn
    by_cases hx0 : 0 < x
    · by_cases hn0 : 0 < n
      · exact rtimes_pp x n w (by omega) (by omega)
      · obtain ⟨B, rfl⟩ : ∃ B, n = -B := ⟨-n, by omega⟩
        exact rtimes_pn x B w (by omega) (by omega)
    · obtain ⟨A, rfl⟩ : ∃ A, x = -A := ⟨-x, by omega⟩
      by_cases hn0 : 0 < n
      · exact rtimes_np A n w (by omega) (by omega)
      · obtain ⟨B, rfl⟩ : ∃ B, n = -B := ⟨-n, by omega⟩
        exact rtimes_nn A B w (by omega) (by omega)
  · have hv' : ∀ r b, RT x n r b := fun r b h => absurd h hv
    have HV := hidE hv'
    clear hv' FM'
    clear hv
    by_cases hn0 : 0 < n
    · by_cases hm : x = -9223372036854775808
      · subst hm
        go_enter Try.func30, Try.ntmps30
        go_wp2
        all_goals
          go_ret2
          exact ⟨_, _, rfl, HV.out _ _, rfl⟩
      · go_enter Try.func30, Try.ntmps30
        go_wp2
        all_goals
          go_ret2
          exact ⟨_, _, rfl, HV.out _ _, rfl⟩
    · obtain ⟨B, rfl⟩ : ∃ B, n = -B := ⟨-n, by omega⟩
      by_cases hm : x = -9223372036854775808
      · subst hm
        go_enter Try.func30, Try.ntmps30
        go_wp2
        all_goals
          go_ret2
          exact ⟨_, _, rfl, HV.out _ _, rfl⟩
      · go_enter Try.func30, Try.ntmps30
        go_wp2
        all_goals
          go_ret2
          exact ⟨_, _, rfl, HV.out _ _, rfl⟩

theorem rscl (a b n : Int) (w : World) (ha : -9223372036854775808 ≤ a ∧ a ≤ 9223372036854775807) (hb' : -9223372036854775808 ≤ b ∧ b ≤ 9223372036854775807) (hn : -9223372036854775808 ≤ n ∧ n ≤ 9223372036854775807) :
    Calls Try.prog 10 #[V a b, .int .i64 n] w fun e w' => e = .returned (VE (sclS a b n)) ∧ Below w.heap.size w w' := by
  have Ha := hidE ha; have Hb := hidE hb'; have Hn := hidE hn
  clear ha hb' hn
  cases h : okV a b
  · have e : sclS a b n = (0, 0, 10) := by unfold sclS; rw [h]; rfl
    rw [e]; clear e
    go_enter Try.func10, Try.ntmps10
    go_wp2_with fail
    ((with_reducible refine (rtimes a n _ Ha.out Hn.out).mono ?_); rintro e w' ⟨r1, b1, rfl, hr1, rfl⟩)
    go_wp2_with fail
    ((with_reducible refine (rtimes b n _ Hb.out Hn.out).mono ?_); rintro e w' ⟨r2, b2, rfl, hr2, rfl⟩)
    clear hr1 hr2
    go_wp2_with (go_at_call 14; ((with_reducible refine (rmay_eq h).mono ?_); rintro e w' ⟨rfl, hb⟩; obtain ⟨hc, hf⟩ := bcell hb; have hz0 := bsz hb (w.heap.size) (by first | assumption | (simp; done) | (simp; omega)); have hz1 := bsz hb (w.heap.size + 1) (by first | assumption | (simp; done) | (simp; omega))))
    refine bodyPost_ret (v := VE (0, 0, 10)) (by simp [results, Try.results10, go_sem, *]) rfl ⟨rfl, ?_⟩
    (repeat (first | exact Below.refl _ _ | assumption | refine balloc ?_ _ | refine below_drewN ?_ _ | refine bstep (by assumption) ?_ | refine bstep (Past.prop _) ?_ | refine Below.setCell ?_ (by first | exact Nat.le_refl _ | (simp; done) | (simp; omega)) _))
  · have g := okV_iff.1 h
    go_enter Try.func10, Try.ntmps10
    go_wp2_with fail
    ((with_reducible refine (rtimes a n _ Ha.out Hn.out).mono ?_); rintro e w' ⟨r1, b1, rfl, hr1, rfl⟩)
    go_wp2_with fail
    ((with_reducible refine (rtimes b n _ Hb.out Hn.out).mono ?_); rintro e w' ⟨r2, b2, rfl, hr2, rfl⟩)
    obtain ⟨e1, f1⟩ := hr1 (by omega)
    obtain ⟨e2, f2⟩ := hr2 (by omega)
    clear hr1 hr2
    have E1 := hidE e1; have E2 := hidE e2; have F1 := hidE f1; have F2 := hidE f2
    clear e1 e2 f1 f2 g
    cases b1
    · have e : sclS a b n = (0, 0, 10) := by
        have := of_decide_eq_false E1.out.symm
        unfold sclS; rw [h]; exact gate_false (by rw [Bool.true_and, okV_not]; omega)
      have E := hidE e; clear e
      go_wp2_with (go_at_call 14; ((with_reducible refine (rmay_eq h).mono ?_); rintro e w' ⟨rfl, hb⟩; obtain ⟨hc, hf⟩ := bcell hb; have hz0 := bsz hb (w.heap.size) (by first | assumption | (simp; done) | (simp; omega)); have hz1 := bsz hb (w.heap.size + 1) (by first | assumption | (simp; done) | (simp; omega))))
      refine bodyPost_ret (v := VE (0, 0, 10)) (by simp [results, Try.results10, go_sem, *]) rfl ⟨by rw [E.out], ?_⟩
      (repeat (first | exact Below.refl _ _ | assumption | refine balloc ?_ _ | refine below_drewN ?_ _ | refine bstep (by assumption) ?_ | refine bstep (Past.prop _) ?_ | refine Below.setCell ?_ (by first | exact Nat.le_refl _ | (simp; done) | (simp; omega)) _))
    cases b2
    · have e : sclS a b n = (0, 0, 10) := by
        have := of_decide_eq_false E2.out.symm
        unfold sclS; rw [h]; exact gate_false (by rw [Bool.true_and, okV_not]; omega)
      have E := hidE e; clear e
      go_wp2_with (go_at_call 14; ((with_reducible refine (rmay_eq h).mono ?_); rintro e w' ⟨rfl, hb⟩; obtain ⟨hc, hf⟩ := bcell hb; have hz0 := bsz hb (w.heap.size) (by first | assumption | (simp; done) | (simp; omega)); have hz1 := bsz hb (w.heap.size + 1) (by first | assumption | (simp; done) | (simp; omega))))
      refine bodyPost_ret (v := VE (0, 0, 10)) (by simp [results, Try.results10, go_sem, *]) rfl ⟨by rw [E.out], ?_⟩
      (repeat (first | exact Below.refl _ _ | assumption | refine balloc ?_ _ | refine below_drewN ?_ _ | refine bstep (by assumption) ?_ | refine bstep (Past.prop _) ?_ | refine Below.setCell ?_ (by first | exact Nat.le_refl _ | (simp; done) | (simp; omega)) _))
    · have e : sclS a b n = (r1, r2, 0) := by
        have t1 := of_decide_eq_true E1.out.symm
        have t2 := of_decide_eq_true E2.out.symm
        unfold sclS; rw [h, F1.out rfl, F2.out rfl]; exact gate_true (by rw [Bool.true_and, okV_iff]; omega)
      have E := hidE e; clear e
      go_wp2_with (go_at_call 14; ((with_reducible refine (rmay_eq h).mono ?_); rintro e w' ⟨rfl, hb⟩; obtain ⟨hc, hf⟩ := bcell hb; have hz0 := bsz hb (w.heap.size) (by first | assumption | (simp; done) | (simp; omega)); have hz1 := bsz hb (w.heap.size + 1) (by first | assumption | (simp; done) | (simp; omega))))
      refine bodyPost_ret (v := VE (r1, r2, 0)) (by simp [results, Try.results10, go_sem, *]) rfl ⟨by rw [E.out], ?_⟩
      (repeat (first | exact Below.refl _ _ | assumption | refine balloc ?_ _ | refine below_drewN ?_ _ | refine bstep (by assumption) ?_ | refine bstep (Past.prop _) ?_ | refine Below.setCell ?_ (by first | exact Nat.le_refl _ | (simp; done) | (simp; omega)) _))

theorem lof (m n : Int) (w : World) : Calls Try.prog 24 #[.int .i64 m, .int .i64 n] w fun e w' => e = .returned (V m n) ∧ Below w.heap.size w w' := by
  go_enter Try.func24, Try.ntmps24
  go_wp2
  exact bodyPost_ret (v := V m n) (by simp [results, Try.results24, go_sem]) rfl ⟨rfl, (Below.refl _ _).alloc (by simp) _⟩

end Go.Proofs.Ytnhegohhffecpaa
