/- The walk of the statement on what was taken and given back, and how many units fit. Conditions: that the slice reads as a function. FitTakes: for every function, window, vector and pair of numbers, the statement's function answers true and leaves its arguments alone. No conditions. -/
import Derived.Test.YtjhhcljbmnomlaaPFGG
import Derived.Test.YtjhhcljbmnomlaaPFGA
namespace Go.Proofs.Ytjhhcljbmnomlaa
open Go.ChangeShapes Go.WideShapes Go.ChangeAt Go.RowKit
attribute [local irreducible] Go.Calls

theorem take_vals {F T : List Sg} {x d : Int} {v : Int × Int} (h : takeS F x d v = (T, 0)) : fitE F x d v = 0 ∧ rangeS F x (x + d) (-v.1, -v.2) = (T, 0) := by
  by_cases h0 : fitE F x d v = 0
  · refine ⟨h0, ?_⟩
    unfold takeS at h
    rw [if_pos h0] at h
    exact h
  · unfold takeS at h
    rw [if_neg h0] at h
    exact absurd (Prod.mk.inj h).2 h0
theorem sameB_self (F : List Sg) : sameB F F = true := by unfold sameB; exact decide_eq_true rfl
theorem range_len {F A : List Sg} {x y : Int} {v : Int × Int} (h : rangeS F x y v = (A, 0)) : A.length ≤ F.length + 2 := by
  unfold rangeS at h
  split at h
  · cases h
  · split at h
    · rename_i h2
      exact absurd (Prod.mk.inj h).2 h2
    · have hb := boxS_len x y v
      unfold doS at h
      split at h
      · cases h
      · split at h
        · have := opL_len 0 F (boxS x y v).1
          rw [(Prod.mk.inj h).1] at this
          omega
        · cases h
theorem take_fit {F T : List Sg} {x d m c : Int} (h : takeS F x d (m, c) = (T, 0)) : ∃ b, takeS T x d (-m, -c) = (F, 0) ∧ fitsS F x d (m, c) = (b, 0) ∧ fitsS T x d (0, 0) = (b, 0) ∧ -1125899906842624 ≤ m ∧ m ≤ 1125899906842624 ∧ -1125899906842624 ≤ c ∧ c ≤ 1125899906842624 := by
  obtain ⟨h0, h1⟩ := take_vals h
  obtain ⟨q1, q2, q3, q4⟩ := fitE_zero h0
  have ov := okV_iff.1 q4
  obtain ⟨_, r2, _, _, r5⟩ := range_vals h1
  have hT : fitE T x d (-m, -c) = 0 := fitE_ok r2 q2 q3 (okV_iff.2 (by simp only at ov; omega))
  have hT0 : fitE T x d (0, 0) = 0 := fitE_ok r2 q2 q3 (by decide)
  refine ⟨fitB F x d (m, c), ?_, ?_, ?_, ov⟩
  · unfold takeS
    rw [if_pos hT]
    exact range_back h1
  · unfold fitsS; rw [if_pos h0]
  · unfold fitsS
    rw [if_pos hT0]
    refine Prod.ext ?_ rfl
    show fitB T x d (0, 0) = fitB F x d (m, c)
    rw [Bool.eq_iff_iff, fitB_iff q2.1, fitB_iff q2.1]
    constructor
    · intro k t h1 h2
      have := k t h1 h2; have r := r5 t
      rw [if_pos ⟨h1, h2⟩, if_pos ⟨h1, h2⟩] at r
      simp only at this r ⊢
      omega
    · intro k t h1 h2
      have := k t h1 h2; have r := r5 t
      rw [if_pos ⟨h1, h2⟩, if_pos ⟨h1, h2⟩] at r
      simp only at this r ⊢
      omega
theorem most_fit {F : List Sg} {x d p q n j : Int} (h : mostS F x d (p, q) = (n, j)) (hp : 1 ≤ p ∧ p ≤ 1000) (hq : 1 ≤ q ∧ q ≤ 1000) : (j ≠ 0 ∧ n = 0) ∨ (j = 0 ∧ 0 ≤ n ∧ (n ≤ 549755813888 →
    ∃ b, fitsS F x d (n * p, n * q) = (b, 0) ∧ (b = true ∨ n = 0) ∧ fitsS F x d ((n + 1) * p, (n + 1) * q) = (false, 0))) := by
  have huk : okV p q = true := okV_iff.2 (by omega)
  unfold mostS at h
  by_cases h5 : fitE F x d (p, q) = 5
  · rw [if_pos h5] at h; cases h; exact .inl ⟨by decide, rfl⟩
  · rw [if_neg h5, if_neg (by simp only; omega)] at h
    by_cases h0 : fitE F x d (p, q) = 0
    · rw [if_pos h0] at h
      obtain ⟨q1, q2, q3, q4⟩ := fitE_zero h0
      obtain ⟨hN, hNn⟩ := un_pos hp.1 hq.1 (low_okV q1 x (n := d.toNat) (by omega)) huk
      obtain ⟨e1, e2⟩ := Prod.mk.inj h
      simp only at e1
      rw [e1] at hN hNn
      refine .inr ⟨e2.symm, hN, fun hn => ?_⟩
      have b1 : 0 ≤ n * p := Int.mul_nonneg hN (by omega)
      have b2 : 0 ≤ n * q := Int.mul_nonneg hN (by omega)
      have b3 : n * p ≤ 549755813888 * 1000 := Int.mul_le_mul hn hp.2 (by omega) (by omega)
      have b4 : n * q ≤ 549755813888 * 1000 := Int.mul_le_mul hn hq.2 (by omega) (by omega)
      have d1 : (n + 1) * p = n * p + p := by rw [Int.add_mul, Int.one_mul]
      have d2 : (n + 1) * q = n * q + q := by rw [Int.add_mul, Int.one_mul]
      have f1 : fitE F x d (n * p, n * q) = 0 := fitE_ok q1 q2 q3 (okV_iff.2 (by simp only; omega))
      have f2 : fitE F x d ((n + 1) * p, (n + 1) * q) = 0 := fitE_ok q1 q2 q3 (okV_iff.2 (by simp only; omega))
      refine ⟨fitB F x d (n * p, n * q), by unfold fitsS; rw [if_pos f1], ?_, ?_⟩
      · by_cases c : n = 0
        · exact .inr c
        · refine .inl ?_
          unfold fitB
          rw [leB_iff]
          exact (hNn n (by omega)).1 (Int.le_refl _)
      · unfold fitsS
        rw [if_pos f2]
        refine Prod.ext ?_ rfl
        show fitB F x d ((n + 1) * p, (n + 1) * q) = false
        unfold fitB
        rw [leB_not]
        intro k
        have := (hNn (n + 1) (by omega)).2 k
        omega
    · rw [if_neg h0] at h
      obtain ⟨e1, e2⟩ := Prod.mk.inj h
      exact .inl ⟨by rw [← e2]; exact h0, e1.symm⟩
theorem most_wrap {n p q : Int} (h0 : 0 ≤ n) (hn : n ≤ 549755813888) (hp : 1 ≤ p ∧ p ≤ 1000) (hq : 1 ≤ q ∧ q ≤ 1000) : (wrap64 (n * p) = n * p ∧ wrap64 (n * q) = n * q) ∧ wrap64 (n + 1) = n + 1 ∧ wrap64 ((n + 1) * p) = (n + 1) * p ∧ wrap64 ((n + 1) * q) = (n + 1) * q := by
  have b1 : 0 ≤ n * p := Int.mul_nonneg h0 (by omega)
  have b2 : 0 ≤ n * q := Int.mul_nonneg h0 (by omega)
  have b3 : n * p ≤ 549755813888 * 1000 := Int.mul_le_mul hn hp.2 (by omega) (by omega)
  have b4 : n * q ≤ 549755813888 * 1000 := Int.mul_le_mul hn hq.2 (by omega) (by omega)
  have d1 : (n + 1) * p = n * p + p := by rw [Int.add_mul, Int.one_mul]
  have d2 : (n + 1) * q = n * q + q := by rw [Int.add_mul, Int.one_mul]
  exact ⟨⟨IntWalk.wrap64_in _ (by omega), IntWalk.wrap64_in _ (by omega)⟩, IntWalk.wrap64_in _ (by omega), IntWalk.wrap64_in _ (by omega), IntWalk.wrap64_in _ (by omega)⟩
set_option maxRecDepth 100000 in
set_option maxHeartbeats 8000000 in
theorem ftakes_c {F : List Sg} (a1 : Option Addr) (n1 c1 : Nat) (x d m c u0 u1 : Int) (w : World) (S1 : SliS w (.slice a1 n1 c1) F) (hu0 : 0 ≤ u0 ∧ u0 ≤ 65535) (hu1 : 0 ≤ u1 ∧ u1 ≤ 65535) :
    Calls Try.prog 5 #[.slice a1 n1 c1, .agg #[.int .i64 x, .int .i64 d, .int .i64 m, .int .i64 c], .agg #[.int .u16 u0, .int .u16 u1]] w fun e w' => e = .returned (.bool true) ∧ Below w.heap.size w w' := by
  obtain ⟨w0, hw0⟩ : ∃ w0, w0 = (w.alloc (Obj.cells #[.int .i64 x, .int .i64 d, .int .i64 m, .int .i64 c] 29)).alloc (Obj.cells #[.int .u16 u0, .int .u16 u1] 49) := ⟨_, rfl⟩
  have B1 := hidE (show Blk w0 w.heap.size #[.int .i64 x, .int .i64 d, .int .i64 m, .int .i64 c] 29 by rw [hw0]; exact (Blk.made _ _ _).alloc _)
  have B2 := hidE (show Blk w0 (w.heap.size + 1) #[.int .u16 u0, .int .u16 u1] 49 by rw [hw0]; exact Blk.made_at _ _ _ _ (by simp))
  have HB := hidE (show Below w.heap.size w w0 by rw [hw0]; (repeat (first | exact Below.refl _ _ | assumption | refine balloc ?_ _ | refine below_drewN ?_ _ | refine bstep (by assumption) ?_ | refine bstep (Past.prop _) ?_ | refine Below.setCell ?_ (by first | exact Nat.le_refl _ | (simp; done) | (simp; omega)) _)))
  have S1 := hidE (S1.past HB.out)
  have HH := hidE (fun w => fhead_c w)
  obtain ⟨p, hp⟩ : ∃ p, wrap64 (1 + wrap64 (u0.tmod 1000)) = p := ⟨_, rfl⟩
  obtain ⟨q, hq⟩ : ∃ q, wrap64 (1 + wrap64 (u1.tmod 1000)) = q := ⟨_, rfl⟩
  have HP := hidE (show 1 ≤ p ∧ p ≤ 1000 by rw [← hp, Int.tmod_eq_emod_of_nonneg hu0.1]; unfold wrap64; omega)
  have HQ := hidE (show 1 ≤ q ∧ q ≤ 1000 by rw [← hq, Int.tmod_eq_emod_of_nonneg hu1.1]; unfold wrap64; omega)
  have HPE := hidE hp; have HQE := hidE hq
  obtain ⟨⟨T, er⟩, hT⟩ : ∃ r, takeS F x d (m, c) = r := ⟨_, rfl⟩
  obtain ⟨⟨n, j⟩, hn⟩ : ∃ r, mostS F x d (p, q) = r := ⟨_, rfl⟩
  have HT := hidE hT; have HN := hidE hn
  clear hp hq hT hn hu0 hu1
  have hz0 : w0.heap.size = w.heap.size + 2 := by rw [hw0]; simp
  by_cases hl : n1 ≤ 60
  · have hd1 : decide (60 < (n1 : Int)) = false := decide_eq_false (by omega)
    have hd2 : decide (60 < n1) = false := decide_eq_false (by omega)
    have NL := hidE (show n1 ≤ 1000000 by omega); have NL2 := hidE hl
    clear hl
    go_enter Try.func5, Try.ntmps5
    go_upto_region 1 with fail
    rw [← hw0]
    clear hw0 hz0
    have b0 := B1.out.cell 0; have b1 := B1.out.cell 1; have b2 := B1.out.cell 2; have b3 := B1.out.cell 3; have bz := B1.out.lt; have d0 := B2.out.cell 0; have d1 := B2.out.cell 1; have dz := B2.out.lt
    simp at b0 b1 b2 b3 d0 d1
    go_wp2_with fail
    (with_reducible refine (take_s (F := F) ?hs1 ?hn1 HT.out).mono ?_)
    case hs1 => exact S1.out
    case hn1 => exact NL.out
    rintro e w1 ⟨v1, rfl, hv1, hb⟩
    obtain ⟨aT, cT, rfl, g1, g2, g3⟩ := hv1
    have ST := hidE (show SliS w1 (.slice aT T.length cT) T from ⟨aT, cT, rfl, g1, g2, g3⟩)
    have HX := hidE (show Below w0.heap.size w0 w1 from hb)
    have HB := hidE (bstep HX.out HB.out); have S1 := hidE (S1.out.past HX.out); have B1 := hidE (B1.out.past HX.out); have B2 := hidE (B2.out.past HX.out)
    clear hb HX b0 b1 b2 b3 bz d0 d1 dz
    clear g1 g2 g3
    have b0 := B1.out.cell 0; have b1 := B1.out.cell 1; have b2 := B1.out.cell 2; have b3 := B1.out.cell 3; have bz := B1.out.lt; have d0 := B2.out.cell 0; have d1 := B2.out.cell 1; have dz := B2.out.lt
    simp at b0 b1 b2 b3 d0 d1
    by_cases he : er = 0
    · subst he
      obtain ⟨bb, t1, t2, t3, t4⟩ := take_fit HT.out
      have HWN := hidE (show wrap64 (-m) = -m ∧ wrap64 (-c) = -c from ⟨IntWalk.wrap64_in _ (by omega), IntWalk.wrap64_in _ (by omega)⟩)
      have HT1 := hidE t1; have HT2 := hidE t2; have HT3 := hidE t3
      have NT := hidE (show T.length ≤ 1000000 by
        have h1 := (take_vals HT.out).2
        have h2 := range_len h1
        have h3 := S1.out.len.1
        have h4 := NL2.out
        omega)
      clear t1 t2 t3 t4
      go_wp2_with fail
      rw [HWN.out.1, HWN.out.2]
      (with_reducible refine (take_s (F := T) ?hsA ?hnA HT1.out).mono ?_)
      case hsA => exact ST.out
      case hnA => exact NT.out
      rintro e w2 ⟨v2, rfl, hv2, hb⟩
      obtain ⟨aK, cK, rfl, g1, g2, g3⟩ := hv2
      have SK := hidE (show SliS w2 (.slice aK F.length cK) F from ⟨aK, cK, rfl, g1, g2, g3⟩)
      have ST := hidE (ST.out.past hb)
      have HX := hidE (show Below w1.heap.size w1 w2 from hb)
      have HB := hidE (bstep HX.out HB.out); have S1 := hidE (S1.out.past HX.out); have B1 := hidE (B1.out.past HX.out); have B2 := hidE (B2.out.past HX.out)
      clear hb HX b0 b1 b2 b3 bz d0 d1 dz
      clear g1 g2 g3
      have b0 := B1.out.cell 0; have b1 := B1.out.cell 1; have b2 := B1.out.cell 2; have b3 := B1.out.cell 3; have bz := B1.out.lt; have d0 := B2.out.cell 0; have d1 := B2.out.cell 1; have dz := B2.out.lt
      simp at b0 b1 b2 b3 d0 d1
      go_wp2_with fail
      (with_reducible refine (fits_eq (F := F) ?hsB ?hnB HT2.out).mono ?_)
      case hsB => exact S1.out
      case hnB => exact NL.out
      rintro e w3 ⟨rfl, hb⟩
      have SK := hidE (SK.out.past hb); have ST := hidE (ST.out.past hb)
      have HX := hidE (show Below w2.heap.size w2 w3 from hb)
      have HB := hidE (bstep HX.out HB.out); have S1 := hidE (S1.out.past HX.out); have B1 := hidE (B1.out.past HX.out); have B2 := hidE (B2.out.past HX.out)
      clear hb HX b0 b1 b2 b3 bz d0 d1 dz
      have b0 := B1.out.cell 0; have b1 := B1.out.cell 1; have b2 := B1.out.cell 2; have b3 := B1.out.cell 3; have bz := B1.out.lt; have d0 := B2.out.cell 0; have d1 := B2.out.cell 1; have dz := B2.out.lt
      simp at b0 b1 b2 b3 d0 d1
      go_wp2_with fail
      (with_reducible refine (fits_eq (F := T) ?hsC ?hnC HT3.out).mono ?_)
      case hsC => exact ST.out
      case hnC => exact NT.out
      rintro e w4 ⟨rfl, hb⟩
      have SK := hidE (SK.out.past hb)
      have HX := hidE (show Below w3.heap.size w3 w4 from hb)
      have HB := hidE (bstep HX.out HB.out); have S1 := hidE (S1.out.past HX.out); have B1 := hidE (B1.out.past HX.out); have B2 := hidE (B2.out.past HX.out)
      clear hb HX b0 b1 b2 b3 bz d0 d1 dz
      have b0 := B1.out.cell 0; have b1 := B1.out.cell 1; have b2 := B1.out.cell 2; have b3 := B1.out.cell 3; have bz := B1.out.lt; have d0 := B2.out.cell 0; have d1 := B2.out.cell 1; have dz := B2.out.lt
      simp at b0 b1 b2 b3 d0 d1
      go_wp2_with fail
      (with_reducible refine (rsame_f (F := F) (G := F) (b := true) ?hsD ?hsE (sameB_self F)).mono ?_)
      case hsD => exact SK.out
      case hsE => exact S1.out
      rintro e w5 ⟨rfl, hb⟩
      have HX := hidE (show Below w4.heap.size w4 w5 from hb)
      have HB := hidE (bstep HX.out HB.out); have S1 := hidE (S1.out.past HX.out); have B1 := hidE (B1.out.past HX.out); have B2 := hidE (B2.out.past HX.out)
      clear hb HX b0 b1 b2 b3 bz d0 d1 dz
      have b0 := B1.out.cell 0; have b1 := B1.out.cell 1; have b2 := B1.out.cell 2; have b3 := B1.out.cell 3; have bz := B1.out.lt; have d0 := B2.out.cell 0; have d1 := B2.out.cell 1; have dz := B2.out.lt
      simp at b0 b1 b2 b3 d0 d1
      have hbb : (bb != bb) = false := bne_self_eq_false bb
      go_upto_region 11 with fail
      rw [HPE.out, HQE.out]
      obtain ⟨wa, hwa⟩ : ∃ wa, wa = w5.alloc (Obj.cells #[.int .i64 p, .int .i64 q] 27) := ⟨_, rfl⟩
      obtain ⟨y, hy⟩ : ∃ y, y = w5.heap.size := ⟨_, rfl⟩
      have hb : Below w5.heap.size w5 wa := by rw [hwa]; exact (Below.refl _ _).alloc (Nat.le_refl _) _
      have B3 := hidE (show Blk wa y #[.int .i64 p, .int .i64 q] 27 by rw [hwa, hy]; exact Blk.made _ _ _)
      rw [← hwa, ← hy]
      clear hwa hy
      have HX := hidE (show Below w5.heap.size w5 wa from hb)
      have HB := hidE (bstep HX.out HB.out); have S1 := hidE (S1.out.past HX.out); have B1 := hidE (B1.out.past HX.out); have B2 := hidE (B2.out.past HX.out)
      clear hb HX b0 b1 b2 b3 bz d0 d1 dz
      have b0 := B1.out.cell 0; have b1 := B1.out.cell 1; have b2 := B1.out.cell 2; have b3 := B1.out.cell 3; have bz := B1.out.lt; have d0 := B2.out.cell 0; have d1 := B2.out.cell 1; have dz := B2.out.lt
      simp at b0 b1 b2 b3 d0 d1
      have y0 := B3.out.cell 0; have y1 := B3.out.cell 1; have yz := B3.out.lt
      simp at y0 y1
      go_wp2_with fail
      (with_reducible refine (most_eq (F := F) ?hs5 ?hn5 HN.out).mono ?_)
      case hs5 => exact S1.out
      case hn5 => exact NL.out
      rintro e wb ⟨rfl, hb⟩
      have HX := hidE (show Below wa.heap.size wa wb from hb)
      have HB := hidE (bstep HX.out HB.out); have S1 := hidE (S1.out.past HX.out); have B1 := hidE (B1.out.past HX.out); have B2 := hidE (B2.out.past HX.out); have B3 := hidE (B3.out.past HX.out)
      clear hb HX b0 b1 b2 b3 bz d0 d1 dz y0 y1 yz
      have b0 := B1.out.cell 0; have b1 := B1.out.cell 1; have b2 := B1.out.cell 2; have b3 := B1.out.cell 3; have bz := B1.out.lt; have d0 := B2.out.cell 0; have d1 := B2.out.cell 1; have dz := B2.out.lt
      simp at b0 b1 b2 b3 d0 d1
      have y0 := B3.out.cell 0; have y1 := B3.out.cell 1; have yz := B3.out.lt
      simp at y0 y1
      rcases most_fit HN.out HP.out HQ.out with ⟨hj, hn0⟩ | ⟨hj, hn0, hmf⟩
      · have j0 : (j == 0) = false := beq_eq_false_iff_ne.2 hj
        have j1 : (j != 0) = true := bne_iff_ne.2 hj
        subst hn0
        clear hj
        go_wp2_with fail
        ((with_reducible refine (HH.out _).mono ?_); rintro e wc ⟨rfl, hb⟩)
        go_wp2
        go_ret
        exact ⟨rfl, bstep hb HB.out⟩
      · subst hj
        by_cases hbig : 549755813888 < n
        · have k0 : decide (549755813888 < n) = true := decide_eq_true hbig
          clear hbig hmf
          go_wp2_with fail
          ((with_reducible refine (HH.out _).mono ?_); rintro e wc ⟨rfl, hb⟩)
          go_wp2
          go_ret
          exact ⟨rfl, bstep hb HB.out⟩
        · have k0 : decide (549755813888 < n) = false := decide_eq_false hbig
          obtain ⟨bf, hf1, hf2, hf3⟩ := hmf (by omega)
          have HWR := hidE (most_wrap hn0 (by omega) HP.out HQ.out)
          have HF1 := hidE hf1; have HF2 := hidE hf2; have HF3 := hidE hf3; have HN0 := hidE hn0
          clear hf1 hf2 hf3 hn0 hbig hmf
          go_wp2_with fail
          rw [HWR.out.1.1, HWR.out.1.2]
          (with_reducible refine (fits_eq (F := F) ?hs5L ?hn5L HF1.out).mono ?_)
          case hs5L => exact S1.out
          case hn5L => exact NL.out
          rintro e wc ⟨rfl, hb⟩
          have HX := hidE (show Below wb.heap.size wb wc from hb)
          have HB := hidE (bstep HX.out HB.out); have S1 := hidE (S1.out.past HX.out); have B1 := hidE (B1.out.past HX.out); have B2 := hidE (B2.out.past HX.out); have B3 := hidE (B3.out.past HX.out)
          clear hb HX b0 b1 b2 b3 bz d0 d1 dz y0 y1 yz
          have b0 := B1.out.cell 0; have b1 := B1.out.cell 1; have b2 := B1.out.cell 2; have b3 := B1.out.cell 3; have bz := B1.out.lt; have d0 := B2.out.cell 0; have d1 := B2.out.cell 1; have dz := B2.out.lt
          simp at b0 b1 b2 b3 d0 d1
          have y0 := B3.out.cell 0; have y1 := B3.out.cell 1; have yz := B3.out.lt
          simp at y0 y1
          go_wp2_with fail
          simp only [HWR.out.2.1, HWR.out.2.2.1, HWR.out.2.2.2]
          (with_reducible refine (fits_eq (F := F) ?hs5M ?hn5M HF3.out).mono ?_)
          case hs5M => exact S1.out
          case hn5M => exact NL.out
          rintro e wd ⟨rfl, hb⟩
          have HB := hidE (bstep hb HB.out)
          clear hb b0 b1 b2 b3 bz d0 d1 dz y0 y1 yz k0 HF1 HF3
          have k1 : decide (0 ≤ n) = true := decide_eq_true HN0.out
          rcases HF2.out with rfl | rfl
          · go_wp2_with fail
            ((with_reducible refine (HH.out _).mono ?_); rintro e wf ⟨rfl, hb⟩)
            go_wp2
            go_ret
            exact ⟨rfl, bstep hb HB.out⟩
          · cases bf
            · go_wp2_with fail
              ((with_reducible refine (HH.out _).mono ?_); rintro e wf ⟨rfl, hb⟩)
              go_wp2
              go_ret
              exact ⟨rfl, bstep hb HB.out⟩
            · go_wp2_with fail
              ((with_reducible refine (HH.out _).mono ?_); rintro e wf ⟨rfl, hb⟩)
              go_wp2
              go_ret
              exact ⟨rfl, bstep hb HB.out⟩
    · have e0 : (er == 0) = false := beq_eq_false_iff_ne.2 he
      have e0' : (er != 0) = true := bne_iff_ne.2 he
      clear he
      go_upto_region 11 with fail
      rw [HPE.out, HQE.out]
      obtain ⟨wa, hwa⟩ : ∃ wa, wa = w1.alloc (Obj.cells #[.int .i64 p, .int .i64 q] 27) := ⟨_, rfl⟩
      obtain ⟨y, hy⟩ : ∃ y, y = w1.heap.size := ⟨_, rfl⟩
      have hb : Below w1.heap.size w1 wa := by rw [hwa]; exact (Below.refl _ _).alloc (Nat.le_refl _) _
      have B3 := hidE (show Blk wa y #[.int .i64 p, .int .i64 q] 27 by rw [hwa, hy]; exact Blk.made _ _ _)
      rw [← hwa, ← hy]
      clear hwa hy
      have HX := hidE (show Below w1.heap.size w1 wa from hb)
      have HB := hidE (bstep HX.out HB.out); have S1 := hidE (S1.out.past HX.out); have B1 := hidE (B1.out.past HX.out); have B2 := hidE (B2.out.past HX.out)
      clear hb HX b0 b1 b2 b3 bz d0 d1 dz
      have b0 := B1.out.cell 0; have b1 := B1.out.cell 1; have b2 := B1.out.cell 2; have b3 := B1.out.cell 3; have bz := B1.out.lt; have d0 := B2.out.cell 0; have d1 := B2.out.cell 1; have dz := B2.out.lt
      simp at b0 b1 b2 b3 d0 d1
      have y0 := B3.out.cell 0; have y1 := B3.out.cell 1; have yz := B3.out.lt
      simp at y0 y1
      go_wp2_with fail
      (with_reducible refine (most_eq (F := F) ?hs4 ?hn4 HN.out).mono ?_)
      case hs4 => exact S1.out
      case hn4 => exact NL.out
      rintro e wb ⟨rfl, hb⟩
      have HX := hidE (show Below wa.heap.size wa wb from hb)
      have HB := hidE (bstep HX.out HB.out); have S1 := hidE (S1.out.past HX.out); have B1 := hidE (B1.out.past HX.out); have B2 := hidE (B2.out.past HX.out); have B3 := hidE (B3.out.past HX.out)
      clear hb HX b0 b1 b2 b3 bz d0 d1 dz y0 y1 yz
      have b0 := B1.out.cell 0; have b1 := B1.out.cell 1; have b2 := B1.out.cell 2; have b3 := B1.out.cell 3; have bz := B1.out.lt; have d0 := B2.out.cell 0; have d1 := B2.out.cell 1; have dz := B2.out.lt
      simp at b0 b1 b2 b3 d0 d1
      have y0 := B3.out.cell 0; have y1 := B3.out.cell 1; have yz := B3.out.lt
      simp at y0 y1
      rcases most_fit HN.out HP.out HQ.out with ⟨hj, hn0⟩ | ⟨hj, hn0, hmf⟩
      · have j0 : (j == 0) = false := beq_eq_false_iff_ne.2 hj
        have j1 : (j != 0) = true := bne_iff_ne.2 hj
        subst hn0
        clear hj
        go_wp2_with fail
        ((with_reducible refine (HH.out _).mono ?_); rintro e wc ⟨rfl, hb⟩)
        go_wp2
        go_ret
        exact ⟨rfl, bstep hb HB.out⟩
      · subst hj
        by_cases hbig : 549755813888 < n
        · have k0 : decide (549755813888 < n) = true := decide_eq_true hbig
          clear hbig hmf
          go_wp2_with fail
          ((with_reducible refine (HH.out _).mono ?_); rintro e wc ⟨rfl, hb⟩)
          go_wp2
          go_ret
          exact ⟨rfl, bstep hb HB.out⟩
        · have k0 : decide (549755813888 < n) = false := decide_eq_false hbig
          obtain ⟨bf, hf1, hf2, hf3⟩ := hmf (by omega)
          have HWR := hidE (most_wrap hn0 (by omega) HP.out HQ.out)
          have HF1 := hidE hf1; have HF2 := hidE hf2; have HF3 := hidE hf3; have HN0 := hidE hn0
          clear hf1 hf2 hf3 hn0 hbig hmf
          go_wp2_with fail
          rw [HWR.out.1.1, HWR.out.1.2]
          (with_reducible refine (fits_eq (F := F) ?hs4L ?hn4L HF1.out).mono ?_)
          case hs4L => exact S1.out
          case hn4L => exact NL.out
          rintro e wc ⟨rfl, hb⟩
          have HX := hidE (show Below wb.heap.size wb wc from hb)
          have HB := hidE (bstep HX.out HB.out); have S1 := hidE (S1.out.past HX.out); have B1 := hidE (B1.out.past HX.out); have B2 := hidE (B2.out.past HX.out); have B3 := hidE (B3.out.past HX.out)
          clear hb HX b0 b1 b2 b3 bz d0 d1 dz y0 y1 yz
          have b0 := B1.out.cell 0; have b1 := B1.out.cell 1; have b2 := B1.out.cell 2; have b3 := B1.out.cell 3; have bz := B1.out.lt; have d0 := B2.out.cell 0; have d1 := B2.out.cell 1; have dz := B2.out.lt
          simp at b0 b1 b2 b3 d0 d1
          have y0 := B3.out.cell 0; have y1 := B3.out.cell 1; have yz := B3.out.lt
          simp at y0 y1
          go_wp2_with fail
          simp only [HWR.out.2.1, HWR.out.2.2.1, HWR.out.2.2.2]
          (with_reducible refine (fits_eq (F := F) ?hs4M ?hn4M HF3.out).mono ?_)
          case hs4M => exact S1.out
          case hn4M => exact NL.out
          rintro e wd ⟨rfl, hb⟩
          have HB := hidE (bstep hb HB.out)
          clear hb b0 b1 b2 b3 bz d0 d1 dz y0 y1 yz k0 HF1 HF3
          have k1 : decide (0 ≤ n) = true := decide_eq_true HN0.out
          rcases HF2.out with rfl | rfl
          · go_wp2_with fail
            ((with_reducible refine (HH.out _).mono ?_); rintro e wf ⟨rfl, hb⟩)
            go_wp2
            go_ret
            exact ⟨rfl, bstep hb HB.out⟩
          · cases bf
            · go_wp2_with fail
              ((with_reducible refine (HH.out _).mono ?_); rintro e wf ⟨rfl, hb⟩)
              go_wp2
              go_ret
              exact ⟨rfl, bstep hb HB.out⟩
            · go_wp2_with fail
              ((with_reducible refine (HH.out _).mono ?_); rintro e wf ⟨rfl, hb⟩)
              go_wp2
              go_ret
              exact ⟨rfl, bstep hb HB.out⟩
  · have hd1 : decide (60 < (n1 : Int)) = true := decide_eq_true (by omega)
    have hd2 : decide (60 < n1) = true := decide_eq_true (by omega)
    clear hl
    go_enter Try.func5, Try.ntmps5
    go_upto_region 1 with fail
    rw [← hw0]
    clear hw0 hz0
    go_wp2_with fail
    ((with_reducible refine (HH.out _).mono ?_); rintro e w1 ⟨rfl, hb⟩)
    go_wp2
    go_ret
    exact ⟨rfl, bstep hb HB.out⟩
end Go.Proofs.Ytjhhcljbmnomlaa

namespace Go.Proofs.Ytjhhcljbmnomlaa
open Go.ChangeShapes Go.WideShapes Go.ChangeAt Go.RowKit

set_option maxRecDepth 100000 in
theorem fitTakes_lifted (os : Os) (started : os.Started) (H : Type) (enc : TypeId × Value → H) :
    ReturnsInHanded {} Try.checked os 5 .any (Rows.fitTakesSpec.pre6 enc Try.prog Try.f5 Rows.fitTakesRow.domain false) (Rows.fitTakesSpec.post enc Try.prog Try.f5 false true false false) := by
  refine returnsInHanded_of_change (C := Try.checked) own started (by kernel_rfl) Try.func5
    (ChangeSpec.witness6 (enc := enc) (C := Try.checked) false ⟨#[], #[.slice none 0 0, .agg #[.int .i64 0, .int .i64 0, .int .i64 0, .int .i64 0], .agg #[.int .u16 0, .int .u16 0]], []⟩ 8 (by kernel_rfl) (by kernel_rfl) (by kernel_rfl) (by kernel_rfl)) ?_
  intro W base args ds gs before hval0 hW _ _
  have hval : ∀ (j : Nat) t v, Try.f5.params[j]? = some t → args[j]? = some v → Value.okWide Try.prog W .any base t v := hval0
  have hW' := hW
  obtain ⟨p, q, hA0, hV, rfl, hfz, hnd⟩ := hW
  have hA : DataW.TrodAll enc Try.prog W 0 (fun _ => true) true Try.f5.params.toList args.toList ds p := hA0
  rw [Try.params5] at hA hval
  obtain ⟨v0, vs0, d0, ds0, p0, q0, hargs, rfl, rfl, h0, r0⟩ := trodAll_cons hA
  obtain ⟨v1, vs1, d1, ds1, p1, q1, rfl, rfl, rfl, h1, r1⟩ := trodAll_cons r0
  obtain ⟨v2, vs2, d2, ds2, p2, q2, rfl, rfl, rfl, h2, r2⟩ := trodAll_cons r1
  obtain ⟨rfl, rfl, rfl⟩ := trodAll_nil r2
  obtain rfl : args = #[v0, v1, v2] := by cases args; simp_all
  obtain ⟨l0, o0, c0, rfl, hl0, hA0', hS0⟩ := open_slisP (hval 0 22 v0 rfl rfl) h0
  obtain ⟨x1, y1, z1, u1, rfl, hx1, hy1, hz1, hu1⟩ := open_askP (hval 1 29 v1 rfl rfl) h1
  obtain ⟨x2, y2, rfl, hx2, hy2⟩ := open_u16sP (hval 2 49 v2 rfl rfl) h2
  clear hA0 hval0
  refine (ftakes_c o0 l0.length c0 x1 y1 z1 u1 x2 y2 W hA0' hx2 hy2).mono fun e W' ⟨he, hb⟩ => ?_
  subst he
  exact ⟨_, rfl, law_post laidOut (readOk_spec (by kernel_rfl)) rfl Try.underlying4 rfl ⟨rfl, rfl, rfl⟩ hW' hb⟩

theorem fitTakes_holds : Rows.FitTakesSaid :=
  OpenClaim.holds_of_wide 5 Try.f5 rfl rfl rfl rfl rfl rfl rfl ⟨rfl, rfl, rfl, rfl, rfl⟩ rfl rfl rfl rfl rfl (by kernel_rfl) Try.func5 (by kernel_rfl)
    (of_decide_eq_true (by kernel_rfl)) (by unfold Func.isWrapper; first | (rw [if_pos (by decide +kernel)]; kernel_rfl) | (rw [if_neg (by decide +kernel)]; exact ⟨rfl, rfl⟩))
    (fun os started H enc _ => fitTakes_lifted os started H enc)
end Go.Proofs.Ytjhhcljbmnomlaa
