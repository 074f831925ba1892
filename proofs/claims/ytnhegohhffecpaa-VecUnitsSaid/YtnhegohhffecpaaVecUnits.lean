/- VecUnits answers true for every input. No conditions but that the numbers fit their kinds. -/
import Derived.Test.YtnhegohhffecpaaVecHead
import Derived.Test.YtnhegohhffecpaaJ
namespace Go.Proofs.Ytnhegohhffecpaa
open Go.ChangeShapes Go.WideShapes Go.ChangeAt Go.RowKit
attribute [local irreducible] Go.Calls

/-- k units, and less than one more in memory: k units fit. -/
theorem units_math {P Q k X Y : Int} (hP : 1 ≤ P ∧ P ≤ 1048576) (hQ : 1 ≤ Q ∧ Q ≤ 1048576) (hk : 0 ≤ k ∧ k < 1048576) (hX : 0 ≤ X ∧ X < P) (hY : 0 ≤ Y ∧ Y < 1048576) :
    sclS P Q k = (P * k, Q * k, 0) ∧ addL [(P * k, Q * k), (X, Y)] = (P * k + X, Q * k + Y, 0) ∧ unS (P * k + X) (Q * k + Y) P Q = (k, 0) ∧
    sclS P Q (k + 1) = (P * (k + 1), Q * (k + 1), 0) ∧ leB (P * k) (Q * k) (P * k + X) (Q * k + Y) = true ∧ leB (P * (k + 1)) (Q * (k + 1)) (P * k + X) (Q * k + Y) = false := by
  have b1 : P * k ≤ 1048576 * k := Int.mul_le_mul_of_nonneg_right hP.2 hk.1
  have b2 : Q * k ≤ 1048576 * k := Int.mul_le_mul_of_nonneg_right hQ.2 hk.1
  have b3 : 0 ≤ P * k := Int.mul_nonneg (by omega) hk.1
  have b4 : 0 ≤ Q * k := Int.mul_nonneg (by omega) hk.1
  have e1 : P * (k + 1) = P * k + P := by rw [Int.mul_add, Int.mul_one]
  have e2 : Q * (k + 1) = Q * k + Q := by rw [Int.mul_add, Int.mul_one]
  have o1 : okV P Q = true := okV_iff.2 (by omega)
  have o2 : okV (P * k) (Q * k) = true := okV_iff.2 (by omega)
  have o3 : okV (P * k + X) (Q * k + Y) = true := okV_iff.2 (by omega)
  have o4 : okV X Y = true := okV_iff.2 (by omega)
  have o5 : okV (P * k + P) (Q * k + Q) = true := okV_iff.2 (by omega)
  have o0 : okV 0 0 = true := okV_iff.2 (by omega)
  refine ⟨?_, ?_, ?_, ?_, leB_iff.2 (by omega), by rw [e1, e2]; exact leB_not.2 (by omega)⟩
  · unfold sclS; rw [o1, o2]; rfl
  · have a1 : addS 0 0 (P * k) (Q * k) = (P * k, Q * k, 0) := by unfold addS; rw [Int.zero_add, Int.zero_add, o0, o2]; rfl
    have a2 : addS (P * k) (Q * k) X Y = (P * k + X, Q * k + Y, 0) := by unfold addS; rw [o2, o4, o3]; rfl
    unfold addL addFrom
    rw [a1]
    simp only [if_true]
    unfold addFrom
    rw [a2]
    simp only [if_true]
    rfl
  · have q1 : (P * k + X) / P = k := by
      rw [Int.add_comm, Int.add_mul_ediv_left _ _ (by omega), Int.ediv_eq_zero_of_lt hX.1 hX.2, Int.zero_add]
    have q2 : k ≤ (Q * k + Y) / Q := Int.le_ediv_of_mul_le (by omega) (by rw [Int.mul_comm]; omega)
    unfold unS
    rw [if_neg (by omega), if_neg (by rw [o3, o1]; decide), if_neg (by omega), q1]
    unfold mn; rw [if_pos q2]
  · unfold sclS; rw [e1, e2, o1, o5]; rfl

theorem mod_bd (x : Int) : 0 ≤ x % 1048576 ∧ x % 1048576 < 1048576 := ⟨Int.emod_nonneg _ (by omega), Int.emod_lt_of_pos _ (by omega)⟩
theorem mx_ge (x : Int) : 0 ≤ mx x 0 ∧ x ≤ mx x 0 := by unfold mx; split <;> omega
theorem mx_le {x : Int} (h : x ≤ 9223372036854775807) : mx x 0 ≤ 9223372036854775807 := by unfold mx; split <;> omega

set_option maxRecDepth 100000 in
set_option maxHeartbeats 4000000 in
theorem units_c (a b n e f : Int) (w : World) (ha : -9223372036854775808 ≤ a ∧ a ≤ 9223372036854775807) (hb0 : -9223372036854775808 ≤ b ∧ b ≤ 9223372036854775807) (hn : 0 ≤ n ∧ n ≤ 4294967295)
    (he : -9223372036854775808 ≤ e ∧ e ≤ 9223372036854775807) (hf0 : -9223372036854775808 ≤ f ∧ f ≤ 9223372036854775807) :
    Calls Try.prog 6 #[V a b, .int .u32 n, V e f] w fun e w' => e = .returned (.bool true) ∧ Below w.heap.size w w' := by
  obtain ⟨P, hP⟩ : ∃ P, 1 + mx a 0 % 1048576 = P := ⟨_, rfl⟩
  obtain ⟨Q, hQ⟩ : ∃ Q, 1 + mx b 0 % 1048576 = Q := ⟨_, rfl⟩
  obtain ⟨k, hk⟩ : ∃ k, n % 1048576 = k := ⟨_, rfl⟩
  obtain ⟨X, hX⟩ : ∃ X, mx e 0 % P = X := ⟨_, rfl⟩
  obtain ⟨Y, hY⟩ : ∃ Y, mx f 0 % 1048576 = Y := ⟨_, rfl⟩
  have bP : 1 ≤ P ∧ P ≤ 1048576 := by have := mod_bd (mx a 0); omega
  have bQ : 1 ≤ Q ∧ Q ≤ 1048576 := by have := mod_bd (mx b 0); omega
  have bk : 0 ≤ k ∧ k < 1048576 := by have := mod_bd n; omega
  have bX : 0 ≤ X ∧ X < P := by rw [← hX]; exact ⟨Int.emod_nonneg _ (by omega), Int.emod_lt_of_pos _ (by omega)⟩
  have bY : 0 ≤ Y ∧ Y < 1048576 := by have := mod_bd (mx f 0); omega
  obtain ⟨m1, m2, m3, m4, m5, m6⟩ := units_math bP bQ bk bX bY
  have M1 := hidE m1; have M2 := hidE m2; have M3 := hidE m3; have M4 := hidE m4; have M5 := hidE m5; have M6 := hidE m6
  have HP := hidE hP; have HQ := hidE hQ; have HK := hidE hk; have HX := hidE hX; have HY := hidE hY
  have HE := hidE he; have HF := hidE hf0
  clear m1 m2 m3 m4 m5 m6 hP hQ hk hX hY he hf0
  have B3 : Blk ((w.alloc (Obj.cells #[Value.int IntKind.i64 a, Value.int IntKind.i64 b] 23)).alloc (Obj.cells #[Value.int IntKind.i64 e, Value.int IntKind.i64 f] 23)) w.heap.size #[Value.int IntKind.i64 a, Value.int IntKind.i64 b] 23 := (Blk.made _ _ _).alloc _
  have B5 : Blk ((w.alloc (Obj.cells #[Value.int IntKind.i64 a, Value.int IntKind.i64 b] 23)).alloc (Obj.cells #[Value.int IntKind.i64 e, Value.int IntKind.i64 f] 23)) (w.heap.size + 1) #[Value.int IntKind.i64 e, Value.int IntKind.i64 f] 23 := Blk.made_at _ _ _ _ (by simp)
  have HB5 := hidE B5
  clear B3 B5
  go_enter Try.func6, Try.ntmps6
  go_upto_region 1 with fail
  go_cut [7] (fun s7 wx => ∃ p : Nat, s7 = .pointer (some ⟨p, 0, none⟩) ∧ Blk wx p #[.int .i64 P, .int .i64 Q] 23 ∧ Blk wx (w.heap.size + 1) #[.int .i64 e, .int .i64 f] 23 ∧ Below w.heap.size w wx)

  case first =>
    by_cases ca : 0 ≤ a
    · by_cases cb : 0 ≤ b
      · have E1 : 1 + a % 1048576 = P := by have := HP.out; rw [show mx a 0 = a by unfold mx; split <;> omega] at this; exact this
        have E2 : 1 + b % 1048576 = Q := by have := HQ.out; rw [show mx b 0 = b by unfold mx; split <;> omega] at this; exact this
        have F1 := hidE E1; have F2 := hidE E2
        clear E1 E2 bP bQ
        go_wp2_with (go_at_call 24; ((with_reducible refine (lof _ _ _).mono ?_); rintro e w' ⟨rfl, hb⟩; obtain ⟨hc, hf⟩ := bcell hb))
        have B5 := HB5.out
        go_meet
        case rel => exact ⟨_, rfl, by rw [← F1.out, ← F2.out]; exact Blk.made _ _ _, by (repeat (first | assumption | refine Blk.past ?_ (by assumption) | refine Blk.past ?_ (Past.prop _) | refine Blk.alloc ?_ _ | refine Blk.other ?_ (by omega) _ | refine Blk.drew ?_ _)), by (repeat (first | exact Below.refl _ _ | assumption | refine balloc ?_ _ | refine below_drewN ?_ _ | refine bstep (by assumption) ?_ | refine bstep (Past.prop _) ?_ | refine Below.setCell ?_ (by first | exact Nat.le_refl _ | (simp; done) | (simp; omega)) _))⟩
      · have E1 : 1 + a % 1048576 = P := by have := HP.out; rw [show mx a 0 = a by unfold mx; split <;> omega] at this; exact this
        have E2 : (1 : Int) = Q := by have := HQ.out; unfold mx at this; rw [if_pos (by omega)] at this; simpa using this
        have F1 := hidE E1; have F2 := hidE E2
        clear E1 E2 bP bQ
        go_wp2_with (go_at_call 24; ((with_reducible refine (lof _ _ _).mono ?_); rintro e w' ⟨rfl, hb⟩; obtain ⟨hc, hf⟩ := bcell hb))
        have B5 := HB5.out
        go_meet
        case rel => exact ⟨_, rfl, by rw [← F1.out, ← F2.out]; exact Blk.made _ _ _, by (repeat (first | assumption | refine Blk.past ?_ (by assumption) | refine Blk.past ?_ (Past.prop _) | refine Blk.alloc ?_ _ | refine Blk.other ?_ (by omega) _ | refine Blk.drew ?_ _)), by (repeat (first | exact Below.refl _ _ | assumption | refine balloc ?_ _ | refine below_drewN ?_ _ | refine bstep (by assumption) ?_ | refine bstep (Past.prop _) ?_ | refine Below.setCell ?_ (by first | exact Nat.le_refl _ | (simp; done) | (simp; omega)) _))⟩
    · by_cases cb : 0 ≤ b
      · have E1 : (1 : Int) = P := by have := HP.out; unfold mx at this; rw [if_pos (by omega)] at this; simpa using this
        have E2 : 1 + b % 1048576 = Q := by have := HQ.out; rw [show mx b 0 = b by unfold mx; split <;> omega] at this; exact this
        have F1 := hidE E1; have F2 := hidE E2
        clear E1 E2 bP bQ
        go_wp2_with (go_at_call 24; ((with_reducible refine (lof _ _ _).mono ?_); rintro e w' ⟨rfl, hb⟩; obtain ⟨hc, hf⟩ := bcell hb))
        have B5 := HB5.out
        go_meet
        case rel => exact ⟨_, rfl, by rw [← F1.out, ← F2.out]; exact Blk.made _ _ _, by (repeat (first | assumption | refine Blk.past ?_ (by assumption) | refine Blk.past ?_ (Past.prop _) | refine Blk.alloc ?_ _ | refine Blk.other ?_ (by omega) _ | refine Blk.drew ?_ _)), by (repeat (first | exact Below.refl _ _ | assumption | refine balloc ?_ _ | refine below_drewN ?_ _ | refine bstep (by assumption) ?_ | refine bstep (Past.prop _) ?_ | refine Below.setCell ?_ (by first | exact Nat.le_refl _ | (simp; done) | (simp; omega)) _))⟩
      · have E1 : (1 : Int) = P := by have := HP.out; unfold mx at this; rw [if_pos (by omega)] at this; simpa using this
        have E2 : (1 : Int) = Q := by have := HQ.out; unfold mx at this; rw [if_pos (by omega)] at this; simpa using this
        have F1 := hidE E1; have F2 := hidE E2
        clear E1 E2 bP bQ
        go_wp2_with (go_at_call 24; ((with_reducible refine (lof _ _ _).mono ?_); rintro e w' ⟨rfl, hb⟩; obtain ⟨hc, hf⟩ := bcell hb))
        have B5 := HB5.out
        go_meet
        case rel => exact ⟨_, rfl, by rw [← F1.out, ← F2.out]; exact Blk.made _ _ _, by (repeat (first | assumption | refine Blk.past ?_ (by assumption) | refine Blk.past ?_ (Past.prop _) | refine Blk.alloc ?_ _ | refine Blk.other ?_ (by omega) _ | refine Blk.drew ?_ _)), by (repeat (first | exact Below.refl _ _ | assumption | refine balloc ?_ _ | refine below_drewN ?_ _ | refine bstep (by assumption) ?_ | refine bstep (Past.prop _) ?_ | refine Below.setCell ?_ (by first | exact Nat.le_refl _ | (simp; done) | (simp; omega)) _))⟩
  obtain ⟨p7, rfl, B7, B5, hb⟩ := hcut
  clear HB5
  have C7 := B7.cell 0; have C7' := B7.cell 1; have L7 := B7.lt; have C5 := B5.cell 0; have C5' := B5.cell 1; have L5 := B5.lt
  simp at C7 C7' C5 C5'
  go_upto_region 2 with fail
  rename World => w1
  go_cut [8] (fun s8 wx => s8 = .int .i64 k ∧ wx = w1)
  case first =>
    go_wp2
    go_meet
    case rel => exact ⟨by rw [← HK.out], rfl⟩
  obtain ⟨rfl, rfl⟩ := hcut
  go_upto_region 3 with fail
  have hk64 : -9223372036854775808 ≤ k ∧ k ≤ 9223372036854775807 := by omega
  have HK64 := hidE hk64; clear hk64
  go_cut [9, 10] (fun s9 s10 wx => ∃ p : Nat, s9 = .pointer (some ⟨p, 0, none⟩) ∧ s10 = .int .i64 0 ∧ Blk wx p #[.int .i64 (P * k), .int .i64 (Q * k)] 23 ∧ Blk wx p7 #[.int .i64 P, .int .i64 Q] 23 ∧ Blk wx (w.heap.size + 1) #[.int .i64 e, .int .i64 f] 23 ∧ Below w.heap.size w wx)
  case first =>
    go_wp2_with (go_at_call 9; ((with_reducible refine (scl_eq HK64.out M1.out).mono ?_); rintro e w' ⟨rfl, hb⟩; obtain ⟨hc, hf⟩ := bcell hb))
    go_meet
    case rel => exact ⟨_, rfl, rfl, Blk.made _ _ _, by (repeat (first | assumption | refine Blk.past ?_ (by assumption) | refine Blk.past ?_ (Past.prop _) | refine Blk.alloc ?_ _ | refine Blk.other ?_ (by omega) _ | refine Blk.drew ?_ _)), by (repeat (first | assumption | refine Blk.past ?_ (by assumption) | refine Blk.past ?_ (Past.prop _) | refine Blk.alloc ?_ _ | refine Blk.other ?_ (by omega) _ | refine Blk.drew ?_ _)), by (repeat (first | exact Below.refl _ _ | assumption | refine balloc ?_ _ | refine below_drewN ?_ _ | refine bstep (by assumption) ?_ | refine bstep (Past.prop _) ?_ | refine Below.setCell ?_ (by first | exact Nat.le_refl _ | (simp; done) | (simp; omega)) _))⟩
  obtain ⟨p9, rfl, rfl, B9, B7, B5, hb⟩ := hcut
  have C7 := B7.cell 0; have C7' := B7.cell 1; have L7 := B7.lt; have C5 := B5.cell 0; have C5' := B5.cell 1; have L5 := B5.lt; have C9 := B9.cell 0; have C9' := B9.cell 1; have L9 := B9.lt
  simp at C7 C7' C5 C5' C9 C9'
  rename World => w2
  go_upto_region 4 with fail
  go_cut [11, 12] (fun s11 s12 wx => ∃ p : Nat, s11 = .pointer (some ⟨p, 0, none⟩) ∧ s12 = .int .i64 0 ∧ Blk wx p #[.int .i64 (P * k + X), .int .i64 (Q * k + Y)] 23 ∧ Blk wx p7 #[.int .i64 P, .int .i64 Q] 23 ∧ Below w.heap.size w wx)
  case first =>
    have nz : (P == 0) = false := beq_eq_false_iff_ne.2 (by omega)
    have nz2 : P ≠ 0 := by omega
    have mE := mx_ge e; have mE' := mx_le HE.out.2; have mF := mx_ge f; have mF' := mx_le HF.out.2
    have t1 : IntKind.i64.wrap ((mx e 0).tmod P) = X := by rw [Int.tmod_eq_emod_of_nonneg mE.1, HX.out]; exact IntWalk.i64_in _ (by omega)
    have t2 : IntKind.i64.wrap ((mx f 0).tmod 1048576) = Y := by rw [Int.tmod_eq_emod_of_nonneg mF.1, HY.out]; exact IntWalk.i64_in _ (by omega)
    refine wp_region_J 18 [16] (nthR [detR (V (P * k) (Q * k)), detR (.pointer (some ⟨w.heap.size + 1, 0, none⟩)), detR (.int .i64 e), detR (.int .i64 (mx e 0)), detR (.pointer (some ⟨p7, 0, none⟩)), detR (.int .i64 P), detR (.int .i64 X), detR (.pointer (some ⟨w.heap.size + 1, 1, none⟩)), detR (.int .i64 f), detR (.int .i64 (mx f 0)), detR (.int .i64 Y), detR (V X Y), sliR w2.heap.size 2 #[.int .i64 (P * k), .int .i64 (Q * k), .int .i64 X, .int .i64 Y] 23, detR (VE (P * k + X, Q * k + Y, 0)), detR (VE (P * k + X, Q * k + Y, 0)), detR (V (P * k + X) (Q * k + Y)), detR (.int .i64 0), newR w2.heap.size #[.int .i64 0, .int .i64 0] 23]) (fun _ => false) (by kernel_rfl) (by simp) (by kernel_rfl) (stab_nth (by simp [stab_det, stab_new, stab_sli])) ?_ ?_ ?_
    · intro i o hi ho
      match i, hi with
      | 0, _ =>
        obtain rfl := Option.some.inj ho
        intro u x hd
        have hc := Past.cell x
        simp [go_sem, gives, frm, Act.put, nthR, detR, Region.wanted, Below.refl, hc, C9, C9', L9]
      | 1, _ =>
        obtain rfl := Option.some.inj ho
        intro u x hd
        have hc := Past.cell x
        simp [go_sem, gives, frm, Act.put, nthR, detR, Region.wanted, Below.refl, hc]
      | 2, _ =>
        obtain rfl := Option.some.inj ho
        intro u x hd
        have hc := Past.cell x
        have d1 := hd 1 (by decide) (by kernel_rfl)
        simp only [nthR, detR, List.getD_cons_zero, List.getD_cons_succ] at d1
        simp [go_sem, gives, frm, Act.put, nthR, detR, Region.wanted, Below.refl, hc, d1, C5, L5]
      | 3, _ =>
        obtain rfl := Option.some.inj ho
        intro u x hd
        have hc := Past.cell x
        have d2 := hd 2 (by decide) (by kernel_rfl)
        simp only [nthR, detR, List.getD_cons_zero, List.getD_cons_succ] at d2
        simp [go_sem, gives, frm, Act.put, nthR, detR, Region.wanted, Below.refl, hc, d2]
        (unfold mx; split <;> split <;> omega)
      | 4, _ =>
        obtain rfl := Option.some.inj ho
        intro u x hd
        have hc := Past.cell x
        simp [go_sem, gives, frm, Act.put, nthR, detR, Region.wanted, Below.refl, hc]
      | 5, _ =>
        obtain rfl := Option.some.inj ho
        intro u x hd
        have hc := Past.cell x
        have d4 := hd 4 (by decide) (by kernel_rfl)
        simp only [nthR, detR, List.getD_cons_zero, List.getD_cons_succ] at d4
        simp [go_sem, gives, frm, Act.put, nthR, detR, Region.wanted, Below.refl, hc, d4, C7, L7]
      | 6, _ =>
        obtain rfl := Option.some.inj ho
        intro u x hd
        have hc := Past.cell x
        have d3 := hd 3 (by decide) (by kernel_rfl)
        have d5 := hd 5 (by decide) (by kernel_rfl)
        simp only [nthR, detR, List.getD_cons_zero, List.getD_cons_succ] at d3 d5
        simp [go_sem, gives, frm, Act.put, nthR, detR, Region.wanted, Below.refl, hc, d3, d5, nz, nz2, t1]
        rw [Int.tmod_eq_emod_of_nonneg mE.1, HX.out]
      | 7, _ =>
        obtain rfl := Option.some.inj ho
        intro u x hd
        have hc := Past.cell x
        simp [go_sem, gives, frm, Act.put, nthR, detR, Region.wanted, Below.refl, hc]
      | 8, _ =>
        obtain rfl := Option.some.inj ho
        intro u x hd
        have hc := Past.cell x
        have d7 := hd 7 (by decide) (by kernel_rfl)
        simp only [nthR, detR, List.getD_cons_zero, List.getD_cons_succ] at d7
        simp [go_sem, gives, frm, Act.put, nthR, detR, Region.wanted, Below.refl, hc, d7, C5', L5]
      | 9, _ =>
        obtain rfl := Option.some.inj ho
        intro u x hd
        have hc := Past.cell x
        have d8 := hd 8 (by decide) (by kernel_rfl)
        simp only [nthR, detR, List.getD_cons_zero, List.getD_cons_succ] at d8
        simp [go_sem, gives, frm, Act.put, nthR, detR, Region.wanted, Below.refl, hc, d8]
        (unfold mx; split <;> split <;> omega)
      | 10, _ =>
        obtain rfl := Option.some.inj ho
        intro u x hd
        have hc := Past.cell x
        have d9 := hd 9 (by decide) (by kernel_rfl)
        simp only [nthR, detR, List.getD_cons_zero, List.getD_cons_succ] at d9
        simp [go_sem, gives, frm, Act.put, nthR, detR, Region.wanted, Below.refl, hc, d9, t2]
        rw [Int.tmod_eq_emod_of_nonneg mF.1, HY.out]
      | 11, _ =>
        obtain rfl := Option.some.inj ho
        intro u x hd
        have hc := Past.cell x
        have d6 := hd 6 (by decide) (by kernel_rfl)
        have d10 := hd 10 (by decide) (by kernel_rfl)
        simp only [nthR, detR, List.getD_cons_zero, List.getD_cons_succ] at d6 d10
        simp [go_sem, gives, frm, Act.put, nthR, detR, Region.wanted, Below.refl, hc, d6, d10]
        exact lof _ _ _
      | 12, _ =>
        obtain rfl := Option.some.inj ho
        intro u x hd
        have hc := Past.cell x
        have d0 := hd 0 (by decide) (by kernel_rfl)
        have d11 := hd 11 (by decide) (by kernel_rfl)
        simp only [nthR, detR, List.getD_cons_zero, List.getD_cons_succ] at d0 d11
        simp [go_sem, gives, frm, Act.put, nthR, detR, Region.wanted, Below.refl, hc, d0, d11]
        exact ⟨by (repeat (first | exact Below.refl _ _ | assumption | refine balloc ?_ _ | refine below_drewN ?_ _ | refine bstep (by assumption) ?_ | refine bstep (Past.prop _) ?_ | refine Below.setCell ?_ (by first | exact Nat.le_refl _ | (simp; done) | (simp; omega)) _)), ⟨_, rfl, by simpa using x.2.size, Blk.made _ _ _⟩⟩
      | 13, _ =>
        obtain rfl := Option.some.inj ho
        intro u x hd
        have hc := Past.cell x
        obtain ⟨q, h12, l12, B12⟩ := hd 12 (by decide) (by kernel_rfl)
        simp [go_sem, gives, frm, Act.put, nthR, detR, Region.wanted, Below.refl, hc, h12]
        exact add2 B12 M2.out
      | 14, _ =>
        obtain rfl := Option.some.inj ho
        intro u x hd
        have hc := Past.cell x
        have d13 := hd 13 (by decide) (by kernel_rfl)
        simp only [nthR, detR, List.getD_cons_zero, List.getD_cons_succ] at d13
        simp [go_sem, gives, frm, Act.put, nthR, detR, Region.wanted, Below.refl, hc, d13]
      | 15, _ =>
        obtain rfl := Option.some.inj ho
        intro u x hd
        have hc := Past.cell x
        have d14 := hd 14 (by decide) (by kernel_rfl)
        simp only [nthR, detR, List.getD_cons_zero, List.getD_cons_succ] at d14
        simp [go_sem, gives, frm, Act.put, nthR, detR, Region.wanted, Below.refl, hc, d14]
      | 16, _ =>
        obtain rfl := Option.some.inj ho
        intro u x hd
        have hc := Past.cell x
        have d14 := hd 14 (by decide) (by kernel_rfl)
        simp only [nthR, detR, List.getD_cons_zero, List.getD_cons_succ] at d14
        simp [go_sem, gives, frm, Act.put, nthR, detR, Region.wanted, Below.refl, hc, d14]
      | 17, _ =>
        obtain rfl := Option.some.inj ho
        intro u x hd
        have hc := Past.cell x
        simp [go_sem, gives, frm, Act.put, nthR, detR, Region.wanted, Below.refl, hc]
        exact ⟨by (repeat (first | exact Below.refl _ _ | assumption | refine balloc ?_ _ | refine below_drewN ?_ _ | refine bstep (by assumption) ?_ | refine bstep (Past.prop _) ?_ | refine Below.setCell ?_ (by first | exact Nat.le_refl _ | (simp; done) | (simp; omega)) _)), ⟨_, rfl, by simpa using x.2.size, Blk.made _ _ _⟩⟩
      | i + 18, h => exact absurd h (by omega)
    · intro i o hx ho
      simp only [List.mem_cons, List.not_mem_nil, or_false] at hx
      rcases hx with rfl
      · obtain rfl := Option.some.inj ho
        refine ⟨rfl, fun _ _ _ _ h => h, fun u x hd => ?_⟩
        have d14 := hd 14 (by decide) (by kernel_rfl)
        simp only [nthR, detR, List.getD_cons_zero, List.getD_cons_succ] at d14
        refine ⟨rfl, .int .i64 0, rfl, fun w' => ?_⟩
        simp [go_sem, frm, Act.put, d14]
    · intro u x hu hne
      have d15 := hu 15 (by decide); have d16 := hu 16 (by decide)
      obtain ⟨p, h17, l17, B17⟩ : newR _ _ _ _ _ := hu 17 (by decide)
      simp only [nthR, detR, List.getD_cons_zero, List.getD_cons_succ] at d15 d16
      have c0 := B17.cell 0; have c1 := B17.cell 1; have f17 := B17.free
      have B7 := B7.past x.2
      simp at c0 c1
      simp only [frm, List.take, Act.put, d15, d16, h17]
      clear d15 d16 hu hne
      go_wp2
      go_meet
      case rel => exact ⟨p, rfl, rfl, (B17.set 0 _).set 1 _, (B7.other (by omega) _).other (by omega) _, by (repeat (first | exact Below.refl _ _ | assumption | refine balloc ?_ _ | refine below_drewN ?_ _ | refine bstep (by assumption) ?_ | refine bstep (Past.prop _) ?_ | refine Below.setCell ?_ (by first | exact Nat.le_refl _ | (simp; done) | (simp; omega)) _))⟩
  obtain ⟨p11, rfl, rfl, B11, B7, hb⟩ := hcut
  have C7 := B7.cell 0; have C7' := B7.cell 1; have L7 := B7.lt; have C11 := B11.cell 0; have C11' := B11.cell 1; have L11 := B11.lt
  simp at C7 C7' C11 C11'
  rename World => w3
  go_upto_region 5 with fail
  go_cut [13, 14] (fun s13 s14 wx => s13 = .int .i64 k ∧ s14 = .int .i64 0 ∧ Blk wx p7 #[.int .i64 P, .int .i64 Q] 23 ∧ Blk wx p11 #[.int .i64 (P * k + X), .int .i64 (Q * k + Y)] 23 ∧ Below w.heap.size w wx)
  case first =>
    go_wp2_with (go_at_call 11; ((with_reducible refine (un_eq M3.out).mono ?_); rintro e w' ⟨rfl, hb⟩; obtain ⟨hc, hf⟩ := bcell hb))
    go_meet
    case rel => exact ⟨rfl, rfl, by (repeat (first | assumption | refine Blk.past ?_ (by assumption) | refine Blk.past ?_ (Past.prop _) | refine Blk.alloc ?_ _ | refine Blk.other ?_ (by omega) _ | refine Blk.drew ?_ _)), by (repeat (first | assumption | refine Blk.past ?_ (by assumption) | refine Blk.past ?_ (Past.prop _) | refine Blk.alloc ?_ _ | refine Blk.other ?_ (by omega) _ | refine Blk.drew ?_ _)), by (repeat (first | exact Below.refl _ _ | assumption | refine balloc ?_ _ | refine below_drewN ?_ _ | refine bstep (by assumption) ?_ | refine bstep (Past.prop _) ?_ | refine Below.setCell ?_ (by first | exact Nat.le_refl _ | (simp; done) | (simp; omega)) _))⟩
  obtain ⟨rfl, rfl, B7, B11, hb⟩ := hcut
  have C7 := B7.cell 0; have C7' := B7.cell 1; have L7 := B7.lt
  simp at C7 C7'
  have hk65 : -9223372036854775808 ≤ k + 1 ∧ k + 1 ≤ 9223372036854775807 := by omega
  have HK65 := hidE hk65; clear hk65
  go_upto_region 6 with fail
  go_cut [15, 16] (fun s15 s16 wx => ∃ p : Nat, s15 = .pointer (some ⟨p, 0, none⟩) ∧ s16 = .int .i64 0 ∧ Blk wx p #[.int .i64 (P * (k + 1)), .int .i64 (Q * (k + 1))] 23 ∧ Blk wx p7 #[.int .i64 P, .int .i64 Q] 23 ∧ Blk wx p11 #[.int .i64 (P * k + X), .int .i64 (Q * k + Y)] 23 ∧ Below w.heap.size w wx)
  case first =>
    go_wp2_with (go_at_call 9; ((with_reducible refine (scl_eq HK65.out M4.out).mono ?_); rintro e w' ⟨rfl, hb⟩; obtain ⟨hc, hf⟩ := bcell hb))
    go_meet
    case rel => exact ⟨_, rfl, rfl, Blk.made _ _ _, by (repeat (first | assumption | refine Blk.past ?_ (by assumption) | refine Blk.past ?_ (Past.prop _) | refine Blk.alloc ?_ _ | refine Blk.other ?_ (by omega) _ | refine Blk.drew ?_ _)), by (repeat (first | assumption | refine Blk.past ?_ (by assumption) | refine Blk.past ?_ (Past.prop _) | refine Blk.alloc ?_ _ | refine Blk.other ?_ (by omega) _ | refine Blk.drew ?_ _)), by (repeat (first | exact Below.refl _ _ | assumption | refine balloc ?_ _ | refine below_drewN ?_ _ | refine bstep (by assumption) ?_ | refine bstep (Past.prop _) ?_ | refine Below.setCell ?_ (by first | exact Nat.le_refl _ | (simp; done) | (simp; omega)) _))⟩
  obtain ⟨p15, rfl, rfl, B15, B7, B11, hb⟩ := hcut
  have C7 := B7.cell 0; have C7' := B7.cell 1; have L7 := B7.lt
  simp at C7 C7'
  go_upto_region 7 with fail
  go_cut [17, 18] (fun s17 s18 wx => ∃ p : Nat, s17 = .pointer (some ⟨p, 0, none⟩) ∧ s18 = .int .i64 0 ∧ Blk wx p #[.int .i64 (P * k), .int .i64 (Q * k)] 23 ∧ Blk wx p15 #[.int .i64 (P * (k + 1)), .int .i64 (Q * (k + 1))] 23 ∧ Blk wx p11 #[.int .i64 (P * k + X), .int .i64 (Q * k + Y)] 23 ∧ Below w.heap.size w wx)
  case first =>
    go_wp2_with (go_at_call 9; ((with_reducible refine (scl_eq HK64.out M1.out).mono ?_); rintro e w' ⟨rfl, hb⟩; obtain ⟨hc, hf⟩ := bcell hb))
    go_meet
    case rel => exact ⟨_, rfl, rfl, Blk.made _ _ _, by (repeat (first | assumption | refine Blk.past ?_ (by assumption) | refine Blk.past ?_ (Past.prop _) | refine Blk.alloc ?_ _ | refine Blk.other ?_ (by omega) _ | refine Blk.drew ?_ _)), by (repeat (first | assumption | refine Blk.past ?_ (by assumption) | refine Blk.past ?_ (Past.prop _) | refine Blk.alloc ?_ _ | refine Blk.other ?_ (by omega) _ | refine Blk.drew ?_ _)), by (repeat (first | exact Below.refl _ _ | assumption | refine balloc ?_ _ | refine below_drewN ?_ _ | refine bstep (by assumption) ?_ | refine bstep (Past.prop _) ?_ | refine Below.setCell ?_ (by first | exact Nat.le_refl _ | (simp; done) | (simp; omega)) _))⟩
  obtain ⟨p17, rfl, rfl, B17, B15, B11, hb⟩ := hcut
  have C11 := B11.cell 0; have C11' := B11.cell 1; have L11 := B11.lt; have C15 := B15.cell 0; have C15' := B15.cell 1; have L15 := B15.lt; have C17 := B17.cell 0; have C17' := B17.cell 1; have L17 := B17.lt
  simp at C11 C11' C15 C15' C17 C17'
  rename World => w4
  have hc := Past.cell (W := w4)
  go_upto_region 8 with fail
  refine wp_region_past_seq ?_
  repeat (go_big_quiet_step ((first | (go_at_call 19; exact Past.call _ (le_eq M5.out)) | (go_at_call 19; exact Past.call _ (le_eq M6.out)) | (go_at_call 21; exact Past.call _ (head_c _)))))
  refine wpQuiet_nil ?_
  rintro _ ⟨x, rfl⟩
  go_wp2
  go_ret
  refine ⟨rfl, ?_⟩
  (repeat (first | exact Below.refl _ _ | assumption | refine balloc ?_ _ | refine below_drewN ?_ _ | refine bstep (by assumption) ?_ | refine bstep (Past.prop _) ?_ | refine Below.setCell ?_ (by first | exact Nat.le_refl _ | (simp; done) | (simp; omega)) _))


end Go.Proofs.Ytnhegohhffecpaa
