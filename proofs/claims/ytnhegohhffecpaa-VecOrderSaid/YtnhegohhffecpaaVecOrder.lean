/- VecOrder answers true for every input. No conditions. -/
import Derived.Test.YtnhegohhffecpaaVecHead
import Derived.Test.YtnhegohhffecpaaJ
namespace Go.Proofs.Ytnhegohhffecpaa
open Go.ChangeShapes Go.WideShapes Go.ChangeAt Go.RowKit
attribute [local irreducible] Go.Calls

theorem mn_eq {a b c d x y : Int} {w : World} (h1 : mn a c = x) (h2 : mn b d = y) : Calls Try.prog 15 #[V a b, V c d] w fun e w' => e = .returned (V x y) ∧ Below w.heap.size w w' := h1 ▸ h2 ▸ mn_c a b c d w
theorem mx_eq {a b c d x y : Int} {w : World} (h1 : mx a c = x) (h2 : mx b d = y) : Calls Try.prog 17 #[V a b, V c d] w fun e w' => e = .returned (V x y) ∧ Below w.heap.size w w' := h1 ▸ h2 ▸ mx_c a b c d w

set_option maxRecDepth 100000 in
set_option maxHeartbeats 4000000 in
theorem order_c (a b c d f g : Int) (w : World) : Calls Try.prog 5 #[V a b, V c d, V f g] w fun e w' => e = .returned (.bool true) ∧ Below w.heap.size w w' := by
  go_enter Try.func5, Try.ntmps5
  go_upto_region 1 with fail
  go_cut [7, 8] (fun s7 s8 wx => ∃ p q : Nat, s7 = .pointer (some ⟨p, 0, none⟩) ∧ s8 = .pointer (some ⟨q, 0, none⟩) ∧ Blk wx p #[.int .i64 (mn a c), .int .i64 (mn b d)] 23 ∧ Blk wx q #[.int .i64 (mx a c), .int .i64 (mx b d)] 23 ∧ Blk wx w.heap.size #[.int .i64 a, .int .i64 b] 23 ∧ Blk wx (w.heap.size + 1) #[.int .i64 c, .int .i64 d] 23 ∧ Blk wx (w.heap.size + 1 + 1) #[.int .i64 f, .int .i64 g] 23 ∧ Below w.heap.size w wx)
  case first =>
    refine wp_region_J 8 (nthR [detR (V a b), detR (V c d), detR (V (mn a c) (mn b d)), detR (V a b), detR (V c d), detR (V (mx a c) (mx b d)), newR (w.heap.size + 1 + 1 + 1) #[.int .i64 0, .int .i64 0] 23, newR (w.heap.size + 1 + 1 + 1) #[.int .i64 0, .int .i64 0] 23]) (fun i => decide (6 ≤ i)) (by kernel_rfl) (by simp) (by kernel_rfl) (stab_nth (by simp [stab_det, stab_new])) ?_ ?_
    · intro i o hi ho
      match i, hi with
      | 0, _ =>
        obtain rfl := Option.some.inj ho
        intro u x hd
        have hc := Past.cell x
        simp [go_sem, gives, frm, Act.put, nthR, detR, Region.wanted, hc, Below.refl]
      | 1, _ =>
        obtain rfl := Option.some.inj ho
        intro u x hd
        have hc := Past.cell x
        simp [go_sem, gives, frm, Act.put, nthR, detR, Region.wanted, hc, Below.refl]
      | 2, _ =>
        obtain rfl := Option.some.inj ho
        intro u x hd
        have d0 := hd 0 (by decide) (by kernel_rfl)
        have d1 := hd 1 (by decide) (by kernel_rfl)
        simp [nthR, detR] at d0 d1
        simp [go_sem, gives, frm, Act.put, nthR, detR, Region.wanted, d0, d1]
        exact mn_c _ _ _ _ _
      | 3, _ =>
        obtain rfl := Option.some.inj ho
        intro u x hd
        have hc := Past.cell x
        simp [go_sem, gives, frm, Act.put, nthR, detR, Region.wanted, hc, Below.refl]
      | 4, _ =>
        obtain rfl := Option.some.inj ho
        intro u x hd
        have hc := Past.cell x
        simp [go_sem, gives, frm, Act.put, nthR, detR, Region.wanted, hc, Below.refl]
      | 5, _ =>
        obtain rfl := Option.some.inj ho
        intro u x hd
        have d0 := hd 3 (by decide) (by kernel_rfl)
        have d1 := hd 4 (by decide) (by kernel_rfl)
        simp [nthR, detR] at d0 d1
        simp [go_sem, gives, frm, Act.put, nthR, detR, Region.wanted, d0, d1]
        exact mx_c _ _ _ _ _
      | 6, _ =>
        obtain rfl := Option.some.inj ho
        intro u x hd
        simp [go_sem, gives, frm, Act.put, nthR, Region.wanted]
        exact ⟨by (repeat (first | exact Below.refl _ _ | assumption | refine balloc ?_ _ | refine below_drewN ?_ _ | refine bstep (by assumption) ?_ | refine bstep (Past.prop _) ?_ | refine Below.setCell ?_ (by first | exact Nat.le_refl _ | (simp; done) | (simp; omega)) _)), ⟨_, rfl, by simpa using x.2.size, Blk.made _ _ _⟩⟩
      | 7, _ =>
        obtain rfl := Option.some.inj ho
        intro u x hd
        simp [go_sem, gives, frm, Act.put, nthR, Region.wanted]
        exact ⟨by (repeat (first | exact Below.refl _ _ | assumption | refine balloc ?_ _ | refine below_drewN ?_ _ | refine bstep (by assumption) ?_ | refine bstep (Past.prop _) ?_ | refine Below.setCell ?_ (by first | exact Nat.le_refl _ | (simp; done) | (simp; omega)) _)), ⟨_, rfl, by simpa using x.2.size, Blk.made _ _ _⟩⟩
    · intro u x hu hne
      have d2 := hu 2 (by decide); have d5 := hu 5 (by decide)
      obtain ⟨p, h6, l6, B6⟩ : newR _ _ _ _ _ := hu 6 (by decide)
      obtain ⟨q, h7, l7, B7⟩ : newR _ _ _ _ _ := hu 7 (by decide)
      have hpq := hne 6 7 (by decide) (by decide) (by decide) rfl rfl
      rw [h6, h7] at hpq
      simp at hpq
      simp [nthR, detR] at d2 d5
      have c60 := B6.cell 0; have c61 := B6.cell 1; have c70 := B7.cell 0; have c71 := B7.cell 1
      have f6 := B6.free; have f7 := B7.free
      simp at c60 c61 c70 c71
      simp only [frm, List.take, Act.put, h6, h7, d2, d5]
      have B0 : Blk x.1 w.heap.size #[.int .i64 a, .int .i64 b] 23 := (((Blk.made _ _ _).alloc _).alloc _).past x.2
      have B1 : Blk x.1 (w.heap.size + 1) #[.int .i64 c, .int .i64 d] 23 := ((Blk.made_at _ _ _ _ (by simp)).alloc _).past x.2
      have B2 : Blk x.1 (w.heap.size + 1 + 1) #[.int .i64 f, .int .i64 g] 23 := (Blk.made_at _ _ _ _ (by simp)).past x.2
      clear d2 d5
      go_wp2
      go_meet
      case rel =>
        exact ⟨p, q, rfl, rfl, (((B6.set 0 _).set 1 _).other (by omega) _).other (by omega) _, (((B7.other (by omega) _).other (by omega) _).set 0 _).set 1 _, (((B0.other (by omega) _).other (by omega) _).other (by omega) _).other (by omega) _, (((B1.other (by omega) _).other (by omega) _).other (by omega) _).other (by omega) _, (((B2.other (by omega) _).other (by omega) _).other (by omega) _).other (by omega) _, by (repeat (first | exact Below.refl _ _ | assumption | refine balloc ?_ _ | refine below_drewN ?_ _ | refine bstep (by assumption) ?_ | refine bstep (Past.prop _) ?_ | refine Below.setCell ?_ (by first | exact Nat.le_refl _ | (simp; done) | (simp; omega)) _))⟩
  case rest =>
    obtain ⟨p, q, rfl, rfl, B7, B8, B0, B1, B2, hb⟩ := hcut
    have r1 : leB a b a b = true := leB_iff.2 (by omega)
    have C7 := B7.cell 0; have C7' := B7.cell 1; have C8 := B8.cell 0; have C8' := B8.cell 1
    have C0 := B0.cell 0; have C0' := B0.cell 1; have C1 := B1.cell 0; have C1' := B1.cell 1; have C2 := B2.cell 0; have C2' := B2.cell 1
    have L7 := B7.lt; have L8 := B8.lt; have L0 := B0.lt; have L1 := B1.lt; have L2 := B2.lt
    simp at C7 C7' C8 C8' C0 C0' C1 C1' C2 C2'
    go_upto_region 2 with fail
    go_cut [49] (fun s49 wx => s49 = .bool false ∧ Below wc.heap.size wc wx)
    case first =>
      have hc := Past.cell (W := wc)
      cases t1 : leB a b c d
      · refine wp_region_past_seq ?_
        repeat (go_big_quiet_step ((first | (go_at_call 19; exact Past.call _ (le_eq (by assumption))) | (go_at_call 21; exact Past.call _ (head_c _)) | (go_at_call 15; exact Past.call _ (mn_eq (by assumption) (by assumption))) | (go_at_call 17; exact Past.call _ (mx_eq (by assumption) (by assumption))))))
        refine wpQuiet_nil ?_
        rintro _ ⟨x, rfl⟩
        go_wp2
        go_meet
        case rel => exact ⟨rfl, x.2⟩
      · cases t3 : leB c d f g
        · cases t2 : leB c d a b
          · refine wp_region_past_seq ?_
            repeat (go_big_quiet_step ((first | (go_at_call 19; exact Past.call _ (le_eq (by assumption))) | (go_at_call 21; exact Past.call _ (head_c _)) | (go_at_call 15; exact Past.call _ (mn_eq (by assumption) (by assumption))) | (go_at_call 17; exact Past.call _ (mx_eq (by assumption) (by assumption))))))
            refine wpQuiet_nil ?_
            rintro _ ⟨x, rfl⟩
            go_wp2
            go_meet
            case rel => exact ⟨rfl, x.2⟩
          · obtain ⟨rfl, rfl⟩ : c = a ∧ d = b := by rw [leB_iff] at t1 t2; omega
            clear t2
            all_goals (skip)
            · refine wp_region_past_seq ?_
              repeat (go_big_quiet_step ((first | (go_at_call 19; exact Past.call _ (le_eq (by assumption))) | (go_at_call 21; exact Past.call _ (head_c _)) | (go_at_call 15; exact Past.call _ (mn_eq (by assumption) (by assumption))) | (go_at_call 17; exact Past.call _ (mx_eq (by assumption) (by assumption))))))
              refine wpQuiet_nil ?_
              rintro _ ⟨x, rfl⟩
              go_wp2
              go_meet
              case rel => exact ⟨rfl, x.2⟩
        · have t4 : leB a b f g = true := by rw [leB_iff] at t1 t3 ⊢; omega
          cases t2 : leB c d a b
          · refine wp_region_past_seq ?_
            repeat (go_big_quiet_step ((first | (go_at_call 19; exact Past.call _ (le_eq (by assumption))) | (go_at_call 21; exact Past.call _ (head_c _)) | (go_at_call 15; exact Past.call _ (mn_eq (by assumption) (by assumption))) | (go_at_call 17; exact Past.call _ (mx_eq (by assumption) (by assumption))))))
            refine wpQuiet_nil ?_
            rintro _ ⟨x, rfl⟩
            go_wp2
            go_meet
            case rel => exact ⟨rfl, x.2⟩
          · obtain ⟨rfl, rfl⟩ : c = a ∧ d = b := by rw [leB_iff] at t1 t2; omega
            clear t2
            all_goals (skip)
            · refine wp_region_past_seq ?_
              repeat (go_big_quiet_step ((first | (go_at_call 19; exact Past.call _ (le_eq (by assumption))) | (go_at_call 21; exact Past.call _ (head_c _)) | (go_at_call 15; exact Past.call _ (mn_eq (by assumption) (by assumption))) | (go_at_call 17; exact Past.call _ (mx_eq (by assumption) (by assumption))))))
              refine wpQuiet_nil ?_
              rintro _ ⟨x, rfl⟩
              go_wp2
              go_meet
              case rel => exact ⟨rfl, x.2⟩
    obtain ⟨rfl, hb2⟩ := hcut
    have B7 := B7.past hb2; have B8 := B8.past hb2; have B0 := B0.past hb2; have B1 := B1.past hb2; have B2 := B2.past hb2
    have C7 := B7.cell 0; have C7' := B7.cell 1; have C8 := B8.cell 0; have C8' := B8.cell 1
    have C0 := B0.cell 0; have C0' := B0.cell 1; have C1 := B1.cell 0; have C1' := B1.cell 1; have C2 := B2.cell 0; have C2' := B2.cell 1
    have L7 := B7.lt; have L8 := B8.lt; have L0 := B0.lt; have L1 := B1.lt; have L2 := B2.lt
    simp at C7 C7' C8 C8' C0 C0' C1 C1' C2 C2'
    have q1 : leB (mn a c) (mn b d) a b = true := by rw [leB_iff, mn_min, mn_min]; omega
    have q2 : leB (mn a c) (mn b d) c d = true := by rw [leB_iff, mn_min, mn_min]; omega
    have q3 : leB a b (mx a c) (mx b d) = true := by rw [leB_iff, mx_max, mx_max]; omega
    have q4 : leB c d (mx a c) (mx b d) = true := by rw [leB_iff, mx_max, mx_max]; omega
    have q5 : mn c a = mn a c := by rw [mn_min, mn_min]; omega
    have q6 : mn d b = mn b d := by rw [mn_min, mn_min]; omega
    have q7 : mx c a = mx a c := by rw [mx_max, mx_max]; omega
    have q8 : mx d b = mx b d := by rw [mx_max, mx_max]; omega
    rename World => w1
    have m1 : leB f g (mn a c) (mn b d) = (leB f g a b && leB f g c d) := by
      rw [Bool.eq_iff_iff, Bool.and_eq_true, leB_iff, leB_iff, leB_iff, mn_min, mn_min]; omega
    have m2 : leB (mx a c) (mx b d) f g = (leB a b f g && leB c d f g) := by
      rw [Bool.eq_iff_iff, Bool.and_eq_true, leB_iff, leB_iff, leB_iff, mx_max, mx_max]; omega
    have M1 := hidE m1; have M2 := hidE m2
    clear m1 m2
    go_upto_region 4 with fail
    go_cut [85] (fun s85 wx => s85 = .bool false ∧ Below w1.heap.size w1 wx)
    case first =>
      have hc := Past.cell (W := w1)
      · refine wp_region_past_lit (by kernel_rfl) (by kernel_rfl) ?_
        repeat (go_big_quiet_step ((first | (go_at_call 19; exact Past.call _ (le_eq (by assumption))) | (go_at_call 21; exact Past.call _ (head_c _)) | (go_at_call 15; exact Past.call _ (mn_eq (by assumption) (by assumption))) | (go_at_call 17; exact Past.call _ (mx_eq (by assumption) (by assumption))))))
        refine wpQuiet_nil ?_
        rintro _ ⟨x, rfl⟩
        go_wp2
        go_meet
        case rel => exact ⟨rfl, x.2⟩
    obtain ⟨rfl, hb3⟩ := hcut
    clear q1 q2 q3 q4 q5 q6 q7 q8 r1
    have B7 := B7.past hb3; have B8 := B8.past hb3; have B0 := B0.past hb3; have B1 := B1.past hb3; have B2 := B2.past hb3
    have C7 := B7.cell 0; have C7' := B7.cell 1; have C8 := B8.cell 0; have C8' := B8.cell 1
    have C0 := B0.cell 0; have C0' := B0.cell 1; have C1 := B1.cell 0; have C1' := B1.cell 1; have C2 := B2.cell 0; have C2' := B2.cell 1
    have L7 := B7.lt; have L8 := B8.lt; have L0 := B0.lt; have L1 := B1.lt; have L2 := B2.lt
    simp at C7 C7' C8 C8' C0 C0' C1 C1' C2 C2'
    rename World => w2
    have hc := Past.cell (W := w2)
    go_upto_region 6 with fail
    cases t5 : leB f g a b
    · have m1 : leB f g (mn a c) (mn b d) = false := by rw [M1.out, t5]; rfl
      cases t4 : leB a b f g
      · have m2 : leB (mx a c) (mx b d) f g = false := by rw [M2.out, t4]; rfl
        all_goals (skip)
        · refine wp_region_past_lit (by kernel_rfl) (by kernel_rfl) ?_
          repeat (go_big_quiet_step ((first | (go_at_call 19; exact Past.call _ (le_eq (by assumption))) | (go_at_call 21; exact Past.call _ (head_c _)) | (go_at_call 15; exact Past.call _ (mn_eq (by assumption) (by assumption))) | (go_at_call 17; exact Past.call _ (mx_eq (by assumption) (by assumption))))))
          refine wpQuiet_nil ?_
          rintro _ ⟨x, rfl⟩
          go_wp2
          go_ret
          refine ⟨rfl, ?_⟩
          (repeat (first | exact Below.refl _ _ | assumption | refine balloc ?_ _ | refine below_drewN ?_ _ | refine bstep (by assumption) ?_ | refine bstep (Past.prop _) ?_ | refine Below.setCell ?_ (by first | exact Nat.le_refl _ | (simp; done) | (simp; omega)) _))
      · cases t3 : leB c d f g
        all_goals
          have m2 := M2.out
          rw [t4, t3] at m2
          simp only [Bool.true_and] at m2
          all_goals (skip)
          · refine wp_region_past_lit (by kernel_rfl) (by kernel_rfl) ?_
            repeat (go_big_quiet_step ((first | (go_at_call 19; exact Past.call _ (le_eq (by assumption))) | (go_at_call 21; exact Past.call _ (head_c _)) | (go_at_call 15; exact Past.call _ (mn_eq (by assumption) (by assumption))) | (go_at_call 17; exact Past.call _ (mx_eq (by assumption) (by assumption))))))
            refine wpQuiet_nil ?_
            rintro _ ⟨x, rfl⟩
            go_wp2
            go_ret
            refine ⟨rfl, ?_⟩
            (repeat (first | exact Below.refl _ _ | assumption | refine balloc ?_ _ | refine below_drewN ?_ _ | refine bstep (by assumption) ?_ | refine bstep (Past.prop _) ?_ | refine Below.setCell ?_ (by first | exact Nat.le_refl _ | (simp; done) | (simp; omega)) _))
    · cases t6 : leB f g c d
      all_goals
        have m1 := M1.out
        rw [t5, t6] at m1
        simp only [Bool.true_and] at m1
        cases t4 : leB a b f g
        · have m2 : leB (mx a c) (mx b d) f g = false := by rw [M2.out, t4]; rfl
          all_goals (skip)
          · refine wp_region_past_lit (by kernel_rfl) (by kernel_rfl) ?_
            repeat (go_big_quiet_step ((first | (go_at_call 19; exact Past.call _ (le_eq (by assumption))) | (go_at_call 21; exact Past.call _ (head_c _)) | (go_at_call 15; exact Past.call _ (mn_eq (by assumption) (by assumption))) | (go_at_call 17; exact Past.call _ (mx_eq (by assumption) (by assumption))))))
            refine wpQuiet_nil ?_
            rintro _ ⟨x, rfl⟩
            go_wp2
            go_ret
            refine ⟨rfl, ?_⟩
            (repeat (first | exact Below.refl _ _ | assumption | refine balloc ?_ _ | refine below_drewN ?_ _ | refine bstep (by assumption) ?_ | refine bstep (Past.prop _) ?_ | refine Below.setCell ?_ (by first | exact Nat.le_refl _ | (simp; done) | (simp; omega)) _))
        · cases t3 : leB c d f g
          all_goals
            have m2 := M2.out
            rw [t4, t3] at m2
            simp only [Bool.true_and] at m2
            all_goals (skip)
            · refine wp_region_past_lit (by kernel_rfl) (by kernel_rfl) ?_
              repeat (go_big_quiet_step ((first | (go_at_call 19; exact Past.call _ (le_eq (by assumption))) | (go_at_call 21; exact Past.call _ (head_c _)) | (go_at_call 15; exact Past.call _ (mn_eq (by assumption) (by assumption))) | (go_at_call 17; exact Past.call _ (mx_eq (by assumption) (by assumption))))))
              refine wpQuiet_nil ?_
              rintro _ ⟨x, rfl⟩
              go_wp2
              go_ret
              refine ⟨rfl, ?_⟩
              (repeat (first | exact Below.refl _ _ | assumption | refine balloc ?_ _ | refine below_drewN ?_ _ | refine bstep (by assumption) ?_ | refine bstep (Past.prop _) ?_ | refine Below.setCell ?_ (by first | exact Nat.le_refl _ | (simp; done) | (simp; omega)) _))

end Go.Proofs.Ytnhegohhffecpaa
