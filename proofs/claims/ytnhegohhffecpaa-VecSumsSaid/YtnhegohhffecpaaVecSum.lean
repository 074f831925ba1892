/- The contract of the document's own sum over a slice of vectors. No conditions but that the slice's cells read as integers. -/
import Derived.Test.YtnhegohhffecpaaVecHead
import Derived.Test.YtnhegohhffecpaaJ
import Derived.LoopTactic
namespace Go.Proofs.Ytnhegohhffecpaa
open Go.ChangeShapes Go.WideShapes Go.ChangeAt Go.RowKit
attribute [local irreducible] Go.Calls

set_option maxRecDepth 100000 in
set_option maxHeartbeats 2000000 in
theorem sum_some (l : List (Int × Int)) (b off cap : Nat) (w : World) (hb0 : b < w.heap.size) (hl : l.length ≤ 9223372036854775807) (hc0 : CellsV w b off l) :
    Calls Try.prog 23 #[.slice (some ⟨b, off, none⟩) l.length cap] w fun e w' => e = .returned (VE (addL l)) ∧ Below w.heap.size w w' := by
  have HC := hidE hc0; clear hc0
  go_enter Try.func23, Try.ntmps23
  go_wp2
  go_loopw [5] (fun i wr => ∃ k : Nat, ∃ x y : Int, k ≤ l.length ∧ i = .int .i64 k ∧ addFrom x y (l.drop k) = addL l ∧ Below w.heap.size w wr ∧ Blk wr (w.heap.size + 1) #[.int .i64 x, .int .i64 y] 23 ∧ Blk wr w.heap.size #[.int .i64 0, .int .i64 0] 23) (fun i _ => l.length - (intOf i).toNat)
  case atStart => exact ⟨0, 0, 0, Nat.zero_le _, rfl, rfl, by (repeat (first | exact Below.refl _ _ | assumption | refine balloc ?_ _ | refine below_drewN ?_ _ | refine bstep (by assumption) ?_ | refine bstep (Past.prop _) ?_ | refine Below.setCell ?_ (by first | exact Nat.le_refl _ | (simp; done) | (simp; omega)) _)), Blk.made_at _ _ _ _ (by simp), (Blk.made _ _ _).alloc _⟩
  case round =>
    obtain ⟨k, x, y, hk, rfl, hs, hb, s1, s0⟩ := hrel
    have HS := hidE hs; clear hs
    have c10 := s1.cell 0; have c11 := s1.cell 1; have f1 := s1.free; have c00 := s0.cell 0; have c01 := s0.cell 1; have f0 := s0.free
    simp at c10 c11 c00 c01
    have z1 := s1.lt; have z0 := s0.lt
    by_cases hlt : k < l.length
    · have e0 := (HC.out k hlt).1; have e1 := (HC.out k hlt).2
      rw [← hb.cell hb0] at e0 e1
      have hbr : b < wr.heap.size := Nat.lt_of_lt_of_le hb0 hb.size
      have HD := hidE (drop_getD l k hlt)
      generalize l.getD k (0, 0) = v at *
      have HG := hidE (fun w => radd x y v.1 v.2 w)
      have HS' := HS.out
      rw [HD.out] at HS'
      unfold addFrom at HS'
      generalize hg : addS x y v.1 v.2 = g at *
      have HS2 := hidE HS'
      clear HS hg HS'
      obtain ⟨wo, rfl⟩ : ∃ wo : World, wo = wr := ⟨_, rfl⟩
      go_upto_region 5 with fail
      go_cut [6, 7] (fun s6 s7 wx => ∃ p : Nat, s6 = .pointer (some ⟨p, 0, none⟩) ∧ s7 = .int .i64 g.2.2 ∧ w.heap.size + 1 < p ∧ Blk wx p #[.int .i64 g.1, .int .i64 g.2.1] 23 ∧ Blk wx (w.heap.size + 1) #[.int .i64 x, .int .i64 y] 23 ∧ Blk wx w.heap.size #[.int .i64 0, .int .i64 0] 23 ∧ Below w.heap.size w wx)
      case first =>
        refine wp_region_J 10 [8] (nthR [detR (V x y), detR (.slice (some ⟨b, off, none⟩) l.length cap), detR (.int .i64 k), detR (.pointer (some ⟨b, off + k * 2, none⟩)), detR (V v.1 v.2), detR (VE g), detR (VE g), detR (V g.1 g.2.1), detR (.int .i64 g.2.2), newR wo.heap.size #[.int .i64 0, .int .i64 0] 23]) (fun _ => false) (by kernel_rfl) (by simp) (by kernel_rfl) (stab_nth (by simp [stab_det, stab_new, stab_sli])) ?_ ?_ ?_
        · intro i o hi ho
          match i, hi with
          | 0, _ =>
            obtain rfl := Option.some.inj ho
            intro u x' hd
            have hc := Past.cell x'
            simp [go_sem, gives, frm, Act.put, nthR, detR, Region.wanted, Below.refl, hc, c10, c11, z1]
          | 1, _ =>
            obtain rfl := Option.some.inj ho
            intro u x' hd
            have hc := Past.cell x'
            simp [go_sem, gives, frm, Act.put, nthR, detR, Region.wanted, Below.refl, hc]
          | 2, _ =>
            obtain rfl := Option.some.inj ho
            intro u x' hd
            have hc := Past.cell x'
            simp [go_sem, gives, frm, Act.put, nthR, detR, Region.wanted, Below.refl, hc]
          | 3, _ =>
            obtain rfl := Option.some.inj ho
            intro u x' hd
            have hc := Past.cell x'
            have d1 := hd 1 (by decide) (by kernel_rfl)
            have d2 := hd 2 (by decide) (by kernel_rfl)
            simp only [nthR, detR, List.getD_cons_zero, List.getD_cons_succ] at d1 d2
            simp [go_sem, gives, frm, Act.put, nthR, detR, Region.wanted, Below.refl, hc, d1, d2, hlt]
          | 4, _ =>
            obtain rfl := Option.some.inj ho
            intro u x' hd
            have hc := Past.cell x'
            have d3 := hd 3 (by decide) (by kernel_rfl)
            simp only [nthR, detR, List.getD_cons_zero, List.getD_cons_succ] at d3
            simp [go_sem, gives, frm, Act.put, nthR, detR, Region.wanted, Below.refl, hc, d3, e0, e1, hbr]
          | 5, _ =>
            obtain rfl := Option.some.inj ho
            intro u x' hd
            have hc := Past.cell x'
            have d0 := hd 0 (by decide) (by kernel_rfl)
            have d4 := hd 4 (by decide) (by kernel_rfl)
            simp only [nthR, detR, List.getD_cons_zero, List.getD_cons_succ] at d0 d4
            simp [go_sem, gives, frm, Act.put, nthR, detR, Region.wanted, Below.refl, hc, d0, d4]
            exact HG.out _
          | 6, _ =>
            obtain rfl := Option.some.inj ho
            intro u x' hd
            have hc := Past.cell x'
            have d5 := hd 5 (by decide) (by kernel_rfl)
            simp only [nthR, detR, List.getD_cons_zero, List.getD_cons_succ] at d5
            simp [go_sem, gives, frm, Act.put, nthR, detR, Region.wanted, Below.refl, hc, d5]
          | 7, _ =>
            obtain rfl := Option.some.inj ho
            intro u x' hd
            have hc := Past.cell x'
            have d6 := hd 6 (by decide) (by kernel_rfl)
            simp only [nthR, detR, List.getD_cons_zero, List.getD_cons_succ] at d6
            simp [go_sem, gives, frm, Act.put, nthR, detR, Region.wanted, Below.refl, hc, d6]
          | 8, _ =>
            obtain rfl := Option.some.inj ho
            intro u x' hd
            have hc := Past.cell x'
            have d6 := hd 6 (by decide) (by kernel_rfl)
            simp only [nthR, detR, List.getD_cons_zero, List.getD_cons_succ] at d6
            simp [go_sem, gives, frm, Act.put, nthR, detR, Region.wanted, Below.refl, hc, d6]
          | 9, _ =>
            obtain rfl := Option.some.inj ho
            intro u x' hd
            have hc := Past.cell x'
            simp [go_sem, gives, frm, Act.put, nthR, detR, Region.wanted, Below.refl, hc]
            exact ⟨by (repeat (first | exact Below.refl _ _ | assumption | refine balloc ?_ _ | refine below_drewN ?_ _ | refine bstep (by assumption) ?_ | refine bstep (Past.prop _) ?_ | refine Below.setCell ?_ (by first | exact Nat.le_refl _ | (simp; done) | (simp; omega)) _)), ⟨_, rfl, by simpa using x'.2.size, Blk.made _ _ _⟩⟩
          | i + 10, h => exact absurd h (by omega)
        · intro i o hx ho
          simp only [List.mem_cons, List.not_mem_nil, or_false] at hx
          rcases hx with rfl
          · obtain rfl := Option.some.inj ho
            refine ⟨rfl, fun _ _ _ _ h => h, fun u x' hd => ?_⟩
            have d6 := hd 6 (by decide) (by kernel_rfl)
            simp only [nthR, detR, List.getD_cons_zero, List.getD_cons_succ] at d6
            refine ⟨rfl, .int .i64 g.2.2, rfl, fun w' => ?_⟩
            simp [go_sem, frm, Act.put, d6]
        · intro u x' hu hne
          have d7 := hu 7 (by decide); have d8 := hu 8 (by decide)
          obtain ⟨p, h9, l9, B9⟩ : newR _ _ _ _ _ := hu 9 (by decide)
          simp only [nthR, detR, List.getD_cons_zero, List.getD_cons_succ] at d7 d8
          have g0 := B9.cell 0; have g1 := B9.cell 1; have f9 := B9.free
          have s1 := s1.past x'.2; have s0 := s0.past x'.2
          simp at g0 g1
          simp only [frm, List.take, Act.put, d7, d8, h9]
          clear d7 d8 hu hne
          go_wp2
          go_meet
          case rel => exact ⟨p, rfl, rfl, by omega, (B9.set 0 _).set 1 _, (s1.other (by omega) _).other (by omega) _, (s0.other (by omega) _).other (by omega) _, by (repeat (first | exact Below.refl _ _ | assumption | refine balloc ?_ _ | refine below_drewN ?_ _ | refine bstep (by assumption) ?_ | refine bstep (Past.prop _) ?_ | refine Below.setCell ?_ (by first | exact Nat.le_refl _ | (simp; done) | (simp; omega)) _))⟩
      obtain ⟨p6, rfl, rfl, l6, B6, s1, s0, hb⟩ := hcut
      have c10 := s1.cell 0; have c11 := s1.cell 1; have f1 := s1.free; have c00 := s0.cell 0; have c01 := s0.cell 1; have f0 := s0.free; have c60 := B6.cell 0; have c61 := B6.cell 1
      simp at c10 c11 c00 c01 c60 c61
      have HS' := HS2.out
      by_cases hg0 : g.2.2 = 0
      · rw [if_pos hg0] at HS'
        have HT := hidE HS'; clear HS' HS2
        have g1 : (g.2.2 == 0) = true := beq_iff_eq.2 hg0
        have g2 : (g.2.2 != 0) = false := by rw [bne_eq_false_iff_eq]; exact hg0
        clear hg0
        go_wp2
        exact ⟨⟨k + 1, g.1, g.2.1, by omega, by go_num, HT.out, by (repeat (first | exact Below.refl _ _ | assumption | refine balloc ?_ _ | refine below_drewN ?_ _ | refine bstep (by assumption) ?_ | refine bstep (Past.prop _) ?_ | refine Below.setCell ?_ (by first | exact Nat.le_refl _ | (simp; done) | (simp; omega)) _)), (s1.set 0 _).set 1 _, (s0.other (by omega) _).other (by omega) _⟩, by simp [intOf]; omega⟩
      · rw [if_neg hg0] at HS'
        have HT := hidE HS'; clear HS' HS2
        have g1 : (g.2.2 == 0) = false := beq_eq_false_iff_ne.2 hg0
        have g2 : (g.2.2 != 0) = true := bne_iff_ne.2 hg0
        clear hg0
        go_wp2
        have B0 := (s0.set 0 (.int .i64 0)).set 1 (.int .i64 0)
        have d0 := B0.cell 0; have d1 := B0.cell 1
        simp at d0 d1
        refine bodyPost_ret (v := VE (0, 0, g.2.2)) (by simp [results, Try.results23, go_sem, d0, d1]) rfl ⟨by rw [← HT.out], ?_⟩
        (repeat (first | exact Below.refl _ _ | assumption | refine balloc ?_ _ | refine below_drewN ?_ _ | refine bstep (by assumption) ?_ | refine bstep (Past.prop _) ?_ | refine Below.setCell ?_ (by first | exact Nat.le_refl _ | (simp; done) | (simp; omega)) _))
    · go_wp2
      have : k = l.length := by omega
      subst this
      have e := HS.out
      rw [List.drop_length] at e
      refine bodyPost_ret (v := VE (x, y, 0)) (by simp [results, Try.results23, go_sem, *]) rfl ⟨by rw [← e]; rfl, ?_⟩
      (repeat (first | exact Below.refl _ _ | assumption | refine balloc ?_ _ | refine below_drewN ?_ _ | refine bstep (by assumption) ?_ | refine bstep (Past.prop _) ?_ | refine Below.setCell ?_ (by first | exact Nat.le_refl _ | (simp; done) | (simp; omega)) _))

theorem sum_none (w : World) : Calls Try.prog 23 #[.slice none 0 0] w fun e w' => e = .returned (VE (addL [])) ∧ Below w.heap.size w w' := by
  go_enter Try.func23, Try.ntmps23
  go_wp2
  refine wp_loop_rounds 1 ?_
  rw [rounds_succ]
  go_wp2
  refine bodyPost_ret (v := VE (0, 0, 0)) (by simp [results, Try.results23, go_sem, *]) rfl ⟨rfl, ?_⟩
  (repeat (first | exact Below.refl _ _ | assumption | refine balloc ?_ _ | refine below_drewN ?_ _ | refine bstep (by assumption) ?_ | refine bstep (Past.prop _) ?_ | refine Below.setCell ?_ (by first | exact Nat.le_refl _ | (simp; done) | (simp; omega)) _))

end Go.Proofs.Ytnhegohhffecpaa
