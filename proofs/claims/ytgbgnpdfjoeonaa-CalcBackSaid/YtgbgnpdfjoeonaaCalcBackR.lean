/- CalcBack answers true for every two lists of runs. No conditions but that the lists lie within their capacities. CalcBack: for every two lists of runs the statement's function answers true and leaves its arguments alone. No conditions. -/
import Derived.Test.YtgbgnpdfjoeonaaCalcTells
import Derived.Test.YtgbgnpdfjoeonaaJE
import Derived.Test.YtgbgnpdfjoeonaaJF
namespace Go.Proofs.Ytgbgnpdfjoeonaa
open Go.ChangeShapes Go.WideShapes Go.ChangeAt Go.RowKit
attribute [local irreducible] Go.Calls

theorem back_many (n m : Nat) (a a' : Option Addr) (cap cap' : Nat) (w : World) (h : 60 < n ∨ 60 < m) :
    Calls Try.prog 5 #[.slice a n cap, .slice a' m cap'] w fun e w' => e = .returned (.bool true) ∧ Below w.heap.size w w' := by
  have HG := hidE (fun w => great_yes (a := a) (a' := a') (cap := cap) (cap' := cap') (w := w) h)
  clear h
  go_enter Try.func5, Try.ntmps5
  go_wp2_with (first | (go_at_call 8; ((with_reducible refine (HG.out _).mono ?_); rintro e w1 ⟨rfl, hb⟩)) | (go_at_call 9; ((with_reducible refine (chead_c _).mono ?_); rintro e w2 ⟨rfl, hb2⟩)))
  go_ret
  exact ⟨rfl, by (repeat (first | exact Below.refl _ _ | assumption | refine balloc ?_ _ | refine below_drewN ?_ _ | refine bstep (by assumption) ?_ | refine bstep (Past.prop _) ?_ | refine Below.setCell ?_ (by first | exact Nat.le_refl _ | (simp; done) | (simp; omega)) _))⟩

set_option maxRecDepth 100000 in
set_option maxHeartbeats 4000000 in
theorem back_err (F G : List Sg) (n m : Nat) (de : Int) (a a' : Option Addr) (cap cap' : Nat) (w : World) (h : n ≤ 60) (h' : m ≤ 60) (S1 : SliS w (.slice a n cap) F) (S2 : SliS w (.slice a' m cap') G) (hde : de = 5 ∨ de = 10) (hD0 : (doS 1 G F).2 = de) :
    Calls Try.prog 5 #[.slice a n cap, .slice a' m cap'] w fun e w' => e = .returned (.bool true) ∧ Below w.heap.size w w' := by
  have HG := hidE (fun w => great_no (a := a) (a' := a') (cap := cap) (cap' := cap') (w := w) h h')
  obtain ⟨D, hD⟩ : ∃ D, doS 1 G F = (D, de) := ⟨_, Prod.ext rfl hD0⟩
  have HD := hidE hD
  clear hD hD0
  rcases hde with rfl | rfl
  all_goals
    go_enter Try.func5, Try.ntmps5
    go_upto_if 21 with (go_at_call 8; ((with_reducible refine (HG.out _).mono ?_); rintro e w1 ⟨rfl, hb⟩))
    replace S1 := S1.past hb
    replace S2 := S2.past hb
    have hw0 := hb.size
    go_wp2_with (first | (go_at_call 12; ((with_reducible refine (Calls.ofSl (csub_s (F := G) (G := F) (by (repeat (first | assumption | exact sliS_nil _ | (refine sliS_new (Blk.made _ _ _) rfl rfl (by decide); done) | refine SliS.past ?_ (by assumption) | refine sliS_alloc ?_ _))) (by (repeat (first | assumption | exact sliS_nil _ | (refine sliS_new (Blk.made _ _ _) rfl rfl (by decide); done) | refine SliS.past ?_ (by assumption) | refine sliS_alloc ?_ _))) (by omega) HD.out) rfl).mono ?_); rintro e w2 ⟨a9, c9, rfl, hS, hb2⟩)) | (go_at_call 9; ((with_reducible refine (chead_c _).mono ?_); rintro e w2 ⟨rfl, hb2⟩)))
    go_ret
    exact ⟨rfl, by (repeat (first | exact Below.refl _ _ | assumption | refine balloc ?_ _ | refine below_drewN ?_ _ | refine bstep (by assumption) ?_ | refine bstep (Past.prop _) ?_ | refine Below.setCell ?_ (by first | exact Nat.le_refl _ | (simp; done) | (simp; omega)) _))⟩

set_option maxRecDepth 100000 in
set_option maxHeartbeats 8000000 in
theorem back_ok (F G D : List Sg) (n m : Nat) (a a' : Option Addr) (cap cap' : Nat) (w : World) (h : n ≤ 60) (h' : m ≤ 60) (S1 : SliS w (.slice a n cap) F) (S2 : SliS w (.slice a' m cap') G) (hD : doS 1 G F = (D, 0)) :
    Calls Try.prog 5 #[.slice a n cap, .slice a' m cap'] w fun e w' => e = .returned (.bool true) ∧ Below w.heap.size w w' := by
  have HG := hidE (fun w => great_no (a := a) (a' := a') (cap := cap) (cap' := cap') (w := w) h h')
  obtain ⟨hmG, hmF, _, _⟩ := doS_vals hD
  obtain ⟨L, hL, hmL, vL⟩ := low_is hmF hmG
  obtain ⟨H, hH, hmH, vH⟩ := high_is hmF hmG
  obtain ⟨A, ae, hA⟩ : ∃ A ae, sumS [F, G] = (A, ae) := ⟨_, _, rfl⟩
  have hB : sumS [L, H] = (A, ae) := (both_sum hmF hmG hmL hmH vL vH).trans hA
  have hN := sub_self hmF
  have hS := back_sum hD
  have eF := S1.len.1; have eG := S2.len.1
  have lD : D.length ≤ 120 := by have := doS_len 1 G F; rw [hD] at this; dsimp only at this; omega
  have lL : L.length ≤ 120 := by have := doS_len 2 F G; rw [hL] at this; dsimp only at this; omega
  have lH : H.length ≤ 120 := by have := doS_len 3 F G; rw [hH] at this; dsimp only at this; omega
  have hmm : G.length = m := eG.symm
  have HD := hidE hD; have HL := hidE hL; have HH := hidE hH; have HA := hidE hA; have HB := hidE hB; have HN := hidE hN; have HS := hidE hS; have HM := hidE hmm
  clear hD hL hH hA hB hN hS hmG hmF hmL vL hmH vH eF eG hmm
  go_enter Try.func5, Try.ntmps5
  go_upto_if 21 with (go_at_call 8; ((with_reducible refine (HG.out _).mono ?_); rintro e w1 ⟨rfl, hb⟩))
  replace S1 := S1.past hb
  replace S2 := S2.past hb
  have hw0 := hb.size
  go_upto_region 3 with fail
  go_cut [5, 6] (fun s5 s6 wx => ∃ (a5 : Option Addr) (c5 : Nat), s5 = .slice a5 D.length c5 ∧ s6 = .int .i64 0 ∧ SliS wx (.slice a n cap) F ∧ SliS wx (.slice a' m cap') G ∧ SliS wx (.slice a5 D.length c5) D ∧ Below w.heap.size w wx)
  case first =>
    go_wp2_with (first | (go_at_call 12; ((with_reducible refine (Calls.ofSl (csub_s (F := G) (G := F) (by (repeat (first | assumption | exact sliS_nil _ | (refine sliS_new (Blk.made _ _ _) rfl rfl (by decide); done) | refine SliS.past ?_ (by assumption) | refine sliS_alloc ?_ _))) (by (repeat (first | assumption | exact sliS_nil _ | (refine sliS_new (Blk.made _ _ _) rfl rfl (by decide); done) | refine SliS.past ?_ (by assumption) | refine sliS_alloc ?_ _))) (by omega) HD.out) rfl).mono ?_); rintro e w2 ⟨a9, c9, rfl, hS, hb2⟩)))
    go_meet
    case rel => exact ⟨_, _, rfl, rfl, (by (repeat (first | assumption | exact sliS_nil _ | (refine sliS_new (Blk.made _ _ _) rfl rfl (by decide); done) | refine SliS.past ?_ (by assumption) | refine sliS_alloc ?_ _))), (by (repeat (first | assumption | exact sliS_nil _ | (refine sliS_new (Blk.made _ _ _) rfl rfl (by decide); done) | refine SliS.past ?_ (by assumption) | refine sliS_alloc ?_ _))), (by (repeat (first | assumption | exact sliS_nil _ | (refine sliS_new (Blk.made _ _ _) rfl rfl (by decide); done) | refine SliS.past ?_ (by assumption) | refine sliS_alloc ?_ _))), by (repeat (first | exact Below.refl _ _ | assumption | refine balloc ?_ _ | refine below_drewN ?_ _ | refine bstep (by assumption) ?_ | refine bstep (Past.prop _) ?_ | refine Below.setCell ?_ (by first | exact Nat.le_refl _ | (simp; done) | (simp; omega)) _))⟩
  obtain ⟨a5, c5, rfl, rfl, S1, S2, S5, hb⟩ := hcut
  go_upto_region 6 with fail
  go_cut [7, 8] (fun s7 s8 wx => ∃ (a7 : Option Addr) (c7 : Nat), s7 = .slice a7 G.length c7 ∧ s8 = .int .i64 0 ∧ SliS wx (.slice a n cap) F ∧ SliS wx (.slice a' m cap') G ∧ SliS wx (.slice a5 D.length c5) D ∧ SliS wx (.slice a7 G.length c7) G ∧ Below w.heap.size w wx)
  case first =>
    go_wp2_with (first | (go_at_call 10; ((with_reducible refine (Calls.ofSl (cadd_two (F := F) (G := D) (Blk.made_at _ _ _ _ rfl) (by (repeat (first | assumption | exact sliS_nil _ | (refine sliS_new (Blk.made _ _ _) rfl rfl (by decide); done) | refine SliS.past ?_ (by assumption) | refine sliS_alloc ?_ _))) (by (repeat (first | assumption | exact sliS_nil _ | (refine sliS_new (Blk.made _ _ _) rfl rfl (by decide); done) | refine SliS.past ?_ (by assumption) | refine sliS_alloc ?_ _))) (by omega) HS.out) rfl).mono ?_); rintro e w2 ⟨a9, c9, rfl, hS, hb2⟩)))
    go_meet
    case rel => exact ⟨_, _, rfl, rfl, (by (repeat (first | assumption | exact sliS_nil _ | (refine sliS_new (Blk.made _ _ _) rfl rfl (by decide); done) | refine SliS.past ?_ (by assumption) | refine sliS_alloc ?_ _))), (by (repeat (first | assumption | exact sliS_nil _ | (refine sliS_new (Blk.made _ _ _) rfl rfl (by decide); done) | refine SliS.past ?_ (by assumption) | refine sliS_alloc ?_ _))), (by (repeat (first | assumption | exact sliS_nil _ | (refine sliS_new (Blk.made _ _ _) rfl rfl (by decide); done) | refine SliS.past ?_ (by assumption) | refine sliS_alloc ?_ _))), (by (repeat (first | assumption | exact sliS_nil _ | (refine sliS_new (Blk.made _ _ _) rfl rfl (by decide); done) | refine SliS.past ?_ (by assumption) | refine sliS_alloc ?_ _))), by (repeat (first | exact Below.refl _ _ | assumption | refine balloc ?_ _ | refine below_drewN ?_ _ | refine bstep (by assumption) ?_ | refine bstep (Past.prop _) ?_ | refine Below.setCell ?_ (by first | exact Nat.le_refl _ | (simp; done) | (simp; omega)) _))⟩
  obtain ⟨a7, c7, rfl, rfl, S1, S2, S5, S7, hb⟩ := hcut
  go_upto_region 7 with fail
  go_cut [9, 10] (fun s9 s10 wx => ∃ (a9 : Option Addr) (c9 : Nat), s9 = .slice a9 0 c9 ∧ s10 = .int .i64 0 ∧ SliS wx (.slice a n cap) F ∧ SliS wx (.slice a' m cap') G ∧ SliS wx (.slice a5 D.length c5) D ∧ SliS wx (.slice a7 G.length c7) G ∧ SliS wx (.slice a9 0 c9) [] ∧ Below w.heap.size w wx)
  case first =>
    go_wp2_with (first | (go_at_call 12; ((with_reducible refine (Calls.ofSl (csub_s (F := F) (G := F) (by (repeat (first | assumption | exact sliS_nil _ | (refine sliS_new (Blk.made _ _ _) rfl rfl (by decide); done) | refine SliS.past ?_ (by assumption) | refine sliS_alloc ?_ _))) (by (repeat (first | assumption | exact sliS_nil _ | (refine sliS_new (Blk.made _ _ _) rfl rfl (by decide); done) | refine SliS.past ?_ (by assumption) | refine sliS_alloc ?_ _))) (by omega) HN.out) rfl).mono ?_); rintro e w2 ⟨a9, c9, rfl, hS, hb2⟩)))
    go_meet
    case rel => exact ⟨_, _, rfl, rfl, (by (repeat (first | assumption | exact sliS_nil _ | (refine sliS_new (Blk.made _ _ _) rfl rfl (by decide); done) | refine SliS.past ?_ (by assumption) | refine sliS_alloc ?_ _))), (by (repeat (first | assumption | exact sliS_nil _ | (refine sliS_new (Blk.made _ _ _) rfl rfl (by decide); done) | refine SliS.past ?_ (by assumption) | refine sliS_alloc ?_ _))), (by (repeat (first | assumption | exact sliS_nil _ | (refine sliS_new (Blk.made _ _ _) rfl rfl (by decide); done) | refine SliS.past ?_ (by assumption) | refine sliS_alloc ?_ _))), (by (repeat (first | assumption | exact sliS_nil _ | (refine sliS_new (Blk.made _ _ _) rfl rfl (by decide); done) | refine SliS.past ?_ (by assumption) | refine sliS_alloc ?_ _))), (by (repeat (first | assumption | exact sliS_nil _ | (refine sliS_new (Blk.made _ _ _) rfl rfl (by decide); done) | refine SliS.past ?_ (by assumption) | refine sliS_alloc ?_ _))), by (repeat (first | exact Below.refl _ _ | assumption | refine balloc ?_ _ | refine below_drewN ?_ _ | refine bstep (by assumption) ?_ | refine bstep (Past.prop _) ?_ | refine Below.setCell ?_ (by first | exact Nat.le_refl _ | (simp; done) | (simp; omega)) _))⟩
  obtain ⟨a9, c9, rfl, rfl, S1, S2, S5, S7, S9, hb⟩ := hcut
  go_upto_region 8 with fail
  go_cut [11, 12] (fun s11 s12 wx => ∃ (a11 : Option Addr) (c11 : Nat), s11 = .slice a11 L.length c11 ∧ s12 = .int .i64 0 ∧ SliS wx (.slice a n cap) F ∧ SliS wx (.slice a' m cap') G ∧ SliS wx (.slice a5 D.length c5) D ∧ SliS wx (.slice a7 G.length c7) G ∧ SliS wx (.slice a9 0 c9) [] ∧ SliS wx (.slice a11 L.length c11) L ∧ Below w.heap.size w wx)
  case first =>
    go_wp2_with (first | (go_at_call 14; ((with_reducible refine (Calls.ofSl (cmn_s (F := F) (G := G) (by (repeat (first | assumption | exact sliS_nil _ | (refine sliS_new (Blk.made _ _ _) rfl rfl (by decide); done) | refine SliS.past ?_ (by assumption) | refine sliS_alloc ?_ _))) (by (repeat (first | assumption | exact sliS_nil _ | (refine sliS_new (Blk.made _ _ _) rfl rfl (by decide); done) | refine SliS.past ?_ (by assumption) | refine sliS_alloc ?_ _))) (by omega) HL.out) rfl).mono ?_); rintro e w2 ⟨a9, c9, rfl, hS, hb2⟩)))
    go_meet
    case rel => exact ⟨_, _, rfl, rfl, (by (repeat (first | assumption | exact sliS_nil _ | (refine sliS_new (Blk.made _ _ _) rfl rfl (by decide); done) | refine SliS.past ?_ (by assumption) | refine sliS_alloc ?_ _))), (by (repeat (first | assumption | exact sliS_nil _ | (refine sliS_new (Blk.made _ _ _) rfl rfl (by decide); done) | refine SliS.past ?_ (by assumption) | refine sliS_alloc ?_ _))), (by (repeat (first | assumption | exact sliS_nil _ | (refine sliS_new (Blk.made _ _ _) rfl rfl (by decide); done) | refine SliS.past ?_ (by assumption) | refine sliS_alloc ?_ _))), (by (repeat (first | assumption | exact sliS_nil _ | (refine sliS_new (Blk.made _ _ _) rfl rfl (by decide); done) | refine SliS.past ?_ (by assumption) | refine sliS_alloc ?_ _))), (by (repeat (first | assumption | exact sliS_nil _ | (refine sliS_new (Blk.made _ _ _) rfl rfl (by decide); done) | refine SliS.past ?_ (by assumption) | refine sliS_alloc ?_ _))), (by (repeat (first | assumption | exact sliS_nil _ | (refine sliS_new (Blk.made _ _ _) rfl rfl (by decide); done) | refine SliS.past ?_ (by assumption) | refine sliS_alloc ?_ _))), by (repeat (first | exact Below.refl _ _ | assumption | refine balloc ?_ _ | refine below_drewN ?_ _ | refine bstep (by assumption) ?_ | refine bstep (Past.prop _) ?_ | refine Below.setCell ?_ (by first | exact Nat.le_refl _ | (simp; done) | (simp; omega)) _))⟩
  obtain ⟨a11, c11, rfl, rfl, S1, S2, S5, S7, S9, S11, hb⟩ := hcut
  go_upto_region 9 with fail
  go_cut [13, 14] (fun s13 s14 wx => ∃ (a13 : Option Addr) (c13 : Nat), s13 = .slice a13 H.length c13 ∧ s14 = .int .i64 0 ∧ SliS wx (.slice a n cap) F ∧ SliS wx (.slice a' m cap') G ∧ SliS wx (.slice a5 D.length c5) D ∧ SliS wx (.slice a7 G.length c7) G ∧ SliS wx (.slice a9 0 c9) [] ∧ SliS wx (.slice a11 L.length c11) L ∧ SliS wx (.slice a13 H.length c13) H ∧ Below w.heap.size w wx)
  case first =>
    go_wp2_with (first | (go_at_call 15; ((with_reducible refine (Calls.ofSl (cmx_s (F := F) (G := G) (by (repeat (first | assumption | exact sliS_nil _ | (refine sliS_new (Blk.made _ _ _) rfl rfl (by decide); done) | refine SliS.past ?_ (by assumption) | refine sliS_alloc ?_ _))) (by (repeat (first | assumption | exact sliS_nil _ | (refine sliS_new (Blk.made _ _ _) rfl rfl (by decide); done) | refine SliS.past ?_ (by assumption) | refine sliS_alloc ?_ _))) (by omega) HH.out) rfl).mono ?_); rintro e w2 ⟨a9, c9, rfl, hS, hb2⟩)))
    go_meet
    case rel => exact ⟨_, _, rfl, rfl, (by (repeat (first | assumption | exact sliS_nil _ | (refine sliS_new (Blk.made _ _ _) rfl rfl (by decide); done) | refine SliS.past ?_ (by assumption) | refine sliS_alloc ?_ _))), (by (repeat (first | assumption | exact sliS_nil _ | (refine sliS_new (Blk.made _ _ _) rfl rfl (by decide); done) | refine SliS.past ?_ (by assumption) | refine sliS_alloc ?_ _))), (by (repeat (first | assumption | exact sliS_nil _ | (refine sliS_new (Blk.made _ _ _) rfl rfl (by decide); done) | refine SliS.past ?_ (by assumption) | refine sliS_alloc ?_ _))), (by (repeat (first | assumption | exact sliS_nil _ | (refine sliS_new (Blk.made _ _ _) rfl rfl (by decide); done) | refine SliS.past ?_ (by assumption) | refine sliS_alloc ?_ _))), (by (repeat (first | assumption | exact sliS_nil _ | (refine sliS_new (Blk.made _ _ _) rfl rfl (by decide); done) | refine SliS.past ?_ (by assumption) | refine sliS_alloc ?_ _))), (by (repeat (first | assumption | exact sliS_nil _ | (refine sliS_new (Blk.made _ _ _) rfl rfl (by decide); done) | refine SliS.past ?_ (by assumption) | refine sliS_alloc ?_ _))), (by (repeat (first | assumption | exact sliS_nil _ | (refine sliS_new (Blk.made _ _ _) rfl rfl (by decide); done) | refine SliS.past ?_ (by assumption) | refine sliS_alloc ?_ _))), by (repeat (first | exact Below.refl _ _ | assumption | refine balloc ?_ _ | refine below_drewN ?_ _ | refine bstep (by assumption) ?_ | refine bstep (Past.prop _) ?_ | refine Below.setCell ?_ (by first | exact Nat.le_refl _ | (simp; done) | (simp; omega)) _))⟩
  obtain ⟨a13, c13, rfl, rfl, S1, S2, S5, S7, S9, S11, S13, hb⟩ := hcut
  go_upto_region 12 with (first | (go_at_call 18; ((with_reducible refine (rsame_s (a1 := a7) (F := G) (G := G) (b := true) (by (repeat (first | assumption | exact sliS_nil _ | (refine sliS_new (Blk.made _ _ _) rfl rfl (by decide); done) | refine SliS.past ?_ (by assumption) | refine sliS_alloc ?_ _))) (by (repeat (first | assumption | exact sliS_nil _ | (refine sliS_new (Blk.made _ _ _) rfl rfl (by decide); done) | refine SliS.past ?_ (by assumption) | refine sliS_alloc ?_ _))) (sameB_t _)).mono ?_); rintro e w2 ⟨rfl, hb2⟩)))
  go_cut [15, 16] (fun s15 s16 wx => ∃ (a15 : Option Addr) (c15 : Nat), s15 = .slice a15 A.length c15 ∧ s16 = .int .i64 ae ∧ SliS wx (.slice a n cap) F ∧ SliS wx (.slice a' m cap') G ∧ SliS wx (.slice a5 D.length c5) D ∧ SliS wx (.slice a7 G.length c7) G ∧ SliS wx (.slice a9 0 c9) [] ∧ SliS wx (.slice a11 L.length c11) L ∧ SliS wx (.slice a13 H.length c13) H ∧ SliS wx (.slice a15 A.length c15) A ∧ Below w.heap.size w wx)
  case first =>
    go_wp2_with (first | (go_at_call 10; ((with_reducible refine (Calls.ofSl (cadd_two (F := L) (G := H) (Blk.made_at _ _ _ _ rfl) (by (repeat (first | assumption | exact sliS_nil _ | (refine sliS_new (Blk.made _ _ _) rfl rfl (by decide); done) | refine SliS.past ?_ (by assumption) | refine sliS_alloc ?_ _))) (by (repeat (first | assumption | exact sliS_nil _ | (refine sliS_new (Blk.made _ _ _) rfl rfl (by decide); done) | refine SliS.past ?_ (by assumption) | refine sliS_alloc ?_ _))) (by omega) HB.out) rfl).mono ?_); rintro e w2 ⟨a9, c9, rfl, hS, hb2⟩)))
    go_meet
    case rel => exact ⟨_, _, rfl, rfl, (by (repeat (first | assumption | exact sliS_nil _ | (refine sliS_new (Blk.made _ _ _) rfl rfl (by decide); done) | refine SliS.past ?_ (by assumption) | refine sliS_alloc ?_ _))), (by (repeat (first | assumption | exact sliS_nil _ | (refine sliS_new (Blk.made _ _ _) rfl rfl (by decide); done) | refine SliS.past ?_ (by assumption) | refine sliS_alloc ?_ _))), (by (repeat (first | assumption | exact sliS_nil _ | (refine sliS_new (Blk.made _ _ _) rfl rfl (by decide); done) | refine SliS.past ?_ (by assumption) | refine sliS_alloc ?_ _))), (by (repeat (first | assumption | exact sliS_nil _ | (refine sliS_new (Blk.made _ _ _) rfl rfl (by decide); done) | refine SliS.past ?_ (by assumption) | refine sliS_alloc ?_ _))), (by (repeat (first | assumption | exact sliS_nil _ | (refine sliS_new (Blk.made _ _ _) rfl rfl (by decide); done) | refine SliS.past ?_ (by assumption) | refine sliS_alloc ?_ _))), (by (repeat (first | assumption | exact sliS_nil _ | (refine sliS_new (Blk.made _ _ _) rfl rfl (by decide); done) | refine SliS.past ?_ (by assumption) | refine sliS_alloc ?_ _))), (by (repeat (first | assumption | exact sliS_nil _ | (refine sliS_new (Blk.made _ _ _) rfl rfl (by decide); done) | refine SliS.past ?_ (by assumption) | refine sliS_alloc ?_ _))), (by (repeat (first | assumption | exact sliS_nil _ | (refine sliS_new (Blk.made _ _ _) rfl rfl (by decide); done) | refine SliS.past ?_ (by assumption) | refine sliS_alloc ?_ _))), by (repeat (first | exact Below.refl _ _ | assumption | refine balloc ?_ _ | refine below_drewN ?_ _ | refine bstep (by assumption) ?_ | refine bstep (Past.prop _) ?_ | refine Below.setCell ?_ (by first | exact Nat.le_refl _ | (simp; done) | (simp; omega)) _))⟩
  obtain ⟨a15, c15, rfl, rfl, S1, S2, S5, S7, S9, S11, S13, S15, hb⟩ := hcut
  go_upto_region 13 with fail
  go_cut [17, 18] (fun s17 s18 wx => ∃ (a17 : Option Addr) (c17 : Nat), s17 = .slice a17 A.length c17 ∧ s18 = .int .i64 ae ∧ SliS wx (.slice a n cap) F ∧ SliS wx (.slice a' m cap') G ∧ SliS wx (.slice a5 D.length c5) D ∧ SliS wx (.slice a7 G.length c7) G ∧ SliS wx (.slice a9 0 c9) [] ∧ SliS wx (.slice a11 L.length c11) L ∧ SliS wx (.slice a13 H.length c13) H ∧ SliS wx (.slice a15 A.length c15) A ∧ SliS wx (.slice a17 A.length c17) A ∧ Below w.heap.size w wx)
  case first =>
    go_wp2_with (first | (go_at_call 10; ((with_reducible refine (Calls.ofSl (cadd_two (F := F) (G := G) (Blk.made_at _ _ _ _ rfl) (by (repeat (first | assumption | exact sliS_nil _ | (refine sliS_new (Blk.made _ _ _) rfl rfl (by decide); done) | refine SliS.past ?_ (by assumption) | refine sliS_alloc ?_ _))) (by (repeat (first | assumption | exact sliS_nil _ | (refine sliS_new (Blk.made _ _ _) rfl rfl (by decide); done) | refine SliS.past ?_ (by assumption) | refine sliS_alloc ?_ _))) (by omega) HA.out) rfl).mono ?_); rintro e w2 ⟨a9, c9, rfl, hS, hb2⟩)))
    go_meet
    case rel => exact ⟨_, _, rfl, rfl, (by (repeat (first | assumption | exact sliS_nil _ | (refine sliS_new (Blk.made _ _ _) rfl rfl (by decide); done) | refine SliS.past ?_ (by assumption) | refine sliS_alloc ?_ _))), (by (repeat (first | assumption | exact sliS_nil _ | (refine sliS_new (Blk.made _ _ _) rfl rfl (by decide); done) | refine SliS.past ?_ (by assumption) | refine sliS_alloc ?_ _))), (by (repeat (first | assumption | exact sliS_nil _ | (refine sliS_new (Blk.made _ _ _) rfl rfl (by decide); done) | refine SliS.past ?_ (by assumption) | refine sliS_alloc ?_ _))), (by (repeat (first | assumption | exact sliS_nil _ | (refine sliS_new (Blk.made _ _ _) rfl rfl (by decide); done) | refine SliS.past ?_ (by assumption) | refine sliS_alloc ?_ _))), (by (repeat (first | assumption | exact sliS_nil _ | (refine sliS_new (Blk.made _ _ _) rfl rfl (by decide); done) | refine SliS.past ?_ (by assumption) | refine sliS_alloc ?_ _))), (by (repeat (first | assumption | exact sliS_nil _ | (refine sliS_new (Blk.made _ _ _) rfl rfl (by decide); done) | refine SliS.past ?_ (by assumption) | refine sliS_alloc ?_ _))), (by (repeat (first | assumption | exact sliS_nil _ | (refine sliS_new (Blk.made _ _ _) rfl rfl (by decide); done) | refine SliS.past ?_ (by assumption) | refine sliS_alloc ?_ _))), (by (repeat (first | assumption | exact sliS_nil _ | (refine sliS_new (Blk.made _ _ _) rfl rfl (by decide); done) | refine SliS.past ?_ (by assumption) | refine sliS_alloc ?_ _))), (by (repeat (first | assumption | exact sliS_nil _ | (refine sliS_new (Blk.made _ _ _) rfl rfl (by decide); done) | refine SliS.past ?_ (by assumption) | refine sliS_alloc ?_ _))), by (repeat (first | exact Below.refl _ _ | assumption | refine balloc ?_ _ | refine below_drewN ?_ _ | refine bstep (by assumption) ?_ | refine bstep (Past.prop _) ?_ | refine Below.setCell ?_ (by first | exact Nat.le_refl _ | (simp; done) | (simp; omega)) _))⟩
  obtain ⟨a17, c17, rfl, rfl, S1, S2, S5, S7, S9, S11, S13, S15, S17, hb⟩ := hcut
  go_upto_region 14 with fail
  go_wp2_with (first | (go_at_call 18; ((with_reducible refine (rsame_s (a1 := a15) (F := A) (G := A) (b := true) (by (repeat (first | assumption | exact sliS_nil _ | (refine sliS_new (Blk.made _ _ _) rfl rfl (by decide); done) | refine SliS.past ?_ (by assumption) | refine sliS_alloc ?_ _))) (by (repeat (first | assumption | exact sliS_nil _ | (refine sliS_new (Blk.made _ _ _) rfl rfl (by decide); done) | refine SliS.past ?_ (by assumption) | refine sliS_alloc ?_ _))) (sameB_t _)).mono ?_); rintro e w2 ⟨rfl, hb2⟩)) | (go_at_call 9; ((with_reducible refine (chead_c _).mono ?_); rintro e w2 ⟨rfl, hb2⟩)))
  go_ret
  exact ⟨by simp, by (repeat (first | exact Below.refl _ _ | assumption | refine balloc ?_ _ | refine below_drewN ?_ _ | refine bstep (by assumption) ?_ | refine bstep (Past.prop _) ?_ | refine Below.setCell ?_ (by first | exact Nat.le_refl _ | (simp; done) | (simp; omega)) _))⟩

theorem back_c (F G : List Sg) (a a' : Option Addr) (cap cap' : Nat) (w : World) (S1 : SliS w (.slice a F.length cap) F) (S2 : SliS w (.slice a' G.length cap') G) :
    Calls Try.prog 5 #[.slice a F.length cap, .slice a' G.length cap'] w fun e w' => e = .returned (.bool true) ∧ Below w.heap.size w w' := by
  by_cases h : 60 < F.length ∨ 60 < G.length
  · exact back_many F.length G.length a a' cap cap' w h
  · rcases doS_codes 1 G F with e | e | e
    · exact back_ok F G _ F.length G.length a a' cap cap' w (by omega) (by omega) S1 S2 (Prod.ext rfl e)
    · exact back_err F G F.length G.length 5 a a' cap cap' w (by omega) (by omega) S1 S2 (.inl rfl) e
    · exact back_err F G F.length G.length 10 a a' cap cap' w (by omega) (by omega) S1 S2 (.inr rfl) e
end Go.Proofs.Ytgbgnpdfjoeonaa

namespace Go.Proofs.Ytgbgnpdfjoeonaa
open Go.ChangeShapes Go.WideShapes Go.ChangeAt Go.RowKit

set_option maxRecDepth 100000 in
theorem calcBack_lifted (os : Os) (started : os.Started) (H : Type) (enc : TypeId × Value → H) :
    ReturnsInHanded {} Try.checked os 5 .any (Rows.calcBackSpec.pre6 enc Try.prog Try.f5 Rows.calcBackRow.domain false) (Rows.calcBackSpec.post enc Try.prog Try.f5 false true false false) := by
  refine returnsInHanded_of_change (C := Try.checked) own started (by kernel_rfl) Try.func5
    (ChangeSpec.witness6 (enc := enc) (C := Try.checked) false ⟨#[], #[.slice none 0 0, .slice none 0 0], []⟩ 8 (by kernel_rfl) (by kernel_rfl) (by kernel_rfl) (by kernel_rfl)) ?_
  intro W base args ds gs before hval0 hW _ _
  have hval : ∀ (j : Nat) t v, Try.f5.params[j]? = some t → args[j]? = some v → Value.okWide Try.prog W .any base t v := hval0
  have hW' := hW
  obtain ⟨p, q, hA0, hV, rfl, hfz, hnd⟩ := hW
  have hA : DataW.TrodAll enc Try.prog W 0 (fun _ => true) true Try.f5.params.toList args.toList ds p := hA0
  rw [Try.params5] at hA hval
  obtain ⟨v0, vs0, d0, ds0, p0, q0, hargs, rfl, rfl, h0, r0⟩ := trodAll_cons hA
  obtain ⟨v1, vs1, d1, ds1, p1, q1, rfl, rfl, rfl, h1, r1⟩ := trodAll_cons r0
  obtain ⟨rfl, rfl, rfl⟩ := trodAll_nil r1
  obtain rfl : args = #[v0, v1] := by cases args; simp_all
  obtain ⟨l0, o0, c0, rfl, hl0, hA0', hS0⟩ := open_slisP (hval 0 22 v0 rfl rfl) h0
  obtain ⟨l1, o1, c1, rfl, hl1, hA1', hS1⟩ := open_slisP (hval 1 22 v1 rfl rfl) h1
  clear hA0 hval0
  refine (back_c l0 l1 o0 o1 c0 c1 W hA0' hA1').mono fun e W' ⟨he, hb⟩ => ?_
  subst he
  exact ⟨_, rfl, law_post laidOut (readOk_spec (by kernel_rfl)) rfl Try.underlying4 rfl ⟨rfl, rfl, rfl⟩ hW' hb⟩

theorem calcBack_holds : Rows.CalcBackSaid :=
  OpenClaim.holds_of_wide 5 Try.f5 rfl rfl rfl rfl rfl rfl rfl ⟨rfl, rfl, rfl, rfl, rfl⟩ rfl rfl rfl rfl rfl (by kernel_rfl) Try.func5 (by kernel_rfl)
    (of_decide_eq_true (by kernel_rfl)) (by unfold Func.isWrapper; first | (rw [if_pos (by decide +kernel)]; kernel_rfl) | (rw [if_neg (by decide +kernel)]; exact ⟨rfl, rfl⟩))
    (fun os started H enc _ => calcBack_lifted os started H enc)
end Go.Proofs.Ytgbgnpdfjoeonaa
