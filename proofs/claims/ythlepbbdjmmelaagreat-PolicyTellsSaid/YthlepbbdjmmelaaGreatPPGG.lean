/- What the document fixes of package policy: the statements' own 'head' answers true. No conditions. The document's own product of a vector and a number. No conditions but that they are int64s. The document's own answer for policies: which may be, whether one holds of three functions. No conditions but the sizes of the lists. The document's own answer for policies: Check, of three functions. No conditions but the sizes of the lists. The statements' own look at how great functions are. No conditions but that the slices read as functions. The walk of the statement on which policies may be and whether one holds. Conditions: that the slices read as functions. -/
import Derived.Test.YthlepbbdjmmelaaGreatPPGF
import Derived.Test.YthlepbbdjmmelaaGreatPPGA
import Derived.Test.YthlepbbdjmmelaaGreatPPGC
import Derived.Test.YthlepbbdjmmelaaGreatPPGD
import Derived.LoopTactic
namespace Go.Proofs.YthlepbbdjmmelaaGreat
open Go.ChangeShapes Go.WideShapes Go.ChangeAt Go.RowKit
attribute [local irreducible] Go.Calls

theorem seg13_c (x m c : Int) (w : World) : Calls Tryz.prog 77 #[.int .i64 x, .int .i64 m, .int .i64 c] w fun e w' => e = .returned (S x m c) ∧ Below w.heap.size w w' := by
  go_enter Tryz.func77, Tryz.ntmps77
  go_wp2
  exact bodyPost_ret (v := S x m c) (by simp [results, Tryz.results77, go_sem]) rfl ⟨rfl, by (repeat (first | exact Below.refl _ _ | assumption | refine balloc ?_ _ | refine below_drewN ?_ _ | refine bstep (by assumption) ?_ | refine bstep (Past.prop _) ?_ | refine Below.setCell ?_ (by first | exact Nat.le_refl _ | (simp; done) | (simp; omega)) _))⟩
theorem pchk_eq {F G H : List Sg} {k a b n now : Int} {a1 a2 a3 : Option Addr} {n1 c1 n2 c2 n3 c3 : Nat} {w : World} {r : Int × Bool × Int} (hk : 0 ≤ k ∧ k ≤ 255) (S1 : SliS w (.slice a1 n1 c1) F) (S2 : SliS w (.slice a2 n2 c2) G) (S3 : SliS w (.slice a3 n3 c3) H) (h1 : n1 ≤ 100000000) (h2 : n2 ≤ 100000000) (h3 : n3 ≤ 100000000) (he : chkP (k, (a, b), n) now F G H = r) :
    Calls Tryz.prog 38 #[.agg #[.int .u8 k, .int .i64 a, .int .i64 b, .int .i64 n], .int .i64 now, .agg #[.slice a1 n1 c1, .slice a2 n2 c2, .slice a3 n3 c3]] w fun e w' => e = .returned (.tuple #[.int .i64 r.1, .bool r.2.1, .int .i64 r.2.2]) ∧ Below w.heap.size w w' := he ▸ pchk_c k a b n now a1 a2 a3 n1 c1 n2 c2 n3 c3 w hk S1 S2 S3 h1 h2 h3
theorem made_nil (w : World) : Calls Tryz.prog 55 #[.pointer none] w fun e w' => e = .returned (.bool false) ∧ Below w.heap.size w w' := by
  go_enter Tryz.func55, Tryz.ntmps55
  go_wp2
  go_ret
  exact ⟨rfl, by (repeat (first | exact Below.refl _ _ | assumption | refine balloc ?_ _ | refine below_drewN ?_ _ | refine bstep (by assumption) ?_ | refine bstep (Past.prop _) ?_ | refine Below.setCell ?_ (by first | exact Nat.le_refl _ | (simp; done) | (simp; omega)) _))⟩
set_option maxRecDepth 100000 in
set_option maxHeartbeats 4000000 in
theorem get_nil (id : Int) (w : World) : Calls Tryz.prog 23 #[.pointer none, .int .u32 id] w fun e w' => e = .returned (.tuple #[.agg #[.int .u32 0, .int .u32 0, .string ⟨#[]⟩, .int .i64 0, .int .i64 0, .slice none 0 0, .slice none 0 0, .slice none 0 0], .int .i64 1]) ∧ Below w.heap.size w w' := by
  go_enter Tryz.func23, Tryz.ntmps23
  go_wp2_with fail
  ((with_reducible refine (made_nil _).mono ?_); rintro e w1 ⟨rfl, hb1⟩)
  have hB1 : Below w.heap.size w w1 := bstep hb1 ((Below.refl _ _).alloc (Nat.le_refl _) _)
  have B1 := (Blk.made w #[.int .u32 0, .int .u32 0, .string ⟨#[]⟩, .int .i64 0, .int .i64 0, .slice none 0 0, .slice none 0 0, .slice none 0 0] 50).past hb1
  have b0 := B1.cell 0; have b1 := B1.cell 1; have b2 := B1.cell 2; have b3 := B1.cell 3; have b4 := B1.cell 4; have b5 := B1.cell 5; have b6 := B1.cell 6; have b7 := B1.cell 7; have bf := B1.free; have bz := B1.lt
  simp at b0 b1 b2 b3 b4 b5 b6 b7
  go_wp2
  refine bodyPost_ret (v := .tuple #[.agg #[.int .u32 0, .int .u32 0, .string ⟨#[]⟩, .int .i64 0, .int .i64 0, .slice none 0 0, .slice none 0 0, .slice none 0 0], .int .i64 1]) (by simp [results, Tryz.results23, go_sem, b0, b1, b2, b3, b4, b5, b6, b7]) rfl ⟨rfl, ?_⟩
  exact ((((((((hB1.setCell (Nat.le_refl _) _).setCell (Nat.le_refl _) _).setCell (Nat.le_refl _) _).setCell (Nat.le_refl _) _).setCell (Nat.le_refl _) _).setCell (Nat.le_refl _) _).setCell (Nat.le_refl _) _).setCell (Nat.le_refl _) _)
theorem isPlan_nil (w : World) : Calls Tryz.prog 85 #[.pointer none] w fun e w' => e = .returned (.bool false) ∧ Below w.heap.size w w' := by
  go_enter Tryz.func85, Tryz.ntmps85
  go_wp2_with fail
  ((with_reducible refine (get_nil _ _).mono ?_); rintro e w1 ⟨rfl, hb1⟩)
  go_wp2
  go_ret
  exact ⟨rfl, by (repeat (first | exact Below.refl _ _ | assumption | refine balloc ?_ _ | refine below_drewN ?_ _ | refine bstep (by assumption) ?_ | refine bstep (Past.prop _) ?_ | refine Below.setCell ?_ (by first | exact Nat.le_refl _ | (simp; done) | (simp; omega)) _))⟩
set_option maxRecDepth 100000 in
set_option maxHeartbeats 4000000 in
theorem holds_nil (k a b n now : Int) (w : World) : Calls Tryz.prog 44 #[.agg #[.int .u8 k, .int .i64 a, .int .i64 b, .int .i64 n], .int .i64 now, .pointer none] w fun e w' => e = .returned (.tuple #[.string ⟨#[]⟩, .int .i64 0, .bool false, .int .i64 1]) ∧ Below w.heap.size w w' := by
  go_enter Tryz.func44, Tryz.ntmps44
  go_upto_region 1 with fail
  go_step3
  go_wp2_with fail
  ((with_reducible refine (isPlan_nil _).mono ?_); rintro e w1 ⟨rfl, hb1⟩)
  go_wp2
  rw [Exit.noGoto_ret]
  refine bodyPost_ret (v := .tuple #[.string ⟨#[]⟩, .int .i64 0, .bool false, .int .i64 1]) (by simp [results, Tryz.results44, go_sem]) rfl ⟨rfl, ?_⟩
  (repeat (first | exact Below.refl _ _ | assumption | refine balloc ?_ _ | refine below_drewN ?_ _ | refine bstep (by assumption) ?_ | refine bstep (Past.prop _) ?_ | refine Below.setCell ?_ (by first | exact Nat.le_refl _ | (simp; done) | (simp; omega)) _))
theorem hp13_0 : chkP (0, (0, 0), 0) 0 [(2, (3, 1)), (8, (0, 0))] [(0, (4, 1)), (5, (2, 1))] [(2, (3, 1)), (8, (0, 0))] = (5, false, 0) := by decide +kernel
theorem hp13_1 : chkP (0, (0, 0), 0) 8 [(2, (3, 1)), (8, (0, 0))] [(0, (4, 1)), (5, (2, 1))] [(2, (3, 1)), (8, (0, 0))] = (0, true, 0) := by decide +kernel
theorem hp13_2 : chkP (1, (3, 1), 0) 0 [(2, (3, 1)), (8, (0, 0))] [(0, (4, 1)), (5, (2, 1))] [(2, (3, 1)), (8, (0, 0))] = (0, true, 0) := by decide +kernel
theorem hp13_3 : chkP (1, (2, 9), 0) 4 [(2, (3, 1)), (8, (0, 0))] [(0, (4, 1)), (5, (2, 1))] [(2, (3, 1)), (8, (0, 0))] = (4, false, 0) := by decide +kernel
theorem hp13_4 : chkP (2, (2, 9), 4) 0 [(2, (3, 1)), (8, (0, 0))] [(0, (4, 1)), (5, (2, 1))] [(2, (3, 1)), (8, (0, 0))] = (1, false, 0) := by decide +kernel
theorem hp13_5 : chkP (2, (2, 9), 4) 6 [(2, (3, 1)), (8, (0, 0))] [(0, (4, 1)), (5, (2, 1))] [(2, (3, 1)), (8, (0, 0))] = (0, true, 0) := by decide +kernel
theorem hp13_6 : polB (1, (0, 0), 1) = false := by decide
theorem hp13_7 : polB (0, (1, 0), 0) = false := by decide
theorem least_nil (w : World) : Calls Tryz.prog 50 #[.slice none 0 0] w fun e w' => e = .returned (.agg #[.int .u8 1, .int .i64 1073741824, .int .i64 1073741824, .int .i64 0]) ∧ Below w.heap.size w w' :=
  least_c [] none 0 w (by simp) (fun h => by simp at h) (fun x h => by simp at h)
set_option maxRecDepth 100000 in
set_option maxHeartbeats 8000000 in
theorem pohead_c (w : World) : Calls Tryz.prog 37 #[] w fun e w' => e = .returned (.bool true) ∧ Below w.heap.size w w' := by
  go_enter Tryz.func37, Tryz.ntmps37
  go_upto_region 2 with (go_at_call 77; ((with_reducible refine (seg13_c _ _ _ _).mono ?_); rintro e w1 ⟨rfl, hb1⟩))
  go_cut [2] (fun s2 wx => ∃ (p : Nat) (a1 a2 : Option Addr) (c1 c2 : Nat), s2 = .pointer (some ⟨p, 0, none⟩) ∧ Blk wx p #[.slice a1 2 c1, .slice a2 2 c2, .slice a1 2 c1] 85 ∧ SliS wx (.slice a1 2 c1) [(2, (3, 1)), (8, (0, 0))] ∧ SliS wx (.slice a2 2 c2) [(0, (4, 1)), (5, (2, 1))] ∧ Below w.heap.size w wx)
  case first =>
    go_wp2_with (go_at_call 77; ((with_reducible refine (seg13_c _ _ _ _).mono ?_); rintro e w1 ⟨rfl, hb1⟩))
    go_meet
    case rel => exact ⟨_, _, _, _, _, rfl, Blk.made_at _ _ _ _ (by simp), (by (repeat (first | assumption | exact sliS_nil _ | (refine sliS_new (Blk.made _ _ _) rfl rfl (by decide); done) | refine SliS.past ?_ (by assumption) | refine sliS_alloc ?_ _))), (by (repeat (first | assumption | exact sliS_nil _ | (refine sliS_new (Blk.made _ _ _) rfl rfl (by decide); done) | refine SliS.past ?_ (by assumption) | refine sliS_alloc ?_ _))), by (repeat (first | exact Below.refl _ _ | assumption | refine balloc ?_ _ | refine below_drewN ?_ _ | refine bstep (by assumption) ?_ | refine bstep (Past.prop _) ?_ | refine Below.setCell ?_ (by first | exact Nat.le_refl _ | (simp; done) | (simp; omega)) _))⟩
  obtain ⟨p, a1, a2, c1, c2, rfl, BP, S1, S2, hb⟩ := hcut
  have d0 := BP.cell 0; have d1 := BP.cell 1; have d2 := BP.cell 2; have dz := BP.lt
  simp at d0 d1 d2
  go_upto_region 3 with fail
  go_cut [3, 4, 5] (fun s3 s4 s5 wx => s3 = .int .i64 5 ∧ s4 = .bool false ∧ s5 = .int .i64 0 ∧ Blk wx p #[.slice a1 2 c1, .slice a2 2 c2, .slice a1 2 c1] 85 ∧ SliS wx (.slice a1 2 c1) [(2, (3, 1)), (8, (0, 0))] ∧ SliS wx (.slice a2 2 c2) [(0, (4, 1)), (5, (2, 1))] ∧ Below w.heap.size w wx)
  case first =>
    go_wp2_with (go_at_call 38; ((with_reducible refine (pchk_eq (F := [(2, (3, 1)), (8, (0, 0))]) (G := [(0, (4, 1)), (5, (2, 1))]) (H := [(2, (3, 1)), (8, (0, 0))]) (by omega) S1 S2 S1 (by omega) (by omega) (by omega) hp13_0).mono ?_); rintro e w2 ⟨rfl, hb2⟩))
    go_meet
    case rel => exact ⟨rfl, rfl, rfl, (by (repeat (first | assumption | exact Blk.made _ _ _ | refine Blk.past ?_ (by assumption) | refine Blk.alloc ?_ _))), (by (repeat (first | assumption | exact sliS_nil _ | (refine sliS_new (Blk.made _ _ _) rfl rfl (by decide); done) | refine SliS.past ?_ (by assumption) | refine sliS_alloc ?_ _))), (by (repeat (first | assumption | exact sliS_nil _ | (refine sliS_new (Blk.made _ _ _) rfl rfl (by decide); done) | refine SliS.past ?_ (by assumption) | refine sliS_alloc ?_ _))), by (repeat (first | exact Below.refl _ _ | assumption | refine balloc ?_ _ | refine below_drewN ?_ _ | refine bstep (by assumption) ?_ | refine bstep (Past.prop _) ?_ | refine Below.setCell ?_ (by first | exact Nat.le_refl _ | (simp; done) | (simp; omega)) _))⟩
  clear d0 d1 d2 dz BP S1 S2 hb
  obtain ⟨rfl, rfl, rfl, BP, S1, S2, hb⟩ := hcut
  have d0 := BP.cell 0; have d1 := BP.cell 1; have d2 := BP.cell 2; have dz := BP.lt
  simp at d0 d1 d2
  go_upto_region 4 with fail
  go_cut [6, 7, 8] (fun s3 s4 s5 wx => s3 = .int .i64 0 ∧ s4 = .bool true ∧ s5 = .int .i64 0 ∧ Blk wx p #[.slice a1 2 c1, .slice a2 2 c2, .slice a1 2 c1] 85 ∧ SliS wx (.slice a1 2 c1) [(2, (3, 1)), (8, (0, 0))] ∧ SliS wx (.slice a2 2 c2) [(0, (4, 1)), (5, (2, 1))] ∧ Below w.heap.size w wx)
  case first =>
    go_wp2_with (go_at_call 38; ((with_reducible refine (pchk_eq (F := [(2, (3, 1)), (8, (0, 0))]) (G := [(0, (4, 1)), (5, (2, 1))]) (H := [(2, (3, 1)), (8, (0, 0))]) (by omega) S1 S2 S1 (by omega) (by omega) (by omega) hp13_1).mono ?_); rintro e w2 ⟨rfl, hb2⟩))
    go_meet
    case rel => exact ⟨rfl, rfl, rfl, (by (repeat (first | assumption | exact Blk.made _ _ _ | refine Blk.past ?_ (by assumption) | refine Blk.alloc ?_ _))), (by (repeat (first | assumption | exact sliS_nil _ | (refine sliS_new (Blk.made _ _ _) rfl rfl (by decide); done) | refine SliS.past ?_ (by assumption) | refine sliS_alloc ?_ _))), (by (repeat (first | assumption | exact sliS_nil _ | (refine sliS_new (Blk.made _ _ _) rfl rfl (by decide); done) | refine SliS.past ?_ (by assumption) | refine sliS_alloc ?_ _))), by (repeat (first | exact Below.refl _ _ | assumption | refine balloc ?_ _ | refine below_drewN ?_ _ | refine bstep (by assumption) ?_ | refine bstep (Past.prop _) ?_ | refine Below.setCell ?_ (by first | exact Nat.le_refl _ | (simp; done) | (simp; omega)) _))⟩
  clear d0 d1 d2 dz BP S1 S2 hb
  obtain ⟨rfl, rfl, rfl, BP, S1, S2, hb⟩ := hcut
  have d0 := BP.cell 0; have d1 := BP.cell 1; have d2 := BP.cell 2; have dz := BP.lt
  simp at d0 d1 d2
  go_upto_region 5 with fail
  go_cut [9, 10, 11] (fun s3 s4 s5 wx => s3 = .int .i64 0 ∧ s4 = .bool true ∧ s5 = .int .i64 0 ∧ Blk wx p #[.slice a1 2 c1, .slice a2 2 c2, .slice a1 2 c1] 85 ∧ SliS wx (.slice a1 2 c1) [(2, (3, 1)), (8, (0, 0))] ∧ SliS wx (.slice a2 2 c2) [(0, (4, 1)), (5, (2, 1))] ∧ Below w.heap.size w wx)
  case first =>
    go_wp2_with (go_at_call 38; ((with_reducible refine (pchk_eq (F := [(2, (3, 1)), (8, (0, 0))]) (G := [(0, (4, 1)), (5, (2, 1))]) (H := [(2, (3, 1)), (8, (0, 0))]) (by omega) S1 S2 S1 (by omega) (by omega) (by omega) hp13_2).mono ?_); rintro e w2 ⟨rfl, hb2⟩))
    go_meet
    case rel => exact ⟨rfl, rfl, rfl, (by (repeat (first | assumption | exact Blk.made _ _ _ | refine Blk.past ?_ (by assumption) | refine Blk.alloc ?_ _))), (by (repeat (first | assumption | exact sliS_nil _ | (refine sliS_new (Blk.made _ _ _) rfl rfl (by decide); done) | refine SliS.past ?_ (by assumption) | refine sliS_alloc ?_ _))), (by (repeat (first | assumption | exact sliS_nil _ | (refine sliS_new (Blk.made _ _ _) rfl rfl (by decide); done) | refine SliS.past ?_ (by assumption) | refine sliS_alloc ?_ _))), by (repeat (first | exact Below.refl _ _ | assumption | refine balloc ?_ _ | refine below_drewN ?_ _ | refine bstep (by assumption) ?_ | refine bstep (Past.prop _) ?_ | refine Below.setCell ?_ (by first | exact Nat.le_refl _ | (simp; done) | (simp; omega)) _))⟩
  clear d0 d1 d2 dz BP S1 S2 hb
  obtain ⟨rfl, rfl, rfl, BP, S1, S2, hb⟩ := hcut
  have d0 := BP.cell 0; have d1 := BP.cell 1; have d2 := BP.cell 2; have dz := BP.lt
  simp at d0 d1 d2
  go_upto_region 6 with fail
  go_cut [12, 13, 14] (fun s3 s4 s5 wx => s3 = .int .i64 4 ∧ s4 = .bool false ∧ s5 = .int .i64 0 ∧ Blk wx p #[.slice a1 2 c1, .slice a2 2 c2, .slice a1 2 c1] 85 ∧ SliS wx (.slice a1 2 c1) [(2, (3, 1)), (8, (0, 0))] ∧ SliS wx (.slice a2 2 c2) [(0, (4, 1)), (5, (2, 1))] ∧ Below w.heap.size w wx)
  case first =>
    go_wp2_with (go_at_call 38; ((with_reducible refine (pchk_eq (F := [(2, (3, 1)), (8, (0, 0))]) (G := [(0, (4, 1)), (5, (2, 1))]) (H := [(2, (3, 1)), (8, (0, 0))]) (by omega) S1 S2 S1 (by omega) (by omega) (by omega) hp13_3).mono ?_); rintro e w2 ⟨rfl, hb2⟩))
    go_meet
    case rel => exact ⟨rfl, rfl, rfl, (by (repeat (first | assumption | exact Blk.made _ _ _ | refine Blk.past ?_ (by assumption) | refine Blk.alloc ?_ _))), (by (repeat (first | assumption | exact sliS_nil _ | (refine sliS_new (Blk.made _ _ _) rfl rfl (by decide); done) | refine SliS.past ?_ (by assumption) | refine sliS_alloc ?_ _))), (by (repeat (first | assumption | exact sliS_nil _ | (refine sliS_new (Blk.made _ _ _) rfl rfl (by decide); done) | refine SliS.past ?_ (by assumption) | refine sliS_alloc ?_ _))), by (repeat (first | exact Below.refl _ _ | assumption | refine balloc ?_ _ | refine below_drewN ?_ _ | refine bstep (by assumption) ?_ | refine bstep (Past.prop _) ?_ | refine Below.setCell ?_ (by first | exact Nat.le_refl _ | (simp; done) | (simp; omega)) _))⟩
  clear d0 d1 d2 dz BP S1 S2 hb
  obtain ⟨rfl, rfl, rfl, BP, S1, S2, hb⟩ := hcut
  have d0 := BP.cell 0; have d1 := BP.cell 1; have d2 := BP.cell 2; have dz := BP.lt
  simp at d0 d1 d2
  go_upto_region 7 with fail
  go_cut [15, 16, 17] (fun s3 s4 s5 wx => s3 = .int .i64 1 ∧ s4 = .bool false ∧ s5 = .int .i64 0 ∧ Blk wx p #[.slice a1 2 c1, .slice a2 2 c2, .slice a1 2 c1] 85 ∧ SliS wx (.slice a1 2 c1) [(2, (3, 1)), (8, (0, 0))] ∧ SliS wx (.slice a2 2 c2) [(0, (4, 1)), (5, (2, 1))] ∧ Below w.heap.size w wx)
  case first =>
    go_wp2_with (go_at_call 38; ((with_reducible refine (pchk_eq (F := [(2, (3, 1)), (8, (0, 0))]) (G := [(0, (4, 1)), (5, (2, 1))]) (H := [(2, (3, 1)), (8, (0, 0))]) (by omega) S1 S2 S1 (by omega) (by omega) (by omega) hp13_4).mono ?_); rintro e w2 ⟨rfl, hb2⟩))
    go_meet
    case rel => exact ⟨rfl, rfl, rfl, (by (repeat (first | assumption | exact Blk.made _ _ _ | refine Blk.past ?_ (by assumption) | refine Blk.alloc ?_ _))), (by (repeat (first | assumption | exact sliS_nil _ | (refine sliS_new (Blk.made _ _ _) rfl rfl (by decide); done) | refine SliS.past ?_ (by assumption) | refine sliS_alloc ?_ _))), (by (repeat (first | assumption | exact sliS_nil _ | (refine sliS_new (Blk.made _ _ _) rfl rfl (by decide); done) | refine SliS.past ?_ (by assumption) | refine sliS_alloc ?_ _))), by (repeat (first | exact Below.refl _ _ | assumption | refine balloc ?_ _ | refine below_drewN ?_ _ | refine bstep (by assumption) ?_ | refine bstep (Past.prop _) ?_ | refine Below.setCell ?_ (by first | exact Nat.le_refl _ | (simp; done) | (simp; omega)) _))⟩
  clear d0 d1 d2 dz BP S1 S2 hb
  obtain ⟨rfl, rfl, rfl, BP, S1, S2, hb⟩ := hcut
  have d0 := BP.cell 0; have d1 := BP.cell 1; have d2 := BP.cell 2; have dz := BP.lt
  simp at d0 d1 d2
  go_upto_region 8 with fail
  go_cut [18, 19, 20] (fun s3 s4 s5 wx => s3 = .int .i64 0 ∧ s4 = .bool true ∧ s5 = .int .i64 0 ∧ Blk wx p #[.slice a1 2 c1, .slice a2 2 c2, .slice a1 2 c1] 85 ∧ SliS wx (.slice a1 2 c1) [(2, (3, 1)), (8, (0, 0))] ∧ SliS wx (.slice a2 2 c2) [(0, (4, 1)), (5, (2, 1))] ∧ Below w.heap.size w wx)
  case first =>
    go_wp2_with (go_at_call 38; ((with_reducible refine (pchk_eq (F := [(2, (3, 1)), (8, (0, 0))]) (G := [(0, (4, 1)), (5, (2, 1))]) (H := [(2, (3, 1)), (8, (0, 0))]) (by omega) S1 S2 S1 (by omega) (by omega) (by omega) hp13_5).mono ?_); rintro e w2 ⟨rfl, hb2⟩))
    go_meet
    case rel => exact ⟨rfl, rfl, rfl, (by (repeat (first | assumption | exact Blk.made _ _ _ | refine Blk.past ?_ (by assumption) | refine Blk.alloc ?_ _))), (by (repeat (first | assumption | exact sliS_nil _ | (refine sliS_new (Blk.made _ _ _) rfl rfl (by decide); done) | refine SliS.past ?_ (by assumption) | refine sliS_alloc ?_ _))), (by (repeat (first | assumption | exact sliS_nil _ | (refine sliS_new (Blk.made _ _ _) rfl rfl (by decide); done) | refine SliS.past ?_ (by assumption) | refine sliS_alloc ?_ _))), by (repeat (first | exact Below.refl _ _ | assumption | refine balloc ?_ _ | refine below_drewN ?_ _ | refine bstep (by assumption) ?_ | refine bstep (Past.prop _) ?_ | refine Below.setCell ?_ (by first | exact Nat.le_refl _ | (simp; done) | (simp; omega)) _))⟩
  clear d0 d1 d2 dz BP S1 S2 hb
  obtain ⟨rfl, rfl, rfl, BP, S1, S2, hb⟩ := hcut
  go_upto_region 10 with (go_at_call 44; ((with_reducible refine (holds_nil _ _ _ _ _ _).mono ?_); rintro e w2 ⟨rfl, hb2⟩))
  simp only [List.append_eq, List.cons_append, List.nil_append]
  go_wp2_with (first | (go_at_call 40; ((with_reducible refine (pomay_eq (by omega) hp13_6).mono ?_); rintro e w3 ⟨rfl, hb3⟩)) | (go_at_call 40; ((with_reducible refine (pomay_eq (by omega) hp13_7).mono ?_); rintro e w4 ⟨rfl, hb4⟩)) | (go_at_call 50; ((with_reducible refine (least_nil _).mono ?_); rintro e w5 ⟨rfl, hb5⟩)))
  go_ret
  exact ⟨by simp, by (repeat (first | exact Below.refl _ _ | assumption | refine balloc ?_ _ | refine below_drewN ?_ _ | refine bstep (by assumption) ?_ | refine bstep (Past.prop _) ?_ | refine Below.setCell ?_ (by first | exact Nat.le_refl _ | (simp; done) | (simp; omega)) _))⟩
end Go.Proofs.YthlepbbdjmmelaaGreat

namespace Go.Proofs.YthlepbbdjmmelaaGreat
open Go.ChangeShapes Go.WideShapes Go.ChangeAt Go.RowKit

/-- The reference's product: true just where the product may be, for a number that may be. -/
def RT (x n : Int) (r : Int) (b : Bool) : Prop := -1125899906842624 ≤ x ∧ x ≤ 1125899906842624 → (b = decide (-1125899906842624 ≤ x * n ∧ x * n ≤ 1125899906842624)) ∧ (b = true → r = x * n)
def RTs (x n : Int) (w : World) (e : Ending) (w' : World) : Prop := ∃ r b, e = .returned (.tuple #[.int .i64 r, .bool b]) ∧ RT x n r b ∧ w' = w
theorem rtimes_pp (A B : Int) (w : World) (hA : 0 < A ∧ A ≤ 1125899906842624) (hB : 0 < B ∧ B ≤ 1125899906842624) :
    Calls Tryz.prog 86 #[.int .i64 (A), .int .i64 (B)] w (RTs (A) (B) w) := by
  have hs : A * B = (A * B) := by first | rfl | exact Int.neg_mul _ _ | exact Int.mul_neg _ _ | exact Int.neg_mul_neg _ _
  have hp : 0 ≤ A * B := Int.mul_nonneg (by omega) (by omega)
  have hq : A ≤ 1125899906842624 / B ↔ A * B ≤ 1125899906842624 := Int.le_ediv_iff_mul_le hB.1
  have HS := hidE hs; have HP := hidE hp; have HQ := hidE hq
  clear hs hp hq
  have z1 : (A == 0) = false := beq_eq_false_iff_ne.2 (by omega)
  have z2 : (B == 0) = false := beq_eq_false_iff_ne.2 (by omega)
  have z3 : ((-A) == 0) = false := beq_eq_false_iff_ne.2 (by omega)
  have z4 : ((-B) == 0) = false := beq_eq_false_iff_ne.2 (by omega)
  by_cases h : A ≤ 1125899906842624 / B
  · have hk : A * B ≤ 1125899906842624 := HQ.out.1 h
    have HK := hidE hk; clear hk
    go_enter Tryz.func86, Tryz.ntmps86
    go_wp2
    go_ret2
    refine ⟨_, _, rfl, ?_, rfl⟩
    intro _
    have e1 := HS.out; have e2 := HP.out; have e3 := HK.out
    refine ⟨(decide_eq_true (by omega)).symm, fun _ => ?_⟩
    first | rfl | exact IntWalk.wrap64_in _ (by omega) | (simp only [e1]; exact IntWalk.wrap64_in _ (by omega)) | (rw [e1]; simp)
  · have hk : ¬ A * B ≤ 1125899906842624 := fun h' => h (HQ.out.2 h')
    have HK := hidE hk; clear hk
    go_enter Tryz.func86, Tryz.ntmps86
    go_wp2
    go_ret2
    refine ⟨_, _, rfl, ?_, rfl⟩
    intro _
    have e1 := HS.out; have e2 := HP.out; have e3 := HK.out
    exact ⟨(decide_eq_false (by omega)).symm, fun h' => by cases h'⟩
theorem rtimes_np (A B : Int) (w : World) (hA : 0 < A ∧ A ≤ 1125899906842624) (hB : 0 < B ∧ B ≤ 1125899906842624) :
    Calls Tryz.prog 86 #[.int .i64 (-A), .int .i64 (B)] w (RTs (-A) (B) w) := by
  have hs : -A * B = (-(A * B)) := by first | rfl | exact Int.neg_mul _ _ | exact Int.mul_neg _ _ | exact Int.neg_mul_neg _ _
  have hp : 0 ≤ A * B := Int.mul_nonneg (by omega) (by omega)
  have hq : A ≤ 1125899906842624 / B ↔ A * B ≤ 1125899906842624 := Int.le_ediv_iff_mul_le hB.1
  have HS := hidE hs; have HP := hidE hp; have HQ := hidE hq
  clear hs hp hq
  have z1 : (A == 0) = false := beq_eq_false_iff_ne.2 (by omega)
  have z2 : (B == 0) = false := beq_eq_false_iff_ne.2 (by omega)
  have z3 : ((-A) == 0) = false := beq_eq_false_iff_ne.2 (by omega)
  have z4 : ((-B) == 0) = false := beq_eq_false_iff_ne.2 (by omega)
  by_cases h : A ≤ 1125899906842624 / B
  · have hk : A * B ≤ 1125899906842624 := HQ.out.1 h
    have HK := hidE hk; clear hk
    go_enter Tryz.func86, Tryz.ntmps86
    go_wp2
    go_ret2
    refine ⟨_, _, rfl, ?_, rfl⟩
    intro _
    have e1 := HS.out; have e2 := HP.out; have e3 := HK.out
    refine ⟨(decide_eq_true (by omega)).symm, fun _ => ?_⟩
    first | rfl | exact IntWalk.wrap64_in _ (by omega) | (simp only [e1]; exact IntWalk.wrap64_in _ (by omega)) | (rw [e1]; simp)
  · have hk : ¬ A * B ≤ 1125899906842624 := fun h' => h (HQ.out.2 h')
    have HK := hidE hk; clear hk
    go_enter Tryz.func86, Tryz.ntmps86
    go_wp2
    go_ret2
    refine ⟨_, _, rfl, ?_, rfl⟩
    intro _
    have e1 := HS.out; have e2 := HP.out; have e3 := HK.out
    exact ⟨(decide_eq_false (by omega)).symm, fun h' => by cases h'⟩
theorem rtimes_pn (A B : Int) (w : World) (hA : 0 < A ∧ A ≤ 1125899906842624) (hB : 0 < B ∧ B ≤ 1125899906842624) :
    Calls Tryz.prog 86 #[.int .i64 (A), .int .i64 (-B)] w (RTs (A) (-B) w) := by
  have hs : A * -B = (-(A * B)) := by first | rfl | exact Int.neg_mul _ _ | exact Int.mul_neg _ _ | exact Int.neg_mul_neg _ _
  have hp : 0 ≤ A * B := Int.mul_nonneg (by omega) (by omega)
  have hq : A ≤ 1125899906842624 / B ↔ A * B ≤ 1125899906842624 := Int.le_ediv_iff_mul_le hB.1
  have HS := hidE hs; have HP := hidE hp; have HQ := hidE hq
  clear hs hp hq
  have z1 : (A == 0) = false := beq_eq_false_iff_ne.2 (by omega)
  have z2 : (B == 0) = false := beq_eq_false_iff_ne.2 (by omega)
  have z3 : ((-A) == 0) = false := beq_eq_false_iff_ne.2 (by omega)
  have z4 : ((-B) == 0) = false := beq_eq_false_iff_ne.2 (by omega)
  by_cases h : A ≤ 1125899906842624 / B
  · have hk : A * B ≤ 1125899906842624 := HQ.out.1 h
    have HK := hidE hk; clear hk
    go_enter Tryz.func86, Tryz.ntmps86
    go_wp2
    go_ret2
    refine ⟨_, _, rfl, ?_, rfl⟩
    intro _
    have e1 := HS.out; have e2 := HP.out; have e3 := HK.out
    refine ⟨(decide_eq_true (by omega)).symm, fun _ => ?_⟩
    first | rfl | exact IntWalk.wrap64_in _ (by omega) | (simp only [e1]; exact IntWalk.wrap64_in _ (by omega)) | (rw [e1]; simp)
  · have hk : ¬ A * B ≤ 1125899906842624 := fun h' => h (HQ.out.2 h')
    have HK := hidE hk; clear hk
    go_enter Tryz.func86, Tryz.ntmps86
    go_wp2
    go_ret2
    refine ⟨_, _, rfl, ?_, rfl⟩
    intro _
    have e1 := HS.out; have e2 := HP.out; have e3 := HK.out
    exact ⟨(decide_eq_false (by omega)).symm, fun h' => by cases h'⟩
theorem rtimes_nn (A B : Int) (w : World) (hA : 0 < A ∧ A ≤ 1125899906842624) (hB : 0 < B ∧ B ≤ 1125899906842624) :
    Calls Tryz.prog 86 #[.int .i64 (-A), .int .i64 (-B)] w (RTs (-A) (-B) w) := by
  have hs : -A * -B = (A * B) := by first | rfl | exact Int.neg_mul _ _ | exact Int.mul_neg _ _ | exact Int.neg_mul_neg _ _
  have hp : 0 ≤ A * B := Int.mul_nonneg (by omega) (by omega)
  have hq : A ≤ 1125899906842624 / B ↔ A * B ≤ 1125899906842624 := Int.le_ediv_iff_mul_le hB.1
  have HS := hidE hs; have HP := hidE hp; have HQ := hidE hq
  clear hs hp hq
  have z1 : (A == 0) = false := beq_eq_false_iff_ne.2 (by omega)
  have z2 : (B == 0) = false := beq_eq_false_iff_ne.2 (by omega)
  have z3 : ((-A) == 0) = false := beq_eq_false_iff_ne.2 (by omega)
  have z4 : ((-B) == 0) = false := beq_eq_false_iff_ne.2 (by omega)
  by_cases h : A ≤ 1125899906842624 / B
  · have hk : A * B ≤ 1125899906842624 := HQ.out.1 h
    have HK := hidE hk; clear hk
    go_enter Tryz.func86, Tryz.ntmps86
    go_wp2
    go_ret2
    refine ⟨_, _, rfl, ?_, rfl⟩
    intro _
    have e1 := HS.out; have e2 := HP.out; have e3 := HK.out
    refine ⟨(decide_eq_true (by omega)).symm, fun _ => ?_⟩
    first | rfl | exact IntWalk.wrap64_in _ (by omega) | (simp only [e1]; exact IntWalk.wrap64_in _ (by omega)) | (rw [e1]; simp)
  · have hk : ¬ A * B ≤ 1125899906842624 := fun h' => h (HQ.out.2 h')
    have HK := hidE hk; clear hk
    go_enter Tryz.func86, Tryz.ntmps86
    go_wp2
    go_ret2
    refine ⟨_, _, rfl, ?_, rfl⟩
    intro _
    have e1 := HS.out; have e2 := HP.out; have e3 := HK.out
    exact ⟨(decide_eq_false (by omega)).symm, fun h' => by cases h'⟩

theorem far_mul {x n : Int} (hx : x ≠ 0) (h : n < -1125899906842624 ∨ 1125899906842624 < n) : ¬ (-1125899906842624 ≤ x * n ∧ x * n ≤ 1125899906842624) := by
  have key : ∀ A B : Int, 1 ≤ A → 1125899906842624 < B → 1125899906842624 < A * B := fun A B hA hB => by
    have := Int.mul_le_mul_of_nonneg_right (c := B) hA (by omega)
    omega
  rcases Int.lt_or_gt_of_ne hx with hx | hx
  · rcases h with h | h
    · have := key (-x) (-n) (by omega) (by omega); rw [Int.neg_mul_neg] at this; omega
    · have := key (-x) n (by omega) (by omega); rw [Int.neg_mul] at this; omega
  · rcases h with h | h
    · have := key x (-n) (by omega) (by omega); rw [Int.mul_neg] at this; omega
    · have := key x n (by omega) (by omega); omega

theorem rtimes (x n : Int) (w : World) (hx : -9223372036854775808 ≤ x ∧ x ≤ 9223372036854775807) (hn : -9223372036854775808 ≤ n ∧ n ≤ 9223372036854775807) :
    Calls Tryz.prog 86 #[.int .i64 x, .int .i64 n] w (RTs x n w) := by
  by_cases x0 : x = 0
  · subst x0
    go_enter Tryz.func86, Tryz.ntmps86
    go_wp2
    go_ret2
    exact ⟨_, _, rfl, fun _ => ⟨by simp, fun _ => by simp⟩, rfl⟩
  have zx : (x == 0) = false := beq_eq_false_iff_ne.2 x0
  by_cases n0 : n = 0
  · subst n0
    go_enter Tryz.func86, Tryz.ntmps86
    go_wp2
    go_ret2
    exact ⟨_, _, rfl, fun _ => ⟨by simp, fun _ => by simp⟩, rfl⟩
  have zn : (n == 0) = false := beq_eq_false_iff_ne.2 n0
  have FM := fun h => hidE (far_mul (x := x) (n := n) x0 h)
  have FM' := hidE FM; clear FM
  by_cases h1 : 1125899906842624 < n
  · go_enter Tryz.func86, Tryz.ntmps86
    go_wp2
    go_ret2
    exact ⟨_, _, rfl, fun _ => ⟨(decide_eq_false (FM'.out (.inr h1)).out).symm, fun h => by cases h⟩, rfl⟩
  by_cases h2 : n < -1125899906842624
  · go_enter Tryz.func86, Tryz.ntmps86
    go_wp2
    go_ret2
    exact ⟨_, _, rfl, fun _ => ⟨(decide_eq_false (FM'.out (.inl h2)).out).symm, fun h => by cases h⟩, rfl⟩
  by_cases hv : -1125899906842624 ≤ x ∧ x ≤ 1125899906842624
  · clear FM' zx zn
    by_cases hx0 : 0 < x
    · by_cases hn0 : 0 < n
      · exact rtimes_pp x n w (by omega) (by omega)
      · obtain ⟨B, rfl⟩ : ∃ B, n = -B := ⟨-n, by omega⟩
        exact rtimes_pn x B w (by omega) (by omega)
    · obtain ⟨A, rfl⟩ : ∃ A, x = -A := ⟨-x, by omega⟩
      by_cases hn0 : 0 < n
      · exact rtimes_np A n w (by omega) (by omega)
      · obtain ⟨B, rfl⟩ : ∃ B, n = -B := ⟨-n, by omega⟩
        exact rtimes_nn A B w (by omega) (by omega)
  · have hv' : ∀ r b, RT x n r b := fun r b h => absurd h hv
    have HV := hidE hv'
    clear hv' FM'
    clear hv
    by_cases hn0 : 0 < n
    · by_cases hm : x = -9223372036854775808
      · subst hm
        go_enter Tryz.func86, Tryz.ntmps86
        go_wp2
        all_goals
          go_ret2
          exact ⟨_, _, rfl, HV.out _ _, rfl⟩
      · go_enter Tryz.func86, Tryz.ntmps86
        go_wp2
        all_goals
          go_ret2
          exact ⟨_, _, rfl, HV.out _ _, rfl⟩
    · obtain ⟨B, rfl⟩ : ∃ B, n = -B := ⟨-n, by omega⟩
      by_cases hm : x = -9223372036854775808
      · subst hm
        go_enter Tryz.func86, Tryz.ntmps86
        go_wp2
        all_goals
          go_ret2
          exact ⟨_, _, rfl, HV.out _ _, rfl⟩
      · go_enter Tryz.func86, Tryz.ntmps86
        go_wp2
        all_goals
          go_ret2
          exact ⟨_, _, rfl, HV.out _ _, rfl⟩

theorem rscl (a b n : Int) (w : World) (ha : -9223372036854775808 ≤ a ∧ a ≤ 9223372036854775807) (hb' : -9223372036854775808 ≤ b ∧ b ≤ 9223372036854775807) (hn : -9223372036854775808 ≤ n ∧ n ≤ 9223372036854775807) :
    Calls Tryz.prog 47 #[V a b, .int .i64 n] w fun e w' => e = .returned (VE (sclS a b n)) ∧ Below w.heap.size w w' := by
  have Ha := hidE ha; have Hb := hidE hb'; have Hn := hidE hn
  clear ha hb' hn
  cases h : okV a b
  · have e : sclS a b n = (0, 0, 10) := by unfold sclS; rw [h]; rfl
    rw [e]; clear e
    go_enter Tryz.func47, Tryz.ntmps47
    go_wp2_with fail
    ((with_reducible refine (rtimes a n _ Ha.out Hn.out).mono ?_); rintro e w' ⟨r1, b1, rfl, hr1, rfl⟩)
    go_wp2_with fail
    ((with_reducible refine (rtimes b n _ Hb.out Hn.out).mono ?_); rintro e w' ⟨r2, b2, rfl, hr2, rfl⟩)
    clear hr1 hr2
    go_wp2_with (go_at_call 74; ((with_reducible refine (rmay_eq h).mono ?_); rintro e w' ⟨rfl, hb⟩; obtain ⟨hc, hf⟩ := bcell hb; have hz0 := bsz hb (w.heap.size) (by first | assumption | (simp; done) | (simp; omega)); have hz1 := bsz hb (w.heap.size + 1) (by first | assumption | (simp; done) | (simp; omega))))
    refine bodyPost_ret (v := VE (0, 0, 10)) (by simp [results, Tryz.results47, go_sem, *]) rfl ⟨rfl, ?_⟩
    (repeat (first | exact Below.refl _ _ | assumption | refine balloc ?_ _ | refine below_drewN ?_ _ | refine bstep (by assumption) ?_ | refine bstep (Past.prop _) ?_ | refine Below.setCell ?_ (by first | exact Nat.le_refl _ | (simp; done) | (simp; omega)) _))
  · have g := okV_iff.1 h
    go_enter Tryz.func47, Tryz.ntmps47
    go_wp2_with fail
    ((with_reducible refine (rtimes a n _ Ha.out Hn.out).mono ?_); rintro e w' ⟨r1, b1, rfl, hr1, rfl⟩)
    go_wp2_with fail
    ((with_reducible refine (rtimes b n _ Hb.out Hn.out).mono ?_); rintro e w' ⟨r2, b2, rfl, hr2, rfl⟩)
    obtain ⟨e1, f1⟩ := hr1 (by omega)
    obtain ⟨e2, f2⟩ := hr2 (by omega)
    clear hr1 hr2
    have E1 := hidE e1; have E2 := hidE e2; have F1 := hidE f1; have F2 := hidE f2
    clear e1 e2 f1 f2 g
    cases b1
    · have e : sclS a b n = (0, 0, 10) := by
        have := of_decide_eq_false E1.out.symm
        unfold sclS; rw [h]; exact gate_false (by rw [Bool.true_and, okV_not]; omega)
      have E := hidE e; clear e
      go_wp2_with (go_at_call 74; ((with_reducible refine (rmay_eq h).mono ?_); rintro e w' ⟨rfl, hb⟩; obtain ⟨hc, hf⟩ := bcell hb; have hz0 := bsz hb (w.heap.size) (by first | assumption | (simp; done) | (simp; omega)); have hz1 := bsz hb (w.heap.size + 1) (by first | assumption | (simp; done) | (simp; omega))))
      refine bodyPost_ret (v := VE (0, 0, 10)) (by simp [results, Tryz.results47, go_sem, *]) rfl ⟨by rw [E.out], ?_⟩
      (repeat (first | exact Below.refl _ _ | assumption | refine balloc ?_ _ | refine below_drewN ?_ _ | refine bstep (by assumption) ?_ | refine bstep (Past.prop _) ?_ | refine Below.setCell ?_ (by first | exact Nat.le_refl _ | (simp; done) | (simp; omega)) _))
    cases b2
    · have e : sclS a b n = (0, 0, 10) := by
        have := of_decide_eq_false E2.out.symm
        unfold sclS; rw [h]; exact gate_false (by rw [Bool.true_and, okV_not]; omega)
      have E := hidE e; clear e
      go_wp2_with (go_at_call 74; ((with_reducible refine (rmay_eq h).mono ?_); rintro e w' ⟨rfl, hb⟩; obtain ⟨hc, hf⟩ := bcell hb; have hz0 := bsz hb (w.heap.size) (by first | assumption | (simp; done) | (simp; omega)); have hz1 := bsz hb (w.heap.size + 1) (by first | assumption | (simp; done) | (simp; omega))))
      refine bodyPost_ret (v := VE (0, 0, 10)) (by simp [results, Tryz.results47, go_sem, *]) rfl ⟨by rw [E.out], ?_⟩
      (repeat (first | exact Below.refl _ _ | assumption | refine balloc ?_ _ | refine below_drewN ?_ _ | refine bstep (by assumption) ?_ | refine bstep (Past.prop _) ?_ | refine Below.setCell ?_ (by first | exact Nat.le_refl _ | (simp; done) | (simp; omega)) _))
    · have e : sclS a b n = (r1, r2, 0) := by
        have t1 := of_decide_eq_true E1.out.symm
        have t2 := of_decide_eq_true E2.out.symm
        unfold sclS; rw [h, F1.out rfl, F2.out rfl]; exact gate_true (by rw [Bool.true_and, okV_iff]; omega)
      have E := hidE e; clear e
      go_wp2_with (go_at_call 74; ((with_reducible refine (rmay_eq h).mono ?_); rintro e w' ⟨rfl, hb⟩; obtain ⟨hc, hf⟩ := bcell hb; have hz0 := bsz hb (w.heap.size) (by first | assumption | (simp; done) | (simp; omega)); have hz1 := bsz hb (w.heap.size + 1) (by first | assumption | (simp; done) | (simp; omega))))
      refine bodyPost_ret (v := VE (r1, r2, 0)) (by simp [results, Tryz.results47, go_sem, *]) rfl ⟨by rw [E.out], ?_⟩
      (repeat (first | exact Below.refl _ _ | assumption | refine balloc ?_ _ | refine below_drewN ?_ _ | refine bstep (by assumption) ?_ | refine bstep (Past.prop _) ?_ | refine Below.setCell ?_ (by first | exact Nat.le_refl _ | (simp; done) | (simp; omega)) _))
end Go.Proofs.YthlepbbdjmmelaaGreat

namespace Go.Proofs.YthlepbbdjmmelaaGreat
open Go.ChangeShapes Go.WideShapes Go.ChangeAt Go.RowKit
attribute [local irreducible] Go.Calls

set_option maxRecDepth 100000 in
set_option maxHeartbeats 2000000 in
theorem r13may_c (k a b n : Int) (w : World) (hk : 0 ≤ k ∧ k ≤ 255) : Calls Tryz.prog 41 #[.agg #[.int .u8 k, .int .i64 a, .int .i64 b, .int .i64 n]] w fun e w' => e = .returned (.bool (polB (k, (a, b), n))) ∧ Below w.heap.size w w' := by
  obtain ⟨w0, hw0⟩ : ∃ w0, w0 = w.alloc (Obj.cells #[.int .u8 k, .int .i64 a, .int .i64 b, .int .i64 n] 84) := ⟨_, rfl⟩
  have B1 : Blk w0 w.heap.size #[.int .u8 k, .int .i64 a, .int .i64 b, .int .i64 n] 84 := by rw [hw0]; exact Blk.made _ _ _
  have hb0 : Below w.heap.size w w0 := by rw [hw0]; (repeat (first | exact Below.refl _ _ | assumption | refine balloc ?_ _ | refine below_drewN ?_ _ | refine bstep (by assumption) ?_ | refine bstep (Past.prop _) ?_ | refine Below.setCell ?_ (by first | exact Nat.le_refl _ | (simp; done) | (simp; omega)) _))
  go_enter Tryz.func41, Tryz.ntmps41
  go_upto_region 1 with fail
  rw [← hw0]
  clear hw0
  have b0 := B1.cell 0; have b1 := B1.cell 1; have b2 := B1.cell 2; have b3 := B1.cell 3; have bz := B1.lt
  simp at b0 b1 b2 b3
  go_cut [3] (fun s3 wx => s3 = .bool (capB (a, b)) ∧ Blk wx w.heap.size #[.int .u8 k, .int .i64 a, .int .i64 b, .int .i64 n] 84 ∧ Below w.heap.size w wx)
  case first =>
    by_cases ha : 0 ≤ a
    · by_cases hb : a ≤ 1073741824
      · by_cases hc : 0 ≤ b
        · by_cases hd : b ≤ 1073741824
          · have hcap : capB (a, b) = true := capB_iff.2 ⟨ha, hc, hb, hd⟩
            have e0 : decide (0 ≤ a) = true := decide_eq_true (by assumption)
            have e1 : decide (a ≤ 1073741824) = true := decide_eq_true (by assumption)
            have e2 : decide (0 ≤ b) = true := decide_eq_true (by assumption)
            have e3 : decide (b ≤ 1073741824) = true := decide_eq_true (by assumption)
            have HC := hidE hcap
            clear hcap ha hb hc hd
            go_wp2_with fail
            go_meet
            case rel => exact ⟨by rw [HC.out], by assumption, by (repeat (first | exact Below.refl _ _ | assumption | refine balloc ?_ _ | refine below_drewN ?_ _ | refine bstep (by assumption) ?_ | refine bstep (Past.prop _) ?_ | refine Below.setCell ?_ (by first | exact Nat.le_refl _ | (simp; done) | (simp; omega)) _))⟩
          · have hcap : capB (a, b) = false := by
              rw [Bool.eq_false_iff]; intro h; have := capB_iff.1 h; exact absurd this.2.2.2 hd
            have e0 : decide (0 ≤ a) = true := decide_eq_true (by assumption)
            have e1 : decide (a ≤ 1073741824) = true := decide_eq_true (by assumption)
            have e2 : decide (0 ≤ b) = true := decide_eq_true (by assumption)
            have e3 : decide (b ≤ 1073741824) = false := decide_eq_false (by assumption)
            have HC := hidE hcap
            clear hcap ha hb hc hd
            go_wp2_with fail
            go_meet
            case rel => exact ⟨by rw [HC.out], by assumption, by (repeat (first | exact Below.refl _ _ | assumption | refine balloc ?_ _ | refine below_drewN ?_ _ | refine bstep (by assumption) ?_ | refine bstep (Past.prop _) ?_ | refine Below.setCell ?_ (by first | exact Nat.le_refl _ | (simp; done) | (simp; omega)) _))⟩
        · have hcap : capB (a, b) = false := by
            rw [Bool.eq_false_iff]; intro h; have := capB_iff.1 h; exact absurd this.2.1 hc
          have e0 : decide (0 ≤ a) = true := decide_eq_true (by assumption)
          have e1 : decide (a ≤ 1073741824) = true := decide_eq_true (by assumption)
          have e2 : decide (0 ≤ b) = false := decide_eq_false (by assumption)
          have HC := hidE hcap
          clear hcap ha hb hc
          go_wp2_with fail
          go_meet
          case rel => exact ⟨by rw [HC.out], by assumption, by (repeat (first | exact Below.refl _ _ | assumption | refine balloc ?_ _ | refine below_drewN ?_ _ | refine bstep (by assumption) ?_ | refine bstep (Past.prop _) ?_ | refine Below.setCell ?_ (by first | exact Nat.le_refl _ | (simp; done) | (simp; omega)) _))⟩
      · have hcap : capB (a, b) = false := by
          rw [Bool.eq_false_iff]; intro h; have := capB_iff.1 h; exact absurd this.2.2.1 hb
        have e0 : decide (0 ≤ a) = true := decide_eq_true (by assumption)
        have e1 : decide (a ≤ 1073741824) = false := decide_eq_false (by assumption)
        have HC := hidE hcap
        clear hcap ha hb
        go_wp2_with fail
        go_meet
        case rel => exact ⟨by rw [HC.out], by assumption, by (repeat (first | exact Below.refl _ _ | assumption | refine balloc ?_ _ | refine below_drewN ?_ _ | refine bstep (by assumption) ?_ | refine bstep (Past.prop _) ?_ | refine Below.setCell ?_ (by first | exact Nat.le_refl _ | (simp; done) | (simp; omega)) _))⟩
    · have hcap : capB (a, b) = false := by
        rw [Bool.eq_false_iff]; intro h; have := capB_iff.1 h; exact absurd this.1 ha
      have e0 : decide (0 ≤ a) = false := decide_eq_false (by assumption)
      have HC := hidE hcap
      clear hcap ha
      go_wp2_with fail
      go_meet
      case rel => exact ⟨by rw [HC.out], by assumption, by (repeat (first | exact Below.refl _ _ | assumption | refine balloc ?_ _ | refine below_drewN ?_ _ | refine bstep (by assumption) ?_ | refine bstep (Past.prop _) ?_ | refine Below.setCell ?_ (by first | exact Nat.le_refl _ | (simp; done) | (simp; omega)) _))⟩
  obtain ⟨rfl, B1, hb⟩ := hcut
  clear b0 b1 b2 b3 bz hb0
  have b0 := B1.cell 0; have b1 := B1.cell 1; have b2 := B1.cell 2; have b3 := B1.cell 3; have bz := B1.lt
  simp at b0 b1 b2 b3
  by_cases k0 : k = 0
  · subst k0
    by_cases ha : a = 0
    · by_cases hb : b = 0
      · subst ha; subst hb
        have e : polB (0, (0, 0), n) = (n == 0) := by by_cases hn : n = 0 <;> simp [polB, hn]
        have E := hidE e; clear e
        go_wp2
        go_ret
        exact ⟨by first | (rw [E.out]; done) | (rw [E.out]; simp; done) | (rw [E.out]; rfl), by (repeat (first | exact Below.refl _ _ | assumption | refine balloc ?_ _ | refine below_drewN ?_ _ | refine bstep (by assumption) ?_ | refine bstep (Past.prop _) ?_ | refine Below.setCell ?_ (by first | exact Nat.le_refl _ | (simp; done) | (simp; omega)) _))⟩
      · have e : polB (0, (a, b), n) = false := by unfold polB; simp [hb]
        have E := hidE e; clear e
        have zb : (b == 0) = false := beq_eq_false_iff_ne.2 hb
        subst ha
        go_wp2
        go_ret
        exact ⟨by first | (rw [E.out]; done) | (rw [E.out]; simp; done) | (rw [E.out]; rfl), by (repeat (first | exact Below.refl _ _ | assumption | refine balloc ?_ _ | refine below_drewN ?_ _ | refine bstep (by assumption) ?_ | refine bstep (Past.prop _) ?_ | refine Below.setCell ?_ (by first | exact Nat.le_refl _ | (simp; done) | (simp; omega)) _))⟩
    · have e : polB (0, (a, b), n) = false := by unfold polB; simp [ha]
      have E := hidE e; clear e
      have za : (a == 0) = false := beq_eq_false_iff_ne.2 ha
      go_wp2
      go_ret
      exact ⟨by first | (rw [E.out]; done) | (rw [E.out]; simp; done) | (rw [E.out]; rfl), by (repeat (first | exact Below.refl _ _ | assumption | refine balloc ?_ _ | refine below_drewN ?_ _ | refine bstep (by assumption) ?_ | refine bstep (Past.prop _) ?_ | refine Below.setCell ?_ (by first | exact Nat.le_refl _ | (simp; done) | (simp; omega)) _))⟩
  have z0 : (k == 0) = false := beq_eq_false_iff_ne.2 k0
  by_cases k1 : k = 1
  · subst k1
    clear k0 z0
    cases hc : capB (a, b)
    · have e : polB (1, (a, b), n) = false := by unfold polB; simp [hc]
      have E := hidE e; clear e hc
      go_wp2
      go_ret
      exact ⟨by first | (rw [E.out]; done) | (rw [E.out]; simp; done) | (rw [E.out]; rfl), by (repeat (first | exact Below.refl _ _ | assumption | refine balloc ?_ _ | refine below_drewN ?_ _ | refine bstep (by assumption) ?_ | refine bstep (Past.prop _) ?_ | refine Below.setCell ?_ (by first | exact Nat.le_refl _ | (simp; done) | (simp; omega)) _))⟩
    · have e : polB (1, (a, b), n) = (n == 0) := by by_cases hn : n = 0 <;> simp [polB, hc, hn]
      have E := hidE e; clear e hc
      go_wp2
      go_ret
      exact ⟨by first | (rw [E.out]; done) | (rw [E.out]; simp; done) | (rw [E.out]; rfl), by (repeat (first | exact Below.refl _ _ | assumption | refine balloc ?_ _ | refine below_drewN ?_ _ | refine bstep (by assumption) ?_ | refine bstep (Past.prop _) ?_ | refine Below.setCell ?_ (by first | exact Nat.le_refl _ | (simp; done) | (simp; omega)) _))⟩
  have z1 : (k == 1) = false := beq_eq_false_iff_ne.2 k1
  by_cases k2 : k = 2
  · subst k2
    clear k0 k1 z0 z1
    cases hc : capB (a, b)
    · have e : polB (2, (a, b), n) = false := by unfold polB; simp [hc]
      have E := hidE e; clear e hc
      go_wp2
      go_ret
      exact ⟨by first | (rw [E.out]; done) | (rw [E.out]; simp; done) | (rw [E.out]; rfl), by (repeat (first | exact Below.refl _ _ | assumption | refine balloc ?_ _ | refine below_drewN ?_ _ | refine bstep (by assumption) ?_ | refine bstep (Past.prop _) ?_ | refine Below.setCell ?_ (by first | exact Nat.le_refl _ | (simp; done) | (simp; omega)) _))⟩
    · by_cases h1 : 1 ≤ n
      · have e : polB (2, (a, b), n) = decide (n ≤ 4096) := by unfold polB; simp [hc, h1]
        have E := hidE e; clear e hc
        have d1 : decide (1 ≤ n) = true := decide_eq_true h1
        clear h1
        go_wp2
        go_ret
        exact ⟨by first | (rw [E.out]; done) | (rw [E.out]; simp; done) | (rw [E.out]; rfl), by (repeat (first | exact Below.refl _ _ | assumption | refine balloc ?_ _ | refine below_drewN ?_ _ | refine bstep (by assumption) ?_ | refine bstep (Past.prop _) ?_ | refine Below.setCell ?_ (by first | exact Nat.le_refl _ | (simp; done) | (simp; omega)) _))⟩
      · have e : polB (2, (a, b), n) = false := by unfold polB; simp [h1]
        have E := hidE e; clear e hc
        have d1 : decide (1 ≤ n) = false := decide_eq_false h1
        clear h1
        go_wp2
        go_ret
        exact ⟨by first | (rw [E.out]; done) | (rw [E.out]; simp; done) | (rw [E.out]; rfl), by (repeat (first | exact Below.refl _ _ | assumption | refine balloc ?_ _ | refine below_drewN ?_ _ | refine bstep (by assumption) ?_ | refine bstep (Past.prop _) ?_ | refine Below.setCell ?_ (by first | exact Nat.le_refl _ | (simp; done) | (simp; omega)) _))⟩
  · have z2 : (k == 2) = false := beq_eq_false_iff_ne.2 k2
    have e : polB (k, (a, b), n) = false := by unfold polB; simp [k0, k1, k2]
    have E := hidE e; clear e k0 k1 k2
    go_wp2
    go_ret
    exact ⟨by first | (rw [E.out]; done) | (rw [E.out]; simp; done) | (rw [E.out]; rfl), by (repeat (first | exact Below.refl _ _ | assumption | refine balloc ?_ _ | refine below_drewN ?_ _ | refine bstep (by assumption) ?_ | refine bstep (Past.prop _) ?_ | refine Below.setCell ?_ (by first | exact Nat.le_refl _ | (simp; done) | (simp; omega)) _))⟩
theorem r13may_eq {k a b n : Int} {r : Bool} {w : World} (hk : 0 ≤ k ∧ k ≤ 255) (h : polB (k, (a, b), n) = r) : Calls Tryz.prog 41 #[.agg #[.int .u8 k, .int .i64 a, .int .i64 b, .int .i64 n]] w fun e w' => e = .returned (.bool r) ∧ Below w.heap.size w w' := h ▸ r13may_c k a b n w hk
theorem limL_len (now : Int) (c : Int × Int) : (limL now c).length ≤ 1 := by unfold limL; split <;> simp
theorem withL_lim (t : Int) (c : Int × Int) : withL [] t c = limL t c := by unfold withL limL lastV; simp
theorem sliS_mk {w : World} {a : Option Addr} {cap : Nat} {l : List Sg} (h1 : l.length ≤ cap) (h2 : cap ≤ 9223372036854775807) (h3 : ArgS w a l) : SliS w (.slice a l.length cap) l := ⟨a, cap, rfl, h1, h2, h3⟩
/-- The limit, from far back on. -/
def SliP1 (now : Int) (c : Int × Int) : Value → World → Prop := fun v w => SliS w v (limL now c)
theorem stab_sliP1 (now : Int) (c : Int × Int) : Stab (SliP1 now c) := fun _ _ _ h hb => h.past hb
theorem flat_c (m c : Int) (w : World) : Calls Tryz.prog 82 #[V m c] w fun e w' => ∃ v, e = .returned v ∧ SliS w' v (limL (-1125899906842624) (m, c)) ∧ Below w.heap.size w w' := by
  have HW := hidE (fun (w' : World) => rwith_c [] (.slice none 0 0) w'.heap.size (-1125899906842624) m c w' (Nat.le_refl _) (by simp) (World.ownsRow_nil _ _ _ _))
  go_enter Tryz.func82, Tryz.ntmps82
  go_wp2_with fail
  ((with_reducible refine (HW.out _).mono ?_); rintro e w1 ⟨v1, rfl, ho, hg⟩)
  rw [withL_lim] at ho
  have hb1 : Below w.heap.size w w1 := by
    have : Below (w.alloc (Obj.cells #[.int .i64 m, .int .i64 c] 65)).heap.size (w.alloc (Obj.cells #[.int .i64 m, .int .i64 c] 65)) w1 := ⟨hg.os, hg.tape, hg.output, hg.size, fun k hk => hg.block k hk (by simp [Value.ownBlock])⟩
    exact bstep this (by (repeat (first | exact Below.refl _ _ | assumption | refine balloc ?_ _ | refine below_drewN ?_ _ | refine bstep (by assumption) ?_ | refine bstep (Past.prop _) ?_ | refine Below.setCell ?_ (by first | exact Nat.le_refl _ | (simp; done) | (simp; omega)) _)))
  have hs := sliS_own ho
  clear ho hg
  go_wp2
  go_ret
  exact ⟨_, rfl, hs, hb1⟩
end Go.Proofs.YthlepbbdjmmelaaGreat

namespace Go.Proofs.YthlepbbdjmmelaaGreat
open Go.ChangeShapes Go.WideShapes Go.ChangeAt Go.RowKit
attribute [local irreducible] Go.Calls

abbrev D3 (r : Int × Bool × Int) : Value := .tuple #[.int .i64 r.1, .bool r.2.1, .int .i64 r.2.2]
abbrev PB' (k a b n : Int) : Array Value := #[.int .u8 k, .int .i64 a, .int .i64 b, .int .i64 n]
abbrev F3' (a1 a2 a3 : Option Addr) (n1 c1 n2 c2 n3 c3 : Nat) : Array Value := #[.slice a1 n1 c1, .slice a2 n2 c2, .slice a3 n3 c3]
set_option maxRecDepth 100000 in
set_option maxHeartbeats 4000000 in
theorem r13chk_c {F G H : List Sg} (k a b n now : Int) (a1 a2 a3 : Option Addr) (n1 c1 n2 c2 n3 c3 : Nat) (w : World) (hk : 0 ≤ k ∧ k ≤ 255) (S1 : SliS w (.slice a1 n1 c1) F) (S2 : SliS w (.slice a2 n2 c2) G) (S3 : SliS w (.slice a3 n3 c3) H) (h1 : n1 ≤ 100000000) (h2 : n2 ≤ 100000000) (h3 : n3 ≤ 100000000) :
    Calls Tryz.prog 39 #[.agg (PB' k a b n), .int .i64 now, .agg (F3' a1 a2 a3 n1 c1 n2 c2 n3 c3)] w fun e w' => e = .returned (D3 (chkP (k, (a, b), n) now F G H)) ∧ Below w.heap.size w w' := by
  have HS1 := hidE S1; have HS2 := hidE S2; have HS3 := hidE S3
  obtain ⟨w0, hw0⟩ : ∃ w0, w0 = (w.alloc (Obj.cells (PB' k a b n) 84)).alloc (Obj.cells (F3' a1 a2 a3 n1 c1 n2 c2 n3 c3) 85) := ⟨_, rfl⟩
  have B1 : Blk w0 w.heap.size (PB' k a b n) 84 := by rw [hw0]; exact (Blk.made _ _ _).alloc _
  have B2 : Blk w0 (w.heap.size + 1) (F3' a1 a2 a3 n1 c1 n2 c2 n3 c3) 85 := by rw [hw0]; exact Blk.made_at _ _ _ _ (by simp)
  have hb0 : Below w.heap.size w w0 := by rw [hw0]; (repeat (first | exact Below.refl _ _ | assumption | refine balloc ?_ _ | refine below_drewN ?_ _ | refine bstep (by assumption) ?_ | refine bstep (Past.prop _) ?_ | refine Below.setCell ?_ (by first | exact Nat.le_refl _ | (simp; done) | (simp; omega)) _))
  have HB0 := hidE hb0
  have HM1 := hidE (fun b w' (hb : Below w.heap.size w w') (e : mayB F = b) => rmay_s (HS1.out.past hb) (by omega) e)
  have HM2 := hidE (fun b w' (hb : Below w.heap.size w w') (e : mayB G = b) => rmay_s (HS2.out.past hb) (by omega) e)
  have HM3 := hidE (fun b w' (hb : Below w.heap.size w w') (e : mayB H = b) => rmay_s (HS3.out.past hb) (by omega) e)
  clear S1 S2 S3
  cases hp1 : polB (k, (a, b), n)
  · have HE := hidE (chk_arg (x := (k, (a, b), n)) (now := now) (F := F) (G := G) (H := H) (by rw [hp1]; rfl))
    rw [HE.out]
    clear HE HM1 HM2 HM3
    go_enter Tryz.func39, Tryz.ntmps39
    go_upto_region 1 with fail
    rw [← hw0]
    clear hw0
    have b0 := B1.cell 0; have b1 := B1.cell 1; have b2 := B1.cell 2; have b3 := B1.cell 3; have bz := B1.lt; have d0 := B2.cell 0; have d1 := B2.cell 1; have d2 := B2.cell 2; have dz := B2.lt
    simp at b0 b1 b2 b3 d0 d1 d2
    go_wp2_with fail
    ((with_reducible refine (r13may_eq hk hp1).mono ?_); rintro e w1 ⟨rfl, hb1⟩)
    go_wp2
    refine bodyPost_ret (v := D3 (0, false, 2)) (by simp [results, Tryz.results39, go_sem]) rfl ⟨rfl, ?_⟩
    (repeat (first | exact Below.refl _ _ | assumption | refine balloc ?_ _ | refine below_drewN ?_ _ | refine bstep (by assumption) ?_ | refine bstep (Past.prop _) ?_ | refine Below.setCell ?_ (by first | exact Nat.le_refl _ | (simp; done) | (simp; omega)) _))
  by_cases hlo : -1099511627776 ≤ now
  rotate_left
  · have HE := hidE (chk_arg (x := (k, (a, b), n)) (now := now) (F := F) (G := G) (H := H) (by rw [hp1, Bool.true_and]; unfold nowB; exact decide_eq_false (by omega)))
    rw [HE.out]
    clear HE HM1 HM2 HM3
    have q1 : decide (now < -1099511627776) = true := decide_eq_true (by omega)
    clear hlo
    go_enter Tryz.func39, Tryz.ntmps39
    go_upto_region 1 with fail
    rw [← hw0]
    clear hw0
    have b0 := B1.cell 0; have b1 := B1.cell 1; have b2 := B1.cell 2; have b3 := B1.cell 3; have bz := B1.lt; have d0 := B2.cell 0; have d1 := B2.cell 1; have d2 := B2.cell 2; have dz := B2.lt
    simp at b0 b1 b2 b3 d0 d1 d2
    go_wp2_with fail
    ((with_reducible refine (r13may_eq hk hp1).mono ?_); rintro e w1 ⟨rfl, hb1⟩)
    go_wp2
    refine bodyPost_ret (v := D3 (0, false, 2)) (by simp [results, Tryz.results39, go_sem]) rfl ⟨rfl, ?_⟩
    (repeat (first | exact Below.refl _ _ | assumption | refine balloc ?_ _ | refine below_drewN ?_ _ | refine bstep (by assumption) ?_ | refine bstep (Past.prop _) ?_ | refine Below.setCell ?_ (by first | exact Nat.le_refl _ | (simp; done) | (simp; omega)) _))
  by_cases hhi : now ≤ 1099511627776
  rotate_left
  · have HE := hidE (chk_arg (x := (k, (a, b), n)) (now := now) (F := F) (G := G) (H := H) (by rw [hp1, Bool.true_and]; unfold nowB; exact decide_eq_false (by omega)))
    rw [HE.out]
    clear HE HM1 HM2 HM3
    have q1 : decide (now < -1099511627776) = false := decide_eq_false (by omega)
    have q2 : decide (1099511627776 < now) = true := decide_eq_true (by omega)
    clear hlo hhi
    go_enter Tryz.func39, Tryz.ntmps39
    go_upto_region 1 with fail
    rw [← hw0]
    clear hw0
    have b0 := B1.cell 0; have b1 := B1.cell 1; have b2 := B1.cell 2; have b3 := B1.cell 3; have bz := B1.lt; have d0 := B2.cell 0; have d1 := B2.cell 1; have d2 := B2.cell 2; have dz := B2.lt
    simp at b0 b1 b2 b3 d0 d1 d2
    go_wp2_with fail
    ((with_reducible refine (r13may_eq hk hp1).mono ?_); rintro e w1 ⟨rfl, hb1⟩)
    go_wp2
    refine bodyPost_ret (v := D3 (0, false, 2)) (by simp [results, Tryz.results39, go_sem]) rfl ⟨rfl, ?_⟩
    (repeat (first | exact Below.refl _ _ | assumption | refine balloc ?_ _ | refine below_drewN ?_ _ | refine bstep (by assumption) ?_ | refine bstep (Past.prop _) ?_ | refine Below.setCell ?_ (by first | exact Nat.le_refl _ | (simp; done) | (simp; omega)) _))
  have hp2 : nowB now = true := nowB_iff.2 ⟨hlo, hhi⟩
  have hp : (polB (k, (a, b), n) && nowB now) = true := by rw [hp1, hp2]; rfl
  have q1 : decide (now < -1099511627776) = false := decide_eq_false (by omega)
  have q2 : decide (1099511627776 < now) = false := decide_eq_false (by omega)
  clear hlo hhi
  cases e1 : mayB F
  · have hm : (mayB F && mayB G && mayB H) = false := by simp [e1]
    have HE := hidE (chk_form hp hm)
    rw [HE.out]
    clear HE hm hp hp2
    go_enter Tryz.func39, Tryz.ntmps39
    go_upto_region 1 with fail
    rw [← hw0]
    clear hw0
    have b0 := B1.cell 0; have b1 := B1.cell 1; have b2 := B1.cell 2; have b3 := B1.cell 3; have bz := B1.lt; have d0 := B2.cell 0; have d1 := B2.cell 1; have d2 := B2.cell 2; have dz := B2.lt
    simp at b0 b1 b2 b3 d0 d1 d2
    go_wp2_with fail
    ((with_reducible refine (r13may_eq hk hp1).mono ?_); rintro e w1 ⟨rfl, hb1⟩)
    have hB : Below w.heap.size w w1 := bstep hb1 HB0.out
    have B1 := B1.past hb1; have B2 := B2.past hb1
    clear b0 b1 b2 b3 bz d0 d1 d2 dz hb1
    have b0 := B1.cell 0; have b1 := B1.cell 1; have b2 := B1.cell 2; have b3 := B1.cell 3; have bz := B1.lt; have d0 := B2.cell 0; have d1 := B2.cell 1; have d2 := B2.cell 2; have dz := B2.lt
    simp at b0 b1 b2 b3 d0 d1 d2
    go_wp2
    refine wp_loop_rounds 4 ?_
    rw [rounds_succ]
    go_wp2_with fail
    ((with_reducible refine (HM1.out _ _ (by (repeat (first | exact Below.refl _ _ | assumption | refine balloc ?_ _ | refine below_drewN ?_ _ | refine bstep (by assumption) ?_ | refine bstep (Past.prop _) ?_ | refine Below.setCell ?_ (by first | exact Nat.le_refl _ | (simp; done) | (simp; omega)) _))) e1).mono ?_); rintro e w2 ⟨rfl, hb2⟩)
    go_wp2
    refine bodyPost_ret (v := D3 (0, false, 5)) (by simp [results, Tryz.results39, go_sem]) rfl ⟨rfl, ?_⟩
    (repeat (first | exact Below.refl _ _ | assumption | refine balloc ?_ _ | refine below_drewN ?_ _ | refine bstep (by assumption) ?_ | refine bstep (Past.prop _) ?_ | refine Below.setCell ?_ (by first | exact Nat.le_refl _ | (simp; done) | (simp; omega)) _))
  cases e2 : mayB G
  · have hm : (mayB F && mayB G && mayB H) = false := by simp [e1, e2]
    have HE := hidE (chk_form hp hm)
    rw [HE.out]
    clear HE hm hp hp2
    go_enter Tryz.func39, Tryz.ntmps39
    go_upto_region 1 with fail
    rw [← hw0]
    clear hw0
    have b0 := B1.cell 0; have b1 := B1.cell 1; have b2 := B1.cell 2; have b3 := B1.cell 3; have bz := B1.lt; have d0 := B2.cell 0; have d1 := B2.cell 1; have d2 := B2.cell 2; have dz := B2.lt
    simp at b0 b1 b2 b3 d0 d1 d2
    go_wp2_with fail
    ((with_reducible refine (r13may_eq hk hp1).mono ?_); rintro e w1 ⟨rfl, hb1⟩)
    have hB : Below w.heap.size w w1 := bstep hb1 HB0.out
    have B1 := B1.past hb1; have B2 := B2.past hb1
    clear b0 b1 b2 b3 bz d0 d1 d2 dz hb1
    have b0 := B1.cell 0; have b1 := B1.cell 1; have b2 := B1.cell 2; have b3 := B1.cell 3; have bz := B1.lt; have d0 := B2.cell 0; have d1 := B2.cell 1; have d2 := B2.cell 2; have dz := B2.lt
    simp at b0 b1 b2 b3 d0 d1 d2
    go_wp2
    refine wp_loop_rounds 4 ?_
    rw [rounds_succ]
    go_wp2_with fail
    ((with_reducible refine (HM1.out _ _ (by (repeat (first | exact Below.refl _ _ | assumption | refine balloc ?_ _ | refine below_drewN ?_ _ | refine bstep (by assumption) ?_ | refine bstep (Past.prop _) ?_ | refine Below.setCell ?_ (by first | exact Nat.le_refl _ | (simp; done) | (simp; omega)) _))) e1).mono ?_); rintro e w2 ⟨rfl, hb2⟩)
    have hB : Below w.heap.size w w2 := bstep hb2 hB
    have B1 := B1.past hb2; have B2 := B2.past hb2
    clear b0 b1 b2 b3 bz d0 d1 d2 dz hb2
    have b0 := B1.cell 0; have b1 := B1.cell 1; have b2 := B1.cell 2; have b3 := B1.cell 3; have bz := B1.lt; have d0 := B2.cell 0; have d1 := B2.cell 1; have d2 := B2.cell 2; have dz := B2.lt
    simp at b0 b1 b2 b3 d0 d1 d2
    go_wp2
    rw [rounds_succ]
    go_wp2_with fail
    ((with_reducible refine (HM2.out _ _ (by (repeat (first | exact Below.refl _ _ | assumption | refine balloc ?_ _ | refine below_drewN ?_ _ | refine bstep (by assumption) ?_ | refine bstep (Past.prop _) ?_ | refine Below.setCell ?_ (by first | exact Nat.le_refl _ | (simp; done) | (simp; omega)) _))) e2).mono ?_); rintro e w3 ⟨rfl, hb3⟩)
    go_wp2
    refine bodyPost_ret (v := D3 (0, false, 5)) (by simp [results, Tryz.results39, go_sem]) rfl ⟨rfl, ?_⟩
    (repeat (first | exact Below.refl _ _ | assumption | refine balloc ?_ _ | refine below_drewN ?_ _ | refine bstep (by assumption) ?_ | refine bstep (Past.prop _) ?_ | refine Below.setCell ?_ (by first | exact Nat.le_refl _ | (simp; done) | (simp; omega)) _))
  cases e3 : mayB H
  · have hm : (mayB F && mayB G && mayB H) = false := by simp [e1, e2, e3]
    have HE := hidE (chk_form hp hm)
    rw [HE.out]
    clear HE hm hp hp2
    go_enter Tryz.func39, Tryz.ntmps39
    go_upto_region 1 with fail
    rw [← hw0]
    clear hw0
    have b0 := B1.cell 0; have b1 := B1.cell 1; have b2 := B1.cell 2; have b3 := B1.cell 3; have bz := B1.lt; have d0 := B2.cell 0; have d1 := B2.cell 1; have d2 := B2.cell 2; have dz := B2.lt
    simp at b0 b1 b2 b3 d0 d1 d2
    go_wp2_with fail
    ((with_reducible refine (r13may_eq hk hp1).mono ?_); rintro e w1 ⟨rfl, hb1⟩)
    have hB : Below w.heap.size w w1 := bstep hb1 HB0.out
    have B1 := B1.past hb1; have B2 := B2.past hb1
    clear b0 b1 b2 b3 bz d0 d1 d2 dz hb1
    have b0 := B1.cell 0; have b1 := B1.cell 1; have b2 := B1.cell 2; have b3 := B1.cell 3; have bz := B1.lt; have d0 := B2.cell 0; have d1 := B2.cell 1; have d2 := B2.cell 2; have dz := B2.lt
    simp at b0 b1 b2 b3 d0 d1 d2
    go_wp2
    refine wp_loop_rounds 4 ?_
    rw [rounds_succ]
    go_wp2_with fail
    ((with_reducible refine (HM1.out _ _ (by (repeat (first | exact Below.refl _ _ | assumption | refine balloc ?_ _ | refine below_drewN ?_ _ | refine bstep (by assumption) ?_ | refine bstep (Past.prop _) ?_ | refine Below.setCell ?_ (by first | exact Nat.le_refl _ | (simp; done) | (simp; omega)) _))) e1).mono ?_); rintro e w2 ⟨rfl, hb2⟩)
    have hB : Below w.heap.size w w2 := bstep hb2 hB
    have B1 := B1.past hb2; have B2 := B2.past hb2
    clear b0 b1 b2 b3 bz d0 d1 d2 dz hb2
    have b0 := B1.cell 0; have b1 := B1.cell 1; have b2 := B1.cell 2; have b3 := B1.cell 3; have bz := B1.lt; have d0 := B2.cell 0; have d1 := B2.cell 1; have d2 := B2.cell 2; have dz := B2.lt
    simp at b0 b1 b2 b3 d0 d1 d2
    go_wp2
    rw [rounds_succ]
    go_wp2_with fail
    ((with_reducible refine (HM2.out _ _ (by (repeat (first | exact Below.refl _ _ | assumption | refine balloc ?_ _ | refine below_drewN ?_ _ | refine bstep (by assumption) ?_ | refine bstep (Past.prop _) ?_ | refine Below.setCell ?_ (by first | exact Nat.le_refl _ | (simp; done) | (simp; omega)) _))) e2).mono ?_); rintro e w3 ⟨rfl, hb3⟩)
    have hB : Below w.heap.size w w3 := bstep hb3 hB
    have B1 := B1.past hb3; have B2 := B2.past hb3
    clear b0 b1 b2 b3 bz d0 d1 d2 dz hb3
    have b0 := B1.cell 0; have b1 := B1.cell 1; have b2 := B1.cell 2; have b3 := B1.cell 3; have bz := B1.lt; have d0 := B2.cell 0; have d1 := B2.cell 1; have d2 := B2.cell 2; have dz := B2.lt
    simp at b0 b1 b2 b3 d0 d1 d2
    go_wp2
    rw [rounds_succ]
    go_wp2_with fail
    ((with_reducible refine (HM3.out _ _ (by (repeat (first | exact Below.refl _ _ | assumption | refine balloc ?_ _ | refine below_drewN ?_ _ | refine bstep (by assumption) ?_ | refine bstep (Past.prop _) ?_ | refine Below.setCell ?_ (by first | exact Nat.le_refl _ | (simp; done) | (simp; omega)) _))) e3).mono ?_); rintro e w4 ⟨rfl, hb4⟩)
    go_wp2
    refine bodyPost_ret (v := D3 (0, false, 5)) (by simp [results, Tryz.results39, go_sem]) rfl ⟨rfl, ?_⟩
    (repeat (first | exact Below.refl _ _ | assumption | refine balloc ?_ _ | refine below_drewN ?_ _ | refine bstep (by assumption) ?_ | refine bstep (Past.prop _) ?_ | refine Below.setCell ?_ (by first | exact Nat.le_refl _ | (simp; done) | (simp; omega)) _))
  have hm : (mayB F && mayB G && mayB H) = true := by simp [e1, e2, e3]
  have HE := hidE (chk_ok hp hm)
  rw [HE.out]
  have HFAR := hidE (fun (hc : capB (a, b) = true) => leP_far (c := (a, b)) e3 hp2 hc)
  have HLF := hidE (leS_of F G now e1 e2)
  have HLG := hidE (fun (hc : capB (a, b) = true) => leS_of H (limL (-1125899906842624) (a, b)) now e3 (limL_may (by decide) hc))
  have hk3 := pol_kind hp1
  simp only at hk3
  clear HE hm hp hp2
  go_enter Tryz.func39, Tryz.ntmps39
  go_upto_region 1 with fail
  rw [← hw0]
  clear hw0
  have b0 := B1.cell 0; have b1 := B1.cell 1; have b2 := B1.cell 2; have b3 := B1.cell 3; have bz := B1.lt; have d0 := B2.cell 0; have d1 := B2.cell 1; have d2 := B2.cell 2; have dz := B2.lt
  simp at b0 b1 b2 b3 d0 d1 d2
  go_wp2_with fail
  ((with_reducible refine (r13may_eq hk hp1).mono ?_); rintro e w1 ⟨rfl, hb1⟩)
  have hB : Below w.heap.size w w1 := bstep hb1 HB0.out
  have B1 := B1.past hb1; have B2 := B2.past hb1
  clear b0 b1 b2 b3 bz d0 d1 d2 dz hb1
  have b0 := B1.cell 0; have b1 := B1.cell 1; have b2 := B1.cell 2; have b3 := B1.cell 3; have bz := B1.lt; have d0 := B2.cell 0; have d1 := B2.cell 1; have d2 := B2.cell 2; have dz := B2.lt
  simp at b0 b1 b2 b3 d0 d1 d2
  go_wp2
  refine wp_loop_rounds 4 ?_
  rw [rounds_succ]
  go_wp2_with fail
  ((with_reducible refine (HM1.out _ _ (by (repeat (first | exact Below.refl _ _ | assumption | refine balloc ?_ _ | refine below_drewN ?_ _ | refine bstep (by assumption) ?_ | refine bstep (Past.prop _) ?_ | refine Below.setCell ?_ (by first | exact Nat.le_refl _ | (simp; done) | (simp; omega)) _))) e1).mono ?_); rintro e w2 ⟨rfl, hb2⟩)
  have hB : Below w.heap.size w w2 := bstep hb2 hB
  have B1 := B1.past hb2; have B2 := B2.past hb2
  clear b0 b1 b2 b3 bz d0 d1 d2 dz hb2
  have b0 := B1.cell 0; have b1 := B1.cell 1; have b2 := B1.cell 2; have b3 := B1.cell 3; have bz := B1.lt; have d0 := B2.cell 0; have d1 := B2.cell 1; have d2 := B2.cell 2; have dz := B2.lt
  simp at b0 b1 b2 b3 d0 d1 d2
  go_wp2
  rw [rounds_succ]
  go_wp2_with fail
  ((with_reducible refine (HM2.out _ _ (by (repeat (first | exact Below.refl _ _ | assumption | refine balloc ?_ _ | refine below_drewN ?_ _ | refine bstep (by assumption) ?_ | refine bstep (Past.prop _) ?_ | refine Below.setCell ?_ (by first | exact Nat.le_refl _ | (simp; done) | (simp; omega)) _))) e2).mono ?_); rintro e w3 ⟨rfl, hb3⟩)
  have hB : Below w.heap.size w w3 := bstep hb3 hB
  have B1 := B1.past hb3; have B2 := B2.past hb3
  clear b0 b1 b2 b3 bz d0 d1 d2 dz hb3
  have b0 := B1.cell 0; have b1 := B1.cell 1; have b2 := B1.cell 2; have b3 := B1.cell 3; have bz := B1.lt; have d0 := B2.cell 0; have d1 := B2.cell 1; have d2 := B2.cell 2; have dz := B2.lt
  simp at b0 b1 b2 b3 d0 d1 d2
  go_wp2
  rw [rounds_succ]
  go_wp2_with fail
  ((with_reducible refine (HM3.out _ _ (by (repeat (first | exact Below.refl _ _ | assumption | refine balloc ?_ _ | refine below_drewN ?_ _ | refine bstep (by assumption) ?_ | refine bstep (Past.prop _) ?_ | refine Below.setCell ?_ (by first | exact Nat.le_refl _ | (simp; done) | (simp; omega)) _))) e3).mono ?_); rintro e w4 ⟨rfl, hb4⟩)
  have hB : Below w.heap.size w w4 := bstep hb4 hB
  have B1 := B1.past hb4; have B2 := B2.past hb4
  clear b0 b1 b2 b3 bz d0 d1 d2 dz hb4
  have b0 := B1.cell 0; have b1 := B1.cell 1; have b2 := B1.cell 2; have b3 := B1.cell 3; have bz := B1.lt; have d0 := B2.cell 0; have d1 := B2.cell 1; have d2 := B2.cell 2; have dz := B2.lt
  simp at b0 b1 b2 b3 d0 d1 d2
  go_wp2
  rw [rounds_succ]
  have hB' := hidE hB
  clear HM1 HM2 HM3 e1 e2 e3 q1 q2
  rcases hk3 with ⟨rfl, hz⟩ | ⟨rfl, hc, hz⟩ | ⟨rfl, hc, hn1, hn2⟩
  · clear hz HFAR HLG
    have er : ansP (0, (a, b), n) now F G H = leP F G now := rfl
    have ER := hidE er
    clear er
    go_wp2_with fail
    ((with_reducible refine (rle_s (F := F) (G := G) (HS1.out.past hB'.out) (HS2.out.past hB'.out) (by omega) HLF.out).mono ?_); rintro e w5 ⟨rfl, hb5⟩)
    go_wp2
    refine bodyPost_ret (v := D3 ((leP F G now).1, (leP F G now).2, 0)) (by simp [results, Tryz.results39, go_sem]) rfl ⟨by rw [ER.out], ?_⟩
    (repeat (first | exact Below.refl _ _ | assumption | refine balloc ?_ _ | refine below_drewN ?_ _ | refine bstep (by assumption) ?_ | refine bstep (Past.prop _) ?_ | refine Below.setCell ?_ (by first | exact Nat.le_refl _ | (simp; done) | (simp; omega)) _))
  · clear hz
    have er : ansP (1, (a, b), n) now F G H = leP H (limL (-1125899906842624) (a, b)) now := (HFAR.out hc).symm ▸ rfl
    have ER := hidE er
    have HL := hidE (HLG.out hc)
    clear er HFAR HLG HLF hc
    generalize leP H (limL (-1125899906842624) (a, b)) now = g at *
    go_wp2_with fail
    refine wp_region_J 11 [9, 10] (nthR [detR (.pointer (some ⟨w.heap.size + 1, 2, none⟩)), detR (.slice a3 n3 c3), detR (.pointer (some ⟨w.heap.size, 1, none⟩)), detR (V a b), SliP1 (-1125899906842624) (a, b), detR (.int .i64 now), detR (.tuple #[.int .i64 g.1, .bool g.2, .int .i64 0]), detR (.tuple #[.int .i64 g.1, .bool g.2, .int .i64 0]), detR (.int .i64 g.1), detR (.bool g.2), detR (.int .i64 0)]) (fun _ => false) (by kernel_rfl) (by simp) (by kernel_rfl) (stab_nth (by simp [stab_det, stab_sliP1])) ?_ ?_ ?_
    · intro i o hi ho
      match i, hi with
      | 0, _ =>
        obtain rfl := Option.some.inj ho
        intro u x hd
        have hc := Past.cell x
        simp [go_sem, gives, frm, Act.put, nthR, detR, Region.wanted, Below.refl]
      | 1, _ =>
        obtain rfl := Option.some.inj ho
        intro u x hd
        have hc := Past.cell x
        have d0 := hd 0 (by decide) (by kernel_rfl)
        simp only [nthR, detR, List.getD_cons_zero] at d0
        simp [go_sem, gives, frm, Act.put, nthR, detR, Region.wanted, Below.refl, hc, d0, d2, dz]
      | 2, _ =>
        obtain rfl := Option.some.inj ho
        intro u x hd
        have hc := Past.cell x
        simp [go_sem, gives, frm, Act.put, nthR, detR, Region.wanted, Below.refl]
      | 3, _ =>
        obtain rfl := Option.some.inj ho
        intro u x hd
        have hc := Past.cell x
        have d2 := hd 2 (by decide) (by kernel_rfl)
        simp only [nthR, detR, List.getD_cons_zero, List.getD_cons_succ] at d2
        simp [go_sem, gives, frm, Act.put, nthR, detR, Region.wanted, Below.refl, hc, d2, b1, b2, bz]
      | 4, _ =>
        obtain rfl := Option.some.inj ho
        intro u x hd
        have hc := Past.cell x
        have d3 := hd 3 (by decide) (by kernel_rfl)
        simp only [nthR, detR, List.getD_cons_zero, List.getD_cons_succ] at d3
        simp [go_sem, gives, frm, Act.put, nthR, Region.wanted, d3]
        (with_reducible refine (flat_c _ _ _).mono ?_); rintro e w5 ⟨v, rfl, hs, hb⟩; exact ⟨v, rfl, hb, hs⟩
      | 5, _ =>
        obtain rfl := Option.some.inj ho
        intro u x hd
        have hc := Past.cell x
        simp [go_sem, gives, frm, Act.put, nthR, detR, Region.wanted, Below.refl]
      | 6, _ =>
        obtain rfl := Option.some.inj ho
        intro u x hd
        have hc := Past.cell x
        have d1 := hd 1 (by decide) (by kernel_rfl)
        obtain ⟨q4, m4, hv4, hl4, hc4, ha4⟩ := hd 4 (by decide) (by kernel_rfl)
        have d5 := hd 5 (by decide) (by kernel_rfl)
        simp only [nthR, detR, List.getD_cons_zero, List.getD_cons_succ] at d1 d5
        simp [go_sem, gives, frm, Act.put, nthR, detR, Region.wanted, d1, d5, hv4]
        (with_reducible refine (rle_s (F := H) (G := limL (-1125899906842624) (a, b)) (HS3.out.past (bstep (Past.prop x) hB'.out)) (sliS_mk (l := limL (-1125899906842624) (a, b)) hl4 hc4 ha4) (by have := limL_len (-1125899906842624) (a, b); omega) HL.out).mono ?_); rintro e w5 ⟨rfl, hb⟩; exact ⟨rfl, hb⟩
      | 7, _ =>
        obtain rfl := Option.some.inj ho
        intro u x hd
        have hc := Past.cell x
        have d6 := hd 6 (by decide) (by kernel_rfl)
        simp only [nthR, detR, List.getD_cons_zero, List.getD_cons_succ] at d6
        simp [go_sem, gives, frm, Act.put, nthR, detR, Region.wanted, Below.refl, d6]
      | 8, _ =>
        obtain rfl := Option.some.inj ho
        intro u x hd
        have hc := Past.cell x
        have d7 := hd 7 (by decide) (by kernel_rfl)
        simp only [nthR, detR, List.getD_cons_zero, List.getD_cons_succ] at d7
        simp [go_sem, gives, frm, Act.put, nthR, detR, Region.wanted, Below.refl, d7]
      | 9, _ =>
        obtain rfl := Option.some.inj ho
        intro u x hd
        have hc := Past.cell x
        have d7 := hd 7 (by decide) (by kernel_rfl)
        simp only [nthR, detR, List.getD_cons_zero, List.getD_cons_succ] at d7
        simp [go_sem, gives, frm, Act.put, nthR, detR, Region.wanted, Below.refl, d7]
      | 10, _ =>
        obtain rfl := Option.some.inj ho
        intro u x hd
        have hc := Past.cell x
        have d7 := hd 7 (by decide) (by kernel_rfl)
        simp only [nthR, detR, List.getD_cons_zero, List.getD_cons_succ] at d7
        simp [go_sem, gives, frm, Act.put, nthR, detR, Region.wanted, Below.refl, d7]
      | i + 11, h => exact absurd h (by omega)
    · intro i o hx ho
      simp only [List.mem_cons, List.not_mem_nil, or_false] at hx
      rcases hx with rfl | rfl
      · obtain rfl := Option.some.inj ho
        refine ⟨rfl, fun _ _ _ _ h => h, fun u x hd => ?_⟩
        have d7 := hd 7 (by decide) (by kernel_rfl)
        simp only [nthR, detR, List.getD_cons_zero, List.getD_cons_succ] at d7
        refine ⟨rfl, .bool g.2, rfl, fun w' => ?_⟩
        simp [go_sem, frm, Act.put, d7]
      · obtain rfl := Option.some.inj ho
        refine ⟨rfl, fun _ _ _ _ h => h, fun u x hd => ?_⟩
        have d7 := hd 7 (by decide) (by kernel_rfl)
        simp only [nthR, detR, List.getD_cons_zero, List.getD_cons_succ] at d7
        refine ⟨rfl, .int .i64 0, rfl, fun w' => ?_⟩
        simp [go_sem, frm, Act.put, d7]
    · intro u x hu hne
      have d10 := hu 10 (by decide); have d8 := hu 8 (by decide); have d9 := hu 9 (by decide)
      simp only [nthR, detR, List.getD_cons_zero, List.getD_cons_succ] at d8 d9 d10
      have hbx := x.2
      simp only [frm, List.take, Act.put, d8, d9, d10]
      clear hu hne d8 d9 d10
      generalize x.1 = w6 at *
      have B1 := B1.past hbx; have B2 := B2.past hbx
      go_wp2
      refine bodyPost_ret (v := D3 (g.1, g.2, 0)) (by simp [results, Tryz.results39, go_sem]) rfl ⟨by rw [ER.out], ?_⟩
      (repeat (first | exact Below.refl _ _ | assumption | refine balloc ?_ _ | refine below_drewN ?_ _ | refine bstep (by assumption) ?_ | refine bstep (Past.prop _) ?_ | refine Below.setCell ?_ (by first | exact Nat.le_refl _ | (simp; done) | (simp; omega)) _))
  · clear HFAR HLG HLF
    have hs := scl_wide hc hn1 hn2
    have h64 := capB_iff.1 hc
    simp only at h64
    have er : ansP (2, (a, b), n) now F G H = ovP H now n (wide (a, b) n) := rfl
    have ER := hidE er
    obtain ⟨l1, l2, hw⟩ : ∃ l1 l2, wide (a, b) n = (l1, l2) := ⟨_, _, rfl⟩
    rw [hw] at hs
    simp only at hs
    have HSC := hidE (fun w' => hs ▸ rscl a b n w' (by omega) (by omega) (by omega))
    have HO := hidE hw
    clear hs hw er hc hn1 hn2 h64
    go_wp2_with fail
    ((with_reducible refine (HSC.out _).mono ?_); rintro e w5 ⟨rfl, hb5⟩)
    have B1 := B1.past hb5; have B2 := B2.past hb5
    have hB : Below w.heap.size w w5 := bstep hb5 hB'.out
    have hB5 := hidE hB
    clear b0 b1 b2 b3 bz d0 d1 d2 dz
    have b0 := B1.cell 0; have b1 := B1.cell 1; have b2 := B1.cell 2; have b3 := B1.cell 3; have bz := B1.lt; have d0 := B2.cell 0; have d1 := B2.cell 1; have d2 := B2.cell 2; have dz := B2.lt
    simp at b0 b1 b2 b3 d0 d1 d2
    go_wp2_with fail
    ((with_reducible refine (rover_s (F := H) (HS3.out.past (by have := hB5.out; (repeat (first | exact Below.refl _ _ | assumption | refine balloc ?_ _ | refine below_drewN ?_ _ | refine bstep (by assumption) ?_ | refine bstep (Past.prop _) ?_ | refine Below.setCell ?_ (by first | exact Nat.le_refl _ | (simp; done) | (simp; omega)) _)))) (by omega) rfl).mono ?_); rintro e w6 ⟨rfl, hb6⟩)
    go_wp2
    refine bodyPost_ret (v := D3 ((ovP H now n (l1, l2)).1, (ovP H now n (l1, l2)).2, 0)) (by simp [results, Tryz.results39, go_sem, ovP]) rfl ⟨by rw [ER.out, HO.out], ?_⟩
    (repeat (first | exact Below.refl _ _ | assumption | refine balloc ?_ _ | refine below_drewN ?_ _ | refine bstep (by assumption) ?_ | refine bstep (Past.prop _) ?_ | refine Below.setCell ?_ (by first | exact Nat.le_refl _ | (simp; done) | (simp; omega)) _))
end Go.Proofs.YthlepbbdjmmelaaGreat

namespace Go.Proofs.YthlepbbdjmmelaaGreat
open Go.ChangeShapes Go.WideShapes Go.ChangeAt Go.RowKit
attribute [local irreducible] Go.Calls

set_option maxRecDepth 100000 in
set_option maxHeartbeats 4000000 in
theorem pogreat_c {H : List Sg} (k a b n now : Int) (a1 a2 a3 : Option Addr) (n1 c1 n2 c2 n3 c3 : Nat) (w : World) (S3 : SliS w (.slice a3 n3 c3) H) :
    Calls Tryz.prog 36 #[.agg #[.int .u8 k, .int .i64 a, .int .i64 b, .int .i64 n], .int .i64 now, .agg #[.slice a1 n1 c1, .slice a2 n2 c2, .slice a3 n3 c3]] w (RetB w fun r => r = false → n1 ≤ 30 ∧ n2 ≤ 30 ∧ n3 ≤ 30) := by
  have HS3 := hidE S3
  clear S3
  obtain ⟨w0, hw0⟩ : ∃ w0, w0 = (w.alloc (Obj.cells #[.int .u8 k, .int .i64 a, .int .i64 b, .int .i64 n] 84)).alloc (Obj.cells #[.slice a1 n1 c1, .slice a2 n2 c2, .slice a3 n3 c3] 85) := ⟨_, rfl⟩
  have B1 : Blk w0 w.heap.size #[.int .u8 k, .int .i64 a, .int .i64 b, .int .i64 n] 84 := by rw [hw0]; exact (Blk.made _ _ _).alloc _
  have B2 : Blk w0 (w.heap.size + 1) #[.slice a1 n1 c1, .slice a2 n2 c2, .slice a3 n3 c3] 85 := by rw [hw0]; exact Blk.made_at _ _ _ _ (by simp)
  have hb0 : Below w.heap.size w w0 := by rw [hw0]; (repeat (first | exact Below.refl _ _ | assumption | refine balloc ?_ _ | refine below_drewN ?_ _ | refine bstep (by assumption) ?_ | refine bstep (Past.prop _) ?_ | refine Below.setCell ?_ (by first | exact Nat.le_refl _ | (simp; done) | (simp; omega)) _))
  go_enter Tryz.func36, Tryz.ntmps36
  go_upto_region 1 with fail
  rw [← hw0]
  clear hw0
  have b0 := B1.cell 0; have b1 := B1.cell 1; have b2 := B1.cell 2; have b3 := B1.cell 3; have bz := B1.lt; have d0 := B2.cell 0; have d1 := B2.cell 1; have d2 := B2.cell 2; have dz := B2.lt
  simp at b0 b1 b2 b3 d0 d1 d2
  by_cases h1 : 30 < n1
  · skip
    have e0 : decide ((30 : Int) < (n1 : Int)) = true := decide_eq_true (by omega)
    go_wp2
    go_ret
    exact ⟨_, rfl, fun h => (by cases h), by (repeat (first | exact Below.refl _ _ | assumption | refine balloc ?_ _ | refine below_drewN ?_ _ | refine bstep (by assumption) ?_ | refine bstep (Past.prop _) ?_ | refine Below.setCell ?_ (by first | exact Nat.le_refl _ | (simp; done) | (simp; omega)) _))⟩
  by_cases h2 : 30 < n2
  · skip
    have e0 : decide ((30 : Int) < (n1 : Int)) = false := decide_eq_false (by omega)
    have e1 : decide ((30 : Int) < (n2 : Int)) = true := decide_eq_true (by omega)
    go_wp2
    go_ret
    exact ⟨_, rfl, fun h => (by cases h), by (repeat (first | exact Below.refl _ _ | assumption | refine balloc ?_ _ | refine below_drewN ?_ _ | refine bstep (by assumption) ?_ | refine bstep (Past.prop _) ?_ | refine Below.setCell ?_ (by first | exact Nat.le_refl _ | (simp; done) | (simp; omega)) _))⟩
  by_cases h3 : 30 < n3
  · skip
    have e0 : decide ((30 : Int) < (n1 : Int)) = false := decide_eq_false (by omega)
    have e1 : decide ((30 : Int) < (n2 : Int)) = false := decide_eq_false (by omega)
    have e2 : decide ((30 : Int) < (n3 : Int)) = true := decide_eq_true (by omega)
    go_wp2
    go_ret
    exact ⟨_, rfl, fun h => (by cases h), by (repeat (first | exact Below.refl _ _ | assumption | refine balloc ?_ _ | refine below_drewN ?_ _ | refine bstep (by assumption) ?_ | refine bstep (Past.prop _) ?_ | refine Below.setCell ?_ (by first | exact Nat.le_refl _ | (simp; done) | (simp; omega)) _))⟩
  by_cases h4 : 60 < n
  · by_cases h5 : n ≤ 4096
    · skip
      have e0 : decide ((30 : Int) < (n1 : Int)) = false := decide_eq_false (by omega)
      have e1 : decide ((30 : Int) < (n2 : Int)) = false := decide_eq_false (by omega)
      have e2 : decide ((30 : Int) < (n3 : Int)) = false := decide_eq_false (by omega)
      have e3 : decide (60 < n) = true := decide_eq_true (by omega)
      have e4 : decide (n ≤ 4096) = true := decide_eq_true (by omega)
      go_wp2
      go_ret
      exact ⟨_, rfl, fun h => (by cases h), by (repeat (first | exact Below.refl _ _ | assumption | refine balloc ?_ _ | refine below_drewN ?_ _ | refine bstep (by assumption) ?_ | refine bstep (Past.prop _) ?_ | refine Below.setCell ?_ (by first | exact Nat.le_refl _ | (simp; done) | (simp; omega)) _))⟩
    · skip
      by_cases h6 : -1099511627776 ≤ now
      · by_cases h7 : now ≤ 1099511627776
        · skip
          have e0 : decide ((30 : Int) < (n1 : Int)) = false := decide_eq_false (by omega)
          have e1 : decide ((30 : Int) < (n2 : Int)) = false := decide_eq_false (by omega)
          have e2 : decide ((30 : Int) < (n3 : Int)) = false := decide_eq_false (by omega)
          have e3 : decide (60 < n) = true := decide_eq_true (by omega)
          have e4 : decide (n ≤ 4096) = false := decide_eq_false (by omega)
          have e5 : decide (-1099511627776 ≤ now) = true := decide_eq_true (by omega)
          have e6 : decide (now ≤ 1099511627776) = true := decide_eq_true (by omega)
          go_wp2_with fail
          ((with_reducible refine (rnear_s (F := H) (HS3.out.past hb0) (by omega) (by omega) (by omega) rfl).mono ?_); rintro e w2 ⟨rfl, hb2⟩)
          go_wp2
          go_ret
          exact ⟨_, rfl, fun _ => ⟨by omega, by omega, by omega⟩, by (repeat (first | exact Below.refl _ _ | assumption | refine balloc ?_ _ | refine below_drewN ?_ _ | refine bstep (by assumption) ?_ | refine bstep (Past.prop _) ?_ | refine Below.setCell ?_ (by first | exact Nat.le_refl _ | (simp; done) | (simp; omega)) _))⟩
        · skip
          have e0 : decide ((30 : Int) < (n1 : Int)) = false := decide_eq_false (by omega)
          have e1 : decide ((30 : Int) < (n2 : Int)) = false := decide_eq_false (by omega)
          have e2 : decide ((30 : Int) < (n3 : Int)) = false := decide_eq_false (by omega)
          have e3 : decide (60 < n) = true := decide_eq_true (by omega)
          have e4 : decide (n ≤ 4096) = false := decide_eq_false (by omega)
          have e5 : decide (-1099511627776 ≤ now) = true := decide_eq_true (by omega)
          have e6 : decide (now ≤ 1099511627776) = false := decide_eq_false (by omega)
          go_wp2
          go_ret
          exact ⟨_, rfl, fun _ => ⟨by omega, by omega, by omega⟩, by (repeat (first | exact Below.refl _ _ | assumption | refine balloc ?_ _ | refine below_drewN ?_ _ | refine bstep (by assumption) ?_ | refine bstep (Past.prop _) ?_ | refine Below.setCell ?_ (by first | exact Nat.le_refl _ | (simp; done) | (simp; omega)) _))⟩
      · skip
        have e0 : decide ((30 : Int) < (n1 : Int)) = false := decide_eq_false (by omega)
        have e1 : decide ((30 : Int) < (n2 : Int)) = false := decide_eq_false (by omega)
        have e2 : decide ((30 : Int) < (n3 : Int)) = false := decide_eq_false (by omega)
        have e3 : decide (60 < n) = true := decide_eq_true (by omega)
        have e4 : decide (n ≤ 4096) = false := decide_eq_false (by omega)
        have e5 : decide (-1099511627776 ≤ now) = false := decide_eq_false (by omega)
        go_wp2
        go_ret
        exact ⟨_, rfl, fun _ => ⟨by omega, by omega, by omega⟩, by (repeat (first | exact Below.refl _ _ | assumption | refine balloc ?_ _ | refine below_drewN ?_ _ | refine bstep (by assumption) ?_ | refine bstep (Past.prop _) ?_ | refine Below.setCell ?_ (by first | exact Nat.le_refl _ | (simp; done) | (simp; omega)) _))⟩
  · skip
    by_cases h6 : -1099511627776 ≤ now
    · by_cases h7 : now ≤ 1099511627776
      · skip
        have e0 : decide ((30 : Int) < (n1 : Int)) = false := decide_eq_false (by omega)
        have e1 : decide ((30 : Int) < (n2 : Int)) = false := decide_eq_false (by omega)
        have e2 : decide ((30 : Int) < (n3 : Int)) = false := decide_eq_false (by omega)
        have e3 : decide (60 < n) = false := decide_eq_false (by omega)
        have e4 : decide (-1099511627776 ≤ now) = true := decide_eq_true (by omega)
        have e5 : decide (now ≤ 1099511627776) = true := decide_eq_true (by omega)
        go_wp2_with fail
        ((with_reducible refine (rnear_s (F := H) (HS3.out.past hb0) (by omega) (by omega) (by omega) rfl).mono ?_); rintro e w2 ⟨rfl, hb2⟩)
        go_wp2
        go_ret
        exact ⟨_, rfl, fun _ => ⟨by omega, by omega, by omega⟩, by (repeat (first | exact Below.refl _ _ | assumption | refine balloc ?_ _ | refine below_drewN ?_ _ | refine bstep (by assumption) ?_ | refine bstep (Past.prop _) ?_ | refine Below.setCell ?_ (by first | exact Nat.le_refl _ | (simp; done) | (simp; omega)) _))⟩
      · skip
        have e0 : decide ((30 : Int) < (n1 : Int)) = false := decide_eq_false (by omega)
        have e1 : decide ((30 : Int) < (n2 : Int)) = false := decide_eq_false (by omega)
        have e2 : decide ((30 : Int) < (n3 : Int)) = false := decide_eq_false (by omega)
        have e3 : decide (60 < n) = false := decide_eq_false (by omega)
        have e4 : decide (-1099511627776 ≤ now) = true := decide_eq_true (by omega)
        have e5 : decide (now ≤ 1099511627776) = false := decide_eq_false (by omega)
        go_wp2
        go_ret
        exact ⟨_, rfl, fun _ => ⟨by omega, by omega, by omega⟩, by (repeat (first | exact Below.refl _ _ | assumption | refine balloc ?_ _ | refine below_drewN ?_ _ | refine bstep (by assumption) ?_ | refine bstep (Past.prop _) ?_ | refine Below.setCell ?_ (by first | exact Nat.le_refl _ | (simp; done) | (simp; omega)) _))⟩
    · skip
      have e0 : decide ((30 : Int) < (n1 : Int)) = false := decide_eq_false (by omega)
      have e1 : decide ((30 : Int) < (n2 : Int)) = false := decide_eq_false (by omega)
      have e2 : decide ((30 : Int) < (n3 : Int)) = false := decide_eq_false (by omega)
      have e3 : decide (60 < n) = false := decide_eq_false (by omega)
      have e4 : decide (-1099511627776 ≤ now) = false := decide_eq_false (by omega)
      go_wp2
      go_ret
      exact ⟨_, rfl, fun _ => ⟨by omega, by omega, by omega⟩, by (repeat (first | exact Below.refl _ _ | assumption | refine balloc ?_ _ | refine below_drewN ?_ _ | refine bstep (by assumption) ?_ | refine bstep (Past.prop _) ?_ | refine Below.setCell ?_ (by first | exact Nat.le_refl _ | (simp; done) | (simp; omega)) _))⟩
end Go.Proofs.YthlepbbdjmmelaaGreat

namespace Go.Proofs.YthlepbbdjmmelaaGreat
open Go.ChangeShapes Go.WideShapes Go.ChangeAt Go.RowKit
attribute [local irreducible] Go.Calls

theorem r13chk_eq {F G H : List Sg} {k a b n now : Int} {a1 a2 a3 : Option Addr} {n1 c1 n2 c2 n3 c3 : Nat} {w : World} {r : Int × Bool × Int} (hk : 0 ≤ k ∧ k ≤ 255) (S1 : SliS w (.slice a1 n1 c1) F) (S2 : SliS w (.slice a2 n2 c2) G) (S3 : SliS w (.slice a3 n3 c3) H) (h1 : n1 ≤ 100000000) (h2 : n2 ≤ 100000000) (h3 : n3 ≤ 100000000) (he : chkP (k, (a, b), n) now F G H = r) :
    Calls Tryz.prog 39 #[.agg #[.int .u8 k, .int .i64 a, .int .i64 b, .int .i64 n], .int .i64 now, .agg #[.slice a1 n1 c1, .slice a2 n2 c2, .slice a3 n3 c3]] w fun e w' => e = .returned (.tuple #[.int .i64 r.1, .bool r.2.1, .int .i64 r.2.2]) ∧ Below w.heap.size w w' := he ▸ r13chk_c k a b n now a1 a2 a3 n1 c1 n2 c2 n3 c3 w hk S1 S2 S3 h1 h2 h3
set_option maxRecDepth 100000 in
set_option maxHeartbeats 4000000 in
theorem potells_c {F G H : List Sg} (k a b n now : Int) (a1 a2 a3 : Option Addr) (n1 c1 n2 c2 n3 c3 : Nat) (w : World) (hk : 0 ≤ k ∧ k ≤ 255) (S1 : SliS w (.slice a1 n1 c1) F) (S2 : SliS w (.slice a2 n2 c2) G) (S3 : SliS w (.slice a3 n3 c3) H) :
    Calls Tryz.prog 8 #[.agg #[.int .u8 k, .int .i64 a, .int .i64 b, .int .i64 n], .int .i64 now, .agg #[.slice a1 n1 c1, .slice a2 n2 c2, .slice a3 n3 c3]] w fun e w' => e = .returned (.bool true) ∧ Below w.heap.size w w' := by
  have HS1 := hidE S1; have HS2 := hidE S2; have HS3 := hidE S3
  clear S1 S2 S3
  obtain ⟨w0, hw0⟩ : ∃ w0, w0 = (w.alloc (Obj.cells #[.int .u8 k, .int .i64 a, .int .i64 b, .int .i64 n] 84)).alloc (Obj.cells #[.slice a1 n1 c1, .slice a2 n2 c2, .slice a3 n3 c3] 85) := ⟨_, rfl⟩
  have B1 : Blk w0 w.heap.size #[.int .u8 k, .int .i64 a, .int .i64 b, .int .i64 n] 84 := by rw [hw0]; exact (Blk.made _ _ _).alloc _
  have B2 : Blk w0 (w.heap.size + 1) #[.slice a1 n1 c1, .slice a2 n2 c2, .slice a3 n3 c3] 85 := by rw [hw0]; exact Blk.made_at _ _ _ _ (by simp)
  have hb0 : Below w.heap.size w w0 := by rw [hw0]; (repeat (first | exact Below.refl _ _ | assumption | refine balloc ?_ _ | refine below_drewN ?_ _ | refine bstep (by assumption) ?_ | refine bstep (Past.prop _) ?_ | refine Below.setCell ?_ (by first | exact Nat.le_refl _ | (simp; done) | (simp; omega)) _))
  obtain ⟨⟨t, q, er⟩, hr⟩ : ∃ r, chkP (k, (a, b), n) now F G H = r := ⟨_, rfl⟩
  have HR := hidE hr
  clear hr
  go_enter Tryz.func8, Tryz.ntmps8
  go_upto_region 1 with fail
  rw [← hw0]
  clear hw0
  have b0 := B1.cell 0; have b1 := B1.cell 1; have b2 := B1.cell 2; have b3 := B1.cell 3; have bz := B1.lt; have d0 := B2.cell 0; have d1 := B2.cell 1; have d2 := B2.cell 2; have dz := B2.lt
  simp at b0 b1 b2 b3 d0 d1 d2
  go_wp2_with fail
  ((with_reducible refine (pogreat_c (H := H) k a b n now a1 a2 a3 n1 c1 n2 c2 n3 c3 _ (HS3.out.past hb0)).mono ?_); rintro e w1 ⟨r, rfl, hr, hb1⟩)
  have B1 := B1.past hb1; have B2 := B2.past hb1
  have hB : Below w.heap.size w w1 := bstep hb1 hb0
  clear b0 b1 b2 b3 bz d0 d1 d2 dz hb1 hb0
  have b0 := B1.cell 0; have b1 := B1.cell 1; have b2 := B1.cell 2; have b3 := B1.cell 3; have bz := B1.lt; have d0 := B2.cell 0; have d1 := B2.cell 1; have d2 := B2.cell 2; have dz := B2.lt
  simp at b0 b1 b2 b3 d0 d1 d2
  cases r
  · obtain ⟨l1, l2, l3⟩ := hr rfl
    clear hr
    go_wp2_with fail
    ((with_reducible refine (pchk_eq (F := F) (G := G) (H := H) hk (HS1.out.past hB) (HS2.out.past hB) (HS3.out.past hB) (by omega) (by omega) (by omega) HR.out).mono ?_); rintro e w2 ⟨rfl, hb2⟩)
    have B1 := B1.past hb2; have B2 := B2.past hb2
    have hB : Below w.heap.size w w2 := bstep hb2 hB
    clear b0 b1 b2 b3 bz d0 d1 d2 dz hb2
    have b0 := B1.cell 0; have b1 := B1.cell 1; have b2 := B1.cell 2; have b3 := B1.cell 3; have bz := B1.lt; have d0 := B2.cell 0; have d1 := B2.cell 1; have d2 := B2.cell 2; have dz := B2.lt
    simp at b0 b1 b2 b3 d0 d1 d2
    go_wp2_with fail
    ((with_reducible refine (r13chk_eq (F := F) (G := G) (H := H) hk (HS1.out.past hB) (HS2.out.past hB) (HS3.out.past hB) (by omega) (by omega) (by omega) HR.out).mono ?_); rintro e w3 ⟨rfl, hb3⟩)
    have B1 := B1.past hb3
    have hB : Below w.heap.size w w3 := bstep hb3 hB
    clear b0 b1 b2 b3 bz d0 d1 d2 dz hb3 B2 l1 l2 l3 HR
    have b0 := B1.cell 0; have b1 := B1.cell 1; have b2 := B1.cell 2; have b3 := B1.cell 3; have bz := B1.lt
    simp at b0 b1 b2 b3
    go_upto_region 5 with fail
    refine wp_region_past_lit (by kernel_rfl) (by kernel_rfl) ?_
    have hc := Past.cell (W := w3)
    repeat (go_big_quiet_step ((first | (go_at_call 40; exact Past.call _ (pomay_c _ _ _ _ _ hk)) | (go_at_call 41; exact Past.call _ (r13may_c _ _ _ _ _ hk)) | (go_at_call 37; exact Past.call _ (pohead_c _)))))
    refine wpQuiet_nil ?_
    rintro _ ⟨x, rfl⟩
    go_wp2
    go_ret
    exact ⟨by simp, hB.trans (x.2.mono hB.size)⟩
  · clear hr
    go_wp2_with (go_at_call 37; ((with_reducible refine (pohead_c _).mono ?_); rintro e w9 ⟨rfl, hb9⟩))
    go_ret
    exact ⟨rfl, by (repeat (first | exact Below.refl _ _ | assumption | refine balloc ?_ _ | refine below_drewN ?_ _ | refine bstep (by assumption) ?_ | refine bstep (Past.prop _) ?_ | refine Below.setCell ?_ (by first | exact Nat.le_refl _ | (simp; done) | (simp; omega)) _))⟩
end Go.Proofs.YthlepbbdjmmelaaGreat
