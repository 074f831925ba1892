/- VecTells answers true for every input. No conditions but that the numbers fit an int64. -/
import Derived.Test.YtnhegohhffecpaaVecHead
import Derived.Test.YtnhegohhffecpaaJ
namespace Go.Proofs.Ytnhegohhffecpaa
open Go.ChangeShapes Go.WideShapes Go.ChangeAt Go.RowKit
attribute [local irreducible] Go.Calls

theorem rsub_eq {a b c d : Int} {g : Int × Int × Int} {w : World} (h : subS a b c d = g) : Calls Try.prog 8 #[V a b, V c d] w fun e w' => e = .returned (VE g) ∧ Below w.heap.size w w' := h ▸ rsub a b c d w
theorem rscl_eq {a b n : Int} {g : Int × Int × Int} {w : World} (ha : -9223372036854775808 ≤ a ∧ a ≤ 9223372036854775807) (hb : -9223372036854775808 ≤ b ∧ b ≤ 9223372036854775807) (hn : -9223372036854775808 ≤ n ∧ n ≤ 9223372036854775807) (h : sclS a b n = g) : Calls Try.prog 10 #[V a b, .int .i64 n] w fun e w' => e = .returned (VE g) ∧ Below w.heap.size w w' := h ▸ rscl a b n w ha hb hn
theorem run_eq2 {a b c d : Int} {g : Int × Int} {w : World} (h : unS a b c d = g) : Calls Try.prog 12 #[V a b, V c d] w fun e w' => e = .returned (IE g) ∧ Below w.heap.size w w' := h ▸ run_c a b c d w

set_option maxRecDepth 100000 in
set_option maxHeartbeats 4000000 in
theorem tells_c (a b c d n : Int) (w : World) (ha : -9223372036854775808 ≤ a ∧ a ≤ 9223372036854775807) (hb0 : -9223372036854775808 ≤ b ∧ b ≤ 9223372036854775807) (hn : -9223372036854775808 ≤ n ∧ n ≤ 9223372036854775807) :
    Calls Try.prog 3 #[V a b, V c d, .int .i64 n] w fun e w' => e = .returned (.bool true) ∧ Below w.heap.size w w' := by
  have HA := hidE ha; have HB := hidE hb0; have HN := hidE hn
  clear ha hb0 hn
  obtain ⟨gs, hgs⟩ : ∃ g, subS a b c d = g := ⟨_, rfl⟩
  obtain ⟨gc, hgc⟩ : ∃ g, sclS a b n = g := ⟨_, rfl⟩
  obtain ⟨gu, hgu⟩ : ∃ g, unS a b c d = g := ⟨_, rfl⟩
  have B3 : Blk ((w.alloc (Obj.cells #[Value.int IntKind.i64 a, Value.int IntKind.i64 b] 23)).alloc (Obj.cells #[Value.int IntKind.i64 c, Value.int IntKind.i64 d] 23)) w.heap.size #[Value.int IntKind.i64 a, Value.int IntKind.i64 b] 23 := (Blk.made _ _ _).alloc _
  have B4 : Blk ((w.alloc (Obj.cells #[Value.int IntKind.i64 a, Value.int IntKind.i64 b] 23)).alloc (Obj.cells #[Value.int IntKind.i64 c, Value.int IntKind.i64 d] 23)) (w.heap.size + 1) #[Value.int IntKind.i64 c, Value.int IntKind.i64 d] 23 := Blk.made_at _ _ _ _ (by simp)
  have HB3 := hidE B3; have HB4 := hidE B4
  clear B3 B4
  go_enter Try.func3, Try.ntmps3
  go_upto_region 1 with fail
  have B3 := HB3.out; have B4 := HB4.out
  go_cut [7, 8] (fun s7 s8 wx => ∃ p : Nat, s7 = .pointer (some ⟨p, 0, none⟩) ∧ s8 = .int .i64 gs.2.2 ∧ Blk wx p #[.int .i64 gs.1, .int .i64 gs.2.1] 23 ∧ Blk wx w.heap.size #[.int .i64 a, .int .i64 b] 23 ∧ Blk wx (w.heap.size + 1) #[.int .i64 c, .int .i64 d] 23 ∧ Below w.heap.size w wx)
  case first =>
    go_wp2_with (go_at_call 7; ((with_reducible refine (sub_eq hgs).mono ?_); rintro e w' ⟨rfl, hb⟩; obtain ⟨hc, hf⟩ := bcell hb))
    go_meet
    case rel => exact ⟨_, rfl, rfl, Blk.made _ _ _, by (repeat (first | assumption | refine Blk.past ?_ (by assumption) | refine Blk.past ?_ (Past.prop _) | refine Blk.alloc ?_ _ | refine Blk.other ?_ (by omega) _ | refine Blk.drew ?_ _)), by (repeat (first | assumption | refine Blk.past ?_ (by assumption) | refine Blk.past ?_ (Past.prop _) | refine Blk.alloc ?_ _ | refine Blk.other ?_ (by omega) _ | refine Blk.drew ?_ _)), by (repeat (first | exact Below.refl _ _ | assumption | refine balloc ?_ _ | refine below_drewN ?_ _ | refine bstep (by assumption) ?_ | refine bstep (Past.prop _) ?_ | refine Below.setCell ?_ (by first | exact Nat.le_refl _ | (simp; done) | (simp; omega)) _))⟩
  obtain ⟨p7, rfl, rfl, B7, B3, B4, hb⟩ := hcut
  clear HB3 HB4
  go_upto_region 2 with fail
  have C3 := B3.cell 0; have C3' := B3.cell 1; have C4 := B4.cell 0; have C4' := B4.cell 1
  simp at C3 C3' C4 C4'
  go_cut [9, 10] (fun s9 s10 wx => ∃ p : Nat, s9 = .pointer (some ⟨p, 0, none⟩) ∧ s10 = .int .i64 gs.2.2 ∧ Blk wx p #[.int .i64 gs.1, .int .i64 gs.2.1] 23 ∧ Blk wx w.heap.size #[.int .i64 a, .int .i64 b] 23 ∧ Blk wx (w.heap.size + 1) #[.int .i64 c, .int .i64 d] 23 ∧ Blk wx p7 #[.int .i64 gs.1, .int .i64 gs.2.1] 23 ∧ Below w.heap.size w wx)
  case first =>
    go_wp2_with (go_at_call 8; ((with_reducible refine (rsub_eq hgs).mono ?_); rintro e w' ⟨rfl, hb⟩; obtain ⟨hc, hf⟩ := bcell hb))
    go_meet
    case rel => exact ⟨_, rfl, rfl, Blk.made _ _ _, by (repeat (first | assumption | refine Blk.past ?_ (by assumption) | refine Blk.past ?_ (Past.prop _) | refine Blk.alloc ?_ _ | refine Blk.other ?_ (by omega) _ | refine Blk.drew ?_ _)), by (repeat (first | assumption | refine Blk.past ?_ (by assumption) | refine Blk.past ?_ (Past.prop _) | refine Blk.alloc ?_ _ | refine Blk.other ?_ (by omega) _ | refine Blk.drew ?_ _)), by (repeat (first | assumption | refine Blk.past ?_ (by assumption) | refine Blk.past ?_ (Past.prop _) | refine Blk.alloc ?_ _ | refine Blk.other ?_ (by omega) _ | refine Blk.drew ?_ _)), by (repeat (first | exact Below.refl _ _ | assumption | refine balloc ?_ _ | refine below_drewN ?_ _ | refine bstep (by assumption) ?_ | refine bstep (Past.prop _) ?_ | refine Below.setCell ?_ (by first | exact Nat.le_refl _ | (simp; done) | (simp; omega)) _))⟩
  obtain ⟨p9, rfl, rfl, B9, B3, B4, B7, hb⟩ := hcut
  go_upto_region 3 with fail
  have C3 := B3.cell 0; have C3' := B3.cell 1; have C4 := B4.cell 0; have C4' := B4.cell 1
  simp at C3 C3' C4 C4'
  go_cut [11, 12] (fun s11 s12 wx => ∃ p : Nat, s11 = .pointer (some ⟨p, 0, none⟩) ∧ s12 = .int .i64 gc.2.2 ∧ Blk wx p #[.int .i64 gc.1, .int .i64 gc.2.1] 23 ∧ Blk wx w.heap.size #[.int .i64 a, .int .i64 b] 23 ∧ Blk wx (w.heap.size + 1) #[.int .i64 c, .int .i64 d] 23 ∧ Blk wx p7 #[.int .i64 gs.1, .int .i64 gs.2.1] 23 ∧ Blk wx p9 #[.int .i64 gs.1, .int .i64 gs.2.1] 23 ∧ Below w.heap.size w wx)
  case first =>
    go_wp2_with (go_at_call 9; ((with_reducible refine (scl_eq HN.out hgc).mono ?_); rintro e w' ⟨rfl, hb⟩; obtain ⟨hc, hf⟩ := bcell hb))
    go_meet
    case rel => exact ⟨_, rfl, rfl, Blk.made _ _ _, by (repeat (first | assumption | refine Blk.past ?_ (by assumption) | refine Blk.past ?_ (Past.prop _) | refine Blk.alloc ?_ _ | refine Blk.other ?_ (by omega) _ | refine Blk.drew ?_ _)), by (repeat (first | assumption | refine Blk.past ?_ (by assumption) | refine Blk.past ?_ (Past.prop _) | refine Blk.alloc ?_ _ | refine Blk.other ?_ (by omega) _ | refine Blk.drew ?_ _)), by (repeat (first | assumption | refine Blk.past ?_ (by assumption) | refine Blk.past ?_ (Past.prop _) | refine Blk.alloc ?_ _ | refine Blk.other ?_ (by omega) _ | refine Blk.drew ?_ _)), by (repeat (first | assumption | refine Blk.past ?_ (by assumption) | refine Blk.past ?_ (Past.prop _) | refine Blk.alloc ?_ _ | refine Blk.other ?_ (by omega) _ | refine Blk.drew ?_ _)), by (repeat (first | exact Below.refl _ _ | assumption | refine balloc ?_ _ | refine below_drewN ?_ _ | refine bstep (by assumption) ?_ | refine bstep (Past.prop _) ?_ | refine Below.setCell ?_ (by first | exact Nat.le_refl _ | (simp; done) | (simp; omega)) _))⟩
  obtain ⟨p11, rfl, rfl, B11, B3, B4, B7, B9, hb⟩ := hcut
  go_upto_region 4 with fail
  have C3 := B3.cell 0; have C3' := B3.cell 1; have C4 := B4.cell 0; have C4' := B4.cell 1
  simp at C3 C3' C4 C4'
  go_cut [13, 14] (fun s13 s14 wx => ∃ p : Nat, s13 = .pointer (some ⟨p, 0, none⟩) ∧ s14 = .int .i64 gc.2.2 ∧ Blk wx p #[.int .i64 gc.1, .int .i64 gc.2.1] 23 ∧ Blk wx w.heap.size #[.int .i64 a, .int .i64 b] 23 ∧ Blk wx (w.heap.size + 1) #[.int .i64 c, .int .i64 d] 23 ∧ Blk wx p7 #[.int .i64 gs.1, .int .i64 gs.2.1] 23 ∧ Blk wx p9 #[.int .i64 gs.1, .int .i64 gs.2.1] 23 ∧ Blk wx p11 #[.int .i64 gc.1, .int .i64 gc.2.1] 23 ∧ Below w.heap.size w wx)
  case first =>
    go_wp2_with (go_at_call 10; ((with_reducible refine (rscl_eq HA.out HB.out HN.out hgc).mono ?_); rintro e w' ⟨rfl, hb⟩; obtain ⟨hc, hf⟩ := bcell hb))
    go_meet
    case rel => exact ⟨_, rfl, rfl, Blk.made _ _ _, by (repeat (first | assumption | refine Blk.past ?_ (by assumption) | refine Blk.past ?_ (Past.prop _) | refine Blk.alloc ?_ _ | refine Blk.other ?_ (by omega) _ | refine Blk.drew ?_ _)), by (repeat (first | assumption | refine Blk.past ?_ (by assumption) | refine Blk.past ?_ (Past.prop _) | refine Blk.alloc ?_ _ | refine Blk.other ?_ (by omega) _ | refine Blk.drew ?_ _)), by (repeat (first | assumption | refine Blk.past ?_ (by assumption) | refine Blk.past ?_ (Past.prop _) | refine Blk.alloc ?_ _ | refine Blk.other ?_ (by omega) _ | refine Blk.drew ?_ _)), by (repeat (first | assumption | refine Blk.past ?_ (by assumption) | refine Blk.past ?_ (Past.prop _) | refine Blk.alloc ?_ _ | refine Blk.other ?_ (by omega) _ | refine Blk.drew ?_ _)), by (repeat (first | assumption | refine Blk.past ?_ (by assumption) | refine Blk.past ?_ (Past.prop _) | refine Blk.alloc ?_ _ | refine Blk.other ?_ (by omega) _ | refine Blk.drew ?_ _)), by (repeat (first | exact Below.refl _ _ | assumption | refine balloc ?_ _ | refine below_drewN ?_ _ | refine bstep (by assumption) ?_ | refine bstep (Past.prop _) ?_ | refine Below.setCell ?_ (by first | exact Nat.le_refl _ | (simp; done) | (simp; omega)) _))⟩
  obtain ⟨p13, rfl, rfl, B13, B3, B4, B7, B9, B11, hb⟩ := hcut
  go_upto_region 5 with fail
  have C3 := B3.cell 0; have C3' := B3.cell 1; have C4 := B4.cell 0; have C4' := B4.cell 1
  simp at C3 C3' C4 C4'
  go_cut [15, 16] (fun s15 s16 wx => s15 = .int .i64 gu.1 ∧ s16 = .int .i64 gu.2 ∧ Blk wx w.heap.size #[.int .i64 a, .int .i64 b] 23 ∧ Blk wx (w.heap.size + 1) #[.int .i64 c, .int .i64 d] 23 ∧ Blk wx p7 #[.int .i64 gs.1, .int .i64 gs.2.1] 23 ∧ Blk wx p9 #[.int .i64 gs.1, .int .i64 gs.2.1] 23 ∧ Blk wx p11 #[.int .i64 gc.1, .int .i64 gc.2.1] 23 ∧ Blk wx p13 #[.int .i64 gc.1, .int .i64 gc.2.1] 23 ∧ Below w.heap.size w wx)
  case first =>
    go_wp2_with (go_at_call 11; ((with_reducible refine (un_eq hgu).mono ?_); rintro e w' ⟨rfl, hb⟩; obtain ⟨hc, hf⟩ := bcell hb))
    go_meet
    case rel => exact ⟨rfl, rfl, by (repeat (first | assumption | refine Blk.past ?_ (by assumption) | refine Blk.past ?_ (Past.prop _) | refine Blk.alloc ?_ _ | refine Blk.other ?_ (by omega) _ | refine Blk.drew ?_ _)), by (repeat (first | assumption | refine Blk.past ?_ (by assumption) | refine Blk.past ?_ (Past.prop _) | refine Blk.alloc ?_ _ | refine Blk.other ?_ (by omega) _ | refine Blk.drew ?_ _)), by (repeat (first | assumption | refine Blk.past ?_ (by assumption) | refine Blk.past ?_ (Past.prop _) | refine Blk.alloc ?_ _ | refine Blk.other ?_ (by omega) _ | refine Blk.drew ?_ _)), by (repeat (first | assumption | refine Blk.past ?_ (by assumption) | refine Blk.past ?_ (Past.prop _) | refine Blk.alloc ?_ _ | refine Blk.other ?_ (by omega) _ | refine Blk.drew ?_ _)), by (repeat (first | assumption | refine Blk.past ?_ (by assumption) | refine Blk.past ?_ (Past.prop _) | refine Blk.alloc ?_ _ | refine Blk.other ?_ (by omega) _ | refine Blk.drew ?_ _)), by (repeat (first | assumption | refine Blk.past ?_ (by assumption) | refine Blk.past ?_ (Past.prop _) | refine Blk.alloc ?_ _ | refine Blk.other ?_ (by omega) _ | refine Blk.drew ?_ _)), by (repeat (first | exact Below.refl _ _ | assumption | refine balloc ?_ _ | refine below_drewN ?_ _ | refine bstep (by assumption) ?_ | refine bstep (Past.prop _) ?_ | refine Below.setCell ?_ (by first | exact Nat.le_refl _ | (simp; done) | (simp; omega)) _))⟩
  obtain ⟨rfl, rfl, B3, B4, B7, B9, B11, B13, hb⟩ := hcut
  go_upto_region 6 with fail
  have C3 := B3.cell 0; have C3' := B3.cell 1; have C4 := B4.cell 0; have C4' := B4.cell 1
  simp at C3 C3' C4 C4'
  go_cut [17, 18] (fun s17 s18 wx => s17 = .int .i64 gu.1 ∧ s18 = .int .i64 gu.2 ∧ Blk wx w.heap.size #[.int .i64 a, .int .i64 b] 23 ∧ Blk wx (w.heap.size + 1) #[.int .i64 c, .int .i64 d] 23 ∧ Blk wx p7 #[.int .i64 gs.1, .int .i64 gs.2.1] 23 ∧ Blk wx p9 #[.int .i64 gs.1, .int .i64 gs.2.1] 23 ∧ Blk wx p11 #[.int .i64 gc.1, .int .i64 gc.2.1] 23 ∧ Blk wx p13 #[.int .i64 gc.1, .int .i64 gc.2.1] 23 ∧ Below w.heap.size w wx)
  case first =>
    go_wp2_with (go_at_call 12; ((with_reducible refine (run_eq2 hgu).mono ?_); rintro e w' ⟨rfl, hb⟩; obtain ⟨hc, hf⟩ := bcell hb))
    go_meet
    case rel => exact ⟨rfl, rfl, by (repeat (first | assumption | refine Blk.past ?_ (by assumption) | refine Blk.past ?_ (Past.prop _) | refine Blk.alloc ?_ _ | refine Blk.other ?_ (by omega) _ | refine Blk.drew ?_ _)), by (repeat (first | assumption | refine Blk.past ?_ (by assumption) | refine Blk.past ?_ (Past.prop _) | refine Blk.alloc ?_ _ | refine Blk.other ?_ (by omega) _ | refine Blk.drew ?_ _)), by (repeat (first | assumption | refine Blk.past ?_ (by assumption) | refine Blk.past ?_ (Past.prop _) | refine Blk.alloc ?_ _ | refine Blk.other ?_ (by omega) _ | refine Blk.drew ?_ _)), by (repeat (first | assumption | refine Blk.past ?_ (by assumption) | refine Blk.past ?_ (Past.prop _) | refine Blk.alloc ?_ _ | refine Blk.other ?_ (by omega) _ | refine Blk.drew ?_ _)), by (repeat (first | assumption | refine Blk.past ?_ (by assumption) | refine Blk.past ?_ (Past.prop _) | refine Blk.alloc ?_ _ | refine Blk.other ?_ (by omega) _ | refine Blk.drew ?_ _)), by (repeat (first | assumption | refine Blk.past ?_ (by assumption) | refine Blk.past ?_ (Past.prop _) | refine Blk.alloc ?_ _ | refine Blk.other ?_ (by omega) _ | refine Blk.drew ?_ _)), by (repeat (first | exact Below.refl _ _ | assumption | refine balloc ?_ _ | refine below_drewN ?_ _ | refine bstep (by assumption) ?_ | refine bstep (Past.prop _) ?_ | refine Below.setCell ?_ (by first | exact Nat.le_refl _ | (simp; done) | (simp; omega)) _))⟩
  obtain ⟨rfl, rfl, B3, B4, B7, B9, B11, B13, hb⟩ := hcut
  have C3 := B3.cell 0; have C3' := B3.cell 1; have L3 := B3.lt; have C4 := B4.cell 0; have C4' := B4.cell 1; have L4 := B4.lt; have C7 := B7.cell 0; have C7' := B7.cell 1; have L7 := B7.lt; have C9 := B9.cell 0; have C9' := B9.cell 1; have L9 := B9.lt; have C11 := B11.cell 0; have C11' := B11.cell 1; have L11 := B11.lt; have C13 := B13.cell 0; have C13' := B13.cell 1; have L13 := B13.lt
  simp at C3 C3' C4 C4' C7 C7' C9 C9' C11 C11' C13 C13'
  clear B3 B4 B7 B9 B11 B13 hgs hgc hgu
  rename World => w1
  have hc := Past.cell (W := w1)
  go_upto_region 7 with fail
  simp only [List.append_eq, List.cons_append, List.nil_append]
  refine wp_region_past_lit (by kernel_rfl) (by kernel_rfl) ?_
  repeat (go_big_quiet_step ((first | (go_at_call 13; exact Past.call _ (may _ _ _)) | (go_at_call 14; exact Past.call _ (rmay _ _ _)) | (go_at_call 15; exact Past.call _ (mn_c _ _ _ _ _)) | (go_at_call 16; exact Past.call _ (rmn _ _ _ _ _)) | (go_at_call 17; exact Past.call _ (mx_c _ _ _ _ _)) | (go_at_call 18; exact Past.call _ (rmx _ _ _ _ _)) | (go_at_call 19; exact Past.call _ (le _ _ _ _ _)) | (go_at_call 20; exact Past.call _ (rle _ _ _ _ _)) | (go_at_call 21; exact Past.call _ (head_c _)))))
  refine wpQuiet_nil ?_
  rintro _ ⟨x, rfl⟩
  go_wp2
  go_ret
  refine ⟨rfl, ?_⟩
  (repeat (first | exact Below.refl _ _ | assumption | refine balloc ?_ _ | refine below_drewN ?_ _ | refine bstep (by assumption) ?_ | refine bstep (Past.prop _) ?_ | refine Below.setCell ?_ (by first | exact Nat.le_refl _ | (simp; done) | (simp; omega)) _))

end Go.Proofs.Ytnhegohhffecpaa
