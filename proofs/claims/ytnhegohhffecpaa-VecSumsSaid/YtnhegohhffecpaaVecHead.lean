/- What the document fixes of package vec: the statements' own 'head' answers true. No conditions. -/
import Derived.Test.YtnhegohhffecpaaVecAdd
import Derived.Deep.DeepCutAuto
namespace Go.Proofs.Ytnhegohhffecpaa
open Go.ChangeShapes Go.WideShapes Go.ChangeAt Go.RowKit
attribute [local irreducible] Go.Calls

theorem sub_eq {a b c d : Int} {g : Int × Int × Int} {w : World} (h : subS a b c d = g) : Calls Try.prog 7 #[V a b, V c d] w fun e w' => e = .returned (VE g) ∧ Below w.heap.size w w' := h ▸ sub_c a b c d w
theorem scl_eq {a b n : Int} {g : Int × Int × Int} {w : World} (hn : -9223372036854775808 ≤ n ∧ n ≤ 9223372036854775807) (h : sclS a b n = g) : Calls Try.prog 9 #[V a b, .int .i64 n] w fun e w' => e = .returned (VE g) ∧ Below w.heap.size w w' := h ▸ scl_c a b n w hn
theorem un_eq {a b c d : Int} {g : Int × Int} {w : World} (h : unS a b c d = g) : Calls Try.prog 11 #[V a b, V c d] w fun e w' => e = .returned (IE g) ∧ Below w.heap.size w w' := h ▸ un_c a b c d w

/-- A sum of two, out of a block of four cells. -/
theorem add2 {a b c d : Int} {g : Int × Int × Int} {w : World} {k : Nat} (hk : Blk w k #[.int .i64 a, .int .i64 b, .int .i64 c, .int .i64 d] 23) (h : addL [(a, b), (c, d)] = g) :
    Calls Try.prog 22 #[.slice (some ⟨k, 0, none⟩) 2 2] w fun e w' => e = .returned (VE g) ∧ Below w.heap.size w w' := by
  subst h
  refine add_some [(a, b), (c, d)] k 0 2 w hk.lt (by simp) ?_
  intro i hi
  have : i = 0 ∨ i = 1 := by simp at hi; omega
  rcases this with rfl | rfl
  · exact ⟨hk.cell 0, hk.cell 1⟩
  · exact ⟨hk.cell 2, hk.cell 3⟩

theorem i64_bd (n : Int) (h : -1000 ≤ n ∧ n ≤ 1000) : -9223372036854775808 ≤ n ∧ n ≤ 9223372036854775807 := by omega

set_option maxRecDepth 100000 in
set_option maxHeartbeats 400000 in
theorem head_c (w : World) : Calls Try.prog 21 #[] w fun e w' => e = .returned (.bool true) ∧ Below w.heap.size w w' := by
  go_enter Try.func21, Try.ntmps21
  go_upto_region 1 with fail
  go_cut [1, 2] (fun s1 s2 wx => ∃ p : Nat, s1 = .pointer (some ⟨p, 0, none⟩) ∧ s2 = .int .i64 0 ∧ Blk wx p #[.int .i64 4, .int .i64 (-3)] 23 ∧ Below w.heap.size w wx)
  case first =>
    go_wp2_with (first | (go_at_call 24; ((with_reducible refine (lof _ _ _).mono ?_); rintro e w' ⟨rfl, hb⟩; obtain ⟨hc, hf⟩ := bcell hb)) | (go_at_call 22; ((with_reducible refine (add2 (a := 1) (b := 2) (c := 3) (d := -5) (g := (4, -3, 0)) (Blk.made_at _ _ _ _ rfl) rfl).mono ?_); rintro e w' ⟨rfl, hb⟩; obtain ⟨hc, hf⟩ := bcell hb)))
    go_meet
    case rel => exact ⟨_, rfl, rfl, Blk.made _ _ _, by (repeat (first | exact Below.refl _ _ | assumption | refine balloc ?_ _ | refine below_drewN ?_ _ | refine bstep (by assumption) ?_ | refine bstep (Past.prop _) ?_ | refine Below.setCell ?_ (by first | exact Nat.le_refl _ | (simp; done) | (simp; omega)) _))⟩
  obtain ⟨p1, rfl, rfl, B1, hb⟩ := hcut
  go_upto_region 2 with fail
  go_cut [3, 4] (fun s3 s4 wx => ∃ p : Nat, s3 = .pointer (some ⟨p, 0, none⟩) ∧ s4 = .int .i64 0 ∧ Blk wx p #[.int .i64 (-2), .int .i64 7] 23 ∧ Blk wx p1 #[.int .i64 4, .int .i64 (-3)] 23 ∧ Below w.heap.size w wx)
  case first =>
    go_wp2_with (first | (go_at_call 24; ((with_reducible refine (lof _ _ _).mono ?_); rintro e w' ⟨rfl, hb⟩; obtain ⟨hc, hf⟩ := bcell hb)) | (go_at_call 7; ((with_reducible refine (sub_eq (a := 1) (b := 2) (c := 3) (d := -5) (g := (-2, 7, 0)) rfl).mono ?_); rintro e w' ⟨rfl, hb⟩; obtain ⟨hc, hf⟩ := bcell hb)))
    go_meet
    case rel => exact ⟨_, rfl, rfl, Blk.made _ _ _, by (repeat (first | assumption | refine Blk.past ?_ (by assumption) | refine Blk.past ?_ (Past.prop _) | refine Blk.alloc ?_ _ | refine Blk.other ?_ (by omega) _ | refine Blk.drew ?_ _)), by (repeat (first | exact Below.refl _ _ | assumption | refine balloc ?_ _ | refine below_drewN ?_ _ | refine bstep (by assumption) ?_ | refine bstep (Past.prop _) ?_ | refine Below.setCell ?_ (by first | exact Nat.le_refl _ | (simp; done) | (simp; omega)) _))⟩
  obtain ⟨p3, rfl, rfl, B3, B1, hb⟩ := hcut
  go_upto_region 3 with fail
  go_cut [5, 6] (fun s5 s6 wx => ∃ p : Nat, s5 = .pointer (some ⟨p, 0, none⟩) ∧ s6 = .int .i64 0 ∧ Blk wx p #[.int .i64 8, .int .i64 (-12)] 23 ∧ Blk wx p1 #[.int .i64 4, .int .i64 (-3)] 23 ∧ Blk wx p3 #[.int .i64 (-2), .int .i64 7] 23 ∧ Below w.heap.size w wx)
  case first =>
    go_wp2_with (first | (go_at_call 24; ((with_reducible refine (lof _ _ _).mono ?_); rintro e w' ⟨rfl, hb⟩; obtain ⟨hc, hf⟩ := bcell hb)) | (go_at_call 9; ((with_reducible refine (scl_eq (a := 2) (b := -3) (n := 4) (g := (8, -12, 0)) (i64_bd _ (by decide)) rfl).mono ?_); rintro e w' ⟨rfl, hb⟩; obtain ⟨hc, hf⟩ := bcell hb)))
    go_meet
    case rel => exact ⟨_, rfl, rfl, Blk.made _ _ _, by (repeat (first | assumption | refine Blk.past ?_ (by assumption) | refine Blk.past ?_ (Past.prop _) | refine Blk.alloc ?_ _ | refine Blk.other ?_ (by omega) _ | refine Blk.drew ?_ _)), by (repeat (first | assumption | refine Blk.past ?_ (by assumption) | refine Blk.past ?_ (Past.prop _) | refine Blk.alloc ?_ _ | refine Blk.other ?_ (by omega) _ | refine Blk.drew ?_ _)), by (repeat (first | exact Below.refl _ _ | assumption | refine balloc ?_ _ | refine below_drewN ?_ _ | refine bstep (by assumption) ?_ | refine bstep (Past.prop _) ?_ | refine Below.setCell ?_ (by first | exact Nat.le_refl _ | (simp; done) | (simp; omega)) _))⟩
  obtain ⟨p5, rfl, rfl, B5, B1, B3, hb⟩ := hcut
  go_upto_region 4 with fail
  go_cut [7, 8] (fun s7 s8 wx => ∃ p : Nat, s7 = .pointer (some ⟨p, 0, none⟩) ∧ s8 = .int .i64 10 ∧ Blk wx p1 #[.int .i64 4, .int .i64 (-3)] 23 ∧ Blk wx p3 #[.int .i64 (-2), .int .i64 7] 23 ∧ Blk wx p5 #[.int .i64 8, .int .i64 (-12)] 23 ∧ Below w.heap.size w wx)
  case first =>
    go_wp2_with (first | (go_at_call 24; ((with_reducible refine (lof _ _ _).mono ?_); rintro e w' ⟨rfl, hb⟩; obtain ⟨hc, hf⟩ := bcell hb)) | (go_at_call 22; ((with_reducible refine (add2 (a := 1125899906842624) (b := 0) (c := 1) (d := 0) (g := (0, 0, 10)) (Blk.made_at _ _ _ _ rfl) rfl).mono ?_); rintro e w' ⟨rfl, hb⟩; obtain ⟨hc, hf⟩ := bcell hb)))
    go_meet
    case rel => exact ⟨_, rfl, rfl, by (repeat (first | assumption | refine Blk.past ?_ (by assumption) | refine Blk.past ?_ (Past.prop _) | refine Blk.alloc ?_ _ | refine Blk.other ?_ (by omega) _ | refine Blk.drew ?_ _)), by (repeat (first | assumption | refine Blk.past ?_ (by assumption) | refine Blk.past ?_ (Past.prop _) | refine Blk.alloc ?_ _ | refine Blk.other ?_ (by omega) _ | refine Blk.drew ?_ _)), by (repeat (first | assumption | refine Blk.past ?_ (by assumption) | refine Blk.past ?_ (Past.prop _) | refine Blk.alloc ?_ _ | refine Blk.other ?_ (by omega) _ | refine Blk.drew ?_ _)), by (repeat (first | exact Below.refl _ _ | assumption | refine balloc ?_ _ | refine below_drewN ?_ _ | refine bstep (by assumption) ?_ | refine bstep (Past.prop _) ?_ | refine Below.setCell ?_ (by first | exact Nat.le_refl _ | (simp; done) | (simp; omega)) _))⟩
  obtain ⟨p7, rfl, rfl, B1, B3, B5, hb⟩ := hcut
  go_upto_region 5 with fail
  go_cut [9, 10] (fun s9 s10 wx => ∃ p : Nat, s9 = .pointer (some ⟨p, 0, none⟩) ∧ s10 = .int .i64 10 ∧ Blk wx p1 #[.int .i64 4, .int .i64 (-3)] 23 ∧ Blk wx p3 #[.int .i64 (-2), .int .i64 7] 23 ∧ Blk wx p5 #[.int .i64 8, .int .i64 (-12)] 23 ∧ Below w.heap.size w wx)
  case first =>
    go_wp2_with (first | (go_at_call 24; ((with_reducible refine (lof _ _ _).mono ?_); rintro e w' ⟨rfl, hb⟩; obtain ⟨hc, hf⟩ := bcell hb)) | (go_at_call 9; ((with_reducible refine (scl_eq (a := 562949953421312) (b := 0) (n := 3) (g := (0, 0, 10)) (i64_bd _ (by decide)) rfl).mono ?_); rintro e w' ⟨rfl, hb⟩; obtain ⟨hc, hf⟩ := bcell hb)))
    go_meet
    case rel => exact ⟨_, rfl, rfl, by (repeat (first | assumption | refine Blk.past ?_ (by assumption) | refine Blk.past ?_ (Past.prop _) | refine Blk.alloc ?_ _ | refine Blk.other ?_ (by omega) _ | refine Blk.drew ?_ _)), by (repeat (first | assumption | refine Blk.past ?_ (by assumption) | refine Blk.past ?_ (Past.prop _) | refine Blk.alloc ?_ _ | refine Blk.other ?_ (by omega) _ | refine Blk.drew ?_ _)), by (repeat (first | assumption | refine Blk.past ?_ (by assumption) | refine Blk.past ?_ (Past.prop _) | refine Blk.alloc ?_ _ | refine Blk.other ?_ (by omega) _ | refine Blk.drew ?_ _)), by (repeat (first | exact Below.refl _ _ | assumption | refine balloc ?_ _ | refine below_drewN ?_ _ | refine bstep (by assumption) ?_ | refine bstep (Past.prop _) ?_ | refine Below.setCell ?_ (by first | exact Nat.le_refl _ | (simp; done) | (simp; omega)) _))⟩
  obtain ⟨p9, rfl, rfl, B1, B3, B5, hb⟩ := hcut
  go_upto_region 6 with fail
  go_cut [11, 12] (fun s11 s12 wx => s11 = .int .i64 3 ∧ s12 = .int .i64 0 ∧ Blk wx p1 #[.int .i64 4, .int .i64 (-3)] 23 ∧ Blk wx p3 #[.int .i64 (-2), .int .i64 7] 23 ∧ Blk wx p5 #[.int .i64 8, .int .i64 (-12)] 23 ∧ Below w.heap.size w wx)
  case first =>
    go_wp2_with (first | (go_at_call 24; ((with_reducible refine (lof _ _ _).mono ?_); rintro e w' ⟨rfl, hb⟩; obtain ⟨hc, hf⟩ := bcell hb)) | (go_at_call 11; ((with_reducible refine (un_eq (a := 10) (b := 7) (c := 3) (d := 2) (g := (3, 0)) rfl).mono ?_); rintro e w' ⟨rfl, hb⟩; obtain ⟨hc, hf⟩ := bcell hb)))
    go_meet
    case rel => exact ⟨rfl, rfl, by (repeat (first | assumption | refine Blk.past ?_ (by assumption) | refine Blk.past ?_ (Past.prop _) | refine Blk.alloc ?_ _ | refine Blk.other ?_ (by omega) _ | refine Blk.drew ?_ _)), by (repeat (first | assumption | refine Blk.past ?_ (by assumption) | refine Blk.past ?_ (Past.prop _) | refine Blk.alloc ?_ _ | refine Blk.other ?_ (by omega) _ | refine Blk.drew ?_ _)), by (repeat (first | assumption | refine Blk.past ?_ (by assumption) | refine Blk.past ?_ (Past.prop _) | refine Blk.alloc ?_ _ | refine Blk.other ?_ (by omega) _ | refine Blk.drew ?_ _)), by (repeat (first | exact Below.refl _ _ | assumption | refine balloc ?_ _ | refine below_drewN ?_ _ | refine bstep (by assumption) ?_ | refine bstep (Past.prop _) ?_ | refine Below.setCell ?_ (by first | exact Nat.le_refl _ | (simp; done) | (simp; omega)) _))⟩
  obtain ⟨rfl, rfl, B1, B3, B5, hb⟩ := hcut
  go_upto_region 7 with fail
  go_cut [13, 14] (fun s13 s14 wx => s13 = .int .i64 0 ∧ s14 = .int .i64 0 ∧ Blk wx p1 #[.int .i64 4, .int .i64 (-3)] 23 ∧ Blk wx p3 #[.int .i64 (-2), .int .i64 7] 23 ∧ Blk wx p5 #[.int .i64 8, .int .i64 (-12)] 23 ∧ Below w.heap.size w wx)
  case first =>
    go_wp2_with (first | (go_at_call 24; ((with_reducible refine (lof _ _ _).mono ?_); rintro e w' ⟨rfl, hb⟩; obtain ⟨hc, hf⟩ := bcell hb)) | (go_at_call 11; ((with_reducible refine (un_eq (a := -1) (b := 9) (c := 1) (d := 1) (g := (0, 0)) rfl).mono ?_); rintro e w' ⟨rfl, hb⟩; obtain ⟨hc, hf⟩ := bcell hb)))
    go_meet
    case rel => exact ⟨rfl, rfl, by (repeat (first | assumption | refine Blk.past ?_ (by assumption) | refine Blk.past ?_ (Past.prop _) | refine Blk.alloc ?_ _ | refine Blk.other ?_ (by omega) _ | refine Blk.drew ?_ _)), by (repeat (first | assumption | refine Blk.past ?_ (by assumption) | refine Blk.past ?_ (Past.prop _) | refine Blk.alloc ?_ _ | refine Blk.other ?_ (by omega) _ | refine Blk.drew ?_ _)), by (repeat (first | assumption | refine Blk.past ?_ (by assumption) | refine Blk.past ?_ (Past.prop _) | refine Blk.alloc ?_ _ | refine Blk.other ?_ (by omega) _ | refine Blk.drew ?_ _)), by (repeat (first | exact Below.refl _ _ | assumption | refine balloc ?_ _ | refine below_drewN ?_ _ | refine bstep (by assumption) ?_ | refine bstep (Past.prop _) ?_ | refine Below.setCell ?_ (by first | exact Nat.le_refl _ | (simp; done) | (simp; omega)) _))⟩
  obtain ⟨rfl, rfl, B1, B3, B5, hb⟩ := hcut
  have c10 := B1.cell 0; have c11 := B1.cell 1; have c30 := B3.cell 0; have c31 := B3.cell 1; have c50 := B5.cell 0; have c51 := B5.cell 1
  have z1 := B1.lt; have z3 := B3.lt; have z5 := B5.lt
  simp at c10 c11 c30 c31 c50 c51
  have e1 : mn 1 3 = 1 := rfl
  have e2 : mn 5 2 = 2 := rfl
  have e3 : mx 1 3 = 3 := rfl
  have e4 : mx 5 2 = 5 := rfl
  clear B1 B3 B5
  go_wp2_with (first | (go_at_call 24; ((with_reducible refine (lof _ _ _).mono ?_); rintro e w' ⟨rfl, hb⟩; obtain ⟨hc, hf⟩ := bcell hb; have z1 := bsz hb p1 (by assumption); have z3 := bsz hb p3 (by assumption); have z5 := bsz hb p5 (by assumption))) | (go_at_call 11; ((with_reducible refine (un_eq (a := 1) (b := 1) (c := 0) (d := 1) (g := (0, 2)) rfl).mono ?_); rintro e w' ⟨rfl, hb⟩; obtain ⟨hc, hf⟩ := bcell hb; have z1 := bsz hb p1 (by assumption); have z3 := bsz hb p3 (by assumption); have z5 := bsz hb p5 (by assumption))) | (go_at_call 15; ((with_reducible refine (mn_c 1 5 3 2 _).mono ?_); rintro e w' ⟨rfl, hb⟩; obtain ⟨hc, hf⟩ := bcell hb; have z1 := bsz hb p1 (by assumption); have z3 := bsz hb p3 (by assumption); have z5 := bsz hb p5 (by assumption))) | (go_at_call 17; ((with_reducible refine (mx_c 1 5 3 2 _).mono ?_); rintro e w' ⟨rfl, hb⟩; obtain ⟨hc, hf⟩ := bcell hb; have z1 := bsz hb p1 (by assumption); have z3 := bsz hb p3 (by assumption); have z5 := bsz hb p5 (by assumption))) | (go_at_call 19; ((with_reducible refine (le_eq (a := 1) (b := 2) (c := 1) (d := 3) (r := true) rfl).mono ?_); rintro e w' ⟨rfl, hb⟩; obtain ⟨hc, hf⟩ := bcell hb; have z1 := bsz hb p1 (by assumption); have z3 := bsz hb p3 (by assumption); have z5 := bsz hb p5 (by assumption))) | (go_at_call 19; ((with_reducible refine (le_eq (a := 1) (b := 4) (c := 2) (d := 3) (r := false) rfl).mono ?_); rintro e w' ⟨rfl, hb⟩; obtain ⟨hc, hf⟩ := bcell hb; have z1 := bsz hb p1 (by assumption); have z3 := bsz hb p3 (by assumption); have z5 := bsz hb p5 (by assumption))))
  have hc' := Past.cell (W := w')
  have l1 : leB 1 2 1 3 = true := rfl
  have l2 : leB 1 4 2 3 = false := rfl
  simp only [List.append_eq, List.cons_append, List.nil_append]
  refine wp_region_past_lit (by kernel_rfl) (by kernel_rfl) ?_
  iterate 20 (go_big_quiet_step ((first | (go_at_call 24; exact Past.call _ (lof _ _ _)) | (go_at_call 15; exact Past.call _ (mn_c _ _ _ _ _)) | (go_at_call 17; exact Past.call _ (mx_c _ _ _ _ _)) | (go_at_call 19; exact Past.call _ (le_eq l1)) | (go_at_call 19; exact Past.call _ (le_eq l2)))))
  repeat (go_big_quiet_step ((first | (go_at_call 24; exact Past.call _ (lof _ _ _)) | (go_at_call 15; exact Past.call _ (mn_c _ _ _ _ _)) | (go_at_call 17; exact Past.call _ (mx_c _ _ _ _ _)) | (go_at_call 19; exact Past.call _ (le_eq l1)) | (go_at_call 19; exact Past.call _ (le_eq l2)))))
  refine wpQuiet_nil ?_
  rintro _ ⟨x, rfl⟩
  go_wp2
  go_ret
  refine ⟨rfl, ?_⟩
  (repeat (first | exact Below.refl _ _ | assumption | refine balloc ?_ _ | refine below_drewN ?_ _ | refine bstep (by assumption) ?_ | refine bstep (Past.prop _) ?_ | refine Below.setCell ?_ (by first | exact Nat.le_refl _ | (simp; done) | (simp; omega)) _))

end Go.Proofs.Ytnhegohhffecpaa
