/- The contract of vec.Units. No conditions. -/
import Derived.Test.YtnhegohhffecpaaVec3
namespace Go.Proofs.Ytnhegohhffecpaa
open Go.ChangeShapes Go.WideShapes Go.ChangeAt Go.RowKit

theorem un_c (a b c d : Int) (w : World) : Calls Try.prog 11 #[V a b, V c d] w fun e w' => e = .returned (IE (unS a b c d)) ∧ Below w.heap.size w w' := by
  cases h1 : leB 1 1 c d
  · have e : unS a b c d = (0, 2) := by rw [leB_not] at h1; unfold unS; rw [if_pos (by omega)]
    rw [e]; clear e
    go_enter Try.func11, Try.ntmps11
    go_wp2
    refine wp_region_past_lit (by kernel_rfl) (by kernel_rfl) ?_
    have hc := Past.cell (W := (w.alloc (Obj.cells #[Value.int IntKind.i64 a, Value.int IntKind.i64 b] 23)).alloc (Obj.cells #[Value.int IntKind.i64 c, Value.int IntKind.i64 d] 23))
    repeat (go_big_quiet_step ((first | (go_at_call 31; exact Past.call _ (alike _ _)) | (go_at_call 19; exact Past.call _ (le_eq h1)))))
    refine wpQuiet_nil ?_
    rintro _ ⟨x, rfl⟩
    go_wp2
    go_ret2
    refine ⟨rfl, ?_⟩
    (repeat (first | exact Below.refl _ _ | assumption | refine balloc ?_ _ | refine below_drewN ?_ _ | refine bstep (by assumption) ?_ | refine bstep (Past.prop _) ?_ | refine Below.setCell ?_ (by first | exact Nat.le_refl _ | (simp; done) | (simp; omega)) _))
  · have g1 := leB_iff.1 h1
    cases h2 : (okV a b && okV c d)
    · have e : unS a b c d = (0, 10) := by unfold unS; rw [if_neg (by omega), if_pos h2]
      rw [e]; clear e g1
      cases h3 : okV a b
      · clear h2
        go_enter Try.func11, Try.ntmps11
        go_wp2
        refine wp_region_past_lit (by kernel_rfl) (by kernel_rfl) ?_
        have hc := Past.cell (W := (w.alloc (Obj.cells #[Value.int IntKind.i64 a, Value.int IntKind.i64 b] 23)).alloc (Obj.cells #[Value.int IntKind.i64 c, Value.int IntKind.i64 d] 23))
        repeat (go_big_quiet_step ((first | (go_at_call 31; exact Past.call _ (alike _ _)) | (go_at_call 19; exact Past.call _ (le_eq h1)))))
        refine wpQuiet_nil ?_
        rintro _ ⟨x, rfl⟩
        have hz0 := bsz (Past.prop x) w.heap.size (by simp; omega); have hz1 := bsz (Past.prop x) (w.heap.size + 1) (by simp)
        go_wp2_with (go_at_call 13; ((with_reducible refine (may_eq h3).mono ?_); rintro e w' ⟨rfl, hb⟩; obtain ⟨hc, hf⟩ := bcell hb; have hz0 := bsz hb (w.heap.size) (by first | assumption | (simp; done) | (simp; omega)); have hz1 := bsz hb (w.heap.size + 1) (by first | assumption | (simp; done) | (simp; omega))))
        go_ret2
        refine ⟨rfl, ?_⟩
        (repeat (first | exact Below.refl _ _ | assumption | refine balloc ?_ _ | refine below_drewN ?_ _ | refine bstep (by assumption) ?_ | refine bstep (Past.prop _) ?_ | refine Below.setCell ?_ (by first | exact Nat.le_refl _ | (simp; done) | (simp; omega)) _))
      · have h4 : okV c d = false := by rw [h3] at h2; simpa using h2
        clear h2
        go_enter Try.func11, Try.ntmps11
        go_wp2
        refine wp_region_past_lit (by kernel_rfl) (by kernel_rfl) ?_
        have hc := Past.cell (W := (w.alloc (Obj.cells #[Value.int IntKind.i64 a, Value.int IntKind.i64 b] 23)).alloc (Obj.cells #[Value.int IntKind.i64 c, Value.int IntKind.i64 d] 23))
        repeat (go_big_quiet_step ((first | (go_at_call 31; exact Past.call _ (alike _ _)) | (go_at_call 19; exact Past.call _ (le_eq h1)))))
        refine wpQuiet_nil ?_
        rintro _ ⟨x, rfl⟩
        have hz0 := bsz (Past.prop x) w.heap.size (by simp; omega); have hz1 := bsz (Past.prop x) (w.heap.size + 1) (by simp)
        go_wp2_with (first | (go_at_call 13; ((with_reducible refine (may_eq h3).mono ?_); rintro e w' ⟨rfl, hb⟩; obtain ⟨hc, hf⟩ := bcell hb; have hz0 := bsz hb (w.heap.size) (by first | assumption | (simp; done) | (simp; omega)); have hz1 := bsz hb (w.heap.size + 1) (by first | assumption | (simp; done) | (simp; omega)))) | (go_at_call 13; ((with_reducible refine (may_eq h4).mono ?_); rintro e w' ⟨rfl, hb⟩; obtain ⟨hc, hf⟩ := bcell hb; have hz0 := bsz hb (w.heap.size) (by first | assumption | (simp; done) | (simp; omega)); have hz1 := bsz hb (w.heap.size + 1) (by first | assumption | (simp; done) | (simp; omega)))))
        go_ret2
        refine ⟨rfl, ?_⟩
        (repeat (first | exact Below.refl _ _ | assumption | refine balloc ?_ _ | refine below_drewN ?_ _ | refine bstep (by assumption) ?_ | refine bstep (Past.prop _) ?_ | refine Below.setCell ?_ (by first | exact Nat.le_refl _ | (simp; done) | (simp; omega)) _))
    · obtain ⟨h3, h4⟩ : okV a b = true ∧ okV c d = true := by simpa using h2
      have e : unS a b c d = (mx 0 (mn (a.tdiv c) (b.tdiv d)), 0) := by
        rw [quo_units h3 h4 g1.1 g1.2]; unfold unS; rw [if_neg (by omega), if_neg (by rw [h2]; decide)]; split <;> rfl
      rw [e]; clear e
      have h5 : okV c d = true ∧ 1 ≤ c ∧ 1 ≤ d := ⟨h4, g1⟩
      have H5 := hidE h5; clear h5 g1 h2
      go_enter Try.func11, Try.ntmps11
      go_wp2
      refine wp_region_past_lit (by kernel_rfl) (by kernel_rfl) ?_
      have hc := Past.cell (W := (w.alloc (Obj.cells #[Value.int IntKind.i64 a, Value.int IntKind.i64 b] 23)).alloc (Obj.cells #[Value.int IntKind.i64 c, Value.int IntKind.i64 d] 23))
      repeat (go_big_quiet_step ((first | (go_at_call 31; exact Past.call _ (alike _ _)) | (go_at_call 19; exact Past.call _ (le_eq h1)))))
      refine wpQuiet_nil ?_
      rintro _ ⟨x, rfl⟩
      have hz0 := bsz (Past.prop x) w.heap.size (by simp; omega); have hz1 := bsz (Past.prop x) (w.heap.size + 1) (by simp)
      go_wp2_with (first | (go_at_call 13; ((with_reducible refine (may_eq h3).mono ?_); rintro e w' ⟨rfl, hb⟩; obtain ⟨hc, hf⟩ := bcell hb; have hz0 := bsz hb (w.heap.size) (by first | assumption | (simp; done) | (simp; omega)); have hz1 := bsz hb (w.heap.size + 1) (by first | assumption | (simp; done) | (simp; omega)))) | (go_at_call 13; ((with_reducible refine (may_eq h4).mono ?_); rintro e w' ⟨rfl, hb⟩; obtain ⟨hc, hf⟩ := bcell hb; have hz0 := bsz hb (w.heap.size) (by first | assumption | (simp; done) | (simp; omega)); have hz1 := bsz hb (w.heap.size + 1) (by first | assumption | (simp; done) | (simp; omega)))) | (go_at_call 32; ((with_reducible refine (both_quo _ _ _ _ _ h3 H5.out).mono ?_); rintro e w' ⟨rfl, hb⟩; obtain ⟨hc, hf⟩ := bcell hb; have hz0 := bsz hb (w.heap.size) (by first | assumption | (simp; done) | (simp; omega)); have hz1 := bsz hb (w.heap.size + 1) (by first | assumption | (simp; done) | (simp; omega)))))
      all_goals
        go_ret2
        refine ⟨ret_tup ?_, ?_⟩
        · exact congrArg (fun z : Int => (#[.int .i64 z, .int .i64 0] : Array Value)) (by unfold mx mn; (repeat' split) <;> omega)
        · (repeat (first | exact Below.refl _ _ | assumption | refine balloc ?_ _ | refine below_drewN ?_ _ | refine bstep (by assumption) ?_ | refine bstep (Past.prop _) ?_ | refine Below.setCell ?_ (by first | exact Nat.le_refl _ | (simp; done) | (simp; omega)) _))

end Go.Proofs.Ytnhegohhffecpaa
