/- The contracts of the document's own answers for vec. No conditions. -/
import Derived.Test.YtnhegohhffecpaaVec3
namespace Go.Proofs.Ytnhegohhffecpaa
open Go.ChangeShapes Go.WideShapes Go.ChangeAt Go.RowKit

theorem rmay (a b : Int) (w : World) : Calls Try.prog 14 #[V a b] w fun e w' => e = .returned (.bool (okV a b)) ∧ Below w.heap.size w w' := by
  go_enter Try.func14, Try.ntmps14
  go_wp2
  all_goals
    go_ret
    refine ⟨ret_bool (by unfold okV; rw [Bool.eq_iff_iff]; simp; omega), ?_⟩
    (repeat (first | exact Below.refl _ _ | assumption | refine balloc ?_ _ | refine below_drewN ?_ _ | refine bstep (by assumption) ?_ | refine bstep (Past.prop _) ?_ | refine Below.setCell ?_ (by first | exact Nat.le_refl _ | (simp; done) | (simp; omega)) _))
theorem rmay_eq {a b : Int} {r : Bool} {w : World} (h : okV a b = r) : Calls Try.prog 14 #[V a b] w fun e w' => e = .returned (.bool r) ∧ Below w.heap.size w w' := h ▸ rmay a b w

theorem rle (a b c d : Int) (w : World) : Calls Try.prog 20 #[V a b, V c d] w fun e w' => e = .returned (.bool (leB a b c d)) ∧ Below w.heap.size w w' := by
  go_enter Try.func20, Try.ntmps20
  go_wp2
  all_goals
    go_ret
    refine ⟨ret_bool (by unfold leB; rw [Bool.eq_iff_iff]; simp; omega), ?_⟩
    (repeat (first | exact Below.refl _ _ | assumption | refine balloc ?_ _ | refine below_drewN ?_ _ | refine bstep (by assumption) ?_ | refine bstep (Past.prop _) ?_ | refine Below.setCell ?_ (by first | exact Nat.le_refl _ | (simp; done) | (simp; omega)) _))

theorem rmn (a b c d : Int) (w : World) : Calls Try.prog 16 #[V a b, V c d] w fun e w' => e = .returned (V (mn a c) (mn b d)) ∧ Below w.heap.size w w' := by
  go_enter Try.func16, Try.ntmps16
  go_wp2
  all_goals
    refine bodyPost_ret (v := V (mn a c) (mn b d)) (by unfold mn; simp [results, Try.results16, go_sem, *]; try omega) rfl ⟨rfl, ?_⟩
    (repeat (first | exact Below.refl _ _ | assumption | refine balloc ?_ _ | refine below_drewN ?_ _ | refine bstep (by assumption) ?_ | refine bstep (Past.prop _) ?_ | refine Below.setCell ?_ (by first | exact Nat.le_refl _ | (simp; done) | (simp; omega)) _))
theorem rmx (a b c d : Int) (w : World) : Calls Try.prog 18 #[V a b, V c d] w fun e w' => e = .returned (V (mx a c) (mx b d)) ∧ Below w.heap.size w w' := by
  go_enter Try.func18, Try.ntmps18
  go_wp2
  all_goals
    refine bodyPost_ret (v := V (mx a c) (mx b d)) (by unfold mx; simp [results, Try.results18, go_sem, *]; try omega) rfl ⟨rfl, ?_⟩
    (repeat (first | exact Below.refl _ _ | assumption | refine balloc ?_ _ | refine below_drewN ?_ _ | refine bstep (by assumption) ?_ | refine bstep (Past.prop _) ?_ | refine Below.setCell ?_ (by first | exact Nat.le_refl _ | (simp; done) | (simp; omega)) _))

theorem rtold (a b : Int) (w : World) : Calls Try.prog 40 #[V a b] w fun e w' => e = .returned (VE (gate (okV a b) a b)) ∧ Below w.heap.size w w' := by
  cases h : okV a b
  · rw [gate_false rfl]
    go_enter Try.func40, Try.ntmps40
    go_wp2_with (go_at_call 14; ((with_reducible refine (rmay_eq h).mono ?_); rintro e w' ⟨rfl, hb⟩; obtain ⟨hc, hf⟩ := bcell hb; have hz0 := bsz hb (w.heap.size) (by first | assumption | (simp; done) | (simp; omega)); have hz1 := bsz hb (w.heap.size + 1) (by first | assumption | (simp; done) | (simp; omega))))
    refine bodyPost_ret (v := VE (0, 0, 10)) (by simp [results, Try.results40, go_sem, *]) rfl ⟨rfl, ?_⟩
    (repeat (first | exact Below.refl _ _ | assumption | refine balloc ?_ _ | refine below_drewN ?_ _ | refine bstep (by assumption) ?_ | refine bstep (Past.prop _) ?_ | refine Below.setCell ?_ (by first | exact Nat.le_refl _ | (simp; done) | (simp; omega)) _))
  · rw [gate_true rfl]
    go_enter Try.func40, Try.ntmps40
    go_wp2_with (go_at_call 14; ((with_reducible refine (rmay_eq h).mono ?_); rintro e w' ⟨rfl, hb⟩; obtain ⟨hc, hf⟩ := bcell hb; have hz0 := bsz hb (w.heap.size) (by first | assumption | (simp; done) | (simp; omega)); have hz1 := bsz hb (w.heap.size + 1) (by first | assumption | (simp; done) | (simp; omega))))
    refine bodyPost_ret (v := VE (a, b, 0)) (by simp [results, Try.results40, go_sem, *]) rfl ⟨rfl, ?_⟩
    (repeat (first | exact Below.refl _ _ | assumption | refine balloc ?_ _ | refine below_drewN ?_ _ | refine bstep (by assumption) ?_ | refine bstep (Past.prop _) ?_ | refine Below.setCell ?_ (by first | exact Nat.le_refl _ | (simp; done) | (simp; omega)) _))

theorem radd_no (a b c d : Int) (w : World) (h : (okV a b && okV c d) = false) : Calls Try.prog 27 #[V a b, V c d] w fun e w' => e = .returned (VE (0, 0, 10)) ∧ Below w.heap.size w w' := by
  cases h1 : okV a b
  · clear h
    go_enter Try.func27, Try.ntmps27
    go_wp2_with (go_at_call 14; ((with_reducible refine (rmay_eq h1).mono ?_); rintro e w' ⟨rfl, hb⟩; obtain ⟨hc, hf⟩ := bcell hb; have hz0 := bsz hb (w.heap.size) (by first | assumption | (simp; done) | (simp; omega)); have hz1 := bsz hb (w.heap.size + 1) (by first | assumption | (simp; done) | (simp; omega)); have hz2 := bsz hb (w.heap.size + 1 + 1) (by first | assumption | (simp; done) | (simp; omega))))
    refine bodyPost_ret (v := VE (0, 0, 10)) (by simp [results, Try.results27, go_sem, *]) rfl ⟨rfl, ?_⟩
    (repeat (first | exact Below.refl _ _ | assumption | refine balloc ?_ _ | refine below_drewN ?_ _ | refine bstep (by assumption) ?_ | refine bstep (Past.prop _) ?_ | refine Below.setCell ?_ (by first | exact Nat.le_refl _ | (simp; done) | (simp; omega)) _))
  · have h2 : okV c d = false := by rw [h1] at h; simpa using h
    clear h
    go_enter Try.func27, Try.ntmps27
    go_wp2_with (first | (go_at_call 14; ((with_reducible refine (rmay_eq h1).mono ?_); rintro e w' ⟨rfl, hb⟩; obtain ⟨hc, hf⟩ := bcell hb; have hz0 := bsz hb (w.heap.size) (by first | assumption | (simp; done) | (simp; omega)); have hz1 := bsz hb (w.heap.size + 1) (by first | assumption | (simp; done) | (simp; omega)); have hz2 := bsz hb (w.heap.size + 1 + 1) (by first | assumption | (simp; done) | (simp; omega)))) | (go_at_call 14; ((with_reducible refine (rmay_eq h2).mono ?_); rintro e w' ⟨rfl, hb⟩; obtain ⟨hc, hf⟩ := bcell hb; have hz0 := bsz hb (w.heap.size) (by first | assumption | (simp; done) | (simp; omega)); have hz1 := bsz hb (w.heap.size + 1) (by first | assumption | (simp; done) | (simp; omega)); have hz2 := bsz hb (w.heap.size + 1 + 1) (by first | assumption | (simp; done) | (simp; omega)))))
    refine bodyPost_ret (v := VE (0, 0, 10)) (by simp [results, Try.results27, go_sem, *]) rfl ⟨rfl, ?_⟩
    (repeat (first | exact Below.refl _ _ | assumption | refine balloc ?_ _ | refine below_drewN ?_ _ | refine bstep (by assumption) ?_ | refine bstep (Past.prop _) ?_ | refine Below.setCell ?_ (by first | exact Nat.le_refl _ | (simp; done) | (simp; omega)) _))

theorem radd (a b c d : Int) (w : World) : Calls Try.prog 27 #[V a b, V c d] w fun e w' => e = .returned (VE (addS a b c d)) ∧ Below w.heap.size w w' := by
  cases h : (okV a b && okV c d)
  · have e : addS a b c d = (0, 0, 10) := by unfold addS; exact gate_no h
    rw [e]; exact radd_no a b c d w h
  · have e : addS a b c d = gate (okV (a + c) (b + d)) (a + c) (b + d) := by unfold addS; rw [h]; rfl
    obtain ⟨h1, h2⟩ : okV a b = true ∧ okV c d = true := by simpa using h
    have g1 := okV_iff.1 h1; have g2 := okV_iff.1 h2
    rw [e]; clear e h
    generalize hg : gate (okV (a + c) (b + d)) (a + c) (b + d) = g
    have Hg := hidE hg; clear hg
    go_enter Try.func27, Try.ntmps27
    go_wp2_with (first | (go_at_call 14; ((with_reducible refine (rmay_eq h1).mono ?_); rintro e w' ⟨rfl, hb⟩; obtain ⟨hc, hf⟩ := bcell hb; have hz0 := bsz hb (w.heap.size) (by first | assumption | (simp; done) | (simp; omega)); have hz1 := bsz hb (w.heap.size + 1) (by first | assumption | (simp; done) | (simp; omega)); have hz2 := bsz hb (w.heap.size + 1 + 1) (by first | assumption | (simp; done) | (simp; omega)))) | (go_at_call 14; ((with_reducible refine (rmay_eq h2).mono ?_); rintro e w' ⟨rfl, hb⟩; obtain ⟨hc, hf⟩ := bcell hb; have hz0 := bsz hb (w.heap.size) (by first | assumption | (simp; done) | (simp; omega)); have hz1 := bsz hb (w.heap.size + 1) (by first | assumption | (simp; done) | (simp; omega)); have hz2 := bsz hb (w.heap.size + 1 + 1) (by first | assumption | (simp; done) | (simp; omega)))) | (go_at_call 40; ((with_reducible refine (rtold (a + c) (b + d) _).mono ?_); rintro e w' ⟨rfl, hb⟩; rw [Hg.out]; obtain ⟨hc, hf⟩ := bcell hb; have hz2 := bsz hb (w.heap.size + 1 + 1) (by first | assumption | (simp; done) | (simp; omega)))))
    refine bodyPost_ret (v := VE g) (by simp [results, Try.results27, go_sem, *]) rfl ⟨rfl, ?_⟩
    (repeat (first | exact Below.refl _ _ | assumption | refine balloc ?_ _ | refine below_drewN ?_ _ | refine bstep (by assumption) ?_ | refine bstep (Past.prop _) ?_ | refine Below.setCell ?_ (by first | exact Nat.le_refl _ | (simp; done) | (simp; omega)) _))


theorem rsub (a b c d : Int) (w : World) : Calls Try.prog 8 #[V a b, V c d] w fun e w' => e = .returned (VE (subS a b c d)) ∧ Below w.heap.size w w' := by
  cases h2 : okV c d
  · have e : subS a b c d = (0, 0, 10) := by unfold subS; exact gate_no (by rw [h2]; simp)
    rw [e]; clear e
    go_enter Try.func8, Try.ntmps8
    go_wp2_with (go_at_call 14; ((with_reducible refine (rmay_eq h2).mono ?_); rintro e w' ⟨rfl, hb⟩; obtain ⟨hc, hf⟩ := bcell hb; have hz0 := bsz hb (w.heap.size) (by first | assumption | (simp; done) | (simp; omega)); have hz1 := bsz hb (w.heap.size + 1) (by first | assumption | (simp; done) | (simp; omega)); have hz2 := bsz hb (w.heap.size + 1 + 1) (by first | assumption | (simp; done) | (simp; omega))))
    refine bodyPost_ret (v := VE (0, 0, 10)) (by simp [results, Try.results8, go_sem, *]) rfl ⟨rfl, ?_⟩
    (repeat (first | exact Below.refl _ _ | assumption | refine balloc ?_ _ | refine below_drewN ?_ _ | refine bstep (by assumption) ?_ | refine bstep (Past.prop _) ?_ | refine Below.setCell ?_ (by first | exact Nat.le_refl _ | (simp; done) | (simp; omega)) _))
  · have e : subS a b c d = addS a b (-c) (-d) := by
      have : okV (-c) (-d) = okV c d := by unfold okV; rw [decide_eq_decide]; omega
      unfold subS addS; rw [this, Int.sub_eq_add_neg, Int.sub_eq_add_neg]
    have g2 := okV_iff.1 h2
    rw [e]; clear e
    go_enter Try.func8, Try.ntmps8
    go_wp2_with (first | (go_at_call 14; ((with_reducible refine (rmay_eq h2).mono ?_); rintro e w' ⟨rfl, hb⟩; obtain ⟨hc, hf⟩ := bcell hb; have hz0 := bsz hb (w.heap.size) (by first | assumption | (simp; done) | (simp; omega)); have hz1 := bsz hb (w.heap.size + 1) (by first | assumption | (simp; done) | (simp; omega)); have hz2 := bsz hb (w.heap.size + 1 + 1) (by first | assumption | (simp; done) | (simp; omega)))) | (go_at_call 27; ((with_reducible refine (radd a b (-c) (-d) _).mono ?_); rintro e w' ⟨rfl, hb⟩; obtain ⟨hc, hf⟩ := bcell hb; have hz2 := bsz hb (w.heap.size + 1 + 1) (by first | assumption | (simp; done) | (simp; omega)))))
    refine bodyPost_ret (v := VE (addS a b (-c) (-d))) (by simp [results, Try.results8, go_sem, *]) rfl ⟨rfl, ?_⟩
    (repeat (first | exact Below.refl _ _ | assumption | refine balloc ?_ _ | refine below_drewN ?_ _ | refine bstep (by assumption) ?_ | refine bstep (Past.prop _) ?_ | refine Below.setCell ?_ (by first | exact Nat.le_refl _ | (simp; done) | (simp; omega)) _))

/-- The reference's product: true just where the product may be, for a number that may be. -/
def RT (x n : Int) (r : Int) (b : Bool) : Prop := -1125899906842624 ≤ x ∧ x ≤ 1125899906842624 → (b = decide (-1125899906842624 ≤ x * n ∧ x * n ≤ 1125899906842624)) ∧ (b = true → r = x * n)
def RTs (x n : Int) (w : World) (e : Ending) (w' : World) : Prop := ∃ r b, e = .returned (.tuple #[.int .i64 r, .bool b]) ∧ RT x n r b ∧ w' = w
theorem run_eq {a b c d : Int} : unS a b c d = unS a b c d := rfl
theorem run_c (a b c d : Int) (w : World) : Calls Try.prog 12 #[V a b, V c d] w fun e w' => e = .returned (IE (unS a b c d)) ∧ Below w.heap.size w w' := by
  by_cases h1 : c < 1
  · have e : unS a b c d = (0, 2) := by unfold unS; rw [if_pos (.inl h1)]
    rw [e]; clear e
    go_enter Try.func12, Try.ntmps12
    go_wp2
    go_ret2
    refine ⟨rfl, ?_⟩
    (repeat (first | exact Below.refl _ _ | assumption | refine balloc ?_ _ | refine below_drewN ?_ _ | refine bstep (by assumption) ?_ | refine bstep (Past.prop _) ?_ | refine Below.setCell ?_ (by first | exact Nat.le_refl _ | (simp; done) | (simp; omega)) _))
  by_cases h1' : d < 1
  · have e : unS a b c d = (0, 2) := by unfold unS; rw [if_pos (.inr h1')]
    rw [e]; clear e
    go_enter Try.func12, Try.ntmps12
    go_wp2
    go_ret2
    refine ⟨rfl, ?_⟩
    (repeat (first | exact Below.refl _ _ | assumption | refine balloc ?_ _ | refine below_drewN ?_ _ | refine bstep (by assumption) ?_ | refine bstep (Past.prop _) ?_ | refine Below.setCell ?_ (by first | exact Nat.le_refl _ | (simp; done) | (simp; omega)) _))
  cases h3 : okV a b
  · have e : unS a b c d = (0, 10) := by unfold unS; rw [if_neg (by omega), if_pos (by rw [h3]; rfl)]
    rw [e]; clear e
    go_enter Try.func12, Try.ntmps12
    go_wp2_with (go_at_call 14; ((with_reducible refine (rmay_eq h3).mono ?_); rintro e w' ⟨rfl, hb⟩; obtain ⟨hc, hf⟩ := bcell hb; have hz0 := bsz hb (w.heap.size) (by first | assumption | (simp; done) | (simp; omega)); have hz1 := bsz hb (w.heap.size + 1) (by first | assumption | (simp; done) | (simp; omega))))
    go_ret2
    refine ⟨rfl, ?_⟩
    (repeat (first | exact Below.refl _ _ | assumption | refine balloc ?_ _ | refine below_drewN ?_ _ | refine bstep (by assumption) ?_ | refine bstep (Past.prop _) ?_ | refine Below.setCell ?_ (by first | exact Nat.le_refl _ | (simp; done) | (simp; omega)) _))
  cases h4 : okV c d
  · have e : unS a b c d = (0, 10) := by unfold unS; rw [if_neg (by omega), if_pos (by rw [h3, h4]; rfl)]
    rw [e]; clear e
    go_enter Try.func12, Try.ntmps12
    go_wp2_with (first | (go_at_call 14; ((with_reducible refine (rmay_eq h3).mono ?_); rintro e w' ⟨rfl, hb⟩; obtain ⟨hc, hf⟩ := bcell hb; have hz0 := bsz hb (w.heap.size) (by first | assumption | (simp; done) | (simp; omega)); have hz1 := bsz hb (w.heap.size + 1) (by first | assumption | (simp; done) | (simp; omega)))) | (go_at_call 14; ((with_reducible refine (rmay_eq h4).mono ?_); rintro e w' ⟨rfl, hb⟩; obtain ⟨hc, hf⟩ := bcell hb; have hz0 := bsz hb (w.heap.size) (by first | assumption | (simp; done) | (simp; omega)); have hz1 := bsz hb (w.heap.size + 1) (by first | assumption | (simp; done) | (simp; omega)))))
    go_ret2
    refine ⟨rfl, ?_⟩
    (repeat (first | exact Below.refl _ _ | assumption | refine balloc ?_ _ | refine below_drewN ?_ _ | refine bstep (by assumption) ?_ | refine bstep (Past.prop _) ?_ | refine Below.setCell ?_ (by first | exact Nat.le_refl _ | (simp; done) | (simp; omega)) _))
  have g1 := okV_iff.1 h3; have g2 := okV_iff.1 h4
  by_cases h5 : a < 0
  · have e : unS a b c d = (0, 0) := by unfold unS; rw [if_neg (by omega), if_neg (by rw [h3, h4]; decide), if_pos (.inl h5)]
    rw [e]; clear e
    go_enter Try.func12, Try.ntmps12
    go_wp2_with (first | (go_at_call 14; ((with_reducible refine (rmay_eq h3).mono ?_); rintro e w' ⟨rfl, hb⟩; obtain ⟨hc, hf⟩ := bcell hb; have hz0 := bsz hb (w.heap.size) (by first | assumption | (simp; done) | (simp; omega)); have hz1 := bsz hb (w.heap.size + 1) (by first | assumption | (simp; done) | (simp; omega)))) | (go_at_call 14; ((with_reducible refine (rmay_eq h4).mono ?_); rintro e w' ⟨rfl, hb⟩; obtain ⟨hc, hf⟩ := bcell hb; have hz0 := bsz hb (w.heap.size) (by first | assumption | (simp; done) | (simp; omega)); have hz1 := bsz hb (w.heap.size + 1) (by first | assumption | (simp; done) | (simp; omega)))))
    go_ret2
    refine ⟨rfl, ?_⟩
    (repeat (first | exact Below.refl _ _ | assumption | refine balloc ?_ _ | refine below_drewN ?_ _ | refine bstep (by assumption) ?_ | refine bstep (Past.prop _) ?_ | refine Below.setCell ?_ (by first | exact Nat.le_refl _ | (simp; done) | (simp; omega)) _))
  by_cases h6 : b < 0
  · have e : unS a b c d = (0, 0) := by unfold unS; rw [if_neg (by omega), if_neg (by rw [h3, h4]; decide), if_pos (.inr h6)]
    rw [e]; clear e
    go_enter Try.func12, Try.ntmps12
    go_wp2_with (first | (go_at_call 14; ((with_reducible refine (rmay_eq h3).mono ?_); rintro e w' ⟨rfl, hb⟩; obtain ⟨hc, hf⟩ := bcell hb; have hz0 := bsz hb (w.heap.size) (by first | assumption | (simp; done) | (simp; omega)); have hz1 := bsz hb (w.heap.size + 1) (by first | assumption | (simp; done) | (simp; omega)))) | (go_at_call 14; ((with_reducible refine (rmay_eq h4).mono ?_); rintro e w' ⟨rfl, hb⟩; obtain ⟨hc, hf⟩ := bcell hb; have hz0 := bsz hb (w.heap.size) (by first | assumption | (simp; done) | (simp; omega)); have hz1 := bsz hb (w.heap.size + 1) (by first | assumption | (simp; done) | (simp; omega)))))
    go_ret2
    refine ⟨rfl, ?_⟩
    (repeat (first | exact Below.refl _ _ | assumption | refine balloc ?_ _ | refine below_drewN ?_ _ | refine bstep (by assumption) ?_ | refine bstep (Past.prop _) ?_ | refine Below.setCell ?_ (by first | exact Nat.le_refl _ | (simp; done) | (simp; omega)) _))
  have e : unS a b c d = (mn (a / c) (b / d), 0) := by unfold unS; rw [if_neg (by omega), if_neg (by rw [h3, h4]; decide), if_neg (by omega)]
  rw [e]; clear e
  by_cases h7 : a / c ≤ b / d
  all_goals
    go_enter Try.func12, Try.ntmps12
    go_wp2_with (first | (go_at_call 14; ((with_reducible refine (rmay_eq h3).mono ?_); rintro e w' ⟨rfl, hb⟩; obtain ⟨hc, hf⟩ := bcell hb; have hz0 := bsz hb (w.heap.size) (by first | assumption | (simp; done) | (simp; omega)); have hz1 := bsz hb (w.heap.size + 1) (by first | assumption | (simp; done) | (simp; omega)))) | (go_at_call 14; ((with_reducible refine (rmay_eq h4).mono ?_); rintro e w' ⟨rfl, hb⟩; obtain ⟨hc, hf⟩ := bcell hb; have hz0 := bsz hb (w.heap.size) (by first | assumption | (simp; done) | (simp; omega)); have hz1 := bsz hb (w.heap.size + 1) (by first | assumption | (simp; done) | (simp; omega)))))
    go_quiet (fail)
    go_wp2
    go_ret2
    refine ⟨ret_tup ?_, ?_⟩
    · exact congrArg (fun z : Int => (#[.int .i64 z, .int .i64 0] : Array Value)) (by unfold mn; split <;> omega)
    · (repeat (first | exact Below.refl _ _ | assumption | refine balloc ?_ _ | refine below_drewN ?_ _ | refine bstep (by assumption) ?_ | refine bstep (Past.prop _) ?_ | refine Below.setCell ?_ (by first | exact Nat.le_refl _ | (simp; done) | (simp; omega)) _))

end Go.Proofs.Ytnhegohhffecpaa
