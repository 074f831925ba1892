/- The contracts of vec.May and what it calls: each gives what its plain function says, whatever it is given, and only makes memory. No conditions. -/
import Derived.Test.YtibmldgbimjgfaaRows
import Derived.Test.YtibmldgbimjgfaaLib
import Derived.Test.YtibmldgbimjgfaaVecMath
import Derived.Outline
namespace Go.Proofs.Ytibmldgbimjgfaa
open Go.ChangeShapes Go.WideShapes Go.ChangeAt Go.RowKit

abbrev V (m c : Int) : Value := .agg #[.int .i64 m, .int .i64 c]

theorem lec (x y : Int) (w : World) : Calls Try.prog 41 #[.int .i64 x, .int .i64 y] w fun e w' => e = .returned (.bool (decide (x ≤ y))) ∧ w' = w := by
  go_enter Try.func41, Try.ntmps41
  go_wp2
  go_ret
  exact ⟨rfl, rfl⟩

theorem bothLE (a b c d : Int) (w : World) : Calls Try.prog 40 #[V a b, V c d, .func (.func 41) #[] #[]] w fun e w' => e = .returned (.tuple #[.bool (decide (a ≤ c)), .bool (decide (b ≤ d))]) ∧ Below w.heap.size w w' := by
  go_enter Try.func40, Try.ntmps40
  go_wp2
  go_quiet ((go_at_call 41; exact Calls.quiet_of_same (lec _ _ _)))
  go_wp2
  go_ret2
  exact ⟨rfl, below_drewN (((Below.refl _ _).alloc (Nat.le_refl _) _).alloc (by simp) _) _⟩

theorem le (a b c d : Int) (w : World) : Calls Try.prog 35 #[V a b, V c d] w fun e w' => e = .returned (.bool (leB a b c d)) ∧ Below w.heap.size w w' := by
  go_enter Try.func35, Try.ntmps35
  go_wp2_with (go_at_call 40; refine (bothLE _ _ _ _ _).mono ?_; rintro e w' ⟨rfl, hb⟩)
  all_goals
    go_ret
    refine ⟨ret_bool ?_, (((Below.refl _ _).alloc (Nat.le_refl _) _).alloc (by simp) _).trans (hb.mono (by simp; omega))⟩
  · simp [leB]; omega
  · simp [leB]; omega
theorem le_eq {a b c d : Int} {r : Bool} {w : World} (h : leB a b c d = r) : Calls Try.prog 35 #[V a b, V c d] w fun e w' => e = .returned (.bool r) ∧ Below w.heap.size w w' := h ▸ le a b c d w

theorem of_ (m n : Int) (w : World) : Calls Try.prog 42 #[.int .i64 m, .int .i64 n] w fun e w' => e = .returned (V m n) ∧ Below w.heap.size w w' := by
  go_enter Try.func42, Try.ntmps42
  go_wp2
  exact bodyPost_ret (v := V m n) (by simp [results, Try.results42, go_sem]) rfl ⟨rfl, (Below.refl _ _).alloc (by simp) _⟩

theorem alike (n : Int) (w : World) : Calls Try.prog 36 #[.int .i64 n] w fun e w' => e = .returned (V n n) ∧ Below w.heap.size w w' := by
  go_enter Try.func36, Try.ntmps36
  go_wp2_with (go_at_call 42; refine (of_ _ _ _).mono ?_; rintro e w' ⟨rfl, hb⟩; obtain ⟨hc, hf⟩ := bcell hb; have hz := bsz hb w.heap.size (by simp))
  refine bodyPost_ret (v := V n n) (by simp [results, Try.results36, go_sem, hc, hz]) rfl ⟨rfl, ?_⟩
  exact ((((Below.refl _ _).alloc (Nat.le_refl _) _).trans (hb.mono (by simp))).setCell (Nat.le_refl _) _).setCell (Nat.le_refl _) _

theorem may (a b : Int) (w : World) : Calls Try.prog 25 #[V a b] w fun e w' => e = .returned (.bool (okV a b)) ∧ Below w.heap.size w w' := by
  rw [← okV_parts]
  cases h1 : leB (-1125899906842624) (-1125899906842624) a b
  all_goals
    go_enter Try.func25, Try.ntmps25
    go_wp2
    refine wp_region_past_lit (by kernel_rfl) (by kernel_rfl) ?_
    have hc := Past.cell (W := w.alloc (Obj.cells #[Value.int IntKind.i64 a, Value.int IntKind.i64 b] 28))
    repeat (go_big_quiet_step ((first | (go_at_call 36; exact Past.call _ (alike _ _)) | (go_at_call 35; exact Past.call _ (le_eq h1)) | (go_at_call 35; exact Past.call _ (le _ _ _ _ _)))))
    refine wpQuiet_nil ?_
    rintro _ ⟨x, rfl⟩
    go_wp2
    go_ret
    exact ⟨rfl, ((Below.refl _ _).alloc (Nat.le_refl _) _).trans (x.2.mono (by simp))⟩
theorem may_eq {a b : Int} {r : Bool} {w : World} (h : okV a b = r) : Calls Try.prog 25 #[V a b] w fun e w' => e = .returned (.bool r) ∧ Below w.heap.size w w' := h ▸ may a b w
end Go.Proofs.Ytibmldgbimjgfaa
