/- The contracts of package vec: each function gives what its plain function says, whatever it is given, and only makes memory. No conditions. -/
import Derived.Test.YtnhegohhffecpaaRows
import Derived.Test.YtnhegohhffecpaaLib
import Derived.Test.YtnhegohhffecpaaVecMath
import Derived.Outline
namespace Go.Proofs.Ytnhegohhffecpaa
open Go.ChangeShapes Go.WideShapes Go.ChangeAt Go.RowKit

abbrev V (m c : Int) : Value := .agg #[.int .i64 m, .int .i64 c]

theorem lec (x y : Int) (w : World) : Calls Try.prog 38 #[.int .i64 x, .int .i64 y] w fun e w' => e = .returned (.bool (decide (x ≤ y))) ∧ w' = w := by
  go_enter Try.func38, Try.ntmps38
  go_wp2
  go_ret
  exact ⟨rfl, rfl⟩

theorem bothLE (a b c d : Int) (w : World) : Calls Try.prog 37 #[V a b, V c d, .func (.func 38) #[] #[]] w fun e w' => e = .returned (.tuple #[.bool (decide (a ≤ c)), .bool (decide (b ≤ d))]) ∧ Below w.heap.size w w' := by
  go_enter Try.func37, Try.ntmps37
  go_wp2
  go_quiet ((go_at_call 38; exact Calls.quiet_of_same (lec _ _ _)))
  go_wp2
  go_ret2
  exact ⟨rfl, below_drewN (((Below.refl _ _).alloc (Nat.le_refl _) _).alloc (by simp) _) _⟩

theorem le (a b c d : Int) (w : World) : Calls Try.prog 19 #[V a b, V c d] w fun e w' => e = .returned (.bool (leB a b c d)) ∧ Below w.heap.size w w' := by
  go_enter Try.func19, Try.ntmps19
  go_wp2_with (go_at_call 37; refine (bothLE _ _ _ _ _).mono ?_; rintro e w' ⟨rfl, hb⟩)
  all_goals
    go_ret
    refine ⟨ret_bool ?_, (((Below.refl _ _).alloc (Nat.le_refl _) _).alloc (by simp) _).trans (hb.mono (by simp; omega))⟩
  · simp [leB]; omega
  · simp [leB]; omega
theorem le_eq {a b c d : Int} {r : Bool} {w : World} (h : leB a b c d = r) : Calls Try.prog 19 #[V a b, V c d] w fun e w' => e = .returned (.bool r) ∧ Below w.heap.size w w' := h ▸ le a b c d w

theorem of_ (m n : Int) (w : World) : Calls Try.prog 34 #[.int .i64 m, .int .i64 n] w fun e w' => e = .returned (V m n) ∧ Below w.heap.size w w' := by
  go_enter Try.func34, Try.ntmps34
  go_wp2
  exact bodyPost_ret (v := V m n) (by simp [results, Try.results34, go_sem]) rfl ⟨rfl, (Below.refl _ _).alloc (by simp) _⟩

theorem alike (n : Int) (w : World) : Calls Try.prog 31 #[.int .i64 n] w fun e w' => e = .returned (V n n) ∧ Below w.heap.size w w' := by
  go_enter Try.func31, Try.ntmps31
  go_wp2_with (go_at_call 34; refine (of_ _ _ _).mono ?_; rintro e w' ⟨rfl, hb⟩; obtain ⟨hc, hf⟩ := bcell hb; have hz := bsz hb w.heap.size (by simp))
  refine bodyPost_ret (v := V n n) (by simp [results, Try.results31, go_sem, hc, hz]) rfl ⟨rfl, ?_⟩
  exact ((((Below.refl _ _).alloc (Nat.le_refl _) _).trans (hb.mono (by simp))).setCell (Nat.le_refl _) _).setCell (Nat.le_refl _) _

theorem may (a b : Int) (w : World) : Calls Try.prog 13 #[V a b] w fun e w' => e = .returned (.bool (okV a b)) ∧ Below w.heap.size w w' := by
  rw [← okV_parts]
  cases h1 : leB (-1125899906842624) (-1125899906842624) a b
  all_goals
    go_enter Try.func13, Try.ntmps13
    go_wp2
    refine wp_region_past_lit (by kernel_rfl) (by kernel_rfl) ?_
    have hc := Past.cell (W := w.alloc (Obj.cells #[Value.int IntKind.i64 a, Value.int IntKind.i64 b] 23))
    repeat (go_big_quiet_step ((first | (go_at_call 31; exact Past.call _ (alike _ _)) | (go_at_call 19; exact Past.call _ (le_eq h1)) | (go_at_call 19; exact Past.call _ (le _ _ _ _ _)))))
    refine wpQuiet_nil ?_
    rintro _ ⟨x, rfl⟩
    go_wp2
    go_ret
    exact ⟨rfl, ((Below.refl _ _).alloc (Nat.le_refl _) _).trans (x.2.mono (by simp))⟩
theorem may_eq {a b : Int} {r : Bool} {w : World} (h : okV a b = r) : Calls Try.prog 13 #[V a b] w fun e w' => e = .returned (.bool r) ∧ Below w.heap.size w w' := h ▸ may a b w

theorem cl_sub (x y : Int) (w : World) (hx : -1125899906842624 ≤ x ∧ x ≤ 1125899906842624) (hy : -1125899906842624 ≤ y ∧ y ≤ 1125899906842624) : Calls Try.prog 26 #[.int .i64 x, .int .i64 y] w fun e w' => e = .returned (.int .i64 (x - y)) ∧ w' = w := by
  go_enter Try.func26, Try.ntmps26
  go_wp2
  go_ret
  exact ⟨rfl, rfl⟩
theorem cl_add (x y : Int) (w : World) (hx : -1125899906842624 ≤ x ∧ x ≤ 1125899906842624) (hy : -1125899906842624 ≤ y ∧ y ≤ 1125899906842624) : Calls Try.prog 39 #[.int .i64 x, .int .i64 y] w fun e w' => e = .returned (.int .i64 (x + y)) ∧ w' = w := by
  go_enter Try.func39, Try.ntmps39
  go_wp2
  go_ret
  exact ⟨rfl, rfl⟩
theorem cl_mn (x y : Int) (w : World) : Calls Try.prog 35 #[.int .i64 x, .int .i64 y] w fun e w' => e = .returned (.int .i64 (mn x y)) ∧ w' = w := by
  go_enter Try.func35, Try.ntmps35
  go_wp2
  all_goals
    go_ret
    exact ⟨ret_int (by unfold mn; split <;> omega), rfl⟩
theorem cl_mx (x y : Int) (w : World) : Calls Try.prog 36 #[.int .i64 x, .int .i64 y] w fun e w' => e = .returned (.int .i64 (mx x y)) ∧ w' = w := by
  go_enter Try.func36, Try.ntmps36
  go_wp2
  all_goals
    go_ret
    exact ⟨ret_int (by unfold mx; split <;> omega), rfl⟩
theorem cl_quo (x y : Int) (w : World) (hx : -1125899906842624 ≤ x ∧ x ≤ 1125899906842624) (hy : 1 ≤ y ∧ y ≤ 1125899906842624) : Calls Try.prog 33 #[.int .i64 x, .int .i64 y] w fun e w' => e = .returned (.int .i64 (x.tdiv y)) ∧ w' = w := by
  by_cases h : 0 ≤ x
  all_goals
    go_enter Try.func33, Try.ntmps33
    go_wp2
    go_ret
    exact ⟨ret_int (by first | rfl | exact (Int.tdiv_eq_ediv_of_nonneg h).symm), rfl⟩
theorem tm (x n : Int) (w : World) (hx : -1125899906842624 ≤ x ∧ x ≤ 1125899906842624) (hn : -9223372036854775808 ≤ n ∧ n ≤ 9223372036854775807) : Calls Try.prog 29 #[.int .i64 x, .int .i64 n] w fun e w' => e = .returned (.int .i64 (tmS x n)) ∧ w' = w := by
  have ht := tmS_ok (x := x) (n := n) (by omega) (by omega)
  rcases Int.lt_trichotomy x 0 with h | h | h
  · obtain ⟨m, rfl⟩ : ∃ m, x = -m := ⟨-x, by omega⟩
    have h0 : 0 < m := by omega
    have hm : mx (-m) (- -m) = m := by unfold mx; split <;> omega
    have hq : 0 ≤ 1125899906842624 / m ∧ 1125899906842624 / m ≤ 1125899906842624 := ⟨Int.ediv_nonneg (by omega) (by omega), Int.ediv_le_self _ (by omega)⟩
    have ht' : tmS (-m) n = if n < -(1125899906842624 / m) ∨ 1125899906842624 / m < n then 1125899906842625 else -m * n := by unfold tmS; rw [hm, if_neg (by omega)]
    have HT := hidE ht; have HT' := hidE ht'
    clear ht hm ht' h
    by_cases hl : n < -(1125899906842624 / m)
    · go_enter Try.func29, Try.ntmps29
      go_wp2
      go_ret
      exact ⟨ret_int (by rw [HT'.out, if_pos (.inl hl)]), rfl⟩
    by_cases hr : 1125899906842624 / m < n
    · go_enter Try.func29, Try.ntmps29
      go_wp2
      go_ret
      exact ⟨ret_int (by rw [HT'.out, if_pos (.inr hr)]), rfl⟩
    · go_enter Try.func29, Try.ntmps29
      go_wp2
      go_ret
      refine ⟨ret_int ?_, rfl⟩
      have e := HT'.out
      rw [if_neg (by omega)] at e
      rw [e]
      exact IntWalk.wrap64_in _ (by rcases HT.out with ⟨e1, e2⟩ | ⟨e1, e2⟩ <;> omega)
  · subst h
    go_enter Try.func29, Try.ntmps29
    go_wp2
    go_ret
    exact ⟨ret_int (by simp [tmS]), rfl⟩
  · have hm : mx x (-x) = x := by unfold mx; split <;> omega
    have hq : 0 ≤ 1125899906842624 / x ∧ 1125899906842624 / x ≤ 1125899906842624 := ⟨Int.ediv_nonneg (by omega) (by omega), Int.ediv_le_self _ (by omega)⟩
    have ht' : tmS x n = if n < -(1125899906842624 / x) ∨ 1125899906842624 / x < n then 1125899906842625 else x * n := by unfold tmS; rw [hm, if_neg (by omega)]
    have HT := hidE ht; have HT' := hidE ht'
    clear ht hm ht'
    by_cases hl : n < -(1125899906842624 / x)
    · go_enter Try.func29, Try.ntmps29
      go_wp2
      go_ret
      exact ⟨ret_int (by rw [HT'.out, if_pos (.inl hl)]), rfl⟩
    by_cases hr : 1125899906842624 / x < n
    · go_enter Try.func29, Try.ntmps29
      go_wp2
      go_ret
      exact ⟨ret_int (by rw [HT'.out, if_pos (.inr hr)]), rfl⟩
    · go_enter Try.func29, Try.ntmps29
      go_wp2
      go_ret
      refine ⟨ret_int ?_, rfl⟩
      have e := HT'.out
      rw [if_neg (by omega)] at e
      rw [e]
      exact IntWalk.wrap64_in _ (by rcases HT.out with ⟨e1, e2⟩ | ⟨e1, e2⟩ <;> omega)

/-- Both components by one closure that only computes. -/
theorem both_sub (a b c d : Int) (w : World) (h1 : okV a b = true) (h2 : okV c d = true) :
    Calls Try.prog 32 #[V a b, V c d, .func (.func 26) #[] #[]] w fun e w' => e = .returned (.tuple #[.int .i64 (a - c), .int .i64 (b - d)]) ∧ Below w.heap.size w w' := by
  have g1 := h1; have g2 := h2
  simp only [okV_iff] at g1 g2
  have G1 := hidE g1; have G2 := hidE g2
  clear g1 g2 h1 h2
  go_enter Try.func32, Try.ntmps32
  go_wp2
  go_quiet ((go_at_call 26; exact Calls.quiet_of_same (cl_sub _ _ _ (by have := G1.out; have := G2.out; omega) (by have := G1.out; have := G2.out; omega))))
  go_wp2
  go_ret2
  exact ⟨rfl, below_drewN (((Below.refl _ _).alloc (Nat.le_refl _) _).alloc (by simp) _) _⟩
theorem both_add (a b c d : Int) (w : World) (h1 : okV a b = true) (h2 : okV c d = true) :
    Calls Try.prog 32 #[V a b, V c d, .func (.func 39) #[] #[]] w fun e w' => e = .returned (.tuple #[.int .i64 (a + c), .int .i64 (b + d)]) ∧ Below w.heap.size w w' := by
  have g1 := h1; have g2 := h2
  simp only [okV_iff] at g1 g2
  have G1 := hidE g1; have G2 := hidE g2
  clear g1 g2 h1 h2
  go_enter Try.func32, Try.ntmps32
  go_wp2
  go_quiet ((go_at_call 39; exact Calls.quiet_of_same (cl_add _ _ _ (by have := G1.out; have := G2.out; omega) (by have := G1.out; have := G2.out; omega))))
  go_wp2
  go_ret2
  exact ⟨rfl, below_drewN (((Below.refl _ _).alloc (Nat.le_refl _) _).alloc (by simp) _) _⟩
theorem both_quo (a b c d : Int) (w : World) (h1 : okV a b = true) (h2 : okV c d = true ∧ 1 ≤ c ∧ 1 ≤ d) :
    Calls Try.prog 32 #[V a b, V c d, .func (.func 33) #[] #[]] w fun e w' => e = .returned (.tuple #[.int .i64 (a.tdiv c), .int .i64 (b.tdiv d)]) ∧ Below w.heap.size w w' := by
  have g1 := h1; have g2 := h2
  simp only [okV_iff] at g1 g2
  have G1 := hidE g1; have G2 := hidE g2
  clear g1 g2 h1 h2
  go_enter Try.func32, Try.ntmps32
  go_wp2
  go_quiet ((go_at_call 33; exact Calls.quiet_of_same (cl_quo _ _ _ (by have := G1.out; have := G2.out; omega) (by have := G1.out; have := G2.out; omega))))
  go_wp2
  go_ret2
  exact ⟨rfl, below_drewN (((Below.refl _ _).alloc (Nat.le_refl _) _).alloc (by simp) _) _⟩
theorem both_mn (a b c d : Int) (w : World) :
    Calls Try.prog 32 #[V a b, V c d, .func (.func 35) #[] #[]] w fun e w' => e = .returned (.tuple #[.int .i64 (mn a c), .int .i64 (mn b d)]) ∧ Below w.heap.size w w' := by
  go_enter Try.func32, Try.ntmps32
  go_wp2
  go_quiet ((go_at_call 35; exact Calls.quiet_of_same (cl_mn _ _ _)))
  go_wp2
  go_ret2
  exact ⟨rfl, below_drewN (((Below.refl _ _).alloc (Nat.le_refl _) _).alloc (by simp) _) _⟩
theorem both_mx (a b c d : Int) (w : World) :
    Calls Try.prog 32 #[V a b, V c d, .func (.func 36) #[] #[]] w fun e w' => e = .returned (.tuple #[.int .i64 (mx a c), .int .i64 (mx b d)]) ∧ Below w.heap.size w w' := by
  go_enter Try.func32, Try.ntmps32
  go_wp2
  go_quiet ((go_at_call 36; exact Calls.quiet_of_same (cl_mx _ _ _)))
  go_wp2
  go_ret2
  exact ⟨rfl, below_drewN (((Below.refl _ _).alloc (Nat.le_refl _) _).alloc (by simp) _) _⟩
end Go.Proofs.Ytnhegohhffecpaa
