/- The contracts of package vec, third part: Sub, Scale, Units. No conditions. -/
import Derived.Test.YtnhegohhffecpaaVec2
namespace Go.Proofs.Ytnhegohhffecpaa
open Go.ChangeShapes Go.WideShapes Go.ChangeAt Go.RowKit

theorem gate_no {a b c : Bool} {x y : Int} (h : (a && b) = false) : gate (a && b && c) x y = (0, 0, 10) := by rw [h]; rfl

theorem sub_c (a b c d : Int) (w : World) : Calls Try.prog 7 #[V a b, V c d] w fun e w' => e = .returned (VE (subS a b c d)) ∧ Below w.heap.size w w' := by
  cases h : (okV a b && okV c d)
  · have e : subS a b c d = (0, 0, 10) := by unfold subS; exact gate_no h
    rw [e]; clear e
    go_enter Try.func7, Try.ntmps7
    go_wp2_with (go_at_call 25; ((with_reducible refine (valid_no _ _ _ _ _ _ h).mono ?_); rintro e w' ⟨rfl, hb⟩; obtain ⟨hc, hf⟩ := bcell hb; have hz0 := bsz hb (w.heap.size) (by first | assumption | (simp; done) | (simp; omega)); have hz1 := bsz hb (w.heap.size + 1) (by first | assumption | (simp; done) | (simp; omega)); have hz2 := bsz hb (w.heap.size + 1 + 1) (by first | assumption | (simp; done) | (simp; omega))))
    refine bodyPost_ret (v := VE (0, 0, 10)) (by simp [results, Try.results7, go_sem, *]) rfl ⟨rfl, ?_⟩
    (repeat (first | exact Below.refl _ _ | assumption | refine balloc ?_ _ | refine below_drewN ?_ _ | refine bstep (by assumption) ?_ | refine bstep (Past.prop _) ?_ | refine Below.setCell ?_ (by first | exact Nat.le_refl _ | (simp; done) | (simp; omega)) _))
  · have e : subS a b c d = gate (okV (a - c) (b - d)) (a - c) (b - d) := by unfold subS; rw [h]; rfl
    obtain ⟨h1, h2⟩ : okV a b = true ∧ okV c d = true := by simpa using h
    rw [e]; clear e h
    generalize hg : gate (okV (a - c) (b - d)) (a - c) (b - d) = g
    have Hg := hidE hg; clear hg
    go_enter Try.func7, Try.ntmps7
    go_wp2_with (go_at_call 25; ((with_reducible refine (valid_yes _ _ _ _ _ (a - c) (b - d) _ h1 h2 (fun w' _ => both_sub _ _ _ _ _ h1 h2)).mono ?_); rintro e w' ⟨rfl, hb⟩; rw [Hg.out]; obtain ⟨hc, hf⟩ := bcell hb; have hz2 := bsz hb (w.heap.size + 1 + 1) (by simp)))
    refine bodyPost_ret (v := VE g) (by simp [results, Try.results7, go_sem, *]) rfl ⟨rfl, ?_⟩
    (repeat (first | exact Below.refl _ _ | assumption | refine balloc ?_ _ | refine below_drewN ?_ _ | refine bstep (by assumption) ?_ | refine bstep (Past.prop _) ?_ | refine Below.setCell ?_ (by first | exact Nat.le_refl _ | (simp; done) | (simp; omega)) _))

theorem cl_scl (x y n : Int) (p : Addr) (w : World) (hx : -1125899906842624 ≤ x ∧ x ≤ 1125899906842624) (hn : -9223372036854775808 ≤ n ∧ n ≤ 9223372036854775807) (hp : w.cell? p = some (.int .i64 n)) :
    Calls Try.prog 28 #[.int .i64 x, .int .i64 y, .pointer (some p)] w fun e w' => e = .returned (.int .i64 (tmS x n)) ∧ w' = w := by
  have Hn := hidE hn; clear hn
  go_enter Try.func28, Try.ntmps28
  go_wp2_with (go_at_call 29; refine (tm _ _ _ hx Hn.out).mono ?_; rintro e w' ⟨rfl, rfl⟩)
  go_ret
  exact ⟨rfl, rfl⟩

theorem both_scl (a b c d n : Int) (k : Nat) (w : World) (h1 : okV a b = true) (hn : -9223372036854775808 ≤ n ∧ n ≤ 9223372036854775807) (hk : k < w.heap.size) (hp : w.cell? ⟨k, 0, none⟩ = some (.int .i64 n)) :
    Calls Try.prog 32 #[V a b, V c d, .func (.func 28) #[] #[.pointer (some ⟨k, 0, none⟩)]] w fun e w' => e = .returned (.tuple #[.int .i64 (tmS a n), .int .i64 (tmS b n)]) ∧ Below w.heap.size w w' := by
  have g1 := h1
  simp only [okV_iff] at g1
  have G1 := hidE g1; clear g1 h1
  have Hn := hidE hn; clear hn
  have hp2 : ∀ nq, (((w.alloc (Obj.cells #[Value.int IntKind.i64 a, Value.int IntKind.i64 b] 23)).alloc (Obj.cells #[Value.int IntKind.i64 c, Value.int IntKind.i64 d] 23)).drewN nq).cell? ⟨k, 0, none⟩ = some (.int .i64 n) := fun _ => by
    show ((w.alloc _).alloc _).cell? ⟨k, 0, none⟩ = _
    rw [World.cell?_alloc_past _ _ _ (by simp; omega), World.cell?_alloc_past _ _ _ hk]; exact hp
  have HP := hidE hp2; clear hp2 hp
  go_enter Try.func32, Try.ntmps32
  go_wp2
  go_quiet ((go_at_call 28; exact Calls.quiet_of_same (cl_scl _ _ _ _ _ (by have := G1.out; omega) Hn.out (HP.out _))))
  go_wp2
  go_ret2
  exact ⟨rfl, below_drewN (((Below.refl _ _).alloc (Nat.le_refl _) _).alloc (by simp) _) _⟩


theorem scl_c (a b n : Int) (w : World) (hn : -9223372036854775808 ≤ n ∧ n ≤ 9223372036854775807) : Calls Try.prog 9 #[V a b, .int .i64 n] w fun e w' => e = .returned (VE (sclS a b n)) ∧ Below w.heap.size w w' := by
  cases h : okV a b
  · have e : sclS a b n = (0, 0, 10) := by unfold sclS; rw [h]; rfl
    rw [e]; clear e
    have h' : (okV a b && okV a b) = false := by rw [h]; rfl
    clear hn h
    go_enter Try.func9, Try.ntmps9
    go_wp2_with (go_at_call 25; ((with_reducible refine (valid_no _ _ _ _ _ _ h').mono ?_); rintro e w' ⟨rfl, hb⟩; obtain ⟨hc, hf⟩ := bcell hb; have hz0 := bsz hb (w.heap.size) (by first | assumption | (simp; done) | (simp; omega)); have hz1 := bsz hb (w.heap.size + 1) (by first | assumption | (simp; done) | (simp; omega)); have hz2 := bsz hb (w.heap.size + 1 + 1) (by first | assumption | (simp; done) | (simp; omega))))
    refine bodyPost_ret (v := VE (0, 0, 10)) (by simp [results, Try.results9, go_sem, *]) rfl ⟨rfl, ?_⟩
    (repeat (first | exact Below.refl _ _ | assumption | refine balloc ?_ _ | refine below_drewN ?_ _ | refine bstep (by assumption) ?_ | refine bstep (Past.prop _) ?_ | refine Below.setCell ?_ (by first | exact Nat.le_refl _ | (simp; done) | (simp; omega)) _))
  · have e : sclS a b n = gate (okV (tmS a n) (tmS b n)) (tmS a n) (tmS b n) := by rw [← sclS_tm h, h]; rfl
    rw [e]; clear e
    generalize hg : gate (okV (tmS a n) (tmS b n)) (tmS a n) (tmS b n) = g
    have Hg := hidE hg; clear hg
    have HB : ∀ w', Below (((w.alloc (Obj.cells #[Value.int IntKind.i64 a, Value.int IntKind.i64 b] 23)).alloc (Obj.cells #[Value.int IntKind.i64 n] 2)).alloc (Obj.cells #[Value.int IntKind.i64 0, Value.int IntKind.i64 0] 23)).heap.size (((w.alloc (Obj.cells #[Value.int IntKind.i64 a, Value.int IntKind.i64 b] 23)).alloc (Obj.cells #[Value.int IntKind.i64 n] 2)).alloc (Obj.cells #[Value.int IntKind.i64 0, Value.int IntKind.i64 0] 23)) w' → Calls Try.prog 32 #[V a b, V a b, .func (.func 28) #[] #[.pointer (some ⟨w.heap.size + 1, 0, none⟩)]] w' fun e w'' => e = .returned (.tuple #[.int .i64 (tmS a n), .int .i64 (tmS b n)]) ∧ Below w'.heap.size w' w'' := fun w' hw' =>
      both_scl _ _ _ _ n _ _ h hn (Nat.lt_of_lt_of_le (by simp) hw'.size) (by rw [hw'.cell (by simp)]; simp [go_sem])
    have HB' := hidE HB; clear HB hn
    go_enter Try.func9, Try.ntmps9
    go_wp2_with (go_at_call 25; ((with_reducible refine (valid_yes _ _ _ _ _ (tmS a n) (tmS b n) _ h h HB'.out).mono ?_); rintro e w' ⟨rfl, hb⟩; rw [Hg.out]; obtain ⟨hc, hf⟩ := bcell hb; have hz2 := bsz hb (w.heap.size + 1 + 1) (by simp)))
    refine bodyPost_ret (v := VE g) (by simp [results, Try.results9, go_sem, *]) rfl ⟨rfl, ?_⟩
    (repeat (first | exact Below.refl _ _ | assumption | refine balloc ?_ _ | refine below_drewN ?_ _ | refine bstep (by assumption) ?_ | refine bstep (Past.prop _) ?_ | refine Below.setCell ?_ (by first | exact Nat.le_refl _ | (simp; done) | (simp; omega)) _))

theorem quo_units {a b c d : Int} (h1 : okV a b = true) (h2 : okV c d = true) (hc : 1 ≤ c) (hd : 1 ≤ d) : mx 0 (mn (a.tdiv c) (b.tdiv d)) = if a < 0 ∨ b < 0 then 0 else mn (a / c) (b / d) := by
  have key : ∀ x y : Int, 1 ≤ y → x < 0 → x.tdiv y ≤ 0 := fun x y hy hx => by
    have : x.tdiv y = -((-x).tdiv y) := by rw [Int.neg_tdiv]; omega
    have h0 := Int.tdiv_nonneg (a := -x) (b := y) (by omega) (by omega)
    omega
  by_cases h : a < 0 ∨ b < 0
  · rw [if_pos h]
    have : mn (a.tdiv c) (b.tdiv d) ≤ 0 := by
      rcases h with h | h
      · have := key a c hc h; unfold mn; split <;> omega
      · have := key b d hd h; unfold mn; split <;> omega
    unfold mx; split <;> omega
  · rw [if_neg h, Int.tdiv_eq_ediv_of_nonneg (by omega), Int.tdiv_eq_ediv_of_nonneg (by omega)]
    have e1 : 0 ≤ a / c := Int.ediv_nonneg (by omega) (by omega)
    have e2 : 0 ≤ b / d := Int.ediv_nonneg (by omega) (by omega)
    have e3 : 0 ≤ mn (a / c) (b / d) := by unfold mn; split <;> omega
    unfold mx; rw [if_pos e3]

abbrev IE (g : Int × Int) : Value := .tuple #[.int .i64 g.1, .int .i64 g.2]

end Go.Proofs.Ytnhegohhffecpaa
