/- The contract of vec.Add over a slice of vectors, and of the document's sum. No conditions but that the slice's cells read as integers. -/
import Derived.Test.YtnhegohhffecpaaVec4
import Derived.Test.YtnhegohhffecpaaVecRT
import Derived.LoopTactic
namespace Go.Proofs.Ytnhegohhffecpaa
open Go.ChangeShapes Go.WideShapes Go.ChangeAt Go.RowKit

theorem vadd (a b c d : Int) (w : World) : Calls Try.prog 25 #[V a b, V c d, .func (.func 39) #[] #[]] w fun e w' => e = .returned (VE (addS a b c d)) ∧ Below w.heap.size w w' := by
  cases h : (okV a b && okV c d)
  · have e : addS a b c d = (0, 0, 10) := by unfold addS; exact gate_no h
    rw [e]; exact valid_no _ a b c d w h
  · have e : addS a b c d = gate (okV (a + c) (b + d)) (a + c) (b + d) := by unfold addS; rw [h]; rfl
    obtain ⟨h1, h2⟩ : okV a b = true ∧ okV c d = true := by simpa using h
    rw [e]; exact valid_yes _ a b c d _ _ w h1 h2 (fun w' _ => both_add _ _ _ _ _ h1 h2)

def addFrom (x y : Int) : List (Int × Int) → Int × Int × Int
  | [] => (x, y, 0)
  | v :: r => if (addS x y v.1 v.2).2.2 = 0 then addFrom (addS x y v.1 v.2).1 (addS x y v.1 v.2).2.1 r else (0, 0, (addS x y v.1 v.2).2.2)
def addL (l : List (Int × Int)) : Int × Int × Int := addFrom 0 0 l

/-- The slice's cells hold the list's vectors. -/
def CellsV (w : World) (b off : Nat) (l : List (Int × Int)) : Prop :=
  ∀ i, i < l.length → w.cell? ⟨b, off + i * 2, none⟩ = some (.int .i64 (l.getD i (0, 0)).1) ∧ w.cell? ⟨b, off + i * 2 + 1, none⟩ = some (.int .i64 (l.getD i (0, 0)).2)

theorem drop_getD (l : List (Int × Int)) (k : Nat) (h : k < l.length) : l.drop k = l.getD k (0, 0) :: l.drop (k + 1) := by
  rw [List.drop_eq_getElem_cons h, List.getD_eq_getElem?_getD, List.getElem?_eq_getElem h]; rfl

theorem add_some (l : List (Int × Int)) (b off cap : Nat) (w : World) (hb0 : b < w.heap.size) (hl : l.length ≤ 9223372036854775807) (hc0 : CellsV w b off l) :
    Calls Try.prog 22 #[.slice (some ⟨b, off, none⟩) l.length cap] w fun e w' => e = .returned (VE (addL l)) ∧ Below w.heap.size w w' := by
  have HC := hidE hc0; clear hc0
  go_enter Try.func22, Try.ntmps22
  go_wp2
  go_loopw [10] (fun i wr => ∃ k : Nat, ∃ x y : Int, k ≤ l.length ∧ i = .int .i64 k ∧ addFrom x y (l.drop k) = addL l ∧ Below w.heap.size w wr ∧ Blk wr (w.heap.size + 1) #[.int .i64 x, .int .i64 y] 23 ∧ Blk wr w.heap.size #[.int .i64 0, .int .i64 0] 23) (fun i _ => l.length - (intOf i).toNat)
  case atStart => exact ⟨0, 0, 0, Nat.zero_le _, rfl, rfl, by (repeat (first | exact Below.refl _ _ | assumption | refine balloc ?_ _ | refine below_drewN ?_ _ | refine bstep (by assumption) ?_ | refine bstep (Past.prop _) ?_ | refine Below.setCell ?_ (by first | exact Nat.le_refl _ | (simp; done) | (simp; omega)) _)), Blk.made_at _ _ _ _ (by simp), (Blk.made _ _ _).alloc _⟩
  case round =>
    obtain ⟨k, x, y, hk, rfl, hs, hb, s1, s0⟩ := hrel
    have HS := hidE hs; clear hs
    have c10 := s1.cell 0; have c11 := s1.cell 1; have f1 := s1.free; have c00 := s0.cell 0; have c01 := s0.cell 1; have f0 := s0.free
    simp at c10 c11 c00 c01
    have z1 := s1.lt; have z0 := s0.lt
    by_cases hlt : k < l.length
    · have e0 := (HC.out k hlt).1; have e1 := (HC.out k hlt).2
      rw [← hb.cell hb0] at e0 e1
      have HD := hidE (drop_getD l k hlt)
      generalize l.getD k (0, 0) = v at *
      have HG := hidE (vadd x y v.1 v.2)
      have HS' := HS.out
      rw [HD.out] at HS'
      unfold addFrom at HS'
      generalize hg : addS x y v.1 v.2 = g at *
      clear HS hg
      by_cases hg0 : g.2.2 = 0
      · rw [if_pos hg0] at HS'
        have HT := hidE HS'; clear HS'
        have g1 : (g.2.2 == 0) = true := beq_iff_eq.2 hg0
        have g2 : (g.2.2 != 0) = false := by rw [bne_eq_false_iff_eq]; exact hg0
        clear hg0
        go_wp2_with (go_at_call 25; ((with_reducible refine (HG.out _).mono ?_); rintro e w' ⟨rfl, hb2⟩; obtain ⟨hc, hf⟩ := bcell hb2; have y1 := bsz hb2 (w.heap.size + 1) (by simp; omega); have y0 := bsz hb2 (w.heap.size) (by simp; omega)))
        exact ⟨⟨k + 1, g.1, g.2.1, by omega, by go_num, HT.out, by (repeat (first | exact Below.refl _ _ | assumption | refine balloc ?_ _ | refine below_drewN ?_ _ | refine bstep (by assumption) ?_ | refine bstep (Past.prop _) ?_ | refine Below.setCell ?_ (by first | exact Nat.le_refl _ | (simp; done) | (simp; omega)) _)), (((s1.alloc _).past hb2).set 0 _).set 1 _, (((s0.alloc _).past hb2).other (by omega) _).other (by omega) _⟩, by simp [intOf]; omega⟩
      · rw [if_neg hg0] at HS'
        have HT := hidE HS'; clear HS'
        have g1 : (g.2.2 == 0) = false := beq_eq_false_iff_ne.2 hg0
        have g2 : (g.2.2 != 0) = true := bne_iff_ne.2 hg0
        clear hg0
        go_wp2_with (go_at_call 25; ((with_reducible refine (HG.out _).mono ?_); rintro e w' ⟨rfl, hb2⟩; obtain ⟨hc, hf⟩ := bcell hb2; have y1 := bsz hb2 (w.heap.size + 1) (by simp; omega); have y0 := bsz hb2 (w.heap.size) (by simp; omega)))
        have B0 := (((((s0.alloc _).past hb2).other (b := w.heap.size + 1) (i := 0) (by omega) (.int .i64 g.1)).other (b := w.heap.size + 1) (i := 1) (by omega) (.int .i64 g.2.1)).set 0 (.int .i64 0)).set 1 (.int .i64 0)
        have d0 := B0.cell 0; have d1 := B0.cell 1
        simp at d0 d1
        refine bodyPost_ret (v := VE (0, 0, g.2.2)) (by simp [results, Try.results22, go_sem, d0, d1]) rfl ⟨by rw [← HT.out], ?_⟩
        (repeat (first | exact Below.refl _ _ | assumption | refine balloc ?_ _ | refine below_drewN ?_ _ | refine bstep (by assumption) ?_ | refine bstep (Past.prop _) ?_ | refine Below.setCell ?_ (by first | exact Nat.le_refl _ | (simp; done) | (simp; omega)) _))
    · go_wp2
      have : k = l.length := by omega
      subst this
      have e := HS.out
      rw [List.drop_length] at e
      refine bodyPost_ret (v := VE (x, y, 0)) (by simp [results, Try.results22, go_sem, *]) rfl ⟨by rw [← e]; rfl, ?_⟩
      (repeat (first | exact Below.refl _ _ | assumption | refine balloc ?_ _ | refine below_drewN ?_ _ | refine bstep (by assumption) ?_ | refine bstep (Past.prop _) ?_ | refine Below.setCell ?_ (by first | exact Nat.le_refl _ | (simp; done) | (simp; omega)) _))

theorem add_none (w : World) : Calls Try.prog 22 #[.slice none 0 0] w fun e w' => e = .returned (VE (addL [])) ∧ Below w.heap.size w w' := by
  go_enter Try.func22, Try.ntmps22
  go_wp2
  refine wp_loop_rounds 1 ?_
  rw [rounds_succ]
  go_wp2
  refine bodyPost_ret (v := VE (0, 0, 0)) (by simp [results, Try.results22, go_sem, *]) rfl ⟨rfl, ?_⟩
  (repeat (first | exact Below.refl _ _ | assumption | refine balloc ?_ _ | refine below_drewN ?_ _ | refine bstep (by assumption) ?_ | refine bstep (Past.prop _) ?_ | refine Below.setCell ?_ (by first | exact Nat.le_refl _ | (simp; done) | (simp; omega)) _))
end Go.Proofs.Ytnhegohhffecpaa
