/- The contracts of rle's small functions. No conditions but that the lists' cells read as integers. -/
import Derived.Test.YtibmldgbimjgfaaAt2
import Derived.Test.YtibmldgbimjgfaaOfMath
namespace Go.Proofs.Ytibmldgbimjgfaa
open Go.ChangeShapes Go.WideShapes Go.ChangeAt Go.RowKit
attribute [local irreducible] Go.Calls

theorem valid_c (s : Sg) (w : World) : Calls Try.prog 16 #[S s.1 s.2.1 s.2.2] w fun e w' => e = .returned (.bool (okS s)) ∧ Below w.heap.size w w' := by
  obtain ⟨x, m, c⟩ := s
  show Calls _ _ #[S x m c] _ _
  by_cases h1 : -1125899906842624 ≤ x
  · by_cases h2 : x ≤ 1125899906842624
    · have e : okS (x, m, c) = okV m c := by
        have : okT x = true := okT_iff.2 ⟨h1, h2⟩
        unfold okS; simp only [this, Bool.true_and]
      rw [e]
      have d1 : decide (-1125899906842624 ≤ x) = true := decide_eq_true h1
      have d2 : decide (x ≤ 1125899906842624) = true := decide_eq_true h2
      clear e
      go_enter Try.func16, Try.ntmps16
      go_wp2_with (go_at_call 25; ((with_reducible refine (may m c _).mono ?_); rintro e w' ⟨rfl, hb⟩; obtain ⟨hc, hf⟩ := bcell hb))
      go_ret
      exact ⟨rfl, by (repeat (first | exact Below.refl _ _ | assumption | refine balloc ?_ _ | refine below_drewN ?_ _ | refine bstep (by assumption) ?_ | refine bstep (Past.prop _) ?_ | refine Below.setCell ?_ (by first | exact Nat.le_refl _ | (simp; done) | (simp; omega)) _))⟩
    · have e : okS (x, m, c) = false := by
        have : okT x = false := decide_eq_false (by omega)
        unfold okS; simp only [this, Bool.false_and]
      rw [e]
      have d1 : decide (-1125899906842624 ≤ x) = true := decide_eq_true h1
      have d2 : decide (x ≤ 1125899906842624) = false := decide_eq_false h2
      clear e
      go_enter Try.func16, Try.ntmps16
      go_wp2
      go_ret
      exact ⟨rfl, by (repeat (first | exact Below.refl _ _ | assumption | refine balloc ?_ _ | refine below_drewN ?_ _ | refine bstep (by assumption) ?_ | refine bstep (Past.prop _) ?_ | refine Below.setCell ?_ (by first | exact Nat.le_refl _ | (simp; done) | (simp; omega)) _))⟩
  · have e : okS (x, m, c) = false := by
      have : okT x = false := decide_eq_false (by omega)
      unfold okS; simp only [this, Bool.false_and]
    rw [e]
    have d1 : decide (-1125899906842624 ≤ x) = false := decide_eq_false h1
    clear e
    go_enter Try.func16, Try.ntmps16
    go_wp2
    go_ret
    exact ⟨rfl, by (repeat (first | exact Below.refl _ _ | assumption | refine balloc ?_ _ | refine below_drewN ?_ _ | refine bstep (by assumption) ?_ | refine bstep (Past.prop _) ?_ | refine Below.setCell ?_ (by first | exact Nat.le_refl _ | (simp; done) | (simp; omega)) _))⟩

/-- The closure that remembers: the block p holds what came last. -/
def ChgPost (w : World) (p : Nat) (m0 c0 m c : Int) (e : Ending) (w' : World) : Prop :=
  e = .returned (.bool (!((m, c) == (m0, c0)))) ∧ Blk w' p #[.int .i64 m, .int .i64 c] 28 ∧ w.grownBy w' (some p)

theorem grown_alloc (w : World) (o : Obj) (r : Option Nat) : w.grownBy (w.alloc o) r := ⟨rfl, rfl, rfl, by simp, fun k hk _ => Below.heap_alloc _ _ _ hk⟩
theorem grown_set (w : World) (p i : Nat) (v : Value) : w.grownBy (w.setCell ⟨p, i, none⟩ v) (some p) := ⟨rfl, rfl, rfl, by simp [World.setCell], fun k _ hk => Below.heap_setCell _ _ _ _ (fun e => hk (by rw [e]))⟩
theorem grown_trans {a b c : World} {r : Option Nat} (h : a.grownBy b r) (h' : b.grownBy c r) : a.grownBy c r :=
  ⟨h'.os.trans h.os, h'.tape.trans h.tape, h'.output.trans h.output, Nat.le_trans h.size h'.size, fun k hk hr => (h'.block k (Nat.lt_of_lt_of_le hk h.size) hr).trans (h.block k hk hr)⟩
theorem grown_refl (w : World) (r : Option Nat) : w.grownBy w r := ⟨rfl, rfl, rfl, Nat.le_refl _, fun _ _ _ => rfl⟩
theorem grown_any {w w' : World} {r : Option Nat} (h : Below w.heap.size w w') : w.grownBy w' r := ⟨h.os, h.tape, h.output, h.size, fun k hk _ => h.block k hk⟩
theorem Blk.grown {w w' : World} {k : Nat} {cs : Array Value} {t : TypeId} {r : Option Nat} (h : Blk w k cs t) (hg : w.grownBy w' r) (hr : some k ≠ r) : Blk w' k cs t := (hg.block k h.lt hr).trans h

theorem chg_c (p : Nat) (m0 c0 m c : Int) (w : World) (hB : Blk w p #[.int .i64 m0, .int .i64 c0] 28) :
    Calls Try.prog 26 #[V m c, .pointer (some ⟨p, 0, none⟩)] w (ChgPost w p m0 c0 m c) := by
  have c1 := hB.cell 0; have c2 := hB.cell 1; have f := hB.free; have z := hB.lt
  simp at c1 c2
  have hp : p ≠ w.heap.size := by omega
  by_cases e1 : m = m0
  · subst e1
    by_cases e2 : c = c0
    · subst e2
      go_enter Try.func26, Try.ntmps26
      go_wp2
      go_ret
      refine ⟨ret_bool (by simp), ?_, ?_⟩
      · simpa using ((hB.set 0 (.int .i64 m)).set 1 (.int .i64 c)).alloc _
      · exact grown_trans (grown_trans (grown_set _ _ _ _) (grown_set _ _ _ _)) (grown_alloc _ _ _)
    · have d2 : (c == c0) = false := beq_eq_false_iff_ne.2 e2
      go_enter Try.func26, Try.ntmps26
      go_wp2
      go_ret
      refine ⟨ret_bool (by simp [e2]), ?_, ?_⟩
      · simpa using ((hB.set 0 (.int .i64 m)).set 1 (.int .i64 c)).alloc _
      · exact grown_trans (grown_trans (grown_set _ _ _ _) (grown_set _ _ _ _)) (grown_alloc _ _ _)
  · have d1 : (m == m0) = false := beq_eq_false_iff_ne.2 e1
    go_enter Try.func26, Try.ntmps26
    go_wp2
    go_ret
    refine ⟨ret_bool (by simp [e1]), ?_, ?_⟩
    · simpa using ((hB.set 0 (.int .i64 m)).set 1 (.int .i64 c)).alloc _
    · exact grown_trans (grown_trans (grown_set _ _ _ _) (grown_set _ _ _ _)) (grown_alloc _ _ _)

theorem changing_c (w : World) : Calls Try.prog 17 #[] w fun e w' => e = .returned (.func (.func 26) #[] #[.pointer (some ⟨w.heap.size, 0, none⟩)]) ∧ w' = w.alloc (.cells #[.int .i64 0, .int .i64 0] 28) := by
  go_enter Try.func17, Try.ntmps17
  go_wp2
  go_ret
  exact ⟨rfl, rfl⟩

theorem seg_c (x m c : Int) (w : World) : Calls Try.prog 15 #[.int .i64 x, .int .i64 m, .int .i64 c] w fun e w' => e = .returned (S x m c) ∧ Below w.heap.size w w' := by
  go_enter Try.func15, Try.ntmps15
  go_wp2
  exact bodyPost_ret (v := S x m c) (by simp [results, Try.results15, go_sem]) rfl ⟨rfl, by (repeat (first | exact Below.refl _ _ | assumption | refine balloc ?_ _ | refine below_drewN ?_ _ | refine bstep (by assumption) ?_ | refine bstep (Past.prop _) ?_ | refine Below.setCell ?_ (by first | exact Nat.le_refl _ | (simp; done) | (simp; omega)) _))⟩

/-- Where a list of runs begins and ends, and whether it ends. -/
def endsL (l : List Sg) : Int × Int × Bool := if l.length = 0 then (0, 0, true) else (ats l 0, ats l (l.length - 1), vls l (l.length - 1) == (0, 0))
theorem ends_c (l : List Sg) (a : Option Addr) (cap : Nat) (w : World) (hl : l.length ≤ 9223372036854775807) (hA : ArgS w a l) :
    Calls Try.prog 13 #[.slice a l.length cap] w fun e w' => e = .returned (.tuple #[.int .i64 (endsL l).1, .int .i64 (endsL l).2.1, .bool (endsL l).2.2]) ∧ Below w.heap.size w w' := by
  have HA := hidE hA; clear hA
  by_cases h0 : l.length = 0
  · have HE := hidE (show endsL l = (0, 0, true) by unfold endsL; rw [if_pos h0])
    obtain ⟨n, hn⟩ : ∃ n, n = l.length := ⟨_, rfl⟩
    rw [← hn] at h0 ⊢
    subst h0
    go_enter Try.func13, Try.ntmps13
    go_wp2
    go_ret3
    exact ⟨by rw [HE.out]; rfl, Below.refl _ _⟩
  · obtain ⟨k, hk⟩ : ∃ k, l.length = k + 1 := ⟨l.length - 1, by omega⟩
    have HE := hidE (show endsL l = (ats l 0, ats l k, vls l k == (0, 0)) by unfold endsL; rw [if_neg h0, hk, Nat.add_sub_cancel])
    obtain ⟨b, off, rfl, hb, hc⟩ := HA.out (by omega)
    obtain ⟨c0, c1, c2⟩ := hc.get (i := k) (by omega)
    obtain ⟨d0, d1, d2⟩ := hc.get (i := 0) (by omega)
    simp at d0
    have hk1 : k < 9223372036854775807 := by omega
    rw [hk]
    clear hc hk HA h0 d1 d2 hl
    generalize ats l 0 = u0 at *
    generalize ats l k = u at *
    generalize hv : vls l k = v at *
    obtain ⟨m, c⟩ := v
    clear hv
    dsimp only at c1 c2
    by_cases e1 : m = 0
    · subst e1
      by_cases e2 : c = 0
      · subst e2
        go_enter Try.func13, Try.ntmps13
        go_wp2
        go_quiet (fail)
        go_wp2
        go_ret3
        exact ⟨by rw [HE.out]; rfl, by (repeat (first | exact Below.refl _ _ | assumption | refine balloc ?_ _ | refine below_drewN ?_ _ | refine bstep (by assumption) ?_ | refine bstep (Past.prop _) ?_ | refine Below.setCell ?_ (by first | exact Nat.le_refl _ | (simp; done) | (simp; omega)) _))⟩
      · have e3 : (c == 0) = false := beq_eq_false_iff_ne.2 e2
        go_enter Try.func13, Try.ntmps13
        go_wp2
        go_quiet (fail)
        go_wp2
        go_ret3
        exact ⟨by rw [HE.out]; simp [e2], by (repeat (first | exact Below.refl _ _ | assumption | refine balloc ?_ _ | refine below_drewN ?_ _ | refine bstep (by assumption) ?_ | refine bstep (Past.prop _) ?_ | refine Below.setCell ?_ (by first | exact Nat.le_refl _ | (simp; done) | (simp; omega)) _))⟩
    · have e3 : (m == 0) = false := beq_eq_false_iff_ne.2 e1
      go_enter Try.func13, Try.ntmps13
      go_wp2
      go_quiet (fail)
      go_wp2
      go_ret3
      exact ⟨by rw [HE.out]; simp [e1], by (repeat (first | exact Below.refl _ _ | assumption | refine balloc ?_ _ | refine below_drewN ?_ _ | refine bstep (by assumption) ?_ | refine bstep (Past.prop _) ?_ | refine Below.setCell ?_ (by first | exact Nat.le_refl _ | (simp; done) | (simp; omega)) _))⟩
end Go.Proofs.Ytibmldgbimjgfaa
