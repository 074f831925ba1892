/- The contract of the document's own Box. No conditions. -/
import Derived.Test.YtibmldgbimjgfaaROf
namespace Go.Proofs.Ytibmldgbimjgfaa
open Go.ChangeShapes Go.WideShapes Go.ChangeAt Go.RowKit
attribute [local irreducible] Go.Calls

theorem rof_ok {l F : List Sg} {a : Option Addr} {cap : Nat} {w : World} (hl : l.length ≤ 1000000000) (hA : ArgS w a l) (ho : l.all okS = true) (hF : IsOf l F) :
    Calls Try.prog 24 #[.slice a l.length cap] w (OfIs w F 0) :=
  (rof_c l a cap w hl hA).mono fun e w' ⟨v, f, er, h1, h2, h3, h4⟩ => by
    rcases h3 with ⟨_, rfl, h5⟩ | ⟨h5, _⟩
    · exact ⟨v, h1, by rw [hF.unique h5]; exact h2, h4⟩
    · rw [ho] at h5; cases h5
theorem rof_bad {l : List Sg} {a : Option Addr} {cap : Nat} {w : World} (hl : l.length ≤ 1000000000) (hA : ArgS w a l) (ho : l.all okS = false) :
    Calls Try.prog 24 #[.slice a l.length cap] w (OfIs w [] 10) :=
  (rof_c l a cap w hl hA).mono fun e w' ⟨v, f, er, h1, h2, h3, h4⟩ => by
    rcases h3 with ⟨h5, _⟩ | ⟨_, rfl, rfl⟩
    · rw [ho] at h5; cases h5
    · exact ⟨v, h1, h2, h4⟩

theorem rbox_c (x y m c : Int) (w : World) : Calls Try.prog 11 #[.int .i64 x, .int .i64 y, V m c] w (OfIs w (boxS x y (m, c)).1 (boxS x y (m, c)).2) := by
  by_cases hxy : y < x
  · have HE := hidE (show boxS x y (m, c) = ([], 2) by unfold boxS; rw [if_pos hxy])
    rw [HE.out]
    go_enter Try.func11, Try.ntmps11
    go_wp2
    go_ret2
    exact ⟨_, rfl, sliS_nil _, by (repeat (first | exact Below.refl _ _ | assumption | refine balloc ?_ _ | refine below_drewN ?_ _ | refine bstep (by assumption) ?_ | refine bstep (Past.prop _) ?_ | refine Below.setCell ?_ (by first | exact Nat.le_refl _ | (simp; done) | (simp; omega)) _))⟩
  · have hz : ¬ y < x := hxy
    have HK : ∀ w1 p, Blk w1 p #[.int .i64 x, .int .i64 m, .int .i64 c, .int .i64 y, .int .i64 0, .int .i64 0] 30 → Calls Try.prog 24 #[.slice (some ⟨p, 0, none⟩) 2 2] w1 (OfIs w1 (boxS x y (m, c)).1 (boxS x y (m, c)).2) := by
      intro w1 p hB
      unfold boxS
      rw [if_neg hxy]
      cases ho : (okS (x, (m, c)) && okS (y, (0, 0)))
      · exact rof_bad (l := [(x, (m, c)), (y, (0, 0))]) (by simp) (argS_blk (t := 30) hB) (by simpa [List.all_cons] using ho)
      · have h2 : okS (x, (m, c)) = true ∧ okS (y, (0, 0)) = true := by simpa using ho
        exact rof_ok (l := [(x, (m, c)), (y, (0, 0))]) (by simp) (argS_blk (t := 30) hB) (by simpa [List.all_cons] using ho) (boxL_of (by omega) h2.1 h2.2)
    have HKK := hidE HK; clear HK hxy
    generalize boxS x y (m, c) = g at *
    by_cases e : x = y
    · have hd : (x == y) = true := beq_iff_eq.2 e
      clear e
      go_enter Try.func11, Try.ntmps11
      go_wp2_with (go_at_call 24; ((with_reducible refine (HKK.out _ _ (Blk.made_at _ _ _ _ (by simp))).mono ?_); rintro e w1 ⟨v, rfl, hv, hb⟩))
      go_ret2
      exact ⟨_, rfl, hv, by (repeat (first | exact Below.refl _ _ | assumption | refine balloc ?_ _ | refine below_drewN ?_ _ | refine bstep (by assumption) ?_ | refine bstep (Past.prop _) ?_ | refine Below.setCell ?_ (by first | exact Nat.le_refl _ | (simp; done) | (simp; omega)) _))⟩
    · have hd : (x == y) = false := beq_eq_false_iff_ne.2 e
      clear e
      go_enter Try.func11, Try.ntmps11
      go_wp2_with (go_at_call 24; ((with_reducible refine (HKK.out _ _ (Blk.made_at _ _ _ _ (by simp))).mono ?_); rintro e w1 ⟨v, rfl, hv, hb⟩))
      go_ret2
      exact ⟨_, rfl, hv, by (repeat (first | exact Below.refl _ _ | assumption | refine balloc ?_ _ | refine below_drewN ?_ _ | refine bstep (by assumption) ?_ | refine bstep (Past.prop _) ?_ | refine Below.setCell ?_ (by first | exact Nat.le_refl _ | (simp; done) | (simp; omega)) _))⟩
end Go.Proofs.Ytibmldgbimjgfaa
