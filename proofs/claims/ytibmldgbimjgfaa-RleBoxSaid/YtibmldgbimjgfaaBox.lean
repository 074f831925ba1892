/- The contract of rle.Box, and of Of where the answer is known. No conditions. -/
import Derived.Test.YtibmldgbimjgfaaOf
namespace Go.Proofs.Ytibmldgbimjgfaa
open Go.ChangeShapes Go.WideShapes Go.ChangeAt Go.RowKit
attribute [local irreducible] Go.Calls

/-- A new block of runs reads as a slice. -/
theorem argS_blk {w : World} {p : Nat} {l : List Sg} {t : TypeId} (h : Blk w p (cellsOfS l).toArray t) : ArgS w (some ⟨p, 0, none⟩) l := fun _ =>
  ⟨p, 0, rfl, h.lt, fun i hi => by
    obtain ⟨h1, h2, h3⟩ := cellsOfS_get l i hi
    simp only [Nat.zero_add]
    have q : ∀ j, w.cell? ⟨p, j, none⟩ = (cellsOfS l)[j]? := fun j => (h.cell j).trans (by simp)
    exact ⟨(q _).trans h1, (q _).trans h2, (q _).trans h3⟩⟩

/-- What a call of Of hands back, where the answer is known. -/
def OfIs (w : World) (F : List Sg) (er : Int) (e : Ending) (w' : World) : Prop := ∃ v : Value, e = .returned (.tuple #[v, .int .i64 er]) ∧ SliS w' v F ∧ Below w.heap.size w w'
theorem of_ok {l F : List Sg} {a : Option Addr} {cap : Nat} {w : World} (hl : l.length ≤ 1099511627776) (hA : ArgS w a l) (ho : l.all okS = true) (hF : IsOf l F) :
    Calls Try.prog 7 #[.slice a l.length cap] w (OfIs w F 0) :=
  (of_c l a cap w hl hA).mono fun e w' ⟨v, f, er, h1, h2, h3, h4⟩ => by
    rcases h3 with ⟨_, rfl, h5⟩ | ⟨h5, _⟩
    · exact ⟨v, h1, by rw [hF.unique h5]; exact h2, h4⟩
    · rw [ho] at h5; cases h5
theorem of_bad {l : List Sg} {a : Option Addr} {cap : Nat} {w : World} (hl : l.length ≤ 1099511627776) (hA : ArgS w a l) (ho : l.all okS = false) :
    Calls Try.prog 7 #[.slice a l.length cap] w (OfIs w [] 10) :=
  (of_c l a cap w hl hA).mono fun e w' ⟨v, f, er, h1, h2, h3, h4⟩ => by
    rcases h3 with ⟨h5, _⟩ | ⟨_, rfl, rfl⟩
    · rw [ho] at h5; cases h5
    · exact ⟨v, h1, h2, h4⟩

/-- The box's runs. -/
def boxL (x y : Int) (v : Int × Int) : List Sg := if x = y ∨ v = (0, 0) then [] else [(x, v), (y, (0, 0))]
theorem boxL_of {x y : Int} {v : Int × Int} (hxy : x ≤ y) (h1 : okS (x, v) = true) (h2 : okS (y, (0, 0)) = true) : IsOf [(x, v), (y, (0, 0))] (boxL x y v) := by
  unfold boxL
  by_cases c : x = y ∨ v = (0, 0)
  · rw [if_pos c]
    refine ⟨trivial, fun t => ?_, by simp⟩
    unfold rv rread vat
    simp only [List.foldl_cons, List.foldl_nil]
    unfold rstep
    rcases c with c | c
    · subst c
      by_cases k : x ≤ t <;> simp [k]
    · subst c
      by_cases k : x ≤ t <;> by_cases k2 : y ≤ t <;> simp [k, k2, hxy]
  · rw [if_neg c]
    have c1 : x ≠ y := fun e => c (.inl e)
    have c2 : v ≠ (0, 0) := fun e => c (.inr e)
    refine ⟨⟨h1, c2, fun s hs => ?_, h2, fun e => c2 e.symm, fun s hs => by simp at hs, trivial⟩, fun t => ?_, Nat.le_refl _⟩
    · simp at hs; subst hs
      show x < y
      omega
    · unfold rv rread vat
      simp only [List.foldl_cons, List.foldl_nil]
      unfold rstep stepV
      by_cases k : x ≤ t <;> by_cases k2 : y ≤ t <;> simp [k, k2, hxy]

/-- What Box hands back. -/
def boxS (x y : Int) (v : Int × Int) : List Sg × Int := if y < x then ([], 2) else if okS (x, v) && okS (y, (0, 0)) then (boxL x y v, 0) else ([], 10)

theorem box_c (x y m c : Int) (w : World) : Calls Try.prog 10 #[.int .i64 x, .int .i64 y, V m c] w (OfIs w (boxS x y (m, c)).1 (boxS x y (m, c)).2) := by
  by_cases hxy : y < x
  · have HE := hidE (show boxS x y (m, c) = ([], 2) by unfold boxS; rw [if_pos hxy])
    rw [HE.out]
    go_enter Try.func10, Try.ntmps10
    go_wp2
    go_ret2
    exact ⟨_, rfl, sliS_nil _, by (repeat (first | exact Below.refl _ _ | assumption | refine balloc ?_ _ | refine below_drewN ?_ _ | refine bstep (by assumption) ?_ | refine bstep (Past.prop _) ?_ | refine Below.setCell ?_ (by first | exact Nat.le_refl _ | (simp; done) | (simp; omega)) _))⟩
  · have hz : ¬ y < x := hxy
    have HK : ∀ w1 p, Blk w1 p #[.int .i64 x, .int .i64 m, .int .i64 c, .int .i64 y, .int .i64 0, .int .i64 0] 30 → Calls Try.prog 7 #[.slice (some ⟨p, 0, none⟩) 2 2] w1 (OfIs w1 (boxS x y (m, c)).1 (boxS x y (m, c)).2) := by
      intro w1 p hB
      unfold boxS
      rw [if_neg hxy]
      cases ho : (okS (x, (m, c)) && okS (y, (0, 0)))
      · exact of_bad (l := [(x, (m, c)), (y, (0, 0))]) (by simp) (argS_blk (t := 30) hB) (by simpa [List.all_cons] using ho)
      · have h2 : okS (x, (m, c)) = true ∧ okS (y, (0, 0)) = true := by simpa using ho
        exact of_ok (l := [(x, (m, c)), (y, (0, 0))]) (by simp) (argS_blk (t := 30) hB) (by simpa [List.all_cons] using ho) (boxL_of (by omega) h2.1 h2.2)
    have HKK := hidE HK; clear HK hxy
    generalize boxS x y (m, c) = g at *
    go_enter Try.func10, Try.ntmps10
    go_wp2_with (go_at_call 7; ((with_reducible refine (HKK.out _ _ (Blk.made_at _ _ _ _ (by simp))).mono ?_); rintro e w1 ⟨v, rfl, hv, hb⟩))
    go_ret2
    exact ⟨_, rfl, hv, by (repeat (first | exact Below.refl _ _ | assumption | refine balloc ?_ _ | refine below_drewN ?_ _ | refine bstep (by assumption) ?_ | refine bstep (Past.prop _) ?_ | refine Below.setCell ?_ (by first | exact Nat.le_refl _ | (simp; done) | (simp; omega)) _))⟩

/-- The document's example. -/
theorem head_of : IsOf [(5, (1, 1)), (2, (3, 3)), (5, (2, 2)), (9, (2, 2))] [(2, (3, 3)), (5, (2, 2))] := by
  refine ⟨⟨by decide, by decide, fun s hs => by simp at hs; subst hs; decide, by decide, by decide, fun s hs => by simp at hs, trivial⟩, fun t => ?_, by decide⟩
  unfold rv rread vat
  simp only [List.foldl_cons, List.foldl_nil]
  unfold rstep stepV
  by_cases k : (2 : Int) ≤ t
  · by_cases k2 : (5 : Int) ≤ t
    · by_cases k3 : (9 : Int) ≤ t <;> simp [k, k2, k3]
    · have k3 : ¬ (9 : Int) ≤ t := by omega
      simp [k, k2, k3]
  · have k2 : ¬ (5 : Int) ≤ t := by omega
    have k3 : ¬ (9 : Int) ≤ t := by omega
    simp [k, k2, k3]
end Go.Proofs.Ytibmldgbimjgfaa
