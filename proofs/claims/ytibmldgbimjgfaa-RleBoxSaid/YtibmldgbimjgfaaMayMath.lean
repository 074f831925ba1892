/- Canonical lists, place by place. No program. No conditions. -/
import Derived.Test.YtibmldgbimjgfaaOfMath
namespace Go.Proofs.Ytibmldgbimjgfaa

/-- The run at i may stand there, behind the vector last. -/
def okAt (last : Int × Int) (l : List Sg) (i : Nat) : Bool := okS (l.getD i (0, 0, 0)) && !(vls l i == (if i = 0 then last else vls l (i - 1))) && (decide (i = 0) || decide (ats l (i - 1) < ats l i))
theorem okAt_succ (last : Int × Int) (s : Sg) (r : List Sg) (i : Nat) : okAt last (s :: r) (i + 1) = true ↔ okAt s.2 r i = true ∧ (i = 0 → s.1 < ats r 0) := by
  unfold okAt
  cases i with
  | zero => simp [ats, vls]
  | succ i => simp [ats, vls]
theorem cf_okAt : ∀ (l : List Sg) (last : Int × Int), CF last l ↔ ∀ i, i < l.length → okAt last l i = true
  | [], _ => ⟨fun _ i h => by simp at h, fun _ => trivial⟩
  | s :: r, last => by
    have ih := cf_okAt r s.2
    constructor
    · rintro ⟨a1, a2, a3, a4⟩ i hi
      cases i with
      | zero => unfold okAt; simp [vls, a1, a2]
      | succ i =>
        rw [okAt_succ]
        have hi' : i < r.length := by simpa using hi
        refine ⟨ih.1 a4 i hi', fun e => ?_⟩
        subst e
        unfold ats
        rw [getD_get _ _ _ hi']
        exact a3 _ (List.getElem_mem hi')
    · intro h
      have h0 := h 0 (by simp)
      unfold okAt at h0
      simp [vls] at h0
      have hr : CF s.2 r := ih.2 fun i hi => ((okAt_succ last s r i).1 (h (i + 1) (by simp; omega))).1
      refine ⟨h0.1, h0.2, fun x hx => ?_, hr⟩
      cases r with
      | nil => simp at hx
      | cons u r' =>
        have h1 := ((okAt_succ last s (u :: r') 0).1 (h 1 (by simp))).2 rfl
        simp [ats] at h1
        rcases List.mem_cons.1 hx with e | e
        · rw [e]; exact h1
        · have := hr.2.2.1 x e
          omega
/-- Is a list canonical? -/
def mayB (l : List Sg) : Bool := (List.range l.length).all fun i => okAt (0, 0) l i
theorem mayB_iff {l : List Sg} : mayB l = true ↔ Canon l := by
  unfold mayB Canon
  rw [cf_okAt, List.all_eq_true]
  simp only [List.mem_range]
theorem mayB_bad {l : List Sg} {i : Nat} (hi : i < l.length) (h : okAt (0, 0) l i = false) : mayB l = false := by
  unfold mayB
  rw [List.all_eq_false]
  exact ⟨i, by simpa using hi, by rw [h]; exact Bool.false_ne_true⟩
theorem mayB_good {l : List Sg} (h : ∀ i, i < l.length → okAt (0, 0) l i = true) : mayB l = true := by
  unfold mayB
  rw [List.all_eq_true]
  intro i hi
  exact h i (by simpa using hi)
/-- The vector ahead of the place i. -/
def prevV (l : List Sg) (i : Nat) : Int × Int := if i = 0 then (0, 0) else vls l (i - 1)
theorem prevV_succ (l : List Sg) (i : Nat) : prevV l (i + 1) = vls l i := by unfold prevV; rw [if_neg (by omega), Nat.add_sub_cancel]
end Go.Proofs.Ytibmldgbimjgfaa
