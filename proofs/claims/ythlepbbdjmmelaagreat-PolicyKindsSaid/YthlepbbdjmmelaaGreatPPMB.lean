/- The stretches of a window: what the walk over a function's runs hands on, and what sums, lows, highs and cuts are of it. No program. No conditions. What the statements on package span rest on: shifts to and fro, neighbouring windows, cuts' sums. No program. No conditions. Policies, by values: whether one may be, whether it holds of a load, a capacity and a user's load, and where it is violated first. No program. No conditions. A sliding sum, stretch by stretch: what a cursor moves on to, how far the sum goes on as a straight line, and when that line is above a limit. No program. No conditions. What the statements on policies rest on: an average over one time, the least of limits, a later time. No program. No conditions. What the statement on the first violation rests on. No program. No conditions. -/
import Derived.Test.YthlepbbdjmmelaaGreatPPMA
namespace Go.Proofs.YthlepbbdjmmelaaGreat

/-- A stretch: from, up to, the value. -/
abbrev St := Int × Int × Int × Int
/-- What is handed on behind the runs: up to y, if anything is left. -/
def strZ (y p : Int) (v : Int × Int) : List St := if p < y then [(p, y, v)] else []
def strG (y : Int) : List Sg → Int → Int × Int → List St
  | [], p, v => strZ y p v
  | r :: F, p, v => if y ≤ r.1 then strZ y p v else if p < r.1 then (p, r.1, v) :: strG y F r.1 r.2 else strG y F p r.2
def strL (F : List Sg) (x y : Int) : List St := strG y F x (0, 0)
theorem strG_nil {y p : Int} {v : Int × Int} : strG y [] p v = strZ y p v := rfl
theorem strG_end {y p : Int} {v : Int × Int} {r : Sg} {F : List Sg} (h : y ≤ r.1) : strG y (r :: F) p v = strZ y p v := by rw [strG, if_pos h]
theorem strG_cut {y p : Int} {v : Int × Int} {r : Sg} {F : List Sg} (h : ¬ y ≤ r.1) (h2 : p < r.1) : strG y (r :: F) p v = (p, r.1, v) :: strG y F r.1 r.2 := by rw [strG, if_neg h, if_pos h2]
theorem strG_on {y p : Int} {v : Int × Int} {r : Sg} {F : List Sg} (h : ¬ y ≤ r.1) (h2 : ¬ p < r.1) : strG y (r :: F) p v = strG y F p r.2 := by rw [strG, if_neg h, if_neg h2]
theorem strG_len (y : Int) : ∀ (F : List Sg) (p : Int) (v : Int × Int), (strG y F p v).length ≤ F.length + 1
  | [], p, v => by rw [strG_nil]; unfold strZ; split <;> simp
  | r :: F, p, v => by
    have h1 := strG_len y F r.1 r.2
    have h2 := strG_len y F p r.2
    rw [strG]
    split
    · unfold strZ; split <;> simp
    · split
      · simp only [List.length_cons]; omega
      · simp only [List.length_cons]; omega

/-- Stretches side by side, from p up to y, on each of which the function keeps its value. -/
def Cov (F : List Sg) (y : Int) : Int → List St → Prop
  | p, [] => y ≤ p
  | p, s :: r => s.1 = p ∧ p < s.2.1 ∧ s.2.1 ≤ y ∧ (∀ t, p ≤ t → t < s.2.1 → vat F t = s.2.2) ∧ Cov F y s.2.1 r
theorem strZ_cov {F : List Sg} {y p : Int} {v : Int × Int} (h : ∀ t, p ≤ t → t < y → vat F t = v) : Cov F y p (strZ y p v) := by
  unfold strZ
  split
  · rename_i h2
    exact ⟨rfl, h2, Int.le_refl _, h, Int.le_refl _⟩
  · rename_i h2
    show y ≤ p
    omega
theorem strG_cov {F0 : List Sg} {y : Int} : ∀ (F : List Sg) (p : Int) (v : Int × Int), (F.Pairwise fun a b => a.1 < b.1) → (∀ t, p ≤ t → vat F0 t = F.foldl (stepV t) v) → Cov F0 y p (strG y F p v)
  | [], p, v, _, h => strZ_cov fun t ht _ => h t ht
  | r :: F, p, v, hp, h => by
    have hp2 := List.pairwise_cons.1 hp
    have hgt : ∀ t, p ≤ t → t < r.1 → vat F0 t = v := fun t h1 h2 => by
      rw [h t h1]
      refine foldl_gt t _ _ fun s hs => ?_
      rcases List.mem_cons.1 hs with e | e
      · rw [e]; exact h2
      · have := hp2.1 s e; omega
    have hst : ∀ t, p ≤ t → r.1 ≤ t → vat F0 t = F.foldl (stepV t) r.2 := fun t h1 h2 => by
      rw [h t h1, List.foldl_cons]
      congr 1
      unfold stepV
      rw [if_pos h2]
    rw [strG]
    split
    · exact strZ_cov fun t h1 h2 => hgt t h1 (by omega)
    · split
      · rename_i h1 h2
        exact ⟨rfl, h2, by show r.1 ≤ y; omega, hgt, strG_cov F r.1 r.2 hp2.2 fun t ht => hst t (by omega) ht⟩
      · rename_i h1 h2
        exact strG_cov F p r.2 hp2.2 fun t ht => hst t ht (by omega)
theorem strL_cov {F : List Sg} (hF : Canon F) (x y : Int) : Cov F y x (strL F x y) := strG_cov F x (0, 0) (CF.up hF) fun _ _ => rfl

/-- The time up to which a list of stretches goes. -/
def endG (x : Int) (l : List St) : Int := l.foldl (fun _ s => s.2.1) x
theorem endG_snoc (x : Int) (l : List St) (s : St) : endG x (l ++ [s]) = s.2.1 := by unfold endG; rw [List.foldl_append]; rfl
theorem cov_end {F : List Sg} {y : Int} : ∀ (l : List St) (p : Int), Cov F y p l → p ≤ y → endG p l = y
  | [], p, h, hp => by
    have h' : y ≤ p := h
    show p = y
    omega
  | s :: r, p, h, _ => cov_end r s.2.1 h.2.2.2.2 h.2.2.1
/-- A stretch of the list, where it stands. -/
theorem cov_at {F : List Sg} {y : Int} : ∀ (pre : List St) (p : Int) (s : St) (post : List St), Cov F y p (pre ++ s :: post) → s.1 = endG p pre ∧ p ≤ s.1 ∧ s.1 < s.2.1 ∧ s.2.1 ≤ y ∧ ∀ t, s.1 ≤ t → t < s.2.1 → vat F t = s.2.2
  | [], p, s, post, ⟨h1, h2, h3, h4, _⟩ => by
    refine ⟨h1, by omega, by omega, h3, fun t ht => h4 t (by omega)⟩
  | u :: pre, p, s, post, ⟨h1, h2, h3, h4, h5⟩ => by
    obtain ⟨k1, k2, k3, k4, k5⟩ := cov_at pre u.2.1 s post h5
    exact ⟨k1, by omega, k3, k4, k5⟩
theorem cov_endle {F : List Sg} {y : Int} : ∀ (pre : List St) (p : Int) (post : List St), Cov F y p (pre ++ post) → p ≤ endG p pre
  | [], p, _, _ => Int.le_refl _
  | u :: pre, p, post, ⟨h1, h2, h3, h4, h5⟩ => by
    have := cov_endle pre u.2.1 post h5
    show p ≤ endG u.2.1 pre
    omega
/-- What is known of a stretch of a window's. -/
theorem str_at {F : List Sg} {x y : Int} (hF : Canon F) {pre : List St} {s : St} (h : pre ++ [s] <+: strL F x y) : s.1 = endG x pre ∧ x ≤ s.1 ∧ s.1 < s.2.1 ∧ s.2.1 ≤ y ∧ ∀ t, s.1 ≤ t → t < s.2.1 → vat F t = s.2.2 := by
  obtain ⟨post, e⟩ := h
  have hc := strL_cov hF x y
  rw [← e, List.append_assoc] at hc
  exact cov_at pre x s post hc
theorem str_end {F : List Sg} {x y : Int} (hF : Canon F) (hxy : x ≤ y) : endG x (strL F x y) = y := cov_end _ _ (strL_cov hF x y) hxy

/-- The sum over the first stretches. -/
def addG (acc : Int × Int) (s : St) : Int × Int := (acc.1 + (s.2.1 - s.1) * s.2.2.1, acc.2 + (s.2.1 - s.1) * s.2.2.2)
theorem add_str {F : List Sg} {x : Int} {s : St} (hx : x ≤ s.1) (h : s.1 < s.2.1) (hv : ∀ t, s.1 ≤ t → t < s.2.1 → vat F t = s.2.2) : sumN F x (s.2.1 - x).toNat = addG (sumN F x (s.1 - x).toNat) s := by
  obtain ⟨j, hj⟩ : ∃ j : Nat, s.1 = x + j := ⟨(s.1 - x).toNat, by omega⟩
  obtain ⟨k, hk⟩ : ∃ k : Nat, s.2.1 = s.1 + k := ⟨(s.2.1 - s.1).toNat, by omega⟩
  have e1 : (s.1 - x).toNat = j := by omega
  have e2 : (s.2.1 - x).toNat = j + k := by omega
  rw [e1, e2, sumN_add, ← hj, sumN_const (v := s.2.2) k (fun i hi => hv _ (by omega) (by omega))]
  unfold addG
  have e3 : s.2.1 - s.1 = (k : Int) := by omega
  rw [e3]
theorem low_const {F : List Sg} {x : Int} {v : Int × Int} (j : Nat) : ∀ k : Nat, (∀ i : Nat, i < k + 1 → vat F (x + j + i) = v) → lowN F x (j + (k + 1)) = (mn (lowN F x j).1 v.1, mn (lowN F x j).2 v.2)
  | 0, h => by
    have := h 0 (by omega)
    rw [show j + (0 + 1) = j + 1 by omega, lowN_step]
    rw [show x + (j : Int) + ((0 : Nat) : Int) = x + (j : Int) by omega] at this
    rw [this]
  | k + 1, h => by
    have ih := low_const j k fun i hi => h i (by omega)
    have hv := h (k + 1) (by omega)
    rw [show j + (k + 1 + 1) = (j + (k + 1)) + 1 by omega, lowN_step, ih]
    rw [show x + (j : Int) + ((k + 1 : Nat) : Int) = x + ((j + (k + 1) : Nat) : Int) by omega] at hv
    rw [hv]
    simp only [mn_min]
    apply Prod.ext <;> simp only <;> omega
theorem high_const {F : List Sg} {x : Int} {v : Int × Int} (j : Nat) : ∀ k : Nat, (∀ i : Nat, i < k + 1 → vat F (x + j + i) = v) → highN F x (j + (k + 1)) = (mx (highN F x j).1 v.1, mx (highN F x j).2 v.2)
  | 0, h => by
    have := h 0 (by omega)
    rw [show j + (0 + 1) = j + 1 by omega, highN_step]
    rw [show x + (j : Int) + ((0 : Nat) : Int) = x + (j : Int) by omega] at this
    rw [this]
  | k + 1, h => by
    have ih := high_const j k fun i hi => h i (by omega)
    have hv := h (k + 1) (by omega)
    rw [show j + (k + 1 + 1) = (j + (k + 1)) + 1 by omega, highN_step, ih]
    rw [show x + (j : Int) + ((k + 1 : Nat) : Int) = x + ((j + (k + 1) : Nat) : Int) by omega] at hv
    rw [hv]
    simp only [mx_max]
    apply Prod.ext <;> simp only <;> omega
theorem low_str {F : List Sg} {x : Int} {s : St} (hx : x ≤ s.1) (h : s.1 < s.2.1) (hv : ∀ t, s.1 ≤ t → t < s.2.1 → vat F t = s.2.2) : lowN F x (s.2.1 - x).toNat = (mn (lowN F x (s.1 - x).toNat).1 s.2.2.1, mn (lowN F x (s.1 - x).toNat).2 s.2.2.2) := by
  obtain ⟨j, hj⟩ : ∃ j : Nat, s.1 = x + j := ⟨(s.1 - x).toNat, by omega⟩
  obtain ⟨k, hk⟩ : ∃ k : Nat, s.2.1 = s.1 + k + 1 := ⟨(s.2.1 - s.1 - 1).toNat, by omega⟩
  have e1 : (s.1 - x).toNat = j := by omega
  have e2 : (s.2.1 - x).toNat = j + (k + 1) := by omega
  rw [e1, e2, low_const (v := s.2.2) j k (fun i hi => hv _ (by omega) (by omega))]
theorem high_str {F : List Sg} {x : Int} {s : St} (hx : x ≤ s.1) (h : s.1 < s.2.1) (hv : ∀ t, s.1 ≤ t → t < s.2.1 → vat F t = s.2.2) : highN F x (s.2.1 - x).toNat = (mx (highN F x (s.1 - x).toNat).1 s.2.2.1, mx (highN F x (s.1 - x).toNat).2 s.2.2.2) := by
  obtain ⟨j, hj⟩ : ∃ j : Nat, s.1 = x + j := ⟨(s.1 - x).toNat, by omega⟩
  obtain ⟨k, hk⟩ : ∃ k : Nat, s.2.1 = s.1 + k + 1 := ⟨(s.2.1 - s.1 - 1).toNat, by omega⟩
  have e1 : (s.1 - x).toNat = j := by omega
  have e2 : (s.2.1 - x).toNat = j + (k + 1) := by omega
  rw [e1, e2, high_const (v := s.2.2) j k (fun i hi => hv _ (by omega) (by omega))]

/-- The raw runs of a cut. -/
def rawC (l : List St) : List Sg := l.map fun s => (s.1, s.2.2)
def cutR (F : List Sg) (x y : Int) : List Sg := rawC (strL F x y) ++ [(y, (0, 0))]
theorem cov_raw {F : List Sg} {y : Int} : ∀ (l : List St) (p : Int), Cov F y p l → p ≤ y →
    ((rawC l ++ [(y, ((0, 0) : Int × Int))]).Pairwise fun a b => a.1 < b.1) ∧ (∀ s ∈ rawC l ++ [(y, ((0, 0) : Int × Int))], p ≤ s.1 ∧ s.1 ≤ y) ∧
    (∀ t acc, (rawC l ++ [(y, ((0, 0) : Int × Int))]).foldl (stepV t) acc = if t < p then acc else if t < y then vat F t else (0, 0))
  | [], p, h, hp => by
    have h' : y ≤ p := h
    refine ⟨by simp [rawC], fun s hs => ?_, fun t acc => ?_⟩
    · simp [rawC] at hs; subst hs; exact ⟨hp, Int.le_refl _⟩
    · simp only [rawC, List.map_nil, List.nil_append, List.foldl_cons, List.foldl_nil, stepV]
      by_cases c : t < p
      · rw [if_pos c, if_neg (by omega)]
      · rw [if_neg c, if_pos (by omega), if_neg (by omega)]
  | u :: r, p, ⟨h1, h2, h3, h4, h5⟩, hp => by
    obtain ⟨k1, k2, k3⟩ := cov_raw r u.2.1 h5 h3
    have e : rawC (u :: r) ++ [(y, ((0, 0) : Int × Int))] = (u.1, u.2.2) :: (rawC r ++ [(y, (0, 0))]) := rfl
    rw [e]
    refine ⟨List.pairwise_cons.2 ⟨fun s hs => ?_, k1⟩, fun s hs => ?_, fun t acc => ?_⟩
    · have := k2 s hs
      show u.1 < s.1
      omega
    · rcases List.mem_cons.1 hs with e | e
      · subst e
        show p ≤ u.1 ∧ u.1 ≤ y
        omega
      · have := k2 s e; omega
    · rw [List.foldl_cons, k3]
      by_cases c : t < p
      · rw [if_pos c, if_pos (by omega)]
        unfold stepV
        rw [if_neg (by simp only; omega)]
      · rw [if_neg c]
        by_cases c2 : t < u.2.1
        · rw [if_pos c2, if_pos (by omega), h4 t (by omega) c2]
          unfold stepV
          rw [if_pos (by simp only; omega)]
        · rw [if_neg c2]
theorem cutR_val {F : List Sg} (hF : Canon F) {x y : Int} (hxy : x ≤ y) (t : Int) : rv (cutR F x y) t = cutV F x y t := by
  obtain ⟨h1, _, h3⟩ := cov_raw (strL F x y) x (strL_cov hF x y) hxy
  have : rv (cutR F x y) t = (cutR F x y).foldl (stepV t) (0, 0) := rread_up (cutR F x y) _ h1 (fun _ _ h => by cases h)
  rw [this]
  unfold cutR
  rw [h3]
  unfold cutV
  by_cases c : t < x
  · rw [if_pos c, if_neg (by omega)]
  · rw [if_neg c]
    by_cases c2 : t < y
    · rw [if_pos c2, if_pos (by omega)]
    · rw [if_neg c2, if_neg (by omega)]
theorem cutR_ok {F : List Sg} (hF : Canon F) {x y : Int} (hxy : x ≤ y) : (cutR F x y).all okS = farS4 x y := by
  obtain ⟨h1, h2, _⟩ := cov_raw (strL F x y) x (strL_cov hF x y) hxy
  rw [Bool.eq_iff_iff, List.all_eq_true]
  unfold farS4
  rw [decide_eq_true_iff]
  constructor
  · intro h
    have hy := h (y, (0, 0)) (by unfold cutR; simp)
    have hy' : okT y = true := by unfold okS at hy; rw [Bool.and_eq_true] at hy; exact hy.1
    rw [okT_iff] at hy'
    by_cases c : x = y
    · omega
    · have hx : ∃ v, (x, v) ∈ cutR F x y := by
        have hc := strL_cov hF x y
        cases hs : strL F x y with
        | nil => rw [hs] at hc; have hc' : y ≤ x := hc; omega
        | cons u r =>
          rw [hs] at hc
          refine ⟨u.2.2, ?_⟩
          unfold cutR
          rw [hs, ← hc.1]
          simp [rawC]
      obtain ⟨v, hv⟩ := hx
      have := h _ hv
      unfold okS at this
      rw [Bool.and_eq_true, okT_iff] at this
      omega
  · rintro ⟨h3, h4, h5, h6⟩ s hs
    have hb := h2 s hs
    unfold okS
    rw [Bool.and_eq_true, okT_iff]
    refine ⟨by omega, ?_⟩
    unfold cutR at hs
    rcases List.mem_append.1 hs with hm | hm
    · unfold rawC at hm
      rw [List.mem_map] at hm
      obtain ⟨u, hu, rfl⟩ := hm
      obtain ⟨pre, post, e⟩ := List.append_of_mem hu
      have hc := strL_cov hF x y
      rw [e] at hc
      obtain ⟨k1, k2, k3, k4, k5⟩ := cov_at pre x u post hc
      simp only
      rw [← k5 u.1 (Int.le_refl _) k3]
      exact vat_ok (CF.ok hF) _
    · simp at hm; subst hm; rfl
theorem cutR_len (F : List Sg) (x y : Int) : (cutR F x y).length ≤ F.length + 2 := by
  have := strG_len y F x (0, 0)
  unfold cutR rawC strL
  rw [List.length_append, List.length_map]
  simp only [List.length_cons, List.length_nil]
  omega
/-- What Of makes of a cut's raw runs. -/
theorem cutR_of {F G : List Sg} (hF : Canon F) {x y : Int} (hxy : x ≤ y) (hb : farS4 x y = true) (h : IsOf (cutR F x y) G) : G = cutL F x y :=
  cutL_unique hF hxy hb h.1 fun t => (h.2.1 t).trans (cutR_val hF hxy t)
theorem cutS_form {F : List Sg} {x y : Int} (h : mayB F = false) : cutS F x y = ([], 5) := by unfold cutS; rw [if_pos h]
theorem cutS_arg {F : List Sg} {x y : Int} (h : mayB F = true) (h2 : y < x) : cutS F x y = ([], 2) := by unfold cutS; rw [if_neg (by rw [h]; decide), if_pos h2]
theorem cutS_far {F : List Sg} {x y : Int} (h : mayB F = true) (h2 : ¬ y < x) (h3 : farS4 x y = false) : cutS F x y = ([], 10) := by unfold cutS; rw [if_neg (by rw [h]; decide), if_neg h2, if_pos h3]
theorem cutS_ok {F : List Sg} {x y : Int} (h : mayB F = true) (h2 : ¬ y < x) (h3 : farS4 x y = true) : cutS F x y = (cutL F x y, 0) := by unfold cutS; rw [if_neg (by rw [h]; decide), if_neg h2, if_neg (by rw [h3]; decide)]
end Go.Proofs.YthlepbbdjmmelaaGreat

namespace Go.Proofs.YthlepbbdjmmelaaGreat

/-- What was shifted is shifted back. -/
theorem shift_back {F M : List Sg} {d : Int} (h : shiftS F d = (M, 0)) : mayB M = true ∧ shiftS M (-d) = (F, 0) ∧ okT d = true := by
  unfold shiftS at h
  split at h
  · cases h
  · rename_i h1
    split at h
    · cases h
    · rename_i h2
      split at h
      · cases h
      · rename_i h3
        have e1 : mayB F = true := by cases hm : mayB F <;> simp_all
        have e2 : okT d = true := by cases hm : okT d <;> simp_all
        have e3 : shiftOk F d = true := by cases hm : shiftOk F d <;> simp_all
        obtain rfl : shiftL F d = M := by
          have := congrArg Prod.fst h
          exact this
        have hC := shift_canon (mayB_iff.1 e1) e3
        have hm : mayB (shiftL F d) = true := mayB_iff.2 hC
        have hd : okT (-d) = true := by rw [okT_iff] at e2 ⊢; omega
        have hs : shiftOk (shiftL F d) (-d) = true := by
          unfold shiftOk
          rw [shiftL_back]
          rw [List.all_eq_true]
          exact CF.ok (mayB_iff.1 e1)
        exact ⟨hm, by rw [shiftS_ok hm hd hs, shiftL_back], e2⟩
/-- Where a function's values are those of another one, so are its sums. -/
theorem sumN_ext {F G : List Sg} {x : Int} : ∀ n : Nat, (∀ i : Nat, i < n → vat F (x + i) = vat G (x + i)) → sumN F x n = sumN G x n
  | 0, _ => rfl
  | n + 1, h => by
    rw [sumN_step, sumN_step, sumN_ext n (fun i hi => h i (by omega)), h n (by omega)]
theorem sumN_zero {F : List Sg} {x : Int} (n : Nat) (h : ∀ i : Nat, i < n → vat F (x + i) = (0, 0)) : sumN F x n = (0, 0) := by
  rw [sumN_const (v := (0, 0)) n h]
  simp
/-- The sum of a cut, over a window that is wider by five ticks at each end. -/
theorem cut_sum {F : List Sg} {x : Int} {n : Nat} (hF : Canon F) (hb : farS4 x (x + n) = true) : sumN (cutL F x (x + n)) (x - 5) (5 + n + 5) = sumN F x n := by
  obtain ⟨_, hv⟩ := cutL_spec hF (show x ≤ x + n by omega) hb
  rw [show 5 + n + 5 = 5 + (n + 5) by omega, sumN_add, show x - 5 + ((5 : Nat) : Int) = x by omega, sumN_add]
  rw [sumN_zero (F := cutL F x (x + n)) (x := x - 5) 5 (fun i hi => by rw [hv]; unfold cutV; rw [if_neg (by omega)])]
  rw [sumN_zero (F := cutL F x (x + n)) (x := x + n) 5 (fun i hi => by rw [hv]; unfold cutV; rw [if_neg (by omega)])]
  rw [sumN_ext (F := cutL F x (x + n)) (G := F) (x := x) n (fun i hi => by rw [hv]; unfold cutV; rw [if_pos (by omega)])]
  simp
theorem leB_true {a b : Int × Int} (h : a.1 ≤ b.1 ∧ a.2 ≤ b.2) : leB a.1 a.2 b.1 b.2 = true := by
  cases hq : leB a.1 a.2 b.1 b.2
  · rw [leB_not] at hq; omega
  · rfl
theorem buildL_lenM (g : Int → Int × Int) : ∀ ts : List Int, (buildL g ts).length ≤ ts.length := by
  intro ts
  have key : ∀ k, k ≤ ts.length → (buildL g (ts.take k)).length ≤ k := by
    intro k
    induction k with
    | zero => intro _; simp [buildL]
    | succ k ih =>
      intro h
      rw [List.take_succ_eq_append_getElem (by omega), buildL_snoc]
      have := ih (by omega)
      unfold withL
      split
      · omega
      · simp; omega
  have := key ts.length (Nat.le_refl _)
  rwa [List.take_length] at this
end Go.Proofs.YthlepbbdjmmelaaGreat

namespace Go.Proofs.YthlepbbdjmmelaaGreat

/-- A policy: its kind, its limit, its window's length. -/
abbrev Pol := Int × (Int × Int) × Int
def capB (c : Int × Int) : Bool := leB 0 0 c.1 c.2 && leB c.1 c.2 1073741824 1073741824
theorem capB_iff {c : Int × Int} : capB c = true ↔ 0 ≤ c.1 ∧ 0 ≤ c.2 ∧ c.1 ≤ 1073741824 ∧ c.2 ≤ 1073741824 := by
  unfold capB; rw [Bool.and_eq_true, leB_iff, leB_iff]; constructor
  · rintro ⟨⟨a, b⟩, c, d⟩; exact ⟨a, b, c, d⟩
  · rintro ⟨a, b, c, d⟩; exact ⟨⟨a, b⟩, c, d⟩
/-- May a policy be? -/
def polB (x : Pol) : Bool :=
  if x.1 = 0 then decide (x.2.1 = (0, 0)) && decide (x.2.2 = 0)
  else if x.1 = 1 then capB x.2.1 && decide (x.2.2 = 0)
  else if x.1 = 2 then capB x.2.1 && decide (1 ≤ x.2.2 ∧ x.2.2 ≤ 4096) else false
def nowB (t : Int) : Bool := decide (-1099511627776 ≤ t ∧ t ≤ 1099511627776)
theorem nowB_iff {t : Int} : nowB t = true ↔ -1099511627776 ≤ t ∧ t ≤ 1099511627776 := by unfold nowB; exact decide_eq_true_iff

/-- The first time from x on at which something is bad, or that it never is. -/
def FstAt (bad : Int → Bool) (x : Int) (r : Int × Bool) : Prop :=
  (r = (0, true) ∧ ∀ s, x ≤ s → bad s = false) ∨ ∃ t, x ≤ t ∧ r = (t, false) ∧ bad t = true ∧ ∀ s, x ≤ s → s < t → bad s = false
theorem FstAt.eq {b b' : Int → Bool} {x : Int} {r r' : Int × Bool} (h : FstAt b x r) (h' : FstAt b' x r') (hb : ∀ s, x ≤ s → b s = b' s) : r = r' := by
  rcases h with ⟨rfl, h⟩ | ⟨t, h1, rfl, h2, h3⟩ <;> rcases h' with ⟨rfl, h'⟩ | ⟨t', h1', rfl, h2', h3'⟩
  · rfl
  · rw [← hb t' h1', h t' h1'] at h2'; cases h2'
  · rw [hb t h1, h' t h1] at h2; cases h2
  · by_cases c : t < t'
    · rw [hb t h1, h3' t h1 c] at h2; cases h2
    · by_cases c2 : t' < t
      · rw [← hb t' h1', h3 t' h1' c2] at h2'; cases h2'
      · have : t = t' := by omega
        rw [this]
theorem FstAt.holds {b : Int → Bool} {x : Int} {r : Int × Bool} (h : FstAt b x r) (hr : r.2 = true) : r = (0, true) ∧ ∀ s, x ≤ s → b s = false := by
  rcases h with h | ⟨t, _, rfl, _⟩
  · exact h
  · cases hr
theorem FstAt.not {b : Int → Bool} {x : Int} {r : Int × Bool} (h : FstAt b x r) (hr : r.2 = false) : x ≤ r.1 ∧ b r.1 = true ∧ ∀ s, x ≤ s → s < r.1 → b s = false := by
  rcases h with ⟨rfl, _⟩ | ⟨t, h1, rfl, h2, h3⟩
  · cases hr
  · exact ⟨h1, h2, h3⟩

def leP (F G : List Sg) (x : Int) : Int × Bool := ((leS F G x).1, (leS F G x).2.1)
def leBad (F G : List Sg) (t : Int) : Bool := !(leB (vat F t).1 (vat F t).2 (vat G t).1 (vat G t).2)
theorem leP_first {F G : List Sg} (hF : mayB F = true) (hG : mayB G = true) (x : Int) : FstAt (leBad F G) x (leP F G x) := by
  unfold leP
  rcases leS_may x hF hG with ⟨e, h⟩ | ⟨t, e, h1, h2, _, h3⟩
  · rw [e]; exact .inl ⟨rfl, fun s hs => by unfold leBad; rw [h s hs]; rfl⟩
  · rw [e]; exact .inr ⟨t, h1, rfl, by unfold leBad; rw [h2]; rfl, fun s hs hst => by unfold leBad; rw [h3 s hs hst]; rfl⟩
theorem leS_of (F G : List Sg) (x : Int) (hF : mayB F = true) (hG : mayB G = true) : leS F G x = ((leP F G x).1, (leP F G x).2, 0) := by
  unfold leP
  rcases leS_may x hF hG with ⟨e, _⟩ | ⟨t, e, _⟩ <;> rw [e]
theorem leP_ext {F G G' : List Sg} (hF : mayB F = true) (hG : mayB G = true) (hG' : mayB G' = true) {x : Int} (h : ∀ t, x ≤ t → vat G t = vat G' t) : leP F G x = leP F G' x :=
  (leP_first hF hG x).eq (leP_first hF hG' x) fun s hs => by unfold leBad; rw [h s hs]

/-- A limit, from a time on. -/
def limL (now : Int) (c : Int × Int) : List Sg := if c = (0, 0) then [] else [(now, c)]
theorem limL_canon {now : Int} {c : Int × Int} (hn : okT now = true) (hc : okV c.1 c.2 = true) : Canon (limL now c) := by
  unfold limL
  by_cases h : c = (0, 0)
  · rw [if_pos h]; exact trivial
  · rw [if_neg h]
    exact ⟨by unfold okS; rw [hn, hc]; rfl, h, fun s hs => by simp at hs, trivial⟩
theorem limL_vat {now t : Int} {c : Int × Int} (h : now ≤ t) : vat (limL now c) t = c := by
  unfold limL
  by_cases e : c = (0, 0)
  · rw [if_pos e, e]; rfl
  · rw [if_neg e]
    unfold vat stepV
    simp [h]
theorem limL_isOf {now : Int} {c : Int × Int} (hn : okT now = true) (hc : okV c.1 c.2 = true) {f : List Sg} (h : IsOf [(now, c)] f) : f = limL now c := by
  refine cf_ext h.1 (limL_canon hn hc) fun t => ?_
  show vat f t = vat (limL now c) t
  rw [h.2.1 t]
  unfold rv rread limL
  simp only [List.foldl_cons, List.foldl_nil]
  unfold rstep
  by_cases e : c = (0, 0)
  · rw [if_pos e]
    by_cases k : now ≤ t <;> simp [k, e, vat]
  · rw [if_neg e]
    unfold vat stepV
    by_cases k : now ≤ t <;> simp [k]
theorem cap_ok {c : Int × Int} (h : capB c = true) : okV c.1 c.2 = true := by
  obtain ⟨a, b, d, e⟩ := capB_iff.1 h
  exact okV_iff.2 ⟨by omega, by omega, by omega, by omega⟩
theorem now_okT {t : Int} (h : nowB t = true) : okT t = true := by
  obtain ⟨a, b⟩ := nowB_iff.1 h
  exact okT_iff.2 ⟨by omega, by omega⟩
theorem limL_may {now : Int} {c : Int × Int} (hn : okT now = true) (hc : capB c = true) : mayB (limL now c) = true := mayB_iff.2 (limL_canon hn (cap_ok hc))

/-- Sums in windows. -/
def ovP (F : List Sg) (x n : Int) (l : Int × Int) : Int × Bool := ((overS F x n l).1, !(overS F x n l).2.1)
theorem ovP_first {F : List Sg} {x n : Int} {l : Int × Int} (hm : mayB F = true) (ha : overArg x n = true) (ho : okV l.1 l.2 = true) : FstAt (overB F n.toNat l) x (ovP F x n l) := by
  unfold ovP
  rcases over_spec hm ha ho with ⟨e, h⟩ | ⟨t, h1, _, e, h2, h3⟩
  · rw [e]; exact .inl ⟨rfl, h⟩
  · rw [e]; exact .inr ⟨t, h1, rfl, h2, h3⟩
def wide (c : Int × Int) (n : Int) : Int × Int := (c.1 * n, c.2 * n)
theorem wide_le {c : Int × Int} {n : Int} (h : capB c = true) (h1 : 1 ≤ n) (h2 : n ≤ 4096) : 0 ≤ c.1 * n ∧ c.1 * n ≤ 4398046511104 ∧ 0 ≤ c.2 * n ∧ c.2 * n ≤ 4398046511104 := by
  obtain ⟨a, b, d, e⟩ := capB_iff.1 h
  have m1 : c.1 * n ≤ 1073741824 * 4096 := Int.mul_le_mul d h2 (by omega) (by omega)
  have m2 : c.2 * n ≤ 1073741824 * 4096 := Int.mul_le_mul e h2 (by omega) (by omega)
  exact ⟨Int.mul_nonneg a (by omega), by omega, Int.mul_nonneg b (by omega), by omega⟩
theorem wide_ok {c : Int × Int} {n : Int} (h : capB c = true) (h1 : 1 ≤ n) (h2 : n ≤ 4096) : okV (wide c n).1 (wide c n).2 = true := by
  obtain ⟨a, b, d, e⟩ := wide_le h h1 h2
  unfold wide
  exact okV_iff.2 ⟨by simp only; omega, by simp only; omega, by simp only; omega, by simp only; omega⟩
theorem scl_wide {c : Int × Int} {n : Int} (h : capB c = true) (h1 : 1 ≤ n) (h2 : n ≤ 4096) : sclS c.1 c.2 n = ((wide c n).1, (wide c n).2, 0) := by
  have ho := wide_ok h h1 h2
  unfold wide at ho ⊢
  unfold sclS
  rw [cap_ok h, ho]; rfl

/-- What a question's answer is: the load, the capacity, the user's load. -/
def ansP (x : Pol) (now : Int) (F G H : List Sg) : Int × Bool :=
  if x.1 = 0 then leP F G now else if x.1 = 1 then leP H (limL now x.2.1) now else ovP H now x.2.2 (wide x.2.1 x.2.2)
def badP (x : Pol) (F G H : List Sg) (t : Int) : Bool :=
  if x.1 = 0 then leBad F G t else if x.1 = 1 then !(leB (vat H t).1 (vat H t).2 x.2.1.1 x.2.1.2) else overB H x.2.2.toNat (wide x.2.1 x.2.2) t
theorem pol_kind {x : Pol} (h : polB x = true) : (x.1 = 0 ∧ x.2 = ((0, 0), 0)) ∨ (x.1 = 1 ∧ capB x.2.1 = true ∧ x.2.2 = 0) ∨ (x.1 = 2 ∧ capB x.2.1 = true ∧ 1 ≤ x.2.2 ∧ x.2.2 ≤ 4096) := by
  unfold polB at h
  split at h
  · rename_i e
    rw [Bool.and_eq_true, decide_eq_true_iff, decide_eq_true_iff] at h
    exact .inl ⟨e, Prod.ext h.1 h.2⟩
  split at h
  · rename_i e
    rw [Bool.and_eq_true, decide_eq_true_iff] at h
    exact .inr (.inl ⟨e, h.1, h.2⟩)
  split at h
  · rename_i e
    rw [Bool.and_eq_true, decide_eq_true_iff] at h
    exact .inr (.inr ⟨e, h.1, h.2.1, h.2.2⟩)
  · cases h
theorem ans_first {x : Pol} {now : Int} {F G H : List Sg} (hx : polB x = true) (hn : nowB now = true) (hF : mayB F = true) (hG : mayB G = true) (hH : mayB H = true) : FstAt (badP x F G H) now (ansP x now F G H) := by
  have hn' := nowB_iff.1 hn
  unfold badP ansP
  rcases pol_kind hx with ⟨e, _⟩ | ⟨e, hc, _⟩ | ⟨e, hc, h1, h2⟩
  · simp only [e, if_true]
    exact leP_first hF hG now
  · simp only [e, Int.reduceEq, if_true, if_false]
    rcases leP_first hH (limL_may (now_okT hn) hc) now with ⟨q, h⟩ | ⟨t, q1, q2, q3, q4⟩
    · exact .inl ⟨q, fun s hs => by have := h s hs; unfold leBad at this; rwa [limL_vat hs] at this⟩
    · exact .inr ⟨t, q1, q2, by unfold leBad at q3; rwa [limL_vat q1] at q3, fun s hs hst => by have := q4 s hs hst; unfold leBad at this; rwa [limL_vat hs] at this⟩
  · simp only [e, Int.reduceEq, if_false]
    exact ovP_first hH (overArg_iff.2 ⟨h1, h2, by omega, by omega⟩) (wide_ok hc h1 h2)
/-- What Check answers. -/
def chkP (x : Pol) (now : Int) (F G H : List Sg) : Int × Bool × Int :=
  if (polB x && nowB now) = false then (0, false, 2) else if (mayB F && mayB G && mayB H) = false then (0, false, 5) else ((ansP x now F G H).1, (ansP x now F G H).2, 0)
theorem chk_arg {x : Pol} {now : Int} {F G H : List Sg} (h : (polB x && nowB now) = false) : chkP x now F G H = (0, false, 2) := by unfold chkP; rw [if_pos h]
theorem chk_form {x : Pol} {now : Int} {F G H : List Sg} (h : (polB x && nowB now) = true) (h2 : (mayB F && mayB G && mayB H) = false) : chkP x now F G H = (0, false, 5) := by unfold chkP; rw [if_neg (by rw [h]; decide), if_pos h2]
theorem chk_ok {x : Pol} {now : Int} {F G H : List Sg} (h : (polB x && nowB now) = true) (h2 : (mayB F && mayB G && mayB H) = true) : chkP x now F G H = ((ansP x now F G H).1, (ansP x now F G H).2, 0) := by
  unfold chkP; rw [if_neg (by rw [h]; decide), if_neg (by rw [h2]; decide)]
/-- What is known of an answer. -/
theorem chk_cases (x : Pol) (now : Int) (F G H : List Sg) :
    (chkP x now F G H = (0, false, 2) ∧ (polB x && nowB now) = false) ∨ (chkP x now F G H = (0, false, 5) ∧ (polB x && nowB now) = true ∧ (mayB F && mayB G && mayB H) = false) ∨
    (polB x = true ∧ nowB now = true ∧ mayB F = true ∧ mayB G = true ∧ mayB H = true ∧ ∃ r, chkP x now F G H = (r.1, r.2, 0) ∧ FstAt (badP x F G H) now r) := by
  cases h : polB x && nowB now
  · exact .inl ⟨chk_arg h, rfl⟩
  cases h2 : mayB F && mayB G && mayB H
  · exact .inr (.inl ⟨chk_form h h2, rfl, rfl⟩)
  refine .inr (.inr ?_)
  have e := chk_ok h h2
  simp only [Bool.and_eq_true] at h h2
  exact ⟨h.1, h.2, h2.1.1, h2.1.2, h2.2, _, e, ans_first h.1 h.2 h2.1.1 h2.1.2 h2.2⟩
/-- The document's limit, from a time far back on. -/
theorem leP_far {H : List Sg} {now : Int} {c : Int × Int} (hH : mayB H = true) (hn : nowB now = true) (hc : capB c = true) : leP H (limL (-1125899906842624) c) now = leP H (limL now c) now :=
  leP_ext hH (limL_may (by decide) hc) (limL_may (now_okT hn) hc) fun t ht => by
    have := nowB_iff.1 hn
    rw [limL_vat (by omega), limL_vat ht]
end Go.Proofs.YthlepbbdjmmelaaGreat

namespace Go.Proofs.YthlepbbdjmmelaaGreat

/-- The runs behind a time. -/
def curF (F : List Sg) (t : Int) : List Sg := F.filter fun r => decide (t < r.1)
/-- What a cursor moves on to. -/
def moveF : List Sg → Int → List Sg
  | [], _ => []
  | r :: f, t => if r.1 ≤ t then moveF f t else r :: f
def moveV : List Sg → Int → Int × Int → Int × Int
  | [], _, v => v
  | r :: f, t, v => if r.1 ≤ t then moveV f t r.2 else v
theorem curF_mem {F : List Sg} {t : Int} {r : Sg} : r ∈ curF F t ↔ r ∈ F ∧ t < r.1 := by unfold curF; rw [List.mem_filter, decide_eq_true_iff]
theorem curF_len (F : List Sg) (t : Int) : (curF F t).length ≤ F.length := List.length_filter_le _ _
theorem curF_up {F : List Sg} (h : F.Pairwise fun a b => a.1 < b.1) (t : Int) : (curF F t).Pairwise fun a b => a.1 < b.1 := h.filter _
theorem curF_all {F : List Sg} {t : Int} (h : ∀ r ∈ F, t < r.1) : curF F t = F := by
  unfold curF
  rw [List.filter_eq_self]
  intro r hr
  exact decide_eq_true (h r hr)
theorem curF_cur {F : List Sg} {s t : Int} (h : s ≤ t) : curF (curF F s) t = curF F t := by
  unfold curF
  rw [List.filter_filter]
  congr 1
  funext r
  rw [Bool.eq_iff_iff, Bool.and_eq_true, decide_eq_true_iff, decide_eq_true_iff]
  omega
theorem moveF_up : ∀ (F : List Sg) (t : Int), (F.Pairwise fun a b => a.1 < b.1) → moveF F t = curF F t
  | [], _, _ => rfl
  | r :: f, t, h => by
    have h2 := List.pairwise_cons.1 h
    unfold moveF
    by_cases c : r.1 ≤ t
    · rw [if_pos c, moveF_up f t h2.2]
      unfold curF
      rw [List.filter_cons_of_neg (by simp; exact c)]
    · rw [if_neg c, curF_all]
      intro s hs
      rcases List.mem_cons.1 hs with e | e
      · subst e; omega
      · have := h2.1 s e; omega
theorem moveV_up : ∀ (F : List Sg) (t : Int) (v : Int × Int), (F.Pairwise fun a b => a.1 < b.1) → moveV F t v = F.foldl (stepV t) v
  | [], _, _, _ => rfl
  | r :: f, t, v, h => by
    have h2 := List.pairwise_cons.1 h
    unfold moveV
    by_cases c : r.1 ≤ t
    · rw [if_pos c, moveV_up f t _ h2.2, List.foldl_cons]
      congr 1
      unfold stepV
      rw [if_pos c]
    · rw [if_neg c, foldl_gt]
      intro s hs
      rcases List.mem_cons.1 hs with e | e
      · subst e; omega
      · have := h2.1 s e; omega
theorem fold_cur {s t : Int} (h : s ≤ t) : ∀ (F : List Sg) (v : Int × Int), (F.Pairwise fun a b => a.1 < b.1) → (curF F s).foldl (stepV t) (F.foldl (stepV s) v) = F.foldl (stepV t) v
  | [], _, _ => rfl
  | r :: f, v, hp => by
    have h2 := List.pairwise_cons.1 hp
    by_cases c : r.1 ≤ s
    · have e : curF (r :: f) s = curF f s := by unfold curF; rw [List.filter_cons_of_neg (by simp; exact c)]
      rw [e, List.foldl_cons, fold_cur h f _ h2.2, List.foldl_cons]
      congr 1
      unfold stepV
      rw [if_pos c, if_pos (by omega)]
    · have ha : ∀ x ∈ r :: f, s < x.1 := fun x hx => by
        rcases List.mem_cons.1 hx with e | e
        · subst e; omega
        · have := h2.1 x e; omega
      rw [curF_all ha, foldl_gt s _ _ ha]
theorem move_f {F : List Sg} (hF : Canon F) {s t : Int} (h : s ≤ t) : moveF (curF F s) t = curF F t := by
  rw [moveF_up _ _ (curF_up (CF.up hF) s), curF_cur h]
theorem move_v {F : List Sg} (hF : Canon F) {s t : Int} (h : s ≤ t) : moveV (curF F s) t (vat F s) = vat F t := by
  rw [moveV_up _ _ _ (curF_up (CF.up hF) s)]
  exact fold_cur h F _ (CF.up hF)
theorem cur_far {F : List Sg} (hF : Canon F) : curF F (-1125899906842625) = F ∧ vat F (-1125899906842625) = (0, 0) := by
  have h : ∀ r ∈ F, (-1125899906842625 : Int) < r.1 := fun r hr => by
    have := okT_of (CF.ok hF) hr
    rw [okT_iff] at this
    omega
  exact ⟨curF_all h, vat_before h⟩
/-- Up to the next run the value stays. -/
theorem cur_stay {F : List Sg} {s t : Int} (h : s ≤ t) (hn : ∀ r ∈ curF F s, t < r.1) : vat F t = vat F s :=
  (vat_same fun x hx => ⟨fun q => by omega, fun q => by
    by_cases c : x.1 ≤ s
    · exact c
    · have := hn x (curF_mem.2 ⟨hx, by omega⟩); omega⟩).symm
theorem cur_first {F : List Sg} (hF : Canon F) {s t : Int} (h : 0 < (curF F s).length) (ht : t < ats (curF F s) 0) : ∀ r ∈ curF F s, t < r.1 := by
  intro r hr
  have hu := curF_up (CF.up hF) s
  generalize curF F s = l at *
  cases l with
  | nil => simp at h
  | cons u l =>
    have hu2 := (List.pairwise_cons.1 hu).1
    have ht2 : t < u.1 := ht
    rcases List.mem_cons.1 hr with e | e
    · subst e; exact ht2
    · have := hu2 r e; omega
theorem cur_none {F : List Sg} {s : Int} (h : (curF F s).length = 0) : ∀ r ∈ curF F s, (0 : Int) < 0 := by
  rw [List.length_eq_zero_iff] at h
  rw [h]; intro r hr; simp at hr
theorem cur_gt {F : List Sg} {s : Int} (h : 0 < (curF F s).length) : s < ats (curF F s) 0 := by
  unfold ats
  rw [getD_get _ _ _ h]
  exact (curF_mem.1 (List.getElem_mem h)).2
theorem cur_in {F : List Sg} (hF : Canon F) {s : Int} (h : 0 < (curF F s).length) : -1125899906842624 ≤ ats (curF F s) 0 ∧ ats (curF F s) 0 ≤ 1125899906842624 := by
  unfold ats
  rw [getD_get _ _ _ h]
  exact okT_iff.1 (okT_of (CF.ok hF) (curF_mem.1 (List.getElem_mem h)).1)
theorem filter_le {α : Type} {p q : α → Bool} : ∀ (l : List α), (∀ x ∈ l, q x = true → p x = true) → (l.filter q).length ≤ (l.filter p).length
  | [], _ => Nat.le_refl _
  | x :: l, h => by
    have ih := filter_le l fun y hy => h y (by simp [hy])
    cases hq : q x
    · rw [List.filter_cons_of_neg (by rw [hq]; decide)]
      cases hp : p x
      · rw [List.filter_cons_of_neg (by rw [hp]; decide)]; exact ih
      · rw [List.filter_cons_of_pos hp]; simp only [List.length_cons]; omega
    · rw [List.filter_cons_of_pos hq, List.filter_cons_of_pos (h x (by simp) hq)]
      simp only [List.length_cons]; omega
theorem cur_mono {F : List Sg} {s t : Int} (h : s ≤ t) : (curF F t).length ≤ (curF F s).length :=
  filter_le F fun x _ hq => decide_eq_true (by have := of_decide_eq_true hq; omega)
theorem cur_less {F : List Sg} {s t : Int} (h : 0 < (curF F s).length) (ht : ats (curF F s) 0 ≤ t) : (curF F t).length < (curF F s).length := by
  have hst : s ≤ t := by have := cur_gt h; omega
  rw [← curF_cur (F := F) hst]
  generalize curF F s = l at *
  cases l with
  | nil => simp at h
  | cons u l =>
    have ht2 : u.1 ≤ t := ht
    have : curF (u :: l) t = curF l t := by unfold curF; rw [List.filter_cons_of_neg (by simp; exact ht2)]
    rw [this]
    have := curF_len l t
    simp only [List.length_cons]; omega
/-- Runs behind a time are behind an earlier one. -/
theorem cur_zero {F : List Sg} {s t : Int} (h : s ≤ t) (h0 : (curF F s).length = 0) : (curF F t).length = 0 := by
  have := cur_mono (F := F) h; omega

/-- For how many ticks the sliding sum goes on as a straight line. -/
def straightI (F : List Sg) (x n : Int) : Int :=
  if (curF F x).length = 0 then 0 else if (curF F (x + n)).length = 0 then ats (curF F x) 0 - x else mn (ats (curF F x) 0 - x) (ats (curF F (x + n)) 0 - n - x)
theorem straight_nil {F : List Sg} {x n : Int} (h : (curF F x).length = 0) : straightI F x n = 0 := by unfold straightI; rw [if_pos h]
theorem straight_one {F : List Sg} {x n : Int} (h : (curF F x).length ≠ 0) (h2 : (curF F (x + n)).length = 0) : straightI F x n = ats (curF F x) 0 - x := by unfold straightI; rw [if_neg h, if_pos h2]
theorem straight_two {F : List Sg} {x n : Int} (h : (curF F x).length ≠ 0) (h2 : (curF F (x + n)).length ≠ 0) : straightI F x n = mn (ats (curF F x) 0 - x) (ats (curF F (x + n)) 0 - n - x) := by unfold straightI; rw [if_neg h, if_neg h2]
/-- What is known of it. -/
theorem straight_spec {F : List Sg} (hF : Canon F) {x n : Int} (_hn : 0 ≤ n) :
    (straightI F x n = 0 ∧ (curF F x).length = 0) ∨
    (0 < straightI F x n ∧ x + straightI F x n ≤ 1125899906842624 ∧ (∀ i : Nat, (i : Int) < straightI F x n → vat F (x + i) = vat F x) ∧ (∀ i : Nat, (i : Int) < straightI F x n → vat F (x + i + n) = vat F (x + n)) ∧
      (curF F (x + straightI F x n)).length + (curF F (x + straightI F x n + n)).length < (curF F x).length + (curF F (x + n)).length) := by
  by_cases h : (curF F x).length = 0
  · exact .inl ⟨straight_nil h, h⟩
  · have h' : 0 < (curF F x).length := by omega
    have hg := cur_gt h'
    have hi := cur_in hF h'
    refine .inr ?_
    by_cases h2 : (curF F (x + n)).length = 0
    · rw [straight_one h h2]
      refine ⟨by omega, by omega, fun i hi2 => cur_stay (by omega) (cur_first hF h' (by omega)), fun i hi2 => cur_stay (by omega) fun r hr => ?_, ?_⟩
      · exact absurd (cur_none h2 r hr) (by omega)
      · have := cur_less (t := x + (ats (curF F x) 0 - x)) h' (by omega)
        have := cur_zero (t := x + (ats (curF F x) 0 - x) + n) (show x + n ≤ _ by omega) h2
        omega
    · have h2' : 0 < (curF F (x + n)).length := by omega
      have hg2 := cur_gt h2'
      rw [straight_two h h2, mn_min]
      refine ⟨by omega, by omega, fun i hi2 => cur_stay (by omega) (cur_first hF h' (by omega)), fun i hi2 => cur_stay (by omega) (cur_first hF h2' (by omega)), ?_⟩
      by_cases c : ats (curF F x) 0 - x ≤ ats (curF F (x + n)) 0 - n - x
      · rw [Int.min_eq_left c]
        have := cur_less (t := x + (ats (curF F x) 0 - x)) h' (by omega)
        have := cur_mono (F := F) (show x + n ≤ x + (ats (curF F x) 0 - x) + n by omega)
        omega
      · rw [Int.min_eq_right (by omega)]
        have := cur_less (t := x + (ats (curF F (x + n)) 0 - n - x) + n) h2' (by omega)
        have := cur_mono (F := F) (show x ≤ x + (ats (curF F (x + n)) 0 - n - x) by omega)
        omega

/-- After how many ticks a line is above a limit. -/
def abvI (s p l : Int) : Int := if l < s then 0 else if p ≤ 0 then 9223372036854775807 else (l - s).tdiv p + 1
theorem abv_ge {s p l : Int} : 0 ≤ abvI s p l := by
  unfold abvI
  split
  · omega
  · split
    · omega
    · have := Int.tdiv_nonneg (a := l - s) (b := p) (by omega) (by omega)
      omega
theorem abv_below {s p l : Int} {j : Nat} (h : (j : Int) < abvI s p l) : s + (j : Int) * p ≤ l := by
  unfold abvI at h
  split at h
  · omega
  · split at h
    · rename_i h1 h2
      have : (j : Int) * p ≤ 0 := Int.mul_nonpos_of_nonneg_of_nonpos (by omega) h2
      omega
    · rename_i h1 h2
      rw [Int.tdiv_eq_ediv_of_nonneg (by omega)] at h
      have h3 : (j : Int) ≤ (l - s) / p := by omega
      have := (Int.le_ediv_iff_mul_le (by omega)).1 h3
      omega
theorem abv_hit {s p l : Int} (h : abvI s p l < 9223372036854775807) : l < s + abvI s p l * p := by
  unfold abvI at h ⊢
  split
  · omega
  · rename_i h1
    rw [if_neg h1] at h
    split
    · rename_i h2
      rw [if_pos h2] at h; omega
    · rename_i h2
      rw [Int.tdiv_eq_ediv_of_nonneg (by omega)]
      have := Int.lt_ediv_add_one_mul_self (l - s) (show 0 < p by omega)
      omega
/-- The first of both components. -/
def riseI (s v w l : Int × Int) : Int := mn (abvI s.1 (v.1 - w.1) l.1) (abvI s.2 (v.2 - w.2) l.2)
theorem rise_ge {s v w l : Int × Int} : 0 ≤ riseI s v w l := by
  have h1 := abv_ge (s := s.1) (p := v.1 - w.1) (l := l.1)
  have h2 := abv_ge (s := s.2) (p := v.2 - w.2) (l := l.2)
  unfold riseI
  rw [mn_min]; omega
theorem leB_iff' {a b c d : Int} : leB a b c d = true ↔ a ≤ c ∧ b ≤ d := by
  have := @leB_not a b c d
  cases h : leB a b c d
  · rw [h] at this
    have := this.1 rfl
    constructor
    · intro q; cases q
    · intro q; omega
  · constructor
    · intro _
      by_cases q : a ≤ c ∧ b ≤ d
      · exact q
      · exfalso
        have : leB a b c d = false := this.2 (by omega)
        rw [h] at this; cases this
    · intro _; rfl
/-- Ahead of the rise the sliding sum is not over the limit. -/
theorem line_below {F : List Sg} {x : Int} {n : Nat} {l : Int × Int} {k : Nat}
    (h1 : ∀ i : Nat, i < k → vat F (x + i) = vat F x) (h2 : ∀ i : Nat, i < k → vat F (x + i + n) = vat F (x + n)) (hk : (k : Int) < riseI (sumN F x n) (vat F (x + n)) (vat F x) l) : overB F n l (x + k) = false := by
  unfold riseI at hk
  rw [mn_min] at hk
  have e := slide_line (F := F) (x := x) (n := n) k h1 h2
  unfold overB
  rw [e]
  have a1 := abv_below (s := (sumN F x n).1) (p := (vat F (x + n)).1 - (vat F x).1) (l := l.1) (j := k) (by omega)
  have a2 := abv_below (s := (sumN F x n).2) (p := (vat F (x + n)).2 - (vat F x).2) (l := l.2) (j := k) (by omega)
  rw [leB_iff'.2 ⟨a1, a2⟩]
  rfl
theorem line_hit {F : List Sg} {x : Int} {n : Nat} {l : Int × Int} {k : Nat}
    (h1 : ∀ i : Nat, i < k → vat F (x + i) = vat F x) (h2 : ∀ i : Nat, i < k → vat F (x + i + n) = vat F (x + n)) (hk : riseI (sumN F x n) (vat F (x + n)) (vat F x) l = (k : Int)) (hs : (k : Int) < 9223372036854775807) : overB F n l (x + k) = true := by
  unfold riseI at hk
  rw [mn_min] at hk
  have e := slide_line (F := F) (x := x) (n := n) k h1 h2
  unfold overB
  rw [e]
  by_cases c : abvI (sumN F x n).1 ((vat F (x + n)).1 - (vat F x).1) l.1 ≤ abvI (sumN F x n).2 ((vat F (x + n)).2 - (vat F x).2) l.2
  · have hb := abv_hit (s := (sumN F x n).1) (p := (vat F (x + n)).1 - (vat F x).1) (l := l.1) (by omega)
    have ee : abvI (sumN F x n).1 ((vat F (x + n)).1 - (vat F x).1) l.1 = (k : Int) := by omega
    rw [ee] at hb
    have : leB ((sumN F x n).1 + k * ((vat F (x + n)).1 - (vat F x).1)) ((sumN F x n).2 + k * ((vat F (x + n)).2 - (vat F x).2)) l.1 l.2 = false := leB_not.2 (by omega)
    simp only [this]; rfl
  · have hb := abv_hit (s := (sumN F x n).2) (p := (vat F (x + n)).2 - (vat F x).2) (l := l.2) (by omega)
    have ee : abvI (sumN F x n).2 ((vat F (x + n)).2 - (vat F x).2) l.2 = (k : Int) := by omega
    rw [ee] at hb
    have : leB ((sumN F x n).1 + k * ((vat F (x + n)).1 - (vat F x).1)) ((sumN F x n).2 + k * ((vat F (x + n)).2 - (vat F x).2)) l.1 l.2 = false := leB_not.2 (by omega)
    simp only [this]; rfl
/-- Where no run is left behind the window's begin, the sum stays. -/
theorem line_rest {F : List Sg} {x : Int} {n : Nat} {l : Int × Int} (h : (curF F x).length = 0) (hr : 0 < riseI (sumN F x n) (vat F (x + n)) (vat F x) l) : ∀ s, x ≤ s → overB F n l s = false := by
  intro s hs
  have hst : ∀ t, x ≤ t → vat F t = vat F x := fun t ht => cur_stay ht fun r hr => absurd (cur_none h r hr) (by omega)
  have h0 := line_below (F := F) (x := x) (n := n) (l := l) (k := 0) (fun i hi => by omega) (fun i hi => by omega) hr
  unfold overB at h0 ⊢
  rw [slide_stay hst hs]
  simpa using h0
/-- One step of the walk. -/
theorem slide_step {F : List Sg} {x0 x : Int} {n : Nat} {l : Int × Int} (hF : Canon F) (hlo : -4611686018427387904 ≤ x0) (hx : x0 ≤ x) (hno : ∀ s, x0 ≤ s → s < x → overB F n l s = false) :
    (riseI (sumN F x n) (vat F (x + n)) (vat F x) l ≤ straightI F x n → x0 ≤ x + riseI (sumN F x n) (vat F (x + n)) (vat F x) l ∧ overB F n l (x + riseI (sumN F x n) (vat F (x + n)) (vat F x) l) = true ∧ ∀ s, x0 ≤ s → s < x + riseI (sumN F x n) (vat F (x + n)) (vat F x) l → overB F n l s = false) ∧
    (straightI F x n < riseI (sumN F x n) (vat F (x + n)) (vat F x) l → straightI F x n = 0 → ∀ s, x0 ≤ s → overB F n l s = false) ∧
    (straightI F x n < riseI (sumN F x n) (vat F (x + n)) (vat F x) l → straightI F x n ≠ 0 → sumN F (x + straightI F x n) n = ((sumN F x n).1 + straightI F x n * ((vat F (x + n)).1 - (vat F x).1), (sumN F x n).2 + straightI F x n * ((vat F (x + n)).2 - (vat F x).2)) ∧ ∀ s, x0 ≤ s → s < x + straightI F x n → overB F n l s = false) := by
  have hsp := straight_spec hF (x := x) (n := (n : Int)) (by omega)
  have hr0 := rise_ge (s := sumN F x n) (v := vat F (x + n)) (w := vat F x) (l := l)
  have hsx : straightI F x n = 0 ∨ (0 < straightI F x n ∧ x + straightI F x n ≤ 1125899906842624 ∧ (∀ i : Nat, (i : Int) < straightI F x n → vat F (x + i) = vat F x) ∧ (∀ i : Nat, (i : Int) < straightI F x n → vat F (x + i + n) = vat F (x + n))) := by
    rcases hsp with h | h
    · exact .inl h.1
    · exact .inr ⟨h.1, h.2.1, h.2.2.1, h.2.2.2.1⟩
  have hv1 : ∀ i : Nat, (i : Int) < straightI F x n → vat F (x + i) = vat F x := by
    rcases hsx with h | h
    · intro i hi; omega
    · exact h.2.2.1
  have hv2 : ∀ i : Nat, (i : Int) < straightI F x n → vat F (x + i + n) = vat F (x + n) := by
    rcases hsx with h | h
    · intro i hi; omega
    · exact h.2.2.2
  have hge : 0 ≤ straightI F x n := by rcases hsx with h | h <;> omega
  have before : ∀ (k : Nat), (k : Int) ≤ straightI F x n → (k : Int) < riseI (sumN F x n) (vat F (x + n)) (vat F x) l → overB F n l (x + k) = false := fun k h1 h2 =>
    line_below (fun i hi => hv1 i (by omega)) (fun i hi => hv2 i (by omega)) h2
  have upto : ∀ u : Int, x ≤ u → (∀ k : Nat, x + k < u → overB F n l (x + k) = false) → ∀ s, x0 ≤ s → s < u → overB F n l s = false := fun u hu hk s h1 h2 => by
    by_cases c : s < x
    · exact hno s h1 c
    · obtain ⟨k, rfl⟩ : ∃ k : Nat, s = x + k := ⟨(s - x).toNat, by omega⟩
      exact hk k h2
  refine ⟨fun hle => ?_, fun hlt h0 => ?_, fun hlt h0 => ?_⟩
  · obtain ⟨k, hk⟩ : ∃ k : Nat, riseI (sumN F x n) (vat F (x + n)) (vat F x) l = k := ⟨(riseI (sumN F x n) (vat F (x + n)) (vat F x) l).toNat, by omega⟩
    have hk2 : (k : Int) ≤ straightI F x n := by omega
    rw [hk] at before ⊢
    by_cases hbig : (k : Int) < 9223372036854775807
    · refine ⟨by omega, line_hit (fun i hi => hv1 i (by omega)) (fun i hi => hv2 i (by omega)) hk hbig, upto _ (by omega) fun j hj => before j (by omega) (by omega)⟩
    · exfalso
      rcases hsp with h | h
      · omega
      · have h2 := h.2.1
        omega
  · rcases hsp with h | h
    · intro s hs
      by_cases c : s < x
      · exact hno s hs c
      · exact line_rest h.2 (by omega) s (by omega)
    · omega
  · have e := slide_line (F := F) (x := x) (n := n) (p := vat F x) (q := vat F (x + n)) (straightI F x n).toNat (fun i hi => hv1 i (by omega)) (fun i hi => hv2 i (by omega))
    have ek : (((straightI F x n).toNat : Nat) : Int) = straightI F x n := by omega
    rw [ek] at e
    refine ⟨e, upto _ (by omega) fun k hk => before k (by omega) (by omega)⟩
end Go.Proofs.YthlepbbdjmmelaaGreat

namespace Go.Proofs.YthlepbbdjmmelaaGreat

theorem sumN_one (F : List Sg) (x : Int) : sumN F x 1 = vat F x := by
  rw [sumN_step]
  simp [sumN]
theorem over_one {F : List Sg} {c : Int × Int} {t : Int} : overB F (1 : Int).toNat (wide c 1) t = !(leB (vat F t).1 (vat F t).2 c.1 c.2) := by
  unfold overB wide
  rw [show (1 : Int).toNat = 1 from rfl, sumN_one]
  simp
/-- An average over one time is the limit. -/
theorem ans_one {c : Int × Int} {now : Int} {F G H : List Sg} (hc : capB c = true) (hn : nowB now = true) (hF : mayB F = true) (hG : mayB G = true) (hH : mayB H = true) : ansP (1, c, 0) now F G H = ansP (2, c, 1) now F G H := by
  refine (ans_first (by unfold polB; simp [hc]) hn hF hG hH).eq (ans_first (by unfold polB; simp [hc]) hn hF hG hH) fun s _ => ?_
  unfold badP
  simp only [Int.reduceEq, if_true, if_false]
  exact over_one.symm
theorem sum_most {F : List Sg} {c : Int × Int} {x : Int} : ∀ n : Nat, (∀ s, x ≤ s → leB (vat F s).1 (vat F s).2 c.1 c.2 = true) → (sumN F x n).1 ≤ c.1 * n ∧ (sumN F x n).2 ≤ c.2 * n
  | 0, _ => by simp [sumN]
  | n + 1, h => by
    obtain ⟨a, b⟩ := sum_most n h
    obtain ⟨d, e⟩ := leB_iff.1 (h (x + n) (by omega))
    rw [sumN_step]
    have e1 : c.1 * ((n + 1 : Nat) : Int) = c.1 * n + c.1 := by rw [Int.natCast_add, Int.mul_add]; simp
    have e2 : c.2 * ((n + 1 : Nat) : Int) = c.2 * n + c.2 := by rw [Int.natCast_add, Int.mul_add]; simp
    rw [e1, e2]
    exact ⟨by simp only; omega, by simp only; omega⟩
/-- What is never above a limit is not so on an average. -/
theorem ans_wide {c : Int × Int} {now n : Int} {F G H : List Sg} (hc : capB c = true) (hn : nowB now = true) (h1 : 1 ≤ n) (h2 : n ≤ 4096) (hF : mayB F = true) (hG : mayB G = true) (hH : mayB H = true)
    (h : (ansP (1, c, 0) now F G H).2 = true) : ansP (2, c, n) now F G H = (0, true) := by
  have hp := ((ans_first (x := (1, c, 0)) (by unfold polB; simp [hc]) hn hF hG hH).holds h).2
  rcases ans_first (x := (2, c, n)) (F := F) (G := G) (by unfold polB; simp [hc, h1, h2]) hn hF hG hH with ⟨e, _⟩ | ⟨t, h3, _, h4, _⟩
  · exact e
  · exfalso
    unfold badP at h4
    simp only [Int.reduceEq, if_false] at h4
    obtain ⟨m, rfl⟩ : ∃ m : Nat, n = m := ⟨n.toNat, by omega⟩
    have hs := sum_most (F := H) (c := c) (x := t) m fun s hs => by
      have := hp s (by omega)
      unfold badP at this
      simpa using this
    unfold overB wide at h4
    rw [Int.toNat_natCast] at h4
    rw [leB_iff.2 hs] at h4
    cases h4
/-- Is a function at most a limit from a time on? -/
def atMost (H : List Sg) (now : Int) (c : Int × Int) : Bool := (ansP (1, c, 0) now [] [] H).2
theorem atMost_iff {H : List Sg} {now : Int} {c : Int × Int} (hc : capB c = true) (hn : nowB now = true) (hH : mayB H = true) : atMost H now c = true ↔ ∀ s, now ≤ s → (vat H s).1 ≤ c.1 ∧ (vat H s).2 ≤ c.2 := by
  have hf := ans_first (x := (1, c, 0)) (F := []) (G := []) (by unfold polB; simp [hc]) hn rfl rfl hH
  unfold atMost
  constructor
  · intro h s hs
    have := (hf.holds h).2 s hs
    unfold badP at this
    simp only [Int.reduceEq, if_true, if_false, Bool.not_eq_false'] at this
    exact leB_iff.1 this
  · intro h
    cases e : (ansP (1, c, 0) now [] [] H).2
    · obtain ⟨h1, h2, _⟩ := hf.not e
      unfold badP at h2
      simp only [Int.reduceEq, if_true, if_false] at h2
      rw [leB_iff.2 (h _ h1)] at h2
      cases h2
    · rfl
def minV (a b : Int × Int) : Int × Int := (mn a.1 b.1, mn a.2 b.2)
theorem minV_cap {a b : Int × Int} (ha : capB a = true) (hb : capB b = true) : capB (minV a b) = true := by
  obtain ⟨a1, a2, a3, a4⟩ := capB_iff.1 ha
  obtain ⟨b1, b2, b3, b4⟩ := capB_iff.1 hb
  unfold minV mn
  exact capB_iff.2 ⟨by simp only; split <;> omega, by simp only; split <;> omega, by simp only; split <;> omega, by simp only; split <;> omega⟩
theorem atMost_min {H : List Sg} {now : Int} {a b : Int × Int} (ha : capB a = true) (hb : capB b = true) (hn : nowB now = true) (hH : mayB H = true) : atMost H now (minV a b) = (atMost H now a && atMost H now b) := by
  have h1 := atMost_iff ha hn hH; have h2 := atMost_iff hb hn hH; have h3 := atMost_iff (minV_cap ha hb) hn hH
  have key : (atMost H now (minV a b) = true) ↔ (atMost H now a = true ∧ atMost H now b = true) := by
    rw [h1, h2, h3]
    unfold minV mn
    constructor
    · intro h
      exact ⟨fun s hs => by obtain ⟨p, q⟩ := h s hs; simp only at p q; split at p <;> split at q <;> omega, fun s hs => by obtain ⟨p, q⟩ := h s hs; simp only at p q; split at p <;> split at q <;> omega⟩
    · rintro ⟨h, h'⟩ s hs
      obtain ⟨p, q⟩ := h s hs
      obtain ⟨p', q'⟩ := h' s hs
      exact ⟨by simp only; split <;> omega, by simp only; split <;> omega⟩
  cases e1 : atMost H now a <;> cases e2 : atMost H now b <;> rw [e1, e2] at key <;> simp at key ⊢ <;> exact key
def mostV : Int × Int := (1073741824, 1073741824)
theorem most_cap : capB mostV = true := by decide
def userB (x : Pol) : Bool := decide (x.1 = 1) && polB x
/-- The least of the limits in a row. -/
def leastV (l : List Pol) : Int × Int := l.foldl (fun c x => if userB x then minV c x.2.1 else c) mostV
theorem userB_cap {x : Pol} (h : userB x = true) : x = (1, x.2.1, 0) ∧ capB x.2.1 = true := by
  unfold userB at h
  rw [Bool.and_eq_true, decide_eq_true_iff] at h
  rcases pol_kind h.2 with ⟨e, _⟩ | ⟨e, hc, h2⟩ | ⟨e, _⟩
  · omega
  · exact ⟨Prod.ext e (Prod.ext rfl h2), hc⟩
  · omega
theorem leastV_snoc (l : List Pol) (x : Pol) : leastV (l ++ [x]) = if userB x then minV (leastV l) x.2.1 else leastV l := by
  unfold leastV; rw [List.foldl_append]; rfl
theorem leastV_cap (l : List Pol) : capB (leastV l) = true := by
  have : ∀ (l : List Pol) (c : Int × Int), capB c = true → capB (l.foldl (fun c x => if userB x then minV c x.2.1 else c) c) = true := by
    intro l
    induction l with
    | nil => intro c h; exact h
    | cons x r ih =>
      intro c h
      rw [List.foldl_cons]
      refine ih _ ?_
      split
      · rename_i hx; exact minV_cap h (userB_cap hx).2
      · exact h
  exact this l _ most_cap
/-- Does each limit of a row hold? -/
def everyB (H : List Sg) (now : Int) (l : List Pol) : Bool := l.all fun x => !(userB x) || atMost H now x.2.1
theorem everyB_snoc (H : List Sg) (now : Int) (l : List Pol) (x : Pol) : everyB H now (l ++ [x]) = (everyB H now l && (!(userB x) || atMost H now x.2.1)) := by
  unfold everyB; simp
theorem least_every {H : List Sg} {now : Int} (hn : nowB now = true) (hH : mayB H = true) (l : List Pol) : atMost H now (leastV l) = (everyB H now l && atMost H now mostV) := by
  have key : ∀ (l : List Pol) (c : Int × Int), capB c = true → atMost H now (l.foldl (fun c x => if userB x then minV c x.2.1 else c) c) = (everyB H now l && atMost H now c) := by
    intro l
    induction l with
    | nil => intro c _; rfl
    | cons x r ih =>
      intro c hc
      have e : everyB H now (x :: r) = ((!(userB x) || atMost H now x.2.1) && everyB H now r) := rfl
      rw [List.foldl_cons, e]
      cases hx : userB x
      · rw [if_neg (by decide), ih c hc]; simp
      · rw [if_pos rfl, ih _ (minV_cap hc (userB_cap hx).2), atMost_min hc (userB_cap hx).2 hn hH]
        cases everyB H now r <;> cases atMost H now c <;> cases atMost H now x.2.1 <;> rfl
  exact key l _ most_cap
/-- Of a user's load alone the load and the capacity do not matter. -/
theorem ans_user {c : Int × Int} {n now : Int} {F G H : List Sg} : ansP (1, c, n) now F G H = ansP (1, c, 0) now [] [] H := rfl
end Go.Proofs.YthlepbbdjmmelaaGreat

namespace Go.Proofs.YthlepbbdjmmelaaGreat

theorem ov_bound {F : List Sg} {x n : Int} {l : Int × Int} (hm : mayB F = true) (ha : overArg x n = true) (ho : okV l.1 l.2 = true) (hx : x ≤ 1099511627776) (hf : (ovP F x n l).2 = false) : (ovP F x n l).1 ≤ 1125899906842624 := by
  unfold ovP at hf ⊢
  rcases over_spec hm ha ho with ⟨e, _⟩ | ⟨t, h1, h2, e, _⟩
  · rw [e] at hf; cases hf
  · rw [e]
    have ha' := overArg_iff.1 ha
    have := lastF_le (x := x) (CF.ok (mayB_iff.1 hm)) (by omega)
    simp only; omega
theorem ans_bound {x : Pol} {now : Int} {F G H : List Sg} (hk : x.1 = 2) (hx : polB x = true) (hn : nowB now = true) (hH : mayB H = true) (hf : (ansP x now F G H).2 = false) : (ansP x now F G H).1 ≤ 1125899906842624 := by
  have hn' := nowB_iff.1 hn
  rcases pol_kind hx with ⟨e, _⟩ | ⟨e, _⟩ | ⟨_, hc, h1, h2⟩
  · omega
  · omega
  · unfold ansP at hf ⊢
    simp only [hk, Int.reduceEq, if_false] at hf ⊢
    exact ov_bound hH (overArg_iff.2 ⟨h1, h2, by omega, by omega⟩) (wide_ok hc h1 h2) hn'.2 hf
theorem chk_now {x : Pol} {now : Int} {F G H : List Sg} (hx : polB x = true) (hn : nowB now = true) (hF : mayB F = true) (hG : mayB G = true) (hH : mayB H = true) : chkP x now F G H = ((ansP x now F G H).1, (ansP x now F G H).2, 0) :=
  chk_ok (by rw [hx, hn]; rfl) (by rw [hF, hG, hH]; rfl)
theorem pol_first {x : Pol} {p L : Int} {F G H : List Sg} {t e t2 e2 : Int} {b b2 : Bool} (h1 : chkP x p F G H = (t, b, e)) (h2 : chkP x L F G H = (t2, b2, e2)) (hL : nowB p = true → p ≤ L ∧ L ≤ p + 1000) :
    ((e = 2 ∨ e = 5) ∧ b = false ∧ t = 0) ∨ (e = 0 ∧ e2 = 2 ∧ 1099511627776 < L) ∨ (e = 0 ∧ e2 = 0 ∧ b = true ∧ b2 = true ∧ t = 0) ∨
    (e = 0 ∧ e2 = 0 ∧ b = false ∧ p ≤ t ∧ (L ≤ t → b2 = false) ∧ (t ≤ 1099511627776 → chkP x t F G H = (t, false, 0)) ∧ (x.1 = 2 → t ≤ 1125899906842624) ∧ polB x = true ∧ -1099511627776 ≤ p ∧ mayB F = true ∧ mayB G = true ∧ mayB H = true ∧ badP x F G H t = true) := by
  rcases chk_cases x p F G H with ⟨q, _⟩ | ⟨q, _, _⟩ | ⟨hx, hp, hF, hG, hH, r, q, hf⟩
  · rw [q] at h1; cases h1; exact .inl ⟨.inl rfl, rfl, rfl⟩
  · rw [q] at h1; cases h1; exact .inl ⟨.inr rfl, rfl, rfl⟩
  refine .inr ?_
  have hp' := nowB_iff.1 hp
  have hL' := hL hp
  have hr : r = ansP x p F G H := by
    have e1 := chk_now hx hp hF hG hH
    rw [q] at e1
    simp only [Prod.mk.injEq, and_true] at e1
    exact Prod.ext e1.1 e1.2
  rw [q] at h1
  simp only [Prod.mk.injEq] at h1
  obtain ⟨rfl, rfl, rfl⟩ := h1
  cases hl : nowB L
  · have : chkP x L F G H = (0, false, 2) := chk_arg (by rw [hx, hl]; rfl)
    rw [this] at h2
    cases h2
    refine .inl ⟨rfl, rfl, ?_⟩
    have := Bool.eq_false_iff.1 hl
    rw [ne_eq, nowB_iff] at this
    omega
  refine .inr ?_
  have hL2 := chk_now hx hl hF hG hH
  rw [hL2] at h2
  simp only [Prod.mk.injEq] at h2
  obtain ⟨rfl, rfl, rfl⟩ := h2
  have hfL := ans_first (x := x) hx hl hF hG hH
  cases hb : r.2
  · refine .inr ?_
    obtain ⟨g1, g2, g3⟩ := hf.not hb
    refine ⟨rfl, rfl, rfl, g1, fun hlt => ?_, fun hle => ?_, fun hk => ?_, hx, hp'.1, hF, hG, hH, g2⟩
    · cases hc : (ansP x L F G H).2
      · rfl
      · have := (hfL.holds hc).2 r.1 hlt
        rw [g2] at this; cases this
    · have hn : nowB r.1 = true := nowB_iff.2 ⟨by omega, hle⟩
      rw [chk_now hx hn hF hG hH]
      have : ansP x r.1 F G H = (r.1, false) := (ans_first hx hn hF hG hH).eq (b' := badP x F G H) (.inr ⟨r.1, Int.le_refl _, rfl, g2, fun s h1 h2 => by omega⟩) fun _ _ => rfl
      rw [this]
    · rw [hr] at hb ⊢
      exact ans_bound hk hx hp hH hb
  · refine .inl ⟨rfl, rfl, rfl, ?_, ?_⟩
    · have hno := (hf.holds hb).2
      cases hc : (ansP x L F G H).2
      · obtain ⟨g1, g2, _⟩ := hfL.not hc
        rw [hno _ (by omega)] at g2; cases g2
      · rfl
    · rw [(hf.holds hb).1]
end Go.Proofs.YthlepbbdjmmelaaGreat
