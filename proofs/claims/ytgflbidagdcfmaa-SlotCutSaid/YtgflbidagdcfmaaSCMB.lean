/- The stretches of a window: what the walk over a function's runs hands on, and what sums, lows, highs and cuts are of it. No program. No conditions. What the statements on package span rest on: shifts to and fro, neighbouring windows, cuts' sums. No program. No conditions. Policies, by values: whether one may be, whether it holds of a load, a capacity and a user's load, and where it is violated first. No program. No conditions. What is made of two functions, told by values. No program. No conditions. What is free, what fits, what is taken: by values. No program. No conditions. Windows: what fits into them, how often, and what it keeps. No program. No conditions. Package slot: rows of windows of times, gaps that are taken out of them, legs one behind the other. Pure mathematics. Package slot: the runs of a function in a window, the gaps that a leg leaves, the begins of legs one behind the other. Pure mathematics. The mathematics of sums, differences, windows, being at most: of functions by their values. No conditions. -/
import Derived.Test.YtgflbidagdcfmaaSCMA
namespace Go.Proofs.Ytgflbidagdcfmaa

/-- A stretch: from, up to, the value. -/
abbrev St := Int × Int × Int × Int
/-- What is handed on behind the runs: up to y, if anything is left. -/
def strZ (y p : Int) (v : Int × Int) : List St := if p < y then [(p, y, v)] else []
def strG (y : Int) : List Sg → Int → Int × Int → List St
  | [], p, v => strZ y p v
  | r :: F, p, v => if y ≤ r.1 then strZ y p v else if p < r.1 then (p, r.1, v) :: strG y F r.1 r.2 else strG y F p r.2
def strL (F : List Sg) (x y : Int) : List St := strG y F x (0, 0)
theorem strG_nil {y p : Int} {v : Int × Int} : strG y [] p v = strZ y p v := rfl
theorem strG_end {y p : Int} {v : Int × Int} {r : Sg} {F : List Sg} (h : y ≤ r.1) : strG y (r :: F) p v = strZ y p v := by rw [strG, if_pos h]
theorem strG_cut {y p : Int} {v : Int × Int} {r : Sg} {F : List Sg} (h : ¬ y ≤ r.1) (h2 : p < r.1) : strG y (r :: F) p v = (p, r.1, v) :: strG y F r.1 r.2 := by rw [strG, if_neg h, if_pos h2]
theorem strG_on {y p : Int} {v : Int × Int} {r : Sg} {F : List Sg} (h : ¬ y ≤ r.1) (h2 : ¬ p < r.1) : strG y (r :: F) p v = strG y F p r.2 := by rw [strG, if_neg h, if_neg h2]
theorem strG_len (y : Int) : ∀ (F : List Sg) (p : Int) (v : Int × Int), (strG y F p v).length ≤ F.length + 1
  | [], p, v => by rw [strG_nil]; unfold strZ; split <;> simp
  | r :: F, p, v => by
    have h1 := strG_len y F r.1 r.2
    have h2 := strG_len y F p r.2
    rw [strG]
    split
    · unfold strZ; split <;> simp
    · split
      · simp only [List.length_cons]; omega
      · simp only [List.length_cons]; omega

/-- Stretches side by side, from p up to y, on each of which the function keeps its value. -/
def Cov (F : List Sg) (y : Int) : Int → List St → Prop
  | p, [] => y ≤ p
  | p, s :: r => s.1 = p ∧ p < s.2.1 ∧ s.2.1 ≤ y ∧ (∀ t, p ≤ t → t < s.2.1 → vat F t = s.2.2) ∧ Cov F y s.2.1 r
theorem strZ_cov {F : List Sg} {y p : Int} {v : Int × Int} (h : ∀ t, p ≤ t → t < y → vat F t = v) : Cov F y p (strZ y p v) := by
  unfold strZ
  split
  · rename_i h2
    exact ⟨rfl, h2, Int.le_refl _, h, Int.le_refl _⟩
  · rename_i h2
    show y ≤ p
    omega
theorem strG_cov {F0 : List Sg} {y : Int} : ∀ (F : List Sg) (p : Int) (v : Int × Int), (F.Pairwise fun a b => a.1 < b.1) → (∀ t, p ≤ t → vat F0 t = F.foldl (stepV t) v) → Cov F0 y p (strG y F p v)
  | [], p, v, _, h => strZ_cov fun t ht _ => h t ht
  | r :: F, p, v, hp, h => by
    have hp2 := List.pairwise_cons.1 hp
    have hgt : ∀ t, p ≤ t → t < r.1 → vat F0 t = v := fun t h1 h2 => by
      rw [h t h1]
      refine foldl_gt t _ _ fun s hs => ?_
      rcases List.mem_cons.1 hs with e | e
      · rw [e]; exact h2
      · have := hp2.1 s e; omega
    have hst : ∀ t, p ≤ t → r.1 ≤ t → vat F0 t = F.foldl (stepV t) r.2 := fun t h1 h2 => by
      rw [h t h1, List.foldl_cons]
      congr 1
      unfold stepV
      rw [if_pos h2]
    rw [strG]
    split
    · exact strZ_cov fun t h1 h2 => hgt t h1 (by omega)
    · split
      · rename_i h1 h2
        exact ⟨rfl, h2, by show r.1 ≤ y; omega, hgt, strG_cov F r.1 r.2 hp2.2 fun t ht => hst t (by omega) ht⟩
      · rename_i h1 h2
        exact strG_cov F p r.2 hp2.2 fun t ht => hst t ht (by omega)
theorem strL_cov {F : List Sg} (hF : Canon F) (x y : Int) : Cov F y x (strL F x y) := strG_cov F x (0, 0) (CF.up hF) fun _ _ => rfl

/-- The time up to which a list of stretches goes. -/
def endG (x : Int) (l : List St) : Int := l.foldl (fun _ s => s.2.1) x
theorem endG_snoc (x : Int) (l : List St) (s : St) : endG x (l ++ [s]) = s.2.1 := by unfold endG; rw [List.foldl_append]; rfl
theorem cov_end {F : List Sg} {y : Int} : ∀ (l : List St) (p : Int), Cov F y p l → p ≤ y → endG p l = y
  | [], p, h, hp => by
    have h' : y ≤ p := h
    show p = y
    omega
  | s :: r, p, h, _ => cov_end r s.2.1 h.2.2.2.2 h.2.2.1
/-- A stretch of the list, where it stands. -/
theorem cov_at {F : List Sg} {y : Int} : ∀ (pre : List St) (p : Int) (s : St) (post : List St), Cov F y p (pre ++ s :: post) → s.1 = endG p pre ∧ p ≤ s.1 ∧ s.1 < s.2.1 ∧ s.2.1 ≤ y ∧ ∀ t, s.1 ≤ t → t < s.2.1 → vat F t = s.2.2
  | [], p, s, post, ⟨h1, h2, h3, h4, _⟩ => by
    refine ⟨h1, by omega, by omega, h3, fun t ht => h4 t (by omega)⟩
  | u :: pre, p, s, post, ⟨h1, h2, h3, h4, h5⟩ => by
    obtain ⟨k1, k2, k3, k4, k5⟩ := cov_at pre u.2.1 s post h5
    exact ⟨k1, by omega, k3, k4, k5⟩
theorem cov_endle {F : List Sg} {y : Int} : ∀ (pre : List St) (p : Int) (post : List St), Cov F y p (pre ++ post) → p ≤ endG p pre
  | [], p, _, _ => Int.le_refl _
  | u :: pre, p, post, ⟨h1, h2, h3, h4, h5⟩ => by
    have := cov_endle pre u.2.1 post h5
    show p ≤ endG u.2.1 pre
    omega
/-- What is known of a stretch of a window's. -/
theorem str_at {F : List Sg} {x y : Int} (hF : Canon F) {pre : List St} {s : St} (h : pre ++ [s] <+: strL F x y) : s.1 = endG x pre ∧ x ≤ s.1 ∧ s.1 < s.2.1 ∧ s.2.1 ≤ y ∧ ∀ t, s.1 ≤ t → t < s.2.1 → vat F t = s.2.2 := by
  obtain ⟨post, e⟩ := h
  have hc := strL_cov hF x y
  rw [← e, List.append_assoc] at hc
  exact cov_at pre x s post hc
theorem str_end {F : List Sg} {x y : Int} (hF : Canon F) (hxy : x ≤ y) : endG x (strL F x y) = y := cov_end _ _ (strL_cov hF x y) hxy

/-- The sum over the first stretches. -/
def addG (acc : Int × Int) (s : St) : Int × Int := (acc.1 + (s.2.1 - s.1) * s.2.2.1, acc.2 + (s.2.1 - s.1) * s.2.2.2)
theorem add_str {F : List Sg} {x : Int} {s : St} (hx : x ≤ s.1) (h : s.1 < s.2.1) (hv : ∀ t, s.1 ≤ t → t < s.2.1 → vat F t = s.2.2) : sumN F x (s.2.1 - x).toNat = addG (sumN F x (s.1 - x).toNat) s := by
  obtain ⟨j, hj⟩ : ∃ j : Nat, s.1 = x + j := ⟨(s.1 - x).toNat, by omega⟩
  obtain ⟨k, hk⟩ : ∃ k : Nat, s.2.1 = s.1 + k := ⟨(s.2.1 - s.1).toNat, by omega⟩
  have e1 : (s.1 - x).toNat = j := by omega
  have e2 : (s.2.1 - x).toNat = j + k := by omega
  rw [e1, e2, sumN_add, ← hj, sumN_const (v := s.2.2) k (fun i hi => hv _ (by omega) (by omega))]
  unfold addG
  have e3 : s.2.1 - s.1 = (k : Int) := by omega
  rw [e3]
theorem low_const {F : List Sg} {x : Int} {v : Int × Int} (j : Nat) : ∀ k : Nat, (∀ i : Nat, i < k + 1 → vat F (x + j + i) = v) → lowN F x (j + (k + 1)) = (mn (lowN F x j).1 v.1, mn (lowN F x j).2 v.2)
  | 0, h => by
    have := h 0 (by omega)
    rw [show j + (0 + 1) = j + 1 by omega, lowN_step]
    rw [show x + (j : Int) + ((0 : Nat) : Int) = x + (j : Int) by omega] at this
    rw [this]
  | k + 1, h => by
    have ih := low_const j k fun i hi => h i (by omega)
    have hv := h (k + 1) (by omega)
    rw [show j + (k + 1 + 1) = (j + (k + 1)) + 1 by omega, lowN_step, ih]
    rw [show x + (j : Int) + ((k + 1 : Nat) : Int) = x + ((j + (k + 1) : Nat) : Int) by omega] at hv
    rw [hv]
    simp only [mn_min]
    apply Prod.ext <;> simp only <;> omega
theorem high_const {F : List Sg} {x : Int} {v : Int × Int} (j : Nat) : ∀ k : Nat, (∀ i : Nat, i < k + 1 → vat F (x + j + i) = v) → highN F x (j + (k + 1)) = (mx (highN F x j).1 v.1, mx (highN F x j).2 v.2)
  | 0, h => by
    have := h 0 (by omega)
    rw [show j + (0 + 1) = j + 1 by omega, highN_step]
    rw [show x + (j : Int) + ((0 : Nat) : Int) = x + (j : Int) by omega] at this
    rw [this]
  | k + 1, h => by
    have ih := high_const j k fun i hi => h i (by omega)
    have hv := h (k + 1) (by omega)
    rw [show j + (k + 1 + 1) = (j + (k + 1)) + 1 by omega, highN_step, ih]
    rw [show x + (j : Int) + ((k + 1 : Nat) : Int) = x + ((j + (k + 1) : Nat) : Int) by omega] at hv
    rw [hv]
    simp only [mx_max]
    apply Prod.ext <;> simp only <;> omega
theorem low_str {F : List Sg} {x : Int} {s : St} (hx : x ≤ s.1) (h : s.1 < s.2.1) (hv : ∀ t, s.1 ≤ t → t < s.2.1 → vat F t = s.2.2) : lowN F x (s.2.1 - x).toNat = (mn (lowN F x (s.1 - x).toNat).1 s.2.2.1, mn (lowN F x (s.1 - x).toNat).2 s.2.2.2) := by
  obtain ⟨j, hj⟩ : ∃ j : Nat, s.1 = x + j := ⟨(s.1 - x).toNat, by omega⟩
  obtain ⟨k, hk⟩ : ∃ k : Nat, s.2.1 = s.1 + k + 1 := ⟨(s.2.1 - s.1 - 1).toNat, by omega⟩
  have e1 : (s.1 - x).toNat = j := by omega
  have e2 : (s.2.1 - x).toNat = j + (k + 1) := by omega
  rw [e1, e2, low_const (v := s.2.2) j k (fun i hi => hv _ (by omega) (by omega))]
theorem high_str {F : List Sg} {x : Int} {s : St} (hx : x ≤ s.1) (h : s.1 < s.2.1) (hv : ∀ t, s.1 ≤ t → t < s.2.1 → vat F t = s.2.2) : highN F x (s.2.1 - x).toNat = (mx (highN F x (s.1 - x).toNat).1 s.2.2.1, mx (highN F x (s.1 - x).toNat).2 s.2.2.2) := by
  obtain ⟨j, hj⟩ : ∃ j : Nat, s.1 = x + j := ⟨(s.1 - x).toNat, by omega⟩
  obtain ⟨k, hk⟩ : ∃ k : Nat, s.2.1 = s.1 + k + 1 := ⟨(s.2.1 - s.1 - 1).toNat, by omega⟩
  have e1 : (s.1 - x).toNat = j := by omega
  have e2 : (s.2.1 - x).toNat = j + (k + 1) := by omega
  rw [e1, e2, high_const (v := s.2.2) j k (fun i hi => hv _ (by omega) (by omega))]

/-- The raw runs of a cut. -/
def rawC (l : List St) : List Sg := l.map fun s => (s.1, s.2.2)
def cutR (F : List Sg) (x y : Int) : List Sg := rawC (strL F x y) ++ [(y, (0, 0))]
theorem cov_raw {F : List Sg} {y : Int} : ∀ (l : List St) (p : Int), Cov F y p l → p ≤ y →
    ((rawC l ++ [(y, ((0, 0) : Int × Int))]).Pairwise fun a b => a.1 < b.1) ∧ (∀ s ∈ rawC l ++ [(y, ((0, 0) : Int × Int))], p ≤ s.1 ∧ s.1 ≤ y) ∧
    (∀ t acc, (rawC l ++ [(y, ((0, 0) : Int × Int))]).foldl (stepV t) acc = if t < p then acc else if t < y then vat F t else (0, 0))
  | [], p, h, hp => by
    have h' : y ≤ p := h
    refine ⟨by simp [rawC], fun s hs => ?_, fun t acc => ?_⟩
    · simp [rawC] at hs; subst hs; exact ⟨hp, Int.le_refl _⟩
    · simp only [rawC, List.map_nil, List.nil_append, List.foldl_cons, List.foldl_nil, stepV]
      by_cases c : t < p
      · rw [if_pos c, if_neg (by omega)]
      · rw [if_neg c, if_pos (by omega), if_neg (by omega)]
  | u :: r, p, ⟨h1, h2, h3, h4, h5⟩, hp => by
    obtain ⟨k1, k2, k3⟩ := cov_raw r u.2.1 h5 h3
    have e : rawC (u :: r) ++ [(y, ((0, 0) : Int × Int))] = (u.1, u.2.2) :: (rawC r ++ [(y, (0, 0))]) := rfl
    rw [e]
    refine ⟨List.pairwise_cons.2 ⟨fun s hs => ?_, k1⟩, fun s hs => ?_, fun t acc => ?_⟩
    · have := k2 s hs
      show u.1 < s.1
      omega
    · rcases List.mem_cons.1 hs with e | e
      · subst e
        show p ≤ u.1 ∧ u.1 ≤ y
        omega
      · have := k2 s e; omega
    · rw [List.foldl_cons, k3]
      by_cases c : t < p
      · rw [if_pos c, if_pos (by omega)]
        unfold stepV
        rw [if_neg (by simp only; omega)]
      · rw [if_neg c]
        by_cases c2 : t < u.2.1
        · rw [if_pos c2, if_pos (by omega), h4 t (by omega) c2]
          unfold stepV
          rw [if_pos (by simp only; omega)]
        · rw [if_neg c2]
theorem cutR_val {F : List Sg} (hF : Canon F) {x y : Int} (hxy : x ≤ y) (t : Int) : rv (cutR F x y) t = cutV F x y t := by
  obtain ⟨h1, _, h3⟩ := cov_raw (strL F x y) x (strL_cov hF x y) hxy
  have : rv (cutR F x y) t = (cutR F x y).foldl (stepV t) (0, 0) := rread_up (cutR F x y) _ h1 (fun _ _ h => by cases h)
  rw [this]
  unfold cutR
  rw [h3]
  unfold cutV
  by_cases c : t < x
  · rw [if_pos c, if_neg (by omega)]
  · rw [if_neg c]
    by_cases c2 : t < y
    · rw [if_pos c2, if_pos (by omega)]
    · rw [if_neg c2, if_neg (by omega)]
theorem cutR_ok {F : List Sg} (hF : Canon F) {x y : Int} (hxy : x ≤ y) : (cutR F x y).all okS = farS4 x y := by
  obtain ⟨h1, h2, _⟩ := cov_raw (strL F x y) x (strL_cov hF x y) hxy
  rw [Bool.eq_iff_iff, List.all_eq_true]
  unfold farS4
  rw [decide_eq_true_iff]
  constructor
  · intro h
    have hy := h (y, (0, 0)) (by unfold cutR; simp)
    have hy' : okT y = true := by unfold okS at hy; rw [Bool.and_eq_true] at hy; exact hy.1
    rw [okT_iff] at hy'
    by_cases c : x = y
    · omega
    · have hx : ∃ v, (x, v) ∈ cutR F x y := by
        have hc := strL_cov hF x y
        cases hs : strL F x y with
        | nil => rw [hs] at hc; have hc' : y ≤ x := hc; omega
        | cons u r =>
          rw [hs] at hc
          refine ⟨u.2.2, ?_⟩
          unfold cutR
          rw [hs, ← hc.1]
          simp [rawC]
      obtain ⟨v, hv⟩ := hx
      have := h _ hv
      unfold okS at this
      rw [Bool.and_eq_true, okT_iff] at this
      omega
  · rintro ⟨h3, h4, h5, h6⟩ s hs
    have hb := h2 s hs
    unfold okS
    rw [Bool.and_eq_true, okT_iff]
    refine ⟨by omega, ?_⟩
    unfold cutR at hs
    rcases List.mem_append.1 hs with hm | hm
    · unfold rawC at hm
      rw [List.mem_map] at hm
      obtain ⟨u, hu, rfl⟩ := hm
      obtain ⟨pre, post, e⟩ := List.append_of_mem hu
      have hc := strL_cov hF x y
      rw [e] at hc
      obtain ⟨k1, k2, k3, k4, k5⟩ := cov_at pre x u post hc
      simp only
      rw [← k5 u.1 (Int.le_refl _) k3]
      exact vat_ok (CF.ok hF) _
    · simp at hm; subst hm; rfl
theorem cutR_len (F : List Sg) (x y : Int) : (cutR F x y).length ≤ F.length + 2 := by
  have := strG_len y F x (0, 0)
  unfold cutR rawC strL
  rw [List.length_append, List.length_map]
  simp only [List.length_cons, List.length_nil]
  omega
/-- What Of makes of a cut's raw runs. -/
theorem cutR_of {F G : List Sg} (hF : Canon F) {x y : Int} (hxy : x ≤ y) (hb : farS4 x y = true) (h : IsOf (cutR F x y) G) : G = cutL F x y :=
  cutL_unique hF hxy hb h.1 fun t => (h.2.1 t).trans (cutR_val hF hxy t)
theorem cutS_form {F : List Sg} {x y : Int} (h : mayB F = false) : cutS F x y = ([], 5) := by unfold cutS; rw [if_pos h]
theorem cutS_arg {F : List Sg} {x y : Int} (h : mayB F = true) (h2 : y < x) : cutS F x y = ([], 2) := by unfold cutS; rw [if_neg (by rw [h]; decide), if_pos h2]
theorem cutS_far {F : List Sg} {x y : Int} (h : mayB F = true) (h2 : ¬ y < x) (h3 : farS4 x y = false) : cutS F x y = ([], 10) := by unfold cutS; rw [if_neg (by rw [h]; decide), if_neg h2, if_pos h3]
theorem cutS_ok {F : List Sg} {x y : Int} (h : mayB F = true) (h2 : ¬ y < x) (h3 : farS4 x y = true) : cutS F x y = (cutL F x y, 0) := by unfold cutS; rw [if_neg (by rw [h]; decide), if_neg h2, if_neg (by rw [h3]; decide)]
end Go.Proofs.Ytgflbidagdcfmaa

namespace Go.Proofs.Ytgflbidagdcfmaa

/-- What was shifted is shifted back. -/
theorem shift_back {F M : List Sg} {d : Int} (h : shiftS F d = (M, 0)) : mayB M = true ∧ shiftS M (-d) = (F, 0) ∧ okT d = true := by
  unfold shiftS at h
  split at h
  · cases h
  · rename_i h1
    split at h
    · cases h
    · rename_i h2
      split at h
      · cases h
      · rename_i h3
        have e1 : mayB F = true := by cases hm : mayB F <;> simp_all
        have e2 : okT d = true := by cases hm : okT d <;> simp_all
        have e3 : shiftOk F d = true := by cases hm : shiftOk F d <;> simp_all
        obtain rfl : shiftL F d = M := by
          have := congrArg Prod.fst h
          exact this
        have hC := shift_canon (mayB_iff.1 e1) e3
        have hm : mayB (shiftL F d) = true := mayB_iff.2 hC
        have hd : okT (-d) = true := by rw [okT_iff] at e2 ⊢; omega
        have hs : shiftOk (shiftL F d) (-d) = true := by
          unfold shiftOk
          rw [shiftL_back]
          rw [List.all_eq_true]
          exact CF.ok (mayB_iff.1 e1)
        exact ⟨hm, by rw [shiftS_ok hm hd hs, shiftL_back], e2⟩
/-- Where a function's values are those of another one, so are its sums. -/
theorem sumN_ext {F G : List Sg} {x : Int} : ∀ n : Nat, (∀ i : Nat, i < n → vat F (x + i) = vat G (x + i)) → sumN F x n = sumN G x n
  | 0, _ => rfl
  | n + 1, h => by
    rw [sumN_step, sumN_step, sumN_ext n (fun i hi => h i (by omega)), h n (by omega)]
theorem sumN_zero {F : List Sg} {x : Int} (n : Nat) (h : ∀ i : Nat, i < n → vat F (x + i) = (0, 0)) : sumN F x n = (0, 0) := by
  rw [sumN_const (v := (0, 0)) n h]
  simp
/-- The sum of a cut, over a window that is wider by five ticks at each end. -/
theorem cut_sum {F : List Sg} {x : Int} {n : Nat} (hF : Canon F) (hb : farS4 x (x + n) = true) : sumN (cutL F x (x + n)) (x - 5) (5 + n + 5) = sumN F x n := by
  obtain ⟨_, hv⟩ := cutL_spec hF (show x ≤ x + n by omega) hb
  rw [show 5 + n + 5 = 5 + (n + 5) by omega, sumN_add, show x - 5 + ((5 : Nat) : Int) = x by omega, sumN_add]
  rw [sumN_zero (F := cutL F x (x + n)) (x := x - 5) 5 (fun i hi => by rw [hv]; unfold cutV; rw [if_neg (by omega)])]
  rw [sumN_zero (F := cutL F x (x + n)) (x := x + n) 5 (fun i hi => by rw [hv]; unfold cutV; rw [if_neg (by omega)])]
  rw [sumN_ext (F := cutL F x (x + n)) (G := F) (x := x) n (fun i hi => by rw [hv]; unfold cutV; rw [if_pos (by omega)])]
  simp
theorem leB_true {a b : Int × Int} (h : a.1 ≤ b.1 ∧ a.2 ≤ b.2) : leB a.1 a.2 b.1 b.2 = true := by
  cases hq : leB a.1 a.2 b.1 b.2
  · rw [leB_not] at hq; omega
  · rfl
theorem buildL_lenM (g : Int → Int × Int) : ∀ ts : List Int, (buildL g ts).length ≤ ts.length := by
  intro ts
  have key : ∀ k, k ≤ ts.length → (buildL g (ts.take k)).length ≤ k := by
    intro k
    induction k with
    | zero => intro _; simp [buildL]
    | succ k ih =>
      intro h
      rw [List.take_succ_eq_append_getElem (by omega), buildL_snoc]
      have := ih (by omega)
      unfold withL
      split
      · omega
      · simp; omega
  have := key ts.length (Nat.le_refl _)
  rwa [List.take_length] at this
end Go.Proofs.Ytgflbidagdcfmaa

namespace Go.Proofs.Ytgflbidagdcfmaa

/-- A policy: its kind, its limit, its window's length. -/
abbrev Pol := Int × (Int × Int) × Int
def capB (c : Int × Int) : Bool := leB 0 0 c.1 c.2 && leB c.1 c.2 1073741824 1073741824
theorem capB_iff {c : Int × Int} : capB c = true ↔ 0 ≤ c.1 ∧ 0 ≤ c.2 ∧ c.1 ≤ 1073741824 ∧ c.2 ≤ 1073741824 := by
  unfold capB; rw [Bool.and_eq_true, leB_iff, leB_iff]; constructor
  · rintro ⟨⟨a, b⟩, c, d⟩; exact ⟨a, b, c, d⟩
  · rintro ⟨a, b, c, d⟩; exact ⟨⟨a, b⟩, c, d⟩
/-- May a policy be? -/
def polB (x : Pol) : Bool :=
  if x.1 = 0 then decide (x.2.1 = (0, 0)) && decide (x.2.2 = 0)
  else if x.1 = 1 then capB x.2.1 && decide (x.2.2 = 0)
  else if x.1 = 2 then capB x.2.1 && decide (1 ≤ x.2.2 ∧ x.2.2 ≤ 4096) else false
def nowB (t : Int) : Bool := decide (-1099511627776 ≤ t ∧ t ≤ 1099511627776)
theorem nowB_iff {t : Int} : nowB t = true ↔ -1099511627776 ≤ t ∧ t ≤ 1099511627776 := by unfold nowB; exact decide_eq_true_iff

/-- The first time from x on at which something is bad, or that it never is. -/
def FstAt (bad : Int → Bool) (x : Int) (r : Int × Bool) : Prop :=
  (r = (0, true) ∧ ∀ s, x ≤ s → bad s = false) ∨ ∃ t, x ≤ t ∧ r = (t, false) ∧ bad t = true ∧ ∀ s, x ≤ s → s < t → bad s = false
theorem FstAt.eq {b b' : Int → Bool} {x : Int} {r r' : Int × Bool} (h : FstAt b x r) (h' : FstAt b' x r') (hb : ∀ s, x ≤ s → b s = b' s) : r = r' := by
  rcases h with ⟨rfl, h⟩ | ⟨t, h1, rfl, h2, h3⟩ <;> rcases h' with ⟨rfl, h'⟩ | ⟨t', h1', rfl, h2', h3'⟩
  · rfl
  · rw [← hb t' h1', h t' h1'] at h2'; cases h2'
  · rw [hb t h1, h' t h1] at h2; cases h2
  · by_cases c : t < t'
    · rw [hb t h1, h3' t h1 c] at h2; cases h2
    · by_cases c2 : t' < t
      · rw [← hb t' h1', h3 t' h1' c2] at h2'; cases h2'
      · have : t = t' := by omega
        rw [this]
theorem FstAt.holds {b : Int → Bool} {x : Int} {r : Int × Bool} (h : FstAt b x r) (hr : r.2 = true) : r = (0, true) ∧ ∀ s, x ≤ s → b s = false := by
  rcases h with h | ⟨t, _, rfl, _⟩
  · exact h
  · cases hr
theorem FstAt.not {b : Int → Bool} {x : Int} {r : Int × Bool} (h : FstAt b x r) (hr : r.2 = false) : x ≤ r.1 ∧ b r.1 = true ∧ ∀ s, x ≤ s → s < r.1 → b s = false := by
  rcases h with ⟨rfl, _⟩ | ⟨t, h1, rfl, h2, h3⟩
  · cases hr
  · exact ⟨h1, h2, h3⟩

def leP (F G : List Sg) (x : Int) : Int × Bool := ((leS F G x).1, (leS F G x).2.1)
def leBad (F G : List Sg) (t : Int) : Bool := !(leB (vat F t).1 (vat F t).2 (vat G t).1 (vat G t).2)
theorem leP_first {F G : List Sg} (hF : mayB F = true) (hG : mayB G = true) (x : Int) : FstAt (leBad F G) x (leP F G x) := by
  unfold leP
  rcases leS_may x hF hG with ⟨e, h⟩ | ⟨t, e, h1, h2, _, h3⟩
  · rw [e]; exact .inl ⟨rfl, fun s hs => by unfold leBad; rw [h s hs]; rfl⟩
  · rw [e]; exact .inr ⟨t, h1, rfl, by unfold leBad; rw [h2]; rfl, fun s hs hst => by unfold leBad; rw [h3 s hs hst]; rfl⟩
theorem leS_of (F G : List Sg) (x : Int) (hF : mayB F = true) (hG : mayB G = true) : leS F G x = ((leP F G x).1, (leP F G x).2, 0) := by
  unfold leP
  rcases leS_may x hF hG with ⟨e, _⟩ | ⟨t, e, _⟩ <;> rw [e]
theorem leP_ext {F G G' : List Sg} (hF : mayB F = true) (hG : mayB G = true) (hG' : mayB G' = true) {x : Int} (h : ∀ t, x ≤ t → vat G t = vat G' t) : leP F G x = leP F G' x :=
  (leP_first hF hG x).eq (leP_first hF hG' x) fun s hs => by unfold leBad; rw [h s hs]

/-- A limit, from a time on. -/
def limL (now : Int) (c : Int × Int) : List Sg := if c = (0, 0) then [] else [(now, c)]
theorem limL_canon {now : Int} {c : Int × Int} (hn : okT now = true) (hc : okV c.1 c.2 = true) : Canon (limL now c) := by
  unfold limL
  by_cases h : c = (0, 0)
  · rw [if_pos h]; exact trivial
  · rw [if_neg h]
    exact ⟨by unfold okS; rw [hn, hc]; rfl, h, fun s hs => by simp at hs, trivial⟩
theorem limL_vat {now t : Int} {c : Int × Int} (h : now ≤ t) : vat (limL now c) t = c := by
  unfold limL
  by_cases e : c = (0, 0)
  · rw [if_pos e, e]; rfl
  · rw [if_neg e]
    unfold vat stepV
    simp [h]
theorem limL_isOf {now : Int} {c : Int × Int} (hn : okT now = true) (hc : okV c.1 c.2 = true) {f : List Sg} (h : IsOf [(now, c)] f) : f = limL now c := by
  refine cf_ext h.1 (limL_canon hn hc) fun t => ?_
  show vat f t = vat (limL now c) t
  rw [h.2.1 t]
  unfold rv rread limL
  simp only [List.foldl_cons, List.foldl_nil]
  unfold rstep
  by_cases e : c = (0, 0)
  · rw [if_pos e]
    by_cases k : now ≤ t <;> simp [k, e, vat]
  · rw [if_neg e]
    unfold vat stepV
    by_cases k : now ≤ t <;> simp [k]
theorem cap_ok {c : Int × Int} (h : capB c = true) : okV c.1 c.2 = true := by
  obtain ⟨a, b, d, e⟩ := capB_iff.1 h
  exact okV_iff.2 ⟨by omega, by omega, by omega, by omega⟩
theorem now_okT {t : Int} (h : nowB t = true) : okT t = true := by
  obtain ⟨a, b⟩ := nowB_iff.1 h
  exact okT_iff.2 ⟨by omega, by omega⟩
theorem limL_may {now : Int} {c : Int × Int} (hn : okT now = true) (hc : capB c = true) : mayB (limL now c) = true := mayB_iff.2 (limL_canon hn (cap_ok hc))

/-- Sums in windows. -/
def ovP (F : List Sg) (x n : Int) (l : Int × Int) : Int × Bool := ((overS F x n l).1, !(overS F x n l).2.1)
theorem ovP_first {F : List Sg} {x n : Int} {l : Int × Int} (hm : mayB F = true) (ha : overArg x n = true) (ho : okV l.1 l.2 = true) : FstAt (overB F n.toNat l) x (ovP F x n l) := by
  unfold ovP
  rcases over_spec hm ha ho with ⟨e, h⟩ | ⟨t, h1, _, e, h2, h3⟩
  · rw [e]; exact .inl ⟨rfl, h⟩
  · rw [e]; exact .inr ⟨t, h1, rfl, h2, h3⟩
def wide (c : Int × Int) (n : Int) : Int × Int := (c.1 * n, c.2 * n)
theorem wide_le {c : Int × Int} {n : Int} (h : capB c = true) (h1 : 1 ≤ n) (h2 : n ≤ 4096) : 0 ≤ c.1 * n ∧ c.1 * n ≤ 4398046511104 ∧ 0 ≤ c.2 * n ∧ c.2 * n ≤ 4398046511104 := by
  obtain ⟨a, b, d, e⟩ := capB_iff.1 h
  have m1 : c.1 * n ≤ 1073741824 * 4096 := Int.mul_le_mul d h2 (by omega) (by omega)
  have m2 : c.2 * n ≤ 1073741824 * 4096 := Int.mul_le_mul e h2 (by omega) (by omega)
  exact ⟨Int.mul_nonneg a (by omega), by omega, Int.mul_nonneg b (by omega), by omega⟩
theorem wide_ok {c : Int × Int} {n : Int} (h : capB c = true) (h1 : 1 ≤ n) (h2 : n ≤ 4096) : okV (wide c n).1 (wide c n).2 = true := by
  obtain ⟨a, b, d, e⟩ := wide_le h h1 h2
  unfold wide
  exact okV_iff.2 ⟨by simp only; omega, by simp only; omega, by simp only; omega, by simp only; omega⟩
theorem scl_wide {c : Int × Int} {n : Int} (h : capB c = true) (h1 : 1 ≤ n) (h2 : n ≤ 4096) : sclS c.1 c.2 n = ((wide c n).1, (wide c n).2, 0) := by
  have ho := wide_ok h h1 h2
  unfold wide at ho ⊢
  unfold sclS
  rw [cap_ok h, ho]; rfl

/-- What a question's answer is: the load, the capacity, the user's load. -/
def ansP (x : Pol) (now : Int) (F G H : List Sg) : Int × Bool :=
  if x.1 = 0 then leP F G now else if x.1 = 1 then leP H (limL now x.2.1) now else ovP H now x.2.2 (wide x.2.1 x.2.2)
def badP (x : Pol) (F G H : List Sg) (t : Int) : Bool :=
  if x.1 = 0 then leBad F G t else if x.1 = 1 then !(leB (vat H t).1 (vat H t).2 x.2.1.1 x.2.1.2) else overB H x.2.2.toNat (wide x.2.1 x.2.2) t
theorem pol_kind {x : Pol} (h : polB x = true) : (x.1 = 0 ∧ x.2 = ((0, 0), 0)) ∨ (x.1 = 1 ∧ capB x.2.1 = true ∧ x.2.2 = 0) ∨ (x.1 = 2 ∧ capB x.2.1 = true ∧ 1 ≤ x.2.2 ∧ x.2.2 ≤ 4096) := by
  unfold polB at h
  split at h
  · rename_i e
    rw [Bool.and_eq_true, decide_eq_true_iff, decide_eq_true_iff] at h
    exact .inl ⟨e, Prod.ext h.1 h.2⟩
  split at h
  · rename_i e
    rw [Bool.and_eq_true, decide_eq_true_iff] at h
    exact .inr (.inl ⟨e, h.1, h.2⟩)
  split at h
  · rename_i e
    rw [Bool.and_eq_true, decide_eq_true_iff] at h
    exact .inr (.inr ⟨e, h.1, h.2.1, h.2.2⟩)
  · cases h
theorem ans_first {x : Pol} {now : Int} {F G H : List Sg} (hx : polB x = true) (hn : nowB now = true) (hF : mayB F = true) (hG : mayB G = true) (hH : mayB H = true) : FstAt (badP x F G H) now (ansP x now F G H) := by
  have hn' := nowB_iff.1 hn
  unfold badP ansP
  rcases pol_kind hx with ⟨e, _⟩ | ⟨e, hc, _⟩ | ⟨e, hc, h1, h2⟩
  · simp only [e, if_true]
    exact leP_first hF hG now
  · simp only [e, Int.reduceEq, if_true, if_false]
    rcases leP_first hH (limL_may (now_okT hn) hc) now with ⟨q, h⟩ | ⟨t, q1, q2, q3, q4⟩
    · exact .inl ⟨q, fun s hs => by have := h s hs; unfold leBad at this; rwa [limL_vat hs] at this⟩
    · exact .inr ⟨t, q1, q2, by unfold leBad at q3; rwa [limL_vat q1] at q3, fun s hs hst => by have := q4 s hs hst; unfold leBad at this; rwa [limL_vat hs] at this⟩
  · simp only [e, Int.reduceEq, if_false]
    exact ovP_first hH (overArg_iff.2 ⟨h1, h2, by omega, by omega⟩) (wide_ok hc h1 h2)
/-- What Check answers. -/
def chkP (x : Pol) (now : Int) (F G H : List Sg) : Int × Bool × Int :=
  if (polB x && nowB now) = false then (0, false, 2) else if (mayB F && mayB G && mayB H) = false then (0, false, 5) else ((ansP x now F G H).1, (ansP x now F G H).2, 0)
theorem chk_arg {x : Pol} {now : Int} {F G H : List Sg} (h : (polB x && nowB now) = false) : chkP x now F G H = (0, false, 2) := by unfold chkP; rw [if_pos h]
theorem chk_form {x : Pol} {now : Int} {F G H : List Sg} (h : (polB x && nowB now) = true) (h2 : (mayB F && mayB G && mayB H) = false) : chkP x now F G H = (0, false, 5) := by unfold chkP; rw [if_neg (by rw [h]; decide), if_pos h2]
theorem chk_ok {x : Pol} {now : Int} {F G H : List Sg} (h : (polB x && nowB now) = true) (h2 : (mayB F && mayB G && mayB H) = true) : chkP x now F G H = ((ansP x now F G H).1, (ansP x now F G H).2, 0) := by
  unfold chkP; rw [if_neg (by rw [h]; decide), if_neg (by rw [h2]; decide)]
/-- What is known of an answer. -/
theorem chk_cases (x : Pol) (now : Int) (F G H : List Sg) :
    (chkP x now F G H = (0, false, 2) ∧ (polB x && nowB now) = false) ∨ (chkP x now F G H = (0, false, 5) ∧ (polB x && nowB now) = true ∧ (mayB F && mayB G && mayB H) = false) ∨
    (polB x = true ∧ nowB now = true ∧ mayB F = true ∧ mayB G = true ∧ mayB H = true ∧ ∃ r, chkP x now F G H = (r.1, r.2, 0) ∧ FstAt (badP x F G H) now r) := by
  cases h : polB x && nowB now
  · exact .inl ⟨chk_arg h, rfl⟩
  cases h2 : mayB F && mayB G && mayB H
  · exact .inr (.inl ⟨chk_form h h2, rfl, rfl⟩)
  refine .inr (.inr ?_)
  have e := chk_ok h h2
  simp only [Bool.and_eq_true] at h h2
  exact ⟨h.1, h.2, h2.1.1, h2.1.2, h2.2, _, e, ans_first h.1 h.2 h2.1.1 h2.1.2 h2.2⟩
/-- The document's limit, from a time far back on. -/
theorem leP_far {H : List Sg} {now : Int} {c : Int × Int} (hH : mayB H = true) (hn : nowB now = true) (hc : capB c = true) : leP H (limL (-1125899906842624) c) now = leP H (limL now c) now :=
  leP_ext hH (limL_may (by decide) hc) (limL_may (now_okT hn) hc) fun t ht => by
    have := nowB_iff.1 hn
    rw [limL_vat (by omega), limL_vat ht]
end Go.Proofs.Ytgflbidagdcfmaa

namespace Go.Proofs.Ytgflbidagdcfmaa

theorem doS_vals {k : Int} {F G D : List Sg} (h : doS k F G = (D, 0)) : mayB F = true ∧ mayB G = true ∧ mayB D = true ∧ ∀ t, opT k F G t = ((vat D t).1, (vat D t).2, 0) := by
  unfold doS at h
  split at h
  · cases h
  · rename_i h1
    obtain ⟨a, b⟩ : mayB F = true ∧ mayB G = true := by simpa using h1
    split at h
    · rename_i h2
      cases h
      obtain ⟨c1, c2⟩ := opL_spec (mayB_iff.1 a) (mayB_iff.1 b) h2
      refine ⟨a, b, mayB_iff.2 c1, fun t => ?_⟩
      rw [c2 t]
      have := opOk_iff.1 h2 t
      unfold opW
      exact Prod.ext rfl (Prod.ext rfl this)
    · cases h
theorem doS_of {k : Int} {F G R : List Sg} (hF : mayB F = true) (hG : mayB G = true) (hR : mayB R = true) (h : ∀ t, opT k F G t = ((vat R t).1, (vat R t).2, 0)) : doS k F G = (R, 0) := by
  have hok : opOk k F G = true := opOk_iff.2 fun t => by rw [h t]
  unfold doS
  rw [hF, hG, if_neg (by decide), if_pos hok]
  rw [opL_unique (mayB_iff.1 hF) (mayB_iff.1 hG) hok (mayB_iff.1 hR) fun t => by unfold opW; rw [h t]]
theorem doS_ext {k : Int} {F G F' G' : List Sg} (hF : mayB F = true) (hG : mayB G = true) (hF' : mayB F' = true) (hG' : mayB G' = true) (h : ∀ t, opT k F G t = opT k F' G' t) : doS k F G = doS k F' G' := by
  by_cases hok : opOk k F G = true
  · have e : doS k F G = (opL k F G, 0) := by unfold doS; rw [hF, hG, if_neg (by decide), if_pos hok]
    rw [e]
    obtain ⟨_, _, hm, hv⟩ := doS_vals e
    exact (doS_of hF' hG' hm fun t => by rw [← h t, hv t]).symm
  · have hok' : ¬ opOk k F' G' = true := fun h' => hok (opOk_iff.2 fun t => by rw [h t]; exact opOk_iff.1 h' t)
    unfold doS
    rw [hF, hG, hF', hG', if_neg (by decide), if_neg hok, if_neg (by decide), if_neg hok']
/-- A function's least with itself. -/
theorem min_self {F : List Sg} (h : mayB F = true) : doS 2 F F = (F, 0) := doS_of h h h fun t => by
  unfold opT
  obtain ⟨a, b⟩ := vat F t
  rw [opV_2]
  unfold mn
  simp
end Go.Proofs.Ytgflbidagdcfmaa

namespace Go.Proofs.Ytgflbidagdcfmaa

theorem vat_ahead {F : List Sg} (h : mayB F = true) {t : Int} (ht : t < -1125899906842624) : vat F t = (0, 0) :=
  vat_before fun x hx => by
    have := okT_iff.1 (okT_of (CF.ok (mayB_iff.1 h)) hx)
    omega
theorem may_okF {F : List Sg} (h : mayB F = true) (t : Int) : okV (vat F t).1 (vat F t).2 = true := vat_ok (CF.ok (mayB_iff.1 h)) t
theorem withL_lenF (f : List Sg) (t : Int) (v : Int × Int) : (withL f t v).length ≤ f.length + 1 := by unfold withL; split <;> simp
theorem buildL_lenF (g : Int → Int × Int) (ts : List Int) : (buildL g ts).length ≤ ts.length := by
  have h : ∀ (ts : List Int) (f : List Sg), (ts.foldl (fun f t => withL f t (g t)) f).length ≤ f.length + ts.length := by
    intro ts
    induction ts with
    | nil => intro f; simp
    | cons t r ih =>
      intro f
      rw [List.foldl_cons]
      have h1 := ih (withL f t (g t))
      have h2 := withL_lenF f t (g t)
      simp only [List.length_cons]
      omega
  have := h ts []
  simpa [buildL] using this
/-- The difference of two vectors, by a time. -/
def difV (F G : List Sg) (t : Int) : Int × Int := ((vat F t).1 - (vat G t).1, (vat F t).2 - (vat G t).2)
theorem sub_opT {F G : List Sg} (hF : mayB F = true) (hG : mayB G = true) (t : Int) : opT 1 F G t = gate (okV (difV F G t).1 (difV F G t).2) (difV F G t).1 (difV F G t).2 := by
  show subS (vat F t).1 (vat F t).2 (vat G t).1 (vat G t).2 = _
  unfold subS difV
  rw [may_okF hF t, may_okF hG t]
  rfl
/-- What Sub hands back, of functions that may be. -/
theorem sub_is {F G f : List Sg} {er : Int} (hF : mayB F = true) (hG : mayB G = true) (h : doS 1 F G = (f, er)) :
    (er = 0 ∧ mayB f = true ∧ f.length ≤ F.length + G.length ∧ ∀ t, okV (difV F G t).1 (difV F G t).2 = true ∧ vat f t = difV F G t) ∨ (er = 10 ∧ f = [] ∧ ∃ t, okV (difV F G t).1 (difV F G t).2 = false) := by
  cases hk : opOk 1 F G
  · have e : doS 1 F G = ([], 10) := by unfold doS; rw [hF, hG, if_neg (by decide), if_neg (by rw [hk]; decide)]
    rw [e] at h; cases h
    refine .inr ⟨rfl, rfl, ?_⟩
    apply Classical.byContradiction
    intro hno
    have : opOk 1 F G = true := opOk_iff.2 fun t => by
      rw [sub_opT hF hG t]
      cases hb : okV (difV F G t).1 (difV F G t).2
      · exact absurd ⟨t, hb⟩ hno
      · rfl
    rw [this] at hk; cases hk
  · have e : doS 1 F G = (opL 1 F G, 0) := by unfold doS; rw [hF, hG, if_neg (by decide), if_pos hk]
    obtain ⟨_, _, hm, hv⟩ := doS_vals e
    rw [e] at h; cases h
    refine .inl ⟨rfl, hm, opL_len _ _ _, fun t => ?_⟩
    have h1 := hv t
    have h2 := opOk_iff.1 hk t
    rw [sub_opT hF hG t] at h1 h2
    have h3 := gate_ok h2
    refine ⟨h3, ?_⟩
    rw [gate_true h3] at h1
    obtain ⟨r1, r2⟩ := Prod.mk.inj h1
    obtain ⟨r2, _⟩ := Prod.mk.inj r2
    exact Prod.ext r1.symm r2.symm
/-- A function from a time on, and zero before. -/
def SinceIs (F : List Sg) (x : Int) (r : List Sg) : Prop := mayB r = true ∧ r.length ≤ 2 * F.length + 2 ∧ ∀ t, vat r t = if t < x then (0, 0) else vat F t
theorem since_spec {F : List Sg} {x : Int} (hF : mayB F = true) (hx : nowB x = true) :
    cutS F (-1125899906842624) x = (cutL F (-1125899906842624) x, 0) ∧ (cutL F (-1125899906842624) x).length ≤ F.length + 2 ∧ ∃ r, doS 1 F (cutL F (-1125899906842624) x) = (r, 0) ∧ SinceIs F x r := by
  have hx' := nowB_iff.1 hx
  have hfar : farS4 (-1125899906842624) x = true := by unfold farS4; exact decide_eq_true (by omega)
  obtain ⟨hC, hv⟩ := cutL_spec (F := F) (x := -1125899906842624) (y := x) (mayB_iff.1 hF) (by omega) hfar
  have hl : (cutL F (-1125899906842624) x).length ≤ F.length + 2 := by unfold cutL; exact Nat.le_trans (buildL_lenF _ _) (cutT_len _ _ _)
  have hB := mayB_iff.2 hC
  have hd : ∀ t, difV F (cutL F (-1125899906842624) x) t = if t < x then (0, 0) else vat F t := fun t => by
    unfold difV
    rw [hv t]
    unfold cutV
    by_cases c : t < x
    · by_cases d : -1125899906842624 ≤ t
      · rw [if_pos ⟨d, c⟩, if_pos c]; simp
      · rw [if_neg (fun e => d e.1), if_pos c, vat_ahead hF (by omega)]; simp
    · rw [if_neg (fun e => c e.2), if_neg c]; simp
  refine ⟨?_, hl, ?_⟩
  · unfold cutS
    rw [hF, if_neg (by decide), if_neg (by omega), hfar, if_neg (by decide)]
  · obtain ⟨⟨r, er⟩, hr⟩ : ∃ r, doS 1 F (cutL F (-1125899906842624) x) = r := ⟨_, rfl⟩
    rcases sub_is hF hB hr with ⟨rfl, h1, h2, h3⟩ | ⟨_, _, t, ht⟩
    · exact ⟨r, hr, h1, by omega, fun t => ((h3 t).2).trans (hd t)⟩
    · rw [hd t] at ht
      split at ht
      · cases ht
      · rw [may_okF hF t] at ht; cases ht

/-- What the free function does not exceed. -/
inductive Bd where
  | most
  | rest
  | lim (v : Int × Int)
def valB (C L O : List Sg) (x : Int) (b : Bd) (t : Int) : Int × Int :=
  match b with
  | .most => if t < x then (0, 0) else (1125899906842624, 1125899906842624)
  | .rest => difV C L t
  | .lim v => if t < x then (0 - (vat O t).1, 0 - (vat O t).2) else (v.1 - (vat O t).1, v.2 - (vat O t).2)
def BdOk (C L O : List Sg) (x : Int) (b : Bd) : Prop := (∀ v, b = .lim v → okV v.1 v.2 = true) ∧ ∀ t, okV (valB C L O x b t).1 (valB C L O x b t).2 = true
def BdIs (C L O : List Sg) (x : Int) (b : Bd) (f : List Sg) (er : Int) : Prop :=
  f.length ≤ C.length + L.length + O.length + 1 ∧ ((er = 0 ∧ mayB f = true ∧ BdOk C L O x b ∧ ∀ t, vat f t = valB C L O x b t) ∨ (er = 10 ∧ f = [] ∧ ¬ BdOk C L O x b))
/-- The function that is one vector from a time on. -/
def ConIs (x : Int) (v : Int × Int) (f : List Sg) : Prop := mayB f = true ∧ f.length ≤ 1 ∧ ∀ t, vat f t = if t < x then (0, 0) else v
theorem con_of {x : Int} {v : Int × Int} {f : List Sg} (h : IsOf [(x, v)] f) : ConIs x v f := by
  obtain ⟨h1, h2, h3⟩ := h
  refine ⟨mayB_iff.2 h1, h3, fun t => ?_⟩
  rw [h2 t]
  unfold rv rread
  simp only [List.foldl_cons, List.foldl_nil]
  unfold rstep
  by_cases k : x ≤ t
  · have k2 : ¬ t < x := by omega
    simp [k, k2]
  · have k2 : t < x := by omega
    simp [k, k2]
theorem bd_most {C L O f : List Sg} {x : Int} (h : ConIs x (1125899906842624, 1125899906842624) f) : BdIs C L O x .most f 0 := by
  obtain ⟨h1, h2, h3⟩ := h
  refine ⟨by omega, .inl ⟨rfl, h1, ⟨fun v e => (Bd.noConfusion e), fun t => ?_⟩, h3⟩⟩
  show okV (if t < x then ((0, 0) : Int × Int) else (1125899906842624, 1125899906842624)).1 (if t < x then ((0, 0) : Int × Int) else (1125899906842624, 1125899906842624)).2 = true
  split <;> decide
theorem bd_rest {C L O f : List Sg} {x er : Int} (hC : mayB C = true) (hL : mayB L = true) (h : doS 1 C L = (f, er)) : BdIs C L O x .rest f er := by
  rcases sub_is hC hL h with ⟨rfl, h1, h2, h3⟩ | ⟨rfl, rfl, t, ht⟩
  · exact ⟨by omega, .inl ⟨rfl, h1, ⟨fun v e => (Bd.noConfusion e), fun t => (h3 t).1⟩, fun t => (h3 t).2⟩⟩
  · refine ⟨by simp, .inr ⟨rfl, rfl, fun hno => ?_⟩⟩
    have := hno.2 t
    change okV (difV C L t).1 (difV C L t).2 = true at this
    rw [ht] at this; cases this
theorem bd_limbad {C L O : List Sg} {x : Int} {v : Int × Int} (h : okV v.1 v.2 = false) : BdIs C L O x (.lim v) [] 10 :=
  ⟨by simp, .inr ⟨rfl, rfl, fun hno => by rw [hno.1 v rfl] at h; cases h⟩⟩
theorem bd_lim {C L O c f : List Sg} {x er : Int} {v : Int × Int} (hv : okV v.1 v.2 = true) (hO : mayB O = true) (hc : ConIs x v c) (h : doS 1 c O = (f, er)) : BdIs C L O x (.lim v) f er := by
  obtain ⟨c1, c2, c3⟩ := hc
  have hd : ∀ t, difV c O t = valB C L O x (.lim v) t := fun t => by
    unfold difV valB
    rw [c3 t]
    by_cases k : t < x <;> simp [k]
  rcases sub_is c1 hO h with ⟨rfl, h1, h2, h3⟩ | ⟨rfl, rfl, t, ht⟩
  · exact ⟨by omega, .inl ⟨rfl, h1, ⟨fun u e => by cases e; exact hv, fun t => by rw [← hd t]; exact (h3 t).1⟩, fun t => (h3 t).2.trans (hd t)⟩⟩
  · refine ⟨by simp, .inr ⟨rfl, rfl, fun hno => ?_⟩⟩
    have := hno.2 t
    rw [← hd t, ht] at this; cases this

/-- The smallest and the greatest of the limits. -/
def limT (caps : List (Int × Int)) (p : Pol) : List (Int × Int) :=
  if p.1 ≠ 1 then caps else if caps.length = 0 then [p.2.1, p.2.1] else
    [(mn (caps.getD 0 (0, 0)).1 p.2.1.1, mn (caps.getD 0 (0, 0)).2 p.2.1.2), (mx (caps.getD 1 (0, 0)).1 p.2.1.1, mx (caps.getD 1 (0, 0)).2 p.2.1.2)]
def limS (P : List Pol) : List (Int × Int) := P.foldl limT []
theorem limS_step {P : List Pol} {k : Nat} (h : k < P.length) : limS (P.take (k + 1)) = limT (limS (P.take k)) (P.getD k (0, (0, 0), 0)) := by
  unfold limS
  rw [List.take_succ_eq_append_getElem h, List.foldl_append, getD_get _ _ _ h]
  rfl
def LimIs (P : List Pol) (l : List (Int × Int)) : Prop := (l = [] ∧ ∀ p ∈ P, p.1 ≠ 1) ∨ ∃ a b : Int × Int, l = [a, b] ∧ (∀ p ∈ P, p.1 = 1 → a.1 ≤ p.2.1.1 ∧ a.2 ≤ p.2.1.2 ∧ p.2.1.1 ≤ b.1 ∧ p.2.1.2 ≤ b.2) ∧
  (∃ p ∈ P, p.1 = 1 ∧ p.2.1.1 = a.1) ∧ (∃ p ∈ P, p.1 = 1 ∧ p.2.1.2 = a.2) ∧ (∃ p ∈ P, p.1 = 1 ∧ p.2.1.1 = b.1) ∧ ∃ p ∈ P, p.1 = 1 ∧ p.2.1.2 = b.2
theorem LimIs.step {P : List Pol} {l : List (Int × Int)} (h : LimIs P l) (p : Pol) : LimIs (P ++ [p]) (limT l p) := by
  by_cases k : p.1 = 1
  · have hx : ∀ {q : Pol → Prop}, (∃ p' ∈ P, q p') → ∃ p' ∈ P ++ [p], q p' := fun ⟨p', h1, h2⟩ => ⟨p', by simp [h1], h2⟩
    have hp : p ∈ P ++ [p] := by simp
    rcases h with ⟨rfl, h⟩ | ⟨a, b, rfl, h, a1, a2, b1, b2⟩
    · refine .inr ⟨p.2.1, p.2.1, by unfold limT; rw [if_neg (by simpa using k)]; rfl, fun q hq hk => ?_, ⟨p, hp, k, rfl⟩, ⟨p, hp, k, rfl⟩, ⟨p, hp, k, rfl⟩, ⟨p, hp, k, rfl⟩⟩
      rcases List.mem_append.1 hq with hq | hq
      · exact absurd hk (h q hq)
      · simp at hq; subst hq; omega
    · refine .inr ⟨_, _, by unfold limT; rw [if_neg (by simpa using k), if_neg (by simp)], fun q hq hk => ?_, ?_, ?_, ?_, ?_⟩
      · simp only [List.getD_cons_zero, List.getD_cons_succ, mn_min, mx_max]
        rcases List.mem_append.1 hq with hq | hq
        · have := h q hq hk; omega
        · simp at hq; subst hq; omega
      · show ∃ p' ∈ P ++ [p], p'.1 = 1 ∧ p'.2.1.1 = mn a.1 p.2.1.1
        unfold mn; split
        · exact hx (q := fun p' => p'.1 = 1 ∧ p'.2.1.1 = a.1) a1
        · exact ⟨p, hp, k, rfl⟩
      · show ∃ p' ∈ P ++ [p], p'.1 = 1 ∧ p'.2.1.2 = mn a.2 p.2.1.2
        unfold mn; split
        · exact hx (q := fun p' => p'.1 = 1 ∧ p'.2.1.2 = a.2) a2
        · exact ⟨p, hp, k, rfl⟩
      · show ∃ p' ∈ P ++ [p], p'.1 = 1 ∧ p'.2.1.1 = mx b.1 p.2.1.1
        unfold mx; split
        · exact ⟨p, hp, k, rfl⟩
        · exact hx (q := fun p' => p'.1 = 1 ∧ p'.2.1.1 = b.1) b1
      · show ∃ p' ∈ P ++ [p], p'.1 = 1 ∧ p'.2.1.2 = mx b.2 p.2.1.2
        unfold mx; split
        · exact ⟨p, hp, k, rfl⟩
        · exact hx (q := fun p' => p'.1 = 1 ∧ p'.2.1.2 = b.2) b2
  · have e : limT l p = l := by unfold limT; rw [if_pos (by simpa using k)]
    rw [e]
    have hm : ∀ q ∈ P ++ [p], q.1 = 1 → q ∈ P := fun q hq hk => by
      rcases List.mem_append.1 hq with hq | hq
      · exact hq
      · simp at hq; subst hq; exact absurd hk k
    rcases h with ⟨rfl, h⟩ | ⟨a, b, rfl, h, ⟨p1, m1, a1⟩, ⟨p2, m2, a2⟩, ⟨p3, m3, b1⟩, p4, m4, b2⟩
    · exact .inl ⟨rfl, fun q hq hk => h q (hm q hq hk) hk⟩
    · exact .inr ⟨a, b, rfl, fun q hq hk => h q (hm q hq hk) hk, ⟨p1, by simp [m1], a1⟩, ⟨p2, by simp [m2], a2⟩, ⟨p3, by simp [m3], b1⟩, p4, by simp [m4], b2⟩
theorem lim_aux : ∀ (Q P : List Pol) (l : List (Int × Int)), LimIs P l → LimIs (P ++ Q) (Q.foldl limT l)
  | [], P, l, h => by simpa using h
  | p :: Q, P, l, h => by
    have := lim_aux Q (P ++ [p]) _ (h.step p)
    rw [List.foldl_cons]
    simpa using this
theorem lim_is (P : List Pol) : LimIs P (limS P) := by
  have := lim_aux P [] [] (.inl ⟨rfl, fun p hp => by simp at hp⟩)
  rwa [List.nil_append] at this

/-- The bounds that there are. -/
def hasC (P : List Pol) : Bool := P.any fun p => p.1 == 0
def bds (P : List Pol) : List Bd := .most :: ((if hasC P then [.rest] else []) ++ (limS P).map .lim)
theorem bds_len (P : List Pol) : (bds P).length ≤ 4 := by
  have : (limS P).length ≤ 2 := by
    rcases lim_is P with ⟨e, _⟩ | ⟨a, b, e, _⟩ <;> rw [e] <;> simp
  unfold bds
  split <;> simp <;> omega

/-- The free function's differences may be. -/
def FreeOk (P : List Pol) (C L O : List Sg) (x : Int) : Prop :=
  ∀ p ∈ P, (p.1 = 0 → ∀ t, x ≤ t → okV ((vat C t).1 - (vat L t).1) ((vat C t).2 - (vat L t).2) = true) ∧ (p.1 = 1 → okV p.2.1.1 p.2.1.2 = true ∧ ∀ t, x ≤ t → okV (p.2.1.1 - (vat O t).1) (p.2.1.2 - (vat O t).2) = true)
def FreeAt1 (P : List Pol) (C L O : List Sg) (t a : Int) : Prop := a ≤ 1125899906842624 ∧ ∀ p ∈ P, (p.1 = 0 → a ≤ (vat C t).1 - (vat L t).1) ∧ (p.1 = 1 → a ≤ p.2.1.1 - (vat O t).1)
def FreeAt2 (P : List Pol) (C L O : List Sg) (t a : Int) : Prop := a ≤ 1125899906842624 ∧ ∀ p ∈ P, (p.1 = 0 → a ≤ (vat C t).2 - (vat L t).2) ∧ (p.1 = 1 → a ≤ p.2.1.2 - (vat O t).2)
def FreeF (P : List Pol) (C L O : List Sg) (x : Int) (f : List Sg) : Prop :=
  mayB f = true ∧ (∀ t, t < x → vat f t = (0, 0)) ∧ ∀ t, x ≤ t → ∀ a, (a ≤ (vat f t).1 ↔ FreeAt1 P C L O t a) ∧ (a ≤ (vat f t).2 ↔ FreeAt2 P C L O t a)
def FreeIs (P : List Pol) (C L O : List Sg) (x : Int) (f : List Sg) (er : Int) : Prop :=
  ((mayB C && mayB L && mayB O) = false ∧ f = [] ∧ er = 5) ∨ ((mayB C && mayB L && mayB O) = true ∧
    (((∃ p ∈ P, 2 < p.1) ∧ f = [] ∧ er = 2) ∨ ((∀ p ∈ P, p.1 ≤ 2) ∧ ((nowB x = false ∧ f = [] ∧ er = 10) ∨ (nowB x = true ∧ ((¬ FreeOk P C L O x ∧ f = [] ∧ er = 10) ∨ (FreeOk P C L O x ∧ er = 0 ∧ FreeF P C L O x f)))))))
theorem hasC_iff {P : List Pol} : hasC P = true ↔ ∃ p ∈ P, p.1 = 0 := by
  unfold hasC; rw [List.any_eq_true]; simp
theorem bds_mem {P : List Pol} {b : Bd} : b ∈ bds P ↔ b = .most ∨ (b = .rest ∧ ∃ p ∈ P, p.1 = 0) ∨ ∃ v ∈ limS P, b = .lim v := by
  unfold bds
  rw [List.mem_cons, List.mem_append, List.mem_map]
  have : b ∈ (if hasC P then [Bd.rest] else []) ↔ (b = .rest ∧ ∃ p ∈ P, p.1 = 0) := by
    rw [← hasC_iff]
    cases hasC P <;> simp
  rw [this]
  constructor
  · rintro (h | h | ⟨v, h1, h2⟩)
    · exact .inl h
    · exact .inr (.inl h)
    · exact .inr (.inr ⟨v, h1, h2.symm⟩)
  · rintro (h | h | ⟨v, h1, h2⟩)
    · exact .inl h
    · exact .inr (.inl h)
    · exact .inr (.inr ⟨v, h1, h2.symm⟩)
section
variable {P : List Pol} {C L O C' L' O' : List Sg} {x : Int}
theorem free_ok (hC : SinceIs C x C') (hL : SinceIs L x L') (hO : SinceIs O x O') : (∀ b ∈ bds P, BdOk C' L' O' x b) ↔ FreeOk P C L O x := by
  obtain ⟨_, _, vC⟩ := hC; obtain ⟨_, _, vL⟩ := hL; obtain ⟨_, _, vO⟩ := hO
  constructor
  · intro h p hp
    refine ⟨fun k t ht => ?_, fun k => ?_⟩
    · have := (h .rest (bds_mem.2 (.inr (.inl ⟨rfl, p, hp, k⟩)))).2 t
      change okV (difV C' L' t).1 (difV C' L' t).2 = true at this
      unfold difV at this
      rw [vC t, vL t, if_neg (by omega), if_neg (by omega)] at this
      exact this
    · rcases lim_is P with ⟨_, hn⟩ | ⟨a, b, e, hab, _⟩
      · exact absurd k (hn p hp)
      · have ha := h (.lim a) (bds_mem.2 (.inr (.inr ⟨a, by rw [e]; simp, rfl⟩)))
        have hb := h (.lim b) (bds_mem.2 (.inr (.inr ⟨b, by rw [e]; simp, rfl⟩)))
        have q := hab p hp k
        have oa := okV_iff.1 (ha.1 a rfl); have ob := okV_iff.1 (hb.1 b rfl)
        refine ⟨okV_iff.2 (by omega), fun t ht => ?_⟩
        have ta := ha.2 t; have tb := hb.2 t
        unfold valB at ta tb
        simp only [if_neg (show ¬ t < x by omega), vO t] at ta tb
        have ta := okV_iff.1 ta; have tb := okV_iff.1 tb
        exact okV_iff.2 (by omega)
  · intro h b hb
    rcases bds_mem.1 hb with rfl | ⟨rfl, p, hp, k⟩ | ⟨v, hv, rfl⟩
    · refine ⟨fun v e => (Bd.noConfusion e), fun t => ?_⟩
      show okV (if t < x then ((0, 0) : Int × Int) else (1125899906842624, 1125899906842624)).1 (if t < x then ((0, 0) : Int × Int) else (1125899906842624, 1125899906842624)).2 = true
      split <;> decide
    · refine ⟨fun v e => (Bd.noConfusion e), fun t => ?_⟩
      show okV (difV C' L' t).1 (difV C' L' t).2 = true
      unfold difV
      rw [vC t, vL t]
      by_cases c : t < x
      · rw [if_pos c, if_pos c]; decide
      · rw [if_neg c, if_neg c]; exact (h p hp).1 k t (by omega)
    · have key : okV v.1 v.2 = true ∧ ∀ t, x ≤ t → okV (v.1 - (vat O t).1) (v.2 - (vat O t).2) = true := by
        rcases lim_is P with ⟨e, _⟩ | ⟨a, b, e, hab, ⟨p1, m1, k1, a1⟩, ⟨p2, m2, k2, a2⟩, ⟨p3, m3, k3, b1⟩, p4, m4, k4, b2⟩
        · rw [e] at hv; simp at hv
        · have o1 := (h p1 m1).2 k1; have o2 := (h p2 m2).2 k2; have o3 := (h p3 m3).2 k3; have o4 := (h p4 m4).2 k4
          have q1 := okV_iff.1 o1.1; have q2 := okV_iff.1 o2.1; have q3 := okV_iff.1 o3.1; have q4 := okV_iff.1 o4.1
          rw [e] at hv
          simp at hv
          rcases hv with rfl | rfl
          · refine ⟨okV_iff.2 (by omega), fun t ht => ?_⟩
            have r1 := okV_iff.1 (o1.2 t ht); have r2 := okV_iff.1 (o2.2 t ht)
            exact okV_iff.2 (by omega)
          · refine ⟨okV_iff.2 (by omega), fun t ht => ?_⟩
            have r1 := okV_iff.1 (o3.2 t ht); have r2 := okV_iff.1 (o4.2 t ht)
            exact okV_iff.2 (by omega)
      refine ⟨fun u e => by cases e; exact key.1, fun t => ?_⟩
      unfold valB
      by_cases c : t < x
      · simp only [if_pos c, vO t]; decide
      · simp only [if_neg c, vO t]; exact key.2 t (by omega)
/-- The least of some functions. -/
def MinIs (Fs : List (List Sg)) (f : List Sg) : Prop := mayB f = true ∧ ∀ t a, (a ≤ (vat f t).1 ↔ ∀ F ∈ Fs, a ≤ (vat F t).1) ∧ (a ≤ (vat f t).2 ↔ ∀ F ∈ Fs, a ≤ (vat F t).2)
/-- Functions that are bounds. -/
def BdsAre (C L O : List Sg) (x : Int) (bs : List Bd) (Fs : List (List Sg)) : Prop := Fs.length = bs.length ∧ ∀ i, i < bs.length → mayB (Fs.getD i []) = true ∧ BdOk C L O x (bs.getD i .most) ∧ ∀ t, vat (Fs.getD i []) t = valB C L O x (bs.getD i .most) t
theorem BdsAre.all {bs : List Bd} {Fs : List (List Sg)} (h : BdsAre C L O x bs Fs) {q : Int × Int → Prop} (t : Int) : (∀ F ∈ Fs, q (vat F t)) ↔ ∀ b ∈ bs, q (valB C L O x b t) := by
  obtain ⟨hl, h⟩ := h
  constructor
  · intro hq b hb
    obtain ⟨i, hi, rfl⟩ := List.getElem_of_mem hb
    have h1 := (h i hi).2.2 t
    rw [getD_get _ _ _ hi, getD_get _ _ _ (by omega)] at h1
    rw [← h1]
    exact hq _ (List.getElem_mem _)
  · intro hq F hF
    obtain ⟨i, hi, rfl⟩ := List.getElem_of_mem hF
    have h1 := (h i (by omega)).2.2 t
    rw [getD_get _ _ _ (show i < bs.length by omega), getD_get _ _ _ hi] at h1
    rw [h1]
    exact hq _ (List.getElem_mem _)
theorem free_val {Fs : List (List Sg)} {f : List Sg} (hC : SinceIs C x C') (hL : SinceIs L x L') (hO : SinceIs O x O') (hF : BdsAre C' L' O' x (bds P) Fs) (hm : MinIs Fs f) : FreeF P C L O x f := by
  obtain ⟨_, _, vC⟩ := hC; obtain ⟨_, _, vL⟩ := hL; obtain ⟨_, _, vO⟩ := hO
  obtain ⟨h1, h2⟩ := hm
  refine ⟨h1, fun t ht => ?_, fun t ht a => ?_⟩
  · have z : ∀ b ∈ bds P, valB C' L' O' x b t = (0, 0) := fun b _ => by
      cases b with
      | most => exact if_pos ht
      | rest => show difV C' L' t = _; unfold difV; rw [vC t, vL t, if_pos ht, if_pos ht]; rfl
      | lim v => unfold valB; simp only [vO t, if_pos ht]; rfl
    have e1 : ∀ a, a ≤ (vat f t).1 ↔ a ≤ 0 := fun a => by
      rw [(h2 t a).1, hF.all (q := fun v => a ≤ v.1) t]
      exact ⟨fun h => by have := h .most (bds_mem.2 (.inl rfl)); rwa [z _ (bds_mem.2 (.inl rfl))] at this, fun h b hb => by rw [z b hb]; exact h⟩
    have e2 : ∀ a, a ≤ (vat f t).2 ↔ a ≤ 0 := fun a => by
      rw [(h2 t a).2, hF.all (q := fun v => a ≤ v.2) t]
      exact ⟨fun h => by have := h .most (bds_mem.2 (.inl rfl)); rwa [z _ (bds_mem.2 (.inl rfl))] at this, fun h b hb => by rw [z b hb]; exact h⟩
    have x1 := (e1 _).1 (Int.le_refl _); have x2 := (e1 0).2 (Int.le_refl _); have y1 := (e2 _).1 (Int.le_refl _); have y2 := (e2 0).2 (Int.le_refl _)
    exact Prod.ext (by show (vat f t).1 = 0; omega) (by show (vat f t).2 = 0; omega)
  · have hnt : ¬ t < x := by omega
    have em : valB C' L' O' x .most t = (1125899906842624, 1125899906842624) := if_neg hnt
    have er : valB C' L' O' x .rest t = difV C L t := by show difV C' L' t = _; unfold difV; rw [vC t, vL t, if_neg hnt, if_neg hnt]
    have el : ∀ v, valB C' L' O' x (.lim v) t = (v.1 - (vat O t).1, v.2 - (vat O t).2) := fun v => by unfold valB; simp only [vO t, if_neg hnt]
    rw [(h2 t a).1, (h2 t a).2, hF.all (q := fun v => a ≤ v.1) t, hF.all (q := fun v => a ≤ v.2) t]
    constructor
    · constructor
      · intro h
        refine ⟨by have := h .most (bds_mem.2 (.inl rfl)); rwa [em] at this, fun p hp => ⟨fun k => ?_, fun k => ?_⟩⟩
        · have := h .rest (bds_mem.2 (.inr (.inl ⟨rfl, p, hp, k⟩)))
          rw [er] at this; exact this
        · rcases lim_is P with ⟨_, hn⟩ | ⟨c, b, e, hab, _⟩
          · exact absurd k (hn p hp)
          · have := h (.lim c) (bds_mem.2 (.inr (.inr ⟨c, by rw [e]; simp, rfl⟩)))
            rw [el] at this
            have q := hab p hp k
            simp only at this
            omega
      · rintro ⟨ha, hp⟩ b hb
        rcases bds_mem.1 hb with rfl | ⟨rfl, p, hp', k⟩ | ⟨v, hv, rfl⟩
        · rw [em]; exact ha
        · rw [er]; exact (hp p hp').1 k
        · rw [el]
          show a ≤ v.1 - (vat O t).1
          rcases lim_is P with ⟨e, _⟩ | ⟨c, b, e, hab, ⟨p1, m1, k1, a1⟩, ⟨p2, m2, k2, a2⟩, ⟨p3, m3, k3, b1⟩, p4, m4, k4, b2⟩
          · rw [e] at hv; simp at hv
          · have q1 := (hp p1 m1).2 k1; have q3 := (hp p3 m3).2 k3
            rw [e] at hv
            simp at hv
            rcases hv with rfl | rfl <;> omega
    · constructor
      · intro h
        refine ⟨by have := h .most (bds_mem.2 (.inl rfl)); rwa [em] at this, fun p hp => ⟨fun k => ?_, fun k => ?_⟩⟩
        · have := h .rest (bds_mem.2 (.inr (.inl ⟨rfl, p, hp, k⟩)))
          rw [er] at this; exact this
        · rcases lim_is P with ⟨_, hn⟩ | ⟨c, b, e, hab, _⟩
          · exact absurd k (hn p hp)
          · have := h (.lim c) (bds_mem.2 (.inr (.inr ⟨c, by rw [e]; simp, rfl⟩)))
            rw [el] at this
            have q := hab p hp k
            simp only at this
            omega
      · rintro ⟨ha, hp⟩ b hb
        rcases bds_mem.1 hb with rfl | ⟨rfl, p, hp', k⟩ | ⟨v, hv, rfl⟩
        · rw [em]; exact ha
        · rw [er]; exact (hp p hp').1 k
        · rw [el]
          show a ≤ v.2 - (vat O t).2
          rcases lim_is P with ⟨e, _⟩ | ⟨c, b, e, hab, ⟨p1, m1, k1, a1⟩, ⟨p2, m2, k2, a2⟩, ⟨p3, m3, k3, b1⟩, p4, m4, k4, b2⟩
          · rw [e] at hv; simp at hv
          · have q1 := (hp p2 m2).2 k2; have q3 := (hp p4 m4).2 k4
            rw [e] at hv
            simp at hv
            rcases hv with rfl | rfl <;> omega
end
/-- There is one free function. -/
theorem FreeF.unique {P P' : List Pol} {C L O f g : List Sg} {x : Int} (h : FreeF P C L O x f) (h' : FreeF P' C L O x g) (hP : ∀ p, p ∈ P ↔ p ∈ P') : f = g := by
  obtain ⟨m1, z1, v1⟩ := h; obtain ⟨m2, z2, v2⟩ := h'
  refine cf_ext (mayB_iff.1 m1) (mayB_iff.1 m2) fun t => ?_
  show vat f t = vat g t
  by_cases c : t < x
  · rw [z1 t c, z2 t c]
  · have w1 := v1 t (by omega); have w2 := v2 t (by omega)
    have s1 : ∀ a, FreeAt1 P C L O t a ↔ FreeAt1 P' C L O t a := fun a => by unfold FreeAt1; simp only [hP]
    have s2 : ∀ a, FreeAt2 P C L O t a ↔ FreeAt2 P' C L O t a := fun a => by unfold FreeAt2; simp only [hP]
    have e1 : ∀ a, a ≤ (vat f t).1 ↔ a ≤ (vat g t).1 := fun a => by rw [(w1 a).1, (w2 a).1]; exact s1 a
    have e2 : ∀ a, a ≤ (vat f t).2 ↔ a ≤ (vat g t).2 := fun a => by rw [(w1 a).2, (w2 a).2]; exact s2 a
    have x1 := (e1 _).1 (Int.le_refl _); have x2 := (e1 _).2 (Int.le_refl _); have y1 := (e2 _).1 (Int.le_refl _); have y2 := (e2 _).2 (Int.le_refl _)
    exact Prod.ext (by omega) (by omega)
theorem FreeOk.congr {P P' : List Pol} {C L O : List Sg} {x : Int} (hP : ∀ p, p ∈ P ↔ p ∈ P') : FreeOk P C L O x ↔ FreeOk P' C L O x := by unfold FreeOk; simp only [hP]
/-- The answer hangs on which policies there are alone. -/
theorem FreeIs.unique {P P' : List Pol} {C L O f g : List Sg} {x e e' : Int} (h : FreeIs P C L O x f e) (h' : FreeIs P' C L O x g e') (hP : ∀ p, p ∈ P ↔ p ∈ P') : f = g ∧ e = e' := by
  have ho := FreeOk.congr (C := C) (L := L) (O := O) (x := x) hP
  rcases h with ⟨a, rfl, rfl⟩ | ⟨a, ⟨⟨p, hp, hk⟩, rfl, rfl⟩ | ⟨hk, ⟨b, rfl, rfl⟩ | ⟨b, ⟨c, rfl, rfl⟩ | ⟨c, rfl, d⟩⟩⟩⟩ <;>
  rcases h' with ⟨a', rfl, rfl⟩ | ⟨a', ⟨⟨p', hp', hk'⟩, rfl, rfl⟩ | ⟨hk', ⟨b', rfl, rfl⟩ | ⟨b', ⟨c', rfl, rfl⟩ | ⟨c', rfl, d'⟩⟩⟩⟩
  all_goals first
    | exact ⟨rfl, rfl⟩
    | (rw [a] at a'; cases a'; done)
    | (rw [b] at b'; cases b'; done)
    | (exfalso; have := hk' p ((hP p).1 hp); omega)
    | (exfalso; have := hk p' ((hP p').2 hp'); omega)
    | exact absurd (ho.2 c') c
    | exact absurd (ho.1 c) c'
    | exact ⟨d.unique d' hP, rfl⟩
/-- More to keep frees no more. -/
theorem free_less {P P' : List Pol} {C L O C' L' f g : List Sg} {x : Int} (h : FreeF P C L O x f) (h' : FreeF P' C' L' O x g) (hP : ∀ p ∈ P, p ∈ P') (hC : ∀ t, leB (vat C' t).1 (vat C' t).2 (vat C t).1 (vat C t).2 = true) (hL : ∀ t, leB (vat L t).1 (vat L t).2 (vat L' t).1 (vat L' t).2 = true) (t : Int) :
    leB (vat g t).1 (vat g t).2 (vat f t).1 (vat f t).2 = true := by
  obtain ⟨_, z1, v1⟩ := h; obtain ⟨_, z2, v2⟩ := h'
  by_cases c : t < x
  · rw [z1 t c, z2 t c]; decide
  · have w1 := v1 t (by omega); have w2 := v2 t (by omega)
    obtain ⟨a1, b1⟩ := ((w2 (vat g t).1).1).1 (Int.le_refl _)
    obtain ⟨a2, b2⟩ := ((w2 (vat g t).2).2).1 (Int.le_refl _)
    have hc := leB_iff.1 (hC t); have hl := leB_iff.1 (hL t)
    refine leB_iff.2 ⟨((w1 _).1).2 ⟨a1, fun p hp => ⟨fun k => ?_, fun k => ?_⟩⟩, ((w1 _).2).2 ⟨a2, fun p hp => ⟨fun k => ?_, fun k => ?_⟩⟩⟩
    · have := (b1 p (hP p hp)).1 k; omega
    · exact (b1 p (hP p hp)).2 k
    · have := (b2 p (hP p hp)).1 k; omega
    · exact (b2 p (hP p hp)).2 k
end Go.Proofs.Ytgflbidagdcfmaa

namespace Go.Proofs.Ytgflbidagdcfmaa

/-- What stands against looking at a window. -/
def fitE (F : List Sg) (x d : Int) (v : Int × Int) : Int := if mayB F = false then 5 else if d < 1 ∨ 4096 < d then 2 else if nowB x = false ∨ okV v.1 v.2 = false then 10 else 0
theorem fitE_form {F : List Sg} {x d : Int} {v : Int × Int} (h : mayB F = false) : fitE F x d v = 5 := by unfold fitE; rw [if_pos h]
theorem fitE_arg {F : List Sg} {x d : Int} {v : Int × Int} (h : mayB F = true) (h2 : d < 1 ∨ 4096 < d) : fitE F x d v = 2 := by unfold fitE; rw [h, if_neg (by decide), if_pos h2]
theorem fitE_range {F : List Sg} {x d : Int} {v : Int × Int} (h : mayB F = true) (h2 : 1 ≤ d ∧ d ≤ 4096) (h3 : nowB x = false ∨ okV v.1 v.2 = false) : fitE F x d v = 10 := by unfold fitE; rw [h, if_neg (by decide), if_neg (by omega), if_pos h3]
theorem fitE_ok {F : List Sg} {x d : Int} {v : Int × Int} (h : mayB F = true) (h2 : 1 ≤ d ∧ d ≤ 4096) (h3 : nowB x = true) (h4 : okV v.1 v.2 = true) : fitE F x d v = 0 := by
  unfold fitE; rw [h, if_neg (by decide), if_neg (by omega), h3, h4, if_neg (by decide)]
theorem fitE_zero {F : List Sg} {x d : Int} {v : Int × Int} (h : fitE F x d v = 0) : mayB F = true ∧ (1 ≤ d ∧ d ≤ 4096) ∧ nowB x = true ∧ okV v.1 v.2 = true := by
  unfold fitE at h
  cases h1 : mayB F
  · rw [h1, if_pos rfl] at h; cases h
  · rw [h1, if_neg (by decide)] at h
    by_cases h2 : d < 1 ∨ 4096 < d
    · rw [if_pos h2] at h; cases h
    · rw [if_neg h2] at h
      by_cases h3 : nowB x = false ∨ okV v.1 v.2 = false
      · rw [if_pos h3] at h; cases h
      · refine ⟨rfl, by omega, ?_, ?_⟩
        · cases h4 : nowB x
          · exact absurd (.inl h4) h3
          · rfl
        · cases h4 : okV v.1 v.2
          · exact absurd (.inr h4) h3
          · rfl
/-- Whether it fits, and the error. -/
def fitB (F : List Sg) (x d : Int) (v : Int × Int) : Bool := leB v.1 v.2 (lowN F x d.toNat).1 (lowN F x d.toNat).2
def fitsS (F : List Sg) (x d : Int) (v : Int × Int) : Bool × Int := if fitE F x d v = 0 then (fitB F x d v, 0) else (false, fitE F x d v)
def mostS (F : List Sg) (x d : Int) (u : Int × Int) : Int × Int :=
  if fitE F x d u = 5 then (0, 5) else if u.1 < 1 ∨ u.2 < 1 then (0, 2) else if fitE F x d u = 0 then ((unS (lowN F x d.toNat).1 (lowN F x d.toNat).2 u.1 u.2).1, 0) else (0, fitE F x d u)
theorem badW_win {F : List Sg} {x d : Int} {v : Int × Int} (h : fitE F x d v = 0) : badW F x (x + d) = 0 := by
  obtain ⟨h1, h2, h3, _⟩ := fitE_zero h
  have := nowB_iff.1 h3
  exact badW_ok h1 (wndB_iff.2 (by omega))
theorem low_win {F : List Sg} {x d : Int} {v : Int × Int} (h : fitE F x d v = 0) : lowS F x (x + d) = ((lowN F x d.toNat).1, (lowN F x d.toNat).2, 0) := by
  rw [lowS_ok (badW_win h)]
  have : x + d - x = d := by omega
  rw [this]
/-- It fits just where it fits at each time. -/
theorem fitB_iff {F : List Sg} {x d : Int} (hd : 1 ≤ d) {v : Int × Int} : fitB F x d v = true ↔ ∀ t, x ≤ t → t < x + d → v.1 ≤ (vat F t).1 ∧ v.2 ≤ (vat F t).2 := by
  unfold fitB
  rw [leB_iff]
  obtain ⟨⟨i, hi, e1⟩, j, hj, e2⟩ := lowN_met (F := F) (x := x) d.toNat (by omega)
  constructor
  · rintro ⟨h1, h2⟩ t ht htd
    have := lowN_le (F := F) (x := x) d.toNat (i := (t - x).toNat) (by omega)
    have e : x + (((t - x).toNat : Nat) : Int) = t := by omega
    rw [e] at this
    omega
  · intro h
    have h1 := h (x + i) (by omega) (by omega)
    have h2 := h (x + j) (by omega) (by omega)
    omega
/-- Between two times of a list nothing changes that changes at its times alone. -/
theorem near_time {ts : List Int} {x t : Int} (hx : x ∈ ts) (ht : x ≤ t) : ∃ s ∈ ts, x ≤ s ∧ s ≤ t ∧ ∀ F : List Sg, (∀ y ∈ F, y.1 ∈ ts) → vat F t = vat F s := by
  rcases lastT (t := t) ts with h | ⟨s, hs, h1, h2⟩
  · have := h x hx; omega
  · exact ⟨s, hs, h2 x hx ht, h1, fun F hF => (vat_same (l := F) (s := s) (t := t) (fun y hy => ⟨fun h => by omega, fun h => h2 y.1 (hF y hy) h⟩)).symm⟩
/-- The times that are looked at. -/
def winT (F : List Sg) (x : Int) : List Int := x :: F.map (·.1)
def inW (x d t : Int) : Bool := decide (x ≤ t) && decide (t < x + d)
theorem inW_iff {x d t : Int} : inW x d t = true ↔ x ≤ t ∧ t < x + d := by unfold inW; simp
theorem inW_not {x d t : Int} : inW x d t = false ↔ t < x ∨ x + d ≤ t := by
  rw [← Bool.not_eq_true, inW_iff]; omega
def intoB (F : List Sg) (x d : Int) (v : Int × Int) : Bool := (winT F x).all fun t => !(inW x d t) || leB v.1 v.2 (vat F t).1 (vat F t).2
theorem into_is {F : List Sg} {x d : Int} {v : Int × Int} (hd : 1 ≤ d) : intoB F x d v = fitB F x d v := by
  rw [Bool.eq_iff_iff, fitB_iff hd]
  unfold intoB
  rw [List.all_eq_true]
  constructor
  · intro h t ht htd
    obtain ⟨s, hs, s1, s2, hv⟩ := near_time (ts := winT F x) (x := x) (t := t) (by simp [winT]) ht
    have := h s hs
    rw [inW_iff.2 ⟨s1, by omega⟩] at this
    simp only [Bool.not_true, Bool.false_or, leB_iff] at this
    rw [hv F (fun y hy => List.mem_cons_of_mem _ (List.mem_map.2 ⟨y, hy, rfl⟩))]
    exact this
  · intro h t ht
    cases hw : inW x d t
    · rfl
    · have := inW_iff.1 hw
      simp only [Bool.not_true, Bool.false_or, leB_iff]
      exact h t this.1 this.2
theorem into_no {F : List Sg} {x d : Int} {v : Int × Int} {i : Nat} (hi : i < (winT F x).length) (hw : inW x d ((winT F x).getD i 0) = true) (hb : leB v.1 v.2 (vat F ((winT F x).getD i 0)).1 (vat F ((winT F x).getD i 0)).2 = false) : intoB F x d v = false := by
  unfold intoB
  rw [List.all_eq_false]
  refine ⟨_, List.getElem_mem hi, ?_⟩
  rw [getD_get _ _ _ hi] at hw hb
  rw [hw, hb]; decide
theorem into_yes {F : List Sg} {x d : Int} {v : Int × Int} (h : ∀ i, i < (winT F x).length → inW x d ((winT F x).getD i 0) = false ∨ leB v.1 v.2 (vat F ((winT F x).getD i 0)).1 (vat F ((winT F x).getD i 0)).2 = true) : intoB F x d v = true := by
  unfold intoB
  rw [List.all_eq_true]
  intro t ht
  obtain ⟨i, hi, rfl⟩ := List.getElem_of_mem ht
  have := h i hi
  rw [getD_get _ _ _ hi] at this
  rcases this with h | h <;> rw [h] <;> simp
/-- How many units a vector holds. -/
theorem un_pos {a b c d : Int} (hc : 1 ≤ c) (hd : 1 ≤ d) (ha : okV a b = true) (hu : okV c d = true) : 0 ≤ (unS a b c d).1 ∧ ∀ n, 1 ≤ n → (n ≤ (unS a b c d).1 ↔ n * c ≤ a ∧ n * d ≤ b) := by
  unfold unS
  rw [if_neg (by omega), ha, hu, if_neg (by decide)]
  by_cases h : a < 0 ∨ b < 0
  · rw [if_pos h]
    refine ⟨Int.le_refl _, fun n hn => ⟨fun k => by simp only at k; omega, fun ⟨k1, k2⟩ => ?_⟩⟩
    have p1 : 1 * 1 ≤ n * c := Int.mul_le_mul hn hc (by omega) (by omega)
    have p2 : 1 * 1 ≤ n * d := Int.mul_le_mul hn hd (by omega) (by omega)
    omega
  · rw [if_neg h, mn_min]
    have q1 := Int.ediv_nonneg (show 0 ≤ a by omega) (show 0 ≤ c by omega)
    have q2 := Int.ediv_nonneg (show 0 ≤ b by omega) (show 0 ≤ d by omega)
    refine ⟨by simp only; omega, fun n hn => ?_⟩
    have r1 := Int.le_ediv_iff_mul_le (show 0 < c by omega) (a := n) (b := a)
    have r2 := Int.le_ediv_iff_mul_le (show 0 < d by omega) (a := n) (b := b)
    simp only
    rw [← r1, ← r2]
    omega
/-- The least number of units over the times that are looked at. -/
def lsT (F : List Sg) (x d : Int) (u : Int × Int) (acc t : Int) : Int :=
  if inW x d t = false then acc else if acc < 0 ∨ (unS (vat F t).1 (vat F t).2 u.1 u.2).1 < acc then (unS (vat F t).1 (vat F t).2 u.1 u.2).1 else acc
def lsS (F : List Sg) (x d : Int) (u : Int × Int) (l : List Int) : Int := l.foldl (lsT F x d u) (-1)
theorem lsS_step {F : List Sg} {x d : Int} {u : Int × Int} {l : List Int} {k : Nat} (h : k < l.length) : lsS F x d u (l.take (k + 1)) = lsT F x d u (lsS F x d u (l.take k)) (l.getD k 0) := by
  unfold lsS
  rw [List.take_succ_eq_append_getElem h, List.foldl_append, getD_get _ _ _ h]
  rfl
theorem ls_aux {F : List Sg} {x d : Int} {u : Int × Int} (hF : mayB F = true) (hu1 : 1 ≤ u.1) (hu2 : 1 ≤ u.2) (hu : okV u.1 u.2 = true) : ∀ (l : List Int) (acc : Int), -1 ≤ acc →
    -1 ≤ l.foldl (lsT F x d u) acc ∧ ((acc = -1 → ∃ t ∈ l, inW x d t = true) → 0 ≤ l.foldl (lsT F x d u) acc) ∧ ∀ n, 1 ≤ n → (acc = -1 → ∃ t ∈ l, inW x d t = true) → (n ≤ l.foldl (lsT F x d u) acc ↔ (acc = -1 ∨ n ≤ acc) ∧ ∀ t ∈ l, inW x d t = true → n ≤ (unS (vat F t).1 (vat F t).2 u.1 u.2).1)
  | [], acc, h => ⟨h, fun hh => by
      have : acc ≠ -1 := fun e => by obtain ⟨t, ht, _⟩ := hh e; simp at ht
      simp; omega, fun n hn hh => by
      have : acc ≠ -1 := fun e => by obtain ⟨t, ht, _⟩ := hh e; simp at ht
      simp [this]⟩
  | t :: r, acc, h => by
    obtain ⟨hN, _⟩ := un_pos hu1 hu2 (may_okF hF t) hu
    rw [List.foldl_cons]
    cases hw : inW x d t
    · have e : lsT F x d u acc t = acc := by unfold lsT; rw [hw, if_pos rfl]
      rw [e]
      obtain ⟨a1, a2, a3⟩ := ls_aux (x := x) (d := d) hF hu1 hu2 hu r acc h
      have hh : (acc = -1 → ∃ s ∈ t :: r, inW x d s = true) → (acc = -1 → ∃ s ∈ r, inW x d s = true) := fun q e => by
        obtain ⟨s, hs, hb⟩ := q e
        rcases List.mem_cons.1 hs with rfl | hs
        · rw [hw] at hb; cases hb
        · exact ⟨s, hs, hb⟩
      refine ⟨a1, fun q => a2 (hh q), fun n hn q => ?_⟩
      rw [a3 n hn (hh q)]
      constructor
      · rintro ⟨b1, b2⟩
        refine ⟨b1, fun s hs hb => ?_⟩
        rcases List.mem_cons.1 hs with rfl | hs
        · rw [hw] at hb; cases hb
        · exact b2 s hs hb
      · rintro ⟨b1, b2⟩
        exact ⟨b1, fun s hs hb => b2 s (List.mem_cons_of_mem _ hs) hb⟩
    · have e : ∃ m, lsT F x d u acc t = m ∧ 0 ≤ m ∧ ∀ n, 1 ≤ n → (n ≤ m ↔ (acc = -1 ∨ n ≤ acc) ∧ n ≤ (unS (vat F t).1 (vat F t).2 u.1 u.2).1) := by
        refine ⟨_, rfl, ?_⟩
        unfold lsT
        rw [hw, if_neg (by decide)]
        by_cases c : acc < 0 ∨ (unS (vat F t).1 (vat F t).2 u.1 u.2).1 < acc
        · rw [if_pos c]
          exact ⟨hN, fun n hn => by omega⟩
        · rw [if_neg c]
          exact ⟨by omega, fun n hn => by omega⟩
      obtain ⟨m, em, m0, hm⟩ := e
      rw [em]
      obtain ⟨a1, a2, a3⟩ := ls_aux (x := x) (d := d) hF hu1 hu2 hu r m (by omega)
      have hh : m = -1 → ∃ s ∈ r, inW x d s = true := fun e => by omega
      refine ⟨a1, fun _ => a2 hh, fun n hn _ => ?_⟩
      rw [a3 n hn hh]
      have := hm n hn
      constructor
      · rintro ⟨b1, b2⟩
        have b1' : n ≤ m := by omega
        refine ⟨(this.1 b1').1, fun s hs hb => ?_⟩
        rcases List.mem_cons.1 hs with rfl | hs
        · exact (this.1 b1').2
        · exact b2 s hs hb
      · rintro ⟨b1, b2⟩
        exact ⟨.inr (this.2 ⟨b1, b2 t (by simp) hw⟩), fun s hs hb => b2 s (List.mem_cons_of_mem _ hs) hb⟩
theorem low_okV {F : List Sg} (hF : mayB F = true) (x : Int) {n : Nat} (hn : 0 < n) : okV (lowN F x n).1 (lowN F x n).2 = true := by
  obtain ⟨⟨i, _, e1⟩, j, _, e2⟩ := lowN_met (F := F) (x := x) n hn
  have h1 := okV_iff.1 (may_okF hF (x + i)); have h2 := okV_iff.1 (may_okF hF (x + j))
  exact okV_iff.2 (by omega)
/-- As many units as in the low. -/
theorem ls_is {F : List Sg} {x d : Int} {u : Int × Int} (hF : mayB F = true) (hd : 1 ≤ d) (hu1 : 1 ≤ u.1) (hu2 : 1 ≤ u.2) (hu : okV u.1 u.2 = true) : lsS F x d u (winT F x) = (unS (lowN F x d.toNat).1 (lowN F x d.toNat).2 u.1 u.2).1 := by
  obtain ⟨hN, hNn⟩ := un_pos hu1 hu2 (low_okV hF x (n := d.toNat) (by omega)) hu
  obtain ⟨a1, a2, a3⟩ := ls_aux (x := x) (d := d) hF hu1 hu2 hu (winT F x) (-1) (by omega)
  have hx : ∃ t ∈ winT F x, inW x d t = true := ⟨x, by simp [winT], inW_iff.2 (by omega)⟩
  have a2 := a2 fun _ => hx
  change 0 ≤ lsS F x d u (winT F x) at a2
  have key : ∀ n, 1 ≤ n → (n ≤ lsS F x d u (winT F x) ↔ n ≤ (unS (lowN F x d.toNat).1 (lowN F x d.toNat).2 u.1 u.2).1) := fun n hn => by
    unfold lsS
    rw [a3 n hn (fun _ => hx), hNn n hn]
    have hfit := into_is (F := F) (x := x) (v := (n * u.1, n * u.2)) hd
    have e1 : fitB F x d (n * u.1, n * u.2) = true ↔ n * u.1 ≤ (lowN F x d.toNat).1 ∧ n * u.2 ≤ (lowN F x d.toNat).2 := by unfold fitB; rw [leB_iff]
    rw [← e1, ← hfit]
    unfold intoB
    rw [List.all_eq_true]
    constructor
    · rintro ⟨_, h⟩ t ht
      cases hw : inW x d t
      · rfl
      · have := ((un_pos hu1 hu2 (may_okF hF t) hu).2 n hn).1 (h t ht hw)
        simp only [Bool.not_true, Bool.false_or, leB_iff]
        exact this
    · intro h
      refine ⟨.inl rfl, fun t ht hw => ?_⟩
      have := h t ht
      rw [hw] at this
      simp only [Bool.not_true, Bool.false_or, leB_iff] at this
      exact ((un_pos hu1 hu2 (may_okF hF t) hu).2 n hn).2 this
  have k1 := key (lsS F x d u (winT F x)); have k2 := key (unS (lowN F x d.toNat).1 (lowN F x d.toNat).2 u.1 u.2).1
  by_cases c1 : 1 ≤ lsS F x d u (winT F x)
  · have := (k1 c1).1 (Int.le_refl _)
    have := (k2 (by omega)).2 (Int.le_refl _)
    omega
  · by_cases c2 : 1 ≤ (unS (lowN F x d.toNat).1 (lowN F x d.toNat).2 u.1 u.2).1
    · have := (k2 c2).2 (Int.le_refl _)
      omega
    · omega
/-- What is kept with more load. -/
def keepP (C A B : List Sg) (t : Int) (p : Pol) : Bool := (!(p.1 == 0) || leB (vat A t).1 (vat A t).2 (vat C t).1 (vat C t).2) && (!(p.1 == 1) || leB (vat B t).1 (vat B t).2 p.2.1.1 p.2.1.2)
def keepsB (P : List Pol) (C A B : List Sg) (x d : Int) (ts : List Int) : Bool := ts.all fun t => !(inW x d t) || P.all (keepP C A B t)
def timesK (C A B : List Sg) (x : Int) : List Int := ((x :: A.map (·.1)) ++ B.map (·.1)) ++ C.map (·.1)
/-- What fits can be used, and nothing else. -/
theorem used_is {P : List Pol} {C L O A B f : List Sg} {x x0 d : Int} {v : Int × Int} (h : FreeF P C L O x0 f) (hx : x0 ≤ x) (hd : 1 ≤ d) (hv : okV v.1 v.2 = true)
    (hA : ∀ t, (vat A t).1 = (vat L t).1 + (if x ≤ t ∧ t < x + d then v.1 else 0) ∧ (vat A t).2 = (vat L t).2 + (if x ≤ t ∧ t < x + d then v.2 else 0))
    (hB : ∀ t, (vat B t).1 = (vat O t).1 + (if x ≤ t ∧ t < x + d then v.1 else 0) ∧ (vat B t).2 = (vat O t).2 + (if x ≤ t ∧ t < x + d then v.2 else 0)) :
    keepsB P C A B x d (timesK C A B x) = fitB f x d v := by
  have ov := okV_iff.1 hv
  have one : ∀ t, x ≤ t → t < x + d → (P.all (keepP C A B t) = true ↔ v.1 ≤ (vat f t).1 ∧ v.2 ≤ (vat f t).2) := fun t h1 h2 => by
    obtain ⟨_, _, hf⟩ := h
    have w := hf t (by omega)
    rw [(w v.1).1, (w v.2).2, List.all_eq_true]
    have a := hA t; have b := hB t
    rw [if_pos ⟨h1, h2⟩, if_pos ⟨h1, h2⟩] at a b
    constructor
    · intro k
      refine ⟨⟨ov.2.1, fun p hp => ⟨fun z => ?_, fun z => ?_⟩⟩, ov.2.2.2, fun p hp => ⟨fun z => ?_, fun z => ?_⟩⟩
      all_goals
        have k' := k p hp
        unfold keepP at k'
        rw [z] at k'
        simp [leB_iff] at k'
        omega
    · rintro ⟨⟨_, k1⟩, _, k2⟩ p hp
      have q1 := k1 p hp; have q2 := k2 p hp
      unfold keepP
      by_cases z0 : p.1 = 0
      · have r1 := q1.1 z0; have r2 := q2.1 z0
        simp [z0, leB_iff]; omega
      · by_cases z1 : p.1 = 1
        · have r1 := q1.2 z1; have r2 := q2.2 z1
          simp [z1, leB_iff]; omega
        · simp [z0, z1]
  rw [Bool.eq_iff_iff, fitB_iff hd]
  unfold keepsB
  rw [List.all_eq_true]
  constructor
  · intro k t h1 h2
    obtain ⟨s, hs, s1, s2, hv'⟩ := near_time (ts := timesK C A B x) (x := x) (t := t) (by simp [timesK]) h1
    have k' := k s hs
    rw [inW_iff.2 ⟨s1, by omega⟩] at k'
    simp only [Bool.not_true, Bool.false_or] at k'
    refine (one t h1 h2).1 ?_
    have e : P.all (keepP C A B t) = P.all (keepP C A B s) := by
      congr 1
      funext p
      unfold keepP
      rw [hv' A (fun y hy => List.mem_append_left _ (List.mem_append_left _ (List.mem_cons_of_mem _ (List.mem_map.2 ⟨y, hy, rfl⟩)))), hv' B (fun y hy => List.mem_append_left _ (List.mem_append_right _ (List.mem_map.2 ⟨y, hy, rfl⟩))), hv' C (fun y hy => List.mem_append_right _ (List.mem_map.2 ⟨y, hy, rfl⟩))]
    rw [e]; exact k'
  · intro k t _
    cases hw : inW x d t
    · rfl
    · have := inW_iff.1 hw
      simp only [Bool.not_true, Bool.false_or]
      exact (one t this.1 this.2).2 (k t this.1 this.2)
end Go.Proofs.Ytgflbidagdcfmaa

namespace Go.Proofs.Ytgflbidagdcfmaa

abbrev Wn := Int × Int
/-- A time lies in one of the windows. -/
def memW (t : Int) (L : List Wn) : Prop := ∃ x ∈ L, x.1 ≤ t ∧ t < x.2
/-- Windows that rise and do not touch each other. -/
def CW (L : List Wn) : Prop := (∀ x ∈ L, x.1 < x.2) ∧ L.Pairwise fun a b => a.2 < b.1
theorem memW_nil {t : Int} : ¬ memW t [] := fun ⟨x, h, _⟩ => by simp at h
theorem memW_cons {t : Int} {x : Wn} {r : List Wn} : memW t (x :: r) ↔ (x.1 ≤ t ∧ t < x.2) ∨ memW t r := by
  unfold memW; simp
theorem memW_app {t : Int} {A B : List Wn} : memW t (A ++ B) ↔ memW t A ∨ memW t B := by
  unfold memW
  constructor
  · rintro ⟨x, hx, h⟩
    rcases List.mem_append.1 hx with q | q
    · exact .inl ⟨x, q, h⟩
    · exact .inr ⟨x, q, h⟩
  · rintro (⟨x, q, h⟩ | ⟨x, q, h⟩)
    · exact ⟨x, List.mem_append.2 (.inl q), h⟩
    · exact ⟨x, List.mem_append.2 (.inr q), h⟩
theorem CW.nil : CW [] := ⟨fun x h => by simp at h, List.Pairwise.nil⟩
theorem CW.cons {x : Wn} {r : List Wn} : CW (x :: r) ↔ x.1 < x.2 ∧ (∀ y ∈ r, x.2 < y.1) ∧ CW r := by
  unfold CW
  rw [List.pairwise_cons]
  simp only [List.mem_cons, forall_eq_or_imp]
  constructor
  · rintro ⟨⟨h1, h2⟩, h3, h4⟩; exact ⟨h1, h3, h2, h4⟩
  · rintro ⟨h1, h3, h2, h4⟩; exact ⟨⟨h1, h2⟩, h3, h4⟩
theorem CW.app {A B : List Wn} : CW (A ++ B) ↔ CW A ∧ CW B ∧ ∀ x ∈ A, ∀ y ∈ B, x.2 < y.1 := by
  unfold CW
  rw [List.pairwise_append]
  simp only [List.mem_append]
  constructor
  · rintro ⟨h1, h2, h3, h4⟩; exact ⟨⟨fun x h => h1 x (.inl h), h2⟩, ⟨fun x h => h1 x (.inr h), h3⟩, h4⟩
  · rintro ⟨⟨h1, h2⟩, ⟨h3, h4⟩, h5⟩; exact ⟨fun x h => h.elim (h1 x) (h3 x), h2, h4, h5⟩
theorem CW.apart : ∀ {L : List Wn}, CW L → ∀ {y z : Wn}, y ∈ L → z ∈ L → y = z ∨ y.2 < z.1 ∨ z.2 < y.1
  | [], _, y, z, hy, _ => by simp at hy
  | x :: r, h, y, z, hy, hz => by
    obtain ⟨_, h2, h3⟩ := CW.cons.1 h
    rcases List.mem_cons.1 hy with e1 | k1
    · rcases List.mem_cons.1 hz with e2 | k2
      · exact .inl (e1.trans e2.symm)
      · rw [e1]; exact .inr (.inl (h2 _ k2))
    · rcases List.mem_cons.1 hz with e2 | k2
      · rw [e2]; exact .inr (.inr (h2 _ k1))
      · exact h3.apart k1 k2
/-- Rows of the same times are the same row. -/
theorem CW.unique : ∀ {L M : List Wn}, CW L → CW M → (∀ t, memW t L ↔ memW t M) → L = M
  | [], [], _, _, _ => rfl
  | [], y :: s, _, hM, h => by
    have := (h y.1).2 (memW_cons.2 (.inl ⟨Int.le_refl _, (CW.cons.1 hM).1⟩))
    exact (memW_nil this).elim
  | x :: r, [], hL, _, h => by
    have := (h x.1).1 (memW_cons.2 (.inl ⟨Int.le_refl _, (CW.cons.1 hL).1⟩))
    exact (memW_nil this).elim
  | x :: r, y :: s, hL, hM, h => by
    obtain ⟨a1, a2, a3⟩ := CW.cons.1 hL
    obtain ⟨b1, b2, b3⟩ := CW.cons.1 hM
    have hlo : ∀ {u : Wn} {l : List Wn}, (∀ z ∈ l, u.2 < z.1) → ∀ t, memW t l → u.2 < t := fun hu t ⟨z, hz, h1, _⟩ => by have := hu z hz; omega
    have e1 : x.1 = y.1 := by
      have p := (h x.1).1 (memW_cons.2 (.inl ⟨Int.le_refl _, a1⟩))
      have q := (h y.1).2 (memW_cons.2 (.inl ⟨Int.le_refl _, b1⟩))
      have p' : y.1 ≤ x.1 := by
        rcases memW_cons.1 p with ⟨p, _⟩ | p
        · exact p
        · have := hlo b2 _ p; omega
      have q' : x.1 ≤ y.1 := by
        rcases memW_cons.1 q with ⟨q, _⟩ | q
        · exact q
        · have := hlo a2 _ q; omega
      omega
    have e2 : x.2 = y.2 := by
      rcases Int.lt_trichotomy x.2 y.2 with c | c | c
      · have q := (h x.2).2 (memW_cons.2 (.inl ⟨by omega, c⟩))
        rcases memW_cons.1 q with ⟨_, q⟩ | q
        · omega
        · have := hlo a2 _ q; omega
      · exact c
      · have q := (h y.2).1 (memW_cons.2 (.inl ⟨by omega, c⟩))
        rcases memW_cons.1 q with ⟨_, q⟩ | q
        · omega
        · have := hlo b2 _ q; omega
    have ex : x = y := Prod.ext e1 e2
    subst ex
    rw [CW.unique a3 b3 fun t => ?_]
    constructor
    · intro q
      have := hlo a2 _ q
      rcases memW_cons.1 ((h t).1 (memW_cons.2 (.inr q))) with ⟨_, k⟩ | k
      · omega
      · exact k
    · intro q
      have := hlo b2 _ q
      rcases memW_cons.1 ((h t).2 (memW_cons.2 (.inr q))) with ⟨_, k⟩ | k
      · omega
      · exact k
/-- Where all times of a row are among another's, each window lies in one. -/
theorem CW.cover {L M : List Wn} (hL : CW L) (hM : CW M) (h : ∀ t, memW t L → memW t M) {x : Wn} (hx : x ∈ L) : ∃ y ∈ M, y.1 ≤ x.1 ∧ x.2 ≤ y.2 := by
  have hx1 := hL.1 x hx
  obtain ⟨y, hy, h1, h2⟩ := h x.1 ⟨x, hx, Int.le_refl _, hx1⟩
  refine ⟨y, hy, h1, ?_⟩
  apply Int.not_lt.1
  intro hc
  obtain ⟨z, hz, k1, k2⟩ := h y.2 ⟨x, hx, by omega, hc⟩
  have := hM.1 y hy
  rcases hM.apart hy hz with rfl | q | q <;> omega

/-- One gap is taken out of a row: what is kept ahead of it, and the rest behind it. -/
def cutW (g : Wn) : List Wn → List Wn × List Wn
  | [] => ([], [])
  | x :: r => if x.1 < g.2 then (if x.2 ≤ g.2 then ((if x.1 < g.1 then [(x.1, min x.2 g.1)] else []) ++ (cutW g r).1, (cutW g r).2) else ((if x.1 < g.1 then [(x.1, min x.2 g.1)] else []), (g.2, x.2) :: r)) else ([], x :: r)
theorem cutW_stop {g x : Wn} {r : List Wn} (h : ¬ x.1 < g.2) : cutW g (x :: r) = ([], x :: r) := by
  show (if _ then _ else _) = _
  rw [if_neg h]
theorem cutW_pass {g x : Wn} {r : List Wn} (h : x.1 < g.2) (h2 : x.2 ≤ g.2) : cutW g (x :: r) = ((if x.1 < g.1 then [(x.1, min x.2 g.1)] else []) ++ (cutW g r).1, (cutW g r).2) := by
  show (if _ then _ else _) = _
  rw [if_pos h, if_pos h2]
theorem cutW_part {g x : Wn} {r : List Wn} (h : x.1 < g.2) (h2 : ¬ x.2 ≤ g.2) : cutW g (x :: r) = ((if x.1 < g.1 then [(x.1, min x.2 g.1)] else []), (g.2, x.2) :: r) := by
  show (if _ then _ else _) = _
  rw [if_pos h, if_neg h2]
/-- What is kept of one window. -/
theorem kept_one {g x : Wn} (hx : x.1 < x.2) : CW (if x.1 < g.1 then [(x.1, min x.2 g.1)] else []) ∧ (∀ t, memW t (if x.1 < g.1 then [(x.1, min x.2 g.1)] else []) ↔ x.1 ≤ t ∧ t < x.2 ∧ t < g.1) ∧
    ∀ y ∈ (if x.1 < g.1 then [(x.1, min x.2 g.1)] else []), y.2 ≤ g.1 ∧ y.2 ≤ x.2 ∧ x.1 ≤ y.1 := by
  by_cases h : x.1 < g.1
  · rw [if_pos h]
    have hm : x.1 < min x.2 g.1 := Int.lt_min.2 ⟨hx, h⟩
    refine ⟨CW.cons.2 ⟨hm, fun y hy => by simp at hy, CW.nil⟩, fun t => ?_, fun y hy => ?_⟩
    · rw [memW_cons]
      constructor
      · rintro (⟨p, q⟩ | q)
        · have := Int.lt_min.1 q; exact ⟨p, this.1, this.2⟩
        · exact (memW_nil q).elim
      · rintro ⟨p, q, r⟩; exact .inl ⟨p, Int.lt_min.2 ⟨q, r⟩⟩
    · rw [List.mem_singleton.1 hy]
      exact ⟨Int.min_le_right _ _, Int.min_le_left _ _, Int.le_refl _⟩
  · rw [if_neg h]
    exact ⟨CW.nil, fun t => ⟨fun q => (memW_nil q).elim, fun ⟨p, _, r⟩ => by omega⟩, fun y hy => by simp at hy⟩
theorem cutW_spec {g : Wn} (hg : g.1 < g.2) : ∀ l, CW l → CW ((cutW g l).1 ++ (cutW g l).2) ∧ (∀ t, memW t ((cutW g l).1 ++ (cutW g l).2) ↔ memW t l ∧ ¬ (g.1 ≤ t ∧ t < g.2)) ∧ (∀ x ∈ (cutW g l).1, x.2 ≤ g.1) ∧
    (∀ x ∈ (cutW g l).1 ++ (cutW g l).2, ∃ y ∈ l, y.1 ≤ x.1) ∧ (∀ x ∈ (cutW g l).2, g.2 ≤ x.1)
  | [], _ => ⟨CW.nil, fun t => ⟨fun q => (memW_nil q).elim, fun q => (memW_nil q.1).elim⟩, fun x hx => by simp [cutW] at hx, fun x hx => by simp [cutW] at hx, fun x hx => by simp [cutW] at hx⟩
  | x :: r, h => by
    obtain ⟨a1, a2, a3⟩ := CW.cons.1 h
    have hlo : ∀ t, memW t r → x.2 < t := fun t ⟨z, hz, h1, _⟩ => by have := a2 z hz; omega
    obtain ⟨k1, k2, k3⟩ := kept_one (g := g) a1
    by_cases c1 : x.1 < g.2
    · by_cases c2 : x.2 ≤ g.2
      · rw [cutW_pass c1 c2]
        obtain ⟨i1, i2, i3, i4, i5⟩ := cutW_spec hg r a3
        have hin : ∀ y ∈ (cutW g r).1 ++ (cutW g r).2, x.2 < y.1 := fun y hy => by
          obtain ⟨z, hz, q⟩ := i4 y hy
          have := a2 z hz; omega
        refine ⟨?_, fun t => ?_, fun y hy => ?_, fun y hy => ?_, i5⟩
        · rw [List.append_assoc, CW.app]
          exact ⟨k1, i1, fun u hu v hv => by have := (k3 u hu).2.1; have := hin v hv; omega⟩
        · rw [List.append_assoc, memW_app, k2, i2, memW_cons]
          constructor
          · rintro (⟨p, q, s⟩ | ⟨p, q⟩)
            · exact ⟨.inl ⟨p, q⟩, by omega⟩
            · exact ⟨.inr p, q⟩
          · rintro ⟨⟨p, q⟩ | p, s⟩
            · exact .inl ⟨p, q, by omega⟩
            · exact .inr ⟨p, s⟩
        · rcases List.mem_append.1 hy with q | q
          · exact (k3 y q).1
          · exact i3 y q
        · rw [List.append_assoc] at hy
          rcases List.mem_append.1 hy with q | q
          · exact ⟨x, List.mem_cons_self .., (k3 y q).2.2⟩
          · obtain ⟨z, hz, q⟩ := i4 y q
            exact ⟨z, List.mem_cons_of_mem _ hz, q⟩
      · rw [cutW_part c1 c2]
        refine ⟨?_, fun t => ?_, fun y hy => (k3 y hy).1, fun y hy => ?_, fun y hy => ?_⟩
        · rw [CW.app]
          refine ⟨k1, CW.cons.2 ⟨show g.2 < x.2 by omega, a2, a3⟩, fun u hu v hv => ?_⟩
          have p := k3 u hu
          rcases List.mem_cons.1 hv with rfl | q
          · show u.2 < g.2; omega
          · have := a2 v q; omega
        · rw [memW_app, k2, memW_cons, memW_cons]
          constructor
          · rintro (⟨p, q, s⟩ | ⟨p, q⟩ | p)
            · exact ⟨.inl ⟨p, q⟩, by omega⟩
            · have p' : g.2 ≤ t := p
              have q' : t < x.2 := q
              exact ⟨.inl ⟨by omega, q⟩, by omega⟩
            · have := hlo t p; exact ⟨.inr p, by omega⟩
          · rintro ⟨⟨p, q⟩ | p, s⟩
            · by_cases c : t < g.1
              · exact .inl ⟨p, q, c⟩
              · exact .inr (.inl ⟨show g.2 ≤ t by omega, q⟩)
            · exact .inr (.inr p)
        · rcases List.mem_append.1 hy with q | q
          · exact ⟨x, List.mem_cons_self .., (k3 y q).2.2⟩
          · rcases List.mem_cons.1 q with rfl | q
            · exact ⟨x, List.mem_cons_self .., show x.1 ≤ g.2 by omega⟩
            · exact ⟨y, List.mem_cons_of_mem _ q, Int.le_refl _⟩
        · rcases List.mem_cons.1 hy with rfl | q
          · exact Int.le_refl _
          · have := a2 y q; omega
    · rw [cutW_stop c1]
      refine ⟨h, fun t => ?_, fun y hy => by simp at hy, fun y hy => ⟨y, hy, Int.le_refl _⟩, fun y hy => ?_⟩
      · show memW t (x :: r) ↔ _
        refine ⟨fun p => ⟨p, ?_⟩, fun p => p.1⟩
        rcases memW_cons.1 p with ⟨p, _⟩ | p
        · omega
        · have := hlo t p; omega
      · rcases List.mem_cons.1 hy with rfl | q
        · omega
        · have := a2 y q; omega
theorem cutW_len (g : Wn) : ∀ l : List Wn, (cutW g l).2.length ≤ l.length ∧ (cutW g l).1.length + (cutW g l).2.length ≤ 2 * l.length
  | [] => ⟨Nat.le_refl _, Nat.le_refl _⟩
  | x :: r => by
    have h := cutW_len g r
    have e : (if x.1 < g.1 then [(x.1, min x.2 g.1)] else [] : List Wn).length ≤ 1 := by split <;> simp
    by_cases c1 : x.1 < g.2
    · by_cases c2 : x.2 ≤ g.2
      · rw [cutW_pass c1 c2, List.length_append, List.length_cons]; dsimp only; omega
      · rw [cutW_part c1 c2]; simp only [List.length_cons]; omega
    · rw [cutW_stop c1]; simp; omega

/-- Gap by gap. -/
def woT (st : List Wn × List Wn) (g : Wn) : List Wn × List Wn := (st.1 ++ (cutW g st.2).1, (cutW g st.2).2)
def woF (l : List Wn) (gs : List Wn) : List Wn × List Wn := gs.foldl woT ([], l)
def woL (l : List Wn) (gs : List Wn) : List Wn := (woF l gs).1 ++ (woF l gs).2
theorem woF_snoc (l gs : List Wn) (g : Wn) : woF l (gs ++ [g]) = woT (woF l gs) g := by unfold woF; rw [List.foldl_append]; rfl
theorem wo_aux : ∀ (gs K R : List Wn), CW (K ++ R) → (∀ g ∈ gs, g.1 < g.2 ∧ ∀ x ∈ K, x.2 ≤ g.1) → (gs.Pairwise fun a b => a.1 ≤ b.1) →
    CW ((gs.foldl woT (K, R)).1 ++ (gs.foldl woT (K, R)).2) ∧ ∀ t, memW t ((gs.foldl woT (K, R)).1 ++ (gs.foldl woT (K, R)).2) ↔ memW t (K ++ R) ∧ ∀ g ∈ gs, ¬ (g.1 ≤ t ∧ t < g.2)
  | [], K, R, h, _, _ => ⟨h, fun t => ⟨fun q => ⟨q, fun g hg => by simp at hg⟩, fun q => q.1⟩⟩
  | g :: gs, K, R, h, hb, hp => by
    obtain ⟨p1, p2⟩ := List.pairwise_cons.1 hp
    obtain ⟨h1, h2, h3⟩ := CW.app.1 h
    obtain ⟨hg, hK⟩ := hb g (List.mem_cons_self ..)
    obtain ⟨i1, i2, i3, i4, i5⟩ := cutW_spec hg R h2
    have hC : CW ((K ++ (cutW g R).1) ++ (cutW g R).2) := by
      rw [List.append_assoc, CW.app]
      exact ⟨h1, i1, fun x hx y hy => by obtain ⟨z, hz, q⟩ := i4 y hy; have := h3 x hx z hz; omega⟩
    obtain ⟨j1, j2⟩ := wo_aux gs (K ++ (cutW g R).1) (cutW g R).2 hC (fun g' hg' => ⟨(hb g' (List.mem_cons_of_mem _ hg')).1, fun x hx => by
      rcases List.mem_append.1 hx with q | q
      · exact (hb g' (List.mem_cons_of_mem _ hg')).2 x q
      · have := i3 x q; have := p1 g' hg'; omega⟩) p2
    refine ⟨j1, fun t => (j2 t).trans ?_⟩
    rw [List.append_assoc, memW_app (A := K), i2, memW_app (A := K)]
    constructor
    · rintro ⟨q, r⟩
      refine ⟨q.imp id (·.1), fun g' hg' => ?_⟩
      rcases List.mem_cons.1 hg' with rfl | hg'
      · rcases q with ⟨x, hx, _, q2⟩ | q
        · have := hK x hx; omega
        · exact q.2
      · exact r g' hg'
    · rintro ⟨q, r⟩
      exact ⟨q.imp id (fun q => ⟨q, r g (List.mem_cons_self ..)⟩), fun g' hg' => r g' (List.mem_cons_of_mem _ hg')⟩
theorem wo_spec {l gs : List Wn} (h : CW l) (hg : ∀ g ∈ gs, g.1 < g.2) (hp : gs.Pairwise fun a b => a.1 ≤ b.1) : CW (woL l gs) ∧ ∀ t, memW t (woL l gs) ↔ memW t l ∧ ∀ g ∈ gs, ¬ (g.1 ≤ t ∧ t < g.2) :=
  wo_aux gs [] l h (fun g q => ⟨hg g q, fun x hx => by simp at hx⟩) hp
/-- A row that rises in a window is no longer than the window. -/
theorem CW.short : ∀ {L : List Wn} {a b : Int}, CW L → (∀ x ∈ L, a ≤ x.1 ∧ x.2 ≤ b) → a ≤ b → (L.length : Int) ≤ b - a
  | [], a, b, _, _, h => by simp; omega
  | x :: r, a, b, h, hb, hab => by
    obtain ⟨a1, a2, a3⟩ := CW.cons.1 h
    have q := hb x (List.mem_cons_self ..)
    have := CW.short (a := x.2) (b := b) a3 (fun y hy => ⟨by have := a2 y hy; omega, (hb y (List.mem_cons_of_mem _ hy)).2⟩) q.2
    rw [List.length_cons]; omega
end Go.Proofs.Ytgflbidagdcfmaa

namespace Go.Proofs.Ytgflbidagdcfmaa

theorem vat_sameW {F : List Sg} {x t : Int} (h : ∀ s ∈ F, s.1 ≤ t ↔ s.1 ≤ x) : vat F t = vat F x := by
  have aux : ∀ (G : List Sg) (acc : Int × Int), (∀ s ∈ G, s.1 ≤ t ↔ s.1 ≤ x) → G.foldl (stepV t) acc = G.foldl (stepV x) acc := by
    intro G
    induction G with
    | nil => intro acc _; rfl
    | cons s r ih =>
      intro acc hG
      rw [foldl_c, foldl_c]
      have e : stepV t acc s = stepV x acc s := by
        unfold stepV
        have := hG s (List.mem_cons_self ..)
        by_cases c : s.1 ≤ x
        · rw [if_pos c, if_pos (this.2 c)]
        · rw [if_neg c, if_neg (fun k => c (this.1 k))]
      rw [e]
      exact ih _ fun y hy => hG y (List.mem_cons_of_mem _ hy)
  exact aux F _ h
/-- The runs of a function in a window; behind them one that begins where it ends. -/
def midR (F : List Sg) (a b : Int) : List Sg := F.filter fun s => decide (a < s.1) && decide (s.1 < b)
def runsR (F : List Sg) (a b : Int) : List Sg := ((a, vat F a) :: midR F a b) ++ [(b, (0, 0))]
theorem midR_mem {F : List Sg} {a b : Int} {s : Sg} : s ∈ midR F a b ↔ s ∈ F ∧ a < s.1 ∧ s.1 < b := by
  unfold midR; rw [List.mem_filter]; simp
theorem midR_len (F : List Sg) (a b : Int) : (midR F a b).length ≤ F.length := List.length_filter_le _ _
theorem runsR_len (F : List Sg) (a b : Int) : (runsR F a b).length = (midR F a b).length + 2 := by unfold runsR; simp
/-- What is said of the runs. -/
structure RunsOk (F : List Sg) (a b : Int) (r : List Sg) (n : Nat) : Prop where
  len : r.length = n + 1
  pos : 0 < n
  first : ats r 0 = a
  last : ats r n = b
  up : ∀ i j, i < j → j ≤ n → ats r i < ats r j
  val : ∀ i, i < n → ∀ t, ats r i ≤ t → t < ats r (i + 1) → vat F t = vls r i
theorem runs_ok {F : List Sg} {a b : Int} (hF : mayB F = true) (hab : a < b) : RunsOk F a b (runsR F a b) ((midR F a b).length + 1) := by
  have hC := mayB_iff.1 hF
  have hup : F.Pairwise fun x y => x.1 < y.1 := CF.up hC
  have hmu : (midR F a b).Pairwise fun x y => x.1 < y.1 := hup.filter _
  have hP : (runsR F a b).Pairwise fun x y => x.1 < y.1 := by
    unfold runsR
    rw [List.pairwise_append]
    refine ⟨List.pairwise_cons.2 ⟨fun s hs => (midR_mem.1 hs).2.1, hmu⟩, by simp, fun x hx y hy => ?_⟩
    rw [List.mem_singleton.1 hy]
    rcases List.mem_cons.1 hx with rfl | hx
    · exact hab
    · exact (midR_mem.1 hx).2.2
  have hlen := runsR_len F a b
  have hup2 : ∀ i j, i < j → j ≤ (midR F a b).length + 1 → ats (runsR F a b) i < ats (runsR F a b) j := fun i j h1 h2 => by
    have hi : i < (runsR F a b).length := by omega
    have hj : j < (runsR F a b).length := by omega
    have := List.pairwise_iff_getElem.1 hP i j hi hj h1
    unfold ats
    rw [getD_get _ _ _ hi, getD_get _ _ _ hj]
    exact this
  have hfirst : ats (runsR F a b) 0 = a := rfl
  have hlast : ats (runsR F a b) ((midR F a b).length + 1) = b := by
    unfold ats runsR
    rw [List.getD_eq_getElem?_getD, List.getElem?_append_right (by simp)]
    simp
  refine ⟨hlen, by omega, hfirst, hlast, hup2, fun i hi t h1 h2 => ?_⟩
  -- between a run's begin and the next one's, nothing of the function begins
  have hno : ∀ s ∈ F, ¬ (ats (runsR F a b) i < s.1 ∧ s.1 ≤ t) := by
    rintro s hs ⟨k1, k2⟩
    have ha : a ≤ ats (runsR F a b) i := by
      by_cases c : i = 0
      · rw [c, hfirst]; exact Int.le_refl _
      · have := hup2 0 i (by omega) (by omega); rw [hfirst] at this; omega
    have hb : ats (runsR F a b) (i + 1) ≤ b := by
      by_cases c : i + 1 = (midR F a b).length + 1
      · rw [c, hlast]; exact Int.le_refl _
      · have := hup2 (i + 1) ((midR F a b).length + 1) (by omega) (Nat.le_refl _); rw [hlast] at this; omega
    have hm : s ∈ runsR F a b := by
      unfold runsR
      exact List.mem_append.2 (.inl (List.mem_cons_of_mem _ (midR_mem.2 ⟨hs, by omega, by omega⟩)))
    obtain ⟨j, hj, e⟩ := List.getElem_of_mem hm
    have ej : ats (runsR F a b) j = s.1 := by unfold ats; rw [getD_get _ _ _ hj, e]
    rcases Nat.lt_trichotomy j i with c | c | c
    · have := hup2 j i c (by omega); omega
    · subst c; omega
    · by_cases c2 : j = i + 1
      · subst c2; omega
      · have := hup2 (i + 1) j (by omega) (by omega); omega
  have hx : vat F t = vat F (ats (runsR F a b) i) := vat_sameW fun s hs => by have := hno s hs; omega
  rw [hx]
  by_cases c : i = 0
  · subst c; rfl
  · have him : i - 1 < (midR F a b).length := by omega
    have hg : (runsR F a b).getD i (0, 0, 0) = (midR F a b)[i - 1] := by
      unfold runsR
      rw [List.getD_eq_getElem?_getD, List.getElem?_append_left (by simp; omega)]
      obtain ⟨j, rfl⟩ : ∃ j, i = j + 1 := ⟨i - 1, by omega⟩
      rw [List.getElem?_cons_succ, List.getElem?_eq_getElem (by omega)]
      rfl
    have hmem := (midR_mem.1 (List.getElem_mem him)).1
    have := cf_own F _ hC _ hmem
    show vat F (ats _ i) = vls _ i
    unfold ats vls
    rw [hg]
    exact this
theorem RunsOk.le {F : List Sg} {a b : Int} {r : List Sg} {n : Nat} (h : RunsOk F a b r n) {i : Nat} (hi : i ≤ n) : a ≤ ats r i ∧ ats r i ≤ b := by
  constructor
  · by_cases c : i = 0
    · rw [c, h.first]; exact Int.le_refl _
    · have := h.up 0 i (by omega) hi; rw [h.first] at this; omega
  · by_cases c : i = n
    · rw [c, h.last]; exact Int.le_refl _
    · have := h.up i n (by omega) (Nat.le_refl _); rw [h.last] at this; omega
/-- Each time of the window lies in a run. -/
theorem RunsOk.find {F : List Sg} {a b : Int} {r : List Sg} {n : Nat} (h : RunsOk F a b r n) {t : Int} (h1 : a ≤ t) (h2 : t < b) : ∃ i, i < n ∧ ats r i ≤ t ∧ t < ats r (i + 1) := by
  have aux : ∀ k, k ≤ n → t < ats r k → ∃ i, i < k ∧ ats r i ≤ t ∧ t < ats r (i + 1) := by
    intro k
    induction k with
    | zero => intro _ q; rw [h.first] at q; omega
    | succ k ih =>
      intro hk q
      by_cases c : ats r k ≤ t
      · exact ⟨k, Nat.lt_succ_self k, c, q⟩
      · obtain ⟨i, q1, q2⟩ := ih (by omega) (by omega)
        exact ⟨i, by omega, q2⟩
  exact aux n (Nat.le_refl _) (by rw [h.last]; exact h2)

/-- The gap of a run, where it does not have what a leg needs. -/
def gapO (r : List Sg) (s d : Int) (v : Int × Int) (i : Nat) : Option Wn := if leB v.1 v.2 (vls r i).1 (vls r i).2 then none else some (ats r i - s - d + 1, ats r (i + 1) - s)
def gapK (r : List Sg) (s d : Int) (v : Int × Int) (k : Nat) : List Wn := (List.range k).filterMap (gapO r s d v)
theorem gapK_yes {r : List Sg} {s d : Int} {v : Int × Int} {k : Nat} (h : leB v.1 v.2 (vls r k).1 (vls r k).2 = true) : gapK r s d v (k + 1) = gapK r s d v k := by
  unfold gapK
  rw [List.range_succ, List.filterMap_append]
  simp [gapO, h]
theorem gapK_no {r : List Sg} {s d : Int} {v : Int × Int} {k : Nat} (h : leB v.1 v.2 (vls r k).1 (vls r k).2 = false) : gapK r s d v (k + 1) = gapK r s d v k ++ [(ats r k - s - d + 1, ats r (k + 1) - s)] := by
  unfold gapK
  rw [List.range_succ, List.filterMap_append]
  simp [gapO, h]
theorem gapK_pre {r : List Sg} {s d : Int} {v : Int × Int} {k n : Nat} (h : k ≤ n) : gapK r s d v k <+: gapK r s d v n := by
  induction n with
  | zero => rw [show k = 0 by omega]; exact List.prefix_refl _
  | succ n ih =>
    by_cases c : k = n + 1
    · rw [c]; exact List.prefix_refl _
    · refine (ih (by omega)).trans ?_
      cases hl : leB v.1 v.2 (vls r n).1 (vls r n).2
      · rw [gapK_no hl]; exact List.prefix_append ..
      · rw [gapK_yes hl]; exact List.prefix_refl _
theorem gapK_len (r : List Sg) (s d : Int) (v : Int × Int) (k : Nat) : (gapK r s d v k).length ≤ k := by
  unfold gapK
  exact Nat.le_trans (List.length_filterMap_le _ _) (by simp)
theorem gapK_mem {r : List Sg} {s d : Int} {v : Int × Int} {k : Nat} {g : Wn} : g ∈ gapK r s d v k ↔ ∃ i, i < k ∧ leB v.1 v.2 (vls r i).1 (vls r i).2 = false ∧ g = (ats r i - s - d + 1, ats r (i + 1) - s) := by
  unfold gapK
  rw [List.mem_filterMap]
  constructor
  · rintro ⟨i, hi, h⟩
    refine ⟨i, List.mem_range.1 hi, ?_⟩
    unfold gapO at h
    cases hl : leB v.1 v.2 (vls r i).1 (vls r i).2
    · rw [hl] at h; simp at h; exact ⟨rfl, h.symm⟩
    · rw [hl] at h; simp at h
  · rintro ⟨i, hi, hl, rfl⟩
    exact ⟨i, List.mem_range.2 hi, by unfold gapO; rw [hl]; rfl⟩
section
variable {F : List Sg} {a b : Int} {r : List Sg} {n : Nat}
theorem gapK_ok (h : RunsOk F a b r n) {s d : Int} {v : Int × Int} (hd : 1 ≤ d) : (∀ g ∈ gapK r s d v n, g.1 < g.2) ∧ (gapK r s d v n).Pairwise fun x y => x.1 ≤ y.1 := by
  constructor
  · intro g hg
    obtain ⟨i, hi, _, rfl⟩ := gapK_mem.1 hg
    have := h.up i (i + 1) (by omega) (by omega)
    show ats r i - s - d + 1 < ats r (i + 1) - s
    omega
  · unfold gapK
    rw [List.pairwise_filterMap]
    refine List.Pairwise.imp_of_mem (R := fun i j => i < j) ?_ List.pairwise_lt_range
    intro i j hi hj hij x hx y hy
    have h1 := List.mem_range.1 hi
    have h2 := List.mem_range.1 hj
    unfold gapO at hx hy
    split at hx
    · simp at hx
    · split at hy
      · simp at hy
      · simp at hx hy
        subst hx hy
        have := h.up i j hij (by omega)
        show ats r i - s - d + 1 ≤ ats r j - s - d + 1
        omega
/-- A time lies in no gap just if the leg fits there. -/
theorem gap_fit (h : RunsOk F a b r n) {s d t : Int} {v : Int × Int} (hd : 1 ≤ d) (h1 : a ≤ t + s) (h2 : t + s + d ≤ b) :
    (∀ g ∈ gapK r s d v n, ¬ (g.1 ≤ t ∧ t < g.2)) ↔ fitB F (t + s) d v = true := by
  rw [fitB_iff hd]
  constructor
  · intro hg u q1 q2
    obtain ⟨i, hi, k1, k2⟩ := h.find (t := u) (by omega) (by omega)
    have hv := h.val i hi u k1 k2
    cases hl : leB v.1 v.2 (vls r i).1 (vls r i).2
    · exact absurd ⟨show ats r i - s - d + 1 ≤ t by omega, show t < ats r (i + 1) - s by omega⟩ (hg _ (gapK_mem.2 ⟨i, hi, hl, rfl⟩))
    · rw [hv]; exact leB_iff.1 hl
  · rintro hf g hg ⟨q1, q2⟩
    obtain ⟨i, hi, hl, rfl⟩ := gapK_mem.1 hg
    have q1' : ats r i - s - d + 1 ≤ t := q1
    have q2' : t < ats r (i + 1) - s := q2
    have hup := h.up i (i + 1) (by omega) (by omega)
    obtain ⟨u, e⟩ : ∃ u, u = max (t + s) (ats r i) := ⟨_, rfl⟩
    have b1 : t + s ≤ u := by rw [e]; exact Int.le_max_left _ _
    have b2 : ats r i ≤ u := by rw [e]; exact Int.le_max_right _ _
    have b3 : u < t + s + d := by rw [e]; exact Int.max_lt.2 ⟨by omega, by omega⟩
    have b4 : u < ats r (i + 1) := by rw [e]; exact Int.max_lt.2 ⟨by omega, by omega⟩
    have := hf u b1 b3
    rw [h.val i hi u b2 b4] at this
    exact absurd (leB_iff.2 this) (by rw [hl]; decide)
end

/-- How long legs are together. -/
def lenG : List Sg → Int
  | [] => 0
  | x :: r => x.1 + lenG r
theorem lenG_app : ∀ A B : List Sg, lenG (A ++ B) = lenG A + lenG B
  | [], B => by simp [lenG]
  | x :: A, B => by simp only [List.cons_append, lenG]; rw [lenG_app A B]; omega
/-- Each leg fits where it starts. -/
def fitG (F : List Sg) : List Sg → Int → Bool
  | [], _ => true
  | x :: r, t => fitB F t x.1 x.2 && fitG F r (t + x.1)
theorem fitG_app (F : List Sg) : ∀ (A B : List Sg) (t : Int), fitG F (A ++ B) t = (fitG F A t && fitG F B (t + lenG A))
  | [], B, t => by simp [fitG, lenG]
  | x :: A, B, t => by
    simp only [List.cons_append, fitG, lenG]
    rw [fitG_app F A B, Bool.and_assoc, Int.add_assoc]
/-- Legs may begin at a time in a window. -/
def mayG (F : List Sg) (a b : Int) (l : List Sg) (t : Int) : Prop := a ≤ t ∧ t + lenG l ≤ b ∧ fitG F l t = true
def roomL (a b n : Int) : List Wn := if b - a < n then [] else [(a, b - n + 1)]
theorem roomL_ok {a b n : Int} (_h : a ≤ b) : CW (roomL a b n) ∧ ∀ t, memW t (roomL a b n) ↔ a ≤ t ∧ t + n ≤ b := by
  unfold roomL
  by_cases c : b - a < n
  · rw [if_pos c]; exact ⟨CW.nil, fun t => ⟨fun q => (memW_nil q).elim, fun q => by omega⟩⟩
  · rw [if_neg c]
    refine ⟨CW.cons.2 ⟨show a < b - n + 1 by omega, fun y hy => by simp at hy, CW.nil⟩, fun t => ?_⟩
    rw [memW_cons]
    constructor
    · rintro (⟨p, q⟩ | q)
      · have q' : t < b - n + 1 := q
        have p' : a ≤ t := p
        omega
      · exact (memW_nil q).elim
    · rintro ⟨p, q⟩; exact .inl ⟨p, show t < b - n + 1 by omega⟩
/-- Leg by leg: the begins so far, where the next one starts. -/
def bgT (r : List Sg) (st : List Wn × Int) (x : Sg) : List Wn × Int := (woL st.1 (gapK r st.2 x.1 x.2 (r.length - 1)), st.2 + x.1)
def bgS (r : List Sg) (B : List Wn) (l : List Sg) : List Wn × Int := l.foldl (bgT r) (B, 0)
theorem bgS_snoc (r : List Sg) (B : List Wn) (l : List Sg) (x : Sg) : bgS r B (l ++ [x]) = bgT r (bgS r B l) x := by unfold bgS; rw [List.foldl_append]; rfl
theorem bgS_start (r : List Sg) (B : List Wn) (l : List Sg) : (bgS r B l).2 = lenG l := by
  have aux : ∀ (l : List Sg) (st : List Wn × Int), (l.foldl (bgT r) st).2 = st.2 + lenG l := by
    intro l
    induction l with
    | nil => intro st; simp [lenG]
    | cons x l ih => intro st; rw [List.foldl_cons, ih]; simp only [bgT, lenG]; omega
  rw [bgS, aux]; simp
theorem bg_aux {F : List Sg} {a b : Int} {r : List Sg} {n : Nat} (h : RunsOk F a b r n) : ∀ (l : List Sg) (B : List Wn) (s : Int), CW B → (∀ x ∈ l, 1 ≤ x.1) → (∀ t, memW t B → a ≤ t + s ∧ t + s + lenG l ≤ b) →
    CW (l.foldl (bgT r) (B, s)).1 ∧ ∀ t, memW t (l.foldl (bgT r) (B, s)).1 ↔ memW t B ∧ fitG F l (t + s) = true
  | [], B, s, hB, _, _ => ⟨hB, fun t => by simp [fitG]⟩
  | x :: l, B, s, hB, hl, hm => by
    have hx := hl x (List.mem_cons_self ..)
    have hn : r.length - 1 = n := by rw [h.len]; rfl
    obtain ⟨g1, g2⟩ := gapK_ok h (s := s) (v := x.2) hx
    obtain ⟨w1, w2⟩ := wo_spec hB g1 g2
    have hpos : ∀ l : List Sg, (∀ x ∈ l, 1 ≤ x.1) → 0 ≤ lenG l := by
      intro l
      induction l with
      | nil => intro _; exact Int.le_refl _
      | cons y l ih => intro hy; have := ih (fun z hz => hy z (List.mem_cons_of_mem _ hz)); have := hy y (List.mem_cons_self ..); simp only [lenG]; omega
    have hp := hpos l fun y hy => hl y (List.mem_cons_of_mem _ hy)
    obtain ⟨j1, j2⟩ := bg_aux h l (woL B (gapK r s x.1 x.2 n)) (s + x.1) w1 (fun y hy => hl y (List.mem_cons_of_mem _ hy)) (fun t ht => by
      have q := hm t ((w2 t).1 ht).1
      simp only [lenG] at q
      omega)
    have e : (x :: l).foldl (bgT r) (B, s) = l.foldl (bgT r) (woL B (gapK r s x.1 x.2 n), s + x.1) := by rw [List.foldl_cons]; unfold bgT; rw [hn]
    rw [e]
    refine ⟨j1, fun t => (j2 t).trans ?_⟩
    rw [w2, fitG, Bool.and_eq_true, and_assoc, Int.add_assoc]
    constructor
    · rintro ⟨p, q, u⟩
      have := hm t p
      simp only [lenG] at this
      refine ⟨p, (gap_fit h hx (by omega) (by omega)).1 q, ?_⟩
      rwa [← Int.add_assoc] at u ⊢
    · rintro ⟨p, q, u⟩
      have := hm t p
      simp only [lenG] at this
      refine ⟨p, (gap_fit h hx (by omega) (by omega)).2 q, ?_⟩
      rwa [← Int.add_assoc] at u ⊢
/-- The begins. -/
def begG (F : List Sg) (a b : Int) (l : List Sg) : List Wn := (bgS (runsR F a b) (roomL a b (lenG l)) l).1
def BegIs (F : List Sg) (a b : Int) (l : List Sg) (L : List Wn) : Prop := CW L ∧ ∀ t, memW t L ↔ mayG F a b l t
theorem begG_is {F : List Sg} {a b : Int} {l : List Sg} (hF : mayB F = true) (hab : a < b) (hl : ∀ x ∈ l, 1 ≤ x.1) : BegIs F a b l (begG F a b l) := by
  obtain ⟨r1, r2⟩ := roomL_ok (a := a) (b := b) (n := lenG l) (by omega)
  obtain ⟨j1, j2⟩ := bg_aux (runs_ok hF hab) l (roomL a b (lenG l)) 0 r1 hl (fun t ht => by have := (r2 t).1 ht; omega)
  refine ⟨j1, fun t => (j2 t).trans ?_⟩
  rw [r2, and_assoc, Int.add_zero]
  rfl
theorem BegIs.unique {F G : List Sg} {a b c d : Int} {l m : List Sg} {L M : List Wn} (h : BegIs F a b l L) (h' : BegIs G c d m M) (e : ∀ t, mayG F a b l t ↔ mayG G c d m t) : L = M :=
  h.1.unique h'.1 fun t => (h.2 t).trans ((e t).trans (h'.2 t).symm)
end Go.Proofs.Ytgflbidagdcfmaa

namespace Go.Proofs.Ytgflbidagdcfmaa

theorem addS_ok {a b c d : Int} (h1 : okV a b = true) (h2 : okV c d = true) (h3 : okV (a + c) (b + d) = true) : addS a b c d = (a + c, b + d, 0) := by unfold addS; rw [h1, h2, h3]; rfl
theorem subS_ok {a b c d : Int} (h1 : okV a b = true) (h2 : okV c d = true) (h3 : okV (a - c) (b - d) = true) : subS a b c d = (a - c, b - d, 0) := by unfold subS; rw [h1, h2, h3]; rfl
theorem addS_zero {a b c d : Int} (h : (addS a b c d).2.2 = 0) : addS a b c d = (a + c, b + d, 0) ∧ okV a b = true ∧ okV c d = true ∧ okV (a + c) (b + d) = true := by
  unfold addS at h ⊢
  have hg := gate_ok h
  rw [gate_true hg]
  simp only [Bool.and_eq_true] at hg
  exact ⟨rfl, hg.1.1, hg.1.2, hg.2⟩
theorem subS_zero {a b c d : Int} (h : (subS a b c d).2.2 = 0) : subS a b c d = (a - c, b - d, 0) ∧ okV a b = true ∧ okV c d = true ∧ okV (a - c) (b - d) = true := by
  unfold subS at h ⊢
  have hg := gate_ok h
  rw [gate_true hg]
  simp only [Bool.and_eq_true] at hg
  exact ⟨rfl, hg.1.1, hg.1.2, hg.2⟩
theorem may_ok {F : List Sg} (h : mayB F = true) (t : Int) : okV (vat F t).1 (vat F t).2 = true := vat_ok (CF.ok (mayB_iff.1 h)) t

/-- What is made, by its values. -/
theorem doS_codes (k : Int) (F G : List Sg) : (doS k F G).2 = 0 ∨ (doS k F G).2 = 5 ∨ (doS k F G).2 = 10 := by
  unfold doS; split
  · simp
  · split <;> simp
theorem vat_none (t : Int) : vat [] t = (0, 0) := rfl
theorem doS_nil {F : List Sg} (h : mayB F = true) : doS 0 [] F = (F, 0) := doS_of rfl h h fun t => by
  show addS 0 0 (vat F t).1 (vat F t).2 = _
  have := may_ok h t
  rw [addS_ok (by decide) this (by simpa using this)]
  simp
/-- The sum of two. -/
theorem sumS_two (F G : List Sg) : sumS [F, G] = doS 0 F G := by
  cases h : (mayB F && mayB G)
  · have e : [F, G].all mayB = false := by simpa using h
    unfold sumS
    rw [e, doS_form h]; rfl
  · obtain ⟨h1, h2⟩ : mayB F = true ∧ mayB G = true := by simpa using h
    have e : [F, G].all mayB = true := by simp [h1, h2]
    unfold sumS
    rw [e, if_pos rfl]
    unfold sumE
    simp only [List.foldl_cons, List.foldl_nil, doS_nil h1, if_true]
/-- The difference, and back. -/
theorem back_sum {F G D : List Sg} (h : doS 1 G F = (D, 0)) : sumS [F, D] = (G, 0) := by
  obtain ⟨hG, hF, hD, hv⟩ := doS_vals h
  rw [sumS_two]
  refine doS_of hF hD hG fun t => ?_
  have e := hv t
  have e2 : subS (vat G t).1 (vat G t).2 (vat F t).1 (vat F t).2 = ((vat D t).1, (vat D t).2, 0) := e
  obtain ⟨q1, q2, q3, q4⟩ := subS_zero (by rw [e2])
  rw [e2] at q1
  obtain ⟨r1, r2⟩ := Prod.mk.inj q1
  obtain ⟨r2, _⟩ := Prod.mk.inj r2
  show addS (vat F t).1 (vat F t).2 (vat D t).1 (vat D t).2 = _
  rw [addS_ok q3 (may_ok hD t) (by rw [r1, r2]; have := may_ok hG t; rwa [show (vat F t).1 + ((vat G t).1 - (vat F t).1) = (vat G t).1 by omega, show (vat F t).2 + ((vat G t).2 - (vat F t).2) = (vat G t).2 by omega])]
  rw [r1, r2]
  exact Prod.ext (by simp; omega) (Prod.ext (by simp; omega) rfl)
theorem sub_self {F : List Sg} (h : mayB F = true) : doS 1 F F = ([], 0) := doS_of h h rfl fun t => by
  show subS (vat F t).1 (vat F t).2 (vat F t).1 (vat F t).2 = _
  have := may_ok h t
  rw [subS_ok this this (by simp [okV])]
  rw [vat_none]; simp
/-- The least and the greatest of two are there. -/
theorem low_is {F G : List Sg} (hF : mayB F = true) (hG : mayB G = true) : ∃ L, doS 2 F G = (L, 0) ∧ mayB L = true ∧ ∀ t, vat L t = (mn (vat F t).1 (vat G t).1, mn (vat F t).2 (vat G t).2) := by
  have hok : opOk 2 F G = true := opOk_iff.2 fun t => rfl
  have e : doS 2 F G = (opL 2 F G, 0) := by unfold doS; rw [hF, hG, if_neg (by decide), if_pos hok]
  obtain ⟨_, _, hm, hv⟩ := doS_vals e
  refine ⟨_, e, hm, fun t => ?_⟩
  have := hv t
  have e2 : opT 2 F G t = (mn (vat F t).1 (vat G t).1, mn (vat F t).2 (vat G t).2, 0) := rfl
  rw [e2] at this
  obtain ⟨r1, r2⟩ := Prod.mk.inj this
  obtain ⟨r2, _⟩ := Prod.mk.inj r2
  exact Prod.ext r1.symm r2.symm
theorem high_is {F G : List Sg} (hF : mayB F = true) (hG : mayB G = true) : ∃ H, doS 3 F G = (H, 0) ∧ mayB H = true ∧ ∀ t, vat H t = (mx (vat F t).1 (vat G t).1, mx (vat F t).2 (vat G t).2) := by
  have hok : opOk 3 F G = true := opOk_iff.2 fun t => rfl
  have e : doS 3 F G = (opL 3 F G, 0) := by unfold doS; rw [hF, hG, if_neg (by decide), if_pos hok]
  obtain ⟨_, _, hm, hv⟩ := doS_vals e
  refine ⟨_, e, hm, fun t => ?_⟩
  have := hv t
  have e2 : opT 3 F G t = (mx (vat F t).1 (vat G t).1, mx (vat F t).2 (vat G t).2, 0) := rfl
  rw [e2] at this
  obtain ⟨r1, r2⟩ := Prod.mk.inj this
  obtain ⟨r2, _⟩ := Prod.mk.inj r2
  exact Prod.ext r1.symm r2.symm
theorem mn_mx (a b : Int) : mn a b + mx a b = a + b := by unfold mn mx; split <;> omega
/-- They are both together. -/
theorem both_sum {F G L H : List Sg} (hF : mayB F = true) (hG : mayB G = true) (hL : mayB L = true) (hH : mayB H = true)
    (vL : ∀ t, vat L t = (mn (vat F t).1 (vat G t).1, mn (vat F t).2 (vat G t).2)) (vH : ∀ t, vat H t = (mx (vat F t).1 (vat G t).1, mx (vat F t).2 (vat G t).2)) : sumS [L, H] = sumS [F, G] := by
  rw [sumS_two, sumS_two]
  refine doS_ext hL hH hF hG fun t => ?_
  show addS (vat L t).1 (vat L t).2 (vat H t).1 (vat H t).2 = addS (vat F t).1 (vat F t).2 (vat G t).1 (vat G t).2
  unfold addS
  rw [may_ok hL t, may_ok hH t, may_ok hF t, may_ok hG t]
  rw [vL t, vH t]
  simp only [mn_mx]


end Go.Proofs.Ytgflbidagdcfmaa
