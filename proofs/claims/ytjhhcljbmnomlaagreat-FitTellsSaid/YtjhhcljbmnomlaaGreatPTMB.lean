/- The stretches of a window: what the walk over a function's runs hands on, and what sums, lows, highs and cuts are of it. No program. No conditions. What the statements on package span rest on: shifts to and fro, neighbouring windows, cuts' sums. No program. No conditions. Policies, by values: whether one may be, whether it holds of a load, a capacity and a user's load, and where it is violated first. No program. No conditions. What is made of two functions, told by values. No program. No conditions. What is free, what fits, what is taken: by values. No program. No conditions. Windows: what fits into them, how often, and what it keeps. No program. No conditions. The document's example of what is free. No program. No conditions. -/
import Derived.Test.YtjhhcljbmnomlaaGreatPTMA
namespace Go.Proofs.YtjhhcljbmnomlaaGreat

/-- A stretch: from, up to, the value. -/
abbrev St := Int × Int × Int × Int
/-- What is handed on behind the runs: up to y, if anything is left. -/
def strZ (y p : Int) (v : Int × Int) : List St := if p < y then [(p, y, v)] else []
def strG (y : Int) : List Sg → Int → Int × Int → List St
  | [], p, v => strZ y p v
  | r :: F, p, v => if y ≤ r.1 then strZ y p v else if p < r.1 then (p, r.1, v) :: strG y F r.1 r.2 else strG y F p r.2
def strL (F : List Sg) (x y : Int) : List St := strG y F x (0, 0)
theorem strG_nil {y p : Int} {v : Int × Int} : strG y [] p v = strZ y p v := rfl
theorem strG_end {y p : Int} {v : Int × Int} {r : Sg} {F : List Sg} (h : y ≤ r.1) : strG y (r :: F) p v = strZ y p v := by rw [strG, if_pos h]
theorem strG_cut {y p : Int} {v : Int × Int} {r : Sg} {F : List Sg} (h : ¬ y ≤ r.1) (h2 : p < r.1) : strG y (r :: F) p v = (p, r.1, v) :: strG y F r.1 r.2 := by rw [strG, if_neg h, if_pos h2]
theorem strG_on {y p : Int} {v : Int × Int} {r : Sg} {F : List Sg} (h : ¬ y ≤ r.1) (h2 : ¬ p < r.1) : strG y (r :: F) p v = strG y F p r.2 := by rw [strG, if_neg h, if_neg h2]
theorem strG_len (y : Int) : ∀ (F : List Sg) (p : Int) (v : Int × Int), (strG y F p v).length ≤ F.length + 1
  | [], p, v => by rw [strG_nil]; unfold strZ; split <;> simp
  | r :: F, p, v => by
    have h1 := strG_len y F r.1 r.2
    have h2 := strG_len y F p r.2
    rw [strG]
    split
    · unfold strZ; split <;> simp
    · split
      · simp only [List.length_cons]; omega
      · simp only [List.length_cons]; omega

/-- Stretches side by side, from p up to y, on each of which the function keeps its value. -/
def Cov (F : List Sg) (y : Int) : Int → List St → Prop
  | p, [] => y ≤ p
  | p, s :: r => s.1 = p ∧ p < s.2.1 ∧ s.2.1 ≤ y ∧ (∀ t, p ≤ t → t < s.2.1 → vat F t = s.2.2) ∧ Cov F y s.2.1 r
theorem strZ_cov {F : List Sg} {y p : Int} {v : Int × Int} (h : ∀ t, p ≤ t → t < y → vat F t = v) : Cov F y p (strZ y p v) := by
  unfold strZ
  split
  · rename_i h2
    exact ⟨rfl, h2, Int.le_refl _, h, Int.le_refl _⟩
  · rename_i h2
    show y ≤ p
    omega
theorem strG_cov {F0 : List Sg} {y : Int} : ∀ (F : List Sg) (p : Int) (v : Int × Int), (F.Pairwise fun a b => a.1 < b.1) → (∀ t, p ≤ t → vat F0 t = F.foldl (stepV t) v) → Cov F0 y p (strG y F p v)
  | [], p, v, _, h => strZ_cov fun t ht _ => h t ht
  | r :: F, p, v, hp, h => by
    have hp2 := List.pairwise_cons.1 hp
    have hgt : ∀ t, p ≤ t → t < r.1 → vat F0 t = v := fun t h1 h2 => by
      rw [h t h1]
      refine foldl_gt t _ _ fun s hs => ?_
      rcases List.mem_cons.1 hs with e | e
      · rw [e]; exact h2
      · have := hp2.1 s e; omega
    have hst : ∀ t, p ≤ t → r.1 ≤ t → vat F0 t = F.foldl (stepV t) r.2 := fun t h1 h2 => by
      rw [h t h1, List.foldl_cons]
      congr 1
      unfold stepV
      rw [if_pos h2]
    rw [strG]
    split
    · exact strZ_cov fun t h1 h2 => hgt t h1 (by omega)
    · split
      · rename_i h1 h2
        exact ⟨rfl, h2, by show r.1 ≤ y; omega, hgt, strG_cov F r.1 r.2 hp2.2 fun t ht => hst t (by omega) ht⟩
      · rename_i h1 h2
        exact strG_cov F p r.2 hp2.2 fun t ht => hst t ht (by omega)
theorem strL_cov {F : List Sg} (hF : Canon F) (x y : Int) : Cov F y x (strL F x y) := strG_cov F x (0, 0) (CF.up hF) fun _ _ => rfl

/-- The time up to which a list of stretches goes. -/
def endG (x : Int) (l : List St) : Int := l.foldl (fun _ s => s.2.1) x
theorem endG_snoc (x : Int) (l : List St) (s : St) : endG x (l ++ [s]) = s.2.1 := by unfold endG; rw [List.foldl_append]; rfl
theorem cov_end {F : List Sg} {y : Int} : ∀ (l : List St) (p : Int), Cov F y p l → p ≤ y → endG p l = y
  | [], p, h, hp => by
    have h' : y ≤ p := h
    show p = y
    omega
  | s :: r, p, h, _ => cov_end r s.2.1 h.2.2.2.2 h.2.2.1
/-- A stretch of the list, where it stands. -/
theorem cov_at {F : List Sg} {y : Int} : ∀ (pre : List St) (p : Int) (s : St) (post : List St), Cov F y p (pre ++ s :: post) → s.1 = endG p pre ∧ p ≤ s.1 ∧ s.1 < s.2.1 ∧ s.2.1 ≤ y ∧ ∀ t, s.1 ≤ t → t < s.2.1 → vat F t = s.2.2
  | [], p, s, post, ⟨h1, h2, h3, h4, _⟩ => by
    refine ⟨h1, by omega, by omega, h3, fun t ht => h4 t (by omega)⟩
  | u :: pre, p, s, post, ⟨h1, h2, h3, h4, h5⟩ => by
    obtain ⟨k1, k2, k3, k4, k5⟩ := cov_at pre u.2.1 s post h5
    exact ⟨k1, by omega, k3, k4, k5⟩
theorem cov_endle {F : List Sg} {y : Int} : ∀ (pre : List St) (p : Int) (post : List St), Cov F y p (pre ++ post) → p ≤ endG p pre
  | [], p, _, _ => Int.le_refl _
  | u :: pre, p, post, ⟨h1, h2, h3, h4, h5⟩ => by
    have := cov_endle pre u.2.1 post h5
    show p ≤ endG u.2.1 pre
    omega
/-- What is known of a stretch of a window's. -/
theorem str_at {F : List Sg} {x y : Int} (hF : Canon F) {pre : List St} {s : St} (h : pre ++ [s] <+: strL F x y) : s.1 = endG x pre ∧ x ≤ s.1 ∧ s.1 < s.2.1 ∧ s.2.1 ≤ y ∧ ∀ t, s.1 ≤ t → t < s.2.1 → vat F t = s.2.2 := by
  obtain ⟨post, e⟩ := h
  have hc := strL_cov hF x y
  rw [← e, List.append_assoc] at hc
  exact cov_at pre x s post hc
theorem str_end {F : List Sg} {x y : Int} (hF : Canon F) (hxy : x ≤ y) : endG x (strL F x y) = y := cov_end _ _ (strL_cov hF x y) hxy

/-- The sum over the first stretches. -/
def addG (acc : Int × Int) (s : St) : Int × Int := (acc.1 + (s.2.1 - s.1) * s.2.2.1, acc.2 + (s.2.1 - s.1) * s.2.2.2)
theorem add_str {F : List Sg} {x : Int} {s : St} (hx : x ≤ s.1) (h : s.1 < s.2.1) (hv : ∀ t, s.1 ≤ t → t < s.2.1 → vat F t = s.2.2) : sumN F x (s.2.1 - x).toNat = addG (sumN F x (s.1 - x).toNat) s := by
  obtain ⟨j, hj⟩ : ∃ j : Nat, s.1 = x + j := ⟨(s.1 - x).toNat, by omega⟩
  obtain ⟨k, hk⟩ : ∃ k : Nat, s.2.1 = s.1 + k := ⟨(s.2.1 - s.1).toNat, by omega⟩
  have e1 : (s.1 - x).toNat = j := by omega
  have e2 : (s.2.1 - x).toNat = j + k := by omega
  rw [e1, e2, sumN_add, ← hj, sumN_const (v := s.2.2) k (fun i hi => hv _ (by omega) (by omega))]
  unfold addG
  have e3 : s.2.1 - s.1 = (k : Int) := by omega
  rw [e3]
theorem low_const {F : List Sg} {x : Int} {v : Int × Int} (j : Nat) : ∀ k : Nat, (∀ i : Nat, i < k + 1 → vat F (x + j + i) = v) → lowN F x (j + (k + 1)) = (mn (lowN F x j).1 v.1, mn (lowN F x j).2 v.2)
  | 0, h => by
    have := h 0 (by omega)
    rw [show j + (0 + 1) = j + 1 by omega, lowN_step]
    rw [show x + (j : Int) + ((0 : Nat) : Int) = x + (j : Int) by omega] at this
    rw [this]
  | k + 1, h => by
    have ih := low_const j k fun i hi => h i (by omega)
    have hv := h (k + 1) (by omega)
    rw [show j + (k + 1 + 1) = (j + (k + 1)) + 1 by omega, lowN_step, ih]
    rw [show x + (j : Int) + ((k + 1 : Nat) : Int) = x + ((j + (k + 1) : Nat) : Int) by omega] at hv
    rw [hv]
    simp only [mn_min]
    apply Prod.ext <;> simp only <;> omega
theorem high_const {F : List Sg} {x : Int} {v : Int × Int} (j : Nat) : ∀ k : Nat, (∀ i : Nat, i < k + 1 → vat F (x + j + i) = v) → highN F x (j + (k + 1)) = (mx (highN F x j).1 v.1, mx (highN F x j).2 v.2)
  | 0, h => by
    have := h 0 (by omega)
    rw [show j + (0 + 1) = j + 1 by omega, highN_step]
    rw [show x + (j : Int) + ((0 : Nat) : Int) = x + (j : Int) by omega] at this
    rw [this]
  | k + 1, h => by
    have ih := high_const j k fun i hi => h i (by omega)
    have hv := h (k + 1) (by omega)
    rw [show j + (k + 1 + 1) = (j + (k + 1)) + 1 by omega, highN_step, ih]
    rw [show x + (j : Int) + ((k + 1 : Nat) : Int) = x + ((j + (k + 1) : Nat) : Int) by omega] at hv
    rw [hv]
    simp only [mx_max]
    apply Prod.ext <;> simp only <;> omega
theorem low_str {F : List Sg} {x : Int} {s : St} (hx : x ≤ s.1) (h : s.1 < s.2.1) (hv : ∀ t, s.1 ≤ t → t < s.2.1 → vat F t = s.2.2) : lowN F x (s.2.1 - x).toNat = (mn (lowN F x (s.1 - x).toNat).1 s.2.2.1, mn (lowN F x (s.1 - x).toNat).2 s.2.2.2) := by
  obtain ⟨j, hj⟩ : ∃ j : Nat, s.1 = x + j := ⟨(s.1 - x).toNat, by omega⟩
  obtain ⟨k, hk⟩ : ∃ k : Nat, s.2.1 = s.1 + k + 1 := ⟨(s.2.1 - s.1 - 1).toNat, by omega⟩
  have e1 : (s.1 - x).toNat = j := by omega
  have e2 : (s.2.1 - x).toNat = j + (k + 1) := by omega
  rw [e1, e2, low_const (v := s.2.2) j k (fun i hi => hv _ (by omega) (by omega))]
theorem high_str {F : List Sg} {x : Int} {s : St} (hx : x ≤ s.1) (h : s.1 < s.2.1) (hv : ∀ t, s.1 ≤ t → t < s.2.1 → vat F t = s.2.2) : highN F x (s.2.1 - x).toNat = (mx (highN F x (s.1 - x).toNat).1 s.2.2.1, mx (highN F x (s.1 - x).toNat).2 s.2.2.2) := by
  obtain ⟨j, hj⟩ : ∃ j : Nat, s.1 = x + j := ⟨(s.1 - x).toNat, by omega⟩
  obtain ⟨k, hk⟩ : ∃ k : Nat, s.2.1 = s.1 + k + 1 := ⟨(s.2.1 - s.1 - 1).toNat, by omega⟩
  have e1 : (s.1 - x).toNat = j := by omega
  have e2 : (s.2.1 - x).toNat = j + (k + 1) := by omega
  rw [e1, e2, high_const (v := s.2.2) j k (fun i hi => hv _ (by omega) (by omega))]

/-- The raw runs of a cut. -/
def rawC (l : List St) : List Sg := l.map fun s => (s.1, s.2.2)
def cutR (F : List Sg) (x y : Int) : List Sg := rawC (strL F x y) ++ [(y, (0, 0))]
theorem cov_raw {F : List Sg} {y : Int} : ∀ (l : List St) (p : Int), Cov F y p l → p ≤ y →
    ((rawC l ++ [(y, ((0, 0) : Int × Int))]).Pairwise fun a b => a.1 < b.1) ∧ (∀ s ∈ rawC l ++ [(y, ((0, 0) : Int × Int))], p ≤ s.1 ∧ s.1 ≤ y) ∧
    (∀ t acc, (rawC l ++ [(y, ((0, 0) : Int × Int))]).foldl (stepV t) acc = if t < p then acc else if t < y then vat F t else (0, 0))
  | [], p, h, hp => by
    have h' : y ≤ p := h
    refine ⟨by simp [rawC], fun s hs => ?_, fun t acc => ?_⟩
    · simp [rawC] at hs; subst hs; exact ⟨hp, Int.le_refl _⟩
    · simp only [rawC, List.map_nil, List.nil_append, List.foldl_cons, List.foldl_nil, stepV]
      by_cases c : t < p
      · rw [if_pos c, if_neg (by omega)]
      · rw [if_neg c, if_pos (by omega), if_neg (by omega)]
  | u :: r, p, ⟨h1, h2, h3, h4, h5⟩, hp => by
    obtain ⟨k1, k2, k3⟩ := cov_raw r u.2.1 h5 h3
    have e : rawC (u :: r) ++ [(y, ((0, 0) : Int × Int))] = (u.1, u.2.2) :: (rawC r ++ [(y, (0, 0))]) := rfl
    rw [e]
    refine ⟨List.pairwise_cons.2 ⟨fun s hs => ?_, k1⟩, fun s hs => ?_, fun t acc => ?_⟩
    · have := k2 s hs
      show u.1 < s.1
      omega
    · rcases List.mem_cons.1 hs with e | e
      · subst e
        show p ≤ u.1 ∧ u.1 ≤ y
        omega
      · have := k2 s e; omega
    · rw [List.foldl_cons, k3]
      by_cases c : t < p
      · rw [if_pos c, if_pos (by omega)]
        unfold stepV
        rw [if_neg (by simp only; omega)]
      · rw [if_neg c]
        by_cases c2 : t < u.2.1
        · rw [if_pos c2, if_pos (by omega), h4 t (by omega) c2]
          unfold stepV
          rw [if_pos (by simp only; omega)]
        · rw [if_neg c2]
theorem cutR_val {F : List Sg} (hF : Canon F) {x y : Int} (hxy : x ≤ y) (t : Int) : rv (cutR F x y) t = cutV F x y t := by
  obtain ⟨h1, _, h3⟩ := cov_raw (strL F x y) x (strL_cov hF x y) hxy
  have : rv (cutR F x y) t = (cutR F x y).foldl (stepV t) (0, 0) := rread_up (cutR F x y) _ h1 (fun _ _ h => by cases h)
  rw [this]
  unfold cutR
  rw [h3]
  unfold cutV
  by_cases c : t < x
  · rw [if_pos c, if_neg (by omega)]
  · rw [if_neg c]
    by_cases c2 : t < y
    · rw [if_pos c2, if_pos (by omega)]
    · rw [if_neg c2, if_neg (by omega)]
theorem cutR_ok {F : List Sg} (hF : Canon F) {x y : Int} (hxy : x ≤ y) : (cutR F x y).all okS = farS4 x y := by
  obtain ⟨h1, h2, _⟩ := cov_raw (strL F x y) x (strL_cov hF x y) hxy
  rw [Bool.eq_iff_iff, List.all_eq_true]
  unfold farS4
  rw [decide_eq_true_iff]
  constructor
  · intro h
    have hy := h (y, (0, 0)) (by unfold cutR; simp)
    have hy' : okT y = true := by unfold okS at hy; rw [Bool.and_eq_true] at hy; exact hy.1
    rw [okT_iff] at hy'
    by_cases c : x = y
    · omega
    · have hx : ∃ v, (x, v) ∈ cutR F x y := by
        have hc := strL_cov hF x y
        cases hs : strL F x y with
        | nil => rw [hs] at hc; have hc' : y ≤ x := hc; omega
        | cons u r =>
          rw [hs] at hc
          refine ⟨u.2.2, ?_⟩
          unfold cutR
          rw [hs, ← hc.1]
          simp [rawC]
      obtain ⟨v, hv⟩ := hx
      have := h _ hv
      unfold okS at this
      rw [Bool.and_eq_true, okT_iff] at this
      omega
  · rintro ⟨h3, h4, h5, h6⟩ s hs
    have hb := h2 s hs
    unfold okS
    rw [Bool.and_eq_true, okT_iff]
    refine ⟨by omega, ?_⟩
    unfold cutR at hs
    rcases List.mem_append.1 hs with hm | hm
    · unfold rawC at hm
      rw [List.mem_map] at hm
      obtain ⟨u, hu, rfl⟩ := hm
      obtain ⟨pre, post, e⟩ := List.append_of_mem hu
      have hc := strL_cov hF x y
      rw [e] at hc
      obtain ⟨k1, k2, k3, k4, k5⟩ := cov_at pre x u post hc
      simp only
      rw [← k5 u.1 (Int.le_refl _) k3]
      exact vat_ok (CF.ok hF) _
    · simp at hm; subst hm; rfl
theorem cutR_len (F : List Sg) (x y : Int) : (cutR F x y).length ≤ F.length + 2 := by
  have := strG_len y F x (0, 0)
  unfold cutR rawC strL
  rw [List.length_append, List.length_map]
  simp only [List.length_cons, List.length_nil]
  omega
/-- What Of makes of a cut's raw runs. -/
theorem cutR_of {F G : List Sg} (hF : Canon F) {x y : Int} (hxy : x ≤ y) (hb : farS4 x y = true) (h : IsOf (cutR F x y) G) : G = cutL F x y :=
  cutL_unique hF hxy hb h.1 fun t => (h.2.1 t).trans (cutR_val hF hxy t)
theorem cutS_form {F : List Sg} {x y : Int} (h : mayB F = false) : cutS F x y = ([], 5) := by unfold cutS; rw [if_pos h]
theorem cutS_arg {F : List Sg} {x y : Int} (h : mayB F = true) (h2 : y < x) : cutS F x y = ([], 2) := by unfold cutS; rw [if_neg (by rw [h]; decide), if_pos h2]
theorem cutS_far {F : List Sg} {x y : Int} (h : mayB F = true) (h2 : ¬ y < x) (h3 : farS4 x y = false) : cutS F x y = ([], 10) := by unfold cutS; rw [if_neg (by rw [h]; decide), if_neg h2, if_pos h3]
theorem cutS_ok {F : List Sg} {x y : Int} (h : mayB F = true) (h2 : ¬ y < x) (h3 : farS4 x y = true) : cutS F x y = (cutL F x y, 0) := by unfold cutS; rw [if_neg (by rw [h]; decide), if_neg h2, if_neg (by rw [h3]; decide)]
end Go.Proofs.YtjhhcljbmnomlaaGreat

namespace Go.Proofs.YtjhhcljbmnomlaaGreat

/-- What was shifted is shifted back. -/
theorem shift_back {F M : List Sg} {d : Int} (h : shiftS F d = (M, 0)) : mayB M = true ∧ shiftS M (-d) = (F, 0) ∧ okT d = true := by
  unfold shiftS at h
  split at h
  · cases h
  · rename_i h1
    split at h
    · cases h
    · rename_i h2
      split at h
      · cases h
      · rename_i h3
        have e1 : mayB F = true := by cases hm : mayB F <;> simp_all
        have e2 : okT d = true := by cases hm : okT d <;> simp_all
        have e3 : shiftOk F d = true := by cases hm : shiftOk F d <;> simp_all
        obtain rfl : shiftL F d = M := by
          have := congrArg Prod.fst h
          exact this
        have hC := shift_canon (mayB_iff.1 e1) e3
        have hm : mayB (shiftL F d) = true := mayB_iff.2 hC
        have hd : okT (-d) = true := by rw [okT_iff] at e2 ⊢; omega
        have hs : shiftOk (shiftL F d) (-d) = true := by
          unfold shiftOk
          rw [shiftL_back]
          rw [List.all_eq_true]
          exact CF.ok (mayB_iff.1 e1)
        exact ⟨hm, by rw [shiftS_ok hm hd hs, shiftL_back], e2⟩
/-- Where a function's values are those of another one, so are its sums. -/
theorem sumN_ext {F G : List Sg} {x : Int} : ∀ n : Nat, (∀ i : Nat, i < n → vat F (x + i) = vat G (x + i)) → sumN F x n = sumN G x n
  | 0, _ => rfl
  | n + 1, h => by
    rw [sumN_step, sumN_step, sumN_ext n (fun i hi => h i (by omega)), h n (by omega)]
theorem sumN_zero {F : List Sg} {x : Int} (n : Nat) (h : ∀ i : Nat, i < n → vat F (x + i) = (0, 0)) : sumN F x n = (0, 0) := by
  rw [sumN_const (v := (0, 0)) n h]
  simp
/-- The sum of a cut, over a window that is wider by five ticks at each end. -/
theorem cut_sum {F : List Sg} {x : Int} {n : Nat} (hF : Canon F) (hb : farS4 x (x + n) = true) : sumN (cutL F x (x + n)) (x - 5) (5 + n + 5) = sumN F x n := by
  obtain ⟨_, hv⟩ := cutL_spec hF (show x ≤ x + n by omega) hb
  rw [show 5 + n + 5 = 5 + (n + 5) by omega, sumN_add, show x - 5 + ((5 : Nat) : Int) = x by omega, sumN_add]
  rw [sumN_zero (F := cutL F x (x + n)) (x := x - 5) 5 (fun i hi => by rw [hv]; unfold cutV; rw [if_neg (by omega)])]
  rw [sumN_zero (F := cutL F x (x + n)) (x := x + n) 5 (fun i hi => by rw [hv]; unfold cutV; rw [if_neg (by omega)])]
  rw [sumN_ext (F := cutL F x (x + n)) (G := F) (x := x) n (fun i hi => by rw [hv]; unfold cutV; rw [if_pos (by omega)])]
  simp
theorem leB_true {a b : Int × Int} (h : a.1 ≤ b.1 ∧ a.2 ≤ b.2) : leB a.1 a.2 b.1 b.2 = true := by
  cases hq : leB a.1 a.2 b.1 b.2
  · rw [leB_not] at hq; omega
  · rfl
theorem buildL_lenM (g : Int → Int × Int) : ∀ ts : List Int, (buildL g ts).length ≤ ts.length := by
  intro ts
  have key : ∀ k, k ≤ ts.length → (buildL g (ts.take k)).length ≤ k := by
    intro k
    induction k with
    | zero => intro _; simp [buildL]
    | succ k ih =>
      intro h
      rw [List.take_succ_eq_append_getElem (by omega), buildL_snoc]
      have := ih (by omega)
      unfold withL
      split
      · omega
      · simp; omega
  have := key ts.length (Nat.le_refl _)
  rwa [List.take_length] at this
end Go.Proofs.YtjhhcljbmnomlaaGreat

namespace Go.Proofs.YtjhhcljbmnomlaaGreat

/-- A policy: its kind, its limit, its window's length. -/
abbrev Pol := Int × (Int × Int) × Int
def capB (c : Int × Int) : Bool := leB 0 0 c.1 c.2 && leB c.1 c.2 1073741824 1073741824
theorem capB_iff {c : Int × Int} : capB c = true ↔ 0 ≤ c.1 ∧ 0 ≤ c.2 ∧ c.1 ≤ 1073741824 ∧ c.2 ≤ 1073741824 := by
  unfold capB; rw [Bool.and_eq_true, leB_iff, leB_iff]; constructor
  · rintro ⟨⟨a, b⟩, c, d⟩; exact ⟨a, b, c, d⟩
  · rintro ⟨a, b, c, d⟩; exact ⟨⟨a, b⟩, c, d⟩
/-- May a policy be? -/
def polB (x : Pol) : Bool :=
  if x.1 = 0 then decide (x.2.1 = (0, 0)) && decide (x.2.2 = 0)
  else if x.1 = 1 then capB x.2.1 && decide (x.2.2 = 0)
  else if x.1 = 2 then capB x.2.1 && decide (1 ≤ x.2.2 ∧ x.2.2 ≤ 4096) else false
def nowB (t : Int) : Bool := decide (-1099511627776 ≤ t ∧ t ≤ 1099511627776)
theorem nowB_iff {t : Int} : nowB t = true ↔ -1099511627776 ≤ t ∧ t ≤ 1099511627776 := by unfold nowB; exact decide_eq_true_iff

/-- The first time from x on at which something is bad, or that it never is. -/
def FstAt (bad : Int → Bool) (x : Int) (r : Int × Bool) : Prop :=
  (r = (0, true) ∧ ∀ s, x ≤ s → bad s = false) ∨ ∃ t, x ≤ t ∧ r = (t, false) ∧ bad t = true ∧ ∀ s, x ≤ s → s < t → bad s = false
theorem FstAt.eq {b b' : Int → Bool} {x : Int} {r r' : Int × Bool} (h : FstAt b x r) (h' : FstAt b' x r') (hb : ∀ s, x ≤ s → b s = b' s) : r = r' := by
  rcases h with ⟨rfl, h⟩ | ⟨t, h1, rfl, h2, h3⟩ <;> rcases h' with ⟨rfl, h'⟩ | ⟨t', h1', rfl, h2', h3'⟩
  · rfl
  · rw [← hb t' h1', h t' h1'] at h2'; cases h2'
  · rw [hb t h1, h' t h1] at h2; cases h2
  · by_cases c : t < t'
    · rw [hb t h1, h3' t h1 c] at h2; cases h2
    · by_cases c2 : t' < t
      · rw [← hb t' h1', h3 t' h1' c2] at h2'; cases h2'
      · have : t = t' := by omega
        rw [this]
theorem FstAt.holds {b : Int → Bool} {x : Int} {r : Int × Bool} (h : FstAt b x r) (hr : r.2 = true) : r = (0, true) ∧ ∀ s, x ≤ s → b s = false := by
  rcases h with h | ⟨t, _, rfl, _⟩
  · exact h
  · cases hr
theorem FstAt.not {b : Int → Bool} {x : Int} {r : Int × Bool} (h : FstAt b x r) (hr : r.2 = false) : x ≤ r.1 ∧ b r.1 = true ∧ ∀ s, x ≤ s → s < r.1 → b s = false := by
  rcases h with ⟨rfl, _⟩ | ⟨t, h1, rfl, h2, h3⟩
  · cases hr
  · exact ⟨h1, h2, h3⟩

def leP (F G : List Sg) (x : Int) : Int × Bool := ((leS F G x).1, (leS F G x).2.1)
def leBad (F G : List Sg) (t : Int) : Bool := !(leB (vat F t).1 (vat F t).2 (vat G t).1 (vat G t).2)
theorem leP_first {F G : List Sg} (hF : mayB F = true) (hG : mayB G = true) (x : Int) : FstAt (leBad F G) x (leP F G x) := by
  unfold leP
  rcases leS_may x hF hG with ⟨e, h⟩ | ⟨t, e, h1, h2, _, h3⟩
  · rw [e]; exact .inl ⟨rfl, fun s hs => by unfold leBad; rw [h s hs]; rfl⟩
  · rw [e]; exact .inr ⟨t, h1, rfl, by unfold leBad; rw [h2]; rfl, fun s hs hst => by unfold leBad; rw [h3 s hs hst]; rfl⟩
theorem leS_of (F G : List Sg) (x : Int) (hF : mayB F = true) (hG : mayB G = true) : leS F G x = ((leP F G x).1, (leP F G x).2, 0) := by
  unfold leP
  rcases leS_may x hF hG with ⟨e, _⟩ | ⟨t, e, _⟩ <;> rw [e]
theorem leP_ext {F G G' : List Sg} (hF : mayB F = true) (hG : mayB G = true) (hG' : mayB G' = true) {x : Int} (h : ∀ t, x ≤ t → vat G t = vat G' t) : leP F G x = leP F G' x :=
  (leP_first hF hG x).eq (leP_first hF hG' x) fun s hs => by unfold leBad; rw [h s hs]

/-- A limit, from a time on. -/
def limL (now : Int) (c : Int × Int) : List Sg := if c = (0, 0) then [] else [(now, c)]
theorem limL_canon {now : Int} {c : Int × Int} (hn : okT now = true) (hc : okV c.1 c.2 = true) : Canon (limL now c) := by
  unfold limL
  by_cases h : c = (0, 0)
  · rw [if_pos h]; exact trivial
  · rw [if_neg h]
    exact ⟨by unfold okS; rw [hn, hc]; rfl, h, fun s hs => by simp at hs, trivial⟩
theorem limL_vat {now t : Int} {c : Int × Int} (h : now ≤ t) : vat (limL now c) t = c := by
  unfold limL
  by_cases e : c = (0, 0)
  · rw [if_pos e, e]; rfl
  · rw [if_neg e]
    unfold vat stepV
    simp [h]
theorem limL_isOf {now : Int} {c : Int × Int} (hn : okT now = true) (hc : okV c.1 c.2 = true) {f : List Sg} (h : IsOf [(now, c)] f) : f = limL now c := by
  refine cf_ext h.1 (limL_canon hn hc) fun t => ?_
  show vat f t = vat (limL now c) t
  rw [h.2.1 t]
  unfold rv rread limL
  simp only [List.foldl_cons, List.foldl_nil]
  unfold rstep
  by_cases e : c = (0, 0)
  · rw [if_pos e]
    by_cases k : now ≤ t <;> simp [k, e, vat]
  · rw [if_neg e]
    unfold vat stepV
    by_cases k : now ≤ t <;> simp [k]
theorem cap_ok {c : Int × Int} (h : capB c = true) : okV c.1 c.2 = true := by
  obtain ⟨a, b, d, e⟩ := capB_iff.1 h
  exact okV_iff.2 ⟨by omega, by omega, by omega, by omega⟩
theorem now_okT {t : Int} (h : nowB t = true) : okT t = true := by
  obtain ⟨a, b⟩ := nowB_iff.1 h
  exact okT_iff.2 ⟨by omega, by omega⟩
theorem limL_may {now : Int} {c : Int × Int} (hn : okT now = true) (hc : capB c = true) : mayB (limL now c) = true := mayB_iff.2 (limL_canon hn (cap_ok hc))

/-- Sums in windows. -/
def ovP (F : List Sg) (x n : Int) (l : Int × Int) : Int × Bool := ((overS F x n l).1, !(overS F x n l).2.1)
theorem ovP_first {F : List Sg} {x n : Int} {l : Int × Int} (hm : mayB F = true) (ha : overArg x n = true) (ho : okV l.1 l.2 = true) : FstAt (overB F n.toNat l) x (ovP F x n l) := by
  unfold ovP
  rcases over_spec hm ha ho with ⟨e, h⟩ | ⟨t, h1, _, e, h2, h3⟩
  · rw [e]; exact .inl ⟨rfl, h⟩
  · rw [e]; exact .inr ⟨t, h1, rfl, h2, h3⟩
def wide (c : Int × Int) (n : Int) : Int × Int := (c.1 * n, c.2 * n)
theorem wide_le {c : Int × Int} {n : Int} (h : capB c = true) (h1 : 1 ≤ n) (h2 : n ≤ 4096) : 0 ≤ c.1 * n ∧ c.1 * n ≤ 4398046511104 ∧ 0 ≤ c.2 * n ∧ c.2 * n ≤ 4398046511104 := by
  obtain ⟨a, b, d, e⟩ := capB_iff.1 h
  have m1 : c.1 * n ≤ 1073741824 * 4096 := Int.mul_le_mul d h2 (by omega) (by omega)
  have m2 : c.2 * n ≤ 1073741824 * 4096 := Int.mul_le_mul e h2 (by omega) (by omega)
  exact ⟨Int.mul_nonneg a (by omega), by omega, Int.mul_nonneg b (by omega), by omega⟩
theorem wide_ok {c : Int × Int} {n : Int} (h : capB c = true) (h1 : 1 ≤ n) (h2 : n ≤ 4096) : okV (wide c n).1 (wide c n).2 = true := by
  obtain ⟨a, b, d, e⟩ := wide_le h h1 h2
  unfold wide
  exact okV_iff.2 ⟨by simp only; omega, by simp only; omega, by simp only; omega, by simp only; omega⟩
theorem scl_wide {c : Int × Int} {n : Int} (h : capB c = true) (h1 : 1 ≤ n) (h2 : n ≤ 4096) : sclS c.1 c.2 n = ((wide c n).1, (wide c n).2, 0) := by
  have ho := wide_ok h h1 h2
  unfold wide at ho ⊢
  unfold sclS
  rw [cap_ok h, ho]; rfl

/-- What a question's answer is: the load, the capacity, the user's load. -/
def ansP (x : Pol) (now : Int) (F G H : List Sg) : Int × Bool :=
  if x.1 = 0 then leP F G now else if x.1 = 1 then leP H (limL now x.2.1) now else ovP H now x.2.2 (wide x.2.1 x.2.2)
def badP (x : Pol) (F G H : List Sg) (t : Int) : Bool :=
  if x.1 = 0 then leBad F G t else if x.1 = 1 then !(leB (vat H t).1 (vat H t).2 x.2.1.1 x.2.1.2) else overB H x.2.2.toNat (wide x.2.1 x.2.2) t
theorem pol_kind {x : Pol} (h : polB x = true) : (x.1 = 0 ∧ x.2 = ((0, 0), 0)) ∨ (x.1 = 1 ∧ capB x.2.1 = true ∧ x.2.2 = 0) ∨ (x.1 = 2 ∧ capB x.2.1 = true ∧ 1 ≤ x.2.2 ∧ x.2.2 ≤ 4096) := by
  unfold polB at h
  split at h
  · rename_i e
    rw [Bool.and_eq_true, decide_eq_true_iff, decide_eq_true_iff] at h
    exact .inl ⟨e, Prod.ext h.1 h.2⟩
  split at h
  · rename_i e
    rw [Bool.and_eq_true, decide_eq_true_iff] at h
    exact .inr (.inl ⟨e, h.1, h.2⟩)
  split at h
  · rename_i e
    rw [Bool.and_eq_true, decide_eq_true_iff] at h
    exact .inr (.inr ⟨e, h.1, h.2.1, h.2.2⟩)
  · cases h
theorem ans_first {x : Pol} {now : Int} {F G H : List Sg} (hx : polB x = true) (hn : nowB now = true) (hF : mayB F = true) (hG : mayB G = true) (hH : mayB H = true) : FstAt (badP x F G H) now (ansP x now F G H) := by
  have hn' := nowB_iff.1 hn
  unfold badP ansP
  rcases pol_kind hx with ⟨e, _⟩ | ⟨e, hc, _⟩ | ⟨e, hc, h1, h2⟩
  · simp only [e, if_true]
    exact leP_first hF hG now
  · simp only [e, Int.reduceEq, if_true, if_false]
    rcases leP_first hH (limL_may (now_okT hn) hc) now with ⟨q, h⟩ | ⟨t, q1, q2, q3, q4⟩
    · exact .inl ⟨q, fun s hs => by have := h s hs; unfold leBad at this; rwa [limL_vat hs] at this⟩
    · exact .inr ⟨t, q1, q2, by unfold leBad at q3; rwa [limL_vat q1] at q3, fun s hs hst => by have := q4 s hs hst; unfold leBad at this; rwa [limL_vat hs] at this⟩
  · simp only [e, Int.reduceEq, if_false]
    exact ovP_first hH (overArg_iff.2 ⟨h1, h2, by omega, by omega⟩) (wide_ok hc h1 h2)
/-- What Check answers. -/
def chkP (x : Pol) (now : Int) (F G H : List Sg) : Int × Bool × Int :=
  if (polB x && nowB now) = false then (0, false, 2) else if (mayB F && mayB G && mayB H) = false then (0, false, 5) else ((ansP x now F G H).1, (ansP x now F G H).2, 0)
theorem chk_arg {x : Pol} {now : Int} {F G H : List Sg} (h : (polB x && nowB now) = false) : chkP x now F G H = (0, false, 2) := by unfold chkP; rw [if_pos h]
theorem chk_form {x : Pol} {now : Int} {F G H : List Sg} (h : (polB x && nowB now) = true) (h2 : (mayB F && mayB G && mayB H) = false) : chkP x now F G H = (0, false, 5) := by unfold chkP; rw [if_neg (by rw [h]; decide), if_pos h2]
theorem chk_ok {x : Pol} {now : Int} {F G H : List Sg} (h : (polB x && nowB now) = true) (h2 : (mayB F && mayB G && mayB H) = true) : chkP x now F G H = ((ansP x now F G H).1, (ansP x now F G H).2, 0) := by
  unfold chkP; rw [if_neg (by rw [h]; decide), if_neg (by rw [h2]; decide)]
/-- What is known of an answer. -/
theorem chk_cases (x : Pol) (now : Int) (F G H : List Sg) :
    (chkP x now F G H = (0, false, 2) ∧ (polB x && nowB now) = false) ∨ (chkP x now F G H = (0, false, 5) ∧ (polB x && nowB now) = true ∧ (mayB F && mayB G && mayB H) = false) ∨
    (polB x = true ∧ nowB now = true ∧ mayB F = true ∧ mayB G = true ∧ mayB H = true ∧ ∃ r, chkP x now F G H = (r.1, r.2, 0) ∧ FstAt (badP x F G H) now r) := by
  cases h : polB x && nowB now
  · exact .inl ⟨chk_arg h, rfl⟩
  cases h2 : mayB F && mayB G && mayB H
  · exact .inr (.inl ⟨chk_form h h2, rfl, rfl⟩)
  refine .inr (.inr ?_)
  have e := chk_ok h h2
  simp only [Bool.and_eq_true] at h h2
  exact ⟨h.1, h.2, h2.1.1, h2.1.2, h2.2, _, e, ans_first h.1 h.2 h2.1.1 h2.1.2 h2.2⟩
/-- The document's limit, from a time far back on. -/
theorem leP_far {H : List Sg} {now : Int} {c : Int × Int} (hH : mayB H = true) (hn : nowB now = true) (hc : capB c = true) : leP H (limL (-1125899906842624) c) now = leP H (limL now c) now :=
  leP_ext hH (limL_may (by decide) hc) (limL_may (now_okT hn) hc) fun t ht => by
    have := nowB_iff.1 hn
    rw [limL_vat (by omega), limL_vat ht]
end Go.Proofs.YtjhhcljbmnomlaaGreat

namespace Go.Proofs.YtjhhcljbmnomlaaGreat

theorem doS_vals {k : Int} {F G D : List Sg} (h : doS k F G = (D, 0)) : mayB F = true ∧ mayB G = true ∧ mayB D = true ∧ ∀ t, opT k F G t = ((vat D t).1, (vat D t).2, 0) := by
  unfold doS at h
  split at h
  · cases h
  · rename_i h1
    obtain ⟨a, b⟩ : mayB F = true ∧ mayB G = true := by simpa using h1
    split at h
    · rename_i h2
      cases h
      obtain ⟨c1, c2⟩ := opL_spec (mayB_iff.1 a) (mayB_iff.1 b) h2
      refine ⟨a, b, mayB_iff.2 c1, fun t => ?_⟩
      rw [c2 t]
      have := opOk_iff.1 h2 t
      unfold opW
      exact Prod.ext rfl (Prod.ext rfl this)
    · cases h
theorem doS_of {k : Int} {F G R : List Sg} (hF : mayB F = true) (hG : mayB G = true) (hR : mayB R = true) (h : ∀ t, opT k F G t = ((vat R t).1, (vat R t).2, 0)) : doS k F G = (R, 0) := by
  have hok : opOk k F G = true := opOk_iff.2 fun t => by rw [h t]
  unfold doS
  rw [hF, hG, if_neg (by decide), if_pos hok]
  rw [opL_unique (mayB_iff.1 hF) (mayB_iff.1 hG) hok (mayB_iff.1 hR) fun t => by unfold opW; rw [h t]]
theorem doS_ext {k : Int} {F G F' G' : List Sg} (hF : mayB F = true) (hG : mayB G = true) (hF' : mayB F' = true) (hG' : mayB G' = true) (h : ∀ t, opT k F G t = opT k F' G' t) : doS k F G = doS k F' G' := by
  by_cases hok : opOk k F G = true
  · have e : doS k F G = (opL k F G, 0) := by unfold doS; rw [hF, hG, if_neg (by decide), if_pos hok]
    rw [e]
    obtain ⟨_, _, hm, hv⟩ := doS_vals e
    exact (doS_of hF' hG' hm fun t => by rw [← h t, hv t]).symm
  · have hok' : ¬ opOk k F' G' = true := fun h' => hok (opOk_iff.2 fun t => by rw [h t]; exact opOk_iff.1 h' t)
    unfold doS
    rw [hF, hG, hF', hG', if_neg (by decide), if_neg hok, if_neg (by decide), if_neg hok']
/-- A function's least with itself. -/
theorem min_self {F : List Sg} (h : mayB F = true) : doS 2 F F = (F, 0) := doS_of h h h fun t => by
  unfold opT
  obtain ⟨a, b⟩ := vat F t
  rw [opV_2]
  unfold mn
  simp
end Go.Proofs.YtjhhcljbmnomlaaGreat

namespace Go.Proofs.YtjhhcljbmnomlaaGreat

theorem vat_ahead {F : List Sg} (h : mayB F = true) {t : Int} (ht : t < -1125899906842624) : vat F t = (0, 0) :=
  vat_before fun x hx => by
    have := okT_iff.1 (okT_of (CF.ok (mayB_iff.1 h)) hx)
    omega
theorem may_okF {F : List Sg} (h : mayB F = true) (t : Int) : okV (vat F t).1 (vat F t).2 = true := vat_ok (CF.ok (mayB_iff.1 h)) t
theorem withL_lenF (f : List Sg) (t : Int) (v : Int × Int) : (withL f t v).length ≤ f.length + 1 := by unfold withL; split <;> simp
theorem buildL_lenF (g : Int → Int × Int) (ts : List Int) : (buildL g ts).length ≤ ts.length := by
  have h : ∀ (ts : List Int) (f : List Sg), (ts.foldl (fun f t => withL f t (g t)) f).length ≤ f.length + ts.length := by
    intro ts
    induction ts with
    | nil => intro f; simp
    | cons t r ih =>
      intro f
      rw [List.foldl_cons]
      have h1 := ih (withL f t (g t))
      have h2 := withL_lenF f t (g t)
      simp only [List.length_cons]
      omega
  have := h ts []
  simpa [buildL] using this
/-- The difference of two vectors, by a time. -/
def difV (F G : List Sg) (t : Int) : Int × Int := ((vat F t).1 - (vat G t).1, (vat F t).2 - (vat G t).2)
theorem sub_opT {F G : List Sg} (hF : mayB F = true) (hG : mayB G = true) (t : Int) : opT 1 F G t = gate (okV (difV F G t).1 (difV F G t).2) (difV F G t).1 (difV F G t).2 := by
  show subS (vat F t).1 (vat F t).2 (vat G t).1 (vat G t).2 = _
  unfold subS difV
  rw [may_okF hF t, may_okF hG t]
  rfl
/-- What Sub hands back, of functions that may be. -/
theorem sub_is {F G f : List Sg} {er : Int} (hF : mayB F = true) (hG : mayB G = true) (h : doS 1 F G = (f, er)) :
    (er = 0 ∧ mayB f = true ∧ f.length ≤ F.length + G.length ∧ ∀ t, okV (difV F G t).1 (difV F G t).2 = true ∧ vat f t = difV F G t) ∨ (er = 10 ∧ f = [] ∧ ∃ t, okV (difV F G t).1 (difV F G t).2 = false) := by
  cases hk : opOk 1 F G
  · have e : doS 1 F G = ([], 10) := by unfold doS; rw [hF, hG, if_neg (by decide), if_neg (by rw [hk]; decide)]
    rw [e] at h; cases h
    refine .inr ⟨rfl, rfl, ?_⟩
    apply Classical.byContradiction
    intro hno
    have : opOk 1 F G = true := opOk_iff.2 fun t => by
      rw [sub_opT hF hG t]
      cases hb : okV (difV F G t).1 (difV F G t).2
      · exact absurd ⟨t, hb⟩ hno
      · rfl
    rw [this] at hk; cases hk
  · have e : doS 1 F G = (opL 1 F G, 0) := by unfold doS; rw [hF, hG, if_neg (by decide), if_pos hk]
    obtain ⟨_, _, hm, hv⟩ := doS_vals e
    rw [e] at h; cases h
    refine .inl ⟨rfl, hm, opL_len _ _ _, fun t => ?_⟩
    have h1 := hv t
    have h2 := opOk_iff.1 hk t
    rw [sub_opT hF hG t] at h1 h2
    have h3 := gate_ok h2
    refine ⟨h3, ?_⟩
    rw [gate_true h3] at h1
    obtain ⟨r1, r2⟩ := Prod.mk.inj h1
    obtain ⟨r2, _⟩ := Prod.mk.inj r2
    exact Prod.ext r1.symm r2.symm
/-- A function from a time on, and zero before. -/
def SinceIs (F : List Sg) (x : Int) (r : List Sg) : Prop := mayB r = true ∧ r.length ≤ 2 * F.length + 2 ∧ ∀ t, vat r t = if t < x then (0, 0) else vat F t
theorem since_spec {F : List Sg} {x : Int} (hF : mayB F = true) (hx : nowB x = true) :
    cutS F (-1125899906842624) x = (cutL F (-1125899906842624) x, 0) ∧ (cutL F (-1125899906842624) x).length ≤ F.length + 2 ∧ ∃ r, doS 1 F (cutL F (-1125899906842624) x) = (r, 0) ∧ SinceIs F x r := by
  have hx' := nowB_iff.1 hx
  have hfar : farS4 (-1125899906842624) x = true := by unfold farS4; exact decide_eq_true (by omega)
  obtain ⟨hC, hv⟩ := cutL_spec (F := F) (x := -1125899906842624) (y := x) (mayB_iff.1 hF) (by omega) hfar
  have hl : (cutL F (-1125899906842624) x).length ≤ F.length + 2 := by unfold cutL; exact Nat.le_trans (buildL_lenF _ _) (cutT_len _ _ _)
  have hB := mayB_iff.2 hC
  have hd : ∀ t, difV F (cutL F (-1125899906842624) x) t = if t < x then (0, 0) else vat F t := fun t => by
    unfold difV
    rw [hv t]
    unfold cutV
    by_cases c : t < x
    · by_cases d : -1125899906842624 ≤ t
      · rw [if_pos ⟨d, c⟩, if_pos c]; simp
      · rw [if_neg (fun e => d e.1), if_pos c, vat_ahead hF (by omega)]; simp
    · rw [if_neg (fun e => c e.2), if_neg c]; simp
  refine ⟨?_, hl, ?_⟩
  · unfold cutS
    rw [hF, if_neg (by decide), if_neg (by omega), hfar, if_neg (by decide)]
  · obtain ⟨⟨r, er⟩, hr⟩ : ∃ r, doS 1 F (cutL F (-1125899906842624) x) = r := ⟨_, rfl⟩
    rcases sub_is hF hB hr with ⟨rfl, h1, h2, h3⟩ | ⟨_, _, t, ht⟩
    · exact ⟨r, hr, h1, by omega, fun t => ((h3 t).2).trans (hd t)⟩
    · rw [hd t] at ht
      split at ht
      · cases ht
      · rw [may_okF hF t] at ht; cases ht

/-- What the free function does not exceed. -/
inductive Bd where
  | most
  | rest
  | lim (v : Int × Int)
def valB (C L O : List Sg) (x : Int) (b : Bd) (t : Int) : Int × Int :=
  match b with
  | .most => if t < x then (0, 0) else (1125899906842624, 1125899906842624)
  | .rest => difV C L t
  | .lim v => if t < x then (0 - (vat O t).1, 0 - (vat O t).2) else (v.1 - (vat O t).1, v.2 - (vat O t).2)
def BdOk (C L O : List Sg) (x : Int) (b : Bd) : Prop := (∀ v, b = .lim v → okV v.1 v.2 = true) ∧ ∀ t, okV (valB C L O x b t).1 (valB C L O x b t).2 = true
def BdIs (C L O : List Sg) (x : Int) (b : Bd) (f : List Sg) (er : Int) : Prop :=
  f.length ≤ C.length + L.length + O.length + 1 ∧ ((er = 0 ∧ mayB f = true ∧ BdOk C L O x b ∧ ∀ t, vat f t = valB C L O x b t) ∨ (er = 10 ∧ f = [] ∧ ¬ BdOk C L O x b))
/-- The function that is one vector from a time on. -/
def ConIs (x : Int) (v : Int × Int) (f : List Sg) : Prop := mayB f = true ∧ f.length ≤ 1 ∧ ∀ t, vat f t = if t < x then (0, 0) else v
theorem con_of {x : Int} {v : Int × Int} {f : List Sg} (h : IsOf [(x, v)] f) : ConIs x v f := by
  obtain ⟨h1, h2, h3⟩ := h
  refine ⟨mayB_iff.2 h1, h3, fun t => ?_⟩
  rw [h2 t]
  unfold rv rread
  simp only [List.foldl_cons, List.foldl_nil]
  unfold rstep
  by_cases k : x ≤ t
  · have k2 : ¬ t < x := by omega
    simp [k, k2]
  · have k2 : t < x := by omega
    simp [k, k2]
theorem bd_most {C L O f : List Sg} {x : Int} (h : ConIs x (1125899906842624, 1125899906842624) f) : BdIs C L O x .most f 0 := by
  obtain ⟨h1, h2, h3⟩ := h
  refine ⟨by omega, .inl ⟨rfl, h1, ⟨fun v e => (Bd.noConfusion e), fun t => ?_⟩, h3⟩⟩
  show okV (if t < x then ((0, 0) : Int × Int) else (1125899906842624, 1125899906842624)).1 (if t < x then ((0, 0) : Int × Int) else (1125899906842624, 1125899906842624)).2 = true
  split <;> decide
theorem bd_rest {C L O f : List Sg} {x er : Int} (hC : mayB C = true) (hL : mayB L = true) (h : doS 1 C L = (f, er)) : BdIs C L O x .rest f er := by
  rcases sub_is hC hL h with ⟨rfl, h1, h2, h3⟩ | ⟨rfl, rfl, t, ht⟩
  · exact ⟨by omega, .inl ⟨rfl, h1, ⟨fun v e => (Bd.noConfusion e), fun t => (h3 t).1⟩, fun t => (h3 t).2⟩⟩
  · refine ⟨by simp, .inr ⟨rfl, rfl, fun hno => ?_⟩⟩
    have := hno.2 t
    change okV (difV C L t).1 (difV C L t).2 = true at this
    rw [ht] at this; cases this
theorem bd_limbad {C L O : List Sg} {x : Int} {v : Int × Int} (h : okV v.1 v.2 = false) : BdIs C L O x (.lim v) [] 10 :=
  ⟨by simp, .inr ⟨rfl, rfl, fun hno => by rw [hno.1 v rfl] at h; cases h⟩⟩
theorem bd_lim {C L O c f : List Sg} {x er : Int} {v : Int × Int} (hv : okV v.1 v.2 = true) (hO : mayB O = true) (hc : ConIs x v c) (h : doS 1 c O = (f, er)) : BdIs C L O x (.lim v) f er := by
  obtain ⟨c1, c2, c3⟩ := hc
  have hd : ∀ t, difV c O t = valB C L O x (.lim v) t := fun t => by
    unfold difV valB
    rw [c3 t]
    by_cases k : t < x <;> simp [k]
  rcases sub_is c1 hO h with ⟨rfl, h1, h2, h3⟩ | ⟨rfl, rfl, t, ht⟩
  · exact ⟨by omega, .inl ⟨rfl, h1, ⟨fun u e => by cases e; exact hv, fun t => by rw [← hd t]; exact (h3 t).1⟩, fun t => (h3 t).2.trans (hd t)⟩⟩
  · refine ⟨by simp, .inr ⟨rfl, rfl, fun hno => ?_⟩⟩
    have := hno.2 t
    rw [← hd t, ht] at this; cases this

/-- The smallest and the greatest of the limits. -/
def limT (caps : List (Int × Int)) (p : Pol) : List (Int × Int) :=
  if p.1 ≠ 1 then caps else if caps.length = 0 then [p.2.1, p.2.1] else
    [(mn (caps.getD 0 (0, 0)).1 p.2.1.1, mn (caps.getD 0 (0, 0)).2 p.2.1.2), (mx (caps.getD 1 (0, 0)).1 p.2.1.1, mx (caps.getD 1 (0, 0)).2 p.2.1.2)]
def limS (P : List Pol) : List (Int × Int) := P.foldl limT []
theorem limS_step {P : List Pol} {k : Nat} (h : k < P.length) : limS (P.take (k + 1)) = limT (limS (P.take k)) (P.getD k (0, (0, 0), 0)) := by
  unfold limS
  rw [List.take_succ_eq_append_getElem h, List.foldl_append, getD_get _ _ _ h]
  rfl
def LimIs (P : List Pol) (l : List (Int × Int)) : Prop := (l = [] ∧ ∀ p ∈ P, p.1 ≠ 1) ∨ ∃ a b : Int × Int, l = [a, b] ∧ (∀ p ∈ P, p.1 = 1 → a.1 ≤ p.2.1.1 ∧ a.2 ≤ p.2.1.2 ∧ p.2.1.1 ≤ b.1 ∧ p.2.1.2 ≤ b.2) ∧
  (∃ p ∈ P, p.1 = 1 ∧ p.2.1.1 = a.1) ∧ (∃ p ∈ P, p.1 = 1 ∧ p.2.1.2 = a.2) ∧ (∃ p ∈ P, p.1 = 1 ∧ p.2.1.1 = b.1) ∧ ∃ p ∈ P, p.1 = 1 ∧ p.2.1.2 = b.2
theorem LimIs.step {P : List Pol} {l : List (Int × Int)} (h : LimIs P l) (p : Pol) : LimIs (P ++ [p]) (limT l p) := by
  by_cases k : p.1 = 1
  · have hx : ∀ {q : Pol → Prop}, (∃ p' ∈ P, q p') → ∃ p' ∈ P ++ [p], q p' := fun ⟨p', h1, h2⟩ => ⟨p', by simp [h1], h2⟩
    have hp : p ∈ P ++ [p] := by simp
    rcases h with ⟨rfl, h⟩ | ⟨a, b, rfl, h, a1, a2, b1, b2⟩
    · refine .inr ⟨p.2.1, p.2.1, by unfold limT; rw [if_neg (by simpa using k)]; rfl, fun q hq hk => ?_, ⟨p, hp, k, rfl⟩, ⟨p, hp, k, rfl⟩, ⟨p, hp, k, rfl⟩, ⟨p, hp, k, rfl⟩⟩
      rcases List.mem_append.1 hq with hq | hq
      · exact absurd hk (h q hq)
      · simp at hq; subst hq; omega
    · refine .inr ⟨_, _, by unfold limT; rw [if_neg (by simpa using k), if_neg (by simp)], fun q hq hk => ?_, ?_, ?_, ?_, ?_⟩
      · simp only [List.getD_cons_zero, List.getD_cons_succ, mn_min, mx_max]
        rcases List.mem_append.1 hq with hq | hq
        · have := h q hq hk; omega
        · simp at hq; subst hq; omega
      · show ∃ p' ∈ P ++ [p], p'.1 = 1 ∧ p'.2.1.1 = mn a.1 p.2.1.1
        unfold mn; split
        · exact hx (q := fun p' => p'.1 = 1 ∧ p'.2.1.1 = a.1) a1
        · exact ⟨p, hp, k, rfl⟩
      · show ∃ p' ∈ P ++ [p], p'.1 = 1 ∧ p'.2.1.2 = mn a.2 p.2.1.2
        unfold mn; split
        · exact hx (q := fun p' => p'.1 = 1 ∧ p'.2.1.2 = a.2) a2
        · exact ⟨p, hp, k, rfl⟩
      · show ∃ p' ∈ P ++ [p], p'.1 = 1 ∧ p'.2.1.1 = mx b.1 p.2.1.1
        unfold mx; split
        · exact ⟨p, hp, k, rfl⟩
        · exact hx (q := fun p' => p'.1 = 1 ∧ p'.2.1.1 = b.1) b1
      · show ∃ p' ∈ P ++ [p], p'.1 = 1 ∧ p'.2.1.2 = mx b.2 p.2.1.2
        unfold mx; split
        · exact ⟨p, hp, k, rfl⟩
        · exact hx (q := fun p' => p'.1 = 1 ∧ p'.2.1.2 = b.2) b2
  · have e : limT l p = l := by unfold limT; rw [if_pos (by simpa using k)]
    rw [e]
    have hm : ∀ q ∈ P ++ [p], q.1 = 1 → q ∈ P := fun q hq hk => by
      rcases List.mem_append.1 hq with hq | hq
      · exact hq
      · simp at hq; subst hq; exact absurd hk k
    rcases h with ⟨rfl, h⟩ | ⟨a, b, rfl, h, ⟨p1, m1, a1⟩, ⟨p2, m2, a2⟩, ⟨p3, m3, b1⟩, p4, m4, b2⟩
    · exact .inl ⟨rfl, fun q hq hk => h q (hm q hq hk) hk⟩
    · exact .inr ⟨a, b, rfl, fun q hq hk => h q (hm q hq hk) hk, ⟨p1, by simp [m1], a1⟩, ⟨p2, by simp [m2], a2⟩, ⟨p3, by simp [m3], b1⟩, p4, by simp [m4], b2⟩
theorem lim_aux : ∀ (Q P : List Pol) (l : List (Int × Int)), LimIs P l → LimIs (P ++ Q) (Q.foldl limT l)
  | [], P, l, h => by simpa using h
  | p :: Q, P, l, h => by
    have := lim_aux Q (P ++ [p]) _ (h.step p)
    rw [List.foldl_cons]
    simpa using this
theorem lim_is (P : List Pol) : LimIs P (limS P) := by
  have := lim_aux P [] [] (.inl ⟨rfl, fun p hp => by simp at hp⟩)
  rwa [List.nil_append] at this

/-- The bounds that there are. -/
def hasC (P : List Pol) : Bool := P.any fun p => p.1 == 0
def bds (P : List Pol) : List Bd := .most :: ((if hasC P then [.rest] else []) ++ (limS P).map .lim)
theorem bds_len (P : List Pol) : (bds P).length ≤ 4 := by
  have : (limS P).length ≤ 2 := by
    rcases lim_is P with ⟨e, _⟩ | ⟨a, b, e, _⟩ <;> rw [e] <;> simp
  unfold bds
  split <;> simp <;> omega

/-- The free function's differences may be. -/
def FreeOk (P : List Pol) (C L O : List Sg) (x : Int) : Prop :=
  ∀ p ∈ P, (p.1 = 0 → ∀ t, x ≤ t → okV ((vat C t).1 - (vat L t).1) ((vat C t).2 - (vat L t).2) = true) ∧ (p.1 = 1 → okV p.2.1.1 p.2.1.2 = true ∧ ∀ t, x ≤ t → okV (p.2.1.1 - (vat O t).1) (p.2.1.2 - (vat O t).2) = true)
def FreeAt1 (P : List Pol) (C L O : List Sg) (t a : Int) : Prop := a ≤ 1125899906842624 ∧ ∀ p ∈ P, (p.1 = 0 → a ≤ (vat C t).1 - (vat L t).1) ∧ (p.1 = 1 → a ≤ p.2.1.1 - (vat O t).1)
def FreeAt2 (P : List Pol) (C L O : List Sg) (t a : Int) : Prop := a ≤ 1125899906842624 ∧ ∀ p ∈ P, (p.1 = 0 → a ≤ (vat C t).2 - (vat L t).2) ∧ (p.1 = 1 → a ≤ p.2.1.2 - (vat O t).2)
def FreeF (P : List Pol) (C L O : List Sg) (x : Int) (f : List Sg) : Prop :=
  mayB f = true ∧ (∀ t, t < x → vat f t = (0, 0)) ∧ ∀ t, x ≤ t → ∀ a, (a ≤ (vat f t).1 ↔ FreeAt1 P C L O t a) ∧ (a ≤ (vat f t).2 ↔ FreeAt2 P C L O t a)
def FreeIs (P : List Pol) (C L O : List Sg) (x : Int) (f : List Sg) (er : Int) : Prop :=
  ((mayB C && mayB L && mayB O) = false ∧ f = [] ∧ er = 5) ∨ ((mayB C && mayB L && mayB O) = true ∧
    (((∃ p ∈ P, 2 < p.1) ∧ f = [] ∧ er = 2) ∨ ((∀ p ∈ P, p.1 ≤ 2) ∧ ((nowB x = false ∧ f = [] ∧ er = 10) ∨ (nowB x = true ∧ ((¬ FreeOk P C L O x ∧ f = [] ∧ er = 10) ∨ (FreeOk P C L O x ∧ er = 0 ∧ FreeF P C L O x f)))))))
theorem hasC_iff {P : List Pol} : hasC P = true ↔ ∃ p ∈ P, p.1 = 0 := by
  unfold hasC; rw [List.any_eq_true]; simp
theorem bds_mem {P : List Pol} {b : Bd} : b ∈ bds P ↔ b = .most ∨ (b = .rest ∧ ∃ p ∈ P, p.1 = 0) ∨ ∃ v ∈ limS P, b = .lim v := by
  unfold bds
  rw [List.mem_cons, List.mem_append, List.mem_map]
  have : b ∈ (if hasC P then [Bd.rest] else []) ↔ (b = .rest ∧ ∃ p ∈ P, p.1 = 0) := by
    rw [← hasC_iff]
    cases hasC P <;> simp
  rw [this]
  constructor
  · rintro (h | h | ⟨v, h1, h2⟩)
    · exact .inl h
    · exact .inr (.inl h)
    · exact .inr (.inr ⟨v, h1, h2.symm⟩)
  · rintro (h | h | ⟨v, h1, h2⟩)
    · exact .inl h
    · exact .inr (.inl h)
    · exact .inr (.inr ⟨v, h1, h2.symm⟩)
section
variable {P : List Pol} {C L O C' L' O' : List Sg} {x : Int}
theorem free_ok (hC : SinceIs C x C') (hL : SinceIs L x L') (hO : SinceIs O x O') : (∀ b ∈ bds P, BdOk C' L' O' x b) ↔ FreeOk P C L O x := by
  obtain ⟨_, _, vC⟩ := hC; obtain ⟨_, _, vL⟩ := hL; obtain ⟨_, _, vO⟩ := hO
  constructor
  · intro h p hp
    refine ⟨fun k t ht => ?_, fun k => ?_⟩
    · have := (h .rest (bds_mem.2 (.inr (.inl ⟨rfl, p, hp, k⟩)))).2 t
      change okV (difV C' L' t).1 (difV C' L' t).2 = true at this
      unfold difV at this
      rw [vC t, vL t, if_neg (by omega), if_neg (by omega)] at this
      exact this
    · rcases lim_is P with ⟨_, hn⟩ | ⟨a, b, e, hab, _⟩
      · exact absurd k (hn p hp)
      · have ha := h (.lim a) (bds_mem.2 (.inr (.inr ⟨a, by rw [e]; simp, rfl⟩)))
        have hb := h (.lim b) (bds_mem.2 (.inr (.inr ⟨b, by rw [e]; simp, rfl⟩)))
        have q := hab p hp k
        have oa := okV_iff.1 (ha.1 a rfl); have ob := okV_iff.1 (hb.1 b rfl)
        refine ⟨okV_iff.2 (by omega), fun t ht => ?_⟩
        have ta := ha.2 t; have tb := hb.2 t
        unfold valB at ta tb
        simp only [if_neg (show ¬ t < x by omega), vO t] at ta tb
        have ta := okV_iff.1 ta; have tb := okV_iff.1 tb
        exact okV_iff.2 (by omega)
  · intro h b hb
    rcases bds_mem.1 hb with rfl | ⟨rfl, p, hp, k⟩ | ⟨v, hv, rfl⟩
    · refine ⟨fun v e => (Bd.noConfusion e), fun t => ?_⟩
      show okV (if t < x then ((0, 0) : Int × Int) else (1125899906842624, 1125899906842624)).1 (if t < x then ((0, 0) : Int × Int) else (1125899906842624, 1125899906842624)).2 = true
      split <;> decide
    · refine ⟨fun v e => (Bd.noConfusion e), fun t => ?_⟩
      show okV (difV C' L' t).1 (difV C' L' t).2 = true
      unfold difV
      rw [vC t, vL t]
      by_cases c : t < x
      · rw [if_pos c, if_pos c]; decide
      · rw [if_neg c, if_neg c]; exact (h p hp).1 k t (by omega)
    · have key : okV v.1 v.2 = true ∧ ∀ t, x ≤ t → okV (v.1 - (vat O t).1) (v.2 - (vat O t).2) = true := by
        rcases lim_is P with ⟨e, _⟩ | ⟨a, b, e, hab, ⟨p1, m1, k1, a1⟩, ⟨p2, m2, k2, a2⟩, ⟨p3, m3, k3, b1⟩, p4, m4, k4, b2⟩
        · rw [e] at hv; simp at hv
        · have o1 := (h p1 m1).2 k1; have o2 := (h p2 m2).2 k2; have o3 := (h p3 m3).2 k3; have o4 := (h p4 m4).2 k4
          have q1 := okV_iff.1 o1.1; have q2 := okV_iff.1 o2.1; have q3 := okV_iff.1 o3.1; have q4 := okV_iff.1 o4.1
          rw [e] at hv
          simp at hv
          rcases hv with rfl | rfl
          · refine ⟨okV_iff.2 (by omega), fun t ht => ?_⟩
            have r1 := okV_iff.1 (o1.2 t ht); have r2 := okV_iff.1 (o2.2 t ht)
            exact okV_iff.2 (by omega)
          · refine ⟨okV_iff.2 (by omega), fun t ht => ?_⟩
            have r1 := okV_iff.1 (o3.2 t ht); have r2 := okV_iff.1 (o4.2 t ht)
            exact okV_iff.2 (by omega)
      refine ⟨fun u e => by cases e; exact key.1, fun t => ?_⟩
      unfold valB
      by_cases c : t < x
      · simp only [if_pos c, vO t]; decide
      · simp only [if_neg c, vO t]; exact key.2 t (by omega)
/-- The least of some functions. -/
def MinIs (Fs : List (List Sg)) (f : List Sg) : Prop := mayB f = true ∧ ∀ t a, (a ≤ (vat f t).1 ↔ ∀ F ∈ Fs, a ≤ (vat F t).1) ∧ (a ≤ (vat f t).2 ↔ ∀ F ∈ Fs, a ≤ (vat F t).2)
/-- Functions that are bounds. -/
def BdsAre (C L O : List Sg) (x : Int) (bs : List Bd) (Fs : List (List Sg)) : Prop := Fs.length = bs.length ∧ ∀ i, i < bs.length → mayB (Fs.getD i []) = true ∧ BdOk C L O x (bs.getD i .most) ∧ ∀ t, vat (Fs.getD i []) t = valB C L O x (bs.getD i .most) t
theorem BdsAre.all {bs : List Bd} {Fs : List (List Sg)} (h : BdsAre C L O x bs Fs) {q : Int × Int → Prop} (t : Int) : (∀ F ∈ Fs, q (vat F t)) ↔ ∀ b ∈ bs, q (valB C L O x b t) := by
  obtain ⟨hl, h⟩ := h
  constructor
  · intro hq b hb
    obtain ⟨i, hi, rfl⟩ := List.getElem_of_mem hb
    have h1 := (h i hi).2.2 t
    rw [getD_get _ _ _ hi, getD_get _ _ _ (by omega)] at h1
    rw [← h1]
    exact hq _ (List.getElem_mem _)
  · intro hq F hF
    obtain ⟨i, hi, rfl⟩ := List.getElem_of_mem hF
    have h1 := (h i (by omega)).2.2 t
    rw [getD_get _ _ _ (show i < bs.length by omega), getD_get _ _ _ hi] at h1
    rw [h1]
    exact hq _ (List.getElem_mem _)
theorem free_val {Fs : List (List Sg)} {f : List Sg} (hC : SinceIs C x C') (hL : SinceIs L x L') (hO : SinceIs O x O') (hF : BdsAre C' L' O' x (bds P) Fs) (hm : MinIs Fs f) : FreeF P C L O x f := by
  obtain ⟨_, _, vC⟩ := hC; obtain ⟨_, _, vL⟩ := hL; obtain ⟨_, _, vO⟩ := hO
  obtain ⟨h1, h2⟩ := hm
  refine ⟨h1, fun t ht => ?_, fun t ht a => ?_⟩
  · have z : ∀ b ∈ bds P, valB C' L' O' x b t = (0, 0) := fun b _ => by
      cases b with
      | most => exact if_pos ht
      | rest => show difV C' L' t = _; unfold difV; rw [vC t, vL t, if_pos ht, if_pos ht]; rfl
      | lim v => unfold valB; simp only [vO t, if_pos ht]; rfl
    have e1 : ∀ a, a ≤ (vat f t).1 ↔ a ≤ 0 := fun a => by
      rw [(h2 t a).1, hF.all (q := fun v => a ≤ v.1) t]
      exact ⟨fun h => by have := h .most (bds_mem.2 (.inl rfl)); rwa [z _ (bds_mem.2 (.inl rfl))] at this, fun h b hb => by rw [z b hb]; exact h⟩
    have e2 : ∀ a, a ≤ (vat f t).2 ↔ a ≤ 0 := fun a => by
      rw [(h2 t a).2, hF.all (q := fun v => a ≤ v.2) t]
      exact ⟨fun h => by have := h .most (bds_mem.2 (.inl rfl)); rwa [z _ (bds_mem.2 (.inl rfl))] at this, fun h b hb => by rw [z b hb]; exact h⟩
    have x1 := (e1 _).1 (Int.le_refl _); have x2 := (e1 0).2 (Int.le_refl _); have y1 := (e2 _).1 (Int.le_refl _); have y2 := (e2 0).2 (Int.le_refl _)
    exact Prod.ext (by show (vat f t).1 = 0; omega) (by show (vat f t).2 = 0; omega)
  · have hnt : ¬ t < x := by omega
    have em : valB C' L' O' x .most t = (1125899906842624, 1125899906842624) := if_neg hnt
    have er : valB C' L' O' x .rest t = difV C L t := by show difV C' L' t = _; unfold difV; rw [vC t, vL t, if_neg hnt, if_neg hnt]
    have el : ∀ v, valB C' L' O' x (.lim v) t = (v.1 - (vat O t).1, v.2 - (vat O t).2) := fun v => by unfold valB; simp only [vO t, if_neg hnt]
    rw [(h2 t a).1, (h2 t a).2, hF.all (q := fun v => a ≤ v.1) t, hF.all (q := fun v => a ≤ v.2) t]
    constructor
    · constructor
      · intro h
        refine ⟨by have := h .most (bds_mem.2 (.inl rfl)); rwa [em] at this, fun p hp => ⟨fun k => ?_, fun k => ?_⟩⟩
        · have := h .rest (bds_mem.2 (.inr (.inl ⟨rfl, p, hp, k⟩)))
          rw [er] at this; exact this
        · rcases lim_is P with ⟨_, hn⟩ | ⟨c, b, e, hab, _⟩
          · exact absurd k (hn p hp)
          · have := h (.lim c) (bds_mem.2 (.inr (.inr ⟨c, by rw [e]; simp, rfl⟩)))
            rw [el] at this
            have q := hab p hp k
            simp only at this
            omega
      · rintro ⟨ha, hp⟩ b hb
        rcases bds_mem.1 hb with rfl | ⟨rfl, p, hp', k⟩ | ⟨v, hv, rfl⟩
        · rw [em]; exact ha
        · rw [er]; exact (hp p hp').1 k
        · rw [el]
          show a ≤ v.1 - (vat O t).1
          rcases lim_is P with ⟨e, _⟩ | ⟨c, b, e, hab, ⟨p1, m1, k1, a1⟩, ⟨p2, m2, k2, a2⟩, ⟨p3, m3, k3, b1⟩, p4, m4, k4, b2⟩
          · rw [e] at hv; simp at hv
          · have q1 := (hp p1 m1).2 k1; have q3 := (hp p3 m3).2 k3
            rw [e] at hv
            simp at hv
            rcases hv with rfl | rfl <;> omega
    · constructor
      · intro h
        refine ⟨by have := h .most (bds_mem.2 (.inl rfl)); rwa [em] at this, fun p hp => ⟨fun k => ?_, fun k => ?_⟩⟩
        · have := h .rest (bds_mem.2 (.inr (.inl ⟨rfl, p, hp, k⟩)))
          rw [er] at this; exact this
        · rcases lim_is P with ⟨_, hn⟩ | ⟨c, b, e, hab, _⟩
          · exact absurd k (hn p hp)
          · have := h (.lim c) (bds_mem.2 (.inr (.inr ⟨c, by rw [e]; simp, rfl⟩)))
            rw [el] at this
            have q := hab p hp k
            simp only at this
            omega
      · rintro ⟨ha, hp⟩ b hb
        rcases bds_mem.1 hb with rfl | ⟨rfl, p, hp', k⟩ | ⟨v, hv, rfl⟩
        · rw [em]; exact ha
        · rw [er]; exact (hp p hp').1 k
        · rw [el]
          show a ≤ v.2 - (vat O t).2
          rcases lim_is P with ⟨e, _⟩ | ⟨c, b, e, hab, ⟨p1, m1, k1, a1⟩, ⟨p2, m2, k2, a2⟩, ⟨p3, m3, k3, b1⟩, p4, m4, k4, b2⟩
          · rw [e] at hv; simp at hv
          · have q1 := (hp p2 m2).2 k2; have q3 := (hp p4 m4).2 k4
            rw [e] at hv
            simp at hv
            rcases hv with rfl | rfl <;> omega
end
/-- There is one free function. -/
theorem FreeF.unique {P P' : List Pol} {C L O f g : List Sg} {x : Int} (h : FreeF P C L O x f) (h' : FreeF P' C L O x g) (hP : ∀ p, p ∈ P ↔ p ∈ P') : f = g := by
  obtain ⟨m1, z1, v1⟩ := h; obtain ⟨m2, z2, v2⟩ := h'
  refine cf_ext (mayB_iff.1 m1) (mayB_iff.1 m2) fun t => ?_
  show vat f t = vat g t
  by_cases c : t < x
  · rw [z1 t c, z2 t c]
  · have w1 := v1 t (by omega); have w2 := v2 t (by omega)
    have s1 : ∀ a, FreeAt1 P C L O t a ↔ FreeAt1 P' C L O t a := fun a => by unfold FreeAt1; simp only [hP]
    have s2 : ∀ a, FreeAt2 P C L O t a ↔ FreeAt2 P' C L O t a := fun a => by unfold FreeAt2; simp only [hP]
    have e1 : ∀ a, a ≤ (vat f t).1 ↔ a ≤ (vat g t).1 := fun a => by rw [(w1 a).1, (w2 a).1]; exact s1 a
    have e2 : ∀ a, a ≤ (vat f t).2 ↔ a ≤ (vat g t).2 := fun a => by rw [(w1 a).2, (w2 a).2]; exact s2 a
    have x1 := (e1 _).1 (Int.le_refl _); have x2 := (e1 _).2 (Int.le_refl _); have y1 := (e2 _).1 (Int.le_refl _); have y2 := (e2 _).2 (Int.le_refl _)
    exact Prod.ext (by omega) (by omega)
theorem FreeOk.congr {P P' : List Pol} {C L O : List Sg} {x : Int} (hP : ∀ p, p ∈ P ↔ p ∈ P') : FreeOk P C L O x ↔ FreeOk P' C L O x := by unfold FreeOk; simp only [hP]
/-- The answer hangs on which policies there are alone. -/
theorem FreeIs.unique {P P' : List Pol} {C L O f g : List Sg} {x e e' : Int} (h : FreeIs P C L O x f e) (h' : FreeIs P' C L O x g e') (hP : ∀ p, p ∈ P ↔ p ∈ P') : f = g ∧ e = e' := by
  have ho := FreeOk.congr (C := C) (L := L) (O := O) (x := x) hP
  rcases h with ⟨a, rfl, rfl⟩ | ⟨a, ⟨⟨p, hp, hk⟩, rfl, rfl⟩ | ⟨hk, ⟨b, rfl, rfl⟩ | ⟨b, ⟨c, rfl, rfl⟩ | ⟨c, rfl, d⟩⟩⟩⟩ <;>
  rcases h' with ⟨a', rfl, rfl⟩ | ⟨a', ⟨⟨p', hp', hk'⟩, rfl, rfl⟩ | ⟨hk', ⟨b', rfl, rfl⟩ | ⟨b', ⟨c', rfl, rfl⟩ | ⟨c', rfl, d'⟩⟩⟩⟩
  all_goals first
    | exact ⟨rfl, rfl⟩
    | (rw [a] at a'; cases a'; done)
    | (rw [b] at b'; cases b'; done)
    | (exfalso; have := hk' p ((hP p).1 hp); omega)
    | (exfalso; have := hk p' ((hP p').2 hp'); omega)
    | exact absurd (ho.2 c') c
    | exact absurd (ho.1 c) c'
    | exact ⟨d.unique d' hP, rfl⟩
/-- More to keep frees no more. -/
theorem free_less {P P' : List Pol} {C L O C' L' f g : List Sg} {x : Int} (h : FreeF P C L O x f) (h' : FreeF P' C' L' O x g) (hP : ∀ p ∈ P, p ∈ P') (hC : ∀ t, leB (vat C' t).1 (vat C' t).2 (vat C t).1 (vat C t).2 = true) (hL : ∀ t, leB (vat L t).1 (vat L t).2 (vat L' t).1 (vat L' t).2 = true) (t : Int) :
    leB (vat g t).1 (vat g t).2 (vat f t).1 (vat f t).2 = true := by
  obtain ⟨_, z1, v1⟩ := h; obtain ⟨_, z2, v2⟩ := h'
  by_cases c : t < x
  · rw [z1 t c, z2 t c]; decide
  · have w1 := v1 t (by omega); have w2 := v2 t (by omega)
    obtain ⟨a1, b1⟩ := ((w2 (vat g t).1).1).1 (Int.le_refl _)
    obtain ⟨a2, b2⟩ := ((w2 (vat g t).2).2).1 (Int.le_refl _)
    have hc := leB_iff.1 (hC t); have hl := leB_iff.1 (hL t)
    refine leB_iff.2 ⟨((w1 _).1).2 ⟨a1, fun p hp => ⟨fun k => ?_, fun k => ?_⟩⟩, ((w1 _).2).2 ⟨a2, fun p hp => ⟨fun k => ?_, fun k => ?_⟩⟩⟩
    · have := (b1 p (hP p hp)).1 k; omega
    · exact (b1 p (hP p hp)).2 k
    · have := (b2 p (hP p hp)).1 k; omega
    · exact (b2 p (hP p hp)).2 k
end Go.Proofs.YtjhhcljbmnomlaaGreat

namespace Go.Proofs.YtjhhcljbmnomlaaGreat

/-- What stands against looking at a window. -/
def fitE (F : List Sg) (x d : Int) (v : Int × Int) : Int := if mayB F = false then 5 else if d < 1 ∨ 4096 < d then 2 else if nowB x = false ∨ okV v.1 v.2 = false then 10 else 0
theorem fitE_form {F : List Sg} {x d : Int} {v : Int × Int} (h : mayB F = false) : fitE F x d v = 5 := by unfold fitE; rw [if_pos h]
theorem fitE_arg {F : List Sg} {x d : Int} {v : Int × Int} (h : mayB F = true) (h2 : d < 1 ∨ 4096 < d) : fitE F x d v = 2 := by unfold fitE; rw [h, if_neg (by decide), if_pos h2]
theorem fitE_range {F : List Sg} {x d : Int} {v : Int × Int} (h : mayB F = true) (h2 : 1 ≤ d ∧ d ≤ 4096) (h3 : nowB x = false ∨ okV v.1 v.2 = false) : fitE F x d v = 10 := by unfold fitE; rw [h, if_neg (by decide), if_neg (by omega), if_pos h3]
theorem fitE_ok {F : List Sg} {x d : Int} {v : Int × Int} (h : mayB F = true) (h2 : 1 ≤ d ∧ d ≤ 4096) (h3 : nowB x = true) (h4 : okV v.1 v.2 = true) : fitE F x d v = 0 := by
  unfold fitE; rw [h, if_neg (by decide), if_neg (by omega), h3, h4, if_neg (by decide)]
theorem fitE_zero {F : List Sg} {x d : Int} {v : Int × Int} (h : fitE F x d v = 0) : mayB F = true ∧ (1 ≤ d ∧ d ≤ 4096) ∧ nowB x = true ∧ okV v.1 v.2 = true := by
  unfold fitE at h
  cases h1 : mayB F
  · rw [h1, if_pos rfl] at h; cases h
  · rw [h1, if_neg (by decide)] at h
    by_cases h2 : d < 1 ∨ 4096 < d
    · rw [if_pos h2] at h; cases h
    · rw [if_neg h2] at h
      by_cases h3 : nowB x = false ∨ okV v.1 v.2 = false
      · rw [if_pos h3] at h; cases h
      · refine ⟨rfl, by omega, ?_, ?_⟩
        · cases h4 : nowB x
          · exact absurd (.inl h4) h3
          · rfl
        · cases h4 : okV v.1 v.2
          · exact absurd (.inr h4) h3
          · rfl
/-- Whether it fits, and the error. -/
def fitB (F : List Sg) (x d : Int) (v : Int × Int) : Bool := leB v.1 v.2 (lowN F x d.toNat).1 (lowN F x d.toNat).2
def fitsS (F : List Sg) (x d : Int) (v : Int × Int) : Bool × Int := if fitE F x d v = 0 then (fitB F x d v, 0) else (false, fitE F x d v)
def mostS (F : List Sg) (x d : Int) (u : Int × Int) : Int × Int :=
  if fitE F x d u = 5 then (0, 5) else if u.1 < 1 ∨ u.2 < 1 then (0, 2) else if fitE F x d u = 0 then ((unS (lowN F x d.toNat).1 (lowN F x d.toNat).2 u.1 u.2).1, 0) else (0, fitE F x d u)
theorem badW_win {F : List Sg} {x d : Int} {v : Int × Int} (h : fitE F x d v = 0) : badW F x (x + d) = 0 := by
  obtain ⟨h1, h2, h3, _⟩ := fitE_zero h
  have := nowB_iff.1 h3
  exact badW_ok h1 (wndB_iff.2 (by omega))
theorem low_win {F : List Sg} {x d : Int} {v : Int × Int} (h : fitE F x d v = 0) : lowS F x (x + d) = ((lowN F x d.toNat).1, (lowN F x d.toNat).2, 0) := by
  rw [lowS_ok (badW_win h)]
  have : x + d - x = d := by omega
  rw [this]
/-- It fits just where it fits at each time. -/
theorem fitB_iff {F : List Sg} {x d : Int} (hd : 1 ≤ d) {v : Int × Int} : fitB F x d v = true ↔ ∀ t, x ≤ t → t < x + d → v.1 ≤ (vat F t).1 ∧ v.2 ≤ (vat F t).2 := by
  unfold fitB
  rw [leB_iff]
  obtain ⟨⟨i, hi, e1⟩, j, hj, e2⟩ := lowN_met (F := F) (x := x) d.toNat (by omega)
  constructor
  · rintro ⟨h1, h2⟩ t ht htd
    have := lowN_le (F := F) (x := x) d.toNat (i := (t - x).toNat) (by omega)
    have e : x + (((t - x).toNat : Nat) : Int) = t := by omega
    rw [e] at this
    omega
  · intro h
    have h1 := h (x + i) (by omega) (by omega)
    have h2 := h (x + j) (by omega) (by omega)
    omega
/-- Between two times of a list nothing changes that changes at its times alone. -/
theorem near_time {ts : List Int} {x t : Int} (hx : x ∈ ts) (ht : x ≤ t) : ∃ s ∈ ts, x ≤ s ∧ s ≤ t ∧ ∀ F : List Sg, (∀ y ∈ F, y.1 ∈ ts) → vat F t = vat F s := by
  rcases lastT (t := t) ts with h | ⟨s, hs, h1, h2⟩
  · have := h x hx; omega
  · exact ⟨s, hs, h2 x hx ht, h1, fun F hF => (vat_same (l := F) (s := s) (t := t) (fun y hy => ⟨fun h => by omega, fun h => h2 y.1 (hF y hy) h⟩)).symm⟩
/-- The times that are looked at. -/
def winT (F : List Sg) (x : Int) : List Int := x :: F.map (·.1)
def inW (x d t : Int) : Bool := decide (x ≤ t) && decide (t < x + d)
theorem inW_iff {x d t : Int} : inW x d t = true ↔ x ≤ t ∧ t < x + d := by unfold inW; simp
theorem inW_not {x d t : Int} : inW x d t = false ↔ t < x ∨ x + d ≤ t := by
  rw [← Bool.not_eq_true, inW_iff]; omega
def intoB (F : List Sg) (x d : Int) (v : Int × Int) : Bool := (winT F x).all fun t => !(inW x d t) || leB v.1 v.2 (vat F t).1 (vat F t).2
theorem into_is {F : List Sg} {x d : Int} {v : Int × Int} (hd : 1 ≤ d) : intoB F x d v = fitB F x d v := by
  rw [Bool.eq_iff_iff, fitB_iff hd]
  unfold intoB
  rw [List.all_eq_true]
  constructor
  · intro h t ht htd
    obtain ⟨s, hs, s1, s2, hv⟩ := near_time (ts := winT F x) (x := x) (t := t) (by simp [winT]) ht
    have := h s hs
    rw [inW_iff.2 ⟨s1, by omega⟩] at this
    simp only [Bool.not_true, Bool.false_or, leB_iff] at this
    rw [hv F (fun y hy => List.mem_cons_of_mem _ (List.mem_map.2 ⟨y, hy, rfl⟩))]
    exact this
  · intro h t ht
    cases hw : inW x d t
    · rfl
    · have := inW_iff.1 hw
      simp only [Bool.not_true, Bool.false_or, leB_iff]
      exact h t this.1 this.2
theorem into_no {F : List Sg} {x d : Int} {v : Int × Int} {i : Nat} (hi : i < (winT F x).length) (hw : inW x d ((winT F x).getD i 0) = true) (hb : leB v.1 v.2 (vat F ((winT F x).getD i 0)).1 (vat F ((winT F x).getD i 0)).2 = false) : intoB F x d v = false := by
  unfold intoB
  rw [List.all_eq_false]
  refine ⟨_, List.getElem_mem hi, ?_⟩
  rw [getD_get _ _ _ hi] at hw hb
  rw [hw, hb]; decide
theorem into_yes {F : List Sg} {x d : Int} {v : Int × Int} (h : ∀ i, i < (winT F x).length → inW x d ((winT F x).getD i 0) = false ∨ leB v.1 v.2 (vat F ((winT F x).getD i 0)).1 (vat F ((winT F x).getD i 0)).2 = true) : intoB F x d v = true := by
  unfold intoB
  rw [List.all_eq_true]
  intro t ht
  obtain ⟨i, hi, rfl⟩ := List.getElem_of_mem ht
  have := h i hi
  rw [getD_get _ _ _ hi] at this
  rcases this with h | h <;> rw [h] <;> simp
/-- How many units a vector holds. -/
theorem un_pos {a b c d : Int} (hc : 1 ≤ c) (hd : 1 ≤ d) (ha : okV a b = true) (hu : okV c d = true) : 0 ≤ (unS a b c d).1 ∧ ∀ n, 1 ≤ n → (n ≤ (unS a b c d).1 ↔ n * c ≤ a ∧ n * d ≤ b) := by
  unfold unS
  rw [if_neg (by omega), ha, hu, if_neg (by decide)]
  by_cases h : a < 0 ∨ b < 0
  · rw [if_pos h]
    refine ⟨Int.le_refl _, fun n hn => ⟨fun k => by simp only at k; omega, fun ⟨k1, k2⟩ => ?_⟩⟩
    have p1 : 1 * 1 ≤ n * c := Int.mul_le_mul hn hc (by omega) (by omega)
    have p2 : 1 * 1 ≤ n * d := Int.mul_le_mul hn hd (by omega) (by omega)
    omega
  · rw [if_neg h, mn_min]
    have q1 := Int.ediv_nonneg (show 0 ≤ a by omega) (show 0 ≤ c by omega)
    have q2 := Int.ediv_nonneg (show 0 ≤ b by omega) (show 0 ≤ d by omega)
    refine ⟨by simp only; omega, fun n hn => ?_⟩
    have r1 := Int.le_ediv_iff_mul_le (show 0 < c by omega) (a := n) (b := a)
    have r2 := Int.le_ediv_iff_mul_le (show 0 < d by omega) (a := n) (b := b)
    simp only
    rw [← r1, ← r2]
    omega
/-- The least number of units over the times that are looked at. -/
def lsT (F : List Sg) (x d : Int) (u : Int × Int) (acc t : Int) : Int :=
  if inW x d t = false then acc else if acc < 0 ∨ (unS (vat F t).1 (vat F t).2 u.1 u.2).1 < acc then (unS (vat F t).1 (vat F t).2 u.1 u.2).1 else acc
def lsS (F : List Sg) (x d : Int) (u : Int × Int) (l : List Int) : Int := l.foldl (lsT F x d u) (-1)
theorem lsS_step {F : List Sg} {x d : Int} {u : Int × Int} {l : List Int} {k : Nat} (h : k < l.length) : lsS F x d u (l.take (k + 1)) = lsT F x d u (lsS F x d u (l.take k)) (l.getD k 0) := by
  unfold lsS
  rw [List.take_succ_eq_append_getElem h, List.foldl_append, getD_get _ _ _ h]
  rfl
theorem ls_aux {F : List Sg} {x d : Int} {u : Int × Int} (hF : mayB F = true) (hu1 : 1 ≤ u.1) (hu2 : 1 ≤ u.2) (hu : okV u.1 u.2 = true) : ∀ (l : List Int) (acc : Int), -1 ≤ acc →
    -1 ≤ l.foldl (lsT F x d u) acc ∧ ((acc = -1 → ∃ t ∈ l, inW x d t = true) → 0 ≤ l.foldl (lsT F x d u) acc) ∧ ∀ n, 1 ≤ n → (acc = -1 → ∃ t ∈ l, inW x d t = true) → (n ≤ l.foldl (lsT F x d u) acc ↔ (acc = -1 ∨ n ≤ acc) ∧ ∀ t ∈ l, inW x d t = true → n ≤ (unS (vat F t).1 (vat F t).2 u.1 u.2).1)
  | [], acc, h => ⟨h, fun hh => by
      have : acc ≠ -1 := fun e => by obtain ⟨t, ht, _⟩ := hh e; simp at ht
      simp; omega, fun n hn hh => by
      have : acc ≠ -1 := fun e => by obtain ⟨t, ht, _⟩ := hh e; simp at ht
      simp [this]⟩
  | t :: r, acc, h => by
    obtain ⟨hN, _⟩ := un_pos hu1 hu2 (may_okF hF t) hu
    rw [List.foldl_cons]
    cases hw : inW x d t
    · have e : lsT F x d u acc t = acc := by unfold lsT; rw [hw, if_pos rfl]
      rw [e]
      obtain ⟨a1, a2, a3⟩ := ls_aux (x := x) (d := d) hF hu1 hu2 hu r acc h
      have hh : (acc = -1 → ∃ s ∈ t :: r, inW x d s = true) → (acc = -1 → ∃ s ∈ r, inW x d s = true) := fun q e => by
        obtain ⟨s, hs, hb⟩ := q e
        rcases List.mem_cons.1 hs with rfl | hs
        · rw [hw] at hb; cases hb
        · exact ⟨s, hs, hb⟩
      refine ⟨a1, fun q => a2 (hh q), fun n hn q => ?_⟩
      rw [a3 n hn (hh q)]
      constructor
      · rintro ⟨b1, b2⟩
        refine ⟨b1, fun s hs hb => ?_⟩
        rcases List.mem_cons.1 hs with rfl | hs
        · rw [hw] at hb; cases hb
        · exact b2 s hs hb
      · rintro ⟨b1, b2⟩
        exact ⟨b1, fun s hs hb => b2 s (List.mem_cons_of_mem _ hs) hb⟩
    · have e : ∃ m, lsT F x d u acc t = m ∧ 0 ≤ m ∧ ∀ n, 1 ≤ n → (n ≤ m ↔ (acc = -1 ∨ n ≤ acc) ∧ n ≤ (unS (vat F t).1 (vat F t).2 u.1 u.2).1) := by
        refine ⟨_, rfl, ?_⟩
        unfold lsT
        rw [hw, if_neg (by decide)]
        by_cases c : acc < 0 ∨ (unS (vat F t).1 (vat F t).2 u.1 u.2).1 < acc
        · rw [if_pos c]
          exact ⟨hN, fun n hn => by omega⟩
        · rw [if_neg c]
          exact ⟨by omega, fun n hn => by omega⟩
      obtain ⟨m, em, m0, hm⟩ := e
      rw [em]
      obtain ⟨a1, a2, a3⟩ := ls_aux (x := x) (d := d) hF hu1 hu2 hu r m (by omega)
      have hh : m = -1 → ∃ s ∈ r, inW x d s = true := fun e => by omega
      refine ⟨a1, fun _ => a2 hh, fun n hn _ => ?_⟩
      rw [a3 n hn hh]
      have := hm n hn
      constructor
      · rintro ⟨b1, b2⟩
        have b1' : n ≤ m := by omega
        refine ⟨(this.1 b1').1, fun s hs hb => ?_⟩
        rcases List.mem_cons.1 hs with rfl | hs
        · exact (this.1 b1').2
        · exact b2 s hs hb
      · rintro ⟨b1, b2⟩
        exact ⟨.inr (this.2 ⟨b1, b2 t (by simp) hw⟩), fun s hs hb => b2 s (List.mem_cons_of_mem _ hs) hb⟩
theorem low_okV {F : List Sg} (hF : mayB F = true) (x : Int) {n : Nat} (hn : 0 < n) : okV (lowN F x n).1 (lowN F x n).2 = true := by
  obtain ⟨⟨i, _, e1⟩, j, _, e2⟩ := lowN_met (F := F) (x := x) n hn
  have h1 := okV_iff.1 (may_okF hF (x + i)); have h2 := okV_iff.1 (may_okF hF (x + j))
  exact okV_iff.2 (by omega)
/-- As many units as in the low. -/
theorem ls_is {F : List Sg} {x d : Int} {u : Int × Int} (hF : mayB F = true) (hd : 1 ≤ d) (hu1 : 1 ≤ u.1) (hu2 : 1 ≤ u.2) (hu : okV u.1 u.2 = true) : lsS F x d u (winT F x) = (unS (lowN F x d.toNat).1 (lowN F x d.toNat).2 u.1 u.2).1 := by
  obtain ⟨hN, hNn⟩ := un_pos hu1 hu2 (low_okV hF x (n := d.toNat) (by omega)) hu
  obtain ⟨a1, a2, a3⟩ := ls_aux (x := x) (d := d) hF hu1 hu2 hu (winT F x) (-1) (by omega)
  have hx : ∃ t ∈ winT F x, inW x d t = true := ⟨x, by simp [winT], inW_iff.2 (by omega)⟩
  have a2 := a2 fun _ => hx
  change 0 ≤ lsS F x d u (winT F x) at a2
  have key : ∀ n, 1 ≤ n → (n ≤ lsS F x d u (winT F x) ↔ n ≤ (unS (lowN F x d.toNat).1 (lowN F x d.toNat).2 u.1 u.2).1) := fun n hn => by
    unfold lsS
    rw [a3 n hn (fun _ => hx), hNn n hn]
    have hfit := into_is (F := F) (x := x) (v := (n * u.1, n * u.2)) hd
    have e1 : fitB F x d (n * u.1, n * u.2) = true ↔ n * u.1 ≤ (lowN F x d.toNat).1 ∧ n * u.2 ≤ (lowN F x d.toNat).2 := by unfold fitB; rw [leB_iff]
    rw [← e1, ← hfit]
    unfold intoB
    rw [List.all_eq_true]
    constructor
    · rintro ⟨_, h⟩ t ht
      cases hw : inW x d t
      · rfl
      · have := ((un_pos hu1 hu2 (may_okF hF t) hu).2 n hn).1 (h t ht hw)
        simp only [Bool.not_true, Bool.false_or, leB_iff]
        exact this
    · intro h
      refine ⟨.inl rfl, fun t ht hw => ?_⟩
      have := h t ht
      rw [hw] at this
      simp only [Bool.not_true, Bool.false_or, leB_iff] at this
      exact ((un_pos hu1 hu2 (may_okF hF t) hu).2 n hn).2 this
  have k1 := key (lsS F x d u (winT F x)); have k2 := key (unS (lowN F x d.toNat).1 (lowN F x d.toNat).2 u.1 u.2).1
  by_cases c1 : 1 ≤ lsS F x d u (winT F x)
  · have := (k1 c1).1 (Int.le_refl _)
    have := (k2 (by omega)).2 (Int.le_refl _)
    omega
  · by_cases c2 : 1 ≤ (unS (lowN F x d.toNat).1 (lowN F x d.toNat).2 u.1 u.2).1
    · have := (k2 c2).2 (Int.le_refl _)
      omega
    · omega
/-- What is kept with more load. -/
def keepP (C A B : List Sg) (t : Int) (p : Pol) : Bool := (!(p.1 == 0) || leB (vat A t).1 (vat A t).2 (vat C t).1 (vat C t).2) && (!(p.1 == 1) || leB (vat B t).1 (vat B t).2 p.2.1.1 p.2.1.2)
def keepsB (P : List Pol) (C A B : List Sg) (x d : Int) (ts : List Int) : Bool := ts.all fun t => !(inW x d t) || P.all (keepP C A B t)
def timesK (C A B : List Sg) (x : Int) : List Int := ((x :: A.map (·.1)) ++ B.map (·.1)) ++ C.map (·.1)
/-- What fits can be used, and nothing else. -/
theorem used_is {P : List Pol} {C L O A B f : List Sg} {x x0 d : Int} {v : Int × Int} (h : FreeF P C L O x0 f) (hx : x0 ≤ x) (hd : 1 ≤ d) (hv : okV v.1 v.2 = true)
    (hA : ∀ t, (vat A t).1 = (vat L t).1 + (if x ≤ t ∧ t < x + d then v.1 else 0) ∧ (vat A t).2 = (vat L t).2 + (if x ≤ t ∧ t < x + d then v.2 else 0))
    (hB : ∀ t, (vat B t).1 = (vat O t).1 + (if x ≤ t ∧ t < x + d then v.1 else 0) ∧ (vat B t).2 = (vat O t).2 + (if x ≤ t ∧ t < x + d then v.2 else 0)) :
    keepsB P C A B x d (timesK C A B x) = fitB f x d v := by
  have ov := okV_iff.1 hv
  have one : ∀ t, x ≤ t → t < x + d → (P.all (keepP C A B t) = true ↔ v.1 ≤ (vat f t).1 ∧ v.2 ≤ (vat f t).2) := fun t h1 h2 => by
    obtain ⟨_, _, hf⟩ := h
    have w := hf t (by omega)
    rw [(w v.1).1, (w v.2).2, List.all_eq_true]
    have a := hA t; have b := hB t
    rw [if_pos ⟨h1, h2⟩, if_pos ⟨h1, h2⟩] at a b
    constructor
    · intro k
      refine ⟨⟨ov.2.1, fun p hp => ⟨fun z => ?_, fun z => ?_⟩⟩, ov.2.2.2, fun p hp => ⟨fun z => ?_, fun z => ?_⟩⟩
      all_goals
        have k' := k p hp
        unfold keepP at k'
        rw [z] at k'
        simp [leB_iff] at k'
        omega
    · rintro ⟨⟨_, k1⟩, _, k2⟩ p hp
      have q1 := k1 p hp; have q2 := k2 p hp
      unfold keepP
      by_cases z0 : p.1 = 0
      · have r1 := q1.1 z0; have r2 := q2.1 z0
        simp [z0, leB_iff]; omega
      · by_cases z1 : p.1 = 1
        · have r1 := q1.2 z1; have r2 := q2.2 z1
          simp [z1, leB_iff]; omega
        · simp [z0, z1]
  rw [Bool.eq_iff_iff, fitB_iff hd]
  unfold keepsB
  rw [List.all_eq_true]
  constructor
  · intro k t h1 h2
    obtain ⟨s, hs, s1, s2, hv'⟩ := near_time (ts := timesK C A B x) (x := x) (t := t) (by simp [timesK]) h1
    have k' := k s hs
    rw [inW_iff.2 ⟨s1, by omega⟩] at k'
    simp only [Bool.not_true, Bool.false_or] at k'
    refine (one t h1 h2).1 ?_
    have e : P.all (keepP C A B t) = P.all (keepP C A B s) := by
      congr 1
      funext p
      unfold keepP
      rw [hv' A (fun y hy => List.mem_append_left _ (List.mem_append_left _ (List.mem_cons_of_mem _ (List.mem_map.2 ⟨y, hy, rfl⟩)))), hv' B (fun y hy => List.mem_append_left _ (List.mem_append_right _ (List.mem_map.2 ⟨y, hy, rfl⟩))), hv' C (fun y hy => List.mem_append_right _ (List.mem_map.2 ⟨y, hy, rfl⟩))]
    rw [e]; exact k'
  · intro k t _
    cases hw : inW x d t
    · rfl
    · have := inW_iff.1 hw
      simp only [Bool.not_true, Bool.false_or]
      exact (one t this.1 this.2).2 (k t this.1 this.2)
end Go.Proofs.YtjhhcljbmnomlaaGreat

namespace Go.Proofs.YtjhhcljbmnomlaaGreat

theorem vat_C (t : Int) : vat [(0, (10, 10))] t = if 0 ≤ t then (10, 10) else (0, 0) := rfl
theorem vat_two (x y : Int) (u v : Int × Int) (t : Int) : vat [(x, u), (y, v)] t = if y ≤ t then v else if x ≤ t then u else (0, 0) := rfl
theorem vat_three (x y z : Int) (u v r : Int × Int) (t : Int) : vat [(x, u), (y, v), (z, r)] t = if z ≤ t then r else if y ≤ t then v else if x ≤ t then u else (0, 0) := rfl
abbrev hC : List Sg := [(0, (10, 10))]
abbrev hL : List Sg := [(2, (3, 1)), (8, (0, 0))]
abbrev hF : List Sg := [(0, (10, 10)), (2, (7, 9)), (8, (10, 10))]
abbrev hG : List Sg := [(3, (1, 3)), (8, (4, 4))]
theorem h15_1 : FreeIs [(0, (0, 0), 0)] hC hL hL 0 hF 0 := by
  refine .inr ⟨by decide +kernel, .inr ⟨fun p hp => by simp at hp; subst hp; decide, .inr ⟨by decide, .inr ⟨?_, rfl, by decide +kernel, fun t ht => ?_, fun t ht a => ?_⟩⟩⟩⟩
  · intro p hp
    simp at hp; subst hp
    refine ⟨fun _ t ht => ?_, fun k => (by cases k)⟩
    rw [vat_C, vat_two, if_pos ht]
    split
    · decide
    · split <;> decide
  · rw [vat_three, if_neg (by omega), if_neg (by omega), if_neg (by omega)]
  · unfold FreeAt1 FreeAt2
    rw [vat_C, vat_two, vat_three, if_pos ht]
    by_cases c1 : 8 ≤ t <;> by_cases c2 : 2 ≤ t <;> first | omega | (simp [c1, c2]; omega)
theorem h15_2 : FreeIs [(1, (4, 4), 0)] hC hL hL 3 hG 0 := by
  refine .inr ⟨by decide +kernel, .inr ⟨fun p hp => by simp at hp; subst hp; decide, .inr ⟨by decide, .inr ⟨?_, rfl, by decide +kernel, fun t ht => ?_, fun t ht a => ?_⟩⟩⟩⟩
  · intro p hp
    simp at hp; subst hp
    refine ⟨fun k => (by cases k), fun _ => ⟨by decide, fun t ht => ?_⟩⟩
    rw [vat_two]
    split
    · decide
    · split <;> decide
  · rw [vat_two, if_neg (by omega), if_neg (by omega)]
  · unfold FreeAt1 FreeAt2
    rw [vat_two, vat_two, if_pos ht]
    by_cases c1 : 8 ≤ t <;> by_cases c2 : 2 ≤ t <;> first | omega | (simp [c1, c2]; omega)
theorem h15_3 : FreeIs [(3, (0, 0), 0)] hC hL hL 0 [] 2 := .inr ⟨by decide +kernel, .inl ⟨⟨(3, (0, 0), 0), by simp, by decide⟩, rfl, rfl⟩⟩
theorem h15_4 : fitsS hF 1 3 (7, 9) = (true, 0) := by decide +kernel
theorem h15_5 : fitsS hF 1 2 (8, 1) = (false, 0) := by decide +kernel
theorem h15_6 : mostS hF 0 9 (2, 2) = (3, 0) := by decide +kernel
theorem h15_8 : fitsS hF 0 0 (0, 0) = (false, 2) := by decide +kernel
end Go.Proofs.YtjhhcljbmnomlaaGreat
