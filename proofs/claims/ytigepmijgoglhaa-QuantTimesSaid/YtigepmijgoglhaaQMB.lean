/- The stretches of a window: what the walk over a function's runs hands on, and what sums, lows, highs and cuts are of it. No program. No conditions. The mathematics of the walk over a function's quanta: the runs that are read, and the rows of quanta that are alike. No program. No conditions. -/
import Derived.Test.YtigepmijgoglhaaQMA
namespace Go.Proofs.Ytigepmijgoglhaa

/-- A stretch: from, up to, the value. -/
abbrev St := Int × Int × Int × Int
/-- What is handed on behind the runs: up to y, if anything is left. -/
def strZ (y p : Int) (v : Int × Int) : List St := if p < y then [(p, y, v)] else []
def strG (y : Int) : List Sg → Int → Int × Int → List St
  | [], p, v => strZ y p v
  | r :: F, p, v => if y ≤ r.1 then strZ y p v else if p < r.1 then (p, r.1, v) :: strG y F r.1 r.2 else strG y F p r.2
def strL (F : List Sg) (x y : Int) : List St := strG y F x (0, 0)
theorem strG_nil {y p : Int} {v : Int × Int} : strG y [] p v = strZ y p v := rfl
theorem strG_end {y p : Int} {v : Int × Int} {r : Sg} {F : List Sg} (h : y ≤ r.1) : strG y (r :: F) p v = strZ y p v := by rw [strG, if_pos h]
theorem strG_cut {y p : Int} {v : Int × Int} {r : Sg} {F : List Sg} (h : ¬ y ≤ r.1) (h2 : p < r.1) : strG y (r :: F) p v = (p, r.1, v) :: strG y F r.1 r.2 := by rw [strG, if_neg h, if_pos h2]
theorem strG_on {y p : Int} {v : Int × Int} {r : Sg} {F : List Sg} (h : ¬ y ≤ r.1) (h2 : ¬ p < r.1) : strG y (r :: F) p v = strG y F p r.2 := by rw [strG, if_neg h, if_neg h2]
theorem strG_len (y : Int) : ∀ (F : List Sg) (p : Int) (v : Int × Int), (strG y F p v).length ≤ F.length + 1
  | [], p, v => by rw [strG_nil]; unfold strZ; split <;> simp
  | r :: F, p, v => by
    have h1 := strG_len y F r.1 r.2
    have h2 := strG_len y F p r.2
    rw [strG]
    split
    · unfold strZ; split <;> simp
    · split
      · simp only [List.length_cons]; omega
      · simp only [List.length_cons]; omega

/-- Stretches side by side, from p up to y, on each of which the function keeps its value. -/
def Cov (F : List Sg) (y : Int) : Int → List St → Prop
  | p, [] => y ≤ p
  | p, s :: r => s.1 = p ∧ p < s.2.1 ∧ s.2.1 ≤ y ∧ (∀ t, p ≤ t → t < s.2.1 → vat F t = s.2.2) ∧ Cov F y s.2.1 r
theorem strZ_cov {F : List Sg} {y p : Int} {v : Int × Int} (h : ∀ t, p ≤ t → t < y → vat F t = v) : Cov F y p (strZ y p v) := by
  unfold strZ
  split
  · rename_i h2
    exact ⟨rfl, h2, Int.le_refl _, h, Int.le_refl _⟩
  · rename_i h2
    show y ≤ p
    omega
theorem strG_cov {F0 : List Sg} {y : Int} : ∀ (F : List Sg) (p : Int) (v : Int × Int), (F.Pairwise fun a b => a.1 < b.1) → (∀ t, p ≤ t → vat F0 t = F.foldl (stepV t) v) → Cov F0 y p (strG y F p v)
  | [], p, v, _, h => strZ_cov fun t ht _ => h t ht
  | r :: F, p, v, hp, h => by
    have hp2 := List.pairwise_cons.1 hp
    have hgt : ∀ t, p ≤ t → t < r.1 → vat F0 t = v := fun t h1 h2 => by
      rw [h t h1]
      refine foldl_gt t _ _ fun s hs => ?_
      rcases List.mem_cons.1 hs with e | e
      · rw [e]; exact h2
      · have := hp2.1 s e; omega
    have hst : ∀ t, p ≤ t → r.1 ≤ t → vat F0 t = F.foldl (stepV t) r.2 := fun t h1 h2 => by
      rw [h t h1, List.foldl_cons]
      congr 1
      unfold stepV
      rw [if_pos h2]
    rw [strG]
    split
    · exact strZ_cov fun t h1 h2 => hgt t h1 (by omega)
    · split
      · rename_i h1 h2
        exact ⟨rfl, h2, by show r.1 ≤ y; omega, hgt, strG_cov F r.1 r.2 hp2.2 fun t ht => hst t (by omega) ht⟩
      · rename_i h1 h2
        exact strG_cov F p r.2 hp2.2 fun t ht => hst t ht (by omega)
theorem strL_cov {F : List Sg} (hF : Canon F) (x y : Int) : Cov F y x (strL F x y) := strG_cov F x (0, 0) (CF.up hF) fun _ _ => rfl

/-- The time up to which a list of stretches goes. -/
def endG (x : Int) (l : List St) : Int := l.foldl (fun _ s => s.2.1) x
theorem endG_snoc (x : Int) (l : List St) (s : St) : endG x (l ++ [s]) = s.2.1 := by unfold endG; rw [List.foldl_append]; rfl
theorem cov_end {F : List Sg} {y : Int} : ∀ (l : List St) (p : Int), Cov F y p l → p ≤ y → endG p l = y
  | [], p, h, hp => by
    have h' : y ≤ p := h
    show p = y
    omega
  | s :: r, p, h, _ => cov_end r s.2.1 h.2.2.2.2 h.2.2.1
/-- A stretch of the list, where it stands. -/
theorem cov_at {F : List Sg} {y : Int} : ∀ (pre : List St) (p : Int) (s : St) (post : List St), Cov F y p (pre ++ s :: post) → s.1 = endG p pre ∧ p ≤ s.1 ∧ s.1 < s.2.1 ∧ s.2.1 ≤ y ∧ ∀ t, s.1 ≤ t → t < s.2.1 → vat F t = s.2.2
  | [], p, s, post, ⟨h1, h2, h3, h4, _⟩ => by
    refine ⟨h1, by omega, by omega, h3, fun t ht => h4 t (by omega)⟩
  | u :: pre, p, s, post, ⟨h1, h2, h3, h4, h5⟩ => by
    obtain ⟨k1, k2, k3, k4, k5⟩ := cov_at pre u.2.1 s post h5
    exact ⟨k1, by omega, k3, k4, k5⟩
theorem cov_endle {F : List Sg} {y : Int} : ∀ (pre : List St) (p : Int) (post : List St), Cov F y p (pre ++ post) → p ≤ endG p pre
  | [], p, _, _ => Int.le_refl _
  | u :: pre, p, post, ⟨h1, h2, h3, h4, h5⟩ => by
    have := cov_endle pre u.2.1 post h5
    show p ≤ endG u.2.1 pre
    omega
/-- What is known of a stretch of a window's. -/
theorem str_at {F : List Sg} {x y : Int} (hF : Canon F) {pre : List St} {s : St} (h : pre ++ [s] <+: strL F x y) : s.1 = endG x pre ∧ x ≤ s.1 ∧ s.1 < s.2.1 ∧ s.2.1 ≤ y ∧ ∀ t, s.1 ≤ t → t < s.2.1 → vat F t = s.2.2 := by
  obtain ⟨post, e⟩ := h
  have hc := strL_cov hF x y
  rw [← e, List.append_assoc] at hc
  exact cov_at pre x s post hc
theorem str_end {F : List Sg} {x y : Int} (hF : Canon F) (hxy : x ≤ y) : endG x (strL F x y) = y := cov_end _ _ (strL_cov hF x y) hxy

/-- The sum over the first stretches. -/
def addG (acc : Int × Int) (s : St) : Int × Int := (acc.1 + (s.2.1 - s.1) * s.2.2.1, acc.2 + (s.2.1 - s.1) * s.2.2.2)
theorem add_str {F : List Sg} {x : Int} {s : St} (hx : x ≤ s.1) (h : s.1 < s.2.1) (hv : ∀ t, s.1 ≤ t → t < s.2.1 → vat F t = s.2.2) : sumN F x (s.2.1 - x).toNat = addG (sumN F x (s.1 - x).toNat) s := by
  obtain ⟨j, hj⟩ : ∃ j : Nat, s.1 = x + j := ⟨(s.1 - x).toNat, by omega⟩
  obtain ⟨k, hk⟩ : ∃ k : Nat, s.2.1 = s.1 + k := ⟨(s.2.1 - s.1).toNat, by omega⟩
  have e1 : (s.1 - x).toNat = j := by omega
  have e2 : (s.2.1 - x).toNat = j + k := by omega
  rw [e1, e2, sumN_add, ← hj, sumN_const (v := s.2.2) k (fun i hi => hv _ (by omega) (by omega))]
  unfold addG
  have e3 : s.2.1 - s.1 = (k : Int) := by omega
  rw [e3]
theorem low_const {F : List Sg} {x : Int} {v : Int × Int} (j : Nat) : ∀ k : Nat, (∀ i : Nat, i < k + 1 → vat F (x + j + i) = v) → lowN F x (j + (k + 1)) = (mn (lowN F x j).1 v.1, mn (lowN F x j).2 v.2)
  | 0, h => by
    have := h 0 (by omega)
    rw [show j + (0 + 1) = j + 1 by omega, lowN_step]
    rw [show x + (j : Int) + ((0 : Nat) : Int) = x + (j : Int) by omega] at this
    rw [this]
  | k + 1, h => by
    have ih := low_const j k fun i hi => h i (by omega)
    have hv := h (k + 1) (by omega)
    rw [show j + (k + 1 + 1) = (j + (k + 1)) + 1 by omega, lowN_step, ih]
    rw [show x + (j : Int) + ((k + 1 : Nat) : Int) = x + ((j + (k + 1) : Nat) : Int) by omega] at hv
    rw [hv]
    simp only [mn_min]
    apply Prod.ext <;> simp only <;> omega
theorem high_const {F : List Sg} {x : Int} {v : Int × Int} (j : Nat) : ∀ k : Nat, (∀ i : Nat, i < k + 1 → vat F (x + j + i) = v) → highN F x (j + (k + 1)) = (mx (highN F x j).1 v.1, mx (highN F x j).2 v.2)
  | 0, h => by
    have := h 0 (by omega)
    rw [show j + (0 + 1) = j + 1 by omega, highN_step]
    rw [show x + (j : Int) + ((0 : Nat) : Int) = x + (j : Int) by omega] at this
    rw [this]
  | k + 1, h => by
    have ih := high_const j k fun i hi => h i (by omega)
    have hv := h (k + 1) (by omega)
    rw [show j + (k + 1 + 1) = (j + (k + 1)) + 1 by omega, highN_step, ih]
    rw [show x + (j : Int) + ((k + 1 : Nat) : Int) = x + ((j + (k + 1) : Nat) : Int) by omega] at hv
    rw [hv]
    simp only [mx_max]
    apply Prod.ext <;> simp only <;> omega
theorem low_str {F : List Sg} {x : Int} {s : St} (hx : x ≤ s.1) (h : s.1 < s.2.1) (hv : ∀ t, s.1 ≤ t → t < s.2.1 → vat F t = s.2.2) : lowN F x (s.2.1 - x).toNat = (mn (lowN F x (s.1 - x).toNat).1 s.2.2.1, mn (lowN F x (s.1 - x).toNat).2 s.2.2.2) := by
  obtain ⟨j, hj⟩ : ∃ j : Nat, s.1 = x + j := ⟨(s.1 - x).toNat, by omega⟩
  obtain ⟨k, hk⟩ : ∃ k : Nat, s.2.1 = s.1 + k + 1 := ⟨(s.2.1 - s.1 - 1).toNat, by omega⟩
  have e1 : (s.1 - x).toNat = j := by omega
  have e2 : (s.2.1 - x).toNat = j + (k + 1) := by omega
  rw [e1, e2, low_const (v := s.2.2) j k (fun i hi => hv _ (by omega) (by omega))]
theorem high_str {F : List Sg} {x : Int} {s : St} (hx : x ≤ s.1) (h : s.1 < s.2.1) (hv : ∀ t, s.1 ≤ t → t < s.2.1 → vat F t = s.2.2) : highN F x (s.2.1 - x).toNat = (mx (highN F x (s.1 - x).toNat).1 s.2.2.1, mx (highN F x (s.1 - x).toNat).2 s.2.2.2) := by
  obtain ⟨j, hj⟩ : ∃ j : Nat, s.1 = x + j := ⟨(s.1 - x).toNat, by omega⟩
  obtain ⟨k, hk⟩ : ∃ k : Nat, s.2.1 = s.1 + k + 1 := ⟨(s.2.1 - s.1 - 1).toNat, by omega⟩
  have e1 : (s.1 - x).toNat = j := by omega
  have e2 : (s.2.1 - x).toNat = j + (k + 1) := by omega
  rw [e1, e2, high_const (v := s.2.2) j k (fun i hi => hv _ (by omega) (by omega))]

/-- The raw runs of a cut. -/
def rawC (l : List St) : List Sg := l.map fun s => (s.1, s.2.2)
def cutR (F : List Sg) (x y : Int) : List Sg := rawC (strL F x y) ++ [(y, (0, 0))]
theorem cov_raw {F : List Sg} {y : Int} : ∀ (l : List St) (p : Int), Cov F y p l → p ≤ y →
    ((rawC l ++ [(y, ((0, 0) : Int × Int))]).Pairwise fun a b => a.1 < b.1) ∧ (∀ s ∈ rawC l ++ [(y, ((0, 0) : Int × Int))], p ≤ s.1 ∧ s.1 ≤ y) ∧
    (∀ t acc, (rawC l ++ [(y, ((0, 0) : Int × Int))]).foldl (stepV t) acc = if t < p then acc else if t < y then vat F t else (0, 0))
  | [], p, h, hp => by
    have h' : y ≤ p := h
    refine ⟨by simp [rawC], fun s hs => ?_, fun t acc => ?_⟩
    · simp [rawC] at hs; subst hs; exact ⟨hp, Int.le_refl _⟩
    · simp only [rawC, List.map_nil, List.nil_append, List.foldl_cons, List.foldl_nil, stepV]
      by_cases c : t < p
      · rw [if_pos c, if_neg (by omega)]
      · rw [if_neg c, if_pos (by omega), if_neg (by omega)]
  | u :: r, p, ⟨h1, h2, h3, h4, h5⟩, hp => by
    obtain ⟨k1, k2, k3⟩ := cov_raw r u.2.1 h5 h3
    have e : rawC (u :: r) ++ [(y, ((0, 0) : Int × Int))] = (u.1, u.2.2) :: (rawC r ++ [(y, (0, 0))]) := rfl
    rw [e]
    refine ⟨List.pairwise_cons.2 ⟨fun s hs => ?_, k1⟩, fun s hs => ?_, fun t acc => ?_⟩
    · have := k2 s hs
      show u.1 < s.1
      omega
    · rcases List.mem_cons.1 hs with e | e
      · subst e
        show p ≤ u.1 ∧ u.1 ≤ y
        omega
      · have := k2 s e; omega
    · rw [List.foldl_cons, k3]
      by_cases c : t < p
      · rw [if_pos c, if_pos (by omega)]
        unfold stepV
        rw [if_neg (by simp only; omega)]
      · rw [if_neg c]
        by_cases c2 : t < u.2.1
        · rw [if_pos c2, if_pos (by omega), h4 t (by omega) c2]
          unfold stepV
          rw [if_pos (by simp only; omega)]
        · rw [if_neg c2]
theorem cutR_val {F : List Sg} (hF : Canon F) {x y : Int} (hxy : x ≤ y) (t : Int) : rv (cutR F x y) t = cutV F x y t := by
  obtain ⟨h1, _, h3⟩ := cov_raw (strL F x y) x (strL_cov hF x y) hxy
  have : rv (cutR F x y) t = (cutR F x y).foldl (stepV t) (0, 0) := rread_up (cutR F x y) _ h1 (fun _ _ h => by cases h)
  rw [this]
  unfold cutR
  rw [h3]
  unfold cutV
  by_cases c : t < x
  · rw [if_pos c, if_neg (by omega)]
  · rw [if_neg c]
    by_cases c2 : t < y
    · rw [if_pos c2, if_pos (by omega)]
    · rw [if_neg c2, if_neg (by omega)]
theorem cutR_ok {F : List Sg} (hF : Canon F) {x y : Int} (hxy : x ≤ y) : (cutR F x y).all okS = farB x y := by
  obtain ⟨h1, h2, _⟩ := cov_raw (strL F x y) x (strL_cov hF x y) hxy
  rw [Bool.eq_iff_iff, List.all_eq_true]
  unfold farB
  rw [decide_eq_true_iff]
  constructor
  · intro h
    have hy := h (y, (0, 0)) (by unfold cutR; simp)
    have hy' : okT y = true := by unfold okS at hy; rw [Bool.and_eq_true] at hy; exact hy.1
    rw [okT_iff] at hy'
    by_cases c : x = y
    · omega
    · have hx : ∃ v, (x, v) ∈ cutR F x y := by
        have hc := strL_cov hF x y
        cases hs : strL F x y with
        | nil => rw [hs] at hc; have hc' : y ≤ x := hc; omega
        | cons u r =>
          rw [hs] at hc
          refine ⟨u.2.2, ?_⟩
          unfold cutR
          rw [hs, ← hc.1]
          simp [rawC]
      obtain ⟨v, hv⟩ := hx
      have := h _ hv
      unfold okS at this
      rw [Bool.and_eq_true, okT_iff] at this
      omega
  · rintro ⟨h3, h4, h5, h6⟩ s hs
    have hb := h2 s hs
    unfold okS
    rw [Bool.and_eq_true, okT_iff]
    refine ⟨by omega, ?_⟩
    unfold cutR at hs
    rcases List.mem_append.1 hs with hm | hm
    · unfold rawC at hm
      rw [List.mem_map] at hm
      obtain ⟨u, hu, rfl⟩ := hm
      obtain ⟨pre, post, e⟩ := List.append_of_mem hu
      have hc := strL_cov hF x y
      rw [e] at hc
      obtain ⟨k1, k2, k3, k4, k5⟩ := cov_at pre x u post hc
      simp only
      rw [← k5 u.1 (Int.le_refl _) k3]
      exact vat_ok (CF.ok hF) _
    · simp at hm; subst hm; rfl
theorem cutR_len (F : List Sg) (x y : Int) : (cutR F x y).length ≤ F.length + 2 := by
  have := strG_len y F x (0, 0)
  unfold cutR rawC strL
  rw [List.length_append, List.length_map]
  simp only [List.length_cons, List.length_nil]
  omega
/-- What Of makes of a cut's raw runs. -/
theorem cutR_of {F G : List Sg} (hF : Canon F) {x y : Int} (hxy : x ≤ y) (hb : farB x y = true) (h : IsOf (cutR F x y) G) : G = cutL F x y :=
  cutL_unique hF hxy hb h.1 fun t => (h.2.1 t).trans (cutR_val hF hxy t)
theorem cutS_form {F : List Sg} {x y : Int} (h : mayB F = false) : cutS F x y = ([], 5) := by unfold cutS; rw [if_pos h]
theorem cutS_arg {F : List Sg} {x y : Int} (h : mayB F = true) (h2 : y < x) : cutS F x y = ([], 2) := by unfold cutS; rw [if_neg (by rw [h]; decide), if_pos h2]
theorem cutS_far {F : List Sg} {x y : Int} (h : mayB F = true) (h2 : ¬ y < x) (h3 : farB x y = false) : cutS F x y = ([], 10) := by unfold cutS; rw [if_neg (by rw [h]; decide), if_neg h2, if_pos h3]
theorem cutS_ok {F : List Sg} {x y : Int} (h : mayB F = true) (h2 : ¬ y < x) (h3 : farB x y = true) : cutS F x y = (cutL F x y, 0) := by unfold cutS; rw [if_neg (by rw [h]; decide), if_neg h2, if_neg (by rw [h3]; decide)]
end Go.Proofs.Ytigepmijgoglhaa

namespace Go.Proofs.Ytigepmijgoglhaa

/-- The first run that is read on: the one before it where that is in force and not zero. -/
def firstR (F : List Sg) (k : Nat) : Nat := if 0 < k ∧ vls F (k - 1) ≠ (0, 0) then k - 1 else k
theorem firstR_le (F : List Sg) (k : Nat) : firstR F k ≤ k := by unfold firstR; split <;> omega
theorem firstR_one (F : List Sg) (k : Nat) : k ≤ firstR F k + 1 := by unfold firstR; split <;> omega
theorem firstR_zero {F : List Sg} {k : Nat} (h : firstR F k = k) : k = 0 ∨ vls F (k - 1) = (0, 0) := by
  unfold firstR at h
  split at h
  · omega
  · rename_i c
    by_cases hk : k = 0
    · exact .inl hk
    · refine .inr (Classical.byContradiction fun e => c ⟨by omega, e⟩)
def readL (F : List Sg) (k k' : Nat) : List Sg := (F.take k').drop (firstR F k)
theorem readL_len {F : List Sg} {k k' : Nat} (h2 : k' ≤ F.length) : (readL F k k').length = k' - firstR F k := by
  unfold readL
  rw [List.length_drop, List.length_take]
  omega
theorem readL_get {F : List Sg} {k k' i : Nat} (h : firstR F k + i < k') : (readL F k k').getD i (0, 0, 0) = F.getD (firstR F k + i) (0, 0, 0) := by
  unfold readL
  simp only [List.getD_eq_getElem?_getD, List.getElem?_drop, List.getElem?_take]
  rw [if_pos h]
theorem readL_ats {F : List Sg} {k k' i : Nat} (h : firstR F k + i < k') : ats (readL F k k') i = ats F (firstR F k + i) := by unfold ats; rw [readL_get h]
theorem readL_vls {F : List Sg} {k k' i : Nat} (h : firstR F k + i < k') : vls (readL F k k') i = vls F (firstR F k + i) := by unfold vls; rw [readL_get h]
theorem canon_asc {F : List Sg} (hF : Canon F) : ∀ i j : Nat, i < j → j < F.length → ats F i < ats F j := fun i j h hj => by
  have := CF.up hF
  rw [List.pairwise_iff_getElem] at this
  have q := this i j (by omega) hj h
  unfold ats
  rw [getD_get _ _ _ (by omega), getD_get _ _ _ hj]
  exact q
theorem readL_canon {F : List Sg} {k k' : Nat} (hF : Canon F) (h2 : k' ≤ F.length) : Canon (readL F k k') := by
  have hk := (cf_okAt F (0, 0)).1 hF
  refine (cf_okAt _ _).2 fun i hi => ?_
  rw [readL_len h2] at hi
  have hf := firstR_le F k
  have q := hk (firstR F k + i) (by omega)
  unfold okAt at q ⊢
  rw [readL_get (by omega), readL_vls (by omega)]
  simp only [Bool.and_eq_true, Bool.or_eq_true, decide_eq_true_iff, Bool.not_eq_true', beq_eq_false_iff_ne] at q ⊢
  obtain ⟨⟨q1, q2⟩, q3⟩ := q
  by_cases c : i = 0
  · subst c
    refine ⟨⟨q1, ?_⟩, .inl rfl⟩
    rw [if_pos rfl]
    by_cases c2 : firstR F k = k
    · rcases firstR_zero c2 with c3 | c3
      · rw [if_pos (by omega)] at q2; exact q2
      · by_cases c4 : k = 0
        · rw [if_pos (by omega)] at q2; exact q2
        · rw [if_neg (by omega)] at q2
          rw [show firstR F k + 0 - 1 = k - 1 by omega, c3] at q2
          exact q2
    · unfold firstR at c2 ⊢
      split at c2
      · rename_i c5
        rw [if_pos c5]
        exact c5.2
      · exact absurd rfl c2
  · rw [if_neg (by omega)] at q2
    refine ⟨⟨q1, ?_⟩, .inr ?_⟩
    · rw [if_neg c, readL_vls (by omega), show firstR F k + (i - 1) = firstR F k + i - 1 by omega]; exact q2
    · rw [readL_ats (by omega), readL_ats (by omega), show firstR F k + (i - 1) = firstR F k + i - 1 by omega]
      rcases q3 with q3 | q3
      · omega
      · exact q3
theorem readL_val {F : List Sg} {k k' : Nat} {t : Int} (hk : k ≤ k') (h2 : k' ≤ F.length) (h3 : ∀ i, i < k → ats F i ≤ t) (h4 : ∀ i, k' ≤ i → i < F.length → t < ats F i) : vat (readL F k k') t = vat F t := by
  obtain ⟨m, m1, m2, m3⟩ := cutAt F t F.length (Nat.le_refl _)
  have hf := firstR_le F k; have hf1 := firstR_one F k
  have e1 : k ≤ m := by
    by_cases c : k ≤ m
    · exact c
    · have a := h3 m (by omega); have b := m3 m (Nat.le_refl _) (by omega); omega
  have e2 : m ≤ k' := by
    by_cases c : m ≤ k'
    · exact c
    · have a := h4 (m - 1) (by omega) (by omega)
      rcases m2 with m2 | m2 <;> omega
  rw [vat_of m1 m2 m3]
  have hl := readL_len (k := k) h2
  by_cases c : m = firstR F k
  · have c2 : firstR F k = k := by omega
    rw [vat_of (l := readL F k k') (n := 0) (Nat.zero_le _) (.inl rfl) (fun i _ hi => by
      rw [readL_ats (by omega)]; exact m3 _ (by omega) (by omega)), if_pos rfl]
    rcases firstR_zero c2 with c3 | c3
    · rw [if_pos (by omega)]
    · split
      · rfl
      · rw [show m - 1 = k - 1 by omega, c3]
  · rw [vat_of (l := readL F k k') (n := m - firstR F k) (by omega) (.inr (by
      rw [readL_ats (by omega), show firstR F k + (m - firstR F k - 1) = m - 1 by omega]
      rcases m2 with m2 | m2
      · omega
      · exact m2)) (fun i hi1 hi => by
      rw [readL_ats (by omega)]; exact m3 _ (by omega) (by omega)), if_neg (by omega), if_neg (by omega), readL_vls (by omega), show firstR F k + (m - firstR F k - 1) = m - 1 by omega]

theorem highN_ext {F G : List Sg} {x y : Int} : ∀ n : Nat, vat F x = vat G y → (∀ i : Nat, i < n → vat F (x + i) = vat G (y + i)) → highN F x n = highN G y n
  | 0, h0, _ => h0
  | n + 1, h0, h => by rw [highN_step, highN_step, highN_ext n h0 fun i hi => h i (by omega), h n (by omega)]
theorem sumN_ext2 {F G : List Sg} {x y : Int} : ∀ n : Nat, vat F x = vat G y → (∀ i : Nat, i < n → vat F (x + i) = vat G (y + i)) → sumN F x n = sumN G y n
  | 0, _, _ => rfl
  | n + 1, h0, h => by rw [sumN_step, sumN_step, sumN_ext2 n h0 fun i hi => h i (by omega), h n (by omega)]

/-- What is known of where the walk stands: the runs ahead of a multiple have been read. -/
structure WalkAt (F : List Sg) (q x y z : Int) (k : Nat) : Prop where
  hk : k ≤ F.length
  zm : z % q = 0
  ym : y % q = 0
  xz : x ≤ z
  zy : z ≤ y
  low : ∀ i, i < k → ats F i < z
/-- What is known of a row that is handed on. -/
structure RowAt (op : Int → Int × Int) (q x y : Int) (pre : List St) (s : St) : Prop where
  at' : s.1 = endG x pre
  sm : s.1 % q = 0
  xs : x ≤ s.1
  lt : s.1 < s.2.1
  ly : s.2.1 ≤ y
  em : s.2.1 % q = 0
  val : ∀ m, m % q = 0 → s.1 ≤ m → m < s.2.1 → op m = s.2.2
/-- The runs of a quantum have been read. -/
structure ReadAt (F : List Sg) (z to : Int) (k k' : Nat) : Prop where
  le : k ≤ k'
  hk : k' ≤ F.length
  lo : ∀ i, k ≤ i → i < k' → ats F i < to
  hi : ∀ i, k' ≤ i → i < F.length → to ≤ ats F i
theorem walk_to {F : List Sg} {q x y z : Int} {k : Nat} (hq : 1 ≤ q) (h : WalkAt F q x y z k) (hz : z < y) : z + q ≤ y := mul_next (by omega) h.zm h.ym hz
/-- How many rows there are: no more than two for each run that has been read, and one where the next quantum has a run, or there is none. -/
def RowsN (F : List Sg) (q y z : Int) (k n : Nat) : Prop := n ≤ 2 * k ∨ (n ≤ 2 * k + 1 ∧ (z = y ∨ (k < F.length ∧ ats F k < z + q)))
theorem rowsN_le2 {F : List Sg} {q y z : Int} {k n : Nat} (h : RowsN F q y z k n) : n ≤ 2 * k + 1 := by rcases h with h | ⟨h, _⟩ <;> omega
theorem rowsN_le {F : List Sg} {q y z : Int} {k n : Nat} (hk : k ≤ F.length) (h : RowsN F q y z k n) : n ≤ 2 * F.length + 1 := by have := rowsN_le2 h; omega
theorem rowsN_one {F : List Sg} {q y z : Int} {k k' : Nat} {pre : List St} {s : St} (h : pre.length ≤ 2 * k + 1) (hk : k < k') : RowsN F q y z k' (pre ++ [s]).length := by
  refine .inl ?_
  rw [List.length_append]
  simp
  omega
theorem rowsN_skip {F : List Sg} {q y z d : Int} {k : Nat} {pre : List St} {s : St} (h : RowsN F q y z k pre.length) (hz : z < y) (hr : z + q ≤ ats F k) (hk : k < F.length) (hq : 1 ≤ q) (hd : d = mn (downI (ats F k) q) y) : RowsN F q y d k (pre ++ [s]).length := by
  rcases h with h | ⟨h, h2 | ⟨_, h2⟩⟩
  · refine .inr ⟨by rw [List.length_append]; simp; omega, ?_⟩
    have d2 := down_gt (t := ats F k) (q := q) (by omega)
    rw [mn_min] at hd
    by_cases c : downI (ats F k) q ≤ y
    · rw [Int.min_eq_left c] at hd; exact .inr ⟨hk, by omega⟩
    · rw [Int.min_eq_right (by omega)] at hd; exact .inl hd
  · omega
  · omega
theorem highN_read {F : List Sg} {q x y z : Int} {k k' : Nat} (hq : 1 ≤ q) (h : WalkAt F q x y z k) (hr : ReadAt F z (z + q) k k') : highN (readL F k k') z q.toNat = highN F z q.toNat := by
  have hv : ∀ t, z ≤ t → t < z + q → vat (readL F k k') t = vat F t := fun t h1 h2 => readL_val hr.le hr.hk (fun i hi => by have := h.low i hi; omega) (fun i h3 h4 => by have := hr.hi i h3 h4; omega)
  exact highN_ext _ (hv z (Int.le_refl _) (by omega)) fun i hi => hv _ (by omega) (by omega)
/-- A quantum in which the function changes. -/
theorem highN_one {F : List Sg} {q x y z : Int} {k k' : Nat} {pre : List St} (hq : 1 ≤ q) (h : WalkAt F q x y z k) (hz : z < y) (hr : ReadAt F z (z + q) k k') (he : endG x pre = z) :
    RowAt (fun m => highN F m q.toNat) q x y pre (z, z + q, highN F z q.toNat) ∧ WalkAt F q x y (z + q) k' := by
  have := walk_to hq h hz
  have hm := add_mul h.zm
  refine ⟨⟨he.symm, h.zm, h.xz, by show z < z + q; omega, this, hm, fun m m1 m2 m3 => ?_⟩, ⟨hr.hk, hm, h.ym, by have := h.xz; omega, this, fun i hi => ?_⟩⟩
  · have e : m = z := by
      by_cases c : z < m
      · have := mul_next (by omega) h.zm m1 c
        have : m < z + q := m3
        omega
      · have : z ≤ m := m2
        omega
    rw [e]
  · by_cases c : i < k
    · have := h.low i c; omega
    · exact hr.lo i (by omega) hi
/-- It never changes again. -/
theorem highN_last {F : List Sg} {q x y z : Int} {k : Nat} {pre : List St} (_hq : 1 ≤ q) (h : WalkAt F q x y z k) (hz : z < y) (hk : k = F.length) (he : endG x pre = z) :
    RowAt (fun m => highN F m q.toNat) q x y pre (z, y, highN F z q.toNat) := by
  refine ⟨he.symm, h.zm, h.xz, hz, Int.le_refl _, h.ym, fun m m1 m2 m3 => ?_⟩
  have hv : ∀ t, z ≤ t → vat F t = vat F z := fun t ht => stay_between ht fun r hr => by
    obtain ⟨i, hi, rfl⟩ := List.getElem_of_mem hr
    have := h.low i (by omega)
    unfold ats at this
    rw [getD_get _ _ _ hi] at this
    exact .inl (by omega)
  have m2' : z ≤ m := m2
  exact highN_ext _ (hv m m2') fun i _ => (hv _ (by omega)).trans (hv _ (by omega)).symm
/-- It changes again, in a later quantum. -/
theorem highN_skip {F : List Sg} {q x y z : Int} {k : Nat} {pre : List St} (hq : 1 ≤ q) (h : WalkAt F q x y z k) (hz : z < y) (hr : ReadAt F z (z + q) k k) (hk : k < F.length) (hAsc : ∀ i, k < i → i < F.length → ats F k ≤ ats F i) (he : endG x pre = z) {d : Int} (hd : d = mn (downI (ats F k) q) y) :
    RowAt (fun m => highN F m q.toNat) q x y pre (z, d, highN F z q.toNat) ∧ WalkAt F q x y d k := by
  have h1 := hr.hi k (Nat.le_refl _) hk
  have d1 := down_le (t := ats F k) (q := q) (by omega); have d2 := down_gt (t := ats F k) (q := q) (by omega); have d3 := down_mul (t := ats F k) (q := q)
  have hzq := walk_to hq h hz
  have hdz : z + q ≤ downI (ats F k) q := by
    by_cases c : z + q ≤ downI (ats F k) q
    · exact c
    · have := mul_next (by omega) d3 (add_mul h.zm) (by omega); omega
  have hmn : d ≤ downI (ats F k) q ∧ d ≤ y ∧ z + q ≤ d ∧ d % q = 0 := by
    rw [hd, mn_min]
    by_cases c : downI (ats F k) q ≤ y
    · rw [Int.min_eq_left c]; exact ⟨Int.le_refl _, c, hdz, d3⟩
    · rw [Int.min_eq_right (by omega)]; exact ⟨by omega, Int.le_refl _, hzq, h.ym⟩
  obtain ⟨k1, k2, k3, k4⟩ := hmn
  have hxz := h.xz
  have hat : ∀ r ∈ F, r.1 < z ∨ ats F k ≤ r.1 := fun r hr' => by
    obtain ⟨i, hi, rfl⟩ := List.getElem_of_mem hr'
    have ei : F[i].1 = ats F i := by unfold ats; rw [getD_get _ _ _ hi]
    by_cases c : i < k
    · have := h.low i c
      exact .inl (by omega)
    · refine .inr ?_
      rw [ei]
      by_cases c2 : i = k
      · rw [c2]; exact Int.le_refl _
      · exact hAsc i (by omega) hi
  refine ⟨⟨he.symm, h.zm, hxz, by show z < d; omega, k2, k4, fun m m1 m2 m3 => ?_⟩, ⟨h.hk, k4, h.ym, by omega, k2, fun i hi => by have := h.low i hi; omega⟩⟩
  · have m2' : z ≤ m := m2
    have m3' : m < d := m3
    have hmd := mul_next (q := q) (by omega) m1 k4 m3'
    have hv : ∀ t, z ≤ t → t < ats F k → vat F t = vat F z := fun t h1 h2 => stay_between h1 fun r hr' => by rcases hat r hr' with c | c <;> omega
    exact highN_ext _ (hv m m2' (by omega)) fun i hi => (hv _ (by omega) (by omega)).trans (hv _ (by omega) (by omega)).symm
theorem sumN_read {F : List Sg} {q x y z : Int} {k k' : Nat} (hq : 1 ≤ q) (h : WalkAt F q x y z k) (hr : ReadAt F z (z + q) k k') : sumN (readL F k k') z q.toNat = sumN F z q.toNat := by
  have hv : ∀ t, z ≤ t → t < z + q → vat (readL F k k') t = vat F t := fun t h1 h2 => readL_val hr.le hr.hk (fun i hi => by have := h.low i hi; omega) (fun i h3 h4 => by have := hr.hi i h3 h4; omega)
  exact sumN_ext2 _ (hv z (Int.le_refl _) (by omega)) fun i hi => hv _ (by omega) (by omega)
/-- A quantum in which the function changes. -/
theorem sumN_one {F : List Sg} {q x y z : Int} {k k' : Nat} {pre : List St} (hq : 1 ≤ q) (h : WalkAt F q x y z k) (hz : z < y) (hr : ReadAt F z (z + q) k k') (he : endG x pre = z) :
    RowAt (fun m => sumN F m q.toNat) q x y pre (z, z + q, sumN F z q.toNat) ∧ WalkAt F q x y (z + q) k' := by
  have := walk_to hq h hz
  have hm := add_mul h.zm
  refine ⟨⟨he.symm, h.zm, h.xz, by show z < z + q; omega, this, hm, fun m m1 m2 m3 => ?_⟩, ⟨hr.hk, hm, h.ym, by have := h.xz; omega, this, fun i hi => ?_⟩⟩
  · have e : m = z := by
      by_cases c : z < m
      · have := mul_next (by omega) h.zm m1 c
        have : m < z + q := m3
        omega
      · have : z ≤ m := m2
        omega
    rw [e]
  · by_cases c : i < k
    · have := h.low i c; omega
    · exact hr.lo i (by omega) hi
/-- It never changes again. -/
theorem sumN_last {F : List Sg} {q x y z : Int} {k : Nat} {pre : List St} (_hq : 1 ≤ q) (h : WalkAt F q x y z k) (hz : z < y) (hk : k = F.length) (he : endG x pre = z) :
    RowAt (fun m => sumN F m q.toNat) q x y pre (z, y, sumN F z q.toNat) := by
  refine ⟨he.symm, h.zm, h.xz, hz, Int.le_refl _, h.ym, fun m m1 m2 m3 => ?_⟩
  have hv : ∀ t, z ≤ t → vat F t = vat F z := fun t ht => stay_between ht fun r hr => by
    obtain ⟨i, hi, rfl⟩ := List.getElem_of_mem hr
    have := h.low i (by omega)
    unfold ats at this
    rw [getD_get _ _ _ hi] at this
    exact .inl (by omega)
  have m2' : z ≤ m := m2
  exact sumN_ext2 _ (hv m m2') fun i _ => (hv _ (by omega)).trans (hv _ (by omega)).symm
/-- It changes again, in a later quantum. -/
theorem sumN_skip {F : List Sg} {q x y z : Int} {k : Nat} {pre : List St} (hq : 1 ≤ q) (h : WalkAt F q x y z k) (hz : z < y) (hr : ReadAt F z (z + q) k k) (hk : k < F.length) (hAsc : ∀ i, k < i → i < F.length → ats F k ≤ ats F i) (he : endG x pre = z) {d : Int} (hd : d = mn (downI (ats F k) q) y) :
    RowAt (fun m => sumN F m q.toNat) q x y pre (z, d, sumN F z q.toNat) ∧ WalkAt F q x y d k := by
  have h1 := hr.hi k (Nat.le_refl _) hk
  have d1 := down_le (t := ats F k) (q := q) (by omega); have d2 := down_gt (t := ats F k) (q := q) (by omega); have d3 := down_mul (t := ats F k) (q := q)
  have hzq := walk_to hq h hz
  have hdz : z + q ≤ downI (ats F k) q := by
    by_cases c : z + q ≤ downI (ats F k) q
    · exact c
    · have := mul_next (by omega) d3 (add_mul h.zm) (by omega); omega
  have hmn : d ≤ downI (ats F k) q ∧ d ≤ y ∧ z + q ≤ d ∧ d % q = 0 := by
    rw [hd, mn_min]
    by_cases c : downI (ats F k) q ≤ y
    · rw [Int.min_eq_left c]; exact ⟨Int.le_refl _, c, hdz, d3⟩
    · rw [Int.min_eq_right (by omega)]; exact ⟨by omega, Int.le_refl _, hzq, h.ym⟩
  obtain ⟨k1, k2, k3, k4⟩ := hmn
  have hxz := h.xz
  have hat : ∀ r ∈ F, r.1 < z ∨ ats F k ≤ r.1 := fun r hr' => by
    obtain ⟨i, hi, rfl⟩ := List.getElem_of_mem hr'
    have ei : F[i].1 = ats F i := by unfold ats; rw [getD_get _ _ _ hi]
    by_cases c : i < k
    · have := h.low i c
      exact .inl (by omega)
    · refine .inr ?_
      rw [ei]
      by_cases c2 : i = k
      · rw [c2]; exact Int.le_refl _
      · exact hAsc i (by omega) hi
  refine ⟨⟨he.symm, h.zm, hxz, by show z < d; omega, k2, k4, fun m m1 m2 m3 => ?_⟩, ⟨h.hk, k4, h.ym, by omega, k2, fun i hi => by have := h.low i hi; omega⟩⟩
  · have m2' : z ≤ m := m2
    have m3' : m < d := m3
    have hmd := mul_next (q := q) (by omega) m1 k4 m3'
    have hv : ∀ t, z ≤ t → t < ats F k → vat F t = vat F z := fun t h1 h2 => stay_between h1 fun r hr' => by rcases hat r hr' with c | c <;> omega
    exact sumN_ext2 _ (hv m m2' (by omega)) fun i hi => (hv _ (by omega) (by omega)).trans (hv _ (by omega) (by omega)).symm
end Go.Proofs.Ytigepmijgoglhaa
