/- The contract of rle.At and what it calls. No conditions but that the list's cells read as integers. -/
import Derived.Test.YtibmldgbimjgfaaCmp
import Derived.LoopTactic
import Derived.Deep.LoopGhost
import Derived.WalkMore
import Derived.ScopeJumps
import Derived.Deep.DeepCutAuto
import Derived.Outline
namespace Go.Proofs.Ytibmldgbimjgfaa
open Go.ChangeShapes Go.WideShapes Go.ChangeAt Go.RowKit
attribute [local irreducible] Go.Calls

set_option maxHeartbeats 1000000 in
theorem scan_c (l : List Sg) (a : Option Addr) (cap : Nat) (t : Int) (w : World) (hl : l.length ≤ 9223372036854775807) (hA : ArgS w a l) :
    Calls Try.prog 22 #[.slice a l.length cap, .int .i64 t] w (RetN w fun n => n ≤ l.length ∧ (n = 0 ∨ ats l (n - 1) ≤ t) ∧ ∀ i, n ≤ i → i < l.length → t < ats l i) := by
  have HA := hidE hA; clear hA
  go_enter Try.func22, Try.ntmps22
  go_wp2
  go_loop [5] (fun i => ∃ n : Nat, n ≤ l.length ∧ i = .int .i64 n ∧ ∀ i, n ≤ i → i < l.length → t < ats l i) (fun i => (intOf i).toNat)
  case atStart => exact ⟨l.length, Nat.le_refl _, rfl, fun i h1 h2 => by omega⟩
  case round =>
    obtain ⟨n, hn, rfl, h2⟩ := hrel
    have H2 := hidE h2; clear h2
    by_cases h0 : n = 0
    · subst h0
      go_wp2
      go_ret
      exact ⟨0, rfl, ⟨hn, .inl rfl, H2.out⟩, Below.refl _ _⟩
    · obtain ⟨k, rfl⟩ : ∃ k, n = k + 1 := ⟨n - 1, by omega⟩
      obtain ⟨b, off, rfl, hb, hc⟩ := HA.out (by omega)
      obtain ⟨c0, c1, c2⟩ := hc.get (i := k) (by omega)
      clear hc HA
      by_cases hgt : t < ats l k
      · have HX := hidE (show ∀ i, k ≤ i → i < l.length → t < ats l i from fun i h1 h2 => by
          by_cases e : i = k
          · rw [e]; exact hgt
          · exact H2.out i (by omega) h2)
        generalize ats l k = u at *
        go_wp2
        go_round
        case rel => exact ⟨k, by omega, by go_num, HX.out⟩
        case measure => simp [intOf]
      · have HX := hidE (show ats l (k + 1 - 1) ≤ t by rw [Nat.add_sub_cancel]; omega)
        generalize ats l k = u at *
        go_wp2
        go_ret
        exact ⟨k + 1, by go_num, ⟨hn, .inr HX.out, H2.out⟩, Below.refl _ _⟩

set_option maxHeartbeats 1000000 in
theorem sorted_c (l : List Sg) (a : Option Addr) (cap : Nat) (w : World) (hl : l.length ≤ 9223372036854775807) (hA : ArgS w a l) :
    Calls Try.prog 20 #[.slice a l.length cap, .func (.func 21) #[] #[]] w (RetB w fun r => r = true → Asc l) := by
  have HA := hidE hA; clear hA
  go_enter Try.func20, Try.ntmps20
  go_wp2
  go_loopg [5] l.length (fun g vi wr => ∃ n : Nat, n ≤ l.length ∧ n ≤ g ∧ vi = .int .i64 ((n : Int) - 1) ∧ (∀ i, n ≤ i + 1 → i + 1 < l.length → ats l i ≤ ats l (i + 1)) ∧ Below w.heap.size w wr)
  case atStart => exact ⟨l.length, Nat.le_refl _, Nat.le_refl _, rfl, fun i h1 h2 => by omega, Below.refl _ _⟩
  case round =>
    obtain ⟨n, hn, hg, rfl, h2, hb⟩ := hrel
    have H2 := hidE h2; have HB := hidE hb; clear h2 hb
    by_cases h0 : n ≤ 1
    · have hz : ¬ (0 : Int) < (n : Int) - 1 := by omega
      have hz' : ¬ (1 : Int) < (n : Int) := by omega
      go_wp2
      go_ret
      exact ⟨true, rfl, fun _ i h => H2.out i (by omega) h, HB.out⟩
    · obtain ⟨k, rfl⟩ : ∃ k, n = k + 2 := ⟨n - 2, by omega⟩
      obtain ⟨b, off, rfl, hb, hc⟩ := (HA.out.past HB.out) (by omega)
      obtain ⟨c0, c1, c2⟩ := hc.get (i := k) (by omega)
      obtain ⟨d0, d1, d2⟩ := hc.get (i := k + 1) (by omega)
      clear hc
      have e1 : (k : Int) + 2 - 1 = (k : Int) + 1 := by omega
      have z : b < wr.heap.size := hb
      by_cases hlt : ats l (k + 1) < ats l k
      · have hd : decide (cmpI (ats l (k + 1)) (ats l k) < 0) = true := by rw [cmpI_neg]; exact decide_eq_true hlt
        generalize ats l k = u at *
        generalize ats l (k + 1) = v at *
        go_wp2
        try simp only [e1]
        refine wp_region_past_lit (by kernel_rfl) (by kernel_rfl) ?_
        have hc := Past.cell (W := wr)
        repeat (go_big_quiet_step ((go_at_call 21; exact Past.call _ (byAt_c _ _ _ _ _ _ _))))
        refine wpQuiet_nil ?_
        rintro _ ⟨x', rfl⟩
        go_wp2
        go_ret
        exact ⟨false, rfl, (fun h => by cases h), bstep x'.2 HB.out⟩
      · have hd : decide (cmpI (ats l (k + 1)) (ats l k) < 0) = false := by rw [cmpI_neg]; exact decide_eq_false hlt
        have HX := hidE (show ∀ i, k + 1 ≤ i + 1 → i + 1 < l.length → ats l i ≤ ats l (i + 1) from fun i h1 h2 => by
          by_cases e : i = k
          · rw [e]; omega
          · exact H2.out i (by omega) h2)
        generalize ats l k = u at *
        generalize ats l (k + 1) = v at *
        go_wp2
        try simp only [e1]
        refine wp_region_past_lit (by kernel_rfl) (by kernel_rfl) ?_
        have hc := Past.cell (W := wr)
        repeat (go_big_quiet_step ((go_at_call 21; exact Past.call _ (byAt_c _ _ _ _ _ _ _))))
        refine wpQuiet_nil ?_
        rintro _ ⟨x', rfl⟩
        go_wp2
        go_roundg (k + 1)
        case measure => omega
        case rel => exact ⟨k + 1, by omega, Nat.le_refl _, by go_num, HX.out, bstep x'.2 HB.out⟩

set_option maxHeartbeats 1000000 in
theorem search_c (l : List Sg) (a : Option Addr) (cap : Nat) (t : Int) (w : World) (hl : l.length ≤ 9223372036854775807) (hA : ArgS w a l) :
    Calls Try.prog 19 #[.slice a l.length cap, .int .i64 t] w (RetN w fun n => n ≤ l.length ∧ Found l t n) := by
  have HA := hidE hA; clear hA
  go_enter Try.func19, Try.ntmps19
  go_wp2
  refine wp_scope_jumps 0 (fun a' w' => w' = w ∧ ∃ (lo hi : Nat) (u7 u8 u9 u10 u11 u12 u13 u14 u15 u16 u17 u18 u19 u20 u21 u22 u23 u24 u25 u26 u27 u28 u29 : Value), a' = { tmps := #[.slice a l.length cap, .int .i64 t, undef, undef, .int .i64 0, .int .i64 lo, .int .i64 hi, u7, u8, u9, u10, u11, u12, u13, u14, u15, u16, u17, u18, u19, u20, u21, u22, u23, u24, u25, u26, u27, u28, u29], defers := [] } ∧ lo ≤ hi ∧ hi ≤ l.length ∧ (lo = 0 ∨ ats l (lo - 1) ≤ t) ∧ (hi = l.length ∨ t < ats l hi)) (fun a' _ => (intOf (a'.tmps.getD 6 undef) - intOf (a'.tmps.getD 5 undef)).toNat) rfl ?_ ?_
  · by_cases hlt : l.length = 0
    · have e1 : ((0 : Int) == (l.length : Int)) = true := beq_iff_eq.2 (by omega)
      go_wp2
      go_step3
      go_wp2
      simp only [Exit.jump]
      go_ret
      exact ⟨0, rfl, ⟨Nat.zero_le _, .inl rfl, .inl (by omega)⟩, Below.refl _ _⟩
    · have e1 : ((0 : Int) == (l.length : Int)) = false := beq_eq_false_iff_ne.2 (by omega)
      obtain ⟨q, eq⟩ : ∃ q : Nat, (l.length : Int) / 2 = (q : Int) := ⟨l.length / 2, by omega⟩
      have b1 : 0 ≤ q := by omega
      have b2 : q < l.length := by omega
      have EM := hidE eq
      obtain ⟨b, off, rfl, hb, hc⟩ := HA.out (by omega)
      obtain ⟨c0, c1, c2⟩ := hc.get (i := q) (by omega)
      clear hc eq c1 c2
      by_cases hle : ats l q ≤ t
      · have HX := hidE hle
        generalize hu : ats l q = u at *
        have HU := hidE hu
        clear hu
        go_wp2
        go_step3
        go_upto_region 5 with fail
        simp only [EM.out]
        go_wp2
        go_step3
        exact ⟨rfl, ⟨rfl, q + 1, l.length, _, _, _, _, _, _, _, _, _, _, _, _, _, _, _, _, _, _, _, _, _, _, _, (by go_num), by omega, by omega, .inr (by rw [Nat.add_sub_cancel, HU.out]; exact HX.out), (.inl rfl)⟩⟩
      · have HX := hidE hle
        generalize hu : ats l q = u at *
        have HU := hidE hu
        clear hu
        go_wp2
        go_step3
        go_upto_region 5 with fail
        simp only [EM.out]
        go_wp2
        go_step3
        exact ⟨rfl, ⟨rfl, 0, q, _, _, _, _, _, _, _, _, _, _, _, _, _, _, _, _, _, _, _, _, _, _, _, rfl, by omega, by omega, (.inl rfl), .inr (by rw [HU.out]; have := HX.out; omega)⟩⟩
  · rintro a' w' ⟨rfl, lo, hi, u7, u8, u9, u10, u11, u12, u13, u14, u15, u16, u17, u18, u19, u20, u21, u22, u23, u24, u25, u26, u27, u28, u29, rfl, h1, h2, h3, h4⟩
    have H3 := hidE h3; have H4 := hidE h4; clear h3 h4
    by_cases hlt : lo = hi
    · subst hlt
      have e1 : ((lo : Int) == (lo : Int)) = true := beq_self_eq_true _
      go_wp2
      simp only [Exit.jump]
      go_ret
      exact ⟨lo, rfl, ⟨h2, H3.out, H4.out⟩, Below.refl _ _⟩
    · have e1 : ((lo : Int) == (hi : Int)) = false := beq_eq_false_iff_ne.2 (by omega)
      obtain ⟨q, eq⟩ : ∃ q : Nat, (lo : Int) + ((hi : Int) - (lo : Int)) / 2 = (q : Int) := ⟨lo + (hi - lo) / 2, by omega⟩
      have b1 : lo ≤ q := by omega
      have b2 : q < hi := by omega
      have EM := hidE eq
      obtain ⟨b, off, rfl, hb, hc⟩ := HA.out (by omega)
      obtain ⟨c0, c1, c2⟩ := hc.get (i := q) (by omega)
      clear hc eq c1 c2
      by_cases hle : ats l q ≤ t
      · have HX := hidE hle
        generalize hu : ats l q = u at *
        have HU := hidE hu
        clear hu
        go_upto_region 5 with fail
        simp only [EM.out]
        go_wp2
        go_step3
        exact ⟨rfl, ⟨rfl, q + 1, hi, _, _, _, _, _, _, _, _, _, _, _, _, _, _, _, _, _, _, _, _, _, _, _, (by go_num), by omega, by omega, .inr (by rw [Nat.add_sub_cancel, HU.out]; exact HX.out), H4.out⟩, by simp [intOf]; omega⟩
      · have HX := hidE hle
        generalize hu : ats l q = u at *
        have HU := hidE hu
        clear hu
        go_upto_region 5 with fail
        simp only [EM.out]
        go_wp2
        go_step3
        exact ⟨rfl, ⟨rfl, lo, q, _, _, _, _, _, _, _, _, _, _, _, _, _, _, _, _, _, _, _, _, _, _, _, rfl, by omega, by omega, H3.out, .inr (by rw [HU.out]; have := HX.out; omega)⟩, by simp [intOf]; omega⟩
end Go.Proofs.Ytibmldgbimjgfaa
