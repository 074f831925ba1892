/- The contract of package lex's Number. No conditions but the text's length. The contracts of package lex's kinds and kindOf. No conditions but the text's length, and that the list of kinds lies where kinds laid it. A range over a function: an iterator that keeps state of its own in cells, and the law for its caller. The caller's own variables lie below where the loop begins; the iterator's own, and the loop's book-keeping, at or beyond. Program-free. No conditions. A range over a function whose body keeps a block of its own, made in an earlier round (a slice that it appends to), and may leave the loop: an iterator's contract with that block named, and with what the iterator reads of the caller's, and the law for its caller. Program-free. No conditions. The contract of the iterator that package lex's runs hands back: it hands on a text's runs, one after the other. No conditions but the text's length. The contract of package lex's Lex. No conditions. The contracts of the reader's method definition and of Parse: what is abandoned by a panic is recovered, with its place. No conditions. The contract of Parse. No conditions but the text's length and the tables. -/
import Derived.Test.YtaeipfnpglbooaaDoorP7GB
import Derived.RangeFuncRecord
import Derived.RangeFuncSeq
import Derived.Shelf.Abstract
import Derived.RangeFuncCalls
import Derived.OwnWalkIn
import Derived.Test.YtaeipfnpglbooaaDoorP7GA
namespace Go.Proofs.YtaeipfnpglbooaaDoor
open Go.ChangeShapes Go.WideShapes Go.ChangeAt Go.RowKit
attribute [local irreducible] Go.Calls

def numS (s : List UInt8) : Int × Bool := if isNum s then (valD s, true) else (0, false)
theorem valD_take {s : List UInt8} {i : Nat} (h : i < s.length) : valD (s.take (i + 1)) = 10 * valD (s.take i) + (((s.getD i 0).toNat : Int) - 48) := by
  rw [List.take_add_one, List.getElem?_eq_getElem h, Option.toList_some, valD_snoc, List.getD_eq_getElem?_getD, List.getElem?_eq_getElem h]
  rfl
theorem digit_range {c : UInt8} (h : digitB c = true) : 48 ≤ (c.toNat : Int) ∧ (c.toNat : Int) ≤ 57 := by
  rw [← dgtI_of] at h
  unfold dgtI at h
  exact of_decide_eq_true h
theorem valD_grows {s : List UInt8} (h : s.all digitB = true) : ∀ (i : Nat), i ≤ s.length → 0 ≤ valD (s.take i)
  | 0, _ => by simp [valD]
  | i + 1, hi => by
    have ih := valD_grows h i (by omega)
    rw [valD_take (by omega)]
    rw [List.all_eq_true] at h
    have := digit_range (h _ (List.getElem_mem (show i < s.length by omega)))
    rw [List.getD_eq_getElem?_getD, List.getElem?_eq_getElem (show i < s.length by omega)]
    simp only [Option.getD_some]
    omega
theorem valD_mono {s : List UInt8} (h : s.all digitB = true) (i : Nat) : ∀ (d : Nat), i + d ≤ s.length → valD (s.take i) ≤ valD (s.take (i + d))
  | 0, _ => Int.le_refl _
  | d + 1, hi => by
    have ih := valD_mono h i d (by omega)
    have h0 := valD_grows h (i + d) (by omega)
    rw [show i + (d + 1) = i + d + 1 by omega, valD_take (by omega)]
    rw [List.all_eq_true] at h
    have := digit_range (h _ (List.getElem_mem (show i + d < s.length by omega)))
    rw [List.getD_eq_getElem?_getD, List.getElem?_eq_getElem (show i + d < s.length by omega)]
    simp only [Option.getD_some]
    omega
theorem num_over {s : List UInt8} {i : Nat} (hi : i ≤ s.length) (h : 1099511627776 < valD (s.take i)) : isNum s = false := by
  unfold isNum
  cases hd : s.all digitB
  · simp
  · have := valD_mono hd i (s.length - i) (by omega)
    rw [show i + (s.length - i) = s.length by omega, List.take_length] at this
    rw [show decide (valD s ≤ 1099511627776) = false from decide_eq_false (by omega), Bool.and_false]
theorem num_bad {s : List UInt8} {i : Nat} (hi : i < s.length) (h : digitB (s.getD i 0) = false) : isNum s = false := by
  unfold isNum
  rw [show s.all digitB = false from by
    rw [List.all_eq_false]
    rw [List.getD_eq_getElem?_getD, List.getElem?_eq_getElem hi] at h
    exact ⟨_, List.getElem_mem hi, by rw [show digitB s[i] = false from h]; decide⟩]
  simp
theorem num_zeroes {c : UInt8} {r : List UInt8} (hr : 0 < r.length) (h : c = 48) : isNum (c :: r) = false := by
  subst h
  unfold isNum
  rw [show ((48 :: r : List UInt8).length == 1) = false from by simp; intro e; subst e; simp at hr]
  simp
theorem num_good {s : List UInt8} (h0 : s ≠ []) (hall : ∀ j, j < s.length → digitB (s.getD j 0) = true) (hz : s.length = 1 ∨ s.getD 0 0 ≠ 48) (hv : valD s ≤ 1099511627776) : isNum s = true := by
  unfold isNum
  simp only [Bool.and_eq_true, Bool.or_eq_true, decide_eq_true_iff]
  refine ⟨⟨⟨?_, ?_⟩, ?_⟩, hv⟩
  · cases s with
    | nil => exact absurd rfl h0
    | cons c r => rfl
  · rw [List.all_eq_true]
    intro x hx
    obtain ⟨j, hj, e⟩ := List.getElem_of_mem hx
    have := hall j hj
    rw [List.getD_eq_getElem?_getD, List.getElem?_eq_getElem hj] at this
    rw [← e]; exact this
  · rcases hz with h | h
    · left; rw [h]; rfl
    · right
      cases s with
      | nil => exact absurd rfl h0
      | cons c r => simpa using h
theorem numS_no {s : List UInt8} (h : isNum s = false) : numS s = (0, false) := by unfold numS; rw [h]; rfl
theorem numS_yes {s : List UInt8} (h : isNum s = true) : numS s = (valD s, true) := by unfold numS; rw [if_pos h]

set_option maxHeartbeats 1000000 in
theorem num_c (s : List UInt8) (w : World) (hs : s.length ≤ 1000000000) : Calls Tryd.prog 36 #[strV s] w fun e w' => e = .returned (.tuple #[.int .i64 (numS s).1, .bool (numS s).2]) ∧ Below w.heap.size w w' := by
  cases s with
  | nil =>
    rw [show numS [] = (0, false) from rfl]
    go_enter Tryd.func36, Tryd.ntmps36
    go_wp2
    go_ret2
    exact ⟨rfl, Below.refl _ _⟩
  | cons c r =>
    have hcase : (0 < r.length ∧ c = 48) ∨ (r.length = 0 ∨ c ≠ 48) := by
      by_cases h1 : r.length = 0
      · exact .inr (.inl h1)
      · by_cases h2 : c = 48
        · exact .inl ⟨by omega, h2⟩
        · exact .inr (.inr h2)
    have hne : c :: r ≠ [] := by simp
    have hemp : (c :: r).isEmpty = false := rfl
    have hp0 : 0 < (c :: r).length := by simp
    have hp1 : (0 : Int) < ((c :: r).length : Int) := by omega
    have hp2 : decide (0 < (c :: r).length) = true := decide_eq_true hp0
    have slen : (⟨(c :: r).toArray⟩ : ByteArray).size = (c :: r).length := by simp [ByteArray.size]
    have hb0 : ∀ h, (⟨(c :: r).toArray⟩ : ByteArray)[0]'h = c := fun h => byte_at (c :: r) h
    rcases hcase with ⟨h1, h2⟩ | h1
    · have HE := hidE (numS_no (num_zeroes h1 h2))
      have d1 : decide ((1 : Int) < ((c :: r).length : Int)) = true := decide_eq_true (by simp only [List.length_cons]; omega)
      have e1 : ((c.toNat : Int) == 48) = true := by rw [h2]; rfl
      rw [HE.out]
      clear HE h2 hne
      generalize c :: r = s at *
      clear h1
      go_enter Tryd.func36, Tryd.ntmps36
      go_wp2
      go_ret2
      exact ⟨rfl, Below.refl _ _⟩
    · have hz : ((c :: r).length = 1 ∨ (c :: r).getD 0 0 ≠ 48) ∧ (decide ((1 : Int) < ((c :: r).length : Int)) = false ∨ (decide ((1 : Int) < ((c :: r).length : Int)) = true ∧ ((c.toNat : Int) == 48) = false)) := by
        refine ⟨h1.imp (fun h => by simp [h]) (fun h => h), ?_⟩
        by_cases hr : r.length = 0
        · left; exact decide_eq_false (by simp only [List.length_cons]; omega)
        · right
          refine ⟨decide_eq_true (by simp only [List.length_cons]; omega), beq_eq_false_iff_ne.2 fun e => ?_⟩
          rcases h1 with h1 | h1
          · exact hr h1
          · exact h1 (UInt8.toNat_inj.1 (by rw [show (48 : UInt8).toNat = 48 from rfl]; omega))
      have HNE := hidE hne; have HZ := hidE hz.1
      obtain ⟨_, hz⟩ := hz
      clear h1 hne
      generalize c :: r = s at *
      rcases hz with d1 | ⟨d1, e1⟩
      all_goals
        go_enter Tryd.func36, Tryd.ntmps36
        go_wp2
        go_loopg [4, 20] s.length (fun gh v4 v20 wr => ∃ i : Nat, i ≤ s.length ∧ s.length - i ≤ gh ∧ v20 = .int .i64 i ∧ v4 = .int .i64 (valD (s.take i)) ∧ 0 ≤ valD (s.take i) ∧ valD (s.take i) ≤ 1099511627776 ∧ (∀ j, j < i → digitB (s.getD j 0) = true) ∧ wr = w)
        case atStart => exact ⟨0, Nat.zero_le _, Nat.le_refl _, rfl, rfl, by simp [valD], by simp [valD], fun j h => by omega, rfl⟩
        case round =>
          obtain ⟨i, hi, hgh, rfl, rfl, hv0, hv1, hall, rfl⟩ := hrel
          have HA := hidE hall
          clear hall hb0
          by_cases hlt : i < s.length
          · have q1 : decide ((i : Int) < (s.length : Int)) = true := decide_eq_true (by omega)
            have q1' : decide (i < s.length) = true := decide_eq_true hlt
            have hbt : ∀ h, (⟨s.toArray⟩ : ByteArray)[i]'h = s.getD i 0 := fun h => byte_at s h
            cases hl : digitB (s.getD i 0)
            · have HE := hidE (numS_no (num_bad hlt hl))
              have HIN := hidE (fun w => digit_c (s.getD i 0) w)
              rw [hl] at HIN
              clear hl
              generalize s.getD i 0 = x at *
              go_wp2_with (go_at_call 46; (with_reducible refine (HIN.out _).mono ?_); rintro e w' ⟨rfl, rfl⟩)
              go_ret2
              exact ⟨by rw [HE.out]; rfl, Below.refl _ _⟩
            · have HIN := hidE (fun w => digit_c (s.getD i 0) w)
              rw [hl] at HIN
              have HT := hidE (valD_take hlt)
              have hr := digit_range hl
              have HL := hidE hl
              clear hl
              have HOV := hidE (fun (h : 1099511627776 < valD (s.take (i + 1))) => numS_no (num_over (i := i + 1) (by omega) h))
              generalize hxd : s.getD i 0 = x at *
              have HXD := hidE hxd
              clear hxd
              generalize valD (s.take i) = m at *
              have w1 : IntKind.i64.wrap (10 * m) = 10 * m := IntWalk.i64_in _ (by omega)
              have w2 : IntKind.u8.wrap ((x.toNat : Int) - 48) = (x.toNat : Int) - 48 := by simp [IntKind.wrap, IntKind.bits, IntKind.signed]; omega
              have w3 : IntKind.i64.wrap ((x.toNat : Int) - 48) = (x.toNat : Int) - 48 := IntWalk.i64_in _ (by omega)
              have w4 : IntKind.i64.wrap (10 * m + ((x.toNat : Int) - 48)) = 10 * m + ((x.toNat : Int) - 48) := IntWalk.i64_in _ (by omega)
              by_cases hov : 1099511627776 < 10 * m + ((x.toNat : Int) - 48)
              · have HE := hidE (HOV.out (by rw [HT.out]; exact hov))
                have q2 : decide ((1099511627776 : Int) < 10 * m + ((x.toNat : Int) - 48)) = true := decide_eq_true hov
                go_wp2_with (go_at_call 46; (with_reducible refine (HIN.out _).mono ?_); rintro e w' ⟨rfl, rfl⟩)
                go_ret2
                exact ⟨by rw [HE.out]; rfl, Below.refl _ _⟩
              · have q2 : decide ((1099511627776 : Int) < 10 * m + ((x.toNat : Int) - 48)) = false := decide_eq_false hov
                go_wp2_with (go_at_call 46; (with_reducible refine (HIN.out _).mono ?_); rintro e w' ⟨rfl, rfl⟩)
                go_roundg (s.length - (i + 1))
                case measure => omega
                case rel => exact ⟨i + 1, by omega, Nat.le_refl _, by go_num, by rw [HT.out], by rw [HT.out]; omega, by rw [HT.out]; omega, fun j hj => by
                  by_cases e : j = i
                  · subst e; rw [HXD.out]; exact HL.out
                  · exact HA.out j (by omega), rfl⟩
          · have q1 : decide ((i : Int) < (s.length : Int)) = false := decide_eq_false (by omega)
            have q1' : decide (i < s.length) = false := decide_eq_false hlt
            obtain rfl : i = s.length := by omega
            rw [List.take_length] at hv1
            have HE := hidE (numS_yes (num_good HNE.out HA.out HZ.out hv1))
            simp only [List.take_length]
            go_wp2
            go_ret2
            exact ⟨by rw [HE.out]; rfl, Below.refl _ _⟩
end Go.Proofs.YtaeipfnpglbooaaDoor

namespace Go.Proofs.YtaeipfnpglbooaaDoor
open Go.ChangeShapes Go.WideShapes Go.ChangeAt Go.RowKit
attribute [local irreducible] Go.Calls

theorem run_store_fn {P : Program} {w : World} {a : Addr} {m : Mode} {f : Fn} {l r : Array Value} : (store a (.func f l r) m).run P w = stored P w a (.func f l r) m := run_store P w a _ m rfl
attribute [local go_sem] run_store_fn
theorem kcl_word (t : List UInt8) (w : World) (hs : t.length ≤ 1000000000) : Calls Tryd.prog 34 #[strV t] w fun e w' => e = .returned (.tuple #[.int .i64 0, .bool (isWord t)]) ∧ Below w.heap.size w w' := by
  have HW := hidE (fun w => word_c t w hs)
  generalize isWord t = b at *
  go_enter Tryd.func34, Tryd.ntmps34
  go_wp2_with (go_at_call 35; (with_reducible refine (HW.out _).mono ?_); rintro e w' ⟨rfl, hb⟩)
  go_ret2
  exact ⟨rfl, hb⟩
theorem kcl_mark (t m : List UInt8) (p : Nat) (w : World) (hB : Blk w p #[strV m] 9) : Calls Tryd.prog 47 #[strV t, .pointer (some ⟨p, 0, none⟩)] w fun e w' => e = .returned (.tuple #[.int .i64 0, .bool (t == m)]) ∧ Below w.heap.size w w' := by
  have c0 := hB.cell 0; have cz := hB.lt
  simp at c0
  clear hB
  go_enter Tryd.func47, Tryd.ntmps47
  go_wp2
  go_quiet (fail)
  go_wp2
  go_ret2
  exact ⟨rfl, by (repeat (first | exact Below.refl _ _ | assumption | refine balloc ?_ _ | refine below_drewN ?_ _ | refine bstep (by assumption) ?_ | refine bstep (Past.prop _) ?_ | refine Below.setCell ?_ (by first | exact Nat.le_refl _ | (simp; done) | (simp; omega)) _))⟩
theorem kinds_c (w : World) : Calls Tryd.prog 22 #[] w fun e w' => e = .returned (.slice (some ⟨w.heap.size + 3, 0, none⟩) 5 5) ∧ Below w.heap.size w w' ∧ Blk w' (w.heap.size + 3) #[.int .u8 0, .func (.func 34) #[] #[], .int .u8 1, .func (.func 36) #[] #[], .int .u8 2, .func (.func 47) #[] #[.pointer (some ⟨w.heap.size, 0, none⟩)], .int .u8 3, .func (.func 47) #[] #[.pointer (some ⟨w.heap.size + 1, 0, none⟩)], .int .u8 4, .func (.func 47) #[] #[.pointer (some ⟨w.heap.size + 2, 0, none⟩)]] 87 ∧ Blk w' w.heap.size #[strV [40]] 9 ∧ Blk w' (w.heap.size + 1) #[strV [41]] 9 ∧ Blk w' (w.heap.size + 2) #[strV [58]] 9 := by
  go_enter Tryd.func22, Tryd.ntmps22
  go_wp2
  go_ret
  refine ⟨rfl, by (repeat (first | exact Below.refl _ _ | assumption | refine balloc ?_ _ | refine below_drewN ?_ _ | refine bstep (by assumption) ?_ | refine bstep (Past.prop _) ?_ | refine Below.setCell ?_ (by first | exact Nat.le_refl _ | (simp; done) | (simp; omega)) _)), ?_, ?_, ?_, ?_⟩
  · exact Blk.made_at _ _ _ _ (by simp)
  · exact (((Blk.made_at _ _ _ _ rfl).alloc _).alloc _).alloc _
  · exact ((Blk.made_at _ _ _ _ (by simp)).alloc _).alloc _
  · exact (Blk.made_at _ _ _ _ (by simp)).alloc _
/-- What kindOf hands back. -/
def kO (t : List UInt8) : Nat × Int × Bool := match kindOf t with
  | none => (0, 0, false)
  | some k => (k.1, k.2, true)
theorem word_num {t : List UInt8} (h : isWord t = true) : isNum t = false := by
  unfold isWord at h
  rw [Bool.and_eq_true] at h
  obtain ⟨h1, h2⟩ := h
  cases t with
  | nil => cases h1
  | cons c r =>
    rw [List.all_cons, Bool.and_eq_true] at h2
    unfold isNum
    have : digitB c = false := by
      cases hd : digitB c
      · rfl
      · rw [digit_letter hd] at h2; exact absurd h2.1 (by decide)
    rw [List.all_cons, this]
    simp
theorem kO_word {t : List UInt8} (h : isWord t = true) : kO t = (0, 0, true) := by
  have hn := word_num h
  have e1 : t ≠ [40] := fun e => by rw [e] at h; exact absurd h (by decide)
  have e2 : t ≠ [41] := fun e => by rw [e] at h; exact absurd h (by decide)
  have e3 : t ≠ [58] := fun e => by rw [e] at h; exact absurd h (by decide)
  unfold kO kindOf
  rw [hn, if_neg (by decide), if_neg e1, if_neg e2, if_neg e3, if_pos h]
theorem kO_num {t : List UInt8} (h : isNum t = true) : kO t = (1, valD t, true) := by
  unfold kO kindOf
  rw [if_pos h]
theorem kO_open : kO [40] = (2, 0, true) := by decide
theorem kO_close : kO [41] = (3, 0, true) := by decide
theorem kO_colon : kO [58] = (4, 0, true) := by decide
theorem kO_openB {t : List UInt8} (h : (t == [40]) = true) : kO t = (2, 0, true) := by rw [eq_of_beq h]; exact kO_open
theorem kO_closeB {t : List UInt8} (h : (t == [41]) = true) : kO t = (3, 0, true) := by rw [eq_of_beq h]; exact kO_close
theorem kO_colonB {t : List UInt8} (h : (t == [58]) = true) : kO t = (4, 0, true) := by rw [eq_of_beq h]; exact kO_colon
theorem kO_none {t : List UInt8} (h0 : isWord t = false) (h1 : isNum t = false) (h2 : (t == [40]) = false) (h3 : (t == [41]) = false) (h4 : (t == [58]) = false) : kO t = (0, 0, false) := by
  unfold kO kindOf
  rw [h1, h0, if_neg (by decide), if_neg (beq_eq_false_iff_ne.1 h2), if_neg (beq_eq_false_iff_ne.1 h3), if_neg (beq_eq_false_iff_ne.1 h4), if_neg (by decide)]
/-- The list of the kinds. -/
structure KindsAt (w : World) (b p1 p2 p3 : Nat) : Prop where
  all : Blk w b #[.int .u8 0, .func (.func 34) #[] #[], .int .u8 1, .func (.func 36) #[] #[], .int .u8 2, .func (.func 47) #[] #[.pointer (some ⟨p1, 0, none⟩)], .int .u8 3, .func (.func 47) #[] #[.pointer (some ⟨p2, 0, none⟩)], .int .u8 4, .func (.func 47) #[] #[.pointer (some ⟨p3, 0, none⟩)]] 87
  m1 : Blk w p1 #[strV [40]] 9
  m2 : Blk w p2 #[strV [41]] 9
  m3 : Blk w p3 #[strV [58]] 9
theorem KindsAt.below {w w' : World} {b p1 p2 p3 n : Nat} (h : KindsAt w b p1 p2 p3) (hb : Below n w w') (h1 : b < n) (h2 : p1 < n) (h3 : p2 < n) (h4 : p3 < n) : KindsAt w' b p1 p2 p3 :=
  ⟨h.all.below hb h1, h.m1.below hb h2, h.m2.below hb h3, h.m3.below hb h4⟩
theorem KindsAt.past {w w' : World} {b p1 p2 p3 : Nat} (h : KindsAt w b p1 p2 p3) (hb : Below w.heap.size w w') : KindsAt w' b p1 p2 p3 := h.below hb h.all.lt h.m1.lt h.m2.lt h.m3.lt
/-- No kind ahead of the i-th. -/
def noUp (t : List UInt8) (i : Nat) : Prop := (0 < i → isWord t = false) ∧ (1 < i → isNum t = false) ∧ (2 < i → (t == [40]) = false) ∧ (3 < i → (t == [41]) = false) ∧ (4 < i → (t == [58]) = false)
theorem noUp_zero (t : List UInt8) : noUp t 0 := ⟨fun h => by omega, fun h => by omega, fun h => by omega, fun h => by omega, fun h => by omega⟩
theorem noUp_word {t : List UInt8} (h : isWord t = false) : noUp t 1 := ⟨fun _ => h, fun h => by omega, fun h => by omega, fun h => by omega, fun h => by omega⟩
theorem noUp_num {t : List UInt8} (k : noUp t 1) (h : isNum t = false) : noUp t 2 := ⟨fun _ => k.1 (by omega), fun _ => h, fun h => by omega, fun h => by omega, fun h => by omega⟩
theorem noUp_open {t : List UInt8} (k : noUp t 2) (h : (t == [40]) = false) : noUp t 3 := ⟨fun _ => k.1 (by omega), fun _ => k.2.1 (by omega), fun _ => h, fun h => by omega, fun h => by omega⟩
theorem noUp_close {t : List UInt8} (k : noUp t 3) (h : (t == [41]) = false) : noUp t 4 := ⟨fun _ => k.1 (by omega), fun _ => k.2.1 (by omega), fun _ => k.2.2.1 (by omega), fun _ => h, fun h => by omega⟩
theorem noUp_colon {t : List UInt8} (k : noUp t 4) (h : (t == [58]) = false) : noUp t 5 := ⟨fun _ => k.1 (by omega), fun _ => k.2.1 (by omega), fun _ => k.2.2.1 (by omega), fun _ => k.2.2.2.1 (by omega), fun _ => h⟩
theorem noUp_none {t : List UInt8} (k : noUp t 5) : kO t = (0, 0, false) := kO_none (k.1 (by omega)) (k.2.1 (by omega)) (k.2.2.1 (by omega)) (k.2.2.2.1 (by omega)) (k.2.2.2.2 (by omega))

set_option maxHeartbeats 2000000 in
theorem kindof_c (t : List UInt8) (b p1 p2 p3 : Nat) (w : World) (hs : t.length ≤ 1000000000) (hK : KindsAt w b p1 p2 p3) :
    Calls Tryd.prog 24 #[strV t, .slice (some ⟨b, 0, none⟩) 5 5] w fun e w' => e = .returned (.tuple #[.int .u8 (kO t).1, .int .i64 (kO t).2.1, .bool (kO t).2.2]) ∧ Below w.heap.size w w' := by
  have HK := hidE hK
  clear hK
  go_enter Tryd.func24, Tryd.ntmps24
  go_wp2
  go_loopg [11] 5 (fun gh v11 wr => ∃ i : Nat, i ≤ 5 ∧ 5 - i ≤ gh ∧ v11 = .int .i64 i ∧ noUp t i ∧ Below w.heap.size w wr)
  case atStart => exact ⟨0, Nat.zero_le _, Nat.le_refl _, rfl, noUp_zero t, Below.refl _ _⟩
  case round =>
    obtain ⟨i, hi, hgh, rfl, hno, hb⟩ := hrel
    have KW := HK.out.past hb
    have HN := hidE hno; have HB := hidE hb; have HG := hidE hgh
    clear hno hb hgh
    obtain ⟨wo, hwo⟩ : ∃ wo : World, wo = wr := ⟨_, rfl⟩
    have hsz := HB.out.size
    obtain rfl | rfl | rfl | rfl | rfl | rfl : i = 0 ∨ i = 1 ∨ i = 2 ∨ i = 3 ∨ i = 4 ∨ i = 5 := by omega
    · have c0 := KW.all.cell 0; have c1 := KW.all.cell 1; have cz := KW.all.lt
      simp at c0 c1
      have HKW := hidE KW
      clear KW
      cases hy : isWord t
      · have HS := hidE (noUp_word hy)
        have HC := hidE (fun w => kcl_word t w)
        try rw [numS_no hy] at HC
        try rw [hy] at HC
        clear hy
        go_wp2_with (go_at_call 34; (with_reducible refine (HC.out _ (by first | exact hs | (exact HKW.out.m1.alloc _) | (exact HKW.out.m2.alloc _) | (exact HKW.out.m3.alloc _))).mono ?_); rintro e w' ⟨rfl, hb1⟩; have z1 := hb1.size; have c5 := hb1.cell (p := ⟨wr.heap.size, 0, none⟩) (by simp); simp at c5 z1)
        go_roundg (5 - (0 + 1))
        case measure => have := HG.out; omega
        case rel => exact ⟨0 + 1, by omega, Nat.le_refl _, by first | rfl | go_num, HS.out, HB.out.trans (((Below.refl _ wr).alloc (Nat.le_refl _) _).trans (hb1.mono (by simp)) |>.mono hsz)⟩
      · have HS := hidE (show kO t = _ from kO_word hy)
        have HC := hidE (fun w => kcl_word t w)
        try rw [numS_yes hy] at HC
        try rw [hy] at HC
        clear hy
        go_wp2_with (go_at_call 34; (with_reducible refine (HC.out _ (by first | exact hs | (exact HKW.out.m1.alloc _) | (exact HKW.out.m2.alloc _) | (exact HKW.out.m3.alloc _))).mono ?_); rintro e w' ⟨rfl, hb1⟩; have z1 := hb1.size; have c5 := hb1.cell (p := ⟨wr.heap.size, 0, none⟩) (by simp); simp at c5 z1)
        refine bodyPost_ret (v := .tuple #[.int .u8 (kO t).1, .int .i64 (kO t).2.1, .bool (kO t).2.2]) (by rw [HS.out]; simp [results, Tryd.results24, go_sem]) rfl ⟨rfl, HB.out.trans (((Below.refl _ wr).alloc (Nat.le_refl _) _).trans (hb1.mono (by simp)) |>.mono hsz)⟩
    · have c0 := KW.all.cell 2; have c1 := KW.all.cell 3; have cz := KW.all.lt
      simp at c0 c1
      have HKW := hidE KW
      clear KW
      cases hy : isNum t
      · have HS := hidE (noUp_num HN.out hy)
        have HC := hidE (fun w => num_c t w)
        try rw [numS_no hy] at HC
        try rw [hy] at HC
        clear hy
        go_wp2_with (go_at_call 36; (with_reducible refine (HC.out _ (by first | exact hs | (exact HKW.out.m1.alloc _) | (exact HKW.out.m2.alloc _) | (exact HKW.out.m3.alloc _))).mono ?_); rintro e w' ⟨rfl, hb1⟩; have z1 := hb1.size; have c5 := hb1.cell (p := ⟨wr.heap.size, 0, none⟩) (by simp); simp at c5 z1)
        go_roundg (5 - (1 + 1))
        case measure => have := HG.out; omega
        case rel => exact ⟨1 + 1, by omega, Nat.le_refl _, by first | rfl | go_num, HS.out, HB.out.trans (((Below.refl _ wr).alloc (Nat.le_refl _) _).trans (hb1.mono (by simp)) |>.mono hsz)⟩
      · have HS := hidE (show kO t = _ from kO_num hy)
        have HC := hidE (fun w => num_c t w)
        try rw [numS_yes hy] at HC
        try rw [hy] at HC
        clear hy
        go_wp2_with (go_at_call 36; (with_reducible refine (HC.out _ (by first | exact hs | (exact HKW.out.m1.alloc _) | (exact HKW.out.m2.alloc _) | (exact HKW.out.m3.alloc _))).mono ?_); rintro e w' ⟨rfl, hb1⟩; have z1 := hb1.size; have c5 := hb1.cell (p := ⟨wr.heap.size, 0, none⟩) (by simp); simp at c5 z1)
        refine bodyPost_ret (v := .tuple #[.int .u8 (kO t).1, .int .i64 (kO t).2.1, .bool (kO t).2.2]) (by rw [HS.out]; simp [results, Tryd.results24, go_sem]) rfl ⟨rfl, HB.out.trans (((Below.refl _ wr).alloc (Nat.le_refl _) _).trans (hb1.mono (by simp)) |>.mono hsz)⟩
    · have c0 := KW.all.cell 4; have c1 := KW.all.cell 5; have cz := KW.all.lt
      simp at c0 c1
      have HKW := hidE KW
      clear KW
      cases hy : (t == [40])
      · have HS := hidE (noUp_open HN.out hy)
        have HC := hidE (fun w => kcl_mark t [40] p1 w)
        try rw [numS_no hy] at HC
        try rw [hy] at HC
        clear hy
        go_wp2_with (go_at_call 47; (with_reducible refine (HC.out _ (by first | exact hs | (exact HKW.out.m1.alloc _) | (exact HKW.out.m2.alloc _) | (exact HKW.out.m3.alloc _))).mono ?_); rintro e w' ⟨rfl, hb1⟩; have z1 := hb1.size; have c5 := hb1.cell (p := ⟨wr.heap.size, 0, none⟩) (by simp); simp at c5 z1)
        go_roundg (5 - (2 + 1))
        case measure => have := HG.out; omega
        case rel => exact ⟨2 + 1, by omega, Nat.le_refl _, by first | rfl | go_num, HS.out, HB.out.trans (((Below.refl _ wr).alloc (Nat.le_refl _) _).trans (hb1.mono (by simp)) |>.mono hsz)⟩
      · have HS := hidE (show kO t = _ from kO_openB hy)
        have HC := hidE (fun w => kcl_mark t [40] p1 w)
        try rw [numS_yes hy] at HC
        try rw [hy] at HC
        clear hy
        go_wp2_with (go_at_call 47; (with_reducible refine (HC.out _ (by first | exact hs | (exact HKW.out.m1.alloc _) | (exact HKW.out.m2.alloc _) | (exact HKW.out.m3.alloc _))).mono ?_); rintro e w' ⟨rfl, hb1⟩; have z1 := hb1.size; have c5 := hb1.cell (p := ⟨wr.heap.size, 0, none⟩) (by simp); simp at c5 z1)
        refine bodyPost_ret (v := .tuple #[.int .u8 (kO t).1, .int .i64 (kO t).2.1, .bool (kO t).2.2]) (by rw [HS.out]; simp [results, Tryd.results24, go_sem]) rfl ⟨rfl, HB.out.trans (((Below.refl _ wr).alloc (Nat.le_refl _) _).trans (hb1.mono (by simp)) |>.mono hsz)⟩
    · have c0 := KW.all.cell 6; have c1 := KW.all.cell 7; have cz := KW.all.lt
      simp at c0 c1
      have HKW := hidE KW
      clear KW
      cases hy : (t == [41])
      · have HS := hidE (noUp_close HN.out hy)
        have HC := hidE (fun w => kcl_mark t [41] p2 w)
        try rw [numS_no hy] at HC
        try rw [hy] at HC
        clear hy
        go_wp2_with (go_at_call 47; (with_reducible refine (HC.out _ (by first | exact hs | (exact HKW.out.m1.alloc _) | (exact HKW.out.m2.alloc _) | (exact HKW.out.m3.alloc _))).mono ?_); rintro e w' ⟨rfl, hb1⟩; have z1 := hb1.size; have c5 := hb1.cell (p := ⟨wr.heap.size, 0, none⟩) (by simp); simp at c5 z1)
        go_roundg (5 - (3 + 1))
        case measure => have := HG.out; omega
        case rel => exact ⟨3 + 1, by omega, Nat.le_refl _, by first | rfl | go_num, HS.out, HB.out.trans (((Below.refl _ wr).alloc (Nat.le_refl _) _).trans (hb1.mono (by simp)) |>.mono hsz)⟩
      · have HS := hidE (show kO t = _ from kO_closeB hy)
        have HC := hidE (fun w => kcl_mark t [41] p2 w)
        try rw [numS_yes hy] at HC
        try rw [hy] at HC
        clear hy
        go_wp2_with (go_at_call 47; (with_reducible refine (HC.out _ (by first | exact hs | (exact HKW.out.m1.alloc _) | (exact HKW.out.m2.alloc _) | (exact HKW.out.m3.alloc _))).mono ?_); rintro e w' ⟨rfl, hb1⟩; have z1 := hb1.size; have c5 := hb1.cell (p := ⟨wr.heap.size, 0, none⟩) (by simp); simp at c5 z1)
        refine bodyPost_ret (v := .tuple #[.int .u8 (kO t).1, .int .i64 (kO t).2.1, .bool (kO t).2.2]) (by rw [HS.out]; simp [results, Tryd.results24, go_sem]) rfl ⟨rfl, HB.out.trans (((Below.refl _ wr).alloc (Nat.le_refl _) _).trans (hb1.mono (by simp)) |>.mono hsz)⟩
    · have c0 := KW.all.cell 8; have c1 := KW.all.cell 9; have cz := KW.all.lt
      simp at c0 c1
      have HKW := hidE KW
      clear KW
      cases hy : (t == [58])
      · have HS := hidE (noUp_colon HN.out hy)
        have HC := hidE (fun w => kcl_mark t [58] p3 w)
        try rw [numS_no hy] at HC
        try rw [hy] at HC
        clear hy
        go_wp2_with (go_at_call 47; (with_reducible refine (HC.out _ (by first | exact hs | (exact HKW.out.m1.alloc _) | (exact HKW.out.m2.alloc _) | (exact HKW.out.m3.alloc _))).mono ?_); rintro e w' ⟨rfl, hb1⟩; have z1 := hb1.size; have c5 := hb1.cell (p := ⟨wr.heap.size, 0, none⟩) (by simp); simp at c5 z1)
        go_roundg (5 - (4 + 1))
        case measure => have := HG.out; omega
        case rel => exact ⟨4 + 1, by omega, Nat.le_refl _, by first | rfl | go_num, HS.out, HB.out.trans (((Below.refl _ wr).alloc (Nat.le_refl _) _).trans (hb1.mono (by simp)) |>.mono hsz)⟩
      · have HS := hidE (show kO t = _ from kO_colonB hy)
        have HC := hidE (fun w => kcl_mark t [58] p3 w)
        try rw [numS_yes hy] at HC
        try rw [hy] at HC
        clear hy
        go_wp2_with (go_at_call 47; (with_reducible refine (HC.out _ (by first | exact hs | (exact HKW.out.m1.alloc _) | (exact HKW.out.m2.alloc _) | (exact HKW.out.m3.alloc _))).mono ?_); rintro e w' ⟨rfl, hb1⟩; have z1 := hb1.size; have c5 := hb1.cell (p := ⟨wr.heap.size, 0, none⟩) (by simp); simp at c5 z1)
        refine bodyPost_ret (v := .tuple #[.int .u8 (kO t).1, .int .i64 (kO t).2.1, .bool (kO t).2.2]) (by rw [HS.out]; simp [results, Tryd.results24, go_sem]) rfl ⟨rfl, HB.out.trans (((Below.refl _ wr).alloc (Nat.le_refl _) _).trans (hb1.mono (by simp)) |>.mono hsz)⟩
    · have HS := hidE (noUp_none HN.out)
      clear KW
      go_wp2
      refine bodyPost_ret (v := .tuple #[.int .u8 (kO t).1, .int .i64 (kO t).2.1, .bool (kO t).2.2]) (by rw [HS.out]; simp [results, Tryd.results24, go_sem]) rfl ⟨rfl, HB.out⟩
end Go.Proofs.YtaeipfnpglbooaaDoor

namespace Go.Proofs.YtaeipfnpglbooaaDoor
open Go.RowKit

/-- What a body keeps: whatever lies below n₀, and whatever lay at or beyond n₁. -/
structure Outside (n₀ n₁ : Nat) (W W' : World) : Prop where
  below : Below n₀ W W'
  beyond : ∀ k, n₁ ≤ k → k < W.heap.size → W'.heap[k]? = W.heap[k]?
theorem Outside.refl (n₀ n₁ : Nat) (W : World) : Outside n₀ n₁ W W := ⟨Below.refl _ _, fun _ _ _ => rfl⟩
theorem Outside.trans {n₀ n₁ : Nat} {A B C : World} (h : Outside n₀ n₁ A B) (k : Outside n₀ n₁ B C) : Outside n₀ n₁ A C :=
  ⟨h.below.trans k.below, fun i hi hl => (k.beyond i hi (Nat.lt_of_lt_of_le hl h.below.size)).trans (h.beyond i hi hl)⟩
theorem Outside.of_below {n₀ n₁ : Nat} {A B : World} (h : Below A.heap.size A B) (hn : n₀ ≤ A.heap.size) : Outside n₀ n₁ A B := ⟨h.mono hn, fun k _ hl => h.block k hl⟩
theorem Outside.weak {n₀ n₁ n₁' : Nat} {A B : World} (h : Outside n₀ n₁ A B) (hn : n₁ ≤ n₁') : Outside n₀ n₁' A B := ⟨h.below, fun k hk hl => h.beyond k (by omega) hl⟩
/-- A turn of a block of the caller's own. -/
theorem Outside.of_grown {n₀ n₁ p : Nat} {A B : World} (h : A.grownBy B (some p)) (h0 : n₀ ≤ p) (h1 : p < n₁) (h2 : n₀ ≤ A.heap.size) : Outside n₀ n₁ A B :=
  ⟨⟨h.os, h.tape, h.output, h.size, fun k hk => h.block k (by omega) (fun e => by cases e; omega)⟩, fun k hk hl => h.block k hl (fun e => by cases e; omega)⟩

/-- The contract of an iterator value: it hands on the list S, one after the other, unless a round says 'no more'; whatever the caller's invariants are that speak only of what lay ahead of the iterator's call. -/
def SeqT {α : Type} (P : Program) (gf : Nat) (rb lb : Array Value) (encs : α → Array Value) (n₀ : Nat) (S : List α) (w : World) : Prop :=
  ∀ (l : Nat) (J Jx : List α → World → Prop) (W : World), Below w.heap.size w W →
    (∀ s A B, J s A → Below W.heap.size A B → J s B) → (∀ s A B, Jx s A → Below W.heap.size A B → Jx s B) →
    (∀ pre x W1, J pre W1 → pre ++ [x] <+: S → YieldAt Fence.wide 0 P l (encs x) W1 fun e W' =>
      (e = .returned (.bool true) ∧ J (pre ++ [x]) W' ∧ Outside n₀ W.heap.size W1 W') ∨ (e = .returned (.bool false) ∧ Jx (pre ++ [x]) W')) →
    J [] W →
    Calls P gf (rb ++ #[.func (.yield l) #[] #[]] ++ lb) W fun e W' => (∃ v, e = .returned v) ∧ (J S W' ∨ ∃ pre, pre <+: S ∧ Jx pre W')

/-- How the body of a round may be left. -/
def postT {α : Type} (n₀ n₁ : Nat) (I : List α → World → Prop) (Ix : Code → List α → World → Prop) (xs : List α) (W : World) : Exit → Act → World → Prop
  | .normal, _, W' => Outside n₀ n₁ W W' ∧ I xs W'
  | .ret, _, W' => Outside n₀ n₁ W W' ∧ Ix .ret xs W'
  | .exit id, _, W' => Outside n₀ n₁ W W' ∧ Ix (.exit id) xs W'
  | .goto t, _, W' => Outside n₀ n₁ W W' ∧ Ix (.goto t) xs W'
  | .panic _, _, _ => False
  | .outgrown, _, _ => False

theorem below_putObj {B : Nat} (W : World) (l : Nat) (o : Obj) (h : B ≤ l) : Below B W (W.putObj l o) :=
  ⟨rfl, rfl, rfl, by simp, fun k hk => World.putObj_heap_other (by omega)⟩

theorem grown_putObj (W : World) (l : Nat) (o : Obj) : W.grownBy (W.putObj l o) (some l) :=
  ⟨rfl, rfl, rfl, by simp, fun k _ hk => World.putObj_heap_other (fun e => hk (by rw [e]))⟩
/-- The statement. -/
theorem wp_rangeFunc_T {α : Type} {P : Program} {g : Operand} {ps : Array Tmp} {assign body : Code} {Q : Exit → Act → World → Prop} {a : Act} {w : World}
    {gf : Nat} {rb lb : Array Value} (hg : a.eval g = .func (.func gf) rb lb) (eg : ∀ args w, (callFunc gf args).run P w = .ok (.enter gf args) w)
    {encs : α → Array Value} {n₀ : Nat} (hn₀ : n₀ ≤ w.heap.size) {S : List α} (hseq : SeqT P gf rb lb encs n₀ S w) (hps : ∀ x, (encs x).size = ps.size)
    (I : List α → World → Prop) (Ix : Code → List α → World → Prop) (hI : ∀ s A B, I s A → Below w.heap.size A B → I s B) (hIx : ∀ c s A B, Ix c s A → Below w.heap.size A B → Ix c s B) (h0 : I [] w)
    (Ax : α → Act → World → Prop) (hAx : ∀ x a' A l r o, Ax x a' A → A.heap[l]? = some (.loop r) → Ax x a' (A.putObj l o))
    (hassign : ∀ (l : Nat) (pre : List α) (x : α) (W : World) (K : Act → World → Prop), w.heap.size ≤ W.heap.size → I pre W → (∀ a' W', Outside n₀ w.heap.size W W' → I pre W' → Ax x a' W' → K a' W') →
      assign.wpIn (Fence.wide.inRound l) 0 P (Exit.then K (fun _ _ _ => False)) { tmps := (ps.zip (encs x)).foldl (fun t (p, v) => t.setIfInBounds p v) a.tmps, defers := [] } W)
    (hbody : ∀ (l : Nat) (pre : List α) (x : α) (a' : Act) (W : World), w.heap.size ≤ W.heap.size → I pre W → Ax x a' W → pre ++ [x] <+: S → body.wpIn (Fence.wide.inRound l) 0 P (postT n₀ w.heap.size I Ix (pre ++ [x]) W) a' W)
    (hdone : ∀ (D : Nat) (W : World), w.heap.size ≤ D → I S W → W.heap[D]? = some (.deferred (some [])) → Q .normal { a with defers := { target := .collected D, args := #[] } :: a.defers } W)
    (hstop : ∀ (D : Nat) (c : Code) (pre : List α) (W : World), w.heap.size ≤ D → pre <+: S → Ix c pre W → W.heap[D]? = some (.deferred (some [])) → c.wp P Q { a with defers := { target := .collected D, args := #[] } :: a.defers } W) :
    (Code.rangeFunc g ps assign body).wp P Q a w := by
  refine (wpIn_wide (n := 0)).1 (wpIn_rangeFunc ?_)
  intro fn hfn
  obtain ⟨rec, hrec⟩ : ∃ rec : LoopState → Option Code → Loop, rec = fun st pe => { state := st, pending := pe, fn, tmps := a.tmps, params := ps, assign, body, defers := w.heap.size } := ⟨_, rfl⟩
  obtain ⟨W1, hW1⟩ : ∃ W1, (w.alloc (.deferred (some []))).alloc (.loop (rec .ready none)) = W1 := ⟨_, rfl⟩
  have hL1 : W1.heap[w.heap.size + 1]? = some (.loop (rec .ready none)) := by
    rw [← hW1]; have := World.alloc_heap_new (w.alloc (.deferred (some []))) (.loop (rec .ready none)); rwa [World.size_alloc] at this
  have hK1 : W1.heap[w.heap.size]? = some (.deferred (some [])) := by
    rw [← hW1]; exact (Below.heap_alloc _ _ _ (by simp)).trans (World.alloc_heap_new w _)
  have hb1 : Below w.heap.size w W1 := by
    rw [← hW1]; exact ((Below.refl _ w).alloc (Nat.le_refl _) _).alloc (by simp) _
  have hs1 : W1.heap.size = w.heap.size + 2 := by rw [← hW1]; simp
  have hI1 : I [] W1 := hI _ _ _ h0 hb1
  refine ⟨w.heap.size + 1, [{ target := .collected w.heap.size, args := #[] }], W1, { target := .fn (.func gf) lb, args := rb ++ #[.func (.yield (w.heap.size + 1)) #[] #[]] }, W1, gf,
    rb ++ #[.func (.yield (w.heap.size + 1)) #[] #[]] ++ lb, W1, ?_, ?_, ?_, ?_, fun h => by simp [Fence.wide] at h, ?_⟩
  · rw [← hW1, hrec]; exact run_enterLoop_outer _ _ _ _ _
  · simp only [resolve, hg]
    simp [go_sem, Deferred.ofValue]
  · intro f' hf'; trivial
  · simp [invoke, go_sem, eg]
  · refine callsIn_wide.2 ?_
    refine (hseq (w.heap.size + 1)
      (fun pre W => I pre W ∧ W.heap[w.heap.size + 1]? = some (.loop (rec .ready none)) ∧ W.heap[w.heap.size]? = some (.deferred (some [])) ∧ w.heap.size ≤ W.heap.size)
      (fun pre W => ∃ c, Ix c pre W ∧ W.heap[w.heap.size + 1]? = some (.loop (rec .done (some c))) ∧ W.heap[w.heap.size]? = some (.deferred (some [])))
      W1 hb1
      (fun s A B hs hg' => ⟨hI s A B hs.1 (hg'.mono (by omega)), (hg'.block _ (by omega)).trans hs.2.1, (hg'.block _ (by omega)).trans hs.2.2.1, Nat.le_trans hs.2.2.2 hg'.size⟩)
      (fun s A B hs hg' => by
        obtain ⟨c, hc, hl, hk⟩ := hs
        exact ⟨c, hIx c s A B hc (hg'.mono (by omega)), (hg'.block _ (by omega)).trans hl, (hg'.block _ (by omega)).trans hk⟩)
      ?_ ⟨hI1, hL1, hK1, hb1.size⟩).mono ?_
    · -- one round
      rintro pre x W ⟨hi, hl, hk, hsz⟩ hpre
      have hlt : w.heap.size + 1 < W.heap.size := (Array.getElem?_eq_some_iff.1 hl).1
      have hy := run_yield (P := P) (args := encs x) hl (by rw [hrec]; exact hps x)
      rw [hrec] at hy
      refine ⟨fn, _, assign, body, hy, roundIn_of_wpIn trivial (hassign _ pre x W _ hsz hi ?_)⟩
      clear hy
      intro a' Wa hoa hia hax
      have hla := (hoa.beyond _ (by omega) hlt).trans hl
      have hka := (hoa.beyond _ (Nat.le_refl _) (by omega)).trans hk
      have hlta : w.heap.size + 1 < Wa.heap.size := Nat.lt_of_lt_of_le hlt hoa.below.size
      refine ⟨_, run_beginRound hla (by rw [hrec]), ?_⟩
      have hl2 : (Wa.putObj (w.heap.size + 1) (.loop { rec .ready none with state := .busy })).heap[w.heap.size + 1]? = some (.loop { rec .ready none with state := .busy }) := World.putObj_heap_same hlta
      have hk2 : (Wa.putObj (w.heap.size + 1) (.loop { rec .ready none with state := .busy })).heap[w.heap.size]? = some (.deferred (some [])) := (World.putObj_heap_other (by omega)).trans hka
      have hb2 : Below w.heap.size Wa (Wa.putObj (w.heap.size + 1) (.loop { rec .ready none with state := .busy })) := below_putObj _ _ _ (by omega)
      refine wpIn_mono (hbody _ pre x a' _ (by simp; omega) (hI _ _ _ hia hb2) (hAx _ _ _ _ _ _ hax hla) hpre) ?_
      have fin : ∀ (jump : Option Code) (W3 : World), Outside n₀ w.heap.size (Wa.putObj (w.heap.size + 1) (.loop { rec .ready none with state := .busy })) W3 →
          (Instr.endRound (w.heap.size + 1) jump).run P W3 = .ok (.bool jump.isNone) (W3.putObj (w.heap.size + 1) (.loop (rec (if jump.isNone then .ready else .done) jump))) ∧
          (W3.putObj (w.heap.size + 1) (.loop (rec (if jump.isNone then .ready else .done) jump))).heap[w.heap.size + 1]? = some (.loop (rec (if jump.isNone then .ready else .done) jump)) ∧
          (W3.putObj (w.heap.size + 1) (.loop (rec (if jump.isNone then .ready else .done) jump))).heap[w.heap.size]? = some (.deferred (some [])) ∧
          Below w.heap.size W3 (W3.putObj (w.heap.size + 1) (.loop (rec (if jump.isNone then .ready else .done) jump))) ∧
          Outside n₀ W1.heap.size W (W3.putObj (w.heap.size + 1) (.loop (rec (if jump.isNone then .ready else .done) jump))) := fun jump W3 ho3 => by
        have hl3 := (ho3.beyond (w.heap.size + 1) (by omega) (by simp; omega)).trans hl2
        have hk3 := (ho3.beyond w.heap.size (Nat.le_refl _) (by simp; omega)).trans hk2
        have hr := run_endRound (P := P) jump hl3
        have hsz3 : w.heap.size + 1 < W3.heap.size := (Array.getElem?_eq_some_iff.1 hl3).1
        refine ⟨?_, World.putObj_heap_same hsz3, (World.putObj_heap_other (by omega)).trans hk3, below_putObj _ _ _ (by omega), ?_⟩
        · rw [hrec] at hr ⊢; exact hr
        · have e1 : Outside n₀ W1.heap.size Wa (Wa.putObj (w.heap.size + 1) (.loop { rec .ready none with state := .busy })) := Outside.of_grown (grown_putObj _ _ _) (by omega) (by omega) (by omega)
          have e2 : Outside n₀ W1.heap.size W3 (W3.putObj (w.heap.size + 1) (.loop (rec (if jump.isNone then .ready else .done) jump))) := Outside.of_grown (grown_putObj _ _ _) (by omega) (by omega) (by omega)
          exact (((hoa.weak (by omega)).trans e1).trans (ho3.weak (by omega))).trans e2
      rintro e a3 W3 hp
      cases e with
      | normal =>
        obtain ⟨hk3, hi3⟩ := hp
        obtain ⟨hr, hl4, hk4, hb4, ho4⟩ := fin none W3 hk3
        exact ⟨_, _, hr, .inl ⟨rfl, ⟨hI _ _ _ hi3 hb4, hl4, hk4, Nat.le_trans (by have := hk3.below.size; simp at this; omega) hb4.size⟩, ho4⟩⟩
      | ret =>
        obtain ⟨hk3, hi3⟩ := hp
        obtain ⟨hr, hl4, hk4, hb4, ho4⟩ := fin (some .ret) W3 hk3
        exact ⟨_, _, hr, .inr ⟨rfl, .ret, hIx _ _ _ _ hi3 hb4, hl4, hk4⟩⟩
      | exit id =>
        obtain ⟨hk3, hi3⟩ := hp
        obtain ⟨hr, hl4, hk4, hb4, ho4⟩ := fin (some (.exit id)) W3 hk3
        exact ⟨_, _, hr, .inr ⟨rfl, .exit id, hIx _ _ _ _ hi3 hb4, hl4, hk4⟩⟩
      | goto t =>
        obtain ⟨hk3, hi3⟩ := hp
        obtain ⟨hr, hl4, hk4, hb4, ho4⟩ := fin (some (.goto t)) W3 hk3
        exact ⟨_, _, hr, .inr ⟨rfl, .goto t, hIx _ _ _ _ hi3 hb4, hl4, hk4⟩⟩
      | panic ch => exact hp.elim
      | outgrown => exact hp.elim
    · -- behind the iterator
      rintro e W2 ⟨⟨v, rfl⟩, (⟨hi, hl, hk, _⟩ | ⟨pre, hSp, c, hi, hl, hk⟩)⟩
      · exact ⟨none, _, by have := run_endLoop (P := P) hl (by rw [hrec]; simp); rw [hrec] at this; exact this, hdone _ _ (Nat.le_refl _) (hI _ _ _ hi (below_putObj _ _ _ (by omega))) ((World.putObj_heap_other (by omega)).trans hk)⟩
      · exact ⟨some c, _, by have := run_endLoop (P := P) hl (by rw [hrec]; simp); rw [hrec] at this; exact this, (wpIn_wide (n := 0)).2 (hstop _ c pre _ (Nat.le_refl _) hSp (hIx _ _ _ _ hi (below_putObj _ _ _ (by omega))) ((World.putObj_heap_other (by omega)).trans hk))⟩
end Go.Proofs.YtaeipfnpglbooaaDoor

namespace Go.Proofs.YtaeipfnpglbooaaDoor
open Go.RowKit

/-- The contract of an iterator value, as SeqT, with the one block that the body made in an earlier round and may write again (g: from where on the body's blocks lie, and that block), and what it reads of the caller's (K). -/
def SeqX {α : Type} (P : Program) (gf : Nat) (rb lb : Array Value) (encs : α → Array Value) (n₀ : Nat) (K : World → Prop) (S : List α) (w : World) : Prop :=
  ∀ (l : Nat) (J : List α → Option (Nat × Nat) → World → Prop) (Jx : List α → World → Prop) (W : World), Below w.heap.size w W →
    (∀ s g A B, J s g A → Below W.heap.size A B → (∀ b k, g = some (b, k) → B.heap[k]? = A.heap[k]?) → J s g B) → (∀ s g A, J s g A → ∀ b k, g = some (b, k) → b ≤ k ∧ k < A.heap.size) → (∀ s g A, J s g A → K A) → (∀ s A B, Jx s A → Below W.heap.size A B → Jx s B) →
    (∀ pre x g W1, J pre g W1 → W.heap.size ≤ W1.heap.size → pre ++ [x] <+: S → YieldAt Fence.wide 0 P l (encs x) W1 fun e W' =>
      (e = .returned (.bool true) ∧ ∃ g', J (pre ++ [x]) g' W' ∧ Below n₀ W1 W' ∧ (∀ k, W.heap.size ≤ k → k < W1.heap.size → (∀ b, g ≠ some (b, k)) → W'.heap[k]? = W1.heap[k]?) ∧ (∀ b k, g' = some (b, k) → W1.heap.size ≤ b ∨ ∃ j, g = some (b, j))) ∨ (e = .returned (.bool false) ∧ Jx (pre ++ [x]) W')) →
    J [] none W →
    Calls P gf (rb ++ #[.func (.yield l) #[] #[]] ++ lb) W fun e W' => (∃ v, e = .returned v) ∧ ((∃ g, J S g W') ∨ ∃ pre, pre <+: S ∧ Jx pre W')

/-- How the body of a round may be left: by its end, or by a return. -/
def postX {α : Type} (n₀ n₁ : Nat) (I : List α → Option (Nat × Nat) → World → Prop) (Ix : List α → World → Prop) (xs : List α) (g : Option (Nat × Nat)) (W : World) : Exit → Act → World → Prop
  | .normal, _, W' => ∃ g', I xs g' W' ∧ Below n₀ W W' ∧ (∀ k, n₁ ≤ k → k < W.heap.size → (∀ b, g ≠ some (b, k)) → W'.heap[k]? = W.heap[k]?) ∧ (∀ b k, g' = some (b, k) → W.heap.size ≤ b ∨ ∃ j, g = some (b, j))
  | .ret, _, W' => Ix xs W' ∧ (∀ k, n₁ ≤ k → k < n₁ + 2 → k < W.heap.size → W'.heap[k]? = W.heap[k]?)
  | _, _, _ => False

/-- The statement. -/
theorem wp_rangeFunc_X {α : Type} {P : Program} {gop : Operand} {ps : Array Tmp} {assign body : Code} {Q : Exit → Act → World → Prop} {a : Act} {w : World}
    {gf : Nat} {rb lb : Array Value} (hg : a.eval gop = .func (.func gf) rb lb) (eg : ∀ args w, (callFunc gf args).run P w = .ok (.enter gf args) w)
    {encs : α → Array Value} {n₀ : Nat} (hn₀ : n₀ ≤ w.heap.size) {S : List α} {K : World → Prop} (hseq : SeqX P gf rb lb encs n₀ K S w) (hps : ∀ x, (encs x).size = ps.size)
    (I : List α → Option (Nat × Nat) → World → Prop) (hI : ∀ s g A B, I s g A → Below w.heap.size A B → (∀ b k, g = some (b, k) → B.heap[k]? = A.heap[k]?) → I s g B) (hIg : ∀ s g A, I s g A → ∀ b k, g = some (b, k) → b ≤ k ∧ k < A.heap.size) (hIK : ∀ s g A, I s g A → K A) (h0 : I [] none w)
    (Ix : List α → World → Prop) (hIx : ∀ s A B, Ix s A → Below w.heap.size A B → Ix s B)
    (Ax : α → Act → World → Prop) (hAx : ∀ x a' A l r o, Ax x a' A → A.heap[l]? = some (.loop r) → Ax x a' (A.putObj l o))
    (hassign : ∀ (l : Nat) (pre : List α) (x : α) (g : Option (Nat × Nat)) (W : World) (K' : Act → World → Prop), w.heap.size ≤ W.heap.size → I pre g W → (∀ a' W', Below W.heap.size W W' → I pre g W' → Ax x a' W' → K' a' W') →
      assign.wpIn (Fence.wide.inRound l) 0 P (Exit.then K' (fun _ _ _ => False)) { tmps := (ps.zip (encs x)).foldl (fun t (p, v) => t.setIfInBounds p v) a.tmps, defers := [] } W)
    (hbody : ∀ (l : Nat) (pre : List α) (x : α) (g : Option (Nat × Nat)) (a' : Act) (W : World), w.heap.size ≤ W.heap.size → I pre g W → Ax x a' W → pre ++ [x] <+: S → body.wpIn (Fence.wide.inRound l) 0 P (postX n₀ w.heap.size I Ix (pre ++ [x]) g W) a' W)
    (hdone : ∀ (D : Nat) (g : Option (Nat × Nat)) (W : World), D = w.heap.size → I S g W → (∀ b k, g = some (b, k) → w.heap.size + 2 ≤ b) → W.heap[D]? = some (.deferred (some [])) → Q .normal { a with defers := { target := .collected D, args := #[] } :: a.defers } W)
    (hstop : ∀ (D : Nat) (pre : List α) (W : World), D = w.heap.size → pre <+: S → Ix pre W → W.heap[D]? = some (.deferred (some [])) → Code.ret.wp P Q { a with defers := { target := .collected D, args := #[] } :: a.defers } W) :
    (Code.rangeFunc gop ps assign body).wp P Q a w := by
  refine (wpIn_wide (n := 0)).1 (wpIn_rangeFunc ?_)
  intro fn hfn
  obtain ⟨rec, hrec⟩ : ∃ rec : LoopState → Option Code → Loop, rec = fun st pe => { state := st, pending := pe, fn, tmps := a.tmps, params := ps, assign, body, defers := w.heap.size } := ⟨_, rfl⟩
  obtain ⟨W1, hW1⟩ : ∃ W1, (w.alloc (.deferred (some []))).alloc (.loop (rec .ready none)) = W1 := ⟨_, rfl⟩
  have hL1 : W1.heap[w.heap.size + 1]? = some (.loop (rec .ready none)) := by
    rw [← hW1]; have := World.alloc_heap_new (w.alloc (.deferred (some []))) (.loop (rec .ready none)); rwa [World.size_alloc] at this
  have hK1 : W1.heap[w.heap.size]? = some (.deferred (some [])) := by
    rw [← hW1]; exact (Below.heap_alloc _ _ _ (by simp)).trans (World.alloc_heap_new w _)
  have hb1 : Below w.heap.size w W1 := by
    rw [← hW1]; exact ((Below.refl _ w).alloc (Nat.le_refl _) _).alloc (by simp) _
  have hs1 : W1.heap.size = w.heap.size + 2 := by rw [← hW1]; simp
  have hI1 : I [] none W1 := hI _ _ _ _ h0 hb1 (fun b k hk => by cases hk)
  refine ⟨w.heap.size + 1, [{ target := .collected w.heap.size, args := #[] }], W1, { target := .fn (.func gf) lb, args := rb ++ #[.func (.yield (w.heap.size + 1)) #[] #[]] }, W1, gf,
    rb ++ #[.func (.yield (w.heap.size + 1)) #[] #[]] ++ lb, W1, ?_, ?_, ?_, ?_, fun h => by simp [Fence.wide] at h, ?_⟩
  · rw [← hW1, hrec]; exact run_enterLoop_outer _ _ _ _ _
  · simp only [resolve, hg]
    simp [go_sem, Deferred.ofValue]
  · intro f' hf'; trivial
  · simp [invoke, go_sem, eg]
  · refine callsIn_wide.2 ?_
    refine (hseq (w.heap.size + 1)
      (fun pre g W => I pre g W ∧ W.heap[w.heap.size + 1]? = some (.loop (rec .ready none)) ∧ W.heap[w.heap.size]? = some (.deferred (some [])) ∧ w.heap.size ≤ W.heap.size ∧ ∀ b k, g = some (b, k) → w.heap.size + 2 ≤ b)
      (fun pre W => Ix pre W ∧ W.heap[w.heap.size + 1]? = some (.loop (rec .done (some .ret))) ∧ W.heap[w.heap.size]? = some (.deferred (some [])))
      W1 hb1
      (fun s g A B hs hb hk => ⟨hI s g A B hs.1 (hb.mono (by omega)) hk, (hb.block _ (by omega)).trans hs.2.1, (hb.block _ (by omega)).trans hs.2.2.1, Nat.le_trans hs.2.2.2.1 hb.size, hs.2.2.2.2⟩)
      (fun s g A hs b k hk => hIg s g A hs.1 b k hk)
      (fun s g A hs => hIK s g A hs.1)
      (fun s A B hs hb => ⟨hIx s A B hs.1 (hb.mono (by omega)), (hb.block _ (by omega)).trans hs.2.1, (hb.block _ (by omega)).trans hs.2.2⟩)
      ?_ ⟨hI1, hL1, hK1, hb1.size, fun b k hk => by cases hk⟩).mono ?_
    · -- one round
      rintro pre x g W ⟨hi, hl, hk, hsz, hg0⟩ hW1z hpre
      have hlt : w.heap.size + 1 < W.heap.size := (Array.getElem?_eq_some_iff.1 hl).1
      have hy := run_yield (P := P) (args := encs x) hl (by rw [hrec]; exact hps x)
      rw [hrec] at hy
      refine ⟨fn, _, assign, body, hy, roundIn_of_wpIn trivial (hassign _ pre x g W _ hsz hi ?_)⟩
      clear hy
      intro a' Wa hoa hia hax
      have hla := (hoa.block (w.heap.size + 1) hlt).trans hl
      have hka := (hoa.block w.heap.size (by omega)).trans hk
      have hlta : w.heap.size + 1 < Wa.heap.size := Nat.lt_of_lt_of_le hlt hoa.size
      refine ⟨_, run_beginRound hla (by rw [hrec]), ?_⟩
      have hl2 : (Wa.putObj (w.heap.size + 1) (.loop { rec .ready none with state := .busy })).heap[w.heap.size + 1]? = some (.loop { rec .ready none with state := .busy }) := World.putObj_heap_same hlta
      have hk2 : (Wa.putObj (w.heap.size + 1) (.loop { rec .ready none with state := .busy })).heap[w.heap.size]? = some (.deferred (some [])) := (World.putObj_heap_other (by omega)).trans hka
      have hb2 : Below w.heap.size Wa (Wa.putObj (w.heap.size + 1) (.loop { rec .ready none with state := .busy })) := below_putObj _ _ _ (by omega)
      refine wpIn_mono (hbody _ pre x g a' _ (by have := hoa.size; simp; omega) (hI _ _ _ _ hia hb2 (fun b k hk => World.putObj_heap_other (fun e => by have := hg0 b k hk; have := (hIg _ _ _ hi b k hk).1; omega))) (hAx _ _ _ _ _ _ hax hla) hpre) ?_
      rintro e a3 W3 hp
      cases e with
      | normal =>
        obtain ⟨g', hi3, hb3, hk3, hg3⟩ := hp
        have hz3 := hb3.size
        have hl3 := (hk3 (w.heap.size + 1) (by omega) (by simp; omega) (fun b e => by have := hg0 b _ e; have := (hIg _ _ _ hi b _ e).1; omega)).trans hl2
        have hd3 := (hk3 w.heap.size (Nat.le_refl _) (by simp; omega) (fun b e => by have := hg0 b _ e; have := (hIg _ _ _ hi b _ e).1; omega)).trans hk2
        have hr := run_endRound (P := P) (none : Option Code) hl3
        have hsz3 : w.heap.size + 1 < W3.heap.size := (Array.getElem?_eq_some_iff.1 hl3).1
        have hzz : W.heap.size ≤ W3.heap.size := by have := hoa.size; simp at hz3; omega
        have hg0' : ∀ b k, g' = some (b, k) → w.heap.size + 2 ≤ b := fun b k e => by
          rcases hg3 b k e with h | ⟨j, h⟩
          · simp at h
            have := hoa.size
            omega
          · exact hg0 b j h
        have hb4 : Below w.heap.size W3 (W3.putObj (w.heap.size + 1) (.loop (rec .ready none))) := below_putObj _ _ _ (by omega)
        refine ⟨.bool true, W3.putObj (w.heap.size + 1) (.loop (rec .ready none)), ?_, .inl ⟨rfl, g', ⟨hI _ _ _ _ hi3 hb4 (fun b k hk => World.putObj_heap_other (fun e => by have := hg0' b k hk; have := (hIg _ _ _ hi3 b k hk).1; omega)), World.putObj_heap_same hsz3, (World.putObj_heap_other (by omega)).trans hd3, by simp; omega, hg0'⟩, ?_, ?_, ?_⟩⟩
        · rw [hrec] at hr ⊢; exact hr
        · exact ((hoa.mono (by omega)).trans (hb2.mono hn₀)).trans (hb3.trans (hb4.mono hn₀))
        · intro k h1 h2 h3
          have h4 : k ≠ w.heap.size + 1 := by omega
          exact (World.putObj_heap_other h4).trans ((hk3 k (by omega) (by have := hoa.size; simp; omega) h3).trans ((World.putObj_heap_other h4).trans (hoa.block k h2)))
        · intro b k e
          rcases hg3 b k e with h | h
          · exact .inl (by have := hoa.size; simp at h; omega)
          · exact .inr h
      | ret =>
        obtain ⟨hi3, hk3⟩ := hp
        have hl3 := (hk3 (w.heap.size + 1) (by omega) (by omega) (by simp; omega)).trans hl2
        have hd3 := (hk3 w.heap.size (Nat.le_refl _) (by omega) (by simp; omega)).trans hk2
        have hr := run_endRound (P := P) (some Code.ret) hl3
        have hsz3 : w.heap.size + 1 < W3.heap.size := (Array.getElem?_eq_some_iff.1 hl3).1
        refine ⟨.bool false, W3.putObj (w.heap.size + 1) (.loop (rec .done (some .ret))), ?_, .inr ⟨rfl, hIx _ _ _ hi3 (below_putObj _ _ _ (by omega)), World.putObj_heap_same hsz3, (World.putObj_heap_other (by omega)).trans hd3⟩⟩
        rw [hrec] at hr ⊢; exact hr
      | exit id => exact hp.elim
      | goto t => exact hp.elim
      | panic ch => exact hp.elim
      | outgrown => exact hp.elim
    · -- behind the iterator
      rintro e W2 ⟨⟨v, rfl⟩, (⟨g, hi, hl, hk, hz, hg0⟩ | ⟨pre, hSp, hi, hl, hk⟩)⟩
      · exact ⟨none, _, by have := run_endLoop (P := P) hl (by rw [hrec]; simp); rw [hrec] at this; exact this, hdone _ g _ rfl (hI _ _ _ _ hi (below_putObj _ _ _ (by omega)) (fun b k hk => World.putObj_heap_other (fun e => by have := hg0 b k hk; have := (hIg _ _ _ hi b k hk).1; omega))) hg0 ((World.putObj_heap_other (by omega)).trans hk)⟩
      · exact ⟨some .ret, _, by have := run_endLoop (P := P) hl (by rw [hrec]; simp); rw [hrec] at this; exact this, (wpIn_wide (n := 0)).2 (hstop _ pre _ rfl hSp (hIx _ _ _ hi (below_putObj _ _ _ (by omega))) ((World.putObj_heap_other (by omega)).trans hk))⟩
end Go.Proofs.YtaeipfnpglbooaaDoor

namespace Go.Proofs.YtaeipfnpglbooaaDoor
open Go.ChangeShapes Go.WideShapes Go.ChangeAt Go.RowKit Go.Shelf
attribute [local irreducible] Go.Calls
attribute [local go_sem] Oper.semAt_some

/-- What yield is handed. -/
def encR (x : Nat × List UInt8) : Array Value := #[.int .i64 x.1, strV x.2]

set_option maxRecDepth 100000 in
set_option maxHeartbeats 2000000 in
theorem runs_c (s : List UInt8) (p n0 : Nat) (w : World) (hs : s.length ≤ 1000000000) :
    SeqX Tryd.prog 38 #[] #[.pointer (some ⟨p, 0, none⟩)] encR n0 (fun W => Blk W p #[strV s] 9) (itemsG s.length 0 s) w := by
  intro l J Jx W hW hJ hJg hK hJx hY h0
  have H0 := hidE h0; have HK := hidE hK; have HY := hidE hY
  clear hJ hJg hJx hY h0 hK hW
  show Calls Tryd.prog 38 #[.func (.yield l) #[] #[], .pointer (some ⟨p, 0, none⟩)] W _
  have slen : (⟨s.toArray⟩ : ByteArray).size = s.length := by simp [ByteArray.size]
  go_enter Tryd.func38, Tryd.ntmps38
  go_wp2
  go_loopg [4] s.length (fun gh v4 wr => ∃ (k n : Nat) (pre : List (Nat × List UInt8)) (g : Option (Nat × Nat)), s.length - k ≤ gh ∧ k ≤ s.length ∧ v4 = .int .i64 k ∧ s.length - k ≤ n ∧ pre ++ itemsG n k s = itemsG s.length 0 s ∧ J pre g wr ∧ W.heap.size ≤ wr.heap.size)
  case atStart => exact ⟨0, s.length, [], none, Nat.sub_le _ _, Nat.zero_le _, rfl, Nat.sub_le _ _, rfl, H0.out, Nat.le_refl _⟩
  case round =>
    obtain ⟨k, n, pre, g, hgh, hk, rfl, hn, hpre, hJ1, hsz⟩ := hrel
    have blk := HK.out _ _ _ hJ1
    have c0 := blk.cell 0; have cz := blk.lt
    simp at c0
    have HJ1 := hidE hJ1; have HPRE := hidE hpre; have HG := hidE hgh; have HSZ := hidE hsz; have HN := hidE hn
    clear hJ1 hpre hgh hsz hn blk
    obtain ⟨wo, hwo⟩ : ∃ wo : World, wo = wr := ⟨_, rfl⟩
    by_cases hlt : k < s.length
    · obtain ⟨m, rfl⟩ : ∃ m, n = m + 1 := ⟨n - 1, by have := HN.out; omega⟩
      have d1 : decide ((k : Int) < (s.length : Int)) = true := decide_eq_true (by omega)
      have d1' : decide (k < s.length) = true := decide_eq_true hlt
      have HBH := hidE (fun w => behind_c s k w hs hlt)
      have hbt : ∀ h, (⟨s.toArray⟩ : ByteArray)[k]'h = s.getD k 0 := fun h => byte_at s h
      have HCL := hidE (fun w => class_c (s.getD k 0) w)
      have hg1 := bhd_gt s k; have hg2 := bhd_le hlt
      cases hw : whiteB (s.getD k 0)
      · have HP2 := hidE (show pre ++ [(k, (s.drop k).take (bhd s k - k))] ++ itemsG m (bhd s k) s = itemsG s.length 0 s by rw [← HPRE.out, items_run hlt hw, List.append_assoc]; rfl)
        have hpx : pre ++ [(k, (s.drop k).take (bhd s k - k))] <+: itemsG s.length 0 s := ⟨_, HP2.out⟩
        rw [hw] at HCL
        have hmid := str_mid s k (bhd s k)
        obtain ⟨fn, tmps, assign, body, hy, hR⟩ := HY.out pre _ g _ HJ1.out (by have := HSZ.out; omega) hpx
        dsimp only [encR] at hy
        have HPX := hidE hpx
        clear HPRE hpx hw
        generalize (!alnumB (s.getD k 0)) = ba at *
        generalize s.getD k 0 = c at *
        generalize (s.drop k).take (bhd s k - k) = X at *
        generalize bhd s k = te at *
        have b1 : (0 : Int) ≤ (k : Int) := by omega
        have b2 : (k : Int) ≤ (te : Int) := by omega
        have b3 : (te : Int) ≤ (s.length : Int) := by omega
        have b5 : (te : Int) ≤ ((⟨s.toArray⟩ : ByteArray).size : Int) := by rw [slen]; exact b3
        go_upto_region 6 with (first | (go_at_call 39; (with_reducible refine (HBH.out _).mono ?_); rintro e w' ⟨rfl, rfl⟩) | (go_at_call 40; (with_reducible refine (HCL.out _).mono ?_); rintro e w' ⟨rfl, rfl⟩))
        refine (wpIn_wide (n := 0)).1 ?_
        gi_wp2
        refine ⟨rfl, hR.mono ?_⟩
        clear hy hR
        rintro e W' (⟨rfl, g', hJ', hO, _, _⟩ | ⟨rfl, hJx'⟩)
        · gi_wp2
          go_wp2
          go_roundg (s.length - te)
          case measure => have := HG.out; omega
          case rel => exact ⟨te, m, _, g', Nat.le_refl _, by omega, rfl, by have := HN.out; omega, HP2.out, hJ', by have := hO.size; have := HSZ.out; omega⟩
        · gi_wp2
          go_wp2
          refine bodyPost_ret (results_none rfl _ _ _) rfl ?_
          exact ⟨⟨_, rfl⟩, .inr ⟨_, HPX.out, hJx'⟩⟩
      · have HP2 := hidE (show pre ++ itemsG m (bhd s k) s = itemsG s.length 0 s by rw [← HPRE.out, items_white hlt hw])
        rw [hw] at HCL
        clear HPRE hw
        generalize (!alnumB (s.getD k 0)) = ba at *
        generalize s.getD k 0 = c at *
        generalize bhd s k = te at *
        go_wp2_with (first | (go_at_call 39; (with_reducible refine (HBH.out _).mono ?_); rintro e w' ⟨rfl, rfl⟩) | (go_at_call 40; (with_reducible refine (HCL.out _).mono ?_); rintro e w' ⟨rfl, rfl⟩))
        go_roundg (s.length - te)
        case measure => have := HG.out; omega
        case rel => exact ⟨te, m, pre, g, Nat.le_refl _, by omega, rfl, by have := HN.out; omega, HP2.out, HJ1.out, HSZ.out⟩
    · have d1 : decide ((k : Int) < (s.length : Int)) = false := decide_eq_false (by omega)
      have d1' : decide (k < s.length) = false := decide_eq_false hlt
      have HP2 := hidE (show pre = itemsG s.length 0 s by rw [← HPRE.out, items_end hlt, List.append_nil])
      clear HPRE
      go_wp2
      go_end0
      exact ⟨⟨_, rfl⟩, .inl ⟨g, by rw [← HP2.out]; exact HJ1.out⟩⟩
end Go.Proofs.YtaeipfnpglbooaaDoor

namespace Go.Proofs.YtaeipfnpglbooaaDoor
open Go.ChangeShapes Go.WideShapes Go.ChangeAt Go.RowKit Go.Shelf
attribute [local irreducible] Go.Calls
attribute [local go_sem] Oper.semAt_some

theorem Blk.putO {w : World} {k : Nat} {cs : Array Value} {t : TypeId} (h : Blk w k cs t) {b : Nat} (hb : k ≠ b) (o : Obj) : Blk (w.putObj b o) k cs t := (World.putObj_heap_other hb).trans h
theorem Tryd.infoTokL : (Tryd.prog.info? 73).map (fun i => (i.zero, i.size, i.bytes)) = some (some (.agg #[.int .u8 0, .string ⟨#[]⟩, .int .i64 0, .int .i64 0]), 4, 40) := by kernel_rfl
/-- Between two rounds. -/
structure LexI (w : World) (s : List UInt8) (KB P6 PS p1 p2 p3 : Nat) (pre : List (Nat × List UInt8)) (g : Option (Nat × Nat)) (W : World) : Prop where
  own : OwnI w (w.heap.size + 1 + 1 + 1) 43 73 4 pre.length (cellsOfT (pre.map tokI)) g W
  r0 : Blk W w.heap.size #[.slice none 0 0] 43
  r1 : Blk W (w.heap.size + 1) #[.int .i64 0] 3
  r2 : Blk W (w.heap.size + 1 + 1) #[.int .i64 0] 26
  ks : KindsAt W KB p1 p2 p3
  al : Blk W P6 #[.slice (some ⟨KB, 0, none⟩) 5 5] 66
  st : Blk W PS #[strV s] 9
  ok : ∀ x ∈ pre, (kindOf x.2).isSome = true
  base : ∀ b k, g = some (b, k) → PS < b
/-- A round has left. -/
def LexX (w : World) (pre : List (Nat × List UInt8)) (W : World) : Prop :=
  ∃ pre' x, pre = pre' ++ [x] ∧ (∀ y ∈ pre', (kindOf y.2).isSome = true) ∧ kindOf x.2 = none ∧ Below w.heap.size w W ∧ Blk W w.heap.size #[.slice none 0 0] 43 ∧ Blk W (w.heap.size + 1) #[.int .i64 x.1] 3 ∧ Blk W (w.heap.size + 1 + 1) #[.int .i64 60] 26
theorem lexI_keep {w : World} {s : List UInt8} {KB P6 PS p1 p2 p3 n : Nat} {pre : List (Nat × List UInt8)} {g : Option (Nat × Nat)} {A B : World} (hn : w.heap.size + 1 + 1 + 1 < n) (h1 : KB < n) (h2 : P6 < n) (h3 : PS < n) (h4 : p1 < n) (h5 : p2 < n) (h6 : p3 < n)
    (h : LexI w s KB P6 PS p1 p2 p3 pre g A) (hb : Below n A B) (hk : ∀ b k, g = some (b, k) → B.heap[k]? = A.heap[k]?) : LexI w s KB P6 PS p1 p2 p3 pre g B :=
  ⟨ownI_keep (m := n) hn (by omega) h.own hb hk, h.r0.below hb (by omega), h.r1.below hb (by omega), h.r2.below hb (by omega), h.ks.below hb h1 h4 h5 h6, h.al.below hb h2, h.st.below hb h3, h.ok, h.base⟩
theorem lexX_keep {w : World} {pre : List (Nat × List UInt8)} {A B : World} {n : Nat} (hn : w.heap.size + 1 + 1 < n) (h : LexX w pre A) (hb : Below n A B) : LexX w pre B := by
  obtain ⟨pre', x, h1, h2, h3, h4, h5, h6, h7⟩ := h
  exact ⟨pre', x, h1, h2, h3, h4.trans (hb.mono (by omega)), h5.below hb (by omega), h6.below hb (by omega), h7.below hb (by omega)⟩
theorem lexS_items {s : List UInt8} (h : ¬ 4096 < s.length) : (∀ x r pre, itemsG s.length 0 s = pre ++ x :: r → (∀ y ∈ pre, (kindOf y.2).isSome = true) → kindOf x.2 = none → lexS s = ([], x.1, 60)) ∧ ((∀ y ∈ itemsG s.length 0 s, (kindOf y.2).isSome = true) → lexS s = ((itemsG s.length 0 s).map tokI, 0, 0)) := by
  unfold lexS
  rw [if_neg h, lex_all]
  refine ⟨fun x r pre he h1 h2 => ?_, fun h1 => ?_⟩
  · rw [he, lexI_no pre x r h1 h2]
  · rw [lexI_ok _ h1]
theorem kO_some {t : List UInt8} (h : (kindOf t).isSome = true) (p : Nat) : (kO t).2.2 = true ∧ tokI (p, t) = ⟨(kO t).1, t, (kO t).2.1, p⟩ := by
  unfold kO tokI
  cases hk : kindOf t with
  | none => rw [hk] at h; cases h
  | some k => simp
theorem kO_nope {t : List UInt8} (h : kindOf t = none) : kO t = (0, 0, false) := by unfold kO; rw [h]
theorem cells_snoc (pre : List (Nat × List UInt8)) (x : Nat × List UInt8) : cellsOfT ((pre ++ [x]).map tokI) = cellsOfT (pre.map tokI) ++ [.int .u8 (tokI x).kind, strV (tokI x).text, .int .i64 (tokI x).num, .int .i64 (tokI x).pos] := by
  rw [List.map_append, cellsOfT_app]
  rfl

set_option maxRecDepth 100000 in
set_option maxHeartbeats 2000000 in
theorem lex_c (s : List UInt8) (w : World) (hs : s.length ≤ 9223372036854775807) : Calls Tryd.prog 15 #[strV s] w (LexIs w (lexS s).1 (lexS s).2.1 (lexS s).2.2) := by
  have slen : (⟨s.toArray⟩ : ByteArray).size = s.length := by simp [ByteArray.size]
  by_cases hlong : 4096 < s.length
  · have HE := hidE (show lexS s = ([], 0, 3) by unfold lexS; rw [if_pos hlong])
    have d1 : decide ((4096 : Int) < (s.length : Int)) = true := decide_eq_true (by omega)
    have d1' : decide (4096 < s.length) = true := decide_eq_true hlong
    rw [HE.out]
    clear HE hlong
    go_enter Tryd.func15, Tryd.ntmps15
    go_wp2
    refine bodyPost_ret (v := .tuple #[.slice none 0 0, .int .i64 0, .int .i64 3]) (by simp [results, Tryd.results15, go_sem]) rfl ⟨_, rfl, sliT_nil _, ?_⟩
    (repeat (first | exact Below.refl _ _ | assumption | refine balloc ?_ _ | refine below_drewN ?_ _ | refine bstep (by assumption) ?_ | refine bstep (Past.prop _) ?_ | refine Below.setCell ?_ (by first | exact Nat.le_refl _ | (simp; done) | (simp; omega)) _))
  have d1 : decide ((4096 : Int) < (s.length : Int)) = false := decide_eq_false (by omega)
  have d1' : decide (4096 < s.length) = false := decide_eq_false hlong
  have HKI := hidE (fun w => kinds_c w)
  refine (callsIn_wide (n := 0)).1 (callsIn_of_wp_marks Tryd.func15 rfl trivial ((wpIn_wide (n := 0)).2 ?_))
  simp only [Tryd.ntmps15, List.size_toArray, List.length_cons, List.length_nil, Nat.reduceAdd, Nat.reduceSub, Array.replicate_succ, Array.replicate_zero, List.push_toArray, List.append_toArray, List.nil_append, List.cons_append]
  go_wp2_with fail
  ((with_reducible refine (HKI.out _).mono ?_); rintro e w1 ⟨rfl, hb1, hk0, hk1, hk2, hk3⟩)
  go_wp2
  simp only [World.size_alloc] at hb1 hk0 hk1 hk2 hk3
  obtain ⟨w0, hw0⟩ : ∃ w0, w0 = (((w.alloc (Obj.cells #[Value.slice none 0 0] 43)).alloc (Obj.cells #[Value.int IntKind.i64 0] 3)).alloc (Obj.cells #[Value.int IntKind.i64 0] 26)).alloc (Obj.cells #[Value.slice none 0 0] 43) := ⟨_, rfl⟩
  have q0 : Blk w0 w.heap.size #[.slice none 0 0] 43 := hw0 ▸ (((Blk.made _ _ _).alloc _).alloc _).alloc _
  have q1 : Blk w0 (w.heap.size + 1) #[.int .i64 0] 3 := hw0 ▸ ((Blk.made_at _ _ _ _ (by simp)).alloc _).alloc _
  have q2 : Blk w0 (w.heap.size + 1 + 1) #[.int .i64 0] 26 := hw0 ▸ (Blk.made_at _ _ _ _ (by simp)).alloc _
  have q3 : Blk w0 (w.heap.size + 1 + 1 + 1) #[.slice none 0 0] 43 := hw0 ▸ Blk.made_at _ _ _ _ (by simp)
  have hb0 : Below w.heap.size w w0 := by rw [hw0]; (repeat (first | exact Below.refl _ _ | assumption | refine balloc ?_ _ | refine below_drewN ?_ _ | refine bstep (by assumption) ?_ | refine bstep (Past.prop _) ?_ | refine Below.setCell ?_ (by first | exact Nat.le_refl _ | (simp; done) | (simp; omega)) _))
  have hz0 : w0.heap.size = w.heap.size + 1 + 1 + 1 + 1 := by rw [hw0]; simp
  rw [← hw0, ← hz0] at hb1
  clear hw0
  obtain ⟨KB, hKB⟩ : ∃ KB, KB = w.heap.size + 1 + 1 + 1 + 1 + 3 := ⟨_, rfl⟩
  obtain ⟨p1, hp1⟩ : ∃ p1, p1 = w.heap.size + 1 + 1 + 1 + 1 := ⟨_, rfl⟩
  rw [← hKB, ← hp1] at hk0
  rw [← hp1] at hk1 hk2 hk3
  rw [← hKB]
  have ks : KindsAt w1 KB p1 (p1 + 1) (p1 + 2) := ⟨hk0, hk1, hk2, hk3⟩
  have hb : Below w.heap.size w w1 := hb0.trans (hb1.mono hb0.size)
  have z1 : w.heap.size + 1 + 1 + 1 < w1.heap.size := by have := hb1.size; omega
  have q0 := q0.past hb1; have q1 := q1.past hb1; have q2 := q2.past hb1; have q3 := q3.past hb1
  have zK := ks.all.lt; have z2 := ks.m1.lt; have z3 := ks.m2.lt; have z4 := ks.m3.lt
  have n1 : w.heap.size + 1 + 1 + 1 < p1 := by omega
  have n2 : w.heap.size + 1 + 1 + 1 < KB := by omega
  clear hk0 hk1 hk2 hk3 hKB hp1 hb0 hb1 hz0 HKI
  obtain ⟨w5, hw5⟩ : ∃ w5, w5 = (w1.alloc (Obj.cells #[Value.slice (some ⟨KB, 0, none⟩) 5 5] 66)).alloc (Obj.cells #[strV s] 9) := ⟨_, rfl⟩
  have qA : Blk w5 w1.heap.size #[.slice (some ⟨KB, 0, none⟩) 5 5] 66 := hw5 ▸ (Blk.made _ _ _).alloc _
  have qS : Blk w5 (w1.heap.size + 1) #[strV s] 9 := hw5 ▸ Blk.made_at _ _ _ _ (by simp)
  have hb5 : Below w1.heap.size w1 w5 := by rw [hw5]; (repeat (first | exact Below.refl _ _ | assumption | refine balloc ?_ _ | refine below_drewN ?_ _ | refine bstep (by assumption) ?_ | refine bstep (Past.prop _) ?_ | refine Below.setCell ?_ (by first | exact Nat.le_refl _ | (simp; done) | (simp; omega)) _))
  have hz5 : w5.heap.size = w1.heap.size + 1 + 1 := by rw [hw5]; simp
  rw [← hw5]
  clear hw5
  have hI0 : LexI w s KB w1.heap.size (w1.heap.size + 1) p1 (p1 + 1) (p1 + 2) [] none w5 :=
    ⟨⟨.slice none 0 0, w5.heap.size, q3.past hb5, hb.trans (hb5.mono hb.size), own_nil _ _ _, by omega, Nat.le_refl _, .inl ⟨rfl, rfl⟩⟩, q0.past hb5, q1.past hb5, q2.past hb5, ks.past hb5, qA, qS, fun x hx => by simp at hx, fun b k e => by cases e⟩
  have HBB := hidE (hb.trans (hb5.mono hb.size))
  have HLS := hidE (lexS_items hlong)
  have HLN := hidE (items_len (s := s) s.length 0)
  have HMEM := hidE (fun x hx => items_mem (s := s) s.length 0 x hx)
  have HS4 := hidE (show s.length ≤ 4096 by omega)
  clear q0 q1 q2 q3 ks hb hb5 qA qS hlong d1 d1' hs
  refine wp_rangeFunc_X (n₀ := w.heap.size) (S := itemsG s.length 0 s) rfl (enters_of Tryd.func38 (by kernel_rfl) rfl) HBB.out.size (runs_c s (w1.heap.size + 1) w.heap.size w5 (by have := HS4.out; omega)) (fun _ => rfl)
    (LexI w s KB w1.heap.size (w1.heap.size + 1) p1 (p1 + 1) (p1 + 2)) (fun s g A B h hb hk => lexI_keep (n := w5.heap.size) (by omega) (by omega) (by omega) (by omega) (by omega) (by omega) (by omega) h hb hk) (fun s g A h => ownI_own h.own) (fun s g A h => h.st) hI0
    (LexX w) (fun s A B h hb => lexX_keep (n := w5.heap.size) (by omega) h hb)
    (fun x a1 W => ∃ (u0 u1 u9 u10 u11 u12 u13 u14 u15 u16 u17 u18 u19 u20 u21 u22 u23 u24 u25 u26 u27 u28 u29 u30 u31 u32 u33 u34 u35 u36 u37 u38 : Value), a1 = { tmps := #[u0, u1, .pointer (some ⟨w.heap.size, 0, none⟩), .pointer (some ⟨w.heap.size + 1, 0, none⟩), .pointer (some ⟨w.heap.size + 1 + 1, 0, none⟩), .pointer (some ⟨w.heap.size + 1 + 1 + 1, 0, none⟩), .pointer (some ⟨w1.heap.size, 0, none⟩), .int .i64 x.1, strV x.2, u9, u10, u11, u12, u13, u14, u15, u16, u17, u18, u19, u20, u21, u22, u23, u24, u25, u26, u27, u28, u29, u30, u31, u32, u33, u34, u35, u36, u37, u38], defers := [] })
    ?hax ?assign ?body ?done ?stop
  case hax =>
    rintro x a1 A l r o ⟨u0, u1, u9, u10, u11, u12, u13, u14, u15, u16, u17, u18, u19, u20, u21, u22, u23, u24, u25, u26, u27, u28, u29, u30, u31, u32, u33, u34, u35, u36, u37, u38, h3⟩ hlr
    exact ⟨_, _, _, _, _, _, _, _, _, _, _, _, _, _, _, _, _, _, _, _, _, _, _, _, _, _, _, _, _, _, _, _, h3⟩
  case assign =>
    intro l pre x g W K hsz hi hK
    dsimp only [encR]
    gi_wp2
    exact hK _ _ (Below.refl _ _) hi ⟨_, _, _, _, _, _, _, _, _, _, _, _, _, _, _, _, _, _, _, _, _, _, _, _, _, _, _, _, _, _, _, _, rfl⟩
  case body =>
    rintro l pre x g a1 W hsz hi ⟨u0, u1, u9, u10, u11, u12, u13, u14, u15, u16, u17, u18, u19, u20, u21, u22, u23, u24, u25, u26, u27, u28, u29, u30, u31, u32, u33, u34, u35, u36, u37, u38, rfl⟩ hpre
    obtain ⟨pre0, hpre0⟩ := hpre
    have hmem : x ∈ itemsG s.length 0 s := by rw [← hpre0]; simp
    have hx4 : x.2.length ≤ 4096 := by have := (HMEM.out x hmem).1; have := HS4.out; omega
    have hlen : pre.length < 4096 := by
      have := HLN.out
      have := HS4.out
      have h3 := congrArg List.length hpre0
      simp only [List.length_append, List.length_cons, List.length_nil] at h3
      omega
    have HKO := hidE (kindof_c x.2 KB p1 (p1 + 1) (p1 + 2) W (by omega) hi.ks)
    have ca := hi.al.cell 0; have cz := hi.al.lt
    simp at ca
    clear hI0 HLS HLN HMEM hmem hpre0
    cases hk : kindOf x.2 with
    | none =>
      rw [kO_nope hk] at HKO
      gi_wp2_with fail
      refine ⟨trivial, rfl, (CallsIn.inRound l (callsIn_wide.2 HKO.out)).mono ?_⟩
      rintro e w3 ⟨rfl, hb3⟩
      have q0 := hi.r0.past hb3; have q1 := hi.r1.past hb3; have q2 := hi.r2.past hb3
      have y0 := q0.cell 0; have y1 := q1.cell 0; have y2 := q2.cell 0; have f0 := q0.free; have f1 := q1.free; have f2 := q2.free; have x0 := q0.lt; have x1 := q1.lt; have x2 := q2.lt
      simp at y0 y1 y2
      have hbW : Below w.heap.size w W := by obtain ⟨_, _, _, h, _⟩ := hi.own; exact h
      have hok := hi.ok
      have HB3 := hidE (hbW.trans (hb3.mono hbW.size)); have HW3 := hidE hb3
      have Q0 := hidE q0; have Q1 := hidE q1; have Q2 := hidE q2
      clear hi q0 q1 q2 hb3 hbW ca cz
      gi_wp2
      refine ⟨⟨pre, x, rfl, hok, hk, ?_, ?_, ?_, ?_⟩, fun k h1 h2 h0 => ?_⟩
      · exact ((HB3.out.setCell (p := ⟨w.heap.size, 0, none⟩) (Nat.le_refl _) _).setCell (p := ⟨w.heap.size + 1, 0, none⟩) (by simp) _).setCell (p := ⟨w.heap.size + 1 + 1, 0, none⟩) (by simp; omega) _
      · simpa using ((Q0.out.set 0 (.slice none 0 0)).other (b := w.heap.size + 1) (i := 0) (by omega) (.int .i64 x.1)).other (b := w.heap.size + 1 + 1) (i := 0) (by omega) (.int .i64 60)
      · simpa using ((Q1.out.other (b := w.heap.size) (i := 0) (by omega) (.slice none 0 0)).set 0 (.int .i64 x.1)).other (b := w.heap.size + 1 + 1) (i := 0) (by omega) (.int .i64 60)
      · simpa using ((Q2.out.other (b := w.heap.size) (i := 0) (by omega) (.slice none 0 0)).other (b := w.heap.size + 1) (i := 0) (by omega) (.int .i64 x.1)).set 0 (.int .i64 60)
      · exact (keptS (by omega) _).trans ((keptS (by omega) _).trans ((keptS (by omega) _).trans (HW3.out.block k (by omega))))
    | some kk =>
      have hks : (kindOf x.2).isSome = true := by rw [hk]; rfl
      obtain ⟨hko, htk⟩ := kO_some hks x.1
      have HSN := hidE (cells_snoc pre x)
      rw [show tokI x = _ from htk] at HSN
      clear htk
      gi_wp2_with fail
      refine ⟨trivial, rfl, (CallsIn.inRound l (callsIn_wide.2 HKO.out)).mono ?_⟩
      rintro e w3 ⟨rfl, hb3⟩
      rw [hko]
      generalize (kO x.2).1 = kd at *
      generalize (kO x.2).2.1 = nm at *
      clear hko HKO hk
      have hz3 := hb3.size
      have hown3 : OwnI w (w.heap.size + 1 + 1 + 1) 43 73 4 pre.length (cellsOfT (pre.map tokI)) g w3 := ownI_keep (m := w5.heap.size) (by omega) (by have := HBB.out.size; omega) hi.own (hb3.mono hsz) (fun b k e => hb3.block k (ownI_own hi.own b k e).2)
      obtain ⟨av, cp, γ, i1, i2, i3, i4, i5, i6, i7⟩ := ownI_base hown3
      have t0 := i1.cell 0; have t1 := i1.lt; have tf := i1.free
      simp at t0
      obtain ⟨ix, hix, hz0, hzz, hz4⟩ := info_parts Tryd.infoTokL
      have HI := hidE hix; have HZ0 := hidE hz0; have HZ1 := hidE hzz; have HZ2 := hidE hz4
      have I1 := hidE i1; have I2 := hidE i2; have I3 := hidE i3; have I6 := hidE i6; have I7 := hidE i7; have HB3 := hidE hb3; have HLI := hidE hi
      have HG0 := hidE (fun b k (e : g = some (b, k)) => ownI_own hi.own b k e)
      clear hi hix hz0 hzz hz4 i1 i2 i3 i6 i7 hb3 hown3 ca cz
      gi_wp2_with (gi_at_builtin; refine wpListIn_append_own _ rfl (.tmp 30) (.tmp 36) 43 rfl γ 73 ix (.agg #[.int .u8 0, .string ⟨#[]⟩, .int .i64 0, .int .i64 0]) 4 40 Tryd.underlying43 HI.out HZ0.out HZ1.out HZ2.out rfl (by decide) _ _ _ rfl (own_kept I3.out (fun k e => keptA (own_lt I3.out e) _)) ⟨_, 0, none⟩ 1 1 [.int .u8 kd, strV x.2, .int .i64 nm, .int .i64 x.1] rfl rfl (new_cellsT _ #[.int .u8 kd, strV x.2, .int .i64 nm, .int .i64 x.1] 73) (by intro y hy; simp at hy; rcases hy with rfl | rfl | rfl | rfl <;> rfl) (by unfold maxLen; omega) (by omega) (by simp; omega) ?_; intro v4 w4 hown4 hgrow4 hnil4; obtain ⟨a4, c4, rfl⟩ := own_sli hown4; have HG4 := hidE hgrow4; have HO4 := hidE hown4; have HN4 := hidE hnil4; have BP4 : Blk w4 (w.heap.size + 1 + 1 + 1) #[.slice av pre.length cp] 43 := (I1.out.alloc _).grown HG4.out (fun e => by have := (I6.out _ e.symm).2; omega); have g4 := BP4.cell 0; have g5 := BP4.free; have g6 := BP4.lt; simp at g4; have HB4 := hidE BP4; clear hgrow4 hown4 hnil4 BP4 t0 t1 tf)
      have hv4 : (Value.slice a4 (pre.length + 1) c4) ≠ .slice none 0 0 := fun e => by have := (HN4.out.1 e).2; omega
      obtain ⟨k4, hk4⟩ := own_has HO4.out hv4
      have hγ : w1.heap.size + 1 < γ := by
        rcases I7.out with h | ⟨j, h⟩
        · omega
        · exact HLI.out.base _ _ h
      have HGA := hidE (show ∀ k, (Value.slice av pre.length cp).ownBlock = some k → γ ≤ k from fun k e => (I6.out k e).2)
      have hown : (w4.setCell ⟨w.heap.size + 1 + 1 + 1, 0, none⟩ (Value.slice a4 (pre.length + 1) c4)).ownsRow γ 73 4 (Value.slice a4 (pre.length + 1) c4) (pre ++ [x]).length (cellsOfT ((pre ++ [x]).map tokI)) := by
        rw [HSN.out, List.length_append]
        exact own_kept HO4.out (fun k e => keptS (by have := own_block HO4.out e; omega) _)
      have hz4 : w3.heap.size ≤ w4.heap.size := by have := HG4.out.size; simp at this; omega
      have hzw := I2.out.size
      have hb4 : Below w.heap.size w3 (w4.setCell ⟨w.heap.size + 1 + 1 + 1, 0, none⟩ (Value.slice a4 (pre.length + 1) c4)) :=
        (Below.grown ((Below.refl _ w3).alloc (by omega) _) HG4.out (by simp; omega) (fun k e => by have := HGA.out k e; omega)).setCell (p := ⟨w.heap.size + 1 + 1 + 1, 0, none⟩) (by simp; omega) _
      have hq : ∀ {k : Nat} {cs : Array Value} {t : TypeId}, Blk W k cs t → k ≤ w1.heap.size + 1 → k ≠ w.heap.size + 1 + 1 + 1 → Blk (w4.setCell ⟨w.heap.size + 1 + 1 + 1, 0, none⟩ (Value.slice a4 (pre.length + 1) c4)) k cs t := fun h h1 h2 =>
        (((h.past HB3.out).alloc _).grown HG4.out (fun e => by have := HGA.out _ e.symm; omega)).other h2 _
      refine ⟨some (γ, k4), ⟨⟨(Value.slice a4 (pre.length + 1) c4), γ, by simpa using HB4.out.set 0 (Value.slice a4 (pre.length + 1) c4), I2.out.trans hb4, hown, i4, by simp [World.setCell]; omega, .inr ⟨k4, rfl, hk4⟩⟩, hq HLI.out.r0 (by omega) (by omega), hq HLI.out.r1 (by omega) (by omega), hq HLI.out.r2 (by omega) (by omega), ⟨hq HLI.out.ks.all (by omega) (by omega), hq HLI.out.ks.m1 (by omega) (by omega), hq HLI.out.ks.m2 (by omega) (by omega), hq HLI.out.ks.m3 (by omega) (by omega)⟩, hq HLI.out.al (by omega) (by omega), hq HLI.out.st (by omega) (by omega), ?_, ?_⟩, (HB3.out.mono (by omega)).trans hb4, fun k e1 e2 e3 => ?_, fun b k e => ?_⟩
      · intro y hy
        rcases List.mem_append.1 hy with h | h
        · exact HLI.out.ok y h
        · simp at h; subst h; exact hks
      · intro b k e
        cases e
        exact hγ
      · refine (keptS (by omega) _).trans ((HG4.out.block k (by simp; omega) (fun e => ?_)).trans ((keptA (by omega) _).trans (HB3.out.block k e2)))
        exact e3 _ (I6.out k e.symm).1
      · cases e
        rcases I7.out with h | h
        · exact .inl (by omega)
        · exact .inr h
  case done =>
    rintro D g W hD hi hgd hK
    obtain ⟨av, cp, γ, i1, i2, i3, i4, i5, i6, i7⟩ := ownI_base hi.own
    obtain rfl : D = w1.heap.size + 1 + 1 := hD.trans hz5
    have hDz : w1.heap.size + 1 + 1 < W.heap.size := (Array.getElem?_eq_some_iff.1 hK).1
    have HLS2 := hidE (HLS.out.2 hi.ok)
    have c0 := i1.cell 0; have z3' := i1.lt
    have y0 := hi.r0.cell 0; have y1 := hi.r1.cell 0; have y2 := hi.r2.cell 0; have f0 := hi.r0.free; have f1 := hi.r1.free; have f2 := hi.r2.free; have x0 := hi.r0.lt; have x1 := hi.r1.lt; have x2 := hi.r2.lt
    simp at c0 y0 y1 y2
    have hgD : ∀ k, (Value.slice av (itemsG s.length 0 s).length cp).ownBlock = some k → (w1.heap.size + 1 + 1) + 2 ≤ k := fun k e => by
      obtain ⟨q1, q2⟩ := i6 k e
      have := hgd _ _ q1
      omega
    have hkf : (((W.setCell ⟨w.heap.size, 0, none⟩ (.slice av (itemsG s.length 0 s).length cp)).setCell ⟨w.heap.size + 1, 0, none⟩ (.int .i64 0)).setCell ⟨w.heap.size + 1 + 1, 0, none⟩ (.int .i64 0)).heap[w1.heap.size + 1 + 1]? = some (.deferred (some [])) :=
      (keptS (by omega) _).trans ((keptS (by omega) _).trans ((keptS (by omega) _).trans hK))
    have r0 := ((((hi.r0.set 0 (.slice av (itemsG s.length 0 s).length cp)).other (b := w.heap.size + 1) (i := 0) (by omega) (.int .i64 0)).other (b := w.heap.size + 1 + 1) (i := 0) (by omega) (.int .i64 0)).putO (b := w1.heap.size + 1 + 1) (by omega) (.deferred none)).cell 0
    have r1 := ((((hi.r1.other (b := w.heap.size) (i := 0) (by omega) (.slice av (itemsG s.length 0 s).length cp)).set 0 (.int .i64 0)).other (b := w.heap.size + 1 + 1) (i := 0) (by omega) (.int .i64 0)).putO (b := w1.heap.size + 1 + 1) (by omega) (.deferred none)).cell 0
    have r2 := ((((hi.r2.other (b := w.heap.size) (i := 0) (by omega) (.slice av (itemsG s.length 0 s).length cp)).other (b := w.heap.size + 1) (i := 0) (by omega) (.int .i64 0)).set 0 (.int .i64 0)).putO (b := w1.heap.size + 1 + 1) (by omega) (.deferred none)).cell 0
    simp at r0 r1 r2
    have R0 := hidE r0; have R1 := hidE r1; have R2 := hidE r2; have HKF := hidE hkf; have HO := hidE i3; have HB := hidE i2; have HGD := hidE hgD
    clear hI0 hi i1 i3 i2 i6 i7 hgd hK hgD hkf r0 r1 r2 HLS HMEM hD
    go_wp2
    refine ⟨by simp, .inl ⟨_, _, rfl, run_takeDeferred HKF.out, ?_⟩⟩
    refine ⟨.tuple #[.slice av (itemsG s.length 0 s).length cp, .int .i64 0, .int .i64 0], by simp [results, Tryd.results15, go_sem, R0.out, R1.out, R2.out], ?_⟩
    rw [HLS2.out]
    refine ⟨_, rfl, ?_, ?_⟩
    · have hO := own_kept (B := (((W.setCell ⟨w.heap.size, 0, none⟩ (.slice av (itemsG s.length 0 s).length cp)).setCell ⟨w.heap.size + 1, 0, none⟩ (.int .i64 0)).setCell ⟨w.heap.size + 1 + 1, 0, none⟩ (.int .i64 0)).putObj (w1.heap.size + 1 + 1) (.deferred none)) HO.out (fun k e => by
        have := HGD.out k e
        exact (World.putObj_heap_other (by omega)).trans ((keptS (by omega) _).trans ((keptS (by omega) _).trans (keptS (by omega) _))))
      have hlm : (itemsG s.length 0 s).length = ((itemsG s.length 0 s).map tokI).length := by rw [List.length_map]
      rw [hlm] at hO ⊢
      exact sliT_own hO
    · exact (((HB.out.setCell (p := ⟨w.heap.size, 0, none⟩) (Nat.le_refl _) _).setCell (p := ⟨w.heap.size + 1, 0, none⟩) (by simp) _).setCell (p := ⟨w.heap.size + 1 + 1, 0, none⟩) (by simp; omega) _).trans (below_putObj _ _ _ (by omega))
  case stop =>
    rintro D pre W hD hpre ⟨pre', x, rfl, h2, h3, h4, h5, h6, h7⟩ hK
    have HE := hidE (show lexS s = ([], x.1, 60) by
      obtain ⟨r, hr⟩ := hpre
      exact HLS.out.1 x r pre' (by rw [← hr]; simp) h2 h3)
    have r0 := (h5.putO (b := D) (by omega) (.deferred none)).cell 0
    have r1 := (h6.putO (b := D) (by omega) (.deferred none)).cell 0
    have r2 := (h7.putO (b := D) (by omega) (.deferred none)).cell 0
    simp at r0 r1 r2
    have R0 := hidE r0; have R1 := hidE r1; have R2 := hidE r2; have HB := hidE h4
    clear hI0 r0 r1 r2 h5 h6 h7 h4 h2 h3 hpre HLS HMEM
    go_wp2
    refine ⟨by simp, .inl ⟨_, _, rfl, run_takeDeferred hK, ?_⟩⟩
    refine ⟨.tuple #[.slice none 0 0, .int .i64 x.1, .int .i64 60], by simp [results, Tryd.results15, go_sem, R0.out, R1.out, R2.out], ?_⟩
    rw [HE.out]
    exact ⟨_, rfl, sliT_nil _, HB.out.trans (below_putObj _ _ _ (by omega))⟩
end Go.Proofs.YtaeipfnpglbooaaDoor

namespace Go.Proofs.YtaeipfnpglbooaaDoor
open Go.ChangeShapes Go.WideShapes Go.ChangeAt Go.RowKit
attribute [local irreducible] Go.Calls

/-- What definition hands back. -/
def DefOut (B en : Nat) (w : World) (R : Except PErr (Int × Int × Fst)) (e : Ending) (w' : World) : Prop :=
  match R with
  | .ok p => ∃ (a : Option Addr) (cap : Nat), e = .returned (.tuple #[defV p.1 p.2.1 a p.2.2.flat.length cap, .int .i64 0, .int .i64 0]) ∧ p.2.2.flat.length ≤ cap ∧ cap ≤ 9223372036854775807 ∧ ArgP w' a p.2.2.flat ∧ Below B w w'
  | .error x => e = .returned (.tuple #[defV 0 0 none 0 0, .int .i64 ((x.2.getD en : Nat) : Int), .int .i64 x.1]) ∧ Below B w w'
/-- What is kept between definition's calls. -/
def DfSt (B r : Nat) (l : List Tok) (en : Nat) (v : Value) (P : List Prt) (d : Array Value) (W w : World) : Prop :=
  Rd B r l en 0 v P w ∧ Kp B r (.slice none 0 0) W w ∧ ResI W.heap.size d w
theorem ResI.k1 {B r p : Nat} {d : Array Value} {w w' : World} (h : ResI p d w) (hk : K1 B r w w') (hr : r < p) : ResI p d w' := ⟨hk.blk h.d (by omega), hk.blk h.n (by omega), hk.blk h.e (by omega)⟩
theorem DfSt.step {B r en : Nat} {l l' : List Tok} {v : Value} {P : List Prt} {d : Array Value} {W w w' : World} (h : DfSt B r l en v P d W w) (hr : r < W.heap.size) (hR : Rd B r l' en 0 v P w') (hk : K1 B r w w') : DfSt B r l' en v P d W w' :=
  ⟨hR, h.2.1.k1 hk, h.2.2.k1 hk hr⟩
theorem ResI.set {p i : Nat} {d d' : Array Value} {w : World} (h : ResI p d w) {x : Value} (hx : d.setIfInBounds i x = d') : ResI p d' (w.setCell ⟨p, i, none⟩ x) := ⟨hx ▸ h.d.set i x, h.n.other (by omega) x, h.e.other (by omega) x⟩
theorem DfSt.set {B r en : Nat} {l : List Tok} {v : Value} {P : List Prt} {d d' : Array Value} {W w : World} (h : DfSt B r l en v P d W w) (hr : r < W.heap.size) (hB : B ≤ W.heap.size) (hv : v.ownBlock ≠ some W.heap.size) {i : Nat} {x : Value} (hx : d.setIfInBounds i x = d') : DfSt B r l en v P d' W (w.setCell ⟨W.heap.size, i, none⟩ x) :=
  ⟨rd_other h.1 hB (by omega) hv _ _, kp_new h.2.1 (Nat.le_refl _) hB _, h.2.2.set hx⟩
set_option maxRecDepth 100000 in
set_option maxHeartbeats 2000000 in
theorem def_e1 (B r en : Nat) (l : List Tok) (x : PErr) (w : World) (hB : B ≤ w.heap.size) (h : Rd B r l en 0 (.slice none 0 0) [] w) (h1 : takeW wFrom l = .error x) :
    Calls Tryd.prog 16 #[.pointer (some ⟨r, 0, none⟩)] w (DefOut B en w (.error x)) := by
  have hmf : ∀ (fn : Fn) (first cap : Array Value) (w : World), (Instr.makeFunc fn first cap).run Tryd.prog w = .ok (.func fn first cap) w := fun _ _ _ _ => rfl
  have hrl := rd_lt h
  have hv : (Value.slice none 0 0).ownBlock ≠ some w.heap.size := fun h => by simp [Value.ownBlock] at h
  have hS : DfSt B r l en (.slice none 0 0) [] #[.int .i64 0, .int .i64 0, .slice none 0 0] w (((w.alloc (.cells #[.int .i64 0, .int .i64 0, .slice none 0 0] 24)).alloc (.cells #[.int .i64 0] 3)).alloc (.cells #[.int .i64 0] 26)) :=
    ⟨((h.alloc hB _).alloc (by simp; omega) _).alloc (by simp; omega) _, ((((K1.refl B r w).alloc hB _).alloc hB _).alloc hB _).kp _, ((Blk.made _ _ _).alloc _).alloc _, (Blk.made_at _ _ _ _ (by simp)).alloc _, Blk.made_at _ _ _ _ (by simp)⟩
  have HS0 := hidE hS; clear hS h
  go_enter_defers Tryd.func16, Tryd.ntmps16
  go_wp2_with fail
  generalize World.alloc _ _ = w1 at *
  have St := HS0.out
  have HC := hidE (show Calls _ _ #[_, .string ⟨#[102, 114, 111, 109]⟩] _ _ from word_no St.1 (Nat.le_trans hB St.2.1.size) wFrom x h1)
  ((with_reducible refine HC.out.mono ?_); rintro e wx ⟨rfl, hk⟩)
  have hRes := St.2.2.k1 hk hrl
  have HB := hidE (St.2.1.k1 hk).1
  clear St hk
  go_wp2
  refine leaves_cons (f := 25) (args := #[.pointer (some ⟨w.heap.size, 0, none⟩), .pointer (some ⟨w.heap.size + 1, 0, none⟩), .pointer (some ⟨w.heap.size + 2, 0, none⟩)]) (by simp) (by simp [go_sem]) ?_
  refine (catch_panic w.heap.size _ _ _ _ _ [] _ hRes).mono ?_
  rintro e u' w'' ⟨rfl, rfl, b0, b1, b2, hb⟩
  have c0 := b0.cell 0; have c1 := b0.cell 1; have c2 := b0.cell 2; have c3 := b1.cell 0; have c4 := b2.cell 0
  simp at c0 c1 c2 c3 c4
  have HB2 := hidE (HB.out.trans (hb.mono hB))
  clear b0 b1 b2 hb hRes
  simp [Leaves, settle, results, Tryd.results16, go_sem, c0, c1, c2, c3, c4]
  exact ⟨rfl, HB2.out⟩
set_option maxRecDepth 100000 in
set_option maxHeartbeats 2000000 in
theorem def_e2 (B r en : Nat) (l : List Tok) (l1 : List Tok) (x : PErr) (w : World) (hB : B ≤ w.heap.size) (h : Rd B r l en 0 (.slice none 0 0) [] w) (h1 : takeW wFrom l = .ok l1) (h2 : numT 1099511627776 l1 = .error x) :
    Calls Tryd.prog 16 #[.pointer (some ⟨r, 0, none⟩)] w (DefOut B en w (.error x)) := by
  have hmf : ∀ (fn : Fn) (first cap : Array Value) (w : World), (Instr.makeFunc fn first cap).run Tryd.prog w = .ok (.func fn first cap) w := fun _ _ _ _ => rfl
  have hrl := rd_lt h
  have hv : (Value.slice none 0 0).ownBlock ≠ some w.heap.size := fun h => by simp [Value.ownBlock] at h
  have hS : DfSt B r l en (.slice none 0 0) [] #[.int .i64 0, .int .i64 0, .slice none 0 0] w (((w.alloc (.cells #[.int .i64 0, .int .i64 0, .slice none 0 0] 24)).alloc (.cells #[.int .i64 0] 3)).alloc (.cells #[.int .i64 0] 26)) :=
    ⟨((h.alloc hB _).alloc (by simp; omega) _).alloc (by simp; omega) _, ((((K1.refl B r w).alloc hB _).alloc hB _).alloc hB _).kp _, ((Blk.made _ _ _).alloc _).alloc _, (Blk.made_at _ _ _ _ (by simp)).alloc _, Blk.made_at _ _ _ _ (by simp)⟩
  have HS0 := hidE hS; clear hS h
  have C1 := hidE (fun w' (h : DfSt B r l en (.slice none 0 0) [] #[.int .i64 0, .int .i64 0, .slice none 0 0] w w') => show Calls _ _ #[_, .string ⟨#[102, 114, 111, 109]⟩] _ _ from word_ok h.1 (Nat.le_trans hB h.2.1.size) wFrom h1)
  go_enter_defers Tryd.func16, Tryd.ntmps16
  go_wp2_with fail
  generalize World.alloc _ _ = w1 at *
  ((with_reducible refine (C1.out _ HS0.out).mono ?_); rintro e w2 ⟨rfl, hr, hk⟩)
  have hS := DfSt.step HS0.out hrl hr hk
  have HS1 := hidE hS; clear hr hk hS
  go_wp2_with fail
  have St := HS1.out
  have HC := hidE (num_no St.1 (Nat.le_trans hB St.2.1.size) 1099511627776 x h2)
  ((with_reducible refine HC.out.mono ?_); rintro e wx ⟨rfl, hk⟩)
  have hRes := St.2.2.k1 hk hrl
  have HB := hidE (St.2.1.k1 hk).1
  clear St hk
  go_wp2
  refine leaves_cons (f := 25) (args := #[.pointer (some ⟨w.heap.size, 0, none⟩), .pointer (some ⟨w.heap.size + 1, 0, none⟩), .pointer (some ⟨w.heap.size + 2, 0, none⟩)]) (by simp) (by simp [go_sem]) ?_
  refine (catch_panic w.heap.size _ _ _ _ _ [] _ hRes).mono ?_
  rintro e u' w'' ⟨rfl, rfl, b0, b1, b2, hb⟩
  have c0 := b0.cell 0; have c1 := b0.cell 1; have c2 := b0.cell 2; have c3 := b1.cell 0; have c4 := b2.cell 0
  simp at c0 c1 c2 c3 c4
  have HB2 := hidE (HB.out.trans (hb.mono hB))
  clear b0 b1 b2 hb hRes
  simp [Leaves, settle, results, Tryd.results16, go_sem, c0, c1, c2, c3, c4]
  exact ⟨rfl, HB2.out⟩
set_option maxRecDepth 100000 in
set_option maxHeartbeats 2000000 in
theorem def_e3 (B r en : Nat) (l : List Tok) (l1 : List Tok) (l2 : List Tok) (fr : Int) (x : PErr) (w : World) (hB : B ≤ w.heap.size) (h : Rd B r l en 0 (.slice none 0 0) [] w) (h1 : takeW wFrom l = .ok l1) (h2 : numT 1099511627776 l1 = .ok (fr, l2)) (h3 : takeW wTo l2 = .error x) :
    Calls Tryd.prog 16 #[.pointer (some ⟨r, 0, none⟩)] w (DefOut B en w (.error x)) := by
  have hmf : ∀ (fn : Fn) (first cap : Array Value) (w : World), (Instr.makeFunc fn first cap).run Tryd.prog w = .ok (.func fn first cap) w := fun _ _ _ _ => rfl
  have hrl := rd_lt h
  have hv : (Value.slice none 0 0).ownBlock ≠ some w.heap.size := fun h => by simp [Value.ownBlock] at h
  have hS : DfSt B r l en (.slice none 0 0) [] #[.int .i64 0, .int .i64 0, .slice none 0 0] w (((w.alloc (.cells #[.int .i64 0, .int .i64 0, .slice none 0 0] 24)).alloc (.cells #[.int .i64 0] 3)).alloc (.cells #[.int .i64 0] 26)) :=
    ⟨((h.alloc hB _).alloc (by simp; omega) _).alloc (by simp; omega) _, ((((K1.refl B r w).alloc hB _).alloc hB _).alloc hB _).kp _, ((Blk.made _ _ _).alloc _).alloc _, (Blk.made_at _ _ _ _ (by simp)).alloc _, Blk.made_at _ _ _ _ (by simp)⟩
  have HS0 := hidE hS; clear hS h
  have C1 := hidE (fun w' (h : DfSt B r l en (.slice none 0 0) [] #[.int .i64 0, .int .i64 0, .slice none 0 0] w w') => show Calls _ _ #[_, .string ⟨#[102, 114, 111, 109]⟩] _ _ from word_ok h.1 (Nat.le_trans hB h.2.1.size) wFrom h1)
  have C2 := hidE (fun w' (h : DfSt B r l1 en (.slice none 0 0) [] #[.int .i64 0, .int .i64 0, .slice none 0 0] w w') => num_ok h.1 (Nat.le_trans hB h.2.1.size) 1099511627776 fr h2)
  go_enter_defers Tryd.func16, Tryd.ntmps16
  go_wp2_with fail
  generalize World.alloc _ _ = w1 at *
  ((with_reducible refine (C1.out _ HS0.out).mono ?_); rintro e w2 ⟨rfl, hr, hk⟩)
  have hS := DfSt.step HS0.out hrl hr hk
  have HS1 := hidE hS; clear hr hk hS
  go_wp2_with fail
  ((with_reducible refine (C2.out _ HS1.out).mono ?_); rintro e w3 ⟨rfl, hr, hk⟩)
  have hS := DfSt.step HS1.out hrl hr hk
  have HS2 := hidE hS; clear hr hk hS
  have z := HS2.out.2.2.d.lt; have f := HS2.out.2.2.d.free; have c0 := HS2.out.2.2.d.cell 0; have c1 := HS2.out.2.2.d.cell 1; have c2 := HS2.out.2.2.d.cell 2
  simp at c0 c1 c2
  go_wp2_with fail
  clear z f c0 c1 c2
  have St := (HS2.out.set (i := 0) (x := .int .i64 fr) (d' := #[.int .i64 fr, .int .i64 0, .slice none 0 0]) hrl hB hv rfl)
  have HC := hidE (show Calls _ _ #[_, .string ⟨#[116, 111]⟩] _ _ from word_no St.1 (Nat.le_trans hB St.2.1.size) wTo x h3)
  ((with_reducible refine HC.out.mono ?_); rintro e wx ⟨rfl, hk⟩)
  have hRes := St.2.2.k1 hk hrl
  have HB := hidE (St.2.1.k1 hk).1
  clear St hk
  go_wp2
  refine leaves_cons (f := 25) (args := #[.pointer (some ⟨w.heap.size, 0, none⟩), .pointer (some ⟨w.heap.size + 1, 0, none⟩), .pointer (some ⟨w.heap.size + 2, 0, none⟩)]) (by simp) (by simp [go_sem]) ?_
  refine (catch_panic w.heap.size _ _ _ _ _ [] _ hRes).mono ?_
  rintro e u' w'' ⟨rfl, rfl, b0, b1, b2, hb⟩
  have c0 := b0.cell 0; have c1 := b0.cell 1; have c2 := b0.cell 2; have c3 := b1.cell 0; have c4 := b2.cell 0
  simp at c0 c1 c2 c3 c4
  have HB2 := hidE (HB.out.trans (hb.mono hB))
  clear b0 b1 b2 hb hRes
  simp [Leaves, settle, results, Tryd.results16, go_sem, c0, c1, c2, c3, c4]
  exact ⟨rfl, HB2.out⟩
set_option maxRecDepth 100000 in
set_option maxHeartbeats 2000000 in
theorem def_e4 (B r en : Nat) (l : List Tok) (l1 : List Tok) (l2 : List Tok) (l3 : List Tok) (fr : Int) (x : PErr) (w : World) (hB : B ≤ w.heap.size) (h : Rd B r l en 0 (.slice none 0 0) [] w) (h1 : takeW wFrom l = .ok l1) (h2 : numT 1099511627776 l1 = .ok (fr, l2)) (h3 : takeW wTo l2 = .ok l3) (h4 : numT 1099511627776 l3 = .error x) :
    Calls Tryd.prog 16 #[.pointer (some ⟨r, 0, none⟩)] w (DefOut B en w (.error x)) := by
  have hmf : ∀ (fn : Fn) (first cap : Array Value) (w : World), (Instr.makeFunc fn first cap).run Tryd.prog w = .ok (.func fn first cap) w := fun _ _ _ _ => rfl
  have hrl := rd_lt h
  have hv : (Value.slice none 0 0).ownBlock ≠ some w.heap.size := fun h => by simp [Value.ownBlock] at h
  have hS : DfSt B r l en (.slice none 0 0) [] #[.int .i64 0, .int .i64 0, .slice none 0 0] w (((w.alloc (.cells #[.int .i64 0, .int .i64 0, .slice none 0 0] 24)).alloc (.cells #[.int .i64 0] 3)).alloc (.cells #[.int .i64 0] 26)) :=
    ⟨((h.alloc hB _).alloc (by simp; omega) _).alloc (by simp; omega) _, ((((K1.refl B r w).alloc hB _).alloc hB _).alloc hB _).kp _, ((Blk.made _ _ _).alloc _).alloc _, (Blk.made_at _ _ _ _ (by simp)).alloc _, Blk.made_at _ _ _ _ (by simp)⟩
  have HS0 := hidE hS; clear hS h
  have C1 := hidE (fun w' (h : DfSt B r l en (.slice none 0 0) [] #[.int .i64 0, .int .i64 0, .slice none 0 0] w w') => show Calls _ _ #[_, .string ⟨#[102, 114, 111, 109]⟩] _ _ from word_ok h.1 (Nat.le_trans hB h.2.1.size) wFrom h1)
  have C2 := hidE (fun w' (h : DfSt B r l1 en (.slice none 0 0) [] #[.int .i64 0, .int .i64 0, .slice none 0 0] w w') => num_ok h.1 (Nat.le_trans hB h.2.1.size) 1099511627776 fr h2)
  have C3 := hidE (fun w' (h : DfSt B r l2 en (.slice none 0 0) [] #[.int .i64 fr, .int .i64 0, .slice none 0 0] w w') => show Calls _ _ #[_, .string ⟨#[116, 111]⟩] _ _ from word_ok h.1 (Nat.le_trans hB h.2.1.size) wTo h3)
  go_enter_defers Tryd.func16, Tryd.ntmps16
  go_wp2_with fail
  generalize World.alloc _ _ = w1 at *
  ((with_reducible refine (C1.out _ HS0.out).mono ?_); rintro e w2 ⟨rfl, hr, hk⟩)
  have hS := DfSt.step HS0.out hrl hr hk
  have HS1 := hidE hS; clear hr hk hS
  go_wp2_with fail
  ((with_reducible refine (C2.out _ HS1.out).mono ?_); rintro e w3 ⟨rfl, hr, hk⟩)
  have hS := DfSt.step HS1.out hrl hr hk
  have HS2 := hidE hS; clear hr hk hS
  have z := HS2.out.2.2.d.lt; have f := HS2.out.2.2.d.free; have c0 := HS2.out.2.2.d.cell 0; have c1 := HS2.out.2.2.d.cell 1; have c2 := HS2.out.2.2.d.cell 2
  simp at c0 c1 c2
  go_wp2_with fail
  clear z f c0 c1 c2
  ((with_reducible refine (C3.out _ (HS2.out.set (i := 0) (x := .int .i64 fr) (d' := #[.int .i64 fr, .int .i64 0, .slice none 0 0]) hrl hB hv rfl)).mono ?_); rintro e w4 ⟨rfl, hr, hk⟩)
  have hS := DfSt.step (HS2.out.set (i := 0) (x := .int .i64 fr) (d' := #[.int .i64 fr, .int .i64 0, .slice none 0 0]) hrl hB hv rfl) hrl hr hk
  have HS3 := hidE hS; clear hr hk hS
  go_wp2_with fail
  have St := HS3.out
  have HC := hidE (num_no St.1 (Nat.le_trans hB St.2.1.size) 1099511627776 x h4)
  ((with_reducible refine HC.out.mono ?_); rintro e wx ⟨rfl, hk⟩)
  have hRes := St.2.2.k1 hk hrl
  have HB := hidE (St.2.1.k1 hk).1
  clear St hk
  go_wp2
  refine leaves_cons (f := 25) (args := #[.pointer (some ⟨w.heap.size, 0, none⟩), .pointer (some ⟨w.heap.size + 1, 0, none⟩), .pointer (some ⟨w.heap.size + 2, 0, none⟩)]) (by simp) (by simp [go_sem]) ?_
  refine (catch_panic w.heap.size _ _ _ _ _ [] _ hRes).mono ?_
  rintro e u' w'' ⟨rfl, rfl, b0, b1, b2, hb⟩
  have c0 := b0.cell 0; have c1 := b0.cell 1; have c2 := b0.cell 2; have c3 := b1.cell 0; have c4 := b2.cell 0
  simp at c0 c1 c2 c3 c4
  have HB2 := hidE (HB.out.trans (hb.mono hB))
  clear b0 b1 b2 hb hRes
  simp [Leaves, settle, results, Tryd.results16, go_sem, c0, c1, c2, c3, c4]
  exact ⟨rfl, HB2.out⟩
set_option maxRecDepth 100000 in
set_option maxHeartbeats 2000000 in
theorem def_e5 (B r en : Nat) (l : List Tok) (l1 : List Tok) (l2 : List Tok) (l3 : List Tok) (l4 : List Tok) (fr : Int) (to2 : Int) (x : PErr) (w : World) (hB : B ≤ w.heap.size) (h : Rd B r l en 0 (.slice none 0 0) [] w) (h1 : takeW wFrom l = .ok l1) (h2 : numT 1099511627776 l1 = .ok (fr, l2)) (h3 : takeW wTo l2 = .ok l3) (h4 : numT 1099511627776 l3 = .ok (to2, l4)) (h5 : takeT 4 l4 = .error x) :
    Calls Tryd.prog 16 #[.pointer (some ⟨r, 0, none⟩)] w (DefOut B en w (.error x)) := by
  have hmf : ∀ (fn : Fn) (first cap : Array Value) (w : World), (Instr.makeFunc fn first cap).run Tryd.prog w = .ok (.func fn first cap) w := fun _ _ _ _ => rfl
  have hrl := rd_lt h
  have hv : (Value.slice none 0 0).ownBlock ≠ some w.heap.size := fun h => by simp [Value.ownBlock] at h
  have hS : DfSt B r l en (.slice none 0 0) [] #[.int .i64 0, .int .i64 0, .slice none 0 0] w (((w.alloc (.cells #[.int .i64 0, .int .i64 0, .slice none 0 0] 24)).alloc (.cells #[.int .i64 0] 3)).alloc (.cells #[.int .i64 0] 26)) :=
    ⟨((h.alloc hB _).alloc (by simp; omega) _).alloc (by simp; omega) _, ((((K1.refl B r w).alloc hB _).alloc hB _).alloc hB _).kp _, ((Blk.made _ _ _).alloc _).alloc _, (Blk.made_at _ _ _ _ (by simp)).alloc _, Blk.made_at _ _ _ _ (by simp)⟩
  have HS0 := hidE hS; clear hS h
  have C1 := hidE (fun w' (h : DfSt B r l en (.slice none 0 0) [] #[.int .i64 0, .int .i64 0, .slice none 0 0] w w') => show Calls _ _ #[_, .string ⟨#[102, 114, 111, 109]⟩] _ _ from word_ok h.1 (Nat.le_trans hB h.2.1.size) wFrom h1)
  have C2 := hidE (fun w' (h : DfSt B r l1 en (.slice none 0 0) [] #[.int .i64 0, .int .i64 0, .slice none 0 0] w w') => num_ok h.1 (Nat.le_trans hB h.2.1.size) 1099511627776 fr h2)
  have C3 := hidE (fun w' (h : DfSt B r l2 en (.slice none 0 0) [] #[.int .i64 fr, .int .i64 0, .slice none 0 0] w w') => show Calls _ _ #[_, .string ⟨#[116, 111]⟩] _ _ from word_ok h.1 (Nat.le_trans hB h.2.1.size) wTo h3)
  have C4 := hidE (fun w' (h : DfSt B r l3 en (.slice none 0 0) [] #[.int .i64 fr, .int .i64 0, .slice none 0 0] w w') => num_ok h.1 (Nat.le_trans hB h.2.1.size) 1099511627776 to2 h4)
  go_enter_defers Tryd.func16, Tryd.ntmps16
  go_wp2_with fail
  generalize World.alloc _ _ = w1 at *
  ((with_reducible refine (C1.out _ HS0.out).mono ?_); rintro e w2 ⟨rfl, hr, hk⟩)
  have hS := DfSt.step HS0.out hrl hr hk
  have HS1 := hidE hS; clear hr hk hS
  go_wp2_with fail
  ((with_reducible refine (C2.out _ HS1.out).mono ?_); rintro e w3 ⟨rfl, hr, hk⟩)
  have hS := DfSt.step HS1.out hrl hr hk
  have HS2 := hidE hS; clear hr hk hS
  have z := HS2.out.2.2.d.lt; have f := HS2.out.2.2.d.free; have c0 := HS2.out.2.2.d.cell 0; have c1 := HS2.out.2.2.d.cell 1; have c2 := HS2.out.2.2.d.cell 2
  simp at c0 c1 c2
  go_wp2_with fail
  clear z f c0 c1 c2
  ((with_reducible refine (C3.out _ (HS2.out.set (i := 0) (x := .int .i64 fr) (d' := #[.int .i64 fr, .int .i64 0, .slice none 0 0]) hrl hB hv rfl)).mono ?_); rintro e w4 ⟨rfl, hr, hk⟩)
  have hS := DfSt.step (HS2.out.set (i := 0) (x := .int .i64 fr) (d' := #[.int .i64 fr, .int .i64 0, .slice none 0 0]) hrl hB hv rfl) hrl hr hk
  have HS3 := hidE hS; clear hr hk hS
  go_wp2_with fail
  ((with_reducible refine (C4.out _ HS3.out).mono ?_); rintro e w5 ⟨rfl, hr, hk⟩)
  have hS := DfSt.step HS3.out hrl hr hk
  have HS4 := hidE hS; clear hr hk hS
  have z := HS4.out.2.2.d.lt; have f := HS4.out.2.2.d.free; have c0 := HS4.out.2.2.d.cell 0; have c1 := HS4.out.2.2.d.cell 1; have c2 := HS4.out.2.2.d.cell 2
  simp at c0 c1 c2
  go_wp2_with fail
  clear z f c0 c1 c2
  have St := (HS4.out.set (i := 1) (x := .int .i64 to2) (d' := #[.int .i64 fr, .int .i64 to2, .slice none 0 0]) hrl hB hv rfl)
  have HC := hidE (take_no St.1 (Nat.le_trans hB St.2.1.size) 4 4 rfl x h5)
  ((with_reducible refine HC.out.mono ?_); rintro e wx ⟨rfl, hk⟩)
  have hRes := St.2.2.k1 hk hrl
  have HB := hidE (St.2.1.k1 hk).1
  clear St hk
  go_wp2
  refine leaves_cons (f := 25) (args := #[.pointer (some ⟨w.heap.size, 0, none⟩), .pointer (some ⟨w.heap.size + 1, 0, none⟩), .pointer (some ⟨w.heap.size + 2, 0, none⟩)]) (by simp) (by simp [go_sem]) ?_
  refine (catch_panic w.heap.size _ _ _ _ _ [] _ hRes).mono ?_
  rintro e u' w'' ⟨rfl, rfl, b0, b1, b2, hb⟩
  have c0 := b0.cell 0; have c1 := b0.cell 1; have c2 := b0.cell 2; have c3 := b1.cell 0; have c4 := b2.cell 0
  simp at c0 c1 c2 c3 c4
  have HB2 := hidE (HB.out.trans (hb.mono hB))
  clear b0 b1 b2 hb hRes
  simp [Leaves, settle, results, Tryd.results16, go_sem, c0, c1, c2, c3, c4]
  exact ⟨rfl, HB2.out⟩
set_option maxRecDepth 100000 in
set_option maxHeartbeats 2000000 in
theorem def_e6 (B r en : Nat) (l : List Tok) (l1 : List Tok) (l2 : List Tok) (l3 : List Tok) (l4 : List Tok) (l5 : List Tok) (fr : Int) (to2 : Int) (t5 : Tok) (x : PErr) (w : World) (hB : B ≤ w.heap.size) (h : Rd B r l en 0 (.slice none 0 0) [] w) (h1 : takeW wFrom l = .ok l1) (h2 : numT 1099511627776 l1 = .ok (fr, l2)) (h3 : takeW wTo l2 = .ok l3) (h4 : numT 1099511627776 l3 = .ok (to2, l4)) (h5 : l4 = t5 :: l5 ∧ t5.kind = 4) (h6 : parS (l5.length + 1) 8 0 0 l5 = .error x) :
    Calls Tryd.prog 16 #[.pointer (some ⟨r, 0, none⟩)] w (DefOut B en w (.error x)) := by
  have hmf : ∀ (fn : Fn) (first cap : Array Value) (w : World), (Instr.makeFunc fn first cap).run Tryd.prog w = .ok (.func fn first cap) w := fun _ _ _ _ => rfl
  have hrl := rd_lt h
  have hv : (Value.slice none 0 0).ownBlock ≠ some w.heap.size := fun h => by simp [Value.ownBlock] at h
  obtain ⟨h5, ht5⟩ := h5
  subst h5
  have hS : DfSt B r l en (.slice none 0 0) [] #[.int .i64 0, .int .i64 0, .slice none 0 0] w (((w.alloc (.cells #[.int .i64 0, .int .i64 0, .slice none 0 0] 24)).alloc (.cells #[.int .i64 0] 3)).alloc (.cells #[.int .i64 0] 26)) :=
    ⟨((h.alloc hB _).alloc (by simp; omega) _).alloc (by simp; omega) _, ((((K1.refl B r w).alloc hB _).alloc hB _).alloc hB _).kp _, ((Blk.made _ _ _).alloc _).alloc _, (Blk.made_at _ _ _ _ (by simp)).alloc _, Blk.made_at _ _ _ _ (by simp)⟩
  have HS0 := hidE hS; clear hS h
  have C1 := hidE (fun w' (h : DfSt B r l en (.slice none 0 0) [] #[.int .i64 0, .int .i64 0, .slice none 0 0] w w') => show Calls _ _ #[_, .string ⟨#[102, 114, 111, 109]⟩] _ _ from word_ok h.1 (Nat.le_trans hB h.2.1.size) wFrom h1)
  have C2 := hidE (fun w' (h : DfSt B r l1 en (.slice none 0 0) [] #[.int .i64 0, .int .i64 0, .slice none 0 0] w w') => num_ok h.1 (Nat.le_trans hB h.2.1.size) 1099511627776 fr h2)
  have C3 := hidE (fun w' (h : DfSt B r l2 en (.slice none 0 0) [] #[.int .i64 fr, .int .i64 0, .slice none 0 0] w w') => show Calls _ _ #[_, .string ⟨#[116, 111]⟩] _ _ from word_ok h.1 (Nat.le_trans hB h.2.1.size) wTo h3)
  have C4 := hidE (fun w' (h : DfSt B r l3 en (.slice none 0 0) [] #[.int .i64 fr, .int .i64 0, .slice none 0 0] w w') => num_ok h.1 (Nat.le_trans hB h.2.1.size) 1099511627776 to2 h4)
  have C5 := hidE (fun w' (h : DfSt B r (t5 :: l5) en (.slice none 0 0) [] #[.int .i64 fr, .int .i64 to2, .slice none 0 0] w w') => (show Calls _ _ #[_, .int .u8 4] _ _ from take_ok h.1 (Nat.le_trans hB h.2.1.size) 4 (by have := ht5; omega)))
  go_enter_defers Tryd.func16, Tryd.ntmps16
  go_wp2_with fail
  generalize World.alloc _ _ = w1 at *
  ((with_reducible refine (C1.out _ HS0.out).mono ?_); rintro e w2 ⟨rfl, hr, hk⟩)
  have hS := DfSt.step HS0.out hrl hr hk
  have HS1 := hidE hS; clear hr hk hS
  go_wp2_with fail
  ((with_reducible refine (C2.out _ HS1.out).mono ?_); rintro e w3 ⟨rfl, hr, hk⟩)
  have hS := DfSt.step HS1.out hrl hr hk
  have HS2 := hidE hS; clear hr hk hS
  have z := HS2.out.2.2.d.lt; have f := HS2.out.2.2.d.free; have c0 := HS2.out.2.2.d.cell 0; have c1 := HS2.out.2.2.d.cell 1; have c2 := HS2.out.2.2.d.cell 2
  simp at c0 c1 c2
  go_wp2_with fail
  clear z f c0 c1 c2
  ((with_reducible refine (C3.out _ (HS2.out.set (i := 0) (x := .int .i64 fr) (d' := #[.int .i64 fr, .int .i64 0, .slice none 0 0]) hrl hB hv rfl)).mono ?_); rintro e w4 ⟨rfl, hr, hk⟩)
  have hS := DfSt.step (HS2.out.set (i := 0) (x := .int .i64 fr) (d' := #[.int .i64 fr, .int .i64 0, .slice none 0 0]) hrl hB hv rfl) hrl hr hk
  have HS3 := hidE hS; clear hr hk hS
  go_wp2_with fail
  ((with_reducible refine (C4.out _ HS3.out).mono ?_); rintro e w5 ⟨rfl, hr, hk⟩)
  have hS := DfSt.step HS3.out hrl hr hk
  have HS4 := hidE hS; clear hr hk hS
  have z := HS4.out.2.2.d.lt; have f := HS4.out.2.2.d.free; have c0 := HS4.out.2.2.d.cell 0; have c1 := HS4.out.2.2.d.cell 1; have c2 := HS4.out.2.2.d.cell 2
  simp at c0 c1 c2
  go_wp2_with fail
  clear z f c0 c1 c2
  ((with_reducible refine (C5.out _ (HS4.out.set (i := 1) (x := .int .i64 to2) (d' := #[.int .i64 fr, .int .i64 to2, .slice none 0 0]) hrl hB hv rfl)).mono ?_); rintro e w6 ⟨rfl, hr, hk⟩)
  have hS := DfSt.step (HS4.out.set (i := 1) (x := .int .i64 to2) (d' := #[.int .i64 fr, .int .i64 to2, .slice none 0 0]) hrl hB hv rfl) hrl hr hk
  have HS5 := hidE hS; clear hr hk hS
  go_wp2_with fail
  have St := HS5.out
  have HC := hidE (term_c (l5.length + 1) B r en 8 (.slice none 0 0) [] l5 _ (Nat.lt_succ_self _) (by omega) (by simp) (Nat.le_trans hB St.2.1.size) St.1)
  rw [show ([] : List Prt).length = 0 from rfl, h6] at HC
  ((with_reducible refine HC.out.mono ?_); rintro e wx ⟨rfl, hk⟩)
  have hRes : ResI w.heap.size #[.int .i64 fr, .int .i64 to2, .slice none 0 0] wx := ⟨hk.blk St.2.2.d (by omega) hv, hk.blk St.2.2.n (by omega) (fun h => by simp [Value.ownBlock] at h), hk.blk St.2.2.e (by omega) (fun h => by simp [Value.ownBlock] at h)⟩
  have HB := hidE (St.2.1.trans (Loc.refl _ _) hk).1
  clear St hk
  go_wp2
  refine leaves_cons (f := 25) (args := #[.pointer (some ⟨w.heap.size, 0, none⟩), .pointer (some ⟨w.heap.size + 1, 0, none⟩), .pointer (some ⟨w.heap.size + 2, 0, none⟩)]) (by simp) (by simp [go_sem]) ?_
  refine (catch_panic w.heap.size _ _ _ _ _ [] _ hRes).mono ?_
  rintro e u' w'' ⟨rfl, rfl, b0, b1, b2, hb⟩
  have c0 := b0.cell 0; have c1 := b0.cell 1; have c2 := b0.cell 2; have c3 := b1.cell 0; have c4 := b2.cell 0
  simp at c0 c1 c2 c3 c4
  have HB2 := hidE (HB.out.trans (hb.mono hB))
  clear b0 b1 b2 hb hRes
  simp [Leaves, settle, results, Tryd.results16, go_sem, c0, c1, c2, c3, c4]
  exact ⟨rfl, HB2.out⟩
set_option maxRecDepth 100000 in
set_option maxHeartbeats 2000000 in
theorem def_e7 (B r en : Nat) (l : List Tok) (l1 : List Tok) (l2 : List Tok) (l3 : List Tok) (l4 : List Tok) (l5 : List Tok) (l6 : List Tok) (l7 : List Tok) (fr : Int) (to2 : Int) (t5 : Tok) (t7 : Tok) (F : Fst) (w : World) (hB : B ≤ w.heap.size) (h : Rd B r l en 0 (.slice none 0 0) [] w) (h1 : takeW wFrom l = .ok l1) (h2 : numT 1099511627776 l1 = .ok (fr, l2)) (h3 : takeW wTo l2 = .ok l3) (h4 : numT 1099511627776 l3 = .ok (to2, l4)) (h5 : l4 = t5 :: l5 ∧ t5.kind = 4) (h6 : parS (l5.length + 1) 8 0 0 l5 = .ok (F, l6)) (h7 : l6 = t7 :: l7) :
    Calls Tryd.prog 16 #[.pointer (some ⟨r, 0, none⟩)] w (DefOut B en w (.error (70, some t7.pos))) := by
  have hmf : ∀ (fn : Fn) (first cap : Array Value) (w : World), (Instr.makeFunc fn first cap).run Tryd.prog w = .ok (.func fn first cap) w := fun _ _ _ _ => rfl
  have hrl := rd_lt h
  have hv : (Value.slice none 0 0).ownBlock ≠ some w.heap.size := fun h => by simp [Value.ownBlock] at h
  obtain ⟨h5, ht5⟩ := h5
  subst h5
  have hS : DfSt B r l en (.slice none 0 0) [] #[.int .i64 0, .int .i64 0, .slice none 0 0] w (((w.alloc (.cells #[.int .i64 0, .int .i64 0, .slice none 0 0] 24)).alloc (.cells #[.int .i64 0] 3)).alloc (.cells #[.int .i64 0] 26)) :=
    ⟨((h.alloc hB _).alloc (by simp; omega) _).alloc (by simp; omega) _, ((((K1.refl B r w).alloc hB _).alloc hB _).alloc hB _).kp _, ((Blk.made _ _ _).alloc _).alloc _, (Blk.made_at _ _ _ _ (by simp)).alloc _, Blk.made_at _ _ _ _ (by simp)⟩
  have HS0 := hidE hS; clear hS h
  have C1 := hidE (fun w' (h : DfSt B r l en (.slice none 0 0) [] #[.int .i64 0, .int .i64 0, .slice none 0 0] w w') => show Calls _ _ #[_, .string ⟨#[102, 114, 111, 109]⟩] _ _ from word_ok h.1 (Nat.le_trans hB h.2.1.size) wFrom h1)
  have C2 := hidE (fun w' (h : DfSt B r l1 en (.slice none 0 0) [] #[.int .i64 0, .int .i64 0, .slice none 0 0] w w') => num_ok h.1 (Nat.le_trans hB h.2.1.size) 1099511627776 fr h2)
  have C3 := hidE (fun w' (h : DfSt B r l2 en (.slice none 0 0) [] #[.int .i64 fr, .int .i64 0, .slice none 0 0] w w') => show Calls _ _ #[_, .string ⟨#[116, 111]⟩] _ _ from word_ok h.1 (Nat.le_trans hB h.2.1.size) wTo h3)
  have C4 := hidE (fun w' (h : DfSt B r l3 en (.slice none 0 0) [] #[.int .i64 fr, .int .i64 0, .slice none 0 0] w w') => num_ok h.1 (Nat.le_trans hB h.2.1.size) 1099511627776 to2 h4)
  have C5 := hidE (fun w' (h : DfSt B r (t5 :: l5) en (.slice none 0 0) [] #[.int .i64 fr, .int .i64 to2, .slice none 0 0] w w') => (show Calls _ _ #[_, .int .u8 4] _ _ from take_ok h.1 (Nat.le_trans hB h.2.1.size) 4 (by have := ht5; omega)))
  have C6 := hidE (fun w' (h : DfSt B r l5 en (.slice none 0 0) [] #[.int .i64 fr, .int .i64 to2, .slice none 0 0] w w') => term_c (l5.length + 1) B r en 8 (.slice none 0 0) [] l5 w' (Nat.lt_succ_self _) (by omega) (by simp) (Nat.le_trans hB h.2.1.size) h.1)
  rw [show ([] : List Prt).length = 0 from rfl, h6] at C6
  go_enter_defers Tryd.func16, Tryd.ntmps16
  go_wp2_with fail
  generalize World.alloc _ _ = w1 at *
  ((with_reducible refine (C1.out _ HS0.out).mono ?_); rintro e w2 ⟨rfl, hr, hk⟩)
  have hS := DfSt.step HS0.out hrl hr hk
  have HS1 := hidE hS; clear hr hk hS
  go_wp2_with fail
  ((with_reducible refine (C2.out _ HS1.out).mono ?_); rintro e w3 ⟨rfl, hr, hk⟩)
  have hS := DfSt.step HS1.out hrl hr hk
  have HS2 := hidE hS; clear hr hk hS
  have z := HS2.out.2.2.d.lt; have f := HS2.out.2.2.d.free; have c0 := HS2.out.2.2.d.cell 0; have c1 := HS2.out.2.2.d.cell 1; have c2 := HS2.out.2.2.d.cell 2
  simp at c0 c1 c2
  go_wp2_with fail
  clear z f c0 c1 c2
  ((with_reducible refine (C3.out _ (HS2.out.set (i := 0) (x := .int .i64 fr) (d' := #[.int .i64 fr, .int .i64 0, .slice none 0 0]) hrl hB hv rfl)).mono ?_); rintro e w4 ⟨rfl, hr, hk⟩)
  have hS := DfSt.step (HS2.out.set (i := 0) (x := .int .i64 fr) (d' := #[.int .i64 fr, .int .i64 0, .slice none 0 0]) hrl hB hv rfl) hrl hr hk
  have HS3 := hidE hS; clear hr hk hS
  go_wp2_with fail
  ((with_reducible refine (C4.out _ HS3.out).mono ?_); rintro e w5 ⟨rfl, hr, hk⟩)
  have hS := DfSt.step HS3.out hrl hr hk
  have HS4 := hidE hS; clear hr hk hS
  have z := HS4.out.2.2.d.lt; have f := HS4.out.2.2.d.free; have c0 := HS4.out.2.2.d.cell 0; have c1 := HS4.out.2.2.d.cell 1; have c2 := HS4.out.2.2.d.cell 2
  simp at c0 c1 c2
  go_wp2_with fail
  clear z f c0 c1 c2
  ((with_reducible refine (C5.out _ (HS4.out.set (i := 1) (x := .int .i64 to2) (d' := #[.int .i64 fr, .int .i64 to2, .slice none 0 0]) hrl hB hv rfl)).mono ?_); rintro e w6 ⟨rfl, hr, hk⟩)
  have hS := DfSt.step (HS4.out.set (i := 1) (x := .int .i64 to2) (d' := #[.int .i64 fr, .int .i64 to2, .slice none 0 0]) hrl hB hv rfl) hrl hr hk
  have HS5 := hidE hS; clear hr hk hS
  go_wp2_with fail
  have St := hidE (HS5.out)
  ((with_reducible refine (C6.out _ HS5.out).mono ?_); rintro e wx ⟨rfl, v', hr, hk, hl, hp⟩)
  simp only [List.nil_append] at hr hp
  have hRes : ResI w.heap.size #[.int .i64 fr, .int .i64 to2, .slice none 0 0] wx := ⟨hk.blk St.out.2.2.d (by omega) hv, hk.blk St.out.2.2.n (by omega) (fun h => by simp [Value.ownBlock] at h), hk.blk St.out.2.2.e (by omega) (fun h => by simp [Value.ownBlock] at h)⟩
  have HB := hidE (St.out.2.1.trans (Loc.refl _ _) hk).1
  have hloc : ∀ k, v'.ownBlock = some k → w.heap.size + 3 ≤ k := fun k e => by
    rcases hl with hl | hl
    · rw [hl] at e; simp [Value.ownBlock] at e
    · have := hl k e; have := St.out.2.2.e.lt; omega
  have HR := hidE hr; have HP := hidE hp; have HLOC := hidE hloc
  clear hr hk hl hp hloc
  subst h7
  have HC := hidE (nothing_no HR.out (Nat.le_trans hB HB.out.size))
  go_wp2_with fail
  ((with_reducible refine HC.out.mono ?_); rintro e wy ⟨rfl, rfl⟩)
  go_wp2
  refine leaves_cons (f := 25) (args := #[.pointer (some ⟨w.heap.size, 0, none⟩), .pointer (some ⟨w.heap.size + 1, 0, none⟩), .pointer (some ⟨w.heap.size + 2, 0, none⟩)]) (by simp) (by simp [go_sem]) ?_
  refine (catch_panic w.heap.size _ _ _ _ _ [] _ hRes).mono ?_
  rintro e u' w'' ⟨rfl, rfl, b0, b1, b2, hb⟩
  have c0 := b0.cell 0; have c1 := b0.cell 1; have c2 := b0.cell 2; have c3 := b1.cell 0; have c4 := b2.cell 0
  simp at c0 c1 c2 c3 c4
  have HB2 := hidE (HB.out.trans (hb.mono hB))
  clear b0 b1 b2 hb hRes
  simp [Leaves, settle, results, Tryd.results16, go_sem, c0, c1, c2, c3, c4]
  exact ⟨rfl, HB2.out⟩
set_option maxRecDepth 100000 in
set_option maxHeartbeats 2000000 in
theorem def_ok (B r en : Nat) (l : List Tok) (l1 : List Tok) (l2 : List Tok) (l3 : List Tok) (l4 : List Tok) (l5 : List Tok) (l6 : List Tok) (fr : Int) (to2 : Int) (t5 : Tok) (F : Fst) (w : World) (hB : B ≤ w.heap.size) (h : Rd B r l en 0 (.slice none 0 0) [] w) (h1 : takeW wFrom l = .ok l1) (h2 : numT 1099511627776 l1 = .ok (fr, l2)) (h3 : takeW wTo l2 = .ok l3) (h4 : numT 1099511627776 l3 = .ok (to2, l4)) (h5 : l4 = t5 :: l5 ∧ t5.kind = 4) (h6 : parS (l5.length + 1) 8 0 0 l5 = .ok (F, l6)) (h7 : l6 = []) :
    Calls Tryd.prog 16 #[.pointer (some ⟨r, 0, none⟩)] w (DefOut B en w (.ok (fr, to2, F))) := by
  have hmf : ∀ (fn : Fn) (first cap : Array Value) (w : World), (Instr.makeFunc fn first cap).run Tryd.prog w = .ok (.func fn first cap) w := fun _ _ _ _ => rfl
  have hrl := rd_lt h
  have hv : (Value.slice none 0 0).ownBlock ≠ some w.heap.size := fun h => by simp [Value.ownBlock] at h
  obtain ⟨h5, ht5⟩ := h5
  subst h5
  have hS : DfSt B r l en (.slice none 0 0) [] #[.int .i64 0, .int .i64 0, .slice none 0 0] w (((w.alloc (.cells #[.int .i64 0, .int .i64 0, .slice none 0 0] 24)).alloc (.cells #[.int .i64 0] 3)).alloc (.cells #[.int .i64 0] 26)) :=
    ⟨((h.alloc hB _).alloc (by simp; omega) _).alloc (by simp; omega) _, ((((K1.refl B r w).alloc hB _).alloc hB _).alloc hB _).kp _, ((Blk.made _ _ _).alloc _).alloc _, (Blk.made_at _ _ _ _ (by simp)).alloc _, Blk.made_at _ _ _ _ (by simp)⟩
  have HS0 := hidE hS; clear hS h
  have C1 := hidE (fun w' (h : DfSt B r l en (.slice none 0 0) [] #[.int .i64 0, .int .i64 0, .slice none 0 0] w w') => show Calls _ _ #[_, .string ⟨#[102, 114, 111, 109]⟩] _ _ from word_ok h.1 (Nat.le_trans hB h.2.1.size) wFrom h1)
  have C2 := hidE (fun w' (h : DfSt B r l1 en (.slice none 0 0) [] #[.int .i64 0, .int .i64 0, .slice none 0 0] w w') => num_ok h.1 (Nat.le_trans hB h.2.1.size) 1099511627776 fr h2)
  have C3 := hidE (fun w' (h : DfSt B r l2 en (.slice none 0 0) [] #[.int .i64 fr, .int .i64 0, .slice none 0 0] w w') => show Calls _ _ #[_, .string ⟨#[116, 111]⟩] _ _ from word_ok h.1 (Nat.le_trans hB h.2.1.size) wTo h3)
  have C4 := hidE (fun w' (h : DfSt B r l3 en (.slice none 0 0) [] #[.int .i64 fr, .int .i64 0, .slice none 0 0] w w') => num_ok h.1 (Nat.le_trans hB h.2.1.size) 1099511627776 to2 h4)
  have C5 := hidE (fun w' (h : DfSt B r (t5 :: l5) en (.slice none 0 0) [] #[.int .i64 fr, .int .i64 to2, .slice none 0 0] w w') => (show Calls _ _ #[_, .int .u8 4] _ _ from take_ok h.1 (Nat.le_trans hB h.2.1.size) 4 (by have := ht5; omega)))
  have C6 := hidE (fun w' (h : DfSt B r l5 en (.slice none 0 0) [] #[.int .i64 fr, .int .i64 to2, .slice none 0 0] w w') => term_c (l5.length + 1) B r en 8 (.slice none 0 0) [] l5 w' (Nat.lt_succ_self _) (by omega) (by simp) (Nat.le_trans hB h.2.1.size) h.1)
  rw [show ([] : List Prt).length = 0 from rfl, h6] at C6
  go_enter_defers Tryd.func16, Tryd.ntmps16
  go_wp2_with fail
  generalize World.alloc _ _ = w1 at *
  ((with_reducible refine (C1.out _ HS0.out).mono ?_); rintro e w2 ⟨rfl, hr, hk⟩)
  have hS := DfSt.step HS0.out hrl hr hk
  have HS1 := hidE hS; clear hr hk hS
  go_wp2_with fail
  ((with_reducible refine (C2.out _ HS1.out).mono ?_); rintro e w3 ⟨rfl, hr, hk⟩)
  have hS := DfSt.step HS1.out hrl hr hk
  have HS2 := hidE hS; clear hr hk hS
  have z := HS2.out.2.2.d.lt; have f := HS2.out.2.2.d.free; have c0 := HS2.out.2.2.d.cell 0; have c1 := HS2.out.2.2.d.cell 1; have c2 := HS2.out.2.2.d.cell 2
  simp at c0 c1 c2
  go_wp2_with fail
  clear z f c0 c1 c2
  ((with_reducible refine (C3.out _ (HS2.out.set (i := 0) (x := .int .i64 fr) (d' := #[.int .i64 fr, .int .i64 0, .slice none 0 0]) hrl hB hv rfl)).mono ?_); rintro e w4 ⟨rfl, hr, hk⟩)
  have hS := DfSt.step (HS2.out.set (i := 0) (x := .int .i64 fr) (d' := #[.int .i64 fr, .int .i64 0, .slice none 0 0]) hrl hB hv rfl) hrl hr hk
  have HS3 := hidE hS; clear hr hk hS
  go_wp2_with fail
  ((with_reducible refine (C4.out _ HS3.out).mono ?_); rintro e w5 ⟨rfl, hr, hk⟩)
  have hS := DfSt.step HS3.out hrl hr hk
  have HS4 := hidE hS; clear hr hk hS
  have z := HS4.out.2.2.d.lt; have f := HS4.out.2.2.d.free; have c0 := HS4.out.2.2.d.cell 0; have c1 := HS4.out.2.2.d.cell 1; have c2 := HS4.out.2.2.d.cell 2
  simp at c0 c1 c2
  go_wp2_with fail
  clear z f c0 c1 c2
  ((with_reducible refine (C5.out _ (HS4.out.set (i := 1) (x := .int .i64 to2) (d' := #[.int .i64 fr, .int .i64 to2, .slice none 0 0]) hrl hB hv rfl)).mono ?_); rintro e w6 ⟨rfl, hr, hk⟩)
  have hS := DfSt.step (HS4.out.set (i := 1) (x := .int .i64 to2) (d' := #[.int .i64 fr, .int .i64 to2, .slice none 0 0]) hrl hB hv rfl) hrl hr hk
  have HS5 := hidE hS; clear hr hk hS
  go_wp2_with fail
  have St := hidE (HS5.out)
  ((with_reducible refine (C6.out _ HS5.out).mono ?_); rintro e wx ⟨rfl, v', hr, hk, hl, hp⟩)
  simp only [List.nil_append] at hr hp
  have hRes : ResI w.heap.size #[.int .i64 fr, .int .i64 to2, .slice none 0 0] wx := ⟨hk.blk St.out.2.2.d (by omega) hv, hk.blk St.out.2.2.n (by omega) (fun h => by simp [Value.ownBlock] at h), hk.blk St.out.2.2.e (by omega) (fun h => by simp [Value.ownBlock] at h)⟩
  have HB := hidE (St.out.2.1.trans (Loc.refl _ _) hk).1
  have hloc : ∀ k, v'.ownBlock = some k → w.heap.size + 3 ≤ k := fun k e => by
    rcases hl with hl | hl
    · rw [hl] at e; simp [Value.ownBlock] at e
    · have := hl k e; have := St.out.2.2.e.lt; omega
  have HR := hidE hr; have HP := hidE hp; have HLOC := hidE hloc
  clear hr hk hl hp hloc
  subst h7
  have HC := hidE (nothing_ok HR.out)
  go_wp2_with fail
  ((with_reducible refine HC.out.mono ?_); rintro e wy ⟨rfl, rfl⟩)
  obtain ⟨a, cap, hI⟩ := HR.out
  obtain ⟨av, cv, rfl⟩ := own_sli hI.own
  have c3 := hI.blk.cell 3; have z3 := hI.blk.lt
  have d0 := hRes.d.cell 0; have d1 := hRes.d.cell 1; have d2 := hRes.d.cell 2; have n0 := hRes.n.cell 0; have e0 := hRes.e.cell 0
  have fd := hRes.d.free; have fn := hRes.n.free; have fe := hRes.e.free; have zd := hRes.d.lt; have zn := hRes.n.lt; have ze := hRes.e.lt
  simp at c3 d0 d1 d2 n0 e0
  have HI := hidE hI; have HRES := hidE hRes; clear hI hRes
  go_wp2
  have hown := HI.out.own
  have hkeep : ∀ (W : World) (k : Nat), (Value.slice av F.flat.length cv).ownBlock = some k → (((((W.setCell ⟨w.heap.size, 2, none⟩ (.slice av F.flat.length cv)).setCell ⟨w.heap.size, 0, none⟩ (.int .i64 fr)).setCell ⟨w.heap.size, 1, none⟩ (.int .i64 to2)).setCell ⟨w.heap.size, 2, none⟩ (.slice av F.flat.length cv)).setCell ⟨w.heap.size + 1, 0, none⟩ (.int .i64 0) |>.setCell ⟨w.heap.size + 2, 0, none⟩ (.int .i64 0)).heap[k]? = W.heap[k]? := fun W k e => by
    have := HLOC.out k e
    rw [keptS (by omega) _, keptS (by omega) _, keptS (by omega) _, keptS (by omega) _, keptS (by omega) _, keptS (by omega) _]
  have hown2 := own_kept hown (hkeep _)
  have hb0 := (((((HRES.out.d.set 2 (.slice av F.flat.length cv)).set 0 (.int .i64 fr)).set 1 (.int .i64 to2)).set 2 (.slice av F.flat.length cv)).other (b := w.heap.size + 1) (i := 0) (by omega) (.int .i64 0)).other (b := w.heap.size + 2) (i := 0) (by omega) (.int .i64 0)
  have hb1 := (((((HRES.out.n.other (b := w.heap.size) (i := 2) (by omega) (.slice av F.flat.length cv)).other (b := w.heap.size) (i := 0) (by omega) (.int .i64 fr)).other (b := w.heap.size) (i := 1) (by omega) (.int .i64 to2)).other (b := w.heap.size) (i := 2) (by omega) (.slice av F.flat.length cv)).set 0 (.int .i64 0)).other (b := w.heap.size + 2) (i := 0) (by omega) (.int .i64 0)
  have hb2 := (((((HRES.out.e.other (b := w.heap.size) (i := 2) (by omega) (.slice av F.flat.length cv)).other (b := w.heap.size) (i := 0) (by omega) (.int .i64 fr)).other (b := w.heap.size) (i := 1) (by omega) (.int .i64 to2)).other (b := w.heap.size) (i := 2) (by omega) (.slice av F.flat.length cv)).other (b := w.heap.size + 1) (i := 0) (by omega) (.int .i64 0)).set 0 (.int .i64 0)
  have hbw := (((((HB.out.setCell (p := ⟨w.heap.size, 2, none⟩) hB (.slice av F.flat.length cv)).setCell (p := ⟨w.heap.size, 0, none⟩) hB (.int .i64 fr)).setCell (p := ⟨w.heap.size, 1, none⟩) hB (.int .i64 to2)).setCell (p := ⟨w.heap.size, 2, none⟩) hB (.slice av F.flat.length cv)).setCell (p := ⟨w.heap.size + 1, 0, none⟩) (Nat.le_succ_of_le hB) (.int .i64 0)).setCell (p := ⟨w.heap.size + 2, 0, none⟩) (Nat.le_succ_of_le (Nat.le_succ_of_le hB)) (.int .i64 0)
  clear hkeep hown c3 z3 d0 d1 d2 n0 e0 fd fn fe zd zn ze HI HRES HB
  refine leaves_cons (f := 25) (args := #[.pointer (some ⟨w.heap.size, 0, none⟩), .pointer (some ⟨w.heap.size + 1, 0, none⟩), .pointer (some ⟨w.heap.size + 2, 0, none⟩)]) (by simp) (by simp [go_sem]) ?_
  rw [show w.heap.size + 1 + 1 = w.heap.size + 2 from rfl]
  generalize World.setCell _ ⟨w.heap.size + 2, 0, none⟩ (.int .i64 0) = w9 at *
  refine (catch_idle w.heap.size w9).mono ?_
  rintro e u' w'' ⟨rfl, rfl, hb⟩
  have b0 := hb0.past hb; have b1 := hb1.past hb; have b2 := hb2.past hb
  have hbB := hbw.trans (hb.mono (Nat.le_trans hB hbw.size))
  obtain ⟨a9, cap9, h91, h92, h93, h94⟩ := sliP_own (own_below hown2 hb)
  cases h91
  have c0 := b0.cell 0; have c1 := b0.cell 1; have c2 := b0.cell 2; have c3 := b1.cell 0; have c4 := b2.cell 0
  simp at c0 c1 c2 c3 c4
  clear b0 b1 b2 hb0 hb1 hb2 hb hown2 hbw
  have H9 := hidE (And.intro h92 (And.intro h93 (And.intro h94 hbB)))
  clear h92 h93 h94 hbB
  simp [Leaves, settle, results, Tryd.results16, go_sem, c0, c1, c2, c3, c4]
  exact ⟨_, _, rfl, H9.out⟩
end Go.Proofs.YtaeipfnpglbooaaDoor

namespace Go.Proofs.YtaeipfnpglbooaaDoor
open Go.ChangeShapes Go.WideShapes Go.ChangeAt Go.RowKit
attribute [local irreducible] Go.Calls

theorem def_c (B r en : Nat) (l : List Tok) (w : World) (hB : B ≤ w.heap.size) (h : Rd B r l en 0 (.slice none 0 0) [] w) :
    Calls Tryd.prog 16 #[.pointer (some ⟨r, 0, none⟩)] w (DefOut B en w (defP l)) := by
  unfold defP
  cases h1 : takeW wFrom l with
  | error x => exact def_e1 B r en l x w hB h h1
  | ok l1 =>
    simp only
    cases h2 : numT 1099511627776 l1 with
    | error x => exact def_e2 B r en l l1 x w hB h h1 h2
    | ok p =>
      obtain ⟨fr, l2⟩ := p
      simp only
      cases h3 : takeW wTo l2 with
      | error x => exact def_e3 B r en l l1 l2 fr x w hB h h1 h2 h3
      | ok l3 =>
        simp only
        cases h4 : numT 1099511627776 l3 with
        | error x => exact def_e4 B r en l l1 l2 l3 fr x w hB h h1 h2 h3 h4
        | ok q =>
          obtain ⟨to2, l4⟩ := q
          simp only
          cases h5 : takeT 4 l4 with
          | error x => exact def_e5 B r en l l1 l2 l3 l4 fr to2 x w hB h h1 h2 h3 h4 h5
          | ok l5 =>
            simp only
            obtain ⟨t5, rfl⟩ := takeT_ok h5
            have ht5 : t5.kind = 4 := by
              rw [takeT_cons] at h5
              by_cases c : t5.kind = 4
              · exact c
              · rw [if_neg c] at h5; cases h5
            cases h6 : parS (l5.length + 1) 8 0 0 l5 with
            | error x => exact def_e6 B r en l l1 l2 l3 _ l5 fr to2 t5 x w hB h h1 h2 h3 h4 ⟨rfl, ht5⟩ h6
            | ok y =>
              obtain ⟨F, l6⟩ := y
              simp only
              cases l6 with
              | nil => exact def_ok B r en l l1 l2 l3 _ l5 [] fr to2 t5 F w hB h h1 h2 h3 h4 ⟨rfl, ht5⟩ h6 rfl
              | cons t7 l7 => exact def_e7 B r en l l1 l2 l3 _ l5 (t7 :: l7) l7 fr to2 t5 t7 F w hB h h1 h2 h3 h4 ⟨rfl, ht5⟩ h6 rfl
theorem defOut_par {B en : Nat} {w w' : World} {R : Except PErr (Int × Int × Fst)} {e : Ending} {r : Df × Nat × Int} (hr : r = match R with | .ok r => (⟨r.1, r.2.1, r.2.2.flat⟩, 0, 0) | .error e => (df0, e.2.getD en, e.1)) (h : DefOut B en w R e w') :
    ∃ (a : Option Addr) (cap : Nat), e = .returned (.tuple #[defV r.1.fr r.1.to' a r.1.T.length cap, .int .i64 r.2.1, .int .i64 r.2.2]) ∧ r.1.T.length ≤ cap ∧ cap ≤ 9223372036854775807 ∧ ArgP w' a r.1.T ∧ Below B w w' := by
  subst hr
  cases R with
  | ok p =>
    obtain ⟨a, cap, h1, h2, h3, h4, h5⟩ := h
    exact ⟨a, cap, h1, h2, h3, h4, h5⟩
  | error x =>
    obtain ⟨h1, h2⟩ := h
    exact ⟨none, 0, h1, Nat.le_refl _, by omega, fun h => absurd h (Nat.lt_irrefl 0), h2⟩
theorem cellsP_block {w w' : World} {b off : Nat} {l : List Prt} (h : CellsP w b off l) (hb : w'.heap[b]? = w.heap[b]?) : CellsP w' b off l := fun i hi => by
  have e : ∀ o, w'.cell? ⟨b, o, none⟩ = w.cell? ⟨b, o, none⟩ := fun o => World.cell?_of_block hb
  rw [e, e, e, e, e]
  exact h i hi
set_option maxRecDepth 100000 in
set_option maxHeartbeats 1000000 in
theorem parse_c (s : List UInt8) (w : World) (hs : s.length ≤ 9223372036854775807) (hT : Tab w) : Calls Tryd.prog 7 #[strV s] w (ParIs w (parseS s).1 (parseS s).2.1 (parseS s).2.2) := by
  have slen : (⟨s.toArray⟩ : ByteArray).size = s.length := by simp [ByteArray.size]
  have HL := hidE (fun w => lex_c s w hs)
  have HT := hidE hT.2; clear hT
  by_cases hok : 4096 < s.length ∨ ∃ p, lexG 0 s = .error p
  · obtain ⟨p, er, h1, h2, h3⟩ : ∃ (p : Nat) (er : Int), lexS s = ([], p, er) ∧ parseS s = (df0, p, er) ∧ er ≠ 0 := by
      rcases hok with h | ⟨p, h⟩
      · exact ⟨0, 3, by unfold lexS; rw [if_pos h], by unfold parseS; rw [if_pos h], by decide⟩
      · by_cases c : 4096 < s.length
        · exact ⟨0, 3, by unfold lexS; rw [if_pos c], by unfold parseS; rw [if_pos c], by decide⟩
        · exact ⟨p, 60, by unfold lexS; rw [if_neg c, h], by unfold parseS; rw [if_neg c, h], by decide⟩
    rw [h2]
    rw [h1] at HL
    simp only at HL
    have q : (er != 0) = true := bne_iff_ne.2 h3
    clear h1 h2 hok
    go_enter Tryd.func7, Tryd.ntmps7
    go_wp2_with fail
    ((with_reducible refine (HL.out _).mono ?_); rintro e w1 ⟨v, rfl, ⟨a, cap, rfl, _, _, _⟩, hb1⟩)
    have b0 := (Blk.made w #[.int .i64 0, .int .i64 0, .slice none 0 0] 24).past hb1
    have d0 := b0.cell 0; have d1 := b0.cell 1; have d2 := b0.cell 2; have z := b0.lt; have f := b0.free
    simp at d0 d1 d2
    have HB := hidE (show Below w.heap.size w w1 by (repeat (first | exact Below.refl _ _ | assumption | refine balloc ?_ _ | refine below_drewN ?_ _ | refine bstep (by assumption) ?_ | refine bstep (Past.prop _) ?_ | refine Below.setCell ?_ (by first | exact Nat.le_refl _ | (simp; done) | (simp; omega)) _)))
    clear hb1 b0
    go_wp2
    refine bodyPost_ret (v := .tuple #[defV 0 0 none 0 0, .int .i64 p, .int .i64 er]) (by simp [results, Tryd.results7, go_sem, *]) rfl ⟨none, 0, rfl, Nat.le_refl _, by omega, fun h => absurd h (by decide), ?_⟩
    have := HB.out
    (repeat (first | exact Below.refl _ _ | assumption | refine balloc ?_ _ | refine below_drewN ?_ _ | refine bstep (by assumption) ?_ | refine bstep (Past.prop _) ?_ | refine Below.setCell ?_ (by first | exact Nat.le_refl _ | (simp; done) | (simp; omega)) _))
  · have hlen : ¬ 4096 < s.length := fun h => hok (.inl h)
    cases hl : lexG 0 s with
    | error p => exact absurd (.inr ⟨p, hl⟩) hok
    | ok l =>
      have h1 : lexS s = (l, 0, 0) := by unfold lexS; rw [if_neg hlen, hl]
      have h2 : parseS s = match defP l with | .ok r => (⟨r.1, r.2.1, r.2.2.flat⟩, 0, 0) | .error e => (df0, e.2.getD s.length, e.1) := by unfold parseS; rw [if_neg hlen, hl]; rfl
      rw [h1] at HL
      simp only at HL
      have HNN := hidE (num_nonneg hl)
      have HP := hidE h2
      clear h1 h2 hok hl
      go_enter Tryd.func7, Tryd.ntmps7
      go_wp2_with fail
      ((with_reducible refine (HL.out _).mono ?_); rintro e w1 ⟨v, rfl, ⟨a, cap, rfl, hc1, hc2, hA⟩, hb1⟩)
      have b0 := (Blk.made w #[.int .i64 0, .int .i64 0, .slice none 0 0] 24).past hb1
      have HB0 := hidE b0
      have HB := hidE (show Below w.heap.size w w1 by (repeat (first | exact Below.refl _ _ | assumption | refine balloc ?_ _ | refine below_drewN ?_ _ | refine bstep (by assumption) ?_ | refine bstep (Past.prop _) ?_ | refine Below.setCell ?_ (by first | exact Nat.le_refl _ | (simp; done) | (simp; omega)) _)))
      have hrd : Rd w1.heap.size w1.heap.size l s.length 0 (.slice none 0 0) [] (w1.alloc (.cells #[.slice a l.length cap, .int .i64 s.length, .int .i64 0, .slice none 0 0] 48)) := by
        have hw1 : WordsAre w1 := HT.out.past HB.out
        refine ⟨a, cap, Blk.made _ _ _, fun h0 => ?_, hc1, hc2, World.ownsRow_nil _ _ _ _, Nat.le_refl _, hw1.past (balloc (Below.refl _ _) _), hw1.lt, HNN.out⟩
        obtain ⟨b, off, rfl, hb, hc⟩ := hA h0
        exact ⟨b, off, rfl, hb, hc.below (balloc (Below.refl w1.heap.size w1) _) hb⟩
      have HD := hidE (def_c w1.heap.size w1.heap.size s.length l _ (by simp) hrd)
      clear hrd hA hb1 b0 HNN HT
      go_wp2_with fail
      ((with_reducible refine HD.out.mono ?_); rintro e w2 hpost)
      obtain ⟨a2, cap2, rfl, g1, g2, g3, g4⟩ := defOut_par HP.out hpost
      have hb2 : Below w1.heap.size w1 w2 := ((Below.refl w1.heap.size w1).alloc (Nat.le_refl _) _).trans g4
      have b0 := HB0.out.past hb2
      have d0 := b0.cell 0; have d1 := b0.cell 1; have d2 := b0.cell 2; have z := b0.lt; have f := b0.free
      simp at d0 d1 d2
      have hbw : Below w.heap.size w w2 := HB.out.trans (hb2.mono HB.out.size)
      have HB2 := hidE b0
      have G := hidE (And.intro g1 (And.intro g2 (And.intro g3 hbw)))
      clear hpost g1 g2 g3 g4 hb2 b0 HD HB HB0 HP hbw
      generalize parseS s = r at *
      obtain ⟨⟨fr, to2, T⟩, p, er⟩ := r
      simp only at G
      go_wp2
      refine bodyPost_ret (v := .tuple #[defV fr to2 a2 T.length cap2, .int .i64 p, .int .i64 er]) (by simp [results, Tryd.results7, go_sem, *]) rfl ⟨a2, cap2, rfl, G.out.1, G.out.2.1, ?_, ?_⟩
      · intro h0
        obtain ⟨b, off, rfl, hb, hc⟩ := G.out.2.2.1 h0
        have hne : b ≠ w.heap.size := by
          intro e
          subst e
          have h1 := (hc 0 h0).1
          rw [HB2.out.cell] at h1
          generalize off + 0 * 5 = o at h1
          match o, h1 with
          | 0, h1 => simp at h1
          | 1, h1 => simp at h1
          | 2, h1 => simp at h1
          | o + 3, h1 => simp at h1
        exact ⟨b, off, rfl, by simpa using hb, cellsP_block hc (by rw [keptS hne, keptS hne, keptS hne])⟩
      · have := G.out.2.2.2
        (repeat (first | exact Below.refl _ _ | assumption | refine balloc ?_ _ | refine below_drewN ?_ _ | refine bstep (by assumption) ?_ | refine bstep (Past.prop _) ?_ | refine Below.setCell ?_ (by first | exact Nat.le_refl _ | (simp; done) | (simp; omega)) _))
end Go.Proofs.YtaeipfnpglbooaaDoor
