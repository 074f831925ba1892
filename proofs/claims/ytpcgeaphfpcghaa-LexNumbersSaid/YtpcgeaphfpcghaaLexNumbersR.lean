/- The numbers of the statement on numbers: what is left of them, and their text, one by one. No program. No conditions. The walk of the statement on numbers. No conditions but that the slice's cells read as numbers of 64 bits. LexNumbers: for every list of numbers the statement's function answers true and leaves its arguments alone. No conditions. -/
import Derived.Test.YtpcgeaphfpcghaaLMA
import Derived.Test.YtpcgeaphfpcghaaLGB
import Derived.Test.YtpcgeaphfpcghaaLGA
namespace Go.Proofs.Ytpcgeaphfpcghaa

theorem dig_len10 : ∀ (k n : Nat), 0 < k → n < 10 ^ k → (digG n).length ≤ k
  | 0, _, h, _ => by omega
  | k + 1, n, _, h => by
    by_cases c : n < 10
    · rw [digG, if_pos c]; simp
    · rw [digG, if_neg c, List.length_append]
      have hk : 0 < k := by
        cases k with
        | zero => simp at h; omega
        | succ k => omega
      have h1 : n / 10 < 10 ^ k := by
        rw [Nat.pow_succ] at h
        omega
      have := dig_len10 k (n / 10) hk h1
      simp only [List.length_cons, List.length_nil]
      omega
theorem dig_len13 {n : Nat} (h : n ≤ 1099511627777) : (digG n).length ≤ 13 := dig_len10 13 n (by omega) (by omega)
/-- The number of the i-th integer. -/
def nuL (L : List Int) : List Nat := L.map fun z => (z % 1099511627777).toNat
def nuA (L : List Int) (i : Nat) : Nat := (L.getD i 0 % 1099511627777).toNat
theorem nuL_len (L : List Int) : (nuL L).length = L.length := by unfold nuL; simp
theorem nuA_le (L : List Int) (i : Nat) : nuA L i ≤ 1099511627776 := by
  unfold nuA
  have := Int.emod_lt_of_pos (L.getD i 0) (show (0 : Int) < 1099511627777 by omega)
  omega
theorem nuL_get {L : List Int} {i : Nat} (h : i < L.length) : (nuL L)[i]? = some (nuA L i) := by
  unfold nuL nuA
  rw [List.getElem?_map, List.getElem?_eq_getElem h, List.getD_eq_getElem?_getD, List.getElem?_eq_getElem h]
  rfl
theorem nuL_take {L : List Int} {i : Nat} (h : i < L.length) : (nuL L).take (i + 1) = (nuL L).take i ++ [nuA L i] := by
  rw [List.take_add_one, nuL_get h]
  rfl
theorem nums_take {L : List Int} {i : Nat} (h : i < L.length) : numsG ((nuL L).take (i + 1)) = numsG ((nuL L).take i) ++ digG (nuA L i) ++ [32] := by
  rw [nuL_take h]
  unfold numsG
  rw [List.flatMap_append]
  simp
theorem nums_len : ∀ (l : List Nat), (∀ n ∈ l, n ≤ 1099511627776) → (numsG l).length ≤ 14 * l.length
  | [], _ => by simp [numsG]
  | n :: l, h => by
    have ih := nums_len l fun x hx => h x (List.mem_cons_of_mem _ hx)
    have h1 := dig_len13 (n := n) (by have := h n (by simp); omega)
    unfold numsG at ih ⊢
    rw [List.flatMap_cons]
    simp only [List.length_append, List.length_cons, List.length_nil]
    omega
theorem nuL_mem {L : List Int} {n : Nat} (h : n ∈ nuL L) : n ≤ 1099511627776 := by
  unfold nuL at h
  obtain ⟨z, _, rfl⟩ := List.mem_map.1 h
  have := Int.emod_lt_of_pos z (show (0 : Int) < 1099511627777 by omega)
  omega
theorem nums_take_len (L : List Int) (i : Nat) : (numsG ((nuL L).take i)).length ≤ 14 * i := by
  have := nums_len ((nuL L).take i) fun n hn => nuL_mem (List.mem_of_mem_take hn)
  have h2 : ((nuL L).take i).length ≤ i := by rw [List.length_take]; omega
  omega
theorem nums_lex (L : List Int) : lexG 0 (numsG (nuL L)) = .ok (ntoks 0 (nuL L)) := lex_nums _ 0 fun _n hn => nuL_mem hn
theorem ntoks_at {L : List Int} {i : Nat} (h : i < L.length) : ((ntoks 0 (nuL L)).getD i ⟨0, [], 0, 0⟩).kind = 1 ∧ ((ntoks 0 (nuL L)).getD i ⟨0, [], 0, 0⟩).num = nuA L i := by
  have hl : i < (ntoks 0 (nuL L)).length := by rw [ntoks_len, nuL_len]; exact h
  have e : (ntoks 0 (nuL L))[i]? = some ((ntoks 0 (nuL L)).getD i ⟨0, [], 0, 0⟩) := by
    rw [List.getD_eq_getElem?_getD, List.getElem?_eq_getElem hl]; rfl
  obtain ⟨h1, n, h2, h3⟩ := ntoks_get _ _ _ _ e
  rw [nuL_get h] at h2
  cases h2
  exact ⟨h1, h3⟩
end Go.Proofs.Ytpcgeaphfpcghaa

namespace Go.Proofs.Ytpcgeaphfpcghaa
open Go.ChangeShapes Go.WideShapes Go.ChangeAt Go.RowKit
attribute [local irreducible] Go.Calls

theorem Try.infoI64L : (Try.prog.info? 2).map (fun i => (i.zero, i.size, i.bytes)) = some (some (.int .i64 0), 1, 8) := by kernel_rfl
theorem nown_sli {A : World} {β sz n : Nat} {e : TypeId} {v : Value} {xs : List Value} (h : A.ownsRow β e sz v n xs) : ∃ a cap, v = .slice a n cap := by
  obtain ⟨h1, h2 | ⟨g, cap, cur, h3, h4, h5, h6⟩⟩ := h
  · exact ⟨none, 0, by rw [h2.1, h2.2]⟩
  · exact ⟨_, cap, h3⟩
theorem nown_nil {A : World} (β sz : Nat) (e : TypeId) : A.ownsRow β e sz (.slice none 0 0) 0 [] := ⟨by simp, .inl ⟨rfl, rfl⟩⟩
theorem nown_block {w : World} {B : Nat} {e : TypeId} {sz : Nat} {v : Value} {n : Nat} {xs : List Value} (h : w.ownsRow B e sz v n xs) {k : Nat} (hk : v.ownBlock = some k) : B ≤ k := by
  obtain ⟨h1, h2 | ⟨g, cap, cur, h3, h4, h5, h6⟩⟩ := h
  · rw [h2.1] at hk; simp [Value.ownBlock] at hk
  · rw [h3] at hk; simp [Value.ownBlock] at hk; omega
theorem nown_below {w w' : World} {B : Nat} {e : TypeId} {sz : Nat} {v : Value} {n : Nat} {xs : List Value} (h : w.ownsRow B e sz v n xs) (hb : Below w.heap.size w w') : w'.ownsRow B e sz v n xs := by
  obtain ⟨h1, h2 | ⟨g, cap, cur, h3, h4, h5, h6⟩⟩ := h
  · exact ⟨h1, .inl h2⟩
  · exact ⟨h1, .inr ⟨g, cap, cur, h3, h4, (hb.block g (lt_of_block h5)).trans h5, h6⟩⟩
theorem num_dig {n : Nat} (h : n ≤ 1099511627776) : numS (digG n) = ((n : Int), true) := by
  unfold numS
  rw [if_pos (dig_num h), (dig_facts n n (Nat.le_refl _)).1]
theorem num_zero (n : Nat) : numS (48 :: digG n) = (0, false) := by
  unfold numS
  rw [if_neg (by rw [dig_zero]; decide)]
theorem num_far : numS (digG 1099511627777) = (0, false) := by
  unfold numS
  rw [if_neg (by rw [dig_far (by omega)]; decide)]
/-- The wanted numbers, up to a place. -/
def wantI (L : List Int) (i : Nat) : List Int := ((nuL L).take i).map fun (n : Nat) => (n : Int)
theorem wantI_len {L : List Int} {i : Nat} (h : i ≤ L.length) : (wantI L i).length = i := by unfold wantI; rw [List.length_map, List.length_take, nuL_len]; omega
theorem wantI_succ {L : List Int} {i : Nat} (h : i < L.length) : wantI L (i + 1) = wantI L i ++ [(nuA L i : Int)] := by unfold wantI; rw [nuL_take h, List.map_append]; rfl
theorem wantI_get {L : List Int} {i : Nat} (h : i < L.length) : (wantI L L.length).getD i 0 = (nuA L i : Int) := by
  unfold wantI
  rw [List.take_of_length_le (by rw [nuL_len]; exact Nat.le_refl _), List.getD_eq_getElem?_getD, List.getElem?_map, nuL_get h]
  rfl

set_option maxHeartbeats 2000000 in
theorem lnum_walk (L : List Int) (a : Option Addr) (cap : Nat) (W : World) (hl : L.length ≤ 9223372036854775807) (hz : ∀ z ∈ L, 0 ≤ z ∧ z ≤ 18446744073709551615) (hA : ArgK .u64 W a L) :
    Calls Try.prog 5 #[.slice a L.length cap] W fun e w' => e = .returned (.bool true) ∧ Below W.heap.size W w' := by
  have HH := hidE (fun w => head_c w)
  have HA := hidE hA
  clear hA
  by_cases h40 : 40 < L.length
  · have e1 : decide ((40 : Int) < (L.length : Int)) = true := decide_eq_true (by omega)
    have e2 : decide (40 < L.length) = true := decide_eq_true h40
    go_enter Try.func5, Try.ntmps5
    go_wp2_with fail
    ((with_reducible refine (HH.out _).mono ?_); rintro e w1 ⟨rfl, hb1⟩)
    go_wp2
    go_ret
    exact ⟨rfl, hb1⟩
  have e1 : decide ((40 : Int) < (L.length : Int)) = false := decide_eq_false (by omega)
  have e2 : decide (40 < L.length) = false := decide_eq_false h40
  have HZ := hidE hz
  clear hz
  obtain ⟨ix, hix, hz0, hzz, hz4⟩ := info_parts Try.infoI64L
  have HI := hidE hix; have HZ0 := hidE hz0; have HZ1 := hidE hzz; have HZ2 := hidE hz4
  clear hix hz0 hzz hz4
  go_enter Try.func5, Try.ntmps5
  go_wp2
  go_loopg [3, 4, 5] L.length (fun gh v3 v4 v5 wr => ∃ i : Nat, i ≤ L.length ∧ L.length - i ≤ gh ∧ v5 = .int .i64 i ∧ v3 = strV (numsG ((nuL L).take i)) ∧ wr.ownsRow W.heap.size 2 1 v4 i (cellsK .i64 (wantI L i)) ∧ Below W.heap.size W wr)
  case atStart => exact ⟨0, Nat.zero_le _, Nat.le_refl _, rfl, rfl, show W.ownsRow W.heap.size 2 1 _ 0 [] from nown_nil _ _ _, Below.refl _ _⟩
  case round =>
    obtain ⟨i, hi, hgh, rfl, rfl, hown, hb⟩ := hrel
    obtain ⟨av, cp, rfl⟩ := nown_sli hown
    have HB := hidE hb; have HO := hidE hown; have HG := hidE hgh
    have hws := hb.size
    clear hown hb hgh
    obtain ⟨wo, hwo⟩ : ∃ wo : World, wo = wr := ⟨_, rfl⟩
    by_cases hlt : i < L.length
    · obtain ⟨b, off, rfl, hbb, hc⟩ := (HA.out.past HB.out) (by omega)
      have c0 := hc i hlt
      have q1 : decide (i < L.length) = true := decide_eq_true hlt
      have q2 : decide ((i : Int) < (L.length : Int)) = true := decide_eq_true (by omega)
      have hzi := HZ.out _ (List.getElem_mem hlt)
      rw [← kgetD _ _ hlt] at hzi
      have hr0 : (L.getD i 0).tmod 1099511627777 = (nuA L i : Int) := by
        unfold nuA
        rw [Int.tmod_eq_emod_of_nonneg hzi.1]
        have := Int.emod_nonneg (L.getD i 0) (show (1099511627777 : Int) ≠ 0 by omega)
        omega
      have hn := nuA_le L i
      have HWS := hidE (wantI_succ hlt)
      have HNT := hidE (nums_take hlt)
      have hnl := nums_take_len L i
      clear hc
      generalize nuA L i = n at *
      generalize L.getD i 0 = z at *
      generalize numsG ((nuL L).take i) = S at *
      go_wp2_with (first | (at_builtin; refine wpList_append_own _ rfl (.tmp 34) (.tmp 36) 36 rfl W.heap.size 2 ix (.int .i64 0) 1 8 Try.underlying36 HI.out HZ0.out HZ1.out HZ2.out rfl (by decide) _ _ _ rfl (nown_below HO.out ((Below.refl _ _).alloc (Nat.le_refl _) _)) ⟨_, 0, none⟩ 1 1 [.int .i64 n] rfl rfl (new_cellsT _ #[.int .i64 n] 2) (by intro y hy; simp at hy; rcases hy with rfl; rfl) (by unfold maxLen; omega) (by omega) (by simp; omega) ?_; intro v4 w4 hown4 hgrow4 hnil4; obtain ⟨a4, c4, rfl⟩ := nown_sli hown4; have HG4 := hidE hgrow4; have HO4 := hidE hown4; clear hgrow4 hown4 hnil4 c0) | fail)
      have hz4 : wr.heap.size ≤ w4.heap.size := by have := HG4.out.size; simp at this; omega
      have HB4 := hidE (show Below W.heap.size W w4 from HB.out.trans (Below.grown ((Below.refl _ wr).alloc (by omega) _) HG4.out (by simp; omega) (fun k e => nown_block HO.out (show (Value.slice av i cp).ownBlock = some k from e))))
      clear HG4 HB HO
      have hd13 := dig_len13 (n := n) (by omega)
      have ND := hidE (num_dig hn); have NZ := hidE (num_zero n); have WD := hidE (dig_word n)
      have HD := hidE (fun w => ldigits_c n n w (Nat.le_refl _) (by omega))
      generalize digG n = D at *
      have HN1 := hidE (fun w => num_c D w (by omega)); have HN2 := hidE (fun w => num_c (48 :: D) w (by simp; omega)); have HW := hidE (fun w => word_c D w (by omega))
      rw [ND.out] at HN1; rw [NZ.out] at HN2; rw [WD.out] at HW
      have A1 := fun w => str_add w [48] D (by simp; omega)
      have A2 := fun w => str_add w S D (by omega)
      have A3 := fun w => str_add w (S ++ D) [32] (by simp; omega)
      simp only [List.cons_append, List.nil_append] at A1
      go_wp2_with fail
      ((with_reducible refine (HD.out _).mono ?_); rintro e w5 ⟨rfl, hb5⟩)
      have HO5 := hidE (nown_below HO4.out hb5)
      have HB5 := hidE (HB4.out.trans (hb5.mono HB4.out.size))
      clear hb5 HO4 HB4
      go_wp2_with fail
      ((with_reducible refine (HN1.out _).mono ?_); rintro e w6 ⟨rfl, hb6⟩)
      have HO6 := hidE (nown_below HO5.out hb6)
      have HB6 := hidE (HB5.out.trans (hb6.mono HB5.out.size))
      clear hb6 HO5 HB5
      go_wp2_with fail
      ((with_reducible refine (HN2.out _).mono ?_); rintro e w7 ⟨rfl, hb7⟩)
      have HO7 := hidE (nown_below HO6.out hb7)
      have HB7 := hidE (HB6.out.trans (hb7.mono HB6.out.size))
      clear hb7 HO6 HB6
      go_wp2_with fail
      ((with_reducible refine (HW.out _).mono ?_); rintro e w8 ⟨rfl, hb8⟩)
      have HO8 := hidE (nown_below HO7.out hb8)
      have HB8 := hidE (HB7.out.trans (hb8.mono HB7.out.size))
      clear hb8 HO7 HB7
      go_wp2
      go_roundg (L.length - (i + 1))
      case measure => have := HG.out; omega
      case rel =>
        refine ⟨i + 1, by omega, Nat.le_refl _, by go_num, ?_, ?_, HB8.out⟩
        · rw [HNT.out, List.append_assoc]
        · rw [HWS.out, cellsK_app]; exact HO8.out
    · obtain rfl : i = L.length := by omega
      have q1 : decide (L.length < L.length) = false := decide_eq_false (by omega)
      have HS := hidE (show numsG ((nuL L).take L.length) = numsG (nuL L) by rw [List.take_of_length_le (by rw [nuL_len]; exact Nat.le_refl _)])
      have hsl := nums_take_len L L.length
      rw [HS.out] at hsl
      rw [HS.out]
      have HLX := hidE (fun w => lex_is (lexS_ok (by omega) (nums_lex L)) (by omega) ⟨(numsG (nuL L)).toArray⟩ rfl w)
      have HTL := hidE (show (ntoks 0 (nuL L)).length = L.length by rw [ntoks_len, nuL_len])
      have HTA := hidE (fun (j : Nat) (hj : j < L.length) => ntoks_at hj)
      have HWG := hidE (fun (j : Nat) (hj : j < L.length) => wantI_get hj)
      have hO : wr.ownsRow W.heap.size 2 1 (.slice av L.length cp) (wantI L L.length).length (cellsK .i64 (wantI L L.length)) := by rw [wantI_len (Nat.le_refl _)]; exact HO.out
      obtain ⟨aw, cw, ew, hAw⟩ := argK_own hO
      simp only [Value.slice.injEq] at ew
      obtain ⟨rfl, _, rfl⟩ := ew
      have HAW := hidE hAw
      have HWL := hidE (wantI_len (L := L) (Nat.le_refl _))
      have l40 : L.length ≤ 40 := by omega
      clear hsl HO hO hAw HS
      generalize numsG (nuL L) = S at *
      generalize ntoks 0 (nuL L) = T at *
      generalize wantI L L.length = Wt at *
      go_wp2_with fail
      ((with_reducible refine (HLX.out _).mono ?_))
      rintro e w1 ⟨v1, rfl, ⟨a1, cp1, rfl, _, _, hA1⟩, hb1⟩
      have HA1 := hidE hA1
      have HAW1 := hidE (HAW.out.past hb1)
      have HB1 := hidE (HB.out.trans (hb1.mono HB.out.size))
      clear hA1 hb1 HAW HB HG
      rw [HTL.out]
      go_wp2
      go_loopg [15] L.length (fun gh v15 wr => ∃ j : Nat, j ≤ L.length ∧ L.length - j ≤ gh ∧ v15 = .int .i64 j ∧ Below w1.heap.size w1 wr)
      case atStart => exact ⟨0, Nat.zero_le _, by omega, rfl, Below.refl _ _⟩
      case round =>
        obtain ⟨j, hj, hgh, rfl, hb⟩ := hrel
        have HG := hidE hgh; have HB := hidE hb
        clear hgh hb
        obtain ⟨wo', hwo'⟩ : ∃ wo' : World, wo' = wr := ⟨_, rfl⟩
        by_cases hjL : j < L.length
        · have hjT : j < T.length := by have := HTL.out; omega
          have hjW : j < Wt.length := by have := HWL.out; omega
          obtain ⟨b, off, rfl, hbb, hc⟩ := (HA1.out.past HB.out) (by omega)
          obtain ⟨t0, _, t2, _⟩ := hc.get hjT
          obtain ⟨b', off', rfl, hbb', hc'⟩ := (HAW1.out.past HB.out) (by omega)
          have u0 := hc' j hjW
          obtain ⟨k1, k2⟩ := HTA.out j hjL
          rw [show (T.getD j tk0).kind = 1 from k1] at t0
          rw [show (T.getD j tk0).num = nuA L j from k2] at t2
          rw [HWG.out j hjL] at u0
          simp at t0
          have q2 : decide ((j : Int) < (L.length : Int)) = true := decide_eq_true (by omega)
          have q3 : decide (j < L.length) = true := decide_eq_true hjL
          clear hc hc' k1 k2
          generalize nuA L j = n at *
          go_wp2
          go_quiet (fail)
          go_wp2
          go_roundg (L.length - (j + 1))
          case measure => have := HG.out; omega
          case rel => exact ⟨j + 1, by omega, Nat.le_refl _, by go_num, by have := HB.out; (repeat (first | exact Below.refl _ _ | assumption | refine balloc ?_ _ | refine below_drewN ?_ _ | refine bstep (by assumption) ?_ | refine bstep (Past.prop _) ?_ | refine Below.setCell ?_ (by first | exact Nat.le_refl _ | (simp; done) | (simp; omega)) _))⟩
        · have q2 : decide ((j : Int) < (L.length : Int)) = false := decide_eq_false (by omega)
          have q3 : decide (j < L.length) = false := decide_eq_false hjL
          have HD := hidE (fun w => show Calls Try.prog 11 #[.int .i64 1099511627777] w fun e w' => e = .returned (strV (digG 1099511627777)) ∧ Below w.heap.size w w' from ldigits_c 1099511627777 1099511627777 w (Nat.le_refl _) (by omega))
          have hd13 := dig_len13 (n := 1099511627777) (by omega)
          have NF := hidE num_far
          generalize digG 1099511627777 = D at *
          have HN1 := hidE (fun w => num_c D w (by omega))
          rw [NF.out] at HN1
          go_wp2_with fail
          ((with_reducible refine (HD.out _).mono ?_); rintro e w5 ⟨rfl, hb5⟩)
          go_wp2_with fail
          ((with_reducible refine (HN1.out _).mono ?_); rintro e w6 ⟨rfl, hb6⟩)
          go_wp2_with fail
          ((with_reducible refine (HH.out _).mono ?_); rintro e w7 ⟨rfl, hb7⟩)
          have h6 := HB.out.trans (hb5.mono HB.out.size)
          have h7 := h6.trans (hb6.mono h6.size)
          have h8 := h7.trans (hb7.mono h7.size)
          have HB8 := hidE (HB1.out.trans (h8.mono HB1.out.size))
          clear hb5 hb6 hb7 h6 h7 h8
          go_wp2
          go_ret
          exact ⟨rfl, HB8.out⟩
end Go.Proofs.Ytpcgeaphfpcghaa

namespace Go.Proofs.Ytpcgeaphfpcghaa
open Go.ChangeShapes Go.WideShapes Go.ChangeAt Go.RowKit

set_option maxRecDepth 100000 in
theorem lexNumbers_lifted (os : Os) (started : os.Started) (H : Type) (enc : TypeId × Value → H) :
    ReturnsInHanded {} Try.checked os 5 .any (Rows.lexNumbersSpec.pre6 enc Try.prog Try.f5 Rows.lexNumbersRow.domain false) (Rows.lexNumbersSpec.post enc Try.prog Try.f5 false true false false) := by
  refine returnsInHanded_of_change (C := Try.checked) own started (by kernel_rfl) Try.func5
    (ChangeSpec.witness6 (enc := enc) (C := Try.checked) false ⟨#[], #[.slice none 0 0], []⟩ 8 (by kernel_rfl) (by kernel_rfl) (by kernel_rfl) (by kernel_rfl)) ?_
  intro W base args ds gs before hval0 hW _ _
  have hval : ∀ (j : Nat) t v, Try.f5.params[j]? = some t → args[j]? = some v → Value.okWide Try.prog W .any base t v := hval0
  have hW' := hW
  obtain ⟨p, q, hA0, hV, rfl, hfz, hnd⟩ := hW
  have hA : DataW.TrodAll enc Try.prog W 0 (fun _ => true) true Try.f5.params.toList args.toList ds p := hA0
  rw [Try.params5] at hA hval
  obtain ⟨v0, vs0, d0, ds0, p0, q0, hargs, rfl, rfl, h0, r0⟩ := trodAll_cons hA
  obtain ⟨rfl, rfl, rfl⟩ := trodAll_nil r0
  obtain rfl : args = #[v0] := by cases args; simp_all
  obtain ⟨l0, o0, c0, rfl, hl0, hA0', hz0⟩ := open_u64lP (hval 0 35 v0 rfl rfl) h0
  clear hA0 hval0
  refine (lnum_walk l0 o0 c0 W hl0 hz0 hA0').mono fun e W' ⟨he, hb⟩ => ?_
  subst he
  exact ⟨_, rfl, law_post laidOut (readOk_spec (by kernel_rfl)) rfl Try.underlying4 rfl ⟨rfl, rfl, rfl⟩ hW' hb⟩

theorem lexNumbers_holds : Rows.LexNumbersSaid :=
  OpenClaim.holds_of_wide 5 Try.f5 rfl rfl rfl rfl rfl rfl rfl ⟨rfl, rfl, rfl, rfl, rfl⟩ rfl rfl rfl rfl rfl (by kernel_rfl) Try.func5 (by kernel_rfl)
    (of_decide_eq_true (by kernel_rfl)) (by unfold Func.isWrapper; first | (rw [if_pos (by decide +kernel)]; kernel_rfl) | (rw [if_neg (by decide +kernel)]; exact ⟨rfl, rfl⟩))
    (fun os started H enc _ => lexNumbers_lifted os started H enc)
end Go.Proofs.Ytpcgeaphfpcghaa
