/- The walk of the statement on texts, there and back. No conditions. LexBack: for every text the statement's function answers true and leaves its arguments alone. No conditions. -/
import Derived.Test.YtpcgeaphfpcghaaLGB
import Derived.Test.YtpcgeaphfpcghaaLGA
namespace Go.Proofs.Ytpcgeaphfpcghaa
open Go.ChangeShapes Go.WideShapes Go.ChangeAt Go.RowKit
attribute [local irreducible] Go.Calls

set_option maxRecDepth 100000 in
set_option maxHeartbeats 2000000 in
theorem lback_walk (s : List UInt8) (W : World) (hs : s.length ≤ 9223372036854775807) :
    Calls Try.prog 3 #[strV s] W fun e w' => e = .returned (.bool true) ∧ Below W.heap.size W w' := by
  have HH := hidE (fun w => head_c w)
  have hcase : ((lexS s).2.2 ≠ 0 ∧ (lexS s).1 = []) ∨ ∃ T, s.length ≤ 4096 ∧ lexG 0 s = .ok T ∧ lexS s = (T, 0, 0) := by
    by_cases h : 4096 < s.length
    · left; rw [lexS_long h]; exact ⟨by decide, rfl⟩
    · cases hh : lexG 0 s with
      | ok l => exact .inr ⟨l, by omega, rfl, lexS_ok (by omega) hh⟩
      | error p => left; rw [lexS_no (by omega) hh]; exact ⟨(fun h => by cases h), rfl⟩
  have HL := hidE (fun w => lex_c s w hs)
  rcases hcase with ⟨h1, h2⟩ | ⟨T, hs4, hT, hS⟩
  · rw [h2] at HL
    generalize (lexS s).2.2 = er at *
    generalize (lexS s).2.1 = p at *
    have e1 : (er != 0) = true := bne_iff_ne.2 h1
    have e1' : (er == 0) = false := beq_eq_false_iff_ne.2 h1
    clear h1 h2
    go_enter Try.func3, Try.ntmps3
    go_wp2_with fail
    ((with_reducible refine (HL.out _).mono ?_))
    rintro e w1 ⟨v1, rfl, ⟨a1, cp1, rfl, _, _, hA1⟩, hb1⟩
    go_wp2_with fail
    ((with_reducible refine (HH.out _).mono ?_); rintro e w2 ⟨rfl, hb2⟩)
    have HB := hidE (hb1.trans (hb2.mono hb1.size))
    clear hb1 hb2
    go_wp2
    go_ret
    exact ⟨rfl, HB.out⟩
  rw [hS] at HL
  have hcount := lex_count hT
  have htext := lex_text hT
  have HTX := hidE (fun a cap w hA => text_c T a cap w (by omega) (by omega) hA)
  by_cases hlong : 4096 < (textG T).length
  · have q1 : decide ((4096 : Int) < ((textG T).length : Int)) = true := decide_eq_true (by omega)
    have q2 : decide (4096 < (textG T).length) = true := decide_eq_true hlong
    clear hS hT
    generalize textG T = t at *
    go_enter Try.func3, Try.ntmps3
    go_wp2_with fail
    ((with_reducible refine (HL.out _).mono ?_))
    rintro e w1 ⟨v1, rfl, ⟨a1, cp1, rfl, _, _, hA1⟩, hb1⟩
    have HA1 := hidE hA1
    simp only
    go_wp2_with fail
    ((with_reducible refine (HTX.out _ _ _ HA1.out).mono ?_); rintro e w2 ⟨rfl, hb2⟩)
    go_wp2_with fail
    ((with_reducible refine (HH.out _).mono ?_); rintro e w3 ⟨rfl, hb3⟩)
    have HB := hidE ((hb1.trans (hb2.mono hb1.size)).trans (hb3.mono (hb1.trans (hb2.mono hb1.size)).size))
    clear hb1 hb2 hb3
    go_wp2
    go_ret
    exact ⟨rfl, HB.out⟩
  have q1 : decide ((4096 : Int) < ((textG T).length : Int)) = false := decide_eq_false (by omega)
  have q2 : decide (4096 < (textG T).length) = false := decide_eq_false hlong
  have HL2 := hidE (fun w => lex_is (lexS_ok (by omega) (lex_back hT)) (by omega) ⟨(textG T).toArray⟩ rfl w)
  have HPL := hidE (place_len T 0)
  have HTX2 := hidE (fun a cap w hA => text_c (placeG 0 T) a cap w (by rw [place_len]; omega) (by rw [place_text]; omega) hA)
  rw [HPL.out, place_text] at HTX2
  have HSM := hidE (fun a1 a2 c1 c2 w ha hb => rsameT_c T (placeG 0 T) a1 a2 c1 c2 false w (by omega) (by rw [place_len]; omega) ha hb)
  rw [HPL.out, back_same] at HSM
  have HAT := hidE (fun i (hi : i ≤ T.length) => lex_at hT hi)
  clear hS hT
  generalize placeG 0 T = T2 at *
  generalize textG T = t at *
  go_enter Try.func3, Try.ntmps3
  go_wp2_with fail
  ((with_reducible refine (HL.out _).mono ?_))
  rintro e w1 ⟨v1, rfl, ⟨a1, cp1, rfl, _, _, hA1⟩, hb1⟩
  have HA1 := hidE hA1; have HB1 := hidE hb1
  clear hA1 hb1
  simp only
  go_wp2_with fail
  ((with_reducible refine (HTX.out _ _ _ HA1.out).mono ?_); rintro e w2 ⟨rfl, hb2⟩)
  have HA2 := hidE (HA1.out.past hb2); have HB2 := hidE (HB1.out.trans (hb2.mono HB1.out.size))
  clear hb2 HA1 HB1
  go_wp2_with fail
  ((with_reducible refine (HL2.out _).mono ?_))
  rintro e w3 ⟨v3, rfl, ⟨a3, cp3, rfl, _, _, hA3⟩, hb3⟩
  rw [HPL.out]
  have HA3 := hidE (HA2.out.past hb3); have HB3 := hidE (HB2.out.trans (hb3.mono HB2.out.size)); have HK3 := hidE hA3
  clear hb3 HA2 HB2 hA3
  go_wp2_with fail
  ((with_reducible refine (HSM.out _ _ _ _ _ HA3.out HK3.out).mono ?_); rintro e w4 ⟨rfl, hb4⟩)
  have HA4 := hidE (HA3.out.past hb4); have HB4 := hidE (HB3.out.trans (hb4.mono HB3.out.size)); have HK4 := hidE (HK3.out.past hb4)
  clear hb4 HA3 HB3 HK3
  go_wp2_with fail
  ((with_reducible refine (HTX2.out _ _ _ HK4.out).mono ?_); rintro e w5 ⟨rfl, hb5⟩)
  have HA5 := hidE (HA4.out.past hb5); have HB5 := hidE (HB4.out.trans (hb5.mono HB4.out.size))
  clear hb5 HA4 HB4 HK4
  go_wp2
  go_loopg [10, 11] (T.length + 1) (fun gh v10 v11 wr => ∃ i q : Nat, i ≤ T.length + 1 ∧ T.length + 1 - i ≤ gh ∧ v11 = .int .i64 i ∧ v10 = .int .i64 q ∧ (i ≤ T.length → q = begT 0 T i) ∧ Below w5.heap.size w5 wr)
  case atStart => exact ⟨0, 0, Nat.zero_le _, Nat.le_refl _, rfl, rfl, fun _ => rfl, Below.refl _ _⟩
  case round =>
    obtain ⟨i, q, hi, hgh, rfl, rfl, hq, hb⟩ := hrel
    have HG := hidE hgh; have HB := hidE hb
    clear hgh hb
    have slen : (⟨s.toArray⟩ : ByteArray).size = s.length := by simp [ByteArray.size]
    obtain ⟨wo, hwo⟩ : ∃ wo : World, wo = wr := ⟨_, rfl⟩
    by_cases hle : i ≤ T.length
    · obtain rfl := hq hle
      have ht := HAT.out i hle
      have p1 : decide ((i : Int) ≤ (T.length : Int)) = true := decide_eq_true (by omega)
      have p1' : decide (i ≤ T.length) = true := decide_eq_true hle
      have hbe := ht.le; have hes := ht.ls
      have HW := hidE ht.white
      by_cases hlt : i < T.length
      · have p2 : decide ((i : Int) < (T.length : Int)) = true := decide_eq_true (by omega)
        have p2' : decide (i < T.length) = true := decide_eq_true hlt
        have hE : endT 0 s T i = (T.getD i tk0).pos := by unfold endT; rw [if_pos hlt]
        have hps := ht.pos hlt; have hft := ht.fit hlt; have htx := ht.text hlt
        rw [hE] at hbe hes HW
        obtain ⟨b, off, rfl, hbb, hc⟩ := (HA5.out.past HB.out) (by omega)
        obtain ⟨_, t1, _, t3⟩ := hc.get hlt
        simp only [Nat.sub_zero, Nat.zero_add] at htx hft hes HW
        have HNX := hidE (show begT 0 T (i + 1) = (T.getD i tk0).pos + (T.getD i tk0).text.length from by unfold begT; rw [if_neg (by omega), Nat.add_sub_cancel])
        have HTT := hidE htx
        clear hc hE ht htx hq
        generalize begT 0 T i = B at *
        generalize (T.getD i tk0).pos = E at *
        generalize (T.getD i tk0).text = X at *
        have p3 : decide ((E : Int) < (B : Int)) = false := decide_eq_false (by omega)
        have p3' : decide (E < B) = false := decide_eq_false (by omega)
        have p4 : decide ((s.length : Int) < (E : Int)) = false := decide_eq_false (by omega)
        have p4' : decide (s.length < E) = false := decide_eq_false (by omega)
        go_wp2
        go_loopg [10] (E - B) (fun gh v10 wr' => ∃ q : Nat, B ≤ q ∧ q ≤ E ∧ E - q ≤ gh ∧ v10 = .int .i64 q ∧ wr' = wo)
        case atStart => exact ⟨B, Nat.le_refl _, hbe, Nat.le_refl _, rfl, hwo.symm⟩
        case round =>
          obtain ⟨q, hq1, hq2, hgq, rfl, hw'⟩ := hrel
          by_cases hqe : q < E
          · have r1 : decide ((q : Int) < (E : Int)) = true := decide_eq_true (by omega)
            have r1' : decide (q < E) = true := decide_eq_true hqe
            have hqs : q < s.length := by omega
            have hwb := HW.out q hq1 hqe
            have HWC := hidE (fun (h : q < (⟨s.toArray⟩ : ByteArray).size) w => show Calls Try.prog 10 #[.int .u8 ((⟨s.toArray⟩ : ByteArray)[q]'h).toNat] w fun e w' => e = .returned (.bool true) ∧ w' = w from by
              have := rwhite_c ((⟨s.toArray⟩ : ByteArray)[q]'h) w
              rw [byte_at s h, hwb] at this
              rw [byte_at s h]
              exact this)
            clear hwb
            go_wp2_with fail
            ((with_reducible refine (HWC.out _ _).mono ?_); rintro e w6 ⟨rfl, hw6⟩)
            have HW6 := hidE (hw6.trans hwo.symm)
            clear hw6 hw'
            go_wp2
            go_roundg (E - (q + 1))
            case measure => omega
            case rel => exact ⟨q + 1, by omega, by omega, Nat.le_refl _, by go_num, HW6.out⟩
          · obtain rfl : q = E := by omega
            have r1 : decide ((q : Int) < (q : Int)) = false := decide_eq_false (by omega)
            have hmid : (⟨s.toArray⟩ : ByteArray).extract q (q + X.length) = ⟨X.toArray⟩ := by
              rw [str_mid, Nat.add_sub_cancel_left, HTT.out]
            have r2 : ((X.length : Int) == 0) = false := beq_eq_false_iff_ne.2 (by omega)
            have r3 : decide ((s.length : Int) < (q : Int) + (X.length : Int)) = false := decide_eq_false (by omega)
            have wq : IntKind.i64.wrap ((q : Int) + (X.length : Int)) = (q : Int) + (X.length : Int) := IntWalk.i64_in _ (by omega)
            have b1 : (0 : Int) ≤ (q : Int) := by omega
            have b2 : (q : Int) ≤ (q : Int) + (X.length : Int) := by omega
            have b3 : (q : Int) + (X.length : Int) ≤ (s.length : Int) := by omega
            have b4 : ((q : Int) + (X.length : Int)).toNat = q + X.length := by omega
            have b5 : (q : Int) + (X.length : Int) ≤ ((⟨s.toArray⟩ : ByteArray).size : Int) := by rw [slen]; exact b3
            subst hw'
            go_wp2
            go_quiet (fail)
            go_wp2
            go_roundg (T.length + 1 - (i + 1))
            case measure => have := HG.out; omega
            case rel => exact ⟨i + 1, q + X.length, by omega, Nat.le_refl _, by go_num, by go_num, fun _ => HNX.out.symm, by have := HB.out; (repeat (first | exact Below.refl _ _ | assumption | refine balloc ?_ _ | refine below_drewN ?_ _ | refine bstep (by assumption) ?_ | refine bstep (Past.prop _) ?_ | refine Below.setCell ?_ (by first | exact Nat.le_refl _ | (simp; done) | (simp; omega)) _))⟩
      · have p2 : decide ((i : Int) < (T.length : Int)) = false := decide_eq_false (by omega)
        have p2' : decide (i < T.length) = false := decide_eq_false hlt
        have hE : endT 0 s T i = s.length := by unfold endT; rw [if_neg hlt, Nat.zero_add]
        rw [hE] at hbe HW
        simp only [Nat.sub_zero] at HW
        clear hE ht hq hes
        generalize begT 0 T i = B at *
        have p3 : decide ((s.length : Int) < (B : Int)) = false := decide_eq_false (by omega)
        have p3' : decide (s.length < B) = false := decide_eq_false (by omega)
        go_wp2
        go_loopg [10] (s.length - B) (fun gh v10 wr' => ∃ q : Nat, B ≤ q ∧ q ≤ s.length ∧ s.length - q ≤ gh ∧ v10 = .int .i64 q ∧ wr' = wo)
        case atStart => exact ⟨B, Nat.le_refl _, hbe, Nat.le_refl _, rfl, hwo.symm⟩
        case round =>
          obtain ⟨q, hq1, hq2, hgq, rfl, hw'⟩ := hrel
          by_cases hqe : q < s.length
          · have r1 : decide ((q : Int) < (s.length : Int)) = true := decide_eq_true (by omega)
            have r1' : decide (q < s.length) = true := decide_eq_true hqe
            have hwb := HW.out q hq1 hqe
            have HWC := hidE (fun (h : q < (⟨s.toArray⟩ : ByteArray).size) w => show Calls Try.prog 10 #[.int .u8 ((⟨s.toArray⟩ : ByteArray)[q]'h).toNat] w fun e w' => e = .returned (.bool true) ∧ w' = w from by
              have := rwhite_c ((⟨s.toArray⟩ : ByteArray)[q]'h) w
              rw [byte_at s h, hwb] at this
              rw [byte_at s h]
              exact this)
            clear hwb
            go_wp2_with fail
            ((with_reducible refine (HWC.out _ _).mono ?_); rintro e w6 ⟨rfl, hw6⟩)
            have HW6 := hidE (hw6.trans hwo.symm)
            clear hw6 hw'
            go_wp2
            go_roundg (s.length - (q + 1))
            case measure => omega
            case rel => exact ⟨q + 1, by omega, by omega, Nat.le_refl _, by go_num, HW6.out⟩
          · obtain rfl : q = s.length := by omega
            have r1 : decide ((s.length : Int) < (s.length : Int)) = false := decide_eq_false (by omega)
            have r1' : decide (s.length < s.length) = false := decide_eq_false (by omega)
            subst hw'
            go_wp2
            go_roundg (T.length + 1 - (i + 1))
            case measure => have := HG.out; omega
            case rel => exact ⟨i + 1, s.length, by omega, Nat.le_refl _, by go_num, rfl, fun h => by omega, by have := HB.out; (repeat (first | exact Below.refl _ _ | assumption | refine balloc ?_ _ | refine below_drewN ?_ _ | refine bstep (by assumption) ?_ | refine bstep (Past.prop _) ?_ | refine Below.setCell ?_ (by first | exact Nat.le_refl _ | (simp; done) | (simp; omega)) _))⟩
    · have p1 : decide ((i : Int) ≤ (T.length : Int)) = false := decide_eq_false (by omega)
      have p1' : decide (i ≤ T.length) = false := decide_eq_false hle
      go_wp2_with fail
      ((with_reducible refine (HH.out _).mono ?_); rintro e w7 ⟨rfl, hb7⟩)
      have HB8 := hidE (HB5.out.trans ((HB.out.trans (hb7.mono HB.out.size)).mono HB5.out.size))
      clear hb7
      go_wp2
      go_ret
      exact ⟨rfl, HB8.out⟩
end Go.Proofs.Ytpcgeaphfpcghaa

namespace Go.Proofs.Ytpcgeaphfpcghaa
open Go.ChangeShapes Go.WideShapes Go.ChangeAt Go.RowKit
open Go.ChangeMaps (open_string)

theorem lback_str (s : ByteArray) (W : World) (hs : s.size ≤ maxLen) :
    Calls Try.prog 3 #[.string s] W fun e w' => e = .returned (.bool true) ∧ Below W.heap.size W w' :=
  lback_walk s.data.toList W (by rw [Array.length_toList]; exact hs)
set_option maxRecDepth 100000 in
theorem lexBack_lifted (os : Os) (started : os.Started) (H : Type) (enc : TypeId × Value → H) :
    ReturnsInHanded {} Try.checked os 3 .any (Rows.lexBackSpec.pre6 enc Try.prog Try.f3 Rows.lexBackRow.domain false) (Rows.lexBackSpec.post enc Try.prog Try.f3 false true false false) := by
  refine returnsInHanded_of_change (C := Try.checked) own started (by kernel_rfl) Try.func3
    (ChangeSpec.witness6 (enc := enc) (C := Try.checked) false ⟨#[], #[.string ⟨#[]⟩], []⟩ 8 (by kernel_rfl) (by kernel_rfl) (by kernel_rfl) (by kernel_rfl)) ?_
  intro W base args ds gs before hval0 hW _ _
  have hval : ∀ (j : Nat) t v, Try.f3.params[j]? = some t → args[j]? = some v → Value.okWide Try.prog W .any base t v := hval0
  have hW' := hW
  obtain ⟨p, q, hA0, hV, rfl, hfz, hnd⟩ := hW
  have hA : DataW.TrodAll enc Try.prog W 0 (fun _ => true) true Try.f3.params.toList args.toList ds p := hA0
  rw [Try.params3] at hA hval
  obtain ⟨v0, vs0, d0, ds0, p0, q0, hargs, rfl, rfl, h0, r0⟩ := trodAll_cons hA
  obtain ⟨rfl, rfl, rfl⟩ := trodAll_nil r0
  obtain rfl : args = #[v0] := by cases args; simp_all
  obtain ⟨s0, rfl, rfl, rfl, hs0⟩ := open_string Try.underlying9 (hval 0 9 v0 rfl rfl) h0
  clear hA0 hval0
  refine (lback_str s0 W hs0).mono fun e W' ⟨he, hb⟩ => ?_
  subst he
  exact ⟨_, rfl, law_post laidOut (readOk_spec (by kernel_rfl)) rfl Try.underlying4 rfl ⟨rfl, rfl, rfl⟩ hW' hb⟩

theorem lexBack_holds : Rows.LexBackSaid :=
  OpenClaim.holds_of_wide 3 Try.f3 rfl rfl rfl rfl rfl rfl rfl ⟨rfl, rfl, rfl, rfl, rfl⟩ rfl rfl rfl rfl rfl (by kernel_rfl) Try.func3 (by kernel_rfl)
    (of_decide_eq_true (by kernel_rfl)) (by unfold Func.isWrapper; first | (rw [if_pos (by decide +kernel)]; kernel_rfl) | (rw [if_neg (by decide +kernel)]; exact ⟨rfl, rfl⟩))
    (fun os started H enc _ => lexBack_lifted os started H enc)
end Go.Proofs.Ytpcgeaphfpcghaa
