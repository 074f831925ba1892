/- ParseBack: for every text and every definition the statement's function answers true and leaves its arguments alone. No conditions. -/
import Derived.Test.YtaeipfnpglbooaaDoorP7GE
namespace Go.Proofs.YtaeipfnpglbooaaDoor
open Go.ChangeShapes Go.WideShapes Go.ChangeAt Go.RowKit
open Go.ChangeMaps (open_string)
section
attribute [local irreducible] Go.Calls
theorem lback_long (s : List UInt8) (fr to' : Int) (n : Nat) (a : Option Addr) (cap : Nat) (W : World) (h : 4200 < s.length ∨ (s.length ≤ 4200 ∧ 100 < n)) (hT : Tab W) :
    Calls Tryd.prog 3 #[strV s, defV fr to' a n cap] W fun e w' => e = .returned (.bool true) ∧ Below W.heap.size W w' := by
  have HH := hidE (fun w (hb : Below W.heap.size W w) => head_c w (hT.past hb))
  clear hT
  have slen : (⟨s.toArray⟩ : ByteArray).size = s.length := by simp [ByteArray.size]
  rcases h with h | ⟨h, h2⟩
  · have q1 : decide ((s.length : Int) > 4200) = true := decide_eq_true (by omega)
    have q2 : decide (4200 < s.length) = true := decide_eq_true (by omega)
    go_enter Tryd.func3, Tryd.ntmps3
    go_wp2_with fail
    ((with_reducible refine (HH.out _ (by (repeat (first | exact Below.refl _ _ | assumption | refine balloc ?_ _ | refine below_drewN ?_ _ | refine bstep (by assumption) ?_ | refine bstep (Past.prop _) ?_ | refine Below.setCell ?_ (by first | exact Nat.le_refl _ | (simp; done) | (simp; omega)) _)))).mono ?_); rintro e w1 ⟨rfl, hb1⟩)
    have HB := hidE (show Below W.heap.size W w1 by (repeat (first | exact Below.refl _ _ | assumption | refine balloc ?_ _ | refine below_drewN ?_ _ | refine bstep (by assumption) ?_ | refine bstep (Past.prop _) ?_ | refine Below.setCell ?_ (by first | exact Nat.le_refl _ | (simp; done) | (simp; omega)) _)))
    clear hb1
    go_wp2
    go_ret
    exact ⟨rfl, HB.out⟩
  · have q1 : decide ((s.length : Int) > 4200) = false := decide_eq_false (by omega)
    have q2 : decide (4200 < s.length) = false := decide_eq_false (by omega)
    have q3 : decide ((n : Int) > 100) = true := decide_eq_true (by omega)
    have q4 : decide (100 < n) = true := decide_eq_true (by omega)
    go_enter Tryd.func3, Tryd.ntmps3
    go_wp2_with fail
    ((with_reducible refine (HH.out _ (by (repeat (first | exact Below.refl _ _ | assumption | refine balloc ?_ _ | refine below_drewN ?_ _ | refine bstep (by assumption) ?_ | refine bstep (Past.prop _) ?_ | refine Below.setCell ?_ (by first | exact Nat.le_refl _ | (simp; done) | (simp; omega)) _)))).mono ?_); rintro e w1 ⟨rfl, hb1⟩)
    have HB := hidE (show Below W.heap.size W w1 by (repeat (first | exact Below.refl _ _ | assumption | refine balloc ?_ _ | refine below_drewN ?_ _ | refine bstep (by assumption) ?_ | refine bstep (Past.prop _) ?_ | refine Below.setCell ?_ (by first | exact Nat.le_refl _ | (simp; done) | (simp; omega)) _)))
    clear hb1
    go_wp2
    go_ret
    exact ⟨rfl, HB.out⟩
end
theorem lback_str (s : ByteArray) (fr to' : Int) (T : List Prt) (a : Option Addr) (cap : Nat) (W : World) (_hs : s.size ≤ maxLen) (hf : -9223372036854775808 ≤ fr ∧ fr ≤ 9223372036854775807) (ht : -9223372036854775808 ≤ to' ∧ to' ≤ 9223372036854775807) (hA : ArgP W a T) (hw : ∀ x ∈ T, PrtW x) (hT : Tab W) :
    Calls Tryd.prog 3 #[.string s, defV fr to' a T.length cap] W fun e w' => e = .returned (.bool true) ∧ Below W.heap.size W w' := by
  have e : Value.string s = strV s.data.toList := by simp [strV]
  rw [e]
  by_cases c : s.data.toList.length ≤ 4200
  · by_cases c2 : T.length ≤ 100
    · exact lback_main _ fr to' T a cap W c hf ht c2 hA hw hT
    · exact lback_long _ fr to' T.length a cap W (.inr ⟨c, by omega⟩) hT
  · exact lback_long _ fr to' T.length a cap W (.inl (by omega)) hT
def parseBackLaid : List (String × DataW Unit) := [("math/bits.deBruijn32tab", Rows.laid_math_bits_deBruijn32tab), ("math/bits.deBruijn64tab", Rows.laid_math_bits_deBruijn64tab), ("internal/strconv.uint64pow10", Rows.laid_internal_strconv_uint64pow10), ("livery/parse.words", Rows.laid_livery_parse_words)]
set_option maxRecDepth 100000 in
theorem parseBack_lifted (os : Os) (started : os.Started) (H : Type) (enc : TypeId × Value → H) :
    ReturnsInHanded {} Tryd.checked os 3 .any (fun w args => (Rows.parseBackSpec.pre enc Tryd.prog Tryd.f3 Rows.parseBackRow.domain false w args ∧ laidMetH Tryd.prog parseBackLaid w) ∧ sizedMet enc Tryd.prog Tryd.f3 (OpenSpec.ofChange Rows.parseBackSpec) false w args) (Rows.parseBackSpec.post enc Tryd.prog Tryd.f3 false true false false) := by
  refine returnsInHanded_of_change_and (C := Tryd.checked) (X := fun w _ => laidMetH Tryd.prog parseBackLaid w) (fun _ _ _ hh h => h.of_heap hh) own started (by kernel_rfl) Tryd.func3
    (ChangeSpec.witness_shaped (enc := enc) (C := Tryd.checked) (os := os) (X := fun w _ => laidMetH Tryd.prog parseBackLaid w) false (World.laidAll Tryd.prog os parseBackLaid) #[.string ⟨#[]⟩, .agg #[.int .i64 0, .int .i64 0, .slice none 0 0]] 8 (World.laidAll_os _ _ _) (World.shaped_of_ZipB (by kernel_rfl) (by kernel_rfl)) (by kernel_rfl) (by kernel_rfl) (by kernel_rfl)
      (by rw [MakeChecks.laidMetH_plain _ _ _ (by kernel_rfl)]; exact laidMet_laidAll _ (by kernel_rfl) (by kernel_rfl))) ?_
  intro W base args ds gs before hval0 hW _ _ hL _
  rw [MakeChecks.laidMetH_plain _ _ _ (by kernel_rfl)] at hL
  have hval : ∀ (j : Nat) t v, Tryd.f3.params[j]? = some t → args[j]? = some v → Value.okWide Tryd.prog W .any base t v := hval0
  have hW' := hW
  obtain ⟨p, q, hA0, hV, rfl, hfz, hnd⟩ := hW
  have hA : DataW.TrodAll enc Tryd.prog W 0 (fun _ => true) true Tryd.f3.params.toList args.toList ds p := hA0
  rw [Tryd.params3] at hA hval
  obtain ⟨v0, vs0, d0, ds0, p0, q0, hargs, rfl, rfl, h0, r0⟩ := trodAll_cons hA
  obtain ⟨v1, vs1, d1, ds1, p1, q1, rfl, rfl, rfl, h1, r1⟩ := trodAll_cons r0
  obtain ⟨rfl, rfl, rfl⟩ := trodAll_nil r1
  obtain rfl : args = #[v0, v1] := by cases args; simp_all
  obtain ⟨s0, rfl, rfl, rfl, hs0⟩ := open_string Tryd.underlying9 (hval 0 9 v0 rfl rfl) h0
  obtain ⟨f1, t1, l1, o1, c1, rfl, hf1, ht1, hl1, hc1, hA1', hP1⟩ := open_defP (hval 1 24 v1 rfl rfl) h1
  clear hA0 hval0
  refine (lback_str s0 f1 t1 l1 o1 c1 W hs0 hf1 ht1 hA1' hP1 ⟨(tab_of_laid (laidMet_tail (laidMet_tail hL))), words_of_laid (laidMet_tail (laidMet_tail (laidMet_tail hL)))⟩).mono fun e W' ⟨he, hb⟩ => ?_
  subst he
  exact ⟨_, rfl, law_post laidOut (readOk_spec (by kernel_rfl)) rfl Tryd.underlying4 rfl ⟨rfl, rfl, rfl⟩ hW' hb⟩

theorem parseBack_holds : Rows.ParseBackSaid :=
  OpenClaim.holds_of_wide 3 Tryd.f3 rfl rfl rfl rfl rfl rfl rfl ⟨rfl, rfl, rfl, rfl, rfl⟩ rfl rfl rfl rfl rfl (by kernel_rfl) Tryd.func3 (by kernel_rfl)
    (of_decide_eq_true (by kernel_rfl)) (by unfold Func.isWrapper; first | (rw [if_pos (by decide +kernel)]; kernel_rfl) | (rw [if_neg (by decide +kernel)]; exact ⟨rfl, rfl⟩))
    (fun os started H enc _ => parseBack_lifted os started H enc)

theorem parseBack_card : Rows.ParseBackCardSaid :=
  Claim7.holds_tied_plain_at .later [] [.data, .data, .data, .data] true (true, "2ef7e7388e02eb914236aa005a078e7a0a5f24b732900d437e54b97c03e5d287") true
    parseBack_holds (fun _ h => by cases h) (by kernel_rfl) (fun _ h => by cases h) parseBack_row_tie rfl ⟨rfl, rfl⟩ (by kernel_rfl) rfl
    (fun f fn hf hfn => by
      obtain rfl : f = 3 := Option.some.inj ((show Tryd.prog.funcNamed "livery/liverylaw07.ParseBack" = some 3 by kernel_rfl).symm.trans hf) |>.symm
      obtain rfl : fn = Tryd.f3 := (Option.some.inj (Tryd.func3.symm.trans hfn)).symm
      exact ⟨by kernel_rfl, fun j t ht => by
        rw [Tryd.params3] at ht
        have hm : t ∈ [9, 24] := by simpa using Array.mem_of_getElem? ht
        have hall : ([9, 24].all fun u => !Tryd.prog.wantsStandIn u) = true := by kernel_rfl
        exact (show Tryd.prog.wantsStandIn t = false by simpa using List.all_eq_true.1 hall t hm)⟩)
    (by kernel_rfl)
end Go.Proofs.YtaeipfnpglbooaaDoor
