/- The contract of Print. Conditions: the definition's numbers are of their fields' kinds, the list's length, the tables. The contract of Same, over slices.Equal at parts. Conditions: the lists' lengths. The contracts of package parse: Parse, Print, Tree, Same. No conditions of its own. The contracts of the document's own answers that layer 7's statements reach: Same, End; and of the statements' own plain. No conditions but sizes. What the document's example texts are parsed to, by steps that are counted. No program. No conditions. The texts whose definitions the document fixes: the statements' own head and bad. No conditions. liverylaw07.plain. No conditions but sizes. A definition that is handed in: two times and a slice of parts. No conditions. The walk of the statement on there and back. No conditions but that the arguments are a text and a definition. The walk of the statement on there and back. No conditions but that the arguments are a text and a definition. -/
import Derived.Test.YtaeipfnpglbooaaDoorP7GD
import Derived.Test.YtaeipfnpglbooaaDoorP7GA
import Derived.Deep.RegionHeld3
import Derived.Test.YtaeipfnpglbooaaDoorP7GC
import Derived.Test.YtaeipfnpglbooaaDoorP7MA
import Derived.Lib.SmallJoins
import Derived.Deep.DeepCutAuto
namespace Go.Proofs.YtaeipfnpglbooaaDoor
open Go.ChangeShapes Go.WideShapes Go.ChangeAt Go.RowKit Go.Shelf
attribute [local irreducible] Go.Calls

/-- What Print hands back: of a tree its text, if its numbers are what a text may have; else an error, or some text. -/
def PrintPost (w : World) (fr to' : Int) (T : List Prt) (e : Ending) (w' : World) : Prop :=
  ∃ (t : List UInt8) (er : Int), e = .returned (.tuple #[strV t, .int .i64 er]) ∧ Below w.heap.size w w' ∧ t.length ≤ 1000000000 ∧ ((treeB T = false ∧ er = 81 ∧ t = []) ∨ (er = 0 ∧ ∃ F : Fst, F.kok ∧ F.len = 1 ∧ T = F.flat ∧ t = printF fr to' F))
/-- What a text begins with. -/
def headW (fr to' : Int) : List UInt8 := [102, 114, 111, 109, 32] ++ decS fr ++ [32, 116, 111, 32] ++ decS to' ++ [58]
theorem headW_print (fr to' : Int) (F : Fst) : headW fr to' ++ textF F = printF fr to' F := by
  simp [headW, printF, wFrom, wTo]
/-- What is kept while parts are written. -/
structure PrSt (b : Nat) (a : List UInt8 × List Int) (fr to' : Int) (ad : Option Addr) (T : List Prt) (cap : Nat) (p : Nat) (w0 w : World) : Prop where
  wr : WrI b b a.1 a.2 w
  bel : Below b w0 w
  d : Blk w p #[.int .i64 fr, .int .i64 to', .slice ad T.length cap] 24
  arg : ArgP w ad T
  tb : Tb b w
  sz : b ≤ w.heap.size
theorem PrSt.next {b : Nat} {a a' : List UInt8 × List Int} {fr to' : Int} {ad : Option Addr} {T : List Prt} {cap p : Nat} {w0 w w' : World} (h : PrSt b a fr to' ad T cap p w0 w) (hp : p < b) (hw0 : w0.heap.size = b) (hA0 : ArgP w0 ad T) (hb : Below b w w') (hw : WrI b b a'.1 a'.2 w') : PrSt b a' fr to' ad T cap p w0 w' :=
  ⟨hw, h.bel.trans hb, h.d.below hb hp, hA0.past (by rw [hw0]; exact h.bel.trans hb), h.tb.below hb, Nat.le_trans h.sz hb.size⟩
theorem stOk_nil : StOk [] := ⟨fun y hy => (by cases hy), fun c r e => (by cases e)⟩
theorem WrI.past {B b : Nat} {s : List UInt8} {st : List Int} {w w' : World} (h : WrI B b s st w) (hb : Below w.heap.size w w') : WrI B b s st w' := by
  obtain ⟨o, h1, h2⟩ := h
  exact ⟨o, h1.past hb, own_below h2 hb⟩
theorem WrI.wrote {B b : Nat} {s s' : List UInt8} {st : List Int} {o : Value} {w w' : World} (h1 : Wr B b s o w) (h2 : w.ownsRow B 3 1 o st.length (intsV st.reverse)) (hw : WroteW B b s' o w w') : WrI B b s' st w' := by
  obtain ⟨pv, v, hb, hB⟩ := wr_blk h1
  exact ⟨o, hw.1, own_others (by decide) h2 (row_ne h2 hb) hw.2.2⟩
set_option maxRecDepth 100000 in
set_option maxHeartbeats 2000000 in
theorem print_c (fr to' : Int) (hf : -9223372036854775808 ≤ fr ∧ fr ≤ 9223372036854775807) (ht : -9223372036854775808 ≤ to' ∧ to' ≤ 9223372036854775807) (T : List Prt) (hW : ∀ x ∈ T, PrtW x) (a : Option Addr) (cap : Nat) (w : World) (hl : T.length ≤ 100000) (hA : ArgP w a T) (hT : Tab w) :
    Calls Tryd.prog 8 #[defV fr to' a T.length cap] w (PrintPost w fr to' T) := by
  have HC := hidE (fun w' (hb : Below w.heap.size w w') => tree_c T (fun x hx => (hW x hx).1) a cap w' hl (hA.past hb))
  have HA := hidE hA; have HT := hidE hT; have HW := hidE hW
  clear hA hT hW
  cases htr : treeB T with
  | false =>
    rw [htr] at HC
    have HTR := hidE htr; clear htr
    go_enter Tryd.func8, Tryd.ntmps8
    go_wp2_with fail
    ((with_reducible refine (HC.out _ (by (repeat (first | exact Below.refl _ _ | assumption | refine balloc ?_ _ | refine below_drewN ?_ _ | refine bstep (by assumption) ?_ | refine bstep (Past.prop _) ?_ | refine Below.setCell ?_ (by first | exact Nat.le_refl _ | (simp; done) | (simp; omega)) _)))).mono ?_); rintro e w1 ⟨rfl, hb⟩)
    have HB := hidE (show Below w.heap.size w w1 by (repeat (first | exact Below.refl _ _ | assumption | refine balloc ?_ _ | refine below_drewN ?_ _ | refine bstep (by assumption) ?_ | refine bstep (Past.prop _) ?_ | refine Below.setCell ?_ (by first | exact Nat.le_refl _ | (simp; done) | (simp; omega)) _)))
    clear hb
    go_wp2
    refine bodyPost_ret (v := .tuple #[strV [], .int .i64 81]) (by simp [results, Tryd.results8, go_sem]) rfl ⟨[], 81, rfl, HB.out, by simp, .inl ⟨HTR.out, rfl, rfl⟩⟩
  | true =>
    rw [htr] at HC
    obtain ⟨F, k1, k2, k3⟩ := tree_iff.1 htr
    have HK1 := hidE k1; have HK2 := hidE k2; have HK3 := hidE k3
    have hlf := decS_len hf; have hlt := decS_len ht
    clear htr k1 k2 k3
    go_enter Tryd.func8, Tryd.ntmps8
    go_wp2_with fail
    ((with_reducible refine (HC.out _ (by (repeat (first | exact Below.refl _ _ | assumption | refine balloc ?_ _ | refine below_drewN ?_ _ | refine bstep (by assumption) ?_ | refine bstep (Past.prop _) ?_ | refine Below.setCell ?_ (by first | exact Nat.le_refl _ | (simp; done) | (simp; omega)) _)))).mono ?_); rintro e w1 ⟨rfl, hb⟩)
    have hb0 := (Blk.made w #[.int .i64 fr, .int .i64 to', .slice a T.length cap] 24).past hb
    have hbw : Below w.heap.size w w1 := by (repeat (first | exact Below.refl _ _ | assumption | refine balloc ?_ _ | refine below_drewN ?_ _ | refine bstep (by assumption) ?_ | refine bstep (Past.prop _) ?_ | refine Below.setCell ?_ (by first | exact Nat.le_refl _ | (simp; done) | (simp; omega)) _))
    have hS : PrSt w1.heap.size ([], []) fr to' a T cap w.heap.size w1 (w1.alloc (.cells #[.pointer none, .slice none 0 0, .slice none 0 0] 57)) := by
      have hba : Below w1.heap.size w1 (w1.alloc (.cells #[.pointer none, .slice none 0 0, .slice none 0 0] 57)) := balloc (Below.refl _ _) _
      exact ⟨⟨.slice none 0 0, .inl ⟨Nat.le_refl _, .slice none 0 0, Blk.made _ _ _, World.ownsRowF_nil _ _ _ _⟩, World.ownsRow_nil _ _ _ _⟩, hba, hb0.past hba, (HA.out.past hbw).past hba, (Tb.of (HT.out.past hbw) (Nat.le_refl _)).below hba, by simp⟩
    have HS := hidE hS; have HBW := hidE hbw
    have hpb : w.heap.size < w1.heap.size := hb0.lt
    have hA0 := HA.out.past hbw
    clear hS hbw hb hb0 HA HC
    have HA0 := hidE hA0
    clear hA0
    go_wp2_with fail
    generalize w1.alloc (.cells #[.pointer none, .slice none 0 0, .slice none 0 0] 57) = w2 at *
    obtain ⟨b, hbe⟩ : ∃ b, b = w1.heap.size := ⟨_, rfl⟩
    obtain ⟨p, hpe⟩ : ∃ p, p = w.heap.size := ⟨_, rfl⟩
    rw [← hbe] at HS hpb ⊢
    rw [← hpe] at HS hpb ⊢
    have HBE := hidE hbe; have HPE := hidE hpe
    clear hbe hpe
    obtain ⟨o, ho1, ho2⟩ := HS.out.wr
    have HO1 := hidE ho1; have HO2 := hidE ho2
    have c0 := HS.out.d.cell 0; have c1 := HS.out.d.cell 1; have z := HS.out.d.lt
    simp at c0 c1
    have HD1 := hidE (fun (y : Past w2) => dec_c fr hf y.1 (HS.out.tb.below (y.2.mono HS.out.sz)).pow)
    have HD2 := hidE (fun (y : Past w2) => dec_c to' ht y.1 (HS.out.tb.below (y.2.mono HS.out.sz)).pow)
    have hcp := Past.cell (W := w2)
    clear ho1 ho2
    refine wp_region_bar 13 _ (by kernel_rfl) rfl (by kernel_rfl) (fun v w'' => v = .tuple #[.int .i64 (headW fr to').length, .nilIface] ∧ WroteW b b (headW fr to') o w2 w'') ?_
    simp only [List.take_succ_cons, List.take_zero, List.drop_succ_cons, List.drop_zero]
    repeat (go_big_quiet_step ((go_at_call 18; first | exact Past.call _ (HD1.out _) | exact Past.call _ (HD2.out _))))
    refine wpQuiet_nil ?_
    intro y
    refine ⟨rfl, ?_, ?_⟩
    · simp [go_sem, gives]
      rw [show (⟨#[102, 114, 111, 109, 32]⟩ : ByteArray) ++ ⟨(decS fr).toArray⟩ ++ ⟨#[32, 116, 111, 32]⟩ ++ ⟨(decS to').toArray⟩ ++ ⟨#[58]⟩ = ⟨(headW fr to').toArray⟩ from by
        rw [show (⟨#[102, 114, 111, 109, 32]⟩ : ByteArray) = ⟨([102, 114, 111, 109, 32] : List UInt8).toArray⟩ from rfl, show (⟨#[32, 116, 111, 32]⟩ : ByteArray) = ⟨([32, 116, 111, 32] : List UInt8).toArray⟩ from rfl, show (⟨#[58]⟩ : ByteArray) = ⟨([58] : List UInt8).toArray⟩ from rfl, str_cat, str_cat, str_cat, str_cat]
        rfl]
      have hhl : (headW fr to').length ≤ 60 := by simp only [headW, List.length_append, List.length_cons, List.length_nil]; omega
      refine (wr_str b b [] (headW fr to') o y.1 (HO1.out.past y.2) (by simp only [List.length_nil]; omega) (Nat.le_trans HS.out.sz y.2.size)).mono ?_
      rintro e w'' ⟨rfl, h1, h2, h3⟩
      have hy := y.2
      exact ⟨_, rfl, rfl, h1, (hy.mono HS.out.sz).trans h2, Lib.OthersKept.trans (others_past hy) h3⟩
    · rintro v w3 ⟨rfl, hw3⟩
      have HS3 := hidE (HS.out.next (a' := (headW fr to', [])) hpb HBE.out.symm HA0.out hw3.2.1 (WrI.wrote HO1.out HO2.out hw3))
      clear hw3 c0 c1 z hcp HD1 HD2
      refine wpQuiet_nil ?_
      rintro _ ⟨y, rfl⟩
      have HS4 := hidE (HS3.out.next (a' := (headW fr to', [])) hpb HBE.out.symm HA0.out (y.2.mono HS3.out.sz) (HS3.out.wr.past y.2))
      clear HS3 HS HO1 HO2
      generalize y.1 = w4 at *
      clear y
      have c2 := HS4.out.d.cell 2; have z := HS4.out.d.lt
      simp at c2
      simp only [Act.put, List.setIfInBounds_toArray, List.set_cons_succ, List.set_cons_zero]
      have hhl : (headW fr to').length ≤ 60 := by simp only [headW, List.length_append, List.length_cons, List.length_nil]; omega
      have HPART := hidE (fun (k : Nat) (hk : k ≤ T.length) => partsW_ok (T.take k) (headW fr to', []) stOk_nil (fun x hx => ⟨HW.out x (List.mem_of_mem_take hx), by
        have h1 := List.mem_of_mem_take hx
        rw [HK3.out] at h1
        have := kok_kids F HK1.out x h1
        have h2 := flat_len F
        rw [← HK3.out] at h2
        omega⟩))
      go_wp2_with fail
      go_loopg [30] T.length (fun gh v30 wr => ∃ k : Nat, k ≤ T.length ∧ T.length - k ≤ gh ∧ v30 = .int .i64 k ∧ PrSt b (partsW (headW fr to', []) (T.take k)) fr to' a T cap p w1 wr)
      case atStart => exact ⟨0, Nat.zero_le _, Nat.le_refl _, rfl, HS4.out⟩
      case round =>
        obtain ⟨k, hk, hgh, rfl, hp⟩ := hrel
        have HG := hidE hgh; have HP := hidE hp
        clear hgh hp
        by_cases hlt : k < T.length
        · obtain ⟨bb, off, rfl, hbb, hc⟩ := HP.out.arg (by omega)
          obtain ⟨e0, e1, e2, e3, e4⟩ := hc.get hlt
          have q1 : decide ((k : Int) < (T.length : Int)) = true := decide_eq_true (by omega)
          have q2 : decide (k < T.length) = true := decide_eq_true hlt
          have hx := HW.out (T.getD k pr0) (by rw [pgetD _ _ hlt]; exact List.getElem_mem hlt)
          have hmem : T.getD k pr0 ∈ F.flat := by rw [← HK3.out, pgetD _ _ hlt]; exact List.getElem_mem hlt
          have hkk := kok_kind F HK1.out _ hmem
          have hki := kok_kids F HK1.out _ hmem
          have hfs : F.size ≤ 100000 := by rw [← flat_len, ← HK3.out]; exact hl
          have hok := HPART.out k (by omega)
          have htk : (T.take k).length = k := by rw [List.length_take]; omega
          rw [htk] at hok
          have HNX := hidE (partsW_succ (headW fr to', []) T k hlt)
          have HPT := hidE (fun w' (hb : Below wr.heap.size wr w') => part_c b b (partsW (headW fr to', []) (T.take k)).1 (partsW (headW fr to', []) (T.take k)).2 (T.getD k pr0) w' (Nat.le_trans HP.out.sz hb.size) (HP.out.wr.past hb) hok.1 (by have := hok.2; simp only [List.length_nil] at this; omega) hx hkk ⟨hki.1, by omega⟩ (HP.out.tb.below (hb.mono HP.out.sz)))
          clear hc hx hmem hkk hki hok htk
          rw [show (⟨0, 0, 0, 0, 0⟩ : Prt) = pr0 from rfl] at HNX
          generalize T.getD k pr0 = x at *
          go_wp2_with fail
          have hba : Below wr.heap.size wr (wr.alloc (.cells #[.int .u8 x.kind, .int .u32 x.n, .int .u32 x.g, .int .i64 x.d, .int .i64 x.kids] 41)) := balloc (Below.refl _ _) _
          ((with_reducible refine (HPT.out _ hba).mono ?_); rintro e w6 ⟨rfl, hwi, hb6⟩)
          have HB6 := hidE ((hba.mono HP.out.sz).trans hb6); have HWI := hidE hwi
          clear hba hwi hb6
          go_wp2
          go_roundg (T.length - (k + 1))
          case measure => have := HG.out; omega
          case rel => exact ⟨k + 1, by omega, Nat.le_refl _, by go_num, HP.out.next hpb HBE.out.symm HA0.out HB6.out (by rw [HNX.out]; exact HWI.out)⟩
        · have q1 : decide ((k : Int) < (T.length : Int)) = false := decide_eq_false (by omega)
          have q2 : decide (k < T.length) = false := decide_eq_false hlt
          have hkT : T.take k = F.flat := by rw [List.take_of_length_le (by omega), HK3.out]
          have hfin := HP.out
          have hlen2 := (HPART.out k hk).2
          rw [hkT, partsW_one HK2.out, headW_print] at hfin
          rw [hkT, partsW_one HK2.out, headW_print] at hlen2
          have htl : (printF fr to' F).length ≤ 1000000000 := by
            simp only [List.length_nil] at hlen2
            rw [← HK3.out] at hlen2
            omega
          obtain ⟨o2, g1, _⟩ := hfin.wr
          have hne : printF fr to' F ≠ [] := by simp [printF, wFrom]
          have HSTR := hidE (wr_string b b (printF fr to' F) o2 wr g1 hne (by omega))
          have HBF := hidE (hfin.bel)
          clear hkT hfin hlen2 g1 hne
          go_wp2_with fail
          ((with_reducible refine HSTR.out.mono ?_); rintro e w5 ⟨rfl, hb5⟩)
          have HB5 := hidE (HBW.out.trans (((HBF.out.trans hb5)).mono (by rw [HBE.out]; exact HBW.out.size)))
          clear hb5
          go_wp2
          refine bodyPost_ret (v := .tuple #[strV (printF fr to' F), .int .i64 0]) (by simp [results, Tryd.results8, go_sem]) rfl ⟨printF fr to' F, 0, rfl, HB5.out, htl, .inr ⟨rfl, F, HK1.out, HK2.out, HK3.out, rfl⟩⟩
end Go.Proofs.YtaeipfnpglbooaaDoor

namespace Go.Proofs.YtaeipfnpglbooaaDoor
open Go.ChangeShapes Go.WideShapes Go.ChangeAt Go.RowKit
attribute [local irreducible] Go.Calls

set_option maxHeartbeats 1000000 in
theorem pequal_c (l r : List Prt) (a a2 : Option Addr) (cap cap2 : Nat) (w : World) (hl : l.length ≤ 9223372036854775807) (hr : r.length ≤ 9223372036854775807) (hA : ArgP w a l) (hA2 : ArgP w a2 r) :
    Calls Tryd.prog 21 #[.slice a l.length cap, .slice a2 r.length cap2] w fun e w' => e = .returned (.bool (decide (l = r))) ∧ Below w.heap.size w w' := by
  have HA := hidE hA; have HA2 := hidE hA2; clear hA hA2
  by_cases hlen : l.length = r.length
  · have e1 : ((l.length : Int) != (r.length : Int)) = false := by rw [bne_eq_false_iff_eq]; omega
    have HS := hidE (fun (i : Nat) (_ : i < l.length) (h : l.getD i pr0 ≠ r.getD i pr0) => show decide (l = r) = false from decide_eq_false fun e => h (by rw [e]))
    have HT := hidE (fun (h : ∀ i, i < l.length → l.getD i pr0 = r.getD i pr0) => show decide (l = r) = true from decide_eq_true (list_extP hlen h))
    have HC := hidE hlen
    clear hlen
    generalize decide (l = r) = ans at *
    go_enter Tryd.func21, Tryd.ntmps21
    go_wp2
    go_loopg [13] l.length (fun g vi wr => ∃ k : Nat, k ≤ l.length ∧ l.length - k ≤ g ∧ vi = .int .i64 k ∧ (∀ i, i < k → l.getD i pr0 = r.getD i pr0) ∧ Below w.heap.size w wr)
    case atStart => exact ⟨0, Nat.zero_le _, Nat.le_refl _, rfl, fun i hi => by omega, Below.refl _ _⟩
    case round =>
      obtain ⟨k, hk, hg, rfl, hs, hb⟩ := hrel
      have HSS := hidE hs; have HB := hidE hb; have HG := hidE hg; clear hs hb hg
      obtain ⟨wo, hwo⟩ : ∃ wo : World, wo = wr := ⟨_, rfl⟩
      by_cases hlt : k < l.length
      · have hltr : k < r.length := by have := HC.out; omega
        obtain ⟨p, off, rfl, hpp, hc⟩ := (HA.out.past HB.out) (by omega)
        obtain ⟨c0, c1, c2, c3, c4⟩ := hc.get hlt
        obtain ⟨p2, off2, rfl, hpp2, hc2⟩ := (HA2.out.past HB.out) (by omega)
        obtain ⟨d0, d1, d2, d3, d4⟩ := hc2.get hltr
        have q1 : decide ((k : Int) < (l.length : Int)) = true := decide_eq_true (by omega)
        have q2 : decide (k < l.length) = true := decide_eq_true hlt
        have q3 : (k : Int) < (r.length : Int) := by omega
        clear hc hc2
        by_cases hne0 : l.getD k pr0 = r.getD k pr0
        · rw [← hne0] at d0 d1 d2 d3 d4
          have HX := hidE (show ∀ i, i < k + 1 → l.getD i pr0 = r.getD i pr0 from fun i hi => by
            by_cases c : i = k
            · rw [c]; exact hne0
            · exact HSS.out i (by omega))
          clear hne0
          generalize l.getD k pr0 = x at *
          go_wp2
          go_quiet (fail)
          go_wp2
          go_roundg (l.length - (k + 1))
          case measure => have := HG.out; omega
          case rel => exact ⟨k + 1, by omega, Nat.le_refl _, by go_num, HX.out, by have := HB.out; (repeat (first | exact Below.refl _ _ | assumption | refine balloc ?_ _ | refine below_drewN ?_ _ | refine bstep (by assumption) ?_ | refine bstep (Past.prop _) ?_ | refine Below.setCell ?_ (by first | exact Nat.le_refl _ | (simp; done) | (simp; omega)) _))⟩
        have HX := hidE (HS.out k hlt hne0)
        generalize l.getD k pr0 = x at *
        generalize r.getD k pr0 = y at *
        by_cases n0 : x.kind = y.kind
        · rw [← n0] at d0
          by_cases n1 : x.n = y.n
          · rw [← n1] at d1
            by_cases n2 : x.g = y.g
            · rw [← n2] at d2
              by_cases n3 : x.d = y.d
              · rw [← n3] at d3
                by_cases n4 : x.kids = y.kids
                · rw [← n4] at d4
                  exact absurd (prt_iff.2 ⟨n0, n1, n2, n3, n4⟩) hne0
                · have b9 : (x.kids == y.kids) = false := beq_eq_false_iff_ne.2 (by omega)
                  clear hne0
                  go_wp2
                  go_quiet (fail)
                  go_wp2
                  go_ret
                  exact ⟨ret_bool HX.out.symm, by have := HB.out; (repeat (first | exact Below.refl _ _ | assumption | refine balloc ?_ _ | refine below_drewN ?_ _ | refine bstep (by assumption) ?_ | refine bstep (Past.prop _) ?_ | refine Below.setCell ?_ (by first | exact Nat.le_refl _ | (simp; done) | (simp; omega)) _))⟩
              · have b8 : (x.d == y.d) = false := beq_eq_false_iff_ne.2 (by omega)
                clear hne0
                go_wp2
                go_quiet (fail)
                go_wp2
                go_ret
                exact ⟨ret_bool HX.out.symm, by have := HB.out; (repeat (first | exact Below.refl _ _ | assumption | refine balloc ?_ _ | refine below_drewN ?_ _ | refine bstep (by assumption) ?_ | refine bstep (Past.prop _) ?_ | refine Below.setCell ?_ (by first | exact Nat.le_refl _ | (simp; done) | (simp; omega)) _))⟩
            · have b7 : (((x.g : Nat) : Int) == ((y.g : Nat) : Int)) = false := beq_eq_false_iff_ne.2 (by omega)
              have b72 : (x.g == y.g) = false := beq_eq_false_iff_ne.2 (by omega)
              clear hne0
              go_wp2
              go_quiet (fail)
              go_wp2
              go_ret
              exact ⟨ret_bool HX.out.symm, by have := HB.out; (repeat (first | exact Below.refl _ _ | assumption | refine balloc ?_ _ | refine below_drewN ?_ _ | refine bstep (by assumption) ?_ | refine bstep (Past.prop _) ?_ | refine Below.setCell ?_ (by first | exact Nat.le_refl _ | (simp; done) | (simp; omega)) _))⟩
          · have b6 : (((x.n : Nat) : Int) == ((y.n : Nat) : Int)) = false := beq_eq_false_iff_ne.2 (by omega)
            have b62 : (x.n == y.n) = false := beq_eq_false_iff_ne.2 (by omega)
            clear hne0
            go_wp2
            go_quiet (fail)
            go_wp2
            go_ret
            exact ⟨ret_bool HX.out.symm, by have := HB.out; (repeat (first | exact Below.refl _ _ | assumption | refine balloc ?_ _ | refine below_drewN ?_ _ | refine bstep (by assumption) ?_ | refine bstep (Past.prop _) ?_ | refine Below.setCell ?_ (by first | exact Nat.le_refl _ | (simp; done) | (simp; omega)) _))⟩
        · have b5 : (((x.kind : Nat) : Int) == ((y.kind : Nat) : Int)) = false := beq_eq_false_iff_ne.2 (by omega)
          have b52 : (x.kind == y.kind) = false := beq_eq_false_iff_ne.2 (by omega)
          clear hne0
          go_wp2
          go_quiet (fail)
          go_wp2
          go_ret
          exact ⟨ret_bool HX.out.symm, by have := HB.out; (repeat (first | exact Below.refl _ _ | assumption | refine balloc ?_ _ | refine below_drewN ?_ _ | refine bstep (by assumption) ?_ | refine bstep (Past.prop _) ?_ | refine Below.setCell ?_ (by first | exact Nat.le_refl _ | (simp; done) | (simp; omega)) _))⟩
      · have q1 : decide ((k : Int) < (l.length : Int)) = false := decide_eq_false (by omega)
        have q2 : decide (k < l.length) = false := decide_eq_false hlt
        have HX := hidE (HT.out (fun i hi => HSS.out i (by omega)))
        go_wp2
        go_ret
        exact ⟨ret_bool HX.out.symm, HB.out⟩
  · have e1 : ((l.length : Int) != (r.length : Int)) = true := bne_iff_ne.2 (by omega)
    have HX := hidE (show decide (l = r) = false from decide_eq_false fun e => hlen (by rw [e]))
    clear hlen
    generalize decide (l = r) = ans at *
    go_enter Tryd.func21, Tryd.ntmps21
    go_wp2
    go_ret
    exact ⟨ret_bool HX.out.symm, Below.refl _ _⟩
set_option maxHeartbeats 1000000 in
theorem psame_c (d e : Df) (a a2 : Option Addr) (cap cap2 : Nat) (w : World) (hl : d.T.length ≤ 100000) (hl2 : e.T.length ≤ 100000) (hA : ArgP w a d.T) (hA2 : ArgP w a2 e.T) : Calls Tryd.prog 14 #[defV d.fr d.to' a d.T.length cap, defV e.fr e.to' a2 e.T.length cap2] w fun x w' => x = .returned (.bool (sameD d e)) ∧ Below w.heap.size w w' := by
  obtain ⟨f1, t1, l⟩ := d
  obtain ⟨f2, t2, r⟩ := e
  simp only at hl hl2 hA hA2
  show Calls _ _ #[defV f1 t1 a l.length cap, defV f2 t2 a2 r.length cap2] _ _
  have HE := hidE (fun w' (hb : Below w.heap.size w w') => pequal_c l r a a2 cap cap2 w' (by omega) (by omega) (hA.past hb) (hA2.past hb))
  have hs : sameD ⟨f1, t1, l⟩ ⟨f2, t2, r⟩ = (decide (f1 = f2) && (decide (t1 = t2) && decide (l = r))) := by
    unfold sameD
    by_cases c1 : f1 = f2 <;> by_cases c2 : t1 = t2 <;> by_cases c3 : l = r <;> simp [df_iff, c1, c2, c3]
  rw [hs]
  clear hs hA hA2
  generalize decide (l = r) = ans at *
  by_cases c1 : f1 = f2
  · have b1 : (f1 == f2) = true := beq_iff_eq.2 c1
    rw [decide_eq_true c1, Bool.true_and]
    by_cases c2 : t1 = t2
    · have b2 : (t1 == t2) = true := beq_iff_eq.2 c2
      rw [decide_eq_true c2, Bool.true_and]
      clear c1 c2
      go_enter Tryd.func14, Tryd.ntmps14
      go_wp2_with fail
      ((with_reducible refine (HE.out _ (by (repeat (first | exact Below.refl _ _ | assumption | refine balloc ?_ _ | refine below_drewN ?_ _ | refine bstep (by assumption) ?_ | refine bstep (Past.prop _) ?_ | refine Below.setCell ?_ (by first | exact Nat.le_refl _ | (simp; done) | (simp; omega)) _)))).mono ?_); rintro e w1 ⟨rfl, hb⟩)
      have HB := hidE (show Below w.heap.size w w1 by (repeat (first | exact Below.refl _ _ | assumption | refine balloc ?_ _ | refine below_drewN ?_ _ | refine bstep (by assumption) ?_ | refine bstep (Past.prop _) ?_ | refine Below.setCell ?_ (by first | exact Nat.le_refl _ | (simp; done) | (simp; omega)) _)))
      clear hb
      go_wp2
      go_ret
      exact ⟨rfl, HB.out⟩
    · have b2 : (t1 == t2) = false := beq_eq_false_iff_ne.2 c2
      rw [decide_eq_false c2, Bool.false_and]
      clear c1 c2
      go_enter Tryd.func14, Tryd.ntmps14
      go_wp2
      go_ret
      exact ⟨rfl, by (repeat (first | exact Below.refl _ _ | assumption | refine balloc ?_ _ | refine below_drewN ?_ _ | refine bstep (by assumption) ?_ | refine bstep (Past.prop _) ?_ | refine Below.setCell ?_ (by first | exact Nat.le_refl _ | (simp; done) | (simp; omega)) _))⟩
  · have b1 : (f1 == f2) = false := beq_eq_false_iff_ne.2 c1
    rw [decide_eq_false c1, Bool.false_and]
    clear c1
    go_enter Tryd.func14, Tryd.ntmps14
    go_wp2
    go_ret
    exact ⟨rfl, by (repeat (first | exact Below.refl _ _ | assumption | refine balloc ?_ _ | refine below_drewN ?_ _ | refine bstep (by assumption) ?_ | refine bstep (Past.prop _) ?_ | refine Below.setCell ?_ (by first | exact Nat.le_refl _ | (simp; done) | (simp; omega)) _))⟩
end Go.Proofs.YtaeipfnpglbooaaDoor

namespace Go.Proofs.YtaeipfnpglbooaaDoor
end Go.Proofs.YtaeipfnpglbooaaDoor

namespace Go.Proofs.YtaeipfnpglbooaaDoor
open Go.ChangeShapes Go.WideShapes Go.ChangeAt Go.RowKit
attribute [local irreducible] Go.Calls

set_option maxHeartbeats 1000000 in
theorem rsame7_c (d e : Df) (a a2 : Option Addr) (cap cap2 : Nat) (w : World) (hl : d.T.length ≤ 9223372036854775807) (hl2 : e.T.length ≤ 9223372036854775807) (hA : ArgP w a d.T) (hA2 : ArgP w a2 e.T) :
    Calls Tryd.prog 9 #[defV d.fr d.to' a d.T.length cap, defV e.fr e.to' a2 e.T.length cap2] w fun x w' => x = .returned (.bool (sameD d e)) ∧ Below w.heap.size w w' := by
  have HA := hidE hA; have HA2 := hidE hA2
  clear hA hA2
  obtain ⟨f1, t1, l⟩ := d
  obtain ⟨f2, t2, r⟩ := e
  simp only at HA HA2 hl hl2
  show Calls _ _ #[defV f1 t1 a l.length cap, defV f2 t2 a2 r.length cap2] _ _
  have hno : f1 ≠ f2 ∨ t1 ≠ t2 ∨ l.length ≠ r.length → sameD ⟨f1, t1, l⟩ ⟨f2, t2, r⟩ = false := fun h => decide_eq_false fun e => by
    rw [df_iff] at e
    obtain ⟨e1, e2, e3⟩ := e
    simp only at e1 e2 e3
    rcases h with h | h | h
    · exact h e1
    · exact h e2
    · exact h (congrArg List.length e3)
  by_cases c1 : f1 = f2
  · by_cases c2 : t1 = t2
    · by_cases c3 : l.length = r.length
      · have b1 : (f1 != f2) = false := by rw [bne_eq_false_iff_eq]; exact c1
        have b2 : (t1 != t2) = false := by rw [bne_eq_false_iff_eq]; exact c2
        have b3 : ((l.length : Int) != (r.length : Int)) = false := by rw [bne_eq_false_iff_eq]; omega
        have HS := hidE (fun (i : Nat) (hi : i < l.length) (h : l.getD i pr0 ≠ r.getD i pr0) => show sameD ⟨f1, t1, l⟩ ⟨f2, t2, r⟩ = false from decide_eq_false fun e => by
          rw [df_iff] at e
          have e3 : l = r := e.2.2
          exact h (by rw [e3]))
        have HT := hidE (fun (h : ∀ i, i < l.length → l.getD i pr0 = r.getD i pr0) => show sameD ⟨f1, t1, l⟩ ⟨f2, t2, r⟩ = true from decide_eq_true (df_iff.2 ⟨c1, c2, list_extP c3 h⟩))
        have HC := hidE c3
        clear hno c1 c2 c3
        generalize sameD ⟨f1, t1, l⟩ ⟨f2, t2, r⟩ = ans at *
        go_enter Tryd.func9, Tryd.ntmps9
        go_wp2
        go_loopg [5] l.length (fun g vi wr => ∃ k : Nat, k ≤ l.length ∧ l.length - k ≤ g ∧ vi = .int .i64 k ∧ (∀ i, i < k → l.getD i pr0 = r.getD i pr0) ∧ Below w.heap.size w wr ∧
          Blk wr w.heap.size #[.int .i64 f1, .int .i64 t1, .slice a l.length cap] 24 ∧ Blk wr (w.heap.size + 1) #[.int .i64 f2, .int .i64 t2, .slice a2 r.length cap2] 24)
        case atStart => exact ⟨0, Nat.zero_le _, Nat.le_refl _, rfl, fun i hi => by omega, by (repeat (first | exact Below.refl _ _ | assumption | refine balloc ?_ _ | refine below_drewN ?_ _ | refine bstep (by assumption) ?_ | refine bstep (Past.prop _) ?_ | refine Below.setCell ?_ (by first | exact Nat.le_refl _ | (simp; done) | (simp; omega)) _)), (Blk.made _ _ _).alloc _, Blk.made_at _ _ _ _ (by simp)⟩
        case round =>
          obtain ⟨k, hk, hg, rfl, hs, hb, hB1, hB2⟩ := hrel
          have HSS := hidE hs; have HB := hidE hb; have HB1 := hidE hB1; have HB2 := hidE hB2; have HG := hidE hg
          have p0 := hB1.cell 2; have pz := hB1.lt; have p1 := hB2.cell 2; have pz1 := hB2.lt
          simp at p0 p1
          clear hs hb hB1 hB2 hg
          obtain ⟨wo, hwo⟩ : ∃ wo : World, wo = wr := ⟨_, rfl⟩
          by_cases hlt : k < l.length
          · have hltr : k < r.length := by have := HC.out; omega
            obtain ⟨p, off, rfl, hpp, hc⟩ := (HA.out.past HB.out) (by omega)
            obtain ⟨c0, c1, c2, c3, c4⟩ := hc.get hlt
            obtain ⟨p', off', rfl, hpp', hc'⟩ := (HA2.out.past HB.out) (by omega)
            obtain ⟨d0, d1, d2, d3, d4⟩ := hc'.get hltr
            have q1 : decide ((k : Int) < (l.length : Int)) = true := decide_eq_true (by omega)
            have q2 : decide (k < l.length) = true := decide_eq_true hlt
            have q3 : (k : Int) < (r.length : Int) := by omega
            clear hc hc'
            by_cases hne0 : l.getD k pr0 = r.getD k pr0
            · rw [← hne0] at d0 d1 d2 d3 d4
              have HX := hidE (show ∀ i, i < k + 1 → l.getD i pr0 = r.getD i pr0 from fun i hi => by
                by_cases c : i = k
                · rw [c]; exact hne0
                · exact HSS.out i (by omega))
              clear hne0
              generalize l.getD k pr0 = x at *
              go_wp2
              go_quiet (fail)
              go_wp2
              go_roundg (l.length - (k + 1))
              case measure => have := HG.out; omega
              case rel => exact ⟨k + 1, by omega, Nat.le_refl _, by go_num, HX.out, by have := HB.out; (repeat (first | exact Below.refl _ _ | assumption | refine balloc ?_ _ | refine below_drewN ?_ _ | refine bstep (by assumption) ?_ | refine bstep (Past.prop _) ?_ | refine Below.setCell ?_ (by first | exact Nat.le_refl _ | (simp; done) | (simp; omega)) _)), HB1.out.drew _, HB2.out.drew _⟩
            · have HX := hidE (HS.out k hlt hne0)
              generalize l.getD k pr0 = x at *
              generalize r.getD k pr0 = y at *
              by_cases n0 : x.kind = y.kind
              · rw [← n0] at d0
                by_cases n1 : x.n = y.n
                · rw [← n1] at d1
                  by_cases n2 : x.g = y.g
                  · rw [← n2] at d2
                    by_cases n3 : x.d = y.d
                    · rw [← n3] at d3
                      by_cases n4 : x.kids = y.kids
                      · rw [← n4] at d4
                        exact absurd (prt_iff.2 ⟨n0, n1, n2, n3, n4⟩) hne0
                      · have b9 : (x.kids == y.kids) = false := beq_eq_false_iff_ne.2 (by omega)
                        clear hne0
                        go_wp2
                        go_quiet (fail)
                        go_wp2
                        go_ret
                        exact ⟨ret_bool HX.out.symm, by have := HB.out; (repeat (first | exact Below.refl _ _ | assumption | refine balloc ?_ _ | refine below_drewN ?_ _ | refine bstep (by assumption) ?_ | refine bstep (Past.prop _) ?_ | refine Below.setCell ?_ (by first | exact Nat.le_refl _ | (simp; done) | (simp; omega)) _))⟩
                    · have b8 : (x.d == y.d) = false := beq_eq_false_iff_ne.2 (by omega)
                      clear hne0
                      go_wp2
                      go_quiet (fail)
                      go_wp2
                      go_ret
                      exact ⟨ret_bool HX.out.symm, by have := HB.out; (repeat (first | exact Below.refl _ _ | assumption | refine balloc ?_ _ | refine below_drewN ?_ _ | refine bstep (by assumption) ?_ | refine bstep (Past.prop _) ?_ | refine Below.setCell ?_ (by first | exact Nat.le_refl _ | (simp; done) | (simp; omega)) _))⟩
                  · have b7 : (((x.g : Nat) : Int) == ((y.g : Nat) : Int)) = false := beq_eq_false_iff_ne.2 (by omega)
                    have b7' : (x.g == y.g) = false := beq_eq_false_iff_ne.2 (by omega)
                    clear hne0
                    go_wp2
                    go_quiet (fail)
                    go_wp2
                    go_ret
                    exact ⟨ret_bool HX.out.symm, by have := HB.out; (repeat (first | exact Below.refl _ _ | assumption | refine balloc ?_ _ | refine below_drewN ?_ _ | refine bstep (by assumption) ?_ | refine bstep (Past.prop _) ?_ | refine Below.setCell ?_ (by first | exact Nat.le_refl _ | (simp; done) | (simp; omega)) _))⟩
                · have b6 : (((x.n : Nat) : Int) == ((y.n : Nat) : Int)) = false := beq_eq_false_iff_ne.2 (by omega)
                  have b6' : (x.n == y.n) = false := beq_eq_false_iff_ne.2 (by omega)
                  clear hne0
                  go_wp2
                  go_quiet (fail)
                  go_wp2
                  go_ret
                  exact ⟨ret_bool HX.out.symm, by have := HB.out; (repeat (first | exact Below.refl _ _ | assumption | refine balloc ?_ _ | refine below_drewN ?_ _ | refine bstep (by assumption) ?_ | refine bstep (Past.prop _) ?_ | refine Below.setCell ?_ (by first | exact Nat.le_refl _ | (simp; done) | (simp; omega)) _))⟩
              · have b5 : (((x.kind : Nat) : Int) == ((y.kind : Nat) : Int)) = false := beq_eq_false_iff_ne.2 (by omega)
                have b5' : (x.kind == y.kind) = false := beq_eq_false_iff_ne.2 (by omega)
                clear hne0
                go_wp2
                go_quiet (fail)
                go_wp2
                go_ret
                exact ⟨ret_bool HX.out.symm, by have := HB.out; (repeat (first | exact Below.refl _ _ | assumption | refine balloc ?_ _ | refine below_drewN ?_ _ | refine bstep (by assumption) ?_ | refine bstep (Past.prop _) ?_ | refine Below.setCell ?_ (by first | exact Nat.le_refl _ | (simp; done) | (simp; omega)) _))⟩
          · have q1 : decide ((k : Int) < (l.length : Int)) = false := decide_eq_false (by omega)
            have q2 : decide (k < l.length) = false := decide_eq_false hlt
            have HX := hidE (HT.out (fun i hi => HSS.out i (by omega)))
            go_wp2
            go_ret
            exact ⟨ret_bool HX.out.symm, HB.out⟩
      · have HN := hidE (hno (.inr (.inr c3)))
        have b1 : (f1 != f2) = false := by rw [bne_eq_false_iff_eq]; exact c1
        have b2 : (t1 != t2) = false := by rw [bne_eq_false_iff_eq]; exact c2
        have b3 : ((l.length : Int) != (r.length : Int)) = true := bne_iff_ne.2 (by omega)
        clear hno c1 c2 c3
        rw [HN.out]
        go_enter Tryd.func9, Tryd.ntmps9
        go_wp2
        go_ret
        exact ⟨rfl, by (repeat (first | exact Below.refl _ _ | assumption | refine balloc ?_ _ | refine below_drewN ?_ _ | refine bstep (by assumption) ?_ | refine bstep (Past.prop _) ?_ | refine Below.setCell ?_ (by first | exact Nat.le_refl _ | (simp; done) | (simp; omega)) _))⟩
    · have HN := hidE (hno (.inr (.inl c2)))
      have b1 : (f1 != f2) = false := by rw [bne_eq_false_iff_eq]; exact c1
      have b2 : (t1 != t2) = true := bne_iff_ne.2 c2
      clear hno c1 c2
      rw [HN.out]
      go_enter Tryd.func9, Tryd.ntmps9
      go_wp2
      go_ret
      exact ⟨rfl, by (repeat (first | exact Below.refl _ _ | assumption | refine balloc ?_ _ | refine below_drewN ?_ _ | refine bstep (by assumption) ?_ | refine bstep (Past.prop _) ?_ | refine Below.setCell ?_ (by first | exact Nat.le_refl _ | (simp; done) | (simp; omega)) _))⟩
  · have HN := hidE (hno (.inl c1))
    have b1 : (f1 != f2) = true := bne_iff_ne.2 c1
    clear hno c1
    rw [HN.out]
    go_enter Tryd.func9, Tryd.ntmps9
    go_wp2
    go_ret
    exact ⟨rfl, by (repeat (first | exact Below.refl _ _ | assumption | refine balloc ?_ _ | refine below_drewN ?_ _ | refine bstep (by assumption) ?_ | refine bstep (Past.prop _) ?_ | refine Below.setCell ?_ (by first | exact Nat.le_refl _ | (simp; done) | (simp; omega)) _))⟩
end Go.Proofs.YtaeipfnpglbooaaDoor

namespace Go.Proofs.YtaeipfnpglbooaaDoor

def parseF (s : List UInt8) : Df × Nat × Int :=
  if 4096 < s.length then (df0, 0, 3) else match lexF s.length 0 s with
  | .error p => (df0, p, 60)
  | .ok l => match defP l with
    | .ok r => (⟨r.1, r.2.1, r.2.2.flat⟩, 0, 0)
    | .error e => (df0, e.2.getD s.length, e.1)
theorem parseF_eq (s : List UInt8) : parseF s = parseS s := by unfold parseF parseS; rw [lexF_eq _ _ _ (Nat.le_refl _)]; rfl
/-- The text of the document's example. -/
def hp0 : List UInt8 := [102, 114, 111, 109, 32, 48, 32, 116, 111, 32, 49, 48, 48, 58, 32, 40, 111, 114, 100, 101, 114, 32, 40, 97, 116, 111, 109, 32, 50, 32, 49, 32, 49, 48, 41, 32, 40, 97, 110, 121, 32, 40, 97, 116, 111, 109, 32, 52, 32, 50, 32, 53, 41, 32, 40, 97, 116, 111, 109, 32, 49, 32, 49, 32, 50, 48, 41, 41, 41]
def hp0T : List Prt := [⟨1, 0, 0, 0, 2⟩, ⟨0, 2, 1, 10, 0⟩, ⟨3, 0, 0, 0, 2⟩, ⟨0, 4, 2, 5, 0⟩, ⟨0, 1, 1, 20, 0⟩]
def hp0F : Fst := .cons ⟨1, 0, 0, 0, 0⟩ (.cons ⟨0, 2, 1, 10, 0⟩ .nil (.cons ⟨3, 0, 0, 0, 0⟩ (.cons ⟨0, 4, 2, 5, 0⟩ .nil (.cons ⟨0, 1, 1, 20, 0⟩ .nil .nil)) .nil)) .nil
theorem hp0_parse : parseS hp0 = (⟨0, 100, hp0T⟩, 0, 0) := (parseF_eq hp0).symm.trans (by decide +kernel)
theorem hp0_flat : hp0F.flat = hp0T := rfl
theorem hp0_tree : treeB hp0T = true := by decide +kernel
theorem hp0_cut : treeB (hp0T.take 4) = false := by decide +kernel
theorem nil_tree : treeB [] = false := by decide +kernel
theorem hp1_parse : parseS [102, 114, 111, 109, 32, 48, 32, 116, 111, 32, 57, 32, 40, 97, 116, 111, 109, 32, 49, 32, 49, 32, 49, 41] = (df0, 12, 70) := (parseF_eq _).symm.trans (by decide +kernel)
theorem hp2_parse : parseS [102, 114, 111, 109, 32, 48, 32, 116, 111, 32, 57, 58, 32, 40, 111, 114, 100, 101, 114, 41] = (df0, 19, 70) := (parseF_eq _).symm.trans (by decide +kernel)
theorem hp3_parse : parseS [102, 114, 111, 109, 32, 48, 32, 116, 111, 32, 57, 58, 32, 40, 97, 116, 111, 109, 32, 49, 32, 49, 41] = (df0, 22, 70) := (parseF_eq _).symm.trans (by decide +kernel)
theorem hp4_parse : parseS hp0.dropLast = (df0, 68, 70) := (parseF_eq _).symm.trans (by decide +kernel)
theorem hp5_parse : parseS [] = (df0, 0, 70) := (parseF_eq _).symm.trans (by decide +kernel)
theorem hp6_parse : parseS [102, 114, 111, 109, 32, 48, 32, 116, 111, 32, 57, 58, 32, 40, 97, 116, 111, 109, 32, 52, 50, 57, 52, 57, 54, 55, 50, 57, 54, 32, 49, 32, 49, 41] = (df0, 19, 70) := (parseF_eq _).symm.trans (by decide +kernel)
theorem flat_inj : ∀ (F G : Fst) (r r' : List Prt), F.kok → G.kok → F.len = G.len → F.flat ++ r = G.flat ++ r' → F = G ∧ r = r'
  | .nil, .nil, r, r', _, _, _, h => ⟨rfl, h⟩
  | .nil, .cons _ _ _, _, _, _, _, h, _ => by simp [Fst.len] at h
  | .cons _ _ _, .nil, _, _, _, _, h, _ => by simp [Fst.len] at h
  | .cons x k n, .cons y k' n', r, r', ⟨_, x0, f1, f2⟩, ⟨_, y0, g1, g2⟩, hl, h => by
    simp only [Fst.flat, List.cons_append, List.append_assoc, List.cons.injEq] at h
    obtain ⟨h1, h2⟩ := h
    obtain ⟨x1, x2, x3, x4, x5⟩ := x
    obtain ⟨y1, y2, y3, y4, y5⟩ := y
    simp only [Prt.mk.injEq] at h1 x0 y0
    obtain ⟨rfl, rfl, rfl, rfl, h3⟩ := h1
    obtain ⟨rfl, h4⟩ := flat_inj k k' _ _ f1 g1 (by omega) h2
    obtain ⟨rfl, h5⟩ := flat_inj n n' _ _ f2 g2 (by simp only [Fst.len] at hl; omega) h4
    exact ⟨by rw [x0, y0], h5⟩
theorem dig_small {n : Nat} (h : n < 10) : digG n = [UInt8.ofNat (48 + n)] := by rw [digG, if_pos h]
theorem dig_big {n : Nat} (h : ¬ n < 10) : digG n = digG (n / 10) ++ [UInt8.ofNat (48 + n % 10)] := by rw [digG, if_neg h]
theorem dc0 : decS 0 = [48] := (decS_of (by decide)).trans (dig_small (by decide))
theorem dc1 : decS 1 = [49] := (decS_of (by decide)).trans (dig_small (by decide))
theorem dc2 : decS 2 = [50] := (decS_of (by decide)).trans (dig_small (by decide))
theorem dc4 : decS 4 = [52] := (decS_of (by decide)).trans (dig_small (by decide))
theorem dc5 : decS 5 = [53] := (decS_of (by decide)).trans (dig_small (by decide))
theorem dg10 : digG 10 = [49, 48] := (dig_big (by decide)).trans (congrArg (· ++ [48]) (dig_small (n := 1) (by decide)))
theorem dg20 : digG 20 = [50, 48] := (dig_big (by decide)).trans (congrArg (· ++ [48]) (dig_small (n := 2) (by decide)))
theorem dc10 : decS 10 = [49, 48] := (decS_of (by decide)).trans dg10
theorem dc20 : decS 20 = [50, 48] := (decS_of (by decide)).trans dg20
theorem dc100 : decS 100 = [49, 48, 48] := (decS_of (by decide)).trans ((dig_big (by decide)).trans (congrArg (· ++ [48]) dg10))
theorem hp0_print : printF 0 100 hp0F = hp0 := by
  simp only [printF, hp0F, textF, Int.cast_ofNat_Int, dc0, dc1, dc2, dc4, dc5, dc10, dc20, dc100]
  decide +kernel
theorem hp0_kok : hp0F.kok := by simp [hp0F, Fst.kok]
/-- Whatever tree the example's parts are read as, its text is the example's. -/
theorem hp0_text {F : Fst} (h : F.kok) (h1 : F.len = 1) (h2 : hp0T = F.flat) : printF 0 100 F = hp0 := by
  have := (flat_inj hp0F F [] [] hp0_kok h (by rw [h1]; rfl) (by rw [List.append_nil, List.append_nil, ← h2]; rfl)).1
  rw [← this]
  exact hp0_print
end Go.Proofs.YtaeipfnpglbooaaDoor

namespace Go.Proofs.YtaeipfnpglbooaaDoor
open Go.ChangeShapes Go.WideShapes Go.ChangeAt Go.RowKit
attribute [local irreducible] Go.Calls

theorem par_is {s : List UInt8} {d : Df} {p : Nat} {er : Int} (h : parseS s = (d, p, er)) (hs : s.length ≤ 9223372036854775807) (ba : ByteArray) (hb : ba = ⟨s.toArray⟩) (w : World) (hT : Tab w) : Calls Tryd.prog 7 #[.string ba] w (ParIs w d p er) := by
  have := parse_c s w hs hT
  rw [h] at this
  rw [hb]
  exact this
theorem bad_c (s : List UInt8) (p : Nat) (z : Int) (hz : z = p) (ba : ByteArray) (hb : ba = ⟨s.toArray⟩) (h : s.length ≤ 4096) (h2 : parseS s = (df0, p, 70)) (w : World) (hT : Tab w) : Calls Tryd.prog 13 #[.string ba, .int .i64 z] w fun e w' => e = .returned (.bool true) ∧ Below w.heap.size w w' := by
  have HL := hidE (fun w hT => par_is h2 (by omega) ba hb w hT)
  have HT := hidE hT; clear hT
  have SM := hidE (fun (a : Option Addr) (cap : Nat) w => show Calls Tryd.prog 9 #[defV 0 0 a 0 cap, defV 0 0 none 0 0] w fun e w' => e = .returned (.bool true) ∧ Below w.heap.size w w' from rsame7_c df0 df0 a none cap 0 w (by decide) (by decide) (fun h => absurd h (by decide)) (fun h => absurd h (by decide)))
  subst hz
  clear h h2 hb
  go_enter Tryd.func13, Tryd.ntmps13
  go_wp2_with fail
  ((with_reducible refine (HL.out _ (HT.out.past (by (repeat (first | exact Below.refl _ _ | assumption | refine balloc ?_ _ | refine below_drewN ?_ _ | refine bstep (by assumption) ?_ | refine bstep (Past.prop _) ?_ | refine Below.setCell ?_ (by first | exact Nat.le_refl _ | (simp; done) | (simp; omega)) _))))).mono ?_))
  rintro e w1 ⟨a, cap, rfl, _, _, _, hb1⟩
  simp only [df0, List.length_nil]
  have HB1 := hidE hb1; clear hb1
  go_wp2_with fail
  ((with_reducible refine (SM.out _ _ _).mono ?_))
  rintro e w2 ⟨rfl, hb2⟩
  have HB2 := hidE hb2; clear hb2
  go_wp2
  go_ret
  exact ⟨rfl, by have := HB1.out; have := HB2.out; (repeat (first | exact Below.refl _ _ | assumption | refine balloc ?_ _ | refine below_drewN ?_ _ | refine bstep (by assumption) ?_ | refine bstep (Past.prop _) ?_ | refine Below.setCell ?_ (by first | exact Nat.le_refl _ | (simp; done) | (simp; omega)) _))⟩
/-- What head keeps: the definition that was read, the one that it wants. -/
def HdSt (w0 : World) (p : Nat) (a1 : Option Addr) (c1 : Nat) (w : World) : Prop := Below w0.heap.size w0 w ∧ Blk w p #[.int .i64 0, .int .i64 100, .slice a1 5 c1] 24 ∧ Blk w (p + 1 + 1) #[.int .i64 0, .int .i64 100, .slice (some ⟨p + 1, 0, none⟩) 5 5] 24 ∧ ArgP w (some ⟨p + 1, 0, none⟩) hp0T ∧ ArgP w a1 hp0T
theorem HdSt.past {w0 : World} {p : Nat} {a1 : Option Addr} {c1 : Nat} {w w' : World} (h : HdSt w0 p a1 c1 w) (hb : Below w.heap.size w w') : HdSt w0 p a1 c1 w' := ⟨h.1.trans (hb.mono h.1.size), h.2.1.past hb, h.2.2.1.past hb, h.2.2.2.1.past hb, h.2.2.2.2.past hb⟩
theorem HdSt.bel {w0 : World} {p : Nat} {a1 : Option Addr} {c1 : Nat} {w : World} (h : HdSt w0 p a1 c1 w) : Below w0.heap.size w0 w := h.1
theorem HdSt.d1 {w0 : World} {p : Nat} {a1 : Option Addr} {c1 : Nat} {w : World} (h : HdSt w0 p a1 c1 w) : Blk w p #[.int .i64 0, .int .i64 100, .slice a1 5 c1] 24 := h.2.1
theorem HdSt.d2 {w0 : World} {p : Nat} {a1 : Option Addr} {c1 : Nat} {w : World} (h : HdSt w0 p a1 c1 w) : Blk w (p + 1 + 1) #[.int .i64 0, .int .i64 100, .slice (some ⟨p + 1, 0, none⟩) 5 5] 24 := h.2.2.1
theorem HdSt.want {w0 : World} {p : Nat} {a1 : Option Addr} {c1 : Nat} {w : World} (h : HdSt w0 p a1 c1 w) : ArgP w (some ⟨p + 1, 0, none⟩) hp0T := h.2.2.2.1
theorem HdSt.got {w0 : World} {p : Nat} {a1 : Option Addr} {c1 : Nat} {w : World} (h : HdSt w0 p a1 c1 w) : ArgP w a1 hp0T := h.2.2.2.2
theorem hp0_w : ∀ x ∈ hp0T, PrtW x := by
  intro x hx
  simp only [hp0T, List.mem_cons, List.not_mem_nil, or_false] at hx
  rcases hx with rfl | rfl | rfl | rfl | rfl <;> exact ⟨by decide, by decide, by decide, ⟨by decide, by decide⟩, by decide, by decide⟩
theorem hd_print (a : Option Addr) (c : Nat) (w : World) (hT : Tab w) (h : ArgP w a hp0T) : Calls Tryd.prog 8 #[defV 0 100 a 5 c] w fun e w' => e = .returned (.tuple #[.string ⟨hp0.toArray⟩, .int .i64 0]) ∧ Below w.heap.size w w' := by
  refine (print_c 0 100 (by decide) (by decide) hp0T hp0_w a c w (by decide) h hT).mono ?_
  rintro e w' ⟨t, er, rfl, hb, _, ⟨h1, _⟩ | ⟨rfl, F, h1, h2, h3, rfl⟩⟩
  · rw [hp0_tree] at h1; cases h1
  · rw [hp0_text h1 h2 h3]; exact ⟨rfl, hb⟩
theorem hd_cut (a : Option Addr) (c : Nat) (w : World) (hT : Tab w) (h : ArgP w a hp0T) : Calls Tryd.prog 8 #[defV 0 0 a 4 c] w fun e w' => e = .returned (.tuple #[.string ⟨#[]⟩, .int .i64 81]) ∧ Below w.heap.size w w' := by
  refine (print_c 0 0 (by decide) (by decide) (hp0T.take 4) (fun x hx => hp0_w x (List.mem_of_mem_take hx)) a c w (by decide) (argP_take 4 h) hT).mono ?_
  rintro e w' ⟨t, er, rfl, hb, _, ⟨h1, rfl, rfl⟩ | ⟨rfl, F, h1, h2, h3, rfl⟩⟩
  · exact ⟨rfl, hb⟩
  · have := tree_iff.2 ⟨F, h1, h2, h3⟩
    rw [hp0_cut] at this
    cases this
theorem hd_same (a a2 : Option Addr) (c c2 : Nat) (w : World) (h : ArgP w a hp0T) (h2 : ArgP w a2 hp0T) : Calls Tryd.prog 9 #[defV 0 100 a 5 c, defV 0 100 a2 5 c2] w fun e w' => e = .returned (.bool true) ∧ Below w.heap.size w w' := by
  have := rsame7_c ⟨0, 100, hp0T⟩ ⟨0, 100, hp0T⟩ a a2 c c2 w (by decide) (by decide) h h2
  rw [show sameD ⟨0, 100, hp0T⟩ ⟨0, 100, hp0T⟩ = true from decide_eq_true rfl] at this
  exact this
theorem hd_psame (a a2 : Option Addr) (c c2 : Nat) (w : World) (h : ArgP w a hp0T) (h2 : ArgP w a2 hp0T) : Calls Tryd.prog 14 #[defV 0 100 a 5 c, defV 0 100 a2 5 c2] w fun e w' => e = .returned (.bool true) ∧ Below w.heap.size w w' := by
  have := psame_c ⟨0, 100, hp0T⟩ ⟨0, 100, hp0T⟩ a a2 c c2 w (by decide) (by decide) h h2
  rw [show sameD ⟨0, 100, hp0T⟩ ⟨0, 100, hp0T⟩ = true from decide_eq_true rfl] at this
  exact this
theorem hd_nil (w : World) : Calls Tryd.prog 10 #[.slice none 0 0] w fun e w' => e = .returned (.bool false) ∧ Below w.heap.size w w' := by
  have := tree_c [] (fun x h => by cases h) none 0 w (by decide) (fun h => absurd h (by decide))
  rw [nil_tree] at this
  exact this
set_option maxRecDepth 100000 in
set_option maxHeartbeats 2000000 in
theorem head_c (w : World) (hT : Tab w) : Calls Tryd.prog 6 #[] w fun e w' => e = .returned (.bool true) ∧ Below w.heap.size w w' := by
  have HT := hidE hT; clear hT
  have H0 := hidE (fun (ba : ByteArray) (hb : ba = ⟨hp0.toArray⟩) w hT => par_is hp0_parse (by decide) ba hb w hT)
  go_enter Tryd.func6, Tryd.ntmps6
  go_wp2_with fail
  ((with_reducible refine (H0.out _ ?hb _ (HT.out.past (by (repeat (first | exact Below.refl _ _ | assumption | refine balloc ?_ _ | refine below_drewN ?_ _ | refine bstep (by assumption) ?_ | refine bstep (Past.prop _) ?_ | refine Below.setCell ?_ (by first | exact Nat.le_refl _ | (simp; done) | (simp; omega)) _))))).mono ?_))
  case hb => rfl
  rintro e w1 ⟨a1, c1, rfl, _, _, hA1, hb1⟩
  simp only [show hp0T.length = 5 from rfl]
  go_wp2_with fail
  have HH : HdSt w w1.heap.size a1 c1 (((w1.alloc (.cells #[.int .i64 0, .int .i64 100, .slice a1 5 c1] 24)).alloc (.cells (cellsOfP hp0T).toArray 41)).alloc (.cells #[.int .i64 0, .int .i64 100, .slice (some ⟨w1.heap.size + 1, 0, none⟩) 5 5] 24)) := by
    refine ⟨by (repeat (first | exact Below.refl _ _ | assumption | refine balloc ?_ _ | refine below_drewN ?_ _ | refine bstep (by assumption) ?_ | refine bstep (Past.prop _) ?_ | refine Below.setCell ?_ (by first | exact Nat.le_refl _ | (simp; done) | (simp; omega)) _)), ((Blk.made _ _ _).alloc _).alloc _, Blk.made_at _ _ _ _ (by simp), argP_blk (t := 41) ((Blk.made_at _ _ _ _ (by simp)).alloc _), hA1.past (by (repeat (first | exact Below.refl _ _ | assumption | refine balloc ?_ _ | refine below_drewN ?_ _ | refine bstep (by assumption) ?_ | refine bstep (Past.prop _) ?_ | refine Below.setCell ?_ (by first | exact Nat.le_refl _ | (simp; done) | (simp; omega)) _)))⟩
  simp only [hp0T, cellsOfP] at HH
  have HS := hidE HH; clear HH hA1 hb1
  generalize World.alloc _ (.cells #[.int .i64 0, .int .i64 100, .slice (some ⟨w1.heap.size + 1, 0, none⟩) 5 5] 24) = w2 at *
  generalize w1.heap.size = p at *
  ((with_reducible refine (hd_print _ _ _ (HT.out.past HS.out.bel) HS.out.got).mono ?_); rintro e w3 ⟨rfl, hb3⟩)
  have HS3 := hidE (HS.out.past hb3); clear HS hb3
  have b1 := HS3.out.d2.cell 2; have z1 := HS3.out.d2.lt
  simp at b1
  go_wp2_with fail
  ((with_reducible refine (hd_cut _ _ _ (HT.out.past HS3.out.bel) HS3.out.want).mono ?_); rintro e w4 ⟨rfl, hb4⟩)
  have HS4 := hidE (HS3.out.past hb4)
  clear HS3 hb4 b1 z1
  have p0 := HS4.out.d1.cell 0; have p1 := HS4.out.d1.cell 1; have p2 := HS4.out.d1.cell 2; have pz := HS4.out.d1.lt
  have q0 := HS4.out.d2.cell 0; have q1 := HS4.out.d2.cell 1; have q2 := HS4.out.d2.cell 2; have qz := HS4.out.d2.lt
  simp at p0 p1 p2 q0 q1 q2
  go_wp2_with fail
  ((with_reducible refine (hd_same _ _ _ _ _ HS4.out.got HS4.out.want).mono ?_); rintro e w5 ⟨rfl, hb5⟩)
  have HS5 := hidE (HS4.out.past hb5)
  clear HS4 hb5 p0 p1 p2 q0 q1 q2 pz qz
  go_wp2_with fail
  ((with_reducible refine (bad_c [102, 114, 111, 109, 32, 48, 32, 116, 111, 32, 57, 32, 40, 97, 116, 111, 109, 32, 49, 32, 49, 32, 49, 41] 12 12 rfl _ ?hb (by decide) hp1_parse _ (HT.out.past HS5.out.bel)).mono ?_))
  case hb => rfl
  rintro e w6 ⟨rfl, hb6⟩
  have HS6 := hidE (HS5.out.past hb6)
  clear HS5 hb6
  go_wp2_with fail
  ((with_reducible refine (bad_c [102, 114, 111, 109, 32, 48, 32, 116, 111, 32, 57, 58, 32, 40, 111, 114, 100, 101, 114, 41] 19 19 rfl _ ?hb (by decide) hp2_parse _ (HT.out.past HS6.out.bel)).mono ?_))
  case hb => rfl
  rintro e w7 ⟨rfl, hb7⟩
  have HS7 := hidE (HS6.out.past hb7)
  clear HS6 hb7
  go_wp2_with fail
  ((with_reducible refine (bad_c [102, 114, 111, 109, 32, 48, 32, 116, 111, 32, 57, 58, 32, 40, 97, 116, 111, 109, 32, 49, 32, 49, 41] 22 22 rfl _ ?hb (by decide) hp3_parse _ (HT.out.past HS7.out.bel)).mono ?_))
  case hb => rfl
  rintro e w8 ⟨rfl, hb8⟩
  have HS8 := hidE (HS7.out.past hb8)
  clear HS7 hb8
  go_wp2_with fail
  ((with_reducible refine (bad_c hp0.dropLast 68 68 rfl _ ?hb (by decide) hp4_parse _ (HT.out.past HS8.out.bel)).mono ?_))
  case hb => rfl
  rintro e w9 ⟨rfl, hb9⟩
  have HS9 := hidE (HS8.out.past hb9)
  clear HS8 hb9
  go_wp2_with fail
  ((with_reducible refine (bad_c [] 0 0 rfl _ ?hb (by decide) hp5_parse _ (HT.out.past HS9.out.bel)).mono ?_))
  case hb => rfl
  rintro e w10 ⟨rfl, hb10⟩
  have HS10 := hidE (HS9.out.past hb10)
  clear HS9 hb10
  go_wp2_with fail
  ((with_reducible refine (bad_c [102, 114, 111, 109, 32, 48, 32, 116, 111, 32, 57, 58, 32, 40, 97, 116, 111, 109, 32, 52, 50, 57, 52, 57, 54, 55, 50, 57, 54, 32, 49, 32, 49, 41] 19 19 rfl _ ?hb (by decide) hp6_parse _ (HT.out.past HS10.out.bel)).mono ?_))
  case hb => rfl
  rintro e w11 ⟨rfl, hb11⟩
  have HS11 := hidE (HS10.out.past hb11)
  clear HS10 hb11
  have p0 := HS11.out.d1.cell 0; have p1 := HS11.out.d1.cell 1; have p2 := HS11.out.d1.cell 2; have pz := HS11.out.d1.lt
  have q0 := HS11.out.d2.cell 0; have q1 := HS11.out.d2.cell 1; have q2 := HS11.out.d2.cell 2; have qz := HS11.out.d2.lt
  simp at p0 p1 p2 q0 q1 q2
  go_wp2_with fail
  ((with_reducible refine (hd_psame _ _ _ _ _ HS11.out.got HS11.out.want).mono ?_); rintro e w12 ⟨rfl, hb12⟩)
  have HS12 := hidE (HS11.out.past hb12)
  clear HS11 hb12 p0 p1 p2 q0 q1 q2 pz qz
  go_wp2_with fail
  ((with_reducible refine (hd_nil _).mono ?_); rintro e w13 ⟨rfl, hb13⟩)
  have HS13 := hidE (HS12.out.past hb13)
  clear HS12 hb13
  go_wp2
  go_ret
  exact ⟨rfl, HS13.out.bel⟩
end Go.Proofs.YtaeipfnpglbooaaDoor

namespace Go.Proofs.YtaeipfnpglbooaaDoor
open Go.ChangeShapes Go.WideShapes Go.ChangeAt Go.RowKit
attribute [local irreducible] Go.Calls

/-- May a part stand in a text? (Its two numbers of 32 bits may be any.) -/
def plainQ (x : Prt) : Prop := 0 ≤ x.d ∧ x.d ≤ 1099511627776 ∧ (x.kind = 0 ↔ x.kids = 0) ∧ (x.kind ≠ 0 → x.n = 0 ∧ x.g = 0 ∧ x.d = 0)
instance (x : Prt) : Decidable (plainQ x) := by unfold plainQ; infer_instance
def plainB (fr to' : Int) (T : List Prt) : Bool := decide (∀ i, i < T.length → plainQ (T.getD i pr0)) && (decide (0 ≤ fr) && decide (0 ≤ to') && decide (fr ≤ 1099511627776) && decide (to' ≤ 1099511627776))
theorem plainB_no {fr to' : Int} {T : List Prt} {i : Nat} (hi : i < T.length) (h : ¬ plainQ (T.getD i pr0)) : plainB fr to' T = false := by
  unfold plainB
  rw [decide_eq_false (fun c => h (c i hi))]; rfl
theorem plainB_yes {fr to' : Int} {T : List Prt} (h : ∀ i, i < T.length → plainQ (T.getD i pr0)) : plainB fr to' T = (decide (0 ≤ fr) && decide (0 ≤ to') && decide (fr ≤ 1099511627776) && decide (to' ≤ 1099511627776)) := by
  unfold plainB
  rw [decide_eq_true h]; rfl
set_option maxHeartbeats 2000000 in
theorem plain_c (fr to' : Int) (l : List Prt) (a : Option Addr) (cap : Nat) (w : World) (hl : l.length ≤ 100000) (hA : ArgP w a l) :
    Calls Tryd.prog 11 #[defV fr to' a l.length cap] w fun x w' => x = .returned (.bool (plainB fr to' l)) ∧ Below w.heap.size w w' := by
  have HA := hidE hA
  clear hA
  have HN := hidE (fun (i : Nat) (hi : i < l.length) (h : ¬ plainQ (l.getD i pr0)) => plainB_no (fr := fr) (to' := to') hi h)
  have HY := hidE (fun (h : ∀ i, i < l.length → plainQ (l.getD i pr0)) => plainB_yes (fr := fr) (to' := to') h)
  generalize plainB fr to' l = ans at *
  go_enter Tryd.func11, Tryd.ntmps11
  go_wp2
  go_loopg [3] l.length (fun g vi wr => ∃ k : Nat, k ≤ l.length ∧ l.length - k ≤ g ∧ vi = .int .i64 k ∧ (∀ i, i < k → plainQ (l.getD i pr0)) ∧ Below w.heap.size w wr ∧
    Blk wr w.heap.size #[.int .i64 fr, .int .i64 to', .slice a l.length cap] 24)
  case atStart => exact ⟨0, Nat.zero_le _, Nat.le_refl _, rfl, fun i hi => by omega, by (repeat (first | exact Below.refl _ _ | assumption | refine balloc ?_ _ | refine below_drewN ?_ _ | refine bstep (by assumption) ?_ | refine bstep (Past.prop _) ?_ | refine Below.setCell ?_ (by first | exact Nat.le_refl _ | (simp; done) | (simp; omega)) _)), Blk.made_at _ _ _ _ (by simp)⟩
  case round =>
    obtain ⟨k, hk, hg, rfl, hs, hb, hB1⟩ := hrel
    have HSS := hidE hs; have HB := hidE hb; have HB1 := hidE hB1; have HG := hidE hg
    have p0 := hB1.cell 0; have p1 := hB1.cell 1; have p2 := hB1.cell 2; have pz := hB1.lt
    simp at p0 p1 p2
    clear hs hb hB1 hg
    obtain ⟨wo, hwo⟩ : ∃ wo : World, wo = wr := ⟨_, rfl⟩
    by_cases hlt : k < l.length
    · obtain ⟨p, off, rfl, hpp, hc⟩ := (HA.out.past HB.out) (by omega)
      obtain ⟨c0, c1, c2, c3, c4⟩ := hc.get hlt
      have q1 : decide ((k : Int) < (l.length : Int)) = true := decide_eq_true (by omega)
      have q2 : decide (k < l.length) = true := decide_eq_true hlt
      clear hc
      have HX := hidE (HN.out k hlt)
      have HZ := hidE (show plainQ (l.getD k pr0) → ∀ i, i < k + 1 → plainQ (l.getD i pr0) from fun h i hi => by
        by_cases c : i = k
        · rw [c]; exact h
        · exact HSS.out i (by omega))
      generalize l.getD k pr0 = x at *
      by_cases hx0 : x.d < 0
      · have HF := hidE (HX.out (fun h => by unfold plainQ at h; omega))
        have d0 : decide (x.d < 0) = true := decide_eq_true (by omega)
        clear hx0
        go_wp2
        go_ret
        exact ⟨ret_bool HF.out.symm, by have := HB.out; (repeat (first | exact Below.refl _ _ | assumption | refine balloc ?_ _ | refine below_drewN ?_ _ | refine bstep (by assumption) ?_ | refine bstep (Past.prop _) ?_ | refine Below.setCell ?_ (by first | exact Nat.le_refl _ | (simp; done) | (simp; omega)) _))⟩
      · by_cases hx1 : x.d > 1099511627776
        · have HF := hidE (HX.out (fun h => by unfold plainQ at h; omega))
          have d0 : decide (x.d < 0) = false := decide_eq_false (by omega)
          have d1 : decide (x.d > 1099511627776) = true := decide_eq_true (by omega)
          clear hx0 hx1
          go_wp2
          go_ret
          exact ⟨ret_bool HF.out.symm, by have := HB.out; (repeat (first | exact Below.refl _ _ | assumption | refine balloc ?_ _ | refine below_drewN ?_ _ | refine bstep (by assumption) ?_ | refine bstep (Past.prop _) ?_ | refine Below.setCell ?_ (by first | exact Nat.le_refl _ | (simp; done) | (simp; omega)) _))⟩
        · by_cases hx2 : x.kind = 0
          · by_cases hx3 : x.kids = 0
            · have HP := hidE (show plainQ x by unfold plainQ; omega)
              have d0 : decide (x.d < 0) = false := decide_eq_false (by omega)
              have d1 : decide (x.d > 1099511627776) = false := decide_eq_false (by omega)
              have ekindi : (((x.kind : Nat) : Int) == 0) = true := beq_iff_eq.2 (by omega)
              have ekindn : (x.kind == 0) = true := beq_iff_eq.2 (by omega)
              have ekidsn : (x.kids == 0) = true := beq_iff_eq.2 (by omega)
              clear hx0 hx1 hx2 hx3
              go_wp2
              go_roundg (l.length - (k + 1))
              case measure => have := HG.out; omega
              case rel => exact ⟨k + 1, by omega, Nat.le_refl _, by go_num, HZ.out HP.out, by have := HB.out; (repeat (first | exact Below.refl _ _ | assumption | refine balloc ?_ _ | refine below_drewN ?_ _ | refine bstep (by assumption) ?_ | refine bstep (Past.prop _) ?_ | refine Below.setCell ?_ (by first | exact Nat.le_refl _ | (simp; done) | (simp; omega)) _)), HB1.out.alloc _⟩
            · have HF := hidE (HX.out (fun h => by unfold plainQ at h; omega))
              have d0 : decide (x.d < 0) = false := decide_eq_false (by omega)
              have d1 : decide (x.d > 1099511627776) = false := decide_eq_false (by omega)
              have ekindi : (((x.kind : Nat) : Int) == 0) = true := beq_iff_eq.2 (by omega)
              have ekindn : (x.kind == 0) = true := beq_iff_eq.2 (by omega)
              have ekidsn : (x.kids == 0) = false := beq_eq_false_iff_ne.2 (by omega)
              clear hx0 hx1 hx2 hx3
              go_wp2
              go_ret
              exact ⟨ret_bool HF.out.symm, by have := HB.out; (repeat (first | exact Below.refl _ _ | assumption | refine balloc ?_ _ | refine below_drewN ?_ _ | refine bstep (by assumption) ?_ | refine bstep (Past.prop _) ?_ | refine Below.setCell ?_ (by first | exact Nat.le_refl _ | (simp; done) | (simp; omega)) _))⟩
          · by_cases hx3 : x.kids = 0
            · have HF := hidE (HX.out (fun h => by unfold plainQ at h; omega))
              have d0 : decide (x.d < 0) = false := decide_eq_false (by omega)
              have d1 : decide (x.d > 1099511627776) = false := decide_eq_false (by omega)
              have ekindi : (((x.kind : Nat) : Int) == 0) = false := beq_eq_false_iff_ne.2 (by omega)
              have ekindn : (x.kind == 0) = false := beq_eq_false_iff_ne.2 (by omega)
              have ekidsn : (x.kids == 0) = true := beq_iff_eq.2 (by omega)
              clear hx0 hx1 hx2 hx3
              go_wp2
              go_ret
              exact ⟨ret_bool HF.out.symm, by have := HB.out; (repeat (first | exact Below.refl _ _ | assumption | refine balloc ?_ _ | refine below_drewN ?_ _ | refine bstep (by assumption) ?_ | refine bstep (Past.prop _) ?_ | refine Below.setCell ?_ (by first | exact Nat.le_refl _ | (simp; done) | (simp; omega)) _))⟩
            · by_cases hx4 : x.n = 0
              · by_cases hx5 : x.g = 0
                · by_cases hx6 : x.d = 0
                  · have HP := hidE (show plainQ x by unfold plainQ; omega)
                    have d0 : decide (x.d < 0) = false := decide_eq_false (by omega)
                    have d1 : decide (x.d > 1099511627776) = false := decide_eq_false (by omega)
                    have ekindi : (((x.kind : Nat) : Int) == 0) = false := beq_eq_false_iff_ne.2 (by omega)
                    have ekindn : (x.kind == 0) = false := beq_eq_false_iff_ne.2 (by omega)
                    have ekidsn : (x.kids == 0) = false := beq_eq_false_iff_ne.2 (by omega)
                    have eni : (((x.n : Nat) : Int) != 0) = false := bne_eq_false_iff_eq.2 (by omega)
                    have enn : (x.n != 0) = false := bne_eq_false_iff_eq.2 (by omega)
                    have egi : (((x.g : Nat) : Int) != 0) = false := bne_eq_false_iff_eq.2 (by omega)
                    have egn : (x.g != 0) = false := bne_eq_false_iff_eq.2 (by omega)
                    have edn : (x.d != 0) = false := bne_eq_false_iff_eq.2 (by omega)
                    clear hx0 hx1 hx2 hx3 hx4 hx5 hx6
                    go_wp2
                    go_roundg (l.length - (k + 1))
                    case measure => have := HG.out; omega
                    case rel => exact ⟨k + 1, by omega, Nat.le_refl _, by go_num, HZ.out HP.out, by have := HB.out; (repeat (first | exact Below.refl _ _ | assumption | refine balloc ?_ _ | refine below_drewN ?_ _ | refine bstep (by assumption) ?_ | refine bstep (Past.prop _) ?_ | refine Below.setCell ?_ (by first | exact Nat.le_refl _ | (simp; done) | (simp; omega)) _)), HB1.out.alloc _⟩
                  · have HF := hidE (HX.out (fun h => by unfold plainQ at h; omega))
                    have d0 : decide (x.d < 0) = false := decide_eq_false (by omega)
                    have d1 : decide (x.d > 1099511627776) = false := decide_eq_false (by omega)
                    have ekindi : (((x.kind : Nat) : Int) == 0) = false := beq_eq_false_iff_ne.2 (by omega)
                    have ekindn : (x.kind == 0) = false := beq_eq_false_iff_ne.2 (by omega)
                    have ekidsn : (x.kids == 0) = false := beq_eq_false_iff_ne.2 (by omega)
                    have eni : (((x.n : Nat) : Int) != 0) = false := bne_eq_false_iff_eq.2 (by omega)
                    have enn : (x.n != 0) = false := bne_eq_false_iff_eq.2 (by omega)
                    have egi : (((x.g : Nat) : Int) != 0) = false := bne_eq_false_iff_eq.2 (by omega)
                    have egn : (x.g != 0) = false := bne_eq_false_iff_eq.2 (by omega)
                    have edn : (x.d != 0) = true := bne_iff_ne.2 (by omega)
                    clear hx0 hx1 hx2 hx3 hx4 hx5 hx6
                    go_wp2
                    go_ret
                    exact ⟨ret_bool HF.out.symm, by have := HB.out; (repeat (first | exact Below.refl _ _ | assumption | refine balloc ?_ _ | refine below_drewN ?_ _ | refine bstep (by assumption) ?_ | refine bstep (Past.prop _) ?_ | refine Below.setCell ?_ (by first | exact Nat.le_refl _ | (simp; done) | (simp; omega)) _))⟩
                · have HF := hidE (HX.out (fun h => by unfold plainQ at h; omega))
                  have d0 : decide (x.d < 0) = false := decide_eq_false (by omega)
                  have d1 : decide (x.d > 1099511627776) = false := decide_eq_false (by omega)
                  have ekindi : (((x.kind : Nat) : Int) == 0) = false := beq_eq_false_iff_ne.2 (by omega)
                  have ekindn : (x.kind == 0) = false := beq_eq_false_iff_ne.2 (by omega)
                  have ekidsn : (x.kids == 0) = false := beq_eq_false_iff_ne.2 (by omega)
                  have eni : (((x.n : Nat) : Int) != 0) = false := bne_eq_false_iff_eq.2 (by omega)
                  have enn : (x.n != 0) = false := bne_eq_false_iff_eq.2 (by omega)
                  have egi : (((x.g : Nat) : Int) != 0) = true := bne_iff_ne.2 (by omega)
                  have egn : (x.g != 0) = true := bne_iff_ne.2 (by omega)
                  clear hx0 hx1 hx2 hx3 hx4 hx5
                  go_wp2
                  go_ret
                  exact ⟨ret_bool HF.out.symm, by have := HB.out; (repeat (first | exact Below.refl _ _ | assumption | refine balloc ?_ _ | refine below_drewN ?_ _ | refine bstep (by assumption) ?_ | refine bstep (Past.prop _) ?_ | refine Below.setCell ?_ (by first | exact Nat.le_refl _ | (simp; done) | (simp; omega)) _))⟩
              · have HF := hidE (HX.out (fun h => by unfold plainQ at h; omega))
                have d0 : decide (x.d < 0) = false := decide_eq_false (by omega)
                have d1 : decide (x.d > 1099511627776) = false := decide_eq_false (by omega)
                have ekindi : (((x.kind : Nat) : Int) == 0) = false := beq_eq_false_iff_ne.2 (by omega)
                have ekindn : (x.kind == 0) = false := beq_eq_false_iff_ne.2 (by omega)
                have ekidsn : (x.kids == 0) = false := beq_eq_false_iff_ne.2 (by omega)
                have eni : (((x.n : Nat) : Int) != 0) = true := bne_iff_ne.2 (by omega)
                have enn : (x.n != 0) = true := bne_iff_ne.2 (by omega)
                clear hx0 hx1 hx2 hx3 hx4
                go_wp2
                go_ret
                exact ⟨ret_bool HF.out.symm, by have := HB.out; (repeat (first | exact Below.refl _ _ | assumption | refine balloc ?_ _ | refine below_drewN ?_ _ | refine bstep (by assumption) ?_ | refine bstep (Past.prop _) ?_ | refine Below.setCell ?_ (by first | exact Nat.le_refl _ | (simp; done) | (simp; omega)) _))⟩
    · have q1 : decide ((k : Int) < (l.length : Int)) = false := decide_eq_false (by omega)
      have q2 : decide (k < l.length) = false := decide_eq_false hlt
      have hX := HY.out (fun i hi => HSS.out i (by omega))
      clear hlt
      by_cases hx0 : fr ≥ 0
      · by_cases hx1 : to' ≥ 0
        · by_cases hx2 : fr ≤ 1099511627776
          · have f0 : decide (fr ≥ 0) = true := decide_eq_true hx0
            have f1 : decide (to' ≥ 0) = true := decide_eq_true hx1
            have f2 : decide (fr ≤ 1099511627776) = true := decide_eq_true hx2
            have HF := hidE (show ans = decide (to' ≤ 1099511627776) by rw [hX, decide_eq_true (show 0 ≤ fr from hx0), decide_eq_true (show 0 ≤ to' from hx1), f2]; rfl)
            clear hx0 hx1 hx2 hX
            go_wp2
            go_ret
            exact ⟨ret_bool HF.out.symm, HB.out⟩
          · have f0 : decide (fr ≥ 0) = true := decide_eq_true hx0
            have f1 : decide (to' ≥ 0) = true := decide_eq_true hx1
            have f2 : decide (fr ≤ 1099511627776) = false := decide_eq_false hx2
            have HF := hidE (show ans = false by rw [hX, f2]; simp)
            clear hx0 hx1 hx2 hX
            go_wp2
            go_ret
            exact ⟨ret_bool HF.out.symm, HB.out⟩
        · have f0 : decide (fr ≥ 0) = true := decide_eq_true hx0
          have f1 : decide (to' ≥ 0) = false := decide_eq_false hx1
          have HF := hidE (show ans = false by rw [hX, decide_eq_false (show ¬ (0 ≤ to') from hx1)]; simp)
          clear hx0 hx1 hX
          go_wp2
          go_ret
          exact ⟨ret_bool HF.out.symm, HB.out⟩
      · have f0 : decide (fr ≥ 0) = false := decide_eq_false hx0
        have HF := hidE (show ans = false by rw [hX, decide_eq_false (show ¬ (0 ≤ fr) from hx0)]; simp)
        clear hx0 hX
        go_wp2
        go_ret
        exact ⟨ret_bool HF.out.symm, HB.out⟩
end Go.Proofs.YtaeipfnpglbooaaDoor

namespace Go.Proofs.YtaeipfnpglbooaaDoor
open Go.ChangeShapes Go.WideShapes Go.ChangeAt Go.RowKit

instance : Inhabited Prt := ⟨pr0⟩
section
variable {H : Type} {enc : TypeId × Value → H} {P : Program}
theorem wfI64 {n : Int} (h : (Lit.int .i64 n).wf = true) : -9223372036854775808 ≤ n ∧ n ≤ 9223372036854775807 := by simpa [Lit.wf, IntKind.min, IntKind.max, IntKind.signed, IntKind.bits] using h
theorem wfU8 {n : Int} (h : (Lit.int .u8 n).wf = true) : 0 ≤ n ∧ n ≤ 255 := by simpa [Lit.wf, IntKind.min, IntKind.max, IntKind.signed, IntKind.bits] using h
theorem wfU32 {n : Int} (h : (Lit.int .u32 n).wf = true) : 0 ≤ n ∧ n ≤ 4294967295 := by simpa [Lit.wf, IntKind.min, IntKind.max, IntKind.signed, IntKind.bits] using h
theorem open_parts {ts e tk tu ti tn : TypeId} {f0 f1 f2 f3 f4 : Field} {W : World} {v : Value} {x : DataW H × List MemPlace} {fuel : Nat} (hs : P.underlying ts = some (.slice e)) (he : P.underlying e = some (.struct #[f0, f1, f2, f3, f4]))
    (ce : P.cellsOf e = 5) (o0 : f0.offset = 0) (o1 : f1.offset = 1) (o2 : f2.offset = 2) (o3 : f3.offset = 3) (o4 : f4.offset = 4) (t0 : f0.type = tk) (t1 : f1.type = tu) (t2 : f2.type = tu) (t3 : f3.type = ti) (t4 : f4.type = tn)
    (ck : P.cellsOf tk = 1) (cu : P.cellsOf tu = 1) (ci : P.cellsOf ti = 1) (cn : P.cellsOf tn = 1) (hk : P.underlying tk = some (.int .u8)) (hu : P.underlying tu = some (.int .u32)) (hi : P.underlying ti = some (.int .i64)) (hn : P.underlying tn = some (.int .i64))
    (hf : DataW.trod enc P W 0 (fun _ => true) true fuel ts [v] = some x) :
    ∃ (l : List Prt) (a : Option Addr) (cap : Nat), v = .slice a l.length cap ∧ l.length ≤ cap ∧ cap ≤ 9223372036854775807 ∧ ArgP W a l ∧ ∀ x ∈ l, PrtW x := by
  rcases Deep.open_slice hs hf with ⟨hcs, _⟩ | ⟨a', len', cap', m, n, D, Pl, hcs, _, hlc, hcm, hm, _, hx⟩
  · simp at hcs
    exact ⟨[], none, 0, hcs, by simp, by omega, fun h => by simp at h, fun x hx => by simp at hx⟩
  · simp at hcs
    subst hcs
    have hlen : len' ≤ m := by rw [hm]; simpa using hlc
    have each : ∀ i, i < len' → ∃ s : Prt, (W.cell? (a'.add (i * 5)) = some (.int .u8 s.kind) ∧ W.cell? ((a'.add (i * 5)).add 1) = some (.int .u32 s.n) ∧ W.cell? ((a'.add (i * 5)).add 2) = some (.int .u32 s.g) ∧ W.cell? ((a'.add (i * 5)).add 3) = some (.int .i64 s.d) ∧ W.cell? ((a'.add (i * 5)).add 4) = some (.int .i64 s.kids)) ∧ PrtW s := fun i hi' => by
      obtain ⟨cs', hc, ht⟩ := hx i (by omega)
      rw [ce] at hc
      obtain ⟨_, hcl, hat⟩ := World.cells?_some hc
      obtain ⟨ys, n', _, _, hl1, hyl, hfs⟩ := DataW.trod_struct he ht
      have h0 := hfs 0 f0 rfl
      have h1 := hfs 1 f1 rfl
      have h2 := hfs 2 f2 rfl
      have h3 := hfs 3 f3 rfl
      have h4 := hfs 4 f4 rfl
      rw [o0, t0, ck] at h0
      rw [o1, t1, cu] at h1
      rw [o2, t2, cu] at h2
      rw [o3, t3, ci] at h3
      rw [o4, t4, cn] at h4
      match cs', hcl with
      | [c0, c1, c2, c3, c4], _ =>
        match ys, hyl with
        | [y0, y1, y2, y3, y4], _ =>
          simp at h0 h1 h2 h3 h4
          obtain ⟨z0, e0, _, w0⟩ := DataW.trod_int hk h0
          obtain ⟨z1, e1, _, w1⟩ := DataW.trod_int hu h1
          obtain ⟨z2, e2, _, w2⟩ := DataW.trod_int hu h2
          obtain ⟨z3, e3, _, w3⟩ := DataW.trod_int hi h3
          obtain ⟨z4, e4, _, w4⟩ := DataW.trod_int hn h4
          simp at e0 e1 e2 e3 e4
          subst e0 e1 e2 e3 e4
          have a0 := hat 0 (by omega)
          have a1 := hat 1 (by omega)
          have a2 := hat 2 (by omega)
          have a3 := hat 3 (by omega)
          have a4 := hat 4 (by omega)
          simp at a1 a2 a3 a4
          have b0 := wfU8 w0
          have b1 := wfU32 w1
          have b2 := wfU32 w2
          refine ⟨⟨z0.toNat, z1.toNat, z2.toNat, z3, z4⟩, ⟨?_, ?_, ?_, a3, a4⟩, ?_, ?_, ?_, wfI64 w3, wfI64 w4⟩
          · have ea : (a'.add (i * 5)).add 0 = a'.add (i * 5) := by simp [Addr.add]
            rw [ea] at a0
            simp only [Int.toNat_of_nonneg b0.1]
            simpa using a0
          · simp only [Int.toNat_of_nonneg b1.1]; exact a1
          · simp only [Int.toNat_of_nonneg b2.1]; exact a2
          · show z0.toNat ≤ 255; omega
          · show z1.toNat ≤ 4294967295; omega
          · show z2.toNat ≤ 4294967295; omega
    obtain ⟨F, hF⟩ := Deep.choose_lt each
    refine ⟨(List.range len').map F, some a', cap', by simp, by simp; omega, by unfold maxLen at hcm; omega, fun hl => ?_, fun x hx => ?_⟩
    · simp at hl
      have hc00 := (hF 0 hl).1.1
      obtain ⟨b, off, spot⟩ := a'
      have hsp : spot = none := by
        cases spot with
        | none => rfl
        | some s => simp [Addr.add, World.cell?] at hc00; split at hc00 <;> simp at hc00
      subst hsp
      have hb : b < W.heap.size := by
        apply Nat.lt_of_not_le
        intro hge
        simp [Addr.add, World.cell?, Array.getElem?_eq_none hge] at hc00
      refine ⟨b, off, rfl, hb, fun i hi => ?_⟩
      have hi' : i < len' := by simpa using hi
      have hg : ((List.range len').map F).getD i pr0 = F i := by simp [List.getD_eq_getElem?_getD, hi']
      obtain ⟨⟨h1, h2, h3, h4, h5⟩, _⟩ := hF i hi'
      have ad : ∀ x y : Nat, (⟨b, x, none⟩ : Addr).add y = ⟨b, x + y, none⟩ := fun x y => by
        unfold Addr.add
        by_cases c : y = 0
        · subst c; simp
        · simp [c]
      rw [ad] at h1 h2 h3 h4 h5
      rw [ad] at h2 h3 h4 h5
      rw [hg]
      exact ⟨h1, h2, h3, h4, h5⟩
    · rw [List.mem_map] at hx
      obtain ⟨i, hi, rfl⟩ := hx
      exact (hF i (by simpa using hi)).2
end
set_option maxRecDepth 100000 in
theorem cellsPart : Tryd.prog.cellsOf 41 = 5 := by kernel_rfl
set_option maxRecDepth 100000 in
theorem cellsDef : Tryd.prog.cellsOf 24 = 3 := by kernel_rfl
set_option maxRecDepth 100000 in
theorem cells4 : Tryd.prog.cellsOf 5 = 1 ∧ Tryd.prog.cellsOf 39 = 1 ∧ Tryd.prog.cellsOf 2 = 1 ∧ Tryd.prog.cellsOf 3 = 1 := ⟨by kernel_rfl, by kernel_rfl, by kernel_rfl, by kernel_rfl⟩
set_option maxRecDepth 100000 in
/-- For this program. -/
theorem open_defP {H : Type} {enc : TypeId × Value → H} {W : World} {v : Value} {d : DataW H} {p : List MemPlace} {r : Reach} {b0 : Nat} (ho : Value.okWide Tryd.prog W r b0 24 v) (h : DataW.Trod enc Tryd.prog W 0 (fun _ => true) true 24 v d p) :
    ∃ (fr to' : Int) (l : List Prt) (a : Option Addr) (cap : Nat), v = defV fr to' a l.length cap ∧ (-9223372036854775808 ≤ fr ∧ fr ≤ 9223372036854775807) ∧ (-9223372036854775808 ≤ to' ∧ to' ≤ 9223372036854775807) ∧ l.length ≤ cap ∧ cap ≤ 9223372036854775807 ∧ ArgP W a l ∧ ∀ x ∈ l, PrtW x := by
  obtain ⟨v0, v1, v2, y0, y1, y2, n, rfl, rfl, rfl, h0, h1, h2⟩ := Joins.open_agg3 (P := Tryd.prog) Tryd.underlying24 (by kernel_rfl) cellsDef ho h
  obtain ⟨z0, e0, _, w0⟩ := DataW.trod_int Tryd.underlying2 h0
  obtain ⟨z1, e1, _, w1⟩ := DataW.trod_int Tryd.underlying2 h1
  simp at e0 e1
  subst e0 e1
  obtain ⟨l, a, cap, rfl, hl, hc, hA, hp⟩ := open_parts (P := Tryd.prog) Tryd.underlying22 Tryd.underlying41 cellsPart rfl rfl rfl rfl rfl rfl rfl rfl rfl rfl cells4.1 cells4.2.1 cells4.2.2.1 cells4.2.2.2 Tryd.underlying5 Tryd.underlying39 Tryd.underlying2 Tryd.underlying3 h2
  exact ⟨z0, z1, l, a, cap, rfl, wfI64 w0, wfI64 w1, hl, hc, hA, hp⟩
end Go.Proofs.YtaeipfnpglbooaaDoor

namespace Go.Proofs.YtaeipfnpglbooaaDoor
open Go.ChangeShapes Go.WideShapes Go.ChangeAt Go.RowKit
attribute [local irreducible] Go.Calls

theorem wf_prtW {F : Fst} (h : F.wf) (hs : F.size ≤ 1000000) : ∀ x ∈ F.flat, PrtW x := fun x hx => by
  have h1 := kok_kind F (wf_kok F h) x hx
  have h2 := kok_kids F (wf_kok F h) x hx
  obtain ⟨h3, h4, _, _, h5, h6⟩ := wf_plain F h x hx
  exact ⟨by omega, h5, h6, ⟨by omega, by omega⟩, by omega, by omega⟩
/-- What is printed of a tree that is known. -/
theorem print_is {fr to' : Int} {F : Fst} {n : Nat} (hfr : okN fr) (hto : okN to') (hwf : F.wf) (h : F.kok) (h1 : F.len = 1) (hn : n = F.flat.length) (hl : n ≤ 100000) (a : Option Addr) (cap : Nat) (w : World) (hA : ArgP w a F.flat) (hT : Tab w) : Calls Tryd.prog 8 #[defV fr to' a n cap] w fun e w' => e = .returned (.tuple #[strV (printF fr to' F), .int .i64 0]) ∧ Below w.heap.size w w' ∧ (printF fr to' F).length ≤ 1000000000 := by
  subst hn
  refine (print_c fr to' (by have := hfr.1; have := hfr.2; omega) (by have := hto.1; have := hto.2; omega) F.flat (wf_prtW hwf (by rw [flat_len] at hl; omega)) a cap w hl hA hT).mono ?_
  rintro e w' ⟨t, er, rfl, hb, ht, ⟨h2, _⟩ | ⟨rfl, G, h2, h3, h4, rfl⟩⟩
  · rw [tree_iff.2 ⟨F, h, h1, rfl⟩] at h2; cases h2
  · have e := (flat_inj F G [] [] h h2 (by rw [h1, h3]) (by rw [h4])).1
    rw [← e] at ht ⊢
    exact ⟨rfl, hb, ht⟩
theorem same_is {fr to' : Int} {T : List Prt} {n : Nat} (hn : n = T.length) (hl : n ≤ 100000) (a a2 : Option Addr) (c c2 : Nat) (w : World) (h : ArgP w a T) (h2 : ArgP w a2 T) : Calls Tryd.prog 9 #[defV fr to' a n c, defV fr to' a2 n c2] w fun e w' => e = .returned (.bool true) ∧ Below w.heap.size w w' := by
  subst hn
  have := rsame7_c ⟨fr, to', T⟩ ⟨fr, to', T⟩ a a2 c c2 w (by show T.length ≤ _; omega) (by show T.length ≤ _; omega) h h2
  rw [show sameD ⟨fr, to', T⟩ ⟨fr, to', T⟩ = true from decide_eq_true rfl] at this
  exact this
theorem tree_is {T : List Prt} {n : Nat} {b : Bool} (hK : ∀ x ∈ T, x.kind ≤ 255) (hb : treeB T = b) (hn : n = T.length) (hl : n ≤ 100000) (a : Option Addr) (c : Nat) (w : World) (h : ArgP w a T) : Calls Tryd.prog 10 #[.slice a n c] w fun e w' => e = .returned (.bool b) ∧ Below w.heap.size w w' := by
  subst hn hb
  exact tree_c T hK a c w hl h
/-- What a text of a printed definition is parsed to. -/
theorem back_parse {fr to' : Int} {F : Fst} (h1 : okN fr) (h2 : okN to') (h3 : F.wf) (h4 : F.len = 1) (hl : (printF fr to' F).length ≤ 4096) : (parseS (printF fr to' F) = (⟨fr, to', F.flat⟩, 0, 0) ) ∨ ∃ p, parseS (printF fr to' F) = (df0, p, 80) := by
  rw [print_text h1 h2 h3] at hl ⊢
  rw [parse_text h1 h2 h3 h4 hl]
  cases badI F 8 0 with
  | none => exact .inl rfl
  | some i => exact .inr ⟨_, rfl⟩
theorem back_small {fr to' : Int} {F : Fst} (h1 : okN fr) (h2 : okN to') (h3 : F.wf) (h4 : F.len = 1) (h5 : F.depth ≤ 8) (h6 : F.size ≤ 64) (hl : (printF fr to' F).length ≤ 4096) : parseS (printF fr to' F) = (⟨fr, to', F.flat⟩, 0, 0) := by
  rw [print_text h1 h2 h3] at hl ⊢
  rw [parse_text h1 h2 h3 h4 hl, badI_none F 8 0 h5 (fun _ => by omega)]
theorem parse_long {s : List UInt8} (h : 4096 < s.length) : parseS s = (df0, 0, 3) := by unfold parseS; rw [if_pos h]
/-- Parts that plain takes are parts of a text. -/
theorem plainB_wf {fr to' : Int} {F : Fst} (h : F.kok) (hw : ∀ x ∈ F.flat, PrtW x) (hp : plainB fr to' F.flat = true) : okN fr ∧ okN to' ∧ F.wf := by
  unfold plainB at hp
  simp only [Bool.and_eq_true, decide_eq_true_iff] at hp
  obtain ⟨hq, ⟨⟨h1, h2⟩, h3⟩, h4⟩ := hp
  refine ⟨⟨h1, h3⟩, ⟨h2, h4⟩, plain_wf F h fun x hx => ?_⟩
  obtain ⟨i, hi, rfl⟩ := List.getElem_of_mem hx
  have := hq i hi
  rw [pgetD _ _ hi] at this
  obtain ⟨p1, p2, p3, p4⟩ := this
  obtain ⟨_, w2, w3, _⟩ := hw _ hx
  exact ⟨p1, p2, p3, p4, w2, w3⟩
end Go.Proofs.YtaeipfnpglbooaaDoor

namespace Go.Proofs.YtaeipfnpglbooaaDoor
open Go.ChangeShapes Go.WideShapes Go.ChangeAt Go.RowKit
attribute [local irreducible] Go.Calls

/-- What is kept while what Parse told goes there and back: the definition that was handed in, the one that was told. -/
def BkSt (W : World) (V : Array Value) (p : Nat) (V1 : Array Value) (a1 : Option Addr) (L : List Prt) (w : World) : Prop := Below W.heap.size W w ∧ Blk w W.heap.size V 24 ∧ Blk w p V1 24 ∧ ArgP w a1 L
section
variable {W : World} {V : Array Value} {p : Nat} {V1 : Array Value} {a1 : Option Addr} {L : List Prt} {w w' : World}
theorem BkSt.past (h : BkSt W V p V1 a1 L w) (hb : Below w.heap.size w w') : BkSt W V p V1 a1 L w' := ⟨h.1.trans (hb.mono h.1.size), h.2.1.past hb, h.2.2.1.past hb, h.2.2.2.past hb⟩
theorem BkSt.bel (h : BkSt W V p V1 a1 L w) : Below W.heap.size W w := h.1
theorem BkSt.d (h : BkSt W V p V1 a1 L w) : Blk w W.heap.size V 24 := h.2.1
theorem BkSt.d1 (h : BkSt W V p V1 a1 L w) : Blk w p V1 24 := h.2.2.1
theorem BkSt.got (h : BkSt W V p V1 a1 L w) : ArgP w a1 L := h.2.2.2
end
set_option maxRecDepth 100000 in
set_option maxHeartbeats 4000000 in
theorem lback_main (s : List UInt8) (fr to' : Int) (T : List Prt) (a : Option Addr) (cap : Nat) (W : World) (hs : s.length ≤ 4200) (hf : -9223372036854775808 ≤ fr ∧ fr ≤ 9223372036854775807) (ht : -9223372036854775808 ≤ to' ∧ to' ≤ 9223372036854775807) (hl : T.length ≤ 100) (hA : ArgP W a T) (hw : ∀ x ∈ T, PrtW x) (hT : Tab W) :
    Calls Tryd.prog 3 #[strV s, defV fr to' a T.length cap] W fun e w' => e = .returned (.bool true) ∧ Below W.heap.size W w' := by
  have HH := hidE (fun w (hb : Below W.heap.size W w) => head_c w (hT.past hb))
  have HTB := hidE (fun w (hb : Below W.heap.size W w) => hT.past hb)
  clear hT
  have HA := hidE hA; have HW := hidE hw
  have slen : (⟨s.toArray⟩ : ByteArray).size = s.length := by simp [ByteArray.size]
  have q1 : decide ((s.length : Int) > 4200) = false := decide_eq_false (by omega)
  have q2 : decide (4200 < s.length) = false := decide_eq_false (by omega)
  have q3 : decide ((T.length : Int) > 100) = false := decide_eq_false (by omega)
  have q4 : decide (100 < T.length) = false := decide_eq_false (by omega)
  have HP := hidE (fun w hT => parse_c s w (by omega) hT)
  have HO := hidE (parse_ok (s := s))
  clear hA hw
  generalize parseS s = r at *
  obtain ⟨D1, p1, er⟩ := r
  simp only at HP HO
  go_enter Tryd.func3, Tryd.ntmps3
  go_upto_if 35 with ((with_reducible refine (HP.out _ (HTB.out _ (by (repeat (first | exact Below.refl _ _ | assumption | refine balloc ?_ _ | refine below_drewN ?_ _ | refine bstep (by assumption) ?_ | refine bstep (Past.prop _) ?_ | refine Below.setCell ?_ (by first | exact Nat.le_refl _ | (simp; done) | (simp; omega)) _))))).mono ?_); rintro e w1 ⟨a1, c1, rfl, hc1, hc1', hA1, hb1⟩)
  have HB1 := hidE (show Below W.heap.size W w1 by (repeat (first | exact Below.refl _ _ | assumption | refine balloc ?_ _ | refine below_drewN ?_ _ | refine bstep (by assumption) ?_ | refine bstep (Past.prop _) ?_ | refine Below.setCell ?_ (by first | exact Nat.le_refl _ | (simp; done) | (simp; omega)) _)))
  have HD0 := hidE ((Blk.made W #[.int .i64 fr, .int .i64 to', .slice a T.length cap] 24).past hb1)
  have HA1 := hidE hA1
  clear hA1 hb1 hc1 hc1'
  go_cut [] (fun wx => Below W.heap.size W wx ∧ Blk wx W.heap.size #[.int .i64 fr, .int .i64 to', .slice a T.length cap] 24)
  case first =>
    by_cases e0 : er = 0
    · obtain ⟨fr1, to1, F, hD1, k1, k2, k3, k4, k5, k6, k7⟩ := HO.out e0
      simp only [Prod.mk.injEq] at hD1
      obtain ⟨rfl, rfl, rfl⟩ := hD1
      simp only at HA1
      have hfl := flat_len F
      obtain ⟨nF, hnF⟩ : ∃ nF : Nat, nF = F.flat.length := ⟨_, rfl⟩
      simp only [← hnF]
      have hn64 : nF ≤ 64 := by omega
      have HN := hidE hnF
      have HT := hidE (tree_iff.2 ⟨F, wf_kok F k3, k4, rfl⟩)
      have HK := hidE (wf_kok F k3)
      have n1 : decide ((nF : Int) > 64) = false := decide_eq_false (by omega)
      have n2 : decide (64 < nF) = false := decide_eq_false (by omega)
      clear e0 hfl hnF
      go_wp2_with fail
      ((with_reducible refine (print_is k1 k2 k3 HK.out k4 HN.out (by omega) _ _ _ (HA1.out.past (by (repeat (first | exact Below.refl _ _ | assumption | refine balloc ?_ _ | refine below_drewN ?_ _ | refine bstep (by assumption) ?_ | refine bstep (Past.prop _) ?_ | refine Below.setCell ?_ (by first | exact Nat.le_refl _ | (simp; done) | (simp; omega)) _)))) (HTB.out _ (by have := HB1.out; (repeat (first | exact Below.refl _ _ | assumption | refine balloc ?_ _ | refine below_drewN ?_ _ | refine bstep (by assumption) ?_ | refine bstep (Past.prop _) ?_ | refine Below.setCell ?_ (by first | exact Nat.le_refl _ | (simp; done) | (simp; omega)) _))))).mono ?_); rintro e w2 ⟨rfl, hb2, htl⟩)
      have HS := hidE (show BkSt W #[.int .i64 fr, .int .i64 to', .slice a T.length cap] w1.heap.size #[.int .i64 fr1, .int .i64 to1, .slice a1 nF c1] a1 F.flat w2 from BkSt.past ⟨by have := HB1.out; (repeat (first | exact Below.refl _ _ | assumption | refine balloc ?_ _ | refine below_drewN ?_ _ | refine bstep (by assumption) ?_ | refine bstep (Past.prop _) ?_ | refine Below.setCell ?_ (by first | exact Nat.le_refl _ | (simp; done) | (simp; omega)) _)), HD0.out.alloc _, Blk.made _ _ _, HA1.out.past (by (repeat (first | exact Below.refl _ _ | assumption | refine balloc ?_ _ | refine below_drewN ?_ _ | refine bstep (by assumption) ?_ | refine bstep (Past.prop _) ?_ | refine Below.setCell ?_ (by first | exact Nat.le_refl _ | (simp; done) | (simp; omega)) _)))⟩ hb2)
      clear hb2 HA1 HB1 HD0
      generalize w1.heap.size = p at *
      have hsh := back_small k1 k2 k3 k4 k5 k6
      clear k1 k2 k3 k5 k6 k7
      generalize printF fr1 to1 F = t at *
      have tlen : (⟨t.toArray⟩ : ByteArray).size = t.length := by simp [ByteArray.size]
      by_cases c : t.length ≤ 4096
      · have HQ := hidE (hsh c)
        clear hsh c
        go_wp2_with fail
        ((with_reducible refine (par_is HQ.out (by omega) _ ?hb _ (HTB.out _ HS.out.bel)).mono ?_))
        case hb => rfl
        rintro e w3 ⟨a3, c3, rfl, _, _, hA3, hb3⟩
        simp only at hA3
        simp only [← HN.out]
        have HS3 := hidE (HS.out.past hb3)
        have HA3 := hidE hA3
        clear HS hA3 hb3
        have HS4 := hidE (HS3.out.past (w' := w3.alloc (.cells #[.int .i64 fr1, .int .i64 to1, .slice a3 nF c3] 24)) (by (repeat (first | exact Below.refl _ _ | assumption | refine balloc ?_ _ | refine below_drewN ?_ _ | refine bstep (by assumption) ?_ | refine bstep (Past.prop _) ?_ | refine Below.setCell ?_ (by first | exact Nat.le_refl _ | (simp; done) | (simp; omega)) _))))
        have HA4 := hidE (HA3.out.past (w' := w3.alloc (.cells #[.int .i64 fr1, .int .i64 to1, .slice a3 nF c3] 24)) (by (repeat (first | exact Below.refl _ _ | assumption | refine balloc ?_ _ | refine below_drewN ?_ _ | refine bstep (by assumption) ?_ | refine bstep (Past.prop _) ?_ | refine Below.setCell ?_ (by first | exact Nat.le_refl _ | (simp; done) | (simp; omega)) _))))
        have r0 := HS3.out.d1.cell 0; have r1 := HS3.out.d1.cell 1; have r2 := HS3.out.d1.cell 2; have rz := HS3.out.d1.lt
        simp at r0 r1 r2
        go_wp2_with fail
        ((with_reducible refine (same_is HN.out (by omega) _ _ _ _ _ HS4.out.got HA4.out).mono ?_); rintro e w5 ⟨rfl, hb5⟩)
        have HS5 := hidE (HS4.out.past hb5)
        clear HS3 HS4 HA3 HA4 hb5 r0 r1 r2 rz
        have r0 := HS5.out.d1.cell 0; have r1 := HS5.out.d1.cell 1; have r2 := HS5.out.d1.cell 2; have rz := HS5.out.d1.lt
        simp at r0 r1 r2
        go_wp2_with fail
        ((with_reducible refine (tree_is (fun x hx => Nat.le_trans (kok_kind _ HK.out x hx) (by decide)) HT.out HN.out (by omega) _ _ _ HS5.out.got).mono ?_); rintro e w6 ⟨rfl, hb6⟩)
        have HS6 := hidE (HS5.out.past hb6)
        clear HS5 hb6 r0 r1 r2 rz
        have r0 := HS6.out.d1.cell 0; have r1 := HS6.out.d1.cell 1; have r2 := HS6.out.d1.cell 2; have rz := HS6.out.d1.lt
        simp at r0 r1 r2
        go_wp2
        go_meet
        case rel => exact ⟨HS6.out.bel, HS6.out.d⟩
      · have HQ := hidE (parse_long (s := t) (by omega))
        have l1 : decide ((t.length : Int) ≤ 4096) = false := decide_eq_false (by omega)
        have l2 : decide (t.length ≤ 4096) = false := decide_eq_false c
        clear hsh c
        go_wp2_with fail
        ((with_reducible refine (par_is HQ.out (by omega) _ ?hb _ (HTB.out _ HS.out.bel)).mono ?_))
        case hb => rfl
        rintro e w3 ⟨a3, c3, rfl, _, _, hA3, hb3⟩
        simp only [df0, List.length_nil]
        have HS3 := hidE (HS.out.past hb3)
        clear HS hA3 hb3
        have HS5 := hidE (HS3.out.past (w' := w3.alloc (.cells #[.int .i64 0, .int .i64 0, .slice a3 0 c3] 24)) (by (repeat (first | exact Below.refl _ _ | assumption | refine balloc ?_ _ | refine below_drewN ?_ _ | refine bstep (by assumption) ?_ | refine bstep (Past.prop _) ?_ | refine Below.setCell ?_ (by first | exact Nat.le_refl _ | (simp; done) | (simp; omega)) _))))
        have r0 := HS3.out.d1.cell 0; have r1 := HS3.out.d1.cell 1; have r2 := HS3.out.d1.cell 2; have rz := HS3.out.d1.lt
        simp at r0 r1 r2
        go_wp2_with fail
        ((with_reducible refine (tree_is (fun x hx => Nat.le_trans (kok_kind _ HK.out x hx) (by decide)) HT.out HN.out (by omega) _ _ _ HS5.out.got).mono ?_); rintro e w6 ⟨rfl, hb6⟩)
        have HS6 := hidE (HS5.out.past hb6)
        clear HS3 HS5 hb6 r0 r1 r2 rz
        have r0 := HS6.out.d1.cell 0; have r1 := HS6.out.d1.cell 1; have r2 := HS6.out.d1.cell 2; have rz := HS6.out.d1.lt
        simp at r0 r1 r2
        go_wp2
        go_meet
        case rel => exact ⟨HS6.out.bel, HS6.out.d⟩
    · have e1 : (er == 0) = false := beq_eq_false_iff_ne.2 e0
      clear e0
      go_wp2
      go_meet
      case rel => exact ⟨by have := HB1.out; (repeat (first | exact Below.refl _ _ | assumption | refine balloc ?_ _ | refine below_drewN ?_ _ | refine bstep (by assumption) ?_ | refine bstep (Past.prop _) ?_ | refine Below.setCell ?_ (by first | exact Nat.le_refl _ | (simp; done) | (simp; omega)) _)), HD0.out.alloc _⟩
  case rest =>
    obtain ⟨hb5, hD5⟩ := hcut
    have HB5 := hidE hb5; have HD5 := hidE hD5
    have r0 := HD5.out.cell 0; have r1 := HD5.out.cell 1; have r2 := HD5.out.cell 2; have rz := HD5.out.lt
    simp at r0 r1 r2
    clear hb5 hD5 HO HP
    go_wp2_with fail
    ((with_reducible refine (print_c fr to' hf ht T HW.out a cap _ (by omega) (HA.out.past HB5.out) (HTB.out _ HB5.out)).mono ?_))
    rintro e w6 ⟨t, er6, rfl, hb6, htl, hcase⟩
    have HB6 := hidE (HB5.out.trans (hb6.mono HB5.out.size))
    have HD6 := hidE (HD5.out.past hb6)
    clear hb6 HB5 HD5 r0 r1 r2 rz
    have tlen : (⟨t.toArray⟩ : ByteArray).size = t.length := by simp [ByteArray.size]
    rcases hcase with ⟨_, rfl, rfl⟩ | ⟨rfl, F, k1, k2, k3, htx⟩
    · go_wp2_with fail
      ((with_reducible refine (HH.out _ HB6.out).mono ?_); rintro e w9 ⟨rfl, hb9⟩)
      have HBL := hidE (HB6.out.trans (hb9.mono HB6.out.size))
      clear hb9
      go_wp2
      go_ret
      exact ⟨rfl, HBL.out⟩
    · by_cases c : t.length ≤ 4096
      · have l1 : decide ((t.length : Int) > 4096) = false := decide_eq_false (by omega)
        have l2 : decide (4096 < t.length) = false := decide_eq_false (by omega)
        have r0 := HD6.out.cell 0; have r1 := HD6.out.cell 1; have r2 := HD6.out.cell 2; have rz := HD6.out.lt
        simp at r0 r1 r2
        have HK3 := hidE k3; have HTX := hidE htx; have HC := hidE c
        clear k3 htx c
        go_wp2_with fail
        ((with_reducible refine (plain_c fr to' T a cap _ (by omega) (HA.out.past HB6.out)).mono ?_); rintro e w7 ⟨rfl, hb7⟩)
        have HB7 := hidE (HB6.out.trans (hb7.mono HB6.out.size))
        have HD7 := hidE (HD6.out.past hb7)
        clear hb7 HB6 HD6 r0 r1 r2 rz
        cases hp : plainB fr to' T
        · clear hp
          go_wp2_with fail
          ((with_reducible refine (HH.out _ HB7.out).mono ?_); rintro e w9 ⟨rfl, hb9⟩)
          have HBL := hidE (HB7.out.trans (hb9.mono HB7.out.size))
          clear hb9
          go_wp2
          go_ret
          exact ⟨rfl, HBL.out⟩
        · have hwf := plainB_wf k1 (fun x hx => HW.out x (by rw [HK3.out]; exact hx)) (by rw [← HK3.out]; exact hp)
          have hbp := back_parse hwf.1 hwf.2.1 hwf.2.2 k2 (by rw [← HTX.out]; exact HC.out)
          rw [← HTX.out, ← HK3.out] at hbp
          have hbs := HTX.out
          clear hp hwf hbs
          rcases hbp with hq | ⟨p, hq⟩
          · have HQ := hidE hq; clear hq
            go_wp2_with fail
            ((with_reducible refine (par_is HQ.out (by omega) _ ?hb _ (HTB.out _ HB7.out)).mono ?_))
            case hb => rfl
            rintro e w8 ⟨a8, c8, rfl, _, _, hA8, hb8⟩
            simp only at hA8
            simp only []
            have HB8 := hidE (HB7.out.trans (hb8.mono HB7.out.size))
            have HA8 := hidE hA8
            have r0 := (HD7.out.past hb8).cell 0; have r1 := (HD7.out.past hb8).cell 1; have r2 := (HD7.out.past hb8).cell 2; have rz := (HD7.out.past hb8).lt
            simp at r0 r1 r2
            have HB10 := hidE (HB8.out.alloc HB8.out.size (.cells #[.int .i64 fr, .int .i64 to', .slice a8 T.length c8] 24))
            have HA10 := hidE (HA8.out.past (w' := w8.alloc (.cells #[.int .i64 fr, .int .i64 to', .slice a8 T.length c8] 24)) (by (repeat (first | exact Below.refl _ _ | assumption | refine balloc ?_ _ | refine below_drewN ?_ _ | refine bstep (by assumption) ?_ | refine bstep (Past.prop _) ?_ | refine Below.setCell ?_ (by first | exact Nat.le_refl _ | (simp; done) | (simp; omega)) _))))
            clear hA8 hb8 HB7 HD7
            go_wp2_with fail
            ((with_reducible refine (same_is rfl (by omega) _ _ _ _ _ HA10.out (HA.out.past HB10.out)).mono ?_); rintro e w11 ⟨rfl, hb11⟩)
            have HB11 := hidE (HB10.out.trans (hb11.mono HB10.out.size))
            clear hb11 HB10 HB8 HA8 HA10 r0 r1 r2 rz
            go_wp2_with fail
            ((with_reducible refine (HH.out _ HB11.out).mono ?_); rintro e w9 ⟨rfl, hb9⟩)
            have HBL := hidE (HB11.out.trans (hb9.mono HB11.out.size))
            clear hb9
            go_wp2
            go_ret
            exact ⟨rfl, HBL.out⟩
          · have HQ := hidE hq; clear hq
            go_wp2_with fail
            ((with_reducible refine (par_is HQ.out (by omega) _ ?hb _ (HTB.out _ HB7.out)).mono ?_))
            case hb => rfl
            rintro e w8 ⟨a8, c8, rfl, _, _, hA8, hb8⟩
            simp only [df0, List.length_nil]
            have HB8 := hidE (HB7.out.trans (hb8.mono HB7.out.size))
            clear hA8 hb8 HB7 HD7
            have HB10 := hidE (HB8.out.alloc HB8.out.size (.cells #[.int .i64 0, .int .i64 0, .slice a8 0 c8] 24))
            go_wp2_with fail
            ((with_reducible refine (HH.out _ HB10.out).mono ?_); rintro e w9 ⟨rfl, hb9⟩)
            have HBL := hidE (HB10.out.trans (hb9.mono HB10.out.size))
            clear hb9
            go_wp2
            go_ret
            exact ⟨rfl, HBL.out⟩
      · have l1 : decide ((t.length : Int) > 4096) = true := decide_eq_true (by omega)
        have l2 : decide (4096 < t.length) = true := decide_eq_true (by omega)
        clear k3 htx c
        go_wp2_with fail
        ((with_reducible refine (HH.out _ HB6.out).mono ?_); rintro e w9 ⟨rfl, hb9⟩)
        have HBL := hidE (HB6.out.trans (hb9.mono HB6.out.size))
        clear hb9
        go_wp2
        go_ret
        exact ⟨rfl, HBL.out⟩
end Go.Proofs.YtaeipfnpglbooaaDoor
