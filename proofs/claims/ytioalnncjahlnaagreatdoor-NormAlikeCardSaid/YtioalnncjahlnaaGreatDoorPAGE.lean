/- The contract of Print. Conditions: the definition's numbers are of their fields' kinds, the list's length, the tables. What the document's example texts are parsed to, by steps that are counted. No program. No conditions. The children's texts: (*term).texts. Conditions: the block reads as a term that may be, its size, the tables. Texts compared: cmp.Less, strings.Compare, slices.IsSorted. No conditions but sizes. The document's own text of a term; texts once; texts in order. No conditions but sizes, and that parts may have a text. The document's own children, those of the kind replaced by theirs: liveryref09.flat. At most 16 of them, small ones. The document's own children, each text once: liveryref09.once. At most 16 of them, small ones. The document's own children, by text: liveryref09.sorted. At most 16 of them, small ones. Texts tell terms apart that may be; a term's text is another one just if its children's texts are. No program. No conditions. -/
import Derived.Test.YtioalnncjahlnaaGreatDoorPAGD
import Derived.Test.YtioalnncjahlnaaGreatDoorPAMA
import Derived.Test.YtioalnncjahlnaaGreatDoorPAGA
import Derived.Test.YtioalnncjahlnaaGreatDoorPAGC
import Derived.Lib.Bytealg
import Derived.Test.YtioalnncjahlnaaGreatDoorPAGB
namespace Go.Proofs.YtioalnncjahlnaaGreatDoor
open Go.ChangeShapes Go.WideShapes Go.ChangeAt Go.RowKit Go.Shelf
attribute [local irreducible] Go.Calls

/-- What Print hands back: of a tree its text, if its numbers are what a text may have; else an error, or some text. -/
def PrintPost (w : World) (fr to' : Int) (T : List Prt) (e : Ending) (w' : World) : Prop :=
  ∃ (t : List UInt8) (er : Int), e = .returned (.tuple #[strV t, .int .i64 er]) ∧ Below w.heap.size w w' ∧ t.length ≤ 1000000000 ∧ ((treeB T = false ∧ er = 81 ∧ t = []) ∨ (er = 0 ∧ ∃ F : Fst, F.kok ∧ F.len = 1 ∧ T = F.flat ∧ t = printF fr to' F))
/-- What a text begins with. -/
def headW (fr to' : Int) : List UInt8 := [102, 114, 111, 109, 32] ++ decS fr ++ [32, 116, 111, 32] ++ decS to' ++ [58]
theorem headW_print (fr to' : Int) (F : Fst) : headW fr to' ++ textF F = printF fr to' F := by
  simp [headW, printF, wFrom, wTo]
/-- What is kept while parts are written. -/
structure PrSt (b : Nat) (a : List UInt8 × List Int) (fr to' : Int) (ad : Option Addr) (T : List Prt) (cap : Nat) (p : Nat) (w0 w : World) : Prop where
  wr : WrI b b a.1 a.2 w
  bel : Below b w0 w
  d : Blk w p #[.int .i64 fr, .int .i64 to', .slice ad T.length cap] 24
  arg : ArgP w ad T
  tb : Tb b w
  sz : b ≤ w.heap.size
theorem PrSt.next {b : Nat} {a a' : List UInt8 × List Int} {fr to' : Int} {ad : Option Addr} {T : List Prt} {cap p : Nat} {w0 w w' : World} (h : PrSt b a fr to' ad T cap p w0 w) (hp : p < b) (hw0 : w0.heap.size = b) (hA0 : ArgP w0 ad T) (hb : Below b w w') (hw : WrI b b a'.1 a'.2 w') : PrSt b a' fr to' ad T cap p w0 w' :=
  ⟨hw, h.bel.trans hb, h.d.below hb hp, hA0.past (by rw [hw0]; exact h.bel.trans hb), h.tb.below hb, Nat.le_trans h.sz hb.size⟩
theorem stOk_nil : StOk [] := ⟨fun y hy => (by cases hy), fun c r e => (by cases e)⟩
theorem WrI.past {B b : Nat} {s : List UInt8} {st : List Int} {w w' : World} (h : WrI B b s st w) (hb : Below w.heap.size w w') : WrI B b s st w' := by
  obtain ⟨o, h1, h2⟩ := h
  exact ⟨o, h1.past hb, own_below h2 hb⟩
theorem WrI.wrote {B b : Nat} {s s' : List UInt8} {st : List Int} {o : Value} {w w' : World} (h1 : Wr B b s o w) (h2 : w.ownsRow B 3 1 o st.length (intsV st.reverse)) (hw : WroteW B b s' o w w') : WrI B b s' st w' := by
  obtain ⟨pv, v, hb, hB⟩ := wr_blk h1
  exact ⟨o, hw.1, own_others (by decide) h2 (row_ne h2 hb) hw.2.2⟩
set_option maxRecDepth 100000 in
set_option maxHeartbeats 2000000 in
theorem print_c (fr to' : Int) (hf : -9223372036854775808 ≤ fr ∧ fr ≤ 9223372036854775807) (ht : -9223372036854775808 ≤ to' ∧ to' ≤ 9223372036854775807) (T : List Prt) (hW : ∀ x ∈ T, PrtW x) (a : Option Addr) (cap : Nat) (w : World) (hl : T.length ≤ 100000) (hA : ArgP w a T) (hT : Tab w) :
    Calls Tryz.prog 134 #[defV fr to' a T.length cap] w (PrintPost w fr to' T) := by
  have HC := hidE (fun w' (hb : Below w.heap.size w w') => tree_c T (fun x hx => (hW x hx).1) a cap w' hl (hA.past hb))
  have HA := hidE hA; have HT := hidE hT; have HW := hidE hW
  clear hA hT hW
  cases htr : treeB T with
  | false =>
    rw [htr] at HC
    have HTR := hidE htr; clear htr
    go_enter Tryz.func134, Tryz.ntmps134
    go_wp2_with fail
    ((with_reducible refine (HC.out _ (by (repeat (first | exact Below.refl _ _ | assumption | refine balloc ?_ _ | refine below_drewN ?_ _ | refine bstep (by assumption) ?_ | refine bstep (Past.prop _) ?_ | refine Below.setCell ?_ (by first | exact Nat.le_refl _ | (simp; done) | (simp; omega)) _)))).mono ?_); rintro e w1 ⟨rfl, hb⟩)
    have HB := hidE (show Below w.heap.size w w1 by (repeat (first | exact Below.refl _ _ | assumption | refine balloc ?_ _ | refine below_drewN ?_ _ | refine bstep (by assumption) ?_ | refine bstep (Past.prop _) ?_ | refine Below.setCell ?_ (by first | exact Nat.le_refl _ | (simp; done) | (simp; omega)) _)))
    clear hb
    go_wp2
    refine bodyPost_ret (v := .tuple #[strV [], .int .i64 81]) (by simp [results, Tryz.results134, go_sem]) rfl ⟨[], 81, rfl, HB.out, by simp, .inl ⟨HTR.out, rfl, rfl⟩⟩
  | true =>
    rw [htr] at HC
    obtain ⟨F, k1, k2, k3⟩ := tree_iff.1 htr
    have HK1 := hidE k1; have HK2 := hidE k2; have HK3 := hidE k3
    have hlf := decS_len hf; have hlt := decS_len ht
    clear htr k1 k2 k3
    go_enter Tryz.func134, Tryz.ntmps134
    go_wp2_with fail
    ((with_reducible refine (HC.out _ (by (repeat (first | exact Below.refl _ _ | assumption | refine balloc ?_ _ | refine below_drewN ?_ _ | refine bstep (by assumption) ?_ | refine bstep (Past.prop _) ?_ | refine Below.setCell ?_ (by first | exact Nat.le_refl _ | (simp; done) | (simp; omega)) _)))).mono ?_); rintro e w1 ⟨rfl, hb⟩)
    have hb0 := (Blk.made w #[.int .i64 fr, .int .i64 to', .slice a T.length cap] 24).past hb
    have hbw : Below w.heap.size w w1 := by (repeat (first | exact Below.refl _ _ | assumption | refine balloc ?_ _ | refine below_drewN ?_ _ | refine bstep (by assumption) ?_ | refine bstep (Past.prop _) ?_ | refine Below.setCell ?_ (by first | exact Nat.le_refl _ | (simp; done) | (simp; omega)) _))
    have hS : PrSt w1.heap.size ([], []) fr to' a T cap w.heap.size w1 (w1.alloc (.cells #[.pointer none, .slice none 0 0, .slice none 0 0] 214)) := by
      have hba : Below w1.heap.size w1 (w1.alloc (.cells #[.pointer none, .slice none 0 0, .slice none 0 0] 214)) := balloc (Below.refl _ _) _
      exact ⟨⟨.slice none 0 0, .inl ⟨Nat.le_refl _, .slice none 0 0, Blk.made _ _ _, World.ownsRowF_nil _ _ _ _⟩, World.ownsRow_nil _ _ _ _⟩, hba, hb0.past hba, (HA.out.past hbw).past hba, (Tb.of (HT.out.past hbw) (Nat.le_refl _)).below hba, by simp⟩
    have HS := hidE hS; have HBW := hidE hbw
    have hpb : w.heap.size < w1.heap.size := hb0.lt
    have hA0 := HA.out.past hbw
    clear hS hbw hb hb0 HA HC
    have HA0 := hidE hA0
    clear hA0
    go_wp2_with fail
    generalize w1.alloc (.cells #[.pointer none, .slice none 0 0, .slice none 0 0] 214) = w2 at *
    obtain ⟨b, hbe⟩ : ∃ b, b = w1.heap.size := ⟨_, rfl⟩
    obtain ⟨p, hpe⟩ : ∃ p, p = w.heap.size := ⟨_, rfl⟩
    rw [← hbe] at HS hpb ⊢
    rw [← hpe] at HS hpb ⊢
    have HBE := hidE hbe; have HPE := hidE hpe
    clear hbe hpe
    obtain ⟨o, ho1, ho2⟩ := HS.out.wr
    have HO1 := hidE ho1; have HO2 := hidE ho2
    have c0 := HS.out.d.cell 0; have c1 := HS.out.d.cell 1; have z := HS.out.d.lt
    simp at c0 c1
    have HD1 := hidE (fun (y : Past w2) => dec_c fr hf y.1 (HS.out.tb.below (y.2.mono HS.out.sz)).pow)
    have HD2 := hidE (fun (y : Past w2) => dec_c to' ht y.1 (HS.out.tb.below (y.2.mono HS.out.sz)).pow)
    have hcp := Past.cell (W := w2)
    clear ho1 ho2
    refine wp_region_bar 13 _ (by kernel_rfl) rfl (by kernel_rfl) (fun v w'' => v = .tuple #[.int .i64 (headW fr to').length, .nilIface] ∧ WroteW b b (headW fr to') o w2 w'') ?_
    simp only [List.take_succ_cons, List.take_zero, List.drop_succ_cons, List.drop_zero]
    repeat (go_big_quiet_step ((go_at_call 144; first | exact Past.call _ (HD1.out _) | exact Past.call _ (HD2.out _))))
    refine wpQuiet_nil ?_
    intro y
    refine ⟨rfl, ?_, ?_⟩
    · simp [go_sem, gives]
      rw [show (⟨#[102, 114, 111, 109, 32]⟩ : ByteArray) ++ ⟨(decS fr).toArray⟩ ++ ⟨#[32, 116, 111, 32]⟩ ++ ⟨(decS to').toArray⟩ ++ ⟨#[58]⟩ = ⟨(headW fr to').toArray⟩ from by
        rw [show (⟨#[102, 114, 111, 109, 32]⟩ : ByteArray) = ⟨([102, 114, 111, 109, 32] : List UInt8).toArray⟩ from rfl, show (⟨#[32, 116, 111, 32]⟩ : ByteArray) = ⟨([32, 116, 111, 32] : List UInt8).toArray⟩ from rfl, show (⟨#[58]⟩ : ByteArray) = ⟨([58] : List UInt8).toArray⟩ from rfl, str_cat, str_cat, str_cat, str_cat]
        rfl]
      have hhl : (headW fr to').length ≤ 60 := by simp only [headW, List.length_append, List.length_cons, List.length_nil]; omega
      refine (wr_str b b [] (headW fr to') o y.1 (HO1.out.past y.2) (by simp only [List.length_nil]; omega) (Nat.le_trans HS.out.sz y.2.size)).mono ?_
      rintro e w'' ⟨rfl, h1, h2, h3⟩
      have hy := y.2
      exact ⟨_, rfl, rfl, h1, (hy.mono HS.out.sz).trans h2, Lib.OthersKept.trans (others_past hy) h3⟩
    · rintro v w3 ⟨rfl, hw3⟩
      have HS3 := hidE (HS.out.next (a' := (headW fr to', [])) hpb HBE.out.symm HA0.out hw3.2.1 (WrI.wrote HO1.out HO2.out hw3))
      clear hw3 c0 c1 z hcp HD1 HD2
      refine wpQuiet_nil ?_
      rintro _ ⟨y, rfl⟩
      have HS4 := hidE (HS3.out.next (a' := (headW fr to', [])) hpb HBE.out.symm HA0.out (y.2.mono HS3.out.sz) (HS3.out.wr.past y.2))
      clear HS3 HS HO1 HO2
      generalize y.1 = w4 at *
      clear y
      have c2 := HS4.out.d.cell 2; have z := HS4.out.d.lt
      simp at c2
      simp only [Act.put, List.setIfInBounds_toArray, List.set_cons_succ, List.set_cons_zero]
      have hhl : (headW fr to').length ≤ 60 := by simp only [headW, List.length_append, List.length_cons, List.length_nil]; omega
      have HPART := hidE (fun (k : Nat) (hk : k ≤ T.length) => partsW_ok (T.take k) (headW fr to', []) stOk_nil (fun x hx => ⟨HW.out x (List.mem_of_mem_take hx), by
        have h1 := List.mem_of_mem_take hx
        rw [HK3.out] at h1
        have := kok_kids F HK1.out x h1
        have h2 := flat_len F
        rw [← HK3.out] at h2
        omega⟩))
      go_wp2_with fail
      go_loopg [30] T.length (fun gh v30 wr => ∃ k : Nat, k ≤ T.length ∧ T.length - k ≤ gh ∧ v30 = .int .i64 k ∧ PrSt b (partsW (headW fr to', []) (T.take k)) fr to' a T cap p w1 wr)
      case atStart => exact ⟨0, Nat.zero_le _, Nat.le_refl _, rfl, HS4.out⟩
      case round =>
        obtain ⟨k, hk, hgh, rfl, hp⟩ := hrel
        have HG := hidE hgh; have HP := hidE hp
        clear hgh hp
        by_cases hlt : k < T.length
        · obtain ⟨bb, off, rfl, hbb, hc⟩ := HP.out.arg (by omega)
          obtain ⟨e0, e1, e2, e3, e4⟩ := hc.get hlt
          have q1 : decide ((k : Int) < (T.length : Int)) = true := decide_eq_true (by omega)
          have q2 : decide (k < T.length) = true := decide_eq_true hlt
          have hx := HW.out (T.getD k pr0) (by rw [pgetD _ _ hlt]; exact List.getElem_mem hlt)
          have hmem : T.getD k pr0 ∈ F.flat := by rw [← HK3.out, pgetD _ _ hlt]; exact List.getElem_mem hlt
          have hkk := kok_kind F HK1.out _ hmem
          have hki := kok_kids F HK1.out _ hmem
          have hfs : F.size ≤ 100000 := by rw [← flat_len, ← HK3.out]; exact hl
          have hok := HPART.out k (by omega)
          have htk : (T.take k).length = k := by rw [List.length_take]; omega
          rw [htk] at hok
          have HNX := hidE (partsW_succ (headW fr to', []) T k hlt)
          have HPT := hidE (fun w' (hb : Below wr.heap.size wr w') => part_c b b (partsW (headW fr to', []) (T.take k)).1 (partsW (headW fr to', []) (T.take k)).2 (T.getD k pr0) w' (Nat.le_trans HP.out.sz hb.size) (HP.out.wr.past hb) hok.1 (by have := hok.2; simp only [List.length_nil] at this; omega) hx hkk ⟨hki.1, by omega⟩ (HP.out.tb.below (hb.mono HP.out.sz)))
          clear hc hx hmem hkk hki hok htk
          rw [show (⟨0, 0, 0, 0, 0⟩ : Prt) = pr0 from rfl] at HNX
          generalize T.getD k pr0 = x at *
          go_wp2_with fail
          have hba : Below wr.heap.size wr (wr.alloc (.cells #[.int .u8 x.kind, .int .u32 x.n, .int .u32 x.g, .int .i64 x.d, .int .i64 x.kids] 35)) := balloc (Below.refl _ _) _
          ((with_reducible refine (HPT.out _ hba).mono ?_); rintro e w6 ⟨rfl, hwi, hb6⟩)
          have HB6 := hidE ((hba.mono HP.out.sz).trans hb6); have HWI := hidE hwi
          clear hba hwi hb6
          go_wp2
          go_roundg (T.length - (k + 1))
          case measure => have := HG.out; omega
          case rel => exact ⟨k + 1, by omega, Nat.le_refl _, by go_num, HP.out.next hpb HBE.out.symm HA0.out HB6.out (by rw [HNX.out]; exact HWI.out)⟩
        · have q1 : decide ((k : Int) < (T.length : Int)) = false := decide_eq_false (by omega)
          have q2 : decide (k < T.length) = false := decide_eq_false hlt
          have hkT : T.take k = F.flat := by rw [List.take_of_length_le (by omega), HK3.out]
          have hfin := HP.out
          have hlen2 := (HPART.out k hk).2
          rw [hkT, partsW_one HK2.out, headW_print] at hfin
          rw [hkT, partsW_one HK2.out, headW_print] at hlen2
          have htl : (printF fr to' F).length ≤ 1000000000 := by
            simp only [List.length_nil] at hlen2
            rw [← HK3.out] at hlen2
            omega
          obtain ⟨o2, g1, _⟩ := hfin.wr
          have hne : printF fr to' F ≠ [] := by simp [printF, wFrom]
          have HSTR := hidE (wr_string b b (printF fr to' F) o2 wr g1 hne (by omega))
          have HBF := hidE (hfin.bel)
          clear hkT hfin hlen2 g1 hne
          go_wp2_with fail
          ((with_reducible refine HSTR.out.mono ?_); rintro e w5 ⟨rfl, hb5⟩)
          have HB5 := hidE (HBW.out.trans (((HBF.out.trans hb5)).mono (by rw [HBE.out]; exact HBW.out.size)))
          clear hb5
          go_wp2
          refine bodyPost_ret (v := .tuple #[strV (printF fr to' F), .int .i64 0]) (by simp [results, Tryz.results134, go_sem]) rfl ⟨printF fr to' F, 0, rfl, HB5.out, htl, .inr ⟨rfl, F, HK1.out, HK2.out, HK3.out, rfl⟩⟩
end Go.Proofs.YtioalnncjahlnaaGreatDoor

namespace Go.Proofs.YtioalnncjahlnaaGreatDoor

def parseF (s : List UInt8) : Df × Nat × Int :=
  if 4096 < s.length then (df0, 0, 3) else match lexF s.length 0 s with
  | .error p => (df0, p, 60)
  | .ok l => match defP l with
    | .ok r => (⟨r.1, r.2.1, r.2.2.flat⟩, 0, 0)
    | .error e => (df0, e.2.getD s.length, e.1)
theorem parseF_eq (s : List UInt8) : parseF s = parseS s := by unfold parseF parseS; rw [lexF_eq _ _ _ (Nat.le_refl _)]; rfl
/-- The text of the document's example. -/
def hp0 : List UInt8 := [102, 114, 111, 109, 32, 48, 32, 116, 111, 32, 49, 48, 48, 58, 32, 40, 111, 114, 100, 101, 114, 32, 40, 97, 116, 111, 109, 32, 50, 32, 49, 32, 49, 48, 41, 32, 40, 97, 110, 121, 32, 40, 97, 116, 111, 109, 32, 52, 32, 50, 32, 53, 41, 32, 40, 97, 116, 111, 109, 32, 49, 32, 49, 32, 50, 48, 41, 41, 41]
def hp0T : List Prt := [⟨1, 0, 0, 0, 2⟩, ⟨0, 2, 1, 10, 0⟩, ⟨3, 0, 0, 0, 2⟩, ⟨0, 4, 2, 5, 0⟩, ⟨0, 1, 1, 20, 0⟩]
def hp0F : Fst := .cons ⟨1, 0, 0, 0, 0⟩ (.cons ⟨0, 2, 1, 10, 0⟩ .nil (.cons ⟨3, 0, 0, 0, 0⟩ (.cons ⟨0, 4, 2, 5, 0⟩ .nil (.cons ⟨0, 1, 1, 20, 0⟩ .nil .nil)) .nil)) .nil
theorem hp0_parse : parseS hp0 = (⟨0, 100, hp0T⟩, 0, 0) := (parseF_eq hp0).symm.trans (by decide +kernel)
theorem hp0_flat : hp0F.flat = hp0T := rfl
theorem hp0_tree : treeB hp0T = true := by decide +kernel
theorem hp0_cut : treeB (hp0T.take 4) = false := by decide +kernel
theorem nil_tree : treeB [] = false := by decide +kernel
theorem hp1_parse : parseS [102, 114, 111, 109, 32, 48, 32, 116, 111, 32, 57, 32, 40, 97, 116, 111, 109, 32, 49, 32, 49, 32, 49, 41] = (df0, 12, 70) := (parseF_eq _).symm.trans (by decide +kernel)
theorem hp2_parse : parseS [102, 114, 111, 109, 32, 48, 32, 116, 111, 32, 57, 58, 32, 40, 111, 114, 100, 101, 114, 41] = (df0, 19, 70) := (parseF_eq _).symm.trans (by decide +kernel)
theorem hp3_parse : parseS [102, 114, 111, 109, 32, 48, 32, 116, 111, 32, 57, 58, 32, 40, 97, 116, 111, 109, 32, 49, 32, 49, 41] = (df0, 22, 70) := (parseF_eq _).symm.trans (by decide +kernel)
theorem hp4_parse : parseS hp0.dropLast = (df0, 68, 70) := (parseF_eq _).symm.trans (by decide +kernel)
theorem hp5_parse : parseS [] = (df0, 0, 70) := (parseF_eq _).symm.trans (by decide +kernel)
theorem hp6_parse : parseS [102, 114, 111, 109, 32, 48, 32, 116, 111, 32, 57, 58, 32, 40, 97, 116, 111, 109, 32, 52, 50, 57, 52, 57, 54, 55, 50, 57, 54, 32, 49, 32, 49, 41] = (df0, 19, 70) := (parseF_eq _).symm.trans (by decide +kernel)
theorem flat_inj : ∀ (F G : Fst) (r r' : List Prt), F.kok → G.kok → F.len = G.len → F.flat ++ r = G.flat ++ r' → F = G ∧ r = r'
  | .nil, .nil, r, r', _, _, _, h => ⟨rfl, h⟩
  | .nil, .cons _ _ _, _, _, _, _, h, _ => by simp [Fst.len] at h
  | .cons _ _ _, .nil, _, _, _, _, h, _ => by simp [Fst.len] at h
  | .cons x k n, .cons y k' n', r, r', ⟨_, x0, f1, f2⟩, ⟨_, y0, g1, g2⟩, hl, h => by
    simp only [Fst.flat, List.cons_append, List.append_assoc, List.cons.injEq] at h
    obtain ⟨h1, h2⟩ := h
    obtain ⟨x1, x2, x3, x4, x5⟩ := x
    obtain ⟨y1, y2, y3, y4, y5⟩ := y
    simp only [Prt.mk.injEq] at h1 x0 y0
    obtain ⟨rfl, rfl, rfl, rfl, h3⟩ := h1
    obtain ⟨rfl, h4⟩ := flat_inj k k' _ _ f1 g1 (by omega) h2
    obtain ⟨rfl, h5⟩ := flat_inj n n' _ _ f2 g2 (by simp only [Fst.len] at hl; omega) h4
    exact ⟨by rw [x0, y0], h5⟩
theorem dig_small {n : Nat} (h : n < 10) : digG n = [UInt8.ofNat (48 + n)] := by rw [digG, if_pos h]
theorem dig_big {n : Nat} (h : ¬ n < 10) : digG n = digG (n / 10) ++ [UInt8.ofNat (48 + n % 10)] := by rw [digG, if_neg h]
theorem dc0 : decS 0 = [48] := (decS_of (by decide)).trans (dig_small (by decide))
theorem dc1 : decS 1 = [49] := (decS_of (by decide)).trans (dig_small (by decide))
theorem dc2 : decS 2 = [50] := (decS_of (by decide)).trans (dig_small (by decide))
theorem dc4 : decS 4 = [52] := (decS_of (by decide)).trans (dig_small (by decide))
theorem dc5 : decS 5 = [53] := (decS_of (by decide)).trans (dig_small (by decide))
theorem dg10 : digG 10 = [49, 48] := (dig_big (by decide)).trans (congrArg (· ++ [48]) (dig_small (n := 1) (by decide)))
theorem dg20 : digG 20 = [50, 48] := (dig_big (by decide)).trans (congrArg (· ++ [48]) (dig_small (n := 2) (by decide)))
theorem dc10 : decS 10 = [49, 48] := (decS_of (by decide)).trans dg10
theorem dc20 : decS 20 = [50, 48] := (decS_of (by decide)).trans dg20
theorem dc100 : decS 100 = [49, 48, 48] := (decS_of (by decide)).trans ((dig_big (by decide)).trans (congrArg (· ++ [48]) dg10))
theorem hp0_print : printF 0 100 hp0F = hp0 := by
  simp only [printF, hp0F, textF, Int.cast_ofNat_Int, dc0, dc1, dc2, dc4, dc5, dc10, dc20, dc100]
  decide +kernel
theorem hp0_kok : hp0F.kok := by simp [hp0F, Fst.kok]
/-- Whatever tree the example's parts are read as, its text is the example's. -/
theorem hp0_text {F : Fst} (h : F.kok) (h1 : F.len = 1) (h2 : hp0T = F.flat) : printF 0 100 F = hp0 := by
  have := (flat_inj hp0F F [] [] hp0_kok h (by rw [h1]; rfl) (by rw [List.append_nil, List.append_nil, ← h2]; rfl)).1
  rw [← this]
  exact hp0_print
end Go.Proofs.YtioalnncjahlnaaGreatDoor

namespace Go.Proofs.YtioalnncjahlnaaGreatDoor
open Go.ChangeShapes Go.WideShapes Go.ChangeAt Go.RowKit
attribute [local irreducible] Go.Calls

/-- A term's text as the program has it: a window ahead. -/
def txN (t : Tm) : List UInt8 := headW 0 0 ++ txT t
def cellsZ (l : List (List UInt8)) : List Value := l.map strV
theorem Tryz.infoStrN : (Tryz.prog.info? 9).map (fun i => (i.zero, i.size, i.bytes)) = some (some (strV []), 1, 16) := by kernel_rfl
theorem print_txN {t : Tm} {deep ink : Nat} (hf : FitT t deep ink) {T : List Prt} (hT : T = flT t) {w w' : World} {e : Ending} (h : PrintPost w 0 0 T e w') : e = .returned (.tuple #[strV (txN t), .int .i64 0]) ∧ Below w.heap.size w w' ∧ (txN t).length ≤ 1000000000 := by
  subst hT
  have hk := fitT_kok hf
  have hfl : flT t = (bare (.cons t.1 t.2 .nil)).flat := by rw [bare_flat]; rfl
  have hlen : (bare (.cons t.1 t.2 .nil)).len = 1 := (bare_len _).1
  obtain ⟨s, er, rfl, hb, hsl, h2⟩ := h
  rcases h2 with ⟨c, _⟩ | ⟨rfl, F, k1, k2, k3, rfl⟩
  · rw [tree_iff.2 ⟨_, hk, hlen, hfl⟩] at c; cases c
  · have : F = bare (.cons t.1 t.2 .nil) := (flat_inj F _ [] [] k1 hk (k2.trans hlen.symm) (by rw [← k3, ← hfl])).1
    have e : printF 0 0 F = txN t := by rw [this, ← headW_print, bare_text]; rfl
    exact ⟨by rw [e], hb, by rw [← e]; exact hsl⟩
/-- A slice value that reads as texts. -/
def SliZ (w : World) (v : Value) (l : List (List UInt8)) : Prop := ∃ (a : Option Addr) (cap : Nat), v = .slice a l.length cap ∧ l.length ≤ cap ∧ cap ≤ 9223372036854775807 ∧ (0 < l.length → ∃ b off, a = some ⟨b, off, none⟩ ∧ b < w.heap.size ∧ ∀ i, i < l.length → w.cell? ⟨b, off + i, none⟩ = some (strV (l.getD i [])))
theorem SliZ.past {w w' : World} {v : Value} {l : List (List UInt8)} (h : SliZ w v l) (hb : Below w.heap.size w w') : SliZ w' v l := by
  obtain ⟨a, cap, e, h1, h2, h3⟩ := h
  refine ⟨a, cap, e, h1, h2, fun hl => ?_⟩
  obtain ⟨b, off, e2, g1, g2⟩ := h3 hl
  exact ⟨b, off, e2, Nat.lt_of_lt_of_le g1 hb.size, fun i hi => (hb.cell (p := ⟨b, _, none⟩) g1).trans (g2 i hi)⟩
theorem sliZ_own {w : World} {B : Nat} {e : TypeId} {v : Value} {l : List (List UInt8)} (h : w.ownsRow B e 1 v l.length (cellsZ l)) : SliZ w v l := by
  obtain ⟨h1, h2 | ⟨g, cap, cur, rfl, h3, h4, h5, h6, h7, h8⟩⟩ := h
  · obtain ⟨rfl, h2⟩ := h2
    have : l = [] := List.eq_nil_of_length_eq_zero h2
    subst this
    exact ⟨none, 0, rfl, Nat.le_refl _, by omega, fun h => by simp at h⟩
  · refine ⟨some ⟨g, 0, none⟩, cap, rfl, h5, by unfold maxLen at h6; omega, fun _ => ⟨g, 0, rfl, lt_of_block h4, fun i hi => ?_⟩⟩
    have e : w.cell? ⟨g, 0 + i, none⟩ = cur[i]? := by simp [World.cell?, h4]
    have hx : (cellsZ l)[i]? = some (strV (l.getD i [])) := by
      unfold cellsZ
      rw [List.getElem?_map, List.getD_eq_getElem?_getD, List.getElem?_eq_getElem hi]; rfl
    rw [e, ← Array.getElem?_toList]
    rw [← h8, List.getElem?_take, if_pos (by omega)] at hx
    exact hx
/-- What texts hands back. -/
def TxtPost (w : World) (t : Tm) (e : Ending) (w' : World) : Prop := ∃ v, e = .returned v ∧ SliZ w' v ((toL t.2).map txN) ∧ Below w.heap.size w w' ∧ (∀ k, v.ownBlock = some k → w.heap.size ≤ k) ∧ ∀ u ∈ toL t.2, (txN u).length ≤ 1000000000
set_option maxHeartbeats 4000000 in
set_option maxRecDepth 100000 in
theorem texts_c (S : Nat → Prop) (p : Nat) (t : Tm) (w : World) (deep ink : Nat) (hT : TermB S w p t) (hf : FitT t deep ink) (hs : sizT t ≤ 64) (hTab : Tab w) :
    Calls Tryz.prog 122 #[.pointer (some ⟨p, 0, none⟩)] w (TxtPost w t) := by
  obtain ⟨z, v, hb, hv⟩ := hT
  obtain ⟨av, cap, rfl, hc1, hc2⟩ := hv.shape
  have hlen := fitT_len hf
  have pz := hb.lt
  have HV := hidE hv.old; have HF := hidE hf; have HTAB := hidE hTab
  obtain ⟨ix, hix, hz0, hzz, hz4⟩ := info_parts Tryz.infoStrN
  have HI := hidE hix; have HZ0 := hidE hz0; have HZ1 := hidE hzz; have HZ2 := hidE hz4
  have c6 := hb.cell 6
  simp at c6
  clear hix hz0 hzz hz4 hb hv hf hTab
  go_enter Tryz.func122, Tryz.ntmps122
  go_wp2
  go_loopg [3, 14] t.2.len (fun gh v3 v14 wr => ∃ (A C : List Tm), v14 = .int .i64 A.length ∧ A ++ C = toL t.2 ∧ C.length ≤ gh ∧ wr.ownsRow w.heap.size 9 1 v3 A.length (cellsZ (A.map txN)) ∧ Below w.heap.size w wr ∧ ∀ u ∈ A, (txN u).length ≤ 1000000000)
  case atStart => exact ⟨[], toL t.2, rfl, rfl, by rw [toL_len]; exact Nat.le_refl _, own_nil _ _ _, Below.refl _ _, fun u h => by cases h⟩
  case round =>
    obtain ⟨A, C, rfl, hAC, hgh, hown, hbl, hsl⟩ := hrel
    have HSL := hidE hsl
    clear hsl
    have HAC := hidE hAC; have HGH := hidE hgh; have HOW := hidE hown; have HBL := hidE hbl
    have hAn : A.length + C.length = t.2.len := by rw [← toL_len, ← hAC, List.length_append]
    obtain ⟨a3, c3, rfl⟩ := own_sli hown
    have e6 := (hbl.cell (p := ⟨p, 6, none⟩) pz).trans c6
    have ez := Nat.lt_of_lt_of_le pz hbl.size
    clear hgh hown hbl
    cases C with
    | nil =>
      have q1 : decide ((A.length : Int) < (t.2.len : Int)) = false := decide_eq_false (by simp at hAn; omega)
      have q2 : ¬ A.length < t.2.len := by simp at hAn; omega
      have hA : A = toL t.2 := by simpa using hAC
      have hfin : SliZ wr (.slice a3 A.length c3) ((toL t.2).map txN) := by
        have h := HOW.out
        have := sliZ_own (l := A.map txN) (by rw [List.length_map]; exact h)
        rw [← hA]; exact this
      have HFI := hidE hfin
      have hsa := HSL.out
      rw [hA] at hsa
      have HSA := hidE hsa
      clear hAC hA hfin hsa
      go_wp2
      go_ret
      exact ⟨_, rfl, HFI.out, HBL.out, fun k e => own_block HOW.out e, HSA.out⟩
    | cons u C =>
      have q1 : decide ((A.length : Int) < (t.2.len : Int)) = true := decide_eq_true (by simp at hAn; omega)
      have q2 : A.length < t.2.len := by simp at hAn; omega
      obtain ⟨b, off, cap', z', vk, e, _, hbz, hSb, hk, d0, d1, d2, d3, d4, d5, d6⟩ := (HV.out.sam (Sam.old HBL.out)).get (i := A.length) q2
      cases e
      rw [getD_toL hAC] at d0 d1 d2 d3 d5 hk
      obtain ⟨ak, ck, rfl, hk1, hk2⟩ := hk.shape
      have hu : u ∈ toL t.2 := by rw [← hAC]; simp
      have hsu := siz_kid hu
      have HK := hidE hk
      have HFU := hidE (fitT_kid HF.out hu)
      have hws := HBL.out.size
      have hAl : A.length ≤ 16 := by omega
      have HPR := hidE (fun (a : Option Addr) (cap : Nat) (n : Nat) (hn : n = (flT u).length) (w' : World) (hA : ArgP w' a (flT u)) (hT : Tab w') => (by subst hn; exact print_c 0 0 (by omega) (by omega) (flT u) (fitT_flat HFU.out) a cap w' (by rw [flT_len]; omega) hA hT : Calls Tryz.prog 134 #[defV 0 0 a n cap] w' (PrintPost w' 0 0 (flT u))))
      clear hk hAC hu
      go_wp2_with fail
      obtain ⟨w1, hw1⟩ : ∃ w1, w1 = (wr.alloc (.cells (tcA u.1 z' (.slice ak u.2.len ck)) 79)).alloc (.cells #[.slice none 0 0, .slice none 0 0] 75) := ⟨_, rfl⟩
      rw [← hw1]
      have hb1 : Below wr.heap.size wr w1 := by rw [hw1]; (repeat (first | exact Below.refl _ _ | assumption | refine balloc ?_ _ | refine below_drewN ?_ _ | refine bstep (by assumption) ?_ | refine bstep (Past.prop _) ?_ | refine Below.setCell ?_ (by first | exact Nat.le_refl _ | (simp; done) | (simp; omega)) _))
      have hsz1 : w1.heap.size = wr.heap.size + 1 + 1 := by rw [hw1]; simp
      have hls : ListAt (wr.heap.size + 1 + 1) (wr.heap.size + 1) w1 [] [] := ⟨_, _, by rw [hw1]; exact Blk.made_at _ _ _ _ (by simp), own_nil _ _ _, own_nil _ _ _⟩
      have hK1 : SliF (Old S w) w1 (.slice ak u.2.len ck) u.2 := HK.out.sam (Sam.past hb1)
      have hSn : ∀ k, Old S w k → k < wr.heap.size + 1 + 1 ∧ k ≠ wr.heap.size + 1 := fun k q => by have := q.2; omega
      clear hw1 d0 d1 d2 d3 d4 d5 d6 e6 ez
      ((with_reducible refine (add_c (Old S w) (wr.heap.size + 1 + 1) (wr.heap.size + 1) (Nat.lt_succ_self _) hSn (sizT u) u z' _ [] [] w1 (Nat.le_refl _) (Nat.le_of_eq hsz1.symm) hls hK1 (by simp only [List.length_nil]; omega) rfl).mono ?_); rintro e w2 ⟨rfl, hl2, hbar2⟩)
      have hb2 : Below wr.heap.size wr w2 := hb1.trans ((hbar2.below (Nat.le_succ _)).mono (Nat.le_succ _))
      obtain ⟨vp, vf, hl3, hp3, _⟩ := hl2
      obtain ⟨ap, cp, rfl⟩ := own_sli hp3
      have hp4 := sliP_own hp3
      simp only [List.nil_append] at hp4 hl3
      obtain ⟨_, _, e, hp5, hp6, hA2⟩ := hp4
      cases e
      have g0 := hl3.cell 0; have gz := hl3.lt
      simp at g0
      have HA2 := hidE hA2; have HB2 := hidE hb2
      have hfl : (flT u).length = sizT u := flT_len u
      rw [hfl] at g0 hp5
      have HFL := hidE hfl
      clear hl3 hp3 hA2 hb2 hbar2 hb1 hls hK1 hsz1 hfl
      go_wp2_with fail
      ((with_reducible refine (HPR.out _ _ _ HFL.out.symm _ HA2.out (HTAB.out.past (HBL.out.trans (HB2.out.mono hws)))).mono ?_); intro e w3 hpp)
      obtain ⟨rfl, hb3, hl3⟩ := print_txN HFU.out rfl hpp
      have HL3 := hidE hl3
      clear hl3
      have HB3 := hidE (HB2.out.trans (hb3.mono HB2.out.size))
      clear hpp hb3 g0 gz HA2 HPR
      go_wp2_with (at_builtin; go_loud (refine list_appV rfl (.tmp 27) (.tmp 29) 186 rfl w.heap.size 9 ix _ 1 16 Tryz.underlying186 HI.out HZ0.out HZ1.out HZ2.out rfl (by decide) (.slice a3 A.length c3) A.length (cellsZ (A.map txN)) rfl (own_below (own_below HOW.out HB3.out) (by (repeat (first | exact Below.refl _ _ | assumption | refine balloc ?_ _ | refine below_drewN ?_ _ | refine bstep (by assumption) ?_ | refine bstep (Past.prop _) ?_ | refine Below.setCell ?_ (by first | exact Nat.le_refl _ | (simp; done) | (simp; omega)) _)))) _ 1 [strV (txN u)] rfl (srcV_new (Blk.made_at _ _ _ _ (by first | rfl | (simp; done))) rfl (by intro y hy; simp at hy; subst hy; rfl)) (by omega) (by omega) (by have := HB3.out.size; simp; omega) ?_); intro v' w' own' hg'; obtain ⟨av', cp', rfl⟩ := own_sli own')
      go_roundg C.length
      case measure => have := HGH.out; simp only [List.length_cons] at this; omega
      case rel =>
        refine ⟨A ++ [u], C, by simp, by rw [← HAC.out]; simp, Nat.le_refl _, ?_, ?_, fun y hy => by
          rcases List.mem_append.1 hy with hy | hy
          · exact HSL.out y hy
          · obtain rfl := List.mem_singleton.1 hy; exact HL3.out⟩
        · rw [List.length_append, List.map_append, cellsZ, List.map_append]; exact own'
        · have hb4 := HBL.out.trans (HB3.out.mono hws)
          exact Below.grown (hb4.trans ((show Below w3.heap.size w3 _ from by (repeat (first | exact Below.refl _ _ | assumption | refine balloc ?_ _ | refine below_drewN ?_ _ | refine bstep (by assumption) ?_ | refine bstep (Past.prop _) ?_ | refine Below.setCell ?_ (by first | exact Nat.le_refl _ | (simp; done) | (simp; omega)) _))).mono hb4.size)) hg' (by have := hb4.size; simp; omega) (fun j hj => own_block HOW.out hj)
end Go.Proofs.YtioalnncjahlnaaGreatDoor

namespace Go.Proofs.YtioalnncjahlnaaGreatDoor
open Go.ChangeShapes Go.WideShapes Go.ChangeAt Go.RowKit
attribute [local irreducible] Go.Calls

theorem less_ltB : ∀ a b : List UInt8, Op.bytesLess a b = ltB a b
  | [], [] => rfl
  | _ :: _, [] => rfl
  | [], _ :: _ => rfl
  | a :: r, b :: s => by
    rw [Op.bytesLess, ltB, less_ltB r s]
    congr 1
set_option maxRecDepth 100000 in
theorem strL (l : List UInt8) : (⟨l.toArray⟩ : ByteArray).toList = l := by rw [Lib.toList_data]
set_option maxRecDepth 100000 in
theorem isNaNs_c (a : List UInt8) (w : World) : Calls Tryz.prog 147 #[strV a] w fun e w' => e = .returned (.bool false) ∧ w' = w := by
  go_enter Tryz.func147, Tryz.ntmps147
  go_wp2
  go_ret
  exact ⟨by simp, rfl⟩
set_option maxRecDepth 100000 in
theorem lessS_c (a b : List UInt8) (w : World) : Calls Tryz.prog 135 #[strV a, strV b] w fun e w' => e = .returned (.bool (ltB a b)) ∧ w' = w := by
  go_enter Tryz.func135, Tryz.ntmps135
  go_wp2_with (go_at_call 147; refine (isNaNs_c _ _).mono ?_; rintro e w' ⟨rfl, rfl⟩)
  go_ret
  exact ⟨by simp [less_ltB], rfl⟩
/-- What strings.Compare answers. -/
def cmpB (a b : List UInt8) : Int := Lib.compareBytes a b
theorem cmpB_ltB : ∀ a b : List UInt8, (cmpB a b < 0 ↔ ltB a b = true) ∧ (cmpB a b = 0 ↔ a = b)
  | [], [] => by simp [cmpB, Lib.compareBytes, ltB]
  | _ :: _, [] => by simp [cmpB, Lib.compareBytes, ltB]
  | [], _ :: _ => by simp [cmpB, Lib.compareBytes, ltB]
  | a :: r, b :: s => by
    have ih := cmpB_ltB r s
    unfold cmpB at ih ⊢
    rw [Lib.compareBytes, ltB]
    by_cases h1 : a < b
    · rw [if_pos h1]
      have : a ≠ b := fun e => by subst e; exact absurd h1 (by simp)
      exact ⟨by simp [h1], by simp [this]⟩
    · by_cases h2 : b < a
      · have : a ≠ b := fun e => by subst e; exact absurd h2 (by simp)
        rw [if_neg h1, if_pos h2]
        exact ⟨by simp [h1, this], by simp [this]⟩
      · have e : a = b := UInt8.toNat_inj.1 (by rw [UInt8.lt_iff_toNat_lt] at h1 h2; omega)
        subst e
        rw [if_neg h1, if_neg h2]
        exact ⟨by simp [ih.1], by simp [ih.2]⟩
set_option maxRecDepth 100000 in
theorem compareS_c (a b : List UInt8) (w : World) : Calls Tryz.prog 125 #[strV a, strV b] w fun e w' => e = .returned (.int .i64 (cmpB a b)) ∧ w' = w := by
  have hC : ∀ (w : World), Calls Tryz.prog 136 #[strV a, strV b] w fun e w' => e = .returned (.int .i64 (cmpB a b)) ∧ w' = w := fun w => by
    go_enter Tryz.func136, Tryz.ntmps136
    go_wp2
    rw [run_callFunc_extern Tryz.func148 (by kernel_rfl) (by kernel_rfl) (by kernel_rfl) (e := Extern.BytealgCompare.compare) (by kernel_rfl), Lib.run_compareString]
    simp only [Result.andThen]
    rw [Oper.upon_value]
    go_wp2
    go_ret
    exact ⟨rfl, rfl⟩
  go_enter Tryz.func125, Tryz.ntmps125
  go_wp2_with (go_at_call 136; refine (hC _).mono ?_; rintro e w' ⟨rfl, rfl⟩)
  go_ret
  exact ⟨rfl, rfl⟩
def SortedZ (l : List (List UInt8)) : Prop := ∀ i, 0 < i → i < l.length → ltB (l.getD i []) (l.getD (i - 1) []) = false
def SrtAns (w : World) (l : List (List UInt8)) (e : Ending) (w' : World) : Prop := ∃ r : Bool, e = .returned (.bool r) ∧ (r = true ↔ SortedZ l) ∧ Below w.heap.size w w'
set_option maxHeartbeats 4000000 in
set_option maxRecDepth 100000 in
theorem isSorted_c (l : List (List UInt8)) (v : Value) (w : World) (hl : l.length ≤ 100000) (h : SliZ w v l) :
    Calls Tryz.prog 123 #[v] w (SrtAns w l) := by
  obtain ⟨a, cap, rfl, h1, h2, h3⟩ := h
  have HC := hidE h3
  clear h3
  go_enter Tryz.func123, Tryz.ntmps123
  go_wp2
  go_loopg [3] l.length (fun gh v3 wr => ∃ i : Int, v3 = .int .i64 i ∧ -1 ≤ i ∧ i < l.length ∧ i.toNat ≤ gh ∧ (∀ j : Nat, i < (j : Int) → 0 < j → j < l.length → ltB (l.getD j []) (l.getD (j - 1) []) = false) ∧ Below w.heap.size w wr)
  case atStart => exact ⟨(l.length : Int) - 1, rfl, by omega, by omega, by omega, fun j a b c => by omega, Below.refl _ _⟩
  case round =>
    obtain ⟨i, rfl, hi1, hi2, hgh, hall, hbl⟩ := hrel
    have HALL := hidE hall; have HBL := hidE hbl; have HGH := hidE hgh
    clear hall hbl hgh
    by_cases hp : 0 < i
    · obtain ⟨k, rfl⟩ : ∃ k : Nat, i = (k : Int) + 1 := ⟨(i - 1).toNat, by omega⟩
      obtain ⟨b, off, rfl, hb, hc⟩ := HC.out (by omega)
      have zb := Nat.lt_of_lt_of_le hb HBL.out.size
      have c1 := (HBL.out.cell (p := ⟨b, off + (k + 1), none⟩) hb).trans (hc (k + 1) (by omega))
      have c0 := (HBL.out.cell (p := ⟨b, off + k, none⟩) hb).trans (hc k (by omega))
      generalize hx : l.getD (k + 1) [] = x at *
      generalize hy : l.getD k [] = y at *
      have HX := hidE hx; have HY := hidE hy
      have q0 : (k : Int) + 1 < l.length := hi2
      have q1 : k + 1 < l.length := by omega
      clear hc hx hy
      go_wp2
      refine wp_region_past_lit (by kernel_rfl) (by kernel_rfl) ?_
      have hcp := Past.cell (W := wr)
      repeat (go_big_quiet_step ((go_at_call 135; exact Past.same _ (lessS_c _ _ _))))
      refine wpQuiet_nil ?_
      rintro _ ⟨x', rfl⟩
      have HB2 := hidE (HBL.out.trans (x'.2.mono HBL.out.size))
      clear hcp c0 c1
      generalize x'.1 = w2 at *
      cases hlt : ltB x y with
      | true =>
        have hf : ¬ SortedZ l := fun h => by
          have := h (k + 1) (by omega) q1
          rw [Nat.add_sub_cancel, HX.out, HY.out, hlt] at this; cases this
        have HF := hidE hf
        clear hf
        go_wp2
        go_ret
        exact ⟨false, rfl, by simp only [Bool.false_eq_true, false_iff]; exact HF.out, HB2.out⟩
      | false =>
        have HLT := hidE hlt
        go_wp2
        go_roundg k
        case measure => have := HGH.out; omega
        case rel =>
          refine ⟨(k : Int), by go_num, by omega, by omega, by omega, fun j h1 h2 h3 => ?_, HB2.out⟩
          by_cases c : j = k + 1
          · subst c; rw [Nat.add_sub_cancel, HX.out, HY.out]; exact HLT.out
          · exact HALL.out j (by omega) h2 h3
    · have q1 : decide (0 < i) = false := decide_eq_false hp
      go_wp2
      go_ret
      exact ⟨true, rfl, by simp only [true_iff]; exact fun j h1 h2 => HALL.out j (by omega) h1 h2, HBL.out⟩
end Go.Proofs.YtioalnncjahlnaaGreatDoor

namespace Go.Proofs.YtioalnncjahlnaaGreatDoor
open Go.ChangeShapes Go.WideShapes Go.ChangeAt Go.RowKit
attribute [local irreducible] Go.Calls

/-- A term's text, no blank ahead. -/
def tx9 (t : Tm) : List UInt8 := txt7 t.1 t.2
theorem tx9_txT (t : Tm) : txT t = 32 :: tx9 t := by
  unfold txT tx9
  rw [textF_cons9]
  simp [textF]
theorem tx9_eq {t u : Tm} : tx9 t = tx9 u ↔ txT t = txT u := by rw [tx9_txT, tx9_txT]; simp
theorem tx9_lt (t u : Tm) : ltB (tx9 t) (tx9 u) = ltB (txT t) (txT u) := by rw [tx9_txT, tx9_txT]; simp [ltB]
set_option maxRecDepth 100000 in
set_option maxHeartbeats 2000000 in
theorem text9_c (lo : Nat → Prop) (t : Tm) (a : Option Addr) (c : Nat) (a2 : Option Addr) (c2 n : Nat) (hn : n = sizT t) (w : World) (hg : gdT t) (hs : sizT t ≤ 100000) (hT : TmAt lo w t a c a2 c2) :
    Calls Tryz.prog 69 #[tmV n a c a2 c2] w fun e w' => e = .returned (strV (tx9 t)) ∧ Below w.heap.size w w' := by
  subst hn
  have hk := gd_kok t.2 hg.2
  have hfl : flT t = [] ++ ({ bareP t.1 with kids := ((bare t.2).len : Int) } :: ((bare t.2).flat ++ [])) := by
    rw [flT_eq, bare_flat, (bare_len t.2).1]; simp [bareP]
  have HT := hidE (fun (w' : World) (hb : Below w.heap.size w w') => show Calls Tryz.prog 88 #[.slice a (sizT t) c, .int .i64 0] w' (fun e w2 => e = .returned (strV (tx9 t)) ∧ Below w'.heap.size w' w2) from by
    have := text7_c ((bare t.2).size + 1) (bareP t.1) (bare t.2) [] [] (flT t) a c 0 w' (Nat.lt_succ_self _) hg.1.2 hk.2 hg.1.1 hk.1 hfl rfl (by rw [flT_len]; exact hs) (hT.L.past hb)
    rw [flT_len] at this
    have e : txt7 (bareP t.1) (bare t.2) = tx9 t := by
      unfold tx9 txt7
      rw [bare_text]; rfl
    rw [e] at this
    exact this)
  clear hT hk hfl
  go_enter Tryz.func69, Tryz.ntmps69
  go_wp2_with fail
  ((with_reducible refine (HT.out _ ?hb).mono ?_); (case hb => (repeat (first | exact Below.refl _ _ | assumption | refine balloc ?_ _ | refine below_drewN ?_ _ | refine bstep (by assumption) ?_ | refine bstep (Past.prop _) ?_ | refine Below.setCell ?_ (by first | exact Nat.le_refl _ | (simp; done) | (simp; omega)) _))); rintro e w1 ⟨rfl, hb1⟩)
  have HB := hidE hb1
  clear hb1
  go_wp2
  go_ret
  exact ⟨rfl, (show Below w.heap.size w _ from by (repeat (first | exact Below.refl _ _ | assumption | refine balloc ?_ _ | refine below_drewN ?_ _ | refine bstep (by assumption) ?_ | refine bstep (Past.prop _) ?_ | refine Below.setCell ?_ (by first | exact Nat.le_refl _ | (simp; done) | (simp; omega)) _))).trans (HB.out.mono (by simp))⟩
/-- Terms that may have a text, and are small. -/
def GdL (l : List Tm) : Prop := ∀ t ∈ l, gdT t ∧ sizT t ≤ 100000
theorem GdL.app {l r : List Tm} (h : GdL l) (h2 : GdL r) : GdL (l ++ r) := fun t ht => (List.mem_append.1 ht).elim (h t) (h2 t)
theorem GdL.get {l : List Tm} (h : GdL l) {i : Nat} (hi : i < l.length) : gdT (l.getD i tm0) ∧ sizT (l.getD i tm0) ≤ 100000 := by
  rw [List.getD_eq_getElem?_getD, List.getElem?_eq_getElem hi]
  exact h _ (List.getElem_mem hi)
end Go.Proofs.YtioalnncjahlnaaGreatDoor

namespace Go.Proofs.YtioalnncjahlnaaGreatDoor
open Go.ChangeShapes Go.WideShapes Go.ChangeAt Go.RowKit
attribute [local irreducible] Go.Calls

/-- One list of cells splits as its terms do. -/
theorem RowM.split {lo : Nat → Prop} {w : World} {R : List Tm} : ∀ {A : List Tm} {xs : List Value}, RowM lo w xs (A ++ R) → RowM lo w (xs.take (A.length * 2)) A ∧ RowM lo w (xs.drop (A.length * 2)) R
  | [], xs, h => by simpa [RowM] using h
  | t :: A, v1 :: v2 :: xs, h => by
    have h2 := RowM.split (A := A) (xs := xs) h.2
    have e : (t :: A).length * 2 = A.length * 2 + 1 + 1 := by simp only [List.length_cons]; omega
    rw [e]
    simp only [List.take_succ_cons, List.drop_succ_cons]
    exact ⟨⟨h.1, h2.1⟩, h2.2⟩
/-- The first terms of a slice, and the others. -/
theorem SliM.parts {lo : Nat → Prop} {w : World} {b off cap n : Nat} {A R : List Tm} (h : SliM lo w (.slice (some ⟨b, off, none⟩) n cap) (A ++ R)) :
    SliM lo w (.slice (some ⟨b, off, none⟩) A.length cap) A ∧ (∀ o, R ≠ [] → o = off + A.length * 2 → SliM lo w (.slice (some ⟨b, o, none⟩) R.length (cap - A.length)) R) := by
  obtain ⟨a, c, e, h1, h2, h3, h4⟩ := h
  cases e
  rw [List.length_append] at h1
  refine ⟨⟨_, _, rfl, by omega, h2, fun e => (by cases e), fun hl => ?_⟩, fun o hR ho => ⟨_, _, rfl, by omega, by omega, fun e => (by cases e), fun hl => ?_⟩⟩
  · obtain ⟨b', o', e, hb, xs, hr, hx⟩ := h4 (by rw [List.length_append]; omega)
    cases e
    refine ⟨_, _, rfl, hb, _, hr.split.1, fun j u hu => hx j u ?_⟩
    rw [List.getElem?_take] at hu
    by_cases c : j < A.length * 2
    · rwa [if_pos c] at hu
    · rw [if_neg c] at hu; cases hu
  · obtain ⟨b', o', e, hb, xs, hr, hx⟩ := h4 (by rw [List.length_append]; omega)
    cases e
    refine ⟨_, _, rfl, hb, _, hr.split.2, fun j u hu => ?_⟩
    rw [List.getElem?_drop] at hu
    rw [ho, Nat.add_assoc]; exact hx _ u hu
theorem wrap9 {m k : Nat} (h : m ≤ 16) (h2 : k ≤ 16) : wrap64 ((m : Int) + (k : Int)) = (m : Int) + (k : Int) := by
  have h3 : (0 : Int) ≤ (m : Int) + (k : Int) := by omega
  have h4 : (m : Int) + (k : Int) ≤ 32 := by omega
  generalize (m : Int) + (k : Int) = z at *
  unfold wrap64; omega
theorem wrap9b {m k : Nat} (h : m ≤ 16) (h2 : k ≤ 16) : wrap64 ((m : Int) + (k : Int) - 1) = (m : Int) + (k : Int) - 1 := by
  have h3 : (0 : Int) ≤ (m : Int) + (k : Int) := by omega
  have h4 : (m : Int) + (k : Int) ≤ 32 := by omega
  generalize (m : Int) + (k : Int) = z at *
  unfold wrap64; omega
theorem wrap9c {m k : Nat} (h : m ≤ 16) (h2 : k ≤ 16) : wrap64 (wrap64 ((m : Int) + (k : Int)) - 1) = (m : Int) + (k : Int) - 1 := by
  rw [wrap9 h h2, wrap9b h h2]
set_option maxRecDepth 100000 in
set_option maxHeartbeats 4000000 in
theorem flat9_c (lo : Nat → Prop) (kd : Nat) (l : List Tm) (a : Option Addr) (cap n : Nat) (hn : n = l.length) (w : World) (_hkd : kd ≤ 4) (hg : GdL l) (h16 : n ≤ 16) (hk : ∀ t ∈ l, t.2.len ≤ 16) (hM : SliM lo w (.slice a n cap) l) :
    Calls Tryz.prog 66 #[.int .u8 kd, .slice a n cap] w fun e w' => ∃ v, e = .returned v ∧ SliM lo w' v (flatG kd n l) ∧ Below w.heap.size w w' := by
  obtain ⟨ix, hix, hz0, hzz, hz4⟩ := info_parts Tryz.infoTerm
  have HI := hidE hix; have HZ0 := hidE hz0; have HZ1 := hidE hzz; have HZ2 := hidE hz4
  have HM := hidE hM; have HG := hidE hg; have HK := hidE hk; have HN := hidE hn
  clear hix hz0 hzz hz4 hM hg hk hn
  go_enter Tryz.func66, Tryz.ntmps66
  go_wp2
  go_loopg [1, 5] n (fun gh v1 v5 wr => ∃ (D R : List Tm) (m : Nat) (a1 : Option Addr) (c1 : Nat), v1 = .slice a1 m c1 ∧ v5 = .int .i64 D.length ∧ m = D.length + R.length ∧ m ≤ 16 ∧ R.length ≤ gh ∧ SliM lo wr (.slice a1 m c1) (D ++ R) ∧ D ++ flatG kd m R = flatG kd n l ∧ GdL R ∧ (∀ t ∈ R, t.2.len ≤ 16) ∧ Below w.heap.size w wr)
  case atStart => exact ⟨[], l, n, a, cap, rfl, rfl, by rw [HN.out]; simp, h16, by rw [HN.out]; exact Nat.le_refl _, HM.out, rfl, HG.out, HK.out, Below.refl _ _⟩
  case round =>
    obtain ⟨D, R, m, a1, c1, rfl, rfl, hm, hm16, hgh, hS, hF, hgR, hkR, hb⟩ := hrel
    have HB := hidE hb; have HS := hidE hS; have HF := hidE hF; have HGR := hidE hgR; have HKR := hidE hkR; have HGH := hidE hgh
    clear hb hS hF hgR hkR hgh HM
    cases R with
    | nil =>
      have q1 : decide ((D.length : Int) < (m : Int)) = false := decide_eq_false (by simp at hm; omega)
      have q2 : ¬ D.length < m := by simp at hm; omega
      go_wp2
      go_ret
      refine ⟨_, rfl, ?_, HB.out⟩
      have h := HF.out
      simp only [flatG, List.append_nil] at h
      rw [← h]
      have := HS.out
      rwa [List.append_nil] at this
    | cons u R =>
      have q1 : decide ((D.length : Int) < (m : Int)) = true := decide_eq_true (by simp at hm; omega)
      have q2 : D.length < m := by simp at hm; omega
      obtain ⟨aM, capM, eM, hcM, hM1, hM2, hMA⟩ := HS.out
      simp only [Value.slice.injEq] at eM
      obtain ⟨rfl, eL, rfl⟩ := eM
      rw [← eL] at hcM
      obtain ⟨bM, oM, rfl, hbM, hMC⟩ := hMA (by rw [List.length_append, List.length_cons]; omega)
      obtain ⟨ak, ck, ak2, ck2, d0, d1, hT⟩ := hMC.get (i := D.length) (by rw [List.length_append, List.length_cons]; omega)
      have hge : (D ++ u :: R).getD D.length tm0 = u := by rw [List.getD_eq_getElem?_getD, List.getElem?_append_right (Nat.le_refl _), Nat.sub_self]; rfl
      rw [hge] at d0 d1 hT
      have hgu := HGR.out u (by simp)
      have hku := HKR.out u (by simp)
      obtain ⟨bu, ou, rfl, hbu, hcu⟩ := hT.L (by rw [flT_len]; cases u; simp only [sizT]; omega)
      have hcu0 := hcu
      rw [flT_eq] at hcu
      obtain ⟨p0, p1, p2, p3, p4⟩ := hcu.get (i := 0) (by simp)
      simp at p0 p4
      have h0u : 0 < sizT u := by cases u; simp only [sizT]; omega
      have HT := hidE hT; have HGU := hidE hgu
      clear hT hgu hcu hcu0 hMA hMC hge hM2 p1 p2 p3
      have hm' : m = D.length + (R.length + 1) := by simpa using hm
      obtain ⟨k, hk⟩ : ∃ k, u.2.len = k := ⟨_, rfl⟩
      rw [hk] at p4 hku
      have HKU := hidE hk; have HMM := hidE hm'
      clear eL hm hm' hk
      by_cases hc : u.1.kind = kd
      · have r1 : ((u.1.kind : Int) != (kd : Int)) = false := by simp; omega
        have HC := hidE (fun (w' : World) (hb : Below wr.heap.size wr w') => kids9_c lo u (some ⟨bu, ou, none⟩) ck ak2 ck2 w' HGU.out.1 HGU.out.2 (HT.out.past hb))
        go_upto_region 5 with fail
        · rename_i hc2
          go_roundg R.length
          case measure => have := HGH.out; simp only [List.length_cons] at this; omega
          case rel =>
            have h := HF.out
            rw [flatG, if_neg (fun q => by have := q.2; have := HKU.out; omega)] at h
            refine ⟨D ++ [u], R, m, _, c1, rfl, by simp, by rw [HMM.out]; simp; omega, hm16, Nat.le_refl _, ?_, ?_, fun t ht => HGR.out t (List.mem_cons_of_mem _ ht), fun t ht => HKR.out t (List.mem_cons_of_mem _ ht), HB.out⟩
            · rw [List.append_assoc]; exact HS.out
            · rw [List.append_assoc]; exact h
        · rename_i hc2
          go_wp2_with fail
          ((with_reducible refine (HC.out _ ?hb).mono ?_); (case hb => (repeat (first | exact Below.refl _ _ | assumption | refine balloc ?_ _ | refine below_drewN ?_ _ | refine bstep (by assumption) ?_ | refine bstep (Past.prop _) ?_ | refine Below.setCell ?_ (by first | exact Nat.le_refl _ | (simp; done) | (simp; omega)) _))); rintro e w4 ⟨vi, rfl, hrow4, hb4⟩)
          obtain ⟨ai, ci, rfl⟩ : ∃ ai ci, vi = .slice ai k ci := by
            obtain ⟨xs, ho, _⟩ := hrow4
            obtain ⟨av, cp, e⟩ := own_sli ho
            exact ⟨av, cp, by rw [e, toL_len, HKU.out]⟩
          have hB4 : Below w.heap.size w w4 := HB.out.trans (hb4.mono HB.out.size)
          have HB4 := hidE hB4
          obtain ⟨hS1, hS2⟩ := (HS.out.past hb4).parts
          have HS4 := hidE ((show SliM lo w4 (.slice (some ⟨bM, oM, none⟩) m c1) ((D ++ [u]) ++ R) from by rw [List.append_assoc]; exact HS.out.past hb4).parts).2
          have hSI := (hrow4.own hb4).sli
          obtain ⟨y1, hy1, hr1⟩ := hS1.src
          obtain ⟨y2, hy2, hr2⟩ := hSI.src
          rw [toL_len, HKU.out] at hy2
          have HY1 := hidE hy1; have HR1 := hidE hr1; have HY2 := hidE hy2; have HR2 := hidE hr2
          clear hrow4 hb4 hB4 hS1 hS2 hSI hy1 hr1 hy2 hr2
          go_upto_region 7 with fail
          go_upto_region 8 with (at_builtin; go_loud (refine list_appV rfl (.tmp 44) (.tmp 47) 99 rfl w4.heap.size 63 ix _ 2 48 Tryz.underlying99 HI.out HZ0.out HZ1.out HZ2.out rfl (by decide) (.slice none 0 0) 0 [] rfl (own_nil _ _ _) _ D.length y1 rfl (srcV_pastN HY1.out (by (repeat (first | exact Below.refl _ _ | assumption | refine balloc ?_ _ | refine below_drewN ?_ _ | refine bstep (by assumption) ?_ | refine bstep (Past.prop _) ?_ | refine Below.setCell ?_ (by first | exact Nat.le_refl _ | (simp; done) | (simp; omega)) _)))) (by omega) (by omega) (by simp) ?_); intro v1 w5 own1 hg1; rw [Nat.zero_add, List.nil_append] at own1; obtain ⟨a5, c5, rfl⟩ := own_sli own1)
          have hb5 : Below w4.heap.size w4 w5 := Below.grown (Below.refl _ _) hg1 (Nat.le_refl _) (fun k e => by cases e)
          have HB5 := hidE hb5; have HO1 := hidE own1
          clear hb5 own1 hg1
          go_upto_region 9 with (at_builtin; go_loud (refine list_appV rfl (.tmp 49) (.tmp 50) 99 rfl w4.heap.size 63 ix _ 2 48 Tryz.underlying99 HI.out HZ0.out HZ1.out HZ2.out rfl (by decide) (.slice a5 D.length c5) D.length y1 rfl (own_below HO1.out (by (repeat (first | exact Below.refl _ _ | assumption | refine balloc ?_ _ | refine below_drewN ?_ _ | refine bstep (by assumption) ?_ | refine bstep (Past.prop _) ?_ | refine Below.setCell ?_ (by first | exact Nat.le_refl _ | (simp; done) | (simp; omega)) _)))) _ k y2 rfl (srcV_pastN (srcV_pastN HY2.out HB5.out) (by (repeat (first | exact Below.refl _ _ | assumption | refine balloc ?_ _ | refine below_drewN ?_ _ | refine bstep (by assumption) ?_ | refine bstep (Past.prop _) ?_ | refine Below.setCell ?_ (by first | exact Nat.le_refl _ | (simp; done) | (simp; omega)) _)))) (by omega) (by omega) (Nat.le_trans HB5.out.size (by simp)) ?_); intro v2 w6 own2 hg2; obtain ⟨a6, c6, rfl⟩ := own_sli own2)
          have hb6 : Below w4.heap.size w4 w6 := Below.grown ((show Below w5.heap.size w5 _ from by (repeat (first | exact Below.refl _ _ | assumption | refine balloc ?_ _ | refine below_drewN ?_ _ | refine bstep (by assumption) ?_ | refine bstep (Past.prop _) ?_ | refine Below.setCell ?_ (by first | exact Nat.le_refl _ | (simp; done) | (simp; omega)) _))).mono HB5.out.size |> HB5.out.trans) hg2 (Nat.le_trans HB5.out.size (by simp)) (fun k e => own_block HO1.out e)
          have HB6 := hidE hb6; have HO2 := hidE own2
          clear hb6 own2 hg2 HB5 HO1
          by_cases hcc : c1 = D.length + 1
          · have hR0 : R = [] := List.eq_nil_of_length_eq_zero (by have := HMM.out; omega)
            have HY3 := hidE (fun c => show SrcV w4 2 (.slice (some ⟨bM, oM, none⟩) (m - (D.length + 1)) c) (m - (D.length + 1)) [] from ⟨_, c, rfl, fun e => (by cases e), by have := HMM.out; rw [hR0] at this; simp at this; simp; omega, fun u hu => (by cases hu), fun ad _ j u hu => (by simp at hu)⟩)
            go_wp2_with (at_builtin; go_loud (refine list_appV rfl (.tmp 52) (.tmp 56) 99 rfl w4.heap.size 63 ix _ 2 48 Tryz.underlying99 HI.out HZ0.out HZ1.out HZ2.out rfl (by decide) (.slice a6 (D.length + k) c6) (D.length + k) (y1 ++ y2) rfl (own_below HO2.out (by (repeat (first | exact Below.refl _ _ | assumption | refine balloc ?_ _ | refine below_drewN ?_ _ | refine bstep (by assumption) ?_ | refine bstep (Past.prop _) ?_ | refine Below.setCell ?_ (by first | exact Nat.le_refl _ | (simp; done) | (simp; omega)) _)))) _ (m - (D.length + 1)) [] rfl (srcV_pastN (srcV_pastN (HY3.out _) HB6.out) (by (repeat (first | exact Below.refl _ _ | assumption | refine balloc ?_ _ | refine below_drewN ?_ _ | refine bstep (by assumption) ?_ | refine bstep (Past.prop _) ?_ | refine Below.setCell ?_ (by first | exact Nat.le_refl _ | (simp; done) | (simp; omega)) _)))) (by omega) (by omega) (Nat.le_trans HB6.out.size (by simp)) ?_); intro v3 w7 own3 hg3; obtain ⟨a7, c7, rfl⟩ := own_sli own3)
            have hb7 : Below w4.heap.size w4 w7 := Below.grown ((show Below w6.heap.size w6 _ from by (repeat (first | exact Below.refl _ _ | assumption | refine balloc ?_ _ | refine below_drewN ?_ _ | refine bstep (by assumption) ?_ | refine bstep (Past.prop _) ?_ | refine Below.setCell ?_ (by first | exact Nat.le_refl _ | (simp; done) | (simp; omega)) _))).mono HB6.out.size |> HB6.out.trans) hg3 (Nat.le_trans HB6.out.size (by simp)) (fun k e => own_block HO2.out e)
            have HB7 := hidE hb7; have HO3 := hidE own3
            clear hb7 own3 hg3 HO2 HB6
            go_roundg R.length
            case measure => have := HGH.out; simp only [List.length_cons] at this; omega
            case rel =>
              have hm := HMM.out
              have hlu : (toL u.2).length = k := by rw [toL_len]; exact HKU.out
              have e4 : ((D ++ toL u.2) ++ R).length = D.length + k + (m - (D.length + 1)) := by rw [List.length_append, List.length_append, hlu]; omega
              have hown : OwnM w4.heap.size lo w7 (.slice a7 (D.length + k + (m - (D.length + 1))) c7) ((D ++ toL u.2) ++ R) := ⟨_, by rw [e4]; exact HO3.out, (RowM.app (RowM.past HB7.out (show RowM lo w4 [] R by rw [hR0]; trivial)) (RowM.app (RowM.past HB7.out HR2.out) (RowM.past HB7.out HR1.out)))⟩
              have h := HF.out
              rw [flatG, if_pos ⟨hc, by have := HKU.out; omega⟩, ← List.append_assoc] at h
              have e5 : m + u.2.len - 1 = D.length + k + (m - (D.length + 1)) := by rw [HKU.out]; omega
              rw [e5] at h
              have hs9 := hown.sli
              refine ⟨D ++ toL u.2, R, _, a7, c7, rfl, ?_, by rw [← e4, List.length_append], by omega, Nat.le_refl _, hs9, h, fun t ht => HGR.out t (List.mem_cons_of_mem _ ht), fun t ht => HKR.out t (List.mem_cons_of_mem _ ht), HB4.out.trans (HB7.out.mono HB4.out.size)⟩
              rw [List.length_append, hlu]
              go_num
          · have hS3 : ∃ y3, SrcV w4 2 (.slice (some ⟨bM, oM + (D.length + 1) * 2, none⟩) (m - (D.length + 1)) (c1 - (D.length + 1))) (m - (D.length + 1)) y3 ∧ RowM lo w4 y3 R := by
              have e3 : R.length = m - (D.length + 1) := by have := HMM.out; omega
              by_cases hR : R = []
              · subst hR
                simp only [List.length_nil] at e3
                rw [← e3]
                exact ⟨[], ⟨_, _, rfl, fun e => (by cases e), rfl, fun u hu => (by cases hu), fun ad _ j u hu => (by simp at hu)⟩, trivial⟩
              · have hq := HS4.out
                obtain ⟨y3, hy3, hr3⟩ := (hq _ hR rfl).src
                rw [List.length_append, List.length_singleton, e3] at hy3
                exact ⟨y3, hy3, hr3⟩
            obtain ⟨y3, hy3, hr3⟩ := hS3
            have HY3 := hidE hy3; have HR3 := hidE hr3
            clear hy3 hr3
            go_wp2_with (at_builtin; go_loud (refine list_appV rfl (.tmp 52) (.tmp 56) 99 rfl w4.heap.size 63 ix _ 2 48 Tryz.underlying99 HI.out HZ0.out HZ1.out HZ2.out rfl (by decide) (.slice a6 (D.length + k) c6) (D.length + k) (y1 ++ y2) rfl (own_below HO2.out (by (repeat (first | exact Below.refl _ _ | assumption | refine balloc ?_ _ | refine below_drewN ?_ _ | refine bstep (by assumption) ?_ | refine bstep (Past.prop _) ?_ | refine Below.setCell ?_ (by first | exact Nat.le_refl _ | (simp; done) | (simp; omega)) _)))) _ (m - (D.length + 1)) y3 rfl (srcV_pastN (srcV_pastN HY3.out HB6.out) (by (repeat (first | exact Below.refl _ _ | assumption | refine balloc ?_ _ | refine below_drewN ?_ _ | refine bstep (by assumption) ?_ | refine bstep (Past.prop _) ?_ | refine Below.setCell ?_ (by first | exact Nat.le_refl _ | (simp; done) | (simp; omega)) _)))) (by omega) (by omega) (Nat.le_trans HB6.out.size (by simp)) ?_); intro v3 w7 own3 hg3; obtain ⟨a7, c7, rfl⟩ := own_sli own3)
            have hb7 : Below w4.heap.size w4 w7 := Below.grown ((show Below w6.heap.size w6 _ from by (repeat (first | exact Below.refl _ _ | assumption | refine balloc ?_ _ | refine below_drewN ?_ _ | refine bstep (by assumption) ?_ | refine bstep (Past.prop _) ?_ | refine Below.setCell ?_ (by first | exact Nat.le_refl _ | (simp; done) | (simp; omega)) _))).mono HB6.out.size |> HB6.out.trans) hg3 (Nat.le_trans HB6.out.size (by simp)) (fun k e => own_block HO2.out e)
            have HB7 := hidE hb7; have HO3 := hidE own3
            clear hb7 own3 hg3 HO2 HB6
            go_roundg R.length
            case measure => have := HGH.out; simp only [List.length_cons] at this; omega
            case rel =>
              have hm := HMM.out
              have hlu : (toL u.2).length = k := by rw [toL_len]; exact HKU.out
              have e4 : ((D ++ toL u.2) ++ R).length = D.length + k + (m - (D.length + 1)) := by rw [List.length_append, List.length_append, hlu]; omega
              have hown : OwnM w4.heap.size lo w7 (.slice a7 (D.length + k + (m - (D.length + 1))) c7) ((D ++ toL u.2) ++ R) := ⟨_, by rw [e4]; exact HO3.out, (RowM.app (RowM.past HB7.out HR3.out) (RowM.app (RowM.past HB7.out HR2.out) (RowM.past HB7.out HR1.out)))⟩
              have h := HF.out
              rw [flatG, if_pos ⟨hc, by have := HKU.out; omega⟩, ← List.append_assoc] at h
              have e5 : m + u.2.len - 1 = D.length + k + (m - (D.length + 1)) := by rw [HKU.out]; omega
              rw [e5] at h
              have hs9 := hown.sli
              refine ⟨D ++ toL u.2, R, _, a7, c7, rfl, ?_, by rw [← e4, List.length_append], by omega, Nat.le_refl _, hs9, h, fun t ht => HGR.out t (List.mem_cons_of_mem _ ht), fun t ht => HKR.out t (List.mem_cons_of_mem _ ht), HB4.out.trans (HB7.out.mono HB4.out.size)⟩
              rw [List.length_append, hlu]
              go_num
      · have r1 : ((u.1.kind : Int) != (kd : Int)) = true := by simp; omega
        go_wp2
        go_roundg R.length
        case measure => have := HGH.out; simp only [List.length_cons] at this; omega
        case rel =>
          have h := HF.out
          rw [flatG, if_neg (fun q => hc q.1)] at h
          refine ⟨D ++ [u], R, m, _, c1, rfl, by simp, by rw [HMM.out]; simp; omega, hm16, Nat.le_refl _, ?_, ?_, fun t ht => HGR.out t (List.mem_cons_of_mem _ ht), fun t ht => HKR.out t (List.mem_cons_of_mem _ ht), HB.out⟩
          · rw [List.append_assoc]; exact HS.out
          · rw [List.append_assoc]; exact h
end Go.Proofs.YtioalnncjahlnaaGreatDoor

namespace Go.Proofs.YtioalnncjahlnaaGreatDoor
open Go.ChangeShapes Go.WideShapes Go.ChangeAt Go.RowKit
attribute [local irreducible] Go.Calls

/-- The texts seen, in any order. -/
theorem onceG_seen : ∀ (R : List Tm) (s s' : List (List UInt8)), (∀ x, x ∈ s ↔ x ∈ s') → onceG s R = onceG s' R
  | [], _, _, _ => rfl
  | t :: R, s, s', h => by
    have e : s.contains (txT t) = s'.contains (txT t) := by
      rw [Bool.eq_iff_iff]; simpa using h (txT t)
    rw [onceG, onceG, e, onceG_seen R s s' h, onceG_seen R (txT t :: s) (txT t :: s') (fun x => by simp [h x])]
/-- One of these has the text. -/
def metB (D : List Tm) (u : Tm) : Bool := D.any fun d => decide (tx9 d = tx9 u)
theorem metB_iff (D : List Tm) (u : Tm) : metB D u = true ↔ txT u ∈ D.map txT := by
  simp only [metB, List.any_eq_true, decide_eq_true_eq, List.mem_map, tx9_eq]
theorem metB_take (D : List Tm) (u : Tm) {k : Nat} (h : k < D.length) : metB (D.take (k + 1)) u = (metB (D.take k) u || decide (tx9 (D.getD k tm0) = tx9 u)) := by
  rw [take_snoc D tm0 h, metB, List.any_append]; simp [metB]
theorem once_step (D : List Tm) (u : Tm) (R : List Tm) : D ++ onceG (D.map txT) (u :: R) = if metB D u then D ++ onceG (D.map txT) R else (D ++ [u]) ++ onceG ((D ++ [u]).map txT) R := by
  rw [onceG]
  by_cases c : metB D u = true
  · rw [if_pos c, if_pos (by simpa using (metB_iff D u).1 c)]
  · rw [if_neg c, if_neg (by simpa using fun h => c ((metB_iff D u).2 h)), List.append_assoc]
    rw [onceG_seen R (txT u :: D.map txT) ((D ++ [u]).map txT) (fun x => by simp [or_comm])]
    rfl
set_option maxRecDepth 100000 in
set_option maxHeartbeats 4000000 in
theorem once9_c (lo : Nat → Prop) (l : List Tm) (a : Option Addr) (cap n : Nat) (hn : n = l.length) (w : World) (hg : GdL l) (h16 : n ≤ 16) (hM : SliM lo w (.slice a n cap) l) :
    Calls Tryz.prog 67 #[.slice a n cap] w fun e w' => ∃ v, e = .returned v ∧ SliM lo w' v (onceG [] l) ∧ Below w.heap.size w w' := by
  obtain ⟨ix, hix, hz0, hzz, hz4⟩ := info_parts Tryz.infoTerm
  have HI := hidE hix; have HZ0 := hidE hz0; have HZ1 := hidE hzz; have HZ2 := hidE hz4
  have HM := hidE hM; have HG := hidE hg; have HN := hidE hn
  clear hix hz0 hzz hz4 hM hg hn
  go_enter Tryz.func67, Tryz.ntmps67
  go_wp2
  go_loopg [3, 4] n (fun gh v3 v4 wr => ∃ (A D R : List Tm), v4 = .int .i64 A.length ∧ A ++ R = l ∧ R.length ≤ gh ∧ D.length ≤ A.length ∧ D ++ onceG (D.map txT) R = onceG [] l ∧ GdL D ∧ RowIn w.heap.size lo w wr v3 D ∧ Below w.heap.size w wr)
  case atStart => exact ⟨[], [], l, rfl, rfl, by rw [HN.out]; exact Nat.le_refl _, Nat.le_refl _, rfl, fun t ht => (by cases ht), rowIn_nil _ _ _ _, Below.refl _ _⟩
  case round =>
    obtain ⟨A, D, R, rfl, hAR, hgh, hDA, hD, hgD, hO, hb⟩ := hrel
    have HB := hidE hb; have HO := hidE hO; have HD := hidE hD; have HGD := hidE hgD; have HGH := hidE hgh; have HAR := hidE hAR
    have hAn : A.length + R.length = n := by rw [HN.out, ← hAR, List.length_append]
    obtain ⟨xs, ho, hrx⟩ := hO
    obtain ⟨a3, c3, rfl⟩ := own_sli ho
    have HOW := hidE ho; have HRX := hidE hrx
    clear hb hD hgD hgh ho hrx hAR
    cases R with
    | nil =>
      have q1 : decide ((A.length : Int) < (n : Int)) = false := decide_eq_false (by simp at hAn; omega)
      have q2 : ¬ A.length < n := by simp at hAn; omega
      go_wp2
      go_ret
      refine ⟨_, rfl, ?_, HB.out⟩
      have h := HD.out
      simp only [onceG, List.append_nil] at h
      rw [← h]
      exact (HO.out.own HB.out).sli
    | cons u R =>
      have q1 : decide ((A.length : Int) < (n : Int)) = true := decide_eq_true (by simp at hAn; omega)
      have q2 : A.length < n := by simp at hAn; omega
      have hAl : A.length < l.length := by rw [← HN.out]; exact q2
      obtain ⟨aM, capM, eM, hcM, hM1, hM2, hMA⟩ := HM.out
      simp only [Value.slice.injEq] at eM
      obtain ⟨rfl, eL, rfl⟩ := eM
      obtain ⟨bM, oM, rfl, hbM, hMC⟩ := hMA (by omega)
      obtain ⟨ak, ck, ak2, ck2, d0, d1, hT⟩ := hMC.get hAl
      have hge : l.getD A.length tm0 = u := by rw [← HAR.out, List.getD_eq_getElem?_getD, List.getElem?_append_right (Nat.le_refl _), Nat.sub_self]; rfl
      have hgu : gdT u ∧ sizT u ≤ 100000 := HG.out u (by rw [← HAR.out]; simp)
      rw [hge] at d0 d1 hT
      have d0 := (HB.out.cell (p := ⟨bM, oM + A.length * 2, none⟩) hbM).trans d0
      have d1 := (HB.out.cell (p := ⟨bM, oM + A.length * 2 + 1, none⟩) hbM).trans d1
      have hbM := Nat.lt_of_lt_of_le hbM HB.out.size
      have HTW := hidE hT
      have hT := hT.past HB.out
      have HT := hidE hT; have HGU := hidE hgu
      have HCU := hidE (fun (w' : World) (hb : Below wr.heap.size wr w') => text9_c lo u ak ck ak2 ck2 (sizT u) rfl w' HGU.out.1 HGU.out.2 (HT.out.past hb))
      clear eL hMA hMC hAl hge hgu hT hM2
      obtain ⟨w1, hw1⟩ : ∃ w1, w1 = wr := ⟨_, rfl⟩
      subst hw1
      go_wp2
      go_loopg [5, 6] D.length (fun gh v5 v6 wr => ∃ k : Nat, v6 = .int .i64 k ∧ v5 = .bool (metB (D.take k) u) ∧ k ≤ D.length ∧ D.length - k ≤ gh ∧ Below w1.heap.size w1 wr)
      case atStart => exact ⟨0, rfl, rfl, Nat.zero_le _, Nat.le_refl _, Below.refl _ _⟩
      case round =>
        obtain ⟨k, rfl, rfl, hk, hgk, hbi⟩ := hrel
        have HGK := hidE hgk; have HBI := hidE hbi
        clear hgk hbi
        by_cases hkn : k < D.length
        · have q3 : decide ((k : Int) < (D.length : Int)) = true := decide_eq_true (by omega)
          obtain ⟨aD, cD, eD, hcD, hD1, hD2, hDA⟩ := ((HO.out.past HBI.out).own (HB.out.trans (HBI.out.mono HB.out.size))).sli
          simp only [Value.slice.injEq] at eD
          obtain ⟨rfl, eL, rfl⟩ := eD
          obtain ⟨bD, oD, rfl, hbD, hDC⟩ := hDA (by omega)
          obtain ⟨aj, cj, aj2, cj2, f0, f1, hTj⟩ := hDC.get hkn
          obtain ⟨d, hd⟩ : ∃ d, d = D.getD k tm0 := ⟨_, rfl⟩
          rw [← hd] at f0 f1 hTj
          have hgd := HGD.out.get hkn
          rw [← hd] at hgd
          have HTJ := hidE hTj; have HGJ := hidE hgd
          have HCD := hidE (fun (w' : World) (hb : Below wr.heap.size wr w') => text9_c lo d aj cj aj2 cj2 (sizT d) rfl w' HGJ.out.1 HGJ.out.2 (HTJ.out.past hb))
          have HTAKE := hidE (metB_take D u hkn)
          rw [← hd] at HTAKE
          have e0 := (HBI.out.cell (p := ⟨bM, oM + A.length * 2, none⟩) hbM).trans d0
          have e1 := (HBI.out.cell (p := ⟨bM, oM + A.length * 2 + 1, none⟩) hbM).trans d1
          have zM := Nat.lt_of_lt_of_le hbM HBI.out.size
          clear eL hDA hDC hgd hTj hd hD2 d0 d1
          obtain ⟨mb, hmb⟩ : ∃ mb, metB (D.take k) u = mb := ⟨_, rfl⟩
          rw [hmb] at HTAKE ⊢
          cases mb with
          | true =>
            go_upto_region 9 with fail
            refine wp_region_past_lit (by kernel_rfl) (by kernel_rfl) ?_
            have hcp := Past.cell (W := wr)
            repeat (go_big_quiet_step (fail))
            refine wpQuiet_nil ?_
            rintro _ ⟨x', rfl⟩
            have HBX := hidE (HBI.out.trans (x'.2.mono HBI.out.size))
            clear hcp e0 e1 f0 f1
            generalize x'.1 = w2 at *
            go_wp2
            go_roundg (D.length - (k + 1))
            case measure => have := HGK.out; omega
            case rel =>
              refine ⟨k + 1, by simp, by rw [HTAKE.out]; rfl, by omega, Nat.le_refl _, HBX.out⟩
          | false =>
            go_upto_region 9 with fail
            refine wp_region_past_lit (by kernel_rfl) (by kernel_rfl) ?_
            have hcp := Past.cell (W := wr)
            repeat (go_big_quiet_step ((go_at_call 69; first | exact Past.call _ (HCD.out _ (Past.prop _)) | exact Past.call _ (HCU.out _ (HBI.out.trans ((Past.prop _).mono HBI.out.size))))))
            refine wpQuiet_nil ?_
            rintro _ ⟨x', rfl⟩
            have HBX := hidE (HBI.out.trans (x'.2.mono HBI.out.size))
            clear hcp e0 e1 f0 f1
            generalize x'.1 = w2 at *
            go_wp2
            go_roundg (D.length - (k + 1))
            case measure => have := HGK.out; omega
            case rel =>
              refine ⟨k + 1, by simp, ?_, by omega, Nat.le_refl _, HBX.out⟩
              rw [HTAKE.out, Bool.false_or]
              exact congrArg _ (by rw [Bool.eq_iff_iff]; simp)
        · have q3 : decide ((k : Int) < (D.length : Int)) = false := decide_eq_false (by omega)
          have hkD : D.take k = D := by rw [show k = D.length by omega]; exact List.take_length
          rw [hkD]
          have hstep := once_step D u R
          rw [HD.out] at hstep
          have HOWI := hidE (own_below HOW.out HBI.out)
          have HBWI := hidE (HB.out.trans (HBI.out.mono HB.out.size))
          have e0 := (HBI.out.cell (p := ⟨bM, oM + A.length * 2, none⟩) hbM).trans d0
          have e1 := (HBI.out.cell (p := ⟨bM, oM + A.length * 2 + 1, none⟩) hbM).trans d1
          have zM := Nat.lt_of_lt_of_le hbM HBI.out.size
          obtain ⟨mb, hmb⟩ : ∃ mb, metB D u = mb := ⟨_, rfl⟩
          rw [hmb] at hstep ⊢
          have HST := hidE hstep
          clear hstep d0 d1 hkD
          cases mb with
          | true =>
            go_wp2
            go_roundg R.length
            case measure => have := HGH.out; simp only [List.length_cons] at this; omega
            case rel =>
              refine ⟨A ++ [u], D, R, by simp, by rw [← HAR.out]; simp, Nat.le_refl _, by rw [List.length_append]; omega, HST.out.symm, HGD.out, HO.out.past HBI.out, HBWI.out⟩
          | false =>
            have hD16 : D.length ≤ 16 := by omega
            go_wp2_with (at_builtin; go_loud (refine list_appV rfl (.tmp 35) (.tmp 40) 99 rfl w.heap.size 63 ix _ 2 48 Tryz.underlying99 HI.out HZ0.out HZ1.out HZ2.out rfl (by decide) (.slice a3 D.length c3) D.length xs rfl (own_below HOWI.out (by (repeat (first | exact Below.refl _ _ | assumption | refine balloc ?_ _ | refine below_drewN ?_ _ | refine bstep (by assumption) ?_ | refine bstep (Past.prop _) ?_ | refine Below.setCell ?_ (by first | exact Nat.le_refl _ | (simp; done) | (simp; omega)) _)))) _ 1 [.slice ak (sizT u) ck, .slice ak2 (sizT u) ck2] rfl (srcV_new (Blk.made_at _ _ _ _ (by first | rfl | (simp; done) | (simp [World.drewN]; done))) rfl (by intro y hy; simp at hy; rcases hy with rfl | rfl <;> rfl)) (by omega) (by omega) (Nat.le_trans HBWI.out.size (by simp)) ?_); intro v' w2 own' hg'; obtain ⟨av', cp', rfl⟩ := own_sli own')
            go_roundg R.length
            case measure => have := HGH.out; simp only [List.length_cons] at this; omega
            case rel =>
              have hbw : Below w.heap.size w w2 := Below.grown ((show Below wr.heap.size wr _ from by (repeat (first | exact Below.refl _ _ | assumption | refine balloc ?_ _ | refine below_drewN ?_ _ | refine bstep (by assumption) ?_ | refine bstep (Past.prop _) ?_ | refine Below.setCell ?_ (by first | exact Nat.le_refl _ | (simp; done) | (simp; omega)) _))).mono HBWI.out.size |> HBWI.out.trans) hg' (Nat.le_trans HBWI.out.size (by simp)) (fun k e => own_block HOWI.out e)
              refine ⟨A ++ [u], D ++ [u], R, by simp, by rw [← HAR.out]; simp, Nat.le_refl _, by rw [List.length_append, List.length_append]; simp; omega, HST.out.symm, HGD.out.app (fun t ht => by rw [List.mem_singleton.1 ht]; exact HGU.out), ⟨_, by rw [List.length_append]; exact own', RowM.app (rowM_one HTW.out rfl) HRX.out⟩, hbw⟩
end Go.Proofs.YtioalnncjahlnaaGreatDoor

namespace Go.Proofs.YtioalnncjahlnaaGreatDoor
open Go.ChangeShapes Go.WideShapes Go.ChangeAt Go.RowKit
attribute [local irreducible] Go.Calls

/-- A term goes between those that aren't greater and those that are. -/
theorem insG_at (t : Tm) (Q : List Tm) (hQ : ∀ v ∈ Q, ltB (txT t) (txT v) = true) : ∀ P : List Tm, (∀ v ∈ P, ltB (txT t) (txT v) = false) → insG t (P ++ Q) = P ++ t :: Q
  | [], _ => by
    cases Q with
    | nil => rfl
    | cons q Q => rw [List.nil_append, insG, if_pos (hQ q (by simp))]; rfl
  | p :: P, h => by
    rw [List.cons_append, insG, if_neg (by rw [h p (by simp)]; simp), insG_at t Q hQ P fun v hv => h v (List.mem_cons_of_mem _ hv)]
    rfl
theorem sortG_snoc (A : List Tm) (u : Tm) : sortG (A ++ [u]) = insG u (sortG A) := by
  unfold sortG
  rw [List.foldl_append]; rfl
/-- Where the one before isn't greater, none before is. -/
theorem low_all {D : List Tm} {u : Tm} (hD : D.Pairwise fun a b => ltB (txT b) (txT a) = false) {k : Nat} (hk : k < D.length) (h : ltB (txT u) (txT (D.getD k tm0)) = false) : ∀ v ∈ D.take (k + 1), ltB (txT u) (txT v) = false := by
  intro v hv
  rw [take_snoc D tm0 hk] at hv
  rcases List.mem_append.1 hv with hv | hv
  · obtain ⟨i, hi, rfl⟩ := List.mem_iff_getElem.1 hv
    rw [List.length_take] at hi
    have hp := List.pairwise_iff_getElem.1 hD i k (by omega) hk (by omega)
    rw [List.getD_eq_getElem?_getD, List.getElem?_eq_getElem hk, Option.getD_some] at h
    rw [List.getElem_take]
    cases hc : ltB (txT u) (txT D[i]) with
    | false => rfl
    | true =>
      cases hv : ltB (txT D[i]) (txT D[k]) with
      | true => rw [ltB_trans _ _ _ hc hv] at h; cases h
      | false => rw [ltB_total _ _ hv hp] at hc; rw [hc] at h; cases h
  · rw [List.mem_singleton.1 hv]; exact h
theorem gtr_ltB (a b : List UInt8) : (!ltB a b && !(a == b)) = ltB b a := by
  cases h : ltB a b with
  | true =>
    cases h2 : ltB b a with
    | true => have := ltB_trans _ _ _ h h2; rw [ltB_irr] at this; cases this
    | false => rfl
  | false =>
    by_cases e : a = b
    · subst e; rw [ltB_irr]; simp
    · cases h2 : ltB b a with
      | true => simp [e]
      | false => exact absurd (ltB_total _ _ h h2) e
theorem gtr_str (a b : List UInt8) (w : World) : Sem.run Tryz.prog (binOp BinOp.gtr 9 (strV a) (strV b)) w = Result.ok (.bool (ltB b a)) w := by
  rw [← gtr_ltB]
  simp [binOp, Op.stringOp, less_ltB, go_sem]
set_option maxRecDepth 100000 in
set_option maxHeartbeats 4000000 in
theorem sorted9_c (lo : Nat → Prop) (l : List Tm) (a : Option Addr) (cap n : Nat) (hn : n = l.length) (w : World) (hg : GdL l) (h16 : n ≤ 16) (hM : SliM lo w (.slice a n cap) l) :
    Calls Tryz.prog 68 #[.slice a n cap] w fun e w' => ∃ v, e = .returned v ∧ SliM lo w' v (sortG l) ∧ Below w.heap.size w w' := by
  obtain ⟨ix, hix, hz0, hzz, hz4⟩ := info_parts Tryz.infoTerm
  have HI := hidE hix; have HZ0 := hidE hz0; have HZ1 := hidE hzz; have HZ2 := hidE hz4
  have HM := hidE hM; have HG := hidE hg; have HN := hidE hn
  clear hix hz0 hzz hz4 hM hg hn
  go_enter Tryz.func68, Tryz.ntmps68
  go_wp2
  go_loopg [3, 4] n (fun gh v3 v4 wr => ∃ (A R : List Tm) (m : Nat) (a1 : Option Addr) (c1 : Nat), v3 = .slice a1 m c1 ∧ v4 = .int .i64 A.length ∧ m = A.length ∧ A ++ R = l ∧ R.length ≤ gh ∧ (A = [] → a1 = none) ∧ SliM lo wr (.slice a1 m c1) (sortG A) ∧ Below w.heap.size w wr)
  case atStart => exact ⟨[], l, 0, none, 0, rfl, rfl, rfl, rfl, by rw [HN.out]; exact Nat.le_refl _, fun _ => rfl, sliM_nil _ _, Below.refl _ _⟩
  case round =>
    obtain ⟨A, R, m, a1, c1, rfl, rfl, hm, hAR, hgh, hA0, hS, hb⟩ := hrel
    have HB := hidE hb; have HS := hidE hS; have HGH := hidE hgh; have HAR := hidE hAR; have HA0 := hidE hA0; have HMM := hidE hm
    have hAn : A.length + R.length = n := by rw [HN.out, ← hAR, List.length_append]
    clear hb hS hgh hAR hA0
    cases R with
    | nil =>
      have q1 : decide ((A.length : Int) < (n : Int)) = false := decide_eq_false (by simp at hAn; omega)
      have q2 : ¬ A.length < n := by simp at hAn; omega
      go_wp2
      go_ret
      refine ⟨_, rfl, ?_, HB.out⟩
      have h := HAR.out
      rw [List.append_nil] at h
      rw [← h]
      exact HS.out
    | cons u R =>
      have q1 : decide ((A.length : Int) < (n : Int)) = true := decide_eq_true (by simp at hAn; omega)
      have q2 : A.length < n := by simp at hAn; omega
      have hAl : A.length < l.length := by rw [← HN.out]; exact q2
      obtain ⟨aM, capM, eM, hcM, hM1, hM2, hMA⟩ := HM.out.past HB.out
      simp only [Value.slice.injEq] at eM
      obtain ⟨rfl, eL, rfl⟩ := eM
      obtain ⟨bM, oM, rfl, hbM, hMC⟩ := hMA (by omega)
      obtain ⟨ak, ck, ak2, ck2, d0, d1, hT⟩ := hMC.get hAl
      have hge : l.getD A.length tm0 = u := by rw [← HAR.out, List.getD_eq_getElem?_getD, List.getElem?_append_right (Nat.le_refl _), Nat.sub_self]; rfl
      have hgu : gdT u ∧ sizT u ≤ 100000 := HG.out u (by rw [← HAR.out]; simp)
      rw [hge] at d0 d1 hT
      have HT := hidE hT; have HGU := hidE hgu; have HD0 := hidE d0; have HD1 := hidE d1
      have HCU := hidE (fun (w' : World) (hb : Below wr.heap.size wr w') => text9_c lo u ak ck ak2 ck2 (sizT u) rfl w' HGU.out.1 HGU.out.2 (HT.out.past hb))
      clear eL hMA hMC hAl hge hgu hT hM2
      obtain ⟨w1, hw1⟩ : ∃ w1, w1 = wr := ⟨_, rfl⟩
      subst hw1
      obtain ⟨D, hD⟩ : ∃ D, D = sortG A := ⟨_, rfl⟩
      have hDl : D.length = m := by rw [hD, (sortG_siz A).2, HMM.out]
      have hDs : D.Pairwise fun a b => ltB (txT b) (txT a) = false := by rw [hD]; exact sortG_srt A
      have hDg : GdL D := fun t ht => HG.out t (by rw [← HAR.out]; rw [hD, sortG_mem] at ht; exact List.mem_append_left _ ht)
      rw [← hD] at HS
      have HD := hidE hD; have HDS := hidE hDs; have HDG := hidE hDg; have HDL := hidE hDl
      have hm16 : m ≤ 16 := by omega
      clear hD hDs hDg hDl hm
      go_wp2
      go_loopg [5] m (fun gh v5 wr => ∃ k : Nat, v5 = .int .i64 k ∧ k ≤ m ∧ k ≤ gh ∧ (∀ v ∈ D.drop k, ltB (txT u) (txT v) = true) ∧ Below w1.heap.size w1 wr)
      case atStart => exact ⟨m, rfl, Nat.le_refl _, Nat.le_refl _, fun v hv => by (rw [List.drop_eq_nil_of_le (by have := HDL.out; omega)] at hv; cases hv), Below.refl _ _⟩
      case round =>
        obtain ⟨k, rfl, hk, hgk, hgr, hbi⟩ := hrel
        have HGK := hidE hgk; have HBI := hidE hbi; have HGR := hidE hgr
        clear hgk hbi hgr
        cases k with
        | zero =>
          go_upto_region 6 with fail
          refine wp_region_past_lit (by kernel_rfl) (by kernel_rfl) ?_
          have hcp := Past.cell (W := wr)
          repeat (go_big_quiet_step (fail))
          refine wpQuiet_nil ?_
          rintro _ ⟨x', rfl⟩
          have HBX := hidE (HBI.out.trans (x'.2.mono HBI.out.size))
          clear hcp
          generalize x'.1 = w2 at *
          have HUP := hidE HGR.out
          have HLOW := hidE (show ∀ v ∈ D.take 0, ltB (txT u) (txT v) = false from fun v hv => by simp at hv)
          clear d0 d1
          by_cases hm0 : m = 0
          · have ha1 := HA0.out (List.eq_nil_of_length_eq_zero (by have := HMM.out; omega))
            subst ha1
            obtain ⟨_, _, eD, _, _, hcn, _⟩ := HS.out
            simp only [Value.slice.injEq] at eD
            obtain ⟨rfl, eL, rfl⟩ := eD
            clear eL
            obtain rfl := hcn rfl
            subst hm0
            have HW2 := hidE (HB.out.trans (HBX.out.mono HB.out.size))
            have g0 := (HBX.out.cell (p := ⟨bM, oM + A.length * 2, none⟩) hbM).trans HD0.out
            have g1 := (HBX.out.cell (p := ⟨bM, oM + A.length * 2 + 1, none⟩) hbM).trans HD1.out
            have gM := Nat.lt_of_lt_of_le hbM HBX.out.size
            have hTu := HT.out.past HBX.out
            have HTU := hidE hTu
            have HY1 := hidE (show SrcV w2 2 (.slice none 0 0) 0 [] from ⟨none, 0, rfl, fun _ => ⟨rfl, rfl⟩, rfl, fun u hu => (by cases hu), fun ad _ j u hu => (by simp at hu)⟩)
            have HR1 := hidE (show RowM lo w2 [] (D.take 0) from trivial)
            have HY3 := hidE (show SrcV w2 2 (.slice none 0 0) 0 [] from ⟨none, 0, rfl, fun _ => ⟨rfl, rfl⟩, rfl, fun u hu => (by cases hu), fun ad _ j u hu => (by simp at hu)⟩)
            have HR3 := hidE (show RowM lo w2 [] (D.drop 0) from by rw [List.drop_zero, List.eq_nil_of_length_eq_zero (show D.length = 0 by have := HDL.out; omega)]; trivial)
            clear hTu
            go_upto_region 9 with fail
            go_upto_region 10 with (at_builtin; go_loud (refine list_appV rfl (.tmp 33) (.tmp 36) 99 rfl w2.heap.size 63 ix _ 2 48 Tryz.underlying99 HI.out HZ0.out HZ1.out HZ2.out rfl (by decide) (.slice none 0 0) 0 [] rfl (own_nil _ _ _) _ 0 [] rfl (srcV_pastN HY1.out (by (repeat (first | exact Below.refl _ _ | assumption | refine balloc ?_ _ | refine below_drewN ?_ _ | refine bstep (by assumption) ?_ | refine bstep (Past.prop _) ?_ | refine Below.setCell ?_ (by first | exact Nat.le_refl _ | (simp; done) | (simp; omega)) _)))) (by omega) (by omega) (by simp) ?_); intro v3 w3 own3 hg3; obtain ⟨a3, c3, rfl⟩ := own_sli own3)
            rw [Nat.zero_add, List.nil_append] at own3
            have hb3 : Below w2.heap.size w2 w3 := Below.grown (show Below w2.heap.size w2 _ from by (repeat (first | exact Below.refl _ _ | assumption | refine balloc ?_ _ | refine below_drewN ?_ _ | refine bstep (by assumption) ?_ | refine bstep (Past.prop _) ?_ | refine Below.setCell ?_ (by first | exact Nat.le_refl _ | (simp; done) | (simp; omega)) _))) hg3 (by simp) (fun k e => by cases e)
            have g0 := (hb3.cell (p := ⟨bM, oM + A.length * 2, none⟩) gM).trans g0
            have g1 := (hb3.cell (p := ⟨bM, oM + A.length * 2 + 1, none⟩) gM).trans g1
            have gM := Nat.lt_of_lt_of_le gM hb3.size
            have HB3 := hidE hb3; have HO3 := hidE own3
            clear hb3 own3 hg3
            go_upto_region 11 with (at_builtin; go_loud (refine list_appV rfl (.tmp 38) (.tmp 43) 99 rfl w2.heap.size 63 ix _ 2 48 Tryz.underlying99 HI.out HZ0.out HZ1.out HZ2.out rfl (by decide) (.slice a3 0 c3) 0 [] rfl (own_below HO3.out (by (repeat (first | exact Below.refl _ _ | assumption | refine balloc ?_ _ | refine below_drewN ?_ _ | refine bstep (by assumption) ?_ | refine bstep (Past.prop _) ?_ | refine Below.setCell ?_ (by first | exact Nat.le_refl _ | (simp; done) | (simp; omega)) _)))) _ 1 [.slice ak (sizT u) ck, .slice ak2 (sizT u) ck2] rfl (srcV_new (Blk.made_at _ _ _ _ (by first | rfl | (simp; done) | (simp [World.drewN]; done))) rfl (by intro y hy; simp at hy; rcases hy with rfl | rfl <;> rfl)) (by omega) (by omega) (Nat.le_trans HB3.out.size (by simp)) ?_); intro v4 w4 own4 hg4; obtain ⟨a4, c4, rfl⟩ := own_sli own4)
            have hb4 : Below w2.heap.size w2 w4 := Below.grown ((show Below w3.heap.size w3 _ from by (repeat (first | exact Below.refl _ _ | assumption | refine balloc ?_ _ | refine below_drewN ?_ _ | refine bstep (by assumption) ?_ | refine bstep (Past.prop _) ?_ | refine Below.setCell ?_ (by first | exact Nat.le_refl _ | (simp; done) | (simp; omega)) _))).mono HB3.out.size |> HB3.out.trans) hg4 (Nat.le_trans HB3.out.size (by simp)) (fun k e => own_block HO3.out e)
            have HB4 := hidE hb4; have HO4 := hidE own4
            clear hb4 own4 hg4 HB3 HO3 g0 g1 gM
            go_wp2_with (at_builtin; go_loud (refine list_appV rfl (.tmp 45) (.tmp 48) 99 rfl w2.heap.size 63 ix _ 2 48 Tryz.underlying99 HI.out HZ0.out HZ1.out HZ2.out rfl (by decide) (.slice a4 (0 + 1) c4) (0 + 1) ([] ++ [.slice ak (sizT u) ck, .slice ak2 (sizT u) ck2]) rfl (own_below HO4.out (by (repeat (first | exact Below.refl _ _ | assumption | refine balloc ?_ _ | refine below_drewN ?_ _ | refine bstep (by assumption) ?_ | refine bstep (Past.prop _) ?_ | refine Below.setCell ?_ (by first | exact Nat.le_refl _ | (simp; done) | (simp; omega)) _)))) _ 0 [] rfl (srcV_pastN (srcV_pastN HY3.out HB4.out) (by (repeat (first | exact Below.refl _ _ | assumption | refine balloc ?_ _ | refine below_drewN ?_ _ | refine bstep (by assumption) ?_ | refine bstep (Past.prop _) ?_ | refine Below.setCell ?_ (by first | exact Nat.le_refl _ | (simp; done) | (simp; omega)) _)))) (by omega) (by omega) (Nat.le_trans HB4.out.size (by simp)) ?_); intro v5 w5 own5 hg5; obtain ⟨a5, c5, rfl⟩ := own_sli own5)
            have hb5 : Below w2.heap.size w2 w5 := Below.grown ((show Below w4.heap.size w4 _ from by (repeat (first | exact Below.refl _ _ | assumption | refine balloc ?_ _ | refine below_drewN ?_ _ | refine bstep (by assumption) ?_ | refine bstep (Past.prop _) ?_ | refine Below.setCell ?_ (by first | exact Nat.le_refl _ | (simp; done) | (simp; omega)) _))).mono HB4.out.size |> HB4.out.trans) hg5 (Nat.le_trans HB4.out.size (by simp)) (fun k e => own_block HO4.out e)
            have HB5 := hidE hb5; have HO5 := hidE own5
            clear hb5 own5 hg5 HB4 HO4
            go_roundg R.length
            case measure => have := HGH.out; simp only [List.length_cons] at this; omega
            case rel =>
              have e4 : ((D.take (0) ++ [u]) ++ D.drop (0)).length = 0 + 1 + 0 := by rw [List.length_append, List.length_append, List.length_take, List.length_drop, List.length_singleton]; have := HDL.out; omega
              have hown : OwnM w2.heap.size lo w5 (.slice a5 (0 + 1 + 0) c5) ((D.take (0) ++ [u]) ++ D.drop (0)) := ⟨_, by rw [e4]; exact HO5.out, RowM.app (RowM.past HB5.out HR3.out) (RowM.app (rowM_one (HTU.out.past HB5.out) rfl) (RowM.past HB5.out HR1.out))⟩
              have hs9 := hown.sli
              have hso : sortG (A ++ [u]) = (D.take (0) ++ [u]) ++ D.drop (0) := by rw [sortG_snoc, ← HD.out, List.append_assoc, List.singleton_append]; exact (congrArg (insG u) (List.take_append_drop (0) D).symm).trans (insG_at u _ HUP.out _ HLOW.out)
              rw [← hso] at hs9
              refine ⟨A ++ [u], R, _, a5, c5, rfl, ?_, ?_, by rw [List.append_assoc]; exact HAR.out, Nat.le_refl _, fun e => (by simp at e), hs9, HW2.out.trans (HB5.out.mono HW2.out.size)⟩
              · rw [List.length_append]; go_num
              · rw [List.length_append, List.length_singleton]; have := HMM.out; omega
          · obtain ⟨aD, cD, eD, hcD, hD1, _, hDA⟩ := HS.out
            simp only [Value.slice.injEq] at eD
            obtain ⟨rfl, eL, rfl⟩ := eD
            clear eL
            obtain ⟨bD, oD, rfl, _, _⟩ := hDA (by have := HDL.out; omega)
            rw [HDL.out] at hcD
            clear hDA
            by_cases hcc : c1 = 0
            · exact absurd hcc (by omega)
            · 
              have HW2 := hidE (HB.out.trans (HBX.out.mono HB.out.size))
              have g0 := (HBX.out.cell (p := ⟨bM, oM + A.length * 2, none⟩) hbM).trans HD0.out
              have g1 := (HBX.out.cell (p := ⟨bM, oM + A.length * 2 + 1, none⟩) hbM).trans HD1.out
              have gM := Nat.lt_of_lt_of_le hbM HBX.out.size
              have hTu := HT.out.past HBX.out
              have HTU := hidE hTu
              have hkD : 0 ≤ D.length := by have := HDL.out; omega
              have hS2 := HS.out.past HBX.out
              rw [show D = D.take (0) ++ D.drop (0) from (List.take_append_drop _ D).symm] at hS2
              obtain ⟨hp1, hp2⟩ := hS2.parts
              obtain ⟨y1, hy1, hr1⟩ := hp1.src
              rw [List.length_take, Nat.min_eq_left hkD] at hy1
              have hS3 : ∃ y3, SrcV w2 2 (.slice (some ⟨bD, oD + (0) * 2, none⟩) (m - (0)) (c1 - (0))) (m - (0)) y3 ∧ RowM lo w2 y3 (D.drop (0)) := by
                have e3 : (D.drop (0)).length = m - (0) := by rw [List.length_drop, HDL.out]
                by_cases hR : D.drop (0) = []
                · rw [hR] at e3 ⊢
                  simp only [List.length_nil] at e3
                  rw [← e3]
                  exact ⟨[], ⟨_, _, rfl, fun e => (by cases e), rfl, fun u hu => (by cases hu), fun ad _ j u hu => (by simp at hu)⟩, trivial⟩
                · obtain ⟨y3, hy3, hr3⟩ := (hp2 (oD + (0) * 2) hR (by rw [List.length_take, Nat.min_eq_left hkD])).src
                  rw [List.length_take, Nat.min_eq_left hkD, e3] at hy3
                  exact ⟨y3, hy3, hr3⟩
              obtain ⟨y3, hy3, hr3⟩ := hS3
              have HY3 := hidE hy3; have HR3 := hidE hr3
              have HY1 := hidE hy1; have HR1 := hidE hr1
              clear hS2 hp1 hp2 hy1 hr1 hy3 hr3
              clear hTu
              go_upto_region 9 with fail
              go_upto_region 10 with (at_builtin; go_loud (refine list_appV rfl (.tmp 33) (.tmp 36) 99 rfl w2.heap.size 63 ix _ 2 48 Tryz.underlying99 HI.out HZ0.out HZ1.out HZ2.out rfl (by decide) (.slice none 0 0) 0 [] rfl (own_nil _ _ _) _ (0) y1 rfl (srcV_pastN HY1.out (by (repeat (first | exact Below.refl _ _ | assumption | refine balloc ?_ _ | refine below_drewN ?_ _ | refine bstep (by assumption) ?_ | refine bstep (Past.prop _) ?_ | refine Below.setCell ?_ (by first | exact Nat.le_refl _ | (simp; done) | (simp; omega)) _)))) (by omega) (by omega) (by simp) ?_); intro v3 w3 own3 hg3; obtain ⟨a3, c3, rfl⟩ := own_sli own3)
              rw [Nat.zero_add, List.nil_append] at own3
              have hb3 : Below w2.heap.size w2 w3 := Below.grown (show Below w2.heap.size w2 _ from by (repeat (first | exact Below.refl _ _ | assumption | refine balloc ?_ _ | refine below_drewN ?_ _ | refine bstep (by assumption) ?_ | refine bstep (Past.prop _) ?_ | refine Below.setCell ?_ (by first | exact Nat.le_refl _ | (simp; done) | (simp; omega)) _))) hg3 (by simp) (fun k e => by cases e)
              have g0 := (hb3.cell (p := ⟨bM, oM + A.length * 2, none⟩) gM).trans g0
              have g1 := (hb3.cell (p := ⟨bM, oM + A.length * 2 + 1, none⟩) gM).trans g1
              have gM := Nat.lt_of_lt_of_le gM hb3.size
              have HB3 := hidE hb3; have HO3 := hidE own3
              clear hb3 own3 hg3
              go_upto_region 11 with (at_builtin; go_loud (refine list_appV rfl (.tmp 38) (.tmp 43) 99 rfl w2.heap.size 63 ix _ 2 48 Tryz.underlying99 HI.out HZ0.out HZ1.out HZ2.out rfl (by decide) (.slice a3 (0) c3) (0) y1 rfl (own_below HO3.out (by (repeat (first | exact Below.refl _ _ | assumption | refine balloc ?_ _ | refine below_drewN ?_ _ | refine bstep (by assumption) ?_ | refine bstep (Past.prop _) ?_ | refine Below.setCell ?_ (by first | exact Nat.le_refl _ | (simp; done) | (simp; omega)) _)))) _ 1 [.slice ak (sizT u) ck, .slice ak2 (sizT u) ck2] rfl (srcV_new (Blk.made_at _ _ _ _ (by first | rfl | (simp; done) | (simp [World.drewN]; done))) rfl (by intro y hy; simp at hy; rcases hy with rfl | rfl <;> rfl)) (by omega) (by omega) (Nat.le_trans HB3.out.size (by simp)) ?_); intro v4 w4 own4 hg4; obtain ⟨a4, c4, rfl⟩ := own_sli own4)
              have hb4 : Below w2.heap.size w2 w4 := Below.grown ((show Below w3.heap.size w3 _ from by (repeat (first | exact Below.refl _ _ | assumption | refine balloc ?_ _ | refine below_drewN ?_ _ | refine bstep (by assumption) ?_ | refine bstep (Past.prop _) ?_ | refine Below.setCell ?_ (by first | exact Nat.le_refl _ | (simp; done) | (simp; omega)) _))).mono HB3.out.size |> HB3.out.trans) hg4 (Nat.le_trans HB3.out.size (by simp)) (fun k e => own_block HO3.out e)
              have HB4 := hidE hb4; have HO4 := hidE own4
              clear hb4 own4 hg4 HB3 HO3 g0 g1 gM
              go_wp2_with (at_builtin; go_loud (refine list_appV rfl (.tmp 45) (.tmp 48) 99 rfl w2.heap.size 63 ix _ 2 48 Tryz.underlying99 HI.out HZ0.out HZ1.out HZ2.out rfl (by decide) (.slice a4 ((0) + 1) c4) ((0) + 1) (y1 ++ [.slice ak (sizT u) ck, .slice ak2 (sizT u) ck2]) rfl (own_below HO4.out (by (repeat (first | exact Below.refl _ _ | assumption | refine balloc ?_ _ | refine below_drewN ?_ _ | refine bstep (by assumption) ?_ | refine bstep (Past.prop _) ?_ | refine Below.setCell ?_ (by first | exact Nat.le_refl _ | (simp; done) | (simp; omega)) _)))) _ (m - (0)) y3 rfl (srcV_pastN (srcV_pastN HY3.out HB4.out) (by (repeat (first | exact Below.refl _ _ | assumption | refine balloc ?_ _ | refine below_drewN ?_ _ | refine bstep (by assumption) ?_ | refine bstep (Past.prop _) ?_ | refine Below.setCell ?_ (by first | exact Nat.le_refl _ | (simp; done) | (simp; omega)) _)))) (by omega) (by omega) (Nat.le_trans HB4.out.size (by simp)) ?_); intro v5 w5 own5 hg5; obtain ⟨a5, c5, rfl⟩ := own_sli own5)
              have hb5 : Below w2.heap.size w2 w5 := Below.grown ((show Below w4.heap.size w4 _ from by (repeat (first | exact Below.refl _ _ | assumption | refine balloc ?_ _ | refine below_drewN ?_ _ | refine bstep (by assumption) ?_ | refine bstep (Past.prop _) ?_ | refine Below.setCell ?_ (by first | exact Nat.le_refl _ | (simp; done) | (simp; omega)) _))).mono HB4.out.size |> HB4.out.trans) hg5 (Nat.le_trans HB4.out.size (by simp)) (fun k e => own_block HO4.out e)
              have HB5 := hidE hb5; have HO5 := hidE own5
              clear hb5 own5 hg5 HB4 HO4
              go_roundg R.length
              case measure => have := HGH.out; simp only [List.length_cons] at this; omega
              case rel =>
                have e4 : ((D.take (0) ++ [u]) ++ D.drop (0)).length = (0) + 1 + (m - (0)) := by rw [List.length_append, List.length_append, List.length_take, List.length_drop, List.length_singleton]; have := HDL.out; omega
                have hown : OwnM w2.heap.size lo w5 (.slice a5 ((0) + 1 + (m - (0))) c5) ((D.take (0) ++ [u]) ++ D.drop (0)) := ⟨_, by rw [e4]; exact HO5.out, RowM.app (RowM.past HB5.out HR3.out) (RowM.app (rowM_one (HTU.out.past HB5.out) rfl) (RowM.past HB5.out HR1.out))⟩
                have hs9 := hown.sli
                have hso : sortG (A ++ [u]) = (D.take (0) ++ [u]) ++ D.drop (0) := by rw [sortG_snoc, ← HD.out, List.append_assoc, List.singleton_append]; exact (congrArg (insG u) (List.take_append_drop (0) D).symm).trans (insG_at u _ HUP.out _ HLOW.out)
                rw [← hso] at hs9
                refine ⟨A ++ [u], R, _, a5, c5, rfl, ?_, ?_, by rw [List.append_assoc]; exact HAR.out, Nat.le_refl _, fun e => (by simp at e), hs9, HW2.out.trans (HB5.out.mono HW2.out.size)⟩
                · rw [List.length_append]; go_num
                · rw [List.length_append, List.length_singleton]; have := HMM.out; omega
        | succ k =>
          have hkD : k < D.length := by have := HDL.out; omega
          obtain ⟨aD, cD, eD, hcD, hD1, hD2, hDA⟩ := HS.out.past HBI.out
          simp only [Value.slice.injEq] at eD
          obtain ⟨rfl, eL, rfl⟩ := eD
          obtain ⟨bD, oD, rfl, hbD, hDC⟩ := hDA (by omega)
          obtain ⟨aj, cj, aj2, cj2, f0, f1, hTj⟩ := hDC.get hkD
          obtain ⟨d, hd⟩ : ∃ d, d = D.getD k tm0 := ⟨_, rfl⟩
          rw [← hd] at f0 f1 hTj
          have hgd := HDG.out.get hkD
          rw [← hd] at hgd
          have HTJ := hidE hTj; have HGJ := hidE hgd; have HDD := hidE hd
          have HCD := hidE (fun (w' : World) (hb : Below wr.heap.size wr w') => text9_c lo d aj cj aj2 cj2 (sizT d) rfl w' HGJ.out.1 HGJ.out.2 (HTJ.out.past hb))
          have e0 := (HBI.out.cell (p := ⟨bM, oM + A.length * 2, none⟩) hbM).trans d0
          have e1 := (HBI.out.cell (p := ⟨bM, oM + A.length * 2 + 1, none⟩) hbM).trans d1
          have zM := Nat.lt_of_lt_of_le hbM HBI.out.size
          have hkm : k < m := by omega
          have hgt := fun w => gtr_str (tx9 d) (tx9 u) w
          clear eL hDA hDC hgd hTj hd hD2 d0 d1
          go_upto_region 6 with fail
          refine wp_region_past_lit (by kernel_rfl) (by kernel_rfl) ?_
          have hcp := Past.cell (W := wr)
          repeat (go_big_quiet_step ((go_at_call 69; first | exact Past.call _ (HCD.out _ (Past.prop _)) | exact Past.call _ (HCU.out _ (HBI.out.trans ((Past.prop _).mono HBI.out.size))))))
          refine wpQuiet_nil ?_
          rintro _ ⟨x', rfl⟩
          have HBX := hidE (HBI.out.trans (x'.2.mono HBI.out.size))
          clear hcp e0 e1 f0 f1 hgt
          generalize x'.1 = w2 at *
          cases hlt : ltB (tx9 u) (tx9 d) with
          | true =>
            go_wp2
            go_roundg k
            case measure => have := HGK.out; omega
            case rel =>
              refine ⟨k, rfl, by omega, Nat.le_refl _, fun v hv => ?_, HBX.out⟩
              rw [List.drop_eq_getElem_cons hkD] at hv
              rcases List.mem_cons.1 hv with rfl | hv
              · have e : D[k] = d := by rw [HDD.out, List.getD_eq_getElem?_getD, List.getElem?_eq_getElem hkD]; rfl
                rw [e, ← tx9_lt]; exact hlt
              · exact HGR.out v hv
          | false =>
            have HUP := hidE HGR.out
            have HLOW := hidE (low_all HDS.out hkD (by rw [← HDD.out, ← tx9_lt]; exact hlt))
            rw [HDL.out] at hcD
            clear hkD
            by_cases hcc : c1 = k + 1
            · have hcm : m = k + 1 := by omega
              subst hcc
              subst hcm
              have HW2 := hidE (HB.out.trans (HBX.out.mono HB.out.size))
              have g0 := (HBX.out.cell (p := ⟨bM, oM + A.length * 2, none⟩) hbM).trans HD0.out
              have g1 := (HBX.out.cell (p := ⟨bM, oM + A.length * 2 + 1, none⟩) hbM).trans HD1.out
              have gM := Nat.lt_of_lt_of_le hbM HBX.out.size
              have hTu := HT.out.past HBX.out
              have HTU := hidE hTu
              have hkD : k + 1 ≤ D.length := by have := HDL.out; omega
              have hS2 := HS.out.past HBX.out
              rw [show D = D.take (k + 1) ++ D.drop (k + 1) from (List.take_append_drop _ D).symm] at hS2
              obtain ⟨hp1, hp2⟩ := hS2.parts
              obtain ⟨y1, hy1, hr1⟩ := hp1.src
              rw [List.length_take, Nat.min_eq_left hkD] at hy1
              have HR3 := hidE (show RowM lo w2 [] (D.drop (k + 1)) from by rw [List.drop_eq_nil_of_le (by have := HDL.out; omega)]; trivial)
              have HY3 := hidE (fun c => show SrcV w2 2 (.slice (some ⟨bD, oD, none⟩) 0 c) 0 [] from ⟨_, c, rfl, fun e => (by cases e), rfl, fun u hu => (by cases hu), fun ad _ j u hu => (by simp at hu)⟩)
              have HY1 := hidE hy1; have HR1 := hidE hr1
              clear hS2 hp1 hp2 hy1 hr1
              clear hTu
              go_upto_region 9 with fail
              go_upto_region 10 with (at_builtin; go_loud (refine list_appV rfl (.tmp 33) (.tmp 36) 99 rfl w2.heap.size 63 ix _ 2 48 Tryz.underlying99 HI.out HZ0.out HZ1.out HZ2.out rfl (by decide) (.slice none 0 0) 0 [] rfl (own_nil _ _ _) _ (k + 1) y1 rfl (srcV_pastN HY1.out (by (repeat (first | exact Below.refl _ _ | assumption | refine balloc ?_ _ | refine below_drewN ?_ _ | refine bstep (by assumption) ?_ | refine bstep (Past.prop _) ?_ | refine Below.setCell ?_ (by first | exact Nat.le_refl _ | (simp; done) | (simp; omega)) _)))) (by omega) (by omega) (by simp) ?_); intro v3 w3 own3 hg3; obtain ⟨a3, c3, rfl⟩ := own_sli own3)
              rw [Nat.zero_add, List.nil_append] at own3
              have hb3 : Below w2.heap.size w2 w3 := Below.grown (show Below w2.heap.size w2 _ from by (repeat (first | exact Below.refl _ _ | assumption | refine balloc ?_ _ | refine below_drewN ?_ _ | refine bstep (by assumption) ?_ | refine bstep (Past.prop _) ?_ | refine Below.setCell ?_ (by first | exact Nat.le_refl _ | (simp; done) | (simp; omega)) _))) hg3 (by simp) (fun k e => by cases e)
              have g0 := (hb3.cell (p := ⟨bM, oM + A.length * 2, none⟩) gM).trans g0
              have g1 := (hb3.cell (p := ⟨bM, oM + A.length * 2 + 1, none⟩) gM).trans g1
              have gM := Nat.lt_of_lt_of_le gM hb3.size
              have HB3 := hidE hb3; have HO3 := hidE own3
              clear hb3 own3 hg3
              go_upto_region 11 with (at_builtin; go_loud (refine list_appV rfl (.tmp 38) (.tmp 43) 99 rfl w2.heap.size 63 ix _ 2 48 Tryz.underlying99 HI.out HZ0.out HZ1.out HZ2.out rfl (by decide) (.slice a3 (k + 1) c3) (k + 1) y1 rfl (own_below HO3.out (by (repeat (first | exact Below.refl _ _ | assumption | refine balloc ?_ _ | refine below_drewN ?_ _ | refine bstep (by assumption) ?_ | refine bstep (Past.prop _) ?_ | refine Below.setCell ?_ (by first | exact Nat.le_refl _ | (simp; done) | (simp; omega)) _)))) _ 1 [.slice ak (sizT u) ck, .slice ak2 (sizT u) ck2] rfl (srcV_new (Blk.made_at _ _ _ _ (by first | rfl | (simp; done) | (simp [World.drewN]; done))) rfl (by intro y hy; simp at hy; rcases hy with rfl | rfl <;> rfl)) (by omega) (by omega) (Nat.le_trans HB3.out.size (by simp)) ?_); intro v4 w4 own4 hg4; obtain ⟨a4, c4, rfl⟩ := own_sli own4)
              have hb4 : Below w2.heap.size w2 w4 := Below.grown ((show Below w3.heap.size w3 _ from by (repeat (first | exact Below.refl _ _ | assumption | refine balloc ?_ _ | refine below_drewN ?_ _ | refine bstep (by assumption) ?_ | refine bstep (Past.prop _) ?_ | refine Below.setCell ?_ (by first | exact Nat.le_refl _ | (simp; done) | (simp; omega)) _))).mono HB3.out.size |> HB3.out.trans) hg4 (Nat.le_trans HB3.out.size (by simp)) (fun k e => own_block HO3.out e)
              have HB4 := hidE hb4; have HO4 := hidE own4
              clear hb4 own4 hg4 HB3 HO3 g0 g1 gM
              go_wp2_with (at_builtin; go_loud (refine list_appV rfl (.tmp 45) (.tmp 48) 99 rfl w2.heap.size 63 ix _ 2 48 Tryz.underlying99 HI.out HZ0.out HZ1.out HZ2.out rfl (by decide) (.slice a4 ((k + 1) + 1) c4) ((k + 1) + 1) (y1 ++ [.slice ak (sizT u) ck, .slice ak2 (sizT u) ck2]) rfl (own_below HO4.out (by (repeat (first | exact Below.refl _ _ | assumption | refine balloc ?_ _ | refine below_drewN ?_ _ | refine bstep (by assumption) ?_ | refine bstep (Past.prop _) ?_ | refine Below.setCell ?_ (by first | exact Nat.le_refl _ | (simp; done) | (simp; omega)) _)))) _ 0 [] rfl (srcV_pastN (srcV_pastN (HY3.out _) HB4.out) (by (repeat (first | exact Below.refl _ _ | assumption | refine balloc ?_ _ | refine below_drewN ?_ _ | refine bstep (by assumption) ?_ | refine bstep (Past.prop _) ?_ | refine Below.setCell ?_ (by first | exact Nat.le_refl _ | (simp; done) | (simp; omega)) _)))) (by omega) (by omega) (Nat.le_trans HB4.out.size (by simp)) ?_); intro v5 w5 own5 hg5; obtain ⟨a5, c5, rfl⟩ := own_sli own5)
              have hb5 : Below w2.heap.size w2 w5 := Below.grown ((show Below w4.heap.size w4 _ from by (repeat (first | exact Below.refl _ _ | assumption | refine balloc ?_ _ | refine below_drewN ?_ _ | refine bstep (by assumption) ?_ | refine bstep (Past.prop _) ?_ | refine Below.setCell ?_ (by first | exact Nat.le_refl _ | (simp; done) | (simp; omega)) _))).mono HB4.out.size |> HB4.out.trans) hg5 (Nat.le_trans HB4.out.size (by simp)) (fun k e => own_block HO4.out e)
              have HB5 := hidE hb5; have HO5 := hidE own5
              clear hb5 own5 hg5 HB4 HO4
              go_roundg R.length
              case measure => have := HGH.out; simp only [List.length_cons] at this; omega
              case rel =>
                have e4 : ((D.take (k + 1) ++ [u]) ++ D.drop (k + 1)).length = (k + 1) + 1 + 0 := by rw [List.length_append, List.length_append, List.length_take, List.length_drop, List.length_singleton]; have := HDL.out; omega
                have hown : OwnM w2.heap.size lo w5 (.slice a5 ((k + 1) + 1 + 0) c5) ((D.take (k + 1) ++ [u]) ++ D.drop (k + 1)) := ⟨_, by rw [e4]; exact HO5.out, RowM.app (RowM.past HB5.out HR3.out) (RowM.app (rowM_one (HTU.out.past HB5.out) rfl) (RowM.past HB5.out HR1.out))⟩
                have hs9 := hown.sli
                have hso : sortG (A ++ [u]) = (D.take (k + 1) ++ [u]) ++ D.drop (k + 1) := by rw [sortG_snoc, ← HD.out, List.append_assoc, List.singleton_append]; exact (congrArg (insG u) (List.take_append_drop (k + 1) D).symm).trans (insG_at u _ HUP.out _ HLOW.out)
                rw [← hso] at hs9
                refine ⟨A ++ [u], R, _, a5, c5, rfl, ?_, ?_, by rw [List.append_assoc]; exact HAR.out, Nat.le_refl _, fun e => (by simp at e), hs9, HW2.out.trans (HB5.out.mono HW2.out.size)⟩
                · rw [List.length_append]; go_num
                · rw [List.length_append, List.length_singleton]; have := HMM.out; omega
            · 
              have HW2 := hidE (HB.out.trans (HBX.out.mono HB.out.size))
              have g0 := (HBX.out.cell (p := ⟨bM, oM + A.length * 2, none⟩) hbM).trans HD0.out
              have g1 := (HBX.out.cell (p := ⟨bM, oM + A.length * 2 + 1, none⟩) hbM).trans HD1.out
              have gM := Nat.lt_of_lt_of_le hbM HBX.out.size
              have hTu := HT.out.past HBX.out
              have HTU := hidE hTu
              have hkD : k + 1 ≤ D.length := by have := HDL.out; omega
              have hS2 := HS.out.past HBX.out
              rw [show D = D.take (k + 1) ++ D.drop (k + 1) from (List.take_append_drop _ D).symm] at hS2
              obtain ⟨hp1, hp2⟩ := hS2.parts
              obtain ⟨y1, hy1, hr1⟩ := hp1.src
              rw [List.length_take, Nat.min_eq_left hkD] at hy1
              have hS3 : ∃ y3, SrcV w2 2 (.slice (some ⟨bD, oD + (k + 1) * 2, none⟩) (m - (k + 1)) (c1 - (k + 1))) (m - (k + 1)) y3 ∧ RowM lo w2 y3 (D.drop (k + 1)) := by
                have e3 : (D.drop (k + 1)).length = m - (k + 1) := by rw [List.length_drop, HDL.out]
                by_cases hR : D.drop (k + 1) = []
                · rw [hR] at e3 ⊢
                  simp only [List.length_nil] at e3
                  rw [← e3]
                  exact ⟨[], ⟨_, _, rfl, fun e => (by cases e), rfl, fun u hu => (by cases hu), fun ad _ j u hu => (by simp at hu)⟩, trivial⟩
                · obtain ⟨y3, hy3, hr3⟩ := (hp2 (oD + (k + 1) * 2) hR (by rw [List.length_take, Nat.min_eq_left hkD])).src
                  rw [List.length_take, Nat.min_eq_left hkD, e3] at hy3
                  exact ⟨y3, hy3, hr3⟩
              obtain ⟨y3, hy3, hr3⟩ := hS3
              have HY3 := hidE hy3; have HR3 := hidE hr3
              have HY1 := hidE hy1; have HR1 := hidE hr1
              clear hS2 hp1 hp2 hy1 hr1 hy3 hr3
              clear hTu
              go_upto_region 9 with fail
              go_upto_region 10 with (at_builtin; go_loud (refine list_appV rfl (.tmp 33) (.tmp 36) 99 rfl w2.heap.size 63 ix _ 2 48 Tryz.underlying99 HI.out HZ0.out HZ1.out HZ2.out rfl (by decide) (.slice none 0 0) 0 [] rfl (own_nil _ _ _) _ (k + 1) y1 rfl (srcV_pastN HY1.out (by (repeat (first | exact Below.refl _ _ | assumption | refine balloc ?_ _ | refine below_drewN ?_ _ | refine bstep (by assumption) ?_ | refine bstep (Past.prop _) ?_ | refine Below.setCell ?_ (by first | exact Nat.le_refl _ | (simp; done) | (simp; omega)) _)))) (by omega) (by omega) (by simp) ?_); intro v3 w3 own3 hg3; obtain ⟨a3, c3, rfl⟩ := own_sli own3)
              rw [Nat.zero_add, List.nil_append] at own3
              have hb3 : Below w2.heap.size w2 w3 := Below.grown (show Below w2.heap.size w2 _ from by (repeat (first | exact Below.refl _ _ | assumption | refine balloc ?_ _ | refine below_drewN ?_ _ | refine bstep (by assumption) ?_ | refine bstep (Past.prop _) ?_ | refine Below.setCell ?_ (by first | exact Nat.le_refl _ | (simp; done) | (simp; omega)) _))) hg3 (by simp) (fun k e => by cases e)
              have g0 := (hb3.cell (p := ⟨bM, oM + A.length * 2, none⟩) gM).trans g0
              have g1 := (hb3.cell (p := ⟨bM, oM + A.length * 2 + 1, none⟩) gM).trans g1
              have gM := Nat.lt_of_lt_of_le gM hb3.size
              have HB3 := hidE hb3; have HO3 := hidE own3
              clear hb3 own3 hg3
              go_upto_region 11 with (at_builtin; go_loud (refine list_appV rfl (.tmp 38) (.tmp 43) 99 rfl w2.heap.size 63 ix _ 2 48 Tryz.underlying99 HI.out HZ0.out HZ1.out HZ2.out rfl (by decide) (.slice a3 (k + 1) c3) (k + 1) y1 rfl (own_below HO3.out (by (repeat (first | exact Below.refl _ _ | assumption | refine balloc ?_ _ | refine below_drewN ?_ _ | refine bstep (by assumption) ?_ | refine bstep (Past.prop _) ?_ | refine Below.setCell ?_ (by first | exact Nat.le_refl _ | (simp; done) | (simp; omega)) _)))) _ 1 [.slice ak (sizT u) ck, .slice ak2 (sizT u) ck2] rfl (srcV_new (Blk.made_at _ _ _ _ (by first | rfl | (simp; done) | (simp [World.drewN]; done))) rfl (by intro y hy; simp at hy; rcases hy with rfl | rfl <;> rfl)) (by omega) (by omega) (Nat.le_trans HB3.out.size (by simp)) ?_); intro v4 w4 own4 hg4; obtain ⟨a4, c4, rfl⟩ := own_sli own4)
              have hb4 : Below w2.heap.size w2 w4 := Below.grown ((show Below w3.heap.size w3 _ from by (repeat (first | exact Below.refl _ _ | assumption | refine balloc ?_ _ | refine below_drewN ?_ _ | refine bstep (by assumption) ?_ | refine bstep (Past.prop _) ?_ | refine Below.setCell ?_ (by first | exact Nat.le_refl _ | (simp; done) | (simp; omega)) _))).mono HB3.out.size |> HB3.out.trans) hg4 (Nat.le_trans HB3.out.size (by simp)) (fun k e => own_block HO3.out e)
              have HB4 := hidE hb4; have HO4 := hidE own4
              clear hb4 own4 hg4 HB3 HO3 g0 g1 gM
              go_wp2_with (at_builtin; go_loud (refine list_appV rfl (.tmp 45) (.tmp 48) 99 rfl w2.heap.size 63 ix _ 2 48 Tryz.underlying99 HI.out HZ0.out HZ1.out HZ2.out rfl (by decide) (.slice a4 ((k + 1) + 1) c4) ((k + 1) + 1) (y1 ++ [.slice ak (sizT u) ck, .slice ak2 (sizT u) ck2]) rfl (own_below HO4.out (by (repeat (first | exact Below.refl _ _ | assumption | refine balloc ?_ _ | refine below_drewN ?_ _ | refine bstep (by assumption) ?_ | refine bstep (Past.prop _) ?_ | refine Below.setCell ?_ (by first | exact Nat.le_refl _ | (simp; done) | (simp; omega)) _)))) _ (m - (k + 1)) y3 rfl (srcV_pastN (srcV_pastN HY3.out HB4.out) (by (repeat (first | exact Below.refl _ _ | assumption | refine balloc ?_ _ | refine below_drewN ?_ _ | refine bstep (by assumption) ?_ | refine bstep (Past.prop _) ?_ | refine Below.setCell ?_ (by first | exact Nat.le_refl _ | (simp; done) | (simp; omega)) _)))) (by omega) (by omega) (Nat.le_trans HB4.out.size (by simp)) ?_); intro v5 w5 own5 hg5; obtain ⟨a5, c5, rfl⟩ := own_sli own5)
              have hb5 : Below w2.heap.size w2 w5 := Below.grown ((show Below w4.heap.size w4 _ from by (repeat (first | exact Below.refl _ _ | assumption | refine balloc ?_ _ | refine below_drewN ?_ _ | refine bstep (by assumption) ?_ | refine bstep (Past.prop _) ?_ | refine Below.setCell ?_ (by first | exact Nat.le_refl _ | (simp; done) | (simp; omega)) _))).mono HB4.out.size |> HB4.out.trans) hg5 (Nat.le_trans HB4.out.size (by simp)) (fun k e => own_block HO4.out e)
              have HB5 := hidE hb5; have HO5 := hidE own5
              clear hb5 own5 hg5 HB4 HO4
              go_roundg R.length
              case measure => have := HGH.out; simp only [List.length_cons] at this; omega
              case rel =>
                have e4 : ((D.take (k + 1) ++ [u]) ++ D.drop (k + 1)).length = (k + 1) + 1 + (m - (k + 1)) := by rw [List.length_append, List.length_append, List.length_take, List.length_drop, List.length_singleton]; have := HDL.out; omega
                have hown : OwnM w2.heap.size lo w5 (.slice a5 ((k + 1) + 1 + (m - (k + 1))) c5) ((D.take (k + 1) ++ [u]) ++ D.drop (k + 1)) := ⟨_, by rw [e4]; exact HO5.out, RowM.app (RowM.past HB5.out HR3.out) (RowM.app (rowM_one (HTU.out.past HB5.out) rfl) (RowM.past HB5.out HR1.out))⟩
                have hs9 := hown.sli
                have hso : sortG (A ++ [u]) = (D.take (k + 1) ++ [u]) ++ D.drop (k + 1) := by rw [sortG_snoc, ← HD.out, List.append_assoc, List.singleton_append]; exact (congrArg (insG u) (List.take_append_drop (k + 1) D).symm).trans (insG_at u _ HUP.out _ HLOW.out)
                rw [← hso] at hs9
                refine ⟨A ++ [u], R, _, a5, c5, rfl, ?_, ?_, by rw [List.append_assoc]; exact HAR.out, Nat.le_refl _, fun e => (by simp at e), hs9, HW2.out.trans (HB5.out.mono HW2.out.size)⟩
                · rw [List.length_append]; go_num
                · rw [List.length_append, List.length_singleton]; have := HMM.out; omega
end Go.Proofs.YtioalnncjahlnaaGreatDoor

namespace Go.Proofs.YtioalnncjahlnaaGreatDoor

theorem fit_depth : ∀ (F : Fst) (deep ink : Nat), F.fit deep ink → F.depth ≤ 9 - deep
  | .nil, _, _, _ => Nat.zero_le _
  | .cons x K N, deep, ink, ⟨h1, h2, h3, h4, h5⟩ => by
    have a := fit_depth K _ _ h4
    have b := fit_depth N _ _ h5
    simp only [Fst.depth]; omega
theorem bare_depth : ∀ F : Fst, (bare F).depth = F.depth
  | .nil => rfl
  | .cons x K N => by simp only [bare, Fst.depth, bare_depth K, bare_depth N]
theorem bare_fit : ∀ (F : Fst) (deep ink : Nat), F.fit deep ink → (bare F).fit deep ink
  | .nil, _, _, _ => trivial
  | .cons x K N, deep, ink, ⟨h1, h2, h3, h4, h5⟩ => ⟨by rw [(bare_len K).1]; exact h1, h2, h3, bare_fit K _ _ h4, bare_fit N _ _ h5⟩
/-- Texts tell terms apart. -/
theorem txT_inj {t u : Tm} {d1 d2 i1 i2 : Nat} (ht : FitT t d1 i1) (hu : FitT u d2 i2) (h1 : 1 ≤ d1) (h2 : 1 ≤ d2) (s1 : sizT t ≤ 64) (s2 : sizT u ≤ 64) (h : txT t = txT u) : bareT t = bareT u := by
  have go : ∀ {t : Tm} {d i : Nat}, FitT t d i → 1 ≤ d → sizT t ≤ 64 → (bare (.cons t.1 t.2 .nil)).wf ∧ (bare (.cons t.1 t.2 .nil)).len = 1 ∧ (bare (.cons t.1 t.2 .nil)).depth ≤ 8 ∧ (bare (.cons t.1 t.2 .nil)).size ≤ 64 := fun {t d i} ht hd hs => by
    have hf : (Fst.cons t.1 t.2 .nil).fit d i := ⟨ht.1, ht.2.1, ht.2.2.1, ht.2.2.2, trivial⟩
    refine ⟨fit_wf _ d i (bare_kok _ _ _ hf) (bare_fit _ _ _ hf), (bare_len _).1, ?_, ?_⟩
    · rw [bare_depth]; have := fit_depth _ _ _ hf; omega
    · rw [(bare_len _).2]; simp only [sizT] at hs; simp only [Fst.size]; omega
  obtain ⟨a1, a2, a3, a4⟩ := go ht h1 s1
  obtain ⟨b1, b2, b3, b4⟩ := go hu h2 s2
  have e := text_inj a1 b1 a2 b2 a3 b3 a4 b4 (by rw [bare_text, bare_text]; exact h)
  simp only [bare, Fst.cons.injEq, and_true] at e
  exact Prod.ext e.1 e.2
theorem textF_ofL : ∀ l : List Tm, textF (ofL l) = (l.map txT).flatten
  | [] => rfl
  | t :: l => by
    rw [ofL, textF_cons9, textF_ofL l, List.map_cons, List.flatten_cons, tx9_txT]
    rfl
theorem textF_toL (K : Fst) : textF K = ((toL K).map txT).flatten := by rw [← textF_ofL, of_to]
theorem fitT_sort {t : Tm} {d i : Nat} (h : FitT t d i) : FitT (t.1, ofL (sortG (toL t.2))) d i := by
  refine ⟨?_, h.2.1, h.2.2.1, ?_⟩
  · have e : (ofL (sortG (toL t.2))).len = t.2.len := by rw [ofL_len, (sortG_siz _).2, toL_len]
    simp only [e]; exact h.1
  · exact fit_of fun v hv => (fit_all _ _ _).1 h.2.2.2 v ((sortG_mem _ _).1 hv)
theorem sort_text {t : Tm} {d i : Nat} (h : FitT t d i) (hd : 1 ≤ d) (hs : sizT t ≤ 64) : tx9 (t.1, ofL (sortG (toL t.2))) = tx9 t ↔ (toL t.2).map txT = (sortG (toL t.2)).map txT := by
  constructor
  · intro e
    have hs2 : sizT (t.1, ofL (sortG (toL t.2))) ≤ 64 := by simp only [sizT, sizL_of, (sortG_siz _).1, sizL_to] at hs ⊢; exact hs
    have e2 := txT_inj (fitT_sort h) h hd hd hs2 hs (tx9_eq.1 e)
    have e3 : bare (ofL (sortG (toL t.2))) = bare t.2 := congrArg Prod.snd e2
    have e4 := congrArg toL e3
    rw [bare_toL, bare_toL, to_of] at e4
    have e5 := congrArg (List.map txT) e4
    rw [bare_txs, bare_txs] at e5
    exact e5.symm
  · intro e
    unfold tx9 txt7
    simp only
    rw [textF_ofL, ← e, ← textF_toL]
end Go.Proofs.YtioalnncjahlnaaGreatDoor
