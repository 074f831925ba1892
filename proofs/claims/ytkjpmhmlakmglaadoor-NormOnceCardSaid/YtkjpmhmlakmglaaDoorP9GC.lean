/- The rule of a single child: (*term).unwrap. No conditions but that the block reads as a term. The rule of children of the kind: (*term).flatten. Conditions: the block reads as a term of at most 16 children. The contracts of strings.Builder's WriteByte, WriteString and String, where the builder is the call's own. No conditions but that what it holds is at most 2^47 bytes. The contracts of strings.Builder's methods where the builder is the first field of parse's writer. No conditions but that what it holds is at most 2^47 bytes. How parts are written one behind the other, with a stack of how many children are still due. No program. No conditions. What strconv.FormatInt answers at base 10: the library's contract at this program's numbers. Conditions: the number is an int64, the table of powers of ten holds them. A region that draws its order: every operation but a forced tail may run in whatever order; each is asked only what its own operands need. No conditions. A region that draws its order and has one operation that all before it must precede, and all behind it must follow: that one may write. No conditions. -/
import Derived.Test.YtkjpmhmlakmglaaDoorP9GB
import Derived.Deep.RegionLaw
import Derived.Deep.DeepCutAuto
import Derived.Shelf.Strings.BuilderK
import Derived.Test.YtkjpmhmlakmglaaDoorProg
import Derived.Test.YtkjpmhmlakmglaaDoorP9GA
import Derived.Shelf.LaysM
import Derived.Shelf.Strconv.Itoa4
import Derived.Deep.Quiet
namespace Go.Proofs.YtkjpmhmlakmglaaDoor
open Go.ChangeShapes Go.WideShapes Go.ChangeAt Go.RowKit
attribute [local irreducible] Go.Calls

/-- What a rule leaves: whether it has changed the term, and the term. -/
def RuleTo (S : Nat → Prop) (p : Nat) (r : Option Tm) (t : Tm) (w : World) (e : Ending) (w' : World) : Prop :=
  e = .returned (.bool r.isSome) ∧ TermB S w' p (r.getD t) ∧ w.grownBy w' (some p)
set_option maxHeartbeats 2000000 in
set_option maxRecDepth 100000 in
theorem unwrap_c (S : Nat → Prop) (p : Nat) (t : Tm) (w : World) (hS : ¬ S p) (hT : TermB S w p t) :
    Calls Tryd.prog 45 #[.pointer (some ⟨p, 0, none⟩)] w (RuleTo S p (oneR t) t w) := by
  obtain ⟨z, v, hb, hv⟩ := hT
  obtain ⟨av, cap, rfl, hc1, hc2⟩ := hv.shape
  have c0 := hb.cell 0; have c1 := hb.cell 1; have c2 := hb.cell 2; have c3 := hb.cell 3; have c4 := hb.cell 4; have c5 := hb.cell 5; have c6 := hb.cell 6
  have pz := hb.lt
  simp at c0 c1 c2 c3 c4 c5 c6
  by_cases h1 : t.2.len = 1
  · obtain ⟨b, off, cap', z', vk, e, _, hbz, hSb, hk, d0, d1, d2, d3, d4, d5, d6⟩ := hv.get (i := 0) (by omega)
    cases e
    obtain ⟨ak, ck, rfl, _, _⟩ := hk.shape
    simp only [Nat.zero_mul, Nat.add_zero] at d0 d1 d2 d3 d4 d5 d6
    have q1 : decide ((t.2.len : Int) ≠ 1) = false := decide_eq_false (by omega)
    have f0 := hb.free 0; have f1 := hb.free 1; have f2 := hb.free 2; have f3 := hb.free 3; have f4 := hb.free 4; have f5 := hb.free 5; have f6 := hb.free 6
    have ho : oneR t = some ((toL t.2).getD 0 tm0) := by
      unfold oneR
      rw [if_pos (by rw [toL_len]; exact h1)]
      match h : toL t.2, (toL_len t.2).trans h1 with
      | [u], _ => rfl
    generalize (toL t.2).getD 0 tm0 = u at *
    have HB := hidE hb; have HK := hidE hk; have HO := hidE ho
    clear hb hv hk ho
    go_enter Tryd.func45, Tryd.ntmps45
    go_wp2
    go_ret
    refine ⟨by rw [HO.out]; rfl, ?_, put7_grown w p u.1 z' _⟩
    rw [HO.out]
    exact ⟨z', _, put7_blk HB.out u.1 z' _, HK.out.off hS (put7_grown w p u.1 z' _)⟩
  · have q1 : decide ((t.2.len : Int) ≠ 1) = true := decide_eq_true (by omega)
    have HB := hidE hb; have HV := hidE hv
    have HO := hidE (show oneR t = none from by unfold oneR; rw [if_neg (by rw [toL_len]; exact h1)])
    clear hb hv
    go_enter Tryd.func45, Tryd.ntmps45
    go_wp2
    go_ret
    exact ⟨by rw [HO.out]; rfl, by rw [HO.out]; exact ⟨z, _, HB.out, HV.out⟩, grown_refl _ _⟩
end Go.Proofs.YtkjpmhmlakmglaaDoor

namespace Go.Proofs.YtkjpmhmlakmglaaDoor
open Go.ChangeShapes Go.WideShapes Go.ChangeAt Go.RowKit
attribute [local irreducible] Go.Calls

theorem getD_toL {F : Fst} {A R : List Tm} {u : Tm} (h : A ++ u :: R = toL F) : (toL F).getD A.length tm0 = u := by
  rw [← h, List.getD_eq_getElem?_getD, List.getElem?_append_right (Nat.le_refl _), Nat.sub_self]; rfl
theorem srcV_past {w w' : World} {sz : Nat} {v : Value} {n : Nat} {ys : List Value} (h : SrcV w sz v n ys) (hb : Below w.heap.size w w') : SrcV w' sz v n ys := by
  obtain ⟨a, cap, e, h1, h2, h3, h4⟩ := h
  refine ⟨a, cap, e, h1, h2, h3, fun ad ha j u hu => ?_⟩
  have := h4 ad ha j u hu
  exact (hb.cell (World.block_lt_of_cell? w _ this)).trans this
theorem flat_fin {t : Tm} {n kd : Nat} {c : Bool} {D : List Tm} (hn : (toL t.2).length = n) (hk : t.1.kind = kd) (hc : c = flatC kd n (toL t.2)) (hD : D = flatG kd n (toL t.2)) : (flatR t).isSome = c ∧ (flatR t).getD t = (t.1, ofL D) := by
  subst hn hk hc hD
  unfold flatR
  by_cases h : flatC t.1.kind (toL t.2).length (toL t.2) = true
  · rw [if_pos h]; exact ⟨h.symm, rfl⟩
  · rw [if_neg h]
    refine ⟨(by simpa using h : _ = false).symm, ?_⟩
    rw [flatC_id _ _ _ (by simpa using h), of_to]; rfl
set_option maxHeartbeats 4000000 in
set_option maxRecDepth 100000 in
theorem flatten_c (S : Nat → Prop) (p : Nat) (t : Tm) (w : World) (hS : ¬ S p) (hS2 : ∀ k, w.heap.size ≤ k → S k) (hT : TermB S w p t) (hl : t.2.len ≤ 16) (hlk : ∀ u ∈ toL t.2, u.2.len ≤ 16) :
    Calls Tryd.prog 46 #[.pointer (some ⟨p, 0, none⟩)] w (RuleTo S p (flatR t) t w) := by
  obtain ⟨z, v, hb, hv⟩ := hT
  obtain ⟨av, cap, rfl, hc1, hc2⟩ := hv.shape
  obtain ⟨kd, hkd⟩ : ∃ kd, t.1.kind = kd := ⟨_, rfl⟩
  have pz := hb.lt
  have HB := hidE hb; have HV := hidE hv; have HL := hidE hl; have HLK := hidE hlk; have HKD := hidE hkd
  obtain ⟨ix, hix, hz0, hzz, hz4⟩ := info_parts Tryd.infoTermN
  have HI := hidE hix; have HZ0 := hidE hz0; have HZ1 := hidE hzz; have HZ2 := hidE hz4
  have c6 := hb.cell 6; have c0 := hb.cell 0
  simp at c6 c0
  clear hix hz0 hzz hz4 hb hv hl hlk
  obtain ⟨n, hn⟩ : ∃ n, t.2.len = n := ⟨_, rfl⟩
  rw [hn] at c6 HL hc1
  rw [hkd] at c0
  have HN := hidE hn; clear hn hkd
  go_enter Tryd.func46, Tryd.ntmps46
  go_wp2
  go_loopg [3, 4, 5, 19] n (fun gh v3 v4 v5 v19 wr => ∃ (A D R : List Tm) (m : Nat) (c : Bool), v4 = .int .i64 m ∧ v5 = .bool c ∧ v19 = .int .i64 A.length ∧ A ++ R = toL t.2 ∧ R.length ≤ gh ∧ D.length + R.length = m ∧ m ≤ 16 ∧ D ++ flatG kd m R = flatG kd n (toL t.2) ∧ (c || flatC kd m R) = flatC kd n (toL t.2) ∧ OwnN w.heap.size (Old S w) wr v3 D ∧ Below w.heap.size w wr)
  case atStart => exact ⟨[], [], toL t.2, n, false, rfl, rfl, rfl, rfl, by rw [toL_len, HN.out]; exact Nat.le_refl _, by rw [toL_len, HN.out]; simp, HL.out, rfl, by simp, ownN_nil _ _ _, Below.refl _ _⟩
  case round =>
    obtain ⟨A, D, R, m, c, rfl, rfl, rfl, hAR, hgh, hDR, hm, hG, hC, hO, hbl⟩ := hrel
    have HBL := hidE hbl; have HG := hidE hG; have HC := hidE hC; have HO := hidE hO; have HAR := hidE hAR; have HGH := hidE hgh; have HDR := hidE hDR
    have e6 := (hbl.cell (p := ⟨p, 6, none⟩) pz).trans c6
    have e0 := (hbl.cell (p := ⟨p, 0, none⟩) pz).trans c0
    have ez := Nat.lt_of_lt_of_le pz hbl.size
    have hAn : A.length + R.length = n := by rw [← HN.out, ← toL_len, ← hAR, List.length_append]
    clear hG hC hO hbl hgh hDR
    cases R with
    | nil =>
      have q1 : decide ((A.length : Int) < (n : Int)) = false := decide_eq_false (by simp at hAn; omega)
      have q2 : ¬ A.length < n := by simp at hAn; omega
      have hcc : c = flatC kd n (toL t.2) := by have := HC.out; simpa [flatC] using this
      have hDD : D = flatG kd n (toL t.2) := by have := HG.out; simpa [flatG] using this
      have hfin := flat_fin (t := t) (n := n) (by rw [toL_len]; exact HN.out) HKD.out hcc hDD
      have pf := (HB.out.past HBL.out).free 6
      obtain ⟨a3, c3, hv3⟩ : ∃ a3 c3, u3 = .slice a3 D.length c3 := by obtain ⟨xs, ho, _⟩ := HO.out; exact own_sli ho
      subst hv3
      have HF := hidE hfin
      clear hcc hDD hfin
      go_wp2
      go_ret
      refine ⟨by rw [HF.out.1]; rfl, ?_, grown_trans (grown_any HBL.out) (grown_set _ _ _ _)⟩
      rw [HF.out.2]
      have hs := (HB.out.past HBL.out).set 6 (.slice a3 D.length c3)
      simp only [tcA, List.setIfInBounds_toArray, List.set_cons_zero, List.set_cons_succ] at hs
      exact ⟨z, _, hs, (HO.out.sli hS2 (fun k q => q.1)).off hS (grown_set _ _ _ _)⟩
    | cons u R =>
      have q1 : decide ((A.length : Int) < (n : Int)) = true := decide_eq_true (by simp at hAn; omega)
      have q2 : A.length < n := by simp at hAn; omega
      obtain ⟨b, off, cap', z', vk, e, _, hbz, hSb, hk, d0, d1, d2, d3, d4, d5, d6⟩ := (HV.out.old.sam (Sam.old HBL.out)).get (i := A.length) (by rw [HN.out]; simp at hAn; omega)
      cases e
      rw [getD_toL hAR] at d0 d1 d2 d3 d5 hk
      obtain ⟨ak, ck, rfl, hk1, hk2⟩ := hk.shape
      have HK := hidE hk
      have hul := HLK.out u (by rw [← hAR]; simp)
      clear hk hAR
      have r3 : wrap64 ((m : Int) - 1 + u.2.len) = (m : Int) - 1 + u.2.len := by unfold wrap64; omega
      obtain ⟨xs, ho, hrx⟩ := HO.out
      obtain ⟨a3, c3, hv3⟩ : ∃ a3 c3, u3 = .slice a3 D.length c3 := own_sli ho
      subst hv3
      have hob : ∀ j, (Value.slice a3 D.length c3).ownBlock = some j → w.heap.size ≤ j := fun j hj => own_block ho hj
      have HOB := hidE hob; have HOW := hidE ho; have HRX := hidE hrx
      have hws := HBL.out.size
      have hd16 : D.length ≤ 16 := by have := HDR.out; omega
      clear HO ho hrx hob
      by_cases hgo : u.1.kind = kd ∧ m + u.2.len ≤ 17
      · have hG2 : flatG kd m (u :: R) = toL u.2 ++ flatG kd (m + u.2.len - 1) R := by rw [flatG, if_pos hgo]
        have hC2 : flatC kd m (u :: R) = true := by rw [flatC, if_pos hgo]
        have HG2 := hidE hG2; have HC2 := hidE hC2
        have r1 : ((u.1.kind : Int) != (kd : Int)) = false := by simp; omega
        have r2 : decide ((16 : Int) < (m : Int) - 1 + u.2.len) = false := by simp; omega
        have hm2 := hgo.2
        clear hG2 hC2 hgo
        go_wp2
        go_quiet (fail)
        obtain ⟨ys, hsrc, hys⟩ := HK.out.src
        have HSRC := hidE hsrc; have HYS := hidE hys
        clear hsrc hys
        go_wp2_with (at_builtin; go_loud (refine list_appV rfl (.tmp 46) (.tmp 48) 52 rfl w.heap.size 54 ix _ 7 64 Tryd.underlying52 HI.out HZ0.out HZ1.out HZ2.out rfl (by decide) (.slice a3 D.length c3) D.length xs rfl (own_below HOW.out (by (repeat (first | exact Below.refl _ _ | assumption | refine balloc ?_ _ | refine below_drewN ?_ _ | refine bstep (by assumption) ?_ | refine bstep (Past.prop _) ?_ | refine Below.setCell ?_ (by first | exact Nat.le_refl _ | (simp; done) | (simp; omega)) _)))) _ u.2.len ys rfl (srcV_past HSRC.out (by (repeat (first | exact Below.refl _ _ | assumption | refine balloc ?_ _ | refine below_drewN ?_ _ | refine bstep (by assumption) ?_ | refine bstep (Past.prop _) ?_ | refine Below.setCell ?_ (by first | exact Nat.le_refl _ | (simp; done) | (simp; omega)) _)))) (by omega) (by omega) (by simp; omega) ?_); intro v' w2 own' hg'; obtain ⟨av', cp', rfl⟩ := own_sli own')
        go_roundg R.length
        case measure => have := HGH.out; simp only [List.length_cons] at this; omega
        case rel =>
          have hbl3 := (show Below w.heap.size wr w2 from Below.grown ((show Below wr.heap.size wr _ from by (repeat (first | exact Below.refl _ _ | assumption | refine balloc ?_ _ | refine below_drewN ?_ _ | refine bstep (by assumption) ?_ | refine bstep (Past.prop _) ?_ | refine Below.setCell ?_ (by first | exact Nat.le_refl _ | (simp; done) | (simp; omega)) _))).mono hws) hg' (by simp; omega) (fun j hj => HOB.out j hj))
          have hsm := Sam.old (S := S) hbl3
          have hdr := HDR.out
          simp only [List.length_cons] at hdr
          refine ⟨A ++ [u], D ++ toL u.2, R, m + u.2.len - 1, true, by congr 1; omega, rfl, by simp, by rw [← HAR.out]; simp, Nat.le_refl _, by rw [List.length_append, toL_len]; omega, by omega, by rw [← HG.out, HG2.out]; simp, by rw [← HC.out, HC2.out]; simp, ⟨_, by rw [List.length_append, toL_len]; exact own', CelF.app (by rw [of_to]; exact HYS.out.sam hsm) (HRX.out.sam hsm)⟩, HBL.out.trans hbl3⟩
      · have hG2 : flatG kd m (u :: R) = u :: flatG kd m R := by rw [flatG, if_neg hgo]
        have hC2 : flatC kd m (u :: R) = flatC kd m R := by rw [flatC, if_neg hgo]
        have HG2 := hidE hG2; have HC2 := hidE hC2
        clear hG2 hC2
        have hcase : (((u.1.kind : Int) != (kd : Int)) = true ∧ (u.1.kind != kd) = true) ∨ (((u.1.kind : Int) != (kd : Int)) = false ∧ decide ((16 : Int) < (m : Int) - 1 + u.2.len) = true) := by
          by_cases hkk : u.1.kind = kd
          · exact .inr ⟨by simp; omega, by simp; omega⟩
          · exact .inl ⟨by simp; omega, by simpa using hkk⟩
        clear hgo
        rcases hcase with ⟨r1, r2⟩ | ⟨r1, r2⟩
        all_goals
          go_wp2
          go_quiet (fail)
          go_wp2_with (at_builtin; go_loud (refine list_appV rfl (.tmp 42) (.tmp 44) 52 rfl w.heap.size 54 ix _ 7 64 Tryd.underlying52 HI.out HZ0.out HZ1.out HZ2.out rfl (by decide) (.slice a3 D.length c3) D.length xs rfl (own_below HOW.out (by (repeat (first | exact Below.refl _ _ | assumption | refine balloc ?_ _ | refine below_drewN ?_ _ | refine bstep (by assumption) ?_ | refine bstep (Past.prop _) ?_ | refine Below.setCell ?_ (by first | exact Nat.le_refl _ | (simp; done) | (simp; omega)) _)))) _ 1 (tcV u.1 z' _) rfl (srcV_new (Blk.made_at _ _ _ _ (by first | rfl | (simp; done) | (simp [World.drewN]; done))) rfl (by intro y hy; simp at hy; rcases hy with rfl | rfl | rfl | rfl | rfl | rfl | rfl <;> rfl)) (by omega) (by omega) (by simp; omega) ?_); intro v' w2 own' hg'; obtain ⟨av', cp', rfl⟩ := own_sli own')
          go_roundg R.length
          case measure => have := HGH.out; simp only [List.length_cons] at this; omega
          case rel =>
            have hbl2 := HBL.out.trans (Below.grown ((show Below wr.heap.size wr _ from by (repeat (first | exact Below.refl _ _ | assumption | refine balloc ?_ _ | refine below_drewN ?_ _ | refine bstep (by assumption) ?_ | refine bstep (Past.prop _) ?_ | refine Below.setCell ?_ (by first | exact Nat.le_refl _ | (simp; done) | (simp; omega)) _))).mono hws) hg' (by simp; omega) (fun j hj => HOB.out j hj))
            have hsm := Sam.old (S := S) ((show Below w.heap.size wr w2 from Below.grown ((show Below wr.heap.size wr _ from by (repeat (first | exact Below.refl _ _ | assumption | refine balloc ?_ _ | refine below_drewN ?_ _ | refine bstep (by assumption) ?_ | refine bstep (Past.prop _) ?_ | refine Below.setCell ?_ (by first | exact Nat.le_refl _ | (simp; done) | (simp; omega)) _))).mono hws) hg' (by simp; omega) (fun j hj => HOB.out j hj)))
            refine ⟨A ++ [u], D ++ [u], R, m, c, rfl, rfl, by simp, by rw [← HAR.out]; simp, Nat.le_refl _, by have := HDR.out; simp only [List.length_append, List.length_cons, List.length_nil] at this ⊢; omega, hm, by rw [← HG.out, HG2.out]; simp, by rw [← HC.out, HC2.out], ⟨_, by rw [List.length_append]; exact own', CelF.app ((celF_one HK.out).sam hsm) (HRX.out.sam hsm)⟩, hbl2⟩
end Go.Proofs.YtkjpmhmlakmglaaDoor

namespace Go.Proofs.YtkjpmhmlakmglaaDoor
open Go.ChangeShapes Go.WideShapes Go.ChangeAt Go.RowKit Go.Shelf
attribute [local irreducible] Go.Calls

def Tryd.bren : Go.Shelf.Ren := ⟨fun | 169 => 64 | n => n, fun | 70 => 105 | 9 => 9 | 0 => 0 | 72 => 108 | 37 => 106 | 127 => 124 | 3 => 3 | 5 => 5 | n => n, fun | n => n⟩
theorem Tryd.blays : Go.Proofs.Lays.n169 Tryd.prog Tryd.bren := {
  mixed := by kernel_rfl
  f169 := Tryd.func64.trans (congrArg some (by kernel_rfl))
  t0 := Tryd.underlying0
  a0 := Tryd.isAgg0
  z0 := Tryd.sizeOf0
  v0 := Tryd.zeroValue0
  t3 := Tryd.underlying3
  a3 := Tryd.isAgg3
  z3 := Tryd.sizeOf3
  v3 := Tryd.zeroValue3
  t9 := Tryd.underlying9
  a9 := Tryd.isAgg9
  z9 := Tryd.sizeOf9
  v9 := Tryd.zeroValue9
  t37 := Tryd.underlying106
  a37 := Tryd.isAgg106
  z37 := Tryd.sizeOf106
  v37 := Tryd.zeroValue106
  t70 := Tryd.underlying105
  a70 := Tryd.isAgg105
  z70 := Tryd.sizeOf105
  v70 := Tryd.zeroValue105
  t72 := Tryd.underlying108
  a72 := Tryd.isAgg108
  z72 := Tryd.sizeOf108
  v72 := Tryd.zeroValue108
  t127 := Tryd.underlying124
  a127 := Tryd.isAgg124
  z127 := Tryd.sizeOf124
  v127 := Tryd.zeroValue124
  }
theorem Tryd.bextra : Builder.Extra Tryd.prog Tryd.bren := {
  sizeBuilder := by kernel_rfl
  liesBuilder := by kernel_rfl
  t5 := Tryd.underlying5
  a5 := Tryd.isAgg5
  z5 := Tryd.sizeOf5
  v5 := Tryd.zeroValue5
  infoByte := by kernel_rfl
  cellsByte := by kernel_rfl
  sizeByte := by kernel_rfl
  neB5 := by decide }
/-- A builder that the call has made, in block b, with its bytes. -/
abbrev BldI (B b : Nat) (l : List UInt8) (w : World) : Prop := Lib.IsBuilderF 108 5 B b (Lib.byteCells l) w
theorem bld_string (B b : Nat) (l : List UInt8) (w : World) (h : BldI B b l w) (hB : B ≤ w.heap.size) :
    Calls Tryd.prog 64 #[.pointer (some ⟨b, 0, none⟩)] w fun e w' => e = .returned (strV l) ∧ Below B w w' :=
  (Any.Builder_String_any_k Tryd.blays Tryd.bextra B b l w h hB).mono fun _ _ ⟨h1, _, h2, _⟩ => ⟨h1, h2⟩
theorem Tryd.infoBld : (Tryd.prog.info? 108).map (·.size) = some 2 := by kernel_rfl
theorem Tryd.infoU8 : (Tryd.prog.info? 5).map (fun i => (i.zero, i.size, i.bytes)) = some (some (.int .u8 0), 1, 1) := by kernel_rfl
set_option maxHeartbeats 1000000 in
set_option maxRecDepth 100000 in
theorem bld_check (B b : Nat) (bs : List Value) (w : World) (h : Lib.IsBuilderF 108 5 B b bs w) :
    Calls Tryd.prog 69 #[.pointer (some ⟨b, 0, none⟩)] w fun e w' => e = .returned (.tuple #[]) ∧ Lib.BuilderAtF 108 5 B b (.pointer (some ⟨b, 0, none⟩)) bs w' ∧ Below B w w' ∧ Lib.OthersKept 5 (some b) w w' := by
  obtain ⟨j, hj, hjs⟩ := Option.map_eq_some_iff.1 Tryd.infoBld
  rcases h with h | h
  · have h0 := h.cell0; have hz := h.frozen0; have hsh := h.shape
    have HB := hidE h
    clear h
    have e1 := fun w hsh => Lib.run_to_unsafe (P := Tryd.prog) (e := 108) (cells := 2) w ⟨b, 0, none⟩ Tryd.underlying105 Tryd.underlying125 hj (by rw [hjs]; decide) hsh (Nat.zero_lt_succ 1)
    have e2 := fun w hsh => Lib.run_from_unsafe (P := Tryd.prog) (e := 108) (cells := 2) w ⟨b, 0, none⟩ Tryd.underlying125 Tryd.underlying105 hj hsh Tryd.bextra.liesBuilder
    go_enter Tryd.func69, Tryd.ntmps69
    go_wp2
    rw [run_callFunc_extern Tryd.func73 (by kernel_rfl) (by kernel_rfl) (by kernel_rfl) (e := Extern.AbiNoEscape.same) (by kernel_rfl)]
    rw [Lib.run_noEscape]
    simp only [Result.andThen]
    rw [Oper.upon_value]
    go_wp2
    go_end0
    exact ⟨rfl, HB.out.used _, (Below.refl B w).setCell (p := ⟨b, 0, none⟩) HB.out.1 _, (Lib.OthersKept.refl _ _ w).setCell ⟨b, 0, none⟩ rfl _⟩
  · have h0 := h.cell0
    have HB := hidE h
    have e1 := fun w => Lib.run_neq_ptr_same (P := Tryd.prog) w ⟨b, 0, none⟩ Tryd.underlying105 hj
    clear h
    go_enter Tryd.func69, Tryd.ntmps69
    go_wp2
    go_end0
    exact ⟨rfl, HB.out, Below.refl B _, Lib.OthersKept.refl _ _ _⟩
theorem bld_cells {B b : Nat} {p : Value} {bs : List Value} {w : World} (h : Lib.BuilderAtF 108 5 B b p bs w) : ∃ v, w.heap[b]? = some (.cells #[p, v] 108 (0, 0)) ∧ w.ownsRowF B 5 1 v bs.length bs ∧ v.ownBlock ≠ some b ∧ b < w.heap.size ∧ B ≤ b ∧ w.cell? ⟨b, 0, none⟩ = some p ∧ w.cell? ⟨b, 1, none⟩ = some v ∧ w.frozen? ⟨b, 1, none⟩ = false := by
  have hlt := h.lt
  obtain ⟨hB, v, hbk, hown, hne⟩ := h
  exact ⟨v, hbk, hown, hne, hlt, hB, by rw [Lib.cell_of_heap hbk]; rfl, by rw [Lib.cell_of_heap hbk]; rfl, Lib.frozen_of_heap hbk 1⟩
theorem ownF_sli {A : World} {β sz n : Nat} {e : TypeId} {v : Value} {xs : List Value} (h : A.ownsRowF β e sz v n xs) : ∃ a cap, v = .slice a n cap := by
  rcases h.2 with ⟨hv, h0⟩ | ⟨g, cap, cur, fz, hv, _⟩
  · exact ⟨none, 0, by rw [hv, h0]⟩
  · exact ⟨_, cap, hv⟩
/-- What the writing methods leave. -/
def Wrote (B b : Nat) (l : List UInt8) (w w' : World) : Prop := BldI B b l w' ∧ Below B w w' ∧ Lib.OthersKept 5 (some b) w w'
set_option maxHeartbeats 2000000 in
set_option maxRecDepth 100000 in
theorem bld_byte (B b : Nat) (l : List UInt8) (c : UInt8) (w : World) (h : BldI B b l w) (hl : l.length + 1 ≤ 140737488355328) (hBw : B ≤ w.heap.size) (z : Int) (hz : z = c.toNat) :
    Calls Tryd.prog 71 #[.pointer (some ⟨b, 0, none⟩), .int .u8 z] w fun e w' => e = .returned .nilIface ∧ Wrote B b (l ++ [c]) w w' := by
  obtain ⟨i0, hi, hz0, hz1, hz2⟩ := info_parts Tryd.infoU8
  have HI := hidE hi; have HZ0 := hidE hz0; have HZ1 := hidE hz1; have HZ2 := hidE hz2
  have HC := hidE (bld_check B b (Lib.byteCells l) w h)
  have hbl := Lib.byteCells_length l
  have HZ := hidE (show Lib.byteCells l ++ [.int .u8 z] = Lib.byteCells (l ++ [c]) by rw [Lib.byteCells_append, hz]; rfl)
  clear h hi hz0 hz1 hz2 hz
  generalize Lib.byteCells l = bs at *
  go_enter Tryd.func71, Tryd.ntmps71
  go_wp2_with (go_at_call 69; (with_reducible refine HC.out.mono ?_))
  rintro e w1 ⟨rfl, h1, hb1, hk1⟩
  obtain ⟨v, hbk, hown, hne, hlt, hBb, c0, c1, _⟩ := bld_cells h1
  have hw1 := hb1.size
  have HO := hidE hown; have HB1 := hidE hb1; have HK1 := hidE hk1; have HBK := hidE hbk
  clear h1 hown hb1 hk1 hbk
  go_wp2_with (at_builtin; refine wpList_append_ownF _ rfl _ _ 106 rfl B 5 i0 (.int .u8 0) 1 1 Tryd.underlying106 HI.out HZ0.out HZ1.out HZ2.out rfl (by decide) _ _ _ rfl (HO.out.alloc _) ⟨w1.heap.size, 0, none⟩ 1 1 [.int .u8 z] rfl rfl (new_cellsT _ #[.int .u8 z] 5) (by intro y hy; simp at hy; subst hy; rfl) (by unfold maxLen; omega) (by omega) (by simp; omega) ?_; intro v' w2 hown' hgrow _; have hb2 : w2.heap[b]? = some (.cells #[.pointer (some ⟨b, 0, none⟩), v] 108 (0, 0)) := (by rw [hgrow.block b (by simp; omega) (fun e => hne e.symm), Lib.alloc_old w1 _ b hlt]; exact HBK.out); have d0 : w2.cell? ⟨b, 0, none⟩ = some (.pointer (some ⟨b, 0, none⟩)) := (by rw [Lib.cell_of_heap hb2]; rfl); have d1 : w2.cell? ⟨b, 1, none⟩ = some v := (by rw [Lib.cell_of_heap hb2]; rfl); have f1 : w2.frozen? ⟨b, 1, none⟩ = false := Lib.frozen_of_heap hb2 1; obtain ⟨ao, cap, rfl⟩ := ownF_sli hown'; have HG := hidE hgrow; have HO2 := hidE hown'; have HB2 := hidE hb2; clear hgrow hown' hb2)
  go_ret
  refine ⟨rfl, ?_, ?_, ((HK1.out.alloc _).grown HG.out (Lib.ownsRowF_kind (HO.out.alloc _))).setCell ⟨b, 1, none⟩ rfl _⟩
  · show Lib.IsBuilderF _ _ _ _ _ _
    rw [← HZ.out]
    exact .inr (Lib.BuilderAtF.put (T := 108) (e := 5) hBb HB2.out (bs' := bs ++ [.int .u8 z]) (by have := HO2.out; rw [hbl] at this; simpa [hbl] using this) (by decide))
  · exact ((HB1.out.alloc (by omega) _).grown HG.out (by simp; omega) (fun k hk => (HO.out.lt k hk).1)).setCell (p := ⟨b, 1, none⟩) hBb _
set_option maxHeartbeats 2000000 in
set_option maxRecDepth 100000 in
theorem bld_str (B b : Nat) (l t : List UInt8) (w : World) (h : BldI B b l w) (hl : l.length + t.length ≤ 140737488355328) (hBw : B ≤ w.heap.size) :
    Calls Tryd.prog 61 #[.pointer (some ⟨b, 0, none⟩), strV t] w fun e w' => e = .returned (.tuple #[.int .i64 t.length, .nilIface]) ∧ Wrote B b (l ++ t) w w' := by
  obtain ⟨i0, hi, hz0, hz1, hz2⟩ := info_parts Tryd.infoU8
  have HI := hidE hi; have HZ0 := hidE hz0; have HZ1 := hidE hz1; have HZ2 := hidE hz2
  have HC := hidE (bld_check B b (Lib.byteCells l) w h)
  have hbl := Lib.byteCells_length l
  have slen : (⟨t.toArray⟩ : ByteArray).size = t.length := by simp [ByteArray.size]
  have HZ := hidE (show Lib.byteCells l ++ Lib.strCells ⟨t.toArray⟩ = Lib.byteCells (l ++ t) by rw [Lib.byteCells_append]; rfl)
  clear h hi hz0 hz1 hz2
  generalize Lib.byteCells l = bs at *
  go_enter Tryd.func61, Tryd.ntmps61
  go_wp2_with (go_at_call 69; (with_reducible refine HC.out.mono ?_))
  rintro e w1 ⟨rfl, h1, hb1, hk1⟩
  obtain ⟨v, hbk, hown, hne, hlt, hBb, c0, c1, _⟩ := bld_cells h1
  have hw1 := hb1.size
  have HO := hidE hown; have HB1 := hidE hb1; have HK1 := hidE hk1; have HBK := hidE hbk
  clear h1 hown hb1 hk1 hbk
  go_wp2_with (at_builtin; refine Lib.wpList_append_own_stringF _ rfl _ _ 106 9 rfl B 5 i0 Tryd.underlying106 Tryd.underlying9 HI.out HZ0.out HZ1.out HZ2.out _ _ _ rfl HO.out ⟨t.toArray⟩ rfl (by unfold maxLen; rw [slen]; omega) (by rw [slen]; omega) (by omega) ?_; intro v' w2 hown' hgrow _; have hb2 : w2.heap[b]? = some (.cells #[.pointer (some ⟨b, 0, none⟩), v] 108 (0, 0)) := (by rw [hgrow.block b hlt (fun e => hne e.symm)]; exact HBK.out); have d0 : w2.cell? ⟨b, 0, none⟩ = some (.pointer (some ⟨b, 0, none⟩)) := (by rw [Lib.cell_of_heap hb2]; rfl); have d1 : w2.cell? ⟨b, 1, none⟩ = some v := (by rw [Lib.cell_of_heap hb2]; rfl); have f1 : w2.frozen? ⟨b, 1, none⟩ = false := Lib.frozen_of_heap hb2 1; obtain ⟨ao, cap, rfl⟩ := ownF_sli hown'; have HG := hidE hgrow; have HO2 := hidE hown'; have HB2 := hidE hb2; clear hgrow hown' hb2)
  go_ret2
  refine ⟨by simp, ?_, ?_, (HK1.out.grown HG.out (Lib.ownsRowF_kind HO.out)).setCell ⟨b, 1, none⟩ rfl _⟩
  · show Lib.IsBuilderF _ _ _ _ _ _
    rw [← HZ.out]
    exact .inr (Lib.BuilderAtF.put (T := 108) (e := 5) hBb HB2.out (bs' := bs ++ Lib.strCells ⟨t.toArray⟩) (by have := HO2.out; rw [hbl, slen] at this; simpa [Lib.strCells_length, hbl, slen] using this) (by decide))
  · exact (HB1.out.grown HG.out (by omega) (fun k hk => (HO.out.lt k hk).1)).setCell (p := ⟨b, 1, none⟩) hBb _
end Go.Proofs.YtkjpmhmlakmglaaDoor

namespace Go.Proofs.YtkjpmhmlakmglaaDoor
open Go.ChangeShapes Go.WideShapes Go.ChangeAt Go.RowKit Go.Shelf
attribute [local irreducible] Go.Calls

/-- A writer in block b: its builder's mark, its bytes, its stack. -/
def WrAt (B b : Nat) (pv : Value) (l : List UInt8) (o : Value) (w : World) : Prop := B ≤ b ∧ ∃ v, Blk w b #[pv, v, o] 110 ∧ w.ownsRowF B 5 1 v l.length (Lib.byteCells l)
def Wr (B b : Nat) (l : List UInt8) (o : Value) (w : World) : Prop := WrAt B b (.pointer none) l o w ∨ WrAt B b (.pointer (some ⟨b, 0, none⟩)) l o w
theorem Tryd.infoWr : (Tryd.prog.info? 108).map (·.size) = some 2 := by kernel_rfl
theorem Tryd.liesWr : liesAt Tryd.prog Tryd.prog.depth 110 (3 / Tryd.prog.cellsOf 110) 0 108 1 = true := by kernel_rfl
theorem Tryd.cellsByte : Tryd.prog.cellsOf 5 = 1 := by kernel_rfl
theorem wr_out {B b : Nat} {pv : Value} {l : List UInt8} {o : Value} {w : World} (h : WrAt B b pv l o w) : ∃ v, Blk w b #[pv, v, o] 110 ∧ w.ownsRowF B 5 1 v l.length (Lib.byteCells l) ∧ v.ownBlock ≠ some b ∧ b < w.heap.size ∧ B ≤ b := by
  obtain ⟨hB, v, hb, ho⟩ := h
  exact ⟨v, hb, ho, Lib.ownBlock_neF ho hb (by decide), hb.lt, hB⟩
theorem wr_set0 {B b : Nat} {pv q : Value} {l : List UInt8} {o : Value} {w : World} (h : WrAt B b pv l o w) : WrAt B b q l o (w.setCell ⟨b, 0, none⟩ q) := by
  obtain ⟨v, hb, ho, hne, hlt, hB⟩ := wr_out h
  have hs := hb.set 0 q
  exact ⟨hB, v, by simpa using hs, ho.kept (grown_set w b 0 q) (.inr hne)⟩
theorem wr_set1 {B b : Nat} {pv v v' : Value} {l : List UInt8} {o : Value} {w : World} (hB : B ≤ b) (hb : Blk w b #[pv, v, o] 110) (ho : w.ownsRowF B 5 1 v' l.length (Lib.byteCells l)) : WrAt B b pv l o (w.setCell ⟨b, 1, none⟩ v') := by
  have hs := hb.set 1 v'
  exact ⟨hB, v', by simpa using hs, ho.kept (grown_set w b 1 v') (.inr (Lib.ownBlock_neF ho hb (by decide)))⟩
set_option maxHeartbeats 1000000 in
set_option maxRecDepth 100000 in
theorem wr_check (B b : Nat) (l : List UInt8) (o : Value) (w : World) (h : Wr B b l o w) :
    Calls Tryd.prog 69 #[.pointer (some ⟨b, 0, none⟩)] w fun e w' => e = .returned (.tuple #[]) ∧ WrAt B b (.pointer (some ⟨b, 0, none⟩)) l o w' ∧ Below B w w' ∧ Lib.OthersKept 5 (some b) w w' := by
  obtain ⟨j, hj, hjs⟩ := Option.map_eq_some_iff.1 Tryd.infoWr
  rcases h with h | h
  · obtain ⟨v, hb, ho, hne, hlt, hB⟩ := wr_out h
    have h0 := hb.cell 0; have hz := hb.free 0
    have hsh : w.shape? b = some (110, 3) := by
      have : w.heap[b]? = some (.cells #[.pointer none, v, o] 110 (0, 0)) := hb
      simp [World.shape?, this]
    simp at h0
    have HW := hidE h; have HLT := hidE hlt; have HBB := hidE hB
    clear h hb ho hne
    have e1 := fun w hsh => Lib.run_to_unsafe (P := Tryd.prog) (e := 110) (cells := 3) w ⟨b, 0, none⟩ Tryd.underlying105 Tryd.underlying125 hj (by rw [hjs]; decide) hsh (Nat.zero_lt_succ 2)
    have e2 := fun w hsh => Lib.run_from_unsafe (P := Tryd.prog) (e := 110) (cells := 3) w ⟨b, 0, none⟩ Tryd.underlying125 Tryd.underlying105 hj hsh Tryd.liesWr
    go_enter Tryd.func69, Tryd.ntmps69
    go_wp2
    rw [run_callFunc_extern Tryd.func73 (by kernel_rfl) (by kernel_rfl) (by kernel_rfl) (e := Extern.AbiNoEscape.same) (by kernel_rfl)]
    rw [Lib.run_noEscape]
    simp only [Result.andThen]
    rw [Oper.upon_value]
    go_wp2
    go_end0
    exact ⟨rfl, wr_set0 HW.out, (Below.refl B w).setCell (p := ⟨b, 0, none⟩) HBB.out _, (Lib.OthersKept.refl _ _ w).setCell ⟨b, 0, none⟩ rfl _⟩
  · obtain ⟨v, hb, ho, hne, hlt, hB⟩ := wr_out h
    have h0 := hb.cell 0
    simp at h0
    have HW := hidE h
    clear h hb ho hne
    have e1 := fun w => Lib.run_neq_ptr_same (P := Tryd.prog) w ⟨b, 0, none⟩ Tryd.underlying105 hj
    go_enter Tryd.func69, Tryd.ntmps69
    go_wp2
    go_end0
    exact ⟨rfl, HW.out, Below.refl B _, Lib.OthersKept.refl _ _ _⟩
/-- What the writing methods leave. -/
def WroteW (B b : Nat) (l : List UInt8) (o : Value) (w w' : World) : Prop := Wr B b l o w' ∧ Below B w w' ∧ Lib.OthersKept 5 (some b) w w'
set_option maxHeartbeats 2000000 in
set_option maxRecDepth 100000 in
theorem wr_byte (B b : Nat) (l : List UInt8) (o : Value) (c : UInt8) (w : World) (h : Wr B b l o w) (hl : l.length + 1 ≤ 140737488355328) (hBw : B ≤ w.heap.size) (z : Int) (hz : z = c.toNat) :
    Calls Tryd.prog 71 #[.pointer (some ⟨b, 0, none⟩), .int .u8 z] w fun e w' => e = .returned .nilIface ∧ WroteW B b (l ++ [c]) o w w' := by
  obtain ⟨i0, hi, hz0, hz1, hz2⟩ := info_parts Tryd.infoU8
  have HI := hidE hi; have HZ0 := hidE hz0; have HZ1 := hidE hz1; have HZ2 := hidE hz2
  have HC := hidE (wr_check B b l o w h)
  have hbl := Lib.byteCells_length l
  have HZ := hidE (show Lib.byteCells l ++ [.int .u8 z] = Lib.byteCells (l ++ [c]) by rw [Lib.byteCells_append, hz]; rfl)
  clear h hi hz0 hz1 hz2 hz
  go_enter Tryd.func71, Tryd.ntmps71
  go_wp2_with (go_at_call 69; (with_reducible refine HC.out.mono ?_))
  rintro e w1 ⟨rfl, h1, hb1, hk1⟩
  obtain ⟨v, hbk, hown, hne, hlt, hBb⟩ := wr_out h1
  have c0 := hbk.cell 0; have c1 := hbk.cell 1; have c2 := hbk.cell 2
  simp at c0 c1 c2
  have hw1 := hb1.size
  have HO := hidE hown; have HB1 := hidE hb1; have HK1 := hidE hk1; have HBK := hidE hbk
  clear h1 hown hb1 hk1 hbk
  go_wp2_with (at_builtin; refine wpList_append_ownF _ rfl _ _ 106 rfl B 5 i0 (.int .u8 0) 1 1 Tryd.underlying106 HI.out HZ0.out HZ1.out HZ2.out rfl (by decide) _ _ _ rfl (HO.out.alloc _) ⟨w1.heap.size, 0, none⟩ 1 1 [.int .u8 z] rfl rfl (new_cellsT _ #[.int .u8 z] 5) (by intro y hy; simp at hy; subst hy; rfl) (by unfold maxLen; omega) (by omega) (by simp; omega) ?_; intro v' w2 hown' hgrow _; have hb2 : Blk w2 b #[.pointer (some ⟨b, 0, none⟩), v, o] 110 := (by refine (hgrow.block b (by simp; omega) (fun e => hne e.symm)).trans ?_; exact HBK.out.alloc _); have d0 := hb2.cell 0; have d1 := hb2.cell 1; have d2 := hb2.cell 2; have f1 := hb2.free 1; have z2 := hb2.lt; simp at d0 d1 d2; obtain ⟨ao, cap, rfl⟩ := ownF_sli hown'; have HG := hidE hgrow; have HO2 := hidE hown'; have HB2 := hidE hb2; clear hgrow hown' hb2)
  go_ret
  refine ⟨rfl, .inr ?_, ?_, ((HK1.out.alloc _).grown HG.out (Lib.ownsRowF_kind (HO.out.alloc _))).setCell ⟨b, 1, none⟩ rfl _⟩
  · refine wr_set1 hBb HB2.out ?_
    rw [← HZ.out, List.length_append]
    exact HO2.out
  · exact ((HB1.out.alloc (by omega) _).grown HG.out (by simp; omega) (fun k hk => (HO.out.lt k hk).1)).setCell (p := ⟨b, 1, none⟩) hBb _
set_option maxHeartbeats 2000000 in
set_option maxRecDepth 100000 in
theorem wr_str (B b : Nat) (l t : List UInt8) (o : Value) (w : World) (h : Wr B b l o w) (hl : l.length + t.length ≤ 140737488355328) (hBw : B ≤ w.heap.size) :
    Calls Tryd.prog 61 #[.pointer (some ⟨b, 0, none⟩), strV t] w fun e w' => e = .returned (.tuple #[.int .i64 t.length, .nilIface]) ∧ WroteW B b (l ++ t) o w w' := by
  obtain ⟨i0, hi, hz0, hz1, hz2⟩ := info_parts Tryd.infoU8
  have HI := hidE hi; have HZ0 := hidE hz0; have HZ1 := hidE hz1; have HZ2 := hidE hz2
  have HC := hidE (wr_check B b l o w h)
  have hbl := Lib.byteCells_length l
  have slen : (⟨t.toArray⟩ : ByteArray).size = t.length := by simp [ByteArray.size]
  have HZ := hidE (show Lib.byteCells l ++ Lib.strCells ⟨t.toArray⟩ = Lib.byteCells (l ++ t) by rw [Lib.byteCells_append]; rfl)
  clear h hi hz0 hz1 hz2
  go_enter Tryd.func61, Tryd.ntmps61
  go_wp2_with (go_at_call 69; (with_reducible refine HC.out.mono ?_))
  rintro e w1 ⟨rfl, h1, hb1, hk1⟩
  obtain ⟨v, hbk, hown, hne, hlt, hBb⟩ := wr_out h1
  have c0 := hbk.cell 0; have c1 := hbk.cell 1; have c2 := hbk.cell 2
  simp at c0 c1 c2
  have hw1 := hb1.size
  have HO := hidE hown; have HB1 := hidE hb1; have HK1 := hidE hk1; have HBK := hidE hbk
  clear h1 hown hb1 hk1 hbk
  go_wp2_with (at_builtin; refine Lib.wpList_append_own_stringF _ rfl _ _ 106 9 rfl B 5 i0 Tryd.underlying106 Tryd.underlying9 HI.out HZ0.out HZ1.out HZ2.out _ _ _ rfl HO.out ⟨t.toArray⟩ rfl (by unfold maxLen; rw [slen]; omega) (by rw [slen]; omega) (by omega) ?_; intro v' w2 hown' hgrow _; have hb2 : Blk w2 b #[.pointer (some ⟨b, 0, none⟩), v, o] 110 := (hgrow.block b hlt (fun e => hne e.symm)).trans HBK.out; have d0 := hb2.cell 0; have d1 := hb2.cell 1; have d2 := hb2.cell 2; have f1 := hb2.free 1; have z2 := hb2.lt; simp at d0 d1 d2; obtain ⟨ao, cap, rfl⟩ := ownF_sli hown'; have HG := hidE hgrow; have HO2 := hidE hown'; have HB2 := hidE hb2; clear hgrow hown' hb2)
  go_ret2
  refine ⟨by simp, .inr ?_, ?_, (HK1.out.grown HG.out (Lib.ownsRowF_kind HO.out)).setCell ⟨b, 1, none⟩ rfl _⟩
  · refine wr_set1 hBb HB2.out ?_
    rw [← HZ.out, List.length_append, ← slen]
    exact HO2.out
  · exact (HB1.out.grown HG.out (by omega) (fun k hk => (HO.out.lt k hk).1)).setCell (p := ⟨b, 1, none⟩) hBb _
set_option maxHeartbeats 2000000 in
set_option maxRecDepth 100000 in
theorem wr_string (B b : Nat) (l : List UInt8) (o : Value) (w : World) (h : Wr B b l o w) (h0 : l ≠ []) (hl : l.length ≤ 140737488355328) :
    Calls Tryd.prog 64 #[.pointer (some ⟨b, 0, none⟩)] w fun e w' => e = .returned (strV l) ∧ Below B w w' := by
  obtain ⟨pv, h⟩ : ∃ pv, WrAt B b pv l o w := by rcases h with h | h <;> exact ⟨_, h⟩
  obtain ⟨v, hbk, hown, hne, hlt, hBb⟩ := wr_out h
  have hl0 : l.length ≠ 0 := by simpa using h0
  obtain ⟨g, cap, cur, fz, rfl, hbg, hg, hfz, hnc, hcm, hcs, htake⟩ : ∃ g cap cur fz, v = .slice (some ⟨g, 0, none⟩) l.length cap ∧ B ≤ g ∧ w.heap[g]? = some (.cells cur 5 fz) ∧ fz.2 ≤ l.length * 1 ∧ l.length ≤ cap ∧ cap ≤ maxLen ∧ cur.size = cap * 1 ∧ cur.toList.take (l.length * 1) = Lib.byteCells l := by
    rcases hown.2 with ⟨_, hz⟩ | ⟨g, cap, cur, fz, hv, r⟩
    · exact absurd hz hl0
    · exact ⟨g, cap, cur, fz, hv, r⟩
  have c1 : w.drew.cell? ⟨b, 1, none⟩ = some (.slice (some ⟨g, 0, none⟩) l.length cap) := by
    have : Blk w.drew b #[pv, .slice (some ⟨g, 0, none⟩) l.length cap, o] 110 := hbk
    simpa using this.cell 1
  have hSD : (Builtin.unsafeSliceData_ #[106] 124 #[.slice (some ⟨g, 0, none⟩) l.length cap]).run Tryd.prog w.drew = .ok (.pointer (some ⟨g, 0, none⟩)) w.drew :=
    Lib.run_unsafeSliceData_row _ _ _ _ _ _ (by omega)
  have hUS : (Builtin.unsafeString_ #[124, 3] 9 #[.pointer (some ⟨g, 0, none⟩), .int .i64 l.length]).run Tryd.prog w.drew = .ok (.string ⟨l.toArray⟩) (w.drew.freeze ⟨g, 0, none⟩ l.length) := by
    refine Lib.run_unsafeString_row w.drew 124 3 9 5 Tryd.underlying124 Tryd.cellsByte g cur.size (by have hg' : w.drew.heap[g]? = some (.cells cur 5 fz) := hg; simp [World.shape?, hg']) l h0 (by omega) (by omega) ?_
    intro j x hx
    have := hown.cells (g := g) rfl j (.int .u8 x.toNat) (by simp [Lib.byteCells, hx])
    exact this
  have HBG := hidE hbg
  clear h hbk hown hne hg htake hcs hfz
  go_enter Tryd.func64, Tryd.ntmps64
  go_wp2
  go_region
  all_goals (go_wp2; go_ret; exact ⟨rfl, Lib.below_freeze (Below.drew (Below.refl B w)) (p := ⟨g, 0, none⟩) HBG.out _⟩)
end Go.Proofs.YtkjpmhmlakmglaaDoor

namespace Go.Proofs.YtkjpmhmlakmglaaDoor

/-- An atom's numbers. -/
def numsS (x : Prt) : List UInt8 := if x.kind = 0 then 32 :: (decS x.n ++ 32 :: (decS x.g ++ 32 :: decS x.d)) else []
/-- What a part begins with. -/
def headS (x : Prt) : List UInt8 := 32 :: 40 :: wordK x.kind
def closeW : List UInt8 → List Int → List UInt8 × List Int
  | s, [] => (s, [])
  | s, c :: st => if c = 0 then closeW (s ++ [41]) st else (s, c :: st)
def decTop : List Int → List Int
  | [] => []
  | c :: st => (c - 1) :: st
def partW (a : List UInt8 × List Int) (x : Prt) : List UInt8 × List Int := closeW (a.1 ++ headS x ++ numsS x) (x.kids :: decTop a.2)
def partsW (a : List UInt8 × List Int) (l : List Prt) : List UInt8 × List Int := l.foldl partW a
theorem closeW_zero (s : List UInt8) (st : List Int) : closeW s (0 :: st) = closeW (s ++ [41]) st := by rw [closeW]; simp
theorem closeW_pos (s : List UInt8) (c : Int) (st : List Int) (h : c ≠ 0) : closeW s (c :: st) = (s, c :: st) := by rw [closeW, if_neg h]
theorem textF_cons (x : Prt) (K N : Fst) : textF (.cons x K N) = headS x ++ (numsS x ++ (textF K ++ 41 :: textF N)) := by
  rw [textF]; rfl
theorem numsS_kids (x : Prt) (k : Int) : numsS { x with kids := k } = numsS x := rfl
theorem partsW_app (a : List UInt8 × List Int) (l r : List Prt) : partsW a (l ++ r) = partsW (partsW a l) r := List.foldl_append
theorem len_pos {F : Fst} (h : F ≠ .nil) : 1 ≤ F.len := by
  cases F with
  | nil => exact absurd rfl h
  | cons x K N => simp [Fst.len]
/-- Terms that are due. -/
theorem partsW_fst : ∀ (F : Fst) (s : List UInt8) (c : Int) (st : List Int), F ≠ .nil → (F.len : Int) ≤ c → partsW (s, c :: st) F.flat = closeW (s ++ textF F) ((c - F.len) :: st)
  | .nil, _, _, _, h, _ => absurd rfl h
  | .cons x K N, s, c, st, _, hc => by
    have rest : ∀ (s1 : List UInt8), partsW (closeW (s1 ++ [41]) ((c - 1) :: st)) N.flat = closeW (s1 ++ 41 :: textF N) ((c - (Fst.cons x K N).len) :: st) := by
      intro s1
      by_cases hN : N = .nil
      · subst hN
        show closeW _ _ = closeW _ _
        simp [textF, Fst.len]
      · have h1 := len_pos hN
        simp only [Fst.len] at hc ⊢
        rw [closeW_pos _ _ _ (by omega), partsW_fst N (s1 ++ [41]) (c - 1) st hN (by omega)]
        simp only [List.append_assoc, List.singleton_append]
        rw [show c - 1 - (N.len : Int) = c - ((N.len + 1 : Nat) : Int) by omega]
    rw [Fst.flat, textF_cons]
    show partsW (partW (s, c :: st) { x with kids := (K.len : Int) }) (K.flat ++ N.flat) = _
    have e : partW (s, c :: st) { x with kids := (K.len : Int) } = closeW (s ++ headS x ++ numsS x) ((K.len : Int) :: (c - 1) :: st) := rfl
    rw [e, partsW_app]
    by_cases hK : K = .nil
    · subst hK
      rw [show ((Fst.nil.len : Nat) : Int) = 0 from rfl, closeW_zero]
      show partsW (closeW _ _) N.flat = _
      rw [rest]
      simp [textF]
    · have h1 := len_pos hK
      rw [closeW_pos _ _ _ (by omega), partsW_fst K _ _ _ hK (Int.le_refl _), Int.sub_self, closeW_zero, rest]
      simp [List.append_assoc]
/-- One term, with nothing due. -/
theorem partsW_one {F : Fst} (h : F.len = 1) (s : List UInt8) : partsW (s, []) F.flat = (s ++ textF F, []) := by
  cases F with
  | nil => simp [Fst.len] at h
  | cons x K N =>
    have hN : N = .nil := by
      cases N with
      | nil => rfl
      | cons y a b => simp [Fst.len] at h
    subst hN
    rw [Fst.flat, textF_cons]
    show partsW (closeW (s ++ headS x ++ numsS x) [(K.len : Int)]) (K.flat ++ []) = _
    rw [List.append_nil]
    by_cases hK : K = .nil
    · subst hK
      rw [show ((Fst.nil.len : Nat) : Int) = 0 from rfl, closeW_zero]
      show (_, _) = _
      simp [textF]
    · have h1 := len_pos hK
      rw [closeW_pos _ _ _ (by omega), partsW_fst K _ _ _ hK (Int.le_refl _), Int.sub_self, closeW_zero]
      simp [closeW, textF, List.append_assoc]
theorem closeW_len : ∀ (s : List UInt8) (st : List Int), (closeW s st).1.length + (closeW s st).2.length = s.length + st.length
  | s, [] => rfl
  | s, c :: st => by
    rw [closeW]
    by_cases h : c = 0
    · rw [if_pos h, closeW_len]; simp; omega
    · rw [if_neg h]
theorem digG_len (k : Nat) : ∀ n, n < 10 ^ (k + 1) → (digG n).length ≤ k + 1 := by
  induction k with
  | zero => intro n h; rw [digG, if_pos (by simpa using h)]; simp
  | succ k ih =>
    intro n h
    rw [digG]
    by_cases c : n < 10
    · rw [if_pos c]; simp
    · rw [if_neg c, List.length_append]
      have := ih (n / 10) (by rw [Nat.div_lt_iff_lt_mul (by decide)]; rw [Nat.pow_succ] at h; exact h)
      simp; omega
theorem decS_len {n : Int} (h : -9223372036854775808 ≤ n ∧ n ≤ 9223372036854775807) : (decS n).length ≤ 21 := by
  unfold decS
  by_cases c : n < 0
  · rw [if_pos c]
    have := digG_len 19 (-n).toNat (by omega)
    simp; omega
  · rw [if_neg c]
    have := digG_len 19 n.toNat (by omega)
    omega
theorem wordK_len (k : Nat) : (wordK k).length ≤ 5 := by
  match k with
  | 0 => decide
  | 1 => decide
  | 2 => decide
  | 3 => decide
  | k + 4 => show ([97, 108, 108] : List UInt8).length ≤ 5; decide
theorem numsS_len {x : Prt} (h : PrtW x) : (numsS x).length ≤ 66 := by
  unfold numsS
  by_cases c : x.kind = 0
  · rw [if_pos c]
    have h1 := decS_len (n := x.n) (by obtain ⟨_, a, _⟩ := h; omega)
    have h2 := decS_len (n := x.g) (by obtain ⟨_, _, a, _⟩ := h; omega)
    have h3 := decS_len (n := x.d) h.2.2.2.1
    simp only [List.length_cons, List.length_append]; omega
  · rw [if_neg c]; simp
/-- A stack as it is between two parts. -/
def StOk (st : List Int) : Prop := (∀ y ∈ st, 0 ≤ y ∧ y ≤ 1000000) ∧ ∀ c r, st = c :: r → c ≠ 0
theorem closeW_ok : ∀ (s : List UInt8) (st : List Int), (∀ y ∈ st, 0 ≤ y ∧ y ≤ 1000000) → StOk (closeW s st).2
  | s, [], h => ⟨h, fun c r e => by cases e⟩
  | s, c :: st, h => by
    rw [closeW]
    by_cases e : c = 0
    · rw [if_pos e]; exact closeW_ok _ st (fun y hy => h y (List.mem_cons_of_mem _ hy))
    · rw [if_neg e]; exact ⟨h, fun c' r e' => by cases e'; exact e⟩
theorem decTop_ok {st : List Int} (h : StOk st) : ∀ y ∈ decTop st, 0 ≤ y ∧ y ≤ 1000000 := by
  cases st with
  | nil => intro y hy; cases hy
  | cons c r =>
    intro y hy
    simp only [decTop, List.mem_cons] at hy
    rcases hy with rfl | hy
    · have h1 := h.1 c (by simp); have h2 := h.2 c r rfl; omega
    · exact h.1 y (List.mem_cons_of_mem _ hy)
theorem decTop_len (st : List Int) : (decTop st).length = st.length := by cases st <;> rfl
theorem partW_ok {a : List UInt8 × List Int} {x : Prt} (h : StOk a.2) (hx : 0 ≤ x.kids ∧ x.kids ≤ 1000000) : StOk (partW a x).2 := by
  refine closeW_ok _ _ (fun y hy => ?_)
  simp only [List.mem_cons] at hy
  rcases hy with rfl | hy
  · exact hx
  · exact decTop_ok h y hy
theorem partW_len {a : List UInt8 × List Int} {x : Prt} (hx : PrtW x) : (partW a x).1.length + (partW a x).2.length ≤ a.1.length + a.2.length + 100 := by
  unfold partW
  rw [closeW_len]
  have h1 := numsS_len hx
  have h2 := wordK_len x.kind
  simp only [List.length_append, List.length_cons, headS, decTop_len]; omega
theorem partsW_ok : ∀ (l : List Prt) (a : List UInt8 × List Int), StOk a.2 → (∀ x ∈ l, PrtW x ∧ 0 ≤ x.kids ∧ x.kids ≤ 1000000) → StOk (partsW a l).2 ∧ (partsW a l).1.length + (partsW a l).2.length ≤ a.1.length + a.2.length + 100 * l.length
  | [], a, h, _ => ⟨h, by simp [partsW]⟩
  | x :: l, a, h, hx => by
    have h1 := hx x (by simp)
    have := partsW_ok l (partW a x) (partW_ok h h1.2) (fun y hy => hx y (List.mem_cons_of_mem _ hy))
    have h2 := partW_len (a := a) h1.1
    refine ⟨this.1, ?_⟩
    have h3 := this.2
    simp only [List.length_cons]
    show (partsW (partW a x) l).1.length + (partsW (partW a x) l).2.length ≤ _
    omega
theorem partsW_succ (a : List UInt8 × List Int) (l : List Prt) (k : Nat) (h : k < l.length) : partsW a (l.take (k + 1)) = partW (partsW a (l.take k)) (l.getD k ⟨0, 0, 0, 0, 0⟩) := by
  rw [List.take_add_one, partsW_app, List.getElem?_eq_getElem h, List.getD_eq_getElem?_getD, List.getElem?_eq_getElem h]
  rfl
end Go.Proofs.YtkjpmhmlakmglaaDoor

namespace Go.Proofs.YtkjpmhmlakmglaaDoor
open Go.RowKit Go.Shelf

def Tryd.iren : Go.Shelf.Ren := ⟨fun | 173 => 70 | 246 => 74 | 283 => 76 | 284 => 77 | 285 => 78 | 286 => 79 | 129 => 81 | 317 => 80 | 318 => 82 | 319 => 83 | 320 => 84 | 337 => 85 | 338 => 86 | n => n, fun | 2 => 2 | 3 => 3 | 9 => 9 | 4 => 4 | 171 => 128 | 0 => 0 | 53 => 129 | 37 => 106 | 5 => 5 | 173 => 132 | 212 => 136 | 51 => 34 | 20 => 20 | 213 => 137 | 46 => 92 | 232 => 140 | 233 => 141 | n => n, fun | 17 => 2 | 18 => 3 | 19 => 4 | n => n⟩
theorem Tryd.ilays : Go.Proofs.LaysM.n173 Tryd.prog Tryd.iren := {
  mixed := by kernel_rfl
  f129 := Tryd.func81.trans (congrArg some (by kernel_rfl))
  f173 := Tryd.func70.trans (congrArg some (by kernel_rfl))
  f246 := Tryd.func74.trans (congrArg some (by kernel_rfl))
  f283 := Tryd.func76.trans (congrArg some (by kernel_rfl))
  f284 := Tryd.func77.trans (congrArg some (by kernel_rfl))
  f285 := Tryd.func78.trans (congrArg some (by kernel_rfl))
  f286 := Tryd.func79.trans (congrArg some (by kernel_rfl))
  f317 := Tryd.func80.trans (congrArg some (by kernel_rfl))
  f318 := Tryd.func82.trans (congrArg some (by kernel_rfl))
  f319 := Tryd.func83.trans (congrArg some (by kernel_rfl))
  f320 := Tryd.func84.trans (congrArg some (by kernel_rfl))
  f337 := Tryd.func85.trans (congrArg some (by kernel_rfl))
  f338 := Tryd.func86.trans (congrArg some (by kernel_rfl))
  t0 := Tryd.underlying0
  a0 := Tryd.isAgg0
  z0 := Tryd.sizeOf0
  v0 := Tryd.zeroValue0
  t2 := Tryd.underlying2
  a2 := Tryd.isAgg2
  z2 := Tryd.sizeOf2
  v2 := Tryd.zeroValue2
  t3 := Tryd.underlying3
  a3 := Tryd.isAgg3
  z3 := Tryd.sizeOf3
  v3 := Tryd.zeroValue3
  t4 := Tryd.underlying4
  a4 := Tryd.isAgg4
  z4 := Tryd.sizeOf4
  v4 := Tryd.zeroValue4
  t5 := Tryd.underlying5
  a5 := Tryd.isAgg5
  z5 := Tryd.sizeOf5
  v5 := Tryd.zeroValue5
  t9 := Tryd.underlying9
  a9 := Tryd.isAgg9
  z9 := Tryd.sizeOf9
  v9 := Tryd.zeroValue9
  t20 := Tryd.underlying20
  a20 := Tryd.isAgg20
  z20 := Tryd.sizeOf20
  v20 := Tryd.zeroValue20
  t37 := Tryd.underlying106
  a37 := Tryd.isAgg106
  z37 := Tryd.sizeOf106
  v37 := Tryd.zeroValue106
  t46 := Tryd.underlying92
  a46 := Tryd.isAgg92
  z46 := Tryd.sizeOf92
  v46 := Tryd.zeroValue92
  t51 := Tryd.underlying34
  a51 := Tryd.isAgg34
  z51 := Tryd.sizeOf34
  v51 := Tryd.zeroValue34
  t53 := Tryd.underlying129
  a53 := Tryd.isAgg129
  z53 := Tryd.sizeOf129
  v53 := Tryd.zeroValue129
  t171 := Tryd.underlying128
  a171 := Tryd.isAgg128
  z171 := Tryd.sizeOf128
  v171 := Tryd.zeroValue128
  t173 := Tryd.underlying132
  a173 := Tryd.isAgg132
  z173 := Tryd.sizeOf132
  v173 := Tryd.zeroValue132
  t212 := Tryd.underlying136
  a212 := Tryd.isAgg136
  z212 := Tryd.sizeOf136
  v212 := Tryd.zeroValue136
  t213 := Tryd.underlying137
  a213 := Tryd.isAgg137
  z213 := Tryd.sizeOf137
  t232 := Tryd.underlying140
  a232 := Tryd.isAgg140
  z232 := Tryd.sizeOf140
  v232 := Tryd.zeroValue140
  t233 := Tryd.underlying141
  a233 := Tryd.isAgg141
  z233 := Tryd.sizeOf141
  v233 := Tryd.zeroValue141
  g17 := by kernel_rfl
  g18 := by kernel_rfl
  g19 := by kernel_rfl
  i0 := by kernel_rfl
  i2 := by kernel_rfl
  i3 := by kernel_rfl
  i4 := by kernel_rfl
  i5 := by kernel_rfl
  i9 := by kernel_rfl
  i20 := by kernel_rfl
  i37 := by kernel_rfl
  i46 := by kernel_rfl
  i51 := by kernel_rfl
  i53 := by kernel_rfl
  i171 := by kernel_rfl
  i173 := by kernel_rfl
  i212 := by kernel_rfl
  i232 := by kernel_rfl
  i233 := by kernel_rfl
  m17 := by kernel_rfl
  m18 := by kernel_rfl
  m19 := by kernel_rfl }
theorem decDigits_eq (m : Nat) : ∀ u, u ≤ m → Lib.decDigits u = digG u := by
  induction m with
  | zero => intro u hu; rw [Lib.decDigits, digG]; simp [show u < 10 by omega]
  | succ m ih =>
    intro u hu
    rw [Lib.decDigits, digG]
    by_cases c : u < 10
    · simp [c]
    · rw [dif_neg c, if_neg c, ih (u / 10) (by omega)]
theorem itoa_eq (n : Int) : Lib.itoa n = decS n := by
  unfold Lib.itoa decS
  by_cases c : n < 0
  · rw [if_pos c, if_pos c, decDigits_eq _ _ (Nat.le_refl _), show n.natAbs = (-n).toNat by omega]
  · rw [if_neg c, if_neg c, decDigits_eq _ _ (Nat.le_refl _)]
theorem itoa_c (n : Int) (h0 : -9223372036854775808 ≤ n) (h1 : n ≤ 9223372036854775807) (w : World) (hT : PowTab w) :
    Calls Tryd.prog 70 #[.int .i64 n, .int .i64 10] w fun e w' => e = .returned (strV (decS n)) ∧ Below w.heap.size w w' := by
  refine (Any.strconv_FormatInt_10 Tryd.ilays n h0 h1 w hT).mono ?_
  rintro e w' ⟨rfl, k, os, rfl⟩
  refine ⟨by rw [itoa_eq], ?_⟩
  exact ⟨rfl, rfl, rfl, by show w.heap.size ≤ (w.heap ++ os).size; simp, fun k hk => by show (w.heap ++ os)[k]? = _; rw [Array.getElem?_append_left hk]⟩
end Go.Proofs.YtkjpmhmlakmglaaDoor

namespace Go.Proofs.YtkjpmhmlakmglaaDoor
open Go.RowKit

/-- What is asked of one operation's outcome: its value and the world behind it. -/
def gives (P : Program) (G : Value → World → Prop) : Result Next → Prop
  | .ok (.value u) w' => G u w'
  | .ok .skip w' => G undef w'
  | .ok (.enter f args) w' => Calls P f args w' (fun e w'' => ∃ v, e = .returned v ∧ G v w'')
  | _ => False

theorem upon_of_gives {P : Program} {o : Oper} {a : Act} {next : Act → World → Prop} {Q : Exit → Act → World → Prop} {G : Value → World → Prop} {r : Result Next}
    (h : gives P G r) (hn : ∀ v w', G v w' → next (a.put o.dst v) w') : o.upon P a next Q r := by
  cases r with
  | ok n w' =>
    cases n <;> simp only [gives] at h <;> simp only [Oper.upon]
    case value u => exact hn _ _ h
    case skip => exact hn _ _ h
    case enter f args => exact h.mono fun e w'' ⟨v, he, hg⟩ => by subst he; exact hn _ _ hg
  | halt x w' => simp only [gives] at h

/-- Operation i waits for operation j. -/
def waits (ops : Array Oper) (i j : Nat) : Bool := match ops[i]? with
  | some o => o.after.any fun e => Region.binds .any e && e.on == j
  | none => false
def cover (ops : Array Oper) : Nat → Nat → Nat → Bool
  | 0, i, j => waits ops i j
  | d + 1, i, j => waits ops i j || (List.range i).any fun k => waits ops i k && cover ops d k j
/-- Most regions are shallow; the deep look is taken only where the other fails. -/
def coverX (ops : Array Oper) (i j : Nat) : Bool := cover ops 3 i j || cover ops 8 i j

/-- The frame in which the first n operations have left u. -/
def frm (l : List Oper) (u : Nat → Value) : Nat → Act → Act
  | k, a => match l with
    | [] => a
    | o :: r => frm r u (k + 1) (a.put o.dst (u k))

/-- The closed facts on a region: edges lead back; operands made in the region are waited for; no two write one slot; the tail waits for all ahead of it. -/
def jOk (l : List Oper) (n : Nat) (lax : List Nat) : Bool :=
  Region.noSelect l.toArray &&
  ((List.range l.length).all fun i => match l[i]? with
    | some o => o.after.all fun e => !Region.binds .any e || decide (e.on < i)
    | none => true) &&
  ((List.range n).all fun i => match l[i]? with
    | some o => (List.range n).all fun j => match l[j]? with
      | some p => match p.dst with
        | some t => (!(o.looksAt l.toArray).contains t || waits l.toArray i j) && (i == j || o.dst != some t)
        | none => true
      | none => true
    | none => true) &&
  ((List.range l.length).all fun i => decide (i < n) || (List.range i).all fun j => lax.contains j || coverX l.toArray i j) &&
  (lax.all fun i => decide (i < n)) &&
  (lax.all fun i => match l[i]? with
    | some o => (List.range l.length).all fun j => match l[j]? with
      | some p => j == i || (decide (j < n) && !lax.contains j) || waits l.toArray j i || o.apart l.toArray p
      | none => true
    | none => true)

structure Shut (ops : Array Oper) (listed : Array Bool) : Prop where
  size : listed.size = ops.size
  deps : ∀ i o, ops[i]? = some o → listed.getD i false = true → ∀ e ∈ o.after, Region.binds .any e = true → listed.getD e.on false = true

theorem waits_listed {ops : Array Oper} {listed : Array Bool} {i j : Nat} {o : Oper} (ho : ops[i]? = some o)
    (hd : ∀ e ∈ o.after, Region.binds .any e = true → listed.getD e.on false = true) (h : waits ops i j = true) : listed.getD j false = true := by
  unfold waits at h
  rw [ho] at h
  obtain ⟨e, he, hb⟩ := Array.any_eq_true'.1 h
  simp only [Bool.and_eq_true, beq_iff_eq] at hb
  exact hb.2 ▸ hd e he hb.1

theorem cover_listed {ops : Array Oper} {listed : Array Bool} (hs : Shut ops listed) : ∀ (d i j : Nat) (o : Oper), ops[i]? = some o →
    (∀ e ∈ o.after, Region.binds .any e = true → listed.getD e.on false = true) → cover ops d i j = true → listed.getD j false = true := by
  intro d
  induction d with
  | zero => intro i j o ho hd h; exact waits_listed ho hd h
  | succ d ih =>
    intro i j o ho hd h
    simp only [cover, Bool.or_eq_true, List.any_eq_true, Bool.and_eq_true] at h
    rcases h with h | ⟨k, _, hk, hc⟩
    · exact waits_listed ho hd h
    · have hkl := waits_listed ho hd hk
      cases hok : ops[k]? with
      | none =>
        have hlt : ¬ k < ops.size := by intro hlt; rw [Array.getElem?_eq_getElem hlt] at hok; cases hok
        rw [← hs.size] at hlt
        simp [Array.getElem?_eq_none (Nat.not_lt.1 hlt)] at hkl
      | some ok => exact ih k j ok hok (hs.deps k ok hok hkl) hc

theorem coverX_listed {ops : Array Oper} {listed : Array Bool} (hs : Shut ops listed) (i j : Nat) (o : Oper) (ho : ops[i]? = some o)
    (hd : ∀ e ∈ o.after, Region.binds .any e = true → listed.getD e.on false = true) (h : coverX ops i j = true) : listed.getD j false = true := by
  unfold coverX at h
  rw [Bool.or_eq_true] at h
  rcases h with h | h
  · exact cover_listed hs 3 i j o ho hd h
  · exact cover_listed hs 8 i j o ho hd h

theorem getD_flip {x : Array Bool} {j : Nat} (h : j < x.size) (d e : Bool) : x.getD j d = x.getD j e := by simp [h]

/-- The tail: one operation behind the other. -/
theorem tail_any {P : Program} {l : List Oper} {n : Nat} {Q : Exit → Act → World → Prop}
    (hback : ∀ i o, l[i]? = some o → ∀ e ∈ o.after, Region.binds .any e = true → e.on < i)
    (hok : ∀ i, n ≤ i → i < l.length → ∀ j, n ≤ j → j < i → coverX l.toArray i j = true) :
    ∀ (fuel k : Nat) (listed : Array Bool) (a : Act) (w : World), n ≤ k → k ≤ l.length → l.length ≤ k + fuel → Shut l.toArray listed →
      (∀ j, j < l.length → listed.getD j false = decide (j < k)) → wpList P l.toArray Q (l.drop k) a w → wpAny P .any l.toArray Q fuel listed a w := by
  have done : ∀ (k : Nat) (listed : Array Bool), l.length ≤ k → Shut l.toArray listed → (∀ j, j < l.length → listed.getD j false = decide (j < k)) → Region.ready .any l.toArray listed = [] := by
    intro k listed hk hs hl
    apply List.eq_nil_iff_forall_not_mem.2
    intro j hj
    obtain ⟨h0, o, ho, _⟩ := mem_ready.1 hj
    have hjl : j < l.length := by
      rcases Nat.lt_or_ge j l.length with h | h
      · exact h
      · simp [List.getElem?_eq_none h] at ho
    have := hl j hjl
    rw [getD_flip (by rw [hs.size]; simp; exact hjl) false true, h0] at this
    simp at this; omega
  intro fuel
  induction fuel with
  | zero =>
    intro k listed a w _ hk1 hk2 hs hl h
    have hk : k = l.length := by omega
    subst hk
    rw [List.drop_length] at h
    exact ⟨done _ _ (Nat.le_refl _) hs hl, h⟩
  | succ fuel ih =>
    intro k listed a w hnk hk1 hk2 hs hl h
    rcases Nat.lt_or_ge k l.length with hlt | hge
    · have hok' : l[k]? = some l[k] := List.getElem?_eq_getElem hlt
      have hka : l.toArray[k]? = some l[k] := by simp
      rw [List.drop_eq_getElem_cons hlt] at h
      have hdeps : ∀ e ∈ l[k].after, Region.binds .any e = true → listed.getD e.on false = true := fun e he hb => by
        have := hback k _ hok' e he hb
        rw [hl e.on (by omega)]; simpa using this
      refine ⟨fun h0 => ?_, fun j hj => ?_⟩
      · exfalso
        have : k ∈ Region.ready .any l.toArray listed := by
          refine mem_ready.2 ⟨?_, l[k], hka, hdeps⟩
          rw [getD_flip (by rw [hs.size]; simp; exact hlt) true false, hl k hlt]; simp
        rw [h0] at this; cases this
      · obtain ⟨h0, o, ho, hd⟩ := mem_ready.1 hj
        have hjl : j < l.length := by
          rcases Nat.lt_or_ge j l.length with h | h
          · exact h
          · simp [List.getElem?_eq_none h] at ho
        have hjk : k ≤ j := by
          have := hl j hjl
          rw [getD_flip (by rw [hs.size]; simp; exact hjl) false true, h0] at this
          simp at this; exact this
        have hej : j = k := by
          rcases Nat.lt_or_ge k j with hlt' | hge'
          · have := coverX_listed hs j k o ho hd (hok j (by omega) hjl k hnk hlt')
            rw [hl k hlt] at this; simp at this
          · omega
        subst hej
        have hwp : wpOp P l.toArray Q j (wpList P l.toArray Q (l.drop (j + 1))) a w := by
          unfold wpOp; simp only [hka]; exact h
        refine wpOp_mono (fun a' w' h' => ih (j + 1) _ a' w' (by omega) (by omega) (by omega) ⟨by simpa using hs.size, ?_⟩ ?_ h') hwp
        · intro i oi hi hli e he hb
          by_cases hij : i = j
          · subst hij
            rw [hka] at hi; cases hi
            exact getD_set_true (hdeps e he hb)
          · rw [getD_set_ne false (Ne.symm hij)] at hli
            exact getD_set_true (hs.deps i oi hi hli e he hb)
        · intro i hi
          by_cases hij : i = j
          · subst hij
            have : i < listed.size := by rw [hs.size]; simpa using hi
            simp [this]
          · rw [getD_set_ne false (Ne.symm hij), hl i hi, decide_eq_decide]; omega
    · have hk : k = l.length := by omega
      subst hk
      rw [List.drop_length] at h
      exact wpAny_done (done _ _ (Nat.le_refl _) hs hl) h _

theorem frm_spec (u : Nat → Value) : ∀ (l : List Oper) (k : Nat) (a : Act), (frm l u k a).tmps.size = a.tmps.size ∧ (frm l u k a).defers = a.defers ∧
    (∀ (t : Tmp), (∀ (j : Nat) (o : Oper), l[j]? = some o → o.dst ≠ some t) → (frm l u k a).tmps[t]? = a.tmps[t]?) ∧
    (∀ (j : Nat) (o : Oper) (t : Tmp), l[j]? = some o → o.dst = some t → (∀ (i : Nat) (p : Oper), l[i]? = some p → i ≠ j → p.dst ≠ some t) → t < a.tmps.size → (frm l u k a).tmps[t]? = some (u (k + j))) := by
  intro l
  induction l with
  | nil => intro k a; exact ⟨rfl, rfl, fun _ _ => rfl, fun j o t h => by simp at h⟩
  | cons q r ih =>
    intro k a
    obtain ⟨h1, h2, h3, h4⟩ := ih (k + 1) (a.put q.dst (u k))
    have hs : (a.put q.dst (u k)).tmps.size = a.tmps.size := by cases q.dst <;> simp [Act.put]
    have hd : (a.put q.dst (u k)).defers = a.defers := by cases q.dst <;> simp [Act.put]
    refine ⟨by rw [← hs]; exact h1, by rw [← hd]; exact h2, fun t ht => ?_, fun j o t hj hdst huniq hlt => ?_⟩
    · have e := h3 t (fun j o hj => ht (j + 1) o (by simpa using hj))
      show (frm r u (k + 1) (a.put q.dst (u k))).tmps[t]? = _
      rw [e]
      have hq := ht 0 q (by simp)
      cases hqd : q.dst with
      | none => rfl
      | some d =>
        have hne : d ≠ t := fun e => hq (by rw [hqd, e])
        simp [Act.put, Array.getElem?_setIfInBounds_ne hne]
    · show (frm r u (k + 1) (a.put q.dst (u k))).tmps[t]? = _
      cases j with
      | zero =>
        simp at hj; subst hj
        rw [h3 t (fun i p hi => huniq (i + 1) p (by simpa using hi) (by omega)), hdst]
        simp [Act.put, hlt]
      | succ j =>
        have := h4 j o t (by simpa using hj) hdst (fun i p hi hne => huniq (i + 1) p (by simpa using hi) (by omega)) (by rw [hs]; exact hlt)
        rw [this]; congr 2; omega

/-- What holds while the first n operations run, in whatever order. -/
structure JInv (l : List Oper) (n : Nat) (a0 : Act) (w0 : World) (R : Nat → Value → World → Prop) (fr : Nat → Bool) (u : Nat → Value) (listed : Array Bool) (a : Act) (w : World) : Prop where
  shut : Shut l.toArray listed
  notail : ∀ j, n ≤ j → j < l.length → listed.getD j false = false
  size : a.tmps.size = a0.tmps.size
  defers : a.defers = a0.defers
  mine : ∀ (j : Nat) (o : Oper) (t : Tmp), j < n → l[j]? = some o → listed.getD j false = true → o.dst = some t → t < a0.tmps.size → a.tmps[t]? = some (u j)
  rest : ∀ (t : Tmp), (∀ (j : Nat) (o : Oper), j < n → l[j]? = some o → listed.getD j false = true → o.dst ≠ some t) → a.tmps[t]? = a0.tmps[t]?
  past : Below w0.heap.size w0 w
  facts : ∀ j, j < n → listed.getD j false = true → R j (u j) w
  fresh : ∀ j, j < n → listed.getD j false = true → fr j = true → ∃ p, u j = .pointer (some ⟨p, 0, none⟩) ∧ p < w.heap.size
  apart : ∀ i j, i < n → j < n → i ≠ j → listed.getD i false = true → listed.getD j false = true → fr i = true → fr j = true → u i ≠ u j

/-- What is asked of operation i: in the frame in which all the first n have left u, in a world that has only grown, knowing what it waits for. -/
def JStep (P : Program) (l : List Oper) (n : Nat) (a0 : Act) (w0 : World) (R : Nat → Value → World → Prop) (fr : Nat → Bool) (i : Nat) (o : Oper) : Prop :=
  ∀ (u : Nat → Value) (x : Past w0), (∀ j, j < n → waits l.toArray i j = true → R j (u j) x.1) →
    if Region.wanted o (yielded l.toArray (frm (l.take n) u 0 a0).tmps) then
      gives P (fun v w' => Below x.1.heap.size x.1 w' ∧ R i v w' ∧ (fr i = true → ∃ p, v = .pointer (some ⟨p, 0, none⟩) ∧ x.1.heap.size ≤ p ∧ p < w'.heap.size)) ((execOp (frm (l.take n) u 0 a0).eval o).run P x.1)
    else R i undef x.1 ∧ fr i = false

structure JOk (l : List Oper) (n : Nat) (lax : List Nat) : Prop where
  sel : Region.noSelect l.toArray = true
  back : ∀ (i : Nat) (o : Oper), l[i]? = some o → ∀ e ∈ o.after, Region.binds .any e = true → e.on < i
  own : ∀ (i : Nat) (o : Oper) (j : Nat) (p : Oper) (t : Tmp), i < n → j < n → l[i]? = some o → l[j]? = some p → p.dst = some t → t ∈ o.looksAt l.toArray → waits l.toArray i j = true
  one : ∀ (i : Nat) (o : Oper) (j : Nat) (p : Oper) (t : Tmp), i < n → j < n → l[i]? = some o → l[j]? = some p → p.dst = some t → o.dst = some t → i = j
  tail : ∀ i, n ≤ i → i < l.length → ∀ j, j < i → j ∉ lax → coverX l.toArray i j = true
  laxLt : ∀ i, i ∈ lax → i < n
  laxA : ∀ (i j : Nat) (o p : Oper), i ∈ lax → l[i]? = some o → l[j]? = some p → j ≠ i → (n ≤ j ∨ j ∈ lax) → waits l.toArray j i = true ∨ o.apart l.toArray p = true

theorem jOk_spec {l : List Oper} {n : Nat} {lax : List Nat} (h : jOk l n lax = true) : JOk l n lax := by
  simp only [jOk, Bool.and_eq_true, List.all_eq_true, List.mem_range] at h
  obtain ⟨⟨⟨⟨⟨h1, h2⟩, h3⟩, h4⟩, h5⟩, h6⟩ := h
  refine ⟨h1, ?_, ?_, ?_, ?_, fun i hi => by simpa using h5 i hi, ?_⟩
  rotate_left 4
  · intro i j o p hi ho hp hne hj
    have := h6 i hi
    rw [ho] at this
    have := List.all_eq_true.1 this j (List.mem_range.2 (List.getElem?_eq_some_iff.1 hp).1)
    rw [hp] at this
    simp only [Bool.or_eq_true, Bool.and_eq_true, decide_eq_true_eq, beq_iff_eq, Bool.not_eq_true'] at this
    rcases this with ((h | h) | h) | h
    · exact absurd h hne
    · exfalso
      rcases hj with hj | hj
      · omega
      · have := h.2; simp [hj] at this
    · exact .inl h
    · exact .inr h
  · intro i o ho e he hb
    have := h2 i (List.getElem?_eq_some_iff.1 ho).1
    rw [ho] at this
    have := Array.all_eq_true_iff_forall_mem.1 this e he
    simpa [hb] using this
  · intro i o j p t hi hj ho hp ht hl
    have := h3 i hi
    rw [ho] at this
    have := List.all_eq_true.1 this j (List.mem_range.2 hj)
    rw [hp] at this
    simp only [ht, Bool.and_eq_true, Bool.or_eq_true, Bool.not_eq_true'] at this
    rcases this.1 with h | h
    · exact absurd hl (by simpa using h)
    · exact h
  · intro i o j p t hi hj ho hp ht hd
    have := h3 i hi
    rw [ho] at this
    have := List.all_eq_true.1 this j (List.mem_range.2 hj)
    rw [hp] at this
    simp only [ht, Bool.and_eq_true, Bool.or_eq_true] at this
    rcases this.2 with h | h
    · simpa using h
    · rw [hd] at h; simp at h
  · intro i hi hl j hj hjx
    have := h4 i hl
    simp only [Bool.or_eq_true, decide_eq_true_eq, List.all_eq_true, List.mem_range] at this
    rcases this with h | h
    · omega
    · rcases h j hj with h | h
      · exact absurd (by simpa using h) hjx
      · exact h

section
variable {P : Program} {l : List Oper} {n : Nat} {lax : List Nat} {a0 : Act} {w0 : World} {R : Nat → Value → World → Prop} {fr : Nat → Bool}

/-- What an operation that is ready looks at is as it will be when all have run. -/
theorem look_same (_hn : n ≤ l.length) (hok : JOk l n lax) {u : Nat → Value} {listed : Array Bool} {a : Act} {w : World} (hI : JInv l n a0 w0 R fr u listed a w)
    {i : Nat} {o : Oper} (hi : i < n) (ho : l[i]? = some o) (hd : ∀ e ∈ o.after, Region.binds .any e = true → listed.getD e.on false = true) :
    ∀ t, t ∈ o.looksAt l.toArray → a.tmps[t]? = (frm (l.take n) u 0 a0).tmps[t]? := by
  intro t ht
  obtain ⟨f1, _, f3, f4⟩ := frm_spec u (l.take n) 0 a0
  by_cases h : ∃ (j : Nat) (p : Oper), j < n ∧ l[j]? = some p ∧ p.dst = some t
  · obtain ⟨j, p, hj, hp, hpt⟩ := h
    have hw := hok.own i o j p t hi hj ho hp hpt ht
    have hl := waits_listed (ops := l.toArray) (i := i) (by simpa using ho) hd hw
    rcases Nat.lt_or_ge t a0.tmps.size with hlt | hge
    · rw [hI.mine j p t hj hp hl hpt hlt, f4 j p t (by rw [List.getElem?_take, if_pos hj]; exact hp) hpt (fun k q hq hne => ?_) hlt]
      · simp
      · intro hqt
        rw [List.getElem?_take] at hq
        split at hq
        · rename_i hk; exact hne (hok.one k q j p t hk hj hq hp hpt hqt)
        · cases hq
    · rw [Array.getElem?_eq_none (by rw [hI.size]; exact hge), Array.getElem?_eq_none (by rw [f1]; exact hge)]
  · rw [hI.rest t (fun j p hj hp _ hpt => h ⟨j, p, hj, hp, hpt⟩), f3 t (fun j p hp hpt => ?_)]
    rw [List.getElem?_take] at hp
    split at hp
    · rename_i hk; exact h ⟨j, p, hk, hp, hpt⟩
    · cases hp

theorem exec_same {a a' : Act} {o : Oper} {ops : Array Oper} (hs : ∀ cs b, o.op ≠ .select cs b) (h : ∀ t, t ∈ o.looksAt ops → a.tmps[t]? = a'.tmps[t]?) : execOp a.eval o = execOp a'.eval o := by
  refine execOp_congr o hs fun x hx => ?_
  cases x with
  | tmp t =>
    have := h t (List.mem_append_left _ (List.mem_filterMap.2 ⟨.tmp t, by simpa using hx, rfl⟩))
    simp only [Act.eval, Array.getD_eq_getD_getElem?, this]
  | const v => rfl
  | global g => rfl
  | func f => rfl

theorem wanted_same {a a' : Act} {o : Oper} {ops : Array Oper} (h : ∀ t, t ∈ o.looksAt ops → a.tmps[t]? = a'.tmps[t]?) :
    Region.wanted o (yielded ops a.tmps) = Region.wanted o (yielded ops a'.tmps) := by
  unfold Region.wanted
  cases hg : o.guard with
  | none => rfl
  | some gw =>
    obtain ⟨g, want⟩ := gw
    have hy : yielded ops a.tmps g = yielded ops a'.tmps g := by
      unfold yielded
      cases ht : (ops[g]?).bind (·.dst) with
      | none => rfl
      | some t => simp only [Option.bind_some, h t (List.mem_append_right _ (by simp [hg, ht]))]
    simp only [hy]

/-- One operation has run: what holds then. -/
theorem JInv.next (hok : JOk l n lax) (hst : ∀ i v w w', R i v w → Below w.heap.size w w' → R i v w') {u : Nat → Value} {listed : Array Bool} {a : Act} {w : World} (hI : JInv l n a0 w0 R fr u listed a w)
    {i : Nat} {o : Oper} (hi : i < n) (hn : n ≤ l.length) (ho : l[i]? = some o) (hun : listed.getD i false = false) (hd : ∀ e ∈ o.after, Region.binds .any e = true → listed.getD e.on false = true)
    {v : Value} {w' : World} (hb : Below w.heap.size w w') (hR : R i v w') (hf : fr i = true → ∃ p, v = .pointer (some ⟨p, 0, none⟩) ∧ w.heap.size ≤ p ∧ p < w'.heap.size) :
    JInv l n a0 w0 R fr (fun j => if j = i then v else u j) (listed.setIfInBounds i true) (a.put o.dst v) w' := by
  have hsz : (a.put o.dst v).tmps.size = a.tmps.size := by cases o.dst <;> simp [Act.put]
  have hil : i < listed.size := by rw [hI.shut.size]; simp; omega
  have hne : ∀ j, j ≠ i → (listed.setIfInBounds i true).getD j false = listed.getD j false := fun j h => getD_set_ne false (Ne.symm h)
  refine ⟨⟨by simpa using hI.shut.size, ?_⟩, ?_, by rw [hsz]; exact hI.size, ?_, ?_, ?_, ?_, ?_, ?_, ?_⟩
  · intro k ok hk hkl e he hbd
    by_cases hki : k = i
    · subst hki
      have : ok = o := by have : l.toArray[k]? = some o := by simpa using ho
                          rw [this] at hk; exact (Option.some.inj hk).symm
      subst this
      exact getD_set_true (hd e he hbd)
    · rw [hne k hki] at hkl
      exact getD_set_true (hI.shut.deps k ok hk hkl e he hbd)
  · intro j hj hjl
    rw [hne j (by omega)]; exact hI.notail j hj hjl
  · have : (a.put o.dst v).defers = a.defers := by cases o.dst <;> rfl
    rw [this]; exact hI.defers
  · intro j p t hj hp hl hpt hlt
    by_cases hji : j = i
    · subst hji
      have : p = o := by rw [ho] at hp; exact (Option.some.inj hp).symm
      subst this
      simp [Act.put, hpt, hI.size, hlt]
    · rw [hne j hji] at hl
      have hdst : o.dst ≠ some t := fun h => hji (hok.one j p i o t hj hi hp ho h hpt)
      have : (a.put o.dst v).tmps[t]? = a.tmps[t]? := by
        cases hod : o.dst with
        | none => rfl
        | some d => have : d ≠ t := fun e => hdst (by rw [hod, e])
                    simp [Act.put, Array.getElem?_setIfInBounds_ne this]
      rw [this, if_neg hji]
      exact hI.mine j p t hj hp hl hpt hlt
  · intro t ht
    have hdst : o.dst ≠ some t := ht i o hi ho (by simp [hil])
    have : (a.put o.dst v).tmps[t]? = a.tmps[t]? := by
      cases hod : o.dst with
      | none => rfl
      | some d => have : d ≠ t := fun e => hdst (by rw [hod, e])
                  simp [Act.put, Array.getElem?_setIfInBounds_ne this]
    rw [this]
    exact hI.rest t fun j p hj hp hl => ht j p hj hp (getD_set_true hl)
  · exact hI.past.trans (hb.mono hI.past.size)
  · intro j hj hl
    by_cases hji : j = i
    · subst hji; simpa using hR
    · rw [hne j hji] at hl
      simp only [if_neg hji]
      exact hst _ _ _ _ (hI.facts j hj hl) hb
  · intro j hj hl hfj
    by_cases hji : j = i
    · subst hji
      obtain ⟨p, h1, _, h3⟩ := hf hfj
      exact ⟨p, by simpa using h1, h3⟩
    · rw [hne j hji] at hl
      obtain ⟨p, h1, h2⟩ := hI.fresh j hj hl hfj
      exact ⟨p, by simpa [if_neg hji] using h1, Nat.lt_of_lt_of_le h2 hb.size⟩
  · intro j k hj hk hjk hjl hkl hfj hfk
    by_cases hji : j = i
    · subst hji
      rw [hne k (Ne.symm hjk)] at hkl
      obtain ⟨p, h1, h2, _⟩ := hf hfj
      obtain ⟨q, h3, h4⟩ := hI.fresh k hk hkl hfk
      simp only [if_true, if_neg (Ne.symm hjk), h1, h3]
      intro h; (simp at h <;> omega)
    · by_cases hki : k = i
      · subst hki
        rw [hne j hji] at hjl
        obtain ⟨p, h1, h2, _⟩ := hf hfk
        obtain ⟨q, h3, h4⟩ := hI.fresh j hj hjl hfj
        simp only [if_true, if_neg hji, h1, h3]
        intro h; (simp at h <;> omega)
      · rw [hne j hji] at hjl; rw [hne k hki] at hkl
        simp only [if_neg hji, if_neg hki]
        exact hI.apart j k hj hk hjk hjl hkl hfj hfk

/-- All of the first n operations have run: the frame is the whole one. -/
theorem JInv.whole (hok : JOk l n lax) {u : Nat → Value} {listed : Array Bool} {a : Act} {w : World} (hI : JInv l n a0 w0 R fr u listed a w) (_hn : n ≤ l.length)
    (hall : ∀ j, j < n → listed.getD j false = true) : a = frm (l.take n) u 0 a0 := by
  obtain ⟨f1, f2, f3, f4⟩ := frm_spec u (l.take n) 0 a0
  have htm : a.tmps = (frm (l.take n) u 0 a0).tmps := by
    apply Array.ext_getElem?
    intro t
    by_cases h : ∃ (j : Nat) (p : Oper), j < n ∧ l[j]? = some p ∧ p.dst = some t
    · obtain ⟨j, p, hj, hp, hpt⟩ := h
      rcases Nat.lt_or_ge t a0.tmps.size with hlt | hge
      · rw [hI.mine j p t hj hp (hall j hj) hpt hlt, f4 j p t (by rw [List.getElem?_take, if_pos hj]; exact hp) hpt (fun k q hq hne => ?_) hlt]
        · simp
        · intro hqt
          rw [List.getElem?_take] at hq
          split at hq
          · rename_i hk; exact hne (hok.one k q j p t hk hj hq hp hpt hqt)
          · cases hq
      · rw [Array.getElem?_eq_none (by rw [hI.size]; exact hge), Array.getElem?_eq_none (by rw [f1]; exact hge)]
    · rw [hI.rest t (fun j p hj hp _ hpt => h ⟨j, p, hj, hp, hpt⟩), f3 t (fun j p hp hpt => ?_)]
      rw [List.getElem?_take] at hp
      split at hp
      · rename_i hk; exact h ⟨j, p, hk, hp, hpt⟩
      · cases hp
  have hde : a.defers = (frm (l.take n) u 0 a0).defers := by rw [f2]; exact hI.defers
  cases a; cases hq : frm (l.take n) u 0 a0
  rw [hq] at htm hde
  simp only at htm hde
  rw [htm, hde]

def left (n : Nat) (listed : Array Bool) : Nat := ((List.range n).filter fun j => !listed.getD j false).length

theorem left_set {n i : Nat} {listed : Array Bool} (hi : i < n) (hil : i < listed.size) (hun : listed.getD i false = false) : left n (listed.setIfInBounds i true) + 1 ≤ left n listed := by
  unfold left
  have h1 : (List.range n).filter (fun j => !(listed.setIfInBounds i true).getD j false) = ((List.range n).filter fun j => !listed.getD j false).filter (fun j => j != i) := by
    rw [List.filter_filter]
    refine List.filter_congr fun j _ => ?_
    by_cases hji : j = i
    · subst hji; simp [hil]
    · rw [getD_set_ne false (Ne.symm hji)]; simp [hji]
  rw [h1]
  have hmem : i ∈ (List.range n).filter fun j => !listed.getD j false := by simp [List.mem_filter, hi]; simpa using hun
  have : (((List.range n).filter fun j => !listed.getD j false).filter (fun j => j != i)).length < ((List.range n).filter fun j => !listed.getD j false).length := by
    apply Nat.lt_of_not_le
    intro hle
    have := (List.filter_sublist (p := fun j => j != i) (l := (List.range n).filter fun j => !listed.getD j false)).eq_of_length_le hle
    rw [← this] at hmem
    simp at hmem
  omega

/-- What is asked besides of an operation that the tail need not wait for: it gives one value, in whatever world; and all that has not run is apart from it. -/
def JLax (P : Program) (l : List Oper) (n : Nat) (a0 : Act) (w0 : World) (R : Nat → Value → World → Prop) (fr : Nat → Bool) (Q : Exit → Act → World → Prop) (i : Nat) (o : Oper) : Prop :=
  fr i = false ∧
  (∀ c a w v, Q (.panic c) (a.put o.dst v) w → Q (.panic c) a w) ∧
  ∀ (u : Nat → Value) (x : Past w0), (∀ j, j < n → waits l.toArray i j = true → R j (u j) x.1) →
    Region.wanted o (yielded l.toArray (frm (l.take n) u 0 a0).tmps) = true ∧ ∃ v, R i v x.1 ∧ ∀ w, (execOp (frm (l.take n) u 0 a0).eval o).run P w = .ok (.value v) w

theorem prefix_any {Q : Exit → Act → World → Prop} (hn : n ≤ l.length) (hok : JOk l n lax) (hst : ∀ i v w w', R i v w → Below w.heap.size w w' → R i v w')
    (hstep : ∀ (i : Nat) (o : Oper), i < n → l[i]? = some o → JStep P l n a0 w0 R fr i o)
    (hlax : ∀ (i : Nat) (o : Oper), i ∈ lax → l[i]? = some o → JLax P l n a0 w0 R fr Q i o)
    (htail : ∀ (u : Nat → Value) (x : Past w0), (∀ i, i < n → R i (u i) x.1) → (∀ i j, i < n → j < n → i ≠ j → fr i = true → fr j = true → u i ≠ u j) → wpList P l.toArray Q (l.drop n) (frm (l.take n) u 0 a0) x.1) :
    ∀ (m fuel : Nat) (u : Nat → Value) (listed : Array Bool) (a : Act) (w : World), left n listed ≤ m → m + (l.length - n) ≤ fuel → JInv l n a0 w0 R fr u listed a w → wpAny P .any l.toArray Q fuel listed a w := by
  have ending : ∀ (fuel : Nat) (u : Nat → Value) (listed : Array Bool) (a : Act) (w : World), (l.length - n) ≤ fuel → JInv l n a0 w0 R fr u listed a w → (∀ j, j < n → listed.getD j false = true) → wpAny P .any l.toArray Q fuel listed a w := by
    intro fuel u listed a w hf hI hall
    have ha := hI.whole hok hn hall
    refine tail_any (n := n) hok.back (fun i h1 h2 j h3 h4 => hok.tail i h1 h2 j h4 (fun hx => by have := hok.laxLt j hx; omega)) fuel n listed a w (Nat.le_refl _) hn (by omega) hI.shut (fun j hj => ?_) ?_
    · by_cases h : j < n
      · rw [hall j h]; simp [h]
      · rw [hI.notail j (by omega) hj]; simp [h]
    · rw [ha]
      exact htail u ⟨w, hI.past⟩ (fun i hi => hI.facts i hi (hall i hi)) (fun i j hi hj hij h1 h2 => hI.apart i j hi hj hij (hall i hi) (hall j hj) h1 h2)
  intro m
  induction m with
  | zero =>
    intro fuel u listed a w hm hf hI
    refine ending fuel u listed a w (by omega) hI (fun j hj => ?_)
    cases h : listed.getD j false with
    | true => rfl
    | false =>
      exfalso
      have hmem : j ∈ (List.range n).filter fun j => !listed.getD j false := by simp [List.mem_filter, hj]; simpa using h
      have : (List.range n).filter (fun j => !listed.getD j false) = [] := List.length_eq_zero_iff.1 (by unfold left at hm; omega)
      rw [this] at hmem; cases hmem
  | succ m ih =>
    intro fuel u listed a w hm hf hI
    have hlt : ∀ j, j < n → j < listed.size := fun j hj => by rw [hI.shut.size]; simp; omega
    by_cases hall : ∀ j, j < n → listed.getD j false = true
    · exact ending fuel u listed a w (by omega) hI hall
    obtain ⟨fuel, rfl⟩ : ∃ f, fuel = f + 1 := ⟨fuel - 1, by omega⟩
    -- the least operation that has not run is ready
    have hex : ∃ j, j < n ∧ listed.getD j false = false ∧ ∀ k, k < j → listed.getD k false = true := by
      apply Classical.byContradiction
      intro hno
      refine hall fun j => ?_
      induction j using Nat.strongRecOn with
      | ind j ihj =>
        intro hj
        cases h : listed.getD j false with
        | true => rfl
        | false => exact absurd ⟨j, hj, h, fun k hk => ihj k hk (by omega)⟩ hno
    obtain ⟨j0, hj0, hj0l, hj0k⟩ := hex
    have hj0o : l[j0]? = some (l[j0]'(by omega)) := List.getElem?_eq_getElem (by omega)
    have hd0 : ∀ e ∈ (l[j0]'(by omega)).after, Region.binds .any e = true → listed.getD e.on false = true := fun e he hb => hj0k _ (hok.back j0 _ hj0o e he hb)
    have hr0 : j0 ∈ Region.ready .any l.toArray listed := mem_ready.2 ⟨by rw [getD_flip (hlt j0 hj0) true false]; exact hj0l, _, by rw [List.getElem?_toArray]; exact hj0o, hd0⟩
    by_cases hnz : ∀ j, j < n → j ∉ lax → listed.getD j false = true
    · -- what is left of the first n need not be waited for: it may be taken first
      have hx : j0 ∈ lax := Classical.byContradiction fun h => by rw [hnz j0 hj0 h] at hj0l; cases hj0l
      obtain ⟨h1, h3, h4⟩ := hlax j0 _ hx hj0o
      obtain ⟨h5, v, h6, h7⟩ := h4 u ⟨w, hI.past⟩ (fun j hj hw => hI.facts j hj (waits_listed (by rw [List.getElem?_toArray]; exact hj0o) hd0 hw))
      have hlook := look_same hn hok hI hj0 hj0o hd0
      have hsel := fun cs b => Region.noSelect_spec hok.sel j0 _ cs b (by rw [List.getElem?_toArray]; exact hj0o)
      refine wpAny_first (i := j0) (v := v) (by rw [List.getElem?_toArray]; exact hj0o) (Region.noSelect_spec hok.sel) (fun c a w => h3 c a w v) fuel listed a w ?_ hr0 ?_ ?_
      · intro j oj hoj hne hun hno
        rw [List.getElem?_toArray] at hoj
        have hj : n ≤ j ∨ j ∈ lax := by
          rcases Nat.lt_or_ge j n with h | h
          · right
            exact Classical.byContradiction fun hx' => by
              have := hnz j h hx'
              rw [getD_flip (hlt j h) true false, this] at hun; cases hun
          · exact .inl h
        rcases hok.laxA j0 j _ oj hx hj0o hoj hne hj with h | h
        · exfalso
          unfold waits at h
          rw [List.getElem?_toArray, hoj] at h
          obtain ⟨e, he, hb⟩ := Array.any_eq_true'.1 h
          simp only [Bool.and_eq_true, beq_iff_eq] at hb
          exact hno e he hb.1 hb.2
        · exact h
      · refine .inl ⟨by rw [wanted_same hlook]; exact h5, fun w' => ?_⟩
        rw [exec_same hsel hlook]; exact h7 w'
      · exact ih fuel _ _ _ _ (by have := left_set hj0 (hlt j0 hj0) hj0l; omega) (by omega) (hI.next hok hst hj0 hn hj0o hj0l hd0 (Below.refl _ _) h6 (fun h => by rw [h1] at h; cases h))
    · refine ⟨fun h0 => (by rw [h0] at hr0; cases hr0), fun i hi => ?_⟩
      obtain ⟨hun, o, ho, hd⟩ := mem_ready.1 hi
      have hil : i < l.length := by
        rcases Nat.lt_or_ge i l.length with h | h
        · exact h
        · simp [List.getElem?_eq_none h] at ho
      have hol : l[i]? = some o := by simpa using ho
      have hun' : listed.getD i false = false := by rw [← getD_flip (by rw [hI.shut.size]; simp; exact hil) true false]; exact hun
      have hin : i < n := by
        rcases Nat.lt_or_ge i n with h | h
        · exact h
        · exfalso
          exact hnz fun j hj hx => coverX_listed hI.shut i j o ho hd (hok.tail i h hil j (by omega) hx)
      have hlook := look_same hn hok hI hin hol hd
      have hs := hstep i o hin hol u ⟨w, hI.past⟩ (fun j hj hw => hI.facts j hj (waits_listed ho hd hw))
      have hsel := fun cs b => Region.noSelect_spec hok.sel i o cs b ho
      unfold wpOp
      simp only [ho]
      rw [wanted_same hlook]
      have go : ∀ v w', Below w.heap.size w w' → R i v w' → (fr i = true → ∃ p, v = .pointer (some ⟨p, 0, none⟩) ∧ w.heap.size ≤ p ∧ p < w'.heap.size) →
          wpAny P .any l.toArray Q fuel (listed.setIfInBounds i true) (a.put o.dst v) w' := fun v w' h1 h2 h3 =>
        ih fuel _ _ _ _ (by have := left_set hin (hlt i hin) hun'; omega) (by omega) (hI.next hok hst hin hn hol hun' hd h1 h2 h3)
      split
      · rename_i hwant
        rw [if_pos hwant] at hs
        refine .inl ?_
        unfold Oper.wp
        rw [exec_same hsel hlook]
        exact upon_of_gives hs fun v w' ⟨h1, h2, h3⟩ => go v w' h1 h2 h3
      · rename_i hwant
        rw [if_neg hwant] at hs
        exact go undef w (Below.refl _ _) hs.1 (fun h => by rw [hs.2] at h; cases h)

/-- A REGION THAT DRAWS ITS ORDER: the first n operations in whatever order, each by what it waits for; then the tail. -/
theorem wp_region_J {id : Nat} {Q : Exit → Act → World → Prop} (n : Nat) (lax : List Nat) (R : Nat → Value → World → Prop) (fr : Nat → Bool) (hm : P.follows .mixedOrders = true) (hn : n ≤ l.length) (hok : jOk l n lax = true)
    (hst : ∀ i v w w', R i v w → Below w.heap.size w w' → R i v w')
    (hstep : ∀ (i : Nat) (o : Oper), i < n → l[i]? = some o → JStep P l n a0 w0 R fr i o)
    (hlax : ∀ (i : Nat) (o : Oper), i ∈ lax → l[i]? = some o → JLax P l n a0 w0 R fr Q i o)
    (htail : ∀ (u : Nat → Value) (x : Past w0), (∀ i, i < n → R i (u i) x.1) → (∀ i j, i < n → j < n → i ≠ j → fr i = true → fr j = true → u i ≠ u j) → wpList P l.toArray Q (l.drop n) (frm (l.take n) u 0 a0) x.1) :
    (Code.region id l.toArray true).wp P Q a0 w0 := by
  have hok' := jOk_spec hok
  refine wp_region_any hm ?_
  have hun : ∀ j, (Array.replicate l.toArray.size false).getD j false = false := fun j => by
    simp only [Array.getD_eq_getD_getElem?, Array.getElem?_replicate]; split <;> rfl
  refine prefix_any hn hok' hst hstep hlax htail n l.toArray.size (fun _ => undef) _ a0 _ ?_ (by simp; omega) ?_
  · unfold left
    exact Nat.le_trans (List.length_filter_le _ _) (by simp)
  · have no : ∀ (j : Nat) (q : Prop), (Array.replicate l.toArray.size false).getD j false = true → q := fun j q h => by rw [hun] at h; cases h
    exact {
      shut := ⟨by simp, fun i o _ h => no i _ h⟩
      notail := fun j _ _ => hun j
      size := rfl
      defers := rfl
      mine := fun j o t _ _ h => no j _ h
      rest := fun _ _ => rfl
      past := (Below.refl _ _).drew
      facts := fun j _ h => no j _ h
      fresh := fun j _ h => no j _ h
      apart := fun i j _ _ _ h => no i _ h }

end

/-- The value is known; it is a new block's address, and the block is known. -/
def detR (v0 : Value) : Value → World → Prop := fun v _ => v = v0
def newR (B : Nat) (cs : Array Value) (t : TypeId) : Value → World → Prop := fun v w => ∃ p, v = .pointer (some ⟨p, 0, none⟩) ∧ B ≤ p ∧ Blk w p cs t
/-- The value is a slice over the whole of a new block. -/
def sliR (B n : Nat) (cs : Array Value) (t : TypeId) : Value → World → Prop := fun v w => ∃ p, v = .slice (some ⟨p, 0, none⟩) n n ∧ B ≤ p ∧ Blk w p cs t
def Stab (r : Value → World → Prop) : Prop := ∀ v w w', r v w → Below w.heap.size w w' → r v w'
theorem stab_det (v0 : Value) : Stab (detR v0) := fun _ _ _ h _ => h
theorem stab_new (B : Nat) (cs : Array Value) (t : TypeId) : Stab (newR B cs t) := fun _ _ _ ⟨p, h1, h2, h3⟩ hb => ⟨p, h1, h2, h3.past hb⟩
theorem stab_sli (B n : Nat) (cs : Array Value) (t : TypeId) : Stab (sliR B n cs t) := fun _ _ _ ⟨p, h1, h2, h3⟩ hb => ⟨p, h1, h2, h3.past hb⟩
def nthR (rs : List (Value → World → Prop)) (i : Nat) : Value → World → Prop := rs.getD i (fun _ _ => True)
theorem stab_nth {rs : List (Value → World → Prop)} (h : ∀ r ∈ rs, Stab r) : ∀ i v w w', nthR rs i v w → Below w.heap.size w w' → nthR rs i v w' := by
  intro i v w w' h1 h2
  unfold nthR at *
  rcases Nat.lt_or_ge i rs.length with hl | hl
  · rw [List.getD_eq_getElem?_getD, List.getElem?_eq_getElem hl] at *
    exact h _ (List.getElem_mem hl) v w w' h1 h2
  · rw [List.getD_eq_getElem?_getD, List.getElem?_eq_none hl]
    trivial

/-- A region in the text's order whose operations read and call what only makes memory: the same walk. -/
theorem wpList_of_quiet {P : Program} {ops : Array Oper} {C : World → Prop} {Q : Act → Prop} {Q' : Exit → Act → World → Prop} (hQ : ∀ a w, C w → Q a → Q' .normal a w) :
    ∀ (l : List Oper) (a : Act) (w : World), C w → wpQuiet P ops C Q l a → wpList P ops Q' l a w := by
  intro l
  induction l with
  | nil => intro a w hw h; exact hQ a w hw h
  | cons o r ih =>
    intro a w hw h
    unfold wpQuiet at h
    unfold wpList
    split
    · rename_i hwant
      rw [if_pos hwant] at h
      exact .inl (Oper.wp_of_quiet hw (fun a' w' hw' h' => ih a' w' hw' h') h)
    · rename_i hwant
      rw [if_neg hwant] at h
      exact ih _ _ hw h
theorem wp_region_past_seq {P : Program} {id : Nat} {Q : Exit → Act → World → Prop} {a : Act} {w : World} {l : List Oper}
    (h : wpQuiet P l.toArray (fun w' => ∃ x : Past w, w' = x.1) (fun a' => ∀ w', (∃ x : Past w, w' = x.1) → Q .normal a' w') l a) : (Code.region id l.toArray false).wp P Q a w :=
  wp_region_list (by
    have := wpList_of_quiet (P := P) (ops := l.toArray) (C := fun w' => ∃ x : Past w, w' = x.1) (Q := fun a' => ∀ w', (∃ x : Past w, w' = x.1) → Q .normal a' w') (Q' := Q) (fun a w hw h => h w hw) l a w ⟨⟨w, Below.refl _ _⟩, rfl⟩ h
    simpa using this)

end Go.Proofs.YtkjpmhmlakmglaaDoor

namespace Go.Proofs.YtkjpmhmlakmglaaDoor
open Go.RowKit

def barOk (l : List Oper) (q : Nat) : Bool :=
  Region.noSelect l.toArray && decide (q < l.length) &&
  ((List.range l.length).all fun i => match l[i]? with
    | some o => o.after.all fun e => !Region.binds .any e || decide (e.on < i)
    | none => true) &&
  ((List.range q).all fun i => match l[i]? with
    | some o => match o.guard with
      | some g => decide (g.1 < q)
      | none => true
    | none => true) &&
  ((List.range l.length).all fun i => decide (i ≤ q) || (List.range i).any fun j => decide (q ≤ j) && waits l.toArray i j) &&
  ((List.range q).all fun j => (List.range (q + 1)).any fun i => decide (j < i) && waits l.toArray i j) &&
  Region.lexB .any (l.take q).toArray &&
  Region.lexFrom .any l.toArray (l.drop (q + 1)).length (q + 1) (Array.replicate (q + 1) true ++ Array.replicate (l.length - (q + 1)) false)

structure BarOk (l : List Oper) (q : Nat) : Prop where
  sel : Region.noSelect l.toArray = true
  lt : q < l.length
  back : ∀ i o, l[i]? = some o → ∀ e ∈ o.after, Region.binds .any e = true → e.on < i
  guard : ∀ i o, i < q → l[i]? = some o → ∀ g, o.guard = some g → g.1 < q
  after : ∀ i, i < l.length → q < i → ∃ j, q ≤ j ∧ j < i ∧ waits l.toArray i j = true
  before : ∀ j, j < q → ∃ i, j < i ∧ i ≤ q ∧ waits l.toArray i j = true
  lexP : Region.lexB .any (l.take q).toArray = true
  lexS : Region.lexFrom .any l.toArray (l.drop (q + 1)).length (q + 1) (Array.replicate (q + 1) true ++ Array.replicate (l.length - (q + 1)) false) = true

theorem barOk_spec {l : List Oper} {q : Nat} (h : barOk l q = true) : BarOk l q := by
  unfold barOk at h
  simp only [Bool.and_eq_true] at h
  obtain ⟨⟨⟨⟨⟨⟨⟨h1, h2⟩, h3⟩, h4⟩, h5⟩, h6⟩, h7⟩, h8⟩ := h
  rw [decide_eq_true_eq] at h2
  refine ⟨h1, h2, ?_, ?_, ?_, ?_, h7, h8⟩
  · intro i o ho e he hb
    have hi : i < l.length := (List.getElem?_eq_some_iff.1 ho).1
    have := List.all_eq_true.1 h3 i (by simpa using hi)
    rw [ho] at this
    have := Array.all_eq_true'.1 this e he
    rw [hb] at this
    simpa using this
  · intro i o hi ho g hg
    have := List.all_eq_true.1 h4 i (by simpa using hi)
    rw [ho] at this
    simp only [hg] at this
    simpa using this
  · intro i hi hqi
    have := List.all_eq_true.1 h5 i (by simpa using hi)
    rw [Bool.or_eq_true, decide_eq_true_eq] at this
    rcases this with c | c
    · omega
    · obtain ⟨j, hj, hc⟩ := List.any_eq_true.1 c
      rw [Bool.and_eq_true, decide_eq_true_eq] at hc
      exact ⟨j, hc.1, by simpa using hj, hc.2⟩
  · intro j hj
    have := List.all_eq_true.1 h6 j (by simpa using hj)
    obtain ⟨i, hi, hc⟩ := List.any_eq_true.1 this
    rw [Bool.and_eq_true, decide_eq_true_eq] at hc
    have := List.mem_range.1 hi
    exact ⟨i, hc.1, by omega, hc.2⟩

section
variable {l : List Oper} {q : Nat} (B : BarOk l q)
include B
/-- Whoever stands behind the bar waits for it. -/
theorem BarOk.behind {listed : Array Bool} (hs : Shut l.toArray listed) : ∀ (n i : Nat), i ≤ n → i < l.length → q < i → (∀ o, l[i]? = some o → ∀ e ∈ o.after, Region.binds .any e = true → listed.getD e.on false = true) → listed.getD q false = true := by
  intro n
  induction n with
  | zero => intro i h1 _ h3; omega
  | succ n ih =>
    intro i h1 h2 h3 hd
    obtain ⟨j, j1, j2, j3⟩ := B.after i h2 h3
    have hoi : l.toArray[i]? = some l[i] := by simp [h2]
    have hj := waits_listed hoi (hd l[i] (List.getElem?_eq_getElem h2)) j3
    by_cases c : j = q
    · rw [c] at hj; exact hj
    · refine ih j (by omega) (by omega) (by omega) fun o ho e he hb => ?_
      exact hs.deps j o (by simpa using ho) hj e he hb
/-- The bar waits for all ahead of it. -/
theorem BarOk.ahead {listed : Array Bool} (hs : Shut l.toArray listed) (hd : ∀ o, l[q]? = some o → ∀ e ∈ o.after, Region.binds .any e = true → listed.getD e.on false = true) : ∀ (n j : Nat), q - j ≤ n → j < q → listed.getD j false = true := by
  intro n
  induction n with
  | zero => intro j h1 h2; omega
  | succ n ih =>
    intro j h1 h2
    obtain ⟨i, i1, i2, i3⟩ := B.before j h2
    by_cases c : i = q
    · subst c
      have hll := B.lt
      have hoi : l.toArray[i]? = some l[i] := by simp [hll]
      exact waits_listed hoi (hd l[i] (List.getElem?_eq_getElem hll)) i3
    · have hi := ih i (by omega) (by omega)
      have hil : i < l.length := by have := B.lt; omega
      have hoi : l.toArray[i]? = some l[i] := by simp [hil]
      exact waits_listed hoi (fun e he hb => hs.deps i l[i] hoi hi e he hb) i3
end

theorem wanted_take {l : List Oper} {q : Nat} (o : Oper) (t : Array Value) (hg : ∀ g, o.guard = some g → g.1 < q) : Region.wanted o (yielded (l.take q).toArray t) = Region.wanted o (yielded l.toArray t) := by
  unfold Region.wanted
  cases h : o.guard with
  | none => rfl
  | some g =>
    have hlt := hg g h
    have e : yielded (l.take q).toArray t g.1 = yielded l.toArray t g.1 := by
      unfold yielded
      simp [hlt]
    simp only [e]

/-- The number of those ahead of the bar that are still to come. -/
def todo (q : Nat) (listed : Array Bool) : Nat := ((List.range q).filter fun i => !listed.getD i false).length
theorem todo_zero {q : Nat} {listed : Array Bool} (h : todo q listed = 0) : ∀ i, i < q → listed.getD i false = true := by
  intro i hi
  unfold todo at h
  have := List.eq_nil_of_length_eq_zero h
  cases hl : listed.getD i false with
  | true => rfl
  | false =>
    have hm : i ∈ (List.range q).filter fun i => !listed.getD i false := by
      rw [List.mem_filter]; exact ⟨by simpa using hi, by rw [hl]; rfl⟩
    rw [this] at hm; cases hm
theorem filter_set (listed : Array Bool) (i : Nat) (hi : i < listed.size) (hl : listed.getD i false = false) : ∀ (r : List Nat), r.Nodup → i ∈ r → (r.filter fun j => !listed.getD j false).length = (r.filter fun j => !(listed.setIfInBounds i true).getD j false).length + 1 := by
  intro r
  induction r with
  | nil => intro _ h; cases h
  | cons a r ih =>
    intro hn hm
    have hn' := List.nodup_cons.1 hn
    by_cases c : a = i
    · subst c
      have e : (r.filter fun j => !listed.getD j false) = r.filter fun j => !(listed.setIfInBounds a true).getD j false := by
        refine List.filter_congr fun j hj => ?_
        have : j ≠ a := fun e => hn'.1 (e ▸ hj)
        rw [getD_set_ne false (Ne.symm this)]
      rw [List.filter_cons_of_pos (by rw [hl]; rfl), List.filter_cons_of_neg (by simp [hi]), e]
      rfl
    · have hm' : i ∈ r := by
        rcases List.mem_cons.1 hm with h | h
        · exact absurd h.symm c
        · exact h
      have := ih hn'.2 hm'
      have e : (listed.setIfInBounds i true).getD a false = listed.getD a false := getD_set_ne false (Ne.symm c)
      cases hla : listed.getD a false with
      | true => rw [List.filter_cons_of_neg (by rw [hla]; simp), List.filter_cons_of_neg (by rw [e, hla]; simp)]; exact this
      | false => rw [List.filter_cons_of_pos (by rw [hla]; rfl), List.filter_cons_of_pos (by rw [e, hla]; rfl)]; simp only [List.length_cons]; omega
theorem todo_set {q : Nat} {listed : Array Bool} {i : Nat} (hi : i < q) (hs : i < listed.size) (hl : listed.getD i false = false) : todo q listed = todo q (listed.setIfInBounds i true) + 1 :=
  filter_set listed i hs hl _ List.nodup_range (by simpa using hi)

theorem prefix_bar {P : Program} {l : List Oper} {q : Nat} (B : BarOk l q) {C : World → Prop} {Q' : Act → Prop} {Q : Exit → Act → World → Prop} (r : Nat)
    (hK : ∀ (listed : Array Bool) a w, listed.size = l.length → (∀ i, i < l.length → listed.getD i false = decide (i < q)) → C w → Q' a → wpAny P .any l.toArray Q r listed a w) :
    ∀ (n : Nat) (listed L : Array Bool) (a : Act) (w : World), Shut l.toArray listed → (∀ i, q ≤ i → listed.getD i false = false) → todo q listed = n → L.size = q → (∀ i, i < q → L.getD i false = listed.getD i false) → C w →
      wpAnyQ P .any (l.take q).toArray C Q' n L a → wpAny P .any l.toArray Q (n + r) listed a w := by
  intro n
  have hql := B.lt
  induction n with
  | zero =>
    intro listed L a w hs hno ht hL hLe hC h
    rw [Nat.zero_add]
    refine hK listed a w (by simpa using hs.size) (fun i hi => ?_) hC h.2
    by_cases c : i < q
    · rw [todo_zero ht i c]; exact (decide_eq_true c).symm
    · rw [hno i (by omega)]; exact (decide_eq_false c).symm
  | succ n ih =>
    intro listed L a w hs hno ht hL hLe hC h
    have hsz : listed.size = l.length := by simpa using hs.size
    have hsome : ∃ i, i < q ∧ listed.getD i false = false := by
      unfold todo at ht
      cases hf : (List.range q).filter fun i => !listed.getD i false with
      | nil => rw [hf] at ht; simp at ht
      | cons x y =>
        have : x ∈ (List.range q).filter fun i => !listed.getD i false := by rw [hf]; simp
        rw [List.mem_filter] at this
        exact ⟨x, by simpa using this.1, by simpa using this.2⟩
    obtain ⟨j0, hj0, hl0⟩ := hsome
    rw [Nat.succ_add]
    refine ⟨fun h0 => ?_, fun i hi => ?_⟩
    · exfalso
      -- the least that is still to come may come
      have key : ∀ (m j : Nat), j ≤ m → j < q → listed.getD j false = false → Region.ready .any l.toArray listed ≠ [] := by
        intro m
        induction m with
        | zero =>
          intro j hjm hjq hjl hnil
          have hj0 : j = 0 := by omega
          subst hj0
          have hm : 0 ∈ Region.ready .any l.toArray listed := by
            refine mem_ready.2 ⟨by rw [getD_flip (by rw [hsz]; omega) true false]; exact hjl, l[0]'(by omega), by simp, fun e he hb => ?_⟩
            have := B.back 0 _ (List.getElem?_eq_getElem (by omega)) e he hb
            omega
          rw [hnil] at hm; cases hm
        | succ m ihm =>
          intro j hjm hjq hjl hnil
          by_cases hall : ∃ k, k < j ∧ listed.getD k false = false
          · obtain ⟨k, hk, hkl⟩ := hall
            exact ihm k (by omega) (by omega) hkl hnil
          · have hm : j ∈ Region.ready .any l.toArray listed := by
              refine mem_ready.2 ⟨by rw [getD_flip (by rw [hsz]; omega) true false]; exact hjl, l[j]'(by omega), by simp, fun e he hb => ?_⟩
              have := B.back j _ (List.getElem?_eq_getElem (by omega)) e he hb
              cases hx : listed.getD e.on false with
              | true => rfl
              | false => exact absurd ⟨e.on, this, hx⟩ hall
            rw [hnil] at hm; cases hm
      exact key j0 j0 (Nat.le_refl _) hj0 hl0 h0
    · obtain ⟨hil, o, ho, hd⟩ := mem_ready.1 hi
      have hilen : i < l.length := by
        rcases Nat.lt_or_ge i l.length with h | h
        · exact h
        · simp [List.getElem?_eq_none h] at ho
      have hol : l[i]? = some o := by simpa using ho
      have hil' : listed.getD i false = false := by rw [getD_flip (by rw [hsz]; exact hilen) false true]; exact hil
      have hiq : i < q := by
        rcases Nat.lt_trichotomy i q with c | c | c
        · exact c
        · exfalso
          subst c
          have := B.ahead hs (fun o' ho' e he hb => by rw [hol] at ho'; cases ho'; exact hd e he hb) i j0 (by omega) hj0
          rw [hl0] at this; cases this
        · exfalso
          have := B.behind hs i i (Nat.le_refl _) hilen c (fun o' ho' e he hb => by rw [hol] at ho'; cases ho'; exact hd e he hb)
          rw [hno q (Nat.le_refl _)] at this; cases this
      have hop : (l.take q).toArray[i]? = some o := by simp [hiq, hol]
      have hir : i ∈ Region.ready .any (l.take q).toArray L := by
        refine mem_ready.2 ⟨?_, o, hop, fun e he hb => ?_⟩
        · rw [getD_flip (by rw [hL]; exact hiq) true false, hLe i hiq]; exact hil'
        · have := B.back i o hol e he hb
          rw [hLe _ (by omega)]; exact hd e he hb
      have hq := h.2 i hir
      have hwp := wpOp_of_qOp (Q' := Q) (K' := fun a' w' => wpAny P .any l.toArray Q (n + r) (listed.setIfInBounds i true) a' w') hC (fun a' w' hC' hK' => ih (listed.setIfInBounds i true) (L.setIfInBounds i true) a' w' ⟨by simpa using hs.size, ?_⟩ ?_ ?_ (by simpa using hL) ?_ hC' hK') hq
      · unfold wpOp at hwp ⊢
        simp only [hop] at hwp
        simp only [ho]
        rw [wanted_take o a.tmps (fun g hg => B.guard i o hiq hol g hg)] at hwp
        exact hwp
      · intro k ok hk hkl e he hb
        by_cases hki : k = i
        · subst hki
          rw [ho] at hk; cases hk
          exact getD_set_true (hd e he hb)
        · rw [getD_set_ne false (Ne.symm hki)] at hkl
          exact getD_set_true (hs.deps k ok hk hkl e he hb)
      · intro k hk
        rw [getD_set_ne false (by omega)]; exact hno k hk
      · have := todo_set hiq (by rw [hsz]; exact hilen) hil'
        omega
      · intro k hk
        by_cases hki : k = i
        · subst hki
          simp [hL, hsz, hk, hilen]
        · rw [getD_set_ne false (Ne.symm hki), getD_set_ne false (Ne.symm hki)]; exact hLe k hk

/-- The region's law. -/
theorem wp_region_bar {P : Program} {id : Nat} {Q : Exit → Act → World → Prop} {a : Act} {w : World} {l : List Oper} (q : Nat) (o : Oper) (hm : P.follows .mixedOrders = true) (ho : l[q]? = some o) (hok : barOk l q = true) (G : Value → World → Prop)
    (h : wpQuiet P (l.take q).toArray (fun w' => ∃ x : Past w, w' = x.1) (fun a' => ∀ x : Past w, Region.wanted o (yielded l.toArray a'.tmps) = true ∧ gives P G ((execOp a'.eval o).run P x.1) ∧
      ∀ v w'', G v w'' → wpQuiet P l.toArray (fun w' => ∃ y : Past w'', w' = y.1) (fun a3 => ∀ w3, (∃ y : Past w'', w3 = y.1) → Q .normal a3 w3) (l.drop (q + 1)) (a'.put o.dst v)) (l.take q) a) : (Code.region id l.toArray true).wp P Q a w := by
  have B := barOk_spec hok
  have hql := B.lt
  refine wp_region_any hm ?_
  have hfuel : l.toArray.size = q + (l.length - q) := by simp; omega
  rw [hfuel]
  have hun : ∀ (n j : Nat), (Array.replicate n false).getD j false = false := fun n j => by
    simp only [Array.getD_eq_getD_getElem?, Array.getElem?_replicate]; split <;> rfl
  have hlexP := B.lexP
  simp only [Region.lexB, Bool.and_eq_true] at hlexP
  have hq0 := wpAnyQ_lex (P := P) (C := fun w' => ∃ x : Past w, w' = x.1) (md := .any) hlexP.1 (l.take q) 0 (Array.replicate (l.take q).toArray.size false) a (by simp) (by simpa using hlexP.2) h
  have hlen : (l.take q).length = q := by rw [List.length_take]; omega
  rw [hlen] at hq0
  refine prefix_bar B (l.length - q) ?_ q (Array.replicate (q + (l.length - q)) false) (Array.replicate (l.take q).toArray.size false) a _ ⟨by simp; omega, fun i oi _ hli => by rw [hun] at hli; cases hli⟩ (fun i _ => hun _ _) ?_ (by simp; omega) (fun i _ => by rw [hun, hun]) ⟨⟨_, (Below.refl _ _).drew⟩, rfl⟩ hq0
  · intro listed a' w' hsz hcan ⟨x, hx⟩ hQ'
    subst hx
    obtain ⟨hw, hg, hrest⟩ := hQ' x
    obtain ⟨r, hr⟩ : ∃ r, l.length - q = r + 1 := ⟨l.length - q - 1, by omega⟩
    rw [hr]
    have hs : Shut l.toArray listed := ⟨by simpa using hsz, fun i oi hi hli e he hb => by
      have hil : i < l.length := by
        rcases Nat.lt_or_ge i l.length with h | h
        · exact h
        · simp [List.getElem?_eq_none h] at hi
      rw [hcan i hil] at hli
      have := B.back i oi (by simpa using hi) e he hb
      have h1 := of_decide_eq_true hli
      rw [hcan e.on (by omega)]; exact decide_eq_true (by omega)⟩
    have hqr : q ∈ Region.ready .any l.toArray listed := by
      refine mem_ready.2 ⟨by rw [getD_flip (by rw [hsz]; exact hql) true false, hcan q hql]; simp, o, by simpa using ho, fun e he hb => ?_⟩
      have := B.back q o ho e he hb
      rw [hcan e.on (by omega)]; exact decide_eq_true this
    refine ⟨fun h0 => (by rw [h0] at hqr; cases hqr), fun i hi => ?_⟩
    obtain ⟨hil, oi, hoi, hd⟩ := mem_ready.1 hi
    have hilen : i < l.length := by
      rcases Nat.lt_or_ge i l.length with h | h
      · exact h
      · simp [List.getElem?_eq_none h] at hoi
    have hil' : listed.getD i false = false := by rw [getD_flip (by rw [hsz]; exact hilen) false true]; exact hil
    have hiq : i = q := by
      rcases Nat.lt_trichotomy i q with c | c | c
      · rw [hcan i hilen, decide_eq_true c] at hil'; cases hil'
      · exact c
      · exfalso
        have := B.behind hs i i (Nat.le_refl _) hilen c (fun o' ho' e he hb => by
          have : l[i]? = some oi := by simpa using hoi
          rw [this] at ho'; cases ho'; exact hd e he hb)
        rw [hcan q hql] at this; simp at this
    subst hiq
    have hoo : oi = o := by
      have : l[i]? = some oi := by simpa using hoi
      rw [this] at ho; cases ho; rfl
    subst hoo
    have hcanon : listed.setIfInBounds i true = Array.replicate (i + 1) true ++ Array.replicate (l.length - (i + 1)) false := by
      apply Array.ext_getElem?
      intro k
      rw [Array.getElem?_setIfInBounds, Array.getElem?_append, Array.getElem?_replicate, Array.getElem?_replicate]
      simp only [Array.size_replicate]
      have hget : k < l.length → listed[k]? = some (decide (k < i)) := fun hk => by
        have := hcan k hk
        rw [Array.getD_eq_getD_getElem?, Array.getElem?_eq_getElem (by omega)] at this
        rw [Array.getElem?_eq_getElem (by omega)]; simpa using this
      by_cases c1 : i = k
      · subst c1
        rw [if_pos rfl, if_pos (by omega), if_pos (by omega), if_pos (by omega)]
      · rw [if_neg c1]
        by_cases c2 : k < i + 1
        · rw [if_pos c2, if_pos c2, hget (by omega)]
          congr 1; exact decide_eq_true (by omega)
        · rw [if_neg c2]
          by_cases c3 : k < l.length
          · rw [hget c3, if_pos (by omega)]
            congr 1; exact decide_eq_false (by omega)
          · rw [if_neg (by omega), Array.getElem?_eq_none (by omega)]
    unfold wpOp
    simp only [hoi]
    rw [if_pos hw]
    refine .inl ?_
    unfold Oper.wp
    refine upon_of_gives hg fun v w'' hv => ?_
    have hsuf := hrest v w'' hv
    rw [hcanon]
    have hdl : (l.drop (i + 1)).length = r := by rw [List.length_drop]; omega
    have hq2 := wpAnyQ_lex (P := P) (C := fun w' => ∃ y : Past w'', w' = y.1) (md := .any) B.sel (l.drop (i + 1)) (i + 1) (Array.replicate (i + 1) true ++ Array.replicate (l.length - (i + 1)) false) _ (fun j => by simp [List.getElem?_drop]) B.lexS hsuf
    rw [hdl] at hq2
    exact wpAny_of_quiet (C := fun w' => ∃ y : Past w'', w' = y.1) (fun a3 w3 hw3 h3 => h3 w3 hw3) r _ _ _ ⟨⟨_, Below.refl _ _⟩, rfl⟩ hq2
  · unfold todo
    rw [List.filter_eq_self.2 (fun i _ => by rw [hun]; rfl), List.length_range]
end Go.Proofs.YtkjpmhmlakmglaaDoor
