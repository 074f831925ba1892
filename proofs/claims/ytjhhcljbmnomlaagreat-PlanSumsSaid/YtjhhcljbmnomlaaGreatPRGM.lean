/- PlanSums: the load is the sum of the reservations, and of the users' loads; what was added and deleted leaves the plan. Conditions: that the slices read as changes, a reservation, times. -/
import Derived.Test.YtjhhcljbmnomlaaGreatPRGL
import Derived.Test.YtjhhcljbmnomlaaGreatPRGD
import Derived.Test.YtjhhcljbmnomlaaGreatPRGC
namespace Go.Proofs.YtjhhcljbmnomlaaGreat
open Go.ChangeShapes Go.WideShapes Go.ChangeAt Go.RowKit
attribute [local irreducible] Go.Calls

set_option maxRecDepth 100000 in
set_option maxHeartbeats 32000000 in
theorem plansums_walk {al aI aT aW aA : Option Addr} {cl nI cI nT cT nW cW nA cA : Nat} {rid rsq rf rt : Int} {ru : List UInt8} {ls : List (List Cw)} {css : List (List (Int × Rv))} {r : Rv} {ts : List Int} (w : World) (hS : SliSC w (.slice al ls.length cl) ls css)
    (hR : RwF w (⟨rid, rsq, ru, rf, rt, .slice aT nT cT, .slice aW nW cW, .slice aA nA cA⟩ : Rw) r) (hI : ArgI w aI ts) (hIn : nI = ts.length) :
    Calls Tryz.prog 5 #[.slice al ls.length cl, rwV (⟨rid, rsq, ru, rf, rt, .slice aT nT cT, .slice aW nW cW, .slice aA nA cA⟩ : Rw), .slice aI nI cI] w fun e w' => e = .returned (.bool true) ∧ Below w.heap.size w w' := by
  obtain ⟨w0, hw0⟩ : ∃ w0, w0 = w.alloc (Obj.cells #[.int .u32 rid, .int .u32 rsq, nmV ru, .int .i64 rf, .int .i64 rt, .slice aT nT cT, .slice aW nW cW, .slice aA nA cA] 50) := ⟨_, rfl⟩
  have hb0 : Below w.heap.size w w0 := by rw [hw0]; (repeat (first | exact Below.refl _ _ | assumption | refine balloc ?_ _ | refine below_drewN ?_ _ | refine bstep (by assumption) ?_ | refine bstep (Past.prop _) ?_ | refine Below.setCell ?_ (by first | exact Nat.le_refl _ | (simp; done) | (simp; omega)) _))
  have HB0 := hidE hb0
  have HBR := hidE (show Blk w0 w.heap.size #[.int .u32 rid, .int .u32 rsq, nmV ru, .int .i64 rf, .int .i64 rt, .slice aT nT cT, .slice aW nW cW, .slice aA nA cA] 50 by rw [hw0]; exact Blk.made _ _ _)
  have HS := hidE hS; have HR := hidE hR; have HI := hidE hI; have HIN := hidE hIn
  have HZ0 := hidE hb0.size
  have HH := hidE (fun w => plhead_c w)
  clear hS hR hI hIn hb0
  go_enter Tryz.func5, Tryz.ntmps5
  go_upto_region 1 with fail
  rw [← hw0]
  clear hw0
  go_wp2_with fail
  ((with_reducible refine (great_c _ (HS.out.past HB0.out)).mono ?_); rintro e w1 ⟨b1, rfl, hb1, hf1⟩)
  have HB1 := hidE (bstep hb1 HB0.out); have HF1 := hidE hf1; have HX1 := hidE hb1
  have HBR := hidE (HBR.out.past hb1)
  clear hb1 hf1
  cases b1
  · have HFW := hidE (HF1.out rfl)
    clear HF1
    have q0 := HBR.out.cell 0; have q1 := HBR.out.cell 1; have q2 := HBR.out.cell 2; have q3 := HBR.out.cell 3; have q4 := HBR.out.cell 4; have q5 := HBR.out.cell 5; have q6 := HBR.out.cell 6; have q7 := HBR.out.cell 7; have qz := HBR.out.lt
    simp at q0 q1 q2 q3 q4 q5 q6 q7
    go_wp2_with fail
    have hba : Below w1.heap.size w1 ((w1.alloc (Obj.cells #[.int .u8 0, .int .u32 rid, .int .u32 rsq, nmV ru, .int .i64 rf, .int .i64 rt, .slice aT nT cT, .slice aW nW cW, .slice aA nA cA] 52)).alloc (Obj.cells #[.slice (some ⟨w1.heap.size, 0, none⟩) 1 1] 37)) := ((Below.refl _ _).alloc (Nat.le_refl _) _).alloc (by simp) _
    have HBA := hidE (bstep hba HB1.out)
    have HC2 := hidE (show SliSC ((w1.alloc (Obj.cells #[.int .u8 0, .int .u32 rid, .int .u32 rsq, nmV ru, .int .i64 rf, .int .i64 rt, .slice aT nT cT, .slice aW nW cW, .slice aA nA cA] 52)).alloc (Obj.cells #[.slice (some ⟨w1.heap.size, 0, none⟩) 1 1] 37)) (.slice (some ⟨w1.heap.size + 1, 0, none⟩) 1 1) [[(0, (⟨rid, rsq, ru, rf, rt, .slice aT nT cT, .slice aW nW cW, .slice aA nA cA⟩ : Rw))]] [[(0, r)]] from
      sliSC_one (Blk.made_at _ _ _ _ (by simp)) (sliCh_blk (n := 1) ((Blk.made _ _ _).alloc _) rfl rfl (by omega)) (chF0_one (HR.out.past HBA.out) ⟨by omega, by omega⟩) (by simp))
    have HBR := hidE (HBR.out.past hba)
    clear hba
    clear q0 q1 q2 q3 q4 q5 q6 q7 qz
    ((with_reducible refine (great_c _ HC2.out).mono ?_); rintro e w2 ⟨b2, rfl, hb2, hf2⟩)
    have HB2 := hidE (bstep hb2 HBA.out); have HF2 := hidE hf2
    have HBR := hidE (HBR.out.past hb2)
    clear hb2 hf2 HC2 HBA
    cases b2
    · have HSM := hidE (show r.small from ((HF2.out rfl).sm (i := 0) (k := 0) (by simp) (by simp)).small)
      clear HF2
      by_cases h60 : 60 < nI
      · have d1 : decide ((60 : Int) < (nI : Int)) = true := decide_eq_true (by omega)
        have d2 : decide (60 < nI) = true := decide_eq_true h60
        clear h60
        go_wp2_with fail
        ((with_reducible refine (HH.out _).mono ?_); rintro e wh ⟨rfl, hbh⟩)
        go_wp2
        go_ret
        exact ⟨rfl, bstep hbh HB2.out⟩
      · have d1 : decide ((60 : Int) < (nI : Int)) = false := decide_eq_false (by omega)
        have d2 : decide (60 < nI) = false := decide_eq_false h60
        have HN6 := hidE (show nI ≤ 60 by omega)
        clear h60
        go_wp2_with fail
        (with_reducible refine (new_f _ (sliF3_none _) (by simp)).mono ?_)
        rintro e w3 ⟨hb3, h3⟩
        rcases h3 with ⟨h, _⟩ | ⟨_, p, rfl, hP3, hp3⟩
        · exact absurd h (by decide)
        have HB3 := hidE (bstep hb3 HB2.out)
        have HPZ := hidE (show w.heap.size < p from Nat.lt_of_lt_of_le HBR.out.lt hp3)
        have HBR := hidE (HBR.out.past hb3)
        have HP3 := hidE hP3
        clear hb3 hP3 hp3
        go_wp2
        go_loopg [9] ls.length (fun g v9 wr => ∃ (k : Nat) (L : List Rv), v9 = .int .i64 k ∧ k ≤ ls.length ∧ ls.length - k ≤ g ∧ Pl wr p L [] ∧ Blk wr w.heap.size #[.int .u32 rid, .int .u32 rsq, nmV ru, .int .i64 rf, .int .i64 rt, .slice aT nT cT, .slice aW nW cW, .slice aA nA cA] 50 ∧ Below w.heap.size w wr)
        case atStart => exact ⟨0, [], rfl, Nat.zero_le _, Nat.le_refl _, HP3.out, HBR.out, HB3.out⟩
        case round =>
          obtain ⟨k, L, rfl, hk, hg, hP, hbr, hb⟩ := hrel
          have HP := hidE hP; have HB := hidE hb; have HG := hidE hg; have HBX := hidE hbr
          have hk40 : k ≤ 40 := by have := HFW.out.1; omega
          clear hP hg hb hbr
          by_cases hlt : k < ls.length
          · obtain ⟨_, _, e0, _, _, _, hA⟩ := HS.out
            cases e0
            obtain ⟨bb, off, rfl, hbz, hc⟩ := hA (by omega)
            obtain ⟨vi, c0, hsl, hch, _⟩ := hc k hlt
            obtain ⟨ai, ci, rfl, _, _, _⟩ := id hsl
            rw [← HB.out.cell (p := ⟨bb, _, none⟩) hbz] at c0
            have hbz' : bb < wr.heap.size := Nat.lt_of_lt_of_le hbz HB.out.size
            have HSL := hidE (hsl.past HB.out)
            have HCH := hidE ((HFW.out.chs hlt hch).past HB.out)
            have HRW := hidE (HFW.out.row hlt)
            have HK1 := hidE (show k + 1 ≤ ls.length from hlt)
            clear hA hc hsl hch hbz
            generalize ls.getD k [] = LL at *
            generalize css.getD k [] = CC at *
            go_wp2_with fail
            ((with_reducible refine (do_c _ HP.out HSL.out HCH.out (by have := HRW.out; omega)).mono ?_); rintro e w4 ⟨rfl, hg4, hP4, _⟩)
            have HB4 := hidE (HP.out.base HB.out hg4 (Nat.le_of_lt HPZ.out))
            have HBX4 := hidE (HBX.out.grown hg4 (by have := HPZ.out; simp; omega))
            have HP4 := hidE hP4
            clear hg4 hP4 c0 hbz' hlt hk
            go_wp2
            go_roundg (ls.length - (k + 1))
            case measure => have := HG.out; have := HK1.out; omega
            case rel => exact ⟨k + 1, _, by go_num, HK1.out, Nat.le_refl _, HP4.out, HBX4.out, HB4.out⟩
          · clear hk hk40
            obtain ⟨wo, hwo⟩ : ∃ wo : World, wo = wr := ⟨_, rfl⟩
            subst hwo
            go_wp2_with fail
            ((with_reducible refine (list_f _ HP.out).mono ?_); rintro e u1 ⟨v1, l1, rfl, hl1, hr1, hb1⟩)
            have HP1 := hidE (HP.out.past hb1); have HB1 := hidE (bstep hb1 HB.out); have HX1 := hidE (HBX.out.past hb1)
            obtain ⟨aL, cL, rfl, _, _, _, _, _⟩ := id hl1
            have HL1 := hidE hl1; have HR1 := hidE hr1
            clear hl1 hr1 hb1
            go_wp2_with fail
            ((with_reducible refine (load_f _ HP1.out).mono ?_); rintro e u2 ⟨v2, rfl, ⟨A, hsA, hld⟩, hb2⟩)
            have HP2 := hidE (HP1.out.past hb2); have HB2 := hidE (bstep hb2 HB1.out); have HX2 := hidE (HX1.out.past hb2)
            have HL2 := hidE (HL1.out.past hb2); have HR2 := hidE (HR1.out.past hb2)
            obtain ⟨aS, cS, rfl, _, _, _⟩ := id hsA
            have HSA := hidE hsA; have HLD := hidE hld
            clear hsA hld hb2 HP1 HB1 HX1 HL1 HR1
            go_wp2_with fail
            ((with_reducible refine (users_f _ HP2.out).mono ?_); rintro e wT ⟨v3, rfl, hu3, hb3⟩)
            have HP := hidE (HP2.out.past hb3); have HB := hidE (bstep hb3 HB2.out); have HBX := hidE (HX2.out.past hb3)
            have HL := hidE (HL2.out.past hb3); have HRR := hidE (HR2.out.past hb3); have HSA := hidE (HSA.out.past hb3)
            have hus := usAt_own hu3
            obtain ⟨aU, cU, rfl, _⟩ := id hus
            have HUS := hidE hus
            clear hu3 hus hb3 HP2 HB2 HX2 HL2 HR2
            go_wp2
            go_loopg [13] nI (fun g v13 wx => ∃ i : Nat, v13 = .int .i64 i ∧ i ≤ nI ∧ nI - i ≤ g ∧ Below wT.heap.size wT wx)
            case atStart => exact ⟨0, rfl, Nat.zero_le _, Nat.le_refl _, Below.refl _ _⟩
            case round =>
              obtain ⟨i, rfl, hi, hg, hbT⟩ := hrel
              have HG := hidE hg; have HBT := hidE hbT
              clear hg hbT
              by_cases hit : i < nI
              · have hts : i < ts.length := by have := HIN.out; omega
                have hi60 : i < 60 := by have := HN6.out; omega
                have HBW := hidE (bstep HBT.out HB.out)
                obtain ⟨bt, ot, rfl, hbt0, hct⟩ := HI.out (by omega)
                have ct0 := hct i hts
                rw [← HBW.out.cell (p := ⟨bt, _, none⟩) hbt0] at ct0
                have HTC := hidE (And.intro (Nat.lt_of_lt_of_le hbt0 HBW.out.size) ct0)
                clear hct ct0 hbt0 hi
                generalize ts.getD i 0 = t at *
                have HP2 := hidE (HP.out.past HBT.out); have HL2 := hidE (HL.out.past HBT.out); have HR2 := hidE (HRR.out.past HBT.out); have HSA2 := hidE (HSA.out.past HBT.out); have HUS2 := hidE (HUS.out.past HBT.out)
                have HGD := hidE HP2.out.good
                have HLN := hidE HR2.out.1
                have HL60 := hidE (show l1.length ≤ 128 by have := HGD.out.few; have := HLN.out; omega)
                obtain ⟨wi, hwi⟩ : ∃ wi : World, wi = wr := ⟨_, rfl⟩
                subst hwi
                go_wp2_with fail
                go_loopg [16] l1.length (fun gh v16 wx => ∃ k : Nat, v16 = .int .i64 k ∧ k ≤ l1.length ∧ l1.length - k ≤ gh ∧ Blk wx wi.heap.size #[.int .i64 (pSum (L.take k) t).1, .int .i64 (pSum (L.take k) t).2] 65 ∧ Blk wx (wi.heap.size + 1) #[.int .i64 0, .int .i64 0] 65 ∧ Below wi.heap.size wi wx)
                case atStart => exact ⟨0, rfl, by omega, by omega, by rw [List.take_zero, pSum_nil]; exact (Blk.made _ _ _).alloc _, Blk.made_at _ _ _ _ (by simp), by (repeat (first | exact Below.refl _ _ | assumption | refine balloc ?_ _ | refine below_drewN ?_ _ | refine bstep (by assumption) ?_ | refine bstep (Past.prop _) ?_ | refine Below.setCell ?_ (by first | exact Nat.le_refl _ | (simp; done) | (simp; omega)) _))⟩
                case round =>
                  obtain ⟨k, rfl, hk2, hg5, BW, BV, hb2⟩ := hrel
                  have HBX2 := hidE hb2; have HBV := hidE BV; have HG5 := hidE hg5
                  clear BV hg5
                  by_cases hkl : k < l1.length
                  · have HNXT := hidE (pSum_add HGD.out (show k < L.length by have := HLN.out; omega) t)
                    obtain ⟨_, _, e0, _, _, _, hA, _⟩ := HL2.out.past hb2
                    cases e0
                    obtain ⟨bl, ol, rfl, hbz, hcr⟩ := hA (by omega)
                    have ck := hcr k 7 hkl (by omega)
                    have hF := (HR2.out.past hb2).2 k hkl
                    have hsl := hF.a.1
                    have hlk : (L.getD k rv0).A.length ≤ 1024 := by
                      have hm : L.getD k rv0 ∈ L := by rw [List.getD_eq_getElem?_getD, List.getElem?_eq_getElem (show k < L.length by have := HLN.out; omega)]; exact List.getElem_mem _
                      exact rok_len (HGD.out.ok _ hm)
                    clear hcr hA hF
                    generalize L.getD k rv0 = rr at *
                    generalize l1.getD k rw0 = xx at *
                    obtain ⟨f, hf⟩ : ∃ f, rr.A = f := ⟨_, rfl⟩
                    rw [hf] at hsl hlk HNXT
                    obtain ⟨ak, kk, eva, l1', l2', hAk⟩ := hsl
                    simp only [eva, List.getElem?_cons_succ, List.getElem?_cons_zero] at ck
                    have HAk := hidE hAk
                    clear l1' l2' hAk hf eva
                    obtain ⟨pp, hpp⟩ : ∃ pp, pSum (L.take k) t = pp := ⟨_, rfl⟩
                    obtain ⟨rs, hrs⟩ : ∃ rs, pSum (L.take (k + 1)) t = rs := ⟨_, rfl⟩
                    obtain ⟨qq, hqq⟩ : ∃ qq, vat f t = qq := ⟨_, rfl⟩
                    rw [hpp] at BW
                    rw [hpp, hrs, hqq] at HNXT
                    have HAT := hidE (fun w (hS : ArgS w ak f) => show Calls Tryz.prog 27 #[.slice ak f.length kk, .int .i64 t] w fun e w' => e = .returned (V qq.1 qq.2) ∧ Below w.heap.size w w' from by
                      have := rat_c f ak kk t w (by omega) hS
                      rw [hqq] at this; exact this)
                    have HAD := hidE (fun w => show Calls Tryz.prog 26 #[V pp.1 pp.2, V qq.1 qq.2] w fun e w' => e = .returned (VE (rs.1, rs.2, 0)) ∧ Below w.heap.size w w' from by
                      have := radd pp.1 pp.2 qq.1 qq.2 w
                      rw [HNXT.out] at this; exact this)
                    have HE3 := hidE hrs
                    have g0 := BW.cell 0; have g1 := BW.cell 1; have gz := BW.lt
                    simp at g0 g1
                    have ct : wr.cell? ⟨bt, ot + i, none⟩ = some (.int .i64 t) := (hb2.cell (p := ⟨bt, _, none⟩) HTC.out.1).trans HTC.out.2
                    have htz : bt < wr.heap.size := Nat.lt_of_lt_of_le HTC.out.1 hb2.size
                    have HBWW := hidE BW
                    clear hpp hrs hqq HNXT BW hb2 hk2 hlk
                    go_wp2_with fail
                    refine wp_region_J 15 [14] (nthR [detR (V pp.1 pp.2), detR (.slice (some ⟨bl, ol, none⟩) l1.length cL), detR (.int .i64 k), detR (.pointer (some ⟨bl, ol + k * 8, none⟩)), detR (.pointer (some ⟨bl, ol + k * 8 + 7, none⟩)), detR (.slice ak f.length kk), detR (.slice (some ⟨bt, ot, none⟩) nI cI), detR (.int .i64 i), detR (.pointer (some ⟨bt, ot + i, none⟩)), detR (.int .i64 t), detR (V qq.1 qq.2), detR (VE (rs.1, rs.2, 0)), detR (VE (rs.1, rs.2, 0)), detR (V rs.1 rs.2), detR (.int .i64 0)]) (fun _ => false) (by kernel_rfl) (by decide) (by kernel_rfl) (stab_nth (by intro r hr; simp only [List.mem_cons, List.not_mem_nil, or_false] at hr; rcases hr with rfl | rfl | rfl | rfl | rfl | rfl | rfl | rfl | rfl | rfl | rfl | rfl | rfl | rfl | rfl <;> first | exact stab_det _)) ?_ ?_ ?_
                    · intro i o hi ho
                      match i, hi with
                      | 0, _ =>
                        obtain rfl := Option.some.inj ho
                        intro u x hd
                        have hc := Past.cell x
                        simp [go_sem, gives, frm, Act.put, nthR, detR, Region.wanted, Below.refl, hc, g0, g1, gz]
                      | 1, _ =>
                        obtain rfl := Option.some.inj ho
                        intro u x hd
                        have hc := Past.cell x
                        simp [go_sem, gives, frm, Act.put, nthR, detR, Region.wanted, Below.refl]
                      | 2, _ =>
                        obtain rfl := Option.some.inj ho
                        intro u x hd
                        have hc := Past.cell x
                        simp [go_sem, gives, frm, Act.put, nthR, detR, Region.wanted, Below.refl]
                      | 3, _ =>
                        obtain rfl := Option.some.inj ho
                        intro u x hd
                        have hc := Past.cell x
                        have d1 := hd 1 (by decide) (by kernel_rfl)
                        have d2 := hd 2 (by decide) (by kernel_rfl)
                        simp only [nthR, detR, List.getD_cons_zero, List.getD_cons_succ] at d1 d2
                        simp [go_sem, gives, frm, Act.put, nthR, detR, Region.wanted, Below.refl, d1, d2, hkl]
                      | 4, _ =>
                        obtain rfl := Option.some.inj ho
                        intro u x hd
                        have hc := Past.cell x
                        have d3 := hd 3 (by decide) (by kernel_rfl)
                        simp only [nthR, detR, List.getD_cons_zero, List.getD_cons_succ] at d3
                        simp [go_sem, gives, frm, Act.put, nthR, detR, Region.wanted, Below.refl, d3]
                      | 5, _ =>
                        obtain rfl := Option.some.inj ho
                        intro u x hd
                        have hc := Past.cell x
                        have d4 := hd 4 (by decide) (by kernel_rfl)
                        simp only [nthR, detR, List.getD_cons_zero, List.getD_cons_succ] at d4
                        simp [go_sem, gives, frm, Act.put, nthR, detR, Region.wanted, Below.refl, hc, d4, ck, hbz]
                      | 6, _ =>
                        obtain rfl := Option.some.inj ho
                        intro u x hd
                        have hc := Past.cell x
                        simp [go_sem, gives, frm, Act.put, nthR, detR, Region.wanted, Below.refl]
                      | 7, _ =>
                        obtain rfl := Option.some.inj ho
                        intro u x hd
                        have hc := Past.cell x
                        simp [go_sem, gives, frm, Act.put, nthR, detR, Region.wanted, Below.refl]
                      | 8, _ =>
                        obtain rfl := Option.some.inj ho
                        intro u x hd
                        have hc := Past.cell x
                        have d6 := hd 6 (by decide) (by kernel_rfl)
                        have d7 := hd 7 (by decide) (by kernel_rfl)
                        simp only [nthR, detR, List.getD_cons_zero, List.getD_cons_succ] at d6 d7
                        simp [go_sem, gives, frm, Act.put, nthR, detR, Region.wanted, Below.refl, d6, d7, hit]
                      | 9, _ =>
                        obtain rfl := Option.some.inj ho
                        intro u x hd
                        have hc := Past.cell x
                        have d8 := hd 8 (by decide) (by kernel_rfl)
                        simp only [nthR, detR, List.getD_cons_zero, List.getD_cons_succ] at d8
                        simp [go_sem, gives, frm, Act.put, nthR, detR, Region.wanted, Below.refl, hc, d8, ct, htz]
                      | 10, _ =>
                        obtain rfl := Option.some.inj ho
                        intro u x hd
                        have hc := Past.cell x
                        have d5 := hd 5 (by decide) (by kernel_rfl)
                        have d9 := hd 9 (by decide) (by kernel_rfl)
                        simp only [nthR, detR, List.getD_cons_zero, List.getD_cons_succ] at d5 d9
                        simp [go_sem, gives, frm, Act.put, nthR, Region.wanted, d5, d9, detR]
                        exact HAT.out _ (HAk.out.past x.2)
                      | 11, _ =>
                        obtain rfl := Option.some.inj ho
                        intro u x hd
                        have hc := Past.cell x
                        have d0 := hd 0 (by decide) (by kernel_rfl)
                        simp only [nthR, detR, List.getD_cons_zero] at d0
                        have d10 := hd 10 (by decide) (by kernel_rfl)
                        simp only [nthR, detR, List.getD_cons_zero, List.getD_cons_succ] at d10
                        simp [go_sem, gives, frm, Act.put, nthR, Region.wanted, d0, detR, d10]
                        exact HAD.out _
                      | 12, _ =>
                        obtain rfl := Option.some.inj ho
                        intro u x hd
                        have hc := Past.cell x
                        have d11 := hd 11 (by decide) (by kernel_rfl)
                        simp only [nthR, detR, List.getD_cons_zero, List.getD_cons_succ] at d11
                        simp [go_sem, gives, frm, Act.put, nthR, Region.wanted, Below.refl, detR, Below.refl, d11]
                      | 13, _ =>
                        obtain rfl := Option.some.inj ho
                        intro u x hd
                        have hc := Past.cell x
                        have d12 := hd 12 (by decide) (by kernel_rfl)
                        simp only [nthR, detR, List.getD_cons_zero, List.getD_cons_succ] at d12
                        simp [go_sem, gives, frm, Act.put, nthR, Region.wanted, Below.refl, detR, d12]
                      | 14, _ =>
                        obtain rfl := Option.some.inj ho
                        intro u x hd
                        have hc := Past.cell x
                        have d12 := hd 12 (by decide) (by kernel_rfl)
                        simp only [nthR, detR, List.getD_cons_zero, List.getD_cons_succ] at d12
                        simp [go_sem, gives, frm, Act.put, nthR, Region.wanted, Below.refl, detR, d12]
                      | i + 15, h => exact absurd h (by omega)
                    · intro i o hx ho
                      simp only [List.mem_cons, List.not_mem_nil, or_false] at hx
                      rcases hx with rfl
                      · obtain rfl := Option.some.inj ho
                        refine ⟨rfl, fun _ _ _ _ h => h, fun u x hd => ?_⟩
                        have d12 := hd 12 (by decide) (by kernel_rfl)
                        simp only [nthR, detR, List.getD_cons_zero, List.getD_cons_succ] at d12
                        refine ⟨rfl, .int .i64 0, rfl, fun w' => ?_⟩
                        simp [go_sem, frm, Act.put, d12]
                    · intro u x hu hne
                      have d13 := hu 13 (by decide)
                      simp only [nthR, detR, List.getD_cons_zero, List.getD_cons_succ] at d13
                      have BWx := HBWW.out.past x.2
                      have BVx := HBV.out.past x.2
                      have hbx := bstep x.2 HBX2.out
                      have z0 := BWx.cell 0; have z1 := BWx.cell 1; have zf := BWx.free; have zz := BWx.lt
                      simp at z0 z1
                      simp only [frm, List.take, Act.put, d13]
                      clear d13 hu hne g0 g1 gz ct htz ck hbz
                      generalize x.1 = wz at *
                      go_wp2
                      go_roundg (l1.length - (k + 1))
                      case measure => have := HG5.out; omega
                      case rel =>
                        refine ⟨k + 1, by go_num, by omega, Nat.le_refl _, ?_, ?_, (hbx.setCell (p := ⟨wi.heap.size, 0, none⟩) (by simp) _).setCell (p := ⟨wi.heap.size, 1, none⟩) (by simp) _⟩
                        · rw [HE3.out]
                          simpa using (BWx.set 0 (.int .i64 rs.1)).set 1 (.int .i64 rs.2)
                        · exact (BVx.other (b := wi.heap.size) (i := 0) (by omega) (.int .i64 rs.1)).other (b := wi.heap.size) (i := 1) (by omega) (.int .i64 rs.2)
                  · have hk' : k = L.length := by have := HLN.out; omega
                    subst hk'
                    rw [List.take_length] at BW
                    have HSS := hidE BW
                    have HVV := hidE HBV.out
                    have HBJ := hidE hb2
                    have HPJ := hidE (HP2.out.past hb2)
                    have HUJ := hidE (HUS2.out.past hb2)
                    have HSJ := hidE (HSA2.out.past hb2)
                    have HTJ := hidE (And.intro (Nat.lt_of_lt_of_le HTC.out.1 hb2.size) ((hb2.cell (p := ⟨bt, ot + i, none⟩) HTC.out.1).trans HTC.out.2))
                    have HUL := hidE (show (usersS L).length ≤ 128 by have := usersS_len L; have := HGD.out.few; omega)
                    have HZJ := hidE hb2.size
                    clear BW hb2 HBV HG5 hk2
                    obtain ⟨ss, hss⟩ : ∃ ss, pSum L t = ss := ⟨_, rfl⟩
                    rw [hss] at HSS
                    have HQS := hidE hss
                    clear hss
                    obtain ⟨wj, hwj⟩ : ∃ wj : World, wj = wr := ⟨_, rfl⟩
                    subst hwj
                    obtain ⟨o1, ho1⟩ : ∃ o1, o1 = wi.heap.size := ⟨_, rfl⟩
                    obtain ⟨o2, ho2⟩ : ∃ o2, o2 = wi.heap.size + 1 := ⟨_, rfl⟩
                    have HO12 := hidE (show o1 < o2 by omega)
                    rw [← ho1] at HSS
                    rw [← ho2] at HVV
                    have HO1 := hidE (show wi.heap.size ≤ o1 by omega)
                    rw [← ho2, ← ho1]
                    clear ho1 ho2
                    go_wp2
                    go_loopg [17] (usersS L).length (fun gh v17 wx => ∃ k : Nat, v17 = .int .i64 k ∧ k ≤ (usersS L).length ∧ (usersS L).length - k ≤ gh ∧ Blk wx o1 #[.int .i64 ss.1, .int .i64 ss.2] 65 ∧ Blk wx o2 #[.int .i64 (pSum (ofUs L ((usersS L).take k)) t).1, .int .i64 (pSum (ofUs L ((usersS L).take k)) t).2] 65 ∧ Below wi.heap.size wi wx)
                    case atStart => exact ⟨0, rfl, by omega, by omega, HSS.out, by rw [List.take_zero, ofUs_nil, pSum_nil]; exact HVV.out, HBJ.out⟩
                    case round =>
                      obtain ⟨k, rfl, hk2, hg5, BS, BW, hb2⟩ := hrel
                      have HBX3 := hidE hb2; have HBS := hidE BS; have HG5 := hidE hg5
                      clear BS hg5
                      have ct : wr.cell? ⟨bt, ot + i, none⟩ = some (.int .i64 t) := (hb2.cell (p := ⟨bt, _, none⟩) HTC.out.1).trans HTC.out.2
                      have htz : bt < wr.heap.size := Nat.lt_of_lt_of_le HTC.out.1 hb2.size
                      by_cases hkl : k < (usersS L).length
                      · have HNXT := hidE (us_add HGD.out hkl t)
                        have hk128 : k < 128 := by have := HUL.out; omega
                        obtain ⟨_, _, e0, hU⟩ := HUS2.out.past hb2
                        cases e0
                        obtain ⟨bu, rfl, hbz, hcu⟩ := hU (by omega)
                        have ck := hcu k hkl
                        have HPK := hidE (HP2.out.past hb2)
                        have HNM := hidE (users_name HGD.out hkl)
                        clear hcu hU
                        generalize (usersS L).getD k [] = us at *
                        obtain ⟨pp, hpp⟩ : ∃ pp, pSum (ofUs L ((usersS L).take k)) t = pp := ⟨_, rfl⟩
                        obtain ⟨rs, hrs⟩ : ∃ rs, pSum (ofUs L ((usersS L).take (k + 1))) t = rs := ⟨_, rfl⟩
                        obtain ⟨qq, hqq⟩ : ∃ qq, pSum (ofU L us) t = qq := ⟨_, rfl⟩
                        rw [hpp] at BW
                        rw [hpp, hrs, hqq] at HNXT
                        have HAD := hidE (fun w => show Calls Tryz.prog 26 #[V pp.1 pp.2, V qq.1 qq.2] w fun e w' => e = .returned (VE (rs.1, rs.2, 0)) ∧ Below w.heap.size w w' from by
                          have := radd pp.1 pp.2 qq.1 qq.2 w
                          rw [HNXT.out] at this; exact this)
                        have HQQ := hidE hqq
                        have HE3 := hidE hrs
                        have g0 := BW.cell 0; have g1 := BW.cell 1; have gz := BW.lt
                        simp at g0 g1
                        have HBWW := hidE BW
                        clear hpp hrs hqq HNXT BW hb2 hk2
                        go_wp2_with fail
                        refine wp_region_J 16 [15] (nthR [detR (V pp.1 pp.2), detR (.pointer (some ⟨p, 0, none⟩)), detR (.slice (some ⟨bu, 0, none⟩) (usersS L).length cU), detR (.int .i64 k), detR (.pointer (some ⟨bu, k, none⟩)), detR (nmV us), ldR (fnsS (ofU L us)), detR (.slice (some ⟨bt, ot, none⟩) nI cI), detR (.int .i64 i), detR (.pointer (some ⟨bt, ot + i, none⟩)), detR (.int .i64 t), detR (V qq.1 qq.2), detR (VE (rs.1, rs.2, 0)), detR (VE (rs.1, rs.2, 0)), detR (V rs.1 rs.2), detR (.int .i64 0)]) (fun _ => false) (by kernel_rfl) (by decide) (by kernel_rfl) (stab_nth (by intro r hr; simp only [List.mem_cons, List.not_mem_nil, or_false] at hr; rcases hr with rfl | rfl | rfl | rfl | rfl | rfl | rfl | rfl | rfl | rfl | rfl | rfl | rfl | rfl | rfl | rfl <;> first | exact stab_det _ | exact stab_ld _)) ?_ ?_ ?_
                        · intro i o hi ho
                          match i, hi with
                          | 0, _ =>
                            obtain rfl := Option.some.inj ho
                            intro u x hd
                            have hc := Past.cell x
                            simp [go_sem, gives, frm, Act.put, nthR, detR, Region.wanted, Below.refl, hc, g0, g1, gz]
                          | 1, _ =>
                            obtain rfl := Option.some.inj ho
                            intro u x hd
                            have hc := Past.cell x
                            simp [go_sem, gives, frm, Act.put, nthR, detR, Region.wanted, Below.refl]
                          | 2, _ =>
                            obtain rfl := Option.some.inj ho
                            intro u x hd
                            have hc := Past.cell x
                            simp [go_sem, gives, frm, Act.put, nthR, detR, Region.wanted, Below.refl]
                          | 3, _ =>
                            obtain rfl := Option.some.inj ho
                            intro u x hd
                            have hc := Past.cell x
                            simp [go_sem, gives, frm, Act.put, nthR, detR, Region.wanted, Below.refl]
                          | 4, _ =>
                            obtain rfl := Option.some.inj ho
                            intro u x hd
                            have hc := Past.cell x
                            have d2 := hd 2 (by decide) (by kernel_rfl)
                            have d3 := hd 3 (by decide) (by kernel_rfl)
                            simp only [nthR, detR, List.getD_cons_zero, List.getD_cons_succ] at d2 d3
                            simp [go_sem, gives, frm, Act.put, nthR, detR, Region.wanted, Below.refl, d2, d3, hkl]
                          | 5, _ =>
                            obtain rfl := Option.some.inj ho
                            intro u x hd
                            have hc := Past.cell x
                            have d4 := hd 4 (by decide) (by kernel_rfl)
                            simp only [nthR, detR, List.getD_cons_zero, List.getD_cons_succ] at d4
                            simp [go_sem, gives, frm, Act.put, nthR, detR, Region.wanted, Below.refl, hc, d4, ck, hbz]
                          | 6, _ =>
                            obtain rfl := Option.some.inj ho
                            intro u x hd
                            have hc := Past.cell x
                            have d1 := hd 1 (by decide) (by kernel_rfl)
                            have d5 := hd 5 (by decide) (by kernel_rfl)
                            simp only [nthR, detR, List.getD_cons_zero, List.getD_cons_succ] at d1 d5
                            simp [go_sem, gives, frm, Act.put, nthR, Region.wanted, d1, d5]
                            (with_reducible refine (user_f us _ (HPK.out.past (Past.prop x)) HNM.out).mono ?_); rintro e w3 ⟨v, rfl, hv3, hb3⟩; exact ⟨_, rfl, hb3, hv3⟩
                          | 7, _ =>
                            obtain rfl := Option.some.inj ho
                            intro u x hd
                            have hc := Past.cell x
                            simp [go_sem, gives, frm, Act.put, nthR, detR, Region.wanted, Below.refl]
                          | 8, _ =>
                            obtain rfl := Option.some.inj ho
                            intro u x hd
                            have hc := Past.cell x
                            simp [go_sem, gives, frm, Act.put, nthR, detR, Region.wanted, Below.refl]
                          | 9, _ =>
                            obtain rfl := Option.some.inj ho
                            intro u x hd
                            have hc := Past.cell x
                            have d7 := hd 7 (by decide) (by kernel_rfl)
                            have d8 := hd 8 (by decide) (by kernel_rfl)
                            simp only [nthR, detR, List.getD_cons_zero, List.getD_cons_succ] at d7 d8
                            simp [go_sem, gives, frm, Act.put, nthR, detR, Region.wanted, Below.refl, d7, d8, hit]
                          | 10, _ =>
                            obtain rfl := Option.some.inj ho
                            intro u x hd
                            have hc := Past.cell x
                            have d9 := hd 9 (by decide) (by kernel_rfl)
                            simp only [nthR, detR, List.getD_cons_zero, List.getD_cons_succ] at d9
                            simp [go_sem, gives, frm, Act.put, nthR, detR, Region.wanted, Below.refl, hc, d9, ct, htz]
                          | 11, _ =>
                            obtain rfl := Option.some.inj ho
                            intro u x hd
                            have hc := Past.cell x
                            have d10 := hd 10 (by decide) (by kernel_rfl)
                            simp only [nthR, detR, List.getD_cons_zero, List.getD_cons_succ] at d10
                            have h6 : ldR (fnsS (ofU L us)) (u 6) x.1 := hd 6 (by decide) (by kernel_rfl)
                            obtain ⟨A6, ⟨a6, c6, e6, p6, q6, hA6⟩, hl6⟩ := h6
                            have hv6 := loads_at hl6 t
                            rw [HQQ.out] at hv6
                            simp [go_sem, gives, frm, Act.put, nthR, Region.wanted, d10, detR, e6]
                            have hln := loads_len HGD.out (ofU_sub L us) hl6
                            have hat := rat_c A6 a6 c6 t x.1 (by omega) hA6
                            rw [hv6] at hat
                            exact hat
                          | 12, _ =>
                            obtain rfl := Option.some.inj ho
                            intro u x hd
                            have hc := Past.cell x
                            have d0 := hd 0 (by decide) (by kernel_rfl)
                            simp only [nthR, detR, List.getD_cons_zero] at d0
                            have d11 := hd 11 (by decide) (by kernel_rfl)
                            simp only [nthR, detR, List.getD_cons_zero, List.getD_cons_succ] at d11
                            simp [go_sem, gives, frm, Act.put, nthR, Region.wanted, d0, detR, d11]
                            exact HAD.out _
                          | 13, _ =>
                            obtain rfl := Option.some.inj ho
                            intro u x hd
                            have hc := Past.cell x
                            have d12 := hd 12 (by decide) (by kernel_rfl)
                            simp only [nthR, detR, List.getD_cons_zero, List.getD_cons_succ] at d12
                            simp [go_sem, gives, frm, Act.put, nthR, Region.wanted, Below.refl, detR, Below.refl, d12]
                          | 14, _ =>
                            obtain rfl := Option.some.inj ho
                            intro u x hd
                            have hc := Past.cell x
                            have d13 := hd 13 (by decide) (by kernel_rfl)
                            simp only [nthR, detR, List.getD_cons_zero, List.getD_cons_succ] at d13
                            simp [go_sem, gives, frm, Act.put, nthR, Region.wanted, Below.refl, detR, d13]
                          | 15, _ =>
                            obtain rfl := Option.some.inj ho
                            intro u x hd
                            have hc := Past.cell x
                            have d13 := hd 13 (by decide) (by kernel_rfl)
                            simp only [nthR, detR, List.getD_cons_zero, List.getD_cons_succ] at d13
                            simp [go_sem, gives, frm, Act.put, nthR, Region.wanted, Below.refl, detR, d13]
                          | i + 16, h => exact absurd h (by omega)
                        · intro i o hx ho
                          simp only [List.mem_cons, List.not_mem_nil, or_false] at hx
                          rcases hx with rfl
                          · obtain rfl := Option.some.inj ho
                            refine ⟨rfl, fun _ _ _ _ h => h, fun u x hd => ?_⟩
                            have d13 := hd 13 (by decide) (by kernel_rfl)
                            simp only [nthR, detR, List.getD_cons_zero, List.getD_cons_succ] at d13
                            refine ⟨rfl, .int .i64 0, rfl, fun w' => ?_⟩
                            simp [go_sem, frm, Act.put, d13]
                        · intro u x hu hne
                          have d14 := hu 14 (by decide)
                          simp only [nthR, detR, List.getD_cons_zero, List.getD_cons_succ] at d14
                          have BWx := HBWW.out.past x.2
                          have BVx := HBS.out.past x.2
                          have hbx := bstep x.2 HBX3.out
                          have z0 := BWx.cell 0; have z1 := BWx.cell 1; have zf := BWx.free; have zz := BWx.lt
                          simp at z0 z1
                          simp only [frm, List.take, Act.put, d14]
                          clear d14 hu hne g0 g1 gz ct htz ck hbz
                          generalize x.1 = wz at *
                          generalize u 6 = y6 at *
                          have ho1 := HO1.out; have ho12 := HO12.out
                          go_wp2
                          go_roundg ((usersS L).length - (k + 1))
                          case measure => have := HG5.out; omega
                          case rel =>
                            refine ⟨k + 1, by go_num, by omega, Nat.le_refl _, ?_, ?_, (hbx.setCell (p := ⟨o2, 0, none⟩) (by simp; omega) _).setCell (p := ⟨o2, 1, none⟩) (by simp; omega) _⟩
                            · exact (BVx.other (b := o2) (i := 0) (by omega) (.int .i64 rs.1)).other (b := o2) (i := 1) (by omega) (.int .i64 rs.2)
                            · rw [HE3.out]
                              simpa using (BWx.set 0 (.int .i64 rs.1)).set 1 (.int .i64 rs.2)
                      · have hk' : k = (usersS L).length := by omega
                        subst hk'
                        rw [List.take_length, ofUs_all, HQS.out] at BW
                        have HAT := hidE (fun w (hS : SliS w (.slice aS A.length cS) A) => show Calls Tryz.prog 27 #[.slice aS A.length cS, .int .i64 t] w fun e w' => e = .returned (V ss.1 ss.2) ∧ Below w.heap.size w w' from by
                          have h1 := loads_at HLD.out t
                          rw [HQS.out] at h1
                          obtain ⟨_, q1, q2, q3⟩ := hS.len
                          have hln := loads_len HGD.out (List.Sublist.refl L) HLD.out
                          have := rat_c A aS cS t w (by omega) q3
                          rw [h1] at this; exact this)
                        have BS := HBS.out
                        have g0 := BW.cell 0; have g1 := BW.cell 1; have gz := BW.lt
                        have k0 := BS.cell 0; have k1 := BS.cell 1; have kz := BS.lt
                        simp at g0 g1 k0 k1
                        have HBK := hidE (bstep hb2 HBT.out)
                        have HSK := hidE (HSA2.out.past hb2)
                        clear BS BW hb2
                        go_wp2_with fail
                        refine wp_region_past_lit (by kernel_rfl) (by kernel_rfl) ?_
                        have hcp := Past.cell (W := wr)
                        repeat (go_big_quiet_step ((go_at_call 27; exact Past.call _ (HAT.out _ (HSK.out.past (Past.prop _))))))
                        refine wpQuiet_nil ?_
                        rintro _ ⟨x', rfl⟩
                        have HBL := hidE (bstep x'.2 HBK.out)
                        clear hcp g0 g1 gz k0 k1 kz ct htz
                        generalize x'.1 = wl at *
                        go_wp2
                        go_roundg (nI - (i + 1))
                        case measure => have := HG.out; omega
                        case rel => exact ⟨i + 1, by go_num, by omega, Nat.le_refl _, HBL.out⟩
              · have HPK := hidE (HP.out.past HBT.out); have HLK := hidE (HL.out.past HBT.out); have HRK := hidE (HRR.out.past HBT.out); have HSK := hidE (HSA.out.past HBT.out); have HBK := hidE (bstep HBT.out HB.out)
                have HBR := hidE (HBX.out.past HBT.out)
                have HGL := hidE HPK.out.good
                have HRW := hidE (HR.out.past HBK.out)
                clear hi HUS
                obtain ⟨⟨M, f⟩, hd⟩ : ∃ q, doP L [(0, r)] = q := ⟨_, rfl⟩
                have HD := hidE hd
                clear hd
                obtain ⟨wk, hwk⟩ : ∃ wk : World, wk = wr := ⟨_, rfl⟩
                subst hwk
                have q0 := HBR.out.cell 0; have q1 := HBR.out.cell 1; have q2 := HBR.out.cell 2; have q3 := HBR.out.cell 3; have q4 := HBR.out.cell 4; have q5 := HBR.out.cell 5; have q6 := HBR.out.cell 6; have q7 := HBR.out.cell 7; have qz := HBR.out.lt
                simp at q0 q1 q2 q3 q4 q5 q6 q7
                go_wp2_with fail
                have hba : Below wk.heap.size wk (wk.alloc (Obj.cells #[.int .u8 0, .int .u32 rid, .int .u32 rsq, nmV ru, .int .i64 rf, .int .i64 rt, .slice aT nT cT, .slice aW nW cW, .slice aA nA cA] 52)) := (Below.refl _ _).alloc (Nat.le_refl _) _
                have HPA := hidE (HPK.out.past hba)
                have HBA := hidE (bstep hba HBK.out)
                have HCA := hidE (show SliCh (wk.alloc (Obj.cells #[.int .u8 0, .int .u32 rid, .int .u32 rsq, nmV ru, .int .i64 rf, .int .i64 rt, .slice aT nT cT, .slice aW nW cW, .slice aA nA cA] 52)) (.slice (some ⟨wk.heap.size, 0, none⟩) 1 1) [(0, (⟨rid, rsq, ru, rf, rt, .slice aT nT cT, .slice aW nW cW, .slice aA nA cA⟩ : Rw))] from sliCh_blk (n := 1) (Blk.made _ _ _) rfl rfl (by omega))
                have HFA := hidE (chsF_cons (chsF_nil _) (q := (0, (⟨rid, rsq, ru, rf, rt, .slice aT nT cT, .slice aW nW cW, .slice aA nA cA⟩ : Rw))) (c := (0, r)) rfl ⟨by simp, by simp⟩ (HRW.out.past hba) HSM.out)
                ((with_reducible refine (do_f _ HPA.out HCA.out HFA.out (by simp) HD.out).mono ?_); rintro e w6 ⟨rfl, hg6, hP6, _⟩)
                have HBE := hidE (HPA.out.base HBA.out hg6 (Nat.le_of_lt HPZ.out))
                have HBR := hidE ((HBR.out.past hba).grown hg6 (by have := HPZ.out; simp; omega))
                have HKI := hidE (keepI_grown hg6 HPA.out.noInt)
                have HLE := hidE ((HLK.out.past hba).keepI HKI.out); have HRE := hidE ((HRK.out.past hba).keepI HKI.out); have HSE := hidE ((HSK.out.past hba).keepI HKI.out)
                have HPE := hidE hP6
                clear hba hg6 hP6 HPA HBA HCA HFA HKI HPK HLK HRK HSK HBK HRW
                clear q0 q1 q2 q3 q4 q5 q6 q7 qz
                by_cases hf : f = 0
                · subst hf
                  obtain ⟨hok, hpm, hgm, hdel⟩ := do_add HGL.out HD.out
                  have HPM := hidE hpm; have HGM := hidE hgm; have HDEL := hidE hdel
                  obtain ⟨C, hC1, hC2⟩ := load_more hgm hpm HLD.out
                  have HC1 := hidE hC1; have HC2 := hidE hC2
                  have HAL := hidE (loads_len HGL.out (List.Sublist.refl L) HLD.out)
                  have HRA := hidE (rok_len hok)
                  clear hok hpm hgm hdel hC1 hC2
                  have q0 := HBR.out.cell 0; have q1 := HBR.out.cell 1; have q2 := HBR.out.cell 2; have q3 := HBR.out.cell 3; have q4 := HBR.out.cell 4; have q5 := HBR.out.cell 5; have q6 := HBR.out.cell 6; have q7 := HBR.out.cell 7; have qz := HBR.out.lt
                  simp at q0 q1 q2 q3 q4 q5 q6 q7
                  go_wp2_with fail
                  have hba : Below w6.heap.size w6 (w6.alloc (Obj.cells #[.slice aS A.length cS, .slice aA nA cA] 22)) := (Below.refl _ _).alloc (Nat.le_refl _) _
                  have HSB := hidE (HSE.out.past hba)
                  have HAB := hidE (show SliS (w6.alloc (Obj.cells #[.slice aS A.length cS, .slice aA nA cA] 22)) (.slice aA nA cA) r.A from (HR.out.a.1).past (bstep hba HBE.out))
                  ((with_reducible refine (rsum_p (Blk.made _ _ _) HSB.out HAB.out (by have := HAL.out; have := HRA.out; omega) HC1.out).mono ?_); rintro e w7 ⟨v7, rfl, hv7, hb7⟩)
                  have hbb := bstep hb7 hba
                  have HPE := hidE (HPE.out.past hbb); have HBE := hidE (bstep hbb HBE.out); have HLE := hidE (HLE.out.past hbb); have HRE := hidE (HRE.out.past hbb); have HSE := hidE (HSE.out.past hbb); have HBR := hidE (HBR.out.past hbb)
                  obtain ⟨a7, c7, rfl, _, _, _⟩ := id hv7
                  have HV7 := hidE hv7
                  clear hba HSB HAB hb7 hbb hv7
                  clear q0 q1 q2 q3 q4 q5 q6 q7 qz
                  go_wp2_with fail
                  ((with_reducible refine (load_f _ HPE.out).mono ?_); rintro e w8 ⟨v8, rfl, hd8, hbe⟩)
                  have HPE := hidE (HPE.out.past hbe); have HBE := hidE (bstep hbe HBE.out); have HLE := hidE (HLE.out.past hbe); have HRE := hidE (HRE.out.past hbe); have HSE := hidE (HSE.out.past hbe); have HBR := hidE (HBR.out.past hbe); have HV7 := hidE (HV7.out.past hbe)
                  have HD8 := hidE (ld_is hd8 HC2.out)
                  clear hbe hd8
                  go_wp2_with fail
                  ((with_reducible refine (rsame_v HD8.out HV7.out).mono ?_); rintro e w9 ⟨rfl, hbe⟩)
                  have HPE := hidE (HPE.out.past hbe); have HBE := hidE (bstep hbe HBE.out); have HLE := hidE (HLE.out.past hbe); have HRE := hidE (HRE.out.past hbe); have HSE := hidE (HSE.out.past hbe); have HBR := hidE (HBR.out.past hbe)
                  clear hbe HD8 HV7
                  have q0 := HBR.out.cell 0; have q1 := HBR.out.cell 1; have q2 := HBR.out.cell 2; have q3 := HBR.out.cell 3; have q4 := HBR.out.cell 4; have q5 := HBR.out.cell 5; have q6 := HBR.out.cell 6; have q7 := HBR.out.cell 7; have qz := HBR.out.lt
                  simp at q0 q1 q2 q3 q4 q5 q6 q7
                  go_wp2_with fail
                  have hba : Below w9.heap.size w9 (w9.alloc (Obj.cells #[.int .u8 2, .int .u32 rid, .int .u32 0, nmV [], .int .i64 0, .int .i64 0, .slice none 0 0, .slice none 0 0, .slice none 0 0] 52)) := (Below.refl _ _).alloc (Nat.le_refl _) _
                  have HPA := hidE (HPE.out.past hba)
                  have HBA := hidE (bstep hba HBE.out)
                  have HCA := hidE (show SliCh (w9.alloc (Obj.cells #[.int .u8 2, .int .u32 rid, .int .u32 0, nmV [], .int .i64 0, .int .i64 0, .slice none 0 0, .slice none 0 0, .slice none 0 0] 52)) (.slice (some ⟨w9.heap.size, 0, none⟩) 1 1) [(2, (⟨rid, 0, [], 0, 0, .slice none 0 0, .slice none 0 0, .slice none 0 0⟩ : Rw))] from sliCh_blk (n := 1) (Blk.made _ _ _) rfl rfl (by omega))
                  have HFA := hidE (chsF_cons (chsF_nil (w9.alloc (Obj.cells #[.int .u8 2, .int .u32 rid, .int .u32 0, nmV [], .int .i64 0, .int .i64 0, .slice none 0 0, .slice none 0 0, .slice none 0 0] 52))) (q := (2, (⟨rid, 0, [], 0, 0, .slice none 0 0, .slice none 0 0, .slice none 0 0⟩ : Rw))) (c := (2, (⟨rid, 0, [], 0, 0, [], [], []⟩ : Rv))) rfl ⟨by simp, by simp⟩ (rwF_del _ rid) ⟨by simp, by simp, by simp, by simp⟩)
                  ((with_reducible refine (do_f _ HPA.out HCA.out HFA.out (by simp) (HDEL.out _ HR.out.id)).mono ?_); rintro e wa ⟨rfl, hga, hPa, _⟩)
                  have HBE := hidE (HPA.out.base HBA.out hga (Nat.le_of_lt HPZ.out))
                  have HKI := hidE (keepI_grown hga HPA.out.noInt)
                  have HLE := hidE ((HLE.out.past hba).keepI HKI.out); have HRE := hidE ((HRE.out.past hba).keepI HKI.out); have HSE := hidE ((HSE.out.past hba).keepI HKI.out)
                  have HPE := hidE hPa
                  clear hba hga hPa HPA HBA HCA HFA HKI
                  clear q0 q1 q2 q3 q4 q5 q6 q7 qz
                  go_wp2_with fail
                  ((with_reducible refine (list_f _ HPE.out).mono ?_); rintro e e1 ⟨v1, l2, rfl, hl2, hr2, hbe⟩)
                  have HPE := hidE (HPE.out.past hbe); have HBE := hidE (bstep hbe HBE.out); have HLE := hidE (HLE.out.past hbe); have HRE := hidE (HRE.out.past hbe); have HSE := hidE (HSE.out.past hbe)
                  have HL2 := hidE hl2; have HR2 := hidE hr2
                  clear hl2 hr2 hbe
                  go_wp2_with fail
                  ((with_reducible refine (rsameall_t _ HL2.out HLE.out HR2.out HRE.out).mono ?_); rintro e e2 ⟨rfl, hbe⟩)
                  have HPE := hidE (HPE.out.past hbe); have HBE := hidE (bstep hbe HBE.out); have HSE := hidE (HSE.out.past hbe)
                  clear hbe HL2 HR2 HLE HRE
                  go_wp2_with fail
                  ((with_reducible refine (load_f _ HPE.out).mono ?_); rintro e e3 ⟨v3, rfl, hd3, hbe⟩)
                  have HBE := hidE (bstep hbe HBE.out); have HSE := hidE (HSE.out.past hbe)
                  have HD3 := hidE (ld_is hd3 HLD.out)
                  clear hbe hd3
                  go_wp2_with fail
                  ((with_reducible refine (rsame_v HD3.out HSE.out).mono ?_); rintro e e4 ⟨rfl, hbe⟩)
                  have HBE := hidE (bstep hbe HBE.out)
                  clear hbe
                  go_wp2_with fail
                  ((with_reducible refine (HH.out _).mono ?_); rintro e wh ⟨rfl, hbh⟩)
                  go_wp2
                  go_ret
                  exact ⟨rfl, bstep hbh HBE.out⟩
                · have hML := do_bad HD.out hf
                  subst hML
                  have n1 : (f == 0) = false := beq_eq_false_iff_ne.2 hf
                  clear hf
                  go_wp2_with fail
                  ((with_reducible refine (list_f _ HPE.out).mono ?_); rintro e e1 ⟨v1, l2, rfl, hl2, hr2, hbe⟩)
                  have HPE := hidE (HPE.out.past hbe); have HBE := hidE (bstep hbe HBE.out); have HLE := hidE (HLE.out.past hbe); have HRE := hidE (HRE.out.past hbe); have HSE := hidE (HSE.out.past hbe)
                  have HL2 := hidE hl2; have HR2 := hidE hr2
                  clear hl2 hr2 hbe
                  go_wp2_with fail
                  ((with_reducible refine (rsameall_t _ HL2.out HLE.out HR2.out HRE.out).mono ?_); rintro e e2 ⟨rfl, hbe⟩)
                  have HPE := hidE (HPE.out.past hbe); have HBE := hidE (bstep hbe HBE.out); have HSE := hidE (HSE.out.past hbe)
                  clear hbe HL2 HR2 HLE HRE
                  go_wp2_with fail
                  ((with_reducible refine (load_f _ HPE.out).mono ?_); rintro e e3 ⟨v3, rfl, hd3, hbe⟩)
                  have HBE := hidE (bstep hbe HBE.out); have HSE := hidE (HSE.out.past hbe)
                  have HD3 := hidE (ld_is hd3 HLD.out)
                  clear hbe hd3
                  go_wp2_with fail
                  ((with_reducible refine (rsame_v HD3.out HSE.out).mono ?_); rintro e e4 ⟨rfl, hbe⟩)
                  have HBE := hidE (bstep hbe HBE.out)
                  clear hbe
                  go_wp2_with fail
                  ((with_reducible refine (HH.out _).mono ?_); rintro e wh ⟨rfl, hbh⟩)
                  go_wp2
                  go_ret
                  exact ⟨rfl, bstep hbh HBE.out⟩
    · clear HF2 HFW
      go_wp2_with fail
      ((with_reducible refine (HH.out _).mono ?_); rintro e wh ⟨rfl, hbh⟩)
      go_wp2
      go_ret
      exact ⟨rfl, bstep hbh HB2.out⟩
  · clear HF1
    go_wp2_with fail
    ((with_reducible refine (HH.out _).mono ?_); rintro e wh ⟨rfl, hbh⟩)
    go_wp2
    go_ret
    exact ⟨rfl, bstep hbh HB1.out⟩
end Go.Proofs.YtjhhcljbmnomlaaGreat
