/- The walk of the statement on begins and what fits. Conditions: that the slices read as functions and legs. -/
import Derived.Test.YtmjfogmpbidooaaSFGC
import Derived.Test.YtmjfogmpbidooaaSFGD
namespace Go.Proofs.Ytmjfogmpbidooaa
open Go.ChangeShapes Go.WideShapes Go.ChangeAt Go.RowKit
attribute [local irreducible] Go.Calls

theorem sliF_len {w : World} {a : Option Addr} {n c : Nat} {l : List Sg} (h : SliS w (.slice a n c) l) : n = l.length ∧ n ≤ c ∧ c ≤ 9223372036854775807 ∧ ArgS w a l := by
  obtain ⟨a', c', e, q1, q2, q3⟩ := h
  cases e
  exact ⟨rfl, q1, q2, q3⟩
/-- What stays in memory. -/
structure SfI (F l : List Sg) (f1 f3 : Option Addr) (n1 c1 n3 c3 : Nat) (a b : Int) (pW : Nat) (w W : World) : Prop where
  win : Blk W pW #[.int .i64 a, .int .i64 b] 24
  s1 : SliS W (.slice f1 n1 c1) F
  s3 : SliS W (.slice f3 n3 c3) l
  bel : Below w.heap.size w W
section
variable {F l : List Sg} {f1 f3 : Option Addr} {n1 c1 n3 c3 : Nat} {a b : Int}
theorem SfI.past {pW : Nat} {w W W' : World} (h : SfI F l f1 f3 n1 c1 n3 c3 a b pW w W) (hb : Below W.heap.size W W') : SfI F l f1 f3 n1 c1 n3 c3 a b pW w W' :=
  ⟨h.win.past hb, h.s1.past hb, h.s3.past hb, bstep hb h.bel⟩
set_option maxRecDepth 100000 in
set_option maxHeartbeats 16000000 in
theorem sfits_c (w : World) (S1 : SliS w (.slice f1 n1 c1) F) (S3 : SliS w (.slice f3 n3 c3) l) (ha : -9223372036854775808 ≤ a ∧ a ≤ 9223372036854775807) (hb : -9223372036854775808 ≤ b ∧ b ≤ 9223372036854775807) :
    Calls Try.prog 3 #[.slice f1 n1 c1, V a b, .slice f3 n3 c3] w fun e w' => e = .returned (.bool true) ∧ Below w.heap.size w w' := by
  have HH := hidE (fun w => shead_c w)
  obtain ⟨pW, hpW⟩ : ∃ z, z = w.heap.size := ⟨_, rfl⟩
  have HNL := hidE (show n1 ≤ 9223372036854775807 ∧ n3 ≤ 9223372036854775807 by have q1 := sliF_len S1; have q3 := sliF_len S3; omega)
  have hg3 : n3 ≤ 9223372036854775807 := HNL.out.2
  go_enter Try.func3, Try.ntmps3
  go_upto_region 1 with fail
  obtain ⟨w1, hw⟩ : ∃ z, z = w.alloc (Obj.cells #[.int .i64 a, .int .i64 b] 24) := ⟨_, rfl⟩
  have hb1 : Below w.heap.size w w1 := by rw [hw]; exact (Below.refl _ _).alloc (Nat.le_refl _) _
  have HI := hidE (show SfI F l f1 f3 n1 c1 n3 c3 a b pW w w1 from ⟨by rw [hw, hpW]; exact Blk.made _ _ _, S1.past hb1, S3.past hb1, hb1⟩)
  rw [← hw, ← hpW]
  clear hw hb1 S1 S3 hpW
  have HG := hidE (fun w => sgreat_c f1 f3 n1 n3 c1 c3 a b w ha hb HNL.out.1 HNL.out.2)
  have x0 := HI.out.win.cell 0; have x1 := HI.out.win.cell 1; have xz := HI.out.win.lt
  simp at x0 x1
  go_wp2_with fail
  ((with_reducible refine (HG.out _).mono ?_); rintro e w2 ⟨rfl, hb2⟩)
  have HI := hidE (HI.out.past hb2)
  clear hb2 x0 x1 xz HG
  cases hg : grB n1 n3 a b with
  | true =>
    go_wp2_with fail
    ((with_reducible refine (HH.out _).mono ?_); rintro e wza ⟨rfl, hbz⟩)
    go_wp2
    go_ret
    exact ⟨rfl, bstep hbz HI.out.bel⟩
  | false =>
    obtain ⟨k1, k3, k4⟩ := grB_no hg
    clear hg
    have HK := hidE (show n1 ≤ 60 ∧ n3 ≤ 30 from ⟨k1, k3⟩)
    clear k1 k3 k4
    obtain ⟨A, hA⟩ : ∃ A, A = begS F a b l := ⟨_, rfl⟩
    obtain ⟨LA, ea⟩ := A
    have HA := hidE hA
    clear hA
    have x0 := HI.out.win.cell 0; have x1 := HI.out.win.cell 1; have xz := HI.out.win.lt
    simp at x0 x1
    go_wp2_with fail
    ((with_reducible refine (begins_eq HI.out.s1 HI.out.s3 (by have := HK.out; omega) (by have := HK.out; omega) ha hb HA.out.symm).mono ?_); rintro e w3 ⟨aA, cA, rfl, hsA, hb3⟩)
    have HI := hidE (HI.out.past hb3)
    have HLN := hidE (show (LA.length : Int) ≤ 4096 from by have := begS_len (F := F) (l := l) (a := a) (b := b); rw [← HA.out] at this; exact this)
    have SA := hidE (sliVs_len (show SliVs w3 (.slice aA LA.length cA) LA from hsA)).2.2.2
    clear hb3 hsA x0 x1 xz
    by_cases h0 : ea = 0
    · subst h0
      have hE0 : slotE F a b l = 0 := by rw [← begS_err, ← HA.out]
      have hA1 : (begS F a b l).1 = LA := by rw [← HA.out]
      have HE0 := hidE hE0; have HA1 := hidE hA1
      have HCW := hidE (show CW LA from by have i1 := begS_is (show (begS F a b l).2 = 0 by rw [begS_err]; exact hE0); rw [hA1] at i1; exact i1.1)
      have HIN := hidE (fun x (hx : x ∈ LA) => show a ≤ x.1 ∧ x.2 ≤ b ∧ x.1 < x.2 from begS_inW hE0 (by rw [hA1]; exact hx))
      have HZ := hidE (slotE_zero hE0)
      have hz := slotE_zero hE0
      have hab : (-1099511627776 ≤ a ∧ a < b) ∧ b ≤ 1099511627776 := by have := hz.2.2.1; have := hz.2.2.2.1; omega
      clear hE0 hA1 hz
      obtain ⟨N, hN⟩ : ∃ N, N = LA.length := ⟨_, rfl⟩
      have hN4 : N ≤ 4096 := by have := HLN.out; omega
      have HNN := hidE hN
      rw [← hN]
      clear hN
      have e0 : ((0 : Int) != 0) = false := rfl
      have HI3 := hidE HI.out
      clear HI
      have hpz := HI3.out.win.lt
      go_wp2
      clear hpz
      go_loopg [9] N (fun gh v9 wr => ∃ i : Nat, N - i ≤ gh ∧ i ≤ N ∧ v9 = .int .i64 i ∧ Below w3.heap.size w3 wr)
      case atStart => exact ⟨0, Nat.sub_le _ _, Nat.zero_le _, rfl, Below.refl _ _⟩
      case round =>
        obtain ⟨i, hgh, hi, rfl, hbw⟩ := hrel
        have HGH := hidE hgh; have HBW := hidE hbw
        clear hgh
        have HI := hidE (HI3.out.past hbw)
        by_cases hlt : i < N
        · have d1 : decide ((i : Int) < (N : Int)) = true := decide_eq_true (by omega)
          have d1' : decide (i < N) = true := decide_eq_true hlt
          have hiL : i < LA.length := by have := HNN.out; omega
          obtain ⟨b1, o1, rfl, z1, hc⟩ := SA.out (by omega)
          obtain ⟨f0, f1'⟩ := hc i hiL
          rw [← hbw.cell (p := ⟨b1, _, none⟩) z1] at f0 f1'
          have z2 : b1 < wr.heap.size := Nat.lt_of_lt_of_le z1 hbw.size
          have hin := HIN.out (LA.getD i (0, 0)) (getD_in hiL)
          have x0 := HI.out.win.cell 0; have x1 := HI.out.win.cell 1; have xz := HI.out.win.lt
          simp at x0 x1
          have HPR := hidE (fun j (hj : i = j + 1) => show (LA.getD j (0, 0)).2 < (LA.getD i (0, 0)).1 from HCW.out.at_lt (by omega) hiL)
          have HCJ := hidE (fun j (hj : j < LA.length) => hc j hj)
          have HBC := hidE hbw
          generalize LA.getD i (0, 0) = y at *
          obtain ⟨y0, y1⟩ := y
          have hin : a ≤ y0 ∧ y1 ≤ b ∧ y0 < y1 := hin
          simp only at f0 f1'
          have g1 : decide (y1 ≤ y0) = false := decide_eq_false (by omega)
          have g2 : decide (y0 < a) = false := decide_eq_false (by omega)
          have g3 : decide (b < y1) = false := decide_eq_false (by omega)
          clear hc hbw hin
          by_cases hi0 : i = 0
          · subst hi0
            clear HCJ HPR
            simp only [Nat.zero_mul, Nat.add_zero] at f0 f1'
            have hN1 : (0 : Int) < (N : Int) := by omega
            go_wp2_with fail
            go_quiet (fail)
            go_wp2
            go_roundg (N - 1)
            case measure => have := HGH.out; omega
            case rel => exact ⟨1, Nat.le_refl _, by omega, by first | rfl | go_num, by first | exact HBW.out | exact HBW.out.drew | exact below_drewN HBW.out _⟩
          · obtain ⟨j, rfl⟩ : ∃ j, i = j + 1 := ⟨i - 1, by omega⟩
            have hpr := HPR.out j rfl
            obtain ⟨c0, c1'⟩ := HCJ.out j (by omega)
            rw [← HBC.out.cell (p := ⟨b1, _, none⟩) z1] at c0 c1'
            generalize LA.getD j (0, 0) = u at *
            obtain ⟨u0, u1'⟩ := u
            have hpr : u1' < y0 := hpr
            simp only at c0 c1'
            have g4 : decide (y0 ≤ u1') = false := decide_eq_false (by omega)
            have hw0 : IntKind.i64.wrap (j : Int) = (j : Int) := IntWalk.i64_in _ (by omega)
            have hw1 : IntKind.i64.wrap ((j : Int) + 1 - 1) = (j : Int) := by rw [Int.add_sub_cancel]; exact hw0
            have g5 : decide ((0 : Int) < (j : Int) + 1) = true := decide_eq_true (by omega)
            have hjN : j < N := by omega
            have hj1 : (0 : Int) ≤ (j : Int) + 1 := by omega
            have hj2 : j + 1 < N := hlt
            clear hpr HPR HCJ hi0
            go_wp2_with fail
            go_quiet (fail)
            go_wp2
            go_roundg (N - (j + 1 + 1))
            case measure => have := HGH.out; omega
            case rel => exact ⟨j + 1 + 1, Nat.le_refl _, by omega, by first | rfl | go_num, by first | exact HBW.out | exact HBW.out.drew | exact below_drewN HBW.out _⟩
        · have d1 : decide ((i : Int) < (N : Int)) = false := decide_eq_false (by omega)
          have d1' : decide (i < N) = false := decide_eq_false hlt
          obtain ⟨w4, hw4⟩ : ∃ z : World, z = wr := ⟨_, rfl⟩
          subst hw4
          clear hlt hi
          have x0 := HI.out.win.cell 0; have x1 := HI.out.win.cell 1; have xz := HI.out.win.lt
          simp at x0 x1
          go_wp2
          clear x0 x1 xz
          have HI4 := hidE HI.out
          have SA4 := hidE (show ArgVs w4 aA LA from SA.out.past HBW.out)
          clear HI HI3 SA HBW HGH
          go_loopg [10, 11] ((b - a).toNat + 1) (fun gh v10 v11 wr => ∃ (k : Nat) (t : Int), (b - t).toNat + 1 ≤ gh ∧ k ≤ N ∧ a ≤ t ∧ t ≤ b ∧ v10 = .int .i64 k ∧ v11 = .int .i64 t ∧ (∀ j, j < k → (LA.getD j (0, 0)).2 ≤ t) ∧ Below w4.heap.size w4 wr)
          case atStart => exact ⟨0, a, Nat.le_refl _, Nat.zero_le _, Int.le_refl _, by omega, rfl, rfl, (fun j hj => by omega), Below.refl _ _⟩
          case round =>
            obtain ⟨k, t, hgh, hk, hta, htb, rfl, rfl, hks, hbw⟩ := hrel
            have HGT := hidE hgh; have HKS := hidE hks; have HBT := hidE hbw
            clear hgh hks
            have HI := hidE (HI4.out.past hbw)
            have SAt := hidE (SA4.out.past hbw)
            clear hbw
            obtain ⟨w5, hw5⟩ : ∃ z : World, z = wr := ⟨_, rfl⟩
            subst hw5
            have x0 := HI.out.win.cell 0; have x1 := HI.out.win.cell 1; have xz := HI.out.win.lt
            simp at x0 x1
            by_cases htl : t < b
            · have d2 : decide (t < b) = true := decide_eq_true htl
              go_wp2
              clear x0 x1 xz
              go_loopg [10] N (fun gh v10 wr => ∃ k : Nat, N - k ≤ gh ∧ k ≤ N ∧ v10 = .int .i64 k ∧ (∀ j, j < k → (LA.getD j (0, 0)).2 ≤ t) ∧ Below w5.heap.size w5 wr)
              case atStart => exact ⟨k, Nat.sub_le _ _, hk, rfl, HKS.out, Below.refl _ _⟩
              case round =>
                obtain ⟨k', hgh, hk', rfl, hks, hbw⟩ := hrel
                have HGK := hidE hgh; have HKS2 := hidE hks; have HBK := hidE hbw
                clear hgh hks hk HKS
                have HI := hidE (HI.out.past hbw)
                have SAk := hidE (SAt.out.past hbw)
                clear hbw
                by_cases hkn : k' < N
                · have d3 : decide ((k' : Int) < (N : Int)) = true := decide_eq_true (by omega)
                  have d3' : decide (k' < N) = true := decide_eq_true hkn
                  have hkL : k' < LA.length := by have := HNN.out; omega
                  obtain ⟨b1, o1, rfl, z1, hc⟩ := SAk.out (by omega)
                  obtain ⟨f0, f1'⟩ := hc k' hkL
                  have HY := hidE (show ∃ y, LA.getD k' (0, 0) = y from ⟨_, rfl⟩)
                  obtain ⟨y, hy⟩ := HY.out
                  rw [hy] at f0 f1'
                  have HYE := hidE hy
                  clear hy hc HY
                  obtain ⟨y0, y1⟩ := y
                  simp only at f0 f1'
                  by_cases hy1 : y1 ≤ t
                  · have d4 : decide (y1 ≤ t) = true := decide_eq_true hy1
                    go_wp2
                    go_roundg (N - (k' + 1))
                    case measure => have := HGK.out; omega
                    case rel => exact ⟨k' + 1, Nat.le_refl _, by omega, by first | rfl | go_num, (fun j hj => by
                      by_cases e : j = k'
                      · rw [e, HYE.out]; exact hy1
                      · exact HKS2.out j (by omega)), HBK.out⟩
                  · have d4 : decide (y1 ≤ t) = false := decide_eq_false hy1
                    have HMK := hidE (mem_at (k := k') (t := t) HCW.out HKS2.out (fun _ => by rw [HYE.out]; show t < y1; omega))
                    obtain ⟨mv, hmv⟩ : ∃ mv, mv = decide (y0 ≤ t) := ⟨_, rfl⟩
                    have HMV := hidE (show stB F b t l = mv from by
                      rw [hmv, Bool.eq_iff_iff, stB_is HE0.out hta, HA1.out, HMK.out, HYE.out, decide_eq_true_iff]
                      exact ⟨fun h => h.2, fun h => ⟨hkL, h⟩⟩)
                    have hmv2 : decide (y0 ≤ t) = mv := hmv.symm
                    clear hmv hy1 HMK HGK
                    go_wp2
                    obtain ⟨w6, hw6⟩ : ∃ z : World, z = wr := ⟨_, rfl⟩
                    subst hw6
                    go_loopg [12, 13, 14] n3 (fun gh v12 v13 v14 wr => ∃ i : Nat, n3 - i ≤ gh ∧ i ≤ n3 ∧ v12 = .bool (stB F b t (l.take i)) ∧ v13 = .int .i64 (t + lenG (l.take i)) ∧ v14 = .int .i64 i ∧ Below w6.heap.size w6 wr)
                    case atStart => exact ⟨0, Nat.le_refl _, Nat.zero_le _, by rw [show l.take 0 = [] from rfl, stB_nil htl], by simp [lenG], rfl, Below.refl _ _⟩
                    case round =>
                      obtain ⟨i, hgh, hi, rfl, rfl, rfl, hbw⟩ := hrel
                      have HGI := hidE hgh; have HBI := hidE hbw
                      clear hgh
                      have HI := hidE (HI.out.past hbw)
                      have SAi := hidE (SAk.out.past hbw)
                      clear hbw
                      obtain ⟨w7, hw7⟩ : ∃ z : World, z = wr := ⟨_, rfl⟩
                      subst hw7
                      by_cases hin : i < n3
                      · have d5 : decide ((i : Int) < (n3 : Int)) = true := decide_eq_true (by omega)
                        have d5' : decide (i < n3) = true := decide_eq_true hin
                        obtain ⟨e3, hc3, hm3, hA3⟩ := sliF_len HI.out.s3
                        have hil : i < l.length := by omega
                        obtain ⟨b3, o3, rfl, z3, hcc⟩ := hA3 (by omega)
                        obtain ⟨g0, g1, g2⟩ := hcc.get hil
                        have HST := hidE (stB_step (b := b) HE0.out hil hta)
                        have HLG := hidE (lenG_take hil)
                        have hleg := legs_ok HE0.out (l.getD i (0, 0, 0)) (by rw [getD_get _ _ _ hil]; exact List.getElem_mem hil)
                        have hlt16 := (lenG_take_le (legs_ok HE0.out) i)
                        have hln : lenG l ≤ 65536 := by have h1 := lenG_bound (legs_ok HE0.out); have h2 := (lenE_zero (slotE_zero HE0.out).2.1).1; omega
                        unfold ats at g0; unfold vls at g1 g2
                        generalize l.getD i (0, 0, 0) = s at *
                        obtain ⟨d, vm, vc⟩ := s
                        have hleg : 1 ≤ d ∧ d ≤ 4096 := hleg
                        have HLG := hidE (show lenG (l.take (i + 1)) = lenG (l.take i) + d from HLG.out)
                        simp only at g0 g1 g2 HST
                        obtain ⟨at0, hat⟩ : ∃ z, z = t + lenG (l.take i) := ⟨_, rfl⟩
                        rw [← hat] at HST
                        rw [← hat]
                        have hatb : -1099511627776 ≤ at0 ∧ at0 ≤ 1099511727776 := by omega
                        have HAT := hidE hat
                        obtain ⟨fr, hfr⟩ : ∃ fr, fr = fitsS F at0 d (vm, vc) := ⟨_, rfl⟩
                        rw [← hfr] at HST
                        have HFT := hidE (fun (x : Past w7) => fits_eq (HI.out.s1.past (Past.prop x)) (by have := HK.out; omega) hfr.symm)
                        obtain ⟨fb, fe⟩ := fr
                        clear hcc hA3 hat hfr hlt16 hln e3
                        have hwa : IntKind.i64.wrap (at0 + d) = at0 + d := IntWalk.i64_in _ (by omega)
                        go_wp2_with fail
                        refine wp_region_past_lit (by kernel_rfl) (by kernel_rfl) ?_
                        have hcp := Past.cell (W := w7)
                        repeat (go_big_quiet_step (first | (go_at_call 9; exact Past.call _ (HFT.out _))))
                        refine wpQuiet_nil ?_
                        rintro _ ⟨x', rfl⟩
                        have hx := Past.prop x'
                        have h0' := (hx.cell (p := ⟨b3, _, none⟩) z3).trans g0
                        have hz := Nat.lt_of_lt_of_le z3 hx.size
                        generalize x'.1 = w8 at *
                        have HI := hidE (HI.out.past hx)
                        have HB8 := hidE (HBI.out.trans (hx.mono HBI.out.size))
                        have x0 := HI.out.win.cell 0; have x1 := HI.out.win.cell 1; have xz := HI.out.win.lt
                        simp at x0 x1
                        clear hcp hx HFT g0 g1 g2 z3
                        generalize hsb : stB F b t (l.take i) = is at *
                        clear hsb
                        cases is with
                        | false =>
                          go_wp2
                          go_roundg (n3 - (i + 1))
                          case measure => have := HGI.out; omega
                          case rel => exact ⟨i + 1, Nat.le_refl _, by omega, by rw [HST.out]; rfl, by rw [HLG.out, HAT.out, Int.add_assoc], by first | rfl | go_num, HB8.out⟩
                        | true =>
                          by_cases hfe : fe = 0
                          · subst hfe
                            cases fb with
                            | false =>
                              go_wp2
                              go_roundg (n3 - (i + 1))
                              case measure => have := HGI.out; omega
                              case rel => exact ⟨i + 1, Nat.le_refl _, by omega, by rw [HST.out]; rfl, by rw [HLG.out, HAT.out, Int.add_assoc], by first | rfl | go_num, HB8.out⟩
                            | true =>
                              obtain ⟨mb, hmb⟩ : ∃ mb, mb = decide (at0 + d ≤ b) := ⟨_, rfl⟩
                              have hmb2 : decide (at0 + d ≤ b) = mb := hmb.symm
                              rw [hmb2] at HST
                              clear hmb
                              go_wp2
                              go_roundg (n3 - (i + 1))
                              case measure => have := HGI.out; omega
                              case rel => exact ⟨i + 1, Nat.le_refl _, by omega, by rw [HST.out]; rfl, by rw [HLG.out, HAT.out, Int.add_assoc], by first | rfl | go_num, HB8.out⟩
                          · have e6 : (fe == 0) = false := beq_eq_false_iff_ne.2 hfe
                            have HST2 := hidE (show stB F b t (l.take (i + 1)) = false from by rw [HST.out]; simp [hfe])
                            clear hfe
                            go_wp2
                            go_roundg (n3 - (i + 1))
                            case measure => have := HGI.out; omega
                            case rel => exact ⟨i + 1, Nat.le_refl _, by omega, by rw [HST2.out], by rw [HLG.out, HAT.out, Int.add_assoc], by first | rfl | go_num, HB8.out⟩
                      · have d5 : decide ((i : Int) < (n3 : Int)) = false := decide_eq_false (by omega)
                        have d5' : decide (i < n3) = false := decide_eq_false hin
                        have hT : stB F b t (l.take i) = mv := by
                          rw [show i = l.length by have := (sliF_len HI.out.s3).1; omega, List.take_length]; exact HMV.out
                        rw [hT]
                        clear hT
                        obtain ⟨b', o', e', z', hc'⟩ := SAi.out (by omega)
                        cases e'
                        obtain ⟨q0, q1⟩ := hc' k' hkL
                        rw [HYE.out] at q0 q1
                        simp only at q0 q1
                        have qb : (mv == mv) = true := by simp
                        have qn : (mv != mv) = false := by simp
                        clear hc'
                        go_wp2
                        go_roundg ((b - (t + 1)).toNat + 1)
                        case measure => have := HGT.out; omega
                        case rel => exact ⟨k', t + 1, Nat.le_refl _, hk', by omega, by omega, rfl, by first | rfl | go_num, fun j hj => by have := HKS2.out j hj; omega, HBT.out.trans ((HBK.out.trans (HBI.out.mono HBK.out.size)).mono HBT.out.size)⟩
                · have d3 : decide ((k' : Int) < (N : Int)) = false := decide_eq_false (by omega)
                  have d3' : decide (k' < N) = false := decide_eq_false hkn
                  have HMV := hidE (show stB F b t l = false from by
                    rw [← Bool.not_eq_true, stB_is HE0.out hta, HA1.out, mem_at (k := k') (t := t) HCW.out HKS2.out (fun h => by have := HNN.out; omega)]
                    have := HNN.out; omega)
                  clear HGK
                  go_wp2
                  obtain ⟨w6, hw6⟩ : ∃ z : World, z = wr := ⟨_, rfl⟩
                  subst hw6
                  go_loopg [12, 13, 14] n3 (fun gh v12 v13 v14 wr => ∃ i : Nat, n3 - i ≤ gh ∧ i ≤ n3 ∧ v12 = .bool (stB F b t (l.take i)) ∧ v13 = .int .i64 (t + lenG (l.take i)) ∧ v14 = .int .i64 i ∧ Below w6.heap.size w6 wr)
                  case atStart => exact ⟨0, Nat.le_refl _, Nat.zero_le _, by rw [show l.take 0 = [] from rfl, stB_nil htl], by simp [lenG], rfl, Below.refl _ _⟩
                  case round =>
                    obtain ⟨i, hgh, hi, rfl, rfl, rfl, hbw⟩ := hrel
                    have HGI := hidE hgh; have HBI := hidE hbw
                    clear hgh
                    have HI := hidE (HI.out.past hbw)
                    have SAi := hidE (SAk.out.past hbw)
                    clear hbw
                    obtain ⟨w7, hw7⟩ : ∃ z : World, z = wr := ⟨_, rfl⟩
                    subst hw7
                    by_cases hin : i < n3
                    · have d5 : decide ((i : Int) < (n3 : Int)) = true := decide_eq_true (by omega)
                      have d5' : decide (i < n3) = true := decide_eq_true hin
                      obtain ⟨e3, hc3, hm3, hA3⟩ := sliF_len HI.out.s3
                      have hil : i < l.length := by omega
                      obtain ⟨b3, o3, rfl, z3, hcc⟩ := hA3 (by omega)
                      obtain ⟨g0, g1, g2⟩ := hcc.get hil
                      have HST := hidE (stB_step (b := b) HE0.out hil hta)
                      have HLG := hidE (lenG_take hil)
                      have hleg := legs_ok HE0.out (l.getD i (0, 0, 0)) (by rw [getD_get _ _ _ hil]; exact List.getElem_mem hil)
                      have hlt16 := (lenG_take_le (legs_ok HE0.out) i)
                      have hln : lenG l ≤ 65536 := by have h1 := lenG_bound (legs_ok HE0.out); have h2 := (lenE_zero (slotE_zero HE0.out).2.1).1; omega
                      unfold ats at g0; unfold vls at g1 g2
                      generalize l.getD i (0, 0, 0) = s at *
                      obtain ⟨d, vm, vc⟩ := s
                      have hleg : 1 ≤ d ∧ d ≤ 4096 := hleg
                      have HLG := hidE (show lenG (l.take (i + 1)) = lenG (l.take i) + d from HLG.out)
                      simp only at g0 g1 g2 HST
                      obtain ⟨at0, hat⟩ : ∃ z, z = t + lenG (l.take i) := ⟨_, rfl⟩
                      rw [← hat] at HST
                      rw [← hat]
                      have hatb : -1099511627776 ≤ at0 ∧ at0 ≤ 1099511727776 := by omega
                      have HAT := hidE hat
                      obtain ⟨fr, hfr⟩ : ∃ fr, fr = fitsS F at0 d (vm, vc) := ⟨_, rfl⟩
                      rw [← hfr] at HST
                      have HFT := hidE (fun (x : Past w7) => fits_eq (HI.out.s1.past (Past.prop x)) (by have := HK.out; omega) hfr.symm)
                      obtain ⟨fb, fe⟩ := fr
                      clear hcc hA3 hat hfr hlt16 hln e3
                      have hwa : IntKind.i64.wrap (at0 + d) = at0 + d := IntWalk.i64_in _ (by omega)
                      go_wp2_with fail
                      refine wp_region_past_lit (by kernel_rfl) (by kernel_rfl) ?_
                      have hcp := Past.cell (W := w7)
                      repeat (go_big_quiet_step (first | (go_at_call 9; exact Past.call _ (HFT.out _))))
                      refine wpQuiet_nil ?_
                      rintro _ ⟨x', rfl⟩
                      have hx := Past.prop x'
                      have h0' := (hx.cell (p := ⟨b3, _, none⟩) z3).trans g0
                      have hz := Nat.lt_of_lt_of_le z3 hx.size
                      generalize x'.1 = w8 at *
                      have HI := hidE (HI.out.past hx)
                      have HB8 := hidE (HBI.out.trans (hx.mono HBI.out.size))
                      have x0 := HI.out.win.cell 0; have x1 := HI.out.win.cell 1; have xz := HI.out.win.lt
                      simp at x0 x1
                      clear hcp hx HFT g0 g1 g2 z3
                      generalize hsb : stB F b t (l.take i) = is at *
                      clear hsb
                      cases is with
                      | false =>
                        go_wp2
                        go_roundg (n3 - (i + 1))
                        case measure => have := HGI.out; omega
                        case rel => exact ⟨i + 1, Nat.le_refl _, by omega, by rw [HST.out]; rfl, by rw [HLG.out, HAT.out, Int.add_assoc], by first | rfl | go_num, HB8.out⟩
                      | true =>
                        by_cases hfe : fe = 0
                        · subst hfe
                          cases fb with
                          | false =>
                            go_wp2
                            go_roundg (n3 - (i + 1))
                            case measure => have := HGI.out; omega
                            case rel => exact ⟨i + 1, Nat.le_refl _, by omega, by rw [HST.out]; rfl, by rw [HLG.out, HAT.out, Int.add_assoc], by first | rfl | go_num, HB8.out⟩
                          | true =>
                            obtain ⟨mb, hmb⟩ : ∃ mb, mb = decide (at0 + d ≤ b) := ⟨_, rfl⟩
                            have hmb2 : decide (at0 + d ≤ b) = mb := hmb.symm
                            rw [hmb2] at HST
                            clear hmb
                            go_wp2
                            go_roundg (n3 - (i + 1))
                            case measure => have := HGI.out; omega
                            case rel => exact ⟨i + 1, Nat.le_refl _, by omega, by rw [HST.out]; rfl, by rw [HLG.out, HAT.out, Int.add_assoc], by first | rfl | go_num, HB8.out⟩
                        · have e6 : (fe == 0) = false := beq_eq_false_iff_ne.2 hfe
                          have HST2 := hidE (show stB F b t (l.take (i + 1)) = false from by rw [HST.out]; simp [hfe])
                          clear hfe
                          go_wp2
                          go_roundg (n3 - (i + 1))
                          case measure => have := HGI.out; omega
                          case rel => exact ⟨i + 1, Nat.le_refl _, by omega, by rw [HST2.out], by rw [HLG.out, HAT.out, Int.add_assoc], by first | rfl | go_num, HB8.out⟩
                    · have d5 : decide ((i : Int) < (n3 : Int)) = false := decide_eq_false (by omega)
                      have d5' : decide (i < n3) = false := decide_eq_false hin
                      have hT : stB F b t (l.take i) = false := by
                        rw [show i = l.length by have := (sliF_len HI.out.s3).1; omega, List.take_length]; exact HMV.out
                      rw [hT]
                      clear hT
                      go_wp2
                      go_roundg ((b - (t + 1)).toNat + 1)
                      case measure => have := HGT.out; omega
                      case rel => exact ⟨k', t + 1, Nat.le_refl _, hk', by omega, by omega, rfl, by first | rfl | go_num, fun j hj => by have := HKS2.out j hj; omega, HBT.out.trans ((HBK.out.trans (HBI.out.mono HBK.out.size)).mono HBT.out.size)⟩
            · have d2 : decide (t < b) = false := decide_eq_false htl
              go_wp2_with fail
              ((with_reducible refine (HH.out _).mono ?_); rintro e wz ⟨rfl, hbz⟩)
              go_wp2
              go_ret
              exact ⟨rfl, bstep hbz HI.out.bel⟩
    · have e0 : (ea != 0) = true := bne_iff_ne.2 h0
      have hL : LA = [] := by have e1 : begS F a b l = ([], slotE F a b l) := begS_no (by rw [← begS_err, ← HA.out]; exact h0)
                              rw [← HA.out] at e1; exact (Prod.mk.inj e1).1
      subst hL
      clear h0 HA
      go_wp2_with fail
      ((with_reducible refine (HH.out _).mono ?_); rintro e wzc ⟨rfl, hbz⟩)
      go_wp2
      go_ret
      exact ⟨rfl, bstep hbz HI.out.bel⟩
end
end Go.Proofs.Ytmjfogmpbidooaa
