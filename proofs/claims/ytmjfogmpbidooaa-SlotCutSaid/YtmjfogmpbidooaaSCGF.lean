/- The walk of the statement on more begins. Conditions: that the slices read as functions and legs. A region that draws its order: operations by an invariant of what has run, then a call that waits for all of them, then what is read out of its answer. No function of the program. No conditions. -/
import Derived.Test.YtmjfogmpbidooaaSCGC
import Derived.Test.YtmjfogmpbidooaaSCGD
import Derived.Test.YtmjfogmpbidooaaSCGE
import Derived.Test.YtmjfogmpbidooaaSCGB
namespace Go.Proofs.Ytmjfogmpbidooaa
open Go.ChangeShapes Go.WideShapes Go.ChangeAt Go.RowKit
attribute [local irreducible] Go.Calls

/-- A row that is handed in. -/
abbrev RowV (a b p q : Int) (g : Option Addr) (m c : Nat) : Value := .agg #[.int .i64 a, .int .i64 b, .slice g m c, .int .u8 p, .int .u8 q]
/-- What stays in memory. -/
structure SmI (F G l : List Sg) (f1 f2 f3 : Option Addr) (n1 c1 n2 c2 n3 c3 : Nat) (a b p q : Int) (pR pW : Nat) (w W : World) : Prop where
  row : Blk W pR #[.int .i64 a, .int .i64 b, .slice f3 n3 c3, .int .u8 p, .int .u8 q] 40
  win : Blk W pW #[.int .i64 a, .int .i64 b] 24
  s1 : SliS W (.slice f1 n1 c1) F
  s2 : SliS W (.slice f2 n2 c2) G
  s3 : SliS W (.slice f3 n3 c3) l
  bel : Below w.heap.size w W
section
variable {F G l : List Sg} {f1 f2 f3 : Option Addr} {n1 c1 n2 c2 n3 c3 : Nat} {a b p q : Int}
theorem SmI.past {pR pW : Nat} {w W W' : World} (h : SmI F G l f1 f2 f3 n1 c1 n2 c2 n3 c3 a b p q pR pW w W) (hb : Below W.heap.size W W') : SmI F G l f1 f2 f3 n1 c1 n2 c2 n3 c3 a b p q pR pW w W' :=
  ⟨h.row.past hb, h.win.past hb, h.s1.past hb, h.s2.past hb, h.s3.past hb, bstep hb h.bel⟩
theorem sli_len {w : World} {a : Option Addr} {n c : Nat} {l : List Sg} (h : SliS w (.slice a n c) l) : n = l.length ∧ n ≤ c ∧ c ≤ 9223372036854775807 ∧ ArgS w a l := by
  obtain ⟨a', c', e, q1, q2, q3⟩ := h
  cases e
  exact ⟨rfl, q1, q2, q3⟩
theorem cmx_s {F G H : List Sg} {er : Int} {f1 f2 : Option Addr} {n1 n2 c1 c2 : Nat} {w : World} (h1 : SliS w (.slice f1 n1 c1) F) (h2 : SliS w (.slice f2 n2 c2) G) (hl : n1 + n2 ≤ 999999990) (he : doS 3 F G = (H, er)) : Calls Try.prog 11 #[.slice f1 n1 c1, .slice f2 n2 c2] w (OfIs w H er) := by
  obtain ⟨e1, q1, q2, q3⟩ := sli_len h1
  obtain ⟨e2, s1, s2, s3⟩ := sli_len h2
  subst e1; subst e2
  have := cmx_c F G f1 f2 c1 c2 w q1 q2 s1 s2 (by omega) q3 s3
  rw [he] at this
  exact this
theorem sliS_take {w : World} {a : Option Addr} {n c k : Nat} {l : List Sg} (h : SliS w (.slice a n c) l) (hk : k ≤ n) : SliS w (.slice a k c) (l.take k) := by
  obtain ⟨e, q1, q2, q3⟩ := sli_len h
  have hl : (l.take k).length = k := by rw [List.length_take]; omega
  refine ⟨a, c, by rw [hl], by omega, q2, fun h0 => ?_⟩
  obtain ⟨b, off, e2, hb, hc⟩ := q3 (by omega)
  refine ⟨b, off, e2, hb, fun i hi => ?_⟩
  have := hc i (by omega)
  rw [List.getD_eq_getElem?_getD, List.getElem?_take, if_pos (by omega), ← List.getD_eq_getElem?_getD]
  exact this
/-- A row of windows and an error, a row of windows. -/
def vsP (L : List Wn) (er : Int) : Value → World → Prop := fun v w => ∃ (a : Option Addr) (c : Nat), v = .tuple #[.slice a L.length c, .int .i64 er] ∧ SliVs w (.slice a L.length c) L
def slP (L : List Wn) : Value → World → Prop := fun v w => ∃ (a : Option Addr) (c : Nat), v = .slice a L.length c ∧ SliVs w (.slice a L.length c) L
theorem stab_vsP (L : List Wn) (er : Int) : Stab (vsP L er) := fun _ _ _ ⟨a, c, h1, h2⟩ hb => ⟨a, c, h1, h2.past hb⟩
theorem stab_slP (L : List Wn) : Stab (slP L) := fun _ _ _ ⟨a, c, h1, h2⟩ hb => ⟨a, c, h1, h2.past hb⟩
set_option maxRecDepth 100000 in
set_option maxHeartbeats 16000000 in
theorem smore_c (w : World) (S1 : SliS w (.slice f1 n1 c1) F) (S2 : SliS w (.slice f2 n2 c2) G) (S3 : SliS w (.slice f3 n3 c3) l) (ha : -9223372036854775808 ≤ a ∧ a ≤ 9223372036854775807) (hb : -9223372036854775808 ≤ b ∧ b ≤ 9223372036854775807) (hp : 0 ≤ p ∧ p ≤ 255) (hq : 0 ≤ q ∧ q ≤ 255) :
    Calls Try.prog 4 #[.slice f1 n1 c1, .slice f2 n2 c2, RowV a b p q f3 n3 c3] w fun e w' => e = .returned (.bool true) ∧ Below w.heap.size w w' := by
  have HH := hidE (fun w => shead_c w)
  obtain ⟨pR, hpR⟩ : ∃ z, z = w.heap.size := ⟨_, rfl⟩
  have HNL := hidE (show (n1 ≤ 9223372036854775807 ∧ n3 ≤ 9223372036854775807) ∧ n2 ≤ 9223372036854775807 by have q1 := sli_len S1; have q2 := sli_len S2; have q3 := sli_len S3; omega)
  have hg2 : n2 ≤ 9223372036854775807 := HNL.out.2
  have hg3 : n3 ≤ 9223372036854775807 := HNL.out.1.2
  go_enter Try.func4, Try.ntmps4
  go_upto_region 1 with fail
  obtain ⟨w0, hw⟩ : ∃ z, z = w.alloc (Obj.cells #[.int .i64 a, .int .i64 b, .slice f3 n3 c3, .int .u8 p, .int .u8 q] 40) := ⟨_, rfl⟩
  have BR : Blk w0 pR #[.int .i64 a, .int .i64 b, .slice f3 n3 c3, .int .u8 p, .int .u8 q] 40 := by rw [hw, hpR]; exact Blk.made _ _ _
  have hb0 : Below w.heap.size w w0 := by rw [hw]; exact (Below.refl _ _).alloc (Nat.le_refl _) _
  rw [← hw, ← hpR]
  have T1 := hidE (S1.past hb0); have T2 := hidE (S2.past hb0); have T3 := hidE (S3.past hb0); have HBR := hidE BR; have HB0 := hidE hb0
  have p0 := BR.cell 0; have p1 := BR.cell 1; have p2 := BR.cell 2; have pz := BR.lt
  simp at p0 p1 p2
  clear S1 S2 S3 hw BR hb0 hpR
  obtain ⟨fx, hfx⟩ : ∃ fx : Nat → Array Value, fx = fun pW => #[.slice f1 n1 c1, .slice f2 n2 c2, RowV a b p q f3 n3 c3, undef, undef, .pointer (some ⟨pR, 0, none⟩), .bool false, .pointer (some ⟨pW, 0, none⟩), .slice f3 n3 c3, undef, undef, undef, undef, undef, undef, undef, undef, undef, undef, undef, .pointer (some ⟨pR, 0, none⟩), V a b, .pointer (some ⟨pR, 2, none⟩), .slice f3 n3 c3, undef, undef, undef, undef, undef, undef, undef, undef, undef, undef, undef, undef, undef, undef, undef, undef, undef, undef, undef, undef, undef, undef, undef, undef, undef, undef, undef, undef, undef, undef, undef, undef, undef, undef, undef, undef, undef, undef, undef, undef, undef, undef, undef, undef, undef, undef, undef, undef, undef, undef, undef, undef, undef, undef, undef, undef, undef, undef, undef, undef, undef, undef, undef, undef, undef, undef, undef, undef, undef, undef, undef, undef, undef, undef, undef, undef, undef, undef, undef, undef, undef, undef, undef, undef, undef, undef, undef, undef, undef, undef, undef, undef, undef, undef, undef, undef, undef, undef, undef, undef] := ⟨_, rfl⟩
  refine wp_mono (Q := fun e a' w' => e = Exit.normal ∧ ∃ pW, Below w0.heap.size w0 w' ∧ Blk w' pW #[.int .i64 a, .int .i64 b] 24 ∧ a' = { tmps := fx pW, defers := [] }) ?_ ?_
  · go_region
    exact ⟨rfl, w0.heap.size, ((Below.refl _ _).alloc (Nat.le_refl _) _).drew, Blk.made _ _ _, by rw [hfx]⟩
  · rintro _ _ w1 ⟨rfl, pW, hb1, BW, rfl⟩
    subst hfx

    have HI := hidE (show SmI F G l f1 f2 f3 n1 c1 n2 c2 n3 c3 a b p q pR pW w w1 from ⟨HBR.out.past hb1, BW, T1.out.past hb1, T2.out.past hb1, T3.out.past hb1, bstep hb1 HB0.out⟩)
    clear BW hb1 T1 T2 T3 HBR HB0 p0 p1 p2 pz
    have HG := hidE (fun w => sgreat_c f1 f3 n1 n3 c1 c3 a b w ha hb HNL.out.1.1 HNL.out.1.2)

    have x0 := HI.out.win.cell 0; have x1 := HI.out.win.cell 1; have xz := HI.out.win.lt
    simp at x0 x1
    go_wp2_with fail
    ((with_reducible refine (HG.out _).mono ?_); rintro e w2 ⟨rfl, hb⟩)
    have HI := hidE (HI.out.past hb)
    clear hb x0 x1 xz
    cases hg : grB n1 n3 a b with
    | true =>
      go_wp2_with fail
      ((with_reducible refine (HH.out _).mono ?_); rintro e wza ⟨rfl, hbz⟩)
      go_wp2
      go_ret
      exact ⟨rfl, bstep hbz HI.out.bel⟩
    | false =>
      obtain ⟨k1, k3, k4⟩ := grB_no hg
      clear hg
      by_cases h2 : 60 < n2
      · have d2 : decide (60 < (n2 : Int)) = true := decide_eq_true (by omega)
        have d2' : decide (60 < n2) = true := decide_eq_true h2
        clear h2
        go_wp2_with fail
        ((with_reducible refine (HH.out _).mono ?_); rintro e wzb ⟨rfl, hbz⟩)
        go_wp2
        go_ret
        exact ⟨rfl, bstep hbz HI.out.bel⟩
      · have d2 : decide (60 < (n2 : Int)) = false := decide_eq_false (by omega)
        have d2' : decide (60 < n2) = false := decide_eq_false h2
        have hk2 : n2 ≤ 60 := by omega
        have HK := hidE (show n1 ≤ 60 ∧ n2 ≤ 60 ∧ n3 ≤ 30 from ⟨k1, hk2, k3⟩)
        have HL := hidE (show F.length ≤ 60 ∧ G.length ≤ 60 ∧ l.length ≤ 30 from by have q1 := (sli_len HI.out.s1).1; have q2 := (sli_len HI.out.s2).1; have q3 := (sli_len HI.out.s3).1; omega)
        clear h2 k1 k3 k4
        obtain ⟨A, hA⟩ : ∃ A, A = begS F a b l := ⟨_, rfl⟩
        obtain ⟨LA, ea⟩ := A
        have HA := hidE hA
        clear hA
        go_upto_region 4 with fail
        have x0 := HI.out.win.cell 0; have x1 := HI.out.win.cell 1; have xz := HI.out.win.lt
        simp at x0 x1
        go_wp2_with fail
        ((with_reducible refine (begins_eq HI.out.s1 HI.out.s3 (by have := HK.out; omega) (by have := HK.out; omega) (by omega) (by omega) HA.out.symm).mono ?_); rintro e w3 ⟨aA, cA, rfl, hsA, hb⟩)
        have HI := hidE (HI.out.past hb)
        have SA := hidE (show SliVs w3 (.slice aA LA.length cA) LA from hsA)
        clear hb hsA x0 x1 xz
        by_cases h0 : ea = 0
        · subst h0
          have hE0 : slotE F a b l = 0 := by rw [← begS_err, ← HA.out]
          have hA1 : (begS F a b l).1 = LA := by rw [← HA.out]
          have HE0 := hidE hE0; have HA1 := hidE hA1
          have e0 : ((0 : Int) != 0) = false := rfl
          clear hE0 hA1
          have hz := slotE_zero HE0.out
          have hp2 : 0 ≤ p % 40 ∧ p % 40 < 40 := by omega
          have hq2 : 0 ≤ q % 40 ∧ q % 40 < 40 := by omega
          have hab : (-1099511627776 ≤ a ∧ a ≤ 1099511627776) ∧ (-1099511627776 ≤ b ∧ b ≤ 1099511627776) := by have := hz.2.2.1; have := hz.2.2.2.1; omega
          obtain ⟨a2, ha2⟩ : ∃ a2, a2 = a - p % 40 := ⟨_, rfl⟩
          obtain ⟨b2, hb2⟩ : ∃ b2, b2 = b + q % 40 := ⟨_, rfl⟩
          have wa : wrap64 (a - p % 40) = a - p % 40 := IntWalk.wrap64_in _ (by omega)
          have wb : wrap64 (b + q % 40) = b + q % 40 := IntWalk.wrap64_in _ (by omega)
          have HAB := hidE (show (-1099511627816 ≤ a2 ∧ a2 ≤ a) ∧ (b ≤ b2 ∧ b2 ≤ 1099511627816) by omega)
          have HZ := hidE hz; have HA2 := hidE ha2; have HB2 := hidE hb2
          clear ha2 hb2 hz
          go_upto_region 7 with fail
          have x0 := HI.out.win.cell 0; have x1 := HI.out.win.cell 1; have xz := HI.out.win.lt
          simp at x0 x1
          have r3 := HI.out.row.cell 3; have r4 := HI.out.row.cell 4; have rz := HI.out.row.lt
          simp at r3 r4
          go_upto_region 8 with fail
          obtain ⟨w4, hw⟩ : ∃ z, z = w3.alloc (Obj.cells #[.int .i64 (a - p % 40), .int .i64 (b + q % 40)] 24) := ⟨_, rfl⟩
          have hb : Below w3.heap.size w3 w4 := by rw [hw]; exact (Below.refl _ _).alloc (Nat.le_refl _) _
          have BX : Blk w4 w3.heap.size #[.int .i64 a2, .int .i64 b2] 24 := by rw [hw, HA2.out, HB2.out]; exact Blk.made _ _ _
          have HI := hidE (HI.out.past hb); have SA := hidE (SA.out.past hb)
          rw [← hw]
          clear hw hb x0 x1 xz r3 r4 rz wa wb
          have y0 := BX.cell 0; have y1 := BX.cell 1; have yz := BX.lt
          simp at y0 y1
          clear BX
          obtain ⟨B, hB⟩ : ∃ B, B = begS F a2 b2 l := ⟨_, rfl⟩
          obtain ⟨LB, eb⟩ := B
          have HB := hidE hB
          clear hB
          go_wp2_with fail
          ((with_reducible refine (begins_eq HI.out.s1 HI.out.s3 (by have := HK.out; omega) (by have := HK.out; omega) (by have := HAB.out; omega) (by have := HAB.out; omega) HB.out.symm).mono ?_); rintro e w5 ⟨aB, cB, rfl, hsB, hb⟩)
          have SA := hidE (SA.out.past hb); have SB := hidE (show SliVs w5 (.slice aB LB.length cB) LB from hsB)
          have HI := hidE (HI.out.past hb)
          clear hb hsB y0 y1 yz
          by_cases hb0 : eb = 0
          · subst hb0
            have m3 : ∀ x ∈ LA, ∃ y ∈ LB, y.1 ≤ x.1 ∧ x.2 ≤ y.2 := by
              have e1 : (begS F a2 b2 l).1 = LB := by rw [← HB.out]
              have e2 : slotE F a2 b2 l = 0 := by rw [← begS_err, ← HB.out]
              have m2 := more_wide HE0.out e2 (by have := HAB.out; omega) (by have := HAB.out; omega)
              rw [HA1.out, e1] at m2; exact m2
            have M3 := hidE m3
            clear m3
            go_wp2_with fail
            ((with_reducible refine (swithin_t SA.out SB.out M3.out).mono ?_); rintro e w6 ⟨rfl, hb⟩)
            have HI := hidE (HI.out.past hb); have SA := hidE (SA.out.past hb)
            clear hb SB HB M3
            obtain ⟨M, hM⟩ : ∃ M, M = doS 3 F G := ⟨_, rfl⟩
            obtain ⟨H, eh⟩ := M
            have HM := hidE hM.symm
            have HHL := hidE (show H.length ≤ 120 from by
              have h1 : H = (doS 3 F G).1 := by rw [← hM]
              rw [h1]; have := HL.out; have := opL_len 3 F G; unfold doS; split
              · simp
              · split
                · exact (show (opL 3 F G).length ≤ 120 by omega)
                · simp)
            clear hM
            go_wp2_with fail
            ((with_reducible refine (cmx_s HI.out.s1 HI.out.s2 (by have := HK.out; omega) HM.out).mono ?_); rintro e w7 ⟨vH, rfl, hsH, hb⟩)
            have HI := hidE (HI.out.past hb); have SA := hidE (SA.out.past hb)
            obtain ⟨aH, cH, rfl, s1, s2, s3⟩ := hsH
            have SH := hidE (show SliS w7 (.slice aH H.length cH) H from ⟨aH, cH, rfl, s1, s2, s3⟩)
            clear hb s1 s2 s3
            obtain ⟨C, hC⟩ : ∃ C, C = begS H a b l := ⟨_, rfl⟩
            obtain ⟨LC, ec⟩ := C
            have HCC := hidE hC
            clear hC
            have x0 := HI.out.win.cell 0; have x1 := HI.out.win.cell 1; have xz := HI.out.win.lt
            simp at x0 x1
            go_wp2_with fail
            ((with_reducible refine (begins_eq SH.out HI.out.s3 (by have := HHL.out; omega) (by have := HK.out; omega) (by omega) (by omega) HCC.out.symm).mono ?_); rintro e w8 ⟨aC, cC, rfl, hsC, hb⟩)
            have HI := hidE (HI.out.past hb); have SA := hidE (SA.out.past hb); have SC := hidE (show SliVs w8 (.slice aC LC.length cC) LC from hsC)
            clear hb hsC x0 x1 xz SH
            by_cases hh : eh = 0
            · subst hh
              have hm := high_most HZ.out.1 HM.out
              obtain ⟨m1, m2⟩ := more_high (a := a) (b := b) (l := l) HE0.out hm.1 hm.2
              obtain rfl : ec = 0 := by have e1 : (begS H a b l).2 = slotE H a b l := begS_err; rw [← HCC.out, m1] at e1; exact e1
              have e1 : (begS H a b l).1 = LC := by rw [← HCC.out]
              rw [HA1.out, e1] at m2
              have m3 : ∀ x ∈ LA, ∃ y ∈ LC, y.1 ≤ x.1 ∧ x.2 ≤ y.2 := m2
              clear e1
              have M3 := hidE m3
              clear hm m1 m2 m3
              go_wp2_with fail
              ((with_reducible refine (swithin_t SA.out SC.out M3.out).mono ?_); rintro e w9 ⟨rfl, hb⟩)
              have HI := hidE (HI.out.past hb); have SA := hidE (SA.out.past hb)
              clear hb SC
              by_cases hl : 1 < n3
              · have dl : decide ((1 : Int) < (n3 : Int)) = true := decide_eq_true (by omega)
                have dl' : decide (1 < n3) = true := decide_eq_true hl
                obtain ⟨m, rfl⟩ : ∃ m, n3 = m + 1 := ⟨n3 - 1, by omega⟩
                have hm0 : 0 < m := by omega
                have hml : m ≤ l.length := by have := (sli_len HI.out.s3).1; omega
                obtain ⟨m1, m2⟩ := more_less HE0.out hm0 hml
                obtain ⟨D, hD⟩ : ∃ D, D = begS F a b (l.take m) := ⟨_, rfl⟩
                obtain ⟨LD, ed⟩ := D
                obtain rfl : ed = 0 := by have e1 : (begS F a b (l.take m)).2 = slotE F a b (l.take m) := begS_err; rw [← hD, m1] at e1; exact e1
                have e1 : (begS F a b (l.take m)).1 = LD := by rw [← hD]
                rw [HA1.out, e1] at m2
                have M5 := hidE m2; have HD := hidE hD; have HML := hidE hml
                clear m1 m2 e1 hD hml hl
                have dl2 : decide ((1 : Int) < (m : Int) + 1) = true := decide_eq_true (by omega)
                have dl3 : decide (0 < m) = true := decide_eq_true hm0
                have hmc : m + 1 ≤ c3 ∧ m ≤ 30 := by have := sli_len HI.out.s3; have := HK.out; omega
                have hmc1 : m ≤ c3 := by omega
                have hw0 : IntKind.i64.wrap (m : Int) = (m : Int) := IntWalk.i64_in _ (by omega)
                have x0 := HI.out.win.cell 0; have x1 := HI.out.win.cell 1; have xz := HI.out.win.lt
                simp at x0 x1
                have HB16 := hidE (fun (x : Past w9) => begins_eq (cL := c3) (HI.out.s1.past (Past.prop x)) (sliS_take (k := m) (HI.out.s3.past (Past.prop x)) (by omega)) (by have := HK.out; omega) (by omega) (by omega) (by omega) HD.out.symm)
                go_upto_region 16 with fail
                refine wp_region_J 11 [10] (nthR [detR (.slice f1 n1 c1), detR (V a b), detR (.slice f3 (m + 1) c3), detR (.slice f3 (m + 1) c3), detR (.int .i64 ((m : Int) + 1)), detR (.int .i64 (m : Int)), detR (.slice f3 m c3), vsP LD 0, vsP LD 0, slP LD, detR (.int .i64 0)]) (fun _ => false) (by kernel_rfl) (by decide) (by kernel_rfl) (stab_nth (by intro r hr; simp only [List.mem_cons, List.not_mem_nil, or_false] at hr; rcases hr with rfl | rfl | rfl | rfl | rfl | rfl | rfl | rfl | rfl | rfl | rfl <;> first | exact stab_det _ | exact stab_vsP _ _ | exact stab_slP _)) ?_ ?_ ?_
                · intro i o hi ho
                  match i, hi with
                  | 0, _ =>
                    obtain rfl := Option.some.inj ho
                    intro u x hd
                    have hc := Past.cell x
                    simp [go_sem, gives, frm, Act.put, nthR, detR, Region.wanted, Below.refl]
                  | 1, _ =>
                    obtain rfl := Option.some.inj ho
                    intro u x hd
                    have hc := Past.cell x
                    simp [go_sem, gives, frm, Act.put, nthR, detR, Region.wanted, Below.refl, hc, x0, x1, xz]
                  | 2, _ =>
                    obtain rfl := Option.some.inj ho
                    intro u x hd
                    have hc := Past.cell x
                    simp [go_sem, gives, frm, Act.put, nthR, detR, Region.wanted, Below.refl]
                  | 3, _ =>
                    obtain rfl := Option.some.inj ho
                    intro u x hd
                    have hc := Past.cell x
                    simp [go_sem, gives, frm, Act.put, nthR, detR, Region.wanted, Below.refl]
                  | 4, _ =>
                    obtain rfl := Option.some.inj ho
                    intro u x hd
                    have hc := Past.cell x
                    have d3 := hd 3 (by decide) (by kernel_rfl)
                    simp only [nthR, detR, List.getD_cons_zero, List.getD_cons_succ] at d3
                    simp [go_sem, gives, frm, Act.put, nthR, detR, Region.wanted, Below.refl, d3]
                  | 5, _ =>
                    obtain rfl := Option.some.inj ho
                    intro u x hd
                    have hc := Past.cell x
                    have d4 := hd 4 (by decide) (by kernel_rfl)
                    simp only [nthR, detR, List.getD_cons_zero, List.getD_cons_succ] at d4
                    simp [go_sem, gives, frm, Act.put, nthR, detR, Region.wanted, Below.refl, d4, hw0]
                  | 6, _ =>
                    obtain rfl := Option.some.inj ho
                    intro u x hd
                    have hc := Past.cell x
                    have d2 := hd 2 (by decide) (by kernel_rfl)
                    have d5 := hd 5 (by decide) (by kernel_rfl)
                    simp only [nthR, detR, List.getD_cons_zero, List.getD_cons_succ] at d2 d5
                    simp [go_sem, gives, frm, Act.put, nthR, detR, Region.wanted, Below.refl, d2, d5, hmc1]
                  | 7, _ =>
                    obtain rfl := Option.some.inj ho
                    intro u x hd
                    have hc := Past.cell x
                    have d0 := hd 0 (by decide) (by kernel_rfl)
                    have d1 := hd 1 (by decide) (by kernel_rfl)
                    have d6 := hd 6 (by decide) (by kernel_rfl)
                    simp only [nthR, detR, List.getD_cons_zero, List.getD_cons_succ] at d0 d1 d6
                    simp [go_sem, gives, frm, Act.put, nthR, Region.wanted, d0, d1, d6]
                    (with_reducible refine (HB16.out x).mono ?_); rintro e w3 ⟨a9, c9, rfl, hs9, hb9⟩; exact ⟨_, rfl, hb9, ⟨a9, c9, rfl, hs9⟩⟩
                  | 8, _ =>
                    obtain rfl := Option.some.inj ho
                    intro u x hd
                    have hc := Past.cell x
                    have h7 : ∃ (a : Option Addr) (c : Nat), u 7 = .tuple #[.slice a LD.length c, .int .i64 0] ∧ SliVs x.1 (.slice a LD.length c) LD := hd 7 (by decide) (by kernel_rfl)
                    have e7 := h7.choose_spec.choose_spec.1
                    have s7 := h7.choose_spec.choose_spec.2
                    generalize h7.choose_spec.choose = c7 at *
                    generalize h7.choose = a7 at *
                    simp [go_sem, gives, frm, Act.put, nthR, Region.wanted, Below.refl, e7]
                    exact ⟨a7, c7, rfl, s7⟩
                  | 9, _ =>
                    obtain rfl := Option.some.inj ho
                    intro u x hd
                    have hc := Past.cell x
                    have h8 : ∃ (a : Option Addr) (c : Nat), u 8 = .tuple #[.slice a LD.length c, .int .i64 0] ∧ SliVs x.1 (.slice a LD.length c) LD := hd 8 (by decide) (by kernel_rfl)
                    have e8 := h8.choose_spec.choose_spec.1
                    have s8 := h8.choose_spec.choose_spec.2
                    generalize h8.choose_spec.choose = c8 at *
                    generalize h8.choose = a8 at *
                    simp [go_sem, gives, frm, Act.put, nthR, Region.wanted, Below.refl, e8]
                    exact ⟨a8, c8, rfl, s8⟩
                  | 10, _ =>
                    obtain rfl := Option.some.inj ho
                    intro u x hd
                    have hc := Past.cell x
                    have h8 : ∃ (a : Option Addr) (c : Nat), u 8 = .tuple #[.slice a LD.length c, .int .i64 0] ∧ SliVs x.1 (.slice a LD.length c) LD := hd 8 (by decide) (by kernel_rfl)
                    have e8 := h8.choose_spec.choose_spec.1
                    have s8 := h8.choose_spec.choose_spec.2
                    generalize h8.choose_spec.choose = c8 at *
                    generalize h8.choose = a8 at *
                    simp [go_sem, gives, frm, Act.put, nthR, Region.wanted, Below.refl, e8, detR]
                  | i + 11, h => exact absurd h (by omega)
                · intro i o hx ho
                  simp only [List.mem_cons, List.not_mem_nil, or_false] at hx
                  rcases hx with rfl
                  · obtain rfl := Option.some.inj ho
                    refine ⟨rfl, fun _ _ _ _ h => h, fun u x hd => ?_⟩
                    have h8 : ∃ (a : Option Addr) (c : Nat), u 8 = .tuple #[.slice a LD.length c, .int .i64 0] ∧ SliVs x.1 (.slice a LD.length c) LD := hd 8 (by decide) (by kernel_rfl)
                    have e8 := h8.choose_spec.choose_spec.1
                    have s8 := h8.choose_spec.choose_spec.2
                    generalize h8.choose_spec.choose = c8 at *
                    generalize h8.choose = a8 at *
                    refine ⟨rfl, .int .i64 0, rfl, fun w' => ?_⟩
                    simp [go_sem, frm, Act.put, e8]
                · intro u x9 hu hne
                  have e0 : u 0 = .slice f1 n1 c1 := hu 0 (by decide)
                  have e1 : u 1 = V a b := hu 1 (by decide)
                  have e2 : u 2 = .slice f3 (m + 1) c3 := hu 2 (by decide)
                  have e3 : u 3 = .slice f3 (m + 1) c3 := hu 3 (by decide)
                  have e4 : u 4 = .int .i64 ((m : Int) + 1) := hu 4 (by decide)
                  have e5 : u 5 = .int .i64 (m : Int) := hu 5 (by decide)
                  have e6 : u 6 = .slice f3 m c3 := hu 6 (by decide)
                  have h7 : vsP LD 0 (u 7) x9.1 := hu 7 (by decide)
                  have h8 : vsP LD 0 (u 8) x9.1 := hu 8 (by decide)
                  have h9 : slP LD (u 9) x9.1 := hu 9 (by decide)
                  have e10 : u 10 = .int .i64 0 := hu 10 (by decide)
                  obtain ⟨a7, c7, e7, _⟩ := h7
                  obtain ⟨a8, c8, e8, _⟩ := h8
                  obtain ⟨a9, c9, e9, s9⟩ := h9
                  simp only [frm, List.take, Act.put, e0, e1, e2, e3, e4, e5, e6, e7, e8, e9, e10]
                  obtain ⟨wA, hw⟩ : ∃ z, z = x9.1 := ⟨_, rfl⟩
                  have hx9 := Past.prop x9
                  rw [← hw] at hx9 s9
                  rw [← hw]
                  have HI := hidE (HI.out.past hx9); have SA := hidE (SA.out.past hx9); have SD := hidE s9
                  clear hw hx9 s9 hu e0 e1 e2 e3 e4 e5 e6 e7 e8 e9 e10 HB16 x0 x1 xz
                  go_wp2_with fail
                  ((with_reducible refine (swithin_t SA.out SD.out M5.out).mono ?_); rintro e wB ⟨rfl, hb⟩)
                  have HI := hidE (HI.out.past hb)
                  clear hb SD
                  go_wp2_with fail
                  ((with_reducible refine (HH.out _).mono ?_); rintro e wzpad ⟨rfl, hbz⟩)
                  go_wp2
                  go_ret
                  exact ⟨rfl, bstep hbz HI.out.bel⟩

              · have dl : decide ((1 : Int) < (n3 : Int)) = false := decide_eq_false (by omega)
                have dl' : decide (1 < n3) = false := decide_eq_false hl
                clear hl
                go_wp2_with fail
                ((with_reducible refine (HH.out _).mono ?_); rintro e wzpa ⟨rfl, hbz⟩)
                go_wp2
                go_ret
                exact ⟨rfl, bstep hbz HI.out.bel⟩
            · have eh0 : (eh == 0) = false := beq_eq_false_iff_ne.2 hh
              clear hh SC HM
              by_cases hl : 1 < n3
              · have dl : decide ((1 : Int) < (n3 : Int)) = true := decide_eq_true (by omega)
                have dl' : decide (1 < n3) = true := decide_eq_true hl
                obtain ⟨m, rfl⟩ : ∃ m, n3 = m + 1 := ⟨n3 - 1, by omega⟩
                have hm0 : 0 < m := by omega
                have hml : m ≤ l.length := by have := (sli_len HI.out.s3).1; omega
                obtain ⟨m1, m2⟩ := more_less HE0.out hm0 hml
                obtain ⟨D, hD⟩ : ∃ D, D = begS F a b (l.take m) := ⟨_, rfl⟩
                obtain ⟨LD, ed⟩ := D
                obtain rfl : ed = 0 := by have e1 : (begS F a b (l.take m)).2 = slotE F a b (l.take m) := begS_err; rw [← hD, m1] at e1; exact e1
                have e1 : (begS F a b (l.take m)).1 = LD := by rw [← hD]
                rw [HA1.out, e1] at m2
                have M5 := hidE m2; have HD := hidE hD; have HML := hidE hml
                clear m1 m2 e1 hD hml hl
                have dl2 : decide ((1 : Int) < (m : Int) + 1) = true := decide_eq_true (by omega)
                have dl3 : decide (0 < m) = true := decide_eq_true hm0
                have hmc : m + 1 ≤ c3 ∧ m ≤ 30 := by have := sli_len HI.out.s3; have := HK.out; omega
                have hmc1 : m ≤ c3 := by omega
                have hw0 : IntKind.i64.wrap (m : Int) = (m : Int) := IntWalk.i64_in _ (by omega)
                have x0 := HI.out.win.cell 0; have x1 := HI.out.win.cell 1; have xz := HI.out.win.lt
                simp at x0 x1
                have HB16 := hidE (fun (x : Past w8) => begins_eq (cL := c3) (HI.out.s1.past (Past.prop x)) (sliS_take (k := m) (HI.out.s3.past (Past.prop x)) (by omega)) (by have := HK.out; omega) (by omega) (by omega) (by omega) HD.out.symm)
                go_upto_region 16 with fail
                refine wp_region_J 11 [10] (nthR [detR (.slice f1 n1 c1), detR (V a b), detR (.slice f3 (m + 1) c3), detR (.slice f3 (m + 1) c3), detR (.int .i64 ((m : Int) + 1)), detR (.int .i64 (m : Int)), detR (.slice f3 m c3), vsP LD 0, vsP LD 0, slP LD, detR (.int .i64 0)]) (fun _ => false) (by kernel_rfl) (by decide) (by kernel_rfl) (stab_nth (by intro r hr; simp only [List.mem_cons, List.not_mem_nil, or_false] at hr; rcases hr with rfl | rfl | rfl | rfl | rfl | rfl | rfl | rfl | rfl | rfl | rfl <;> first | exact stab_det _ | exact stab_vsP _ _ | exact stab_slP _)) ?_ ?_ ?_
                · intro i o hi ho
                  match i, hi with
                  | 0, _ =>
                    obtain rfl := Option.some.inj ho
                    intro u x hd
                    have hc := Past.cell x
                    simp [go_sem, gives, frm, Act.put, nthR, detR, Region.wanted, Below.refl]
                  | 1, _ =>
                    obtain rfl := Option.some.inj ho
                    intro u x hd
                    have hc := Past.cell x
                    simp [go_sem, gives, frm, Act.put, nthR, detR, Region.wanted, Below.refl, hc, x0, x1, xz]
                  | 2, _ =>
                    obtain rfl := Option.some.inj ho
                    intro u x hd
                    have hc := Past.cell x
                    simp [go_sem, gives, frm, Act.put, nthR, detR, Region.wanted, Below.refl]
                  | 3, _ =>
                    obtain rfl := Option.some.inj ho
                    intro u x hd
                    have hc := Past.cell x
                    simp [go_sem, gives, frm, Act.put, nthR, detR, Region.wanted, Below.refl]
                  | 4, _ =>
                    obtain rfl := Option.some.inj ho
                    intro u x hd
                    have hc := Past.cell x
                    have d3 := hd 3 (by decide) (by kernel_rfl)
                    simp only [nthR, detR, List.getD_cons_zero, List.getD_cons_succ] at d3
                    simp [go_sem, gives, frm, Act.put, nthR, detR, Region.wanted, Below.refl, d3]
                  | 5, _ =>
                    obtain rfl := Option.some.inj ho
                    intro u x hd
                    have hc := Past.cell x
                    have d4 := hd 4 (by decide) (by kernel_rfl)
                    simp only [nthR, detR, List.getD_cons_zero, List.getD_cons_succ] at d4
                    simp [go_sem, gives, frm, Act.put, nthR, detR, Region.wanted, Below.refl, d4, hw0]
                  | 6, _ =>
                    obtain rfl := Option.some.inj ho
                    intro u x hd
                    have hc := Past.cell x
                    have d2 := hd 2 (by decide) (by kernel_rfl)
                    have d5 := hd 5 (by decide) (by kernel_rfl)
                    simp only [nthR, detR, List.getD_cons_zero, List.getD_cons_succ] at d2 d5
                    simp [go_sem, gives, frm, Act.put, nthR, detR, Region.wanted, Below.refl, d2, d5, hmc1]
                  | 7, _ =>
                    obtain rfl := Option.some.inj ho
                    intro u x hd
                    have hc := Past.cell x
                    have d0 := hd 0 (by decide) (by kernel_rfl)
                    have d1 := hd 1 (by decide) (by kernel_rfl)
                    have d6 := hd 6 (by decide) (by kernel_rfl)
                    simp only [nthR, detR, List.getD_cons_zero, List.getD_cons_succ] at d0 d1 d6
                    simp [go_sem, gives, frm, Act.put, nthR, Region.wanted, d0, d1, d6]
                    (with_reducible refine (HB16.out x).mono ?_); rintro e w3 ⟨a9, c9, rfl, hs9, hb9⟩; exact ⟨_, rfl, hb9, ⟨a9, c9, rfl, hs9⟩⟩
                  | 8, _ =>
                    obtain rfl := Option.some.inj ho
                    intro u x hd
                    have hc := Past.cell x
                    have h7 : ∃ (a : Option Addr) (c : Nat), u 7 = .tuple #[.slice a LD.length c, .int .i64 0] ∧ SliVs x.1 (.slice a LD.length c) LD := hd 7 (by decide) (by kernel_rfl)
                    have e7 := h7.choose_spec.choose_spec.1
                    have s7 := h7.choose_spec.choose_spec.2
                    generalize h7.choose_spec.choose = c7 at *
                    generalize h7.choose = a7 at *
                    simp [go_sem, gives, frm, Act.put, nthR, Region.wanted, Below.refl, e7]
                    exact ⟨a7, c7, rfl, s7⟩
                  | 9, _ =>
                    obtain rfl := Option.some.inj ho
                    intro u x hd
                    have hc := Past.cell x
                    have h8 : ∃ (a : Option Addr) (c : Nat), u 8 = .tuple #[.slice a LD.length c, .int .i64 0] ∧ SliVs x.1 (.slice a LD.length c) LD := hd 8 (by decide) (by kernel_rfl)
                    have e8 := h8.choose_spec.choose_spec.1
                    have s8 := h8.choose_spec.choose_spec.2
                    generalize h8.choose_spec.choose = c8 at *
                    generalize h8.choose = a8 at *
                    simp [go_sem, gives, frm, Act.put, nthR, Region.wanted, Below.refl, e8]
                    exact ⟨a8, c8, rfl, s8⟩
                  | 10, _ =>
                    obtain rfl := Option.some.inj ho
                    intro u x hd
                    have hc := Past.cell x
                    have h8 : ∃ (a : Option Addr) (c : Nat), u 8 = .tuple #[.slice a LD.length c, .int .i64 0] ∧ SliVs x.1 (.slice a LD.length c) LD := hd 8 (by decide) (by kernel_rfl)
                    have e8 := h8.choose_spec.choose_spec.1
                    have s8 := h8.choose_spec.choose_spec.2
                    generalize h8.choose_spec.choose = c8 at *
                    generalize h8.choose = a8 at *
                    simp [go_sem, gives, frm, Act.put, nthR, Region.wanted, Below.refl, e8, detR]
                  | i + 11, h => exact absurd h (by omega)
                · intro i o hx ho
                  simp only [List.mem_cons, List.not_mem_nil, or_false] at hx
                  rcases hx with rfl
                  · obtain rfl := Option.some.inj ho
                    refine ⟨rfl, fun _ _ _ _ h => h, fun u x hd => ?_⟩
                    have h8 : ∃ (a : Option Addr) (c : Nat), u 8 = .tuple #[.slice a LD.length c, .int .i64 0] ∧ SliVs x.1 (.slice a LD.length c) LD := hd 8 (by decide) (by kernel_rfl)
                    have e8 := h8.choose_spec.choose_spec.1
                    have s8 := h8.choose_spec.choose_spec.2
                    generalize h8.choose_spec.choose = c8 at *
                    generalize h8.choose = a8 at *
                    refine ⟨rfl, .int .i64 0, rfl, fun w' => ?_⟩
                    simp [go_sem, frm, Act.put, e8]
                · intro u x9 hu hne
                  have e0 : u 0 = .slice f1 n1 c1 := hu 0 (by decide)
                  have e1 : u 1 = V a b := hu 1 (by decide)
                  have e2 : u 2 = .slice f3 (m + 1) c3 := hu 2 (by decide)
                  have e3 : u 3 = .slice f3 (m + 1) c3 := hu 3 (by decide)
                  have e4 : u 4 = .int .i64 ((m : Int) + 1) := hu 4 (by decide)
                  have e5 : u 5 = .int .i64 (m : Int) := hu 5 (by decide)
                  have e6 : u 6 = .slice f3 m c3 := hu 6 (by decide)
                  have h7 : vsP LD 0 (u 7) x9.1 := hu 7 (by decide)
                  have h8 : vsP LD 0 (u 8) x9.1 := hu 8 (by decide)
                  have h9 : slP LD (u 9) x9.1 := hu 9 (by decide)
                  have e10 : u 10 = .int .i64 0 := hu 10 (by decide)
                  obtain ⟨a7, c7, e7, _⟩ := h7
                  obtain ⟨a8, c8, e8, _⟩ := h8
                  obtain ⟨a9, c9, e9, s9⟩ := h9
                  simp only [frm, List.take, Act.put, e0, e1, e2, e3, e4, e5, e6, e7, e8, e9, e10]
                  obtain ⟨wA, hw⟩ : ∃ z, z = x9.1 := ⟨_, rfl⟩
                  have hx9 := Past.prop x9
                  rw [← hw] at hx9 s9
                  rw [← hw]
                  have HI := hidE (HI.out.past hx9); have SA := hidE (SA.out.past hx9); have SD := hidE s9
                  clear hw hx9 s9 hu e0 e1 e2 e3 e4 e5 e6 e7 e8 e9 e10 HB16 x0 x1 xz
                  go_wp2_with fail
                  ((with_reducible refine (swithin_t SA.out SD.out M5.out).mono ?_); rintro e wB ⟨rfl, hb⟩)
                  have HI := hidE (HI.out.past hb)
                  clear hb SD
                  go_wp2_with fail
                  ((with_reducible refine (HH.out _).mono ?_); rintro e wzpbd ⟨rfl, hbz⟩)
                  go_wp2
                  go_ret
                  exact ⟨rfl, bstep hbz HI.out.bel⟩

              · have dl : decide ((1 : Int) < (n3 : Int)) = false := decide_eq_false (by omega)
                have dl' : decide (1 < n3) = false := decide_eq_false hl
                clear hl
                go_wp2_with fail
                ((with_reducible refine (HH.out _).mono ?_); rintro e wzpb ⟨rfl, hbz⟩)
                go_wp2
                go_ret
                exact ⟨rfl, bstep hbz HI.out.bel⟩
          · have eb0 : (eb == 0) = false := beq_eq_false_iff_ne.2 hb0
            clear hb0 SB HB
            obtain ⟨M, hM⟩ : ∃ M, M = doS 3 F G := ⟨_, rfl⟩
            obtain ⟨H, eh⟩ := M
            have HM := hidE hM.symm
            have HHL := hidE (show H.length ≤ 120 from by
              have h1 : H = (doS 3 F G).1 := by rw [← hM]
              rw [h1]; have := HL.out; have := opL_len 3 F G; unfold doS; split
              · simp
              · split
                · exact (show (opL 3 F G).length ≤ 120 by omega)
                · simp)
            clear hM
            go_wp2_with fail
            ((with_reducible refine (cmx_s HI.out.s1 HI.out.s2 (by have := HK.out; omega) HM.out).mono ?_); rintro e w7 ⟨vH, rfl, hsH, hb⟩)
            have HI := hidE (HI.out.past hb); have SA := hidE (SA.out.past hb)
            obtain ⟨aH, cH, rfl, s1, s2, s3⟩ := hsH
            have SH := hidE (show SliS w7 (.slice aH H.length cH) H from ⟨aH, cH, rfl, s1, s2, s3⟩)
            clear hb s1 s2 s3
            obtain ⟨C, hC⟩ : ∃ C, C = begS H a b l := ⟨_, rfl⟩
            obtain ⟨LC, ec⟩ := C
            have HCC := hidE hC
            clear hC
            have x0 := HI.out.win.cell 0; have x1 := HI.out.win.cell 1; have xz := HI.out.win.lt
            simp at x0 x1
            go_wp2_with fail
            ((with_reducible refine (begins_eq SH.out HI.out.s3 (by have := HHL.out; omega) (by have := HK.out; omega) (by omega) (by omega) HCC.out.symm).mono ?_); rintro e w8 ⟨aC, cC, rfl, hsC, hb⟩)
            have HI := hidE (HI.out.past hb); have SA := hidE (SA.out.past hb); have SC := hidE (show SliVs w8 (.slice aC LC.length cC) LC from hsC)
            clear hb hsC x0 x1 xz SH
            by_cases hh : eh = 0
            · subst hh
              have hm := high_most HZ.out.1 HM.out
              obtain ⟨m1, m2⟩ := more_high (a := a) (b := b) (l := l) HE0.out hm.1 hm.2
              obtain rfl : ec = 0 := by have e1 : (begS H a b l).2 = slotE H a b l := begS_err; rw [← HCC.out, m1] at e1; exact e1
              have e1 : (begS H a b l).1 = LC := by rw [← HCC.out]
              rw [HA1.out, e1] at m2
              have m3 : ∀ x ∈ LA, ∃ y ∈ LC, y.1 ≤ x.1 ∧ x.2 ≤ y.2 := m2
              clear e1
              have M3 := hidE m3
              clear hm m1 m2 m3
              go_wp2_with fail
              ((with_reducible refine (swithin_t SA.out SC.out M3.out).mono ?_); rintro e w9 ⟨rfl, hb⟩)
              have HI := hidE (HI.out.past hb); have SA := hidE (SA.out.past hb)
              clear hb SC
              by_cases hl : 1 < n3
              · have dl : decide ((1 : Int) < (n3 : Int)) = true := decide_eq_true (by omega)
                have dl' : decide (1 < n3) = true := decide_eq_true hl
                obtain ⟨m, rfl⟩ : ∃ m, n3 = m + 1 := ⟨n3 - 1, by omega⟩
                have hm0 : 0 < m := by omega
                have hml : m ≤ l.length := by have := (sli_len HI.out.s3).1; omega
                obtain ⟨m1, m2⟩ := more_less HE0.out hm0 hml
                obtain ⟨D, hD⟩ : ∃ D, D = begS F a b (l.take m) := ⟨_, rfl⟩
                obtain ⟨LD, ed⟩ := D
                obtain rfl : ed = 0 := by have e1 : (begS F a b (l.take m)).2 = slotE F a b (l.take m) := begS_err; rw [← hD, m1] at e1; exact e1
                have e1 : (begS F a b (l.take m)).1 = LD := by rw [← hD]
                rw [HA1.out, e1] at m2
                have M5 := hidE m2; have HD := hidE hD; have HML := hidE hml
                clear m1 m2 e1 hD hml hl
                have dl2 : decide ((1 : Int) < (m : Int) + 1) = true := decide_eq_true (by omega)
                have dl3 : decide (0 < m) = true := decide_eq_true hm0
                have hmc : m + 1 ≤ c3 ∧ m ≤ 30 := by have := sli_len HI.out.s3; have := HK.out; omega
                have hmc1 : m ≤ c3 := by omega
                have hw0 : IntKind.i64.wrap (m : Int) = (m : Int) := IntWalk.i64_in _ (by omega)
                have x0 := HI.out.win.cell 0; have x1 := HI.out.win.cell 1; have xz := HI.out.win.lt
                simp at x0 x1
                have HB16 := hidE (fun (x : Past w9) => begins_eq (cL := c3) (HI.out.s1.past (Past.prop x)) (sliS_take (k := m) (HI.out.s3.past (Past.prop x)) (by omega)) (by have := HK.out; omega) (by omega) (by omega) (by omega) HD.out.symm)
                go_upto_region 16 with fail
                refine wp_region_J 11 [10] (nthR [detR (.slice f1 n1 c1), detR (V a b), detR (.slice f3 (m + 1) c3), detR (.slice f3 (m + 1) c3), detR (.int .i64 ((m : Int) + 1)), detR (.int .i64 (m : Int)), detR (.slice f3 m c3), vsP LD 0, vsP LD 0, slP LD, detR (.int .i64 0)]) (fun _ => false) (by kernel_rfl) (by decide) (by kernel_rfl) (stab_nth (by intro r hr; simp only [List.mem_cons, List.not_mem_nil, or_false] at hr; rcases hr with rfl | rfl | rfl | rfl | rfl | rfl | rfl | rfl | rfl | rfl | rfl <;> first | exact stab_det _ | exact stab_vsP _ _ | exact stab_slP _)) ?_ ?_ ?_
                · intro i o hi ho
                  match i, hi with
                  | 0, _ =>
                    obtain rfl := Option.some.inj ho
                    intro u x hd
                    have hc := Past.cell x
                    simp [go_sem, gives, frm, Act.put, nthR, detR, Region.wanted, Below.refl]
                  | 1, _ =>
                    obtain rfl := Option.some.inj ho
                    intro u x hd
                    have hc := Past.cell x
                    simp [go_sem, gives, frm, Act.put, nthR, detR, Region.wanted, Below.refl, hc, x0, x1, xz]
                  | 2, _ =>
                    obtain rfl := Option.some.inj ho
                    intro u x hd
                    have hc := Past.cell x
                    simp [go_sem, gives, frm, Act.put, nthR, detR, Region.wanted, Below.refl]
                  | 3, _ =>
                    obtain rfl := Option.some.inj ho
                    intro u x hd
                    have hc := Past.cell x
                    simp [go_sem, gives, frm, Act.put, nthR, detR, Region.wanted, Below.refl]
                  | 4, _ =>
                    obtain rfl := Option.some.inj ho
                    intro u x hd
                    have hc := Past.cell x
                    have d3 := hd 3 (by decide) (by kernel_rfl)
                    simp only [nthR, detR, List.getD_cons_zero, List.getD_cons_succ] at d3
                    simp [go_sem, gives, frm, Act.put, nthR, detR, Region.wanted, Below.refl, d3]
                  | 5, _ =>
                    obtain rfl := Option.some.inj ho
                    intro u x hd
                    have hc := Past.cell x
                    have d4 := hd 4 (by decide) (by kernel_rfl)
                    simp only [nthR, detR, List.getD_cons_zero, List.getD_cons_succ] at d4
                    simp [go_sem, gives, frm, Act.put, nthR, detR, Region.wanted, Below.refl, d4, hw0]
                  | 6, _ =>
                    obtain rfl := Option.some.inj ho
                    intro u x hd
                    have hc := Past.cell x
                    have d2 := hd 2 (by decide) (by kernel_rfl)
                    have d5 := hd 5 (by decide) (by kernel_rfl)
                    simp only [nthR, detR, List.getD_cons_zero, List.getD_cons_succ] at d2 d5
                    simp [go_sem, gives, frm, Act.put, nthR, detR, Region.wanted, Below.refl, d2, d5, hmc1]
                  | 7, _ =>
                    obtain rfl := Option.some.inj ho
                    intro u x hd
                    have hc := Past.cell x
                    have d0 := hd 0 (by decide) (by kernel_rfl)
                    have d1 := hd 1 (by decide) (by kernel_rfl)
                    have d6 := hd 6 (by decide) (by kernel_rfl)
                    simp only [nthR, detR, List.getD_cons_zero, List.getD_cons_succ] at d0 d1 d6
                    simp [go_sem, gives, frm, Act.put, nthR, Region.wanted, d0, d1, d6]
                    (with_reducible refine (HB16.out x).mono ?_); rintro e w3 ⟨a9, c9, rfl, hs9, hb9⟩; exact ⟨_, rfl, hb9, ⟨a9, c9, rfl, hs9⟩⟩
                  | 8, _ =>
                    obtain rfl := Option.some.inj ho
                    intro u x hd
                    have hc := Past.cell x
                    have h7 : ∃ (a : Option Addr) (c : Nat), u 7 = .tuple #[.slice a LD.length c, .int .i64 0] ∧ SliVs x.1 (.slice a LD.length c) LD := hd 7 (by decide) (by kernel_rfl)
                    have e7 := h7.choose_spec.choose_spec.1
                    have s7 := h7.choose_spec.choose_spec.2
                    generalize h7.choose_spec.choose = c7 at *
                    generalize h7.choose = a7 at *
                    simp [go_sem, gives, frm, Act.put, nthR, Region.wanted, Below.refl, e7]
                    exact ⟨a7, c7, rfl, s7⟩
                  | 9, _ =>
                    obtain rfl := Option.some.inj ho
                    intro u x hd
                    have hc := Past.cell x
                    have h8 : ∃ (a : Option Addr) (c : Nat), u 8 = .tuple #[.slice a LD.length c, .int .i64 0] ∧ SliVs x.1 (.slice a LD.length c) LD := hd 8 (by decide) (by kernel_rfl)
                    have e8 := h8.choose_spec.choose_spec.1
                    have s8 := h8.choose_spec.choose_spec.2
                    generalize h8.choose_spec.choose = c8 at *
                    generalize h8.choose = a8 at *
                    simp [go_sem, gives, frm, Act.put, nthR, Region.wanted, Below.refl, e8]
                    exact ⟨a8, c8, rfl, s8⟩
                  | 10, _ =>
                    obtain rfl := Option.some.inj ho
                    intro u x hd
                    have hc := Past.cell x
                    have h8 : ∃ (a : Option Addr) (c : Nat), u 8 = .tuple #[.slice a LD.length c, .int .i64 0] ∧ SliVs x.1 (.slice a LD.length c) LD := hd 8 (by decide) (by kernel_rfl)
                    have e8 := h8.choose_spec.choose_spec.1
                    have s8 := h8.choose_spec.choose_spec.2
                    generalize h8.choose_spec.choose = c8 at *
                    generalize h8.choose = a8 at *
                    simp [go_sem, gives, frm, Act.put, nthR, Region.wanted, Below.refl, e8, detR]
                  | i + 11, h => exact absurd h (by omega)
                · intro i o hx ho
                  simp only [List.mem_cons, List.not_mem_nil, or_false] at hx
                  rcases hx with rfl
                  · obtain rfl := Option.some.inj ho
                    refine ⟨rfl, fun _ _ _ _ h => h, fun u x hd => ?_⟩
                    have h8 : ∃ (a : Option Addr) (c : Nat), u 8 = .tuple #[.slice a LD.length c, .int .i64 0] ∧ SliVs x.1 (.slice a LD.length c) LD := hd 8 (by decide) (by kernel_rfl)
                    have e8 := h8.choose_spec.choose_spec.1
                    have s8 := h8.choose_spec.choose_spec.2
                    generalize h8.choose_spec.choose = c8 at *
                    generalize h8.choose = a8 at *
                    refine ⟨rfl, .int .i64 0, rfl, fun w' => ?_⟩
                    simp [go_sem, frm, Act.put, e8]
                · intro u x9 hu hne
                  have e0 : u 0 = .slice f1 n1 c1 := hu 0 (by decide)
                  have e1 : u 1 = V a b := hu 1 (by decide)
                  have e2 : u 2 = .slice f3 (m + 1) c3 := hu 2 (by decide)
                  have e3 : u 3 = .slice f3 (m + 1) c3 := hu 3 (by decide)
                  have e4 : u 4 = .int .i64 ((m : Int) + 1) := hu 4 (by decide)
                  have e5 : u 5 = .int .i64 (m : Int) := hu 5 (by decide)
                  have e6 : u 6 = .slice f3 m c3 := hu 6 (by decide)
                  have h7 : vsP LD 0 (u 7) x9.1 := hu 7 (by decide)
                  have h8 : vsP LD 0 (u 8) x9.1 := hu 8 (by decide)
                  have h9 : slP LD (u 9) x9.1 := hu 9 (by decide)
                  have e10 : u 10 = .int .i64 0 := hu 10 (by decide)
                  obtain ⟨a7, c7, e7, _⟩ := h7
                  obtain ⟨a8, c8, e8, _⟩ := h8
                  obtain ⟨a9, c9, e9, s9⟩ := h9
                  simp only [frm, List.take, Act.put, e0, e1, e2, e3, e4, e5, e6, e7, e8, e9, e10]
                  obtain ⟨wA, hw⟩ : ∃ z, z = x9.1 := ⟨_, rfl⟩
                  have hx9 := Past.prop x9
                  rw [← hw] at hx9 s9
                  rw [← hw]
                  have HI := hidE (HI.out.past hx9); have SA := hidE (SA.out.past hx9); have SD := hidE s9
                  clear hw hx9 s9 hu e0 e1 e2 e3 e4 e5 e6 e7 e8 e9 e10 HB16 x0 x1 xz
                  go_wp2_with fail
                  ((with_reducible refine (swithin_t SA.out SD.out M5.out).mono ?_); rintro e wB ⟨rfl, hb⟩)
                  have HI := hidE (HI.out.past hb)
                  clear hb SD
                  go_wp2_with fail
                  ((with_reducible refine (HH.out _).mono ?_); rintro e wzqad ⟨rfl, hbz⟩)
                  go_wp2
                  go_ret
                  exact ⟨rfl, bstep hbz HI.out.bel⟩

              · have dl : decide ((1 : Int) < (n3 : Int)) = false := decide_eq_false (by omega)
                have dl' : decide (1 < n3) = false := decide_eq_false hl
                clear hl
                go_wp2_with fail
                ((with_reducible refine (HH.out _).mono ?_); rintro e wzqa ⟨rfl, hbz⟩)
                go_wp2
                go_ret
                exact ⟨rfl, bstep hbz HI.out.bel⟩
            · have eh0 : (eh == 0) = false := beq_eq_false_iff_ne.2 hh
              clear hh SC HM
              by_cases hl : 1 < n3
              · have dl : decide ((1 : Int) < (n3 : Int)) = true := decide_eq_true (by omega)
                have dl' : decide (1 < n3) = true := decide_eq_true hl
                obtain ⟨m, rfl⟩ : ∃ m, n3 = m + 1 := ⟨n3 - 1, by omega⟩
                have hm0 : 0 < m := by omega
                have hml : m ≤ l.length := by have := (sli_len HI.out.s3).1; omega
                obtain ⟨m1, m2⟩ := more_less HE0.out hm0 hml
                obtain ⟨D, hD⟩ : ∃ D, D = begS F a b (l.take m) := ⟨_, rfl⟩
                obtain ⟨LD, ed⟩ := D
                obtain rfl : ed = 0 := by have e1 : (begS F a b (l.take m)).2 = slotE F a b (l.take m) := begS_err; rw [← hD, m1] at e1; exact e1
                have e1 : (begS F a b (l.take m)).1 = LD := by rw [← hD]
                rw [HA1.out, e1] at m2
                have M5 := hidE m2; have HD := hidE hD; have HML := hidE hml
                clear m1 m2 e1 hD hml hl
                have dl2 : decide ((1 : Int) < (m : Int) + 1) = true := decide_eq_true (by omega)
                have dl3 : decide (0 < m) = true := decide_eq_true hm0
                have hmc : m + 1 ≤ c3 ∧ m ≤ 30 := by have := sli_len HI.out.s3; have := HK.out; omega
                have hmc1 : m ≤ c3 := by omega
                have hw0 : IntKind.i64.wrap (m : Int) = (m : Int) := IntWalk.i64_in _ (by omega)
                have x0 := HI.out.win.cell 0; have x1 := HI.out.win.cell 1; have xz := HI.out.win.lt
                simp at x0 x1
                have HB16 := hidE (fun (x : Past w8) => begins_eq (cL := c3) (HI.out.s1.past (Past.prop x)) (sliS_take (k := m) (HI.out.s3.past (Past.prop x)) (by omega)) (by have := HK.out; omega) (by omega) (by omega) (by omega) HD.out.symm)
                go_upto_region 16 with fail
                refine wp_region_J 11 [10] (nthR [detR (.slice f1 n1 c1), detR (V a b), detR (.slice f3 (m + 1) c3), detR (.slice f3 (m + 1) c3), detR (.int .i64 ((m : Int) + 1)), detR (.int .i64 (m : Int)), detR (.slice f3 m c3), vsP LD 0, vsP LD 0, slP LD, detR (.int .i64 0)]) (fun _ => false) (by kernel_rfl) (by decide) (by kernel_rfl) (stab_nth (by intro r hr; simp only [List.mem_cons, List.not_mem_nil, or_false] at hr; rcases hr with rfl | rfl | rfl | rfl | rfl | rfl | rfl | rfl | rfl | rfl | rfl <;> first | exact stab_det _ | exact stab_vsP _ _ | exact stab_slP _)) ?_ ?_ ?_
                · intro i o hi ho
                  match i, hi with
                  | 0, _ =>
                    obtain rfl := Option.some.inj ho
                    intro u x hd
                    have hc := Past.cell x
                    simp [go_sem, gives, frm, Act.put, nthR, detR, Region.wanted, Below.refl]
                  | 1, _ =>
                    obtain rfl := Option.some.inj ho
                    intro u x hd
                    have hc := Past.cell x
                    simp [go_sem, gives, frm, Act.put, nthR, detR, Region.wanted, Below.refl, hc, x0, x1, xz]
                  | 2, _ =>
                    obtain rfl := Option.some.inj ho
                    intro u x hd
                    have hc := Past.cell x
                    simp [go_sem, gives, frm, Act.put, nthR, detR, Region.wanted, Below.refl]
                  | 3, _ =>
                    obtain rfl := Option.some.inj ho
                    intro u x hd
                    have hc := Past.cell x
                    simp [go_sem, gives, frm, Act.put, nthR, detR, Region.wanted, Below.refl]
                  | 4, _ =>
                    obtain rfl := Option.some.inj ho
                    intro u x hd
                    have hc := Past.cell x
                    have d3 := hd 3 (by decide) (by kernel_rfl)
                    simp only [nthR, detR, List.getD_cons_zero, List.getD_cons_succ] at d3
                    simp [go_sem, gives, frm, Act.put, nthR, detR, Region.wanted, Below.refl, d3]
                  | 5, _ =>
                    obtain rfl := Option.some.inj ho
                    intro u x hd
                    have hc := Past.cell x
                    have d4 := hd 4 (by decide) (by kernel_rfl)
                    simp only [nthR, detR, List.getD_cons_zero, List.getD_cons_succ] at d4
                    simp [go_sem, gives, frm, Act.put, nthR, detR, Region.wanted, Below.refl, d4, hw0]
                  | 6, _ =>
                    obtain rfl := Option.some.inj ho
                    intro u x hd
                    have hc := Past.cell x
                    have d2 := hd 2 (by decide) (by kernel_rfl)
                    have d5 := hd 5 (by decide) (by kernel_rfl)
                    simp only [nthR, detR, List.getD_cons_zero, List.getD_cons_succ] at d2 d5
                    simp [go_sem, gives, frm, Act.put, nthR, detR, Region.wanted, Below.refl, d2, d5, hmc1]
                  | 7, _ =>
                    obtain rfl := Option.some.inj ho
                    intro u x hd
                    have hc := Past.cell x
                    have d0 := hd 0 (by decide) (by kernel_rfl)
                    have d1 := hd 1 (by decide) (by kernel_rfl)
                    have d6 := hd 6 (by decide) (by kernel_rfl)
                    simp only [nthR, detR, List.getD_cons_zero, List.getD_cons_succ] at d0 d1 d6
                    simp [go_sem, gives, frm, Act.put, nthR, Region.wanted, d0, d1, d6]
                    (with_reducible refine (HB16.out x).mono ?_); rintro e w3 ⟨a9, c9, rfl, hs9, hb9⟩; exact ⟨_, rfl, hb9, ⟨a9, c9, rfl, hs9⟩⟩
                  | 8, _ =>
                    obtain rfl := Option.some.inj ho
                    intro u x hd
                    have hc := Past.cell x
                    have h7 : ∃ (a : Option Addr) (c : Nat), u 7 = .tuple #[.slice a LD.length c, .int .i64 0] ∧ SliVs x.1 (.slice a LD.length c) LD := hd 7 (by decide) (by kernel_rfl)
                    have e7 := h7.choose_spec.choose_spec.1
                    have s7 := h7.choose_spec.choose_spec.2
                    generalize h7.choose_spec.choose = c7 at *
                    generalize h7.choose = a7 at *
                    simp [go_sem, gives, frm, Act.put, nthR, Region.wanted, Below.refl, e7]
                    exact ⟨a7, c7, rfl, s7⟩
                  | 9, _ =>
                    obtain rfl := Option.some.inj ho
                    intro u x hd
                    have hc := Past.cell x
                    have h8 : ∃ (a : Option Addr) (c : Nat), u 8 = .tuple #[.slice a LD.length c, .int .i64 0] ∧ SliVs x.1 (.slice a LD.length c) LD := hd 8 (by decide) (by kernel_rfl)
                    have e8 := h8.choose_spec.choose_spec.1
                    have s8 := h8.choose_spec.choose_spec.2
                    generalize h8.choose_spec.choose = c8 at *
                    generalize h8.choose = a8 at *
                    simp [go_sem, gives, frm, Act.put, nthR, Region.wanted, Below.refl, e8]
                    exact ⟨a8, c8, rfl, s8⟩
                  | 10, _ =>
                    obtain rfl := Option.some.inj ho
                    intro u x hd
                    have hc := Past.cell x
                    have h8 : ∃ (a : Option Addr) (c : Nat), u 8 = .tuple #[.slice a LD.length c, .int .i64 0] ∧ SliVs x.1 (.slice a LD.length c) LD := hd 8 (by decide) (by kernel_rfl)
                    have e8 := h8.choose_spec.choose_spec.1
                    have s8 := h8.choose_spec.choose_spec.2
                    generalize h8.choose_spec.choose = c8 at *
                    generalize h8.choose = a8 at *
                    simp [go_sem, gives, frm, Act.put, nthR, Region.wanted, Below.refl, e8, detR]
                  | i + 11, h => exact absurd h (by omega)
                · intro i o hx ho
                  simp only [List.mem_cons, List.not_mem_nil, or_false] at hx
                  rcases hx with rfl
                  · obtain rfl := Option.some.inj ho
                    refine ⟨rfl, fun _ _ _ _ h => h, fun u x hd => ?_⟩
                    have h8 : ∃ (a : Option Addr) (c : Nat), u 8 = .tuple #[.slice a LD.length c, .int .i64 0] ∧ SliVs x.1 (.slice a LD.length c) LD := hd 8 (by decide) (by kernel_rfl)
                    have e8 := h8.choose_spec.choose_spec.1
                    have s8 := h8.choose_spec.choose_spec.2
                    generalize h8.choose_spec.choose = c8 at *
                    generalize h8.choose = a8 at *
                    refine ⟨rfl, .int .i64 0, rfl, fun w' => ?_⟩
                    simp [go_sem, frm, Act.put, e8]
                · intro u x9 hu hne
                  have e0 : u 0 = .slice f1 n1 c1 := hu 0 (by decide)
                  have e1 : u 1 = V a b := hu 1 (by decide)
                  have e2 : u 2 = .slice f3 (m + 1) c3 := hu 2 (by decide)
                  have e3 : u 3 = .slice f3 (m + 1) c3 := hu 3 (by decide)
                  have e4 : u 4 = .int .i64 ((m : Int) + 1) := hu 4 (by decide)
                  have e5 : u 5 = .int .i64 (m : Int) := hu 5 (by decide)
                  have e6 : u 6 = .slice f3 m c3 := hu 6 (by decide)
                  have h7 : vsP LD 0 (u 7) x9.1 := hu 7 (by decide)
                  have h8 : vsP LD 0 (u 8) x9.1 := hu 8 (by decide)
                  have h9 : slP LD (u 9) x9.1 := hu 9 (by decide)
                  have e10 : u 10 = .int .i64 0 := hu 10 (by decide)
                  obtain ⟨a7, c7, e7, _⟩ := h7
                  obtain ⟨a8, c8, e8, _⟩ := h8
                  obtain ⟨a9, c9, e9, s9⟩ := h9
                  simp only [frm, List.take, Act.put, e0, e1, e2, e3, e4, e5, e6, e7, e8, e9, e10]
                  obtain ⟨wA, hw⟩ : ∃ z, z = x9.1 := ⟨_, rfl⟩
                  have hx9 := Past.prop x9
                  rw [← hw] at hx9 s9
                  rw [← hw]
                  have HI := hidE (HI.out.past hx9); have SA := hidE (SA.out.past hx9); have SD := hidE s9
                  clear hw hx9 s9 hu e0 e1 e2 e3 e4 e5 e6 e7 e8 e9 e10 HB16 x0 x1 xz
                  go_wp2_with fail
                  ((with_reducible refine (swithin_t SA.out SD.out M5.out).mono ?_); rintro e wB ⟨rfl, hb⟩)
                  have HI := hidE (HI.out.past hb)
                  clear hb SD
                  go_wp2_with fail
                  ((with_reducible refine (HH.out _).mono ?_); rintro e wzqbd ⟨rfl, hbz⟩)
                  go_wp2
                  go_ret
                  exact ⟨rfl, bstep hbz HI.out.bel⟩

              · have dl : decide ((1 : Int) < (n3 : Int)) = false := decide_eq_false (by omega)
                have dl' : decide (1 < n3) = false := decide_eq_false hl
                clear hl
                go_wp2_with fail
                ((with_reducible refine (HH.out _).mono ?_); rintro e wzqb ⟨rfl, hbz⟩)
                go_wp2
                go_ret
                exact ⟨rfl, bstep hbz HI.out.bel⟩
        · have e0 : (ea != 0) = true := bne_iff_ne.2 h0
          clear h0 HA
          go_wp2_with fail
          ((with_reducible refine (HH.out _).mono ?_); rintro e wzc ⟨rfl, hbz⟩)
          go_wp2
          go_ret
          exact ⟨rfl, bstep hbz HI.out.bel⟩
end
end Go.Proofs.Ytmjfogmpbidooaa

namespace Go.Proofs.Ytmjfogmpbidooaa
open Go.RowKit

/-- What an operation waits for has run. -/
def ShutL (l : List Oper) (n : Nat) (L : Nat → Bool) : Prop := ∀ j k, j < n → waits l.toArray j k = true → L j = true → L k = true
theorem cov_listed {l : List Oper} {n : Nat} {L : Nat → Bool} (hs : ShutL l n L) : ∀ (d i j : Nat), i < n → (∀ k, waits l.toArray i k = true → L k = true) → cover l.toArray d i j = true → L j = true := by
  intro d
  induction d with
  | zero => intro i j _ h hc; exact h j hc
  | succ d ih =>
    intro i j hi h hc
    simp only [cover, Bool.or_eq_true, List.any_eq_true, Bool.and_eq_true, List.mem_range] at hc
    rcases hc with hc | ⟨k, hk, hw, hc⟩
    · exact h j hc
    · exact ih k j (by omega) (fun q hq => hs k q (by omega) hq (h k hw)) hc
theorem covX_listed {l : List Oper} {n : Nat} {L : Nat → Bool} (hs : ShutL l n L) {i j : Nat} (hi : i < n) (h : ∀ k, waits l.toArray i k = true → L k = true) (hc : coverX l.toArray i j = true) : L j = true := by
  unfold coverX at hc
  rw [Bool.or_eq_true] at hc
  rcases hc with hc | hc
  · exact cov_listed hs 3 i j hi h hc
  · exact cov_listed hs 8 i j hi h hc
theorem gives_mono {P : Program} {G G' : Value → World → Prop} {r : Result Next} (h : gives P G r) (hm : ∀ v w, G v w → G' v w) : gives P G' r := by
  cases r with
  | ok n w' =>
    cases n <;> simp only [gives] at h <;> simp only [gives]
    case value u => exact hm _ _ h
    case skip => exact hm _ _ h
    case enter f args => exact h.mono fun e w'' ⟨v, he, hg⟩ => ⟨v, he, hm _ _ hg⟩
  | halt x w' => simp only [gives] at h
section
variable {P : Program} {l : List Oper} {n q : Nat} {a0 : Act} {w0 : World}
/-- Before the call: the invariant; behind it: what it left, and what has been read out of its answer. -/
def CkI (l : List Oper) (n q : Nat) (I : (Nat → Bool) → (Nat → Value) → World → Prop) (Post : Value → World → Prop) (fs : Nat → Value → Value) (L : Nat → Bool) (u : Nat → Value) (w : World) : Prop :=
  (ShutL l n L ∧ ∀ k, n ≤ k → L k = false) ∧ (L q = false → I L u w ∧ ∀ j, q < j → L j = false) ∧ (L q = true → Post (u q) w ∧ ∀ j, q < j → L j = true → u j = fs j (u q))
theorem shut_up {L : Nat → Bool} (h : ShutL l n L) {i : Nat} (hw : ∀ j, waits l.toArray i j = true → L j = true) : ShutL l n (fun j => if j = i then true else L j) := fun j k hj hk h1 => by
  by_cases c : k = i
  · simp [c]
  · simp only [if_neg c]
    by_cases c2 : j = i
    · subst c2; exact hw k hk
    · simp only [if_neg c2] at h1
      exact h j k hj hk h1
/-- THE LAW. -/
theorem wp_region_CK {id : Nat} {Q : Exit → Act → World → Prop} (n q : Nat) (I : (Nat → Bool) → (Nat → Value) → World → Prop) (Post : Value → World → Prop) (fs : Nat → Value → Value) (hm : P.follows .mixedOrders = true) (hn : n ≤ l.length) (hok : jOk l n [] = true)
    (hq : q < n) (hcov : ((List.range q).all fun j => coverX l.toArray q j) = true) (hcov2 : ((List.range n).all fun i => decide (i ≤ q) || coverX l.toArray i q) = true) (hb : ((List.range n).all fun i => (List.range l.length).all fun j => !(waits l.toArray i j) || decide (j < i)) = true)
    (hstart : I (fun _ => false) (fun _ => undef) w0.drew)
    (hstep : ∀ (i : Nat) (o : Oper), i < q → l[i]? = some o → CStep P l n a0 I i o)
    (hcall : ∀ (o : Oper), l[q]? = some o → o.guard = none ∧ ∀ (E : Operand → Value) (L : Nat → Bool) (u : Nat → Value) (w : World), (∀ t j, dstOnly (l.take n) t j = true → t < a0.tmps.size → E (.tmp t) = u j) → (∀ t, dstNone (l.take n) t = true → E (.tmp t) = a0.eval (.tmp t)) → (∀ v, E (.const v) = v) → (∀ f, E (.func f) = .func (.func f) #[] #[]) →
      (∀ j, j < q → L j = true) → I L u w → gives P Post ((execOp E o).run P w))
    (hrest : ∀ (i : Nat) (o : Oper), q < i → i < n → l[i]? = some o → o.guard = none ∧ ∀ (E : Operand → Value) (u : Nat → Value) (w : World), (∀ t j, dstOnly (l.take n) t j = true → t < a0.tmps.size → E (.tmp t) = u j) → (∀ t, dstNone (l.take n) t = true → E (.tmp t) = a0.eval (.tmp t)) →
      (∀ j, q < j → waits l.toArray i j = true → u j = fs j (u q)) → Post (u q) w → gives P (fun v w' => v = fs i (u q) ∧ w' = w) ((execOp E o).run P w))
    (htail : ∀ (u : Nat → Value) (w : World), (∀ j, q < j → j < n → u j = fs j (u q)) → Post (u q) w → wpList P l.toArray Q (l.drop n) (frm (l.take n) u 0 a0) w) :
    (Code.region id l.toArray true).wp P Q a0 w0 := by
  have hcov' : ∀ j, j < q → coverX l.toArray q j = true := fun j hj => List.all_eq_true.1 hcov j (List.mem_range.2 hj)
  have hcov2' : ∀ i, i < n → q < i → coverX l.toArray i q = true := fun i hi hqi => by
    have := List.all_eq_true.1 hcov2 i (List.mem_range.2 hi)
    rw [Bool.or_eq_true] at this
    rcases this with h | h
    · have := of_decide_eq_true h; omega
    · exact h
  refine wp_region_C n (CkI l n q I Post fs) hm hn hok ⟨⟨fun j k _ _ h => (by cases h), fun _ _ => rfl⟩, fun _ => ⟨hstart, fun _ _ => rfl⟩, fun h => (by cases h)⟩ ?_ ?_
  · intro i o hi ho
    have wlt : ∀ j, waits l.toArray i j = true → j < n := fun j hj => by
      by_cases c : j < l.length
      · have := List.all_eq_true.1 (List.all_eq_true.1 hb i (List.mem_range.2 hi)) j (List.mem_range.2 c)
        rw [hj] at this
        have := of_decide_eq_true (by simpa using this : decide (j < i) = true)
        omega
      · exfalso
        have hok' := jOk_spec hok
        have hil : l[i]? = some o := ho
        unfold waits at hj
        have hka : l.toArray[i]? = some o := by simpa using ho
        rw [hka] at hj
        obtain ⟨e, he, hb⟩ := Array.any_eq_true'.1 hj
        simp only [Bool.and_eq_true, beq_iff_eq] at hb
        have := hok'.back i o ho e he hb.1
        rw [hb.2] at this
        have hlt : i < l.length := (List.getElem?_eq_some_iff.1 ho).1
        omega
    rcases Nat.lt_trichotomy i q with hiq | rfl | hiq
    · have hs := hstep i o hiq ho
      intro L u w hl hw hI
      obtain ⟨⟨h1, h1n⟩, h2, h3⟩ := hI
      have hLq : L q = false := by
        cases e : L q with
        | false => rfl
        | true =>
          have := covX_listed h1 hq (fun k hk => h1 q k hq hk e) (hcov' i hiq)
          rw [this] at hl; cases hl
      obtain ⟨hIL, hno⟩ := h2 hLq
      have hs := hs L u w hl hw hIL
      have hqi : ¬ q = i := by omega
      have fin : ∀ v w', I (fun j => if j = i then true else L j) (fun j => if j = i then v else u j) w' → CkI l n q I Post fs (fun j => if j = i then true else L j) (fun j => if j = i then v else u j) w' := fun v w' hv =>
        ⟨⟨shut_up h1 (fun j hj => hw j (wlt j hj) hj), fun k hk => by simp only [if_neg (show ¬ k = i by omega)]; exact h1n k hk⟩, fun _ => ⟨hv, fun j hj => by simp only [if_neg (show ¬ j = i by omega)]; exact hno j hj⟩, fun h => by simp only [if_neg hqi, hLq] at h; cases h⟩
      split
      · rename_i hwd
        rw [if_pos hwd] at hs
        exact gives_mono hs fin
      · rename_i hwd
        rw [if_neg hwd] at hs
        exact fin _ _ hs
    · obtain ⟨hg, hc⟩ := hcall o ho
      refine cstep_evF hg ?_
      intro E L u w E1 E0 EC EF hl hw hI
      obtain ⟨⟨h1, h1n⟩, h2, h3⟩ := hI
      obtain ⟨hIL, hno⟩ := h2 hl
      have hall : ∀ j, j < i → L j = true := fun j hj => covX_listed h1 hi (fun k hk => hw k (wlt k hk) hk) (hcov' j hj)
      have hs := hc E L u w E1 E0 EC EF hall hIL
      have fin : ∀ v w', Post v w' → CkI l n i I Post fs (fun j => if j = i then true else L j) (fun j => if j = i then v else u j) w' := fun v w' hv =>
        ⟨⟨shut_up h1 (fun j hj => hw j (wlt j hj) hj), fun k hk => by simp only [if_neg (show ¬ k = i by omega)]; exact h1n k hk⟩, fun h => by simp at h, fun _ => ⟨by simpa using hv, fun j hj h => by simp only [if_neg (show ¬ j = i by omega)] at h; rw [hno j hj] at h; cases h⟩⟩
      exact gives_mono hs fin
    · obtain ⟨hg, hc⟩ := hrest i o hiq hi ho
      refine cstep_evF hg ?_
      intro E L u w E1 E0 EC EF hl hw hI
      obtain ⟨⟨h1, h1n⟩, h2, h3⟩ := hI
      have hLq : L q = true := covX_listed h1 hi (fun k hk => hw k (wlt k hk) hk) (hcov2' i hi hiq)
      obtain ⟨hP, hf⟩ := h3 hLq
      have hs := hc E u w E1 E0 (fun j hj hwj => hf j hj (hw j (wlt j hwj) hwj)) hP
      have hqi : ¬ q = i := by omega
      have fin : ∀ v w', v = fs i (u q) ∧ w' = w → CkI l n q I Post fs (fun j => if j = i then true else L j) (fun j => if j = i then v else u j) w' := fun v w' ⟨hv, hw'⟩ => by
        subst hw'
        refine ⟨⟨shut_up h1 (fun j hj => hw j (wlt j hj) hj), fun k hk => by simp only [if_neg (show ¬ k = i by omega)]; exact h1n k hk⟩, fun h => (by simp only [if_neg hqi, hLq] at h; cases h), fun _ => ⟨by simp only [if_neg hqi]; exact hP, fun j hj h => ?_⟩⟩
        simp only [if_neg hqi]
        by_cases c : j = i
        · subst c; simpa using hv
        · simp only [if_neg c] at h ⊢
          exact hf j hj h
      exact gives_mono hs fin
  · intro L u w hall hI
    obtain ⟨_, _, h3⟩ := hI
    obtain ⟨hP, hf⟩ := h3 (hall q hq)
    exact htail u w (fun j h1 h2 => hf j h1 (hall j h2)) hP
end
end Go.Proofs.Ytmjfogmpbidooaa
