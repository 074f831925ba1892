/- The walk of the statement on more begins. Conditions: that the slices read as functions and legs. -/
import Derived.Test.YtmjfogmpbidooaaSMGC
import Derived.Test.YtmjfogmpbidooaaSMGD
import Derived.Test.YtmjfogmpbidooaaSMGE
namespace Go.Proofs.Ytmjfogmpbidooaa
open Go.ChangeShapes Go.WideShapes Go.ChangeAt Go.RowKit
attribute [local irreducible] Go.Calls

/-- A row that is handed in. -/
abbrev RowV (a b p q : Int) (g : Option Addr) (m c : Nat) : Value := .agg #[.int .i64 a, .int .i64 b, .slice g m c, .int .u8 p, .int .u8 q]
/-- What stays in memory. -/
structure SmI (F G l : List Sg) (f1 f2 f3 : Option Addr) (n1 c1 n2 c2 n3 c3 : Nat) (a b p q : Int) (pR pW : Nat) (w W : World) : Prop where
  row : Blk W pR #[.int .i64 a, .int .i64 b, .slice f3 n3 c3, .int .u8 p, .int .u8 q] 40
  win : Blk W pW #[.int .i64 a, .int .i64 b] 24
  s1 : SliS W (.slice f1 n1 c1) F
  s2 : SliS W (.slice f2 n2 c2) G
  s3 : SliS W (.slice f3 n3 c3) l
  bel : Below w.heap.size w W
section
variable {F G l : List Sg} {f1 f2 f3 : Option Addr} {n1 c1 n2 c2 n3 c3 : Nat} {a b p q : Int}
theorem SmI.past {pR pW : Nat} {w W W' : World} (h : SmI F G l f1 f2 f3 n1 c1 n2 c2 n3 c3 a b p q pR pW w W) (hb : Below W.heap.size W W') : SmI F G l f1 f2 f3 n1 c1 n2 c2 n3 c3 a b p q pR pW w W' :=
  ⟨h.row.past hb, h.win.past hb, h.s1.past hb, h.s2.past hb, h.s3.past hb, bstep hb h.bel⟩
theorem sli_len {w : World} {a : Option Addr} {n c : Nat} {l : List Sg} (h : SliS w (.slice a n c) l) : n = l.length ∧ n ≤ c ∧ c ≤ 9223372036854775807 ∧ ArgS w a l := by
  obtain ⟨a', c', e, q1, q2, q3⟩ := h
  cases e
  exact ⟨rfl, q1, q2, q3⟩
theorem cmx_s {F G H : List Sg} {er : Int} {f1 f2 : Option Addr} {n1 n2 c1 c2 : Nat} {w : World} (h1 : SliS w (.slice f1 n1 c1) F) (h2 : SliS w (.slice f2 n2 c2) G) (hl : n1 + n2 ≤ 999999990) (he : doS 3 F G = (H, er)) : Calls Try.prog 11 #[.slice f1 n1 c1, .slice f2 n2 c2] w (OfIs w H er) := by
  obtain ⟨e1, q1, q2, q3⟩ := sli_len h1
  obtain ⟨e2, s1, s2, s3⟩ := sli_len h2
  subst e1; subst e2
  have := cmx_c F G f1 f2 c1 c2 w q1 q2 s1 s2 (by omega) q3 s3
  rw [he] at this
  exact this
theorem sliS_take {w : World} {a : Option Addr} {n c k : Nat} {l : List Sg} (h : SliS w (.slice a n c) l) (hk : k ≤ n) : SliS w (.slice a k c) (l.take k) := by
  obtain ⟨e, q1, q2, q3⟩ := sli_len h
  have hl : (l.take k).length = k := by rw [List.length_take]; omega
  refine ⟨a, c, by rw [hl], by omega, q2, fun h0 => ?_⟩
  obtain ⟨b, off, e2, hb, hc⟩ := q3 (by omega)
  refine ⟨b, off, e2, hb, fun i hi => ?_⟩
  have := hc i (by omega)
  rw [List.getD_eq_getElem?_getD, List.getElem?_take, if_pos (by omega), ← List.getD_eq_getElem?_getD]
  exact this
/-- A row of windows and an error, a row of windows. -/
def vsP (L : List Wn) (er : Int) : Value → World → Prop := fun v w => ∃ (a : Option Addr) (c : Nat), v = .tuple #[.slice a L.length c, .int .i64 er] ∧ SliVs w (.slice a L.length c) L
def slP (L : List Wn) : Value → World → Prop := fun v w => ∃ (a : Option Addr) (c : Nat), v = .slice a L.length c ∧ SliVs w (.slice a L.length c) L
theorem stab_vsP (L : List Wn) (er : Int) : Stab (vsP L er) := fun _ _ _ ⟨a, c, h1, h2⟩ hb => ⟨a, c, h1, h2.past hb⟩
theorem stab_slP (L : List Wn) : Stab (slP L) := fun _ _ _ ⟨a, c, h1, h2⟩ hb => ⟨a, c, h1, h2.past hb⟩
set_option maxRecDepth 100000 in
set_option maxHeartbeats 16000000 in
theorem smore_c (w : World) (S1 : SliS w (.slice f1 n1 c1) F) (S2 : SliS w (.slice f2 n2 c2) G) (S3 : SliS w (.slice f3 n3 c3) l) (ha : -9223372036854775808 ≤ a ∧ a ≤ 9223372036854775807) (hb : -9223372036854775808 ≤ b ∧ b ≤ 9223372036854775807) (hp : 0 ≤ p ∧ p ≤ 255) (hq : 0 ≤ q ∧ q ≤ 255) :
    Calls Try.prog 4 #[.slice f1 n1 c1, .slice f2 n2 c2, RowV a b p q f3 n3 c3] w fun e w' => e = .returned (.bool true) ∧ Below w.heap.size w w' := by
  have HH := hidE (fun w => shead_c w)
  obtain ⟨pR, hpR⟩ : ∃ z, z = w.heap.size := ⟨_, rfl⟩
  have HNL := hidE (show (n1 ≤ 9223372036854775807 ∧ n3 ≤ 9223372036854775807) ∧ n2 ≤ 9223372036854775807 by have q1 := sli_len S1; have q2 := sli_len S2; have q3 := sli_len S3; omega)
  have hg2 : n2 ≤ 9223372036854775807 := HNL.out.2
  have hg3 : n3 ≤ 9223372036854775807 := HNL.out.1.2
  go_enter Try.func4, Try.ntmps4
  go_upto_region 1 with fail
  obtain ⟨w0, hw⟩ : ∃ z, z = w.alloc (Obj.cells #[.int .i64 a, .int .i64 b, .slice f3 n3 c3, .int .u8 p, .int .u8 q] 40) := ⟨_, rfl⟩
  have BR : Blk w0 pR #[.int .i64 a, .int .i64 b, .slice f3 n3 c3, .int .u8 p, .int .u8 q] 40 := by rw [hw, hpR]; exact Blk.made _ _ _
  have hb0 : Below w.heap.size w w0 := by rw [hw]; exact (Below.refl _ _).alloc (Nat.le_refl _) _
  rw [← hw, ← hpR]
  have T1 := hidE (S1.past hb0); have T2 := hidE (S2.past hb0); have T3 := hidE (S3.past hb0); have HBR := hidE BR; have HB0 := hidE hb0
  have p0 := BR.cell 0; have p1 := BR.cell 1; have p2 := BR.cell 2; have pz := BR.lt
  simp at p0 p1 p2
  clear S1 S2 S3 hw BR hb0 hpR
  obtain ⟨fx, hfx⟩ : ∃ fx : Nat → Array Value, fx = fun pW => #[.slice f1 n1 c1, .slice f2 n2 c2, RowV a b p q f3 n3 c3, undef, undef, .pointer (some ⟨pR, 0, none⟩), .bool false, .pointer (some ⟨pW, 0, none⟩), .slice f3 n3 c3, undef, undef, undef, undef, undef, undef, undef, undef, undef, undef, undef, .pointer (some ⟨pR, 0, none⟩), V a b, .pointer (some ⟨pR, 2, none⟩), .slice f3 n3 c3, undef, undef, undef, undef, undef, undef, undef, undef, undef, undef, undef, undef, undef, undef, undef, undef, undef, undef, undef, undef, undef, undef, undef, undef, undef, undef, undef, undef, undef, undef, undef, undef, undef, undef, undef, undef, undef, undef, undef, undef, undef, undef, undef, undef, undef, undef, undef, undef, undef, undef, undef, undef, undef, undef, undef, undef, undef, undef, undef, undef, undef, undef, undef, undef, undef, undef, undef, undef, undef, undef, undef, undef, undef, undef, undef, undef, undef, undef, undef, undef, undef, undef, undef, undef, undef, undef, undef, undef, undef, undef, undef, undef, undef, undef, undef, undef, undef, undef, undef, undef] := ⟨_, rfl⟩
  refine wp_mono (Q := fun e a' w' => e = Exit.normal ∧ ∃ pW, Below w0.heap.size w0 w' ∧ Blk w' pW #[.int .i64 a, .int .i64 b] 24 ∧ a' = { tmps := fx pW, defers := [] }) ?_ ?_
  · go_region
    exact ⟨rfl, w0.heap.size, ((Below.refl _ _).alloc (Nat.le_refl _) _).drew, Blk.made _ _ _, by rw [hfx]⟩
  · rintro _ _ w1 ⟨rfl, pW, hb1, BW, rfl⟩
    subst hfx

    have HI := hidE (show SmI F G l f1 f2 f3 n1 c1 n2 c2 n3 c3 a b p q pR pW w w1 from ⟨HBR.out.past hb1, BW, T1.out.past hb1, T2.out.past hb1, T3.out.past hb1, bstep hb1 HB0.out⟩)
    clear BW hb1 T1 T2 T3 HBR HB0 p0 p1 p2 pz
    have HG := hidE (fun w => sgreat_c f1 f3 n1 n3 c1 c3 a b w ha hb HNL.out.1.1 HNL.out.1.2)

    have x0 := HI.out.win.cell 0; have x1 := HI.out.win.cell 1; have xz := HI.out.win.lt
    simp at x0 x1
    go_wp2_with fail
    ((with_reducible refine (HG.out _).mono ?_); rintro e w2 ⟨rfl, hb⟩)
    have HI := hidE (HI.out.past hb)
    clear hb x0 x1 xz
    cases hg : grB n1 n3 a b with
    | true =>
      go_wp2_with fail
      ((with_reducible refine (HH.out _).mono ?_); rintro e wza ⟨rfl, hbz⟩)
      go_wp2
      go_ret
      exact ⟨rfl, bstep hbz HI.out.bel⟩
    | false =>
      obtain ⟨k1, k3, k4⟩ := grB_no hg
      clear hg
      by_cases h2 : 60 < n2
      · have d2 : decide (60 < (n2 : Int)) = true := decide_eq_true (by omega)
        have d2' : decide (60 < n2) = true := decide_eq_true h2
        clear h2
        go_wp2_with fail
        ((with_reducible refine (HH.out _).mono ?_); rintro e wzb ⟨rfl, hbz⟩)
        go_wp2
        go_ret
        exact ⟨rfl, bstep hbz HI.out.bel⟩
      · have d2 : decide (60 < (n2 : Int)) = false := decide_eq_false (by omega)
        have d2' : decide (60 < n2) = false := decide_eq_false h2
        have hk2 : n2 ≤ 60 := by omega
        have HK := hidE (show n1 ≤ 60 ∧ n2 ≤ 60 ∧ n3 ≤ 30 from ⟨k1, hk2, k3⟩)
        have HL := hidE (show F.length ≤ 60 ∧ G.length ≤ 60 ∧ l.length ≤ 30 from by have q1 := (sli_len HI.out.s1).1; have q2 := (sli_len HI.out.s2).1; have q3 := (sli_len HI.out.s3).1; omega)
        clear h2 k1 k3 k4
        obtain ⟨A, hA⟩ : ∃ A, A = begS F a b l := ⟨_, rfl⟩
        obtain ⟨LA, ea⟩ := A
        have HA := hidE hA
        clear hA
        go_upto_region 4 with fail
        have x0 := HI.out.win.cell 0; have x1 := HI.out.win.cell 1; have xz := HI.out.win.lt
        simp at x0 x1
        go_wp2_with fail
        ((with_reducible refine (begins_eq HI.out.s1 HI.out.s3 (by have := HK.out; omega) (by have := HK.out; omega) (by omega) (by omega) HA.out.symm).mono ?_); rintro e w3 ⟨aA, cA, rfl, hsA, hb⟩)
        have HI := hidE (HI.out.past hb)
        have SA := hidE (show SliVs w3 (.slice aA LA.length cA) LA from hsA)
        clear hb hsA x0 x1 xz
        by_cases h0 : ea = 0
        · subst h0
          have hE0 : slotE F a b l = 0 := by rw [← begS_err, ← HA.out]
          have hA1 : (begS F a b l).1 = LA := by rw [← HA.out]
          have HE0 := hidE hE0; have HA1 := hidE hA1
          have e0 : ((0 : Int) != 0) = false := rfl
          clear hE0 hA1
          have hz := slotE_zero HE0.out
          have hp2 : 0 ≤ p % 40 ∧ p % 40 < 40 := by omega
          have hq2 : 0 ≤ q % 40 ∧ q % 40 < 40 := by omega
          have hab : (-1099511627776 ≤ a ∧ a ≤ 1099511627776) ∧ (-1099511627776 ≤ b ∧ b ≤ 1099511627776) := by have := hz.2.2.1; have := hz.2.2.2.1; omega
          obtain ⟨a2, ha2⟩ : ∃ a2, a2 = a - p % 40 := ⟨_, rfl⟩
          obtain ⟨b2, hb2⟩ : ∃ b2, b2 = b + q % 40 := ⟨_, rfl⟩
          have wa : wrap64 (a - p % 40) = a - p % 40 := IntWalk.wrap64_in _ (by omega)
          have wb : wrap64 (b + q % 40) = b + q % 40 := IntWalk.wrap64_in _ (by omega)
          have HAB := hidE (show (-1099511627816 ≤ a2 ∧ a2 ≤ a) ∧ (b ≤ b2 ∧ b2 ≤ 1099511627816) by omega)
          have HZ := hidE hz; have HA2 := hidE ha2; have HB2 := hidE hb2
          clear ha2 hb2 hz
          go_upto_region 7 with fail
          have x0 := HI.out.win.cell 0; have x1 := HI.out.win.cell 1; have xz := HI.out.win.lt
          simp at x0 x1
          have r3 := HI.out.row.cell 3; have r4 := HI.out.row.cell 4; have rz := HI.out.row.lt
          simp at r3 r4
          go_upto_region 8 with fail
          obtain ⟨w4, hw⟩ : ∃ z, z = w3.alloc (Obj.cells #[.int .i64 (a - p % 40), .int .i64 (b + q % 40)] 24) := ⟨_, rfl⟩
          have hb : Below w3.heap.size w3 w4 := by rw [hw]; exact (Below.refl _ _).alloc (Nat.le_refl _) _
          have BX : Blk w4 w3.heap.size #[.int .i64 a2, .int .i64 b2] 24 := by rw [hw, HA2.out, HB2.out]; exact Blk.made _ _ _
          have HI := hidE (HI.out.past hb); have SA := hidE (SA.out.past hb)
          rw [← hw]
          clear hw hb x0 x1 xz r3 r4 rz wa wb
          have y0 := BX.cell 0; have y1 := BX.cell 1; have yz := BX.lt
          simp at y0 y1
          clear BX
          obtain ⟨B, hB⟩ : ∃ B, B = begS F a2 b2 l := ⟨_, rfl⟩
          obtain ⟨LB, eb⟩ := B
          have HB := hidE hB
          clear hB
          go_wp2_with fail
          ((with_reducible refine (begins_eq HI.out.s1 HI.out.s3 (by have := HK.out; omega) (by have := HK.out; omega) (by have := HAB.out; omega) (by have := HAB.out; omega) HB.out.symm).mono ?_); rintro e w5 ⟨aB, cB, rfl, hsB, hb⟩)
          have SA := hidE (SA.out.past hb); have SB := hidE (show SliVs w5 (.slice aB LB.length cB) LB from hsB)
          have HI := hidE (HI.out.past hb)
          clear hb hsB y0 y1 yz
          by_cases hb0 : eb = 0
          · subst hb0
            have m3 : ∀ x ∈ LA, ∃ y ∈ LB, y.1 ≤ x.1 ∧ x.2 ≤ y.2 := by
              have e1 : (begS F a2 b2 l).1 = LB := by rw [← HB.out]
              have e2 : slotE F a2 b2 l = 0 := by rw [← begS_err, ← HB.out]
              have m2 := more_wide HE0.out e2 (by have := HAB.out; omega) (by have := HAB.out; omega)
              rw [HA1.out, e1] at m2; exact m2
            have M3 := hidE m3
            clear m3
            go_wp2_with fail
            ((with_reducible refine (swithin_t SA.out SB.out M3.out).mono ?_); rintro e w6 ⟨rfl, hb⟩)
            have HI := hidE (HI.out.past hb); have SA := hidE (SA.out.past hb)
            clear hb SB HB M3
            obtain ⟨M, hM⟩ : ∃ M, M = doS 3 F G := ⟨_, rfl⟩
            obtain ⟨H, eh⟩ := M
            have HM := hidE hM.symm
            have HHL := hidE (show H.length ≤ 120 from by
              have h1 : H = (doS 3 F G).1 := by rw [← hM]
              rw [h1]; have := HL.out; have := opL_len 3 F G; unfold doS; split
              · simp
              · split
                · exact (show (opL 3 F G).length ≤ 120 by omega)
                · simp)
            clear hM
            go_wp2_with fail
            ((with_reducible refine (cmx_s HI.out.s1 HI.out.s2 (by have := HK.out; omega) HM.out).mono ?_); rintro e w7 ⟨vH, rfl, hsH, hb⟩)
            have HI := hidE (HI.out.past hb); have SA := hidE (SA.out.past hb)
            obtain ⟨aH, cH, rfl, s1, s2, s3⟩ := hsH
            have SH := hidE (show SliS w7 (.slice aH H.length cH) H from ⟨aH, cH, rfl, s1, s2, s3⟩)
            clear hb s1 s2 s3
            obtain ⟨C, hC⟩ : ∃ C, C = begS H a b l := ⟨_, rfl⟩
            obtain ⟨LC, ec⟩ := C
            have HCC := hidE hC
            clear hC
            have x0 := HI.out.win.cell 0; have x1 := HI.out.win.cell 1; have xz := HI.out.win.lt
            simp at x0 x1
            go_wp2_with fail
            ((with_reducible refine (begins_eq SH.out HI.out.s3 (by have := HHL.out; omega) (by have := HK.out; omega) (by omega) (by omega) HCC.out.symm).mono ?_); rintro e w8 ⟨aC, cC, rfl, hsC, hb⟩)
            have HI := hidE (HI.out.past hb); have SA := hidE (SA.out.past hb); have SC := hidE (show SliVs w8 (.slice aC LC.length cC) LC from hsC)
            clear hb hsC x0 x1 xz SH
            by_cases hh : eh = 0
            · subst hh
              have hm := high_most HZ.out.1 HM.out
              obtain ⟨m1, m2⟩ := more_high (a := a) (b := b) (l := l) HE0.out hm.1 hm.2
              obtain rfl : ec = 0 := by have e1 : (begS H a b l).2 = slotE H a b l := begS_err; rw [← HCC.out, m1] at e1; exact e1
              have e1 : (begS H a b l).1 = LC := by rw [← HCC.out]
              rw [HA1.out, e1] at m2
              have m3 : ∀ x ∈ LA, ∃ y ∈ LC, y.1 ≤ x.1 ∧ x.2 ≤ y.2 := m2
              clear e1
              have M3 := hidE m3
              clear hm m1 m2 m3
              go_wp2_with fail
              ((with_reducible refine (swithin_t SA.out SC.out M3.out).mono ?_); rintro e w9 ⟨rfl, hb⟩)
              have HI := hidE (HI.out.past hb); have SA := hidE (SA.out.past hb)
              clear hb SC
              by_cases hl : 1 < n3
              · have dl : decide ((1 : Int) < (n3 : Int)) = true := decide_eq_true (by omega)
                have dl' : decide (1 < n3) = true := decide_eq_true hl
                obtain ⟨m, rfl⟩ : ∃ m, n3 = m + 1 := ⟨n3 - 1, by omega⟩
                have hm0 : 0 < m := by omega
                have hml : m ≤ l.length := by have := (sli_len HI.out.s3).1; omega
                obtain ⟨m1, m2⟩ := more_less HE0.out hm0 hml
                obtain ⟨D, hD⟩ : ∃ D, D = begS F a b (l.take m) := ⟨_, rfl⟩
                obtain ⟨LD, ed⟩ := D
                obtain rfl : ed = 0 := by have e1 : (begS F a b (l.take m)).2 = slotE F a b (l.take m) := begS_err; rw [← hD, m1] at e1; exact e1
                have e1 : (begS F a b (l.take m)).1 = LD := by rw [← hD]
                rw [HA1.out, e1] at m2
                have M5 := hidE m2; have HD := hidE hD; have HML := hidE hml
                clear m1 m2 e1 hD hml hl
                have dl2 : decide ((1 : Int) < (m : Int) + 1) = true := decide_eq_true (by omega)
                have dl3 : decide (0 < m) = true := decide_eq_true hm0
                have hmc : m + 1 ≤ c3 ∧ m ≤ 30 := by have := sli_len HI.out.s3; have := HK.out; omega
                have hmc1 : m ≤ c3 := by omega
                have hw0 : IntKind.i64.wrap (m : Int) = (m : Int) := IntWalk.i64_in _ (by omega)
                have x0 := HI.out.win.cell 0; have x1 := HI.out.win.cell 1; have xz := HI.out.win.lt
                simp at x0 x1
                have HB16 := hidE (fun (x : Past w9) => begins_eq (cL := c3) (HI.out.s1.past (Past.prop x)) (sliS_take (k := m) (HI.out.s3.past (Past.prop x)) (by omega)) (by have := HK.out; omega) (by omega) (by omega) (by omega) HD.out.symm)
                go_upto_region 16 with fail
                refine wp_region_J 11 [10] (nthR [detR (.slice f1 n1 c1), detR (V a b), detR (.slice f3 (m + 1) c3), detR (.slice f3 (m + 1) c3), detR (.int .i64 ((m : Int) + 1)), detR (.int .i64 (m : Int)), detR (.slice f3 m c3), vsP LD 0, vsP LD 0, slP LD, detR (.int .i64 0)]) (fun _ => false) (by kernel_rfl) (by decide) (by kernel_rfl) (stab_nth (by intro r hr; simp only [List.mem_cons, List.not_mem_nil, or_false] at hr; rcases hr with rfl | rfl | rfl | rfl | rfl | rfl | rfl | rfl | rfl | rfl | rfl <;> first | exact stab_det _ | exact stab_vsP _ _ | exact stab_slP _)) ?_ ?_ ?_
                · intro i o hi ho
                  match i, hi with
                  | 0, _ =>
                    obtain rfl := Option.some.inj ho
                    intro u x hd
                    have hc := Past.cell x
                    simp [go_sem, gives, frm, Act.put, nthR, detR, Region.wanted, Below.refl]
                  | 1, _ =>
                    obtain rfl := Option.some.inj ho
                    intro u x hd
                    have hc := Past.cell x
                    simp [go_sem, gives, frm, Act.put, nthR, detR, Region.wanted, Below.refl, hc, x0, x1, xz]
                  | 2, _ =>
                    obtain rfl := Option.some.inj ho
                    intro u x hd
                    have hc := Past.cell x
                    simp [go_sem, gives, frm, Act.put, nthR, detR, Region.wanted, Below.refl]
                  | 3, _ =>
                    obtain rfl := Option.some.inj ho
                    intro u x hd
                    have hc := Past.cell x
                    simp [go_sem, gives, frm, Act.put, nthR, detR, Region.wanted, Below.refl]
                  | 4, _ =>
                    obtain rfl := Option.some.inj ho
                    intro u x hd
                    have hc := Past.cell x
                    have d3 := hd 3 (by decide) (by kernel_rfl)
                    simp only [nthR, detR, List.getD_cons_zero, List.getD_cons_succ] at d3
                    simp [go_sem, gives, frm, Act.put, nthR, detR, Region.wanted, Below.refl, d3]
                  | 5, _ =>
                    obtain rfl := Option.some.inj ho
                    intro u x hd
                    have hc := Past.cell x
                    have d4 := hd 4 (by decide) (by kernel_rfl)
                    simp only [nthR, detR, List.getD_cons_zero, List.getD_cons_succ] at d4
                    simp [go_sem, gives, frm, Act.put, nthR, detR, Region.wanted, Below.refl, d4, hw0]
                  | 6, _ =>
                    obtain rfl := Option.some.inj ho
                    intro u x hd
                    have hc := Past.cell x
                    have d2 := hd 2 (by decide) (by kernel_rfl)
                    have d5 := hd 5 (by decide) (by kernel_rfl)
                    simp only [nthR, detR, List.getD_cons_zero, List.getD_cons_succ] at d2 d5
                    simp [go_sem, gives, frm, Act.put, nthR, detR, Region.wanted, Below.refl, d2, d5, hmc1]
                  | 7, _ =>
                    obtain rfl := Option.some.inj ho
                    intro u x hd
                    have hc := Past.cell x
                    have d0 := hd 0 (by decide) (by kernel_rfl)
                    have d1 := hd 1 (by decide) (by kernel_rfl)
                    have d6 := hd 6 (by decide) (by kernel_rfl)
                    simp only [nthR, detR, List.getD_cons_zero, List.getD_cons_succ] at d0 d1 d6
                    simp [go_sem, gives, frm, Act.put, nthR, Region.wanted, d0, d1, d6]
                    (with_reducible refine (HB16.out x).mono ?_); rintro e w3 ⟨a9, c9, rfl, hs9, hb9⟩; exact ⟨_, rfl, hb9, ⟨a9, c9, rfl, hs9⟩⟩
                  | 8, _ =>
                    obtain rfl := Option.some.inj ho
                    intro u x hd
                    have hc := Past.cell x
                    have h7 : ∃ (a : Option Addr) (c : Nat), u 7 = .tuple #[.slice a LD.length c, .int .i64 0] ∧ SliVs x.1 (.slice a LD.length c) LD := hd 7 (by decide) (by kernel_rfl)
                    have e7 := h7.choose_spec.choose_spec.1
                    have s7 := h7.choose_spec.choose_spec.2
                    generalize h7.choose_spec.choose = c7 at *
                    generalize h7.choose = a7 at *
                    simp [go_sem, gives, frm, Act.put, nthR, Region.wanted, Below.refl, e7]
                    exact ⟨a7, c7, rfl, s7⟩
                  | 9, _ =>
                    obtain rfl := Option.some.inj ho
                    intro u x hd
                    have hc := Past.cell x
                    have h8 : ∃ (a : Option Addr) (c : Nat), u 8 = .tuple #[.slice a LD.length c, .int .i64 0] ∧ SliVs x.1 (.slice a LD.length c) LD := hd 8 (by decide) (by kernel_rfl)
                    have e8 := h8.choose_spec.choose_spec.1
                    have s8 := h8.choose_spec.choose_spec.2
                    generalize h8.choose_spec.choose = c8 at *
                    generalize h8.choose = a8 at *
                    simp [go_sem, gives, frm, Act.put, nthR, Region.wanted, Below.refl, e8]
                    exact ⟨a8, c8, rfl, s8⟩
                  | 10, _ =>
                    obtain rfl := Option.some.inj ho
                    intro u x hd
                    have hc := Past.cell x
                    have h8 : ∃ (a : Option Addr) (c : Nat), u 8 = .tuple #[.slice a LD.length c, .int .i64 0] ∧ SliVs x.1 (.slice a LD.length c) LD := hd 8 (by decide) (by kernel_rfl)
                    have e8 := h8.choose_spec.choose_spec.1
                    have s8 := h8.choose_spec.choose_spec.2
                    generalize h8.choose_spec.choose = c8 at *
                    generalize h8.choose = a8 at *
                    simp [go_sem, gives, frm, Act.put, nthR, Region.wanted, Below.refl, e8, detR]
                  | i + 11, h => exact absurd h (by omega)
                · intro i o hx ho
                  simp only [List.mem_cons, List.not_mem_nil, or_false] at hx
                  rcases hx with rfl
                  · obtain rfl := Option.some.inj ho
                    refine ⟨rfl, fun _ _ _ _ h => h, fun u x hd => ?_⟩
                    have h8 : ∃ (a : Option Addr) (c : Nat), u 8 = .tuple #[.slice a LD.length c, .int .i64 0] ∧ SliVs x.1 (.slice a LD.length c) LD := hd 8 (by decide) (by kernel_rfl)
                    have e8 := h8.choose_spec.choose_spec.1
                    have s8 := h8.choose_spec.choose_spec.2
                    generalize h8.choose_spec.choose = c8 at *
                    generalize h8.choose = a8 at *
                    refine ⟨rfl, .int .i64 0, rfl, fun w' => ?_⟩
                    simp [go_sem, frm, Act.put, e8]
                · intro u x9 hu hne
                  have e0 : u 0 = .slice f1 n1 c1 := hu 0 (by decide)
                  have e1 : u 1 = V a b := hu 1 (by decide)
                  have e2 : u 2 = .slice f3 (m + 1) c3 := hu 2 (by decide)
                  have e3 : u 3 = .slice f3 (m + 1) c3 := hu 3 (by decide)
                  have e4 : u 4 = .int .i64 ((m : Int) + 1) := hu 4 (by decide)
                  have e5 : u 5 = .int .i64 (m : Int) := hu 5 (by decide)
                  have e6 : u 6 = .slice f3 m c3 := hu 6 (by decide)
                  have h7 : vsP LD 0 (u 7) x9.1 := hu 7 (by decide)
                  have h8 : vsP LD 0 (u 8) x9.1 := hu 8 (by decide)
                  have h9 : slP LD (u 9) x9.1 := hu 9 (by decide)
                  have e10 : u 10 = .int .i64 0 := hu 10 (by decide)
                  obtain ⟨a7, c7, e7, _⟩ := h7
                  obtain ⟨a8, c8, e8, _⟩ := h8
                  obtain ⟨a9, c9, e9, s9⟩ := h9
                  simp only [frm, List.take, Act.put, e0, e1, e2, e3, e4, e5, e6, e7, e8, e9, e10]
                  obtain ⟨wA, hw⟩ : ∃ z, z = x9.1 := ⟨_, rfl⟩
                  have hx9 := Past.prop x9
                  rw [← hw] at hx9 s9
                  rw [← hw]
                  have HI := hidE (HI.out.past hx9); have SA := hidE (SA.out.past hx9); have SD := hidE s9
                  clear hw hx9 s9 hu e0 e1 e2 e3 e4 e5 e6 e7 e8 e9 e10 HB16 x0 x1 xz
                  go_wp2_with fail
                  ((with_reducible refine (swithin_t SA.out SD.out M5.out).mono ?_); rintro e wB ⟨rfl, hb⟩)
                  have HI := hidE (HI.out.past hb)
                  clear hb SD
                  go_wp2_with fail
                  ((with_reducible refine (HH.out _).mono ?_); rintro e wzpad ⟨rfl, hbz⟩)
                  go_wp2
                  go_ret
                  exact ⟨rfl, bstep hbz HI.out.bel⟩

              · have dl : decide ((1 : Int) < (n3 : Int)) = false := decide_eq_false (by omega)
                have dl' : decide (1 < n3) = false := decide_eq_false hl
                clear hl
                go_wp2_with fail
                ((with_reducible refine (HH.out _).mono ?_); rintro e wzpa ⟨rfl, hbz⟩)
                go_wp2
                go_ret
                exact ⟨rfl, bstep hbz HI.out.bel⟩
            · have eh0 : (eh == 0) = false := beq_eq_false_iff_ne.2 hh
              clear hh SC HM
              by_cases hl : 1 < n3
              · have dl : decide ((1 : Int) < (n3 : Int)) = true := decide_eq_true (by omega)
                have dl' : decide (1 < n3) = true := decide_eq_true hl
                obtain ⟨m, rfl⟩ : ∃ m, n3 = m + 1 := ⟨n3 - 1, by omega⟩
                have hm0 : 0 < m := by omega
                have hml : m ≤ l.length := by have := (sli_len HI.out.s3).1; omega
                obtain ⟨m1, m2⟩ := more_less HE0.out hm0 hml
                obtain ⟨D, hD⟩ : ∃ D, D = begS F a b (l.take m) := ⟨_, rfl⟩
                obtain ⟨LD, ed⟩ := D
                obtain rfl : ed = 0 := by have e1 : (begS F a b (l.take m)).2 = slotE F a b (l.take m) := begS_err; rw [← hD, m1] at e1; exact e1
                have e1 : (begS F a b (l.take m)).1 = LD := by rw [← hD]
                rw [HA1.out, e1] at m2
                have M5 := hidE m2; have HD := hidE hD; have HML := hidE hml
                clear m1 m2 e1 hD hml hl
                have dl2 : decide ((1 : Int) < (m : Int) + 1) = true := decide_eq_true (by omega)
                have dl3 : decide (0 < m) = true := decide_eq_true hm0
                have hmc : m + 1 ≤ c3 ∧ m ≤ 30 := by have := sli_len HI.out.s3; have := HK.out; omega
                have hmc1 : m ≤ c3 := by omega
                have hw0 : IntKind.i64.wrap (m : Int) = (m : Int) := IntWalk.i64_in _ (by omega)
                have x0 := HI.out.win.cell 0; have x1 := HI.out.win.cell 1; have xz := HI.out.win.lt
                simp at x0 x1
                have HB16 := hidE (fun (x : Past w8) => begins_eq (cL := c3) (HI.out.s1.past (Past.prop x)) (sliS_take (k := m) (HI.out.s3.past (Past.prop x)) (by omega)) (by have := HK.out; omega) (by omega) (by omega) (by omega) HD.out.symm)
                go_upto_region 16 with fail
                refine wp_region_J 11 [10] (nthR [detR (.slice f1 n1 c1), detR (V a b), detR (.slice f3 (m + 1) c3), detR (.slice f3 (m + 1) c3), detR (.int .i64 ((m : Int) + 1)), detR (.int .i64 (m : Int)), detR (.slice f3 m c3), vsP LD 0, vsP LD 0, slP LD, detR (.int .i64 0)]) (fun _ => false) (by kernel_rfl) (by decide) (by kernel_rfl) (stab_nth (by intro r hr; simp only [List.mem_cons, List.not_mem_nil, or_false] at hr; rcases hr with rfl | rfl | rfl | rfl | rfl | rfl | rfl | rfl | rfl | rfl | rfl <;> first | exact stab_det _ | exact stab_vsP _ _ | exact stab_slP _)) ?_ ?_ ?_
                · intro i o hi ho
                  match i, hi with
                  | 0, _ =>
                    obtain rfl := Option.some.inj ho
                    intro u x hd
                    have hc := Past.cell x
                    simp [go_sem, gives, frm, Act.put, nthR, detR, Region.wanted, Below.refl]
                  | 1, _ =>
                    obtain rfl := Option.some.inj ho
                    intro u x hd
                    have hc := Past.cell x
                    simp [go_sem, gives, frm, Act.put, nthR, detR, Region.wanted, Below.refl, hc, x0, x1, xz]
                  | 2, _ =>
                    obtain rfl := Option.some.inj ho
                    intro u x hd
                    have hc := Past.cell x
                    simp [go_sem, gives, frm, Act.put, nthR, detR, Region.wanted, Below.refl]
                  | 3, _ =>
                    obtain rfl := Option.some.inj ho
                    intro u x hd
                    have hc := Past.cell x
                    simp [go_sem, gives, frm, Act.put, nthR, detR, Region.wanted, Below.refl]
                  | 4, _ =>
                    obtain rfl := Option.some.inj ho
                    intro u x hd
                    have hc := Past.cell x
                    have d3 := hd 3 (by decide) (by kernel_rfl)
                    simp only [nthR, detR, List.getD_cons_zero, List.getD_cons_succ] at d3
                    simp [go_sem, gives, frm, Act.put, nthR, detR, Region.wanted, Below.refl, d3]
                  | 5, _ =>
                    obtain rfl := Option.some.inj ho
                    intro u x hd
                    have hc := Past.cell x
                    have d4 := hd 4 (by decide) (by kernel_rfl)
                    simp only [nthR, detR, List.getD_cons_zero, List.getD_cons_succ] at d4
                    simp [go_sem, gives, frm, Act.put, nthR, detR, Region.wanted, Below.refl, d4, hw0]
                  | 6, _ =>
                    obtain rfl := Option.some.inj ho
                    intro u x hd
                    have hc := Past.cell x
                    have d2 := hd 2 (by decide) (by kernel_rfl)
                    have d5 := hd 5 (by decide) (by kernel_rfl)
                    simp only [nthR, detR, List.getD_cons_zero, List.getD_cons_succ] at d2 d5
                    simp [go_sem, gives, frm, Act.put, nthR, detR, Region.wanted, Below.refl, d2, d5, hmc1]
                  | 7, _ =>
                    obtain rfl := Option.some.inj ho
                    intro u x hd
                    have hc := Past.cell x
                    have d0 := hd 0 (by decide) (by kernel_rfl)
                    have d1 := hd 1 (by decide) (by kernel_rfl)
                    have d6 := hd 6 (by decide) (by kernel_rfl)
                    simp only [nthR, detR, List.getD_cons_zero, List.getD_cons_succ] at d0 d1 d6
                    simp [go_sem, gives, frm, Act.put, nthR, Region.wanted, d0, d1, d6]
                    (with_reducible refine (HB16.out x).mono ?_); rintro e w3 ⟨a9, c9, rfl, hs9, hb9⟩; exact ⟨_, rfl, hb9, ⟨a9, c9, rfl, hs9⟩⟩
                  | 8, _ =>
                    obtain rfl := Option.some.inj ho
                    intro u x hd
                    have hc := Past.cell x
                    have h7 : ∃ (a : Option Addr) (c : Nat), u 7 = .tuple #[.slice a LD.length c, .int .i64 0] ∧ SliVs x.1 (.slice a LD.length c) LD := hd 7 (by decide) (by kernel_rfl)
                    have e7 := h7.choose_spec.choose_spec.1
                    have s7 := h7.choose_spec.choose_spec.2
                    generalize h7.choose_spec.choose = c7 at *
                    generalize h7.choose = a7 at *
                    simp [go_sem, gives, frm, Act.put, nthR, Region.wanted, Below.refl, e7]
                    exact ⟨a7, c7, rfl, s7⟩
                  | 9, _ =>
                    obtain rfl := Option.some.inj ho
                    intro u x hd
                    have hc := Past.cell x
                    have h8 : ∃ (a : Option Addr) (c : Nat), u 8 = .tuple #[.slice a LD.length c, .int .i64 0] ∧ SliVs x.1 (.slice a LD.length c) LD := hd 8 (by decide) (by kernel_rfl)
                    have e8 := h8.choose_spec.choose_spec.1
                    have s8 := h8.choose_spec.choose_spec.2
                    generalize h8.choose_spec.choose = c8 at *
                    generalize h8.choose = a8 at *
                    simp [go_sem, gives, frm, Act.put, nthR, Region.wanted, Below.refl, e8]
                    exact ⟨a8, c8, rfl, s8⟩
                  | 10, _ =>
                    obtain rfl := Option.some.inj ho
                    intro u x hd
                    have hc := Past.cell x
                    have h8 : ∃ (a : Option Addr) (c : Nat), u 8 = .tuple #[.slice a LD.length c, .int .i64 0] ∧ SliVs x.1 (.slice a LD.length c) LD := hd 8 (by decide) (by kernel_rfl)
                    have e8 := h8.choose_spec.choose_spec.1
                    have s8 := h8.choose_spec.choose_spec.2
                    generalize h8.choose_spec.choose = c8 at *
                    generalize h8.choose = a8 at *
                    simp [go_sem, gives, frm, Act.put, nthR, Region.wanted, Below.refl, e8, detR]
                  | i + 11, h => exact absurd h (by omega)
                · intro i o hx ho
                  simp only [List.mem_cons, List.not_mem_nil, or_false] at hx
                  rcases hx with rfl
                  · obtain rfl := Option.some.inj ho
                    refine ⟨rfl, fun _ _ _ _ h => h, fun u x hd => ?_⟩
                    have h8 : ∃ (a : Option Addr) (c : Nat), u 8 = .tuple #[.slice a LD.length c, .int .i64 0] ∧ SliVs x.1 (.slice a LD.length c) LD := hd 8 (by decide) (by kernel_rfl)
                    have e8 := h8.choose_spec.choose_spec.1
                    have s8 := h8.choose_spec.choose_spec.2
                    generalize h8.choose_spec.choose = c8 at *
                    generalize h8.choose = a8 at *
                    refine ⟨rfl, .int .i64 0, rfl, fun w' => ?_⟩
                    simp [go_sem, frm, Act.put, e8]
                · intro u x9 hu hne
                  have e0 : u 0 = .slice f1 n1 c1 := hu 0 (by decide)
                  have e1 : u 1 = V a b := hu 1 (by decide)
                  have e2 : u 2 = .slice f3 (m + 1) c3 := hu 2 (by decide)
                  have e3 : u 3 = .slice f3 (m + 1) c3 := hu 3 (by decide)
                  have e4 : u 4 = .int .i64 ((m : Int) + 1) := hu 4 (by decide)
                  have e5 : u 5 = .int .i64 (m : Int) := hu 5 (by decide)
                  have e6 : u 6 = .slice f3 m c3 := hu 6 (by decide)
                  have h7 : vsP LD 0 (u 7) x9.1 := hu 7 (by decide)
                  have h8 : vsP LD 0 (u 8) x9.1 := hu 8 (by decide)
                  have h9 : slP LD (u 9) x9.1 := hu 9 (by decide)
                  have e10 : u 10 = .int .i64 0 := hu 10 (by decide)
                  obtain ⟨a7, c7, e7, _⟩ := h7
                  obtain ⟨a8, c8, e8, _⟩ := h8
                  obtain ⟨a9, c9, e9, s9⟩ := h9
                  simp only [frm, List.take, Act.put, e0, e1, e2, e3, e4, e5, e6, e7, e8, e9, e10]
                  obtain ⟨wA, hw⟩ : ∃ z, z = x9.1 := ⟨_, rfl⟩
                  have hx9 := Past.prop x9
                  rw [← hw] at hx9 s9
                  rw [← hw]
                  have HI := hidE (HI.out.past hx9); have SA := hidE (SA.out.past hx9); have SD := hidE s9
                  clear hw hx9 s9 hu e0 e1 e2 e3 e4 e5 e6 e7 e8 e9 e10 HB16 x0 x1 xz
                  go_wp2_with fail
                  ((with_reducible refine (swithin_t SA.out SD.out M5.out).mono ?_); rintro e wB ⟨rfl, hb⟩)
                  have HI := hidE (HI.out.past hb)
                  clear hb SD
                  go_wp2_with fail
                  ((with_reducible refine (HH.out _).mono ?_); rintro e wzpbd ⟨rfl, hbz⟩)
                  go_wp2
                  go_ret
                  exact ⟨rfl, bstep hbz HI.out.bel⟩

              · have dl : decide ((1 : Int) < (n3 : Int)) = false := decide_eq_false (by omega)
                have dl' : decide (1 < n3) = false := decide_eq_false hl
                clear hl
                go_wp2_with fail
                ((with_reducible refine (HH.out _).mono ?_); rintro e wzpb ⟨rfl, hbz⟩)
                go_wp2
                go_ret
                exact ⟨rfl, bstep hbz HI.out.bel⟩
          · have eb0 : (eb == 0) = false := beq_eq_false_iff_ne.2 hb0
            clear hb0 SB HB
            obtain ⟨M, hM⟩ : ∃ M, M = doS 3 F G := ⟨_, rfl⟩
            obtain ⟨H, eh⟩ := M
            have HM := hidE hM.symm
            have HHL := hidE (show H.length ≤ 120 from by
              have h1 : H = (doS 3 F G).1 := by rw [← hM]
              rw [h1]; have := HL.out; have := opL_len 3 F G; unfold doS; split
              · simp
              · split
                · exact (show (opL 3 F G).length ≤ 120 by omega)
                · simp)
            clear hM
            go_wp2_with fail
            ((with_reducible refine (cmx_s HI.out.s1 HI.out.s2 (by have := HK.out; omega) HM.out).mono ?_); rintro e w7 ⟨vH, rfl, hsH, hb⟩)
            have HI := hidE (HI.out.past hb); have SA := hidE (SA.out.past hb)
            obtain ⟨aH, cH, rfl, s1, s2, s3⟩ := hsH
            have SH := hidE (show SliS w7 (.slice aH H.length cH) H from ⟨aH, cH, rfl, s1, s2, s3⟩)
            clear hb s1 s2 s3
            obtain ⟨C, hC⟩ : ∃ C, C = begS H a b l := ⟨_, rfl⟩
            obtain ⟨LC, ec⟩ := C
            have HCC := hidE hC
            clear hC
            have x0 := HI.out.win.cell 0; have x1 := HI.out.win.cell 1; have xz := HI.out.win.lt
            simp at x0 x1
            go_wp2_with fail
            ((with_reducible refine (begins_eq SH.out HI.out.s3 (by have := HHL.out; omega) (by have := HK.out; omega) (by omega) (by omega) HCC.out.symm).mono ?_); rintro e w8 ⟨aC, cC, rfl, hsC, hb⟩)
            have HI := hidE (HI.out.past hb); have SA := hidE (SA.out.past hb); have SC := hidE (show SliVs w8 (.slice aC LC.length cC) LC from hsC)
            clear hb hsC x0 x1 xz SH
            by_cases hh : eh = 0
            · subst hh
              have hm := high_most HZ.out.1 HM.out
              obtain ⟨m1, m2⟩ := more_high (a := a) (b := b) (l := l) HE0.out hm.1 hm.2
              obtain rfl : ec = 0 := by have e1 : (begS H a b l).2 = slotE H a b l := begS_err; rw [← HCC.out, m1] at e1; exact e1
              have e1 : (begS H a b l).1 = LC := by rw [← HCC.out]
              rw [HA1.out, e1] at m2
              have m3 : ∀ x ∈ LA, ∃ y ∈ LC, y.1 ≤ x.1 ∧ x.2 ≤ y.2 := m2
              clear e1
              have M3 := hidE m3
              clear hm m1 m2 m3
              go_wp2_with fail
              ((with_reducible refine (swithin_t SA.out SC.out M3.out).mono ?_); rintro e w9 ⟨rfl, hb⟩)
              have HI := hidE (HI.out.past hb); have SA := hidE (SA.out.past hb)
              clear hb SC
              by_cases hl : 1 < n3
              · have dl : decide ((1 : Int) < (n3 : Int)) = true := decide_eq_true (by omega)
                have dl' : decide (1 < n3) = true := decide_eq_true hl
                obtain ⟨m, rfl⟩ : ∃ m, n3 = m + 1 := ⟨n3 - 1, by omega⟩
                have hm0 : 0 < m := by omega
                have hml : m ≤ l.length := by have := (sli_len HI.out.s3).1; omega
                obtain ⟨m1, m2⟩ := more_less HE0.out hm0 hml
                obtain ⟨D, hD⟩ : ∃ D, D = begS F a b (l.take m) := ⟨_, rfl⟩
                obtain ⟨LD, ed⟩ := D
                obtain rfl : ed = 0 := by have e1 : (begS F a b (l.take m)).2 = slotE F a b (l.take m) := begS_err; rw [← hD, m1] at e1; exact e1
                have e1 : (begS F a b (l.take m)).1 = LD := by rw [← hD]
                rw [HA1.out, e1] at m2
                have M5 := hidE m2; have HD := hidE hD; have HML := hidE hml
                clear m1 m2 e1 hD hml hl
                have dl2 : decide ((1 : Int) < (m : Int) + 1) = true := decide_eq_true (by omega)
                have dl3 : decide (0 < m) = true := decide_eq_true hm0
                have hmc : m + 1 ≤ c3 ∧ m ≤ 30 := by have := sli_len HI.out.s3; have := HK.out; omega
                have hmc1 : m ≤ c3 := by omega
                have hw0 : IntKind.i64.wrap (m : Int) = (m : Int) := IntWalk.i64_in _ (by omega)
                have x0 := HI.out.win.cell 0; have x1 := HI.out.win.cell 1; have xz := HI.out.win.lt
                simp at x0 x1
                have HB16 := hidE (fun (x : Past w9) => begins_eq (cL := c3) (HI.out.s1.past (Past.prop x)) (sliS_take (k := m) (HI.out.s3.past (Past.prop x)) (by omega)) (by have := HK.out; omega) (by omega) (by omega) (by omega) HD.out.symm)
                go_upto_region 16 with fail
                refine wp_region_J 11 [10] (nthR [detR (.slice f1 n1 c1), detR (V a b), detR (.slice f3 (m + 1) c3), detR (.slice f3 (m + 1) c3), detR (.int .i64 ((m : Int) + 1)), detR (.int .i64 (m : Int)), detR (.slice f3 m c3), vsP LD 0, vsP LD 0, slP LD, detR (.int .i64 0)]) (fun _ => false) (by kernel_rfl) (by decide) (by kernel_rfl) (stab_nth (by intro r hr; simp only [List.mem_cons, List.not_mem_nil, or_false] at hr; rcases hr with rfl | rfl | rfl | rfl | rfl | rfl | rfl | rfl | rfl | rfl | rfl <;> first | exact stab_det _ | exact stab_vsP _ _ | exact stab_slP _)) ?_ ?_ ?_
                · intro i o hi ho
                  match i, hi with
                  | 0, _ =>
                    obtain rfl := Option.some.inj ho
                    intro u x hd
                    have hc := Past.cell x
                    simp [go_sem, gives, frm, Act.put, nthR, detR, Region.wanted, Below.refl]
                  | 1, _ =>
                    obtain rfl := Option.some.inj ho
                    intro u x hd
                    have hc := Past.cell x
                    simp [go_sem, gives, frm, Act.put, nthR, detR, Region.wanted, Below.refl, hc, x0, x1, xz]
                  | 2, _ =>
                    obtain rfl := Option.some.inj ho
                    intro u x hd
                    have hc := Past.cell x
                    simp [go_sem, gives, frm, Act.put, nthR, detR, Region.wanted, Below.refl]
                  | 3, _ =>
                    obtain rfl := Option.some.inj ho
                    intro u x hd
                    have hc := Past.cell x
                    simp [go_sem, gives, frm, Act.put, nthR, detR, Region.wanted, Below.refl]
                  | 4, _ =>
                    obtain rfl := Option.some.inj ho
                    intro u x hd
                    have hc := Past.cell x
                    have d3 := hd 3 (by decide) (by kernel_rfl)
                    simp only [nthR, detR, List.getD_cons_zero, List.getD_cons_succ] at d3
                    simp [go_sem, gives, frm, Act.put, nthR, detR, Region.wanted, Below.refl, d3]
                  | 5, _ =>
                    obtain rfl := Option.some.inj ho
                    intro u x hd
                    have hc := Past.cell x
                    have d4 := hd 4 (by decide) (by kernel_rfl)
                    simp only [nthR, detR, List.getD_cons_zero, List.getD_cons_succ] at d4
                    simp [go_sem, gives, frm, Act.put, nthR, detR, Region.wanted, Below.refl, d4, hw0]
                  | 6, _ =>
                    obtain rfl := Option.some.inj ho
                    intro u x hd
                    have hc := Past.cell x
                    have d2 := hd 2 (by decide) (by kernel_rfl)
                    have d5 := hd 5 (by decide) (by kernel_rfl)
                    simp only [nthR, detR, List.getD_cons_zero, List.getD_cons_succ] at d2 d5
                    simp [go_sem, gives, frm, Act.put, nthR, detR, Region.wanted, Below.refl, d2, d5, hmc1]
                  | 7, _ =>
                    obtain rfl := Option.some.inj ho
                    intro u x hd
                    have hc := Past.cell x
                    have d0 := hd 0 (by decide) (by kernel_rfl)
                    have d1 := hd 1 (by decide) (by kernel_rfl)
                    have d6 := hd 6 (by decide) (by kernel_rfl)
                    simp only [nthR, detR, List.getD_cons_zero, List.getD_cons_succ] at d0 d1 d6
                    simp [go_sem, gives, frm, Act.put, nthR, Region.wanted, d0, d1, d6]
                    (with_reducible refine (HB16.out x).mono ?_); rintro e w3 ⟨a9, c9, rfl, hs9, hb9⟩; exact ⟨_, rfl, hb9, ⟨a9, c9, rfl, hs9⟩⟩
                  | 8, _ =>
                    obtain rfl := Option.some.inj ho
                    intro u x hd
                    have hc := Past.cell x
                    have h7 : ∃ (a : Option Addr) (c : Nat), u 7 = .tuple #[.slice a LD.length c, .int .i64 0] ∧ SliVs x.1 (.slice a LD.length c) LD := hd 7 (by decide) (by kernel_rfl)
                    have e7 := h7.choose_spec.choose_spec.1
                    have s7 := h7.choose_spec.choose_spec.2
                    generalize h7.choose_spec.choose = c7 at *
                    generalize h7.choose = a7 at *
                    simp [go_sem, gives, frm, Act.put, nthR, Region.wanted, Below.refl, e7]
                    exact ⟨a7, c7, rfl, s7⟩
                  | 9, _ =>
                    obtain rfl := Option.some.inj ho
                    intro u x hd
                    have hc := Past.cell x
                    have h8 : ∃ (a : Option Addr) (c : Nat), u 8 = .tuple #[.slice a LD.length c, .int .i64 0] ∧ SliVs x.1 (.slice a LD.length c) LD := hd 8 (by decide) (by kernel_rfl)
                    have e8 := h8.choose_spec.choose_spec.1
                    have s8 := h8.choose_spec.choose_spec.2
                    generalize h8.choose_spec.choose = c8 at *
                    generalize h8.choose = a8 at *
                    simp [go_sem, gives, frm, Act.put, nthR, Region.wanted, Below.refl, e8]
                    exact ⟨a8, c8, rfl, s8⟩
                  | 10, _ =>
                    obtain rfl := Option.some.inj ho
                    intro u x hd
                    have hc := Past.cell x
                    have h8 : ∃ (a : Option Addr) (c : Nat), u 8 = .tuple #[.slice a LD.length c, .int .i64 0] ∧ SliVs x.1 (.slice a LD.length c) LD := hd 8 (by decide) (by kernel_rfl)
                    have e8 := h8.choose_spec.choose_spec.1
                    have s8 := h8.choose_spec.choose_spec.2
                    generalize h8.choose_spec.choose = c8 at *
                    generalize h8.choose = a8 at *
                    simp [go_sem, gives, frm, Act.put, nthR, Region.wanted, Below.refl, e8, detR]
                  | i + 11, h => exact absurd h (by omega)
                · intro i o hx ho
                  simp only [List.mem_cons, List.not_mem_nil, or_false] at hx
                  rcases hx with rfl
                  · obtain rfl := Option.some.inj ho
                    refine ⟨rfl, fun _ _ _ _ h => h, fun u x hd => ?_⟩
                    have h8 : ∃ (a : Option Addr) (c : Nat), u 8 = .tuple #[.slice a LD.length c, .int .i64 0] ∧ SliVs x.1 (.slice a LD.length c) LD := hd 8 (by decide) (by kernel_rfl)
                    have e8 := h8.choose_spec.choose_spec.1
                    have s8 := h8.choose_spec.choose_spec.2
                    generalize h8.choose_spec.choose = c8 at *
                    generalize h8.choose = a8 at *
                    refine ⟨rfl, .int .i64 0, rfl, fun w' => ?_⟩
                    simp [go_sem, frm, Act.put, e8]
                · intro u x9 hu hne
                  have e0 : u 0 = .slice f1 n1 c1 := hu 0 (by decide)
                  have e1 : u 1 = V a b := hu 1 (by decide)
                  have e2 : u 2 = .slice f3 (m + 1) c3 := hu 2 (by decide)
                  have e3 : u 3 = .slice f3 (m + 1) c3 := hu 3 (by decide)
                  have e4 : u 4 = .int .i64 ((m : Int) + 1) := hu 4 (by decide)
                  have e5 : u 5 = .int .i64 (m : Int) := hu 5 (by decide)
                  have e6 : u 6 = .slice f3 m c3 := hu 6 (by decide)
                  have h7 : vsP LD 0 (u 7) x9.1 := hu 7 (by decide)
                  have h8 : vsP LD 0 (u 8) x9.1 := hu 8 (by decide)
                  have h9 : slP LD (u 9) x9.1 := hu 9 (by decide)
                  have e10 : u 10 = .int .i64 0 := hu 10 (by decide)
                  obtain ⟨a7, c7, e7, _⟩ := h7
                  obtain ⟨a8, c8, e8, _⟩ := h8
                  obtain ⟨a9, c9, e9, s9⟩ := h9
                  simp only [frm, List.take, Act.put, e0, e1, e2, e3, e4, e5, e6, e7, e8, e9, e10]
                  obtain ⟨wA, hw⟩ : ∃ z, z = x9.1 := ⟨_, rfl⟩
                  have hx9 := Past.prop x9
                  rw [← hw] at hx9 s9
                  rw [← hw]
                  have HI := hidE (HI.out.past hx9); have SA := hidE (SA.out.past hx9); have SD := hidE s9
                  clear hw hx9 s9 hu e0 e1 e2 e3 e4 e5 e6 e7 e8 e9 e10 HB16 x0 x1 xz
                  go_wp2_with fail
                  ((with_reducible refine (swithin_t SA.out SD.out M5.out).mono ?_); rintro e wB ⟨rfl, hb⟩)
                  have HI := hidE (HI.out.past hb)
                  clear hb SD
                  go_wp2_with fail
                  ((with_reducible refine (HH.out _).mono ?_); rintro e wzqad ⟨rfl, hbz⟩)
                  go_wp2
                  go_ret
                  exact ⟨rfl, bstep hbz HI.out.bel⟩

              · have dl : decide ((1 : Int) < (n3 : Int)) = false := decide_eq_false (by omega)
                have dl' : decide (1 < n3) = false := decide_eq_false hl
                clear hl
                go_wp2_with fail
                ((with_reducible refine (HH.out _).mono ?_); rintro e wzqa ⟨rfl, hbz⟩)
                go_wp2
                go_ret
                exact ⟨rfl, bstep hbz HI.out.bel⟩
            · have eh0 : (eh == 0) = false := beq_eq_false_iff_ne.2 hh
              clear hh SC HM
              by_cases hl : 1 < n3
              · have dl : decide ((1 : Int) < (n3 : Int)) = true := decide_eq_true (by omega)
                have dl' : decide (1 < n3) = true := decide_eq_true hl
                obtain ⟨m, rfl⟩ : ∃ m, n3 = m + 1 := ⟨n3 - 1, by omega⟩
                have hm0 : 0 < m := by omega
                have hml : m ≤ l.length := by have := (sli_len HI.out.s3).1; omega
                obtain ⟨m1, m2⟩ := more_less HE0.out hm0 hml
                obtain ⟨D, hD⟩ : ∃ D, D = begS F a b (l.take m) := ⟨_, rfl⟩
                obtain ⟨LD, ed⟩ := D
                obtain rfl : ed = 0 := by have e1 : (begS F a b (l.take m)).2 = slotE F a b (l.take m) := begS_err; rw [← hD, m1] at e1; exact e1
                have e1 : (begS F a b (l.take m)).1 = LD := by rw [← hD]
                rw [HA1.out, e1] at m2
                have M5 := hidE m2; have HD := hidE hD; have HML := hidE hml
                clear m1 m2 e1 hD hml hl
                have dl2 : decide ((1 : Int) < (m : Int) + 1) = true := decide_eq_true (by omega)
                have dl3 : decide (0 < m) = true := decide_eq_true hm0
                have hmc : m + 1 ≤ c3 ∧ m ≤ 30 := by have := sli_len HI.out.s3; have := HK.out; omega
                have hmc1 : m ≤ c3 := by omega
                have hw0 : IntKind.i64.wrap (m : Int) = (m : Int) := IntWalk.i64_in _ (by omega)
                have x0 := HI.out.win.cell 0; have x1 := HI.out.win.cell 1; have xz := HI.out.win.lt
                simp at x0 x1
                have HB16 := hidE (fun (x : Past w8) => begins_eq (cL := c3) (HI.out.s1.past (Past.prop x)) (sliS_take (k := m) (HI.out.s3.past (Past.prop x)) (by omega)) (by have := HK.out; omega) (by omega) (by omega) (by omega) HD.out.symm)
                go_upto_region 16 with fail
                refine wp_region_J 11 [10] (nthR [detR (.slice f1 n1 c1), detR (V a b), detR (.slice f3 (m + 1) c3), detR (.slice f3 (m + 1) c3), detR (.int .i64 ((m : Int) + 1)), detR (.int .i64 (m : Int)), detR (.slice f3 m c3), vsP LD 0, vsP LD 0, slP LD, detR (.int .i64 0)]) (fun _ => false) (by kernel_rfl) (by decide) (by kernel_rfl) (stab_nth (by intro r hr; simp only [List.mem_cons, List.not_mem_nil, or_false] at hr; rcases hr with rfl | rfl | rfl | rfl | rfl | rfl | rfl | rfl | rfl | rfl | rfl <;> first | exact stab_det _ | exact stab_vsP _ _ | exact stab_slP _)) ?_ ?_ ?_
                · intro i o hi ho
                  match i, hi with
                  | 0, _ =>
                    obtain rfl := Option.some.inj ho
                    intro u x hd
                    have hc := Past.cell x
                    simp [go_sem, gives, frm, Act.put, nthR, detR, Region.wanted, Below.refl]
                  | 1, _ =>
                    obtain rfl := Option.some.inj ho
                    intro u x hd
                    have hc := Past.cell x
                    simp [go_sem, gives, frm, Act.put, nthR, detR, Region.wanted, Below.refl, hc, x0, x1, xz]
                  | 2, _ =>
                    obtain rfl := Option.some.inj ho
                    intro u x hd
                    have hc := Past.cell x
                    simp [go_sem, gives, frm, Act.put, nthR, detR, Region.wanted, Below.refl]
                  | 3, _ =>
                    obtain rfl := Option.some.inj ho
                    intro u x hd
                    have hc := Past.cell x
                    simp [go_sem, gives, frm, Act.put, nthR, detR, Region.wanted, Below.refl]
                  | 4, _ =>
                    obtain rfl := Option.some.inj ho
                    intro u x hd
                    have hc := Past.cell x
                    have d3 := hd 3 (by decide) (by kernel_rfl)
                    simp only [nthR, detR, List.getD_cons_zero, List.getD_cons_succ] at d3
                    simp [go_sem, gives, frm, Act.put, nthR, detR, Region.wanted, Below.refl, d3]
                  | 5, _ =>
                    obtain rfl := Option.some.inj ho
                    intro u x hd
                    have hc := Past.cell x
                    have d4 := hd 4 (by decide) (by kernel_rfl)
                    simp only [nthR, detR, List.getD_cons_zero, List.getD_cons_succ] at d4
                    simp [go_sem, gives, frm, Act.put, nthR, detR, Region.wanted, Below.refl, d4, hw0]
                  | 6, _ =>
                    obtain rfl := Option.some.inj ho
                    intro u x hd
                    have hc := Past.cell x
                    have d2 := hd 2 (by decide) (by kernel_rfl)
                    have d5 := hd 5 (by decide) (by kernel_rfl)
                    simp only [nthR, detR, List.getD_cons_zero, List.getD_cons_succ] at d2 d5
                    simp [go_sem, gives, frm, Act.put, nthR, detR, Region.wanted, Below.refl, d2, d5, hmc1]
                  | 7, _ =>
                    obtain rfl := Option.some.inj ho
                    intro u x hd
                    have hc := Past.cell x
                    have d0 := hd 0 (by decide) (by kernel_rfl)
                    have d1 := hd 1 (by decide) (by kernel_rfl)
                    have d6 := hd 6 (by decide) (by kernel_rfl)
                    simp only [nthR, detR, List.getD_cons_zero, List.getD_cons_succ] at d0 d1 d6
                    simp [go_sem, gives, frm, Act.put, nthR, Region.wanted, d0, d1, d6]
                    (with_reducible refine (HB16.out x).mono ?_); rintro e w3 ⟨a9, c9, rfl, hs9, hb9⟩; exact ⟨_, rfl, hb9, ⟨a9, c9, rfl, hs9⟩⟩
                  | 8, _ =>
                    obtain rfl := Option.some.inj ho
                    intro u x hd
                    have hc := Past.cell x
                    have h7 : ∃ (a : Option Addr) (c : Nat), u 7 = .tuple #[.slice a LD.length c, .int .i64 0] ∧ SliVs x.1 (.slice a LD.length c) LD := hd 7 (by decide) (by kernel_rfl)
                    have e7 := h7.choose_spec.choose_spec.1
                    have s7 := h7.choose_spec.choose_spec.2
                    generalize h7.choose_spec.choose = c7 at *
                    generalize h7.choose = a7 at *
                    simp [go_sem, gives, frm, Act.put, nthR, Region.wanted, Below.refl, e7]
                    exact ⟨a7, c7, rfl, s7⟩
                  | 9, _ =>
                    obtain rfl := Option.some.inj ho
                    intro u x hd
                    have hc := Past.cell x
                    have h8 : ∃ (a : Option Addr) (c : Nat), u 8 = .tuple #[.slice a LD.length c, .int .i64 0] ∧ SliVs x.1 (.slice a LD.length c) LD := hd 8 (by decide) (by kernel_rfl)
                    have e8 := h8.choose_spec.choose_spec.1
                    have s8 := h8.choose_spec.choose_spec.2
                    generalize h8.choose_spec.choose = c8 at *
                    generalize h8.choose = a8 at *
                    simp [go_sem, gives, frm, Act.put, nthR, Region.wanted, Below.refl, e8]
                    exact ⟨a8, c8, rfl, s8⟩
                  | 10, _ =>
                    obtain rfl := Option.some.inj ho
                    intro u x hd
                    have hc := Past.cell x
                    have h8 : ∃ (a : Option Addr) (c : Nat), u 8 = .tuple #[.slice a LD.length c, .int .i64 0] ∧ SliVs x.1 (.slice a LD.length c) LD := hd 8 (by decide) (by kernel_rfl)
                    have e8 := h8.choose_spec.choose_spec.1
                    have s8 := h8.choose_spec.choose_spec.2
                    generalize h8.choose_spec.choose = c8 at *
                    generalize h8.choose = a8 at *
                    simp [go_sem, gives, frm, Act.put, nthR, Region.wanted, Below.refl, e8, detR]
                  | i + 11, h => exact absurd h (by omega)
                · intro i o hx ho
                  simp only [List.mem_cons, List.not_mem_nil, or_false] at hx
                  rcases hx with rfl
                  · obtain rfl := Option.some.inj ho
                    refine ⟨rfl, fun _ _ _ _ h => h, fun u x hd => ?_⟩
                    have h8 : ∃ (a : Option Addr) (c : Nat), u 8 = .tuple #[.slice a LD.length c, .int .i64 0] ∧ SliVs x.1 (.slice a LD.length c) LD := hd 8 (by decide) (by kernel_rfl)
                    have e8 := h8.choose_spec.choose_spec.1
                    have s8 := h8.choose_spec.choose_spec.2
                    generalize h8.choose_spec.choose = c8 at *
                    generalize h8.choose = a8 at *
                    refine ⟨rfl, .int .i64 0, rfl, fun w' => ?_⟩
                    simp [go_sem, frm, Act.put, e8]
                · intro u x9 hu hne
                  have e0 : u 0 = .slice f1 n1 c1 := hu 0 (by decide)
                  have e1 : u 1 = V a b := hu 1 (by decide)
                  have e2 : u 2 = .slice f3 (m + 1) c3 := hu 2 (by decide)
                  have e3 : u 3 = .slice f3 (m + 1) c3 := hu 3 (by decide)
                  have e4 : u 4 = .int .i64 ((m : Int) + 1) := hu 4 (by decide)
                  have e5 : u 5 = .int .i64 (m : Int) := hu 5 (by decide)
                  have e6 : u 6 = .slice f3 m c3 := hu 6 (by decide)
                  have h7 : vsP LD 0 (u 7) x9.1 := hu 7 (by decide)
                  have h8 : vsP LD 0 (u 8) x9.1 := hu 8 (by decide)
                  have h9 : slP LD (u 9) x9.1 := hu 9 (by decide)
                  have e10 : u 10 = .int .i64 0 := hu 10 (by decide)
                  obtain ⟨a7, c7, e7, _⟩ := h7
                  obtain ⟨a8, c8, e8, _⟩ := h8
                  obtain ⟨a9, c9, e9, s9⟩ := h9
                  simp only [frm, List.take, Act.put, e0, e1, e2, e3, e4, e5, e6, e7, e8, e9, e10]
                  obtain ⟨wA, hw⟩ : ∃ z, z = x9.1 := ⟨_, rfl⟩
                  have hx9 := Past.prop x9
                  rw [← hw] at hx9 s9
                  rw [← hw]
                  have HI := hidE (HI.out.past hx9); have SA := hidE (SA.out.past hx9); have SD := hidE s9
                  clear hw hx9 s9 hu e0 e1 e2 e3 e4 e5 e6 e7 e8 e9 e10 HB16 x0 x1 xz
                  go_wp2_with fail
                  ((with_reducible refine (swithin_t SA.out SD.out M5.out).mono ?_); rintro e wB ⟨rfl, hb⟩)
                  have HI := hidE (HI.out.past hb)
                  clear hb SD
                  go_wp2_with fail
                  ((with_reducible refine (HH.out _).mono ?_); rintro e wzqbd ⟨rfl, hbz⟩)
                  go_wp2
                  go_ret
                  exact ⟨rfl, bstep hbz HI.out.bel⟩

              · have dl : decide ((1 : Int) < (n3 : Int)) = false := decide_eq_false (by omega)
                have dl' : decide (1 < n3) = false := decide_eq_false hl
                clear hl
                go_wp2_with fail
                ((with_reducible refine (HH.out _).mono ?_); rintro e wzqb ⟨rfl, hbz⟩)
                go_wp2
                go_ret
                exact ⟨rfl, bstep hbz HI.out.bel⟩
        · have e0 : (ea != 0) = true := bne_iff_ne.2 h0
          clear h0 HA
          go_wp2_with fail
          ((with_reducible refine (HH.out _).mono ?_); rintro e wzc ⟨rfl, hbz⟩)
          go_wp2
          go_ret
          exact ⟨rfl, bstep hbz HI.out.bel⟩
end
end Go.Proofs.Ytmjfogmpbidooaa
