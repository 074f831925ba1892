/- The walk of the statement on legs that are cut. Conditions: that the slices read as functions and legs. -/
import Derived.Test.YtgflbidagdcfmaaSCGC
import Derived.Test.YtgflbidagdcfmaaSCGE
namespace Go.Proofs.Ytgflbidagdcfmaa
open Go.ChangeShapes Go.WideShapes Go.ChangeAt Go.RowKit
attribute [local irreducible] Go.Calls

/-- What stays in memory. -/
structure ScI (F l : List Sg) (f1 f3 : Option Addr) (n1 c1 n3 c3 : Nat) (a b p q : Int) (pR pW : Nat) (w W : World) : Prop where
  row : Blk W pR #[.int .i64 a, .int .i64 b, .slice f3 n3 c3, .int .u8 p, .int .u8 q] 28
  win : Blk W pW #[.int .i64 a, .int .i64 b] 24
  s1 : SliS W (.slice f1 n1 c1) F
  s3 : SliS W (.slice f3 n3 c3) l
  bel : Below w.heap.size w W
section
variable {F l : List Sg} {f1 f3 : Option Addr} {n1 c1 n3 c3 : Nat} {a b p q : Int}
theorem ScI.past {pR pW : Nat} {w W W' : World} (h : ScI F l f1 f3 n1 c1 n3 c3 a b p q pR pW w W) (hb : Below W.heap.size W W') : ScI F l f1 f3 n1 c1 n3 c3 a b p q pR pW w W' :=
  ⟨h.row.past hb, h.win.past hb, h.s1.past hb, h.s3.past hb, bstep hb h.bel⟩
theorem Try.infoLeg : (Try.prog.info? 38).map (fun i => (i.zero, i.size, i.bytes)) = some (some (.agg #[.int .i64 0, .int .i64 0, .int .i64 0]), 3, 24) := by kernel_rfl
theorem cellsOfS_one : ∀ (l : List Sg), ∀ u ∈ cellsOfS l, u.oneCell' = true
  | [], u, h => by simp [cellsOfS] at h
  | s :: r, u, h => by
    simp only [cellsOfS, List.mem_cons] at h
    rcases h with rfl | rfl | rfl | h
    · rfl
    · rfl
    · rfl
    · exact cellsOfS_one r u h
/-- A piece of a row can be copied. -/
theorem srcV_leg {w : World} {b off n cap : Nat} {l : List Sg} (hn : n = l.length) (h : 0 < l.length → CellsS w b off l) : SrcV w 3 (.slice (some ⟨b, off, none⟩) n cap) n (cellsOfS l) := by
  subst hn
  refine ⟨_, cap, rfl, (fun e => by cases e), cellsOfS_len l, cellsOfS_one l, fun ad e j u hu => ?_⟩
  cases e
  have hj : j < l.length * 3 := by
    obtain ⟨q1, _⟩ := List.getElem?_eq_some_iff.1 hu
    rwa [cellsOfS_len] at q1
  obtain ⟨i, hi⟩ : ∃ i, i = j / 3 := ⟨_, rfl⟩
  have hil : i < l.length := by omega
  obtain ⟨c0, c1, c2⟩ := (h (by omega)).get hil
  obtain ⟨g0, g1, g2⟩ := cellsOfS_get l i hil
  have ad : ∀ x y : Nat, (⟨b, x, none⟩ : Addr).add y = ⟨b, x + y, none⟩ := fun x y => by
    unfold Addr.add
    by_cases c : y = 0
    · subst c; simp
    · simp [c]
  rw [ad]
  rcases (show j = i * 3 ∨ j = i * 3 + 1 ∨ j = i * 3 + 2 by omega) with e | e | e
  · rw [e] at hu ⊢; rw [g0] at hu; cases hu; exact c0
  · rw [e] at hu ⊢; rw [g1] at hu; cases hu; exact c1
  · rw [e] at hu ⊢; rw [g2] at hu; cases hu; exact c2
theorem firstW_at {a : Int} {L : List Wn} (h : 0 < L.length) : firstW a L = if (L.getD 0 (0, 0)).1 = a then 1 else 0 := by
  cases L with
  | nil => simp at h
  | cons x r => rfl
def tupC (k : Nat) (v : Value) : Value := match v with
  | .tuple cs => cs.getD k undef
  | _ => undef
def fsC (i : Nat) (v : Value) : Value := if i = 7 then v else if i = 9 then tupC 1 v else tupC 0 v
set_option maxRecDepth 100000 in
set_option maxHeartbeats 16000000 in
theorem scut_c (w : World) (S1 : SliS w (.slice f1 n1 c1) F) (S3 : SliS w (.slice f3 n3 c3) l) (ha : -9223372036854775808 ≤ a ∧ a ≤ 9223372036854775807) (hb : -9223372036854775808 ≤ b ∧ b ≤ 9223372036854775807) (hp : 0 ≤ p ∧ p ≤ 255) (hq : 0 ≤ q ∧ q ≤ 255) :
    Calls Try.prog 3 #[.slice f1 n1 c1, RowV a b p q f3 n3 c3] w fun e w' => e = .returned (.bool true) ∧ Below w.heap.size w w' := by
  have HH := hidE (fun w => shead_c w)
  obtain ⟨pR, hpR⟩ : ∃ z, z = w.heap.size := ⟨_, rfl⟩
  have HNL := hidE (show n1 ≤ 9223372036854775807 ∧ n3 ≤ 9223372036854775807 by have q1 := sli_len S1; have q3 := sli_len S3; omega)
  have hg3 : n3 ≤ 9223372036854775807 := HNL.out.2
  go_enter Try.func3, Try.ntmps3
  go_upto_region 1 with fail
  obtain ⟨w0, hw⟩ : ∃ z, z = w.alloc (Obj.cells #[.int .i64 a, .int .i64 b, .slice f3 n3 c3, .int .u8 p, .int .u8 q] 28) := ⟨_, rfl⟩
  have BR : Blk w0 pR #[.int .i64 a, .int .i64 b, .slice f3 n3 c3, .int .u8 p, .int .u8 q] 28 := by rw [hw, hpR]; exact Blk.made _ _ _
  have hb0 : Below w.heap.size w w0 := by rw [hw]; exact (Below.refl _ _).alloc (Nat.le_refl _) _
  rw [← hw, ← hpR]
  have T1 := hidE (S1.past hb0); have T3 := hidE (S3.past hb0); have HBR := hidE BR; have HB0 := hidE hb0
  have p0 := BR.cell 0; have p1 := BR.cell 1; have p2 := BR.cell 2; have pz := BR.lt
  simp at p0 p1 p2
  clear S1 S3 hw BR hb0 hpR
  obtain ⟨fx, hfx⟩ : ∃ fx : Nat → Array Value, fx = fun pW => #[.slice f1 n1 c1, RowV a b p q f3 n3 c3, undef, .pointer (some ⟨pR, 0, none⟩), .bool false, .pointer (some ⟨pW, 0, none⟩), .slice f3 n3 c3, undef, undef, undef, undef, undef, undef, undef, undef, undef, undef, undef, undef, undef, undef, undef, .pointer (some ⟨pR, 0, none⟩), V a b, .pointer (some ⟨pR, 2, none⟩), .slice f3 n3 c3, undef, undef, undef, undef, undef, undef, undef, undef, undef, undef, undef, undef, undef, undef, undef, undef, undef, undef, undef, undef, undef, undef, undef, undef, undef, undef, undef, undef, undef, undef, undef, undef, undef, undef, undef, undef, undef, undef, undef, undef, undef, undef, undef, undef, undef, undef, undef, undef, undef, undef, undef, undef, undef, undef, undef, undef, undef, undef, undef, undef, undef, undef, undef, undef, undef, undef, undef, undef, undef, undef, undef, undef, undef, undef, undef, undef, undef, undef, undef, undef, undef, undef, undef, undef, undef, undef, undef, undef, undef, undef, undef, undef, undef, undef, undef, undef, undef, undef, undef, undef, undef, undef, undef, undef, undef, undef, undef, undef, undef, undef, undef, undef, undef, undef, undef, undef, undef, undef, undef, undef, undef, undef, undef, undef, undef, undef, undef, undef, undef, undef, undef, undef, undef, undef, undef, undef, undef, undef, undef, undef, undef, undef, undef, undef, undef, undef, undef, undef, undef, undef, undef, undef, undef, undef, undef, undef, undef, undef, undef, undef, undef, undef, undef, undef, undef, undef, undef, undef, undef, undef, undef, undef] := ⟨_, rfl⟩
  refine wp_mono (Q := fun e a' w' => e = Exit.normal ∧ ∃ pW, Below w0.heap.size w0 w' ∧ Blk w' pW #[.int .i64 a, .int .i64 b] 24 ∧ a' = { tmps := fx pW, defers := [] }) ?_ ?_
  · go_region
    exact ⟨rfl, w0.heap.size, ((Below.refl _ _).alloc (Nat.le_refl _) _).drew, Blk.made _ _ _, by rw [hfx]⟩
  · rintro _ _ w1 ⟨rfl, pW, hb1, BW, rfl⟩
    subst hfx
    have HI := hidE (show ScI F l f1 f3 n1 c1 n3 c3 a b p q pR pW w w1 from ⟨HBR.out.past hb1, BW, T1.out.past hb1, T3.out.past hb1, bstep hb1 HB0.out⟩)
    clear BW hb1 T1 T3 HBR HB0 p0 p1 p2 pz
    have HG := hidE (fun w => sgreat_c f1 f3 n1 n3 c1 c3 a b w ha hb HNL.out.1 HNL.out.2)
    have x0 := HI.out.win.cell 0; have x1 := HI.out.win.cell 1; have xz := HI.out.win.lt
    simp at x0 x1
    go_wp2_with fail
    ((with_reducible refine (HG.out _).mono ?_); rintro e w2 ⟨rfl, hb2⟩)
    have HI := hidE (HI.out.past hb2)
    clear hb2 x0 x1 xz HG
    cases hg : grB n1 n3 a b with
    | true =>
      go_wp2_with fail
      ((with_reducible refine (HH.out _).mono ?_); rintro e wza ⟨rfl, hbz⟩)
      go_wp2
      go_ret
      exact ⟨rfl, bstep hbz HI.out.bel⟩
    | false =>
      obtain ⟨k1, k3, k4⟩ := grB_no hg
      clear hg
      by_cases h14 : 14 < n3
      · have d2 : decide (14 < (n3 : Int)) = true := decide_eq_true (by omega)
        have d2' : decide (14 < n3) = true := decide_eq_true h14
        clear h14
        go_wp2_with fail
        ((with_reducible refine (HH.out _).mono ?_); rintro e wzb ⟨rfl, hbz⟩)
        go_wp2
        go_ret
        exact ⟨rfl, bstep hbz HI.out.bel⟩
      by_cases hn0 : n3 = 0
      · subst hn0
        go_wp2_with fail
        ((with_reducible refine (HH.out _).mono ?_); rintro e wzc ⟨rfl, hbz⟩)
        go_wp2
        go_ret
        exact ⟨rfl, bstep hbz HI.out.bel⟩
      have d2 : decide (14 < (n3 : Int)) = false := decide_eq_false (by omega)
      have d2' : decide (14 < n3) = false := decide_eq_false h14
      have d3 : ((n3 : Int) == 0) = false := beq_eq_false_iff_ne.2 (by omega)
      have hn14 : 0 < n3 ∧ n3 ≤ 14 := by omega
      have HK := hidE (show n1 ≤ 60 ∧ (0 < n3 ∧ n3 ≤ 14) from ⟨k1, hn14⟩)
      clear h14 hn0 k1 k3 k4 hn14
      obtain ⟨A, hA⟩ : ∃ A, A = begS F a b l := ⟨_, rfl⟩
      obtain ⟨LA, ea⟩ := A
      have HA := hidE hA
      clear hA
      go_upto_region 4 with fail
      have x0 := HI.out.win.cell 0; have x1 := HI.out.win.cell 1; have xz := HI.out.win.lt
      simp at x0 x1
      go_wp2_with fail
      ((with_reducible refine (begins_eq HI.out.s1 HI.out.s3 (by have := HK.out; omega) (by have := HK.out; omega) ha hb HA.out.symm).mono ?_); rintro e w3 ⟨aA, cA, rfl, hsA, hb3⟩)
      have HI := hidE (HI.out.past hb3)
      have SA := hidE (show SliVs w3 (.slice aA LA.length cA) LA from hsA)
      clear hb3 hsA x0 x1 xz
      by_cases h0 : ea = 0
      · subst h0
        have hE0 : slotE F a b l = 0 := by rw [← begS_err, ← HA.out]
        have hA1 : (begS F a b l).1 = LA := by rw [← HA.out]
        have HE0 := hidE hE0; have HA1 := hidE hA1
        have e0 : ((0 : Int) != 0) = false := rfl
        clear hE0 hA1
        go_upto_region 7 with fail
        have r3 := HI.out.row.cell 3; have r4 := HI.out.row.cell 4; have rz := HI.out.row.lt
        simp at r3 r4
        have hn3p : 0 < n3 := HK.out.2.1
        go_upto_region 8 with fail
        obtain ⟨k, hk⟩ : ∃ k : Nat, p % (n3 : Int) = (k : Int) := ⟨(p % (n3 : Int)).toNat, by rw [Int.toNat_of_nonneg (Int.emod_nonneg _ (by omega))]⟩
        have hkn : k < n3 := by have := Int.emod_lt_of_pos p (show (0 : Int) < (n3 : Int) by omega); omega
        rw [hk]
        obtain ⟨e3, hc3, hm3, hA3⟩ := sli_len HI.out.s3
        have hkl : k < l.length := by omega
        obtain ⟨b3, o3, rfl, z3, hcc⟩ := hA3 (by omega)
        obtain ⟨g0, g1, g2⟩ := hcc.get hkl
        have HCS := hidE (fun n h1 h2 => cut_same (n := n) HE0.out (by have := HK.out; omega) hkl h1 h2)
        have hleg := legs_ok HE0.out (l.getD k (0, 0, 0)) (by rw [getD_get _ _ _ hkl]; exact List.getElem_mem hkl)
        have HCL := hidE (fun n => show cutL2 l k n = l.take k ++ ([(n, (l.getD k (0, 0, 0)).2), ((l.getD k (0, 0, 0)).1 - n, (l.getD k (0, 0, 0)).2)] ++ l.drop (k + 1)) from rfl)
        have HLL := hidE e3; have HC3 := hidE hc3; have HM3 := hidE hm3
        unfold ats at g0; unfold vls at g1 g2
        generalize l.getD k (0, 0, 0) = s at *
        obtain ⟨d, vm, vc⟩ := s
        have hleg : 1 ≤ d ∧ d ≤ 4096 := hleg
        simp only at g0 g1 g2 HCS HCL
        clear hcc hA3 hk hp e3 hc3 hm3
        by_cases hd : d < 2
        · have d4 : decide (d < 2) = true := decide_eq_true hd
          clear hd
          go_wp2_with fail
          ((with_reducible refine (HH.out _).mono ?_); rintro e wze ⟨rfl, hbz⟩)
          go_wp2
          go_ret
          exact ⟨rfl, bstep hbz HI.out.bel⟩
        have d4 : decide (d < 2) = false := decide_eq_false hd
        have hd2 : 2 ≤ d := by omega
        have w1 : IntKind.i64.wrap (d - 1) = d - 1 := IntWalk.i64_in _ (by omega)
        have hq3 : 0 ≤ q % (d - 1) ∧ q % (d - 1) < d - 1 := ⟨Int.emod_nonneg _ (by omega), Int.emod_lt_of_pos _ (by omega)⟩
        have w2 : IntKind.i64.wrap (q % (d - 1)) = q % (d - 1) := IntWalk.i64_in _ (by omega)
        have w3' : IntKind.i64.wrap (1 + q % (d - 1)) = 1 + q % (d - 1) := IntWalk.i64_in _ (by omega)
        have wq : IntKind.i64.wrap q = q := IntWalk.i64_in _ (by omega)
        have hd1 : d - 1 ≠ 0 := by omega
        clear hd
        go_upto_region 10 with fail
        go_quiet (fail)
        go_upto_region 11 with fail
        generalize hw : w3.drewN _ = w4
        have hb4 : Below w3.heap.size w3 w4 := by rw [← hw]; exact below_drewN (Below.refl _ _) _
        have HI := hidE (HI.out.past hb4); have SA := hidE (SA.out.past hb4)
        rw [← hb4.cell (p := ⟨b3, _, none⟩) z3] at g0 g1 g2
        have z4 : b3 < w4.heap.size := Nat.lt_of_lt_of_le z3 hb4.size
        obtain ⟨n, hn⟩ : ∃ n, n = 1 + q % (d - 1) := ⟨_, rfl⟩
        rw [← hn]
        have hnd : 1 ≤ n ∧ n < d := by omega
        have hwd : IntKind.i64.wrap (d - n) = d - n := IntWalk.i64_in _ (by omega)
        have hwk : IntKind.i64.wrap ((k : Int) + 1) = (k : Int) + 1 := IntWalk.i64_in _ (by have := HK.out; omega)
        have hn3c : n3 ≤ c3 := HC3.out
        have hkn2 : k + 1 ≤ n3 := hkn
        clear hw hb4 z3 hn w1 w2 w3' wq hd1 hq3 d4 r3 r4 rz
        obtain ⟨ix, hix, hz0, hz1, hz2⟩ := info_parts Try.infoLeg
        have IX := hidE hix; have IZ0 := hidE hz0; have IZ1 := hidE hz1; have IZ2 := hidE hz2
        clear hix hz0 hz1 hz2
        have hkc : k ≤ c3 := by omega
        have hkc1 : k + 1 ≤ c3 := by omega
        have hk0 : (0 : Int) ≤ (k : Int) + 1 := by omega
        have hkI : (k : Int) + 1 ≤ (n3 : Int) := by omega
        have hcells : CellsS w4 b3 o3 l := by
          obtain ⟨_, _, _, hA⟩ := sli_len HI.out.s3
          obtain ⟨b', o', e', _, hc⟩ := hA (by omega)
          cases e'
          exact hc
        have hll : n3 = l.length := HLL.out
        obtain ⟨ad3, had3, hadr⟩ : ∃ ad3 : Addr, (if c3 = k + 1 then some (⟨b3, o3, none⟩ : Addr) else some ⟨b3, o3 + (k + 1) * 3, none⟩) = some ad3 ∧ ∀ w9, Below w4.heap.size w4 w9 → SrcV w9 3 (.slice (some ad3) (n3 - (k + 1)) (c3 - (k + 1))) (n3 - (k + 1)) (cellsOfS (l.drop (k + 1))) := by
          by_cases hc : c3 = k + 1
          · refine ⟨⟨b3, o3, none⟩, by rw [if_pos hc], fun w9 hb9 => srcV_leg (by rw [List.length_drop]; omega) (fun h => ?_)⟩
            rw [List.length_drop] at h; omega
          · refine ⟨⟨b3, o3 + (k + 1) * 3, none⟩, by rw [if_neg hc], fun w9 hb9 => srcV_leg (by rw [List.length_drop]; omega) (fun h i hi => ?_)⟩
            have hi2 : k + 1 + i < l.length := by rw [List.length_drop] at hi; omega
            have := (hcells.below hb9 z4) (k + 1 + i) hi2
            rw [show o3 + (k + 1 + i) * 3 = o3 + (k + 1) * 3 + i * 3 by omega] at this
            have e : (l.drop (k + 1)).getD i (0, 0, 0) = l.getD (k + 1 + i) (0, 0, 0) := by rw [List.getD_eq_getElem?_getD, List.getElem?_drop, ← List.getD_eq_getElem?_getD]
            rw [e]; exact this
        have SRC3 := hidE hadr
        have SRC1 := hidE (show ∀ w9, Below w4.heap.size w4 w9 → SrcV w9 3 (.slice (some ⟨b3, o3, none⟩) k c3) k (cellsOfS (l.take k)) from fun w9 hb9 => srcV_leg (by rw [List.length_take]; omega) (fun h i hi => by
          have hik : i < k := by rw [List.length_take] at hi; omega
          have := (hcells.below hb9 z4) i (by omega)
          have e : (l.take k).getD i (0, 0, 0) = l.getD i (0, 0, 0) := by rw [List.getD_eq_getElem?_getD, List.getElem?_take, if_pos hik, ← List.getD_eq_getElem?_getD]
          rw [e]; exact this))
        clear hadr hll
        have HOK : ChOk (fun i => ([none, some (.slice (some ⟨b3, o3, none⟩) n3 c3), some (.int .i64 (k : Int)), some (.slice (some ⟨b3, o3, none⟩) k c3), none, some (.int .i64 n), some (.slice (some ⟨b3, o3, none⟩) n3 c3), some (.int .i64 (k : Int)), some (.pointer (some ⟨b3, o3 + k * 3, none⟩)), some (.pointer (some ⟨b3, o3 + k * 3 + 1, none⟩)), some (V vm vc), some (.agg #[.int .i64 n, .int .i64 vm, .int .i64 vc]), some (.slice (some ⟨b3, o3, none⟩) n3 c3), some (.int .i64 (k : Int)), some (.pointer (some ⟨b3, o3 + k * 3, none⟩)), some (.pointer (some ⟨b3, o3 + k * 3, none⟩)), some (.int .i64 d), some (.int .i64 n), some (.int .i64 (d - n)), some (.slice (some ⟨b3, o3, none⟩) n3 c3), some (.int .i64 (k : Int)), some (.pointer (some ⟨b3, o3 + k * 3, none⟩)), some (.pointer (some ⟨b3, o3 + k * 3 + 1, none⟩)), some (V vm vc), some (.agg #[.int .i64 (d - n), .int .i64 vm, .int .i64 vc]), none, none, some (.slice (some ⟨b3, o3, none⟩) n3 c3), some (.int .i64 (k : Int)), some (.int .i64 ((k : Int) + 1)), some (.slice (some ad3) (n3 - (k + 1)) (c3 - (k + 1))), none] : List (Option Value)).getD i none) (fun i => [0, 4, 26, 31].getD i 900) (fun j => [901, 902, 25, 903].getD j 904) 3 := by
          refine ⟨fun i hi => ?_, fun j => ?_, fun i k hi hk e => ?_, fun i j hi e => ?_⟩
          · match i, hi with
            | 0, _ => rfl
            | 1, _ => rfl
            | 2, _ => rfl
            | 3, _ => rfl
          · match j with
            | 0 => rfl
            | 1 => rfl
            | 2 => rfl
            | 3 => rfl
            | j + 4 => rfl
          · match i, k, hi, hk with
            | 0, 0, _, _ => first | rfl | (simp at e)
            | 0, 1, _, _ => first | rfl | (simp at e)
            | 0, 2, _, _ => first | rfl | (simp at e)
            | 0, 3, _, _ => first | rfl | (simp at e)
            | 1, 0, _, _ => first | rfl | (simp at e)
            | 1, 1, _, _ => first | rfl | (simp at e)
            | 1, 2, _, _ => first | rfl | (simp at e)
            | 1, 3, _, _ => first | rfl | (simp at e)
            | 2, 0, _, _ => first | rfl | (simp at e)
            | 2, 1, _, _ => first | rfl | (simp at e)
            | 2, 2, _, _ => first | rfl | (simp at e)
            | 2, 3, _, _ => first | rfl | (simp at e)
            | 3, 0, _, _ => first | rfl | (simp at e)
            | 3, 1, _, _ => first | rfl | (simp at e)
            | 3, 2, _, _ => first | rfl | (simp at e)
            | 3, 3, _, _ => first | rfl | (simp at e)
          · match i, j, hi with
            | 0, 0, _ => simp at e
            | 0, 1, _ => simp at e
            | 0, 2, _ => simp at e
            | 0, 3, _ => simp at e
            | 0, j + 4, _ => simp at e
            | 1, 0, _ => simp at e
            | 1, 1, _ => simp at e
            | 1, 2, _ => simp at e
            | 1, 3, _ => simp at e
            | 1, j + 4, _ => simp at e
            | 2, 0, _ => simp at e
            | 2, 1, _ => simp at e
            | 2, 2, _ => simp at e
            | 2, 3, _ => simp at e
            | 2, j + 4, _ => simp at e
            | 3, 0, _ => simp at e
            | 3, 1, _ => simp at e
            | 3, 2, _ => simp at e
            | 3, 3, _ => simp at e
            | 3, j + 4, _ => simp at e
        have HINJ2 : ∀ q, q ≤ 3 → (fun j => [901, 902, 25, 903].getD j 904) q = (fun j => [901, 902, 25, 903].getD j 904) 2 → q = 2 := fun q hq e => by
          match q, hq with
          | 0, _ => first | rfl | (simp at e)
          | 1, _ => first | rfl | (simp at e)
          | 2, _ => first | rfl | (simp at e)
          | 3, _ => first | rfl | (simp at e)
        refine wp_region_C 32 (ChI 38 3 w4 (fun i => ([none, some (.slice (some ⟨b3, o3, none⟩) n3 c3), some (.int .i64 (k : Int)), some (.slice (some ⟨b3, o3, none⟩) k c3), none, some (.int .i64 n), some (.slice (some ⟨b3, o3, none⟩) n3 c3), some (.int .i64 (k : Int)), some (.pointer (some ⟨b3, o3 + k * 3, none⟩)), some (.pointer (some ⟨b3, o3 + k * 3 + 1, none⟩)), some (V vm vc), some (.agg #[.int .i64 n, .int .i64 vm, .int .i64 vc]), some (.slice (some ⟨b3, o3, none⟩) n3 c3), some (.int .i64 (k : Int)), some (.pointer (some ⟨b3, o3 + k * 3, none⟩)), some (.pointer (some ⟨b3, o3 + k * 3, none⟩)), some (.int .i64 d), some (.int .i64 n), some (.int .i64 (d - n)), some (.slice (some ⟨b3, o3, none⟩) n3 c3), some (.int .i64 (k : Int)), some (.pointer (some ⟨b3, o3 + k * 3, none⟩)), some (.pointer (some ⟨b3, o3 + k * 3 + 1, none⟩)), some (V vm vc), some (.agg #[.int .i64 (d - n), .int .i64 vm, .int .i64 vc]), none, none, some (.slice (some ⟨b3, o3, none⟩) n3 c3), some (.int .i64 (k : Int)), some (.int .i64 ((k : Int) + 1)), some (.slice (some ad3) (n3 - (k + 1)) (c3 - (k + 1))), none] : List (Option Value)).getD i none) (fun i => [0, 4, 26, 31].getD i 900) (fun j => [901, 902, 25, 903].getD j 904) 3 (fun i => [0, 0 + k, 0 + k + 2, 0 + k + 2 + (n3 - (k + 1))].getD i 0) (fun j => [0, 0, 2, 0].getD j 0) (fun i => [[], [] ++ cellsOfS (l.take k), [] ++ cellsOfS (l.take k) ++ [.int .i64 n, .int .i64 vm, .int .i64 vc, .int .i64 (d - n), .int .i64 vm, .int .i64 vc], [] ++ cellsOfS (l.take k) ++ [.int .i64 n, .int .i64 vm, .int .i64 vc, .int .i64 (d - n), .int .i64 vm, .int .i64 vc] ++ cellsOfS (l.drop (k + 1))].getD i []) (fun j => [[], [], [.int .i64 n, .int .i64 vm, .int .i64 vc, .int .i64 (d - n), .int .i64 vm, .int .i64 vc], []].getD j [])) (by kernel_rfl) (by decide) (by kernel_rfl) (chI_start (Below.refl _ _).drew) ?_ ?_
        · intro i o hi ho
          match i, hi with
          | 0, _ =>
            have eo := Option.some.inj ho
            have hg : o.guard = none := by rw [← eo]
            refine cstep_evF hg ?_
            intro E L u w9 E1 E0 EC EF hl hw hI
            subst eo
            refine gives_ok (v := .slice (some ⟨w9.heap.size, 0, none⟩) 0 0) (w' := w9.alloc (.cells #[] 38)) (by simp [execOp, go_sem]) ?_
            exact hI.nbase HOK hl (show World.ownsRow _ w4.heap.size 38 3 (.slice (some ⟨w9.heap.size, 0, none⟩) 0 0) 0 [] from World.ownsRow_lit (e := 38) (size := 3) (base := w4.heap.size) w9 #[] 0 hI.bel.size (by unfold maxLen; omega) rfl) ((Below.refl _ w9).alloc (Nat.le_refl _) _) (fun b hb => by simp [Value.ownBlock] at hb; omega)
          | 1, _ =>
            have eo := Option.some.inj ho
            have hg : o.guard = none := by rw [← eo]
            refine cstep_evF hg ?_
            intro E L u w9 E1 E0 EC EF hl hw hI
            subst eo
            have a6 := (E0 6 (by kernel_rfl)).trans (show _ = Value.slice (some ⟨b3, o3, none⟩) n3 c3 from rfl)
            refine gives_ok (v := .slice (some ⟨b3, o3, none⟩) n3 c3) (w' := w9) (by simp [execOp, go_sem, a6]) ?_
            exact hI.ndet HOK rfl (Below.refl _ _)
          | 2, _ =>
            have eo := Option.some.inj ho
            have hg : o.guard = none := by rw [← eo]
            refine cstep_evF hg ?_
            intro E L u w9 E1 E0 EC EF hl hw hI
            subst eo
            have a9 := (E0 9 (by kernel_rfl)).trans (show _ = Value.int .i64 (k : Int) from rfl)
            refine gives_ok (v := .int .i64 (k : Int)) (w' := w9) (by simp [execOp, go_sem, a9]) ?_
            exact hI.ndet HOK rfl (Below.refl _ _)
          | 3, _ =>
            have eo := Option.some.inj ho
            have hg : o.guard = none := by rw [← eo]
            refine cstep_evF hg ?_
            intro E L u w9 E1 E0 EC EF hl hw hI
            subst eo
            have a78 := (E1 78 1 (by kernel_rfl) (by simp)).trans (hI.det 1 _ rfl (hw 1 (by decide) (by kernel_rfl)))
            have a79 := (E1 79 2 (by kernel_rfl) (by simp)).trans (hI.det 2 _ rfl (hw 2 (by decide) (by kernel_rfl)))
            refine gives_ok (v := .slice (some ⟨b3, o3, none⟩) k c3) (w' := w9) (by simp [execOp, go_sem, a78, a79, hkc]) ?_
            exact hI.ndet HOK rfl (Below.refl _ _)
          | 4, _ =>
            have eo := Option.some.inj ho
            have hg : o.guard = none := by rw [← eo]
            refine cstep_evF hg ?_
            intro E L u w9 E1 E0 EC EF hl hw hI
            subst eo
            have a77 := E1 77 0 (by kernel_rfl) (by simp)
            have a80 := (E1 80 3 (by kernel_rfl) (by simp)).trans (hI.det 3 _ rfl (hw 3 (by decide) (by kernel_rfl)))
            have hpw := hw 0 (by decide) (by kernel_rfl)
            refine gives_appC (.tmp 77) (.tmp 80) 25 rfl w4.heap.size 38 ix _ 3 24 Try.underlying25 IX.out IZ0.out IZ1.out IZ2.out rfl (by decide) _ _ (by rw [a77]; exact hI.row 0 (by decide) hpw (fun _ => hl)) k (cellsOfS (l.take k)) (by rw [a80]; exact SRC1.out w9 hI.bel) (by have := HK.out; simp; omega) (by omega) hI.bel.size ?_
            intro v' w' ho hg hat
            rw [a77] at hg hat
            exact hI.napp (i := 0) HOK (by decide) hl hpw ho hg hat
          | 5, _ =>
            have eo := Option.some.inj ho
            have hg : o.guard = none := by rw [← eo]
            refine cstep_evF hg ?_
            intro E L u w9 E1 E0 EC EF hl hw hI
            subst eo
            have a10 := (E0 10 (by kernel_rfl)).trans (show _ = Value.int .i64 n from rfl)
            refine gives_ok (v := .int .i64 n) (w' := w9) (by simp [execOp, go_sem, a10]) ?_
            exact hI.ndet HOK rfl (Below.refl _ _)
          | 6, _ =>
            have eo := Option.some.inj ho
            have hg : o.guard = none := by rw [← eo]
            refine cstep_evF hg ?_
            intro E L u w9 E1 E0 EC EF hl hw hI
            subst eo
            have a6 := (E0 6 (by kernel_rfl)).trans (show _ = Value.slice (some ⟨b3, o3, none⟩) n3 c3 from rfl)
            refine gives_ok (v := .slice (some ⟨b3, o3, none⟩) n3 c3) (w' := w9) (by simp [execOp, go_sem, a6]) ?_
            exact hI.ndet HOK rfl (Below.refl _ _)
          | 7, _ =>
            have eo := Option.some.inj ho
            have hg : o.guard = none := by rw [← eo]
            refine cstep_evF hg ?_
            intro E L u w9 E1 E0 EC EF hl hw hI
            subst eo
            have a9 := (E0 9 (by kernel_rfl)).trans (show _ = Value.int .i64 (k : Int) from rfl)
            refine gives_ok (v := .int .i64 (k : Int)) (w' := w9) (by simp [execOp, go_sem, a9]) ?_
            exact hI.ndet HOK rfl (Below.refl _ _)
          | 8, _ =>
            have eo := Option.some.inj ho
            have hg : o.guard = none := by rw [← eo]
            refine cstep_evF hg ?_
            intro E L u w9 E1 E0 EC EF hl hw hI
            subst eo
            have a83 := (E1 83 6 (by kernel_rfl) (by simp)).trans (hI.det 6 _ rfl (hw 6 (by decide) (by kernel_rfl)))
            have a84 := (E1 84 7 (by kernel_rfl) (by simp)).trans (hI.det 7 _ rfl (hw 7 (by decide) (by kernel_rfl)))
            refine gives_ok (v := .pointer (some ⟨b3, o3 + k * 3, none⟩)) (w' := w9) (by simp [execOp, go_sem, a83, a84, hkn]) ?_
            exact hI.ndet HOK rfl (Below.refl _ _)
          | 9, _ =>
            have eo := Option.some.inj ho
            have hg : o.guard = none := by rw [← eo]
            refine cstep_evF hg ?_
            intro E L u w9 E1 E0 EC EF hl hw hI
            subst eo
            have a85 := (E1 85 8 (by kernel_rfl) (by simp)).trans (hI.det 8 _ rfl (hw 8 (by decide) (by kernel_rfl)))
            refine gives_ok (v := .pointer (some ⟨b3, o3 + k * 3 + 1, none⟩)) (w' := w9) (by simp [execOp, go_sem, a85]) ?_
            exact hI.ndet HOK rfl (Below.refl _ _)
          | 10, _ =>
            have eo := Option.some.inj ho
            have hg : o.guard = none := by rw [← eo]
            refine cstep_evF hg ?_
            intro E L u w9 E1 E0 EC EF hl hw hI
            subst eo
            have a86 := (E1 86 9 (by kernel_rfl) (by simp)).trans (hI.det 9 _ rfl (hw 9 (by decide) (by kernel_rfl)))
            have g0 := (hI.bel.cell (p := ⟨b3, _, none⟩) z4).trans g0; have g1 := (hI.bel.cell (p := ⟨b3, _, none⟩) z4).trans g1; have g2 := (hI.bel.cell (p := ⟨b3, _, none⟩) z4).trans g2; have gz := Nat.lt_of_lt_of_le z4 hI.bel.size
            refine gives_ok (v := V vm vc) (w' := w9) (by simp [execOp, go_sem, a86, g1, g2]) ?_
            exact hI.ndet HOK rfl (Below.refl _ _)
          | 11, _ =>
            have eo := Option.some.inj ho
            have hg : o.guard = none := by rw [← eo]
            refine cstep_evF hg ?_
            intro E L u w9 E1 E0 EC EF hl hw hI
            subst eo
            have a82 := (E1 82 5 (by kernel_rfl) (by simp)).trans (hI.det 5 _ rfl (hw 5 (by decide) (by kernel_rfl)))
            have a87 := (E1 87 10 (by kernel_rfl) (by simp)).trans (hI.det 10 _ rfl (hw 10 (by decide) (by kernel_rfl)))
            refine gives_ok (v := .agg #[.int .i64 n, .int .i64 vm, .int .i64 vc]) (w' := w9) (by simp [execOp, go_sem, a82, a87]) ?_
            exact hI.ndet HOK rfl (Below.refl _ _)
          | 12, _ =>
            have eo := Option.some.inj ho
            have hg : o.guard = none := by rw [← eo]
            refine cstep_evF hg ?_
            intro E L u w9 E1 E0 EC EF hl hw hI
            subst eo
            have a6 := (E0 6 (by kernel_rfl)).trans (show _ = Value.slice (some ⟨b3, o3, none⟩) n3 c3 from rfl)
            refine gives_ok (v := .slice (some ⟨b3, o3, none⟩) n3 c3) (w' := w9) (by simp [execOp, go_sem, a6]) ?_
            exact hI.ndet HOK rfl (Below.refl _ _)
          | 13, _ =>
            have eo := Option.some.inj ho
            have hg : o.guard = none := by rw [← eo]
            refine cstep_evF hg ?_
            intro E L u w9 E1 E0 EC EF hl hw hI
            subst eo
            have a9 := (E0 9 (by kernel_rfl)).trans (show _ = Value.int .i64 (k : Int) from rfl)
            refine gives_ok (v := .int .i64 (k : Int)) (w' := w9) (by simp [execOp, go_sem, a9]) ?_
            exact hI.ndet HOK rfl (Below.refl _ _)
          | 14, _ =>
            have eo := Option.some.inj ho
            have hg : o.guard = none := by rw [← eo]
            refine cstep_evF hg ?_
            intro E L u w9 E1 E0 EC EF hl hw hI
            subst eo
            have a89 := (E1 89 12 (by kernel_rfl) (by simp)).trans (hI.det 12 _ rfl (hw 12 (by decide) (by kernel_rfl)))
            have a90 := (E1 90 13 (by kernel_rfl) (by simp)).trans (hI.det 13 _ rfl (hw 13 (by decide) (by kernel_rfl)))
            refine gives_ok (v := .pointer (some ⟨b3, o3 + k * 3, none⟩)) (w' := w9) (by simp [execOp, go_sem, a89, a90, hkn]) ?_
            exact hI.ndet HOK rfl (Below.refl _ _)
          | 15, _ =>
            have eo := Option.some.inj ho
            have hg : o.guard = none := by rw [← eo]
            refine cstep_evF hg ?_
            intro E L u w9 E1 E0 EC EF hl hw hI
            subst eo
            have a91 := (E1 91 14 (by kernel_rfl) (by simp)).trans (hI.det 14 _ rfl (hw 14 (by decide) (by kernel_rfl)))
            refine gives_ok (v := .pointer (some ⟨b3, o3 + k * 3, none⟩)) (w' := w9) (by simp [execOp, go_sem, a91]) ?_
            exact hI.ndet HOK rfl (Below.refl _ _)
          | 16, _ =>
            have eo := Option.some.inj ho
            have hg : o.guard = none := by rw [← eo]
            refine cstep_evF hg ?_
            intro E L u w9 E1 E0 EC EF hl hw hI
            subst eo
            have a92 := (E1 92 15 (by kernel_rfl) (by simp)).trans (hI.det 15 _ rfl (hw 15 (by decide) (by kernel_rfl)))
            have g0 := (hI.bel.cell (p := ⟨b3, _, none⟩) z4).trans g0; have g1 := (hI.bel.cell (p := ⟨b3, _, none⟩) z4).trans g1; have g2 := (hI.bel.cell (p := ⟨b3, _, none⟩) z4).trans g2; have gz := Nat.lt_of_lt_of_le z4 hI.bel.size
            refine gives_ok (v := .int .i64 d) (w' := w9) (by simp [execOp, go_sem, a92, g0]) ?_
            exact hI.ndet HOK rfl (Below.refl _ _)
          | 17, _ =>
            have eo := Option.some.inj ho
            have hg : o.guard = none := by rw [← eo]
            refine cstep_evF hg ?_
            intro E L u w9 E1 E0 EC EF hl hw hI
            subst eo
            have a10 := (E0 10 (by kernel_rfl)).trans (show _ = Value.int .i64 n from rfl)
            refine gives_ok (v := .int .i64 n) (w' := w9) (by simp [execOp, go_sem, a10]) ?_
            exact hI.ndet HOK rfl (Below.refl _ _)
          | 18, _ =>
            have eo := Option.some.inj ho
            have hg : o.guard = none := by rw [← eo]
            refine cstep_evF hg ?_
            intro E L u w9 E1 E0 EC EF hl hw hI
            subst eo
            have a93 := (E1 93 16 (by kernel_rfl) (by simp)).trans (hI.det 16 _ rfl (hw 16 (by decide) (by kernel_rfl)))
            have a94 := (E1 94 17 (by kernel_rfl) (by simp)).trans (hI.det 17 _ rfl (hw 17 (by decide) (by kernel_rfl)))
            refine gives_ok (v := .int .i64 (d - n)) (w' := w9) (by simp [execOp, go_sem, a93, a94, hwd]) ?_
            exact hI.ndet HOK rfl (Below.refl _ _)
          | 19, _ =>
            have eo := Option.some.inj ho
            have hg : o.guard = none := by rw [← eo]
            refine cstep_evF hg ?_
            intro E L u w9 E1 E0 EC EF hl hw hI
            subst eo
            have a6 := (E0 6 (by kernel_rfl)).trans (show _ = Value.slice (some ⟨b3, o3, none⟩) n3 c3 from rfl)
            refine gives_ok (v := .slice (some ⟨b3, o3, none⟩) n3 c3) (w' := w9) (by simp [execOp, go_sem, a6]) ?_
            exact hI.ndet HOK rfl (Below.refl _ _)
          | 20, _ =>
            have eo := Option.some.inj ho
            have hg : o.guard = none := by rw [← eo]
            refine cstep_evF hg ?_
            intro E L u w9 E1 E0 EC EF hl hw hI
            subst eo
            have a9 := (E0 9 (by kernel_rfl)).trans (show _ = Value.int .i64 (k : Int) from rfl)
            refine gives_ok (v := .int .i64 (k : Int)) (w' := w9) (by simp [execOp, go_sem, a9]) ?_
            exact hI.ndet HOK rfl (Below.refl _ _)
          | 21, _ =>
            have eo := Option.some.inj ho
            have hg : o.guard = none := by rw [← eo]
            refine cstep_evF hg ?_
            intro E L u w9 E1 E0 EC EF hl hw hI
            subst eo
            have a96 := (E1 96 19 (by kernel_rfl) (by simp)).trans (hI.det 19 _ rfl (hw 19 (by decide) (by kernel_rfl)))
            have a97 := (E1 97 20 (by kernel_rfl) (by simp)).trans (hI.det 20 _ rfl (hw 20 (by decide) (by kernel_rfl)))
            refine gives_ok (v := .pointer (some ⟨b3, o3 + k * 3, none⟩)) (w' := w9) (by simp [execOp, go_sem, a96, a97, hkn]) ?_
            exact hI.ndet HOK rfl (Below.refl _ _)
          | 22, _ =>
            have eo := Option.some.inj ho
            have hg : o.guard = none := by rw [← eo]
            refine cstep_evF hg ?_
            intro E L u w9 E1 E0 EC EF hl hw hI
            subst eo
            have a98 := (E1 98 21 (by kernel_rfl) (by simp)).trans (hI.det 21 _ rfl (hw 21 (by decide) (by kernel_rfl)))
            refine gives_ok (v := .pointer (some ⟨b3, o3 + k * 3 + 1, none⟩)) (w' := w9) (by simp [execOp, go_sem, a98]) ?_
            exact hI.ndet HOK rfl (Below.refl _ _)
          | 23, _ =>
            have eo := Option.some.inj ho
            have hg : o.guard = none := by rw [← eo]
            refine cstep_evF hg ?_
            intro E L u w9 E1 E0 EC EF hl hw hI
            subst eo
            have a99 := (E1 99 22 (by kernel_rfl) (by simp)).trans (hI.det 22 _ rfl (hw 22 (by decide) (by kernel_rfl)))
            have g0 := (hI.bel.cell (p := ⟨b3, _, none⟩) z4).trans g0; have g1 := (hI.bel.cell (p := ⟨b3, _, none⟩) z4).trans g1; have g2 := (hI.bel.cell (p := ⟨b3, _, none⟩) z4).trans g2; have gz := Nat.lt_of_lt_of_le z4 hI.bel.size
            refine gives_ok (v := V vm vc) (w' := w9) (by simp [execOp, go_sem, a99, g1, g2]) ?_
            exact hI.ndet HOK rfl (Below.refl _ _)
          | 24, _ =>
            have eo := Option.some.inj ho
            have hg : o.guard = none := by rw [← eo]
            refine cstep_evF hg ?_
            intro E L u w9 E1 E0 EC EF hl hw hI
            subst eo
            have a95 := (E1 95 18 (by kernel_rfl) (by simp)).trans (hI.det 18 _ rfl (hw 18 (by decide) (by kernel_rfl)))
            have a100 := (E1 100 23 (by kernel_rfl) (by simp)).trans (hI.det 23 _ rfl (hw 23 (by decide) (by kernel_rfl)))
            refine gives_ok (v := .agg #[.int .i64 (d - n), .int .i64 vm, .int .i64 vc]) (w' := w9) (by simp [execOp, go_sem, a95, a100]) ?_
            exact hI.ndet HOK rfl (Below.refl _ _)
          | 25, _ =>
            have eo := Option.some.inj ho
            have hg : o.guard = none := by rw [← eo]
            refine cstep_evF hg ?_
            intro E L u w9 E1 E0 EC EF hl hw hI
            subst eo
            have a88 := (E1 88 11 (by kernel_rfl) (by simp)).trans (hI.det 11 _ rfl (hw 11 (by decide) (by kernel_rfl)))
            have a101 := (E1 101 24 (by kernel_rfl) (by simp)).trans (hI.det 24 _ rfl (hw 24 (by decide) (by kernel_rfl)))
            refine gives_ok (v := .slice (some ⟨w9.heap.size, 0, none⟩) 2 2) (w' := w9.alloc (.cells #[.int .i64 n, .int .i64 vm, .int .i64 vc, .int .i64 (d - n), .int .i64 vm, .int .i64 vc] 38)) (by simp [execOp, go_sem, a88, a101]) ?_
            exact hI.nsrc (j := 2) HOK HINJ2 (srcV_new (ys := [.int .i64 n, .int .i64 vm, .int .i64 vc, .int .i64 (d - n), .int .i64 vm, .int .i64 vc]) (Blk.made _ _ _) rfl (by intro u hu; simp at hu; rcases hu with rfl | rfl | rfl | rfl | rfl | rfl <;> rfl)) (fun kk hk => by simp [Value.ownBlock] at hk; subst hk; simp) ((Below.refl _ w9).alloc (Nat.le_refl _) _)
          | 26, _ =>
            have eo := Option.some.inj ho
            have hg : o.guard = none := by rw [← eo]
            refine cstep_evF hg ?_
            intro E L u w9 E1 E0 EC EF hl hw hI
            subst eo
            have a81 := E1 81 4 (by kernel_rfl) (by simp)
            have a102 := E1 102 25 (by kernel_rfl) (by simp)
            have hpw := hw 4 (by decide) (by kernel_rfl)
            have hxw := hw 25 (by decide) (by kernel_rfl)
            refine gives_appC (.tmp 81) (.tmp 102) 25 rfl w4.heap.size 38 ix _ 3 24 Try.underlying25 IX.out IZ0.out IZ1.out IZ2.out rfl (by decide) _ _ (by rw [a81]; exact hI.row 1 (by decide) hpw (fun _ => hl)) 2 [.int .i64 n, .int .i64 vm, .int .i64 vc, .int .i64 (d - n), .int .i64 vm, .int .i64 vc] (by rw [a102]; exact (hI.src 2 (by decide) hxw hl).1) (by have := HK.out; simp; omega) (by omega) hI.bel.size ?_
            intro v' w' ho hg hat
            rw [a81] at hg hat
            exact hI.napp (i := 1) HOK (by decide) hl hpw ho hg hat
          | 27, _ =>
            have eo := Option.some.inj ho
            have hg : o.guard = none := by rw [← eo]
            refine cstep_evF hg ?_
            intro E L u w9 E1 E0 EC EF hl hw hI
            subst eo
            have a6 := (E0 6 (by kernel_rfl)).trans (show _ = Value.slice (some ⟨b3, o3, none⟩) n3 c3 from rfl)
            refine gives_ok (v := .slice (some ⟨b3, o3, none⟩) n3 c3) (w' := w9) (by simp [execOp, go_sem, a6]) ?_
            exact hI.ndet HOK rfl (Below.refl _ _)
          | 28, _ =>
            have eo := Option.some.inj ho
            have hg : o.guard = none := by rw [← eo]
            refine cstep_evF hg ?_
            intro E L u w9 E1 E0 EC EF hl hw hI
            subst eo
            have a9 := (E0 9 (by kernel_rfl)).trans (show _ = Value.int .i64 (k : Int) from rfl)
            refine gives_ok (v := .int .i64 (k : Int)) (w' := w9) (by simp [execOp, go_sem, a9]) ?_
            exact hI.ndet HOK rfl (Below.refl _ _)
          | 29, _ =>
            have eo := Option.some.inj ho
            have hg : o.guard = none := by rw [← eo]
            refine cstep_evF hg ?_
            intro E L u w9 E1 E0 EC EF hl hw hI
            subst eo
            have a105 := (E1 105 28 (by kernel_rfl) (by simp)).trans (hI.det 28 _ rfl (hw 28 (by decide) (by kernel_rfl)))
            refine gives_ok (v := .int .i64 ((k : Int) + 1)) (w' := w9) (by simp [execOp, go_sem, EC, a105, hwk]) ?_
            exact hI.ndet HOK rfl (Below.refl _ _)
          | 30, _ =>
            have eo := Option.some.inj ho
            have hg : o.guard = none := by rw [← eo]
            refine cstep_evF hg ?_
            intro E L u w9 E1 E0 EC EF hl hw hI
            subst eo
            have a104 := (E1 104 27 (by kernel_rfl) (by simp)).trans (hI.det 27 _ rfl (hw 27 (by decide) (by kernel_rfl)))
            have a106 := (E1 106 29 (by kernel_rfl) (by simp)).trans (hI.det 29 _ rfl (hw 29 (by decide) (by kernel_rfl)))
            refine gives_ok (v := .slice (some ad3) (n3 - (k + 1)) (c3 - (k + 1))) (w' := w9) (by simp [execOp, go_sem, a104, a106, hk0, hkI, had3]) ?_
            exact hI.ndet HOK rfl (Below.refl _ _)
          | 31, _ =>
            have eo := Option.some.inj ho
            have hg : o.guard = none := by rw [← eo]
            refine cstep_evF hg ?_
            intro E L u w9 E1 E0 EC EF hl hw hI
            subst eo
            have a103 := E1 103 26 (by kernel_rfl) (by simp)
            have a107 := (E1 107 30 (by kernel_rfl) (by simp)).trans (hI.det 30 _ rfl (hw 30 (by decide) (by kernel_rfl)))
            have hpw := hw 26 (by decide) (by kernel_rfl)
            refine gives_appC (.tmp 103) (.tmp 107) 25 rfl w4.heap.size 38 ix _ 3 24 Try.underlying25 IX.out IZ0.out IZ1.out IZ2.out rfl (by decide) _ _ (by rw [a103]; exact hI.row 2 (by decide) hpw (fun _ => hl)) (n3 - (k + 1)) (cellsOfS (l.drop (k + 1))) (by rw [a107]; exact SRC3.out w9 hI.bel) (by have := HK.out; simp; omega) (by omega) hI.bel.size ?_
            intro v' w' ho hg hat
            rw [a103] at hg hat
            exact hI.napp (i := 2) HOK (by decide) hl hpw ho hg hat
          | i + 32, h => exact absurd h (by omega)
        · intro L u w9 hall hI
          have e1 : u 1 = .slice (some ⟨b3, o3, none⟩) n3 c3 := hI.det 1 _ rfl (hall 1 (by decide))
          have e2 : u 2 = .int .i64 (k : Int) := hI.det 2 _ rfl (hall 2 (by decide))
          have e3 : u 3 = .slice (some ⟨b3, o3, none⟩) k c3 := hI.det 3 _ rfl (hall 3 (by decide))
          have e5 : u 5 = .int .i64 n := hI.det 5 _ rfl (hall 5 (by decide))
          have e6 : u 6 = .slice (some ⟨b3, o3, none⟩) n3 c3 := hI.det 6 _ rfl (hall 6 (by decide))
          have e7 : u 7 = .int .i64 (k : Int) := hI.det 7 _ rfl (hall 7 (by decide))
          have e8 : u 8 = .pointer (some ⟨b3, o3 + k * 3, none⟩) := hI.det 8 _ rfl (hall 8 (by decide))
          have e9 : u 9 = .pointer (some ⟨b3, o3 + k * 3 + 1, none⟩) := hI.det 9 _ rfl (hall 9 (by decide))
          have e10 : u 10 = V vm vc := hI.det 10 _ rfl (hall 10 (by decide))
          have e11 : u 11 = .agg #[.int .i64 n, .int .i64 vm, .int .i64 vc] := hI.det 11 _ rfl (hall 11 (by decide))
          have e12 : u 12 = .slice (some ⟨b3, o3, none⟩) n3 c3 := hI.det 12 _ rfl (hall 12 (by decide))
          have e13 : u 13 = .int .i64 (k : Int) := hI.det 13 _ rfl (hall 13 (by decide))
          have e14 : u 14 = .pointer (some ⟨b3, o3 + k * 3, none⟩) := hI.det 14 _ rfl (hall 14 (by decide))
          have e15 : u 15 = .pointer (some ⟨b3, o3 + k * 3, none⟩) := hI.det 15 _ rfl (hall 15 (by decide))
          have e16 : u 16 = .int .i64 d := hI.det 16 _ rfl (hall 16 (by decide))
          have e17 : u 17 = .int .i64 n := hI.det 17 _ rfl (hall 17 (by decide))
          have e18 : u 18 = .int .i64 (d - n) := hI.det 18 _ rfl (hall 18 (by decide))
          have e19 : u 19 = .slice (some ⟨b3, o3, none⟩) n3 c3 := hI.det 19 _ rfl (hall 19 (by decide))
          have e20 : u 20 = .int .i64 (k : Int) := hI.det 20 _ rfl (hall 20 (by decide))
          have e21 : u 21 = .pointer (some ⟨b3, o3 + k * 3, none⟩) := hI.det 21 _ rfl (hall 21 (by decide))
          have e22 : u 22 = .pointer (some ⟨b3, o3 + k * 3 + 1, none⟩) := hI.det 22 _ rfl (hall 22 (by decide))
          have e23 : u 23 = V vm vc := hI.det 23 _ rfl (hall 23 (by decide))
          have e24 : u 24 = .agg #[.int .i64 (d - n), .int .i64 vm, .int .i64 vc] := hI.det 24 _ rfl (hall 24 (by decide))
          have e27 : u 27 = .slice (some ⟨b3, o3, none⟩) n3 c3 := hI.det 27 _ rfl (hall 27 (by decide))
          have e28 : u 28 = .int .i64 (k : Int) := hI.det 28 _ rfl (hall 28 (by decide))
          have e29 : u 29 = .int .i64 ((k : Int) + 1) := hI.det 29 _ rfl (hall 29 (by decide))
          have e30 : u 30 = .slice (some ad3) (n3 - (k + 1)) (c3 - (k + 1)) := hI.det 30 _ rfl (hall 30 (by decide))
          obtain ⟨aT, cT, e31⟩ : ∃ aT cT, u 31 = .slice aT (0 + k + 2 + (n3 - (k + 1))) cT := own_sli (hI.row 3 (by decide) (hall 31 (by decide)) (fun h => absurd h (by decide)))
          have hrow := hI.row 3 (by decide) (hall 31 (by decide)) (fun h => absurd h (by decide))
          rw [show u ((fun i => [0, 4, 26, 31].getD i 900) 3) = u 31 from rfl, e31] at hrow
          have hlen : 0 + k + 2 + (n3 - (k + 1)) = (cutL2 l k n).length := by rw [cut_len (by have := HLL.out; omega)]; have := HLL.out; omega
          rw [hlen] at e31
          have SX := hidE (show SliS w9 (.slice aT (cutL2 l k n).length cT) (cutL2 l k n) from sliS_own (by
            have ec : [] ++ cellsOfS (l.take k) ++ [.int .i64 n, .int .i64 vm, .int .i64 vc, .int .i64 (d - n), .int .i64 vm, .int .i64 vc] ++ cellsOfS (l.drop (k + 1)) = cellsOfS (cutL2 l k n) := by rw [HCL.out n, cellsOfS_app, cellsOfS_app]; simp [cellsOfS]
            rw [← hlen, ← ec]; exact hrow))
          have hlen2 : (cutL2 l k n).length ≤ 15 := by have := HLL.out; have := HK.out; omega
          have hbX := hI.bel
          simp only [frm, List.take, Act.put, e1, e2, e3, e5, e6, e7, e8, e9, e10, e11, e12, e13, e14, e15, e16, e17, e18, e19, e20, e21, e22, e23, e24, e27, e28, e29, e30, e31]
          have HI := hidE (HI.out.past hbX); have SA := hidE (SA.out.past hbX)
          have HCX := hidE (show begS F a b (cutL2 l k n) = (LA, 0) from by rw [HCS.out n hnd.1 hnd.2, ← HA.out])
          clear hI hall hrow hlen e1 e2 e3 e5 e6 e7 e8 e9 e10 e11 e12 e13 e14 e15 e16 e17 e18 e19 e20 e21 e22 e23 e24 e27 e28 e29 e30 e31 HOK HINJ2 hbX SRC1 SRC3 hcells HCL HCS hwd hwk g0 g1 g2 z4
          generalize u 0 = z0 at *; generalize u 4 = z4 at *; generalize u 25 = z25 at *; generalize u 26 = z26 at *
          obtain ⟨lx, hlx⟩ : ∃ lx, lx = cutL2 l k n := ⟨_, rfl⟩
          rw [← hlx] at SX HCX hlen2 ⊢
          clear hlx
          have x0 := HI.out.win.cell 0; have x1 := HI.out.win.cell 1; have xz := HI.out.win.lt
          simp at x0 x1
          go_wp2_with fail
          ((with_reducible refine (begins_eq HI.out.s1 SX.out (by have := HK.out; omega) (by omega) ha hb HCX.out).mono ?_); rintro e wB ⟨aB, cB, rfl, hsB, hbB⟩)
          have HI := hidE (HI.out.past hbB); have SA := hidE (SA.out.past hbB)
          have SB := hidE (show SliVs wB (.slice aB LA.length cB) LA from hsB)
          clear hbB hsB x0 x1 xz SX HCX hlen2
          go_wp2_with fail
          ((with_reducible refine (rsameW_t SA.out SB.out).mono ?_); rintro e wC ⟨rfl, hbC⟩)
          have HI := hidE (HI.out.past hbC); have SA := hidE (SA.out.past hbC)
          clear hbC SB
          go_wp2_with fail
          ((with_reducible refine (slv_c _ _).mono ?_); rintro e wD ⟨rfl, hbD⟩)
          have HI := hidE (HI.out.past hbD); have SA := hidE (SA.out.past hbD)
          clear hbD
          go_upto_region 16 with fail
          obtain ⟨pN, hpN⟩ : ∃ pN, pN = wD.heap.size := ⟨_, rfl⟩
          obtain ⟨wE, hwE⟩ : ∃ wE, wE = wD.alloc (Obj.cells #[.int .i64 1, .int .i64 (-1125899906842624), .int .i64 (-1125899906842624)] 38) := ⟨_, rfl⟩
          have hbE : Below wD.heap.size wD wE := by rw [hwE]; exact (Below.refl _ _).alloc (Nat.le_refl _) _
          have HBN := hidE (show Blk wE pN #[.int .i64 1, .int .i64 (-1125899906842624), .int .i64 (-1125899906842624)] 38 by rw [hwE, hpN]; exact Blk.made _ _ _)
          rw [← hwE, ← hpN]
          have HI := hidE (HI.out.past hbE); have SA := hidE (SA.out.past hbE)
          clear hwE hpN hbE
          have SRCL := hidE (show ∀ w9, Below wE.heap.size wE w9 → SrcV w9 3 (.slice (some ⟨b3, o3, none⟩) n3 c3) n3 (cellsOfS l) from fun w9 hb9 => by
            obtain ⟨e, _, _, hA⟩ := sli_len (HI.out.s3.past hb9)
            exact srcV_leg e (fun h => by
              obtain ⟨b', o', e', _, hc⟩ := hA (by omega)
              cases e'
              exact hc))
          obtain ⟨hz1, hz2⟩ := none_less HE0.out (by have := HK.out; have := HLL.out; omega)
          obtain ⟨LC, hLC⟩ : ∃ LC, (begS F a b (noneL :: l)).1 = LC := ⟨_, rfl⟩
          have HN := hidE (show begS F a b (noneL :: l) = (LC, 0) from Prod.ext hLC (by rw [begS_err]; exact hz1))
          have HSUM := hidE (show sumW LC = sumW LA - firstW a LA by rw [← hLC, hz2, HA1.out])
          clear hz1 hz2 hLC
          have HOK : ChOk (fun i => ([some (.slice f1 n1 c1), some (V a b), some (.agg #[.int .i64 1, .int .i64 (-1125899906842624), .int .i64 (-1125899906842624)]), none, some (.slice (some ⟨b3, o3, none⟩) n3 c3), none] : List (Option Value)).getD i none) (fun i => [3, 5].getD i 900) (fun j => [901, 902].getD j 903) 1 := by
            refine ⟨fun i hi => ?_, fun j => ?_, fun i k hi hk e => ?_, fun i j hi e => ?_⟩
            · match i, hi with
              | 0, _ => rfl
              | 1, _ => rfl
            · match j with
              | 0 => rfl
              | 1 => rfl
              | j + 2 => rfl
            · match i, k, hi, hk with
              | 0, 0, _, _ => first | rfl | (simp at e)
              | 0, 1, _, _ => first | rfl | (simp at e)
              | 1, 0, _, _ => first | rfl | (simp at e)
              | 1, 1, _, _ => first | rfl | (simp at e)
            · match i, j, hi with
              | 0, 0, _ => simp at e
              | 0, 1, _ => simp at e
              | 0, j + 2, _ => simp at e
              | 1, 0, _ => simp at e
              | 1, 1, _ => simp at e
              | 1, j + 2, _ => simp at e
          refine wp_region_CK 11 6 (ChI 38 3 wE (fun i => ([some (.slice f1 n1 c1), some (V a b), some (.agg #[.int .i64 1, .int .i64 (-1125899906842624), .int .i64 (-1125899906842624)]), none, some (.slice (some ⟨b3, o3, none⟩) n3 c3), none] : List (Option Value)).getD i none) (fun i => [3, 5].getD i 900) (fun j => [901, 902].getD j 903) 1 (fun i => [1, 1 + n3].getD i 0) (fun j => [0, 0].getD j 0) (fun i => [[.int .i64 1, .int .i64 (-1125899906842624), .int .i64 (-1125899906842624)], [.int .i64 1, .int .i64 (-1125899906842624), .int .i64 (-1125899906842624)] ++ cellsOfS l].getD i []) (fun j => [[], []].getD j [])) (fun v w' => vsP LC 0 v w' ∧ Below wE.heap.size wE w') fsC (by kernel_rfl) (by decide) (by kernel_rfl) (by decide) (by kernel_rfl) (by kernel_rfl) (by kernel_rfl) (chI_start (Below.refl _ _).drew) ?_ ?_ ?_ ?_
          · intro i o hi ho
            match i, hi with
            | 0, _ =>
              have eo := Option.some.inj ho
              have hg : o.guard = none := by rw [← eo]
              refine cstep_evF hg ?_
              intro E L u w9 E1 E0 EC EF hl hw hI
              subst eo
              have a0 := (E0 0 (by kernel_rfl)).trans (show _ = Value.slice f1 n1 c1 from rfl)
              refine gives_ok (v := .slice f1 n1 c1) (w' := w9) (by simp [execOp, go_sem, a0]) ?_
              exact hI.ndet HOK rfl (Below.refl _ _)
            | 1, _ =>
              have eo := Option.some.inj ho
              have hg : o.guard = none := by rw [← eo]
              refine cstep_evF hg ?_
              intro E L u w9 E1 E0 EC EF hl hw hI
              subst eo
              have a5 := (E0 5 (by kernel_rfl)).trans (show _ = Value.pointer (some ⟨pW, 0, none⟩) from rfl)
              have hbx := (HI.out.win.below hI.bel HI.out.win.lt)
              have y0 := hbx.cell 0; have y1 := hbx.cell 1; have yz := hbx.lt
              simp at y0 y1
              refine gives_ok (v := V a b) (w' := w9) (by simp [execOp, go_sem, a5, y0, y1]) ?_
              exact hI.ndet HOK rfl (Below.refl _ _)
            | 2, _ =>
              have eo := Option.some.inj ho
              have hg : o.guard = none := by rw [← eo]
              refine cstep_evF hg ?_
              intro E L u w9 E1 E0 EC EF hl hw hI
              subst eo
              have a14 := (E0 14 (by kernel_rfl)).trans (show _ = Value.pointer (some ⟨pN, 0, none⟩) from rfl)
              have hbx := (HBN.out.below hI.bel HBN.out.lt)
              have y0 := hbx.cell 0; have y1 := hbx.cell 1; have y2 := hbx.cell 2; have yz := hbx.lt
              simp at y0 y1 y2
              refine gives_ok (v := .agg #[.int .i64 1, .int .i64 (-1125899906842624), .int .i64 (-1125899906842624)]) (w' := w9) (by simp [execOp, go_sem, a14, y0, y1, y2]) ?_
              exact hI.ndet HOK rfl (Below.refl _ _)
            | 3, _ =>
              have eo := Option.some.inj ho
              have hg : o.guard = none := by rw [← eo]
              refine cstep_evF hg ?_
              intro E L u w9 E1 E0 EC EF hl hw hI
              subst eo
              have a129 := (E1 129 2 (by kernel_rfl) (by simp)).trans (hI.det 2 _ rfl (hw 2 (by decide) (by kernel_rfl)))
              refine gives_ok (v := .slice (some ⟨w9.heap.size, 0, none⟩) 1 1) (w' := w9.alloc (.cells #[.int .i64 1, .int .i64 (-1125899906842624), .int .i64 (-1125899906842624)] 38)) (by simp [execOp, go_sem, a129]) ?_
              exact hI.nbase HOK hl (show World.ownsRow _ wE.heap.size 38 3 (.slice (some ⟨w9.heap.size, 0, none⟩) 1 1) 1 [.int .i64 1, .int .i64 (-1125899906842624), .int .i64 (-1125899906842624)] from World.ownsRow_lit (e := 38) (size := 3) (base := wE.heap.size) w9 #[.int .i64 1, .int .i64 (-1125899906842624), .int .i64 (-1125899906842624)] 1 hI.bel.size (by unfold maxLen; omega) rfl) ((Below.refl _ w9).alloc (Nat.le_refl _) _) (fun b hb => by simp [Value.ownBlock] at hb; omega)
            | 4, _ =>
              have eo := Option.some.inj ho
              have hg : o.guard = none := by rw [← eo]
              refine cstep_evF hg ?_
              intro E L u w9 E1 E0 EC EF hl hw hI
              subst eo
              have a6 := (E0 6 (by kernel_rfl)).trans (show _ = Value.slice (some ⟨b3, o3, none⟩) n3 c3 from rfl)
              refine gives_ok (v := .slice (some ⟨b3, o3, none⟩) n3 c3) (w' := w9) (by simp [execOp, go_sem, a6]) ?_
              exact hI.ndet HOK rfl (Below.refl _ _)
            | 5, _ =>
              have eo := Option.some.inj ho
              have hg : o.guard = none := by rw [← eo]
              refine cstep_evF hg ?_
              intro E L u w9 E1 E0 EC EF hl hw hI
              subst eo
              have a130 := E1 130 3 (by kernel_rfl) (by simp)
              have a131 := (E1 131 4 (by kernel_rfl) (by simp)).trans (hI.det 4 _ rfl (hw 4 (by decide) (by kernel_rfl)))
              have hpw := hw 3 (by decide) (by kernel_rfl)
              refine gives_appC (.tmp 130) (.tmp 131) 25 rfl wE.heap.size 38 ix _ 3 24 Try.underlying25 IX.out IZ0.out IZ1.out IZ2.out rfl (by decide) _ _ (by rw [a130]; exact hI.row 0 (by decide) hpw (fun _ => hl)) n3 (cellsOfS l) (by rw [a131]; exact SRCL.out w9 hI.bel) (by have := HK.out; simp; omega) (by omega) hI.bel.size ?_
              intro v' w' ho hg hat
              rw [a130] at hg hat
              exact hI.napp (i := 0) HOK (by decide) hl hpw ho hg hat
            | i + 6, h => exact absurd h (by omega)
          · intro o ho
            have eo := Option.some.inj ho
            refine ⟨by rw [← eo], ?_⟩
            intro E L u w9 E1 E0 EC EF hall hI
            subst eo
            have a127 := (E1 127 0 (by kernel_rfl) (by simp)).trans (hI.det 0 _ rfl (hall 0 (by decide)))
            have a128 := (E1 128 1 (by kernel_rfl) (by simp)).trans (hI.det 1 _ rfl (hall 1 (by decide)))
            have a132 := E1 132 5 (by kernel_rfl) (by simp)
            have hrow := hI.row 1 (by decide) (hall 5 (by decide)) (fun h => absurd h (by decide))
            obtain ⟨a7, c7, e5⟩ := own_sli hrow
            change u 5 = .slice a7 (1 + n3) c7 at e5
            rw [show u ((fun i => [3, 5].getD i 900) 1) = u 5 from rfl, e5] at hrow
            have hlen : 1 + n3 = (noneL :: l).length := by have := HLL.out; simp; omega
            have hsl : SliS w9 (.slice a7 (noneL :: l).length c7) (noneL :: l) := sliS_own (by rw [← hlen]; exact hrow)
            rw [e5, hlen] at a132
            have hfi := HI.out.past hI.bel
            have hl15 : (noneL :: l).length ≤ 15 := by have := HK.out; rw [← hlen]; omega
            generalize noneL :: l = ln at *
            refine gives_call (f := 8) (args := #[.slice f1 n1 c1, V a b, .slice a7 ln.length c7]) (w' := w9) (by simp [execOp, go_sem, EF, a127, a128, a132]) (begins_eq hfi.s1 hsl (by have := HK.out; omega) (by omega) ha hb HN.out) (fun e w2 q => ?_)
            obtain ⟨aC, cC, rfl, hsC, hbC⟩ := q
            exact ⟨_, rfl, ⟨aC, cC, rfl, hsC⟩, bstep hbC hI.bel⟩
          · intro i o hqi hin ho
            match i, hqi, hin with
            | 7, _, _ =>
              have eo := Option.some.inj ho
              refine ⟨by rw [← eo], ?_⟩
              intro E u w9 E1 E0 hf hP
              subst eo
              have a133 := E1 133 6 (by kernel_rfl) (by simp)
              simp [execOp, go_sem, gives, a133, fsC]
            | 8, _, _ =>
              have eo := Option.some.inj ho
              refine ⟨by rw [← eo], ?_⟩
              intro E u w9 E1 E0 hf hP
              subst eo
              obtain ⟨⟨a, c, e6, _⟩, _⟩ := hP
              have a126 := (E1 126 7 (by kernel_rfl) (by simp)).trans ((hf 7 (by decide) (by kernel_rfl)).trans e6)
              simp [execOp, go_sem, gives, a126, fsC, tupC, e6]
            | 9, _, _ =>
              have eo := Option.some.inj ho
              refine ⟨by rw [← eo], ?_⟩
              intro E u w9 E1 E0 hf hP
              subst eo
              obtain ⟨⟨a, c, e6, _⟩, _⟩ := hP
              have a126 := (E1 126 7 (by kernel_rfl) (by simp)).trans ((hf 7 (by decide) (by kernel_rfl)).trans e6)
              simp [execOp, go_sem, gives, a126, fsC, tupC, e6]
            | 10, _, _ =>
              have eo := Option.some.inj ho
              refine ⟨by rw [← eo], ?_⟩
              intro E u w9 E1 E0 hf hP
              subst eo
              obtain ⟨⟨a, c, e6, _⟩, _⟩ := hP
              have a134 := (E1 134 8 (by kernel_rfl) (by simp)).trans (hf 8 (by decide) (by kernel_rfl))
              simp [execOp, go_sem, gives, a134, fsC, tupC, e6]
            | i + 11, _, h => exact absurd h (by omega)
          · intro u w9 hu hP
            obtain ⟨⟨aC, cC, e6, hsC⟩, hbC⟩ := hP
            have e8 : u 8 = .slice aC LC.length cC := by rw [hu 8 (by decide) (by decide), e6]; rfl
            have e9 : u 9 = .int .i64 0 := by rw [hu 9 (by decide) (by decide), e6]; rfl
            have e10 : u 10 = .slice aC LC.length cC := by rw [hu 10 (by decide) (by decide), e6]; rfl
            simp only [frm, List.take, Act.put, e8, e9, e10]
            generalize u 0 = q0 at *; generalize u 1 = q1 at *; generalize u 2 = q2 at *; generalize u 3 = q3 at *; generalize u 4 = q4 at *; generalize u 5 = q5 at *; generalize u 6 = q6 at *; generalize u 7 = q7 at *
            clear hu e6 e8 e9 e10 HOK
            have HI := hidE (HI.out.past hbC); have SA := hidE (SA.out.past hbC); have SC := hidE (show SliVs w9 (.slice aC LC.length cC) LC from hsC)
            clear hbC hsC SRCL HBN IX IZ0 IZ1 IZ2
            have HLA := hidE (show LA.length ≤ 4096 from by have := begS_len (F := F) (l := l) (a := a) (b := b); rw [← HA.out] at this; have h2 : (LA.length : Int) ≤ 4096 := this; omega)
            have HLC := hidE (show LC.length ≤ 4096 from by have := begS_len (F := F) (l := noneL :: l) (a := a) (b := b); rw [HN.out] at this; have h2 : (LC.length : Int) ≤ 4096 := this; omega)
            have HWA := hidE (begS_cwL HA.out.symm); have HWC := hidE (begS_cwL HN.out)
            have hz := slotE_zero HE0.out
            have hab : (-1099511627776 ≤ a ∧ a < b) ∧ b ≤ 1099511627776 := by have := hz.2.2.1; have := hz.2.2.2.1; omega
            clear hz
            have SA := hidE (sliVs_len SA.out).2.2.2; have SC := hidE (sliVs_len SC.out).2.2.2
            obtain ⟨N, hN⟩ : ∃ N, N = LA.length := ⟨_, rfl⟩
            obtain ⟨M, hM⟩ : ∃ M, M = LC.length := ⟨_, rfl⟩
            have hN4 : N ≤ 4096 := by have := HLA.out; omega
            have hM4 : M ≤ 4096 := by have := HLC.out; omega
            have HNN := hidE hN; have HMM := hidE hM
            rw [← hN, ← hM]
            clear hN hM HLA HLC
            go_wp2
            go_loopg [17, 18] N (fun g vs vi wr => ∃ i : Nat, N - i ≤ g ∧ i ≤ N ∧ vs = .int .i64 (sumW (LA.take i)) ∧ vi = .int .i64 i ∧ Below w9.heap.size w9 wr)
            case atStart => exact ⟨0, Nat.le_refl _, Nat.zero_le _, rfl, rfl, Below.refl _ _⟩
            case round =>
              obtain ⟨i, hgh, hi, rfl, rfl, hbw⟩ := hrel
              have HGH := hidE hgh; have HBW := hidE hbw
              clear hgh
              by_cases hlt : i < N
              · have d1 : decide ((i : Int) < (N : Int)) = true := decide_eq_true (by omega)
                have d1' : decide (i < N) = true := decide_eq_true hlt
                have hiL : i < LA.length := by have := HNN.out; omega
                obtain ⟨b1, o1, rfl, z1, hc⟩ := SA.out (by omega)
                obtain ⟨f0, f1'⟩ := hc i hiL
                rw [← hbw.cell (p := ⟨b1, _, none⟩) z1] at f0 f1'
                have z2 : b1 < wr.heap.size := Nat.lt_of_lt_of_le z1 hbw.size
                have hs := sumW_take HWA.out.1 (show a ≤ b by omega) HWA.out.2 i
                have HST := hidE (sumW_step hiL)
                have hin := HWA.out.2 (LA.getD i (0, 0)) (getD_in hiL)
                have hin2 := HWA.out.1.1 (LA.getD i (0, 0)) (getD_in hiL)
                generalize LA.getD i (0, 0) = y at *
                generalize sumW (LA.take i) = sm at *
                obtain ⟨y0, y1⟩ := y
                have hin : a ≤ y0 ∧ y1 ≤ b := hin
                have hin2 : y0 < y1 := hin2
                simp only at f0 f1'
                have q1 : IntKind.i64.wrap (sm + y1) = sm + y1 := IntWalk.i64_in _ (by omega)
                have q2 : IntKind.i64.wrap (sm + y1 - y0) = sm + y1 - y0 := IntWalk.i64_in _ (by omega)
                clear hc hbw hin hin2 hs
                by_cases hi0 : i = 0
                · subst hi0
                  simp only [Nat.zero_mul, Nat.add_zero] at f0 f1'
                  have hN1 : (0 : Int) < (N : Int) := by omega
                  go_wp2_with fail
                  go_quiet (fail)
                  go_wp2
                  go_roundg (N - 1)
                  case measure => have := HGH.out; omega
                  case rel => exact ⟨1, Nat.le_refl _, by omega, by rw [HST.out], by first | rfl | go_num, by first | exact HBW.out | exact HBW.out.drew | exact below_drewN HBW.out _⟩
                · have hi1 : 0 < i := by omega
                  go_wp2_with fail
                  go_quiet (fail)
                  go_wp2
                  go_roundg (N - (i + 1))
                  case measure => have := HGH.out; omega
                  case rel => exact ⟨i + 1, Nat.le_refl _, by omega, by rw [HST.out], by first | rfl | go_num, by first | exact HBW.out | exact HBW.out.drew | exact below_drewN HBW.out _⟩
              · have d1 : decide ((i : Int) < (N : Int)) = false := decide_eq_false (by omega)
                have d1' : decide (i < N) = false := decide_eq_false hlt
                have hiN : LA.take i = LA := List.take_of_length_le (by have := HNN.out; omega)
                rw [hiN]
                have hi2 : N = i := by omega
                clear hiN hlt hi HGH
                subst hi2
                obtain ⟨w7, hw7⟩ : ∃ z : World, z = wr := ⟨_, rfl⟩
                subst hw7
                have HI := hidE (HI.out.past HBW.out); have SA := hidE (SA.out.past HBW.out); have SC := hidE (SC.out.past HBW.out)
                clear HBW hbw d1 d1'
                go_wp2
                go_loopg [19, 20] M (fun g vs vi wr => ∃ i : Nat, M - i ≤ g ∧ i ≤ M ∧ vs = .int .i64 (sumW (LC.take i)) ∧ vi = .int .i64 i ∧ Below w7.heap.size w7 wr)
                case atStart => exact ⟨0, Nat.le_refl _, Nat.zero_le _, rfl, rfl, Below.refl _ _⟩
                case round =>
                  obtain ⟨i, hgh, hi, rfl, rfl, hbw⟩ := hrel
                  have HGH := hidE hgh; have HBW := hidE hbw
                  clear hgh
                  by_cases hlt : i < M
                  · have d1 : decide ((i : Int) < (M : Int)) = true := decide_eq_true (by omega)
                    have d1' : decide (i < M) = true := decide_eq_true hlt
                    have hiL : i < LC.length := by have := HMM.out; omega
                    obtain ⟨b1, o1, rfl, z1, hc⟩ := SC.out (by omega)
                    obtain ⟨f0, f1'⟩ := hc i hiL
                    rw [← hbw.cell (p := ⟨b1, _, none⟩) z1] at f0 f1'
                    have z2 : b1 < wr.heap.size := Nat.lt_of_lt_of_le z1 hbw.size
                    have hs := sumW_take HWC.out.1 (show a ≤ b by omega) HWC.out.2 i
                    have HST := hidE (sumW_step hiL)
                    have hin := HWC.out.2 (LC.getD i (0, 0)) (getD_in hiL)
                    have hin2 := HWC.out.1.1 (LC.getD i (0, 0)) (getD_in hiL)
                    generalize LC.getD i (0, 0) = y at *
                    generalize sumW (LC.take i) = sm at *
                    obtain ⟨y0, y1⟩ := y
                    have hin : a ≤ y0 ∧ y1 ≤ b := hin
                    have hin2 : y0 < y1 := hin2
                    simp only at f0 f1'
                    have q1 : IntKind.i64.wrap (sm + y1) = sm + y1 := IntWalk.i64_in _ (by omega)
                    have q2 : IntKind.i64.wrap (sm + y1 - y0) = sm + y1 - y0 := IntWalk.i64_in _ (by omega)
                    clear hc hbw hin hin2 hs
                    by_cases hi0 : i = 0
                    · subst hi0
                      simp only [Nat.zero_mul, Nat.add_zero] at f0 f1'
                      have hN1 : (0 : Int) < (M : Int) := by omega
                      go_wp2_with fail
                      go_quiet (fail)
                      go_wp2
                      go_roundg (M - 1)
                      case measure => have := HGH.out; omega
                      case rel => exact ⟨1, Nat.le_refl _, by omega, by rw [HST.out], by first | rfl | go_num, by first | exact HBW.out | exact HBW.out.drew | exact below_drewN HBW.out _⟩
                    · have hi1 : 0 < i := by omega
                      go_wp2_with fail
                      go_quiet (fail)
                      go_wp2
                      go_roundg (M - (i + 1))
                      case measure => have := HGH.out; omega
                      case rel => exact ⟨i + 1, Nat.le_refl _, by omega, by rw [HST.out], by first | rfl | go_num, by first | exact HBW.out | exact HBW.out.drew | exact below_drewN HBW.out _⟩
                  · have d1 : decide ((i : Int) < (M : Int)) = false := decide_eq_false (by omega)
                    have d1' : decide (i < M) = false := decide_eq_false hlt
                    have hiN : LC.take i = LC := List.take_of_length_le (by have := HMM.out; omega)
                    rw [hiN]
                    have hi2 : M = i := by omega
                    clear hiN hlt hi HGH
                    subst hi2
                    obtain ⟨w8, hw8⟩ : ∃ z : World, z = wr := ⟨_, rfl⟩
                    subst hw8
                    have HI := hidE (HI.out.past HBW.out); have SA := hidE (SA.out.past HBW.out)
                    clear HBW hbw d1 d1'
                    have x0 := HI.out.win.cell 0; have x1 := HI.out.win.cell 1; have xz := HI.out.win.lt
                    simp at x0 x1
                    have hsA := sumW_take HWA.out.1 (show a ≤ b by omega) HWA.out.2 LA.length
                    rw [List.take_length] at hsA
                    have HS := HSUM.out
                    by_cases hN0 : 0 < N
                    · have g1 : decide ((0 : Int) < (N : Int)) = true := decide_eq_true (by omega)
                      have g1' : decide (0 < N) = true := decide_eq_true hN0
                      have hNI : (0 : Int) < (N : Int) := by omega
                      obtain ⟨b1, o1, rfl, z1, hc⟩ := SA.out (by have := HNN.out; omega)
                      obtain ⟨f0, f1'⟩ := hc 0 (by have := HNN.out; omega)
                      have HF := firstW_at (a := a) (L := LA) (by have := HNN.out; omega)
                      generalize LA.getD 0 (0, 0) = y at *
                      obtain ⟨y0, y1⟩ := y
                      simp only [Nat.zero_mul, Nat.add_zero] at f0 f1'
                      simp only at HF
                      clear hc
                      by_cases hy : y0 = a
                      · have y2 : (y0 == a) = true := beq_iff_eq.2 hy
                        rw [if_pos hy] at HF
                        rw [HF] at HS
                        generalize sumW LA = sa at *
                        generalize sumW LC = sc at *
                        have q1 : IntKind.i64.wrap (sa - 1) = sa - 1 := IntWalk.i64_in _ (by omega)
                        have q2 : (sc == sa - 1) = true := beq_iff_eq.2 HS
                        clear HF hy hsA HS HSUM
                        go_wp2_with fail
                        go_quiet (fail)
                        go_wp2_with fail
                        ((with_reducible refine (HH.out _).mono ?_); rintro e wzp ⟨rfl, hbz⟩)
                        go_wp2
                        go_ret
                        first | exact ⟨rfl, bstep hbz HI.out.bel⟩ | exact ⟨rfl, bstep hbz (below_drewN HI.out.bel _)⟩
                      · have y2 : (y0 == a) = false := beq_eq_false_iff_ne.2 hy
                        rw [if_neg hy] at HF
                        rw [HF, Int.sub_zero] at HS
                        generalize sumW LA = sa at *
                        generalize sumW LC = sc at *
                        have q1 : IntKind.i64.wrap sa = sa := IntWalk.i64_in _ (by omega)
                        have q3 : sa - 0 = sa := by omega
                        have q2 : (sc == sa) = true := beq_iff_eq.2 HS
                        clear HF hy hsA HS HSUM
                        go_wp2_with fail
                        go_quiet (fail)
                        go_wp2_with fail
                        ((with_reducible refine (HH.out _).mono ?_); rintro e wzq ⟨rfl, hbz⟩)
                        go_wp2
                        go_ret
                        first | exact ⟨rfl, bstep hbz HI.out.bel⟩ | exact ⟨rfl, bstep hbz (below_drewN HI.out.bel _)⟩
                    · have g1 : decide ((0 : Int) < (N : Int)) = false := decide_eq_false (by omega)
                      have g1' : decide (0 < N) = false := decide_eq_false hN0
                      have HF := show firstW a LA = 0 by have : LA = [] := List.eq_nil_of_length_eq_zero (by have := HNN.out; omega); rw [this]; rfl
                      rw [HF, Int.sub_zero] at HS
                      generalize sumW LA = sa at *
                      generalize sumW LC = sc at *
                      have q1 : IntKind.i64.wrap sa = sa := IntWalk.i64_in _ (by omega)
                      have q3 : sa - 0 = sa := by omega
                      have q2 : (sc == sa) = true := beq_iff_eq.2 HS
                      clear HF hsA HS HSUM
                      go_wp2_with fail
                      go_quiet (fail)
                      go_wp2_with fail
                      ((with_reducible refine (HH.out _).mono ?_); rintro e wzr ⟨rfl, hbz⟩)
                      go_wp2
                      go_ret
                      first | exact ⟨rfl, bstep hbz HI.out.bel⟩ | exact ⟨rfl, bstep hbz (below_drewN HI.out.bel _)⟩
      · have e0 : (ea != 0) = true := bne_iff_ne.2 h0
        clear h0 HA
        go_wp2_with fail
        ((with_reducible refine (HH.out _).mono ?_); rintro e wzd ⟨rfl, hbz⟩)
        go_wp2
        go_ret
        exact ⟨rfl, bstep hbz HI.out.bel⟩
end
end Go.Proofs.Ytgflbidagdcfmaa
