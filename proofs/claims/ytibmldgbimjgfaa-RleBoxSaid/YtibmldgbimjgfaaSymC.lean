/- slices.symMergeCmpFunc, its general case, and the whole. No conditions but the row's size. -/
import Derived.Test.YtibmldgbimjgfaaSymB
import Derived.Deep.DeepCutAuto
namespace Go.Proofs.Ytibmldgbimjgfaa
open Go.ChangeShapes Go.WideShapes Go.ChangeAt Go.RowKit
attribute [local irreducible] Go.Calls

theorem sides_l {K : Nat → Int} {a s M : Nat} {d : Nat → Nat} (h1 : Srt K a s d) (h2 : Srt K s M d) (h3 : a ≤ s) (sM : s ≤ M) (h : s = a ∨ s = M) : Srt K a M d := by
  rcases h with h | h
  · subst h; exact h2
  · subst h; exact h1
theorem fin_c {K : Nat → Int} {a M b : Nat} {dd d2 d3 : Nat → Nat} (haM : a ≤ M) (hMb : M ≤ b) (m2 : Mv a M dd d2) (m3 : Mv M b d2 d3) (s2 : Srt K a M d2) (s3 : Srt K M b d3) (hx : ∀ x y, a ≤ x → x < M → M ≤ y → y < b → Lx K (dd x) (dd y)) : Mv a b dd d3 ∧ Srt K a b d3 :=
  ⟨(m2.mono (Nat.le_refl _) hMb).trans (m3.mono haM (Nat.le_refl _)), srt_join (s2.congr fun k h1 h2 => m3.out k (.inl h2)) s3 (cross_mv (cross_mv hx (.inl m2)) (.inr m3))⟩

/-- What is asked of the calls of itself on shorter stretches. -/
def SymIH (w0 : World) (blk n cap : Nat) (t : TypeId) (K : Nat → Int) (recv : Value) (N : Nat) : Prop :=
  ∀ (w : World) (a m b : Nat) (d : Nat → Nat), b - a ≤ N → RowW w0 blk n t d w → Inv K n d → Okd n d → a < m → m < b → b ≤ n → Srt K a m d → Srt K m b d →
    Calls Try.prog 44 #[.slice (some ⟨blk, 0, none⟩) n cap, .int .i64 a, .int .i64 m, .int .i64 b, .func (.func 28) #[recv] #[]] w (SrtTo w0 blk n t K a b d)

theorem SymIH.app {w0 : World} {blk n cap : Nat} {t : TypeId} {K : Nat → Int} {recv : Value} {N : Nat} (h : SymIH w0 blk n cap t K recv N) {w : World} {a m b : Nat} {d : Nat → Nat} (h1 : b - a ≤ N) (h2 : RowW w0 blk n t d w) (h3 : Inv K n d) (h4 : Okd n d) (h5 : a < m) (h6 : m < b) (h7 : b ≤ n) (h8 : Srt K a m d) (h9 : Srt K m b d) :
    Calls Try.prog 44 #[.slice (some ⟨blk, 0, none⟩) n cap, .int .i64 a, .int .i64 m, .int .i64 b, .func (.func 28) #[recv] #[]] w (SrtTo w0 blk n t K a b d) :=
  h w a m b d h1 h2 h3 h4 h5 h6 h7 h8 h9

/-- The search under way. -/
def Srch (K : Nat → Int) (d : Nat → Nat) (P s0 i j r0 : Nat) : Prop :=
  (∀ c, s0 ≤ c → c < i → ¬ K (d (P - c)) < K (d c)) ∧ (∀ c, j ≤ c → c < r0 → K (d (P - c)) < K (d c))
theorem Srch.start (K : Nat → Int) (d : Nat → Nat) (P s0 r0 : Nat) : Srch K d P s0 s0 r0 r0 := ⟨fun c h1 h2 => by omega, fun c h1 h2 => by omega⟩
theorem Srch.up {K : Nat → Int} {d : Nat → Nat} {P s0 i j r0 h a m b : Nat} (hS : Srch K d P s0 i j r0) (h1 : Srt K a m d) (h2 : Srt K m b d) (q0 : a ≤ s0) (q1 : h < m) (q2 : m ≤ P - h) (q3 : P - s0 < b) (q4 : s0 ≤ h) (hk : ¬ K (d (P - h)) < K (d h)) : Srch K d P s0 (h + 1) j r0 :=
  ⟨fun c g1 g2 => by
    have e1 := h1.le (k := c) (k' := h) (by omega) (by omega) q1
    have e2 := h2.le (k := P - h) (k' := P - c) q2 (by omega) (by omega)
    omega, hS.2⟩
theorem Srch.dn {K : Nat → Int} {d : Nat → Nat} {P s0 i j r0 h a m b : Nat} (hS : Srch K d P s0 i j r0) (h1 : Srt K a m d) (h2 : Srt K m b d) (q0 : a ≤ h) (q1 : r0 ≤ m) (q2 : m + r0 ≤ P + 1) (q3 : P - h < b) (hk : K (d (P - h)) < K (d h)) : Srch K d P s0 i h r0 :=
  ⟨hS.1, fun c g1 g2 => by
    have e1 := h1.le (k := h) (k' := c) q0 (by omega) (by omega)
    have e2 := h2.le (k := P - c) (k' := P - h) (by omega) (by omega) (by omega)
    omega⟩
theorem Srch.cut {K : Nat → Int} {d : Nat → Nat} {s0 i r0 a m b M : Nat} (hS : Srch K d (M + m - 1) s0 i i r0) (hM : (a + b) / 2 = M) (hs : s0 ≤ i) (hr : i ≤ r0) (am : a < m) (mb : m < b) (hc : (M < m ∧ s0 + b = M + m ∧ r0 = M) ∨ (m ≤ M ∧ s0 = a ∧ r0 = m)) : Cut K a m b i d := by
  obtain ⟨s1, s2⟩ := hS
  refine ⟨by omega, by omega, by omega, by omega, by omega, ?_, ?_⟩
  · intro h1 h2
    have := s1 (i - 1) (by omega) (by omega)
    rw [show (a + b) / 2 + m - i = M + m - 1 - (i - 1) by omega]
    exact this
  · intro h1 h2
    have := s2 i (by omega) (by omega)
    rw [show (a + b) / 2 + m - i - 1 = M + m - 1 - i by omega]
    exact this

set_option maxRecDepth 100000 in
set_option maxHeartbeats 16000000 in
theorem symMerge_mid (w0 w : World) (blk n cap a m b N M s0 r0 : Nat) (t : TypeId) (K : Nat → Int) (recv : Value) (d : Nat → Nat) (h : RowW w0 blk n t d w) (hC : Cmps w0 blk n recv K) (hI : Inv K n d) (hO : Okd n d) (ham : a + 1 < m) (hmb : m + 1 < b) (hb : b ≤ n) (hn : n ≤ 4611686018427387904)
    (hs1 : Srt K a m d) (hs2 : Srt K m b d) (ih : SymIH w0 blk n cap t K recv N) (hN : b - a ≤ N + 1) (hM : (a + b) / 2 = M) (hc : (M < m ∧ s0 + b = M + m ∧ r0 = M) ∨ (m ≤ M ∧ s0 = a ∧ r0 = m)) :
    Calls Try.prog 44 #[.slice (some ⟨blk, 0, none⟩) n cap, .int .i64 a, .int .i64 m, .int .i64 b, .func (.func 28) #[recv] #[]] w (SrtTo w0 blk n t K a b d) := by
  have H := hidE h; have HC := hidE hC; have HI := hidE hI; have HO := hidE hO; have HS1 := hidE hs1; have HS2 := hidE hs2; have IH := hidE ih
  have hMa : a < M := by omega
  have hMb : M < b := by omega
  have hM2 : 2 * M ≤ a + b := by omega
  have hM3 : a + b ≤ 2 * M + 1 := by omega
  have EM := hidE (show ((a : Int) + (b : Int)) / 2 = (M : Int) by omega)
  have HM := hidE hM
  have hP : ∃ P, P = M + m - 1 := ⟨_, rfl⟩
  obtain ⟨P, hP⟩ := hP
  have EP := hidE (show (M : Int) + (m : Int) - 1 = (P : Int) by omega)
  have HP := hidE hP
  have hPm : P + 1 = M + m := by omega
  have HPM := hidE hPm
  have b1 : P + 1 ≤ M + m := by omega
  have b2 : M + m ≤ P + 1 := by omega
  have hq1 : a ≤ s0 := by omega
  have hq2 : s0 ≤ r0 := by omega
  have hq3 : r0 ≤ m := by omega
  have hq4 : m + r0 ≤ P + 1 := by omega
  have hq5 : P < b + s0 := by omega
  have HCC := hidE hc
  clear h hC hI hO hs1 hs2 ih hM hP hPm
  have e0 : ((m : Int) - (a : Int) == 1) = false := beq_eq_false_iff_ne.2 (by omega)
  have e1 : ((b : Int) - (m : Int) == 1) = false := beq_eq_false_iff_ne.2 (by omega)
  rcases hc with hc | hc
  all_goals
    obtain ⟨hc1, hc2, hc3⟩ := hc
    have hct : ((M : Int) < (m : Int)) ∨ ¬ ((M : Int) < (m : Int)) := by omega
    have HC2 := hidE hc2; have HC3 := hidE hc3
    clear hc2 hc3 hct
    go_enter Try.func44, Try.ntmps44
    go_upto_region 25 with fail
    simp only [EM.out]
    go_upto_region 33 with fail
    simp only [EP.out]
    go_loopg [20, 21] b (fun g1 vi vj wr => ∃ (i j : Nat), vi = .int .i64 i ∧ vj = .int .i64 j ∧ s0 ≤ i ∧ i ≤ j ∧ j ≤ r0 ∧ j - i ≤ g1 ∧ RowW w0 blk n t d wr ∧ Srch K d P s0 i j r0)
    case atStart => exact ⟨s0, r0, by have := HC2.out; go_num, by have := HC3.out; go_num, by omega, by omega, by omega, by omega, H.out, Srch.start _ _ _ _ _⟩
    case round =>
      obtain ⟨i, j, rfl, rfl, hai, hij, hjb, hg1, hr, hlo⟩ := hrel
      have HR := hidE hr; have HL := hidE hlo
      clear hr hlo
      by_cases hlt : i < j
      · have hltz : (i : Int) < (j : Int) := by omega
        obtain ⟨h, eh⟩ : ∃ h : Nat, ((i : Int) + (j : Int)) / 2 = (h : Int) := ⟨(i + j) / 2, by omega⟩
        have hih : i ≤ h := by omega
        have hhj : h < j := by omega
        have EH := hidE eh; clear eh
        obtain ⟨q, hq⟩ : ∃ q, q = P - h := ⟨_, rfl⟩
        have eq1 : IntKind.i64.wrap ((P : Int) - (h : Int)) = (q : Int) := by rw [IntKind.wrap_i64]; omega
        have hok := HO.out
        have c1 := HR.out.cell (i := h) (by omega)
        have c2 := HR.out.cell (i := q) (by omega)
        have z := HR.out.lt
        have k1 := hok h (by omega)
        have k2 := hok q (by omega)
        have HCM := hidE (fun w hw => HC.out w hw (d q) (d h) k2 k1)
        have hqn : q < n := by omega
        clear hok
        go_wp2_with fail
        simp only [EH.out]
        have EQ1 := hidE eq1; clear eq1
        by_cases hkey : K (d q) < K (d h)
        · have hd := cmp_t hkey
          have HX := hidE (HL.out.dn HS1.out HS2.out (h := h) (by omega) hq3 hq4 (by omega) (by rw [← hq]; exact hkey))
          have HQ := hidE hq
          clear hkey hq
          generalize hx : d h = x at *
          generalize hy : d q = y at *
          have Hx := hidE hx; have Hy := hidE hy
          clear hx hy
          have eq1 := EQ1.out
          refine wp_region_past_lit (by kernel_rfl) (by kernel_rfl) ?_
          have hc := Past.cell (W := wr)
          repeat (go_big_quiet_step ((go_at_call 28; exact Past.call _ (HCM.out _ (HR.out.low.trans ((Past.prop _).mono (Nat.le_of_lt z)))))))
          refine wpQuiet_nil ?_
          rintro _ ⟨x', rfl⟩
          have hr2 := HR.out.past x'.2
          clear c1 c2 hc eq1
          generalize x'.1 = w2 at hr2 ⊢
          have HR2 := hidE hr2; clear hr2
          go_wp2
          go_roundg (h - i)
          case measure => omega
          case rel => exact ⟨i, h, rfl, rfl, hai, by omega, by omega, by omega, HR2.out, HX.out⟩
        · have hd := cmp_f hkey
          have HX := hidE (HL.out.up HS1.out HS2.out (h := h) hq1 (by omega) (by omega) (by omega) (by omega) (by rw [← hq]; exact hkey))
          have HQ := hidE hq
          clear hkey hq
          generalize hx : d h = x at *
          generalize hy : d q = y at *
          have Hx := hidE hx; have Hy := hidE hy
          clear hx hy
          have eq1 := EQ1.out
          refine wp_region_past_lit (by kernel_rfl) (by kernel_rfl) ?_
          have hc := Past.cell (W := wr)
          repeat (go_big_quiet_step ((go_at_call 28; exact Past.call _ (HCM.out _ (HR.out.low.trans ((Past.prop _).mono (Nat.le_of_lt z)))))))
          refine wpQuiet_nil ?_
          rintro _ ⟨x', rfl⟩
          have hr2 := HR.out.past x'.2
          clear c1 c2 hc eq1
          generalize x'.1 = w2 at hr2 ⊢
          have HR2 := hidE hr2; clear hr2
          go_wp2
          go_roundg (j - (h + 1))
          case measure => omega
          case rel => exact ⟨h + 1, j, by go_num, rfl, by omega, by omega, hjb, by omega, HR2.out, HX.out⟩
      · have : i = j := by omega
        subst this
        have hltz : ¬ (i : Int) < (i : Int) := by omega
        have hl := HL.out
        rw [HP.out] at hl
        have hcut := hl.cut HM.out hai hjb (by omega) (by omega) HCC.out
        have hcu := hcut.rotated HI.out hb HS1.out HS2.out
        have f1 := hcut.as; have f2 := hcut.sm; have f3 := hcut.smid; have f4 := hcut.me; have f5 := hcut.eb
        rw [HM.out] at hcu f3 f4 f5
        obtain ⟨E, hE⟩ : ∃ E, E = M + m - i := ⟨_, rfl⟩
        rw [← hE] at hcu f4 f5
        have EE := hidE (show (M : Int) + (m : Int) - (i : Int) = (E : Int) by omega)
        have hE1 : E + i ≤ M + m := by omega
        have hE2 : M + m ≤ E + i := by omega
        obtain ⟨u0, u1, u2, u3, u4, u5⟩ := hcu
        have hmv := Mv.rot d f2 f4
        have U0 := hidE u0; have U1 := hidE u1; have U2 := hidE u2; have U3 := hidE u3; have U4 := hidE u4; have U5 := hidE u5
        have UO := hidE (HO.out.mv hmv (by omega))
        have UM := hidE (hmv.mono f1 f5)
        clear u0 u1 u2 u3 u4 u5 hl hcut hE HL hmv
        go_upto_region 39 with fail
        simp only [EE.out]
        clear hltz

        by_cases hA : i < m
        · by_cases hB : m < E
          · by_cases hC : a < i
            · by_cases hD : E < b
              · have hE : i < M := by omega
                have hF : M < E := by omega
                have tA : ((i : Int) < (m : Int)) := by omega
                have tB : ((m : Int) < (E : Int)) := by omega
                have tC : ((a : Int) < (i : Int)) := by omega
                have tD : ((E : Int) < (b : Int)) := by omega
                have tE : ((i : Int) < (M : Int)) := by omega
                have tF : ((M : Int) < (E : Int)) := by omega
                go_wp2_with (go_at_call 45; ((with_reducible refine (rotate_c w0 _ blk n cap i m E t d _ HR.out hA hB (by omega) hn).mono ?_); rintro e w1 ⟨rfl, hr1⟩))
                clear HR
                have R1 := hidE hr1; clear hr1
                try go_wp2_with fail
                ((with_reducible refine (IH.out.app (a := a) (m := i) (b := M) (by omega) R1.out U0.out UO.out hC hE (by omega) U1.out U2.out).mono ?_); rintro e w2 ⟨rfl, d2, hr2, hm2, hi2, hs2⟩)
                have o2 := UO.out.mv hm2 (by omega)
                have R2 := hidE hr2; have M2 := hidE hm2; have I2 := hidE hi2; have S2 := hidE hs2; have O2 := hidE o2; clear hr2 hm2 hi2 hs2 o2
                go_wp2_with fail
                have x3 := U3.out.congr fun k (q1 : M ≤ k) (q2 : k < E) => M2.out.out k (.inr q1)
                have x4 := U4.out.congr fun k (q1 : E ≤ k) (q2 : k < b) => M2.out.out k (.inr (by omega))
                have X3 := hidE x3; have X4 := hidE x4; clear x3 x4
                ((with_reducible refine (IH.out.app (a := M) (m := E) (b := b) (by omega) R2.out I2.out O2.out hF hD hb X3.out X4.out).mono ?_); rintro e w3 ⟨rfl, d3, hr3, hm3, hi3, hs3⟩)
                have R3 := hidE hr3; have M3 := hidE hm3; have I3 := hidE hi3; have S3 := hidE hs3; clear hr3 hm3 hi3 hs3
                go_wp2
                all_goals go_end0
                all_goals obtain ⟨y1, y2⟩ := fin_c (Nat.le_of_lt hMa) (Nat.le_of_lt hMb) M2.out M3.out S2.out S3.out U5.out
                all_goals exact ⟨rfl, _, R3.out, UM.out.trans y1, I3.out, y2⟩
              · have hE : i < M := by omega
                have hF : M < E := by omega
                have tA : ((i : Int) < (m : Int)) := by omega
                have tB : ((m : Int) < (E : Int)) := by omega
                have tC : ((a : Int) < (i : Int)) := by omega
                have tD : ¬ ((E : Int) < (b : Int)) := by omega
                have tE : ((i : Int) < (M : Int)) := by omega
                have tF : ((M : Int) < (E : Int)) := by omega
                go_wp2_with (go_at_call 45; ((with_reducible refine (rotate_c w0 _ blk n cap i m E t d _ HR.out hA hB (by omega) hn).mono ?_); rintro e w1 ⟨rfl, hr1⟩))
                clear HR
                have R1 := hidE hr1; clear hr1
                try go_wp2_with fail
                ((with_reducible refine (IH.out.app (a := a) (m := i) (b := M) (by omega) R1.out U0.out UO.out hC hE (by omega) U1.out U2.out).mono ?_); rintro e w2 ⟨rfl, d2, hr2, hm2, hi2, hs2⟩)
                have o2 := UO.out.mv hm2 (by omega)
                have R2 := hidE hr2; have M2 := hidE hm2; have I2 := hidE hi2; have S2 := hidE hs2; have O2 := hidE o2; clear hr2 hm2 hi2 hs2 o2
                go_wp2
                all_goals go_end0
                all_goals obtain ⟨y1, y2⟩ := fin_c (Nat.le_of_lt hMa) (Nat.le_of_lt hMb) M2.out (Mv.refl _ _ _) S2.out (sides_l (U3.out.congr fun k (q1 : M ≤ k) (q2 : k < E) => M2.out.out k (.inr q1)) (U4.out.congr fun k (q1 : E ≤ k) (q2 : k < b) => M2.out.out k (.inr (by omega))) (by omega) f5 (by omega)) U5.out
                all_goals exact ⟨rfl, _, R2.out, UM.out.trans y1, I2.out, y2⟩
            · by_cases hD : E < b
              · have hE : i < M := by omega
                have hF : M < E := by omega
                have tA : ((i : Int) < (m : Int)) := by omega
                have tB : ((m : Int) < (E : Int)) := by omega
                have tC : ¬ ((a : Int) < (i : Int)) := by omega
                have tD : ((E : Int) < (b : Int)) := by omega
                have tE : ((i : Int) < (M : Int)) := by omega
                have tF : ((M : Int) < (E : Int)) := by omega
                go_wp2_with (go_at_call 45; ((with_reducible refine (rotate_c w0 _ blk n cap i m E t d _ HR.out hA hB (by omega) hn).mono ?_); rintro e w1 ⟨rfl, hr1⟩))
                clear HR
                have R1 := hidE hr1; clear hr1
                try go_wp2_with fail
                have x3 := U3.out; have x4 := U4.out
                have X3 := hidE x3; have X4 := hidE x4; clear x3 x4
                ((with_reducible refine (IH.out.app (a := M) (m := E) (b := b) (by omega) R1.out U0.out UO.out hF hD hb X3.out X4.out).mono ?_); rintro e w3 ⟨rfl, d3, hr3, hm3, hi3, hs3⟩)
                have R3 := hidE hr3; have M3 := hidE hm3; have I3 := hidE hi3; have S3 := hidE hs3; clear hr3 hm3 hi3 hs3
                go_wp2
                all_goals go_end0
                all_goals obtain ⟨y1, y2⟩ := fin_c (Nat.le_of_lt hMa) (Nat.le_of_lt hMb) (Mv.refl _ _ _) M3.out (sides_l U1.out U2.out f1 f3 (by omega)) S3.out U5.out
                all_goals exact ⟨rfl, _, R3.out, UM.out.trans y1, I3.out, y2⟩
              · have hE : i < M := by omega
                have hF : M < E := by omega
                have tA : ((i : Int) < (m : Int)) := by omega
                have tB : ((m : Int) < (E : Int)) := by omega
                have tC : ¬ ((a : Int) < (i : Int)) := by omega
                have tD : ¬ ((E : Int) < (b : Int)) := by omega
                have tE : ((i : Int) < (M : Int)) := by omega
                have tF : ((M : Int) < (E : Int)) := by omega
                go_wp2_with (go_at_call 45; ((with_reducible refine (rotate_c w0 _ blk n cap i m E t d _ HR.out hA hB (by omega) hn).mono ?_); rintro e w1 ⟨rfl, hr1⟩))
                clear HR
                have R1 := hidE hr1; clear hr1
                try go_wp2
                all_goals go_end0
                all_goals obtain ⟨y1, y2⟩ := fin_c (Nat.le_of_lt hMa) (Nat.le_of_lt hMb) (Mv.refl _ _ _) (Mv.refl _ _ _) (sides_l U1.out U2.out f1 f3 (by omega)) (sides_l U3.out U4.out (by omega) f5 (by omega)) U5.out
                all_goals exact ⟨rfl, _, R1.out, UM.out.trans y1, U0.out, y2⟩
          · by_cases hC : a < i
            · by_cases hD : E < b
              · have hF : M < E := by omega
                have tA : ((i : Int) < (m : Int)) := by omega
                have tB : ¬ ((m : Int) < (E : Int)) := by omega
                have tC : ((a : Int) < (i : Int)) := by omega
                have tD : ((E : Int) < (b : Int)) := by omega
                have tE : ¬ ((i : Int) < (M : Int)) := by omega
                have tF : ((M : Int) < (E : Int)) := by omega
                have hr1 := HR.out.ext (rot_none f2 f4 (by omega)).symm
                clear HR
                have R1 := hidE hr1; clear hr1
                go_wp2_with fail
                have x3 := U3.out; have x4 := U4.out
                have X3 := hidE x3; have X4 := hidE x4; clear x3 x4
                ((with_reducible refine (IH.out.app (a := M) (m := E) (b := b) (by omega) R1.out U0.out UO.out hF hD hb X3.out X4.out).mono ?_); rintro e w3 ⟨rfl, d3, hr3, hm3, hi3, hs3⟩)
                have R3 := hidE hr3; have M3 := hidE hm3; have I3 := hidE hi3; have S3 := hidE hs3; clear hr3 hm3 hi3 hs3
                go_wp2
                all_goals go_end0
                all_goals obtain ⟨y1, y2⟩ := fin_c (Nat.le_of_lt hMa) (Nat.le_of_lt hMb) (Mv.refl _ _ _) M3.out (sides_l U1.out U2.out f1 f3 (by omega)) S3.out U5.out
                all_goals exact ⟨rfl, _, R3.out, UM.out.trans y1, I3.out, y2⟩
              · have hF : M < E := by omega
                have tA : ((i : Int) < (m : Int)) := by omega
                have tB : ¬ ((m : Int) < (E : Int)) := by omega
                have tC : ((a : Int) < (i : Int)) := by omega
                have tD : ¬ ((E : Int) < (b : Int)) := by omega
                have tE : ¬ ((i : Int) < (M : Int)) := by omega
                have tF : ((M : Int) < (E : Int)) := by omega
                have hr1 := HR.out.ext (rot_none f2 f4 (by omega)).symm
                clear HR
                have R1 := hidE hr1; clear hr1
                go_wp2
                all_goals go_end0
                all_goals obtain ⟨y1, y2⟩ := fin_c (Nat.le_of_lt hMa) (Nat.le_of_lt hMb) (Mv.refl _ _ _) (Mv.refl _ _ _) (sides_l U1.out U2.out f1 f3 (by omega)) (sides_l U3.out U4.out (by omega) f5 (by omega)) U5.out
                all_goals exact ⟨rfl, _, R1.out, UM.out.trans y1, U0.out, y2⟩
            · by_cases hD : E < b
              · have hF : M < E := by omega
                have tA : ((i : Int) < (m : Int)) := by omega
                have tB : ¬ ((m : Int) < (E : Int)) := by omega
                have tC : ¬ ((a : Int) < (i : Int)) := by omega
                have tD : ((E : Int) < (b : Int)) := by omega
                have tE : ¬ ((i : Int) < (M : Int)) := by omega
                have tF : ((M : Int) < (E : Int)) := by omega
                have hr1 := HR.out.ext (rot_none f2 f4 (by omega)).symm
                clear HR
                have R1 := hidE hr1; clear hr1
                go_wp2_with fail
                have x3 := U3.out; have x4 := U4.out
                have X3 := hidE x3; have X4 := hidE x4; clear x3 x4
                ((with_reducible refine (IH.out.app (a := M) (m := E) (b := b) (by omega) R1.out U0.out UO.out hF hD hb X3.out X4.out).mono ?_); rintro e w3 ⟨rfl, d3, hr3, hm3, hi3, hs3⟩)
                have R3 := hidE hr3; have M3 := hidE hm3; have I3 := hidE hi3; have S3 := hidE hs3; clear hr3 hm3 hi3 hs3
                go_wp2
                all_goals go_end0
                all_goals obtain ⟨y1, y2⟩ := fin_c (Nat.le_of_lt hMa) (Nat.le_of_lt hMb) (Mv.refl _ _ _) M3.out (sides_l U1.out U2.out f1 f3 (by omega)) S3.out U5.out
                all_goals exact ⟨rfl, _, R3.out, UM.out.trans y1, I3.out, y2⟩
              · have hF : M < E := by omega
                have tA : ((i : Int) < (m : Int)) := by omega
                have tB : ¬ ((m : Int) < (E : Int)) := by omega
                have tC : ¬ ((a : Int) < (i : Int)) := by omega
                have tD : ¬ ((E : Int) < (b : Int)) := by omega
                have tE : ¬ ((i : Int) < (M : Int)) := by omega
                have tF : ((M : Int) < (E : Int)) := by omega
                have hr1 := HR.out.ext (rot_none f2 f4 (by omega)).symm
                clear HR
                have R1 := hidE hr1; clear hr1
                go_wp2
                all_goals go_end0
                all_goals obtain ⟨y1, y2⟩ := fin_c (Nat.le_of_lt hMa) (Nat.le_of_lt hMb) (Mv.refl _ _ _) (Mv.refl _ _ _) (sides_l U1.out U2.out f1 f3 (by omega)) (sides_l U3.out U4.out (by omega) f5 (by omega)) U5.out
                all_goals exact ⟨rfl, _, R1.out, UM.out.trans y1, U0.out, y2⟩
        · by_cases hB : m < E
          · by_cases hC : a < i
            · by_cases hD : E < b
              · have hE : i < M := by omega
                have tA : ¬ ((i : Int) < (m : Int)) := by omega
                have tB : ((m : Int) < (E : Int)) := by omega
                have tC : ((a : Int) < (i : Int)) := by omega
                have tD : ((E : Int) < (b : Int)) := by omega
                have tE : ((i : Int) < (M : Int)) := by omega
                have tF : ¬ ((M : Int) < (E : Int)) := by omega
                have hr1 := HR.out.ext (rot_none f2 f4 (by omega)).symm
                clear HR
                have R1 := hidE hr1; clear hr1
                go_wp2_with fail
                ((with_reducible refine (IH.out.app (a := a) (m := i) (b := M) (by omega) R1.out U0.out UO.out hC hE (by omega) U1.out U2.out).mono ?_); rintro e w2 ⟨rfl, d2, hr2, hm2, hi2, hs2⟩)
                have o2 := UO.out.mv hm2 (by omega)
                have R2 := hidE hr2; have M2 := hidE hm2; have I2 := hidE hi2; have S2 := hidE hs2; have O2 := hidE o2; clear hr2 hm2 hi2 hs2 o2
                go_wp2
                all_goals go_end0
                all_goals obtain ⟨y1, y2⟩ := fin_c (Nat.le_of_lt hMa) (Nat.le_of_lt hMb) M2.out (Mv.refl _ _ _) S2.out (sides_l (U3.out.congr fun k (q1 : M ≤ k) (q2 : k < E) => M2.out.out k (.inr q1)) (U4.out.congr fun k (q1 : E ≤ k) (q2 : k < b) => M2.out.out k (.inr (by omega))) (by omega) f5 (by omega)) U5.out
                all_goals exact ⟨rfl, _, R2.out, UM.out.trans y1, I2.out, y2⟩
              · have hE : i < M := by omega
                have tA : ¬ ((i : Int) < (m : Int)) := by omega
                have tB : ((m : Int) < (E : Int)) := by omega
                have tC : ((a : Int) < (i : Int)) := by omega
                have tD : ¬ ((E : Int) < (b : Int)) := by omega
                have tE : ((i : Int) < (M : Int)) := by omega
                have tF : ¬ ((M : Int) < (E : Int)) := by omega
                have hr1 := HR.out.ext (rot_none f2 f4 (by omega)).symm
                clear HR
                have R1 := hidE hr1; clear hr1
                go_wp2_with fail
                ((with_reducible refine (IH.out.app (a := a) (m := i) (b := M) (by omega) R1.out U0.out UO.out hC hE (by omega) U1.out U2.out).mono ?_); rintro e w2 ⟨rfl, d2, hr2, hm2, hi2, hs2⟩)
                have o2 := UO.out.mv hm2 (by omega)
                have R2 := hidE hr2; have M2 := hidE hm2; have I2 := hidE hi2; have S2 := hidE hs2; have O2 := hidE o2; clear hr2 hm2 hi2 hs2 o2
                go_wp2
                all_goals go_end0
                all_goals obtain ⟨y1, y2⟩ := fin_c (Nat.le_of_lt hMa) (Nat.le_of_lt hMb) M2.out (Mv.refl _ _ _) S2.out (sides_l (U3.out.congr fun k (q1 : M ≤ k) (q2 : k < E) => M2.out.out k (.inr q1)) (U4.out.congr fun k (q1 : E ≤ k) (q2 : k < b) => M2.out.out k (.inr (by omega))) (by omega) f5 (by omega)) U5.out
                all_goals exact ⟨rfl, _, R2.out, UM.out.trans y1, I2.out, y2⟩
            · by_cases hD : E < b
              · have hE : i < M := by omega
                have tA : ¬ ((i : Int) < (m : Int)) := by omega
                have tB : ((m : Int) < (E : Int)) := by omega
                have tC : ¬ ((a : Int) < (i : Int)) := by omega
                have tD : ((E : Int) < (b : Int)) := by omega
                have tE : ((i : Int) < (M : Int)) := by omega
                have tF : ¬ ((M : Int) < (E : Int)) := by omega
                have hr1 := HR.out.ext (rot_none f2 f4 (by omega)).symm
                clear HR
                have R1 := hidE hr1; clear hr1
                go_wp2
                all_goals go_end0
                all_goals obtain ⟨y1, y2⟩ := fin_c (Nat.le_of_lt hMa) (Nat.le_of_lt hMb) (Mv.refl _ _ _) (Mv.refl _ _ _) (sides_l U1.out U2.out f1 f3 (by omega)) (sides_l U3.out U4.out (by omega) f5 (by omega)) U5.out
                all_goals exact ⟨rfl, _, R1.out, UM.out.trans y1, U0.out, y2⟩
              · have hE : i < M := by omega
                have tA : ¬ ((i : Int) < (m : Int)) := by omega
                have tB : ((m : Int) < (E : Int)) := by omega
                have tC : ¬ ((a : Int) < (i : Int)) := by omega
                have tD : ¬ ((E : Int) < (b : Int)) := by omega
                have tE : ((i : Int) < (M : Int)) := by omega
                have tF : ¬ ((M : Int) < (E : Int)) := by omega
                have hr1 := HR.out.ext (rot_none f2 f4 (by omega)).symm
                clear HR
                have R1 := hidE hr1; clear hr1
                go_wp2
                all_goals go_end0
                all_goals obtain ⟨y1, y2⟩ := fin_c (Nat.le_of_lt hMa) (Nat.le_of_lt hMb) (Mv.refl _ _ _) (Mv.refl _ _ _) (sides_l U1.out U2.out f1 f3 (by omega)) (sides_l U3.out U4.out (by omega) f5 (by omega)) U5.out
                all_goals exact ⟨rfl, _, R1.out, UM.out.trans y1, U0.out, y2⟩
          · by_cases hC : a < i
            · by_cases hD : E < b
              · have tA : ¬ ((i : Int) < (m : Int)) := by omega
                have tB : ¬ ((m : Int) < (E : Int)) := by omega
                have tC : ((a : Int) < (i : Int)) := by omega
                have tD : ((E : Int) < (b : Int)) := by omega
                have tE : ¬ ((i : Int) < (M : Int)) := by omega
                have tF : ¬ ((M : Int) < (E : Int)) := by omega
                have hr1 := HR.out.ext (rot_none f2 f4 (by omega)).symm
                clear HR
                have R1 := hidE hr1; clear hr1
                go_wp2
                all_goals go_end0
                all_goals obtain ⟨y1, y2⟩ := fin_c (Nat.le_of_lt hMa) (Nat.le_of_lt hMb) (Mv.refl _ _ _) (Mv.refl _ _ _) (sides_l U1.out U2.out f1 f3 (by omega)) (sides_l U3.out U4.out (by omega) f5 (by omega)) U5.out
                all_goals exact ⟨rfl, _, R1.out, UM.out.trans y1, U0.out, y2⟩
              · have tA : ¬ ((i : Int) < (m : Int)) := by omega
                have tB : ¬ ((m : Int) < (E : Int)) := by omega
                have tC : ((a : Int) < (i : Int)) := by omega
                have tD : ¬ ((E : Int) < (b : Int)) := by omega
                have tE : ¬ ((i : Int) < (M : Int)) := by omega
                have tF : ¬ ((M : Int) < (E : Int)) := by omega
                have hr1 := HR.out.ext (rot_none f2 f4 (by omega)).symm
                clear HR
                have R1 := hidE hr1; clear hr1
                go_wp2
                all_goals go_end0
                all_goals obtain ⟨y1, y2⟩ := fin_c (Nat.le_of_lt hMa) (Nat.le_of_lt hMb) (Mv.refl _ _ _) (Mv.refl _ _ _) (sides_l U1.out U2.out f1 f3 (by omega)) (sides_l U3.out U4.out (by omega) f5 (by omega)) U5.out
                all_goals exact ⟨rfl, _, R1.out, UM.out.trans y1, U0.out, y2⟩
            · by_cases hD : E < b
              · have tA : ¬ ((i : Int) < (m : Int)) := by omega
                have tB : ¬ ((m : Int) < (E : Int)) := by omega
                have tC : ¬ ((a : Int) < (i : Int)) := by omega
                have tD : ((E : Int) < (b : Int)) := by omega
                have tE : ¬ ((i : Int) < (M : Int)) := by omega
                have tF : ¬ ((M : Int) < (E : Int)) := by omega
                have hr1 := HR.out.ext (rot_none f2 f4 (by omega)).symm
                clear HR
                have R1 := hidE hr1; clear hr1
                go_wp2
                all_goals go_end0
                all_goals obtain ⟨y1, y2⟩ := fin_c (Nat.le_of_lt hMa) (Nat.le_of_lt hMb) (Mv.refl _ _ _) (Mv.refl _ _ _) (sides_l U1.out U2.out f1 f3 (by omega)) (sides_l U3.out U4.out (by omega) f5 (by omega)) U5.out
                all_goals exact ⟨rfl, _, R1.out, UM.out.trans y1, U0.out, y2⟩
              · have tA : ¬ ((i : Int) < (m : Int)) := by omega
                have tB : ¬ ((m : Int) < (E : Int)) := by omega
                have tC : ¬ ((a : Int) < (i : Int)) := by omega
                have tD : ¬ ((E : Int) < (b : Int)) := by omega
                have tE : ¬ ((i : Int) < (M : Int)) := by omega
                have tF : ¬ ((M : Int) < (E : Int)) := by omega
                have hr1 := HR.out.ext (rot_none f2 f4 (by omega)).symm
                clear HR
                have R1 := hidE hr1; clear hr1
                go_wp2
                all_goals go_end0
                all_goals obtain ⟨y1, y2⟩ := fin_c (Nat.le_of_lt hMa) (Nat.le_of_lt hMb) (Mv.refl _ _ _) (Mv.refl _ _ _) (sides_l U1.out U2.out f1 f3 (by omega)) (sides_l U3.out U4.out (by omega) f5 (by omega)) U5.out
                all_goals exact ⟨rfl, _, R1.out, UM.out.trans y1, U0.out, y2⟩

theorem symMerge_c (w0 : World) (blk n cap : Nat) (t : TypeId) (K : Nat → Int) (recv : Value) (hC : Cmps w0 blk n recv K) (hn : n ≤ 4611686018427387904) : ∀ N, SymIH w0 blk n cap t K recv N := by
  intro N
  induction N with
  | zero => intro w a m b d hN _ _ _ h1 h2; omega
  | succ N ih =>
    intro w a m b d hN hR hI hO ham hmb hb hs1 hs2
    by_cases c1 : m ≤ a + 1
    · exact symMerge_up w0 w blk n cap a m b t K recv d hR hC hI hO ham c1 hmb hb hn hs2
    · by_cases c2 : b ≤ m + 1
      · exact symMerge_dn w0 w blk n cap a m b t K recv d hR hC hI hO (by omega) hmb c2 hb hn hs1
      · obtain ⟨M, hM⟩ : ∃ M, (a + b) / 2 = M := ⟨_, rfl⟩
        by_cases c3 : M < m
        · exact symMerge_mid w0 w blk n cap a m b N M (M + m - b) M t K recv d hR hC hI hO (by omega) (by omega) hb hn hs1 hs2 ih hN hM (.inl ⟨c3, by omega, rfl⟩)
        · exact symMerge_mid w0 w blk n cap a m b N M a m t K recv d hR hC hI hO (by omega) (by omega) hb hn hs1 hs2 ih hN hM (.inr ⟨by omega, rfl, rfl⟩)
end Go.Proofs.Ytibmldgbimjgfaa
