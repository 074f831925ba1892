/- slices.symMergeCmpFunc where the second row is one element. No conditions but the row's size. -/
import Derived.Test.YtibmldgbimjgfaaSymA
namespace Go.Proofs.Ytibmldgbimjgfaa
open Go.ChangeShapes Go.WideShapes Go.ChangeAt Go.RowKit
attribute [local irreducible] Go.Calls

theorem BubD.start' {K : Nat → Int} {n a m b i : Nat} {d : Nat → Nat} (hm1 : m < b) (hm2 : b ≤ m + 1) (hI : Inv K n d) (hbn : b ≤ n) (h : Srt K a m d) (h1 : ∀ x, a ≤ x → x < i → ¬ K (d m) < K (d x)) (h2 : ∀ x, i ≤ x → x < m → K (d m) < K (d x)) : BubD K a b m i d := by
  have e : b = m + 1 := by omega
  subst e
  exact BubD.start hI (by omega) h (fun x q1 q2 _ => h1 x q1 q2) h2

set_option maxRecDepth 100000 in
set_option maxHeartbeats 4000000 in
theorem symMerge_dn (w0 w : World) (blk n cap a m b : Nat) (t : TypeId) (K : Nat → Int) (recv : Value) (d : Nat → Nat) (h : RowW w0 blk n t d w) (hC : Cmps w0 blk n recv K) (hI : Inv K n d) (hO : Okd n d) (ham : a + 1 < m) (hm1 : m < b) (hm2 : b ≤ m + 1) (hb : b ≤ n) (hn : n ≤ 4611686018427387904) (hs : Srt K a m d) :
    Calls Try.prog 44 #[.slice (some ⟨blk, 0, none⟩) n cap, .int .i64 a, .int .i64 m, .int .i64 b, .func (.func 28) #[recv] #[]] w (SrtTo w0 blk n t K a b d) := by
  have H := hidE h; have HC := hidE hC; have HI := hidE hI; have HO := hidE hO; have HS := hidE hs
  clear h hC hI hO hs
  have e0 : ((m : Int) - (a : Int) == 1) = false := beq_eq_false_iff_ne.2 (by omega)
  have e1 : ((b : Int) - (m : Int) == 1) = true := beq_iff_eq.2 (by omega)
  go_enter Try.func44, Try.ntmps44
  go_wp2
  go_loopg [14, 15] m (fun g1 vi vj wr => ∃ (i j : Nat), vi = .int .i64 i ∧ vj = .int .i64 j ∧ a ≤ i ∧ i ≤ j ∧ j ≤ m ∧ j - i ≤ g1 ∧ RowW w0 blk n t d wr ∧ (∀ x, a ≤ x → x < i → ¬ K (d m) < K (d x)) ∧ (∀ x, j ≤ x → x < m → K (d m) < K (d x)))
  case atStart => exact ⟨a, m, rfl, rfl, by omega, by omega, by omega, by omega, H.out, fun y h1 h2 => by omega, fun y h1 h2 => by omega⟩
  case round =>
    obtain ⟨i, j, rfl, rfl, hai, hij, hjb, hg1, hr, hlo, hhi⟩ := hrel
    have HR := hidE hr; have HL := hidE hlo; have HH := hidE hhi
    clear hr hlo hhi
    by_cases hlt : i < j
    · have hltz : (i : Int) < (j : Int) := by omega
      obtain ⟨h, eh⟩ : ∃ h : Nat, ((i : Int) + (j : Int)) / 2 = (h : Int) := ⟨(i + j) / 2, by omega⟩
      have hih : i ≤ h := by omega
      have hhj : h < j := by omega
      have EH := hidE eh; clear eh
      have hok := HO.out
      have c1 := HR.out.cell (i := h) (by omega)
      have c2 := HR.out.cell (i := m) (by omega)
      have z := HR.out.lt
      have k1 := hok h (by omega)
      have k2 := hok m (by omega)
      have HCM := hidE (fun w hw => HC.out w hw (d m) (d h) k2 k1)
      clear hok
      go_wp2_with fail
      simp only [EH.out]
      by_cases hkey : K (d m) < K (d h)
      · have hd := cmp_t hkey
        have HX := hidE (fun x (h1 : h ≤ x) (h2 : x < m) => (by
          have := HS.out.le (k := h) (k' := x) (by omega) h1 h2
          omega : K (d m) < K (d x)))
        clear hkey
        generalize hx : d h = x at *
        generalize hy : d m = y at *
        have Hx := hidE hx; have Hy := hidE hy
        clear hx hy
        refine wp_region_past_lit (by kernel_rfl) (by kernel_rfl) ?_
        have hc := Past.cell (W := wr)
        repeat (go_big_quiet_step ((go_at_call 28; exact Past.call _ (HCM.out _ (HR.out.low.trans ((Past.prop _).mono (Nat.le_of_lt z)))))))
        refine wpQuiet_nil ?_
        rintro _ ⟨x', rfl⟩
        have hr2 := HR.out.past x'.2
        clear c1 c2 hc
        generalize x'.1 = w2 at hr2 ⊢
        have HR2 := hidE hr2; clear hr2
        go_wp2
        go_roundg (h - i)
        case measure => omega
        case rel => exact ⟨i, h, rfl, rfl, hai, by omega, by omega, by omega, HR2.out, by simpa only [Hy.out] using HL.out, by simpa only [Hy.out] using HX.out⟩
      · have hd := cmp_f hkey
        have HX := hidE (fun x (h1 : a ≤ x) (h2 : x < h + 1) => (by
          have := HS.out.le (k := x) (k' := h) h1 (by omega) (by omega)
          omega : ¬ K (d m) < K (d x)))
        clear hkey
        generalize hx : d h = x at *
        generalize hy : d m = y at *
        have Hx := hidE hx; have Hy := hidE hy
        clear hx hy
        refine wp_region_past_lit (by kernel_rfl) (by kernel_rfl) ?_
        have hc := Past.cell (W := wr)
        repeat (go_big_quiet_step ((go_at_call 28; exact Past.call _ (HCM.out _ (HR.out.low.trans ((Past.prop _).mono (Nat.le_of_lt z)))))))
        refine wpQuiet_nil ?_
        rintro _ ⟨x', rfl⟩
        have hr2 := HR.out.past x'.2
        clear c1 c2 hc
        generalize x'.1 = w2 at hr2 ⊢
        have HR2 := hidE hr2; clear hr2
        go_wp2
        go_roundg (j - (h + 1))
        case measure => omega
        case rel => exact ⟨h + 1, j, by go_num, rfl, by omega, by omega, hjb, by omega, HR2.out, by simpa only [Hy.out] using HX.out, by simpa only [Hy.out] using HH.out⟩
    · have : i = j := by omega
      subst this
      have hltz : ¬ (i : Int) < (i : Int) := by omega
      have HB := hidE (BubD.start' hm1 hm2 HI.out hb HS.out HL.out HH.out)
      clear HL HH
      obtain ⟨wo, rfl⟩ : ∃ wo : World, wo = wr := ⟨_, rfl⟩
      go_wp2
      go_loopg [17] (m - i) (fun g2 vk wr2 => ∃ (k : Nat) (dk : Nat → Nat), vk = .int .i64 k ∧ i ≤ k ∧ k ≤ m ∧ k - i ≤ g2 ∧ RowW w0 blk n t dk wr2 ∧ Mv a b d dk ∧ Inv K n dk ∧ BubD K a b k i dk)
      case atStart => exact ⟨m, d, rfl, by omega, by omega, by omega, HR.out, Mv.refl _ _ _, HI.out, HB.out⟩
      case round =>
        clear HR HB
        obtain ⟨k, dk, rfl, hak, hki, hg2, hr, hm, hi, hs⟩ := hrel
        have HR := hidE hr; have HM := hidE hm; have HJ := hidE hi; have HB := hidE hs
        clear hr hm hi hs
        by_cases hlt : i < k
        · obtain ⟨kp, rfl⟩ : ∃ q, k = q + 1 := ⟨k - 1, by omega⟩
          have hltz : (i : Int) < (kp : Int) + 1 := by omega
          have HX := hidE (⟨HJ.out.swap' kp (by omega) (HB.out.mid _ (by omega) (by omega)), HM.out.trans (Mv.swap dk (kp + 1) kp (by omega) (by omega)), HB.out.step hai (by omega) (by omega)⟩ : Inv K n (sw dk (kp + 1) kp) ∧ Mv a b d (sw dk (kp + 1) kp) ∧ BubD K a b kp i (sw dk (kp + 1) kp))
          have c1 := HR.out.cell (i := kp) (by omega)
          have c2 := HR.out.cell (i := kp + 1) (by omega)
          have c3 := HR.out.c2 (kp + 1) kp (by omega) (dk kp)
          have f1 := HR.out.free kp
          have f2 := HR.out.free (kp + 1)
          have HE := hidE (HR.out.swap (kp + 1) kp).drew
          rw [if_neg (by omega)] at c3
          generalize hx : dk (kp + 1) = x at *
          generalize hy : dk kp = y at *
          have Hx := hidE hx; have Hy := hidE hy
          clear hx hy
          go_wp2_with fail
          go_region
          go_wp2
          go_roundg (kp - i)
          case measure => omega
          case rel => exact ⟨kp, _, by go_num, by omega, by omega, Nat.le_refl _, HE.out, HX.out.2.1, HX.out.1, HX.out.2.2⟩
        · have hltz : ¬ (i : Int) < (k : Int) := by omega
          go_wp2
          go_end0
          exact ⟨rfl, dk, HR.out, HM.out, HJ.out, HB.out.done (by omega)⟩
end Go.Proofs.Ytibmldgbimjgfaa
