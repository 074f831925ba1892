/- slices.SortStableFunc over a row of indices of the call's own, by the comparison of the runs' times. No conditions but the row's size. -/
import Derived.Test.YtibmldgbimjgfaaSymC
namespace Go.Proofs.Ytibmldgbimjgfaa
open Go.ChangeShapes Go.WideShapes Go.ChangeAt Go.RowKit
attribute [local irreducible] Go.Calls

section
variable {K : Nat → Int} {n bs a : Nat} {d d' : Nat → Nat}
/-- Each block of bs places is in order. -/
def Bl (K : Nat → Int) (n bs : Nat) (d : Nat → Nat) : Prop := ∀ q, q * bs < n → Srt K (q * bs) (min (q * bs + bs) n) d
/-- Blocks are in order up to a. -/
def Bi (K : Nat → Int) (n bs a : Nat) (d : Nat → Nat) : Prop := (∃ Q, a = Q * bs) ∧ ∀ q, q * bs < a → Srt K (q * bs) (min (q * bs + bs) n) d
theorem lt_q {q Q x : Nat} (h : q * x < Q * x + x) : q ≤ Q := by
  rcases Nat.lt_or_ge Q q with c | c
  · have := Nat.mul_le_mul_right x c
    rw [Nat.succ_mul] at this
    omega
  · exact c
theorem le_q {q Q x : Nat} (h : q < Q) : q * x + x ≤ Q * x := by
  have := Nat.mul_le_mul_right x h
  rw [Nat.succ_mul] at this
  exact this
theorem bi_start (K : Nat → Int) (n bs : Nat) (d : Nat → Nat) : Bi K n bs 0 d := ⟨⟨0, by simp⟩, fun q h => by omega⟩
theorem bi_step (h : Bi K n bs a d) (hn : a + bs ≤ n) (hm : Mv a (a + bs) d d') (hs : Srt K a (a + bs) d') : Bi K n bs (a + bs) d' := by
  obtain ⟨⟨Q, rfl⟩, h2⟩ := h
  refine ⟨⟨Q + 1, by rw [Nat.succ_mul]⟩, fun q hq => ?_⟩
  have hqQ := lt_q hq
  rcases Nat.lt_or_ge q Q with c | c
  · have := le_q (x := bs) c
    by_cases z : bs = 0
    · subst z; exact srt_one _ _ _ (by omega)
    · exact (h2 q (by omega)).congr fun k q1 q2 => hm.out k (.inl (by omega))
  · have : q = Q := by omega
    subst this
    rw [Nat.min_eq_left hn]; exact hs
theorem bi_end (h : Bi K n bs a d) (hn : n < a + bs) (hm : Mv a n d d') (hs : Srt K a n d') : Bl K n bs d' := by
  obtain ⟨⟨Q, rfl⟩, h2⟩ := h
  intro q hq
  have hqQ := lt_q (Nat.lt_trans hq hn)
  rcases Nat.lt_or_ge q Q with c | c
  · have := le_q (x := bs) c
    by_cases z : bs = 0
    · subst z; exact srt_one _ _ _ (by omega)
    · exact (h2 q (by omega)).congr fun k q1 q2 => hm.out k (.inl (by omega))
  · have : q = Q := by omega
    subst this
    exact hs.mono (Nat.le_refl _) (Nat.min_le_right _ _)

/-- Blocks of twice the size up to a, of the size from a on. -/
def Bu (K : Nat → Int) (n bs a : Nat) (d : Nat → Nat) : Prop := Bi K n (2 * bs) a d ∧ ∀ q, a ≤ q * bs → q * bs < n → Srt K (q * bs) (min (q * bs + bs) n) d
theorem bu_start (h : Bl K n bs d) : Bu K n bs 0 d := ⟨bi_start K n _ d, fun q _ h2 => h q h2⟩
theorem dbl (Q bs : Nat) : Q * (2 * bs) = (2 * Q) * bs := by rw [← Nat.mul_assoc, Nat.mul_comm Q 2]
theorem bu_parts (h : Bu K n bs a d) : (a < n → Srt K a (min (a + bs) n) d) ∧ (a + bs < n → Srt K (a + bs) (min (a + bs + bs) n) d) := by
  obtain ⟨⟨⟨Q, hQ⟩, h1⟩, h2⟩ := h
  rw [dbl] at hQ
  refine ⟨fun c => ?_, fun c => ?_⟩
  · have := h2 (2 * Q) (by omega) (by omega)
    rw [← hQ] at this; exact this
  · have := h2 (2 * Q + 1) (by rw [Nat.succ_mul]; omega) (by rw [Nat.succ_mul]; omega)
    rw [Nat.succ_mul, ← hQ] at this; exact this
theorem bu_step (h : Bu K n bs a d) (hn : a + 2 * bs ≤ n) (hm : Mv a (a + 2 * bs) d d') (hs : Srt K a (a + 2 * bs) d') : Bu K n bs (a + 2 * bs) d' :=
  ⟨bi_step h.1 hn hm hs, fun q h1 h2 => (h.2 q (by omega) h2).congr fun k q1 q2 => hm.out k (.inr (by omega))⟩
theorem bu_end (h : Bu K n bs a d) (hn : n < a + 2 * bs) (hm : Mv a n d d') (hs : Srt K a n d') : Bl K n (2 * bs) d' := bi_end h.1 hn hm hs
theorem bu_end0 (h : Bu K n bs a d) (hn : n < a + 2 * bs) (h2 : n ≤ a + bs) : Bl K n (2 * bs) d := by
  refine bi_end h.1 hn (Mv.refl _ _ _) ?_
  by_cases c : a < n
  · have := (bu_parts h).1 c
    rw [Nat.min_eq_right h2] at this; exact this
  · exact srt_one _ _ _ (by omega)
theorem bl_whole (h : Bl K n bs d) (hn : n ≤ bs) : Srt K 0 n d := by
  by_cases c : 0 < n
  · have := h 0 (by omega)
    simp only [Nat.zero_mul, Nat.zero_add] at this
    rw [Nat.min_eq_right hn] at this; exact this
  · exact srt_one _ _ _ (by omega)
end

theorem insertion_eq {w0 w : World} {blk n cap a b : Nat} {x y : Int} {t : TypeId} {K : Nat → Int} {recv : Value} {d : Nat → Nat} (h : RowW w0 blk n t d w) (hC : Cmps w0 blk n recv K) (hI : Inv K n d) (hO : Okd n d) (hx : x = a) (hy : y = b) (hab : a ≤ b) (hb : b ≤ n) (hn : n ≤ 4611686018427387904) :
    Calls Try.prog 43 #[.slice (some ⟨blk, 0, none⟩) n cap, .int .i64 x, .int .i64 y, .func (.func 28) #[recv] #[]] w (SrtTo w0 blk n t K a b d) := by
  subst hx; subst hy; exact insertion_c w0 w blk n cap a b t K recv d h hC hI hO hab hb hn
theorem symMerge_eq {w0 w : World} {blk n cap a m b : Nat} {x y z : Int} {t : TypeId} {K : Nat → Int} {recv : Value} {d : Nat → Nat} (h : RowW w0 blk n t d w) (hC : Cmps w0 blk n recv K) (hI : Inv K n d) (hO : Okd n d) (hx : x = a) (hy : y = m) (hz : z = b) (ham : a < m) (hmb : m < b) (hb : b ≤ n) (hn : n ≤ 4611686018427387904) (h1 : Srt K a m d) (h2 : Srt K m b d) :
    Calls Try.prog 44 #[.slice (some ⟨blk, 0, none⟩) n cap, .int .i64 x, .int .i64 y, .int .i64 z, .func (.func 28) #[recv] #[]] w (SrtTo w0 blk n t K a b d) := by
  subst hx; subst hy; subst hz; exact symMerge_c w0 blk n cap t K recv hC hn (b - a) w a m b d (Nat.le_refl _) h hI hO ham hmb hb h1 h2

set_option maxRecDepth 100000 in
set_option maxHeartbeats 8000000 in
theorem stable_c (w0 w : World) (blk n cap : Nat) (t : TypeId) (K : Nat → Int) (recv : Value) (d : Nat → Nat) (h : RowW w0 blk n t d w) (hC : Cmps w0 blk n recv K) (hI : Inv K n d) (hO : Okd n d) (hn : n ≤ 2305843009213693952) :
    Calls Try.prog 37 #[.slice (some ⟨blk, 0, none⟩) n cap, .int .i64 n, .func (.func 28) #[recv] #[]] w (SrtTo w0 blk n t K 0 n d) := by
  have H := hidE h; have HC := hidE hC; have HI := hidE hI; have HO := hidE hO
  clear h hC hI hO
  go_enter Try.func37, Try.ntmps37
  go_wp2
  go_loopg [7, 8] n (fun g1 va vb wr => ∃ (a : Nat) (dk : Nat → Nat), va = .int .i64 a ∧ vb = .int .i64 ((a : Int) + 20) ∧ a ≤ n ∧ n - a ≤ g1 ∧ RowW w0 blk n t dk wr ∧ Mv 0 n d dk ∧ Inv K n dk ∧ Bi K n 20 a dk)
  case atStart => exact ⟨0, d, rfl, rfl, by omega, by omega, H.out, Mv.refl _ _ _, HI.out, bi_start _ _ _ _⟩
  case round =>
    obtain ⟨a, dk, rfl, rfl, han, hg1, hr, hm, hi, hb⟩ := hrel
    have HR := hidE hr; have HM := hidE hm; have HJ := hidE hi; have HB := hidE hb
    have HOK := hidE (HO.out.mv hm (Nat.le_refl _))
    clear hr hm hi hb
    by_cases hlt : a + 20 ≤ n
    · have hltz : (a : Int) + 20 ≤ (n : Int) := by omega
      go_wp2_with (go_at_call 43; ((with_reducible refine (insertion_eq (a := a) (b := a + 20) HR.out HC.out HJ.out HOK.out rfl (by omega) (by omega) (by omega) (by omega)).mono ?_); rintro e w1 ⟨rfl, d1, hr1, hm1, hi1, hs1⟩))
      go_roundg (n - (a + 20))
      case measure => omega
      case rel => exact ⟨a + 20, d1, by go_num, by go_num, by omega, by omega, hr1, HM.out.trans (hm1.mono (by omega) (by omega)), hi1, bi_step HB.out hlt hm1 hs1⟩
    · have hltz : ¬ (a : Int) + 20 ≤ (n : Int) := by omega
      go_wp2_with (go_at_call 43; ((with_reducible refine (insertion_eq (a := a) (b := n) HR.out HC.out HJ.out HOK.out rfl rfl (by omega) (by omega) (by omega)).mono ?_); rintro e w1 ⟨rfl, d1, hr1, hm1, hi1, hs1⟩))
      have R1 := hidE hr1; have M1 := hidE (HM.out.trans (hm1.mono (by omega) (by omega))); have I1 := hidE hi1; have B1 := hidE (bi_end HB.out (by omega) hm1 hs1)
      clear hr1 hm1 hi1 hs1 HR HM HJ HB HOK
      go_loopg [6, 7, 8, 9] n (fun g2 vs va vb vm wr2 => ∃ (bs : Nat) (dk : Nat → Nat), vs = .int .i64 bs ∧ 0 < bs ∧ bs ≤ 2 * n + 20 ∧ n - bs ≤ g2 ∧ RowW w0 blk n t dk wr2 ∧ Mv 0 n d dk ∧ Inv K n dk ∧ Bl K n bs dk)
      case atStart => exact ⟨20, d1, rfl, by omega, by omega, by omega, R1.out, M1.out, I1.out, B1.out⟩
      case round =>
        clear R1 M1 I1 B1
        obtain ⟨bs, dk, rfl, hbs, hbn, hg2, hr, hm, hi, hb⟩ := hrel
        have HR := hidE hr; have HM := hidE hm; have HJ := hidE hi; have HB := hidE hb
        clear hr hm hi hb
        by_cases hlt : bs < n
        · have hltz : (bs : Int) < (n : Int) := by omega
          obtain ⟨wo, rfl⟩ : ∃ wo : World, wo = wr := ⟨_, rfl⟩
          go_wp2
          go_loopg [7, 8] n (fun g3 va vb wr3 => ∃ (a : Nat) (dk : Nat → Nat), va = .int .i64 a ∧ vb = .int .i64 ((a : Int) + 2 * (bs : Int)) ∧ a ≤ n ∧ n - a ≤ g3 ∧ RowW w0 blk n t dk wr3 ∧ Mv 0 n d dk ∧ Inv K n dk ∧ Bu K n bs a dk)
          case atStart => exact ⟨0, dk, rfl, by go_num, by omega, by omega, HR.out, HM.out, HJ.out, bu_start HB.out⟩
          case round =>
            clear HR HM HJ HB
            obtain ⟨a, dk, rfl, rfl, han, hg3, hr, hm, hi, hb⟩ := hrel
            have HR := hidE hr; have HM := hidE hm; have HJ := hidE hi; have HB := hidE hb
            have HOK := hidE (HO.out.mv hm (Nat.le_refl _))
            have hp := bu_parts hb
            have HP := hidE hp
            clear hr hm hi hb hp
            by_cases hle : a + 2 * bs ≤ n
            · have hlez : (a : Int) + 2 * (bs : Int) ≤ (n : Int) := by omega
              have x1 := HP.out.1 (by omega)
              have x2 := HP.out.2 (by omega)
              rw [Nat.min_eq_left (by omega)] at x1 x2
              have X1 := hidE x1; have X2 := hidE (x2.mono (Nat.le_refl _) (show a + 2 * bs ≤ a + bs + bs by omega)); clear x1 x2
              go_wp2_with (go_at_call 44; ((with_reducible refine (symMerge_eq (a := a) (m := a + bs) (b := a + 2 * bs) HR.out HC.out HJ.out HOK.out rfl (by omega) (by omega) (by omega) (by omega) (by omega) (by omega) X1.out X2.out).mono ?_); rintro e w1 ⟨rfl, d1, hr1, hm1, hi1, hs1⟩))
              go_roundg (n - (a + 2 * bs))
              case measure => omega
              case rel => exact ⟨a + 2 * bs, d1, by go_num, by go_num, by omega, by omega, hr1, HM.out.trans (hm1.mono (by omega) (by omega)), hi1, bu_step HB.out hle hm1 hs1⟩
            · have hlez : ¬ (a : Int) + 2 * (bs : Int) ≤ (n : Int) := by omega
              by_cases hmn : a + bs < n
              · have hmz : (a : Int) + (bs : Int) < (n : Int) := by omega
                have x1 := HP.out.1 (by omega)
                have x2 := HP.out.2 (by omega)
                rw [Nat.min_eq_left (by omega)] at x1
                rw [Nat.min_eq_right (by omega)] at x2
                have X1 := hidE x1; have X2 := hidE x2; clear x1 x2
                go_wp2_with (go_at_call 44; ((with_reducible refine (symMerge_eq (a := a) (m := a + bs) (b := n) HR.out HC.out HJ.out HOK.out rfl (by omega) rfl (by omega) (by omega) (by omega) (by omega) X1.out X2.out).mono ?_); rintro e w1 ⟨rfl, d1, hr1, hm1, hi1, hs1⟩))
                go_roundg (n - 2 * bs)
                case measure => omega
                case rel => exact ⟨2 * bs, d1, by go_num, by omega, by omega, by omega, hr1, HM.out.trans (hm1.mono (by omega) (by omega)), hi1, bu_end HB.out (by omega) hm1 hs1⟩
              · have hmz : ¬ (a : Int) + (bs : Int) < (n : Int) := by omega
                have HZ := hidE (bu_end0 HB.out (by omega) (by omega))
                go_wp2
                go_roundg (n - 2 * bs)
                case measure => omega
                case rel => exact ⟨2 * bs, dk, by go_num, by omega, by omega, by omega, HR.out, HM.out, HJ.out, HZ.out⟩
        · have hltz : ¬ (bs : Int) < (n : Int) := by omega
          go_wp2
          go_end0
          exact ⟨rfl, dk, HR.out, HM.out, HJ.out, bl_whole HB.out (by omega)⟩

theorem sortStable_c (w0 w : World) (blk n cap : Nat) (t : TypeId) (K : Nat → Int) (recv : Value) (d : Nat → Nat) (h : RowW w0 blk n t d w) (hC : Cmps w0 blk n recv K) (hI : Inv K n d) (hO : Okd n d) (hn : n ≤ 2305843009213693952) :
    Calls Try.prog 27 #[.slice (some ⟨blk, 0, none⟩) n cap, .func (.func 28) #[recv] #[]] w (SrtTo w0 blk n t K 0 n d) := by
  have HK := hidE (stable_c w0 w blk n cap t K recv d h hC hI hO hn)
  clear h hC hI hO
  go_enter Try.func27, Try.ntmps27
  go_wp2_with (go_at_call 37; ((with_reducible refine (HK.out).mono ?_); rintro e w1 ⟨rfl, hx⟩))
  go_end0
  exact ⟨rfl, hx⟩
end Go.Proofs.Ytibmldgbimjgfaa
