/- slices.insertionSortCmpFunc over a row of indices of the call's own, by the comparison of the runs' times. No conditions but the row's size. slices.symMergeCmpFunc where the first row is one element. No conditions but the row's size. slices.symMergeCmpFunc where the second row is one element. No conditions but the row's size. slices.symMergeCmpFunc, its general case, and the whole. No conditions but the row's size. slices.SortStableFunc over a row of indices of the call's own, by the comparison of the runs' times. No conditions but the row's size. The contract of rle.inOrder: the places of the runs in the order of their times. No conditions but the list's size. The contract of rle.Of: the canonical function of raw runs, or an error. No conditions but the list's size. The contract of (calc.pair).combined. No conditions but the lists' sizes, that the slices' cells read as integers, and that the functions are canonical. The contract of the document's own sum of a row of functions. No conditions but the lists' sizes. The contracts of calc.canonical, calc.checked, calc.Sub, Min and Max. No conditions but the lists' sizes, and that the slices' cells read as integers. The walk of the statement on more begins. Conditions: that the slices read as functions and legs. A region that draws its order: operations by an invariant of what has run, then a call that waits for all of them, then what is read out of its answer. No function of the program. No conditions. -/
import Derived.Test.YtgflbidagdcfmaaSCGD
import Derived.Test.YtgflbidagdcfmaaSCGA
import Derived.Deep.LoopGhost
import Derived.Deep.DeepCutAuto
import Derived.Laws.MakeOwn
import Derived.Laws.OwnMore
import Derived.Laws.AppendOwn
import Derived.Test.YtgflbidagdcfmaaSCMA
import Derived.RangeFuncCalls
import Derived.Shelf.Abstract
import Derived.LoopTactic
import Derived.Test.YtgflbidagdcfmaaSCGB
import Derived.Test.YtgflbidagdcfmaaSCGC
namespace Go.Proofs.Ytgflbidagdcfmaa
open Go.ChangeShapes Go.WideShapes Go.ChangeAt Go.RowKit
attribute [local irreducible] Go.Calls

/-- In whatever world of the sort's the comparison answers by the key, and only makes memory. -/
def Cmps (w0 : World) (blk n : Nat) (recv : Value) (K : Nat → Int) : Prop :=
  ∀ w, Below blk w0 w → ∀ x y : Nat, x < n → y < n → Calls Try.prog 102 #[recv, .int .i64 x, .int .i64 y] w fun e w' => e = .returned (.int .i64 (cmpI (K x) (K y))) ∧ Below w.heap.size w w'

/-- A row of numbers below n. -/
def Okd (n : Nat) (d : Nat → Nat) : Prop := ∀ k, k < n → d k < n
theorem Okd.mv {n a b : Nat} {d d' : Nat → Nat} (h : Okd n d) (hm : Mv a b d d') (hb : b ≤ n) : Okd n d' := fun k hk => by
  by_cases c : a ≤ k ∧ k < b
  · obtain ⟨k', h1, h2, e⟩ := hm.inn k c.1 c.2
    rw [e]; exact h _ (by omega)
  · rw [hm.out k (by omega)]; exact h _ hk

/-- The stretch [a, b) has been put in order. -/
def SrtTo (w0 : World) (blk n : Nat) (t : TypeId) (K : Nat → Int) (a b : Nat) (d : Nat → Nat) (e : Ending) (w' : World) : Prop :=
  e = .returned (.tuple #[]) ∧ ∃ d', RowW w0 blk n t d' w' ∧ Mv a b d d' ∧ Inv K n d' ∧ Srt K a b d'

theorem cmp_t {K : Nat → Int} {x y : Nat} (h : K x < K y) : decide (cmpI (K x) (K y) < 0) = true := by rw [cmpI_neg]; exact decide_eq_true h
theorem cmp_f {K : Nat → Int} {x y : Nat} (h : ¬ K x < K y) : decide (cmpI (K x) (K y) < 0) = false := by rw [cmpI_neg]; exact decide_eq_false h

set_option maxHeartbeats 4000000 in
theorem insertion_c (w0 w : World) (blk n cap a b : Nat) (t : TypeId) (K : Nat → Int) (recv : Value) (d : Nat → Nat) (h : RowW w0 blk n t d w) (hC : Cmps w0 blk n recv K) (hI : Inv K n d) (hO : Okd n d) (hab : a ≤ b) (hb : b ≤ n) (hn : n ≤ 4611686018427387904) :
    Calls Try.prog 110 #[.slice (some ⟨blk, 0, none⟩) n cap, .int .i64 a, .int .i64 b, .func (.func 102) #[recv] #[]] w (SrtTo w0 blk n t K a b d) := by
  have H := hidE h; have HC := hidE hC; have HI := hidE hI; have HO := hidE hO
  clear h hC hI hO
  go_enter Try.func110, Try.ntmps110
  go_wp2
  go_loopg [8] (b - a) (fun g1 vi wr => ∃ (i : Nat) (dk : Nat → Nat), vi = .int .i64 i ∧ a < i ∧ b - i ≤ g1 ∧ (i ≤ b ∨ i = a + 1) ∧ RowW w0 blk n t dk wr ∧ Mv a b d dk ∧ Inv K n dk ∧ Srt K a i dk)
  case atStart => exact ⟨a + 1, d, by go_num, by omega, by omega, by omega, H.out, Mv.refl _ _ _, HI.out, srt_one _ _ _ (by omega)⟩
  case round =>
    obtain ⟨i, dk, rfl, hai, hg1, hib, hr, hm, hi, hs⟩ := hrel
    have HR := hidE hr; have HM := hidE hm; have HJ := hidE hi; have HS := hidE hs
    clear hr hm hi hs
    by_cases hlt : i < b
    · have hltz : (i : Int) < (b : Int) := by omega
      obtain ⟨wo, rfl⟩ : ∃ wo : World, wo = wr := ⟨_, rfl⟩
      go_wp2
      go_loopg [9] i (fun g2 vj wr2 => ∃ (j : Nat) (dj : Nat → Nat), vj = .int .i64 j ∧ a ≤ j ∧ j ≤ i ∧ j ≤ g2 ∧ RowW w0 blk n t dj wr2 ∧ Mv a b d dj ∧ Inv K n dj ∧ InsR K a i j dj)
      case atStart => exact ⟨i, dk, rfl, by omega, Nat.le_refl _, Nat.le_refl _, HR.out, HM.out, HJ.out, InsR.start HS.out⟩
      case round =>
        clear HR HM HJ HS
        obtain ⟨j, dj, rfl, haj, hji, hg2, hr, hm, hi, hs⟩ := hrel
        have HR := hidE hr; have HM := hidE hm; have HJ := hidE hi; have HS := hidE hs
        have hok := HO.out.mv hm hb
        clear hr hm hi hs
        by_cases hja : a < j
        · obtain ⟨jp, rfl⟩ : ∃ q, j = q + 1 := ⟨j - 1, by omega⟩
          have hjd : decide ((a : Int) < (jp : Int) + 1) = true := decide_eq_true (by omega)
          have c1 := HR.out.cell (i := jp + 1) (by omega)
          have c2 := HR.out.cell (i := jp) (by omega)
          have z := HR.out.lt
          have k1 := hok (jp + 1) (by omega)
          have k2 := hok jp (by omega)
          have HCM := hidE (fun w hw => HC.out w hw (dj (jp + 1)) (dj jp) k1 k2)
          clear hok
          by_cases hkey : K (dj (jp + 1)) < K (dj jp)
          · have hd := cmp_t hkey
            have HX := hidE (⟨(HJ.out.swap' jp (by omega) hkey), (HM.out.trans (Mv.swap dj (jp + 1) jp (by omega) (by omega))), (HS.out.step (by omega) (by omega) hkey)⟩ : Inv K n (sw dj (jp + 1) jp) ∧ Mv a b d (sw dj (jp + 1) jp) ∧ InsR K a i jp (sw dj (jp + 1) jp))
            clear hkey HM HJ HS
            have HE := hidE (fun (w : World) (h : RowW w0 blk n t dj w) => (h.swap (jp + 1) jp).drew)
            have HF := hidE (fun (w : World) (h : RowW w0 blk n t dj w) => h.c2 (jp + 1) jp (by omega) (dj jp))
            generalize hx : dj (jp + 1) = x at *
            generalize hy : dj jp = y at *
            go_wp2_with fail
            refine wp_region_past_lit (by kernel_rfl) (by kernel_rfl) ?_
            have hc := Past.cell (W := wr)
            repeat (go_big_quiet_step ((go_at_call 102; exact Past.call _ (HCM.out _ (HR.out.low.trans ((Past.prop _).mono (Nat.le_of_lt z)))))))
            refine wpQuiet_nil ?_
            rintro _ ⟨x', rfl⟩
            have hr2 := HR.out.past x'.2
            clear c1 c2 hc
            generalize x'.1 = w2 at hr2 ⊢
            have g1 := hr2.cell (i := jp + 1) (by omega)
            have g2 := hr2.cell (i := jp) (by omega)
            have g3 := HF.out _ hr2
            have f1 := hr2.free (jp + 1)
            have f2 := hr2.free jp
            have hE := HE.out _ hr2
            rw [if_neg (by omega)] at g3
            rw [hx] at g1
            rw [hy] at g2
            have HE2 := hidE hE; have Hx := hidE hx; have Hy := hidE hy
            clear hE hr2 hx hy
            go_wp2_with fail
            go_region
            go_wp2
            go_roundg jp
            case measure => omega
            case rel => exact ⟨jp, _, by go_num, by omega, by omega, Nat.le_refl _, HE2.out, HX.out.2.1, HX.out.1, HX.out.2.2⟩
          · have hd := cmp_f hkey
            have HX := hidE (HS.out.done HJ.out (by omega) haj hji (.inr hkey))
            clear hkey
            generalize hx : dj (jp + 1) = x at *
            generalize hy : dj jp = y at *
            have Hx := hidE hx; have Hy := hidE hy
            clear hx hy
            go_wp2_with fail
            refine wp_region_past_lit (by kernel_rfl) (by kernel_rfl) ?_
            have hc := Past.cell (W := wr)
            repeat (go_big_quiet_step ((go_at_call 102; exact Past.call _ (HCM.out _ (HR.out.low.trans ((Past.prop _).mono (Nat.le_of_lt z)))))))
            refine wpQuiet_nil ?_
            rintro _ ⟨x', rfl⟩
            have hr2 := HR.out.past x'.2
            clear c1 c2 hc
            generalize x'.1 = w2 at hr2 ⊢
            have HR2 := hidE hr2; clear hr2
            go_wp2
            go_roundg (b - (i + 1))
            case measure => omega
            case rel => exact ⟨i + 1, _, by go_num, by omega, by omega, by omega, HR2.out, HM.out, HJ.out, HX.out⟩
        · have hja' : j = a := by omega
          subst hja'
          have HX := hidE (HS.out.done HJ.out (by omega) haj hji (.inl rfl))
          have hd : ¬ (j : Int) < (j : Int) := by omega
          go_wp2_with fail
          refine wp_region_past_lit (by kernel_rfl) (by kernel_rfl) ?_
          repeat (go_big_quiet_step (fail))
          refine wpQuiet_nil ?_
          rintro _ ⟨x', rfl⟩
          have hr2 := HR.out.past x'.2
          generalize x'.1 = w2 at hr2 ⊢
          have HR2 := hidE hr2; clear hr2
          go_wp2
          go_roundg (b - (i + 1))
          case measure => omega
          case rel => exact ⟨i + 1, _, by go_num, by omega, by omega, by omega, HR2.out, HM.out, HJ.out, HX.out⟩
    · go_wp2
      go_end0
      exact ⟨rfl, dk, HR.out, HM.out, HJ.out, HS.out.mono (Nat.le_refl _) (by omega)⟩
end Go.Proofs.Ytgflbidagdcfmaa

namespace Go.Proofs.Ytgflbidagdcfmaa
open Go.ChangeShapes Go.WideShapes Go.ChangeAt Go.RowKit
attribute [local irreducible] Go.Calls

theorem BubU.start' {K : Nat → Int} {n a m b i : Nat} {d : Nat → Nat} (hm1 : a < m) (hm2 : m ≤ a + 1) (hI : Inv K n d) (hbn : b ≤ n) (h : Srt K m b d) (hi : i ≤ b) (h1 : ∀ y, m ≤ y → y < i → K (d y) < K (d a)) (h2 : ∀ y, i ≤ y → y < b → ¬ K (d y) < K (d a)) : BubU K a b a i d := by
  have e : m = a + 1 := by omega
  subst e
  exact BubU.start hI hbn h hi h1 h2

set_option maxRecDepth 100000 in
set_option maxHeartbeats 4000000 in
theorem symMerge_up (w0 w : World) (blk n cap a m b : Nat) (t : TypeId) (K : Nat → Int) (recv : Value) (d : Nat → Nat) (h : RowW w0 blk n t d w) (hC : Cmps w0 blk n recv K) (hI : Inv K n d) (hO : Okd n d) (hm1 : a < m) (hm2 : m ≤ a + 1) (hmb : m < b) (hb : b ≤ n) (hn : n ≤ 4611686018427387904) (hs : Srt K m b d) :
    Calls Try.prog 111 #[.slice (some ⟨blk, 0, none⟩) n cap, .int .i64 a, .int .i64 m, .int .i64 b, .func (.func 102) #[recv] #[]] w (SrtTo w0 blk n t K a b d) := by
  have H := hidE h; have HC := hidE hC; have HI := hidE hI; have HO := hidE hO; have HS := hidE hs
  clear h hC hI hO hs
  have e1 : ((m : Int) - (a : Int) == 1) = true := beq_iff_eq.2 (by omega)
  go_enter Try.func111, Try.ntmps111
  go_wp2
  go_loopg [10, 11] b (fun g1 vi vj wr => ∃ (i j : Nat), vi = .int .i64 i ∧ vj = .int .i64 j ∧ m ≤ i ∧ i ≤ j ∧ j ≤ b ∧ j - i ≤ g1 ∧ RowW w0 blk n t d wr ∧ (∀ y, m ≤ y → y < i → K (d y) < K (d a)) ∧ (∀ y, j ≤ y → y < b → ¬ K (d y) < K (d a)))
  case atStart => exact ⟨m, b, rfl, rfl, by omega, by omega, by omega, by omega, H.out, fun y h1 h2 => by omega, fun y h1 h2 => by omega⟩
  case round =>
    obtain ⟨i, j, rfl, rfl, hai, hij, hjb, hg1, hr, hlo, hhi⟩ := hrel
    have HR := hidE hr; have HL := hidE hlo; have HH := hidE hhi
    clear hr hlo hhi
    by_cases hlt : i < j
    · have hltz : (i : Int) < (j : Int) := by omega
      obtain ⟨h, eh⟩ : ∃ h : Nat, ((i : Int) + (j : Int)) / 2 = (h : Int) := ⟨(i + j) / 2, by omega⟩
      have hih : i ≤ h := by omega
      have hhj : h < j := by omega
      have EH := hidE eh; clear eh
      have hok := HO.out
      have c1 := HR.out.cell (i := h) (by omega)
      have c2 := HR.out.cell (i := a) (by omega)
      have z := HR.out.lt
      have k1 := hok h (by omega)
      have k2 := hok a (by omega)
      have HCM := hidE (fun w hw => HC.out w hw (d h) (d a) k1 k2)
      clear hok
      go_wp2_with fail
      simp only [EH.out]
      by_cases hkey : K (d h) < K (d a)
      · have hd := cmp_t hkey
        have HX := hidE (fun y (h1 : m ≤ y) (h2 : y < h + 1) => (by
          have := HS.out.le (k := y) (k' := h) h1 (by omega) (by omega)
          omega : K (d y) < K (d a)))
        clear hkey
        generalize hx : d h = x at *
        generalize hy : d a = y at *
        have Hx := hidE hx; have Hy := hidE hy
        clear hx hy
        refine wp_region_past_lit (by kernel_rfl) (by kernel_rfl) ?_
        have hc := Past.cell (W := wr)
        repeat (go_big_quiet_step ((go_at_call 102; exact Past.call _ (HCM.out _ (HR.out.low.trans ((Past.prop _).mono (Nat.le_of_lt z)))))))
        refine wpQuiet_nil ?_
        rintro _ ⟨x', rfl⟩
        have hr2 := HR.out.past x'.2
        clear c1 c2 hc
        generalize x'.1 = w2 at hr2 ⊢
        have HR2 := hidE hr2; clear hr2
        go_wp2
        go_roundg (j - (h + 1))
        case measure => omega
        case rel => exact ⟨h + 1, j, by go_num, rfl, by omega, by omega, hjb, by omega, HR2.out, by simpa only [Hy.out] using HX.out, by simpa only [Hy.out] using HH.out⟩
      · have hd := cmp_f hkey
        have HX := hidE (fun y (h1 : h ≤ y) (h2 : y < b) => (by
          have := HS.out.le (k := h) (k' := y) (by omega) h1 h2
          omega : ¬ K (d y) < K (d a)))
        clear hkey
        generalize hx : d h = x at *
        generalize hy : d a = y at *
        have Hx := hidE hx; have Hy := hidE hy
        clear hx hy
        refine wp_region_past_lit (by kernel_rfl) (by kernel_rfl) ?_
        have hc := Past.cell (W := wr)
        repeat (go_big_quiet_step ((go_at_call 102; exact Past.call _ (HCM.out _ (HR.out.low.trans ((Past.prop _).mono (Nat.le_of_lt z)))))))
        refine wpQuiet_nil ?_
        rintro _ ⟨x', rfl⟩
        have hr2 := HR.out.past x'.2
        clear c1 c2 hc
        generalize x'.1 = w2 at hr2 ⊢
        have HR2 := hidE hr2; clear hr2
        go_wp2
        go_roundg (h - i)
        case measure => omega
        case rel => exact ⟨i, h, rfl, rfl, hai, by omega, by omega, by omega, HR2.out, by simpa only [Hy.out] using HL.out, by simpa only [Hy.out] using HX.out⟩
    · have : i = j := by omega
      subst this
      have hltz : ¬ (i : Int) < (i : Int) := by omega
      obtain ⟨ip, rfl⟩ : ∃ q, i = q + 1 := ⟨i - 1, by omega⟩
      have HB := hidE (BubU.start' hm1 hm2 HI.out hb HS.out hjb HL.out HH.out)
      clear HL HH
      obtain ⟨wo, rfl⟩ : ∃ wo : World, wo = wr := ⟨_, rfl⟩
      go_wp2
      go_loopg [13] (ip - a) (fun g2 vk wr2 => ∃ (k : Nat) (dk : Nat → Nat), vk = .int .i64 k ∧ a ≤ k ∧ k ≤ ip ∧ ip - k ≤ g2 ∧ RowW w0 blk n t dk wr2 ∧ Mv a b d dk ∧ Inv K n dk ∧ BubU K a b k (ip + 1) dk)
      case atStart => exact ⟨a, d, rfl, by omega, by omega, by omega, HR.out, Mv.refl _ _ _, HI.out, HB.out⟩
      case round =>
        clear HR HB
        obtain ⟨k, dk, rfl, hak, hki, hg2, hr, hm, hi, hs⟩ := hrel
        have HR := hidE hr; have HM := hidE hm; have HJ := hidE hi; have HB := hidE hs
        clear hr hm hi hs
        by_cases hlt : k < ip
        · have hltz : (k : Int) < (ip : Int) := by omega
          have HX := hidE (⟨HJ.out.swap k (by omega) (HB.out.mid _ (by omega) (by omega)), HM.out.trans (Mv.swap dk k (k + 1) (by omega) (by omega)), HB.out.step hak (by omega) hjb⟩ : Inv K n (sw dk k (k + 1)) ∧ Mv a b d (sw dk k (k + 1)) ∧ BubU K a b (k + 1) (ip + 1) (sw dk k (k + 1)))
          have c1 := HR.out.cell (i := k) (by omega)
          have c2 := HR.out.cell (i := k + 1) (by omega)
          have c3 := HR.out.c2 k (k + 1) (by omega) (dk (k + 1))
          have f1 := HR.out.free k
          have f2 := HR.out.free (k + 1)
          have HE := hidE (HR.out.swap k (k + 1)).drew
          rw [if_neg (by omega)] at c3
          generalize hx : dk (k + 1) = x at *
          generalize hy : dk k = y at *
          have Hx := hidE hx; have Hy := hidE hy
          clear hx hy
          go_wp2_with fail
          go_region
          go_wp2
          go_roundg (ip - (k + 1))
          case measure => omega
          case rel => exact ⟨k + 1, _, by go_num, by omega, by omega, Nat.le_refl _, HE.out, HX.out.2.1, HX.out.1, HX.out.2.2⟩
        · have hltz : ¬ (k : Int) < (ip : Int) := by omega
          go_wp2
          go_end0
          exact ⟨rfl, dk, HR.out, HM.out, HJ.out, HB.out.done (by omega)⟩
end Go.Proofs.Ytgflbidagdcfmaa

namespace Go.Proofs.Ytgflbidagdcfmaa
open Go.ChangeShapes Go.WideShapes Go.ChangeAt Go.RowKit
attribute [local irreducible] Go.Calls

theorem BubD.start' {K : Nat → Int} {n a m b i : Nat} {d : Nat → Nat} (hm1 : m < b) (hm2 : b ≤ m + 1) (hI : Inv K n d) (hbn : b ≤ n) (h : Srt K a m d) (h1 : ∀ x, a ≤ x → x < i → ¬ K (d m) < K (d x)) (h2 : ∀ x, i ≤ x → x < m → K (d m) < K (d x)) : BubD K a b m i d := by
  have e : b = m + 1 := by omega
  subst e
  exact BubD.start hI (by omega) h (fun x q1 q2 _ => h1 x q1 q2) h2

set_option maxRecDepth 100000 in
set_option maxHeartbeats 4000000 in
theorem symMerge_dn (w0 w : World) (blk n cap a m b : Nat) (t : TypeId) (K : Nat → Int) (recv : Value) (d : Nat → Nat) (h : RowW w0 blk n t d w) (hC : Cmps w0 blk n recv K) (hI : Inv K n d) (hO : Okd n d) (ham : a + 1 < m) (hm1 : m < b) (hm2 : b ≤ m + 1) (hb : b ≤ n) (hn : n ≤ 4611686018427387904) (hs : Srt K a m d) :
    Calls Try.prog 111 #[.slice (some ⟨blk, 0, none⟩) n cap, .int .i64 a, .int .i64 m, .int .i64 b, .func (.func 102) #[recv] #[]] w (SrtTo w0 blk n t K a b d) := by
  have H := hidE h; have HC := hidE hC; have HI := hidE hI; have HO := hidE hO; have HS := hidE hs
  clear h hC hI hO hs
  have e0 : ((m : Int) - (a : Int) == 1) = false := beq_eq_false_iff_ne.2 (by omega)
  have e1 : ((b : Int) - (m : Int) == 1) = true := beq_iff_eq.2 (by omega)
  go_enter Try.func111, Try.ntmps111
  go_wp2
  go_loopg [14, 15] m (fun g1 vi vj wr => ∃ (i j : Nat), vi = .int .i64 i ∧ vj = .int .i64 j ∧ a ≤ i ∧ i ≤ j ∧ j ≤ m ∧ j - i ≤ g1 ∧ RowW w0 blk n t d wr ∧ (∀ x, a ≤ x → x < i → ¬ K (d m) < K (d x)) ∧ (∀ x, j ≤ x → x < m → K (d m) < K (d x)))
  case atStart => exact ⟨a, m, rfl, rfl, by omega, by omega, by omega, by omega, H.out, fun y h1 h2 => by omega, fun y h1 h2 => by omega⟩
  case round =>
    obtain ⟨i, j, rfl, rfl, hai, hij, hjb, hg1, hr, hlo, hhi⟩ := hrel
    have HR := hidE hr; have HL := hidE hlo; have HH := hidE hhi
    clear hr hlo hhi
    by_cases hlt : i < j
    · have hltz : (i : Int) < (j : Int) := by omega
      obtain ⟨h, eh⟩ : ∃ h : Nat, ((i : Int) + (j : Int)) / 2 = (h : Int) := ⟨(i + j) / 2, by omega⟩
      have hih : i ≤ h := by omega
      have hhj : h < j := by omega
      have EH := hidE eh; clear eh
      have hok := HO.out
      have c1 := HR.out.cell (i := h) (by omega)
      have c2 := HR.out.cell (i := m) (by omega)
      have z := HR.out.lt
      have k1 := hok h (by omega)
      have k2 := hok m (by omega)
      have HCM := hidE (fun w hw => HC.out w hw (d m) (d h) k2 k1)
      clear hok
      go_wp2_with fail
      simp only [EH.out]
      by_cases hkey : K (d m) < K (d h)
      · have hd := cmp_t hkey
        have HX := hidE (fun x (h1 : h ≤ x) (h2 : x < m) => (by
          have := HS.out.le (k := h) (k' := x) (by omega) h1 h2
          omega : K (d m) < K (d x)))
        clear hkey
        generalize hx : d h = x at *
        generalize hy : d m = y at *
        have Hx := hidE hx; have Hy := hidE hy
        clear hx hy
        refine wp_region_past_lit (by kernel_rfl) (by kernel_rfl) ?_
        have hc := Past.cell (W := wr)
        repeat (go_big_quiet_step ((go_at_call 102; exact Past.call _ (HCM.out _ (HR.out.low.trans ((Past.prop _).mono (Nat.le_of_lt z)))))))
        refine wpQuiet_nil ?_
        rintro _ ⟨x', rfl⟩
        have hr2 := HR.out.past x'.2
        clear c1 c2 hc
        generalize x'.1 = w2 at hr2 ⊢
        have HR2 := hidE hr2; clear hr2
        go_wp2
        go_roundg (h - i)
        case measure => omega
        case rel => exact ⟨i, h, rfl, rfl, hai, by omega, by omega, by omega, HR2.out, by simpa only [Hy.out] using HL.out, by simpa only [Hy.out] using HX.out⟩
      · have hd := cmp_f hkey
        have HX := hidE (fun x (h1 : a ≤ x) (h2 : x < h + 1) => (by
          have := HS.out.le (k := x) (k' := h) h1 (by omega) (by omega)
          omega : ¬ K (d m) < K (d x)))
        clear hkey
        generalize hx : d h = x at *
        generalize hy : d m = y at *
        have Hx := hidE hx; have Hy := hidE hy
        clear hx hy
        refine wp_region_past_lit (by kernel_rfl) (by kernel_rfl) ?_
        have hc := Past.cell (W := wr)
        repeat (go_big_quiet_step ((go_at_call 102; exact Past.call _ (HCM.out _ (HR.out.low.trans ((Past.prop _).mono (Nat.le_of_lt z)))))))
        refine wpQuiet_nil ?_
        rintro _ ⟨x', rfl⟩
        have hr2 := HR.out.past x'.2
        clear c1 c2 hc
        generalize x'.1 = w2 at hr2 ⊢
        have HR2 := hidE hr2; clear hr2
        go_wp2
        go_roundg (j - (h + 1))
        case measure => omega
        case rel => exact ⟨h + 1, j, by go_num, rfl, by omega, by omega, hjb, by omega, HR2.out, by simpa only [Hy.out] using HX.out, by simpa only [Hy.out] using HH.out⟩
    · have : i = j := by omega
      subst this
      have hltz : ¬ (i : Int) < (i : Int) := by omega
      have HB := hidE (BubD.start' hm1 hm2 HI.out hb HS.out HL.out HH.out)
      clear HL HH
      obtain ⟨wo, rfl⟩ : ∃ wo : World, wo = wr := ⟨_, rfl⟩
      go_wp2
      go_loopg [17] (m - i) (fun g2 vk wr2 => ∃ (k : Nat) (dk : Nat → Nat), vk = .int .i64 k ∧ i ≤ k ∧ k ≤ m ∧ k - i ≤ g2 ∧ RowW w0 blk n t dk wr2 ∧ Mv a b d dk ∧ Inv K n dk ∧ BubD K a b k i dk)
      case atStart => exact ⟨m, d, rfl, by omega, by omega, by omega, HR.out, Mv.refl _ _ _, HI.out, HB.out⟩
      case round =>
        clear HR HB
        obtain ⟨k, dk, rfl, hak, hki, hg2, hr, hm, hi, hs⟩ := hrel
        have HR := hidE hr; have HM := hidE hm; have HJ := hidE hi; have HB := hidE hs
        clear hr hm hi hs
        by_cases hlt : i < k
        · obtain ⟨kp, rfl⟩ : ∃ q, k = q + 1 := ⟨k - 1, by omega⟩
          have hltz : (i : Int) < (kp : Int) + 1 := by omega
          have HX := hidE (⟨HJ.out.swap' kp (by omega) (HB.out.mid _ (by omega) (by omega)), HM.out.trans (Mv.swap dk (kp + 1) kp (by omega) (by omega)), HB.out.step hai (by omega) (by omega)⟩ : Inv K n (sw dk (kp + 1) kp) ∧ Mv a b d (sw dk (kp + 1) kp) ∧ BubD K a b kp i (sw dk (kp + 1) kp))
          have c1 := HR.out.cell (i := kp) (by omega)
          have c2 := HR.out.cell (i := kp + 1) (by omega)
          have c3 := HR.out.c2 (kp + 1) kp (by omega) (dk kp)
          have f1 := HR.out.free kp
          have f2 := HR.out.free (kp + 1)
          have HE := hidE (HR.out.swap (kp + 1) kp).drew
          rw [if_neg (by omega)] at c3
          generalize hx : dk (kp + 1) = x at *
          generalize hy : dk kp = y at *
          have Hx := hidE hx; have Hy := hidE hy
          clear hx hy
          go_wp2_with fail
          go_region
          go_wp2
          go_roundg (kp - i)
          case measure => omega
          case rel => exact ⟨kp, _, by go_num, by omega, by omega, Nat.le_refl _, HE.out, HX.out.2.1, HX.out.1, HX.out.2.2⟩
        · have hltz : ¬ (i : Int) < (k : Int) := by omega
          go_wp2
          go_end0
          exact ⟨rfl, dk, HR.out, HM.out, HJ.out, HB.out.done (by omega)⟩
end Go.Proofs.Ytgflbidagdcfmaa

namespace Go.Proofs.Ytgflbidagdcfmaa
open Go.ChangeShapes Go.WideShapes Go.ChangeAt Go.RowKit
attribute [local irreducible] Go.Calls

theorem sides_l {K : Nat → Int} {a s M : Nat} {d : Nat → Nat} (h1 : Srt K a s d) (h2 : Srt K s M d) (h3 : a ≤ s) (sM : s ≤ M) (h : s = a ∨ s = M) : Srt K a M d := by
  rcases h with h | h
  · subst h; exact h2
  · subst h; exact h1
theorem fin_c {K : Nat → Int} {a M b : Nat} {dd d2 d3 : Nat → Nat} (haM : a ≤ M) (hMb : M ≤ b) (m2 : Mv a M dd d2) (m3 : Mv M b d2 d3) (s2 : Srt K a M d2) (s3 : Srt K M b d3) (hx : ∀ x y, a ≤ x → x < M → M ≤ y → y < b → Lx K (dd x) (dd y)) : Mv a b dd d3 ∧ Srt K a b d3 :=
  ⟨(m2.mono (Nat.le_refl _) hMb).trans (m3.mono haM (Nat.le_refl _)), srt_join (s2.congr fun k _ h2 => m3.out k (.inl h2)) s3 (cross_mv (cross_mv hx (.inl m2)) (.inr m3))⟩

/-- What is asked of the calls of itself on shorter stretches. -/
def SymIH (w0 : World) (blk n cap : Nat) (t : TypeId) (K : Nat → Int) (recv : Value) (N : Nat) : Prop :=
  ∀ (w : World) (a m b : Nat) (d : Nat → Nat), b - a ≤ N → RowW w0 blk n t d w → Inv K n d → Okd n d → a < m → m < b → b ≤ n → Srt K a m d → Srt K m b d →
    Calls Try.prog 111 #[.slice (some ⟨blk, 0, none⟩) n cap, .int .i64 a, .int .i64 m, .int .i64 b, .func (.func 102) #[recv] #[]] w (SrtTo w0 blk n t K a b d)

theorem SymIH.app {w0 : World} {blk n cap : Nat} {t : TypeId} {K : Nat → Int} {recv : Value} {N : Nat} (h : SymIH w0 blk n cap t K recv N) {w : World} {a m b : Nat} {d : Nat → Nat} (h1 : b - a ≤ N) (h2 : RowW w0 blk n t d w) (h3 : Inv K n d) (h4 : Okd n d) (h5 : a < m) (h6 : m < b) (h7 : b ≤ n) (h8 : Srt K a m d) (h9 : Srt K m b d) :
    Calls Try.prog 111 #[.slice (some ⟨blk, 0, none⟩) n cap, .int .i64 a, .int .i64 m, .int .i64 b, .func (.func 102) #[recv] #[]] w (SrtTo w0 blk n t K a b d) :=
  h w a m b d h1 h2 h3 h4 h5 h6 h7 h8 h9

/-- The search under way. -/
def Srch (K : Nat → Int) (d : Nat → Nat) (P s0 i j r0 : Nat) : Prop :=
  (∀ c, s0 ≤ c → c < i → ¬ K (d (P - c)) < K (d c)) ∧ (∀ c, j ≤ c → c < r0 → K (d (P - c)) < K (d c))
theorem Srch.start (K : Nat → Int) (d : Nat → Nat) (P s0 r0 : Nat) : Srch K d P s0 s0 r0 r0 := ⟨fun c h1 h2 => by omega, fun c h1 h2 => by omega⟩
theorem Srch.up {K : Nat → Int} {d : Nat → Nat} {P s0 i j r0 h a m b : Nat} (hS : Srch K d P s0 i j r0) (h1 : Srt K a m d) (h2 : Srt K m b d) (q0 : a ≤ s0) (q1 : h < m) (q2 : m ≤ P - h) (q3 : P - s0 < b) (_q4 : s0 ≤ h) (hk : ¬ K (d (P - h)) < K (d h)) : Srch K d P s0 (h + 1) j r0 :=
  ⟨fun c g1 g2 => by
    have e1 := h1.le (k := c) (k' := h) (by omega) (by omega) q1
    have e2 := h2.le (k := P - h) (k' := P - c) q2 (by omega) (by omega)
    omega, hS.2⟩
theorem Srch.dn {K : Nat → Int} {d : Nat → Nat} {P s0 i j r0 h a m b : Nat} (hS : Srch K d P s0 i j r0) (h1 : Srt K a m d) (h2 : Srt K m b d) (q0 : a ≤ h) (q1 : r0 ≤ m) (q2 : m + r0 ≤ P + 1) (q3 : P - h < b) (hk : K (d (P - h)) < K (d h)) : Srch K d P s0 i h r0 :=
  ⟨hS.1, fun c g1 g2 => by
    have e1 := h1.le (k := h) (k' := c) q0 (by omega) (by omega)
    have e2 := h2.le (k := P - c) (k' := P - h) (by omega) (by omega) (by omega)
    omega⟩
theorem Srch.cut {K : Nat → Int} {d : Nat → Nat} {s0 i r0 a m b M : Nat} (hS : Srch K d (M + m - 1) s0 i i r0) (hM : (a + b) / 2 = M) (hs : s0 ≤ i) (hr : i ≤ r0) (am : a < m) (mb : m < b) (hc : (M < m ∧ s0 + b = M + m ∧ r0 = M) ∨ (m ≤ M ∧ s0 = a ∧ r0 = m)) : Cut K a m b i d := by
  obtain ⟨s1, s2⟩ := hS
  refine ⟨by omega, by omega, by omega, by omega, by omega, ?_, ?_⟩
  · intro h1 h2
    have := s1 (i - 1) (by omega) (by omega)
    rw [show (a + b) / 2 + m - i = M + m - 1 - (i - 1) by omega]
    exact this
  · intro h1 h2
    have := s2 i (by omega) (by omega)
    rw [show (a + b) / 2 + m - i - 1 = M + m - 1 - i by omega]
    exact this

set_option maxRecDepth 100000 in
set_option maxHeartbeats 16000000 in
theorem symMerge_mid (w0 w : World) (blk n cap a m b N M s0 r0 : Nat) (t : TypeId) (K : Nat → Int) (recv : Value) (d : Nat → Nat) (h : RowW w0 blk n t d w) (hC : Cmps w0 blk n recv K) (hI : Inv K n d) (hO : Okd n d) (ham : a + 1 < m) (hmb : m + 1 < b) (hb : b ≤ n) (hn : n ≤ 4611686018427387904)
    (hs1 : Srt K a m d) (hs2 : Srt K m b d) (ih : SymIH w0 blk n cap t K recv N) (hN : b - a ≤ N + 1) (hM : (a + b) / 2 = M) (hc : (M < m ∧ s0 + b = M + m ∧ r0 = M) ∨ (m ≤ M ∧ s0 = a ∧ r0 = m)) :
    Calls Try.prog 111 #[.slice (some ⟨blk, 0, none⟩) n cap, .int .i64 a, .int .i64 m, .int .i64 b, .func (.func 102) #[recv] #[]] w (SrtTo w0 blk n t K a b d) := by
  have H := hidE h; have HC := hidE hC; have HI := hidE hI; have HO := hidE hO; have HS1 := hidE hs1; have HS2 := hidE hs2; have IH := hidE ih
  have hMa : a < M := by omega
  have hMb : M < b := by omega
  have hM2 : 2 * M ≤ a + b := by omega
  have hM3 : a + b ≤ 2 * M + 1 := by omega
  have EM := hidE (show ((a : Int) + (b : Int)) / 2 = (M : Int) by omega)
  have HM := hidE hM
  have hP : ∃ P, P = M + m - 1 := ⟨_, rfl⟩
  obtain ⟨P, hP⟩ := hP
  have EP := hidE (show (M : Int) + (m : Int) - 1 = (P : Int) by omega)
  have HP := hidE hP
  have hPm : P + 1 = M + m := by omega
  have HPM := hidE hPm
  have b1 : P + 1 ≤ M + m := by omega
  have b2 : M + m ≤ P + 1 := by omega
  have hq1 : a ≤ s0 := by omega
  have hq2 : s0 ≤ r0 := by omega
  have hq3 : r0 ≤ m := by omega
  have hq4 : m + r0 ≤ P + 1 := by omega
  have hq5 : P < b + s0 := by omega
  have HCC := hidE hc
  clear h hC hI hO hs1 hs2 ih hM hP hPm
  have e0 : ((m : Int) - (a : Int) == 1) = false := beq_eq_false_iff_ne.2 (by omega)
  have e1 : ((b : Int) - (m : Int) == 1) = false := beq_eq_false_iff_ne.2 (by omega)
  rcases hc with hc | hc
  all_goals
    obtain ⟨hc1, hc2, hc3⟩ := hc
    have hct : ((M : Int) < (m : Int)) ∨ ¬ ((M : Int) < (m : Int)) := by omega
    have HC2 := hidE hc2; have HC3 := hidE hc3
    clear hc2 hc3 hct
    go_enter Try.func111, Try.ntmps111
    go_upto_region 25 with fail
    simp only [EM.out]
    go_upto_region 33 with fail
    simp only [EP.out]
    go_loopg [20, 21] b (fun g1 vi vj wr => ∃ (i j : Nat), vi = .int .i64 i ∧ vj = .int .i64 j ∧ s0 ≤ i ∧ i ≤ j ∧ j ≤ r0 ∧ j - i ≤ g1 ∧ RowW w0 blk n t d wr ∧ Srch K d P s0 i j r0)
    case atStart => exact ⟨s0, r0, by have := HC2.out; go_num, by have := HC3.out; go_num, by omega, by omega, by omega, by omega, H.out, Srch.start _ _ _ _ _⟩
    case round =>
      obtain ⟨i, j, rfl, rfl, hai, hij, hjb, hg1, hr, hlo⟩ := hrel
      have HR := hidE hr; have HL := hidE hlo
      clear hr hlo
      by_cases hlt : i < j
      · have hltz : (i : Int) < (j : Int) := by omega
        obtain ⟨h, eh⟩ : ∃ h : Nat, ((i : Int) + (j : Int)) / 2 = (h : Int) := ⟨(i + j) / 2, by omega⟩
        have hih : i ≤ h := by omega
        have hhj : h < j := by omega
        have EH := hidE eh; clear eh
        obtain ⟨q, hq⟩ : ∃ q, q = P - h := ⟨_, rfl⟩
        have eq1 : IntKind.i64.wrap ((P : Int) - (h : Int)) = (q : Int) := by rw [IntKind.wrap_i64]; omega
        have hok := HO.out
        have c1 := HR.out.cell (i := h) (by omega)
        have c2 := HR.out.cell (i := q) (by omega)
        have z := HR.out.lt
        have k1 := hok h (by omega)
        have k2 := hok q (by omega)
        have HCM := hidE (fun w hw => HC.out w hw (d q) (d h) k2 k1)
        have hqn : q < n := by omega
        clear hok
        go_wp2_with fail
        simp only [EH.out]
        have EQ1 := hidE eq1; clear eq1
        by_cases hkey : K (d q) < K (d h)
        · have hd := cmp_t hkey
          have HX := hidE (HL.out.dn HS1.out HS2.out (h := h) (by omega) hq3 hq4 (by omega) (by rw [← hq]; exact hkey))
          have HQ := hidE hq
          clear hkey hq
          generalize hx : d h = x at *
          generalize hy : d q = y at *
          have Hx := hidE hx; have Hy := hidE hy
          clear hx hy
          have eq1 := EQ1.out
          refine wp_region_past_lit (by kernel_rfl) (by kernel_rfl) ?_
          have hc := Past.cell (W := wr)
          repeat (go_big_quiet_step ((go_at_call 102; exact Past.call _ (HCM.out _ (HR.out.low.trans ((Past.prop _).mono (Nat.le_of_lt z)))))))
          refine wpQuiet_nil ?_
          rintro _ ⟨x', rfl⟩
          have hr2 := HR.out.past x'.2
          clear c1 c2 hc eq1
          generalize x'.1 = w2 at hr2 ⊢
          have HR2 := hidE hr2; clear hr2
          go_wp2
          go_roundg (h - i)
          case measure => omega
          case rel => exact ⟨i, h, rfl, rfl, hai, by omega, by omega, by omega, HR2.out, HX.out⟩
        · have hd := cmp_f hkey
          have HX := hidE (HL.out.up HS1.out HS2.out (h := h) hq1 (by omega) (by omega) (by omega) (by omega) (by rw [← hq]; exact hkey))
          have HQ := hidE hq
          clear hkey hq
          generalize hx : d h = x at *
          generalize hy : d q = y at *
          have Hx := hidE hx; have Hy := hidE hy
          clear hx hy
          have eq1 := EQ1.out
          refine wp_region_past_lit (by kernel_rfl) (by kernel_rfl) ?_
          have hc := Past.cell (W := wr)
          repeat (go_big_quiet_step ((go_at_call 102; exact Past.call _ (HCM.out _ (HR.out.low.trans ((Past.prop _).mono (Nat.le_of_lt z)))))))
          refine wpQuiet_nil ?_
          rintro _ ⟨x', rfl⟩
          have hr2 := HR.out.past x'.2
          clear c1 c2 hc eq1
          generalize x'.1 = w2 at hr2 ⊢
          have HR2 := hidE hr2; clear hr2
          go_wp2
          go_roundg (j - (h + 1))
          case measure => omega
          case rel => exact ⟨h + 1, j, by go_num, rfl, by omega, by omega, hjb, by omega, HR2.out, HX.out⟩
      · have : i = j := by omega
        subst this
        have hltz : ¬ (i : Int) < (i : Int) := by omega
        have hl := HL.out
        rw [HP.out] at hl
        have hcut := hl.cut HM.out hai hjb (by omega) (by omega) HCC.out
        have hcu := hcut.rotated HI.out hb HS1.out HS2.out
        have f1 := hcut.as; have f2 := hcut.sm; have f3 := hcut.smid; have f4 := hcut.me; have f5 := hcut.eb
        rw [HM.out] at hcu f3 f4 f5
        obtain ⟨E, hE⟩ : ∃ E, E = M + m - i := ⟨_, rfl⟩
        rw [← hE] at hcu f4 f5
        have EE := hidE (show (M : Int) + (m : Int) - (i : Int) = (E : Int) by omega)
        have hE1 : E + i ≤ M + m := by omega
        have hE2 : M + m ≤ E + i := by omega
        obtain ⟨u0, u1, u2, u3, u4, u5⟩ := hcu
        have hmv := Mv.rot d f2 f4
        have U0 := hidE u0; have U1 := hidE u1; have U2 := hidE u2; have U3 := hidE u3; have U4 := hidE u4; have U5 := hidE u5
        have UO := hidE (HO.out.mv hmv (by omega))
        have UM := hidE (hmv.mono f1 f5)
        clear u0 u1 u2 u3 u4 u5 hl hcut hE HL hmv
        go_upto_region 39 with fail
        simp only [EE.out]
        clear hltz

        by_cases hA : i < m
        · by_cases hB : m < E
          · by_cases hC : a < i
            · by_cases hD : E < b
              · have hE : i < M := by omega
                have hF : M < E := by omega
                have tA : ((i : Int) < (m : Int)) := by omega
                have tB : ((m : Int) < (E : Int)) := by omega
                have tC : ((a : Int) < (i : Int)) := by omega
                have tD : ((E : Int) < (b : Int)) := by omega
                have tE : ((i : Int) < (M : Int)) := by omega
                have tF : ((M : Int) < (E : Int)) := by omega
                go_wp2_with (go_at_call 112; ((with_reducible refine (rotate_c w0 _ blk n cap i m E t d _ HR.out hA hB (by omega) hn).mono ?_); rintro e w1 ⟨rfl, hr1⟩))
                clear HR
                have R1 := hidE hr1; clear hr1
                try go_wp2_with fail
                ((with_reducible refine (IH.out.app (a := a) (m := i) (b := M) (by omega) R1.out U0.out UO.out hC hE (by omega) U1.out U2.out).mono ?_); rintro e w2 ⟨rfl, d2, hr2, hm2, hi2, hs2⟩)
                have o2 := UO.out.mv hm2 (by omega)
                have R2 := hidE hr2; have M2 := hidE hm2; have I2 := hidE hi2; have S2 := hidE hs2; have O2 := hidE o2; clear hr2 hm2 hi2 hs2 o2
                go_wp2_with fail
                have x3 := U3.out.congr fun k (q1 : M ≤ k) (q2 : k < E) => M2.out.out k (.inr q1)
                have x4 := U4.out.congr fun k (q1 : E ≤ k) (q2 : k < b) => M2.out.out k (.inr (by omega))
                have X3 := hidE x3; have X4 := hidE x4; clear x3 x4
                ((with_reducible refine (IH.out.app (a := M) (m := E) (b := b) (by omega) R2.out I2.out O2.out hF hD hb X3.out X4.out).mono ?_); rintro e w3 ⟨rfl, d3, hr3, hm3, hi3, hs3⟩)
                have R3 := hidE hr3; have M3 := hidE hm3; have I3 := hidE hi3; have S3 := hidE hs3; clear hr3 hm3 hi3 hs3
                go_wp2
                all_goals go_end0
                all_goals obtain ⟨y1, y2⟩ := fin_c (Nat.le_of_lt hMa) (Nat.le_of_lt hMb) M2.out M3.out S2.out S3.out U5.out
                all_goals exact ⟨rfl, _, R3.out, UM.out.trans y1, I3.out, y2⟩
              · have hE : i < M := by omega
                have hF : M < E := by omega
                have tA : ((i : Int) < (m : Int)) := by omega
                have tB : ((m : Int) < (E : Int)) := by omega
                have tC : ((a : Int) < (i : Int)) := by omega
                have tD : ¬ ((E : Int) < (b : Int)) := by omega
                have tE : ((i : Int) < (M : Int)) := by omega
                have tF : ((M : Int) < (E : Int)) := by omega
                go_wp2_with (go_at_call 112; ((with_reducible refine (rotate_c w0 _ blk n cap i m E t d _ HR.out hA hB (by omega) hn).mono ?_); rintro e w1 ⟨rfl, hr1⟩))
                clear HR
                have R1 := hidE hr1; clear hr1
                try go_wp2_with fail
                ((with_reducible refine (IH.out.app (a := a) (m := i) (b := M) (by omega) R1.out U0.out UO.out hC hE (by omega) U1.out U2.out).mono ?_); rintro e w2 ⟨rfl, d2, hr2, hm2, hi2, hs2⟩)
                have o2 := UO.out.mv hm2 (by omega)
                have R2 := hidE hr2; have M2 := hidE hm2; have I2 := hidE hi2; have S2 := hidE hs2; have O2 := hidE o2; clear hr2 hm2 hi2 hs2 o2
                go_wp2
                all_goals go_end0
                all_goals obtain ⟨y1, y2⟩ := fin_c (Nat.le_of_lt hMa) (Nat.le_of_lt hMb) M2.out (Mv.refl _ _ _) S2.out (sides_l (U3.out.congr fun k (q1 : M ≤ k) (q2 : k < E) => M2.out.out k (.inr q1)) (U4.out.congr fun k (q1 : E ≤ k) (q2 : k < b) => M2.out.out k (.inr (by omega))) (by omega) f5 (by omega)) U5.out
                all_goals exact ⟨rfl, _, R2.out, UM.out.trans y1, I2.out, y2⟩
            · by_cases hD : E < b
              · have hE : i < M := by omega
                have hF : M < E := by omega
                have tA : ((i : Int) < (m : Int)) := by omega
                have tB : ((m : Int) < (E : Int)) := by omega
                have tC : ¬ ((a : Int) < (i : Int)) := by omega
                have tD : ((E : Int) < (b : Int)) := by omega
                have tE : ((i : Int) < (M : Int)) := by omega
                have tF : ((M : Int) < (E : Int)) := by omega
                go_wp2_with (go_at_call 112; ((with_reducible refine (rotate_c w0 _ blk n cap i m E t d _ HR.out hA hB (by omega) hn).mono ?_); rintro e w1 ⟨rfl, hr1⟩))
                clear HR
                have R1 := hidE hr1; clear hr1
                try go_wp2_with fail
                have x3 := U3.out; have x4 := U4.out
                have X3 := hidE x3; have X4 := hidE x4; clear x3 x4
                ((with_reducible refine (IH.out.app (a := M) (m := E) (b := b) (by omega) R1.out U0.out UO.out hF hD hb X3.out X4.out).mono ?_); rintro e w3 ⟨rfl, d3, hr3, hm3, hi3, hs3⟩)
                have R3 := hidE hr3; have M3 := hidE hm3; have I3 := hidE hi3; have S3 := hidE hs3; clear hr3 hm3 hi3 hs3
                go_wp2
                all_goals go_end0
                all_goals obtain ⟨y1, y2⟩ := fin_c (Nat.le_of_lt hMa) (Nat.le_of_lt hMb) (Mv.refl _ _ _) M3.out (sides_l U1.out U2.out f1 f3 (by omega)) S3.out U5.out
                all_goals exact ⟨rfl, _, R3.out, UM.out.trans y1, I3.out, y2⟩
              · have hE : i < M := by omega
                have hF : M < E := by omega
                have tA : ((i : Int) < (m : Int)) := by omega
                have tB : ((m : Int) < (E : Int)) := by omega
                have tC : ¬ ((a : Int) < (i : Int)) := by omega
                have tD : ¬ ((E : Int) < (b : Int)) := by omega
                have tE : ((i : Int) < (M : Int)) := by omega
                have tF : ((M : Int) < (E : Int)) := by omega
                go_wp2_with (go_at_call 112; ((with_reducible refine (rotate_c w0 _ blk n cap i m E t d _ HR.out hA hB (by omega) hn).mono ?_); rintro e w1 ⟨rfl, hr1⟩))
                clear HR
                have R1 := hidE hr1; clear hr1
                try go_wp2
                all_goals go_end0
                all_goals obtain ⟨y1, y2⟩ := fin_c (Nat.le_of_lt hMa) (Nat.le_of_lt hMb) (Mv.refl _ _ _) (Mv.refl _ _ _) (sides_l U1.out U2.out f1 f3 (by omega)) (sides_l U3.out U4.out (by omega) f5 (by omega)) U5.out
                all_goals exact ⟨rfl, _, R1.out, UM.out.trans y1, U0.out, y2⟩
          · by_cases hC : a < i
            · by_cases hD : E < b
              · have hF : M < E := by omega
                have tA : ((i : Int) < (m : Int)) := by omega
                have tB : ¬ ((m : Int) < (E : Int)) := by omega
                have tC : ((a : Int) < (i : Int)) := by omega
                have tD : ((E : Int) < (b : Int)) := by omega
                have tE : ¬ ((i : Int) < (M : Int)) := by omega
                have tF : ((M : Int) < (E : Int)) := by omega
                have hr1 := HR.out.ext (rot_none f2 f4 (by omega)).symm
                clear HR
                have R1 := hidE hr1; clear hr1
                go_wp2_with fail
                have x3 := U3.out; have x4 := U4.out
                have X3 := hidE x3; have X4 := hidE x4; clear x3 x4
                ((with_reducible refine (IH.out.app (a := M) (m := E) (b := b) (by omega) R1.out U0.out UO.out hF hD hb X3.out X4.out).mono ?_); rintro e w3 ⟨rfl, d3, hr3, hm3, hi3, hs3⟩)
                have R3 := hidE hr3; have M3 := hidE hm3; have I3 := hidE hi3; have S3 := hidE hs3; clear hr3 hm3 hi3 hs3
                go_wp2
                all_goals go_end0
                all_goals obtain ⟨y1, y2⟩ := fin_c (Nat.le_of_lt hMa) (Nat.le_of_lt hMb) (Mv.refl _ _ _) M3.out (sides_l U1.out U2.out f1 f3 (by omega)) S3.out U5.out
                all_goals exact ⟨rfl, _, R3.out, UM.out.trans y1, I3.out, y2⟩
              · have hF : M < E := by omega
                have tA : ((i : Int) < (m : Int)) := by omega
                have tB : ¬ ((m : Int) < (E : Int)) := by omega
                have tC : ((a : Int) < (i : Int)) := by omega
                have tD : ¬ ((E : Int) < (b : Int)) := by omega
                have tE : ¬ ((i : Int) < (M : Int)) := by omega
                have tF : ((M : Int) < (E : Int)) := by omega
                have hr1 := HR.out.ext (rot_none f2 f4 (by omega)).symm
                clear HR
                have R1 := hidE hr1; clear hr1
                go_wp2
                all_goals go_end0
                all_goals obtain ⟨y1, y2⟩ := fin_c (Nat.le_of_lt hMa) (Nat.le_of_lt hMb) (Mv.refl _ _ _) (Mv.refl _ _ _) (sides_l U1.out U2.out f1 f3 (by omega)) (sides_l U3.out U4.out (by omega) f5 (by omega)) U5.out
                all_goals exact ⟨rfl, _, R1.out, UM.out.trans y1, U0.out, y2⟩
            · by_cases hD : E < b
              · have hF : M < E := by omega
                have tA : ((i : Int) < (m : Int)) := by omega
                have tB : ¬ ((m : Int) < (E : Int)) := by omega
                have tC : ¬ ((a : Int) < (i : Int)) := by omega
                have tD : ((E : Int) < (b : Int)) := by omega
                have tE : ¬ ((i : Int) < (M : Int)) := by omega
                have tF : ((M : Int) < (E : Int)) := by omega
                have hr1 := HR.out.ext (rot_none f2 f4 (by omega)).symm
                clear HR
                have R1 := hidE hr1; clear hr1
                go_wp2_with fail
                have x3 := U3.out; have x4 := U4.out
                have X3 := hidE x3; have X4 := hidE x4; clear x3 x4
                ((with_reducible refine (IH.out.app (a := M) (m := E) (b := b) (by omega) R1.out U0.out UO.out hF hD hb X3.out X4.out).mono ?_); rintro e w3 ⟨rfl, d3, hr3, hm3, hi3, hs3⟩)
                have R3 := hidE hr3; have M3 := hidE hm3; have I3 := hidE hi3; have S3 := hidE hs3; clear hr3 hm3 hi3 hs3
                go_wp2
                all_goals go_end0
                all_goals obtain ⟨y1, y2⟩ := fin_c (Nat.le_of_lt hMa) (Nat.le_of_lt hMb) (Mv.refl _ _ _) M3.out (sides_l U1.out U2.out f1 f3 (by omega)) S3.out U5.out
                all_goals exact ⟨rfl, _, R3.out, UM.out.trans y1, I3.out, y2⟩
              · have hF : M < E := by omega
                have tA : ((i : Int) < (m : Int)) := by omega
                have tB : ¬ ((m : Int) < (E : Int)) := by omega
                have tC : ¬ ((a : Int) < (i : Int)) := by omega
                have tD : ¬ ((E : Int) < (b : Int)) := by omega
                have tE : ¬ ((i : Int) < (M : Int)) := by omega
                have tF : ((M : Int) < (E : Int)) := by omega
                have hr1 := HR.out.ext (rot_none f2 f4 (by omega)).symm
                clear HR
                have R1 := hidE hr1; clear hr1
                go_wp2
                all_goals go_end0
                all_goals obtain ⟨y1, y2⟩ := fin_c (Nat.le_of_lt hMa) (Nat.le_of_lt hMb) (Mv.refl _ _ _) (Mv.refl _ _ _) (sides_l U1.out U2.out f1 f3 (by omega)) (sides_l U3.out U4.out (by omega) f5 (by omega)) U5.out
                all_goals exact ⟨rfl, _, R1.out, UM.out.trans y1, U0.out, y2⟩
        · by_cases hB : m < E
          · by_cases hC : a < i
            · by_cases hD : E < b
              · have hE : i < M := by omega
                have tA : ¬ ((i : Int) < (m : Int)) := by omega
                have tB : ((m : Int) < (E : Int)) := by omega
                have tC : ((a : Int) < (i : Int)) := by omega
                have tD : ((E : Int) < (b : Int)) := by omega
                have tE : ((i : Int) < (M : Int)) := by omega
                have tF : ¬ ((M : Int) < (E : Int)) := by omega
                have hr1 := HR.out.ext (rot_none f2 f4 (by omega)).symm
                clear HR
                have R1 := hidE hr1; clear hr1
                go_wp2_with fail
                ((with_reducible refine (IH.out.app (a := a) (m := i) (b := M) (by omega) R1.out U0.out UO.out hC hE (by omega) U1.out U2.out).mono ?_); rintro e w2 ⟨rfl, d2, hr2, hm2, hi2, hs2⟩)
                have o2 := UO.out.mv hm2 (by omega)
                have R2 := hidE hr2; have M2 := hidE hm2; have I2 := hidE hi2; have S2 := hidE hs2; have O2 := hidE o2; clear hr2 hm2 hi2 hs2 o2
                go_wp2
                all_goals go_end0
                all_goals obtain ⟨y1, y2⟩ := fin_c (Nat.le_of_lt hMa) (Nat.le_of_lt hMb) M2.out (Mv.refl _ _ _) S2.out (sides_l (U3.out.congr fun k (q1 : M ≤ k) (q2 : k < E) => M2.out.out k (.inr q1)) (U4.out.congr fun k (q1 : E ≤ k) (q2 : k < b) => M2.out.out k (.inr (by omega))) (by omega) f5 (by omega)) U5.out
                all_goals exact ⟨rfl, _, R2.out, UM.out.trans y1, I2.out, y2⟩
              · have hE : i < M := by omega
                have tA : ¬ ((i : Int) < (m : Int)) := by omega
                have tB : ((m : Int) < (E : Int)) := by omega
                have tC : ((a : Int) < (i : Int)) := by omega
                have tD : ¬ ((E : Int) < (b : Int)) := by omega
                have tE : ((i : Int) < (M : Int)) := by omega
                have tF : ¬ ((M : Int) < (E : Int)) := by omega
                have hr1 := HR.out.ext (rot_none f2 f4 (by omega)).symm
                clear HR
                have R1 := hidE hr1; clear hr1
                go_wp2_with fail
                ((with_reducible refine (IH.out.app (a := a) (m := i) (b := M) (by omega) R1.out U0.out UO.out hC hE (by omega) U1.out U2.out).mono ?_); rintro e w2 ⟨rfl, d2, hr2, hm2, hi2, hs2⟩)
                have o2 := UO.out.mv hm2 (by omega)
                have R2 := hidE hr2; have M2 := hidE hm2; have I2 := hidE hi2; have S2 := hidE hs2; have O2 := hidE o2; clear hr2 hm2 hi2 hs2 o2
                go_wp2
                all_goals go_end0
                all_goals obtain ⟨y1, y2⟩ := fin_c (Nat.le_of_lt hMa) (Nat.le_of_lt hMb) M2.out (Mv.refl _ _ _) S2.out (sides_l (U3.out.congr fun k (q1 : M ≤ k) (q2 : k < E) => M2.out.out k (.inr q1)) (U4.out.congr fun k (q1 : E ≤ k) (q2 : k < b) => M2.out.out k (.inr (by omega))) (by omega) f5 (by omega)) U5.out
                all_goals exact ⟨rfl, _, R2.out, UM.out.trans y1, I2.out, y2⟩
            · by_cases hD : E < b
              · have hE : i < M := by omega
                have tA : ¬ ((i : Int) < (m : Int)) := by omega
                have tB : ((m : Int) < (E : Int)) := by omega
                have tC : ¬ ((a : Int) < (i : Int)) := by omega
                have tD : ((E : Int) < (b : Int)) := by omega
                have tE : ((i : Int) < (M : Int)) := by omega
                have tF : ¬ ((M : Int) < (E : Int)) := by omega
                have hr1 := HR.out.ext (rot_none f2 f4 (by omega)).symm
                clear HR
                have R1 := hidE hr1; clear hr1
                go_wp2
                all_goals go_end0
                all_goals obtain ⟨y1, y2⟩ := fin_c (Nat.le_of_lt hMa) (Nat.le_of_lt hMb) (Mv.refl _ _ _) (Mv.refl _ _ _) (sides_l U1.out U2.out f1 f3 (by omega)) (sides_l U3.out U4.out (by omega) f5 (by omega)) U5.out
                all_goals exact ⟨rfl, _, R1.out, UM.out.trans y1, U0.out, y2⟩
              · have hE : i < M := by omega
                have tA : ¬ ((i : Int) < (m : Int)) := by omega
                have tB : ((m : Int) < (E : Int)) := by omega
                have tC : ¬ ((a : Int) < (i : Int)) := by omega
                have tD : ¬ ((E : Int) < (b : Int)) := by omega
                have tE : ((i : Int) < (M : Int)) := by omega
                have tF : ¬ ((M : Int) < (E : Int)) := by omega
                have hr1 := HR.out.ext (rot_none f2 f4 (by omega)).symm
                clear HR
                have R1 := hidE hr1; clear hr1
                go_wp2
                all_goals go_end0
                all_goals obtain ⟨y1, y2⟩ := fin_c (Nat.le_of_lt hMa) (Nat.le_of_lt hMb) (Mv.refl _ _ _) (Mv.refl _ _ _) (sides_l U1.out U2.out f1 f3 (by omega)) (sides_l U3.out U4.out (by omega) f5 (by omega)) U5.out
                all_goals exact ⟨rfl, _, R1.out, UM.out.trans y1, U0.out, y2⟩
          · by_cases hC : a < i
            · by_cases hD : E < b
              · have tA : ¬ ((i : Int) < (m : Int)) := by omega
                have tB : ¬ ((m : Int) < (E : Int)) := by omega
                have tC : ((a : Int) < (i : Int)) := by omega
                have tD : ((E : Int) < (b : Int)) := by omega
                have tE : ¬ ((i : Int) < (M : Int)) := by omega
                have tF : ¬ ((M : Int) < (E : Int)) := by omega
                have hr1 := HR.out.ext (rot_none f2 f4 (by omega)).symm
                clear HR
                have R1 := hidE hr1; clear hr1
                go_wp2
                all_goals go_end0
                all_goals obtain ⟨y1, y2⟩ := fin_c (Nat.le_of_lt hMa) (Nat.le_of_lt hMb) (Mv.refl _ _ _) (Mv.refl _ _ _) (sides_l U1.out U2.out f1 f3 (by omega)) (sides_l U3.out U4.out (by omega) f5 (by omega)) U5.out
                all_goals exact ⟨rfl, _, R1.out, UM.out.trans y1, U0.out, y2⟩
              · have tA : ¬ ((i : Int) < (m : Int)) := by omega
                have tB : ¬ ((m : Int) < (E : Int)) := by omega
                have tC : ((a : Int) < (i : Int)) := by omega
                have tD : ¬ ((E : Int) < (b : Int)) := by omega
                have tE : ¬ ((i : Int) < (M : Int)) := by omega
                have tF : ¬ ((M : Int) < (E : Int)) := by omega
                have hr1 := HR.out.ext (rot_none f2 f4 (by omega)).symm
                clear HR
                have R1 := hidE hr1; clear hr1
                go_wp2
                all_goals go_end0
                all_goals obtain ⟨y1, y2⟩ := fin_c (Nat.le_of_lt hMa) (Nat.le_of_lt hMb) (Mv.refl _ _ _) (Mv.refl _ _ _) (sides_l U1.out U2.out f1 f3 (by omega)) (sides_l U3.out U4.out (by omega) f5 (by omega)) U5.out
                all_goals exact ⟨rfl, _, R1.out, UM.out.trans y1, U0.out, y2⟩
            · by_cases hD : E < b
              · have tA : ¬ ((i : Int) < (m : Int)) := by omega
                have tB : ¬ ((m : Int) < (E : Int)) := by omega
                have tC : ¬ ((a : Int) < (i : Int)) := by omega
                have tD : ((E : Int) < (b : Int)) := by omega
                have tE : ¬ ((i : Int) < (M : Int)) := by omega
                have tF : ¬ ((M : Int) < (E : Int)) := by omega
                have hr1 := HR.out.ext (rot_none f2 f4 (by omega)).symm
                clear HR
                have R1 := hidE hr1; clear hr1
                go_wp2
                all_goals go_end0
                all_goals obtain ⟨y1, y2⟩ := fin_c (Nat.le_of_lt hMa) (Nat.le_of_lt hMb) (Mv.refl _ _ _) (Mv.refl _ _ _) (sides_l U1.out U2.out f1 f3 (by omega)) (sides_l U3.out U4.out (by omega) f5 (by omega)) U5.out
                all_goals exact ⟨rfl, _, R1.out, UM.out.trans y1, U0.out, y2⟩
              · have tA : ¬ ((i : Int) < (m : Int)) := by omega
                have tB : ¬ ((m : Int) < (E : Int)) := by omega
                have tC : ¬ ((a : Int) < (i : Int)) := by omega
                have tD : ¬ ((E : Int) < (b : Int)) := by omega
                have tE : ¬ ((i : Int) < (M : Int)) := by omega
                have tF : ¬ ((M : Int) < (E : Int)) := by omega
                have hr1 := HR.out.ext (rot_none f2 f4 (by omega)).symm
                clear HR
                have R1 := hidE hr1; clear hr1
                go_wp2
                all_goals go_end0
                all_goals obtain ⟨y1, y2⟩ := fin_c (Nat.le_of_lt hMa) (Nat.le_of_lt hMb) (Mv.refl _ _ _) (Mv.refl _ _ _) (sides_l U1.out U2.out f1 f3 (by omega)) (sides_l U3.out U4.out (by omega) f5 (by omega)) U5.out
                all_goals exact ⟨rfl, _, R1.out, UM.out.trans y1, U0.out, y2⟩

theorem symMerge_c (w0 : World) (blk n cap : Nat) (t : TypeId) (K : Nat → Int) (recv : Value) (hC : Cmps w0 blk n recv K) (hn : n ≤ 4611686018427387904) : ∀ N, SymIH w0 blk n cap t K recv N := by
  intro N
  induction N with
  | zero => intro w a m b d hN _ _ _ h1 h2; omega
  | succ N ih =>
    intro w a m b d hN hR hI hO ham hmb hb hs1 hs2
    by_cases c1 : m ≤ a + 1
    · exact symMerge_up w0 w blk n cap a m b t K recv d hR hC hI hO ham c1 hmb hb hn hs2
    · by_cases c2 : b ≤ m + 1
      · exact symMerge_dn w0 w blk n cap a m b t K recv d hR hC hI hO (by omega) hmb c2 hb hn hs1
      · obtain ⟨M, hM⟩ : ∃ M, (a + b) / 2 = M := ⟨_, rfl⟩
        by_cases c3 : M < m
        · exact symMerge_mid w0 w blk n cap a m b N M (M + m - b) M t K recv d hR hC hI hO (by omega) (by omega) hb hn hs1 hs2 ih hN hM (.inl ⟨c3, by omega, rfl⟩)
        · exact symMerge_mid w0 w blk n cap a m b N M a m t K recv d hR hC hI hO (by omega) (by omega) hb hn hs1 hs2 ih hN hM (.inr ⟨by omega, rfl, rfl⟩)
end Go.Proofs.Ytgflbidagdcfmaa

namespace Go.Proofs.Ytgflbidagdcfmaa
open Go.ChangeShapes Go.WideShapes Go.ChangeAt Go.RowKit
attribute [local irreducible] Go.Calls

section
variable {K : Nat → Int} {n bs a : Nat} {d d' : Nat → Nat}
/-- Each block of bs places is in order. -/
def Bl (K : Nat → Int) (n bs : Nat) (d : Nat → Nat) : Prop := ∀ q, q * bs < n → Srt K (q * bs) (min (q * bs + bs) n) d
/-- Blocks are in order up to a. -/
def Bi (K : Nat → Int) (n bs a : Nat) (d : Nat → Nat) : Prop := (∃ Q, a = Q * bs) ∧ ∀ q, q * bs < a → Srt K (q * bs) (min (q * bs + bs) n) d
theorem lt_q {q Q x : Nat} (h : q * x < Q * x + x) : q ≤ Q := by
  rcases Nat.lt_or_ge Q q with c | c
  · have := Nat.mul_le_mul_right x c
    rw [Nat.succ_mul] at this
    omega
  · exact c
theorem le_q {q Q x : Nat} (h : q < Q) : q * x + x ≤ Q * x := by
  have := Nat.mul_le_mul_right x h
  rw [Nat.succ_mul] at this
  exact this
theorem bi_start (K : Nat → Int) (n bs : Nat) (d : Nat → Nat) : Bi K n bs 0 d := ⟨⟨0, by simp⟩, fun q h => by omega⟩
theorem bi_step (h : Bi K n bs a d) (hn : a + bs ≤ n) (hm : Mv a (a + bs) d d') (hs : Srt K a (a + bs) d') : Bi K n bs (a + bs) d' := by
  obtain ⟨⟨Q, rfl⟩, h2⟩ := h
  refine ⟨⟨Q + 1, by rw [Nat.succ_mul]⟩, fun q hq => ?_⟩
  have hqQ := lt_q hq
  rcases Nat.lt_or_ge q Q with c | c
  · have := le_q (x := bs) c
    by_cases z : bs = 0
    · subst z; exact srt_one _ _ _ (by omega)
    · exact (h2 q (by omega)).congr fun k q1 q2 => hm.out k (.inl (by omega))
  · have : q = Q := by omega
    subst this
    rw [Nat.min_eq_left hn]; exact hs
theorem bi_end (h : Bi K n bs a d) (hn : n < a + bs) (hm : Mv a n d d') (hs : Srt K a n d') : Bl K n bs d' := by
  obtain ⟨⟨Q, rfl⟩, h2⟩ := h
  intro q hq
  have hqQ := lt_q (Nat.lt_trans hq hn)
  rcases Nat.lt_or_ge q Q with c | c
  · have := le_q (x := bs) c
    by_cases z : bs = 0
    · subst z; exact srt_one _ _ _ (by omega)
    · exact (h2 q (by omega)).congr fun k q1 q2 => hm.out k (.inl (by omega))
  · have : q = Q := by omega
    subst this
    exact hs.mono (Nat.le_refl _) (Nat.min_le_right _ _)

/-- Blocks of twice the size up to a, of the size from a on. -/
def Bu (K : Nat → Int) (n bs a : Nat) (d : Nat → Nat) : Prop := Bi K n (2 * bs) a d ∧ ∀ q, a ≤ q * bs → q * bs < n → Srt K (q * bs) (min (q * bs + bs) n) d
theorem bu_start (h : Bl K n bs d) : Bu K n bs 0 d := ⟨bi_start K n _ d, fun q _ h2 => h q h2⟩
theorem dbl (Q bs : Nat) : Q * (2 * bs) = (2 * Q) * bs := by rw [← Nat.mul_assoc, Nat.mul_comm Q 2]
theorem bu_parts (h : Bu K n bs a d) : (a < n → Srt K a (min (a + bs) n) d) ∧ (a + bs < n → Srt K (a + bs) (min (a + bs + bs) n) d) := by
  obtain ⟨⟨⟨Q, hQ⟩, h1⟩, h2⟩ := h
  rw [dbl] at hQ
  refine ⟨fun c => ?_, fun c => ?_⟩
  · have := h2 (2 * Q) (by omega) (by omega)
    rw [← hQ] at this; exact this
  · have := h2 (2 * Q + 1) (by rw [Nat.succ_mul]; omega) (by rw [Nat.succ_mul]; omega)
    rw [Nat.succ_mul, ← hQ] at this; exact this
theorem bu_step (h : Bu K n bs a d) (hn : a + 2 * bs ≤ n) (hm : Mv a (a + 2 * bs) d d') (hs : Srt K a (a + 2 * bs) d') : Bu K n bs (a + 2 * bs) d' :=
  ⟨bi_step h.1 hn hm hs, fun q h1 h2 => (h.2 q (by omega) h2).congr fun k q1 q2 => hm.out k (.inr (by omega))⟩
theorem bu_end (h : Bu K n bs a d) (hn : n < a + 2 * bs) (hm : Mv a n d d') (hs : Srt K a n d') : Bl K n (2 * bs) d' := bi_end h.1 hn hm hs
theorem bu_end0 (h : Bu K n bs a d) (hn : n < a + 2 * bs) (h2 : n ≤ a + bs) : Bl K n (2 * bs) d := by
  refine bi_end h.1 hn (Mv.refl _ _ _) ?_
  by_cases c : a < n
  · have := (bu_parts h).1 c
    rw [Nat.min_eq_right h2] at this; exact this
  · exact srt_one _ _ _ (by omega)
theorem bl_whole (h : Bl K n bs d) (hn : n ≤ bs) : Srt K 0 n d := by
  by_cases c : 0 < n
  · have := h 0 (by omega)
    simp only [Nat.zero_mul, Nat.zero_add] at this
    rw [Nat.min_eq_right hn] at this; exact this
  · exact srt_one _ _ _ (by omega)
end

theorem insertion_eq {w0 w : World} {blk n cap a b : Nat} {x y : Int} {t : TypeId} {K : Nat → Int} {recv : Value} {d : Nat → Nat} (h : RowW w0 blk n t d w) (hC : Cmps w0 blk n recv K) (hI : Inv K n d) (hO : Okd n d) (hx : x = a) (hy : y = b) (hab : a ≤ b) (hb : b ≤ n) (hn : n ≤ 4611686018427387904) :
    Calls Try.prog 110 #[.slice (some ⟨blk, 0, none⟩) n cap, .int .i64 x, .int .i64 y, .func (.func 102) #[recv] #[]] w (SrtTo w0 blk n t K a b d) := by
  subst hx; subst hy; exact insertion_c w0 w blk n cap a b t K recv d h hC hI hO hab hb hn
theorem symMerge_eq {w0 w : World} {blk n cap a m b : Nat} {x y z : Int} {t : TypeId} {K : Nat → Int} {recv : Value} {d : Nat → Nat} (h : RowW w0 blk n t d w) (hC : Cmps w0 blk n recv K) (hI : Inv K n d) (hO : Okd n d) (hx : x = a) (hy : y = m) (hz : z = b) (ham : a < m) (hmb : m < b) (hb : b ≤ n) (hn : n ≤ 4611686018427387904) (h1 : Srt K a m d) (h2 : Srt K m b d) :
    Calls Try.prog 111 #[.slice (some ⟨blk, 0, none⟩) n cap, .int .i64 x, .int .i64 y, .int .i64 z, .func (.func 102) #[recv] #[]] w (SrtTo w0 blk n t K a b d) := by
  subst hx; subst hy; subst hz; exact symMerge_c w0 blk n cap t K recv hC hn (b - a) w a m b d (Nat.le_refl _) h hI hO ham hmb hb h1 h2

set_option maxRecDepth 100000 in
set_option maxHeartbeats 8000000 in
theorem stable_c (w0 w : World) (blk n cap : Nat) (t : TypeId) (K : Nat → Int) (recv : Value) (d : Nat → Nat) (h : RowW w0 blk n t d w) (hC : Cmps w0 blk n recv K) (hI : Inv K n d) (hO : Okd n d) (hn : n ≤ 2305843009213693952) :
    Calls Try.prog 108 #[.slice (some ⟨blk, 0, none⟩) n cap, .int .i64 n, .func (.func 102) #[recv] #[]] w (SrtTo w0 blk n t K 0 n d) := by
  have H := hidE h; have HC := hidE hC; have HI := hidE hI; have HO := hidE hO
  clear h hC hI hO
  go_enter Try.func108, Try.ntmps108
  go_wp2
  go_loopg [7, 8] n (fun g1 va vb wr => ∃ (a : Nat) (dk : Nat → Nat), va = .int .i64 a ∧ vb = .int .i64 ((a : Int) + 20) ∧ a ≤ n ∧ n - a ≤ g1 ∧ RowW w0 blk n t dk wr ∧ Mv 0 n d dk ∧ Inv K n dk ∧ Bi K n 20 a dk)
  case atStart => exact ⟨0, d, rfl, rfl, by omega, by omega, H.out, Mv.refl _ _ _, HI.out, bi_start _ _ _ _⟩
  case round =>
    obtain ⟨a, dk, rfl, rfl, han, hg1, hr, hm, hi, hb⟩ := hrel
    have HR := hidE hr; have HM := hidE hm; have HJ := hidE hi; have HB := hidE hb
    have HOK := hidE (HO.out.mv hm (Nat.le_refl _))
    clear hr hm hi hb
    by_cases hlt : a + 20 ≤ n
    · have hltz : (a : Int) + 20 ≤ (n : Int) := by omega
      go_wp2_with (go_at_call 110; ((with_reducible refine (insertion_eq (a := a) (b := a + 20) HR.out HC.out HJ.out HOK.out rfl (by omega) (by omega) (by omega) (by omega)).mono ?_); rintro e w1 ⟨rfl, d1, hr1, hm1, hi1, hs1⟩))
      go_roundg (n - (a + 20))
      case measure => omega
      case rel => exact ⟨a + 20, d1, by go_num, by go_num, by omega, by omega, hr1, HM.out.trans (hm1.mono (by omega) (by omega)), hi1, bi_step HB.out hlt hm1 hs1⟩
    · have hltz : ¬ (a : Int) + 20 ≤ (n : Int) := by omega
      go_wp2_with (go_at_call 110; ((with_reducible refine (insertion_eq (a := a) (b := n) HR.out HC.out HJ.out HOK.out rfl rfl (by omega) (by omega) (by omega)).mono ?_); rintro e w1 ⟨rfl, d1, hr1, hm1, hi1, hs1⟩))
      have R1 := hidE hr1; have M1 := hidE (HM.out.trans (hm1.mono (by omega) (by omega))); have I1 := hidE hi1; have B1 := hidE (bi_end HB.out (by omega) hm1 hs1)
      clear hr1 hm1 hi1 hs1 HR HM HJ HB HOK
      go_loopg [6, 7, 8, 9] n (fun g2 vs va vb vm wr2 => ∃ (bs : Nat) (dk : Nat → Nat), vs = .int .i64 bs ∧ 0 < bs ∧ bs ≤ 2 * n + 20 ∧ n - bs ≤ g2 ∧ RowW w0 blk n t dk wr2 ∧ Mv 0 n d dk ∧ Inv K n dk ∧ Bl K n bs dk)
      case atStart => exact ⟨20, d1, rfl, by omega, by omega, by omega, R1.out, M1.out, I1.out, B1.out⟩
      case round =>
        clear R1 M1 I1 B1
        obtain ⟨bs, dk, rfl, hbs, hbn, hg2, hr, hm, hi, hb⟩ := hrel
        have HR := hidE hr; have HM := hidE hm; have HJ := hidE hi; have HB := hidE hb
        clear hr hm hi hb
        by_cases hlt : bs < n
        · have hltz : (bs : Int) < (n : Int) := by omega
          obtain ⟨wo, rfl⟩ : ∃ wo : World, wo = wr := ⟨_, rfl⟩
          go_wp2
          go_loopg [7, 8] n (fun g3 va vb wr3 => ∃ (a : Nat) (dk : Nat → Nat), va = .int .i64 a ∧ vb = .int .i64 ((a : Int) + 2 * (bs : Int)) ∧ a ≤ n ∧ n - a ≤ g3 ∧ RowW w0 blk n t dk wr3 ∧ Mv 0 n d dk ∧ Inv K n dk ∧ Bu K n bs a dk)
          case atStart => exact ⟨0, dk, rfl, by go_num, by omega, by omega, HR.out, HM.out, HJ.out, bu_start HB.out⟩
          case round =>
            clear HR HM HJ HB
            obtain ⟨a, dk, rfl, rfl, han, hg3, hr, hm, hi, hb⟩ := hrel
            have HR := hidE hr; have HM := hidE hm; have HJ := hidE hi; have HB := hidE hb
            have HOK := hidE (HO.out.mv hm (Nat.le_refl _))
            have hp := bu_parts hb
            have HP := hidE hp
            clear hr hm hi hb hp
            by_cases hle : a + 2 * bs ≤ n
            · have hlez : (a : Int) + 2 * (bs : Int) ≤ (n : Int) := by omega
              have x1 := HP.out.1 (by omega)
              have x2 := HP.out.2 (by omega)
              rw [Nat.min_eq_left (by omega)] at x1 x2
              have X1 := hidE x1; have X2 := hidE (x2.mono (Nat.le_refl _) (show a + 2 * bs ≤ a + bs + bs by omega)); clear x1 x2
              go_wp2_with (go_at_call 111; ((with_reducible refine (symMerge_eq (a := a) (m := a + bs) (b := a + 2 * bs) HR.out HC.out HJ.out HOK.out rfl (by omega) (by omega) (by omega) (by omega) (by omega) (by omega) X1.out X2.out).mono ?_); rintro e w1 ⟨rfl, d1, hr1, hm1, hi1, hs1⟩))
              go_roundg (n - (a + 2 * bs))
              case measure => omega
              case rel => exact ⟨a + 2 * bs, d1, by go_num, by go_num, by omega, by omega, hr1, HM.out.trans (hm1.mono (by omega) (by omega)), hi1, bu_step HB.out hle hm1 hs1⟩
            · have hlez : ¬ (a : Int) + 2 * (bs : Int) ≤ (n : Int) := by omega
              by_cases hmn : a + bs < n
              · have hmz : (a : Int) + (bs : Int) < (n : Int) := by omega
                have x1 := HP.out.1 (by omega)
                have x2 := HP.out.2 (by omega)
                rw [Nat.min_eq_left (by omega)] at x1
                rw [Nat.min_eq_right (by omega)] at x2
                have X1 := hidE x1; have X2 := hidE x2; clear x1 x2
                go_wp2_with (go_at_call 111; ((with_reducible refine (symMerge_eq (a := a) (m := a + bs) (b := n) HR.out HC.out HJ.out HOK.out rfl (by omega) rfl (by omega) (by omega) (by omega) (by omega) X1.out X2.out).mono ?_); rintro e w1 ⟨rfl, d1, hr1, hm1, hi1, hs1⟩))
                go_roundg (n - 2 * bs)
                case measure => omega
                case rel => exact ⟨2 * bs, d1, by go_num, by omega, by omega, by omega, hr1, HM.out.trans (hm1.mono (by omega) (by omega)), hi1, bu_end HB.out (by omega) hm1 hs1⟩
              · have hmz : ¬ (a : Int) + (bs : Int) < (n : Int) := by omega
                have HZ := hidE (bu_end0 HB.out (by omega) (by omega))
                go_wp2
                go_roundg (n - 2 * bs)
                case measure => omega
                case rel => exact ⟨2 * bs, dk, by go_num, by omega, by omega, by omega, HR.out, HM.out, HJ.out, HZ.out⟩
        · have hltz : ¬ (bs : Int) < (n : Int) := by omega
          go_wp2
          go_end0
          exact ⟨rfl, dk, HR.out, HM.out, HJ.out, bl_whole HB.out (by omega)⟩

theorem sortStable_c (w0 w : World) (blk n cap : Nat) (t : TypeId) (K : Nat → Int) (recv : Value) (d : Nat → Nat) (h : RowW w0 blk n t d w) (hC : Cmps w0 blk n recv K) (hI : Inv K n d) (hO : Okd n d) (hn : n ≤ 2305843009213693952) :
    Calls Try.prog 101 #[.slice (some ⟨blk, 0, none⟩) n cap, .func (.func 102) #[recv] #[]] w (SrtTo w0 blk n t K 0 n d) := by
  have HK := hidE (stable_c w0 w blk n cap t K recv d h hC hI hO hn)
  clear h hC hI hO
  go_enter Try.func101, Try.ntmps101
  go_wp2_with (go_at_call 108; ((with_reducible refine (HK.out).mono ?_); rintro e w1 ⟨rfl, hx⟩))
  go_end0
  exact ⟨rfl, hx⟩
end Go.Proofs.Ytgflbidagdcfmaa

namespace Go.Proofs.Ytgflbidagdcfmaa
open Go.ChangeShapes Go.WideShapes Go.ChangeAt Go.RowKit
attribute [local irreducible] Go.Calls

theorem Try.infoInt : (Try.prog.info? 3).map (fun i => (i.zero, i.size, i.bytes)) = some (some (.int .i64 0), 1, 8) := by kernel_rfl

theorem madeInts (n : Nat) : madeCells #[.int .i64 0] (n * 1) = rowC n (fun _ => 0) := by
  apply Array.ext'
  rw [Nat.mul_one, toList_madeCells_one]
  apply List.ext_getElem
  · simp [rowC]
  · intro i h1 h2
    simp [rowC]

theorem make_ints (n : Nat) (hn : n ≤ 1099511627776) : ∀ w, (Instr.makeSlice 107 (.int .i64 (n : Int)) (.int .i64 (n : Int))).run Try.prog w = .ok (.slice (some ⟨w.heap.size, 0, none⟩) n n) (w.alloc (.cells (rowC n (fun _ => 0)) 3)) := by
  intro w
  obtain ⟨i0, hi, hz0, hz1, hz2⟩ := info_parts Try.infoInt
  have h := run_make (P := Try.prog) w 107 3 i0 (.int .i64 0) Try.underlying107 hi hz0 .i64 .i64 n n (by omega) (by omega) (by rw [hz2]; omega) (by omega)
  rw [h]
  simp only [Int.toNat_natCast, hz1, Value.cells]
  rw [madeInts]

/-- The first k places hold their own numbers. -/
def ordI (k : Nat) : Nat → Nat := fun j => if j < k then j else 0
theorem ordI_step (k : Nat) : (fun j => if j = k then k else ordI k j) = ordI (k + 1) := by
  funext j
  unfold ordI
  by_cases c : j = k
  · subst c; rw [if_pos rfl, if_pos (by omega)]
  · rw [if_neg c]
    by_cases c2 : j < k
    · rw [if_pos c2, if_pos (by omega)]
    · rw [if_neg c2, if_neg (by omega)]

theorem cmps_runs {l : List Sg} {a : Option Addr} {cap : Nat} {w : World} (hl : l.length ≤ 9223372036854775807) (hA : ArgS w a l) : Cmps w w.heap.size l.length (.slice a l.length cap) (ats l) := by
  intro w1 hb x y hx hy
  obtain ⟨b, off, rfl, h1, h2⟩ := hA.past hb (by omega)
  exact cmpRuns_c l b off cap x y w1 h1 hl h2 hx hy

def OrdPost (w : World) (l : List Sg) (e : Ending) (w' : World) : Prop :=
  ∃ p d, e = .returned (.slice (some ⟨p, 0, none⟩) l.length l.length) ∧ w.heap.size ≤ p ∧ Blk w' p (rowC l.length d) 3 ∧ Below w.heap.size w w' ∧ Mv 0 l.length id d ∧ Srt (ats l) 0 l.length d

set_option maxHeartbeats 1000000 in
theorem inOrder_c (l : List Sg) (a : Option Addr) (cap : Nat) (w : World) (hl : l.length ≤ 1099511627776) (hA : ArgS w a l) :
    Calls Try.prog 87 #[.slice a l.length cap] w (OrdPost w l) := by
  have HC := hidE (cmps_runs (cap := cap) (by omega) hA)
  obtain ⟨n, hn⟩ : ∃ n, n = l.length := ⟨_, rfl⟩
  have HN := hidE hn
  rw [← hn] at hl HC ⊢
  have hmk := make_ints n hl
  clear hA
  have HMK := hidE hmk; clear hmk hn
  go_enter Try.func87, Try.ntmps87
  go_upto_region 1 with fail
  have hmk := HMK.out w
  go_wp2_with fail
  clear hmk
  go_loopw [10, 4] (fun i _ wr => ∃ k : Nat, k ≤ n ∧ i = .int .i64 k ∧ RowW w w.heap.size n 3 (ordI k) wr) (fun i _ _ => n - (intOf i).toNat)
  case atStart => exact ⟨0, Nat.zero_le _, rfl, ⟨Blk.made _ _ _, by (repeat (first | exact Below.refl _ _ | assumption | refine balloc ?_ _ | refine below_drewN ?_ _ | refine bstep (by assumption) ?_ | refine bstep (Past.prop _) ?_ | refine Below.setCell ?_ (by first | exact Nat.le_refl _ | (simp; done) | (simp; omega)) _))⟩⟩
  case round =>
    obtain ⟨k, hk, rfl, hr⟩ := hrel
    by_cases hlt : k < n
    · have c1 := hr.cell (i := k) hlt
      have f1 := hr.free k
      have HR := hidE ((hr.set k k).ext (ordI_step k)); clear hr
      go_wp2
      go_roundw
      case rel => exact ⟨k + 1, by omega, by go_num, HR.out⟩
      case measure => simp [intOf]; omega
    · have hk' : k = n := by omega
      subst hk'
      have hrow : RowW w w.heap.size k 3 id wr := ⟨by
        have e := rowC_ext (n := k) (d := ordI k) (d' := id) (fun i hi => by unfold ordI; rw [if_pos hi]; rfl)
        rw [← e]; exact hr.here, hr.low⟩
      have HR := hidE hrow; clear hr hrow
      have HI := hidE (show Inv (ats l) k id from fun i j h1 h2 => .inr h1)
      have HO := hidE (show Okd k id from fun i hi => hi)
      go_wp2_with (go_at_call 101; ((with_reducible refine (sortStable_c w _ w.heap.size k k 3 (ats l) (.slice a k cap) id HR.out HC.out HI.out HO.out (by omega)).mono ?_); rintro e w1 ⟨rfl, d1, hr1, hm1, hi1, hs1⟩))
      go_ret
      have e := HN.out
      subst e
      exact ⟨_, d1, rfl, Nat.le_refl _, hr1.here, hr1.low, hm1, hs1⟩
end Go.Proofs.Ytgflbidagdcfmaa

namespace Go.Proofs.Ytgflbidagdcfmaa
open Go.ChangeShapes Go.WideShapes Go.ChangeAt Go.RowKit
attribute [local irreducible] Go.Calls

theorem cmpr_nil (last : Int × Int) : cmpr last [] = [] := rfl
/-- One step of the compressing, at the place k of the order. -/
theorem cmpr_skip {s : List Sg} {k : Nat} {last : Int × Int} (h : k + 1 < s.length) (e : ats s (k + 1) = ats s k) : cmpr last (s.drop k) = cmpr last (s.drop (k + 1)) := by
  unfold ats at e
  rw [drop_cons (k := k) (by omega), drop_cons h]
  conv => lhs; unfold cmpr
  rw [if_pos e]
theorem cmpr_same {s : List Sg} {k : Nat} {last : Int × Int} (h : k < s.length) (e : k + 1 < s.length → ats s (k + 1) ≠ ats s k) (e2 : vls s k = last) : cmpr last (s.drop k) = cmpr (vls s k) (s.drop (k + 1)) := by
  rw [e2]
  unfold ats at e; unfold vls at e2
  by_cases c : k + 1 < s.length
  · rw [drop_cons (k := k) h, drop_cons c]
    conv => lhs; unfold cmpr
    rw [if_neg (e c), if_pos e2]
  · rw [drop_cons (k := k) h, List.drop_eq_nil_of_le (by omega : s.length ≤ k + 1)]
    unfold cmpr
    rw [if_pos e2]
theorem cmpr_new {s : List Sg} {k : Nat} {last : Int × Int} (h : k < s.length) (e : k + 1 < s.length → ats s (k + 1) ≠ ats s k) (e2 : vls s k ≠ last) : cmpr last (s.drop k) = s.getD k (0, 0, 0)   :: cmpr (vls s k) (s.drop (k + 1)) := by
  unfold ats at e; unfold vls at e2 ⊢
  by_cases c : k + 1 < s.length
  · rw [drop_cons (k := k) h, drop_cons c]
    conv => lhs; unfold cmpr
    rw [if_neg (e c), if_neg e2]
  · rw [drop_cons (k := k) h, List.drop_eq_nil_of_le (by omega : s.length ≤ k + 1)]
    unfold cmpr
    rw [if_neg e2]

set_option maxRecDepth 100000 in
set_option maxHeartbeats 4000000 in
theorem of_c (l : List Sg) (a : Option Addr) (cap : Nat) (w : World) (hl : l.length ≤ 1099511627776) (hA : ArgS w a l) :
    Calls Try.prog 63 #[.slice a l.length cap] w (OfPost w l) := by
  have HA := hidE hA; clear hA
  go_enter Try.func63, Try.ntmps63
  go_wp2
  go_loopg [13] l.length (fun g vi wr => ∃ k : Nat, k ≤ l.length ∧ l.length - k ≤ g ∧ vi = .int .i64 k ∧ (∀ i, i < k → okS (l.getD i (0, 0, 0)) = true) ∧ Below w.heap.size w wr)
  case atStart => exact ⟨0, Nat.zero_le _, by omega, rfl, fun i hi => by omega, Below.refl _ _⟩
  case round =>
    obtain ⟨k, hk, hg, rfl, hs, hb⟩ := hrel
    have HS := hidE hs; have HB := hidE hb; clear hs hb
    by_cases hlt : k < l.length
    · obtain ⟨b, off, rfl, hb, hc⟩ := (HA.out.past HB.out) (by omega)
      obtain ⟨c0, c1, c2⟩ := hc.get hlt
      clear hc
      cases hok : okS (l.getD k (0, 0, 0))
      · have HX := hidE (all_bad hlt hok)
        have HV := hidE (fun w => valid_c (l.getD k (0, 0, 0)) w)
        rw [hok] at HV
        change Hid (∀ w, Calls _ _ #[S (ats l k) (vls l k).1 (vls l k).2] _ _) at HV
        generalize ats l k = u at *
        generalize vls l k = v at *
        go_wp2_with (go_at_call 58; ((with_reducible refine (HV.out _).mono ?_); rintro e w1 ⟨rfl, hb1⟩))
        go_ret2
        exact ⟨_, [], 10, rfl, sliS_nil _, .inr ⟨HX.out, rfl, rfl⟩, by have := HB.out; (repeat (first | exact Below.refl _ _ | assumption | refine balloc ?_ _ | refine below_drewN ?_ _ | refine bstep (by assumption) ?_ | refine bstep (Past.prop _) ?_ | refine Below.setCell ?_ (by first | exact Nat.le_refl _ | (simp; done) | (simp; omega)) _))⟩
      · have HX := hidE (show ∀ i, i < k + 1 → okS (l.getD i (0, 0, 0)) = true from fun i hi => by
          by_cases e : i = k
          · rw [e]; exact hok
          · exact HS.out i (by omega))
        have HV := hidE (fun w => valid_c (l.getD k (0, 0, 0)) w)
        rw [hok] at HV
        change Hid (∀ w, Calls _ _ #[S (ats l k) (vls l k).1 (vls l k).2] _ _) at HV
        generalize ats l k = u at *
        generalize vls l k = v at *
        go_wp2_with (go_at_call 58; ((with_reducible refine (HV.out _).mono ?_); rintro e w1 ⟨rfl, hb1⟩))
        go_roundg (l.length - (k + 1))
        case measure => omega
        case rel => exact ⟨k + 1, by omega, Nat.le_refl _, by go_num, HX.out, by have := HB.out; (repeat (first | exact Below.refl _ _ | assumption | refine balloc ?_ _ | refine below_drewN ?_ _ | refine bstep (by assumption) ?_ | refine bstep (Past.prop _) ?_ | refine Below.setCell ?_ (by first | exact Nat.le_refl _ | (simp; done) | (simp; omega)) _))⟩
    · have hk' : k = l.length := by omega
      subst hk'
      have HX := hidE (all_good HS.out)
      clear HS
      go_wp2_with fail
      ((with_reducible refine (changing_c _).mono ?_); rintro e w1 ⟨rfl, rfl⟩)
      have hb0 : Below w.heap.size w (wr.alloc (.cells #[.int .i64 0, .int .i64 0] 36)) := by have := HB.out; (repeat (first | exact Below.refl _ _ | assumption | refine balloc ?_ _ | refine below_drewN ?_ _ | refine bstep (by assumption) ?_ | refine bstep (Past.prop _) ?_ | refine Below.setCell ?_ (by first | exact Nat.le_refl _ | (simp; done) | (simp; omega)) _))
      have hp0 : w.heap.size ≤ wr.heap.size := HB.out.size
      have B0 : Blk (wr.alloc (.cells #[.int .i64 0, .int .i64 0] 36)) wr.heap.size #[.int .i64 0, .int .i64 0] 36 := Blk.made _ _ _
      have HB0 := hidE hb0; have HBL := hidE B0
      clear hb0 B0 HB hg
      obtain ⟨p, hp⟩ : ∃ p, p = wr.heap.size := ⟨_, rfl⟩
      rw [← hp] at hp0 HBL ⊢
      generalize wr.alloc (.cells #[.int .i64 0, .int .i64 0] 36) = w1 at *
      clear hp
      go_wp2_with fail
      ((with_reducible refine (inOrder_c l a cap _ hl (HA.out.past HB0.out)).mono ?_); rintro e w2 ⟨q, d, rfl, hq, hbq, hb2, hm, hs⟩)
      have HIS := hidE (isOf_cmpr hm hs (fun x hx => List.all_eq_true.1 HX.out x hx))
      have HOD := hidE (show Okd l.length d from fun k hk => by
        obtain ⟨k', _, q2, e⟩ := hm.inn k (Nat.zero_le _) hk
        rw [e]; exact q2)
      have hpl := HBL.out.lt
      have HB2 := hidE (show Below w.heap.size w w2 by have := HB0.out; (repeat (first | exact Below.refl _ _ | assumption | refine balloc ?_ _ | refine below_drewN ?_ _ | refine bstep (by assumption) ?_ | refine bstep (Past.prop _) ?_ | refine Below.setCell ?_ (by first | exact Nat.le_refl _ | (simp; done) | (simp; omega)) _)))
      have HBP := hidE (HBL.out.past hb2)
      have HBQ := hidE hbq
      have hq2 := hbq.lt
      have hp2 : p < w2.heap.size := Nat.lt_of_lt_of_le hpl hb2.size
      have hpq : p ≠ q := by omega
      have hqw : w.heap.size ≤ q := Nat.le_trans HB0.out.size hq
      have hlo : w.heap.size ≤ w2.heap.size := by omega
      clear hm hs HBL HB0 hbq hb2 hpl hq
      generalize hB : w2.heap.size = B at hq2 hp2 hlo
      have HBE := hidE hB; clear hB
      go_wp2_with fail
      go_loopg [26, 6, 9, 10] l.length (fun g vi vf _ _ wr2 => ∃ (k : Nat) (fk : List Sg) (last : Int × Int) (v6 : Value), vi = .int .i64 k ∧ v6 = vf ∧ k ≤ l.length ∧ l.length - k ≤ g ∧ fk.length ≤ k ∧ wr2.ownsRow B 56 3 v6 fk.length (cellsOfS fk) ∧ Blk wr2 p #[.int .i64 last.1, .int .i64 last.2] 36 ∧ Blk wr2 q (rowC l.length d) 3 ∧ Below w.heap.size w wr2 ∧ B ≤ wr2.heap.size ∧ Hid (fk ++ cmpr last ((ordL l d).drop k) = cmpr (0, 0) (ordL l d)))
      case atStart => exact ⟨0, [], (0, 0), .slice none 0 0, rfl, rfl, by omega, by omega, Nat.le_refl _, ⟨rfl, .inl ⟨rfl, rfl⟩⟩, HBP.out, HBQ.out, HB2.out, Nat.le_of_eq HBE.out.symm, rfl⟩
      case round =>
        clear HBP HBQ HB2 HBE
        obtain ⟨k, fk, last, s6, rfl, rfl, hk, hg, hfk, hown, hbp, hbq, hb, hB, HF⟩ := hrel
        have HOW := hidE hown; have HBP := hidE hbp; have HBQ := hidE hbq; have HB := hidE hb
        clear hown hbp hbq hb
        by_cases hlt : k < l.length
        · obtain ⟨b, off, rfl, hb, hc⟩ := (HA.out.past HB.out) (by omega)
          have hbw : b < w.heap.size := by
            obtain ⟨b', off', e, hb', _⟩ := HA.out (by omega)
            simp at e; omega
          obtain ⟨c0, c1, c2⟩ := hc.get (i := d k) (HOD.out k hlt)
          have r0 := (HBQ.out.cell k).trans (rowC_get hlt)
          have hdk := HOD.out k hlt
          have hbz : b < wr.heap.size := hb
          have hqz := HBQ.out.lt
          have HEA := hidE (ordL_ats (l := l) (d := d) hlt)
          have HEV := hidE (ordL_vls (l := l) (d := d) hlt)
          by_cases hskip : k + 1 < l.length ∧ ats l (d (k + 1)) = ats l (d k)
          · obtain ⟨hk1, hsame⟩ := hskip
            have HF2 := hidE (show fk ++ cmpr last ((ordL l d).drop (k + 1)) = cmpr (0, 0) (ordL l d) by
              rw [← HF.out, cmpr_skip (k := k) (by rw [ordL_len]; exact hk1) (by rw [ordL_ats hk1, ordL_ats hlt]; exact hsame)])
            obtain ⟨d0, d1, d2⟩ := hc.get (i := d (k + 1)) (HOD.out _ hk1)
            have r1 := (HBQ.out.cell (k + 1)).trans (rowC_get hk1)
            have hdk1 := HOD.out _ hk1
            rw [hsame] at d0
            clear hc hsame c1 c2 d1 d2 HF HEA HEV
            have HCE := hidE (show ∀ x : Past wr, wr.heap.size ≤ x.1.heap.size from fun x => x.2.size)
            generalize ats l (d k) = u at *
            generalize d k = i0 at *
            generalize d (k + 1) = i1 at *
            have g1 : decide ((k : Int) + 1 < (l.length : Int)) = true := decide_eq_true (by omega)
            go_wp2
            refine wp_region_past_lit (by kernel_rfl) (by kernel_rfl) ?_
            have hcp := Past.cell (W := wr)
            repeat (go_big_quiet_step (fail))
            refine wpQuiet_nil ?_
            rintro _ ⟨x', rfl⟩
            have o1 := own_below HOW.out x'.2
            have o2 := HBP.out.past x'.2
            have o3 := HBQ.out.past x'.2
            have o4 : Below w.heap.size w x'.1 := by have := HB.out; (repeat (first | exact Below.refl _ _ | assumption | refine balloc ?_ _ | refine below_drewN ?_ _ | refine bstep (by assumption) ?_ | refine bstep (Past.prop _) ?_ | refine Below.setCell ?_ (by first | exact Nat.le_refl _ | (simp; done) | (simp; omega)) _))
            have o5 := Nat.le_trans hB x'.2.size
            clear hcp c0 d0 r0 r1
            generalize x'.1 = w3 at o1 o2 o3 o4 o5 ⊢
            go_wp2
            go_roundg (l.length - (k + 1))
            case measure => omega
            case rel => exact ⟨k + 1, fk, last, s6, by go_num, rfl, by omega, Nat.le_refl _, by omega, o1, o2, o3, o4, o5, HF2.out⟩
          · have HNE := hidE (show k + 1 < (ordL l d).length → ats (ordL l d) (k + 1) ≠ ats (ordL l d) k from fun h => by
              rw [ordL_len] at h
              rw [ordL_ats h, ordL_ats hlt]
              exact fun e => hskip ⟨h, e⟩)
            have HOL := hidE (show k < (ordL l d).length by rw [ordL_len]; exact hlt)
            generalize hdk0 : d k = dk at r0 c0 c1 c2 hdk HEA HEV hskip
            clear hdk0
            go_wp2
            go_cut [52] (fun s52 wx => s52 = .bool false ∧ wx.ownsRow B 56 3 s6 fk.length (cellsOfS fk) ∧ Blk wx p #[.int .i64 last.1, .int .i64 last.2] 36 ∧ Blk wx q (rowC l.length d) 3 ∧ Below w.heap.size w wx ∧ B ≤ wx.heap.size)
            case first =>
              by_cases hk1 : k + 1 < l.length
              · have hdf : (ats l (d (k + 1)) == ats l dk) = false := beq_eq_false_iff_ne.2 fun e => hskip ⟨hk1, e⟩
                obtain ⟨d0, d1, d2⟩ := hc.get (i := d (k + 1)) (HOD.out _ hk1)
                have r1 := (HBQ.out.cell (k + 1)).trans (rowC_get hk1)
                have hdk1 := HOD.out _ hk1
                clear hc hskip c1 c2 d1 d2 HF HEA HEV HNE
                generalize ats l dk = u at *
                generalize ats l (d (k + 1)) = u1 at *
                generalize d (k + 1) = i1 at *
                have g1 : decide ((k : Int) + 1 < (l.length : Int)) = true := decide_eq_true (by omega)
                refine wp_region_past_lit (by kernel_rfl) (by kernel_rfl) ?_
                have hcp := Past.cell (W := wr)
                repeat (go_big_quiet_step (fail))
                refine wpQuiet_nil ?_
                rintro _ ⟨x', rfl⟩
                go_wp2
                go_meet
                case rel => exact ⟨rfl, own_below HOW.out x'.2, HBP.out.past x'.2, HBQ.out.past x'.2, by have := HB.out; (repeat (first | exact Below.refl _ _ | assumption | refine balloc ?_ _ | refine below_drewN ?_ _ | refine bstep (by assumption) ?_ | refine bstep (Past.prop _) ?_ | refine Below.setCell ?_ (by first | exact Nat.le_refl _ | (simp; done) | (simp; omega)) _)), Nat.le_trans hB x'.2.size⟩
              · clear hc hskip c1 c2 HF HEA HEV HNE
                have g1 : decide ((k : Int) + 1 < (l.length : Int)) = false := decide_eq_false (by omega)
                refine wp_region_past_lit (by kernel_rfl) (by kernel_rfl) ?_
                have hcp := Past.cell (W := wr)
                repeat (go_big_quiet_step (fail))
                refine wpQuiet_nil ?_
                rintro _ ⟨x', rfl⟩
                go_wp2
                go_meet
                case rel => exact ⟨rfl, own_below HOW.out x'.2, HBP.out.past x'.2, HBQ.out.past x'.2, by have := HB.out; (repeat (first | exact Below.refl _ _ | assumption | refine balloc ?_ _ | refine below_drewN ?_ _ | refine bstep (by assumption) ?_ | refine bstep (Past.prop _) ?_ | refine Below.setCell ?_ (by first | exact Nat.le_refl _ | (simp; done) | (simp; omega)) _)), Nat.le_trans hB x'.2.size⟩
            obtain ⟨rfl, o1, o2, o3, o4, o5⟩ := hcut
            have hc2 : CellsS wc b off l := by
              obtain ⟨b', off', e, hb', hcc⟩ := HA.out.past o4 (by omega)
              simp at e
              obtain ⟨rfl, rfl⟩ := e
              exact hcc
            have hbc : b < wc.heap.size := by have := o4.size; omega
            obtain ⟨c0, c1, c2⟩ := hc2.get (i := dk) hdk
            have O1 := hidE o1; have O2 := hidE o2; have O3 := hidE o3; have O4 := hidE o4; have O5 := hidE o5
            clear o1 o2 o3 o4 hc hc2 r0 HOW HBP HBQ HB hskip
            by_cases hsv : vls l dk = last
            · have HF2 := hidE (show fk ++ cmpr (vls l dk) ((ordL l d).drop (k + 1)) = cmpr (0, 0) (ordL l d) by
                rw [← HF.out, cmpr_same (k := k) HOL.out HNE.out (by rw [HEV.out]; exact hsv), HEV.out])
              have hbb : (!(((vls l dk).1, (vls l dk).2) == (last.1, last.2))) = false := by rw [hsv]; simp
              clear HF HEA HEV HNE hsv
              generalize ats l dk = u at *
              generalize vls l dk = v at *
              go_wp2_with fail
              ((with_reducible refine (chg_c p last.1 last.2 v.1 v.2 _ O2.out).mono ?_); rintro e w3 ⟨rfl, q1, q2⟩)
              have n1 := own_grown O1.out q2 hp2
              have n3 := O3.out.grown q2 (by intro e; simp at e; omega)
              have n4 : Below w.heap.size w w3 := O4.out.grown q2 (by omega) (fun k hk => by simp at hk; omega)
              have n5 : B ≤ w3.heap.size := Nat.le_trans O5.out q2.size
              clear q2 c0 c1 c2
              go_wp2
              go_roundg (l.length - (k + 1))
              case measure => omega
              case rel => exact ⟨k + 1, fk, v, s6, by go_num, rfl, by omega, Nat.le_refl _, by omega, n1, q1, n3, n4, n5, HF2.out⟩
            · have HF2 := hidE (show (fk ++ [(ordL l d).getD k (0, 0, 0)]) ++ cmpr (vls l dk) ((ordL l d).drop (k + 1)) = cmpr (0, 0) (ordL l d) by
                rw [← HF.out, cmpr_new (k := k) HOL.out HNE.out (by rw [HEV.out]; exact hsv), HEV.out, List.append_assoc]; rfl)
              have hbb : (!(((vls l dk).1, (vls l dk).2) == (last.1, last.2))) = true := by
                rw [Bool.not_eq_true']; exact beq_eq_false_iff_ne.2 hsv
              have HSK := hidE (show cellsOfS (fk ++ [(ordL l d).getD k (0, 0, 0)]) = cellsOfS fk ++ [.int .i64 (ats l dk), .int .i64 (vls l dk).1, .int .i64 (vls l dk).2] by
                rw [cellsOfS_app]
                have e1 := HEA.out; have e2 := HEV.out
                unfold ats at e1 ⊢; unfold vls at e2 ⊢
                rw [← e1, ← e2]; rfl)
              clear HF HEA HEV HNE hsv
              generalize ats l dk = u at *
              generalize vls l dk = v at *
              obtain ⟨i0, hi, hz0, hz1, hz2⟩ := info_parts Try.infoSeg
              have HI := hidE hi; have HZ0 := hidE hz0; have HZ1 := hidE hz1; have HZ2 := hidE hz2
              clear hi hz0 hz1 hz2
              go_wp2_with fail
              ((with_reducible refine (chg_c p last.1 last.2 v.1 v.2 _ O2.out).mono ?_); rintro e w3 ⟨rfl, q1, q2⟩)
              have hc3 : b < w3.heap.size := Nat.lt_of_lt_of_le hbc q2.size
              have hbp : some b ≠ some p := by intro e; simp at e; omega
              have hblk := q2.block b hbc hbp
              have t0 : w3.cell? ⟨b, off + dk * 3, none⟩ = some (.int .i64 u) := (World.cell?_of_block (w := wc) (a := ⟨b, off + dk * 3, none⟩) hblk).trans c0
              have t1 : w3.cell? ⟨b, off + dk * 3 + 1, none⟩ = some (.int .i64 v.1) := (World.cell?_of_block (w := wc) (a := ⟨b, off + dk * 3 + 1, none⟩) hblk).trans c1
              have t2 : w3.cell? ⟨b, off + dk * 3 + 2, none⟩ = some (.int .i64 v.2) := (World.cell?_of_block (w := wc) (a := ⟨b, off + dk * 3 + 2, none⟩) hblk).trans c2
              have n1 := own_grown O1.out q2 hp2
              have n3 := O3.out.grown q2 (by intro e; simp at e; omega)
              have n4 : Below w.heap.size w w3 := O4.out.grown q2 (by omega) (fun k hk => by simp at hk; omega)
              have n5 : B ≤ w3.heap.size := Nat.le_trans O5.out q2.size
              have N1 := hidE n1; have N3 := hidE n3; have N4 := hidE n4; have Q1 := hidE q1
              clear q2 c0 c1 c2 n1 n3 n4 q1 hblk hbp
              go_wp2_with (at_builtin; refine wpList_append_own _ rfl (.tmp 60) (.tmp 65) 22 rfl B 56 i0 (.agg #[.int .i64 0, .int .i64 0, .int .i64 0]) 3 24 Try.underlying22 HI.out HZ0.out HZ1.out HZ2.out rfl (by decide) _ _ _ rfl (N1.out.alloc _) ⟨w3.heap.size, 0, none⟩ 1 1 [.int .i64 u, .int .i64 v.1, .int .i64 v.2] rfl rfl (new_cells w3 #[.int .i64 u, .int .i64 v.1, .int .i64 v.2] 56) (by intro x hx; simp at hx; rcases hx with rfl | rfl | rfl <;> rfl) (by unfold maxLen; omega) (by omega) (by simp; omega) ?_; intro v' w4 hown4 hgrow4 _)
              have p1 := (Blk.alloc Q1.out (.cells #[.int .i64 u, .int .i64 v.1, .int .i64 v.2] 56)).grown hgrow4 (fun e => by have := own_block N1.out e.symm; omega)
              have p3 := (Blk.alloc N3.out (.cells #[.int .i64 u, .int .i64 v.1, .int .i64 v.2] 56)).grown hgrow4 (fun e => by have := own_block N1.out e.symm; omega)
              have p4 : Below w.heap.size w w4 := Below.grown (N4.out.alloc (by omega) (.cells #[.int .i64 u, .int .i64 v.1, .int .i64 v.2] 56)) hgrow4 (by simp; omega) (fun k hk => by have := own_block N1.out hk; omega)
              have p5 : B ≤ w4.heap.size := Nat.le_trans n5 (Nat.le_trans (by simp) hgrow4.size)
              rw [← HSK.out] at hown4
              have P1 := hidE p1; have P3 := hidE p3; have P4 := hidE p4; have PO := hidE hown4
              clear p1 p3 p4 hown4 hgrow4 t0 t1 t2
              go_wp2
              go_roundg (l.length - (k + 1))
              case measure => omega
              case rel => exact ⟨k + 1, fk ++ [(ordL l d).getD k (0, 0, 0)], v, v', by go_num, rfl, by omega, Nat.le_refl _, by simp; omega, by rw [List.length_append]; exact PO.out, P1.out, P3.out, P4.out, p5, HF2.out⟩
        · have hk' : k = l.length := by omega
          subst hk'
          have e := HF.out
          rw [List.drop_eq_nil_of_le (by rw [ordL_len]; exact Nat.le_refl _)] at e
          rw [cmpr_nil, List.append_nil] at e
          have HE := hidE e; clear e
          go_wp2
          go_ret2
          exact ⟨_, fk, 0, rfl, sliS_own HOW.out, .inl ⟨HX.out, rfl, by rw [HE.out]; exact HIS.out⟩, HB.out⟩
end Go.Proofs.Ytgflbidagdcfmaa

namespace Go.Proofs.Ytgflbidagdcfmaa
open Go.ChangeShapes Go.WideShapes Go.ChangeAt Go.RowKit Go.Shelf
attribute [local irreducible] Go.Calls
attribute [local go_sem] Oper.semAt_some

theorem make_segs (n : Nat) (hn : n ≤ 1000000000) : ∀ w, (Instr.makeSlice 22 (.int .i64 0) (.int .i64 (n : Int))).run Try.prog w = .ok (.slice (some ⟨w.heap.size, 0, none⟩) 0 n) (w.alloc (.cells (madeCells #[.int .i64 0, .int .i64 0, .int .i64 0] (n * 3)) 56)) := by
  intro w
  obtain ⟨i0, hi, hz0, hz1, hz2⟩ := info_parts Try.infoSeg
  have h := run_make (P := Try.prog) w 22 56 i0 (.agg #[.int .i64 0, .int .i64 0, .int .i64 0]) Try.underlying22 hi hz0 .i64 .i64 0 n (by omega) (by omega) (by rw [hz2]; omega) (by omega)
  rw [h]
  simp only [Int.toNat_natCast, hz1, Value.cells]
  rfl

theorem make_segs2 (n m : Nat) (hn : n + m ≤ 1000000000) : ∀ w, (Instr.makeSlice 22 (.int .i64 0) (.int .i64 ((n : Int) + (m : Int)))).run Try.prog w = .ok (.slice (some ⟨w.heap.size, 0, none⟩) 0 (n + m)) (w.alloc (.cells (madeCells #[.int .i64 0, .int .i64 0, .int .i64 0] ((n + m) * 3)) 56)) := by
  intro w
  rw [← Int.natCast_add]
  exact make_segs (n + m) hn w

/-- A block whose first cells hold a list of runs. -/
def RowAt (W : World) (g cap : Nat) (l : List Sg) : Prop := ∃ cur : Array Value, Blk W g cur 56 ∧ cur.size = cap * 3 ∧ l.length ≤ cap ∧ cap ≤ 1000000000 ∧ cur.toList.take (l.length * 3) = cellsOfS l
theorem RowAt.below {W W' : World} {g cap B : Nat} {l : List Sg} (h : RowAt W g cap l) (hb : Below B W W') (hg : g < B) : RowAt W' g cap l := by
  obtain ⟨cur, h1, h2⟩ := h
  exact ⟨cur, h1.below hb hg, h2⟩
theorem RowAt.own {W : World} {g cap base : Nat} {l : List Sg} (h : RowAt W g cap l) (hb : base ≤ g) : W.ownsRow base 56 3 (.slice (some ⟨g, 0, none⟩) l.length cap) l.length (cellsOfS l) := by
  obtain ⟨cur, h1, h2, h3, h4, h5⟩ := h
  exact ⟨by rw [cellsOfS_len], .inr ⟨g, cap, cur, rfl, hb, h1, h3, by unfold maxLen; omega, h2, h5⟩⟩
theorem RowAt.of_own {W : World} {g cap base : Nat} {l : List Sg} (hc : cap ≤ 1000000000) (h : W.ownsRow base 56 3 (.slice (some ⟨g, 0, none⟩) l.length cap) l.length (cellsOfS l)) : RowAt W g cap l := by
  obtain ⟨h1, h2 | ⟨g', cap', cur, e, h3, h4, h5, h6, h7, h8⟩⟩ := h
  · cases h2.1
  · cases e
    exact ⟨cur, h4, h7, h5, hc, h8⟩
theorem RowAt.other {W : World} {g cap b i : Nat} {l : List Sg} (h : RowAt W g cap l) (hne : g ≠ b) (v : Value) : RowAt (W.setCell ⟨b, i, none⟩ v) g cap l := by
  obtain ⟨cur, h1, h2⟩ := h
  exact ⟨cur, h1.other hne v, h2⟩
theorem RowAt.made {W : World} (n : Nat) (hn : n ≤ 1000000000) : RowAt (W.alloc (.cells (madeCells #[.int .i64 0, .int .i64 0, .int .i64 0] (n * 3)) 56)) W.heap.size n [] :=
  ⟨_, Blk.made _ _ _, by simp [madeCells], by simp, hn, by simp [cellsOfS]⟩
theorem fresh_at (w : World) (cs : Array Value) (t : TypeId) (k : Nat) (h : k = w.heap.size) : ∀ j u, cs.toList[j]? = some u → (w.alloc (.cells cs t)).cell? ((⟨k, 0, none⟩ : Addr).add j) = some u := by
  subst h
  exact new_cells w cs t
theorem madeRow (n : Nat) (hn : n ≤ 1000000000) (W : World) (o : Obj) (g : Nat) (h : g = W.heap.size) : RowAt ((W.alloc (.cells (madeCells #[.int .i64 0, .int .i64 0, .int .i64 0] (n * 3)) 56)).alloc o) g n [] := by
  subst h
  obtain ⟨cur, h1, h2⟩ := RowAt.made (W := W) n hn
  exact ⟨cur, h1.alloc _, h2⟩
/-- A slice of runs lies on where only blocks of one cell, or of none, are turned. -/
theorem argS_turn {w w' : World} {a : Option Addr} {l : List Sg} (h : ArgS w a l) (hs : w.heap.size ≤ w'.heap.size) (hk : ∀ k i v, w.cell? ⟨k, i + 1, none⟩ = some v → w'.heap[k]? = w.heap[k]?) : ArgS w' a l := fun hl => by
  obtain ⟨b, off, e, h1, h2⟩ := h hl
  have hb : w'.heap[b]? = w.heap[b]? := by
    obtain ⟨_, q, _⟩ := h2 0 hl
    exact hk b _ _ q
  have hc : ∀ i, w'.cell? ⟨b, i, none⟩ = w.cell? ⟨b, i, none⟩ := fun i => World.cell?_of_block (a := ⟨b, i, none⟩) hb
  refine ⟨b, off, e, Nat.lt_of_lt_of_le h1 hs, fun i hi => ?_⟩
  obtain ⟨q1, q2, q3⟩ := h2 i hi
  exact ⟨(hc _).trans q1, (hc _).trans q2, (hc _).trans q3⟩
theorem one_cell {w : World} {k i : Nat} {x v : Value} {t : TypeId} (h : Blk w k #[x] t) (hc : w.cell? ⟨k, i + 1, none⟩ = some v) : False := by
  rw [h.cell] at hc; simp at hc
theorem no_cell {w : World} {k i : Nat} {v : Value} {d : Option (List Deferred)} (h : w.heap[k]? = some (.deferred d)) (hc : w.cell? ⟨k, i, none⟩ = some v) : False := by
  simp [World.cell?, h] at hc
theorem Blk.put {w : World} {k : Nat} {cs : Array Value} {t : TypeId} (h : Blk w k cs t) {b : Nat} (hb : k ≠ b) (o : Obj) : Blk (w.putObj b o) k cs t := (World.putObj_heap_other hb).trans h
/-- Between two rounds of the loop. -/
def CombI (k : Int) (F G : List Sg) (w : World) (v0 : Value) (pre : List Tg) (W : World) : Prop :=
  Below w.heap.size w W ∧ w.heap.size + 1 + 1 + 1 + 1 < W.heap.size ∧ Blk W w.heap.size v0.cells 86 ∧ Blk W (w.heap.size + 1) #[.slice none 0 0] 22 ∧ Blk W (w.heap.size + 1 + 1) #[.int .i64 0] 32 ∧
    RowAt W (w.heap.size + 1 + 1 + 1) (F.length + G.length) (pre.map (rawOf k)) ∧ Blk W (w.heap.size + 1 + 1 + 1 + 1) #[.slice (some ⟨w.heap.size + 1 + 1 + 1, 0, none⟩) pre.length (F.length + G.length)] 22 ∧ (∀ p ∈ pre, errOf k p = 0)
/-- A round has left with an error. -/
def CombX (k : Int) (F G : List Sg) (w : World) (c : Code) (W : World) : Prop :=
  c = .ret ∧ Below w.heap.size w W ∧ Blk W (w.heap.size + 1) #[.slice none 0 0] 22 ∧ Blk W (w.heap.size + 1 + 1) #[.int .i64 (doS k F G).2] 32 ∧ (doS k F G).1 = []
theorem combI_below {k : Int} {F G : List Sg} {w : World} {v0 : Value} {pre : List Tg} {A B : World} (h : CombI k F G w v0 pre A) (hb : Below (w.heap.size + 1 + 1 + 1 + 1 + 1) A B) : CombI k F G w v0 pre B := by
  obtain ⟨h1, h2, h3, h4, h5, h6, h7, h8⟩ := h
  exact ⟨h1.trans (hb.mono (by omega)), Nat.lt_of_lt_of_le h2 hb.size, h3.below hb (by omega), h4.below hb (by omega), h5.below hb (by omega), h6.below hb (by omega), h7.below hb (by omega), h8⟩
theorem combX_below {k : Int} {F G : List Sg} {w : World} {c : Code} {A B : World} (h : CombX k F G w c A) (hb : Below (w.heap.size + 1 + 1 + 1 + 1 + 1) A B) : CombX k F G w c B := by
  obtain ⟨h1, h2, h3, h4, h5⟩ := h
  exact ⟨h1, h2.trans (hb.mono (by omega)), h3.below hb (by omega), h4.below hb (by omega), h5⟩

set_option maxRecDepth 100000 in
set_option maxHeartbeats 2000000 in
theorem comb_plus (F G : List Sg) (a a' : Option Addr) (cap cap' : Nat) (w : World) (hF : F.length ≤ cap) (hc : cap ≤ 9223372036854775807) (hG : G.length ≤ cap') (hc' : cap' ≤ 9223372036854775807) (hl : F.length + G.length ≤ 1000000000)
    (hA : ArgS w a F) (hA' : ArgS w a' G) (hm : mayB F = true) (hm' : mayB G = true) :
    Calls Try.prog 40 #[.agg #[.slice a F.length cap, .slice a' G.length cap', .func (.func 39) #[] #[]]] w (OfIs w (doS 0 F G).1 (doS 0 F G).2) := by
  have HBAD := hidE (fun (p : Tg) hp he => comb_bad (k := 0) hm hm' (p := p) hp he)
  have HOK := hidE (fun he => comb_ok (k := 0) hm hm' he)
  have HSEQ := hidE (fun w' hb => tog_c F G a a' cap cap' (.func (.func 39) #[] #[]) w w' hF hc hG hc' hl hA hA' hb)
  have HLEN := hidE (togL_len F G)
  have HMK := hidE (make_segs2 F.length G.length hl)
  clear hA hA' hm hm' hF hc hG hc'
  refine (callsIn_wide (n := 0)).1 (callsIn_of_wp_marks Try.func40 rfl trivial ((wpIn_wide (n := 0)).2 ?_))
  simp only [Try.ntmps40, List.size_toArray, List.length_cons, List.length_nil, Nat.reduceAdd, Nat.reduceSub, Array.replicate_succ, Array.replicate_zero, List.push_toArray, List.append_toArray, List.nil_append, List.cons_append]
  have hmk := HMK.out
  go_wp2
  have hm3 := madeRow (F.length + G.length) hl
  have HI0 : CombI 0 F G w (.agg #[.slice a F.length cap, .slice a' G.length cap', .func (.func 39) #[] #[]]) [] ((((((w.alloc (Obj.cells #[Value.slice a F.length cap, Value.slice a' G.length cap', .func (.func 39) #[] #[]] 86)).alloc (Obj.cells #[Value.slice none 0 0] 22)).alloc (Obj.cells #[Value.int IntKind.i64 0] 32)).alloc (Obj.cells (madeCells #[Value.int IntKind.i64 0, Value.int IntKind.i64 0, Value.int IntKind.i64 0] ((F.length + G.length) * 3)) 56)).alloc (Obj.cells #[Value.slice (some { block := w.heap.size + 1 + 1 + 1, off := 0 }) 0 (F.length + G.length)] 22))) :=
    ⟨by (repeat (first | exact Below.refl _ _ | assumption | refine balloc ?_ _ | refine below_drewN ?_ _ | refine bstep (by assumption) ?_ | refine bstep (Past.prop _) ?_ | refine Below.setCell ?_ (by first | exact Nat.le_refl _ | (simp; done) | (simp; omega)) _)), by simp, (((Blk.made _ _ _).alloc _).alloc _).alloc _ |>.alloc _, (((Blk.made_at _ _ _ _ (by simp)).alloc _).alloc _).alloc _, ((Blk.made_at _ _ _ _ (by simp)).alloc _).alloc _, hm3 _ _ _ (by simp), Blk.made_at _ _ _ _ (by simp), fun p hp => by simp at hp⟩
  have HS5 : (((((((w.alloc (Obj.cells #[Value.slice a F.length cap, Value.slice a' G.length cap', .func (.func 39) #[] #[]] 86)).alloc (Obj.cells #[Value.slice none 0 0] 22)).alloc (Obj.cells #[Value.int IntKind.i64 0] 32)).alloc (Obj.cells (madeCells #[Value.int IntKind.i64 0, Value.int IntKind.i64 0, Value.int IntKind.i64 0] ((F.length + G.length) * 3)) 56)).alloc (Obj.cells #[Value.slice (some { block := w.heap.size + 1 + 1 + 1, off := 0 }) 0 (F.length + G.length)] 22)))).heap.size = w.heap.size + 1 + 1 + 1 + 1 + 1 := by simp
  have HB5 : Below w.heap.size w ((((((w.alloc (Obj.cells #[Value.slice a F.length cap, Value.slice a' G.length cap', .func (.func 39) #[] #[]] 86)).alloc (Obj.cells #[Value.slice none 0 0] 22)).alloc (Obj.cells #[Value.int IntKind.i64 0] 32)).alloc (Obj.cells (madeCells #[Value.int IntKind.i64 0, Value.int IntKind.i64 0, Value.int IntKind.i64 0] ((F.length + G.length) * 3)) 56)).alloc (Obj.cells #[Value.slice (some { block := w.heap.size + 1 + 1 + 1, off := 0 }) 0 (F.length + G.length)] 22))) := by (repeat (first | exact Below.refl _ _ | assumption | refine balloc ?_ _ | refine below_drewN ?_ _ | refine bstep (by assumption) ?_ | refine bstep (Past.prop _) ?_ | refine Below.setCell ?_ (by first | exact Nat.le_refl _ | (simp; done) | (simp; omega)) _))
  generalize ((((((w.alloc (Obj.cells #[Value.slice a F.length cap, Value.slice a' G.length cap', .func (.func 39) #[] #[]] 86)).alloc (Obj.cells #[Value.slice none 0 0] 22)).alloc (Obj.cells #[Value.int IntKind.i64 0] 32)).alloc (Obj.cells (madeCells #[Value.int IntKind.i64 0, Value.int IntKind.i64 0, Value.int IntKind.i64 0] ((F.length + G.length) * 3)) 56)).alloc (Obj.cells #[Value.slice (some { block := w.heap.size + 1 + 1 + 1, off := 0 }) 0 (F.length + G.length)] 22))) = W5 at *
  refine wp_rangeFunc_T (n₀ := w.heap.size) (S := togL F G) rfl (enters_of Try.func62 (by kernel_rfl) rfl) HB5.size (HSEQ.out _ HB5) (fun _ => rfl)
    (CombI 0 F G w (.agg #[.slice a F.length cap, .slice a' G.length cap', .func (.func 39) #[] #[]])) (fun c _ W => CombX 0 F G w c W)
    (fun s A B h hb => combI_below h (HS5 ▸ hb)) (fun c s A B h hb => combX_below h (HS5 ▸ hb)) HI0
    (fun x a1 W => ∃ Bx : Nat, w.heap.size + 1 + 1 + 1 + 1 + 1 ≤ Bx ∧ Blk W Bx #[.int .i64 x.2.1.1, .int .i64 x.2.1.2, .int .i64 x.2.2.1, .int .i64 x.2.2.2] 116 ∧ a1 = { tmps := #[.agg #[.slice a F.length cap, .slice a' G.length cap', .func (.func 39) #[] #[]], .pointer (some ⟨w.heap.size, 0, none⟩), .pointer (some ⟨w.heap.size + 1, 0, none⟩), .pointer (some ⟨w.heap.size + 1 + 1, 0, none⟩), .pointer (some ⟨w.heap.size + 1 + 1 + 1 + 1, 0, none⟩), .int .i64 x.1, .pointer (some ⟨Bx, 0, none⟩), undef, undef,
      .pointer (some ⟨w.heap.size, 0, none⟩), .slice a F.length cap, .int .i64 F.length, .pointer (some ⟨w.heap.size, 1, none⟩), .slice a' G.length cap', .int .i64 G.length, .int .i64 ((F.length : Int) + (G.length : Int)), .slice (some ⟨w.heap.size + 1 + 1 + 1, 0, none⟩) 0 (F.length + G.length), .agg #[.slice a F.length cap, .slice a' G.length cap', .func (.func 39) #[] #[]],
      .func (.func 62) #[.agg #[.slice a F.length cap, .slice a' G.length cap', .func (.func 39) #[] #[]]] #[], .int .i64 x.1, .agg #[.int .i64 x.2.1.1, .int .i64 x.2.1.2, .int .i64 x.2.2.1, .int .i64 x.2.2.2], undef, undef, undef, undef, undef, undef, undef, undef, undef, undef, undef, undef, undef, undef, undef, undef, undef, undef, undef, undef, undef, undef, undef], defers := [] })
    ?hax ?assign ?body ?done ?stop
  case hax =>
    rintro x a1 A l r o ⟨Bx, h1, h2, h3⟩ hlr
    exact ⟨Bx, h1, (World.putObj_heap_other (fun e => by subst e; rw [show A.heap[Bx]? = _ from h2] at hlr; cases hlr)).trans h2, h3⟩
  case assign =>
    intro l pre x W K hsz hi hK
    rw [HS5] at hsz
    dsimp only [encT]
    gi_wp2
    exact hK _ _ (Outside.of_below ((Below.refl _ _).alloc (Nat.le_refl _) _) (by omega)) (combI_below hi ((Below.refl _ _).alloc (by omega) _)) ⟨W.heap.size, by omega, Blk.made _ _ _, rfl⟩
  case body =>
    rintro l pre x a1 W hsz ⟨i1, i2, i3, i4, i5, i6, i7, i8⟩ ⟨Bx, hBx, bX, rfl⟩ hpre
    rw [HS5] at hsz
    clear HI0 HSEQ HMK hmk hm3
    have HOP := hidE (plus_c x.2.1.1 x.2.1.2 x.2.2.1 x.2.2.2 W)
    change Hid (Calls _ _ _ W fun e w' => e = .returned (VE (opV 0 x.2.1 x.2.2)) ∧ _) at HOP
    have HRAW := hidE (show rawOf 0 x = (x.1, ((opV 0 x.2.1 x.2.2).1, (opV 0 x.2.1 x.2.2).2.1)) from rfl)
    have HERR := hidE (show errOf 0 x = (opV 0 x.2.1 x.2.2).2.2 from rfl)
    generalize opV 0 x.2.1 x.2.2 = q at *
    have p2 := i3.cell 2; have r0 := i7.cell 0; have rf := i7.free; have e0 := i5.cell 0; have ef := i5.free; have v0 := i4.cell 0; have vf := i4.free
    have x0 := bX.cell 0; have x1 := bX.cell 1; have x2 := bX.cell 2; have x3 := bX.cell 3; have xz := bX.lt
    simp [Value.cells] at p2 r0 e0 v0 x0 x1 x2 x3
    gi_wp2_with fail
    refine ⟨trivial, rfl, (CallsIn.inRound l (callsIn_wide.2 HOP.out)).mono ?_⟩
    rintro e w1 ⟨rfl, hb1⟩
    clear p2 r0 rf e0 ef v0 vf x0 x1 x2 x3 xz
    have HB1 := hidE hb1
    have o1 : Outside w.heap.size W5.heap.size W w1 := Outside.of_below hb1 i1.size
    have hz1 : w.heap.size + 1 + 1 + 1 + 1 + 1 ≤ w1.heap.size := Nat.le_trans hsz hb1.size
    have BE := i5.past hb1; have BV := i4.past hb1; have BR := i7.past hb1
    have r0 := BR.cell 0; have rf := BR.free; have rz := BR.lt; have e0 := BE.cell 0; have ef := BE.free; have ez := BE.lt; have v0 := BV.cell 0; have vf := BV.free; have vz := BV.lt
    simp at r0 e0 v0
    by_cases hq : q.2.2 = 0
    · have g2 : (q.2.2 != 0) = false := by rw [bne_eq_false_iff_eq]; exact hq
      have HE0 := hidE (HERR.out.trans hq)
      have hsl : (pre.map (rawOf 0)).length = pre.length := by simp
      have hlt : pre.length + 1 ≤ F.length + G.length := by
        have h1 := hpre.length_le
        simp only [List.length_append, List.length_cons, List.length_nil] at h1
        have := HLEN.out; omega
      have HROW := hidE (i6.below hb1 (by omega))
      have APP := hidE (fun W' (hb : Below w1.heap.size w1 W') => show W'.ownsRow w.heap.size 56 3 (.slice (some ⟨w.heap.size + 1 + 1 + 1, 0, none⟩) pre.length (F.length + G.length)) pre.length (cellsOfS (pre.map (rawOf 0))) from by
        have := (HROW.out.below hb (by omega)).own (base := w.heap.size) (by omega)
        rw [hsl] at this; exact this)
      obtain ⟨ix, hix, hz0, hzz, hz2⟩ := info_parts Try.infoSeg
      have HI := hidE hix; have HZ1 := hidE hzz
      have HI1 := hidE i1; have HI3 := hidE i3; have HI8 := hidE i8; have HPRE := hidE hpre
      have BF := i3.past hb1; have BE' := hidE BE; have BV' := hidE BV
      clear hq hix hz0 hzz hz2 i1 i3 i4 i5 i6 i7 i8 hpre BE BV HERR HOP HBAD HOK bX e0 ef ez v0 vf vz hb1 hsl
      gi_wp2_with (gi_at_builtin; refine wpListIn_append_fits _ rfl (.tmp 34) (.tmp 38) 22 rfl w.heap.size 56 ix 3 Try.underlying22 HI.out HZ1.out (w.heap.size + 1 + 1 + 1) pre.length (F.length + G.length) _ rfl (APP.out _ (by (repeat (first | exact Below.refl _ _ | assumption | refine balloc ?_ _ | refine below_drewN ?_ _ | refine bstep (by assumption) ?_ | refine bstep (Past.prop _) ?_ | refine Below.setCell ?_ (by first | exact Nat.le_refl _ | (simp; done) | (simp; omega)) _)))) ⟨_, 0, none⟩ 1 1 [.int .i64 x.1, .int .i64 q.1, .int .i64 q.2.1] rfl rfl (fresh_at _ #[.int .i64 x.1, .int .i64 q.1, .int .i64 q.2.1] 56 _ (by simp)) (by intro y hy; simp at hy; rcases hy with rfl | rfl | rfl <;> rfl) (by omega) ?_; intro w4 hown4 hgrow4; have BR4 := ((BR.alloc _).alloc _).grown hgrow4 (by simp); have r4 := BR4.cell 0; have rf4 := BR4.free; have rz4 := BR4.lt; simp at r4; have HG4 := hidE hgrow4; have HO4 := hidE hown4; have HR4 := hidE BR4; clear hgrow4 hown4 r0 rf rz BR4)
      have o2 : Outside w.heap.size W5.heap.size w1 _ := Outside.of_below (((Below.refl _ w1).alloc (Nat.le_refl _) (Obj.cells #[Value.int IntKind.i64 q.fst, Value.int IntKind.i64 q.snd.fst] 36)).alloc (by simp) (Obj.cells #[Value.int IntKind.i64 x.fst, Value.int IntKind.i64 q.fst, Value.int IntKind.i64 q.snd.fst] 56)) (by omega)
      have o3 : Outside w.heap.size W5.heap.size _ w4 := Outside.of_grown HG4.out (by omega) (by omega) (by simp; omega)
      have o4 : Outside w.heap.size W5.heap.size w4 _ := Outside.of_grown (grown_set w4 (w.heap.size + 1 + 1 + 1 + 1) 0 (.slice (some ⟨w.heap.size + 1 + 1 + 1, 0, none⟩) (pre.length + 1) (F.length + G.length))) (by omega) (by omega) (by omega)
      have oo := ((o1.trans o2).trans o3).trans o4
      have hmap : (pre ++ [x]).map (rawOf 0) = pre.map (rawOf 0) ++ [(x.1, (q.1, q.2.1))] := by rw [List.map_append, List.map_cons, List.map_nil, HRAW.out]
      have hlen : ((pre ++ [x]).map (rawOf 0)).length = pre.length + 1 := by simp
      have hrow : RowAt w4 (w.heap.size + 1 + 1 + 1) (F.length + G.length) ((pre ++ [x]).map (rawOf 0)) := RowAt.of_own (base := w.heap.size) hl (by
        rw [hlen, hmap, cellsOfS_app]; exact HO4.out)
      refine ⟨oo, HI1.out.trans oo.below, by simp [World.setCell]; omega, (((BF.alloc _).alloc _).grown HG4.out (by simp; omega)).other (by omega) _, (((BV'.out.alloc _).alloc _).grown HG4.out (by simp)).other (by omega) _, (((BE'.out.alloc _).alloc _).grown HG4.out (by simp)).other (by omega) _, hrow.other (by omega) _, ?_, fun p hp => ?_⟩
      · have := HR4.out.set 0 (.slice (some ⟨w.heap.size + 1 + 1 + 1, 0, none⟩) (pre.length + 1) (F.length + G.length))
        simpa using this
      · rcases List.mem_append.1 hp with h | h
        · exact HI8.out p h
        · simp at h; subst h; exact HE0.out
    · have g2 : (q.2.2 != 0) = true := bne_iff_ne.2 hq
      have HB := hidE (HBAD.out x (hpre.subset (by simp)) (by rw [HERR.out]; exact hq))
      have hb' := HB.out
      rw [HERR.out] at hb'
      have HD := hidE hb'
      clear hb'
      gi_wp2
      have o2 : Outside w.heap.size W5.heap.size _ _ := Outside.of_grown (grown_set w1 (w.heap.size + 1) 0 (.slice none 0 0)) (by omega) (by omega) (by omega)
      have o3 : Outside w.heap.size W5.heap.size _ _ := Outside.of_grown (grown_set (w1.setCell ⟨w.heap.size + 1, 0, none⟩ (.slice none 0 0)) (w.heap.size + 1 + 1) 0 (.int .i64 q.2.2)) (by omega) (by omega) (by simp [World.setCell]; omega)
      have o4 : Outside w.heap.size W5.heap.size _ _ := Outside.of_below ((Below.refl _ ((w1.setCell ⟨w.heap.size + 1, 0, none⟩ (.slice none 0 0)).setCell ⟨w.heap.size + 1 + 1, 0, none⟩ (.int .i64 q.2.2))).alloc (Nat.le_refl _) (Obj.cells #[Value.int IntKind.i64 q.fst, Value.int IntKind.i64 q.snd.fst] 36)) (by simp [World.setCell]; omega)
      have oo := ((o1.trans o2).trans o3).trans o4
      refine ⟨oo, rfl, i1.trans oo.below, ?_, ?_, by rw [HD.out]⟩
      · have := ((BV.set 0 (.slice none 0 0)).other (b := w.heap.size + 1 + 1) (i := 0) (by omega) (.int .i64 q.2.2)).alloc (Obj.cells #[Value.int IntKind.i64 q.fst, Value.int IntKind.i64 q.snd.fst] 36)
        simpa using this
      · have := ((BE.other (b := w.heap.size + 1) (i := 0) (by omega) (.slice none 0 0)).set 0 (.int .i64 q.2.2)).alloc (Obj.cells #[Value.int IntKind.i64 q.fst, Value.int IntKind.i64 q.snd.fst] 36)
        rw [HD.out]
        simpa using this
  case done =>
    rintro D W hD ⟨i1, i2, i3, i4, i5, i6, i7, i8⟩ hK
    rw [HS5] at hD
    have hD' : D < W.heap.size := (Array.getElem?_eq_some_iff.1 hK).1
    obtain ⟨hok, hun⟩ := HOK.out i8
    have HUN := hidE hun; have HALL := hidE hok
    have hml : ((togL F G).map (rawOf 0)).length = (togL F G).length := by simp
    obtain ⟨aR, capR, eR, _, _, hAR⟩ := sliS_own (i6.own (base := w.heap.size) (by omega))
    cases eR
    have HOF := hidE (show Calls Try.prog 63 #[.slice (some ⟨w.heap.size + 1 + 1 + 1, 0, none⟩) (togL F G).length (F.length + G.length)] W (OfPost W ((togL F G).map (rawOf 0))) from by
      have := of_c ((togL F G).map (rawOf 0)) _ (F.length + G.length) W (by rw [hml]; have := HLEN.out; omega) hAR
      rw [hml] at this; exact this)
    have r0 := i7.cell 0; have rf := i7.free; have rz := i7.lt; have e0 := i5.cell 0; have ef := i5.free; have ez := i5.lt; have v0 := i4.cell 0; have vf := i4.free; have vz := i4.lt
    simp at r0 e0 v0
    have HKD := hidE hK; have BE := hidE i5; have BV := hidE i4
    clear HI0 HSEQ HMK hmk hm3 hun hok hAR i3 i4 i5 i6 i7 hK HOK HBAD
    go_wp2_with fail
    ((with_reducible refine (HOF.out).mono ?_); rintro e w1 ⟨v1, f1, er, rfl, hs1, hcase, hb1⟩)
    clear r0 rf rz e0 ef ez v0 vf vz
    have BE1 := BE.out.past hb1; have BV1 := BV.out.past hb1
    have e0 := BE1.cell 0; have ef := BE1.free; have ez := BE1.lt; have v0 := BV1.cell 0; have vf := BV1.free; have vz := BV1.lt
    simp at e0 v0
    obtain ⟨a1, c1, rfl, hs11, hs12, hs13⟩ := hs1
    have HS1 := hidE (And.intro hs11 (And.intro hs12 hs13)); have HC := hidE hcase; have HB1 := hidE hb1
    clear hs11 hs12 hs13 hcase hb1
    go_wp2
    obtain ⟨h2, h3, h4⟩ := HS1.out
    have hkf : ((w1.setCell ⟨w.heap.size + 1, 0, none⟩ (.slice a1 f1.length c1)).setCell ⟨w.heap.size + 1 + 1, 0, none⟩ (.int .i64 er)).heap[D]? = some (.deferred (some [])) :=
      (Below.heap_setCell _ _ _ _ (by simp; omega)).trans ((Below.heap_setCell _ _ _ _ (by simp; omega)).trans ((HB1.out.block D hD').trans HKD.out))
    have g1 := (((BV1.set 0 (.slice a1 f1.length c1)).other (b := w.heap.size + 1 + 1) (i := 0) (by omega) (.int .i64 er)).put (b := D) (by omega) (.deferred none)).cell 0
    have g2 := (((BE1.other (b := w.heap.size + 1) (i := 0) (by omega) (.slice a1 f1.length c1)).set 0 (.int .i64 er)).put (b := D) (by omega) (.deferred none)).cell 0
    simp at g1 g2
    have hdz : D < w1.heap.size := Nat.lt_of_lt_of_le hD' HB1.out.size
    refine ⟨by simp, .inl ⟨_, _, rfl, run_takeDeferred hkf, ?_⟩⟩
    refine ⟨.tuple #[.slice a1 f1.length c1, .int .i64 er], by simp [results, Try.results40, go_sem, g1, g2], ?_⟩
    rcases HC.out with ⟨_, q2, q3⟩ | ⟨q1, _, _⟩
    · rw [HUN.out _ q3, q2]
      refine ⟨_, rfl, ⟨a1, c1, rfl, h2, h3, argS_turn h4 (by simp [World.setCell]) (fun k i v hc => ?_)⟩, ?_⟩
      · by_cases e1 : k = w.heap.size + 1
        · subst e1; exact (one_cell BV1 hc).elim
        by_cases e2 : k = w.heap.size + 1 + 1
        · subst e2; exact (one_cell BE1 hc).elim
        by_cases e3 : k = D
        · subst e3; exact (no_cell ((HB1.out.block k hD').trans HKD.out) hc).elim
        · exact (World.putObj_heap_other e3).trans ((Below.heap_setCell _ _ _ _ e2).trans (Below.heap_setCell _ _ _ _ e1))
      · refine ((((i1.trans (HB1.out.mono i1.size)).setCell (p := ⟨w.heap.size + 1, 0, none⟩) (by simp) _).setCell (p := ⟨w.heap.size + 1 + 1, 0, none⟩) (by simp; omega) _)).trans (below_putObj _ _ _ (by omega))
    · rw [HALL.out] at q1; cases q1
  case stop =>
    rintro D c pre W hD hpre ⟨rfl, i1, i2, i3, hnil⟩ hK
    rw [HS5] at hD
    have g1 := (i2.put (b := D) (by omega) (.deferred none)).cell 0
    have g2 := (i3.put (b := D) (by omega) (.deferred none)).cell 0
    simp at g1 g2
    have HI1 := hidE i1
    clear HI0 HSEQ HMK hmk hm3 i2 i3 HOK HBAD
    go_wp2
    refine ⟨by simp, .inl ⟨_, _, rfl, run_takeDeferred hK, ?_⟩⟩
    refine ⟨.tuple #[.slice none 0 0, .int .i64 (doS 0 F G).2], by simp [results, Try.results40, go_sem, g1, g2], ?_⟩
    rw [hnil]
    exact ⟨_, rfl, sliS_nil _, HI1.out.trans (below_putObj _ _ _ (by omega))⟩

end Go.Proofs.Ytgflbidagdcfmaa

namespace Go.Proofs.Ytgflbidagdcfmaa
open Go.ChangeShapes Go.WideShapes Go.ChangeAt Go.RowKit
attribute [local irreducible] Go.Calls

/-- A slice whose cells are slices that read as lists of runs. -/
def CellsR (w : World) (b off : Nat) (L : List (List Sg)) : Prop :=
  ∀ i, i < L.length → ∃ (a : Option Addr) (c : Nat), w.cell? ⟨b, off + i, none⟩ = some (.slice a (L.getD i []).length c) ∧ ArgS w a (L.getD i [])
def ArgR (w : World) (a : Option Addr) (L : List (List Sg)) : Prop := 0 < L.length → ∃ b off, a = some ⟨b, off, none⟩ ∧ b < w.heap.size ∧ CellsR w b off L
theorem ArgR.past {w w' : World} {a : Option Addr} {L : List (List Sg)} (h : ArgR w a L) (hb : Below w.heap.size w w') : ArgR w' a L := fun hl => by
  obtain ⟨b, off, e, h1, h2⟩ := h hl
  refine ⟨b, off, e, Nat.lt_of_lt_of_le h1 hb.size, fun i hi => ?_⟩
  obtain ⟨a', c, h3, h4⟩ := h2 i hi
  exact ⟨a', c, (hb.cell (p := ⟨b, _, none⟩) h1).trans h3, h4.past hb⟩

/-- How many runs a row of functions has. -/
def lenR (L : List (List Sg)) : Nat := (L.map List.length).sum
theorem lenR_step {L : List (List Sg)} {n : Nat} (h : n < L.length) : lenR (L.take (n + 1)) = lenR (L.take n) + (L.getD n []).length := by
  unfold lenR
  rw [List.take_succ_eq_append_getElem h, getD_get _ _ _ h, List.map_append, List.sum_append]
  simp only [List.map_cons, List.map_nil, List.sum_cons, List.sum_nil, Nat.add_zero]
theorem lenR_take : ∀ (L : List (List Sg)) (n : Nat), lenR (L.take n) ≤ lenR L
  | [], n => by simp [lenR]
  | x :: r, 0 => by simp [lenR]
  | x :: r, n + 1 => by
    have := lenR_take r n
    unfold lenR at this ⊢
    simp only [List.take_succ_cons, List.map_cons, List.sum_cons]
    omega
theorem lenR_get {L : List (List Sg)} {n : Nat} (h : n < L.length) : (L.getD n []).length ≤ lenR L := by
  have h1 := lenR_step h
  have h2 := lenR_take L (n + 1)
  omega
theorem doS_len (k : Int) (F G : List Sg) : (doS k F G).1.length ≤ F.length + G.length := by
  unfold doS
  split
  · simp
  · split
    · exact opL_len k F G
    · simp
theorem sumE_step {L : List (List Sg)} {n : Nat} (h : n < L.length) (h0 : (sumE (L.take n)).2 = 0) : sumE (L.take (n + 1)) = doS 0 (sumE (L.take n)).1 (L.getD n []) := by
  have : sumE (L.take (n + 1)) = if (sumE (L.take n)).2 = 0 then doS 0 (sumE (L.take n)).1 (L.getD n []) else sumE (L.take n) := by
    unfold sumE
    rw [List.take_succ_eq_append_getElem h, List.foldl_append, getD_get _ _ _ h]; rfl
  rw [this, if_pos h0]
theorem sumE_err : ∀ (r : List (List Sg)) (acc : List Sg × Int), acc.2 ≠ 0 → r.foldl (fun acc f => if acc.2 = 0 then doS 0 acc.1 f else acc) acc = acc
  | [], _, _ => rfl
  | x :: r, acc, h => by
    rw [List.foldl_cons, if_neg h]
    exact sumE_err r acc h
theorem sumE_bad {L : List (List Sg)} {n : Nat} (h : (sumE (L.take n)).2 ≠ 0) : sumE L = sumE (L.take n) := by
  have e : sumE L = (L.drop n).foldl (fun acc f => if acc.2 = 0 then doS 0 acc.1 f else acc) (sumE (L.take n)) := by
    unfold sumE
    rw [← List.foldl_append, List.take_append_drop]
  rw [e]; exact sumE_err _ _ h
theorem doS_err {k : Int} {F G : List Sg} (h : (doS k F G).2 ≠ 0) : (doS k F G).1 = [] := by
  unfold doS at h ⊢
  split
  · rfl
  · split
    · rename_i h1 h2
      rw [if_neg h1, if_pos h2] at h
      exact absurd rfl h
    · rfl
theorem sumS_form {L : List (List Sg)} {i : Nat} (hi : i < L.length) (h : mayB (L.getD i []) = false) : sumS L = ([], 5) := by
  unfold sumS
  rw [if_neg]
  intro c
  rw [List.all_eq_true] at c
  rw [getD_get _ _ _ hi] at h
  rw [c _ (List.getElem_mem hi)] at h
  cases h
theorem sumS_good {L : List (List Sg)} (h : ∀ i, i < L.length → mayB (L.getD i []) = true) : sumS L = sumE L := by
  unfold sumS
  rw [if_pos]
  rw [List.all_eq_true]
  intro x hx
  obtain ⟨i, hi, rfl⟩ := List.getElem_of_mem hx
  have := h i hi
  rw [getD_get _ _ _ hi] at this; exact this

end Go.Proofs.Ytgflbidagdcfmaa

namespace Go.Proofs.Ytgflbidagdcfmaa
open Go.ChangeShapes Go.WideShapes Go.ChangeAt Go.RowKit
attribute [local irreducible] Go.Calls

theorem all_no {L : List (List Sg)} {i : Nat} (hi : i < L.length) (h : mayB (L.getD i []) = false) : L.all mayB = false := by
  rw [getD_get _ _ _ hi] at h
  rw [List.all_eq_false]
  exact ⟨_, List.getElem_mem hi, by rw [h]; exact Bool.false_ne_true⟩
theorem all_yes {L : List (List Sg)} (h : ∀ i, i < L.length → mayB (L.getD i []) = true) : L.all mayB = true := by
  rw [List.all_eq_true]
  intro x hx
  obtain ⟨i, hi, rfl⟩ := List.getElem_of_mem hx
  have := h i hi
  rw [getD_get _ _ _ hi] at this; exact this

set_option maxRecDepth 100000 in
set_option maxHeartbeats 1000000 in
theorem canon_c (L : List (List Sg)) (a : Option Addr) (cap : Nat) (w : World) (hn : L.length ≤ 999999990) (hl : lenR L ≤ 999999990) (hA : ArgR w a L) :
    Calls Try.prog 38 #[.slice a L.length cap] w fun e w' => e = .returned (.bool (L.all mayB)) ∧ Below w.heap.size w w' := by
  have HA := hidE hA; clear hA
  go_enter Try.func38, Try.ntmps38
  go_wp2
  go_loopg [7, 4] L.length (fun gh vi _ wr => ∃ n : Nat, vi = .int .i64 n ∧ n ≤ L.length ∧ L.length - n ≤ gh ∧ (∀ i, i < n → mayB (L.getD i []) = true) ∧ Below w.heap.size w wr)
  case atStart => exact ⟨0, rfl, by omega, by omega, fun i hi => by omega, Below.refl _ _⟩
  case round =>
    obtain ⟨n, rfl, hnl, hg, hs, hbr⟩ := hrel
    have HS := hidE hs; have HBR := hidE hbr
    clear hs
    by_cases hlt : n < L.length
    · obtain ⟨b, off, rfl, hb, hc⟩ := (HA.out.past hbr) (by omega)
      obtain ⟨ai, ci, d0, hAi⟩ := hc n hlt
      have HAI := hidE hAi
      have hln := lenR_get hlt
      have HV := hidE (fun w hA => pmay_c (L.getD n []) ai ci w (by omega) hA)
      have HF := hidE (fun h => all_no hlt h)
      have HNS := hidE (fun (he : mayB (L.getD n []) = true) => show ∀ i, i < n + 1 → mayB (L.getD i []) = true from fun i hi => by
        by_cases e : i = n
        · rw [e]; exact he
        · exact HS.out i (by omega))
      clear hc hAi hbr
      generalize L.getD n [] = G at *
      cases hm : mayB G
      · have HD := hidE (HF.out hm)
        rw [hm] at HV
        clear HNS HF hm
        go_wp2_with fail
        ((with_reducible refine (HV.out _ HAI.out).mono ?_); rintro e w1 ⟨rfl, hb1⟩)
        go_wp2
        go_ret
        rw [HD.out]
        exact ⟨rfl, bstep hb1 HBR.out⟩
      · have HN := hidE (HNS.out hm)
        rw [hm] at HV
        clear HNS HF hm
        go_wp2_with fail
        ((with_reducible refine (HV.out _ HAI.out).mono ?_); rintro e w1 ⟨rfl, hb1⟩)
        have o1 := bstep hb1 HBR.out
        clear hb1 d0
        go_wp2
        go_roundg (L.length - (n + 1))
        case measure => omega
        case rel => exact ⟨n + 1, by go_num, by omega, Nat.le_refl _, HN.out, o1⟩
    · have hn' : n = L.length := by omega
      subst hn'
      have HE := hidE (all_yes HS.out)
      go_wp2
      go_ret
      rw [HE.out]
      exact ⟨rfl, HBR.out⟩

/-- A new block of two slices. -/
theorem argR_two {w : World} {p : Nat} {F G : List Sg} {a a' : Option Addr} {cap cap' : Nat} {t : TypeId} (h : Blk w p #[.slice a F.length cap, .slice a' G.length cap'] t) (hA : ArgS w a F) (hA' : ArgS w a' G) : ArgR w (some ⟨p, 0, none⟩) [F, G] := fun _ =>
  ⟨p, 0, rfl, h.lt, fun i hi => by
    simp only [List.length_cons, List.length_nil] at hi
    match i, hi with
    | 0, _ => exact ⟨a, cap, h.cell 0, hA⟩
    | 1, _ => exact ⟨a', cap', h.cell 1, hA'⟩⟩
theorem argR_one {w : World} {p : Nat} {F : List Sg} {a : Option Addr} {cap : Nat} {t : TypeId} (h : Blk w p #[.slice a F.length cap] t) (hA : ArgS w a F) : ArgR w (some ⟨p, 0, none⟩) [F] := fun _ =>
  ⟨p, 0, rfl, h.lt, fun i hi => by
    simp only [List.length_cons, List.length_nil] at hi
    match i, hi with
    | 0, _ => exact ⟨a, cap, h.cell 0, hA⟩⟩
theorem canon_two (F G : List Sg) (p : Nat) (a a' : Option Addr) (cap cap' c : Nat) (t : TypeId) (w : World) (hl : F.length + G.length ≤ 999999990) (h : Blk w p #[.slice a F.length cap, .slice a' G.length cap'] t) (hA : ArgS w a F) (hA' : ArgS w a' G) :
    Calls Try.prog 38 #[.slice (some ⟨p, 0, none⟩) 2 c] w fun e w' => e = .returned (.bool (mayB F && mayB G)) ∧ Below w.heap.size w w' := by
  have := canon_c [F, G] (some ⟨p, 0, none⟩) c w (by simp) (by simp [lenR]; omega) (argR_two h hA hA')
  simpa using this
theorem canon_one (F : List Sg) (p : Nat) (a : Option Addr) (cap c : Nat) (t : TypeId) (w : World) (hl : F.length ≤ 999999990) (h : Blk w p #[.slice a F.length cap] t) (hA : ArgS w a F) :
    Calls Try.prog 38 #[.slice (some ⟨p, 0, none⟩) 1 c] w fun e w' => e = .returned (.bool (mayB F)) ∧ Below w.heap.size w w' := by
  have := canon_c [F] (some ⟨p, 0, none⟩) c w (by simp) (by simp [lenR]; omega) (argR_one h hA)
  simpa using this

end Go.Proofs.Ytgflbidagdcfmaa

namespace Go.Proofs.Ytgflbidagdcfmaa
open Go.ChangeShapes Go.WideShapes Go.ChangeAt Go.RowKit
attribute [local irreducible] Go.Calls

/-- A row that is handed in. -/
abbrev RowV (a b p q : Int) (g : Option Addr) (m c : Nat) : Value := .agg #[.int .i64 a, .int .i64 b, .slice g m c, .int .u8 p, .int .u8 q]
/-- What stays in memory. -/
structure SmI (F G l : List Sg) (f1 f2 f3 : Option Addr) (n1 c1 n2 c2 n3 c3 : Nat) (a b p q : Int) (pR pW : Nat) (w W : World) : Prop where
  row : Blk W pR #[.int .i64 a, .int .i64 b, .slice f3 n3 c3, .int .u8 p, .int .u8 q] 28
  win : Blk W pW #[.int .i64 a, .int .i64 b] 24
  s1 : SliS W (.slice f1 n1 c1) F
  s2 : SliS W (.slice f2 n2 c2) G
  s3 : SliS W (.slice f3 n3 c3) l
  bel : Below w.heap.size w W
section
variable {F G l : List Sg} {f1 f2 f3 : Option Addr} {n1 c1 n2 c2 n3 c3 : Nat} {a b p q : Int}
theorem SmI.past {pR pW : Nat} {w W W' : World} (h : SmI F G l f1 f2 f3 n1 c1 n2 c2 n3 c3 a b p q pR pW w W) (hb : Below W.heap.size W W') : SmI F G l f1 f2 f3 n1 c1 n2 c2 n3 c3 a b p q pR pW w W' :=
  ⟨h.row.past hb, h.win.past hb, h.s1.past hb, h.s2.past hb, h.s3.past hb, bstep hb h.bel⟩
theorem sli_len {w : World} {a : Option Addr} {n c : Nat} {l : List Sg} (h : SliS w (.slice a n c) l) : n = l.length ∧ n ≤ c ∧ c ≤ 9223372036854775807 ∧ ArgS w a l := by
  obtain ⟨a', c', e, q1, q2, q3⟩ := h
  cases e
  exact ⟨rfl, q1, q2, q3⟩
theorem sliS_take {w : World} {a : Option Addr} {n c k : Nat} {l : List Sg} (h : SliS w (.slice a n c) l) (hk : k ≤ n) : SliS w (.slice a k c) (l.take k) := by
  obtain ⟨e, q1, q2, q3⟩ := sli_len h
  have hl : (l.take k).length = k := by rw [List.length_take]; omega
  refine ⟨a, c, by rw [hl], by omega, q2, fun h0 => ?_⟩
  obtain ⟨b, off, e2, hb, hc⟩ := q3 (by omega)
  refine ⟨b, off, e2, hb, fun i hi => ?_⟩
  have := hc i (by omega)
  rw [List.getD_eq_getElem?_getD, List.getElem?_take, if_pos (by omega), ← List.getD_eq_getElem?_getD]
  exact this
/-- A row of windows and an error, a row of windows. -/
def vsP (L : List Wn) (er : Int) : Value → World → Prop := fun v w => ∃ (a : Option Addr) (c : Nat), v = .tuple #[.slice a L.length c, .int .i64 er] ∧ SliVs w (.slice a L.length c) L
def slP (L : List Wn) : Value → World → Prop := fun v w => ∃ (a : Option Addr) (c : Nat), v = .slice a L.length c ∧ SliVs w (.slice a L.length c) L
theorem stab_vsP (L : List Wn) (er : Int) : Stab (vsP L er) := fun _ _ _ ⟨a, c, h1, h2⟩ hb => ⟨a, c, h1, h2.past hb⟩
theorem stab_slP (L : List Wn) : Stab (slP L) := fun _ _ _ ⟨a, c, h1, h2⟩ hb => ⟨a, c, h1, h2.past hb⟩
end
end Go.Proofs.Ytgflbidagdcfmaa

namespace Go.Proofs.Ytgflbidagdcfmaa
open Go.RowKit

/-- What an operation waits for has run. -/
def ShutL (l : List Oper) (n : Nat) (L : Nat → Bool) : Prop := ∀ j k, j < n → waits l.toArray j k = true → L j = true → L k = true
theorem cov_listed {l : List Oper} {n : Nat} {L : Nat → Bool} (hs : ShutL l n L) : ∀ (d i j : Nat), i < n → (∀ k, waits l.toArray i k = true → L k = true) → cover l.toArray d i j = true → L j = true := by
  intro d
  induction d with
  | zero => intro i j _ h hc; exact h j hc
  | succ d ih =>
    intro i j hi h hc
    simp only [cover, Bool.or_eq_true, List.any_eq_true, Bool.and_eq_true, List.mem_range] at hc
    rcases hc with hc | ⟨k, hk, hw, hc⟩
    · exact h j hc
    · exact ih k j (by omega) (fun q hq => hs k q (by omega) hq (h k hw)) hc
theorem covX_listed {l : List Oper} {n : Nat} {L : Nat → Bool} (hs : ShutL l n L) {i j : Nat} (hi : i < n) (h : ∀ k, waits l.toArray i k = true → L k = true) (hc : coverX l.toArray i j = true) : L j = true := by
  unfold coverX at hc
  rw [Bool.or_eq_true] at hc
  rcases hc with hc | hc
  · exact cov_listed hs 3 i j hi h hc
  · exact cov_listed hs 8 i j hi h hc
theorem gives_mono {P : Program} {G G' : Value → World → Prop} {r : Result Next} (h : gives P G r) (hm : ∀ v w, G v w → G' v w) : gives P G' r := by
  cases r with
  | ok n w' =>
    cases n <;> simp only [gives] at h <;> simp only [gives]
    case value u => exact hm _ _ h
    case skip => exact hm _ _ h
    case enter f args => exact h.mono fun e w'' ⟨v, he, hg⟩ => ⟨v, he, hm _ _ hg⟩
  | halt x w' => simp only [gives] at h
section
variable {P : Program} {l : List Oper} {n q : Nat} {a0 : Act} {w0 : World}
/-- Before the call: the invariant; behind it: what it left, and what has been read out of its answer. -/
def CkI (l : List Oper) (n q : Nat) (I : (Nat → Bool) → (Nat → Value) → World → Prop) (Post : Value → World → Prop) (fs : Nat → Value → Value) (L : Nat → Bool) (u : Nat → Value) (w : World) : Prop :=
  (ShutL l n L ∧ ∀ k, n ≤ k → L k = false) ∧ (L q = false → I L u w ∧ ∀ j, q < j → L j = false) ∧ (L q = true → Post (u q) w ∧ ∀ j, q < j → L j = true → u j = fs j (u q))
theorem shut_up {L : Nat → Bool} (h : ShutL l n L) {i : Nat} (hw : ∀ j, waits l.toArray i j = true → L j = true) : ShutL l n (fun j => if j = i then true else L j) := fun j k hj hk h1 => by
  by_cases c : k = i
  · simp [c]
  · simp only [if_neg c]
    by_cases c2 : j = i
    · subst c2; exact hw k hk
    · simp only [if_neg c2] at h1
      exact h j k hj hk h1
/-- THE LAW. -/
theorem wp_region_CK {id : Nat} {Q : Exit → Act → World → Prop} (n q : Nat) (I : (Nat → Bool) → (Nat → Value) → World → Prop) (Post : Value → World → Prop) (fs : Nat → Value → Value) (hm : P.follows .mixedOrders = true) (hn : n ≤ l.length) (hok : jOk l n [] = true)
    (hq : q < n) (hcov : ((List.range q).all fun j => coverX l.toArray q j) = true) (hcov2 : ((List.range n).all fun i => decide (i ≤ q) || coverX l.toArray i q) = true) (hb : ((List.range n).all fun i => (List.range l.length).all fun j => !(waits l.toArray i j) || decide (j < i)) = true)
    (hstart : I (fun _ => false) (fun _ => undef) w0.drew)
    (hstep : ∀ (i : Nat) (o : Oper), i < q → l[i]? = some o → CStep P l n a0 I i o)
    (hcall : ∀ (o : Oper), l[q]? = some o → o.guard = none ∧ ∀ (E : Operand → Value) (L : Nat → Bool) (u : Nat → Value) (w : World), (∀ t j, dstOnly (l.take n) t j = true → t < a0.tmps.size → E (.tmp t) = u j) → (∀ t, dstNone (l.take n) t = true → E (.tmp t) = a0.eval (.tmp t)) → (∀ v, E (.const v) = v) → (∀ f, E (.func f) = .func (.func f) #[] #[]) →
      (∀ j, j < q → L j = true) → I L u w → gives P Post ((execOp E o).run P w))
    (hrest : ∀ (i : Nat) (o : Oper), q < i → i < n → l[i]? = some o → o.guard = none ∧ ∀ (E : Operand → Value) (u : Nat → Value) (w : World), (∀ t j, dstOnly (l.take n) t j = true → t < a0.tmps.size → E (.tmp t) = u j) → (∀ t, dstNone (l.take n) t = true → E (.tmp t) = a0.eval (.tmp t)) →
      (∀ j, q < j → waits l.toArray i j = true → u j = fs j (u q)) → Post (u q) w → gives P (fun v w' => v = fs i (u q) ∧ w' = w) ((execOp E o).run P w))
    (htail : ∀ (u : Nat → Value) (w : World), (∀ j, q < j → j < n → u j = fs j (u q)) → Post (u q) w → wpList P l.toArray Q (l.drop n) (frm (l.take n) u 0 a0) w) :
    (Code.region id l.toArray true).wp P Q a0 w0 := by
  have hcov' : ∀ j, j < q → coverX l.toArray q j = true := fun j hj => List.all_eq_true.1 hcov j (List.mem_range.2 hj)
  have hcov2' : ∀ i, i < n → q < i → coverX l.toArray i q = true := fun i hi hqi => by
    have := List.all_eq_true.1 hcov2 i (List.mem_range.2 hi)
    rw [Bool.or_eq_true] at this
    rcases this with h | h
    · have := of_decide_eq_true h; omega
    · exact h
  refine wp_region_C n (CkI l n q I Post fs) hm hn hok ⟨⟨fun j k _ _ h => (by cases h), fun _ _ => rfl⟩, fun _ => ⟨hstart, fun _ _ => rfl⟩, fun h => (by cases h)⟩ ?_ ?_
  · intro i o hi ho
    have wlt : ∀ j, waits l.toArray i j = true → j < n := fun j hj => by
      by_cases c : j < l.length
      · have := List.all_eq_true.1 (List.all_eq_true.1 hb i (List.mem_range.2 hi)) j (List.mem_range.2 c)
        rw [hj] at this
        have := of_decide_eq_true (by simpa using this : decide (j < i) = true)
        omega
      · exfalso
        have hok' := jOk_spec hok
        have hil : l[i]? = some o := ho
        unfold waits at hj
        have hka : l.toArray[i]? = some o := by simpa using ho
        rw [hka] at hj
        obtain ⟨e, he, hb⟩ := Array.any_eq_true'.1 hj
        simp only [Bool.and_eq_true, beq_iff_eq] at hb
        have := hok'.back i o ho e he hb.1
        rw [hb.2] at this
        have hlt : i < l.length := (List.getElem?_eq_some_iff.1 ho).1
        omega
    rcases Nat.lt_trichotomy i q with hiq | rfl | hiq
    · have hs := hstep i o hiq ho
      intro L u w hl hw hI
      obtain ⟨⟨h1, h1n⟩, h2, h3⟩ := hI
      have hLq : L q = false := by
        cases e : L q with
        | false => rfl
        | true =>
          have := covX_listed h1 hq (fun k hk => h1 q k hq hk e) (hcov' i hiq)
          rw [this] at hl; cases hl
      obtain ⟨hIL, hno⟩ := h2 hLq
      have hs := hs L u w hl hw hIL
      have hqi : ¬ q = i := by omega
      have fin : ∀ v w', I (fun j => if j = i then true else L j) (fun j => if j = i then v else u j) w' → CkI l n q I Post fs (fun j => if j = i then true else L j) (fun j => if j = i then v else u j) w' := fun v w' hv =>
        ⟨⟨shut_up h1 (fun j hj => hw j (wlt j hj) hj), fun k hk => by simp only [if_neg (show ¬ k = i by omega)]; exact h1n k hk⟩, fun _ => ⟨hv, fun j hj => by simp only [if_neg (show ¬ j = i by omega)]; exact hno j hj⟩, fun h => by simp only [if_neg hqi, hLq] at h; cases h⟩
      split
      · rename_i hwd
        rw [if_pos hwd] at hs
        exact gives_mono hs fin
      · rename_i hwd
        rw [if_neg hwd] at hs
        exact fin _ _ hs
    · obtain ⟨hg, hc⟩ := hcall o ho
      refine cstep_evF hg ?_
      intro E L u w E1 E0 EC EF hl hw hI
      obtain ⟨⟨h1, h1n⟩, h2, h3⟩ := hI
      obtain ⟨hIL, hno⟩ := h2 hl
      have hall : ∀ j, j < i → L j = true := fun j hj => covX_listed h1 hi (fun k hk => hw k (wlt k hk) hk) (hcov' j hj)
      have hs := hc E L u w E1 E0 EC EF hall hIL
      have fin : ∀ v w', Post v w' → CkI l n i I Post fs (fun j => if j = i then true else L j) (fun j => if j = i then v else u j) w' := fun v w' hv =>
        ⟨⟨shut_up h1 (fun j hj => hw j (wlt j hj) hj), fun k hk => by simp only [if_neg (show ¬ k = i by omega)]; exact h1n k hk⟩, fun h => by simp at h, fun _ => ⟨by simpa using hv, fun j hj h => by simp only [if_neg (show ¬ j = i by omega)] at h; rw [hno j hj] at h; cases h⟩⟩
      exact gives_mono hs fin
    · obtain ⟨hg, hc⟩ := hrest i o hiq hi ho
      refine cstep_evF hg ?_
      intro E L u w E1 E0 EC EF hl hw hI
      obtain ⟨⟨h1, h1n⟩, h2, h3⟩ := hI
      have hLq : L q = true := covX_listed h1 hi (fun k hk => hw k (wlt k hk) hk) (hcov2' i hi hiq)
      obtain ⟨hP, hf⟩ := h3 hLq
      have hs := hc E u w E1 E0 (fun j hj hwj => hf j hj (hw j (wlt j hwj) hwj)) hP
      have hqi : ¬ q = i := by omega
      have fin : ∀ v w', v = fs i (u q) ∧ w' = w → CkI l n q I Post fs (fun j => if j = i then true else L j) (fun j => if j = i then v else u j) w' := fun v w' ⟨hv, hw'⟩ => by
        subst hw'
        refine ⟨⟨shut_up h1 (fun j hj => hw j (wlt j hj) hj), fun k hk => by simp only [if_neg (show ¬ k = i by omega)]; exact h1n k hk⟩, fun h => (by simp only [if_neg hqi, hLq] at h; cases h), fun _ => ⟨by simp only [if_neg hqi]; exact hP, fun j hj h => ?_⟩⟩
        simp only [if_neg hqi]
        by_cases c : j = i
        · subst c; simpa using hv
        · simp only [if_neg c] at h ⊢
          exact hf j hj h
      exact gives_mono hs fin
  · intro L u w hall hI
    obtain ⟨_, _, h3⟩ := hI
    obtain ⟨hP, hf⟩ := h3 (hall q hq)
    exact htail u w (fun j h1 h2 => hf j h1 (hall j h2)) hP
end
end Go.Proofs.Ytgflbidagdcfmaa
