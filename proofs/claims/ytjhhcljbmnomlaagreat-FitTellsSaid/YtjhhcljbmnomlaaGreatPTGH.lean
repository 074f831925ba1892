/- The document's own answers of layer 15: what stands against a window, what fits, what is taken. No conditions but the lists' sizes, and that the slices' cells read as integers. The contract of the document's own Units. No conditions. liveryref15.Units: how many units fit, by definition. No conditions but the list's size, and that the slice's cells read as integers. What the document fixes of package fit: the statements' own 'head' answers true. No conditions. The walk of the statement on what fits, what is taken, and how many units fit, against the document's answers. Conditions: that the slice reads as a function. -/
import Derived.Test.YtjhhcljbmnomlaaGreatPTGG
import Derived.Test.YtjhhcljbmnomlaaGreatPTGD
import Derived.Test.YtjhhcljbmnomlaaGreatPTMB
namespace Go.Proofs.YtjhhcljbmnomlaaGreat
open Go.ChangeShapes Go.WideShapes Go.ChangeAt Go.RowKit
attribute [local irreducible] Go.Calls

set_option maxRecDepth 100000 in
theorem rbad_c (F : List Sg) (x d m c : Int) (a : Option Addr) (cap : Nat) (w : World) (hl : F.length ≤ 1000000000) (hA : ArgS w a F) :
    Calls Tryz.prog 85 #[.slice a F.length cap, .int .i64 x, .int .i64 d, V m c] w fun e w' => e = .returned (.int .i64 (fitE F x d (m, c))) ∧ Below w.heap.size w w' := by
  have HM := hidE (fun w hA => rmayf_c F a cap w (by omega) hA)
  have HA := hidE hA
  clear hA
  cases h1 : mayB F
  · have HE := hidE (fitE_form (x := x) (d := d) (v := (m, c)) h1)
    rw [h1] at HM
    rw [HE.out]
    clear h1
    go_enter Tryz.func85, Tryz.ntmps85
    go_wp2_with fail
    ((with_reducible refine (HM.out _ (HA.out.past (by (repeat (first | exact Below.refl _ _ | assumption | refine balloc ?_ _ | refine below_drewN ?_ _ | refine bstep (by assumption) ?_ | refine bstep (Past.prop _) ?_ | refine Below.setCell ?_ (by first | exact Nat.le_refl _ | (simp; done) | (simp; omega)) _))))).mono ?_); rintro e w1 ⟨rfl, hb1⟩)
    go_wp2
    go_ret
    exact ⟨rfl, by (repeat (first | exact Below.refl _ _ | assumption | refine balloc ?_ _ | refine below_drewN ?_ _ | refine bstep (by assumption) ?_ | refine bstep (Past.prop _) ?_ | refine Below.setCell ?_ (by first | exact Nat.le_refl _ | (simp; done) | (simp; omega)) _))⟩
  · by_cases h2 : d < 1 ∨ 4096 < d
    · have HE := hidE (fitE_arg (x := x) (v := (m, c)) h1 h2)
      rw [h1] at HM
      rw [HE.out]
      clear h1
      by_cases h3 : d < 1
      · have d1 : decide (d < 1) = true := decide_eq_true h3
        clear h2 h3
        go_enter Tryz.func85, Tryz.ntmps85
        go_wp2_with fail
        ((with_reducible refine (HM.out _ (HA.out.past (by (repeat (first | exact Below.refl _ _ | assumption | refine balloc ?_ _ | refine below_drewN ?_ _ | refine bstep (by assumption) ?_ | refine bstep (Past.prop _) ?_ | refine Below.setCell ?_ (by first | exact Nat.le_refl _ | (simp; done) | (simp; omega)) _))))).mono ?_); rintro e w1 ⟨rfl, hb1⟩)
        go_wp2
        go_ret
        exact ⟨rfl, by (repeat (first | exact Below.refl _ _ | assumption | refine balloc ?_ _ | refine below_drewN ?_ _ | refine bstep (by assumption) ?_ | refine bstep (Past.prop _) ?_ | refine Below.setCell ?_ (by first | exact Nat.le_refl _ | (simp; done) | (simp; omega)) _))⟩
      · have d1 : decide (d < 1) = false := decide_eq_false h3
        have d2 : decide (4096 < d) = true := decide_eq_true (by omega)
        clear h2 h3
        go_enter Tryz.func85, Tryz.ntmps85
        go_wp2_with fail
        ((with_reducible refine (HM.out _ (HA.out.past (by (repeat (first | exact Below.refl _ _ | assumption | refine balloc ?_ _ | refine below_drewN ?_ _ | refine bstep (by assumption) ?_ | refine bstep (Past.prop _) ?_ | refine Below.setCell ?_ (by first | exact Nat.le_refl _ | (simp; done) | (simp; omega)) _))))).mono ?_); rintro e w1 ⟨rfl, hb1⟩)
        go_wp2
        go_ret
        exact ⟨rfl, by (repeat (first | exact Below.refl _ _ | assumption | refine balloc ?_ _ | refine below_drewN ?_ _ | refine bstep (by assumption) ?_ | refine bstep (Past.prop _) ?_ | refine Below.setCell ?_ (by first | exact Nat.le_refl _ | (simp; done) | (simp; omega)) _))⟩
    · have d1 : decide (d < 1) = false := decide_eq_false (by omega)
      have d2 : decide (4096 < d) = false := decide_eq_false (by omega)
      have hdd : 1 ≤ d ∧ d ≤ 4096 := by omega
      cases h3 : nowB x
      · have HE := hidE (fitE_range (F := F) (x := x) (d := d) (v := (m, c)) h1 hdd (.inl h3))
        rw [h1] at HM
        rw [HE.out]
        clear h1 h2 hdd
        have hno : ¬ (-1099511627776 ≤ x ∧ x ≤ 1099511627776) := fun h => by rw [nowB_iff.2 h] at h3; cases h3
        clear h3
        by_cases h5 : x < -1099511627776
        · have d3 : decide (x < -1099511627776) = true := decide_eq_true h5
          clear h5 hno
          go_enter Tryz.func85, Tryz.ntmps85
          go_wp2_with fail
          ((with_reducible refine (HM.out _ (HA.out.past (by (repeat (first | exact Below.refl _ _ | assumption | refine balloc ?_ _ | refine below_drewN ?_ _ | refine bstep (by assumption) ?_ | refine bstep (Past.prop _) ?_ | refine Below.setCell ?_ (by first | exact Nat.le_refl _ | (simp; done) | (simp; omega)) _))))).mono ?_); rintro e w1 ⟨rfl, hb1⟩)
          go_wp2
          go_ret
          exact ⟨rfl, by (repeat (first | exact Below.refl _ _ | assumption | refine balloc ?_ _ | refine below_drewN ?_ _ | refine bstep (by assumption) ?_ | refine bstep (Past.prop _) ?_ | refine Below.setCell ?_ (by first | exact Nat.le_refl _ | (simp; done) | (simp; omega)) _))⟩
        · have d3 : decide (x < -1099511627776) = false := decide_eq_false h5
          have d4 : decide (1099511627776 < x) = true := decide_eq_true (by omega)
          clear h5 hno
          go_enter Tryz.func85, Tryz.ntmps85
          go_wp2_with fail
          ((with_reducible refine (HM.out _ (HA.out.past (by (repeat (first | exact Below.refl _ _ | assumption | refine balloc ?_ _ | refine below_drewN ?_ _ | refine bstep (by assumption) ?_ | refine bstep (Past.prop _) ?_ | refine Below.setCell ?_ (by first | exact Nat.le_refl _ | (simp; done) | (simp; omega)) _))))).mono ?_); rintro e w1 ⟨rfl, hb1⟩)
          go_wp2
          go_ret
          exact ⟨rfl, by (repeat (first | exact Below.refl _ _ | assumption | refine balloc ?_ _ | refine below_drewN ?_ _ | refine bstep (by assumption) ?_ | refine bstep (Past.prop _) ?_ | refine Below.setCell ?_ (by first | exact Nat.le_refl _ | (simp; done) | (simp; omega)) _))⟩
      · have HE := hidE (show fitE F x d (m, c) = if okV m c then 0 else 10 by
          cases h4 : okV m c
          · exact fitE_range (F := F) (x := x) (d := d) (v := (m, c)) h1 hdd (.inr h4)
          · exact fitE_ok (F := F) (x := x) (d := d) (v := (m, c)) h1 hdd h3 h4)
        rw [h1] at HM
        rw [HE.out]
        have hyes := nowB_iff.1 h3
        have d3 : decide (x < -1099511627776) = false := decide_eq_false (by omega)
        have d4 : decide (1099511627776 < x) = false := decide_eq_false (by omega)
        clear h1 h2 hdd h3 hyes
        cases h4 : okV m c
        all_goals
          go_enter Tryz.func85, Tryz.ntmps85
          go_wp2_with fail
          ((with_reducible refine (HM.out _ (HA.out.past (by (repeat (first | exact Below.refl _ _ | assumption | refine balloc ?_ _ | refine below_drewN ?_ _ | refine bstep (by assumption) ?_ | refine bstep (Past.prop _) ?_ | refine Below.setCell ?_ (by first | exact Nat.le_refl _ | (simp; done) | (simp; omega)) _))))).mono ?_); rintro e w1 ⟨rfl, hb1⟩)
          have hb1' : Below w.heap.size w w1 := by (repeat (first | exact Below.refl _ _ | assumption | refine balloc ?_ _ | refine below_drewN ?_ _ | refine bstep (by assumption) ?_ | refine bstep (Past.prop _) ?_ | refine Below.setCell ?_ (by first | exact Nat.le_refl _ | (simp; done) | (simp; omega)) _))
          have B0 := (Blk.made w #[.int .i64 m, .int .i64 c] 65).past hb1
          have b0 := B0.cell 0; have b1 := B0.cell 1; have bz := B0.lt
          simp at b0 b1
          go_wp2_with fail
          ((with_reducible refine (rmay_eq h4).mono ?_); rintro e w3 ⟨rfl, hb3⟩)
          go_wp2
          go_ret
          exact ⟨rfl, by (repeat (first | exact Below.refl _ _ | assumption | refine balloc ?_ _ | refine below_drewN ?_ _ | refine bstep (by assumption) ?_ | refine bstep (Past.prop _) ?_ | refine Below.setCell ?_ (by first | exact Nat.le_refl _ | (simp; done) | (simp; omega)) _))⟩
theorem rfits_c (F : List Sg) (x d m c : Int) (a : Option Addr) (cap : Nat) (w : World) (hl : F.length ≤ 100000) (hA : ArgS w a F) :
    Calls Tryz.prog 41 #[.slice a F.length cap, .int .i64 x, .int .i64 d, V m c] w fun e w' => e = .returned (.tuple #[.bool (fitsS F x d (m, c)).1, .int .i64 (fitsS F x d (m, c)).2]) ∧ Below w.heap.size w w' := by
  have HFA := hidE (fun w hA => rbad_c F x d m c a cap w (by omega) hA)
  have HA := hidE hA
  clear hA
  by_cases h0 : fitE F x d (m, c) = 0
  · obtain ⟨q1, q2, q3, q4⟩ := fitE_zero h0
    have HE := hidE (show fitsS F x d (m, c) = (fitB F x d (m, c), 0) by unfold fitsS; rw [if_pos h0])
    have HR := hidE (fun w hA => rinto_c F x d m c a cap w hl q2 q3 hA)
    rw [into_is q2.1] at HR
    rw [h0] at HFA
    rw [HE.out]
    clear h0 q1 q2 q3 q4 HE
    generalize fitB F x d (m, c) = r at *
    go_enter Tryz.func41, Tryz.ntmps41
    go_wp2_with fail
    ((with_reducible refine (HFA.out _ (HA.out.past (by (repeat (first | exact Below.refl _ _ | assumption | refine balloc ?_ _ | refine below_drewN ?_ _ | refine bstep (by assumption) ?_ | refine bstep (Past.prop _) ?_ | refine Below.setCell ?_ (by first | exact Nat.le_refl _ | (simp; done) | (simp; omega)) _))))).mono ?_); rintro e w1 ⟨rfl, hb1⟩)
    have hB1 : Below w.heap.size w w1 := by (repeat (first | exact Below.refl _ _ | assumption | refine balloc ?_ _ | refine below_drewN ?_ _ | refine bstep (by assumption) ?_ | refine bstep (Past.prop _) ?_ | refine Below.setCell ?_ (by first | exact Nat.le_refl _ | (simp; done) | (simp; omega)) _))
    have B0 := (Blk.made w #[.int .i64 m, .int .i64 c] 65).past hb1
    have b0 := B0.cell 0; have b1 := B0.cell 1; have bz := B0.lt
    simp at b0 b1
    clear hb1
    go_wp2_with fail
    ((with_reducible refine (HR.out _ (HA.out.past (by (repeat (first | exact Below.refl _ _ | assumption | refine balloc ?_ _ | refine below_drewN ?_ _ | refine bstep (by assumption) ?_ | refine bstep (Past.prop _) ?_ | refine Below.setCell ?_ (by first | exact Nat.le_refl _ | (simp; done) | (simp; omega)) _))))).mono ?_); rintro e w3 ⟨rfl, hb3⟩)
    go_wp2
    go_ret2
    exact ⟨rfl, by (repeat (first | exact Below.refl _ _ | assumption | refine balloc ?_ _ | refine below_drewN ?_ _ | refine bstep (by assumption) ?_ | refine bstep (Past.prop _) ?_ | refine Below.setCell ?_ (by first | exact Nat.le_refl _ | (simp; done) | (simp; omega)) _))⟩
  · have e0 : (fitE F x d (m, c) == 0) = false := beq_eq_false_iff_ne.2 h0
    have HE := hidE (show fitsS F x d (m, c) = (false, fitE F x d (m, c)) by unfold fitsS; rw [if_neg h0])
    rw [HE.out]
    clear h0 HE
    generalize fitE F x d (m, c) = k at *
    go_enter Tryz.func41, Tryz.ntmps41
    go_wp2_with fail
    ((with_reducible refine (HFA.out _ (HA.out.past (by (repeat (first | exact Below.refl _ _ | assumption | refine balloc ?_ _ | refine below_drewN ?_ _ | refine bstep (by assumption) ?_ | refine bstep (Past.prop _) ?_ | refine Below.setCell ?_ (by first | exact Nat.le_refl _ | (simp; done) | (simp; omega)) _))))).mono ?_); rintro e w1 ⟨rfl, hb1⟩)
    go_wp2
    go_ret2
    exact ⟨rfl, by (repeat (first | exact Below.refl _ _ | assumption | refine balloc ?_ _ | refine below_drewN ?_ _ | refine bstep (by assumption) ?_ | refine bstep (Past.prop _) ?_ | refine Below.setCell ?_ (by first | exact Nat.le_refl _ | (simp; done) | (simp; omega)) _))⟩
theorem rfits_eq {F : List Sg} {x d m c : Int} {a : Option Addr} {n cap : Nat} {w : World} {r : Bool × Int} (h1 : SliS w (.slice a n cap) F) (hl : n ≤ 100000) (he : fitsS F x d (m, c) = r) :
    Calls Tryz.prog 41 #[.slice a n cap, .int .i64 x, .int .i64 d, V m c] w fun e w' => e = .returned (.tuple #[.bool r.1, .int .i64 r.2]) ∧ Below w.heap.size w w' := by
  obtain ⟨a', c', e, h2, h3, h4⟩ := h1
  cases e; subst he
  exact rfits_c F x d m c a cap w (by omega) h4
theorem rtake_c (F : List Sg) (x d m c : Int) (a : Option Addr) (cap : Nat) (w : World) (hl : F.length ≤ 100000) (hA : ArgS w a F) :
    Calls Tryz.prog 43 #[.slice a F.length cap, .int .i64 x, .int .i64 d, V m c] w (OfIs w (takeS F x d (m, c)).1 (takeS F x d (m, c)).2) := by
  have HFA := hidE (fun w hA => rbad_c F x d m c a cap w (by omega) hA)
  have HA := hidE hA
  clear hA
  by_cases h0 : fitE F x d (m, c) = 0
  · obtain ⟨q1, q2, q3, q4⟩ := fitE_zero h0
    have q3 := nowB_iff.1 q3
    have q5 := okV_iff.1 q4
    have HE := hidE (show takeS F x d (m, c) = rangeS F x (x + d) (-m, -c) by unfold takeS; rw [if_pos h0])
    have HR := hidE (fun w hA => rrange_c F x (x + d) (-m) (-c) a cap w (by omega) hA)
    have wq : IntKind.i64.wrap (x + d) = x + d := IntWalk.i64_in _ (by omega)
    have wm := IntWalk.wrap64_in (-m) (by omega)
    have wc := IntWalk.wrap64_in (-c) (by omega)
    rw [h0] at HFA
    rw [HE.out]
    clear h0 q1 q2 q3 q4 q5 HE
    generalize rangeS F x (x + d) (-m, -c) = r at *
    go_enter Tryz.func43, Tryz.ntmps43
    go_wp2_with fail
    ((with_reducible refine (HFA.out _ (HA.out.past (by (repeat (first | exact Below.refl _ _ | assumption | refine balloc ?_ _ | refine below_drewN ?_ _ | refine bstep (by assumption) ?_ | refine bstep (Past.prop _) ?_ | refine Below.setCell ?_ (by first | exact Nat.le_refl _ | (simp; done) | (simp; omega)) _))))).mono ?_); rintro e w1 ⟨rfl, hb1⟩)
    have hB1 : Below w.heap.size w w1 := by (repeat (first | exact Below.refl _ _ | assumption | refine balloc ?_ _ | refine below_drewN ?_ _ | refine bstep (by assumption) ?_ | refine bstep (Past.prop _) ?_ | refine Below.setCell ?_ (by first | exact Nat.le_refl _ | (simp; done) | (simp; omega)) _))
    have B0 := (Blk.made w #[.int .i64 m, .int .i64 c] 65).past hb1
    have b0 := B0.cell 0; have b1 := B0.cell 1; have bz := B0.lt
    simp at b0 b1
    clear hb1
    go_wp2_with fail
    (try rw [wm, wc])
    ((with_reducible refine (HR.out _ (HA.out.past (by (repeat (first | exact Below.refl _ _ | assumption | refine balloc ?_ _ | refine below_drewN ?_ _ | refine bstep (by assumption) ?_ | refine bstep (Past.prop _) ?_ | refine Below.setCell ?_ (by first | exact Nat.le_refl _ | (simp; done) | (simp; omega)) _))))).mono ?_); rintro e w3 ⟨v3, rfl, hv3, hb3⟩)
    go_wp2
    go_ret2
    exact ⟨_, rfl, hv3, by (repeat (first | exact Below.refl _ _ | assumption | refine balloc ?_ _ | refine below_drewN ?_ _ | refine bstep (by assumption) ?_ | refine bstep (Past.prop _) ?_ | refine Below.setCell ?_ (by first | exact Nat.le_refl _ | (simp; done) | (simp; omega)) _))⟩
  · have e0 : (fitE F x d (m, c) == 0) = false := beq_eq_false_iff_ne.2 h0
    have e1 : (fitE F x d (m, c) != 0) = true := bne_iff_ne.2 h0
    have HE := hidE (show takeS F x d (m, c) = ([], fitE F x d (m, c)) by unfold takeS; rw [if_neg h0])
    rw [HE.out]
    clear h0 HE
    generalize fitE F x d (m, c) = k at *
    go_enter Tryz.func43, Tryz.ntmps43
    go_wp2_with fail
    ((with_reducible refine (HFA.out _ (HA.out.past (by (repeat (first | exact Below.refl _ _ | assumption | refine balloc ?_ _ | refine below_drewN ?_ _ | refine bstep (by assumption) ?_ | refine bstep (Past.prop _) ?_ | refine Below.setCell ?_ (by first | exact Nat.le_refl _ | (simp; done) | (simp; omega)) _))))).mono ?_); rintro e w1 ⟨rfl, hb1⟩)
    go_wp2
    go_ret2
    exact ⟨_, rfl, sliS_nil _, by (repeat (first | exact Below.refl _ _ | assumption | refine balloc ?_ _ | refine below_drewN ?_ _ | refine bstep (by assumption) ?_ | refine bstep (Past.prop _) ?_ | refine Below.setCell ?_ (by first | exact Nat.le_refl _ | (simp; done) | (simp; omega)) _))⟩
theorem rtake_s {F r : List Sg} {x d m c er : Int} {a : Option Addr} {n cap : Nat} {w : World} (h1 : SliS w (.slice a n cap) F) (hl : n ≤ 100000) (he : takeS F x d (m, c) = (r, er)) :
    Calls Tryz.prog 43 #[.slice a n cap, .int .i64 x, .int .i64 d, V m c] w (OfIs w r er) := by
  obtain ⟨a', c', e, h2, h3, h4⟩ := h1
  cases e
  have := rtake_c F x d m c a cap w (by omega) h4
  rw [he] at this; exact this
end Go.Proofs.YtjhhcljbmnomlaaGreat

namespace Go.Proofs.YtjhhcljbmnomlaaGreat
open Go.ChangeShapes Go.WideShapes Go.ChangeAt Go.RowKit

theorem run_c (a b c d : Int) (w : World) : Calls Tryz.prog 94 #[V a b, V c d] w fun e w' => e = .returned (IE (unS a b c d)) ∧ Below w.heap.size w w' := by
  by_cases h1 : c < 1
  · have e : unS a b c d = (0, 2) := by unfold unS; rw [if_pos (.inl h1)]
    rw [e]; clear e
    go_enter Tryz.func94, Tryz.ntmps94
    go_wp2
    go_ret2
    refine ⟨rfl, ?_⟩
    (repeat (first | exact Below.refl _ _ | assumption | refine balloc ?_ _ | refine below_drewN ?_ _ | refine bstep (by assumption) ?_ | refine bstep (Past.prop _) ?_ | refine Below.setCell ?_ (by first | exact Nat.le_refl _ | (simp; done) | (simp; omega)) _))
  by_cases h1' : d < 1
  · have e : unS a b c d = (0, 2) := by unfold unS; rw [if_pos (.inr h1')]
    rw [e]; clear e
    go_enter Tryz.func94, Tryz.ntmps94
    go_wp2
    go_ret2
    refine ⟨rfl, ?_⟩
    (repeat (first | exact Below.refl _ _ | assumption | refine balloc ?_ _ | refine below_drewN ?_ _ | refine bstep (by assumption) ?_ | refine bstep (Past.prop _) ?_ | refine Below.setCell ?_ (by first | exact Nat.le_refl _ | (simp; done) | (simp; omega)) _))
  cases h3 : okV a b
  · have e : unS a b c d = (0, 10) := by unfold unS; rw [if_neg (by omega), if_pos (by rw [h3]; rfl)]
    rw [e]; clear e
    go_enter Tryz.func94, Tryz.ntmps94
    go_wp2_with (go_at_call 68; ((with_reducible refine (rmay_eq h3).mono ?_); rintro e w' ⟨rfl, hb⟩; obtain ⟨hc, hf⟩ := bcell hb; have hz0 := bsz hb (w.heap.size) (by first | assumption | (simp; done) | (simp; omega)); have hz1 := bsz hb (w.heap.size + 1) (by first | assumption | (simp; done) | (simp; omega))))
    go_ret2
    refine ⟨rfl, ?_⟩
    (repeat (first | exact Below.refl _ _ | assumption | refine balloc ?_ _ | refine below_drewN ?_ _ | refine bstep (by assumption) ?_ | refine bstep (Past.prop _) ?_ | refine Below.setCell ?_ (by first | exact Nat.le_refl _ | (simp; done) | (simp; omega)) _))
  cases h4 : okV c d
  · have e : unS a b c d = (0, 10) := by unfold unS; rw [if_neg (by omega), if_pos (by rw [h3, h4]; rfl)]
    rw [e]; clear e
    go_enter Tryz.func94, Tryz.ntmps94
    go_wp2_with (first | (go_at_call 68; ((with_reducible refine (rmay_eq h3).mono ?_); rintro e w' ⟨rfl, hb⟩; obtain ⟨hc, hf⟩ := bcell hb; have hz0 := bsz hb (w.heap.size) (by first | assumption | (simp; done) | (simp; omega)); have hz1 := bsz hb (w.heap.size + 1) (by first | assumption | (simp; done) | (simp; omega)))) | (go_at_call 68; ((with_reducible refine (rmay_eq h4).mono ?_); rintro e w' ⟨rfl, hb⟩; obtain ⟨hc, hf⟩ := bcell hb; have hz0 := bsz hb (w.heap.size) (by first | assumption | (simp; done) | (simp; omega)); have hz1 := bsz hb (w.heap.size + 1) (by first | assumption | (simp; done) | (simp; omega)))))
    go_ret2
    refine ⟨rfl, ?_⟩
    (repeat (first | exact Below.refl _ _ | assumption | refine balloc ?_ _ | refine below_drewN ?_ _ | refine bstep (by assumption) ?_ | refine bstep (Past.prop _) ?_ | refine Below.setCell ?_ (by first | exact Nat.le_refl _ | (simp; done) | (simp; omega)) _))
  have g1 := okV_iff.1 h3; have g2 := okV_iff.1 h4
  by_cases h5 : a < 0
  · have e : unS a b c d = (0, 0) := by unfold unS; rw [if_neg (by omega), if_neg (by rw [h3, h4]; decide), if_pos (.inl h5)]
    rw [e]; clear e
    go_enter Tryz.func94, Tryz.ntmps94
    go_wp2_with (first | (go_at_call 68; ((with_reducible refine (rmay_eq h3).mono ?_); rintro e w' ⟨rfl, hb⟩; obtain ⟨hc, hf⟩ := bcell hb; have hz0 := bsz hb (w.heap.size) (by first | assumption | (simp; done) | (simp; omega)); have hz1 := bsz hb (w.heap.size + 1) (by first | assumption | (simp; done) | (simp; omega)))) | (go_at_call 68; ((with_reducible refine (rmay_eq h4).mono ?_); rintro e w' ⟨rfl, hb⟩; obtain ⟨hc, hf⟩ := bcell hb; have hz0 := bsz hb (w.heap.size) (by first | assumption | (simp; done) | (simp; omega)); have hz1 := bsz hb (w.heap.size + 1) (by first | assumption | (simp; done) | (simp; omega)))))
    go_ret2
    refine ⟨rfl, ?_⟩
    (repeat (first | exact Below.refl _ _ | assumption | refine balloc ?_ _ | refine below_drewN ?_ _ | refine bstep (by assumption) ?_ | refine bstep (Past.prop _) ?_ | refine Below.setCell ?_ (by first | exact Nat.le_refl _ | (simp; done) | (simp; omega)) _))
  by_cases h6 : b < 0
  · have e : unS a b c d = (0, 0) := by unfold unS; rw [if_neg (by omega), if_neg (by rw [h3, h4]; decide), if_pos (.inr h6)]
    rw [e]; clear e
    go_enter Tryz.func94, Tryz.ntmps94
    go_wp2_with (first | (go_at_call 68; ((with_reducible refine (rmay_eq h3).mono ?_); rintro e w' ⟨rfl, hb⟩; obtain ⟨hc, hf⟩ := bcell hb; have hz0 := bsz hb (w.heap.size) (by first | assumption | (simp; done) | (simp; omega)); have hz1 := bsz hb (w.heap.size + 1) (by first | assumption | (simp; done) | (simp; omega)))) | (go_at_call 68; ((with_reducible refine (rmay_eq h4).mono ?_); rintro e w' ⟨rfl, hb⟩; obtain ⟨hc, hf⟩ := bcell hb; have hz0 := bsz hb (w.heap.size) (by first | assumption | (simp; done) | (simp; omega)); have hz1 := bsz hb (w.heap.size + 1) (by first | assumption | (simp; done) | (simp; omega)))))
    go_ret2
    refine ⟨rfl, ?_⟩
    (repeat (first | exact Below.refl _ _ | assumption | refine balloc ?_ _ | refine below_drewN ?_ _ | refine bstep (by assumption) ?_ | refine bstep (Past.prop _) ?_ | refine Below.setCell ?_ (by first | exact Nat.le_refl _ | (simp; done) | (simp; omega)) _))
  have e : unS a b c d = (mn (a / c) (b / d), 0) := by unfold unS; rw [if_neg (by omega), if_neg (by rw [h3, h4]; decide), if_neg (by omega)]
  rw [e]; clear e
  by_cases h7 : a / c ≤ b / d
  all_goals
    go_enter Tryz.func94, Tryz.ntmps94
    go_wp2_with (first | (go_at_call 68; ((with_reducible refine (rmay_eq h3).mono ?_); rintro e w' ⟨rfl, hb⟩; obtain ⟨hc, hf⟩ := bcell hb; have hz0 := bsz hb (w.heap.size) (by first | assumption | (simp; done) | (simp; omega)); have hz1 := bsz hb (w.heap.size + 1) (by first | assumption | (simp; done) | (simp; omega)))) | (go_at_call 68; ((with_reducible refine (rmay_eq h4).mono ?_); rintro e w' ⟨rfl, hb⟩; obtain ⟨hc, hf⟩ := bcell hb; have hz0 := bsz hb (w.heap.size) (by first | assumption | (simp; done) | (simp; omega)); have hz1 := bsz hb (w.heap.size + 1) (by first | assumption | (simp; done) | (simp; omega)))))
    go_quiet (fail)
    go_wp2
    go_ret2
    refine ⟨ret_tup ?_, ?_⟩
    · exact congrArg (fun z : Int => (#[.int .i64 z, .int .i64 0] : Array Value)) (by unfold mn; split <;> omega)
    · (repeat (first | exact Below.refl _ _ | assumption | refine balloc ?_ _ | refine below_drewN ?_ _ | refine bstep (by assumption) ?_ | refine bstep (Past.prop _) ?_ | refine Below.setCell ?_ (by first | exact Nat.le_refl _ | (simp; done) | (simp; omega)) _))
end Go.Proofs.YtjhhcljbmnomlaaGreat

namespace Go.Proofs.YtjhhcljbmnomlaaGreat
open Go.ChangeShapes Go.WideShapes Go.ChangeAt Go.RowKit
attribute [local irreducible] Go.Calls

theorem fitE_five {F : List Sg} {x d : Int} {v : Int × Int} (h : mayB F = true) : fitE F x d v ≠ 5 := by
  unfold fitE
  rw [h, if_neg (by decide)]
  split
  · decide
  · split <;> decide
set_option maxRecDepth 100000 in
set_option maxHeartbeats 16000000 in
theorem runits_c (F : List Sg) (x d m c : Int) (a : Option Addr) (cap : Nat) (w : World) (hl : F.length ≤ 100000) (hA : ArgS w a F) :
    Calls Tryz.prog 45 #[.slice a F.length cap, .int .i64 x, .int .i64 d, V m c] w fun e w' => e = .returned (.tuple #[.int .i64 (mostS F x d (m, c)).1, .int .i64 (mostS F x d (m, c)).2]) ∧ Below w.heap.size w w' := by
  have HFA := hidE (fun w hA => rbad_c F x d m c a cap w (by omega) hA)
  have HM := hidE (fun w hA => rmayf_c F a cap w (by omega) hA)
  obtain ⟨w0, hw0⟩ : ∃ w0, w0 = w.alloc (Obj.cells #[.int .i64 m, .int .i64 c] 65) := ⟨_, rfl⟩
  have hb0 : Below w.heap.size w w0 := by rw [hw0]; (repeat (first | exact Below.refl _ _ | assumption | refine balloc ?_ _ | refine below_drewN ?_ _ | refine bstep (by assumption) ?_ | refine bstep (Past.prop _) ?_ | refine Below.setCell ?_ (by first | exact Nat.le_refl _ | (simp; done) | (simp; omega)) _))
  have HB0 := hidE hb0
  have HBV := hidE (show Blk w0 w.heap.size #[.int .i64 m, .int .i64 c] 65 by rw [hw0]; exact Blk.made _ _ _)
  have HA := hidE (hA.past hb0)
  clear hA hb0
  cases hm : mayB F
  · have h5 : fitE F x d (m, c) = 5 := fitE_form hm
    have HE := hidE (show mostS F x d (m, c) = (0, 5) by unfold mostS; rw [if_pos h5])
    rw [hm] at HM
    rw [h5] at HFA
    rw [HE.out]
    clear hm h5
    go_enter Tryz.func45, Tryz.ntmps45
    go_upto_region 1 with fail
    rw [← hw0]
    clear hw0
    go_wp2_with fail
    ((with_reducible refine (HM.out _ HA.out).mono ?_); rintro e w1 ⟨rfl, hb1⟩)
    have HB0 := hidE (bstep hb1 HB0.out); have HBV := hidE (HBV.out.past hb1); have HA := hidE (HA.out.past hb1)
    have g0 := HBV.out.cell 0; have g1 := HBV.out.cell 1; have gz := HBV.out.lt
    simp at g0 g1
    clear hb1
    go_wp2_with fail
    ((with_reducible refine (HFA.out _ HA.out).mono ?_); rintro e w2 ⟨rfl, hb2⟩)
    have HB0 := hidE (bstep hb2 HB0.out); have HBV := hidE (HBV.out.past hb2); have HA := hidE (HA.out.past hb2)
    clear hb2 g0 g1 gz
    go_wp2
    go_ret2
    exact ⟨rfl, HB0.out⟩
  · rw [hm] at HM
    have n5 := fitE_five (x := x) (d := d) (v := (m, c)) hm
    by_cases h1 : m < 1
    · have HE := hidE (show mostS F x d (m, c) = (0, 2) by unfold mostS; rw [if_neg n5, if_pos (.inl h1)])
      have d1 : decide (m < 1) = true := decide_eq_true h1
      rw [HE.out]
      clear hm n5 h1
      go_enter Tryz.func45, Tryz.ntmps45
      go_upto_region 1 with fail
      rw [← hw0]
      clear hw0
      go_wp2_with fail
      ((with_reducible refine (HM.out _ HA.out).mono ?_); rintro e w1 ⟨rfl, hb1⟩)
      have HB0 := hidE (bstep hb1 HB0.out); have HBV := hidE (HBV.out.past hb1); have HA := hidE (HA.out.past hb1)
      have g0 := HBV.out.cell 0; have g1 := HBV.out.cell 1; have gz := HBV.out.lt
      simp at g0 g1
      clear hb1
      go_wp2
      go_ret2
      exact ⟨rfl, HB0.out⟩
    · have d1 : decide (m < 1) = false := decide_eq_false h1
      by_cases h2 : c < 1
      · have HE := hidE (show mostS F x d (m, c) = (0, 2) by unfold mostS; rw [if_neg n5, if_pos (.inr h2)])
        have d2 : decide (c < 1) = true := decide_eq_true h2
        rw [HE.out]
        clear hm n5 h1 h2
        go_enter Tryz.func45, Tryz.ntmps45
        go_upto_region 1 with fail
        rw [← hw0]
        clear hw0
        go_wp2_with fail
        ((with_reducible refine (HM.out _ HA.out).mono ?_); rintro e w1 ⟨rfl, hb1⟩)
        have HB0 := hidE (bstep hb1 HB0.out); have HBV := hidE (HBV.out.past hb1); have HA := hidE (HA.out.past hb1)
        have g0 := HBV.out.cell 0; have g1 := HBV.out.cell 1; have gz := HBV.out.lt
        simp at g0 g1
        clear hb1
        go_wp2
        go_ret2
        exact ⟨rfl, HB0.out⟩
      · have d2 : decide (c < 1) = false := decide_eq_false h2
        by_cases h0 : fitE F x d (m, c) = 0
        · obtain ⟨q1, q2, q3, q4⟩ := fitE_zero h0
          have HE := hidE (show mostS F x d (m, c) = (lsS F x d (m, c) (winT F x), 0) by
            unfold mostS
            rw [if_neg n5, if_neg (by simp only; omega), if_pos h0, ls_is hm q2.1 (by simp only; omega) (by simp only; omega) q4])
          have hxx := nowB_iff.1 q3
          have wq : IntKind.i64.wrap (x + d) = x + d := IntWalk.i64_in _ (by omega)
          obtain ⟨ix, hix, hz0, hz1, hz2⟩ := info_parts Tryz.infoI64
          have IX := hidE hix; have IZ0 := hidE hz0; have IZ1 := hidE hz1; have IZ2 := hidE hz2
          have HW := hidE (fun w hA => rwhen_c F a cap w (by omega) hA)
          rw [h0] at HFA
          rw [HE.out]
          clear hm n5 h0 h1 h2 q1 q2 q3 q4 hxx hix hz0 hz1 hz2
          go_enter Tryz.func45, Tryz.ntmps45
          go_upto_region 1 with fail
          rw [← hw0]
          clear hw0
          go_wp2_with fail
          ((with_reducible refine (HM.out _ HA.out).mono ?_); rintro e w1 ⟨rfl, hb1⟩)
          have HB0 := hidE (bstep hb1 HB0.out); have HBV := hidE (HBV.out.past hb1); have HA := hidE (HA.out.past hb1)
          have g0 := HBV.out.cell 0; have g1 := HBV.out.cell 1; have gz := HBV.out.lt
          simp at g0 g1
          clear hb1
          go_wp2_with fail
          ((with_reducible refine (HFA.out _ HA.out).mono ?_); rintro e w2 ⟨rfl, hb2⟩)
          have HB0 := hidE (bstep hb2 HB0.out); have HBV := hidE (HBV.out.past hb2); have HA := hidE (HA.out.past hb2)
          clear hb2 g0 g1 gz
          go_upto_region 6 with fail
          have HBa := hidE (show Below w2.heap.size w2 (w2.alloc (Obj.cells #[.int .i64 x] 2)) from (Below.refl _ _).alloc (Nat.le_refl _) _)
          have HO1 := hidE (show World.ownsRow (w2.alloc (Obj.cells #[.int .i64 x] 2)) w2.heap.size 2 1 (.slice (some ⟨w2.heap.size, 0, none⟩) 1 1) 1 (cellsI [x]) from World.ownsRow_lit (e := 2) (size := 1) (base := w2.heap.size) w2 #[.int .i64 x] 1 (Nat.le_refl _) (by unfold maxLen; omega) rfl)
          go_wp2_with fail
          ((with_reducible refine (HW.out _ (HA.out.past HBa.out)).mono ?_); rintro e wt ⟨v2, rfl, ho2, hb2⟩)
          have HB2 := hidE (bstep hb2 HBa.out)
          have HO1' := hidE (own_below HO1.out hb2)
          have ho2' : wt.ownsRow (w2.alloc (Obj.cells #[.int .i64 x] 2)).heap.size 2 1 v2 (F.map (·.1)).length (cellsI (F.map (·.1))) := by rw [List.length_map]; exact ho2
          have HS2 := hidE (src_own ho2')
          clear ho2 ho2' hb2 HO1 HBa
          go_wp2_with (at_builtin; refine wpList_append_src rfl (.tmp 37) (.tmp 39) 59 rfl w2.heap.size 2 ix Tryz.underlying59 IX.out IZ0.out IZ1.out IZ2.out _ _ _ rfl HO1'.out _ _ rfl HS2.out (by simp; omega) HB2.out.size ?_; intro v3 w9 ho3 hg3)
          have hb : Below w2.heap.size w2 w9 := Below.grown HB2.out hg3 HB2.out.size (fun k hk => own_block HO1'.out hk)
          have ho4 : w9.ownsRow w2.heap.size 2 1 v3 (winT F x).length (cellsI (winT F x)) := by rw [winT_cells, winT_len]; rw [List.length_map] at ho3; exact ho3
          obtain ⟨aT, cT, rfl, _, _, h3⟩ := sliI_own ho4
          have ST := hidE (show (winT F x).length = 1 + F.length ∧ ArgI w9 aT (winT F x) from ⟨winT_len _ _, h3⟩)
          (try rw [winT_len])
          clear ho3 ho4 hg3 h3 HW HO1' HS2 HB2
          have SF := hidE (HA.out.past hb)
          have HB0 := hidE (bstep hb HB0.out)
          have HBV := hidE (HBV.out.past hb)
          clear hb HA IX IZ0 IZ1 IZ2 HFA HM HE
          obtain ⟨N, hN⟩ : ∃ N, 1 + F.length = N := ⟨_, rfl⟩
          rw [hN] at ST
          rw [hN]
          have hN9 : N < 1000000 := by omega
          have HFL := hidE hl
          clear hN hl
          go_wp2
          go_loopg [12, 13] N (fun g v12 v13 wr => ∃ k : Nat, v12 = .int .i64 (lsS F x d (m, c) ((winT F x).take k)) ∧ v13 = .int .i64 k ∧ k ≤ N ∧ N - k ≤ g ∧ Below w.heap.size w wr ∧ Below w9.heap.size w9 wr)
          case atStart => exact ⟨0, rfl, rfl, Nat.zero_le _, Nat.le_refl _, HB0.out, Below.refl _ _⟩
          case round =>
            obtain ⟨k, rfl, rfl, hk, hg, hb, hb9⟩ := hrel
            have HGK := hidE hg
            have SF2 := hidE (SF.out.past hb9); have BV := HBV.out.past hb9
            clear hg
            by_cases hlt : k < N
            · have HLT := hidE (show k + 1 ≤ N from hlt)
              obtain ⟨hl, hA⟩ := ST.out
              obtain ⟨b, off, rfl, hbz, hc⟩ := (hA.past hb9) (by omega)
              have e0 := hc k (by omega)
              have HST := hidE (lsS_step (F := F) (x := x) (d := d) (u := (m, c)) (l := winT F x) (k := k) (by omega))
              generalize (winT F x).getD k 0 = t at *
              generalize lsS F x d (m, c) ((winT F x).take k) = acc at *
              have g0 := BV.cell 0; have g1 := BV.cell 1; have gz := BV.lt
              simp at g0 g1
              clear hc hA hl BV
              have HVA := hidE (fun w (h : ArgS w a F) => rat_c F a cap t w (by have := HFL.out; omega) h)
              by_cases h1 : t < x
              · have d3 : decide (t < x) = true := decide_eq_true h1
                have HTE := hidE (show lsT F x d (m, c) acc t = acc by unfold lsT; rw [if_pos (inW_not.2 (.inl h1))])
                clear h1 hk hlt
                go_wp2
                go_roundg (N - (k + 1))
                case measure => have := HGK.out; have := HLT.out; omega
                case rel => exact ⟨k + 1, by rw [HST.out, HTE.out], by go_num, HLT.out, Nat.le_refl _, hb, hb9⟩
              · have d3 : decide (t < x) = false := decide_eq_false h1
                by_cases h2 : x + d ≤ t
                · have d4 : decide (x + d ≤ t) = true := decide_eq_true h2
                  have HTE := hidE (show lsT F x d (m, c) acc t = acc by unfold lsT; rw [if_pos (inW_not.2 (.inr h2))])
                  clear h1 h2 hk hlt
                  go_wp2
                  go_roundg (N - (k + 1))
                  case measure => have := HGK.out; have := HLT.out; omega
                  case rel => exact ⟨k + 1, by rw [HST.out, HTE.out], by go_num, HLT.out, Nat.le_refl _, hb, hb9⟩
                · have d4 : decide (x + d ≤ t) = false := decide_eq_false h2
                  have HTE := hidE (show lsT F x d (m, c) acc t = if acc < 0 ∨ (unS (vat F t).1 (vat F t).2 m c).1 < acc then (unS (vat F t).1 (vat F t).2 m c).1 else acc by
                    unfold lsT
                    rw [if_neg (by rw [inW_iff.2 ⟨by omega, by omega⟩]; decide)])
                  generalize vat F t = va at *
                  have HUN := hidE (fun w => run_c va.1 va.2 m c w)
                  generalize unS va.1 va.2 m c = r at *
                  obtain ⟨r1, r2⟩ := r
                  clear h1 h2 hk hlt
                  go_wp2_with fail
                  refine wp_region_past_lit (by kernel_rfl) (by kernel_rfl) ?_
                  have hcp := Past.cell (W := wr)
                  repeat (go_big_quiet_step (first | (go_at_call 27; exact Past.call _ (HVA.out _ (SF2.out.past (Past.prop _)))) | (go_at_call 94; exact Past.call _ (HUN.out _))))
                  refine wpQuiet_nil ?_
                  rintro _ ⟨x', rfl⟩
                  have HBR := hidE (bstep x'.2 hb); have HB9 := hidE (bstep x'.2 hb9)
                  clear hcp e0 hbz g0 g1 gz
                  generalize x'.1 = wl at *
                  by_cases h3 : acc < 0
                  · have d5 : decide (acc < 0) = true := decide_eq_true h3
                    have HTF := hidE (show lsT F x d (m, c) acc t = r1 by rw [HTE.out, if_pos (.inl h3)])
                    clear h3
                    go_wp2
                    go_roundg (N - (k + 1))
                    case measure => have := HGK.out; have := HLT.out; omega
                    case rel => exact ⟨k + 1, by rw [HST.out, HTF.out], by go_num, HLT.out, Nat.le_refl _, HBR.out, HB9.out⟩
                  · have d5 : decide (acc < 0) = false := decide_eq_false h3
                    by_cases h4 : r1 < acc
                    · have d6 : decide (r1 < acc) = true := decide_eq_true h4
                      have HTF := hidE (show lsT F x d (m, c) acc t = r1 by rw [HTE.out, if_pos (.inr h4)])
                      clear h3 h4
                      go_wp2
                      go_roundg (N - (k + 1))
                      case measure => have := HGK.out; have := HLT.out; omega
                      case rel => exact ⟨k + 1, by rw [HST.out, HTF.out], by go_num, HLT.out, Nat.le_refl _, HBR.out, HB9.out⟩
                    · have d6 : decide (r1 < acc) = false := decide_eq_false h4
                      have HTF := hidE (show lsT F x d (m, c) acc t = acc by rw [HTE.out, if_neg (fun h => h.elim h3 h4)])
                      clear h3 h4
                      go_wp2
                      go_roundg (N - (k + 1))
                      case measure => have := HGK.out; have := HLT.out; omega
                      case rel => exact ⟨k + 1, by rw [HST.out, HTF.out], by go_num, HLT.out, Nat.le_refl _, HBR.out, HB9.out⟩
            · have HTA := hidE (show (winT F x).take k = winT F x by rw [List.take_of_length_le]; have := ST.out.1; omega)
              rw [HTA.out]
              go_wp2
              go_ret2
              exact ⟨rfl, hb⟩
        · have e0 : (fitE F x d (m, c) == 0) = false := beq_eq_false_iff_ne.2 h0
          have e1 : (fitE F x d (m, c) != 0) = true := bne_iff_ne.2 h0
          have HE := hidE (show mostS F x d (m, c) = (0, fitE F x d (m, c)) by
            unfold mostS
            rw [if_neg n5, if_neg (by simp only; omega), if_neg h0])
          rw [HE.out]
          clear hm n5 h0 h1 h2 HE
          generalize fitE F x d (m, c) = k at *
          go_enter Tryz.func45, Tryz.ntmps45
          go_upto_region 1 with fail
          rw [← hw0]
          clear hw0
          go_wp2_with fail
          ((with_reducible refine (HM.out _ HA.out).mono ?_); rintro e w1 ⟨rfl, hb1⟩)
          have HB0 := hidE (bstep hb1 HB0.out); have HBV := hidE (HBV.out.past hb1); have HA := hidE (HA.out.past hb1)
          have g0 := HBV.out.cell 0; have g1 := HBV.out.cell 1; have gz := HBV.out.lt
          simp at g0 g1
          clear hb1
          go_wp2_with fail
          ((with_reducible refine (HFA.out _ HA.out).mono ?_); rintro e w2 ⟨rfl, hb2⟩)
          have HB0 := hidE (bstep hb2 HB0.out); have HBV := hidE (HBV.out.past hb2); have HA := hidE (HA.out.past hb2)
          clear hb2 g0 g1 gz
          go_wp2
          go_ret2
          exact ⟨rfl, HB0.out⟩
theorem runits_eq {F : List Sg} {x d m c : Int} {a : Option Addr} {n cap : Nat} {w : World} {r : Int × Int} (h1 : SliS w (.slice a n cap) F) (hl : n ≤ 100000) (he : mostS F x d (m, c) = r) :
    Calls Tryz.prog 45 #[.slice a n cap, .int .i64 x, .int .i64 d, V m c] w fun e w' => e = .returned (.tuple #[.int .i64 r.1, .int .i64 r.2]) ∧ Below w.heap.size w w' := by
  obtain ⟨a', c', e, h2, h3, h4⟩ := h1
  cases e; subst he
  exact runits_c F x d m c a cap w (by omega) h4
end Go.Proofs.YtjhhcljbmnomlaaGreat

namespace Go.Proofs.YtjhhcljbmnomlaaGreat
open Go.ChangeShapes Go.WideShapes Go.ChangeAt Go.RowKit
attribute [local irreducible] Go.Calls

theorem h15_7 : takeS hF 0 2 (10, 10) = ([(2, (7, 9)), (8, (10, 10))], 0) := by decide +kernel
theorem fbox_c (x y m c : Int) (w : World) : Calls Tryz.prog 80 #[.int .i64 x, .int .i64 y, .int .i64 m, .int .i64 c] w fun e w' => ∃ (a : Option Addr) (n cap : Nat), e = .returned (.slice a n cap) ∧ SliS w' (.slice a n cap) (boxS x y (m, c)).1 ∧ Below w.heap.size w w' := by
  have HB := hidE (fun w => rbox_c x y m c w)
  generalize boxS x y (m, c) = b at *
  go_enter Tryz.func80, Tryz.ntmps80
  go_wp2_with fail
  ((with_reducible refine (HB.out _).mono ?_); rintro e w1 ⟨v1, rfl, hv1, hb1⟩)
  obtain ⟨a2, c2, rfl, g1, g2, g3⟩ := hv1
  have HV := hidE (show SliS w1 (.slice a2 b.1.length c2) b.1 from ⟨a2, c2, rfl, g1, g2, g3⟩); have HB1 := hidE hb1
  clear g1 g2 g3 hb1
  go_wp2
  go_ret
  exact ⟨_, _, _, rfl, HV.out, HB1.out⟩
theorem argPs_one {w : World} {p : Nat} {k a b n : Int} {t : TypeId} (h : Blk w p #[.int .u8 k, .int .i64 a, .int .i64 b, .int .i64 n] t) : ArgPs w (some ⟨p, 0, none⟩) [(k, (a, b), n)] := fun _ => ⟨p, 0, rfl, h.lt, fun i hi => by
  have c0 := h.cell 0; have c1 := h.cell 1; have c2 := h.cell 2; have c3 := h.cell 3
  simp at hi c0 c1 c2 c3
  subst hi
  exact ⟨c0, c1, c2, c3⟩⟩
theorem sliS_mk {w : World} {p n : Nat} {l : List Sg} {t : TypeId} (hn : n = l.length) (h2 : n ≤ 1000000) (h : Blk w p (cellsOfS l).toArray t) : SliS w (.slice (some ⟨p, 0, none⟩) n n) l := by
  subst hn
  exact ⟨some ⟨p, 0, none⟩, l.length, rfl, Nat.le_refl _, by omega, argS_blk h⟩
theorem hbox_is : (boxS 2 8 (3, 1)).1 = hL := by decide +kernel
set_option maxRecDepth 100000 in
set_option maxHeartbeats 8000000 in
theorem fhead_c (w : World) : Calls Tryz.prog 39 #[] w fun e w' => e = .returned (.bool true) ∧ Below w.heap.size w w' := by
  have HBX := hidE (fun w => fbox_c 2 8 3 1 w)
  rw [hbox_is] at HBX
  have H1 := hidE (fun f er (h : FreeIs [(0, (0, 0), 0)] hC hL hL 0 f er) => h.unique h15_1 (fun p => Iff.rfl))
  have H2 := hidE (fun f er (h : FreeIs [(1, (4, 4), 0)] hC hL hL 3 f er) => h.unique h15_2 (fun p => Iff.rfl))
  have H3 := hidE (fun f er (h : FreeIs [(3, (0, 0), 0)] hC hL hL 0 f er) => h.unique h15_3 (fun p => Iff.rfl))
  obtain ⟨w0, hw0⟩ : ∃ w0, w0 = w.alloc (Obj.cells #[.int .i64 0, .int .i64 10, .int .i64 10] 105) := ⟨_, rfl⟩
  have SC := hidE (show SliS w0 (.slice (some ⟨w.heap.size, 0, none⟩) 1 1) hC by rw [hw0]; exact sliS_mk rfl (by omega) (Blk.made _ _ _))
  have HB := hidE (show Below w.heap.size w w0 by rw [hw0]; (repeat (first | exact Below.refl _ _ | assumption | refine balloc ?_ _ | refine below_drewN ?_ _ | refine bstep (by assumption) ?_ | refine bstep (Past.prop _) ?_ | refine Below.setCell ?_ (by first | exact Nat.le_refl _ | (simp; done) | (simp; omega)) _)))
  obtain ⟨ac, hac⟩ : ∃ ac : Option Addr, ac = some ⟨w.heap.size, 0, none⟩ := ⟨_, rfl⟩
  rw [← hac] at SC
  go_enter Tryz.func39, Tryz.ntmps39
  go_upto_region 2 with fail
  rw [← hw0]
  rw [← hac]
  clear hw0 hac
  go_wp2_with fail
  ((with_reducible refine (HBX.out _).mono ?_); rintro e w1 ⟨al, nl, cl, rfl, hsl, hb1⟩)
  have SL := hidE hsl; have SC := hidE (SC.out.past hb1); have HB := hidE (bstep hb1 HB.out)
  have NL := hidE (show nl ≤ 10000 by have := hsl.len.1; simp at this; omega)
  clear hsl hb1
  go_wp2_with fail
  (with_reducible refine (free_s (P := [(0, (0, 0), 0)]) (C := hC) (L := hL) (O := hL) (x := 0) (n4 := 1) ?hc1 ?hl1 ?hl1 ?hp1 rfl ?hm1 ?hn1 ?hn1 (by omega)).mono ?_)
  case hm1 => omega
  case hc1 => exact SC.out.past ((Below.refl _ _).alloc (Nat.le_refl _) _)
  case hl1 => exact SL.out.past ((Below.refl _ _).alloc (Nat.le_refl _) _)
  case hp1 => exact argPs_one (Blk.made _ _ _)
  case hn1 => exact NL.out
  rintro e w2 ⟨aF, nF, cF, fF, eF, rfl, hs, hi, _, hb⟩
  obtain ⟨rfl, rfl⟩ := H1.out _ _ hi
  have HX := hidE (show Below w1.heap.size w1 w2 from ((Below.refl _ _).alloc (Nat.le_refl _) _).trans (hb.mono (by simp)))
  have HB := hidE (bstep HX.out HB.out)
  have SC := hidE (SC.out.past HX.out); have SL := hidE (SL.out.past HX.out)
  have SF := hidE hs
  have NF := hidE (show nF ≤ 10000 by have := hs.len.1; simp at this; omega)
  clear hs hi hb HX
  go_wp2_with fail
  (with_reducible refine (free_s (P := [(1, (4, 4), 0)]) (C := hC) (L := hL) (O := hL) (x := 3) (n4 := 1) ?hc2 ?hl2 ?hl2 ?hp2 rfl ?hm2 ?hn2 ?hn2 (by omega)).mono ?_)
  case hm2 => omega
  case hc2 => exact SC.out.past ((Below.refl _ _).alloc (Nat.le_refl _) _)
  case hl2 => exact SL.out.past ((Below.refl _ _).alloc (Nat.le_refl _) _)
  case hp2 => exact argPs_one (Blk.made _ _ _)
  case hn2 => exact NL.out
  rintro e w3 ⟨aG, nG, cG, fG, eG, rfl, hs, hi, _, hb⟩
  obtain ⟨rfl, rfl⟩ := H2.out _ _ hi
  have HX := hidE (show Below w2.heap.size w2 w3 from ((Below.refl _ _).alloc (Nat.le_refl _) _).trans (hb.mono (by simp)))
  have HB := hidE (bstep HX.out HB.out)
  have SC := hidE (SC.out.past HX.out); have SL := hidE (SL.out.past HX.out); have SF := hidE (SF.out.past HX.out)
  have SG := hidE hs
  have NG := hidE (show nG ≤ 10000 by have := hs.len.1; simp at this; omega)
  clear hs hi hb HX
  go_wp2_with fail
  (with_reducible refine (fits_eq (F := hF) ?hs3 ?hn3 h15_4).mono ?_)
  case hs3 => exact SF.out
  case hn3 => have := NF.out; omega
  rintro e w4 ⟨rfl, hb⟩
  have HX := hidE hb
  have HB := hidE (bstep hb HB.out)
  have SC := hidE (SC.out.past HX.out); have SL := hidE (SL.out.past HX.out); have SF := hidE (SF.out.past HX.out); have SG := hidE (SG.out.past HX.out)
  clear hb HX
  go_wp2_with fail
  (with_reducible refine (fits_eq (F := hF) ?hs4 ?hn4 h15_5).mono ?_)
  case hs4 => exact SF.out
  case hn4 => have := NF.out; omega
  rintro e w5 ⟨rfl, hb⟩
  have HX := hidE hb
  have HB := hidE (bstep hb HB.out)
  have SC := hidE (SC.out.past HX.out); have SL := hidE (SL.out.past HX.out); have SF := hidE (SF.out.past HX.out); have SG := hidE (SG.out.past HX.out)
  clear hb HX
  go_wp2_with fail
  (with_reducible refine (most_eq (F := hF) ?hs5 ?hn5 h15_6).mono ?_)
  case hs5 => exact SF.out
  case hn5 => have := NF.out; omega
  rintro e w6 ⟨rfl, hb⟩
  have HX := hidE hb
  have HB := hidE (bstep hb HB.out)
  have SC := hidE (SC.out.past HX.out); have SL := hidE (SL.out.past HX.out); have SF := hidE (SF.out.past HX.out); have SG := hidE (SG.out.past HX.out)
  clear hb HX
  go_wp2_with fail
  (with_reducible refine (take_s (F := hF) ?hs6 ?hn6 h15_7).mono ?_)
  case hs6 => exact SF.out
  case hn6 => have := NF.out; omega
  rintro e w7 ⟨v6, rfl, hv6, hb⟩
  have HX := hidE hb
  have HB := hidE (bstep hb HB.out)
  have SC := hidE (SC.out.past HX.out); have SL := hidE (SL.out.past HX.out); have SF := hidE (SF.out.past HX.out); have SG := hidE (SG.out.past HX.out)
  obtain ⟨aT, cT, rfl, g1, g2, g3⟩ := hv6
  have ST := hidE (show SliS w7 (.slice aT 2 cT) [(2, (7, 9)), (8, (10, 10))] from ⟨aT, cT, rfl, g1, g2, g3⟩)
  clear g1 g2 g3
  clear hb HX
  go_wp2_with fail
  (with_reducible refine (fits_eq (F := hF) ?hs7 ?hn7 h15_8).mono ?_)
  case hs7 => exact SF.out
  case hn7 => have := NF.out; omega
  rintro e w8 ⟨rfl, hb⟩
  have HX := hidE hb
  have HB := hidE (bstep hb HB.out)
  have SC := hidE (SC.out.past HX.out); have SL := hidE (SL.out.past HX.out); have SF := hidE (SF.out.past HX.out); have SG := hidE (SG.out.past HX.out); have ST := hidE (ST.out.past HX.out)
  clear hb HX
  go_wp2_with fail
  (with_reducible refine (free_s (P := [(3, (0, 0), 0)]) (C := hC) (L := hL) (O := hL) (x := 0) (n4 := 1) ?hc8 ?hl8 ?hl8 ?hp8 rfl ?hm8 ?hn8 ?hn8 (by omega)).mono ?_)
  case hm8 => omega
  case hc8 => exact SC.out.past ((Below.refl _ _).alloc (Nat.le_refl _) _)
  case hl8 => exact SL.out.past ((Below.refl _ _).alloc (Nat.le_refl _) _)
  case hp8 => exact argPs_one (Blk.made _ _ _)
  case hn8 => exact NL.out
  rintro e w9 ⟨aK, nK, cK, fK, eK, rfl, hs, hi, _, hb⟩
  obtain ⟨rfl, rfl⟩ := H3.out _ _ hi
  have HX := hidE (show Below w8.heap.size w8 w9 from ((Below.refl _ _).alloc (Nat.le_refl _) _).trans (hb.mono (by simp)))
  have HB := hidE (bstep HX.out HB.out)
  have SC := hidE (SC.out.past HX.out); have SL := hidE (SL.out.past HX.out); have SF := hidE (SF.out.past HX.out); have SG := hidE (SG.out.past HX.out); have ST := hidE (ST.out.past HX.out)
  have SK := hidE hs
  have NK := hidE (show nK ≤ 10000 by have := hs.len.1; simp at this; omega)
  clear hs hi hb HX
  go_upto_region 13 with fail
  obtain ⟨w10, hw10⟩ : ∃ w10, w10 = (w9.alloc (Obj.cells #[.int .i64 10, .int .i64 10] 65)).alloc (Obj.cells #[.int .i64 7, .int .i64 9] 65) := ⟨_, rfl⟩
  have HX := hidE (show Below w9.heap.size w9 w10 by rw [hw10]; exact ((Below.refl _ _).alloc (Nat.le_refl _) _).alloc (by simp) _)
  have B1 := hidE (show Blk w10 w9.heap.size #[.int .i64 10, .int .i64 10] 65 by rw [hw10]; exact (Blk.made _ _ _).alloc _)
  have B2 := hidE (show Blk w10 (w9.heap.size + 1) #[.int .i64 7, .int .i64 9] 65 by rw [hw10]; exact Blk.made_at _ _ _ _ (by simp))
  have HB := hidE (bstep HX.out HB.out); have SF := hidE (SF.out.past HX.out); have SG := hidE (SG.out.past HX.out); have ST := hidE (ST.out.past HX.out)
  have e0 := B1.out.cell 0; have e1 := B1.out.cell 1; have e2 := B2.out.cell 0; have e3 := B2.out.cell 1; have z1 := B1.out.lt; have z2 := B2.out.lt
  simp at e0 e1 e2 e3
  rw [← hw10]
  clear hw10 HX SC SL SK
  generalize w9.heap.size = p at *
  go_wp2_with fail
  (with_reducible refine (rsame_f (F := hF) (G := hF) (b := true) ?hs1 ?ht1 rfl).mono ?_)
  case hs1 => exact SF.out.past ((Below.refl _ _).alloc (Nat.le_refl _) _)
  case ht1 => exact sliS_mk rfl (by omega) (Blk.made _ _ _)
  rintro e w11 ⟨rfl, hb⟩
  have HX := hidE (show Below w10.heap.size w10 w11 from ((Below.refl _ _).alloc (Nat.le_refl _) _).trans (hb.mono (by simp)))
  have HB := hidE (bstep HX.out HB.out); have SG := hidE (SG.out.past HX.out); have ST := hidE (ST.out.past HX.out); have B1 := hidE (B1.out.past HX.out); have B2 := hidE (B2.out.past HX.out)
  clear e0 e1 e2 e3 z1 z2 hb HX SF
  have e0 := B1.out.cell 0; have e1 := B1.out.cell 1; have e2 := B2.out.cell 0; have e3 := B2.out.cell 1; have z1 := B1.out.lt; have z2 := B2.out.lt
  simp at e0 e1 e2 e3
  go_wp2_with fail
  (with_reducible refine (rsame_f (F := hG) (G := hG) (b := true) ?hs2 ?ht2 rfl).mono ?_)
  case hs2 => exact SG.out.past ((Below.refl _ _).alloc (Nat.le_refl _) _)
  case ht2 => exact sliS_mk rfl (by omega) (Blk.made _ _ _)
  rintro e w12 ⟨rfl, hb⟩
  have HX := hidE (show Below w11.heap.size w11 w12 from ((Below.refl _ _).alloc (Nat.le_refl _) _).trans (hb.mono (by simp)))
  have HB := hidE (bstep HX.out HB.out); have ST := hidE (ST.out.past HX.out); have B1 := hidE (B1.out.past HX.out); have B2 := hidE (B2.out.past HX.out)
  clear e0 e1 e2 e3 z1 z2 hb HX SG
  have e0 := B1.out.cell 0; have e1 := B1.out.cell 1; have e2 := B2.out.cell 0; have e3 := B2.out.cell 1; have z1 := B1.out.lt; have z2 := B2.out.lt
  simp at e0 e1 e2 e3
  go_wp2_with fail
  (with_reducible refine (rsame_f (F := [(2, (7, 9)), (8, (10, 10))]) (G := [(2, (7, 9)), (8, (10, 10))]) (b := true) ?hs3 ?ht3 rfl).mono ?_)
  case hs3 => exact ST.out.past ((Below.refl _ _).alloc (Nat.le_refl _) _)
  case ht3 => exact sliS_mk rfl (by omega) (Blk.made _ _ _)
  rintro e w13 ⟨rfl, hb⟩
  have HB := hidE (show Below w.heap.size w w13 from bstep (show Below w12.heap.size w12 w13 from ((Below.refl _ _).alloc (Nat.le_refl _) _).trans (hb.mono (by simp))) HB.out)
  clear e0 e1 e2 e3 z1 z2 hb ST B1 B2
  go_wp2
  go_ret
  exact ⟨rfl, HB.out⟩
end Go.Proofs.YtjhhcljbmnomlaaGreat

namespace Go.Proofs.YtjhhcljbmnomlaaGreat
open Go.ChangeShapes Go.WideShapes Go.ChangeAt Go.RowKit
attribute [local irreducible] Go.Calls

theorem sameB_selfT (F : List Sg) : sameB F F = true := by unfold sameB; exact decide_eq_true rfl
theorem range_lenT {F A : List Sg} {x y er : Int} {v : Int × Int} (h : rangeS F x y v = (A, er)) : A.length ≤ F.length + 2 := by
  unfold rangeS at h
  split at h
  · cases h; simp
  · split at h
    · cases h; simp
    · have hb := boxS_len x y v
      unfold doS at h
      split at h
      · cases h; simp
      · split at h
        · have := opL_len 0 F (boxS x y v).1
          cases h; omega
        · cases h; simp
theorem take_lenT {F A : List Sg} {x d er : Int} {v : Int × Int} (h : takeS F x d v = (A, er)) : A.length ≤ F.length + 2 := by
  unfold takeS at h
  split at h
  · exact range_lenT h
  · cases h; simp
set_option maxRecDepth 100000 in
set_option maxHeartbeats 4000000 in
theorem ftells_c (F : List Sg) (a : Option Addr) (n cap : Nat) (x d m c : Int) (w : World) (hS : SliS w (.slice a n cap) F) :
    Calls Tryz.prog 8 #[.slice a n cap, .agg #[.int .i64 x, .int .i64 d, .int .i64 m, .int .i64 c]] w fun e w' => e = .returned (.bool true) ∧ Below w.heap.size w w' := by
  have HH := hidE (fun w => fhead_c w)
  by_cases h6 : 60 < n
  · have dn : decide ((60 : Int) < (n : Int)) = true := decide_eq_true (by omega)
    have dn' : decide (60 < n) = true := decide_eq_true h6
    clear h6 hS
    go_enter Tryz.func8, Tryz.ntmps8
    go_wp2_with fail
    ((with_reducible refine (HH.out _).mono ?_); rintro e w1 ⟨rfl, hb⟩)
    go_wp2
    go_ret
    exact ⟨rfl, by (repeat (first | exact Below.refl _ _ | assumption | refine balloc ?_ _ | refine below_drewN ?_ _ | refine bstep (by assumption) ?_ | refine bstep (Past.prop _) ?_ | refine Below.setCell ?_ (by first | exact Nat.le_refl _ | (simp; done) | (simp; omega)) _))⟩
  · have dn : decide ((60 : Int) < (n : Int)) = false := decide_eq_false (by omega)
    have dn' : decide (60 < n) = false := decide_eq_false h6
    have NL := hidE (show n ≤ 60 by omega)
    have NF := hidE (show F.length ≤ 60 by have := hS.len.1; omega)
    obtain ⟨w0, hw0⟩ : ∃ w0, w0 = w.alloc (Obj.cells #[.int .i64 x, .int .i64 d, .int .i64 m, .int .i64 c] 91) := ⟨_, rfl⟩
    have hb0 : Below w.heap.size w w0 := by rw [hw0]; (repeat (first | exact Below.refl _ _ | assumption | refine balloc ?_ _ | refine below_drewN ?_ _ | refine bstep (by assumption) ?_ | refine bstep (Past.prop _) ?_ | refine Below.setCell ?_ (by first | exact Nat.le_refl _ | (simp; done) | (simp; omega)) _))
    have HB0 := hidE hb0
    have HBV := hidE (show Blk w0 w.heap.size #[.int .i64 x, .int .i64 d, .int .i64 m, .int .i64 c] 91 by rw [hw0]; exact Blk.made _ _ _)
    have SF := hidE (hS.past hb0)
    obtain ⟨⟨f1, f2⟩, hf⟩ : ∃ r, fitsS F x d (m, c) = r := ⟨_, rfl⟩
    obtain ⟨⟨T, er⟩, ht⟩ : ∃ r, takeS F x d (m, c) = r := ⟨_, rfl⟩
    obtain ⟨⟨p1, p2⟩, hm⟩ : ∃ r, mostS F x d (m, c) = r := ⟨_, rfl⟩
    have HF := hidE hf; have HT := hidE ht; have HM := hidE hm
    have NT := hidE (show T.length ≤ 100000 by have := take_lenT ht; have := NF.out; omega)
    have k1 : (f1 == f1) = true := by simp
    have k2 : (f2 == f2) = true := by simp
    have k3 : (er == er) = true := by simp
    have k4 : (p1 == p1) = true := by simp
    have k5 : (p2 == p2) = true := by simp
    clear h6 hS hb0 hf ht hm
    go_enter Tryz.func8, Tryz.ntmps8
    go_upto_region 1 with fail
    rw [← hw0]
    clear hw0
    have d0 := HBV.out.cell 0; have d1 := HBV.out.cell 1; have d2 := HBV.out.cell 2; have d3 := HBV.out.cell 3; have dz := HBV.out.lt
    simp at d0 d1 d2 d3
    go_wp2_with fail
    (with_reducible refine (fits_eq (F := F) ?s1 ?n1 HF.out).mono ?_)
    case s1 => exact SF.out
    case n1 => have := NL.out; omega
    rintro e w1 ⟨rfl, hb⟩
    have HB0 := hidE (bstep hb HB0.out); have HBV := hidE (HBV.out.past hb); have SF := hidE (SF.out.past hb)
    clear hb d0 d1 d2 d3 dz
    have d0 := HBV.out.cell 0; have d1 := HBV.out.cell 1; have d2 := HBV.out.cell 2; have d3 := HBV.out.cell 3; have dz := HBV.out.lt
    simp at d0 d1 d2 d3
    go_wp2_with fail
    (with_reducible refine (rfits_eq (F := F) ?s2 ?n2 HF.out).mono ?_)
    case s2 => exact SF.out
    case n2 => have := NL.out; omega
    rintro e w2 ⟨rfl, hb⟩
    have HB0 := hidE (bstep hb HB0.out); have HBV := hidE (HBV.out.past hb); have SF := hidE (SF.out.past hb)
    clear hb d0 d1 d2 d3 dz
    have d0 := HBV.out.cell 0; have d1 := HBV.out.cell 1; have d2 := HBV.out.cell 2; have d3 := HBV.out.cell 3; have dz := HBV.out.lt
    simp at d0 d1 d2 d3
    go_wp2_with fail
    (with_reducible refine (take_s (F := F) ?s3 ?n3 HT.out).mono ?_)
    case s3 => exact SF.out
    case n3 => have := NL.out; omega
    rintro e w3 ⟨v3, rfl, hv3, hb⟩
    obtain ⟨aT, cT, rfl, g1, g2, g3⟩ := hv3
    have ST := hidE (show SliS w3 (.slice aT T.length cT) T from ⟨aT, cT, rfl, g1, g2, g3⟩)
    clear g1 g2 g3
    have HB0 := hidE (bstep hb HB0.out); have HBV := hidE (HBV.out.past hb); have SF := hidE (SF.out.past hb)
    clear hb d0 d1 d2 d3 dz
    have d0 := HBV.out.cell 0; have d1 := HBV.out.cell 1; have d2 := HBV.out.cell 2; have d3 := HBV.out.cell 3; have dz := HBV.out.lt
    simp at d0 d1 d2 d3
    go_wp2_with fail
    (with_reducible refine (rtake_s (F := F) ?s4 ?n4 HT.out).mono ?_)
    case s4 => exact SF.out
    case n4 => have := NL.out; omega
    rintro e w4 ⟨v4, rfl, hv4, hb⟩
    obtain ⟨aU, cU, rfl, g1, g2, g3⟩ := hv4
    have SU := hidE (show SliS w4 (.slice aU T.length cU) T from ⟨aU, cU, rfl, g1, g2, g3⟩)
    clear g1 g2 g3
    have HB0 := hidE (bstep hb HB0.out); have HBV := hidE (HBV.out.past hb); have SF := hidE (SF.out.past hb); have ST := hidE (ST.out.past hb)
    clear hb d0 d1 d2 d3 dz
    have d0 := HBV.out.cell 0; have d1 := HBV.out.cell 1; have d2 := HBV.out.cell 2; have d3 := HBV.out.cell 3; have dz := HBV.out.lt
    simp at d0 d1 d2 d3
    go_wp2_with fail
    (with_reducible refine (most_eq (F := F) ?s5 ?n5 HM.out).mono ?_)
    case s5 => exact SF.out
    case n5 => have := NL.out; omega
    rintro e w5 ⟨rfl, hb⟩
    have HB0 := hidE (bstep hb HB0.out); have HBV := hidE (HBV.out.past hb); have SF := hidE (SF.out.past hb); have ST := hidE (ST.out.past hb); have SU := hidE (SU.out.past hb)
    clear hb d0 d1 d2 d3 dz
    have d0 := HBV.out.cell 0; have d1 := HBV.out.cell 1; have d2 := HBV.out.cell 2; have d3 := HBV.out.cell 3; have dz := HBV.out.lt
    simp at d0 d1 d2 d3
    go_wp2_with fail
    (with_reducible refine (runits_eq (F := F) ?s6 ?n6 HM.out).mono ?_)
    case s6 => exact SF.out
    case n6 => have := NL.out; omega
    rintro e w6 ⟨rfl, hb⟩
    have HB0 := hidE (bstep hb HB0.out); have HBV := hidE (HBV.out.past hb); have SF := hidE (SF.out.past hb); have ST := hidE (ST.out.past hb); have SU := hidE (SU.out.past hb)
    clear hb d0 d1 d2 d3 dz
    go_wp2_with fail
    (with_reducible refine (rsame_f (F := T) (G := T) (b := true) ?t1 ?t2 (sameB_selfT T)).mono ?_)
    case t1 => exact ST.out
    case t2 => exact SU.out
    rintro e w7 ⟨rfl, hb⟩
    have HB0 := hidE (bstep hb HB0.out)
    clear hb
    go_wp2_with fail
    ((with_reducible refine (HH.out _).mono ?_); rintro e w8 ⟨rfl, hb⟩)
    go_wp2
    go_ret
    exact ⟨rfl, bstep hb HB0.out⟩
end Go.Proofs.YtjhhcljbmnomlaaGreat
