/- The contract of rle.May. No conditions but the list's size. Package slot: the room in a window, a list without the times ahead, how long legs are together, whether begins can be asked for. No conditions but the lists' sizes, and that the slices' cells read as integers. Package slot: whether begins can be asked for. No conditions but the lists' sizes, and that the slices' cells read as integers. append(nil, make([]T, n)...): a new row of zeros. No function of the program. No conditions. A region that draws its order, by an invariant of what has run: an operation may use up what another one made (an append its row). No conditions. Appends to a row of the call's own, of a slice whose cells are known, elements of any size. No function of the program. No conditions. A region that draws its order and puts two rows behind a part, append(append([]T{x}, a...), b...), by an invariant of what has run. No function of the program. No conditions. A region that draws its order and holds a chain of appends, append(append(r, a...), b...), whose sources may be made in the region too: an invariant of what has run. No function of the program. No conditions. slices.Grow of no windows, slices.Concat of two rows of them. No conditions but the sizes. A range over a function: an iterator that keeps state of its own in cells, and the law for its caller. The caller's own variables lie below where the loop begins; the iterator's own, and the loop's book-keeping, at or beyond. Program-free. No conditions. A range over a function whose body keeps a block of its own, made in an earlier round (a slice that it appends to), and may leave the loop: an iterator's contract with that block named, and with what the iterator reads of the caller's, and the law for its caller. Program-free. No conditions. -/
import Derived.Test.YtgflbidagdcfmaaSCGA
import Derived.Test.YtgflbidagdcfmaaSCMA
import Derived.Test.YtgflbidagdcfmaaSCMB
import Derived.LoopTactic
import Derived.Deep.LoopGhost
import Derived.WalkKit
import Derived.Below
import Derived.Laws.AppendOwn
import Derived.Test.YtgflbidagdcfmaaRows
import Derived.WalkMore
import Derived.ScopeJumps
import Derived.Deep.DeepCutAuto
import Derived.Outline
import Derived.BigRegion
import Derived.Laws.OwnMore
import Derived.Laws.IdiomStrings
import Derived.Maps.AppendAt
import Derived.LoopN
import Derived.RangeFuncRecord
import Derived.RangeFuncSeq
namespace Go.Proofs.Ytgflbidagdcfmaa
open Go.ChangeShapes Go.WideShapes Go.ChangeAt Go.RowKit
attribute [local irreducible] Go.Calls

theorem below_blk {w w' : World} {B p : Nat} (h : Below B w w') (hp : p < B) {cs : Array Value} {t : TypeId} (hB : Blk w p cs t) : Blk w' p cs t := hB.below h hp

set_option maxRecDepth 100000 in
set_option maxHeartbeats 4000000 in
theorem pmay_c (l : List Sg) (a : Option Addr) (cap : Nat) (w : World) (hl : l.length ≤ 1099511627776) (hA : ArgS w a l) :
    Calls Try.prog 36 #[.slice a l.length cap] w fun e w' => e = .returned (.bool (mayB l)) ∧ Below w.heap.size w w' := by
  have HA := hidE hA; clear hA
  go_enter Try.func36, Try.ntmps36
  go_wp2_with fail
  ((with_reducible refine (changing_c _).mono ?_); rintro e w1 ⟨rfl, rfl⟩)
  have hb0 : Below w.heap.size w (w.alloc (.cells #[.int .i64 0, .int .i64 0] 36)) := by (repeat (first | exact Below.refl _ _ | assumption | refine balloc ?_ _ | refine below_drewN ?_ _ | refine bstep (by assumption) ?_ | refine bstep (Past.prop _) ?_ | refine Below.setCell ?_ (by first | exact Nat.le_refl _ | (simp; done) | (simp; omega)) _))
  have B0 : Blk (w.alloc (.cells #[.int .i64 0, .int .i64 0] 36)) w.heap.size #[.int .i64 0, .int .i64 0] 36 := Blk.made _ _ _
  have HB0 := hidE hb0; have HBL := hidE B0
  clear hb0 B0
  obtain ⟨p, hp⟩ : ∃ p, p = w.heap.size := ⟨_, rfl⟩
  have HP := hidE hp
  rw [← hp] at HBL ⊢
  generalize w.alloc (.cells #[.int .i64 0, .int .i64 0] 36) = w1 at *
  have hpw : w.heap.size ≤ p := by omega
  clear hp
  go_wp2_with fail
  go_loopg [9, 4, 5] l.length (fun g vi _ _ wr => ∃ k : Nat, k ≤ l.length ∧ l.length - k ≤ g ∧ vi = .int .i64 k ∧ (∀ i, i < k → okAt (0, 0) l i = true) ∧ Below w.heap.size w wr ∧ Blk wr p #[.int .i64 (prevV l k).1, .int .i64 (prevV l k).2] 36)
  case atStart => exact ⟨0, Nat.zero_le _, by omega, rfl, fun i hi => by omega, HB0.out, HBL.out⟩
  case round =>
    clear HB0 HBL
    obtain ⟨k, hk, hg, rfl, hs, hb, hB⟩ := hrel
    have HS := hidE hs; have HB := hidE hb; have HBP := hidE hB; clear hs hb hB
    by_cases hlt : k < l.length
    · obtain ⟨b, off, rfl, hbb, hc⟩ := (HA.out.past HB.out) (by omega)
      have hbw : b < w.heap.size := by
        obtain ⟨b', off', e, hb', _⟩ := HA.out (by omega)
        simp at e; omega
      obtain ⟨c0, c1, c2⟩ := hc.get hlt
      have hpz := HBP.out.lt
      have HV := hidE (fun w => valid_c (l.getD k (0, 0, 0)) w)
      change Hid (∀ w, Calls _ _ #[S (ats l k) (vls l k).1 (vls l k).2] _ _) at HV
      have HPS := hidE (prevV_succ l k)
      obtain ⟨wo, rfl⟩ : ∃ wo : World, wo = wr := ⟨_, rfl⟩
      cases hok : okS (l.getD k (0, 0, 0))
      · have HX := hidE (mayB_bad hlt (show okAt (0, 0) l k = false by unfold okAt; rw [hok]; rfl))
        rw [hok] at HV
        clear hc
        generalize ats l k = u at *
        generalize vls l k = v at *
        go_wp2_with fail
        refine wp_region_past_lit (by kernel_rfl) (by kernel_rfl) ?_
        have hcp := Past.cell (W := wo.alloc (.cells #[.int .i64 u, .int .i64 v.1, .int .i64 v.2] 56))
        repeat (go_big_quiet_step ((go_at_call 58; exact Past.call _ (HV.out _))))
        refine wpQuiet_nil ?_
        rintro _ ⟨x', rfl⟩
        have o1 : Below w.heap.size w x'.1 := by have := HB.out; (repeat (first | exact Below.refl _ _ | assumption | refine balloc ?_ _ | refine below_drewN ?_ _ | refine bstep (by assumption) ?_ | refine bstep (Past.prop _) ?_ | refine Below.setCell ?_ (by first | exact Nat.le_refl _ | (simp; done) | (simp; omega)) _))
        clear hcp
        generalize x'.1 = w5 at *
        go_wp2
        go_ret
        exact ⟨ret_bool (by rw [HX.out]), o1⟩
      · rw [hok] at HV
        have HOK := hidE hok
        have HPV := hidE (show okAt (0, 0) l k = (!(vls l k == prevV l k) && (decide (k = 0) || decide (ats l (k - 1) < ats l k))) by unfold okAt; rw [HOK.out, Bool.true_and]; rfl)
        have HQ : Blk (wo.alloc (.cells #[.int .i64 (ats l k), .int .i64 (vls l k).1, .int .i64 (vls l k).2] 56)) wo.heap.size #[.int .i64 (ats l k), .int .i64 (vls l k).1, .int .i64 (vls l k).2] 56 := Blk.made _ _ _
        have hqp : wo.heap.size ≠ p := by omega
        have HPA : Blk (wo.alloc (.cells #[.int .i64 (ats l k), .int .i64 (vls l k).1, .int .i64 (vls l k).2] 56)) p #[.int .i64 (prevV l k).1, .int .i64 (prevV l k).2] 36 := HBP.out.alloc _
        have HBA : Below w.heap.size w (wo.alloc (.cells #[.int .i64 (ats l k), .int .i64 (vls l k).1, .int .i64 (vls l k).2] 56)) := by have := HB.out; (repeat (first | exact Below.refl _ _ | assumption | refine balloc ?_ _ | refine below_drewN ?_ _ | refine bstep (by assumption) ?_ | refine bstep (Past.prop _) ?_ | refine Below.setCell ?_ (by first | exact Nat.le_refl _ | (simp; done) | (simp; omega)) _))
        have hqz := HQ.lt; have hpz2 := HPA.lt
        have HHQ := hidE HQ; have HHP := hidE HPA; have HHB := hidE HBA
        have hbA : b < (wo.alloc (.cells #[.int .i64 (ats l k), .int .i64 (vls l k).1, .int .i64 (vls l k).2] 56)).heap.size := by simp; omega
        have HCS := hidE (show CellsS (wo.alloc (.cells #[.int .i64 (ats l k), .int .i64 (vls l k).1, .int .i64 (vls l k).2] 56)) b off l from hc.below ((Below.refl _ _).alloc (Nat.le_refl _) _) hbb)
        have hbp : b ≠ p := by omega
        clear hc HQ HPA HBA HBP HB
        go_wp2_with fail
        clear c0 c1 c2
        generalize wo.heap.size = q at *
        generalize hWA : wo.alloc (.cells #[.int .i64 (ats l k), .int .i64 (vls l k).1, .int .i64 (vls l k).2] 56) = WA at *
        have q0 := HHQ.out.cell 0; have q1 := HHQ.out.cell 1; have q2 := HHQ.out.cell 2
        simp at q0 q1 q2
        clear hWA
        refine wp_region_bar 7 _ (by kernel_rfl) rfl (by kernel_rfl) (fun v w'' => v = .bool (!((vls l k) == (prevV l k))) ∧ Blk w'' p #[.int .i64 (vls l k).1, .int .i64 (vls l k).2] 36 ∧ WA.grownBy w'' (some p)) ?_
        simp only [List.take_succ_cons, List.take_zero, List.drop_succ_cons, List.drop_zero]
        have hcp := Past.cell (W := WA)
        repeat (go_big_quiet_step ((go_at_call 58; exact Past.call _ (HV.out _))))
        refine wpQuiet_nil ?_
        intro x
        refine ⟨rfl, ?_, ?_⟩
        · simp [go_sem, gives]
          exact (chg_c p (prevV l k).1 (prevV l k).2 (vls l k).1 (vls l k).2 _ (HHP.out.past x.2)).mono fun e w'' ⟨he, h1, h2⟩ => ⟨_, he, rfl, h1, grown_trans (grown_any x.2) h2⟩
        · rintro v w'' ⟨rfl, hBn, hg⟩
          have hbn : Below w.heap.size w w'' := HHB.out.grown hg (by have := HHB.out.size; omega) (fun k hk => by simp at hk; omega)
          have HG := hidE hbn; have HBN := hidE hBn
          have hq'' : Blk w'' q #[.int .i64 (ats l k), .int .i64 (vls l k).1, .int .i64 (vls l k).2] 56 := HHQ.out.grown hg (by intro e; simp at e; omega)
          have n0 := hq''.cell 0
          simp at n0
          have hqz'' := hq''.lt
          have hraw : CellsS w'' b off l := fun i hi => by
            obtain ⟨h1, h2, h3⟩ := HCS.out i hi
            have hblk := hg.block b hbA (by intro e; simp at e; omega)
            exact ⟨(World.cell?_of_block (w := WA) (a := ⟨b, _, none⟩) hblk).trans h1, (World.cell?_of_block (w := WA) (a := ⟨b, _, none⟩) hblk).trans h2, (World.cell?_of_block (w := WA) (a := ⟨b, _, none⟩) hblk).trans h3⟩
          have hbz'' : b < w''.heap.size := Nat.lt_of_lt_of_le hbA hg.size
          have HRAW := hidE hraw
          clear hbn hBn hq'' hg q0 q1 q2 hraw
          simp only [Act.put, List.setIfInBounds_toArray, List.set_cons_succ, List.set_cons_zero]
          cases hr : (!(vls l k == prevV l k))
          · have HX := hidE (mayB_bad hlt (show okAt (0, 0) l k = false by rw [HPV.out, hr]; rfl))
            clear hcp
            have hcq := Past.cell (W := w'')
            repeat (go_big_quiet_step (fail))
            refine wpQuiet_nil ?_
            rintro _ ⟨y, rfl⟩
            have o1 : Below w.heap.size w y.1 := bstep y.2 HG.out
            clear hcq
            generalize y.1 = w5 at *
            go_wp2
            go_ret
            exact ⟨ret_bool (by rw [HX.out]), o1⟩
          · have HR := hidE (show okAt (0, 0) l k = (decide (k = 0) || decide (ats l (k - 1) < ats l k)) by rw [HPV.out, hr, Bool.true_and])
            clear hr
            by_cases hk0 : k = 0
            · have HX := hidE (show ∀ i, i < k + 1 → okAt (0, 0) l i = true from fun i hi => by
                by_cases e : i = k
                · rw [e, HR.out, decide_eq_true hk0]; rfl
                · exact HS.out i (by omega))
              have hd : decide ((0 : Int) < (k : Int)) = false := decide_eq_false (by omega)
              clear hcp
              have hcq := Past.cell (W := w'')
              repeat (go_big_quiet_step (fail))
              refine wpQuiet_nil ?_
              rintro _ ⟨y, rfl⟩
              have o1 : Below w.heap.size w y.1 := bstep y.2 HG.out
              have o2 := HBN.out.past y.2
              clear hcq
              generalize y.1 = w5 at *
              go_wp2
              go_roundg (l.length - (k + 1))
              case measure => omega
              case rel => exact ⟨k + 1, by omega, Nat.le_refl _, by go_num, HX.out, o1, by rw [HPS.out]; exact o2⟩
            · obtain ⟨j, rfl⟩ : ∃ j, k = j + 1 := ⟨k - 1, by omega⟩
              have hd : decide ((0 : Int) < (j : Int) + 1) = true := decide_eq_true (by omega)
              obtain ⟨m0, m1, m2⟩ := HRAW.out.get (i := j) (by omega)
              clear m1 m2
              by_cases hle : ats l (j + 1) ≤ ats l j
              · have HX := hidE (mayB_bad hlt (show okAt (0, 0) l (j + 1) = false by
                  rw [HR.out, Nat.add_sub_cancel, decide_eq_false hk0, decide_eq_false (by omega)]; rfl))
                have hd2 : decide (ats l (j + 1) ≤ ats l j) = true := decide_eq_true hle
                clear hcp
                have hcq := Past.cell (W := w'')
                repeat (go_big_quiet_step (fail))
                refine wpQuiet_nil ?_
                rintro _ ⟨y, rfl⟩
                have o1 : Below w.heap.size w y.1 := bstep y.2 HG.out
                clear hcq
                generalize y.1 = w5 at *
                go_wp2
                go_ret
                exact ⟨ret_bool (by rw [HX.out]), o1⟩
              · have HX := hidE (show ∀ i, i < j + 1 + 1 → okAt (0, 0) l i = true from fun i hi => by
                  by_cases e : i = j + 1
                  · rw [e, HR.out, Nat.add_sub_cancel, decide_eq_true (show ats l j < ats l (j + 1) by omega), Bool.or_true]
                  · exact HS.out i (by omega))
                have hd2 : decide (ats l (j + 1) ≤ ats l j) = false := decide_eq_false hle
                clear hcp
                have hcq := Past.cell (W := w'')
                repeat (go_big_quiet_step (fail))
                refine wpQuiet_nil ?_
                rintro _ ⟨y, rfl⟩
                have o1 : Below w.heap.size w y.1 := bstep y.2 HG.out
                have o2 := HBN.out.past y.2
                clear hcq
                generalize y.1 = w5 at *
                go_wp2
                go_roundg (l.length - (j + 1 + 1))
                case measure => omega
                case rel => exact ⟨j + 1 + 1, by omega, Nat.le_refl _, by go_num, HX.out, o1, by rw [HPS.out]; exact o2⟩
    · have hk' : k = l.length := by omega
      subst hk'
      have HX := hidE (mayB_good HS.out)
      go_wp2
      go_ret
      exact ⟨ret_bool (by rw [HX.out]), HB.out⟩
end Go.Proofs.Ytgflbidagdcfmaa

namespace Go.Proofs.Ytgflbidagdcfmaa
open Go.ChangeShapes Go.WideShapes Go.ChangeAt Go.RowKit
attribute [local irreducible] Go.Calls

theorem Try.infoWin : (Try.prog.info? 24).map (fun i => (i.zero, i.size, i.bytes)) = some (some (.agg #[.int .i64 0, .int .i64 0]), 2, 16) := by kernel_rfl
/-- A row made new. -/
theorem ownsRow_at (w : World) (B : Nat) (e : TypeId) (sz : Nat) (cs : Array Value) (n k : Nat) (hk : k = w.heap.size) (hb : B ≤ w.heap.size) (hm : n ≤ maxLen) (hs : cs.size = n * sz) : (w.alloc (.cells cs e)).ownsRow B e sz (.slice (some ⟨k, 0, none⟩) n n) n cs.toList :=
  hk ▸ World.ownsRow_lit w cs n hb hm hs
theorem room_c (a b n : Int) (w : World) (ha : -1099511627776 ≤ a ∧ a ≤ 1099511627776) (hb : -1099511627776 ≤ b ∧ b ≤ 1099511627776) (hn : 0 ≤ n ∧ n ≤ 1000000) :
    Calls Try.prog 21 #[V a b, .int .i64 n] w fun e w' => ∃ v, e = .returned v ∧ w'.ownsRow w.heap.size 24 2 v (roomL a b n).length (cellsOfV (roomL a b n)) ∧ Below w.heap.size w w' := by
  have wr : IntKind.i64.wrap (b - a) = b - a := IntWalk.i64_in _ (by omega)
  by_cases h : b - a < n
  · have e : roomL a b n = [] := by unfold roomL; rw [if_pos h]
    have d1 : decide (b - a < n) = true := decide_eq_true h
    rw [e]
    clear h
    go_enter Try.func21, Try.ntmps21
    go_wp2
    go_ret
    exact ⟨_, rfl, own_nil _ _ _, by (repeat (first | exact Below.refl _ _ | assumption | refine balloc ?_ _ | refine below_drewN ?_ _ | refine bstep (by assumption) ?_ | refine bstep (Past.prop _) ?_ | refine Below.setCell ?_ (by first | exact Nat.le_refl _ | (simp; done) | (simp; omega)) _))⟩
  · have e : roomL a b n = [(a, b - n + 1)] := by unfold roomL; rw [if_neg h]
    have d1 : decide (b - a < n) = false := decide_eq_false h
    have w1 : IntKind.i64.wrap (b - n) = b - n := IntWalk.i64_in _ (by omega)
    have w2 : IntKind.i64.wrap (b - n + 1) = b - n + 1 := IntWalk.i64_in _ (by omega)
    rw [e]
    clear h
    go_enter Try.func21, Try.ntmps21
    go_wp2
    go_ret
    exact ⟨_, rfl, ownsRow_at _ _ _ 2 #[.int .i64 a, .int .i64 (b - n + 1)] 1 _ (by simp) (by simp) (by unfold maxLen; omega) rfl, by (repeat (first | exact Below.refl _ _ | assumption | refine balloc ?_ _ | refine below_drewN ?_ _ | refine bstep (by assumption) ?_ | refine bstep (Past.prop _) ?_ | refine Below.setCell ?_ (by first | exact Nat.le_refl _ | (simp; done) | (simp; omega)) _))⟩

/-- Whether a leg needs a vector that is not valid. -/
def wrB (x : Sg) : Bool := !(okV x.2.1 x.2.2)
theorem wrong_c (x : Sg) (w : World) : Calls Try.prog 47 #[S x.1 x.2.1 x.2.2] w fun e w' => e = .returned (.bool (wrB x)) ∧ Below w.heap.size w w' := by
  obtain ⟨d, m, c⟩ := x
  have HV := hidE (fun w => may_eq (a := m) (b := c) (w := w) rfl)
  show Calls _ _ _ w fun e w' => e = .returned (.bool (!(okV m c))) ∧ _
  generalize okV m c = r at *
  go_enter Try.func47, Try.ntmps47
  go_wp2_with fail
  ((with_reducible refine (HV.out _).mono ?_); rintro e w1 ⟨rfl, hb1⟩)
  go_wp2
  go_ret
  exact ⟨rfl, by (repeat (first | exact Below.refl _ _ | assumption | refine balloc ?_ _ | refine below_drewN ?_ _ | refine bstep (by assumption) ?_ | refine bstep (Past.prop _) ?_ | refine Below.setCell ?_ (by first | exact Nat.le_refl _ | (simp; done) | (simp; omega)) _))⟩
set_option maxRecDepth 100000 in
set_option maxHeartbeats 2000000 in
theorem wrong_index (P : List Sg) (a : Option Addr) (cap : Nat) (w : World) (hl : P.length ≤ 1000000000) (hA : ArgS w a P) :
    Calls Try.prog 66 #[.slice a P.length cap, .func (.func 47) #[] #[]] w fun e w' => ∃ n : Int, e = .returned (.int .i64 n) ∧ decide (0 ≤ n) = P.any wrB ∧ Below w.heap.size w w' := by
  have HA := hidE hA
  clear hA
  go_enter Try.func66, Try.ntmps66
  go_wp2
  go_loopw [8] (fun i wr => ∃ k : Nat, k ≤ P.length ∧ i = .int .i64 k ∧ (∀ j, j < k → wrB (P.getD j (0, 0, 0)) = false) ∧ Below w.heap.size w wr) (fun i _ => P.length - (intOf i).toNat)
  case atStart => exact ⟨0, Nat.zero_le _, rfl, fun j hj => by omega, by (repeat (first | exact Below.refl _ _ | assumption | refine balloc ?_ _ | refine below_drewN ?_ _ | refine bstep (by assumption) ?_ | refine bstep (Past.prop _) ?_ | refine Below.setCell ?_ (by first | exact Nat.le_refl _ | (simp; done) | (simp; omega)) _))⟩
  case round =>
    obtain ⟨k, hk, rfl, hs, hb⟩ := hrel
    have HS := hidE hs; clear hs
    by_cases hlt : k < P.length
    · obtain ⟨b, off, rfl, hbz, hc⟩ := HA.out (by omega)
      have hbr : b < wr.heap.size := Nat.lt_of_lt_of_le hbz hb.size
      obtain ⟨e0, e1, e2⟩ := hc.get hlt
      rw [← hb.cell hbz] at e0 e1 e2
      have HBI := hidE (fun w => wrong_c (P.getD k (0, 0, 0)) w)
      have HN := hidE (fun (h : wrB (P.getD k (0, 0, 0)) = true) => show P.any wrB = true from by
        rw [List.any_eq_true]
        rw [getD_get _ _ _ hlt] at h
        exact ⟨_, List.getElem_mem hlt, h⟩)
      have HQ := hidE (fun h j (hj : j < k + 1) => show wrB (P.getD j (0, 0, 0)) = false from by
        by_cases e : j = k
        · subst e; exact h
        · exact HS.out j (by omega))
      unfold ats at e0; unfold vls at e1 e2
      generalize P.getD k (0, 0, 0) = s at *
      obtain ⟨kd, m, c⟩ := s
      simp only at e0 e1 e2
      clear hc
      cases hn : wrB (kd, m, c)
      · have HF := hidE (HQ.out hn)
        rw [hn] at HBI
        clear HN HQ hn
        go_wp2_with fail
        ((with_reducible refine (HBI.out _).mono ?_); rintro e w2 ⟨rfl, hb2⟩)
        go_wp2
        exact ⟨⟨k + 1, by omega, by go_num, HF.out, by (repeat (first | exact Below.refl _ _ | assumption | refine balloc ?_ _ | refine below_drewN ?_ _ | refine bstep (by assumption) ?_ | refine bstep (Past.prop _) ?_ | refine Below.setCell ?_ (by first | exact Nat.le_refl _ | (simp; done) | (simp; omega)) _))⟩, by simp [intOf]; omega⟩
      · have HF := hidE (HN.out hn)
        rw [hn] at HBI
        clear HN HQ hn
        go_wp2_with fail
        ((with_reducible refine (HBI.out _).mono ?_); rintro e w2 ⟨rfl, hb2⟩)
        go_wp2
        go_ret
        exact ⟨_, rfl, by rw [HF.out]; simp, by (repeat (first | exact Below.refl _ _ | assumption | refine balloc ?_ _ | refine below_drewN ?_ _ | refine bstep (by assumption) ?_ | refine bstep (Past.prop _) ?_ | refine Below.setCell ?_ (by first | exact Nat.le_refl _ | (simp; done) | (simp; omega)) _))⟩
    · have hkl : k = P.length := by omega
      have HF := hidE (show P.any wrB = false by
        rw [List.any_eq_false]
        intro x hx
        obtain ⟨i, hi, rfl⟩ := List.getElem_of_mem hx
        have := HS.out i (by omega)
        rw [getD_get _ _ _ hi] at this
        rw [this]; decide)
      clear hkl HS
      go_wp2
      go_ret
      exact ⟨_, rfl, by rw [HF.out]; simp, by (repeat (first | exact Below.refl _ _ | assumption | refine balloc ?_ _ | refine below_drewN ?_ _ | refine bstep (by assumption) ?_ | refine bstep (Past.prop _) ?_ | refine Below.setCell ?_ (by first | exact Nat.le_refl _ | (simp; done) | (simp; omega)) _))⟩
theorem wrong_any {P : List Sg} {a : Option Addr} {cap : Nat} {w : World} {r : Bool} (hl : P.length ≤ 1000000000) (hA : ArgS w a P) (h : P.any wrB = r) :
    Calls Try.prog 46 #[.slice a P.length cap, .func (.func 47) #[] #[]] w fun e w' => e = .returned (.bool r) ∧ Below w.heap.size w w' := by
  have HI := hidE (wrong_index P a cap w hl hA)
  have HR := hidE h
  clear hA h
  go_enter Try.func46, Try.ntmps46
  go_wp2_with fail
  ((with_reducible refine (HI.out).mono ?_); rintro e w1 ⟨n, rfl, hn, hb1⟩)
  have HN := hidE hn
  clear hn
  go_wp2
  go_ret
  exact ⟨by rw [← HR.out, ← HN.out]; rfl, by (repeat (first | exact Below.refl _ _ | assumption | refine balloc ?_ _ | refine below_drewN ?_ _ | refine bstep (by assumption) ?_ | refine bstep (Past.prop _) ?_ | refine Below.setCell ?_ (by first | exact Nat.le_refl _ | (simp; done) | (simp; omega)) _))⟩

/-- How long legs are together, or that they are no list of legs. -/
def badDur (x : Sg) : Bool := decide (x.1 < 1) || decide (4096 < x.1)
def lenE (l : List Sg) : Int × Int := if l.length = 0 ∨ 16 < l.length then (0, 2) else if l.any badDur then (0, 2) else (lenG l, 0)
theorem lenE_few {l : List Sg} (h : l.length = 0 ∨ 16 < l.length) : lenE l = (0, 2) := by unfold lenE; rw [if_pos h]
theorem lenE_bad {l : List Sg} {k : Nat} (hk : k < l.length) (h : badDur (l.getD k (0, 0, 0)) = true) : lenE l = (0, 2) := by
  unfold lenE
  have : l.any badDur = true := List.any_eq_true.2 ⟨_, by rw [getD_get _ _ _ hk]; exact List.getElem_mem hk, h⟩
  rw [this]; simp
theorem lenE_ok {l : List Sg} (h : ¬ (l.length = 0 ∨ 16 < l.length)) (h2 : ∀ j, j < l.length → badDur (l.getD j (0, 0, 0)) = false) : lenE l = (lenG l, 0) := by
  unfold lenE
  rw [if_neg h]
  have : l.any badDur = false := by
    rw [List.any_eq_false]
    intro x hx
    obtain ⟨i, hi, rfl⟩ := List.getElem_of_mem hx
    have := h2 i hi
    rw [getD_get _ _ _ hi] at this
    rw [this]; decide
  rw [this]; rfl
theorem lenE_zero {l : List Sg} (h : (lenE l).2 = 0) : (0 < l.length ∧ l.length ≤ 16) ∧ (∀ x ∈ l, 1 ≤ x.1 ∧ x.1 ≤ 4096) ∧ (lenE l).1 = lenG l := by
  unfold lenE at h ⊢
  split at h
  · simp at h
  · rename_i h1
    split at h
    · simp at h
    · rename_i h2
      rw [if_neg h1, if_neg h2]
      refine ⟨by omega, fun x hx => ?_, rfl⟩
      rw [Bool.not_eq_true, List.any_eq_false] at h2
      have := h2 x hx
      unfold badDur at this
      simp at this
      omega
theorem lenG_bound : ∀ {l : List Sg}, (∀ x ∈ l, 1 ≤ x.1 ∧ x.1 ≤ 4096) → (l.length : Int) ≤ lenG l ∧ lenG l ≤ 4096 * l.length
  | [], _ => by simp [lenG]
  | x :: l, h => by
    have h1 := h x (List.mem_cons_self ..)
    have h2 := lenG_bound (l := l) fun y hy => h y (List.mem_cons_of_mem _ hy)
    simp only [lenG, List.length_cons]
    omega
theorem lenG_take {l : List Sg} {k : Nat} (h : k < l.length) : lenG (l.take (k + 1)) = lenG (l.take k) + (l.getD k (0, 0, 0)).1 := by
  rw [List.take_succ_eq_append_getElem h, lenG_app, getD_get _ _ _ h]
  simp [lenG]
set_option maxRecDepth 100000 in
set_option maxHeartbeats 4000000 in
theorem length_c (l : List Sg) (a : Option Addr) (cap : Nat) (w : World) (hl : l.length ≤ 1000000000) (hA : ArgS w a l) :
    Calls Try.prog 19 #[.slice a l.length cap] w fun e w' => e = .returned (IE (lenE l)) ∧ Below w.heap.size w w' := by
  have HA := hidE hA
  clear hA
  by_cases h0 : l.length = 0
  · have E := hidE (lenE_few (l := l) (.inl h0))
    rw [E.out]
    have d1 : ((l.length : Int) == 0) = true := by rw [h0]; rfl
    clear h0 E
    go_enter Try.func19, Try.ntmps19
    go_wp2
    go_ret2
    exact ⟨rfl, by (repeat (first | exact Below.refl _ _ | assumption | refine balloc ?_ _ | refine below_drewN ?_ _ | refine bstep (by assumption) ?_ | refine bstep (Past.prop _) ?_ | refine Below.setCell ?_ (by first | exact Nat.le_refl _ | (simp; done) | (simp; omega)) _))⟩
  by_cases h1 : 16 < l.length
  · have E := hidE (lenE_few (l := l) (.inr h1))
    rw [E.out]
    have d1 : ((l.length : Int) == 0) = false := beq_eq_false_iff_ne.2 (by omega)
    have d2 : decide (16 < (l.length : Int)) = true := decide_eq_true (by omega)
    have d2' : decide (16 < l.length) = true := decide_eq_true (by omega)
    clear h0 h1 E
    go_enter Try.func19, Try.ntmps19
    go_wp2
    go_ret2
    exact ⟨rfl, by (repeat (first | exact Below.refl _ _ | assumption | refine balloc ?_ _ | refine below_drewN ?_ _ | refine bstep (by assumption) ?_ | refine bstep (Past.prop _) ?_ | refine Below.setCell ?_ (by first | exact Nat.le_refl _ | (simp; done) | (simp; omega)) _))⟩
  have d1 : ((l.length : Int) == 0) = false := beq_eq_false_iff_ne.2 (by omega)
  have d2 : decide (16 < (l.length : Int)) = false := decide_eq_false (by omega)
  have d2' : decide (16 < l.length) = false := decide_eq_false (by omega)
  have H0 := hidE (show ¬ (l.length = 0 ∨ 16 < l.length) by omega)
  have hl16 : l.length ≤ 16 := by omega
  clear h0 h1
  go_enter Try.func19, Try.ntmps19
  go_wp2
  go_loopg [4, 17] l.length (fun g v4 v17 wr => ∃ k : Nat, k ≤ l.length ∧ l.length - k ≤ g ∧ v4 = .int .i64 (lenG (l.take k)) ∧ v17 = .int .i64 k ∧ (∀ j, j < k → badDur (l.getD j (0, 0, 0)) = false) ∧ (0 ≤ lenG (l.take k) ∧ lenG (l.take k) ≤ 4096 * k) ∧ Below w.heap.size w wr)
  case atStart => exact ⟨0, Nat.zero_le _, Nat.le_refl _, rfl, rfl, fun j hj => by omega, by simp [lenG], by (repeat (first | exact Below.refl _ _ | assumption | refine balloc ?_ _ | refine below_drewN ?_ _ | refine bstep (by assumption) ?_ | refine bstep (Past.prop _) ?_ | refine Below.setCell ?_ (by first | exact Nat.le_refl _ | (simp; done) | (simp; omega)) _))⟩
  case round =>
    obtain ⟨k, hk, hg, rfl, rfl, hs, hsum, hb⟩ := hrel
    have HS := hidE hs; have HG := hidE hg; have HSU := hidE hsum
    clear hs hg hsum
    by_cases hlt : k < l.length
    · obtain ⟨b, off, rfl, hbz, hc⟩ := HA.out (by omega)
      have hbr : b < wr.heap.size := Nat.lt_of_lt_of_le hbz hb.size
      obtain ⟨e0, e1, e2⟩ := hc.get hlt
      rw [← hb.cell hbz] at e0 e1 e2
      have HT := hidE (lenG_take hlt)
      have HBD := hidE (fun (h : badDur (l.getD k (0, 0, 0)) = true) => lenE_bad hlt h)
      have HQ := hidE (fun h j (hj : j < k + 1) => show badDur (l.getD j (0, 0, 0)) = false from by
        by_cases e : j = k
        · subst e; exact h
        · exact HS.out j (by omega))
      unfold ats at e0; unfold vls at e1 e2
      generalize l.getD k (0, 0, 0) = s at *
      obtain ⟨d, m, c⟩ := s
      simp only at e0 e1 e2
      have HT2 := hidE (show lenG (l.take (k + 1)) = lenG (l.take k) + d from HT.out)
      clear hc HT
      by_cases h1 : d < 1
      · have E := hidE (HBD.out (by unfold badDur; simp [h1]))
        have d3 : decide (d < 1) = true := decide_eq_true h1
        clear h1 HQ HT2 HBD
        go_wp2
        go_ret2
        exact ⟨by rw [E.out]; rfl, by (repeat (first | exact Below.refl _ _ | assumption | refine balloc ?_ _ | refine below_drewN ?_ _ | refine bstep (by assumption) ?_ | refine bstep (Past.prop _) ?_ | refine Below.setCell ?_ (by first | exact Nat.le_refl _ | (simp; done) | (simp; omega)) _))⟩
      · have d3 : decide (d < 1) = false := decide_eq_false h1
        by_cases h2 : 4096 < d
        · have E := hidE (HBD.out (by unfold badDur; simp [h2]))
          have d4 : decide (4096 < d) = true := decide_eq_true h2
          clear h1 h2 HQ HT2 HBD
          go_wp2
          go_ret2
          exact ⟨by rw [E.out]; rfl, by (repeat (first | exact Below.refl _ _ | assumption | refine balloc ?_ _ | refine below_drewN ?_ _ | refine bstep (by assumption) ?_ | refine bstep (Past.prop _) ?_ | refine Below.setCell ?_ (by first | exact Nat.le_refl _ | (simp; done) | (simp; omega)) _))⟩
        · have d4 : decide (4096 < d) = false := decide_eq_false h2
          have HQ2 := hidE (HQ.out (by unfold badDur; simp [d3, d4]))
          have w1 : IntKind.i64.wrap (lenG (l.take k) + d) = lenG (l.take k) + d := IntWalk.i64_in _ (by have := HSU.out; omega)
          have hd12 : 1 ≤ d ∧ d ≤ 4096 := by omega
          have HD := hidE hd12
          clear h1 h2 HQ HBD hd12
          go_wp2
          go_roundg (l.length - (k + 1))
          case measure => have := HG.out; omega
          case rel => exact ⟨k + 1, by omega, Nat.le_refl _, by rw [HT2.out], by go_num, HQ2.out, by rw [HT2.out]; have := HSU.out; have := HD.out; omega, by (repeat (first | exact Below.refl _ _ | assumption | refine balloc ?_ _ | refine below_drewN ?_ _ | refine bstep (by assumption) ?_ | refine bstep (Past.prop _) ?_ | refine Below.setCell ?_ (by first | exact Nat.le_refl _ | (simp; done) | (simp; omega)) _))⟩
    · have hkl : k = l.length := by omega
      have E := hidE (lenE_ok H0.out (fun j hj => HS.out j (by omega)))
      have ET := hidE (show l.take k = l by rw [hkl, List.take_length])
      have d3 : decide ((k : Int) < (l.length : Int)) = false := decide_eq_false (by omega)
      have d3' : decide (k < l.length) = false := decide_eq_false hlt
      clear hkl hlt
      go_wp2
      go_ret2
      exact ⟨by rw [E.out, ET.out]; rfl, by (repeat (first | exact Below.refl _ _ | assumption | refine balloc ?_ _ | refine below_drewN ?_ _ | refine bstep (by assumption) ?_ | refine bstep (Past.prop _) ?_ | refine Below.setCell ?_ (by first | exact Nat.le_refl _ | (simp; done) | (simp; omega)) _))⟩
theorem length_eq {l : List Sg} {a : Option Addr} {n cap : Nat} {w : World} {r : Int × Int} (h1 : SliS w (.slice a n cap) l) (hl : n ≤ 1000000000) (he : lenE l = r) :
    Calls Try.prog 19 #[.slice a n cap] w fun e w' => e = .returned (IE r) ∧ Below w.heap.size w w' := by
  obtain ⟨a', c', e, q1, q2, q3⟩ := h1
  cases e; subst he
  exact length_c l a cap w hl q3
end Go.Proofs.Ytgflbidagdcfmaa

namespace Go.Proofs.Ytgflbidagdcfmaa
open Go.ChangeShapes Go.WideShapes Go.ChangeAt Go.RowKit
attribute [local irreducible] Go.Calls

def slotE (F : List Sg) (a b : Int) (l : List Sg) : Int := if mayB F = false then 5 else if (lenE l).2 ≠ 0 then (lenE l).2 else if b ≤ a ∨ 4096 < b - a then 2 else if a < -1099511627776 ∨ 1099511627776 < b ∨ l.any wrB = true then 10 else 0
theorem slotE_form {F l : List Sg} {a b : Int} (h : mayB F = false) : slotE F a b l = 5 := by unfold slotE; rw [if_pos h]
theorem slotE_len {F l : List Sg} {a b : Int} (h : mayB F = true) (h2 : (lenE l).2 ≠ 0) : slotE F a b l = (lenE l).2 := by unfold slotE; rw [h, if_neg (by decide), if_pos h2]
theorem slotE_win {F l : List Sg} {a b : Int} (h : mayB F = true) (h2 : (lenE l).2 = 0) (h3 : b ≤ a ∨ 4096 < b - a) : slotE F a b l = 2 := by unfold slotE; rw [h, if_neg (by decide), if_neg (by simp [h2]), if_pos h3]
theorem slotE_range {F l : List Sg} {a b : Int} (h : mayB F = true) (h2 : (lenE l).2 = 0) (h3 : a < b ∧ b - a ≤ 4096) (h4 : a < -1099511627776 ∨ 1099511627776 < b ∨ l.any wrB = true) : slotE F a b l = 10 := by
  unfold slotE; rw [h, if_neg (by decide), if_neg (by simp [h2]), if_neg (by omega), if_pos h4]
theorem slotE_ok {F l : List Sg} {a b : Int} (h : mayB F = true) (h2 : (lenE l).2 = 0) (h3 : a < b ∧ b - a ≤ 4096) (h4 : -1099511627776 ≤ a ∧ b ≤ 1099511627776) (h5 : l.any wrB = false) : slotE F a b l = 0 := by
  unfold slotE; rw [h, if_neg (by decide), if_neg (by simp [h2]), if_neg (by omega), if_neg (by rw [h5]; simp; omega)]
theorem slotE_zero {F l : List Sg} {a b : Int} (h : slotE F a b l = 0) : mayB F = true ∧ (lenE l).2 = 0 ∧ (a < b ∧ b - a ≤ 4096) ∧ (-1099511627776 ≤ a ∧ b ≤ 1099511627776) ∧ ∀ x ∈ l, okV x.2.1 x.2.2 = true := by
  unfold slotE at h
  split at h
  · simp at h
  · rename_i h1
    split at h
    · rename_i h2; exact absurd h h2
    · rename_i h2
      split at h
      · simp at h
      · rename_i h3
        split at h
        · simp at h
        · rename_i h4
          refine ⟨by simpa using h1, Decidable.not_not.1 h2, by omega, by omega, fun x hx => ?_⟩
          have h5 : l.any wrB = false := by
            cases q : l.any wrB
            · rfl
            · exact absurd (.inr (.inr q)) h4
          rw [List.any_eq_false] at h5
          have := h5 x hx
          unfold wrB at this
          simpa using this
/-- A difference that is too great for an int64 is not too great for an uint64. -/
theorem wrap_dif {a b : Int} (ha : -9223372036854775808 ≤ a ∧ a ≤ 9223372036854775807) (hb : -9223372036854775808 ≤ b ∧ b ≤ 9223372036854775807) (h : a < b) : IntKind.u64.wrap (IntKind.i64.wrap (b - a)) = b - a := by
  have e : ∀ x : Int, IntKind.u64.wrap x = x % 18446744073709551616 := fun x => by simp [IntKind.wrap, IntKind.bits, IntKind.signed]
  rw [e, IntKind.wrap_i64]
  omega
set_option maxRecDepth 100000 in
set_option maxHeartbeats 4000000 in
theorem sfault_c (F l : List Sg) (a b : Int) (f g : Option Addr) (cF cL : Nat) (w : World) (hF : F.length ≤ 1000000000) (hl : l.length ≤ 1000000000) (ha : -9223372036854775808 ≤ a ∧ a ≤ 9223372036854775807) (hb : -9223372036854775808 ≤ b ∧ b ≤ 9223372036854775807) (hA : ArgS w f F) (hL : ArgS w g l) :
    Calls Try.prog 20 #[.slice f F.length cF, V a b, .slice g l.length cL] w fun e w' => e = .returned (.int .i64 (slotE F a b l)) ∧ Below w.heap.size w w' := by
  have HLN := hidE (fun w hA => length_c l g cL w hl hA)
  have HM := hidE (fun w hA => pmay_c F f cF w (by omega) hA)
  have HA := hidE hA; have HL := hidE hL
  have HS := hidE (show ∃ p, p = lenE l from ⟨_, rfl⟩)
  clear hA hL
  cases h1 : mayB F
  · have HE := hidE (slotE_form (a := a) (b := b) (l := l) h1)
    rw [h1] at HM
    rw [HE.out]
    clear h1 HE
    generalize lenE l = r at *
    go_enter Try.func20, Try.ntmps20
    go_wp2_with fail
    ((with_reducible refine (HLN.out _ (HL.out.past (by (repeat (first | exact Below.refl _ _ | assumption | refine balloc ?_ _ | refine below_drewN ?_ _ | refine bstep (by assumption) ?_ | refine bstep (Past.prop _) ?_ | refine Below.setCell ?_ (by first | exact Nat.le_refl _ | (simp; done) | (simp; omega)) _))))).mono ?_); rintro e w1 ⟨rfl, hb1⟩)
    go_wp2_with fail
    ((with_reducible refine (HM.out _ (HA.out.past (by (repeat (first | exact Below.refl _ _ | assumption | refine balloc ?_ _ | refine below_drewN ?_ _ | refine bstep (by assumption) ?_ | refine bstep (Past.prop _) ?_ | refine Below.setCell ?_ (by first | exact Nat.le_refl _ | (simp; done) | (simp; omega)) _))))).mono ?_); rintro e w2 ⟨rfl, hb2⟩)
    go_wp2
    go_ret
    exact ⟨rfl, by (repeat (first | exact Below.refl _ _ | assumption | refine balloc ?_ _ | refine below_drewN ?_ _ | refine bstep (by assumption) ?_ | refine bstep (Past.prop _) ?_ | refine Below.setCell ?_ (by first | exact Nat.le_refl _ | (simp; done) | (simp; omega)) _))⟩
  rw [h1] at HM
  by_cases h2 : (lenE l).2 = 0
  · have H2 := hidE h2
    obtain ⟨r1, hr⟩ : ∃ r1, lenE l = (r1, 0) := ⟨(lenE l).1, Prod.ext rfl h2⟩
    rw [hr] at HLN
    clear hr h2
    by_cases h3 : b ≤ a
    · have HE := hidE (slotE_win (a := a) (b := b) h1 H2.out (.inl h3))
      rw [HE.out]
      have d1 : decide (b ≤ a) = true := decide_eq_true h3
      clear h1 h3 HE H2 HS
      go_enter Try.func20, Try.ntmps20
      go_wp2_with fail
      ((with_reducible refine (HLN.out _ (HL.out.past (by (repeat (first | exact Below.refl _ _ | assumption | refine balloc ?_ _ | refine below_drewN ?_ _ | refine bstep (by assumption) ?_ | refine bstep (Past.prop _) ?_ | refine Below.setCell ?_ (by first | exact Nat.le_refl _ | (simp; done) | (simp; omega)) _))))).mono ?_); rintro e w1 ⟨rfl, hb1⟩)
      go_wp2_with fail
      ((with_reducible refine (HM.out _ (HA.out.past (by (repeat (first | exact Below.refl _ _ | assumption | refine balloc ?_ _ | refine below_drewN ?_ _ | refine bstep (by assumption) ?_ | refine bstep (Past.prop _) ?_ | refine Below.setCell ?_ (by first | exact Nat.le_refl _ | (simp; done) | (simp; omega)) _))))).mono ?_); rintro e w2 ⟨rfl, hb2⟩)
      have hB2 : Blk w2 w.heap.size #[.int .i64 a, .int .i64 b] 24 := ((Blk.made _ _ _).past hb1).past hb2
      have c0 := hB2.cell 0; have c1 := hB2.cell 1; have cz := hB2.lt
      simp at c0 c1
      clear hB2
      go_wp2
      go_ret
      exact ⟨rfl, by (repeat (first | exact Below.refl _ _ | assumption | refine balloc ?_ _ | refine below_drewN ?_ _ | refine bstep (by assumption) ?_ | refine bstep (Past.prop _) ?_ | refine Below.setCell ?_ (by first | exact Nat.le_refl _ | (simp; done) | (simp; omega)) _))⟩
    · have d1 : decide (b ≤ a) = false := decide_eq_false h3
      have hw : IntKind.u64.wrap (wrap64 (b - a)) = b - a := (IntWalk.i64_left (b - a)) ▸ wrap_dif ha hb (by omega)
      by_cases h4 : 4096 < b - a
      · have HE := hidE (slotE_win (a := a) (b := b) h1 H2.out (.inr h4))
        rw [HE.out]
        have d2 : decide (4096 < b - a) = true := decide_eq_true h4
        clear h1 h3 h4 HE H2 HS
        go_enter Try.func20, Try.ntmps20
        go_wp2_with fail
        ((with_reducible refine (HLN.out _ (HL.out.past (by (repeat (first | exact Below.refl _ _ | assumption | refine balloc ?_ _ | refine below_drewN ?_ _ | refine bstep (by assumption) ?_ | refine bstep (Past.prop _) ?_ | refine Below.setCell ?_ (by first | exact Nat.le_refl _ | (simp; done) | (simp; omega)) _))))).mono ?_); rintro e w1 ⟨rfl, hb1⟩)
        go_wp2_with fail
        ((with_reducible refine (HM.out _ (HA.out.past (by (repeat (first | exact Below.refl _ _ | assumption | refine balloc ?_ _ | refine below_drewN ?_ _ | refine bstep (by assumption) ?_ | refine bstep (Past.prop _) ?_ | refine Below.setCell ?_ (by first | exact Nat.le_refl _ | (simp; done) | (simp; omega)) _))))).mono ?_); rintro e w2 ⟨rfl, hb2⟩)
        have hB2 : Blk w2 w.heap.size #[.int .i64 a, .int .i64 b] 24 := ((Blk.made _ _ _).past hb1).past hb2
        have c0 := hB2.cell 0; have c1 := hB2.cell 1; have cz := hB2.lt
        simp at c0 c1
        clear hB2
        go_wp2
        go_ret
        exact ⟨rfl, by (repeat (first | exact Below.refl _ _ | assumption | refine balloc ?_ _ | refine below_drewN ?_ _ | refine bstep (by assumption) ?_ | refine bstep (Past.prop _) ?_ | refine Below.setCell ?_ (by first | exact Nat.le_refl _ | (simp; done) | (simp; omega)) _))⟩
      · have d2 : decide (4096 < b - a) = false := decide_eq_false h4
        by_cases h5 : a < -1099511627776
        · have HE := hidE (slotE_range (a := a) (b := b) h1 H2.out (by omega) (.inl h5))
          rw [HE.out]
          have d3 : decide (a < -1099511627776) = true := decide_eq_true h5
          clear h1 h3 h4 h5 HE H2 HS
          go_enter Try.func20, Try.ntmps20
          go_wp2_with fail
          ((with_reducible refine (HLN.out _ (HL.out.past (by (repeat (first | exact Below.refl _ _ | assumption | refine balloc ?_ _ | refine below_drewN ?_ _ | refine bstep (by assumption) ?_ | refine bstep (Past.prop _) ?_ | refine Below.setCell ?_ (by first | exact Nat.le_refl _ | (simp; done) | (simp; omega)) _))))).mono ?_); rintro e w1 ⟨rfl, hb1⟩)
          go_wp2_with fail
          ((with_reducible refine (HM.out _ (HA.out.past (by (repeat (first | exact Below.refl _ _ | assumption | refine balloc ?_ _ | refine below_drewN ?_ _ | refine bstep (by assumption) ?_ | refine bstep (Past.prop _) ?_ | refine Below.setCell ?_ (by first | exact Nat.le_refl _ | (simp; done) | (simp; omega)) _))))).mono ?_); rintro e w2 ⟨rfl, hb2⟩)
          have hB2 : Blk w2 w.heap.size #[.int .i64 a, .int .i64 b] 24 := ((Blk.made _ _ _).past hb1).past hb2
          have c0 := hB2.cell 0; have c1 := hB2.cell 1; have cz := hB2.lt
          simp at c0 c1
          clear hB2
          go_wp2
          go_ret
          exact ⟨rfl, by (repeat (first | exact Below.refl _ _ | assumption | refine balloc ?_ _ | refine below_drewN ?_ _ | refine bstep (by assumption) ?_ | refine bstep (Past.prop _) ?_ | refine Below.setCell ?_ (by first | exact Nat.le_refl _ | (simp; done) | (simp; omega)) _))⟩
        · have d3 : decide (a < -1099511627776) = false := decide_eq_false h5
          by_cases h6 : 1099511627776 < b
          · have HE := hidE (slotE_range (a := a) (b := b) h1 H2.out (by omega) (.inr (.inl h6)))
            rw [HE.out]
            have d4 : decide (1099511627776 < b) = true := decide_eq_true h6
            clear h1 h3 h4 h5 h6 HE H2 HS
            go_enter Try.func20, Try.ntmps20
            go_wp2_with fail
            ((with_reducible refine (HLN.out _ (HL.out.past (by (repeat (first | exact Below.refl _ _ | assumption | refine balloc ?_ _ | refine below_drewN ?_ _ | refine bstep (by assumption) ?_ | refine bstep (Past.prop _) ?_ | refine Below.setCell ?_ (by first | exact Nat.le_refl _ | (simp; done) | (simp; omega)) _))))).mono ?_); rintro e w1 ⟨rfl, hb1⟩)
            go_wp2_with fail
            ((with_reducible refine (HM.out _ (HA.out.past (by (repeat (first | exact Below.refl _ _ | assumption | refine balloc ?_ _ | refine below_drewN ?_ _ | refine bstep (by assumption) ?_ | refine bstep (Past.prop _) ?_ | refine Below.setCell ?_ (by first | exact Nat.le_refl _ | (simp; done) | (simp; omega)) _))))).mono ?_); rintro e w2 ⟨rfl, hb2⟩)
            have hB2 : Blk w2 w.heap.size #[.int .i64 a, .int .i64 b] 24 := ((Blk.made _ _ _).past hb1).past hb2
            have c0 := hB2.cell 0; have c1 := hB2.cell 1; have cz := hB2.lt
            simp at c0 c1
            clear hB2
            go_wp2
            go_ret
            exact ⟨rfl, by (repeat (first | exact Below.refl _ _ | assumption | refine balloc ?_ _ | refine below_drewN ?_ _ | refine bstep (by assumption) ?_ | refine bstep (Past.prop _) ?_ | refine Below.setCell ?_ (by first | exact Nat.le_refl _ | (simp; done) | (simp; omega)) _))⟩
          · have d4 : decide (1099511627776 < b) = false := decide_eq_false h6
            cases h7 : l.any wrB
            · have HE := hidE (slotE_ok (a := a) (b := b) h1 H2.out (by omega) (by omega) h7)
              have HW := hidE (fun w (hA : ArgS w g l) => wrong_any (cap := cL) hl hA h7)
              rw [HE.out]
              clear h1 h3 h4 h5 h6 HE H2 HS h7
              go_enter Try.func20, Try.ntmps20
              go_wp2_with fail
              ((with_reducible refine (HLN.out _ (HL.out.past (by (repeat (first | exact Below.refl _ _ | assumption | refine balloc ?_ _ | refine below_drewN ?_ _ | refine bstep (by assumption) ?_ | refine bstep (Past.prop _) ?_ | refine Below.setCell ?_ (by first | exact Nat.le_refl _ | (simp; done) | (simp; omega)) _))))).mono ?_); rintro e w1 ⟨rfl, hb1⟩)
              go_wp2_with fail
              ((with_reducible refine (HM.out _ (HA.out.past (by (repeat (first | exact Below.refl _ _ | assumption | refine balloc ?_ _ | refine below_drewN ?_ _ | refine bstep (by assumption) ?_ | refine bstep (Past.prop _) ?_ | refine Below.setCell ?_ (by first | exact Nat.le_refl _ | (simp; done) | (simp; omega)) _))))).mono ?_); rintro e w2 ⟨rfl, hb2⟩)
              have hB2 : Blk w2 w.heap.size #[.int .i64 a, .int .i64 b] 24 := ((Blk.made _ _ _).past hb1).past hb2
              have c0 := hB2.cell 0; have c1 := hB2.cell 1; have cz := hB2.lt
              simp at c0 c1
              clear hB2
              go_wp2_with fail
              ((with_reducible refine (HW.out _ (HL.out.past (by (repeat (first | exact Below.refl _ _ | assumption | refine balloc ?_ _ | refine below_drewN ?_ _ | refine bstep (by assumption) ?_ | refine bstep (Past.prop _) ?_ | refine Below.setCell ?_ (by first | exact Nat.le_refl _ | (simp; done) | (simp; omega)) _))))).mono ?_); rintro e w3 ⟨rfl, hb3⟩)
              go_wp2
              go_ret
              exact ⟨rfl, by (repeat (first | exact Below.refl _ _ | assumption | refine balloc ?_ _ | refine below_drewN ?_ _ | refine bstep (by assumption) ?_ | refine bstep (Past.prop _) ?_ | refine Below.setCell ?_ (by first | exact Nat.le_refl _ | (simp; done) | (simp; omega)) _))⟩
            · have HE := hidE (slotE_range (a := a) (b := b) h1 H2.out (by omega) (.inr (.inr h7)))
              have HW := hidE (fun w (hA : ArgS w g l) => wrong_any (cap := cL) hl hA h7)
              rw [HE.out]
              clear h1 h3 h4 h5 h6 HE H2 HS h7
              go_enter Try.func20, Try.ntmps20
              go_wp2_with fail
              ((with_reducible refine (HLN.out _ (HL.out.past (by (repeat (first | exact Below.refl _ _ | assumption | refine balloc ?_ _ | refine below_drewN ?_ _ | refine bstep (by assumption) ?_ | refine bstep (Past.prop _) ?_ | refine Below.setCell ?_ (by first | exact Nat.le_refl _ | (simp; done) | (simp; omega)) _))))).mono ?_); rintro e w1 ⟨rfl, hb1⟩)
              go_wp2_with fail
              ((with_reducible refine (HM.out _ (HA.out.past (by (repeat (first | exact Below.refl _ _ | assumption | refine balloc ?_ _ | refine below_drewN ?_ _ | refine bstep (by assumption) ?_ | refine bstep (Past.prop _) ?_ | refine Below.setCell ?_ (by first | exact Nat.le_refl _ | (simp; done) | (simp; omega)) _))))).mono ?_); rintro e w2 ⟨rfl, hb2⟩)
              have hB2 : Blk w2 w.heap.size #[.int .i64 a, .int .i64 b] 24 := ((Blk.made _ _ _).past hb1).past hb2
              have c0 := hB2.cell 0; have c1 := hB2.cell 1; have cz := hB2.lt
              simp at c0 c1
              clear hB2
              go_wp2_with fail
              ((with_reducible refine (HW.out _ (HL.out.past (by (repeat (first | exact Below.refl _ _ | assumption | refine balloc ?_ _ | refine below_drewN ?_ _ | refine bstep (by assumption) ?_ | refine bstep (Past.prop _) ?_ | refine Below.setCell ?_ (by first | exact Nat.le_refl _ | (simp; done) | (simp; omega)) _))))).mono ?_); rintro e w3 ⟨rfl, hb3⟩)
              go_wp2
              go_ret
              exact ⟨rfl, by (repeat (first | exact Below.refl _ _ | assumption | refine balloc ?_ _ | refine below_drewN ?_ _ | refine bstep (by assumption) ?_ | refine bstep (Past.prop _) ?_ | refine Below.setCell ?_ (by first | exact Nat.le_refl _ | (simp; done) | (simp; omega)) _))⟩
  · have HE := hidE (slotE_len (a := a) (b := b) h1 h2)
    have d1 : ((lenE l).2 != 0) = true := bne_iff_ne.2 h2
    rw [HE.out]
    clear h1 h2 HE HS
    generalize lenE l = r at *
    go_enter Try.func20, Try.ntmps20
    go_wp2_with fail
    ((with_reducible refine (HLN.out _ (HL.out.past (by (repeat (first | exact Below.refl _ _ | assumption | refine balloc ?_ _ | refine below_drewN ?_ _ | refine bstep (by assumption) ?_ | refine bstep (Past.prop _) ?_ | refine Below.setCell ?_ (by first | exact Nat.le_refl _ | (simp; done) | (simp; omega)) _))))).mono ?_); rintro e w1 ⟨rfl, hb1⟩)
    go_wp2_with fail
    ((with_reducible refine (HM.out _ (HA.out.past (by (repeat (first | exact Below.refl _ _ | assumption | refine balloc ?_ _ | refine below_drewN ?_ _ | refine bstep (by assumption) ?_ | refine bstep (Past.prop _) ?_ | refine Below.setCell ?_ (by first | exact Nat.le_refl _ | (simp; done) | (simp; omega)) _))))).mono ?_); rintro e w2 ⟨rfl, hb2⟩)
    go_wp2
    go_ret
    exact ⟨rfl, by (repeat (first | exact Below.refl _ _ | assumption | refine balloc ?_ _ | refine below_drewN ?_ _ | refine bstep (by assumption) ?_ | refine bstep (Past.prop _) ?_ | refine Below.setCell ?_ (by first | exact Nat.le_refl _ | (simp; done) | (simp; omega)) _))⟩
theorem sfault_eq {F l : List Sg} {a b : Int} {f g : Option Addr} {n m cF cL : Nat} {w : World} {r : Int} (h1 : SliS w (.slice f n cF) F) (h2 : SliS w (.slice g m cL) l) (hn : n ≤ 1000000000) (hm : m ≤ 1000000000) (ha : -9223372036854775808 ≤ a ∧ a ≤ 9223372036854775807) (hb : -9223372036854775808 ≤ b ∧ b ≤ 9223372036854775807) (he : slotE F a b l = r) :
    Calls Try.prog 20 #[.slice f n cF, V a b, .slice g m cL] w fun e w' => e = .returned (.int .i64 r) ∧ Below w.heap.size w w' := by
  obtain ⟨a', c', e, q1, q2, q3⟩ := h1
  obtain ⟨a'', c'', e2, s1, s2, s3⟩ := h2
  cases e; cases e2; subst he
  exact sfault_c F l a b f g cF cL w hn hm ha hb q3 s3
end Go.Proofs.Ytgflbidagdcfmaa

namespace Go.Proofs.Ytgflbidagdcfmaa
open Go.ChangeShapes Go.WideShapes Go.RowKit
theorem wrapN {n : Nat} (h : n ≤ 9223372036854775807) : IntKind.i64.wrap (n : Int) = n := by
  rw [IntKind.wrap_i64]; omega
theorem run_append_nil_zeros {P : Program} (w : World) (t u ty e : TypeId) (i : TypeInfo) (z : Value) (k : IntKind) (ht : P.underlying t = some (.slice e)) (hu : P.underlying u = some (.int k)) (hi : P.info? e = some i) (hz : i.zero = some z)
    (n : Nat) (h0 : 0 < n) (hs : 0 < i.size) (h63 : n ≤ 9223372036854775807) (h48 : n * i.bytes ≤ 281474976710656) :
    (Builtin.append_ #[t, u] ty #[.slice none 0 0, .int .i64 n]).run P w =
      .ok (.slice (some ⟨w.heap.size, 0, none⟩) n (grownCap w n 0 e)) (w.drew.alloc (.cells (Builtin.zeroCells z.cells n ++ Builtin.zeroCells z.cells (grownCap w n 0 e - n)) e)) := by
  have hn : n ≠ 0 := by omega
  have h63' : ¬ (9223372036854775807 < (n : Int)) := by omega
  have h48' : ¬ (281474976710656 < Builtin.nextslicecap n 0 * i.bytes) := by rw [nextslicecap_zero h0]; omega
  have h48'' : ¬ (281474976710656 < (n : Int) * (i.bytes : Int)) := by
    rw [← Int.natCast_mul]; omega
  have hsn : n * i.size ≠ 0 := Nat.mul_ne_zero hn (by omega)
  have hneg : ¬ ((n : Int) < 0) := by omega
  simp [Builtin.append_, run_underlying ht, run_underlying hu, sizeOf, typeInfo, zeroValue, hi, hz, Builtin.lenOf, asInt, asIntOf, wrapN h63, hn, h63', h48', h48'', hsn, hneg, Question.forced, run_firstCells_none, newRow, grownCap]
/-- At the operation. -/
theorem list_appZ {P : Program} {ops : Array Oper} {rest : List Oper} {o : Oper} {a : Act} {w : World} {Q : Exit → Act → World → Prop} (hgd : o.guard = none) (s x : Operand) (t u : TypeId)
    (ho : o.op = .call { callee := .builtin .append, args := #[s, x], argTypes := #[t, u] })
    (base : Nat) (e : TypeId) (i : TypeInfo) (z : Value) (k : IntKind) (sz by' : Nat) (ht : P.underlying t = some (.slice e)) (hu : P.underlying u = some (.int k)) (hi : P.info? e = some i) (hz : i.zero = some z) (hsize : i.size = sz) (hby : i.bytes = by') (hzs : z.cells.size = sz) (hs0 : 0 < sz)
    (n : Nat) (hs : a.eval s = .slice none 0 0) (hx : a.eval x = .int .i64 n) (h0 : 0 < n) (h63 : n ≤ 100000000000) (hb' : by' ≤ 1000) (hbase : base ≤ w.heap.size)
    (h : ∀ b cap w', w'.ownsRow base e sz (.slice (some ⟨b, 0, none⟩) 0 cap) 0 [] → n ≤ cap → Below w.heap.size w w' → wpList P ops Q rest (a.put o.dst (.slice (some ⟨b, 0, none⟩) n cap)) w') : wpList P ops Q (o :: rest) a w := by
  refine wpList_plain hgd fun K' hK' => ?_
  subst hsize hby
  have hbb : n * i.bytes ≤ n * 1000 := Nat.mul_le_mul_left _ hb'
  have hr := run_append_nil_zeros (P := P) w t u o.type e i z k ht hu hi hz n h0 hs0 (by omega) (by omega)
  have hge := grownCap_ge w n 0 e
  have hcm : grownCap w n 0 e ≤ maxLen := grownCap_le_maxLen w n 0 e (by unfold maxLen; omega)
  unfold Oper.wp execOp
  simp only [ho, resolve, invoke, builtin, Sem.run_bind, Sem.run_pure, Result.andThen_ok, List.map_toArray, List.map_cons, List.map_nil, hs, hx, hr]
  refine hK' _ _ (h w.heap.size _ _ ?_ hge ?_)
  · have := World.ownsRow_made (base := base) (size := i.size) (e := e) w.drew (Builtin.zeroCells z.cells n ++ Builtin.zeroCells z.cells (grownCap w n 0 e - n)) (grownCap w n 0 e) hbase hcm (by
      rw [Array.size_append, size_zeroCells, size_zeroCells, hzs, ← Nat.add_mul]
      congr 1
      omega)
    exact this
  · exact Below.grown (Below.refl _ _) (show w.grownBy (w.drew.alloc _) none from ⟨rfl, rfl, rfl, by simp, fun k hk _ => Below.heap_alloc w.drew _ k hk⟩) (Nat.le_refl _) (fun k e => by cases e)
end Go.Proofs.Ytgflbidagdcfmaa

namespace Go.Proofs.Ytgflbidagdcfmaa
open Go.RowKit

section
variable {P : Program} {l : List Oper} {n : Nat} {a0 : Act} {w0 : World}
abbrev JTriv (l : List Oper) (n : Nat) (a0 : Act) (w0 : World) (u : Nat → Value) (listed : Array Bool) (a : Act) : Prop := JInv l n a0 w0 (fun _ _ _ => True) (fun _ => false) u listed a w0

/-- What is asked of operation i: whatever has run (all that it waits for, among it), from the invariant to the invariant. -/
def CStep (P : Program) (l : List Oper) (n : Nat) (a0 : Act) (I : (Nat → Bool) → (Nat → Value) → World → Prop) (i : Nat) (o : Oper) : Prop :=
  ∀ (L : Nat → Bool) (u : Nat → Value) (w : World), L i = false → (∀ j, j < n → waits l.toArray i j = true → L j = true) → I L u w →
    if Region.wanted o (yielded l.toArray (frm (l.take n) u 0 a0).tmps) then
      gives P (fun v w' => I (fun j => if j = i then true else L j) (fun j => if j = i then v else u j) w') ((execOp (frm (l.take n) u 0 a0).eval o).run P w)
    else I (fun j => if j = i then true else L j) (fun j => if j = i then undef else u j) w

theorem cstep_run {I : (Nat → Bool) → (Nat → Value) → World → Prop} {i : Nat} {o : Oper} (h : ∀ (L : Nat → Bool) (u : Nat → Value) (w : World), L i = false → (∀ j, j < n → waits l.toArray i j = true → L j = true) → I L u w →
    Region.wanted o (yielded l.toArray (frm (l.take n) u 0 a0).tmps) = true ∧ ∃ v w', (execOp (frm (l.take n) u 0 a0).eval o).run P w = .ok (.value v) w' ∧ I (fun j => if j = i then true else L j) (fun j => if j = i then v else u j) w') : CStep P l n a0 I i o := by
  intro L u w hl hw hI
  obtain ⟨h1, v, w', h2, h3⟩ := h L u w hl hw hI
  rw [if_pos h1, h2]
  exact h3

/-- The one operation among those that writes a slot. -/
def dstOnly (l : List Oper) (t j : Nat) : Bool := (match l[j]? with
    | some o => o.dst == some t
    | none => false) && (List.range l.length).all fun i => i == j || match l[i]? with
    | some p => p.dst != some t
    | none => true
def dstNone (l : List Oper) (t : Nat) : Bool := l.all fun p => p.dst != some t
theorem ev_mine {u : Nat → Value} {a0 : Act} {l : List Oper} {t j : Nat} (h : dstOnly l t j = true) (ht : t < a0.tmps.size) : (frm l u 0 a0).eval (.tmp t) = u j := by
  unfold dstOnly at h
  rw [Bool.and_eq_true] at h
  obtain ⟨h1, h2⟩ := h
  cases hj : l[j]? with
  | none => rw [hj] at h1; cases h1
  | some o =>
    rw [hj] at h1
    have := (frm_spec u l 0 a0).2.2.2 j o t hj (beq_iff_eq.1 h1) (fun i p hi hne => by
      rw [List.all_eq_true] at h2
      have hlt : i < l.length := (List.getElem?_eq_some_iff.1 hi).1
      have := h2 i (List.mem_range.2 hlt)
      rw [hi] at this
      simp only [Bool.or_eq_true, beq_iff_eq, bne_iff_ne] at this
      rcases this with e | e
      · exact absurd e hne
      · exact e) ht
    rw [Nat.zero_add] at this
    show (frm l u 0 a0).tmps.getD t undef = u j
    rw [Array.getD_eq_getD_getElem?, this]
    rfl
theorem ev_rest {u : Nat → Value} {a0 : Act} {l : List Oper} {t : Nat} (h : dstNone l t = true) : (frm l u 0 a0).eval (.tmp t) = a0.eval (.tmp t) := by
  have := (frm_spec u l 0 a0).2.2.1 t (fun j o hj e => by
    unfold dstNone at h
    rw [List.all_eq_true] at h
    have h2 := h o (List.mem_of_getElem? hj)
    rw [e] at h2
    simp at h2)
  show (frm l u 0 a0).tmps.getD t undef = a0.tmps.getD t undef
  rw [Array.getD_eq_getD_getElem?, Array.getD_eq_getD_getElem?, this]
/-- So asked, with nothing known of the frame but what each operand reads as. -/
theorem cstep_ev {I : (Nat → Bool) → (Nat → Value) → World → Prop} {i : Nat} {o : Oper} (hg : o.guard = none)
    (h : ∀ (E : Operand → Value) (L : Nat → Bool) (u : Nat → Value) (w : World), (∀ t j, dstOnly (l.take n) t j = true → t < a0.tmps.size → E (.tmp t) = u j) → (∀ t, dstNone (l.take n) t = true → E (.tmp t) = a0.eval (.tmp t)) → (∀ v, E (.const v) = v) →
      L i = false → (∀ j, j < n → waits l.toArray i j = true → L j = true) → I L u w → gives P (fun v w' => I (fun j => if j = i then true else L j) (fun j => if j = i then v else u j) w') ((execOp E o).run P w)) : CStep P l n a0 I i o := by
  intro L u w hl hw hI
  rw [if_pos (by unfold Region.wanted; rw [hg])]
  exact h _ L u w (fun t j hd ht => ev_mine hd ht) (fun t hd => ev_rest hd) (fun _ => rfl) hl hw hI
theorem prefix_inv {Q : Exit → Act → World → Prop} {I : (Nat → Bool) → (Nat → Value) → World → Prop} (hn : n ≤ l.length) (hok : JOk l n [])
    (hstep : ∀ (i : Nat) (o : Oper), i < n → l[i]? = some o → CStep P l n a0 I i o)
    (htail : ∀ (L : Nat → Bool) (u : Nat → Value) (w : World), (∀ j, j < n → L j = true) → I L u w → wpList P l.toArray Q (l.drop n) (frm (l.take n) u 0 a0) w) :
    ∀ (m fuel : Nat) (u : Nat → Value) (listed : Array Bool) (a : Act) (w : World), left n listed ≤ m → m + (l.length - n) ≤ fuel → JTriv l n a0 w0 u listed a → I (fun j => listed.getD j false) u w → wpAny P .any l.toArray Q fuel listed a w := by
  have ending : ∀ (fuel : Nat) (u : Nat → Value) (listed : Array Bool) (a : Act) (w : World), (l.length - n) ≤ fuel → JTriv l n a0 w0 u listed a → I (fun j => listed.getD j false) u w → (∀ j, j < n → listed.getD j false = true) → wpAny P .any l.toArray Q fuel listed a w := by
    intro fuel u listed a w hf hI hinv hall
    have ha := hI.whole hok hn hall
    refine tail_any (n := n) hok.back (fun i h1 h2 j h3 h4 => hok.tail i h1 h2 j h4 (by simp)) fuel n listed a w (Nat.le_refl _) hn (by omega) hI.shut (fun j hj => ?_) ?_
    · by_cases h : j < n
      · rw [hall j h]; simp [h]
      · rw [hI.notail j (by omega) hj]; simp [h]
    · rw [ha]
      exact htail _ u w hall hinv
  intro m
  induction m with
  | zero =>
    intro fuel u listed a w hm hf hI hinv
    refine ending fuel u listed a w (by omega) hI hinv (fun j hj => ?_)
    cases h : listed.getD j false with
    | true => rfl
    | false =>
      exfalso
      have hmem : j ∈ (List.range n).filter fun j => !listed.getD j false := by simp [List.mem_filter, hj]; simpa using h
      have : (List.range n).filter (fun j => !listed.getD j false) = [] := List.length_eq_zero_iff.1 (by unfold left at hm; omega)
      rw [this] at hmem; cases hmem
  | succ m ih =>
    intro fuel u listed a w hm hf hI hinv
    have hlt : ∀ j, j < n → j < listed.size := fun j hj => by rw [hI.shut.size]; simp; omega
    by_cases hall : ∀ j, j < n → listed.getD j false = true
    · exact ending fuel u listed a w (by omega) hI hinv hall
    obtain ⟨fuel, rfl⟩ : ∃ f, fuel = f + 1 := ⟨fuel - 1, by omega⟩
    have hex : ∃ j, j < n ∧ listed.getD j false = false ∧ ∀ k, k < j → listed.getD k false = true := by
      apply Classical.byContradiction
      intro hno
      refine hall fun j => ?_
      induction j using Nat.strongRecOn with
      | ind j ihj =>
        intro hj
        cases h : listed.getD j false with
        | true => rfl
        | false => exact absurd ⟨j, hj, h, fun k hk => ihj k hk (by omega)⟩ hno
    obtain ⟨j0, hj0, hj0l, hj0k⟩ := hex
    have hj0o : l[j0]? = some (l[j0]'(by omega)) := List.getElem?_eq_getElem (by omega)
    have hd0 : ∀ e ∈ (l[j0]'(by omega)).after, Region.binds .any e = true → listed.getD e.on false = true := fun e he hb => hj0k _ (hok.back j0 _ hj0o e he hb)
    have hr0 : j0 ∈ Region.ready .any l.toArray listed := mem_ready.2 ⟨by rw [getD_flip (hlt j0 hj0) true false]; exact hj0l, _, by rw [List.getElem?_toArray]; exact hj0o, hd0⟩
    refine ⟨fun h0 => (by rw [h0] at hr0; cases hr0), fun i hi => ?_⟩
    obtain ⟨hun, o, ho, hd⟩ := mem_ready.1 hi
    have hil : i < l.length := by
      rcases Nat.lt_or_ge i l.length with h | h
      · exact h
      · simp [List.getElem?_eq_none h] at ho
    have hol : l[i]? = some o := by simpa using ho
    have hun' : listed.getD i false = false := by rw [← getD_flip (by rw [hI.shut.size]; simp; exact hil) true false]; exact hun
    have hin : i < n := by
      rcases Nat.lt_or_ge i n with h | h
      · exact h
      · exfalso
        exact hall fun j hj => coverX_listed hI.shut i j o ho hd (hok.tail i h hil j (by omega) (by simp))
    have hlook := look_same hn hok hI hin hol hd
    have hs := hstep i o hin hol (fun j => listed.getD j false) u w hun' (fun j hj hw => waits_listed ho hd hw) hinv
    have hsel := fun cs b => Region.noSelect_spec hok.sel i o cs b ho
    have hset : (fun j => (listed.setIfInBounds i true).getD j false) = fun j => if j = i then true else listed.getD j false := by
      funext j
      by_cases h : j = i
      · subst h
        have := hlt j hin
        simp [this]
      · rw [if_neg h, getD_set_ne false (Ne.symm h)]
    unfold wpOp
    simp only [ho]
    rw [wanted_same hlook]
    have go : ∀ v w', I (fun j => if j = i then true else listed.getD j false) (fun j => if j = i then v else u j) w' →
        wpAny P .any l.toArray Q fuel (listed.setIfInBounds i true) (a.put o.dst v) w' := fun v w' h =>
      ih fuel _ _ _ _ (by have := left_set hin (hlt i hin) hun'; omega) (by omega) (hI.next hok (fun _ _ _ _ _ _ => trivial) hin hn hol hun' hd (Below.refl _ _) trivial (fun h => by cases h)) (by rw [hset]; exact h)
    split
    · rename_i hwant
      rw [if_pos hwant] at hs
      refine .inl ?_
      unfold Oper.wp
      rw [exec_same hsel hlook]
      exact upon_of_gives hs fun v w' h => go v w' h
    · rename_i hwant
      rw [if_neg hwant] at hs
      exact go undef w hs

/-- A REGION THAT DRAWS ITS ORDER, BY AN INVARIANT OF WHAT HAS RUN: the first n operations in whatever order; then the tail. -/
theorem wp_region_C {id : Nat} {Q : Exit → Act → World → Prop} (n : Nat) (I : (Nat → Bool) → (Nat → Value) → World → Prop) (hm : P.follows .mixedOrders = true) (hn : n ≤ l.length) (hok : jOk l n [] = true)
    (hstart : I (fun _ => false) (fun _ => undef) w0.drew)
    (hstep : ∀ (i : Nat) (o : Oper), i < n → l[i]? = some o → CStep P l n a0 I i o)
    (htail : ∀ (L : Nat → Bool) (u : Nat → Value) (w : World), (∀ j, j < n → L j = true) → I L u w → wpList P l.toArray Q (l.drop n) (frm (l.take n) u 0 a0) w) :
    (Code.region id l.toArray true).wp P Q a0 w0 := by
  have hok' := jOk_spec hok
  refine wp_region_any hm ?_
  have hun : ∀ j, (Array.replicate l.toArray.size false).getD j false = false := fun j => by
    simp only [Array.getD_eq_getD_getElem?, Array.getElem?_replicate]; split <;> rfl
  refine prefix_inv (w0 := w0) hn hok' hstep htail n l.toArray.size (fun _ => undef) _ a0 _ ?_ (by simp; omega) ?_ ?_
  · unfold left
    exact Nat.le_trans (List.length_filter_le _ _) (by simp)
  · have no : ∀ (j : Nat) (q : Prop), (Array.replicate l.toArray.size false).getD j false = true → q := fun j q h => by rw [hun] at h; cases h
    exact {
      shut := ⟨by simp, fun i o _ h => no i _ h⟩
      notail := fun j _ _ => hun j
      size := rfl
      defers := rfl
      mine := fun j o t _ _ h => no j _ h
      rest := fun _ _ => rfl
      past := Below.refl _ _
      facts := fun j _ h => no j _ h
      fresh := fun j _ h => no j _ h
      apart := fun i j _ _ _ h => no i _ h }
  · have : (fun j => (Array.replicate l.toArray.size false).getD j false) = fun _ => false := funext hun
    rw [this]
    exact hstart
end
end Go.Proofs.Ytgflbidagdcfmaa

namespace Go.Proofs.Ytgflbidagdcfmaa
open Go.ChangeShapes Go.WideShapes Go.ChangeAt Go.RowKit

/-- A slice value of so many elements whose cells are these. -/
def SrcV (w : World) (sz : Nat) (v : Value) (n : Nat) (ys : List Value) : Prop :=
  ∃ (a : Option Addr) (cap : Nat), v = .slice a n cap ∧ (a = none → n = 0 ∧ cap = 0) ∧ ys.length = n * sz ∧ (∀ u ∈ ys, u.oneCell' = true) ∧ ∀ ad, a = some ad → ∀ j u, ys[j]? = some u → w.cell? (ad.add j) = some u
theorem srcV_nil (w : World) (sz : Nat) : SrcV w sz (.slice none 0 0) 0 [] := ⟨none, 0, rfl, fun _ => ⟨rfl, rfl⟩, by simp, (fun u h => by cases h), (fun ad h => by cases h)⟩
theorem srcV_new {w : World} {p sz n cap : Nat} {ys : List Value} {t : TypeId} (h : Blk w p ys.toArray t) (hl : ys.length = n * sz) (h1 : ∀ u ∈ ys, u.oneCell' = true) : SrcV w sz (.slice (some ⟨p, 0, none⟩) n cap) n ys := by
  refine ⟨_, cap, rfl, fun h => by simp at h, hl, h1, ?_⟩
  rintro ad ⟨⟩ j u hu
  have e : ((⟨p, 0, none⟩ : Addr).add j) = ⟨p, j, none⟩ := by
    unfold Addr.add
    by_cases c : j = 0
    · subst c; simp
    · simp [c]
  rw [e, h.cell j, ← hu]
  simp
theorem wp_appV {P : Program} {o : Oper} {a : Act} {w : World} {K : Act → World → Prop} {Q : Exit → Act → World → Prop}
    (s x : Operand) (t : TypeId) (hop : o.op = Op.call { callee := Callee.builtin Builtin.append, args := #[s, x], argTypes := #[t, t] })
    (base : Nat) (e : TypeId) (i : TypeInfo) (z : Value) (sz by' : Nat) (ht : P.underlying t = some (.slice e)) (hi : P.info? e = some i) (hz : i.zero = some z) (hsize : i.size = sz) (hby : i.bytes = by') (hzs : z.cells.size = sz) (hs0 : 0 < sz)
    (v : Value) (n : Nat) (xs : List Value) (hs : a.eval s = v) (hown : w.ownsRow base e sz v n xs)
    (vx : Value) (m : Nat) (ys : List Value) (hx : a.eval x = vx) (hsrc : SrcV w sz vx m ys)
    (h63 : n + m ≤ 1099511627776) (hb' : by' ≤ 100) (hbase : base ≤ w.heap.size)
    (h : ∀ v' w', w'.ownsRow base e sz v' (n + m) (xs ++ ys) → w.grownBy w' v.ownBlock → K (a.put o.dst v') w') : Oper.wp P o a w K Q := by
  obtain ⟨ad, cap, rfl, hn, hl, h1, hc⟩ := hsrc
  cases ad with
  | none =>
    obtain ⟨rfl, rfl⟩ := hn rfl
    have hy : ys = [] := List.eq_nil_of_length_eq_zero (by omega)
    subst hy
    have hrun := run_append_owned_none (P := P) (w := w) base t o.type e i sz ht hi v n xs hown
    have hK := h v w (by simpa using hown) ⟨rfl, rfl, rfl, Nat.le_refl _, fun _ _ _ => rfl⟩
    unfold Oper.wp
    simp [execOp, hop, resolve, invoke, builtin, hs, hx, hrun, Result.andThen]
    exact hK
  | some ad =>
    have hbb : (n + m) * by' ≤ (n + m) * 100 := Nat.mul_le_mul_left _ hb'
    exact wp_append_own w s x t hop base e i z sz by' ht hi hz hsize hby hzs hs0 v n xs hs hown ad m cap ys hx hl (hc ad rfl) h1 (by unfold maxLen; omega) (by omega) hbase fun v' w' h1 h2 _ => h v' w' h1 h2
/-- For a region in the text's order. -/
theorem list_appV {P : Program} {ops : Array Oper} {rest : List Oper} {o : Oper} {a : Act} {w : World} {Q : Exit → Act → World → Prop} (hgd : o.guard = none) (s x : Operand) (t : TypeId)
    (ho : o.op = .call { callee := .builtin .append, args := #[s, x], argTypes := #[t, t] })
    (base : Nat) (e : TypeId) (i : TypeInfo) (z : Value) (sz by' : Nat) (ht : P.underlying t = some (.slice e)) (hi : P.info? e = some i) (hz : i.zero = some z) (hsize : i.size = sz) (hby : i.bytes = by') (hzs : z.cells.size = sz) (hs0 : 0 < sz)
    (v : Value) (n : Nat) (xs : List Value) (hs : a.eval s = v) (hown : w.ownsRow base e sz v n xs)
    (vx : Value) (m : Nat) (ys : List Value) (hx : a.eval x = vx) (hsrc : SrcV w sz vx m ys)
    (h63 : n + m ≤ 1099511627776) (hb' : by' ≤ 100) (hbase : base ≤ w.heap.size)
    (h : ∀ v' w', w'.ownsRow base e sz v' (n + m) (xs ++ ys) → w.grownBy w' v.ownBlock → wpList P ops Q rest (a.put o.dst v') w') : wpList P ops Q (o :: rest) a w :=
  wpList_plain hgd fun _ hK => wp_appV s x t ho base e i z sz by' ht hi hz hsize hby hzs hs0 v n xs hs hown vx m ys hx hsrc h63 hb' hbase fun v' w' h2 h3 => hK _ _ (h v' w' h2 h3)
/-- For a region that draws its order. -/
theorem step_appV {P : Program} {ops : Array Oper} {o : Oper} {a : Act} {w : World} {K : Act → World → Prop} {Q : Exit → Act → World → Prop} {E : Prop}
    (hg : o.guard = none) (s x : Operand) (t : TypeId) (hop : o.op = Op.call { callee := Callee.builtin Builtin.append, args := #[s, x], argTypes := #[t, t] })
    (base : Nat) (e : TypeId) (i : TypeInfo) (z : Value) (sz by' : Nat) (ht : P.underlying t = some (.slice e)) (hi : P.info? e = some i) (hz : i.zero = some z) (hsize : i.size = sz) (hby : i.bytes = by') (hzs : z.cells.size = sz) (hs0 : 0 < sz)
    (v : Value) (n : Nat) (xs : List Value) (hs : a.eval s = v) (hown : w.ownsRow base e sz v n xs)
    (vx : Value) (m : Nat) (ys : List Value) (hx : a.eval x = vx) (hsrc : SrcV w sz vx m ys)
    (h63 : n + m ≤ 1099511627776) (hb' : by' ≤ 100) (hbase : base ≤ w.heap.size)
    (h : ∀ v' w', w'.ownsRow base e sz v' (n + m) (xs ++ ys) → w.grownBy w' v.ownBlock → K (a.put o.dst v') w') :
    if Region.wanted o (yielded ops a.tmps) = true then Oper.wp P o a w K Q else E := by
  have hw : Region.wanted o (yielded ops a.tmps) = true := by simp [Region.wanted, hg]
  rw [if_pos hw]
  exact wp_appV s x t hop base e i z sz by' ht hi hz hsize hby hzs hs0 v n xs hs hown vx m ys hx hsrc h63 hb' hbase h
end Go.Proofs.Ytgflbidagdcfmaa

namespace Go.Proofs.Ytgflbidagdcfmaa
open Go.ChangeShapes Go.WideShapes Go.ChangeAt Go.RowKit

abbrev upB (L : Nat → Bool) (i : Nat) : Nat → Bool := fun j => if j = i then true else L j
abbrev upV (u : Nat → Value) (i : Nat) (v : Value) : Nat → Value := fun j => if j = i then v else u j
/-- What holds while the operations run: the fixed values; the row, as far as it has got. -/
structure ApI (tp : TypeId) (sz : Nat) (W0 : World) (D : Nat → Option Value) (pB p1 p2 k n m : Nat) (cX c1 c2 : List Value) (L : Nat → Bool) (u : Nat → Value) (w : World) : Prop where
  bel : Below W0.heap.size W0 w
  det : ∀ j v, D j = some v → L j = true → u j = v
  o1 : L p1 = true → L pB = true
  o2 : L p2 = true → L p1 = true
  rB : L pB = true → L p1 = false → w.ownsRow W0.heap.size tp sz (u pB) k cX
  r1 : L p1 = true → L p2 = false → w.ownsRow W0.heap.size tp sz (u p1) (k + n) (cX ++ c1)
  r2 : L p2 = true → w.ownsRow W0.heap.size tp sz (u p2) (k + n + m) (cX ++ c1 ++ c2)
/-- The three places are apart, and none has a fixed value. -/
def ApOk (D : Nat → Option Value) (pB p1 p2 : Nat) : Prop := (pB ≠ p1 ∧ pB ≠ p2 ∧ p1 ≠ p2) ∧ D pB = none ∧ D p1 = none ∧ D p2 = none
section
variable {tp : TypeId} {sz : Nat} {W0 : World} {D : Nat → Option Value} {pB p1 p2 k n m : Nat} {cX c1 c2 : List Value} {L : Nat → Bool} {u : Nat → Value} {w w' : World}
theorem apI_start (hb : Below W0.heap.size W0 w) : ApI tp sz W0 D pB p1 p2 k n m cX c1 c2 (fun _ => false) (fun _ => undef) w :=
  ⟨hb, fun j v _ h => (by cases h), fun h => (by cases h), fun h => (by cases h), fun h => (by cases h), fun h => (by cases h), fun h => (by cases h)⟩
theorem ApI.ndet (h : ApI tp sz W0 D pB p1 p2 k n m cX c1 c2 L u w) (hk : ApOk D pB p1 p2) {i : Nat} {v : Value} (hd : D i = some v) (hb : Below w.heap.size w w') : ApI tp sz W0 D pB p1 p2 k n m cX c1 c2 (upB L i) (upV u i v) w' := by
  have iB : pB ≠ i := fun e => by rw [← e, hk.2.1] at hd; cases hd
  have i1 : p1 ≠ i := fun e => by rw [← e, hk.2.2.1] at hd; cases hd
  have i2 : p2 ≠ i := fun e => by rw [← e, hk.2.2.2] at hd; cases hd
  refine ⟨h.bel.trans (hb.mono h.bel.size), fun j x hx hj => ?_, ?_, ?_, ?_, ?_, ?_⟩
  · by_cases c : j = i
    · subst c
      rw [hd] at hx; cases hx
      simp [upV]
    · simp only [upB, upV, if_neg c] at hj ⊢; exact h.det j x hx hj
  · simp only [upB, if_neg i1, if_neg iB]; exact h.o1
  · simp only [upB, if_neg i1, if_neg i2]; exact h.o2
  · simp only [upB, upV, if_neg i1, if_neg iB]; exact fun a b => own_below (h.rB a b) hb
  · simp only [upB, upV, if_neg i1, if_neg i2]; exact fun a b => own_below (h.r1 a b) hb
  · simp only [upB, upV, if_neg i2]; exact fun a => own_below (h.r2 a) hb
theorem ApI.nbuild (h : ApI tp sz W0 D pB p1 p2 k n m cX c1 c2 L u w) (hk : ApOk D pB p1 p2) (hl : L pB = false) {v : Value} (ho : w'.ownsRow W0.heap.size tp sz v k cX) (hb : Below w.heap.size w w') : ApI tp sz W0 D pB p1 p2 k n m cX c1 c2 (upB L pB) (upV u pB v) w' := by
  obtain ⟨⟨a1, a2, a3⟩, b1, b2, b3⟩ := hk
  have l1 : L p1 = false := by
    cases e : L p1 with
    | false => rfl
    | true => rw [h.o1 e] at hl; cases hl
  have l2 : L p2 = false := by
    cases e : L p2 with
    | false => rfl
    | true => rw [h.o2 e] at l1; cases l1
  refine ⟨h.bel.trans (hb.mono h.bel.size), fun j x hx hj => ?_, ?_, ?_, ?_, ?_, ?_⟩
  · by_cases c : j = pB
    · subst c; rw [b1] at hx; cases hx
    · simp only [upB, upV, if_neg c] at hj ⊢; exact h.det j x hx hj
  · simp [upB]
  · simp only [upB, if_neg (Ne.symm a2), if_neg (Ne.symm a1), l2]; exact fun e => by cases e
  · intro _ _; simpa [upV] using ho
  · simp only [upB, if_neg (Ne.symm a1), l1]; exact fun e => by cases e
  · simp only [upB, if_neg (Ne.symm a2), l2]; exact fun e => by cases e
theorem ApI.napp1 (h : ApI tp sz W0 D pB p1 p2 k n m cX c1 c2 L u w) (hk : ApOk D pB p1 p2) (hl : L p1 = false) (hB : L pB = true) {v : Value} (ho : w'.ownsRow W0.heap.size tp sz v (k + n) (cX ++ c1)) (hg : w.grownBy w' (u pB).ownBlock) : ApI tp sz W0 D pB p1 p2 k n m cX c1 c2 (upB L p1) (upV u p1 v) w' := by
  obtain ⟨⟨a1, a2, a3⟩, b1, b2, b3⟩ := hk
  have l2 : L p2 = false := by
    cases e : L p2 with
    | false => rfl
    | true => rw [h.o2 e] at hl; cases hl
  have hrow := h.rB hB hl
  refine ⟨Below.grown h.bel hg h.bel.size (fun j e => own_block hrow e), fun j x hx hj => ?_, ?_, ?_, ?_, ?_, ?_⟩
  · by_cases c : j = p1
    · subst c; rw [b2] at hx; cases hx
    · simp only [upB, upV, if_neg c] at hj ⊢; exact h.det j x hx hj
  · simp [upB, hB]
  · simp [upB]
  · simp [upB]
  · intro _ _; simpa [upV] using ho
  · simp only [upB, if_neg (Ne.symm a3), l2]; exact fun e => by cases e
theorem ApI.napp2 (h : ApI tp sz W0 D pB p1 p2 k n m cX c1 c2 L u w) (hk : ApOk D pB p1 p2) (hl : L p2 = false) (h1 : L p1 = true) {v : Value} (ho : w'.ownsRow W0.heap.size tp sz v (k + n + m) (cX ++ c1 ++ c2)) (hg : w.grownBy w' (u p1).ownBlock) : ApI tp sz W0 D pB p1 p2 k n m cX c1 c2 (upB L p2) (upV u p2 v) w' := by
  obtain ⟨⟨a1, a2, a3⟩, b1, b2, b3⟩ := hk
  have hrow := h.r1 h1 hl
  refine ⟨Below.grown h.bel hg h.bel.size (fun j e => own_block hrow e), fun j x hx hj => ?_, ?_, ?_, ?_, ?_, ?_⟩
  · by_cases c : j = p2
    · subst c; rw [b3] at hx; cases hx
    · simp only [upB, upV, if_neg c] at hj ⊢; exact h.det j x hx hj
  · simp only [upB, if_neg a2, if_neg a3]; exact h.o1
  · simp [upB, h1]
  · simp only [upB, if_neg a3, h1]; exact fun _ e => by cases e
  · simp [upB]
  · intro _; simpa [upV] using ho
end
theorem cstep_evF {P : Program} {l : List Oper} {n : Nat} {a0 : Act} {I : (Nat → Bool) → (Nat → Value) → World → Prop} {i : Nat} {o : Oper} (hg : o.guard = none)
    (h : ∀ (E : Operand → Value) (L : Nat → Bool) (u : Nat → Value) (w : World), (∀ t j, dstOnly (l.take n) t j = true → t < a0.tmps.size → E (.tmp t) = u j) → (∀ t, dstNone (l.take n) t = true → E (.tmp t) = a0.eval (.tmp t)) → (∀ v, E (.const v) = v) → (∀ f, E (.func f) = .func (.func f) #[] #[]) →
      L i = false → (∀ j, j < n → waits l.toArray i j = true → L j = true) → I L u w → gives P (fun v w' => I (fun j => if j = i then true else L j) (fun j => if j = i then v else u j) w') ((execOp E o).run P w)) : CStep P l n a0 I i o := by
  intro L u w hl hw hI
  rw [if_pos (by unfold Region.wanted; rw [hg])]
  exact h _ L u w (fun t j hd ht => ev_mine hd ht) (fun t hd => ev_rest hd) (fun _ => rfl) (fun _ => rfl) hl hw hI
/-- The same with one row alone. -/
def Ap1 (tp : TypeId) (sz : Nat) (W0 : World) (D : Nat → Option Value) (pB p1 k n : Nat) (cX c1 : List Value) (L : Nat → Bool) (u : Nat → Value) (w : World) : Prop := ApI tp sz W0 D pB p1 999 k n 0 cX c1 [] L u w ∧ L 999 = false
section
variable {tp : TypeId} {sz : Nat} {W0 : World} {D : Nat → Option Value} {pB p1 k n : Nat} {cX c1 : List Value} {L : Nat → Bool} {u : Nat → Value} {w w' : World}
theorem ap1_start (hb : Below W0.heap.size W0 w) : Ap1 tp sz W0 D pB p1 k n cX c1 (fun _ => false) (fun _ => undef) w := ⟨apI_start hb, rfl⟩
theorem Ap1.bel (h : Ap1 tp sz W0 D pB p1 k n cX c1 L u w) : Below W0.heap.size W0 w := h.1.bel
theorem Ap1.det (h : Ap1 tp sz W0 D pB p1 k n cX c1 L u w) : ∀ j v, D j = some v → L j = true → u j = v := h.1.det
theorem Ap1.rB (h : Ap1 tp sz W0 D pB p1 k n cX c1 L u w) : L pB = true → L p1 = false → w.ownsRow W0.heap.size tp sz (u pB) k cX := h.1.rB
theorem Ap1.r1 (h : Ap1 tp sz W0 D pB p1 k n cX c1 L u w) (h1 : L p1 = true) : w.ownsRow W0.heap.size tp sz (u p1) (k + n) (cX ++ c1) := h.1.r1 h1 h.2
theorem Ap1.ndet (h : Ap1 tp sz W0 D pB p1 k n cX c1 L u w) (hk : ApOk D pB p1 999) {i : Nat} {v : Value} (hd : D i = some v) (hb : Below w.heap.size w w') : Ap1 tp sz W0 D pB p1 k n cX c1 (upB L i) (upV u i v) w' :=
  ⟨h.1.ndet hk hd hb, by
    have : ¬ 999 = i := fun e => by rw [← e, hk.2.2.2] at hd; cases hd
    simp only [upB, if_neg this]; exact h.2⟩
theorem Ap1.nbuild (h : Ap1 tp sz W0 D pB p1 k n cX c1 L u w) (hk : ApOk D pB p1 999) (hl : L pB = false) {v : Value} (ho : w'.ownsRow W0.heap.size tp sz v k cX) (hb : Below w.heap.size w w') : Ap1 tp sz W0 D pB p1 k n cX c1 (upB L pB) (upV u pB v) w' :=
  ⟨h.1.nbuild hk hl ho hb, by simp only [upB, if_neg (Ne.symm hk.1.2.1)]; exact h.2⟩
theorem Ap1.napp1 (h : Ap1 tp sz W0 D pB p1 k n cX c1 L u w) (hk : ApOk D pB p1 999) (hl : L p1 = false) (hB : L pB = true) {v : Value} (ho : w'.ownsRow W0.heap.size tp sz v (k + n) (cX ++ c1)) (hg : w.grownBy w' (u pB).ownBlock) : Ap1 tp sz W0 D pB p1 k n cX c1 (upB L p1) (upV u p1 v) w' :=
  ⟨h.1.napp1 hk hl hB ho hg, by simp only [upB, if_neg (Ne.symm hk.1.2.2)]; exact h.2⟩
end
/-- An append to a row that is owned, of a slice whose cells are known, asked as wp_region_C asks it. -/
theorem gives_appV {P : Program} {o : Oper} {E : Operand → Value} {w : World} {G : Value → World → Prop} (s x : Operand) (t : TypeId)
    (hop : o.op = Op.call { callee := Callee.builtin Builtin.append, args := #[s, x], argTypes := #[t, t] })
    (base : Nat) (e : TypeId) (i : TypeInfo) (z : Value) (sz by' : Nat) (ht : P.underlying t = some (.slice e)) (hi : P.info? e = some i) (hz : i.zero = some z) (hsize : i.size = sz) (hby : i.bytes = by') (hzs : z.cells.size = sz) (hs0 : 0 < sz)
    (n : Nat) (xs : List Value) (hown : w.ownsRow base e sz (E s) n xs)
    (m : Nat) (ys : List Value) (hsrc : SrcV w sz (E x) m ys)
    (h63 : n + m ≤ 1099511627776) (hb' : by' ≤ 100) (hbase : base ≤ w.heap.size)
    (h : ∀ v' w', w'.ownsRow base e sz v' (n + m) (xs ++ ys) → w.grownBy w' (E s).ownBlock → G v' w') : gives P G ((execOp E o).run P w) := by
  obtain ⟨a, cap, hx, h0, hl, h1, hc⟩ := hsrc
  cases a with
  | none =>
    obtain ⟨rfl, rfl⟩ := h0 rfl
    have hy : ys = [] := List.eq_nil_of_length_eq_zero (by omega)
    subst hy
    have hrun := run_append_owned_none (P := P) (w := w) base t o.type e i sz ht hi (E s) n xs hown
    have hK := h (E s) w (by simpa using hown) ⟨rfl, rfl, rfl, Nat.le_refl _, fun _ _ _ => rfl⟩
    unfold execOp
    simp [hop, resolve, invoke, builtin, hx, hrun, Result.andThen, gives]
    exact hK
  | some ad =>
    have hbb : (n + m) * by' ≤ (n + m) * 100 := Nat.mul_le_mul_left _ hb'
    obtain ⟨v', w', hr, h2, h3, h4⟩ := run_append_own (P := P) w base t o.type e i z sz by' ht hi hz hsize hby hzs hs0 (E s) n xs hown ad m cap ys hl (hc ad rfl) h1 (by unfold maxLen; omega) (by omega) hbase
    unfold execOp
    simp only [hop, resolve, invoke, builtin, Sem.run_bind, Sem.run_pure, Result.andThen_ok, List.map_toArray, List.map_cons, List.map_nil, hx, hr]
    exact h v' w' h2 h3
theorem gives_ok {P : Program} {G : Value → World → Prop} {r : Result Next} {v : Value} {w' : World} (h : r = .ok (.value v) w') (hG : G v w') : gives P G r := by rw [h]; exact hG
theorem gives_call {P : Program} {G : Value → World → Prop} {r : Result Next} {f : Nat} {args : Array Value} {w' : World} {C : Ending → World → Prop} (h : r = .ok (.enter f args) w') (hc : Calls P f args w' C) (hG : ∀ e w2, C e w2 → ∃ v, e = .returned v ∧ G v w2) : gives P G r := by
  rw [h]; exact hc.mono fun e w2 q => hG e w2 q
end Go.Proofs.Ytgflbidagdcfmaa

namespace Go.Proofs.Ytgflbidagdcfmaa
open Go.ChangeShapes Go.WideShapes Go.ChangeAt Go.RowKit

theorem srcV_grown {w w' : World} {sz n : Nat} {v : Value} {ys : List Value} {r : Option Nat} (h : SrcV w sz v n ys) (hz : ∀ k, v.ownBlock = some k → k < w.heap.size) (hg : w.grownBy w' r) (hne : ∀ k, v.ownBlock = some k → r ≠ some k) : SrcV w' sz v n ys := by
  obtain ⟨a, cap, rfl, h0, h1, h2, h3⟩ := h
  refine ⟨a, cap, rfl, h0, h1, h2, fun ad e j u hu => ?_⟩
  subst e
  have hb : (ad.add j).block = ad.block := by unfold Addr.add; split <;> rfl
  have hk : w'.heap[ad.block]? = w.heap[ad.block]? := hg.block _ (hz ad.block rfl) (fun e => hne ad.block rfl e.symm)
  exact (World.cell?_of_block (a := ad.add j) (by rw [hb]; exact hk)).trans (h3 ad rfl j u hu)
theorem grown_below {w w' : World} (h : Below w.heap.size w w') : w.grownBy w' none := ⟨h.os, h.tape, h.output, h.size, fun k hk _ => h.block k hk⟩
theorem srcV_pastC {w w' : World} {sz n : Nat} {v : Value} {ys : List Value} (h : SrcV w sz v n ys) (hz : ∀ k, v.ownBlock = some k → k < w.heap.size) (hb : Below w.heap.size w w') : SrcV w' sz v n ys := srcV_grown h hz (grown_below hb) (fun k _ e => by cases e)
/-- A row that is owned can be copied. -/
theorem srcV_own {w : World} {B sz n : Nat} {e : TypeId} {v : Value} {xs : List Value} (h : w.ownsRow B e sz v n xs) (h1 : ∀ u ∈ xs, u.oneCell' = true) : SrcV w sz v n xs := by
  obtain ⟨h2, h3 | ⟨g, cap, cur, rfl, h4, h5, h6, h7, h8, h9⟩⟩ := id h
  · obtain ⟨rfl, rfl⟩ := h3
    have : xs = [] := List.eq_nil_of_length_eq_zero (by simpa using h2)
    subst this
    exact srcV_nil _ _
  · refine ⟨_, cap, rfl, fun e => (by cases e), h2, h1, fun ad e j u hu => ?_⟩
    cases e
    exact h.cells (g := g) rfl j u hu

/-- The places are apart. -/
def ChOk (D : Nat → Option Value) (Pl sl : Nat → Nat) (N : Nat) : Prop :=
  (∀ i, i ≤ N → D (Pl i) = none) ∧ (∀ j, D (sl j) = none) ∧ (∀ i k, i ≤ N → k ≤ N → Pl i = Pl k → i = k) ∧ (∀ i j, i ≤ N → Pl i ≠ sl j)
/-- What holds while the operations run: the fixed values; the row, as far as it has got; the sources that have not been used. -/
structure ChI (tp : TypeId) (sz : Nat) (W0 : World) (D : Nat → Option Value) (Pl sl : Nat → Nat) (N : Nat) (nn mm : Nat → Nat) (R C : Nat → List Value) (L : Nat → Bool) (u : Nat → Value) (w : World) : Prop where
  bel : Below W0.heap.size W0 w
  det : ∀ j v, D j = some v → L j = true → u j = v
  ord : ∀ i, i < N → L (Pl (i + 1)) = true → L (Pl i) = true
  row : ∀ i, i ≤ N → L (Pl i) = true → (i < N → L (Pl (i + 1)) = false) → w.ownsRow W0.heap.size tp sz (u (Pl i)) (nn i) (R i)
  src : ∀ j, j ≤ N → L (sl j) = true → L (Pl j) = false → SrcV w sz (u (sl j)) (mm j) (C j) ∧ (∀ k, (u (sl j)).ownBlock = some k → k < w.heap.size) ∧
    ∀ i, i ≤ N → L (Pl i) = true → (i < N → L (Pl (i + 1)) = false) → ∀ k, (u (sl j)).ownBlock = some k → (u (Pl i)).ownBlock ≠ some k
section
variable {tp : TypeId} {sz : Nat} {W0 : World} {D : Nat → Option Value} {Pl sl : Nat → Nat} {N : Nat} {nn mm : Nat → Nat} {R C : Nat → List Value} {L : Nat → Bool} {u : Nat → Value} {w w' : World}
theorem chI_start (hb : Below W0.heap.size W0 w) : ChI tp sz W0 D Pl sl N nn mm R C (fun _ => false) (fun _ => undef) w :=
  ⟨hb, fun j v _ h => (by cases h), fun i _ h => (by cases h), fun i _ h => (by cases h), fun j _ h => (by cases h)⟩
theorem ChI.ndet (h : ChI tp sz W0 D Pl sl N nn mm R C L u w) (hk : ChOk D Pl sl N) {i : Nat} {v : Value} (hd : D i = some v) (hb : Below w.heap.size w w') : ChI tp sz W0 D Pl sl N nn mm R C (upB L i) (upV u i v) w' := by
  have iP : ∀ k, k ≤ N → ¬ Pl k = i := fun k hkN e => by rw [← e, hk.1 k hkN] at hd; cases hd
  have iS : ∀ k, ¬ sl k = i := fun k e => by rw [← e, hk.2.1 k] at hd; cases hd
  refine ⟨h.bel.trans (hb.mono h.bel.size), fun j x hx hj => ?_, fun k hkN => ?_, fun k hkN => ?_, fun j hj => ?_⟩
  · by_cases c : j = i
    · subst c
      rw [hd] at hx; cases hx
      simp [upV]
    · simp only [upB, upV, if_neg c] at hj ⊢; exact h.det j x hx hj
  · simp only [upB, if_neg (iP _ (show k + 1 ≤ N from hkN)), if_neg (iP k (by omega))]; exact h.ord k hkN
  · intro h1 h2
    simp only [upB, upV, if_neg (iP k hkN)] at h1 ⊢
    refine own_below (h.row k hkN h1 fun hlt => ?_) hb
    have := h2 hlt
    simpa only [upB, if_neg (iP _ (show k + 1 ≤ N from hlt))] using this
  · intro h1 h2
    simp only [upB, upV, if_neg (iS j), if_neg (iP j hj)] at h1 h2 ⊢
    obtain ⟨q1, q2, q3⟩ := h.src j hj h1 h2
    refine ⟨srcV_pastC q1 q2 hb, fun k hk' => Nat.lt_of_lt_of_le (q2 k hk') hb.size, fun k hkN h3 h4 => ?_⟩
    simp only [if_neg (iP k hkN)] at h3 ⊢
    refine q3 k hkN h3 fun hlt => ?_
    have := h4 hlt
    simpa only [if_neg (iP _ (show k + 1 ≤ N from hlt))] using this
/-- The row begins. -/
theorem ChI.nbase (h : ChI tp sz W0 D Pl sl N nn mm R C L u w) (hk : ChOk D Pl sl N) (hl : L (Pl 0) = false) {v : Value} (ho : w'.ownsRow W0.heap.size tp sz v (nn 0) (R 0)) (hb : Below w.heap.size w w') (hf : ∀ k, v.ownBlock = some k → w.heap.size ≤ k) :
    ChI tp sz W0 D Pl sl N nn mm R C (upB L (Pl 0)) (upV u (Pl 0) v) w' := by
  have all : ∀ k, k ≤ N → L (Pl k) = false := fun k => by
    induction k with
    | zero => intro _; exact hl
    | succ k ih =>
      intro hk'
      cases e : L (Pl (k + 1)) with
      | false => rfl
      | true =>
        have := h.ord k (by omega) e
        rw [ih (by omega)] at this; cases this
  have iP : ∀ k, k ≤ N → k ≠ 0 → ¬ Pl k = Pl 0 := fun k hkN h0 e => h0 (hk.2.2.1 k 0 hkN (by omega) e)
  have iS : ∀ k, ¬ sl k = Pl 0 := fun k e => hk.2.2.2 0 k (by omega) e.symm
  refine ⟨h.bel.trans (hb.mono h.bel.size), fun j x hx hj => ?_, fun k hkN => ?_, fun k hkN h1 h2 => ?_, fun j hj h1 h2 => ?_⟩
  · by_cases c : j = Pl 0
    · subst c; rw [hk.1 0 (by omega)] at hx; cases hx
    · simp only [upB, upV, if_neg c] at hj ⊢; exact h.det j x hx hj
  · simp only [upB, if_neg (iP (k + 1) hkN (by omega)), all (k + 1) hkN]; exact fun e => by cases e
  · by_cases c : k = 0
    · subst c; simpa [upV] using ho
    · simp only [upB, if_neg (iP k hkN c), all k hkN] at h1; cases h1
  · have hj0 : j ≠ 0 := fun e => by subst e; simp [upB] at h2
    simp only [upB, upV, if_neg (iS j), if_neg (iP j hj hj0)] at h1 h2 ⊢
    obtain ⟨q1, q2, q3⟩ := h.src j hj h1 h2
    refine ⟨srcV_pastC q1 q2 hb, fun k hk' => Nat.lt_of_lt_of_le (q2 k hk') hb.size, fun i hi h3 h4 k hk' e => ?_⟩
    by_cases c : i = 0
    · subst c
      rw [if_pos rfl] at e
      have := hf k e; have := q2 k hk'; omega
    · simp only [if_neg (iP i hi c), all i hi] at h3; cases h3
/-- A source is made. -/
theorem ChI.nsrc (h : ChI tp sz W0 D Pl sl N nn mm R C L u w) (hk : ChOk D Pl sl N) {j : Nat} (hinj : ∀ k, k ≤ N → sl k = sl j → k = j) {v : Value} (hs : SrcV w' sz v (mm j) (C j)) (hz : ∀ k, v.ownBlock = some k → w.heap.size ≤ k ∧ k < w'.heap.size) (hb : Below w.heap.size w w') :
    ChI tp sz W0 D Pl sl N nn mm R C (upB L (sl j)) (upV u (sl j) v) w' := by
  have iP : ∀ k, k ≤ N → ¬ Pl k = sl j := fun k hkN e => hk.2.2.2 k j hkN e
  refine ⟨h.bel.trans (hb.mono h.bel.size), fun i x hx hj => ?_, fun k hkN => ?_, fun k hkN h1 h2 => ?_, fun i hi h1 h2 => ?_⟩
  · by_cases c : i = sl j
    · subst c; rw [hk.2.1 j] at hx; cases hx
    · simp only [upB, upV, if_neg c] at hj ⊢; exact h.det i x hx hj
  · simp only [upB, if_neg (iP _ (show k + 1 ≤ N from hkN)), if_neg (iP k (by omega))]; exact h.ord k hkN
  · simp only [upB, upV, if_neg (iP k hkN)] at h1 ⊢
    refine own_below (h.row k hkN h1 fun hlt => ?_) hb
    have := h2 hlt
    simpa only [upB, if_neg (iP _ (show k + 1 ≤ N from hlt))] using this
  · have back : ∀ k, k ≤ N → (k < N → upB L (sl j) (Pl (k + 1)) = false) → (k < N → L (Pl (k + 1)) = false) := fun k hkN h4 hlt => by
      have := h4 hlt
      simpa only [upB, if_neg (iP _ (show k + 1 ≤ N from hlt))] using this
    by_cases c : sl i = sl j
    · have := hinj i hi c
      subst this
      simp only [upV, if_true]
      refine ⟨hs, fun k hk' => (hz k hk').2, fun k hkN h3 h4 b hb' e => ?_⟩
      simp only [upB, if_neg (iP k hkN)] at h3 e
      have hr := h.row k hkN h3 (back k hkN h4)
      have := own_lt hr e; have := (hz b hb').1; omega
    · simp only [upB, upV, if_neg c, if_neg (iP i hi)] at h1 h2 ⊢
      obtain ⟨q1, q2, q3⟩ := h.src i hi h1 h2
      refine ⟨srcV_pastC q1 q2 hb, fun k hk' => Nat.lt_of_lt_of_le (q2 k hk') hb.size, fun k hkN h3 h4 => ?_⟩
      simp only [if_neg (iP k hkN)] at h3 ⊢
      exact q3 k hkN h3 (back k hkN h4)
/-- The row grows. -/
theorem ChI.napp (h : ChI tp sz W0 D Pl sl N nn mm R C L u w) (hk : ChOk D Pl sl N) {i : Nat} (hi : i < N) (hl : L (Pl (i + 1)) = false) (hp : L (Pl i) = true) {v : Value} (ho : w'.ownsRow W0.heap.size tp sz v (nn (i + 1)) (R (i + 1))) (hg : w.grownBy w' (u (Pl i)).ownBlock)
    (hat : v.ownBlock = (u (Pl i)).ownBlock ∨ v.ownBlock = some w.heap.size) : ChI tp sz W0 D Pl sl N nn mm R C (upB L (Pl (i + 1))) (upV u (Pl (i + 1)) v) w' := by
  have hrow := h.row i (by omega) hp fun _ => hl
  have up : ∀ k, i < k → k ≤ N → L (Pl k) = false := fun k => by
    induction k with
    | zero => intro h1; omega
    | succ k ih =>
      intro h1 h2
      by_cases c : k = i
      · subst c; exact hl
      · cases e : L (Pl (k + 1)) with
        | false => rfl
        | true =>
          have := h.ord k (by omega) e
          rw [ih (by omega) (by omega)] at this; cases this
  have dn : ∀ k, k ≤ i → L (Pl k) = true := fun k hk' => by
    have : ∀ m, m ≤ i → L (Pl (i - m)) = true := fun m => by
      induction m with
      | zero => intro _; exact hp
      | succ m ih =>
        intro hm
        have h1 := ih (by omega)
        have h2 := h.ord (i - (m + 1)) (by omega) (by rw [show i - (m + 1) + 1 = i - m by omega]; exact h1)
        exact h2
    have h1 := this (i - k) (by omega)
    rwa [show i - (i - k) = k by omega] at h1
  have iP : ∀ k, k ≤ N → k ≠ i + 1 → ¬ Pl k = Pl (i + 1) := fun k hkN h0 e => h0 (hk.2.2.1 k (i + 1) hkN (by omega) e)
  have iS : ∀ k, ¬ sl k = Pl (i + 1) := fun k e => hk.2.2.2 (i + 1) k (by omega) e.symm
  refine ⟨Below.grown h.bel hg h.bel.size (fun k e => own_block hrow e), fun j x hx hj => ?_, fun k hkN h1 => ?_, fun k hkN h1 h2 => ?_, fun j hj h1 h2 => ?_⟩
  · by_cases c : j = Pl (i + 1)
    · subst c; rw [hk.1 (i + 1) (by omega)] at hx; cases hx
    · simp only [upB, upV, if_neg c] at hj ⊢; exact h.det j x hx hj
  · by_cases c : k = i + 1
    · subst c; simp [upB]
    · simp only [upB, if_neg (iP k (by omega) c)]
      by_cases c2 : k = i
      · subst c2; exact hp
      · simp only [upB, if_neg (iP (k + 1) hkN (by omega))] at h1
        exact h.ord k hkN h1
  · by_cases c : k = i + 1
    · subst c; simpa [upV] using ho
    · simp only [upB, if_neg (iP k hkN c)] at h1
      by_cases c2 : k < i + 1
      · exfalso
        have := h2 (by omega)
        by_cases c3 : k = i
        · subst c3; simp [upB] at this
        · simp only [upB, if_neg (iP (k + 1) (by omega) (by omega))] at this
          rw [dn (k + 1) (by omega)] at this; cases this
      · rw [up k (by omega) hkN] at h1; cases h1
  · have hji : j ≠ i + 1 := fun e => by subst e; simp [upB] at h2
    simp only [upB, upV, if_neg (iS j), if_neg (iP j hj hji)] at h1 h2 ⊢
    obtain ⟨q1, q2, q3⟩ := h.src j hj h1 h2
    have q3i := q3 i (by omega) hp fun _ => hl
    refine ⟨srcV_grown q1 q2 hg (fun k hk' => q3i k hk'), fun k hk' => Nat.lt_of_lt_of_le (q2 k hk') hg.size, fun k hkN h3 h4 b hb' e => ?_⟩
    by_cases c : k = i + 1
    · subst c
      rw [if_pos rfl] at e
      rcases hat with hat | hat
      · exact q3i b hb' (hat.symm.trans e)
      · rw [hat] at e
        have := q2 b hb'
        cases e; omega
    · simp only [if_neg (iP k hkN c)] at h3
      by_cases c2 : k < i + 1
      · have := h4 (by omega)
        by_cases c3 : k = i
        · subst c3; simp at this
        · simp only [if_neg (iP (k + 1) (by omega) (by omega))] at this
          rw [dn (k + 1) (by omega)] at this; cases this
      · rw [up k (by omega) hkN] at h3; cases h3
end
/-- An append, asked as wp_region_C asks it; and where the row lies behind it. -/
theorem gives_appC {P : Program} {o : Oper} {E : Operand → Value} {w : World} {G : Value → World → Prop} (s x : Operand) (t : TypeId)
    (hop : o.op = Op.call { callee := Callee.builtin Builtin.append, args := #[s, x], argTypes := #[t, t] })
    (base : Nat) (e : TypeId) (i : TypeInfo) (z : Value) (sz by' : Nat) (ht : P.underlying t = some (.slice e)) (hi : P.info? e = some i) (hz : i.zero = some z) (hsize : i.size = sz) (hby : i.bytes = by') (hzs : z.cells.size = sz) (hs0 : 0 < sz)
    (n : Nat) (xs : List Value) (hown : w.ownsRow base e sz (E s) n xs)
    (m : Nat) (ys : List Value) (hsrc : SrcV w sz (E x) m ys)
    (h63 : n + m ≤ 1099511627776) (hb' : by' ≤ 100) (hbase : base ≤ w.heap.size)
    (h : ∀ v' w', w'.ownsRow base e sz v' (n + m) (xs ++ ys) → w.grownBy w' (E s).ownBlock → (v'.ownBlock = (E s).ownBlock ∨ v'.ownBlock = some w.heap.size) → G v' w') : gives P G ((execOp E o).run P w) := by
  obtain ⟨a, cap, hx, h0, hl, h1, hc⟩ := hsrc
  cases a with
  | none =>
    obtain ⟨rfl, rfl⟩ := h0 rfl
    have hy : ys = [] := List.eq_nil_of_length_eq_zero (by omega)
    subst hy
    have hrun := run_append_owned_none (P := P) (w := w) base t o.type e i sz ht hi (E s) n xs hown
    have hK := h (E s) w (by simpa using hown) ⟨rfl, rfl, rfl, Nat.le_refl _, fun _ _ _ => rfl⟩ (.inl rfl)
    unfold execOp
    simp [hop, resolve, invoke, builtin, hx, hrun, Result.andThen, gives]
    exact hK
  | some ad =>
    have hbb : (n + m) * by' ≤ (n + m) * 100 := Nat.mul_le_mul_left _ hb'
    obtain ⟨v', w', hr, h2, h3, h4, h5⟩ := run_append_own_at (P := P) w base t o.type e i z sz by' ht hi hz hsize hby hzs hs0 (E s) n xs hown ad m cap ys hl (hc ad rfl) h1 (by unfold maxLen; omega) (by omega) hbase
    unfold execOp
    simp only [hop, resolve, invoke, builtin, Sem.run_bind, Sem.run_pure, Result.andThen_ok, List.map_toArray, List.map_cons, List.map_nil, hx, hr]
    exact h v' w' h2 h3 h5
end Go.Proofs.Ytgflbidagdcfmaa

namespace Go.Proofs.Ytgflbidagdcfmaa
open Go.ChangeShapes Go.WideShapes Go.ChangeAt Go.RowKit
attribute [local irreducible] Go.Calls

theorem cellsOfV_one : ∀ (l : List (Int × Int)), ∀ u ∈ cellsOfV l, u.oneCell' = true
  | [], u, h => by simp [cellsOfV] at h
  | s :: r, u, h => by
    simp only [cellsOfV, List.mem_cons] at h
    rcases h with rfl | rfl | h
    · rfl
    · rfl
    · exact cellsOfV_one r u h
/-- A slice whose cells are known, in a block that is there. -/
def SrcB (w : World) (sz : Nat) (v : Value) (n : Nat) (ys : List Value) : Prop := SrcV w sz v n ys ∧ ∀ k, v.ownBlock = some k → k < w.heap.size
theorem SrcB.past {w w' : World} {sz n : Nat} {v : Value} {ys : List Value} (h : SrcB w sz v n ys) (hb : Below w.heap.size w w') : SrcB w' sz v n ys :=
  ⟨srcV_pastC h.1 h.2 hb, fun k e => Nat.lt_of_lt_of_le (h.2 k e) hb.size⟩
set_option maxRecDepth 100000 in
theorem growW_c (n : Nat) (hn : n ≤ 1000000) (w : World) : Calls Try.prog 72 #[.slice none 0 0, .int .i64 n] w fun e w' => ∃ v, e = .returned v ∧ w'.ownsRow w.heap.size 24 2 v 0 [] ∧ Below w.heap.size w w' := by
  obtain ⟨ix, hix, hz0, hz1, hz2⟩ := info_parts Try.infoWin
  have HI := hidE hix; have HZ0 := hidE hz0; have HZ1 := hidE hz1; have HZ2 := hidE hz2
  clear hix hz0 hz1 hz2
  by_cases h0 : n = 0
  · subst h0
    go_enter Try.func72, Try.ntmps72
    go_wp2
    go_ret
    exact ⟨_, rfl, own_nil _ _ _, Below.refl _ _⟩
  · have hp : 0 < n := by omega
    have d1 : decide ((n : Int) < 0) = false := decide_eq_false (by omega)
    have d2 : decide ((0 : Int) < (n : Int)) = true := decide_eq_true (by omega)
    have HP := hidE hp
    clear h0 hp
    go_enter Try.func72, Try.ntmps72
    go_wp2_with (at_builtin; go_loud (refine list_appZ rfl (.tmp 20) (.tmp 21) 31 3 rfl w.heap.size 24 ix _ .i64 2 16 Try.underlying31 Try.underlying3 HI.out HZ0.out HZ1.out HZ2.out rfl (by decide) n rfl rfl HP.out (by omega) (by omega) (Nat.le_refl _) ?_); intro bb cap w5 own1 hcap hb5)
    have HO := hidE own1; have HB5 := hidE hb5
    clear own1 hb5
    go_ret
    exact ⟨_, rfl, HO.out, HB5.out⟩
set_option maxRecDepth 100000 in
set_option maxHeartbeats 4000000 in
theorem concatW_c {b n1 n2 c1 c2 : Nat} {a1 a2 : Option Addr} {X Y : List Wn} {t : TypeId} (w : World) (hB : Blk w b #[.slice a1 n1 c1, .slice a2 n2 c2] t) (hn1 : n1 = X.length) (hn2 : n2 = Y.length) (h1 : SrcB w 2 (.slice a1 n1 c1) n1 (cellsOfV X)) (h2 : SrcB w 2 (.slice a2 n2 c2) n2 (cellsOfV Y)) (hl : n1 + n2 ≤ 1000000) :
    Calls Try.prog 50 #[.slice (some ⟨b, 0, none⟩) 2 2] w fun e w' => ∃ v, e = .returned v ∧ w'.ownsRow w.heap.size 24 2 v (X ++ Y).length (cellsOfV (X ++ Y)) ∧ Below w.heap.size w w' := by
  obtain ⟨ix, hix, hz0, hz1, hz2⟩ := info_parts Try.infoWin
  have HI := hidE hix; have HZ0 := hidE hz0; have HZ1 := hidE hz1; have HZ2 := hidE hz2
  clear hix hz0 hz1 hz2
  have HB := hidE hB; have H1 := hidE h1; have H2 := hidE h2; have HL := hidE hl
  have HN1 := hidE hn1; have HN2 := hidE hn2
  have b0 := hB.cell 0; have b1 := hB.cell 1; have bz := hB.lt
  simp at b0 b1
  have hnx : decide ((n1 : Int) < 0) = false := decide_eq_false (by omega)
  have hnn : decide ((n1 : Int) + (n2 : Int) < 0) = false := decide_eq_false (by omega)
  have HG := hidE (fun w => (show Calls Try.prog 72 #[.slice none 0 0, .int .i64 ((n1 : Int) + (n2 : Int))] w fun e w' => ∃ v, e = .returned v ∧ w'.ownsRow w.heap.size 24 2 v 0 [] ∧ Below w.heap.size w w' from by
    have := growW_c (n1 + n2) (by omega) w
    rwa [Int.natCast_add] at this))
  clear hB h1 h2 hn1 hn2
  go_enter Try.func50, Try.ntmps50
  go_wp2
  refine wp_loop_rounds 3 ?_
  rw [rounds_succ]
  go_wp2
  rw [rounds_succ]
  go_wp2
  rw [rounds_succ]
  go_wp2_with fail
  ((with_reducible refine (HG.out _).mono ?_); rintro e w1 ⟨v0, rfl, ho1, hb1⟩)
  have hs1 := H1.out.past hb1
  have hz1 := hb1.size
  have e0 := (hb1.cell bz (p := ⟨b, 0, none⟩)).trans b0; have e1 := (hb1.cell bz (p := ⟨b, 1, none⟩)).trans b1
  have ez : b < w1.heap.size := Nat.lt_of_lt_of_le bz hz1
  obtain ⟨a0, c0, rfl⟩ := own_sli ho1
  have HO1 := hidE ho1; have HB1 := hidE hb1; have HS1 := hidE hs1.1
  clear ho1 hb1 hs1 b0 b1 bz
  go_wp2
  refine wp_loop_rounds 3 ?_
  rw [rounds_succ]
  go_wp2_with (at_builtin; go_loud (refine list_appV rfl (.tmp 31) (.tmp 32) 31 rfl w.heap.size 24 ix _ 2 16 Try.underlying31 HI.out HZ0.out HZ1.out HZ2.out rfl (by decide) (.slice a0 0 c0) 0 [] rfl HO1.out _ n1 (cellsOfV X) rfl HS1.out (by omega) (by omega) hz1 ?_); intro v2 w2 own2 hg2)
  rw [Nat.zero_add, List.nil_append] at own2
  have hb2 : Below w.heap.size w w2 := Below.grown HB1.out hg2 hz1 (fun k e => own_block HO1.out e)
  have hs2 := (H2.out.past hb2).1
  have hz2 := hb2.size
  have f0 := (hb2.cell (p := ⟨b, 0, none⟩) HB.out.lt).trans (HB.out.cell 0); have f1 := (hb2.cell (p := ⟨b, 1, none⟩) HB.out.lt).trans (HB.out.cell 1)
  have fz : b < w2.heap.size := Nat.lt_of_lt_of_le HB.out.lt hz2
  simp at f0 f1
  obtain ⟨a2', c2', rfl⟩ := own_sli own2
  have HO2 := hidE own2; have HB2 := hidE hb2; have HS2' := hidE hs2
  clear own2 hg2 hb2 hs2 e0 e1 ez hz1 HO1 HB1 HS1
  rw [rounds_succ]
  go_wp2_with (at_builtin; go_loud (refine list_appV rfl (.tmp 31) (.tmp 32) 31 rfl w.heap.size 24 ix _ 2 16 Try.underlying31 HI.out HZ0.out HZ1.out HZ2.out rfl (by decide) (.slice a2' n1 c2') n1 (cellsOfV X) rfl HO2.out _ n2 (cellsOfV Y) rfl HS2'.out (by omega) (by omega) hz2 ?_); intro v3 w3 own3 hg3)
  have hb3 : Below w.heap.size w w3 := Below.grown HB2.out hg3 hz2 (fun k e => own_block HO2.out e)
  have hR : w3.ownsRow w.heap.size 24 2 v3 (X ++ Y).length (cellsOfV (X ++ Y)) := by
    rw [List.length_append, cellsOfV_app, ← HN1.out, ← HN2.out]; exact own3
  obtain ⟨a3', c3', rfl⟩ := own_sli own3
  have HR := hidE hR; have HB3 := hidE hb3
  clear own3 hg3 hb3 hR f0 f1 fz hz2 HO2 HB2 HS2'
  rw [rounds_succ]
  go_wp2
  go_ret
  exact ⟨_, rfl, HR.out, HB3.out⟩
end Go.Proofs.Ytgflbidagdcfmaa

namespace Go.Proofs.Ytgflbidagdcfmaa
open Go.RowKit

/-- What a body keeps: whatever lies below n₀, and whatever lay at or beyond n₁. -/
structure Outside (n₀ n₁ : Nat) (W W' : World) : Prop where
  below : Below n₀ W W'
  beyond : ∀ k, n₁ ≤ k → k < W.heap.size → W'.heap[k]? = W.heap[k]?
theorem Outside.refl (n₀ n₁ : Nat) (W : World) : Outside n₀ n₁ W W := ⟨Below.refl _ _, fun _ _ _ => rfl⟩
theorem Outside.trans {n₀ n₁ : Nat} {A B C : World} (h : Outside n₀ n₁ A B) (k : Outside n₀ n₁ B C) : Outside n₀ n₁ A C :=
  ⟨h.below.trans k.below, fun i hi hl => (k.beyond i hi (Nat.lt_of_lt_of_le hl h.below.size)).trans (h.beyond i hi hl)⟩
theorem Outside.of_below {n₀ n₁ : Nat} {A B : World} (h : Below A.heap.size A B) (hn : n₀ ≤ A.heap.size) : Outside n₀ n₁ A B := ⟨h.mono hn, fun k _ hl => h.block k hl⟩
theorem Outside.weak {n₀ n₁ n₁' : Nat} {A B : World} (h : Outside n₀ n₁ A B) (hn : n₁ ≤ n₁') : Outside n₀ n₁' A B := ⟨h.below, fun k hk hl => h.beyond k (by omega) hl⟩
/-- A turn of a block of the caller's own. -/
theorem Outside.of_grown {n₀ n₁ p : Nat} {A B : World} (h : A.grownBy B (some p)) (h0 : n₀ ≤ p) (h1 : p < n₁) (h2 : n₀ ≤ A.heap.size) : Outside n₀ n₁ A B :=
  ⟨⟨h.os, h.tape, h.output, h.size, fun k hk => h.block k (by omega) (fun e => by cases e; omega)⟩, fun k hk hl => h.block k hl (fun e => by cases e; omega)⟩

/-- The contract of an iterator value: it hands on the list S, one after the other, unless a round says 'no more'; whatever the caller's invariants are that speak only of what lay ahead of the iterator's call. -/
def SeqT {α : Type} (P : Program) (gf : Nat) (rb lb : Array Value) (encs : α → Array Value) (n₀ : Nat) (S : List α) (w : World) : Prop :=
  ∀ (l : Nat) (J Jx : List α → World → Prop) (W : World), Below w.heap.size w W →
    (∀ s A B, J s A → Below W.heap.size A B → J s B) → (∀ s A B, Jx s A → Below W.heap.size A B → Jx s B) →
    (∀ pre x W1, J pre W1 → pre ++ [x] <+: S → YieldAt Fence.wide 0 P l (encs x) W1 fun e W' =>
      (e = .returned (.bool true) ∧ J (pre ++ [x]) W' ∧ Outside n₀ W.heap.size W1 W') ∨ (e = .returned (.bool false) ∧ Jx (pre ++ [x]) W')) →
    J [] W →
    Calls P gf (rb ++ #[.func (.yield l) #[] #[]] ++ lb) W fun e W' => (∃ v, e = .returned v) ∧ (J S W' ∨ ∃ pre, pre <+: S ∧ Jx pre W')

/-- How the body of a round may be left. -/
def postT {α : Type} (n₀ n₁ : Nat) (I : List α → World → Prop) (Ix : Code → List α → World → Prop) (xs : List α) (W : World) : Exit → Act → World → Prop
  | .normal, _, W' => Outside n₀ n₁ W W' ∧ I xs W'
  | .ret, _, W' => Outside n₀ n₁ W W' ∧ Ix .ret xs W'
  | .exit id, _, W' => Outside n₀ n₁ W W' ∧ Ix (.exit id) xs W'
  | .goto t, _, W' => Outside n₀ n₁ W W' ∧ Ix (.goto t) xs W'
  | .panic _, _, _ => False
  | .outgrown, _, _ => False

theorem below_putObj {B : Nat} (W : World) (l : Nat) (o : Obj) (h : B ≤ l) : Below B W (W.putObj l o) :=
  ⟨rfl, rfl, rfl, by simp, fun k hk => World.putObj_heap_other (by omega)⟩

theorem grown_putObj (W : World) (l : Nat) (o : Obj) : W.grownBy (W.putObj l o) (some l) :=
  ⟨rfl, rfl, rfl, by simp, fun k _ hk => World.putObj_heap_other (fun e => hk (by rw [e]))⟩
/-- The statement. -/
theorem wp_rangeFunc_T {α : Type} {P : Program} {g : Operand} {ps : Array Tmp} {assign body : Code} {Q : Exit → Act → World → Prop} {a : Act} {w : World}
    {gf : Nat} {rb lb : Array Value} (hg : a.eval g = .func (.func gf) rb lb) (eg : ∀ args w, (callFunc gf args).run P w = .ok (.enter gf args) w)
    {encs : α → Array Value} {n₀ : Nat} (hn₀ : n₀ ≤ w.heap.size) {S : List α} (hseq : SeqT P gf rb lb encs n₀ S w) (hps : ∀ x, (encs x).size = ps.size)
    (I : List α → World → Prop) (Ix : Code → List α → World → Prop) (hI : ∀ s A B, I s A → Below w.heap.size A B → I s B) (hIx : ∀ c s A B, Ix c s A → Below w.heap.size A B → Ix c s B) (h0 : I [] w)
    (Ax : α → Act → World → Prop) (hAx : ∀ x a' A l r o, Ax x a' A → A.heap[l]? = some (.loop r) → Ax x a' (A.putObj l o))
    (hassign : ∀ (l : Nat) (pre : List α) (x : α) (W : World) (K : Act → World → Prop), w.heap.size ≤ W.heap.size → I pre W → (∀ a' W', Outside n₀ w.heap.size W W' → I pre W' → Ax x a' W' → K a' W') →
      assign.wpIn (Fence.wide.inRound l) 0 P (Exit.then K (fun _ _ _ => False)) { tmps := (ps.zip (encs x)).foldl (fun t (p, v) => t.setIfInBounds p v) a.tmps, defers := [] } W)
    (hbody : ∀ (l : Nat) (pre : List α) (x : α) (a' : Act) (W : World), w.heap.size ≤ W.heap.size → I pre W → Ax x a' W → pre ++ [x] <+: S → body.wpIn (Fence.wide.inRound l) 0 P (postT n₀ w.heap.size I Ix (pre ++ [x]) W) a' W)
    (hdone : ∀ (D : Nat) (W : World), w.heap.size ≤ D → I S W → W.heap[D]? = some (.deferred (some [])) → Q .normal { a with defers := { target := .collected D, args := #[] } :: a.defers } W)
    (hstop : ∀ (D : Nat) (c : Code) (pre : List α) (W : World), w.heap.size ≤ D → pre <+: S → Ix c pre W → W.heap[D]? = some (.deferred (some [])) → c.wp P Q { a with defers := { target := .collected D, args := #[] } :: a.defers } W) :
    (Code.rangeFunc g ps assign body).wp P Q a w := by
  refine (wpIn_wide (n := 0)).1 (wpIn_rangeFunc ?_)
  intro fn hfn
  obtain ⟨rec, hrec⟩ : ∃ rec : LoopState → Option Code → Loop, rec = fun st pe => { state := st, pending := pe, fn, tmps := a.tmps, params := ps, assign, body, defers := w.heap.size } := ⟨_, rfl⟩
  obtain ⟨W1, hW1⟩ : ∃ W1, (w.alloc (.deferred (some []))).alloc (.loop (rec .ready none)) = W1 := ⟨_, rfl⟩
  have hL1 : W1.heap[w.heap.size + 1]? = some (.loop (rec .ready none)) := by
    rw [← hW1]; have := World.alloc_heap_new (w.alloc (.deferred (some []))) (.loop (rec .ready none)); rwa [World.size_alloc] at this
  have hK1 : W1.heap[w.heap.size]? = some (.deferred (some [])) := by
    rw [← hW1]; exact (Below.heap_alloc _ _ _ (by simp)).trans (World.alloc_heap_new w _)
  have hb1 : Below w.heap.size w W1 := by
    rw [← hW1]; exact ((Below.refl _ w).alloc (Nat.le_refl _) _).alloc (by simp) _
  have hs1 : W1.heap.size = w.heap.size + 2 := by rw [← hW1]; simp
  have hI1 : I [] W1 := hI _ _ _ h0 hb1
  refine ⟨w.heap.size + 1, [{ target := .collected w.heap.size, args := #[] }], W1, { target := .fn (.func gf) lb, args := rb ++ #[.func (.yield (w.heap.size + 1)) #[] #[]] }, W1, gf,
    rb ++ #[.func (.yield (w.heap.size + 1)) #[] #[]] ++ lb, W1, ?_, ?_, ?_, ?_, fun h => by simp [Fence.wide] at h, ?_⟩
  · rw [← hW1, hrec]; exact run_enterLoop_outer _ _ _ _ _
  · simp only [resolve, hg]
    simp [go_sem, Deferred.ofValue]
  · intro f' hf'; trivial
  · simp [invoke, go_sem, eg]
  · refine callsIn_wide.2 ?_
    refine (hseq (w.heap.size + 1)
      (fun pre W => I pre W ∧ W.heap[w.heap.size + 1]? = some (.loop (rec .ready none)) ∧ W.heap[w.heap.size]? = some (.deferred (some [])) ∧ w.heap.size ≤ W.heap.size)
      (fun pre W => ∃ c, Ix c pre W ∧ W.heap[w.heap.size + 1]? = some (.loop (rec .done (some c))) ∧ W.heap[w.heap.size]? = some (.deferred (some [])))
      W1 hb1
      (fun s A B hs hg' => ⟨hI s A B hs.1 (hg'.mono (by omega)), (hg'.block _ (by omega)).trans hs.2.1, (hg'.block _ (by omega)).trans hs.2.2.1, Nat.le_trans hs.2.2.2 hg'.size⟩)
      (fun s A B hs hg' => by
        obtain ⟨c, hc, hl, hk⟩ := hs
        exact ⟨c, hIx c s A B hc (hg'.mono (by omega)), (hg'.block _ (by omega)).trans hl, (hg'.block _ (by omega)).trans hk⟩)
      ?_ ⟨hI1, hL1, hK1, hb1.size⟩).mono ?_
    · -- one round
      rintro pre x W ⟨hi, hl, hk, hsz⟩ hpre
      have hlt : w.heap.size + 1 < W.heap.size := (Array.getElem?_eq_some_iff.1 hl).1
      have hy := run_yield (P := P) (args := encs x) hl (by rw [hrec]; exact hps x)
      rw [hrec] at hy
      refine ⟨fn, _, assign, body, hy, roundIn_of_wpIn trivial (hassign _ pre x W _ hsz hi ?_)⟩
      clear hy
      intro a' Wa hoa hia hax
      have hla := (hoa.beyond _ (by omega) hlt).trans hl
      have hka := (hoa.beyond _ (Nat.le_refl _) (by omega)).trans hk
      have hlta : w.heap.size + 1 < Wa.heap.size := Nat.lt_of_lt_of_le hlt hoa.below.size
      refine ⟨_, run_beginRound hla (by rw [hrec]), ?_⟩
      have hl2 : (Wa.putObj (w.heap.size + 1) (.loop { rec .ready none with state := .busy })).heap[w.heap.size + 1]? = some (.loop { rec .ready none with state := .busy }) := World.putObj_heap_same hlta
      have hk2 : (Wa.putObj (w.heap.size + 1) (.loop { rec .ready none with state := .busy })).heap[w.heap.size]? = some (.deferred (some [])) := (World.putObj_heap_other (by omega)).trans hka
      have hb2 : Below w.heap.size Wa (Wa.putObj (w.heap.size + 1) (.loop { rec .ready none with state := .busy })) := below_putObj _ _ _ (by omega)
      refine wpIn_mono (hbody _ pre x a' _ (by simp; omega) (hI _ _ _ hia hb2) (hAx _ _ _ _ _ _ hax hla) hpre) ?_
      have fin : ∀ (jump : Option Code) (W3 : World), Outside n₀ w.heap.size (Wa.putObj (w.heap.size + 1) (.loop { rec .ready none with state := .busy })) W3 →
          (Instr.endRound (w.heap.size + 1) jump).run P W3 = .ok (.bool jump.isNone) (W3.putObj (w.heap.size + 1) (.loop (rec (if jump.isNone then .ready else .done) jump))) ∧
          (W3.putObj (w.heap.size + 1) (.loop (rec (if jump.isNone then .ready else .done) jump))).heap[w.heap.size + 1]? = some (.loop (rec (if jump.isNone then .ready else .done) jump)) ∧
          (W3.putObj (w.heap.size + 1) (.loop (rec (if jump.isNone then .ready else .done) jump))).heap[w.heap.size]? = some (.deferred (some [])) ∧
          Below w.heap.size W3 (W3.putObj (w.heap.size + 1) (.loop (rec (if jump.isNone then .ready else .done) jump))) ∧
          Outside n₀ W1.heap.size W (W3.putObj (w.heap.size + 1) (.loop (rec (if jump.isNone then .ready else .done) jump))) := fun jump W3 ho3 => by
        have hl3 := (ho3.beyond (w.heap.size + 1) (by omega) (by simp; omega)).trans hl2
        have hk3 := (ho3.beyond w.heap.size (Nat.le_refl _) (by simp; omega)).trans hk2
        have hr := run_endRound (P := P) jump hl3
        have hsz3 : w.heap.size + 1 < W3.heap.size := (Array.getElem?_eq_some_iff.1 hl3).1
        refine ⟨?_, World.putObj_heap_same hsz3, (World.putObj_heap_other (by omega)).trans hk3, below_putObj _ _ _ (by omega), ?_⟩
        · rw [hrec] at hr ⊢; exact hr
        · have e1 : Outside n₀ W1.heap.size Wa (Wa.putObj (w.heap.size + 1) (.loop { rec .ready none with state := .busy })) := Outside.of_grown (grown_putObj _ _ _) (by omega) (by omega) (by omega)
          have e2 : Outside n₀ W1.heap.size W3 (W3.putObj (w.heap.size + 1) (.loop (rec (if jump.isNone then .ready else .done) jump))) := Outside.of_grown (grown_putObj _ _ _) (by omega) (by omega) (by omega)
          exact (((hoa.weak (by omega)).trans e1).trans (ho3.weak (by omega))).trans e2
      rintro e a3 W3 hp
      cases e with
      | normal =>
        obtain ⟨hk3, hi3⟩ := hp
        obtain ⟨hr, hl4, hk4, hb4, ho4⟩ := fin none W3 hk3
        exact ⟨_, _, hr, .inl ⟨rfl, ⟨hI _ _ _ hi3 hb4, hl4, hk4, Nat.le_trans (by have := hk3.below.size; simp at this; omega) hb4.size⟩, ho4⟩⟩
      | ret =>
        obtain ⟨hk3, hi3⟩ := hp
        obtain ⟨hr, hl4, hk4, hb4, ho4⟩ := fin (some .ret) W3 hk3
        exact ⟨_, _, hr, .inr ⟨rfl, .ret, hIx _ _ _ _ hi3 hb4, hl4, hk4⟩⟩
      | exit id =>
        obtain ⟨hk3, hi3⟩ := hp
        obtain ⟨hr, hl4, hk4, hb4, ho4⟩ := fin (some (.exit id)) W3 hk3
        exact ⟨_, _, hr, .inr ⟨rfl, .exit id, hIx _ _ _ _ hi3 hb4, hl4, hk4⟩⟩
      | goto t =>
        obtain ⟨hk3, hi3⟩ := hp
        obtain ⟨hr, hl4, hk4, hb4, ho4⟩ := fin (some (.goto t)) W3 hk3
        exact ⟨_, _, hr, .inr ⟨rfl, .goto t, hIx _ _ _ _ hi3 hb4, hl4, hk4⟩⟩
      | panic ch => exact hp.elim
      | outgrown => exact hp.elim
    · -- behind the iterator
      rintro e W2 ⟨⟨v, rfl⟩, (⟨hi, hl, hk, _⟩ | ⟨pre, hSp, c, hi, hl, hk⟩)⟩
      · exact ⟨none, _, by have := run_endLoop (P := P) hl (by rw [hrec]; simp); rw [hrec] at this; exact this, hdone _ _ (Nat.le_refl _) (hI _ _ _ hi (below_putObj _ _ _ (by omega))) ((World.putObj_heap_other (by omega)).trans hk)⟩
      · exact ⟨some c, _, by have := run_endLoop (P := P) hl (by rw [hrec]; simp); rw [hrec] at this; exact this, (wpIn_wide (n := 0)).2 (hstop _ c pre _ (Nat.le_refl _) hSp (hIx _ _ _ _ hi (below_putObj _ _ _ (by omega))) ((World.putObj_heap_other (by omega)).trans hk))⟩
end Go.Proofs.Ytgflbidagdcfmaa

namespace Go.Proofs.Ytgflbidagdcfmaa
open Go.RowKit

/-- The contract of an iterator value, as SeqT, with the one block that the body made in an earlier round and may write again (g: from where on the body's blocks lie, and that block), and what it reads of the caller's (K). -/
def SeqX {α : Type} (P : Program) (gf : Nat) (rb lb : Array Value) (encs : α → Array Value) (n₀ : Nat) (K : World → Prop) (S : List α) (w : World) : Prop :=
  ∀ (l : Nat) (J : List α → Option (Nat × Nat) → World → Prop) (Jx : List α → World → Prop) (W : World), Below w.heap.size w W →
    (∀ s g A B, J s g A → Below W.heap.size A B → (∀ b k, g = some (b, k) → B.heap[k]? = A.heap[k]?) → J s g B) → (∀ s g A, J s g A → ∀ b k, g = some (b, k) → b ≤ k ∧ k < A.heap.size) → (∀ s g A, J s g A → K A) → (∀ s A B, Jx s A → Below W.heap.size A B → Jx s B) →
    (∀ pre x g W1, J pre g W1 → W.heap.size ≤ W1.heap.size → pre ++ [x] <+: S → YieldAt Fence.wide 0 P l (encs x) W1 fun e W' =>
      (e = .returned (.bool true) ∧ ∃ g', J (pre ++ [x]) g' W' ∧ Below n₀ W1 W' ∧ (∀ k, W.heap.size ≤ k → k < W1.heap.size → (∀ b, g ≠ some (b, k)) → W'.heap[k]? = W1.heap[k]?) ∧ (∀ b k, g' = some (b, k) → W1.heap.size ≤ b ∨ ∃ j, g = some (b, j))) ∨ (e = .returned (.bool false) ∧ Jx (pre ++ [x]) W')) →
    J [] none W →
    Calls P gf (rb ++ #[.func (.yield l) #[] #[]] ++ lb) W fun e W' => (∃ v, e = .returned v) ∧ ((∃ g, J S g W') ∨ ∃ pre, pre <+: S ∧ Jx pre W')

/-- How the body of a round may be left: by its end, or by a return. -/
def postX {α : Type} (n₀ n₁ : Nat) (I : List α → Option (Nat × Nat) → World → Prop) (Ix : List α → World → Prop) (xs : List α) (g : Option (Nat × Nat)) (W : World) : Exit → Act → World → Prop
  | .normal, _, W' => ∃ g', I xs g' W' ∧ Below n₀ W W' ∧ (∀ k, n₁ ≤ k → k < W.heap.size → (∀ b, g ≠ some (b, k)) → W'.heap[k]? = W.heap[k]?) ∧ (∀ b k, g' = some (b, k) → W.heap.size ≤ b ∨ ∃ j, g = some (b, j))
  | .ret, _, W' => Ix xs W' ∧ (∀ k, n₁ ≤ k → k < n₁ + 2 → k < W.heap.size → W'.heap[k]? = W.heap[k]?)
  | _, _, _ => False

/-- The statement. -/
theorem wp_rangeFunc_X {α : Type} {P : Program} {gop : Operand} {ps : Array Tmp} {assign body : Code} {Q : Exit → Act → World → Prop} {a : Act} {w : World}
    {gf : Nat} {rb lb : Array Value} (hg : a.eval gop = .func (.func gf) rb lb) (eg : ∀ args w, (callFunc gf args).run P w = .ok (.enter gf args) w)
    {encs : α → Array Value} {n₀ : Nat} (hn₀ : n₀ ≤ w.heap.size) {S : List α} {K : World → Prop} (hseq : SeqX P gf rb lb encs n₀ K S w) (hps : ∀ x, (encs x).size = ps.size)
    (I : List α → Option (Nat × Nat) → World → Prop) (hI : ∀ s g A B, I s g A → Below w.heap.size A B → (∀ b k, g = some (b, k) → B.heap[k]? = A.heap[k]?) → I s g B) (hIg : ∀ s g A, I s g A → ∀ b k, g = some (b, k) → b ≤ k ∧ k < A.heap.size) (hIK : ∀ s g A, I s g A → K A) (h0 : I [] none w)
    (Ix : List α → World → Prop) (hIx : ∀ s A B, Ix s A → Below w.heap.size A B → Ix s B)
    (Ax : α → Act → World → Prop) (hAx : ∀ x a' A l r o, Ax x a' A → A.heap[l]? = some (.loop r) → Ax x a' (A.putObj l o))
    (hassign : ∀ (l : Nat) (pre : List α) (x : α) (g : Option (Nat × Nat)) (W : World) (K' : Act → World → Prop), w.heap.size ≤ W.heap.size → I pre g W → (∀ a' W', Below W.heap.size W W' → I pre g W' → Ax x a' W' → K' a' W') →
      assign.wpIn (Fence.wide.inRound l) 0 P (Exit.then K' (fun _ _ _ => False)) { tmps := (ps.zip (encs x)).foldl (fun t (p, v) => t.setIfInBounds p v) a.tmps, defers := [] } W)
    (hbody : ∀ (l : Nat) (pre : List α) (x : α) (g : Option (Nat × Nat)) (a' : Act) (W : World), w.heap.size ≤ W.heap.size → I pre g W → Ax x a' W → pre ++ [x] <+: S → body.wpIn (Fence.wide.inRound l) 0 P (postX n₀ w.heap.size I Ix (pre ++ [x]) g W) a' W)
    (hdone : ∀ (D : Nat) (g : Option (Nat × Nat)) (W : World), D = w.heap.size → I S g W → (∀ b k, g = some (b, k) → w.heap.size + 2 ≤ b) → W.heap[D]? = some (.deferred (some [])) → Q .normal { a with defers := { target := .collected D, args := #[] } :: a.defers } W)
    (hstop : ∀ (D : Nat) (pre : List α) (W : World), D = w.heap.size → pre <+: S → Ix pre W → W.heap[D]? = some (.deferred (some [])) → Code.ret.wp P Q { a with defers := { target := .collected D, args := #[] } :: a.defers } W) :
    (Code.rangeFunc gop ps assign body).wp P Q a w := by
  refine (wpIn_wide (n := 0)).1 (wpIn_rangeFunc ?_)
  intro fn hfn
  obtain ⟨rec, hrec⟩ : ∃ rec : LoopState → Option Code → Loop, rec = fun st pe => { state := st, pending := pe, fn, tmps := a.tmps, params := ps, assign, body, defers := w.heap.size } := ⟨_, rfl⟩
  obtain ⟨W1, hW1⟩ : ∃ W1, (w.alloc (.deferred (some []))).alloc (.loop (rec .ready none)) = W1 := ⟨_, rfl⟩
  have hL1 : W1.heap[w.heap.size + 1]? = some (.loop (rec .ready none)) := by
    rw [← hW1]; have := World.alloc_heap_new (w.alloc (.deferred (some []))) (.loop (rec .ready none)); rwa [World.size_alloc] at this
  have hK1 : W1.heap[w.heap.size]? = some (.deferred (some [])) := by
    rw [← hW1]; exact (Below.heap_alloc _ _ _ (by simp)).trans (World.alloc_heap_new w _)
  have hb1 : Below w.heap.size w W1 := by
    rw [← hW1]; exact ((Below.refl _ w).alloc (Nat.le_refl _) _).alloc (by simp) _
  have hs1 : W1.heap.size = w.heap.size + 2 := by rw [← hW1]; simp
  have hI1 : I [] none W1 := hI _ _ _ _ h0 hb1 (fun b k hk => by cases hk)
  refine ⟨w.heap.size + 1, [{ target := .collected w.heap.size, args := #[] }], W1, { target := .fn (.func gf) lb, args := rb ++ #[.func (.yield (w.heap.size + 1)) #[] #[]] }, W1, gf,
    rb ++ #[.func (.yield (w.heap.size + 1)) #[] #[]] ++ lb, W1, ?_, ?_, ?_, ?_, fun h => by simp [Fence.wide] at h, ?_⟩
  · rw [← hW1, hrec]; exact run_enterLoop_outer _ _ _ _ _
  · simp only [resolve, hg]
    simp [go_sem, Deferred.ofValue]
  · intro f' hf'; trivial
  · simp [invoke, go_sem, eg]
  · refine callsIn_wide.2 ?_
    refine (hseq (w.heap.size + 1)
      (fun pre g W => I pre g W ∧ W.heap[w.heap.size + 1]? = some (.loop (rec .ready none)) ∧ W.heap[w.heap.size]? = some (.deferred (some [])) ∧ w.heap.size ≤ W.heap.size ∧ ∀ b k, g = some (b, k) → w.heap.size + 2 ≤ b)
      (fun pre W => Ix pre W ∧ W.heap[w.heap.size + 1]? = some (.loop (rec .done (some .ret))) ∧ W.heap[w.heap.size]? = some (.deferred (some [])))
      W1 hb1
      (fun s g A B hs hb hk => ⟨hI s g A B hs.1 (hb.mono (by omega)) hk, (hb.block _ (by omega)).trans hs.2.1, (hb.block _ (by omega)).trans hs.2.2.1, Nat.le_trans hs.2.2.2.1 hb.size, hs.2.2.2.2⟩)
      (fun s g A hs b k hk => hIg s g A hs.1 b k hk)
      (fun s g A hs => hIK s g A hs.1)
      (fun s A B hs hb => ⟨hIx s A B hs.1 (hb.mono (by omega)), (hb.block _ (by omega)).trans hs.2.1, (hb.block _ (by omega)).trans hs.2.2⟩)
      ?_ ⟨hI1, hL1, hK1, hb1.size, fun b k hk => by cases hk⟩).mono ?_
    · -- one round
      rintro pre x g W ⟨hi, hl, hk, hsz, hg0⟩ hW1z hpre
      have hlt : w.heap.size + 1 < W.heap.size := (Array.getElem?_eq_some_iff.1 hl).1
      have hy := run_yield (P := P) (args := encs x) hl (by rw [hrec]; exact hps x)
      rw [hrec] at hy
      refine ⟨fn, _, assign, body, hy, roundIn_of_wpIn trivial (hassign _ pre x g W _ hsz hi ?_)⟩
      clear hy
      intro a' Wa hoa hia hax
      have hla := (hoa.block (w.heap.size + 1) hlt).trans hl
      have hka := (hoa.block w.heap.size (by omega)).trans hk
      have hlta : w.heap.size + 1 < Wa.heap.size := Nat.lt_of_lt_of_le hlt hoa.size
      refine ⟨_, run_beginRound hla (by rw [hrec]), ?_⟩
      have hl2 : (Wa.putObj (w.heap.size + 1) (.loop { rec .ready none with state := .busy })).heap[w.heap.size + 1]? = some (.loop { rec .ready none with state := .busy }) := World.putObj_heap_same hlta
      have hk2 : (Wa.putObj (w.heap.size + 1) (.loop { rec .ready none with state := .busy })).heap[w.heap.size]? = some (.deferred (some [])) := (World.putObj_heap_other (by omega)).trans hka
      have hb2 : Below w.heap.size Wa (Wa.putObj (w.heap.size + 1) (.loop { rec .ready none with state := .busy })) := below_putObj _ _ _ (by omega)
      refine wpIn_mono (hbody _ pre x g a' _ (by have := hoa.size; simp; omega) (hI _ _ _ _ hia hb2 (fun b k hk => World.putObj_heap_other (fun e => by have := hg0 b k hk; have := (hIg _ _ _ hi b k hk).1; omega))) (hAx _ _ _ _ _ _ hax hla) hpre) ?_
      rintro e a3 W3 hp
      cases e with
      | normal =>
        obtain ⟨g', hi3, hb3, hk3, hg3⟩ := hp
        have hz3 := hb3.size
        have hl3 := (hk3 (w.heap.size + 1) (by omega) (by simp; omega) (fun b e => by have := hg0 b _ e; have := (hIg _ _ _ hi b _ e).1; omega)).trans hl2
        have hd3 := (hk3 w.heap.size (Nat.le_refl _) (by simp; omega) (fun b e => by have := hg0 b _ e; have := (hIg _ _ _ hi b _ e).1; omega)).trans hk2
        have hr := run_endRound (P := P) (none : Option Code) hl3
        have hsz3 : w.heap.size + 1 < W3.heap.size := (Array.getElem?_eq_some_iff.1 hl3).1
        have hzz : W.heap.size ≤ W3.heap.size := by have := hoa.size; simp at hz3; omega
        have hg0' : ∀ b k, g' = some (b, k) → w.heap.size + 2 ≤ b := fun b k e => by
          rcases hg3 b k e with h | ⟨j, h⟩
          · simp at h
            have := hoa.size
            omega
          · exact hg0 b j h
        have hb4 : Below w.heap.size W3 (W3.putObj (w.heap.size + 1) (.loop (rec .ready none))) := below_putObj _ _ _ (by omega)
        refine ⟨.bool true, W3.putObj (w.heap.size + 1) (.loop (rec .ready none)), ?_, .inl ⟨rfl, g', ⟨hI _ _ _ _ hi3 hb4 (fun b k hk => World.putObj_heap_other (fun e => by have := hg0' b k hk; have := (hIg _ _ _ hi3 b k hk).1; omega)), World.putObj_heap_same hsz3, (World.putObj_heap_other (by omega)).trans hd3, by simp; omega, hg0'⟩, ?_, ?_, ?_⟩⟩
        · rw [hrec] at hr ⊢; exact hr
        · exact ((hoa.mono (by omega)).trans (hb2.mono hn₀)).trans (hb3.trans (hb4.mono hn₀))
        · intro k h1 h2 h3
          have h4 : k ≠ w.heap.size + 1 := by omega
          exact (World.putObj_heap_other h4).trans ((hk3 k (by omega) (by have := hoa.size; simp; omega) h3).trans ((World.putObj_heap_other h4).trans (hoa.block k h2)))
        · intro b k e
          rcases hg3 b k e with h | h
          · exact .inl (by have := hoa.size; simp at h; omega)
          · exact .inr h
      | ret =>
        obtain ⟨hi3, hk3⟩ := hp
        have hl3 := (hk3 (w.heap.size + 1) (by omega) (by omega) (by simp; omega)).trans hl2
        have hd3 := (hk3 w.heap.size (Nat.le_refl _) (by omega) (by simp; omega)).trans hk2
        have hr := run_endRound (P := P) (some Code.ret) hl3
        have hsz3 : w.heap.size + 1 < W3.heap.size := (Array.getElem?_eq_some_iff.1 hl3).1
        refine ⟨.bool false, W3.putObj (w.heap.size + 1) (.loop (rec .done (some .ret))), ?_, .inr ⟨rfl, hIx _ _ _ hi3 (below_putObj _ _ _ (by omega)), World.putObj_heap_same hsz3, (World.putObj_heap_other (by omega)).trans hd3⟩⟩
        rw [hrec] at hr ⊢; exact hr
      | exit id => exact hp.elim
      | goto t => exact hp.elim
      | panic ch => exact hp.elim
      | outgrown => exact hp.elim
    · -- behind the iterator
      rintro e W2 ⟨⟨v, rfl⟩, (⟨g, hi, hl, hk, hz, hg0⟩ | ⟨pre, hSp, hi, hl, hk⟩)⟩
      · exact ⟨none, _, by have := run_endLoop (P := P) hl (by rw [hrec]; simp); rw [hrec] at this; exact this, hdone _ g _ rfl (hI _ _ _ _ hi (below_putObj _ _ _ (by omega)) (fun b k hk => World.putObj_heap_other (fun e => by have := hg0 b k hk; have := (hIg _ _ _ hi b k hk).1; omega))) hg0 ((World.putObj_heap_other (by omega)).trans hk)⟩
      · exact ⟨some .ret, _, by have := run_endLoop (P := P) hl (by rw [hrec]; simp); rw [hrec] at this; exact this, (wpIn_wide (n := 0)).2 (hstop _ pre _ rfl hSp (hIx _ _ _ hi (below_putObj _ _ _ (by omega))) ((World.putObj_heap_other (by omega)).trans hk))⟩
end Go.Proofs.Ytgflbidagdcfmaa
