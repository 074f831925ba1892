/- The contract of rle.May. No conditions but the list's size. -/
import Derived.Test.YtibmldgbimjgfaaEq
import Derived.Test.YtibmldgbimjgfaaMayMath
import Derived.Test.YtibmldgbimjgfaaBar
namespace Go.Proofs.Ytibmldgbimjgfaa
open Go.ChangeShapes Go.WideShapes Go.ChangeAt Go.RowKit
attribute [local irreducible] Go.Calls

theorem below_blk {w w' : World} {B p : Nat} (h : Below B w w') (hp : p < B) {cs : Array Value} {t : TypeId} (hB : Blk w p cs t) : Blk w' p cs t := hB.below h hp

set_option maxRecDepth 100000 in
set_option maxHeartbeats 4000000 in
theorem pmay_c (l : List Sg) (a : Option Addr) (cap : Nat) (w : World) (hl : l.length ≤ 1099511627776) (hA : ArgS w a l) :
    Calls Try.prog 14 #[.slice a l.length cap] w fun e w' => e = .returned (.bool (mayB l)) ∧ Below w.heap.size w w' := by
  have HA := hidE hA; clear hA
  go_enter Try.func14, Try.ntmps14
  go_wp2_with fail
  ((with_reducible refine (changing_c _).mono ?_); rintro e w1 ⟨rfl, rfl⟩)
  have hb0 : Below w.heap.size w (w.alloc (.cells #[.int .i64 0, .int .i64 0] 28)) := by (repeat (first | exact Below.refl _ _ | assumption | refine balloc ?_ _ | refine below_drewN ?_ _ | refine bstep (by assumption) ?_ | refine bstep (Past.prop _) ?_ | refine Below.setCell ?_ (by first | exact Nat.le_refl _ | (simp; done) | (simp; omega)) _))
  have B0 : Blk (w.alloc (.cells #[.int .i64 0, .int .i64 0] 28)) w.heap.size #[.int .i64 0, .int .i64 0] 28 := Blk.made _ _ _
  have HB0 := hidE hb0; have HBL := hidE B0
  clear hb0 B0
  obtain ⟨p, hp⟩ : ∃ p, p = w.heap.size := ⟨_, rfl⟩
  have HP := hidE hp
  rw [← hp] at HBL ⊢
  generalize w.alloc (.cells #[.int .i64 0, .int .i64 0] 28) = w1 at *
  have hpw : w.heap.size ≤ p := by omega
  clear hp
  go_wp2_with fail
  go_loopg [9, 4, 5] l.length (fun g vi _ _ wr => ∃ k : Nat, k ≤ l.length ∧ l.length - k ≤ g ∧ vi = .int .i64 k ∧ (∀ i, i < k → okAt (0, 0) l i = true) ∧ Below w.heap.size w wr ∧ Blk wr p #[.int .i64 (prevV l k).1, .int .i64 (prevV l k).2] 28)
  case atStart => exact ⟨0, Nat.zero_le _, by omega, rfl, fun i hi => by omega, HB0.out, HBL.out⟩
  case round =>
    clear HB0 HBL
    obtain ⟨k, hk, hg, rfl, hs, hb, hB⟩ := hrel
    have HS := hidE hs; have HB := hidE hb; have HBP := hidE hB; clear hs hb hB
    by_cases hlt : k < l.length
    · obtain ⟨b, off, rfl, hbb, hc⟩ := (HA.out.past HB.out) (by omega)
      have hbw : b < w.heap.size := by
        obtain ⟨b', off', e, hb', _⟩ := HA.out (by omega)
        simp at e; omega
      obtain ⟨c0, c1, c2⟩ := hc.get hlt
      have hpz := HBP.out.lt
      have HV := hidE (fun w => valid_c (l.getD k (0, 0, 0)) w)
      change Hid (∀ w, Calls _ _ #[S (ats l k) (vls l k).1 (vls l k).2] _ _) at HV
      have HPS := hidE (prevV_succ l k)
      obtain ⟨wo, rfl⟩ : ∃ wo : World, wo = wr := ⟨_, rfl⟩
      cases hok : okS (l.getD k (0, 0, 0))
      · have HX := hidE (mayB_bad hlt (show okAt (0, 0) l k = false by unfold okAt; rw [hok]; rfl))
        rw [hok] at HV
        clear hc
        generalize ats l k = u at *
        generalize vls l k = v at *
        go_wp2_with fail
        refine wp_region_past_lit (by kernel_rfl) (by kernel_rfl) ?_
        have hcp := Past.cell (W := wo.alloc (.cells #[.int .i64 u, .int .i64 v.1, .int .i64 v.2] 30))
        repeat (go_big_quiet_step ((go_at_call 16; exact Past.call _ (HV.out _))))
        refine wpQuiet_nil ?_
        rintro _ ⟨x', rfl⟩
        have o1 : Below w.heap.size w x'.1 := by have := HB.out; (repeat (first | exact Below.refl _ _ | assumption | refine balloc ?_ _ | refine below_drewN ?_ _ | refine bstep (by assumption) ?_ | refine bstep (Past.prop _) ?_ | refine Below.setCell ?_ (by first | exact Nat.le_refl _ | (simp; done) | (simp; omega)) _))
        clear hcp
        generalize x'.1 = w5 at *
        go_wp2
        go_ret
        exact ⟨ret_bool (by rw [HX.out]), o1⟩
      · rw [hok] at HV
        have HOK := hidE hok
        have HPV := hidE (show okAt (0, 0) l k = (!(vls l k == prevV l k) && (decide (k = 0) || decide (ats l (k - 1) < ats l k))) by unfold okAt; rw [HOK.out, Bool.true_and]; rfl)
        have HQ : Blk (wo.alloc (.cells #[.int .i64 (ats l k), .int .i64 (vls l k).1, .int .i64 (vls l k).2] 30)) wo.heap.size #[.int .i64 (ats l k), .int .i64 (vls l k).1, .int .i64 (vls l k).2] 30 := Blk.made _ _ _
        have hqp : wo.heap.size ≠ p := by omega
        have HPA : Blk (wo.alloc (.cells #[.int .i64 (ats l k), .int .i64 (vls l k).1, .int .i64 (vls l k).2] 30)) p #[.int .i64 (prevV l k).1, .int .i64 (prevV l k).2] 28 := HBP.out.alloc _
        have HBA : Below w.heap.size w (wo.alloc (.cells #[.int .i64 (ats l k), .int .i64 (vls l k).1, .int .i64 (vls l k).2] 30)) := by have := HB.out; (repeat (first | exact Below.refl _ _ | assumption | refine balloc ?_ _ | refine below_drewN ?_ _ | refine bstep (by assumption) ?_ | refine bstep (Past.prop _) ?_ | refine Below.setCell ?_ (by first | exact Nat.le_refl _ | (simp; done) | (simp; omega)) _))
        have hqz := HQ.lt; have hpz2 := HPA.lt
        have HHQ := hidE HQ; have HHP := hidE HPA; have HHB := hidE HBA
        have hbA : b < (wo.alloc (.cells #[.int .i64 (ats l k), .int .i64 (vls l k).1, .int .i64 (vls l k).2] 30)).heap.size := by simp; omega
        have HCS := hidE (show CellsS (wo.alloc (.cells #[.int .i64 (ats l k), .int .i64 (vls l k).1, .int .i64 (vls l k).2] 30)) b off l from hc.below ((Below.refl _ _).alloc (Nat.le_refl _) _) hbb)
        have hbp : b ≠ p := by omega
        clear hc HQ HPA HBA HBP HB
        go_wp2_with fail
        clear c0 c1 c2
        generalize wo.heap.size = q at *
        generalize hWA : wo.alloc (.cells #[.int .i64 (ats l k), .int .i64 (vls l k).1, .int .i64 (vls l k).2] 30) = WA at *
        have q0 := HHQ.out.cell 0; have q1 := HHQ.out.cell 1; have q2 := HHQ.out.cell 2
        simp at q0 q1 q2
        clear hWA
        refine wp_region_bar 7 _ (by kernel_rfl) rfl (by kernel_rfl) (fun v w'' => v = .bool (!((vls l k) == (prevV l k))) ∧ Blk w'' p #[.int .i64 (vls l k).1, .int .i64 (vls l k).2] 28 ∧ WA.grownBy w'' (some p)) ?_
        simp only [List.take_succ_cons, List.take_zero, List.drop_succ_cons, List.drop_zero]
        have hcp := Past.cell (W := WA)
        repeat (go_big_quiet_step ((go_at_call 16; exact Past.call _ (HV.out _))))
        refine wpQuiet_nil ?_
        intro x
        refine ⟨rfl, ?_, ?_⟩
        · simp [go_sem, gives]
          exact (chg_c p (prevV l k).1 (prevV l k).2 (vls l k).1 (vls l k).2 _ (HHP.out.past x.2)).mono fun e w'' ⟨he, h1, h2⟩ => ⟨_, he, rfl, h1, grown_trans (grown_any x.2) h2⟩
        · rintro v w'' ⟨rfl, hBn, hg⟩
          have hbn : Below w.heap.size w w'' := HHB.out.grown hg (by have := HHB.out.size; omega) (fun k hk => by simp at hk; omega)
          have HG := hidE hbn; have HBN := hidE hBn
          have hq'' : Blk w'' q #[.int .i64 (ats l k), .int .i64 (vls l k).1, .int .i64 (vls l k).2] 30 := HHQ.out.grown hg (by intro e; simp at e; omega)
          have n0 := hq''.cell 0
          simp at n0
          have hqz'' := hq''.lt
          have hraw : CellsS w'' b off l := fun i hi => by
            obtain ⟨h1, h2, h3⟩ := HCS.out i hi
            have hblk := hg.block b hbA (by intro e; simp at e; omega)
            exact ⟨(World.cell?_of_block (w := WA) (a := ⟨b, _, none⟩) hblk).trans h1, (World.cell?_of_block (w := WA) (a := ⟨b, _, none⟩) hblk).trans h2, (World.cell?_of_block (w := WA) (a := ⟨b, _, none⟩) hblk).trans h3⟩
          have hbz'' : b < w''.heap.size := Nat.lt_of_lt_of_le hbA hg.size
          have HRAW := hidE hraw
          clear hbn hBn hq'' hg q0 q1 q2 hraw
          simp only [Act.put, List.setIfInBounds_toArray, List.set_cons_succ, List.set_cons_zero]
          cases hr : (!(vls l k == prevV l k))
          · have HX := hidE (mayB_bad hlt (show okAt (0, 0) l k = false by rw [HPV.out, hr]; rfl))
            clear hcp
            have hcq := Past.cell (W := w'')
            repeat (go_big_quiet_step (fail))
            refine wpQuiet_nil ?_
            rintro _ ⟨y, rfl⟩
            have o1 : Below w.heap.size w y.1 := bstep y.2 HG.out
            clear hcq
            generalize y.1 = w5 at *
            go_wp2
            go_ret
            exact ⟨ret_bool (by rw [HX.out]), o1⟩
          · have HR := hidE (show okAt (0, 0) l k = (decide (k = 0) || decide (ats l (k - 1) < ats l k)) by rw [HPV.out, hr, Bool.true_and])
            clear hr
            by_cases hk0 : k = 0
            · have HX := hidE (show ∀ i, i < k + 1 → okAt (0, 0) l i = true from fun i hi => by
                by_cases e : i = k
                · rw [e, HR.out, decide_eq_true hk0]; rfl
                · exact HS.out i (by omega))
              have hd : decide ((0 : Int) < (k : Int)) = false := decide_eq_false (by omega)
              clear hcp
              have hcq := Past.cell (W := w'')
              repeat (go_big_quiet_step (fail))
              refine wpQuiet_nil ?_
              rintro _ ⟨y, rfl⟩
              have o1 : Below w.heap.size w y.1 := bstep y.2 HG.out
              have o2 := HBN.out.past y.2
              clear hcq
              generalize y.1 = w5 at *
              go_wp2
              go_roundg (l.length - (k + 1))
              case measure => omega
              case rel => exact ⟨k + 1, by omega, Nat.le_refl _, by go_num, HX.out, o1, by rw [HPS.out]; exact o2⟩
            · obtain ⟨j, rfl⟩ : ∃ j, k = j + 1 := ⟨k - 1, by omega⟩
              have hd : decide ((0 : Int) < (j : Int) + 1) = true := decide_eq_true (by omega)
              obtain ⟨m0, m1, m2⟩ := HRAW.out.get (i := j) (by omega)
              clear m1 m2
              by_cases hle : ats l (j + 1) ≤ ats l j
              · have HX := hidE (mayB_bad hlt (show okAt (0, 0) l (j + 1) = false by
                  rw [HR.out, Nat.add_sub_cancel, decide_eq_false hk0, decide_eq_false (by omega)]; rfl))
                have hd2 : decide (ats l (j + 1) ≤ ats l j) = true := decide_eq_true hle
                clear hcp
                have hcq := Past.cell (W := w'')
                repeat (go_big_quiet_step (fail))
                refine wpQuiet_nil ?_
                rintro _ ⟨y, rfl⟩
                have o1 : Below w.heap.size w y.1 := bstep y.2 HG.out
                clear hcq
                generalize y.1 = w5 at *
                go_wp2
                go_ret
                exact ⟨ret_bool (by rw [HX.out]), o1⟩
              · have HX := hidE (show ∀ i, i < j + 1 + 1 → okAt (0, 0) l i = true from fun i hi => by
                  by_cases e : i = j + 1
                  · rw [e, HR.out, Nat.add_sub_cancel, decide_eq_true (show ats l j < ats l (j + 1) by omega), Bool.or_true]
                  · exact HS.out i (by omega))
                have hd2 : decide (ats l (j + 1) ≤ ats l j) = false := decide_eq_false hle
                clear hcp
                have hcq := Past.cell (W := w'')
                repeat (go_big_quiet_step (fail))
                refine wpQuiet_nil ?_
                rintro _ ⟨y, rfl⟩
                have o1 : Below w.heap.size w y.1 := bstep y.2 HG.out
                have o2 := HBN.out.past y.2
                clear hcq
                generalize y.1 = w5 at *
                go_wp2
                go_roundg (l.length - (j + 1 + 1))
                case measure => omega
                case rel => exact ⟨j + 1 + 1, by omega, Nat.le_refl _, by go_num, HX.out, o1, by rw [HPS.out]; exact o2⟩
    · have hk' : k = l.length := by omega
      subst hk'
      have HX := hidE (mayB_good HS.out)
      go_wp2
      go_ret
      exact ⟨ret_bool (by rw [HX.out]), HB.out⟩
end Go.Proofs.Ytibmldgbimjgfaa
