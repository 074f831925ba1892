/- The contract of (grid).rows: rows of quanta that are alike are handed on, one after the other. No conditions but sizes, that the slice's cells read as integers, and what the function that is handed the rows keeps. A row of runs that is appended to by a function value, round by round: where it lies, and what turns of memory leave it as it is. No function of the program. No conditions. The contract of the function that Quant hands to rows: it appends a run. No conditions. The rows of quanta, laid side by side: the runs made of them are the function in quanta. No program. No conditions. The contracts of quant.near and quant.Is. No conditions but the list's size, and that the slice's cells read as integers. slices.swapRangeCmpFunc over a row of integers of the call's own. No conditions but the row's size. slices.rotateCmpFunc over a row of integers of the call's own. No conditions but the row's size. slices.insertionSortCmpFunc over a row of indices of the call's own, by the comparison of the runs' times. No conditions but the row's size. slices.symMergeCmpFunc where the first row is one element. No conditions but the row's size. slices.symMergeCmpFunc where the second row is one element. No conditions but the row's size. slices.symMergeCmpFunc, its general case, and the whole. No conditions but the row's size. slices.SortStableFunc over a row of indices of the call's own, by the comparison of the runs' times. No conditions but the row's size. The contract of rle.inOrder: the places of the runs in the order of their times. No conditions but the list's size. -/
import Derived.Test.YtigepmijgoglhaaQGA
import Derived.Test.YtigepmijgoglhaaQGB
import Derived.Test.YtigepmijgoglhaaQMB
import Derived.Test.YtigepmijgoglhaaRows
import Derived.LoopTactic
import Derived.BigRegion
import Derived.Outline
import Derived.Deep.LoopGhost
import Derived.Deep.DeepCutAuto
import Derived.Laws.MakeOwn
import Derived.Laws.OwnMore
namespace Go.Proofs.Ytigepmijgoglhaa
open Go.ChangeShapes Go.WideShapes Go.ChangeAt Go.RowKit
attribute [local irreducible] Go.Calls

/-- What each is handed. -/
def encR (s : St) : Array Value := #[.int .i64 s.1, .int .i64 s.2.1, .agg #[.int .i64 s.2.2.1, .int .i64 s.2.2.2]]
abbrev GD (a : Option Addr) (n cap : Nat) (q x y : Int) : Value := .agg #[.slice a n cap, .int .i64 q, .int .i64 x, .int .i64 y]
/-- Between two rounds. -/
def RowsI (F : List Sg) (q x y : Int) (a : Option Addr) (cap : Nat) (w0 w : World) (J : List St → Option (Nat × Nat) → World → Prop) (gh : Nat) (v7 : Value) (wr : World) : Prop :=
  ∃ (k : Nat) (z : Int) (pre : List St) (g : Option (Nat × Nat)), v7 = .int .i64 z ∧ WalkAt F q x y z k ∧ (y - z).toNat ≤ gh ∧ endG x pre = z ∧ RowsN F q y z k pre.length ∧ J pre g wr ∧ (∀ b j, g = some (b, j) → w.heap.size + 2 ≤ b) ∧ Below w0.heap.size w0 wr ∧
    Blk wr w.heap.size #[.slice a F.length cap, .int .i64 q, .int .i64 x, .int .i64 y] 51 ∧ Blk wr (w.heap.size + 1) #[.slice a F.length cap, .int .i64 k] 65
set_option maxRecDepth 100000 in
set_option maxHeartbeats 2000000 in
theorem rows_hi_c (F : List Sg) (q x y : Int) (a : Option Addr) (cap : Nat) (lk : Array Value) (w0 w : World) (J : List St → Option (Nat × Nat) → World → Prop)
    (hl : F.length ≤ 1000000000) (hcap : F.length ≤ cap) (hcap2 : cap ≤ 9223372036854775807) (hA : ArgS w0 a F) (hb : Below w0.heap.size w0 w) (hF : Canon F) (hq : 1 ≤ q ∧ q ≤ 4096)
    (hxm : x % q = 0) (hym : y % q = 0) (hxy : x ≤ y) (hxl : -4398046511104 ≤ x) (hyl : y ≤ 4398046511104)
    (hJ : ∀ s g A B, J s g A → Below w.heap.size A B → (∀ b k, g = some (b, k) → B.heap[k]? = A.heap[k]?) → J s g B) (hJg : ∀ s g A, J s g A → ∀ b k, g = some (b, k) → b ≤ k ∧ k < A.heap.size)
    (hE : ∀ pre s g W1, J pre g W1 → w.heap.size ≤ W1.heap.size → pre.length ≤ 2 * F.length + 1 → RowAt (fun m => highN F m q.toNat) q x y pre s → Calls Try.prog 34 (encR s ++ lk) W1 fun e W' =>
      (∃ v, e = .returned v) ∧ ∃ g', J (pre ++ [s]) g' W' ∧ Below w0.heap.size W1 W' ∧ (∀ k, w.heap.size ≤ k → k < W1.heap.size → (∀ b j, g = some (b, j) → k < b) → W'.heap[k]? = W1.heap[k]?) ∧ (∀ b k, g' = some (b, k) → W1.heap.size ≤ b ∨ ∃ j, g = some (b, j)))
    (h0 : J [] none w) :
    Calls Try.prog 25 #[GD a F.length cap q x y, .func (.func 33) #[] #[], .func (.func 34) #[] lk] w fun e w' => (∃ v, e = .returned v) ∧ ∃ pre g, J pre g w' ∧ endG x pre = y ∧ pre.length ≤ 2 * F.length + 2 ∧ Below w0.heap.size w0 w' := by
  have HA := hidE hA; have HBW := hidE hb; have HF := hidE hF; have HJ := hidE hJ; have HJG := hidE hJg; have HE := hidE hE; have H0 := hidE h0
  have HQ := hidE hq; have HZ := hidE hb.size
  have hI0 : WalkAt F q x y x 0 := ⟨Nat.zero_le _, hxm, hym, Int.le_refl _, hxy, fun i hi => by omega⟩
  have HI0 := hidE hI0
  clear hA hb hF hJ hJg hE h0 hI0 hxm hym hxy
  go_enter Try.func25, Try.ntmps25
  go_wp2
  go_step3
  go_wp2
  go_region
  go_wp2
  go_step3
  go_wp2
  go_loopg [7] (y - x).toNat (fun gh v7 wr => RowsI F q x y a cap w0 w J gh v7 wr)
  case atStart =>
    refine ⟨0, x, [], none, rfl, HI0.out, Nat.le_refl _, rfl, .inl (Nat.zero_le _), HJ.out _ _ _ _ H0.out (by (repeat (first | exact Below.refl _ _ | assumption | refine balloc ?_ _ | refine below_drewN ?_ _ | refine bstep (by assumption) ?_ | refine bstep (Past.prop _) ?_ | refine Below.setCell ?_ (by first | exact Nat.le_refl _ | (simp; done) | (simp; omega)) _))) (fun b k h => by cases h), (fun b k h => by cases h), HBW.out.trans (Below.mono (by (repeat (first | exact Below.refl _ _ | assumption | refine balloc ?_ _ | refine below_drewN ?_ _ | refine bstep (by assumption) ?_ | refine bstep (Past.prop _) ?_ | refine Below.setCell ?_ (by first | exact Nat.le_refl _ | (simp; done) | (simp; omega)) _))) HZ.out), ?_, ?_⟩
    · exact (Blk.made _ _ _).alloc _
    · exact Blk.made_at _ _ _ _ (by simp)
  case round =>
    obtain ⟨k, z, pre, g, rfl, hw, hgh, he, hn, hJ1, hg2, hB1, b1, b2⟩ := hrel
    have HW := hidE hw; have HGH := hidE hgh; have HE0 := hidE he; have HJ1 := hidE hJ1; have HB1 := hidE hB1; have BA := hidE b1; have BB := hidE b2
    have HG2 := hidE (fun b j (e : g = some (b, j)) => show w.heap.size + 2 ≤ j ∧ j < wr.heap.size from by have h1 := hg2 b j e; have h2 := HJG.out _ _ _ hJ1 b j e; omega)
    have c0 := b1.cell 0; have c1 := b1.cell 1; have c2 := b1.cell 2; have c3 := b1.cell 3; have cz := b1.lt; have d0 := b2.cell 0; have d1 := b2.cell 1; have dz := b2.lt
    simp at c0 c1 c2 c3 d0 d1
    have HGB := hidE hg2; have HNN := hidE hn
    have HNL := hidE (rowsN_le hw.hk hn)
    clear hn hgh he hJ1 hg2 hB1 b1 b2 HI0 H0
    obtain ⟨wo, hwo⟩ : ∃ wo : World, wo = wr := ⟨_, rfl⟩
    by_cases hz : z < y
    · have e1 : decide (z < y) = true := decide_eq_true hz
      have wq : IntKind.i64.wrap (z + q) = z + q := IntWalk.i64_in _ (by have := hw.zy; have := hw.xz; omega)
      have HZY := hidE hz
      have HZR := hidE (show -4398046511104 ≤ z ∧ z ≤ 4398046511104 by have := hw.zy; have := hw.xz; omega)
      have HRD := hidE (fun W hb hB => read_c F k (z + q) (w.heap.size + 1) a cap w0 W hl hcap hcap2 HA.out hb (by have := HZ.out; omega) hw.hk hB)
      clear hz hw
      go_wp2
      go_quiet (fail)
      go_wp2_with fail
      ((with_reducible refine (HRD.out _ (below_drewN HB1.out _) (BB.out.drew _)).mono ?_))
      rintro e w1 ⟨k', a', c', r1, r2, r3, r4, rfl, r5, r6, r7, r8⟩
      have HR := hidE (show ReadAt F z (z + q) k k' from ⟨r1, r2, r3, fun i h1 h2 => by
        rcases r4 with r4 | r4
        · omega
        · by_cases c : k' = i
          · rw [← c]; exact r4
          · have := canon_asc HF.out k' i (by omega) h2; omega⟩)
      have hb1 : Below w0.heap.size w0 w1 := (below_drewN HB1.out _).grown r8 HB1.out.size (fun j e => by cases e; have := HZ.out; omega)
      have HV := hidE (show highS (readL F k k') z (z + q) = ((highN F z q.toNat).1, (highN F z q.toNat).2, 0) by
        rw [highS_ok (badW_ok (mayB_iff.2 (readL_canon HF.out r2)) (wndB_iff.2 (by have := HZR.out; omega))), show z + q - z = q by omega, highN_read hq.1 HW.out HR.out])
      have HO := hidE (fun W hA => high_c (readL F k k') z (z + q) a' c' W (by omega) hA)
      rw [HV.out] at HO
      have HA6 := hidE r6; have HB1' := hidE hb1; have HR7 := hidE r7; have HR8 := hidE r8
      have HLR := hidE (show k' = k ∨ k < k' by omega)
      have HLR2 := hidE r2
      clear HV hb1 r1 r2 r3 r4 r5 r6 r7 r8 HRD
      have hop : ∃ hv, hv = highN F z q.toNat := ⟨_, rfl⟩
      obtain ⟨hv, hop⟩ := hop
      have HOP := hidE hop
      rw [← hop] at HO
      clear hop
      generalize (readL F k k').length = rl at *
      go_wp2_with fail
      ((with_reducible refine (HO.out _ (HA6.out.past HB1'.out)).mono ?_))
      rintro e w2 ⟨rfl, hb2⟩
      have hzr : wr.heap.size ≤ w1.heap.size := HR8.out.size
      have hz2 := hb2.size
      have BA2 : Blk w2 w.heap.size #[.slice a F.length cap, .int .i64 q, .int .i64 x, .int .i64 y] 51 := ((BA.out.drew _).grown HR8.out (by simp)).past hb2
      have BB2 : Blk w2 (w.heap.size + 1) #[.slice a F.length cap, .int .i64 k'] 65 := HR7.out.past hb2
      have hbw2 : Below w.heap.size wr w2 := ((below_drewN (Below.refl _ wr) _).grown HR8.out (by simp; omega) (fun j e => by cases e; omega)).trans (hb2.mono (by omega))
      have hb02 : Below w0.heap.size w0 w2 := HB1'.out.trans (hb2.mono HB1'.out.size)
      have hk2 : ∀ b j, g = some (b, j) → w2.heap[j]? = wr.heap[j]? := fun b j e => by
        obtain ⟨q1, q2⟩ := HG2.out b j e
        exact (hb2.block j (by omega)).trans (HR8.out.block j (by simpa using q2) (fun e => by cases e; omega))
      have HX3 := hidE (fun (o : Obj) => show J pre g (w2.alloc o) from HJ.out _ _ _ _ HJ1.out (hbw2.alloc (by omega) o) (fun b j e => (keptA (by have := (HG2.out b j e).2; omega) o).trans (hk2 b j e)))
      have c0 := BA2.cell 0; have c1 := BA2.cell 1; have c2 := BA2.cell 2; have c3 := BA2.cell 3; have cz := BA2.lt; have d0 := BB2.cell 0; have d1 := BB2.cell 1; have dz := BB2.lt
      simp at c0 c1 c2 c3 d0 d1
      have HBA3 := hidE (fun (o : Obj) => BA2.alloc o); have HBB3 := hidE (fun (o : Obj) => BB2.alloc o)
      have HB3 := hidE (fun (o : Obj) => hb02.alloc (by have := HZ.out; omega) o)
      have hwz : w.heap.size ≤ w2.heap.size := by omega
      have HZ2 := hidE (show wr.heap.size ≤ w2.heap.size by omega)
      have hB02 := hidE hb02
      clear hb2 hzr BA2 BB2 hbw2 hb02 hk2 HR7 HR8 HB1' HA6
      rcases HLR.out with hkk | hkk
      · by_cases hlen : k' = F.length
        · have e3 : decide (k < k') = false := decide_eq_false (by omega)
          have e4 : decide ((k : Int) < (k' : Int)) = false := decide_eq_false (by omega)
          have e5 : ((k' : Int) == (F.length : Int)) = true := beq_iff_eq.2 (by omega)
          have HN := hidE (highN_last (pre := pre) hq.1 HW.out HZY.out (by omega) HE0.out)
          rw [← HOP.out] at HN
          have HC := hidE (fun o => HE.out pre (z, y, hv) g (w2.alloc o) (HX3.out o) (by simp; omega) HNL.out HN.out)
          dsimp only [encR] at HC
          clear hlen hkk
          go_wp2_with fail
          have HC := hidE (HC.out (Obj.cells #[.int .i64 hv.1, .int .i64 hv.2] 35))
          have HBA3 := hidE (HBA3.out (Obj.cells #[.int .i64 hv.1, .int .i64 hv.2] 35))
          have HBB3 := hidE (HBB3.out (Obj.cells #[.int .i64 hv.1, .int .i64 hv.2] 35))
          have HB3 := hidE (HB3.out (Obj.cells #[.int .i64 hv.1, .int .i64 hv.2] 35))
          ((with_reducible refine (HC.out).mono ?_))
          rintro e w4 ⟨⟨v, rfl⟩, g', hJ4, hb4, hk4, hg4⟩
          have BA4 : Blk w4 w.heap.size #[.slice a F.length cap, .int .i64 q, .int .i64 x, .int .i64 y] 51 := (hk4 _ (Nat.le_refl _) HBA3.out.lt (fun b j e => by have := HGB.out b j e; omega)).trans HBA3.out
          have BB4 : Blk w4 (w.heap.size + 1) #[.slice a F.length cap, .int .i64 k'] 65 := (hk4 _ (by omega) HBB3.out.lt (fun b j e => by have := HGB.out b j e; omega)).trans HBB3.out
          have HBA4 := hidE BA4; have HBB4 := hidE BB4; have HJ4 := hidE hJ4
          have HB4 := hidE (HB3.out.trans hb4)
          have HGB4 := hidE (fun b j (e : g' = some (b, j)) => show w.heap.size + 2 ≤ b from by
            rcases hg4 b j e with h | ⟨j', h⟩
            · have := HBB3.out.lt; omega
            · exact HGB.out b j' h)
          clear hJ4 hb4 hk4 hg4 BA4 BB4
          go_wp2
          rw [Exit.noGoto_normal]
          go_end0
          exact ⟨⟨_, rfl⟩, pre ++ [(z, y, hv)], g', HJ4.out, endG_snoc _ _ _, by rw [List.length_append]; have := HNL.out; simp; omega, HB4.out⟩
        · have e3 : decide (k < k') = false := decide_eq_false (by omega)
          have e4 : decide ((k : Int) < (k' : Int)) = false := decide_eq_false (by omega)
          have e5 : ((k' : Int) == (F.length : Int)) = false := beq_eq_false_iff_ne.2 (by omega)
          have hlt : k' < F.length := by have := HLR2.out; omega
          have hR := HR.out
          rw [hkk] at hR
          obtain ⟨d, hd⟩ : ∃ d, d = mn (downI (ats F k) q) y := ⟨_, rfl⟩
          have HN := hidE (highN_skip (pre := pre) hq.1 HW.out HZY.out hR (by omega) (fun i h1 h2 => by have := canon_asc HF.out k i h1 h2; omega) HE0.out hd)
          rw [← HOP.out] at HN
          rw [← hkk] at hd HN
          have hat := okT_iff.1 (okT_of (CF.ok HF.out) (List.getElem_mem hlt))
          have hat2 : -1125899906842624 ≤ ats F k' ∧ ats F k' ≤ 1125899906842624 := by unfold ats; rw [getD_get _ _ _ hlt]; exact hat
          have HD := hidE (fun W => down_c (ats F k') q W HQ.out (by omega))
          have HDD := hidE (show (if y < downI (ats F k') q then y else downI (ats F k') q) = d by rw [hd]; unfold mn; split <;> split <;> omega)
          have HNS := hidE (show RowsN F q y d k' (pre ++ [(z, d, hv)]).length from rowsN_skip (s := (z, d, hv)) (by rw [hkk]; exact HNN.out) HZY.out (by rw [hkk] at hlt ⊢; exact hR.hi k (Nat.le_refl _) hlt) hlt HQ.out.1 hd)
          have HDG := hidE (show z < d from HN.out.1.lt)
          have HDY := hidE (show d ≤ y from HN.out.1.ly)
          obtain ⟨b, off, rfl, hbb, hcc⟩ := HA.out (by omega)
          obtain ⟨f0, _, _⟩ := (hcc.below (hB02.out) hbb).get hlt
          have hbz : b < w2.heap.size := by have := hB02.out.size; omega
          have HC := hidE (fun W (h : J pre g W) hz => HE.out pre (z, d, hv) g W h hz HNL.out HN.out.1)
          dsimp only [encR] at HC
          clear hlen hkk hR hd hat hat2 hcc
          generalize ats F k' = u at *
          go_wp2_with fail
          refine wp_region_past_lit (by kernel_rfl) (by kernel_rfl) ?_
          have hcp := Past.cell (W := w2.alloc (Obj.cells #[.int .i64 hv.1, .int .i64 hv.2] 35))
          repeat (go_big_quiet_step ((go_at_call 13; exact Past.call _ (HD.out _))))
          refine wpQuiet_nil ?_
          rintro _ ⟨x', rfl⟩
          rw [HDD.out]
          have hx := x'.2
          have hxz := hx.size
          simp at hxz
          have HBA3 := hidE ((HBA3.out (Obj.cells #[.int .i64 hv.1, .int .i64 hv.2] 35)).past hx)
          have HBB3 := hidE ((HBB3.out (Obj.cells #[.int .i64 hv.1, .int .i64 hv.2] 35)).past hx)
          have HB3 := hidE ((HB3.out (Obj.cells #[.int .i64 hv.1, .int .i64 hv.2] 35)).trans (hx.mono (HB3.out _).size))
          have HX4 := hidE (HJ.out _ _ _ _ (HX3.out (Obj.cells #[.int .i64 hv.1, .int .i64 hv.2] 35)) (hx.mono (by simp; omega)) (fun b j e => hx.block j (by have := (HG2.out b j e).2; have := HZ2.out; simp; omega)))
          have BV := (Blk.made w2 #[.int .i64 hv.1, .int .i64 hv.2] 35).past hx
          have c0 := HBA3.out.cell 0; have c1 := HBA3.out.cell 1; have c2 := HBA3.out.cell 2; have c3 := HBA3.out.cell 3; have cz := HBA3.out.lt; have d0 := HBB3.out.cell 0; have d1 := HBB3.out.cell 1; have dz := HBB3.out.lt
          have g0 := BV.cell 0; have g1 := BV.cell 1; have gz := BV.lt
          simp at c0 c1 c2 c3 d0 d1 g0 g1
          clear hcp hx BV f0
          generalize x'.1 = w5 at *
          go_wp2_with fail
          have HC := hidE (HC.out _ HX4.out (by omega))
          ((with_reducible refine (HC.out).mono ?_))
          rintro e w4 ⟨⟨v, rfl⟩, g', hJ4, hb4, hk4, hg4⟩
          have BA4 : Blk w4 w.heap.size #[.slice (some ⟨b, off, none⟩) F.length cap, .int .i64 q, .int .i64 x, .int .i64 y] 51 := (hk4 _ (Nat.le_refl _) HBA3.out.lt (fun b j e => by have := HGB.out b j e; omega)).trans HBA3.out
          have BB4 : Blk w4 (w.heap.size + 1) #[.slice (some ⟨b, off, none⟩) F.length cap, .int .i64 k'] 65 := (hk4 _ (by omega) HBB3.out.lt (fun b j e => by have := HGB.out b j e; omega)).trans HBB3.out
          have HBA4 := hidE BA4; have HBB4 := hidE BB4; have HJ4 := hidE hJ4
          have HB4 := hidE (HB3.out.trans hb4)
          have HGB4 := hidE (fun b j (e : g' = some (b, j)) => show w.heap.size + 2 ≤ b from by
            rcases hg4 b j e with h | ⟨j', h⟩
            · have := HBB3.out.lt; omega
            · exact HGB.out b j' h)
          clear hJ4 hb4 hk4 hg4 BA4 BB4
          go_wp2
          go_roundg (y - d).toNat
          case measure => have := HGH.out; have := HZY.out; have := HDG.out; omega
          case rel => exact ⟨k', d, pre ++ [(z, d, hv)], g', rfl, HN.out.2, Nat.le_refl _, endG_snoc _ _ _, HNS.out, HJ4.out, HGB4.out, HB4.out, HBA4.out, HBB4.out⟩
      · have e3 : decide (k < k') = true := decide_eq_true hkk
        have e4 : decide ((k : Int) < (k' : Int)) = true := decide_eq_true (by omega)
        have HNL2 := hidE (rowsN_le2 HNN.out)
        have HN := hidE (highN_one (pre := pre) hq.1 HW.out HZY.out HR.out HE0.out)
        rw [← HOP.out] at HN
        have HC := hidE (fun o => HE.out pre (z, z + q, hv) g (w2.alloc o) (HX3.out o) (by simp; omega) HNL.out HN.out.1)
        dsimp only [encR] at HC
        go_wp2_with fail
        have HC := hidE (HC.out (Obj.cells #[.int .i64 hv.1, .int .i64 hv.2] 35))
        have HBA3 := hidE (HBA3.out (Obj.cells #[.int .i64 hv.1, .int .i64 hv.2] 35))
        have HBB3 := hidE (HBB3.out (Obj.cells #[.int .i64 hv.1, .int .i64 hv.2] 35))
        have HB3 := hidE (HB3.out (Obj.cells #[.int .i64 hv.1, .int .i64 hv.2] 35))
        ((with_reducible refine (HC.out).mono ?_))
        rintro e w4 ⟨⟨v, rfl⟩, g', hJ4, hb4, hk4, hg4⟩
        have BA4 : Blk w4 w.heap.size #[.slice a F.length cap, .int .i64 q, .int .i64 x, .int .i64 y] 51 := (hk4 _ (Nat.le_refl _) HBA3.out.lt (fun b j e => by have := HGB.out b j e; omega)).trans HBA3.out
        have BB4 : Blk w4 (w.heap.size + 1) #[.slice a F.length cap, .int .i64 k'] 65 := (hk4 _ (by omega) HBB3.out.lt (fun b j e => by have := HGB.out b j e; omega)).trans HBB3.out
        have HBA4 := hidE BA4; have HBB4 := hidE BB4; have HJ4 := hidE hJ4
        have HB4 := hidE (HB3.out.trans hb4)
        have HGB4 := hidE (fun b j (e : g' = some (b, j)) => show w.heap.size + 2 ≤ b from by
          rcases hg4 b j e with h | ⟨j', h⟩
          · have := HBB3.out.lt; omega
          · exact HGB.out b j' h)
        clear hJ4 hb4 hk4 hg4 BA4 BB4
        go_wp2
        go_roundg (y - (z + q)).toNat
        case measure => have := HGH.out; have := HZY.out; omega
        case rel => exact ⟨k', z + q, pre ++ [(z, z + q, hv)], g', rfl, HN.out.2, Nat.le_refl _, endG_snoc _ _ _, rowsN_one HNL2.out hkk, HJ4.out, HGB4.out, HB4.out, HBA4.out, HBB4.out⟩
    · have e1 : decide (z < y) = false := decide_eq_false hz
      have HZY := hidE (show z = y by have := hw.zy; omega)
      clear hz hw
      go_wp2
      rw [Exit.noGoto_normal]
      go_end0
      exact ⟨⟨_, rfl⟩, pre, g, HJ1.out, HE0.out.trans HZY.out, by have := HNL.out; omega, HB1.out⟩
set_option maxRecDepth 100000 in
set_option maxHeartbeats 2000000 in
theorem rows_su_c (F : List Sg) (q x y : Int) (a : Option Addr) (cap : Nat) (lk : Array Value) (w0 w : World) (J : List St → Option (Nat × Nat) → World → Prop)
    (hl : F.length ≤ 1000000000) (hcap : F.length ≤ cap) (hcap2 : cap ≤ 9223372036854775807) (hA : ArgS w0 a F) (hb : Below w0.heap.size w0 w) (hF : Canon F) (hq : 1 ≤ q ∧ q ≤ 4096)
    (hxm : x % q = 0) (hym : y % q = 0) (hxy : x ≤ y) (hxl : -4398046511104 ≤ x) (hyl : y ≤ 4398046511104)
    (hJ : ∀ s g A B, J s g A → Below w.heap.size A B → (∀ b k, g = some (b, k) → B.heap[k]? = A.heap[k]?) → J s g B) (hJg : ∀ s g A, J s g A → ∀ b k, g = some (b, k) → b ≤ k ∧ k < A.heap.size)
    (hE : ∀ pre s g W1, J pre g W1 → w.heap.size ≤ W1.heap.size → pre.length ≤ 2 * F.length + 1 → RowAt (fun m => sumN F m q.toNat) q x y pre s → Calls Try.prog 27 (encR s ++ lk) W1 fun e W' =>
      (∃ v, e = .returned v) ∧ ∃ g', J (pre ++ [s]) g' W' ∧ Below w0.heap.size W1 W' ∧ (∀ k, w.heap.size ≤ k → k < W1.heap.size → (∀ b j, g = some (b, j) → k < b) → W'.heap[k]? = W1.heap[k]?) ∧ (∀ b k, g' = some (b, k) → W1.heap.size ≤ b ∨ ∃ j, g = some (b, j)))
    (h0 : J [] none w) :
    Calls Try.prog 25 #[GD a F.length cap q x y, .func (.func 26) #[] #[], .func (.func 27) #[] lk] w fun e w' => (∃ v, e = .returned v) ∧ ∃ pre g, J pre g w' ∧ endG x pre = y ∧ pre.length ≤ 2 * F.length + 2 ∧ Below w0.heap.size w0 w' := by
  have HA := hidE hA; have HBW := hidE hb; have HF := hidE hF; have HJ := hidE hJ; have HJG := hidE hJg; have HE := hidE hE; have H0 := hidE h0
  have HQ := hidE hq; have HZ := hidE hb.size
  have hI0 : WalkAt F q x y x 0 := ⟨Nat.zero_le _, hxm, hym, Int.le_refl _, hxy, fun i hi => by omega⟩
  have HI0 := hidE hI0
  clear hA hb hF hJ hJg hE h0 hI0 hxm hym hxy
  go_enter Try.func25, Try.ntmps25
  go_wp2
  go_step3
  go_wp2
  go_region
  go_wp2
  go_step3
  go_wp2
  go_loopg [7] (y - x).toNat (fun gh v7 wr => RowsI F q x y a cap w0 w J gh v7 wr)
  case atStart =>
    refine ⟨0, x, [], none, rfl, HI0.out, Nat.le_refl _, rfl, .inl (Nat.zero_le _), HJ.out _ _ _ _ H0.out (by (repeat (first | exact Below.refl _ _ | assumption | refine balloc ?_ _ | refine below_drewN ?_ _ | refine bstep (by assumption) ?_ | refine bstep (Past.prop _) ?_ | refine Below.setCell ?_ (by first | exact Nat.le_refl _ | (simp; done) | (simp; omega)) _))) (fun b k h => by cases h), (fun b k h => by cases h), HBW.out.trans (Below.mono (by (repeat (first | exact Below.refl _ _ | assumption | refine balloc ?_ _ | refine below_drewN ?_ _ | refine bstep (by assumption) ?_ | refine bstep (Past.prop _) ?_ | refine Below.setCell ?_ (by first | exact Nat.le_refl _ | (simp; done) | (simp; omega)) _))) HZ.out), ?_, ?_⟩
    · exact (Blk.made _ _ _).alloc _
    · exact Blk.made_at _ _ _ _ (by simp)
  case round =>
    obtain ⟨k, z, pre, g, rfl, hw, hgh, he, hn, hJ1, hg2, hB1, b1, b2⟩ := hrel
    have HW := hidE hw; have HGH := hidE hgh; have HE0 := hidE he; have HJ1 := hidE hJ1; have HB1 := hidE hB1; have BA := hidE b1; have BB := hidE b2
    have HG2 := hidE (fun b j (e : g = some (b, j)) => show w.heap.size + 2 ≤ j ∧ j < wr.heap.size from by have h1 := hg2 b j e; have h2 := HJG.out _ _ _ hJ1 b j e; omega)
    have c0 := b1.cell 0; have c1 := b1.cell 1; have c2 := b1.cell 2; have c3 := b1.cell 3; have cz := b1.lt; have d0 := b2.cell 0; have d1 := b2.cell 1; have dz := b2.lt
    simp at c0 c1 c2 c3 d0 d1
    have HGB := hidE hg2; have HNN := hidE hn
    have HNL := hidE (rowsN_le hw.hk hn)
    clear hn hgh he hJ1 hg2 hB1 b1 b2 HI0 H0
    obtain ⟨wo, hwo⟩ : ∃ wo : World, wo = wr := ⟨_, rfl⟩
    by_cases hz : z < y
    · have e1 : decide (z < y) = true := decide_eq_true hz
      have wq : IntKind.i64.wrap (z + q) = z + q := IntWalk.i64_in _ (by have := hw.zy; have := hw.xz; omega)
      have HZY := hidE hz
      have HZR := hidE (show -4398046511104 ≤ z ∧ z ≤ 4398046511104 by have := hw.zy; have := hw.xz; omega)
      have HRD := hidE (fun W hb hB => read_c F k (z + q) (w.heap.size + 1) a cap w0 W hl hcap hcap2 HA.out hb (by have := HZ.out; omega) hw.hk hB)
      clear hz hw
      go_wp2
      go_quiet (fail)
      go_wp2_with fail
      ((with_reducible refine (HRD.out _ (below_drewN HB1.out _) (BB.out.drew _)).mono ?_))
      rintro e w1 ⟨k', a', c', r1, r2, r3, r4, rfl, r5, r6, r7, r8⟩
      have HR := hidE (show ReadAt F z (z + q) k k' from ⟨r1, r2, r3, fun i h1 h2 => by
        rcases r4 with r4 | r4
        · omega
        · by_cases c : k' = i
          · rw [← c]; exact r4
          · have := canon_asc HF.out k' i (by omega) h2; omega⟩)
      have hb1 : Below w0.heap.size w0 w1 := (below_drewN HB1.out _).grown r8 HB1.out.size (fun j e => by cases e; have := HZ.out; omega)
      have HV := hidE (show totS (readL F k k') z (z + q) = ((sumN F z q.toNat).1, (sumN F z q.toNat).2, 0) by
        rw [totS_ok (badW_ok (mayB_iff.2 (readL_canon HF.out r2)) (wndB_iff.2 (by have := HZR.out; omega))), show z + q - z = q by omega, sumN_read hq.1 HW.out HR.out])
      have HO := hidE (fun W hA => sum_c (readL F k k') z (z + q) a' c' W (by omega) hA)
      rw [HV.out] at HO
      have HA6 := hidE r6; have HB1' := hidE hb1; have HR7 := hidE r7; have HR8 := hidE r8
      have HLR := hidE (show k' = k ∨ k < k' by omega)
      have HLR2 := hidE r2
      clear HV hb1 r1 r2 r3 r4 r5 r6 r7 r8 HRD
      have hop : ∃ hv, hv = sumN F z q.toNat := ⟨_, rfl⟩
      obtain ⟨hv, hop⟩ := hop
      have HOP := hidE hop
      rw [← hop] at HO
      clear hop
      generalize (readL F k k').length = rl at *
      go_wp2_with fail
      ((with_reducible refine (HO.out _ (HA6.out.past HB1'.out)).mono ?_))
      rintro e w2 ⟨rfl, hb2⟩
      have hzr : wr.heap.size ≤ w1.heap.size := HR8.out.size
      have hz2 := hb2.size
      have BA2 : Blk w2 w.heap.size #[.slice a F.length cap, .int .i64 q, .int .i64 x, .int .i64 y] 51 := ((BA.out.drew _).grown HR8.out (by simp)).past hb2
      have BB2 : Blk w2 (w.heap.size + 1) #[.slice a F.length cap, .int .i64 k'] 65 := HR7.out.past hb2
      have hbw2 : Below w.heap.size wr w2 := ((below_drewN (Below.refl _ wr) _).grown HR8.out (by simp; omega) (fun j e => by cases e; omega)).trans (hb2.mono (by omega))
      have hb02 : Below w0.heap.size w0 w2 := HB1'.out.trans (hb2.mono HB1'.out.size)
      have hk2 : ∀ b j, g = some (b, j) → w2.heap[j]? = wr.heap[j]? := fun b j e => by
        obtain ⟨q1, q2⟩ := HG2.out b j e
        exact (hb2.block j (by omega)).trans (HR8.out.block j (by simpa using q2) (fun e => by cases e; omega))
      have HX3 := hidE (fun (o : Obj) => show J pre g (w2.alloc o) from HJ.out _ _ _ _ HJ1.out (hbw2.alloc (by omega) o) (fun b j e => (keptA (by have := (HG2.out b j e).2; omega) o).trans (hk2 b j e)))
      have c0 := BA2.cell 0; have c1 := BA2.cell 1; have c2 := BA2.cell 2; have c3 := BA2.cell 3; have cz := BA2.lt; have d0 := BB2.cell 0; have d1 := BB2.cell 1; have dz := BB2.lt
      simp at c0 c1 c2 c3 d0 d1
      have HBA3 := hidE (fun (o : Obj) => BA2.alloc o); have HBB3 := hidE (fun (o : Obj) => BB2.alloc o)
      have HB3 := hidE (fun (o : Obj) => hb02.alloc (by have := HZ.out; omega) o)
      have hwz : w.heap.size ≤ w2.heap.size := by omega
      have HZ2 := hidE (show wr.heap.size ≤ w2.heap.size by omega)
      have hB02 := hidE hb02
      clear hb2 hzr BA2 BB2 hbw2 hb02 hk2 HR7 HR8 HB1' HA6
      rcases HLR.out with hkk | hkk
      · by_cases hlen : k' = F.length
        · have e3 : decide (k < k') = false := decide_eq_false (by omega)
          have e4 : decide ((k : Int) < (k' : Int)) = false := decide_eq_false (by omega)
          have e5 : ((k' : Int) == (F.length : Int)) = true := beq_iff_eq.2 (by omega)
          have HN := hidE (sumN_last (pre := pre) hq.1 HW.out HZY.out (by omega) HE0.out)
          rw [← HOP.out] at HN
          have HC := hidE (fun o => HE.out pre (z, y, hv) g (w2.alloc o) (HX3.out o) (by simp; omega) HNL.out HN.out)
          dsimp only [encR] at HC
          clear hlen hkk
          go_wp2_with fail
          have HC := hidE (HC.out (Obj.cells #[.int .i64 hv.1, .int .i64 hv.2] 35))
          have HBA3 := hidE (HBA3.out (Obj.cells #[.int .i64 hv.1, .int .i64 hv.2] 35))
          have HBB3 := hidE (HBB3.out (Obj.cells #[.int .i64 hv.1, .int .i64 hv.2] 35))
          have HB3 := hidE (HB3.out (Obj.cells #[.int .i64 hv.1, .int .i64 hv.2] 35))
          ((with_reducible refine (HC.out).mono ?_))
          rintro e w4 ⟨⟨v, rfl⟩, g', hJ4, hb4, hk4, hg4⟩
          have BA4 : Blk w4 w.heap.size #[.slice a F.length cap, .int .i64 q, .int .i64 x, .int .i64 y] 51 := (hk4 _ (Nat.le_refl _) HBA3.out.lt (fun b j e => by have := HGB.out b j e; omega)).trans HBA3.out
          have BB4 : Blk w4 (w.heap.size + 1) #[.slice a F.length cap, .int .i64 k'] 65 := (hk4 _ (by omega) HBB3.out.lt (fun b j e => by have := HGB.out b j e; omega)).trans HBB3.out
          have HBA4 := hidE BA4; have HBB4 := hidE BB4; have HJ4 := hidE hJ4
          have HB4 := hidE (HB3.out.trans hb4)
          have HGB4 := hidE (fun b j (e : g' = some (b, j)) => show w.heap.size + 2 ≤ b from by
            rcases hg4 b j e with h | ⟨j', h⟩
            · have := HBB3.out.lt; omega
            · exact HGB.out b j' h)
          clear hJ4 hb4 hk4 hg4 BA4 BB4
          go_wp2
          rw [Exit.noGoto_normal]
          go_end0
          exact ⟨⟨_, rfl⟩, pre ++ [(z, y, hv)], g', HJ4.out, endG_snoc _ _ _, by rw [List.length_append]; have := HNL.out; simp; omega, HB4.out⟩
        · have e3 : decide (k < k') = false := decide_eq_false (by omega)
          have e4 : decide ((k : Int) < (k' : Int)) = false := decide_eq_false (by omega)
          have e5 : ((k' : Int) == (F.length : Int)) = false := beq_eq_false_iff_ne.2 (by omega)
          have hlt : k' < F.length := by have := HLR2.out; omega
          have hR := HR.out
          rw [hkk] at hR
          obtain ⟨d, hd⟩ : ∃ d, d = mn (downI (ats F k) q) y := ⟨_, rfl⟩
          have HN := hidE (sumN_skip (pre := pre) hq.1 HW.out HZY.out hR (by omega) (fun i h1 h2 => by have := canon_asc HF.out k i h1 h2; omega) HE0.out hd)
          rw [← HOP.out] at HN
          rw [← hkk] at hd HN
          have hat := okT_iff.1 (okT_of (CF.ok HF.out) (List.getElem_mem hlt))
          have hat2 : -1125899906842624 ≤ ats F k' ∧ ats F k' ≤ 1125899906842624 := by unfold ats; rw [getD_get _ _ _ hlt]; exact hat
          have HD := hidE (fun W => down_c (ats F k') q W HQ.out (by omega))
          have HDD := hidE (show (if y < downI (ats F k') q then y else downI (ats F k') q) = d by rw [hd]; unfold mn; split <;> split <;> omega)
          have HNS := hidE (show RowsN F q y d k' (pre ++ [(z, d, hv)]).length from rowsN_skip (s := (z, d, hv)) (by rw [hkk]; exact HNN.out) HZY.out (by rw [hkk] at hlt ⊢; exact hR.hi k (Nat.le_refl _) hlt) hlt HQ.out.1 hd)
          have HDG := hidE (show z < d from HN.out.1.lt)
          have HDY := hidE (show d ≤ y from HN.out.1.ly)
          obtain ⟨b, off, rfl, hbb, hcc⟩ := HA.out (by omega)
          obtain ⟨f0, _, _⟩ := (hcc.below (hB02.out) hbb).get hlt
          have hbz : b < w2.heap.size := by have := hB02.out.size; omega
          have HC := hidE (fun W (h : J pre g W) hz => HE.out pre (z, d, hv) g W h hz HNL.out HN.out.1)
          dsimp only [encR] at HC
          clear hlen hkk hR hd hat hat2 hcc
          generalize ats F k' = u at *
          go_wp2_with fail
          refine wp_region_past_lit (by kernel_rfl) (by kernel_rfl) ?_
          have hcp := Past.cell (W := w2.alloc (Obj.cells #[.int .i64 hv.1, .int .i64 hv.2] 35))
          repeat (go_big_quiet_step ((go_at_call 13; exact Past.call _ (HD.out _))))
          refine wpQuiet_nil ?_
          rintro _ ⟨x', rfl⟩
          rw [HDD.out]
          have hx := x'.2
          have hxz := hx.size
          simp at hxz
          have HBA3 := hidE ((HBA3.out (Obj.cells #[.int .i64 hv.1, .int .i64 hv.2] 35)).past hx)
          have HBB3 := hidE ((HBB3.out (Obj.cells #[.int .i64 hv.1, .int .i64 hv.2] 35)).past hx)
          have HB3 := hidE ((HB3.out (Obj.cells #[.int .i64 hv.1, .int .i64 hv.2] 35)).trans (hx.mono (HB3.out _).size))
          have HX4 := hidE (HJ.out _ _ _ _ (HX3.out (Obj.cells #[.int .i64 hv.1, .int .i64 hv.2] 35)) (hx.mono (by simp; omega)) (fun b j e => hx.block j (by have := (HG2.out b j e).2; have := HZ2.out; simp; omega)))
          have BV := (Blk.made w2 #[.int .i64 hv.1, .int .i64 hv.2] 35).past hx
          have c0 := HBA3.out.cell 0; have c1 := HBA3.out.cell 1; have c2 := HBA3.out.cell 2; have c3 := HBA3.out.cell 3; have cz := HBA3.out.lt; have d0 := HBB3.out.cell 0; have d1 := HBB3.out.cell 1; have dz := HBB3.out.lt
          have g0 := BV.cell 0; have g1 := BV.cell 1; have gz := BV.lt
          simp at c0 c1 c2 c3 d0 d1 g0 g1
          clear hcp hx BV f0
          generalize x'.1 = w5 at *
          go_wp2_with fail
          have HC := hidE (HC.out _ HX4.out (by omega))
          ((with_reducible refine (HC.out).mono ?_))
          rintro e w4 ⟨⟨v, rfl⟩, g', hJ4, hb4, hk4, hg4⟩
          have BA4 : Blk w4 w.heap.size #[.slice (some ⟨b, off, none⟩) F.length cap, .int .i64 q, .int .i64 x, .int .i64 y] 51 := (hk4 _ (Nat.le_refl _) HBA3.out.lt (fun b j e => by have := HGB.out b j e; omega)).trans HBA3.out
          have BB4 : Blk w4 (w.heap.size + 1) #[.slice (some ⟨b, off, none⟩) F.length cap, .int .i64 k'] 65 := (hk4 _ (by omega) HBB3.out.lt (fun b j e => by have := HGB.out b j e; omega)).trans HBB3.out
          have HBA4 := hidE BA4; have HBB4 := hidE BB4; have HJ4 := hidE hJ4
          have HB4 := hidE (HB3.out.trans hb4)
          have HGB4 := hidE (fun b j (e : g' = some (b, j)) => show w.heap.size + 2 ≤ b from by
            rcases hg4 b j e with h | ⟨j', h⟩
            · have := HBB3.out.lt; omega
            · exact HGB.out b j' h)
          clear hJ4 hb4 hk4 hg4 BA4 BB4
          go_wp2
          go_roundg (y - d).toNat
          case measure => have := HGH.out; have := HZY.out; have := HDG.out; omega
          case rel => exact ⟨k', d, pre ++ [(z, d, hv)], g', rfl, HN.out.2, Nat.le_refl _, endG_snoc _ _ _, HNS.out, HJ4.out, HGB4.out, HB4.out, HBA4.out, HBB4.out⟩
      · have e3 : decide (k < k') = true := decide_eq_true hkk
        have e4 : decide ((k : Int) < (k' : Int)) = true := decide_eq_true (by omega)
        have HNL2 := hidE (rowsN_le2 HNN.out)
        have HN := hidE (sumN_one (pre := pre) hq.1 HW.out HZY.out HR.out HE0.out)
        rw [← HOP.out] at HN
        have HC := hidE (fun o => HE.out pre (z, z + q, hv) g (w2.alloc o) (HX3.out o) (by simp; omega) HNL.out HN.out.1)
        dsimp only [encR] at HC
        go_wp2_with fail
        have HC := hidE (HC.out (Obj.cells #[.int .i64 hv.1, .int .i64 hv.2] 35))
        have HBA3 := hidE (HBA3.out (Obj.cells #[.int .i64 hv.1, .int .i64 hv.2] 35))
        have HBB3 := hidE (HBB3.out (Obj.cells #[.int .i64 hv.1, .int .i64 hv.2] 35))
        have HB3 := hidE (HB3.out (Obj.cells #[.int .i64 hv.1, .int .i64 hv.2] 35))
        ((with_reducible refine (HC.out).mono ?_))
        rintro e w4 ⟨⟨v, rfl⟩, g', hJ4, hb4, hk4, hg4⟩
        have BA4 : Blk w4 w.heap.size #[.slice a F.length cap, .int .i64 q, .int .i64 x, .int .i64 y] 51 := (hk4 _ (Nat.le_refl _) HBA3.out.lt (fun b j e => by have := HGB.out b j e; omega)).trans HBA3.out
        have BB4 : Blk w4 (w.heap.size + 1) #[.slice a F.length cap, .int .i64 k'] 65 := (hk4 _ (by omega) HBB3.out.lt (fun b j e => by have := HGB.out b j e; omega)).trans HBB3.out
        have HBA4 := hidE BA4; have HBB4 := hidE BB4; have HJ4 := hidE hJ4
        have HB4 := hidE (HB3.out.trans hb4)
        have HGB4 := hidE (fun b j (e : g' = some (b, j)) => show w.heap.size + 2 ≤ b from by
          rcases hg4 b j e with h | ⟨j', h⟩
          · have := HBB3.out.lt; omega
          · exact HGB.out b j' h)
        clear hJ4 hb4 hk4 hg4 BA4 BB4
        go_wp2
        go_roundg (y - (z + q)).toNat
        case measure => have := HGH.out; have := HZY.out; omega
        case rel => exact ⟨k', z + q, pre ++ [(z, z + q, hv)], g', rfl, HN.out.2, Nat.le_refl _, endG_snoc _ _ _, rowsN_one HNL2.out hkk, HJ4.out, HGB4.out, HB4.out, HBA4.out, HBB4.out⟩
    · have e1 : decide (z < y) = false := decide_eq_false hz
      have HZY := hidE (show z = y by have := hw.zy; omega)
      clear hz hw
      go_wp2
      rw [Exit.noGoto_normal]
      go_end0
      exact ⟨⟨_, rfl⟩, pre, g, HJ1.out, HE0.out.trans HZY.out, by have := HNL.out; omega, HB1.out⟩
end Go.Proofs.Ytigepmijgoglhaa

namespace Go.Proofs.Ytigepmijgoglhaa
open Go.ChangeShapes Go.WideShapes Go.ChangeAt Go.RowKit
attribute [local irreducible] Go.Calls

theorem own_kept {A B : World} {β sz n : Nat} {e : TypeId} {v : Value} {xs : List Value} (h : A.ownsRow β e sz v n xs) (hk : ∀ k, v.ownBlock = some k → B.heap[k]? = A.heap[k]?) : B.ownsRow β e sz v n xs := by
  obtain ⟨h1, h2 | ⟨g, cap, cur, h3, h4, h5, h6⟩⟩ := h
  · exact ⟨h1, .inl h2⟩
  · exact ⟨h1, .inr ⟨g, cap, cur, h3, h4, (hk g (by rw [h3]; rfl)).trans h5, h6⟩⟩
theorem own_lt {A : World} {β sz n : Nat} {e : TypeId} {v : Value} {xs : List Value} (h : A.ownsRow β e sz v n xs) {k : Nat} (hk : v.ownBlock = some k) : k < A.heap.size := by
  obtain ⟨h1, h2 | ⟨g, cap, cur, h3, h4, h5, h6⟩⟩ := h
  · rw [h2.1] at hk; simp [Value.ownBlock] at hk
  · rw [h3] at hk; simp [Value.ownBlock] at hk; subst hk; exact lt_of_block h5
theorem own_has {A : World} {β sz n : Nat} {e : TypeId} {v : Value} {xs : List Value} (h : A.ownsRow β e sz v n xs) (hv : v ≠ .slice none 0 0) : ∃ k, v.ownBlock = some k := by
  obtain ⟨h1, h2 | ⟨g, cap, cur, h3, h4, h5, h6⟩⟩ := h
  · exact absurd h2.1 hv
  · exact ⟨g, by rw [h3]; rfl⟩
theorem own_sli {A : World} {β sz n : Nat} {e : TypeId} {v : Value} {xs : List Value} (h : A.ownsRow β e sz v n xs) : ∃ a cap, v = .slice a n cap := by
  obtain ⟨h1, h2 | ⟨g, cap, cur, h3, h4, h5, h6⟩⟩ := h
  · exact ⟨none, 0, by rw [h2.1, h2.2]⟩
  · exact ⟨_, cap, h3⟩
theorem own_nil {A : World} (β sz : Nat) (e : TypeId) : A.ownsRow β e sz (.slice none 0 0) 0 [] := ⟨by simp, .inl ⟨rfl, rfl⟩⟩
theorem sfresh_at (w : World) (cs : Array Value) (t : TypeId) (k : Nat) (h : k = w.heap.size) : ∀ j u, cs.toList[j]? = some u → (w.alloc (.cells cs t)).cell? ((⟨k, 0, none⟩ : Addr).add j) = some u := by
  subst h
  exact new_cells w cs t
/-- A slice of runs lies on where only blocks of one cell, or of none, are turned. -/
theorem sargS_turn {w w' : World} {a : Option Addr} {l : List Sg} (h : ArgS w a l) (hs : w.heap.size ≤ w'.heap.size) (hk : ∀ k i v, w.cell? ⟨k, i + 1, none⟩ = some v → w'.heap[k]? = w.heap[k]?) : ArgS w' a l := fun hl => by
  obtain ⟨b, off, e, h1, h2⟩ := h hl
  have hb : w'.heap[b]? = w.heap[b]? := by
    obtain ⟨_, q, _⟩ := h2 0 hl
    exact hk b _ _ q
  have hc : ∀ i, w'.cell? ⟨b, i, none⟩ = w.cell? ⟨b, i, none⟩ := fun i => World.cell?_of_block (a := ⟨b, i, none⟩) hb
  refine ⟨b, off, e, Nat.lt_of_lt_of_le h1 hs, fun i hi => ?_⟩
  obtain ⟨q1, q2, q3⟩ := h2 i hi
  exact ⟨(hc _).trans q1, (hc _).trans q2, (hc _).trans q3⟩
theorem sno_cell {w : World} {k i : Nat} {v : Value} {d : Option (List Deferred)} (h : w.heap[k]? = some (.deferred d)) (hc : w.cell? ⟨k, i, none⟩ = some v) : False := by
  simp [World.cell?, h] at hc
theorem rawC_snoc (l : List St) (s : St) : rawC (l ++ [s]) = rawC l ++ [(s.1, s.2.2)] := by unfold rawC; rw [List.map_append]; rfl
theorem rawC_len (l : List St) : (rawC l).length = l.length := by unfold rawC; rw [List.length_map]
/-- Between two rounds. -/
def CutI (w : World) (p : Nat) (pre : List St) (g : Option (Nat × Nat)) (W : World) : Prop :=
  ∃ (v : Value) (β : Nat), Blk W p #[v] 29 ∧ Below w.heap.size w W ∧ W.ownsRow β 43 3 v pre.length (cellsOfS (rawC pre)) ∧ p < β ∧ β ≤ W.heap.size ∧ ((g = none ∧ v = .slice none 0 0) ∨ ∃ k, g = some (β, k) ∧ v.ownBlock = some k)
theorem cutI_keep {w : World} {p : Nat} {pre : List St} {g : Option (Nat × Nat)} {A B : World} {n : Nat} (hp : p < n) (hn : w.heap.size ≤ n) (h : CutI w p pre g A) (hb : Below n A B) (hk : ∀ b k, g = some (b, k) → B.heap[k]? = A.heap[k]?) : CutI w p pre g B := by
  obtain ⟨v, β, h1, h2, h3, h4, h5, h6⟩ := h
  refine ⟨v, β, h1.below hb hp, h2.trans (hb.mono hn), own_kept h3 (fun k e => ?_), h4, Nat.le_trans h5 hb.size, h6⟩
  rcases h6 with ⟨_, q⟩ | ⟨k', q, q2⟩
  · rw [q] at e; simp [Value.ownBlock] at e
  · rw [q2] at e; cases e; exact hk _ _ q
theorem cutI_own {w : World} {p : Nat} {pre : List St} {g : Option (Nat × Nat)} {A : World} (h : CutI w p pre g A) : ∀ b k, g = some (b, k) → b ≤ k ∧ k < A.heap.size := by
  obtain ⟨v, β, h1, h2, h3, h4, h5, h6⟩ := h
  rintro b k e
  rcases h6 with ⟨q, _⟩ | ⟨k', q, q2⟩
  · rw [q] at e; cases e
  · rw [q] at e; cases e
    exact ⟨own_block h3 q2, own_lt h3 q2⟩
/-- From where on what is appended may lie. -/
theorem cutI_base {w : World} {p : Nat} {pre : List St} {g : Option (Nat × Nat)} {A : World} (hz : p < A.heap.size) (h : CutI w p pre g A) : ∃ (av : Option Addr) (cap γ : Nat), Blk A p #[.slice av pre.length cap] 29 ∧ Below w.heap.size w A ∧ A.ownsRow γ 43 3 (.slice av pre.length cap) pre.length (cellsOfS (rawC pre)) ∧ p < γ ∧ γ ≤ A.heap.size ∧
    (∀ k, (Value.slice av pre.length cap).ownBlock = some k → g = some (γ, k) ∧ γ ≤ k) ∧ (A.heap.size ≤ γ ∨ ∃ j, g = some (γ, j)) := by
  obtain ⟨v, β, h1, h2, h3, h4, h5, h6⟩ := h
  obtain ⟨a, cap, rfl⟩ := own_sli h3
  rcases h6 with ⟨q, e⟩ | ⟨k', q, q2⟩
  · have hx : A.ownsRow A.heap.size 43 3 (.slice a pre.length cap) pre.length (cellsOfS (rawC pre)) := by
      obtain ⟨q1, q2 | ⟨g', cap', cur, q3, _⟩⟩ := h3
      · exact ⟨q1, .inl q2⟩
      · rw [q3] at e; cases e
    refine ⟨a, cap, A.heap.size, h1, h2, hx, hz, Nat.le_refl _, fun k hk => ?_, .inl (Nat.le_refl _)⟩
    rw [e] at hk; simp [Value.ownBlock] at hk
  · exact ⟨a, cap, β, h1, h2, h3, h4, h5, fun k hk => ⟨by rw [q2] at hk; cases hk; exact q, own_block h3 hk⟩, .inr ⟨k', q⟩⟩

end Go.Proofs.Ytigepmijgoglhaa

namespace Go.Proofs.Ytigepmijgoglhaa
open Go.ChangeShapes Go.WideShapes Go.ChangeAt Go.RowKit
attribute [local irreducible] Go.Calls

set_option maxHeartbeats 1000000 in
theorem qcl_c (w W : World) (p n1 : Nat) (pre : List St) (s : St) (g : Option (Nat × Nat)) (hp : p < n1) (hw : w.heap.size ≤ p) (hz : n1 ≤ W.heap.size) (hlen : pre.length ≤ 2000000001) (hi : CutI w p pre g W) :
    Calls Try.prog 34 (encR s ++ #[.pointer (some ⟨p, 0, none⟩)]) W fun e W' => (∃ v, e = .returned v) ∧ ∃ g', CutI w p (pre ++ [s]) g' W' ∧ Below w.heap.size W W' ∧
      (∀ k, n1 ≤ k → k < W.heap.size → (∀ b j, g = some (b, j) → k < b) → W'.heap[k]? = W.heap[k]?) ∧ (∀ b k, g' = some (b, k) → W.heap.size ≤ b ∨ ∃ j, g = some (b, j)) := by
  obtain ⟨av, cp, γ, i1, i2, i3, i4, i5, i6, i7⟩ := cutI_base (by omega) hi
  have t0 := i1.cell 0; have t1 := i1.lt; have tf := i1.free
  simp at t0
  obtain ⟨ix, hix, hz0, hzz, hz4⟩ := info_parts Try.infoSeg
  have HI := hidE hix; have HZ0 := hidE hz0; have HZ1 := hidE hzz; have HZ2 := hidE hz4
  have I1 := hidE i1; have I2 := hidE i2; have I3 := hidE i3; have I6 := hidE i6; have I7 := hidE i7
  clear hi hix hz0 hzz hz4 i1 i2 i3 i6 i7
  show Calls _ _ #[.int .i64 s.1, .int .i64 s.2.1, .agg #[.int .i64 s.2.2.1, .int .i64 s.2.2.2], .pointer (some ⟨p, 0, none⟩)] _ _
  go_enter Try.func34, Try.ntmps34
  go_wp2_with (first | (at_builtin; refine wpList_append_own _ rfl (.tmp 7) (.tmp 11) 29 rfl γ 43 ix (.agg #[.int .i64 0, .int .i64 0, .int .i64 0]) 3 24 Try.underlying29 HI.out HZ0.out HZ1.out HZ2.out rfl (by decide) _ _ _ rfl (own_kept (own_kept I3.out (fun k e => keptA (own_lt I3.out e) _)) (fun k e => keptA (by have := own_lt I3.out e; simp; omega) _)) ⟨_, 0, none⟩ 1 1 [.int .i64 s.1, .int .i64 s.2.2.1, .int .i64 s.2.2.2] rfl rfl (sfresh_at _ #[.int .i64 s.1, .int .i64 s.2.2.1, .int .i64 s.2.2.2] 43 _ (by simp)) (by intro y hy; simp at hy; rcases hy with rfl | rfl | rfl <;> rfl) (by unfold maxLen; omega) (by omega) (by simp; omega) ?_; intro v4 w4 hown4 hgrow4 hnil4; obtain ⟨a4, c4, rfl⟩ := own_sli hown4; have HG4 := hidE hgrow4; have HO4 := hidE hown4; have HN4 := hidE hnil4; have BP4 : Blk w4 p #[.slice av pre.length cp] 29 := ((I1.out.alloc _).alloc _).grown HG4.out (fun e => by have := (I6.out _ e.symm).2; omega); have g4 := BP4.cell 0; have g5 := BP4.free; have g6 := BP4.lt; simp at g4; have HB4 := hidE BP4; clear hgrow4 hown4 hnil4 BP4 t0 t1 tf) | fail)
  have hv4 : (Value.slice a4 (pre.length + 1) c4) ≠ .slice none 0 0 := fun e => by have := (HN4.out.1 e).2; omega
  obtain ⟨k4, hk4⟩ := own_has HO4.out hv4
  have hown : (w4.setCell ⟨p, 0, none⟩ (Value.slice a4 (pre.length + 1) c4)).ownsRow γ 43 3 (Value.slice a4 (pre.length + 1) c4) (pre ++ [s]).length (cellsOfS (rawC (pre ++ [s]))) := by
    rw [rawC_snoc, cellsOfS_app, List.length_append]
    exact own_kept HO4.out (fun k e => keptS (by have := own_block HO4.out e; omega) _)
  have hz4 : W.heap.size ≤ w4.heap.size := by have := HG4.out.size; simp at this; omega
  have hb4 : Below w.heap.size W (w4.setCell ⟨p, 0, none⟩ (Value.slice a4 (pre.length + 1) c4)) :=
    (Below.grown (((Below.refl _ W).alloc (by omega) _).alloc (by simp; omega) _) HG4.out (by simp; omega) (fun k e => by have := (I6.out k e).2; omega)).setCell (p := ⟨p, 0, none⟩) (by simp; omega) _
  go_end0
  refine ⟨⟨_, rfl⟩, some (γ, k4), ⟨(Value.slice a4 (pre.length + 1) c4), γ, by simpa using HB4.out.set 0 (Value.slice a4 (pre.length + 1) c4), I2.out.trans hb4, hown, i4, by simp [World.setCell]; omega, .inr ⟨k4, rfl, hk4⟩⟩, hb4, fun k e1 e2 e3 => ?_, fun b k e => ?_⟩
  · refine (keptS (by omega) _).trans ((HG4.out.block k (by simp; omega) (fun e => ?_)).trans ((keptA (by simp; omega) _).trans (keptA e2 _)))
    have := e3 _ _ (I6.out k e.symm).1
    have := (I6.out k e.symm).2
    omega
  · cases e; exact I7.out
end Go.Proofs.Ytigepmijgoglhaa

namespace Go.Proofs.Ytigepmijgoglhaa

/-- Each row stands where it should. -/
def RowsOk (op : Int → Int × Int) (q x y : Int) (l : List St) : Prop := ∀ pre s post, l = pre ++ s :: post → RowAt op q x y pre s
theorem rowsOk_nil (op : Int → Int × Int) (q x y : Int) : RowsOk op q x y [] := fun pre s post h => by simp at h
theorem rowsOk_snoc {op : Int → Int × Int} {q x y : Int} {l : List St} {s : St} (h : RowsOk op q x y l) (hs : RowAt op q x y l s) : RowsOk op q x y (l ++ [s]) := fun pre u post e => by
  rcases List.eq_nil_or_concat post with c | ⟨post', v, c⟩
  · subst c
    have := List.append_inj' e rfl
    obtain ⟨e1, e2⟩ := this
    cases e2
    rw [← e1]
    exact hs
  · subst c
    rw [List.concat_eq_append] at e
    rw [show pre ++ u :: (post' ++ [v]) = (pre ++ u :: post') ++ [v] by simp] at e
    obtain ⟨e1, _⟩ := List.append_inj' e rfl
    exact h pre u post' e1
theorem rowsOk_at {op : Int → Int × Int} {q x y : Int} {l : List St} (h : RowsOk op q x y l) {i : Nat} (hi : i < l.length) : RowAt op q x y (l.take i) l[i] := by
  refine h (l.take i) l[i] (l.drop (i + 1)) ?_
  rw [← List.drop_eq_getElem_cons hi, List.take_append_drop]
theorem endG_take {x : Int} {l : List St} {i : Nat} (hi : i < l.length) : endG x (l.take (i + 1)) = l[i].2.1 := by
  rw [List.take_succ_eq_append_getElem hi, endG_snoc]
theorem endG_all {x : Int} {l : List St} {i : Nat} (hi : i + 1 = l.length) : endG x l = (l[i]'(by omega)).2.1 := by
  have := endG_take (x := x) (l := l) (i := i) (by omega)
  rw [hi, List.take_length] at this
  exact this
theorem rowsOk_next {op : Int → Int × Int} {q x y : Int} {l : List St} (h : RowsOk op q x y l) {i : Nat} (hi : i + 1 < l.length) : l[i + 1].1 = (l[i]'(by omega)).2.1 := by
  have := (rowsOk_at h hi).at'
  rw [endG_take (by omega)] at this
  exact this
theorem rawC_ats {l : List St} {i : Nat} (hi : i < l.length) : ats (rawC l) i = l[i].1 := by
  unfold ats rawC
  rw [getD_get _ _ _ (by simpa using hi), List.getElem_map]
theorem rawC_vls {l : List St} {i : Nat} (hi : i < l.length) : vls (rawC l) i = l[i].2.2 := by
  unfold vls rawC
  rw [getD_get _ _ _ (by simpa using hi), List.getElem_map]
theorem canon_first {F : List Sg} (hF : Canon F) {s : Sg} (hs : s ∈ F) : (endsL F).1 ≤ s.1 ∧ s.1 ≤ (endsL F).2.1 := by
  obtain ⟨i, hi, rfl⟩ := List.getElem_of_mem hs
  have ha := canon_asc hF
  have ei : F[i].1 = ats F i := by unfold ats; rw [getD_get _ _ _ hi]
  unfold endsL
  rw [if_neg (by omega), ei]
  simp only
  constructor
  · by_cases c : i = 0
    · rw [c]; exact Int.le_refl _
    · have := ha 0 i (by omega) hi; omega
  · by_cases c : i = F.length - 1
    · rw [c]; exact Int.le_refl _
    · have := ha i (F.length - 1) (by omega) (by omega); omega
theorem near_ends {F : List Sg} (hF : Canon F) : nearL F = true ↔ (-1099511627776 ≤ (endsL F).1 ∧ (endsL F).1 ≤ 1099511627776) ∧ (-1099511627776 ≤ (endsL F).2.1 ∧ (endsL F).2.1 ≤ 1099511627776) := by
  rw [nearL_iff]
  constructor
  · intro h
    by_cases c : F.length = 0
    · unfold endsL; rw [if_pos c]; decide
    · unfold endsL
      rw [if_neg c]
      have h1 := h _ (List.getElem_mem (show 0 < F.length by omega))
      have h2 := h _ (List.getElem_mem (show F.length - 1 < F.length by omega))
      unfold ats
      rw [getD_get _ _ _ (by omega), getD_get _ _ _ (by omega)]
      exact ⟨h1, h2⟩
  · rintro ⟨h1, h2⟩ s hs
    have := canon_first hF hs
    omega
/-- The window that Quant looks at. -/
theorem quant_rows {F : List Sg} {q x y : Int} {l : List St} (hF : Canon F) (hq : 1 ≤ q ∧ q ≤ 4096) (hn : nearL F = true) (hx : x = downI (endsL F).1 q) (hy : y = downI (endsL F).2.1 q + 2 * q)
    (h : RowsOk (fun m => highN F m q.toNat) q x y l) (he : endG x l = y) : (rawC l).all okS = true ∧ ∀ t, rv (rawC l) t = hiq F q t := by
  have hq0 : 0 < q := by omega
  have hne := (near_ends hF).1 hn
  have d1 := down_le (t := (endsL F).1) hq0; have d2 := down_gt (t := (endsL F).1) hq0
  have f1 := down_le (t := (endsL F).2.1) hq0; have f2 := down_gt (t := (endsL F).2.1) hq0
  have hxm : x % q = 0 := by rw [hx]; exact down_mul
  have hyq : (y - q) % q = 0 := by
    have := down_mul (t := (endsL F).2.1) (q := q)
    rw [show y - q = downI (endsL F).2.1 q + q by omega]
    exact add_mul this
  have hxy : x < y := by
    by_cases c : F.length = 0
    · have e : endsL F = (0, 0, true) := by unfold endsL; rw [if_pos c]
      rw [e] at hx hy
      simp only at hx hy
      omega
    · have := canon_first hF (List.getElem_mem (show 0 < F.length by omega))
      by_cases c2 : downI (endsL F).1 q ≤ downI (endsL F).2.1 q
      · omega
      · have := mul_next hq0 (down_mul (t := (endsL F).2.1) (q := q)) (down_mul (t := (endsL F).1) (q := q)) (by omega)
        omega
  have hl : 0 < l.length := by
    cases l with
    | nil => exact absurd he (by show x ≠ y; omega)
    | cons a r => simp
  have hhi : ∀ m : Int, m % q = 0 → hiq F q m = highN F m q.toNat := fun m hm => by unfold hiq; rw [down_self hm]
  refine ⟨?_, fun t => ?_⟩
  · rw [List.all_eq_true]
    intro s hs
    unfold rawC at hs
    rw [List.mem_map] at hs
    obtain ⟨u, hu, rfl⟩ := hs
    obtain ⟨i, hi, rfl⟩ := List.getElem_of_mem hu
    have r := rowsOk_at h hi
    have hv := r.val _ r.sm (Int.le_refl _) r.lt
    have hok := hiq_ok (CF.ok hF) q l[i].1 hq0
    rw [hhi _ r.sm] at hok
    have hv' : highN F l[i].1 q.toNat = l[i].2.2 := hv
    rw [hv'] at hok
    unfold okS
    rw [Bool.and_eq_true]
    refine ⟨okT_iff.2 ?_, hok⟩
    have := r.xs; have := r.lt; have := r.ly
    show -1125899906842624 ≤ l[i].1 ∧ l[i].1 ≤ 1125899906842624
    omega
  · rcases rread_char t _ (rawC l) rfl with ⟨e1, e2⟩ | ⟨i, ht, e1⟩
    · have h0 := e2 0 (by rw [rawC_len]; exact hl)
      rw [rawC_ats hl] at h0
      have ha := (rowsOk_at h hl).at'
      rw [List.take_zero] at ha
      have hx0 : l[0].1 = x := ha
      have e3 : rv (rawC l) t = (0, 0) := by unfold rv; rw [e1]
      rw [e3]
      refine (hiq_const hq0 fun u hu => vat_before fun r hr => ?_).symm
      have hr' := (canon_first hF hr).1
      have := down_gt (t := u) hq0
      have := down_le (t := t) hq0
      have hdt : downI t q < x := by omega
      have := mul_next hq0 (down_mul (t := t) (q := q)) hxm hdt
      omega
    · obtain ⟨t1, t2, t3⟩ := ht
      rw [rawC_len] at t1
      have e3 : rv (rawC l) t = vls (rawC l) i := by unfold rv; rw [e1]
      rw [e3, rawC_vls t1]
      rw [rawC_ats t1] at t2
      have r := rowsOk_at h t1
      have d3 := down_le (t := t) hq0; have d4 := down_gt (t := t) hq0; have d5 := down_mul (t := t) (q := q)
      by_cases c : t < l[i].2.1
      · have k1 : l[i].1 ≤ downI t q := by
          by_cases c2 : downI t q < l[i].1
          · have := mul_next hq0 d5 r.sm c2; omega
          · omega
        exact (r.val _ d5 k1 (by omega)).symm
      · have k1 : i + 1 = l.length := by
          by_cases c2 : i + 1 < l.length
          · exfalso
            have e4 := rowsOk_next h c2
            have := t3 (i + 1) (by rw [rawC_len]; exact c2) (by rw [rawC_ats c2, e4]; omega)
            rw [rawC_ats c2, rawC_ats t1, e4] at this
            have := r.lt
            omega
          · omega
        have k2 : l[i].2.1 = y := by rw [← he]; exact (endG_all k1).symm
        have hv := r.val (y - q) hyq (by
          have := mul_next hq0 r.sm (show y % q = 0 by rw [show y = (y - q) + q by omega]; exact add_mul hyq) (by have := r.lt; omega)
          omega) (by omega)
        have hv' : highN F (y - q) q.toNat = l[i].2.2 := hv
        rw [← hv', ← hhi _ hyq]
        have hruns : ∀ u : Int, y - q ≤ u → vat F u = vat F (y - q) := fun u hu => stay_between hu fun s hs => .inl (by have := (canon_first hF hs).2; omega)
        rw [hiq_const hq0 (v := vat F (y - q)) fun u hu => hruns u (by rw [down_self hyq] at hu; have := down_le (t := u) hq0; omega)]
        refine (hiq_const hq0 fun u hu => hruns u ?_).symm
        have := down_le (t := u) hq0
        have hge : y - q ≤ downI t q := by
          by_cases c3 : downI t q < y - q
          · have := mul_next hq0 d5 hyq c3; omega
          · omega
        omega
theorem quant_is {F G : List Sg} {q x y : Int} {l : List St} (hF : Canon F) (hq : 1 ≤ q ∧ q ≤ 4096) (hn : nearL F = true) (hx : x = downI (endsL F).1 q) (hy : y = downI (endsL F).2.1 q + 2 * q)
    (h : RowsOk (fun m => highN F m q.toNat) q x y l) (he : endG x l = y) (hG : IsOf (rawC l) G) : G = quantL F q :=
  quantL_unique hF hq hn hG.1 fun t => (hG.2.1 t).trans ((quant_rows hF hq hn hx hy h he).2 t)
end Go.Proofs.Ytigepmijgoglhaa

namespace Go.Proofs.Ytigepmijgoglhaa
open Go.ChangeShapes Go.WideShapes Go.ChangeAt Go.RowKit
attribute [local irreducible] Go.Calls

theorem near_c (F : List Sg) (a : Option Addr) (cap : Nat) (w : World) (hl : F.length ≤ 1000000000) (hF : Canon F) (hA : ArgS w a F) :
    Calls Try.prog 24 #[.slice a F.length cap] w fun e w' => e = .returned (.bool (nearL F)) ∧ Below w.heap.size w w' := by
  have HE := hidE (ends_c F a cap w (by omega) hA)
  have hne := near_ends hF
  have HW := hidE (fun (x : Int) w => within_c x 1099511627776 w (by omega))
  generalize endsL F = en at *
  obtain ⟨b, e, z⟩ := en
  simp only at hne HE
  have h1 : inB b 1099511627776 = true ↔ (-1099511627776 ≤ b ∧ b ≤ 1099511627776) := inB_iff
  have h2 : inB e 1099511627776 = true ↔ (-1099511627776 ≤ e ∧ e ≤ 1099511627776) := inB_iff
  cases c1 : inB b 1099511627776
  · have HN := hidE (show nearL F = false by
      cases c : nearL F
      · rfl
      · have := h1.2 (hne.1 c).1; rw [c1] at this; cases this)
    have HW1 := hidE (HW.out b)
    rw [c1] at HW1
    rw [HN.out]
    clear hA hF hne h1 h2 c1
    go_enter Try.func24, Try.ntmps24
    go_wp2_with fail
    ((with_reducible refine (HE.out).mono ?_); rintro e1 w1 ⟨rfl, hb1⟩)
    go_wp2_with fail
    ((with_reducible refine (HW1.out _).mono ?_); rintro e1 w2 ⟨rfl, rfl⟩)
    go_wp2
    go_ret
    exact ⟨rfl, hb1⟩
  · have HN := hidE (show nearL F = inB e 1099511627776 by
      rw [Bool.eq_iff_iff, hne, h2]
      exact ⟨fun h => h.2, fun h => ⟨h1.1 c1, h⟩⟩)
    have HW1 := hidE (HW.out b); have HW2 := hidE (HW.out e)
    rw [c1] at HW1
    rw [HN.out]
    clear hA hF hne h1 h2 c1
    generalize inB e 1099511627776 = r at *
    go_enter Try.func24, Try.ntmps24
    go_wp2_with fail
    ((with_reducible refine (HE.out).mono ?_); rintro e1 w1 ⟨rfl, hb1⟩)
    go_wp2_with fail
    ((with_reducible refine (HW1.out _).mono ?_); rintro e1 w2 ⟨rfl, rfl⟩)
    go_wp2_with fail
    ((with_reducible refine (HW2.out _).mono ?_); rintro e1 w3 ⟨rfl, rfl⟩)
    go_wp2
    go_ret
    exact ⟨rfl, hb1⟩

end Go.Proofs.Ytigepmijgoglhaa

namespace Go.Proofs.Ytigepmijgoglhaa
open Go.ChangeShapes Go.WideShapes Go.ChangeAt Go.RowKit
attribute [local irreducible] Go.Calls

set_option maxHeartbeats 1000000 in
theorem swapRange_c (w0 w : World) (blk n cap a b m : Nat) (t : TypeId) (d : Nat → Nat) (fv : Value) (h : RowW w0 blk n t d w) (hab : a + m ≤ b) (hb : b + m ≤ n) (hn : n ≤ 4611686018427387904) :
    Calls Try.prog 65 #[.slice (some ⟨blk, 0, none⟩) n cap, .int .i64 a, .int .i64 b, .int .i64 m, fv] w fun e w' => e = .returned (.tuple #[]) ∧ RowW w0 blk n t (swr d a b m) w' := by
  have H := hidE h; clear h
  go_enter Try.func65, Try.ntmps65
  go_wp2
  go_loopw [10] (fun i wr => ∃ k : Nat, k ≤ m ∧ i = .int .i64 k ∧ RowW w0 blk n t (swr d a b k) wr) (fun i _ => m - (intOf i).toNat)
  case atStart => exact ⟨0, Nat.zero_le _, rfl, H.out.ext (swr_zero _ _ _).symm⟩
  case round =>
    obtain ⟨k, hk, rfl, hr⟩ := hrel
    by_cases hlt : k < m
    · have c1 := hr.cell (i := a + k) (by omega)
      have c2 := hr.cell (i := b + k) (by omega)
      have c3 := hr.c2 (a + k) (b + k) (by omega) (swr d a b k (b + k))
      have f1 := hr.free (a + k)
      have f2 := hr.free (b + k)
      have hS := hidE ((hr.swap (a + k) (b + k)).drew.ext (swr_step d a b k (by omega)))
      rw [if_neg (by omega)] at c3
      clear hr
      generalize swr d a b k (b + k) = y at *
      generalize swr d a b k (a + k) = x at *
      go_wp2
      go_region
      go_wp2
      go_roundw
      case rel => exact ⟨k + 1, by omega, by go_num, hS.out⟩
      case measure => simp [intOf]; omega
    · go_wp2
      have : k = m := by omega
      subst this
      go_end0
      exact ⟨rfl, hr⟩
end Go.Proofs.Ytigepmijgoglhaa

namespace Go.Proofs.Ytigepmijgoglhaa
open Go.ChangeShapes Go.WideShapes Go.ChangeAt Go.RowKit
attribute [local irreducible] Go.Calls

theorem swapRange_eq {w0 w : World} {blk n cap a b m : Nat} {x y z : Int} {t : TypeId} {d d' : Nat → Nat} {fv : Value} (h : RowW w0 blk n t d w) (hx : x = a) (hy : y = b) (hz : z = m) (hab : a + m ≤ b) (hb : b + m ≤ n) (hn : n ≤ 4611686018427387904) (hd : swr d a b m = d') :
    Calls Try.prog 65 #[.slice (some ⟨blk, 0, none⟩) n cap, .int .i64 x, .int .i64 y, .int .i64 z, fv] w fun e w' => e = .returned (.tuple #[]) ∧ RowW w0 blk n t d' w' := by
  subst hx; subst hy; subst hz; subst hd
  exact swapRange_c w0 w blk n cap a b m t d fv h hab hb hn

set_option maxHeartbeats 1000000 in
theorem rotate_c (w0 w : World) (blk n cap a m b : Nat) (t : TypeId) (d : Nat → Nat) (fv : Value) (h : RowW w0 blk n t d w) (ham : a < m) (hmb : m < b) (hb : b ≤ n) (hn : n ≤ 4611686018427387904) :
    Calls Try.prog 63 #[.slice (some ⟨blk, 0, none⟩) n cap, .int .i64 a, .int .i64 m, .int .i64 b, fv] w fun e w' => e = .returned (.tuple #[]) ∧ RowW w0 blk n t (rot d a m b) w' := by
  have H := hidE h; clear h
  go_enter Try.func63, Try.ntmps63
  go_wp2
  go_loopw [10, 11] (fun vi vj wr => ∃ (i j : Nat) (dk : Nat → Nat), vi = .int .i64 i ∧ vj = .int .i64 j ∧ 0 < i ∧ i ≤ m ∧ 0 < j ∧ m + j ≤ n ∧ rot dk (m - i) m (m + j) = rot d a m b ∧ RowW w0 blk n t dk wr) (fun vi vj _ => (intOf vi).toNat + (intOf vj).toNat)
  case atStart => exact ⟨m - a, b - m, d, by go_num, by go_num, by omega, by omega, by omega, by omega, by rw [show m - (m - a) = a by omega, show m + (b - m) = b by omega], H.out⟩
  case round =>
    obtain ⟨i, j, dk, rfl, rfl, hi0, him, hj0, hjn, hrot, hr⟩ := hrel
    have HR := hidE hrot; have HW := hidE hr
    clear hrot hr
    rcases Nat.lt_trichotomy i j with c | c | c
    · have e1 : ((i : Int) == (j : Int)) = false := beq_eq_false_iff_ne.2 (by omega)
      have e2 : ((i : Int) != (j : Int)) = true := bne_iff_ne.2 (by omega)
      have e3 : ¬ (j : Int) < (i : Int) := by omega
      go_wp2_with (go_at_call 65; ((with_reducible refine (swapRange_eq (a := m - i) (b := m + j - i) (m := i) HW.out (by omega) (by omega) rfl (by omega) (by omega) hn rfl).mono ?_); rintro e w' ⟨rfl, hr2⟩))
      go_roundw
      case rel => exact ⟨i, j - i, _, rfl, by go_num, hi0, him, by omega, by omega, (rot_lt dk m i j him c).trans HR.out, hr2⟩
      case measure => simp [intOf]; omega
    · subst c
      go_wp2_with (go_at_call 65; ((with_reducible refine (swapRange_eq (a := m - i) (b := m) (m := i) HW.out (by omega) rfl rfl (by omega) (by omega) hn rfl).mono ?_); rintro e w' ⟨rfl, hr2⟩))
      go_end0
      exact ⟨rfl, hr2.ext ((rot_eq dk m i him).trans HR.out)⟩
    · have e1 : ((i : Int) == (j : Int)) = false := beq_eq_false_iff_ne.2 (by omega)
      have e2 : ((i : Int) != (j : Int)) = true := bne_iff_ne.2 (by omega)
      have e3 : (j : Int) < (i : Int) := by omega
      go_wp2_with (go_at_call 65; ((with_reducible refine (swapRange_eq (a := m - i) (b := m) (m := j) HW.out (by omega) rfl rfl (by omega) (by omega) hn rfl).mono ?_); rintro e w' ⟨rfl, hr2⟩))
      go_roundw
      case rel => exact ⟨i - j, j, _, by go_num, rfl, by omega, by omega, hj0, hjn, (rot_gt dk m i j him c).trans HR.out, hr2⟩
      case measure => simp [intOf]; omega
end Go.Proofs.Ytigepmijgoglhaa

namespace Go.Proofs.Ytigepmijgoglhaa
open Go.ChangeShapes Go.WideShapes Go.ChangeAt Go.RowKit
attribute [local irreducible] Go.Calls

/-- In whatever world of the sort's the comparison answers by the key, and only makes memory. -/
def Cmps (w0 : World) (blk n : Nat) (recv : Value) (K : Nat → Int) : Prop :=
  ∀ w, Below blk w0 w → ∀ x y : Nat, x < n → y < n → Calls Try.prog 53 #[recv, .int .i64 x, .int .i64 y] w fun e w' => e = .returned (.int .i64 (cmpI (K x) (K y))) ∧ Below w.heap.size w w'

/-- A row of numbers below n. -/
def Okd (n : Nat) (d : Nat → Nat) : Prop := ∀ k, k < n → d k < n
theorem Okd.mv {n a b : Nat} {d d' : Nat → Nat} (h : Okd n d) (hm : Mv a b d d') (hb : b ≤ n) : Okd n d' := fun k hk => by
  by_cases c : a ≤ k ∧ k < b
  · obtain ⟨k', h1, h2, e⟩ := hm.inn k c.1 c.2
    rw [e]; exact h _ (by omega)
  · rw [hm.out k (by omega)]; exact h _ hk

/-- The stretch [a, b) has been put in order. -/
def SrtTo (w0 : World) (blk n : Nat) (t : TypeId) (K : Nat → Int) (a b : Nat) (d : Nat → Nat) (e : Ending) (w' : World) : Prop :=
  e = .returned (.tuple #[]) ∧ ∃ d', RowW w0 blk n t d' w' ∧ Mv a b d d' ∧ Inv K n d' ∧ Srt K a b d'

theorem cmp_t {K : Nat → Int} {x y : Nat} (h : K x < K y) : decide (cmpI (K x) (K y) < 0) = true := by rw [cmpI_neg]; exact decide_eq_true h
theorem cmp_f {K : Nat → Int} {x y : Nat} (h : ¬ K x < K y) : decide (cmpI (K x) (K y) < 0) = false := by rw [cmpI_neg]; exact decide_eq_false h

set_option maxHeartbeats 4000000 in
theorem insertion_c (w0 w : World) (blk n cap a b : Nat) (t : TypeId) (K : Nat → Int) (recv : Value) (d : Nat → Nat) (h : RowW w0 blk n t d w) (hC : Cmps w0 blk n recv K) (hI : Inv K n d) (hO : Okd n d) (hab : a ≤ b) (hb : b ≤ n) (hn : n ≤ 4611686018427387904) :
    Calls Try.prog 60 #[.slice (some ⟨blk, 0, none⟩) n cap, .int .i64 a, .int .i64 b, .func (.func 53) #[recv] #[]] w (SrtTo w0 blk n t K a b d) := by
  have H := hidE h; have HC := hidE hC; have HI := hidE hI; have HO := hidE hO
  clear h hC hI hO
  go_enter Try.func60, Try.ntmps60
  go_wp2
  go_loopg [8] (b - a) (fun g1 vi wr => ∃ (i : Nat) (dk : Nat → Nat), vi = .int .i64 i ∧ a < i ∧ b - i ≤ g1 ∧ (i ≤ b ∨ i = a + 1) ∧ RowW w0 blk n t dk wr ∧ Mv a b d dk ∧ Inv K n dk ∧ Srt K a i dk)
  case atStart => exact ⟨a + 1, d, by go_num, by omega, by omega, by omega, H.out, Mv.refl _ _ _, HI.out, srt_one _ _ _ (by omega)⟩
  case round =>
    obtain ⟨i, dk, rfl, hai, hg1, hib, hr, hm, hi, hs⟩ := hrel
    have HR := hidE hr; have HM := hidE hm; have HJ := hidE hi; have HS := hidE hs
    clear hr hm hi hs
    by_cases hlt : i < b
    · have hltz : (i : Int) < (b : Int) := by omega
      obtain ⟨wo, rfl⟩ : ∃ wo : World, wo = wr := ⟨_, rfl⟩
      go_wp2
      go_loopg [9] i (fun g2 vj wr2 => ∃ (j : Nat) (dj : Nat → Nat), vj = .int .i64 j ∧ a ≤ j ∧ j ≤ i ∧ j ≤ g2 ∧ RowW w0 blk n t dj wr2 ∧ Mv a b d dj ∧ Inv K n dj ∧ InsR K a i j dj)
      case atStart => exact ⟨i, dk, rfl, by omega, Nat.le_refl _, Nat.le_refl _, HR.out, HM.out, HJ.out, InsR.start HS.out⟩
      case round =>
        clear HR HM HJ HS
        obtain ⟨j, dj, rfl, haj, hji, hg2, hr, hm, hi, hs⟩ := hrel
        have HR := hidE hr; have HM := hidE hm; have HJ := hidE hi; have HS := hidE hs
        have hok := HO.out.mv hm hb
        clear hr hm hi hs
        by_cases hja : a < j
        · obtain ⟨jp, rfl⟩ : ∃ q, j = q + 1 := ⟨j - 1, by omega⟩
          have hjd : decide ((a : Int) < (jp : Int) + 1) = true := decide_eq_true (by omega)
          have c1 := HR.out.cell (i := jp + 1) (by omega)
          have c2 := HR.out.cell (i := jp) (by omega)
          have z := HR.out.lt
          have k1 := hok (jp + 1) (by omega)
          have k2 := hok jp (by omega)
          have HCM := hidE (fun w hw => HC.out w hw (dj (jp + 1)) (dj jp) k1 k2)
          clear hok
          by_cases hkey : K (dj (jp + 1)) < K (dj jp)
          · have hd := cmp_t hkey
            have HX := hidE (⟨(HJ.out.swap' jp (by omega) hkey), (HM.out.trans (Mv.swap dj (jp + 1) jp (by omega) (by omega))), (HS.out.step (by omega) (by omega) hkey)⟩ : Inv K n (sw dj (jp + 1) jp) ∧ Mv a b d (sw dj (jp + 1) jp) ∧ InsR K a i jp (sw dj (jp + 1) jp))
            clear hkey HM HJ HS
            have HE := hidE (fun (w : World) (h : RowW w0 blk n t dj w) => (h.swap (jp + 1) jp).drew)
            have HF := hidE (fun (w : World) (h : RowW w0 blk n t dj w) => h.c2 (jp + 1) jp (by omega) (dj jp))
            generalize hx : dj (jp + 1) = x at *
            generalize hy : dj jp = y at *
            go_wp2_with fail
            refine wp_region_past_lit (by kernel_rfl) (by kernel_rfl) ?_
            have hc := Past.cell (W := wr)
            repeat (go_big_quiet_step ((go_at_call 53; exact Past.call _ (HCM.out _ (HR.out.low.trans ((Past.prop _).mono (Nat.le_of_lt z)))))))
            refine wpQuiet_nil ?_
            rintro _ ⟨x', rfl⟩
            have hr2 := HR.out.past x'.2
            clear c1 c2 hc
            generalize x'.1 = w2 at hr2 ⊢
            have g1 := hr2.cell (i := jp + 1) (by omega)
            have g2 := hr2.cell (i := jp) (by omega)
            have g3 := HF.out _ hr2
            have f1 := hr2.free (jp + 1)
            have f2 := hr2.free jp
            have hE := HE.out _ hr2
            rw [if_neg (by omega)] at g3
            rw [hx] at g1
            rw [hy] at g2
            have HE2 := hidE hE; have Hx := hidE hx; have Hy := hidE hy
            clear hE hr2 hx hy
            go_wp2_with fail
            go_region
            go_wp2
            go_roundg jp
            case measure => omega
            case rel => exact ⟨jp, _, by go_num, by omega, by omega, Nat.le_refl _, HE2.out, HX.out.2.1, HX.out.1, HX.out.2.2⟩
          · have hd := cmp_f hkey
            have HX := hidE (HS.out.done HJ.out (by omega) haj hji (.inr hkey))
            clear hkey
            generalize hx : dj (jp + 1) = x at *
            generalize hy : dj jp = y at *
            have Hx := hidE hx; have Hy := hidE hy
            clear hx hy
            go_wp2_with fail
            refine wp_region_past_lit (by kernel_rfl) (by kernel_rfl) ?_
            have hc := Past.cell (W := wr)
            repeat (go_big_quiet_step ((go_at_call 53; exact Past.call _ (HCM.out _ (HR.out.low.trans ((Past.prop _).mono (Nat.le_of_lt z)))))))
            refine wpQuiet_nil ?_
            rintro _ ⟨x', rfl⟩
            have hr2 := HR.out.past x'.2
            clear c1 c2 hc
            generalize x'.1 = w2 at hr2 ⊢
            have HR2 := hidE hr2; clear hr2
            go_wp2
            go_roundg (b - (i + 1))
            case measure => omega
            case rel => exact ⟨i + 1, _, by go_num, by omega, by omega, by omega, HR2.out, HM.out, HJ.out, HX.out⟩
        · have hja' : j = a := by omega
          subst hja'
          have HX := hidE (HS.out.done HJ.out (by omega) haj hji (.inl rfl))
          have hd : ¬ (j : Int) < (j : Int) := by omega
          go_wp2_with fail
          refine wp_region_past_lit (by kernel_rfl) (by kernel_rfl) ?_
          repeat (go_big_quiet_step (fail))
          refine wpQuiet_nil ?_
          rintro _ ⟨x', rfl⟩
          have hr2 := HR.out.past x'.2
          generalize x'.1 = w2 at hr2 ⊢
          have HR2 := hidE hr2; clear hr2
          go_wp2
          go_roundg (b - (i + 1))
          case measure => omega
          case rel => exact ⟨i + 1, _, by go_num, by omega, by omega, by omega, HR2.out, HM.out, HJ.out, HX.out⟩
    · go_wp2
      go_end0
      exact ⟨rfl, dk, HR.out, HM.out, HJ.out, HS.out.mono (Nat.le_refl _) (by omega)⟩
end Go.Proofs.Ytigepmijgoglhaa

namespace Go.Proofs.Ytigepmijgoglhaa
open Go.ChangeShapes Go.WideShapes Go.ChangeAt Go.RowKit
attribute [local irreducible] Go.Calls

theorem BubU.start' {K : Nat → Int} {n a m b i : Nat} {d : Nat → Nat} (hm1 : a < m) (hm2 : m ≤ a + 1) (hI : Inv K n d) (hbn : b ≤ n) (h : Srt K m b d) (hi : i ≤ b) (h1 : ∀ y, m ≤ y → y < i → K (d y) < K (d a)) (h2 : ∀ y, i ≤ y → y < b → ¬ K (d y) < K (d a)) : BubU K a b a i d := by
  have e : m = a + 1 := by omega
  subst e
  exact BubU.start hI hbn h hi h1 h2

set_option maxRecDepth 100000 in
set_option maxHeartbeats 4000000 in
theorem symMerge_up (w0 w : World) (blk n cap a m b : Nat) (t : TypeId) (K : Nat → Int) (recv : Value) (d : Nat → Nat) (h : RowW w0 blk n t d w) (hC : Cmps w0 blk n recv K) (hI : Inv K n d) (hO : Okd n d) (hm1 : a < m) (hm2 : m ≤ a + 1) (hmb : m < b) (hb : b ≤ n) (hn : n ≤ 4611686018427387904) (hs : Srt K m b d) :
    Calls Try.prog 61 #[.slice (some ⟨blk, 0, none⟩) n cap, .int .i64 a, .int .i64 m, .int .i64 b, .func (.func 53) #[recv] #[]] w (SrtTo w0 blk n t K a b d) := by
  have H := hidE h; have HC := hidE hC; have HI := hidE hI; have HO := hidE hO; have HS := hidE hs
  clear h hC hI hO hs
  have e1 : ((m : Int) - (a : Int) == 1) = true := beq_iff_eq.2 (by omega)
  go_enter Try.func61, Try.ntmps61
  go_wp2
  go_loopg [10, 11] b (fun g1 vi vj wr => ∃ (i j : Nat), vi = .int .i64 i ∧ vj = .int .i64 j ∧ m ≤ i ∧ i ≤ j ∧ j ≤ b ∧ j - i ≤ g1 ∧ RowW w0 blk n t d wr ∧ (∀ y, m ≤ y → y < i → K (d y) < K (d a)) ∧ (∀ y, j ≤ y → y < b → ¬ K (d y) < K (d a)))
  case atStart => exact ⟨m, b, rfl, rfl, by omega, by omega, by omega, by omega, H.out, fun y h1 h2 => by omega, fun y h1 h2 => by omega⟩
  case round =>
    obtain ⟨i, j, rfl, rfl, hai, hij, hjb, hg1, hr, hlo, hhi⟩ := hrel
    have HR := hidE hr; have HL := hidE hlo; have HH := hidE hhi
    clear hr hlo hhi
    by_cases hlt : i < j
    · have hltz : (i : Int) < (j : Int) := by omega
      obtain ⟨h, eh⟩ : ∃ h : Nat, ((i : Int) + (j : Int)) / 2 = (h : Int) := ⟨(i + j) / 2, by omega⟩
      have hih : i ≤ h := by omega
      have hhj : h < j := by omega
      have EH := hidE eh; clear eh
      have hok := HO.out
      have c1 := HR.out.cell (i := h) (by omega)
      have c2 := HR.out.cell (i := a) (by omega)
      have z := HR.out.lt
      have k1 := hok h (by omega)
      have k2 := hok a (by omega)
      have HCM := hidE (fun w hw => HC.out w hw (d h) (d a) k1 k2)
      clear hok
      go_wp2_with fail
      simp only [EH.out]
      by_cases hkey : K (d h) < K (d a)
      · have hd := cmp_t hkey
        have HX := hidE (fun y (h1 : m ≤ y) (h2 : y < h + 1) => (by
          have := HS.out.le (k := y) (k' := h) h1 (by omega) (by omega)
          omega : K (d y) < K (d a)))
        clear hkey
        generalize hx : d h = x at *
        generalize hy : d a = y at *
        have Hx := hidE hx; have Hy := hidE hy
        clear hx hy
        refine wp_region_past_lit (by kernel_rfl) (by kernel_rfl) ?_
        have hc := Past.cell (W := wr)
        repeat (go_big_quiet_step ((go_at_call 53; exact Past.call _ (HCM.out _ (HR.out.low.trans ((Past.prop _).mono (Nat.le_of_lt z)))))))
        refine wpQuiet_nil ?_
        rintro _ ⟨x', rfl⟩
        have hr2 := HR.out.past x'.2
        clear c1 c2 hc
        generalize x'.1 = w2 at hr2 ⊢
        have HR2 := hidE hr2; clear hr2
        go_wp2
        go_roundg (j - (h + 1))
        case measure => omega
        case rel => exact ⟨h + 1, j, by go_num, rfl, by omega, by omega, hjb, by omega, HR2.out, by simpa only [Hy.out] using HX.out, by simpa only [Hy.out] using HH.out⟩
      · have hd := cmp_f hkey
        have HX := hidE (fun y (h1 : h ≤ y) (h2 : y < b) => (by
          have := HS.out.le (k := h) (k' := y) (by omega) h1 h2
          omega : ¬ K (d y) < K (d a)))
        clear hkey
        generalize hx : d h = x at *
        generalize hy : d a = y at *
        have Hx := hidE hx; have Hy := hidE hy
        clear hx hy
        refine wp_region_past_lit (by kernel_rfl) (by kernel_rfl) ?_
        have hc := Past.cell (W := wr)
        repeat (go_big_quiet_step ((go_at_call 53; exact Past.call _ (HCM.out _ (HR.out.low.trans ((Past.prop _).mono (Nat.le_of_lt z)))))))
        refine wpQuiet_nil ?_
        rintro _ ⟨x', rfl⟩
        have hr2 := HR.out.past x'.2
        clear c1 c2 hc
        generalize x'.1 = w2 at hr2 ⊢
        have HR2 := hidE hr2; clear hr2
        go_wp2
        go_roundg (h - i)
        case measure => omega
        case rel => exact ⟨i, h, rfl, rfl, hai, by omega, by omega, by omega, HR2.out, by simpa only [Hy.out] using HL.out, by simpa only [Hy.out] using HX.out⟩
    · have : i = j := by omega
      subst this
      have hltz : ¬ (i : Int) < (i : Int) := by omega
      obtain ⟨ip, rfl⟩ : ∃ q, i = q + 1 := ⟨i - 1, by omega⟩
      have HB := hidE (BubU.start' hm1 hm2 HI.out hb HS.out hjb HL.out HH.out)
      clear HL HH
      obtain ⟨wo, rfl⟩ : ∃ wo : World, wo = wr := ⟨_, rfl⟩
      go_wp2
      go_loopg [13] (ip - a) (fun g2 vk wr2 => ∃ (k : Nat) (dk : Nat → Nat), vk = .int .i64 k ∧ a ≤ k ∧ k ≤ ip ∧ ip - k ≤ g2 ∧ RowW w0 blk n t dk wr2 ∧ Mv a b d dk ∧ Inv K n dk ∧ BubU K a b k (ip + 1) dk)
      case atStart => exact ⟨a, d, rfl, by omega, by omega, by omega, HR.out, Mv.refl _ _ _, HI.out, HB.out⟩
      case round =>
        clear HR HB
        obtain ⟨k, dk, rfl, hak, hki, hg2, hr, hm, hi, hs⟩ := hrel
        have HR := hidE hr; have HM := hidE hm; have HJ := hidE hi; have HB := hidE hs
        clear hr hm hi hs
        by_cases hlt : k < ip
        · have hltz : (k : Int) < (ip : Int) := by omega
          have HX := hidE (⟨HJ.out.swap k (by omega) (HB.out.mid _ (by omega) (by omega)), HM.out.trans (Mv.swap dk k (k + 1) (by omega) (by omega)), HB.out.step hak (by omega) hjb⟩ : Inv K n (sw dk k (k + 1)) ∧ Mv a b d (sw dk k (k + 1)) ∧ BubU K a b (k + 1) (ip + 1) (sw dk k (k + 1)))
          have c1 := HR.out.cell (i := k) (by omega)
          have c2 := HR.out.cell (i := k + 1) (by omega)
          have c3 := HR.out.c2 k (k + 1) (by omega) (dk (k + 1))
          have f1 := HR.out.free k
          have f2 := HR.out.free (k + 1)
          have HE := hidE (HR.out.swap k (k + 1)).drew
          rw [if_neg (by omega)] at c3
          generalize hx : dk (k + 1) = x at *
          generalize hy : dk k = y at *
          have Hx := hidE hx; have Hy := hidE hy
          clear hx hy
          go_wp2_with fail
          go_region
          go_wp2
          go_roundg (ip - (k + 1))
          case measure => omega
          case rel => exact ⟨k + 1, _, by go_num, by omega, by omega, Nat.le_refl _, HE.out, HX.out.2.1, HX.out.1, HX.out.2.2⟩
        · have hltz : ¬ (k : Int) < (ip : Int) := by omega
          go_wp2
          go_end0
          exact ⟨rfl, dk, HR.out, HM.out, HJ.out, HB.out.done (by omega)⟩
end Go.Proofs.Ytigepmijgoglhaa

namespace Go.Proofs.Ytigepmijgoglhaa
open Go.ChangeShapes Go.WideShapes Go.ChangeAt Go.RowKit
attribute [local irreducible] Go.Calls

theorem BubD.start' {K : Nat → Int} {n a m b i : Nat} {d : Nat → Nat} (hm1 : m < b) (hm2 : b ≤ m + 1) (hI : Inv K n d) (hbn : b ≤ n) (h : Srt K a m d) (h1 : ∀ x, a ≤ x → x < i → ¬ K (d m) < K (d x)) (h2 : ∀ x, i ≤ x → x < m → K (d m) < K (d x)) : BubD K a b m i d := by
  have e : b = m + 1 := by omega
  subst e
  exact BubD.start hI (by omega) h (fun x q1 q2 _ => h1 x q1 q2) h2

set_option maxRecDepth 100000 in
set_option maxHeartbeats 4000000 in
theorem symMerge_dn (w0 w : World) (blk n cap a m b : Nat) (t : TypeId) (K : Nat → Int) (recv : Value) (d : Nat → Nat) (h : RowW w0 blk n t d w) (hC : Cmps w0 blk n recv K) (hI : Inv K n d) (hO : Okd n d) (ham : a + 1 < m) (hm1 : m < b) (hm2 : b ≤ m + 1) (hb : b ≤ n) (hn : n ≤ 4611686018427387904) (hs : Srt K a m d) :
    Calls Try.prog 61 #[.slice (some ⟨blk, 0, none⟩) n cap, .int .i64 a, .int .i64 m, .int .i64 b, .func (.func 53) #[recv] #[]] w (SrtTo w0 blk n t K a b d) := by
  have H := hidE h; have HC := hidE hC; have HI := hidE hI; have HO := hidE hO; have HS := hidE hs
  clear h hC hI hO hs
  have e0 : ((m : Int) - (a : Int) == 1) = false := beq_eq_false_iff_ne.2 (by omega)
  have e1 : ((b : Int) - (m : Int) == 1) = true := beq_iff_eq.2 (by omega)
  go_enter Try.func61, Try.ntmps61
  go_wp2
  go_loopg [14, 15] m (fun g1 vi vj wr => ∃ (i j : Nat), vi = .int .i64 i ∧ vj = .int .i64 j ∧ a ≤ i ∧ i ≤ j ∧ j ≤ m ∧ j - i ≤ g1 ∧ RowW w0 blk n t d wr ∧ (∀ x, a ≤ x → x < i → ¬ K (d m) < K (d x)) ∧ (∀ x, j ≤ x → x < m → K (d m) < K (d x)))
  case atStart => exact ⟨a, m, rfl, rfl, by omega, by omega, by omega, by omega, H.out, fun y h1 h2 => by omega, fun y h1 h2 => by omega⟩
  case round =>
    obtain ⟨i, j, rfl, rfl, hai, hij, hjb, hg1, hr, hlo, hhi⟩ := hrel
    have HR := hidE hr; have HL := hidE hlo; have HH := hidE hhi
    clear hr hlo hhi
    by_cases hlt : i < j
    · have hltz : (i : Int) < (j : Int) := by omega
      obtain ⟨h, eh⟩ : ∃ h : Nat, ((i : Int) + (j : Int)) / 2 = (h : Int) := ⟨(i + j) / 2, by omega⟩
      have hih : i ≤ h := by omega
      have hhj : h < j := by omega
      have EH := hidE eh; clear eh
      have hok := HO.out
      have c1 := HR.out.cell (i := h) (by omega)
      have c2 := HR.out.cell (i := m) (by omega)
      have z := HR.out.lt
      have k1 := hok h (by omega)
      have k2 := hok m (by omega)
      have HCM := hidE (fun w hw => HC.out w hw (d m) (d h) k2 k1)
      clear hok
      go_wp2_with fail
      simp only [EH.out]
      by_cases hkey : K (d m) < K (d h)
      · have hd := cmp_t hkey
        have HX := hidE (fun x (h1 : h ≤ x) (h2 : x < m) => (by
          have := HS.out.le (k := h) (k' := x) (by omega) h1 h2
          omega : K (d m) < K (d x)))
        clear hkey
        generalize hx : d h = x at *
        generalize hy : d m = y at *
        have Hx := hidE hx; have Hy := hidE hy
        clear hx hy
        refine wp_region_past_lit (by kernel_rfl) (by kernel_rfl) ?_
        have hc := Past.cell (W := wr)
        repeat (go_big_quiet_step ((go_at_call 53; exact Past.call _ (HCM.out _ (HR.out.low.trans ((Past.prop _).mono (Nat.le_of_lt z)))))))
        refine wpQuiet_nil ?_
        rintro _ ⟨x', rfl⟩
        have hr2 := HR.out.past x'.2
        clear c1 c2 hc
        generalize x'.1 = w2 at hr2 ⊢
        have HR2 := hidE hr2; clear hr2
        go_wp2
        go_roundg (h - i)
        case measure => omega
        case rel => exact ⟨i, h, rfl, rfl, hai, by omega, by omega, by omega, HR2.out, by simpa only [Hy.out] using HL.out, by simpa only [Hy.out] using HX.out⟩
      · have hd := cmp_f hkey
        have HX := hidE (fun x (h1 : a ≤ x) (h2 : x < h + 1) => (by
          have := HS.out.le (k := x) (k' := h) h1 (by omega) (by omega)
          omega : ¬ K (d m) < K (d x)))
        clear hkey
        generalize hx : d h = x at *
        generalize hy : d m = y at *
        have Hx := hidE hx; have Hy := hidE hy
        clear hx hy
        refine wp_region_past_lit (by kernel_rfl) (by kernel_rfl) ?_
        have hc := Past.cell (W := wr)
        repeat (go_big_quiet_step ((go_at_call 53; exact Past.call _ (HCM.out _ (HR.out.low.trans ((Past.prop _).mono (Nat.le_of_lt z)))))))
        refine wpQuiet_nil ?_
        rintro _ ⟨x', rfl⟩
        have hr2 := HR.out.past x'.2
        clear c1 c2 hc
        generalize x'.1 = w2 at hr2 ⊢
        have HR2 := hidE hr2; clear hr2
        go_wp2
        go_roundg (j - (h + 1))
        case measure => omega
        case rel => exact ⟨h + 1, j, by go_num, rfl, by omega, by omega, hjb, by omega, HR2.out, by simpa only [Hy.out] using HX.out, by simpa only [Hy.out] using HH.out⟩
    · have : i = j := by omega
      subst this
      have hltz : ¬ (i : Int) < (i : Int) := by omega
      have HB := hidE (BubD.start' hm1 hm2 HI.out hb HS.out HL.out HH.out)
      clear HL HH
      obtain ⟨wo, rfl⟩ : ∃ wo : World, wo = wr := ⟨_, rfl⟩
      go_wp2
      go_loopg [17] (m - i) (fun g2 vk wr2 => ∃ (k : Nat) (dk : Nat → Nat), vk = .int .i64 k ∧ i ≤ k ∧ k ≤ m ∧ k - i ≤ g2 ∧ RowW w0 blk n t dk wr2 ∧ Mv a b d dk ∧ Inv K n dk ∧ BubD K a b k i dk)
      case atStart => exact ⟨m, d, rfl, by omega, by omega, by omega, HR.out, Mv.refl _ _ _, HI.out, HB.out⟩
      case round =>
        clear HR HB
        obtain ⟨k, dk, rfl, hak, hki, hg2, hr, hm, hi, hs⟩ := hrel
        have HR := hidE hr; have HM := hidE hm; have HJ := hidE hi; have HB := hidE hs
        clear hr hm hi hs
        by_cases hlt : i < k
        · obtain ⟨kp, rfl⟩ : ∃ q, k = q + 1 := ⟨k - 1, by omega⟩
          have hltz : (i : Int) < (kp : Int) + 1 := by omega
          have HX := hidE (⟨HJ.out.swap' kp (by omega) (HB.out.mid _ (by omega) (by omega)), HM.out.trans (Mv.swap dk (kp + 1) kp (by omega) (by omega)), HB.out.step hai (by omega) (by omega)⟩ : Inv K n (sw dk (kp + 1) kp) ∧ Mv a b d (sw dk (kp + 1) kp) ∧ BubD K a b kp i (sw dk (kp + 1) kp))
          have c1 := HR.out.cell (i := kp) (by omega)
          have c2 := HR.out.cell (i := kp + 1) (by omega)
          have c3 := HR.out.c2 (kp + 1) kp (by omega) (dk kp)
          have f1 := HR.out.free kp
          have f2 := HR.out.free (kp + 1)
          have HE := hidE (HR.out.swap (kp + 1) kp).drew
          rw [if_neg (by omega)] at c3
          generalize hx : dk (kp + 1) = x at *
          generalize hy : dk kp = y at *
          have Hx := hidE hx; have Hy := hidE hy
          clear hx hy
          go_wp2_with fail
          go_region
          go_wp2
          go_roundg (kp - i)
          case measure => omega
          case rel => exact ⟨kp, _, by go_num, by omega, by omega, Nat.le_refl _, HE.out, HX.out.2.1, HX.out.1, HX.out.2.2⟩
        · have hltz : ¬ (i : Int) < (k : Int) := by omega
          go_wp2
          go_end0
          exact ⟨rfl, dk, HR.out, HM.out, HJ.out, HB.out.done (by omega)⟩
end Go.Proofs.Ytigepmijgoglhaa

namespace Go.Proofs.Ytigepmijgoglhaa
open Go.ChangeShapes Go.WideShapes Go.ChangeAt Go.RowKit
attribute [local irreducible] Go.Calls

theorem sides_l {K : Nat → Int} {a s M : Nat} {d : Nat → Nat} (h1 : Srt K a s d) (h2 : Srt K s M d) (h3 : a ≤ s) (sM : s ≤ M) (h : s = a ∨ s = M) : Srt K a M d := by
  rcases h with h | h
  · subst h; exact h2
  · subst h; exact h1
theorem fin_c {K : Nat → Int} {a M b : Nat} {dd d2 d3 : Nat → Nat} (haM : a ≤ M) (hMb : M ≤ b) (m2 : Mv a M dd d2) (m3 : Mv M b d2 d3) (s2 : Srt K a M d2) (s3 : Srt K M b d3) (hx : ∀ x y, a ≤ x → x < M → M ≤ y → y < b → Lx K (dd x) (dd y)) : Mv a b dd d3 ∧ Srt K a b d3 :=
  ⟨(m2.mono (Nat.le_refl _) hMb).trans (m3.mono haM (Nat.le_refl _)), srt_join (s2.congr fun k _ h2 => m3.out k (.inl h2)) s3 (cross_mv (cross_mv hx (.inl m2)) (.inr m3))⟩

/-- What is asked of the calls of itself on shorter stretches. -/
def SymIH (w0 : World) (blk n cap : Nat) (t : TypeId) (K : Nat → Int) (recv : Value) (N : Nat) : Prop :=
  ∀ (w : World) (a m b : Nat) (d : Nat → Nat), b - a ≤ N → RowW w0 blk n t d w → Inv K n d → Okd n d → a < m → m < b → b ≤ n → Srt K a m d → Srt K m b d →
    Calls Try.prog 61 #[.slice (some ⟨blk, 0, none⟩) n cap, .int .i64 a, .int .i64 m, .int .i64 b, .func (.func 53) #[recv] #[]] w (SrtTo w0 blk n t K a b d)

theorem SymIH.app {w0 : World} {blk n cap : Nat} {t : TypeId} {K : Nat → Int} {recv : Value} {N : Nat} (h : SymIH w0 blk n cap t K recv N) {w : World} {a m b : Nat} {d : Nat → Nat} (h1 : b - a ≤ N) (h2 : RowW w0 blk n t d w) (h3 : Inv K n d) (h4 : Okd n d) (h5 : a < m) (h6 : m < b) (h7 : b ≤ n) (h8 : Srt K a m d) (h9 : Srt K m b d) :
    Calls Try.prog 61 #[.slice (some ⟨blk, 0, none⟩) n cap, .int .i64 a, .int .i64 m, .int .i64 b, .func (.func 53) #[recv] #[]] w (SrtTo w0 blk n t K a b d) :=
  h w a m b d h1 h2 h3 h4 h5 h6 h7 h8 h9

/-- The search under way. -/
def Srch (K : Nat → Int) (d : Nat → Nat) (P s0 i j r0 : Nat) : Prop :=
  (∀ c, s0 ≤ c → c < i → ¬ K (d (P - c)) < K (d c)) ∧ (∀ c, j ≤ c → c < r0 → K (d (P - c)) < K (d c))
theorem Srch.start (K : Nat → Int) (d : Nat → Nat) (P s0 r0 : Nat) : Srch K d P s0 s0 r0 r0 := ⟨fun c h1 h2 => by omega, fun c h1 h2 => by omega⟩
theorem Srch.up {K : Nat → Int} {d : Nat → Nat} {P s0 i j r0 h a m b : Nat} (hS : Srch K d P s0 i j r0) (h1 : Srt K a m d) (h2 : Srt K m b d) (q0 : a ≤ s0) (q1 : h < m) (q2 : m ≤ P - h) (q3 : P - s0 < b) (_q4 : s0 ≤ h) (hk : ¬ K (d (P - h)) < K (d h)) : Srch K d P s0 (h + 1) j r0 :=
  ⟨fun c g1 g2 => by
    have e1 := h1.le (k := c) (k' := h) (by omega) (by omega) q1
    have e2 := h2.le (k := P - h) (k' := P - c) q2 (by omega) (by omega)
    omega, hS.2⟩
theorem Srch.dn {K : Nat → Int} {d : Nat → Nat} {P s0 i j r0 h a m b : Nat} (hS : Srch K d P s0 i j r0) (h1 : Srt K a m d) (h2 : Srt K m b d) (q0 : a ≤ h) (q1 : r0 ≤ m) (q2 : m + r0 ≤ P + 1) (q3 : P - h < b) (hk : K (d (P - h)) < K (d h)) : Srch K d P s0 i h r0 :=
  ⟨hS.1, fun c g1 g2 => by
    have e1 := h1.le (k := h) (k' := c) q0 (by omega) (by omega)
    have e2 := h2.le (k := P - c) (k' := P - h) (by omega) (by omega) (by omega)
    omega⟩
theorem Srch.cut {K : Nat → Int} {d : Nat → Nat} {s0 i r0 a m b M : Nat} (hS : Srch K d (M + m - 1) s0 i i r0) (hM : (a + b) / 2 = M) (hs : s0 ≤ i) (hr : i ≤ r0) (am : a < m) (mb : m < b) (hc : (M < m ∧ s0 + b = M + m ∧ r0 = M) ∨ (m ≤ M ∧ s0 = a ∧ r0 = m)) : Cut K a m b i d := by
  obtain ⟨s1, s2⟩ := hS
  refine ⟨by omega, by omega, by omega, by omega, by omega, ?_, ?_⟩
  · intro h1 h2
    have := s1 (i - 1) (by omega) (by omega)
    rw [show (a + b) / 2 + m - i = M + m - 1 - (i - 1) by omega]
    exact this
  · intro h1 h2
    have := s2 i (by omega) (by omega)
    rw [show (a + b) / 2 + m - i - 1 = M + m - 1 - i by omega]
    exact this

set_option maxRecDepth 100000 in
set_option maxHeartbeats 16000000 in
theorem symMerge_mid (w0 w : World) (blk n cap a m b N M s0 r0 : Nat) (t : TypeId) (K : Nat → Int) (recv : Value) (d : Nat → Nat) (h : RowW w0 blk n t d w) (hC : Cmps w0 blk n recv K) (hI : Inv K n d) (hO : Okd n d) (ham : a + 1 < m) (hmb : m + 1 < b) (hb : b ≤ n) (hn : n ≤ 4611686018427387904)
    (hs1 : Srt K a m d) (hs2 : Srt K m b d) (ih : SymIH w0 blk n cap t K recv N) (hN : b - a ≤ N + 1) (hM : (a + b) / 2 = M) (hc : (M < m ∧ s0 + b = M + m ∧ r0 = M) ∨ (m ≤ M ∧ s0 = a ∧ r0 = m)) :
    Calls Try.prog 61 #[.slice (some ⟨blk, 0, none⟩) n cap, .int .i64 a, .int .i64 m, .int .i64 b, .func (.func 53) #[recv] #[]] w (SrtTo w0 blk n t K a b d) := by
  have H := hidE h; have HC := hidE hC; have HI := hidE hI; have HO := hidE hO; have HS1 := hidE hs1; have HS2 := hidE hs2; have IH := hidE ih
  have hMa : a < M := by omega
  have hMb : M < b := by omega
  have hM2 : 2 * M ≤ a + b := by omega
  have hM3 : a + b ≤ 2 * M + 1 := by omega
  have EM := hidE (show ((a : Int) + (b : Int)) / 2 = (M : Int) by omega)
  have HM := hidE hM
  have hP : ∃ P, P = M + m - 1 := ⟨_, rfl⟩
  obtain ⟨P, hP⟩ := hP
  have EP := hidE (show (M : Int) + (m : Int) - 1 = (P : Int) by omega)
  have HP := hidE hP
  have hPm : P + 1 = M + m := by omega
  have HPM := hidE hPm
  have b1 : P + 1 ≤ M + m := by omega
  have b2 : M + m ≤ P + 1 := by omega
  have hq1 : a ≤ s0 := by omega
  have hq2 : s0 ≤ r0 := by omega
  have hq3 : r0 ≤ m := by omega
  have hq4 : m + r0 ≤ P + 1 := by omega
  have hq5 : P < b + s0 := by omega
  have HCC := hidE hc
  clear h hC hI hO hs1 hs2 ih hM hP hPm
  have e0 : ((m : Int) - (a : Int) == 1) = false := beq_eq_false_iff_ne.2 (by omega)
  have e1 : ((b : Int) - (m : Int) == 1) = false := beq_eq_false_iff_ne.2 (by omega)
  rcases hc with hc | hc
  all_goals
    obtain ⟨hc1, hc2, hc3⟩ := hc
    have hct : ((M : Int) < (m : Int)) ∨ ¬ ((M : Int) < (m : Int)) := by omega
    have HC2 := hidE hc2; have HC3 := hidE hc3
    clear hc2 hc3 hct
    go_enter Try.func61, Try.ntmps61
    go_upto_region 25 with fail
    simp only [EM.out]
    go_upto_region 33 with fail
    simp only [EP.out]
    go_loopg [20, 21] b (fun g1 vi vj wr => ∃ (i j : Nat), vi = .int .i64 i ∧ vj = .int .i64 j ∧ s0 ≤ i ∧ i ≤ j ∧ j ≤ r0 ∧ j - i ≤ g1 ∧ RowW w0 blk n t d wr ∧ Srch K d P s0 i j r0)
    case atStart => exact ⟨s0, r0, by have := HC2.out; go_num, by have := HC3.out; go_num, by omega, by omega, by omega, by omega, H.out, Srch.start _ _ _ _ _⟩
    case round =>
      obtain ⟨i, j, rfl, rfl, hai, hij, hjb, hg1, hr, hlo⟩ := hrel
      have HR := hidE hr; have HL := hidE hlo
      clear hr hlo
      by_cases hlt : i < j
      · have hltz : (i : Int) < (j : Int) := by omega
        obtain ⟨h, eh⟩ : ∃ h : Nat, ((i : Int) + (j : Int)) / 2 = (h : Int) := ⟨(i + j) / 2, by omega⟩
        have hih : i ≤ h := by omega
        have hhj : h < j := by omega
        have EH := hidE eh; clear eh
        obtain ⟨q, hq⟩ : ∃ q, q = P - h := ⟨_, rfl⟩
        have eq1 : IntKind.i64.wrap ((P : Int) - (h : Int)) = (q : Int) := by rw [IntKind.wrap_i64]; omega
        have hok := HO.out
        have c1 := HR.out.cell (i := h) (by omega)
        have c2 := HR.out.cell (i := q) (by omega)
        have z := HR.out.lt
        have k1 := hok h (by omega)
        have k2 := hok q (by omega)
        have HCM := hidE (fun w hw => HC.out w hw (d q) (d h) k2 k1)
        have hqn : q < n := by omega
        clear hok
        go_wp2_with fail
        simp only [EH.out]
        have EQ1 := hidE eq1; clear eq1
        by_cases hkey : K (d q) < K (d h)
        · have hd := cmp_t hkey
          have HX := hidE (HL.out.dn HS1.out HS2.out (h := h) (by omega) hq3 hq4 (by omega) (by rw [← hq]; exact hkey))
          have HQ := hidE hq
          clear hkey hq
          generalize hx : d h = x at *
          generalize hy : d q = y at *
          have Hx := hidE hx; have Hy := hidE hy
          clear hx hy
          have eq1 := EQ1.out
          refine wp_region_past_lit (by kernel_rfl) (by kernel_rfl) ?_
          have hc := Past.cell (W := wr)
          repeat (go_big_quiet_step ((go_at_call 53; exact Past.call _ (HCM.out _ (HR.out.low.trans ((Past.prop _).mono (Nat.le_of_lt z)))))))
          refine wpQuiet_nil ?_
          rintro _ ⟨x', rfl⟩
          have hr2 := HR.out.past x'.2
          clear c1 c2 hc eq1
          generalize x'.1 = w2 at hr2 ⊢
          have HR2 := hidE hr2; clear hr2
          go_wp2
          go_roundg (h - i)
          case measure => omega
          case rel => exact ⟨i, h, rfl, rfl, hai, by omega, by omega, by omega, HR2.out, HX.out⟩
        · have hd := cmp_f hkey
          have HX := hidE (HL.out.up HS1.out HS2.out (h := h) hq1 (by omega) (by omega) (by omega) (by omega) (by rw [← hq]; exact hkey))
          have HQ := hidE hq
          clear hkey hq
          generalize hx : d h = x at *
          generalize hy : d q = y at *
          have Hx := hidE hx; have Hy := hidE hy
          clear hx hy
          have eq1 := EQ1.out
          refine wp_region_past_lit (by kernel_rfl) (by kernel_rfl) ?_
          have hc := Past.cell (W := wr)
          repeat (go_big_quiet_step ((go_at_call 53; exact Past.call _ (HCM.out _ (HR.out.low.trans ((Past.prop _).mono (Nat.le_of_lt z)))))))
          refine wpQuiet_nil ?_
          rintro _ ⟨x', rfl⟩
          have hr2 := HR.out.past x'.2
          clear c1 c2 hc eq1
          generalize x'.1 = w2 at hr2 ⊢
          have HR2 := hidE hr2; clear hr2
          go_wp2
          go_roundg (j - (h + 1))
          case measure => omega
          case rel => exact ⟨h + 1, j, by go_num, rfl, by omega, by omega, hjb, by omega, HR2.out, HX.out⟩
      · have : i = j := by omega
        subst this
        have hltz : ¬ (i : Int) < (i : Int) := by omega
        have hl := HL.out
        rw [HP.out] at hl
        have hcut := hl.cut HM.out hai hjb (by omega) (by omega) HCC.out
        have hcu := hcut.rotated HI.out hb HS1.out HS2.out
        have f1 := hcut.as; have f2 := hcut.sm; have f3 := hcut.smid; have f4 := hcut.me; have f5 := hcut.eb
        rw [HM.out] at hcu f3 f4 f5
        obtain ⟨E, hE⟩ : ∃ E, E = M + m - i := ⟨_, rfl⟩
        rw [← hE] at hcu f4 f5
        have EE := hidE (show (M : Int) + (m : Int) - (i : Int) = (E : Int) by omega)
        have hE1 : E + i ≤ M + m := by omega
        have hE2 : M + m ≤ E + i := by omega
        obtain ⟨u0, u1, u2, u3, u4, u5⟩ := hcu
        have hmv := Mv.rot d f2 f4
        have U0 := hidE u0; have U1 := hidE u1; have U2 := hidE u2; have U3 := hidE u3; have U4 := hidE u4; have U5 := hidE u5
        have UO := hidE (HO.out.mv hmv (by omega))
        have UM := hidE (hmv.mono f1 f5)
        clear u0 u1 u2 u3 u4 u5 hl hcut hE HL hmv
        go_upto_region 39 with fail
        simp only [EE.out]
        clear hltz

        by_cases hA : i < m
        · by_cases hB : m < E
          · by_cases hC : a < i
            · by_cases hD : E < b
              · have hE : i < M := by omega
                have hF : M < E := by omega
                have tA : ((i : Int) < (m : Int)) := by omega
                have tB : ((m : Int) < (E : Int)) := by omega
                have tC : ((a : Int) < (i : Int)) := by omega
                have tD : ((E : Int) < (b : Int)) := by omega
                have tE : ((i : Int) < (M : Int)) := by omega
                have tF : ((M : Int) < (E : Int)) := by omega
                go_wp2_with (go_at_call 63; ((with_reducible refine (rotate_c w0 _ blk n cap i m E t d _ HR.out hA hB (by omega) hn).mono ?_); rintro e w1 ⟨rfl, hr1⟩))
                clear HR
                have R1 := hidE hr1; clear hr1
                try go_wp2_with fail
                ((with_reducible refine (IH.out.app (a := a) (m := i) (b := M) (by omega) R1.out U0.out UO.out hC hE (by omega) U1.out U2.out).mono ?_); rintro e w2 ⟨rfl, d2, hr2, hm2, hi2, hs2⟩)
                have o2 := UO.out.mv hm2 (by omega)
                have R2 := hidE hr2; have M2 := hidE hm2; have I2 := hidE hi2; have S2 := hidE hs2; have O2 := hidE o2; clear hr2 hm2 hi2 hs2 o2
                go_wp2_with fail
                have x3 := U3.out.congr fun k (q1 : M ≤ k) (q2 : k < E) => M2.out.out k (.inr q1)
                have x4 := U4.out.congr fun k (q1 : E ≤ k) (q2 : k < b) => M2.out.out k (.inr (by omega))
                have X3 := hidE x3; have X4 := hidE x4; clear x3 x4
                ((with_reducible refine (IH.out.app (a := M) (m := E) (b := b) (by omega) R2.out I2.out O2.out hF hD hb X3.out X4.out).mono ?_); rintro e w3 ⟨rfl, d3, hr3, hm3, hi3, hs3⟩)
                have R3 := hidE hr3; have M3 := hidE hm3; have I3 := hidE hi3; have S3 := hidE hs3; clear hr3 hm3 hi3 hs3
                go_wp2
                all_goals go_end0
                all_goals obtain ⟨y1, y2⟩ := fin_c (Nat.le_of_lt hMa) (Nat.le_of_lt hMb) M2.out M3.out S2.out S3.out U5.out
                all_goals exact ⟨rfl, _, R3.out, UM.out.trans y1, I3.out, y2⟩
              · have hE : i < M := by omega
                have hF : M < E := by omega
                have tA : ((i : Int) < (m : Int)) := by omega
                have tB : ((m : Int) < (E : Int)) := by omega
                have tC : ((a : Int) < (i : Int)) := by omega
                have tD : ¬ ((E : Int) < (b : Int)) := by omega
                have tE : ((i : Int) < (M : Int)) := by omega
                have tF : ((M : Int) < (E : Int)) := by omega
                go_wp2_with (go_at_call 63; ((with_reducible refine (rotate_c w0 _ blk n cap i m E t d _ HR.out hA hB (by omega) hn).mono ?_); rintro e w1 ⟨rfl, hr1⟩))
                clear HR
                have R1 := hidE hr1; clear hr1
                try go_wp2_with fail
                ((with_reducible refine (IH.out.app (a := a) (m := i) (b := M) (by omega) R1.out U0.out UO.out hC hE (by omega) U1.out U2.out).mono ?_); rintro e w2 ⟨rfl, d2, hr2, hm2, hi2, hs2⟩)
                have o2 := UO.out.mv hm2 (by omega)
                have R2 := hidE hr2; have M2 := hidE hm2; have I2 := hidE hi2; have S2 := hidE hs2; have O2 := hidE o2; clear hr2 hm2 hi2 hs2 o2
                go_wp2
                all_goals go_end0
                all_goals obtain ⟨y1, y2⟩ := fin_c (Nat.le_of_lt hMa) (Nat.le_of_lt hMb) M2.out (Mv.refl _ _ _) S2.out (sides_l (U3.out.congr fun k (q1 : M ≤ k) (q2 : k < E) => M2.out.out k (.inr q1)) (U4.out.congr fun k (q1 : E ≤ k) (q2 : k < b) => M2.out.out k (.inr (by omega))) (by omega) f5 (by omega)) U5.out
                all_goals exact ⟨rfl, _, R2.out, UM.out.trans y1, I2.out, y2⟩
            · by_cases hD : E < b
              · have hE : i < M := by omega
                have hF : M < E := by omega
                have tA : ((i : Int) < (m : Int)) := by omega
                have tB : ((m : Int) < (E : Int)) := by omega
                have tC : ¬ ((a : Int) < (i : Int)) := by omega
                have tD : ((E : Int) < (b : Int)) := by omega
                have tE : ((i : Int) < (M : Int)) := by omega
                have tF : ((M : Int) < (E : Int)) := by omega
                go_wp2_with (go_at_call 63; ((with_reducible refine (rotate_c w0 _ blk n cap i m E t d _ HR.out hA hB (by omega) hn).mono ?_); rintro e w1 ⟨rfl, hr1⟩))
                clear HR
                have R1 := hidE hr1; clear hr1
                try go_wp2_with fail
                have x3 := U3.out; have x4 := U4.out
                have X3 := hidE x3; have X4 := hidE x4; clear x3 x4
                ((with_reducible refine (IH.out.app (a := M) (m := E) (b := b) (by omega) R1.out U0.out UO.out hF hD hb X3.out X4.out).mono ?_); rintro e w3 ⟨rfl, d3, hr3, hm3, hi3, hs3⟩)
                have R3 := hidE hr3; have M3 := hidE hm3; have I3 := hidE hi3; have S3 := hidE hs3; clear hr3 hm3 hi3 hs3
                go_wp2
                all_goals go_end0
                all_goals obtain ⟨y1, y2⟩ := fin_c (Nat.le_of_lt hMa) (Nat.le_of_lt hMb) (Mv.refl _ _ _) M3.out (sides_l U1.out U2.out f1 f3 (by omega)) S3.out U5.out
                all_goals exact ⟨rfl, _, R3.out, UM.out.trans y1, I3.out, y2⟩
              · have hE : i < M := by omega
                have hF : M < E := by omega
                have tA : ((i : Int) < (m : Int)) := by omega
                have tB : ((m : Int) < (E : Int)) := by omega
                have tC : ¬ ((a : Int) < (i : Int)) := by omega
                have tD : ¬ ((E : Int) < (b : Int)) := by omega
                have tE : ((i : Int) < (M : Int)) := by omega
                have tF : ((M : Int) < (E : Int)) := by omega
                go_wp2_with (go_at_call 63; ((with_reducible refine (rotate_c w0 _ blk n cap i m E t d _ HR.out hA hB (by omega) hn).mono ?_); rintro e w1 ⟨rfl, hr1⟩))
                clear HR
                have R1 := hidE hr1; clear hr1
                try go_wp2
                all_goals go_end0
                all_goals obtain ⟨y1, y2⟩ := fin_c (Nat.le_of_lt hMa) (Nat.le_of_lt hMb) (Mv.refl _ _ _) (Mv.refl _ _ _) (sides_l U1.out U2.out f1 f3 (by omega)) (sides_l U3.out U4.out (by omega) f5 (by omega)) U5.out
                all_goals exact ⟨rfl, _, R1.out, UM.out.trans y1, U0.out, y2⟩
          · by_cases hC : a < i
            · by_cases hD : E < b
              · have hF : M < E := by omega
                have tA : ((i : Int) < (m : Int)) := by omega
                have tB : ¬ ((m : Int) < (E : Int)) := by omega
                have tC : ((a : Int) < (i : Int)) := by omega
                have tD : ((E : Int) < (b : Int)) := by omega
                have tE : ¬ ((i : Int) < (M : Int)) := by omega
                have tF : ((M : Int) < (E : Int)) := by omega
                have hr1 := HR.out.ext (rot_none f2 f4 (by omega)).symm
                clear HR
                have R1 := hidE hr1; clear hr1
                go_wp2_with fail
                have x3 := U3.out; have x4 := U4.out
                have X3 := hidE x3; have X4 := hidE x4; clear x3 x4
                ((with_reducible refine (IH.out.app (a := M) (m := E) (b := b) (by omega) R1.out U0.out UO.out hF hD hb X3.out X4.out).mono ?_); rintro e w3 ⟨rfl, d3, hr3, hm3, hi3, hs3⟩)
                have R3 := hidE hr3; have M3 := hidE hm3; have I3 := hidE hi3; have S3 := hidE hs3; clear hr3 hm3 hi3 hs3
                go_wp2
                all_goals go_end0
                all_goals obtain ⟨y1, y2⟩ := fin_c (Nat.le_of_lt hMa) (Nat.le_of_lt hMb) (Mv.refl _ _ _) M3.out (sides_l U1.out U2.out f1 f3 (by omega)) S3.out U5.out
                all_goals exact ⟨rfl, _, R3.out, UM.out.trans y1, I3.out, y2⟩
              · have hF : M < E := by omega
                have tA : ((i : Int) < (m : Int)) := by omega
                have tB : ¬ ((m : Int) < (E : Int)) := by omega
                have tC : ((a : Int) < (i : Int)) := by omega
                have tD : ¬ ((E : Int) < (b : Int)) := by omega
                have tE : ¬ ((i : Int) < (M : Int)) := by omega
                have tF : ((M : Int) < (E : Int)) := by omega
                have hr1 := HR.out.ext (rot_none f2 f4 (by omega)).symm
                clear HR
                have R1 := hidE hr1; clear hr1
                go_wp2
                all_goals go_end0
                all_goals obtain ⟨y1, y2⟩ := fin_c (Nat.le_of_lt hMa) (Nat.le_of_lt hMb) (Mv.refl _ _ _) (Mv.refl _ _ _) (sides_l U1.out U2.out f1 f3 (by omega)) (sides_l U3.out U4.out (by omega) f5 (by omega)) U5.out
                all_goals exact ⟨rfl, _, R1.out, UM.out.trans y1, U0.out, y2⟩
            · by_cases hD : E < b
              · have hF : M < E := by omega
                have tA : ((i : Int) < (m : Int)) := by omega
                have tB : ¬ ((m : Int) < (E : Int)) := by omega
                have tC : ¬ ((a : Int) < (i : Int)) := by omega
                have tD : ((E : Int) < (b : Int)) := by omega
                have tE : ¬ ((i : Int) < (M : Int)) := by omega
                have tF : ((M : Int) < (E : Int)) := by omega
                have hr1 := HR.out.ext (rot_none f2 f4 (by omega)).symm
                clear HR
                have R1 := hidE hr1; clear hr1
                go_wp2_with fail
                have x3 := U3.out; have x4 := U4.out
                have X3 := hidE x3; have X4 := hidE x4; clear x3 x4
                ((with_reducible refine (IH.out.app (a := M) (m := E) (b := b) (by omega) R1.out U0.out UO.out hF hD hb X3.out X4.out).mono ?_); rintro e w3 ⟨rfl, d3, hr3, hm3, hi3, hs3⟩)
                have R3 := hidE hr3; have M3 := hidE hm3; have I3 := hidE hi3; have S3 := hidE hs3; clear hr3 hm3 hi3 hs3
                go_wp2
                all_goals go_end0
                all_goals obtain ⟨y1, y2⟩ := fin_c (Nat.le_of_lt hMa) (Nat.le_of_lt hMb) (Mv.refl _ _ _) M3.out (sides_l U1.out U2.out f1 f3 (by omega)) S3.out U5.out
                all_goals exact ⟨rfl, _, R3.out, UM.out.trans y1, I3.out, y2⟩
              · have hF : M < E := by omega
                have tA : ((i : Int) < (m : Int)) := by omega
                have tB : ¬ ((m : Int) < (E : Int)) := by omega
                have tC : ¬ ((a : Int) < (i : Int)) := by omega
                have tD : ¬ ((E : Int) < (b : Int)) := by omega
                have tE : ¬ ((i : Int) < (M : Int)) := by omega
                have tF : ((M : Int) < (E : Int)) := by omega
                have hr1 := HR.out.ext (rot_none f2 f4 (by omega)).symm
                clear HR
                have R1 := hidE hr1; clear hr1
                go_wp2
                all_goals go_end0
                all_goals obtain ⟨y1, y2⟩ := fin_c (Nat.le_of_lt hMa) (Nat.le_of_lt hMb) (Mv.refl _ _ _) (Mv.refl _ _ _) (sides_l U1.out U2.out f1 f3 (by omega)) (sides_l U3.out U4.out (by omega) f5 (by omega)) U5.out
                all_goals exact ⟨rfl, _, R1.out, UM.out.trans y1, U0.out, y2⟩
        · by_cases hB : m < E
          · by_cases hC : a < i
            · by_cases hD : E < b
              · have hE : i < M := by omega
                have tA : ¬ ((i : Int) < (m : Int)) := by omega
                have tB : ((m : Int) < (E : Int)) := by omega
                have tC : ((a : Int) < (i : Int)) := by omega
                have tD : ((E : Int) < (b : Int)) := by omega
                have tE : ((i : Int) < (M : Int)) := by omega
                have tF : ¬ ((M : Int) < (E : Int)) := by omega
                have hr1 := HR.out.ext (rot_none f2 f4 (by omega)).symm
                clear HR
                have R1 := hidE hr1; clear hr1
                go_wp2_with fail
                ((with_reducible refine (IH.out.app (a := a) (m := i) (b := M) (by omega) R1.out U0.out UO.out hC hE (by omega) U1.out U2.out).mono ?_); rintro e w2 ⟨rfl, d2, hr2, hm2, hi2, hs2⟩)
                have o2 := UO.out.mv hm2 (by omega)
                have R2 := hidE hr2; have M2 := hidE hm2; have I2 := hidE hi2; have S2 := hidE hs2; have O2 := hidE o2; clear hr2 hm2 hi2 hs2 o2
                go_wp2
                all_goals go_end0
                all_goals obtain ⟨y1, y2⟩ := fin_c (Nat.le_of_lt hMa) (Nat.le_of_lt hMb) M2.out (Mv.refl _ _ _) S2.out (sides_l (U3.out.congr fun k (q1 : M ≤ k) (q2 : k < E) => M2.out.out k (.inr q1)) (U4.out.congr fun k (q1 : E ≤ k) (q2 : k < b) => M2.out.out k (.inr (by omega))) (by omega) f5 (by omega)) U5.out
                all_goals exact ⟨rfl, _, R2.out, UM.out.trans y1, I2.out, y2⟩
              · have hE : i < M := by omega
                have tA : ¬ ((i : Int) < (m : Int)) := by omega
                have tB : ((m : Int) < (E : Int)) := by omega
                have tC : ((a : Int) < (i : Int)) := by omega
                have tD : ¬ ((E : Int) < (b : Int)) := by omega
                have tE : ((i : Int) < (M : Int)) := by omega
                have tF : ¬ ((M : Int) < (E : Int)) := by omega
                have hr1 := HR.out.ext (rot_none f2 f4 (by omega)).symm
                clear HR
                have R1 := hidE hr1; clear hr1
                go_wp2_with fail
                ((with_reducible refine (IH.out.app (a := a) (m := i) (b := M) (by omega) R1.out U0.out UO.out hC hE (by omega) U1.out U2.out).mono ?_); rintro e w2 ⟨rfl, d2, hr2, hm2, hi2, hs2⟩)
                have o2 := UO.out.mv hm2 (by omega)
                have R2 := hidE hr2; have M2 := hidE hm2; have I2 := hidE hi2; have S2 := hidE hs2; have O2 := hidE o2; clear hr2 hm2 hi2 hs2 o2
                go_wp2
                all_goals go_end0
                all_goals obtain ⟨y1, y2⟩ := fin_c (Nat.le_of_lt hMa) (Nat.le_of_lt hMb) M2.out (Mv.refl _ _ _) S2.out (sides_l (U3.out.congr fun k (q1 : M ≤ k) (q2 : k < E) => M2.out.out k (.inr q1)) (U4.out.congr fun k (q1 : E ≤ k) (q2 : k < b) => M2.out.out k (.inr (by omega))) (by omega) f5 (by omega)) U5.out
                all_goals exact ⟨rfl, _, R2.out, UM.out.trans y1, I2.out, y2⟩
            · by_cases hD : E < b
              · have hE : i < M := by omega
                have tA : ¬ ((i : Int) < (m : Int)) := by omega
                have tB : ((m : Int) < (E : Int)) := by omega
                have tC : ¬ ((a : Int) < (i : Int)) := by omega
                have tD : ((E : Int) < (b : Int)) := by omega
                have tE : ((i : Int) < (M : Int)) := by omega
                have tF : ¬ ((M : Int) < (E : Int)) := by omega
                have hr1 := HR.out.ext (rot_none f2 f4 (by omega)).symm
                clear HR
                have R1 := hidE hr1; clear hr1
                go_wp2
                all_goals go_end0
                all_goals obtain ⟨y1, y2⟩ := fin_c (Nat.le_of_lt hMa) (Nat.le_of_lt hMb) (Mv.refl _ _ _) (Mv.refl _ _ _) (sides_l U1.out U2.out f1 f3 (by omega)) (sides_l U3.out U4.out (by omega) f5 (by omega)) U5.out
                all_goals exact ⟨rfl, _, R1.out, UM.out.trans y1, U0.out, y2⟩
              · have hE : i < M := by omega
                have tA : ¬ ((i : Int) < (m : Int)) := by omega
                have tB : ((m : Int) < (E : Int)) := by omega
                have tC : ¬ ((a : Int) < (i : Int)) := by omega
                have tD : ¬ ((E : Int) < (b : Int)) := by omega
                have tE : ((i : Int) < (M : Int)) := by omega
                have tF : ¬ ((M : Int) < (E : Int)) := by omega
                have hr1 := HR.out.ext (rot_none f2 f4 (by omega)).symm
                clear HR
                have R1 := hidE hr1; clear hr1
                go_wp2
                all_goals go_end0
                all_goals obtain ⟨y1, y2⟩ := fin_c (Nat.le_of_lt hMa) (Nat.le_of_lt hMb) (Mv.refl _ _ _) (Mv.refl _ _ _) (sides_l U1.out U2.out f1 f3 (by omega)) (sides_l U3.out U4.out (by omega) f5 (by omega)) U5.out
                all_goals exact ⟨rfl, _, R1.out, UM.out.trans y1, U0.out, y2⟩
          · by_cases hC : a < i
            · by_cases hD : E < b
              · have tA : ¬ ((i : Int) < (m : Int)) := by omega
                have tB : ¬ ((m : Int) < (E : Int)) := by omega
                have tC : ((a : Int) < (i : Int)) := by omega
                have tD : ((E : Int) < (b : Int)) := by omega
                have tE : ¬ ((i : Int) < (M : Int)) := by omega
                have tF : ¬ ((M : Int) < (E : Int)) := by omega
                have hr1 := HR.out.ext (rot_none f2 f4 (by omega)).symm
                clear HR
                have R1 := hidE hr1; clear hr1
                go_wp2
                all_goals go_end0
                all_goals obtain ⟨y1, y2⟩ := fin_c (Nat.le_of_lt hMa) (Nat.le_of_lt hMb) (Mv.refl _ _ _) (Mv.refl _ _ _) (sides_l U1.out U2.out f1 f3 (by omega)) (sides_l U3.out U4.out (by omega) f5 (by omega)) U5.out
                all_goals exact ⟨rfl, _, R1.out, UM.out.trans y1, U0.out, y2⟩
              · have tA : ¬ ((i : Int) < (m : Int)) := by omega
                have tB : ¬ ((m : Int) < (E : Int)) := by omega
                have tC : ((a : Int) < (i : Int)) := by omega
                have tD : ¬ ((E : Int) < (b : Int)) := by omega
                have tE : ¬ ((i : Int) < (M : Int)) := by omega
                have tF : ¬ ((M : Int) < (E : Int)) := by omega
                have hr1 := HR.out.ext (rot_none f2 f4 (by omega)).symm
                clear HR
                have R1 := hidE hr1; clear hr1
                go_wp2
                all_goals go_end0
                all_goals obtain ⟨y1, y2⟩ := fin_c (Nat.le_of_lt hMa) (Nat.le_of_lt hMb) (Mv.refl _ _ _) (Mv.refl _ _ _) (sides_l U1.out U2.out f1 f3 (by omega)) (sides_l U3.out U4.out (by omega) f5 (by omega)) U5.out
                all_goals exact ⟨rfl, _, R1.out, UM.out.trans y1, U0.out, y2⟩
            · by_cases hD : E < b
              · have tA : ¬ ((i : Int) < (m : Int)) := by omega
                have tB : ¬ ((m : Int) < (E : Int)) := by omega
                have tC : ¬ ((a : Int) < (i : Int)) := by omega
                have tD : ((E : Int) < (b : Int)) := by omega
                have tE : ¬ ((i : Int) < (M : Int)) := by omega
                have tF : ¬ ((M : Int) < (E : Int)) := by omega
                have hr1 := HR.out.ext (rot_none f2 f4 (by omega)).symm
                clear HR
                have R1 := hidE hr1; clear hr1
                go_wp2
                all_goals go_end0
                all_goals obtain ⟨y1, y2⟩ := fin_c (Nat.le_of_lt hMa) (Nat.le_of_lt hMb) (Mv.refl _ _ _) (Mv.refl _ _ _) (sides_l U1.out U2.out f1 f3 (by omega)) (sides_l U3.out U4.out (by omega) f5 (by omega)) U5.out
                all_goals exact ⟨rfl, _, R1.out, UM.out.trans y1, U0.out, y2⟩
              · have tA : ¬ ((i : Int) < (m : Int)) := by omega
                have tB : ¬ ((m : Int) < (E : Int)) := by omega
                have tC : ¬ ((a : Int) < (i : Int)) := by omega
                have tD : ¬ ((E : Int) < (b : Int)) := by omega
                have tE : ¬ ((i : Int) < (M : Int)) := by omega
                have tF : ¬ ((M : Int) < (E : Int)) := by omega
                have hr1 := HR.out.ext (rot_none f2 f4 (by omega)).symm
                clear HR
                have R1 := hidE hr1; clear hr1
                go_wp2
                all_goals go_end0
                all_goals obtain ⟨y1, y2⟩ := fin_c (Nat.le_of_lt hMa) (Nat.le_of_lt hMb) (Mv.refl _ _ _) (Mv.refl _ _ _) (sides_l U1.out U2.out f1 f3 (by omega)) (sides_l U3.out U4.out (by omega) f5 (by omega)) U5.out
                all_goals exact ⟨rfl, _, R1.out, UM.out.trans y1, U0.out, y2⟩

theorem symMerge_c (w0 : World) (blk n cap : Nat) (t : TypeId) (K : Nat → Int) (recv : Value) (hC : Cmps w0 blk n recv K) (hn : n ≤ 4611686018427387904) : ∀ N, SymIH w0 blk n cap t K recv N := by
  intro N
  induction N with
  | zero => intro w a m b d hN _ _ _ h1 h2; omega
  | succ N ih =>
    intro w a m b d hN hR hI hO ham hmb hb hs1 hs2
    by_cases c1 : m ≤ a + 1
    · exact symMerge_up w0 w blk n cap a m b t K recv d hR hC hI hO ham c1 hmb hb hn hs2
    · by_cases c2 : b ≤ m + 1
      · exact symMerge_dn w0 w blk n cap a m b t K recv d hR hC hI hO (by omega) hmb c2 hb hn hs1
      · obtain ⟨M, hM⟩ : ∃ M, (a + b) / 2 = M := ⟨_, rfl⟩
        by_cases c3 : M < m
        · exact symMerge_mid w0 w blk n cap a m b N M (M + m - b) M t K recv d hR hC hI hO (by omega) (by omega) hb hn hs1 hs2 ih hN hM (.inl ⟨c3, by omega, rfl⟩)
        · exact symMerge_mid w0 w blk n cap a m b N M a m t K recv d hR hC hI hO (by omega) (by omega) hb hn hs1 hs2 ih hN hM (.inr ⟨by omega, rfl, rfl⟩)
end Go.Proofs.Ytigepmijgoglhaa

namespace Go.Proofs.Ytigepmijgoglhaa
open Go.ChangeShapes Go.WideShapes Go.ChangeAt Go.RowKit
attribute [local irreducible] Go.Calls

section
variable {K : Nat → Int} {n bs a : Nat} {d d' : Nat → Nat}
/-- Each block of bs places is in order. -/
def Bl (K : Nat → Int) (n bs : Nat) (d : Nat → Nat) : Prop := ∀ q, q * bs < n → Srt K (q * bs) (min (q * bs + bs) n) d
/-- Blocks are in order up to a. -/
def Bi (K : Nat → Int) (n bs a : Nat) (d : Nat → Nat) : Prop := (∃ Q, a = Q * bs) ∧ ∀ q, q * bs < a → Srt K (q * bs) (min (q * bs + bs) n) d
theorem lt_q {q Q x : Nat} (h : q * x < Q * x + x) : q ≤ Q := by
  rcases Nat.lt_or_ge Q q with c | c
  · have := Nat.mul_le_mul_right x c
    rw [Nat.succ_mul] at this
    omega
  · exact c
theorem le_q {q Q x : Nat} (h : q < Q) : q * x + x ≤ Q * x := by
  have := Nat.mul_le_mul_right x h
  rw [Nat.succ_mul] at this
  exact this
theorem bi_start (K : Nat → Int) (n bs : Nat) (d : Nat → Nat) : Bi K n bs 0 d := ⟨⟨0, by simp⟩, fun q h => by omega⟩
theorem bi_step (h : Bi K n bs a d) (hn : a + bs ≤ n) (hm : Mv a (a + bs) d d') (hs : Srt K a (a + bs) d') : Bi K n bs (a + bs) d' := by
  obtain ⟨⟨Q, rfl⟩, h2⟩ := h
  refine ⟨⟨Q + 1, by rw [Nat.succ_mul]⟩, fun q hq => ?_⟩
  have hqQ := lt_q hq
  rcases Nat.lt_or_ge q Q with c | c
  · have := le_q (x := bs) c
    by_cases z : bs = 0
    · subst z; exact srt_one _ _ _ (by omega)
    · exact (h2 q (by omega)).congr fun k q1 q2 => hm.out k (.inl (by omega))
  · have : q = Q := by omega
    subst this
    rw [Nat.min_eq_left hn]; exact hs
theorem bi_end (h : Bi K n bs a d) (hn : n < a + bs) (hm : Mv a n d d') (hs : Srt K a n d') : Bl K n bs d' := by
  obtain ⟨⟨Q, rfl⟩, h2⟩ := h
  intro q hq
  have hqQ := lt_q (Nat.lt_trans hq hn)
  rcases Nat.lt_or_ge q Q with c | c
  · have := le_q (x := bs) c
    by_cases z : bs = 0
    · subst z; exact srt_one _ _ _ (by omega)
    · exact (h2 q (by omega)).congr fun k q1 q2 => hm.out k (.inl (by omega))
  · have : q = Q := by omega
    subst this
    exact hs.mono (Nat.le_refl _) (Nat.min_le_right _ _)

/-- Blocks of twice the size up to a, of the size from a on. -/
def Bu (K : Nat → Int) (n bs a : Nat) (d : Nat → Nat) : Prop := Bi K n (2 * bs) a d ∧ ∀ q, a ≤ q * bs → q * bs < n → Srt K (q * bs) (min (q * bs + bs) n) d
theorem bu_start (h : Bl K n bs d) : Bu K n bs 0 d := ⟨bi_start K n _ d, fun q _ h2 => h q h2⟩
theorem dbl (Q bs : Nat) : Q * (2 * bs) = (2 * Q) * bs := by rw [← Nat.mul_assoc, Nat.mul_comm Q 2]
theorem bu_parts (h : Bu K n bs a d) : (a < n → Srt K a (min (a + bs) n) d) ∧ (a + bs < n → Srt K (a + bs) (min (a + bs + bs) n) d) := by
  obtain ⟨⟨⟨Q, hQ⟩, h1⟩, h2⟩ := h
  rw [dbl] at hQ
  refine ⟨fun c => ?_, fun c => ?_⟩
  · have := h2 (2 * Q) (by omega) (by omega)
    rw [← hQ] at this; exact this
  · have := h2 (2 * Q + 1) (by rw [Nat.succ_mul]; omega) (by rw [Nat.succ_mul]; omega)
    rw [Nat.succ_mul, ← hQ] at this; exact this
theorem bu_step (h : Bu K n bs a d) (hn : a + 2 * bs ≤ n) (hm : Mv a (a + 2 * bs) d d') (hs : Srt K a (a + 2 * bs) d') : Bu K n bs (a + 2 * bs) d' :=
  ⟨bi_step h.1 hn hm hs, fun q h1 h2 => (h.2 q (by omega) h2).congr fun k q1 q2 => hm.out k (.inr (by omega))⟩
theorem bu_end (h : Bu K n bs a d) (hn : n < a + 2 * bs) (hm : Mv a n d d') (hs : Srt K a n d') : Bl K n (2 * bs) d' := bi_end h.1 hn hm hs
theorem bu_end0 (h : Bu K n bs a d) (hn : n < a + 2 * bs) (h2 : n ≤ a + bs) : Bl K n (2 * bs) d := by
  refine bi_end h.1 hn (Mv.refl _ _ _) ?_
  by_cases c : a < n
  · have := (bu_parts h).1 c
    rw [Nat.min_eq_right h2] at this; exact this
  · exact srt_one _ _ _ (by omega)
theorem bl_whole (h : Bl K n bs d) (hn : n ≤ bs) : Srt K 0 n d := by
  by_cases c : 0 < n
  · have := h 0 (by omega)
    simp only [Nat.zero_mul, Nat.zero_add] at this
    rw [Nat.min_eq_right hn] at this; exact this
  · exact srt_one _ _ _ (by omega)
end

theorem insertion_eq {w0 w : World} {blk n cap a b : Nat} {x y : Int} {t : TypeId} {K : Nat → Int} {recv : Value} {d : Nat → Nat} (h : RowW w0 blk n t d w) (hC : Cmps w0 blk n recv K) (hI : Inv K n d) (hO : Okd n d) (hx : x = a) (hy : y = b) (hab : a ≤ b) (hb : b ≤ n) (hn : n ≤ 4611686018427387904) :
    Calls Try.prog 60 #[.slice (some ⟨blk, 0, none⟩) n cap, .int .i64 x, .int .i64 y, .func (.func 53) #[recv] #[]] w (SrtTo w0 blk n t K a b d) := by
  subst hx; subst hy; exact insertion_c w0 w blk n cap a b t K recv d h hC hI hO hab hb hn
theorem symMerge_eq {w0 w : World} {blk n cap a m b : Nat} {x y z : Int} {t : TypeId} {K : Nat → Int} {recv : Value} {d : Nat → Nat} (h : RowW w0 blk n t d w) (hC : Cmps w0 blk n recv K) (hI : Inv K n d) (hO : Okd n d) (hx : x = a) (hy : y = m) (hz : z = b) (ham : a < m) (hmb : m < b) (hb : b ≤ n) (hn : n ≤ 4611686018427387904) (h1 : Srt K a m d) (h2 : Srt K m b d) :
    Calls Try.prog 61 #[.slice (some ⟨blk, 0, none⟩) n cap, .int .i64 x, .int .i64 y, .int .i64 z, .func (.func 53) #[recv] #[]] w (SrtTo w0 blk n t K a b d) := by
  subst hx; subst hy; subst hz; exact symMerge_c w0 blk n cap t K recv hC hn (b - a) w a m b d (Nat.le_refl _) h hI hO ham hmb hb h1 h2

set_option maxRecDepth 100000 in
set_option maxHeartbeats 8000000 in
theorem stable_c (w0 w : World) (blk n cap : Nat) (t : TypeId) (K : Nat → Int) (recv : Value) (d : Nat → Nat) (h : RowW w0 blk n t d w) (hC : Cmps w0 blk n recv K) (hI : Inv K n d) (hO : Okd n d) (hn : n ≤ 2305843009213693952) :
    Calls Try.prog 56 #[.slice (some ⟨blk, 0, none⟩) n cap, .int .i64 n, .func (.func 53) #[recv] #[]] w (SrtTo w0 blk n t K 0 n d) := by
  have H := hidE h; have HC := hidE hC; have HI := hidE hI; have HO := hidE hO
  clear h hC hI hO
  go_enter Try.func56, Try.ntmps56
  go_wp2
  go_loopg [7, 8] n (fun g1 va vb wr => ∃ (a : Nat) (dk : Nat → Nat), va = .int .i64 a ∧ vb = .int .i64 ((a : Int) + 20) ∧ a ≤ n ∧ n - a ≤ g1 ∧ RowW w0 blk n t dk wr ∧ Mv 0 n d dk ∧ Inv K n dk ∧ Bi K n 20 a dk)
  case atStart => exact ⟨0, d, rfl, rfl, by omega, by omega, H.out, Mv.refl _ _ _, HI.out, bi_start _ _ _ _⟩
  case round =>
    obtain ⟨a, dk, rfl, rfl, han, hg1, hr, hm, hi, hb⟩ := hrel
    have HR := hidE hr; have HM := hidE hm; have HJ := hidE hi; have HB := hidE hb
    have HOK := hidE (HO.out.mv hm (Nat.le_refl _))
    clear hr hm hi hb
    by_cases hlt : a + 20 ≤ n
    · have hltz : (a : Int) + 20 ≤ (n : Int) := by omega
      go_wp2_with (go_at_call 60; ((with_reducible refine (insertion_eq (a := a) (b := a + 20) HR.out HC.out HJ.out HOK.out rfl (by omega) (by omega) (by omega) (by omega)).mono ?_); rintro e w1 ⟨rfl, d1, hr1, hm1, hi1, hs1⟩))
      go_roundg (n - (a + 20))
      case measure => omega
      case rel => exact ⟨a + 20, d1, by go_num, by go_num, by omega, by omega, hr1, HM.out.trans (hm1.mono (by omega) (by omega)), hi1, bi_step HB.out hlt hm1 hs1⟩
    · have hltz : ¬ (a : Int) + 20 ≤ (n : Int) := by omega
      go_wp2_with (go_at_call 60; ((with_reducible refine (insertion_eq (a := a) (b := n) HR.out HC.out HJ.out HOK.out rfl rfl (by omega) (by omega) (by omega)).mono ?_); rintro e w1 ⟨rfl, d1, hr1, hm1, hi1, hs1⟩))
      have R1 := hidE hr1; have M1 := hidE (HM.out.trans (hm1.mono (by omega) (by omega))); have I1 := hidE hi1; have B1 := hidE (bi_end HB.out (by omega) hm1 hs1)
      clear hr1 hm1 hi1 hs1 HR HM HJ HB HOK
      go_loopg [6, 7, 8, 9] n (fun g2 vs va vb vm wr2 => ∃ (bs : Nat) (dk : Nat → Nat), vs = .int .i64 bs ∧ 0 < bs ∧ bs ≤ 2 * n + 20 ∧ n - bs ≤ g2 ∧ RowW w0 blk n t dk wr2 ∧ Mv 0 n d dk ∧ Inv K n dk ∧ Bl K n bs dk)
      case atStart => exact ⟨20, d1, rfl, by omega, by omega, by omega, R1.out, M1.out, I1.out, B1.out⟩
      case round =>
        clear R1 M1 I1 B1
        obtain ⟨bs, dk, rfl, hbs, hbn, hg2, hr, hm, hi, hb⟩ := hrel
        have HR := hidE hr; have HM := hidE hm; have HJ := hidE hi; have HB := hidE hb
        clear hr hm hi hb
        by_cases hlt : bs < n
        · have hltz : (bs : Int) < (n : Int) := by omega
          obtain ⟨wo, rfl⟩ : ∃ wo : World, wo = wr := ⟨_, rfl⟩
          go_wp2
          go_loopg [7, 8] n (fun g3 va vb wr3 => ∃ (a : Nat) (dk : Nat → Nat), va = .int .i64 a ∧ vb = .int .i64 ((a : Int) + 2 * (bs : Int)) ∧ a ≤ n ∧ n - a ≤ g3 ∧ RowW w0 blk n t dk wr3 ∧ Mv 0 n d dk ∧ Inv K n dk ∧ Bu K n bs a dk)
          case atStart => exact ⟨0, dk, rfl, by go_num, by omega, by omega, HR.out, HM.out, HJ.out, bu_start HB.out⟩
          case round =>
            clear HR HM HJ HB
            obtain ⟨a, dk, rfl, rfl, han, hg3, hr, hm, hi, hb⟩ := hrel
            have HR := hidE hr; have HM := hidE hm; have HJ := hidE hi; have HB := hidE hb
            have HOK := hidE (HO.out.mv hm (Nat.le_refl _))
            have hp := bu_parts hb
            have HP := hidE hp
            clear hr hm hi hb hp
            by_cases hle : a + 2 * bs ≤ n
            · have hlez : (a : Int) + 2 * (bs : Int) ≤ (n : Int) := by omega
              have x1 := HP.out.1 (by omega)
              have x2 := HP.out.2 (by omega)
              rw [Nat.min_eq_left (by omega)] at x1 x2
              have X1 := hidE x1; have X2 := hidE (x2.mono (Nat.le_refl _) (show a + 2 * bs ≤ a + bs + bs by omega)); clear x1 x2
              go_wp2_with (go_at_call 61; ((with_reducible refine (symMerge_eq (a := a) (m := a + bs) (b := a + 2 * bs) HR.out HC.out HJ.out HOK.out rfl (by omega) (by omega) (by omega) (by omega) (by omega) (by omega) X1.out X2.out).mono ?_); rintro e w1 ⟨rfl, d1, hr1, hm1, hi1, hs1⟩))
              go_roundg (n - (a + 2 * bs))
              case measure => omega
              case rel => exact ⟨a + 2 * bs, d1, by go_num, by go_num, by omega, by omega, hr1, HM.out.trans (hm1.mono (by omega) (by omega)), hi1, bu_step HB.out hle hm1 hs1⟩
            · have hlez : ¬ (a : Int) + 2 * (bs : Int) ≤ (n : Int) := by omega
              by_cases hmn : a + bs < n
              · have hmz : (a : Int) + (bs : Int) < (n : Int) := by omega
                have x1 := HP.out.1 (by omega)
                have x2 := HP.out.2 (by omega)
                rw [Nat.min_eq_left (by omega)] at x1
                rw [Nat.min_eq_right (by omega)] at x2
                have X1 := hidE x1; have X2 := hidE x2; clear x1 x2
                go_wp2_with (go_at_call 61; ((with_reducible refine (symMerge_eq (a := a) (m := a + bs) (b := n) HR.out HC.out HJ.out HOK.out rfl (by omega) rfl (by omega) (by omega) (by omega) (by omega) X1.out X2.out).mono ?_); rintro e w1 ⟨rfl, d1, hr1, hm1, hi1, hs1⟩))
                go_roundg (n - 2 * bs)
                case measure => omega
                case rel => exact ⟨2 * bs, d1, by go_num, by omega, by omega, by omega, hr1, HM.out.trans (hm1.mono (by omega) (by omega)), hi1, bu_end HB.out (by omega) hm1 hs1⟩
              · have hmz : ¬ (a : Int) + (bs : Int) < (n : Int) := by omega
                have HZ := hidE (bu_end0 HB.out (by omega) (by omega))
                go_wp2
                go_roundg (n - 2 * bs)
                case measure => omega
                case rel => exact ⟨2 * bs, dk, by go_num, by omega, by omega, by omega, HR.out, HM.out, HJ.out, HZ.out⟩
        · have hltz : ¬ (bs : Int) < (n : Int) := by omega
          go_wp2
          go_end0
          exact ⟨rfl, dk, HR.out, HM.out, HJ.out, bl_whole HB.out (by omega)⟩

theorem sortStable_c (w0 w : World) (blk n cap : Nat) (t : TypeId) (K : Nat → Int) (recv : Value) (d : Nat → Nat) (h : RowW w0 blk n t d w) (hC : Cmps w0 blk n recv K) (hI : Inv K n d) (hO : Okd n d) (hn : n ≤ 2305843009213693952) :
    Calls Try.prog 52 #[.slice (some ⟨blk, 0, none⟩) n cap, .func (.func 53) #[recv] #[]] w (SrtTo w0 blk n t K 0 n d) := by
  have HK := hidE (stable_c w0 w blk n cap t K recv d h hC hI hO hn)
  clear h hC hI hO
  go_enter Try.func52, Try.ntmps52
  go_wp2_with (go_at_call 56; ((with_reducible refine (HK.out).mono ?_); rintro e w1 ⟨rfl, hx⟩))
  go_end0
  exact ⟨rfl, hx⟩
end Go.Proofs.Ytigepmijgoglhaa

namespace Go.Proofs.Ytigepmijgoglhaa
open Go.ChangeShapes Go.WideShapes Go.ChangeAt Go.RowKit
attribute [local irreducible] Go.Calls

theorem Try.infoInt : (Try.prog.info? 3).map (fun i => (i.zero, i.size, i.bytes)) = some (some (.int .i64 0), 1, 8) := by kernel_rfl

theorem madeInts (n : Nat) : madeCells #[.int .i64 0] (n * 1) = rowC n (fun _ => 0) := by
  apply Array.ext'
  rw [Nat.mul_one, toList_madeCells_one]
  apply List.ext_getElem
  · simp [rowC]
  · intro i h1 h2
    simp [rowC]

theorem make_ints (n : Nat) (hn : n ≤ 1099511627776) : ∀ w, (Instr.makeSlice 77 (.int .i64 (n : Int)) (.int .i64 (n : Int))).run Try.prog w = .ok (.slice (some ⟨w.heap.size, 0, none⟩) n n) (w.alloc (.cells (rowC n (fun _ => 0)) 3)) := by
  intro w
  obtain ⟨i0, hi, hz0, hz1, hz2⟩ := info_parts Try.infoInt
  have h := run_make (P := Try.prog) w 77 3 i0 (.int .i64 0) Try.underlying77 hi hz0 .i64 .i64 n n (by omega) (by omega) (by rw [hz2]; omega) (by omega)
  rw [h]
  simp only [Int.toNat_natCast, hz1, Value.cells]
  rw [madeInts]

/-- The first k places hold their own numbers. -/
def ordI (k : Nat) : Nat → Nat := fun j => if j < k then j else 0
theorem ordI_step (k : Nat) : (fun j => if j = k then k else ordI k j) = ordI (k + 1) := by
  funext j
  unfold ordI
  by_cases c : j = k
  · subst c; rw [if_pos rfl, if_pos (by omega)]
  · rw [if_neg c]
    by_cases c2 : j < k
    · rw [if_pos c2, if_pos (by omega)]
    · rw [if_neg c2, if_neg (by omega)]

theorem cmps_runs {l : List Sg} {a : Option Addr} {cap : Nat} {w : World} (hl : l.length ≤ 9223372036854775807) (hA : ArgS w a l) : Cmps w w.heap.size l.length (.slice a l.length cap) (ats l) := by
  intro w1 hb x y hx hy
  obtain ⟨b, off, rfl, h1, h2⟩ := hA.past hb (by omega)
  exact cmpRuns_c l b off cap x y w1 h1 hl h2 hx hy

def OrdPost (w : World) (l : List Sg) (e : Ending) (w' : World) : Prop :=
  ∃ p d, e = .returned (.slice (some ⟨p, 0, none⟩) l.length l.length) ∧ w.heap.size ≤ p ∧ Blk w' p (rowC l.length d) 3 ∧ Below w.heap.size w w' ∧ Mv 0 l.length id d ∧ Srt (ats l) 0 l.length d

set_option maxHeartbeats 1000000 in
theorem inOrder_c (l : List Sg) (a : Option Addr) (cap : Nat) (w : World) (hl : l.length ≤ 1099511627776) (hA : ArgS w a l) :
    Calls Try.prog 44 #[.slice a l.length cap] w (OrdPost w l) := by
  have HC := hidE (cmps_runs (cap := cap) (by omega) hA)
  obtain ⟨n, hn⟩ : ∃ n, n = l.length := ⟨_, rfl⟩
  have HN := hidE hn
  rw [← hn] at hl HC ⊢
  have hmk := make_ints n hl
  clear hA
  have HMK := hidE hmk; clear hmk hn
  go_enter Try.func44, Try.ntmps44
  go_upto_region 1 with fail
  have hmk := HMK.out w
  go_wp2_with fail
  clear hmk
  go_loopw [10, 4] (fun i _ wr => ∃ k : Nat, k ≤ n ∧ i = .int .i64 k ∧ RowW w w.heap.size n 3 (ordI k) wr) (fun i _ _ => n - (intOf i).toNat)
  case atStart => exact ⟨0, Nat.zero_le _, rfl, ⟨Blk.made _ _ _, by (repeat (first | exact Below.refl _ _ | assumption | refine balloc ?_ _ | refine below_drewN ?_ _ | refine bstep (by assumption) ?_ | refine bstep (Past.prop _) ?_ | refine Below.setCell ?_ (by first | exact Nat.le_refl _ | (simp; done) | (simp; omega)) _))⟩⟩
  case round =>
    obtain ⟨k, hk, rfl, hr⟩ := hrel
    by_cases hlt : k < n
    · have c1 := hr.cell (i := k) hlt
      have f1 := hr.free k
      have HR := hidE ((hr.set k k).ext (ordI_step k)); clear hr
      go_wp2
      go_roundw
      case rel => exact ⟨k + 1, by omega, by go_num, HR.out⟩
      case measure => simp [intOf]; omega
    · have hk' : k = n := by omega
      subst hk'
      have hrow : RowW w w.heap.size k 3 id wr := ⟨by
        have e := rowC_ext (n := k) (d := ordI k) (d' := id) (fun i hi => by unfold ordI; rw [if_pos hi]; rfl)
        rw [← e]; exact hr.here, hr.low⟩
      have HR := hidE hrow; clear hr hrow
      have HI := hidE (show Inv (ats l) k id from fun i j h1 h2 => .inr h1)
      have HO := hidE (show Okd k id from fun i hi => hi)
      go_wp2_with (go_at_call 52; ((with_reducible refine (sortStable_c w _ w.heap.size k k 3 (ats l) (.slice a k cap) id HR.out HC.out HI.out HO.out (by omega)).mono ?_); rintro e w1 ⟨rfl, d1, hr1, hm1, hi1, hs1⟩))
      go_ret
      have e := HN.out
      subst e
      exact ⟨_, d1, rfl, Nat.le_refl _, hr1.here, hr1.low, hm1, hs1⟩
end Go.Proofs.Ytigepmijgoglhaa
