/- The contract of the iterator that package slot's place hands on: the gaps of a leg, run by run. No conditions but bounds on times. Package slot: a list of windows that is used up while another one grows: where they lie in memory. No conditions but the lists' sizes. Package slot: what lies in memory while windows are cut, one after the other. Pure turns of memory; no function is called. Package slot: begins, leg by leg: what holds on the way, and where it all lies. No function is called. Package slot: what follows for wider windows, greater functions, fewer legs, legs that are cut. Pure mathematics. Package slot: begins against looking at each leg at each time. Pure mathematics. Package slot: a leg that is cut in two, a leg of nothing ahead of a row. Pure mathematics. The contracts of the iterators slices.All and slices.Backward over windows. No conditions but the list's size. The contract of rle.At and what it calls. No conditions but that the list's cells read as integers. The contract of rle.At. No conditions but that the list's cells read as integers. Package slot: the runs of a function in a window. No conditions but the list's size, and that the slice's cells read as integers. -/
import Derived.Test.YtgflbidagdcfmaaSCGB
import Derived.Test.YtgflbidagdcfmaaSCGA
import Derived.Shelf.Abstract
import Derived.RangeFuncCalls
import Derived.OwnWalkIn
import Derived.ArgAppend
import Derived.Test.YtgflbidagdcfmaaSCMB
import Derived.LoopTactic
import Derived.Deep.LoopGhost
import Derived.WalkMore
import Derived.ScopeJumps
import Derived.Deep.DeepCutAuto
import Derived.Outline
namespace Go.Proofs.Ytgflbidagdcfmaa
open Go.ChangeShapes Go.WideShapes Go.ChangeAt Go.RowKit Go.Shelf
attribute [local irreducible] Go.Calls
attribute [local go_sem] Oper.semAt_some

/-- What yield is handed. -/
def encW (x : Wn) : Array Value := #[V x.1 x.2]
set_option maxRecDepth 100000 in
set_option maxHeartbeats 16000000 in
theorem gaps_c (r : List Sg) (s d m c : Int) (a : Option Addr) (cap n0 n : Nat) (w : World) (hr : r.length = n + 1) (hn : n ≤ 1000000) (hd : 1 ≤ d ∧ d ≤ 4096) (hs : 0 ≤ s ∧ s ≤ 1000000) (ht : ∀ i, i ≤ n → -1099511627776 ≤ ats r i ∧ ats r i ≤ 1099511627776) (hcap : r.length ≤ cap) (_hcap2 : cap ≤ 9223372036854775807) (K : World → Prop) (hK : ∀ W, K W → ArgS W a r) :
    SeqX Try.prog 24 #[.agg #[.slice a r.length cap, .int .i64 s, .int .i64 d, .int .i64 m, .int .i64 c]] #[] encW n0 K (gapK r s d (m, c) n) w := by
  intro l J Jx W hW hJ hJg hJK hJx hY h0
  have H0 := hidE h0; have HK := hidE (fun s g A h => hK A (hJK s g A h)); have HY := hidE hY; have HJ := hidE hJ; have HJG := hidE hJg
  have HLE := hidE (fun a b x y w => le_eq (a := a) (b := b) (c := x) (d := y) (w := w) rfl)
  clear hJ hJg hJx hY h0 hK hW hJK
  show Calls Try.prog 24 #[.agg #[.slice a r.length cap, .int .i64 s, .int .i64 d, .int .i64 m, .int .i64 c], .func (.yield l) #[] #[]] W _
  obtain ⟨bb, off, rfl, _, _⟩ := HK.out _ _ _ H0.out (by omega)
  obtain ⟨p, hp⟩ : ∃ p, p = W.heap.size := ⟨_, rfl⟩
  have HT := hidE ht; have HR := hidE hr
  have hLL := hr
  have x1 : wrap64 ((n : Int) + 1 - 1) = (n : Int) := by rw [Int.add_sub_cancel]; exact IntWalk.wrap64_in _ (by omega)
  rw [hLL] at hcap
  rw [hLL]
  have hncap : n ≤ cap := by omega
  clear hLL hr ht
  go_enter Try.func24, Try.ntmps24
  go_upto_region 1 with fail
  obtain ⟨w0, hw0⟩ : ∃ w0, w0 = W.alloc (Obj.cells #[.slice (some ⟨bb, off, none⟩) (n + 1) cap, .int .i64 s, .int .i64 d, .int .i64 m, .int .i64 c] 65) := ⟨_, rfl⟩
  have B0 : Blk w0 p #[.slice (some ⟨bb, off, none⟩) (n + 1) cap, .int .i64 s, .int .i64 d, .int .i64 m, .int .i64 c] 65 := by rw [hw0, hp]; exact Blk.made _ _ _
  have hb0 : Below W.heap.size W w0 := by rw [hw0]; (repeat (first | exact Below.refl _ _ | assumption | refine balloc ?_ _ | refine below_drewN ?_ _ | refine bstep (by assumption) ?_ | refine bstep (Past.prop _) ?_ | refine Below.setCell ?_ (by first | exact Nat.le_refl _ | (simp; done) | (simp; omega)) _))
  have hz0 : w0.heap.size = p + 1 := by rw [hw0, hp]; simp
  have HB0 := hidE hb0
  rw [← hw0, ← hp]
  have HP := hidE hp
  clear hw0 hp
  have b0 := B0.cell 0; have bz := B0.lt
  simp at b0
  have HB := hidE B0
  go_wp2
  clear b0 bz
  go_loopg [15] n (fun gh v15 wr => ∃ (k : Nat) (pre : List Wn) (g : Option (Nat × Nat)), n - k ≤ gh ∧ k ≤ n ∧ v15 = .int .i64 k ∧ pre = gapK r s d (m, c) k ∧ J pre g wr ∧ Blk wr p #[.slice (some ⟨bb, off, none⟩) (n + 1) cap, .int .i64 s, .int .i64 d, .int .i64 m, .int .i64 c] 65 ∧ (∀ b k, g = some (b, k) → p < b) ∧ p < wr.heap.size)
  case atStart => exact ⟨0, [], none, Nat.sub_le _ _, Nat.zero_le _, rfl, rfl, HJ.out _ _ _ _ H0.out HB0.out (fun b k h => by cases h), HB.out, (fun b k h => by cases h), by omega⟩
  case round =>
    obtain ⟨k, pre, g, hgh, hk, rfl, hpre, hJ1, B1, hg, hpz⟩ := hrel
    have HJ1 := hidE hJ1; have HPRE := hidE hpre; have HG := hidE hgh; have HGP := hidE hg; have HB1 := hidE B1
    clear hJ1 hpre hgh hg B1 HB
    by_cases hlt : k < n
    · have d1 : decide ((k : Int) < (n : Int)) = true := decide_eq_true (by omega)
      have d1' : decide (k < n) = true := decide_eq_true hlt
      obtain ⟨b', off', e', hbz, hc⟩ := HK.out _ _ _ HJ1.out (by have := HR.out; omega)
      cases e'
      obtain ⟨e0, e1, e2⟩ := hc.get (show k < r.length by have := HR.out; omega)
      obtain ⟨f0, _, _⟩ := hc.get (show k + 1 < r.length by have := HR.out; omega)
      have HK0 := HT.out k (by omega); have HK1 := HT.out (k + 1) (by omega)
      have HNO := hidE (fun (h : leB m c (vls r k).1 (vls r k).2 = false) => gapK_no (s := s) (d := d) (v := (m, c)) h)
      have HYES := hidE (fun (h : leB m c (vls r k).1 (vls r k).2 = true) => gapK_yes (s := s) (d := d) (v := (m, c)) h)
      generalize ats r k = t0 at *
      generalize ats r (k + 1) = t1 at *
      generalize vls r k = vk at *
      obtain ⟨y0, y1⟩ := vk
      simp only at e1 e2 HNO HYES
      obtain ⟨wo, hwo⟩ : ∃ wo : World, wo = wr := ⟨_, rfl⟩
      subst hwo
      clear hc
      have hk1 : k < n + 1 := by omega
      go_upto_region 4 with fail
      obtain ⟨q, hq⟩ : ∃ q, q = wo.heap.size := ⟨_, rfl⟩
      obtain ⟨w4, hw4⟩ : ∃ w4, w4 = wo.alloc (Obj.cells #[.int .i64 t0, .int .i64 y0, .int .i64 y1] 56) := ⟨_, rfl⟩
      have hb4 : Below wo.heap.size wo w4 := by rw [hw4]; exact (Below.refl _ _).alloc (Nat.le_refl _) _
      have BQ : Blk w4 q #[.int .i64 t0, .int .i64 y0, .int .i64 y1] 56 := by rw [hw4, hq]; exact Blk.made _ _ _
      have BP := HB1.out.past hb4
      have hz4 := hb4.size
      rw [← hw4, ← hq]
      rw [← hb4.cell (p := ⟨bb, _, none⟩) hbz] at f0
      have hbz4 : bb < w4.heap.size := by omega
      have HB4 := hidE hb4
      have HQ := hidE hq
      clear hw4 hb4 e0 e1 e2 hq
      have p0 := BP.cell 0; have p1 := BP.cell 1; have p2 := BP.cell 2; have p3 := BP.cell 3; have p4 := BP.cell 4; have pz := BP.lt
      have q0 := BQ.cell 0; have q1 := BQ.cell 1; have q2 := BQ.cell 2; have qz := BQ.lt
      simp at p0 p1 p2 p3 p4 q0 q1 q2
      have HBP := hidE BP; have HBQ := hidE BQ
      clear BP BQ
      have hk2 : k + 1 < n + 1 := by omega
      have i1 : IntKind.i64.wrap ((k : Int) + 1) = (k : Int) + 1 := IntWalk.i64_in _ (by omega)
      have n1 : IntKind.i64.wrap (t0 - s) = t0 - s := IntWalk.i64_in _ (by omega)
      have n2 : IntKind.i64.wrap (t0 - s - d) = t0 - s - d := IntWalk.i64_in _ (by omega)
      have n3 : IntKind.i64.wrap (t0 - s - d + 1) = t0 - s - d + 1 := IntWalk.i64_in _ (by omega)
      have n4 : IntKind.i64.wrap (t1 - s) = t1 - s := IntWalk.i64_in _ (by omega)
      have hkk : (0 : Int) ≤ (k : Int) + 1 := by omega
      refine wp_region_J 22 [] (nthR [detR (.pointer (some ⟨q, 0, none⟩)), detR (.int .i64 (t0)), detR (.pointer (some ⟨p, 1, none⟩)), detR (.int .i64 (s)), detR (.int .i64 (t0 - s)), detR (.pointer (some ⟨p, 2, none⟩)), detR (.pointer (some ⟨p, 2, none⟩)), detR (.int .i64 (d)), detR (.int .i64 (t0 - s - d)), detR (.int .i64 (t0 - s - d + 1)), detR (.pointer (some ⟨p, 0, none⟩)), detR (.slice (some ⟨bb, off, none⟩) (n + 1) cap), detR (.int .i64 ((k : Int))), detR (.int .i64 ((k : Int) + 1)), detR (.pointer (some ⟨bb, off + (k + 1) * 3, none⟩)), detR (.pointer (some ⟨bb, off + (k + 1) * 3, none⟩)), detR (.int .i64 (t1)), detR (.pointer (some ⟨p, 1, none⟩)), detR (.int .i64 (s)), detR (.int .i64 (t1 - s)), detR (V (t0 - s - d + 1) (t1 - s)), newR w4.heap.size #[.int .i64 0, .int .i64 0] 24]) (fun _ => false) (by kernel_rfl) (by decide) (by kernel_rfl) (stab_nth (by intro r hr; simp only [List.mem_cons, List.not_mem_nil, or_false] at hr; rcases hr with rfl | rfl | rfl | rfl | rfl | rfl | rfl | rfl | rfl | rfl | rfl | rfl | rfl | rfl | rfl | rfl | rfl | rfl | rfl | rfl | rfl | rfl <;> first | exact stab_det _ | exact stab_new _ _ _)) ?_ ?_ ?_
      · intro i o hi ho
        match i, hi with
        | 0, _ =>
          obtain rfl := Option.some.inj ho
          intro u x hd
          have hc := Past.cell x
          simp [go_sem, gives, frm, Act.put, nthR, detR, Region.wanted, Below.refl]
        | 1, _ =>
          obtain rfl := Option.some.inj ho
          intro u x hd
          have hc := Past.cell x
          have d0 := hd 0 (by decide) (by kernel_rfl)
          simp only [nthR, detR, List.getD_cons_zero] at d0
          simp [go_sem, gives, frm, Act.put, nthR, detR, Region.wanted, Below.refl, hc, d0, q0, qz]
        | 2, _ =>
          obtain rfl := Option.some.inj ho
          intro u x hd
          have hc := Past.cell x
          simp [go_sem, gives, frm, Act.put, nthR, detR, Region.wanted, Below.refl]
        | 3, _ =>
          obtain rfl := Option.some.inj ho
          intro u x hd
          have hc := Past.cell x
          have d2 := hd 2 (by decide) (by kernel_rfl)
          simp only [nthR, detR, List.getD_cons_zero, List.getD_cons_succ] at d2
          simp [go_sem, gives, frm, Act.put, nthR, detR, Region.wanted, Below.refl, hc, d2, p1, pz]
        | 4, _ =>
          obtain rfl := Option.some.inj ho
          intro u x hd
          have hc := Past.cell x
          have d1 := hd 1 (by decide) (by kernel_rfl)
          have d3 := hd 3 (by decide) (by kernel_rfl)
          simp only [nthR, detR, List.getD_cons_zero, List.getD_cons_succ] at d1 d3
          simp [go_sem, gives, frm, Act.put, nthR, detR, Region.wanted, Below.refl, d1, d3, n1]
        | 5, _ =>
          obtain rfl := Option.some.inj ho
          intro u x hd
          have hc := Past.cell x
          simp [go_sem, gives, frm, Act.put, nthR, detR, Region.wanted, Below.refl]
        | 6, _ =>
          obtain rfl := Option.some.inj ho
          intro u x hd
          have hc := Past.cell x
          have d5 := hd 5 (by decide) (by kernel_rfl)
          simp only [nthR, detR, List.getD_cons_zero, List.getD_cons_succ] at d5
          simp [go_sem, gives, frm, Act.put, nthR, detR, Region.wanted, Below.refl, d5]
        | 7, _ =>
          obtain rfl := Option.some.inj ho
          intro u x hd
          have hc := Past.cell x
          have d6 := hd 6 (by decide) (by kernel_rfl)
          simp only [nthR, detR, List.getD_cons_zero, List.getD_cons_succ] at d6
          simp [go_sem, gives, frm, Act.put, nthR, detR, Region.wanted, Below.refl, hc, d6, p2, pz]
        | 8, _ =>
          obtain rfl := Option.some.inj ho
          intro u x hd
          have hc := Past.cell x
          have d4 := hd 4 (by decide) (by kernel_rfl)
          have d7 := hd 7 (by decide) (by kernel_rfl)
          simp only [nthR, detR, List.getD_cons_zero, List.getD_cons_succ] at d4 d7
          simp [go_sem, gives, frm, Act.put, nthR, detR, Region.wanted, Below.refl, d4, d7, n2]
        | 9, _ =>
          obtain rfl := Option.some.inj ho
          intro u x hd
          have hc := Past.cell x
          have d8 := hd 8 (by decide) (by kernel_rfl)
          simp only [nthR, detR, List.getD_cons_zero, List.getD_cons_succ] at d8
          simp [go_sem, gives, frm, Act.put, nthR, detR, Region.wanted, Below.refl, d8, n3]
        | 10, _ =>
          obtain rfl := Option.some.inj ho
          intro u x hd
          have hc := Past.cell x
          simp [go_sem, gives, frm, Act.put, nthR, detR, Region.wanted, Below.refl]
        | 11, _ =>
          obtain rfl := Option.some.inj ho
          intro u x hd
          have hc := Past.cell x
          have d10 := hd 10 (by decide) (by kernel_rfl)
          simp only [nthR, detR, List.getD_cons_zero, List.getD_cons_succ] at d10
          simp [go_sem, gives, frm, Act.put, nthR, detR, Region.wanted, Below.refl, hc, d10, p0, pz]
        | 12, _ =>
          obtain rfl := Option.some.inj ho
          intro u x hd
          have hc := Past.cell x
          simp [go_sem, gives, frm, Act.put, nthR, detR, Region.wanted, Below.refl]
        | 13, _ =>
          obtain rfl := Option.some.inj ho
          intro u x hd
          have hc := Past.cell x
          have d12 := hd 12 (by decide) (by kernel_rfl)
          simp only [nthR, detR, List.getD_cons_zero, List.getD_cons_succ] at d12
          simp [go_sem, gives, frm, Act.put, nthR, detR, Region.wanted, Below.refl, d12, i1]
        | 14, _ =>
          obtain rfl := Option.some.inj ho
          intro u x hd
          have hc := Past.cell x
          have d11 := hd 11 (by decide) (by kernel_rfl)
          have d13 := hd 13 (by decide) (by kernel_rfl)
          simp only [nthR, detR, List.getD_cons_zero, List.getD_cons_succ] at d11 d13
          simp [go_sem, gives, frm, Act.put, nthR, detR, Region.wanted, Below.refl, d11, d13, hlt, hkk]
        | 15, _ =>
          obtain rfl := Option.some.inj ho
          intro u x hd
          have hc := Past.cell x
          have d14 := hd 14 (by decide) (by kernel_rfl)
          simp only [nthR, detR, List.getD_cons_zero, List.getD_cons_succ] at d14
          simp [go_sem, gives, frm, Act.put, nthR, detR, Region.wanted, Below.refl, d14]
        | 16, _ =>
          obtain rfl := Option.some.inj ho
          intro u x hd
          have hc := Past.cell x
          have d15 := hd 15 (by decide) (by kernel_rfl)
          simp only [nthR, detR, List.getD_cons_zero, List.getD_cons_succ] at d15
          simp [go_sem, gives, frm, Act.put, nthR, detR, Region.wanted, Below.refl, hc, d15, f0, hbz4]
        | 17, _ =>
          obtain rfl := Option.some.inj ho
          intro u x hd
          have hc := Past.cell x
          simp [go_sem, gives, frm, Act.put, nthR, detR, Region.wanted, Below.refl]
        | 18, _ =>
          obtain rfl := Option.some.inj ho
          intro u x hd
          have hc := Past.cell x
          have d17 := hd 17 (by decide) (by kernel_rfl)
          simp only [nthR, detR, List.getD_cons_zero, List.getD_cons_succ] at d17
          simp [go_sem, gives, frm, Act.put, nthR, detR, Region.wanted, Below.refl, hc, d17, p1, pz]
        | 19, _ =>
          obtain rfl := Option.some.inj ho
          intro u x hd
          have hc := Past.cell x
          have d16 := hd 16 (by decide) (by kernel_rfl)
          have d18 := hd 18 (by decide) (by kernel_rfl)
          simp only [nthR, detR, List.getD_cons_zero, List.getD_cons_succ] at d16 d18
          simp [go_sem, gives, frm, Act.put, nthR, detR, Region.wanted, Below.refl, d16, d18, n4]
        | 20, _ =>
          obtain rfl := Option.some.inj ho
          intro u x hd
          have hc := Past.cell x
          have d9 := hd 9 (by decide) (by kernel_rfl)
          have d19 := hd 19 (by decide) (by kernel_rfl)
          simp only [nthR, detR, List.getD_cons_zero, List.getD_cons_succ] at d9 d19
          simp [go_sem, gives, frm, Act.put, nthR, detR, Region.wanted, Below.refl, d9, d19]
        | 21, _ =>
          obtain rfl := Option.some.inj ho
          intro u x hd
          have hc := Past.cell x
          simp [go_sem, gives, nthR, Region.wanted]
          exact ⟨by (repeat (first | exact Below.refl _ _ | assumption | refine balloc ?_ _ | refine below_drewN ?_ _ | refine bstep (by assumption) ?_ | refine bstep (Past.prop _) ?_ | refine Below.setCell ?_ (by first | exact Nat.le_refl _ | (simp; done) | (simp; omega)) _)), ⟨_, rfl, (Past.prop x).size, Blk.made _ _ _⟩⟩
        | i + 22, h => exact absurd h (by omega)
      · intro i o hx ho
        simp at hx
      · intro u x9 hu hne
        obtain ⟨pg, e21, hpg, BG⟩ : newR w4.heap.size #[.int .i64 0, .int .i64 0] 24 (u 21) x9.1 := hu 21 (by decide)
        have e0 : u 0 = .pointer (some ⟨q, 0, none⟩) := hu 0 (by decide)
        have e1 : u 1 = .int .i64 (t0) := hu 1 (by decide)
        have e2 : u 2 = .pointer (some ⟨p, 1, none⟩) := hu 2 (by decide)
        have e3 : u 3 = .int .i64 (s) := hu 3 (by decide)
        have e4 : u 4 = .int .i64 (t0 - s) := hu 4 (by decide)
        have e5 : u 5 = .pointer (some ⟨p, 2, none⟩) := hu 5 (by decide)
        have e6 : u 6 = .pointer (some ⟨p, 2, none⟩) := hu 6 (by decide)
        have e7 : u 7 = .int .i64 (d) := hu 7 (by decide)
        have e8 : u 8 = .int .i64 (t0 - s - d) := hu 8 (by decide)
        have e9 : u 9 = .int .i64 (t0 - s - d + 1) := hu 9 (by decide)
        have e10 : u 10 = .pointer (some ⟨p, 0, none⟩) := hu 10 (by decide)
        have e11 : u 11 = .slice (some ⟨bb, off, none⟩) (n + 1) cap := hu 11 (by decide)
        have e12 : u 12 = .int .i64 ((k : Int)) := hu 12 (by decide)
        have e13 : u 13 = .int .i64 ((k : Int) + 1) := hu 13 (by decide)
        have e14 : u 14 = .pointer (some ⟨bb, off + (k + 1) * 3, none⟩) := hu 14 (by decide)
        have e15 : u 15 = .pointer (some ⟨bb, off + (k + 1) * 3, none⟩) := hu 15 (by decide)
        have e16 : u 16 = .int .i64 (t1) := hu 16 (by decide)
        have e17 : u 17 = .pointer (some ⟨p, 1, none⟩) := hu 17 (by decide)
        have e18 : u 18 = .int .i64 (s) := hu 18 (by decide)
        have e19 : u 19 = .int .i64 (t1 - s) := hu 19 (by decide)
        have e20 : u 20 = V (t0 - s - d + 1) (t1 - s) := hu 20 (by decide)
        simp only [frm, List.take, Act.put, e0, e1, e2, e3, e4, e5, e6, e7, e8, e9, e10, e11, e12, e13, e14, e15, e16, e17, e18, e19, e20, e21]
        have g0 := BG.cell 0; have g1 := BG.cell 1; have gz := BG.lt; have gf := BG.free
        simp at g0 g1
        go_upto_region 5 with fail
        obtain ⟨w5, hw5⟩ : ∃ w5, w5 = (x9.1.setCell ⟨pg, 0, none⟩ (.int .i64 (t0 - s - d + 1))).setCell ⟨pg, 1, none⟩ (.int .i64 (t1 - s)) := ⟨_, rfl⟩
        have B5 : Blk w5 pg #[.int .i64 (t0 - s - d + 1), .int .i64 (t1 - s)] 24 := by rw [hw5]; simpa using (BG.set 0 (.int .i64 (t0 - s - d + 1))).set 1 (.int .i64 (t1 - s))
        have hx9 := Past.prop x9
        have hz9 := hx9.size
        have hb5 : Below wo.heap.size wo w5 := by
          rw [hw5]
          have q1 : Below wo.heap.size wo x9.1 := HB4.out.trans (hx9.mono hz4)
          exact (q1.setCell (p := ⟨pg, 0, none⟩) (show wo.heap.size ≤ pg by omega) _).setCell (p := ⟨pg, 1, none⟩) (show wo.heap.size ≤ pg by omega) _
        have P5 : Blk w5 p #[.slice (some ⟨bb, off, none⟩) (n + 1) cap, .int .i64 s, .int .i64 d, .int .i64 m, .int .i64 c] 65 := by rw [hw5]; exact ((HBP.out.past hx9).other (by omega) _).other (by omega) _
        have Q5 : Blk w5 q #[.int .i64 t0, .int .i64 y0, .int .i64 y1] 56 := by rw [hw5]; exact ((HBQ.out.past hx9).other (by omega) _).other (by omega) _
        rw [← hw5]
        have HB5 := hidE hb5; have H5 := hidE B5; have HP5 := hidE P5
        have c0 := P5.cell 3; have c1 := P5.cell 4; have cz := P5.lt
        have v0 := Q5.cell 1; have v1 := Q5.cell 2; have vz := Q5.lt
        have g0 := B5.cell 0; have g1 := B5.cell 1; have gz := B5.lt
        simp at c0 c1 v0 v1 g0 g1
        clear hw5 BG hx9 hb5 B5 P5 Q5 gf p0 p1 p2 p3 p4 pz q0 q1 q2 qz f0 hu e0 e1 e2 e3 e4 e5 e6 e7 e8 e9 e10 e11 e12 e13 e14 e15 e16 e17 e18 e19 e20 e21 hpg hz9
        cases hl : leB m c y0 y1
        · have HN := hidE (HNO.out hl)
          have HLL := hidE (HLE.out m c y0 y1 w5)
          rw [hl] at HLL
          clear hl HYES HNO
          refine (wpIn_wide (n := 0)).1 ?_
          gi_wp2
          refine ⟨trivial, rfl, (callsIn_wide.2 HLL.out).mono ?_⟩
          rintro e w6 ⟨rfl, hb6⟩
          have HPX := hidE (show pre ++ [(t0 - s - d + 1, t1 - s)] <+: gapK r s d (m, c) n from by rw [HPRE.out, ← HN.out]; exact gapK_pre (by omega))
          have hb06 := HB5.out.trans (hb6.mono HB5.out.size)
          have HJ6 := hidE (HJ.out _ _ _ _ HJ1.out (hb06.mono (by have := HP.out; omega)) (fun b k e => hb06.block k (HJG.out _ _ _ HJ1.out b k e).2))
          have HP6 := hidE (HP5.out.past hb6)
          have H6 := H5.out.past hb6
          have z6 := H6.lt
          have k0 := H6.cell 0; have k1 := H6.cell 1
          simp at k0 k1
          obtain ⟨fn, tmps, assign, body, hy, hR⟩ := HY.out _ _ g w6 HJ6.out (by have := hb06.size; have := HP.out; omega) HPX.out
          dsimp only [encW] at hy
          have HRR := hidE hR
          clear H6 hb6 hb06 HLL hR
          gi_wp2
          refine ⟨rfl, HRR.out.mono ?_⟩
          clear hy HRR
          rintro e W' (⟨rfl, g', hJ', hO, hU, hG'⟩ | ⟨rfl, hJx'⟩)
          · gi_wp2
            go_wp2
            have hz6 := HP6.out.lt
            have HG0 := HGP.out
            have HPW : Blk W' p #[.slice (some ⟨bb, off, none⟩) (n + 1) cap, .int .i64 s, .int .i64 d, .int .i64 m, .int .i64 c] 65 :=
              (hU p (by have := HP.out; omega) hz6 (fun b e => by have h1 := HGP.out _ _ e; have h2 := (HJG.out _ _ _ HJ6.out _ _ e).1; omega)).trans HP6.out
            go_roundg (n - (k + 1))
            case measure => have := HG.out; omega
            case rel => exact ⟨k + 1, _, g', Nat.le_refl _, by omega, by go_num, by rw [HN.out, HPRE.out], hJ', HPW, fun b j e => by
              rcases hG' b j e with h | ⟨j', h⟩
              · omega
              · exact HGP.out _ _ h, HPW.lt⟩
          · gi_wp2
            go_wp2
            refine bodyPost_ret (results_none rfl _ _ _) rfl ?_
            exact ⟨⟨_, rfl⟩, .inr ⟨_, HPX.out, hJx'⟩⟩
        · have HN := hidE (HYES.out hl)
          have HLL := hidE (HLE.out m c y0 y1 w5)
          rw [hl] at HLL
          clear hl HYES HNO
          go_wp2_with fail
          ((with_reducible refine (HLL.out).mono ?_); rintro e w6 ⟨rfl, hb6⟩)
          have hb06 := HB5.out.trans (hb6.mono HB5.out.size)
          have HJ6 := hidE (HJ.out _ _ _ _ HJ1.out (hb06.mono (by have := HP.out; omega)) (fun b k e => hb06.block k (HJG.out _ _ _ HJ1.out b k e).2))
          have HP6 := hidE (HP5.out.past hb6)
          clear hb6 hb06
          go_wp2
          go_roundg (n - (k + 1))
          case measure => have := HG.out; omega
          case rel => exact ⟨k + 1, _, g, Nat.le_refl _, by omega, by go_num, by rw [HN.out, HPRE.out], HJ6.out, HP6.out, HGP.out, HP6.out.lt⟩
    · have d1 : decide ((k : Int) < (n : Int)) = false := decide_eq_false (by omega)
      have d1' : decide (k < n) = false := decide_eq_false hlt
      have HP2 := hidE (show pre = gapK r s d (m, c) n by rw [HPRE.out, show k = n by omega])
      clear HPRE
      go_wp2
      go_end0
      exact ⟨⟨_, rfl⟩, .inl ⟨g, by rw [← HP2.out]; exact HJ1.out⟩⟩
end Go.Proofs.Ytgflbidagdcfmaa

namespace Go.Proofs.Ytgflbidagdcfmaa
open Go.ChangeShapes Go.WideShapes Go.ChangeAt Go.RowKit
attribute [local irreducible] Go.Calls

/-- What is left of a list, in the block q. -/
def RV (W : World) (q : Nat) (v : Value) (R : List Wn) : Prop :=
  (R = [] ∧ ∃ a c, v = .slice a 0 c) ∨ ∃ o cap cur, v = .slice (some ⟨q, o, none⟩) R.length cap ∧ 0 < R.length ∧ R.length ≤ cap ∧ cap ≤ 9223372036854775807 ∧ Blk W q cur 24 ∧ VCells W q o R
theorem RV.sli {W : World} {q : Nat} {v : Value} {R : List Wn} (h : RV W q v R) : ∃ a c, v = .slice a R.length c := by
  rcases h with ⟨rfl, a, c, e⟩ | ⟨o, cap, cur, e, _⟩
  · exact ⟨a, c, e⟩
  · exact ⟨_, _, e⟩
theorem VCells.same {W W' : World} {q o : Nat} {R : List Wn} (h : VCells W q o R) (hk : W'.heap[q]? = W.heap[q]?) : VCells W' q o R := fun i hi => by
  obtain ⟨h1, h2⟩ := h i hi
  exact ⟨(World.cell?_of_block (a := ⟨q, _, none⟩) hk).trans h1, (World.cell?_of_block (a := ⟨q, _, none⟩) hk).trans h2⟩
theorem RV.keep {W W' : World} {q : Nat} {v : Value} {R : List Wn} (h : RV W q v R) (hk : W'.heap[q]? = W.heap[q]?) : RV W' q v R := by
  rcases h with h | ⟨o, cap, cur, e, h0, h1, h2, h3, h4⟩
  · exact .inl h
  · exact .inr ⟨o, cap, cur, e, h0, h1, h2, hk.trans h3, h4.same hk⟩
/-- The source of an append. -/
theorem RV.src {W : World} {q : Nat} {v : Value} {R : List Wn} (h : RV W q v R) (hn : v = .slice none 0 0 ∨ ∃ k, v.ownBlock = some k ∧ k < W.heap.size) : SrcB W 2 v R.length (cellsOfV R) := by
  refine ⟨?_, fun k e => ?_⟩
  · obtain ⟨a, c, rfl⟩ := h.sli
    refine ⟨a, c, rfl, fun e => ?_, cellsOfV_len R, cellsOfV_one R, fun ad e j u hu => ?_⟩
    · subst e
      rcases hn with hn | ⟨k, hk, _⟩
      · simp at hn; exact ⟨by rw [hn.1]; rfl, hn.2⟩
      · cases hk
    · subst e
      rcases h with ⟨rfl, _⟩ | ⟨o, cap, cur, e, h0, h1, h2, h3, h4⟩
      · simp [cellsOfV] at hu
      · cases e
        have hj : j < R.length * 2 := by
          have := List.getElem?_eq_some_iff.1 hu
          obtain ⟨q1, _⟩ := this
          rwa [cellsOfV_len] at q1
        obtain ⟨i, hi⟩ : ∃ i, i = j / 2 := ⟨_, rfl⟩
        have hiR : i < R.length := by omega
        obtain ⟨c0, c1⟩ := h4 i hiR
        obtain ⟨g0, g1⟩ := cellsOfV_get R i hiR
        have ad : ∀ x y : Nat, (⟨q, x, none⟩ : Addr).add y = ⟨q, x + y, none⟩ := fun x y => by
          unfold Addr.add
          by_cases c : y = 0
          · subst c; simp
          · simp [c]
        rw [ad]
        rcases (show j = i * 2 ∨ j = i * 2 + 1 by omega) with e | e
        · rw [e] at hu ⊢; rw [g0] at hu; cases hu; exact c0
        · rw [e] at hu ⊢; rw [g1] at hu; cases hu; exact c1
  · rcases hn with hn | ⟨k', hk, hl⟩
    · rw [hn] at e; cases e
    · rw [hk] at e; cases e; exact hl
/-- The list without the times of its first window before t. -/
def rbW (x : Wn) (r : List Wn) (t : Int) : List Wn := if x.2 ≤ t then r else (t, x.2) :: r
theorem cutW_rb {g x : Wn} {r : List Wn} (h : x.1 < g.2) : cutW g (x :: r) = ((if x.1 < g.1 then [(x.1, min x.2 g.1)] else []) ++ (cutW g (rbW x r g.2)).1, (cutW g (rbW x r g.2)).2) := by
  unfold rbW
  by_cases c : x.2 ≤ g.2
  · rw [if_pos c, cutW_pass h c]
  · rw [if_neg c, cutW_part h c, cutW_stop (show ¬ g.2 < g.2 by omega), List.append_nil]
def BehIs (w : World) (q : Nat) (R : List Wn) (e : Ending) (w' : World) : Prop := ∃ v, e = .returned v ∧ RV w' q v R ∧ v.ownBlock = some q ∧ w.grownBy w' (some q)
set_option maxRecDepth 100000 in
theorem behind_c {q o cap : Nat} {cur : Array Value} (x : Wn) (r : List Wn) (t : Int) (w : World) (hcap : r.length + 1 ≤ cap) (hc2 : cap ≤ 9223372036854775807) (hB : Blk w q cur 24) (hC : VCells w q o (x :: r)) :
    Calls Try.prog 49 #[.slice (some ⟨q, o, none⟩) (r.length + 1) cap, .int .i64 t] w (BehIs w q (rbW x r t)) := by
  obtain ⟨x0, x1⟩ := x
  obtain ⟨c0, c1⟩ := hC 0 (by simp)
  simp at c0 c1
  have hz := hB.lt
  have hfz := hB.free
  by_cases h : x1 ≤ t
  · have e : rbW (x0, x1) r t = r := by unfold rbW; rw [if_pos h]
    have d1 : decide (x1 ≤ t) = true := decide_eq_true h
    have HE := hidE e
    have HB := hidE hB; have HC := hidE hC
    clear h e hB hC
    go_enter Try.func49, Try.ntmps49
    have HCP := hidE hcap
    clear hcap
    go_wp2
    · go_ret
      refine ⟨_, rfl, ?_, rfl, grown_refl _ _⟩
      rw [HE.out]
      have : r = [] := List.eq_nil_of_length_eq_zero (by have := HCP.out; omega)
      subst this
      exact .inl ⟨rfl, _, _, rfl⟩
    · go_ret
      refine ⟨_, rfl, ?_, rfl, grown_refl _ _⟩
      rw [HE.out]
      by_cases h0 : r.length = 0
      · have : r = [] := List.eq_nil_of_length_eq_zero h0
        subst this
        exact .inl ⟨rfl, _, _, rfl⟩
      · exact .inr ⟨o + 2, cap - 1, cur, rfl, by omega, by have := HCP.out; omega, by omega, HB.out, fun i hi => by
          obtain ⟨y0, y1⟩ := HC.out (i + 1) (by simp; omega)
          rw [show o + (i + 1) * 2 = o + 2 + i * 2 by omega] at y0 y1
          exact ⟨y0, y1⟩⟩
  · have e : rbW (x0, x1) r t = (t, x1) :: r := by unfold rbW; rw [if_neg h]
    have d1 : decide (x1 ≤ t) = false := decide_eq_false h
    have HE := hidE e
    have HB := hidE hB; have HC := hidE hC
    clear h e hB hC
    go_enter Try.func49, Try.ntmps49
    go_wp2
    go_ret
    refine ⟨_, rfl, ?_, rfl, grown_set _ _ _ _⟩
    rw [HE.out]
    refine .inr ⟨o, cap, _, rfl, by simp, hcap, hc2, HB.out.set _ _, fun i hi => ?_⟩
    have hoth : ∀ j, j ≠ o → (w.setCell ⟨q, o, none⟩ (.int .i64 t)).cell? ⟨q, j, none⟩ = w.cell? ⟨q, j, none⟩ := fun j hj => by
      rw [(HB.out.set o (.int .i64 t)).cell j, HB.out.cell j, Array.getElem?_setIfInBounds_ne (by omega)]
    cases i with
    | zero =>
      refine ⟨?_, ?_⟩
      · have hlt : o < cur.size := by
          have := HB.out.cell o
          rw [c0] at this
          exact (Array.getElem?_eq_some_iff.1 this.symm).1
        show (w.setCell _ _).cell? ⟨q, o + 0 * 2, none⟩ = _
        rw [show o + 0 * 2 = o by omega, (HB.out.set o (.int .i64 t)).cell o]
        simp [hlt]
      · show (w.setCell _ _).cell? ⟨q, o + 0 * 2 + 1, none⟩ = _
        rw [show o + 0 * 2 + 1 = o + 1 by omega, hoth _ (by omega)]
        exact c1
    | succ i =>
      obtain ⟨y0, y1⟩ := HC.out (i + 1) (by simpa using hi)
      exact ⟨(hoth _ (by omega)).trans y0, (hoth _ (by omega)).trans y1⟩

/-- A row that grows: it begins as a slice of no capacity, then it lies in a block of its own. -/
def OwnC (W : World) (v : Value) (K : List Wn) (g : Option (Nat × Nat)) : Prop :=
  (g = none ∧ K = [] ∧ ∃ a, v = .slice a 0 0) ∨ ∃ β k, g = some (β, k) ∧ v.ownBlock = some k ∧ β ≤ W.heap.size ∧ W.ownsRow β 24 2 v K.length (cellsOfV K)
theorem OwnC.keep {A B : World} {v : Value} {K : List Wn} {g : Option (Nat × Nat)} (h : OwnC A v K g) (hs : A.heap.size ≤ B.heap.size) (hk : ∀ b k, g = some (b, k) → B.heap[k]? = A.heap[k]?) : OwnC B v K g := by
  rcases h with h | ⟨β, k, e, h1, h2, h3⟩
  · exact .inl h
  · refine .inr ⟨β, k, e, h1, Nat.le_trans h2 hs, own_kept h3 fun k' e' => ?_⟩
    rw [h1] at e'; cases e'
    exact hk _ _ e
theorem OwnC.has {A : World} {v : Value} {K : List Wn} {g : Option (Nat × Nat)} (h : OwnC A v K g) : ∀ b k, g = some (b, k) → b ≤ k ∧ k < A.heap.size := by
  rintro b k e
  rcases h with ⟨e', _⟩ | ⟨β, k', e', h1, h2, h3⟩
  · rw [e'] at e; cases e
  · rw [e'] at e; cases e
    exact ⟨own_block h3 h1, own_lt h3 h1⟩
theorem OwnC.sli {A : World} {v : Value} {K : List Wn} {g : Option (Nat × Nat)} (h : OwnC A v K g) : ∃ a c, v = .slice a K.length c := by
  rcases h with ⟨_, rfl, a, e⟩ | ⟨β, k', e', h1, h2, h3⟩
  · exact ⟨a, 0, e⟩
  · obtain ⟨a, c, e⟩ := own_sli h3
    exact ⟨a, c, e⟩
/-- The block that an append may write. -/
def rowG (g : Option (Nat × Nat)) : Option Nat := g.map (·.2)
theorem wpListIn_append_C {F : Fence} {n : Nat} (w : World) {ops : Array Oper} {rest : List Oper} {o : Oper} {a : Act} {Q : Exit → Act → World → Prop}
    (hg : o.guard = none) (s x : Operand) (hop : o.op = Op.call { callee := Callee.builtin Builtin.append, args := #[s, x], argTypes := #[31, 31] })
    (v : Value) (K : List Wn) (g : Option (Nat × Nat)) (hs : a.eval s = v) (hown : OwnC w v K g) (ad : Addr) (c : Nat) (y : Wn) (hx : a.eval x = .slice (some ad) 1 c)
    (hc : ∀ j u, (cellsOfV [y])[j]? = some u → w.cell? (ad.add j) = some u) (b1 : K.length ≤ 1000000)
    (hK : ∀ v' w' k', OwnC w' v' (K ++ [y]) (some k') → w.grownBy w' (rowG g) → (g = some k' ∨ w.heap.size ≤ k'.1) → wpListIn F n Try.prog ops Q rest (a.put o.dst v') w') :
    wpListIn F n Try.prog ops Q (o :: rest) a w := by
  obtain ⟨i, hix, hz0, hz1, hz2⟩ := info_parts Try.infoWin
  have hone : ∀ u ∈ cellsOfV [y], u.oneCell' = true := cellsOfV_one _
  have hcell : cellsOfV (K ++ [y]) = cellsOfV K ++ cellsOfV [y] := cellsOfV_app _ _
  refine wpListIn_plain hg fun K2 hK' => ?_
  obtain ⟨v', w', hrun, k', r1, r2, r3⟩ : ∃ v' w', (Builtin.append_ #[31, 31] o.type #[v, .slice (some ad) 1 c]).run Try.prog w = .ok v' w' ∧ ∃ k', OwnC w' v' (K ++ [y]) (some k') ∧ w.grownBy w' (rowG g) ∧ (g = some k' ∨ w.heap.size ≤ k'.1) := by
    rcases hown with ⟨rfl, rfl, a0, rfl⟩ | ⟨β, k, rfl, h1, h2, h3⟩
    · cases a0 with
      | none =>
        obtain ⟨v', w', q1, q2, q3, q4⟩ := run_append_own (P := Try.prog) w w.heap.size 31 o.type 24 i (.agg #[.int .i64 0, .int .i64 0]) 2 16 Try.underlying31 hix hz0 hz1 hz2 rfl (by decide) (.slice none 0 0) 0 [] (own_nil _ _ _) ad 1 c (cellsOfV [y]) rfl hc hone (by unfold maxLen; omega) (by omega) (Nat.le_refl _)
        obtain ⟨k, hk⟩ := own_has q2 (fun e => by have := (q4.1 e).2; omega)
        refine ⟨v', w', q1, (w.heap.size, k), .inr ⟨w.heap.size, k, rfl, hk, q3.size, ?_⟩, ⟨q3.os, q3.tape, q3.output, q3.size, fun j hj _ => q3.block j hj (by simp [Value.ownBlock])⟩, .inr (Nat.le_refl _)⟩
        simpa using q2
      | some b =>
        obtain ⟨v', w', q1, q2, q3⟩ := run_append_arg_grows (P := Try.prog) w 31 o.type 24 i (.agg #[.int .i64 0, .int .i64 0]) 2 16 Try.underlying31 hix hz0 hz1 hz2 rfl (by decide) b 0 0 [] rfl (fun j u hj => by simp at hj) ad 1 c (cellsOfV [y]) rfl hc (by omega) (by unfold maxLen; omega) (by omega)
        obtain ⟨k, hk⟩ := own_has q2 (fun e => by
          obtain ⟨_, z | ⟨_, _, _, z, _⟩⟩ := q2
          · exact absurd z.2 (by omega)
          · rw [e] at z; cases z)
        refine ⟨v', w', q1, (w.heap.size, k), .inr ⟨w.heap.size, k, rfl, hk, q3.size, ?_⟩, q3, .inr (Nat.le_refl _)⟩
        simpa using q2
    · obtain ⟨h31, h32 | ⟨gk, cap, cur, rfl, hbg, hgc, hnc, hcm, hcs, htk⟩⟩ := id h3
      · rw [h32.1] at h1; cases h1
      · cases h1
        by_cases hroom : K.length + 1 ≤ cap
        · obtain ⟨w', q1, q2, q3⟩ := run_append_fits (P := Try.prog) w β 31 o.type 24 i 2 Try.underlying31 hix hz1 gk K.length cap (cellsOfV K) h3 ad 1 c (cellsOfV [y]) rfl hc hone hroom
          exact ⟨_, w', q1, (β, gk), .inr ⟨β, gk, rfl, rfl, Nat.le_trans h2 q3.size, by rw [List.length_append, hcell]; exact q2⟩, q3, .inl rfl⟩
        · obtain ⟨v', w', q1, q2, q3⟩ := run_append_arg_grows (P := Try.prog) w 31 o.type 24 i (.agg #[.int .i64 0, .int .i64 0]) 2 16 Try.underlying31 hix hz0 hz1 hz2 rfl (by decide) ⟨gk, 0, none⟩ K.length cap (cellsOfV K) (cellsOfV_len K) (h3.cells (g := gk) rfl) ad 1 c (cellsOfV [y]) rfl hc (by omega) (by unfold maxLen; omega) (by omega)
          obtain ⟨k, hk⟩ := own_has q2 (fun e => by
            obtain ⟨_, z | ⟨_, _, _, z, _⟩⟩ := q2
            · exact absurd z.2 (by omega)
            · rw [e] at z; cases z)
          refine ⟨v', w', q1, (w.heap.size, k), .inr ⟨w.heap.size, k, rfl, hk, q3.size, by rw [List.length_append, hcell]; exact q2⟩, ⟨q3.os, q3.tape, q3.output, q3.size, fun j hj _ => q3.block j hj (by simp)⟩, .inr (Nat.le_refl _)⟩
  unfold Oper.wpIn
  refine ⟨?_, ?_⟩
  · simp [Oper.about, hop, resolve, Target.leads, Sem.run_pure]
  · rw [Oper.semAt_plain F _ _ (by rw [hop]; intro c hc'; cases hc')]
    simp [execOp, hop, resolve, invoke, builtin, hs, hx, hrun, Result.andThen]
    exact hK' _ _ (hK v' w' k' r1 r2 r3)
theorem newW_at (w : World) (cs : Array Value) (t : TypeId) (k : Nat) (h : k = w.heap.size) : ∀ j u, cs.toList[j]? = some u → (w.alloc (.cells cs t)).cell? ((⟨k, 0, none⟩ : Addr).add j) = some u := by
  subst h
  exact new_cells w cs t
theorem own_base {w : World} {β β' sz n : Nat} {e : TypeId} {v : Value} {xs : List Value} (h : w.ownsRow β e sz v n xs) (hb : β' ≤ β) : w.ownsRow β' e sz v n xs := by
  obtain ⟨h1, h2 | ⟨g, cap, cur, h3, h4, h5⟩⟩ := h
  · exact ⟨h1, .inl h2⟩
  · exact ⟨h1, .inr ⟨g, cap, cur, h3, by omega, h5⟩⟩
theorem OwnC.src {W : World} {v : Value} {K : List Wn} {g : Option (Nat × Nat)} (h : OwnC W v K g) (hz : ∀ k, v.ownBlock = some k → g = none → k < W.heap.size) : SrcB W 2 v K.length (cellsOfV K) := by
  rcases h with ⟨e, rfl, a, rfl⟩ | ⟨β, k, e, h1, h2, h3⟩
  · exact ⟨⟨a, 0, rfl, fun _ => ⟨rfl, rfl⟩, rfl, (fun u h => by simp [cellsOfV] at h), fun ad _ j u hu => by simp [cellsOfV] at hu⟩, fun k q => hz k q e⟩
  · exact ⟨srcV_own h3 (cellsOfV_one K), fun k' q => by rw [h1] at q; cases q; exact own_lt h3 h1⟩
theorem woF_rest (l : List Wn) : ∀ gs : List Wn, (woF l gs).2.length ≤ l.length := by
  have aux : ∀ (gs : List Wn) (st : List Wn × List Wn), (gs.foldl woT st).2.length ≤ st.2.length := by
    intro gs
    induction gs with
    | nil => intro st; exact Nat.le_refl _
    | cons g gs ih => intro st; rw [List.foldl_cons]; exact Nat.le_trans (ih _) (cutW_len g st.2).1
  exact fun gs => aux gs ([], l)
theorem rbW_len (x : Wn) (r : List Wn) (t : Int) : (rbW x r t).length ≤ r.length + 1 := by unfold rbW; split <;> simp
end Go.Proofs.Ytgflbidagdcfmaa

namespace Go.Proofs.Ytgflbidagdcfmaa
open Go.ChangeShapes Go.WideShapes Go.ChangeAt Go.RowKit Go.Shelf
attribute [local irreducible] Go.Calls

theorem blk_type {w : World} {k : Nat} {cs cs' : Array Value} {t t' : TypeId} (h : Blk w k cs t) (h' : Blk w k cs' t') : t = t' := by
  have := h.symm.trans h'
  simp at this
  exact this.2
theorem RV.of_own {w : World} {β b0 : Nat} {cur : Array Value} {a : Option Addr} {n cap : Nat} {l : List Wn} (h : w.ownsRow β 24 2 (.slice a n cap) l.length (cellsOfV l)) (hb0 : Blk w b0 cur 56) :
    n = l.length ∧ n ≤ cap ∧ ∃ q, RV w q (.slice a n cap) l ∧ q < w.heap.size ∧ (0 < l.length → β ≤ q) ∧ (Value.slice a n cap = .slice none 0 0 ∨ (Value.slice a n cap).ownBlock = some q) ∧ (∀ k, (Value.slice a n cap).ownBlock = some k → k < w.heap.size) ∧ ∀ cs t, Blk w q cs t → t = 24 ∨ t = 56 := by
  obtain ⟨h1, h2 | ⟨g, c, cur, e, hb, hg, hnc, hm, hs, ht⟩⟩ := id h
  · obtain ⟨e, h0⟩ := h2
    cases e
    have : l = [] := List.eq_nil_of_length_eq_zero h0
    subst this
    exact ⟨rfl, Nat.le_refl _, b0, .inl ⟨rfl, _, _, rfl⟩, hb0.lt, (fun e => by simp at e), .inl rfl, (fun k e => by cases e), fun cs t h => .inr (blk_type h hb0)⟩
  · cases e
    refine ⟨rfl, hnc, g, ?_, lt_of_block hg, fun _ => hb, .inr rfl, (fun k e => by cases e; exact lt_of_block hg), fun cs t h => .inl (blk_type h hg)⟩
    by_cases h0 : l.length = 0
    · have : l = [] := List.eq_nil_of_length_eq_zero h0
      subst this
      exact .inl ⟨rfl, _, _, rfl⟩
    · obtain ⟨a', c', e', q1, q2, q3⟩ := sliVs_own h
      cases e'
      obtain ⟨b, off, e, q4, q5⟩ := q3 (by omega)
      cases e
      exact .inr ⟨0, cap, cur, rfl, by omega, hnc, by unfold maxLen at hm; omega, hg, q5⟩
/-- What lies in memory between two gaps. -/
structure WI (w : World) (β p1 p2 q b : Nat) (cur : Array Value) (K R : List Wn) (g : Option (Nat × Nat)) (W : World) : Prop where
  kept : ∃ v, Blk W p1 #[v] 31 ∧ OwnC W v K g ∧ ∀ k, v.ownBlock = some k → g = none → k < p1
  rest : ∃ v, Blk W p2 #[v] 31 ∧ RV W q v R ∧ (v = .slice none 0 0 ∨ v.ownBlock = some q)
  runs : Blk W b cur 56
  bel : Below β w W
  lo : ∀ b k, g = some (b, k) → p2 < b
  gb : ∀ k, k < w.heap.size → k ≠ q → W.heap[k]? = w.heap[k]?
theorem WI.keep {w : World} {β p1 p2 q b N : Nat} {cur : Array Value} {K R : List Wn} {g : Option (Nat × Nat)} {A B : World} (h : WI w β p1 p2 q b cur K R g A) (hb : Below N A B) (h1 : p1 < N) (h2 : p2 < N) (h3 : q < N) (h4 : b < N) (h5 : β ≤ N) (h6 : w.heap.size ≤ N) (hk : ∀ b k, g = some (b, k) → B.heap[k]? = A.heap[k]?) : WI w β p1 p2 q b cur K R g B := by
  obtain ⟨⟨v, k1, k2, k3⟩, ⟨u, r1, r2, r3⟩, hr, hbl, hl, hgb⟩ := h
  exact ⟨⟨v, k1.below hb h1, k2.keep hb.size hk, k3⟩, ⟨u, r1.below hb h2, r2.keep (hb.block q h3), r3⟩, hr.below hb h4, hbl.trans (hb.mono h5), hl, fun k q1 q2 => (hb.block k (by omega)).trans (hgb k q1 q2)⟩
/-- Does the first window begin ahead of a time? -/
def hdW (t : Int) : List Wn → Nat
  | [] => 0
  | x :: _ => if x.1 < t then 1 else 0
theorem hdW_le (t : Int) (R : List Wn) : hdW t R ≤ 1 := by
  cases R with
  | nil => exact Nat.zero_le _
  | cons x r =>
    show (if _ then 1 else 0) ≤ 1
    split <;> omega
theorem hdW_rb {x : Wn} {r : List Wn} {t : Int} (h : x.1 < t) : 2 * (rbW x r t).length + hdW t (rbW x r t) < 2 * (x :: r).length + hdW t (x :: r) := by
  have e : hdW t (x :: r) = 1 := by show (if _ then 1 else 0) = 1; rw [if_pos h]
  rw [e]
  unfold rbW
  by_cases c : x.2 ≤ t
  · rw [if_pos c]; have := hdW_le t r; rw [List.length_cons]; omega
  · rw [if_neg c]
    have e2 : hdW t ((t, x.2) :: r) = 0 := by show (if _ then 1 else 0) = 0; rw [if_neg (by show ¬ t < t; omega)]
    rw [e2, List.length_cons, List.length_cons]; omega
/-- Within a round. -/
structure LI (w : World) (β q b Bx : Nat) (cur : Array Value) (y : Wn) (g : Option (Nat × Nat)) (W : World) (K R : List Wn) (g' : Option (Nat × Nat)) (wr : World) : Prop where
  wi : WI w β w.heap.size (w.heap.size + 1) q b cur K R g' wr
  bel : Below β W wr
  gap : Blk wr Bx #[.int .i64 y.1, .int .i64 y.2] 24
  st : ∀ k, w.heap.size + 2 ≤ k → k < W.heap.size → (∀ b, g ≠ some (b, k)) → wr.heap[k]? = W.heap[k]?
  gg : g' = g ∨ ∃ b k, g' = some (b, k) ∧ W.heap.size ≤ b
/-- What stays. -/
structure LC (w : World) (β q b Bx : Nat) (g : Option (Nat × Nat)) (W : World) : Prop where
  q : q < w.heap.size
  b : b < w.heap.size
  β : β ≤ w.heap.size
  lo : w.heap.size + 2 ≤ Bx
  hi : Bx < W.heap.size
  g : ∀ b k, g = some (b, k) → k < Bx
section
variable {w : World} {β q b Bx : Nat} {cur : Array Value} {y : Wn} {g : Option (Nat × Nat)} {W : World} {K R : List Wn} {g' : Option (Nat × Nat)} {wr : World}
theorem LI.own (h : LI w β q b Bx cur y g W K R g' wr) : ∀ b k, g' = some (b, k) → w.heap.size + 1 < b ∧ b ≤ k ∧ k < wr.heap.size := fun b k e => by
  obtain ⟨v, _, h2, _⟩ := h.wi.kept
  exact ⟨h.wi.lo b k e, h2.has b k e⟩
theorem LI.big (h : LI w β q b Bx cur y g W K R g' wr) (_c : LC w β q b Bx g W) : W.heap.size ≤ wr.heap.size := h.bel.size
theorem LI.past (h : LI w β q b Bx cur y g W K R g' wr) (c : LC w β q b Bx g W) {w' : World} (hb : Below wr.heap.size wr w') : LI w β q b Bx cur y g W K R g' w' := by
  have hz := h.bel.size
  have h1 := c.q; have h2 := c.b; have h3 := c.β; have h4 := c.lo; have h5 := c.hi
  exact ⟨h.wi.keep hb (by omega) (by omega) (by omega) (by omega) (by omega) (by omega) (fun b k e => hb.block k (h.own b k e).2.2), h.bel.trans (hb.mono (by omega)), h.gap.past hb, fun k k1 k2 k3 => (hb.block k (by omega)).trans (h.st k k1 k2 k3), h.gg⟩
/-- The own block of what is kept is none of the others. -/
theorem LI.far (h : LI w β q b Bx cur y g W K R g' wr) (c : LC w β q b Bx g W) : ∀ k, rowG g' = some k → w.heap.size + 1 < k ∧ k ≠ Bx ∧ ∀ j, j < W.heap.size → (∀ b, g ≠ some (b, j)) → j ≠ k := fun k e => by
  obtain ⟨⟨bb, kk⟩, e', e2⟩ := Option.map_eq_some_iff.1 e
  have e3 : kk = k := e2
  subst e3
  obtain ⟨k1, k2, k3⟩ := h.own bb kk e'
  have h5 := c.hi
  refine ⟨by omega, ?_, fun j hj hg he => ?_⟩
  · rcases h.gg with e4 | ⟨b2, k4, e4, hb⟩
    · rw [e4] at e'
      have := c.g _ _ e'
      omega
    · rw [e4] at e'; cases e'; omega
  · subst he
    rcases h.gg with e4 | ⟨b2, k4, e4, hb⟩
    · rw [e4] at e'
      exact hg _ e'
    · rw [e4] at e'; cases e'; omega
theorem LI.app (h : LI w β q b Bx cur y g W K R g' wr) (c : LC w β q b Bx g W) {w6 : World} {v6 : Value} {k6 : Nat × Nat} {z : Wn} (ho : OwnC w6 v6 (K ++ [z]) (some k6)) (hg : wr.grownBy w6 (rowG g')) (hk : g' = some k6 ∨ wr.heap.size ≤ k6.1) :
    LI w β q b Bx cur y g W (K ++ [z]) R (some k6) (w6.setCell ⟨w.heap.size, 0, none⟩ v6) := by
  have hz := h.bel.size
  have h1 := c.q; have h2 := c.b; have h3 := c.β; have h4 := c.lo; have h5 := c.hi
  obtain ⟨⟨v, k1, k2, k3⟩, ⟨u, r1, r2, r3⟩, hr, hbl, hl, hgb⟩ := id h.wi
  have hfar := h.far c
  have hblk : ∀ k, k < wr.heap.size → k ≠ w.heap.size → rowG g' ≠ some k → (w6.setCell ⟨w.heap.size, 0, none⟩ v6).heap[k]? = wr.heap[k]? := fun k q1 q2 q3 => (keptS q2 _).trans (hg.block k q1 (fun e => q3 e.symm))
  have hne : ∀ k, k ≤ w.heap.size + 1 → rowG g' ≠ some k := fun k q1 e => by have := (hfar k e).1; omega
  have hp1 : Blk w6 w.heap.size #[v] 31 := (hg.block _ k1.lt (fun e => hne w.heap.size (by omega) e.symm)).trans k1
  have hB0 : Below w.heap.size wr w6 := Below.grown (Below.refl _ _) hg (show w.heap.size ≤ wr.heap.size by omega) (fun k e => show w.heap.size ≤ k by have := (hfar k e).1; omega)
  have hBel : Below w.heap.size wr (w6.setCell ⟨w.heap.size, 0, none⟩ v6) := hB0.setCell (p := ⟨w.heap.size, 0, none⟩) (Nat.le_refl _) _
  have hlo6 : w.heap.size + 1 < k6.1 ∧ k6.1 ≤ k6.2 := by
    refine ⟨?_, (ho.has k6.1 k6.2 rfl).1⟩
    rcases hk with e | e
    · exact h.wi.lo k6.1 k6.2 e
    · omega
  refine ⟨⟨⟨v6, by simpa using hp1.set 0 v6, ho.keep (by simp [World.setCell]) (fun b' k' e => keptS (by cases e; have := hlo6; simp at this; omega) _), fun k e e2 => by cases e2⟩, ⟨u, ?_, r2.keep (hblk q (by omega) (by omega) (hne q (by omega))), r3⟩, (hblk b (by omega) (by omega) (hne b (by omega))).trans hr, hbl.trans (hBel.mono h3), (fun b' k' e => by cases e; exact hlo6.1), fun k q1 q2 => (hblk k (by omega) (by omega) (hne k (by omega))).trans (hgb k q1 q2)⟩, h.bel.trans (hBel.mono h3), ?_, ?_, ?_⟩
  · exact (hblk _ r1.lt (by omega) (hne _ (by omega))).trans r1
  · exact (hblk Bx (by omega) (by omega) (fun e => (hfar Bx e).2.1 rfl)).trans h.gap
  · intro k q1 q2 q3
    exact (hblk k (by omega) (by omega) (fun e => (hfar k e).2.2 k q2 q3 rfl)).trans (h.st k q1 q2 q3)
  · rcases hk with e | e
    · rcases h.gg with e2 | ⟨b2, k2, e2, e3⟩
      · exact .inl (by rw [← e, e2])
      · exact .inr ⟨b2, k2, by rw [← e, e2], e3⟩
    · exact .inr ⟨k6.1, k6.2, rfl, by omega⟩
theorem LI.cut (h : LI w β q b Bx cur y g W K R g' wr) (c : LC w β q b Bx g W) (hβ : β ≤ q) (hbq : b ≠ q) {w8 : World} {v : Value} {R' : List Wn} (hv : RV w8 q v R') (ho : v.ownBlock = some q) (hg : wr.grownBy w8 (some q)) :
    LI w β q b Bx cur y g W K R' g' (w8.setCell ⟨w.heap.size + 1, 0, none⟩ v) := by
  have hz := h.bel.size
  have h1 := c.q; have h2 := c.b; have h3 := c.β; have h4 := c.lo; have h5 := c.hi
  obtain ⟨⟨v1, k1, k2, k3⟩, ⟨u, r1, r2, r3⟩, hr, hbl, hl, hgb⟩ := id h.wi
  have hblk : ∀ k, k < wr.heap.size → k ≠ w.heap.size + 1 → k ≠ q → (w8.setCell ⟨w.heap.size + 1, 0, none⟩ v).heap[k]? = wr.heap[k]? := fun k q1 q2 q3 => (keptS q2 _).trans (hg.block k q1 (fun e => q3 (by cases e; rfl)))
  have hBel : Below β wr (w8.setCell ⟨w.heap.size + 1, 0, none⟩ v) := Below.setCell (Below.grown (Below.refl β wr) hg (show β ≤ wr.heap.size by omega) (fun k e => by cases e; exact hβ)) (p := ⟨w.heap.size + 1, 0, none⟩) (show β ≤ w.heap.size + 1 by omega) _
  have hp2 : Blk w8 (w.heap.size + 1) #[u] 31 := (hg.block _ r1.lt (fun e => by cases e; omega)).trans r1
  refine ⟨⟨⟨v1, (hblk _ k1.lt (by omega) (by omega)).trans k1, k2.keep (by simp [World.setCell]; exact hg.size) (fun b' k' e => ?_), k3⟩, ⟨v, by simpa using hp2.set 0 v, hv.keep (keptS (by omega) _), .inr ho⟩, (hblk b (by omega) (by omega) hbq).trans hr, hbl.trans hBel, hl, fun k q1 q2 => (hblk k (by omega) (by omega) q2).trans (hgb k q1 q2)⟩, h.bel.trans hBel, ?_, ?_, h.gg⟩
  · obtain ⟨q1, q2, q3⟩ := h.own b' k' e
    exact hblk k' q3 (by omega) (by omega)
  · exact (hblk Bx (by omega) (by omega) (by omega)).trans h.gap
  · intro k q1 q2 q3
    exact (hblk k (by omega) (by omega) (by omega)).trans (h.st k q1 q2 q3)
/-- What an append leaves as it is. -/
theorem LI.app_keep (h : LI w β q b Bx cur y g W K R g' wr) (c : LC w β q b Bx g W) {w6 : World} (v6 : Value) (hg : wr.grownBy w6 (rowG g')) : ∀ k, k ≤ w.heap.size + 1 → k ≠ w.heap.size → (w6.setCell ⟨w.heap.size, 0, none⟩ v6).heap[k]? = wr.heap[k]? := fun k k1 k2 => by
  have hz := h.bel.size
  have h4 := c.lo; have h5 := c.hi
  exact (keptS k2 _).trans (hg.block k (by omega) (fun e => by have := (h.far c k e.symm).1; omega))
end
end Go.Proofs.Ytgflbidagdcfmaa

namespace Go.Proofs.Ytgflbidagdcfmaa
open Go.ChangeShapes Go.WideShapes Go.ChangeAt Go.RowKit
attribute [local irreducible] Go.Calls

theorem lenG_take_le {l : List Sg} (h : ∀ x ∈ l, 1 ≤ x.1 ∧ x.1 ≤ 4096) (k : Nat) : 0 ≤ lenG (l.take k) ∧ lenG (l.take k) ≤ lenG l := by
  have e : lenG l = lenG (l.take k) + lenG (l.drop k) := by rw [← lenG_app, List.take_append_drop]
  have h1 := lenG_bound (l := l.take k) fun x hx => h x (List.mem_of_mem_take hx)
  have h2 := lenG_bound (l := l.drop k) fun x hx => h x (List.mem_of_mem_drop hx)
  omega
theorem bg_at {F : List Sg} {a b : Int} {r : List Sg} {n : Nat} {l : List Sg} (h : RunsOk F a b r n) (hab : a < b) (hl0 : 0 < l.length) (hl : ∀ x ∈ l, 1 ≤ x.1 ∧ x.1 ≤ 4096) (k : Nat) :
    CW (bgS r (roomL a b (lenG l)) (l.take k)).1 ∧ ∀ x ∈ (bgS r (roomL a b (lenG l)) (l.take k)).1, a ≤ x.1 ∧ x.2 ≤ b := by
  obtain ⟨r1, r2⟩ := roomL_ok (a := a) (b := b) (n := lenG l) (by omega)
  have hk := lenG_take_le hl k
  obtain ⟨j1, j2⟩ := bg_aux h (l.take k) (roomL a b (lenG l)) 0 r1 (fun x hx => (hl x (List.mem_of_mem_take hx)).1) (fun t ht => by have := (r2 t).1 ht; omega)
  refine ⟨j1, fun x hx => ?_⟩
  have hx1 := j1.1 x hx
  have q1 := (r2 _).1 ((j2 x.1).1 ⟨x, hx, Int.le_refl _, hx1⟩).1
  have q2 := (r2 _).1 ((j2 (x.2 - 1)).1 ⟨x, hx, by omega, by omega⟩).1
  have hp := lenG_bound hl
  omega
theorem wo_short {l gs : List Wn} {a b : Int} (h : CW l) (hin : ∀ x ∈ l, a ≤ x.1 ∧ x.2 ≤ b) (hab : a ≤ b) (hg : ∀ g ∈ gs, g.1 < g.2) (hp : gs.Pairwise fun a b => a.1 ≤ b.1) {pre : List Wn} (hpre : pre <+: gs) :
    ((woF l pre).1.length + (woF l pre).2.length : Int) ≤ b - a := by
  obtain ⟨w1, w2⟩ := wo_spec h (fun g q => hg g (hpre.subset q)) (hp.sublist hpre.sublist)
  have hmem : ∀ t, memW t l → a ≤ t ∧ t < b := fun t ⟨x, hx, h1, h2⟩ => by have := hin x hx; omega
  have := CW.short (a := a) (b := b) w1 (fun x hx => by
    have hx1 := w1.1 x hx
    have q1 := hmem _ ((w2 x.1).1 ⟨x, hx, Int.le_refl _, hx1⟩).1
    have q2 := hmem _ ((w2 (x.2 - 1)).1 ⟨x, hx, by omega, by omega⟩).1
    omega) hab
  unfold woL at this
  rw [List.length_append] at this
  omega
/-- Where the runs lie. -/
theorem runs_own {w : World} {β n cv : Nat} {av : Option Addr} {r : List Sg} (h : w.ownsRow β 56 3 (.slice av n cv) r.length (cellsOfS r)) (hr : 0 < r.length) :
    ∃ b cur, av = some ⟨b, 0, none⟩ ∧ n = r.length ∧ n ≤ cv ∧ cv ≤ 9223372036854775807 ∧ Blk w b cur 56 ∧ ∀ W, Blk W b cur 56 → ArgS W (some ⟨b, 0, none⟩) r := by
  obtain ⟨h1, h2 | ⟨g, c, cur, e, hb, hg, hnc, hm, hs, ht⟩⟩ := h
  · omega
  · cases e
    refine ⟨g, cur, rfl, rfl, hnc, by unfold maxLen at hm; omega, hg, fun W hW => ?_⟩
    have ho : W.ownsRow β 56 3 (.slice (some ⟨g, 0, none⟩) r.length cv) r.length (cellsOfS r) := ⟨h1, .inr ⟨g, cv, cur, rfl, hb, hW, hnc, hm, hs, ht⟩⟩
    obtain ⟨a', c', e', _, _, q3⟩ := sliS_own ho
    cases e'
    exact q3
/-- A row that a call owns. -/
def ownR (B : Nat) (e : TypeId) (sz L : Nat) (xs : List Value) : Value → World → Prop := fun v w => ∃ av n cv, v = .slice av n cv ∧ B ≤ w.heap.size ∧ w.ownsRow B e sz (.slice av n cv) L xs
theorem stab_own (B : Nat) (e : TypeId) (sz L : Nat) (xs : List Value) (v : Value) (w w' : World) : ownR B e sz L xs v w → Below w.heap.size w w' → ownR B e sz L xs v w' := fun ⟨av, n, cv, e, h0, h⟩ hb => ⟨av, n, cv, e, Nat.le_trans h0 hb.size, own_below h hb⟩
/-- What Begins says. -/
def begS (F : List Sg) (a b : Int) (l : List Sg) : List Wn × Int := if slotE F a b l = 0 then (begG F a b l, 0) else ([], slotE F a b l)
theorem begS_no {F l : List Sg} {a b : Int} (h : slotE F a b l ≠ 0) : begS F a b l = ([], slotE F a b l) := by unfold begS; rw [if_neg h]
theorem begS_yes {F l : List Sg} {a b : Int} (h : slotE F a b l = 0) : begS F a b l = (begG F a b l, 0) := by unfold begS; rw [if_pos h]
theorem begS_err {F l : List Sg} {a b : Int} : (begS F a b l).2 = slotE F a b l := by unfold begS; split <;> simp [*]
theorem begS_is {F l : List Sg} {a b : Int} (h : (begS F a b l).2 = 0) : BegIs F a b l (begS F a b l).1 := by
  rw [begS_err] at h
  rw [begS_yes h]
  obtain ⟨h1, h2, h3, h4, h5⟩ := slotE_zero h
  exact begG_is h1 h3.1 fun x hx => ((lenE_zero h2).2.1 x hx).1
theorem begS_len {F l : List Sg} {a b : Int} : ((begS F a b l).1.length : Int) ≤ 4096 := by
  by_cases h : slotE F a b l = 0
  · obtain ⟨h1, h2, h3, h4, h5⟩ := slotE_zero h
    have hl := (lenE_zero h2).2.1
    have h6 := begS_is (show (begS F a b l).2 = 0 by rw [begS_err]; exact h)
    have hp := lenG_bound hl
    have hin : ∀ x ∈ (begS F a b l).1, a ≤ x.1 ∧ x.2 ≤ b := fun x hx => by
      have hx1 := h6.1.1 x hx
      have q1 := (h6.2 x.1).1 ⟨x, hx, Int.le_refl _, hx1⟩
      have q2 := (h6.2 (x.2 - 1)).1 ⟨x, hx, by omega, by omega⟩
      unfold mayG at q1 q2
      have := (lenE_zero h2).1
      omega
    have := h6.1.short hin (by omega)
    omega
  · rw [begS_no h]; simp
end Go.Proofs.Ytgflbidagdcfmaa

namespace Go.Proofs.Ytgflbidagdcfmaa

theorem fitG_mono {F H : List Sg} (h : ∀ t, (vat F t).1 ≤ (vat H t).1 ∧ (vat F t).2 ≤ (vat H t).2) : ∀ (l : List Sg) (t : Int), (∀ x ∈ l, 1 ≤ x.1) → fitG F l t = true → fitG H l t = true
  | [], _, _, _ => rfl
  | x :: l, t, hl, q => by
    unfold fitG at q ⊢
    rw [Bool.and_eq_true] at q ⊢
    have hx := hl x (List.mem_cons_self ..)
    refine ⟨(fitB_iff hx).2 fun u h1 h2 => ?_, fitG_mono h l _ (fun y hy => hl y (List.mem_cons_of_mem _ hy)) q.2⟩
    have := (fitB_iff hx).1 q.1 u h1 h2
    have := h u
    omega
theorem legs_ok {F l : List Sg} {a b : Int} (h : slotE F a b l = 0) : ∀ x ∈ l, 1 ≤ x.1 ∧ x.1 ≤ 4096 := (lenE_zero (slotE_zero h).2.1).2.1
/-- A wider window. -/
theorem more_wide {F l : List Sg} {a b a' b' : Int} (h : slotE F a b l = 0) (h' : slotE F a' b' l = 0) (ha : a' ≤ a) (hb : b ≤ b') : ∀ x ∈ (begS F a b l).1, ∃ y ∈ (begS F a' b' l).1, y.1 ≤ x.1 ∧ x.2 ≤ y.2 := fun x hx => by
  have i1 := begS_is (show (begS F a b l).2 = 0 by rw [begS_err]; exact h)
  have i2 := begS_is (show (begS F a' b' l).2 = 0 by rw [begS_err]; exact h')
  refine i1.1.cover i2.1 (fun t ht => (i2.2 t).2 ?_) hx
  obtain ⟨q1, q2, q3⟩ := (i1.2 t).1 ht
  exact ⟨by omega, by omega, q3⟩
/-- A greater function. -/
theorem more_high {F H l : List Sg} {a b : Int} (h : slotE F a b l = 0) (hH : mayB H = true) (hm : ∀ t, (vat F t).1 ≤ (vat H t).1 ∧ (vat F t).2 ≤ (vat H t).2) : slotE H a b l = 0 ∧ ∀ x ∈ (begS F a b l).1, ∃ y ∈ (begS H a b l).1, y.1 ≤ x.1 ∧ x.2 ≤ y.2 := by
  obtain ⟨h1, h2, h3, h4, h5⟩ := slotE_zero h
  have h' : slotE H a b l = 0 := slotE_ok hH h2 h3 h4 (by
    rw [List.any_eq_false]
    intro x hx
    have := h5 x hx
    unfold wrB
    simp [this])
  refine ⟨h', fun x hx => ?_⟩
  have i1 := begS_is (show (begS F a b l).2 = 0 by rw [begS_err]; exact h)
  have i2 := begS_is (show (begS H a b l).2 = 0 by rw [begS_err]; exact h')
  refine i1.1.cover i2.1 (fun t ht => (i2.2 t).2 ?_) hx
  obtain ⟨q1, q2, q3⟩ := (i1.2 t).1 ht
  exact ⟨q1, q2, fitG_mono hm l t (fun y hy => (legs_ok h y hy).1) q3⟩
theorem high_most {F G H : List Sg} (hF : mayB F = true) (h : doS 3 F G = (H, 0)) : mayB H = true ∧ ∀ t, (vat F t).1 ≤ (vat H t).1 ∧ (vat F t).2 ≤ (vat H t).2 := by
  have hG : mayB G = true := by
    cases hq : mayB G
    · unfold doS at h
      rw [hq] at h
      simp at h
    · rfl
  obtain ⟨L, h1, h2, h3⟩ := high_is hF hG
  rw [h] at h1
  cases h1
  refine ⟨h2, fun t => ?_⟩
  rw [h3 t]
  unfold mx
  constructor
  · show _ ≤ if _ then _ else _
    split <;> omega
  · show _ ≤ if _ then _ else _
    split <;> omega
/-- The last leg removed. -/
theorem more_less {F l : List Sg} {a b : Int} {k : Nat} (h : slotE F a b l = 0) (hk : 0 < k) (hk2 : k ≤ l.length) : slotE F a b (l.take k) = 0 ∧ ∀ x ∈ (begS F a b l).1, ∃ y ∈ (begS F a b (l.take k)).1, y.1 ≤ x.1 ∧ x.2 ≤ y.2 := by
  obtain ⟨h1, h2, h3, h4, h5⟩ := slotE_zero h
  obtain ⟨y1, y2, y3⟩ := lenE_zero h2
  have hlen : (l.take k).length = k := by rw [List.length_take]; omega
  have h2' : lenE (l.take k) = (lenG (l.take k), 0) := lenE_ok (by omega) fun j hj => by
    have hm := y2 ((l.take k).getD j (0, 0, 0)) (by rw [getD_get _ _ _ hj]; exact List.mem_of_mem_take (List.getElem_mem hj))
    generalize (l.take k).getD j (0, 0, 0) = z at *
    unfold badDur
    rw [decide_eq_false (by omega), decide_eq_false (by omega)]
    rfl
  have h' : slotE F a b (l.take k) = 0 := slotE_ok h1 (by rw [h2']) h3 h4 (by
    rw [List.any_eq_false]
    intro x hx
    have := h5 x (List.mem_of_mem_take hx)
    unfold wrB
    simp [this])
  refine ⟨h', fun x hx => ?_⟩
  have i1 := begS_is (show (begS F a b l).2 = 0 by rw [begS_err]; exact h)
  have i2 := begS_is (show (begS F a b (l.take k)).2 = 0 by rw [begS_err]; exact h')
  refine i1.1.cover i2.1 (fun t ht => (i2.2 t).2 ?_) hx
  obtain ⟨q1, q2, q3⟩ := (i1.2 t).1 ht
  have hp := (lenG_take_le y2 k).2
  refine ⟨q1, by omega, ?_⟩
  have e : fitG F l t = (fitG F (l.take k) t && fitG F (l.drop k) (t + lenG (l.take k))) := by rw [← fitG_app, List.take_append_drop]
  rw [e, Bool.and_eq_true] at q3
  exact q3.1
end Go.Proofs.Ytgflbidagdcfmaa

namespace Go.Proofs.Ytgflbidagdcfmaa

/-- What the statement finds out leg by leg. -/
def stB (F : List Sg) (b t : Int) (l : List Sg) : Bool := fitG F l t && decide (t + lenG l ≤ b)
theorem stB_nil {F : List Sg} {b t : Int} (h : t < b) : stB F b t [] = true := by unfold stB fitG lenG; simp; omega
theorem stB_step {F l : List Sg} {a b t : Int} {k : Nat} (h : slotE F a b l = 0) (hk : k < l.length) (ht : a ≤ t) :
    stB F b t (l.take (k + 1)) = (stB F b t (l.take k) && ((fitsS F (t + lenG (l.take k)) (l.getD k (0, 0, 0)).1 (l.getD k (0, 0, 0)).2).2 == 0) && (fitsS F (t + lenG (l.take k)) (l.getD k (0, 0, 0)).1 (l.getD k (0, 0, 0)).2).1 && decide (t + lenG (l.take k) + (l.getD k (0, 0, 0)).1 ≤ b)) := by
  obtain ⟨h1, h2, h3, h4, h5⟩ := slotE_zero h
  have hd := legs_ok h (l.getD k (0, 0, 0)) (by rw [getD_get _ _ _ hk]; exact List.getElem_mem hk)
  have hv := h5 (l.getD k (0, 0, 0)) (by rw [getD_get _ _ _ hk]; exact List.getElem_mem hk)
  have hT : l.take (k + 1) = l.take k ++ [l.getD k (0, 0, 0)] := by rw [List.take_succ_eq_append_getElem hk, getD_get _ _ _ hk]
  have hp := (lenG_take_le (legs_ok h) k).1
  generalize l.getD k (0, 0, 0) = x at *
  obtain ⟨d, v⟩ := x
  have hl : lenG (l.take (k + 1)) = lenG (l.take k) + d := by rw [hT, lenG_app]; simp [lenG]
  have hf : fitG F (l.take (k + 1)) t = (fitG F (l.take k) t && fitB F (t + lenG (l.take k)) d v) := by rw [hT, fitG_app]; simp [fitG]
  have hd' : 1 ≤ d ∧ d ≤ 4096 := hd
  unfold stB
  rw [hf, hl]
  show (_ && _ && decide (t + (lenG (l.take k) + d) ≤ b)) = (_ && decide (t + lenG (l.take k) ≤ b) && ((fitsS F (t + lenG (l.take k)) d v).2 == 0) && (fitsS F (t + lenG (l.take k)) d v).1 && decide (t + lenG (l.take k) + d ≤ b))
  by_cases hb : t + lenG (l.take k) + d ≤ b
  · have hn : nowB (t + lenG (l.take k)) = true := nowB_iff.2 (by omega)
    have hs : fitsS F (t + lenG (l.take k)) d v = (fitB F (t + lenG (l.take k)) d v, 0) := by
      unfold fitsS
      rw [if_pos (fitE_ok h1 hd' hn hv)]
    rw [hs, decide_eq_true (show t + (lenG (l.take k) + d) ≤ b by omega), decide_eq_true (show t + lenG (l.take k) ≤ b by omega), decide_eq_true hb]
    simp
  · rw [decide_eq_false (show ¬ t + (lenG (l.take k) + d) ≤ b by omega), decide_eq_false hb]
    simp
theorem stB_is {F l : List Sg} {a b t : Int} (h : slotE F a b l = 0) (ht : a ≤ t) : stB F b t l = true ↔ memW t (begS F a b l).1 := by
  have i1 := begS_is (show (begS F a b l).2 = 0 by rw [begS_err]; exact h)
  rw [i1.2 t]
  unfold stB mayG
  rw [Bool.and_eq_true, decide_eq_true_iff]
  constructor
  · rintro ⟨q1, q2⟩; exact ⟨ht, q2, q1⟩
  · rintro ⟨_, q2, q3⟩; exact ⟨q3, q2⟩
theorem begS_inW {F l : List Sg} {a b : Int} (h : slotE F a b l = 0) {x : Wn} (hx : x ∈ (begS F a b l).1) : a ≤ x.1 ∧ x.2 ≤ b ∧ x.1 < x.2 := by
  have i1 := begS_is (show (begS F a b l).2 = 0 by rw [begS_err]; exact h)
  have hl := legs_ok h
  have hp := lenG_bound hl
  have hx1 := i1.1.1 x hx
  have q1 := (i1.2 x.1).1 ⟨x, hx, Int.le_refl _, hx1⟩
  have q2 := (i1.2 (x.2 - 1)).1 ⟨x, hx, by omega, by omega⟩
  have := (lenE_zero (slotE_zero h).2.1).1
  unfold mayG at q1 q2
  omega
theorem CW.at_lt : ∀ {L : List Wn}, CW L → ∀ {i j : Nat}, i < j → j < L.length → (L.getD i (0, 0)).2 < (L.getD j (0, 0)).1 := by
  intro L h i j hij hj
  have := List.pairwise_iff_getElem.1 h.2 i j (by omega) hj hij
  rw [getD_get _ _ _ hj, getD_get _ _ _ (show i < L.length by omega)]
  exact this
/-- The pointer finds the window. -/
theorem mem_at {L : List Wn} {k : Nat} {t : Int} (h : CW L) (h1 : ∀ j, j < k → (L.getD j (0, 0)).2 ≤ t) (h2 : k < L.length → t < (L.getD k (0, 0)).2) : memW t L ↔ k < L.length ∧ (L.getD k (0, 0)).1 ≤ t := by
  constructor
  · rintro ⟨x, hx, q1, q2⟩
    obtain ⟨j, hj, e⟩ := List.getElem_of_mem hx
    have ej : L.getD j (0, 0) = x := by rw [getD_get _ _ _ hj, e]
    rcases Nat.lt_trichotomy j k with c | c | c
    · have := h1 j c; rw [ej] at this; omega
    · subst c; rw [ej]; exact ⟨hj, q1⟩
    · have hk : k < L.length := by omega
      have := h.at_lt c hj
      have := h2 hk
      rw [ej] at *
      omega
  · rintro ⟨hk, q⟩
    exact ⟨_, by rw [getD_get _ _ _ hk]; exact List.getElem_mem hk, q, h2 hk⟩
end Go.Proofs.Ytgflbidagdcfmaa

namespace Go.Proofs.Ytgflbidagdcfmaa

/-- The times of a row, counted. -/
def sumW : List Wn → Int
  | [] => 0
  | x :: r => x.2 - x.1 + sumW r
theorem sumW_app : ∀ A B : List Wn, sumW (A ++ B) = sumW A + sumW B
  | [], B => by simp [sumW]
  | x :: A, B => by simp only [List.cons_append, sumW]; rw [sumW_app A B]; omega
def shW (L : List Wn) : List Wn := L.map fun x => (x.1 - 1, x.2 - 1)
theorem shW_sum : ∀ L : List Wn, sumW (shW L) = sumW L
  | [] => rfl
  | x :: r => by
    show (x.2 - 1) - (x.1 - 1) + sumW (shW r) = _
    rw [shW_sum r]; simp only [sumW]; omega
theorem shW_mem {L : List Wn} {t : Int} : memW t (shW L) ↔ memW (t + 1) L := by
  unfold memW shW
  constructor
  · rintro ⟨y, hy, q1, q2⟩
    obtain ⟨x, hx, rfl⟩ := List.mem_map.1 hy
    have q1' : x.1 - 1 ≤ t := q1
    have q2' : t < x.2 - 1 := q2
    exact ⟨x, hx, by omega, by omega⟩
  · rintro ⟨x, hx, q1, q2⟩
    exact ⟨_, List.mem_map.2 ⟨x, hx, rfl⟩, show x.1 - 1 ≤ t by omega, show t < x.2 - 1 by omega⟩
theorem shW_cw : ∀ {L : List Wn}, CW L → CW (shW L)
  | [], _ => CW.nil
  | x :: r, h => by
    obtain ⟨h1, h2, h3⟩ := CW.cons.1 h
    refine CW.cons.2 ⟨show x.1 - 1 < x.2 - 1 by omega, fun y hy => ?_, shW_cw h3⟩
    obtain ⟨z, hz, rfl⟩ := List.mem_map.1 hy
    have := h2 z hz
    show x.2 - 1 < z.1 - 1
    omega
def firstW (a : Int) : List Wn → Int
  | [] => 0
  | x :: _ => if x.1 = a then 1 else 0
/-- One time less ahead. -/
theorem sum_less {a : Int} {A C : List Wn} (hA : CW A) (hC : CW C) (hin : ∀ x ∈ A, a ≤ x.1) (h : ∀ t, memW t C ↔ a ≤ t ∧ memW (t + 1) A) : sumW C = sumW A - firstW a A := by
  cases A with
  | nil =>
    have : C = [] := hC.unique CW.nil fun t => by rw [h t]; exact ⟨fun q => (memW_nil q.2).elim, fun q => (memW_nil q).elim⟩
    subst this
    rfl
  | cons x r =>
    obtain ⟨h1, h2, h3⟩ := CW.cons.1 hA
    have hx := hin x (List.mem_cons_self ..)
    have hr : ∀ t, memW (t + 1) r → a ≤ t := fun t ⟨z, hz, q1, _⟩ => by have := h2 z hz; omega
    by_cases c : x.1 = a
    · have e : firstW a (x :: r) = 1 := by show (if _ then _ else _) = _; rw [if_pos c]
      rw [e]
      by_cases c2 : x.2 = a + 1
      · have : C = shW r := hC.unique (shW_cw h3) fun t => by
          rw [h t, shW_mem, memW_cons]
          constructor
          · rintro ⟨q, q2 | q2⟩
            · omega
            · exact q2
          · intro q; exact ⟨hr t q, .inr q⟩
        rw [this, shW_sum]; simp only [sumW]; omega
      · have hcw : CW ((a, x.2 - 1) :: shW r) := CW.cons.2 ⟨show a < x.2 - 1 by omega, fun y hy => by
          obtain ⟨z, hz, rfl⟩ := List.mem_map.1 hy
          have := h2 z hz
          show x.2 - 1 < z.1 - 1
          omega, shW_cw h3⟩
        have : C = (a, x.2 - 1) :: shW r := hC.unique hcw fun t => by
          rw [h t, memW_cons, memW_cons, shW_mem]
          constructor
          · rintro ⟨q, q2 | q2⟩
            · exact .inl ⟨q, show t < x.2 - 1 by omega⟩
            · exact .inr q2
          · rintro (⟨q1, q2⟩ | q)
            · have q1' : a ≤ t := q1
              have q2' : t < x.2 - 1 := q2
              exact ⟨q1', .inl (by omega)⟩
            · exact ⟨hr t q, .inr q⟩
        rw [this]
        show x.2 - 1 - a + sumW (shW r) = _
        rw [shW_sum]; simp only [sumW]; omega
    · have e : firstW a (x :: r) = 0 := by show (if _ then _ else _) = _; rw [if_neg c]
      have : C = shW (x :: r) := hC.unique (shW_cw hA) fun t => by
        rw [h t, shW_mem]
        constructor
        · exact fun q => q.2
        · intro q
          refine ⟨?_, q⟩
          rcases memW_cons.1 q with ⟨q1, _⟩ | q1
          · omega
          · exact hr t q1
      rw [this, shW_sum, e]; omega
theorem fitB_cut {F : List Sg} {t d n : Int} {v : Int × Int} (h1 : 1 ≤ n) (h2 : n < d) : fitB F t d v = (fitB F t n v && fitB F (t + n) (d - n) v) := by
  rw [Bool.eq_iff_iff, Bool.and_eq_true, fitB_iff (by omega), fitB_iff h1, fitB_iff (by omega)]
  constructor
  · intro h
    exact ⟨fun u q1 q2 => h u q1 (by omega), fun u q1 q2 => h u (by omega) (by omega)⟩
  · rintro ⟨p, q⟩ u q1 q2
    by_cases c : u < t + n
    · exact p u q1 c
    · exact q u (by omega) (by omega)
def cutL2 (l : List Sg) (k : Nat) (n : Int) : List Sg := l.take k ++ ([(n, (l.getD k (0, 0, 0)).2), ((l.getD k (0, 0, 0)).1 - n, (l.getD k (0, 0, 0)).2)] ++ l.drop (k + 1))
theorem cut_len {l : List Sg} {k : Nat} {n : Int} (hk : k < l.length) : (cutL2 l k n).length = l.length + 1 := by
  unfold cutL2
  simp only [List.length_append, List.length_take, List.length_cons, List.length_nil, List.length_drop]
  omega
theorem split_at {l : List Sg} {k : Nat} (hk : k < l.length) : l = l.take k ++ ([l.getD k (0, 0, 0)] ++ l.drop (k + 1)) := by
  rw [getD_get _ _ _ hk, ← List.append_assoc, ← List.take_succ_eq_append_getElem hk, List.take_append_drop]
theorem lenE_mk {l : List Sg} (h : 0 < l.length ∧ l.length ≤ 16) (h2 : ∀ x ∈ l, 1 ≤ x.1 ∧ x.1 ≤ 4096) : lenE l = (lenG l, 0) := lenE_ok (by omega) fun j hj => by
  have hm := h2 (l.getD j (0, 0, 0)) (by rw [getD_get _ _ _ hj]; exact List.getElem_mem hj)
  generalize l.getD j (0, 0, 0) = z at *
  unfold badDur
  rw [decide_eq_false (by omega), decide_eq_false (by omega)]
  rfl
theorem cut_same {F l : List Sg} {a b n : Int} {k : Nat} (h : slotE F a b l = 0) (hl : l.length ≤ 14) (hk : k < l.length) (h1 : 1 ≤ n) (h2 : n < (l.getD k (0, 0, 0)).1) : begS F a b (cutL2 l k n) = begS F a b l := by
  obtain ⟨z1, z2, z3, z4, z5⟩ := slotE_zero h
  have hleg := legs_ok h
  have hsp := split_at hk
  have hx := hleg (l.getD k (0, 0, 0)) (by rw [getD_get _ _ _ hk]; exact List.getElem_mem hk)
  have hv := z5 (l.getD k (0, 0, 0)) (by rw [getD_get _ _ _ hk]; exact List.getElem_mem hk)
  have hcl := cut_len (n := n) hk
  have hmem : ∀ x ∈ cutL2 l k n, (1 ≤ x.1 ∧ x.1 ≤ 4096) ∧ okV x.2.1 x.2.2 = true := by
    intro x hx'
    unfold cutL2 at hx'
    rcases List.mem_append.1 hx' with q | q
    · exact ⟨hleg x (List.mem_of_mem_take q), z5 x (List.mem_of_mem_take q)⟩
    · rcases List.mem_append.1 q with q | q
      · simp only [List.mem_cons, List.not_mem_nil, or_false] at q
        rcases q with rfl | rfl
        · exact ⟨⟨h1, by show n ≤ 4096; omega⟩, hv⟩
        · exact ⟨⟨by show 1 ≤ (l.getD k (0, 0, 0)).1 - n; omega, by show (l.getD k (0, 0, 0)).1 - n ≤ 4096; omega⟩, hv⟩
      · exact ⟨hleg x (List.mem_of_mem_drop q), z5 x (List.mem_of_mem_drop q)⟩
  have hlc : lenE (cutL2 l k n) = (lenG (cutL2 l k n), 0) := lenE_mk (by omega) fun x hx' => (hmem x hx').1
  have hE : slotE F a b (cutL2 l k n) = 0 := slotE_ok z1 (by rw [hlc]) z3 z4 (by
    rw [List.any_eq_false]
    intro x hx'
    have := (hmem x hx').2
    unfold wrB
    simp [this])
  have i1 := begS_is (show (begS F a b l).2 = 0 by rw [begS_err]; exact h)
  have i2 := begS_is (show (begS F a b (cutL2 l k n)).2 = 0 by rw [begS_err]; exact hE)
  have hlen : lenG (cutL2 l k n) = lenG l := by
    conv => rhs; rw [hsp]
    unfold cutL2
    rw [lenG_app, lenG_app, lenG_app, lenG_app]
    simp only [lenG]
    omega
  have hfit : ∀ t, fitG F (cutL2 l k n) t = fitG F l t := fun t => by
    conv => rhs; rw [hsp]
    unfold cutL2
    rw [fitG_app, fitG_app, fitG_app, fitG_app]
    simp only [fitG, lenG, Bool.and_true, Int.add_zero]
    rw [fitB_cut (d := (l.getD k (0, 0, 0)).1) h1 h2]
    rw [show n + ((l.getD k (0, 0, 0)).1 - n) = (l.getD k (0, 0, 0)).1 by omega]
  refine Prod.ext (i2.unique i1 fun t => ?_) (by rw [begS_err, begS_err, hE, h])
  unfold mayG
  rw [hlen, hfit]
def noneL : Sg := (1, (-1125899906842624, -1125899906842624))
theorem none_less {F l : List Sg} {a b : Int} (h : slotE F a b l = 0) (hl : l.length ≤ 14) : slotE F a b (noneL :: l) = 0 ∧ sumW (begS F a b (noneL :: l)).1 = sumW (begS F a b l).1 - firstW a (begS F a b l).1 := by
  obtain ⟨z1, z2, z3, z4, z5⟩ := slotE_zero h
  have hleg := legs_ok h
  have hmem : ∀ x ∈ noneL :: l, (1 ≤ x.1 ∧ x.1 ≤ 4096) ∧ okV x.2.1 x.2.2 = true := by
    intro x hx
    rcases List.mem_cons.1 hx with rfl | q
    · exact ⟨⟨by decide, by decide⟩, by decide⟩
    · exact ⟨hleg x q, z5 x q⟩
  have hlc : lenE (noneL :: l) = (lenG (noneL :: l), 0) := lenE_mk (by simp; omega) fun x hx' => (hmem x hx').1
  have hE : slotE F a b (noneL :: l) = 0 := slotE_ok z1 (by rw [hlc]) z3 z4 (by
    rw [List.any_eq_false]
    intro x hx'
    have := (hmem x hx').2
    unfold wrB
    simp [this])
  refine ⟨hE, ?_⟩
  have i1 := begS_is (show (begS F a b l).2 = 0 by rw [begS_err]; exact h)
  have i2 := begS_is (show (begS F a b (noneL :: l)).2 = 0 by rw [begS_err]; exact hE)
  refine sum_less i1.1 i2.1 (fun x hx => (begS_inW h hx).1) fun t => ?_
  rw [i2.2 t, i1.2 (t + 1)]
  have hb : fitB F t 1 (-1125899906842624, -1125899906842624) = true := (fitB_iff (by omega)).2 fun u _ _ => by
    have := okV_iff.1 (may_okF z1 u)
    exact ⟨this.1, this.2.2.1⟩
  unfold mayG
  show (a ≤ t ∧ t + (1 + lenG l) ≤ b ∧ (fitB F t 1 (-1125899906842624, -1125899906842624) && fitG F l (t + 1)) = true) ↔ _
  rw [hb, Bool.true_and]
  constructor
  · rintro ⟨q1, q2, q3⟩; exact ⟨q1, by omega, by omega, q3⟩
  · rintro ⟨q1, q2, q3, q4⟩; exact ⟨q1, by omega, q4⟩
/-- How much a front of a row sums up to. -/
theorem sumW_take {L : List Wn} (h : CW L) {a b : Int} (hab : a ≤ b) (hin : ∀ x ∈ L, a ≤ x.1 ∧ x.2 ≤ b) : ∀ i, 0 ≤ sumW (L.take i) ∧ sumW (L.take i) ≤ b - a := by
  have key : ∀ (L : List Wn) (a : Int), CW L → a ≤ b → (∀ x ∈ L, a ≤ x.1 ∧ x.2 ≤ b) → ∀ i, 0 ≤ sumW (L.take i) ∧ sumW (L.take i) ≤ b - a := by
    intro L
    induction L with
    | nil => intro a _ hab _ i; simp [sumW]; omega
    | cons x r ih =>
      intro a h hab hin i
      cases i with
      | zero => simp [sumW]; omega
      | succ i =>
        have h0 := hin x (by simp)
        have hx := h.1 x (by simp)
        have h2 := List.pairwise_cons.1 h.2
        have := ih x.2 ⟨fun y hy => h.1 y (by simp [hy]), h2.2⟩ h0.2 (fun y hy => ⟨by have := h2.1 y hy; omega, (hin y (by simp [hy])).2⟩) i
        simp only [List.take_succ_cons, sumW]
        omega
  exact key L a h hab hin
theorem sumW_step {L : List Wn} {i : Nat} (h : i < L.length) : sumW (L.take (i + 1)) = sumW (L.take i) + (L.getD i (0, 0)).2 - (L.getD i (0, 0)).1 := by
  have e : L.take (i + 1) = L.take i ++ [L.getD i (0, 0)] := by
    rw [List.take_add_one, List.getElem?_eq_getElem h, List.getD_eq_getElem?_getD, List.getElem?_eq_getElem h]; rfl
  rw [e, sumW_app]; simp [sumW]; omega
theorem begS_cwL {F l : List Sg} {a b : Int} {L : List Wn} (h : begS F a b l = (L, 0)) : CW L ∧ ∀ x ∈ L, a ≤ x.1 ∧ x.2 ≤ b := by
  have h2 : (begS F a b l).2 = 0 := by rw [h]
  have h1 : (begS F a b l).1 = L := by rw [h]
  have hE : slotE F a b l = 0 := by rw [← begS_err]; exact h2
  refine ⟨by rw [← h1]; exact (begS_is h2).1, fun x hx => ?_⟩
  rw [← h1] at hx
  have := begS_inW hE hx
  exact ⟨this.1, this.2.1⟩
end Go.Proofs.Ytgflbidagdcfmaa

namespace Go.Proofs.Ytgflbidagdcfmaa
open Go.ChangeShapes Go.WideShapes Go.ChangeAt Go.RowKit Go.Shelf
attribute [local irreducible] Go.Calls
attribute [local go_sem] Oper.semAt_some

/-- What yield is handed. -/
def encA (x : Nat × Wn) : Array Value := #[.int .i64 x.1, V x.2.1 x.2.2]
def alF (L : List Wn) (i : Nat) : Nat × Wn := (i, L.getD i (0, 0))
def bkF (L : List Wn) (i : Nat) : Nat × Wn := (L.length - 1 - i, L.getD (L.length - 1 - i) (0, 0))
def mapK (f : Nat → Nat × Wn) (k : Nat) : List (Nat × Wn) := (List.range k).map f
theorem mapK_succ (f : Nat → Nat × Wn) (k : Nat) : mapK f (k + 1) = mapK f k ++ [f k] := by unfold mapK; rw [List.range_succ, List.map_append]; rfl
theorem mapK_pre (f : Nat → Nat × Wn) {k n : Nat} (h : k ≤ n) : mapK f k <+: mapK f n := by
  induction n with
  | zero => rw [show k = 0 by omega]; exact List.prefix_refl _
  | succ n ih =>
    by_cases c : k = n + 1
    · rw [c]; exact List.prefix_refl _
    · rw [mapK_succ]; exact (ih (by omega)).trans (List.prefix_append ..)
set_option maxRecDepth 100000 in
set_option maxHeartbeats 4000000 in
theorem allIt_c (L : List Wn) (p : Nat) (a : Option Addr) (n cap n0 : Nat) (w : World) (hn : n = L.length) (hl : L.length ≤ 1000000) :
    SeqX Try.prog 64 #[] #[.pointer (some ⟨p, 0, none⟩)] encA n0 (fun W => Blk W p #[.slice a n cap] 31 ∧ ArgVs W a L) (mapK (alF L) n) w := by
  intro l J Jx W hW hJ hJg hJK hJx hY h0
  have H0 := hidE h0; have HK := hidE hJK; have HY := hidE hY; have HJ := hidE hJ; have HJG := hidE hJg
  have HN := hidE hn
  have hnl : n ≤ 1000000 := by omega
  clear hJ hJg hJx hY h0 hW hJK hn
  show Calls Try.prog 64 #[.func (.yield l) #[] #[], .pointer (some ⟨p, 0, none⟩)] W _
  obtain ⟨B0, _⟩ := HK.out _ _ _ H0.out
  have b0 := B0.cell 0; have bz := B0.lt
  simp at b0
  clear B0
  go_enter Try.func64, Try.ntmps64
  go_wp2
  clear b0 bz
  go_loopg [7] n (fun gh v7 wr => ∃ (k : Nat) (g : Option (Nat × Nat)), n - k ≤ gh ∧ k ≤ n ∧ v7 = .int .i64 k ∧ J (mapK (alF L) k) g wr ∧ W.heap.size ≤ wr.heap.size)
  case atStart => exact ⟨0, none, Nat.sub_le _ _, Nat.zero_le _, rfl, H0.out, Nat.le_refl _⟩
  case round =>
    obtain ⟨k, g, hgh, hk, rfl, hJ1, hpz⟩ := hrel
    have HJ1 := hidE hJ1; have HG := hidE hgh; have HPZ := hidE hpz
    clear hJ1 hgh hpz
    by_cases hlt : k < n
    · have d1 : decide ((k : Int) < (n : Int)) = true := decide_eq_true (by omega)
      have d1' : decide (k < n) = true := decide_eq_true hlt
      obtain ⟨_, hA⟩ := HK.out _ _ _ HJ1.out
      have hkL : k < L.length := by have := HN.out; omega
      obtain ⟨b, off, rfl, hbz, hc⟩ := hA (by omega)
      obtain ⟨e0, e1⟩ := hc k hkL
      have HS := hidE (mapK_succ (alF L) k)
      have hF : alF L k = (k, L.getD k (0, 0)) := rfl
      rw [hF] at HS
      generalize L.getD k (0, 0) = x at *
      obtain ⟨x0, x1⟩ := x
      simp only at e0 e1
      clear hc hA hF hkL
      have HPX := hidE (show mapK (alF L) k ++ [(k, (x0, x1))] <+: mapK (alF L) n from by rw [← HS.out]; exact mapK_pre _ (by omega))
      go_upto_region 3 with fail
      obtain ⟨w5, hw5⟩ : ∃ w5, w5 = wr.alloc (Obj.cells #[.int .i64 x0, .int .i64 x1] 24) := ⟨_, rfl⟩
      have hb5 : Below wr.heap.size wr w5 := by rw [hw5]; exact (Below.refl _ _).alloc (Nat.le_refl _) _
      have B5 : Blk w5 wr.heap.size #[.int .i64 x0, .int .i64 x1] 24 := by rw [hw5]; exact Blk.made _ _ _
      have HJ5 := hidE (HJ.out _ _ _ _ HJ1.out (hb5.mono HPZ.out) (fun b k e => hb5.block k (HJG.out _ _ _ HJ1.out b k e).2))
      have hz5 : W.heap.size ≤ w5.heap.size := Nat.le_trans HPZ.out hb5.size
      have k0 := B5.cell 0; have k1 := B5.cell 1; have kz := B5.lt
      simp at k0 k1
      rw [← hw5]
      clear hw5 hb5 B5 e0 e1
      obtain ⟨fn, tmps, assign, body, hy, hR⟩ := HY.out _ _ g w5 HJ5.out hz5 HPX.out
      dsimp only [encA] at hy
      have HRR := hidE hR
      clear hR
      refine (wpIn_wide (n := 0)).1 ?_
      gi_wp2
      refine ⟨rfl, HRR.out.mono ?_⟩
      clear hy HRR
      rintro e W' (⟨rfl, g', hJ', hO, _, _⟩ | ⟨rfl, hJx'⟩)
      · gi_wp2
        go_wp2
        go_roundg (n - (k + 1))
        case measure => have := HG.out; omega
        case rel => exact ⟨k + 1, g', Nat.le_refl _, by omega, by go_num, by rw [HS.out]; exact hJ', Nat.le_trans hz5 hO.size⟩
      · gi_wp2
        go_wp2
        refine bodyPost_ret (results_none rfl _ _ _) rfl ?_
        exact ⟨⟨_, rfl⟩, .inr ⟨_, HPX.out, hJx'⟩⟩
    · have d1 : decide ((k : Int) < (n : Int)) = false := decide_eq_false (by omega)
      have d1' : decide (k < n) = false := decide_eq_false hlt
      have HP2 := hidE (show k = n by omega)
      go_wp2
      go_end0
      exact ⟨⟨_, rfl⟩, .inl ⟨g, by rw [← HP2.out]; exact HJ1.out⟩⟩
set_option maxRecDepth 100000 in
set_option maxHeartbeats 4000000 in
theorem backIt_c (L : List Wn) (p : Nat) (a : Option Addr) (n cap n0 : Nat) (w : World) (hn : n = L.length) (hl : L.length ≤ 1000000) :
    SeqX Try.prog 65 #[] #[.pointer (some ⟨p, 0, none⟩)] encA n0 (fun W => Blk W p #[.slice a n cap] 31 ∧ ArgVs W a L) (mapK (bkF L) n) w := by
  intro l J Jx W hW hJ hJg hJK hJx hY h0
  have H0 := hidE h0; have HK := hidE hJK; have HY := hidE hY; have HJ := hidE hJ; have HJG := hidE hJg
  have HN := hidE hn
  have hnl : n ≤ 1000000 := by omega
  clear hJ hJg hJx hY h0 hW hJK hn
  show Calls Try.prog 65 #[.func (.yield l) #[] #[], .pointer (some ⟨p, 0, none⟩)] W _
  obtain ⟨B0, _⟩ := HK.out _ _ _ H0.out
  have b0 := B0.cell 0; have bz := B0.lt
  simp at b0
  clear B0
  have w1 : IntKind.i64.wrap ((n : Int) - 1) = (n : Int) - 1 := IntWalk.i64_in _ (by omega)
  go_enter Try.func65, Try.ntmps65
  go_wp2
  clear b0 bz w1
  go_loopg [3] n (fun gh v3 wr => ∃ (k : Nat) (g : Option (Nat × Nat)), n - k ≤ gh ∧ k ≤ n ∧ v3 = .int .i64 ((n : Int) - 1 - k) ∧ J (mapK (bkF L) k) g wr ∧ W.heap.size ≤ wr.heap.size)
  case atStart => exact ⟨0, none, Nat.sub_le _ _, Nat.zero_le _, by simp, H0.out, Nat.le_refl _⟩
  case round =>
    obtain ⟨k, g, hgh, hk, rfl, hJ1, hpz⟩ := hrel
    have HJ1 := hidE hJ1; have HG := hidE hgh; have HPZ := hidE hpz
    clear hJ1 hgh hpz
    by_cases hlt : k < n
    · obtain ⟨j, hj⟩ : ∃ j, j = n - 1 - k := ⟨_, rfl⟩
      have ej : (n : Int) - 1 - (k : Int) = (j : Int) := by omega
      have HEJ := hidE ej; have HJE := hidE hj
      rw [ej]
      have hjn : j < n := by omega
      clear ej hj
      have d1 : decide ((0 : Int) ≤ (j : Int)) = true := decide_eq_true (by omega)
      obtain ⟨B1, hA⟩ := HK.out _ _ _ HJ1.out
      have hkL : j < L.length := by have := HN.out; omega
      obtain ⟨b, off, rfl, hbz, hc⟩ := hA (by omega)
      obtain ⟨e0, e1⟩ := hc j hkL
      have b0 := B1.cell 0; have bz := B1.lt
      simp at b0
      have HS := hidE (mapK_succ (bkF L) k)
      have hF : bkF L k = (j, L.getD j (0, 0)) := by unfold bkF; rw [← HN.out, HJE.out]
      rw [hF] at HS
      generalize L.getD j (0, 0) = x at *
      obtain ⟨x0, x1⟩ := x
      simp only at e0 e1
      clear hc hA hF hkL B1
      have HPX := hidE (show mapK (bkF L) k ++ [(j, (x0, x1))] <+: mapK (bkF L) n from by rw [← HS.out]; exact mapK_pre _ (by omega))
      have hw : IntKind.i64.wrap ((j : Int) - 1) = (j : Int) - 1 := IntWalk.i64_in _ (by omega)
      obtain ⟨fn, tmps, assign, body, hy, hR⟩ := HY.out _ _ g wr HJ1.out HPZ.out HPX.out
      dsimp only [encA] at hy
      have HRR := hidE hR
      clear hR
      go_upto_region 3 with fail
      refine (wpIn_wide (n := 0)).1 ?_
      gi_wp2
      refine ⟨rfl, HRR.out.mono ?_⟩
      clear hy HRR
      rintro e W' (⟨rfl, g', hJ', hO, _, _⟩ | ⟨rfl, hJx'⟩)
      · gi_wp2
        go_wp2
        go_roundg (n - (k + 1))
        case measure => have := HG.out; omega
        case rel => exact ⟨k + 1, g', Nat.le_refl _, by omega, by first | (rw [show (n : Int) - 1 - ((k + 1 : Nat) : Int) = (j : Int) - 1 by have := HEJ.out; omega]) | (have := HEJ.out; congr 1; omega), by rw [HS.out]; exact hJ', Nat.le_trans HPZ.out hO.size⟩
      · gi_wp2
        go_wp2
        refine bodyPost_ret (results_none rfl _ _ _) rfl ?_
        exact ⟨⟨_, rfl⟩, .inr ⟨_, HPX.out, hJx'⟩⟩
    · have HP2 := hidE (show k = n by omega)
      have e1 : (n : Int) - 1 - (k : Int) = -1 := by omega
      rw [e1]
      clear e1
      go_wp2
      go_end0
      exact ⟨⟨_, rfl⟩, .inl ⟨g, by rw [← HP2.out]; exact HJ1.out⟩⟩
end Go.Proofs.Ytgflbidagdcfmaa

namespace Go.Proofs.Ytgflbidagdcfmaa
open Go.ChangeShapes Go.WideShapes Go.ChangeAt Go.RowKit
attribute [local irreducible] Go.Calls

set_option maxHeartbeats 1000000 in
theorem scan_c (l : List Sg) (a : Option Addr) (cap : Nat) (t : Int) (w : World) (hl : l.length ≤ 9223372036854775807) (hA : ArgS w a l) :
    Calls Try.prog 71 #[.slice a l.length cap, .int .i64 t] w (RetN w fun n => n ≤ l.length ∧ (n = 0 ∨ ats l (n - 1) ≤ t) ∧ ∀ i, n ≤ i → i < l.length → t < ats l i) := by
  have HA := hidE hA; clear hA
  go_enter Try.func71, Try.ntmps71
  go_wp2
  go_loop [5] (fun i => ∃ n : Nat, n ≤ l.length ∧ i = .int .i64 n ∧ ∀ i, n ≤ i → i < l.length → t < ats l i) (fun i => (intOf i).toNat)
  case atStart => exact ⟨l.length, Nat.le_refl _, rfl, fun i h1 h2 => by omega⟩
  case round =>
    obtain ⟨n, hn, rfl, h2⟩ := hrel
    have H2 := hidE h2; clear h2
    by_cases h0 : n = 0
    · subst h0
      go_wp2
      go_ret
      exact ⟨0, rfl, ⟨hn, .inl rfl, H2.out⟩, Below.refl _ _⟩
    · obtain ⟨k, rfl⟩ : ∃ k, n = k + 1 := ⟨n - 1, by omega⟩
      obtain ⟨b, off, rfl, hb, hc⟩ := HA.out (by omega)
      obtain ⟨c0, c1, c2⟩ := hc.get (i := k) (by omega)
      clear hc HA
      by_cases hgt : t < ats l k
      · have HX := hidE (show ∀ i, k ≤ i → i < l.length → t < ats l i from fun i h1 h2 => by
          by_cases e : i = k
          · rw [e]; exact hgt
          · exact H2.out i (by omega) h2)
        generalize ats l k = u at *
        go_wp2
        go_round
        case rel => exact ⟨k, by omega, by go_num, HX.out⟩
        case measure => simp [intOf]
      · have HX := hidE (show ats l (k + 1 - 1) ≤ t by rw [Nat.add_sub_cancel]; omega)
        generalize ats l k = u at *
        go_wp2
        go_ret
        exact ⟨k + 1, by go_num, ⟨hn, .inr HX.out, H2.out⟩, Below.refl _ _⟩

set_option maxHeartbeats 1000000 in
theorem sorted_c (l : List Sg) (a : Option Addr) (cap : Nat) (w : World) (hl : l.length ≤ 9223372036854775807) (hA : ArgS w a l) :
    Calls Try.prog 69 #[.slice a l.length cap, .func (.func 70) #[] #[]] w (RetB w fun r => r = true → Asc l) := by
  have HA := hidE hA; clear hA
  go_enter Try.func69, Try.ntmps69
  go_wp2
  go_loopg [5] l.length (fun g vi wr => ∃ n : Nat, n ≤ l.length ∧ n ≤ g ∧ vi = .int .i64 ((n : Int) - 1) ∧ (∀ i, n ≤ i + 1 → i + 1 < l.length → ats l i ≤ ats l (i + 1)) ∧ Below w.heap.size w wr)
  case atStart => exact ⟨l.length, Nat.le_refl _, Nat.le_refl _, rfl, fun i h1 h2 => by omega, Below.refl _ _⟩
  case round =>
    obtain ⟨n, hn, hg, rfl, h2, hb⟩ := hrel
    have H2 := hidE h2; have HB := hidE hb; clear h2 hb
    by_cases h0 : n ≤ 1
    · have hz : ¬ (0 : Int) < (n : Int) - 1 := by omega
      have hz' : ¬ (1 : Int) < (n : Int) := by omega
      go_wp2
      go_ret
      exact ⟨true, rfl, fun _ i h => H2.out i (by omega) h, HB.out⟩
    · obtain ⟨k, rfl⟩ : ∃ k, n = k + 2 := ⟨n - 2, by omega⟩
      obtain ⟨b, off, rfl, hb, hc⟩ := (HA.out.past HB.out) (by omega)
      obtain ⟨c0, c1, c2⟩ := hc.get (i := k) (by omega)
      obtain ⟨d0, d1, d2⟩ := hc.get (i := k + 1) (by omega)
      clear hc
      have e1 : (k : Int) + 2 - 1 = (k : Int) + 1 := by omega
      have z : b < wr.heap.size := hb
      by_cases hlt : ats l (k + 1) < ats l k
      · have hd : decide (cmpI (ats l (k + 1)) (ats l k) < 0) = true := by rw [cmpI_neg]; exact decide_eq_true hlt
        generalize ats l k = u at *
        generalize ats l (k + 1) = v at *
        go_wp2
        try simp only [e1]
        refine wp_region_past_lit (by kernel_rfl) (by kernel_rfl) ?_
        have hc := Past.cell (W := wr)
        repeat (go_big_quiet_step ((go_at_call 70; exact Past.call _ (byAt_c _ _ _ _ _ _ _))))
        refine wpQuiet_nil ?_
        rintro _ ⟨x', rfl⟩
        go_wp2
        go_ret
        exact ⟨false, rfl, (fun h => by cases h), bstep x'.2 HB.out⟩
      · have hd : decide (cmpI (ats l (k + 1)) (ats l k) < 0) = false := by rw [cmpI_neg]; exact decide_eq_false hlt
        have HX := hidE (show ∀ i, k + 1 ≤ i + 1 → i + 1 < l.length → ats l i ≤ ats l (i + 1) from fun i h1 h2 => by
          by_cases e : i = k
          · rw [e]; omega
          · exact H2.out i (by omega) h2)
        generalize ats l k = u at *
        generalize ats l (k + 1) = v at *
        go_wp2
        try simp only [e1]
        refine wp_region_past_lit (by kernel_rfl) (by kernel_rfl) ?_
        have hc := Past.cell (W := wr)
        repeat (go_big_quiet_step ((go_at_call 70; exact Past.call _ (byAt_c _ _ _ _ _ _ _))))
        refine wpQuiet_nil ?_
        rintro _ ⟨x', rfl⟩
        go_wp2
        go_roundg (k + 1)
        case measure => omega
        case rel => exact ⟨k + 1, by omega, Nat.le_refl _, by go_num, HX.out, bstep x'.2 HB.out⟩

set_option maxHeartbeats 1000000 in
theorem search_c (l : List Sg) (a : Option Addr) (cap : Nat) (t : Int) (w : World) (hl : l.length ≤ 9223372036854775807) (hA : ArgS w a l) :
    Calls Try.prog 68 #[.slice a l.length cap, .int .i64 t] w (RetN w fun n => n ≤ l.length ∧ Found l t n) := by
  have HA := hidE hA; clear hA
  go_enter Try.func68, Try.ntmps68
  go_wp2
  refine wp_scope_jumps 0 (fun a' w' => w' = w ∧ ∃ (lo hi : Nat) (u7 u8 u9 u10 u11 u12 u13 u14 u15 u16 u17 u18 u19 u20 u21 u22 u23 u24 u25 u26 u27 u28 u29 : Value), a' = { tmps := #[.slice a l.length cap, .int .i64 t, undef, undef, .int .i64 0, .int .i64 lo, .int .i64 hi, u7, u8, u9, u10, u11, u12, u13, u14, u15, u16, u17, u18, u19, u20, u21, u22, u23, u24, u25, u26, u27, u28, u29], defers := [] } ∧ lo ≤ hi ∧ hi ≤ l.length ∧ (lo = 0 ∨ ats l (lo - 1) ≤ t) ∧ (hi = l.length ∨ t < ats l hi)) (fun a' _ => (intOf (a'.tmps.getD 6 undef) - intOf (a'.tmps.getD 5 undef)).toNat) rfl ?_ ?_
  · by_cases hlt : l.length = 0
    · have e1 : ((0 : Int) == (l.length : Int)) = true := beq_iff_eq.2 (by omega)
      go_wp2
      go_step3
      go_wp2
      simp only [Exit.jump]
      go_ret
      exact ⟨0, rfl, ⟨Nat.zero_le _, .inl rfl, .inl (by omega)⟩, Below.refl _ _⟩
    · have e1 : ((0 : Int) == (l.length : Int)) = false := beq_eq_false_iff_ne.2 (by omega)
      obtain ⟨q, eq⟩ : ∃ q : Nat, (l.length : Int) / 2 = (q : Int) := ⟨l.length / 2, by omega⟩
      have b1 : 0 ≤ q := by omega
      have b2 : q < l.length := by omega
      have EM := hidE eq
      obtain ⟨b, off, rfl, hb, hc⟩ := HA.out (by omega)
      obtain ⟨c0, c1, c2⟩ := hc.get (i := q) (by omega)
      clear hc eq c1 c2
      by_cases hle : ats l q ≤ t
      · have HX := hidE hle
        generalize hu : ats l q = u at *
        have HU := hidE hu
        clear hu
        go_wp2
        go_step3
        go_upto_region 5 with fail
        simp only [EM.out]
        go_wp2
        go_step3
        exact ⟨rfl, ⟨rfl, q + 1, l.length, _, _, _, _, _, _, _, _, _, _, _, _, _, _, _, _, _, _, _, _, _, _, _, (by go_num), by omega, by omega, .inr (by rw [Nat.add_sub_cancel, HU.out]; exact HX.out), (.inl rfl)⟩⟩
      · have HX := hidE hle
        generalize hu : ats l q = u at *
        have HU := hidE hu
        clear hu
        go_wp2
        go_step3
        go_upto_region 5 with fail
        simp only [EM.out]
        go_wp2
        go_step3
        exact ⟨rfl, ⟨rfl, 0, q, _, _, _, _, _, _, _, _, _, _, _, _, _, _, _, _, _, _, _, _, _, _, _, rfl, by omega, by omega, (.inl rfl), .inr (by rw [HU.out]; have := HX.out; omega)⟩⟩
  · rintro a' w' ⟨rfl, lo, hi, u7, u8, u9, u10, u11, u12, u13, u14, u15, u16, u17, u18, u19, u20, u21, u22, u23, u24, u25, u26, u27, u28, u29, rfl, h1, h2, h3, h4⟩
    have H3 := hidE h3; have H4 := hidE h4; clear h3 h4
    by_cases hlt : lo = hi
    · subst hlt
      have e1 : ((lo : Int) == (lo : Int)) = true := beq_self_eq_true _
      go_wp2
      simp only [Exit.jump]
      go_ret
      exact ⟨lo, rfl, ⟨h2, H3.out, H4.out⟩, Below.refl _ _⟩
    · have e1 : ((lo : Int) == (hi : Int)) = false := beq_eq_false_iff_ne.2 (by omega)
      obtain ⟨q, eq⟩ : ∃ q : Nat, (lo : Int) + ((hi : Int) - (lo : Int)) / 2 = (q : Int) := ⟨lo + (hi - lo) / 2, by omega⟩
      have b1 : lo ≤ q := by omega
      have b2 : q < hi := by omega
      have EM := hidE eq
      obtain ⟨b, off, rfl, hb, hc⟩ := HA.out (by omega)
      obtain ⟨c0, c1, c2⟩ := hc.get (i := q) (by omega)
      clear hc eq c1 c2
      by_cases hle : ats l q ≤ t
      · have HX := hidE hle
        generalize hu : ats l q = u at *
        have HU := hidE hu
        clear hu
        go_upto_region 5 with fail
        simp only [EM.out]
        go_wp2
        go_step3
        exact ⟨rfl, ⟨rfl, q + 1, hi, _, _, _, _, _, _, _, _, _, _, _, _, _, _, _, _, _, _, _, _, _, _, _, (by go_num), by omega, by omega, .inr (by rw [Nat.add_sub_cancel, HU.out]; exact HX.out), H4.out⟩, by simp [intOf]; omega⟩
      · have HX := hidE hle
        generalize hu : ats l q = u at *
        have HU := hidE hu
        clear hu
        go_upto_region 5 with fail
        simp only [EM.out]
        go_wp2
        go_step3
        exact ⟨rfl, ⟨rfl, lo, q, _, _, _, _, _, _, _, _, _, _, _, _, _, _, _, _, _, _, _, _, _, _, _, rfl, by omega, by omega, H3.out, .inr (by rw [HU.out]; have := HX.out; omega)⟩, by simp [intOf]; omega⟩
end Go.Proofs.Ytgflbidagdcfmaa

namespace Go.Proofs.Ytgflbidagdcfmaa
open Go.ChangeShapes Go.WideShapes Go.ChangeAt Go.RowKit
attribute [local irreducible] Go.Calls

/-- The end of At, from where the number of runs up to the time is known. -/
theorem at_tail_eq {l : List Sg} {t : Int} {n : Nat} (hv : vat l t = if n = 0 then (0, 0) else vls l (n - 1)) (h0 : n = 0) : V 0 0 = V (vat l t).1 (vat l t).2 := by rw [hv, if_pos h0]
theorem at_tail_ne {l : List Sg} {t : Int} {n : Nat} (hv : vat l t = if n = 0 then (0, 0) else vls l (n - 1)) (h0 : n ≠ 0) : V (vls l (n - 1)).1 (vls l (n - 1)).2 = V (vat l t).1 (vat l t).2 := by rw [hv, if_neg h0]
set_option maxHeartbeats 1000000 in
theorem at_c (l : List Sg) (a : Option Addr) (cap : Nat) (t : Int) (w : World) (hl : l.length ≤ 9223372036854775807) (hA : ArgS w a l) :
    Calls Try.prog 48 #[.slice a l.length cap, .int .i64 t] w fun e w' => e = .returned (V (vat l t).1 (vat l t).2) ∧ Below w.heap.size w w' := by
  have HA := hidE hA; clear hA
  go_enter Try.func48, Try.ntmps48
  go_wp2_with fail
  ((with_reducible refine (search_c l a cap t _ hl (HA.out.past (by (repeat (first | exact Below.refl _ _ | assumption | refine balloc ?_ _ | refine below_drewN ?_ _ | refine bstep (by assumption) ?_ | refine bstep (Past.prop _) ?_ | refine Below.setCell ?_ (by first | exact Nat.le_refl _ | (simp; done) | (simp; omega)) _))))).mono ?_); rintro e w1 ⟨n, rfl, ⟨hn, hf⟩, hb1⟩)
  have HF := hidE hf; clear hf
  have hb1' : Below w.heap.size w w1 := by (repeat (first | exact Below.refl _ _ | assumption | refine balloc ?_ _ | refine below_drewN ?_ _ | refine bstep (by assumption) ?_ | refine bstep (Past.prop _) ?_ | refine Below.setCell ?_ (by first | exact Nat.le_refl _ | (simp; done) | (simp; omega)) _))
  have B1 : Blk w1 w.heap.size #[.int .i64 0, .int .i64 0] 36 := (Blk.made _ _ _).past hb1
  have HB1 := hidE hb1'; clear hb1 hb1'
  go_wp2_with fail
  ((with_reducible refine (sorted_c l a cap _ hl (HA.out.past HB1.out)).mono ?_); rintro e w2 ⟨r, rfl, hr, hb2⟩)
  have HR := hidE hr; clear hr
  have hb2' : Below w.heap.size w w2 := by have := HB1.out; (repeat (first | exact Below.refl _ _ | assumption | refine balloc ?_ _ | refine below_drewN ?_ _ | refine bstep (by assumption) ?_ | refine bstep (Past.prop _) ?_ | refine Below.setCell ?_ (by first | exact Nat.le_refl _ | (simp; done) | (simp; omega)) _))
  have B := B1.past hb2
  have HB := hidE hb2'; clear hb2 hb2' HB1 B1
  cases r
  · go_wp2_with fail
    ((with_reducible refine (scan_c l a cap t _ hl (HA.out.past HB.out)).mono ?_); rintro e w3 ⟨m, rfl, ⟨hm, h1, h2⟩, hb3⟩)
    have HV := hidE (vat_of hm h1 h2)
    have hb3' : Below w.heap.size w w3 := by have := HB.out; (repeat (first | exact Below.refl _ _ | assumption | refine balloc ?_ _ | refine below_drewN ?_ _ | refine bstep (by assumption) ?_ | refine bstep (Past.prop _) ?_ | refine Below.setCell ?_ (by first | exact Nat.le_refl _ | (simp; done) | (simp; omega)) _))
    have B := B.past hb3
    clear HF HB h1 h2 hb3 hn
    have HB := hidE hb3'; clear hb3'
    obtain ⟨n, rfl⟩ : ∃ n' : Nat, n' = m := ⟨m, rfl⟩
    have hn := hm; clear hm
    obtain ⟨w2, rfl⟩ : ∃ w' : World, w' = w3 := ⟨w3, rfl⟩

    by_cases h0 : n = 0
    · have HT := hidE (at_tail_eq HV.out h0)
      have e1 : ((n : Int) == 0) = true := beq_iff_eq.2 (by omega)
      have g0 := B.cell 0; have g1 := B.cell 1; have gf := B.free; have gz := B.lt
      simp at g0 g1
      clear h0
      go_wp2_with fail
      have B1 := (B.set 0 (.int .i64 0)).set 1 (.int .i64 0)
      have q0 := B1.cell 0; have q1 := B1.cell 1
      simp at q0 q1
      refine bodyPost_ret (v := V 0 0) (by simp [results, Try.results48, go_sem, q0, q1]) rfl ⟨ret_v HT.out, ?_⟩
      have hbb := HB.out
      (repeat (first | exact Below.refl _ _ | assumption | refine balloc ?_ _ | refine below_drewN ?_ _ | refine bstep (by assumption) ?_ | refine bstep (Past.prop _) ?_ | refine Below.setCell ?_ (by first | exact Nat.le_refl _ | (simp; done) | (simp; omega)) _))
    · obtain ⟨k, rfl⟩ : ∃ k, n = k + 1 := ⟨n - 1, by omega⟩
      have e1 : ((k : Int) + 1 == 0) = false := beq_eq_false_iff_ne.2 (by omega)
      obtain ⟨b, off, rfl, hb, hc⟩ := HA.out (by omega)
      obtain ⟨c0, c1, c2⟩ := (hc.below HB.out hb).get (i := k) (by omega)
      have hz : b < w2.heap.size := Nat.lt_of_lt_of_le hb HB.out.size
      have HT := hidE (at_tail_ne HV.out (by omega))
      rw [Nat.add_sub_cancel] at HT
      have g0 := B.cell 0; have g1 := B.cell 1; have gf := B.free; have gz := B.lt
      simp at g0 g1
      clear hc c0
      generalize vls l k = v at *
      have hne : b ≠ w.heap.size := by omega
      go_wp2_with fail
      have B1 := (B.set 0 (.int .i64 v.1)).set 1 (.int .i64 v.2)
      have q0 := B1.cell 0; have q1 := B1.cell 1
      simp at q0 q1
      refine bodyPost_ret (v := V v.1 v.2) (by simp [results, Try.results48, go_sem, q0, q1]) rfl ⟨ret_v HT.out, ?_⟩
      have hbb := HB.out
      (repeat (first | exact Below.refl _ _ | assumption | refine balloc ?_ _ | refine below_drewN ?_ _ | refine bstep (by assumption) ?_ | refine bstep (Past.prop _) ?_ | refine Below.setCell ?_ (by first | exact Nat.le_refl _ | (simp; done) | (simp; omega)) _))

  · have HV := hidE (HF.out.vat hn (HR.out rfl))
    clear HF

    by_cases h0 : n = 0
    · have HT := hidE (at_tail_eq HV.out h0)
      have e1 : ((n : Int) == 0) = true := beq_iff_eq.2 (by omega)
      have g0 := B.cell 0; have g1 := B.cell 1; have gf := B.free; have gz := B.lt
      simp at g0 g1
      clear h0
      go_wp2_with fail
      have B1 := (B.set 0 (.int .i64 0)).set 1 (.int .i64 0)
      have q0 := B1.cell 0; have q1 := B1.cell 1
      simp at q0 q1
      refine bodyPost_ret (v := V 0 0) (by simp [results, Try.results48, go_sem, q0, q1]) rfl ⟨ret_v HT.out, ?_⟩
      have hbb := HB.out
      (repeat (first | exact Below.refl _ _ | assumption | refine balloc ?_ _ | refine below_drewN ?_ _ | refine bstep (by assumption) ?_ | refine bstep (Past.prop _) ?_ | refine Below.setCell ?_ (by first | exact Nat.le_refl _ | (simp; done) | (simp; omega)) _))
    · obtain ⟨k, rfl⟩ : ∃ k, n = k + 1 := ⟨n - 1, by omega⟩
      have e1 : ((k : Int) + 1 == 0) = false := beq_eq_false_iff_ne.2 (by omega)
      obtain ⟨b, off, rfl, hb, hc⟩ := HA.out (by omega)
      obtain ⟨c0, c1, c2⟩ := (hc.below HB.out hb).get (i := k) (by omega)
      have hz : b < w2.heap.size := Nat.lt_of_lt_of_le hb HB.out.size
      have HT := hidE (at_tail_ne HV.out (by omega))
      rw [Nat.add_sub_cancel] at HT
      have g0 := B.cell 0; have g1 := B.cell 1; have gf := B.free; have gz := B.lt
      simp at g0 g1
      clear hc c0
      generalize vls l k = v at *
      have hne : b ≠ w.heap.size := by omega
      go_wp2_with fail
      have B1 := (B.set 0 (.int .i64 v.1)).set 1 (.int .i64 v.2)
      have q0 := B1.cell 0; have q1 := B1.cell 1
      simp at q0 q1
      refine bodyPost_ret (v := V v.1 v.2) (by simp [results, Try.results48, go_sem, q0, q1]) rfl ⟨ret_v HT.out, ?_⟩
      have hbb := HB.out
      (repeat (first | exact Below.refl _ _ | assumption | refine balloc ?_ _ | refine below_drewN ?_ _ | refine bstep (by assumption) ?_ | refine bstep (Past.prop _) ?_ | refine Below.setCell ?_ (by first | exact Nat.le_refl _ | (simp; done) | (simp; omega)) _))

end Go.Proofs.Ytgflbidagdcfmaa

namespace Go.Proofs.Ytgflbidagdcfmaa
open Go.ChangeShapes Go.WideShapes Go.ChangeAt Go.RowKit
attribute [local irreducible] Go.Calls

theorem mid_take {F : List Sg} {a b : Int} {k : Nat} (h : k < F.length) : midR (F.take (k + 1)) a b = midR (F.take k) a b ++ (if decide (a < (F.getD k (0, 0, 0)).1) && decide ((F.getD k (0, 0, 0)).1 < b) then [F.getD k (0, 0, 0)] else []) := by
  unfold midR
  rw [List.take_succ_eq_append_getElem h, List.filter_append, getD_get _ _ _ h]
  congr 1
  simp only [List.filter_cons, List.filter_nil]
theorem mid_no {F : List Sg} {a b x m c : Int} {k : Nat} (h : midR (F.take (k + 1)) a b = midR (F.take k) a b ++ (if decide (a < x) && decide (x < b) then [(x, m, c)] else [])) (hn : ¬ (a < x ∧ x < b)) : midR (F.take (k + 1)) a b = midR (F.take k) a b := by
  rw [h, if_neg (by simp; omega), List.append_nil]
theorem mid_yes {F : List Sg} {a b x m c : Int} {k : Nat} (h : midR (F.take (k + 1)) a b = midR (F.take k) a b ++ (if decide (a < x) && decide (x < b) then [(x, m, c)] else [])) (h1 : a < x) (h2 : x < b) : midR (F.take (k + 1)) a b = midR (F.take k) a b ++ [(x, m, c)] := by
  rw [h, if_pos (by simp [h1, h2])]
theorem newS_at (w : World) (cs : Array Value) (t : TypeId) (k : Nat) (h : k = w.heap.size) : ∀ j u, cs.toList[j]? = some u → (w.alloc (.cells cs t)).cell? ((⟨k, 0, none⟩ : Addr).add j) = some u := by
  subst h
  exact new_cells w cs t
set_option maxRecDepth 100000 in
set_option maxHeartbeats 16000000 in
theorem within_c (F : List Sg) (a b : Int) (f : Option Addr) (cap : Nat) (w : World) (hl : F.length ≤ 1000000) (hA : ArgS w f F) :
    Calls Try.prog 22 #[.slice f F.length cap, V a b] w fun e w' => ∃ v, e = .returned v ∧ w'.ownsRow w.heap.size 56 3 v (runsR F a b).length (cellsOfS (runsR F a b)) ∧ Below w.heap.size w w' := by
  have HA := hidE hA
  have HAT := hidE (fun w hA => at_c F f cap a w (by omega) hA)
  clear hA
  obtain ⟨p, hp⟩ : ∃ p, p = w.heap.size := ⟨_, rfl⟩
  go_enter Try.func22, Try.ntmps22
  go_upto_region 1 with fail
  obtain ⟨w0, hw0⟩ : ∃ w0, w0 = w.alloc (Obj.cells #[.int .i64 a, .int .i64 b] 24) := ⟨_, rfl⟩
  have B0 : Blk w0 p #[.int .i64 a, .int .i64 b] 24 := by rw [hw0, hp]; exact Blk.made _ _ _
  have hb0 : Below w.heap.size w w0 := by rw [hw0]; (repeat (first | exact Below.refl _ _ | assumption | refine balloc ?_ _ | refine below_drewN ?_ _ | refine bstep (by assumption) ?_ | refine bstep (Past.prop _) ?_ | refine Below.setCell ?_ (by first | exact Nat.le_refl _ | (simp; done) | (simp; omega)) _))
  rw [← hw0, ← hp]
  have HP := hidE hp; have HB0 := hidE hb0; have HB := hidE B0
  have HAT0 := hidE (fun (x : Past w0) => HAT.out x.1 (HA.out.past (hb0.trans (x.2.mono hb0.size))))
  clear hw0 hp hb0 HAT
  have p0 := B0.cell 0; have p1 := B0.cell 1; have pz := B0.lt
  simp at p0 p1
  clear B0
  have HV := hidE (show ∃ v, v = vat F a from ⟨_, rfl⟩)
  obtain ⟨va, hva⟩ := HV.out
  rw [← hva] at HAT0
  have HVA := hidE hva
  clear hva HV
  obtain ⟨m0, c0⟩ := va
  simp only at HAT0
  refine wp_region_J 8 [] (nthR [detR (.pointer (some ⟨p, 0, none⟩)), detR (.int .i64 a), detR (.slice f F.length cap), detR (.pointer (some ⟨p, 0, none⟩)), detR (.int .i64 a), detR (V m0 c0), detR (.agg #[.int .i64 a, .int .i64 m0, .int .i64 c0]), sliR w0.heap.size 1 #[.int .i64 a, .int .i64 m0, .int .i64 c0] 56]) (fun _ => false) (by kernel_rfl) (by decide) (by kernel_rfl) (stab_nth (by intro r hr; simp only [List.mem_cons, List.not_mem_nil, or_false] at hr; rcases hr with rfl | rfl | rfl | rfl | rfl | rfl | rfl | rfl <;> first | exact stab_det _ | exact stab_sli _ _ _ _)) ?_ ?_ ?_
  · intro i o hi ho
    match i, hi with
    | 0, _ =>
      obtain rfl := Option.some.inj ho
      intro u x hd
      have hc := Past.cell x
      simp [go_sem, gives, frm, Act.put, nthR, detR, Region.wanted, Below.refl]
    | 1, _ =>
      obtain rfl := Option.some.inj ho
      intro u x hd
      have hc := Past.cell x
      have d0 := hd 0 (by decide) (by kernel_rfl)
      simp only [nthR, detR, List.getD_cons_zero] at d0
      simp [go_sem, gives, frm, Act.put, nthR, detR, Region.wanted, Below.refl, hc, d0, p0, pz]
    | 2, _ =>
      obtain rfl := Option.some.inj ho
      intro u x hd
      have hc := Past.cell x
      simp [go_sem, gives, frm, Act.put, nthR, detR, Region.wanted, Below.refl]
    | 3, _ =>
      obtain rfl := Option.some.inj ho
      intro u x hd
      have hc := Past.cell x
      simp [go_sem, gives, frm, Act.put, nthR, detR, Region.wanted, Below.refl]
    | 4, _ =>
      obtain rfl := Option.some.inj ho
      intro u x hd
      have hc := Past.cell x
      have d3 := hd 3 (by decide) (by kernel_rfl)
      simp only [nthR, detR, List.getD_cons_zero, List.getD_cons_succ] at d3
      simp [go_sem, gives, frm, Act.put, nthR, detR, Region.wanted, Below.refl, hc, d3, p0, pz]
    | 5, _ =>
      obtain rfl := Option.some.inj ho
      intro u x hd
      have hc := Past.cell x
      have d2 := hd 2 (by decide) (by kernel_rfl)
      have d4 := hd 4 (by decide) (by kernel_rfl)
      simp only [nthR, detR, List.getD_cons_zero, List.getD_cons_succ] at d2 d4
      simp [go_sem, gives, frm, Act.put, nthR, Region.wanted, d2, d4]
      (with_reducible refine (HAT0.out x).mono ?_); rintro e w3 ⟨rfl, hb3⟩; exact ⟨_, rfl, hb3, rfl⟩
    | 6, _ =>
      obtain rfl := Option.some.inj ho
      intro u x hd
      have hc := Past.cell x
      have d1 := hd 1 (by decide) (by kernel_rfl)
      simp only [nthR, detR, List.getD_cons_zero, List.getD_cons_succ] at d1
      have d5 : u 5 = V m0 c0 := hd 5 (by decide) (by kernel_rfl)
      simp [go_sem, gives, frm, Act.put, nthR, Region.wanted, Below.refl, d1, d5, detR]
    | 7, _ =>
      obtain rfl := Option.some.inj ho
      intro u x hd
      have hc := Past.cell x
      have d6 : u 6 = .agg #[.int .i64 a, .int .i64 m0, .int .i64 c0] := hd 6 (by decide) (by kernel_rfl)
      simp [go_sem, gives, frm, Act.put, nthR, Region.wanted, d6]
      exact ⟨by (repeat (first | exact Below.refl _ _ | assumption | refine balloc ?_ _ | refine below_drewN ?_ _ | refine bstep (by assumption) ?_ | refine bstep (Past.prop _) ?_ | refine Below.setCell ?_ (by first | exact Nat.le_refl _ | (simp; done) | (simp; omega)) _)), ⟨_, rfl, (Past.prop x).size, Blk.made _ _ _⟩⟩
    | i + 8, h => exact absurd h (by omega)
  · intro i o hx ho
    simp at hx
  · intro u x9 hu hne
    obtain ⟨q, e7, hq, BQ⟩ : sliR w0.heap.size 1 #[.int .i64 a, .int .i64 m0, .int .i64 c0] 56 (u 7) x9.1 := hu 7 (by decide)
    have e0 : u 0 = .pointer (some ⟨p, 0, none⟩) := hu 0 (by decide)
    have e1 : u 1 = .int .i64 a := hu 1 (by decide)
    have e2 : u 2 = .slice f F.length cap := hu 2 (by decide)
    have e3 : u 3 = .pointer (some ⟨p, 0, none⟩) := hu 3 (by decide)
    have e4 : u 4 = .int .i64 a := hu 4 (by decide)
    have e5 : u 5 = V m0 c0 := hu 5 (by decide)
    have e6 : u 6 = .agg #[.int .i64 a, .int .i64 m0, .int .i64 c0] := hu 6 (by decide)
    simp only [frm, List.take, Act.put, e0, e1, e2, e3, e4, e5, e6, e7]
    obtain ⟨w1, hw1⟩ : ∃ w1, w1 = x9.1 := ⟨_, rfl⟩
    have hx9 := Past.prop x9
    rw [← hw1] at BQ hx9
    rw [← hw1]
    have HB1 := hidE (HB0.out.trans (hx9.mono HB0.out.size)); have HP1 := hidE (HB.out.past hx9)
    have hO : w1.ownsRow (p + 1) 56 3 (.slice (some ⟨q, 0, none⟩) 1 1) ([(a, (m0, c0))] : List Sg).length (cellsOfS [(a, (m0, c0))]) :=
      ⟨rfl, .inr ⟨q, 1, _, rfl, by have := hx9.size; omega, BQ, Nat.le_refl _, by unfold maxLen; omega, rfl, rfl⟩⟩
    have HO := hidE hO
    have hz1 : p + 1 ≤ w1.heap.size := by have := hx9.size; omega
    clear hw1 hx9 BQ hO e0 e1 e2 e3 e4 e5 e6 e7 hu hq HB HAT0 p0 p1 pz HB0
    obtain ⟨ix, hix, hz0, hz1', hz2⟩ := info_parts Try.infoSeg
    have HI := hidE hix; have HZ0 := hidE hz0; have HZ1 := hidE hz1'; have HZ2 := hidE hz2
    clear hix hz0 hz1' hz2
    go_wp2
    go_loopg [5, 18] F.length (fun gh v5 v18 wr => ∃ (k : Nat) (av : Option Addr) (cv : Nat), F.length - k ≤ gh ∧ k ≤ F.length ∧ v18 = .int .i64 k ∧ v5 = .slice av ((a, (m0, c0)) :: midR (F.take k) a b : List Sg).length cv ∧ wr.ownsRow (p + 1) 56 3 (.slice av ((a, (m0, c0)) :: midR (F.take k) a b : List Sg).length cv) ((a, (m0, c0)) :: midR (F.take k) a b : List Sg).length (cellsOfS ((a, (m0, c0)) :: midR (F.take k) a b)) ∧ Below (p + 1) w1 wr)
    case atStart => exact ⟨0, some ⟨q, 0, none⟩, 1, Nat.sub_le _ _, Nat.zero_le _, rfl, rfl, HO.out, Below.refl _ _⟩
    case round =>
      obtain ⟨k, av, cv, hgh, hk, rfl, rfl, ho, hb⟩ := hrel
      have HG := hidE hgh; have HOW := hidE ho; have HBW := hidE hb
      have P2 := HP1.out.below hb (by omega)
      have p0 := P2.cell 0; have p1 := P2.cell 1; have pz := P2.lt
      simp at p0 p1
      have hzr := hb.size
      have HML := hidE (show (midR (F.take k) a b).length ≤ k from Nat.le_trans (midR_len _ _ _) (by rw [List.length_take]; omega))
      obtain ⟨N, hN⟩ : ∃ N, N = ((a, (m0, c0)) :: midR (F.take k) a b : List Sg).length := ⟨_, rfl⟩
      have hNk : N ≤ k + 1 := by rw [hN, List.length_cons]; have := HML.out; omega
      rw [← hN] at HOW
      rw [← hN]
      have HN := hidE hN
      have HP2 := hidE P2
      clear hgh ho hb P2 hN
      by_cases hlt : k < F.length
      · obtain ⟨bb, off, rfl, hbz, hc⟩ := HA.out (by omega)
        have hbz1 : bb < p := by rw [HP.out]; exact hbz
        obtain ⟨e0, e1, e2⟩ := hc.get hlt
        have hbW : Below w.heap.size w wr := HB1.out.trans (HBW.out.mono (by have := HP.out; omega))
        rw [← hbW.cell hbz] at e0 e1 e2
        have hbr : bb < wr.heap.size := by omega
        have HT := hidE (mid_take (a := a) (b := b) hlt)
        unfold ats at e0; unfold vls at e1 e2
        generalize F.getD k (0, 0, 0) = s at *
        obtain ⟨x, y0, y1⟩ := s
        simp only at e0 e1 e2 HT
        clear hc hbW hbz
        by_cases h1 : a < x
        · have d1 : decide (a < x) = true := decide_eq_true h1
          by_cases h2 : x < b
          · have d2 : decide (x < b) = true := decide_eq_true h2
            have HY := hidE (mid_yes HT.out h1 h2)
            clear h1 h2 HT
            go_wp2_with (at_builtin; go_loud (refine wpList_append_own _ rfl (.tmp 34) (.tmp 36) 22 rfl (p + 1) 56 ix (.agg #[.int .i64 0, .int .i64 0, .int .i64 0]) 3 24 Try.underlying22 HI.out HZ0.out HZ1.out HZ2.out rfl (by decide) _ _ _ rfl ((HOW.out.alloc _).alloc _) ⟨_, 0, none⟩ 1 1 [.int .i64 x, .int .i64 y0, .int .i64 y1] rfl rfl (newS_at _ #[.int .i64 x, .int .i64 y0, .int .i64 y1] 56 _ (by simp)) (by intro z hz; simp at hz; rcases hz with rfl | rfl | rfl <;> rfl) (by unfold maxLen; omega) (by omega) (by simp; omega) ?_); intro v4 w4 hown4 hgrow4 _; obtain ⟨a4, c4, rfl⟩ := own_sli hown4)
            have HO4 := hidE hown4
            have HB4 := hidE (show Below (p + 1) w1 w4 from (Below.grown ((HBW.out.alloc (by omega) _).alloc (by simp; omega) _) hgrow4 (by simp; omega) (fun k e => own_block HOW.out e)))
            have HE := hidE (show N + 1 = ((a, (m0, c0)) :: midR (F.take (k + 1)) a b : List Sg).length by rw [HY.out, HN.out]; simp)
            have HE2 := hidE (show cellsOfS ((a, (m0, c0)) :: midR (F.take k) a b) ++ [.int .i64 x, .int .i64 y0, .int .i64 y1] = cellsOfS ((a, (m0, c0)) :: midR (F.take (k + 1)) a b) by
              rw [HY.out, ← List.cons_append, cellsOfS_app]; rfl)
            clear hown4 hgrow4 e0 e1 e2 p0 p1 pz
            go_wp2
            go_roundg (F.length - (k + 1))
            case measure => have := HG.out; omega
            case rel => exact ⟨k + 1, a4, c4, Nat.le_refl _, by omega, by go_num, by rw [← HE.out], by have := HO4.out; rw [HE2.out, HE.out] at this; exact this, HB4.out⟩
          · have d2 : decide (x < b) = false := decide_eq_false h2
            have HY := hidE (mid_no HT.out (fun h => h2 h.2))
            clear h1 h2 HT
            go_wp2
            go_roundg (F.length - (k + 1))
            case measure => have := HG.out; omega
            case rel => exact ⟨k + 1, av, cv, Nat.le_refl _, by omega, by go_num, by rw [HY.out, ← HN.out], by rw [HY.out, ← HN.out]; exact HOW.out.alloc _, HBW.out.alloc (by omega) _⟩
        · have d1 : decide (a < x) = false := decide_eq_false h1
          have HY := hidE (mid_no HT.out (fun h => h1 h.1))
          clear h1 HT
          go_wp2
          go_roundg (F.length - (k + 1))
          case measure => have := HG.out; omega
          case rel => exact ⟨k + 1, av, cv, Nat.le_refl _, by omega, by go_num, by rw [HY.out, ← HN.out], by rw [HY.out, ← HN.out]; exact HOW.out.alloc _, HBW.out.alloc (by omega) _⟩
      · have d3 : decide ((k : Int) < (F.length : Int)) = false := decide_eq_false (by omega)
        have d3' : decide (k < F.length) = false := decide_eq_false hlt
        have HT := hidE (show F.take k = F by rw [show k = F.length by omega, List.take_length])
        rw [HT.out] at HOW HN
        clear HT
        go_wp2_with (at_builtin; go_loud (refine wpList_append_own _ rfl (.tmp 39) (.tmp 43) 22 rfl (p + 1) 56 ix (.agg #[.int .i64 0, .int .i64 0, .int .i64 0]) 3 24 Try.underlying22 HI.out HZ0.out HZ1.out HZ2.out rfl (by decide) _ _ _ rfl (HOW.out.alloc _) ⟨_, 0, none⟩ 1 1 [.int .i64 b, .int .i64 0, .int .i64 0] rfl rfl (newS_at _ #[.int .i64 b, .int .i64 0, .int .i64 0] 56 _ (by simp)) (by intro z hz; simp at hz; rcases hz with rfl | rfl <;> rfl) (by unfold maxLen; omega) (by omega) (by simp; omega) ?_); intro v4 w4 hown4 hgrow4 _; obtain ⟨a4, c4, rfl⟩ := own_sli hown4)
        have HO4 := hidE hown4
        have HB4 := hidE (show Below (p + 1) w1 w4 from (Below.grown (HBW.out.alloc (by omega) _) hgrow4 (by simp; omega) (fun k e => own_block HOW.out e)))
        have HE := hidE (show N + 1 = (runsR F a b).length by rw [runsR_len, HN.out]; simp)
        have HE2 := hidE (show cellsOfS ((a, (m0, c0)) :: midR F a b) ++ [.int .i64 b, .int .i64 0, .int .i64 0] = cellsOfS (runsR F a b) by
          unfold runsR; rw [← HVA.out, cellsOfS_app]; rfl)
        clear hown4 hgrow4 p0 p1 pz
        go_wp2
        go_ret
        refine ⟨_, rfl, ?_, HB1.out.trans (HB4.out.mono (by have := HP.out; omega))⟩
        have h4 := HO4.out
        rw [HE2.out] at h4
        rw [← HE.out]
        obtain ⟨z1, z2 | ⟨g, cap', cur, z3, z4, z5⟩⟩ := h4
        · exact absurd z2.2 (by omega)
        · exact ⟨z1, .inr ⟨g, cap', cur, z3, by have := HP.out; omega, z5⟩⟩
end Go.Proofs.Ytgflbidagdcfmaa
