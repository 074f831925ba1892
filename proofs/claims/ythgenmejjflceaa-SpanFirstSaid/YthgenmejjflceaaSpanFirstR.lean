/- SpanFirst answers true for every list of runs, every time and width, and every two limits. No conditions but that the list lies within its capacity. SpanFirst, where no time is told. No conditions but that the list lies within its capacity. SpanFirst, where a time is told. No conditions but that the list lies within its capacity. SpanFirst answers true for every list of runs, every time and width, and every two limits. No conditions but that the list lies within its capacity. SpanFirst: for every list of runs, every time and width, and every two limits, the statement's function answers true and leaves its arguments alone. No conditions. -/
import Derived.Test.YthgenmejjflceaaKF
import Derived.Test.YthgenmejjflceaaKM
import Derived.Test.YthgenmejjflceaaKA
import Derived.Test.YthgenmejjflceaaKG
namespace Go.Proofs.Ythgenmejjflceaa
open Go.ChangeShapes Go.WideShapes Go.ChangeAt Go.RowKit
attribute [local irreducible] Go.Calls

set_option maxRecDepth 100000 in
theorem sfirst_many (k : Nat) (x n l1 l2 l3 l4 : Int) (a : Option Addr) (cap : Nat) (w : World) (h : 40 < k ∨ x < -1099511627776 ∨ 1099511627776 < x) :
    Calls Try.prog 7 #[.slice a k cap, .agg #[.int .i64 x, .int .i64 n], .agg #[.int .i64 l1, .int .i64 l2, .int .i64 l3, .int .i64 l4]] w fun e w' => e = .returned (.bool true) ∧ Below w.heap.size w w' := by
  by_cases h1 : 40 < k
  · have d1 : decide ((40 : Int) < (k : Int)) = true := decide_eq_true (by omega)
    go_enter Try.func7, Try.ntmps7
    go_wp2_with (go_at_call 9; ((with_reducible refine (shead_c _).mono ?_); rintro e w9 ⟨rfl, hb9⟩))
    go_ret
    exact ⟨rfl, by (repeat (first | exact Below.refl _ _ | assumption | refine balloc ?_ _ | refine below_drewN ?_ _ | refine bstep (by assumption) ?_ | refine bstep (Past.prop _) ?_ | refine Below.setCell ?_ (by first | exact Nat.le_refl _ | (simp; done) | (simp; omega)) _))⟩
  have d1 : decide ((40 : Int) < (k : Int)) = false := decide_eq_false (by omega)
  by_cases h2 : x < -1099511627776
  · have d2 : decide (x < -1099511627776) = true := decide_eq_true h2
    go_enter Try.func7, Try.ntmps7
    go_wp2_with (go_at_call 9; ((with_reducible refine (shead_c _).mono ?_); rintro e w9 ⟨rfl, hb9⟩))
    go_ret
    exact ⟨rfl, by (repeat (first | exact Below.refl _ _ | assumption | refine balloc ?_ _ | refine below_drewN ?_ _ | refine bstep (by assumption) ?_ | refine bstep (Past.prop _) ?_ | refine Below.setCell ?_ (by first | exact Nat.le_refl _ | (simp; done) | (simp; omega)) _))⟩
  have d2 : decide (x < -1099511627776) = false := decide_eq_false h2
  have d3 : decide (1099511627776 < x) = true := decide_eq_true (by omega)
  go_enter Try.func7, Try.ntmps7
  go_wp2_with (go_at_call 9; ((with_reducible refine (shead_c _).mono ?_); rintro e w9 ⟨rfl, hb9⟩))
  go_ret
  exact ⟨rfl, by (repeat (first | exact Below.refl _ _ | assumption | refine balloc ?_ _ | refine below_drewN ?_ _ | refine bstep (by assumption) ?_ | refine bstep (Past.prop _) ?_ | refine Below.setCell ?_ (by first | exact Nat.le_refl _ | (simp; done) | (simp; omega)) _))⟩
set_option maxRecDepth 100000 in
set_option maxHeartbeats 16000000 in
theorem sfirst_err (F : List Sg) (k : Nat) (x n l1 l2 l3 l4 : Int) (a : Option Addr) (cap : Nat) (w : World) (S1 : SliS w (.slice a k cap) F) (hk : k ≤ 40) (hx : -1099511627776 ≤ x ∧ x ≤ 1099511627776)
    (t : Int) (e : Int) (hD : overS F x n (l1, l2) = (t, false, e)) (he : e ≠ 0) (ht : t = 0) :
    Calls Try.prog 7 #[.slice a k cap, .agg #[.int .i64 x, .int .i64 n], .agg #[.int .i64 l1, .int .i64 l2, .int .i64 l3, .int .i64 l4]] w fun e w' => e = .returned (.bool true) ∧ Below w.heap.size w w' := by
  have d1 : decide ((40 : Int) < (k : Int)) = false := decide_eq_false (by omega)
  have d2 : decide (x < -1099511627776) = false := decide_eq_false (by omega)
  have d3 : decide (1099511627776 < x) = false := decide_eq_false (by omega)
  have HD := hidE hD
  clear hD
  subst ht
  obtain ⟨w0, hw0⟩ : ∃ w0, w0 = (w.alloc (Obj.cells #[.int .i64 x, .int .i64 n] 32)).alloc (Obj.cells #[.int .i64 l1, .int .i64 l2, .int .i64 l3, .int .i64 l4] 52) := ⟨_, rfl⟩
  have B1 : Blk w0 w.heap.size #[.int .i64 x, .int .i64 n] 32 := by rw [hw0]; exact (Blk.made _ _ _).alloc _
  have B2 : Blk w0 (w.heap.size + 1) #[.int .i64 l1, .int .i64 l2, .int .i64 l3, .int .i64 l4] 52 := by rw [hw0]; exact Blk.made_at _ _ _ _ (by simp)
  have hb0 : Below w.heap.size w w0 := by rw [hw0]; (repeat (first | exact Below.refl _ _ | assumption | refine balloc ?_ _ | refine below_drewN ?_ _ | refine bstep (by assumption) ?_ | refine bstep (Past.prop _) ?_ | refine Below.setCell ?_ (by first | exact Nat.le_refl _ | (simp; done) | (simp; omega)) _))
  replace S1 := S1.past hb0
  go_enter Try.func7, Try.ntmps7
  go_upto_region 1 with fail
  rw [← hw0]
  clear hw0
  have b0 := B1.cell 0; have b1 := B1.cell 1; have bz := B1.lt; have c0 := B2.cell 0; have c1 := B2.cell 1; have cz := B2.lt
  simp at b0 b1 c0 c1
  obtain ⟨wb, hwb⟩ : ∃ wb, wb = w0 := ⟨_, rfl⟩
  go_upto_region 3 with fail
  go_cut [7, 8, 9] (fun s7 s8 s9 wx => s7 = .int .i64 0 ∧ s8 = .bool false ∧ s9 = .int .i64 e ∧ SliS wx (.slice a k cap) F ∧ Blk wx w.heap.size #[.int .i64 x, .int .i64 n] 32 ∧ Blk wx (w.heap.size + 1) #[.int .i64 l1, .int .i64 l2, .int .i64 l3, .int .i64 l4] 52 ∧ Below w.heap.size w wx)
  case first =>
    go_wp2_with (go_at_call 25; ((with_reducible refine (over_s (F := F) (by (repeat (first | assumption | exact sliS_nil _ | (refine sliS_new (Blk.made _ _ _) rfl rfl (by decide); done) | refine SliS.past ?_ (by assumption) | refine sliS_alloc ?_ _))) (by omega) HD.out).mono ?_); rintro e wo ⟨rfl, hbo⟩))
    go_meet
    case rel => exact ⟨rfl, rfl, rfl, (by (repeat (first | assumption | exact sliS_nil _ | (refine sliS_new (Blk.made _ _ _) rfl rfl (by decide); done) | refine SliS.past ?_ (by assumption) | refine sliS_alloc ?_ _))), (by (repeat (first | assumption | exact Blk.made _ _ _ | refine Blk.past ?_ (by assumption) | refine Blk.alloc ?_ _))), (by (repeat (first | assumption | exact Blk.made _ _ _ | refine Blk.past ?_ (by assumption) | refine Blk.alloc ?_ _))), by (repeat (first | exact Below.refl _ _ | assumption | refine balloc ?_ _ | refine below_drewN ?_ _ | refine bstep (by assumption) ?_ | refine bstep (Past.prop _) ?_ | refine Below.setCell ?_ (by first | exact Nat.le_refl _ | (simp; done) | (simp; omega)) _))⟩
  obtain ⟨rfl, rfl, rfl, S1, B1, B2, hb⟩ := hcut
  clear b0 b1 bz c0 c1 cz hb0 d1 d2 d3
  have e1 : (e != 0) = true := bne_iff_ne.2 he
  go_wp2_with (go_at_call 9; ((with_reducible refine (shead_c _).mono ?_); rintro e w9 ⟨rfl, hb9⟩))
  go_ret
  exact ⟨rfl, by (repeat (first | exact Below.refl _ _ | assumption | refine balloc ?_ _ | refine below_drewN ?_ _ | refine bstep (by assumption) ?_ | refine bstep (Past.prop _) ?_ | refine Below.setCell ?_ (by first | exact Nat.le_refl _ | (simp; done) | (simp; omega)) _))⟩
end Go.Proofs.Ythgenmejjflceaa

namespace Go.Proofs.Ythgenmejjflceaa
open Go.ChangeShapes Go.WideShapes Go.ChangeAt Go.RowKit
attribute [local irreducible] Go.Calls

set_option maxRecDepth 100000 in
set_option maxHeartbeats 16000000 in
theorem sfirst_false (F : List Sg) (k : Nat) (x n l1 l2 l3 l4 : Int) (a : Option Addr) (cap : Nat) (w : World) (S1 : SliS w (.slice a k cap) F) (hk : k ≤ 40) (hx : -1099511627776 ≤ x ∧ x ≤ 1099511627776)
    (t : Int) (hD : overS F x n (l1, l2) = (t, false, 0))
    (t2 : Int) (b2 : Bool) (e2 : Int) (hD2 : overS F x n (mx l1 l3, mx l2 l4) = (t2, b2, e2)) (hn : 1 ≤ n ∧ n ≤ 4096) (hin : ∀ s ∈ F, -1125899906842624 ≤ s.1 ∧ s.1 ≤ 1125899906842624) (ht : false = true → x ≤ t ∧ t ≤ 1125899906842624)
    (h5 : false = true → (totS F t (t + n)).2.2 = 0 → leB (totS F t (t + n)).1 (totS F t (t + n)).2.1 l1 l2 = false)
    (h6 : ∀ s, x ≤ s → (false = true → s < t) → (totS F s (s + n)).2.2 = 0 → leB (totS F s (s + n)).1 (totS F s (s + n)).2.1 l1 l2 = true) (h7 : e2 = 0 → b2 = true → false = true ∧ t ≤ t2) :
    Calls Try.prog 7 #[.slice a k cap, .agg #[.int .i64 x, .int .i64 n], .agg #[.int .i64 l1, .int .i64 l2, .int .i64 l3, .int .i64 l4]] w fun e w' => e = .returned (.bool true) ∧ Below w.heap.size w w' := by
  have d1 : decide ((40 : Int) < (k : Int)) = false := decide_eq_false (by omega)
  have d2 : decide (x < -1099511627776) = false := decide_eq_false (by omega)
  have d3 : decide (1099511627776 < x) = false := decide_eq_false (by omega)
  have HD := hidE hD
  clear hD
  have HD2 := hidE hD2; have HIN := hidE hin; have HT := hidE ht; have H5 := hidE h5; have H6 := hidE h6; have H7 := hidE h7; have HN := hidE hn; have HX := hidE hx; have HK := hidE hk
  clear hD2 hin ht h5 h6 h7 hn hx
  obtain ⟨w0, hw0⟩ : ∃ w0, w0 = (w.alloc (Obj.cells #[.int .i64 x, .int .i64 n] 32)).alloc (Obj.cells #[.int .i64 l1, .int .i64 l2, .int .i64 l3, .int .i64 l4] 52) := ⟨_, rfl⟩
  have B1 : Blk w0 w.heap.size #[.int .i64 x, .int .i64 n] 32 := by rw [hw0]; exact (Blk.made _ _ _).alloc _
  have B2 : Blk w0 (w.heap.size + 1) #[.int .i64 l1, .int .i64 l2, .int .i64 l3, .int .i64 l4] 52 := by rw [hw0]; exact Blk.made_at _ _ _ _ (by simp)
  have hb0 : Below w.heap.size w w0 := by rw [hw0]; (repeat (first | exact Below.refl _ _ | assumption | refine balloc ?_ _ | refine below_drewN ?_ _ | refine bstep (by assumption) ?_ | refine bstep (Past.prop _) ?_ | refine Below.setCell ?_ (by first | exact Nat.le_refl _ | (simp; done) | (simp; omega)) _))
  replace S1 := S1.past hb0
  go_enter Try.func7, Try.ntmps7
  go_upto_region 1 with fail
  rw [← hw0]
  clear hw0
  have b0 := B1.cell 0; have b1 := B1.cell 1; have bz := B1.lt; have c0 := B2.cell 0; have c1 := B2.cell 1; have cz := B2.lt
  simp at b0 b1 c0 c1
  obtain ⟨wb, hwb⟩ : ∃ wb, wb = w0 := ⟨_, rfl⟩
  go_upto_region 3 with fail
  go_cut [7, 8, 9] (fun s7 s8 s9 wx => s7 = .int .i64 t ∧ s8 = .bool false ∧ s9 = .int .i64 0 ∧ SliS wx (.slice a k cap) F ∧ Blk wx w.heap.size #[.int .i64 x, .int .i64 n] 32 ∧ Blk wx (w.heap.size + 1) #[.int .i64 l1, .int .i64 l2, .int .i64 l3, .int .i64 l4] 52 ∧ Below w.heap.size w wx)
  case first =>
    go_wp2_with (go_at_call 25; ((with_reducible refine (over_s (F := F) (by (repeat (first | assumption | exact sliS_nil _ | (refine sliS_new (Blk.made _ _ _) rfl rfl (by decide); done) | refine SliS.past ?_ (by assumption) | refine sliS_alloc ?_ _))) (by omega) HD.out).mono ?_); rintro e wo ⟨rfl, hbo⟩))
    go_meet
    case rel => exact ⟨rfl, rfl, rfl, (by (repeat (first | assumption | exact sliS_nil _ | (refine sliS_new (Blk.made _ _ _) rfl rfl (by decide); done) | refine SliS.past ?_ (by assumption) | refine sliS_alloc ?_ _))), (by (repeat (first | assumption | exact Blk.made _ _ _ | refine Blk.past ?_ (by assumption) | refine Blk.alloc ?_ _))), (by (repeat (first | assumption | exact Blk.made _ _ _ | refine Blk.past ?_ (by assumption) | refine Blk.alloc ?_ _))), by (repeat (first | exact Below.refl _ _ | assumption | refine balloc ?_ _ | refine below_drewN ?_ _ | refine bstep (by assumption) ?_ | refine bstep (Past.prop _) ?_ | refine Below.setCell ?_ (by first | exact Nat.le_refl _ | (simp; done) | (simp; omega)) _))⟩
  obtain ⟨rfl, rfl, rfl, S1, B1, B2, hb⟩ := hcut
  clear b0 b1 bz c0 c1 cz hb0 d1 d2 d3
  obtain ⟨wd, hwd⟩ : ∃ wd, wd = wc := ⟨_, rfl⟩
  subst hwd
  have HS1 := hidE S1; have HB1 := hidE B1; have HB2 := hidE B2; have HBE := hidE hb
  clear S1 B1 B2 hb
  have b0 := HB1.out.cell 0; have b1 := HB1.out.cell 1; have bz := HB1.out.lt
  simp at b0 b1
  go_upto_region 13 with fail
  clear b0 b1 bz
  go_wp2
  have HC2 := hidE (Below.refl wd.heap.size wd)
  go_loopg [12] F.length (fun gh v12 wr => ∃ i : Nat, i ≤ F.length ∧ F.length - i ≤ gh ∧ v12 = .int .i64 i ∧ Below wd.heap.size wd wr)
  case atStart => exact ⟨0, Nat.zero_le _, by omega, rfl, HC2.out⟩
  case round =>
    obtain ⟨i, hi, hg, rfl, hbr⟩ := hrel
    have HBR := hidE hbr; have HG := hidE hg
    have HSR := hidE (HS1.out.past hbr); have HR1 := hidE (HB1.out.past hbr); have HR2 := hidE (HB2.out.past hbr)
    clear hbr hg
    have hFk : F.length = k := by obtain ⟨z, _⟩ := HS1.out.len; exact z.symm
    have HFK := hidE hFk
    clear hFk
    have hn := HN.out; have hx := HX.out; have hk := HK.out
    have b0 := HR1.out.cell 0; have b1 := HR1.out.cell 1; have bz := HR1.out.lt; have c0 := HR2.out.cell 0; have c1 := HR2.out.cell 1; have cz := HR2.out.lt
    simp at b0 b1 c0 c1
    by_cases hlt : i < F.length
    · have hd : decide ((i : Int) < (k : Int)) = true := decide_eq_true (by have := HFK.out; omega)
      have hik : i < k := by have := HFK.out; omega
      obtain ⟨z, y1, y2, y3⟩ := HSR.out.len
      obtain ⟨bb, off, ra, hb2, hc⟩ := y3 (by omega)
      obtain ⟨g0, _, _⟩ := hc.get hlt
      subst ra
      have hu : -1125899906842624 ≤ ats F i ∧ ats F i ≤ 1125899906842624 := by
        unfold ats; rw [getD_get _ _ _ hlt]; exact HIN.out _ (List.getElem_mem hlt)
      clear hc z y1 y2 y3
      generalize ats F i = u at *
      obtain ⟨wo, hwo⟩ : ∃ wo : World, wo = wr := ⟨_, rfl⟩
      go_upto_region 16 with fail
      go_cut [13] (fun s13 wx => s13 = .int .i64 (mx (u - n) x) ∧ Below wo.heap.size wo wx)
      case first =>
        subst hwo
        go_region
        all_goals try go_wp2
        all_goals
          go_meet
          exact ⟨congrArg (Value.int .i64) (by rw [mx_max]; omega), by (repeat (first | exact Below.refl _ _ | assumption | refine balloc ?_ _ | refine below_drewN ?_ _ | refine bstep (by assumption) ?_ | refine bstep (Past.prop _) ?_ | refine Below.setCell ?_ (by first | exact Nat.le_refl _ | (simp; done) | (simp; omega)) _))⟩
      obtain ⟨rfl, hbm⟩ := hcut
      clear b0 b1 bz c0 c1 cz g0
      subst hwo
      have HBM := hidE (HBR.out.trans (hbm.mono HBR.out.size)); have HSM := hidE (HSR.out.past hbm); have HM1 := hidE (HR1.out.past hbm); have HM2 := hidE (HR2.out.past hbm)
      clear hbm
      have hs1 : x ≤ mx (u - n) x := by rw [mx_max]; omega
      have hs2 : mx (u - n) x ≤ 1125899906842624 := by rw [mx_max]; omega
      generalize mx (u - n) x = s at *
      obtain ⟨r, hr⟩ : ∃ r, totS F s (s + n) = r := ⟨_, rfl⟩
      have hr6 := fun h => H6.out s hs1 h
      rw [hr] at hr6
      have HRR := hidE hr; have HR6 := hidE hr6
      clear hr hr6
      have HLE := hidE (fun w => rle r.1 r.2.1 l1 l2 w)
      have b0 := HM1.out.cell 0; have b1 := HM1.out.cell 1; have bz := HM1.out.lt
      simp at b0 b1
      obtain ⟨wq, hwq⟩ : ∃ wq : World, wq = wc := ⟨_, rfl⟩
      go_upto_region 17 with fail
      go_cut [14, 15] (fun s14 s15 wx => ∃ p : Nat, s14 = .pointer (some ⟨p, 0, none⟩) ∧ s15 = .int .i64 r.2.2 ∧ Blk wx p #[.int .i64 r.1, .int .i64 r.2.1] 26 ∧ Below wq.heap.size wq wx)
      case first =>
        subst hwq
        go_wp2_with (go_at_call 14; ((with_reducible refine (sum_s (F := F) HSM.out (by omega) HRR.out).mono ?_); rintro e w3 ⟨rfl, hbw3⟩))
        go_meet
        case rel => exact ⟨_, rfl, rfl, Blk.made _ _ _, by (repeat (first | exact Below.refl _ _ | assumption | refine balloc ?_ _ | refine below_drewN ?_ _ | refine bstep (by assumption) ?_ | refine bstep (Past.prop _) ?_ | refine Below.setCell ?_ (by first | exact Nat.le_refl _ | (simp; done) | (simp; omega)) _))⟩
      obtain ⟨p, rfl, rfl, BP, hbp⟩ := hcut
      clear b0 b1 bz
      subst hwq
      have HBP := hidE (HBM.out.trans (hbp.mono HBM.out.size)); have HP2 := hidE (HM2.out.past hbp)
      have c0 := HP2.out.cell 0; have c1 := HP2.out.cell 1; have cz := HP2.out.lt; have p0 := BP.cell 0; have p1 := BP.cell 1; have pz := BP.lt
      simp at c0 c1 p0 p1
      clear hbp BP
      by_cases h0 : r.2.2 = 0
      · have f1 : (r.2.2 == 0) = true := beq_iff_eq.2 h0
        have f2 := HR6.out (fun h => (by cases h)) h0
        rw [f2] at HLE
        clear f2 h0
        go_wp2_with (go_at_call 23; ((with_reducible refine (HLE.out _).mono ?_); rintro e wl ⟨rfl, hbl⟩))
        go_roundg (F.length - (i + 1))
        case measure => have := HG.out; omega
        case rel => exact ⟨i + 1, by omega, Nat.le_refl _, by go_num, HBP.out.trans (hbl.mono HBP.out.size)⟩
      · have f1 : (r.2.2 == 0) = false := beq_eq_false_iff_ne.2 h0
        clear h0
        go_wp2
        go_roundg (F.length - (i + 1))
        case measure => have := HG.out; omega
        case rel => exact ⟨i + 1, by omega, Nat.le_refl _, by go_num, HBP.out⟩
    · obtain rfl : i = F.length := by omega
      have hd : decide ((F.length : Int) < (k : Int)) = false := decide_eq_false (by have := HFK.out; omega)
      have hd2 : decide (F.length < k) = false := decide_eq_false (by have := HFK.out; omega)
      have HMX := hidE (fun w => rmx l1 l2 l3 l4 w)
      have HS3 := hidE (fun (w' : World) (h : SliS w' (.slice a k cap) F) => over_s (F := F) (n := n) (x := x) (l1 := mx l1 l3) (l2 := mx l2 l4) h (by omega) HD2.out)
      clear hlt
      generalize mx l1 l3 = m1 at *
      generalize mx l2 l4 = m2 at *
      have c2 := HR2.out.cell 2; have c3 := HR2.out.cell 3
      simp at c2 c3
      go_upto_region 21 with (go_at_call 27; ((with_reducible refine (HMX.out _).mono ?_); rintro e wm ⟨rfl, hbm⟩))
      have HP1 := hidE ((HR1.out.past hbm).alloc (Obj.cells #[.int .i64 m1, .int .i64 m2] 26))
      have b0' := HP1.out.cell 0; have b1' := HP1.out.cell 1; have bz' := HP1.out.lt
      simp at b0' b1'
      have HSX := hidE (show SliS (wm.alloc (Obj.cells #[.int .i64 m1, .int .i64 m2] 26)) (.slice a k cap) F from sliS_alloc (HSR.out.past hbm) _)
      have HBX := hidE (show Below w.heap.size w (wm.alloc (Obj.cells #[.int .i64 m1, .int .i64 m2] 26)) from by have := HBE.out.trans (HBR.out.mono HBE.out.size); (repeat (first | exact Below.refl _ _ | assumption | refine balloc ?_ _ | refine below_drewN ?_ _ | refine bstep (by assumption) ?_ | refine bstep (Past.prop _) ?_ | refine Below.setCell ?_ (by first | exact Nat.le_refl _ | (simp; done) | (simp; omega)) _)))
      clear b0 b1 bz c0 c1 c2 c3 cz hbm
      go_cut [17, 18, 19] (fun s17 s18 s19 wx => s17 = .int .i64 t2 ∧ s18 = .bool b2 ∧ s19 = .int .i64 e2 ∧ Below w.heap.size w wx)
      case first =>
        go_wp2_with (go_at_call 25; ((with_reducible refine (HS3.out _ HSX.out).mono ?_); rintro e wo ⟨rfl, hbo⟩))
        go_meet
        case rel => exact ⟨rfl, rfl, rfl, HBX.out.trans (hbo.mono HBX.out.size)⟩
      obtain ⟨rfl, rfl, rfl, hb⟩ := hcut
      clear b0' b1' bz'
      by_cases h0 : e2 = 0
      · have f1 : (e2 != 0) = false := by rw [bne_eq_false_iff_eq]; exact h0
        cases b2
        · go_wp2_with (go_at_call 9; ((with_reducible refine (shead_c _).mono ?_); rintro e w9 ⟨rfl, hb9⟩))
          go_ret
          exact ⟨rfl, by (repeat (first | exact Below.refl _ _ | assumption | refine balloc ?_ _ | refine below_drewN ?_ _ | refine bstep (by assumption) ?_ | refine bstep (Past.prop _) ?_ | refine Below.setCell ?_ (by first | exact Nat.le_refl _ | (simp; done) | (simp; omega)) _))⟩
        · have := (H7.out h0 rfl).1
          cases this
      · have f1 : (e2 != 0) = true := bne_iff_ne.2 h0
        go_wp2_with (go_at_call 9; ((with_reducible refine (shead_c _).mono ?_); rintro e w9 ⟨rfl, hb9⟩))
        go_ret
        exact ⟨rfl, by (repeat (first | exact Below.refl _ _ | assumption | refine balloc ?_ _ | refine below_drewN ?_ _ | refine bstep (by assumption) ?_ | refine bstep (Past.prop _) ?_ | refine Below.setCell ?_ (by first | exact Nat.le_refl _ | (simp; done) | (simp; omega)) _))⟩
end Go.Proofs.Ythgenmejjflceaa

namespace Go.Proofs.Ythgenmejjflceaa
open Go.ChangeShapes Go.WideShapes Go.ChangeAt Go.RowKit
attribute [local irreducible] Go.Calls

set_option maxRecDepth 100000 in
set_option maxHeartbeats 16000000 in
theorem sfirst_true (F : List Sg) (k : Nat) (x n l1 l2 l3 l4 : Int) (a : Option Addr) (cap : Nat) (w : World) (S1 : SliS w (.slice a k cap) F) (hk : k ≤ 40) (hx : -1099511627776 ≤ x ∧ x ≤ 1099511627776)
    (t : Int) (hD : overS F x n (l1, l2) = (t, true, 0))
    (t2 : Int) (b2 : Bool) (e2 : Int) (hD2 : overS F x n (mx l1 l3, mx l2 l4) = (t2, b2, e2)) (hn : 1 ≤ n ∧ n ≤ 4096) (hin : ∀ s ∈ F, -1125899906842624 ≤ s.1 ∧ s.1 ≤ 1125899906842624) (ht : true = true → x ≤ t ∧ t ≤ 1125899906842624)
    (h5 : true = true → (totS F t (t + n)).2.2 = 0 → leB (totS F t (t + n)).1 (totS F t (t + n)).2.1 l1 l2 = false)
    (h6 : ∀ s, x ≤ s → (true = true → s < t) → (totS F s (s + n)).2.2 = 0 → leB (totS F s (s + n)).1 (totS F s (s + n)).2.1 l1 l2 = true) (h7 : e2 = 0 → b2 = true → true = true ∧ t ≤ t2) :
    Calls Try.prog 7 #[.slice a k cap, .agg #[.int .i64 x, .int .i64 n], .agg #[.int .i64 l1, .int .i64 l2, .int .i64 l3, .int .i64 l4]] w fun e w' => e = .returned (.bool true) ∧ Below w.heap.size w w' := by
  have d1 : decide ((40 : Int) < (k : Int)) = false := decide_eq_false (by omega)
  have d2 : decide (x < -1099511627776) = false := decide_eq_false (by omega)
  have d3 : decide (1099511627776 < x) = false := decide_eq_false (by omega)
  have HD := hidE hD
  clear hD
  have HD2 := hidE hD2; have HIN := hidE hin; have HT := hidE ht; have H5 := hidE h5; have H6 := hidE h6; have H7 := hidE h7; have HN := hidE hn; have HX := hidE hx; have HK := hidE hk
  clear hD2 hin ht h5 h6 h7 hn hx
  obtain ⟨w0, hw0⟩ : ∃ w0, w0 = (w.alloc (Obj.cells #[.int .i64 x, .int .i64 n] 32)).alloc (Obj.cells #[.int .i64 l1, .int .i64 l2, .int .i64 l3, .int .i64 l4] 52) := ⟨_, rfl⟩
  have B1 : Blk w0 w.heap.size #[.int .i64 x, .int .i64 n] 32 := by rw [hw0]; exact (Blk.made _ _ _).alloc _
  have B2 : Blk w0 (w.heap.size + 1) #[.int .i64 l1, .int .i64 l2, .int .i64 l3, .int .i64 l4] 52 := by rw [hw0]; exact Blk.made_at _ _ _ _ (by simp)
  have hb0 : Below w.heap.size w w0 := by rw [hw0]; (repeat (first | exact Below.refl _ _ | assumption | refine balloc ?_ _ | refine below_drewN ?_ _ | refine bstep (by assumption) ?_ | refine bstep (Past.prop _) ?_ | refine Below.setCell ?_ (by first | exact Nat.le_refl _ | (simp; done) | (simp; omega)) _))
  replace S1 := S1.past hb0
  go_enter Try.func7, Try.ntmps7
  go_upto_region 1 with fail
  rw [← hw0]
  clear hw0
  have b0 := B1.cell 0; have b1 := B1.cell 1; have bz := B1.lt; have c0 := B2.cell 0; have c1 := B2.cell 1; have cz := B2.lt
  simp at b0 b1 c0 c1
  obtain ⟨wb, hwb⟩ : ∃ wb, wb = w0 := ⟨_, rfl⟩
  go_upto_region 3 with fail
  go_cut [7, 8, 9] (fun s7 s8 s9 wx => s7 = .int .i64 t ∧ s8 = .bool true ∧ s9 = .int .i64 0 ∧ SliS wx (.slice a k cap) F ∧ Blk wx w.heap.size #[.int .i64 x, .int .i64 n] 32 ∧ Blk wx (w.heap.size + 1) #[.int .i64 l1, .int .i64 l2, .int .i64 l3, .int .i64 l4] 52 ∧ Below w.heap.size w wx)
  case first =>
    go_wp2_with (go_at_call 25; ((with_reducible refine (over_s (F := F) (by (repeat (first | assumption | exact sliS_nil _ | (refine sliS_new (Blk.made _ _ _) rfl rfl (by decide); done) | refine SliS.past ?_ (by assumption) | refine sliS_alloc ?_ _))) (by omega) HD.out).mono ?_); rintro e wo ⟨rfl, hbo⟩))
    go_meet
    case rel => exact ⟨rfl, rfl, rfl, (by (repeat (first | assumption | exact sliS_nil _ | (refine sliS_new (Blk.made _ _ _) rfl rfl (by decide); done) | refine SliS.past ?_ (by assumption) | refine sliS_alloc ?_ _))), (by (repeat (first | assumption | exact Blk.made _ _ _ | refine Blk.past ?_ (by assumption) | refine Blk.alloc ?_ _))), (by (repeat (first | assumption | exact Blk.made _ _ _ | refine Blk.past ?_ (by assumption) | refine Blk.alloc ?_ _))), by (repeat (first | exact Below.refl _ _ | assumption | refine balloc ?_ _ | refine below_drewN ?_ _ | refine bstep (by assumption) ?_ | refine bstep (Past.prop _) ?_ | refine Below.setCell ?_ (by first | exact Nat.le_refl _ | (simp; done) | (simp; omega)) _))⟩
  obtain ⟨rfl, rfl, rfl, S1, B1, B2, hb⟩ := hcut
  clear b0 b1 bz c0 c1 cz hb0 d1 d2 d3
  obtain ⟨wd, hwd⟩ : ∃ wd, wd = wc := ⟨_, rfl⟩
  subst hwd
  have HS1 := hidE S1; have HB1 := hidE B1; have HB2 := hidE B2; have HBE := hidE hb
  clear S1 B1 B2 hb
  obtain ⟨t1, t3⟩ := HT.out rfl
  have hn := HN.out; have hx := HX.out
  have b0 := HB1.out.cell 0; have b1 := HB1.out.cell 1; have bz := HB1.out.lt; have c0 := HB2.out.cell 0; have c1 := HB2.out.cell 1; have cz := HB2.out.lt
  simp at b0 b1 c0 c1
  obtain ⟨r, hr⟩ : ∃ r, totS F t (t + n) = r := ⟨_, rfl⟩
  obtain ⟨q, hq⟩ : ∃ q, totS F (t - 1) (t - 1 + n) = q := ⟨_, rfl⟩
  have hr5 := H5.out rfl
  rw [hr] at hr5
  have hq6 := fun (h : x ≤ t - 1) => H6.out (t - 1) h (fun _ => by omega)
  rw [hq] at hq6
  have HRR := hidE hr; have HQQ := hidE hq; have HR5 := hidE hr5; have HQ6 := hidE hq6
  have e9 : decide (t < x) = false := decide_eq_false (by omega)
  clear hr hq hr5 hq6
  have HLE := hidE (fun w => rle r.1 r.2.1 l1 l2 w)
  have HLE2 := hidE (fun w => rle q.1 q.2.1 l1 l2 w)
  go_upto_region 7 with fail
  go_cut [10, 11] (fun s10 s11 wx => ∃ p : Nat, s10 = .pointer (some ⟨p, 0, none⟩) ∧ s11 = .int .i64 r.2.2 ∧ wd.heap.size ≤ p ∧ Blk wx p #[.int .i64 r.1, .int .i64 r.2.1] 26 ∧ Below wd.heap.size wd wx)
  case first =>
    go_wp2_with (go_at_call 14; ((with_reducible refine (sum_s (F := F) HS1.out (by omega) HRR.out).mono ?_); rintro e w1 ⟨rfl, hbw1⟩))
    go_meet
    case rel => exact ⟨_, rfl, rfl, hbw1.size, Blk.made _ _ _, by (repeat (first | exact Below.refl _ _ | assumption | refine balloc ?_ _ | refine below_drewN ?_ _ | refine bstep (by assumption) ?_ | refine bstep (Past.prop _) ?_ | refine Below.setCell ?_ (by first | exact Nat.le_refl _ | (simp; done) | (simp; omega)) _))⟩
  obtain ⟨p, rfl, rfl, hp, BP, hbp⟩ := hcut
  clear b0 b1 bz c0 c1 cz
  have HBP := hidE (HBE.out.trans (hbp.mono HBE.out.size)); have HBPP := hidE hbp
  have HBP1 := hidE (HB1.out.below hbp HB1.out.lt); have HBP2 := hidE (HB2.out.below hbp HB2.out.lt); have HPB := hidE BP; have HSP := hidE (HS1.out.past hbp)
  have b0 := HBP1.out.cell 0; have b1 := HBP1.out.cell 1; have bz := HBP1.out.lt; have c0 := HBP2.out.cell 0; have c1 := HBP2.out.cell 1; have cz := HBP2.out.lt; have p0 := BP.cell 0; have p1 := BP.cell 1; have pz := BP.lt
  simp at b0 b1 c0 c1 p0 p1
  have HZB := hidE (And.intro HB1.out.lt HB2.out.lt)
  clear hbp BP
  obtain ⟨wf, hwf⟩ : ∃ wf, wf = wc := ⟨_, rfl⟩
  -- the first sum
  go_upto_region 8 with fail
  go_cut [81] (fun s81 wx => s81 = .bool false ∧ Below wf.heap.size wf wx)
  case first =>
    subst hwf
    by_cases h0 : r.2.2 = 0
    · have f1 : (r.2.2 == 0) = true := beq_iff_eq.2 h0
      have f2 := HR5.out h0
      rw [f2] at HLE
      clear f2 h0
      go_wp2_with (go_at_call 23; ((with_reducible refine (HLE.out _).mono ?_); rintro e wl ⟨rfl, hbl⟩; obtain ⟨hcl, hfl⟩ := bcell hbl))
      go_meet
      case rel => exact ⟨rfl, hbl⟩
    · have f1 : (r.2.2 == 0) = false := beq_eq_false_iff_ne.2 h0
      clear h0
      go_wp2
      go_meet
      case rel => exact ⟨rfl, Below.refl _ _⟩
  obtain ⟨rfl, hbq⟩ := hcut
  clear b0 b1 bz c0 c1 cz p0 p1 pz
  subst hwf
  have HPB2 := hidE (HPB.out.past hbq)
  have HBQ1 := hidE (HBP1.out.past hbq); have HBQ2 := hidE (HBP2.out.past hbq); have HSQ := hidE (HSP.out.past hbq)
  have HBQ := hidE (HBP.out.trans (hbq.mono HBP.out.size)); have HBQQ := hidE (HBPP.out.trans (hbq.mono HBPP.out.size))
  have b0 := HBQ1.out.cell 0; have b1 := HBQ1.out.cell 1; have bz := HBQ1.out.lt
  simp at b0 b1
  clear hbq
  -- the second sum, into the same block
  go_upto_region 10 with fail
  go_cut [11] (fun s11 wx => s11 = .int .i64 q.2.2 ∧ Blk wx p #[.int .i64 q.1, .int .i64 q.2.1] 26 ∧ Below wd.heap.size wd wx)
  case first =>
    go_wp2_with (go_at_call 14; ((with_reducible refine (sum_s (F := F) HSQ.out (by omega) HQQ.out).mono ?_); rintro e w2 ⟨rfl, hbw2⟩; have hpp := HPB2.out.past hbw2; have p0 := hpp.cell 0; have p1 := hpp.cell 1; have pz := hpp.lt; have pf := hpp.free; simp at p0 p1; have HPP := hidE hpp; have HBW2 := hidE hbw2; clear hpp hbw2))
    go_meet
    case rel => exact ⟨rfl, by simpa using (HPP.out.set 0 (.int .i64 q.1)).set 1 (.int .i64 q.2.1), ((HBQQ.out.trans (HBW2.out.mono HBQQ.out.size)).setCell (p := ⟨p, 0, none⟩) hp _).setCell (p := ⟨p, 1, none⟩) hp _⟩
  obtain ⟨rfl, BP, hbs⟩ := hcut
  clear b0 b1 bz
  have HBS := hidE (HBE.out.trans (hbs.mono HBE.out.size)); have HBSS := hidE hbs
  have HBS1 := hidE (HB1.out.below hbs HB1.out.lt); have HBS2 := hidE (HB2.out.below hbs HB2.out.lt)
  have b0 := HBS1.out.cell 0; have b1 := HBS1.out.cell 1; have bz := HBS1.out.lt; have c0 := HBS2.out.cell 0; have c1 := HBS2.out.cell 1; have cz := HBS2.out.lt; have p0 := BP.cell 0; have p1 := BP.cell 1; have pz := BP.lt
  simp at b0 b1 c0 c1 p0 p1
  clear hbs BP HBP HBPP HBP1 HBP2 HPB HSP HBQ HBQQ HBQ1 HBQ2 HSQ HPB2
  obtain ⟨wf, hwf⟩ : ∃ wf, wf = wc := ⟨_, rfl⟩
  go_upto_region 11 with fail
  go_cut [108] (fun s108 wx => s108 = .bool false ∧ Below wf.heap.size wf wx)
  case first =>
    subst hwf
    by_cases hxt : x < t
    · have f0 : decide (x < t) = true := decide_eq_true hxt
      by_cases h0 : q.2.2 = 0
      · have f1 : (q.2.2 == 0) = true := beq_iff_eq.2 h0
        have f2 := HQ6.out (by omega) h0
        rw [f2] at HLE2
        clear f2 h0
        go_wp2_with (go_at_call 23; ((with_reducible refine (HLE2.out _).mono ?_); rintro e wl ⟨rfl, hbl⟩))
        go_meet
        case rel => exact ⟨rfl, hbl⟩
      · have f1 : (q.2.2 == 0) = false := beq_eq_false_iff_ne.2 h0
        clear h0
        go_wp2
        go_meet
        case rel => exact ⟨rfl, Below.refl _ _⟩
    · have f0 : decide (x < t) = false := decide_eq_false hxt
      go_wp2
      go_meet
      case rel => exact ⟨rfl, Below.refl _ _⟩
  obtain ⟨rfl, hbu⟩ := hcut
  clear b0 b1 bz c0 c1 cz p0 p1 pz
  subst hwf
  have HBE' := hidE (HBS.out.trans (hbu.mono HBS.out.size))
  have HBU := hidE (HBSS.out.trans (hbu.mono HBSS.out.size))
  clear hbu HBS HBSS HBS1 HBS2
  clear hn hx t1 t3 e9 HLE HLE2 HRR HQQ HR5 HQ6 hp HZB
  go_upto_region 13 with fail
  go_wp2
  have HC2 := hidE (HBU.out)
  go_loopg [12] F.length (fun gh v12 wr => ∃ i : Nat, i ≤ F.length ∧ F.length - i ≤ gh ∧ v12 = .int .i64 i ∧ Below wd.heap.size wd wr)
  case atStart => exact ⟨0, Nat.zero_le _, by omega, rfl, HC2.out⟩
  case round =>
    obtain ⟨i, hi, hg, rfl, hbr⟩ := hrel
    have HBR := hidE hbr; have HG := hidE hg
    have HSR := hidE (HS1.out.past hbr); have HR1 := hidE (HB1.out.past hbr); have HR2 := hidE (HB2.out.past hbr)
    clear hbr hg
    have hFk : F.length = k := by obtain ⟨z, _⟩ := HS1.out.len; exact z.symm
    have HFK := hidE hFk
    clear hFk
    have hn := HN.out; have hx := HX.out; have hk := HK.out
    have b0 := HR1.out.cell 0; have b1 := HR1.out.cell 1; have bz := HR1.out.lt; have c0 := HR2.out.cell 0; have c1 := HR2.out.cell 1; have cz := HR2.out.lt
    simp at b0 b1 c0 c1
    by_cases hlt : i < F.length
    · have hd : decide ((i : Int) < (k : Int)) = true := decide_eq_true (by have := HFK.out; omega)
      have hik : i < k := by have := HFK.out; omega
      obtain ⟨z, y1, y2, y3⟩ := HSR.out.len
      obtain ⟨bb, off, ra, hb2, hc⟩ := y3 (by omega)
      obtain ⟨g0, _, _⟩ := hc.get hlt
      subst ra
      have hu : -1125899906842624 ≤ ats F i ∧ ats F i ≤ 1125899906842624 := by
        unfold ats; rw [getD_get _ _ _ hlt]; exact HIN.out _ (List.getElem_mem hlt)
      clear hc z y1 y2 y3
      generalize ats F i = u at *
      obtain ⟨wo, hwo⟩ : ∃ wo : World, wo = wr := ⟨_, rfl⟩
      go_upto_region 16 with fail
      go_cut [13] (fun s13 wx => s13 = .int .i64 (mx (u - n) x) ∧ Below wo.heap.size wo wx)
      case first =>
        subst hwo
        go_region
        all_goals try go_wp2
        all_goals
          go_meet
          exact ⟨congrArg (Value.int .i64) (by rw [mx_max]; omega), by (repeat (first | exact Below.refl _ _ | assumption | refine balloc ?_ _ | refine below_drewN ?_ _ | refine bstep (by assumption) ?_ | refine bstep (Past.prop _) ?_ | refine Below.setCell ?_ (by first | exact Nat.le_refl _ | (simp; done) | (simp; omega)) _))⟩
      obtain ⟨rfl, hbm⟩ := hcut
      clear b0 b1 bz c0 c1 cz g0
      subst hwo
      have HBM := hidE (HBR.out.trans (hbm.mono HBR.out.size)); have HSM := hidE (HSR.out.past hbm); have HM1 := hidE (HR1.out.past hbm); have HM2 := hidE (HR2.out.past hbm)
      clear hbm
      have hs1 : x ≤ mx (u - n) x := by rw [mx_max]; omega
      have hs2 : mx (u - n) x ≤ 1125899906842624 := by rw [mx_max]; omega
      generalize mx (u - n) x = s at *
      obtain ⟨r, hr⟩ : ∃ r, totS F s (s + n) = r := ⟨_, rfl⟩
      have hr6 := fun h => H6.out s hs1 h
      rw [hr] at hr6
      have HRR := hidE hr; have HR6 := hidE hr6
      clear hr hr6
      have HLE := hidE (fun w => rle r.1 r.2.1 l1 l2 w)
      have b0 := HM1.out.cell 0; have b1 := HM1.out.cell 1; have bz := HM1.out.lt
      simp at b0 b1
      obtain ⟨wq, hwq⟩ : ∃ wq : World, wq = wc := ⟨_, rfl⟩
      go_upto_region 17 with fail
      go_cut [14, 15] (fun s14 s15 wx => ∃ p : Nat, s14 = .pointer (some ⟨p, 0, none⟩) ∧ s15 = .int .i64 r.2.2 ∧ Blk wx p #[.int .i64 r.1, .int .i64 r.2.1] 26 ∧ Below wq.heap.size wq wx)
      case first =>
        subst hwq
        go_wp2_with (go_at_call 14; ((with_reducible refine (sum_s (F := F) HSM.out (by omega) HRR.out).mono ?_); rintro e w3 ⟨rfl, hbw3⟩))
        go_meet
        case rel => exact ⟨_, rfl, rfl, Blk.made _ _ _, by (repeat (first | exact Below.refl _ _ | assumption | refine balloc ?_ _ | refine below_drewN ?_ _ | refine bstep (by assumption) ?_ | refine bstep (Past.prop _) ?_ | refine Below.setCell ?_ (by first | exact Nat.le_refl _ | (simp; done) | (simp; omega)) _))⟩
      obtain ⟨p, rfl, rfl, BP, hbp⟩ := hcut
      clear b0 b1 bz
      subst hwq
      have HBP := hidE (HBM.out.trans (hbp.mono HBM.out.size)); have HP2 := hidE (HM2.out.past hbp)
      have c0 := HP2.out.cell 0; have c1 := HP2.out.cell 1; have cz := HP2.out.lt; have p0 := BP.cell 0; have p1 := BP.cell 1; have pz := BP.lt
      simp at c0 c1 p0 p1
      clear hbp BP
      by_cases h0 : r.2.2 = 0
      · have f1 : (r.2.2 == 0) = true := beq_iff_eq.2 h0
        by_cases hst : s < t
        · have f3 : decide (s < t) = true := decide_eq_true hst
          have f2 := HR6.out (fun _ => hst) h0
          rw [f2] at HLE
          clear f2 h0
          go_wp2_with (go_at_call 23; ((with_reducible refine (HLE.out _).mono ?_); rintro e wl ⟨rfl, hbl⟩))
          go_roundg (F.length - (i + 1))
          case measure => have := HG.out; omega
          case rel => exact ⟨i + 1, by omega, Nat.le_refl _, by go_num, HBP.out.trans (hbl.mono HBP.out.size)⟩
        · have f3 : decide (s < t) = false := decide_eq_false hst
          clear h0
          go_wp2
          go_roundg (F.length - (i + 1))
          case measure => have := HG.out; omega
          case rel => exact ⟨i + 1, by omega, Nat.le_refl _, by go_num, HBP.out⟩
      · have f1 : (r.2.2 == 0) = false := beq_eq_false_iff_ne.2 h0
        clear h0
        go_wp2
        go_roundg (F.length - (i + 1))
        case measure => have := HG.out; omega
        case rel => exact ⟨i + 1, by omega, Nat.le_refl _, by go_num, HBP.out⟩
    · obtain rfl : i = F.length := by omega
      have hd : decide ((F.length : Int) < (k : Int)) = false := decide_eq_false (by have := HFK.out; omega)
      have hd2 : decide (F.length < k) = false := decide_eq_false (by have := HFK.out; omega)
      have HMX := hidE (fun w => rmx l1 l2 l3 l4 w)
      have HS3 := hidE (fun (w' : World) (h : SliS w' (.slice a k cap) F) => over_s (F := F) (n := n) (x := x) (l1 := mx l1 l3) (l2 := mx l2 l4) h (by omega) HD2.out)
      clear hlt
      generalize mx l1 l3 = m1 at *
      generalize mx l2 l4 = m2 at *
      have c2 := HR2.out.cell 2; have c3 := HR2.out.cell 3
      simp at c2 c3
      go_upto_region 21 with (go_at_call 27; ((with_reducible refine (HMX.out _).mono ?_); rintro e wm ⟨rfl, hbm⟩))
      have HP1 := hidE ((HR1.out.past hbm).alloc (Obj.cells #[.int .i64 m1, .int .i64 m2] 26))
      have b0' := HP1.out.cell 0; have b1' := HP1.out.cell 1; have bz' := HP1.out.lt
      simp at b0' b1'
      have HSX := hidE (show SliS (wm.alloc (Obj.cells #[.int .i64 m1, .int .i64 m2] 26)) (.slice a k cap) F from sliS_alloc (HSR.out.past hbm) _)
      have HBX := hidE (show Below w.heap.size w (wm.alloc (Obj.cells #[.int .i64 m1, .int .i64 m2] 26)) from by have := HBE.out.trans (HBR.out.mono HBE.out.size); (repeat (first | exact Below.refl _ _ | assumption | refine balloc ?_ _ | refine below_drewN ?_ _ | refine bstep (by assumption) ?_ | refine bstep (Past.prop _) ?_ | refine Below.setCell ?_ (by first | exact Nat.le_refl _ | (simp; done) | (simp; omega)) _)))
      clear b0 b1 bz c0 c1 c2 c3 cz hbm
      go_cut [17, 18, 19] (fun s17 s18 s19 wx => s17 = .int .i64 t2 ∧ s18 = .bool b2 ∧ s19 = .int .i64 e2 ∧ Below w.heap.size w wx)
      case first =>
        go_wp2_with (go_at_call 25; ((with_reducible refine (HS3.out _ HSX.out).mono ?_); rintro e wo ⟨rfl, hbo⟩))
        go_meet
        case rel => exact ⟨rfl, rfl, rfl, HBX.out.trans (hbo.mono HBX.out.size)⟩
      obtain ⟨rfl, rfl, rfl, hb⟩ := hcut
      clear b0' b1' bz'
      by_cases h0 : e2 = 0
      · have f1 : (e2 != 0) = false := by rw [bne_eq_false_iff_eq]; exact h0
        cases b2
        · go_wp2_with (go_at_call 9; ((with_reducible refine (shead_c _).mono ?_); rintro e w9 ⟨rfl, hb9⟩))
          go_ret
          exact ⟨rfl, by (repeat (first | exact Below.refl _ _ | assumption | refine balloc ?_ _ | refine below_drewN ?_ _ | refine bstep (by assumption) ?_ | refine bstep (Past.prop _) ?_ | refine Below.setCell ?_ (by first | exact Nat.le_refl _ | (simp; done) | (simp; omega)) _))⟩
        · have f2 : decide (t ≤ t2) = true := decide_eq_true (H7.out h0 rfl).2
          go_wp2_with (go_at_call 9; ((with_reducible refine (shead_c _).mono ?_); rintro e w9 ⟨rfl, hb9⟩))
          go_ret
          exact ⟨rfl, by (repeat (first | exact Below.refl _ _ | assumption | refine balloc ?_ _ | refine below_drewN ?_ _ | refine bstep (by assumption) ?_ | refine bstep (Past.prop _) ?_ | refine Below.setCell ?_ (by first | exact Nat.le_refl _ | (simp; done) | (simp; omega)) _))⟩
      · have f1 : (e2 != 0) = true := bne_iff_ne.2 h0
        go_wp2_with (go_at_call 9; ((with_reducible refine (shead_c _).mono ?_); rintro e w9 ⟨rfl, hb9⟩))
        go_ret
        exact ⟨rfl, by (repeat (first | exact Below.refl _ _ | assumption | refine balloc ?_ _ | refine below_drewN ?_ _ | refine bstep (by assumption) ?_ | refine bstep (Past.prop _) ?_ | refine Below.setCell ?_ (by first | exact Nat.le_refl _ | (simp; done) | (simp; omega)) _))⟩
end Go.Proofs.Ythgenmejjflceaa

namespace Go.Proofs.Ythgenmejjflceaa
open Go.ChangeShapes Go.WideShapes Go.ChangeAt Go.RowKit
attribute [local irreducible] Go.Calls

theorem sfirst_few (F : List Sg) (k : Nat) (x n l1 l2 l3 l4 : Int) (a : Option Addr) (cap : Nat) (w : World) (S1 : SliS w (.slice a k cap) F) (hk : k ≤ 40) (hx : -1099511627776 ≤ x ∧ x ≤ 1099511627776) :
    Calls Try.prog 7 #[.slice a k cap, .agg #[.int .i64 x, .int .i64 n], .agg #[.int .i64 l1, .int .i64 l2, .int .i64 l3, .int .i64 l4]] w fun e w' => e = .returned (.bool true) ∧ Below w.heap.size w w' := by
  obtain ⟨t, b, e, t2, b2, e2, hD, hD2, herr, hok⟩ := first_known (F := F) (x := x) (n := n) (l := (l1, l2)) (more := (mx l1 l3, mx l2 l4)) hx (by simp only [mx_max]; omega)
  by_cases he : e = 0
  · subst he
    obtain ⟨⟨k1, k2, k3⟩, k4, k5, k6, k7⟩ := hok rfl
    cases b
    · exact sfirst_false F k x n l1 l2 l3 l4 a cap w S1 hk hx t hD t2 b2 e2 hD2 ⟨k1, k2⟩ k3 k4 k5 k6 k7
    · exact sfirst_true F k x n l1 l2 l3 l4 a cap w S1 hk hx t hD t2 b2 e2 hD2 ⟨k1, k2⟩ k3 k4 k5 k6 k7
  · obtain ⟨rfl, rfl⟩ := herr he
    exact sfirst_err F k x n l1 l2 l3 l4 a cap w S1 hk hx 0 e hD he rfl
end Go.Proofs.Ythgenmejjflceaa

namespace Go.Proofs.Ythgenmejjflceaa
open Go.ChangeShapes Go.WideShapes Go.ChangeAt Go.RowKit

theorem sfirst_c (F : List Sg) (x n l1 l2 l3 l4 : Int) (a : Option Addr) (cap : Nat) (w : World) (S1 : SliS w (.slice a F.length cap) F) :
    Calls Try.prog 7 #[.slice a F.length cap, .agg #[.int .i64 x, .int .i64 n], .agg #[.int .i64 l1, .int .i64 l2, .int .i64 l3, .int .i64 l4]] w fun e w' => e = .returned (.bool true) ∧ Below w.heap.size w w' := by
  by_cases h : 40 < F.length ∨ x < -1099511627776 ∨ 1099511627776 < x
  · exact sfirst_many F.length x n l1 l2 l3 l4 a cap w h
  · exact sfirst_few F F.length x n l1 l2 l3 l4 a cap w S1 (by omega) (by omega)

set_option maxRecDepth 100000 in
theorem spanFirst_lifted (os : Os) (started : os.Started) (H : Type) (enc : TypeId × Value → H) :
    ReturnsInHanded {} Try.checked os 7 .any (Rows.spanFirstSpec.pre6 enc Try.prog Try.f7 Rows.spanFirstRow.domain false) (Rows.spanFirstSpec.post enc Try.prog Try.f7 false true false false) := by
  refine returnsInHanded_of_change (C := Try.checked) own started (by kernel_rfl) Try.func7
    (ChangeSpec.witness6 (enc := enc) (C := Try.checked) false ⟨#[], #[.slice none 0 0, .agg #[.int .i64 0, .int .i64 0], .agg #[.int .i64 0, .int .i64 0, .int .i64 0, .int .i64 0]], []⟩ 8 (by kernel_rfl) (by kernel_rfl) (by kernel_rfl) (by kernel_rfl)) ?_
  intro W base args ds gs before hval0 hW _ _
  have hval : ∀ (j : Nat) t v, Try.f7.params[j]? = some t → args[j]? = some v → Value.okWide Try.prog W .any base t v := hval0
  have hW' := hW
  obtain ⟨p, q, hA0, hV, rfl, hfz, hnd⟩ := hW
  have hA : DataW.TrodAll enc Try.prog W 0 (fun _ => true) true Try.f7.params.toList args.toList ds p := hA0
  rw [Try.params7] at hA hval
  obtain ⟨v0, vs0, d0, ds0, p0, q0, hargs, rfl, rfl, h0, r0⟩ := trodAll_cons hA
  obtain ⟨v1, vs1, d1, ds1, p1, q1, rfl, rfl, rfl, h1, r1⟩ := trodAll_cons r0
  obtain ⟨v2, vs2, d2, ds2, p2, q2, rfl, rfl, rfl, h2, r2⟩ := trodAll_cons r1
  obtain ⟨rfl, rfl, rfl⟩ := trodAll_nil r2
  obtain rfl : args = #[v0, v1, v2] := by cases args; simp_all
  obtain ⟨l0, o0, c0, rfl, hl0, hA0', hS0⟩ := open_slisP (hval 0 22 v0 rfl rfl) h0
  obtain ⟨a1, b1, rfl⟩ := open_arr2 Try.underlying32 Try.underlying2 cellsI64 (by kernel_rfl) (hval 1 32 v1 rfl rfl) h1
  obtain ⟨a2, b2, e2, f2, rfl⟩ := open_vec2 Try.underlying52 Try.underlying26 rfl rfl rfl rfl Try.underlying2 cellsI64 cellsV (by kernel_rfl) (hval 2 52 v2 rfl rfl) h2
  clear hA0 hval0
  refine (sfirst_c l0 a1 b1 a2 b2 e2 f2 o0 c0 W hA0').mono fun e W' ⟨he, hb⟩ => ?_
  subst he
  exact ⟨_, rfl, law_post laidOut (readOk_spec (by kernel_rfl)) rfl Try.underlying4 rfl ⟨rfl, rfl, rfl⟩ hW' hb⟩

theorem spanFirst_holds : Rows.SpanFirstSaid :=
  OpenClaim.holds_of_wide 7 Try.f7 rfl rfl rfl rfl rfl rfl rfl ⟨rfl, rfl, rfl, rfl, rfl⟩ rfl rfl rfl rfl rfl (by kernel_rfl) Try.func7 (by kernel_rfl)
    (of_decide_eq_true (by kernel_rfl)) (by unfold Func.isWrapper; first | (rw [if_pos (by decide +kernel)]; kernel_rfl) | (rw [if_neg (by decide +kernel)]; exact ⟨rfl, rfl⟩))
    (fun os started H enc _ => spanFirst_lifted os started H enc)
end Go.Proofs.Ythgenmejjflceaa
