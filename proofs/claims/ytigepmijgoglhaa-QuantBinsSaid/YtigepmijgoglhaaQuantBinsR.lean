/- An array of two int64 that is handed in: two integers. No conditions. The contract of the document's own May of functions. No conditions but the list's size. The contracts of the document's own windows: may, bad, Low, High, Total, Sum. No conditions but the list's size. The contracts of the document's own sum of a window. No conditions but the list's size. QuantBins answers true for every list of runs, every quantum and time, and whatever number. No conditions but that the list lies within its capacity. QuantBins: for every list of runs, every quantum and time, and whatever number, the statement's function answers true and leaves its arguments alone. No conditions. -/
import Derived.Test.YtigepmijgoglhaaQGA
import Derived.OpenShut
import Derived.Test.YtigepmijgoglhaaQGD
import Derived.Test.YtigepmijgoglhaaQMA
import Derived.BigRegion
namespace Go.Proofs.Ytigepmijgoglhaa
open Go.ChangeShapes Go.WideShapes Go.ChangeAt Go.RowKit

theorem open_arr2 {H : Type} {enc : TypeId × Value → H} {P : Program} {t ti : TypeId} (ht : P.underlying t = some (.array 2 ti)) (hti : P.underlying ti = some (.int .i64)) (ce : P.cellsOf ti = 1) (ct : P.cellsOf t = 2)
    {W : World} {v : Value} {d : DataW H} {p : List MemPlace} {r : Reach} {b0 base : Nat} {sp : Nat → Bool} {held : Bool} (ho : Value.okWide P W r b0 t v) (h : DataW.Trod enc P W base sp held t v d p) :
    ∃ x y : Int, v = .agg #[.int .i64 x, .int .i64 y] := by
  simp only [Value.okWide, ht] at ho
  obtain ⟨cs, rfl, hsz, _⟩ := ho
  obtain ⟨fuel, hf⟩ := h
  obtain ⟨xs, m, _, _, hl, hxl, hx⟩ := DataW.trod_array ht hf
  rw [ct] at hsz
  obtain ⟨c0, c1, rfl⟩ : ∃ c0 c1, cs = #[c0, c1] := by
    obtain ⟨l⟩ := cs
    match l, hsz with
    | [c0, c1], _ => exact ⟨c0, c1, rfl⟩
  match xs, hxl with
  | [y0, y1], _ =>
    have h0 := hx 0 (by omega)
    have h1 := hx 1 (by omega)
    rw [ce] at h0 h1
    simp [Value.cells] at h0 h1
    obtain ⟨z0, e0, _, _⟩ := DataW.trod_int hti h0
    obtain ⟨z1, e1, _, _⟩ := DataW.trod_int hti h1
    simp at e0 e1
    subst e0 e1
    exact ⟨z0, z1, rfl⟩
end Go.Proofs.Ytigepmijgoglhaa

namespace Go.Proofs.Ytigepmijgoglhaa
open Go.ChangeShapes Go.WideShapes Go.ChangeAt Go.RowKit
attribute [local irreducible] Go.Calls

end Go.Proofs.Ytigepmijgoglhaa

namespace Go.Proofs.Ytigepmijgoglhaa
open Go.ChangeShapes Go.WideShapes Go.ChangeAt Go.RowKit
attribute [local irreducible] Go.Calls

end Go.Proofs.Ytigepmijgoglhaa

namespace Go.Proofs.Ytigepmijgoglhaa
open Go.ChangeShapes Go.WideShapes Go.ChangeAt Go.RowKit
attribute [local irreducible] Go.Calls

theorem may_ok {F : List Sg} (h : mayB F = true) : ∀ s ∈ F, okS s = true := CF.ok (mayB_iff.1 h)

set_option maxHeartbeats 2000000 in
theorem rtot_c (F : List Sg) (x : Int) (m : Nat) (a : Option Addr) (cap : Nat) (w : World) (hl : F.length ≤ 1099511627776) (ho : ∀ s ∈ F, okS s = true) (hm : m ≤ 8191) (hx : -4611686018427387904 ≤ x) (hx' : x ≤ 4611686018427387904) (hA : ArgS w a F) :
    Calls Try.prog 11 #[.slice a F.length cap, .int .i64 x, .int .i64 (x + m)] w fun e w' => e = .returned (V (sumN F x m).1 (sumN F x m).2) ∧ Below w.heap.size w w' := by
  have HA := hidE hA; clear hA
  have HS := hidE (fun k => sumN_le ho x k)
  have HO := hidE (fun t => okV_iff.1 (vat_ok ho t))
  clear ho
  go_enter Try.func11, Try.ntmps11
  go_wp2
  go_loopg [8, 9] m (fun g vi _ wr => ∃ k : Nat, k ≤ m ∧ m - k ≤ g ∧ vi = .int .i64 (x + k) ∧ Below w.heap.size w wr ∧ Blk wr (w.heap.size + 1) #[.int .i64 (sumN F x k).1, .int .i64 (sumN F x k).2] 35 ∧ Blk wr w.heap.size #[.int .i64 0, .int .i64 0] 35)
  case atStart => exact ⟨0, Nat.zero_le _, by omega, by go_num, by (repeat (first | exact Below.refl _ _ | assumption | refine balloc ?_ _ | refine below_drewN ?_ _ | refine bstep (by assumption) ?_ | refine bstep (Past.prop _) ?_ | refine Below.setCell ?_ (by first | exact Nat.le_refl _ | (simp; done) | (simp; omega)) _)), Blk.made_at _ _ _ _ (by simp), (Blk.made _ _ _).alloc _⟩
  case round =>
    obtain ⟨k, hk, hg, rfl, hb, h1, h0⟩ := hrel
    have H1 := hidE h1; have H0 := hidE h0; have HB := hidE hb
    by_cases hlt : k < m
    · have HAR := hidE (show ArgS wr a F from HA.out.past hb)
      have HAT := hidE (fun w hA => rat_c F a cap (x + k) w (by omega) hA)
      have HST := hidE (sumN_step F x k)
      have s1 := HS.out k
      have o1 := HO.out (x + k)
      clear h1 h0 hb
      generalize sumN F x k = q at *
      generalize vat F (x + k) = y at *
      obtain ⟨p1, p2, p3, p4⟩ := s1
      obtain ⟨q1, q2, q3, q4⟩ := o1
      have r1 : -9222246136947933184 ≤ q.1 := by omega
      have r2 : q.1 ≤ 9222246136947933184 := by omega
      have r3 : -9222246136947933184 ≤ q.2 := by omega
      have r4 : q.2 ≤ 9222246136947933184 := by omega
      have r5 : -9223372036854775808 ≤ q.1 + y.1 := by omega
      have r6 : q.1 + y.1 ≤ 9223372036854775807 := by omega
      have r7 : -9223372036854775808 ≤ q.2 + y.2 := by omega
      have r8 : q.2 + y.2 ≤ 9223372036854775807 := by omega
      clear p1 p2 p3 p4 q1 q2 q3 q4 r1 r2 r3 r4
      go_wp2_with fail
      ((with_reducible refine (HAT.out _ HAR.out).mono ?_); rintro e w1 ⟨rfl, hb1⟩)
      have B1 := H1.out.past hb1
      have B0 := H0.out.past hb1
      have HB1 := hidE (bstep hb1 HB.out)
      have c0 := B1.cell 0; have c1 := B1.cell 1; have f1 := B1.free; have z1 := B1.lt; have z0 := B0.lt
      simp at c0 c1
      have HB0 := hidE B0; have HBB1 := hidE B1
      clear hb1 B0 B1
      go_wp2
      go_roundg (m - (k + 1))
      case measure => omega
      case rel => exact ⟨k + 1, by omega, Nat.le_refl _, by go_num, by have := HB1.out; (repeat (first | exact Below.refl _ _ | assumption | refine balloc ?_ _ | refine below_drewN ?_ _ | refine bstep (by assumption) ?_ | refine bstep (Past.prop _) ?_ | refine Below.setCell ?_ (by first | exact Nat.le_refl _ | (simp; done) | (simp; omega)) _)), by rw [HST.out]; exact ((HBB1.out.set 0 _).set 1 _).alloc _, ((HB0.out.other (by omega) _).other (by omega) _).alloc _⟩
    · have hk' : k = m := by omega
      subst hk'
      have c0 := h1.cell 0; have c1 := h1.cell 1; have f1 := h1.free; have hp := h1.lt
      have c00 := h0.cell 0; have c01 := h0.cell 1; have f0 := h0.free; have hp0 := h0.lt
      simp at c0 c1 c00 c01
      generalize hqq : sumN F x k = q at *
      have HQQ := hidE hqq; clear hqq
      go_wp2
      have B0 := (h0.set 0 (.int .i64 q.1)).set 1 (.int .i64 q.2)
      have g0 := B0.cell 0; have g1 := B0.cell 1
      simp at g0 g1
      refine bodyPost_ret (v := V q.1 q.2) (by simp [results, Try.results11, go_sem, g0, g1]) rfl ⟨by rw [HQQ.out], ?_⟩
      (repeat (first | exact Below.refl _ _ | assumption | refine balloc ?_ _ | refine below_drewN ?_ _ | refine bstep (by assumption) ?_ | refine bstep (Past.prop _) ?_ | refine Below.setCell ?_ (by first | exact Nat.le_refl _ | (simp; done) | (simp; omega)) _))

end Go.Proofs.Ytigepmijgoglhaa

namespace Go.Proofs.Ytigepmijgoglhaa
open Go.ChangeShapes Go.WideShapes Go.ChangeAt Go.RowKit
attribute [local irreducible] Go.Calls

theorem qbins_many (n : Nat) (q x m : Int) (a : Option Addr) (cap : Nat) (w : World) (hm : 0 ≤ m ∧ m ≤ 255) (h : 30 < n ∨ 60 < q) :
    Calls Try.prog 4 #[.slice a n cap, .agg #[.int .i64 q, .int .i64 x], .int .u8 m] w fun e w' => e = .returned (.bool true) ∧ Below w.heap.size w w' := by
  by_cases h1 : 30 < n
  · have d1 : decide ((30 : Int) < (n : Int)) = true := decide_eq_true (by omega)
    go_enter Try.func4, Try.ntmps4
    go_wp2_with (go_at_call 9; ((with_reducible refine (qhead_c _).mono ?_); rintro e w9 ⟨rfl, hb9⟩))
    go_ret
    exact ⟨rfl, by (repeat (first | exact Below.refl _ _ | assumption | refine balloc ?_ _ | refine below_drewN ?_ _ | refine bstep (by assumption) ?_ | refine bstep (Past.prop _) ?_ | refine Below.setCell ?_ (by first | exact Nat.le_refl _ | (simp; done) | (simp; omega)) _))⟩
  · have d1 : decide ((30 : Int) < (n : Int)) = false := decide_eq_false (by omega)
    have d2 : decide (60 < q) = true := decide_eq_true (by omega)
    go_enter Try.func4, Try.ntmps4
    go_wp2_with (go_at_call 9; ((with_reducible refine (qhead_c _).mono ?_); rintro e w9 ⟨rfl, hb9⟩))
    go_ret
    exact ⟨rfl, by (repeat (first | exact Below.refl _ _ | assumption | refine balloc ?_ _ | refine below_drewN ?_ _ | refine bstep (by assumption) ?_ | refine bstep (Past.prop _) ?_ | refine Below.setCell ?_ (by first | exact Nat.le_refl _ | (simp; done) | (simp; omega)) _))⟩

/-- What is known of the integrals in quanta. -/
theorem bins_known {F : List Sg} {q x : Int} {k : Nat} (h : (binsS F q x k).2 = 0) : ∃ qn : Nat, q = qn ∧ 1 ≤ qn ∧ qn ≤ 4096 ∧ mayB F = true ∧ downS x q = (downI x q, 0) ∧ (-1099511631872 ≤ downI x q ∧ downI x q ≤ 1099511627776) ∧ (binsS F q x k).1 = binL F (downI x q) qn k := by
  obtain ⟨h1, h2, h3, e⟩ := binsS_zero h
  obtain ⟨b1, b2, b3, b4, b5, b6⟩ := bArg_iff.1 h2
  have d1 := down_le (t := x) (q := q) (by omega); have d2 := down_gt (t := x) (q := q) (by omega)
  refine ⟨q.toNat, by omega, by omega, by omega, h1, ?_, by omega, ?_⟩
  · rw [downS_ok (qBad_ok (qArg_iff.2 ⟨b1, b2⟩) (okT_iff.2 (by omega)))]
    exact qTold_ok (okT_iff.2 (by omega))
  · rw [e, Int.toNat_natCast]

set_option maxRecDepth 100000 in
set_option maxHeartbeats 8000000 in
theorem qbins_few (F : List Sg) (q x m : Int) (a : Option Addr) (cap : Nat) (w : World) (hm : 0 ≤ m ∧ m ≤ 255) (hF : F.length ≤ 30) (hq : q ≤ 60) (S1 : SliS w (.slice a F.length cap) F) :
    Calls Try.prog 4 #[.slice a F.length cap, .agg #[.int .i64 q, .int .i64 x], .int .u8 m] w fun e w' => e = .returned (.bool true) ∧ Below w.heap.size w w' := by
  have d1 : decide ((30 : Int) < (F.length : Int)) = false := decide_eq_false (by omega)
  have d2 : decide (60 < q) = false := decide_eq_false (by omega)
  obtain ⟨k, hk⟩ : ∃ k : Nat, m % 21 = k := ⟨(m % 21).toNat, by omega⟩
  have hk20 : k ≤ 20 := by omega
  obtain ⟨w0, hw0⟩ : ∃ w0, w0 = w.alloc (Obj.cells #[.int .i64 q, .int .i64 x] 30) := ⟨_, rfl⟩
  have B1 : Blk w0 w.heap.size #[.int .i64 q, .int .i64 x] 30 := by rw [hw0]; exact Blk.made _ _ _
  have hb0 : Below w.heap.size w w0 := by rw [hw0]; (repeat (first | exact Below.refl _ _ | assumption | refine balloc ?_ _ | refine below_drewN ?_ _ | refine bstep (by assumption) ?_ | refine bstep (Past.prop _) ?_ | refine Below.setCell ?_ (by first | exact Nat.le_refl _ | (simp; done) | (simp; omega)) _))
  replace S1 := S1.past hb0
  have kb := bins_known (F := F) (q := q) (x := x) (k := k)
  have kn := binsS_nil (F := F) (q := q) (x := x) (m := k)
  obtain ⟨L, e, hL⟩ : ∃ L e, binsS F q x k = (L, e) := ⟨_, _, rfl⟩
  obtain ⟨D, g, hD⟩ : ∃ D g, downS x q = (D, g) := ⟨_, _, rfl⟩
  rw [hL] at kb kn
  rw [hD] at kb
  simp only at kb kn
  have HL := hidE hL; have HD := hidE hD; have KB := hidE kb; have KN := hidE kn; have HK := hidE hk
  clear hL hD kb kn
  go_enter Try.func4, Try.ntmps4
  go_upto_region 1 with fail
  rw [← hw0]
  clear hw0
  obtain ⟨wb, hwb⟩ : ∃ wb : World, wb = w0 := ⟨_, rfl⟩
  subst hwb
  go_cut [7] (fun s7 wx => s7 = .int .i64 k ∧ wx = wb)
  case first =>
    clear hk
    go_wp2
    go_meet
    case rel => exact ⟨congrArg (Value.int .i64) HK.out, rfl⟩
  obtain ⟨rfl, rfl⟩ := hcut
  clear hk
  have b0 := B1.cell 0; have b1 := B1.cell 1; have bz := B1.lt
  simp at b0 b1
  go_upto_region 4 with fail
  go_cut [8, 9] (fun s8 s9 wx => ∃ (aL : Option Addr) (cL : Nat), s8 = .slice aL L.length cL ∧ s9 = .int .i64 e ∧ SliVs wx (.slice aL L.length cL) L ∧ SliS wx (.slice a F.length cap) F ∧ Blk wx w.heap.size #[.int .i64 q, .int .i64 x] 30 ∧ Below w.heap.size w wx)
  case first =>
    go_wp2_with (go_at_call 10; ((with_reducible refine (bins_s (F := F) S1 (by omega) HL.out).mono ?_); rintro e w2 ⟨aL, cL, rfl, SL, hbL⟩))
    go_meet
    case rel => exact ⟨aL, cL, rfl, rfl, SL, S1.past hbL, B1.past hbL, hb0.trans (hbL.mono hb0.size)⟩
  obtain ⟨aL, cL, rfl, rfl, SL, S1, B1, hb⟩ := hcut
  clear b0 b1 bz hb0 d1 d2
  have b0 := B1.cell 0; have b1 := B1.cell 1; have bz := B1.lt
  simp at b0 b1
  go_upto_region 5 with fail
  go_cut [10, 11] (fun s10 s11 wx => s10 = .int .i64 D ∧ s11 = .int .i64 g ∧ SliVs wx (.slice aL L.length cL) L ∧ SliS wx (.slice a F.length cap) F ∧ Blk wx w.heap.size #[.int .i64 q, .int .i64 x] 30 ∧ Below w.heap.size w wx)
  case first =>
    go_wp2_with (go_at_call 5; ((with_reducible refine (qdown_s HD.out).mono ?_); rintro e w3 ⟨rfl, hb3⟩))
    go_meet
    case rel => exact ⟨rfl, rfl, SL.past hb3, S1.past hb3, B1.past hb3, hb.trans (hb3.mono hb.size)⟩
  obtain ⟨rfl, rfl, SL, S1, B1, hb⟩ := hcut
  clear b0 b1 bz
  by_cases he : e = 0
  case neg =>
    have e1 : (e != 0) = true := bne_iff_ne.2 he
    obtain rfl := KN.out he
    go_wp2_with (go_at_call 9; ((with_reducible refine (qhead_c _).mono ?_); rintro e w9 ⟨rfl, hb9⟩))
    go_ret
    exact ⟨rfl, by (repeat (first | exact Below.refl _ _ | assumption | refine balloc ?_ _ | refine below_drewN ?_ _ | refine bstep (by assumption) ?_ | refine bstep (Past.prop _) ?_ | refine Below.setCell ?_ (by first | exact Nat.le_refl _ | (simp; done) | (simp; omega)) _))⟩
  obtain ⟨qn, hqn, q1, q2, hmay, hDg, hDD, hLL⟩ := KB.out he
  obtain ⟨rfl, rfl⟩ : D = downI x q ∧ g = 0 := ⟨congrArg Prod.fst hDg, congrArg Prod.snd hDg⟩
  subst he hqn hLL
  generalize downI x (qn : Int) = d at *
  have HOK := hidE (may_ok hmay)
  have HBE := hidE hb; have HS1 := hidE S1; have HSL := hidE SL; have HB1 := hidE B1; have HDD := hidE hDD; have HQ := hidE (And.intro q1 hq); have HKK := hidE hk20
  have HLEN := hidE (binL_len F d qn k)
  clear KB KN HL HD hDg hmay S1 SL B1 hb hDD
  obtain ⟨wd, hwd⟩ : ∃ wd : World, wd = wc := ⟨_, rfl⟩
  subst hwd
  go_wp2
  obtain ⟨wh, hwh⟩ : ∃ wh, wh = wd.alloc (Obj.cells #[.int .i64 0, .int .i64 0] 35) := ⟨_, rfl⟩
  have hBM : Blk wh wd.heap.size #[.int .i64 (sumN F d (0 * qn)).1, .int .i64 (sumN F d (0 * qn)).2] 35 := by rw [hwh, Nat.zero_mul]; exact Blk.made _ _ _
  have hbh : Below wd.heap.size wd wh := by rw [hwh]; exact (Below.refl _ _).alloc (Nat.le_refl _) _
  rw [← hwh]
  have HBM := hidE hBM; have HBH := hidE hbh
  clear hwh hBM hbh q1 q2 hq hk20
  go_loopg [13] k (fun gh v13 wr => ∃ i : Nat, i ≤ k ∧ k - i ≤ gh ∧ v13 = .int .i64 i ∧ Blk wr wd.heap.size #[.int .i64 (sumN F d (i * qn)).1, .int .i64 (sumN F d (i * qn)).2] 35 ∧ Below wd.heap.size wd wr)
  case atStart => exact ⟨0, Nat.zero_le _, by omega, rfl, HBM.out, HBH.out⟩
  case round =>
    obtain ⟨i, hi, hg, rfl, hB, hbr⟩ := hrel
    have HG := hidE hg; have HB := hidE hB; have HBR := hidE hbr
    have hlen := HLEN.out
    obtain ⟨hqa, hqb⟩ := HQ.out
    have hk20 := HKK.out
    have hiq : i * qn ≤ 1200 := Nat.le_trans (Nat.mul_le_mul (show i ≤ 20 by omega) (show qn ≤ 60 by omega)) (by omega)
    obtain ⟨wo, hwo⟩ : ∃ wo : World, wo = wr := ⟨_, rfl⟩
    by_cases hlt : i < k
    · have HD1 := hidE (show decide ((i : Int) < ((binL F d qn k).length : Int)) = true from decide_eq_true (by omega))
      have hd1 := HD1.out
      obtain ⟨_, _, _, hA⟩ := sliVs_len HSL.out
      obtain ⟨bb, off, ra, hbb0, hc0⟩ := hA (by omega)
      have hc := hc0.below hbr hbb0
      have hbb : bb < wr.heap.size := Nat.lt_of_lt_of_le hbb0 hbr.size
      obtain ⟨c0, c1⟩ := hc i (by omega)
      rw [binL_at F d qn hlt] at c0 c1
      have hil : i < (binL F d qn k).length := by omega
      subst ra
      have HS := hidE (show sumN F d ((i + 1) * qn) = ((sumN F d (i * qn)).1 + (sumN F (d + ((i * qn : Nat) : Int)) qn).1, (sumN F d (i * qn)).2 + (sumN F (d + ((i * qn : Nat) : Int)) qn).2) by rw [Nat.succ_mul, sumN_add])
      have s1 := sumN_le HOK.out d (i * qn)
      have s2 := sumN_le HOK.out (d + ((i * qn : Nat) : Int)) qn
      have e1 : (1125899906842624 : Int) * ((i * qn : Nat) : Int) ≤ 1351079888211148800 := by omega
      have e2 : (1125899906842624 : Int) * (qn : Int) ≤ 67553994410557440 := by omega
      generalize sumN F (d + ((i * qn : Nat) : Int)) qn = t at *
      generalize sumN F d (i * qn) = s at *
      have r1 : -1418633882621706240 ≤ s.1 + t.1 ∧ s.1 + t.1 ≤ 1418633882621706240 := by omega
      have r2 : -1418633882621706240 ≤ s.2 + t.2 ∧ s.2 + t.2 ≤ 1418633882621706240 := by omega
      have p0 := hB.cell 0; have p1 := hB.cell 1; have pf := hB.free; have pz := hB.lt
      simp at p0 p1
      have hbp : bb ≠ wd.heap.size := by omega
      clear hc hc0 hA hB hbr hiq s1 s2 e1 e2 hg hlen
      go_upto_region 12 with fail
      go_region
      go_upto_region 13 with fail
      go_region
      go_wp2
      go_roundg (k - (i + 1))
      case measure => have := HG.out; omega
      case rel =>
        refine ⟨i + 1, by omega, Nat.le_refl _, by go_num, ?_, ?_⟩
        · rw [HS.out]
          have q := (HB.out.set 0 (.int .i64 (s.1 + t.1))).set 1 (.int .i64 (s.2 + t.2))
          simp at q
          exact q
        · exact ((HBR.out.setCell (p := ⟨wd.heap.size, 0, none⟩) (Nat.le_refl _) _).setCell (p := ⟨wd.heap.size, 1, none⟩) (Nat.le_refl _) _).drew.drew
    · obtain rfl : i = k := by omega
      have hd1 : decide ((i : Int) < ((binL F d qn i).length : Int)) = false := decide_eq_false (by omega)
      have hd2 : decide (i < (binL F d qn i).length) = false := decide_eq_false (by omega)
      have hd3 : (((binL F d qn i).length : Int) == (i : Int)) = true := beq_iff_eq.2 (by omega)
      have hd4 : ((binL F d qn i).length : Int) = (i : Int) := by omega
      have hbw : Below w.heap.size w wr := HBE.out.trans (hbr.mono HBE.out.size)
      have HT := hidE (fun (w' : World) (hb : Below wr.heap.size wr w') => show Calls Try.prog 11 #[.slice a F.length cap, .int .i64 d, .int .i64 (d + (i : Int) * (qn : Int))] w' (fun e w'' => e = .returned (V (sumN F d (i * qn)).1 (sumN F d (i * qn)).2) ∧ Below w'.heap.size w' w'') from by
        obtain ⟨_, _, _, hA⟩ := ((HS1.out.past hbr).past hb).len
        have := rtot_c F d (i * qn) a cap w' (by omega) HOK.out (by omega) (by have := HDD.out; omega) (by have := HDD.out; omega) hA
        rw [Int.natCast_mul] at this
        exact this)
      have hkq : (0 : Int) ≤ (i : Int) * (qn : Int) ∧ (i : Int) * (qn : Int) ≤ 1200 := by
        rw [← Int.natCast_mul]
        omega
      have hdd := HDD.out
      have p0 := hB.cell 0; have p1 := hB.cell 1; have pz := hB.lt
      have hq1 := HB1.out.past hbr
      have b0 := hq1.cell 0; have b1 := hq1.cell 1; have bz := hq1.lt
      simp at p0 p1 b0 b1
      have HBW := hidE hbw
      generalize sumN F d (i * qn) = s at *
      clear hB hq1 hbw hbr hiq
      go_upto_region 14 with fail
      refine wp_region_past_lit (by kernel_rfl) (by kernel_rfl) ?_
      have hcp := Past.cell (W := wr)
      repeat (go_big_quiet_step (first | (go_at_call 11; exact Past.call _ (HT.out _ (Past.prop _))) | (go_at_call 9; exact Past.call _ (qhead_c _))))
      refine wpQuiet_nil ?_
      rintro _ ⟨x', rfl⟩
      go_wp2
      go_ret
      exact ⟨rfl, HBW.out.trans (x'.2.mono HBW.out.size)⟩
end Go.Proofs.Ytigepmijgoglhaa

namespace Go.Proofs.Ytigepmijgoglhaa
open Go.ChangeShapes Go.WideShapes Go.ChangeAt Go.RowKit

theorem qbins_c (F : List Sg) (q x m : Int) (a : Option Addr) (cap : Nat) (w : World) (S1 : SliS w (.slice a F.length cap) F) (hm : 0 ≤ m ∧ m ≤ 255) :
    Calls Try.prog 4 #[.slice a F.length cap, .agg #[.int .i64 q, .int .i64 x], .int .u8 m] w fun e w' => e = .returned (.bool true) ∧ Below w.heap.size w w' := by
  by_cases h : 30 < F.length ∨ 60 < q
  · exact qbins_many F.length q x m a cap w hm h
  · exact qbins_few F q x m a cap w hm (by omega) (by omega) S1

set_option maxRecDepth 100000 in
theorem quantBins_lifted (os : Os) (started : os.Started) (H : Type) (enc : TypeId × Value → H) :
    ReturnsInHanded {} Try.checked os 4 .any (Rows.quantBinsSpec.pre6 enc Try.prog Try.f4 Rows.quantBinsRow.domain false) (Rows.quantBinsSpec.post enc Try.prog Try.f4 false true false false) := by
  refine returnsInHanded_of_change (C := Try.checked) own started (by kernel_rfl) Try.func4
    (ChangeSpec.witness6 (enc := enc) (C := Try.checked) false ⟨#[], #[.slice none 0 0, .agg #[.int .i64 0, .int .i64 0], .int .u8 0], []⟩ 8 (by kernel_rfl) (by kernel_rfl) (by kernel_rfl) (by kernel_rfl)) ?_
  intro W base args ds gs before hval0 hW _ _
  have hval : ∀ (j : Nat) t v, Try.f4.params[j]? = some t → args[j]? = some v → Value.okWide Try.prog W .any base t v := hval0
  have hW' := hW
  obtain ⟨p, q, hA0, hV, rfl, hfz, hnd⟩ := hW
  have hA : DataW.TrodAll enc Try.prog W 0 (fun _ => true) true Try.f4.params.toList args.toList ds p := hA0
  rw [Try.params4] at hA hval
  obtain ⟨v0, vs0, d0, ds0, p0, q0, hargs, rfl, rfl, h0, r0⟩ := trodAll_cons hA
  obtain ⟨v1, vs1, d1, ds1, p1, q1, rfl, rfl, rfl, h1, r1⟩ := trodAll_cons r0
  obtain ⟨v2, vs2, d2, ds2, p2, q2, rfl, rfl, rfl, h2, r2⟩ := trodAll_cons r1
  obtain ⟨rfl, rfl, rfl⟩ := trodAll_nil r2
  obtain rfl : args = #[v0, v1, v2] := by cases args; simp_all
  obtain ⟨l0, o0, c0, rfl, hl0, hA0', hS0⟩ := open_slisP (hval 0 29 v0 rfl rfl) h0
  obtain ⟨a1, b1, rfl⟩ := open_arr2 Try.underlying30 Try.underlying2 cellsI64 (by kernel_rfl) (hval 1 30 v1 rfl rfl) h1
  obtain ⟨a2, rfl, rfl, rfl, wa2⟩ := open_int Try.underlying5 (hval 2 5 v2 rfl rfl) h2
  have ha2 : 0 ≤ a2 ∧ a2 ≤ 255 := by simpa [Lit.wf, IntKind.min, IntKind.max, IntKind.signed, IntKind.bits] using wa2
  clear hA0 hval0
  refine (qbins_c l0 a1 b1 a2 o0 c0 W hA0' ha2).mono fun e W' ⟨he, hb⟩ => ?_
  subst he
  exact ⟨_, rfl, law_post laidOut (readOk_spec (by kernel_rfl)) rfl Try.underlying4 rfl ⟨rfl, rfl, rfl⟩ hW' hb⟩

theorem quantBins_holds : Rows.QuantBinsSaid :=
  OpenClaim.holds_of_wide 4 Try.f4 rfl rfl rfl rfl rfl rfl rfl ⟨rfl, rfl, rfl, rfl, rfl⟩ rfl rfl rfl rfl rfl (by kernel_rfl) Try.func4 (by kernel_rfl)
    (of_decide_eq_true (by kernel_rfl)) (by unfold Func.isWrapper; first | (rw [if_pos (by decide +kernel)]; kernel_rfl) | (rw [if_neg (by decide +kernel)]; exact ⟨rfl, rfl⟩))
    (fun os started H enc _ => quantBins_lifted os started H enc)
end Go.Proofs.Ytigepmijgoglhaa
