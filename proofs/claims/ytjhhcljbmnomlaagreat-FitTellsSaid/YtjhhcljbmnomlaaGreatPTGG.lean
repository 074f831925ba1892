/- The contracts of span.along, Sum, Low and High. No conditions but the lists' sizes, and that the slices' cells read as integers. The contracts of span.Low and High. No conditions but the lists' sizes, and that the slices' cells read as integers. The contract of vec.Units, parted from the rest of vec. No conditions. The contract of vec.Scale. No conditions but that n is an int64. Package fit: whether a window can be asked for, what fits, what is taken, how many units. No conditions but the lists' sizes, and that the slices' cells read as integers. An owned row in whose block no number stands takes an append: still none stands there. So what reads as numbers lies elsewhere, and stays. No function of the program. No conditions. Package fit: the free function. No conditions but the sizes, and that the slices' cells read as functions and policies. Package fit: what is taken, and how many units fit. No conditions but the lists' sizes, and that the slices' cells read as integers. The contract of the document's own LE of functions. No conditions but the lists' sizes. For the walks of fit's statements: what the layers below hand back, from slices that read as lists. No conditions. liveryref15.Into: does a vector fit, by definition. No conditions but the list's size, and that the slice's cells read as integers. -/
import Derived.Test.YtjhhcljbmnomlaaGreatPTGF
import Derived.Test.YtjhhcljbmnomlaaGreatPTGA
import Derived.LoopTactic
import Derived.Test.YtjhhcljbmnomlaaGreatPTMB
import Derived.Test.YtjhhcljbmnomlaaGreatPTGE
import Derived.Laws.AppendOwn
import Derived.Laws.OwnMore
import Derived.Test.YtjhhcljbmnomlaaGreatPTGD
import Derived.Test.YtjhhcljbmnomlaaGreatPTGC
namespace Go.Proofs.YtjhhcljbmnomlaaGreat
open Go.ChangeShapes Go.WideShapes Go.ChangeAt Go.RowKit Go.Shelf
attribute [local irreducible] Go.Calls

theorem wrap_add {a b : Int} (h : -9223372036854775808 ≤ a + b) (h2 : a + b ≤ 9223372036854775807) : wrap64 (a + wrap64 b) = a + b := by unfold wrap64; omega
set_option maxHeartbeats 1000000 in
theorem along_c (a b n c d : Int) (w : World) (h1 : -9223372036854775808 ≤ a + n * c ∧ a + n * c ≤ 9223372036854775807) (h2 : -9223372036854775808 ≤ b + n * d ∧ b + n * d ≤ 9223372036854775807) :
    Calls Tryz.prog 248 #[V a b, .int .i64 n, V c d] w fun e w' => e = .returned (V (a + n * c) (b + n * d)) ∧ Below w.heap.size w w' := by
  have H1 := hidE (wrap_add h1.1 h1.2); have H2 := hidE (wrap_add h2.1 h2.2)
  clear h1 h2
  go_enter Tryz.func248, Tryz.ntmps248
  go_wp2
  refine bodyPost_ret (v := V (a + n * c) (b + n * d)) ?_ rfl ⟨rfl, ?_⟩
  · have q1 := H1.out; have q2 := H2.out
    simp [results, Tryz.results248, go_sem, q1, q2]
  · (repeat (first | exact Below.refl _ _ | assumption | refine balloc ?_ _ | refine below_drewN ?_ _ | refine bstep (by assumption) ?_ | refine bstep (Past.prop _) ?_ | refine Below.setCell ?_ (by first | exact Nat.le_refl _ | (simp; done) | (simp; omega)) _))

/-- What the closure keeps. -/
theorem addcl_c (s : St) (p : Nat) (acc : Int × Int) (w : World) (hB : Blk w p #[.int .i64 acc.1, .int .i64 acc.2] 65)
    (h0 : -9223372036854775808 ≤ s.2.1 - s.1 ∧ s.2.1 - s.1 ≤ 9223372036854775807)
    (h1 : -9223372036854775808 ≤ (addG acc s).1 ∧ (addG acc s).1 ≤ 9223372036854775807) (h2 : -9223372036854775808 ≤ (addG acc s).2 ∧ (addG acc s).2 ≤ 9223372036854775807) :
    Calls Tryz.prog 247 (encS s ++ #[.pointer (some ⟨p, 0, none⟩)]) w fun e w' => (∃ v, e = .returned v) ∧ Blk w' p #[.int .i64 (addG acc s).1, .int .i64 (addG acc s).2] 65 ∧ w.grownBy w' (some p) := by
  have HC := hidE (fun w => along_c acc.1 acc.2 (s.2.1 - s.1) s.2.2.1 s.2.2.2 w h1 h2)
  have e0 := hB.cell 0; have e1 := hB.cell 1; have ef := hB.free; have ez := hB.lt
  simp at e0 e1
  have HB := hidE hB
  have HG := hidE (show addG acc s = (acc.1 + (s.2.1 - s.1) * s.2.2.1, acc.2 + (s.2.1 - s.1) * s.2.2.2) from rfl)
  clear h1 h2 hB
  rw [HG.out]
  show Calls _ _ #[.agg #[.int .i64 s.1, .int .i64 s.2.1, .int .i64 s.2.2.1, .int .i64 s.2.2.2], .pointer (some ⟨p, 0, none⟩)] _ _
  generalize acc.1 + (s.2.1 - s.1) * s.2.2.1 = q1 at *
  generalize acc.2 + (s.2.1 - s.1) * s.2.2.2 = q2 at *
  go_enter Tryz.func247, Tryz.ntmps247
  go_wp2_with fail
  ((with_reducible refine (HC.out _).mono ?_); rintro e w1 ⟨rfl, hb1⟩)
  have hb : Below w.heap.size w w1 := by (repeat (first | exact Below.refl _ _ | assumption | refine balloc ?_ _ | refine below_drewN ?_ _ | refine bstep (by assumption) ?_ | refine bstep (Past.prop _) ?_ | refine Below.setCell ?_ (by first | exact Nat.le_refl _ | (simp; done) | (simp; omega)) _))
  have B1 := HB.out.below hb ez
  clear hb1 e0 e1 ef ez
  have e0 := B1.cell 0; have e1 := B1.cell 1; have ef := B1.free; have ez := B1.lt
  simp at e0 e1
  go_wp2
  go_end0
  refine ⟨⟨_, rfl⟩, by simpa using (B1.set 0 (.int .i64 q1)).set 1 (.int .i64 q2), ?_⟩
  exact grown_trans (grown_trans (grown_any hb) (grown_set _ _ _ _)) (grown_set _ _ _ _)

/-- The sum so far. -/
def sumJ (F : List Sg) (x : Int) (p : Nat) (pre : List St) (W : World) : Prop :=
  Blk W p #[.int .i64 (sumN F x (endG x pre - x).toNat).1, .int .i64 (sumN F x (endG x pre - x).toNat).2] 65
set_option maxHeartbeats 1000000 in
theorem sum_c (F : List Sg) (x y : Int) (a : Option Addr) (cap : Nat) (w : World) (hl : F.length ≤ 1000000000) (hA : ArgS w a F) :
    Calls Tryz.prog 233 #[.slice a F.length cap, .int .i64 x, .int .i64 y] w fun e w' => e = .returned (VE (totS F x y)) ∧ Below w.heap.size w w' := by
  obtain ⟨w0, hw0⟩ : ∃ w0, w0 = w.alloc (Obj.cells #[.int .i64 0, .int .i64 0] 65) := ⟨_, rfl⟩
  have hz0 : w0.heap.size = w.heap.size + 1 := by rw [hw0]; simp
  have hA0 : ArgS w0 a F := hA.past (by rw [hw0]; (repeat (first | exact Below.refl _ _ | assumption | refine balloc ?_ _ | refine below_drewN ?_ _ | refine bstep (by assumption) ?_ | refine bstep (Past.prop _) ?_ | refine Below.setCell ?_ (by first | exact Nat.le_refl _ | (simp; done) | (simp; omega)) _)))
  have HEV := hidE (fun (w' : World) (hb : Below w0.heap.size w0 w') (hB : Blk w' (w.heap.size + 1) #[.int .i64 0, .int .i64 0] 65) => ev_c F x y a cap 247 #[.pointer (some ⟨w.heap.size + 1, 0, none⟩)] w0 w' (sumJ F x (w.heap.size + 1)) hl hA0 hb
    (enters_of Tryz.func247 (by kernel_rfl) rfl) (fun s A B h hb2 => h.below hb2 hB.lt)
    (fun hbad pre s W hz hJ hpre => by
      obtain ⟨hm, hwn⟩ := badW_zero.1 hbad
      rw [wndB_iff] at hwn
      obtain ⟨k1, k2, k3, k4, k5⟩ := str_at (mayB_iff.1 hm) hpre
      have hsum := add_str (F := F) k2 k3 k5
      have hle := sumN_le (CF.ok (mayB_iff.1 hm)) x (s.2.1 - x).toNat
      have hke : (s.2.1 - x).toNat ≤ 8000 := by omega
      unfold sumJ at hJ
      rw [← k1] at hJ
      have hq : ((((s.2.1 - x).toNat : Nat)) : Int) ≤ 8000 := by omega
      have hm2 : (1125899906842624 : Int) * (((s.2.1 - x).toNat : Nat)) ≤ 9007199254740992000 := by omega
      refine (addcl_c s (w.heap.size + 1) (sumN F x (s.1 - x).toNat) W hJ (by omega) (by rw [← hsum]; omega) (by rw [← hsum]; omega)).mono ?_
      rintro e W' ⟨hv, hB2, hg⟩
      refine ⟨hv, ?_, Outside.of_grown hg (by omega) hB.lt (Nat.le_trans hb.size hz)⟩
      unfold sumJ
      rw [endG_snoc, hsum]
      exact hB2)
    (by unfold sumJ; rw [show endG x [] - x = 0 from Int.sub_self x]; exact hB))
  have HT := hidE (show totS F x y = ((sumN F x (endG x (evS F x y) - x).toNat).1, (sumN F x (endG x (evS F x y) - x).toNat).2, badW F x y) from by
    by_cases hq : badW F x y = 0
    · obtain ⟨hm, hwn⟩ := badW_zero.1 hq
      rw [wndB_iff] at hwn
      rw [totS_ok hq, show evS F x y = strL F x y from if_pos hq, str_end (mayB_iff.1 hm) (by omega), hq]
    · rw [totS_no hq, show evS F x y = [] from if_neg hq, show endG x [] - x = 0 from Int.sub_self x]; rfl)
  clear hA hA0
  rw [HT.out]
  unfold sumJ at HEV
  generalize sumN F x (endG x (evS F x y) - x).toNat = q at *
  generalize badW F x y = er at *
  have HB00 := hidE (show Blk w0 w.heap.size #[.int .i64 0, .int .i64 0] 65 by rw [hw0]; exact Blk.made _ _ _)
  have HBW := hidE (show Below w.heap.size w w0 by rw [hw0]; (repeat (first | exact Below.refl _ _ | assumption | refine balloc ?_ _ | refine below_drewN ?_ _ | refine bstep (by assumption) ?_ | refine bstep (Past.prop _) ?_ | refine Below.setCell ?_ (by first | exact Nat.le_refl _ | (simp; done) | (simp; omega)) _)))
  go_enter Tryz.func233, Tryz.ntmps233
  go_wp2_with fail
  rw [← hw0]
  ((with_reducible refine (HEV.out _ ?hb0 ?hB0).mono ?_)); case hb0 => exact (Below.refl _ w0).alloc (Nat.le_refl _) _
  case hB0 => exact Blk.made_at _ _ _ _ (by omega)
  rintro e w1 ⟨rfl, hB1, hb1⟩
  have B0 := HB00.out.below hb1 (by omega)
  have e0 := hB1.cell 0; have e1 := hB1.cell 1; have ez := hB1.lt; have d0 := B0.cell 0; have d1 := B0.cell 1; have df := B0.free; have dz := B0.lt
  simp at e0 e1 d0 d1
  have B2 := (B0.set 0 (.int .i64 q.1)).set 1 (.int .i64 q.2)
  have g0 := B2.cell 0; have g1 := B2.cell 1
  simp at g0 g1
  have HBB := hidE (HBW.out.trans (hb1.mono (by omega)))
  clear hB1 hb1 B0 B2
  go_wp2
  refine bodyPost_ret (v := VE (q.1, q.2, er)) (by simp [results, Tryz.results233, go_sem, g0, g1]) rfl ⟨rfl, ?_⟩
  exact (HBB.out.setCell (p := ⟨w.heap.size, 0, none⟩) (Nat.le_refl _) _).setCell (p := ⟨w.heap.size, 1, none⟩) (Nat.le_refl _) _
end Go.Proofs.YtjhhcljbmnomlaaGreat

namespace Go.Proofs.YtjhhcljbmnomlaaGreat
open Go.ChangeShapes Go.WideShapes Go.ChangeAt Go.RowKit Go.Shelf
attribute [local irreducible] Go.Calls

/-- What the closure keeps. -/
theorem lowcl_c (s : St) (p p0 p2 n cap : Nat) (a : Option Addr) (x y : Int) (v r : Int × Int) (w : World) (hB : Blk w p #[.int .i64 v.1, .int .i64 v.2] 65)
    (hW : Blk w p0 #[.slice a n cap, .int .i64 x, .int .i64 y] 245) (hP : Blk w p2 #[.func (.func 115) #[] #[]] 186) (_hp0 : p0 ≠ p) (hp2 : p2 ≠ p)
    (hr : r = if s.1 = x then (mn s.2.2.1 s.2.2.1, mn s.2.2.2 s.2.2.2) else (mn v.1 s.2.2.1, mn v.2 s.2.2.2)) :
    Calls Tryz.prog 217 (encS s ++ #[.pointer (some ⟨p0, 0, none⟩), .pointer (some ⟨p, 0, none⟩), .pointer (some ⟨p2, 0, none⟩)]) w fun e w' => (∃ v, e = .returned v) ∧ Blk w' p #[.int .i64 r.1, .int .i64 r.2] 65 ∧ w.grownBy w' (some p) := by
  have c0 := hB.cell 0; have c1 := hB.cell 1; have cf := hB.free; have cz := hB.lt; have d1 := hW.cell 1; have dz := hW.lt; have g0 := hP.cell 0; have gz := hP.lt
  simp at c0 c1 d1 g0
  have HB := hidE hB; have HP := hidE hP
  have HR := hidE hr
  clear hB hW hP hr
  show Calls _ _ #[.agg #[.int .i64 s.1, .int .i64 s.2.1, .int .i64 s.2.2.1, .int .i64 s.2.2.2], .pointer (some ⟨p0, 0, none⟩), .pointer (some ⟨p, 0, none⟩), .pointer (some ⟨p2, 0, none⟩)] _ _
  by_cases hx : s.1 = x
  · have hd : (s.1 == x) = true := beq_iff_eq.2 hx
    have HR2 := hidE (HR.out.trans (if_pos hx))
    have HC := hidE (fun w => mn_c s.2.2.1 s.2.2.2 s.2.2.1 s.2.2.2 w)
    rw [HR2.out]
    clear hx HR
    generalize mn s.2.2.1 s.2.2.1 = q1 at *
    generalize mn s.2.2.2 s.2.2.2 = q2 at *
    go_enter Tryz.func217, Tryz.ntmps217
    go_upto_region 3 with fail
    go_wp2_with fail
    ((with_reducible refine (HC.out _).mono ?_); rintro e w1 ⟨rfl, hb1⟩)
    have hg : w.grownBy w1 (some p) := grown_trans (grown_trans (grown_trans (grown_set _ _ _ _) (grown_set _ _ _ _)) (grown_alloc _ _ _)) (grown_any hb1)
    have B1 : Blk w1 p #[.int .i64 s.2.2.1, .int .i64 s.2.2.2] 65 := by
      have := ((((HB.out.set 0 (.int .i64 s.2.2.1)).set 1 (.int .i64 s.2.2.2)).alloc (Obj.cells #[.int .i64 s.1, .int .i64 s.2.1, .int .i64 s.2.2.1, .int .i64 s.2.2.2] 276))).past hb1
      simpa using this
    have hg' := hidE hg; have HB1 := hidE B1
    have e0 := B1.cell 0; have e1 := B1.cell 1; have ef := B1.free; have ez := B1.lt
    simp at e0 e1
    clear hg B1 hb1 c0 c1 cf cz d1 dz g0 gz
    go_wp2
    go_end0
    refine ⟨⟨_, rfl⟩, by simpa using (HB1.out.set 0 (.int .i64 q1)).set 1 (.int .i64 q2), ?_⟩
    exact grown_trans (grown_trans hg'.out (grown_set _ _ _ _)) (grown_set _ _ _ _)
  · have hd : (s.1 == x) = false := beq_eq_false_iff_ne.2 hx
    have HR2 := hidE (HR.out.trans (if_neg hx))
    have HC := hidE (fun w => mn_c v.1 v.2 s.2.2.1 s.2.2.2 w)
    rw [HR2.out]
    clear hx HR
    generalize mn v.1 s.2.2.1 = q1 at *
    generalize mn v.2 s.2.2.2 = q2 at *
    go_enter Tryz.func217, Tryz.ntmps217
    go_upto_region 3 with fail
    go_wp2_with fail
    ((with_reducible refine (HC.out _).mono ?_); rintro e w1 ⟨rfl, hb1⟩)
    have hg : w.grownBy w1 (some p) := grown_trans (grown_alloc _ _ _) (grown_any hb1)
    have B1 : Blk w1 p #[.int .i64 v.1, .int .i64 v.2] 65 := (HB.out.alloc (Obj.cells #[.int .i64 s.1, .int .i64 s.2.1, .int .i64 s.2.2.1, .int .i64 s.2.2.2] 276)).past hb1
    have hg' := hidE hg; have HB1 := hidE B1
    have e0 := B1.cell 0; have e1 := B1.cell 1; have ef := B1.free; have ez := B1.lt
    simp at e0 e1
    clear hg B1 hb1 c0 c1 cf cz d1 dz g0 gz
    go_wp2
    go_end0
    refine ⟨⟨_, rfl⟩, by simpa using (HB1.out.set 0 (.int .i64 q1)).set 1 (.int .i64 q2), ?_⟩
    exact grown_trans (grown_trans hg'.out (grown_set _ _ _ _)) (grown_set _ _ _ _)
/-- The value so far. -/
def lowV (F : List Sg) (x z : Int) : Int × Int := if z = x then (0, 0) else lowN F x (z - x).toNat
def lowJ (F : List Sg) (x : Int) (w : World) (wn pk : Array Value) (pre : List St) (W : World) : Prop :=
  Blk W (w.heap.size + 1 + 1 + 1) #[.int .i64 (lowV F x (endG x pre)).1, .int .i64 (lowV F x (endG x pre)).2] 65 ∧ Blk W w.heap.size wn 245 ∧ Blk W (w.heap.size + 1) pk 186
theorem lowV_step {F : List Sg} {x : Int} {s : St} (hx : x ≤ s.1) (h : s.1 < s.2.1) (hv : ∀ t, s.1 ≤ t → t < s.2.1 → vat F t = s.2.2) :
    lowV F x s.2.1 = if s.1 = x then (mn s.2.2.1 s.2.2.1, mn s.2.2.2 s.2.2.2) else (mn (lowV F x s.1).1 s.2.2.1, mn (lowV F x s.1).2 s.2.2.2) := by
  have e := low_str hx h hv
  unfold lowV
  rw [if_neg (by omega), e]
  by_cases c : s.1 = x
  · rw [if_pos c, c, Int.sub_self]
    have : lowN F x (Int.toNat 0) = s.2.2 := by
      show vat F x = s.2.2
      exact hv x (by omega) (by omega)
    rw [this]
  · rw [if_neg c, if_neg c]

set_option maxHeartbeats 1000000 in
theorem lowex_c (F : List Sg) (x y : Int) (a : Option Addr) (cap : Nat) (w : World) (hl : F.length ≤ 1000000000) (hA : ArgS w a F) :
    Calls Tryz.prog 181 #[WN a F.length cap x y, .func (.func 115) #[] #[]] w fun e w' => e = .returned (VE (lowS F x y)) ∧ Below w.heap.size w w' := by
  obtain ⟨w0, hw0⟩ : ∃ w0, w0 = ((w.alloc (Obj.cells #[.slice a F.length cap, .int .i64 x, .int .i64 y] 245)).alloc (Obj.cells #[.func (.func 115) #[] #[]] 186)).alloc (Obj.cells #[.int .i64 0, .int .i64 0] 65) := ⟨_, rfl⟩
  have hz0 : w0.heap.size = w.heap.size + 1 + 1 + 1 := by rw [hw0]; simp
  have hbw0 : Below w.heap.size w w0 := by rw [hw0]; (repeat (first | exact Below.refl _ _ | assumption | refine balloc ?_ _ | refine below_drewN ?_ _ | refine bstep (by assumption) ?_ | refine bstep (Past.prop _) ?_ | refine Below.setCell ?_ (by first | exact Nat.le_refl _ | (simp; done) | (simp; omega)) _))
  have hA0 : ArgS w0 a F := hA.past hbw0
  have HB0 := hidE (show Blk w0 w.heap.size #[.slice a F.length cap, .int .i64 x, .int .i64 y] 245 by rw [hw0]; exact ((Blk.made _ _ _).alloc _).alloc _)
  have HB1 := hidE (show Blk w0 (w.heap.size + 1) #[.func (.func 115) #[] #[]] 186 by rw [hw0]; exact (Blk.made_at _ _ _ _ (by simp)).alloc _)
  have HB2 := hidE (show Blk w0 (w.heap.size + 1 + 1) #[.int .i64 0, .int .i64 0] 65 by rw [hw0]; exact Blk.made_at _ _ _ _ (by simp))
  have HEV := hidE (fun (w' : World) (hb : Below w0.heap.size w0 w') (hB : Blk w' (w.heap.size + 1 + 1 + 1) #[.int .i64 0, .int .i64 0] 65) => ev_c F x y a cap 217 #[.pointer (some ⟨w.heap.size, 0, none⟩), .pointer (some ⟨w.heap.size + 1 + 1 + 1, 0, none⟩), .pointer (some ⟨w.heap.size + 1, 0, none⟩)] w0 w'
    (fun pre W => lowJ F x w #[.slice a F.length cap, .int .i64 x, .int .i64 y] #[.func (.func 115) #[] #[]] pre W) hl hA0 hb
    (enters_of Tryz.func217 (by kernel_rfl) rfl) (fun s A B h hb2 => ⟨h.1.below hb2 hB.lt, h.2.1.below hb2 (by have := hB.lt; omega), h.2.2.below hb2 (by have := hB.lt; omega)⟩)
    (fun hbad pre s W hz hJ hpre => by
      obtain ⟨hm, hwn⟩ := badW_zero.1 hbad
      obtain ⟨k1, k2, k3, k4, k5⟩ := str_at (mayB_iff.1 hm) hpre
      obtain ⟨j1, j2, j3⟩ := hJ
      rw [← k1] at j1
      refine (lowcl_c s (w.heap.size + 1 + 1 + 1) w.heap.size (w.heap.size + 1) F.length cap a x y (lowV F x s.1) (lowV F x s.2.1) W j1 j2 j3 (by omega) (by omega) (lowV_step k2 k3 k5)).mono ?_
      rintro e W' ⟨hv, hB2, hg⟩
      refine ⟨hv, ⟨?_, j2.grown hg (by simp; omega), j3.grown hg (by simp)⟩, Outside.of_grown hg (by omega) hB.lt (Nat.le_trans hb.size hz)⟩
      rw [endG_snoc]
      exact hB2)
    ⟨by rw [show lowV F x (endG x []) = (0, 0) from if_pos rfl]; exact hB, HB0.out.below hb (by omega), HB1.out.below hb (by omega)⟩)
  have HT := hidE (show lowS F x y = ((lowV F x (endG x (evS F x y))).1, (lowV F x (endG x (evS F x y))).2, badW F x y) from by
    by_cases hq : badW F x y = 0
    · obtain ⟨hm, hwn⟩ := badW_zero.1 hq
      rw [wndB_iff] at hwn
      rw [lowS_ok hq, show evS F x y = strL F x y from if_pos hq, str_end (mayB_iff.1 hm) (by omega), hq]
      unfold lowV
      rw [if_neg (by omega)]
    · rw [lowS_no hq, show evS F x y = [] from if_neg hq, show lowV F x (endG x []) = (0, 0) from if_pos rfl])
  clear hA hA0
  rw [HT.out]
  unfold lowJ at HEV
  generalize lowV F x (endG x (evS F x y)) = q at *
  generalize badW F x y = er at *
  have HBW := hidE hbw0
  clear hbw0
  have c0 := HB0.out.cell 0; have c1 := HB0.out.cell 1; have c2 := HB0.out.cell 2; have z0 := HB0.out.lt; have z2 := HB2.out.lt
  simp at c0 c1 c2
  go_enter Tryz.func181, Tryz.ntmps181
  go_wp2_with fail
  rw [← hw0]
  ((with_reducible refine (HEV.out _ ?hb0 ?hB0).mono ?_)); case hb0 => exact (Below.refl _ w0).alloc (Nat.le_refl _) _
  case hB0 => exact Blk.made_at _ _ _ _ (by omega)
  rintro e w1 ⟨rfl, ⟨hB1, _, _⟩, hb1⟩
  have B0 := HB2.out.below hb1 (by omega)
  clear c0 c1 c2 z0 z2
  have e0 := hB1.cell 0; have e1 := hB1.cell 1; have ez := hB1.lt; have d0 := B0.cell 0; have d1 := B0.cell 1; have df := B0.free; have dz := B0.lt
  simp at e0 e1 d0 d1
  have B2 := (B0.set 0 (.int .i64 q.1)).set 1 (.int .i64 q.2)
  have g0 := B2.cell 0; have g1 := B2.cell 1
  simp at g0 g1
  have HBB := hidE (HBW.out.trans (hb1.mono (by omega)))
  clear hB1 hb1 B0 B2
  go_wp2
  refine bodyPost_ret (v := VE (q.1, q.2, er)) (by simp [results, Tryz.results181, go_sem, g0, g1]) rfl ⟨rfl, ?_⟩
  exact (HBB.out.setCell (p := ⟨w.heap.size + 1 + 1, 0, none⟩) (by simp; omega) _).setCell (p := ⟨w.heap.size + 1 + 1, 1, none⟩) (by simp; omega) _

theorem low_c (F : List Sg) (x y : Int) (a : Option Addr) (cap : Nat) (w : World) (hl : F.length ≤ 1000000000) (hA : ArgS w a F) :
    Calls Tryz.prog 131 #[.slice a F.length cap, .int .i64 x, .int .i64 y] w fun e w' => e = .returned (VE (lowS F x y)) ∧ Below w.heap.size w w' := by
  have HA := hidE hA
  have HX := hidE (fun w' hA => lowex_c F x y a cap w' hl hA)
  clear hA
  generalize lowS F x y = q at *
  go_enter Tryz.func131, Tryz.ntmps131
  go_wp2_with fail
  ((with_reducible refine (HX.out _ (HA.out.past (by (repeat (first | exact Below.refl _ _ | assumption | refine balloc ?_ _ | refine below_drewN ?_ _ | refine bstep (by assumption) ?_ | refine bstep (Past.prop _) ?_ | refine Below.setCell ?_ (by first | exact Nat.le_refl _ | (simp; done) | (simp; omega)) _))))).mono ?_); rintro e w1 ⟨rfl, hb1⟩)
  have B0 := (Blk.made w #[.int .i64 0, .int .i64 0] 65).past hb1
  have d0 := B0.cell 0; have d1 := B0.cell 1; have df := B0.free; have dz := B0.lt
  simp at d0 d1
  have B2 := (B0.set 0 (.int .i64 q.1)).set 1 (.int .i64 q.2.1)
  have g0 := B2.cell 0; have g1 := B2.cell 1
  simp at g0 g1
  have hb : Below w.heap.size w w1 := by (repeat (first | exact Below.refl _ _ | assumption | refine balloc ?_ _ | refine below_drewN ?_ _ | refine bstep (by assumption) ?_ | refine bstep (Past.prop _) ?_ | refine Below.setCell ?_ (by first | exact Nat.le_refl _ | (simp; done) | (simp; omega)) _))
  have HBB := hidE hb
  clear B0 B2 hb hb1
  go_wp2
  refine bodyPost_ret (v := VE q) (by simp [results, Tryz.results131, go_sem, g0, g1]) rfl ⟨rfl, ?_⟩
  exact (HBB.out.setCell (p := ⟨w.heap.size, 0, none⟩) (Nat.le_refl _) _).setCell (p := ⟨w.heap.size, 1, none⟩) (Nat.le_refl _) _
end Go.Proofs.YtjhhcljbmnomlaaGreat

namespace Go.Proofs.YtjhhcljbmnomlaaGreat
open Go.ChangeShapes Go.WideShapes Go.ChangeAt Go.RowKit

theorem cl_quo (x y : Int) (w : World) (hx : -1125899906842624 ≤ x ∧ x ≤ 1125899906842624) (hy : 1 ≤ y ∧ y ≤ 1125899906842624) : Calls Tryz.prog 145 #[.int .i64 x, .int .i64 y] w fun e w' => e = .returned (.int .i64 (x.tdiv y)) ∧ w' = w := by
  by_cases h : 0 ≤ x
  all_goals
    go_enter Tryz.func145, Tryz.ntmps145
    go_wp2
    go_ret
    exact ⟨ret_int (by first | rfl | exact (Int.tdiv_eq_ediv_of_nonneg h).symm), rfl⟩
theorem both_quo (a b c d : Int) (w : World) (h1 : okV a b = true) (h2 : okV c d = true ∧ 1 ≤ c ∧ 1 ≤ d) :
    Calls Tryz.prog 144 #[V a b, V c d, .func (.func 145) #[] #[]] w fun e w' => e = .returned (.tuple #[.int .i64 (a.tdiv c), .int .i64 (b.tdiv d)]) ∧ Below w.heap.size w w' := by
  have g1 := h1; have g2 := h2
  simp only [okV_iff] at g1 g2
  have G1 := hidE g1; have G2 := hidE g2
  clear g1 g2 h1 h2
  go_enter Tryz.func144, Tryz.ntmps144
  go_wp2
  go_quiet ((go_at_call 145; exact Calls.quiet_of_same (cl_quo _ _ _ (by have := G1.out; have := G2.out; omega) (by have := G1.out; have := G2.out; omega))))
  go_wp2
  go_ret2
  exact ⟨rfl, below_drewN (((Below.refl _ _).alloc (Nat.le_refl _) _).alloc (by simp) _) _⟩
theorem quo_units {a b c d : Int} (_h1 : okV a b = true) (_h2 : okV c d = true) (hc : 1 ≤ c) (hd : 1 ≤ d) : mx 0 (mn (a.tdiv c) (b.tdiv d)) = if a < 0 ∨ b < 0 then 0 else mn (a / c) (b / d) := by
  have key : ∀ x y : Int, 1 ≤ y → x < 0 → x.tdiv y ≤ 0 := fun x y hy hx => by
    have : x.tdiv y = -((-x).tdiv y) := by rw [Int.neg_tdiv]; omega
    have h0 := Int.tdiv_nonneg (a := -x) (b := y) (by omega) (by omega)
    omega
  by_cases h : a < 0 ∨ b < 0
  · rw [if_pos h]
    have : mn (a.tdiv c) (b.tdiv d) ≤ 0 := by
      rcases h with h | h
      · have := key a c hc h; unfold mn; split <;> omega
      · have := key b d hd h; unfold mn; split <;> omega
    unfold mx; split <;> omega
  · rw [if_neg h, Int.tdiv_eq_ediv_of_nonneg (by omega), Int.tdiv_eq_ediv_of_nonneg (by omega)]
    have e1 : 0 ≤ a / c := Int.ediv_nonneg (by omega) (by omega)
    have e2 : 0 ≤ b / d := Int.ediv_nonneg (by omega) (by omega)
    have e3 : 0 ≤ mn (a / c) (b / d) := by unfold mn; split <;> omega
    unfold mx; rw [if_pos e3]
theorem un_c (a b c d : Int) (w : World) : Calls Tryz.prog 92 #[V a b, V c d] w fun e w' => e = .returned (IE (unS a b c d)) ∧ Below w.heap.size w w' := by
  cases h1 : leB 1 1 c d
  · have e : unS a b c d = (0, 2) := by rw [leB_not] at h1; unfold unS; rw [if_pos (by omega)]
    rw [e]; clear e
    go_enter Tryz.func92, Tryz.ntmps92
    go_wp2
    refine wp_region_past_lit (by kernel_rfl) (by kernel_rfl) ?_
    have hc := Past.cell (W := (w.alloc (Obj.cells #[Value.int IntKind.i64 a, Value.int IntKind.i64 b] 65)).alloc (Obj.cells #[Value.int IntKind.i64 c, Value.int IntKind.i64 d] 65))
    repeat (go_big_quiet_step ((first | (go_at_call 143; exact Past.call _ (alike _ _)) | (go_at_call 84; exact Past.call _ (le_eq h1)))))
    refine wpQuiet_nil ?_
    rintro _ ⟨x, rfl⟩
    go_wp2
    go_ret2
    refine ⟨rfl, ?_⟩
    (repeat (first | exact Below.refl _ _ | assumption | refine balloc ?_ _ | refine below_drewN ?_ _ | refine bstep (by assumption) ?_ | refine bstep (Past.prop _) ?_ | refine Below.setCell ?_ (by first | exact Nat.le_refl _ | (simp; done) | (simp; omega)) _))
  · have g1 := leB_iff.1 h1
    cases h2 : (okV a b && okV c d)
    · have e : unS a b c d = (0, 10) := by unfold unS; rw [if_neg (by omega), if_pos h2]
      rw [e]; clear e g1
      cases h3 : okV a b
      · clear h2
        go_enter Tryz.func92, Tryz.ntmps92
        go_wp2
        refine wp_region_past_lit (by kernel_rfl) (by kernel_rfl) ?_
        have hc := Past.cell (W := (w.alloc (Obj.cells #[Value.int IntKind.i64 a, Value.int IntKind.i64 b] 65)).alloc (Obj.cells #[Value.int IntKind.i64 c, Value.int IntKind.i64 d] 65))
        repeat (go_big_quiet_step ((first | (go_at_call 143; exact Past.call _ (alike _ _)) | (go_at_call 84; exact Past.call _ (le_eq h1)))))
        refine wpQuiet_nil ?_
        rintro _ ⟨x, rfl⟩
        have hz0 := bsz (Past.prop x) w.heap.size (by simp; omega); have hz1 := bsz (Past.prop x) (w.heap.size + 1) (by simp)
        go_wp2_with (go_at_call 135; ((with_reducible refine (may_eq h3).mono ?_); rintro e w' ⟨rfl, hb⟩; obtain ⟨hc, hf⟩ := bcell hb; have hz0 := bsz hb (w.heap.size) (by first | assumption | (simp; done) | (simp; omega)); have hz1 := bsz hb (w.heap.size + 1) (by first | assumption | (simp; done) | (simp; omega))))
        go_ret2
        refine ⟨rfl, ?_⟩
        (repeat (first | exact Below.refl _ _ | assumption | refine balloc ?_ _ | refine below_drewN ?_ _ | refine bstep (by assumption) ?_ | refine bstep (Past.prop _) ?_ | refine Below.setCell ?_ (by first | exact Nat.le_refl _ | (simp; done) | (simp; omega)) _))
      · have h4 : okV c d = false := by rw [h3] at h2; simpa using h2
        clear h2
        go_enter Tryz.func92, Tryz.ntmps92
        go_wp2
        refine wp_region_past_lit (by kernel_rfl) (by kernel_rfl) ?_
        have hc := Past.cell (W := (w.alloc (Obj.cells #[Value.int IntKind.i64 a, Value.int IntKind.i64 b] 65)).alloc (Obj.cells #[Value.int IntKind.i64 c, Value.int IntKind.i64 d] 65))
        repeat (go_big_quiet_step ((first | (go_at_call 143; exact Past.call _ (alike _ _)) | (go_at_call 84; exact Past.call _ (le_eq h1)))))
        refine wpQuiet_nil ?_
        rintro _ ⟨x, rfl⟩
        have hz0 := bsz (Past.prop x) w.heap.size (by simp; omega); have hz1 := bsz (Past.prop x) (w.heap.size + 1) (by simp)
        go_wp2_with (first | (go_at_call 135; ((with_reducible refine (may_eq h3).mono ?_); rintro e w' ⟨rfl, hb⟩; obtain ⟨hc, hf⟩ := bcell hb; have hz0 := bsz hb (w.heap.size) (by first | assumption | (simp; done) | (simp; omega)); have hz1 := bsz hb (w.heap.size + 1) (by first | assumption | (simp; done) | (simp; omega)))) | (go_at_call 135; ((with_reducible refine (may_eq h4).mono ?_); rintro e w' ⟨rfl, hb⟩; obtain ⟨hc, hf⟩ := bcell hb; have hz0 := bsz hb (w.heap.size) (by first | assumption | (simp; done) | (simp; omega)); have hz1 := bsz hb (w.heap.size + 1) (by first | assumption | (simp; done) | (simp; omega)))))
        go_ret2
        refine ⟨rfl, ?_⟩
        (repeat (first | exact Below.refl _ _ | assumption | refine balloc ?_ _ | refine below_drewN ?_ _ | refine bstep (by assumption) ?_ | refine bstep (Past.prop _) ?_ | refine Below.setCell ?_ (by first | exact Nat.le_refl _ | (simp; done) | (simp; omega)) _))
    · obtain ⟨h3, h4⟩ : okV a b = true ∧ okV c d = true := by simpa using h2
      have e : unS a b c d = (mx 0 (mn (a.tdiv c) (b.tdiv d)), 0) := by
        rw [quo_units h3 h4 g1.1 g1.2]; unfold unS; rw [if_neg (by omega), if_neg (by rw [h2]; decide)]; split <;> rfl
      rw [e]; clear e
      have h5 : okV c d = true ∧ 1 ≤ c ∧ 1 ≤ d := ⟨h4, g1⟩
      have H5 := hidE h5; clear h5 g1 h2
      go_enter Tryz.func92, Tryz.ntmps92
      go_wp2
      refine wp_region_past_lit (by kernel_rfl) (by kernel_rfl) ?_
      have hc := Past.cell (W := (w.alloc (Obj.cells #[Value.int IntKind.i64 a, Value.int IntKind.i64 b] 65)).alloc (Obj.cells #[Value.int IntKind.i64 c, Value.int IntKind.i64 d] 65))
      repeat (go_big_quiet_step ((first | (go_at_call 143; exact Past.call _ (alike _ _)) | (go_at_call 84; exact Past.call _ (le_eq h1)))))
      refine wpQuiet_nil ?_
      rintro _ ⟨x, rfl⟩
      have hz0 := bsz (Past.prop x) w.heap.size (by simp; omega); have hz1 := bsz (Past.prop x) (w.heap.size + 1) (by simp)
      go_wp2_with (first | (go_at_call 135; ((with_reducible refine (may_eq h3).mono ?_); rintro e w' ⟨rfl, hb⟩; obtain ⟨hc, hf⟩ := bcell hb; have hz0 := bsz hb (w.heap.size) (by first | assumption | (simp; done) | (simp; omega)); have hz1 := bsz hb (w.heap.size + 1) (by first | assumption | (simp; done) | (simp; omega)))) | (go_at_call 135; ((with_reducible refine (may_eq h4).mono ?_); rintro e w' ⟨rfl, hb⟩; obtain ⟨hc, hf⟩ := bcell hb; have hz0 := bsz hb (w.heap.size) (by first | assumption | (simp; done) | (simp; omega)); have hz1 := bsz hb (w.heap.size + 1) (by first | assumption | (simp; done) | (simp; omega)))) | (go_at_call 144; ((with_reducible refine (both_quo _ _ _ _ _ h3 H5.out).mono ?_); rintro e w' ⟨rfl, hb⟩; obtain ⟨hc, hf⟩ := bcell hb; have hz0 := bsz hb (w.heap.size) (by first | assumption | (simp; done) | (simp; omega)); have hz1 := bsz hb (w.heap.size + 1) (by first | assumption | (simp; done) | (simp; omega)))))
      all_goals
        go_ret2
        refine ⟨ret_tup ?_, ?_⟩
        · exact congrArg (fun z : Int => (#[.int .i64 z, .int .i64 0] : Array Value)) (by unfold mx mn; (repeat' split) <;> omega)
        · (repeat (first | exact Below.refl _ _ | assumption | refine balloc ?_ _ | refine below_drewN ?_ _ | refine bstep (by assumption) ?_ | refine bstep (Past.prop _) ?_ | refine Below.setCell ?_ (by first | exact Nat.le_refl _ | (simp; done) | (simp; omega)) _))

end Go.Proofs.YtjhhcljbmnomlaaGreat

namespace Go.Proofs.YtjhhcljbmnomlaaGreat
open Go.ChangeShapes Go.WideShapes Go.ChangeAt Go.RowKit

theorem tm (x n : Int) (w : World) (hx : -1125899906842624 ≤ x ∧ x ≤ 1125899906842624) (_hn : -9223372036854775808 ≤ n ∧ n ≤ 9223372036854775807) : Calls Tryz.prog 138 #[.int .i64 x, .int .i64 n] w fun e w' => e = .returned (.int .i64 (tmS x n)) ∧ w' = w := by
  have ht := tmS_ok (x := x) (n := n) (by omega) (by omega)
  rcases Int.lt_trichotomy x 0 with h | h | h
  · obtain ⟨m, rfl⟩ : ∃ m, x = -m := ⟨-x, by omega⟩
    have h0 : 0 < m := by omega
    have hm : mx (-m) (- -m) = m := by unfold mx; split <;> omega
    have hq : 0 ≤ 1125899906842624 / m ∧ 1125899906842624 / m ≤ 1125899906842624 := ⟨Int.ediv_nonneg (by omega) (by omega), Int.ediv_le_self _ (by omega)⟩
    have ht' : tmS (-m) n = if n < -(1125899906842624 / m) ∨ 1125899906842624 / m < n then 1125899906842625 else -m * n := by unfold tmS; rw [hm, if_neg (by omega)]
    have HT := hidE ht; have HT' := hidE ht'
    clear ht hm ht' h
    by_cases hl : n < -(1125899906842624 / m)
    · go_enter Tryz.func138, Tryz.ntmps138
      go_wp2
      go_ret
      exact ⟨ret_int (by rw [HT'.out, if_pos (.inl hl)]), rfl⟩
    by_cases hr : 1125899906842624 / m < n
    · go_enter Tryz.func138, Tryz.ntmps138
      go_wp2
      go_ret
      exact ⟨ret_int (by rw [HT'.out, if_pos (.inr hr)]), rfl⟩
    · go_enter Tryz.func138, Tryz.ntmps138
      go_wp2
      go_ret
      refine ⟨ret_int ?_, rfl⟩
      have e := HT'.out
      rw [if_neg (by omega)] at e
      rw [e]
      exact IntWalk.wrap64_in _ (by rcases HT.out with ⟨e1, e2⟩ | ⟨e1, e2⟩ <;> omega)
  · subst h
    go_enter Tryz.func138, Tryz.ntmps138
    go_wp2
    go_ret
    exact ⟨ret_int (by simp [tmS]), rfl⟩
  · have hm : mx x (-x) = x := by unfold mx; split <;> omega
    have hq : 0 ≤ 1125899906842624 / x ∧ 1125899906842624 / x ≤ 1125899906842624 := ⟨Int.ediv_nonneg (by omega) (by omega), Int.ediv_le_self _ (by omega)⟩
    have ht' : tmS x n = if n < -(1125899906842624 / x) ∨ 1125899906842624 / x < n then 1125899906842625 else x * n := by unfold tmS; rw [hm, if_neg (by omega)]
    have HT := hidE ht; have HT' := hidE ht'
    clear ht hm ht'
    by_cases hl : n < -(1125899906842624 / x)
    · go_enter Tryz.func138, Tryz.ntmps138
      go_wp2
      go_ret
      exact ⟨ret_int (by rw [HT'.out, if_pos (.inl hl)]), rfl⟩
    by_cases hr : 1125899906842624 / x < n
    · go_enter Tryz.func138, Tryz.ntmps138
      go_wp2
      go_ret
      exact ⟨ret_int (by rw [HT'.out, if_pos (.inr hr)]), rfl⟩
    · go_enter Tryz.func138, Tryz.ntmps138
      go_wp2
      go_ret
      refine ⟨ret_int ?_, rfl⟩
      have e := HT'.out
      rw [if_neg (by omega)] at e
      rw [e]
      exact IntWalk.wrap64_in _ (by rcases HT.out with ⟨e1, e2⟩ | ⟨e1, e2⟩ <;> omega)

theorem cl_scl (x y n : Int) (p : Addr) (w : World) (hx : -1125899906842624 ≤ x ∧ x ≤ 1125899906842624) (hn : -9223372036854775808 ≤ n ∧ n ≤ 9223372036854775807) (hp : w.cell? p = some (.int .i64 n)) :
    Calls Tryz.prog 137 #[.int .i64 x, .int .i64 y, .pointer (some p)] w fun e w' => e = .returned (.int .i64 (tmS x n)) ∧ w' = w := by
  have Hn := hidE hn; clear hn
  go_enter Tryz.func137, Tryz.ntmps137
  go_wp2_with (go_at_call 138; refine (tm _ _ _ hx Hn.out).mono ?_; rintro e w' ⟨rfl, rfl⟩)
  go_ret
  exact ⟨rfl, rfl⟩

theorem both_scl (a b c d n : Int) (k : Nat) (w : World) (h1 : okV a b = true) (hn : -9223372036854775808 ≤ n ∧ n ≤ 9223372036854775807) (hk : k < w.heap.size) (hp : w.cell? ⟨k, 0, none⟩ = some (.int .i64 n)) :
    Calls Tryz.prog 144 #[V a b, V c d, .func (.func 137) #[] #[.pointer (some ⟨k, 0, none⟩)]] w fun e w' => e = .returned (.tuple #[.int .i64 (tmS a n), .int .i64 (tmS b n)]) ∧ Below w.heap.size w w' := by
  have g1 := h1
  simp only [okV_iff] at g1
  have G1 := hidE g1; clear g1 h1
  have Hn := hidE hn; clear hn
  have hp2 : ∀ nq, (((w.alloc (Obj.cells #[Value.int IntKind.i64 a, Value.int IntKind.i64 b] 65)).alloc (Obj.cells #[Value.int IntKind.i64 c, Value.int IntKind.i64 d] 65)).drewN nq).cell? ⟨k, 0, none⟩ = some (.int .i64 n) := fun _ => by
    show ((w.alloc _).alloc _).cell? ⟨k, 0, none⟩ = _
    rw [World.cell?_alloc_past _ _ _ (by simp; omega), World.cell?_alloc_past _ _ _ hk]; exact hp
  have HP := hidE hp2; clear hp2 hp
  go_enter Tryz.func144, Tryz.ntmps144
  go_wp2
  go_quiet ((go_at_call 137; exact Calls.quiet_of_same (cl_scl _ _ _ _ _ (by have := G1.out; omega) Hn.out (HP.out _))))
  go_wp2
  go_ret2
  exact ⟨rfl, below_drewN (((Below.refl _ _).alloc (Nat.le_refl _) _).alloc (by simp) _) _⟩


theorem scl_c (a b n : Int) (w : World) (hn : -9223372036854775808 ≤ n ∧ n ≤ 9223372036854775807) : Calls Tryz.prog 88 #[V a b, .int .i64 n] w fun e w' => e = .returned (VE (sclS a b n)) ∧ Below w.heap.size w w' := by
  cases h : okV a b
  · have e : sclS a b n = (0, 0, 10) := by unfold sclS; rw [h]; rfl
    rw [e]; clear e
    have h' : (okV a b && okV a b) = false := by rw [h]; rfl
    clear hn h
    go_enter Tryz.func88, Tryz.ntmps88
    go_wp2_with (go_at_call 136; ((with_reducible refine (valid_no _ _ _ _ _ _ h').mono ?_); rintro e w' ⟨rfl, hb⟩; obtain ⟨hc, hf⟩ := bcell hb; have hz0 := bsz hb (w.heap.size) (by first | assumption | (simp; done) | (simp; omega)); have hz1 := bsz hb (w.heap.size + 1) (by first | assumption | (simp; done) | (simp; omega)); have hz2 := bsz hb (w.heap.size + 1 + 1) (by first | assumption | (simp; done) | (simp; omega))))
    refine bodyPost_ret (v := VE (0, 0, 10)) (by simp [results, Tryz.results88, go_sem, *]) rfl ⟨rfl, ?_⟩
    (repeat (first | exact Below.refl _ _ | assumption | refine balloc ?_ _ | refine below_drewN ?_ _ | refine bstep (by assumption) ?_ | refine bstep (Past.prop _) ?_ | refine Below.setCell ?_ (by first | exact Nat.le_refl _ | (simp; done) | (simp; omega)) _))
  · have e : sclS a b n = gate (okV (tmS a n) (tmS b n)) (tmS a n) (tmS b n) := by rw [← sclS_tm h, h]; rfl
    rw [e]; clear e
    generalize hg : gate (okV (tmS a n) (tmS b n)) (tmS a n) (tmS b n) = g
    have Hg := hidE hg; clear hg
    have HB : ∀ w', Below (((w.alloc (Obj.cells #[Value.int IntKind.i64 a, Value.int IntKind.i64 b] 65)).alloc (Obj.cells #[Value.int IntKind.i64 n] 2)).alloc (Obj.cells #[Value.int IntKind.i64 0, Value.int IntKind.i64 0] 65)).heap.size (((w.alloc (Obj.cells #[Value.int IntKind.i64 a, Value.int IntKind.i64 b] 65)).alloc (Obj.cells #[Value.int IntKind.i64 n] 2)).alloc (Obj.cells #[Value.int IntKind.i64 0, Value.int IntKind.i64 0] 65)) w' → Calls Tryz.prog 144 #[V a b, V a b, .func (.func 137) #[] #[.pointer (some ⟨w.heap.size + 1, 0, none⟩)]] w' fun e w'' => e = .returned (.tuple #[.int .i64 (tmS a n), .int .i64 (tmS b n)]) ∧ Below w'.heap.size w' w'' := fun w' hw' =>
      both_scl _ _ _ _ n _ _ h hn (Nat.lt_of_lt_of_le (by simp) hw'.size) (by rw [hw'.cell (by simp)]; simp [go_sem])
    have HB' := hidE HB; clear HB hn
    go_enter Tryz.func88, Tryz.ntmps88
    go_wp2_with (go_at_call 136; ((with_reducible refine (valid_yes _ _ _ _ _ (tmS a n) (tmS b n) _ h h HB'.out).mono ?_); rintro e w' ⟨rfl, hb⟩; rw [Hg.out]; obtain ⟨hc, hf⟩ := bcell hb; have hz2 := bsz hb (w.heap.size + 1 + 1) (by simp)))
    refine bodyPost_ret (v := VE g) (by simp [results, Tryz.results88, go_sem, *]) rfl ⟨rfl, ?_⟩
    (repeat (first | exact Below.refl _ _ | assumption | refine balloc ?_ _ | refine below_drewN ?_ _ | refine bstep (by assumption) ?_ | refine bstep (Past.prop _) ?_ | refine Below.setCell ?_ (by first | exact Nat.le_refl _ | (simp; done) | (simp; omega)) _))
end Go.Proofs.YtjhhcljbmnomlaaGreat

namespace Go.Proofs.YtjhhcljbmnomlaaGreat
open Go.ChangeShapes Go.WideShapes Go.ChangeAt Go.RowKit
attribute [local irreducible] Go.Calls

theorem fisTime_c (t : Int) (w : World) : Calls Tryz.prog 127 #[.int .i64 t] w fun e w' => e = .returned (.bool (nowB t)) ∧ Below w.heap.size w w' := by
  by_cases h1 : -1099511627776 ≤ t
  · have e : nowB t = decide (t ≤ 1099511627776) := by unfold nowB; rw [decide_eq_decide]; omega
    have E := hidE e; rw [E.out]; clear e
    have d1 : decide (-1099511627776 ≤ t) = true := decide_eq_true h1
    clear h1
    go_enter Tryz.func127, Tryz.ntmps127
    go_wp2
    go_ret
    exact ⟨rfl, by (repeat (first | exact Below.refl _ _ | assumption | refine balloc ?_ _ | refine below_drewN ?_ _ | refine bstep (by assumption) ?_ | refine bstep (Past.prop _) ?_ | refine Below.setCell ?_ (by first | exact Nat.le_refl _ | (simp; done) | (simp; omega)) _))⟩
  · have e : nowB t = false := by unfold nowB; exact decide_eq_false (by omega)
    have E := hidE e; rw [E.out]; clear e
    have d1 : decide (-1099511627776 ≤ t) = false := decide_eq_false h1
    clear h1
    go_enter Tryz.func127, Tryz.ntmps127
    go_wp2
    go_ret
    exact ⟨rfl, by (repeat (first | exact Below.refl _ _ | assumption | refine balloc ?_ _ | refine below_drewN ?_ _ | refine bstep (by assumption) ?_ | refine bstep (Past.prop _) ?_ | refine Below.setCell ?_ (by first | exact Nat.le_refl _ | (simp; done) | (simp; omega)) _))⟩
theorem fisTime_eq {t : Int} {r : Bool} {w : World} (h : nowB t = r) : Calls Tryz.prog 127 #[.int .i64 t] w fun e w' => e = .returned (.bool r) ∧ Below w.heap.size w w' := h ▸ fisTime_c t w
theorem ffault_c (F : List Sg) (x d m c : Int) (a : Option Addr) (cap : Nat) (w : World) (hl : F.length ≤ 1000000000) (hA : ArgS w a F) :
    Calls Tryz.prog 87 #[.slice a F.length cap, .int .i64 x, .int .i64 d, V m c] w fun e w' => e = .returned (.int .i64 (fitE F x d (m, c))) ∧ Below w.heap.size w w' := by
  have HM := hidE (fun w hA => pmay_c F a cap w (by omega) hA)
  have HA := hidE hA
  clear hA
  cases h1 : mayB F
  · have HE := hidE (fitE_form (x := x) (d := d) (v := (m, c)) h1)
    rw [h1] at HM
    rw [HE.out]
    clear h1
    go_enter Tryz.func87, Tryz.ntmps87
    go_wp2_with fail
    ((with_reducible refine (HM.out _ (HA.out.past (by (repeat (first | exact Below.refl _ _ | assumption | refine balloc ?_ _ | refine below_drewN ?_ _ | refine bstep (by assumption) ?_ | refine bstep (Past.prop _) ?_ | refine Below.setCell ?_ (by first | exact Nat.le_refl _ | (simp; done) | (simp; omega)) _))))).mono ?_); rintro e w1 ⟨rfl, hb1⟩)
    go_wp2
    go_ret
    exact ⟨rfl, by (repeat (first | exact Below.refl _ _ | assumption | refine balloc ?_ _ | refine below_drewN ?_ _ | refine bstep (by assumption) ?_ | refine bstep (Past.prop _) ?_ | refine Below.setCell ?_ (by first | exact Nat.le_refl _ | (simp; done) | (simp; omega)) _))⟩
  · by_cases h2 : d < 1 ∨ 4096 < d
    · have HE := hidE (fitE_arg (x := x) (v := (m, c)) h1 h2)
      rw [h1] at HM
      rw [HE.out]
      clear h1
      by_cases h3 : d < 1
      · have d1 : decide (d < 1) = true := decide_eq_true h3
        clear h2 h3
        go_enter Tryz.func87, Tryz.ntmps87
        go_wp2_with fail
        ((with_reducible refine (HM.out _ (HA.out.past (by (repeat (first | exact Below.refl _ _ | assumption | refine balloc ?_ _ | refine below_drewN ?_ _ | refine bstep (by assumption) ?_ | refine bstep (Past.prop _) ?_ | refine Below.setCell ?_ (by first | exact Nat.le_refl _ | (simp; done) | (simp; omega)) _))))).mono ?_); rintro e w1 ⟨rfl, hb1⟩)
        go_wp2
        go_ret
        exact ⟨rfl, by (repeat (first | exact Below.refl _ _ | assumption | refine balloc ?_ _ | refine below_drewN ?_ _ | refine bstep (by assumption) ?_ | refine bstep (Past.prop _) ?_ | refine Below.setCell ?_ (by first | exact Nat.le_refl _ | (simp; done) | (simp; omega)) _))⟩
      · have d1 : decide (d < 1) = false := decide_eq_false h3
        have d2 : decide (4096 < d) = true := decide_eq_true (by omega)
        clear h2 h3
        go_enter Tryz.func87, Tryz.ntmps87
        go_wp2_with fail
        ((with_reducible refine (HM.out _ (HA.out.past (by (repeat (first | exact Below.refl _ _ | assumption | refine balloc ?_ _ | refine below_drewN ?_ _ | refine bstep (by assumption) ?_ | refine bstep (Past.prop _) ?_ | refine Below.setCell ?_ (by first | exact Nat.le_refl _ | (simp; done) | (simp; omega)) _))))).mono ?_); rintro e w1 ⟨rfl, hb1⟩)
        go_wp2
        go_ret
        exact ⟨rfl, by (repeat (first | exact Below.refl _ _ | assumption | refine balloc ?_ _ | refine below_drewN ?_ _ | refine bstep (by assumption) ?_ | refine bstep (Past.prop _) ?_ | refine Below.setCell ?_ (by first | exact Nat.le_refl _ | (simp; done) | (simp; omega)) _))⟩
    · have d1 : decide (d < 1) = false := decide_eq_false (by omega)
      have d2 : decide (4096 < d) = false := decide_eq_false (by omega)
      have hdd : 1 ≤ d ∧ d ≤ 4096 := by omega
      cases h3 : nowB x
      · have HE := hidE (fitE_range (F := F) (x := x) (d := d) (v := (m, c)) h1 hdd (.inl h3))
        rw [h1] at HM
        rw [HE.out]
        clear h1 h2 hdd
        go_enter Tryz.func87, Tryz.ntmps87
        go_wp2_with fail
        ((with_reducible refine (HM.out _ (HA.out.past (by (repeat (first | exact Below.refl _ _ | assumption | refine balloc ?_ _ | refine below_drewN ?_ _ | refine bstep (by assumption) ?_ | refine bstep (Past.prop _) ?_ | refine Below.setCell ?_ (by first | exact Nat.le_refl _ | (simp; done) | (simp; omega)) _))))).mono ?_); rintro e w1 ⟨rfl, hb1⟩)
        go_wp2_with fail
        ((with_reducible refine (fisTime_eq h3).mono ?_); rintro e w2 ⟨rfl, hb2⟩)
        go_wp2
        go_ret
        exact ⟨rfl, by (repeat (first | exact Below.refl _ _ | assumption | refine balloc ?_ _ | refine below_drewN ?_ _ | refine bstep (by assumption) ?_ | refine bstep (Past.prop _) ?_ | refine Below.setCell ?_ (by first | exact Nat.le_refl _ | (simp; done) | (simp; omega)) _))⟩
      · have HE := hidE (show fitE F x d (m, c) = if okV m c then 0 else 10 by
          cases h4 : okV m c
          · exact fitE_range (F := F) (x := x) (d := d) (v := (m, c)) h1 hdd (.inr h4)
          · exact fitE_ok (F := F) (x := x) (d := d) (v := (m, c)) h1 hdd h3 h4)
        rw [h1] at HM
        rw [HE.out]
        clear h1 h2 hdd
        cases h4 : okV m c
        all_goals
          go_enter Tryz.func87, Tryz.ntmps87
          go_wp2_with fail
          ((with_reducible refine (HM.out _ (HA.out.past (by (repeat (first | exact Below.refl _ _ | assumption | refine balloc ?_ _ | refine below_drewN ?_ _ | refine bstep (by assumption) ?_ | refine bstep (Past.prop _) ?_ | refine Below.setCell ?_ (by first | exact Nat.le_refl _ | (simp; done) | (simp; omega)) _))))).mono ?_); rintro e w1 ⟨rfl, hb1⟩)
          have hb1' : Below w.heap.size w w1 := by (repeat (first | exact Below.refl _ _ | assumption | refine balloc ?_ _ | refine below_drewN ?_ _ | refine bstep (by assumption) ?_ | refine bstep (Past.prop _) ?_ | refine Below.setCell ?_ (by first | exact Nat.le_refl _ | (simp; done) | (simp; omega)) _))
          have B0 := (Blk.made w #[.int .i64 m, .int .i64 c] 65).past hb1
          have b0 := B0.cell 0; have b1 := B0.cell 1; have bz := B0.lt
          simp at b0 b1
          go_wp2_with fail
          ((with_reducible refine (fisTime_eq h3).mono ?_); rintro e w2 ⟨rfl, hb2⟩)
          have B2 := B0.past hb2
          have hb2' : Below w.heap.size w w2 := bstep hb2 hb1'
          clear b0 b1 bz hb1 hb2
          have b0 := B2.cell 0; have b1 := B2.cell 1; have bz := B2.lt
          simp at b0 b1
          go_wp2_with fail
          ((with_reducible refine (may_eq h4).mono ?_); rintro e w3 ⟨rfl, hb3⟩)
          go_wp2
          go_ret
          exact ⟨rfl, by (repeat (first | exact Below.refl _ _ | assumption | refine balloc ?_ _ | refine below_drewN ?_ _ | refine bstep (by assumption) ?_ | refine bstep (Past.prop _) ?_ | refine Below.setCell ?_ (by first | exact Nat.le_refl _ | (simp; done) | (simp; omega)) _))⟩
theorem ffault_eq {F : List Sg} {x d m c : Int} {a : Option Addr} {cap : Nat} {w : World} {r : Int} (hl : F.length ≤ 1000000000) (hA : ArgS w a F) (h : fitE F x d (m, c) = r) :
    Calls Tryz.prog 87 #[.slice a F.length cap, .int .i64 x, .int .i64 d, V m c] w fun e w' => e = .returned (.int .i64 r) ∧ Below w.heap.size w w' := h ▸ ffault_c F x d m c a cap w hl hA
/-- What the closure is handed: the low, where the window may be asked for. -/
theorem exam_fi (F : List Sg) (x d m c : Int) (a : Option Addr) (cap p q : Nat) (w : World) (R : World → Prop) (hl : F.length ≤ 1000000000) (hA : ArgS w a F)
    (hS : fitE F x d (m, c) = 0 → ∀ W, Below w.heap.size w W → Calls Tryz.prog 83 #[V (lowN F x d.toNat).1 (lowN F x d.toNat).2, .pointer (some ⟨p, 0, none⟩), .pointer (some ⟨q, 0, none⟩)] W fun e W' => (∃ v, e = .returned v) ∧ R W') :
    Calls Tryz.prog 82 #[.slice a F.length cap, .int .i64 x, .int .i64 d, V m c, .func (.func 83) #[] #[.pointer (some ⟨p, 0, none⟩), .pointer (some ⟨q, 0, none⟩)]] w fun e w' =>
      e = .returned (.int .i64 (fitE F x d (m, c))) ∧ (fitE F x d (m, c) = 0 → R w') ∧ (fitE F x d (m, c) ≠ 0 → Below w.heap.size w w') := by
  have HFA := hidE (fun w hA => ffault_c F x d m c a cap w hl hA)
  have HA := hidE hA
  have HS := hidE hS
  clear hA hS
  by_cases h0 : fitE F x d (m, c) = 0
  · obtain ⟨q1, q2, q3, q4⟩ := fitE_zero h0
    have q3 := nowB_iff.1 q3
    have HL := hidE (fun w hA => low_c F x (x + d) a cap w hl hA)
    rw [low_win h0] at HL
    have HS2 := hidE (HS.out h0)
    have wq : IntKind.i64.wrap (x + d) = x + d := IntWalk.i64_in _ (by omega)
    clear HS
    rw [h0] at HFA
    rw [h0]
    clear h0 q1 q2 q3 q4
    generalize lowN F x d.toNat = L at *
    go_enter Tryz.func82, Tryz.ntmps82
    go_wp2_with fail
    ((with_reducible refine (HFA.out _ (HA.out.past (by (repeat (first | exact Below.refl _ _ | assumption | refine balloc ?_ _ | refine below_drewN ?_ _ | refine bstep (by assumption) ?_ | refine bstep (Past.prop _) ?_ | refine Below.setCell ?_ (by first | exact Nat.le_refl _ | (simp; done) | (simp; omega)) _))))).mono ?_); rintro e w1 ⟨rfl, hb1⟩)
    have hB1 : Below w.heap.size w w1 := by (repeat (first | exact Below.refl _ _ | assumption | refine balloc ?_ _ | refine below_drewN ?_ _ | refine bstep (by assumption) ?_ | refine bstep (Past.prop _) ?_ | refine Below.setCell ?_ (by first | exact Nat.le_refl _ | (simp; done) | (simp; omega)) _))
    clear hb1
    go_wp2_with fail
    ((with_reducible refine (HL.out _ (HA.out.past hB1)).mono ?_); rintro e w2 ⟨rfl, hb2⟩)
    have hB2 : Below w.heap.size w w2 := bstep hb2 hB1
    clear hb2
    go_wp2_with fail
    ((with_reducible refine (HS2.out _ (by (repeat (first | exact Below.refl _ _ | assumption | refine balloc ?_ _ | refine below_drewN ?_ _ | refine bstep (by assumption) ?_ | refine bstep (Past.prop _) ?_ | refine Below.setCell ?_ (by first | exact Nat.le_refl _ | (simp; done) | (simp; omega)) _)))).mono ?_); rintro e w3 ⟨⟨v3, rfl⟩, hR⟩)
    go_wp2
    go_ret
    exact ⟨rfl, fun _ => hR, fun h => absurd rfl h⟩
  · have e0 : (fitE F x d (m, c) == 0) = false := beq_eq_false_iff_ne.2 h0
    have H0 := hidE h0
    clear h0 HS
    generalize fitE F x d (m, c) = k at *
    go_enter Tryz.func82, Tryz.ntmps82
    go_wp2_with fail
    ((with_reducible refine (HFA.out _ (HA.out.past (by (repeat (first | exact Below.refl _ _ | assumption | refine balloc ?_ _ | refine below_drewN ?_ _ | refine bstep (by assumption) ?_ | refine bstep (Past.prop _) ?_ | refine Below.setCell ?_ (by first | exact Nat.le_refl _ | (simp; done) | (simp; omega)) _))))).mono ?_); rintro e w1 ⟨rfl, hb1⟩)
    go_wp2
    go_ret
    exact ⟨rfl, fun h => absurd h H0.out, fun _ => by (repeat (first | exact Below.refl _ _ | assumption | refine balloc ?_ _ | refine below_drewN ?_ _ | refine bstep (by assumption) ?_ | refine bstep (Past.prop _) ?_ | refine Below.setCell ?_ (by first | exact Nat.le_refl _ | (simp; done) | (simp; omega)) _))⟩
/-- What the closure is handed: the low, where the window may be asked for. -/
theorem exam_mo (F : List Sg) (x d m c : Int) (a : Option Addr) (cap p q : Nat) (w : World) (R : World → Prop) (hl : F.length ≤ 1000000000) (hA : ArgS w a F)
    (hS : fitE F x d (m, c) = 0 → ∀ W, Below w.heap.size w W → Calls Tryz.prog 91 #[V (lowN F x d.toNat).1 (lowN F x d.toNat).2, .pointer (some ⟨p, 0, none⟩), .pointer (some ⟨q, 0, none⟩)] W fun e W' => (∃ v, e = .returned v) ∧ R W') :
    Calls Tryz.prog 82 #[.slice a F.length cap, .int .i64 x, .int .i64 d, V m c, .func (.func 91) #[] #[.pointer (some ⟨p, 0, none⟩), .pointer (some ⟨q, 0, none⟩)]] w fun e w' =>
      e = .returned (.int .i64 (fitE F x d (m, c))) ∧ (fitE F x d (m, c) = 0 → R w') ∧ (fitE F x d (m, c) ≠ 0 → Below w.heap.size w w') := by
  have HFA := hidE (fun w hA => ffault_c F x d m c a cap w hl hA)
  have HA := hidE hA
  have HS := hidE hS
  clear hA hS
  by_cases h0 : fitE F x d (m, c) = 0
  · obtain ⟨q1, q2, q3, q4⟩ := fitE_zero h0
    have q3 := nowB_iff.1 q3
    have HL := hidE (fun w hA => low_c F x (x + d) a cap w hl hA)
    rw [low_win h0] at HL
    have HS2 := hidE (HS.out h0)
    have wq : IntKind.i64.wrap (x + d) = x + d := IntWalk.i64_in _ (by omega)
    clear HS
    rw [h0] at HFA
    rw [h0]
    clear h0 q1 q2 q3 q4
    generalize lowN F x d.toNat = L at *
    go_enter Tryz.func82, Tryz.ntmps82
    go_wp2_with fail
    ((with_reducible refine (HFA.out _ (HA.out.past (by (repeat (first | exact Below.refl _ _ | assumption | refine balloc ?_ _ | refine below_drewN ?_ _ | refine bstep (by assumption) ?_ | refine bstep (Past.prop _) ?_ | refine Below.setCell ?_ (by first | exact Nat.le_refl _ | (simp; done) | (simp; omega)) _))))).mono ?_); rintro e w1 ⟨rfl, hb1⟩)
    have hB1 : Below w.heap.size w w1 := by (repeat (first | exact Below.refl _ _ | assumption | refine balloc ?_ _ | refine below_drewN ?_ _ | refine bstep (by assumption) ?_ | refine bstep (Past.prop _) ?_ | refine Below.setCell ?_ (by first | exact Nat.le_refl _ | (simp; done) | (simp; omega)) _))
    clear hb1
    go_wp2_with fail
    ((with_reducible refine (HL.out _ (HA.out.past hB1)).mono ?_); rintro e w2 ⟨rfl, hb2⟩)
    have hB2 : Below w.heap.size w w2 := bstep hb2 hB1
    clear hb2
    go_wp2_with fail
    ((with_reducible refine (HS2.out _ (by (repeat (first | exact Below.refl _ _ | assumption | refine balloc ?_ _ | refine below_drewN ?_ _ | refine bstep (by assumption) ?_ | refine bstep (Past.prop _) ?_ | refine Below.setCell ?_ (by first | exact Nat.le_refl _ | (simp; done) | (simp; omega)) _)))).mono ?_); rintro e w3 ⟨⟨v3, rfl⟩, hR⟩)
    go_wp2
    go_ret
    exact ⟨rfl, fun _ => hR, fun h => absurd rfl h⟩
  · have e0 : (fitE F x d (m, c) == 0) = false := beq_eq_false_iff_ne.2 h0
    have H0 := hidE h0
    clear h0 HS
    generalize fitE F x d (m, c) = k at *
    go_enter Tryz.func82, Tryz.ntmps82
    go_wp2_with fail
    ((with_reducible refine (HFA.out _ (HA.out.past (by (repeat (first | exact Below.refl _ _ | assumption | refine balloc ?_ _ | refine below_drewN ?_ _ | refine bstep (by assumption) ?_ | refine bstep (Past.prop _) ?_ | refine Below.setCell ?_ (by first | exact Nat.le_refl _ | (simp; done) | (simp; omega)) _))))).mono ?_); rintro e w1 ⟨rfl, hb1⟩)
    go_wp2
    go_ret
    exact ⟨rfl, fun h => absurd h H0.out, fun _ => by (repeat (first | exact Below.refl _ _ | assumption | refine balloc ?_ _ | refine below_drewN ?_ _ | refine bstep (by assumption) ?_ | refine bstep (Past.prop _) ?_ | refine Below.setCell ?_ (by first | exact Nat.le_refl _ | (simp; done) | (simp; omega)) _))⟩
/-- What the closure of Fits writes. -/
theorem fitcl_c (m c l1 l2 : Int) (p q : Nat) (b : Bool) (w : World) (hp : Blk w p #[.int .i64 m, .int .i64 c] 65) (hq : Blk w q #[.bool b] 4) :
    Calls Tryz.prog 83 #[V l1 l2, .pointer (some ⟨p, 0, none⟩), .pointer (some ⟨q, 0, none⟩)] w fun e w' => (∃ v, e = .returned v) ∧ (Blk w' q #[.bool (leB m c l1 l2)] 4 ∧ Below q w w') := by
  have p0 := hp.cell 0; have p1 := hp.cell 1; have pz := hp.lt; have qz := hq.lt
  simp at p0 p1
  have HQ := hidE hq; have HQZ := hidE (Nat.le_of_lt qz)
  clear hq
  go_enter Tryz.func83, Tryz.ntmps83
  go_wp2_with fail
  ((with_reducible refine (le _ _ _ _ _).mono ?_); rintro e w1 ⟨rfl, hb1⟩)
  have hB : Below w.heap.size w w1 := by (repeat (first | exact Below.refl _ _ | assumption | refine balloc ?_ _ | refine below_drewN ?_ _ | refine bstep (by assumption) ?_ | refine bstep (Past.prop _) ?_ | refine Below.setCell ?_ (by first | exact Nat.le_refl _ | (simp; done) | (simp; omega)) _))
  have B1 := HQ.out.past hB
  have q0 := B1.cell 0; have qf := B1.free; have qz1 := B1.lt
  simp at q0
  have HB := hidE hB
  clear p0 p1 pz hb1 hB
  go_wp2
  go_end0
  exact ⟨⟨_, rfl⟩, by simpa using B1.set 0 (.bool (leB m c l1 l2)), Below.setCell (p := ⟨q, 0, none⟩) (Below.mono HB.out HQZ.out) (Nat.le_refl _) _⟩
theorem fits_c (F : List Sg) (x d m c : Int) (a : Option Addr) (cap : Nat) (w : World) (hl : F.length ≤ 1000000000) (hA : ArgS w a F) :
    Calls Tryz.prog 40 #[.slice a F.length cap, .int .i64 x, .int .i64 d, V m c] w fun e w' => e = .returned (.tuple #[.bool (fitsS F x d (m, c)).1, .int .i64 (fitsS F x d (m, c)).2]) ∧ Below w.heap.size w w' := by
  obtain ⟨w0, hw0⟩ : ∃ w0, w0 = (w.alloc (Obj.cells #[.int .i64 m, .int .i64 c] 65)).alloc (Obj.cells #[.bool false] 4) := ⟨_, rfl⟩
  have hz0 : w0.heap.size = w.heap.size + 2 := by rw [hw0]; simp
  have hbw : Below w.heap.size w w0 := by rw [hw0]; (repeat (first | exact Below.refl _ _ | assumption | refine balloc ?_ _ | refine below_drewN ?_ _ | refine bstep (by assumption) ?_ | refine bstep (Past.prop _) ?_ | refine Below.setCell ?_ (by first | exact Nat.le_refl _ | (simp; done) | (simp; omega)) _))
  have B0 : Blk w0 w.heap.size #[.int .i64 m, .int .i64 c] 65 := by rw [hw0]; exact (Blk.made _ _ _).alloc _
  have B1 : Blk w0 (w.heap.size + 1) #[.bool false] 4 := by rw [hw0]; exact Blk.made_at _ _ _ _ (by simp)
  have HX := hidE (exam_fi F x d m c a cap w.heap.size (w.heap.size + 1) w0 (fun W' => Blk W' (w.heap.size + 1) #[.bool (fitB F x d (m, c))] 4 ∧ Below (w.heap.size + 1) w0 W') hl (hA.past hbw) (fun h W hb =>
    (fitcl_c m c (lowN F x d.toNat).1 (lowN F x d.toNat).2 w.heap.size (w.heap.size + 1) false W (B0.past hb) (B1.past hb)).mono fun e W' ⟨h1, h2, h3⟩ => ⟨h1, h2, (hb.mono (by omega)).trans h3⟩))
  have HBW := hidE hbw; have HB1 := hidE B1
  have HB0 := hidE B0
  have b0 := B0.cell 0; have b1 := B0.cell 1; have bz := B0.lt; have c0 := B1.cell 0; have cz := B1.lt
  simp at b0 b1 c0
  clear hA hbw
  by_cases h0 : fitE F x d (m, c) = 0
  · have HE := hidE (show fitsS F x d (m, c) = (fitB F x d (m, c), 0) by unfold fitsS; rw [if_pos h0])
    rw [h0] at HX
    rw [HE.out]
    clear h0
    generalize fitB F x d (m, c) = r at *
    go_enter Tryz.func40, Tryz.ntmps40
    go_upto_region 2 with fail
    rw [← hw0]
    clear hw0
    go_wp2_with fail
    ((with_reducible refine (HX.out).mono ?_); rintro e w1 ⟨rfl, hR, _⟩)
    obtain ⟨q1, q2⟩ := hR (by trivial)
    have HQ2 := hidE q2
    clear b0 b1 bz c0 cz hR B0 B1 q2
    have c0 := q1.cell 0; have cz := q1.lt
    simp at c0
    go_wp2
    go_ret2
    exact ⟨rfl, HBW.out.trans (HQ2.out.mono (by omega))⟩
  · have HE := hidE (show fitsS F x d (m, c) = (false, fitE F x d (m, c)) by unfold fitsS; rw [if_neg h0])
    rw [HE.out]
    have H0 := hidE h0
    clear h0
    generalize fitE F x d (m, c) = k at *
    go_enter Tryz.func40, Tryz.ntmps40
    go_upto_region 2 with fail
    rw [← hw0]
    clear hw0
    go_wp2_with fail
    ((with_reducible refine (HX.out).mono ?_); rintro e w1 ⟨rfl, _, hR⟩)
    have hb := hR H0.out
    have q1 := HB1.out.past hb
    have HQ2 := hidE hb
    clear b0 b1 bz c0 cz hR B0 B1 hb
    have c0 := q1.cell 0; have cz := q1.lt
    simp at c0
    go_wp2
    go_ret2
    exact ⟨rfl, HBW.out.trans (HQ2.out.mono (by omega))⟩
theorem fits_eq {F : List Sg} {x d m c : Int} {a : Option Addr} {n cap : Nat} {w : World} {r : Bool × Int} (h1 : SliS w (.slice a n cap) F) (hl : n ≤ 1000000) (he : fitsS F x d (m, c) = r) :
    Calls Tryz.prog 40 #[.slice a n cap, .int .i64 x, .int .i64 d, V m c] w fun e w' => e = .returned (.tuple #[.bool r.1, .int .i64 r.2]) ∧ Below w.heap.size w w' := by
  obtain ⟨a', c', e, h2, h3, h4⟩ := h1
  cases e; subst he
  exact fits_c F x d m c a cap w (by omega) h4
end Go.Proofs.YtjhhcljbmnomlaaGreat

namespace Go.Proofs.YtjhhcljbmnomlaaGreat
open Go.ChangeShapes Go.WideShapes Go.ChangeAt Go.RowKit

/-- A number. -/
def isI : Value → Bool
  | .int _ _ => true
  | _ => false
/-- No number stands in a block. -/
def NoI (w : World) (k : Nat) : Prop := ∀ (o : Nat) (u : Value), w.cell? ⟨k, o, none⟩ = some u → isI u = false
theorem noI_iff {w : World} {k : Nat} {cur : Array Value} {e : TypeId} (hg : w.heap[k]? = some (.cells cur e (0, 0))) : NoI w k ↔ ∀ u ∈ cur.toList, isI u = false := by
  have hc : ∀ o, w.cell? ⟨k, o, none⟩ = cur[o]? := fun o => by simp [World.cell?, hg]
  constructor
  · intro h u hu
    obtain ⟨i, hi, rfl⟩ := List.getElem_of_mem hu
    exact h i _ ((hc i).trans (by rw [← Array.getElem?_toList, List.getElem?_eq_getElem hi]))
  · intro h o u hu
    rw [hc o, ← Array.getElem?_toList] at hu
    exact h u (List.mem_of_getElem? hu)
/-- An owned row in whose block no number stands. -/
def OwnNI (w : World) (base : Nat) (e : TypeId) (size : Nat) (v : Value) (n : Nat) (xs : List Value) : Prop := w.ownsRow base e size v n xs ∧ ∀ k, v.ownBlock = some k → NoI w k
theorem OwnNI.nil (w : World) (base : Nat) (e : TypeId) (size : Nat) : OwnNI w base e size (.slice none 0 0) 0 [] := ⟨w.ownsRow_nil base e size, fun k h => by cases h⟩
theorem OwnNI.past {w w' : World} {base : Nat} {e : TypeId} {size : Nat} {v : Value} {n : Nat} {xs : List Value} (h : OwnNI w base e size v n xs) (hb : Below w.heap.size w w') : OwnNI w' base e size v n xs :=
  ⟨own_below h.1 hb, fun k hk o u hu => h.2 k hk o u (((hb.cell (p := ⟨k, o, none⟩) (own_lt h.1 hk)).symm).trans hu)⟩
/-- What reads as a function's runs lies elsewhere. -/
theorem SliS.apart {w w' : World} {v vo : Value} {l : List Sg} (h : SliS w v l) (hn : ∀ k, vo.ownBlock = some k → NoI w k) (hg : w.grownBy w' vo.ownBlock) : SliS w' v l := by
  obtain ⟨a, cap, e, h1, h2, h3⟩ := h
  refine ⟨a, cap, e, h1, h2, fun hl => ?_⟩
  obtain ⟨b, off, e2, hb, hc⟩ := h3 hl
  have hne : some b ≠ vo.ownBlock := fun e3 => by
    have := hn b e3.symm _ _ (hc 0 hl).1
    simp [isI] at this
  have hk : w'.heap[b]? = w.heap[b]? := hg.block b hb hne
  have hcell : ∀ o, w'.cell? ⟨b, o, none⟩ = w.cell? ⟨b, o, none⟩ := fun o => World.cell?_of_block (a := ⟨b, o, none⟩) hk
  refine ⟨b, off, e2, Nat.lt_of_lt_of_le hb hg.size, fun i hi => ?_⟩
  obtain ⟨c1, c2, c3⟩ := hc i hi
  exact ⟨(hcell _).trans c1, (hcell _).trans c2, (hcell _).trans c3⟩
theorem zero_mem {z : Array Value} {n : Nat} {u : Value} (h : u ∈ (Builtin.zeroCells z n).toList) : u ∈ z.toList := by
  unfold Builtin.zeroCells at h
  rw [Array.toList_map, List.mem_map] at h
  obtain ⟨i, hi, rfl⟩ := h
  have hz : 0 < z.size := by
    apply Nat.pos_of_ne_zero
    intro h0
    simp [h0] at hi
  have hlt : i % z.size < z.size := Nat.mod_lt _ hz
  rw [getElem!_pos z _ hlt]
  simp
section
variable {P : Program} (w : World)
theorem run_append_ni (base : Nat) (t ty e : TypeId) (i : TypeInfo) (z : Value) (size bytes : Nat) (ht : P.underlying t = some (.slice e)) (hi : P.info? e = some i) (hz : i.zero = some z)
    (hsize : i.size = size) (hby : i.bytes = bytes) (hzs : z.cells.size = size) (hsz : 0 < size)
    (v : Value) (n : Nat) (xs : List Value) (hown : OwnNI w base e size v n xs)
    (a : Addr) (m c : Nat) (news : List Value) (hl : news.length = m * size) (hnews : ∀ j u, news[j]? = some u → w.cell? (a.add j) = some u) (h1 : ∀ u ∈ news, u.oneCell' = true)
    (h63 : n + m ≤ maxLen) (hbytes : (n + m) * bytes ≤ 140737488355328) (hbase : base ≤ w.heap.size) (hzn : ∀ u ∈ z.cells.toList, isI u = false) (hnn : ∀ u ∈ news, isI u = false) :
    ∃ v' w', (Builtin.append_ #[t, t] ty #[v, .slice (some a) m c]).run P w = .ok v' w' ∧ OwnNI w' base e size v' (n + m) (xs ++ news) ∧ w.grownBy w' v.ownBlock := by
  subst hsize
  subst hby
  obtain ⟨hown, hno⟩ := hown
  have hsmall : n + m ≤ 9223372036854775807 := by simp only [maxLen] at h63; omega
  have hlen : (xs ++ news).length = (n + m) * i.size := by rw [List.length_append, hown.1, hl, Nat.add_mul]
  have grown : ∀ (old : Nat), old < n + m → ∀ (row : Option Nat), (∀ u ∈ xs, isI u = false) →
      OwnNI (w.drew.alloc (.cells (xs.toArray ++ news.toArray ++ Builtin.zeroCells z.cells (grownCap w (n + m) old e - (n + m))) e)) base e i.size
        (.slice (some ⟨w.heap.size, 0, none⟩) (n + m) (grownCap w (n + m) old e)) (n + m) (xs ++ news) ∧
      w.grownBy (w.drew.alloc (.cells (xs.toArray ++ news.toArray ++ Builtin.zeroCells z.cells (grownCap w (n + m) old e - (n + m))) e)) row := by
    intro old ho row hxn
    have hge := grownCap_ge w (n + m) old e
    have hcm : grownCap w (n + m) old e ≤ maxLen := grownCap_le_maxLen w (n + m) old e h63
    refine ⟨⟨⟨hlen, .inr ⟨w.heap.size, _, _, rfl, hbase, heap_alloc_new w.drew _, hge, hcm, ?_, ?_⟩⟩, ?_⟩, ⟨rfl, rfl, rfl, by simp, fun k hk _ => Below.heap_alloc w.drew _ k hk⟩⟩
    · simp only [Array.size_append, List.size_toArray, size_zeroCells, hzs, hown.1, hl, ← Nat.add_mul]
      congr 1
      omega
    · simp only [Array.toList_append, List.append_assoc]
      rw [← List.append_assoc, ← hlen]
      exact List.take_left
    · intro k hk
      simp [Value.ownBlock] at hk
      subst hk
      refine (noI_iff (heap_alloc_new w.drew _)).2 fun u hu => ?_
      simp only [Array.toList_append, List.mem_append] at hu
      rcases hu with (hu | hu) | hu
      · exact hxn u hu
      · exact hnn u hu
      · exact hzn u (zero_mem hu)
  rcases hown.2 with ⟨rfl, rfl⟩ | ⟨g, cap, cur, rfl, hbg, hg, hnc, hcm, hcs, htake⟩
  · have hx : xs = [] := List.eq_nil_of_length_eq_zero (by simpa using hown.1)
    subst hx
    by_cases hm : m = 0
    · subst hm
      have hn : news = [] := List.eq_nil_of_length_eq_zero (by simpa using hl)
      subst hn
      refine ⟨.slice none 0 0, w, ?_, OwnNI.nil w base e i.size, ⟨rfl, rfl, rfl, Nat.le_refl _, fun _ _ _ => rfl⟩⟩
      simp [Builtin.append_, run_underlying ht, sizeOf, typeInfo, hi, Builtin.lenOf, Builtin.firstCells, loadCells, loadCellsFrom]
    · have hr := run_append_nil (P := P) w t ty e i z ht hi hz a m c news hl hnews (by omega) (by omega) (by have hb := hbytes; simp only [Nat.zero_add] at hb; omega)
      have hgr := grown 0 (by omega) (Value.ownBlock (.slice none 0 0)) (fun u hu => by simp at hu)
      simp only [Nat.zero_add, List.nil_append, Array.empty_append] at hgr ⊢
      exact ⟨_, _, hr, hgr.1, hgr.2⟩
  · have hcur := (noI_iff hg).1 (hno g rfl)
    have hxn : ∀ u ∈ xs, isI u = false := fun u hu => hcur u (by rw [← htake] at hu; exact List.mem_of_mem_take hu)
    by_cases hroom : n + m ≤ cap
    · have hfit : n * i.size + news.length ≤ cur.size := by rw [hl, hcs, ← Nat.add_mul]; exact Nat.mul_le_mul_right _ hroom
      have hr := run_append_room (P := P) w t ty e i ht hi g n cap cur hg a m c news hl hnews h1 hroom hfit
      refine ⟨_, _, hr, ⟨⟨hlen, .inr ⟨g, cap, _, rfl, hbg, setRow_heap w g cur _ e _ hg, hroom, hcm, ?_, ?_⟩⟩, ?_⟩, ⟨rfl, rfl, rfl, by simp, fun k hk hk2 => setRow_other w g k _ (fun e => hk2 (by simp [Value.ownBlock, e]))⟩⟩
      · simp only [List.size_toArray, List.length_append, List.length_take, List.length_drop, Array.length_toList]
        omega
      · rw [htake, ← hlen]
        exact List.take_left
      · intro k hk
        simp [Value.ownBlock] at hk
        subst hk
        refine (noI_iff (setRow_heap w g cur _ e _ hg)).2 fun u hu => ?_
        simp only [List.mem_append] at hu
        rcases hu with (hu | hu) | hu
        · exact hcur u (List.mem_of_mem_take hu)
        · exact hnn u hu
        · exact hcur u (List.mem_of_mem_drop hu)
    · have holds : ∀ j u, xs[j]? = some u → w.cell? ((⟨g, 0, none⟩ : Addr).add j) = some u := hown.cells (g := g) rfl
      have hr := run_append_grow (P := P) w t ty e i z ht hi hz ⟨g, 0, none⟩ n cap xs hown.1 holds a m c news hl hnews (by omega) (by omega) (growslice_fits (by omega) hbytes)
      have hgr := grown cap (by omega) (Value.ownBlock (.slice (some ⟨g, 0, none⟩) n cap)) hxn
      exact ⟨_, _, hr, hgr.1, hgr.2⟩
/-- At the operation. -/
theorem list_app_ni {ops : Array Oper} {rest : List Oper} {o : Oper} {a : Act} {Q : Exit → Act → World → Prop} (hgd : o.guard = none) (s x : Operand) (t : TypeId)
    (ho : o.op = .call { callee := .builtin .append, args := #[s, x], argTypes := #[t, t] })
    (base : Nat) (e : TypeId) (i : TypeInfo) (z : Value) (size bytes : Nat) (ht : P.underlying t = some (.slice e)) (hi : P.info? e = some i) (hz : i.zero = some z)
    (hsize : i.size = size) (hby : i.bytes = bytes) (hzs : z.cells.size = size) (hsz : 0 < size)
    (v : Value) (n : Nat) (xs : List Value) (hs : a.eval s = v) (hown : OwnNI w base e size v n xs)
    (ad : Addr) (m c : Nat) (news : List Value) (hx : a.eval x = .slice (some ad) m c) (hl : news.length = m * size) (hnews : ∀ j u, news[j]? = some u → w.cell? (ad.add j) = some u) (h1 : ∀ u ∈ news, u.oneCell' = true)
    (h63 : n + m ≤ maxLen) (hbytes : (n + m) * bytes ≤ 140737488355328) (hbase : base ≤ w.heap.size) (hzn : ∀ u ∈ z.cells.toList, isI u = false) (hnn : ∀ u ∈ news, isI u = false)
    (h : ∀ v' w', OwnNI w' base e size v' (n + m) (xs ++ news) → w.grownBy w' v.ownBlock → wpList P ops Q rest (a.put o.dst v') w') : wpList P ops Q (o :: rest) a w := by
  refine wpList_plain hgd fun K hK => ?_
  obtain ⟨v', w', hr, h2, h3⟩ := run_append_ni (P := P) w base t o.type e i z size bytes ht hi hz hsize hby hzs hsz v n xs hown ad m c news hl hnews h1 h63 hbytes hbase hzn hnn
  unfold Oper.wp execOp
  simp only [ho, resolve, invoke, builtin, Sem.run_bind, Sem.run_pure, Result.andThen_ok, List.map_toArray, List.map_cons, List.map_nil, hs, hx, hr]
  exact hK _ _ (h v' w' h2 h3)
end
end Go.Proofs.YtjhhcljbmnomlaaGreat

namespace Go.Proofs.YtjhhcljbmnomlaaGreat
open Go.ChangeShapes Go.WideShapes Go.ChangeAt Go.RowKit
attribute [local irreducible] Go.Calls

theorem run_store_fnF {P : Program} {w : World} {a : Addr} {m : Mode} {f : Fn} {l r : Array Value} : (store a (.func f l r) m).run P w = stored P w a (.func f l r) m := run_store P w a _ m rfl
attribute [local go_sem] run_store_fnF

theorem Tryz.infoSlF : (Tryz.prog.info? 22).map (fun i => (i.zero, i.size, i.bytes)) = some (some (.slice none 0 0), 1, 24) := by kernel_rfl
/-- The free function is handed back. -/
def FreeR (P : List Pol) (C L O : List Sg) (x : Int) (w : World) (e : Ending) (w' : World) : Prop :=
  ∃ (a : Option Addr) (n cap : Nat) (f : List Sg) (er : Int), e = .returned (.tuple #[.slice a n cap, .int .i64 er]) ∧ SliS w' (.slice a n cap) f ∧ FreeIs P C L O x f er ∧ f.length ≤ 400000 ∧ Below w.heap.size w w'
/-- Nothing is handed back but an error. -/
theorem freeR_no {P : List Pol} {C L O : List Sg} {x er : Int} {w w' : World} (h : FreeIs P C L O x [] er) (hb : Below w.heap.size w w') : FreeR P C L O x w (.returned (.tuple #[.slice none 0 0, .int .i64 er])) w' :=
  ⟨none, 0, 0, [], er, rfl, sliS_nil _, h, by simp, hb⟩
theorem bdsAre_nil (C L O : List Sg) (x : Int) : BdsAre C L O x [] [] := ⟨rfl, fun i hi => by simp at hi⟩
theorem bdsAre_snoc {C L O F : List Sg} {x : Int} {bs : List Bd} {b : Bd} {Fs : List (List Sg)} (h : BdsAre C L O x bs Fs) (h1 : mayB F = true) (h2 : BdOk C L O x b) (h3 : ∀ t, vat F t = valB C L O x b t) : BdsAre C L O x (bs ++ [b]) (Fs ++ [F]) := by
  refine ⟨by simp [h.1], fun i hi => ?_⟩
  rw [getD_snoc, getD_snoc, h.1]
  simp at hi
  by_cases c : i < bs.length
  · rw [if_pos c, if_pos c]; exact h.2 i c
  · rw [if_neg c, if_neg c, if_pos (by omega), if_pos (by omega)]; exact ⟨h1, h2, h3⟩
section
variable {P : List Pol} {C L O C' L' O' : List Sg} {x : Int}
theorem freeIs_bad (hm : (mayB C && mayB L && mayB O) = true) (hk : P.any kindB = false) (hx : nowB x = true) (hC : SinceIs C x C') (hL : SinceIs L x L') (hO : SinceIs O x O') {b : Bd} (hb : b ∈ bds P) (hn : ¬ BdOk C' L' O' x b) : FreeIs P C L O x [] 10 := by
  refine .inr ⟨hm, .inr ⟨fun p hp => ?_, .inr ⟨hx, .inl ⟨fun h => hn ((free_ok hC hL hO).2 h b hb), rfl, rfl⟩⟩⟩⟩
  have := List.any_eq_false.1 hk p hp
  unfold kindB at this
  simp at this
  omega
theorem freeIs_good {Fs : List (List Sg)} {f : List Sg} (hm : (mayB C && mayB L && mayB O) = true) (hk : P.any kindB = false) (hx : nowB x = true) (hC : SinceIs C x C') (hL : SinceIs L x L') (hO : SinceIs O x O') (hF : BdsAre C' L' O' x (bds P) Fs) (hf : MinIs Fs f) : FreeIs P C L O x f 0 := by
  refine .inr ⟨hm, .inr ⟨fun p hp => ?_, .inr ⟨hx, .inr ⟨(free_ok hC hL hO).1 fun b hb => ?_, rfl, free_val hC hL hO hF hf⟩⟩⟩⟩
  · have := List.any_eq_false.1 hk p hp
    unfold kindB at this
    simp at this
    omega
  · obtain ⟨i, hi, rfl⟩ := List.getElem_of_mem hb
    have := (hF.2 i hi).2.1
    rw [getD_get _ _ _ hi] at this
    exact this
end
/-- Where something is in the way. -/
theorem freeIs_form {P : List Pol} {C L O : List Sg} {x : Int} (h : (mayB C && mayB L && mayB O) = false) : FreeIs P C L O x [] 5 := .inl ⟨h, rfl, rfl⟩
theorem freeIs_kind {P : List Pol} {C L O : List Sg} {x : Int} (hm : (mayB C && mayB L && mayB O) = true) (hk : P.any kindB = true) : FreeIs P C L O x [] 2 := by
  refine .inr ⟨hm, .inl ⟨?_, rfl, rfl⟩⟩
  obtain ⟨p, hp, h⟩ := List.any_eq_true.1 hk
  exact ⟨p, hp, by simpa [kindB] using h⟩
theorem freeIs_time {P : List Pol} {C L O : List Sg} {x : Int} (hm : (mayB C && mayB L && mayB O) = true) (hk : P.any kindB = false) (hx : nowB x = false) : FreeIs P C L O x [] 10 := by
  refine .inr ⟨hm, .inr ⟨fun p hp => ?_, .inl ⟨hx, rfl, rfl⟩⟩⟩
  have := List.any_eq_false.1 hk p hp
  unfold kindB at this
  simp at this
  omega
section
variable {P : List Pol} {C L O : List Sg} {x : Int} {a1 a2 a3 a4 : Option Addr} {c1 c2 c3 c4 : Nat} {w : World}
set_option maxRecDepth 100000 in
set_option maxHeartbeats 4000000 in
theorem free_no (h1 : ArgS w a1 C) (h2 : ArgS w a2 L) (h3 : ArgS w a3 O) (hl1 : C.length ≤ 10000) (hl2 : L.length ≤ 10000) (hl3 : O.length ≤ 10000) (hm : (mayB C && mayB L && mayB O) = false) :
    Calls Tryz.prog 81 #[.slice a1 C.length c1, .slice a2 L.length c2, .slice a3 O.length c3, .slice a4 P.length c4, .int .i64 x] w (FreeR P C L O x w) := by
  have HE := hidE (freeIs_form (P := P) (x := x) hm)
  have H1 := hidE (fun w hA => pmay_c C a1 c1 w (by omega) hA); have H2 := hidE (fun w hA => pmay_c L a2 c2 w (by omega) hA); have H3 := hidE (fun w hA => pmay_c O a3 c3 w (by omega) hA)
  have HA1 := hidE h1; have HA2 := hidE h2; have HA3 := hidE h3
  clear h1 h2 h3
  cases m1 : mayB C
  · rw [m1] at H1
    clear hm m1
    go_enter Tryz.func81, Tryz.ntmps81
    go_wp2_with fail
    ((with_reducible refine (H1.out _ HA1.out).mono ?_); rintro e w1 ⟨rfl, hb1⟩)
    go_wp2
    go_ret2
    exact freeR_no HE.out (by (repeat (first | exact Below.refl _ _ | assumption | refine balloc ?_ _ | refine below_drewN ?_ _ | refine bstep (by assumption) ?_ | refine bstep (Past.prop _) ?_ | refine Below.setCell ?_ (by first | exact Nat.le_refl _ | (simp; done) | (simp; omega)) _)))
  · rw [m1] at H1
    cases m2 : mayB L
    · rw [m2] at H2
      clear hm m1 m2
      go_enter Tryz.func81, Tryz.ntmps81
      go_wp2_with fail
      ((with_reducible refine (H1.out _ HA1.out).mono ?_); rintro e w1 ⟨rfl, hb1⟩)
      go_wp2_with fail
      ((with_reducible refine (H2.out _ (HA2.out.past hb1)).mono ?_); rintro e w2 ⟨rfl, hb2⟩)
      go_wp2
      go_ret2
      exact freeR_no HE.out (by (repeat (first | exact Below.refl _ _ | assumption | refine balloc ?_ _ | refine below_drewN ?_ _ | refine bstep (by assumption) ?_ | refine bstep (Past.prop _) ?_ | refine Below.setCell ?_ (by first | exact Nat.le_refl _ | (simp; done) | (simp; omega)) _)))
    · rw [m2] at H2
      have m3 : mayB O = false := by rw [m1, m2] at hm; simpa using hm
      rw [m3] at H3
      clear hm m1 m2 m3
      go_enter Tryz.func81, Tryz.ntmps81
      go_wp2_with fail
      ((with_reducible refine (H1.out _ HA1.out).mono ?_); rintro e w1 ⟨rfl, hb1⟩)
      go_wp2_with fail
      ((with_reducible refine (H2.out _ (HA2.out.past hb1)).mono ?_); rintro e w2 ⟨rfl, hb2⟩)
      have hb12 := bstep hb2 hb1
      go_wp2_with fail
      ((with_reducible refine (H3.out _ (HA3.out.past hb12)).mono ?_); rintro e w3 ⟨rfl, hb3⟩)
      go_wp2
      go_ret2
      exact freeR_no HE.out (by (repeat (first | exact Below.refl _ _ | assumption | refine balloc ?_ _ | refine below_drewN ?_ _ | refine bstep (by assumption) ?_ | refine bstep (Past.prop _) ?_ | refine Below.setCell ?_ (by first | exact Nat.le_refl _ | (simp; done) | (simp; omega)) _)))
set_option maxRecDepth 100000 in
set_option maxHeartbeats 8000000 in
theorem free_yes (h1 : ArgS w a1 C) (h2 : ArgS w a2 L) (h3 : ArgS w a3 O) (h4 : ArgPs w a4 P) (hl1 : C.length ≤ 10000) (hl2 : L.length ≤ 10000) (hl3 : O.length ≤ 10000) (hl4 : P.length ≤ 1000000)
    (hc1 : C.length ≤ c1 ∧ c1 ≤ 9223372036854775807) (hc2 : L.length ≤ c2 ∧ c2 ≤ 9223372036854775807) (hc3 : O.length ≤ c3 ∧ c3 ≤ 9223372036854775807) (hm : (mayB C && mayB L && mayB O) = true) :
    Calls Tryz.prog 81 #[.slice a1 C.length c1, .slice a2 L.length c2, .slice a3 O.length c3, .slice a4 P.length c4, .int .i64 x] w (FreeR P C L O x w) := by
  have HM := hidE hm
  obtain ⟨⟨m1, m2⟩, m3⟩ : (mayB C = true ∧ mayB L = true) ∧ mayB O = true := by simpa using hm
  have H1 := hidE (fun w hA => pmay_c C a1 c1 w (by omega) hA); have H2 := hidE (fun w hA => pmay_c L a2 c2 w (by omega) hA); have H3 := hidE (fun w hA => pmay_c O a3 c3 w (by omega) hA)
  rw [m1] at H1; rw [m2] at H2; rw [m3] at H3
  have HA1 := hidE h1; have HA2 := hidE h2; have HA3 := hidE h3; have HA4 := hidE h4
  have HK := hidE (fun w hA => kd_any P a4 c4 w (by omega) hA)
  clear h1 h2 h3 h4 hm
  cases hk : P.any kindB
  · rw [hk] at HK
    cases hx : nowB x
    · have HE := hidE (freeIs_time HM.out hk hx)
      have HT := hidE (fun w => fisTime_eq (w := w) hx)
      clear m1 m2 m3 hk hx
      go_enter Tryz.func81, Tryz.ntmps81
      go_wp2_with fail
      ((with_reducible refine (H1.out _ HA1.out).mono ?_); rintro e w1 ⟨rfl, hb1⟩)
      go_wp2_with fail
      ((with_reducible refine (H2.out _ (HA2.out.past hb1)).mono ?_); rintro e w2 ⟨rfl, hb2⟩)
      have hb12 := bstep hb2 hb1
      go_wp2_with fail
      ((with_reducible refine (H3.out _ (HA3.out.past hb12)).mono ?_); rintro e w3 ⟨rfl, hb3⟩)
      have hb13 := bstep hb3 hb12
      clear hb1 hb2 hb12 hb3
      go_wp2_with fail
      ((with_reducible refine (HK.out _ (HA4.out.past hb13)).mono ?_); rintro e w4 ⟨rfl, hb4⟩)
      have hb14 := bstep hb4 hb13
      clear hb4 hb13
      go_wp2_with fail
      ((with_reducible refine (HT.out _).mono ?_); rintro e w5 ⟨rfl, hb5⟩)
      go_wp2
      go_ret2
      exact freeR_no HE.out (by (repeat (first | exact Below.refl _ _ | assumption | refine balloc ?_ _ | refine below_drewN ?_ _ | refine bstep (by assumption) ?_ | refine bstep (Past.prop _) ?_ | refine Below.setCell ?_ (by first | exact Nat.le_refl _ | (simp; done) | (simp; omega)) _)))
    · have HT := hidE (fun w => fisTime_eq (w := w) hx)
      have HS1 := hidE (fun w hA => since_c C x a1 c1 w hc1.1 hc1.2 (by omega) hA m1 hx)
      have HS2 := hidE (fun w hA => since_c L x a2 c2 w hc2.1 hc2.2 (by omega) hA m2 hx)
      have HS3 := hidE (fun w hA => since_c O x a3 c3 w hc3.1 hc3.2 (by omega) hA m3 hx)
      have HBS := hidE (fun w hA => bounds_c P a4 c4 w (by omega) hA)
      have HNK := hidE hk; have HX := hidE hx
      clear m1 m2 m3 hk hx
      obtain ⟨ix, hix, hz0, hz1, hz2⟩ := info_parts Tryz.infoSlF
      have HI := hidE hix; have HZ0 := hidE hz0; have HZ1 := hidE hz1; have HZ2 := hidE hz2
      clear hix hz0 hz1 hz2
      go_enter Tryz.func81, Tryz.ntmps81
      go_wp2_with fail
      ((with_reducible refine (H1.out _ HA1.out).mono ?_); rintro e w1 ⟨rfl, hb1⟩)
      go_wp2_with fail
      ((with_reducible refine (H2.out _ (HA2.out.past hb1)).mono ?_); rintro e w2 ⟨rfl, hb2⟩)
      have hb12 := bstep hb2 hb1
      go_wp2_with fail
      ((with_reducible refine (H3.out _ (HA3.out.past hb12)).mono ?_); rintro e w3 ⟨rfl, hb3⟩)
      have hb13 := bstep hb3 hb12
      clear hb1 hb2 hb12 hb3
      go_wp2_with fail
      ((with_reducible refine (HK.out _ (HA4.out.past hb13)).mono ?_); rintro e w4 ⟨rfl, hb4⟩)
      have hb14 := bstep hb4 hb13
      clear hb4 hb13
      go_wp2_with fail
      ((with_reducible refine (HT.out _).mono ?_); rintro e w5 ⟨rfl, hb5⟩)
      have hb15 := bstep hb5 hb14
      clear hb14 hb5
      go_wp2_with fail
      ((with_reducible refine (HS1.out _ (HA1.out.past hb15)).mono ?_); rintro e w6 ⟨b1, n1, d1, C', rfl, hs1, hi1, hb6⟩)
      have hb16 := bstep hb6 hb15
      clear hb15
      go_wp2_with fail
      ((with_reducible refine (HS2.out _ (HA2.out.past hb16)).mono ?_); rintro e w7 ⟨b2, n2, d2, L', rfl, hs2, hi2, hb7⟩)
      have hb17 := bstep hb7 hb16
      clear hb16 hb6
      go_wp2_with fail
      ((with_reducible refine (HS3.out _ (HA3.out.past hb17)).mono ?_); rintro e w8 ⟨b3, n3, d3, O', rfl, hs3, hi3, hb8⟩)
      have hb18 := bstep hb8 hb17
      have HC1 := hidE ((hs1.past hb7).past hb8); have HC2 := hidE (hs2.past hb8); have HC3 := hidE hs3
      have HI1 := hidE hi1; have HI2 := hidE hi2; have HI3 := hidE hi3
      have HB8 := hidE hb18
      clear hb17 hb7 hb8 hs1 hs2 hs3 hb18
      obtain ⟨q, hq⟩ : ∃ q, q = w8.heap.size := ⟨_, rfl⟩
      go_upto_region 8 with fail
      obtain ⟨w9, hw9⟩ : ∃ w9, w9 = w8.alloc (Obj.cells #[.slice b1 n1 d1, .slice b2 n2 d2, .slice b3 n3 d3, .int .i64 x] 200) := ⟨_, rfl⟩
      have hb9 : Below w8.heap.size w8 w9 := by rw [hw9]; exact (Below.refl _ _).alloc (Nat.le_refl _) _
      have HQ9 := hidE (show Blk w9 q #[.slice b1 n1 d1, .slice b2 n2 d2, .slice b3 n3 d3, .int .i64 x] 200 by rw [hw9, hq]; exact Blk.made _ _ _)
      rw [← hw9, ← hq]
      have HB9 := hidE (bstep hb9 HB8.out)
      have HD1 := hidE (HC1.out.past hb9); have HD2 := hidE (HC2.out.past hb9); have HD3 := hidE (HC3.out.past hb9)
      clear hw9 hq hb9 HC1 HC2 HC3 HB8
      go_wp2_with fail
      ((with_reducible refine (HBS.out _ (HA4.out.past HB9.out)).mono ?_); rintro e w10 ⟨v10, xs, rfl, hX, hBX, hb10⟩)
      obtain ⟨a5, c5, rfl, hx1, hx2, hx3⟩ := hX
      have HBX := hidE hBX; have HX3 := hidE hx3; have HXL := hidE hBX.1
      have HB10 := hidE (bstep hb10 HB9.out)
      have HQ10 := hidE (HQ9.out.past hb10)
      have HC1 := hidE (HD1.out.past hb10); have HC2 := hidE (HD2.out.past hb10); have HC3 := hidE (HD3.out.past hb10)
      have HL4 := hidE (bds_len P)
      have HLN := hidE (show C'.length ≤ 20002 ∧ L'.length ≤ 20002 ∧ O'.length ≤ 20002 by have q1 := HI1.out.2.1; have q2 := HI2.out.2.1; have q3 := HI3.out.2.1; omega)
      rw [HXL.out] at hx1
      rw [HXL.out]
      have HN := hidE (show ∃ n, n = (bds P).length from ⟨_, rfl⟩)
      obtain ⟨n, hn⟩ := HN.out
      rw [← hn] at hx1
      rw [← hn]
      have HNE := hidE hn
      clear HD1 HD2 HD3 HB9 HQ9 hb10 hBX hx3 HN hn
      go_wp2
      go_loopg [13, 50] n (fun g v13 v50 wr => ∃ (k : Nat) (av : Option Addr) (cv : Nat) (ys : List Value) (Fs : List (List Sg)), v13 = .slice av ys.length cv ∧ v50 = .int .i64 k ∧ k ≤ n ∧ n - k ≤ g ∧ OwnNI wr w10.heap.size 22 1 (.slice av ys.length cv) ys.length ys ∧ RowX wr ys Fs ∧ BdsAre C' L' O' x ((bds P).take k) Fs ∧ (∀ i, i < Fs.length → (Fs.getD i []).length ≤ 60007) ∧ Below w10.heap.size w10 wr)
      case atStart => exact ⟨0, none, 0, [], [], rfl, rfl, Nat.zero_le _, Nat.le_refl _, OwnNI.nil _ _ _ _, ⟨rfl, fun i hi => by simp at hi⟩, bdsAre_nil _ _ _ _, fun i hi => by simp at hi, Below.refl _ _⟩
      case round =>
        obtain ⟨k, av, cv, ys, Fs, rfl, rfl, hkn, hg, ho, hr, hf, hfl, hb⟩ := hrel
        have HO := hidE ho; have HRX := hidE hr; have HFA := hidE hf; have HFL := hidE hfl; have HB := hidE hb; have HGK := hidE hg
        clear ho hr hf hfl hg
        by_cases hlt : k < n
        · have hlb : k < (bds P).length := by rw [← HNE.out]; exact hlt
          have hlx : k < xs.length := by rw [HXL.out]; exact hlb
          obtain ⟨b, off, rfl, hbz, hcx⟩ := HX3.out (by omega)
          have e0 := hcx k hlx
          have hv := HBX.out.2 k hlx
          rw [← hb.cell hbz] at e0
          have hbr : b < wr.heap.size := Nat.lt_of_lt_of_le hbz hb.size
          have hwz := hb.size
          have HMEM := hidE (show (bds P).getD k .most ∈ bds P by rw [getD_get _ _ _ hlb]; exact List.getElem_mem hlb)
          have HTK := hidE (show (bds P).take (k + 1) = (bds P).take k ++ [(bds P).getD k .most] by rw [List.take_succ_eq_append_getElem hlb, getD_get _ _ _ hlb])
          have hyl : ys.length ≤ 4 := by
            have h1 := HRX.out.1; have h2 := HFA.out.1; have h3 := HL4.out
            rw [List.length_take] at h2; omega
          have HYL := hidE hyl
          have q9 := HQ10.out.past HB.out
          have p0 := q9.cell 0; have p1 := q9.cell 1; have p2 := q9.cell 2; have p3 := q9.cell 3; have pz := q9.lt
          simp at p0 p1 p2 p3
          generalize (bds P).getD k .most = bd at *
          clear hcx hlb hb hyl q9
          cases bd with
          | most =>
            have hv : xs.getD k (.slice none 0 0) = .func (.func 174) #[] #[] := hv
            have HCL := hidE (fun W (hW : Below w10.heap.size w10 W) => bmost_c (C := C') (L := L') (O := O') (x := x) (a1 := b1) (a2 := b2) (a3 := b3) (n1 := n1) (c1 := d1) (n2 := n2) (c2 := d2) (n3 := n3) (c3 := d3) (w := W) HX.out)
            rw [hv] at e0
            clear hv
            go_wp2_with fail
            (with_reducible refine (HCL.out _ ?hWm).mono ?_)
            case hWm => exact HB.out.alloc hwz _
            rintro e w11 ⟨a6, n6, c6, f, er, rfl, hs6, hi6, hb11⟩
            have HB11 := hidE (show Below w10.heap.size w10 w11 from ((HB.out.alloc hwz (Obj.cells #[.func (.func 174) #[] #[]] 205)).trans (hb11.mono (by simp; omega))))
            have HO11 := hidE (HO.out.past (w' := w11) (((Below.refl _ wr).alloc (Nat.le_refl _) (Obj.cells #[.func (.func 174) #[] #[]] 205)).trans (hb11.mono (by simp))))
            have HR11 := hidE (HRX.out.past (w' := w11) (((Below.refl _ wr).alloc (Nat.le_refl _) (Obj.cells #[.func (.func 174) #[] #[]] 205)).trans (hb11.mono (by simp))))
            have hf6 : f.length ≤ 60007 := by have := hi6.1; have := HLN.out; omega
            have HF6 := hidE hf6; have HS6 := hidE hs6
            have hz11 := HB11.out.size
            clear hb11 hf6 HO HRX
            rcases hi6.2 with ⟨rfl, hm6, hk6, hv6⟩ | ⟨rfl, rfl, hk6⟩
            · have HFS := hidE (bdsAre_snoc HFA.out hm6 hk6 hv6)
              clear hi6 hm6 hk6 hv6 hs6 e0 p0 p1 p2 p3 pz
              go_wp2_with (at_builtin; refine list_app_ni _ rfl (.tmp 64) (.tmp 66) 24 rfl w10.heap.size 22 ix (.slice none 0 0) 1 24 Tryz.underlying24 HI.out HZ0.out HZ1.out HZ2.out rfl (by decide) _ _ _ rfl (HO11.out.past (by (repeat (first | exact Below.refl _ _ | assumption | refine balloc ?_ _ | refine below_drewN ?_ _ | refine bstep (by assumption) ?_ | refine bstep (Past.prop _) ?_ | refine Below.setCell ?_ (by first | exact Nat.le_refl _ | (simp; done) | (simp; omega)) _)))) ⟨_, 0, none⟩ 1 1 [.slice a6 n6 c6] rfl rfl (new_cells_atF _ #[.slice a6 n6 c6] 22 _ (by simp)) (by intro x hx; simp at hx; rcases hx with rfl; rfl) (by unfold maxLen; have := HYL.out; omega) (by have := HYL.out; omega) (by simp; omega) (by intro u hu; simp [Value.cells] at hu; subst hu; rfl) (by intro u hu; simp at hu; subst hu; rfl) ?_; intro v7 w12 hown7 hgrow7; obtain ⟨a7, c7, rfl⟩ := own_sli hown7.1)
              have HR12 := hidE (show RowX w12 (ys ++ [.slice a6 n6 c6]) (Fs ++ [f]) from by
                have hp : Below w11.heap.size w11 (w11.alloc (Obj.cells #[.slice a6 n6 c6] 22)) := (Below.refl _ _).alloc (Nat.le_refl _) _
                have h1 := HR11.out.past hp
                refine RowX.snoc ⟨h1.1, fun i hi => ?_⟩ ?_
                · exact (h1.2 i hi).apart (HO11.out.past hp).2 hgrow7
                · exact (HS6.out.past hp).apart (HO11.out.past hp).2 hgrow7)
              have HB12 := hidE (show Below w10.heap.size w10 w12 from Below.grown (HB11.out.alloc hz11 _) hgrow7 (by simp; omega) (fun k hk => (HO11.out.1.lt k hk).1))
              have HO12 := hidE hown7
              have hye : ys.length + 1 = (ys ++ [Value.slice a6 n6 c6]).length := by simp
              clear hown7 hgrow7 hz11
              go_wp2
              go_roundg (n - (k + 1))
              case measure => have := HGK.out; omega
              case rel =>
                refine ⟨k + 1, a7, c7, _, _, by rw [← hye], by go_num, by omega, Nat.le_refl _, ?_, HR12.out, by rw [HTK.out]; exact HFS.out, fun i hi => ?_, HB12.out⟩
                · have := HO12.out
                  rw [hye] at this
                  exact this
                · rw [getD_snoc]
                  split
                  · rename_i h; exact HFL.out i h
                  · split
                    · exact HF6.out
                    · simp
            · have HE := hidE (freeIs_bad HM.out HNK.out HX.out HI1.out HI2.out HI3.out HMEM.out hk6)
              clear hi6 hk6 hs6 e0 p0 p1 p2 p3 pz
              go_wp2
              go_ret2
              exact freeR_no HE.out (HB10.out.trans (HB11.out.mono HB10.out.size))
          | rest =>
            have hv : xs.getD k (.slice none 0 0) = .func (.func 176) #[] #[] := hv
            have HCL := hidE (fun W (hW : Below w10.heap.size w10 W) => brest_c (C := C') (L := L') (O := O') (x := x) (a1 := b1) (a2 := b2) (a3 := b3) (n1 := n1) (c1 := d1) (n2 := n2) (c2 := d2) (n3 := n3) (c3 := d3) (w := W) (HC1.out.past hW) (HC2.out.past hW) HI1.out.1 HI2.out.1 (by have q1 := HC1.out.len.1; have q2 := HC2.out.len.1; have := HLN.out; omega))
            rw [hv] at e0
            clear hv
            go_wp2_with fail
            (with_reducible refine (HCL.out _ ?hWr).mono ?_)
            case hWr => exact HB.out.alloc hwz _
            rintro e w11 ⟨a6, n6, c6, f, er, rfl, hs6, hi6, hb11⟩
            have HB11 := hidE (show Below w10.heap.size w10 w11 from ((HB.out.alloc hwz (Obj.cells #[.func (.func 176) #[] #[]] 205)).trans (hb11.mono (by simp; omega))))
            have HO11 := hidE (HO.out.past (w' := w11) (((Below.refl _ wr).alloc (Nat.le_refl _) (Obj.cells #[.func (.func 176) #[] #[]] 205)).trans (hb11.mono (by simp))))
            have HR11 := hidE (HRX.out.past (w' := w11) (((Below.refl _ wr).alloc (Nat.le_refl _) (Obj.cells #[.func (.func 176) #[] #[]] 205)).trans (hb11.mono (by simp))))
            have hf6 : f.length ≤ 60007 := by have := hi6.1; have := HLN.out; omega
            have HF6 := hidE hf6; have HS6 := hidE hs6
            have hz11 := HB11.out.size
            clear hb11 hf6 HO HRX
            rcases hi6.2 with ⟨rfl, hm6, hk6, hv6⟩ | ⟨rfl, rfl, hk6⟩
            · have HFS := hidE (bdsAre_snoc HFA.out hm6 hk6 hv6)
              clear hi6 hm6 hk6 hv6 hs6 e0 p0 p1 p2 p3 pz
              go_wp2_with (at_builtin; refine list_app_ni _ rfl (.tmp 64) (.tmp 66) 24 rfl w10.heap.size 22 ix (.slice none 0 0) 1 24 Tryz.underlying24 HI.out HZ0.out HZ1.out HZ2.out rfl (by decide) _ _ _ rfl (HO11.out.past (by (repeat (first | exact Below.refl _ _ | assumption | refine balloc ?_ _ | refine below_drewN ?_ _ | refine bstep (by assumption) ?_ | refine bstep (Past.prop _) ?_ | refine Below.setCell ?_ (by first | exact Nat.le_refl _ | (simp; done) | (simp; omega)) _)))) ⟨_, 0, none⟩ 1 1 [.slice a6 n6 c6] rfl rfl (new_cells_atF _ #[.slice a6 n6 c6] 22 _ (by simp)) (by intro x hx; simp at hx; rcases hx with rfl; rfl) (by unfold maxLen; have := HYL.out; omega) (by have := HYL.out; omega) (by simp; omega) (by intro u hu; simp [Value.cells] at hu; subst hu; rfl) (by intro u hu; simp at hu; subst hu; rfl) ?_; intro v7 w12 hown7 hgrow7; obtain ⟨a7, c7, rfl⟩ := own_sli hown7.1)
              have HR12 := hidE (show RowX w12 (ys ++ [.slice a6 n6 c6]) (Fs ++ [f]) from by
                have hp : Below w11.heap.size w11 (w11.alloc (Obj.cells #[.slice a6 n6 c6] 22)) := (Below.refl _ _).alloc (Nat.le_refl _) _
                have h1 := HR11.out.past hp
                refine RowX.snoc ⟨h1.1, fun i hi => ?_⟩ ?_
                · exact (h1.2 i hi).apart (HO11.out.past hp).2 hgrow7
                · exact (HS6.out.past hp).apart (HO11.out.past hp).2 hgrow7)
              have HB12 := hidE (show Below w10.heap.size w10 w12 from Below.grown (HB11.out.alloc hz11 _) hgrow7 (by simp; omega) (fun k hk => (HO11.out.1.lt k hk).1))
              have HO12 := hidE hown7
              have hye : ys.length + 1 = (ys ++ [Value.slice a6 n6 c6]).length := by simp
              clear hown7 hgrow7 hz11
              go_wp2
              go_roundg (n - (k + 1))
              case measure => have := HGK.out; omega
              case rel =>
                refine ⟨k + 1, a7, c7, _, _, by rw [← hye], by go_num, by omega, Nat.le_refl _, ?_, HR12.out, by rw [HTK.out]; exact HFS.out, fun i hi => ?_, HB12.out⟩
                · have := HO12.out
                  rw [hye] at this
                  exact this
                · rw [getD_snoc]
                  split
                  · rename_i h; exact HFL.out i h
                  · split
                    · exact HF6.out
                    · simp
            · have HE := hidE (freeIs_bad HM.out HNK.out HX.out HI1.out HI2.out HI3.out HMEM.out hk6)
              clear hi6 hk6 hs6 e0 p0 p1 p2 p3 pz
              go_wp2
              go_ret2
              exact freeR_no HE.out (HB10.out.trans (HB11.out.mono HB10.out.size))
          | lim u =>
            obtain ⟨um, uc⟩ := u
            obtain ⟨pu, hv, hpu⟩ := hv
            have HCL := hidE (fun W (hW : Below w10.heap.size w10 W) => blim_c (C := C') (L := L') (O := O') (x := x) (a1 := b1) (a2 := b2) (a3 := b3) (n1 := n1) (c1 := d1) (n2 := n2) (c2 := d2) (n3 := n3) (c3 := d3) (w := W) (m := um) (c := uc) (p := pu) (HC3.out.past hW) HI3.out.1 (by have q1 := HC3.out.len.1; have := HLN.out; omega) HX.out (hpu.past hW))
            rw [hv] at e0
            clear hv
            go_wp2_with fail
            (with_reducible refine (HCL.out _ ?hWl).mono ?_)
            case hWl => exact HB.out.alloc hwz _
            rintro e w11 ⟨a6, n6, c6, f, er, rfl, hs6, hi6, hb11⟩
            have HB11 := hidE (show Below w10.heap.size w10 w11 from ((HB.out.alloc hwz (Obj.cells #[.func (.func 178) #[] #[.pointer (some ⟨pu, 0, none⟩)]] 205)).trans (hb11.mono (by simp; omega))))
            have HO11 := hidE (HO.out.past (w' := w11) (((Below.refl _ wr).alloc (Nat.le_refl _) (Obj.cells #[.func (.func 178) #[] #[.pointer (some ⟨pu, 0, none⟩)]] 205)).trans (hb11.mono (by simp))))
            have HR11 := hidE (HRX.out.past (w' := w11) (((Below.refl _ wr).alloc (Nat.le_refl _) (Obj.cells #[.func (.func 178) #[] #[.pointer (some ⟨pu, 0, none⟩)]] 205)).trans (hb11.mono (by simp))))
            have hf6 : f.length ≤ 60007 := by have := hi6.1; have := HLN.out; omega
            have HF6 := hidE hf6; have HS6 := hidE hs6
            have hz11 := HB11.out.size
            clear hb11 hf6 HO HRX
            rcases hi6.2 with ⟨rfl, hm6, hk6, hv6⟩ | ⟨rfl, rfl, hk6⟩
            · have HFS := hidE (bdsAre_snoc HFA.out hm6 hk6 hv6)
              clear hi6 hm6 hk6 hv6 hs6 e0 p0 p1 p2 p3 pz
              go_wp2_with (at_builtin; refine list_app_ni _ rfl (.tmp 64) (.tmp 66) 24 rfl w10.heap.size 22 ix (.slice none 0 0) 1 24 Tryz.underlying24 HI.out HZ0.out HZ1.out HZ2.out rfl (by decide) _ _ _ rfl (HO11.out.past (by (repeat (first | exact Below.refl _ _ | assumption | refine balloc ?_ _ | refine below_drewN ?_ _ | refine bstep (by assumption) ?_ | refine bstep (Past.prop _) ?_ | refine Below.setCell ?_ (by first | exact Nat.le_refl _ | (simp; done) | (simp; omega)) _)))) ⟨_, 0, none⟩ 1 1 [.slice a6 n6 c6] rfl rfl (new_cells_atF _ #[.slice a6 n6 c6] 22 _ (by simp)) (by intro x hx; simp at hx; rcases hx with rfl; rfl) (by unfold maxLen; have := HYL.out; omega) (by have := HYL.out; omega) (by simp; omega) (by intro u hu; simp [Value.cells] at hu; subst hu; rfl) (by intro u hu; simp at hu; subst hu; rfl) ?_; intro v7 w12 hown7 hgrow7; obtain ⟨a7, c7, rfl⟩ := own_sli hown7.1)
              have HR12 := hidE (show RowX w12 (ys ++ [.slice a6 n6 c6]) (Fs ++ [f]) from by
                have hp : Below w11.heap.size w11 (w11.alloc (Obj.cells #[.slice a6 n6 c6] 22)) := (Below.refl _ _).alloc (Nat.le_refl _) _
                have h1 := HR11.out.past hp
                refine RowX.snoc ⟨h1.1, fun i hi => ?_⟩ ?_
                · exact (h1.2 i hi).apart (HO11.out.past hp).2 hgrow7
                · exact (HS6.out.past hp).apart (HO11.out.past hp).2 hgrow7)
              have HB12 := hidE (show Below w10.heap.size w10 w12 from Below.grown (HB11.out.alloc hz11 _) hgrow7 (by simp; omega) (fun k hk => (HO11.out.1.lt k hk).1))
              have HO12 := hidE hown7
              have hye : ys.length + 1 = (ys ++ [Value.slice a6 n6 c6]).length := by simp
              clear hown7 hgrow7 hz11
              go_wp2
              go_roundg (n - (k + 1))
              case measure => have := HGK.out; omega
              case rel =>
                refine ⟨k + 1, a7, c7, _, _, by rw [← hye], by go_num, by omega, Nat.le_refl _, ?_, HR12.out, by rw [HTK.out]; exact HFS.out, fun i hi => ?_, HB12.out⟩
                · have := HO12.out
                  rw [hye] at this
                  exact this
                · rw [getD_snoc]
                  split
                  · rename_i h; exact HFL.out i h
                  · split
                    · exact HF6.out
                    · simp
            · have HE := hidE (freeIs_bad HM.out HNK.out HX.out HI1.out HI2.out HI3.out HMEM.out hk6)
              clear hi6 hk6 hs6 e0 p0 p1 p2 p3 pz
              go_wp2
              go_ret2
              exact freeR_no HE.out (HB10.out.trans (HB11.out.mono HB10.out.size))
        · have hkn2 : k = n := by omega
          have HF := hidE (show BdsAre C' L' O' x (bds P) Fs by have := HFA.out; rw [hkn2, HNE.out, List.take_length] at this; exact this)
          have hl0 : 0 < (bds P).length := by simp [bds]
          have HLW := hidE (fun w hX hR => lowest_c Fs ys (.slice av ys.length cv) 60007 w (by rw [HF.out.1]; exact hl0) (by rw [HF.out.1]; exact HL4.out) hX hR (fun i hi => ⟨(HF.out.2 i (by rw [← HF.out.1]; exact hi)).1, HFL.out i hi⟩) (by omega))
          have HSX := hidE (sliX_own HO.out.1)
          clear hkn2 hl0 hb
          go_wp2_with fail
          ((with_reducible refine (HLW.out _ HSX.out HRX.out).mono ?_); rintro e w11 ⟨a6, n6, c6, f, rfl, hs6, hmi, hfl, hb11⟩)
          have HE := hidE (freeIs_good HM.out HNK.out HX.out HI1.out HI2.out HI3.out HF.out hmi)
          have HS6 := hidE hs6; have HFN := hidE (show f.length ≤ 400000 by omega)
          have HB11 := hidE (show Below w.heap.size w w11 from HB10.out.trans ((HB.out.trans (hb11.mono HB.out.size)).mono HB10.out.size))
          clear hs6 hmi hfl hb11
          go_wp2
          go_ret2
          exact ⟨_, _, _, f, 0, rfl, HS6.out, HE.out, HFN.out, HB11.out⟩
  · have HE := hidE (freeIs_kind (x := x) HM.out hk)
    rw [hk] at HK
    clear m1 m2 m3 hk
    go_enter Tryz.func81, Tryz.ntmps81
    go_wp2_with fail
    ((with_reducible refine (H1.out _ HA1.out).mono ?_); rintro e w1 ⟨rfl, hb1⟩)
    go_wp2_with fail
    ((with_reducible refine (H2.out _ (HA2.out.past hb1)).mono ?_); rintro e w2 ⟨rfl, hb2⟩)
    have hb12 := bstep hb2 hb1
    go_wp2_with fail
    ((with_reducible refine (H3.out _ (HA3.out.past hb12)).mono ?_); rintro e w3 ⟨rfl, hb3⟩)
    have hb13 := bstep hb3 hb12
    clear hb1 hb2 hb12 hb3
    go_wp2_with fail
    ((with_reducible refine (HK.out _ (HA4.out.past hb13)).mono ?_); rintro e w4 ⟨rfl, hb4⟩)
    go_wp2
    go_ret2
    exact freeR_no HE.out (by (repeat (first | exact Below.refl _ _ | assumption | refine balloc ?_ _ | refine below_drewN ?_ _ | refine bstep (by assumption) ?_ | refine bstep (Past.prop _) ?_ | refine Below.setCell ?_ (by first | exact Nat.le_refl _ | (simp; done) | (simp; omega)) _)))
theorem free_s {n1 n2 n3 n4 : Nat} (h1 : SliS w (.slice a1 n1 c1) C) (h2 : SliS w (.slice a2 n2 c2) L) (h3 : SliS w (.slice a3 n3 c3) O) (h4 : ArgPs w a4 P) (h5 : n4 = P.length) (hl1 : n1 ≤ 10000) (hl2 : n2 ≤ 10000) (hl3 : n3 ≤ 10000) (hl4 : n4 ≤ 1000000) :
    Calls Tryz.prog 81 #[.slice a1 n1 c1, .slice a2 n2 c2, .slice a3 n3 c3, .slice a4 n4 c4, .int .i64 x] w (FreeR P C L O x w) := by
  obtain ⟨e1, q1, q2, q3⟩ := h1.len; obtain ⟨e2, q4, q5, q6⟩ := h2.len; obtain ⟨e3, q7, q8, q9⟩ := h3.len
  subst e1; subst e2; subst e3; subst h5
  cases hm : (mayB C && mayB L && mayB O)
  · exact free_no q3 q6 q9 hl1 hl2 hl3 hm
  · exact free_yes q3 q6 q9 h4 hl1 hl2 hl3 hl4 ⟨q1, q2⟩ ⟨q4, q5⟩ ⟨q7, q8⟩ hm
end
end Go.Proofs.YtjhhcljbmnomlaaGreat

namespace Go.Proofs.YtjhhcljbmnomlaaGreat
open Go.ChangeShapes Go.WideShapes Go.ChangeAt Go.RowKit
attribute [local irreducible] Go.Calls

def takeS (F : List Sg) (x d : Int) (v : Int × Int) : List Sg × Int := if fitE F x d v = 0 then rangeS F x (x + d) (-v.1, -v.2) else ([], fitE F x d v)
theorem scl_neg {m c : Int} (h : okV m c = true) : sclS m c (-1) = (-m, -c, 0) := by
  have h1 := okV_iff.1 h
  unfold sclS
  have e1 : m * -1 = -m := by omega
  have e2 : c * -1 = -c := by omega
  rw [h, e1, e2]
  exact gate_true (by have : okV (-m) (-c) = true := okV_iff.2 (by omega); rw [this]; rfl)
theorem take_c (F : List Sg) (x d m c : Int) (a : Option Addr) (cap : Nat) (w : World) (hF : F.length ≤ cap) (hc : cap ≤ 9223372036854775807) (hl : F.length ≤ 999999980) (hA : ArgS w a F) :
    Calls Tryz.prog 42 #[.slice a F.length cap, .int .i64 x, .int .i64 d, V m c] w (OfIs w (takeS F x d (m, c)).1 (takeS F x d (m, c)).2) := by
  have HFA := hidE (fun w hA => ffault_c F x d m c a cap w (by omega) hA)
  have HA := hidE hA
  clear hA
  by_cases h0 : fitE F x d (m, c) = 0
  · obtain ⟨q1, q2, q3, q4⟩ := fitE_zero h0
    have q3 := nowB_iff.1 q3
    have HE := hidE (show takeS F x d (m, c) = rangeS F x (x + d) (-m, -c) by unfold takeS; rw [if_pos h0])
    have HR := hidE (fun w hA => crange_c F x (x + d) (-m) (-c) a cap w hF hc hl hA)
    have HC := hidE (fun w => scl_c m c (-1) w (by omega))
    rw [scl_neg q4] at HC
    have wq : IntKind.i64.wrap (x + d) = x + d := IntWalk.i64_in _ (by omega)
    rw [h0] at HFA
    rw [HE.out]
    clear h0 q1 q2 q3 q4 HE
    generalize rangeS F x (x + d) (-m, -c) = r at *
    go_enter Tryz.func42, Tryz.ntmps42
    go_wp2_with fail
    ((with_reducible refine (HFA.out _ (HA.out.past (by (repeat (first | exact Below.refl _ _ | assumption | refine balloc ?_ _ | refine below_drewN ?_ _ | refine bstep (by assumption) ?_ | refine bstep (Past.prop _) ?_ | refine Below.setCell ?_ (by first | exact Nat.le_refl _ | (simp; done) | (simp; omega)) _))))).mono ?_); rintro e w1 ⟨rfl, hb1⟩)
    have hB1 : Below w.heap.size w w1 := by (repeat (first | exact Below.refl _ _ | assumption | refine balloc ?_ _ | refine below_drewN ?_ _ | refine bstep (by assumption) ?_ | refine bstep (Past.prop _) ?_ | refine Below.setCell ?_ (by first | exact Nat.le_refl _ | (simp; done) | (simp; omega)) _))
    have B0 := (Blk.made w #[.int .i64 m, .int .i64 c] 65).past hb1
    have b0 := B0.cell 0; have b1 := B0.cell 1; have bz := B0.lt
    simp at b0 b1
    clear hb1
    go_wp2_with fail
    ((with_reducible refine (HC.out _).mono ?_); rintro e w2 ⟨rfl, hb2⟩)
    have hB2 : Below w.heap.size w w2 := bstep hb2 hB1
    clear hb2 b0 b1 bz B0
    go_wp2_with fail
    ((with_reducible refine (HR.out _ (HA.out.past (by (repeat (first | exact Below.refl _ _ | assumption | refine balloc ?_ _ | refine below_drewN ?_ _ | refine bstep (by assumption) ?_ | refine bstep (Past.prop _) ?_ | refine Below.setCell ?_ (by first | exact Nat.le_refl _ | (simp; done) | (simp; omega)) _))))).mono ?_); rintro e w3 ⟨v3, rfl, hv3, hb3⟩)
    go_wp2
    go_ret2
    exact ⟨_, rfl, hv3, by (repeat (first | exact Below.refl _ _ | assumption | refine balloc ?_ _ | refine below_drewN ?_ _ | refine bstep (by assumption) ?_ | refine bstep (Past.prop _) ?_ | refine Below.setCell ?_ (by first | exact Nat.le_refl _ | (simp; done) | (simp; omega)) _))⟩
  · have e0 : (fitE F x d (m, c) == 0) = false := beq_eq_false_iff_ne.2 h0
    have HE := hidE (show takeS F x d (m, c) = ([], fitE F x d (m, c)) by unfold takeS; rw [if_neg h0])
    rw [HE.out]
    clear h0 HE
    generalize fitE F x d (m, c) = k at *
    go_enter Tryz.func42, Tryz.ntmps42
    go_wp2_with fail
    ((with_reducible refine (HFA.out _ (HA.out.past (by (repeat (first | exact Below.refl _ _ | assumption | refine balloc ?_ _ | refine below_drewN ?_ _ | refine bstep (by assumption) ?_ | refine bstep (Past.prop _) ?_ | refine Below.setCell ?_ (by first | exact Nat.le_refl _ | (simp; done) | (simp; omega)) _))))).mono ?_); rintro e w1 ⟨rfl, hb1⟩)
    go_wp2
    go_ret2
    exact ⟨_, rfl, sliS_nil _, by (repeat (first | exact Below.refl _ _ | assumption | refine balloc ?_ _ | refine below_drewN ?_ _ | refine bstep (by assumption) ?_ | refine bstep (Past.prop _) ?_ | refine Below.setCell ?_ (by first | exact Nat.le_refl _ | (simp; done) | (simp; omega)) _))⟩
theorem take_s {F r : List Sg} {x d m c er : Int} {a : Option Addr} {n cap : Nat} {w : World} (h1 : SliS w (.slice a n cap) F) (hl : n ≤ 1000000) (he : takeS F x d (m, c) = (r, er)) :
    Calls Tryz.prog 42 #[.slice a n cap, .int .i64 x, .int .i64 d, V m c] w (OfIs w r er) := by
  obtain ⟨a', c', e, h2, h3, h4⟩ := h1
  cases e
  have := take_c F x d m c a cap w h2 h3 (by omega) h4
  rw [he] at this; exact this
/-- What the closure of Most writes. -/
theorem mostcl_c (m c l1 l2 : Int) (p q : Nat) (n : Int) (w : World) (hp : Blk w p #[.int .i64 m, .int .i64 c] 65) (hq : Blk w q #[.int .i64 n] 2) :
    Calls Tryz.prog 91 #[V l1 l2, .pointer (some ⟨p, 0, none⟩), .pointer (some ⟨q, 0, none⟩)] w fun e w' => (∃ v, e = .returned v) ∧ (Blk w' q #[.int .i64 (unS l1 l2 m c).1] 2 ∧ Below q w w') := by
  have p0 := hp.cell 0; have p1 := hp.cell 1; have pz := hp.lt; have qz := hq.lt
  simp at p0 p1
  have HQ := hidE hq; have HQZ := hidE (Nat.le_of_lt qz); have HU := hidE (fun w => un_c l1 l2 m c w)
  clear hq
  generalize unS l1 l2 m c = u at *
  go_enter Tryz.func91, Tryz.ntmps91
  go_wp2_with fail
  ((with_reducible refine (HU.out _).mono ?_); rintro e w1 ⟨rfl, hb1⟩)
  have hB : Below w.heap.size w w1 := by (repeat (first | exact Below.refl _ _ | assumption | refine balloc ?_ _ | refine below_drewN ?_ _ | refine bstep (by assumption) ?_ | refine bstep (Past.prop _) ?_ | refine Below.setCell ?_ (by first | exact Nat.le_refl _ | (simp; done) | (simp; omega)) _))
  have B1 := HQ.out.past hB
  have q0 := B1.cell 0; have qf := B1.free; have qz1 := B1.lt
  simp at q0
  have HB := hidE hB
  clear p0 p1 pz hb1 hB
  go_wp2
  go_end0
  exact ⟨⟨_, rfl⟩, by simpa using B1.set 0 (.int .i64 u.1), Below.setCell (p := ⟨q, 0, none⟩) (Below.mono HB.out HQZ.out) (Nat.le_refl _) _⟩
theorem most_c (F : List Sg) (x d m c : Int) (a : Option Addr) (cap : Nat) (w : World) (hl : F.length ≤ 1000000000) (hA : ArgS w a F) :
    Calls Tryz.prog 44 #[.slice a F.length cap, .int .i64 x, .int .i64 d, V m c] w fun e w' => e = .returned (IE (mostS F x d (m, c))) ∧ Below w.heap.size w w' := by
  obtain ⟨w0, hw0⟩ : ∃ w0, w0 = (w.alloc (Obj.cells #[.int .i64 m, .int .i64 c] 65)).alloc (Obj.cells #[.int .i64 0] 2) := ⟨_, rfl⟩
  have hz0 : w0.heap.size = w.heap.size + 2 := by rw [hw0]; simp
  have hbw : Below w.heap.size w w0 := by rw [hw0]; (repeat (first | exact Below.refl _ _ | assumption | refine balloc ?_ _ | refine below_drewN ?_ _ | refine bstep (by assumption) ?_ | refine bstep (Past.prop _) ?_ | refine Below.setCell ?_ (by first | exact Nat.le_refl _ | (simp; done) | (simp; omega)) _))
  have B0 : Blk w0 w.heap.size #[.int .i64 m, .int .i64 c] 65 := by rw [hw0]; exact (Blk.made _ _ _).alloc _
  have B1 : Blk w0 (w.heap.size + 1) #[.int .i64 0] 2 := by rw [hw0]; exact Blk.made_at _ _ _ _ (by simp)
  obtain ⟨N, hN⟩ : ∃ N, N = if fitE F x d (m, c) = 0 then (unS (lowN F x d.toNat).1 (lowN F x d.toNat).2 m c).1 else 0 := ⟨_, rfl⟩
  have HX := hidE ((exam_mo F x d m c a cap w.heap.size (w.heap.size + 1) w0 (fun W' => Blk W' (w.heap.size + 1) #[.int .i64 (unS (lowN F x d.toNat).1 (lowN F x d.toNat).2 m c).1] 2 ∧ Below (w.heap.size + 1) w0 W') hl (hA.past hbw) (fun h W hb =>
    (mostcl_c m c (lowN F x d.toNat).1 (lowN F x d.toNat).2 w.heap.size (w.heap.size + 1) 0 W (B0.past hb) (B1.past hb)).mono fun e W' ⟨h1, h2, h3⟩ => ⟨h1, h2, (hb.mono (by omega)).trans h3⟩)).mono
    (R' := fun e w' => e = .returned (.int .i64 (fitE F x d (m, c))) ∧ Blk w' (w.heap.size + 1) #[.int .i64 N] 2 ∧ Below (w.heap.size + 1) w0 w') (fun e w' ⟨h1, h2, h3⟩ => by
      refine ⟨h1, ?_⟩
      by_cases h0 : fitE F x d (m, c) = 0
      · rw [hN, if_pos h0]; exact h2 h0
      · rw [hN, if_neg h0]; exact ⟨B1.past (h3 h0), (h3 h0).mono (by omega)⟩))
  have HE := hidE (show mostS F x d (m, c) = if fitE F x d (m, c) = 5 then (0, 5) else if leB 1 1 m c then (N, fitE F x d (m, c)) else (0, 2) by
    unfold mostS
    by_cases h5 : fitE F x d (m, c) = 5
    · rw [if_pos h5, if_pos h5]
    · rw [if_neg h5, if_neg h5]
      by_cases hu : m < 1 ∨ c < 1
      · have : leB 1 1 m c = false := leB_not.2 (by omega)
        rw [if_pos hu, this]; rfl
      · have : leB 1 1 m c = true := leB_iff.2 (by omega)
        rw [if_neg hu, this, if_pos rfl, hN]
        by_cases h0 : fitE F x d (m, c) = 0
        · rw [if_pos h0, if_pos h0, h0]
        · rw [if_neg h0, if_neg h0])
  have HBW := hidE hbw
  have HB0 := hidE B0
  have b0 := B0.cell 0; have b1 := B0.cell 1; have bz := B0.lt; have c0 := B1.cell 0; have cz := B1.lt
  simp at b0 b1 c0
  rw [HE.out]
  have hN5 : fitE F x d (m, c) = 5 → N = 0 := fun h => by rw [hN, h]; rfl
  clear hA hbw hN HE
  generalize fitE F x d (m, c) = k at *
  by_cases h5 : k = 5
  · have e5 : (k != 5) = false := by rw [h5]; decide
    have H5 := hidE h5
    obtain rfl := hN5 h5
    rw [if_pos h5]
    clear h5 hN5
    go_enter Tryz.func44, Tryz.ntmps44
    go_upto_region 2 with fail
    rw [← hw0]
    clear hw0
    go_wp2_with fail
    ((with_reducible refine (HX.out).mono ?_); rintro e w1 ⟨rfl, hq1, hq2⟩)
    have HQ2 := hidE hq2
    clear b0 b1 bz c0 cz B0 B1 hq2 HX
    have c0 := hq1.cell 0; have cz := hq1.lt
    simp at c0
    go_wp2
    go_ret2
    exact ⟨by have e := H5.out; subst e; rfl, HBW.out.trans (HQ2.out.mono (by omega))⟩
  · have e5 : (k != 5) = true := bne_iff_ne.2 h5
    rw [if_neg h5]
    clear h5 hN5
    cases hu : leB 1 1 m c
    all_goals
      go_enter Tryz.func44, Tryz.ntmps44
      go_upto_region 2 with fail
      rw [← hw0]
      clear hw0
      go_wp2_with fail
      ((with_reducible refine (HX.out).mono ?_); rintro e w1 ⟨rfl, hq1, hq2⟩)
      have P0 := HB0.out.below hq2 (by omega)
      have HQ2 := hidE hq2; have HQ1 := hidE hq1
      clear b0 b1 bz c0 cz B0 B1 hq2 HX
      have b0 := P0.cell 0; have b1 := P0.cell 1; have bz := P0.lt; have c0 := hq1.cell 0; have cz := hq1.lt
      simp at b0 b1 c0
      clear hq1 P0
      go_wp2_with fail
      ((with_reducible refine (le_eq hu).mono ?_); rintro e w2 ⟨rfl, hb2⟩)
      have hB2 : Below w.heap.size w w2 := bstep hb2 (HBW.out.trans (HQ2.out.mono (by omega)))
      have q1 := HQ1.out.past hb2
      clear b0 b1 bz c0 cz hb2
      have c0 := q1.cell 0; have cz := q1.lt
      simp at c0
      go_wp2
      go_ret2
      exact ⟨rfl, hB2⟩
theorem most_eq {F : List Sg} {x d m c : Int} {a : Option Addr} {n cap : Nat} {w : World} {r : Int × Int} (h1 : SliS w (.slice a n cap) F) (hl : n ≤ 1000000) (he : mostS F x d (m, c) = r) :
    Calls Tryz.prog 44 #[.slice a n cap, .int .i64 x, .int .i64 d, V m c] w fun e w' => e = .returned (IE r) ∧ Below w.heap.size w w' := by
  obtain ⟨a', c', e, h2, h3, h4⟩ := h1
  cases e; subst he
  exact most_c F x d m c a cap w (by omega) h4
end Go.Proofs.YtjhhcljbmnomlaaGreat

namespace Go.Proofs.YtjhhcljbmnomlaaGreat
open Go.ChangeShapes Go.WideShapes Go.ChangeAt Go.RowKit
attribute [local irreducible] Go.Calls

theorem leS_form {F G : List Sg} {x : Int} (h : (mayB F && mayB G) = false) : leS F G x = (0, false, 5) := by unfold leS; rw [if_pos h]
theorem leS_none {F G : List Sg} {x : Int} (h1 : mayB F = true) (h2 : mayB G = true) (h : ∀ i, i < (leT F G x).length → badT F G x ((leT F G x).getD i 0) = false) : leS F G x = (0, true, 0) := by
  unfold leS
  rw [h1, h2, if_neg (by decide)]
  have : (leT F G x).find? (badT F G x) = none := by
    rw [List.find?_eq_none]
    intro t ht
    obtain ⟨i, hi, rfl⟩ := List.getElem_of_mem ht
    have := h i hi
    rw [getD_get _ _ _ hi] at this
    rw [this]; exact Bool.false_ne_true
  rw [this]
theorem find_first {p : Int → Bool} : ∀ (l : List Int) (i : Nat), i < l.length → p (l.getD i 0) = true → (∀ j, j < i → p (l.getD j 0) = false) → l.find? p = some (l.getD i 0)
  | [], _, h, _, _ => by simp at h
  | y :: r, 0, _, h, _ => by
    rw [List.getD_cons_zero] at h ⊢
    rw [List.find?_cons_of_pos h]
  | y :: r, i + 1, hi, h, hj => by
    have h0 := hj 0 (by omega)
    rw [List.getD_cons_zero] at h0
    rw [List.find?_cons_of_neg (by rw [h0]; exact Bool.false_ne_true), List.getD_cons_succ]
    rw [List.getD_cons_succ] at h
    exact find_first r i (by simpa using hi) h fun j hj' => by
      have := hj (j + 1) (by omega)
      rw [List.getD_cons_succ] at this; exact this
theorem leS_bad {F G : List Sg} {x : Int} {i : Nat} (h1 : mayB F = true) (h2 : mayB G = true) (hi : i < (leT F G x).length) (hj : ∀ j, j < i → badT F G x ((leT F G x).getD j 0) = false) (h : badT F G x ((leT F G x).getD i 0) = true) : leS F G x = ((leT F G x).getD i 0, false, 0) := by
  unfold leS
  rw [h1, h2, if_neg (by decide), find_first _ i hi h hj]
theorem leT_len (F G : List Sg) (x : Int) : (leT F G x).length ≤ F.length + G.length + 1 := by
  have h1 := timesL_len (twoT F G ++ [x])
  have h2 := twoT_len F G
  unfold leT
  simp at h1
  omega
abbrev L3 (r : Int × Bool × Int) : Value := .tuple #[.int .i64 r.1, .bool r.2.1, .int .i64 r.2.2]

theorem rleq_form {F G : List Sg} {x : Int} {a a' : Option Addr} {cap cap' : Nat} {w : World} (hl : F.length + G.length ≤ 999999990) (hA : ArgS w a F) (hA' : ArgS w a' G) (h : (mayB F && mayB G) = false) :
    Calls Tryz.prog 118 #[.slice a F.length cap, .slice a' G.length cap', .int .i64 x] w fun e w' => e = .returned (L3 (leS F G x)) ∧ Below w.heap.size w w' := by
  rw [leS_form h]
  have HA := hidE hA; have HA' := hidE hA'; clear hA hA'
  have HV := hidE (fun w hA => rmayf_c F a cap w (by omega) hA)
  have HV' := hidE (fun w hA => rmayf_c G a' cap' w (by omega) hA)
  cases h1 : mayB F
  · rw [h1] at HV
    clear h HV'
    go_enter Tryz.func118, Tryz.ntmps118
    go_wp2_with fail
    ((with_reducible refine (HV.out _ HA.out).mono ?_); rintro e w1 ⟨rfl, hb1⟩)
    go_wp2
    exact bodyPost_ret (v := L3 (0, false, 5)) (by simp [results, Tryz.results118, go_sem]) rfl ⟨rfl, hb1⟩
  · have h2 : mayB G = false := by rw [h1] at h; simpa using h
    rw [h1] at HV; rw [h2] at HV'
    clear h
    go_enter Tryz.func118, Tryz.ntmps118
    go_wp2_with fail
    ((with_reducible refine (HV.out _ HA.out).mono ?_); rintro e w1 ⟨rfl, hb1⟩)
    have HB1 := hidE hb1; clear hb1
    go_wp2_with fail
    ((with_reducible refine (HV'.out _ (HA'.out.past HB1.out)).mono ?_); rintro e w2 ⟨rfl, hb2⟩)
    go_wp2
    exact bodyPost_ret (v := L3 (0, false, 5)) (by simp [results, Tryz.results118, go_sem]) rfl ⟨rfl, bstep hb2 HB1.out⟩

set_option maxRecDepth 100000 in
set_option maxHeartbeats 4000000 in
theorem rleq_c (F G : List Sg) (x : Int) (a a' : Option Addr) (cap cap' : Nat) (w : World) (hl : F.length + G.length ≤ 999999990) (hA : ArgS w a F) (hA' : ArgS w a' G) :
    Calls Tryz.prog 118 #[.slice a F.length cap, .slice a' G.length cap', .int .i64 x] w fun e w' => e = .returned (L3 (leS F G x)) ∧ Below w.heap.size w w' := by
  cases h : (mayB F && mayB G)
  · exact rleq_form hl hA hA' h
  obtain ⟨h1, h2⟩ : mayB F = true ∧ mayB G = true := by simpa using h
  have HGOOD := hidE (fun hi => leS_none (x := x) h1 h2 hi)
  have HBAD := hidE (fun i hi hj hb => leS_bad (x := x) (i := i) h1 h2 hi hj hb)
  have HTL := hidE (leT_len F G x)
  have HT2 := hidE (twoT_len F G)
  have HA := hidE hA; have HA' := hidE hA'; clear hA hA' h
  have HV := hidE (fun w hA => rmayf_c F a cap w (by omega) hA)
  have HV' := hidE (fun w hA => rmayf_c G a' cap' w (by omega) hA)
  rw [h1] at HV; rw [h2] at HV'
  clear h1 h2
  generalize leS F G x = D at *
  obtain ⟨i0, hi, hz0, hz1, hz2⟩ := info_parts Tryz.infoI64
  have HI := hidE hi; have HZ0 := hidE hz0; have HZ1 := hidE hz1; have HZ2 := hidE hz2
  clear hi hz0 hz1 hz2
  go_enter Tryz.func118, Tryz.ntmps118
  go_wp2_with fail
  ((with_reducible refine (HV.out _ HA.out).mono ?_); rintro e w1 ⟨rfl, hb1⟩)
  have HB1 := hidE hb1; clear hb1
  go_wp2_with fail
  ((with_reducible refine (HV'.out _ (HA'.out.past HB1.out)).mono ?_); rintro e w2 ⟨rfl, hb2⟩)
  have HB2 := hidE (bstep hb2 HB1.out); clear hb2 HV HV' HB1
  go_wp2_with fail
  ((with_reducible refine (rtwo_own F G a a' cap cap' _ (by omega) (HA.out.past HB2.out) (HA'.out.past HB2.out)).mono ?_); rintro e w3 ⟨v3, rfl, ho3, hb3⟩)
  have HB3 := hidE (bstep hb3 HB2.out); have HO3 := hidE (own_low ho3 HB2.out.size)
  clear hb3 ho3 HB2
  go_wp2_with (at_builtin; refine wpList_append_src rfl (.tmp 21) (.tmp 23) 59 rfl w.heap.size 2 i0 Tryz.underlying59 HI.out HZ0.out HZ1.out HZ2.out _ _ _ rfl (HO3.out.alloc _) _ [x] rfl (src_one (Blk.made _ _ _)) (by have := HT2.out; simp; omega) (by have := HB3.out.size; simp; omega) ?_; intro v4 w4 ho4 hg4)
  have hb4 : Below w.heap.size w w4 := Below.grown (HB3.out.alloc HB3.out.size (.cells #[.int .i64 x] 2)) hg4 (by have := HB3.out.size; simp; omega) (fun k hk => own_block HO3.out hk)
  have ho4' : w4.ownsRow w.heap.size 2 1 v4 (twoT F G ++ [x]).length (cellsI (twoT F G ++ [x])) := by
    rw [cellsI_app, List.length_append]; exact ho4
  obtain ⟨a4, c4, rfl, _, _, hA4⟩ := sliI_own ho4'
  have hrt := rtimes_c (twoT F G ++ [x]) a4 c4 w4 (by have := HT2.out; simp; omega) hA4
  have HRT := hidE hrt
  have HB4 := hidE hb4
  clear ho4 ho4' hg4 hb4 hA4 hrt HO3 HB3
  go_wp2_with fail
  ((with_reducible refine (HRT.out).mono ?_); rintro e w5 ⟨v5, rfl, ho5, hb5⟩)
  change w5.ownsRow w4.heap.size 2 1 v5 (leT F G x).length (cellsI (leT F G x)) at ho5
  obtain ⟨a5, c5, rfl, _, _, hA5⟩ := sliI_own ho5
  have HB5 := hidE (bstep hb5 HB4.out); have HA5 := hidE hA5
  clear hb5 hA5 ho5 HRT HB4
  generalize leT F G x = ts at *
  go_wp2_with fail
  go_loopg [10] ts.length (fun gh vi wr => ∃ n : Nat, vi = .int .i64 n ∧ n ≤ ts.length ∧ ts.length - n ≤ gh ∧ (∀ i, i < n → badT F G x (ts.getD i 0) = false) ∧ Below w5.heap.size w5 wr)
  case atStart => exact ⟨0, rfl, by omega, by omega, fun i hi => by omega, Below.refl _ _⟩
  case round =>
    obtain ⟨n, rfl, hn, hg, hs, hbr⟩ := hrel
    have HS := hidE hs; have HBR := hidE hbr
    clear hs
    by_cases hlt : n < ts.length
    · obtain ⟨b, off, rfl, hb, hc⟩ := (HA5.out.past hbr) (by omega)
      have d0 := hc n hlt
      have HAF := hidE (show ArgS wr a F from (HA.out.past HB5.out).past hbr)
      have HAG := hidE (show ArgS wr a' G from (HA'.out.past HB5.out).past hbr)
      have HATF := hidE (fun w hA => rat_c F a cap (ts.getD n 0) w (by omega) hA)
      have HATG := hidE (fun w hA => rat_c G a' cap' (ts.getD n 0) w (by omega) hA)
      have HLE := hidE (fun w => rle (vat F (ts.getD n 0)).1 (vat F (ts.getD n 0)).2 (vat G (ts.getD n 0)).1 (vat G (ts.getD n 0)).2 w)
      have HNB := hidE (fun hb => HBAD.out n hlt HS.out hb)
      have HNS := hidE (fun (he : badT F G x (ts.getD n 0) = false) => show ∀ i, i < n + 1 → badT F G x (ts.getD i 0) = false from fun i hi => by
        by_cases e : i = n
        · rw [e]; exact he
        · exact HS.out i (by omega))
      have HQ := hidE (show badT F G x (ts.getD n 0) = (decide (x ≤ ts.getD n 0) && !(leB (vat F (ts.getD n 0)).1 (vat F (ts.getD n 0)).2 (vat G (ts.getD n 0)).1 (vat G (ts.getD n 0)).2)) from rfl)
      clear hc hbr
      generalize vat F (ts.getD n 0) = y at *
      generalize vat G (ts.getD n 0) = z at *
      generalize badT F G x (ts.getD n 0) = bad at *
      generalize ts.getD n 0 = t at *
      obtain ⟨wo, rfl⟩ : ∃ wo : World, wo = wr := ⟨_, rfl⟩
      cases hd : decide (x ≤ t)
      · have HN := hidE (HNS.out (by rw [HQ.out, hd]; rfl))
        clear HNB HNS HQ HATF HATG HLE HAF HAG
        go_wp2_with fail
        refine wp_region_past_lit (by kernel_rfl) (by kernel_rfl) ?_
        have hcp := Past.cell (W := wo)
        repeat (go_big_quiet_step (fail))
        refine wpQuiet_nil ?_
        rintro _ ⟨x', rfl⟩
        have o1 : Below w5.heap.size w5 x'.1 := bstep x'.2 HBR.out
        clear hcp d0 hb
        generalize x'.1 = w6 at *
        go_wp2
        go_roundg (ts.length - (n + 1))
        case measure => omega
        case rel => exact ⟨n + 1, by go_num, by omega, Nat.le_refl _, HN.out, o1⟩
      · rw [hd, Bool.true_and] at HQ
        cases hle : leB y.1 y.2 z.1 z.2
        · have HD := hidE (HNB.out (by rw [HQ.out, hle]; rfl))
          rw [hle] at HLE
          clear HNB HNS HQ hle
          go_wp2_with fail
          refine wp_region_past_lit (by kernel_rfl) (by kernel_rfl) ?_
          have hcp := Past.cell (W := wo)
          repeat (go_big_quiet_step (first | (go_at_call 27; first | exact Past.call _ (HATF.out _ (HAF.out.past (Past.prop _))) | exact Past.call _ (HATG.out _ (HAG.out.past (Past.prop _)))) | (go_at_call 134; exact Past.call _ (HLE.out _))))
          refine wpQuiet_nil ?_
          rintro _ ⟨x', rfl⟩
          have o1 : Below w5.heap.size w5 x'.1 := bstep x'.2 HBR.out
          have r0 := (hcp x' b (off + n) hb).trans d0
          have hbz : b < x'.1.heap.size := Nat.lt_of_lt_of_le hb x'.2.size
          clear hcp d0 hb
          generalize x'.1 = w6 at *
          go_wp2
          exact bodyPost_ret (v := L3 (t, false, 0)) (by simp [results, Tryz.results118, go_sem]) rfl ⟨by rw [HD.out], HB5.out.trans (o1.mono HB5.out.size)⟩
        · have HN := hidE (HNS.out (by rw [HQ.out, hle]; rfl))
          rw [hle] at HLE
          clear HNB HNS HQ hle
          go_wp2_with fail
          refine wp_region_past_lit (by kernel_rfl) (by kernel_rfl) ?_
          have hcp := Past.cell (W := wo)
          repeat (go_big_quiet_step (first | (go_at_call 27; first | exact Past.call _ (HATF.out _ (HAF.out.past (Past.prop _))) | exact Past.call _ (HATG.out _ (HAG.out.past (Past.prop _)))) | (go_at_call 134; exact Past.call _ (HLE.out _))))
          refine wpQuiet_nil ?_
          rintro _ ⟨x', rfl⟩
          have o1 : Below w5.heap.size w5 x'.1 := bstep x'.2 HBR.out
          clear hcp d0 hb
          generalize x'.1 = w6 at *
          go_wp2
          go_roundg (ts.length - (n + 1))
          case measure => omega
          case rel => exact ⟨n + 1, by go_num, by omega, Nat.le_refl _, HN.out, o1⟩
    · have hn' : n = ts.length := by omega
      subst hn'
      have HD := hidE (HGOOD.out HS.out)
      go_wp2
      exact bodyPost_ret (v := L3 (0, true, 0)) (by simp [results, Tryz.results118, go_sem]) rfl ⟨by rw [HD.out], HB5.out.trans (HBR.out.mono HB5.out.size)⟩
end Go.Proofs.YtjhhcljbmnomlaaGreat

namespace Go.Proofs.YtjhhcljbmnomlaaGreat
open Go.ChangeShapes Go.WideShapes Go.ChangeAt Go.RowKit
attribute [local irreducible] Go.Calls

theorem rsame_f {w : World} {n m c1 c2 : Nat} {a1 a2 : Option Addr} {F G : List Sg} {b : Bool} (h1 : SliS w (.slice a1 n c1) F) (h2 : SliS w (.slice a2 m c2) G) (he : sameB F G = b) :
    Calls Tryz.prog 30 #[.slice a1 n c1, .slice a2 m c2] w fun e w' => e = .returned (.bool b) ∧ Below w.heap.size w w' := by
  obtain ⟨e1, q1, q2, q3⟩ := h1.len; obtain ⟨e2, s1, s2, s3⟩ := h2.len
  subst e1; subst e2; subst he
  exact rsame_c F G a1 a2 c1 c2 w (by omega) (by omega) q3 s3
theorem cmn_f {w : World} {n m c1 c2 : Nat} {a1 a2 : Option Addr} {F G r : List Sg} {er : Int} (h1 : SliS w (.slice a1 n c1) F) (h2 : SliS w (.slice a2 m c2) G) (hl : n + m ≤ 100000) (he : doS 2 F G = (r, er)) :
    Calls Tryz.prog 180 #[.slice a1 n c1, .slice a2 m c2] w (OfIs w r er) := by
  obtain ⟨e1, q1, q2, q3⟩ := h1.len; obtain ⟨e2, s1, s2, s3⟩ := h2.len
  subst e1; subst e2
  have := cmn_c F G a1 a2 c1 c2 w q1 q2 s1 s2 (by omega) q3 s3
  rw [he] at this; exact this
theorem crange_f {w : World} {n c1 : Nat} {a1 : Option Addr} {x y m c : Int} {F r : List Sg} {er : Int} (h1 : SliS w (.slice a1 n c1) F) (hl : n ≤ 100000) (he : rangeS F x y (m, c) = (r, er)) :
    Calls Tryz.prog 89 #[.slice a1 n c1, .int .i64 x, .int .i64 y, V m c] w (OfIs w r er) := by
  obtain ⟨e1, q1, q2, q3⟩ := h1.len
  subst e1
  have := crange_c F x y m c a1 c1 w q1 q2 (by omega) q3
  rw [he] at this; exact this
theorem rle_f {w : World} {n m c1 c2 : Nat} {a1 a2 : Option Addr} {x : Int} {F G : List Sg} {r : Int × Bool × Int} (h1 : SliS w (.slice a1 n c1) F) (h2 : SliS w (.slice a2 m c2) G) (hl : n + m ≤ 999999990) (he : leS F G x = r) :
    Calls Tryz.prog 118 #[.slice a1 n c1, .slice a2 m c2, .int .i64 x] w fun e w' => e = .returned (.tuple #[.int .i64 r.1, .bool r.2.1, .int .i64 r.2.2]) ∧ Below w.heap.size w w' := by
  obtain ⟨e1, q1, q2, q3⟩ := h1.len; obtain ⟨e2, s1, s2, s3⟩ := h2.len
  subst e1; subst e2; subst he
  exact rleq_c F G x a1 a2 c1 c2 w (by omega) q3 s3
theorem rat_f {w : World} {n c1 : Nat} {a1 : Option Addr} {t : Int} {F : List Sg} {v : Int × Int} (h1 : SliS w (.slice a1 n c1) F) (hl : n ≤ 1099511627776) (he : vat F t = v) :
    Calls Tryz.prog 27 #[.slice a1 n c1, .int .i64 t] w fun e w' => e = .returned (V v.1 v.2) ∧ Below w.heap.size w w' := by
  obtain ⟨e1, q1, q2, q3⟩ := h1.len
  subst e1; subst he
  exact rat_c F a1 c1 t w (by omega) q3
end Go.Proofs.YtjhhcljbmnomlaaGreat

namespace Go.Proofs.YtjhhcljbmnomlaaGreat
open Go.ChangeShapes Go.WideShapes Go.ChangeAt Go.RowKit
attribute [local irreducible] Go.Calls

theorem winT_cells (F : List Sg) (x : Int) : cellsI (winT F x) = cellsI [x] ++ cellsI (F.map (·.1)) := by
  unfold winT cellsI; simp
theorem winT_len (F : List Sg) (x : Int) : (winT F x).length = 1 + F.length := by
  unfold winT; simp; omega
def intoT (F : List Sg) (x d : Int) (v : Int × Int) (t : Int) : Bool := !(inW x d t) || leB v.1 v.2 (vat F t).1 (vat F t).2
theorem into_all {F : List Sg} {x d : Int} {v : Int × Int} (h : ∀ i, i < (winT F x).length → intoT F x d v ((winT F x).getD i 0) = true) : intoB F x d v = true := by
  refine into_yes fun i hi => ?_
  have := h i hi
  unfold intoT at this
  cases hw : inW x d ((winT F x).getD i 0)
  · exact .inl rfl
  · rw [hw] at this; exact .inr this
set_option maxRecDepth 100000 in
set_option maxHeartbeats 16000000 in
theorem rinto_c (F : List Sg) (x d m c : Int) (a : Option Addr) (cap : Nat) (w : World) (hl : F.length ≤ 100000) (hd : 1 ≤ d ∧ d ≤ 4096) (hx : nowB x = true) (hA : ArgS w a F) :
    Calls Tryz.prog 86 #[.slice a F.length cap, .int .i64 x, .int .i64 d, V m c] w fun e w' => e = .returned (.bool (intoB F x d (m, c))) ∧ Below w.heap.size w w' := by
  obtain ⟨ix, hix, hz0, hz1, hz2⟩ := info_parts Tryz.infoI64
  have IX := hidE hix; have IZ0 := hidE hz0; have IZ1 := hidE hz1; have IZ2 := hidE hz2
  clear hix hz0 hz1 hz2
  have hxx := nowB_iff.1 hx
  have wq : IntKind.i64.wrap (x + d) = x + d := IntWalk.i64_in _ (by omega)
  obtain ⟨w0, hw0⟩ : ∃ w0, w0 = w.alloc (Obj.cells #[.int .i64 m, .int .i64 c] 65) := ⟨_, rfl⟩
  have hb0 : Below w.heap.size w w0 := by rw [hw0]; (repeat (first | exact Below.refl _ _ | assumption | refine balloc ?_ _ | refine below_drewN ?_ _ | refine bstep (by assumption) ?_ | refine bstep (Past.prop _) ?_ | refine Below.setCell ?_ (by first | exact Nat.le_refl _ | (simp; done) | (simp; omega)) _))
  have HB0 := hidE hb0
  have HBV := hidE (show Blk w0 w.heap.size #[.int .i64 m, .int .i64 c] 65 by rw [hw0]; exact Blk.made _ _ _)
  have HA := hidE (hA.past hb0)
  have HW := hidE (fun w hA => rwhen_c F a cap w (by omega) hA)
  clear hA hb0 hx hxx hd
  go_enter Tryz.func86, Tryz.ntmps86
  go_upto_region 1 with fail
  rw [← hw0]
  clear hw0
  have HBa := hidE (show Below w0.heap.size w0 (w0.alloc (Obj.cells #[.int .i64 x] 2)) from (Below.refl _ _).alloc (Nat.le_refl _) _)
  have HO1 := hidE (show World.ownsRow (w0.alloc (Obj.cells #[.int .i64 x] 2)) w0.heap.size 2 1 (.slice (some ⟨w0.heap.size, 0, none⟩) 1 1) 1 (cellsI [x]) from World.ownsRow_lit (e := 2) (size := 1) (base := w0.heap.size) w0 #[.int .i64 x] 1 (Nat.le_refl _) (by unfold maxLen; omega) rfl)
  go_wp2_with fail
  ((with_reducible refine (HW.out _ (HA.out.past HBa.out)).mono ?_); rintro e wt ⟨v2, rfl, ho2, hb2⟩)
  have HB2 := hidE (bstep hb2 HBa.out)
  have HO1' := hidE (own_below HO1.out hb2)
  have ho2' : wt.ownsRow (w0.alloc (Obj.cells #[.int .i64 x] 2)).heap.size 2 1 v2 (F.map (·.1)).length (cellsI (F.map (·.1))) := by rw [List.length_map]; exact ho2
  have HS2 := hidE (src_own ho2')
  clear ho2 ho2' hb2 HO1 HBa
  go_wp2_with (at_builtin; refine wpList_append_src rfl (.tmp 12) (.tmp 14) 59 rfl w0.heap.size 2 ix Tryz.underlying59 IX.out IZ0.out IZ1.out IZ2.out _ _ _ rfl HO1'.out _ _ rfl HS2.out (by simp; omega) HB2.out.size ?_; intro v3 w9 ho3 hg3)
  have hb : Below w0.heap.size w0 w9 := Below.grown HB2.out hg3 HB2.out.size (fun k hk => own_block HO1'.out hk)
  have ho4 : w9.ownsRow w0.heap.size 2 1 v3 (winT F x).length (cellsI (winT F x)) := by rw [winT_cells, winT_len]; rw [List.length_map] at ho3; exact ho3
  obtain ⟨aT, cT, rfl, _, _, h3⟩ := sliI_own ho4
  have ST := hidE (show (winT F x).length = 1 + F.length ∧ ArgI w9 aT (winT F x) from ⟨winT_len _ _, h3⟩)
  (try rw [winT_len])
  clear ho3 ho4 hg3 h3 HW HO1' HS2 HB2
  have SF := hidE (HA.out.past hb)
  have HB0 := hidE (bstep hb HB0.out)
  have HBV := hidE (HBV.out.past hb)
  clear hb HA IX IZ0 IZ1 IZ2
  obtain ⟨N, hN⟩ : ∃ N, 1 + F.length = N := ⟨_, rfl⟩
  rw [hN] at ST
  rw [hN]
  have hN9 : N < 1000000 := by omega
  have HFL := hidE hl
  clear hN hl
  obtain ⟨ok, hok⟩ : ∃ ok : Nat → Bool, ok = fun i => intoT F x d (m, c) ((winT F x).getD i 0) := ⟨_, rfl⟩
  have HOKD := hidE hok
  clear hok
  go_wp2
  go_loopg [10] N (fun g v10 wr => ∃ k : Nat, v10 = .int .i64 k ∧ k ≤ N ∧ N - k ≤ g ∧ (∀ i, i < k → ok i = true) ∧ Below w.heap.size w wr ∧ Below w9.heap.size w9 wr)
  case atStart => exact ⟨0, rfl, Nat.zero_le _, Nat.le_refl _, fun i hi => by omega, HB0.out, Below.refl _ _⟩
  case round =>
    obtain ⟨k, rfl, hk, hg, hp, hb, hb9⟩ := hrel
    have HGK := hidE hg; have HP := hidE hp
    have SF2 := hidE (SF.out.past hb9); have BV := HBV.out.past hb9
    clear hg hp
    by_cases hlt : k < N
    · have HLT := hidE (show k + 1 ≤ N from hlt)
      obtain ⟨hl, hA⟩ := ST.out
      obtain ⟨b, off, rfl, hbz, hc⟩ := (hA.past hb9) (by omega)
      have e0 := hc k (by omega)
      have HKE := hidE (show ok k = intoT F x d (m, c) ((winT F x).getD k 0) by rw [HOKD.out])
      have HKF := hidE (show ok k = false → intoB F x d (m, c) = false from fun h => by
        rw [HOKD.out] at h
        have h : intoT F x d (m, c) ((winT F x).getD k 0) = false := h
        unfold intoT at h
        rw [Bool.or_eq_false_iff] at h
        exact into_no (by omega) (by simpa using h.1) h.2)
      generalize (winT F x).getD k 0 = t at *
      have g0 := BV.cell 0; have g1 := BV.cell 1; have gz := BV.lt
      simp at g0 g1
      clear hc hA hl BV
      have HVA := hidE (fun w (h : ArgS w a F) => rat_c F a cap t w (by have := HFL.out; omega) h)
      by_cases h1 : x ≤ t
      · have d1 : decide (x ≤ t) = true := decide_eq_true h1
        by_cases h2 : t < x + d
        · have d2 : decide (t < x + d) = true := decide_eq_true h2
          have HKL := hidE (show ok k = leB m c (vat F t).1 (vat F t).2 by rw [HKE.out]; unfold intoT; rw [inW_iff.2 ⟨h1, h2⟩]; simp)
          generalize vat F t = va at *
          obtain ⟨lb, hlb⟩ : ∃ lb, leB m c va.1 va.2 = lb := ⟨_, rfl⟩
          have HLE := hidE (fun w => rle m c va.1 va.2 w)
          rw [hlb] at HKL HLE
          clear h1 h2 hlb hk hlt
          cases lb
          · have HNO := hidE (HKF.out HKL.out)
            go_wp2_with fail
            refine wp_region_past_lit (by kernel_rfl) (by kernel_rfl) ?_
            have hcp := Past.cell (W := wr)
            repeat (go_big_quiet_step (first | (go_at_call 27; exact Past.call _ (HVA.out _ (SF2.out.past (Past.prop _)))) | (go_at_call 134; exact Past.call _ (HLE.out _))))
            refine wpQuiet_nil ?_
            rintro _ ⟨x', rfl⟩
            have HBR := hidE (bstep x'.2 hb)
            clear hcp e0 hbz g0 g1 gz
            generalize x'.1 = wl at *
            go_wp2
            go_ret
            exact ⟨by rw [HNO.out]; rfl, HBR.out⟩
          · have HKO := hidE HKL.out
            go_wp2_with fail
            refine wp_region_past_lit (by kernel_rfl) (by kernel_rfl) ?_
            have hcp := Past.cell (W := wr)
            repeat (go_big_quiet_step (first | (go_at_call 27; exact Past.call _ (HVA.out _ (SF2.out.past (Past.prop _)))) | (go_at_call 134; exact Past.call _ (HLE.out _))))
            refine wpQuiet_nil ?_
            rintro _ ⟨x', rfl⟩
            have HBR := hidE (bstep x'.2 hb)
            have HB9 := hidE (bstep x'.2 hb9)
            clear hcp e0 hbz g0 g1 gz
            generalize x'.1 = wl at *
            have HNX := hidE (show ∀ i, i < k + 1 → ok i = true from fun i hi => by
              by_cases c : i < k
              · exact HP.out i c
              · have e : i = k := by omega
                subst e; exact HKO.out)
            go_wp2
            go_roundg (N - (k + 1))
            case measure => have := HGK.out; have := HLT.out; omega
            case rel => exact ⟨k + 1, by go_num, HLT.out, Nat.le_refl _, HNX.out, HBR.out, HB9.out⟩
        · have d2 : decide (t < x + d) = false := decide_eq_false h2
          have HKO := hidE (show ok k = true by rw [HKE.out]; unfold intoT; rw [inW_not.2 (by omega)]; rfl)
          clear h1 h2 hk hlt
          go_wp2_with fail
          refine wp_region_past_lit (by kernel_rfl) (by kernel_rfl) ?_
          have hcp := Past.cell (W := wr)
          repeat (go_big_quiet_step (fail))
          refine wpQuiet_nil ?_
          rintro _ ⟨x', rfl⟩
          have HBR := hidE (bstep x'.2 hb)
          have HB9 := hidE (bstep x'.2 hb9)
          clear hcp e0 hbz g0 g1 gz
          generalize x'.1 = wl at *
          have HNX := hidE (show ∀ i, i < k + 1 → ok i = true from fun i hi => by
            by_cases c : i < k
            · exact HP.out i c
            · have e : i = k := by omega
              subst e; exact HKO.out)
          go_wp2
          go_roundg (N - (k + 1))
          case measure => have := HGK.out; have := HLT.out; omega
          case rel => exact ⟨k + 1, by go_num, HLT.out, Nat.le_refl _, HNX.out, HBR.out, HB9.out⟩
      · have d1 : decide (x ≤ t) = false := decide_eq_false h1
        have HKO := hidE (show ok k = true by rw [HKE.out]; unfold intoT; rw [inW_not.2 (by omega)]; rfl)
        clear h1 hk hlt
        go_wp2_with fail
        refine wp_region_past_lit (by kernel_rfl) (by kernel_rfl) ?_
        have hcp := Past.cell (W := wr)
        repeat (go_big_quiet_step (fail))
        refine wpQuiet_nil ?_
        rintro _ ⟨x', rfl⟩
        have HBR := hidE (bstep x'.2 hb)
        have HB9 := hidE (bstep x'.2 hb9)
        clear hcp e0 hbz g0 g1 gz
        generalize x'.1 = wl at *
        have HNX := hidE (show ∀ i, i < k + 1 → ok i = true from fun i hi => by
          by_cases c : i < k
          · exact HP.out i c
          · have e : i = k := by omega
            subst e; exact HKO.out)
        go_wp2
        go_roundg (N - (k + 1))
        case measure => have := HGK.out; have := HLT.out; omega
        case rel => exact ⟨k + 1, by go_num, HLT.out, Nat.le_refl _, HNX.out, HBR.out, HB9.out⟩
    · have HYES := hidE (show intoB F x d (m, c) = true from into_all fun i hi => by
        have h := HP.out i (by have := ST.out.1; omega)
        rw [HOKD.out] at h
        exact h)
      go_wp2
      go_ret
      exact ⟨by rw [HYES.out]; rfl, hb⟩
end Go.Proofs.YtjhhcljbmnomlaaGreat
