/- An array of two int64 that is handed in: two integers. No conditions. CalcRange answers true for every list of runs, every window, and every other list. No conditions but that the lists lie within their capacities. CalcRange: for every list of runs, every window, and every other list, the statement's function answers true and leaves its arguments alone. No conditions. -/
import Derived.Test.YtgbgnpdfjoeonaaJF
import Derived.OpenShut
import Derived.Test.YtgbgnpdfjoeonaaCalcOrderR
namespace Go.Proofs.Ytgbgnpdfjoeonaa
open Go.ChangeShapes Go.WideShapes Go.ChangeAt Go.RowKit

theorem open_arr2 {H : Type} {enc : TypeId × Value → H} {P : Program} {t ti : TypeId} (ht : P.underlying t = some (.array 2 ti)) (hti : P.underlying ti = some (.int .i64)) (ce : P.cellsOf ti = 1) (ct : P.cellsOf t = 2)
    {W : World} {v : Value} {d : DataW H} {p : List MemPlace} {r : Reach} {b0 base : Nat} {sp : Nat → Bool} {held : Bool} (ho : Value.okWide P W r b0 t v) (h : DataW.Trod enc P W base sp held t v d p) :
    ∃ x y : Int, v = .agg #[.int .i64 x, .int .i64 y] := by
  simp only [Value.okWide, ht] at ho
  obtain ⟨cs, rfl, hsz, _⟩ := ho
  obtain ⟨fuel, hf⟩ := h
  obtain ⟨xs, m, _, _, hl, hxl, hx⟩ := DataW.trod_array ht hf
  rw [ct] at hsz
  obtain ⟨c0, c1, rfl⟩ : ∃ c0 c1, cs = #[c0, c1] := by
    obtain ⟨l⟩ := cs
    match l, hsz with
    | [c0, c1], _ => exact ⟨c0, c1, rfl⟩
  match xs, hxl with
  | [y0, y1], _ =>
    have h0 := hx 0 (by omega)
    have h1 := hx 1 (by omega)
    rw [ce] at h0 h1
    simp [Value.cells] at h0 h1
    obtain ⟨z0, e0, _, _⟩ := DataW.trod_int hti h0
    obtain ⟨z1, e1, _, _⟩ := DataW.trod_int hti h1
    simp at e0 e1
    subst e0 e1
    exact ⟨z0, z1, rfl⟩
end Go.Proofs.Ytgbgnpdfjoeonaa

namespace Go.Proofs.Ytgbgnpdfjoeonaa
open Go.ChangeShapes Go.WideShapes Go.ChangeAt Go.RowKit
attribute [local irreducible] Go.Calls

theorem pastOf {W : World} {k : Nat} {cs : Array Value} {t : TypeId} (_h : Blk W k cs t) (x : Past W) (b o : Nat) (hb : b < W.heap.size) : x.1.cell? ⟨b, o, none⟩ = W.cell? ⟨b, o, none⟩ := x.cell b o hb
theorem rrange_s {w : World} {n c1 : Nat} {a1 : Option Addr} {x y m c : Int} {F r : List Sg} {er : Int} (h1 : SliS w (.slice a1 n c1) F) (hl : n ≤ 100000) (he : rangeS F x y (m, c) = (r, er)) :
    Calls Try.prog 20 #[.slice a1 n c1, .int .i64 x, .int .i64 y, V m c] w (OfIs w r er) := by
  obtain ⟨e1, q1, q2, q3⟩ := h1.len
  subst e1
  have := rrange_c F x y m c a1 c1 w (by omega) q3
  rw [he] at this; exact this
theorem rangeS_err {F : List Sg} {x y : Int} {v : Int × Int} (h : (rangeS F x y v).2 ≠ 0) : (rangeS F x y v).1 = [] := by
  unfold rangeS at h ⊢
  split
  · rfl
  · split
    · rfl
    · rename_i h1 h2
      rw [if_neg h1, if_neg h2] at h
      exact doS_err h
theorem rangeS_len {F : List Sg} {x y : Int} {v : Int × Int} : (rangeS F x y v).1.length ≤ F.length + 2 := by
  unfold rangeS
  split
  · simp
  · split
    · simp
    · have := doS_len 0 F (boxS x y v).1
      have := boxS_len x y v
      omega

theorem range_many (n m : Nat) (x y : Int) (a a' : Option Addr) (cap cap' : Nat) (w : World) (h : 60 < n ∨ 60 < m) :
    Calls Try.prog 4 #[.slice a n cap, .agg #[.int .i64 x, .int .i64 y], .slice a' m cap'] w fun e w' => e = .returned (.bool true) ∧ Below w.heap.size w w' := by
  have HG := hidE (fun w => great_yes (a := a) (a' := a') (cap := cap) (cap' := cap') (w := w) h)
  clear h
  go_enter Try.func4, Try.ntmps4
  go_wp2_with (first | (go_at_call 8; ((with_reducible refine (HG.out _).mono ?_); rintro e w1 ⟨rfl, hb⟩)) | (go_at_call 9; ((with_reducible refine (chead_c _).mono ?_); rintro e w2 ⟨rfl, hb2⟩)))
  go_ret
  exact ⟨rfl, by (repeat (first | exact Below.refl _ _ | assumption | refine balloc ?_ _ | refine below_drewN ?_ _ | refine bstep (by assumption) ?_ | refine bstep (Past.prop _) ?_ | refine Below.setCell ?_ (by first | exact Nat.le_refl _ | (simp; done) | (simp; omega)) _))⟩
theorem range_more (n m : Nat) (x y : Int) (a a' : Option Addr) (cap cap' : Nat) (w : World) (h : n ≤ 60) (h' : m ≤ 60) (h2 : 40 < m) :
    Calls Try.prog 4 #[.slice a n cap, .agg #[.int .i64 x, .int .i64 y], .slice a' m cap'] w fun e w' => e = .returned (.bool true) ∧ Below w.heap.size w w' := by
  have HG := hidE (fun w => great_no (a := a) (a' := a') (cap := cap) (cap' := cap') (w := w) h h')
  have d1 : decide ((40 : Int) < (m : Int)) = true := decide_eq_true (by omega)
  clear h h'
  go_enter Try.func4, Try.ntmps4
  go_wp2_with (first | (go_at_call 8; ((with_reducible refine (HG.out _).mono ?_); rintro e w1 ⟨rfl, hb⟩)) | (go_at_call 9; ((with_reducible refine (chead_c _).mono ?_); rintro e w2 ⟨rfl, hb2⟩)))
  go_ret
  exact ⟨rfl, by (repeat (first | exact Below.refl _ _ | assumption | refine balloc ?_ _ | refine below_drewN ?_ _ | refine bstep (by assumption) ?_ | refine bstep (Past.prop _) ?_ | refine Below.setCell ?_ (by first | exact Nat.le_refl _ | (simp; done) | (simp; omega)) _))⟩

set_option maxRecDepth 100000 in
set_option maxHeartbeats 8000000 in
theorem range_few (F X : List Sg) (n m : Nat) (x y : Int) (a a' : Option Addr) (cap cap' : Nat) (w : World) (h : n ≤ 60) (h' : m ≤ 40) (S1 : SliS w (.slice a n cap) F) (S2 : SliS w (.slice a' m cap') X) :
    Calls Try.prog 4 #[.slice a n cap, .agg #[.int .i64 x, .int .i64 y], .slice a' m cap'] w fun e w' => e = .returned (.bool true) ∧ Below w.heap.size w w' := by
  have HG := hidE (fun w => great_no (a := a) (a' := a') (cap := cap) (cap' := cap') (w := w) h (show m ≤ 60 by omega))
  have HEM := hidE S2.len.1
  have HEN := hidE S1.len.1
  have d1 : decide ((40 : Int) < (m : Int)) = false := decide_eq_false (by omega)
  go_enter Try.func4, Try.ntmps4
  go_upto_if 24 with (go_at_call 8; ((with_reducible refine (HG.out _).mono ?_); rintro e w1 ⟨rfl, hb⟩))
  replace S1 := (sliS_alloc S1 (Obj.cells #[Value.int IntKind.i64 x, Value.int IntKind.i64 y] 38)).past hb
  replace S2 := (sliS_alloc S2 (Obj.cells #[Value.int IntKind.i64 x, Value.int IntKind.i64 y] 38)).past hb
  have BX := (Blk.made w #[.int .i64 x, .int .i64 y] 38).past hb
  have hb1 : Below w.heap.size w w1 := by (repeat (first | exact Below.refl _ _ | assumption | refine balloc ?_ _ | refine below_drewN ?_ _ | refine bstep (by assumption) ?_ | refine bstep (Past.prop _) ?_ | refine Below.setCell ?_ (by first | exact Nat.le_refl _ | (simp; done) | (simp; omega)) _))
  clear hb
  go_upto_if 29 with fail
  go_cut [29] (fun s29 wx => ∃ vm vc : Int, s29 = .bool (decide ((0 : Int) < (m : Int))) ∧ SliS wx (.slice a n cap) F ∧ SliS wx (.slice a' m cap') X ∧ Blk wx w.heap.size #[.int .i64 x, .int .i64 y] 38 ∧ Blk wx w1.heap.size #[.int .i64 vm, .int .i64 vc] 40 ∧ Below w.heap.size w wx)
  case first =>
    by_cases h0 : m = 0
    · have hd : decide ((0 : Int) < (m : Int)) = false := decide_eq_false (by omega)
      have hd' : ¬ (0 : Int) < (m : Int) := by omega
      clear h0
      go_wp2
      go_meet
      case rel => exact ⟨2, -1, by first | rfl | (rw [hd]; done) | (simp; done) | (simp; omega), sliS_alloc S1 _, sliS_alloc S2 _, BX.alloc _, Blk.made _ _ _, by (repeat (first | exact Below.refl _ _ | assumption | refine balloc ?_ _ | refine below_drewN ?_ _ | refine bstep (by assumption) ?_ | refine bstep (Past.prop _) ?_ | refine Below.setCell ?_ (by first | exact Nat.le_refl _ | (simp; done) | (simp; omega)) _))⟩
    · obtain ⟨b, off, rfl, hbz, hc⟩ := S2.len.2.2.2 (by have := HEM.out; omega)
      obtain ⟨c0, c1, c2⟩ := hc.get (i := 0) (by have := HEM.out; omega)
      have hd : decide ((0 : Int) < (m : Int)) = true := decide_eq_true (by omega)
      have hl0 : 0 < m := by omega
      have hbn : b ≠ w1.heap.size := by omega
      simp at c1 c2
      clear hc h0 c0
      generalize vls X 0 = v at *
      go_wp2
      go_meet
      case rel => exact ⟨v.1, v.2, by first | rfl | (rw [hd]; done) | (simp [hl0]; done) | (simp; omega), sliS_alloc S1 _, sliS_alloc S2 _, BX.alloc _, Blk.made _ _ _, by (repeat (first | exact Below.refl _ _ | assumption | refine balloc ?_ _ | refine below_drewN ?_ _ | refine bstep (by assumption) ?_ | refine bstep (Past.prop _) ?_ | refine Below.setCell ?_ (by first | exact Nat.le_refl _ | (simp; done) | (simp; omega)) _))⟩
  have hw1 : w.heap.size < w1.heap.size := BX.lt
  clear S1 S2 BX
  obtain ⟨vm, vc, rfl, S1, S2, BX, B7, hb⟩ := hcut
  have x0 := BX.cell 0; have x1 := BX.cell 1; have xz := BX.lt; have v0 := B7.cell 0; have v1 := B7.cell 1; have vz := B7.lt
  simp at x0 x1 v0 v1
  have HLEN := hidE (rangeS_len (F := F) (x := x) (y := y) (v := (vm, vc)))
  obtain ⟨A, ae, hA⟩ : ∃ A ae, rangeS F x y (vm, vc) = (A, ae) := ⟨_, _, rfl⟩
  rw [hA] at HLEN
  have hAl : A.length ≤ 62 := by have := HLEN.out; have := HEN.out; dsimp only at *; omega
  by_cases h0 : ae = 0
  rotate_left
  · have hAn : A = [] := by have := rangeS_err (F := F) (x := x) (y := y) (v := (vm, vc)) (by rw [hA]; exact h0); rw [hA] at this; exact this
    subst hAn
    have g1 : (ae != 0) = true := bne_iff_ne.2 h0
    have HA := hidE hA
    clear hA h0 HLEN
    go_wp2_with (first | (go_at_call 19; ((with_reducible refine (Calls.ofSl (n := 0) (crange_s (F := F) (by (repeat (first | assumption | exact sliS_nil _ | (refine sliS_new (Blk.made _ _ _) rfl rfl (by decide); done) | refine SliS.past ?_ (by assumption) | refine sliS_alloc ?_ _))) (by omega) HA.out) rfl).mono ?_); rintro e w2 ⟨a8, c8, rfl, S8, hb2⟩; have B7' := B7.past hb2; have BX' := BX.past hb2; clear x0 x1 v0 v1 xz vz B7 BX; have x0 := BX'.cell 0; have x1 := BX'.cell 1; have xz := BX'.lt; have v0 := B7'.cell 0; have v1 := B7'.cell 1; have vz := B7'.lt; simp at x0 x1 v0 v1)) | (go_at_call 20; ((with_reducible refine (Calls.ofSl (n := 0) (rrange_s (F := F) (by (repeat (first | assumption | exact sliS_nil _ | (refine sliS_new (Blk.made _ _ _) rfl rfl (by decide); done) | refine SliS.past ?_ (by assumption) | refine sliS_alloc ?_ _))) (by omega) HA.out) rfl).mono ?_); rintro e w3 ⟨a10, c10, rfl, S10, hb3⟩)) | (go_at_call 18; ((with_reducible refine (rsame_s (a1 := a8) (a2 := a10) (F := []) (G := []) (b := true) (by (repeat (first | assumption | exact sliS_nil _ | (refine sliS_new (Blk.made _ _ _) rfl rfl (by decide); done) | refine SliS.past ?_ (by assumption) | refine sliS_alloc ?_ _))) (by (repeat (first | assumption | exact sliS_nil _ | (refine sliS_new (Blk.made _ _ _) rfl rfl (by decide); done) | refine SliS.past ?_ (by assumption) | refine sliS_alloc ?_ _))) (sameB_t _)).mono ?_); rintro e w4 ⟨rfl, hb4⟩)) | (go_at_call 9; ((with_reducible refine (chead_c _).mono ?_); rintro e w5 ⟨rfl, hb5⟩)))
    go_ret
    exact ⟨rfl, by (repeat (first | exact Below.refl _ _ | assumption | refine balloc ?_ _ | refine below_drewN ?_ _ | refine bstep (by assumption) ?_ | refine bstep (Past.prop _) ?_ | refine Below.setCell ?_ (by first | exact Nat.le_refl _ | (simp; done) | (simp; omega)) _))⟩
  · subst h0
    obtain ⟨hmF, hmA, okv, _, hval⟩ := range_vals hA
    have okv' := okV_iff.1 okv
    dsimp only at okv' hval
    have HA := hidE hA; have HBK := hidE (range_back hA); have HMA := hidE hmA; have HVAL := hidE hval; have HOKV := hidE okv'
    have HOKA := hidE (may_ok hmA); have HOKF := hidE (may_ok hmF); have HOV := hidE okv
    clear hA hmF hmA okv okv' hval HLEN
    go_upto_region 12 with (first | (go_at_call 19; ((with_reducible refine (Calls.ofSl (n := A.length) (crange_s (F := F) (by (repeat (first | assumption | exact sliS_nil _ | (refine sliS_new (Blk.made _ _ _) rfl rfl (by decide); done) | refine SliS.past ?_ (by assumption) | refine sliS_alloc ?_ _))) (by omega) HA.out) rfl).mono ?_); rintro e w2 ⟨a8, c8, rfl, S8, hb2⟩; have B7' := B7.past hb2; have BX' := BX.past hb2; clear x0 x1 v0 v1 xz vz B7 BX; have x0 := BX'.cell 0; have x1 := BX'.cell 1; have xz := BX'.lt; have v0 := B7'.cell 0; have v1 := B7'.cell 1; have vz := B7'.lt; simp at x0 x1 v0 v1)) | (go_at_call 20; ((with_reducible refine (Calls.ofSl (n := A.length) (rrange_s (F := F) (by (repeat (first | assumption | exact sliS_nil _ | (refine sliS_new (Blk.made _ _ _) rfl rfl (by decide); done) | refine SliS.past ?_ (by assumption) | refine sliS_alloc ?_ _))) (by omega) HA.out) rfl).mono ?_); rintro e w3 ⟨a10, c10, rfl, S10, hb3⟩)) | (go_at_call 18; ((with_reducible refine (rsame_s (a1 := a8) (a2 := a10) (F := A) (G := A) (b := true) (by (repeat (first | assumption | exact sliS_nil _ | (refine sliS_new (Blk.made _ _ _) rfl rfl (by decide); done) | refine SliS.past ?_ (by assumption) | refine sliS_alloc ?_ _))) (by (repeat (first | assumption | exact sliS_nil _ | (refine sliS_new (Blk.made _ _ _) rfl rfl (by decide); done) | refine SliS.past ?_ (by assumption) | refine sliS_alloc ?_ _))) (sameB_t _)).mono ?_); rintro e w4 ⟨rfl, hb4⟩)))
    go_cut [12] (fun s12 wx => s12 = .int .i64 0 ∧ SliS wx (.slice a n cap) F ∧ SliS wx (.slice a' m cap') X ∧ SliS wx (.slice a8 A.length c8) A ∧ Blk wx w.heap.size #[.int .i64 x, .int .i64 y] 38 ∧ Blk wx w1.heap.size #[.int .i64 vm, .int .i64 vc] 40 ∧ Below w.heap.size w wx)
    case first =>
      go_wp2
      go_meet
      case rel => exact ⟨rfl, (by (repeat (first | assumption | exact sliS_nil _ | (refine sliS_new (Blk.made _ _ _) rfl rfl (by decide); done) | refine SliS.past ?_ (by assumption) | refine sliS_alloc ?_ _))), (by (repeat (first | assumption | exact sliS_nil _ | (refine sliS_new (Blk.made _ _ _) rfl rfl (by decide); done) | refine SliS.past ?_ (by assumption) | refine sliS_alloc ?_ _))), (by (repeat (first | assumption | exact sliS_nil _ | (refine sliS_new (Blk.made _ _ _) rfl rfl (by decide); done) | refine SliS.past ?_ (by assumption) | refine sliS_alloc ?_ _))), by (repeat (first | assumption | refine Blk.past ?_ (by assumption) | refine Blk.past ?_ (Past.prop _) | refine Blk.alloc ?_ _ | refine Blk.other ?_ (by omega) _ | refine Blk.drew ?_ _)), by (repeat (first | assumption | refine Blk.past ?_ (by assumption) | refine Blk.past ?_ (Past.prop _) | refine Blk.alloc ?_ _ | refine Blk.other ?_ (by omega) _ | refine Blk.drew ?_ _)), by (repeat (first | exact Below.refl _ _ | assumption | refine balloc ?_ _ | refine below_drewN ?_ _ | refine bstep (by assumption) ?_ | refine bstep (Past.prop _) ?_ | refine Below.setCell ?_ (by first | exact Nat.le_refl _ | (simp; done) | (simp; omega)) _))⟩
    clear S1 S2 S8 S10 BX' B7' x0 x1 xz v0 v1 vz
    obtain ⟨rfl, S1, S2, S8, BX, B7, hb⟩ := hcut
    go_wp2_with fail
    go_loopg [12, 13, 14] m (fun gh vk _ _ wr => ∃ k : Nat, vk = .int .i64 k ∧ k ≤ m ∧ m - k ≤ gh ∧ SliS wr (.slice a n cap) F ∧ SliS wr (.slice a' m cap') X ∧ SliS wr (.slice a8 A.length c8) A ∧ Blk wr w.heap.size #[.int .i64 x, .int .i64 y] 38 ∧ Blk wr w1.heap.size #[.int .i64 vm, .int .i64 vc] 40 ∧ Below w.heap.size w wr)
    case atStart => exact ⟨0, rfl, by omega, by omega, S1, S2, S8, BX, B7, hb⟩
    case round =>
      clear S1 S2 S8 BX B7 hb
      obtain ⟨k, rfl, hk, hg, S1, S2, S8, BX, B7, hb⟩ := hrel
      have x0 := BX.cell 0; have x1 := BX.cell 1; have xz := BX.lt; have v0 := B7.cell 0; have v1 := B7.cell 1; have vz := B7.lt
      simp at x0 x1 v0 v1
      by_cases hlt : k < m
      · obtain ⟨b, off, rfl, hbz, hc⟩ := S2.len.2.2.2 (by have := HEM.out; omega)
        obtain ⟨c0, _, _⟩ := hc.get (i := k) (by have := HEM.out; omega)
        have HV := hidE (HVAL.out (ats X k)); have HOA := hidE (HOKA.out (ats X k)); have HOF := hidE (HOKF.out (ats X k))
        clear hc
        generalize ats X k = u at *
        obtain ⟨p, hp⟩ : ∃ p, vat F u = p := ⟨_, rfl⟩
        obtain ⟨r, hr⟩ : ∃ r, vat A u = r := ⟨_, rfl⟩
        rw [hp, hr] at HV; rw [hr] at HOA; rw [hp] at HOF
        have HP := hidE hp; have HR := hidE hr
        clear hp hr
        by_cases g1 : x ≤ u
        · have e1 : decide (x ≤ u) = true := decide_eq_true g1
          by_cases g2 : u < y
          · have e2 : decide (u < y) = true := decide_eq_true g2
            have hv := HV.out
            rw [if_pos ⟨g1, g2⟩, if_pos ⟨g1, g2⟩] at hv
            have HAD := hidE (show addS p.1 p.2 vm vc = (r.1, r.2, 0) from by rw [addS_ok HOF.out HOV.out (by rw [← hv.1, ← hv.2]; exact HOA.out), ← hv.1, ← hv.2])
            clear g1 g2 hv HV
            have HADD := hidE (fun w => by have := radd p.1 p.2 vm vc w; rw [HAD.out] at this; exact this)
            go_upto_region 18 with (go_at_call 21; ((with_reducible refine (rat_s (a := a) (F := F) (t := u) (v := p) (by (repeat (first | assumption | exact sliS_nil _ | (refine sliS_new (Blk.made _ _ _) rfl rfl (by decide); done) | refine SliS.past ?_ (by assumption) | refine sliS_alloc ?_ _))) (by omega) HP.out).mono ?_); rintro e w5 ⟨rfl, hb5⟩; have B7' := B7.past hb5; have BX' := BX.past hb5; clear x0 x1 v0 v1 xz vz B7 BX; have x0 := BX'.cell 0; have x1 := BX'.cell 1; have xz := BX'.lt; have v0 := B7'.cell 0; have v1 := B7'.cell 1; have vz := B7'.lt; simp at x0 x1 v0 v1))
            have hw5 : w1.heap.size < w5.heap.size := B7'.lt
            go_wp2_with fail
            ((with_reducible refine (HADD.out _).mono ?_); rintro e w6 ⟨rfl, hb6⟩)
            have BW0 := (Blk.made w5 #[.int .i64 p.1, .int .i64 p.2] 40).past hb6
            have B7'' := (B7'.alloc _).past hb6; have BX'' := (BX'.alloc _).past hb6
            have hbb : Below w.heap.size w w6 := by (repeat (first | exact Below.refl _ _ | assumption | refine balloc ?_ _ | refine below_drewN ?_ _ | refine bstep (by assumption) ?_ | refine bstep (Past.prop _) ?_ | refine Below.setCell ?_ (by first | exact Nat.le_refl _ | (simp; done) | (simp; omega)) _))
            have z0 := BW0.cell 0; have z1 := BW0.cell 1; have zf := BW0.free; have zz := BW0.lt
            simp at z0 z1
            clear x0 x1 xz v0 v1 vz
            go_upto_region 19 with fail
            have tt : ∀ (v : Value) (l : List Sg), SliS w5 v l → SliS ((w6.setCell ⟨w5.heap.size, 0, none⟩ (.int .i64 r.1)).setCell ⟨w5.heap.size, 1, none⟩ (.int .i64 r.2)) v l := fun v l h5 => by
              obtain ⟨a0, c0, e0, l1, l2, hA0⟩ := h5
              refine ⟨a0, c0, e0, l1, l2, fun hl0 => ?_⟩
              obtain ⟨b0, o0, e1, q1, q2⟩ := hA0 hl0
              have hk0 : ∀ i, ((w6.setCell ⟨w5.heap.size, 0, none⟩ (.int .i64 r.1)).setCell ⟨w5.heap.size, 1, none⟩ (.int .i64 r.2)).cell? ⟨b0, i, none⟩ = w5.cell? ⟨b0, i, none⟩ := fun i => by
                refine World.cell?_of_block (a := ⟨b0, i, none⟩) ?_
                show ((w6.setCell _ _).setCell _ _).heap[b0]? = _
                exact (Below.heap_setCell _ _ _ _ (by simp; omega)).trans ((Below.heap_setCell _ _ _ _ (by simp; omega)).trans ((hb6.block b0 (by simp; omega)).trans (Below.heap_alloc _ _ _ q1)))
              refine ⟨b0, o0, e1, ?_, fun i hi => ?_⟩
              · have := hb6.size; simp [World.setCell] at this ⊢; omega
              · obtain ⟨c1, c2, c3⟩ := q2 i hi
                exact ⟨(hk0 _).trans c1, (hk0 _).trans c2, (hk0 _).trans c3⟩
            have T1 := tt _ _ (S1.past hb5); have T2 := tt _ _ (S2.past hb5); have T8 := tt _ _ (S8.past hb5)
            have BX := (BX''.other (b := w5.heap.size) (i := 0) (by omega) (.int .i64 r.1)).other (b := w5.heap.size) (i := 1) (by omega) (.int .i64 r.2)
            have B7 := (B7''.other (b := w5.heap.size) (i := 0) (by omega) (.int .i64 r.1)).other (b := w5.heap.size) (i := 1) (by omega) (.int .i64 r.2)
            have BW : Blk ((w6.setCell ⟨w5.heap.size, 0, none⟩ (.int .i64 r.1)).setCell ⟨w5.heap.size, 1, none⟩ (.int .i64 r.2)) w5.heap.size #[.int .i64 r.1, .int .i64 r.2] 40 := by simpa using (BW0.set 0 (.int .i64 r.1)).set 1 (.int .i64 r.2)
            have hbq : Below w.heap.size w ((w6.setCell ⟨w5.heap.size, 0, none⟩ (.int .i64 r.1)).setCell ⟨w5.heap.size, 1, none⟩ (.int .i64 r.2)) := (hbb.setCell (p := ⟨w5.heap.size, 0, none⟩) (by simp; omega) _).setCell (p := ⟨w5.heap.size, 1, none⟩) (by simp; omega) _
            clear tt z0 z1 zf zz BX'' B7'' BW0 BX' B7' S1 S2 S8 hb
            have S1 := T1; have S2 := T2; have S8 := T8; have hb := hbq
            clear T1 T2 T8 hbq
            generalize (w6.setCell ⟨w5.heap.size, 0, none⟩ (.int .i64 r.1)).setCell ⟨w5.heap.size, 1, none⟩ (.int .i64 r.2) = wz at *
            have HAT := hidE (fun w (hS : SliS w (.slice a8 A.length c8) A) => rat_s (t := u) (v := r) hS (by omega) HR.out)
            have g0 := BW.cell 0; have g1 := BW.cell 1; have gz := BW.lt
            simp at g0 g1
            have hcp := pastOf BW
            go_wp2_with fail
            refine wp_region_past_lit (by kernel_rfl) (by kernel_rfl) ?_
            repeat (go_big_quiet_step ((go_at_call 21; exact Past.call _ (HAT.out _ (S8.past (Past.prop _))))))
            refine wpQuiet_nil ?_
            rintro _ ⟨x', rfl⟩
            replace S1 := S1.past x'.2; replace S2 := S2.past x'.2; replace S8 := S8.past x'.2; replace BX := BX.past x'.2; replace B7 := B7.past x'.2
            have o1 : Below w.heap.size w x'.1 := hb.trans (x'.2.mono hb.size)
            clear hcp g0 g1 gz BW
            generalize x'.1 = w7 at *
            go_wp2
            go_roundg (m - (k + 1))
            case measure => omega
            case rel => exact ⟨k + 1, by go_num, by omega, Nat.le_refl _, S1, S2, S8, BX, B7, o1⟩
          · have e2 : decide (u < y) = false := decide_eq_false g2
            have hv := HV.out
            rw [if_neg (fun h => g2 h.2), if_neg (fun h => g2 h.2), Int.add_zero, Int.add_zero] at hv
            have hrp : r = p := Prod.ext hv.1 hv.2
            subst hrp
            clear hv HV
            go_upto_region 19 with (go_at_call 21; ((with_reducible refine (rat_s (a := a) (F := F) (t := u) (v := r) (by (repeat (first | assumption | exact sliS_nil _ | (refine sliS_new (Blk.made _ _ _) rfl rfl (by decide); done) | refine SliS.past ?_ (by assumption) | refine sliS_alloc ?_ _))) (by omega) HP.out).mono ?_); rintro e w5 ⟨rfl, hb5⟩; have B7' := B7.past hb5; have BX' := BX.past hb5; clear x0 x1 v0 v1 xz vz B7 BX; have x0 := BX'.cell 0; have x1 := BX'.cell 1; have xz := BX'.lt; have v0 := B7'.cell 0; have v1 := B7'.cell 1; have vz := B7'.lt; simp at x0 x1 v0 v1))
            have BW : Blk (w5.alloc (Obj.cells #[Value.int IntKind.i64 r.1, Value.int IntKind.i64 r.2] 40)) w5.heap.size #[.int .i64 r.1, .int .i64 r.2] 40 := Blk.made _ _ _
            replace S1 := sliS_alloc (S1.past hb5) (Obj.cells #[Value.int IntKind.i64 r.1, Value.int IntKind.i64 r.2] 40); replace S2 := sliS_alloc (S2.past hb5) (Obj.cells #[Value.int IntKind.i64 r.1, Value.int IntKind.i64 r.2] 40); replace S8 := sliS_alloc (S8.past hb5) (Obj.cells #[Value.int IntKind.i64 r.1, Value.int IntKind.i64 r.2] 40)
            have BX := BX'.alloc (Obj.cells #[Value.int IntKind.i64 r.1, Value.int IntKind.i64 r.2] 40); have B7 := B7'.alloc (Obj.cells #[Value.int IntKind.i64 r.1, Value.int IntKind.i64 r.2] 40)
            have hbq : Below w.heap.size w (w5.alloc (Obj.cells #[Value.int IntKind.i64 r.1, Value.int IntKind.i64 r.2] 40)) := by (repeat (first | exact Below.refl _ _ | assumption | refine balloc ?_ _ | refine below_drewN ?_ _ | refine bstep (by assumption) ?_ | refine bstep (Past.prop _) ?_ | refine Below.setCell ?_ (by first | exact Nat.le_refl _ | (simp; done) | (simp; omega)) _))
            clear x0 x1 xz v0 v1 vz BX' B7' hb
            have hb := hbq
            clear hbq
            generalize w5.alloc (Obj.cells #[Value.int IntKind.i64 r.1, Value.int IntKind.i64 r.2] 40) = wz at *
            have HAT := hidE (fun w (hS : SliS w (.slice a8 A.length c8) A) => rat_s (t := u) (v := r) hS (by omega) HR.out)
            have g0 := BW.cell 0; have g1 := BW.cell 1; have gz := BW.lt
            simp at g0 g1
            have hcp := pastOf BW
            go_wp2_with fail
            refine wp_region_past_lit (by kernel_rfl) (by kernel_rfl) ?_
            repeat (go_big_quiet_step ((go_at_call 21; exact Past.call _ (HAT.out _ (S8.past (Past.prop _))))))
            refine wpQuiet_nil ?_
            rintro _ ⟨x', rfl⟩
            replace S1 := S1.past x'.2; replace S2 := S2.past x'.2; replace S8 := S8.past x'.2; replace BX := BX.past x'.2; replace B7 := B7.past x'.2
            have o1 : Below w.heap.size w x'.1 := hb.trans (x'.2.mono hb.size)
            clear hcp g0 g1 gz BW
            generalize x'.1 = w7 at *
            go_wp2
            go_roundg (m - (k + 1))
            case measure => omega
            case rel => exact ⟨k + 1, by go_num, by omega, Nat.le_refl _, S1, S2, S8, BX, B7, o1⟩
        · have e1 : decide (x ≤ u) = false := decide_eq_false g1
          have hv := HV.out
          rw [if_neg (fun h => g1 h.1), if_neg (fun h => g1 h.1), Int.add_zero, Int.add_zero] at hv
          have hrp : r = p := Prod.ext hv.1 hv.2
          subst hrp
          clear hv HV
          go_upto_region 19 with (go_at_call 21; ((with_reducible refine (rat_s (a := a) (F := F) (t := u) (v := r) (by (repeat (first | assumption | exact sliS_nil _ | (refine sliS_new (Blk.made _ _ _) rfl rfl (by decide); done) | refine SliS.past ?_ (by assumption) | refine sliS_alloc ?_ _))) (by omega) HP.out).mono ?_); rintro e w5 ⟨rfl, hb5⟩; have B7' := B7.past hb5; have BX' := BX.past hb5; clear x0 x1 v0 v1 xz vz B7 BX; have x0 := BX'.cell 0; have x1 := BX'.cell 1; have xz := BX'.lt; have v0 := B7'.cell 0; have v1 := B7'.cell 1; have vz := B7'.lt; simp at x0 x1 v0 v1))
          have BW : Blk (w5.alloc (Obj.cells #[Value.int IntKind.i64 r.1, Value.int IntKind.i64 r.2] 40)) w5.heap.size #[.int .i64 r.1, .int .i64 r.2] 40 := Blk.made _ _ _
          replace S1 := sliS_alloc (S1.past hb5) (Obj.cells #[Value.int IntKind.i64 r.1, Value.int IntKind.i64 r.2] 40); replace S2 := sliS_alloc (S2.past hb5) (Obj.cells #[Value.int IntKind.i64 r.1, Value.int IntKind.i64 r.2] 40); replace S8 := sliS_alloc (S8.past hb5) (Obj.cells #[Value.int IntKind.i64 r.1, Value.int IntKind.i64 r.2] 40)
          have BX := BX'.alloc (Obj.cells #[Value.int IntKind.i64 r.1, Value.int IntKind.i64 r.2] 40); have B7 := B7'.alloc (Obj.cells #[Value.int IntKind.i64 r.1, Value.int IntKind.i64 r.2] 40)
          have hbq : Below w.heap.size w (w5.alloc (Obj.cells #[Value.int IntKind.i64 r.1, Value.int IntKind.i64 r.2] 40)) := by (repeat (first | exact Below.refl _ _ | assumption | refine balloc ?_ _ | refine below_drewN ?_ _ | refine bstep (by assumption) ?_ | refine bstep (Past.prop _) ?_ | refine Below.setCell ?_ (by first | exact Nat.le_refl _ | (simp; done) | (simp; omega)) _))
          clear x0 x1 xz v0 v1 vz BX' B7' hb
          have hb := hbq
          clear hbq
          generalize w5.alloc (Obj.cells #[Value.int IntKind.i64 r.1, Value.int IntKind.i64 r.2] 40) = wz at *
          have HAT := hidE (fun w (hS : SliS w (.slice a8 A.length c8) A) => rat_s (t := u) (v := r) hS (by omega) HR.out)
          have g0 := BW.cell 0; have g1 := BW.cell 1; have gz := BW.lt
          simp at g0 g1
          have hcp := pastOf BW
          go_wp2_with fail
          refine wp_region_past_lit (by kernel_rfl) (by kernel_rfl) ?_
          repeat (go_big_quiet_step ((go_at_call 21; exact Past.call _ (HAT.out _ (S8.past (Past.prop _))))))
          refine wpQuiet_nil ?_
          rintro _ ⟨x', rfl⟩
          replace S1 := S1.past x'.2; replace S2 := S2.past x'.2; replace S8 := S8.past x'.2; replace BX := BX.past x'.2; replace B7 := B7.past x'.2
          have o1 : Below w.heap.size w x'.1 := hb.trans (x'.2.mono hb.size)
          clear hcp g0 g1 gz BW
          generalize x'.1 = w7 at *
          go_wp2
          go_roundg (m - (k + 1))
          case measure => omega
          case rel => exact ⟨k + 1, by go_num, by omega, Nat.le_refl _, S1, S2, S8, BX, B7, o1⟩
      · have hk' : k = m := by omega
        subst hk'
        have okv' := HOKV.out
        clear hlt
        go_wp2_with (first | (go_at_call 19; ((with_reducible refine (Calls.ofSl (n := F.length) (crange_s (F := A) (by (repeat (first | assumption | exact sliS_nil _ | (refine sliS_new (Blk.made _ _ _) rfl rfl (by decide); done) | refine SliS.past ?_ (by assumption) | refine sliS_alloc ?_ _))) (by omega) HBK.out) rfl).mono ?_); rintro e w2 ⟨a9, c9, rfl, S9, hb2⟩)) | (go_at_call 23; ((with_reducible refine (rmay_s (F := A) (by (repeat (first | assumption | exact sliS_nil _ | (refine sliS_new (Blk.made _ _ _) rfl rfl (by decide); done) | refine SliS.past ?_ (by assumption) | refine sliS_alloc ?_ _))) (by omega) HMA.out).mono ?_); rintro e w3 ⟨rfl, hb3⟩)) | (go_at_call 18; ((with_reducible refine (rsame_s (a1 := a9) (a2 := a) (F := F) (G := F) (b := true) (by (repeat (first | assumption | exact sliS_nil _ | (refine sliS_new (Blk.made _ _ _) rfl rfl (by decide); done) | refine SliS.past ?_ (by assumption) | refine sliS_alloc ?_ _))) (by (repeat (first | assumption | exact sliS_nil _ | (refine sliS_new (Blk.made _ _ _) rfl rfl (by decide); done) | refine SliS.past ?_ (by assumption) | refine sliS_alloc ?_ _))) (sameB_t _)).mono ?_); rintro e w4 ⟨rfl, hb4⟩)) | (go_at_call 9; ((with_reducible refine (chead_c _).mono ?_); rintro e w5 ⟨rfl, hb5⟩)))
        go_ret
        exact ⟨rfl, by (repeat (first | exact Below.refl _ _ | assumption | refine balloc ?_ _ | refine below_drewN ?_ _ | refine bstep (by assumption) ?_ | refine bstep (Past.prop _) ?_ | refine Below.setCell ?_ (by first | exact Nat.le_refl _ | (simp; done) | (simp; omega)) _))⟩
end Go.Proofs.Ytgbgnpdfjoeonaa

namespace Go.Proofs.Ytgbgnpdfjoeonaa
open Go.ChangeShapes Go.WideShapes Go.ChangeAt Go.RowKit

theorem range_c (F X : List Sg) (x y : Int) (a a' : Option Addr) (cap cap' : Nat) (w : World) (S1 : SliS w (.slice a F.length cap) F) (S2 : SliS w (.slice a' X.length cap') X) :
    Calls Try.prog 4 #[.slice a F.length cap, .agg #[.int .i64 x, .int .i64 y], .slice a' X.length cap'] w fun e w' => e = .returned (.bool true) ∧ Below w.heap.size w w' := by
  by_cases h : 60 < F.length ∨ 60 < X.length
  · exact range_many F.length X.length x y a a' cap cap' w h
  · by_cases h2 : 40 < X.length
    · exact range_more F.length X.length x y a a' cap cap' w (by omega) (by omega) h2
    · exact range_few F X F.length X.length x y a a' cap cap' w (by omega) (by omega) S1 S2

set_option maxRecDepth 100000 in
theorem calcRange_lifted (os : Os) (started : os.Started) (H : Type) (enc : TypeId × Value → H) :
    ReturnsInHanded {} Try.checked os 4 .any (Rows.calcRangeSpec.pre6 enc Try.prog Try.f4 Rows.calcRangeRow.domain false) (Rows.calcRangeSpec.post enc Try.prog Try.f4 false true false false) := by
  refine returnsInHanded_of_change (C := Try.checked) own started (by kernel_rfl) Try.func4
    (ChangeSpec.witness6 (enc := enc) (C := Try.checked) false ⟨#[], #[.slice none 0 0, .agg #[.int .i64 0, .int .i64 0], .slice none 0 0], []⟩ 8 (by kernel_rfl) (by kernel_rfl) (by kernel_rfl) (by kernel_rfl)) ?_
  intro W base args ds gs before hval0 hW _ _
  have hval : ∀ (j : Nat) t v, Try.f4.params[j]? = some t → args[j]? = some v → Value.okWide Try.prog W .any base t v := hval0
  have hW' := hW
  obtain ⟨p, q, hA0, hV, rfl, hfz, hnd⟩ := hW
  have hA : DataW.TrodAll enc Try.prog W 0 (fun _ => true) true Try.f4.params.toList args.toList ds p := hA0
  rw [Try.params4] at hA hval
  obtain ⟨v0, vs0, d0, ds0, p0, q0, hargs, rfl, rfl, h0, r0⟩ := trodAll_cons hA
  obtain ⟨v1, vs1, d1, ds1, p1, q1, rfl, rfl, rfl, h1, r1⟩ := trodAll_cons r0
  obtain ⟨v2, vs2, d2, ds2, p2, q2, rfl, rfl, rfl, h2, r2⟩ := trodAll_cons r1
  obtain ⟨rfl, rfl, rfl⟩ := trodAll_nil r2
  obtain rfl : args = #[v0, v1, v2] := by cases args; simp_all
  obtain ⟨l0, o0, c0, rfl, hl0, hA0', hS0⟩ := open_slisP (hval 0 22 v0 rfl rfl) h0
  obtain ⟨a1, b1, rfl⟩ := open_arr2 Try.underlying38 Try.underlying2 cellsI64 (by kernel_rfl) (hval 1 38 v1 rfl rfl) h1
  obtain ⟨l2, o2, c2, rfl, hl2, hA2', hS2⟩ := open_slisP (hval 2 22 v2 rfl rfl) h2
  clear hA0 hval0
  refine (range_c l0 l2 a1 b1 o0 o2 c0 c2 W hA0' hA2').mono fun e W' ⟨he, hb⟩ => ?_
  subst he
  exact ⟨_, rfl, law_post laidOut (readOk_spec (by kernel_rfl)) rfl Try.underlying4 rfl ⟨rfl, rfl, rfl⟩ hW' hb⟩

theorem calcRange_holds : Rows.CalcRangeSaid :=
  OpenClaim.holds_of_wide 4 Try.f4 rfl rfl rfl rfl rfl rfl rfl ⟨rfl, rfl, rfl, rfl, rfl⟩ rfl rfl rfl rfl rfl (by kernel_rfl) Try.func4 (by kernel_rfl)
    (of_decide_eq_true (by kernel_rfl)) (by unfold Func.isWrapper; first | (rw [if_pos (by decide +kernel)]; kernel_rfl) | (rw [if_neg (by decide +kernel)]; exact ⟨rfl, rfl⟩))
    (fun os started H enc _ => calcRange_lifted os started H enc)
end Go.Proofs.Ytgbgnpdfjoeonaa
