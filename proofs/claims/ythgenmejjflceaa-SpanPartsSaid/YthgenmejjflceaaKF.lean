/- For the statements' walks: what package span's functions and the document's own hand back, from slices that read as lists. No conditions. What the document fixes of package span: the statements' own 'head' answers true. No conditions. -/
import Derived.Test.YthgenmejjflceaaKA
import Derived.Test.YthgenmejjflceaaKD
import Derived.Test.YthgenmejjflceaaKE
import Derived.Test.YthgenmejjflceaaKC
import Derived.Deep.DeepCutAuto
namespace Go.Proofs.Ythgenmejjflceaa
open Go.ChangeShapes Go.WideShapes Go.ChangeAt Go.RowKit
attribute [local irreducible] Go.Calls

theorem low_s {w : World} {n c1 : Nat} {a1 : Option Addr} {x y : Int} {F : List Sg} {r : Int × Int × Int} (h1 : SliS w (.slice a1 n c1) F) (hl : n ≤ 100000) (he : lowS F x y = r) :
    Calls Try.prog 10 #[.slice a1 n c1, .int .i64 x, .int .i64 y] w fun e w' => e = .returned (VE r) ∧ Below w.heap.size w w' := by
  obtain ⟨e1, q1, q2, q3⟩ := h1.len
  subst e1; subst he
  exact low_c F x y a1 c1 w (by omega) q3
theorem high_s {w : World} {n c1 : Nat} {a1 : Option Addr} {x y : Int} {F : List Sg} {r : Int × Int × Int} (h1 : SliS w (.slice a1 n c1) F) (hl : n ≤ 100000) (he : highS F x y = r) :
    Calls Try.prog 12 #[.slice a1 n c1, .int .i64 x, .int .i64 y] w fun e w' => e = .returned (VE r) ∧ Below w.heap.size w w' := by
  obtain ⟨e1, q1, q2, q3⟩ := h1.len
  subst e1; subst he
  exact high_c F x y a1 c1 w (by omega) q3
theorem sum_s {w : World} {n c1 : Nat} {a1 : Option Addr} {x y : Int} {F : List Sg} {r : Int × Int × Int} (h1 : SliS w (.slice a1 n c1) F) (hl : n ≤ 100000) (he : totS F x y = r) :
    Calls Try.prog 14 #[.slice a1 n c1, .int .i64 x, .int .i64 y] w fun e w' => e = .returned (VE r) ∧ Below w.heap.size w w' := by
  obtain ⟨e1, q1, q2, q3⟩ := h1.len
  subst e1; subst he
  exact sum_c F x y a1 c1 w (by omega) q3
theorem rlow_s {w : World} {n c1 : Nat} {a1 : Option Addr} {x y : Int} {F : List Sg} {r : Int × Int × Int} (h1 : SliS w (.slice a1 n c1) F) (hl : n ≤ 100000) (he : lowS F x y = r) :
    Calls Try.prog 11 #[.slice a1 n c1, .int .i64 x, .int .i64 y] w fun e w' => e = .returned (VE r) ∧ Below w.heap.size w w' := by
  obtain ⟨e1, q1, q2, q3⟩ := h1.len
  subst e1; subst he
  exact rlowS_c F x y a1 c1 w (by omega) q3
theorem rhigh_s {w : World} {n c1 : Nat} {a1 : Option Addr} {x y : Int} {F : List Sg} {r : Int × Int × Int} (h1 : SliS w (.slice a1 n c1) F) (hl : n ≤ 100000) (he : highS F x y = r) :
    Calls Try.prog 13 #[.slice a1 n c1, .int .i64 x, .int .i64 y] w fun e w' => e = .returned (VE r) ∧ Below w.heap.size w w' := by
  obtain ⟨e1, q1, q2, q3⟩ := h1.len
  subst e1; subst he
  exact rhighS_c F x y a1 c1 w (by omega) q3
theorem rtot_s {w : World} {n c1 : Nat} {a1 : Option Addr} {x y : Int} {F : List Sg} {r : Int × Int × Int} (h1 : SliS w (.slice a1 n c1) F) (hl : n ≤ 100000) (he : totS F x y = r) :
    Calls Try.prog 15 #[.slice a1 n c1, .int .i64 x, .int .i64 y] w fun e w' => e = .returned (VE r) ∧ Below w.heap.size w w' := by
  obtain ⟨e1, q1, q2, q3⟩ := h1.len
  subst e1; subst he
  exact rtotS_c F x y a1 c1 w (by omega) q3
theorem cut_s {w : World} {n c1 : Nat} {a1 : Option Addr} {x y : Int} {F r : List Sg} {er : Int} (h1 : SliS w (.slice a1 n c1) F) (hl : n ≤ 100000) (he : cutS F x y = (r, er)) :
    Calls Try.prog 16 #[.slice a1 n c1, .int .i64 x, .int .i64 y] w (OfIs w r er) := by
  obtain ⟨e1, q1, q2, q3⟩ := h1.len
  subst e1
  have := cut_c F x y a1 c1 w (by omega) q3
  rw [he] at this; exact this
theorem rcut_s {w : World} {n c1 : Nat} {a1 : Option Addr} {x y : Int} {F r : List Sg} {er : Int} (h1 : SliS w (.slice a1 n c1) F) (hl : n ≤ 100000) (he : cutS F x y = (r, er)) :
    Calls Try.prog 17 #[.slice a1 n c1, .int .i64 x, .int .i64 y] w (OfIs w r er) := by
  obtain ⟨e1, q1, q2, q3⟩ := h1.len
  subst e1
  have := rcut_c F x y a1 c1 w (by omega) q3
  rw [he] at this; exact this
theorem shift_s {w : World} {n c1 : Nat} {a1 : Option Addr} {d : Int} {F r : List Sg} {er : Int} (h1 : SliS w (.slice a1 n c1) F) (hl : n ≤ 100000) (he : shiftS F d = (r, er)) :
    Calls Try.prog 18 #[.slice a1 n c1, .int .i64 d] w (OfIs w r er) := by
  obtain ⟨e1, q1, q2, q3⟩ := h1.len
  subst e1
  have := shift_c F d a1 c1 w (by omega) q3
  rw [he] at this; exact this
theorem rshift_s {w : World} {n c1 : Nat} {a1 : Option Addr} {d : Int} {F r : List Sg} {er : Int} (h1 : SliS w (.slice a1 n c1) F) (hl : n ≤ 100000) (he : shiftS F d = (r, er)) :
    Calls Try.prog 19 #[.slice a1 n c1, .int .i64 d] w (OfIs w r er) := by
  obtain ⟨e1, q1, q2, q3⟩ := h1.len
  subst e1
  have := rshift_c F d a1 c1 w (by omega) q3
  rw [he] at this; exact this
theorem over_s {w : World} {k c1 : Nat} {a1 : Option Addr} {x n l1 l2 : Int} {F : List Sg} {r : Int × Bool × Int} (h1 : SliS w (.slice a1 k c1) F) (hl : k ≤ 100000) (he : overS F x n (l1, l2) = r) :
    Calls Try.prog 25 #[.slice a1 k c1, .int .i64 x, .int .i64 n, V l1 l2] w fun e w' => e = .returned (T3 r) ∧ Below w.heap.size w w' := by
  obtain ⟨e1, q1, q2, q3⟩ := h1.len
  subst e1; subst he
  exact overP_c F x n l1 l2 a1 c1 w q1 q2 (by omega) q3
theorem rover_s {w : World} {k c1 : Nat} {a1 : Option Addr} {x n l1 l2 : Int} {F : List Sg} {r : Int × Bool × Int} (h1 : SliS w (.slice a1 k c1) F) (hl : k ≤ 100000) (he : overS F x n (l1, l2) = r) :
    Calls Try.prog 26 #[.slice a1 k c1, .int .i64 x, .int .i64 n, V l1 l2] w fun e w' => e = .returned (T3 r) ∧ Below w.heap.size w w' := by
  obtain ⟨e1, q1, q2, q3⟩ := h1.len
  subst e1; subst he
  exact rover_c F x n l1 l2 a1 c1 w (by omega) q3
theorem rnear_s {w : World} {k c1 : Nat} {a1 : Option Addr} {x : Int} {F : List Sg} {r : Bool} (h1 : SliS w (.slice a1 k c1) F) (hl : k ≤ 100000) (hx : -562949953421312 ≤ x) (hx' : x ≤ 562949953421312) (he : nearB F x = r) :
    Calls Try.prog 24 #[.slice a1 k c1, .int .i64 x, .int .i64 200] w fun e w' => e = .returned (.bool r) ∧ Below w.heap.size w w' := by
  obtain ⟨e1, q1, q2, q3⟩ := h1.len
  subst e1; subst he
  exact rnear_c F x a1 c1 w (by omega) hx hx' q3
theorem rsame_s {w : World} {n m c1 c2 : Nat} {a1 a2 : Option Addr} {F G : List Sg} {b : Bool} (h1 : SliS w (.slice a1 n c1) F) (h2 : SliS w (.slice a2 m c2) G) (he : sameB F G = b) :
    Calls Try.prog 20 #[.slice a1 n c1, .slice a2 m c2] w fun e w' => e = .returned (.bool b) ∧ Below w.heap.size w w' := by
  obtain ⟨e1, q1, q2, q3⟩ := h1.len; obtain ⟨e2, s1, s2, s3⟩ := h2.len
  subst e1; subst e2; subst he
  exact rsame_c F G a1 a2 c1 c2 w (by omega) (by omega) q3 s3
theorem rmay_s {w : World} {n c1 : Nat} {a1 : Option Addr} {F : List Sg} {b : Bool} (h1 : SliS w (.slice a1 n c1) F) (hl : n ≤ 100000) (he : mayB F = b) :
    Calls Try.prog 21 #[.slice a1 n c1] w fun e w' => e = .returned (.bool b) ∧ Below w.heap.size w w' := by
  obtain ⟨e1, q1, q2, q3⟩ := h1.len
  subst e1; subst he
  exact rmayf_c F a1 c1 w (by omega) q3
theorem rat_s {w : World} {n c1 : Nat} {a1 : Option Addr} {t : Int} {F : List Sg} {v : Int × Int} (h1 : SliS w (.slice a1 n c1) F) (hl : n ≤ 100000) (he : vat F t = v) :
    Calls Try.prog 22 #[.slice a1 n c1, .int .i64 t] w fun e w' => e = .returned (V v.1 v.2) ∧ Below w.heap.size w w' := by
  obtain ⟨e1, q1, q2, q3⟩ := h1.len
  subst e1; subst he
  exact rat_c F a1 c1 t w (by omega) q3
theorem sameB_t (l : List Sg) : sameB l l = true := decide_eq_true rfl
end Go.Proofs.Ythgenmejjflceaa

namespace Go.Proofs.Ythgenmejjflceaa
open Go.ChangeShapes Go.WideShapes Go.ChangeAt Go.RowKit
attribute [local irreducible] Go.Calls

theorem hs_low : lowS [(2, (3, 1)), (8, (0, 0))] 0 9 = (0, 0, 0) := by decide +kernel
theorem hs_high : highS [(2, (3, 1)), (8, (0, 0))] 0 9 = (3, 1, 0) := by decide +kernel
theorem hs_sum : totS [(2, (3, 1)), (8, (0, 0))] 0 9 = (18, 6, 0) := by decide +kernel
theorem hs_sum2 : totS [(2, (3, 1)), (8, (0, 0))] 3 5 = (6, 2, 0) := by decide +kernel
theorem hs_cut : cutS [(2, (3, 1)), (8, (0, 0))] 4 6 = ([(4, (3, 1)), (6, (0, 0))], 0) := by decide +kernel
theorem hs_shift : shiftS [(2, (3, 1)), (8, (0, 0))] (-3) = ([(-1, (3, 1)), (5, (0, 0))], 0) := by decide +kernel
theorem hs_over : overS [(2, (3, 1)), (8, (0, 0))] (-5) 4 (8, 9) = (1, true, 0) := by decide +kernel
theorem hs_over2 : overS [(2, (3, 1)), (8, (0, 0))] (-5) 4 (12, 9) = (0, false, 0) := by decide +kernel
theorem hs_over3 : overS [(2, (3, 1)), (8, (0, 0))] 6 4 (5, 9) = (6, true, 0) := by decide +kernel
theorem hs_low2 : lowS [(2, (3, 1)), (8, (0, 0))] 3 3 = (0, 0, 2) := by decide +kernel
theorem hs_over4 : overS [(2, (3, 1)), (8, (0, 0))] 0 0 (0, 0) = (0, false, 2) := by decide +kernel

set_option maxRecDepth 100000 in
set_option maxHeartbeats 8000000 in
theorem shead_c (w : World) : Calls Try.prog 9 #[] w fun e w' => e = .returned (.bool true) ∧ Below w.heap.size w w' := by
  go_enter Try.func9, Try.ntmps9
  go_upto_region 1 with fail
  go_cut [1] (fun s1 wx => ∃ (a1 : Option Addr) (c1 : Nat), s1 = .slice a1 2 c1 ∧ SliS wx (.slice a1 2 c1) [(2, (3, 1)), (8, (0, 0))] ∧ Below w.heap.size w wx)
  case first =>
    go_wp2_with ((go_at_call 28; ((with_reducible refine (seg_c _ _ _ _).mono ?_); rintro e w1 ⟨rfl, hb1⟩)))
    go_meet
    case rel => exact ⟨_, _, rfl, (by (repeat (first | assumption | exact sliS_nil _ | (refine sliS_new (Blk.made _ _ _) rfl rfl (by decide); done) | refine SliS.past ?_ (by assumption) | refine sliS_alloc ?_ _))), by (repeat (first | exact Below.refl _ _ | assumption | refine balloc ?_ _ | refine below_drewN ?_ _ | refine bstep (by assumption) ?_ | refine bstep (Past.prop _) ?_ | refine Below.setCell ?_ (by first | exact Nat.le_refl _ | (simp; done) | (simp; omega)) _))⟩
  obtain ⟨a1, c1, rfl, S1, hb⟩ := hcut
  obtain ⟨wb, hwb⟩ : ∃ wb, wb = wc := ⟨_, rfl⟩
  go_upto_region 5 with (first | (go_at_call 10; ((with_reducible refine (low_s (F := [(2, (3, 1)), (8, (0, 0))]) (by (repeat (first | assumption | exact sliS_nil _ | (refine sliS_new (Blk.made _ _ _) rfl rfl (by decide); done) | refine SliS.past ?_ (by assumption) | refine sliS_alloc ?_ _))) (by omega) hs_low).mono ?_); rintro e wl ⟨rfl, hbwl⟩)) | (go_at_call 12; ((with_reducible refine (high_s (F := [(2, (3, 1)), (8, (0, 0))]) (by (repeat (first | assumption | exact sliS_nil _ | (refine sliS_new (Blk.made _ _ _) rfl rfl (by decide); done) | refine SliS.past ?_ (by assumption) | refine sliS_alloc ?_ _))) (by omega) hs_high).mono ?_); rintro e wh ⟨rfl, hbwh⟩)) | (go_at_call 14; ((with_reducible refine (sum_s (F := [(2, (3, 1)), (8, (0, 0))]) (by (repeat (first | assumption | exact sliS_nil _ | (refine sliS_new (Blk.made _ _ _) rfl rfl (by decide); done) | refine SliS.past ?_ (by assumption) | refine sliS_alloc ?_ _))) (by omega) hs_sum).mono ?_); rintro e ws ⟨rfl, hbws⟩)))
  go_cut [8, 9] (fun s8 s9 wx => ∃ p8 : Nat, s8 = .pointer (some ⟨p8, 0, none⟩) ∧ s9 = .int .i64 0 ∧ Blk wx p8 #[.int .i64 6, .int .i64 2] 26 ∧ Blk wx wl.heap.size #[.int .i64 0, .int .i64 0] 26 ∧ Blk wx wh.heap.size #[.int .i64 3, .int .i64 1] 26 ∧ Blk wx ws.heap.size #[.int .i64 18, .int .i64 6] 26 ∧ SliS wx (.slice a1 2 c1) [(2, (3, 1)), (8, (0, 0))] ∧ Below w.heap.size w wx)
  case first =>
    go_wp2_with ((go_at_call 14; ((with_reducible refine (sum_s (F := [(2, (3, 1)), (8, (0, 0))]) (by (repeat (first | assumption | exact sliS_nil _ | (refine sliS_new (Blk.made _ _ _) rfl rfl (by decide); done) | refine SliS.past ?_ (by assumption) | refine sliS_alloc ?_ _))) (by omega) hs_sum2).mono ?_); rintro e wt ⟨rfl, hbwt⟩)))
    go_meet
    case rel => exact ⟨_, rfl, rfl, Blk.made _ _ _, (by (repeat (first | assumption | exact Blk.made _ _ _ | refine Blk.past ?_ (by assumption) | refine Blk.alloc ?_ _))), (by (repeat (first | assumption | exact Blk.made _ _ _ | refine Blk.past ?_ (by assumption) | refine Blk.alloc ?_ _))), (by (repeat (first | assumption | exact Blk.made _ _ _ | refine Blk.past ?_ (by assumption) | refine Blk.alloc ?_ _))), (by (repeat (first | assumption | exact sliS_nil _ | (refine sliS_new (Blk.made _ _ _) rfl rfl (by decide); done) | refine SliS.past ?_ (by assumption) | refine sliS_alloc ?_ _))), by (repeat (first | exact Below.refl _ _ | assumption | refine balloc ?_ _ | refine below_drewN ?_ _ | refine bstep (by assumption) ?_ | refine bstep (Past.prop _) ?_ | refine Below.setCell ?_ (by first | exact Nat.le_refl _ | (simp; done) | (simp; omega)) _))⟩
  obtain ⟨p8, rfl, rfl, B8, B2, B4, B6, S1, hb⟩ := hcut
  generalize wl.heap.size = p2 at *
  generalize wh.heap.size = p4 at *
  generalize ws.heap.size = p6 at *
  clear hbwl hbwh hbws
  go_upto_region 7 with ((go_at_call 16; ((with_reducible refine (Calls.ofSl (n := 2) (cut_s (F := [(2, (3, 1)), (8, (0, 0))]) (by (repeat (first | assumption | exact sliS_nil _ | (refine sliS_new (Blk.made _ _ _) rfl rfl (by decide); done) | refine SliS.past ?_ (by assumption) | refine sliS_alloc ?_ _))) (by omega) hs_cut) rfl).mono ?_); rintro e wK ⟨aK, cK, rfl, hSK, hbK⟩)))
  go_cut [12, 13] (fun s12 s13 wx => ∃ (aM : Option Addr) (cM : Nat), s12 = .slice aM 2 cM ∧ s13 = .int .i64 0 ∧ Blk wx p8 #[.int .i64 6, .int .i64 2] 26 ∧ Blk wx p2 #[.int .i64 0, .int .i64 0] 26 ∧ Blk wx p4 #[.int .i64 3, .int .i64 1] 26 ∧ Blk wx p6 #[.int .i64 18, .int .i64 6] 26 ∧ SliS wx (.slice a1 2 c1) [(2, (3, 1)), (8, (0, 0))] ∧ SliS wx (.slice aK 2 cK) [(4, (3, 1)), (6, (0, 0))] ∧ SliS wx (.slice aM 2 cM) [(-1, (3, 1)), (5, (0, 0))] ∧ Below w.heap.size w wx)
  case first =>
    go_wp2_with ((go_at_call 18; ((with_reducible refine (Calls.ofSl (n := 2) (shift_s (F := [(2, (3, 1)), (8, (0, 0))]) (by (repeat (first | assumption | exact sliS_nil _ | (refine sliS_new (Blk.made _ _ _) rfl rfl (by decide); done) | refine SliS.past ?_ (by assumption) | refine sliS_alloc ?_ _))) (by omega) hs_shift) rfl).mono ?_); rintro e wM ⟨aM, cM, rfl, hSM, hbM⟩)))
    go_meet
    case rel => exact ⟨_, _, rfl, rfl, (by (repeat (first | assumption | exact Blk.made _ _ _ | refine Blk.past ?_ (by assumption) | refine Blk.alloc ?_ _))), (by (repeat (first | assumption | exact Blk.made _ _ _ | refine Blk.past ?_ (by assumption) | refine Blk.alloc ?_ _))), (by (repeat (first | assumption | exact Blk.made _ _ _ | refine Blk.past ?_ (by assumption) | refine Blk.alloc ?_ _))), (by (repeat (first | assumption | exact Blk.made _ _ _ | refine Blk.past ?_ (by assumption) | refine Blk.alloc ?_ _))), (by (repeat (first | assumption | exact sliS_nil _ | (refine sliS_new (Blk.made _ _ _) rfl rfl (by decide); done) | refine SliS.past ?_ (by assumption) | refine sliS_alloc ?_ _))), (by (repeat (first | assumption | exact sliS_nil _ | (refine sliS_new (Blk.made _ _ _) rfl rfl (by decide); done) | refine SliS.past ?_ (by assumption) | refine sliS_alloc ?_ _))), (by (repeat (first | assumption | exact sliS_nil _ | (refine sliS_new (Blk.made _ _ _) rfl rfl (by decide); done) | refine SliS.past ?_ (by assumption) | refine sliS_alloc ?_ _))), by (repeat (first | exact Below.refl _ _ | assumption | refine balloc ?_ _ | refine below_drewN ?_ _ | refine bstep (by assumption) ?_ | refine bstep (Past.prop _) ?_ | refine Below.setCell ?_ (by first | exact Nat.le_refl _ | (simp; done) | (simp; omega)) _))⟩
  obtain ⟨aM, cM, rfl, rfl, B8, B2, B4, B6, S1, SK, SM, hb⟩ := hcut
  go_upto_region 10 with (first | (go_at_call 25; ((with_reducible refine (over_s (F := [(2, (3, 1)), (8, (0, 0))]) (by (repeat (first | assumption | exact sliS_nil _ | (refine sliS_new (Blk.made _ _ _) rfl rfl (by decide); done) | refine SliS.past ?_ (by assumption) | refine sliS_alloc ?_ _))) (by omega) hs_over).mono ?_); rintro e wo ⟨rfl, hbwo⟩)) | (go_at_call 25; ((with_reducible refine (over_s (F := [(2, (3, 1)), (8, (0, 0))]) (by (repeat (first | assumption | exact sliS_nil _ | (refine sliS_new (Blk.made _ _ _) rfl rfl (by decide); done) | refine SliS.past ?_ (by assumption) | refine sliS_alloc ?_ _))) (by omega) hs_over2).mono ?_); rintro e wp ⟨rfl, hbwp⟩)))
  go_cut [20, 21, 22] (fun s20 s21 s22 wx => s20 = .int .i64 6 ∧ s21 = .bool true ∧ s22 = .int .i64 0 ∧ Blk wx p8 #[.int .i64 6, .int .i64 2] 26 ∧ Blk wx p2 #[.int .i64 0, .int .i64 0] 26 ∧ Blk wx p4 #[.int .i64 3, .int .i64 1] 26 ∧ Blk wx p6 #[.int .i64 18, .int .i64 6] 26 ∧ SliS wx (.slice a1 2 c1) [(2, (3, 1)), (8, (0, 0))] ∧ SliS wx (.slice aK 2 cK) [(4, (3, 1)), (6, (0, 0))] ∧ SliS wx (.slice aM 2 cM) [(-1, (3, 1)), (5, (0, 0))] ∧ Below w.heap.size w wx)
  case first =>
    go_wp2_with ((go_at_call 25; ((with_reducible refine (over_s (F := [(2, (3, 1)), (8, (0, 0))]) (by (repeat (first | assumption | exact sliS_nil _ | (refine sliS_new (Blk.made _ _ _) rfl rfl (by decide); done) | refine SliS.past ?_ (by assumption) | refine sliS_alloc ?_ _))) (by omega) hs_over3).mono ?_); rintro e wq ⟨rfl, hbwq⟩)))
    go_meet
    case rel => exact ⟨rfl, rfl, rfl, (by (repeat (first | assumption | exact Blk.made _ _ _ | refine Blk.past ?_ (by assumption) | refine Blk.alloc ?_ _))), (by (repeat (first | assumption | exact Blk.made _ _ _ | refine Blk.past ?_ (by assumption) | refine Blk.alloc ?_ _))), (by (repeat (first | assumption | exact Blk.made _ _ _ | refine Blk.past ?_ (by assumption) | refine Blk.alloc ?_ _))), (by (repeat (first | assumption | exact Blk.made _ _ _ | refine Blk.past ?_ (by assumption) | refine Blk.alloc ?_ _))), (by (repeat (first | assumption | exact sliS_nil _ | (refine sliS_new (Blk.made _ _ _) rfl rfl (by decide); done) | refine SliS.past ?_ (by assumption) | refine sliS_alloc ?_ _))), (by (repeat (first | assumption | exact sliS_nil _ | (refine sliS_new (Blk.made _ _ _) rfl rfl (by decide); done) | refine SliS.past ?_ (by assumption) | refine sliS_alloc ?_ _))), (by (repeat (first | assumption | exact sliS_nil _ | (refine sliS_new (Blk.made _ _ _) rfl rfl (by decide); done) | refine SliS.past ?_ (by assumption) | refine sliS_alloc ?_ _))), by (repeat (first | exact Below.refl _ _ | assumption | refine balloc ?_ _ | refine below_drewN ?_ _ | refine bstep (by assumption) ?_ | refine bstep (Past.prop _) ?_ | refine Below.setCell ?_ (by first | exact Nat.le_refl _ | (simp; done) | (simp; omega)) _))⟩
  obtain ⟨rfl, rfl, rfl, B8, B2, B4, B6, S1, SK, SM, hb⟩ := hcut
  go_upto_region 12 with ((go_at_call 10; ((with_reducible refine (low_s (F := [(2, (3, 1)), (8, (0, 0))]) (by (repeat (first | assumption | exact sliS_nil _ | (refine sliS_new (Blk.made _ _ _) rfl rfl (by decide); done) | refine SliS.past ?_ (by assumption) | refine sliS_alloc ?_ _))) (by omega) hs_low2).mono ?_); rintro e wr ⟨rfl, hbwr⟩)))
  go_cut [25, 26, 27] (fun s25 s26 s27 wx => s25 = .int .i64 0 ∧ s26 = .bool false ∧ s27 = .int .i64 2 ∧ Blk wx p8 #[.int .i64 6, .int .i64 2] 26 ∧ Blk wx p2 #[.int .i64 0, .int .i64 0] 26 ∧ Blk wx p4 #[.int .i64 3, .int .i64 1] 26 ∧ Blk wx p6 #[.int .i64 18, .int .i64 6] 26 ∧ SliS wx (.slice a1 2 c1) [(2, (3, 1)), (8, (0, 0))] ∧ SliS wx (.slice aK 2 cK) [(4, (3, 1)), (6, (0, 0))] ∧ SliS wx (.slice aM 2 cM) [(-1, (3, 1)), (5, (0, 0))] ∧ Below w.heap.size w wx)
  case first =>
    go_wp2_with ((go_at_call 25; ((with_reducible refine (over_s (F := [(2, (3, 1)), (8, (0, 0))]) (by (repeat (first | assumption | exact sliS_nil _ | (refine sliS_new (Blk.made _ _ _) rfl rfl (by decide); done) | refine SliS.past ?_ (by assumption) | refine sliS_alloc ?_ _))) (by omega) hs_over4).mono ?_); rintro e wv ⟨rfl, hbwv⟩)))
    go_meet
    case rel => exact ⟨rfl, rfl, rfl, (by (repeat (first | assumption | exact Blk.made _ _ _ | refine Blk.past ?_ (by assumption) | refine Blk.alloc ?_ _))), (by (repeat (first | assumption | exact Blk.made _ _ _ | refine Blk.past ?_ (by assumption) | refine Blk.alloc ?_ _))), (by (repeat (first | assumption | exact Blk.made _ _ _ | refine Blk.past ?_ (by assumption) | refine Blk.alloc ?_ _))), (by (repeat (first | assumption | exact Blk.made _ _ _ | refine Blk.past ?_ (by assumption) | refine Blk.alloc ?_ _))), (by (repeat (first | assumption | exact sliS_nil _ | (refine sliS_new (Blk.made _ _ _) rfl rfl (by decide); done) | refine SliS.past ?_ (by assumption) | refine sliS_alloc ?_ _))), (by (repeat (first | assumption | exact sliS_nil _ | (refine sliS_new (Blk.made _ _ _) rfl rfl (by decide); done) | refine SliS.past ?_ (by assumption) | refine sliS_alloc ?_ _))), (by (repeat (first | assumption | exact sliS_nil _ | (refine sliS_new (Blk.made _ _ _) rfl rfl (by decide); done) | refine SliS.past ?_ (by assumption) | refine sliS_alloc ?_ _))), by (repeat (first | exact Below.refl _ _ | assumption | refine balloc ?_ _ | refine below_drewN ?_ _ | refine bstep (by assumption) ?_ | refine bstep (Past.prop _) ?_ | refine Below.setCell ?_ (by first | exact Nat.le_refl _ | (simp; done) | (simp; omega)) _))⟩
  obtain ⟨rfl, rfl, rfl, B8, B2, B4, B6, S1, SK, SM, hb⟩ := hcut
  have c80 := B8.cell 0; have c81 := B8.cell 1; have z8 := B8.lt; have c20 := B2.cell 0; have c21 := B2.cell 1; have z2 := B2.lt; have c40 := B4.cell 0; have c41 := B4.cell 1; have z4 := B4.lt; have c60 := B6.cell 0; have c61 := B6.cell 1; have z6 := B6.lt
  simp at c80 c81 c20 c21 c40 c41 c60 c61
  clear B8 B2 B4 B6
  try simp only [List.append_eq, List.cons_append, List.nil_append]
  go_wp2_with (first | (go_at_call 28; ((with_reducible refine (seg_c _ _ _ _).mono ?_); rintro e w1 ⟨rfl, hb1⟩)) | (go_at_call 20; ((with_reducible refine (rsame_s (a1 := aK) (F := [(4, (3, 1)), (6, (0, 0))]) (G := [(4, (3, 1)), (6, (0, 0))]) (b := true) (by (repeat (first | assumption | exact sliS_nil _ | (refine sliS_new (Blk.made _ _ _) rfl rfl (by decide); done) | refine SliS.past ?_ (by assumption) | refine sliS_alloc ?_ _))) (by (repeat (first | assumption | exact sliS_nil _ | (refine sliS_new (Blk.made _ _ _) rfl rfl (by decide); done) | refine SliS.past ?_ (by assumption) | refine sliS_alloc ?_ _))) (by decide)).mono ?_); rintro e w1 ⟨rfl, hb1⟩)) | (go_at_call 20; ((with_reducible refine (rsame_s (a1 := aM) (F := [(-1, (3, 1)), (5, (0, 0))]) (G := [(-1, (3, 1)), (5, (0, 0))]) (b := true) (by (repeat (first | assumption | exact sliS_nil _ | (refine sliS_new (Blk.made _ _ _) rfl rfl (by decide); done) | refine SliS.past ?_ (by assumption) | refine sliS_alloc ?_ _))) (by (repeat (first | assumption | exact sliS_nil _ | (refine sliS_new (Blk.made _ _ _) rfl rfl (by decide); done) | refine SliS.past ?_ (by assumption) | refine sliS_alloc ?_ _))) (by decide)).mono ?_); rintro e w1 ⟨rfl, hb1⟩)))
  go_ret
  exact ⟨rfl, by (repeat (first | exact Below.refl _ _ | assumption | refine balloc ?_ _ | refine below_drewN ?_ _ | refine bstep (by assumption) ?_ | refine bstep (Past.prop _) ?_ | refine Below.setCell ?_ (by first | exact Nat.le_refl _ | (simp; done) | (simp; omega)) _))⟩
end Go.Proofs.Ythgenmejjflceaa
