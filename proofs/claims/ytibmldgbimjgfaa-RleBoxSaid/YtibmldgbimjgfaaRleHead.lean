/- What the document fixes of package rle: the statements' own 'head' answers true. No conditions. -/
import Derived.Test.YtibmldgbimjgfaaBox
import Derived.Deep.DeepCutAuto
namespace Go.Proofs.Ytibmldgbimjgfaa
open Go.ChangeShapes Go.WideShapes Go.ChangeAt Go.RowKit
attribute [local irreducible] Go.Calls

theorem argS_alloc {w : World} {a : Option Addr} {l : List Sg} (h : ArgS w a l) (o : Obj) : ArgS (w.alloc o) a l := h.past ((Below.refl _ _).alloc (Nat.le_refl _) _)
theorem argS_none {w : World} (a : Option Addr) : ArgS w a [] := fun h => by simp at h

/-- Of, of a new block of two, of four, of one. -/
theorem of4 {w : World} {p : Nat} (h : Blk w p #[.int .i64 5, .int .i64 1, .int .i64 1, .int .i64 2, .int .i64 3, .int .i64 3, .int .i64 5, .int .i64 2, .int .i64 2, .int .i64 9, .int .i64 2, .int .i64 2] 30) :
    Calls Try.prog 7 #[.slice (some ⟨p, 0, none⟩) 4 4] w (OfIs w [(2, (3, 3)), (5, (2, 2))] 0) :=
  of_ok (l := [(5, (1, 1)), (2, (3, 3)), (5, (2, 2)), (9, (2, 2))]) (by simp) (argS_blk (t := 30) h) (by decide) head_of
theorem of1 {w : World} {p : Nat} (h : Blk w p #[.int .i64 1125899906842625, .int .i64 0, .int .i64 0] 30) :
    Calls Try.prog 7 #[.slice (some ⟨p, 0, none⟩) 1 1] w (OfIs w [] 10) :=
  of_bad (l := [(1125899906842625, (0, 0))]) (by simp) (argS_blk (t := 30) h) (by decide)
theorem ends_eq {l : List Sg} {n : Nat} {a : Option Addr} {cap : Nat} {w : World} {g : Int × Int × Bool} (hA : ArgS w a l) (hn : l.length = n) (hl : n ≤ 1000000) (h : endsL l = g) :
    Calls Try.prog 13 #[.slice a n cap] w fun e w' => e = .returned (.tuple #[.int .i64 g.1, .int .i64 g.2.1, .bool g.2.2]) ∧ Below w.heap.size w w' := by
  subst h; subst hn; exact ends_c l a cap w (by omega) hA
theorem at_eqv {l : List Sg} {n : Nat} {a : Option Addr} {cap : Nat} {t : Int} {w : World} {g : Int × Int} (hA : ArgS w a l) (hn : l.length = n) (hl : n ≤ 1099511627776) (h : vat l t = g) :
    Calls Try.prog 8 #[.slice a n cap, .int .i64 t] w fun e w' => e = .returned (V g.1 g.2) ∧ Below w.heap.size w w' := by
  subst h; subst hn; exact at_c l a cap t w (by omega) hA
theorem same_eqv {l r : List Sg} {n m : Nat} {a a' : Option Addr} {cap cap' : Nat} {w : World} {b : Bool} (hA : ArgS w a l) (hA' : ArgS w a' r) (hn : l.length = n) (hm : r.length = m) (hl : n ≤ 1099511627776) (hr : m ≤ 1099511627776) (h : sameB l r = b) :
    Calls Try.prog 9 #[.slice a n cap, .slice a' m cap'] w fun e w' => e = .returned (.bool b) ∧ Below w.heap.size w w' := by
  subst h; subst hn; subst hm; exact same_c l r a a' cap cap' w (by omega) (by omega) hA hA'
theorem box_eqv {x y m c : Int} {w : World} {f : List Sg} {er : Int} (h : boxS x y (m, c) = (f, er)) : Calls Try.prog 10 #[.int .i64 x, .int .i64 y, V m c] w (OfIs w f er) := by
  have := box_c x y m c w
  rw [h] at this; exact this
theorem same_new {a : Option Addr} {cap p : Nat} {w : World} (hA : ArgS w a [(2, (3, 3)), (5, (2, 2))]) (h : Blk w p #[.int .i64 2, .int .i64 3, .int .i64 3, .int .i64 5, .int .i64 2, .int .i64 2] 30) :
    Calls Try.prog 9 #[.slice a 2 cap, .slice (some ⟨p, 0, none⟩) 2 2] w fun e w' => e = .returned (.bool true) ∧ Below w.heap.size w w' :=
  same_eqv (n := 2) (m := 2) (l := [(2, (3, 3)), (5, (2, 2))]) (r := [(2, (3, 3)), (5, (2, 2))]) hA (argS_blk (t := 30) h) rfl rfl (by omega) (by omega) (by decide)
/-- What Of and Box hand back, taken apart. -/
def OfAt (w : World) (n : Nat) (F : List Sg) (er : Int) (e : Ending) (w' : World) : Prop := ∃ (a : Option Addr) (cap : Nat), e = .returned (.tuple #[.slice a n cap, .int .i64 er]) ∧ ArgS w' a F ∧ Below w.heap.size w w'
theorem OfIs.at {w w' : World} {F : List Sg} {er : Int} {e : Ending} (h : OfIs w F er e w') : OfAt w F.length F er e w' := by
  obtain ⟨v, h1, ⟨a, cap, rfl, _, _, h4⟩, h3⟩ := h
  exact ⟨a, cap, h1, h4, h3⟩
theorem Calls.ofAt {P : Program} {f : FuncId} {args : Array Value} {w : World} {F : List Sg} {er : Int} {n : Nat} (h : Calls P f args w (OfIs w F er)) (hn : F.length = n) : Calls P f args w (OfAt w n F er) := h.mono fun _ _ h => by subst hn; exact h.at

set_option maxRecDepth 100000 in
set_option maxHeartbeats 4000000 in
theorem rhead_c (w : World) : Calls Try.prog 6 #[] w fun e w' => e = .returned (.bool true) ∧ Below w.heap.size w w' := by
  go_enter Try.func6, Try.ntmps6
  go_upto_region 1 with fail
  go_cut [1, 2] (fun s1 s2 wx => ∃ (a1 : Option Addr) (c1 : Nat), s1 = .slice a1 2 c1 ∧ s2 = .int .i64 0 ∧ ArgS wx a1 [(2, (3, 3)), (5, (2, 2))] ∧ Below w.heap.size w wx)
  case first =>
    go_wp2_with (first | (go_at_call 15; ((with_reducible refine (seg_c _ _ _ _).mono ?_); rintro e w' ⟨rfl, hb⟩; obtain ⟨hc, hf⟩ := bcell hb)) | (go_at_call 7; ((with_reducible refine (Calls.ofAt (of4 (Blk.made_at _ _ _ _ rfl)) rfl).mono ?_); rintro e w' ⟨a1, c1, rfl, hA, hb⟩)))
    go_meet
    case rel => exact ⟨_, _, rfl, rfl, hA, by (repeat (first | exact Below.refl _ _ | assumption | refine balloc ?_ _ | refine below_drewN ?_ _ | refine bstep (by assumption) ?_ | refine bstep (Past.prop _) ?_ | refine Below.setCell ?_ (by first | exact Nat.le_refl _ | (simp; done) | (simp; omega)) _))⟩
  obtain ⟨a1, c1, rfl, rfl, A1, hb⟩ := hcut

  go_upto_region 2 with fail
  go_cut [3, 4, 5] (fun s3 s4 s5 wx => s3 = .int .i64 2 ∧ s4 = .int .i64 5 ∧ s5 = .bool false ∧ ArgS wx a1 [(2, (3, 3)), (5, (2, 2))] ∧ Below w.heap.size w wx)
  case first =>
    go_wp2_with ((go_at_call 13; ((with_reducible refine (ends_eq (n := 2) (l := [(2, (3, 3)), (5, (2, 2))]) (g := (2, 5, false)) (by assumption) rfl (by omega) (by decide)).mono ?_); rintro e w' ⟨rfl, hb2⟩)))
    go_meet
    case rel => exact ⟨rfl, rfl, rfl, by (repeat (first | assumption | exact argS_none _ | refine ArgS.past ?_ (by assumption) | refine argS_alloc ?_ _)), by (repeat (first | exact Below.refl _ _ | assumption | refine balloc ?_ _ | refine below_drewN ?_ _ | refine bstep (by assumption) ?_ | refine bstep (Past.prop _) ?_ | refine Below.setCell ?_ (by first | exact Nat.le_refl _ | (simp; done) | (simp; omega)) _))⟩
  obtain ⟨rfl, rfl, rfl, A1, hb⟩ := hcut

  go_upto_region 3 with fail
  go_cut [6, 7] (fun s6 s7 wx => ∃ (a6 : Option Addr) (c6 : Nat), s6 = .slice a6 2 c6 ∧ s7 = .int .i64 0 ∧ ArgS wx a1 [(2, (3, 3)), (5, (2, 2))] ∧ ArgS wx a6 [(3, (1, 0)), (7, (0, 0))] ∧ Below w.heap.size w wx)
  case first =>
    go_wp2_with ((go_at_call 10; ((with_reducible refine (Calls.ofAt (box_eqv (x := 3) (y := 7) (m := 1) (c := 0) (f := [(3, (1, 0)), (7, (0, 0))]) (er := 0) (by decide)) rfl).mono ?_); rintro e w' ⟨a6, c6, rfl, hA, hb2⟩)))
    go_meet
    case rel => exact ⟨_, _, rfl, rfl, by (repeat (first | assumption | exact argS_none _ | refine ArgS.past ?_ (by assumption) | refine argS_alloc ?_ _)), hA, by (repeat (first | exact Below.refl _ _ | assumption | refine balloc ?_ _ | refine below_drewN ?_ _ | refine bstep (by assumption) ?_ | refine bstep (Past.prop _) ?_ | refine Below.setCell ?_ (by first | exact Nat.le_refl _ | (simp; done) | (simp; omega)) _))⟩
  obtain ⟨a6, c6, rfl, rfl, A1, A6, hb⟩ := hcut

  go_upto_region 4 with fail
  go_cut [8, 9, 10] (fun s8 s9 s10 wx => s8 = .int .i64 3 ∧ s9 = .int .i64 7 ∧ s10 = .bool true ∧ ArgS wx a1 [(2, (3, 3)), (5, (2, 2))] ∧ ArgS wx a6 [(3, (1, 0)), (7, (0, 0))] ∧ Below w.heap.size w wx)
  case first =>
    go_wp2_with ((go_at_call 13; ((with_reducible refine (ends_eq (n := 2) (l := [(3, (1, 0)), (7, (0, 0))]) (g := (3, 7, true)) (by assumption) rfl (by omega) (by decide)).mono ?_); rintro e w' ⟨rfl, hb2⟩)))
    go_meet
    case rel => exact ⟨rfl, rfl, rfl, by (repeat (first | assumption | exact argS_none _ | refine ArgS.past ?_ (by assumption) | refine argS_alloc ?_ _)), by (repeat (first | assumption | exact argS_none _ | refine ArgS.past ?_ (by assumption) | refine argS_alloc ?_ _)), by (repeat (first | exact Below.refl _ _ | assumption | refine balloc ?_ _ | refine below_drewN ?_ _ | refine bstep (by assumption) ?_ | refine bstep (Past.prop _) ?_ | refine Below.setCell ?_ (by first | exact Nat.le_refl _ | (simp; done) | (simp; omega)) _))⟩
  obtain ⟨rfl, rfl, rfl, A1, A6, hb⟩ := hcut

  go_upto_region 5 with fail
  go_cut [11, 12, 13] (fun s11 s12 s13 wx => s11 = .int .i64 0 ∧ s12 = .int .i64 0 ∧ s13 = .bool true ∧ ArgS wx a1 [(2, (3, 3)), (5, (2, 2))] ∧ ArgS wx a6 [(3, (1, 0)), (7, (0, 0))] ∧ Below w.heap.size w wx)
  case first =>
    go_wp2_with ((go_at_call 13; ((with_reducible refine (ends_eq (n := 0) (l := []) (g := (0, 0, true)) (by exact argS_none _) rfl (by omega) (by decide)).mono ?_); rintro e w' ⟨rfl, hb2⟩)))
    go_meet
    case rel => exact ⟨rfl, rfl, rfl, by (repeat (first | assumption | exact argS_none _ | refine ArgS.past ?_ (by assumption) | refine argS_alloc ?_ _)), by (repeat (first | assumption | exact argS_none _ | refine ArgS.past ?_ (by assumption) | refine argS_alloc ?_ _)), by (repeat (first | exact Below.refl _ _ | assumption | refine balloc ?_ _ | refine below_drewN ?_ _ | refine bstep (by assumption) ?_ | refine bstep (Past.prop _) ?_ | refine Below.setCell ?_ (by first | exact Nat.le_refl _ | (simp; done) | (simp; omega)) _))⟩
  obtain ⟨rfl, rfl, rfl, A1, A6, hb⟩ := hcut

  go_upto_region 6 with fail
  go_cut [14, 15] (fun s14 s15 wx => ∃ (a14 : Option Addr) (c14 : Nat), s14 = .slice a14 0 c14 ∧ s15 = .int .i64 0 ∧ ArgS wx a1 [(2, (3, 3)), (5, (2, 2))] ∧ ArgS wx a6 [(3, (1, 0)), (7, (0, 0))] ∧ Below w.heap.size w wx)
  case first =>
    go_wp2_with ((go_at_call 10; ((with_reducible refine (Calls.ofAt (box_eqv (x := 3) (y := 3) (m := 1) (c := 0) (f := []) (er := 0) (by decide)) rfl).mono ?_); rintro e w' ⟨a14, c14, rfl, hA, hb2⟩)))
    go_meet
    case rel => exact ⟨_, _, rfl, rfl, by (repeat (first | assumption | exact argS_none _ | refine ArgS.past ?_ (by assumption) | refine argS_alloc ?_ _)), by (repeat (first | assumption | exact argS_none _ | refine ArgS.past ?_ (by assumption) | refine argS_alloc ?_ _)), by (repeat (first | exact Below.refl _ _ | assumption | refine balloc ?_ _ | refine below_drewN ?_ _ | refine bstep (by assumption) ?_ | refine bstep (Past.prop _) ?_ | refine Below.setCell ?_ (by first | exact Nat.le_refl _ | (simp; done) | (simp; omega)) _))⟩
  obtain ⟨a14, c14, rfl, rfl, A1, A6, hb⟩ := hcut
  go_upto_region 7 with fail
  go_cut [16, 17] (fun s16 s17 wx => ∃ (a16 : Option Addr) (c16 : Nat), s16 = .slice a16 0 c16 ∧ s17 = .int .i64 2 ∧ ArgS wx a1 [(2, (3, 3)), (5, (2, 2))] ∧ ArgS wx a6 [(3, (1, 0)), (7, (0, 0))] ∧ Below w.heap.size w wx)
  case first =>
    go_wp2_with ((go_at_call 10; ((with_reducible refine (Calls.ofAt (box_eqv (x := 4) (y := 3) (m := 1) (c := 0) (f := []) (er := 2) (by decide)) rfl).mono ?_); rintro e w' ⟨a16, c16, rfl, hA, hb2⟩)))
    go_meet
    case rel => exact ⟨_, _, rfl, rfl, by (repeat (first | assumption | exact argS_none _ | refine ArgS.past ?_ (by assumption) | refine argS_alloc ?_ _)), by (repeat (first | assumption | exact argS_none _ | refine ArgS.past ?_ (by assumption) | refine argS_alloc ?_ _)), by (repeat (first | exact Below.refl _ _ | assumption | refine balloc ?_ _ | refine below_drewN ?_ _ | refine bstep (by assumption) ?_ | refine bstep (Past.prop _) ?_ | refine Below.setCell ?_ (by first | exact Nat.le_refl _ | (simp; done) | (simp; omega)) _))⟩
  obtain ⟨a16, c16, rfl, rfl, A1, A6, hb⟩ := hcut
  go_upto_region 8 with fail
  go_cut [18, 19] (fun s18 s19 wx => ∃ (a18 : Option Addr) (c18 : Nat), s18 = .slice a18 0 c18 ∧ s19 = .int .i64 10 ∧ ArgS wx a1 [(2, (3, 3)), (5, (2, 2))] ∧ ArgS wx a6 [(3, (1, 0)), (7, (0, 0))] ∧ Below w.heap.size w wx)
  case first =>
    go_wp2_with (first | (go_at_call 15; ((with_reducible refine (seg_c _ _ _ _).mono ?_); rintro e w1 ⟨rfl, hb1⟩)) | (go_at_call 7; ((with_reducible refine (Calls.ofAt (of1 (Blk.made_at _ _ _ _ rfl)) rfl).mono ?_); rintro e w' ⟨a18, c18, rfl, hA, hb2⟩)))
    go_meet
    case rel => exact ⟨_, _, rfl, rfl, by (repeat (first | assumption | exact argS_none _ | refine ArgS.past ?_ (by assumption) | refine argS_alloc ?_ _)), by (repeat (first | assumption | exact argS_none _ | refine ArgS.past ?_ (by assumption) | refine argS_alloc ?_ _)), by (repeat (first | exact Below.refl _ _ | assumption | refine balloc ?_ _ | refine below_drewN ?_ _ | refine bstep (by assumption) ?_ | refine bstep (Past.prop _) ?_ | refine Below.setCell ?_ (by first | exact Nat.le_refl _ | (simp; done) | (simp; omega)) _))⟩
  obtain ⟨a18, c18, rfl, rfl, A1, A6, hb⟩ := hcut
  go_upto_region 9 with fail
  simp only [List.append_eq, List.cons_append, List.nil_append]
  go_wp2_with (first | (go_at_call 15; ((with_reducible refine (seg_c _ _ _ _).mono ?_); rintro e w1 ⟨rfl, hb1⟩)) | (go_at_call 9; ((with_reducible refine (same_new (by (repeat (first | assumption | exact argS_none _ | refine ArgS.past ?_ (by assumption) | refine argS_alloc ?_ _))) (Blk.made_at _ _ _ _ rfl)).mono ?_); rintro e w1 ⟨rfl, hb1⟩)) | (go_at_call 8; ((with_reducible refine (at_eqv (n := 2) (l := [(2, (3, 3)), (5, (2, 2))]) (t := 1) (g := (0, 0)) (by (repeat (first | assumption | exact argS_none _ | refine ArgS.past ?_ (by assumption) | refine argS_alloc ?_ _))) rfl (by omega) (by decide)).mono ?_); rintro e w1 ⟨rfl, hb1⟩)) | (go_at_call 8; ((with_reducible refine (at_eqv (n := 2) (l := [(2, (3, 3)), (5, (2, 2))]) (t := 4) (g := (3, 3)) (by (repeat (first | assumption | exact argS_none _ | refine ArgS.past ?_ (by assumption) | refine argS_alloc ?_ _))) rfl (by omega) (by decide)).mono ?_); rintro e w1 ⟨rfl, hb1⟩)) | (go_at_call 8; ((with_reducible refine (at_eqv (n := 2) (l := [(2, (3, 3)), (5, (2, 2))]) (t := 5) (g := (2, 2)) (by (repeat (first | assumption | exact argS_none _ | refine ArgS.past ?_ (by assumption) | refine argS_alloc ?_ _))) rfl (by omega) (by decide)).mono ?_); rintro e w1 ⟨rfl, hb1⟩)) | (go_at_call 8; ((with_reducible refine (at_eqv (n := 2) (l := [(2, (3, 3)), (5, (2, 2))]) (t := 100) (g := (2, 2)) (by (repeat (first | assumption | exact argS_none _ | refine ArgS.past ?_ (by assumption) | refine argS_alloc ?_ _))) rfl (by omega) (by decide)).mono ?_); rintro e w1 ⟨rfl, hb1⟩)) | (go_at_call 9; ((with_reducible refine (same_eqv (n := 2) (m := 2) (l := [(2, (3, 3)), (5, (2, 2))]) (r := [(3, (1, 0)), (7, (0, 0))]) (b := false) (by (repeat (first | assumption | exact argS_none _ | refine ArgS.past ?_ (by assumption) | refine argS_alloc ?_ _))) (by (repeat (first | assumption | exact argS_none _ | refine ArgS.past ?_ (by assumption) | refine argS_alloc ?_ _))) rfl rfl (by omega) (by omega) (by decide)).mono ?_); rintro e w1 ⟨rfl, hb1⟩)))
  go_ret
  exact ⟨rfl, by (repeat (first | exact Below.refl _ _ | assumption | refine balloc ?_ _ | refine below_drewN ?_ _ | refine bstep (by assumption) ?_ | refine bstep (Past.prop _) ?_ | refine Below.setCell ?_ (by first | exact Nat.le_refl _ | (simp; done) | (simp; omega)) _))⟩
end Go.Proofs.Ytibmldgbimjgfaa
