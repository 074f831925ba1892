/- For the statements' walks: slices that read as lists, made anew, handed on, handed back. No conditions. What the document fixes of package calc: the statements' own 'head' answers true. No conditions. The mathematics of calc's statements: sums, differences, windows, being at most. No program. No conditions. -/
import Derived.Test.YtgbgnpdfjoeonaaJD
import Derived.Test.YtgbgnpdfjoeonaaJC
import Derived.Deep.DeepCutAuto
namespace Go.Proofs.Ytgbgnpdfjoeonaa
open Go.ChangeShapes Go.WideShapes Go.ChangeAt Go.RowKit
attribute [local irreducible] Go.Calls

theorem sliS_alloc {w : World} {v : Value} {l : List Sg} (h : SliS w v l) (o : Obj) : SliS (w.alloc o) v l := h.past ((Below.refl _ _).alloc (Nat.le_refl _) _)
/-- A new block of runs. -/
theorem sliS_new {w : World} {p n : Nat} {cs : Array Value} {l : List Sg} {t : TypeId} (h : Blk w p cs t) (hc : cs = (cellsOfS l).toArray) (hn : n = l.length) (h2 : n ≤ 1000000) : SliS w (.slice (some ⟨p, 0, none⟩) n n) l := by
  subst hc; subst hn
  exact ⟨some ⟨p, 0, none⟩, l.length, rfl, Nat.le_refl _, by omega, argS_blk h⟩
theorem SliS.len {w : World} {a : Option Addr} {n cap : Nat} {l : List Sg} (h : SliS w (.slice a n cap) l) : n = l.length ∧ l.length ≤ cap ∧ cap ≤ 9223372036854775807 ∧ ArgS w a l := by
  obtain ⟨a', c', e, h1, h2, h3⟩ := h
  cases e
  exact ⟨rfl, h1, h2, h3⟩
/-- What a call hands back, taken apart. -/
def OfSl (w : World) (n : Nat) (F : List Sg) (er : Int) (e : Ending) (w' : World) : Prop := ∃ (a : Option Addr) (cap : Nat), e = .returned (.tuple #[.slice a n cap, .int .i64 er]) ∧ SliS w' (.slice a n cap) F ∧ Below w.heap.size w w'
theorem Calls.ofSl {P : Program} {f : FuncId} {args : Array Value} {w : World} {F : List Sg} {er : Int} {n : Nat} (h : Calls P f args w (OfIs w F er)) (hn : F.length = n) : Calls P f args w (OfSl w n F er) := h.mono fun _ _ h => by
  subst hn
  obtain ⟨v, h1, hs, h3⟩ := h
  obtain ⟨a, cap, rfl, q1, q2, q3⟩ := hs
  exact ⟨a, cap, h1, ⟨a, cap, rfl, q1, q2, q3⟩, h3⟩

theorem argQ_two {w : World} {p : Nat} {F G : List Sg} {v1 v2 : Value} {t : TypeId} (h : Blk w p #[v1, v2] t) (h1 : SliS w v1 F) (h2 : SliS w v2 G) : ArgQ w (some ⟨p, 0, none⟩) [F, G] := fun _ =>
  ⟨p, 0, rfl, h.lt, fun i hi => by
    simp only [List.length_cons, List.length_nil] at hi
    match i, hi with
    | 0, _ => exact ⟨v1, h.cell 0, h1⟩
    | 1, _ => exact ⟨v2, h.cell 1, h2⟩⟩
theorem cadd_two {w : World} {p c n m c1 c2 : Nat} {a1 a2 : Option Addr} {F G r : List Sg} {er : Int} {t : TypeId} (h : Blk w p #[.slice a1 n c1, .slice a2 m c2] t) (h1 : SliS w (.slice a1 n c1) F) (h2 : SliS w (.slice a2 m c2) G) (hl : n + m ≤ 100000) (he : sumS [F, G] = (r, er)) :
    Calls Try.prog 10 #[.slice (some ⟨p, 0, none⟩) 2 c] w (OfIs w r er) := by
  obtain ⟨e1, _⟩ := h1.len; obtain ⟨e2, _⟩ := h2.len
  have := cadd_c [F, G] (some ⟨p, 0, none⟩) c w (by simp) (by simp [lenR]; omega) (argQ_two h h1 h2)
  rw [he] at this; exact this
theorem rsum_two {w : World} {p c n m c1 c2 : Nat} {a1 a2 : Option Addr} {F G r : List Sg} {er : Int} {t : TypeId} (h : Blk w p #[.slice a1 n c1, .slice a2 m c2] t) (h1 : SliS w (.slice a1 n c1) F) (h2 : SliS w (.slice a2 m c2) G) (hl : n + m ≤ 100000) (he : sumS [F, G] = (r, er)) :
    Calls Try.prog 11 #[.slice (some ⟨p, 0, none⟩) 2 c] w (OfIs w r er) := by
  obtain ⟨e1, _⟩ := h1.len; obtain ⟨e2, _⟩ := h2.len
  have := rsum_c [F, G] (some ⟨p, 0, none⟩) c w (by simp) (by simp [lenR]; omega) (argQ_two h h1 h2).row
  rw [he] at this; exact this
theorem csub_s {w : World} {n m c1 c2 : Nat} {a1 a2 : Option Addr} {F G r : List Sg} {er : Int} (h1 : SliS w (.slice a1 n c1) F) (h2 : SliS w (.slice a2 m c2) G) (hl : n + m ≤ 100000) (he : doS 1 F G = (r, er)) :
    Calls Try.prog 12 #[.slice a1 n c1, .slice a2 m c2] w (OfIs w r er) := by
  obtain ⟨e1, q1, q2, q3⟩ := h1.len; obtain ⟨e2, s1, s2, s3⟩ := h2.len
  subst e1; subst e2
  have := csub_c F G a1 a2 c1 c2 w q1 q2 s1 s2 (by omega) q3 s3
  rw [he] at this; exact this
theorem cmn_s {w : World} {n m c1 c2 : Nat} {a1 a2 : Option Addr} {F G r : List Sg} {er : Int} (h1 : SliS w (.slice a1 n c1) F) (h2 : SliS w (.slice a2 m c2) G) (hl : n + m ≤ 100000) (he : doS 2 F G = (r, er)) :
    Calls Try.prog 14 #[.slice a1 n c1, .slice a2 m c2] w (OfIs w r er) := by
  obtain ⟨e1, q1, q2, q3⟩ := h1.len; obtain ⟨e2, s1, s2, s3⟩ := h2.len
  subst e1; subst e2
  have := cmn_c F G a1 a2 c1 c2 w q1 q2 s1 s2 (by omega) q3 s3
  rw [he] at this; exact this
theorem cmx_s {w : World} {n m c1 c2 : Nat} {a1 a2 : Option Addr} {F G r : List Sg} {er : Int} (h1 : SliS w (.slice a1 n c1) F) (h2 : SliS w (.slice a2 m c2) G) (hl : n + m ≤ 100000) (he : doS 3 F G = (r, er)) :
    Calls Try.prog 15 #[.slice a1 n c1, .slice a2 m c2] w (OfIs w r er) := by
  obtain ⟨e1, q1, q2, q3⟩ := h1.len; obtain ⟨e2, s1, s2, s3⟩ := h2.len
  subst e1; subst e2
  have := cmx_c F G a1 a2 c1 c2 w q1 q2 s1 s2 (by omega) q3 s3
  rw [he] at this; exact this
theorem rdo_s {k : Int} {w : World} {n m c1 c2 : Nat} {a1 a2 : Option Addr} {F G r : List Sg} {er : Int} (h1 : SliS w (.slice a1 n c1) F) (h2 : SliS w (.slice a2 m c2) G) (hl : n + m ≤ 100000) (he : doS k F G = (r, er)) :
    Calls Try.prog 13 #[.int .i64 k, .slice a1 n c1, .slice a2 m c2] w (OfIs w r er) := by
  obtain ⟨e1, q1, q2, q3⟩ := h1.len; obtain ⟨e2, s1, s2, s3⟩ := h2.len
  subst e1; subst e2
  have := rdo_c k F G a1 a2 c1 c2 w (by omega) q3 s3
  rw [he] at this; exact this
theorem crange_s {w : World} {n c1 : Nat} {a1 : Option Addr} {x y m c : Int} {F r : List Sg} {er : Int} (h1 : SliS w (.slice a1 n c1) F) (hl : n ≤ 100000) (he : rangeS F x y (m, c) = (r, er)) :
    Calls Try.prog 19 #[.slice a1 n c1, .int .i64 x, .int .i64 y, V m c] w (OfIs w r er) := by
  obtain ⟨e1, q1, q2, q3⟩ := h1.len
  subst e1
  have := crange_c F x y m c a1 c1 w q1 q2 (by omega) q3
  rw [he] at this; exact this
theorem cle_s {w : World} {n m c1 c2 : Nat} {a1 a2 : Option Addr} {x : Int} {F G : List Sg} {r : Int × Bool × Int} (h1 : SliS w (.slice a1 n c1) F) (h2 : SliS w (.slice a2 m c2) G) (hl : n + m ≤ 100000) (he : leS F G x = r) :
    Calls Try.prog 16 #[.slice a1 n c1, .slice a2 m c2, .int .i64 x] w fun e w' => e = .returned (M3 r) ∧ Below w.heap.size w w' := by
  obtain ⟨e1, q1, q2, q3⟩ := h1.len; obtain ⟨e2, s1, s2, s3⟩ := h2.len
  subst e1; subst e2; subst he
  exact cle_c F G x a1 a2 c1 c2 w q1 q2 s1 s2 (by omega) q3 s3
theorem rle_s {w : World} {n m c1 c2 : Nat} {a1 a2 : Option Addr} {x : Int} {F G : List Sg} {r : Int × Bool × Int} (h1 : SliS w (.slice a1 n c1) F) (h2 : SliS w (.slice a2 m c2) G) (hl : n + m ≤ 100000) (he : leS F G x = r) :
    Calls Try.prog 17 #[.slice a1 n c1, .slice a2 m c2, .int .i64 x] w fun e w' => e = .returned (M3 r) ∧ Below w.heap.size w w' := by
  obtain ⟨e1, q1, q2, q3⟩ := h1.len; obtain ⟨e2, s1, s2, s3⟩ := h2.len
  subst e1; subst e2; subst he
  exact rleq_c F G x a1 a2 c1 c2 w (by omega) q3 s3
theorem rsame_s {w : World} {n m c1 c2 : Nat} {a1 a2 : Option Addr} {F G : List Sg} {b : Bool} (h1 : SliS w (.slice a1 n c1) F) (h2 : SliS w (.slice a2 m c2) G) (he : sameB F G = b) :
    Calls Try.prog 18 #[.slice a1 n c1, .slice a2 m c2] w fun e w' => e = .returned (.bool b) ∧ Below w.heap.size w w' := by
  obtain ⟨e1, q1, q2, q3⟩ := h1.len; obtain ⟨e2, s1, s2, s3⟩ := h2.len
  subst e1; subst e2; subst he
  exact rsame_c F G a1 a2 c1 c2 w (by omega) (by omega) q3 s3
end Go.Proofs.Ytgbgnpdfjoeonaa

namespace Go.Proofs.Ytgbgnpdfjoeonaa
open Go.ChangeShapes Go.WideShapes Go.ChangeAt Go.RowKit
attribute [local irreducible] Go.Calls

theorem hd_add : sumS [[(2, (3, 1)), (8, (0, 0))], [(5, (1, 1)), (9, (0, 0))]] = ([(2, (3, 1)), (5, (4, 2)), (8, (1, 1)), (9, (0, 0))], 0) := by decide +kernel
theorem hd_sub : doS 1 [(2, (3, 1)), (8, (0, 0))] [(2, (3, 1)), (8, (0, 0))] = ([], 0) := by decide +kernel
theorem hd_min : doS 2 [(2, (3, 1)), (8, (0, 0))] [(5, (1, 1)), (9, (0, 0))] = ([(5, (1, 1)), (8, (0, 0))], 0) := by decide +kernel
theorem hd_range : rangeS [(2, (3, 1)), (8, (0, 0))] 4 8 (-3, -1) = ([(2, (3, 1)), (4, (0, 0))], 0) := by decide +kernel
theorem hd_le0 : leS [(5, (1, 1)), (9, (0, 0))] [(2, (3, 1)), (8, (0, 0))] 0 = (8, false, 0) := by decide +kernel
theorem hd_le9 : leS [(5, (1, 1)), (9, (0, 0))] [(2, (3, 1)), (8, (0, 0))] 9 = (0, true, 0) := by decide +kernel
theorem hd_arg : rangeS [(2, (3, 1)), (8, (0, 0))] 4 3 (0, 0) = ([], 2) := by decide +kernel
theorem hd_form : sumS [[(5, (1, 1)), (9, (0, 0))], [(2, (0, 0))]] = ([], 5) := by decide +kernel

set_option maxRecDepth 100000 in
set_option maxHeartbeats 8000000 in
theorem chead_c (w : World) : Calls Try.prog 9 #[] w fun e w' => e = .returned (.bool true) ∧ Below w.heap.size w w' := by
  go_enter Try.func9, Try.ntmps9
  go_upto_region 1 with fail
  go_cut [1, 2] (fun s1 s2 wx => ∃ (a1 a2 : Option Addr) (c1 c2 : Nat), s1 = .slice a1 2 c1 ∧ s2 = .slice a2 2 c2 ∧ SliS wx (.slice a1 2 c1) [(2, (3, 1)), (8, (0, 0))] ∧ SliS wx (.slice a2 2 c2) [(5, (1, 1)), (9, (0, 0))] ∧ Below w.heap.size w wx)
  case first =>
    go_wp2_with ((go_at_call 25; ((with_reducible refine (seg_c _ _ _ _).mono ?_); rintro e w1 ⟨rfl, hb1⟩)))
    go_meet
    case rel => exact ⟨_, _, _, _, rfl, rfl, (by (repeat (first | assumption | exact sliS_nil _ | (refine sliS_new (Blk.made _ _ _) rfl rfl (by decide); done) | refine SliS.past ?_ (by assumption) | refine sliS_alloc ?_ _))), (by (repeat (first | assumption | exact sliS_nil _ | (refine sliS_new (Blk.made _ _ _) rfl rfl (by decide); done) | refine SliS.past ?_ (by assumption) | refine sliS_alloc ?_ _))), by (repeat (first | exact Below.refl _ _ | assumption | refine balloc ?_ _ | refine below_drewN ?_ _ | refine bstep (by assumption) ?_ | refine bstep (Past.prop _) ?_ | refine Below.setCell ?_ (by first | exact Nat.le_refl _ | (simp; done) | (simp; omega)) _))⟩
  obtain ⟨a1, a2, c1, c2, rfl, rfl, S1, S2, hb⟩ := hcut
  go_upto_region 2 with fail
  go_cut [3, 4] (fun s3 s4 wx => ∃ (a3 : Option Addr) (c3 : Nat), s3 = .slice a3 4 c3 ∧ s4 = .int .i64 0 ∧ SliS wx (.slice a1 2 c1) [(2, (3, 1)), (8, (0, 0))] ∧ SliS wx (.slice a2 2 c2) [(5, (1, 1)), (9, (0, 0))] ∧ SliS wx (.slice a3 4 c3) [(2, (3, 1)), (5, (4, 2)), (8, (1, 1)), (9, (0, 0))] ∧ Below w.heap.size w wx)
  case first =>
    go_wp2_with (first | (go_at_call 25; ((with_reducible refine (seg_c _ _ _ _).mono ?_); rintro e w1 ⟨rfl, hb1⟩)) | (go_at_call 10; ((with_reducible refine (Calls.ofSl (cadd_two (F := [(2, (3, 1)), (8, (0, 0))]) (G := [(5, (1, 1)), (9, (0, 0))]) (Blk.made_at _ _ _ _ rfl) (by (repeat (first | assumption | exact sliS_nil _ | (refine sliS_new (Blk.made _ _ _) rfl rfl (by decide); done) | refine SliS.past ?_ (by assumption) | refine sliS_alloc ?_ _))) (by (repeat (first | assumption | exact sliS_nil _ | (refine sliS_new (Blk.made _ _ _) rfl rfl (by decide); done) | refine SliS.past ?_ (by assumption) | refine sliS_alloc ?_ _))) (by omega) hd_add) rfl).mono ?_); rintro e w2 ⟨a9, c9, rfl, hS, hb2⟩)))
    go_meet
    case rel => exact ⟨_, _, rfl, rfl, (by (repeat (first | assumption | exact sliS_nil _ | (refine sliS_new (Blk.made _ _ _) rfl rfl (by decide); done) | refine SliS.past ?_ (by assumption) | refine sliS_alloc ?_ _))), (by (repeat (first | assumption | exact sliS_nil _ | (refine sliS_new (Blk.made _ _ _) rfl rfl (by decide); done) | refine SliS.past ?_ (by assumption) | refine sliS_alloc ?_ _))), (by (repeat (first | assumption | exact sliS_nil _ | (refine sliS_new (Blk.made _ _ _) rfl rfl (by decide); done) | refine SliS.past ?_ (by assumption) | refine sliS_alloc ?_ _))), by (repeat (first | exact Below.refl _ _ | assumption | refine balloc ?_ _ | refine below_drewN ?_ _ | refine bstep (by assumption) ?_ | refine bstep (Past.prop _) ?_ | refine Below.setCell ?_ (by first | exact Nat.le_refl _ | (simp; done) | (simp; omega)) _))⟩
  obtain ⟨a3, c3, rfl, rfl, S1, S2, S3, hb⟩ := hcut
  go_upto_region 3 with fail
  go_cut [5, 6] (fun s5 s6 wx => ∃ (a5 : Option Addr) (c5 : Nat), s5 = .slice a5 0 c5 ∧ s6 = .int .i64 0 ∧ SliS wx (.slice a1 2 c1) [(2, (3, 1)), (8, (0, 0))] ∧ SliS wx (.slice a2 2 c2) [(5, (1, 1)), (9, (0, 0))] ∧ SliS wx (.slice a3 4 c3) [(2, (3, 1)), (5, (4, 2)), (8, (1, 1)), (9, (0, 0))] ∧ SliS wx (.slice a5 0 c5) [] ∧ Below w.heap.size w wx)
  case first =>
    go_wp2_with (first | (go_at_call 25; ((with_reducible refine (seg_c _ _ _ _).mono ?_); rintro e w1 ⟨rfl, hb1⟩)) | (go_at_call 12; ((with_reducible refine (Calls.ofSl (csub_s (F := [(2, (3, 1)), (8, (0, 0))]) (G := [(2, (3, 1)), (8, (0, 0))]) (by (repeat (first | assumption | exact sliS_nil _ | (refine sliS_new (Blk.made _ _ _) rfl rfl (by decide); done) | refine SliS.past ?_ (by assumption) | refine sliS_alloc ?_ _))) (by (repeat (first | assumption | exact sliS_nil _ | (refine sliS_new (Blk.made _ _ _) rfl rfl (by decide); done) | refine SliS.past ?_ (by assumption) | refine sliS_alloc ?_ _))) (by omega) hd_sub) rfl).mono ?_); rintro e w2 ⟨a9, c9, rfl, hS, hb2⟩)))
    go_meet
    case rel => exact ⟨_, _, rfl, rfl, (by (repeat (first | assumption | exact sliS_nil _ | (refine sliS_new (Blk.made _ _ _) rfl rfl (by decide); done) | refine SliS.past ?_ (by assumption) | refine sliS_alloc ?_ _))), (by (repeat (first | assumption | exact sliS_nil _ | (refine sliS_new (Blk.made _ _ _) rfl rfl (by decide); done) | refine SliS.past ?_ (by assumption) | refine sliS_alloc ?_ _))), (by (repeat (first | assumption | exact sliS_nil _ | (refine sliS_new (Blk.made _ _ _) rfl rfl (by decide); done) | refine SliS.past ?_ (by assumption) | refine sliS_alloc ?_ _))), (by (repeat (first | assumption | exact sliS_nil _ | (refine sliS_new (Blk.made _ _ _) rfl rfl (by decide); done) | refine SliS.past ?_ (by assumption) | refine sliS_alloc ?_ _))), by (repeat (first | exact Below.refl _ _ | assumption | refine balloc ?_ _ | refine below_drewN ?_ _ | refine bstep (by assumption) ?_ | refine bstep (Past.prop _) ?_ | refine Below.setCell ?_ (by first | exact Nat.le_refl _ | (simp; done) | (simp; omega)) _))⟩
  obtain ⟨a5, c5, rfl, rfl, S1, S2, S3, S5, hb⟩ := hcut
  go_upto_region 4 with fail
  go_cut [7, 8] (fun s7 s8 wx => ∃ (a7 : Option Addr) (c7 : Nat), s7 = .slice a7 2 c7 ∧ s8 = .int .i64 0 ∧ SliS wx (.slice a1 2 c1) [(2, (3, 1)), (8, (0, 0))] ∧ SliS wx (.slice a2 2 c2) [(5, (1, 1)), (9, (0, 0))] ∧ SliS wx (.slice a3 4 c3) [(2, (3, 1)), (5, (4, 2)), (8, (1, 1)), (9, (0, 0))] ∧ SliS wx (.slice a5 0 c5) [] ∧ SliS wx (.slice a7 2 c7) [(5, (1, 1)), (8, (0, 0))] ∧ Below w.heap.size w wx)
  case first =>
    go_wp2_with (first | (go_at_call 25; ((with_reducible refine (seg_c _ _ _ _).mono ?_); rintro e w1 ⟨rfl, hb1⟩)) | (go_at_call 14; ((with_reducible refine (Calls.ofSl (cmn_s (F := [(2, (3, 1)), (8, (0, 0))]) (G := [(5, (1, 1)), (9, (0, 0))]) (by (repeat (first | assumption | exact sliS_nil _ | (refine sliS_new (Blk.made _ _ _) rfl rfl (by decide); done) | refine SliS.past ?_ (by assumption) | refine sliS_alloc ?_ _))) (by (repeat (first | assumption | exact sliS_nil _ | (refine sliS_new (Blk.made _ _ _) rfl rfl (by decide); done) | refine SliS.past ?_ (by assumption) | refine sliS_alloc ?_ _))) (by omega) hd_min) rfl).mono ?_); rintro e w2 ⟨a9, c9, rfl, hS, hb2⟩)))
    go_meet
    case rel => exact ⟨_, _, rfl, rfl, (by (repeat (first | assumption | exact sliS_nil _ | (refine sliS_new (Blk.made _ _ _) rfl rfl (by decide); done) | refine SliS.past ?_ (by assumption) | refine sliS_alloc ?_ _))), (by (repeat (first | assumption | exact sliS_nil _ | (refine sliS_new (Blk.made _ _ _) rfl rfl (by decide); done) | refine SliS.past ?_ (by assumption) | refine sliS_alloc ?_ _))), (by (repeat (first | assumption | exact sliS_nil _ | (refine sliS_new (Blk.made _ _ _) rfl rfl (by decide); done) | refine SliS.past ?_ (by assumption) | refine sliS_alloc ?_ _))), (by (repeat (first | assumption | exact sliS_nil _ | (refine sliS_new (Blk.made _ _ _) rfl rfl (by decide); done) | refine SliS.past ?_ (by assumption) | refine sliS_alloc ?_ _))), (by (repeat (first | assumption | exact sliS_nil _ | (refine sliS_new (Blk.made _ _ _) rfl rfl (by decide); done) | refine SliS.past ?_ (by assumption) | refine sliS_alloc ?_ _))), by (repeat (first | exact Below.refl _ _ | assumption | refine balloc ?_ _ | refine below_drewN ?_ _ | refine bstep (by assumption) ?_ | refine bstep (Past.prop _) ?_ | refine Below.setCell ?_ (by first | exact Nat.le_refl _ | (simp; done) | (simp; omega)) _))⟩
  obtain ⟨a7, c7, rfl, rfl, S1, S2, S3, S5, S7, hb⟩ := hcut
  go_upto_region 5 with fail
  go_cut [9, 10] (fun s9 s10 wx => ∃ (a9 : Option Addr) (c9 : Nat), s9 = .slice a9 2 c9 ∧ s10 = .int .i64 0 ∧ SliS wx (.slice a1 2 c1) [(2, (3, 1)), (8, (0, 0))] ∧ SliS wx (.slice a2 2 c2) [(5, (1, 1)), (9, (0, 0))] ∧ SliS wx (.slice a3 4 c3) [(2, (3, 1)), (5, (4, 2)), (8, (1, 1)), (9, (0, 0))] ∧ SliS wx (.slice a5 0 c5) [] ∧ SliS wx (.slice a7 2 c7) [(5, (1, 1)), (8, (0, 0))] ∧ SliS wx (.slice a9 2 c9) [(2, (3, 1)), (4, (0, 0))] ∧ Below w.heap.size w wx)
  case first =>
    go_wp2_with (first | (go_at_call 25; ((with_reducible refine (seg_c _ _ _ _).mono ?_); rintro e w1 ⟨rfl, hb1⟩)) | (go_at_call 19; ((with_reducible refine (Calls.ofSl (crange_s (F := [(2, (3, 1)), (8, (0, 0))]) (by (repeat (first | assumption | exact sliS_nil _ | (refine sliS_new (Blk.made _ _ _) rfl rfl (by decide); done) | refine SliS.past ?_ (by assumption) | refine sliS_alloc ?_ _))) (by omega) hd_range) rfl).mono ?_); rintro e w2 ⟨a9, c9, rfl, hS, hb2⟩)))
    go_meet
    case rel => exact ⟨_, _, rfl, rfl, (by (repeat (first | assumption | exact sliS_nil _ | (refine sliS_new (Blk.made _ _ _) rfl rfl (by decide); done) | refine SliS.past ?_ (by assumption) | refine sliS_alloc ?_ _))), (by (repeat (first | assumption | exact sliS_nil _ | (refine sliS_new (Blk.made _ _ _) rfl rfl (by decide); done) | refine SliS.past ?_ (by assumption) | refine sliS_alloc ?_ _))), (by (repeat (first | assumption | exact sliS_nil _ | (refine sliS_new (Blk.made _ _ _) rfl rfl (by decide); done) | refine SliS.past ?_ (by assumption) | refine sliS_alloc ?_ _))), (by (repeat (first | assumption | exact sliS_nil _ | (refine sliS_new (Blk.made _ _ _) rfl rfl (by decide); done) | refine SliS.past ?_ (by assumption) | refine sliS_alloc ?_ _))), (by (repeat (first | assumption | exact sliS_nil _ | (refine sliS_new (Blk.made _ _ _) rfl rfl (by decide); done) | refine SliS.past ?_ (by assumption) | refine sliS_alloc ?_ _))), (by (repeat (first | assumption | exact sliS_nil _ | (refine sliS_new (Blk.made _ _ _) rfl rfl (by decide); done) | refine SliS.past ?_ (by assumption) | refine sliS_alloc ?_ _))), by (repeat (first | exact Below.refl _ _ | assumption | refine balloc ?_ _ | refine below_drewN ?_ _ | refine bstep (by assumption) ?_ | refine bstep (Past.prop _) ?_ | refine Below.setCell ?_ (by first | exact Nat.le_refl _ | (simp; done) | (simp; omega)) _))⟩
  obtain ⟨a9, c9, rfl, rfl, S1, S2, S3, S5, S7, S9, hb⟩ := hcut
  go_upto_region 6 with fail
  go_cut [11, 12, 13] (fun s11 s12 s13 wx => s11 = .int .i64 8 ∧ s12 = .bool false ∧ s13 = .int .i64 0 ∧ SliS wx (.slice a1 2 c1) [(2, (3, 1)), (8, (0, 0))] ∧ SliS wx (.slice a2 2 c2) [(5, (1, 1)), (9, (0, 0))] ∧ SliS wx (.slice a3 4 c3) [(2, (3, 1)), (5, (4, 2)), (8, (1, 1)), (9, (0, 0))] ∧ SliS wx (.slice a5 0 c5) [] ∧ SliS wx (.slice a7 2 c7) [(5, (1, 1)), (8, (0, 0))] ∧ SliS wx (.slice a9 2 c9) [(2, (3, 1)), (4, (0, 0))] ∧ Below w.heap.size w wx)
  case first =>
    go_wp2_with (go_at_call 16; ((with_reducible refine (cle_s (F := [(5, (1, 1)), (9, (0, 0))]) (G := [(2, (3, 1)), (8, (0, 0))]) (by (repeat (first | assumption | exact sliS_nil _ | (refine sliS_new (Blk.made _ _ _) rfl rfl (by decide); done) | refine SliS.past ?_ (by assumption) | refine sliS_alloc ?_ _))) (by (repeat (first | assumption | exact sliS_nil _ | (refine sliS_new (Blk.made _ _ _) rfl rfl (by decide); done) | refine SliS.past ?_ (by assumption) | refine sliS_alloc ?_ _))) (by omega) hd_le0).mono ?_); rintro e w2 ⟨rfl, hb2⟩))
    go_meet
    case rel => exact ⟨rfl, rfl, rfl, (by (repeat (first | assumption | exact sliS_nil _ | (refine sliS_new (Blk.made _ _ _) rfl rfl (by decide); done) | refine SliS.past ?_ (by assumption) | refine sliS_alloc ?_ _))), (by (repeat (first | assumption | exact sliS_nil _ | (refine sliS_new (Blk.made _ _ _) rfl rfl (by decide); done) | refine SliS.past ?_ (by assumption) | refine sliS_alloc ?_ _))), (by (repeat (first | assumption | exact sliS_nil _ | (refine sliS_new (Blk.made _ _ _) rfl rfl (by decide); done) | refine SliS.past ?_ (by assumption) | refine sliS_alloc ?_ _))), (by (repeat (first | assumption | exact sliS_nil _ | (refine sliS_new (Blk.made _ _ _) rfl rfl (by decide); done) | refine SliS.past ?_ (by assumption) | refine sliS_alloc ?_ _))), (by (repeat (first | assumption | exact sliS_nil _ | (refine sliS_new (Blk.made _ _ _) rfl rfl (by decide); done) | refine SliS.past ?_ (by assumption) | refine sliS_alloc ?_ _))), (by (repeat (first | assumption | exact sliS_nil _ | (refine sliS_new (Blk.made _ _ _) rfl rfl (by decide); done) | refine SliS.past ?_ (by assumption) | refine sliS_alloc ?_ _))), by (repeat (first | exact Below.refl _ _ | assumption | refine balloc ?_ _ | refine below_drewN ?_ _ | refine bstep (by assumption) ?_ | refine bstep (Past.prop _) ?_ | refine Below.setCell ?_ (by first | exact Nat.le_refl _ | (simp; done) | (simp; omega)) _))⟩
  obtain ⟨rfl, rfl, rfl, S1, S2, S3, S5, S7, S9, hb⟩ := hcut
  go_upto_region 7 with fail
  go_cut [14, 15, 16] (fun s14 s15 s16 wx => s14 = .int .i64 0 ∧ s15 = .bool true ∧ s16 = .int .i64 0 ∧ SliS wx (.slice a1 2 c1) [(2, (3, 1)), (8, (0, 0))] ∧ SliS wx (.slice a2 2 c2) [(5, (1, 1)), (9, (0, 0))] ∧ SliS wx (.slice a3 4 c3) [(2, (3, 1)), (5, (4, 2)), (8, (1, 1)), (9, (0, 0))] ∧ SliS wx (.slice a5 0 c5) [] ∧ SliS wx (.slice a7 2 c7) [(5, (1, 1)), (8, (0, 0))] ∧ SliS wx (.slice a9 2 c9) [(2, (3, 1)), (4, (0, 0))] ∧ Below w.heap.size w wx)
  case first =>
    go_wp2_with (go_at_call 16; ((with_reducible refine (cle_s (F := [(5, (1, 1)), (9, (0, 0))]) (G := [(2, (3, 1)), (8, (0, 0))]) (by (repeat (first | assumption | exact sliS_nil _ | (refine sliS_new (Blk.made _ _ _) rfl rfl (by decide); done) | refine SliS.past ?_ (by assumption) | refine sliS_alloc ?_ _))) (by (repeat (first | assumption | exact sliS_nil _ | (refine sliS_new (Blk.made _ _ _) rfl rfl (by decide); done) | refine SliS.past ?_ (by assumption) | refine sliS_alloc ?_ _))) (by omega) hd_le9).mono ?_); rintro e w2 ⟨rfl, hb2⟩))
    go_meet
    case rel => exact ⟨rfl, rfl, rfl, (by (repeat (first | assumption | exact sliS_nil _ | (refine sliS_new (Blk.made _ _ _) rfl rfl (by decide); done) | refine SliS.past ?_ (by assumption) | refine sliS_alloc ?_ _))), (by (repeat (first | assumption | exact sliS_nil _ | (refine sliS_new (Blk.made _ _ _) rfl rfl (by decide); done) | refine SliS.past ?_ (by assumption) | refine sliS_alloc ?_ _))), (by (repeat (first | assumption | exact sliS_nil _ | (refine sliS_new (Blk.made _ _ _) rfl rfl (by decide); done) | refine SliS.past ?_ (by assumption) | refine sliS_alloc ?_ _))), (by (repeat (first | assumption | exact sliS_nil _ | (refine sliS_new (Blk.made _ _ _) rfl rfl (by decide); done) | refine SliS.past ?_ (by assumption) | refine sliS_alloc ?_ _))), (by (repeat (first | assumption | exact sliS_nil _ | (refine sliS_new (Blk.made _ _ _) rfl rfl (by decide); done) | refine SliS.past ?_ (by assumption) | refine sliS_alloc ?_ _))), (by (repeat (first | assumption | exact sliS_nil _ | (refine sliS_new (Blk.made _ _ _) rfl rfl (by decide); done) | refine SliS.past ?_ (by assumption) | refine sliS_alloc ?_ _))), by (repeat (first | exact Below.refl _ _ | assumption | refine balloc ?_ _ | refine below_drewN ?_ _ | refine bstep (by assumption) ?_ | refine bstep (Past.prop _) ?_ | refine Below.setCell ?_ (by first | exact Nat.le_refl _ | (simp; done) | (simp; omega)) _))⟩
  obtain ⟨rfl, rfl, rfl, S1, S2, S3, S5, S7, S9, hb⟩ := hcut
  go_upto_region 8 with fail
  go_cut [17, 18] (fun s17 s18 wx => ∃ (a17 : Option Addr) (c17 : Nat), s17 = .slice a17 0 c17 ∧ s18 = .int .i64 2 ∧ SliS wx (.slice a1 2 c1) [(2, (3, 1)), (8, (0, 0))] ∧ SliS wx (.slice a2 2 c2) [(5, (1, 1)), (9, (0, 0))] ∧ SliS wx (.slice a3 4 c3) [(2, (3, 1)), (5, (4, 2)), (8, (1, 1)), (9, (0, 0))] ∧ SliS wx (.slice a5 0 c5) [] ∧ SliS wx (.slice a7 2 c7) [(5, (1, 1)), (8, (0, 0))] ∧ SliS wx (.slice a9 2 c9) [(2, (3, 1)), (4, (0, 0))] ∧ SliS wx (.slice a17 0 c17) [] ∧ Below w.heap.size w wx)
  case first =>
    go_wp2_with (first | (go_at_call 25; ((with_reducible refine (seg_c _ _ _ _).mono ?_); rintro e w1 ⟨rfl, hb1⟩)) | (go_at_call 19; ((with_reducible refine (Calls.ofSl (crange_s (F := [(2, (3, 1)), (8, (0, 0))]) (by (repeat (first | assumption | exact sliS_nil _ | (refine sliS_new (Blk.made _ _ _) rfl rfl (by decide); done) | refine SliS.past ?_ (by assumption) | refine sliS_alloc ?_ _))) (by omega) hd_arg) rfl).mono ?_); rintro e w2 ⟨a9, c9, rfl, hS, hb2⟩)))
    go_meet
    case rel => exact ⟨_, _, rfl, rfl, (by (repeat (first | assumption | exact sliS_nil _ | (refine sliS_new (Blk.made _ _ _) rfl rfl (by decide); done) | refine SliS.past ?_ (by assumption) | refine sliS_alloc ?_ _))), (by (repeat (first | assumption | exact sliS_nil _ | (refine sliS_new (Blk.made _ _ _) rfl rfl (by decide); done) | refine SliS.past ?_ (by assumption) | refine sliS_alloc ?_ _))), (by (repeat (first | assumption | exact sliS_nil _ | (refine sliS_new (Blk.made _ _ _) rfl rfl (by decide); done) | refine SliS.past ?_ (by assumption) | refine sliS_alloc ?_ _))), (by (repeat (first | assumption | exact sliS_nil _ | (refine sliS_new (Blk.made _ _ _) rfl rfl (by decide); done) | refine SliS.past ?_ (by assumption) | refine sliS_alloc ?_ _))), (by (repeat (first | assumption | exact sliS_nil _ | (refine sliS_new (Blk.made _ _ _) rfl rfl (by decide); done) | refine SliS.past ?_ (by assumption) | refine sliS_alloc ?_ _))), (by (repeat (first | assumption | exact sliS_nil _ | (refine sliS_new (Blk.made _ _ _) rfl rfl (by decide); done) | refine SliS.past ?_ (by assumption) | refine sliS_alloc ?_ _))), (by (repeat (first | assumption | exact sliS_nil _ | (refine sliS_new (Blk.made _ _ _) rfl rfl (by decide); done) | refine SliS.past ?_ (by assumption) | refine sliS_alloc ?_ _))), by (repeat (first | exact Below.refl _ _ | assumption | refine balloc ?_ _ | refine below_drewN ?_ _ | refine bstep (by assumption) ?_ | refine bstep (Past.prop _) ?_ | refine Below.setCell ?_ (by first | exact Nat.le_refl _ | (simp; done) | (simp; omega)) _))⟩
  obtain ⟨a17, c17, rfl, rfl, S1, S2, S3, S5, S7, S9, S17, hb⟩ := hcut
  go_upto_region 9 with fail
  go_cut [19, 20] (fun s19 s20 wx => ∃ (a19 : Option Addr) (c19 : Nat), s19 = .slice a19 0 c19 ∧ s20 = .int .i64 5 ∧ SliS wx (.slice a1 2 c1) [(2, (3, 1)), (8, (0, 0))] ∧ SliS wx (.slice a2 2 c2) [(5, (1, 1)), (9, (0, 0))] ∧ SliS wx (.slice a3 4 c3) [(2, (3, 1)), (5, (4, 2)), (8, (1, 1)), (9, (0, 0))] ∧ SliS wx (.slice a5 0 c5) [] ∧ SliS wx (.slice a7 2 c7) [(5, (1, 1)), (8, (0, 0))] ∧ SliS wx (.slice a9 2 c9) [(2, (3, 1)), (4, (0, 0))] ∧ SliS wx (.slice a17 0 c17) [] ∧ SliS wx (.slice a19 0 c19) [] ∧ Below w.heap.size w wx)
  case first =>
    go_wp2_with (first | (go_at_call 25; ((with_reducible refine (seg_c _ _ _ _).mono ?_); rintro e w1 ⟨rfl, hb1⟩)) | (go_at_call 10; ((with_reducible refine (Calls.ofSl (cadd_two (F := [(5, (1, 1)), (9, (0, 0))]) (G := [(2, (0, 0))]) (Blk.made_at _ _ _ _ (by simp)) (by (repeat (first | assumption | exact sliS_nil _ | (refine sliS_new (Blk.made _ _ _) rfl rfl (by decide); done) | refine SliS.past ?_ (by assumption) | refine sliS_alloc ?_ _))) (by (repeat (first | assumption | exact sliS_nil _ | (refine sliS_new (Blk.made _ _ _) rfl rfl (by decide); done) | refine SliS.past ?_ (by assumption) | refine sliS_alloc ?_ _))) (by omega) hd_form) rfl).mono ?_); rintro e w2 ⟨a9, c9, rfl, hS, hb2⟩)))
    go_meet
    case rel => exact ⟨_, _, rfl, rfl, (by (repeat (first | assumption | exact sliS_nil _ | (refine sliS_new (Blk.made _ _ _) rfl rfl (by decide); done) | refine SliS.past ?_ (by assumption) | refine sliS_alloc ?_ _))), (by (repeat (first | assumption | exact sliS_nil _ | (refine sliS_new (Blk.made _ _ _) rfl rfl (by decide); done) | refine SliS.past ?_ (by assumption) | refine sliS_alloc ?_ _))), (by (repeat (first | assumption | exact sliS_nil _ | (refine sliS_new (Blk.made _ _ _) rfl rfl (by decide); done) | refine SliS.past ?_ (by assumption) | refine sliS_alloc ?_ _))), (by (repeat (first | assumption | exact sliS_nil _ | (refine sliS_new (Blk.made _ _ _) rfl rfl (by decide); done) | refine SliS.past ?_ (by assumption) | refine sliS_alloc ?_ _))), (by (repeat (first | assumption | exact sliS_nil _ | (refine sliS_new (Blk.made _ _ _) rfl rfl (by decide); done) | refine SliS.past ?_ (by assumption) | refine sliS_alloc ?_ _))), (by (repeat (first | assumption | exact sliS_nil _ | (refine sliS_new (Blk.made _ _ _) rfl rfl (by decide); done) | refine SliS.past ?_ (by assumption) | refine sliS_alloc ?_ _))), (by (repeat (first | assumption | exact sliS_nil _ | (refine sliS_new (Blk.made _ _ _) rfl rfl (by decide); done) | refine SliS.past ?_ (by assumption) | refine sliS_alloc ?_ _))), (by (repeat (first | assumption | exact sliS_nil _ | (refine sliS_new (Blk.made _ _ _) rfl rfl (by decide); done) | refine SliS.past ?_ (by assumption) | refine sliS_alloc ?_ _))), by (repeat (first | exact Below.refl _ _ | assumption | refine balloc ?_ _ | refine below_drewN ?_ _ | refine bstep (by assumption) ?_ | refine bstep (Past.prop _) ?_ | refine Below.setCell ?_ (by first | exact Nat.le_refl _ | (simp; done) | (simp; omega)) _))⟩
  obtain ⟨a19, c19, rfl, rfl, S1, S2, S3, S5, S7, S9, S17, S19, hb⟩ := hcut
  go_upto_region 10 with fail
  simp only [List.append_eq, List.cons_append, List.nil_append]
  go_wp2_with (first | (go_at_call 25; ((with_reducible refine (seg_c _ _ _ _).mono ?_); rintro e w1 ⟨rfl, hb1⟩)) | (go_at_call 18; ((with_reducible refine (rsame_s (a1 := a3) (F := [(2, (3, 1)), (5, (4, 2)), (8, (1, 1)), (9, (0, 0))]) (G := [(2, (3, 1)), (5, (4, 2)), (8, (1, 1)), (9, (0, 0))]) (b := true) (by (repeat (first | assumption | exact sliS_nil _ | (refine sliS_new (Blk.made _ _ _) rfl rfl (by decide); done) | refine SliS.past ?_ (by assumption) | refine sliS_alloc ?_ _))) (by (repeat (first | assumption | exact sliS_nil _ | (refine sliS_new (Blk.made _ _ _) rfl rfl (by decide); done) | refine SliS.past ?_ (by assumption) | refine sliS_alloc ?_ _))) (by decide)).mono ?_); rintro e w1 ⟨rfl, hb1⟩)) | (go_at_call 18; ((with_reducible refine (rsame_s (a1 := a7) (F := [(5, (1, 1)), (8, (0, 0))]) (G := [(5, (1, 1)), (8, (0, 0))]) (b := true) (by (repeat (first | assumption | exact sliS_nil _ | (refine sliS_new (Blk.made _ _ _) rfl rfl (by decide); done) | refine SliS.past ?_ (by assumption) | refine sliS_alloc ?_ _))) (by (repeat (first | assumption | exact sliS_nil _ | (refine sliS_new (Blk.made _ _ _) rfl rfl (by decide); done) | refine SliS.past ?_ (by assumption) | refine sliS_alloc ?_ _))) (by decide)).mono ?_); rintro e w1 ⟨rfl, hb1⟩)) | (go_at_call 18; ((with_reducible refine (rsame_s (a1 := a9) (F := [(2, (3, 1)), (4, (0, 0))]) (G := [(2, (3, 1)), (4, (0, 0))]) (b := true) (by (repeat (first | assumption | exact sliS_nil _ | (refine sliS_new (Blk.made _ _ _) rfl rfl (by decide); done) | refine SliS.past ?_ (by assumption) | refine sliS_alloc ?_ _))) (by (repeat (first | assumption | exact sliS_nil _ | (refine sliS_new (Blk.made _ _ _) rfl rfl (by decide); done) | refine SliS.past ?_ (by assumption) | refine sliS_alloc ?_ _))) (by decide)).mono ?_); rintro e w1 ⟨rfl, hb1⟩)))
  go_ret
  exact ⟨rfl, by (repeat (first | exact Below.refl _ _ | assumption | refine balloc ?_ _ | refine below_drewN ?_ _ | refine bstep (by assumption) ?_ | refine bstep (Past.prop _) ?_ | refine Below.setCell ?_ (by first | exact Nat.le_refl _ | (simp; done) | (simp; omega)) _))⟩
end Go.Proofs.Ytgbgnpdfjoeonaa

namespace Go.Proofs.Ytgbgnpdfjoeonaa

theorem addS_ok {a b c d : Int} (h1 : okV a b = true) (h2 : okV c d = true) (h3 : okV (a + c) (b + d) = true) : addS a b c d = (a + c, b + d, 0) := by unfold addS; rw [h1, h2, h3]; rfl
theorem subS_ok {a b c d : Int} (h1 : okV a b = true) (h2 : okV c d = true) (h3 : okV (a - c) (b - d) = true) : subS a b c d = (a - c, b - d, 0) := by unfold subS; rw [h1, h2, h3]; rfl
theorem addS_zero {a b c d : Int} (h : (addS a b c d).2.2 = 0) : addS a b c d = (a + c, b + d, 0) ∧ okV a b = true ∧ okV c d = true ∧ okV (a + c) (b + d) = true := by
  unfold addS at h ⊢
  have hg := gate_ok h
  rw [gate_true hg]
  simp only [Bool.and_eq_true] at hg
  exact ⟨rfl, hg.1.1, hg.1.2, hg.2⟩
theorem subS_zero {a b c d : Int} (h : (subS a b c d).2.2 = 0) : subS a b c d = (a - c, b - d, 0) ∧ okV a b = true ∧ okV c d = true ∧ okV (a - c) (b - d) = true := by
  unfold subS at h ⊢
  have hg := gate_ok h
  rw [gate_true hg]
  simp only [Bool.and_eq_true] at hg
  exact ⟨rfl, hg.1.1, hg.1.2, hg.2⟩
theorem may_ok {F : List Sg} (h : mayB F = true) (t : Int) : okV (vat F t).1 (vat F t).2 = true := vat_ok (CF.ok (mayB_iff.1 h)) t

/-- What is made, by its values. -/
theorem doS_vals {k : Int} {F G D : List Sg} (h : doS k F G = (D, 0)) : mayB F = true ∧ mayB G = true ∧ mayB D = true ∧ ∀ t, opT k F G t = ((vat D t).1, (vat D t).2, 0) := by
  unfold doS at h
  split at h
  · cases h
  · rename_i h1
    obtain ⟨a, b⟩ : mayB F = true ∧ mayB G = true := by simpa using h1
    split at h
    · rename_i h2
      cases h
      obtain ⟨c1, c2⟩ := opL_spec (mayB_iff.1 a) (mayB_iff.1 b) h2
      refine ⟨a, b, mayB_iff.2 c1, fun t => ?_⟩
      rw [c2 t]
      have := opOk_iff.1 h2 t
      unfold opW
      exact Prod.ext rfl (Prod.ext rfl this)
    · cases h
theorem doS_of {k : Int} {F G R : List Sg} (hF : mayB F = true) (hG : mayB G = true) (hR : mayB R = true) (h : ∀ t, opT k F G t = ((vat R t).1, (vat R t).2, 0)) : doS k F G = (R, 0) := by
  have hok : opOk k F G = true := opOk_iff.2 fun t => by rw [h t]
  unfold doS
  rw [hF, hG, if_neg (by decide), if_pos hok]
  rw [opL_unique (mayB_iff.1 hF) (mayB_iff.1 hG) hok (mayB_iff.1 hR) fun t => by unfold opW; rw [h t]]
theorem doS_ext {k : Int} {F G F' G' : List Sg} (hF : mayB F = true) (hG : mayB G = true) (hF' : mayB F' = true) (hG' : mayB G' = true) (h : ∀ t, opT k F G t = opT k F' G' t) : doS k F G = doS k F' G' := by
  by_cases hok : opOk k F G = true
  · have e : doS k F G = (opL k F G, 0) := by unfold doS; rw [hF, hG, if_neg (by decide), if_pos hok]
    rw [e]
    obtain ⟨_, _, hm, hv⟩ := doS_vals e
    exact (doS_of hF' hG' hm fun t => by rw [← h t, hv t]).symm
  · have hok' : ¬ opOk k F' G' = true := fun h' => hok (opOk_iff.2 fun t => by rw [h t]; exact opOk_iff.1 h' t)
    unfold doS
    rw [hF, hG, hF', hG', if_neg (by decide), if_neg hok, if_neg (by decide), if_neg hok']
theorem doS_codes (k : Int) (F G : List Sg) : (doS k F G).2 = 0 ∨ (doS k F G).2 = 5 ∨ (doS k F G).2 = 10 := by
  unfold doS; split
  · simp
  · split <;> simp
theorem vat_none (t : Int) : vat [] t = (0, 0) := rfl
theorem doS_nil {F : List Sg} (h : mayB F = true) : doS 0 [] F = (F, 0) := doS_of rfl h h fun t => by
  show addS 0 0 (vat F t).1 (vat F t).2 = _
  have := may_ok h t
  rw [addS_ok (by decide) this (by simpa using this)]
  simp
/-- The sum of two. -/
theorem sumS_two (F G : List Sg) : sumS [F, G] = doS 0 F G := by
  cases h : (mayB F && mayB G)
  · have e : [F, G].all mayB = false := by simpa using h
    unfold sumS
    rw [e, doS_form h]; rfl
  · obtain ⟨h1, h2⟩ : mayB F = true ∧ mayB G = true := by simpa using h
    have e : [F, G].all mayB = true := by simp [h1, h2]
    unfold sumS
    rw [e, if_pos rfl]
    unfold sumE
    simp only [List.foldl_cons, List.foldl_nil, doS_nil h1, if_true]
/-- The difference, and back. -/
theorem back_sum {F G D : List Sg} (h : doS 1 G F = (D, 0)) : sumS [F, D] = (G, 0) := by
  obtain ⟨hG, hF, hD, hv⟩ := doS_vals h
  rw [sumS_two]
  refine doS_of hF hD hG fun t => ?_
  have e := hv t
  have e2 : subS (vat G t).1 (vat G t).2 (vat F t).1 (vat F t).2 = ((vat D t).1, (vat D t).2, 0) := e
  obtain ⟨q1, q2, q3, q4⟩ := subS_zero (by rw [e2])
  rw [e2] at q1
  obtain ⟨r1, r2⟩ := Prod.mk.inj q1
  obtain ⟨r2, _⟩ := Prod.mk.inj r2
  show addS (vat F t).1 (vat F t).2 (vat D t).1 (vat D t).2 = _
  rw [addS_ok q3 (may_ok hD t) (by rw [r1, r2]; have := may_ok hG t; rwa [show (vat F t).1 + ((vat G t).1 - (vat F t).1) = (vat G t).1 by omega, show (vat F t).2 + ((vat G t).2 - (vat F t).2) = (vat G t).2 by omega])]
  rw [r1, r2]
  exact Prod.ext (by simp; omega) (Prod.ext (by simp; omega) rfl)
theorem sub_self {F : List Sg} (h : mayB F = true) : doS 1 F F = ([], 0) := doS_of h h rfl fun t => by
  show subS (vat F t).1 (vat F t).2 (vat F t).1 (vat F t).2 = _
  have := may_ok h t
  rw [subS_ok this this (by simp [okV])]
  rw [vat_none]; simp
/-- The least and the greatest of two are there. -/
theorem low_is {F G : List Sg} (hF : mayB F = true) (hG : mayB G = true) : ∃ L, doS 2 F G = (L, 0) ∧ mayB L = true ∧ ∀ t, vat L t = (mn (vat F t).1 (vat G t).1, mn (vat F t).2 (vat G t).2) := by
  have hok : opOk 2 F G = true := opOk_iff.2 fun t => rfl
  have e : doS 2 F G = (opL 2 F G, 0) := by unfold doS; rw [hF, hG, if_neg (by decide), if_pos hok]
  obtain ⟨_, _, hm, hv⟩ := doS_vals e
  refine ⟨_, e, hm, fun t => ?_⟩
  have := hv t
  have e2 : opT 2 F G t = (mn (vat F t).1 (vat G t).1, mn (vat F t).2 (vat G t).2, 0) := rfl
  rw [e2] at this
  obtain ⟨r1, r2⟩ := Prod.mk.inj this
  obtain ⟨r2, _⟩ := Prod.mk.inj r2
  exact Prod.ext r1.symm r2.symm
theorem high_is {F G : List Sg} (hF : mayB F = true) (hG : mayB G = true) : ∃ H, doS 3 F G = (H, 0) ∧ mayB H = true ∧ ∀ t, vat H t = (mx (vat F t).1 (vat G t).1, mx (vat F t).2 (vat G t).2) := by
  have hok : opOk 3 F G = true := opOk_iff.2 fun t => rfl
  have e : doS 3 F G = (opL 3 F G, 0) := by unfold doS; rw [hF, hG, if_neg (by decide), if_pos hok]
  obtain ⟨_, _, hm, hv⟩ := doS_vals e
  refine ⟨_, e, hm, fun t => ?_⟩
  have := hv t
  have e2 : opT 3 F G t = (mx (vat F t).1 (vat G t).1, mx (vat F t).2 (vat G t).2, 0) := rfl
  rw [e2] at this
  obtain ⟨r1, r2⟩ := Prod.mk.inj this
  obtain ⟨r2, _⟩ := Prod.mk.inj r2
  exact Prod.ext r1.symm r2.symm
theorem mn_mx (a b : Int) : mn a b + mx a b = a + b := by unfold mn mx; split <;> omega
/-- They are both together. -/
theorem both_sum {F G L H : List Sg} (hF : mayB F = true) (hG : mayB G = true) (hL : mayB L = true) (hH : mayB H = true)
    (vL : ∀ t, vat L t = (mn (vat F t).1 (vat G t).1, mn (vat F t).2 (vat G t).2)) (vH : ∀ t, vat H t = (mx (vat F t).1 (vat G t).1, mx (vat F t).2 (vat G t).2)) : sumS [L, H] = sumS [F, G] := by
  rw [sumS_two, sumS_two]
  refine doS_ext hL hH hF hG fun t => ?_
  show addS (vat L t).1 (vat L t).2 (vat H t).1 (vat H t).2 = addS (vat F t).1 (vat F t).2 (vat G t).1 (vat G t).2
  unfold addS
  rw [may_ok hL t, may_ok hH t, may_ok hF t, may_ok hG t]
  rw [vL t, vH t]
  simp only [mn_mx]

/-- Between two times nothing changes. -/
theorem le_between {F G : List Sg} {x t : Int} (hx : x ≤ t) : ∃ s ∈ leT F G x, x ≤ s ∧ s ≤ t ∧ vat F t = vat F s ∧ vat G t = vat G s := by
  rcases lastT (t := t) (leT F G x) with h | ⟨s, hs, h1, h2⟩
  · have := h x (leT_mem.2 (.inr rfl)); omega
  · refine ⟨s, hs, h2 x (leT_mem.2 (.inr rfl)) hx, h1, ?_, ?_⟩
    · exact (vat_same (l := F) (s := s) (t := t) (fun y hy => ⟨fun h => by omega, fun h => h2 y.1 (leT_mem.2 (.inl (twoT_mem.2 (.inl ⟨y, hy, rfl⟩)))) h⟩)).symm
    · exact (vat_same (l := G) (s := s) (t := t) (fun y hy => ⟨fun h => by omega, fun h => h2 y.1 (leT_mem.2 (.inl (twoT_mem.2 (.inr ⟨y, hy, rfl⟩)))) h⟩)).symm
theorem leS_may {F G : List Sg} (x : Int) (hF : mayB F = true) (hG : mayB G = true) :
    (leS F G x = (0, true, 0) ∧ ∀ t, x ≤ t → leB (vat F t).1 (vat F t).2 (vat G t).1 (vat G t).2 = true) ∨
    (∃ at', leS F G x = (at', false, 0) ∧ x ≤ at' ∧ leB (vat F at').1 (vat F at').2 (vat G at').1 (vat G at').2 = false ∧ (at' = x ∨ at' ∈ twoT F G) ∧ ∀ t, x ≤ t → t < at' → leB (vat F t).1 (vat F t).2 (vat G t).1 (vat G t).2 = true) := by
  cases h : (leT F G x).find? (badT F G x) with
  | none =>
    refine .inl ⟨leS_noneL hF hG h, fun t ht => ?_⟩
    obtain ⟨s, hs, h1, h2, e1, e2⟩ := le_between (F := F) (G := G) ht
    have := List.find?_eq_none.1 h s hs
    rw [e1, e2]
    cases hb : leB (vat F s).1 (vat F s).2 (vat G s).1 (vat G s).2
    · exact absurd (badT_iff.2 ⟨h1, hb⟩) this
    · rfl
  | some a =>
    obtain ⟨h1, h2⟩ := badT_iff.1 (List.find?_some h)
    have hm := List.mem_of_find?_eq_some h
    refine .inr ⟨a, leS_someL hF hG h, h1, h2, (leT_mem.1 hm).symm, fun t ht hta => ?_⟩
    obtain ⟨s, hs, q1, q2, e1, e2⟩ := le_between (F := F) (G := G) ht
    rw [e1, e2]
    cases hb : leB (vat F s).1 (vat F s).2 (vat G s).1 (vat G s).2
    · exfalso
      have hbs : badT F G x s = true := badT_iff.2 ⟨q1, hb⟩
      have hup := leT_up F G x
      have key : ∀ (l : List Int), l.Pairwise (· < ·) → s ∈ l → l.find? (badT F G x) = some a → a ≤ s := by
        intro l
        induction l with
        | nil => intro _ hs; simp at hs
        | cons y r ih =>
          intro hp hs' hf
          rw [List.pairwise_cons] at hp
          by_cases c : badT F G x y = true
          · rw [List.find?_cons_of_pos c] at hf
            cases hf
            rcases List.mem_cons.1 hs' with e | e
            · omega
            · have := hp.1 s e; omega
          · rw [List.find?_cons_of_neg c] at hf
            rcases List.mem_cons.1 hs' with e | e
            · subst e; exact absurd hbs c
            · exact ih hp.2 e hf
      have := key _ hup hs h
      omega
    · rfl
theorem leS_true {F G : List Sg} {x : Int} (hF : mayB F = true) (hG : mayB G = true) (h : ∀ t, x ≤ t → leB (vat F t).1 (vat F t).2 (vat G t).1 (vat G t).2 = true) : leS F G x = (0, true, 0) := by
  rcases leS_may x hF hG with ⟨e, _⟩ | ⟨a, _, h1, h2, _⟩
  · exact e
  · rw [h a h1] at h2; cases h2

/-- A vector more in a window. -/
theorem range_vals {F A : List Sg} {x y : Int} {v : Int × Int} (h : rangeS F x y v = (A, 0)) : mayB F = true ∧ mayB A = true ∧ okV v.1 v.2 = true ∧ (x ≤ y ∧ boxS x y v = (boxL x y v, 0)) ∧
    ∀ t, (vat A t).1 = (vat F t).1 + (if x ≤ t ∧ t < y then v.1 else 0) ∧ (vat A t).2 = (vat F t).2 + (if x ≤ t ∧ t < y then v.2 else 0) := by
  unfold rangeS at h
  split at h
  · cases h
  · rename_i hm
    have hF : mayB F = true := by simpa using hm
    split at h
    · rename_i h2
      exact absurd (Prod.mk.inj h).2 h2
    · rename_i h2
      have hb0 : (boxS x y v).2 = 0 := by simpa using h2
      have hbx : x ≤ y ∧ okS (x, v) = true ∧ okS (y, (0, 0)) = true ∧ boxS x y v = (boxL x y v, 0) := by
        unfold boxS at hb0 ⊢
        split at hb0
        · cases hb0
        · rename_i hxy
          rw [if_neg hxy]
          split at hb0
          · rename_i ho
            rw [if_pos ho]
            rw [Bool.and_eq_true] at ho
            exact ⟨by omega, ho.1, ho.2, rfl⟩
          · cases hb0
      obtain ⟨hxy, o1, o2, hbe⟩ := hbx
      obtain ⟨hc1, hc2, _⟩ := boxL_of hxy o1 o2
      rw [hbe] at h
      obtain ⟨_, _, hA, hv⟩ := doS_vals h
      have hbv : ∀ t, vat (boxL x y v) t = if x ≤ t ∧ t < y then v else (0, 0) := fun t => by
        rw [hc2 t]
        unfold rv rread
        simp only [List.foldl_cons, List.foldl_nil]
        unfold rstep
        by_cases k : x ≤ t <;> by_cases k2 : y ≤ t <;> first | omega | (simp [k, k2, hxy]; done) | (simp [k, k2, hxy]; omega)
      have ov : okV v.1 v.2 = true := by
        unfold okS at o1
        rw [Bool.and_eq_true] at o1
        exact o1.2
      refine ⟨hF, hA, ov, ⟨hxy, hbe⟩, fun t => ?_⟩
      have e : addS (vat F t).1 (vat F t).2 (vat (boxL x y v) t).1 (vat (boxL x y v) t).2 = ((vat A t).1, (vat A t).2, 0) := hv t
      obtain ⟨q1, _⟩ := addS_zero (by rw [e])
      rw [e] at q1
      obtain ⟨r1, r2⟩ := Prod.mk.inj q1
      obtain ⟨r2, _⟩ := Prod.mk.inj r2
      rw [hbv t] at r1 r2
      rw [r1, r2]
      constructor <;> split <;> rfl
/-- As much less again. -/
theorem range_back {F A : List Sg} {x y m c : Int} (h : rangeS F x y (m, c) = (A, 0)) : rangeS A x y (-m, -c) = (F, 0) := by
  obtain ⟨hF, hA, ov, ⟨hxy, hbe⟩, hv⟩ := range_vals h
  have ov' := okV_iff.1 ov
  dsimp only at ov' hv
  have hox : okS (x, (m, c)) = true ∧ okS (y, (0, 0)) = true := by
    unfold boxS at hbe
    rw [if_neg (by omega)] at hbe
    split at hbe
    · rename_i ho; rwa [Bool.and_eq_true] at ho
    · exact absurd (Prod.mk.inj hbe).2 (by decide)
  have hox' : okS (x, (-m, -c)) = true := by
    have := hox.1
    unfold okS at this ⊢
    rw [Bool.and_eq_true] at this ⊢
    exact ⟨this.1, okV_iff.2 (by dsimp only; omega)⟩
  have hbe' : boxS x y (-m, -c) = (boxL x y (-m, -c), 0) := by
    unfold boxS
    rw [if_neg (by omega), hox', hox.2]; rfl
  have hbm : mayB (boxL x y (-m, -c)) = true := by have := boxS_may x y (-m, -c); rw [hbe'] at this; exact this
  have hbv : ∀ t, vat (boxL x y (-m, -c)) t = if x ≤ t ∧ t < y then (-m, -c) else (0, 0) := fun t => by
    rw [(boxL_of hxy hox' hox.2).2.1 t]
    unfold rv rread
    simp only [List.foldl_cons, List.foldl_nil]
    unfold rstep
    by_cases k : x ≤ t <;> by_cases k2 : y ≤ t <;> first | omega | (simp [k, k2, hxy]; done) | (simp [k, k2, hxy]; omega)
  unfold rangeS
  rw [hA, if_neg (by decide), hbe', if_neg (by simp)]
  refine doS_of hA hbm hF fun t => ?_
  show addS (vat A t).1 (vat A t).2 (vat (boxL x y (-m, -c)) t).1 (vat (boxL x y (-m, -c)) t).2 = _
  have hvt := hv t
  have hFt := may_ok hF t
  have e1 : (vat A t).1 + (vat (boxL x y (-m, -c)) t).1 = (vat F t).1 := by rw [hvt.1, hbv t]; split <;> simp <;> omega
  have e2 : (vat A t).2 + (vat (boxL x y (-m, -c)) t).2 = (vat F t).2 := by rw [hvt.2, hbv t]; split <;> simp <;> omega
  rw [addS_ok (may_ok hA t) (may_ok hbm t) (by rw [e1, e2]; exact hFt), e1, e2]
end Go.Proofs.Ytgbgnpdfjoeonaa
