/- The contract of the iterator (span.window).stretches: it hands on the stretches of the window, one after the other. No conditions but that the slice's cells read as integers, and sizes. The contract of (span.window).evaluate: an error, or each of the window's stretches is handed on. No conditions but that the slice's cells read as integers, sizes, and what the function that is handed the stretches keeps. A row of runs that is appended to by a function value, round by round: where it lies, and what turns of memory leave it as it is. No function of the program. No conditions. The contract of span.Cut. No conditions but the list's size, and that the slice's cells read as integers. Package fit: functions from a time on, and each bound of the free function. No conditions but the lists' sizes, and that the slices' cells read as integers. Package fit: which policies there are, their limits. No conditions but the lists' sizes, and that the slices' cells read as policies. Package fit: the smallest and the greatest of the limits. No conditions but the list's size, and that the slice's cells read as policies. Slices that read as lists of vectors. No function of the program. No conditions. Package fit: the row of bounds. No conditions but the list's size, and that the slice's cells read as policies. Package fit: the least of some functions. No conditions but the sizes, and that the slices' cells read as functions. -/
import Derived.Test.YtjhhcljbmnomlaaGreatPTGA
import Derived.Test.YtjhhcljbmnomlaaGreatPTMB
import Derived.Test.YtjhhcljbmnomlaaGreatPTGE
import Derived.OwnWalkIn
import Derived.RangeFuncCalls
import Derived.Shelf.Abstract
import Derived.Test.YtjhhcljbmnomlaaGreatPTGB
import Derived.LoopTactic
import Derived.Test.YtjhhcljbmnomlaaGreatPTGD
import Derived.Laws.OwnMore
namespace Go.Proofs.YtjhhcljbmnomlaaGreat
open Go.ChangeShapes Go.WideShapes Go.ChangeAt Go.RowKit
attribute [local irreducible] Go.Calls

/-- What yield is handed. -/
def encS (s : St) : Array Value := #[.agg #[.int .i64 s.1, .int .i64 s.2.1, .int .i64 s.2.2.1, .int .i64 s.2.2.2]]
/-- A window. -/
abbrev WN (a : Option Addr) (n cap : Nat) (x y : Int) : Value := .agg #[.slice a n cap, .int .i64 x, .int .i64 y]

/-- Where the walk stands between two rounds. -/
def StrAt (F : List Sg) (x y : Int) (w0 W : World) (J : List St → Option (Nat × Nat) → World → Prop) (gh : Nat) (v13 : Value) (wr : World) : Prop :=
  ∃ (k : Nat) (p q : Int) (v : Int × Int) (pre : List St) (g : Option (Nat × Nat)), (∀ b k, g = some (b, k) → W.heap.size + 2 ≤ b) ∧ k ≤ F.length ∧ F.length - k ≤ gh ∧ v13 = .int .i64 k ∧ pre ++ strG y (F.drop k) p v = strL F x y ∧ J pre g wr ∧
    Below w0.heap.size w0 wr ∧ W.heap.size + 1 < wr.heap.size ∧ Blk wr (W.heap.size + 1) #[.int .i64 p, .int .i64 q, .int .i64 v.1, .int .i64 v.2] 276

set_option maxRecDepth 100000 in
set_option maxHeartbeats 2000000 in
theorem strO_c (F : List Sg) (x y : Int) (a : Option Addr) (cap : Nat) (w0 w : World) (hl : F.length ≤ 1000000000) (hA : ArgS w0 a F) (hb : Below w0.heap.size w0 w) :
    SeqO Tryz.prog 210 #[WN a F.length cap x y] #[] encS w0.heap.size (strL F x y) w := by
  intro l J Jx W hW hJ hJg hJx hY h0
  have H0 := hidE h0; have HJ := hidE hJ; have HJG := hidE hJg; have HJX := hidE hJx; have HY := hidE hY
  have HA := hidE hA
  have hbW : Below w0.heap.size w0 W := hb.trans (hW.mono hb.size)
  have HBW := hidE hbW
  clear hA hJ hJg hJx hY h0 hb hW hbW
  show Calls Tryz.prog 210 #[WN a F.length cap x y, .func (.yield l) #[] #[]] W _
  go_enter Tryz.func210, Tryz.ntmps210
  go_wp2
  go_loopg [13] F.length (fun gh v13 wr => StrAt F x y w0 W J gh v13 wr ∧ Blk wr W.heap.size #[.slice a F.length cap, .int .i64 x, .int .i64 y] 245)
  case atStart =>
    refine ⟨⟨0, x, 0, (0, 0), [], none, fun b k h => (by cases h), Nat.zero_le _, Nat.le_refl _, rfl, rfl, HJ.out _ _ _ _ H0.out ?_ (fun b k h => by cases h), HBW.out.trans (Below.mono ?_ HBW.out.size), ?_, ?_⟩, ?_⟩
    · (repeat (first | exact Below.refl _ _ | assumption | refine balloc ?_ _ | refine below_drewN ?_ _ | refine bstep (by assumption) ?_ | refine bstep (Past.prop _) ?_ | refine Below.setCell ?_ (by first | exact Nat.le_refl _ | (simp; done) | (simp; omega)) _))
    · (repeat (first | exact Below.refl _ _ | assumption | refine balloc ?_ _ | refine below_drewN ?_ _ | refine bstep (by assumption) ?_ | refine bstep (Past.prop _) ?_ | refine Below.setCell ?_ (by first | exact Nat.le_refl _ | (simp; done) | (simp; omega)) _))
    · simp
    · exact Blk.made_at _ _ _ _ (by simp)
    · exact (Blk.made _ _ _).alloc _
  case round =>
    obtain ⟨⟨k, p, q, v, pre, g, hgb, hk, hgh, rfl, hpre, hJ1, hB1, hsz, blk⟩, blk0⟩ := hrel
    have HGB := hidE hgb
    have HK := hidE (fun b k (e : g = some (b, k)) => show W.heap.size + 1 < k ∧ k < wr.heap.size from by have h1 := hgb b k e; have h2 := HJG.out _ _ _ hJ1 b k e; omega)
    clear hgb
    have HJ1 := hidE hJ1; have HB1 := hidE hB1; have HPRE := hidE hpre; have HBK := hidE blk; have HBK0 := hidE blk0; have HSZ := hidE hsz; have HG := hidE hgh
    clear hJ1 hB1 hpre blk blk0 hsz hgh
    obtain ⟨wo, hwo⟩ : ∃ wo : World, wo = wr := ⟨_, rfl⟩
    have cases3 : ((¬ k < F.length ∨ (k < F.length ∧ decide ((k : Int) < (F.length : Int)) = true ∧ decide (y ≤ ats F k) = true)) ∧ pre ++ strZ y p v = strL F x y) ∨
        (k < F.length ∧ decide ((k : Int) < (F.length : Int)) = true ∧ decide (y ≤ ats F k) = false ∧ decide (p < ats F k) = false ∧ pre ++ strG y (F.drop (k + 1)) p (vls F k) = strL F x y) ∨
        (k < F.length ∧ decide ((k : Int) < (F.length : Int)) = true ∧ decide (y ≤ ats F k) = false ∧ decide (p < ats F k) = true ∧ pre ++ (p, ats F k, v) :: strG y (F.drop (k + 1)) (ats F k) (vls F k) = strL F x y) := by
      have hp := HPRE.out
      by_cases hlt : k < F.length
      · rw [drop_cons hlt] at hp
        have hd : decide ((k : Int) < (F.length : Int)) = true := decide_eq_true (by omega)
        by_cases h1 : y ≤ ats F k
        · rw [strG_end h1] at hp
          exact .inl ⟨.inr ⟨hlt, hd, decide_eq_true h1⟩, hp⟩
        · by_cases h2 : p < ats F k
          · rw [strG_cut h1 h2] at hp
            exact .inr (.inr ⟨hlt, hd, decide_eq_false h1, decide_eq_true h2, hp⟩)
          · rw [strG_on h1 h2] at hp
            exact .inr (.inl ⟨hlt, hd, decide_eq_false h1, decide_eq_false h2, hp⟩)
      · rw [List.drop_eq_nil_of_le (by omega), strG_nil] at hp
        exact .inl ⟨.inl hlt, hp⟩
    clear HPRE
    rcases cases3 with ⟨he, hp⟩ | ⟨hlt, hd, h1, h2, hp⟩ | ⟨hlt, hd, h1, h2, hp⟩
    · have HP := hidE hp
      clear hp
      have c3 := HBK0.out.cell 2; have c4 := HBK.out.cell 0; have c5 := HBK.out.cell 1; have c6 := HBK.out.cell 2; have c7 := HBK.out.cell 3; have f4 := HBK.out.free; have z4 := HBK.out.lt; have z3 := HBK0.out.lt
      simp at c3 c4 c5 c6 c7
      have hsz := HSZ.out
      by_cases hz : p < y
      · have dz : decide (p < y) = true := decide_eq_true hz
        have HP2 := hidE (show pre ++ [(p, y, v)] = strL F x y by rw [← HP.out]; unfold strZ; rw [if_pos hz])
        clear HP hz
        have hpre : pre ++ [(p, y, v)] <+: strL F x y := by rw [HP2.out]; exact List.prefix_refl _
        rcases he with he | ⟨hlt, he, he2⟩
        · have he1 : decide (k < F.length) = false := decide_eq_false he
          have he2 : decide ((k : Int) < (F.length : Int)) = false := decide_eq_false (by omega)
          have bb : Below W.heap.size wr (wr.setCell ⟨W.heap.size + 1, 1, none⟩ (.int .i64 y)) := (Below.refl _ wr).setCell (p := ⟨W.heap.size + 1, 1, none⟩) (by simp) _
          obtain ⟨fn, tmps, assign, body, hy, hR⟩ := HY.out pre (p, y, v) g _ (HJ.out _ _ _ _ HJ1.out bb (fun b k e => by obtain ⟨q1, q2⟩ := HK.out b k e; exact keptS (by omega) _)) (by simp [World.setCell]; omega) hpre
          dsimp only [encS] at hy
          go_upto_region 14 with fail
          refine (wpIn_wide (n := 0)).1 ?_
          gi_wp2
          refine ⟨rfl, hR.mono ?_⟩
          clear hy hR
          rintro e W' (⟨rfl, g', hJ', hO, hO2, hO3⟩ | ⟨rfl, hJx'⟩)
          all_goals
            gi_wp2
            try go_wp2
            go_end0
          · exact ⟨⟨_, rfl⟩, .inl ⟨g', by rw [← HP2.out]; exact hJ'⟩⟩
          · exact ⟨⟨_, rfl⟩, .inr ⟨pre ++ [(p, y, v)], hpre, hJx'⟩⟩
        · obtain ⟨b, off, rfl, hb, hc⟩ := (HA.out.past HB1.out) (by omega)
          obtain ⟨c0, c1, c2⟩ := hc.get hlt
          clear hc
          generalize ats F k = u at *
          generalize vls F k = v' at *
          have bb : Below W.heap.size wr ((wr.setCell ⟨W.heap.size + 1, 1, none⟩ (.int .i64 y)).alloc (Obj.cells #[.int .i64 u, .int .i64 v'.1, .int .i64 v'.2] 105)) :=
            ((Below.refl _ wr).setCell (p := ⟨W.heap.size + 1, 1, none⟩) (by simp) _).alloc (by simp [World.setCell]; omega) _
          obtain ⟨fn, tmps, assign, body, hy, hR⟩ := HY.out pre (p, y, v) g _ (HJ.out _ _ _ _ HJ1.out bb (fun b k e => by obtain ⟨q1, q2⟩ := HK.out b k e; exact (keptA (by simp [World.setCell]; omega) _).trans (keptS (by omega) _))) (by simp [World.setCell]; omega) hpre
          dsimp only [encS] at hy
          go_upto_region 14 with fail
          refine (wpIn_wide (n := 0)).1 ?_
          gi_wp2
          refine ⟨rfl, hR.mono ?_⟩
          clear hy hR
          rintro e W' (⟨rfl, g', hJ', hO, hO2, hO3⟩ | ⟨rfl, hJx'⟩)
          all_goals
            gi_wp2
            try go_wp2
            go_end0
          · exact ⟨⟨_, rfl⟩, .inl ⟨g', by rw [← HP2.out]; exact hJ'⟩⟩
          · exact ⟨⟨_, rfl⟩, .inr ⟨pre ++ [(p, y, v)], hpre, hJx'⟩⟩
      · have dz : decide (p < y) = false := decide_eq_false hz
        have HP2 := hidE (show pre = strL F x y by rw [← HP.out]; unfold strZ; rw [if_neg hz, List.append_nil])
        clear HP hz
        rcases he with he | ⟨hlt, he, he2⟩
        · have he1 : decide (k < F.length) = false := decide_eq_false he
          have he2 : decide ((k : Int) < (F.length : Int)) = false := decide_eq_false (by omega)
          have bb : Below W.heap.size wr (wr.setCell ⟨W.heap.size + 1, 1, none⟩ (.int .i64 y)) := (Below.refl _ wr).setCell (p := ⟨W.heap.size + 1, 1, none⟩) (by simp) _
          have HJ2 := hidE (HJ.out _ _ _ _ HJ1.out bb (fun b k e => by obtain ⟨q1, q2⟩ := HK.out b k e; exact keptS (by omega) _))
          clear bb
          go_wp2
          go_end0
          exact ⟨⟨_, rfl⟩, .inl ⟨g, by rw [← HP2.out]; exact HJ2.out⟩⟩
        · obtain ⟨b, off, rfl, hb, hc⟩ := (HA.out.past HB1.out) (by omega)
          obtain ⟨c0, c1, c2⟩ := hc.get hlt
          clear hc
          generalize ats F k = u at *
          generalize vls F k = v' at *
          have bb : Below W.heap.size wr ((wr.setCell ⟨W.heap.size + 1, 1, none⟩ (.int .i64 y)).alloc (Obj.cells #[.int .i64 u, .int .i64 v'.1, .int .i64 v'.2] 105)) :=
            ((Below.refl _ wr).setCell (p := ⟨W.heap.size + 1, 1, none⟩) (by simp) _).alloc (by simp [World.setCell]; omega) _
          have HJ2 := hidE (HJ.out _ _ _ _ HJ1.out bb (fun b k e => by obtain ⟨q1, q2⟩ := HK.out b k e; exact (keptA (by simp [World.setCell]; omega) _).trans (keptS (by omega) _)))
          clear bb
          go_wp2
          go_end0
          exact ⟨⟨_, rfl⟩, .inl ⟨g, by rw [← HP2.out]; exact HJ2.out⟩⟩
    · have HP := hidE hp
      obtain ⟨b, off, rfl, hb, hc⟩ := (HA.out.past HB1.out) (by omega)
      obtain ⟨c0, c1, c2⟩ := hc.get hlt
      have c3 := HBK0.out.cell 2; have c4 := HBK.out.cell 0; have c5 := HBK.out.cell 1; have c6 := HBK.out.cell 2; have c7 := HBK.out.cell 3; have f4 := HBK.out.free; have z4 := HBK.out.lt; have z3 := HBK0.out.lt
      simp at c3 c4 c5 c6 c7
      clear hc hp
      generalize ats F k = u at *
      generalize vls F k = v' at *
      go_wp2
      go_roundg (F.length - (k + 1))
      case measure => have := HG.out; omega
      case rel =>
        have hsz := HSZ.out
        have bb : Below W.heap.size wr (((wr.setCell ⟨W.heap.size + 1, 2, none⟩ (.int .i64 v'.1)).setCell ⟨W.heap.size + 1, 3, none⟩ (.int .i64 v'.2)).alloc (Obj.cells #[.int .i64 u, .int .i64 v'.1, .int .i64 v'.2] 105)) :=
          (((Below.refl _ wr).setCell (p := ⟨W.heap.size + 1, 2, none⟩) (by simp) _).setCell (p := ⟨W.heap.size + 1, 3, none⟩) (by simp) _).alloc (by simp [World.setCell]; omega) _
        exact ⟨⟨k + 1, p, q, v', pre, g, HGB.out, by omega, Nat.le_refl _, by go_num, HP.out, HJ.out _ _ _ _ HJ1.out bb (fun b k e => by obtain ⟨q1, q2⟩ := HK.out b k e; exact (keptA (by simp [World.setCell]; omega) _).trans ((keptS (by omega) _).trans (keptS (by omega) _))), HB1.out.trans (bb.mono HBW.out.size), by simp [World.setCell]; omega, ((HBK.out.set 2 (.int .i64 v'.1)).set 3 (.int .i64 v'.2)).alloc _⟩, ((HBK0.out.other (by omega) _).other (by omega) _).alloc _⟩
    · have HP := hidE hp
      obtain ⟨b, off, rfl, hb, hc⟩ := (HA.out.past HB1.out) (by omega)
      obtain ⟨c0, c1, c2⟩ := hc.get hlt
      have c3 := HBK0.out.cell 2; have c4 := HBK.out.cell 0; have c5 := HBK.out.cell 1; have c6 := HBK.out.cell 2; have c7 := HBK.out.cell 3; have f4 := HBK.out.free; have z4 := HBK.out.lt; have z3 := HBK0.out.lt
      simp at c3 c4 c5 c6 c7
      clear hc hp
      generalize ats F k = u at *
      generalize vls F k = v' at *
      have hpre : pre ++ [(p, u, v)] <+: strL F x y := ⟨strG y (F.drop (k + 1)) u v', by rw [← HP.out]; simp⟩
      have hsz := HSZ.out
      have q1 := (HBK.out.set 1 (.int .i64 u)).alloc (Obj.cells #[.int .i64 u, .int .i64 v'.1, .int .i64 v'.2] 105)
      have q0 := (HBK0.out.other (b := W.heap.size + 1) (i := 1) (by omega) (.int .i64 u)).alloc (Obj.cells #[.int .i64 u, .int .i64 v'.1, .int .i64 v'.2] 105)
      have qr : Blk ((wr.setCell ⟨W.heap.size + 1, 1, none⟩ (.int .i64 u)).alloc (Obj.cells #[.int .i64 u, .int .i64 v'.1, .int .i64 v'.2] 105)) wr.heap.size #[.int .i64 u, .int .i64 v'.1, .int .i64 v'.2] 105 := Blk.made_at _ _ _ _ (by simp [World.setCell])
      have bb : Below W.heap.size wr ((wr.setCell ⟨W.heap.size + 1, 1, none⟩ (.int .i64 u)).alloc (Obj.cells #[.int .i64 u, .int .i64 v'.1, .int .i64 v'.2] 105)) :=
        ((Below.refl _ wr).setCell (p := ⟨W.heap.size + 1, 1, none⟩) (by simp) _).alloc (by simp [World.setCell]; omega) _
      obtain ⟨fn, tmps, assign, body, hy, hR⟩ := HY.out pre (p, u, v) g _ (HJ.out _ _ _ _ HJ1.out bb (fun b k e => by obtain ⟨q1, q2⟩ := HK.out b k e; exact (keptA (by simp [World.setCell]; omega) _).trans (keptS (by omega) _))) (by simp [World.setCell]; omega) hpre
      dsimp only [encS] at hy
      have HQ1 := hidE q1; have HQ0 := hidE q0; have HQR := hidE qr; have HBB := hidE bb; have HPR := hidE hpre
      clear q1 q0 qr bb hpre
      go_upto_region 8 with fail
      refine (wpIn_wide (n := 0)).1 ?_
      gi_wp2
      refine ⟨rfl, hR.mono ?_⟩
      clear hy hR
      rintro e W' (⟨rfl, g', hJ', hO, hO2, hO3⟩ | ⟨rfl, hJx'⟩)
      · have hz1 := hO.size
        have hzz : W.heap.size ≤ wr.heap.size := by omega
        simp [World.setCell] at hz1
        have s1 := (hO2 _ (by omega) HQ1.out.lt (fun b e => by have := HK.out b _ e; omega)).trans HQ1.out
        have s0 := (hO2 _ (by omega) HQ0.out.lt (fun b e => by have := HK.out b _ e; omega)).trans HQ0.out
        have sr := (hO2 _ (by omega) HQR.out.lt (fun b e => by have := HK.out b _ e; omega)).trans HQR.out
        have HGB2 := hidE (fun b k (e : g' = some (b, k)) => show W.heap.size + 2 ≤ b from by
          rcases hO3 b k e with h | ⟨j, h⟩
          · simp [World.setCell] at h; omega
          · exact HGB.out b j h)
        have HJ2 := hidE hJ'; have HO := hidE hO
        clear hO hO2 hO3 hJ'
        change Blk W' _ _ _ at s1
        change Blk W' _ _ _ at s0
        change Blk W' _ _ _ at sr
        have d0 := sr.cell 0; have d1 := sr.cell 1; have d2 := sr.cell 2; have dz := sr.lt
        have g0 := s1.cell 0; have g1 := s1.cell 1; have g2 := s1.cell 2; have g3 := s1.cell 3; have gf := s1.free; have gz := s1.lt
        simp at d0 d1 d2 g0 g1 g2 g3
        clear hz1 c0 c1 c2 c3 c4 c5 c6 c7 f4 z4 z3 hb
        gi_wp2
        go_wp2
        go_roundg (F.length - (k + 1))
        case measure => have := HG.out; omega
        case rel =>
          have bc : Below W.heap.size W' (((W'.setCell ⟨W.heap.size + 1, 0, none⟩ (.int .i64 u)).setCell ⟨W.heap.size + 1, 2, none⟩ (.int .i64 v'.1)).setCell ⟨W.heap.size + 1, 3, none⟩ (.int .i64 v'.2)) :=
            (((Below.refl _ W').setCell (p := ⟨W.heap.size + 1, 0, none⟩) (by simp) _).setCell (p := ⟨W.heap.size + 1, 2, none⟩) (by simp) _).setCell (p := ⟨W.heap.size + 1, 3, none⟩) (by simp) _
          have hz1 := HO.out.size
          simp [World.setCell] at hz1
          refine ⟨⟨k + 1, u, u, v', pre ++ [(p, u, v)], g', HGB2.out, by omega, Nat.le_refl _, by go_num, ?_, HJ.out _ _ _ _ HJ2.out bc (fun b k e => by have q1 := HGB2.out b k e; have q2 := (HJG.out _ _ _ HJ2.out b k e).1; exact (keptS (by omega) _).trans ((keptS (by omega) _).trans (keptS (by omega) _))), ((HB1.out.trans (HBB.out.mono HBW.out.size)).trans HO.out).trans (bc.mono HBW.out.size), by simp [World.setCell]; omega, ?_⟩, ?_⟩
          · rw [← HP.out]; simp
          · simpa using ((s1.set 0 (.int .i64 u)).set 2 (.int .i64 v'.1)).set 3 (.int .i64 v'.2)
          · exact ((s0.other (by omega) _).other (by omega) _).other (by omega) _
      · gi_wp2
        go_wp2
        refine bodyPost_ret (results_none rfl _ _ _) rfl ?_
        exact ⟨⟨_, rfl⟩, .inr ⟨pre ++ [(p, u, v)], HPR.out, hJx'⟩⟩
theorem str_c (F : List Sg) (x y : Int) (a : Option Addr) (cap : Nat) (w0 w : World) (hl : F.length ≤ 1000000000) (hA : ArgS w0 a F) (hb : Below w0.heap.size w0 w) :
    SeqT Tryz.prog 210 #[WN a F.length cap x y] #[] encS w0.heap.size (strL F x y) w := (strO_c F x y a cap w0 w hl hA hb).toT
end Go.Proofs.YtjhhcljbmnomlaaGreat

namespace Go.Proofs.YtjhhcljbmnomlaaGreat
open Go.ChangeShapes Go.WideShapes Go.ChangeAt Go.RowKit Go.Shelf
attribute [local irreducible] Go.Calls
attribute [local go_sem] Oper.semAt_some

theorem spanPut {w : World} {k : Nat} {cs : Array Value} {t : TypeId} (h : Blk w k cs t) {b : Nat} (hb : k ≠ b) (o : Obj) : Blk (w.putObj b o) k cs t := (World.putObj_heap_other hb).trans h
theorem outBlk {n₀ n₁ k : Nat} {W W' : World} {cs : Array Value} {t : TypeId} (h : Blk W k cs t) (ho : Outside n₀ n₁ W W') (hk : n₁ ≤ k) : Blk W' k cs t := (ho.beyond k hk h.lt).trans h
/-- Between two rounds. -/
def EvI (a : Option Addr) (n cap : Nat) (x y : Int) (fv : Value) (J : List St → World → Prop) (w0 w : World) (pre : List St) (W : World) : Prop :=
  J pre W ∧ Below w0.heap.size w0 W ∧ Blk W (w.heap.size + 1) #[fv] 280 ∧ Blk W w.heap.size #[.slice a n cap, .int .i64 x, .int .i64 y] 245
theorem wndB_not {x y : Int} (h : wndB x y = false) : x < -1125899906842624 ∨ (-1125899906842624 ≤ x ∧ 1125899906842624 < y) ∨ (-1125899906842624 ≤ x ∧ y ≤ 1125899906842624 ∧ y ≤ x) ∨ (-1125899906842624 ≤ x ∧ y ≤ 1125899906842624 ∧ x < y ∧ 8000 < y - x) := by
  unfold wndB at h
  have := of_decide_eq_false h
  omega
/-- The stretches that are handed on. -/
def evS (F : List Sg) (x y : Int) : List St := if badW F x y = 0 then strL F x y else []

set_option maxRecDepth 100000 in
set_option maxHeartbeats 2000000 in
theorem ev_c (F : List Sg) (x y : Int) (a : Option Addr) (cap gk : Nat) (lk : Array Value) (w0 w : World) (J : List St → World → Prop) (hl : F.length ≤ 1000000000) (hA : ArgS w0 a F) (hb : Below w0.heap.size w0 w)
    (eg : ∀ args w, (callFunc gk args).run Tryz.prog w = .ok (.enter gk args) w)
    (hJ : ∀ s A B, J s A → Below w.heap.size A B → J s B)
    (hE : badW F x y = 0 → ∀ pre s W, w.heap.size ≤ W.heap.size → J pre W → pre ++ [s] <+: strL F x y → Calls Tryz.prog gk (encS s ++ lk) W fun e W' => (∃ v, e = .returned v) ∧ J (pre ++ [s]) W' ∧ Outside w0.heap.size w.heap.size W W') (h0 : J [] w) :
    Calls Tryz.prog 216 #[WN a F.length cap x y, .func (.func gk) #[] lk] w fun e w' => e = .returned (.int .i64 (badW F x y)) ∧ J (evS F x y) w' ∧ Below w0.heap.size w0 w' := by
  have HA := hidE hA; have HJ := hidE hJ; have HE := hidE hE; have H0 := hidE h0; have HBW := hidE hb
  have HV := hidE (fun w hA => pmay_c F a cap w (by omega) hA)
  have HZ := hidE hb.size
  clear hJ hE h0 hb
  cases h1 : mayB F
  · have HS := hidE (show evS F x y = [] by unfold evS; rw [badW_form h1, if_neg (by decide)])
    rw [badW_form h1]
    rw [h1] at HV
    clear h1 hA
    go_enter Tryz.func216, Tryz.ntmps216
    go_wp2_with fail
    ((with_reducible refine (HV.out _ (HA.out.past (HBW.out.trans (Below.mono (by (repeat (first | exact Below.refl _ _ | assumption | refine balloc ?_ _ | refine below_drewN ?_ _ | refine bstep (by assumption) ?_ | refine bstep (Past.prop _) ?_ | refine Below.setCell ?_ (by first | exact Nat.le_refl _ | (simp; done) | (simp; omega)) _))) HBW.out.size)))).mono ?_); rintro e w1 ⟨rfl, hb1⟩)
    have HB1 := hidE (show Below w.heap.size w w1 by (repeat (first | exact Below.refl _ _ | assumption | refine balloc ?_ _ | refine below_drewN ?_ _ | refine bstep (by assumption) ?_ | refine bstep (Past.prop _) ?_ | refine Below.setCell ?_ (by first | exact Nat.le_refl _ | (simp; done) | (simp; omega)) _)))
    clear hb1
    go_wp2
    go_ret
    exact ⟨rfl, by rw [HS.out]; exact HJ.out _ _ _ H0.out HB1.out, HBW.out.trans (HB1.out.mono HZ.out)⟩
  rw [h1] at HV
  cases h2 : wndB x y
  · have HS := hidE (show evS F x y = [] by unfold evS; rw [badW_arg h1 h2, if_neg (by decide)])
    rw [badW_arg h1 h2]
    have hq := wndB_not h2
    clear h1 h2 hA
    rcases hq with h | ⟨h, h'⟩ | ⟨h, h', h2⟩ | ⟨h, h', h2, h3⟩
    · have e1 : decide (x < -1125899906842624) = true := decide_eq_true h
      go_enter Tryz.func216, Tryz.ntmps216
      go_wp2_with fail
      ((with_reducible refine (HV.out _ (HA.out.past (HBW.out.trans (Below.mono (by (repeat (first | exact Below.refl _ _ | assumption | refine balloc ?_ _ | refine below_drewN ?_ _ | refine bstep (by assumption) ?_ | refine bstep (Past.prop _) ?_ | refine Below.setCell ?_ (by first | exact Nat.le_refl _ | (simp; done) | (simp; omega)) _))) HBW.out.size)))).mono ?_); rintro e w1 ⟨rfl, hb1⟩)
      have HB1 := hidE (show Below w.heap.size w w1 by (repeat (first | exact Below.refl _ _ | assumption | refine balloc ?_ _ | refine below_drewN ?_ _ | refine bstep (by assumption) ?_ | refine bstep (Past.prop _) ?_ | refine Below.setCell ?_ (by first | exact Nat.le_refl _ | (simp; done) | (simp; omega)) _)))
      have B1 := (Blk.alloc (Blk.made w #[.slice a F.length cap, .int .i64 x, .int .i64 y] 245) (Obj.cells #[Value.func (.func gk) #[] lk] 280)).past hb1
      have c1 := B1.cell 1; have c2 := B1.cell 2; have z1 := B1.lt
      simp at c1 c2
      clear hb1
      go_wp2
      go_ret
      exact ⟨rfl, by rw [HS.out]; exact HJ.out _ _ _ H0.out HB1.out, HBW.out.trans (HB1.out.mono HZ.out)⟩
    · have e0 : decide (x < -1125899906842624) = false := decide_eq_false (by omega)
      have e1 : decide (1125899906842624 < y) = true := decide_eq_true (by omega)
      go_enter Tryz.func216, Tryz.ntmps216
      go_wp2_with fail
      ((with_reducible refine (HV.out _ (HA.out.past (HBW.out.trans (Below.mono (by (repeat (first | exact Below.refl _ _ | assumption | refine balloc ?_ _ | refine below_drewN ?_ _ | refine bstep (by assumption) ?_ | refine bstep (Past.prop _) ?_ | refine Below.setCell ?_ (by first | exact Nat.le_refl _ | (simp; done) | (simp; omega)) _))) HBW.out.size)))).mono ?_); rintro e w1 ⟨rfl, hb1⟩)
      have HB1 := hidE (show Below w.heap.size w w1 by (repeat (first | exact Below.refl _ _ | assumption | refine balloc ?_ _ | refine below_drewN ?_ _ | refine bstep (by assumption) ?_ | refine bstep (Past.prop _) ?_ | refine Below.setCell ?_ (by first | exact Nat.le_refl _ | (simp; done) | (simp; omega)) _)))
      have B1 := (Blk.alloc (Blk.made w #[.slice a F.length cap, .int .i64 x, .int .i64 y] 245) (Obj.cells #[Value.func (.func gk) #[] lk] 280)).past hb1
      have c1 := B1.cell 1; have c2 := B1.cell 2; have z1 := B1.lt
      simp at c1 c2
      clear hb1
      go_wp2
      go_ret
      exact ⟨rfl, by rw [HS.out]; exact HJ.out _ _ _ H0.out HB1.out, HBW.out.trans (HB1.out.mono HZ.out)⟩
    · have e0 : decide (x < -1125899906842624) = false := decide_eq_false (by omega)
      have e1 : decide (1125899906842624 < y) = false := decide_eq_false (by omega)
      have e2 : decide (y ≤ x) = true := decide_eq_true (by omega)
      go_enter Tryz.func216, Tryz.ntmps216
      go_wp2_with fail
      ((with_reducible refine (HV.out _ (HA.out.past (HBW.out.trans (Below.mono (by (repeat (first | exact Below.refl _ _ | assumption | refine balloc ?_ _ | refine below_drewN ?_ _ | refine bstep (by assumption) ?_ | refine bstep (Past.prop _) ?_ | refine Below.setCell ?_ (by first | exact Nat.le_refl _ | (simp; done) | (simp; omega)) _))) HBW.out.size)))).mono ?_); rintro e w1 ⟨rfl, hb1⟩)
      have HB1 := hidE (show Below w.heap.size w w1 by (repeat (first | exact Below.refl _ _ | assumption | refine balloc ?_ _ | refine below_drewN ?_ _ | refine bstep (by assumption) ?_ | refine bstep (Past.prop _) ?_ | refine Below.setCell ?_ (by first | exact Nat.le_refl _ | (simp; done) | (simp; omega)) _)))
      have B1 := (Blk.alloc (Blk.made w #[.slice a F.length cap, .int .i64 x, .int .i64 y] 245) (Obj.cells #[Value.func (.func gk) #[] lk] 280)).past hb1
      have c1 := B1.cell 1; have c2 := B1.cell 2; have z1 := B1.lt
      simp at c1 c2
      clear hb1
      go_wp2
      go_ret
      exact ⟨rfl, by rw [HS.out]; exact HJ.out _ _ _ H0.out HB1.out, HBW.out.trans (HB1.out.mono HZ.out)⟩
    · have e0 : decide (x < -1125899906842624) = false := decide_eq_false (by omega)
      have e1 : decide (1125899906842624 < y) = false := decide_eq_false (by omega)
      have e2 : decide (y ≤ x) = false := decide_eq_false (by omega)
      have e3 : decide (8000 < y - x) = true := decide_eq_true (by omega)
      go_enter Tryz.func216, Tryz.ntmps216
      go_wp2_with fail
      ((with_reducible refine (HV.out _ (HA.out.past (HBW.out.trans (Below.mono (by (repeat (first | exact Below.refl _ _ | assumption | refine balloc ?_ _ | refine below_drewN ?_ _ | refine bstep (by assumption) ?_ | refine bstep (Past.prop _) ?_ | refine Below.setCell ?_ (by first | exact Nat.le_refl _ | (simp; done) | (simp; omega)) _))) HBW.out.size)))).mono ?_); rintro e w1 ⟨rfl, hb1⟩)
      have HB1 := hidE (show Below w.heap.size w w1 by (repeat (first | exact Below.refl _ _ | assumption | refine balloc ?_ _ | refine below_drewN ?_ _ | refine bstep (by assumption) ?_ | refine bstep (Past.prop _) ?_ | refine Below.setCell ?_ (by first | exact Nat.le_refl _ | (simp; done) | (simp; omega)) _)))
      have B1 := (Blk.alloc (Blk.made w #[.slice a F.length cap, .int .i64 x, .int .i64 y] 245) (Obj.cells #[Value.func (.func gk) #[] lk] 280)).past hb1
      have c1 := B1.cell 1; have c2 := B1.cell 2; have z1 := B1.lt
      simp at c1 c2
      clear hb1
      go_wp2
      go_ret
      exact ⟨rfl, by rw [HS.out]; exact HJ.out _ _ _ H0.out HB1.out, HBW.out.trans (HB1.out.mono HZ.out)⟩
  · have HS := hidE (show evS F x y = strL F x y by unfold evS; rw [badW_ok h1 h2, if_pos rfl])
    rw [badW_ok h1 h2]
    have HE := hidE (HE.out (badW_ok h1 h2))
    rw [wndB_iff] at h2
    have e0 : decide (x < -1125899906842624) = false := decide_eq_false (by omega)
    have e1 : decide (1125899906842624 < y) = false := decide_eq_false (by omega)
    have e2 : decide (y ≤ x) = false := decide_eq_false (by omega)
    have e3 : decide (8000 < y - x) = false := decide_eq_false (by omega)
    have HSEQ := hidE (fun w' hb => str_c F x y a cap w0 w' hl hA hb)
    clear h1 hA
    refine (callsIn_wide (n := 0)).1 (callsIn_of_wp_marks Tryz.func216 rfl trivial ((wpIn_wide (n := 0)).2 ?_))
    simp only [Tryz.ntmps216, List.size_toArray, List.length_cons, List.length_nil, Nat.reduceAdd, Nat.reduceSub, Array.replicate_succ, Array.replicate_zero, List.push_toArray, List.append_toArray, List.nil_append, List.cons_append]
    go_wp2_with fail
    ((with_reducible refine (HV.out _ (HA.out.past (HBW.out.trans (Below.mono (by (repeat (first | exact Below.refl _ _ | assumption | refine balloc ?_ _ | refine below_drewN ?_ _ | refine bstep (by assumption) ?_ | refine bstep (Past.prop _) ?_ | refine Below.setCell ?_ (by first | exact Nat.le_refl _ | (simp; done) | (simp; omega)) _))) HBW.out.size)))).mono ?_); rintro e w1 ⟨rfl, hb1⟩)
    have HB1 := hidE (show Below w.heap.size w w1 by (repeat (first | exact Below.refl _ _ | assumption | refine balloc ?_ _ | refine below_drewN ?_ _ | refine bstep (by assumption) ?_ | refine bstep (Past.prop _) ?_ | refine Below.setCell ?_ (by first | exact Nat.le_refl _ | (simp; done) | (simp; omega)) _)))
    have B1 := (Blk.alloc (Blk.made w #[.slice a F.length cap, .int .i64 x, .int .i64 y] 245) (Obj.cells #[Value.func (.func gk) #[] lk] 280)).past hb1
    have B2 := (Blk.made_at (w.alloc (Obj.cells #[.slice a F.length cap, .int .i64 x, .int .i64 y] 245)) #[Value.func (.func gk) #[] lk] 280 (w.heap.size + 1) (by simp)).past hb1
    have c0 := B1.cell 0; have c1 := B1.cell 1; have c2 := B1.cell 2; have z1 := B1.lt; have z2 := B2.lt
    simp at c0 c1 c2
    have HK1 := hidE B1; have HK2 := hidE B2
    clear hb1 B1 B2
    go_wp2
    have hn0 : w0.heap.size ≤ w1.heap.size := Nat.le_trans HZ.out HB1.out.size
    have hI0 : EvI a F.length cap x y (.func (.func gk) #[] lk) J w0 w [] w1 := ⟨HJ.out _ _ _ H0.out HB1.out, HBW.out.trans (HB1.out.mono HZ.out), HK2.out, HK1.out⟩
    clear e0 e1 e2 e3 c0 c1 c2 h2 HV
    refine wp_rangeFunc_T (n₀ := w0.heap.size) (S := strL F x y) rfl (enters_of Tryz.func210 (by kernel_rfl) rfl) hn0 (HSEQ.out _ hI0.2.1) (fun _ => rfl)
      (EvI a F.length cap x y (.func (.func gk) #[] lk) J w0 w) (fun _ _ _ => False)
      (fun s A B h hb => ⟨HJ.out _ _ _ h.1 (hb.mono HB1.out.size), h.2.1.trans (hb.mono hn0), h.2.2.1.below hb z2, h.2.2.2.below hb z1⟩) (fun c s A B h hb => h.elim) hI0
      (fun s a1 W => ∃ (Bx : Nat) (u0 u1 u2 u4 u6 u7 u8 u9 u10 u11 u12 u13 u14 u15 u16 u17 u18 u19 u20 u21 u22 u23 u24 u25 u26 u27 u28 u29 u30 u31 u32 u33 u34 u35 u36 u37 u38 : Value), w1.heap.size ≤ Bx ∧ Blk W Bx #[.int .i64 s.1, .int .i64 s.2.1, .int .i64 s.2.2.1, .int .i64 s.2.2.2] 276 ∧ a1 = { tmps := #[u0, u1, u2, .pointer (some ⟨w.heap.size + 1, 0, none⟩), u4, .pointer (some ⟨Bx, 0, none⟩), u6, u7, u8, u9, u10, u11, u12, u13, u14, u15, u16, u17, u18, u19, u20, u21, u22, u23, u24, u25, u26, u27, u28, u29, u30, u31, u32, u33, u34, u35, u36, u37, u38], defers := [] })
      ?hax ?assign ?body ?done ?stop
    case hax =>
      rintro p a1 A l r o ⟨Bx, u0, u1, u2, u4, u6, u7, u8, u9, u10, u11, u12, u13, u14, u15, u16, u17, u18, u19, u20, u21, u22, u23, u24, u25, u26, u27, u28, u29, u30, u31, u32, u33, u34, u35, u36, u37, u38, h1, h2, h3⟩ hlr
      exact ⟨Bx, _, _, _, _, _, _, _, _, _, _, _, _, _, _, _, _, _, _, _, _, _, _, _, _, _, _, _, _, _, _, _, _, _, _, _, _, _, h1, (World.putObj_heap_other (fun e => by subst e; rw [show A.heap[Bx]? = _ from h2] at hlr; cases hlr)).trans h2, h3⟩
    case assign =>
      intro l pre s W K hsz hi hK
      dsimp only [encS]
      gi_wp2
      refine hK _ _ (Outside.of_below ((Below.refl _ _).alloc (Nat.le_refl _) _) (by omega)) ⟨HJ.out _ _ _ hi.1 ((Below.refl _ _).alloc (by omega) _), hi.2.1.alloc (by omega) _, hi.2.2.1.alloc _, hi.2.2.2.alloc _⟩ ⟨W.heap.size, _, _, _, _, _, _, _, _, _, _, _, _, _, _, _, _, _, _, _, _, _, _, _, _, _, _, _, _, _, _, _, _, _, _, _, _, _, by omega, Blk.made _ _ _, rfl⟩
    case body =>
      rintro l pre s a1 W hsz ⟨i1, i2, i3, i4⟩ ⟨Bx, u0, u1, u2, u4, u6, u7, u8, u9, u10, u11, u12, u13, u14, u15, u16, u17, u18, u19, u20, u21, u22, u23, u24, u25, u26, u27, u28, u29, u30, u31, u32, u33, u34, u35, u36, u37, u38, hBx, bX, rfl⟩ hpre
      have HC := hidE (HE.out pre s W (by omega) i1 hpre)
      have y0 := bX.cell 0; have y1 := bX.cell 1; have y2 := bX.cell 2; have y3 := bX.cell 3; have yz := bX.lt
      have t0 := i3.cell 0; have t1 := i3.lt
      simp at y0 y1 y2 y3 t0
      clear hI0 HSEQ
      gi_wp2_with fail
      refine ⟨trivial, rfl, (CallsIn.inRound l (callsIn_wide.2 HC.out)).mono ?_⟩
      rintro e w3 ⟨⟨v, rfl⟩, hJ3, hO⟩
      gi_wp2
      have hO' : Outside w0.heap.size w1.heap.size W w3 := hO.weak (by omega)
      exact ⟨hO', hJ3, i2.trans hO.below, outBlk i3 hO (by omega), outBlk i4 hO (by omega)⟩
    case done =>
      rintro D W hD ⟨i1, i2, i3, i4⟩ hK
      clear hI0 HSEQ
      go_wp2
      refine ⟨by simp, .inl ⟨_, _, rfl, run_takeDeferred hK, ?_⟩⟩
      refine ⟨.int .i64 0, by simp [results, Tryz.results216, go_sem], rfl, by rw [HS.out]; exact HJ.out _ _ _ i1 (below_putObj _ _ _ (by omega)), i2.trans (below_putObj _ _ _ (by omega))⟩
    case stop =>
      rintro D c pre W hD hpre h hK
      exact h.elim
end Go.Proofs.YtjhhcljbmnomlaaGreat

namespace Go.Proofs.YtjhhcljbmnomlaaGreat
open Go.ChangeShapes Go.WideShapes Go.ChangeAt Go.RowKit
attribute [local irreducible] Go.Calls

theorem sfresh_at (w : World) (cs : Array Value) (t : TypeId) (k : Nat) (h : k = w.heap.size) : ∀ j u, cs.toList[j]? = some u → (w.alloc (.cells cs t)).cell? ((⟨k, 0, none⟩ : Addr).add j) = some u := by
  subst h
  exact new_cells w cs t
/-- A slice of runs lies on where only blocks of one cell, or of none, are turned. -/
theorem sargS_turn {w w' : World} {a : Option Addr} {l : List Sg} (h : ArgS w a l) (hs : w.heap.size ≤ w'.heap.size) (hk : ∀ k i v, w.cell? ⟨k, i + 1, none⟩ = some v → w'.heap[k]? = w.heap[k]?) : ArgS w' a l := fun hl => by
  obtain ⟨b, off, e, h1, h2⟩ := h hl
  have hb : w'.heap[b]? = w.heap[b]? := by
    obtain ⟨_, q, _⟩ := h2 0 hl
    exact hk b _ _ q
  have hc : ∀ i, w'.cell? ⟨b, i, none⟩ = w.cell? ⟨b, i, none⟩ := fun i => World.cell?_of_block (a := ⟨b, i, none⟩) hb
  refine ⟨b, off, e, Nat.lt_of_lt_of_le h1 hs, fun i hi => ?_⟩
  obtain ⟨q1, q2, q3⟩ := h2 i hi
  exact ⟨(hc _).trans q1, (hc _).trans q2, (hc _).trans q3⟩
theorem sno_cell {w : World} {k i : Nat} {v : Value} {d : Option (List Deferred)} (h : w.heap[k]? = some (.deferred d)) (hc : w.cell? ⟨k, i, none⟩ = some v) : False := by
  simp [World.cell?, h] at hc
theorem rawC_snoc (l : List St) (s : St) : rawC (l ++ [s]) = rawC l ++ [(s.1, s.2.2)] := by unfold rawC; rw [List.map_append]; rfl
theorem rawC_len (l : List St) : (rawC l).length = l.length := by unfold rawC; rw [List.length_map]
/-- Between two rounds. -/
def CutI (w : World) (p : Nat) (pre : List St) (g : Option (Nat × Nat)) (W : World) : Prop :=
  ∃ (v : Value) (β : Nat), Blk W p #[v] 22 ∧ Below w.heap.size w W ∧ W.ownsRow β 105 3 v pre.length (cellsOfS (rawC pre)) ∧ p < β ∧ β ≤ W.heap.size ∧ ((g = none ∧ v = .slice none 0 0) ∨ ∃ k, g = some (β, k) ∧ v.ownBlock = some k)
theorem cutI_keep {w : World} {p : Nat} {pre : List St} {g : Option (Nat × Nat)} {A B : World} {n : Nat} (hp : p < n) (hn : w.heap.size ≤ n) (h : CutI w p pre g A) (hb : Below n A B) (hk : ∀ b k, g = some (b, k) → B.heap[k]? = A.heap[k]?) : CutI w p pre g B := by
  obtain ⟨v, β, h1, h2, h3, h4, h5, h6⟩ := h
  refine ⟨v, β, h1.below hb hp, h2.trans (hb.mono hn), own_kept h3 (fun k e => ?_), h4, Nat.le_trans h5 hb.size, h6⟩
  rcases h6 with ⟨_, q⟩ | ⟨k', q, q2⟩
  · rw [q] at e; simp [Value.ownBlock] at e
  · rw [q2] at e; cases e; exact hk _ _ q
theorem cutI_own {w : World} {p : Nat} {pre : List St} {g : Option (Nat × Nat)} {A : World} (h : CutI w p pre g A) : ∀ b k, g = some (b, k) → b ≤ k ∧ k < A.heap.size := by
  obtain ⟨v, β, h1, h2, h3, h4, h5, h6⟩ := h
  rintro b k e
  rcases h6 with ⟨q, _⟩ | ⟨k', q, q2⟩
  · rw [q] at e; cases e
  · rw [q] at e; cases e
    exact ⟨own_block h3 q2, own_lt h3 q2⟩
/-- From where on what is appended may lie. -/
theorem cutI_base {w : World} {p : Nat} {pre : List St} {g : Option (Nat × Nat)} {A : World} (hz : p < A.heap.size) (h : CutI w p pre g A) : ∃ (av : Option Addr) (cap γ : Nat), Blk A p #[.slice av pre.length cap] 22 ∧ Below w.heap.size w A ∧ A.ownsRow γ 105 3 (.slice av pre.length cap) pre.length (cellsOfS (rawC pre)) ∧ p < γ ∧ γ ≤ A.heap.size ∧
    (∀ k, (Value.slice av pre.length cap).ownBlock = some k → g = some (γ, k) ∧ γ ≤ k) ∧ (A.heap.size ≤ γ ∨ ∃ j, g = some (γ, j)) := by
  obtain ⟨v, β, h1, h2, h3, h4, h5, h6⟩ := h
  obtain ⟨a, cap, rfl⟩ := own_sli h3
  rcases h6 with ⟨q, e⟩ | ⟨k', q, q2⟩
  · have hx : A.ownsRow A.heap.size 105 3 (.slice a pre.length cap) pre.length (cellsOfS (rawC pre)) := by
      obtain ⟨q1, q2 | ⟨g', cap', cur, q3, _⟩⟩ := h3
      · exact ⟨q1, .inl q2⟩
      · rw [q3] at e; cases e
    refine ⟨a, cap, A.heap.size, h1, h2, hx, hz, Nat.le_refl _, fun k hk => ?_, .inl (Nat.le_refl _)⟩
    rw [e] at hk; simp [Value.ownBlock] at hk
  · exact ⟨a, cap, β, h1, h2, h3, h4, h5, fun k hk => ⟨by rw [q2] at hk; cases hk; exact q, own_block h3 hk⟩, .inr ⟨k', q⟩⟩

end Go.Proofs.YtjhhcljbmnomlaaGreat

namespace Go.Proofs.YtjhhcljbmnomlaaGreat
open Go.ChangeShapes Go.WideShapes Go.ChangeAt Go.RowKit Go.Shelf
attribute [local irreducible] Go.Calls
attribute [local go_sem] Oper.semAt_some

set_option maxRecDepth 100000 in
set_option maxHeartbeats 2000000 in
theorem cut_c (F : List Sg) (x y : Int) (a : Option Addr) (cap : Nat) (w : World) (hl : F.length ≤ 999999990) (hA : ArgS w a F) :
    Calls Tryz.prog 172 #[.slice a F.length cap, .int .i64 x, .int .i64 y] w (OfIs w (cutS F x y).1 (cutS F x y).2) := by
  have HA := hidE hA
  have HV := hidE (fun w hA => pmay_c F a cap w (by omega) hA)
  cases h1 : mayB F
  · rw [cutS_form h1]
    rw [h1] at HV
    clear h1 hA
    go_enter Tryz.func172, Tryz.ntmps172
    go_wp2_with fail
    ((with_reducible refine (HV.out _ HA.out).mono ?_); rintro e w1 ⟨rfl, hb1⟩)
    go_wp2
    go_ret2
    exact ⟨_, rfl, sliS_nil _, hb1⟩
  rw [h1] at HV
  by_cases h2 : y < x
  · rw [cutS_arg h1 h2]
    have hd : decide (y < x) = true := decide_eq_true h2
    clear h1 hA h2
    go_enter Tryz.func172, Tryz.ntmps172
    go_wp2_with fail
    ((with_reducible refine (HV.out _ HA.out).mono ?_); rintro e w1 ⟨rfl, hb1⟩)
    go_wp2
    go_ret2
    exact ⟨_, rfl, sliS_nil _, hb1⟩
  have hd : decide (y < x) = false := decide_eq_false h2
  have HSEQ := hidE (fun w' hb => strO_c F x y a cap w w' (by omega) hA hb)
  have HLEN := hidE (strG_len y F x (0, 0))
  have HC := hidE (mayB_iff.1 h1)
  have HM := hidE h1
  have H2 := hidE h2
  clear h1 hA h2
  refine (callsIn_wide (n := 0)).1 (callsIn_of_wp_marks Tryz.func172 rfl trivial ((wpIn_wide (n := 0)).2 ?_))
  simp only [Tryz.ntmps172, List.size_toArray, List.length_cons, List.length_nil, Nat.reduceAdd, Nat.reduceSub, Array.replicate_succ, Array.replicate_zero, List.push_toArray, List.append_toArray, List.nil_append, List.cons_append]
  go_wp2_with fail
  ((with_reducible refine (HV.out _ HA.out).mono ?_); rintro e w1 ⟨rfl, hb1⟩)
  go_wp2
  obtain ⟨p, hp⟩ : ∃ p, p = w1.heap.size := ⟨_, rfl⟩
  obtain ⟨w2, hw2⟩ : ∃ w2, w2 = w1.alloc (Obj.cells #[.slice none 0 0] 22) := ⟨_, rfl⟩
  have hz2 : w2.heap.size = p + 1 := by rw [hw2, hp]; simp
  have hb2 : Below w.heap.size w w2 := by rw [hw2]; (repeat (first | exact Below.refl _ _ | assumption | refine balloc ?_ _ | refine below_drewN ?_ _ | refine bstep (by assumption) ?_ | refine bstep (Past.prop _) ?_ | refine Below.setCell ?_ (by first | exact Nat.le_refl _ | (simp; done) | (simp; omega)) _))
  have hB2 : Blk w2 p #[.slice none 0 0] 22 := by rw [hw2, hp]; exact Blk.made _ _ _
  have hwp : w.heap.size ≤ p := by rw [hp]; exact hb1.size
  rw [← hw2]
  subst hp
  clear hw2 hb1 hd
  have hI0 : CutI w w1.heap.size [] none w2 := ⟨.slice none 0 0, w1.heap.size + 1, hB2, hb2, own_nil _ _ _, by omega, by omega, .inl ⟨rfl, rfl⟩⟩
  refine wp_rangeFunc_O (n₀ := w.heap.size) (S := strL F x y) rfl (enters_of Tryz.func210 (by kernel_rfl) rfl) hb2.size (HSEQ.out _ hb2) (fun _ => rfl)
    (CutI w w1.heap.size) (fun s g A B h hb hk => cutI_keep (n := w2.heap.size) (by omega) (by omega) h hb hk) (fun s g A h => cutI_own h) hI0
    (fun s a1 W => ∃ (Bx : Nat) (u0 u1 u2 u3 u4 u5 u6 u7 u10 u11 u12 u13 u14 u15 u16 u17 u18 u19 u20 u21 u22 u23 u24 u25 u26 u27 u28 u29 u30 u31 u32 u33 u34 u35 u36 u37 : Value), w2.heap.size ≤ Bx ∧ Blk W Bx #[.int .i64 s.1, .int .i64 s.2.1, .int .i64 s.2.2.1, .int .i64 s.2.2.2] 276 ∧ a1 = { tmps := #[u0, u1, u2, u3, u4, u5, u6, u7, .pointer (some ⟨w1.heap.size, 0, none⟩), .pointer (some ⟨Bx, 0, none⟩), u10, u11, u12, u13, u14, u15, u16, u17, u18, u19, u20, u21, u22, u23, u24, u25, u26, u27, u28, u29, u30, u31, u32, u33, u34, u35, u36, u37], defers := [] })
    ?hax ?assign ?body ?done
  case hax =>
    rintro s a1 A l r o ⟨Bx, u0, u1, u2, u3, u4, u5, u6, u7, u10, u11, u12, u13, u14, u15, u16, u17, u18, u19, u20, u21, u22, u23, u24, u25, u26, u27, u28, u29, u30, u31, u32, u33, u34, u35, u36, u37, h1, h2, h3⟩ hlr
    exact ⟨Bx, _, _, _, _, _, _, _, _, _, _, _, _, _, _, _, _, _, _, _, _, _, _, _, _, _, _, _, _, _, _, _, _, _, _, _, _, h1, (World.putObj_heap_other (fun e => by subst e; rw [show A.heap[Bx]? = _ from h2] at hlr; cases hlr)).trans h2, h3⟩
  case assign =>
    intro l pre s g W K hsz hi hK
    have hown := cutI_own hi
    dsimp only [encS]
    gi_wp2
    refine hK _ _ ((Below.refl _ _).alloc (Nat.le_refl _) _) (cutI_keep (n := W.heap.size) (by omega) (by omega) hi ((Below.refl _ _).alloc (Nat.le_refl _) _) (fun b k e => keptA (hown b k e).2 _)) ⟨W.heap.size, _, _, _, _, _, _, _, _, _, _, _, _, _, _, _, _, _, _, _, _, _, _, _, _, _, _, _, _, _, _, _, _, _, _, _, _, by omega, Blk.made _ _ _, rfl⟩
  case body =>
    rintro l pre s g a1 W hsz hi ⟨Bx, u0, u1, u2, u3, u4, u5, u6, u7, u10, u11, u12, u13, u14, u15, u16, u17, u18, u19, u20, u21, u22, u23, u24, u25, u26, u27, u28, u29, u30, u31, u32, u33, u34, u35, u36, u37, hBx, bX, rfl⟩ hpre
    obtain ⟨av, cp, γ, i1, i2, i3, i4, i5, i6, i7⟩ := cutI_base (by omega) hi
    have hlt : pre.length ≤ F.length + 1 := by
      have h1 := hpre.length_le
      simp only [List.length_append, List.length_cons, List.length_nil] at h1
      have h2 := HLEN.out
      unfold strL at h1
      omega
    have y0 := bX.cell 0; have y1 := bX.cell 1; have y2 := bX.cell 2; have y3 := bX.cell 3; have yz := bX.lt
    have t0 := i1.cell 0; have t1 := i1.lt; have tf := i1.free
    simp at y0 y1 y2 y3 t0
    obtain ⟨ix, hix, hz0, hzz, hz4⟩ := info_parts Tryz.infoSeg
    have HI := hidE hix; have HZ0 := hidE hz0; have HZ1 := hidE hzz; have HZ2 := hidE hz4
    have I1 := hidE i1; have I2 := hidE i2; have I3 := hidE i3; have I6 := hidE i6; have I7 := hidE i7; have BX := hidE bX
    clear hI0 HSEQ hi hix hz0 hzz hz4 i1 i2 i3 i6 i7 bX hpre
    gi_wp2_with (gi_at_builtin; refine wpListIn_append_own _ rfl (.tmp 22) (.tmp 28) 22 rfl γ 105 ix (.agg #[.int .i64 0, .int .i64 0, .int .i64 0]) 3 24 Tryz.underlying22 HI.out HZ0.out HZ1.out HZ2.out rfl (by decide) _ _ _ rfl (own_kept I3.out (fun k e => keptA (own_lt I3.out e) _)) ⟨_, 0, none⟩ 1 1 [.int .i64 s.1, .int .i64 s.2.2.1, .int .i64 s.2.2.2] rfl rfl (sfresh_at _ #[.int .i64 s.1, .int .i64 s.2.2.1, .int .i64 s.2.2.2] 105 _ (by simp)) (by intro y hy; simp at hy; rcases hy with rfl | rfl | rfl <;> rfl) (by unfold maxLen; omega) (by omega) (by simp; omega) ?_; intro v4 w4 hown4 hgrow4 hnil4; obtain ⟨a4, c4, rfl⟩ := own_sli hown4; have HG4 := hidE hgrow4; have HO4 := hidE hown4; have HN4 := hidE hnil4; have BP4 : Blk w4 w1.heap.size #[.slice av pre.length cp] 22 := (I1.out.alloc _).grown HG4.out (fun e => by have := (I6.out _ e.symm).2; omega); have g4 := BP4.cell 0; have g5 := BP4.free; have g6 := BP4.lt; simp at g4; have HB4 := hidE BP4; clear hgrow4 hown4 hnil4 BP4 y0 y1 y2 y3 yz t0 t1 tf)
    have hv4 : (Value.slice a4 (pre.length + 1) c4) ≠ .slice none 0 0 := fun e => by have := (HN4.out.1 e).2; omega
    obtain ⟨k4, hk4⟩ := own_has HO4.out hv4
    have hown : (w4.setCell ⟨w1.heap.size, 0, none⟩ (Value.slice a4 (pre.length + 1) c4)).ownsRow γ 105 3 (Value.slice a4 (pre.length + 1) c4) (pre ++ [s]).length (cellsOfS (rawC (pre ++ [s]))) := by
      rw [rawC_snoc, cellsOfS_app, List.length_append]
      exact own_kept HO4.out (fun k e => keptS (by have := own_block HO4.out e; omega) _)
    have hz4 : W.heap.size ≤ w4.heap.size := by have := HG4.out.size; simp at this; omega
    have hb4 : Below w.heap.size W (w4.setCell ⟨w1.heap.size, 0, none⟩ (Value.slice a4 (pre.length + 1) c4)) :=
      (Below.grown ((Below.refl _ W).alloc (by omega) _) HG4.out (by simp; omega) (fun k e => by have := (I6.out k e).2; omega)).setCell (p := ⟨w1.heap.size, 0, none⟩) (by simp; omega) _
    refine ⟨some (γ, k4), ⟨(Value.slice a4 (pre.length + 1) c4), γ, by simpa using HB4.out.set 0 (Value.slice a4 (pre.length + 1) c4), I2.out.trans hb4, hown, i4, by simp [World.setCell]; omega, .inr ⟨k4, rfl, hk4⟩⟩, hb4, fun k e1 e2 e3 => ?_, fun b k e => ?_⟩
    · refine (keptS (by omega) _).trans ((HG4.out.block k (by simp; omega) (fun e => ?_)).trans (keptA e2 _))
      exact e3 _ (I6.out k e.symm).1
    · cases e; exact I7.out
  case done =>
    rintro D g W hD hi hgd hK
    obtain rfl : D = w1.heap.size + 1 := hD.trans hz2
    have hDz : (w1.heap.size + 1) < W.heap.size := (Array.getElem?_eq_some_iff.1 hK).1
    have hpD : w1.heap.size < w1.heap.size + 1 := by omega
    obtain ⟨av, cp, γ, i1, i2, i3, i4, i5, i6, i7⟩ := cutI_base (by omega) hi
    have hgD : ∀ k, (Value.slice av (strL F x y).length cp).ownBlock = some k → (w1.heap.size + 1) + 2 ≤ k := fun k e => by
      obtain ⟨q1, q2⟩ := i6 k e
      have := hgd _ _ q1
      omega
    have t0 := i1.cell 0; have t1 := i1.lt; have tf := i1.free
    simp at t0
    have hlt : (strL F x y).length ≤ F.length + 1 := HLEN.out
    obtain ⟨ix, hix, hz0, hzz, hz4⟩ := info_parts Tryz.infoSeg
    have HI := hidE hix; have HZ0 := hidE hz0; have HZ1 := hidE hzz; have HZ2 := hidE hz4
    have I1 := hidE i1; have I2 := hidE i2; have I3 := hidE i3; have I6 := hidE i6; have HGD := hidE hgD; have HKD := hidE hK
    clear hI0 HSEQ hi hix hz0 hzz hz4 i1 i2 i3 i6 i7 hgd hK hgD hB2 hD hz2
    go_wp2_with (first | (at_builtin; refine wpList_append_own _ rfl (.tmp 30) (.tmp 33) 22 rfl γ 105 ix (.agg #[.int .i64 0, .int .i64 0, .int .i64 0]) 3 24 Tryz.underlying22 HI.out HZ0.out HZ1.out HZ2.out rfl (by decide) _ _ _ rfl (own_kept I3.out (fun k e => keptA (own_lt I3.out e) _)) ⟨_, 0, none⟩ 1 1 [.int .i64 y, .int .i64 0, .int .i64 0] rfl rfl (sfresh_at _ #[.int .i64 y, .int .i64 0, .int .i64 0] 105 _ (by simp)) (by intro y hy; simp at hy; rcases hy with rfl | rfl | rfl <;> rfl) (by unfold maxLen; omega) (by omega) (by simp; omega) ?_; intro v4 w4 hown4 hgrow4 hnil4; obtain ⟨a4, c4, rfl⟩ := own_sli hown4; have HG4 := hidE hgrow4; have HO4 := hidE hown4; clear hgrow4 hown4 hnil4) | fail)
    have hR : cellsOfS (rawC (strL F x y)) ++ [.int .i64 y, .int .i64 0, .int .i64 0] = cellsOfS (cutR F x y) := by unfold cutR; rw [cellsOfS_app]; rfl
    have hRl : (cutR F x y).length = (strL F x y).length + 1 := by unfold cutR; rw [List.length_append, rawC_len]; rfl
    have hO := HO4.out
    rw [hR, ← hRl] at hO
    obtain ⟨aR, cR, eR, _, _, hAR⟩ := sliS_own hO
    rw [hRl] at eR
    cases eR
    have hOF := of_c (cutR F x y) a4 c4 w4 (by rw [hRl]; omega) hAR
    rw [hRl] at hOF
    ((with_reducible refine hOF.mono ?_); rintro e w5 ⟨v5, f5, er, rfl, hs5, hcase, hb5⟩)
    have hz4 : W.heap.size ≤ w4.heap.size := by have := HG4.out.size; simp at this; omega
    have hK4 : w4.heap[(w1.heap.size + 1)]? = some (.deferred (some [])) := (HG4.out.block (w1.heap.size + 1) (by simp; omega) (fun e => by have := HGD.out _ e.symm; omega)).trans ((keptA hDz _).trans HKD.out)
    have hK5 : w5.heap[(w1.heap.size + 1)]? = some (.deferred (some [])) := (hb5.block (w1.heap.size + 1) (by omega)).trans hK4
    have hb4 : Below w.heap.size w w4 := I2.out.trans (Below.grown ((Below.refl _ W).alloc (by have := I2.out.size; omega) _) HG4.out (by have := I2.out.size; simp; omega) (fun k e => by have := (I6.out k e).2; have := I2.out.size; omega))
    obtain ⟨a5, c5, rfl, h51, h52, h53⟩ := hs5
    have HS5 := hidE (And.intro h51 (And.intro h52 h53)); have HK5 := hidE hK5; have HC5 := hidE hcase
    have HB5 := hidE (hb4.trans (hb5.mono hb4.size))
    clear hb4 hK4 hb5 hcase h51 h52 h53 hK5 hOF hO hR hRl hAR t0 t1 tf
    go_wp2
    refine ⟨by simp, .inl ⟨_, _, rfl, run_takeDeferred HK5.out, ?_⟩⟩
    refine ⟨.tuple #[.slice a5 f5.length c5, .int .i64 er], by simp [results, Tryz.results172, go_sem], ?_⟩
    obtain ⟨h51, h52, h53⟩ := HS5.out
    have hxy : x ≤ y := by have := H2.out; omega
    have hSL : ∀ G : List Sg, f5 = G → SliS (w5.putObj (w1.heap.size + 1) (.deferred none)) (.slice a5 f5.length c5) G := fun G e => by
      subst e
      refine ⟨a5, c5, rfl, h51, h52, sargS_turn h53 (by simp) (fun k i v hc => World.putObj_heap_other (fun e => ?_))⟩
      subst e
      exact sno_cell HK5.out hc
    have hBF : Below w.heap.size w (w5.putObj (w1.heap.size + 1) (.deferred none)) := HB5.out.trans (below_putObj _ _ _ (by omega))
    cases hf : farS4 x y
    · rw [cutS_far HM.out (by have := H2.out; omega) hf]
      rcases HC5.out with ⟨q1, _, _⟩ | ⟨_, q2, q3⟩
      · rw [cutR_ok HC.out hxy, hf] at q1; cases q1
      · rw [q2]; exact ⟨_, rfl, hSL _ q3, hBF⟩
    · rw [cutS_ok HM.out (by have := H2.out; omega) hf]
      rcases HC5.out with ⟨_, q2, q3⟩ | ⟨q1, _, _⟩
      · rw [q2]; exact ⟨_, rfl, hSL _ (cutR_of HC.out hxy hf q3), hBF⟩
      · rw [cutR_ok HC.out hxy, hf] at q1; cases q1
end Go.Proofs.YtjhhcljbmnomlaaGreat

namespace Go.Proofs.YtjhhcljbmnomlaaGreat
open Go.ChangeShapes Go.WideShapes Go.ChangeAt Go.RowKit
attribute [local irreducible] Go.Calls

/-- A function's tail is handed back. -/
def SinR (F : List Sg) (x : Int) (w : World) (e : Ending) (w' : World) : Prop := ∃ (a : Option Addr) (n cap : Nat) (r : List Sg), e = .returned (.slice a n cap) ∧ SliS w' (.slice a n cap) r ∧ SinceIs F x r ∧ Below w.heap.size w w'
theorem since_c (F : List Sg) (x : Int) (a : Option Addr) (cap : Nat) (w : World) (hF : F.length ≤ cap) (hc : cap ≤ 9223372036854775807) (hl : F.length ≤ 10000000) (hA : ArgS w a F) (hm : mayB F = true) (hx : nowB x = true) :
    Calls Tryz.prog 128 #[.slice a F.length cap, .int .i64 x] w (SinR F x w) := by
  obtain ⟨e1, e2, r, e3, hr⟩ := since_spec hm hx
  have HC := hidE (fun w hA => cut_c F (-1125899906842624) x a cap w (by omega) hA)
  have HS := hidE (fun a2 c2 w (h1 : (cutL F (-1125899906842624) x).length ≤ c2) (h2 : c2 ≤ 9223372036854775807) hA hA2 => csub_c F (cutL F (-1125899906842624) x) a a2 cap c2 w hF hc h1 h2 (by omega) hA hA2)
  rw [e1] at HC
  rw [e3] at HS
  have HA := hidE hA; have HR := hidE hr
  clear hA e1 e2 e3 hr
  generalize cutL F (-1125899906842624) x = G at *
  go_enter Tryz.func128, Tryz.ntmps128
  go_wp2_with fail
  ((with_reducible refine (HC.out _ HA.out).mono ?_); rintro e w1 ⟨v1, rfl, hv1, hb1⟩)
  obtain ⟨a2, c2, rfl, g1, g2, hA2⟩ := hv1
  have HK := hidE (HS.out a2 c2 w1 g1 g2 (HA.out.past hb1) hA2)
  have HB := hidE hb1
  clear hb1 hA2 g1 g2
  go_wp2_with fail
  ((with_reducible refine (HK.out).mono ?_); rintro e w2 ⟨v2, rfl, hv2, hb2⟩)
  obtain ⟨a3, c3, rfl, g3, g4, hA3⟩ := hv2
  have HV := hidE (show SliS w2 (.slice a3 r.length c3) r from ⟨a3, c3, rfl, g3, g4, hA3⟩)
  have HB2 := hidE (bstep hb2 HB.out)
  clear g3 g4 hA3 hb2
  go_wp2
  go_ret
  exact ⟨_, _, _, r, rfl, HV.out, HR.out, HB2.out⟩
/-- For what the free function is asked. -/
abbrev QV (a1 a2 a3 : Option Addr) (n1 c1 n2 c2 n3 c3 : Nat) (x : Int) : Value := .agg #[.slice a1 n1 c1, .slice a2 n2 c2, .slice a3 n3 c3, .int .i64 x]
/-- The function that is one vector from a time on is handed back. -/
def ConR (x : Int) (v : Int × Int) (w : World) (e : Ending) (w' : World) : Prop := ∃ (a : Option Addr) (n cap : Nat) (f : List Sg) (er : Int), e = .returned (.tuple #[.slice a n cap, .int .i64 er]) ∧ SliS w' (.slice a n cap) f ∧ ((okV v.1 v.2 = true ∧ er = 0 ∧ ConIs x v f) ∨ (okV v.1 v.2 = false ∧ er = 10 ∧ f = [])) ∧ Below w.heap.size w w'
theorem const_c (a1 a2 a3 : Option Addr) (n1 c1 n2 c2 n3 c3 : Nat) (x m c : Int) (w : World) (hx : nowB x = true) :
    Calls Tryz.prog 213 #[QV a1 a2 a3 n1 c1 n2 c2 n3 c3 x, V m c] w (ConR x (m, c) w) := by
  have HK : ∀ w1 p, Blk w1 p #[.int .i64 x, .int .i64 m, .int .i64 c] 105 → Calls Tryz.prog 182 #[.slice (some ⟨p, 0, none⟩) 1 1] w1 (ConR x (m, c) w1) := fun w1 p hB =>
    (of_c [(x, (m, c))] (some ⟨p, 0, none⟩) 1 w1 (by simp) (argS_blk (t := 105) hB)).mono fun e w' ⟨v, f, er, h1, h2, h3, h4⟩ => by
      obtain ⟨a', c', rfl, g1, g2, g3⟩ := h2
      have hx' := nowB_iff.1 hx
      have hT : okT x = true := okT_iff.2 (by omega)
      refine ⟨a', f.length, c', f, er, h1, ⟨a', c', rfl, g1, g2, g3⟩, ?_, h4⟩
      rcases h3 with ⟨q1, q2, q3⟩ | ⟨q1, q2, q3⟩
      · refine .inl ⟨?_, q2, con_of q3⟩
        simpa [okS, hT] using q1
      · refine .inr ⟨?_, q2, q3⟩
        simpa [okS, hT] using q1
  have HKK := hidE HK
  clear HK hx
  go_enter Tryz.func213, Tryz.ntmps213
  go_wp2_with fail
  ((with_reducible refine (HKK.out _ _ (Blk.made_at _ _ _ _ (by simp))).mono ?_); rintro e w1 ⟨a4, n4, c4, f, er, rfl, hv, hd, hb⟩)
  have HV := hidE hv; have HD := hidE hd; have HB := hidE (show Below w.heap.size w w1 by (repeat (first | exact Below.refl _ _ | assumption | refine balloc ?_ _ | refine below_drewN ?_ _ | refine bstep (by assumption) ?_ | refine bstep (Past.prop _) ?_ | refine Below.setCell ?_ (by first | exact Nat.le_refl _ | (simp; done) | (simp; omega)) _)))
  clear hv hd hb
  go_wp2
  go_ret2
  exact ⟨_, _, _, f, er, rfl, HV.out, HD.out, HB.out⟩
/-- A bound is handed back. -/
def BdR (C L O : List Sg) (x : Int) (b : Bd) (w : World) (e : Ending) (w' : World) : Prop := ∃ (a : Option Addr) (n cap : Nat) (f : List Sg) (er : Int), e = .returned (.tuple #[.slice a n cap, .int .i64 er]) ∧ SliS w' (.slice a n cap) f ∧ BdIs C L O x b f er ∧ Below w.heap.size w w'
section
variable {C L O : List Sg} {x : Int} {a1 a2 a3 : Option Addr} {n1 c1 n2 c2 n3 c3 : Nat} {w : World}
theorem bmost_c (hx : nowB x = true) : Calls Tryz.prog 174 #[QV a1 a2 a3 n1 c1 n2 c2 n3 c3 x] w (BdR C L O x .most w) := by
  have HC := hidE (fun w => const_c a1 a2 a3 n1 c1 n2 c2 n3 c3 x 1125899906842624 1125899906842624 w hx)
  clear hx
  go_enter Tryz.func174, Tryz.ntmps174
  go_wp2_with fail
  ((with_reducible refine (HC.out _).mono ?_); rintro e w1 ⟨a4, n4, c4, f, er, rfl, hv, hd, hb⟩)
  have HV := hidE hv; have HD := hidE hd; have HB := hidE (show Below w.heap.size w w1 by (repeat (first | exact Below.refl _ _ | assumption | refine balloc ?_ _ | refine below_drewN ?_ _ | refine bstep (by assumption) ?_ | refine bstep (Past.prop _) ?_ | refine Below.setCell ?_ (by first | exact Nat.le_refl _ | (simp; done) | (simp; omega)) _)))
  clear hv hd hb
  go_wp2
  go_ret2
  refine ⟨_, _, _, f, er, rfl, HV.out, ?_, HB.out⟩
  rcases HD.out with ⟨_, rfl, h⟩ | ⟨h, _⟩
  · exact bd_most h
  · exact absurd h (by decide)
theorem brest_c (h1 : SliS w (.slice a1 n1 c1) C) (h2 : SliS w (.slice a2 n2 c2) L) (hC : mayB C = true) (hL : mayB L = true) (hl : n1 + n2 ≤ 100000000) :
    Calls Tryz.prog 176 #[QV a1 a2 a3 n1 c1 n2 c2 n3 c3 x] w (BdR C L O x .rest w) := by
  obtain ⟨a1', c1', e, g1, g2, g3⟩ := h1
  cases e
  obtain ⟨a2', c2', e, g4, g5, g6⟩ := h2
  cases e
  obtain ⟨⟨r, er⟩, hr⟩ : ∃ r, doS 1 C L = r := ⟨_, rfl⟩
  have HS := hidE (fun w hA hA2 => csub_c C L a1 a2 c1 c2 w g1 g2 g4 g5 (by omega) hA hA2)
  rw [hr] at HS
  have HB0 := hidE (bd_rest (O := O) (x := x) hC hL hr)
  have H1 := hidE g3; have H2 := hidE g6
  clear hr g1 g2 g3 g4 g5 g6
  go_enter Tryz.func176, Tryz.ntmps176
  go_wp2_with fail
  ((with_reducible refine (HS.out _ (H1.out.past (by (repeat (first | exact Below.refl _ _ | assumption | refine balloc ?_ _ | refine below_drewN ?_ _ | refine bstep (by assumption) ?_ | refine bstep (Past.prop _) ?_ | refine Below.setCell ?_ (by first | exact Nat.le_refl _ | (simp; done) | (simp; omega)) _)))) (H2.out.past (by (repeat (first | exact Below.refl _ _ | assumption | refine balloc ?_ _ | refine below_drewN ?_ _ | refine bstep (by assumption) ?_ | refine bstep (Past.prop _) ?_ | refine Below.setCell ?_ (by first | exact Nat.le_refl _ | (simp; done) | (simp; omega)) _))))).mono ?_); rintro e w1 ⟨v1, rfl, hv, hb⟩)
  obtain ⟨a4, c4, rfl, g7, g8, g9⟩ := hv
  have HV := hidE (show SliS w1 (.slice a4 r.length c4) r from ⟨a4, c4, rfl, g7, g8, g9⟩); have HB := hidE (show Below w.heap.size w w1 by (repeat (first | exact Below.refl _ _ | assumption | refine balloc ?_ _ | refine below_drewN ?_ _ | refine bstep (by assumption) ?_ | refine bstep (Past.prop _) ?_ | refine Below.setCell ?_ (by first | exact Nat.le_refl _ | (simp; done) | (simp; omega)) _)))
  clear hb g7 g8 g9
  go_wp2
  go_ret2
  exact ⟨_, _, _, r, er, rfl, HV.out, HB0.out, HB.out⟩
theorem bbelow_c {m c : Int} (h3 : SliS w (.slice a3 n3 c3) O) (hO : mayB O = true) (hl : n3 ≤ 100000000) (hx : nowB x = true) :
    Calls Tryz.prog 179 #[QV a1 a2 a3 n1 c1 n2 c2 n3 c3 x, V m c] w (BdR C L O x (.lim (m, c)) w) := by
  obtain ⟨a3', c3', e, g1, g2, g3⟩ := h3
  cases e
  have HC := hidE (fun w => const_c a1 a2 a3 n1 c1 n2 c2 O.length c3 x m c w hx)
  have H3 := hidE g3; have HG := hidE (show O.length ≤ c3 ∧ c3 ≤ 9223372036854775807 ∧ O.length ≤ 100000000 from ⟨g1, g2, hl⟩)
  clear hx g1 g2 g3
  go_enter Tryz.func179, Tryz.ntmps179
  go_wp2_with fail
  ((with_reducible refine (HC.out _).mono ?_); rintro e w1 ⟨a4, n4, c4, f, er, rfl, hv, hd, hb⟩)
  have hB : Below w.heap.size w w1 := by (repeat (first | exact Below.refl _ _ | assumption | refine balloc ?_ _ | refine below_drewN ?_ _ | refine bstep (by assumption) ?_ | refine bstep (Past.prop _) ?_ | refine Below.setCell ?_ (by first | exact Nat.le_refl _ | (simp; done) | (simp; omega)) _))
  rcases hd with ⟨hv1, rfl, hf⟩ | ⟨hv1, rfl, rfl⟩
  · obtain ⟨a4', c4', e, g1, g2, g4⟩ := hv
    cases e
    obtain ⟨⟨r, er⟩, hr⟩ : ∃ r, doS 1 f O = r := ⟨_, rfl⟩
    have HS := hidE (fun w hA hA2 => csub_c f O a4 a3 c4 c3 w g1 g2 HG.out.1 HG.out.2.1 (by have := HG.out; have := hf.2.1; omega) hA hA2)
    rw [hr] at HS
    have HB0 := hidE (bd_lim (C := C) (L := L) hv1 hO hf hr)
    have H4 := hidE g4
    have B0 : Blk w1 w.heap.size #[.slice a1 n1 c1, .slice a2 n2 c2, .slice a3 O.length c3, .int .i64 x] 200 := ((Blk.made w #[.slice a1 n1 c1, .slice a2 n2 c2, .slice a3 O.length c3, .int .i64 x] 200).alloc _).past hb
    have b2 := B0.cell 2; have bz := B0.lt
    simp at b2
    have HB := hidE hB
    clear hr g1 g2 g4 hb hB B0 hf hv1
    go_wp2_with fail
    ((with_reducible refine (HS.out _ (H4.out) (H3.out.past HB.out)).mono ?_); rintro e w2 ⟨v2, rfl, hv2, hb2⟩)
    obtain ⟨a5, c5, rfl, g7, g8, g9⟩ := hv2
    have HV := hidE (show SliS w2 (.slice a5 r.length c5) r from ⟨a5, c5, rfl, g7, g8, g9⟩); have HB2 := hidE (bstep hb2 HB.out)
    clear hb2 g7 g8 g9 b2 bz
    go_wp2
    go_ret2
    exact ⟨_, _, _, r, er, rfl, HV.out, HB0.out, HB2.out⟩
  · have HV1 := hidE hv1; have HB := hidE hB
    clear hv1 hB hb hv
    go_wp2
    go_ret2
    exact ⟨_, _, _, [], 10, rfl, sliS_nil _, bd_limbad HV1.out, HB.out⟩
theorem blim_c {m c : Int} {p : Nat} (h3 : SliS w (.slice a3 n3 c3) O) (hO : mayB O = true) (hl : n3 ≤ 100000000) (hx : nowB x = true) (hp : Blk w p #[.int .i64 m, .int .i64 c] 65) :
    Calls Tryz.prog 178 #[QV a1 a2 a3 n1 c1 n2 c2 n3 c3 x, .pointer (some ⟨p, 0, none⟩)] w (BdR C L O x (.lim (m, c)) w) := by
  have HC := hidE (fun w h3 => bbelow_c (C := C) (L := L) (O := O) (x := x) (a1 := a1) (a2 := a2) (a3 := a3) (n1 := n1) (c1 := c1) (n2 := n2) (c2 := c2) (n3 := n3) (c3 := c3) (w := w) (m := m) (c := c) h3 hO hl hx)
  have H3 := hidE h3
  have p0 := hp.cell 0; have p1 := hp.cell 1; have pz := hp.lt
  simp at p0 p1
  clear h3 hO hl hx hp
  go_enter Tryz.func178, Tryz.ntmps178
  go_wp2_with fail
  ((with_reducible refine (HC.out _ (H3.out.past (by (repeat (first | exact Below.refl _ _ | assumption | refine balloc ?_ _ | refine below_drewN ?_ _ | refine bstep (by assumption) ?_ | refine bstep (Past.prop _) ?_ | refine Below.setCell ?_ (by first | exact Nat.le_refl _ | (simp; done) | (simp; omega)) _))))).mono ?_); rintro e w1 ⟨a4, n4, c4, f, er, rfl, hv, hd, hb⟩)
  have HV := hidE hv; have HD := hidE hd; have HB := hidE (show Below w.heap.size w w1 by (repeat (first | exact Below.refl _ _ | assumption | refine balloc ?_ _ | refine below_drewN ?_ _ | refine bstep (by assumption) ?_ | refine bstep (Past.prop _) ?_ | refine Below.setCell ?_ (by first | exact Nat.le_refl _ | (simp; done) | (simp; omega)) _)))
  clear hv hd hb p0 p1 pz
  go_wp2
  go_ret2
  exact ⟨_, _, _, f, er, rfl, HV.out, HD.out, HB.out⟩
end
end Go.Proofs.YtjhhcljbmnomlaaGreat

namespace Go.Proofs.YtjhhcljbmnomlaaGreat
open Go.ChangeShapes Go.WideShapes Go.ChangeAt Go.RowKit
attribute [local irreducible] Go.Calls

def kindB (p : Pol) : Bool := decide (2 < p.1)
theorem kd_cl (p : Pol) (w : World) : Calls Tryz.prog 126 #[PV p] w fun e w' => e = .returned (.bool (kindB p)) ∧ Below w.heap.size w w' := by
  obtain ⟨k, ⟨m, c⟩, n⟩ := p
  go_enter Tryz.func126, Tryz.ntmps126
  go_wp2
  go_ret
  exact ⟨rfl, by (repeat (first | exact Below.refl _ _ | assumption | refine balloc ?_ _ | refine below_drewN ?_ _ | refine bstep (by assumption) ?_ | refine bstep (Past.prop _) ?_ | refine Below.setCell ?_ (by first | exact Nat.le_refl _ | (simp; done) | (simp; omega)) _))⟩
set_option maxRecDepth 100000 in
set_option maxHeartbeats 2000000 in
theorem kd_index (P : List Pol) (a : Option Addr) (cap : Nat) (w : World) (hl : P.length ≤ 1000000000) (hA : ArgPs w a P) :
    Calls Tryz.prog 171 #[.slice a P.length cap, .func (.func 126) #[] #[]] w fun e w' => ∃ n : Int, e = .returned (.int .i64 n) ∧ decide (0 ≤ n) = P.any kindB ∧ Below w.heap.size w w' := by
  have HA := hidE hA
  clear hA
  go_enter Tryz.func171, Tryz.ntmps171
  go_wp2
  go_loopw [8] (fun i wr => ∃ k : Nat, k ≤ P.length ∧ i = .int .i64 k ∧ (∀ j, j < k → kindB (P.getD j (0, (0, 0), 0)) = false) ∧ Below w.heap.size w wr) (fun i _ => P.length - (intOf i).toNat)
  case atStart => exact ⟨0, Nat.zero_le _, rfl, fun j hj => by omega, by (repeat (first | exact Below.refl _ _ | assumption | refine balloc ?_ _ | refine below_drewN ?_ _ | refine bstep (by assumption) ?_ | refine bstep (Past.prop _) ?_ | refine Below.setCell ?_ (by first | exact Nat.le_refl _ | (simp; done) | (simp; omega)) _))⟩
  case round =>
    obtain ⟨k, hk, rfl, hs, hb⟩ := hrel
    have HS := hidE hs; clear hs
    by_cases hlt : k < P.length
    · obtain ⟨b, off, rfl, hbz, hc⟩ := HA.out (by omega)
      have hbr : b < wr.heap.size := Nat.lt_of_lt_of_le hbz hb.size
      obtain ⟨e0, e1, e2, e3⟩ := hc k hlt
      rw [← hb.cell hbz] at e0 e1 e2 e3
      have HBI := hidE (fun w => kd_cl (P.getD k (0, (0, 0), 0)) w)
      have HN := hidE (fun (h : kindB (P.getD k (0, (0, 0), 0)) = true) => show P.any kindB = true from by
        rw [List.any_eq_true]
        rw [getD_get _ _ _ hlt] at h
        exact ⟨_, List.getElem_mem hlt, h⟩)
      have HQ := hidE (fun h j (hj : j < k + 1) => show kindB (P.getD j (0, (0, 0), 0)) = false from by
        by_cases e : j = k
        · subst e; exact h
        · exact HS.out j (by omega))
      generalize P.getD k (0, (0, 0), 0) = s at *
      obtain ⟨kd, ⟨m, c⟩, n⟩ := s
      simp only at e0 e1 e2 e3
      clear hc
      cases hn : kindB (kd, (m, c), n)
      · have HF := hidE (HQ.out hn)
        rw [hn] at HBI
        clear HN HQ hn
        go_wp2_with fail
        ((with_reducible refine (HBI.out _).mono ?_); rintro e w2 ⟨rfl, hb2⟩)
        go_wp2
        exact ⟨⟨k + 1, by omega, by go_num, HF.out, by (repeat (first | exact Below.refl _ _ | assumption | refine balloc ?_ _ | refine below_drewN ?_ _ | refine bstep (by assumption) ?_ | refine bstep (Past.prop _) ?_ | refine Below.setCell ?_ (by first | exact Nat.le_refl _ | (simp; done) | (simp; omega)) _))⟩, by simp [intOf]; omega⟩
      · have HF := hidE (HN.out hn)
        rw [hn] at HBI
        clear HN HQ hn
        go_wp2_with fail
        ((with_reducible refine (HBI.out _).mono ?_); rintro e w2 ⟨rfl, hb2⟩)
        go_wp2
        go_ret
        exact ⟨_, rfl, by rw [HF.out]; simp, by (repeat (first | exact Below.refl _ _ | assumption | refine balloc ?_ _ | refine below_drewN ?_ _ | refine bstep (by assumption) ?_ | refine bstep (Past.prop _) ?_ | refine Below.setCell ?_ (by first | exact Nat.le_refl _ | (simp; done) | (simp; omega)) _))⟩
    · have hkl : k = P.length := by omega
      have HF := hidE (show P.any kindB = false by
        rw [List.any_eq_false]
        intro x hx
        obtain ⟨i, hi, rfl⟩ := List.getElem_of_mem hx
        have := HS.out i (by omega)
        rw [getD_get _ _ _ hi] at this
        rw [this]; decide)
      clear hkl HS
      go_wp2
      go_ret
      exact ⟨_, rfl, by rw [HF.out]; simp, by (repeat (first | exact Below.refl _ _ | assumption | refine balloc ?_ _ | refine below_drewN ?_ _ | refine bstep (by assumption) ?_ | refine bstep (Past.prop _) ?_ | refine Below.setCell ?_ (by first | exact Nat.le_refl _ | (simp; done) | (simp; omega)) _))⟩
theorem kd_any (P : List Pol) (a : Option Addr) (cap : Nat) (w : World) (hl : P.length ≤ 1000000000) (hA : ArgPs w a P) :
    Calls Tryz.prog 125 #[.slice a P.length cap, .func (.func 126) #[] #[]] w fun e w' => e = .returned (.bool (P.any kindB)) ∧ Below w.heap.size w w' := by
  have HI := hidE (kd_index P a cap w hl hA)
  clear hA
  go_enter Tryz.func125, Tryz.ntmps125
  go_wp2_with fail
  ((with_reducible refine (HI.out).mono ?_); rintro e w1 ⟨n, rfl, hn, hb1⟩)
  have HN := hidE hn
  clear hn
  go_wp2
  go_ret
  exact ⟨by rw [← HN.out]; rfl, by (repeat (first | exact Below.refl _ _ | assumption | refine balloc ?_ _ | refine below_drewN ?_ _ | refine bstep (by assumption) ?_ | refine bstep (Past.prop _) ?_ | refine Below.setCell ?_ (by first | exact Nat.le_refl _ | (simp; done) | (simp; omega)) _))⟩
theorem kd_any_eq {P : List Pol} {a : Option Addr} {cap : Nat} {w : World} {r : Bool} (hl : P.length ≤ 1000000000) (hA : ArgPs w a P) (h : P.any kindB = r) :
    Calls Tryz.prog 125 #[.slice a P.length cap, .func (.func 126) #[] #[]] w fun e w' => e = .returned (.bool r) ∧ Below w.heap.size w w' := h ▸ kd_any P a cap w hl hA
def commB (p : Pol) : Bool := p.1 == 0
theorem cm_cl (p : Pol) (w : World) : Calls Tryz.prog 175 #[PV p] w fun e w' => e = .returned (.bool (commB p)) ∧ Below w.heap.size w w' := by
  obtain ⟨k, ⟨m, c⟩, n⟩ := p
  go_enter Tryz.func175, Tryz.ntmps175
  go_wp2
  go_ret
  exact ⟨rfl, by (repeat (first | exact Below.refl _ _ | assumption | refine balloc ?_ _ | refine below_drewN ?_ _ | refine bstep (by assumption) ?_ | refine bstep (Past.prop _) ?_ | refine Below.setCell ?_ (by first | exact Nat.le_refl _ | (simp; done) | (simp; omega)) _))⟩
set_option maxRecDepth 100000 in
set_option maxHeartbeats 2000000 in
theorem cm_index (P : List Pol) (a : Option Addr) (cap : Nat) (w : World) (hl : P.length ≤ 1000000000) (hA : ArgPs w a P) :
    Calls Tryz.prog 171 #[.slice a P.length cap, .func (.func 175) #[] #[]] w fun e w' => ∃ n : Int, e = .returned (.int .i64 n) ∧ decide (0 ≤ n) = P.any commB ∧ Below w.heap.size w w' := by
  have HA := hidE hA
  clear hA
  go_enter Tryz.func171, Tryz.ntmps171
  go_wp2
  go_loopw [8] (fun i wr => ∃ k : Nat, k ≤ P.length ∧ i = .int .i64 k ∧ (∀ j, j < k → commB (P.getD j (0, (0, 0), 0)) = false) ∧ Below w.heap.size w wr) (fun i _ => P.length - (intOf i).toNat)
  case atStart => exact ⟨0, Nat.zero_le _, rfl, fun j hj => by omega, by (repeat (first | exact Below.refl _ _ | assumption | refine balloc ?_ _ | refine below_drewN ?_ _ | refine bstep (by assumption) ?_ | refine bstep (Past.prop _) ?_ | refine Below.setCell ?_ (by first | exact Nat.le_refl _ | (simp; done) | (simp; omega)) _))⟩
  case round =>
    obtain ⟨k, hk, rfl, hs, hb⟩ := hrel
    have HS := hidE hs; clear hs
    by_cases hlt : k < P.length
    · obtain ⟨b, off, rfl, hbz, hc⟩ := HA.out (by omega)
      have hbr : b < wr.heap.size := Nat.lt_of_lt_of_le hbz hb.size
      obtain ⟨e0, e1, e2, e3⟩ := hc k hlt
      rw [← hb.cell hbz] at e0 e1 e2 e3
      have HBI := hidE (fun w => cm_cl (P.getD k (0, (0, 0), 0)) w)
      have HN := hidE (fun (h : commB (P.getD k (0, (0, 0), 0)) = true) => show P.any commB = true from by
        rw [List.any_eq_true]
        rw [getD_get _ _ _ hlt] at h
        exact ⟨_, List.getElem_mem hlt, h⟩)
      have HQ := hidE (fun h j (hj : j < k + 1) => show commB (P.getD j (0, (0, 0), 0)) = false from by
        by_cases e : j = k
        · subst e; exact h
        · exact HS.out j (by omega))
      generalize P.getD k (0, (0, 0), 0) = s at *
      obtain ⟨kd, ⟨m, c⟩, n⟩ := s
      simp only at e0 e1 e2 e3
      clear hc
      cases hn : commB (kd, (m, c), n)
      · have HF := hidE (HQ.out hn)
        rw [hn] at HBI
        clear HN HQ hn
        go_wp2_with fail
        ((with_reducible refine (HBI.out _).mono ?_); rintro e w2 ⟨rfl, hb2⟩)
        go_wp2
        exact ⟨⟨k + 1, by omega, by go_num, HF.out, by (repeat (first | exact Below.refl _ _ | assumption | refine balloc ?_ _ | refine below_drewN ?_ _ | refine bstep (by assumption) ?_ | refine bstep (Past.prop _) ?_ | refine Below.setCell ?_ (by first | exact Nat.le_refl _ | (simp; done) | (simp; omega)) _))⟩, by simp [intOf]; omega⟩
      · have HF := hidE (HN.out hn)
        rw [hn] at HBI
        clear HN HQ hn
        go_wp2_with fail
        ((with_reducible refine (HBI.out _).mono ?_); rintro e w2 ⟨rfl, hb2⟩)
        go_wp2
        go_ret
        exact ⟨_, rfl, by rw [HF.out]; simp, by (repeat (first | exact Below.refl _ _ | assumption | refine balloc ?_ _ | refine below_drewN ?_ _ | refine bstep (by assumption) ?_ | refine bstep (Past.prop _) ?_ | refine Below.setCell ?_ (by first | exact Nat.le_refl _ | (simp; done) | (simp; omega)) _))⟩
    · have hkl : k = P.length := by omega
      have HF := hidE (show P.any commB = false by
        rw [List.any_eq_false]
        intro x hx
        obtain ⟨i, hi, rfl⟩ := List.getElem_of_mem hx
        have := HS.out i (by omega)
        rw [getD_get _ _ _ hi] at this
        rw [this]; decide)
      clear hkl HS
      go_wp2
      go_ret
      exact ⟨_, rfl, by rw [HF.out]; simp, by (repeat (first | exact Below.refl _ _ | assumption | refine balloc ?_ _ | refine below_drewN ?_ _ | refine bstep (by assumption) ?_ | refine bstep (Past.prop _) ?_ | refine Below.setCell ?_ (by first | exact Nat.le_refl _ | (simp; done) | (simp; omega)) _))⟩
theorem cm_any (P : List Pol) (a : Option Addr) (cap : Nat) (w : World) (hl : P.length ≤ 1000000000) (hA : ArgPs w a P) :
    Calls Tryz.prog 125 #[.slice a P.length cap, .func (.func 175) #[] #[]] w fun e w' => e = .returned (.bool (P.any commB)) ∧ Below w.heap.size w w' := by
  have HI := hidE (cm_index P a cap w hl hA)
  clear hA
  go_enter Tryz.func125, Tryz.ntmps125
  go_wp2_with fail
  ((with_reducible refine (HI.out).mono ?_); rintro e w1 ⟨n, rfl, hn, hb1⟩)
  have HN := hidE hn
  clear hn
  go_wp2
  go_ret
  exact ⟨by rw [← HN.out]; rfl, by (repeat (first | exact Below.refl _ _ | assumption | refine balloc ?_ _ | refine below_drewN ?_ _ | refine bstep (by assumption) ?_ | refine bstep (Past.prop _) ?_ | refine Below.setCell ?_ (by first | exact Nat.le_refl _ | (simp; done) | (simp; omega)) _))⟩
theorem cm_any_eq {P : List Pol} {a : Option Addr} {cap : Nat} {w : World} {r : Bool} (hl : P.length ≤ 1000000000) (hA : ArgPs w a P) (h : P.any commB = r) :
    Calls Tryz.prog 125 #[.slice a P.length cap, .func (.func 175) #[] #[]] w fun e w' => e = .returned (.bool r) ∧ Below w.heap.size w w' := h ▸ cm_any P a cap w hl hA
/-- A row of limits: none, or two in a block of its own. -/
def LimV (w : World) (B : Nat) (v : Value) (l : List (Int × Int)) : Prop :=
  (l = [] ∧ v = .slice none 0 0) ∨ ∃ (q : Nat) (s t : Int × Int), l = [s, t] ∧ v = .slice (some ⟨q, 0, none⟩) 2 2 ∧ B ≤ q ∧ Blk w q #[.int .i64 s.1, .int .i64 s.2, .int .i64 t.1, .int .i64 t.2] 65
end Go.Proofs.YtjhhcljbmnomlaaGreat

namespace Go.Proofs.YtjhhcljbmnomlaaGreat
open Go.ChangeShapes Go.WideShapes Go.ChangeAt Go.RowKit
attribute [local irreducible] Go.Calls

set_option maxRecDepth 100000 in
set_option maxHeartbeats 2000000 in
theorem limits_c (P : List Pol) (a : Option Addr) (cap : Nat) (w : World) (hl : P.length ≤ 1000000) (hA : ArgPs w a P) :
    Calls Tryz.prog 177 #[.slice a P.length cap] w fun e w' => ∃ v, e = .returned v ∧ LimV w' w.heap.size v (limS P) ∧ Below w.heap.size w w' := by
  have HA := hidE hA
  clear hA
  go_enter Tryz.func177, Tryz.ntmps177
  go_wp2
  go_loopg [3, 8] P.length (fun g v3 v8 wr => ∃ (k : Nat) (v : Value), v = v3 ∧ v8 = .int .i64 k ∧ k ≤ P.length ∧ P.length - k ≤ g ∧ LimV wr w.heap.size v (limS (P.take k)) ∧ Below w.heap.size w wr)
  case atStart => exact ⟨0, _, rfl, rfl, Nat.zero_le _, Nat.le_refl _, .inl ⟨rfl, rfl⟩, by (repeat (first | exact Below.refl _ _ | assumption | refine balloc ?_ _ | refine below_drewN ?_ _ | refine bstep (by assumption) ?_ | refine bstep (Past.prop _) ?_ | refine Below.setCell ?_ (by first | exact Nat.le_refl _ | (simp; done) | (simp; omega)) _))⟩
  case round =>
    obtain ⟨k, v, rfl, rfl, hk, hg, hv, hb⟩ := hrel
    have HV := hidE hv; have HB := hidE hb; have HG := hidE hg
    clear hv hg
    by_cases hlt : k < P.length
    · obtain ⟨b, off, rfl, hbz, hc⟩ := HA.out (by omega)
      have hbr : b < wr.heap.size := Nat.lt_of_lt_of_le hbz hb.size
      obtain ⟨e0, e1, e2, e3⟩ := hc k hlt
      rw [← hb.cell hbz] at e0 e1 e2 e3
      have HS := hidE (limS_step hlt)
      generalize P.getD k (0, (0, 0), 0) = s at *
      obtain ⟨kd, ⟨m, c⟩, n⟩ := s
      simp only at e0 e1 e2 e3
      have hwz := hb.size
      clear hc hb
      by_cases h1 : kd = 1
      · subst h1
        rcases HV.out with ⟨he, rfl⟩ | ⟨q, s, t, he, rfl, hq, hB⟩
        · have HN := hidE (show limS (P.take (k + 1)) = [(mn m m, mn c c), (mx m m, mx c c)] by
            rw [HS.out, he]; unfold limT mn mx; simp)
          have hnn : ∀ w, (binOp BinOp.eql 241 (.slice none 0 0) (.slice none 0 0)).run Tryz.prog w = .ok (.bool true) w := fun w => by kernel_rfl
          clear HS he HV
          go_upto_region 8 with fail
          obtain ⟨W, hW⟩ : ∃ W, W = (wr.alloc (Obj.cells #[.int .u8 1, .int .i64 m, .int .i64 c, .int .i64 n] 77)).alloc (Obj.cells #[.int .i64 m, .int .i64 c, .int .i64 m, .int .i64 c] 65) := ⟨_, rfl⟩
          obtain ⟨p, hp⟩ : ∃ p, p = wr.heap.size := ⟨_, rfl⟩
          have HP : Blk W p #[.int .u8 1, .int .i64 m, .int .i64 c, .int .i64 n] 77 := by rw [hW, hp]; exact (Blk.made _ _ _).alloc _
          have HQ : Blk W (wr.heap.size + 1) #[.int .i64 m, .int .i64 c, .int .i64 m, .int .i64 c] 65 := by rw [hW]; exact Blk.made_at _ _ _ _ (by simp)
          have hbW : Below w.heap.size w W := by rw [hW]; have := HB.out; (repeat (first | exact Below.refl _ _ | assumption | refine balloc ?_ _ | refine below_drewN ?_ _ | refine bstep (by assumption) ?_ | refine bstep (Past.prop _) ?_ | refine Below.setCell ?_ (by first | exact Nat.le_refl _ | (simp; done) | (simp; omega)) _))
          have hpq : p ≠ (wr.heap.size + 1) := by omega
          have hqw : w.heap.size ≤ (wr.heap.size + 1) := by omega
          have HPQ := hidE hpq; have HQW := hidE hqw; have HBW := hidE hbW
          rw [← hW]
          obtain ⟨q, hq⟩ : ∃ q, q = wr.heap.size + 1 := ⟨_, rfl⟩
          rw [← hq] at HPQ HQW HQ
          rw [← hq]
          rw [← hp]
          clear hW hp hpq hqw hbW e0 e1 e2 e3 hwz hbr hbz hq
          have p1 := HP.cell 1; have p2 := HP.cell 2; have pz := HP.lt; have q0 := HQ.cell 0; have q1 := HQ.cell 1; have qz := HQ.lt
          simp at p1 p2 q0 q1
          have HP := hidE HP; have HQ := hidE HQ
          refine wp_region_J 8 [] (nthR [detR (.slice (some ⟨q, 0, none⟩) 2 2), detR (.slice (some ⟨q, 0, none⟩) 2 2), detR (.pointer (some ⟨q, 0, none⟩)), detR (V m c), detR (.pointer (some ⟨p, 1, none⟩)), detR (V m c), detR (V (mn m m) (mn c c)), detR (.pointer (some ⟨q, 0, none⟩))]) (fun _ => false) (by kernel_rfl) (by decide) (by kernel_rfl) (stab_nth (by intro r hr; simp only [List.mem_cons, List.not_mem_nil, or_false] at hr; rcases hr with rfl | rfl | rfl | rfl | rfl | rfl | rfl | rfl <;> first | exact stab_det _)) ?_ ?_ ?_
          · intro i o hi ho
            match i, hi with
            | 0, _ =>
              obtain rfl := Option.some.inj ho
              intro u x hd
              have hc := Past.cell x
              simp [go_sem, gives, frm, Act.put, nthR, detR, Region.wanted, Below.refl]
            | 1, _ =>
              obtain rfl := Option.some.inj ho
              intro u x hd
              have hc := Past.cell x
              simp [go_sem, gives, frm, Act.put, nthR, detR, Region.wanted, Below.refl]
            | 2, _ =>
              obtain rfl := Option.some.inj ho
              intro u x hd
              have hc := Past.cell x
              have d1 := hd 1 (by decide) (by kernel_rfl)
              simp only [nthR, detR, List.getD_cons_zero, List.getD_cons_succ] at d1
              simp [go_sem, gives, frm, Act.put, nthR, detR, Region.wanted, Below.refl, d1]
            | 3, _ =>
              obtain rfl := Option.some.inj ho
              intro u x hd
              have hc := Past.cell x
              have d2 := hd 2 (by decide) (by kernel_rfl)
              simp only [nthR, detR, List.getD_cons_zero, List.getD_cons_succ] at d2
              simp [go_sem, gives, frm, Act.put, nthR, detR, Region.wanted, Below.refl, hc, d2, q0, q1, qz]
            | 4, _ =>
              obtain rfl := Option.some.inj ho
              intro u x hd
              have hc := Past.cell x
              simp [go_sem, gives, frm, Act.put, nthR, detR, Region.wanted, Below.refl]
            | 5, _ =>
              obtain rfl := Option.some.inj ho
              intro u x hd
              have hc := Past.cell x
              have d4 := hd 4 (by decide) (by kernel_rfl)
              simp only [nthR, detR, List.getD_cons_zero, List.getD_cons_succ] at d4
              simp [go_sem, gives, frm, Act.put, nthR, detR, Region.wanted, Below.refl, hc, d4, p1, p2, pz]
            | 6, _ =>
              obtain rfl := Option.some.inj ho
              intro u x hd
              have hc := Past.cell x
              have d3 := hd 3 (by decide) (by kernel_rfl)
              have d5 := hd 5 (by decide) (by kernel_rfl)
              simp only [nthR, detR, List.getD_cons_zero, List.getD_cons_succ] at d3 d5
              simp [go_sem, gives, frm, Act.put, nthR, Region.wanted, d3, d5]
              (with_reducible refine (mn_c _ _ _ _ _).mono ?_); rintro e w3 ⟨rfl, hb3⟩; exact ⟨_, rfl, hb3, rfl⟩
            | 7, _ =>
              obtain rfl := Option.some.inj ho
              intro u x hd
              have hc := Past.cell x
              have d0 := hd 0 (by decide) (by kernel_rfl)
              simp only [nthR, detR, List.getD_cons_zero] at d0
              simp [go_sem, gives, frm, Act.put, nthR, detR, Region.wanted, Below.refl, d0]
            | i + 8, h => exact absurd h (by omega)
          · intro i o hx ho
            simp at hx
          · intro u x9 hu hne
            have e0 : u 0 = .slice (some ⟨q, 0, none⟩) 2 2 := hu 0 (by decide)
            have e1 : u 1 = .slice (some ⟨q, 0, none⟩) 2 2 := hu 1 (by decide)
            have e2 : u 2 = .pointer (some ⟨q, 0, none⟩) := hu 2 (by decide)
            have e3 : u 3 = V m c := hu 3 (by decide)
            have e4 : u 4 = .pointer (some ⟨p, 1, none⟩) := hu 4 (by decide)
            have e5 : u 5 = V m c := hu 5 (by decide)
            have e6 : u 6 = V (mn m m) (mn c c) := hu 6 (by decide)
            have e7 : u 7 = .pointer (some ⟨q, 0, none⟩) := hu 7 (by decide)
            simp only [frm, List.take, Act.put, e0, e1, e2, e3, e4, e5, e6, e7]
            have HP1 := hidE (HP.out.past x9.2); have B1 := HQ.out.past x9.2
            have HB1 := hidE (HBW.out.trans (x9.2.mono HBW.out.size))
            clear hu hne e0 e1 e2 e3 e4 e5 e6 e7 p1 p2 pz q0 q1 qz
            generalize x9.1 = W1 at *
            have HQ1 := hidE B1
            have qf := B1.free; have qz := B1.lt; have q0 := B1.cell 0; have q1 := B1.cell 1
            simp at q0 q1
            clear B1
            go_upto_region 9 with fail
            obtain ⟨W2, hW2⟩ : ∃ W2, W2 = (W1.setCell ⟨q, 0, none⟩ (.int .i64 (mn m m))).setCell ⟨q, 1, none⟩ (.int .i64 (mn c c)) := ⟨_, rfl⟩
            have HP2 : Blk W2 p #[.int .u8 1, .int .i64 m, .int .i64 c, .int .i64 n] 77 := by rw [hW2]; exact (HP1.out.other HPQ.out _).other HPQ.out _
            have HQ2 : Blk W2 q #[.int .i64 (mn m m), .int .i64 (mn c c), .int .i64 m, .int .i64 c] 65 := by rw [hW2]; simpa using (HQ1.out.set 0 (.int .i64 (mn m m))).set 1 (.int .i64 (mn c c))
            have HB2 := hidE (show Below w.heap.size w W2 by rw [hW2]; exact (HB1.out.setCell (p := ⟨q, 0, none⟩) HQW.out _).setCell (p := ⟨q, 1, none⟩) HQW.out _)
            rw [← hW2]
            clear hW2 q0 q1 qf qz HP1 HQ1 HB1
            have p1 := HP2.cell 1; have p2 := HP2.cell 2; have pz := HP2.lt; have q0 := HQ2.cell 2; have q1 := HQ2.cell 3; have qz := HQ2.lt
            simp at p1 p2 q0 q1
            have HP2 := hidE HP2; have HQ2 := hidE HQ2
            refine wp_region_J 8 [] (nthR [detR (.slice (some ⟨q, 0, none⟩) 2 2), detR (.slice (some ⟨q, 0, none⟩) 2 2), detR (.pointer (some ⟨q, 2, none⟩)), detR (V m c), detR (.pointer (some ⟨p, 1, none⟩)), detR (V m c), detR (V (mx m m) (mx c c)), detR (.pointer (some ⟨q, 2, none⟩))]) (fun _ => false) (by kernel_rfl) (by decide) (by kernel_rfl) (stab_nth (by intro r hr; simp only [List.mem_cons, List.not_mem_nil, or_false] at hr; rcases hr with rfl | rfl | rfl | rfl | rfl | rfl | rfl | rfl <;> first | exact stab_det _)) ?_ ?_ ?_
            · intro i o hi ho
              match i, hi with
              | 0, _ =>
                obtain rfl := Option.some.inj ho
                intro u x hd
                have hc := Past.cell x
                simp [go_sem, gives, frm, Act.put, nthR, detR, Region.wanted, Below.refl]
              | 1, _ =>
                obtain rfl := Option.some.inj ho
                intro u x hd
                have hc := Past.cell x
                simp [go_sem, gives, frm, Act.put, nthR, detR, Region.wanted, Below.refl]
              | 2, _ =>
                obtain rfl := Option.some.inj ho
                intro u x hd
                have hc := Past.cell x
                have d1 := hd 1 (by decide) (by kernel_rfl)
                simp only [nthR, detR, List.getD_cons_zero, List.getD_cons_succ] at d1
                simp [go_sem, gives, frm, Act.put, nthR, detR, Region.wanted, Below.refl, d1]
              | 3, _ =>
                obtain rfl := Option.some.inj ho
                intro u x hd
                have hc := Past.cell x
                have d2 := hd 2 (by decide) (by kernel_rfl)
                simp only [nthR, detR, List.getD_cons_zero, List.getD_cons_succ] at d2
                simp [go_sem, gives, frm, Act.put, nthR, detR, Region.wanted, Below.refl, hc, d2, q0, q1, qz]
              | 4, _ =>
                obtain rfl := Option.some.inj ho
                intro u x hd
                have hc := Past.cell x
                simp [go_sem, gives, frm, Act.put, nthR, detR, Region.wanted, Below.refl]
              | 5, _ =>
                obtain rfl := Option.some.inj ho
                intro u x hd
                have hc := Past.cell x
                have d4 := hd 4 (by decide) (by kernel_rfl)
                simp only [nthR, detR, List.getD_cons_zero, List.getD_cons_succ] at d4
                simp [go_sem, gives, frm, Act.put, nthR, detR, Region.wanted, Below.refl, hc, d4, p1, p2, pz]
              | 6, _ =>
                obtain rfl := Option.some.inj ho
                intro u x hd
                have hc := Past.cell x
                have d3 := hd 3 (by decide) (by kernel_rfl)
                have d5 := hd 5 (by decide) (by kernel_rfl)
                simp only [nthR, detR, List.getD_cons_zero, List.getD_cons_succ] at d3 d5
                simp [go_sem, gives, frm, Act.put, nthR, Region.wanted, d3, d5]
                (with_reducible refine (mx_c _ _ _ _ _).mono ?_); rintro e w3 ⟨rfl, hb3⟩; exact ⟨_, rfl, hb3, rfl⟩
              | 7, _ =>
                obtain rfl := Option.some.inj ho
                intro u x hd
                have hc := Past.cell x
                have d0 := hd 0 (by decide) (by kernel_rfl)
                simp only [nthR, detR, List.getD_cons_zero] at d0
                simp [go_sem, gives, frm, Act.put, nthR, detR, Region.wanted, Below.refl, d0]
              | i + 8, h => exact absurd h (by omega)
            · intro i o hx ho
              simp at hx
            · intro u x9 hu hne
              have e0 : u 0 = .slice (some ⟨q, 0, none⟩) 2 2 := hu 0 (by decide)
              have e1 : u 1 = .slice (some ⟨q, 0, none⟩) 2 2 := hu 1 (by decide)
              have e2 : u 2 = .pointer (some ⟨q, 2, none⟩) := hu 2 (by decide)
              have e3 : u 3 = V m c := hu 3 (by decide)
              have e4 : u 4 = .pointer (some ⟨p, 1, none⟩) := hu 4 (by decide)
              have e5 : u 5 = V m c := hu 5 (by decide)
              have e6 : u 6 = V (mx m m) (mx c c) := hu 6 (by decide)
              have e7 : u 7 = .pointer (some ⟨q, 2, none⟩) := hu 7 (by decide)
              simp only [frm, List.take, Act.put, e0, e1, e2, e3, e4, e5, e6, e7]
              have B3 := HQ2.out.past x9.2
              have HB3 := hidE (HB2.out.trans (x9.2.mono HB2.out.size))
              clear hu hne e0 e1 e2 e3 e4 e5 e6 e7 p1 p2 pz q0 q1 qz
              generalize x9.1 = W3 at *
              have HQ3 := hidE B3
              have qf := B3.free; have qz := B3.lt; have q0 := B3.cell 2; have q1 := B3.cell 3
              simp at q0 q1
              clear B3
              go_wp2
              go_roundg (P.length - (k + 1))
              case measure => have := HG.out; omega
              case rel =>
                refine ⟨k + 1, _, rfl, by go_num, by omega, Nat.le_refl _, .inr ⟨q, _, _, HN.out, rfl, HQW.out, ?_⟩, (HB3.out.setCell (p := ⟨q, 2, none⟩) HQW.out _).setCell (p := ⟨q, 3, none⟩) HQW.out _⟩
                simpa using (HQ3.out.set 2 (.int .i64 (mx m m))).set 3 (.int .i64 (mx c c))
        · have HN := hidE (show limS (P.take (k + 1)) = [(mn s.1 m, mn s.2 c), (mx t.1 m, mx t.2 c)] by
            rw [HS.out, he]; unfold limT; simp)
          have HQ0 := hidE hB
          have q0 := hB.cell 0; have q1 := hB.cell 1; have q2 := hB.cell 2; have q3 := hB.cell 3; have qz := hB.lt; have qf := hB.free
          simp at q0 q1 q2 q3
          have hne : ∀ w, (binOp BinOp.eql 241 (.slice (some ⟨q, 0, none⟩) 2 2) (.slice none 0 0)).run Tryz.prog w = .ok (.bool false) w := fun w => by kernel_rfl
          clear HS he HV
          go_upto_region 8 with fail
          obtain ⟨W, hW⟩ : ∃ W, W = wr.alloc (Obj.cells #[.int .u8 1, .int .i64 m, .int .i64 c, .int .i64 n] 77) := ⟨_, rfl⟩
          obtain ⟨p, hp⟩ : ∃ p, p = wr.heap.size := ⟨_, rfl⟩
          have HP : Blk W p #[.int .u8 1, .int .i64 m, .int .i64 c, .int .i64 n] 77 := by rw [hW, hp]; exact Blk.made _ _ _
          have HQ : Blk W q #[.int .i64 s.1, .int .i64 s.2, .int .i64 t.1, .int .i64 t.2] 65 := by rw [hW]; exact HQ0.out.alloc _
          have hbW : Below w.heap.size w W := by rw [hW]; have := HB.out; (repeat (first | exact Below.refl _ _ | assumption | refine balloc ?_ _ | refine below_drewN ?_ _ | refine bstep (by assumption) ?_ | refine bstep (Past.prop _) ?_ | refine Below.setCell ?_ (by first | exact Nat.le_refl _ | (simp; done) | (simp; omega)) _))
          have hpq : p ≠ q := by omega
          have hqw : w.heap.size ≤ q := by omega
          have HPQ := hidE hpq; have HQW := hidE hqw; have HBW := hidE hbW
          rw [← hW]
          rw [← hp]
          clear hW hp hpq hqw hbW e0 e1 e2 e3 hwz hbr hbz hne q0 q1 q2 q3 qz qf hB hq
          have p1 := HP.cell 1; have p2 := HP.cell 2; have pz := HP.lt; have q0 := HQ.cell 0; have q1 := HQ.cell 1; have qz := HQ.lt
          simp at p1 p2 q0 q1
          have HP := hidE HP; have HQ := hidE HQ
          refine wp_region_J 8 [] (nthR [detR (.slice (some ⟨q, 0, none⟩) 2 2), detR (.slice (some ⟨q, 0, none⟩) 2 2), detR (.pointer (some ⟨q, 0, none⟩)), detR (V s.1 s.2), detR (.pointer (some ⟨p, 1, none⟩)), detR (V m c), detR (V (mn s.1 m) (mn s.2 c)), detR (.pointer (some ⟨q, 0, none⟩))]) (fun _ => false) (by kernel_rfl) (by decide) (by kernel_rfl) (stab_nth (by intro r hr; simp only [List.mem_cons, List.not_mem_nil, or_false] at hr; rcases hr with rfl | rfl | rfl | rfl | rfl | rfl | rfl | rfl <;> first | exact stab_det _)) ?_ ?_ ?_
          · intro i o hi ho
            match i, hi with
            | 0, _ =>
              obtain rfl := Option.some.inj ho
              intro u x hd
              have hc := Past.cell x
              simp [go_sem, gives, frm, Act.put, nthR, detR, Region.wanted, Below.refl]
            | 1, _ =>
              obtain rfl := Option.some.inj ho
              intro u x hd
              have hc := Past.cell x
              simp [go_sem, gives, frm, Act.put, nthR, detR, Region.wanted, Below.refl]
            | 2, _ =>
              obtain rfl := Option.some.inj ho
              intro u x hd
              have hc := Past.cell x
              have d1 := hd 1 (by decide) (by kernel_rfl)
              simp only [nthR, detR, List.getD_cons_zero, List.getD_cons_succ] at d1
              simp [go_sem, gives, frm, Act.put, nthR, detR, Region.wanted, Below.refl, d1]
            | 3, _ =>
              obtain rfl := Option.some.inj ho
              intro u x hd
              have hc := Past.cell x
              have d2 := hd 2 (by decide) (by kernel_rfl)
              simp only [nthR, detR, List.getD_cons_zero, List.getD_cons_succ] at d2
              simp [go_sem, gives, frm, Act.put, nthR, detR, Region.wanted, Below.refl, hc, d2, q0, q1, qz]
            | 4, _ =>
              obtain rfl := Option.some.inj ho
              intro u x hd
              have hc := Past.cell x
              simp [go_sem, gives, frm, Act.put, nthR, detR, Region.wanted, Below.refl]
            | 5, _ =>
              obtain rfl := Option.some.inj ho
              intro u x hd
              have hc := Past.cell x
              have d4 := hd 4 (by decide) (by kernel_rfl)
              simp only [nthR, detR, List.getD_cons_zero, List.getD_cons_succ] at d4
              simp [go_sem, gives, frm, Act.put, nthR, detR, Region.wanted, Below.refl, hc, d4, p1, p2, pz]
            | 6, _ =>
              obtain rfl := Option.some.inj ho
              intro u x hd
              have hc := Past.cell x
              have d3 := hd 3 (by decide) (by kernel_rfl)
              have d5 := hd 5 (by decide) (by kernel_rfl)
              simp only [nthR, detR, List.getD_cons_zero, List.getD_cons_succ] at d3 d5
              simp [go_sem, gives, frm, Act.put, nthR, Region.wanted, d3, d5]
              (with_reducible refine (mn_c _ _ _ _ _).mono ?_); rintro e w3 ⟨rfl, hb3⟩; exact ⟨_, rfl, hb3, rfl⟩
            | 7, _ =>
              obtain rfl := Option.some.inj ho
              intro u x hd
              have hc := Past.cell x
              have d0 := hd 0 (by decide) (by kernel_rfl)
              simp only [nthR, detR, List.getD_cons_zero] at d0
              simp [go_sem, gives, frm, Act.put, nthR, detR, Region.wanted, Below.refl, d0]
            | i + 8, h => exact absurd h (by omega)
          · intro i o hx ho
            simp at hx
          · intro u x9 hu hne
            have e0 : u 0 = .slice (some ⟨q, 0, none⟩) 2 2 := hu 0 (by decide)
            have e1 : u 1 = .slice (some ⟨q, 0, none⟩) 2 2 := hu 1 (by decide)
            have e2 : u 2 = .pointer (some ⟨q, 0, none⟩) := hu 2 (by decide)
            have e3 : u 3 = V s.1 s.2 := hu 3 (by decide)
            have e4 : u 4 = .pointer (some ⟨p, 1, none⟩) := hu 4 (by decide)
            have e5 : u 5 = V m c := hu 5 (by decide)
            have e6 : u 6 = V (mn s.1 m) (mn s.2 c) := hu 6 (by decide)
            have e7 : u 7 = .pointer (some ⟨q, 0, none⟩) := hu 7 (by decide)
            simp only [frm, List.take, Act.put, e0, e1, e2, e3, e4, e5, e6, e7]
            have HP1 := hidE (HP.out.past x9.2); have B1 := HQ.out.past x9.2
            have HB1 := hidE (HBW.out.trans (x9.2.mono HBW.out.size))
            clear hu hne e0 e1 e2 e3 e4 e5 e6 e7 p1 p2 pz q0 q1 qz
            generalize x9.1 = W1 at *
            have HQ1 := hidE B1
            have qf := B1.free; have qz := B1.lt; have q0 := B1.cell 0; have q1 := B1.cell 1
            simp at q0 q1
            clear B1
            go_upto_region 9 with fail
            obtain ⟨W2, hW2⟩ : ∃ W2, W2 = (W1.setCell ⟨q, 0, none⟩ (.int .i64 (mn s.1 m))).setCell ⟨q, 1, none⟩ (.int .i64 (mn s.2 c)) := ⟨_, rfl⟩
            have HP2 : Blk W2 p #[.int .u8 1, .int .i64 m, .int .i64 c, .int .i64 n] 77 := by rw [hW2]; exact (HP1.out.other HPQ.out _).other HPQ.out _
            have HQ2 : Blk W2 q #[.int .i64 (mn s.1 m), .int .i64 (mn s.2 c), .int .i64 t.1, .int .i64 t.2] 65 := by rw [hW2]; simpa using (HQ1.out.set 0 (.int .i64 (mn s.1 m))).set 1 (.int .i64 (mn s.2 c))
            have HB2 := hidE (show Below w.heap.size w W2 by rw [hW2]; exact (HB1.out.setCell (p := ⟨q, 0, none⟩) HQW.out _).setCell (p := ⟨q, 1, none⟩) HQW.out _)
            rw [← hW2]
            clear hW2 q0 q1 qf qz HP1 HQ1 HB1
            have p1 := HP2.cell 1; have p2 := HP2.cell 2; have pz := HP2.lt; have q0 := HQ2.cell 2; have q1 := HQ2.cell 3; have qz := HQ2.lt
            simp at p1 p2 q0 q1
            have HP2 := hidE HP2; have HQ2 := hidE HQ2
            refine wp_region_J 8 [] (nthR [detR (.slice (some ⟨q, 0, none⟩) 2 2), detR (.slice (some ⟨q, 0, none⟩) 2 2), detR (.pointer (some ⟨q, 2, none⟩)), detR (V t.1 t.2), detR (.pointer (some ⟨p, 1, none⟩)), detR (V m c), detR (V (mx t.1 m) (mx t.2 c)), detR (.pointer (some ⟨q, 2, none⟩))]) (fun _ => false) (by kernel_rfl) (by decide) (by kernel_rfl) (stab_nth (by intro r hr; simp only [List.mem_cons, List.not_mem_nil, or_false] at hr; rcases hr with rfl | rfl | rfl | rfl | rfl | rfl | rfl | rfl <;> first | exact stab_det _)) ?_ ?_ ?_
            · intro i o hi ho
              match i, hi with
              | 0, _ =>
                obtain rfl := Option.some.inj ho
                intro u x hd
                have hc := Past.cell x
                simp [go_sem, gives, frm, Act.put, nthR, detR, Region.wanted, Below.refl]
              | 1, _ =>
                obtain rfl := Option.some.inj ho
                intro u x hd
                have hc := Past.cell x
                simp [go_sem, gives, frm, Act.put, nthR, detR, Region.wanted, Below.refl]
              | 2, _ =>
                obtain rfl := Option.some.inj ho
                intro u x hd
                have hc := Past.cell x
                have d1 := hd 1 (by decide) (by kernel_rfl)
                simp only [nthR, detR, List.getD_cons_zero, List.getD_cons_succ] at d1
                simp [go_sem, gives, frm, Act.put, nthR, detR, Region.wanted, Below.refl, d1]
              | 3, _ =>
                obtain rfl := Option.some.inj ho
                intro u x hd
                have hc := Past.cell x
                have d2 := hd 2 (by decide) (by kernel_rfl)
                simp only [nthR, detR, List.getD_cons_zero, List.getD_cons_succ] at d2
                simp [go_sem, gives, frm, Act.put, nthR, detR, Region.wanted, Below.refl, hc, d2, q0, q1, qz]
              | 4, _ =>
                obtain rfl := Option.some.inj ho
                intro u x hd
                have hc := Past.cell x
                simp [go_sem, gives, frm, Act.put, nthR, detR, Region.wanted, Below.refl]
              | 5, _ =>
                obtain rfl := Option.some.inj ho
                intro u x hd
                have hc := Past.cell x
                have d4 := hd 4 (by decide) (by kernel_rfl)
                simp only [nthR, detR, List.getD_cons_zero, List.getD_cons_succ] at d4
                simp [go_sem, gives, frm, Act.put, nthR, detR, Region.wanted, Below.refl, hc, d4, p1, p2, pz]
              | 6, _ =>
                obtain rfl := Option.some.inj ho
                intro u x hd
                have hc := Past.cell x
                have d3 := hd 3 (by decide) (by kernel_rfl)
                have d5 := hd 5 (by decide) (by kernel_rfl)
                simp only [nthR, detR, List.getD_cons_zero, List.getD_cons_succ] at d3 d5
                simp [go_sem, gives, frm, Act.put, nthR, Region.wanted, d3, d5]
                (with_reducible refine (mx_c _ _ _ _ _).mono ?_); rintro e w3 ⟨rfl, hb3⟩; exact ⟨_, rfl, hb3, rfl⟩
              | 7, _ =>
                obtain rfl := Option.some.inj ho
                intro u x hd
                have hc := Past.cell x
                have d0 := hd 0 (by decide) (by kernel_rfl)
                simp only [nthR, detR, List.getD_cons_zero] at d0
                simp [go_sem, gives, frm, Act.put, nthR, detR, Region.wanted, Below.refl, d0]
              | i + 8, h => exact absurd h (by omega)
            · intro i o hx ho
              simp at hx
            · intro u x9 hu hne
              have e0 : u 0 = .slice (some ⟨q, 0, none⟩) 2 2 := hu 0 (by decide)
              have e1 : u 1 = .slice (some ⟨q, 0, none⟩) 2 2 := hu 1 (by decide)
              have e2 : u 2 = .pointer (some ⟨q, 2, none⟩) := hu 2 (by decide)
              have e3 : u 3 = V t.1 t.2 := hu 3 (by decide)
              have e4 : u 4 = .pointer (some ⟨p, 1, none⟩) := hu 4 (by decide)
              have e5 : u 5 = V m c := hu 5 (by decide)
              have e6 : u 6 = V (mx t.1 m) (mx t.2 c) := hu 6 (by decide)
              have e7 : u 7 = .pointer (some ⟨q, 2, none⟩) := hu 7 (by decide)
              simp only [frm, List.take, Act.put, e0, e1, e2, e3, e4, e5, e6, e7]
              have B3 := HQ2.out.past x9.2
              have HB3 := hidE (HB2.out.trans (x9.2.mono HB2.out.size))
              clear hu hne e0 e1 e2 e3 e4 e5 e6 e7 p1 p2 pz q0 q1 qz
              generalize x9.1 = W3 at *
              have HQ3 := hidE B3
              have qf := B3.free; have qz := B3.lt; have q0 := B3.cell 2; have q1 := B3.cell 3
              simp at q0 q1
              clear B3
              go_wp2
              go_roundg (P.length - (k + 1))
              case measure => have := HG.out; omega
              case rel =>
                refine ⟨k + 1, _, rfl, by go_num, by omega, Nat.le_refl _, .inr ⟨q, _, _, HN.out, rfl, HQW.out, ?_⟩, (HB3.out.setCell (p := ⟨q, 2, none⟩) HQW.out _).setCell (p := ⟨q, 3, none⟩) HQW.out _⟩
                simpa using (HQ3.out.set 2 (.int .i64 (mx t.1 m))).set 3 (.int .i64 (mx t.2 c))
      · have HN := hidE (show limS (P.take (k + 1)) = limS (P.take k) by rw [HS.out]; unfold limT; rw [if_pos h1])
        have e1' : (kd != 1) = true := bne_iff_ne.2 h1
        have e1'' : (kd == 1) = false := beq_eq_false_iff_ne.2 h1
        have HL := hidE (show LimV (wr.alloc (Obj.cells #[.int .u8 kd, .int .i64 m, .int .i64 c, .int .i64 n] 77)) w.heap.size v (limS (P.take (k + 1))) by
          rw [HN.out]
          rcases HV.out with h | ⟨q, s, t, h2, h3, h4, h5⟩
          · exact .inl h
          · exact .inr ⟨q, s, t, h2, h3, h4, h5.alloc _⟩)
        clear HS h1 HV
        go_wp2
        go_roundg (P.length - (k + 1))
        case measure => have := HG.out; omega
        case rel => exact ⟨k + 1, _, rfl, by go_num, by omega, Nat.le_refl _, HL.out, by have := HB.out; (repeat (first | exact Below.refl _ _ | assumption | refine balloc ?_ _ | refine below_drewN ?_ _ | refine bstep (by assumption) ?_ | refine bstep (Past.prop _) ?_ | refine Below.setCell ?_ (by first | exact Nat.le_refl _ | (simp; done) | (simp; omega)) _))⟩
    · have hkl : k = P.length := by omega
      have HF := hidE HV.out
      rw [hkl, List.take_length] at HF
      clear hkl HV
      go_wp2
      go_ret
      exact ⟨_, rfl, HF.out, HB.out⟩
end Go.Proofs.YtjhhcljbmnomlaaGreat

namespace Go.Proofs.YtjhhcljbmnomlaaGreat
open Go.ChangeShapes Go.WideShapes Go.ChangeAt Go.RowKit
attribute [local irreducible] Go.Calls

/-- The vectors that a slice's cells hold. -/
def VCells (w : World) (b off : Nat) (l : List (Int × Int)) : Prop :=
  ∀ i, i < l.length → w.cell? ⟨b, off + i * 2, none⟩ = some (.int .i64 (l.getD i (0, 0)).1) ∧ w.cell? ⟨b, off + i * 2 + 1, none⟩ = some (.int .i64 (l.getD i (0, 0)).2)
def ArgVs (w : World) (a : Option Addr) (l : List (Int × Int)) : Prop := 0 < l.length → ∃ b off, a = some ⟨b, off, none⟩ ∧ b < w.heap.size ∧ VCells w b off l
theorem VCells.below {w w' : World} {b off B : Nat} {l : List (Int × Int)} (h : VCells w b off l) (hb : Below B w w') (hB : b < B) : VCells w' b off l := fun i hi => by
  obtain ⟨h1, h2⟩ := h i hi
  exact ⟨(hb.cell (p := ⟨b, _, none⟩) hB).trans h1, (hb.cell (p := ⟨b, _, none⟩) hB).trans h2⟩
theorem ArgVs.past {w w' : World} {a : Option Addr} {l : List (Int × Int)} (h : ArgVs w a l) (hb : Below w.heap.size w w') : ArgVs w' a l := fun hl => by
  obtain ⟨b, off, e, h1, h2⟩ := h hl
  exact ⟨b, off, e, Nat.lt_of_lt_of_le h1 hb.size, h2.below hb h1⟩
/-- A slice value that reads as the list of vectors. -/
def SliVs (w : World) (v : Value) (l : List (Int × Int)) : Prop := ∃ (a : Option Addr) (cap : Nat), v = .slice a l.length cap ∧ l.length ≤ cap ∧ cap ≤ 9223372036854775807 ∧ ArgVs w a l
theorem SliVs.past {w w' : World} {v : Value} {l : List (Int × Int)} (h : SliVs w v l) (hb : Below w.heap.size w w') : SliVs w' v l := by
  obtain ⟨a, cap, h1, h2, h3, h4⟩ := h
  exact ⟨a, cap, h1, h2, h3, h4.past hb⟩
/-- What a call hands back, where the answer is known: a slice of vectors, and an error. -/
def VsIs (w : World) (L : List (Int × Int)) (er : Int) (e : Ending) (w' : World) : Prop := ∃ (a : Option Addr) (cap : Nat), e = .returned (.tuple #[.slice a L.length cap, .int .i64 er]) ∧ SliVs w' (.slice a L.length cap) L ∧ Below w.heap.size w w'
theorem sliVs_len {w : World} {a : Option Addr} {n cap : Nat} {l : List (Int × Int)} (h : SliVs w (.slice a n cap) l) : n = l.length ∧ l.length ≤ cap ∧ cap ≤ 9223372036854775807 ∧ ArgVs w a l := by
  obtain ⟨a', c', e, h1, h2, h3⟩ := h
  cases e
  exact ⟨rfl, h1, h2, h3⟩
end Go.Proofs.YtjhhcljbmnomlaaGreat

namespace Go.Proofs.YtjhhcljbmnomlaaGreat
open Go.ChangeShapes Go.WideShapes Go.ChangeAt Go.RowKit
attribute [local irreducible] Go.Calls

theorem Tryz.infoBound : (Tryz.prog.info? 205).map (fun i => (i.zero, i.size, i.bytes)) = some (some (.agg #[.nilFunc]), 1, 8) := by kernel_rfl
/-- A function value that answers a bound. -/
def BdV (w : World) (v : Value) (b : Bd) : Prop :=
  match b with
  | .most => v = .func (.func 174) #[] #[]
  | .rest => v = .func (.func 176) #[] #[]
  | .lim u => ∃ p, v = .func (.func 178) #[] #[.pointer (some ⟨p, 0, none⟩)] ∧ Blk w p #[.int .i64 u.1, .int .i64 u.2] 65
theorem BdV.past {w w' : World} {v : Value} {b : Bd} (h : BdV w v b) (hb : Below w.heap.size w w') : BdV w' v b := by
  cases b with
  | most => exact h
  | rest => exact h
  | lim u => obtain ⟨p, h1, h2⟩ := h; exact ⟨p, h1, h2.past hb⟩
def BdX (w : World) (xs : List Value) (bs : List Bd) : Prop := xs.length = bs.length ∧ ∀ i, i < xs.length → BdV w (xs.getD i (.slice none 0 0)) (bs.getD i .most)
theorem BdX.past {w w' : World} {xs : List Value} {bs : List Bd} (h : BdX w xs bs) (hb : Below w.heap.size w w') : BdX w' xs bs := ⟨h.1, fun i hi => (h.2 i hi).past hb⟩
/-- The row begins with the bound that there always is. -/
def OwnB (w : World) (B : Nat) (v : Value) (xs : List Value) (bs : List Bd) : Prop := w.ownsRow B 205 1 v xs.length xs ∧ BdX w xs bs ∧ xs.head? = some (.func (.func 174) #[] #[])
theorem own_ne {w : World} {B p : Nat} {e t : TypeId} {v : Value} {n : Nat} {xs : List Value} {f : Fn} {r c cs : Array Value} {x : Int} (h : w.ownsRow B e 1 v n xs) (h0 : xs.head? = some (.func f r c)) (hB : Blk w p cs t) (hc : cs[0]? = some (.int .i64 x)) : v.ownBlock ≠ some p := by
  intro hk
  obtain ⟨h1, h2 | ⟨g, cap, cur, h3, h4, h5, h6, h7, h8, h9⟩⟩ := h
  · rw [h2.1] at hk; simp [Value.ownBlock] at hk
  · rw [h3] at hk; simp [Value.ownBlock] at hk; subst hk
    have e : some (Obj.cells cs t (0, 0)) = some (Obj.cells cur _ (0, 0)) := hB.symm.trans h5
    cases e
    have : xs[0]? = some (.func f r c) := by rw [← List.head?_eq_getElem?]; exact h0
    rw [← h9, List.getElem?_take] at this
    split at this
    · rw [Array.getElem?_toList, hc] at this; cases this
    · cases this
theorem OwnB.past {w w' : World} {B : Nat} {v : Value} {xs : List Value} {bs : List Bd} (h : OwnB w B v xs bs) (hb : Below w.heap.size w w') : OwnB w' B v xs bs := ⟨own_below h.1 hb, h.2.1.past hb, h.2.2⟩
theorem OwnB.app {w w' : World} {B : Nat} {v v' fv : Value} {xs : List Value} {bs : List Bd} {b : Bd} (h : OwnB w B v xs bs) (hg : w.grownBy w' v.ownBlock) (ho : w'.ownsRow B 205 1 v' (xs.length + 1) (xs ++ [fv])) (hv : BdV w fv b) : OwnB w' B v' (xs ++ [fv]) (bs ++ [b]) := by
  obtain ⟨h1, ⟨h2, h3⟩, h4⟩ := h
  have key : ∀ u c, BdV w u c → BdV w' u c := fun u c hc => by
    cases c with
    | most => exact hc
    | rest => exact hc
    | lim z =>
      obtain ⟨p, e, hB⟩ := hc
      exact ⟨p, e, hB.grown hg (fun e => own_ne h1 h4 hB rfl e.symm)⟩
  have hx : 0 < xs.length := by cases xs with
    | nil => simp at h4
    | cons => simp
  refine ⟨by simpa using ho, ⟨by simp [h2], fun i hi => ?_⟩, ?_⟩
  · rw [getD_snoc, getD_snoc, ← h2]
    simp at hi
    by_cases c : i < xs.length
    · rw [if_pos c, if_pos c]; exact key _ _ (h3 i c)
    · rw [if_neg c, if_neg c, if_pos (by omega), if_pos (by omega)]; exact key _ _ hv
  · cases xs with
    | nil => simp at hx
    | cons => exact h4
theorem new_cells_atF (w : World) (cs : Array Value) (t : TypeId) (k : Nat) (h : k = w.heap.size) : ∀ j u, cs.toList[j]? = some u → (w.alloc (.cells cs t)).cell? ((⟨k, 0, none⟩ : Addr).add j) = some u := by
  subst h; exact new_cells w cs t
/-- A row of bounds is handed back. -/
def BdsR (P : List Pol) (w : World) (e : Ending) (w' : World) : Prop := ∃ (v : Value) (xs : List Value), e = .returned v ∧ SliX w' v xs ∧ BdX w' xs (bds P) ∧ Below w.heap.size w w'
theorem limV_arg {w : World} {B : Nat} {v : Value} {l : List (Int × Int)} (h : LimV w B v l) : ∃ (a : Option Addr) (cap : Nat), v = .slice a l.length cap ∧ ArgVs w a l ∧ l.length ≤ 2 := by
  rcases h with ⟨rfl, rfl⟩ | ⟨q, s, t, rfl, rfl, _, hB⟩
  · exact ⟨none, 0, rfl, fun h => by simp at h, by simp⟩
  · refine ⟨some ⟨q, 0, none⟩, 2, rfl, fun _ => ⟨q, 0, rfl, hB.lt, fun i hi => ?_⟩, by simp⟩
    have c0 := hB.cell 0; have c1 := hB.cell 1; have c2 := hB.cell 2; have c3 := hB.cell 3
    simp at hi c0 c1 c2 c3
    match i, hi with
    | 0, _ => exact ⟨c0, c1⟩
    | 1, _ => exact ⟨c2, c3⟩
theorem LimV.past {w w' : World} {B : Nat} {v : Value} {l : List (Int × Int)} (h : LimV w B v l) (hb : Below w.heap.size w w') : LimV w' B v l := by
  rcases h with h | ⟨q, s, t, h1, h2, h3, h4⟩
  · exact .inl h
  · exact .inr ⟨q, s, t, h1, h2, h3, h4.past hb⟩
theorem LimV.grown {w w' : World} {B C : Nat} {v vo : Value} {l : List (Int × Int)} {xs : List Value} {bs : List Bd} (h : LimV w B v l) (ho : OwnB w C vo xs bs) (hg : w.grownBy w' vo.ownBlock) : LimV w' B v l := by
  rcases h with h | ⟨q, s, t, h1, h2, h3, h4⟩
  · exact .inl h
  · exact .inr ⟨q, s, t, h1, h2, h3, h4.grown hg (fun e => own_ne ho.1 ho.2.2 h4 rfl e.symm)⟩
set_option maxRecDepth 100000 in
set_option maxHeartbeats 2000000 in
theorem bounds_c (P : List Pol) (a : Option Addr) (cap : Nat) (w : World) (hl : P.length ≤ 1000000) (hA : ArgPs w a P) :
    Calls Tryz.prog 129 #[.slice a P.length cap] w (BdsR P w) := by
  have HLM := hidE (fun w hA => limits_c P a cap w hl hA)
  have HCM := hidE (fun w hA => cm_any P a cap w (by omega) hA)
  have HLL := hidE (bds_len P)
  obtain ⟨ix, hix, hz0, hz1, hz2⟩ := info_parts Tryz.infoBound
  have HI := hidE hix; have HZ0 := hidE hz0; have HZ1 := hidE hz1; have HZ2 := hidE hz2
  obtain ⟨w0, hw0⟩ : ∃ w0, w0 = w.alloc (Obj.cells #[.func (.func 174) #[] #[]] 205) := ⟨_, rfl⟩
  have hb0 : Below w.heap.size w w0 := by rw [hw0]; (repeat (first | exact Below.refl _ _ | assumption | refine balloc ?_ _ | refine below_drewN ?_ _ | refine bstep (by assumption) ?_ | refine bstep (Past.prop _) ?_ | refine Below.setCell ?_ (by first | exact Nat.le_refl _ | (simp; done) | (simp; omega)) _))
  have ho0 : OwnB w0 w.heap.size (.slice (some ⟨w.heap.size, 0, none⟩) 1 1) [.func (.func 174) #[] #[]] [.most] := by
    rw [hw0]
    refine ⟨by simpa using World.ownsRow_lit (e := 205) (size := 1) (base := w.heap.size) w #[.func (.func 174) #[] #[]] 1 (Nat.le_refl _) (by unfold maxLen; omega) rfl, ⟨rfl, fun i hi => ?_⟩, rfl⟩
    simp at hi; subst hi; rfl
  have HA := hidE hA; have HB0 := hidE hb0; have HO0 := hidE ho0
  clear hA hix hz0 hz1 hz2 hb0 ho0
  have HB : hasC P = P.any commB := rfl
  have HBD := hidE (show bds P = ([.most] ++ (if P.any commB then [.rest] else [])) ++ (limS P).map .lim from by unfold bds; rw [HB]; rfl)
  cases hcm : P.any commB
  · rw [hcm] at HCM HBD
    clear hcm HB
    go_enter Tryz.func129, Tryz.ntmps129
    go_upto_region 2 with fail
    rw [← hw0]
    clear hw0
    go_wp2_with fail
    ((with_reducible refine (HCM.out _ (HA.out.past HB0.out)).mono ?_); rintro e w1 ⟨rfl, hb1⟩)
    have HO1 := hidE (HO0.out.past hb1); have HB1 := hidE (bstep hb1 HB0.out)
    clear hb1
    go_wp2_with fail
    ((with_reducible refine (HLM.out _ (HA.out.past HB1.out)).mono ?_); rintro e w2 ⟨v2, rfl, hv2, hb2⟩)
    obtain ⟨a2, c2, rfl, hA2, hl2⟩ := limV_arg hv2
    have HO2 := hidE (HO1.out.past hb2); have HB2 := hidE (bstep hb2 HB1.out); have HA2 := hidE hv2; have HL2 := hidE hl2
    clear hb2 hv2 hA2 hl2
    have hsz2 := HB2.out.size
    go_wp2
    go_loopg [3, 17] (limS P).length (fun g v3 v17 wr => ∃ (k : Nat) (av : Option Addr) (cv : Nat) (xs : List Value), v3 = .slice av xs.length cv ∧ v17 = .int .i64 k ∧ k ≤ (limS P).length ∧ (limS P).length - k ≤ g ∧ OwnB wr w.heap.size (.slice av xs.length cv) xs ([.most] ++ ((limS P).take k).map .lim) ∧ Below w.heap.size w wr ∧ LimV wr w1.heap.size (.slice a2 (limS P).length c2) (limS P))
    case atStart => exact ⟨0, _, _, _, rfl, rfl, Nat.zero_le _, Nat.le_refl _, HO2.out, HB2.out, HA2.out⟩
    case round =>
      obtain ⟨k, av, cv, xs, rfl, rfl, hk, hg, ho, hb, hbb⟩ := hrel
      have HO := hidE ho; have HB := hidE hb; have HG := hidE hg; have HBB := hidE hbb
      have hxl := ho.2.1.1
      have HXL := hidE hxl
      have hL2 := HL2.out
      have hxn : xs.length ≤ 4 := by rw [hxl]; simp; omega
      have HXN := hidE hxn
      have hwz := hb.size
      clear ho hb hg hbb hxl hL2 hxn
      by_cases hlt : k < (limS P).length
      · obtain ⟨_, _, eL, hAL, _⟩ := limV_arg HBB.out
        cases eL
        obtain ⟨b, off, rfl, hbz, hc⟩ := hAL (by omega)
        obtain ⟨e0, e1⟩ := hc k hlt
        have HS := hidE (show ((limS P).take (k + 1)).map Bd.lim = ((limS P).take k).map Bd.lim ++ [.lim ((limS P).getD k (0, 0))] by
          rw [List.take_succ_eq_append_getElem hlt, getD_get _ _ _ hlt, List.map_append]; rfl)
        generalize (limS P).getD k (0, 0) = u at *
        obtain ⟨um, uc⟩ := u
        simp only at e0 e1
        clear hc hAL
        go_wp2_with (at_builtin; refine wpList_append_own _ rfl (.tmp 21) (.tmp 24) 201 rfl w.heap.size 205 ix (.agg #[.nilFunc]) 1 8 Tryz.underlying201 HI.out HZ0.out HZ1.out HZ2.out rfl (by decide) _ _ _ rfl ((HO.out.1.alloc _).alloc _) ⟨_, 0, none⟩ 1 1 [.func (.func 178) #[] #[.pointer (some ⟨wr.heap.size, 0, none⟩)]] rfl rfl (new_cells_atF _ #[.func (.func 178) #[] #[.pointer (some ⟨wr.heap.size, 0, none⟩)]] 205 _ (by simp)) (by intro x hx; simp at hx; rcases hx with rfl; rfl) (by unfold maxLen; have := HXN.out; omega) (by have := HXN.out; omega) (by simp; omega) ?_; intro v4 w4 hown4 hgrow4 _; obtain ⟨a4, c4, rfl⟩ := own_sli hown4)
        have HN4 := hidE (HO.out.past (w' := (wr.alloc (Obj.cells #[.int .i64 um, .int .i64 uc] 65)).alloc (Obj.cells #[.func (.func 178) #[] #[.pointer (some ⟨wr.heap.size, 0, none⟩)]] 205)) (by (repeat (first | exact Below.refl _ _ | assumption | refine balloc ?_ _ | refine below_drewN ?_ _ | refine bstep (by assumption) ?_ | refine bstep (Past.prop _) ?_ | refine Below.setCell ?_ (by first | exact Nat.le_refl _ | (simp; done) | (simp; omega)) _))) |>.app hgrow4 hown4 (b := .lim (um, uc)) ⟨wr.heap.size, rfl, (Blk.made _ _ _).alloc _⟩)
        have p4 : Below w.heap.size w w4 := Below.grown (by have := HB.out; (repeat (first | exact Below.refl _ _ | assumption | refine balloc ?_ _ | refine below_drewN ?_ _ | refine bstep (by assumption) ?_ | refine bstep (Past.prop _) ?_ | refine Below.setCell ?_ (by first | exact Nat.le_refl _ | (simp; done) | (simp; omega)) _))) hgrow4 (by simp; omega) (fun k hk => (HO.out.1.lt k hk).1)
        have HL4 := hidE ((HBB.out.past (w' := (wr.alloc (Obj.cells #[.int .i64 um, .int .i64 uc] 65)).alloc (Obj.cells #[.func (.func 178) #[] #[.pointer (some ⟨wr.heap.size, 0, none⟩)]] 205)) (by (repeat (first | exact Below.refl _ _ | assumption | refine balloc ?_ _ | refine below_drewN ?_ _ | refine bstep (by assumption) ?_ | refine bstep (Past.prop _) ?_ | refine Below.setCell ?_ (by first | exact Nat.le_refl _ | (simp; done) | (simp; omega)) _)))).grown (HO.out.past (by (repeat (first | exact Below.refl _ _ | assumption | refine balloc ?_ _ | refine below_drewN ?_ _ | refine bstep (by assumption) ?_ | refine bstep (Past.prop _) ?_ | refine Below.setCell ?_ (by first | exact Nat.le_refl _ | (simp; done) | (simp; omega)) _)))) hgrow4)
        have P4 := hidE p4
        have hxe : xs.length + 1 = (xs ++ [Value.func (.func 178) #[] #[.pointer (some ⟨wr.heap.size, 0, none⟩)]]).length := by simp
        clear hown4 hgrow4 p4 e0 e1
        go_wp2
        go_roundg ((limS P).length - (k + 1))
        case measure => have := HG.out; omega
        case rel =>
          refine ⟨k + 1, a4, c4, _, by rw [← hxe], by go_num, by omega, Nat.le_refl _, ?_, P4.out, HL4.out⟩
          have := HN4.out
          rw [hxe] at this
          rw [HS.out, ← List.append_assoc]
          exact this
      · have hkl : k = (limS P).length := by omega
        have HF := hidE HO.out
        rw [hkl, List.take_length] at HF
        have HE := hidE (show bds P = [.most] ++ (limS P).map .lim from HBD.out)
        clear hkl HO
        go_wp2
        go_ret
        exact ⟨_, xs, rfl, sliX_own HF.out.1, by rw [HE.out]; exact HF.out.2.1, HB.out⟩
  · rw [hcm] at HCM HBD
    clear hcm HB
    go_enter Tryz.func129, Tryz.ntmps129
    go_upto_region 2 with fail
    rw [← hw0]
    clear hw0
    go_wp2_with fail
    ((with_reducible refine (HCM.out _ (HA.out.past HB0.out)).mono ?_); rintro e w1 ⟨rfl, hb1⟩)
    have HO1 := hidE (HO0.out.past hb1); have HB1 := hidE (bstep hb1 HB0.out)
    have hsz1 := hb1.size; have hsz0 := HB1.out.size
    clear hb1
    go_upto_region 4 with (at_builtin; refine wpList_append_own _ rfl (.tmp 10) (.tmp 12) 201 rfl w.heap.size 205 ix (.agg #[.nilFunc]) 1 8 Tryz.underlying201 HI.out HZ0.out HZ1.out HZ2.out rfl (by decide) _ _ _ rfl (HO1.out.1.alloc _) ⟨_, 0, none⟩ 1 1 [.func (.func 176) #[] #[]] rfl rfl (new_cells_atF _ #[.func (.func 176) #[] #[]] 205 _ (by simp)) (by intro x hx; simp at hx; rcases hx with rfl; rfl) (by unfold maxLen; simp) (by simp) (by simp; omega) ?_; intro v4 w4 hown4 hgrow4 _; obtain ⟨a4, c4, rfl⟩ := own_sli hown4)
    have HO3 := hidE (HO1.out.past (w' := w1.alloc (Obj.cells #[.func (.func 176) #[] #[]] 205)) (by (repeat (first | exact Below.refl _ _ | assumption | refine balloc ?_ _ | refine below_drewN ?_ _ | refine bstep (by assumption) ?_ | refine bstep (Past.prop _) ?_ | refine Below.setCell ?_ (by first | exact Nat.le_refl _ | (simp; done) | (simp; omega)) _))) |>.app hgrow4 hown4 (b := .rest) rfl)
    have HB3 := hidE (Below.grown (by have := HB1.out; (repeat (first | exact Below.refl _ _ | assumption | refine balloc ?_ _ | refine below_drewN ?_ _ | refine bstep (by assumption) ?_ | refine bstep (Past.prop _) ?_ | refine Below.setCell ?_ (by first | exact Nat.le_refl _ | (simp; done) | (simp; omega)) _))) hgrow4 (by simp; omega) (fun k hk => (HO1.out.1.lt k hk).1) : Below w.heap.size w w4)
    clear hown4 hgrow4 hsz0 hsz1
    go_wp2_with fail
    ((with_reducible refine (HLM.out _ (HA.out.past HB3.out)).mono ?_); rintro e w2 ⟨v2, rfl, hv2, hb2⟩)
    obtain ⟨a2, c2, rfl, hA2, hl2⟩ := limV_arg hv2
    have HO2 := hidE (HO3.out.past hb2); have HB2 := hidE (bstep hb2 HB3.out); have HA2 := hidE hv2; have HL2 := hidE hl2
    clear hb2 hv2 hA2 hl2
    have hsz2 := HB2.out.size
    go_wp2
    go_loopg [3, 17] (limS P).length (fun g v3 v17 wr => ∃ (k : Nat) (av : Option Addr) (cv : Nat) (xs : List Value), v3 = .slice av xs.length cv ∧ v17 = .int .i64 k ∧ k ≤ (limS P).length ∧ (limS P).length - k ≤ g ∧ OwnB wr w.heap.size (.slice av xs.length cv) xs ([.most, .rest] ++ ((limS P).take k).map .lim) ∧ Below w.heap.size w wr ∧ LimV wr w4.heap.size (.slice a2 (limS P).length c2) (limS P))
    case atStart => exact ⟨0, _, _, _, rfl, rfl, Nat.zero_le _, Nat.le_refl _, HO2.out, HB2.out, HA2.out⟩
    case round =>
      obtain ⟨k, av, cv, xs, rfl, rfl, hk, hg, ho, hb, hbb⟩ := hrel
      have HO := hidE ho; have HB := hidE hb; have HG := hidE hg; have HBB := hidE hbb
      have hxl := ho.2.1.1
      have HXL := hidE hxl
      have hL2 := HL2.out
      have hxn : xs.length ≤ 4 := by rw [hxl]; simp; omega
      have HXN := hidE hxn
      have hwz := hb.size
      clear ho hb hg hbb hxl hL2 hxn
      by_cases hlt : k < (limS P).length
      · obtain ⟨_, _, eL, hAL, _⟩ := limV_arg HBB.out
        cases eL
        obtain ⟨b, off, rfl, hbz, hc⟩ := hAL (by omega)
        obtain ⟨e0, e1⟩ := hc k hlt
        have HS := hidE (show ((limS P).take (k + 1)).map Bd.lim = ((limS P).take k).map Bd.lim ++ [.lim ((limS P).getD k (0, 0))] by
          rw [List.take_succ_eq_append_getElem hlt, getD_get _ _ _ hlt, List.map_append]; rfl)
        generalize (limS P).getD k (0, 0) = u at *
        obtain ⟨um, uc⟩ := u
        simp only at e0 e1
        clear hc hAL
        go_wp2_with (at_builtin; refine wpList_append_own _ rfl (.tmp 21) (.tmp 24) 201 rfl w.heap.size 205 ix (.agg #[.nilFunc]) 1 8 Tryz.underlying201 HI.out HZ0.out HZ1.out HZ2.out rfl (by decide) _ _ _ rfl ((HO.out.1.alloc _).alloc _) ⟨_, 0, none⟩ 1 1 [.func (.func 178) #[] #[.pointer (some ⟨wr.heap.size, 0, none⟩)]] rfl rfl (new_cells_atF _ #[.func (.func 178) #[] #[.pointer (some ⟨wr.heap.size, 0, none⟩)]] 205 _ (by simp)) (by intro x hx; simp at hx; rcases hx with rfl; rfl) (by unfold maxLen; have := HXN.out; omega) (by have := HXN.out; omega) (by simp; omega) ?_; intro v5 w5 hown4 hgrow4 _; obtain ⟨a5, c5, rfl⟩ := own_sli hown4)
        have HN4 := hidE (HO.out.past (w' := (wr.alloc (Obj.cells #[.int .i64 um, .int .i64 uc] 65)).alloc (Obj.cells #[.func (.func 178) #[] #[.pointer (some ⟨wr.heap.size, 0, none⟩)]] 205)) (by (repeat (first | exact Below.refl _ _ | assumption | refine balloc ?_ _ | refine below_drewN ?_ _ | refine bstep (by assumption) ?_ | refine bstep (Past.prop _) ?_ | refine Below.setCell ?_ (by first | exact Nat.le_refl _ | (simp; done) | (simp; omega)) _))) |>.app hgrow4 hown4 (b := .lim (um, uc)) ⟨wr.heap.size, rfl, (Blk.made _ _ _).alloc _⟩)
        have p4 : Below w.heap.size w w5 := Below.grown (by have := HB.out; (repeat (first | exact Below.refl _ _ | assumption | refine balloc ?_ _ | refine below_drewN ?_ _ | refine bstep (by assumption) ?_ | refine bstep (Past.prop _) ?_ | refine Below.setCell ?_ (by first | exact Nat.le_refl _ | (simp; done) | (simp; omega)) _))) hgrow4 (by simp; omega) (fun k hk => (HO.out.1.lt k hk).1)
        have HL4 := hidE ((HBB.out.past (w' := (wr.alloc (Obj.cells #[.int .i64 um, .int .i64 uc] 65)).alloc (Obj.cells #[.func (.func 178) #[] #[.pointer (some ⟨wr.heap.size, 0, none⟩)]] 205)) (by (repeat (first | exact Below.refl _ _ | assumption | refine balloc ?_ _ | refine below_drewN ?_ _ | refine bstep (by assumption) ?_ | refine bstep (Past.prop _) ?_ | refine Below.setCell ?_ (by first | exact Nat.le_refl _ | (simp; done) | (simp; omega)) _)))).grown (HO.out.past (by (repeat (first | exact Below.refl _ _ | assumption | refine balloc ?_ _ | refine below_drewN ?_ _ | refine bstep (by assumption) ?_ | refine bstep (Past.prop _) ?_ | refine Below.setCell ?_ (by first | exact Nat.le_refl _ | (simp; done) | (simp; omega)) _)))) hgrow4)
        have P4 := hidE p4
        have hxe : xs.length + 1 = (xs ++ [Value.func (.func 178) #[] #[.pointer (some ⟨wr.heap.size, 0, none⟩)]]).length := by simp
        clear hown4 hgrow4 p4 e0 e1
        go_wp2
        go_roundg ((limS P).length - (k + 1))
        case measure => have := HG.out; omega
        case rel =>
          refine ⟨k + 1, a5, c5, _, by rw [← hxe], by go_num, by omega, Nat.le_refl _, ?_, P4.out, HL4.out⟩
          have := HN4.out
          rw [hxe] at this
          rw [HS.out, ← List.append_assoc]
          exact this
      · have hkl : k = (limS P).length := by omega
        have HF := hidE HO.out
        rw [hkl, List.take_length] at HF
        have HE := hidE (show bds P = [.most, .rest] ++ (limS P).map .lim from HBD.out)
        clear hkl HO
        go_wp2
        go_ret
        exact ⟨_, xs, rfl, sliX_own HF.out.1, by rw [HE.out]; exact HF.out.2.1, HB.out⟩
end Go.Proofs.YtjhhcljbmnomlaaGreat

namespace Go.Proofs.YtjhhcljbmnomlaaGreat
open Go.ChangeShapes Go.WideShapes Go.ChangeAt Go.RowKit
attribute [local irreducible] Go.Calls

theorem MinIs.one {F : List Sg} (h : mayB F = true) : MinIs [F] F := ⟨h, fun t a => by simp⟩
theorem MinIs.snoc {Fs : List (List Sg)} {F G : List Sg} (h : MinIs Fs F) (hG : mayB G = true) : doS 2 F G = (opL 2 F G, 0) ∧ MinIs (Fs ++ [G]) (opL 2 F G) ∧ (opL 2 F G).length ≤ F.length + G.length := by
  obtain ⟨L, e, hL, hv⟩ := low_is h.1 hG
  have e2 : doS 2 F G = (opL 2 F G, 0) := by
    have hok : opOk 2 F G = true := opOk_iff.2 fun t => rfl
    unfold doS; rw [h.1, hG, if_neg (by decide), if_pos hok]
  rw [e2] at e; cases e
  refine ⟨e2, ⟨hL, fun t a => ?_⟩, opL_len _ _ _⟩
  rw [hv t]
  have q := h.2 t a
  simp only [mn_min, List.mem_append, List.mem_singleton]
  constructor
  · rw [show a ≤ min (vat F t).1 (vat G t).1 ↔ a ≤ (vat F t).1 ∧ a ≤ (vat G t).1 by omega, q.1]
    exact ⟨fun ⟨a1, a2⟩ H hH => hH.elim (a1 H) (fun e => by rw [e]; exact a2), fun k => ⟨fun H hH => k H (.inl hH), k G (.inr rfl)⟩⟩
  · rw [show a ≤ min (vat F t).2 (vat G t).2 ↔ a ≤ (vat F t).2 ∧ a ≤ (vat G t).2 by omega, q.2]
    exact ⟨fun ⟨a1, a2⟩ H hH => hH.elim (a1 H) (fun e => by rw [e]; exact a2), fun k => ⟨fun H hH => k H (.inl hH), k G (.inr rfl)⟩⟩
/-- The least is handed back. -/
def LowR (Fs : List (List Sg)) (K : Nat) (w : World) (e : Ending) (w' : World) : Prop := ∃ (a : Option Addr) (n cap : Nat) (f : List Sg), e = .returned (.slice a n cap) ∧ SliS w' (.slice a n cap) f ∧ MinIs Fs f ∧ f.length ≤ 4 * K ∧ Below w.heap.size w w'
set_option maxRecDepth 100000 in
set_option maxHeartbeats 2000000 in
theorem lowest_c (Fs : List (List Sg)) (xs : List Value) (v : Value) (K : Nat) (w : World) (h0 : 0 < Fs.length) (h4 : Fs.length ≤ 4) (hS : SliX w v xs) (hR : RowX w xs Fs)
    (hm : ∀ i, i < Fs.length → mayB (Fs.getD i []) = true ∧ (Fs.getD i []).length ≤ K) (hK : K ≤ 1000000) :
    Calls Tryz.prog 130 #[v] w (LowR Fs K w) := by
  obtain ⟨a, cap, rfl, hc1, hc2, hc⟩ := hS
  obtain ⟨b, off, rfl, hbz, hcx⟩ := hc (by rw [hR.1]; exact h0)
  obtain ⟨m, hm1⟩ : ∃ m, xs.length = m + 1 := ⟨xs.length - 1, by have := hR.1; omega⟩
  have hFl : Fs.length = m + 1 := by rw [← hR.1]; exact hm1
  have HM := hidE hm
  have HR := hidE hR
  have hs0 := hR.2 0 (by omega)
  obtain ⟨a0, c0, e0, g1, g2, g3⟩ := hs0
  have k0 := hcx 0 (by omega)
  rw [e0, Nat.add_zero] at k0
  have HS0 := hidE (show SliS w (.slice a0 (Fs.getD 0 []).length c0) (Fs.getD 0 []) from ⟨a0, c0, rfl, g1, g2, g3⟩)
  have HM0 := hidE (show MinIs (Fs.take 1) (Fs.getD 0 []) by
    have : Fs.take 1 = [Fs.getD 0 []] := by
      cases Fs with
      | nil => simp at h0
      | cons => rfl
    rw [this]; exact MinIs.one (hm 0 h0).1)
  have HL0 := hidE (hm 0 h0).2
  have HCX := hidE hcx; have HFL := hidE hFl
  generalize Fs.getD 0 [] = F0 at *
  rw [hm1] at hc1
  rw [hm1]
  clear hR e0 g1 g2 g3 hc hcx hm hFl
  have hm3 : m ≤ 3 := by have := HFL.out; omega
  go_enter Tryz.func130, Tryz.ntmps130
  go_wp2
  · have hm0 : m = 0 := by omega
    subst hm0
    have HMF := hidE (show MinIs Fs F0 by have := HM0.out; rw [show (1 : Nat) = Fs.length from HFL.out.symm, List.take_length] at this; exact this)
    go_loopg [3, 12] 0 (fun g v3 v12 wr => v3 = .slice a0 F0.length c0 ∧ v12 = .int .i64 0 ∧ Below w.heap.size w wr)
    case atStart => exact ⟨rfl, rfl, by (repeat (first | exact Below.refl _ _ | assumption | refine balloc ?_ _ | refine below_drewN ?_ _ | refine bstep (by assumption) ?_ | refine bstep (Past.prop _) ?_ | refine Below.setCell ?_ (by first | exact Nat.le_refl _ | (simp; done) | (simp; omega)) _))⟩
    case round =>
      obtain ⟨rfl, rfl, hb⟩ := hrel
      have HB := hidE hb
      clear hb
      go_wp2
      go_ret
      exact ⟨_, _, _, F0, rfl, HS0.out.past HB.out, HMF.out, by have := HL0.out; omega, HB.out⟩
  · go_loopg [3, 12] m (fun g v3 v12 wr => ∃ (k : Nat) (a : Option Addr) (c : Nat) (F : List Sg), v3 = .slice a F.length c ∧ v12 = .int .i64 k ∧ k ≤ m ∧ m - k ≤ g ∧ SliS wr (.slice a F.length c) F ∧ MinIs (Fs.take (k + 1)) F ∧ F.length ≤ (k + 1) * K ∧ Below w.heap.size w wr)
    case atStart => exact ⟨0, a0, c0, F0, rfl, rfl, Nat.zero_le _, Nat.le_refl _, HS0.out, HM0.out, by have := HL0.out; omega, by (repeat (first | exact Below.refl _ _ | assumption | refine balloc ?_ _ | refine below_drewN ?_ _ | refine bstep (by assumption) ?_ | refine bstep (Past.prop _) ?_ | refine Below.setCell ?_ (by first | exact Nat.le_refl _ | (simp; done) | (simp; omega)) _))⟩
    case round =>
      obtain ⟨k, a, c, F, rfl, rfl, hk, hg, hs, hmi, hln, hb⟩ := hrel
      by_cases hlt : k < m
      · have k1 := HCX.out (k + 1) (by omega)
        have hs1 := HR.out.2 (k + 1) (by omega)
        obtain ⟨a1, c1, e1, g1, g2, g3⟩ := hs1
        rw [e1, show off + (k + 1) = off + 1 + k by omega, ← hb.cell hbz] at k1
        have hbr : b < wr.heap.size := Nat.lt_of_lt_of_le hbz hb.size
        obtain ⟨q1, q2⟩ := HM.out (k + 1) (by have := HFL.out; omega)
        obtain ⟨d1, d2, d3⟩ := hmi.snoc q1
        have HT := hidE (show Fs.take (k + 1 + 1) = Fs.take (k + 1) ++ [Fs.getD (k + 1) []] by
          have := HFL.out
          rw [List.take_succ_eq_append_getElem (by omega), getD_get _ _ _ (by omega)])
        have HG1 := hidE (show SliS wr (.slice a1 (Fs.getD (k + 1) []).length c1) (Fs.getD (k + 1) []) from SliS.past (w := w) ⟨a1, c1, rfl, g1, g2, g3⟩ hb)
        generalize Fs.getD (k + 1) [] = G at *
        obtain ⟨_, _, e2, g4, g5, g6⟩ := hs
        cases e2
        have hkk : (k + 1) * K ≤ 4 * K := Nat.mul_le_mul_right _ (by omega)
        have HC := hidE (fun w h1 h2 => cmn_c F G a a1 c c1 w g4 g5 g1 g2 (by omega) h1 h2)
        rw [d1] at HC
        have HF := hidE (g6.past (Below.refl _ _)); have HG := hidE (g3.past hb)
        have HMI := hidE d2; have HLN := hidE (show (opL 2 F G).length ≤ (k + 1 + 1) * K by rw [Nat.succ_mul]; omega)
        have HB := hidE hb; have HGK := hidE hg
        generalize opL 2 F G = R at *
        clear hg hmi hln hb q1 q2 d1 d2 d3 e1 g1 g2 g3 g4 g5 g6
        go_wp2_with fail
        ((with_reducible refine (HC.out _ HF.out HG.out).mono ?_); rintro e w2 ⟨v2, rfl, hv2, hb2⟩)
        obtain ⟨a5, c5, rfl, g7, g8, g9⟩ := hv2
        have HV := hidE (show SliS w2 (.slice a5 R.length c5) R from ⟨a5, c5, rfl, g7, g8, g9⟩); have HB2 := hidE (bstep hb2 HB.out)
        clear g7 g8 g9 hb2 k1 hbr
        go_wp2
        go_roundg (m - (k + 1))
        case measure => have := HGK.out; omega
        case rel => exact ⟨k + 1, a5, c5, R, rfl, by go_num, by omega, Nat.le_refl _, HV.out, by rw [HT.out]; exact HMI.out, HLN.out, HB2.out⟩
      · have hkm : k = m := by omega
        have HS := hidE hs; have HB := hidE hb
        have HMI := hidE (show MinIs Fs F by rw [hkm, ← HFL.out, List.take_length] at hmi; exact hmi)
        have HLN := hidE (show F.length ≤ 4 * K from Nat.le_trans hln (Nat.mul_le_mul_right _ (by omega)))
        clear hs hmi hln hb hg hkm
        go_wp2
        go_ret
        exact ⟨_, _, _, F, rfl, HS.out, HMI.out, HLN.out, HB.out⟩
end Go.Proofs.YtjhhcljbmnomlaaGreat
