/- The contracts of calc.next and calc.pass. No conditions but that the slices' cells read as integers. The contract of the iterator (calc.pair).together: it hands on the times, and both values, one after the other. No conditions but that the slices' cells read as integers, and sizes. The contracts of vec.May and what it calls: each gives what its plain function says, whatever it is given, and only makes memory. No conditions. The contracts of vec.Min and vec.Max. No conditions. The contracts of vec.Sub and Add, on what vec.May's text says. No conditions but that a slice's cells read as integers. The contracts of the operations that calc combines by: plus, vec.Sub, and vec.Min and vec.Max behind always. No conditions. A row of integers of a call's own, and what its exchanges come to. No conditions. slices.swapRangeCmpFunc over a row of integers of the call's own. No conditions but the row's size. slices.rotateCmpFunc over a row of integers of the call's own. No conditions but the row's size. The comparison of two runs by their times, handed on with the runs bound to it. No conditions but that the runs' cells read as integers. slices.insertionSortCmpFunc over a row of indices of the call's own, by the comparison of the runs' times. No conditions but the row's size. slices.symMergeCmpFunc where the first row is one element. No conditions but the row's size. slices.symMergeCmpFunc where the second row is one element. No conditions but the row's size. slices.symMergeCmpFunc, its general case, and the whole. No conditions but the row's size. slices.SortStableFunc over a row of indices of the call's own, by the comparison of the runs' times. No conditions but the row's size. The statements' own runs. No conditions. The contracts of rle's small functions. No conditions but that the lists' cells read as integers. The contract of rle.inOrder: the places of the runs in the order of their times. No conditions but the list's size. The contract of rle.Same. No conditions but that the lists' cells read as integers. -/
import Derived.Test.YtlhokgcamcaonaaPYMB
import Derived.Test.YtlhokgcamcaonaaPYGA
import Derived.Test.YtlhokgcamcaonaaPYGC
import Derived.OwnWalkIn
import Derived.Test.YtlhokgcamcaonaaRows
import Derived.Test.YtlhokgcamcaonaaPYMA
import Derived.Outline
import Derived.LoopTactic
import Derived.BigRegion
import Derived.Deep.LoopGhost
import Derived.Deep.DeepCutAuto
import Derived.WalkMore
import Derived.ScopeJumps
import Derived.Laws.MakeOwn
import Derived.Laws.OwnMore
namespace Go.Proofs.Ytlhokgcamcaonaa
open Go.ChangeShapes Go.WideShapes Go.ChangeAt Go.RowKit
attribute [local irreducible] Go.Calls

set_option maxRecDepth 100000 in
theorem next_c (f g : List Sg) (a a' : Option Addr) (cap cap' : Nat) (w : World) (hl : f.length ≤ 1000000000) (hl' : g.length ≤ 1000000000) (hne : ¬ (f.length = 0 ∧ g.length = 0)) (hA : ArgS w a f) (hA' : ArgS w a' g) :
    Calls Try.prog 85 #[.slice a f.length cap, .slice a' g.length cap'] w fun e w' => e = .returned (.int .i64 (nextT f g)) ∧ Below w.heap.size w w' := by
  by_cases hg : g.length = 0
  · have hf : 0 < f.length := by omega
    have HE := hidE (show nextT f g = ats f 0 by unfold nextT; rw [if_pos (.inl hg)])
    obtain ⟨b, off, rfl, hb, hc⟩ := hA hf
    obtain ⟨c0, _, _⟩ := hc.get (i := 0) hf
    simp at c0
    have dg : ((g.length : Int) == 0) = true := beq_iff_eq.2 (by omega)
    clear hA hA' hc hne hg
    rw [HE.out]
    generalize ats f 0 = u at *
    generalize f.length = k at *
    generalize g.length = k' at *
    go_enter Try.func85, Try.ntmps85
    go_wp2
    go_quiet (fail)
    go_wp2
    go_ret
    exact ⟨rfl, by (repeat (first | exact Below.refl _ _ | assumption | refine balloc ?_ _ | refine below_drewN ?_ _ | refine bstep (by assumption) ?_ | refine bstep (Past.prop _) ?_ | refine Below.setCell ?_ (by first | exact Nat.le_refl _ | (simp; done) | (simp; omega)) _))⟩
  · have hg0 : 0 < g.length := by omega
    obtain ⟨b', off', rfl, hb', hc'⟩ := hA' hg0
    obtain ⟨d0, _, _⟩ := hc'.get (i := 0) hg0
    simp at d0
    have dg : ((g.length : Int) == 0) = false := beq_eq_false_iff_ne.2 (by omega)
    by_cases hf : f.length = 0
    · have HE := hidE (show nextT f g = ats g 0 by unfold nextT; rw [if_neg (by omega)])
      have df : decide (0 < f.length) = false := decide_eq_false (by omega)
      clear hA hA' hc' hne hg hf
      rw [HE.out]
      generalize ats g 0 = u at *
      generalize g.length = k at *
      generalize f.length = k' at *
      go_enter Try.func85, Try.ntmps85
      go_wp2
      go_quiet (fail)
      go_wp2
      go_ret
      exact ⟨rfl, by (repeat (first | exact Below.refl _ _ | assumption | refine balloc ?_ _ | refine below_drewN ?_ _ | refine bstep (by assumption) ?_ | refine bstep (Past.prop _) ?_ | refine Below.setCell ?_ (by first | exact Nat.le_refl _ | (simp; done) | (simp; omega)) _))⟩
    · have hf0 : 0 < f.length := by omega
      obtain ⟨b, off, rfl, hb, hc⟩ := hA hf0
      obtain ⟨c0, _, _⟩ := hc.get (i := 0) hf0
      simp at c0
      have df : decide (0 < f.length) = true := decide_eq_true hf0
      by_cases hlt : ats f 0 < ats g 0
      · have HE := hidE (show nextT f g = ats f 0 by unfold nextT; rw [if_pos (.inr ⟨hf0, hlt⟩)])
        have dl : decide (ats f 0 < ats g 0) = true := decide_eq_true hlt
        clear hA hA' hc hc' hne hg hf hlt
        rw [HE.out]
        generalize ats g 0 = u at *
        generalize ats f 0 = u' at *
        generalize g.length = k at *
        generalize f.length = k' at *
        go_enter Try.func85, Try.ntmps85
        go_wp2
        go_quiet (fail)
        go_wp2
        go_ret
        exact ⟨rfl, by (repeat (first | exact Below.refl _ _ | assumption | refine balloc ?_ _ | refine below_drewN ?_ _ | refine bstep (by assumption) ?_ | refine bstep (Past.prop _) ?_ | refine Below.setCell ?_ (by first | exact Nat.le_refl _ | (simp; done) | (simp; omega)) _))⟩
      · have HE := hidE (show nextT f g = ats g 0 by unfold nextT; rw [if_neg (by omega)])
        have dl : decide (ats f 0 < ats g 0) = false := decide_eq_false hlt
        clear hA hA' hc hc' hne hg hf hlt
        rw [HE.out]
        generalize ats g 0 = u at *
        generalize ats f 0 = u' at *
        generalize g.length = k at *
        generalize f.length = k' at *
        go_enter Try.func85, Try.ntmps85
        go_wp2
        go_quiet (fail)
        go_wp2
        go_ret
        exact ⟨rfl, by (repeat (first | exact Below.refl _ _ | assumption | refine balloc ?_ _ | refine below_drewN ?_ _ | refine bstep (by assumption) ?_ | refine bstep (Past.prop _) ?_ | refine Below.setCell ?_ (by first | exact Nat.le_refl _ | (simp; done) | (simp; omega)) _))⟩

/-- A slice value that reads as r wherever the slice a reads as f. -/
def SliAll (a : Option Addr) (f : List Sg) (v : Value) (r : List Sg) : Prop :=
  ∃ (a2 : Option Addr) (cap2 : Nat), v = .slice a2 r.length cap2 ∧ r.length ≤ cap2 ∧ cap2 ≤ 9223372036854775807 ∧ ∀ w0, ArgS w0 a f → ArgS w0 a2 r
theorem sliAll_refl (a : Option Addr) (f : List Sg) (cap : Nat) (h : f.length ≤ cap) (h2 : cap ≤ 9223372036854775807) : SliAll a f (.slice a f.length cap) f := ⟨a, cap, rfl, h, h2, fun _ h => h⟩
theorem argS_tail {b off : Nat} {f : List Sg} (w0 : World) (h : ArgS w0 (some ⟨b, off, none⟩) f) : ArgS w0 (some ⟨b, off + 3, none⟩) (f.drop 1) := fun hl => by
  rw [List.length_drop] at hl
  obtain ⟨b', off', e, hb, hc⟩ := h (by omega)
  cases e
  refine ⟨b, off + 3, rfl, hb, fun i hi => ?_⟩
  rw [List.length_drop] at hi
  obtain ⟨h1, h2, h3⟩ := hc (i + 1) (by omega)
  have e : (f.drop 1).getD i (0, 0, 0) = f.getD (i + 1) (0, 0, 0) := by simp [List.getD_eq_getElem?_getD]
  rw [e, show off + 3 + i * 3 = off + (i + 1) * 3 by omega]
  exact ⟨h1, h2, h3⟩

set_option maxRecDepth 100000 in
theorem pass_c (f : List Sg) (t x y : Int) (a : Option Addr) (cap : Nat) (w : World) (hl : f.length ≤ cap) (hl' : cap ≤ 9223372036854775807) (hA : ArgS w a f) :
    Calls Try.prog 86 #[.slice a f.length cap, .int .i64 t, V x y] w fun e w' => (∃ sv, e = .returned (.tuple #[V (passV f t (x, y)).1 (passV f t (x, y)).2, sv]) ∧ SliAll a f sv (passF f t)) ∧ Below w.heap.size w w' := by
  by_cases hf : f.length = 0
  · have HE := hidE (show passV f t (x, y) = (x, y) by unfold passV hit; rw [if_neg (by rw [hf]; simp)])
    have HF := hidE (show passF f t = f by unfold passF hit; rw [if_neg (by rw [hf]; simp)])
    have HS := hidE (sliAll_refl a f cap hl hl')
    have df : decide (0 < f.length) = false := decide_eq_false (by omega)
    clear hA hf hl hl'
    rw [HE.out, HF.out]
    generalize f.length = k at *
    go_enter Try.func86, Try.ntmps86
    go_wp2
    refine bodyPost_ret (v := .tuple #[V x y, .slice a k cap]) (by simp [results, Try.results86, go_sem, *]) rfl ⟨⟨_, rfl, HS.out⟩, ?_⟩
    (repeat (first | exact Below.refl _ _ | assumption | refine balloc ?_ _ | refine below_drewN ?_ _ | refine bstep (by assumption) ?_ | refine bstep (Past.prop _) ?_ | refine Below.setCell ?_ (by first | exact Nat.le_refl _ | (simp; done) | (simp; omega)) _))
  · have hf0 : 0 < f.length := by omega
    obtain ⟨b, off, rfl, hb, hc⟩ := hA hf0
    obtain ⟨c0, c1, c2⟩ := hc.get (i := 0) hf0
    simp at c0 c1 c2
    have df : decide (0 < f.length) = true := decide_eq_true hf0
    by_cases ht : ats f 0 = t
    · have HE := hidE (show passV f t (x, y) = vls f 0 by unfold passV hit; rw [if_pos (by simp [hf0, ht])])
      have HF := hidE (show passF f t = f.drop 1 by unfold passF hit; rw [if_pos (by simp [hf0, ht])])
      have HS := hidE (argS_tail (b := b) (off := off) (f := f))
      have dt : (ats f 0 == t) = true := beq_iff_eq.2 ht
      have HL := hidE (show (f.drop 1).length = f.length - 1 by rw [List.length_drop])
      clear hA hc hf ht
      rw [HE.out, HF.out]
      generalize f.drop 1 = r at *
      generalize ats f 0 = u at *
      generalize vls f 0 = v at *
      go_enter Try.func86, Try.ntmps86
      go_upto_region 2 with fail
      go_region
      have hB : Below w.heap.size w ((w.alloc (Obj.cells #[Value.int IntKind.i64 x, Value.int IntKind.i64 y] 29)).alloc (Obj.cells #[Value.int IntKind.i64 v.fst, Value.int IntKind.i64 v.snd] 29)).drew :=
        Below.trans (b := (w.alloc (Obj.cells #[Value.int IntKind.i64 x, Value.int IntKind.i64 y] 29)).alloc (Obj.cells #[Value.int IntKind.i64 v.fst, Value.int IntKind.i64 v.snd] 29)) (by (repeat (first | exact Below.refl _ _ | assumption | refine balloc ?_ _ | refine below_drewN ?_ _ | refine bstep (by assumption) ?_ | refine bstep (Past.prop _) ?_ | refine Below.setCell ?_ (by first | exact Nat.le_refl _ | (simp; done) | (simp; omega)) _))) (Below.refl _ _).drew
      have HB := hidE hB
      clear hB
      go_wp2
      · refine bodyPost_ret (v := .tuple #[V v.1 v.2, .slice (if cap = 1 then some ⟨b, off, none⟩ else some ⟨b, off + 3, none⟩) (f.length - 1) (cap - 1)]) (by simp [results, Try.results86, go_sem, *]) rfl ⟨⟨_, rfl, _, _, by rw [HL.out], by rw [HL.out]; omega, by omega, fun w0 h0 hl0 => ?_⟩, HB.out⟩
        rw [HL.out] at hl0
        omega
      · refine bodyPost_ret (v := .tuple #[V v.1 v.2, .slice (if cap = 1 then some ⟨b, off, none⟩ else some ⟨b, off + 3, none⟩) (f.length - 1) (cap - 1)]) (by simp [results, Try.results86, go_sem, *]) rfl ⟨⟨_, rfl, _, _, by rw [HL.out], by rw [HL.out]; omega, by omega, fun w0 h0 => ?_⟩, HB.out⟩
        rw [if_neg (by assumption)]
        exact HS.out w0 h0
    · have HE := hidE (show passV f t (x, y) = (x, y) by unfold passV hit; rw [if_neg (by simp [ht])])
      have HF := hidE (show passF f t = f by unfold passF hit; rw [if_neg (by simp [ht])])
      have HS := hidE (sliAll_refl (some ⟨b, off, none⟩) f cap hl hl')
      have dt : (ats f 0 == t) = false := beq_eq_false_iff_ne.2 ht
      clear hA hc hf hl hl' ht c1 c2
      rw [HE.out, HF.out]
      generalize ats f 0 = u at *
      generalize f.length = k at *
      go_enter Try.func86, Try.ntmps86
      go_wp2
      refine bodyPost_ret (v := .tuple #[V x y, .slice (some ⟨b, off, none⟩) k cap]) (by simp [results, Try.results86, go_sem, *]) rfl ⟨⟨_, rfl, HS.out⟩, ?_⟩
      (repeat (first | exact Below.refl _ _ | assumption | refine balloc ?_ _ | refine below_drewN ?_ _ | refine bstep (by assumption) ?_ | refine bstep (Past.prop _) ?_ | refine Below.setCell ?_ (by first | exact Nat.le_refl _ | (simp; done) | (simp; omega)) _))
end Go.Proofs.Ytlhokgcamcaonaa

namespace Go.Proofs.Ytlhokgcamcaonaa
open Go.ChangeShapes Go.WideShapes Go.ChangeAt Go.RowKit
attribute [local irreducible] Go.Calls

/-- What yield is handed. -/
def encT (p : Tg) : Array Value := #[.int .i64 p.1, .agg #[.int .i64 p.2.1.1, .int .i64 p.2.1.2, .int .i64 p.2.2.1, .int .i64 p.2.2.2]]

/-- Where the walk stands between two rounds. -/
def TogAt (F G : List Sg) (w0 W : World) (J : List Tg → World → Prop) (gh : Nat) (v4 v5 : Value) (wr : World) : Prop :=
  ∃ (f g : List Sg) (x y : Int × Int) (pre : List Tg) (a1 a2 : Option Addr) (c1 c2 : Nat), v4 = .slice a1 f.length c1 ∧ v5 = .slice a2 g.length c2 ∧
    f.length ≤ c1 ∧ c1 ≤ 9223372036854775807 ∧ g.length ≤ c2 ∧ c2 ≤ 9223372036854775807 ∧ ArgS w0 a1 f ∧ ArgS w0 a2 g ∧ f.length + g.length ≤ gh ∧ f.length + g.length ≤ 1000000000 ∧
    pre ++ tog gh f g x y = togL F G ∧ J pre wr ∧ Below w0.heap.size w0 wr ∧ W.heap.size ≤ wr.heap.size ∧ Blk wr (W.heap.size + 1) #[.int .i64 x.1, .int .i64 x.2, .int .i64 y.1, .int .i64 y.2] 132

set_option maxRecDepth 100000 in
set_option maxHeartbeats 2000000 in
theorem tog_c (F G : List Sg) (a a' : Option Addr) (cap cap' : Nat) (fv : Value) (w0 w : World) (hF : F.length ≤ cap) (hc : cap ≤ 9223372036854775807) (hG : G.length ≤ cap') (hc' : cap' ≤ 9223372036854775807)
    (hl : F.length + G.length ≤ 1000000000) (hA : ArgS w0 a F) (hA' : ArgS w0 a' G) (hb : Below w0.heap.size w0 w) :
    SeqT Try.prog 63 #[.agg #[.slice a F.length cap, .slice a' G.length cap', fv]] #[] encT w0.heap.size (togL F G) w := by
  intro l J Jx W hW hJ hJx hY h0
  have H0 := hidE h0; have HJ := hidE hJ; have HJX := hidE hJx; have HY := hidE hY
  have HA := hidE hA; have HA' := hidE hA'
  have hbW : Below w0.heap.size w0 W := hb.trans (hW.mono hb.size)
  have HBW := hidE hbW
  have HL := hidE (And.intro (And.intro hF hc) (And.intro hG hc'))
  clear hA hA' hJ hJx hY h0 hF hG hc hc' hb hW hbW
  show Calls Try.prog 63 #[.agg #[.slice a F.length cap, .slice a' G.length cap', fv], .func (.yield l) #[] #[]] W _
  go_enter Try.func63, Try.ntmps63
  go_wp2
  go_quiet (fail)
  go_wp2
  go_loopg [4, 5, 7] (F.length + G.length) (fun gh v4 v5 _ wr => TogAt F G w0 W J gh v4 v5 wr)
  case atStart =>
    obtain ⟨⟨e1, e2⟩, e3, e4⟩ := HL.out
    refine ⟨F, G, (0, 0), (0, 0), [], a, a', cap, cap', rfl, rfl, e1, e2, e3, e4, HA.out, HA'.out, Nat.le_refl _, hl, rfl, HJ.out _ _ _ H0.out ?_, HBW.out.trans (Below.mono ?_ HBW.out.size), ?_, ?_⟩
    · (repeat (first | exact Below.refl _ _ | assumption | refine balloc ?_ _ | refine below_drewN ?_ _ | refine bstep (by assumption) ?_ | refine bstep (Past.prop _) ?_ | refine Below.setCell ?_ (by first | exact Nat.le_refl _ | (simp; done) | (simp; omega)) _))
    · (repeat (first | exact Below.refl _ _ | assumption | refine balloc ?_ _ | refine below_drewN ?_ _ | refine bstep (by assumption) ?_ | refine bstep (Past.prop _) ?_ | refine Below.setCell ?_ (by first | exact Nat.le_refl _ | (simp; done) | (simp; omega)) _))
    · simp; omega
    · exact Blk.made_at _ _ _ _ (by simp)
  case round =>
    obtain ⟨f, g, x, y, pre, a1, a2, c1, c2, rfl, rfl, l1, m1, l2, m2, k1, k2, hgh, hlen, hpre, hJ1, hB1, hsz, blk⟩ := hrel
    clear HA HA' HL
    have K1 := hidE k1; have K2 := hidE k2; have HJ1 := hidE hJ1; have HB1 := hidE hB1; have HPRE := hidE hpre
    have HM := hidE (And.intro (And.intro l1 m1) (And.intro l2 m2))
    have HG := hidE (And.intro hgh hlen)
    have HSZ := hidE hsz
    clear k1 k2 hJ1 hB1 hpre l1 m1 l2 m2 hgh hlen hsz
    obtain ⟨wo, hwo⟩ : ∃ wo : World, wo = wr := ⟨_, rfl⟩
    by_cases hne : f.length = 0 ∧ g.length = 0
    · have df : decide (0 < f.length) = false := decide_eq_false (by omega)
      have dg : decide (0 < g.length) = false := decide_eq_false (by omega)
      have HE := hidE (tog_nil (n := gk) (x := x) (y := y) hne.1 hne.2)
      clear hne
      generalize f.length = kf at *
      generalize g.length = kg at *
      go_wp2
      go_end0
      exact ⟨⟨_, rfl⟩, .inl (by have := HPRE.out; rw [HE.out, List.append_nil] at this; rw [← this]; exact HJ1.out)⟩
    · obtain ⟨gk', rfl⟩ : ∃ gk', gk = gk' + 1 := ⟨gk - 1, by have := HG.out.1; omega⟩
      have HPRE' := HPRE.out
      rw [tog_cons hne] at HPRE'
      have HP := hidE HPRE'
      have HLESS := hidE (pass_less hne)
      have HNE := hidE hne
      clear HPRE' HPRE
      have HNX := hidE (fun w h1 h2 => next_c f g a1 a2 c1 c2 w (by have := HG.out.2; omega) (by have := HG.out.2; omega) HNE.out h1 h2)
      have HPF := hidE (fun w h1 => pass_c f (nextT f g) x.1 x.2 a1 c1 w HM.out.1.1 HM.out.1.2 h1)
      have HPG := hidE (fun w h1 => pass_c g (nextT f g) y.1 y.2 a2 c2 w HM.out.2.1 HM.out.2.2 h1)
      have hd : decide (0 < f.length) = true ∨ (decide (0 < f.length) = false ∧ decide (0 < g.length) = true) := by
        by_cases c : 0 < f.length
        · exact .inl (decide_eq_true c)
        · exact .inr ⟨decide_eq_false c, decide_eq_true (by omega)⟩
      have HFL := hidE (passF_len f (nextT f g)); have HGL := hidE (passF_len g (nextT f g))
      generalize hxv : passV f (nextT f g) x = x' at *
      generalize hyv : passV g (nextT f g) y = y' at *
      have hxv' : passV f (nextT f g) (x.1, x.2) = x' := hxv
      have hyv' : passV g (nextT f g) (y.1, y.2) = y' := hyv
      try simp only [hxv'] at HPF
      try simp only [hyv'] at HPG
      clear hxv hyv hxv' hyv' hne
      generalize passF f (nextT f g) = f' at *
      generalize passF g (nextT f g) = g' at *
      generalize nextT f g = t at *
      have p0 := blk.cell 0; have p1 := blk.cell 1; have p2 := blk.cell 2; have p3 := blk.cell 3; have pf := blk.free; have pz := blk.lt
      simp at p0 p1 p2 p3
      rcases hd with hd | ⟨hd, hd'⟩
      all_goals
        have hw0 := HBW.out.size
        go_wp2_with fail
        ((with_reducible refine (HNX.out _ (K1.out.past HB1.out) (K2.out.past HB1.out)).mono ?_); rintro e w1 ⟨rfl, hb1⟩)
        have q1 := blk.past hb1
        have bb1 : Below W.heap.size wr w1 := hb1.mono HSZ.out
        have s1 := hb1.size
        clear hb1 p0 p1 p2 p3 pf pz
        have p0 := q1.cell 0; have p1 := q1.cell 1; have p2 := q1.cell 2; have p3 := q1.cell 3; have pf := q1.free; have pz := q1.lt
        simp at p0 p1 p2 p3
        go_wp2_with fail
        ((with_reducible refine (HPF.out _ (K1.out.past (HB1.out.trans (bb1.mono hw0)))).mono ?_); rintro e w2 ⟨⟨sv, rfl, hsv⟩, hb2⟩)
        obtain ⟨a3, c3, rfl, l3, m3, k3⟩ := hsv
        have K3 := hidE (k3 _ K1.out); have M3 := hidE (And.intro l3 m3)
        have q2 := q1.past hb2
        have bb2 : Below W.heap.size wr w2 := bb1.trans (hb2.mono (Nat.le_trans HSZ.out s1))
        have s2 := hb2.size
        clear hb2 p0 p1 p2 p3 pf pz bb1 l3 m3 k3
        have q3 := (q2.set 0 (.int .i64 x'.1)).set 1 (.int .i64 x'.2)
        have bb3 : Below W.heap.size wr ((w2.setCell ⟨W.heap.size + 1, 0, none⟩ (.int .i64 x'.1)).setCell ⟨W.heap.size + 1, 1, none⟩ (.int .i64 x'.2)) := by (repeat (first | exact Below.refl _ _ | assumption | refine balloc ?_ _ | refine below_drewN ?_ _ | refine bstep (by assumption) ?_ | refine bstep (Past.prop _) ?_ | refine Below.setCell ?_ (by first | exact Nat.le_refl _ | (simp; done) | (simp; omega)) _))
        have p0 := q2.cell 0; have p1 := q2.cell 1; have p2 := q2.cell 2; have p3 := q2.cell 3; have pf := q2.free; have pz := q2.lt
        simp at p0 p1 p2 p3 q3
        go_wp2_with fail
        ((with_reducible refine (HPG.out _ (K2.out.past (HB1.out.trans (bb3.mono hw0)))).mono ?_); rintro e w3 ⟨⟨sv, rfl, hsv⟩, hb3⟩)
        obtain ⟨a4, c4, rfl, l4, m4, k4⟩ := hsv
        have K4 := hidE (k4 _ K2.out); have M4 := hidE (And.intro l4 m4)
        have q4 := q3.past hb3
        have bb4 : Below W.heap.size wr w3 := bb3.trans (hb3.mono (by simp [World.setCell]; omega))
        have s4 : wr.heap.size ≤ w3.heap.size := by have := hb3.size; simp [World.setCell] at this; omega
        clear hb3 p0 p1 p2 p3 pf pz bb2 bb3 l4 m4 k4
        have q5 := (q4.set 2 (.int .i64 y'.1)).set 3 (.int .i64 y'.2)
        have bb5 : Below W.heap.size wr ((w3.setCell ⟨W.heap.size + 1, 2, none⟩ (.int .i64 y'.1)).setCell ⟨W.heap.size + 1, 3, none⟩ (.int .i64 y'.2)) := by (repeat (first | exact Below.refl _ _ | assumption | refine balloc ?_ _ | refine below_drewN ?_ _ | refine bstep (by assumption) ?_ | refine bstep (Past.prop _) ?_ | refine Below.setCell ?_ (by first | exact Nat.le_refl _ | (simp; done) | (simp; omega)) _))
        have p0 := q4.cell 0; have p1 := q4.cell 1; have p2 := q4.cell 2; have p3 := q4.cell 3; have pf := q4.free; have pz := q4.lt
        simp at p0 p1 p2 p3 q5
        obtain ⟨fn, tmps, assign, body, hy, hR⟩ := HY.out pre (t, x', y') _ (HJ.out _ _ _ HJ1.out bb5) ⟨tog gk' f' g' x' y', by rw [← HP.out]; simp⟩
        dsimp only [encT] at hy
        go_upto_region 7 with fail
        refine (wpIn_wide (n := 0)).1 ?_
        gi_wp2
        refine ⟨rfl, hR.mono ?_⟩
        clear hy hR
        rintro e W' (⟨rfl, hJ', hO⟩ | ⟨rfl, hJx'⟩)
        · gi_wp2
          go_wp2
          go_roundg gk'
          case measure => omega
          case rel =>
            have hz : W.heap.size + 1 < ((w3.setCell ⟨W.heap.size + 1, 2, none⟩ (.int .i64 y'.1)).setCell ⟨W.heap.size + 1, 3, none⟩ (.int .i64 y'.2)).heap.size := q5.lt
            exact ⟨f', g', x', y', pre ++ [(t, x', y')], a3, a4, c3, c4, rfl, rfl, M3.out.1, M3.out.2, M4.out.1, M4.out.2, K3.out, K4.out, by have := HLESS.out; have := HG.out.1; omega, by have := HLESS.out; have := HG.out.2; omega,
              by rw [← HP.out]; simp, hJ', (HB1.out.trans (bb5.mono hw0)).trans hO.below, Nat.le_trans (Nat.le_trans HSZ.out bb5.size) hO.below.size, (hO.beyond _ (by omega) hz).trans q5⟩
        · gi_wp2
          go_wp2
          refine bodyPost_ret (results_none rfl _ _ _) rfl ?_
          exact ⟨⟨_, rfl⟩, .inr ⟨pre ++ [(t, x', y')], ⟨tog gk' f' g' x' y', by rw [← HP.out]; simp⟩, hJx'⟩⟩
end Go.Proofs.Ytlhokgcamcaonaa

namespace Go.Proofs.Ytlhokgcamcaonaa
open Go.ChangeShapes Go.WideShapes Go.ChangeAt Go.RowKit

theorem lec (x y : Int) (w : World) : Calls Try.prog 103 #[.int .i64 x, .int .i64 y] w fun e w' => e = .returned (.bool (decide (x ≤ y))) ∧ w' = w := by
  go_enter Try.func103, Try.ntmps103
  go_wp2
  go_ret
  exact ⟨rfl, rfl⟩

theorem bothLE (a b c d : Int) (w : World) : Calls Try.prog 102 #[V a b, V c d, .func (.func 103) #[] #[]] w fun e w' => e = .returned (.tuple #[.bool (decide (a ≤ c)), .bool (decide (b ≤ d))]) ∧ Below w.heap.size w w' := by
  go_enter Try.func102, Try.ntmps102
  go_wp2
  go_quiet ((go_at_call 103; exact Calls.quiet_of_same (lec _ _ _)))
  go_wp2
  go_ret2
  exact ⟨rfl, below_drewN (((Below.refl _ _).alloc (Nat.le_refl _) _).alloc (by simp) _) _⟩

theorem le (a b c d : Int) (w : World) : Calls Try.prog 94 #[V a b, V c d] w fun e w' => e = .returned (.bool (leB a b c d)) ∧ Below w.heap.size w w' := by
  go_enter Try.func94, Try.ntmps94
  go_wp2_with (go_at_call 102; refine (bothLE _ _ _ _ _).mono ?_; rintro e w' ⟨rfl, hb⟩)
  all_goals
    go_ret
    refine ⟨ret_bool ?_, (((Below.refl _ _).alloc (Nat.le_refl _) _).alloc (by simp) _).trans (hb.mono (by simp; omega))⟩
  · simp [leB]; omega
  · simp [leB]; omega
theorem le_eq {a b c d : Int} {r : Bool} {w : World} (h : leB a b c d = r) : Calls Try.prog 94 #[V a b, V c d] w fun e w' => e = .returned (.bool r) ∧ Below w.heap.size w w' := h ▸ le a b c d w

theorem of_ (m n : Int) (w : World) : Calls Try.prog 98 #[.int .i64 m, .int .i64 n] w fun e w' => e = .returned (V m n) ∧ Below w.heap.size w w' := by
  go_enter Try.func98, Try.ntmps98
  go_wp2
  exact bodyPost_ret (v := V m n) (by simp [results, Try.results98, go_sem]) rfl ⟨rfl, (Below.refl _ _).alloc (by simp) _⟩

theorem alike (n : Int) (w : World) : Calls Try.prog 95 #[.int .i64 n] w fun e w' => e = .returned (V n n) ∧ Below w.heap.size w w' := by
  go_enter Try.func95, Try.ntmps95
  go_wp2_with (go_at_call 98; refine (of_ _ _ _).mono ?_; rintro e w' ⟨rfl, hb⟩; obtain ⟨hc, hf⟩ := bcell hb; have hz := bsz hb w.heap.size (by simp))
  refine bodyPost_ret (v := V n n) (by simp [results, Try.results95, go_sem, hc]) rfl ⟨rfl, ?_⟩
  exact ((((Below.refl _ _).alloc (Nat.le_refl _) _).trans (hb.mono (by simp))).setCell (Nat.le_refl _) _).setCell (Nat.le_refl _) _

theorem may (a b : Int) (w : World) : Calls Try.prog 79 #[V a b] w fun e w' => e = .returned (.bool (okV a b)) ∧ Below w.heap.size w w' := by
  rw [← okV_parts]
  cases h1 : leB (-1125899906842624) (-1125899906842624) a b
  all_goals
    go_enter Try.func79, Try.ntmps79
    go_wp2
    refine wp_region_past_lit (by kernel_rfl) (by kernel_rfl) ?_
    have hc := Past.cell (W := w.alloc (Obj.cells #[Value.int IntKind.i64 a, Value.int IntKind.i64 b] 29))
    repeat (go_big_quiet_step ((first | (go_at_call 95; exact Past.call _ (alike _ _)) | (go_at_call 94; exact Past.call _ (le_eq h1)) | (go_at_call 94; exact Past.call _ (le _ _ _ _ _)))))
    refine wpQuiet_nil ?_
    rintro _ ⟨x, rfl⟩
    go_wp2
    go_ret
    exact ⟨rfl, ((Below.refl _ _).alloc (Nat.le_refl _) _).trans (x.2.mono (by simp))⟩
theorem may_eq {a b : Int} {r : Bool} {w : World} (h : okV a b = r) : Calls Try.prog 79 #[V a b] w fun e w' => e = .returned (.bool r) ∧ Below w.heap.size w w' := h ▸ may a b w
end Go.Proofs.Ytlhokgcamcaonaa

namespace Go.Proofs.Ytlhokgcamcaonaa
open Go.ChangeShapes Go.WideShapes Go.ChangeAt Go.RowKit

end Go.Proofs.Ytlhokgcamcaonaa

namespace Go.Proofs.Ytlhokgcamcaonaa
open Go.ChangeShapes Go.WideShapes Go.ChangeAt Go.RowKit

theorem cl_add (x y : Int) (w : World) (hx : -1125899906842624 ≤ x ∧ x ≤ 1125899906842624) (hy : -1125899906842624 ≤ y ∧ y ≤ 1125899906842624) : Calls Try.prog 84 #[.int .i64 x, .int .i64 y] w fun e w' => e = .returned (.int .i64 (x + y)) ∧ w' = w := by
  go_enter Try.func84, Try.ntmps84
  go_wp2
  go_ret
  exact ⟨rfl, rfl⟩
/-- Both components by one closure that only computes. -/
theorem both_add (a b c d : Int) (w : World) (h1 : okV a b = true) (h2 : okV c d = true) :
    Calls Try.prog 99 #[V a b, V c d, .func (.func 84) #[] #[]] w fun e w' => e = .returned (.tuple #[.int .i64 (a + c), .int .i64 (b + d)]) ∧ Below w.heap.size w w' := by
  have g1 := h1; have g2 := h2
  simp only [okV_iff] at g1 g2
  have G1 := hidE g1; have G2 := hidE g2
  clear g1 g2 h1 h2
  go_enter Try.func99, Try.ntmps99
  go_wp2
  go_quiet ((go_at_call 84; exact Calls.quiet_of_same (cl_add _ _ _ (by have := G1.out; have := G2.out; omega) (by have := G1.out; have := G2.out; omega))))
  go_wp2
  go_ret2
  exact ⟨rfl, below_drewN (((Below.refl _ _).alloc (Nat.le_refl _) _).alloc (by simp) _) _⟩
theorem valid_no (fv : Value) (a b c d : Int) (w : World) (h : (okV a b && okV c d) = false) :
    Calls Try.prog 83 #[V a b, V c d, fv] w fun e w' => e = .returned (VE (0, 0, 10)) ∧ Below w.heap.size w w' := by
  cases h1 : okV a b
  · clear h
    go_enter Try.func83, Try.ntmps83
    go_wp2_with (go_at_call 79; ((with_reducible refine (may_eq h1).mono ?_); rintro e w' ⟨rfl, hb⟩; obtain ⟨hc, hf⟩ := bcell hb; have hz0 := bsz hb (w.heap.size) (by first | assumption | (simp; done) | (simp; omega)); have hz1 := bsz hb (w.heap.size + 1) (by first | assumption | (simp; done) | (simp; omega)); have hz2 := bsz hb (w.heap.size + 1 + 1) (by first | assumption | (simp; done) | (simp; omega))))
    refine bodyPost_ret (v := VE (0, 0, 10)) (by simp [results, Try.results83, go_sem, *]) rfl ⟨rfl, ?_⟩
    (repeat (first | exact Below.refl _ _ | assumption | refine balloc ?_ _ | refine below_drewN ?_ _ | refine bstep (by assumption) ?_ | refine bstep (Past.prop _) ?_ | refine Below.setCell ?_ (by first | exact Nat.le_refl _ | (simp; done) | (simp; omega)) _))
  · have h2 : okV c d = false := by rw [h1] at h; simpa using h
    clear h
    go_enter Try.func83, Try.ntmps83
    go_wp2_with (first | (go_at_call 79; ((with_reducible refine (may_eq h1).mono ?_); rintro e w' ⟨rfl, hb⟩; obtain ⟨hc, hf⟩ := bcell hb; have hz0 := bsz hb (w.heap.size) (by first | assumption | (simp; done) | (simp; omega)); have hz1 := bsz hb (w.heap.size + 1) (by first | assumption | (simp; done) | (simp; omega)); have hz2 := bsz hb (w.heap.size + 1 + 1) (by first | assumption | (simp; done) | (simp; omega)))) | (go_at_call 79; ((with_reducible refine (may_eq h2).mono ?_); rintro e w' ⟨rfl, hb⟩; obtain ⟨hc, hf⟩ := bcell hb; have hz0 := bsz hb (w.heap.size) (by first | assumption | (simp; done) | (simp; omega)); have hz1 := bsz hb (w.heap.size + 1) (by first | assumption | (simp; done) | (simp; omega)); have hz2 := bsz hb (w.heap.size + 1 + 1) (by first | assumption | (simp; done) | (simp; omega)))))
    refine bodyPost_ret (v := VE (0, 0, 10)) (by simp [results, Try.results83, go_sem, *]) rfl ⟨rfl, ?_⟩
    (repeat (first | exact Below.refl _ _ | assumption | refine balloc ?_ _ | refine below_drewN ?_ _ | refine bstep (by assumption) ?_ | refine bstep (Past.prop _) ?_ | refine Below.setCell ?_ (by first | exact Nat.le_refl _ | (simp; done) | (simp; omega)) _))

theorem valid_yes (fv : Value) (a b c d x y : Int) (w : World) (h1 : okV a b = true) (h2 : okV c d = true)
    (HB : ∀ w', Below w.heap.size w w' → Calls Try.prog 99 #[V a b, V c d, fv] w' fun e w'' => e = .returned (.tuple #[.int .i64 x, .int .i64 y]) ∧ Below w'.heap.size w' w'') :
    Calls Try.prog 83 #[V a b, V c d, fv] w fun e w' => e = .returned (VE (gate (okV x y) x y)) ∧ Below w.heap.size w w' := by
  have HB' := hidE HB; clear HB
  cases h3 : okV x y
  · rw [gate_false rfl]
    go_enter Try.func83, Try.ntmps83
    go_wp2_with (first | (go_at_call 79; ((with_reducible refine (may_eq h1).mono ?_); rintro e w' ⟨rfl, hb⟩; obtain ⟨hc, hf⟩ := bcell hb; have hz0 := bsz hb (w.heap.size) (by first | assumption | (simp; done) | (simp; omega)); have hz1 := bsz hb (w.heap.size + 1) (by first | assumption | (simp; done) | (simp; omega)); have hz2 := bsz hb (w.heap.size + 1 + 1) (by first | assumption | (simp; done) | (simp; omega)))) | (go_at_call 79; ((with_reducible refine (may_eq h2).mono ?_); rintro e w' ⟨rfl, hb⟩; obtain ⟨hc, hf⟩ := bcell hb; have hz0 := bsz hb (w.heap.size) (by first | assumption | (simp; done) | (simp; omega)); have hz1 := bsz hb (w.heap.size + 1) (by first | assumption | (simp; done) | (simp; omega)); have hz2 := bsz hb (w.heap.size + 1 + 1) (by first | assumption | (simp; done) | (simp; omega)))) | (go_at_call 99; ((with_reducible refine (HB'.out _ (by (repeat (first | exact Below.refl _ _ | assumption | refine balloc ?_ _ | refine below_drewN ?_ _ | refine bstep (by assumption) ?_ | refine bstep (Past.prop _) ?_ | refine Below.setCell ?_ (by first | exact Nat.le_refl _ | (simp; done) | (simp; omega)) _)))).mono ?_); rintro e w' ⟨rfl, hb⟩; obtain ⟨hc, hf⟩ := bcell hb; have hz0 := bsz hb (w.heap.size) (by first | assumption | (simp; done) | (simp; omega)); have hz1 := bsz hb (w.heap.size + 1) (by first | assumption | (simp; done) | (simp; omega)); have hz2 := bsz hb (w.heap.size + 1 + 1) (by first | assumption | (simp; done) | (simp; omega)))) | (go_at_call 98; ((with_reducible refine (of_ _ _ _).mono ?_); rintro e w' ⟨rfl, hb⟩; obtain ⟨hc, hf⟩ := bcell hb; have hz0 := bsz hb (w.heap.size) (by first | assumption | (simp; done) | (simp; omega)); have hz1 := bsz hb (w.heap.size + 1) (by first | assumption | (simp; done) | (simp; omega)); have hz2 := bsz hb (w.heap.size + 1 + 1) (by first | assumption | (simp; done) | (simp; omega)))) | (go_at_call 79; ((with_reducible refine (may_eq h3).mono ?_); rintro e w' ⟨rfl, hb⟩; obtain ⟨hc, hf⟩ := bcell hb; have hz0 := bsz hb (w.heap.size) (by first | assumption | (simp; done) | (simp; omega)); have hz1 := bsz hb (w.heap.size + 1) (by first | assumption | (simp; done) | (simp; omega)); have hz2 := bsz hb (w.heap.size + 1 + 1) (by first | assumption | (simp; done) | (simp; omega)))))
    refine bodyPost_ret (v := VE (0, 0, 10)) (by simp [results, Try.results83, go_sem, *]) rfl ⟨rfl, ?_⟩
    (repeat (first | exact Below.refl _ _ | assumption | refine balloc ?_ _ | refine below_drewN ?_ _ | refine bstep (by assumption) ?_ | refine bstep (Past.prop _) ?_ | refine Below.setCell ?_ (by first | exact Nat.le_refl _ | (simp; done) | (simp; omega)) _))
  · rw [gate_true rfl]
    go_enter Try.func83, Try.ntmps83
    go_wp2_with (first | (go_at_call 79; ((with_reducible refine (may_eq h1).mono ?_); rintro e w' ⟨rfl, hb⟩; obtain ⟨hc, hf⟩ := bcell hb; have hz0 := bsz hb (w.heap.size) (by first | assumption | (simp; done) | (simp; omega)); have hz1 := bsz hb (w.heap.size + 1) (by first | assumption | (simp; done) | (simp; omega)); have hz2 := bsz hb (w.heap.size + 1 + 1) (by first | assumption | (simp; done) | (simp; omega)))) | (go_at_call 79; ((with_reducible refine (may_eq h2).mono ?_); rintro e w' ⟨rfl, hb⟩; obtain ⟨hc, hf⟩ := bcell hb; have hz0 := bsz hb (w.heap.size) (by first | assumption | (simp; done) | (simp; omega)); have hz1 := bsz hb (w.heap.size + 1) (by first | assumption | (simp; done) | (simp; omega)); have hz2 := bsz hb (w.heap.size + 1 + 1) (by first | assumption | (simp; done) | (simp; omega)))) | (go_at_call 99; ((with_reducible refine (HB'.out _ (by (repeat (first | exact Below.refl _ _ | assumption | refine balloc ?_ _ | refine below_drewN ?_ _ | refine bstep (by assumption) ?_ | refine bstep (Past.prop _) ?_ | refine Below.setCell ?_ (by first | exact Nat.le_refl _ | (simp; done) | (simp; omega)) _)))).mono ?_); rintro e w' ⟨rfl, hb⟩; obtain ⟨hc, hf⟩ := bcell hb; have hz0 := bsz hb (w.heap.size) (by first | assumption | (simp; done) | (simp; omega)); have hz1 := bsz hb (w.heap.size + 1) (by first | assumption | (simp; done) | (simp; omega)); have hz2 := bsz hb (w.heap.size + 1 + 1) (by first | assumption | (simp; done) | (simp; omega)))) | (go_at_call 98; ((with_reducible refine (of_ _ _ _).mono ?_); rintro e w' ⟨rfl, hb⟩; obtain ⟨hc, hf⟩ := bcell hb; have hz0 := bsz hb (w.heap.size) (by first | assumption | (simp; done) | (simp; omega)); have hz1 := bsz hb (w.heap.size + 1) (by first | assumption | (simp; done) | (simp; omega)); have hz2 := bsz hb (w.heap.size + 1 + 1) (by first | assumption | (simp; done) | (simp; omega)))) | (go_at_call 79; ((with_reducible refine (may_eq h3).mono ?_); rintro e w' ⟨rfl, hb⟩; obtain ⟨hc, hf⟩ := bcell hb; have hz0 := bsz hb (w.heap.size) (by first | assumption | (simp; done) | (simp; omega)); have hz1 := bsz hb (w.heap.size + 1) (by first | assumption | (simp; done) | (simp; omega)); have hz2 := bsz hb (w.heap.size + 1 + 1) (by first | assumption | (simp; done) | (simp; omega)))))
    refine bodyPost_ret (v := VE (x, y, 0)) (by simp [results, Try.results83, go_sem, *]) rfl ⟨rfl, ?_⟩
    (repeat (first | exact Below.refl _ _ | assumption | refine balloc ?_ _ | refine below_drewN ?_ _ | refine bstep (by assumption) ?_ | refine bstep (Past.prop _) ?_ | refine Below.setCell ?_ (by first | exact Nat.le_refl _ | (simp; done) | (simp; omega)) _))

theorem vadd (a b c d : Int) (w : World) : Calls Try.prog 83 #[V a b, V c d, .func (.func 84) #[] #[]] w fun e w' => e = .returned (VE (addS a b c d)) ∧ Below w.heap.size w w' := by
  cases h : (okV a b && okV c d)
  · have e : addS a b c d = (0, 0, 10) := by unfold addS; exact gate_no h
    rw [e]; exact valid_no _ a b c d w h
  · have e : addS a b c d = gate (okV (a + c) (b + d)) (a + c) (b + d) := by unfold addS; rw [h]; rfl
    obtain ⟨h1, h2⟩ : okV a b = true ∧ okV c d = true := by simpa using h
    rw [e]; exact valid_yes _ a b c d _ _ w h1 h2 (fun w' _ => both_add _ _ _ _ _ h1 h2)

def addFrom (x y : Int) : List (Int × Int) → Int × Int × Int
  | [] => (x, y, 0)
  | v :: r => if (addS x y v.1 v.2).2.2 = 0 then addFrom (addS x y v.1 v.2).1 (addS x y v.1 v.2).2.1 r else (0, 0, (addS x y v.1 v.2).2.2)
def addL (l : List (Int × Int)) : Int × Int × Int := addFrom 0 0 l

/-- The slice's cells hold the list's vectors. -/
def CellsV (w : World) (b off : Nat) (l : List (Int × Int)) : Prop :=
  ∀ i, i < l.length → w.cell? ⟨b, off + i * 2, none⟩ = some (.int .i64 (l.getD i (0, 0)).1) ∧ w.cell? ⟨b, off + i * 2 + 1, none⟩ = some (.int .i64 (l.getD i (0, 0)).2)

theorem drop_getD (l : List (Int × Int)) (k : Nat) (h : k < l.length) : l.drop k = l.getD k (0, 0) :: l.drop (k + 1) := by
  rw [List.drop_eq_getElem_cons h, List.getD_eq_getElem?_getD, List.getElem?_eq_getElem h]; rfl

theorem add_some (l : List (Int × Int)) (b off cap : Nat) (w : World) (hb0 : b < w.heap.size) (hl : l.length ≤ 9223372036854775807) (hc0 : CellsV w b off l) :
    Calls Try.prog 62 #[.slice (some ⟨b, off, none⟩) l.length cap] w fun e w' => e = .returned (VE (addL l)) ∧ Below w.heap.size w w' := by
  have HC := hidE hc0; clear hc0
  go_enter Try.func62, Try.ntmps62
  go_wp2
  go_loopw [10] (fun i wr => ∃ k : Nat, ∃ x y : Int, k ≤ l.length ∧ i = .int .i64 k ∧ addFrom x y (l.drop k) = addL l ∧ Below w.heap.size w wr ∧ Blk wr (w.heap.size + 1) #[.int .i64 x, .int .i64 y] 29 ∧ Blk wr w.heap.size #[.int .i64 0, .int .i64 0] 29) (fun i _ => l.length - (intOf i).toNat)
  case atStart => exact ⟨0, 0, 0, Nat.zero_le _, rfl, rfl, by (repeat (first | exact Below.refl _ _ | assumption | refine balloc ?_ _ | refine below_drewN ?_ _ | refine bstep (by assumption) ?_ | refine bstep (Past.prop _) ?_ | refine Below.setCell ?_ (by first | exact Nat.le_refl _ | (simp; done) | (simp; omega)) _)), Blk.made_at _ _ _ _ (by simp), (Blk.made _ _ _).alloc _⟩
  case round =>
    obtain ⟨k, x, y, hk, rfl, hs, hb, s1, s0⟩ := hrel
    have HS := hidE hs; clear hs
    have c10 := s1.cell 0; have c11 := s1.cell 1; have f1 := s1.free; have c00 := s0.cell 0; have c01 := s0.cell 1; have f0 := s0.free
    simp at c10 c11 c00 c01
    have z1 := s1.lt; have z0 := s0.lt
    by_cases hlt : k < l.length
    · have e0 := (HC.out k hlt).1; have e1 := (HC.out k hlt).2
      rw [← hb.cell hb0] at e0 e1
      have HD := hidE (drop_getD l k hlt)
      generalize l.getD k (0, 0) = v at *
      have HG := hidE (vadd x y v.1 v.2)
      have HS' := HS.out
      rw [HD.out] at HS'
      unfold addFrom at HS'
      generalize hg : addS x y v.1 v.2 = g at *
      clear HS hg
      by_cases hg0 : g.2.2 = 0
      · rw [if_pos hg0] at HS'
        have HT := hidE HS'; clear HS'
        have g1 : (g.2.2 == 0) = true := beq_iff_eq.2 hg0
        have g2 : (g.2.2 != 0) = false := by rw [bne_eq_false_iff_eq]; exact hg0
        clear hg0
        go_wp2_with (go_at_call 83; ((with_reducible refine (HG.out _).mono ?_); rintro e w' ⟨rfl, hb2⟩; obtain ⟨hc, hf⟩ := bcell hb2; have y1 := bsz hb2 (w.heap.size + 1) (by simp; omega); have y0 := bsz hb2 (w.heap.size) (by simp; omega)))
        exact ⟨⟨k + 1, g.1, g.2.1, by omega, by go_num, HT.out, by (repeat (first | exact Below.refl _ _ | assumption | refine balloc ?_ _ | refine below_drewN ?_ _ | refine bstep (by assumption) ?_ | refine bstep (Past.prop _) ?_ | refine Below.setCell ?_ (by first | exact Nat.le_refl _ | (simp; done) | (simp; omega)) _)), (((s1.alloc _).past hb2).set 0 _).set 1 _, (((s0.alloc _).past hb2).other (by omega) _).other (by omega) _⟩, by simp [intOf]; omega⟩
      · rw [if_neg hg0] at HS'
        have HT := hidE HS'; clear HS'
        have g1 : (g.2.2 == 0) = false := beq_eq_false_iff_ne.2 hg0
        have g2 : (g.2.2 != 0) = true := bne_iff_ne.2 hg0
        clear hg0
        go_wp2_with (go_at_call 83; ((with_reducible refine (HG.out _).mono ?_); rintro e w' ⟨rfl, hb2⟩; obtain ⟨hc, hf⟩ := bcell hb2; have y1 := bsz hb2 (w.heap.size + 1) (by simp; omega); have y0 := bsz hb2 (w.heap.size) (by simp; omega)))
        have B0 := (((((s0.alloc _).past hb2).other (b := w.heap.size + 1) (i := 0) (by omega) (.int .i64 g.1)).other (b := w.heap.size + 1) (i := 1) (by omega) (.int .i64 g.2.1)).set 0 (.int .i64 0)).set 1 (.int .i64 0)
        have d0 := B0.cell 0; have d1 := B0.cell 1
        simp at d0 d1
        refine bodyPost_ret (v := VE (0, 0, g.2.2)) (by simp [results, Try.results62, go_sem, d0, d1]) rfl ⟨by rw [← HT.out], ?_⟩
        (repeat (first | exact Below.refl _ _ | assumption | refine balloc ?_ _ | refine below_drewN ?_ _ | refine bstep (by assumption) ?_ | refine bstep (Past.prop _) ?_ | refine Below.setCell ?_ (by first | exact Nat.le_refl _ | (simp; done) | (simp; omega)) _))
    · go_wp2
      have : k = l.length := by omega
      subst this
      have e := HS.out
      rw [List.drop_length] at e
      refine bodyPost_ret (v := VE (x, y, 0)) (by simp [results, Try.results62, go_sem, *]) rfl ⟨by rw [← e]; rfl, ?_⟩
      (repeat (first | exact Below.refl _ _ | assumption | refine balloc ?_ _ | refine below_drewN ?_ _ | refine bstep (by assumption) ?_ | refine bstep (Past.prop _) ?_ | refine Below.setCell ?_ (by first | exact Nat.le_refl _ | (simp; done) | (simp; omega)) _))

end Go.Proofs.Ytlhokgcamcaonaa

namespace Go.Proofs.Ytlhokgcamcaonaa
open Go.ChangeShapes Go.WideShapes Go.ChangeAt Go.RowKit
attribute [local irreducible] Go.Calls

theorem addL_two (a b c d : Int) : addL [(a, b), (c, d)] = addS a b c d := by
  unfold addL addFrom addFrom addFrom
  simp only
  cases h1 : okV a b
  · have e1 : addS 0 0 a b = (0, 0, 10) := by unfold addS; rw [h1]; simp [gate]
    have e2 : addS a b c d = (0, 0, 10) := by unfold addS; rw [h1]; simp [gate]
    rw [e1, e2]; simp
  · have e0 : okV 0 0 = true := by decide
    have e1 : addS 0 0 a b = (a, b, 0) := by unfold addS; rw [h1, e0]; simp [gate, h1]
    rw [e1]
    simp only [if_true]
    by_cases h : (addS a b c d).2.2 = 0
    · rw [if_pos h]; exact Prod.ext rfl (Prod.ext rfl h.symm)
    · rw [if_neg h]
      unfold addS gate at h ⊢
      split
      · rename_i hh; rw [if_pos hh] at h; exact absurd rfl h
      · rfl

theorem plus_c (a b c d : Int) (w : World) : Calls Try.prog 47 #[V a b, V c d] w fun e w' => e = .returned (VE (opV 0 (a, b) (c, d))) ∧ Below w.heap.size w w' := by
  rw [opV_0, ← addL_two]
  generalize hg : addL [(a, b), (c, d)] = g
  have Hg := hidE hg; clear hg
  have HK := hidE (fun w b' hb hc => show Calls Try.prog 62 #[.slice (some ⟨b', 0, none⟩) 2 2] w _ from add_some [(a, b), (c, d)] b' 0 2 w hb (by simp) hc)
  go_enter Try.func47, Try.ntmps47
  go_wp2_with fail
  have B3 : Blk ((((w.alloc (Obj.cells #[Value.int IntKind.i64 a, Value.int IntKind.i64 b] 29)).alloc (Obj.cells #[Value.int IntKind.i64 c, Value.int IntKind.i64 d] 29)).alloc (Obj.cells #[Value.int IntKind.i64 0, Value.int IntKind.i64 0] 29)).alloc (Obj.cells #[Value.int IntKind.i64 a, Value.int IntKind.i64 b, Value.int IntKind.i64 c, Value.int IntKind.i64 d] 29)) (w.heap.size + 1 + 1 + 1) #[.int .i64 a, .int .i64 b, .int .i64 c, .int .i64 d] 29 := Blk.made_at _ _ _ _ (by simp)
  have B2 : Blk ((((w.alloc (Obj.cells #[Value.int IntKind.i64 a, Value.int IntKind.i64 b] 29)).alloc (Obj.cells #[Value.int IntKind.i64 c, Value.int IntKind.i64 d] 29)).alloc (Obj.cells #[Value.int IntKind.i64 0, Value.int IntKind.i64 0] 29)).alloc (Obj.cells #[Value.int IntKind.i64 a, Value.int IntKind.i64 b, Value.int IntKind.i64 c, Value.int IntKind.i64 d] 29)) (w.heap.size + 1 + 1) #[.int .i64 0, .int .i64 0] 29 := (Blk.made_at _ _ _ _ (by simp)).alloc _
  have hcv : CellsV ((((w.alloc (Obj.cells #[Value.int IntKind.i64 a, Value.int IntKind.i64 b] 29)).alloc (Obj.cells #[Value.int IntKind.i64 c, Value.int IntKind.i64 d] 29)).alloc (Obj.cells #[Value.int IntKind.i64 0, Value.int IntKind.i64 0] 29)).alloc (Obj.cells #[Value.int IntKind.i64 a, Value.int IntKind.i64 b, Value.int IntKind.i64 c, Value.int IntKind.i64 d] 29)) (w.heap.size + 1 + 1 + 1) 0 [(a, b), (c, d)] := by
    intro i hi
    simp only [List.length_cons, List.length_nil] at hi
    match i, hi with
    | 0, _ => exact ⟨B3.cell 0, B3.cell 1⟩
    | 1, _ => exact ⟨B3.cell 2, B3.cell 3⟩
  ((with_reducible refine (HK.out _ _ B3.lt hcv).mono ?_); rintro e w1 ⟨rfl, hb⟩)
  rw [Hg.out]
  have B2' := B2.past hb
  have hB : Below w.heap.size w w1 := by (repeat (first | exact Below.refl _ _ | assumption | refine balloc ?_ _ | refine below_drewN ?_ _ | refine bstep (by assumption) ?_ | refine bstep (Past.prop _) ?_ | refine Below.setCell ?_ (by first | exact Nat.le_refl _ | (simp; done) | (simp; omega)) _))
  have p0 := B2'.cell 0; have p1 := B2'.cell 1; have pf := B2'.free; have pz := B2'.lt
  simp at p0 p1
  clear hb B3 B2
  go_wp2
  refine bodyPost_ret (v := VE g) (by simp [results, Try.results47, go_sem, *]) rfl ⟨rfl, ?_⟩
  (repeat (first | exact Below.refl _ _ | assumption | refine balloc ?_ _ | refine below_drewN ?_ _ | refine bstep (by assumption) ?_ | refine bstep (Past.prop _) ?_ | refine Below.setCell ?_ (by first | exact Nat.le_refl _ | (simp; done) | (simp; omega)) _))

end Go.Proofs.Ytlhokgcamcaonaa

namespace Go.Proofs.Ytlhokgcamcaonaa
open Go.ChangeShapes Go.WideShapes Go.ChangeAt Go.RowKit

/-- The row's cells. -/
def rowC (n : Nat) (d : Nat → Nat) : Array Value := ((List.range n).map fun i => Value.int .i64 (d i)).toArray
theorem rowC_get {n : Nat} {d : Nat → Nat} {i : Nat} (h : i < n) : (rowC n d)[i]? = some (.int .i64 (d i)) := by
  simp [rowC, List.getElem?_range h]
theorem rowC_size (n : Nat) (d : Nat → Nat) : (rowC n d).size = n := by simp [rowC]
theorem rowC_ext {n : Nat} {d d' : Nat → Nat} (h : ∀ i, i < n → d i = d' i) : rowC n d = rowC n d' := by
  unfold rowC
  congr 1
  exact List.map_congr_left fun i hi => by rw [h i (by simpa using hi)]
theorem rowC_set {n : Nat} {d : Nat → Nat} {i : Nat} (v : Nat) : (rowC n d).setIfInBounds i (.int .i64 v) = rowC n (fun k => if k = i then v else d k) := by
  apply Array.ext_getElem?
  intro k
  rw [Array.getElem?_setIfInBounds, rowC_size]
  by_cases c : i = k
  · subst c
    rw [if_pos rfl]
    by_cases h : i < n
    · rw [if_pos h, rowC_get h, if_pos rfl]
    · rw [if_neg h, Array.getElem?_eq_none (by rw [rowC_size]; omega)]
  · rw [if_neg c]
    by_cases h : k < n
    · rw [rowC_get h, rowC_get h, if_neg (by omega)]
    · rw [Array.getElem?_eq_none (by rw [rowC_size]; omega), Array.getElem?_eq_none (by rw [rowC_size]; omega)]
theorem rowC_swap {n : Nat} {d : Nat → Nat} {i j : Nat} : ((rowC n d).setIfInBounds i (.int .i64 (d j))).setIfInBounds j (.int .i64 (d i)) = rowC n (sw d i j) := by
  rw [rowC_set, rowC_set]
  refine rowC_ext fun k _ => ?_
  unfold sw
  by_cases c1 : k = j
  · by_cases c2 : k = i
    · rw [if_pos c1, if_pos c2, ← c1, ← c2]
    · rw [if_pos c1, if_neg c2, if_pos c1]
  · rw [if_neg c1, if_neg c1]

/-- A world of the sort's: the row holds d; what lies below it is as it was. -/
structure RowW (w0 : World) (blk n : Nat) (t : TypeId) (d : Nat → Nat) (w : World) : Prop where
  here : Blk w blk (rowC n d) t
  low : Below blk w0 w
variable {w0 w w' : World} {blk n : Nat} {t : TypeId} {d : Nat → Nat}
theorem RowW.lt (h : RowW w0 blk n t d w) : blk < w.heap.size := h.here.lt
theorem RowW.cell (h : RowW w0 blk n t d w) {i : Nat} (hi : i < n) : w.cell? ⟨blk, i, none⟩ = some (.int .i64 (d i)) := (h.here.cell i).trans (rowC_get hi)
theorem RowW.free (h : RowW w0 blk n t d w) (i : Nat) : w.frozen? ⟨blk, i, none⟩ = false := h.here.free i
theorem RowW.past (h : RowW w0 blk n t d w) (hb : Below w.heap.size w w') : RowW w0 blk n t d w' := ⟨h.here.past hb, h.low.trans (hb.mono (Nat.le_of_lt h.lt))⟩
theorem RowW.set (h : RowW w0 blk n t d w) (i v : Nat) : RowW w0 blk n t (fun k => if k = i then v else d k) (w.setCell ⟨blk, i, none⟩ (.int .i64 v)) :=
  ⟨by rw [← rowC_set]; exact h.here.set i _, h.low.setCell (Nat.le_refl _) _⟩
theorem RowW.swap (h : RowW w0 blk n t d w) (i j : Nat) : RowW w0 blk n t (sw d i j) ((w.setCell ⟨blk, i, none⟩ (.int .i64 (d j))).setCell ⟨blk, j, none⟩ (.int .i64 (d i))) :=
  ⟨by rw [← rowC_swap]; exact (h.here.set i _).set j _, (h.low.setCell (Nat.le_refl _) _).setCell (Nat.le_refl _) _⟩
theorem RowW.drew (h : RowW w0 blk n t d w) : RowW w0 blk n t d w.drew := ⟨h.here.drew 1, h.low.drew⟩
theorem RowW.ext (h : RowW w0 blk n t d w) {d' : Nat → Nat} (e : d = d') : RowW w0 blk n t d' w := e ▸ h
/-- Behind the first store the second place still reads. -/
theorem RowW.c2 (h : RowW w0 blk n t d w) (i j : Nat) (hj : j < n) (v : Nat) : (w.setCell ⟨blk, i, none⟩ (.int .i64 v)).cell? ⟨blk, j, none⟩ = some (.int .i64 ((if j = i then v else d j : Nat))) :=
  (h.set i v).cell hj
end Go.Proofs.Ytlhokgcamcaonaa

namespace Go.Proofs.Ytlhokgcamcaonaa
open Go.ChangeShapes Go.WideShapes Go.ChangeAt Go.RowKit
attribute [local irreducible] Go.Calls

set_option maxHeartbeats 1000000 in
theorem swapRange_c (w0 w : World) (blk n cap a b m : Nat) (t : TypeId) (d : Nat → Nat) (fv : Value) (h : RowW w0 blk n t d w) (hab : a + m ≤ b) (hb : b + m ≤ n) (hn : n ≤ 4611686018427387904) :
    Calls Try.prog 109 #[.slice (some ⟨blk, 0, none⟩) n cap, .int .i64 a, .int .i64 b, .int .i64 m, fv] w fun e w' => e = .returned (.tuple #[]) ∧ RowW w0 blk n t (swr d a b m) w' := by
  have H := hidE h; clear h
  go_enter Try.func109, Try.ntmps109
  go_wp2
  go_loopw [10] (fun i wr => ∃ k : Nat, k ≤ m ∧ i = .int .i64 k ∧ RowW w0 blk n t (swr d a b k) wr) (fun i _ => m - (intOf i).toNat)
  case atStart => exact ⟨0, Nat.zero_le _, rfl, H.out.ext (swr_zero _ _ _).symm⟩
  case round =>
    obtain ⟨k, hk, rfl, hr⟩ := hrel
    by_cases hlt : k < m
    · have c1 := hr.cell (i := a + k) (by omega)
      have c2 := hr.cell (i := b + k) (by omega)
      have c3 := hr.c2 (a + k) (b + k) (by omega) (swr d a b k (b + k))
      have f1 := hr.free (a + k)
      have f2 := hr.free (b + k)
      have hS := hidE ((hr.swap (a + k) (b + k)).drew.ext (swr_step d a b k (by omega)))
      rw [if_neg (by omega)] at c3
      clear hr
      generalize swr d a b k (b + k) = y at *
      generalize swr d a b k (a + k) = x at *
      go_wp2
      go_region
      go_wp2
      go_roundw
      case rel => exact ⟨k + 1, by omega, by go_num, hS.out⟩
      case measure => simp [intOf]; omega
    · go_wp2
      have : k = m := by omega
      subst this
      go_end0
      exact ⟨rfl, hr⟩
end Go.Proofs.Ytlhokgcamcaonaa

namespace Go.Proofs.Ytlhokgcamcaonaa
open Go.ChangeShapes Go.WideShapes Go.ChangeAt Go.RowKit
attribute [local irreducible] Go.Calls

theorem swapRange_eq {w0 w : World} {blk n cap a b m : Nat} {x y z : Int} {t : TypeId} {d d' : Nat → Nat} {fv : Value} (h : RowW w0 blk n t d w) (hx : x = a) (hy : y = b) (hz : z = m) (hab : a + m ≤ b) (hb : b + m ≤ n) (hn : n ≤ 4611686018427387904) (hd : swr d a b m = d') :
    Calls Try.prog 109 #[.slice (some ⟨blk, 0, none⟩) n cap, .int .i64 x, .int .i64 y, .int .i64 z, fv] w fun e w' => e = .returned (.tuple #[]) ∧ RowW w0 blk n t d' w' := by
  subst hx; subst hy; subst hz; subst hd
  exact swapRange_c w0 w blk n cap a b m t d fv h hab hb hn

set_option maxHeartbeats 1000000 in
theorem rotate_c (w0 w : World) (blk n cap a m b : Nat) (t : TypeId) (d : Nat → Nat) (fv : Value) (h : RowW w0 blk n t d w) (ham : a < m) (hmb : m < b) (hb : b ≤ n) (hn : n ≤ 4611686018427387904) :
    Calls Try.prog 107 #[.slice (some ⟨blk, 0, none⟩) n cap, .int .i64 a, .int .i64 m, .int .i64 b, fv] w fun e w' => e = .returned (.tuple #[]) ∧ RowW w0 blk n t (rot d a m b) w' := by
  have H := hidE h; clear h
  go_enter Try.func107, Try.ntmps107
  go_wp2
  go_loopw [10, 11] (fun vi vj wr => ∃ (i j : Nat) (dk : Nat → Nat), vi = .int .i64 i ∧ vj = .int .i64 j ∧ 0 < i ∧ i ≤ m ∧ 0 < j ∧ m + j ≤ n ∧ rot dk (m - i) m (m + j) = rot d a m b ∧ RowW w0 blk n t dk wr) (fun vi vj _ => (intOf vi).toNat + (intOf vj).toNat)
  case atStart => exact ⟨m - a, b - m, d, by go_num, by go_num, by omega, by omega, by omega, by omega, by rw [show m - (m - a) = a by omega, show m + (b - m) = b by omega], H.out⟩
  case round =>
    obtain ⟨i, j, dk, rfl, rfl, hi0, him, hj0, hjn, hrot, hr⟩ := hrel
    have HR := hidE hrot; have HW := hidE hr
    clear hrot hr
    rcases Nat.lt_trichotomy i j with c | c | c
    · have e1 : ((i : Int) == (j : Int)) = false := beq_eq_false_iff_ne.2 (by omega)
      have e2 : ((i : Int) != (j : Int)) = true := bne_iff_ne.2 (by omega)
      have e3 : ¬ (j : Int) < (i : Int) := by omega
      go_wp2_with (go_at_call 109; ((with_reducible refine (swapRange_eq (a := m - i) (b := m + j - i) (m := i) HW.out (by omega) (by omega) rfl (by omega) (by omega) hn rfl).mono ?_); rintro e w' ⟨rfl, hr2⟩))
      go_roundw
      case rel => exact ⟨i, j - i, _, rfl, by go_num, hi0, him, by omega, by omega, (rot_lt dk m i j him c).trans HR.out, hr2⟩
      case measure => simp [intOf]; omega
    · subst c
      go_wp2_with (go_at_call 109; ((with_reducible refine (swapRange_eq (a := m - i) (b := m) (m := i) HW.out (by omega) rfl rfl (by omega) (by omega) hn rfl).mono ?_); rintro e w' ⟨rfl, hr2⟩))
      go_end0
      exact ⟨rfl, hr2.ext ((rot_eq dk m i him).trans HR.out)⟩
    · have e1 : ((i : Int) == (j : Int)) = false := beq_eq_false_iff_ne.2 (by omega)
      have e2 : ((i : Int) != (j : Int)) = true := bne_iff_ne.2 (by omega)
      have e3 : (j : Int) < (i : Int) := by omega
      go_wp2_with (go_at_call 109; ((with_reducible refine (swapRange_eq (a := m - i) (b := m) (m := j) HW.out (by omega) rfl rfl (by omega) (by omega) hn rfl).mono ?_); rintro e w' ⟨rfl, hr2⟩))
      go_roundw
      case rel => exact ⟨i - j, j, _, by go_num, rfl, by omega, by omega, hj0, hjn, (rot_gt dk m i j him c).trans HR.out, hr2⟩
      case measure => simp [intOf]; omega
end Go.Proofs.Ytlhokgcamcaonaa

namespace Go.Proofs.Ytlhokgcamcaonaa
open Go.ChangeShapes Go.WideShapes Go.ChangeAt Go.RowKit
attribute [local irreducible] Go.Calls

/-- Less, alike, more: -1, 0, 1. -/
def cmpI (a b : Int) : Int := if a < b then -1 else if b < a then 1 else 0
theorem cmpI_lt {a b : Int} (h : a < b) : cmpI a b = -1 := by unfold cmpI; rw [if_pos h]
theorem cmpI_neg {a b : Int} : decide (cmpI a b < 0) = decide (a < b) := by unfold cmpI; split <;> simp_all; split <;> simp_all

theorem isNaN_c (x : Int) (w : World) : Calls Try.prog 108 #[.int .i64 x] w fun e w' => e = .returned (.bool false) ∧ w' = w := by
  go_enter Try.func108, Try.ntmps108
  go_wp2
  go_ret
  exact ⟨rfl, rfl⟩

theorem compare64 (a b : Int) (w : World) : Calls Try.prog 106 #[.int .i64 a, .int .i64 b] w fun e w' => e = .returned (.int .i64 (cmpI a b)) ∧ w' = w := by
  rcases Int.lt_trichotomy a b with c | c | c
  · have hv : cmpI a b = -1 := cmpI_lt c
    have HV := hidE hv; clear hv
    go_enter Try.func106, Try.ntmps106
    go_wp2_with (go_at_call 108; ((with_reducible refine (isNaN_c _ _).mono ?_); rintro e w' ⟨rfl, rfl⟩))
    go_ret
    exact ⟨ret_int HV.out.symm, rfl⟩
  · have hv : cmpI a b = 0 := by unfold cmpI; rw [if_neg (by omega), if_neg (by omega)]
    have HV := hidE hv; clear hv
    subst c
    go_enter Try.func106, Try.ntmps106
    go_wp2_with (go_at_call 108; ((with_reducible refine (isNaN_c _ _).mono ?_); rintro e w' ⟨rfl, rfl⟩))
    go_ret
    exact ⟨ret_int HV.out.symm, rfl⟩
  · have hv : cmpI a b = 1 := by unfold cmpI; rw [if_neg (by omega), if_pos (by omega)]
    have HV := hidE hv; clear hv
    have c' : ¬ a < b := by omega
    go_enter Try.func106, Try.ntmps106
    go_wp2_with (go_at_call 108; ((with_reducible refine (isNaN_c _ _).mono ?_); rintro e w' ⟨rfl, rfl⟩))
    go_ret
    exact ⟨ret_int HV.out.symm, rfl⟩

theorem byAt_c (a m c a' m' c' : Int) (w : World) : Calls Try.prog 97 #[S a m c, S a' m' c'] w fun e w' => e = .returned (.int .i64 (cmpI a a')) ∧ Below w.heap.size w w' := by
  go_enter Try.func97, Try.ntmps97
  go_wp2_with (go_at_call 106; ((with_reducible refine (compare64 _ _ _).mono ?_); rintro e w' ⟨rfl, rfl⟩))
  go_ret
  exact ⟨rfl, by (repeat (first | exact Below.refl _ _ | assumption | refine balloc ?_ _ | refine below_drewN ?_ _ | refine bstep (by assumption) ?_ | refine bstep (Past.prop _) ?_ | refine Below.setCell ?_ (by first | exact Nat.le_refl _ | (simp; done) | (simp; omega)) _))⟩

theorem cmpRuns_c (l : List Sg) (b off cap x y : Nat) (w : World) (hb0 : b < w.heap.size) (_hl : l.length ≤ 9223372036854775807) (hc0 : CellsS w b off l) (hx : x < l.length) (hy : y < l.length) :
    Calls Try.prog 82 #[.slice (some ⟨b, off, none⟩) l.length cap, .int .i64 x, .int .i64 y] w fun e w' => e = .returned (.int .i64 (cmpI (ats l x) (ats l y))) ∧ Below w.heap.size w w' := by
  obtain ⟨x0, x1, x2⟩ := hc0.get hx
  obtain ⟨y0, y1, y2⟩ := hc0.get hy
  clear hc0
  generalize ats l x = u0 at *
  generalize vls l x = u at *
  generalize ats l y = v0 at *
  generalize vls l y = v at *
  go_enter Try.func82, Try.ntmps82
  go_wp2
  refine wp_region_past_lit (by kernel_rfl) (by kernel_rfl) ?_
  have hc := Past.cell (W := w)
  repeat (go_big_quiet_step ((go_at_call 97; exact Past.call _ (byAt_c _ _ _ _ _ _ _))))
  refine wpQuiet_nil ?_
  rintro _ ⟨x', rfl⟩
  go_wp2
  go_ret
  exact ⟨rfl, x'.2⟩
end Go.Proofs.Ytlhokgcamcaonaa

namespace Go.Proofs.Ytlhokgcamcaonaa
open Go.ChangeShapes Go.WideShapes Go.ChangeAt Go.RowKit
attribute [local irreducible] Go.Calls

/-- In whatever world of the sort's the comparison answers by the key, and only makes memory. -/
def Cmps (w0 : World) (blk n : Nat) (recv : Value) (K : Nat → Int) : Prop :=
  ∀ w, Below blk w0 w → ∀ x y : Nat, x < n → y < n → Calls Try.prog 82 #[recv, .int .i64 x, .int .i64 y] w fun e w' => e = .returned (.int .i64 (cmpI (K x) (K y))) ∧ Below w.heap.size w w'

/-- A row of numbers below n. -/
def Okd (n : Nat) (d : Nat → Nat) : Prop := ∀ k, k < n → d k < n
theorem Okd.mv {n a b : Nat} {d d' : Nat → Nat} (h : Okd n d) (hm : Mv a b d d') (hb : b ≤ n) : Okd n d' := fun k hk => by
  by_cases c : a ≤ k ∧ k < b
  · obtain ⟨k', h1, h2, e⟩ := hm.inn k c.1 c.2
    rw [e]; exact h _ (by omega)
  · rw [hm.out k (by omega)]; exact h _ hk

/-- The stretch [a, b) has been put in order. -/
def SrtTo (w0 : World) (blk n : Nat) (t : TypeId) (K : Nat → Int) (a b : Nat) (d : Nat → Nat) (e : Ending) (w' : World) : Prop :=
  e = .returned (.tuple #[]) ∧ ∃ d', RowW w0 blk n t d' w' ∧ Mv a b d d' ∧ Inv K n d' ∧ Srt K a b d'

theorem cmp_t {K : Nat → Int} {x y : Nat} (h : K x < K y) : decide (cmpI (K x) (K y) < 0) = true := by rw [cmpI_neg]; exact decide_eq_true h
theorem cmp_f {K : Nat → Int} {x y : Nat} (h : ¬ K x < K y) : decide (cmpI (K x) (K y) < 0) = false := by rw [cmpI_neg]; exact decide_eq_false h

set_option maxHeartbeats 4000000 in
theorem insertion_c (w0 w : World) (blk n cap a b : Nat) (t : TypeId) (K : Nat → Int) (recv : Value) (d : Nat → Nat) (h : RowW w0 blk n t d w) (hC : Cmps w0 blk n recv K) (hI : Inv K n d) (hO : Okd n d) (hab : a ≤ b) (hb : b ≤ n) (hn : n ≤ 4611686018427387904) :
    Calls Try.prog 104 #[.slice (some ⟨blk, 0, none⟩) n cap, .int .i64 a, .int .i64 b, .func (.func 82) #[recv] #[]] w (SrtTo w0 blk n t K a b d) := by
  have H := hidE h; have HC := hidE hC; have HI := hidE hI; have HO := hidE hO
  clear h hC hI hO
  go_enter Try.func104, Try.ntmps104
  go_wp2
  go_loopg [8] (b - a) (fun g1 vi wr => ∃ (i : Nat) (dk : Nat → Nat), vi = .int .i64 i ∧ a < i ∧ b - i ≤ g1 ∧ (i ≤ b ∨ i = a + 1) ∧ RowW w0 blk n t dk wr ∧ Mv a b d dk ∧ Inv K n dk ∧ Srt K a i dk)
  case atStart => exact ⟨a + 1, d, by go_num, by omega, by omega, by omega, H.out, Mv.refl _ _ _, HI.out, srt_one _ _ _ (by omega)⟩
  case round =>
    obtain ⟨i, dk, rfl, hai, hg1, hib, hr, hm, hi, hs⟩ := hrel
    have HR := hidE hr; have HM := hidE hm; have HJ := hidE hi; have HS := hidE hs
    clear hr hm hi hs
    by_cases hlt : i < b
    · have hltz : (i : Int) < (b : Int) := by omega
      obtain ⟨wo, rfl⟩ : ∃ wo : World, wo = wr := ⟨_, rfl⟩
      go_wp2
      go_loopg [9] i (fun g2 vj wr2 => ∃ (j : Nat) (dj : Nat → Nat), vj = .int .i64 j ∧ a ≤ j ∧ j ≤ i ∧ j ≤ g2 ∧ RowW w0 blk n t dj wr2 ∧ Mv a b d dj ∧ Inv K n dj ∧ InsR K a i j dj)
      case atStart => exact ⟨i, dk, rfl, by omega, Nat.le_refl _, Nat.le_refl _, HR.out, HM.out, HJ.out, InsR.start HS.out⟩
      case round =>
        clear HR HM HJ HS
        obtain ⟨j, dj, rfl, haj, hji, hg2, hr, hm, hi, hs⟩ := hrel
        have HR := hidE hr; have HM := hidE hm; have HJ := hidE hi; have HS := hidE hs
        have hok := HO.out.mv hm hb
        clear hr hm hi hs
        by_cases hja : a < j
        · obtain ⟨jp, rfl⟩ : ∃ q, j = q + 1 := ⟨j - 1, by omega⟩
          have hjd : decide ((a : Int) < (jp : Int) + 1) = true := decide_eq_true (by omega)
          have c1 := HR.out.cell (i := jp + 1) (by omega)
          have c2 := HR.out.cell (i := jp) (by omega)
          have z := HR.out.lt
          have k1 := hok (jp + 1) (by omega)
          have k2 := hok jp (by omega)
          have HCM := hidE (fun w hw => HC.out w hw (dj (jp + 1)) (dj jp) k1 k2)
          clear hok
          by_cases hkey : K (dj (jp + 1)) < K (dj jp)
          · have hd := cmp_t hkey
            have HX := hidE (⟨(HJ.out.swap' jp (by omega) hkey), (HM.out.trans (Mv.swap dj (jp + 1) jp (by omega) (by omega))), (HS.out.step (by omega) (by omega) hkey)⟩ : Inv K n (sw dj (jp + 1) jp) ∧ Mv a b d (sw dj (jp + 1) jp) ∧ InsR K a i jp (sw dj (jp + 1) jp))
            clear hkey HM HJ HS
            have HE := hidE (fun (w : World) (h : RowW w0 blk n t dj w) => (h.swap (jp + 1) jp).drew)
            have HF := hidE (fun (w : World) (h : RowW w0 blk n t dj w) => h.c2 (jp + 1) jp (by omega) (dj jp))
            generalize hx : dj (jp + 1) = x at *
            generalize hy : dj jp = y at *
            go_wp2_with fail
            refine wp_region_past_lit (by kernel_rfl) (by kernel_rfl) ?_
            have hc := Past.cell (W := wr)
            repeat (go_big_quiet_step ((go_at_call 82; exact Past.call _ (HCM.out _ (HR.out.low.trans ((Past.prop _).mono (Nat.le_of_lt z)))))))
            refine wpQuiet_nil ?_
            rintro _ ⟨x', rfl⟩
            have hr2 := HR.out.past x'.2
            clear c1 c2 hc
            generalize x'.1 = w2 at hr2 ⊢
            have g1 := hr2.cell (i := jp + 1) (by omega)
            have g2 := hr2.cell (i := jp) (by omega)
            have g3 := HF.out _ hr2
            have f1 := hr2.free (jp + 1)
            have f2 := hr2.free jp
            have hE := HE.out _ hr2
            rw [if_neg (by omega)] at g3
            rw [hx] at g1
            rw [hy] at g2
            have HE2 := hidE hE; have Hx := hidE hx; have Hy := hidE hy
            clear hE hr2 hx hy
            go_wp2_with fail
            go_region
            go_wp2
            go_roundg jp
            case measure => omega
            case rel => exact ⟨jp, _, by go_num, by omega, by omega, Nat.le_refl _, HE2.out, HX.out.2.1, HX.out.1, HX.out.2.2⟩
          · have hd := cmp_f hkey
            have HX := hidE (HS.out.done HJ.out (by omega) haj hji (.inr hkey))
            clear hkey
            generalize hx : dj (jp + 1) = x at *
            generalize hy : dj jp = y at *
            have Hx := hidE hx; have Hy := hidE hy
            clear hx hy
            go_wp2_with fail
            refine wp_region_past_lit (by kernel_rfl) (by kernel_rfl) ?_
            have hc := Past.cell (W := wr)
            repeat (go_big_quiet_step ((go_at_call 82; exact Past.call _ (HCM.out _ (HR.out.low.trans ((Past.prop _).mono (Nat.le_of_lt z)))))))
            refine wpQuiet_nil ?_
            rintro _ ⟨x', rfl⟩
            have hr2 := HR.out.past x'.2
            clear c1 c2 hc
            generalize x'.1 = w2 at hr2 ⊢
            have HR2 := hidE hr2; clear hr2
            go_wp2
            go_roundg (b - (i + 1))
            case measure => omega
            case rel => exact ⟨i + 1, _, by go_num, by omega, by omega, by omega, HR2.out, HM.out, HJ.out, HX.out⟩
        · have hja' : j = a := by omega
          subst hja'
          have HX := hidE (HS.out.done HJ.out (by omega) haj hji (.inl rfl))
          have hd : ¬ (j : Int) < (j : Int) := by omega
          go_wp2_with fail
          refine wp_region_past_lit (by kernel_rfl) (by kernel_rfl) ?_
          repeat (go_big_quiet_step (fail))
          refine wpQuiet_nil ?_
          rintro _ ⟨x', rfl⟩
          have hr2 := HR.out.past x'.2
          generalize x'.1 = w2 at hr2 ⊢
          have HR2 := hidE hr2; clear hr2
          go_wp2
          go_roundg (b - (i + 1))
          case measure => omega
          case rel => exact ⟨i + 1, _, by go_num, by omega, by omega, by omega, HR2.out, HM.out, HJ.out, HX.out⟩
    · go_wp2
      go_end0
      exact ⟨rfl, dk, HR.out, HM.out, HJ.out, HS.out.mono (Nat.le_refl _) (by omega)⟩
end Go.Proofs.Ytlhokgcamcaonaa

namespace Go.Proofs.Ytlhokgcamcaonaa
open Go.ChangeShapes Go.WideShapes Go.ChangeAt Go.RowKit
attribute [local irreducible] Go.Calls

theorem BubU.start' {K : Nat → Int} {n a m b i : Nat} {d : Nat → Nat} (hm1 : a < m) (hm2 : m ≤ a + 1) (hI : Inv K n d) (hbn : b ≤ n) (h : Srt K m b d) (hi : i ≤ b) (h1 : ∀ y, m ≤ y → y < i → K (d y) < K (d a)) (h2 : ∀ y, i ≤ y → y < b → ¬ K (d y) < K (d a)) : BubU K a b a i d := by
  have e : m = a + 1 := by omega
  subst e
  exact BubU.start hI hbn h hi h1 h2

set_option maxRecDepth 100000 in
set_option maxHeartbeats 4000000 in
theorem symMerge_up (w0 w : World) (blk n cap a m b : Nat) (t : TypeId) (K : Nat → Int) (recv : Value) (d : Nat → Nat) (h : RowW w0 blk n t d w) (hC : Cmps w0 blk n recv K) (hI : Inv K n d) (hO : Okd n d) (hm1 : a < m) (hm2 : m ≤ a + 1) (hmb : m < b) (hb : b ≤ n) (hn : n ≤ 4611686018427387904) (hs : Srt K m b d) :
    Calls Try.prog 105 #[.slice (some ⟨blk, 0, none⟩) n cap, .int .i64 a, .int .i64 m, .int .i64 b, .func (.func 82) #[recv] #[]] w (SrtTo w0 blk n t K a b d) := by
  have H := hidE h; have HC := hidE hC; have HI := hidE hI; have HO := hidE hO; have HS := hidE hs
  clear h hC hI hO hs
  have e1 : ((m : Int) - (a : Int) == 1) = true := beq_iff_eq.2 (by omega)
  go_enter Try.func105, Try.ntmps105
  go_wp2
  go_loopg [10, 11] b (fun g1 vi vj wr => ∃ (i j : Nat), vi = .int .i64 i ∧ vj = .int .i64 j ∧ m ≤ i ∧ i ≤ j ∧ j ≤ b ∧ j - i ≤ g1 ∧ RowW w0 blk n t d wr ∧ (∀ y, m ≤ y → y < i → K (d y) < K (d a)) ∧ (∀ y, j ≤ y → y < b → ¬ K (d y) < K (d a)))
  case atStart => exact ⟨m, b, rfl, rfl, by omega, by omega, by omega, by omega, H.out, fun y h1 h2 => by omega, fun y h1 h2 => by omega⟩
  case round =>
    obtain ⟨i, j, rfl, rfl, hai, hij, hjb, hg1, hr, hlo, hhi⟩ := hrel
    have HR := hidE hr; have HL := hidE hlo; have HH := hidE hhi
    clear hr hlo hhi
    by_cases hlt : i < j
    · have hltz : (i : Int) < (j : Int) := by omega
      obtain ⟨h, eh⟩ : ∃ h : Nat, ((i : Int) + (j : Int)) / 2 = (h : Int) := ⟨(i + j) / 2, by omega⟩
      have hih : i ≤ h := by omega
      have hhj : h < j := by omega
      have EH := hidE eh; clear eh
      have hok := HO.out
      have c1 := HR.out.cell (i := h) (by omega)
      have c2 := HR.out.cell (i := a) (by omega)
      have z := HR.out.lt
      have k1 := hok h (by omega)
      have k2 := hok a (by omega)
      have HCM := hidE (fun w hw => HC.out w hw (d h) (d a) k1 k2)
      clear hok
      go_wp2_with fail
      simp only [EH.out]
      by_cases hkey : K (d h) < K (d a)
      · have hd := cmp_t hkey
        have HX := hidE (fun y (h1 : m ≤ y) (h2 : y < h + 1) => (by
          have := HS.out.le (k := y) (k' := h) h1 (by omega) (by omega)
          omega : K (d y) < K (d a)))
        clear hkey
        generalize hx : d h = x at *
        generalize hy : d a = y at *
        have Hx := hidE hx; have Hy := hidE hy
        clear hx hy
        refine wp_region_past_lit (by kernel_rfl) (by kernel_rfl) ?_
        have hc := Past.cell (W := wr)
        repeat (go_big_quiet_step ((go_at_call 82; exact Past.call _ (HCM.out _ (HR.out.low.trans ((Past.prop _).mono (Nat.le_of_lt z)))))))
        refine wpQuiet_nil ?_
        rintro _ ⟨x', rfl⟩
        have hr2 := HR.out.past x'.2
        clear c1 c2 hc
        generalize x'.1 = w2 at hr2 ⊢
        have HR2 := hidE hr2; clear hr2
        go_wp2
        go_roundg (j - (h + 1))
        case measure => omega
        case rel => exact ⟨h + 1, j, by go_num, rfl, by omega, by omega, hjb, by omega, HR2.out, by simpa only [Hy.out] using HX.out, by simpa only [Hy.out] using HH.out⟩
      · have hd := cmp_f hkey
        have HX := hidE (fun y (h1 : h ≤ y) (h2 : y < b) => (by
          have := HS.out.le (k := h) (k' := y) (by omega) h1 h2
          omega : ¬ K (d y) < K (d a)))
        clear hkey
        generalize hx : d h = x at *
        generalize hy : d a = y at *
        have Hx := hidE hx; have Hy := hidE hy
        clear hx hy
        refine wp_region_past_lit (by kernel_rfl) (by kernel_rfl) ?_
        have hc := Past.cell (W := wr)
        repeat (go_big_quiet_step ((go_at_call 82; exact Past.call _ (HCM.out _ (HR.out.low.trans ((Past.prop _).mono (Nat.le_of_lt z)))))))
        refine wpQuiet_nil ?_
        rintro _ ⟨x', rfl⟩
        have hr2 := HR.out.past x'.2
        clear c1 c2 hc
        generalize x'.1 = w2 at hr2 ⊢
        have HR2 := hidE hr2; clear hr2
        go_wp2
        go_roundg (h - i)
        case measure => omega
        case rel => exact ⟨i, h, rfl, rfl, hai, by omega, by omega, by omega, HR2.out, by simpa only [Hy.out] using HL.out, by simpa only [Hy.out] using HX.out⟩
    · have : i = j := by omega
      subst this
      have hltz : ¬ (i : Int) < (i : Int) := by omega
      obtain ⟨ip, rfl⟩ : ∃ q, i = q + 1 := ⟨i - 1, by omega⟩
      have HB := hidE (BubU.start' hm1 hm2 HI.out hb HS.out hjb HL.out HH.out)
      clear HL HH
      obtain ⟨wo, rfl⟩ : ∃ wo : World, wo = wr := ⟨_, rfl⟩
      go_wp2
      go_loopg [13] (ip - a) (fun g2 vk wr2 => ∃ (k : Nat) (dk : Nat → Nat), vk = .int .i64 k ∧ a ≤ k ∧ k ≤ ip ∧ ip - k ≤ g2 ∧ RowW w0 blk n t dk wr2 ∧ Mv a b d dk ∧ Inv K n dk ∧ BubU K a b k (ip + 1) dk)
      case atStart => exact ⟨a, d, rfl, by omega, by omega, by omega, HR.out, Mv.refl _ _ _, HI.out, HB.out⟩
      case round =>
        clear HR HB
        obtain ⟨k, dk, rfl, hak, hki, hg2, hr, hm, hi, hs⟩ := hrel
        have HR := hidE hr; have HM := hidE hm; have HJ := hidE hi; have HB := hidE hs
        clear hr hm hi hs
        by_cases hlt : k < ip
        · have hltz : (k : Int) < (ip : Int) := by omega
          have HX := hidE (⟨HJ.out.swap k (by omega) (HB.out.mid _ (by omega) (by omega)), HM.out.trans (Mv.swap dk k (k + 1) (by omega) (by omega)), HB.out.step hak (by omega) hjb⟩ : Inv K n (sw dk k (k + 1)) ∧ Mv a b d (sw dk k (k + 1)) ∧ BubU K a b (k + 1) (ip + 1) (sw dk k (k + 1)))
          have c1 := HR.out.cell (i := k) (by omega)
          have c2 := HR.out.cell (i := k + 1) (by omega)
          have c3 := HR.out.c2 k (k + 1) (by omega) (dk (k + 1))
          have f1 := HR.out.free k
          have f2 := HR.out.free (k + 1)
          have HE := hidE (HR.out.swap k (k + 1)).drew
          rw [if_neg (by omega)] at c3
          generalize hx : dk (k + 1) = x at *
          generalize hy : dk k = y at *
          have Hx := hidE hx; have Hy := hidE hy
          clear hx hy
          go_wp2_with fail
          go_region
          go_wp2
          go_roundg (ip - (k + 1))
          case measure => omega
          case rel => exact ⟨k + 1, _, by go_num, by omega, by omega, Nat.le_refl _, HE.out, HX.out.2.1, HX.out.1, HX.out.2.2⟩
        · have hltz : ¬ (k : Int) < (ip : Int) := by omega
          go_wp2
          go_end0
          exact ⟨rfl, dk, HR.out, HM.out, HJ.out, HB.out.done (by omega)⟩
end Go.Proofs.Ytlhokgcamcaonaa

namespace Go.Proofs.Ytlhokgcamcaonaa
open Go.ChangeShapes Go.WideShapes Go.ChangeAt Go.RowKit
attribute [local irreducible] Go.Calls

theorem BubD.start' {K : Nat → Int} {n a m b i : Nat} {d : Nat → Nat} (hm1 : m < b) (hm2 : b ≤ m + 1) (hI : Inv K n d) (hbn : b ≤ n) (h : Srt K a m d) (h1 : ∀ x, a ≤ x → x < i → ¬ K (d m) < K (d x)) (h2 : ∀ x, i ≤ x → x < m → K (d m) < K (d x)) : BubD K a b m i d := by
  have e : b = m + 1 := by omega
  subst e
  exact BubD.start hI (by omega) h (fun x q1 q2 _ => h1 x q1 q2) h2

set_option maxRecDepth 100000 in
set_option maxHeartbeats 4000000 in
theorem symMerge_dn (w0 w : World) (blk n cap a m b : Nat) (t : TypeId) (K : Nat → Int) (recv : Value) (d : Nat → Nat) (h : RowW w0 blk n t d w) (hC : Cmps w0 blk n recv K) (hI : Inv K n d) (hO : Okd n d) (ham : a + 1 < m) (hm1 : m < b) (hm2 : b ≤ m + 1) (hb : b ≤ n) (hn : n ≤ 4611686018427387904) (hs : Srt K a m d) :
    Calls Try.prog 105 #[.slice (some ⟨blk, 0, none⟩) n cap, .int .i64 a, .int .i64 m, .int .i64 b, .func (.func 82) #[recv] #[]] w (SrtTo w0 blk n t K a b d) := by
  have H := hidE h; have HC := hidE hC; have HI := hidE hI; have HO := hidE hO; have HS := hidE hs
  clear h hC hI hO hs
  have e0 : ((m : Int) - (a : Int) == 1) = false := beq_eq_false_iff_ne.2 (by omega)
  have e1 : ((b : Int) - (m : Int) == 1) = true := beq_iff_eq.2 (by omega)
  go_enter Try.func105, Try.ntmps105
  go_wp2
  go_loopg [14, 15] m (fun g1 vi vj wr => ∃ (i j : Nat), vi = .int .i64 i ∧ vj = .int .i64 j ∧ a ≤ i ∧ i ≤ j ∧ j ≤ m ∧ j - i ≤ g1 ∧ RowW w0 blk n t d wr ∧ (∀ x, a ≤ x → x < i → ¬ K (d m) < K (d x)) ∧ (∀ x, j ≤ x → x < m → K (d m) < K (d x)))
  case atStart => exact ⟨a, m, rfl, rfl, by omega, by omega, by omega, by omega, H.out, fun y h1 h2 => by omega, fun y h1 h2 => by omega⟩
  case round =>
    obtain ⟨i, j, rfl, rfl, hai, hij, hjb, hg1, hr, hlo, hhi⟩ := hrel
    have HR := hidE hr; have HL := hidE hlo; have HH := hidE hhi
    clear hr hlo hhi
    by_cases hlt : i < j
    · have hltz : (i : Int) < (j : Int) := by omega
      obtain ⟨h, eh⟩ : ∃ h : Nat, ((i : Int) + (j : Int)) / 2 = (h : Int) := ⟨(i + j) / 2, by omega⟩
      have hih : i ≤ h := by omega
      have hhj : h < j := by omega
      have EH := hidE eh; clear eh
      have hok := HO.out
      have c1 := HR.out.cell (i := h) (by omega)
      have c2 := HR.out.cell (i := m) (by omega)
      have z := HR.out.lt
      have k1 := hok h (by omega)
      have k2 := hok m (by omega)
      have HCM := hidE (fun w hw => HC.out w hw (d m) (d h) k2 k1)
      clear hok
      go_wp2_with fail
      simp only [EH.out]
      by_cases hkey : K (d m) < K (d h)
      · have hd := cmp_t hkey
        have HX := hidE (fun x (h1 : h ≤ x) (h2 : x < m) => (by
          have := HS.out.le (k := h) (k' := x) (by omega) h1 h2
          omega : K (d m) < K (d x)))
        clear hkey
        generalize hx : d h = x at *
        generalize hy : d m = y at *
        have Hx := hidE hx; have Hy := hidE hy
        clear hx hy
        refine wp_region_past_lit (by kernel_rfl) (by kernel_rfl) ?_
        have hc := Past.cell (W := wr)
        repeat (go_big_quiet_step ((go_at_call 82; exact Past.call _ (HCM.out _ (HR.out.low.trans ((Past.prop _).mono (Nat.le_of_lt z)))))))
        refine wpQuiet_nil ?_
        rintro _ ⟨x', rfl⟩
        have hr2 := HR.out.past x'.2
        clear c1 c2 hc
        generalize x'.1 = w2 at hr2 ⊢
        have HR2 := hidE hr2; clear hr2
        go_wp2
        go_roundg (h - i)
        case measure => omega
        case rel => exact ⟨i, h, rfl, rfl, hai, by omega, by omega, by omega, HR2.out, by simpa only [Hy.out] using HL.out, by simpa only [Hy.out] using HX.out⟩
      · have hd := cmp_f hkey
        have HX := hidE (fun x (h1 : a ≤ x) (h2 : x < h + 1) => (by
          have := HS.out.le (k := x) (k' := h) h1 (by omega) (by omega)
          omega : ¬ K (d m) < K (d x)))
        clear hkey
        generalize hx : d h = x at *
        generalize hy : d m = y at *
        have Hx := hidE hx; have Hy := hidE hy
        clear hx hy
        refine wp_region_past_lit (by kernel_rfl) (by kernel_rfl) ?_
        have hc := Past.cell (W := wr)
        repeat (go_big_quiet_step ((go_at_call 82; exact Past.call _ (HCM.out _ (HR.out.low.trans ((Past.prop _).mono (Nat.le_of_lt z)))))))
        refine wpQuiet_nil ?_
        rintro _ ⟨x', rfl⟩
        have hr2 := HR.out.past x'.2
        clear c1 c2 hc
        generalize x'.1 = w2 at hr2 ⊢
        have HR2 := hidE hr2; clear hr2
        go_wp2
        go_roundg (j - (h + 1))
        case measure => omega
        case rel => exact ⟨h + 1, j, by go_num, rfl, by omega, by omega, hjb, by omega, HR2.out, by simpa only [Hy.out] using HX.out, by simpa only [Hy.out] using HH.out⟩
    · have : i = j := by omega
      subst this
      have hltz : ¬ (i : Int) < (i : Int) := by omega
      have HB := hidE (BubD.start' hm1 hm2 HI.out hb HS.out HL.out HH.out)
      clear HL HH
      obtain ⟨wo, rfl⟩ : ∃ wo : World, wo = wr := ⟨_, rfl⟩
      go_wp2
      go_loopg [17] (m - i) (fun g2 vk wr2 => ∃ (k : Nat) (dk : Nat → Nat), vk = .int .i64 k ∧ i ≤ k ∧ k ≤ m ∧ k - i ≤ g2 ∧ RowW w0 blk n t dk wr2 ∧ Mv a b d dk ∧ Inv K n dk ∧ BubD K a b k i dk)
      case atStart => exact ⟨m, d, rfl, by omega, by omega, by omega, HR.out, Mv.refl _ _ _, HI.out, HB.out⟩
      case round =>
        clear HR HB
        obtain ⟨k, dk, rfl, hak, hki, hg2, hr, hm, hi, hs⟩ := hrel
        have HR := hidE hr; have HM := hidE hm; have HJ := hidE hi; have HB := hidE hs
        clear hr hm hi hs
        by_cases hlt : i < k
        · obtain ⟨kp, rfl⟩ : ∃ q, k = q + 1 := ⟨k - 1, by omega⟩
          have hltz : (i : Int) < (kp : Int) + 1 := by omega
          have HX := hidE (⟨HJ.out.swap' kp (by omega) (HB.out.mid _ (by omega) (by omega)), HM.out.trans (Mv.swap dk (kp + 1) kp (by omega) (by omega)), HB.out.step hai (by omega) (by omega)⟩ : Inv K n (sw dk (kp + 1) kp) ∧ Mv a b d (sw dk (kp + 1) kp) ∧ BubD K a b kp i (sw dk (kp + 1) kp))
          have c1 := HR.out.cell (i := kp) (by omega)
          have c2 := HR.out.cell (i := kp + 1) (by omega)
          have c3 := HR.out.c2 (kp + 1) kp (by omega) (dk kp)
          have f1 := HR.out.free kp
          have f2 := HR.out.free (kp + 1)
          have HE := hidE (HR.out.swap (kp + 1) kp).drew
          rw [if_neg (by omega)] at c3
          generalize hx : dk (kp + 1) = x at *
          generalize hy : dk kp = y at *
          have Hx := hidE hx; have Hy := hidE hy
          clear hx hy
          go_wp2_with fail
          go_region
          go_wp2
          go_roundg (kp - i)
          case measure => omega
          case rel => exact ⟨kp, _, by go_num, by omega, by omega, Nat.le_refl _, HE.out, HX.out.2.1, HX.out.1, HX.out.2.2⟩
        · have hltz : ¬ (i : Int) < (k : Int) := by omega
          go_wp2
          go_end0
          exact ⟨rfl, dk, HR.out, HM.out, HJ.out, HB.out.done (by omega)⟩
end Go.Proofs.Ytlhokgcamcaonaa

namespace Go.Proofs.Ytlhokgcamcaonaa
open Go.ChangeShapes Go.WideShapes Go.ChangeAt Go.RowKit
attribute [local irreducible] Go.Calls

theorem sides_l {K : Nat → Int} {a s M : Nat} {d : Nat → Nat} (h1 : Srt K a s d) (h2 : Srt K s M d) (h3 : a ≤ s) (sM : s ≤ M) (h : s = a ∨ s = M) : Srt K a M d := by
  rcases h with h | h
  · subst h; exact h2
  · subst h; exact h1
theorem fin_c {K : Nat → Int} {a M b : Nat} {dd d2 d3 : Nat → Nat} (haM : a ≤ M) (hMb : M ≤ b) (m2 : Mv a M dd d2) (m3 : Mv M b d2 d3) (s2 : Srt K a M d2) (s3 : Srt K M b d3) (hx : ∀ x y, a ≤ x → x < M → M ≤ y → y < b → Lx K (dd x) (dd y)) : Mv a b dd d3 ∧ Srt K a b d3 :=
  ⟨(m2.mono (Nat.le_refl _) hMb).trans (m3.mono haM (Nat.le_refl _)), srt_join (s2.congr fun k _ h2 => m3.out k (.inl h2)) s3 (cross_mv (cross_mv hx (.inl m2)) (.inr m3))⟩

/-- What is asked of the calls of itself on shorter stretches. -/
def SymIH (w0 : World) (blk n cap : Nat) (t : TypeId) (K : Nat → Int) (recv : Value) (N : Nat) : Prop :=
  ∀ (w : World) (a m b : Nat) (d : Nat → Nat), b - a ≤ N → RowW w0 blk n t d w → Inv K n d → Okd n d → a < m → m < b → b ≤ n → Srt K a m d → Srt K m b d →
    Calls Try.prog 105 #[.slice (some ⟨blk, 0, none⟩) n cap, .int .i64 a, .int .i64 m, .int .i64 b, .func (.func 82) #[recv] #[]] w (SrtTo w0 blk n t K a b d)

theorem SymIH.app {w0 : World} {blk n cap : Nat} {t : TypeId} {K : Nat → Int} {recv : Value} {N : Nat} (h : SymIH w0 blk n cap t K recv N) {w : World} {a m b : Nat} {d : Nat → Nat} (h1 : b - a ≤ N) (h2 : RowW w0 blk n t d w) (h3 : Inv K n d) (h4 : Okd n d) (h5 : a < m) (h6 : m < b) (h7 : b ≤ n) (h8 : Srt K a m d) (h9 : Srt K m b d) :
    Calls Try.prog 105 #[.slice (some ⟨blk, 0, none⟩) n cap, .int .i64 a, .int .i64 m, .int .i64 b, .func (.func 82) #[recv] #[]] w (SrtTo w0 blk n t K a b d) :=
  h w a m b d h1 h2 h3 h4 h5 h6 h7 h8 h9

/-- The search under way. -/
def Srch (K : Nat → Int) (d : Nat → Nat) (P s0 i j r0 : Nat) : Prop :=
  (∀ c, s0 ≤ c → c < i → ¬ K (d (P - c)) < K (d c)) ∧ (∀ c, j ≤ c → c < r0 → K (d (P - c)) < K (d c))
theorem Srch.start (K : Nat → Int) (d : Nat → Nat) (P s0 r0 : Nat) : Srch K d P s0 s0 r0 r0 := ⟨fun c h1 h2 => by omega, fun c h1 h2 => by omega⟩
theorem Srch.up {K : Nat → Int} {d : Nat → Nat} {P s0 i j r0 h a m b : Nat} (hS : Srch K d P s0 i j r0) (h1 : Srt K a m d) (h2 : Srt K m b d) (q0 : a ≤ s0) (q1 : h < m) (q2 : m ≤ P - h) (q3 : P - s0 < b) (_q4 : s0 ≤ h) (hk : ¬ K (d (P - h)) < K (d h)) : Srch K d P s0 (h + 1) j r0 :=
  ⟨fun c g1 g2 => by
    have e1 := h1.le (k := c) (k' := h) (by omega) (by omega) q1
    have e2 := h2.le (k := P - h) (k' := P - c) q2 (by omega) (by omega)
    omega, hS.2⟩
theorem Srch.dn {K : Nat → Int} {d : Nat → Nat} {P s0 i j r0 h a m b : Nat} (hS : Srch K d P s0 i j r0) (h1 : Srt K a m d) (h2 : Srt K m b d) (q0 : a ≤ h) (q1 : r0 ≤ m) (q2 : m + r0 ≤ P + 1) (q3 : P - h < b) (hk : K (d (P - h)) < K (d h)) : Srch K d P s0 i h r0 :=
  ⟨hS.1, fun c g1 g2 => by
    have e1 := h1.le (k := h) (k' := c) q0 (by omega) (by omega)
    have e2 := h2.le (k := P - c) (k' := P - h) (by omega) (by omega) (by omega)
    omega⟩
theorem Srch.cut {K : Nat → Int} {d : Nat → Nat} {s0 i r0 a m b M : Nat} (hS : Srch K d (M + m - 1) s0 i i r0) (hM : (a + b) / 2 = M) (hs : s0 ≤ i) (hr : i ≤ r0) (am : a < m) (mb : m < b) (hc : (M < m ∧ s0 + b = M + m ∧ r0 = M) ∨ (m ≤ M ∧ s0 = a ∧ r0 = m)) : Cut K a m b i d := by
  obtain ⟨s1, s2⟩ := hS
  refine ⟨by omega, by omega, by omega, by omega, by omega, ?_, ?_⟩
  · intro h1 h2
    have := s1 (i - 1) (by omega) (by omega)
    rw [show (a + b) / 2 + m - i = M + m - 1 - (i - 1) by omega]
    exact this
  · intro h1 h2
    have := s2 i (by omega) (by omega)
    rw [show (a + b) / 2 + m - i - 1 = M + m - 1 - i by omega]
    exact this

set_option maxRecDepth 100000 in
set_option maxHeartbeats 16000000 in
theorem symMerge_mid (w0 w : World) (blk n cap a m b N M s0 r0 : Nat) (t : TypeId) (K : Nat → Int) (recv : Value) (d : Nat → Nat) (h : RowW w0 blk n t d w) (hC : Cmps w0 blk n recv K) (hI : Inv K n d) (hO : Okd n d) (ham : a + 1 < m) (hmb : m + 1 < b) (hb : b ≤ n) (hn : n ≤ 4611686018427387904)
    (hs1 : Srt K a m d) (hs2 : Srt K m b d) (ih : SymIH w0 blk n cap t K recv N) (hN : b - a ≤ N + 1) (hM : (a + b) / 2 = M) (hc : (M < m ∧ s0 + b = M + m ∧ r0 = M) ∨ (m ≤ M ∧ s0 = a ∧ r0 = m)) :
    Calls Try.prog 105 #[.slice (some ⟨blk, 0, none⟩) n cap, .int .i64 a, .int .i64 m, .int .i64 b, .func (.func 82) #[recv] #[]] w (SrtTo w0 blk n t K a b d) := by
  have H := hidE h; have HC := hidE hC; have HI := hidE hI; have HO := hidE hO; have HS1 := hidE hs1; have HS2 := hidE hs2; have IH := hidE ih
  have hMa : a < M := by omega
  have hMb : M < b := by omega
  have hM2 : 2 * M ≤ a + b := by omega
  have hM3 : a + b ≤ 2 * M + 1 := by omega
  have EM := hidE (show ((a : Int) + (b : Int)) / 2 = (M : Int) by omega)
  have HM := hidE hM
  have hP : ∃ P, P = M + m - 1 := ⟨_, rfl⟩
  obtain ⟨P, hP⟩ := hP
  have EP := hidE (show (M : Int) + (m : Int) - 1 = (P : Int) by omega)
  have HP := hidE hP
  have hPm : P + 1 = M + m := by omega
  have HPM := hidE hPm
  have b1 : P + 1 ≤ M + m := by omega
  have b2 : M + m ≤ P + 1 := by omega
  have hq1 : a ≤ s0 := by omega
  have hq2 : s0 ≤ r0 := by omega
  have hq3 : r0 ≤ m := by omega
  have hq4 : m + r0 ≤ P + 1 := by omega
  have hq5 : P < b + s0 := by omega
  have HCC := hidE hc
  clear h hC hI hO hs1 hs2 ih hM hP hPm
  have e0 : ((m : Int) - (a : Int) == 1) = false := beq_eq_false_iff_ne.2 (by omega)
  have e1 : ((b : Int) - (m : Int) == 1) = false := beq_eq_false_iff_ne.2 (by omega)
  rcases hc with hc | hc
  all_goals
    obtain ⟨hc1, hc2, hc3⟩ := hc
    have hct : ((M : Int) < (m : Int)) ∨ ¬ ((M : Int) < (m : Int)) := by omega
    have HC2 := hidE hc2; have HC3 := hidE hc3
    clear hc2 hc3 hct
    go_enter Try.func105, Try.ntmps105
    go_upto_region 25 with fail
    simp only [EM.out]
    go_upto_region 33 with fail
    simp only [EP.out]
    go_loopg [20, 21] b (fun g1 vi vj wr => ∃ (i j : Nat), vi = .int .i64 i ∧ vj = .int .i64 j ∧ s0 ≤ i ∧ i ≤ j ∧ j ≤ r0 ∧ j - i ≤ g1 ∧ RowW w0 blk n t d wr ∧ Srch K d P s0 i j r0)
    case atStart => exact ⟨s0, r0, by have := HC2.out; go_num, by have := HC3.out; go_num, by omega, by omega, by omega, by omega, H.out, Srch.start _ _ _ _ _⟩
    case round =>
      obtain ⟨i, j, rfl, rfl, hai, hij, hjb, hg1, hr, hlo⟩ := hrel
      have HR := hidE hr; have HL := hidE hlo
      clear hr hlo
      by_cases hlt : i < j
      · have hltz : (i : Int) < (j : Int) := by omega
        obtain ⟨h, eh⟩ : ∃ h : Nat, ((i : Int) + (j : Int)) / 2 = (h : Int) := ⟨(i + j) / 2, by omega⟩
        have hih : i ≤ h := by omega
        have hhj : h < j := by omega
        have EH := hidE eh; clear eh
        obtain ⟨q, hq⟩ : ∃ q, q = P - h := ⟨_, rfl⟩
        have eq1 : IntKind.i64.wrap ((P : Int) - (h : Int)) = (q : Int) := by rw [IntKind.wrap_i64]; omega
        have hok := HO.out
        have c1 := HR.out.cell (i := h) (by omega)
        have c2 := HR.out.cell (i := q) (by omega)
        have z := HR.out.lt
        have k1 := hok h (by omega)
        have k2 := hok q (by omega)
        have HCM := hidE (fun w hw => HC.out w hw (d q) (d h) k2 k1)
        have hqn : q < n := by omega
        clear hok
        go_wp2_with fail
        simp only [EH.out]
        have EQ1 := hidE eq1; clear eq1
        by_cases hkey : K (d q) < K (d h)
        · have hd := cmp_t hkey
          have HX := hidE (HL.out.dn HS1.out HS2.out (h := h) (by omega) hq3 hq4 (by omega) (by rw [← hq]; exact hkey))
          have HQ := hidE hq
          clear hkey hq
          generalize hx : d h = x at *
          generalize hy : d q = y at *
          have Hx := hidE hx; have Hy := hidE hy
          clear hx hy
          have eq1 := EQ1.out
          refine wp_region_past_lit (by kernel_rfl) (by kernel_rfl) ?_
          have hc := Past.cell (W := wr)
          repeat (go_big_quiet_step ((go_at_call 82; exact Past.call _ (HCM.out _ (HR.out.low.trans ((Past.prop _).mono (Nat.le_of_lt z)))))))
          refine wpQuiet_nil ?_
          rintro _ ⟨x', rfl⟩
          have hr2 := HR.out.past x'.2
          clear c1 c2 hc eq1
          generalize x'.1 = w2 at hr2 ⊢
          have HR2 := hidE hr2; clear hr2
          go_wp2
          go_roundg (h - i)
          case measure => omega
          case rel => exact ⟨i, h, rfl, rfl, hai, by omega, by omega, by omega, HR2.out, HX.out⟩
        · have hd := cmp_f hkey
          have HX := hidE (HL.out.up HS1.out HS2.out (h := h) hq1 (by omega) (by omega) (by omega) (by omega) (by rw [← hq]; exact hkey))
          have HQ := hidE hq
          clear hkey hq
          generalize hx : d h = x at *
          generalize hy : d q = y at *
          have Hx := hidE hx; have Hy := hidE hy
          clear hx hy
          have eq1 := EQ1.out
          refine wp_region_past_lit (by kernel_rfl) (by kernel_rfl) ?_
          have hc := Past.cell (W := wr)
          repeat (go_big_quiet_step ((go_at_call 82; exact Past.call _ (HCM.out _ (HR.out.low.trans ((Past.prop _).mono (Nat.le_of_lt z)))))))
          refine wpQuiet_nil ?_
          rintro _ ⟨x', rfl⟩
          have hr2 := HR.out.past x'.2
          clear c1 c2 hc eq1
          generalize x'.1 = w2 at hr2 ⊢
          have HR2 := hidE hr2; clear hr2
          go_wp2
          go_roundg (j - (h + 1))
          case measure => omega
          case rel => exact ⟨h + 1, j, by go_num, rfl, by omega, by omega, hjb, by omega, HR2.out, HX.out⟩
      · have : i = j := by omega
        subst this
        have hltz : ¬ (i : Int) < (i : Int) := by omega
        have hl := HL.out
        rw [HP.out] at hl
        have hcut := hl.cut HM.out hai hjb (by omega) (by omega) HCC.out
        have hcu := hcut.rotated HI.out hb HS1.out HS2.out
        have f1 := hcut.as; have f2 := hcut.sm; have f3 := hcut.smid; have f4 := hcut.me; have f5 := hcut.eb
        rw [HM.out] at hcu f3 f4 f5
        obtain ⟨E, hE⟩ : ∃ E, E = M + m - i := ⟨_, rfl⟩
        rw [← hE] at hcu f4 f5
        have EE := hidE (show (M : Int) + (m : Int) - (i : Int) = (E : Int) by omega)
        have hE1 : E + i ≤ M + m := by omega
        have hE2 : M + m ≤ E + i := by omega
        obtain ⟨u0, u1, u2, u3, u4, u5⟩ := hcu
        have hmv := Mv.rot d f2 f4
        have U0 := hidE u0; have U1 := hidE u1; have U2 := hidE u2; have U3 := hidE u3; have U4 := hidE u4; have U5 := hidE u5
        have UO := hidE (HO.out.mv hmv (by omega))
        have UM := hidE (hmv.mono f1 f5)
        clear u0 u1 u2 u3 u4 u5 hl hcut hE HL hmv
        go_upto_region 39 with fail
        simp only [EE.out]
        clear hltz

        by_cases hA : i < m
        · by_cases hB : m < E
          · by_cases hC : a < i
            · by_cases hD : E < b
              · have hE : i < M := by omega
                have hF : M < E := by omega
                have tA : ((i : Int) < (m : Int)) := by omega
                have tB : ((m : Int) < (E : Int)) := by omega
                have tC : ((a : Int) < (i : Int)) := by omega
                have tD : ((E : Int) < (b : Int)) := by omega
                have tE : ((i : Int) < (M : Int)) := by omega
                have tF : ((M : Int) < (E : Int)) := by omega
                go_wp2_with (go_at_call 107; ((with_reducible refine (rotate_c w0 _ blk n cap i m E t d _ HR.out hA hB (by omega) hn).mono ?_); rintro e w1 ⟨rfl, hr1⟩))
                clear HR
                have R1 := hidE hr1; clear hr1
                try go_wp2_with fail
                ((with_reducible refine (IH.out.app (a := a) (m := i) (b := M) (by omega) R1.out U0.out UO.out hC hE (by omega) U1.out U2.out).mono ?_); rintro e w2 ⟨rfl, d2, hr2, hm2, hi2, hs2⟩)
                have o2 := UO.out.mv hm2 (by omega)
                have R2 := hidE hr2; have M2 := hidE hm2; have I2 := hidE hi2; have S2 := hidE hs2; have O2 := hidE o2; clear hr2 hm2 hi2 hs2 o2
                go_wp2_with fail
                have x3 := U3.out.congr fun k (q1 : M ≤ k) (q2 : k < E) => M2.out.out k (.inr q1)
                have x4 := U4.out.congr fun k (q1 : E ≤ k) (q2 : k < b) => M2.out.out k (.inr (by omega))
                have X3 := hidE x3; have X4 := hidE x4; clear x3 x4
                ((with_reducible refine (IH.out.app (a := M) (m := E) (b := b) (by omega) R2.out I2.out O2.out hF hD hb X3.out X4.out).mono ?_); rintro e w3 ⟨rfl, d3, hr3, hm3, hi3, hs3⟩)
                have R3 := hidE hr3; have M3 := hidE hm3; have I3 := hidE hi3; have S3 := hidE hs3; clear hr3 hm3 hi3 hs3
                go_wp2
                all_goals go_end0
                all_goals obtain ⟨y1, y2⟩ := fin_c (Nat.le_of_lt hMa) (Nat.le_of_lt hMb) M2.out M3.out S2.out S3.out U5.out
                all_goals exact ⟨rfl, _, R3.out, UM.out.trans y1, I3.out, y2⟩
              · have hE : i < M := by omega
                have hF : M < E := by omega
                have tA : ((i : Int) < (m : Int)) := by omega
                have tB : ((m : Int) < (E : Int)) := by omega
                have tC : ((a : Int) < (i : Int)) := by omega
                have tD : ¬ ((E : Int) < (b : Int)) := by omega
                have tE : ((i : Int) < (M : Int)) := by omega
                have tF : ((M : Int) < (E : Int)) := by omega
                go_wp2_with (go_at_call 107; ((with_reducible refine (rotate_c w0 _ blk n cap i m E t d _ HR.out hA hB (by omega) hn).mono ?_); rintro e w1 ⟨rfl, hr1⟩))
                clear HR
                have R1 := hidE hr1; clear hr1
                try go_wp2_with fail
                ((with_reducible refine (IH.out.app (a := a) (m := i) (b := M) (by omega) R1.out U0.out UO.out hC hE (by omega) U1.out U2.out).mono ?_); rintro e w2 ⟨rfl, d2, hr2, hm2, hi2, hs2⟩)
                have o2 := UO.out.mv hm2 (by omega)
                have R2 := hidE hr2; have M2 := hidE hm2; have I2 := hidE hi2; have S2 := hidE hs2; have O2 := hidE o2; clear hr2 hm2 hi2 hs2 o2
                go_wp2
                all_goals go_end0
                all_goals obtain ⟨y1, y2⟩ := fin_c (Nat.le_of_lt hMa) (Nat.le_of_lt hMb) M2.out (Mv.refl _ _ _) S2.out (sides_l (U3.out.congr fun k (q1 : M ≤ k) (q2 : k < E) => M2.out.out k (.inr q1)) (U4.out.congr fun k (q1 : E ≤ k) (q2 : k < b) => M2.out.out k (.inr (by omega))) (by omega) f5 (by omega)) U5.out
                all_goals exact ⟨rfl, _, R2.out, UM.out.trans y1, I2.out, y2⟩
            · by_cases hD : E < b
              · have hE : i < M := by omega
                have hF : M < E := by omega
                have tA : ((i : Int) < (m : Int)) := by omega
                have tB : ((m : Int) < (E : Int)) := by omega
                have tC : ¬ ((a : Int) < (i : Int)) := by omega
                have tD : ((E : Int) < (b : Int)) := by omega
                have tE : ((i : Int) < (M : Int)) := by omega
                have tF : ((M : Int) < (E : Int)) := by omega
                go_wp2_with (go_at_call 107; ((with_reducible refine (rotate_c w0 _ blk n cap i m E t d _ HR.out hA hB (by omega) hn).mono ?_); rintro e w1 ⟨rfl, hr1⟩))
                clear HR
                have R1 := hidE hr1; clear hr1
                try go_wp2_with fail
                have x3 := U3.out; have x4 := U4.out
                have X3 := hidE x3; have X4 := hidE x4; clear x3 x4
                ((with_reducible refine (IH.out.app (a := M) (m := E) (b := b) (by omega) R1.out U0.out UO.out hF hD hb X3.out X4.out).mono ?_); rintro e w3 ⟨rfl, d3, hr3, hm3, hi3, hs3⟩)
                have R3 := hidE hr3; have M3 := hidE hm3; have I3 := hidE hi3; have S3 := hidE hs3; clear hr3 hm3 hi3 hs3
                go_wp2
                all_goals go_end0
                all_goals obtain ⟨y1, y2⟩ := fin_c (Nat.le_of_lt hMa) (Nat.le_of_lt hMb) (Mv.refl _ _ _) M3.out (sides_l U1.out U2.out f1 f3 (by omega)) S3.out U5.out
                all_goals exact ⟨rfl, _, R3.out, UM.out.trans y1, I3.out, y2⟩
              · have hE : i < M := by omega
                have hF : M < E := by omega
                have tA : ((i : Int) < (m : Int)) := by omega
                have tB : ((m : Int) < (E : Int)) := by omega
                have tC : ¬ ((a : Int) < (i : Int)) := by omega
                have tD : ¬ ((E : Int) < (b : Int)) := by omega
                have tE : ((i : Int) < (M : Int)) := by omega
                have tF : ((M : Int) < (E : Int)) := by omega
                go_wp2_with (go_at_call 107; ((with_reducible refine (rotate_c w0 _ blk n cap i m E t d _ HR.out hA hB (by omega) hn).mono ?_); rintro e w1 ⟨rfl, hr1⟩))
                clear HR
                have R1 := hidE hr1; clear hr1
                try go_wp2
                all_goals go_end0
                all_goals obtain ⟨y1, y2⟩ := fin_c (Nat.le_of_lt hMa) (Nat.le_of_lt hMb) (Mv.refl _ _ _) (Mv.refl _ _ _) (sides_l U1.out U2.out f1 f3 (by omega)) (sides_l U3.out U4.out (by omega) f5 (by omega)) U5.out
                all_goals exact ⟨rfl, _, R1.out, UM.out.trans y1, U0.out, y2⟩
          · by_cases hC : a < i
            · by_cases hD : E < b
              · have hF : M < E := by omega
                have tA : ((i : Int) < (m : Int)) := by omega
                have tB : ¬ ((m : Int) < (E : Int)) := by omega
                have tC : ((a : Int) < (i : Int)) := by omega
                have tD : ((E : Int) < (b : Int)) := by omega
                have tE : ¬ ((i : Int) < (M : Int)) := by omega
                have tF : ((M : Int) < (E : Int)) := by omega
                have hr1 := HR.out.ext (rot_none f2 f4 (by omega)).symm
                clear HR
                have R1 := hidE hr1; clear hr1
                go_wp2_with fail
                have x3 := U3.out; have x4 := U4.out
                have X3 := hidE x3; have X4 := hidE x4; clear x3 x4
                ((with_reducible refine (IH.out.app (a := M) (m := E) (b := b) (by omega) R1.out U0.out UO.out hF hD hb X3.out X4.out).mono ?_); rintro e w3 ⟨rfl, d3, hr3, hm3, hi3, hs3⟩)
                have R3 := hidE hr3; have M3 := hidE hm3; have I3 := hidE hi3; have S3 := hidE hs3; clear hr3 hm3 hi3 hs3
                go_wp2
                all_goals go_end0
                all_goals obtain ⟨y1, y2⟩ := fin_c (Nat.le_of_lt hMa) (Nat.le_of_lt hMb) (Mv.refl _ _ _) M3.out (sides_l U1.out U2.out f1 f3 (by omega)) S3.out U5.out
                all_goals exact ⟨rfl, _, R3.out, UM.out.trans y1, I3.out, y2⟩
              · have hF : M < E := by omega
                have tA : ((i : Int) < (m : Int)) := by omega
                have tB : ¬ ((m : Int) < (E : Int)) := by omega
                have tC : ((a : Int) < (i : Int)) := by omega
                have tD : ¬ ((E : Int) < (b : Int)) := by omega
                have tE : ¬ ((i : Int) < (M : Int)) := by omega
                have tF : ((M : Int) < (E : Int)) := by omega
                have hr1 := HR.out.ext (rot_none f2 f4 (by omega)).symm
                clear HR
                have R1 := hidE hr1; clear hr1
                go_wp2
                all_goals go_end0
                all_goals obtain ⟨y1, y2⟩ := fin_c (Nat.le_of_lt hMa) (Nat.le_of_lt hMb) (Mv.refl _ _ _) (Mv.refl _ _ _) (sides_l U1.out U2.out f1 f3 (by omega)) (sides_l U3.out U4.out (by omega) f5 (by omega)) U5.out
                all_goals exact ⟨rfl, _, R1.out, UM.out.trans y1, U0.out, y2⟩
            · by_cases hD : E < b
              · have hF : M < E := by omega
                have tA : ((i : Int) < (m : Int)) := by omega
                have tB : ¬ ((m : Int) < (E : Int)) := by omega
                have tC : ¬ ((a : Int) < (i : Int)) := by omega
                have tD : ((E : Int) < (b : Int)) := by omega
                have tE : ¬ ((i : Int) < (M : Int)) := by omega
                have tF : ((M : Int) < (E : Int)) := by omega
                have hr1 := HR.out.ext (rot_none f2 f4 (by omega)).symm
                clear HR
                have R1 := hidE hr1; clear hr1
                go_wp2_with fail
                have x3 := U3.out; have x4 := U4.out
                have X3 := hidE x3; have X4 := hidE x4; clear x3 x4
                ((with_reducible refine (IH.out.app (a := M) (m := E) (b := b) (by omega) R1.out U0.out UO.out hF hD hb X3.out X4.out).mono ?_); rintro e w3 ⟨rfl, d3, hr3, hm3, hi3, hs3⟩)
                have R3 := hidE hr3; have M3 := hidE hm3; have I3 := hidE hi3; have S3 := hidE hs3; clear hr3 hm3 hi3 hs3
                go_wp2
                all_goals go_end0
                all_goals obtain ⟨y1, y2⟩ := fin_c (Nat.le_of_lt hMa) (Nat.le_of_lt hMb) (Mv.refl _ _ _) M3.out (sides_l U1.out U2.out f1 f3 (by omega)) S3.out U5.out
                all_goals exact ⟨rfl, _, R3.out, UM.out.trans y1, I3.out, y2⟩
              · have hF : M < E := by omega
                have tA : ((i : Int) < (m : Int)) := by omega
                have tB : ¬ ((m : Int) < (E : Int)) := by omega
                have tC : ¬ ((a : Int) < (i : Int)) := by omega
                have tD : ¬ ((E : Int) < (b : Int)) := by omega
                have tE : ¬ ((i : Int) < (M : Int)) := by omega
                have tF : ((M : Int) < (E : Int)) := by omega
                have hr1 := HR.out.ext (rot_none f2 f4 (by omega)).symm
                clear HR
                have R1 := hidE hr1; clear hr1
                go_wp2
                all_goals go_end0
                all_goals obtain ⟨y1, y2⟩ := fin_c (Nat.le_of_lt hMa) (Nat.le_of_lt hMb) (Mv.refl _ _ _) (Mv.refl _ _ _) (sides_l U1.out U2.out f1 f3 (by omega)) (sides_l U3.out U4.out (by omega) f5 (by omega)) U5.out
                all_goals exact ⟨rfl, _, R1.out, UM.out.trans y1, U0.out, y2⟩
        · by_cases hB : m < E
          · by_cases hC : a < i
            · by_cases hD : E < b
              · have hE : i < M := by omega
                have tA : ¬ ((i : Int) < (m : Int)) := by omega
                have tB : ((m : Int) < (E : Int)) := by omega
                have tC : ((a : Int) < (i : Int)) := by omega
                have tD : ((E : Int) < (b : Int)) := by omega
                have tE : ((i : Int) < (M : Int)) := by omega
                have tF : ¬ ((M : Int) < (E : Int)) := by omega
                have hr1 := HR.out.ext (rot_none f2 f4 (by omega)).symm
                clear HR
                have R1 := hidE hr1; clear hr1
                go_wp2_with fail
                ((with_reducible refine (IH.out.app (a := a) (m := i) (b := M) (by omega) R1.out U0.out UO.out hC hE (by omega) U1.out U2.out).mono ?_); rintro e w2 ⟨rfl, d2, hr2, hm2, hi2, hs2⟩)
                have o2 := UO.out.mv hm2 (by omega)
                have R2 := hidE hr2; have M2 := hidE hm2; have I2 := hidE hi2; have S2 := hidE hs2; have O2 := hidE o2; clear hr2 hm2 hi2 hs2 o2
                go_wp2
                all_goals go_end0
                all_goals obtain ⟨y1, y2⟩ := fin_c (Nat.le_of_lt hMa) (Nat.le_of_lt hMb) M2.out (Mv.refl _ _ _) S2.out (sides_l (U3.out.congr fun k (q1 : M ≤ k) (q2 : k < E) => M2.out.out k (.inr q1)) (U4.out.congr fun k (q1 : E ≤ k) (q2 : k < b) => M2.out.out k (.inr (by omega))) (by omega) f5 (by omega)) U5.out
                all_goals exact ⟨rfl, _, R2.out, UM.out.trans y1, I2.out, y2⟩
              · have hE : i < M := by omega
                have tA : ¬ ((i : Int) < (m : Int)) := by omega
                have tB : ((m : Int) < (E : Int)) := by omega
                have tC : ((a : Int) < (i : Int)) := by omega
                have tD : ¬ ((E : Int) < (b : Int)) := by omega
                have tE : ((i : Int) < (M : Int)) := by omega
                have tF : ¬ ((M : Int) < (E : Int)) := by omega
                have hr1 := HR.out.ext (rot_none f2 f4 (by omega)).symm
                clear HR
                have R1 := hidE hr1; clear hr1
                go_wp2_with fail
                ((with_reducible refine (IH.out.app (a := a) (m := i) (b := M) (by omega) R1.out U0.out UO.out hC hE (by omega) U1.out U2.out).mono ?_); rintro e w2 ⟨rfl, d2, hr2, hm2, hi2, hs2⟩)
                have o2 := UO.out.mv hm2 (by omega)
                have R2 := hidE hr2; have M2 := hidE hm2; have I2 := hidE hi2; have S2 := hidE hs2; have O2 := hidE o2; clear hr2 hm2 hi2 hs2 o2
                go_wp2
                all_goals go_end0
                all_goals obtain ⟨y1, y2⟩ := fin_c (Nat.le_of_lt hMa) (Nat.le_of_lt hMb) M2.out (Mv.refl _ _ _) S2.out (sides_l (U3.out.congr fun k (q1 : M ≤ k) (q2 : k < E) => M2.out.out k (.inr q1)) (U4.out.congr fun k (q1 : E ≤ k) (q2 : k < b) => M2.out.out k (.inr (by omega))) (by omega) f5 (by omega)) U5.out
                all_goals exact ⟨rfl, _, R2.out, UM.out.trans y1, I2.out, y2⟩
            · by_cases hD : E < b
              · have hE : i < M := by omega
                have tA : ¬ ((i : Int) < (m : Int)) := by omega
                have tB : ((m : Int) < (E : Int)) := by omega
                have tC : ¬ ((a : Int) < (i : Int)) := by omega
                have tD : ((E : Int) < (b : Int)) := by omega
                have tE : ((i : Int) < (M : Int)) := by omega
                have tF : ¬ ((M : Int) < (E : Int)) := by omega
                have hr1 := HR.out.ext (rot_none f2 f4 (by omega)).symm
                clear HR
                have R1 := hidE hr1; clear hr1
                go_wp2
                all_goals go_end0
                all_goals obtain ⟨y1, y2⟩ := fin_c (Nat.le_of_lt hMa) (Nat.le_of_lt hMb) (Mv.refl _ _ _) (Mv.refl _ _ _) (sides_l U1.out U2.out f1 f3 (by omega)) (sides_l U3.out U4.out (by omega) f5 (by omega)) U5.out
                all_goals exact ⟨rfl, _, R1.out, UM.out.trans y1, U0.out, y2⟩
              · have hE : i < M := by omega
                have tA : ¬ ((i : Int) < (m : Int)) := by omega
                have tB : ((m : Int) < (E : Int)) := by omega
                have tC : ¬ ((a : Int) < (i : Int)) := by omega
                have tD : ¬ ((E : Int) < (b : Int)) := by omega
                have tE : ((i : Int) < (M : Int)) := by omega
                have tF : ¬ ((M : Int) < (E : Int)) := by omega
                have hr1 := HR.out.ext (rot_none f2 f4 (by omega)).symm
                clear HR
                have R1 := hidE hr1; clear hr1
                go_wp2
                all_goals go_end0
                all_goals obtain ⟨y1, y2⟩ := fin_c (Nat.le_of_lt hMa) (Nat.le_of_lt hMb) (Mv.refl _ _ _) (Mv.refl _ _ _) (sides_l U1.out U2.out f1 f3 (by omega)) (sides_l U3.out U4.out (by omega) f5 (by omega)) U5.out
                all_goals exact ⟨rfl, _, R1.out, UM.out.trans y1, U0.out, y2⟩
          · by_cases hC : a < i
            · by_cases hD : E < b
              · have tA : ¬ ((i : Int) < (m : Int)) := by omega
                have tB : ¬ ((m : Int) < (E : Int)) := by omega
                have tC : ((a : Int) < (i : Int)) := by omega
                have tD : ((E : Int) < (b : Int)) := by omega
                have tE : ¬ ((i : Int) < (M : Int)) := by omega
                have tF : ¬ ((M : Int) < (E : Int)) := by omega
                have hr1 := HR.out.ext (rot_none f2 f4 (by omega)).symm
                clear HR
                have R1 := hidE hr1; clear hr1
                go_wp2
                all_goals go_end0
                all_goals obtain ⟨y1, y2⟩ := fin_c (Nat.le_of_lt hMa) (Nat.le_of_lt hMb) (Mv.refl _ _ _) (Mv.refl _ _ _) (sides_l U1.out U2.out f1 f3 (by omega)) (sides_l U3.out U4.out (by omega) f5 (by omega)) U5.out
                all_goals exact ⟨rfl, _, R1.out, UM.out.trans y1, U0.out, y2⟩
              · have tA : ¬ ((i : Int) < (m : Int)) := by omega
                have tB : ¬ ((m : Int) < (E : Int)) := by omega
                have tC : ((a : Int) < (i : Int)) := by omega
                have tD : ¬ ((E : Int) < (b : Int)) := by omega
                have tE : ¬ ((i : Int) < (M : Int)) := by omega
                have tF : ¬ ((M : Int) < (E : Int)) := by omega
                have hr1 := HR.out.ext (rot_none f2 f4 (by omega)).symm
                clear HR
                have R1 := hidE hr1; clear hr1
                go_wp2
                all_goals go_end0
                all_goals obtain ⟨y1, y2⟩ := fin_c (Nat.le_of_lt hMa) (Nat.le_of_lt hMb) (Mv.refl _ _ _) (Mv.refl _ _ _) (sides_l U1.out U2.out f1 f3 (by omega)) (sides_l U3.out U4.out (by omega) f5 (by omega)) U5.out
                all_goals exact ⟨rfl, _, R1.out, UM.out.trans y1, U0.out, y2⟩
            · by_cases hD : E < b
              · have tA : ¬ ((i : Int) < (m : Int)) := by omega
                have tB : ¬ ((m : Int) < (E : Int)) := by omega
                have tC : ¬ ((a : Int) < (i : Int)) := by omega
                have tD : ((E : Int) < (b : Int)) := by omega
                have tE : ¬ ((i : Int) < (M : Int)) := by omega
                have tF : ¬ ((M : Int) < (E : Int)) := by omega
                have hr1 := HR.out.ext (rot_none f2 f4 (by omega)).symm
                clear HR
                have R1 := hidE hr1; clear hr1
                go_wp2
                all_goals go_end0
                all_goals obtain ⟨y1, y2⟩ := fin_c (Nat.le_of_lt hMa) (Nat.le_of_lt hMb) (Mv.refl _ _ _) (Mv.refl _ _ _) (sides_l U1.out U2.out f1 f3 (by omega)) (sides_l U3.out U4.out (by omega) f5 (by omega)) U5.out
                all_goals exact ⟨rfl, _, R1.out, UM.out.trans y1, U0.out, y2⟩
              · have tA : ¬ ((i : Int) < (m : Int)) := by omega
                have tB : ¬ ((m : Int) < (E : Int)) := by omega
                have tC : ¬ ((a : Int) < (i : Int)) := by omega
                have tD : ¬ ((E : Int) < (b : Int)) := by omega
                have tE : ¬ ((i : Int) < (M : Int)) := by omega
                have tF : ¬ ((M : Int) < (E : Int)) := by omega
                have hr1 := HR.out.ext (rot_none f2 f4 (by omega)).symm
                clear HR
                have R1 := hidE hr1; clear hr1
                go_wp2
                all_goals go_end0
                all_goals obtain ⟨y1, y2⟩ := fin_c (Nat.le_of_lt hMa) (Nat.le_of_lt hMb) (Mv.refl _ _ _) (Mv.refl _ _ _) (sides_l U1.out U2.out f1 f3 (by omega)) (sides_l U3.out U4.out (by omega) f5 (by omega)) U5.out
                all_goals exact ⟨rfl, _, R1.out, UM.out.trans y1, U0.out, y2⟩

theorem symMerge_c (w0 : World) (blk n cap : Nat) (t : TypeId) (K : Nat → Int) (recv : Value) (hC : Cmps w0 blk n recv K) (hn : n ≤ 4611686018427387904) : ∀ N, SymIH w0 blk n cap t K recv N := by
  intro N
  induction N with
  | zero => intro w a m b d hN _ _ _ h1 h2; omega
  | succ N ih =>
    intro w a m b d hN hR hI hO ham hmb hb hs1 hs2
    by_cases c1 : m ≤ a + 1
    · exact symMerge_up w0 w blk n cap a m b t K recv d hR hC hI hO ham c1 hmb hb hn hs2
    · by_cases c2 : b ≤ m + 1
      · exact symMerge_dn w0 w blk n cap a m b t K recv d hR hC hI hO (by omega) hmb c2 hb hn hs1
      · obtain ⟨M, hM⟩ : ∃ M, (a + b) / 2 = M := ⟨_, rfl⟩
        by_cases c3 : M < m
        · exact symMerge_mid w0 w blk n cap a m b N M (M + m - b) M t K recv d hR hC hI hO (by omega) (by omega) hb hn hs1 hs2 ih hN hM (.inl ⟨c3, by omega, rfl⟩)
        · exact symMerge_mid w0 w blk n cap a m b N M a m t K recv d hR hC hI hO (by omega) (by omega) hb hn hs1 hs2 ih hN hM (.inr ⟨by omega, rfl, rfl⟩)
end Go.Proofs.Ytlhokgcamcaonaa

namespace Go.Proofs.Ytlhokgcamcaonaa
open Go.ChangeShapes Go.WideShapes Go.ChangeAt Go.RowKit
attribute [local irreducible] Go.Calls

section
variable {K : Nat → Int} {n bs a : Nat} {d d' : Nat → Nat}
/-- Each block of bs places is in order. -/
def Bl (K : Nat → Int) (n bs : Nat) (d : Nat → Nat) : Prop := ∀ q, q * bs < n → Srt K (q * bs) (min (q * bs + bs) n) d
/-- Blocks are in order up to a. -/
def Bi (K : Nat → Int) (n bs a : Nat) (d : Nat → Nat) : Prop := (∃ Q, a = Q * bs) ∧ ∀ q, q * bs < a → Srt K (q * bs) (min (q * bs + bs) n) d
theorem lt_q {q Q x : Nat} (h : q * x < Q * x + x) : q ≤ Q := by
  rcases Nat.lt_or_ge Q q with c | c
  · have := Nat.mul_le_mul_right x c
    rw [Nat.succ_mul] at this
    omega
  · exact c
theorem le_q {q Q x : Nat} (h : q < Q) : q * x + x ≤ Q * x := by
  have := Nat.mul_le_mul_right x h
  rw [Nat.succ_mul] at this
  exact this
theorem bi_start (K : Nat → Int) (n bs : Nat) (d : Nat → Nat) : Bi K n bs 0 d := ⟨⟨0, by simp⟩, fun q h => by omega⟩
theorem bi_step (h : Bi K n bs a d) (hn : a + bs ≤ n) (hm : Mv a (a + bs) d d') (hs : Srt K a (a + bs) d') : Bi K n bs (a + bs) d' := by
  obtain ⟨⟨Q, rfl⟩, h2⟩ := h
  refine ⟨⟨Q + 1, by rw [Nat.succ_mul]⟩, fun q hq => ?_⟩
  have hqQ := lt_q hq
  rcases Nat.lt_or_ge q Q with c | c
  · have := le_q (x := bs) c
    by_cases z : bs = 0
    · subst z; exact srt_one _ _ _ (by omega)
    · exact (h2 q (by omega)).congr fun k q1 q2 => hm.out k (.inl (by omega))
  · have : q = Q := by omega
    subst this
    rw [Nat.min_eq_left hn]; exact hs
theorem bi_end (h : Bi K n bs a d) (hn : n < a + bs) (hm : Mv a n d d') (hs : Srt K a n d') : Bl K n bs d' := by
  obtain ⟨⟨Q, rfl⟩, h2⟩ := h
  intro q hq
  have hqQ := lt_q (Nat.lt_trans hq hn)
  rcases Nat.lt_or_ge q Q with c | c
  · have := le_q (x := bs) c
    by_cases z : bs = 0
    · subst z; exact srt_one _ _ _ (by omega)
    · exact (h2 q (by omega)).congr fun k q1 q2 => hm.out k (.inl (by omega))
  · have : q = Q := by omega
    subst this
    exact hs.mono (Nat.le_refl _) (Nat.min_le_right _ _)

/-- Blocks of twice the size up to a, of the size from a on. -/
def Bu (K : Nat → Int) (n bs a : Nat) (d : Nat → Nat) : Prop := Bi K n (2 * bs) a d ∧ ∀ q, a ≤ q * bs → q * bs < n → Srt K (q * bs) (min (q * bs + bs) n) d
theorem bu_start (h : Bl K n bs d) : Bu K n bs 0 d := ⟨bi_start K n _ d, fun q _ h2 => h q h2⟩
theorem dbl (Q bs : Nat) : Q * (2 * bs) = (2 * Q) * bs := by rw [← Nat.mul_assoc, Nat.mul_comm Q 2]
theorem bu_parts (h : Bu K n bs a d) : (a < n → Srt K a (min (a + bs) n) d) ∧ (a + bs < n → Srt K (a + bs) (min (a + bs + bs) n) d) := by
  obtain ⟨⟨⟨Q, hQ⟩, h1⟩, h2⟩ := h
  rw [dbl] at hQ
  refine ⟨fun c => ?_, fun c => ?_⟩
  · have := h2 (2 * Q) (by omega) (by omega)
    rw [← hQ] at this; exact this
  · have := h2 (2 * Q + 1) (by rw [Nat.succ_mul]; omega) (by rw [Nat.succ_mul]; omega)
    rw [Nat.succ_mul, ← hQ] at this; exact this
theorem bu_step (h : Bu K n bs a d) (hn : a + 2 * bs ≤ n) (hm : Mv a (a + 2 * bs) d d') (hs : Srt K a (a + 2 * bs) d') : Bu K n bs (a + 2 * bs) d' :=
  ⟨bi_step h.1 hn hm hs, fun q h1 h2 => (h.2 q (by omega) h2).congr fun k q1 q2 => hm.out k (.inr (by omega))⟩
theorem bu_end (h : Bu K n bs a d) (hn : n < a + 2 * bs) (hm : Mv a n d d') (hs : Srt K a n d') : Bl K n (2 * bs) d' := bi_end h.1 hn hm hs
theorem bu_end0 (h : Bu K n bs a d) (hn : n < a + 2 * bs) (h2 : n ≤ a + bs) : Bl K n (2 * bs) d := by
  refine bi_end h.1 hn (Mv.refl _ _ _) ?_
  by_cases c : a < n
  · have := (bu_parts h).1 c
    rw [Nat.min_eq_right h2] at this; exact this
  · exact srt_one _ _ _ (by omega)
theorem bl_whole (h : Bl K n bs d) (hn : n ≤ bs) : Srt K 0 n d := by
  by_cases c : 0 < n
  · have := h 0 (by omega)
    simp only [Nat.zero_mul, Nat.zero_add] at this
    rw [Nat.min_eq_right hn] at this; exact this
  · exact srt_one _ _ _ (by omega)
end

theorem insertion_eq {w0 w : World} {blk n cap a b : Nat} {x y : Int} {t : TypeId} {K : Nat → Int} {recv : Value} {d : Nat → Nat} (h : RowW w0 blk n t d w) (hC : Cmps w0 blk n recv K) (hI : Inv K n d) (hO : Okd n d) (hx : x = a) (hy : y = b) (hab : a ≤ b) (hb : b ≤ n) (hn : n ≤ 4611686018427387904) :
    Calls Try.prog 104 #[.slice (some ⟨blk, 0, none⟩) n cap, .int .i64 x, .int .i64 y, .func (.func 82) #[recv] #[]] w (SrtTo w0 blk n t K a b d) := by
  subst hx; subst hy; exact insertion_c w0 w blk n cap a b t K recv d h hC hI hO hab hb hn
theorem symMerge_eq {w0 w : World} {blk n cap a m b : Nat} {x y z : Int} {t : TypeId} {K : Nat → Int} {recv : Value} {d : Nat → Nat} (h : RowW w0 blk n t d w) (hC : Cmps w0 blk n recv K) (hI : Inv K n d) (hO : Okd n d) (hx : x = a) (hy : y = m) (hz : z = b) (ham : a < m) (hmb : m < b) (hb : b ≤ n) (hn : n ≤ 4611686018427387904) (h1 : Srt K a m d) (h2 : Srt K m b d) :
    Calls Try.prog 105 #[.slice (some ⟨blk, 0, none⟩) n cap, .int .i64 x, .int .i64 y, .int .i64 z, .func (.func 82) #[recv] #[]] w (SrtTo w0 blk n t K a b d) := by
  subst hx; subst hy; subst hz; exact symMerge_c w0 blk n cap t K recv hC hn (b - a) w a m b d (Nat.le_refl _) h hI hO ham hmb hb h1 h2

set_option maxRecDepth 100000 in
set_option maxHeartbeats 8000000 in
theorem stable_c (w0 w : World) (blk n cap : Nat) (t : TypeId) (K : Nat → Int) (recv : Value) (d : Nat → Nat) (h : RowW w0 blk n t d w) (hC : Cmps w0 blk n recv K) (hI : Inv K n d) (hO : Okd n d) (hn : n ≤ 2305843009213693952) :
    Calls Try.prog 96 #[.slice (some ⟨blk, 0, none⟩) n cap, .int .i64 n, .func (.func 82) #[recv] #[]] w (SrtTo w0 blk n t K 0 n d) := by
  have H := hidE h; have HC := hidE hC; have HI := hidE hI; have HO := hidE hO
  clear h hC hI hO
  go_enter Try.func96, Try.ntmps96
  go_wp2
  go_loopg [7, 8] n (fun g1 va vb wr => ∃ (a : Nat) (dk : Nat → Nat), va = .int .i64 a ∧ vb = .int .i64 ((a : Int) + 20) ∧ a ≤ n ∧ n - a ≤ g1 ∧ RowW w0 blk n t dk wr ∧ Mv 0 n d dk ∧ Inv K n dk ∧ Bi K n 20 a dk)
  case atStart => exact ⟨0, d, rfl, rfl, by omega, by omega, H.out, Mv.refl _ _ _, HI.out, bi_start _ _ _ _⟩
  case round =>
    obtain ⟨a, dk, rfl, rfl, han, hg1, hr, hm, hi, hb⟩ := hrel
    have HR := hidE hr; have HM := hidE hm; have HJ := hidE hi; have HB := hidE hb
    have HOK := hidE (HO.out.mv hm (Nat.le_refl _))
    clear hr hm hi hb
    by_cases hlt : a + 20 ≤ n
    · have hltz : (a : Int) + 20 ≤ (n : Int) := by omega
      go_wp2_with (go_at_call 104; ((with_reducible refine (insertion_eq (a := a) (b := a + 20) HR.out HC.out HJ.out HOK.out rfl (by omega) (by omega) (by omega) (by omega)).mono ?_); rintro e w1 ⟨rfl, d1, hr1, hm1, hi1, hs1⟩))
      go_roundg (n - (a + 20))
      case measure => omega
      case rel => exact ⟨a + 20, d1, by go_num, by go_num, by omega, by omega, hr1, HM.out.trans (hm1.mono (by omega) (by omega)), hi1, bi_step HB.out hlt hm1 hs1⟩
    · have hltz : ¬ (a : Int) + 20 ≤ (n : Int) := by omega
      go_wp2_with (go_at_call 104; ((with_reducible refine (insertion_eq (a := a) (b := n) HR.out HC.out HJ.out HOK.out rfl rfl (by omega) (by omega) (by omega)).mono ?_); rintro e w1 ⟨rfl, d1, hr1, hm1, hi1, hs1⟩))
      have R1 := hidE hr1; have M1 := hidE (HM.out.trans (hm1.mono (by omega) (by omega))); have I1 := hidE hi1; have B1 := hidE (bi_end HB.out (by omega) hm1 hs1)
      clear hr1 hm1 hi1 hs1 HR HM HJ HB HOK
      go_loopg [6, 7, 8, 9] n (fun g2 vs va vb vm wr2 => ∃ (bs : Nat) (dk : Nat → Nat), vs = .int .i64 bs ∧ 0 < bs ∧ bs ≤ 2 * n + 20 ∧ n - bs ≤ g2 ∧ RowW w0 blk n t dk wr2 ∧ Mv 0 n d dk ∧ Inv K n dk ∧ Bl K n bs dk)
      case atStart => exact ⟨20, d1, rfl, by omega, by omega, by omega, R1.out, M1.out, I1.out, B1.out⟩
      case round =>
        clear R1 M1 I1 B1
        obtain ⟨bs, dk, rfl, hbs, hbn, hg2, hr, hm, hi, hb⟩ := hrel
        have HR := hidE hr; have HM := hidE hm; have HJ := hidE hi; have HB := hidE hb
        clear hr hm hi hb
        by_cases hlt : bs < n
        · have hltz : (bs : Int) < (n : Int) := by omega
          obtain ⟨wo, rfl⟩ : ∃ wo : World, wo = wr := ⟨_, rfl⟩
          go_wp2
          go_loopg [7, 8] n (fun g3 va vb wr3 => ∃ (a : Nat) (dk : Nat → Nat), va = .int .i64 a ∧ vb = .int .i64 ((a : Int) + 2 * (bs : Int)) ∧ a ≤ n ∧ n - a ≤ g3 ∧ RowW w0 blk n t dk wr3 ∧ Mv 0 n d dk ∧ Inv K n dk ∧ Bu K n bs a dk)
          case atStart => exact ⟨0, dk, rfl, by go_num, by omega, by omega, HR.out, HM.out, HJ.out, bu_start HB.out⟩
          case round =>
            clear HR HM HJ HB
            obtain ⟨a, dk, rfl, rfl, han, hg3, hr, hm, hi, hb⟩ := hrel
            have HR := hidE hr; have HM := hidE hm; have HJ := hidE hi; have HB := hidE hb
            have HOK := hidE (HO.out.mv hm (Nat.le_refl _))
            have hp := bu_parts hb
            have HP := hidE hp
            clear hr hm hi hb hp
            by_cases hle : a + 2 * bs ≤ n
            · have hlez : (a : Int) + 2 * (bs : Int) ≤ (n : Int) := by omega
              have x1 := HP.out.1 (by omega)
              have x2 := HP.out.2 (by omega)
              rw [Nat.min_eq_left (by omega)] at x1 x2
              have X1 := hidE x1; have X2 := hidE (x2.mono (Nat.le_refl _) (show a + 2 * bs ≤ a + bs + bs by omega)); clear x1 x2
              go_wp2_with (go_at_call 105; ((with_reducible refine (symMerge_eq (a := a) (m := a + bs) (b := a + 2 * bs) HR.out HC.out HJ.out HOK.out rfl (by omega) (by omega) (by omega) (by omega) (by omega) (by omega) X1.out X2.out).mono ?_); rintro e w1 ⟨rfl, d1, hr1, hm1, hi1, hs1⟩))
              go_roundg (n - (a + 2 * bs))
              case measure => omega
              case rel => exact ⟨a + 2 * bs, d1, by go_num, by go_num, by omega, by omega, hr1, HM.out.trans (hm1.mono (by omega) (by omega)), hi1, bu_step HB.out hle hm1 hs1⟩
            · have hlez : ¬ (a : Int) + 2 * (bs : Int) ≤ (n : Int) := by omega
              by_cases hmn : a + bs < n
              · have hmz : (a : Int) + (bs : Int) < (n : Int) := by omega
                have x1 := HP.out.1 (by omega)
                have x2 := HP.out.2 (by omega)
                rw [Nat.min_eq_left (by omega)] at x1
                rw [Nat.min_eq_right (by omega)] at x2
                have X1 := hidE x1; have X2 := hidE x2; clear x1 x2
                go_wp2_with (go_at_call 105; ((with_reducible refine (symMerge_eq (a := a) (m := a + bs) (b := n) HR.out HC.out HJ.out HOK.out rfl (by omega) rfl (by omega) (by omega) (by omega) (by omega) X1.out X2.out).mono ?_); rintro e w1 ⟨rfl, d1, hr1, hm1, hi1, hs1⟩))
                go_roundg (n - 2 * bs)
                case measure => omega
                case rel => exact ⟨2 * bs, d1, by go_num, by omega, by omega, by omega, hr1, HM.out.trans (hm1.mono (by omega) (by omega)), hi1, bu_end HB.out (by omega) hm1 hs1⟩
              · have hmz : ¬ (a : Int) + (bs : Int) < (n : Int) := by omega
                have HZ := hidE (bu_end0 HB.out (by omega) (by omega))
                go_wp2
                go_roundg (n - 2 * bs)
                case measure => omega
                case rel => exact ⟨2 * bs, dk, by go_num, by omega, by omega, by omega, HR.out, HM.out, HJ.out, HZ.out⟩
        · have hltz : ¬ (bs : Int) < (n : Int) := by omega
          go_wp2
          go_end0
          exact ⟨rfl, dk, HR.out, HM.out, HJ.out, bl_whole HB.out (by omega)⟩

theorem sortStable_c (w0 w : World) (blk n cap : Nat) (t : TypeId) (K : Nat → Int) (recv : Value) (d : Nat → Nat) (h : RowW w0 blk n t d w) (hC : Cmps w0 blk n recv K) (hI : Inv K n d) (hO : Okd n d) (hn : n ≤ 2305843009213693952) :
    Calls Try.prog 81 #[.slice (some ⟨blk, 0, none⟩) n cap, .func (.func 82) #[recv] #[]] w (SrtTo w0 blk n t K 0 n d) := by
  have HK := hidE (stable_c w0 w blk n cap t K recv d h hC hI hO hn)
  clear h hC hI hO
  go_enter Try.func81, Try.ntmps81
  go_wp2_with (go_at_call 96; ((with_reducible refine (HK.out).mono ?_); rintro e w1 ⟨rfl, hx⟩))
  go_end0
  exact ⟨rfl, hx⟩
end Go.Proofs.Ytlhokgcamcaonaa

namespace Go.Proofs.Ytlhokgcamcaonaa
open Go.ChangeShapes Go.WideShapes Go.ChangeAt Go.RowKit
attribute [local irreducible] Go.Calls

end Go.Proofs.Ytlhokgcamcaonaa

namespace Go.Proofs.Ytlhokgcamcaonaa
open Go.ChangeShapes Go.WideShapes Go.ChangeAt Go.RowKit
attribute [local irreducible] Go.Calls

theorem valid_c (s : Sg) (w : World) : Calls Try.prog 59 #[S s.1 s.2.1 s.2.2] w fun e w' => e = .returned (.bool (okS s)) ∧ Below w.heap.size w w' := by
  obtain ⟨x, m, c⟩ := s
  show Calls _ _ #[S x m c] _ _
  by_cases h1 : -1125899906842624 ≤ x
  · by_cases h2 : x ≤ 1125899906842624
    · have e : okS (x, m, c) = okV m c := by
        have : okT x = true := okT_iff.2 ⟨h1, h2⟩
        unfold okS; simp only [this, Bool.true_and]
      rw [e]
      have d1 : decide (-1125899906842624 ≤ x) = true := decide_eq_true h1
      have d2 : decide (x ≤ 1125899906842624) = true := decide_eq_true h2
      clear e
      go_enter Try.func59, Try.ntmps59
      go_wp2_with (go_at_call 79; ((with_reducible refine (may m c _).mono ?_); rintro e w' ⟨rfl, hb⟩; obtain ⟨hc, hf⟩ := bcell hb))
      go_ret
      exact ⟨rfl, by (repeat (first | exact Below.refl _ _ | assumption | refine balloc ?_ _ | refine below_drewN ?_ _ | refine bstep (by assumption) ?_ | refine bstep (Past.prop _) ?_ | refine Below.setCell ?_ (by first | exact Nat.le_refl _ | (simp; done) | (simp; omega)) _))⟩
    · have e : okS (x, m, c) = false := by
        have : okT x = false := decide_eq_false (by omega)
        unfold okS; simp only [this, Bool.false_and]
      rw [e]
      have d1 : decide (-1125899906842624 ≤ x) = true := decide_eq_true h1
      have d2 : decide (x ≤ 1125899906842624) = false := decide_eq_false h2
      clear e
      go_enter Try.func59, Try.ntmps59
      go_wp2
      go_ret
      exact ⟨rfl, by (repeat (first | exact Below.refl _ _ | assumption | refine balloc ?_ _ | refine below_drewN ?_ _ | refine bstep (by assumption) ?_ | refine bstep (Past.prop _) ?_ | refine Below.setCell ?_ (by first | exact Nat.le_refl _ | (simp; done) | (simp; omega)) _))⟩
  · have e : okS (x, m, c) = false := by
      have : okT x = false := decide_eq_false (by omega)
      unfold okS; simp only [this, Bool.false_and]
    rw [e]
    have d1 : decide (-1125899906842624 ≤ x) = false := decide_eq_false h1
    clear e
    go_enter Try.func59, Try.ntmps59
    go_wp2
    go_ret
    exact ⟨rfl, by (repeat (first | exact Below.refl _ _ | assumption | refine balloc ?_ _ | refine below_drewN ?_ _ | refine bstep (by assumption) ?_ | refine bstep (Past.prop _) ?_ | refine Below.setCell ?_ (by first | exact Nat.le_refl _ | (simp; done) | (simp; omega)) _))⟩

/-- The closure that remembers: the block p holds what came last. -/
def ChgPost (w : World) (p : Nat) (m0 c0 m c : Int) (e : Ending) (w' : World) : Prop :=
  e = .returned (.bool (!((m, c) == (m0, c0)))) ∧ Blk w' p #[.int .i64 m, .int .i64 c] 29 ∧ w.grownBy w' (some p)

theorem chg_c (p : Nat) (m0 c0 m c : Int) (w : World) (hB : Blk w p #[.int .i64 m0, .int .i64 c0] 29) :
    Calls Try.prog 80 #[V m c, .pointer (some ⟨p, 0, none⟩)] w (ChgPost w p m0 c0 m c) := by
  have c1 := hB.cell 0; have c2 := hB.cell 1; have f := hB.free; have z := hB.lt
  simp at c1 c2
  have hp : p ≠ w.heap.size := by omega
  by_cases e1 : m = m0
  · subst e1
    by_cases e2 : c = c0
    · subst e2
      go_enter Try.func80, Try.ntmps80
      go_wp2
      go_ret
      refine ⟨ret_bool (by simp), ?_, ?_⟩
      · simpa using ((hB.set 0 (.int .i64 m)).set 1 (.int .i64 c)).alloc _
      · exact grown_trans (grown_trans (grown_set _ _ _ _) (grown_set _ _ _ _)) (grown_alloc _ _ _)
    · have d2 : (c == c0) = false := beq_eq_false_iff_ne.2 e2
      go_enter Try.func80, Try.ntmps80
      go_wp2
      go_ret
      refine ⟨ret_bool (by simp [e2]), ?_, ?_⟩
      · simpa using ((hB.set 0 (.int .i64 m)).set 1 (.int .i64 c)).alloc _
      · exact grown_trans (grown_trans (grown_set _ _ _ _) (grown_set _ _ _ _)) (grown_alloc _ _ _)
  · have d1 : (m == m0) = false := beq_eq_false_iff_ne.2 e1
    go_enter Try.func80, Try.ntmps80
    go_wp2
    go_ret
    refine ⟨ret_bool (by simp [e1]), ?_, ?_⟩
    · simpa using ((hB.set 0 (.int .i64 m)).set 1 (.int .i64 c)).alloc _
    · exact grown_trans (grown_trans (grown_set _ _ _ _) (grown_set _ _ _ _)) (grown_alloc _ _ _)

theorem changing_c (w : World) : Calls Try.prog 60 #[] w fun e w' => e = .returned (.func (.func 80) #[] #[.pointer (some ⟨w.heap.size, 0, none⟩)]) ∧ w' = w.alloc (.cells #[.int .i64 0, .int .i64 0] 29) := by
  go_enter Try.func60, Try.ntmps60
  go_wp2
  go_ret
  exact ⟨rfl, rfl⟩

end Go.Proofs.Ytlhokgcamcaonaa

namespace Go.Proofs.Ytlhokgcamcaonaa
open Go.ChangeShapes Go.WideShapes Go.ChangeAt Go.RowKit
attribute [local irreducible] Go.Calls

theorem Try.infoInt : (Try.prog.info? 3).map (fun i => (i.zero, i.size, i.bytes)) = some (some (.int .i64 0), 1, 8) := by kernel_rfl

theorem madeInts (n : Nat) : madeCells #[.int .i64 0] (n * 1) = rowC n (fun _ => 0) := by
  apply Array.ext'
  rw [Nat.mul_one, toList_madeCells_one]
  apply List.ext_getElem
  · simp [rowC]
  · intro i h1 h2
    simp [rowC]

theorem make_ints (n : Nat) (hn : n ≤ 1099511627776) : ∀ w, (Instr.makeSlice 82 (.int .i64 (n : Int)) (.int .i64 (n : Int))).run Try.prog w = .ok (.slice (some ⟨w.heap.size, 0, none⟩) n n) (w.alloc (.cells (rowC n (fun _ => 0)) 3)) := by
  intro w
  obtain ⟨i0, hi, hz0, hz1, hz2⟩ := info_parts Try.infoInt
  have h := run_make (P := Try.prog) w 82 3 i0 (.int .i64 0) Try.underlying82 hi hz0 .i64 .i64 n n (by omega) (by omega) (by rw [hz2]; omega) (by omega)
  rw [h]
  simp only [Int.toNat_natCast, hz1, Value.cells]
  rw [madeInts]

/-- The first k places hold their own numbers. -/
def ordI (k : Nat) : Nat → Nat := fun j => if j < k then j else 0
theorem ordI_step (k : Nat) : (fun j => if j = k then k else ordI k j) = ordI (k + 1) := by
  funext j
  unfold ordI
  by_cases c : j = k
  · subst c; rw [if_pos rfl, if_pos (by omega)]
  · rw [if_neg c]
    by_cases c2 : j < k
    · rw [if_pos c2, if_pos (by omega)]
    · rw [if_neg c2, if_neg (by omega)]

theorem cmps_runs {l : List Sg} {a : Option Addr} {cap : Nat} {w : World} (hl : l.length ≤ 9223372036854775807) (hA : ArgS w a l) : Cmps w w.heap.size l.length (.slice a l.length cap) (ats l) := by
  intro w1 hb x y hx hy
  obtain ⟨b, off, rfl, h1, h2⟩ := hA.past hb (by omega)
  exact cmpRuns_c l b off cap x y w1 h1 hl h2 hx hy

def OrdPost (w : World) (l : List Sg) (e : Ending) (w' : World) : Prop :=
  ∃ p d, e = .returned (.slice (some ⟨p, 0, none⟩) l.length l.length) ∧ w.heap.size ≤ p ∧ Blk w' p (rowC l.length d) 3 ∧ Below w.heap.size w w' ∧ Mv 0 l.length id d ∧ Srt (ats l) 0 l.length d

set_option maxHeartbeats 1000000 in
theorem inOrder_c (l : List Sg) (a : Option Addr) (cap : Nat) (w : World) (hl : l.length ≤ 1099511627776) (hA : ArgS w a l) :
    Calls Try.prog 61 #[.slice a l.length cap] w (OrdPost w l) := by
  have HC := hidE (cmps_runs (cap := cap) (by omega) hA)
  obtain ⟨n, hn⟩ : ∃ n, n = l.length := ⟨_, rfl⟩
  have HN := hidE hn
  rw [← hn] at hl HC ⊢
  have hmk := make_ints n hl
  clear hA
  have HMK := hidE hmk; clear hmk hn
  go_enter Try.func61, Try.ntmps61
  go_upto_region 1 with fail
  have hmk := HMK.out w
  go_wp2_with fail
  clear hmk
  go_loopw [10, 4] (fun i _ wr => ∃ k : Nat, k ≤ n ∧ i = .int .i64 k ∧ RowW w w.heap.size n 3 (ordI k) wr) (fun i _ _ => n - (intOf i).toNat)
  case atStart => exact ⟨0, Nat.zero_le _, rfl, ⟨Blk.made _ _ _, by (repeat (first | exact Below.refl _ _ | assumption | refine balloc ?_ _ | refine below_drewN ?_ _ | refine bstep (by assumption) ?_ | refine bstep (Past.prop _) ?_ | refine Below.setCell ?_ (by first | exact Nat.le_refl _ | (simp; done) | (simp; omega)) _))⟩⟩
  case round =>
    obtain ⟨k, hk, rfl, hr⟩ := hrel
    by_cases hlt : k < n
    · have c1 := hr.cell (i := k) hlt
      have f1 := hr.free k
      have HR := hidE ((hr.set k k).ext (ordI_step k)); clear hr
      go_wp2
      go_roundw
      case rel => exact ⟨k + 1, by omega, by go_num, HR.out⟩
      case measure => simp [intOf]; omega
    · have hk' : k = n := by omega
      subst hk'
      have hrow : RowW w w.heap.size k 3 id wr := ⟨by
        have e := rowC_ext (n := k) (d := ordI k) (d' := id) (fun i hi => by unfold ordI; rw [if_pos hi]; rfl)
        rw [← e]; exact hr.here, hr.low⟩
      have HR := hidE hrow; clear hr hrow
      have HI := hidE (show Inv (ats l) k id from fun i j h1 h2 => .inr h1)
      have HO := hidE (show Okd k id from fun i hi => hi)
      go_wp2_with (go_at_call 81; ((with_reducible refine (sortStable_c w _ w.heap.size k k 3 (ats l) (.slice a k cap) id HR.out HC.out HI.out HO.out (by omega)).mono ?_); rintro e w1 ⟨rfl, d1, hr1, hm1, hi1, hs1⟩))
      go_ret
      have e := HN.out
      subst e
      exact ⟨_, d1, rfl, Nat.le_refl _, hr1.here, hr1.low, hm1, hs1⟩
end Go.Proofs.Ytlhokgcamcaonaa

namespace Go.Proofs.Ytlhokgcamcaonaa
open Go.ChangeShapes Go.WideShapes Go.ChangeAt Go.RowKit
attribute [local irreducible] Go.Calls

end Go.Proofs.Ytlhokgcamcaonaa
