/- The contracts of calc.next and calc.pass. No conditions but that the slices' cells read as integers. A range over a function: an iterator that keeps state of its own in cells, and the law for its caller. The caller's own variables lie below where the loop begins; the iterator's own, and the loop's book-keeping, at or beyond. Program-free. No conditions. The contract of the iterator (calc.pair).together: it hands on the times, and both values, one after the other. No conditions but that the slices' cells read as integers, and sizes. The contracts of the operations that calc combines by: plus, vec.Sub, and vec.Min and vec.Max behind always. No conditions. The contract of (calc.pair).combined. No conditions but the lists' sizes, that the slices' cells read as integers, and that the functions are canonical. The contracts of calc.canonical, calc.checked, calc.Sub, Min and Max. No conditions but the lists' sizes, and that the slices' cells read as integers. The contracts of calc.Range and calc.Add. No conditions but the lists' sizes, and that the slices' cells read as integers. The contract of calc.LE. No conditions but the lists' sizes, and that the slices' cells read as integers. -/
import Derived.Test.YtgbgnpdfjoeonaaJM
import Derived.Test.YtgbgnpdfjoeonaaJA
import Derived.RangeFuncRecord
import Derived.RangeFuncSeq
import Derived.OwnWalkIn
import Derived.Test.YtgbgnpdfjoeonaaJB
import Derived.Laws.MakeOwn
import Derived.RangeFuncCalls
import Derived.Shelf.Abstract
import Derived.Test.YtgbgnpdfjoeonaaJC
namespace Go.Proofs.Ytgbgnpdfjoeonaa
open Go.ChangeShapes Go.WideShapes Go.ChangeAt Go.RowKit
attribute [local irreducible] Go.Calls

set_option maxRecDepth 100000 in
theorem next_c (f g : List Sg) (a a' : Option Addr) (cap cap' : Nat) (w : World) (hl : f.length ≤ 1000000000) (hl' : g.length ≤ 1000000000) (hne : ¬ (f.length = 0 ∧ g.length = 0)) (hA : ArgS w a f) (hA' : ArgS w a' g) :
    Calls Try.prog 66 #[.slice a f.length cap, .slice a' g.length cap'] w fun e w' => e = .returned (.int .i64 (nextT f g)) ∧ Below w.heap.size w w' := by
  by_cases hg : g.length = 0
  · have hf : 0 < f.length := by omega
    have HE := hidE (show nextT f g = ats f 0 by unfold nextT; rw [if_pos (.inl hg)])
    obtain ⟨b, off, rfl, hb, hc⟩ := hA hf
    obtain ⟨c0, _, _⟩ := hc.get (i := 0) hf
    simp at c0
    have dg : ((g.length : Int) == 0) = true := beq_iff_eq.2 (by omega)
    clear hA hA' hc hne hg
    rw [HE.out]
    generalize ats f 0 = u at *
    generalize f.length = k at *
    generalize g.length = k' at *
    go_enter Try.func66, Try.ntmps66
    go_wp2
    go_quiet (fail)
    go_wp2
    go_ret
    exact ⟨rfl, by (repeat (first | exact Below.refl _ _ | assumption | refine balloc ?_ _ | refine below_drewN ?_ _ | refine bstep (by assumption) ?_ | refine bstep (Past.prop _) ?_ | refine Below.setCell ?_ (by first | exact Nat.le_refl _ | (simp; done) | (simp; omega)) _))⟩
  · have hg0 : 0 < g.length := by omega
    obtain ⟨b', off', rfl, hb', hc'⟩ := hA' hg0
    obtain ⟨d0, _, _⟩ := hc'.get (i := 0) hg0
    simp at d0
    have dg : ((g.length : Int) == 0) = false := beq_eq_false_iff_ne.2 (by omega)
    by_cases hf : f.length = 0
    · have HE := hidE (show nextT f g = ats g 0 by unfold nextT; rw [if_neg (by omega)])
      have df : decide (0 < f.length) = false := decide_eq_false (by omega)
      clear hA hA' hc' hne hg hf
      rw [HE.out]
      generalize ats g 0 = u at *
      generalize g.length = k at *
      generalize f.length = k' at *
      go_enter Try.func66, Try.ntmps66
      go_wp2
      go_quiet (fail)
      go_wp2
      go_ret
      exact ⟨rfl, by (repeat (first | exact Below.refl _ _ | assumption | refine balloc ?_ _ | refine below_drewN ?_ _ | refine bstep (by assumption) ?_ | refine bstep (Past.prop _) ?_ | refine Below.setCell ?_ (by first | exact Nat.le_refl _ | (simp; done) | (simp; omega)) _))⟩
    · have hf0 : 0 < f.length := by omega
      obtain ⟨b, off, rfl, hb, hc⟩ := hA hf0
      obtain ⟨c0, _, _⟩ := hc.get (i := 0) hf0
      simp at c0
      have df : decide (0 < f.length) = true := decide_eq_true hf0
      by_cases hlt : ats f 0 < ats g 0
      · have HE := hidE (show nextT f g = ats f 0 by unfold nextT; rw [if_pos (.inr ⟨hf0, hlt⟩)])
        have dl : decide (ats f 0 < ats g 0) = true := decide_eq_true hlt
        clear hA hA' hc hc' hne hg hf hlt
        rw [HE.out]
        generalize ats g 0 = u at *
        generalize ats f 0 = u' at *
        generalize g.length = k at *
        generalize f.length = k' at *
        go_enter Try.func66, Try.ntmps66
        go_wp2
        go_quiet (fail)
        go_wp2
        go_ret
        exact ⟨rfl, by (repeat (first | exact Below.refl _ _ | assumption | refine balloc ?_ _ | refine below_drewN ?_ _ | refine bstep (by assumption) ?_ | refine bstep (Past.prop _) ?_ | refine Below.setCell ?_ (by first | exact Nat.le_refl _ | (simp; done) | (simp; omega)) _))⟩
      · have HE := hidE (show nextT f g = ats g 0 by unfold nextT; rw [if_neg (by omega)])
        have dl : decide (ats f 0 < ats g 0) = false := decide_eq_false hlt
        clear hA hA' hc hc' hne hg hf hlt
        rw [HE.out]
        generalize ats g 0 = u at *
        generalize ats f 0 = u' at *
        generalize g.length = k at *
        generalize f.length = k' at *
        go_enter Try.func66, Try.ntmps66
        go_wp2
        go_quiet (fail)
        go_wp2
        go_ret
        exact ⟨rfl, by (repeat (first | exact Below.refl _ _ | assumption | refine balloc ?_ _ | refine below_drewN ?_ _ | refine bstep (by assumption) ?_ | refine bstep (Past.prop _) ?_ | refine Below.setCell ?_ (by first | exact Nat.le_refl _ | (simp; done) | (simp; omega)) _))⟩

/-- A slice value that reads as r wherever the slice a reads as f. -/
def SliAll (a : Option Addr) (f : List Sg) (v : Value) (r : List Sg) : Prop :=
  ∃ (a2 : Option Addr) (cap2 : Nat), v = .slice a2 r.length cap2 ∧ r.length ≤ cap2 ∧ cap2 ≤ 9223372036854775807 ∧ ∀ w0, ArgS w0 a f → ArgS w0 a2 r
theorem sliAll_refl (a : Option Addr) (f : List Sg) (cap : Nat) (h : f.length ≤ cap) (h2 : cap ≤ 9223372036854775807) : SliAll a f (.slice a f.length cap) f := ⟨a, cap, rfl, h, h2, fun _ h => h⟩
theorem sliAll_trans {a a1 : Option Addr} {f f1 r : List Sg} {v : Value} (h : ∀ w0, ArgS w0 a f → ArgS w0 a1 f1) (h2 : SliAll a1 f1 v r) : SliAll a f v r := by
  obtain ⟨a2, cap2, e, l1, l2, k⟩ := h2
  exact ⟨a2, cap2, e, l1, l2, fun w0 h0 => k w0 (h w0 h0)⟩
theorem argS_tail {b off : Nat} {f : List Sg} (w0 : World) (h : ArgS w0 (some ⟨b, off, none⟩) f) : ArgS w0 (some ⟨b, off + 3, none⟩) (f.drop 1) := fun hl => by
  rw [List.length_drop] at hl
  obtain ⟨b', off', e, hb, hc⟩ := h (by omega)
  cases e
  refine ⟨b, off + 3, rfl, hb, fun i hi => ?_⟩
  rw [List.length_drop] at hi
  obtain ⟨h1, h2, h3⟩ := hc (i + 1) (by omega)
  have e : (f.drop 1).getD i (0, 0, 0) = f.getD (i + 1) (0, 0, 0) := by simp [List.getD_eq_getElem?_getD]
  rw [e, show off + 3 + i * 3 = off + (i + 1) * 3 by omega]
  exact ⟨h1, h2, h3⟩

set_option maxRecDepth 100000 in
theorem pass_c (f : List Sg) (t x y : Int) (a : Option Addr) (cap : Nat) (w : World) (hl : f.length ≤ cap) (hl' : cap ≤ 9223372036854775807) (hA : ArgS w a f) :
    Calls Try.prog 67 #[.slice a f.length cap, .int .i64 t, V x y] w fun e w' => (∃ sv, e = .returned (.tuple #[V (passV f t (x, y)).1 (passV f t (x, y)).2, sv]) ∧ SliAll a f sv (passF f t)) ∧ Below w.heap.size w w' := by
  by_cases hf : f.length = 0
  · have HE := hidE (show passV f t (x, y) = (x, y) by unfold passV hit; rw [if_neg (by rw [hf]; simp)])
    have HF := hidE (show passF f t = f by unfold passF hit; rw [if_neg (by rw [hf]; simp)])
    have HS := hidE (sliAll_refl a f cap hl hl')
    have df : decide (0 < f.length) = false := decide_eq_false (by omega)
    clear hA hf hl hl'
    rw [HE.out, HF.out]
    generalize f.length = k at *
    go_enter Try.func67, Try.ntmps67
    go_wp2
    refine bodyPost_ret (v := .tuple #[V x y, .slice a k cap]) (by simp [results, Try.results67, go_sem, *]) rfl ⟨⟨_, rfl, HS.out⟩, ?_⟩
    (repeat (first | exact Below.refl _ _ | assumption | refine balloc ?_ _ | refine below_drewN ?_ _ | refine bstep (by assumption) ?_ | refine bstep (Past.prop _) ?_ | refine Below.setCell ?_ (by first | exact Nat.le_refl _ | (simp; done) | (simp; omega)) _))
  · have hf0 : 0 < f.length := by omega
    obtain ⟨b, off, rfl, hb, hc⟩ := hA hf0
    obtain ⟨c0, c1, c2⟩ := hc.get (i := 0) hf0
    simp at c0 c1 c2
    have df : decide (0 < f.length) = true := decide_eq_true hf0
    by_cases ht : ats f 0 = t
    · have HE := hidE (show passV f t (x, y) = vls f 0 by unfold passV hit; rw [if_pos (by simp [hf0, ht])])
      have HF := hidE (show passF f t = f.drop 1 by unfold passF hit; rw [if_pos (by simp [hf0, ht])])
      have HS := hidE (argS_tail (b := b) (off := off) (f := f))
      have dt : (ats f 0 == t) = true := beq_iff_eq.2 ht
      have HL := hidE (show (f.drop 1).length = f.length - 1 by rw [List.length_drop])
      clear hA hc hf ht
      rw [HE.out, HF.out]
      generalize f.drop 1 = r at *
      generalize ats f 0 = u at *
      generalize vls f 0 = v at *
      go_enter Try.func67, Try.ntmps67
      go_upto_region 2 with fail
      go_region
      have hB : Below w.heap.size w ((w.alloc (Obj.cells #[Value.int IntKind.i64 x, Value.int IntKind.i64 y] 40)).alloc (Obj.cells #[Value.int IntKind.i64 v.fst, Value.int IntKind.i64 v.snd] 40)).drew :=
        Below.trans (b := (w.alloc (Obj.cells #[Value.int IntKind.i64 x, Value.int IntKind.i64 y] 40)).alloc (Obj.cells #[Value.int IntKind.i64 v.fst, Value.int IntKind.i64 v.snd] 40)) (by (repeat (first | exact Below.refl _ _ | assumption | refine balloc ?_ _ | refine below_drewN ?_ _ | refine bstep (by assumption) ?_ | refine bstep (Past.prop _) ?_ | refine Below.setCell ?_ (by first | exact Nat.le_refl _ | (simp; done) | (simp; omega)) _))) (Below.refl _ _).drew
      have HB := hidE hB
      clear hB
      go_wp2
      · refine bodyPost_ret (v := .tuple #[V v.1 v.2, .slice (if cap = 1 then some ⟨b, off, none⟩ else some ⟨b, off + 3, none⟩) (f.length - 1) (cap - 1)]) (by simp [results, Try.results67, go_sem, *]) rfl ⟨⟨_, rfl, _, _, by rw [HL.out], by rw [HL.out]; omega, by omega, fun w0 h0 hl0 => ?_⟩, HB.out⟩
        rw [HL.out] at hl0
        omega
      · refine bodyPost_ret (v := .tuple #[V v.1 v.2, .slice (if cap = 1 then some ⟨b, off, none⟩ else some ⟨b, off + 3, none⟩) (f.length - 1) (cap - 1)]) (by simp [results, Try.results67, go_sem, *]) rfl ⟨⟨_, rfl, _, _, by rw [HL.out], by rw [HL.out]; omega, by omega, fun w0 h0 => ?_⟩, HB.out⟩
        rw [if_neg (by assumption)]
        exact HS.out w0 h0
    · have HE := hidE (show passV f t (x, y) = (x, y) by unfold passV hit; rw [if_neg (by simp [ht])])
      have HF := hidE (show passF f t = f by unfold passF hit; rw [if_neg (by simp [ht])])
      have HS := hidE (sliAll_refl (some ⟨b, off, none⟩) f cap hl hl')
      have dt : (ats f 0 == t) = false := beq_eq_false_iff_ne.2 ht
      clear hA hc hf hl hl' ht c1 c2
      rw [HE.out, HF.out]
      generalize ats f 0 = u at *
      generalize f.length = k at *
      go_enter Try.func67, Try.ntmps67
      go_wp2
      refine bodyPost_ret (v := .tuple #[V x y, .slice (some ⟨b, off, none⟩) k cap]) (by simp [results, Try.results67, go_sem, *]) rfl ⟨⟨_, rfl, HS.out⟩, ?_⟩
      (repeat (first | exact Below.refl _ _ | assumption | refine balloc ?_ _ | refine below_drewN ?_ _ | refine bstep (by assumption) ?_ | refine bstep (Past.prop _) ?_ | refine Below.setCell ?_ (by first | exact Nat.le_refl _ | (simp; done) | (simp; omega)) _))
end Go.Proofs.Ytgbgnpdfjoeonaa

namespace Go.Proofs.Ytgbgnpdfjoeonaa
open Go.RowKit

/-- What a body keeps: whatever lies below n₀, and whatever lay at or beyond n₁. -/
structure Outside (n₀ n₁ : Nat) (W W' : World) : Prop where
  below : Below n₀ W W'
  beyond : ∀ k, n₁ ≤ k → k < W.heap.size → W'.heap[k]? = W.heap[k]?
theorem Outside.refl (n₀ n₁ : Nat) (W : World) : Outside n₀ n₁ W W := ⟨Below.refl _ _, fun _ _ _ => rfl⟩
theorem Outside.trans {n₀ n₁ : Nat} {A B C : World} (h : Outside n₀ n₁ A B) (k : Outside n₀ n₁ B C) : Outside n₀ n₁ A C :=
  ⟨h.below.trans k.below, fun i hi hl => (k.beyond i hi (Nat.lt_of_lt_of_le hl h.below.size)).trans (h.beyond i hi hl)⟩
theorem Outside.of_below {n₀ n₁ : Nat} {A B : World} (h : Below A.heap.size A B) (hn : n₀ ≤ A.heap.size) : Outside n₀ n₁ A B := ⟨h.mono hn, fun k _ hl => h.block k hl⟩
theorem Outside.weak {n₀ n₁ n₁' : Nat} {A B : World} (h : Outside n₀ n₁ A B) (hn : n₁ ≤ n₁') : Outside n₀ n₁' A B := ⟨h.below, fun k hk hl => h.beyond k (by omega) hl⟩
/-- A turn of a block of the caller's own. -/
theorem Outside.of_grown {n₀ n₁ p : Nat} {A B : World} (h : A.grownBy B (some p)) (h0 : n₀ ≤ p) (h1 : p < n₁) (h2 : n₀ ≤ A.heap.size) : Outside n₀ n₁ A B :=
  ⟨⟨h.os, h.tape, h.output, h.size, fun k hk => h.block k (by omega) (fun e => by cases e; omega)⟩, fun k hk hl => h.block k hl (fun e => by cases e; omega)⟩

/-- The contract of an iterator value: it hands on the list S, one after the other, unless a round says 'no more'; whatever the caller's invariants are that speak only of what lay ahead of the iterator's call. -/
def SeqT {α : Type} (P : Program) (gf : Nat) (rb lb : Array Value) (encs : α → Array Value) (n₀ : Nat) (S : List α) (w : World) : Prop :=
  ∀ (l : Nat) (J Jx : List α → World → Prop) (W : World), Below w.heap.size w W →
    (∀ s A B, J s A → Below W.heap.size A B → J s B) → (∀ s A B, Jx s A → Below W.heap.size A B → Jx s B) →
    (∀ pre x W1, J pre W1 → pre ++ [x] <+: S → YieldAt Fence.wide 0 P l (encs x) W1 fun e W' =>
      (e = .returned (.bool true) ∧ J (pre ++ [x]) W' ∧ Outside n₀ W.heap.size W1 W') ∨ (e = .returned (.bool false) ∧ Jx (pre ++ [x]) W')) →
    J [] W →
    Calls P gf (rb ++ #[.func (.yield l) #[] #[]] ++ lb) W fun e W' => (∃ v, e = .returned v) ∧ (J S W' ∨ ∃ pre, pre <+: S ∧ Jx pre W')

/-- How the body of a round may be left. -/
def postT {α : Type} (n₀ n₁ : Nat) (I : List α → World → Prop) (Ix : Code → List α → World → Prop) (xs : List α) (W : World) : Exit → Act → World → Prop
  | .normal, _, W' => Outside n₀ n₁ W W' ∧ I xs W'
  | .ret, _, W' => Outside n₀ n₁ W W' ∧ Ix .ret xs W'
  | .exit id, _, W' => Outside n₀ n₁ W W' ∧ Ix (.exit id) xs W'
  | .goto t, _, W' => Outside n₀ n₁ W W' ∧ Ix (.goto t) xs W'
  | .panic _, _, _ => False
  | .outgrown, _, _ => False

theorem below_putObj {B : Nat} (W : World) (l : Nat) (o : Obj) (h : B ≤ l) : Below B W (W.putObj l o) :=
  ⟨rfl, rfl, rfl, by simp, fun k hk => World.putObj_heap_other (by omega)⟩

theorem grown_putObj (W : World) (l : Nat) (o : Obj) : W.grownBy (W.putObj l o) (some l) :=
  ⟨rfl, rfl, rfl, by simp, fun k _ hk => World.putObj_heap_other (fun e => hk (by rw [e]))⟩
/-- The statement. -/
theorem wp_rangeFunc_T {α : Type} {P : Program} {g : Operand} {ps : Array Tmp} {assign body : Code} {Q : Exit → Act → World → Prop} {a : Act} {w : World}
    {gf : Nat} {rb lb : Array Value} (hg : a.eval g = .func (.func gf) rb lb) (eg : ∀ args w, (callFunc gf args).run P w = .ok (.enter gf args) w)
    {encs : α → Array Value} {n₀ : Nat} (hn₀ : n₀ ≤ w.heap.size) {S : List α} (hseq : SeqT P gf rb lb encs n₀ S w) (hps : ∀ x, (encs x).size = ps.size)
    (I : List α → World → Prop) (Ix : Code → List α → World → Prop) (hI : ∀ s A B, I s A → Below w.heap.size A B → I s B) (hIx : ∀ c s A B, Ix c s A → Below w.heap.size A B → Ix c s B) (h0 : I [] w)
    (Ax : α → Act → World → Prop) (hAx : ∀ x a' A l r o, Ax x a' A → A.heap[l]? = some (.loop r) → Ax x a' (A.putObj l o))
    (hassign : ∀ (l : Nat) (pre : List α) (x : α) (W : World) (K : Act → World → Prop), w.heap.size ≤ W.heap.size → I pre W → (∀ a' W', Outside n₀ w.heap.size W W' → I pre W' → Ax x a' W' → K a' W') →
      assign.wpIn (Fence.wide.inRound l) 0 P (Exit.then K (fun _ _ _ => False)) { tmps := (ps.zip (encs x)).foldl (fun t (p, v) => t.setIfInBounds p v) a.tmps, defers := [] } W)
    (hbody : ∀ (l : Nat) (pre : List α) (x : α) (a' : Act) (W : World), w.heap.size ≤ W.heap.size → I pre W → Ax x a' W → pre ++ [x] <+: S → body.wpIn (Fence.wide.inRound l) 0 P (postT n₀ w.heap.size I Ix (pre ++ [x]) W) a' W)
    (hdone : ∀ (D : Nat) (W : World), w.heap.size ≤ D → I S W → W.heap[D]? = some (.deferred (some [])) → Q .normal { a with defers := { target := .collected D, args := #[] } :: a.defers } W)
    (hstop : ∀ (D : Nat) (c : Code) (pre : List α) (W : World), w.heap.size ≤ D → pre <+: S → Ix c pre W → W.heap[D]? = some (.deferred (some [])) → c.wp P Q { a with defers := { target := .collected D, args := #[] } :: a.defers } W) :
    (Code.rangeFunc g ps assign body).wp P Q a w := by
  refine (wpIn_wide (n := 0)).1 (wpIn_rangeFunc ?_)
  intro fn hfn
  obtain ⟨rec, hrec⟩ : ∃ rec : LoopState → Option Code → Loop, rec = fun st pe => { state := st, pending := pe, fn, tmps := a.tmps, params := ps, assign, body, defers := w.heap.size } := ⟨_, rfl⟩
  obtain ⟨W1, hW1⟩ : ∃ W1, (w.alloc (.deferred (some []))).alloc (.loop (rec .ready none)) = W1 := ⟨_, rfl⟩
  have hL1 : W1.heap[w.heap.size + 1]? = some (.loop (rec .ready none)) := by
    rw [← hW1]; have := World.alloc_heap_new (w.alloc (.deferred (some []))) (.loop (rec .ready none)); rwa [World.size_alloc] at this
  have hK1 : W1.heap[w.heap.size]? = some (.deferred (some [])) := by
    rw [← hW1]; exact (Below.heap_alloc _ _ _ (by simp)).trans (World.alloc_heap_new w _)
  have hb1 : Below w.heap.size w W1 := by
    rw [← hW1]; exact ((Below.refl _ w).alloc (Nat.le_refl _) _).alloc (by simp) _
  have hs1 : W1.heap.size = w.heap.size + 2 := by rw [← hW1]; simp
  have hI1 : I [] W1 := hI _ _ _ h0 hb1
  refine ⟨w.heap.size + 1, [{ target := .collected w.heap.size, args := #[] }], W1, { target := .fn (.func gf) lb, args := rb ++ #[.func (.yield (w.heap.size + 1)) #[] #[]] }, W1, gf,
    rb ++ #[.func (.yield (w.heap.size + 1)) #[] #[]] ++ lb, W1, ?_, ?_, ?_, ?_, fun h => by simp [Fence.wide] at h, ?_⟩
  · rw [← hW1, hrec]; exact run_enterLoop_outer _ _ _ _ _
  · simp only [resolve, hg]
    simp [go_sem, Deferred.ofValue]
  · intro f' hf'; trivial
  · simp [invoke, go_sem, eg]
  · refine callsIn_wide.2 ?_
    refine (hseq (w.heap.size + 1)
      (fun pre W => I pre W ∧ W.heap[w.heap.size + 1]? = some (.loop (rec .ready none)) ∧ W.heap[w.heap.size]? = some (.deferred (some [])) ∧ w.heap.size ≤ W.heap.size)
      (fun pre W => ∃ c, Ix c pre W ∧ W.heap[w.heap.size + 1]? = some (.loop (rec .done (some c))) ∧ W.heap[w.heap.size]? = some (.deferred (some [])))
      W1 hb1
      (fun s A B hs hg' => ⟨hI s A B hs.1 (hg'.mono (by omega)), (hg'.block _ (by omega)).trans hs.2.1, (hg'.block _ (by omega)).trans hs.2.2.1, Nat.le_trans hs.2.2.2 hg'.size⟩)
      (fun s A B hs hg' => by
        obtain ⟨c, hc, hl, hk⟩ := hs
        exact ⟨c, hIx c s A B hc (hg'.mono (by omega)), (hg'.block _ (by omega)).trans hl, (hg'.block _ (by omega)).trans hk⟩)
      ?_ ⟨hI1, hL1, hK1, hb1.size⟩).mono ?_
    · -- one round
      rintro pre x W ⟨hi, hl, hk, hsz⟩ hpre
      have hlt : w.heap.size + 1 < W.heap.size := (Array.getElem?_eq_some_iff.1 hl).1
      have hy := run_yield (P := P) (args := encs x) hl (by rw [hrec]; exact hps x)
      rw [hrec] at hy
      refine ⟨fn, _, assign, body, hy, roundIn_of_wpIn trivial (hassign _ pre x W _ hsz hi ?_)⟩
      clear hy
      intro a' Wa hoa hia hax
      have hla := (hoa.beyond _ (by omega) hlt).trans hl
      have hka := (hoa.beyond _ (Nat.le_refl _) (by omega)).trans hk
      have hlta : w.heap.size + 1 < Wa.heap.size := Nat.lt_of_lt_of_le hlt hoa.below.size
      refine ⟨_, run_beginRound hla (by rw [hrec]), ?_⟩
      have hl2 : (Wa.putObj (w.heap.size + 1) (.loop { rec .ready none with state := .busy })).heap[w.heap.size + 1]? = some (.loop { rec .ready none with state := .busy }) := World.putObj_heap_same hlta
      have hk2 : (Wa.putObj (w.heap.size + 1) (.loop { rec .ready none with state := .busy })).heap[w.heap.size]? = some (.deferred (some [])) := (World.putObj_heap_other (by omega)).trans hka
      have hb2 : Below w.heap.size Wa (Wa.putObj (w.heap.size + 1) (.loop { rec .ready none with state := .busy })) := below_putObj _ _ _ (by omega)
      refine wpIn_mono (hbody _ pre x a' _ (by simp; omega) (hI _ _ _ hia hb2) (hAx _ _ _ _ _ _ hax hla) hpre) ?_
      have fin : ∀ (jump : Option Code) (W3 : World), Outside n₀ w.heap.size (Wa.putObj (w.heap.size + 1) (.loop { rec .ready none with state := .busy })) W3 →
          (Instr.endRound (w.heap.size + 1) jump).run P W3 = .ok (.bool jump.isNone) (W3.putObj (w.heap.size + 1) (.loop (rec (if jump.isNone then .ready else .done) jump))) ∧
          (W3.putObj (w.heap.size + 1) (.loop (rec (if jump.isNone then .ready else .done) jump))).heap[w.heap.size + 1]? = some (.loop (rec (if jump.isNone then .ready else .done) jump)) ∧
          (W3.putObj (w.heap.size + 1) (.loop (rec (if jump.isNone then .ready else .done) jump))).heap[w.heap.size]? = some (.deferred (some [])) ∧
          Below w.heap.size W3 (W3.putObj (w.heap.size + 1) (.loop (rec (if jump.isNone then .ready else .done) jump))) ∧
          Outside n₀ W1.heap.size W (W3.putObj (w.heap.size + 1) (.loop (rec (if jump.isNone then .ready else .done) jump))) := fun jump W3 ho3 => by
        have hl3 := (ho3.beyond (w.heap.size + 1) (by omega) (by simp; omega)).trans hl2
        have hk3 := (ho3.beyond w.heap.size (Nat.le_refl _) (by simp; omega)).trans hk2
        have hr := run_endRound (P := P) jump hl3
        have hsz3 : w.heap.size + 1 < W3.heap.size := (Array.getElem?_eq_some_iff.1 hl3).1
        refine ⟨?_, World.putObj_heap_same hsz3, (World.putObj_heap_other (by omega)).trans hk3, below_putObj _ _ _ (by omega), ?_⟩
        · rw [hrec] at hr ⊢; exact hr
        · have e1 : Outside n₀ W1.heap.size Wa (Wa.putObj (w.heap.size + 1) (.loop { rec .ready none with state := .busy })) := Outside.of_grown (grown_putObj _ _ _) (by omega) (by omega) (by omega)
          have e2 : Outside n₀ W1.heap.size W3 (W3.putObj (w.heap.size + 1) (.loop (rec (if jump.isNone then .ready else .done) jump))) := Outside.of_grown (grown_putObj _ _ _) (by omega) (by omega) (by omega)
          exact (((hoa.weak (by omega)).trans e1).trans (ho3.weak (by omega))).trans e2
      rintro e a3 W3 hp
      cases e with
      | normal =>
        obtain ⟨hk3, hi3⟩ := hp
        obtain ⟨hr, hl4, hk4, hb4, ho4⟩ := fin none W3 hk3
        exact ⟨_, _, hr, .inl ⟨rfl, ⟨hI _ _ _ hi3 hb4, hl4, hk4, Nat.le_trans (by have := hk3.below.size; simp at this; omega) hb4.size⟩, ho4⟩⟩
      | ret =>
        obtain ⟨hk3, hi3⟩ := hp
        obtain ⟨hr, hl4, hk4, hb4, ho4⟩ := fin (some .ret) W3 hk3
        exact ⟨_, _, hr, .inr ⟨rfl, .ret, hIx _ _ _ _ hi3 hb4, hl4, hk4⟩⟩
      | exit id =>
        obtain ⟨hk3, hi3⟩ := hp
        obtain ⟨hr, hl4, hk4, hb4, ho4⟩ := fin (some (.exit id)) W3 hk3
        exact ⟨_, _, hr, .inr ⟨rfl, .exit id, hIx _ _ _ _ hi3 hb4, hl4, hk4⟩⟩
      | goto t =>
        obtain ⟨hk3, hi3⟩ := hp
        obtain ⟨hr, hl4, hk4, hb4, ho4⟩ := fin (some (.goto t)) W3 hk3
        exact ⟨_, _, hr, .inr ⟨rfl, .goto t, hIx _ _ _ _ hi3 hb4, hl4, hk4⟩⟩
      | panic ch => exact hp.elim
      | outgrown => exact hp.elim
    · -- behind the iterator
      rintro e W2 ⟨⟨v, rfl⟩, (⟨hi, hl, hk, _⟩ | ⟨pre, hSp, c, hi, hl, hk⟩)⟩
      · exact ⟨none, _, by have := run_endLoop (P := P) hl (by rw [hrec]; simp); rw [hrec] at this; exact this, hdone _ _ (Nat.le_refl _) (hI _ _ _ hi (below_putObj _ _ _ (by omega))) ((World.putObj_heap_other (by omega)).trans hk)⟩
      · exact ⟨some c, _, by have := run_endLoop (P := P) hl (by rw [hrec]; simp); rw [hrec] at this; exact this, (wpIn_wide (n := 0)).2 (hstop _ c pre _ (Nat.le_refl _) hSp (hIx _ _ _ _ hi (below_putObj _ _ _ (by omega))) ((World.putObj_heap_other (by omega)).trans hk))⟩
end Go.Proofs.Ytgbgnpdfjoeonaa

namespace Go.Proofs.Ytgbgnpdfjoeonaa
open Go.ChangeShapes Go.WideShapes Go.ChangeAt Go.RowKit
attribute [local irreducible] Go.Calls

/-- What yield is handed. -/
def encT (p : Tg) : Array Value := #[.int .i64 p.1, .agg #[.int .i64 p.2.1.1, .int .i64 p.2.1.2, .int .i64 p.2.2.1, .int .i64 p.2.2.2]]

/-- Where the walk stands between two rounds. -/
def TogAt (F G : List Sg) (w0 W : World) (J : List Tg → World → Prop) (gh : Nat) (v4 v5 : Value) (wr : World) : Prop :=
  ∃ (f g : List Sg) (x y : Int × Int) (pre : List Tg) (a1 a2 : Option Addr) (c1 c2 : Nat), v4 = .slice a1 f.length c1 ∧ v5 = .slice a2 g.length c2 ∧
    f.length ≤ c1 ∧ c1 ≤ 9223372036854775807 ∧ g.length ≤ c2 ∧ c2 ≤ 9223372036854775807 ∧ ArgS w0 a1 f ∧ ArgS w0 a2 g ∧ f.length + g.length ≤ gh ∧ f.length + g.length ≤ 1000000000 ∧
    pre ++ tog gh f g x y = togL F G ∧ J pre wr ∧ Below w0.heap.size w0 wr ∧ W.heap.size ≤ wr.heap.size ∧ Blk wr (W.heap.size + 1) #[.int .i64 x.1, .int .i64 x.2, .int .i64 y.1, .int .i64 y.2] 67

set_option maxRecDepth 100000 in
set_option maxHeartbeats 2000000 in
theorem tog_c (F G : List Sg) (a a' : Option Addr) (cap cap' : Nat) (fv : Value) (w0 w : World) (hF : F.length ≤ cap) (hc : cap ≤ 9223372036854775807) (hG : G.length ≤ cap') (hc' : cap' ≤ 9223372036854775807)
    (hl : F.length + G.length ≤ 1000000000) (hA : ArgS w0 a F) (hA' : ArgS w0 a' G) (hb : Below w0.heap.size w0 w) :
    SeqT Try.prog 39 #[.agg #[.slice a F.length cap, .slice a' G.length cap', fv]] #[] encT w0.heap.size (togL F G) w := by
  intro l J Jx W hW hJ hJx hY h0
  have H0 := hidE h0; have HJ := hidE hJ; have HJX := hidE hJx; have HY := hidE hY
  have HA := hidE hA; have HA' := hidE hA'
  have hbW : Below w0.heap.size w0 W := hb.trans (hW.mono hb.size)
  have HBW := hidE hbW
  have HL := hidE (And.intro (And.intro hF hc) (And.intro hG hc'))
  clear hA hA' hJ hJx hY h0 hF hG hc hc' hb hW hbW
  show Calls Try.prog 39 #[.agg #[.slice a F.length cap, .slice a' G.length cap', fv], .func (.yield l) #[] #[]] W _
  go_enter Try.func39, Try.ntmps39
  go_wp2
  go_quiet (fail)
  go_wp2
  go_loopg [4, 5, 7] (F.length + G.length) (fun gh v4 v5 _ wr => TogAt F G w0 W J gh v4 v5 wr)
  case atStart =>
    obtain ⟨⟨e1, e2⟩, e3, e4⟩ := HL.out
    refine ⟨F, G, (0, 0), (0, 0), [], a, a', cap, cap', rfl, rfl, e1, e2, e3, e4, HA.out, HA'.out, Nat.le_refl _, hl, rfl, HJ.out _ _ _ H0.out ?_, HBW.out.trans (Below.mono ?_ HBW.out.size), ?_, ?_⟩
    · (repeat (first | exact Below.refl _ _ | assumption | refine balloc ?_ _ | refine below_drewN ?_ _ | refine bstep (by assumption) ?_ | refine bstep (Past.prop _) ?_ | refine Below.setCell ?_ (by first | exact Nat.le_refl _ | (simp; done) | (simp; omega)) _))
    · (repeat (first | exact Below.refl _ _ | assumption | refine balloc ?_ _ | refine below_drewN ?_ _ | refine bstep (by assumption) ?_ | refine bstep (Past.prop _) ?_ | refine Below.setCell ?_ (by first | exact Nat.le_refl _ | (simp; done) | (simp; omega)) _))
    · simp; omega
    · exact Blk.made_at _ _ _ _ (by simp)
  case round =>
    obtain ⟨f, g, x, y, pre, a1, a2, c1, c2, rfl, rfl, l1, m1, l2, m2, k1, k2, hgh, hlen, hpre, hJ1, hB1, hsz, blk⟩ := hrel
    clear HA HA' HL
    have K1 := hidE k1; have K2 := hidE k2; have HJ1 := hidE hJ1; have HB1 := hidE hB1; have HPRE := hidE hpre
    have HM := hidE (And.intro (And.intro l1 m1) (And.intro l2 m2))
    have HG := hidE (And.intro hgh hlen)
    have HSZ := hidE hsz
    clear k1 k2 hJ1 hB1 hpre l1 m1 l2 m2 hgh hlen hsz
    obtain ⟨wo, hwo⟩ : ∃ wo : World, wo = wr := ⟨_, rfl⟩
    by_cases hne : f.length = 0 ∧ g.length = 0
    · have df : decide (0 < f.length) = false := decide_eq_false (by omega)
      have dg : decide (0 < g.length) = false := decide_eq_false (by omega)
      have HE := hidE (tog_nil (n := gk) (x := x) (y := y) hne.1 hne.2)
      clear hne
      generalize f.length = kf at *
      generalize g.length = kg at *
      go_wp2
      go_end0
      exact ⟨⟨_, rfl⟩, .inl (by have := HPRE.out; rw [HE.out, List.append_nil] at this; rw [← this]; exact HJ1.out)⟩
    · obtain ⟨gk', rfl⟩ : ∃ gk', gk = gk' + 1 := ⟨gk - 1, by have := HG.out.1; omega⟩
      have HPRE' := HPRE.out
      rw [tog_cons hne] at HPRE'
      have HP := hidE HPRE'
      have HLESS := hidE (pass_less hne)
      have HNE := hidE hne
      clear HPRE' HPRE
      have HNX := hidE (fun w h1 h2 => next_c f g a1 a2 c1 c2 w (by have := HG.out.2; omega) (by have := HG.out.2; omega) HNE.out h1 h2)
      have HPF := hidE (fun w h1 => pass_c f (nextT f g) x.1 x.2 a1 c1 w HM.out.1.1 HM.out.1.2 h1)
      have HPG := hidE (fun w h1 => pass_c g (nextT f g) y.1 y.2 a2 c2 w HM.out.2.1 HM.out.2.2 h1)
      have hd : decide (0 < f.length) = true ∨ (decide (0 < f.length) = false ∧ decide (0 < g.length) = true) := by
        by_cases c : 0 < f.length
        · exact .inl (decide_eq_true c)
        · exact .inr ⟨decide_eq_false c, decide_eq_true (by omega)⟩
      have HFL := hidE (passF_len f (nextT f g)); have HGL := hidE (passF_len g (nextT f g))
      generalize hxv : passV f (nextT f g) x = x' at *
      generalize hyv : passV g (nextT f g) y = y' at *
      have hxv' : passV f (nextT f g) (x.1, x.2) = x' := hxv
      have hyv' : passV g (nextT f g) (y.1, y.2) = y' := hyv
      try simp only [hxv'] at HPF
      try simp only [hyv'] at HPG
      clear hxv hyv hxv' hyv' hne
      generalize passF f (nextT f g) = f' at *
      generalize passF g (nextT f g) = g' at *
      generalize nextT f g = t at *
      have p0 := blk.cell 0; have p1 := blk.cell 1; have p2 := blk.cell 2; have p3 := blk.cell 3; have pf := blk.free; have pz := blk.lt
      simp at p0 p1 p2 p3
      rcases hd with hd | ⟨hd, hd'⟩
      all_goals
        have hw0 := HBW.out.size
        go_wp2_with fail
        ((with_reducible refine (HNX.out _ (K1.out.past HB1.out) (K2.out.past HB1.out)).mono ?_); rintro e w1 ⟨rfl, hb1⟩)
        have q1 := blk.past hb1
        have bb1 : Below W.heap.size wr w1 := hb1.mono HSZ.out
        have s1 := hb1.size
        clear hb1 p0 p1 p2 p3 pf pz
        have p0 := q1.cell 0; have p1 := q1.cell 1; have p2 := q1.cell 2; have p3 := q1.cell 3; have pf := q1.free; have pz := q1.lt
        simp at p0 p1 p2 p3
        go_wp2_with fail
        ((with_reducible refine (HPF.out _ (K1.out.past (HB1.out.trans (bb1.mono hw0)))).mono ?_); rintro e w2 ⟨⟨sv, rfl, hsv⟩, hb2⟩)
        obtain ⟨a3, c3, rfl, l3, m3, k3⟩ := hsv
        have K3 := hidE (k3 _ K1.out); have M3 := hidE (And.intro l3 m3)
        have q2 := q1.past hb2
        have bb2 : Below W.heap.size wr w2 := bb1.trans (hb2.mono (Nat.le_trans HSZ.out s1))
        have s2 := hb2.size
        clear hb2 p0 p1 p2 p3 pf pz bb1 l3 m3 k3
        have q3 := (q2.set 0 (.int .i64 x'.1)).set 1 (.int .i64 x'.2)
        have bb3 : Below W.heap.size wr ((w2.setCell ⟨W.heap.size + 1, 0, none⟩ (.int .i64 x'.1)).setCell ⟨W.heap.size + 1, 1, none⟩ (.int .i64 x'.2)) := by (repeat (first | exact Below.refl _ _ | assumption | refine balloc ?_ _ | refine below_drewN ?_ _ | refine bstep (by assumption) ?_ | refine bstep (Past.prop _) ?_ | refine Below.setCell ?_ (by first | exact Nat.le_refl _ | (simp; done) | (simp; omega)) _))
        have p0 := q2.cell 0; have p1 := q2.cell 1; have p2 := q2.cell 2; have p3 := q2.cell 3; have pf := q2.free; have pz := q2.lt
        simp at p0 p1 p2 p3 q3
        go_wp2_with fail
        ((with_reducible refine (HPG.out _ (K2.out.past (HB1.out.trans (bb3.mono hw0)))).mono ?_); rintro e w3 ⟨⟨sv, rfl, hsv⟩, hb3⟩)
        obtain ⟨a4, c4, rfl, l4, m4, k4⟩ := hsv
        have K4 := hidE (k4 _ K2.out); have M4 := hidE (And.intro l4 m4)
        have q4 := q3.past hb3
        have bb4 : Below W.heap.size wr w3 := bb3.trans (hb3.mono (by simp [World.setCell]; omega))
        have s4 : wr.heap.size ≤ w3.heap.size := by have := hb3.size; simp [World.setCell] at this; omega
        clear hb3 p0 p1 p2 p3 pf pz bb2 bb3 l4 m4 k4
        have q5 := (q4.set 2 (.int .i64 y'.1)).set 3 (.int .i64 y'.2)
        have bb5 : Below W.heap.size wr ((w3.setCell ⟨W.heap.size + 1, 2, none⟩ (.int .i64 y'.1)).setCell ⟨W.heap.size + 1, 3, none⟩ (.int .i64 y'.2)) := by (repeat (first | exact Below.refl _ _ | assumption | refine balloc ?_ _ | refine below_drewN ?_ _ | refine bstep (by assumption) ?_ | refine bstep (Past.prop _) ?_ | refine Below.setCell ?_ (by first | exact Nat.le_refl _ | (simp; done) | (simp; omega)) _))
        have p0 := q4.cell 0; have p1 := q4.cell 1; have p2 := q4.cell 2; have p3 := q4.cell 3; have pf := q4.free; have pz := q4.lt
        simp at p0 p1 p2 p3 q5
        obtain ⟨fn, tmps, assign, body, hy, hR⟩ := HY.out pre (t, x', y') _ (HJ.out _ _ _ HJ1.out bb5) ⟨tog gk' f' g' x' y', by rw [← HP.out]; simp⟩
        dsimp only [encT] at hy
        go_upto_region 7 with fail
        refine (wpIn_wide (n := 0)).1 ?_
        gi_wp2
        refine ⟨rfl, hR.mono ?_⟩
        clear hy hR
        rintro e W' (⟨rfl, hJ', hO⟩ | ⟨rfl, hJx'⟩)
        · gi_wp2
          go_wp2
          go_roundg gk'
          case measure => omega
          case rel =>
            have hz : W.heap.size + 1 < ((w3.setCell ⟨W.heap.size + 1, 2, none⟩ (.int .i64 y'.1)).setCell ⟨W.heap.size + 1, 3, none⟩ (.int .i64 y'.2)).heap.size := q5.lt
            exact ⟨f', g', x', y', pre ++ [(t, x', y')], a3, a4, c3, c4, rfl, rfl, M3.out.1, M3.out.2, M4.out.1, M4.out.2, K3.out, K4.out, by have := HLESS.out; have := HG.out.1; omega, by have := HLESS.out; have := HG.out.2; omega,
              by rw [← HP.out]; simp, hJ', (HB1.out.trans (bb5.mono hw0)).trans hO.below, Nat.le_trans (Nat.le_trans HSZ.out bb5.size) hO.below.size, (hO.beyond _ (by omega) hz).trans q5⟩
        · gi_wp2
          go_wp2
          refine bodyPost_ret (results_none rfl _ _ _) rfl ?_
          exact ⟨⟨_, rfl⟩, .inr ⟨pre ++ [(t, x', y')], ⟨tog gk' f' g' x' y', by rw [← HP.out]; simp⟩, hJx'⟩⟩
end Go.Proofs.Ytgbgnpdfjoeonaa

namespace Go.Proofs.Ytgbgnpdfjoeonaa
open Go.ChangeShapes Go.WideShapes Go.ChangeAt Go.RowKit
attribute [local irreducible] Go.Calls

theorem addL_two (a b c d : Int) : addL [(a, b), (c, d)] = addS a b c d := by
  unfold addL addFrom addFrom addFrom
  simp only
  cases h1 : okV a b
  · have e1 : addS 0 0 a b = (0, 0, 10) := by unfold addS; rw [h1]; simp [gate]
    have e2 : addS a b c d = (0, 0, 10) := by unfold addS; rw [h1]; simp [gate]
    rw [e1, e2]; simp
  · have e0 : okV 0 0 = true := by decide
    have e1 : addS 0 0 a b = (a, b, 0) := by unfold addS; rw [h1, e0]; simp [gate, h1]
    rw [e1]
    simp only [if_true]
    by_cases h : (addS a b c d).2.2 = 0
    · rw [if_pos h]; exact Prod.ext rfl (Prod.ext rfl h.symm)
    · rw [if_neg h]
      unfold addS gate at h ⊢
      split
      · rename_i hh; rw [if_pos hh] at h; exact absurd rfl h
      · rfl

theorem plus_c (a b c d : Int) (w : World) : Calls Try.prog 27 #[V a b, V c d] w fun e w' => e = .returned (VE (opV 0 (a, b) (c, d))) ∧ Below w.heap.size w w' := by
  rw [opV_0, ← addL_two]
  generalize hg : addL [(a, b), (c, d)] = g
  have Hg := hidE hg; clear hg
  have HK := hidE (fun w b' hb hc => show Calls Try.prog 47 #[.slice (some ⟨b', 0, none⟩) 2 2] w _ from add_some [(a, b), (c, d)] b' 0 2 w hb (by simp) hc)
  go_enter Try.func27, Try.ntmps27
  go_wp2_with fail
  have B3 : Blk ((((w.alloc (Obj.cells #[Value.int IntKind.i64 a, Value.int IntKind.i64 b] 40)).alloc (Obj.cells #[Value.int IntKind.i64 c, Value.int IntKind.i64 d] 40)).alloc (Obj.cells #[Value.int IntKind.i64 0, Value.int IntKind.i64 0] 40)).alloc (Obj.cells #[Value.int IntKind.i64 a, Value.int IntKind.i64 b, Value.int IntKind.i64 c, Value.int IntKind.i64 d] 40)) (w.heap.size + 1 + 1 + 1) #[.int .i64 a, .int .i64 b, .int .i64 c, .int .i64 d] 40 := Blk.made_at _ _ _ _ (by simp)
  have B2 : Blk ((((w.alloc (Obj.cells #[Value.int IntKind.i64 a, Value.int IntKind.i64 b] 40)).alloc (Obj.cells #[Value.int IntKind.i64 c, Value.int IntKind.i64 d] 40)).alloc (Obj.cells #[Value.int IntKind.i64 0, Value.int IntKind.i64 0] 40)).alloc (Obj.cells #[Value.int IntKind.i64 a, Value.int IntKind.i64 b, Value.int IntKind.i64 c, Value.int IntKind.i64 d] 40)) (w.heap.size + 1 + 1) #[.int .i64 0, .int .i64 0] 40 := (Blk.made_at _ _ _ _ (by simp)).alloc _
  have hcv : CellsV ((((w.alloc (Obj.cells #[Value.int IntKind.i64 a, Value.int IntKind.i64 b] 40)).alloc (Obj.cells #[Value.int IntKind.i64 c, Value.int IntKind.i64 d] 40)).alloc (Obj.cells #[Value.int IntKind.i64 0, Value.int IntKind.i64 0] 40)).alloc (Obj.cells #[Value.int IntKind.i64 a, Value.int IntKind.i64 b, Value.int IntKind.i64 c, Value.int IntKind.i64 d] 40)) (w.heap.size + 1 + 1 + 1) 0 [(a, b), (c, d)] := by
    intro i hi
    simp only [List.length_cons, List.length_nil] at hi
    match i, hi with
    | 0, _ => exact ⟨B3.cell 0, B3.cell 1⟩
    | 1, _ => exact ⟨B3.cell 2, B3.cell 3⟩
  ((with_reducible refine (HK.out _ _ B3.lt hcv).mono ?_); rintro e w1 ⟨rfl, hb⟩)
  rw [Hg.out]
  have B2' := B2.past hb
  have hB : Below w.heap.size w w1 := by (repeat (first | exact Below.refl _ _ | assumption | refine balloc ?_ _ | refine below_drewN ?_ _ | refine bstep (by assumption) ?_ | refine bstep (Past.prop _) ?_ | refine Below.setCell ?_ (by first | exact Nat.le_refl _ | (simp; done) | (simp; omega)) _))
  have p0 := B2'.cell 0; have p1 := B2'.cell 1; have pf := B2'.free; have pz := B2'.lt
  simp at p0 p1
  clear hb B3 B2
  go_wp2
  refine bodyPost_ret (v := VE g) (by simp [results, Try.results27, go_sem, *]) rfl ⟨rfl, ?_⟩
  (repeat (first | exact Below.refl _ _ | assumption | refine balloc ?_ _ | refine below_drewN ?_ _ | refine bstep (by assumption) ?_ | refine bstep (Past.prop _) ?_ | refine Below.setCell ?_ (by first | exact Nat.le_refl _ | (simp; done) | (simp; omega)) _))

theorem always_mn (w : World) : Calls Try.prog 34 #[.func (.func 35) #[] #[]] w fun e w' => e = .returned (.func (.func 55) #[] #[.pointer (some ⟨w.heap.size, 0, none⟩)]) ∧ w' = w.alloc (.cells #[.func (.func 35) #[] #[]] 64) := by
  go_enter Try.func34, Try.ntmps34
  go_wp2
  go_ret
  exact ⟨rfl, rfl⟩
theorem alw_mn (a b c d : Int) (p : Nat) (w : World) (hp : w.cell? ⟨p, 0, none⟩ = some (.func (.func 35) #[] #[])) (hz : p < w.heap.size) :
    Calls Try.prog 55 #[V a b, V c d, .pointer (some ⟨p, 0, none⟩)] w fun e w' => e = .returned (VE (opV 2 (a, b) (c, d))) ∧ Below w.heap.size w w' := by
  have hp3 : (((w.alloc (Obj.cells #[Value.int IntKind.i64 a, Value.int IntKind.i64 b] 40)).alloc (Obj.cells #[Value.int IntKind.i64 c, Value.int IntKind.i64 d] 40)).alloc (Obj.cells #[Value.int IntKind.i64 0, Value.int IntKind.i64 0] 40)).cell? ⟨p, 0, none⟩ = some (.func (.func 35) #[] #[]) := by
    rw [World.cell?_alloc_past _ _ _ (by simp; omega), World.cell?_alloc_past _ _ _ (by simp; omega), World.cell?_alloc_past _ _ _ hz]; exact hp
  clear hp
  go_enter Try.func55, Try.ntmps55
  go_wp2_with fail
  ((with_reducible refine (mn_c a b c d _).mono ?_); rintro e w1 ⟨rfl, hb⟩)
  have B2 := (Blk.made_at (((w.alloc (Obj.cells #[Value.int IntKind.i64 a, Value.int IntKind.i64 b] 40)).alloc (Obj.cells #[Value.int IntKind.i64 c, Value.int IntKind.i64 d] 40))) #[.int .i64 0, .int .i64 0] 40 (w.heap.size + 1 + 1) (by simp)).past hb
  have hB : Below w.heap.size w w1 := by (repeat (first | exact Below.refl _ _ | assumption | refine balloc ?_ _ | refine below_drewN ?_ _ | refine bstep (by assumption) ?_ | refine bstep (Past.prop _) ?_ | refine Below.setCell ?_ (by first | exact Nat.le_refl _ | (simp; done) | (simp; omega)) _))
  have p0 := B2.cell 0; have p1 := B2.cell 1; have pf := B2.free; have pz := B2.lt
  simp at p0 p1
  clear hb
  go_wp2
  refine bodyPost_ret (v := VE (mn a c, mn b d, 0)) (by simp [results, Try.results55, go_sem, *]) rfl ⟨rfl, ?_⟩
  (repeat (first | exact Below.refl _ _ | assumption | refine balloc ?_ _ | refine below_drewN ?_ _ | refine bstep (by assumption) ?_ | refine bstep (Past.prop _) ?_ | refine Below.setCell ?_ (by first | exact Nat.le_refl _ | (simp; done) | (simp; omega)) _))
theorem always_mx (w : World) : Calls Try.prog 34 #[.func (.func 36) #[] #[]] w fun e w' => e = .returned (.func (.func 55) #[] #[.pointer (some ⟨w.heap.size, 0, none⟩)]) ∧ w' = w.alloc (.cells #[.func (.func 36) #[] #[]] 64) := by
  go_enter Try.func34, Try.ntmps34
  go_wp2
  go_ret
  exact ⟨rfl, rfl⟩
theorem alw_mx (a b c d : Int) (p : Nat) (w : World) (hp : w.cell? ⟨p, 0, none⟩ = some (.func (.func 36) #[] #[])) (hz : p < w.heap.size) :
    Calls Try.prog 55 #[V a b, V c d, .pointer (some ⟨p, 0, none⟩)] w fun e w' => e = .returned (VE (opV 3 (a, b) (c, d))) ∧ Below w.heap.size w w' := by
  have hp3 : (((w.alloc (Obj.cells #[Value.int IntKind.i64 a, Value.int IntKind.i64 b] 40)).alloc (Obj.cells #[Value.int IntKind.i64 c, Value.int IntKind.i64 d] 40)).alloc (Obj.cells #[Value.int IntKind.i64 0, Value.int IntKind.i64 0] 40)).cell? ⟨p, 0, none⟩ = some (.func (.func 36) #[] #[]) := by
    rw [World.cell?_alloc_past _ _ _ (by simp; omega), World.cell?_alloc_past _ _ _ (by simp; omega), World.cell?_alloc_past _ _ _ hz]; exact hp
  clear hp
  go_enter Try.func55, Try.ntmps55
  go_wp2_with fail
  ((with_reducible refine (mx_c a b c d _).mono ?_); rintro e w1 ⟨rfl, hb⟩)
  have B2 := (Blk.made_at (((w.alloc (Obj.cells #[Value.int IntKind.i64 a, Value.int IntKind.i64 b] 40)).alloc (Obj.cells #[Value.int IntKind.i64 c, Value.int IntKind.i64 d] 40))) #[.int .i64 0, .int .i64 0] 40 (w.heap.size + 1 + 1) (by simp)).past hb
  have hB : Below w.heap.size w w1 := by (repeat (first | exact Below.refl _ _ | assumption | refine balloc ?_ _ | refine below_drewN ?_ _ | refine bstep (by assumption) ?_ | refine bstep (Past.prop _) ?_ | refine Below.setCell ?_ (by first | exact Nat.le_refl _ | (simp; done) | (simp; omega)) _))
  have p0 := B2.cell 0; have p1 := B2.cell 1; have pf := B2.free; have pz := B2.lt
  simp at p0 p1
  clear hb
  go_wp2
  refine bodyPost_ret (v := VE (mx a c, mx b d, 0)) (by simp [results, Try.results55, go_sem, *]) rfl ⟨rfl, ?_⟩
  (repeat (first | exact Below.refl _ _ | assumption | refine balloc ?_ _ | refine below_drewN ?_ _ | refine bstep (by assumption) ?_ | refine bstep (Past.prop _) ?_ | refine Below.setCell ?_ (by first | exact Nat.le_refl _ | (simp; done) | (simp; omega)) _))
end Go.Proofs.Ytgbgnpdfjoeonaa

namespace Go.Proofs.Ytgbgnpdfjoeonaa
open Go.ChangeShapes Go.WideShapes Go.ChangeAt Go.RowKit Go.Shelf
attribute [local irreducible] Go.Calls
attribute [local go_sem] Oper.semAt_some

theorem make_segs (n : Nat) (hn : n ≤ 1000000000) : ∀ w, (Instr.makeSlice 22 (.int .i64 0) (.int .i64 (n : Int))).run Try.prog w = .ok (.slice (some ⟨w.heap.size, 0, none⟩) 0 n) (w.alloc (.cells (madeCells #[.int .i64 0, .int .i64 0, .int .i64 0] (n * 3)) 42)) := by
  intro w
  obtain ⟨i0, hi, hz0, hz1, hz2⟩ := info_parts Try.infoSeg
  have h := run_make (P := Try.prog) w 22 42 i0 (.agg #[.int .i64 0, .int .i64 0, .int .i64 0]) Try.underlying22 hi hz0 .i64 .i64 0 n (by omega) (by omega) (by rw [hz2]; omega) (by omega)
  rw [h]
  simp only [Int.toNat_natCast, hz1, Value.cells]
  rfl

theorem make_segs2 (n m : Nat) (hn : n + m ≤ 1000000000) : ∀ w, (Instr.makeSlice 22 (.int .i64 0) (.int .i64 ((n : Int) + (m : Int)))).run Try.prog w = .ok (.slice (some ⟨w.heap.size, 0, none⟩) 0 (n + m)) (w.alloc (.cells (madeCells #[.int .i64 0, .int .i64 0, .int .i64 0] ((n + m) * 3)) 42)) := by
  intro w
  rw [← Int.natCast_add]
  exact make_segs (n + m) hn w

/-- A block whose first cells hold a list of runs. -/
def RowAt (W : World) (g cap : Nat) (l : List Sg) : Prop := ∃ cur : Array Value, Blk W g cur 42 ∧ cur.size = cap * 3 ∧ l.length ≤ cap ∧ cap ≤ 1000000000 ∧ cur.toList.take (l.length * 3) = cellsOfS l
theorem RowAt.below {W W' : World} {g cap B : Nat} {l : List Sg} (h : RowAt W g cap l) (hb : Below B W W') (hg : g < B) : RowAt W' g cap l := by
  obtain ⟨cur, h1, h2⟩ := h
  exact ⟨cur, h1.below hb hg, h2⟩
theorem RowAt.own {W : World} {g cap base : Nat} {l : List Sg} (h : RowAt W g cap l) (hb : base ≤ g) : W.ownsRow base 42 3 (.slice (some ⟨g, 0, none⟩) l.length cap) l.length (cellsOfS l) := by
  obtain ⟨cur, h1, h2, h3, h4, h5⟩ := h
  exact ⟨by rw [cellsOfS_len], .inr ⟨g, cap, cur, rfl, hb, h1, h3, by unfold maxLen; omega, h2, h5⟩⟩
theorem RowAt.of_own {W : World} {g cap base : Nat} {l : List Sg} (hc : cap ≤ 1000000000) (h : W.ownsRow base 42 3 (.slice (some ⟨g, 0, none⟩) l.length cap) l.length (cellsOfS l)) : RowAt W g cap l := by
  obtain ⟨h1, h2 | ⟨g', cap', cur, e, h3, h4, h5, h6, h7, h8⟩⟩ := h
  · cases h2.1
  · cases e
    exact ⟨cur, h4, h7, h5, hc, h8⟩
theorem RowAt.other {W : World} {g cap b i : Nat} {l : List Sg} (h : RowAt W g cap l) (hne : g ≠ b) (v : Value) : RowAt (W.setCell ⟨b, i, none⟩ v) g cap l := by
  obtain ⟨cur, h1, h2⟩ := h
  exact ⟨cur, h1.other hne v, h2⟩
theorem RowAt.made {W : World} (n : Nat) (hn : n ≤ 1000000000) : RowAt (W.alloc (.cells (madeCells #[.int .i64 0, .int .i64 0, .int .i64 0] (n * 3)) 42)) W.heap.size n [] :=
  ⟨_, Blk.made _ _ _, by simp [madeCells], by simp, hn, by simp [cellsOfS]⟩
theorem fresh_at (w : World) (cs : Array Value) (t : TypeId) (k : Nat) (h : k = w.heap.size) : ∀ j u, cs.toList[j]? = some u → (w.alloc (.cells cs t)).cell? ((⟨k, 0, none⟩ : Addr).add j) = some u := by
  subst h
  exact new_cells w cs t
theorem madeRow (n : Nat) (hn : n ≤ 1000000000) (W : World) (o : Obj) (g : Nat) (h : g = W.heap.size) : RowAt ((W.alloc (.cells (madeCells #[.int .i64 0, .int .i64 0, .int .i64 0] (n * 3)) 42)).alloc o) g n [] := by
  subst h
  obtain ⟨cur, h1, h2⟩ := RowAt.made (W := W) n hn
  exact ⟨cur, h1.alloc _, h2⟩
/-- A slice of runs lies on where only blocks of one cell, or of none, are turned. -/
theorem argS_turn {w w' : World} {a : Option Addr} {l : List Sg} (h : ArgS w a l) (hs : w.heap.size ≤ w'.heap.size) (hk : ∀ k i v, w.cell? ⟨k, i + 1, none⟩ = some v → w'.heap[k]? = w.heap[k]?) : ArgS w' a l := fun hl => by
  obtain ⟨b, off, e, h1, h2⟩ := h hl
  have hb : w'.heap[b]? = w.heap[b]? := by
    obtain ⟨_, q, _⟩ := h2 0 hl
    exact hk b _ _ q
  have hc : ∀ i, w'.cell? ⟨b, i, none⟩ = w.cell? ⟨b, i, none⟩ := fun i => World.cell?_of_block (a := ⟨b, i, none⟩) hb
  refine ⟨b, off, e, Nat.lt_of_lt_of_le h1 hs, fun i hi => ?_⟩
  obtain ⟨q1, q2, q3⟩ := h2 i hi
  exact ⟨(hc _).trans q1, (hc _).trans q2, (hc _).trans q3⟩
theorem one_cell {w : World} {k i : Nat} {x v : Value} {t : TypeId} (h : Blk w k #[x] t) (hc : w.cell? ⟨k, i + 1, none⟩ = some v) : False := by
  rw [h.cell] at hc; simp at hc
theorem no_cell {w : World} {k i : Nat} {v : Value} {d : Option (List Deferred)} (h : w.heap[k]? = some (.deferred d)) (hc : w.cell? ⟨k, i, none⟩ = some v) : False := by
  simp [World.cell?, h] at hc
theorem Blk.put {w : World} {k : Nat} {cs : Array Value} {t : TypeId} (h : Blk w k cs t) {b : Nat} (hb : k ≠ b) (o : Obj) : Blk (w.putObj b o) k cs t := (World.putObj_heap_other hb).trans h
/-- Between two rounds of the loop. -/
def CombI (k : Int) (F G : List Sg) (w : World) (v0 : Value) (pre : List Tg) (W : World) : Prop :=
  Below w.heap.size w W ∧ w.heap.size + 1 + 1 + 1 + 1 < W.heap.size ∧ Blk W w.heap.size v0.cells 57 ∧ Blk W (w.heap.size + 1) #[.slice none 0 0] 22 ∧ Blk W (w.heap.size + 1 + 1) #[.int .i64 0] 25 ∧
    RowAt W (w.heap.size + 1 + 1 + 1) (F.length + G.length) (pre.map (rawOf k)) ∧ Blk W (w.heap.size + 1 + 1 + 1 + 1) #[.slice (some ⟨w.heap.size + 1 + 1 + 1, 0, none⟩) pre.length (F.length + G.length)] 22 ∧ (∀ p ∈ pre, errOf k p = 0)
/-- A round has left with an error. -/
def CombX (k : Int) (F G : List Sg) (w : World) (c : Code) (W : World) : Prop :=
  c = .ret ∧ Below w.heap.size w W ∧ Blk W (w.heap.size + 1) #[.slice none 0 0] 22 ∧ Blk W (w.heap.size + 1 + 1) #[.int .i64 (doS k F G).2] 25 ∧ (doS k F G).1 = []
theorem combI_below {k : Int} {F G : List Sg} {w : World} {v0 : Value} {pre : List Tg} {A B : World} (h : CombI k F G w v0 pre A) (hb : Below (w.heap.size + 1 + 1 + 1 + 1 + 1) A B) : CombI k F G w v0 pre B := by
  obtain ⟨h1, h2, h3, h4, h5, h6, h7, h8⟩ := h
  exact ⟨h1.trans (hb.mono (by omega)), Nat.lt_of_lt_of_le h2 hb.size, h3.below hb (by omega), h4.below hb (by omega), h5.below hb (by omega), h6.below hb (by omega), h7.below hb (by omega), h8⟩
theorem combX_below {k : Int} {F G : List Sg} {w : World} {c : Code} {A B : World} (h : CombX k F G w c A) (hb : Below (w.heap.size + 1 + 1 + 1 + 1 + 1) A B) : CombX k F G w c B := by
  obtain ⟨h1, h2, h3, h4, h5⟩ := h
  exact ⟨h1, h2.trans (hb.mono (by omega)), h3.below hb (by omega), h4.below hb (by omega), h5⟩

set_option maxRecDepth 100000 in
set_option maxHeartbeats 2000000 in
theorem comb_plus (F G : List Sg) (a a' : Option Addr) (cap cap' : Nat) (w : World) (hF : F.length ≤ cap) (hc : cap ≤ 9223372036854775807) (hG : G.length ≤ cap') (hc' : cap' ≤ 9223372036854775807) (hl : F.length + G.length ≤ 1000000000)
    (hA : ArgS w a F) (hA' : ArgS w a' G) (hm : mayB F = true) (hm' : mayB G = true) :
    Calls Try.prog 28 #[.agg #[.slice a F.length cap, .slice a' G.length cap', .func (.func 27) #[] #[]]] w (OfIs w (doS 0 F G).1 (doS 0 F G).2) := by
  have HBAD := hidE (fun (p : Tg) hp he => comb_bad (k := 0) hm hm' (p := p) hp he)
  have HOK := hidE (fun he => comb_ok (k := 0) hm hm' he)
  have HSEQ := hidE (fun w' hb => tog_c F G a a' cap cap' (.func (.func 27) #[] #[]) w w' hF hc hG hc' hl hA hA' hb)
  have HLEN := hidE (togL_len F G)
  have HMK := hidE (make_segs2 F.length G.length hl)
  clear hA hA' hm hm' hF hc hG hc'
  refine (callsIn_wide (n := 0)).1 (callsIn_of_wp_marks Try.func28 rfl trivial ((wpIn_wide (n := 0)).2 ?_))
  simp only [Try.ntmps28, List.size_toArray, List.length_cons, List.length_nil, Nat.reduceAdd, Nat.reduceSub, Array.replicate_succ, Array.replicate_zero, List.push_toArray, List.append_toArray, List.nil_append, List.cons_append]
  have hmk := HMK.out
  go_wp2
  have hm3 := madeRow (F.length + G.length) hl
  have HI0 : CombI 0 F G w (.agg #[.slice a F.length cap, .slice a' G.length cap', .func (.func 27) #[] #[]]) [] ((((((w.alloc (Obj.cells #[Value.slice a F.length cap, Value.slice a' G.length cap', .func (.func 27) #[] #[]] 57)).alloc (Obj.cells #[Value.slice none 0 0] 22)).alloc (Obj.cells #[Value.int IntKind.i64 0] 25)).alloc (Obj.cells (madeCells #[Value.int IntKind.i64 0, Value.int IntKind.i64 0, Value.int IntKind.i64 0] ((F.length + G.length) * 3)) 42)).alloc (Obj.cells #[Value.slice (some { block := w.heap.size + 1 + 1 + 1, off := 0 }) 0 (F.length + G.length)] 22))) :=
    ⟨by (repeat (first | exact Below.refl _ _ | assumption | refine balloc ?_ _ | refine below_drewN ?_ _ | refine bstep (by assumption) ?_ | refine bstep (Past.prop _) ?_ | refine Below.setCell ?_ (by first | exact Nat.le_refl _ | (simp; done) | (simp; omega)) _)), by simp, (((Blk.made _ _ _).alloc _).alloc _).alloc _ |>.alloc _, (((Blk.made_at _ _ _ _ (by simp)).alloc _).alloc _).alloc _, ((Blk.made_at _ _ _ _ (by simp)).alloc _).alloc _, hm3 _ _ _ (by simp), Blk.made_at _ _ _ _ (by simp), fun p hp => by simp at hp⟩
  have HS5 : (((((((w.alloc (Obj.cells #[Value.slice a F.length cap, Value.slice a' G.length cap', .func (.func 27) #[] #[]] 57)).alloc (Obj.cells #[Value.slice none 0 0] 22)).alloc (Obj.cells #[Value.int IntKind.i64 0] 25)).alloc (Obj.cells (madeCells #[Value.int IntKind.i64 0, Value.int IntKind.i64 0, Value.int IntKind.i64 0] ((F.length + G.length) * 3)) 42)).alloc (Obj.cells #[Value.slice (some { block := w.heap.size + 1 + 1 + 1, off := 0 }) 0 (F.length + G.length)] 22)))).heap.size = w.heap.size + 1 + 1 + 1 + 1 + 1 := by simp
  have HB5 : Below w.heap.size w ((((((w.alloc (Obj.cells #[Value.slice a F.length cap, Value.slice a' G.length cap', .func (.func 27) #[] #[]] 57)).alloc (Obj.cells #[Value.slice none 0 0] 22)).alloc (Obj.cells #[Value.int IntKind.i64 0] 25)).alloc (Obj.cells (madeCells #[Value.int IntKind.i64 0, Value.int IntKind.i64 0, Value.int IntKind.i64 0] ((F.length + G.length) * 3)) 42)).alloc (Obj.cells #[Value.slice (some { block := w.heap.size + 1 + 1 + 1, off := 0 }) 0 (F.length + G.length)] 22))) := by (repeat (first | exact Below.refl _ _ | assumption | refine balloc ?_ _ | refine below_drewN ?_ _ | refine bstep (by assumption) ?_ | refine bstep (Past.prop _) ?_ | refine Below.setCell ?_ (by first | exact Nat.le_refl _ | (simp; done) | (simp; omega)) _))
  generalize ((((((w.alloc (Obj.cells #[Value.slice a F.length cap, Value.slice a' G.length cap', .func (.func 27) #[] #[]] 57)).alloc (Obj.cells #[Value.slice none 0 0] 22)).alloc (Obj.cells #[Value.int IntKind.i64 0] 25)).alloc (Obj.cells (madeCells #[Value.int IntKind.i64 0, Value.int IntKind.i64 0, Value.int IntKind.i64 0] ((F.length + G.length) * 3)) 42)).alloc (Obj.cells #[Value.slice (some { block := w.heap.size + 1 + 1 + 1, off := 0 }) 0 (F.length + G.length)] 22))) = W5 at *
  refine wp_rangeFunc_T (n₀ := w.heap.size) (S := togL F G) rfl (enters_of Try.func39 (by kernel_rfl) rfl) HB5.size (HSEQ.out _ HB5) (fun _ => rfl)
    (CombI 0 F G w (.agg #[.slice a F.length cap, .slice a' G.length cap', .func (.func 27) #[] #[]])) (fun c _ W => CombX 0 F G w c W)
    (fun s A B h hb => combI_below h (HS5 ▸ hb)) (fun c s A B h hb => combX_below h (HS5 ▸ hb)) HI0
    (fun x a1 W => ∃ Bx : Nat, w.heap.size + 1 + 1 + 1 + 1 + 1 ≤ Bx ∧ Blk W Bx #[.int .i64 x.2.1.1, .int .i64 x.2.1.2, .int .i64 x.2.2.1, .int .i64 x.2.2.2] 67 ∧ a1 = { tmps := #[.agg #[.slice a F.length cap, .slice a' G.length cap', .func (.func 27) #[] #[]], .pointer (some ⟨w.heap.size, 0, none⟩), .pointer (some ⟨w.heap.size + 1, 0, none⟩), .pointer (some ⟨w.heap.size + 1 + 1, 0, none⟩), .pointer (some ⟨w.heap.size + 1 + 1 + 1 + 1, 0, none⟩), .int .i64 x.1, .pointer (some ⟨Bx, 0, none⟩), undef, undef,
      .pointer (some ⟨w.heap.size, 0, none⟩), .slice a F.length cap, .int .i64 F.length, .pointer (some ⟨w.heap.size, 1, none⟩), .slice a' G.length cap', .int .i64 G.length, .int .i64 ((F.length : Int) + (G.length : Int)), .slice (some ⟨w.heap.size + 1 + 1 + 1, 0, none⟩) 0 (F.length + G.length), .agg #[.slice a F.length cap, .slice a' G.length cap', .func (.func 27) #[] #[]],
      .func (.func 39) #[.agg #[.slice a F.length cap, .slice a' G.length cap', .func (.func 27) #[] #[]]] #[], .int .i64 x.1, .agg #[.int .i64 x.2.1.1, .int .i64 x.2.1.2, .int .i64 x.2.2.1, .int .i64 x.2.2.2], undef, undef, undef, undef, undef, undef, undef, undef, undef, undef, undef, undef, undef, undef, undef, undef, undef, undef, undef, undef, undef, undef, undef], defers := [] })
    ?hax ?assign ?body ?done ?stop
  case hax =>
    rintro x a1 A l r o ⟨Bx, h1, h2, h3⟩ hlr
    exact ⟨Bx, h1, (World.putObj_heap_other (fun e => by subst e; rw [show A.heap[Bx]? = _ from h2] at hlr; cases hlr)).trans h2, h3⟩
  case assign =>
    intro l pre x W K hsz hi hK
    rw [HS5] at hsz
    dsimp only [encT]
    gi_wp2
    exact hK _ _ (Outside.of_below ((Below.refl _ _).alloc (Nat.le_refl _) _) (by omega)) (combI_below hi ((Below.refl _ _).alloc (by omega) _)) ⟨W.heap.size, by omega, Blk.made _ _ _, rfl⟩
  case body =>
    rintro l pre x a1 W hsz ⟨i1, i2, i3, i4, i5, i6, i7, i8⟩ ⟨Bx, hBx, bX, rfl⟩ hpre
    rw [HS5] at hsz
    clear HI0 HSEQ HMK hmk hm3
    have HOP := hidE (plus_c x.2.1.1 x.2.1.2 x.2.2.1 x.2.2.2 W)
    change Hid (Calls _ _ _ W fun e w' => e = .returned (VE (opV 0 x.2.1 x.2.2)) ∧ _) at HOP
    have HRAW := hidE (show rawOf 0 x = (x.1, ((opV 0 x.2.1 x.2.2).1, (opV 0 x.2.1 x.2.2).2.1)) from rfl)
    have HERR := hidE (show errOf 0 x = (opV 0 x.2.1 x.2.2).2.2 from rfl)
    generalize opV 0 x.2.1 x.2.2 = q at *
    have p2 := i3.cell 2; have r0 := i7.cell 0; have rf := i7.free; have e0 := i5.cell 0; have ef := i5.free; have v0 := i4.cell 0; have vf := i4.free
    have x0 := bX.cell 0; have x1 := bX.cell 1; have x2 := bX.cell 2; have x3 := bX.cell 3; have xz := bX.lt
    simp [Value.cells] at p2 r0 e0 v0 x0 x1 x2 x3
    gi_wp2_with fail
    refine ⟨trivial, rfl, (CallsIn.inRound l (callsIn_wide.2 HOP.out)).mono ?_⟩
    rintro e w1 ⟨rfl, hb1⟩
    clear p2 r0 rf e0 ef v0 vf x0 x1 x2 x3 xz
    have HB1 := hidE hb1
    have o1 : Outside w.heap.size W5.heap.size W w1 := Outside.of_below hb1 i1.size
    have hz1 : w.heap.size + 1 + 1 + 1 + 1 + 1 ≤ w1.heap.size := Nat.le_trans hsz hb1.size
    have BE := i5.past hb1; have BV := i4.past hb1; have BR := i7.past hb1
    have r0 := BR.cell 0; have rf := BR.free; have rz := BR.lt; have e0 := BE.cell 0; have ef := BE.free; have ez := BE.lt; have v0 := BV.cell 0; have vf := BV.free; have vz := BV.lt
    simp at r0 e0 v0
    by_cases hq : q.2.2 = 0
    · have g2 : (q.2.2 != 0) = false := by rw [bne_eq_false_iff_eq]; exact hq
      have HE0 := hidE (HERR.out.trans hq)
      have hsl : (pre.map (rawOf 0)).length = pre.length := by simp
      have hlt : pre.length + 1 ≤ F.length + G.length := by
        have h1 := hpre.length_le
        simp only [List.length_append, List.length_cons, List.length_nil] at h1
        have := HLEN.out; omega
      have HROW := hidE (i6.below hb1 (by omega))
      have APP := hidE (fun W' (hb : Below w1.heap.size w1 W') => show W'.ownsRow w.heap.size 42 3 (.slice (some ⟨w.heap.size + 1 + 1 + 1, 0, none⟩) pre.length (F.length + G.length)) pre.length (cellsOfS (pre.map (rawOf 0))) from by
        have := (HROW.out.below hb (by omega)).own (base := w.heap.size) (by omega)
        rw [hsl] at this; exact this)
      obtain ⟨ix, hix, hz0, hzz, hz2⟩ := info_parts Try.infoSeg
      have HI := hidE hix; have HZ1 := hidE hzz
      have HI1 := hidE i1; have HI3 := hidE i3; have HI8 := hidE i8; have HPRE := hidE hpre
      have BF := i3.past hb1; have BE' := hidE BE; have BV' := hidE BV
      clear hq hix hz0 hzz hz2 i1 i3 i4 i5 i6 i7 i8 hpre BE BV HERR HOP HBAD HOK bX e0 ef ez v0 vf vz hb1 hsl
      gi_wp2_with (gi_at_builtin; refine wpListIn_append_fits _ rfl (.tmp 34) (.tmp 38) 22 rfl w.heap.size 42 ix 3 Try.underlying22 HI.out HZ1.out (w.heap.size + 1 + 1 + 1) pre.length (F.length + G.length) _ rfl (APP.out _ (by (repeat (first | exact Below.refl _ _ | assumption | refine balloc ?_ _ | refine below_drewN ?_ _ | refine bstep (by assumption) ?_ | refine bstep (Past.prop _) ?_ | refine Below.setCell ?_ (by first | exact Nat.le_refl _ | (simp; done) | (simp; omega)) _)))) ⟨_, 0, none⟩ 1 1 [.int .i64 x.1, .int .i64 q.1, .int .i64 q.2.1] rfl rfl (fresh_at _ #[.int .i64 x.1, .int .i64 q.1, .int .i64 q.2.1] 42 _ (by simp)) (by intro y hy; simp at hy; rcases hy with rfl | rfl | rfl <;> rfl) (by omega) ?_; intro w4 hown4 hgrow4; have BR4 := ((BR.alloc _).alloc _).grown hgrow4 (by simp); have r4 := BR4.cell 0; have rf4 := BR4.free; have rz4 := BR4.lt; simp at r4; have HG4 := hidE hgrow4; have HO4 := hidE hown4; have HR4 := hidE BR4; clear hgrow4 hown4 r0 rf rz BR4)
      have o2 : Outside w.heap.size W5.heap.size w1 _ := Outside.of_below (((Below.refl _ w1).alloc (Nat.le_refl _) (Obj.cells #[Value.int IntKind.i64 q.fst, Value.int IntKind.i64 q.snd.fst] 40)).alloc (by simp) (Obj.cells #[Value.int IntKind.i64 x.fst, Value.int IntKind.i64 q.fst, Value.int IntKind.i64 q.snd.fst] 42)) (by omega)
      have o3 : Outside w.heap.size W5.heap.size _ w4 := Outside.of_grown HG4.out (by omega) (by omega) (by simp; omega)
      have o4 : Outside w.heap.size W5.heap.size w4 _ := Outside.of_grown (grown_set w4 (w.heap.size + 1 + 1 + 1 + 1) 0 (.slice (some ⟨w.heap.size + 1 + 1 + 1, 0, none⟩) (pre.length + 1) (F.length + G.length))) (by omega) (by omega) (by omega)
      have oo := ((o1.trans o2).trans o3).trans o4
      have hmap : (pre ++ [x]).map (rawOf 0) = pre.map (rawOf 0) ++ [(x.1, (q.1, q.2.1))] := by rw [List.map_append, List.map_cons, List.map_nil, HRAW.out]
      have hlen : ((pre ++ [x]).map (rawOf 0)).length = pre.length + 1 := by simp
      have hrow : RowAt w4 (w.heap.size + 1 + 1 + 1) (F.length + G.length) ((pre ++ [x]).map (rawOf 0)) := RowAt.of_own (base := w.heap.size) hl (by
        rw [hlen, hmap, cellsOfS_app]; exact HO4.out)
      refine ⟨oo, HI1.out.trans oo.below, by simp [World.setCell]; omega, (((BF.alloc _).alloc _).grown HG4.out (by simp; omega)).other (by omega) _, (((BV'.out.alloc _).alloc _).grown HG4.out (by simp)).other (by omega) _, (((BE'.out.alloc _).alloc _).grown HG4.out (by simp)).other (by omega) _, hrow.other (by omega) _, ?_, fun p hp => ?_⟩
      · have := HR4.out.set 0 (.slice (some ⟨w.heap.size + 1 + 1 + 1, 0, none⟩) (pre.length + 1) (F.length + G.length))
        simpa using this
      · rcases List.mem_append.1 hp with h | h
        · exact HI8.out p h
        · simp at h; subst h; exact HE0.out
    · have g2 : (q.2.2 != 0) = true := bne_iff_ne.2 hq
      have HB := hidE (HBAD.out x (hpre.subset (by simp)) (by rw [HERR.out]; exact hq))
      have hb' := HB.out
      rw [HERR.out] at hb'
      have HD := hidE hb'
      clear hb'
      gi_wp2
      have o2 : Outside w.heap.size W5.heap.size _ _ := Outside.of_grown (grown_set w1 (w.heap.size + 1) 0 (.slice none 0 0)) (by omega) (by omega) (by omega)
      have o3 : Outside w.heap.size W5.heap.size _ _ := Outside.of_grown (grown_set (w1.setCell ⟨w.heap.size + 1, 0, none⟩ (.slice none 0 0)) (w.heap.size + 1 + 1) 0 (.int .i64 q.2.2)) (by omega) (by omega) (by simp [World.setCell]; omega)
      have o4 : Outside w.heap.size W5.heap.size _ _ := Outside.of_below ((Below.refl _ ((w1.setCell ⟨w.heap.size + 1, 0, none⟩ (.slice none 0 0)).setCell ⟨w.heap.size + 1 + 1, 0, none⟩ (.int .i64 q.2.2))).alloc (Nat.le_refl _) (Obj.cells #[Value.int IntKind.i64 q.fst, Value.int IntKind.i64 q.snd.fst] 40)) (by simp [World.setCell]; omega)
      have oo := ((o1.trans o2).trans o3).trans o4
      refine ⟨oo, rfl, i1.trans oo.below, ?_, ?_, by rw [HD.out]⟩
      · have := ((BV.set 0 (.slice none 0 0)).other (b := w.heap.size + 1 + 1) (i := 0) (by omega) (.int .i64 q.2.2)).alloc (Obj.cells #[Value.int IntKind.i64 q.fst, Value.int IntKind.i64 q.snd.fst] 40)
        simpa using this
      · have := ((BE.other (b := w.heap.size + 1) (i := 0) (by omega) (.slice none 0 0)).set 0 (.int .i64 q.2.2)).alloc (Obj.cells #[Value.int IntKind.i64 q.fst, Value.int IntKind.i64 q.snd.fst] 40)
        rw [HD.out]
        simpa using this
  case done =>
    rintro D W hD ⟨i1, i2, i3, i4, i5, i6, i7, i8⟩ hK
    rw [HS5] at hD
    have hD' : D < W.heap.size := (Array.getElem?_eq_some_iff.1 hK).1
    obtain ⟨hok, hun⟩ := HOK.out i8
    have HUN := hidE hun; have HALL := hidE hok
    have hml : ((togL F G).map (rawOf 0)).length = (togL F G).length := by simp
    obtain ⟨aR, capR, eR, _, _, hAR⟩ := sliS_own (i6.own (base := w.heap.size) (by omega))
    cases eR
    have HOF := hidE (show Calls Try.prog 48 #[.slice (some ⟨w.heap.size + 1 + 1 + 1, 0, none⟩) (togL F G).length (F.length + G.length)] W (OfPost W ((togL F G).map (rawOf 0))) from by
      have := of_c ((togL F G).map (rawOf 0)) _ (F.length + G.length) W (by rw [hml]; have := HLEN.out; omega) hAR
      rw [hml] at this; exact this)
    have r0 := i7.cell 0; have rf := i7.free; have rz := i7.lt; have e0 := i5.cell 0; have ef := i5.free; have ez := i5.lt; have v0 := i4.cell 0; have vf := i4.free; have vz := i4.lt
    simp at r0 e0 v0
    have HKD := hidE hK; have BE := hidE i5; have BV := hidE i4
    clear HI0 HSEQ HMK hmk hm3 hun hok hAR i3 i4 i5 i6 i7 hK HOK HBAD
    go_wp2_with fail
    ((with_reducible refine (HOF.out).mono ?_); rintro e w1 ⟨v1, f1, er, rfl, hs1, hcase, hb1⟩)
    clear r0 rf rz e0 ef ez v0 vf vz
    have BE1 := BE.out.past hb1; have BV1 := BV.out.past hb1
    have e0 := BE1.cell 0; have ef := BE1.free; have ez := BE1.lt; have v0 := BV1.cell 0; have vf := BV1.free; have vz := BV1.lt
    simp at e0 v0
    obtain ⟨a1, c1, rfl, hs11, hs12, hs13⟩ := hs1
    have HS1 := hidE (And.intro hs11 (And.intro hs12 hs13)); have HC := hidE hcase; have HB1 := hidE hb1
    clear hs11 hs12 hs13 hcase hb1
    go_wp2
    obtain ⟨h2, h3, h4⟩ := HS1.out
    have hkf : ((w1.setCell ⟨w.heap.size + 1, 0, none⟩ (.slice a1 f1.length c1)).setCell ⟨w.heap.size + 1 + 1, 0, none⟩ (.int .i64 er)).heap[D]? = some (.deferred (some [])) :=
      (Below.heap_setCell _ _ _ _ (by simp; omega)).trans ((Below.heap_setCell _ _ _ _ (by simp; omega)).trans ((HB1.out.block D hD').trans HKD.out))
    have g1 := (((BV1.set 0 (.slice a1 f1.length c1)).other (b := w.heap.size + 1 + 1) (i := 0) (by omega) (.int .i64 er)).put (b := D) (by omega) (.deferred none)).cell 0
    have g2 := (((BE1.other (b := w.heap.size + 1) (i := 0) (by omega) (.slice a1 f1.length c1)).set 0 (.int .i64 er)).put (b := D) (by omega) (.deferred none)).cell 0
    simp at g1 g2
    have hdz : D < w1.heap.size := Nat.lt_of_lt_of_le hD' HB1.out.size
    refine ⟨by simp, .inl ⟨_, _, rfl, run_takeDeferred hkf, ?_⟩⟩
    refine ⟨.tuple #[.slice a1 f1.length c1, .int .i64 er], by simp [results, Try.results28, go_sem, g1, g2], ?_⟩
    rcases HC.out with ⟨_, q2, q3⟩ | ⟨q1, _, _⟩
    · rw [HUN.out _ q3, q2]
      refine ⟨_, rfl, ⟨a1, c1, rfl, h2, h3, argS_turn h4 (by simp [World.setCell]) (fun k i v hc => ?_)⟩, ?_⟩
      · by_cases e1 : k = w.heap.size + 1
        · subst e1; exact (one_cell BV1 hc).elim
        by_cases e2 : k = w.heap.size + 1 + 1
        · subst e2; exact (one_cell BE1 hc).elim
        by_cases e3 : k = D
        · subst e3; exact (no_cell ((HB1.out.block k hD').trans HKD.out) hc).elim
        · exact (World.putObj_heap_other e3).trans ((Below.heap_setCell _ _ _ _ e2).trans (Below.heap_setCell _ _ _ _ e1))
      · refine ((((i1.trans (HB1.out.mono i1.size)).setCell (p := ⟨w.heap.size + 1, 0, none⟩) (by simp) _).setCell (p := ⟨w.heap.size + 1 + 1, 0, none⟩) (by simp; omega) _)).trans (below_putObj _ _ _ (by omega))
    · rw [HALL.out] at q1; cases q1
  case stop =>
    rintro D c pre W hD hpre ⟨rfl, i1, i2, i3, hnil⟩ hK
    rw [HS5] at hD
    have g1 := (i2.put (b := D) (by omega) (.deferred none)).cell 0
    have g2 := (i3.put (b := D) (by omega) (.deferred none)).cell 0
    simp at g1 g2
    have HI1 := hidE i1
    clear HI0 HSEQ HMK hmk hm3 i2 i3 HOK HBAD
    go_wp2
    refine ⟨by simp, .inl ⟨_, _, rfl, run_takeDeferred hK, ?_⟩⟩
    refine ⟨.tuple #[.slice none 0 0, .int .i64 (doS 0 F G).2], by simp [results, Try.results28, go_sem, g1, g2], ?_⟩
    rw [hnil]
    exact ⟨_, rfl, sliS_nil _, HI1.out.trans (below_putObj _ _ _ (by omega))⟩

set_option maxRecDepth 100000 in
set_option maxHeartbeats 2000000 in
theorem comb_sub (F G : List Sg) (a a' : Option Addr) (cap cap' : Nat) (w : World) (hF : F.length ≤ cap) (hc : cap ≤ 9223372036854775807) (hG : G.length ≤ cap') (hc' : cap' ≤ 9223372036854775807) (hl : F.length + G.length ≤ 1000000000)
    (hA : ArgS w a F) (hA' : ArgS w a' G) (hm : mayB F = true) (hm' : mayB G = true) :
    Calls Try.prog 28 #[.agg #[.slice a F.length cap, .slice a' G.length cap', .func (.func 30) #[] #[]]] w (OfIs w (doS 1 F G).1 (doS 1 F G).2) := by
  have HBAD := hidE (fun (p : Tg) hp he => comb_bad (k := 1) hm hm' (p := p) hp he)
  have HOK := hidE (fun he => comb_ok (k := 1) hm hm' he)
  have HSEQ := hidE (fun w' hb => tog_c F G a a' cap cap' (.func (.func 30) #[] #[]) w w' hF hc hG hc' hl hA hA' hb)
  have HLEN := hidE (togL_len F G)
  have HMK := hidE (make_segs2 F.length G.length hl)
  clear hA hA' hm hm' hF hc hG hc'
  refine (callsIn_wide (n := 0)).1 (callsIn_of_wp_marks Try.func28 rfl trivial ((wpIn_wide (n := 0)).2 ?_))
  simp only [Try.ntmps28, List.size_toArray, List.length_cons, List.length_nil, Nat.reduceAdd, Nat.reduceSub, Array.replicate_succ, Array.replicate_zero, List.push_toArray, List.append_toArray, List.nil_append, List.cons_append]
  have hmk := HMK.out
  go_wp2
  have hm3 := madeRow (F.length + G.length) hl
  have HI0 : CombI 1 F G w (.agg #[.slice a F.length cap, .slice a' G.length cap', .func (.func 30) #[] #[]]) [] ((((((w.alloc (Obj.cells #[Value.slice a F.length cap, Value.slice a' G.length cap', .func (.func 30) #[] #[]] 57)).alloc (Obj.cells #[Value.slice none 0 0] 22)).alloc (Obj.cells #[Value.int IntKind.i64 0] 25)).alloc (Obj.cells (madeCells #[Value.int IntKind.i64 0, Value.int IntKind.i64 0, Value.int IntKind.i64 0] ((F.length + G.length) * 3)) 42)).alloc (Obj.cells #[Value.slice (some { block := w.heap.size + 1 + 1 + 1, off := 0 }) 0 (F.length + G.length)] 22))) :=
    ⟨by (repeat (first | exact Below.refl _ _ | assumption | refine balloc ?_ _ | refine below_drewN ?_ _ | refine bstep (by assumption) ?_ | refine bstep (Past.prop _) ?_ | refine Below.setCell ?_ (by first | exact Nat.le_refl _ | (simp; done) | (simp; omega)) _)), by simp, (((Blk.made _ _ _).alloc _).alloc _).alloc _ |>.alloc _, (((Blk.made_at _ _ _ _ (by simp)).alloc _).alloc _).alloc _, ((Blk.made_at _ _ _ _ (by simp)).alloc _).alloc _, hm3 _ _ _ (by simp), Blk.made_at _ _ _ _ (by simp), fun p hp => by simp at hp⟩
  have HS5 : (((((((w.alloc (Obj.cells #[Value.slice a F.length cap, Value.slice a' G.length cap', .func (.func 30) #[] #[]] 57)).alloc (Obj.cells #[Value.slice none 0 0] 22)).alloc (Obj.cells #[Value.int IntKind.i64 0] 25)).alloc (Obj.cells (madeCells #[Value.int IntKind.i64 0, Value.int IntKind.i64 0, Value.int IntKind.i64 0] ((F.length + G.length) * 3)) 42)).alloc (Obj.cells #[Value.slice (some { block := w.heap.size + 1 + 1 + 1, off := 0 }) 0 (F.length + G.length)] 22)))).heap.size = w.heap.size + 1 + 1 + 1 + 1 + 1 := by simp
  have HB5 : Below w.heap.size w ((((((w.alloc (Obj.cells #[Value.slice a F.length cap, Value.slice a' G.length cap', .func (.func 30) #[] #[]] 57)).alloc (Obj.cells #[Value.slice none 0 0] 22)).alloc (Obj.cells #[Value.int IntKind.i64 0] 25)).alloc (Obj.cells (madeCells #[Value.int IntKind.i64 0, Value.int IntKind.i64 0, Value.int IntKind.i64 0] ((F.length + G.length) * 3)) 42)).alloc (Obj.cells #[Value.slice (some { block := w.heap.size + 1 + 1 + 1, off := 0 }) 0 (F.length + G.length)] 22))) := by (repeat (first | exact Below.refl _ _ | assumption | refine balloc ?_ _ | refine below_drewN ?_ _ | refine bstep (by assumption) ?_ | refine bstep (Past.prop _) ?_ | refine Below.setCell ?_ (by first | exact Nat.le_refl _ | (simp; done) | (simp; omega)) _))
  generalize ((((((w.alloc (Obj.cells #[Value.slice a F.length cap, Value.slice a' G.length cap', .func (.func 30) #[] #[]] 57)).alloc (Obj.cells #[Value.slice none 0 0] 22)).alloc (Obj.cells #[Value.int IntKind.i64 0] 25)).alloc (Obj.cells (madeCells #[Value.int IntKind.i64 0, Value.int IntKind.i64 0, Value.int IntKind.i64 0] ((F.length + G.length) * 3)) 42)).alloc (Obj.cells #[Value.slice (some { block := w.heap.size + 1 + 1 + 1, off := 0 }) 0 (F.length + G.length)] 22))) = W5 at *
  refine wp_rangeFunc_T (n₀ := w.heap.size) (S := togL F G) rfl (enters_of Try.func39 (by kernel_rfl) rfl) HB5.size (HSEQ.out _ HB5) (fun _ => rfl)
    (CombI 1 F G w (.agg #[.slice a F.length cap, .slice a' G.length cap', .func (.func 30) #[] #[]])) (fun c _ W => CombX 1 F G w c W)
    (fun s A B h hb => combI_below h (HS5 ▸ hb)) (fun c s A B h hb => combX_below h (HS5 ▸ hb)) HI0
    (fun x a1 W => ∃ Bx : Nat, w.heap.size + 1 + 1 + 1 + 1 + 1 ≤ Bx ∧ Blk W Bx #[.int .i64 x.2.1.1, .int .i64 x.2.1.2, .int .i64 x.2.2.1, .int .i64 x.2.2.2] 67 ∧ a1 = { tmps := #[.agg #[.slice a F.length cap, .slice a' G.length cap', .func (.func 30) #[] #[]], .pointer (some ⟨w.heap.size, 0, none⟩), .pointer (some ⟨w.heap.size + 1, 0, none⟩), .pointer (some ⟨w.heap.size + 1 + 1, 0, none⟩), .pointer (some ⟨w.heap.size + 1 + 1 + 1 + 1, 0, none⟩), .int .i64 x.1, .pointer (some ⟨Bx, 0, none⟩), undef, undef,
      .pointer (some ⟨w.heap.size, 0, none⟩), .slice a F.length cap, .int .i64 F.length, .pointer (some ⟨w.heap.size, 1, none⟩), .slice a' G.length cap', .int .i64 G.length, .int .i64 ((F.length : Int) + (G.length : Int)), .slice (some ⟨w.heap.size + 1 + 1 + 1, 0, none⟩) 0 (F.length + G.length), .agg #[.slice a F.length cap, .slice a' G.length cap', .func (.func 30) #[] #[]],
      .func (.func 39) #[.agg #[.slice a F.length cap, .slice a' G.length cap', .func (.func 30) #[] #[]]] #[], .int .i64 x.1, .agg #[.int .i64 x.2.1.1, .int .i64 x.2.1.2, .int .i64 x.2.2.1, .int .i64 x.2.2.2], undef, undef, undef, undef, undef, undef, undef, undef, undef, undef, undef, undef, undef, undef, undef, undef, undef, undef, undef, undef, undef, undef, undef], defers := [] })
    ?hax ?assign ?body ?done ?stop
  case hax =>
    rintro x a1 A l r o ⟨Bx, h1, h2, h3⟩ hlr
    exact ⟨Bx, h1, (World.putObj_heap_other (fun e => by subst e; rw [show A.heap[Bx]? = _ from h2] at hlr; cases hlr)).trans h2, h3⟩
  case assign =>
    intro l pre x W K hsz hi hK
    rw [HS5] at hsz
    dsimp only [encT]
    gi_wp2
    exact hK _ _ (Outside.of_below ((Below.refl _ _).alloc (Nat.le_refl _) _) (by omega)) (combI_below hi ((Below.refl _ _).alloc (by omega) _)) ⟨W.heap.size, by omega, Blk.made _ _ _, rfl⟩
  case body =>
    rintro l pre x a1 W hsz ⟨i1, i2, i3, i4, i5, i6, i7, i8⟩ ⟨Bx, hBx, bX, rfl⟩ hpre
    rw [HS5] at hsz
    clear HI0 HSEQ HMK hmk hm3
    have HOP := hidE (sub_c x.2.1.1 x.2.1.2 x.2.2.1 x.2.2.2 W)
    change Hid (Calls _ _ _ W fun e w' => e = .returned (VE (opV 1 x.2.1 x.2.2)) ∧ _) at HOP
    have HRAW := hidE (show rawOf 1 x = (x.1, ((opV 1 x.2.1 x.2.2).1, (opV 1 x.2.1 x.2.2).2.1)) from rfl)
    have HERR := hidE (show errOf 1 x = (opV 1 x.2.1 x.2.2).2.2 from rfl)
    generalize opV 1 x.2.1 x.2.2 = q at *
    have p2 := i3.cell 2; have r0 := i7.cell 0; have rf := i7.free; have e0 := i5.cell 0; have ef := i5.free; have v0 := i4.cell 0; have vf := i4.free
    have x0 := bX.cell 0; have x1 := bX.cell 1; have x2 := bX.cell 2; have x3 := bX.cell 3; have xz := bX.lt
    simp [Value.cells] at p2 r0 e0 v0 x0 x1 x2 x3
    gi_wp2_with fail
    refine ⟨trivial, rfl, (CallsIn.inRound l (callsIn_wide.2 HOP.out)).mono ?_⟩
    rintro e w1 ⟨rfl, hb1⟩
    clear p2 r0 rf e0 ef v0 vf x0 x1 x2 x3 xz
    have HB1 := hidE hb1
    have o1 : Outside w.heap.size W5.heap.size W w1 := Outside.of_below hb1 i1.size
    have hz1 : w.heap.size + 1 + 1 + 1 + 1 + 1 ≤ w1.heap.size := Nat.le_trans hsz hb1.size
    have BE := i5.past hb1; have BV := i4.past hb1; have BR := i7.past hb1
    have r0 := BR.cell 0; have rf := BR.free; have rz := BR.lt; have e0 := BE.cell 0; have ef := BE.free; have ez := BE.lt; have v0 := BV.cell 0; have vf := BV.free; have vz := BV.lt
    simp at r0 e0 v0
    by_cases hq : q.2.2 = 0
    · have g2 : (q.2.2 != 0) = false := by rw [bne_eq_false_iff_eq]; exact hq
      have HE0 := hidE (HERR.out.trans hq)
      have hsl : (pre.map (rawOf 1)).length = pre.length := by simp
      have hlt : pre.length + 1 ≤ F.length + G.length := by
        have h1 := hpre.length_le
        simp only [List.length_append, List.length_cons, List.length_nil] at h1
        have := HLEN.out; omega
      have HROW := hidE (i6.below hb1 (by omega))
      have APP := hidE (fun W' (hb : Below w1.heap.size w1 W') => show W'.ownsRow w.heap.size 42 3 (.slice (some ⟨w.heap.size + 1 + 1 + 1, 0, none⟩) pre.length (F.length + G.length)) pre.length (cellsOfS (pre.map (rawOf 1))) from by
        have := (HROW.out.below hb (by omega)).own (base := w.heap.size) (by omega)
        rw [hsl] at this; exact this)
      obtain ⟨ix, hix, hz0, hzz, hz2⟩ := info_parts Try.infoSeg
      have HI := hidE hix; have HZ1 := hidE hzz
      have HI1 := hidE i1; have HI3 := hidE i3; have HI8 := hidE i8; have HPRE := hidE hpre
      have BF := i3.past hb1; have BE' := hidE BE; have BV' := hidE BV
      clear hq hix hz0 hzz hz2 i1 i3 i4 i5 i6 i7 i8 hpre BE BV HERR HOP HBAD HOK bX e0 ef ez v0 vf vz hb1 hsl
      gi_wp2_with (gi_at_builtin; refine wpListIn_append_fits _ rfl (.tmp 34) (.tmp 38) 22 rfl w.heap.size 42 ix 3 Try.underlying22 HI.out HZ1.out (w.heap.size + 1 + 1 + 1) pre.length (F.length + G.length) _ rfl (APP.out _ (by (repeat (first | exact Below.refl _ _ | assumption | refine balloc ?_ _ | refine below_drewN ?_ _ | refine bstep (by assumption) ?_ | refine bstep (Past.prop _) ?_ | refine Below.setCell ?_ (by first | exact Nat.le_refl _ | (simp; done) | (simp; omega)) _)))) ⟨_, 0, none⟩ 1 1 [.int .i64 x.1, .int .i64 q.1, .int .i64 q.2.1] rfl rfl (fresh_at _ #[.int .i64 x.1, .int .i64 q.1, .int .i64 q.2.1] 42 _ (by simp)) (by intro y hy; simp at hy; rcases hy with rfl | rfl | rfl <;> rfl) (by omega) ?_; intro w4 hown4 hgrow4; have BR4 := ((BR.alloc _).alloc _).grown hgrow4 (by simp); have r4 := BR4.cell 0; have rf4 := BR4.free; have rz4 := BR4.lt; simp at r4; have HG4 := hidE hgrow4; have HO4 := hidE hown4; have HR4 := hidE BR4; clear hgrow4 hown4 r0 rf rz BR4)
      have o2 : Outside w.heap.size W5.heap.size w1 _ := Outside.of_below (((Below.refl _ w1).alloc (Nat.le_refl _) (Obj.cells #[Value.int IntKind.i64 q.fst, Value.int IntKind.i64 q.snd.fst] 40)).alloc (by simp) (Obj.cells #[Value.int IntKind.i64 x.fst, Value.int IntKind.i64 q.fst, Value.int IntKind.i64 q.snd.fst] 42)) (by omega)
      have o3 : Outside w.heap.size W5.heap.size _ w4 := Outside.of_grown HG4.out (by omega) (by omega) (by simp; omega)
      have o4 : Outside w.heap.size W5.heap.size w4 _ := Outside.of_grown (grown_set w4 (w.heap.size + 1 + 1 + 1 + 1) 0 (.slice (some ⟨w.heap.size + 1 + 1 + 1, 0, none⟩) (pre.length + 1) (F.length + G.length))) (by omega) (by omega) (by omega)
      have oo := ((o1.trans o2).trans o3).trans o4
      have hmap : (pre ++ [x]).map (rawOf 1) = pre.map (rawOf 1) ++ [(x.1, (q.1, q.2.1))] := by rw [List.map_append, List.map_cons, List.map_nil, HRAW.out]
      have hlen : ((pre ++ [x]).map (rawOf 1)).length = pre.length + 1 := by simp
      have hrow : RowAt w4 (w.heap.size + 1 + 1 + 1) (F.length + G.length) ((pre ++ [x]).map (rawOf 1)) := RowAt.of_own (base := w.heap.size) hl (by
        rw [hlen, hmap, cellsOfS_app]; exact HO4.out)
      refine ⟨oo, HI1.out.trans oo.below, by simp [World.setCell]; omega, (((BF.alloc _).alloc _).grown HG4.out (by simp; omega)).other (by omega) _, (((BV'.out.alloc _).alloc _).grown HG4.out (by simp)).other (by omega) _, (((BE'.out.alloc _).alloc _).grown HG4.out (by simp)).other (by omega) _, hrow.other (by omega) _, ?_, fun p hp => ?_⟩
      · have := HR4.out.set 0 (.slice (some ⟨w.heap.size + 1 + 1 + 1, 0, none⟩) (pre.length + 1) (F.length + G.length))
        simpa using this
      · rcases List.mem_append.1 hp with h | h
        · exact HI8.out p h
        · simp at h; subst h; exact HE0.out
    · have g2 : (q.2.2 != 0) = true := bne_iff_ne.2 hq
      have HB := hidE (HBAD.out x (hpre.subset (by simp)) (by rw [HERR.out]; exact hq))
      have hb' := HB.out
      rw [HERR.out] at hb'
      have HD := hidE hb'
      clear hb'
      gi_wp2
      have o2 : Outside w.heap.size W5.heap.size _ _ := Outside.of_grown (grown_set w1 (w.heap.size + 1) 0 (.slice none 0 0)) (by omega) (by omega) (by omega)
      have o3 : Outside w.heap.size W5.heap.size _ _ := Outside.of_grown (grown_set (w1.setCell ⟨w.heap.size + 1, 0, none⟩ (.slice none 0 0)) (w.heap.size + 1 + 1) 0 (.int .i64 q.2.2)) (by omega) (by omega) (by simp [World.setCell]; omega)
      have o4 : Outside w.heap.size W5.heap.size _ _ := Outside.of_below ((Below.refl _ ((w1.setCell ⟨w.heap.size + 1, 0, none⟩ (.slice none 0 0)).setCell ⟨w.heap.size + 1 + 1, 0, none⟩ (.int .i64 q.2.2))).alloc (Nat.le_refl _) (Obj.cells #[Value.int IntKind.i64 q.fst, Value.int IntKind.i64 q.snd.fst] 40)) (by simp [World.setCell]; omega)
      have oo := ((o1.trans o2).trans o3).trans o4
      refine ⟨oo, rfl, i1.trans oo.below, ?_, ?_, by rw [HD.out]⟩
      · have := ((BV.set 0 (.slice none 0 0)).other (b := w.heap.size + 1 + 1) (i := 0) (by omega) (.int .i64 q.2.2)).alloc (Obj.cells #[Value.int IntKind.i64 q.fst, Value.int IntKind.i64 q.snd.fst] 40)
        simpa using this
      · have := ((BE.other (b := w.heap.size + 1) (i := 0) (by omega) (.slice none 0 0)).set 0 (.int .i64 q.2.2)).alloc (Obj.cells #[Value.int IntKind.i64 q.fst, Value.int IntKind.i64 q.snd.fst] 40)
        rw [HD.out]
        simpa using this
  case done =>
    rintro D W hD ⟨i1, i2, i3, i4, i5, i6, i7, i8⟩ hK
    rw [HS5] at hD
    have hD' : D < W.heap.size := (Array.getElem?_eq_some_iff.1 hK).1
    obtain ⟨hok, hun⟩ := HOK.out i8
    have HUN := hidE hun; have HALL := hidE hok
    have hml : ((togL F G).map (rawOf 1)).length = (togL F G).length := by simp
    obtain ⟨aR, capR, eR, _, _, hAR⟩ := sliS_own (i6.own (base := w.heap.size) (by omega))
    cases eR
    have HOF := hidE (show Calls Try.prog 48 #[.slice (some ⟨w.heap.size + 1 + 1 + 1, 0, none⟩) (togL F G).length (F.length + G.length)] W (OfPost W ((togL F G).map (rawOf 1))) from by
      have := of_c ((togL F G).map (rawOf 1)) _ (F.length + G.length) W (by rw [hml]; have := HLEN.out; omega) hAR
      rw [hml] at this; exact this)
    have r0 := i7.cell 0; have rf := i7.free; have rz := i7.lt; have e0 := i5.cell 0; have ef := i5.free; have ez := i5.lt; have v0 := i4.cell 0; have vf := i4.free; have vz := i4.lt
    simp at r0 e0 v0
    have HKD := hidE hK; have BE := hidE i5; have BV := hidE i4
    clear HI0 HSEQ HMK hmk hm3 hun hok hAR i3 i4 i5 i6 i7 hK HOK HBAD
    go_wp2_with fail
    ((with_reducible refine (HOF.out).mono ?_); rintro e w1 ⟨v1, f1, er, rfl, hs1, hcase, hb1⟩)
    clear r0 rf rz e0 ef ez v0 vf vz
    have BE1 := BE.out.past hb1; have BV1 := BV.out.past hb1
    have e0 := BE1.cell 0; have ef := BE1.free; have ez := BE1.lt; have v0 := BV1.cell 0; have vf := BV1.free; have vz := BV1.lt
    simp at e0 v0
    obtain ⟨a1, c1, rfl, hs11, hs12, hs13⟩ := hs1
    have HS1 := hidE (And.intro hs11 (And.intro hs12 hs13)); have HC := hidE hcase; have HB1 := hidE hb1
    clear hs11 hs12 hs13 hcase hb1
    go_wp2
    obtain ⟨h2, h3, h4⟩ := HS1.out
    have hkf : ((w1.setCell ⟨w.heap.size + 1, 0, none⟩ (.slice a1 f1.length c1)).setCell ⟨w.heap.size + 1 + 1, 0, none⟩ (.int .i64 er)).heap[D]? = some (.deferred (some [])) :=
      (Below.heap_setCell _ _ _ _ (by simp; omega)).trans ((Below.heap_setCell _ _ _ _ (by simp; omega)).trans ((HB1.out.block D hD').trans HKD.out))
    have g1 := (((BV1.set 0 (.slice a1 f1.length c1)).other (b := w.heap.size + 1 + 1) (i := 0) (by omega) (.int .i64 er)).put (b := D) (by omega) (.deferred none)).cell 0
    have g2 := (((BE1.other (b := w.heap.size + 1) (i := 0) (by omega) (.slice a1 f1.length c1)).set 0 (.int .i64 er)).put (b := D) (by omega) (.deferred none)).cell 0
    simp at g1 g2
    have hdz : D < w1.heap.size := Nat.lt_of_lt_of_le hD' HB1.out.size
    refine ⟨by simp, .inl ⟨_, _, rfl, run_takeDeferred hkf, ?_⟩⟩
    refine ⟨.tuple #[.slice a1 f1.length c1, .int .i64 er], by simp [results, Try.results28, go_sem, g1, g2], ?_⟩
    rcases HC.out with ⟨_, q2, q3⟩ | ⟨q1, _, _⟩
    · rw [HUN.out _ q3, q2]
      refine ⟨_, rfl, ⟨a1, c1, rfl, h2, h3, argS_turn h4 (by simp [World.setCell]) (fun k i v hc => ?_)⟩, ?_⟩
      · by_cases e1 : k = w.heap.size + 1
        · subst e1; exact (one_cell BV1 hc).elim
        by_cases e2 : k = w.heap.size + 1 + 1
        · subst e2; exact (one_cell BE1 hc).elim
        by_cases e3 : k = D
        · subst e3; exact (no_cell ((HB1.out.block k hD').trans HKD.out) hc).elim
        · exact (World.putObj_heap_other e3).trans ((Below.heap_setCell _ _ _ _ e2).trans (Below.heap_setCell _ _ _ _ e1))
      · refine ((((i1.trans (HB1.out.mono i1.size)).setCell (p := ⟨w.heap.size + 1, 0, none⟩) (by simp) _).setCell (p := ⟨w.heap.size + 1 + 1, 0, none⟩) (by simp; omega) _)).trans (below_putObj _ _ _ (by omega))
    · rw [HALL.out] at q1; cases q1
  case stop =>
    rintro D c pre W hD hpre ⟨rfl, i1, i2, i3, hnil⟩ hK
    rw [HS5] at hD
    have g1 := (i2.put (b := D) (by omega) (.deferred none)).cell 0
    have g2 := (i3.put (b := D) (by omega) (.deferred none)).cell 0
    simp at g1 g2
    have HI1 := hidE i1
    clear HI0 HSEQ HMK hmk hm3 i2 i3 HOK HBAD
    go_wp2
    refine ⟨by simp, .inl ⟨_, _, rfl, run_takeDeferred hK, ?_⟩⟩
    refine ⟨.tuple #[.slice none 0 0, .int .i64 (doS 1 F G).2], by simp [results, Try.results28, go_sem, g1, g2], ?_⟩
    rw [hnil]
    exact ⟨_, rfl, sliS_nil _, HI1.out.trans (below_putObj _ _ _ (by omega))⟩

set_option maxRecDepth 100000 in
set_option maxHeartbeats 2000000 in
theorem comb_mn (F G : List Sg) (a a' : Option Addr) (cap cap' : Nat) (w : World) (pb : Nat) (hpb : w.cell? ⟨pb, 0, none⟩ = some (.func (.func 35) #[] #[])) (hpz : pb < w.heap.size) (hF : F.length ≤ cap) (hc : cap ≤ 9223372036854775807) (hG : G.length ≤ cap') (hc' : cap' ≤ 9223372036854775807) (hl : F.length + G.length ≤ 1000000000)
    (hA : ArgS w a F) (hA' : ArgS w a' G) (hm : mayB F = true) (hm' : mayB G = true) :
    Calls Try.prog 28 #[.agg #[.slice a F.length cap, .slice a' G.length cap', .func (.func 55) #[] #[.pointer (some ⟨pb, 0, none⟩)]]] w (OfIs w (doS 2 F G).1 (doS 2 F G).2) := by
  have HBAD := hidE (fun (p : Tg) hp he => comb_bad (k := 2) hm hm' (p := p) hp he)
  have HOK := hidE (fun he => comb_ok (k := 2) hm hm' he)
  have HSEQ := hidE (fun w' hb => tog_c F G a a' cap cap' (.func (.func 55) #[] #[.pointer (some ⟨pb, 0, none⟩)]) w w' hF hc hG hc' hl hA hA' hb)
  have HLEN := hidE (togL_len F G)
  have HMK := hidE (make_segs2 F.length G.length hl)
  clear hA hA' hm hm' hF hc hG hc'
  refine (callsIn_wide (n := 0)).1 (callsIn_of_wp_marks Try.func28 rfl trivial ((wpIn_wide (n := 0)).2 ?_))
  simp only [Try.ntmps28, List.size_toArray, List.length_cons, List.length_nil, Nat.reduceAdd, Nat.reduceSub, Array.replicate_succ, Array.replicate_zero, List.push_toArray, List.append_toArray, List.nil_append, List.cons_append]
  have hmk := HMK.out
  go_wp2
  have hm3 := madeRow (F.length + G.length) hl
  have HI0 : CombI 2 F G w (.agg #[.slice a F.length cap, .slice a' G.length cap', .func (.func 55) #[] #[.pointer (some ⟨pb, 0, none⟩)]]) [] ((((((w.alloc (Obj.cells #[Value.slice a F.length cap, Value.slice a' G.length cap', .func (.func 55) #[] #[.pointer (some ⟨pb, 0, none⟩)]] 57)).alloc (Obj.cells #[Value.slice none 0 0] 22)).alloc (Obj.cells #[Value.int IntKind.i64 0] 25)).alloc (Obj.cells (madeCells #[Value.int IntKind.i64 0, Value.int IntKind.i64 0, Value.int IntKind.i64 0] ((F.length + G.length) * 3)) 42)).alloc (Obj.cells #[Value.slice (some { block := w.heap.size + 1 + 1 + 1, off := 0 }) 0 (F.length + G.length)] 22))) :=
    ⟨by (repeat (first | exact Below.refl _ _ | assumption | refine balloc ?_ _ | refine below_drewN ?_ _ | refine bstep (by assumption) ?_ | refine bstep (Past.prop _) ?_ | refine Below.setCell ?_ (by first | exact Nat.le_refl _ | (simp; done) | (simp; omega)) _)), by simp, (((Blk.made _ _ _).alloc _).alloc _).alloc _ |>.alloc _, (((Blk.made_at _ _ _ _ (by simp)).alloc _).alloc _).alloc _, ((Blk.made_at _ _ _ _ (by simp)).alloc _).alloc _, hm3 _ _ _ (by simp), Blk.made_at _ _ _ _ (by simp), fun p hp => by simp at hp⟩
  have HS5 : (((((((w.alloc (Obj.cells #[Value.slice a F.length cap, Value.slice a' G.length cap', .func (.func 55) #[] #[.pointer (some ⟨pb, 0, none⟩)]] 57)).alloc (Obj.cells #[Value.slice none 0 0] 22)).alloc (Obj.cells #[Value.int IntKind.i64 0] 25)).alloc (Obj.cells (madeCells #[Value.int IntKind.i64 0, Value.int IntKind.i64 0, Value.int IntKind.i64 0] ((F.length + G.length) * 3)) 42)).alloc (Obj.cells #[Value.slice (some { block := w.heap.size + 1 + 1 + 1, off := 0 }) 0 (F.length + G.length)] 22)))).heap.size = w.heap.size + 1 + 1 + 1 + 1 + 1 := by simp
  have HB5 : Below w.heap.size w ((((((w.alloc (Obj.cells #[Value.slice a F.length cap, Value.slice a' G.length cap', .func (.func 55) #[] #[.pointer (some ⟨pb, 0, none⟩)]] 57)).alloc (Obj.cells #[Value.slice none 0 0] 22)).alloc (Obj.cells #[Value.int IntKind.i64 0] 25)).alloc (Obj.cells (madeCells #[Value.int IntKind.i64 0, Value.int IntKind.i64 0, Value.int IntKind.i64 0] ((F.length + G.length) * 3)) 42)).alloc (Obj.cells #[Value.slice (some { block := w.heap.size + 1 + 1 + 1, off := 0 }) 0 (F.length + G.length)] 22))) := by (repeat (first | exact Below.refl _ _ | assumption | refine balloc ?_ _ | refine below_drewN ?_ _ | refine bstep (by assumption) ?_ | refine bstep (Past.prop _) ?_ | refine Below.setCell ?_ (by first | exact Nat.le_refl _ | (simp; done) | (simp; omega)) _))
  generalize ((((((w.alloc (Obj.cells #[Value.slice a F.length cap, Value.slice a' G.length cap', .func (.func 55) #[] #[.pointer (some ⟨pb, 0, none⟩)]] 57)).alloc (Obj.cells #[Value.slice none 0 0] 22)).alloc (Obj.cells #[Value.int IntKind.i64 0] 25)).alloc (Obj.cells (madeCells #[Value.int IntKind.i64 0, Value.int IntKind.i64 0, Value.int IntKind.i64 0] ((F.length + G.length) * 3)) 42)).alloc (Obj.cells #[Value.slice (some { block := w.heap.size + 1 + 1 + 1, off := 0 }) 0 (F.length + G.length)] 22))) = W5 at *
  refine wp_rangeFunc_T (n₀ := w.heap.size) (S := togL F G) rfl (enters_of Try.func39 (by kernel_rfl) rfl) HB5.size (HSEQ.out _ HB5) (fun _ => rfl)
    (CombI 2 F G w (.agg #[.slice a F.length cap, .slice a' G.length cap', .func (.func 55) #[] #[.pointer (some ⟨pb, 0, none⟩)]])) (fun c _ W => CombX 2 F G w c W)
    (fun s A B h hb => combI_below h (HS5 ▸ hb)) (fun c s A B h hb => combX_below h (HS5 ▸ hb)) HI0
    (fun x a1 W => ∃ Bx : Nat, w.heap.size + 1 + 1 + 1 + 1 + 1 ≤ Bx ∧ Blk W Bx #[.int .i64 x.2.1.1, .int .i64 x.2.1.2, .int .i64 x.2.2.1, .int .i64 x.2.2.2] 67 ∧ a1 = { tmps := #[.agg #[.slice a F.length cap, .slice a' G.length cap', .func (.func 55) #[] #[.pointer (some ⟨pb, 0, none⟩)]], .pointer (some ⟨w.heap.size, 0, none⟩), .pointer (some ⟨w.heap.size + 1, 0, none⟩), .pointer (some ⟨w.heap.size + 1 + 1, 0, none⟩), .pointer (some ⟨w.heap.size + 1 + 1 + 1 + 1, 0, none⟩), .int .i64 x.1, .pointer (some ⟨Bx, 0, none⟩), undef, undef,
      .pointer (some ⟨w.heap.size, 0, none⟩), .slice a F.length cap, .int .i64 F.length, .pointer (some ⟨w.heap.size, 1, none⟩), .slice a' G.length cap', .int .i64 G.length, .int .i64 ((F.length : Int) + (G.length : Int)), .slice (some ⟨w.heap.size + 1 + 1 + 1, 0, none⟩) 0 (F.length + G.length), .agg #[.slice a F.length cap, .slice a' G.length cap', .func (.func 55) #[] #[.pointer (some ⟨pb, 0, none⟩)]],
      .func (.func 39) #[.agg #[.slice a F.length cap, .slice a' G.length cap', .func (.func 55) #[] #[.pointer (some ⟨pb, 0, none⟩)]]] #[], .int .i64 x.1, .agg #[.int .i64 x.2.1.1, .int .i64 x.2.1.2, .int .i64 x.2.2.1, .int .i64 x.2.2.2], undef, undef, undef, undef, undef, undef, undef, undef, undef, undef, undef, undef, undef, undef, undef, undef, undef, undef, undef, undef, undef, undef, undef], defers := [] })
    ?hax ?assign ?body ?done ?stop
  case hax =>
    rintro x a1 A l r o ⟨Bx, h1, h2, h3⟩ hlr
    exact ⟨Bx, h1, (World.putObj_heap_other (fun e => by subst e; rw [show A.heap[Bx]? = _ from h2] at hlr; cases hlr)).trans h2, h3⟩
  case assign =>
    intro l pre x W K hsz hi hK
    rw [HS5] at hsz
    dsimp only [encT]
    gi_wp2
    exact hK _ _ (Outside.of_below ((Below.refl _ _).alloc (Nat.le_refl _) _) (by omega)) (combI_below hi ((Below.refl _ _).alloc (by omega) _)) ⟨W.heap.size, by omega, Blk.made _ _ _, rfl⟩
  case body =>
    rintro l pre x a1 W hsz ⟨i1, i2, i3, i4, i5, i6, i7, i8⟩ ⟨Bx, hBx, bX, rfl⟩ hpre
    rw [HS5] at hsz
    clear HI0 HSEQ HMK hmk hm3
    have HOP := hidE (alw_mn x.2.1.1 x.2.1.2 x.2.2.1 x.2.2.2 pb W ((i1.cell (p := ⟨pb, 0, none⟩) hpz).trans hpb) (Nat.lt_of_lt_of_le hpz i1.size))
    change Hid (Calls _ _ _ W fun e w' => e = .returned (VE (opV 2 x.2.1 x.2.2)) ∧ _) at HOP
    have HRAW := hidE (show rawOf 2 x = (x.1, ((opV 2 x.2.1 x.2.2).1, (opV 2 x.2.1 x.2.2).2.1)) from rfl)
    have HERR := hidE (show errOf 2 x = (opV 2 x.2.1 x.2.2).2.2 from rfl)
    generalize opV 2 x.2.1 x.2.2 = q at *
    have p2 := i3.cell 2; have r0 := i7.cell 0; have rf := i7.free; have e0 := i5.cell 0; have ef := i5.free; have v0 := i4.cell 0; have vf := i4.free
    have x0 := bX.cell 0; have x1 := bX.cell 1; have x2 := bX.cell 2; have x3 := bX.cell 3; have xz := bX.lt
    simp [Value.cells] at p2 r0 e0 v0 x0 x1 x2 x3
    gi_wp2_with fail
    refine ⟨trivial, rfl, (CallsIn.inRound l (callsIn_wide.2 HOP.out)).mono ?_⟩
    rintro e w1 ⟨rfl, hb1⟩
    clear p2 r0 rf e0 ef v0 vf x0 x1 x2 x3 xz
    have HB1 := hidE hb1
    have o1 : Outside w.heap.size W5.heap.size W w1 := Outside.of_below hb1 i1.size
    have hz1 : w.heap.size + 1 + 1 + 1 + 1 + 1 ≤ w1.heap.size := Nat.le_trans hsz hb1.size
    have BE := i5.past hb1; have BV := i4.past hb1; have BR := i7.past hb1
    have r0 := BR.cell 0; have rf := BR.free; have rz := BR.lt; have e0 := BE.cell 0; have ef := BE.free; have ez := BE.lt; have v0 := BV.cell 0; have vf := BV.free; have vz := BV.lt
    simp at r0 e0 v0
    by_cases hq : q.2.2 = 0
    · have g2 : (q.2.2 != 0) = false := by rw [bne_eq_false_iff_eq]; exact hq
      have HE0 := hidE (HERR.out.trans hq)
      have hsl : (pre.map (rawOf 2)).length = pre.length := by simp
      have hlt : pre.length + 1 ≤ F.length + G.length := by
        have h1 := hpre.length_le
        simp only [List.length_append, List.length_cons, List.length_nil] at h1
        have := HLEN.out; omega
      have HROW := hidE (i6.below hb1 (by omega))
      have APP := hidE (fun W' (hb : Below w1.heap.size w1 W') => show W'.ownsRow w.heap.size 42 3 (.slice (some ⟨w.heap.size + 1 + 1 + 1, 0, none⟩) pre.length (F.length + G.length)) pre.length (cellsOfS (pre.map (rawOf 2))) from by
        have := (HROW.out.below hb (by omega)).own (base := w.heap.size) (by omega)
        rw [hsl] at this; exact this)
      obtain ⟨ix, hix, hz0, hzz, hz2⟩ := info_parts Try.infoSeg
      have HI := hidE hix; have HZ1 := hidE hzz
      have HI1 := hidE i1; have HI3 := hidE i3; have HI8 := hidE i8; have HPRE := hidE hpre
      have BF := i3.past hb1; have BE' := hidE BE; have BV' := hidE BV
      clear hq hix hz0 hzz hz2 i1 i3 i4 i5 i6 i7 i8 hpre BE BV HERR HOP HBAD HOK bX e0 ef ez v0 vf vz hb1 hsl
      gi_wp2_with (gi_at_builtin; refine wpListIn_append_fits _ rfl (.tmp 34) (.tmp 38) 22 rfl w.heap.size 42 ix 3 Try.underlying22 HI.out HZ1.out (w.heap.size + 1 + 1 + 1) pre.length (F.length + G.length) _ rfl (APP.out _ (by (repeat (first | exact Below.refl _ _ | assumption | refine balloc ?_ _ | refine below_drewN ?_ _ | refine bstep (by assumption) ?_ | refine bstep (Past.prop _) ?_ | refine Below.setCell ?_ (by first | exact Nat.le_refl _ | (simp; done) | (simp; omega)) _)))) ⟨_, 0, none⟩ 1 1 [.int .i64 x.1, .int .i64 q.1, .int .i64 q.2.1] rfl rfl (fresh_at _ #[.int .i64 x.1, .int .i64 q.1, .int .i64 q.2.1] 42 _ (by simp)) (by intro y hy; simp at hy; rcases hy with rfl | rfl | rfl <;> rfl) (by omega) ?_; intro w4 hown4 hgrow4; have BR4 := ((BR.alloc _).alloc _).grown hgrow4 (by simp); have r4 := BR4.cell 0; have rf4 := BR4.free; have rz4 := BR4.lt; simp at r4; have HG4 := hidE hgrow4; have HO4 := hidE hown4; have HR4 := hidE BR4; clear hgrow4 hown4 r0 rf rz BR4)
      have o2 : Outside w.heap.size W5.heap.size w1 _ := Outside.of_below (((Below.refl _ w1).alloc (Nat.le_refl _) (Obj.cells #[Value.int IntKind.i64 q.fst, Value.int IntKind.i64 q.snd.fst] 40)).alloc (by simp) (Obj.cells #[Value.int IntKind.i64 x.fst, Value.int IntKind.i64 q.fst, Value.int IntKind.i64 q.snd.fst] 42)) (by omega)
      have o3 : Outside w.heap.size W5.heap.size _ w4 := Outside.of_grown HG4.out (by omega) (by omega) (by simp; omega)
      have o4 : Outside w.heap.size W5.heap.size w4 _ := Outside.of_grown (grown_set w4 (w.heap.size + 1 + 1 + 1 + 1) 0 (.slice (some ⟨w.heap.size + 1 + 1 + 1, 0, none⟩) (pre.length + 1) (F.length + G.length))) (by omega) (by omega) (by omega)
      have oo := ((o1.trans o2).trans o3).trans o4
      have hmap : (pre ++ [x]).map (rawOf 2) = pre.map (rawOf 2) ++ [(x.1, (q.1, q.2.1))] := by rw [List.map_append, List.map_cons, List.map_nil, HRAW.out]
      have hlen : ((pre ++ [x]).map (rawOf 2)).length = pre.length + 1 := by simp
      have hrow : RowAt w4 (w.heap.size + 1 + 1 + 1) (F.length + G.length) ((pre ++ [x]).map (rawOf 2)) := RowAt.of_own (base := w.heap.size) hl (by
        rw [hlen, hmap, cellsOfS_app]; exact HO4.out)
      refine ⟨oo, HI1.out.trans oo.below, by simp [World.setCell]; omega, (((BF.alloc _).alloc _).grown HG4.out (by simp; omega)).other (by omega) _, (((BV'.out.alloc _).alloc _).grown HG4.out (by simp)).other (by omega) _, (((BE'.out.alloc _).alloc _).grown HG4.out (by simp)).other (by omega) _, hrow.other (by omega) _, ?_, fun p hp => ?_⟩
      · have := HR4.out.set 0 (.slice (some ⟨w.heap.size + 1 + 1 + 1, 0, none⟩) (pre.length + 1) (F.length + G.length))
        simpa using this
      · rcases List.mem_append.1 hp with h | h
        · exact HI8.out p h
        · simp at h; subst h; exact HE0.out
    · have g2 : (q.2.2 != 0) = true := bne_iff_ne.2 hq
      have HB := hidE (HBAD.out x (hpre.subset (by simp)) (by rw [HERR.out]; exact hq))
      have hb' := HB.out
      rw [HERR.out] at hb'
      have HD := hidE hb'
      clear hb'
      gi_wp2
      have o2 : Outside w.heap.size W5.heap.size _ _ := Outside.of_grown (grown_set w1 (w.heap.size + 1) 0 (.slice none 0 0)) (by omega) (by omega) (by omega)
      have o3 : Outside w.heap.size W5.heap.size _ _ := Outside.of_grown (grown_set (w1.setCell ⟨w.heap.size + 1, 0, none⟩ (.slice none 0 0)) (w.heap.size + 1 + 1) 0 (.int .i64 q.2.2)) (by omega) (by omega) (by simp [World.setCell]; omega)
      have o4 : Outside w.heap.size W5.heap.size _ _ := Outside.of_below ((Below.refl _ ((w1.setCell ⟨w.heap.size + 1, 0, none⟩ (.slice none 0 0)).setCell ⟨w.heap.size + 1 + 1, 0, none⟩ (.int .i64 q.2.2))).alloc (Nat.le_refl _) (Obj.cells #[Value.int IntKind.i64 q.fst, Value.int IntKind.i64 q.snd.fst] 40)) (by simp [World.setCell]; omega)
      have oo := ((o1.trans o2).trans o3).trans o4
      refine ⟨oo, rfl, i1.trans oo.below, ?_, ?_, by rw [HD.out]⟩
      · have := ((BV.set 0 (.slice none 0 0)).other (b := w.heap.size + 1 + 1) (i := 0) (by omega) (.int .i64 q.2.2)).alloc (Obj.cells #[Value.int IntKind.i64 q.fst, Value.int IntKind.i64 q.snd.fst] 40)
        simpa using this
      · have := ((BE.other (b := w.heap.size + 1) (i := 0) (by omega) (.slice none 0 0)).set 0 (.int .i64 q.2.2)).alloc (Obj.cells #[Value.int IntKind.i64 q.fst, Value.int IntKind.i64 q.snd.fst] 40)
        rw [HD.out]
        simpa using this
  case done =>
    rintro D W hD ⟨i1, i2, i3, i4, i5, i6, i7, i8⟩ hK
    rw [HS5] at hD
    have hD' : D < W.heap.size := (Array.getElem?_eq_some_iff.1 hK).1
    obtain ⟨hok, hun⟩ := HOK.out i8
    have HUN := hidE hun; have HALL := hidE hok
    have hml : ((togL F G).map (rawOf 2)).length = (togL F G).length := by simp
    obtain ⟨aR, capR, eR, _, _, hAR⟩ := sliS_own (i6.own (base := w.heap.size) (by omega))
    cases eR
    have HOF := hidE (show Calls Try.prog 48 #[.slice (some ⟨w.heap.size + 1 + 1 + 1, 0, none⟩) (togL F G).length (F.length + G.length)] W (OfPost W ((togL F G).map (rawOf 2))) from by
      have := of_c ((togL F G).map (rawOf 2)) _ (F.length + G.length) W (by rw [hml]; have := HLEN.out; omega) hAR
      rw [hml] at this; exact this)
    have r0 := i7.cell 0; have rf := i7.free; have rz := i7.lt; have e0 := i5.cell 0; have ef := i5.free; have ez := i5.lt; have v0 := i4.cell 0; have vf := i4.free; have vz := i4.lt
    simp at r0 e0 v0
    have HKD := hidE hK; have BE := hidE i5; have BV := hidE i4
    clear HI0 HSEQ HMK hmk hm3 hun hok hAR i3 i4 i5 i6 i7 hK HOK HBAD
    go_wp2_with fail
    ((with_reducible refine (HOF.out).mono ?_); rintro e w1 ⟨v1, f1, er, rfl, hs1, hcase, hb1⟩)
    clear r0 rf rz e0 ef ez v0 vf vz
    have BE1 := BE.out.past hb1; have BV1 := BV.out.past hb1
    have e0 := BE1.cell 0; have ef := BE1.free; have ez := BE1.lt; have v0 := BV1.cell 0; have vf := BV1.free; have vz := BV1.lt
    simp at e0 v0
    obtain ⟨a1, c1, rfl, hs11, hs12, hs13⟩ := hs1
    have HS1 := hidE (And.intro hs11 (And.intro hs12 hs13)); have HC := hidE hcase; have HB1 := hidE hb1
    clear hs11 hs12 hs13 hcase hb1
    go_wp2
    obtain ⟨h2, h3, h4⟩ := HS1.out
    have hkf : ((w1.setCell ⟨w.heap.size + 1, 0, none⟩ (.slice a1 f1.length c1)).setCell ⟨w.heap.size + 1 + 1, 0, none⟩ (.int .i64 er)).heap[D]? = some (.deferred (some [])) :=
      (Below.heap_setCell _ _ _ _ (by simp; omega)).trans ((Below.heap_setCell _ _ _ _ (by simp; omega)).trans ((HB1.out.block D hD').trans HKD.out))
    have g1 := (((BV1.set 0 (.slice a1 f1.length c1)).other (b := w.heap.size + 1 + 1) (i := 0) (by omega) (.int .i64 er)).put (b := D) (by omega) (.deferred none)).cell 0
    have g2 := (((BE1.other (b := w.heap.size + 1) (i := 0) (by omega) (.slice a1 f1.length c1)).set 0 (.int .i64 er)).put (b := D) (by omega) (.deferred none)).cell 0
    simp at g1 g2
    have hdz : D < w1.heap.size := Nat.lt_of_lt_of_le hD' HB1.out.size
    refine ⟨by simp, .inl ⟨_, _, rfl, run_takeDeferred hkf, ?_⟩⟩
    refine ⟨.tuple #[.slice a1 f1.length c1, .int .i64 er], by simp [results, Try.results28, go_sem, g1, g2], ?_⟩
    rcases HC.out with ⟨_, q2, q3⟩ | ⟨q1, _, _⟩
    · rw [HUN.out _ q3, q2]
      refine ⟨_, rfl, ⟨a1, c1, rfl, h2, h3, argS_turn h4 (by simp [World.setCell]) (fun k i v hc => ?_)⟩, ?_⟩
      · by_cases e1 : k = w.heap.size + 1
        · subst e1; exact (one_cell BV1 hc).elim
        by_cases e2 : k = w.heap.size + 1 + 1
        · subst e2; exact (one_cell BE1 hc).elim
        by_cases e3 : k = D
        · subst e3; exact (no_cell ((HB1.out.block k hD').trans HKD.out) hc).elim
        · exact (World.putObj_heap_other e3).trans ((Below.heap_setCell _ _ _ _ e2).trans (Below.heap_setCell _ _ _ _ e1))
      · refine ((((i1.trans (HB1.out.mono i1.size)).setCell (p := ⟨w.heap.size + 1, 0, none⟩) (by simp) _).setCell (p := ⟨w.heap.size + 1 + 1, 0, none⟩) (by simp; omega) _)).trans (below_putObj _ _ _ (by omega))
    · rw [HALL.out] at q1; cases q1
  case stop =>
    rintro D c pre W hD hpre ⟨rfl, i1, i2, i3, hnil⟩ hK
    rw [HS5] at hD
    have g1 := (i2.put (b := D) (by omega) (.deferred none)).cell 0
    have g2 := (i3.put (b := D) (by omega) (.deferred none)).cell 0
    simp at g1 g2
    have HI1 := hidE i1
    clear HI0 HSEQ HMK hmk hm3 i2 i3 HOK HBAD
    go_wp2
    refine ⟨by simp, .inl ⟨_, _, rfl, run_takeDeferred hK, ?_⟩⟩
    refine ⟨.tuple #[.slice none 0 0, .int .i64 (doS 2 F G).2], by simp [results, Try.results28, go_sem, g1, g2], ?_⟩
    rw [hnil]
    exact ⟨_, rfl, sliS_nil _, HI1.out.trans (below_putObj _ _ _ (by omega))⟩

set_option maxRecDepth 100000 in
set_option maxHeartbeats 2000000 in
theorem comb_mx (F G : List Sg) (a a' : Option Addr) (cap cap' : Nat) (w : World) (pb : Nat) (hpb : w.cell? ⟨pb, 0, none⟩ = some (.func (.func 36) #[] #[])) (hpz : pb < w.heap.size) (hF : F.length ≤ cap) (hc : cap ≤ 9223372036854775807) (hG : G.length ≤ cap') (hc' : cap' ≤ 9223372036854775807) (hl : F.length + G.length ≤ 1000000000)
    (hA : ArgS w a F) (hA' : ArgS w a' G) (hm : mayB F = true) (hm' : mayB G = true) :
    Calls Try.prog 28 #[.agg #[.slice a F.length cap, .slice a' G.length cap', .func (.func 55) #[] #[.pointer (some ⟨pb, 0, none⟩)]]] w (OfIs w (doS 3 F G).1 (doS 3 F G).2) := by
  have HBAD := hidE (fun (p : Tg) hp he => comb_bad (k := 3) hm hm' (p := p) hp he)
  have HOK := hidE (fun he => comb_ok (k := 3) hm hm' he)
  have HSEQ := hidE (fun w' hb => tog_c F G a a' cap cap' (.func (.func 55) #[] #[.pointer (some ⟨pb, 0, none⟩)]) w w' hF hc hG hc' hl hA hA' hb)
  have HLEN := hidE (togL_len F G)
  have HMK := hidE (make_segs2 F.length G.length hl)
  clear hA hA' hm hm' hF hc hG hc'
  refine (callsIn_wide (n := 0)).1 (callsIn_of_wp_marks Try.func28 rfl trivial ((wpIn_wide (n := 0)).2 ?_))
  simp only [Try.ntmps28, List.size_toArray, List.length_cons, List.length_nil, Nat.reduceAdd, Nat.reduceSub, Array.replicate_succ, Array.replicate_zero, List.push_toArray, List.append_toArray, List.nil_append, List.cons_append]
  have hmk := HMK.out
  go_wp2
  have hm3 := madeRow (F.length + G.length) hl
  have HI0 : CombI 3 F G w (.agg #[.slice a F.length cap, .slice a' G.length cap', .func (.func 55) #[] #[.pointer (some ⟨pb, 0, none⟩)]]) [] ((((((w.alloc (Obj.cells #[Value.slice a F.length cap, Value.slice a' G.length cap', .func (.func 55) #[] #[.pointer (some ⟨pb, 0, none⟩)]] 57)).alloc (Obj.cells #[Value.slice none 0 0] 22)).alloc (Obj.cells #[Value.int IntKind.i64 0] 25)).alloc (Obj.cells (madeCells #[Value.int IntKind.i64 0, Value.int IntKind.i64 0, Value.int IntKind.i64 0] ((F.length + G.length) * 3)) 42)).alloc (Obj.cells #[Value.slice (some { block := w.heap.size + 1 + 1 + 1, off := 0 }) 0 (F.length + G.length)] 22))) :=
    ⟨by (repeat (first | exact Below.refl _ _ | assumption | refine balloc ?_ _ | refine below_drewN ?_ _ | refine bstep (by assumption) ?_ | refine bstep (Past.prop _) ?_ | refine Below.setCell ?_ (by first | exact Nat.le_refl _ | (simp; done) | (simp; omega)) _)), by simp, (((Blk.made _ _ _).alloc _).alloc _).alloc _ |>.alloc _, (((Blk.made_at _ _ _ _ (by simp)).alloc _).alloc _).alloc _, ((Blk.made_at _ _ _ _ (by simp)).alloc _).alloc _, hm3 _ _ _ (by simp), Blk.made_at _ _ _ _ (by simp), fun p hp => by simp at hp⟩
  have HS5 : (((((((w.alloc (Obj.cells #[Value.slice a F.length cap, Value.slice a' G.length cap', .func (.func 55) #[] #[.pointer (some ⟨pb, 0, none⟩)]] 57)).alloc (Obj.cells #[Value.slice none 0 0] 22)).alloc (Obj.cells #[Value.int IntKind.i64 0] 25)).alloc (Obj.cells (madeCells #[Value.int IntKind.i64 0, Value.int IntKind.i64 0, Value.int IntKind.i64 0] ((F.length + G.length) * 3)) 42)).alloc (Obj.cells #[Value.slice (some { block := w.heap.size + 1 + 1 + 1, off := 0 }) 0 (F.length + G.length)] 22)))).heap.size = w.heap.size + 1 + 1 + 1 + 1 + 1 := by simp
  have HB5 : Below w.heap.size w ((((((w.alloc (Obj.cells #[Value.slice a F.length cap, Value.slice a' G.length cap', .func (.func 55) #[] #[.pointer (some ⟨pb, 0, none⟩)]] 57)).alloc (Obj.cells #[Value.slice none 0 0] 22)).alloc (Obj.cells #[Value.int IntKind.i64 0] 25)).alloc (Obj.cells (madeCells #[Value.int IntKind.i64 0, Value.int IntKind.i64 0, Value.int IntKind.i64 0] ((F.length + G.length) * 3)) 42)).alloc (Obj.cells #[Value.slice (some { block := w.heap.size + 1 + 1 + 1, off := 0 }) 0 (F.length + G.length)] 22))) := by (repeat (first | exact Below.refl _ _ | assumption | refine balloc ?_ _ | refine below_drewN ?_ _ | refine bstep (by assumption) ?_ | refine bstep (Past.prop _) ?_ | refine Below.setCell ?_ (by first | exact Nat.le_refl _ | (simp; done) | (simp; omega)) _))
  generalize ((((((w.alloc (Obj.cells #[Value.slice a F.length cap, Value.slice a' G.length cap', .func (.func 55) #[] #[.pointer (some ⟨pb, 0, none⟩)]] 57)).alloc (Obj.cells #[Value.slice none 0 0] 22)).alloc (Obj.cells #[Value.int IntKind.i64 0] 25)).alloc (Obj.cells (madeCells #[Value.int IntKind.i64 0, Value.int IntKind.i64 0, Value.int IntKind.i64 0] ((F.length + G.length) * 3)) 42)).alloc (Obj.cells #[Value.slice (some { block := w.heap.size + 1 + 1 + 1, off := 0 }) 0 (F.length + G.length)] 22))) = W5 at *
  refine wp_rangeFunc_T (n₀ := w.heap.size) (S := togL F G) rfl (enters_of Try.func39 (by kernel_rfl) rfl) HB5.size (HSEQ.out _ HB5) (fun _ => rfl)
    (CombI 3 F G w (.agg #[.slice a F.length cap, .slice a' G.length cap', .func (.func 55) #[] #[.pointer (some ⟨pb, 0, none⟩)]])) (fun c _ W => CombX 3 F G w c W)
    (fun s A B h hb => combI_below h (HS5 ▸ hb)) (fun c s A B h hb => combX_below h (HS5 ▸ hb)) HI0
    (fun x a1 W => ∃ Bx : Nat, w.heap.size + 1 + 1 + 1 + 1 + 1 ≤ Bx ∧ Blk W Bx #[.int .i64 x.2.1.1, .int .i64 x.2.1.2, .int .i64 x.2.2.1, .int .i64 x.2.2.2] 67 ∧ a1 = { tmps := #[.agg #[.slice a F.length cap, .slice a' G.length cap', .func (.func 55) #[] #[.pointer (some ⟨pb, 0, none⟩)]], .pointer (some ⟨w.heap.size, 0, none⟩), .pointer (some ⟨w.heap.size + 1, 0, none⟩), .pointer (some ⟨w.heap.size + 1 + 1, 0, none⟩), .pointer (some ⟨w.heap.size + 1 + 1 + 1 + 1, 0, none⟩), .int .i64 x.1, .pointer (some ⟨Bx, 0, none⟩), undef, undef,
      .pointer (some ⟨w.heap.size, 0, none⟩), .slice a F.length cap, .int .i64 F.length, .pointer (some ⟨w.heap.size, 1, none⟩), .slice a' G.length cap', .int .i64 G.length, .int .i64 ((F.length : Int) + (G.length : Int)), .slice (some ⟨w.heap.size + 1 + 1 + 1, 0, none⟩) 0 (F.length + G.length), .agg #[.slice a F.length cap, .slice a' G.length cap', .func (.func 55) #[] #[.pointer (some ⟨pb, 0, none⟩)]],
      .func (.func 39) #[.agg #[.slice a F.length cap, .slice a' G.length cap', .func (.func 55) #[] #[.pointer (some ⟨pb, 0, none⟩)]]] #[], .int .i64 x.1, .agg #[.int .i64 x.2.1.1, .int .i64 x.2.1.2, .int .i64 x.2.2.1, .int .i64 x.2.2.2], undef, undef, undef, undef, undef, undef, undef, undef, undef, undef, undef, undef, undef, undef, undef, undef, undef, undef, undef, undef, undef, undef, undef], defers := [] })
    ?hax ?assign ?body ?done ?stop
  case hax =>
    rintro x a1 A l r o ⟨Bx, h1, h2, h3⟩ hlr
    exact ⟨Bx, h1, (World.putObj_heap_other (fun e => by subst e; rw [show A.heap[Bx]? = _ from h2] at hlr; cases hlr)).trans h2, h3⟩
  case assign =>
    intro l pre x W K hsz hi hK
    rw [HS5] at hsz
    dsimp only [encT]
    gi_wp2
    exact hK _ _ (Outside.of_below ((Below.refl _ _).alloc (Nat.le_refl _) _) (by omega)) (combI_below hi ((Below.refl _ _).alloc (by omega) _)) ⟨W.heap.size, by omega, Blk.made _ _ _, rfl⟩
  case body =>
    rintro l pre x a1 W hsz ⟨i1, i2, i3, i4, i5, i6, i7, i8⟩ ⟨Bx, hBx, bX, rfl⟩ hpre
    rw [HS5] at hsz
    clear HI0 HSEQ HMK hmk hm3
    have HOP := hidE (alw_mx x.2.1.1 x.2.1.2 x.2.2.1 x.2.2.2 pb W ((i1.cell (p := ⟨pb, 0, none⟩) hpz).trans hpb) (Nat.lt_of_lt_of_le hpz i1.size))
    change Hid (Calls _ _ _ W fun e w' => e = .returned (VE (opV 3 x.2.1 x.2.2)) ∧ _) at HOP
    have HRAW := hidE (show rawOf 3 x = (x.1, ((opV 3 x.2.1 x.2.2).1, (opV 3 x.2.1 x.2.2).2.1)) from rfl)
    have HERR := hidE (show errOf 3 x = (opV 3 x.2.1 x.2.2).2.2 from rfl)
    generalize opV 3 x.2.1 x.2.2 = q at *
    have p2 := i3.cell 2; have r0 := i7.cell 0; have rf := i7.free; have e0 := i5.cell 0; have ef := i5.free; have v0 := i4.cell 0; have vf := i4.free
    have x0 := bX.cell 0; have x1 := bX.cell 1; have x2 := bX.cell 2; have x3 := bX.cell 3; have xz := bX.lt
    simp [Value.cells] at p2 r0 e0 v0 x0 x1 x2 x3
    gi_wp2_with fail
    refine ⟨trivial, rfl, (CallsIn.inRound l (callsIn_wide.2 HOP.out)).mono ?_⟩
    rintro e w1 ⟨rfl, hb1⟩
    clear p2 r0 rf e0 ef v0 vf x0 x1 x2 x3 xz
    have HB1 := hidE hb1
    have o1 : Outside w.heap.size W5.heap.size W w1 := Outside.of_below hb1 i1.size
    have hz1 : w.heap.size + 1 + 1 + 1 + 1 + 1 ≤ w1.heap.size := Nat.le_trans hsz hb1.size
    have BE := i5.past hb1; have BV := i4.past hb1; have BR := i7.past hb1
    have r0 := BR.cell 0; have rf := BR.free; have rz := BR.lt; have e0 := BE.cell 0; have ef := BE.free; have ez := BE.lt; have v0 := BV.cell 0; have vf := BV.free; have vz := BV.lt
    simp at r0 e0 v0
    by_cases hq : q.2.2 = 0
    · have g2 : (q.2.2 != 0) = false := by rw [bne_eq_false_iff_eq]; exact hq
      have HE0 := hidE (HERR.out.trans hq)
      have hsl : (pre.map (rawOf 3)).length = pre.length := by simp
      have hlt : pre.length + 1 ≤ F.length + G.length := by
        have h1 := hpre.length_le
        simp only [List.length_append, List.length_cons, List.length_nil] at h1
        have := HLEN.out; omega
      have HROW := hidE (i6.below hb1 (by omega))
      have APP := hidE (fun W' (hb : Below w1.heap.size w1 W') => show W'.ownsRow w.heap.size 42 3 (.slice (some ⟨w.heap.size + 1 + 1 + 1, 0, none⟩) pre.length (F.length + G.length)) pre.length (cellsOfS (pre.map (rawOf 3))) from by
        have := (HROW.out.below hb (by omega)).own (base := w.heap.size) (by omega)
        rw [hsl] at this; exact this)
      obtain ⟨ix, hix, hz0, hzz, hz2⟩ := info_parts Try.infoSeg
      have HI := hidE hix; have HZ1 := hidE hzz
      have HI1 := hidE i1; have HI3 := hidE i3; have HI8 := hidE i8; have HPRE := hidE hpre
      have BF := i3.past hb1; have BE' := hidE BE; have BV' := hidE BV
      clear hq hix hz0 hzz hz2 i1 i3 i4 i5 i6 i7 i8 hpre BE BV HERR HOP HBAD HOK bX e0 ef ez v0 vf vz hb1 hsl
      gi_wp2_with (gi_at_builtin; refine wpListIn_append_fits _ rfl (.tmp 34) (.tmp 38) 22 rfl w.heap.size 42 ix 3 Try.underlying22 HI.out HZ1.out (w.heap.size + 1 + 1 + 1) pre.length (F.length + G.length) _ rfl (APP.out _ (by (repeat (first | exact Below.refl _ _ | assumption | refine balloc ?_ _ | refine below_drewN ?_ _ | refine bstep (by assumption) ?_ | refine bstep (Past.prop _) ?_ | refine Below.setCell ?_ (by first | exact Nat.le_refl _ | (simp; done) | (simp; omega)) _)))) ⟨_, 0, none⟩ 1 1 [.int .i64 x.1, .int .i64 q.1, .int .i64 q.2.1] rfl rfl (fresh_at _ #[.int .i64 x.1, .int .i64 q.1, .int .i64 q.2.1] 42 _ (by simp)) (by intro y hy; simp at hy; rcases hy with rfl | rfl | rfl <;> rfl) (by omega) ?_; intro w4 hown4 hgrow4; have BR4 := ((BR.alloc _).alloc _).grown hgrow4 (by simp); have r4 := BR4.cell 0; have rf4 := BR4.free; have rz4 := BR4.lt; simp at r4; have HG4 := hidE hgrow4; have HO4 := hidE hown4; have HR4 := hidE BR4; clear hgrow4 hown4 r0 rf rz BR4)
      have o2 : Outside w.heap.size W5.heap.size w1 _ := Outside.of_below (((Below.refl _ w1).alloc (Nat.le_refl _) (Obj.cells #[Value.int IntKind.i64 q.fst, Value.int IntKind.i64 q.snd.fst] 40)).alloc (by simp) (Obj.cells #[Value.int IntKind.i64 x.fst, Value.int IntKind.i64 q.fst, Value.int IntKind.i64 q.snd.fst] 42)) (by omega)
      have o3 : Outside w.heap.size W5.heap.size _ w4 := Outside.of_grown HG4.out (by omega) (by omega) (by simp; omega)
      have o4 : Outside w.heap.size W5.heap.size w4 _ := Outside.of_grown (grown_set w4 (w.heap.size + 1 + 1 + 1 + 1) 0 (.slice (some ⟨w.heap.size + 1 + 1 + 1, 0, none⟩) (pre.length + 1) (F.length + G.length))) (by omega) (by omega) (by omega)
      have oo := ((o1.trans o2).trans o3).trans o4
      have hmap : (pre ++ [x]).map (rawOf 3) = pre.map (rawOf 3) ++ [(x.1, (q.1, q.2.1))] := by rw [List.map_append, List.map_cons, List.map_nil, HRAW.out]
      have hlen : ((pre ++ [x]).map (rawOf 3)).length = pre.length + 1 := by simp
      have hrow : RowAt w4 (w.heap.size + 1 + 1 + 1) (F.length + G.length) ((pre ++ [x]).map (rawOf 3)) := RowAt.of_own (base := w.heap.size) hl (by
        rw [hlen, hmap, cellsOfS_app]; exact HO4.out)
      refine ⟨oo, HI1.out.trans oo.below, by simp [World.setCell]; omega, (((BF.alloc _).alloc _).grown HG4.out (by simp; omega)).other (by omega) _, (((BV'.out.alloc _).alloc _).grown HG4.out (by simp)).other (by omega) _, (((BE'.out.alloc _).alloc _).grown HG4.out (by simp)).other (by omega) _, hrow.other (by omega) _, ?_, fun p hp => ?_⟩
      · have := HR4.out.set 0 (.slice (some ⟨w.heap.size + 1 + 1 + 1, 0, none⟩) (pre.length + 1) (F.length + G.length))
        simpa using this
      · rcases List.mem_append.1 hp with h | h
        · exact HI8.out p h
        · simp at h; subst h; exact HE0.out
    · have g2 : (q.2.2 != 0) = true := bne_iff_ne.2 hq
      have HB := hidE (HBAD.out x (hpre.subset (by simp)) (by rw [HERR.out]; exact hq))
      have hb' := HB.out
      rw [HERR.out] at hb'
      have HD := hidE hb'
      clear hb'
      gi_wp2
      have o2 : Outside w.heap.size W5.heap.size _ _ := Outside.of_grown (grown_set w1 (w.heap.size + 1) 0 (.slice none 0 0)) (by omega) (by omega) (by omega)
      have o3 : Outside w.heap.size W5.heap.size _ _ := Outside.of_grown (grown_set (w1.setCell ⟨w.heap.size + 1, 0, none⟩ (.slice none 0 0)) (w.heap.size + 1 + 1) 0 (.int .i64 q.2.2)) (by omega) (by omega) (by simp [World.setCell]; omega)
      have o4 : Outside w.heap.size W5.heap.size _ _ := Outside.of_below ((Below.refl _ ((w1.setCell ⟨w.heap.size + 1, 0, none⟩ (.slice none 0 0)).setCell ⟨w.heap.size + 1 + 1, 0, none⟩ (.int .i64 q.2.2))).alloc (Nat.le_refl _) (Obj.cells #[Value.int IntKind.i64 q.fst, Value.int IntKind.i64 q.snd.fst] 40)) (by simp [World.setCell]; omega)
      have oo := ((o1.trans o2).trans o3).trans o4
      refine ⟨oo, rfl, i1.trans oo.below, ?_, ?_, by rw [HD.out]⟩
      · have := ((BV.set 0 (.slice none 0 0)).other (b := w.heap.size + 1 + 1) (i := 0) (by omega) (.int .i64 q.2.2)).alloc (Obj.cells #[Value.int IntKind.i64 q.fst, Value.int IntKind.i64 q.snd.fst] 40)
        simpa using this
      · have := ((BE.other (b := w.heap.size + 1) (i := 0) (by omega) (.slice none 0 0)).set 0 (.int .i64 q.2.2)).alloc (Obj.cells #[Value.int IntKind.i64 q.fst, Value.int IntKind.i64 q.snd.fst] 40)
        rw [HD.out]
        simpa using this
  case done =>
    rintro D W hD ⟨i1, i2, i3, i4, i5, i6, i7, i8⟩ hK
    rw [HS5] at hD
    have hD' : D < W.heap.size := (Array.getElem?_eq_some_iff.1 hK).1
    obtain ⟨hok, hun⟩ := HOK.out i8
    have HUN := hidE hun; have HALL := hidE hok
    have hml : ((togL F G).map (rawOf 3)).length = (togL F G).length := by simp
    obtain ⟨aR, capR, eR, _, _, hAR⟩ := sliS_own (i6.own (base := w.heap.size) (by omega))
    cases eR
    have HOF := hidE (show Calls Try.prog 48 #[.slice (some ⟨w.heap.size + 1 + 1 + 1, 0, none⟩) (togL F G).length (F.length + G.length)] W (OfPost W ((togL F G).map (rawOf 3))) from by
      have := of_c ((togL F G).map (rawOf 3)) _ (F.length + G.length) W (by rw [hml]; have := HLEN.out; omega) hAR
      rw [hml] at this; exact this)
    have r0 := i7.cell 0; have rf := i7.free; have rz := i7.lt; have e0 := i5.cell 0; have ef := i5.free; have ez := i5.lt; have v0 := i4.cell 0; have vf := i4.free; have vz := i4.lt
    simp at r0 e0 v0
    have HKD := hidE hK; have BE := hidE i5; have BV := hidE i4
    clear HI0 HSEQ HMK hmk hm3 hun hok hAR i3 i4 i5 i6 i7 hK HOK HBAD
    go_wp2_with fail
    ((with_reducible refine (HOF.out).mono ?_); rintro e w1 ⟨v1, f1, er, rfl, hs1, hcase, hb1⟩)
    clear r0 rf rz e0 ef ez v0 vf vz
    have BE1 := BE.out.past hb1; have BV1 := BV.out.past hb1
    have e0 := BE1.cell 0; have ef := BE1.free; have ez := BE1.lt; have v0 := BV1.cell 0; have vf := BV1.free; have vz := BV1.lt
    simp at e0 v0
    obtain ⟨a1, c1, rfl, hs11, hs12, hs13⟩ := hs1
    have HS1 := hidE (And.intro hs11 (And.intro hs12 hs13)); have HC := hidE hcase; have HB1 := hidE hb1
    clear hs11 hs12 hs13 hcase hb1
    go_wp2
    obtain ⟨h2, h3, h4⟩ := HS1.out
    have hkf : ((w1.setCell ⟨w.heap.size + 1, 0, none⟩ (.slice a1 f1.length c1)).setCell ⟨w.heap.size + 1 + 1, 0, none⟩ (.int .i64 er)).heap[D]? = some (.deferred (some [])) :=
      (Below.heap_setCell _ _ _ _ (by simp; omega)).trans ((Below.heap_setCell _ _ _ _ (by simp; omega)).trans ((HB1.out.block D hD').trans HKD.out))
    have g1 := (((BV1.set 0 (.slice a1 f1.length c1)).other (b := w.heap.size + 1 + 1) (i := 0) (by omega) (.int .i64 er)).put (b := D) (by omega) (.deferred none)).cell 0
    have g2 := (((BE1.other (b := w.heap.size + 1) (i := 0) (by omega) (.slice a1 f1.length c1)).set 0 (.int .i64 er)).put (b := D) (by omega) (.deferred none)).cell 0
    simp at g1 g2
    have hdz : D < w1.heap.size := Nat.lt_of_lt_of_le hD' HB1.out.size
    refine ⟨by simp, .inl ⟨_, _, rfl, run_takeDeferred hkf, ?_⟩⟩
    refine ⟨.tuple #[.slice a1 f1.length c1, .int .i64 er], by simp [results, Try.results28, go_sem, g1, g2], ?_⟩
    rcases HC.out with ⟨_, q2, q3⟩ | ⟨q1, _, _⟩
    · rw [HUN.out _ q3, q2]
      refine ⟨_, rfl, ⟨a1, c1, rfl, h2, h3, argS_turn h4 (by simp [World.setCell]) (fun k i v hc => ?_)⟩, ?_⟩
      · by_cases e1 : k = w.heap.size + 1
        · subst e1; exact (one_cell BV1 hc).elim
        by_cases e2 : k = w.heap.size + 1 + 1
        · subst e2; exact (one_cell BE1 hc).elim
        by_cases e3 : k = D
        · subst e3; exact (no_cell ((HB1.out.block k hD').trans HKD.out) hc).elim
        · exact (World.putObj_heap_other e3).trans ((Below.heap_setCell _ _ _ _ e2).trans (Below.heap_setCell _ _ _ _ e1))
      · refine ((((i1.trans (HB1.out.mono i1.size)).setCell (p := ⟨w.heap.size + 1, 0, none⟩) (by simp) _).setCell (p := ⟨w.heap.size + 1 + 1, 0, none⟩) (by simp; omega) _)).trans (below_putObj _ _ _ (by omega))
    · rw [HALL.out] at q1; cases q1
  case stop =>
    rintro D c pre W hD hpre ⟨rfl, i1, i2, i3, hnil⟩ hK
    rw [HS5] at hD
    have g1 := (i2.put (b := D) (by omega) (.deferred none)).cell 0
    have g2 := (i3.put (b := D) (by omega) (.deferred none)).cell 0
    simp at g1 g2
    have HI1 := hidE i1
    clear HI0 HSEQ HMK hmk hm3 i2 i3 HOK HBAD
    go_wp2
    refine ⟨by simp, .inl ⟨_, _, rfl, run_takeDeferred hK, ?_⟩⟩
    refine ⟨.tuple #[.slice none 0 0, .int .i64 (doS 3 F G).2], by simp [results, Try.results28, go_sem, g1, g2], ?_⟩
    rw [hnil]
    exact ⟨_, rfl, sliS_nil _, HI1.out.trans (below_putObj _ _ _ (by omega))⟩
end Go.Proofs.Ytgbgnpdfjoeonaa

namespace Go.Proofs.Ytgbgnpdfjoeonaa
open Go.ChangeShapes Go.WideShapes Go.ChangeAt Go.RowKit
attribute [local irreducible] Go.Calls

theorem all_no {L : List (List Sg)} {i : Nat} (hi : i < L.length) (h : mayB (L.getD i []) = false) : L.all mayB = false := by
  rw [getD_get _ _ _ hi] at h
  rw [List.all_eq_false]
  exact ⟨_, List.getElem_mem hi, by rw [h]; exact Bool.false_ne_true⟩
theorem all_yes {L : List (List Sg)} (h : ∀ i, i < L.length → mayB (L.getD i []) = true) : L.all mayB = true := by
  rw [List.all_eq_true]
  intro x hx
  obtain ⟨i, hi, rfl⟩ := List.getElem_of_mem hx
  have := h i hi
  rw [getD_get _ _ _ hi] at this; exact this

set_option maxRecDepth 100000 in
set_option maxHeartbeats 1000000 in
theorem canon_c (L : List (List Sg)) (a : Option Addr) (cap : Nat) (w : World) (hn : L.length ≤ 999999990) (hl : lenR L ≤ 999999990) (hA : ArgR w a L) :
    Calls Try.prog 26 #[.slice a L.length cap] w fun e w' => e = .returned (.bool (L.all mayB)) ∧ Below w.heap.size w w' := by
  have HA := hidE hA; clear hA
  go_enter Try.func26, Try.ntmps26
  go_wp2
  go_loopg [7, 4] L.length (fun gh vi _ wr => ∃ n : Nat, vi = .int .i64 n ∧ n ≤ L.length ∧ L.length - n ≤ gh ∧ (∀ i, i < n → mayB (L.getD i []) = true) ∧ Below w.heap.size w wr)
  case atStart => exact ⟨0, rfl, by omega, by omega, fun i hi => by omega, Below.refl _ _⟩
  case round =>
    obtain ⟨n, rfl, hnl, hg, hs, hbr⟩ := hrel
    have HS := hidE hs; have HBR := hidE hbr
    clear hs
    by_cases hlt : n < L.length
    · obtain ⟨b, off, rfl, hb, hc⟩ := (HA.out.past hbr) (by omega)
      obtain ⟨ai, ci, d0, hAi⟩ := hc n hlt
      have HAI := hidE hAi
      have hln := lenR_get hlt
      have HV := hidE (fun w hA => pmay_c (L.getD n []) ai ci w (by omega) hA)
      have HF := hidE (fun h => all_no hlt h)
      have HNS := hidE (fun (he : mayB (L.getD n []) = true) => show ∀ i, i < n + 1 → mayB (L.getD i []) = true from fun i hi => by
        by_cases e : i = n
        · rw [e]; exact he
        · exact HS.out i (by omega))
      clear hc hAi hbr
      generalize L.getD n [] = G at *
      cases hm : mayB G
      · have HD := hidE (HF.out hm)
        rw [hm] at HV
        clear HNS HF hm
        go_wp2_with fail
        ((with_reducible refine (HV.out _ HAI.out).mono ?_); rintro e w1 ⟨rfl, hb1⟩)
        go_wp2
        go_ret
        rw [HD.out]
        exact ⟨rfl, bstep hb1 HBR.out⟩
      · have HN := hidE (HNS.out hm)
        rw [hm] at HV
        clear HNS HF hm
        go_wp2_with fail
        ((with_reducible refine (HV.out _ HAI.out).mono ?_); rintro e w1 ⟨rfl, hb1⟩)
        have o1 := bstep hb1 HBR.out
        clear hb1 d0
        go_wp2
        go_roundg (L.length - (n + 1))
        case measure => omega
        case rel => exact ⟨n + 1, by go_num, by omega, Nat.le_refl _, HN.out, o1⟩
    · have hn' : n = L.length := by omega
      subst hn'
      have HE := hidE (all_yes HS.out)
      go_wp2
      go_ret
      rw [HE.out]
      exact ⟨rfl, HBR.out⟩

/-- A new block of two slices. -/
theorem argR_two {w : World} {p : Nat} {F G : List Sg} {a a' : Option Addr} {cap cap' : Nat} {t : TypeId} (h : Blk w p #[.slice a F.length cap, .slice a' G.length cap'] t) (hA : ArgS w a F) (hA' : ArgS w a' G) : ArgR w (some ⟨p, 0, none⟩) [F, G] := fun _ =>
  ⟨p, 0, rfl, h.lt, fun i hi => by
    simp only [List.length_cons, List.length_nil] at hi
    match i, hi with
    | 0, _ => exact ⟨a, cap, h.cell 0, hA⟩
    | 1, _ => exact ⟨a', cap', h.cell 1, hA'⟩⟩
theorem argR_one {w : World} {p : Nat} {F : List Sg} {a : Option Addr} {cap : Nat} {t : TypeId} (h : Blk w p #[.slice a F.length cap] t) (hA : ArgS w a F) : ArgR w (some ⟨p, 0, none⟩) [F] := fun _ =>
  ⟨p, 0, rfl, h.lt, fun i hi => by
    simp only [List.length_cons, List.length_nil] at hi
    match i, hi with
    | 0, _ => exact ⟨a, cap, h.cell 0, hA⟩⟩
theorem canon_two (F G : List Sg) (p : Nat) (a a' : Option Addr) (cap cap' c : Nat) (t : TypeId) (w : World) (hl : F.length + G.length ≤ 999999990) (h : Blk w p #[.slice a F.length cap, .slice a' G.length cap'] t) (hA : ArgS w a F) (hA' : ArgS w a' G) :
    Calls Try.prog 26 #[.slice (some ⟨p, 0, none⟩) 2 c] w fun e w' => e = .returned (.bool (mayB F && mayB G)) ∧ Below w.heap.size w w' := by
  have := canon_c [F, G] (some ⟨p, 0, none⟩) c w (by simp) (by simp [lenR]; omega) (argR_two h hA hA')
  simpa using this
theorem canon_one (F : List Sg) (p : Nat) (a : Option Addr) (cap c : Nat) (t : TypeId) (w : World) (hl : F.length ≤ 999999990) (h : Blk w p #[.slice a F.length cap] t) (hA : ArgS w a F) :
    Calls Try.prog 26 #[.slice (some ⟨p, 0, none⟩) 1 c] w fun e w' => e = .returned (.bool (mayB F)) ∧ Below w.heap.size w w' := by
  have := canon_c [F] (some ⟨p, 0, none⟩) c w (by simp) (by simp [lenR]; omega) (argR_one h hA)
  simpa using this

set_option maxRecDepth 100000 in
theorem checked_c (k : Int) (F G : List Sg) (a a' : Option Addr) (cap cap' : Nat) (fn : Fn) (r c : Array Value) (w : World) (hl : F.length + G.length ≤ 999999990) (hA : ArgS w a F) (hA' : ArgS w a' G)
    (HC : ∀ w', Below w.heap.size w w' → mayB F = true → mayB G = true → Calls Try.prog 28 #[.agg #[.slice a F.length cap, .slice a' G.length cap', .func fn r c]] w' (OfIs w' (doS k F G).1 (doS k F G).2)) :
    Calls Try.prog 29 #[.agg #[.slice a F.length cap, .slice a' G.length cap', .func fn r c]] w (OfIs w (doS k F G).1 (doS k F G).2) := by
  have HA := hidE hA; have HA' := hidE hA'; have HC' := hidE HC
  clear hA hA' HC
  have HCN := hidE (fun w p t h hA hA' => canon_two F G p a a' cap cap' 2 t w hl h hA hA')
  cases hm : (mayB F && mayB G)
  · have HE := hidE (doS_form (k := k) hm)
    rw [HE.out]
    rw [hm] at HCN
    go_enter Try.func29, Try.ntmps29
    go_wp2_with fail
    have B2 : Blk ((w.alloc (Obj.cells #[Value.slice a F.length cap, Value.slice a' G.length cap', Value.func fn r c] 57)).alloc (Obj.cells #[Value.slice a F.length cap, Value.slice a' G.length cap'] 22)) (w.heap.size + 1) #[.slice a F.length cap, .slice a' G.length cap'] 22 := Blk.made_at _ _ _ _ (by simp)
    ((with_reducible refine (HCN.out _ _ _ B2 (HA.out.past (by (repeat (first | exact Below.refl _ _ | assumption | refine balloc ?_ _ | refine below_drewN ?_ _ | refine bstep (by assumption) ?_ | refine bstep (Past.prop _) ?_ | refine Below.setCell ?_ (by first | exact Nat.le_refl _ | (simp; done) | (simp; omega)) _)))) (HA'.out.past (by (repeat (first | exact Below.refl _ _ | assumption | refine balloc ?_ _ | refine below_drewN ?_ _ | refine bstep (by assumption) ?_ | refine bstep (Past.prop _) ?_ | refine Below.setCell ?_ (by first | exact Nat.le_refl _ | (simp; done) | (simp; omega)) _))))).mono ?_); rintro e w1 ⟨rfl, hb1⟩)
    have hB : Below w.heap.size w w1 := by (repeat (first | exact Below.refl _ _ | assumption | refine balloc ?_ _ | refine below_drewN ?_ _ | refine bstep (by assumption) ?_ | refine bstep (Past.prop _) ?_ | refine Below.setCell ?_ (by first | exact Nat.le_refl _ | (simp; done) | (simp; omega)) _))
    clear hb1
    go_wp2
    go_ret2
    exact ⟨_, rfl, sliS_nil _, hB⟩
  · obtain ⟨h1, h2⟩ : mayB F = true ∧ mayB G = true := by simpa using hm
    rw [hm] at HCN
    have HC2 := hidE (fun w' hb => HC'.out w' hb h1 h2)
    clear hm h1 h2 HC'
    generalize doS k F G = D at *
    go_enter Try.func29, Try.ntmps29
    go_wp2_with fail
    have B2 : Blk ((w.alloc (Obj.cells #[Value.slice a F.length cap, Value.slice a' G.length cap', Value.func fn r c] 57)).alloc (Obj.cells #[Value.slice a F.length cap, Value.slice a' G.length cap'] 22)) (w.heap.size + 1) #[.slice a F.length cap, .slice a' G.length cap'] 22 := Blk.made_at _ _ _ _ (by simp)
    have B1 : Blk ((w.alloc (Obj.cells #[Value.slice a F.length cap, Value.slice a' G.length cap', Value.func fn r c] 57)).alloc (Obj.cells #[Value.slice a F.length cap, Value.slice a' G.length cap'] 22)) w.heap.size #[.slice a F.length cap, .slice a' G.length cap', .func fn r c] 57 := (Blk.made _ _ _).alloc _
    ((with_reducible refine (HCN.out _ _ _ B2 (HA.out.past (by (repeat (first | exact Below.refl _ _ | assumption | refine balloc ?_ _ | refine below_drewN ?_ _ | refine bstep (by assumption) ?_ | refine bstep (Past.prop _) ?_ | refine Below.setCell ?_ (by first | exact Nat.le_refl _ | (simp; done) | (simp; omega)) _)))) (HA'.out.past (by (repeat (first | exact Below.refl _ _ | assumption | refine balloc ?_ _ | refine below_drewN ?_ _ | refine bstep (by assumption) ?_ | refine bstep (Past.prop _) ?_ | refine Below.setCell ?_ (by first | exact Nat.le_refl _ | (simp; done) | (simp; omega)) _))))).mono ?_); rintro e w1 ⟨rfl, hb1⟩)
    have hB : Below w.heap.size w w1 := by (repeat (first | exact Below.refl _ _ | assumption | refine balloc ?_ _ | refine below_drewN ?_ _ | refine bstep (by assumption) ?_ | refine bstep (Past.prop _) ?_ | refine Below.setCell ?_ (by first | exact Nat.le_refl _ | (simp; done) | (simp; omega)) _))
    have q1 := B1.past hb1
    clear hb1 B1 B2
    have p0 := q1.cell 0; have p1 := q1.cell 1; have p2 := q1.cell 2; have pf := q1.free; have pz := q1.lt
    simp at p0 p1 p2
    have HB := hidE hB
    clear hB
    go_wp2_with fail
    ((with_reducible refine (HC2.out _ HB.out).mono ?_); rintro e w2 ⟨v2, rfl, hv2, hb2⟩)
    go_wp2
    go_ret2
    exact ⟨_, rfl, hv2, bstep hb2 HB.out⟩

set_option maxRecDepth 100000 in
theorem csub_c (F G : List Sg) (a a' : Option Addr) (cap cap' : Nat) (w : World) (hF : F.length ≤ cap) (hc : cap ≤ 9223372036854775807) (hG : G.length ≤ cap') (hc' : cap' ≤ 9223372036854775807) (hl : F.length + G.length ≤ 999999990) (hA : ArgS w a F) (hA' : ArgS w a' G) :
    Calls Try.prog 12 #[.slice a F.length cap, .slice a' G.length cap'] w (OfIs w (doS 1 F G).1 (doS 1 F G).2) := by
  have HK := hidE (checked_c 1 F G a a' cap cap' (.func 30) #[] #[] w hl hA hA' (fun w' hb h1 h2 => comb_sub F G a a' cap cap' w' hF hc hG hc' (by omega) (hA.past hb) (hA'.past hb) h1 h2))
  clear hA hA'
  go_enter Try.func12, Try.ntmps12
  go_wp2_with fail
  ((with_reducible refine (HK.out).mono ?_); rintro e w2 ⟨v2, rfl, hv2, hb2⟩)
  go_wp2
  go_ret2
  exact ⟨_, rfl, hv2, hb2⟩

set_option maxRecDepth 100000 in
theorem cmn_c (F G : List Sg) (a a' : Option Addr) (cap cap' : Nat) (w : World) (hF : F.length ≤ cap) (hc : cap ≤ 9223372036854775807) (hG : G.length ≤ cap') (hc' : cap' ≤ 9223372036854775807) (hl : F.length + G.length ≤ 999999990) (hA : ArgS w a F) (hA' : ArgS w a' G) :
    Calls Try.prog 14 #[.slice a F.length cap, .slice a' G.length cap'] w (OfIs w (doS 2 F G).1 (doS 2 F G).2) := by
  have hb0 : Below w.heap.size w (w.alloc (.cells #[.func (.func 35) #[] #[]] 64)) := (Below.refl _ _).alloc (Nat.le_refl _) _
  have hq : Blk (w.alloc (.cells #[.func (.func 35) #[] #[]] 64)) w.heap.size #[.func (.func 35) #[] #[]] 64 := Blk.made _ _ _
  have HK := hidE (checked_c 2 F G a a' cap cap' (.func 55) #[] #[.pointer (some ⟨w.heap.size, 0, none⟩)] _ hl (hA.past hb0) (hA'.past hb0)
    (fun w' hb h1 h2 => comb_mn F G a a' cap cap' w' w.heap.size ((hq.past hb).cell 0) (hq.past hb).lt hF hc hG hc' (by omega) ((hA.past hb0).past hb) ((hA'.past hb0).past hb) h1 h2))
  have HB0 := hidE hb0
  clear hA hA' hq hb0
  go_enter Try.func14, Try.ntmps14
  go_wp2_with fail
  ((with_reducible refine (always_mn _).mono ?_); rintro e w1 ⟨rfl, rfl⟩)
  go_wp2_with fail
  ((with_reducible refine (HK.out).mono ?_); rintro e w2 ⟨v2, rfl, hv2, hb2⟩)
  go_wp2
  go_ret2
  exact ⟨_, rfl, hv2, bstep hb2 HB0.out⟩
set_option maxRecDepth 100000 in
theorem cmx_c (F G : List Sg) (a a' : Option Addr) (cap cap' : Nat) (w : World) (hF : F.length ≤ cap) (hc : cap ≤ 9223372036854775807) (hG : G.length ≤ cap') (hc' : cap' ≤ 9223372036854775807) (hl : F.length + G.length ≤ 999999990) (hA : ArgS w a F) (hA' : ArgS w a' G) :
    Calls Try.prog 15 #[.slice a F.length cap, .slice a' G.length cap'] w (OfIs w (doS 3 F G).1 (doS 3 F G).2) := by
  have hb0 : Below w.heap.size w (w.alloc (.cells #[.func (.func 36) #[] #[]] 64)) := (Below.refl _ _).alloc (Nat.le_refl _) _
  have hq : Blk (w.alloc (.cells #[.func (.func 36) #[] #[]] 64)) w.heap.size #[.func (.func 36) #[] #[]] 64 := Blk.made _ _ _
  have HK := hidE (checked_c 3 F G a a' cap cap' (.func 55) #[] #[.pointer (some ⟨w.heap.size, 0, none⟩)] _ hl (hA.past hb0) (hA'.past hb0)
    (fun w' hb h1 h2 => comb_mx F G a a' cap cap' w' w.heap.size ((hq.past hb).cell 0) (hq.past hb).lt hF hc hG hc' (by omega) ((hA.past hb0).past hb) ((hA'.past hb0).past hb) h1 h2))
  have HB0 := hidE hb0
  clear hA hA' hq hb0
  go_enter Try.func15, Try.ntmps15
  go_wp2_with fail
  ((with_reducible refine (always_mx _).mono ?_); rintro e w1 ⟨rfl, rfl⟩)
  go_wp2_with fail
  ((with_reducible refine (HK.out).mono ?_); rintro e w2 ⟨v2, rfl, hv2, hb2⟩)
  go_wp2
  go_ret2
  exact ⟨_, rfl, hv2, bstep hb2 HB0.out⟩
end Go.Proofs.Ytgbgnpdfjoeonaa

namespace Go.Proofs.Ytgbgnpdfjoeonaa
open Go.ChangeShapes Go.WideShapes Go.ChangeAt Go.RowKit
attribute [local irreducible] Go.Calls

theorem doS_may {k : Int} {F G : List Sg} (h : (doS k F G).2 = 0) : mayB (doS k F G).1 = true := by
  unfold doS at h ⊢
  split
  · rename_i h1; rw [if_pos h1] at h; exact absurd h (by decide)
  · rename_i h1
    rw [if_neg h1] at h
    split
    · rename_i h2
      obtain ⟨a, b⟩ : mayB F = true ∧ mayB G = true := by simpa using h1
      exact mayB_iff.2 (opL_spec (mayB_iff.1 a) (mayB_iff.1 b) h2).1
    · rename_i h2; rw [if_neg h2] at h; exact absurd h (by decide)
theorem boxS_may (x y : Int) (v : Int × Int) : mayB (boxS x y v).1 = true := by
  unfold boxS
  split
  · rfl
  · rename_i hxy
    split
    · rename_i h
      obtain ⟨h1, h2⟩ : okS (x, v) = true ∧ okS (y, (0, 0)) = true := by simpa using h
      exact mayB_iff.2 (boxL_of (by omega) h1 h2).1
    · rfl

set_option maxRecDepth 100000 in
set_option maxHeartbeats 1000000 in
theorem crange_c (F : List Sg) (x y m c : Int) (a : Option Addr) (cap : Nat) (w : World) (hF : F.length ≤ cap) (hc : cap ≤ 9223372036854775807) (hl : F.length ≤ 999999980) (hA : ArgS w a F) :
    Calls Try.prog 19 #[.slice a F.length cap, .int .i64 x, .int .i64 y, V m c] w (OfIs w (rangeS F x y (m, c)).1 (rangeS F x y (m, c)).2) := by
  have HA := hidE hA
  have HCN := hidE (fun w p t h hA => canon_one F p a cap 1 t w (by omega) h hA)
  have HBX := hidE (fun w => box_c x y m c w)
  have HBM := hidE (boxS_may x y (m, c))
  have HBL := hidE (boxS_len x y (m, c))
  have HCB := hidE (fun (G : List Sg) a' cap' w' hG hc' hl hA hA' h1 h2 => comb_plus F G a a' cap cap' w' hF hc hG hc' hl hA hA' h1 h2)
  clear hA
  have B1 : Blk ((w.alloc (Obj.cells #[Value.int IntKind.i64 m, Value.int IntKind.i64 c] 40)).alloc (Obj.cells #[Value.slice a F.length cap] 22)) (w.heap.size + 1) #[.slice a F.length cap] 22 := Blk.made_at _ _ _ _ (by simp)
  have BV : Blk ((w.alloc (Obj.cells #[Value.int IntKind.i64 m, Value.int IntKind.i64 c] 40)).alloc (Obj.cells #[Value.slice a F.length cap] 22)) w.heap.size #[.int .i64 m, .int .i64 c] 40 := (Blk.made _ _ _).alloc _
  have HB1 := hidE B1; have HBV := hidE BV
  clear B1 BV
  cases hm : mayB F
  · have HE := hidE (show rangeS F x y (m, c) = ([], 5) by unfold rangeS; rw [if_pos hm])
    rw [HE.out]
    rw [hm] at HCN
    go_enter Try.func19, Try.ntmps19
    go_wp2_with fail
    ((with_reducible refine (HCN.out _ _ _ HB1.out (HA.out.past (by (repeat (first | exact Below.refl _ _ | assumption | refine balloc ?_ _ | refine below_drewN ?_ _ | refine bstep (by assumption) ?_ | refine bstep (Past.prop _) ?_ | refine Below.setCell ?_ (by first | exact Nat.le_refl _ | (simp; done) | (simp; omega)) _))))).mono ?_); rintro e w1 ⟨rfl, hb1⟩)
    have hB : Below w.heap.size w w1 := by (repeat (first | exact Below.refl _ _ | assumption | refine balloc ?_ _ | refine below_drewN ?_ _ | refine bstep (by assumption) ?_ | refine bstep (Past.prop _) ?_ | refine Below.setCell ?_ (by first | exact Nat.le_refl _ | (simp; done) | (simp; omega)) _))
    clear hb1
    go_wp2
    go_ret2
    exact ⟨_, rfl, sliS_nil _, hB⟩
  · have HE := hidE (show rangeS F x y (m, c) = if (boxS x y (m, c)).2 ≠ 0 then ([], (boxS x y (m, c)).2) else doS 0 F (boxS x y (m, c)).1 by unfold rangeS; rw [if_neg (by rw [hm]; decide)])
    rw [hm] at HCN
    have HM := hidE hm
    clear hm
    generalize boxS x y (m, c) = B at *
    generalize rangeS F x y (m, c) = D at *
    by_cases hq : B.2 = 0
    · have hd : (B.2 != 0) = false := by rw [bne_eq_false_iff_eq]; exact hq
      have HD := hidE (show D = doS 0 F B.1 by rw [HE.out, if_neg (by simpa using hq)])
      clear hq HE
      rw [HD.out]
      go_enter Try.func19, Try.ntmps19
      go_wp2_with fail
      ((with_reducible refine (HCN.out _ _ _ HB1.out (HA.out.past (by (repeat (first | exact Below.refl _ _ | assumption | refine balloc ?_ _ | refine below_drewN ?_ _ | refine bstep (by assumption) ?_ | refine bstep (Past.prop _) ?_ | refine Below.setCell ?_ (by first | exact Nat.le_refl _ | (simp; done) | (simp; omega)) _))))).mono ?_); rintro e w1 ⟨rfl, hb1⟩)
      have hB : Below w.heap.size w w1 := by (repeat (first | exact Below.refl _ _ | assumption | refine balloc ?_ _ | refine below_drewN ?_ _ | refine bstep (by assumption) ?_ | refine bstep (Past.prop _) ?_ | refine Below.setCell ?_ (by first | exact Nat.le_refl _ | (simp; done) | (simp; omega)) _))
      have q1 := HBV.out.past hb1
      have HB := hidE hB
      clear hb1 hB
      have p0 := q1.cell 0; have p1 := q1.cell 1; have pf := q1.free; have pz := q1.lt
      simp at p0 p1
      go_wp2_with fail
      ((with_reducible refine (HBX.out _).mono ?_); rintro e w2 ⟨v2, rfl, hv2, hb2⟩)
      obtain ⟨a2, c2, rfl, h1, h2, hA2⟩ := hv2
      have HB2 := hidE (bstep hb2 HB.out)
      have HK := hidE (HCB.out B.1 a2 c2 w2 h1 h2 (by have := HBL.out; omega) (HA.out.past HB2.out) hA2 HM.out HBM.out)
      clear hb2 hA2 p0 p1 pf pz q1 h1 h2
      go_wp2_with fail
      ((with_reducible refine (HK.out).mono ?_); rintro e w3 ⟨v3, rfl, hv3, hb3⟩)
      go_wp2
      go_ret2
      exact ⟨_, rfl, hv3, bstep hb3 HB2.out⟩
    · have hd : (B.2 != 0) = true := bne_iff_ne.2 hq
      have HD := hidE (show D = ([], B.2) by rw [HE.out, if_pos (by simpa using hq)])
      clear hq HE
      rw [HD.out]
      go_enter Try.func19, Try.ntmps19
      go_wp2_with fail
      ((with_reducible refine (HCN.out _ _ _ HB1.out (HA.out.past (by (repeat (first | exact Below.refl _ _ | assumption | refine balloc ?_ _ | refine below_drewN ?_ _ | refine bstep (by assumption) ?_ | refine bstep (Past.prop _) ?_ | refine Below.setCell ?_ (by first | exact Nat.le_refl _ | (simp; done) | (simp; omega)) _))))).mono ?_); rintro e w1 ⟨rfl, hb1⟩)
      have hB : Below w.heap.size w w1 := by (repeat (first | exact Below.refl _ _ | assumption | refine balloc ?_ _ | refine below_drewN ?_ _ | refine bstep (by assumption) ?_ | refine bstep (Past.prop _) ?_ | refine Below.setCell ?_ (by first | exact Nat.le_refl _ | (simp; done) | (simp; omega)) _))
      have q1 := HBV.out.past hb1
      have HB := hidE hB
      clear hb1 hB
      have p0 := q1.cell 0; have p1 := q1.cell 1; have pf := q1.free; have pz := q1.lt
      simp at p0 p1
      go_wp2_with fail
      ((with_reducible refine (HBX.out _).mono ?_); rintro e w2 ⟨v2, rfl, hv2, hb2⟩)
      have HB2 := hidE (bstep hb2 HB.out)
      clear hb2
      go_wp2
      go_ret2
      exact ⟨_, rfl, sliS_nil _, HB2.out⟩

/-- A slice of slices, each with its capacity. -/
def ArgQ (w : World) (a : Option Addr) (L : List (List Sg)) : Prop := 0 < L.length → ∃ b off, a = some ⟨b, off, none⟩ ∧ b < w.heap.size ∧ ∀ i, i < L.length → ∃ v, w.cell? ⟨b, off + i, none⟩ = some v ∧ SliS w v (L.getD i [])
theorem ArgQ.past {w w' : World} {a : Option Addr} {L : List (List Sg)} (h : ArgQ w a L) (hb : Below w.heap.size w w') : ArgQ w' a L := fun hl => by
  obtain ⟨b, off, e, h1, h2⟩ := h hl
  refine ⟨b, off, e, Nat.lt_of_lt_of_le h1 hb.size, fun i hi => ?_⟩
  obtain ⟨v, h3, h4⟩ := h2 i hi
  exact ⟨v, (hb.cell (p := ⟨b, _, none⟩) h1).trans h3, h4.past hb⟩
theorem ArgQ.row {w : World} {a : Option Addr} {L : List (List Sg)} (h : ArgQ w a L) : ArgR w a L := fun hl => by
  obtain ⟨b, off, e, h1, h2⟩ := h hl
  refine ⟨b, off, e, h1, fun i hi => ?_⟩
  obtain ⟨v, h3, a', c, rfl, _, _, h4⟩ := h2 i hi
  exact ⟨a', c, h3, h4⟩

set_option maxRecDepth 100000 in
set_option maxHeartbeats 2000000 in
theorem cadd_c (L : List (List Sg)) (a : Option Addr) (cap : Nat) (w : World) (hn : L.length ≤ 999999990) (hl : lenR L ≤ 999999990) (hA : ArgQ w a L) :
    Calls Try.prog 10 #[.slice a L.length cap] w (OfIs w (sumS L).1 (sumS L).2) := by
  have HA := hidE hA
  have HCN := hidE (canon_c L a cap w hn hl hA.row)
  clear hA
  cases hm : L.all mayB
  · have HE := hidE (show sumS L = ([], 5) by unfold sumS; rw [if_neg (by rw [hm]; decide)])
    rw [hm] at HCN
    rw [HE.out]
    go_enter Try.func10, Try.ntmps10
    go_wp2_with fail
    ((with_reducible refine (HCN.out).mono ?_); rintro e w1 ⟨rfl, hb1⟩)
    go_wp2
    go_ret2
    exact ⟨_, rfl, sliS_nil _, hb1⟩
  · have HE := hidE (show sumS L = sumE L by unfold sumS; rw [if_pos hm])
    have HM := hidE (fun i (hi : i < L.length) => show mayB (L.getD i []) = true from by
      rw [getD_get _ _ _ hi]; exact List.all_eq_true.1 hm _ (List.getElem_mem hi))
    rw [hm] at HCN
    rw [HE.out]
    clear hm HE
    go_enter Try.func10, Try.ntmps10
    go_wp2_with fail
    ((with_reducible refine (HCN.out).mono ?_); rintro e w1 ⟨rfl, hb1⟩)
    have HB1 := hidE hb1
    clear hb1 HCN
    go_wp2_with fail
    go_loopg [4, 13, 6, 7] L.length (fun gh vf vi _ _ wr2 => ∃ (n : Nat) (v : Value), v = vf ∧ vi = .int .i64 n ∧ n ≤ L.length ∧ L.length - n ≤ gh ∧ (sumE (L.take n)).2 = 0 ∧ mayB (sumE (L.take n)).1 = true ∧ (sumE (L.take n)).1.length ≤ lenR (L.take n) ∧ SliS wr2 v (sumE (L.take n)).1 ∧ Below w.heap.size w wr2)
    case atStart => exact ⟨0, .slice none 0 0, rfl, rfl, by omega, by omega, rfl, rfl, by simp [sumE], sliS_nil _, HB1.out⟩
    case round =>
      obtain ⟨n, v, rfl, rfl, hnl, hg2, h0, hmay, hlen, hv, hb2⟩ := hrel
      have HB2 := hidE hb2; have H0 := hidE h0
      by_cases hlt : n < L.length
      · obtain ⟨b, off, rfl, hb, hc⟩ := (HA.out.past hb2) (by omega)
        obtain ⟨vi, d0, ai, ci, rfl, hi1, hi2, hAi⟩ := hc n hlt
        obtain ⟨a1, c1, rfl, hv1, hv2, hA1⟩ := hv
        have HST := hidE (sumE_step hlt h0)
        have HBD := hidE (fun h => sumE_bad (L := L) (n := n + 1) h)
        have hls := lenR_step hlt
        have hlt2 := lenR_take L (n + 1)
        have hmi := HM.out n hlt
        have HDL := hidE (doS_len 0 (sumE (L.take n)).1 (L.getD n []))
        have HDE := hidE (fun h => doS_err (k := 0) (F := (sumE (L.take n)).1) (G := L.getD n []) h)
        have HDM := hidE (fun h => doS_may (k := 0) (F := (sumE (L.take n)).1) (G := L.getD n []) h)
        have HDO := hidE (comb_plus (sumE (L.take n)).1 (L.getD n []) a1 ai c1 ci wr hv1 hv2 hi1 hi2 (by omega) hA1 hAi hmay hmi)
        rw [← HST.out] at HDL HDE HDO HDM
        clear hc hAi hA1 hb2 h0 hmay hmi hi1 hi2 hv1 hv2
        generalize (sumE (L.take n)).1 = f at *
        generalize L.getD n [] = G at *
        generalize hqq : sumE (L.take (n + 1)) = q at *
        have HQQ := hidE hqq
        clear hqq
        by_cases hq : q.2 = 0
        · have hd : (q.2 != 0) = false := by rw [bne_eq_false_iff_eq]; exact hq
          have HQ := hidE hq
          have HQM := hidE (HDM.out hq)
          clear hq HBD HDE HDM
          go_wp2_with fail
          ((with_reducible refine (HDO.out).mono ?_); rintro e w3 ⟨v3, rfl, hv3, hb3⟩)
          have o1 := bstep hb3 HB2.out
          clear hb3 d0
          go_wp2
          go_roundg (L.length - (n + 1))
          case measure => omega
          case rel => exact ⟨n + 1, v3, rfl, by go_num, by omega, Nat.le_refl _, by rw [HQQ.out]; exact HQ.out, by rw [HQQ.out]; exact HQM.out, by rw [HQQ.out]; have := HDL.out; omega, by rw [HQQ.out]; exact hv3, o1⟩
        · have hd : (q.2 != 0) = true := bne_iff_ne.2 hq
          have HD := hidE (HBD.out hq)
          have HQ1 := hidE (HDE.out hq)
          clear hq HBD HDE HDM
          go_wp2_with fail
          ((with_reducible refine (HDO.out).mono ?_); rintro e w3 ⟨v3, rfl, hv3, hb3⟩)
          have o1 := bstep hb3 HB2.out
          clear hb3 d0
          go_wp2
          go_ret2
          rw [HD.out, HQ1.out]
          exact ⟨_, rfl, sliS_nil _, o1⟩
      · have hn' : n = L.length := by omega
        subst hn'
        have h0' := H0.out
        rw [List.take_length] at h0' hv
        have HH := hidE h0'; have HV2 := hidE hv
        clear h0' hv h0 H0 hlen hb2 hmay
        go_wp2
        go_ret2
        rw [HH.out]
        exact ⟨_, rfl, HV2.out, HB2.out⟩
end Go.Proofs.Ytgbgnpdfjoeonaa

namespace Go.Proofs.Ytgbgnpdfjoeonaa
open Go.ChangeShapes Go.WideShapes Go.ChangeAt Go.RowKit Go.Shelf
attribute [local irreducible] Go.Calls
attribute [local go_sem] Oper.semAt_some

theorem run_store_nilF {P : Program} {w : World} {a : Addr} {m : Mode} : (store a .nilFunc m).run P w = stored P w a .nilFunc m := run_store P w a _ m rfl
attribute [local go_sem] run_store_nilF
abbrev M3 (r : Int × Bool × Int) : Value := .tuple #[.int .i64 r.1, .bool r.2.1, .int .i64 r.2.2]
/-- Between two rounds. -/
def LeI (x : Int) (w : World) (pre : List Tg) (W : World) : Prop :=
  Below w.heap.size w W ∧ Blk W w.heap.size #[.int .i64 x] 2 ∧ Blk W (w.heap.size + 1) #[.int .i64 0] 2 ∧ Blk W (w.heap.size + 1 + 1) #[.bool false] 4 ∧ Blk W (w.heap.size + 1 + 1 + 1) #[.int .i64 0] 25 ∧ ∀ q ∈ pre, cndLE x q = false
/-- A round has left. -/
def LeX (F G : List Sg) (x : Int) (w : World) (c : Code) (W : World) : Prop :=
  c = .ret ∧ Below w.heap.size w W ∧ Blk W (w.heap.size + 1) #[.int .i64 (leS F G x).1] 2 ∧ Blk W (w.heap.size + 1 + 1) #[.bool (leS F G x).2.1] 4 ∧ Blk W (w.heap.size + 1 + 1 + 1) #[.int .i64 (leS F G x).2.2] 25
theorem leI_below {x : Int} {w : World} {pre : List Tg} {A B : World} {n : Nat} (hn : w.heap.size + 1 + 1 + 1 < n) (h : LeI x w pre A) (hb : Below n A B) : LeI x w pre B := by
  obtain ⟨h1, h2, h3, h4, h5, h6⟩ := h
  exact ⟨h1.trans (hb.mono (by omega)), h2.below hb (by omega), h3.below hb (by omega), h4.below hb (by omega), h5.below hb (by omega), h6⟩
theorem leX_below {F G : List Sg} {x : Int} {w : World} {c : Code} {A B : World} {n : Nat} (hn : w.heap.size + 1 + 1 + 1 < n) (h : LeX F G x w c A) (hb : Below n A B) : LeX F G x w c B := by
  obtain ⟨h1, h2, h3, h4, h5⟩ := h
  exact ⟨h1, h2.trans (hb.mono (by omega)), h3.below hb (by omega), h4.below hb (by omega), h5.below hb (by omega)⟩

set_option maxRecDepth 100000 in
set_option maxHeartbeats 4000000 in
theorem cle_c (F G : List Sg) (x : Int) (a a' : Option Addr) (cap cap' : Nat) (w : World) (hF : F.length ≤ cap) (hc : cap ≤ 9223372036854775807) (hG : G.length ≤ cap') (hc' : cap' ≤ 9223372036854775807) (hl : F.length + G.length ≤ 999999980) (hA : ArgS w a F) (hA' : ArgS w a' G) :
    Calls Try.prog 16 #[.slice a F.length cap, .slice a' G.length cap', .int .i64 x] w fun e w' => e = .returned (M3 (leS F G x)) ∧ Below w.heap.size w w' := by
  have HA := hidE hA; have HA' := hidE hA'
  have HCN := hidE (fun w p t h hA hA' => canon_two F G p a a' cap cap' 2 t w (by omega) h hA hA')
  have HATF := hidE (fun w hA => at_c F a cap x w (by omega) hA)
  have HATG := hidE (fun w hA => at_c G a' cap' x w (by omega) hA)
  have HSEQ := hidE (fun w' hb => tog_c F G a a' cap cap' .nilFunc w w' hF hc hG hc' (by omega) hA hA' hb)
  clear hA hA' hF hc hG hc'
  obtain ⟨wS, hwS⟩ : ∃ wS, wS = ((((w.alloc (Obj.cells #[Value.int IntKind.i64 x] 2)).alloc (Obj.cells #[Value.int IntKind.i64 0] 2)).alloc (Obj.cells #[Value.bool false] 4)).alloc (Obj.cells #[Value.int IntKind.i64 0] 25)).alloc (Obj.cells #[Value.slice a F.length cap, Value.slice a' G.length cap'] 22) := ⟨_, rfl⟩
  have BS : Blk wS (w.heap.size + 1 + 1 + 1 + 1) #[.slice a F.length cap, .slice a' G.length cap'] 22 := hwS ▸ Blk.made_at _ _ _ _ (by simp)
  have B0 : Blk wS w.heap.size #[.int .i64 x] 2 := hwS ▸ ((((Blk.made _ _ _).alloc _).alloc _).alloc _).alloc _
  have B1 : Blk wS (w.heap.size + 1) #[.int .i64 0] 2 := hwS ▸ (((Blk.made_at _ _ _ _ (by simp)).alloc _).alloc _).alloc _
  have B2 : Blk wS (w.heap.size + 1 + 1) #[.bool false] 4 := hwS ▸ ((Blk.made_at _ _ _ _ (by simp)).alloc _).alloc _
  have B3 : Blk wS (w.heap.size + 1 + 1 + 1) #[.int .i64 0] 25 := hwS ▸ (Blk.made_at _ _ _ _ (by simp)).alloc _
  have hBS : Below w.heap.size w wS := by rw [hwS]; (repeat (first | exact Below.refl _ _ | assumption | refine balloc ?_ _ | refine below_drewN ?_ _ | refine bstep (by assumption) ?_ | refine bstep (Past.prop _) ?_ | refine Below.setCell ?_ (by first | exact Nat.le_refl _ | (simp; done) | (simp; omega)) _))
  have HBS := hidE hBS; have HB0 := hidE B0; have HB1 := hidE B1; have HB2 := hidE B2; have HB3 := hidE B3; have HSS := hidE BS
  clear hBS B0 B1 B2 B3 BS
  refine (callsIn_wide (n := 0)).1 (callsIn_of_wp_marks Try.func16 rfl trivial ((wpIn_wide (n := 0)).2 ?_))
  simp only [Try.ntmps16, List.size_toArray, List.length_cons, List.length_nil, Nat.reduceAdd, Nat.reduceSub, Array.replicate_succ, Array.replicate_zero, List.push_toArray, List.append_toArray, List.nil_append, List.cons_append]
  cases hm : (mayB F && mayB G)
  · have HE := hidE (leS_formL (x := x) hm)
    rw [hm] at HCN
    clear HSEQ HATF HATG hm
    go_wp2_with fail
    rw [← hwS]
    ((with_reducible refine (HCN.out _ _ _ HSS.out (HA.out.past HBS.out) (HA'.out.past HBS.out)).mono ?_); rintro e w1 ⟨rfl, hb1⟩)
    have q1 := HB1.out.past hb1; have q2 := HB2.out.past hb1; have q3 := HB3.out.past hb1
    have hB : Below w.heap.size w w1 := bstep hb1 HBS.out
    have p1 := q1.cell 0; have p2 := q2.cell 0; have p3 := q3.cell 0; have f1 := q1.free; have f2 := q2.free; have f3 := q3.free; have z1 := q1.lt; have z2 := q2.lt; have z3 := q3.lt
    simp at p1 p2 p3
    have Q3 := ((q3.other (b := w.heap.size + 1) (i := 0) (by omega) (.int .i64 0)).other (b := w.heap.size + 1 + 1) (i := 0) (by omega) (.bool false)).set 0 (.int .i64 5)
    have Q2 := ((q2.other (b := w.heap.size + 1) (i := 0) (by omega) (.int .i64 0)).set 0 (.bool false)).other (b := w.heap.size + 1 + 1 + 1) (i := 0) (by omega) (.int .i64 5)
    have Q1 := ((q1.set 0 (.int .i64 0)).other (b := w.heap.size + 1 + 1) (i := 0) (by omega) (.bool false)).other (b := w.heap.size + 1 + 1 + 1) (i := 0) (by omega) (.int .i64 5)
    have r1 := Q1.cell 0; have r2 := Q2.cell 0; have r3 := Q3.cell 0
    simp at r1 r2 r3
    have R1 := hidE r1; have R2 := hidE r2; have R3 := hidE r3
    clear hb1 q1 q2 q3 Q1 Q2 Q3 r1 r2 r3
    go_wp2
    refine ⟨M3 (0, false, 5), by simp [results, Try.results16, go_sem, R1.out, R2.out, R3.out], by rw [HE.out], ?_⟩
    (repeat (first | exact Below.refl _ _ | assumption | refine balloc ?_ _ | refine below_drewN ?_ _ | refine bstep (by assumption) ?_ | refine bstep (Past.prop _) ?_ | refine Below.setCell ?_ (by first | exact Nat.le_refl _ | (simp; done) | (simp; omega)) _))
  · obtain ⟨h1, h2⟩ : mayB F = true ∧ mayB G = true := by simpa using hm
    rw [hm] at HCN
    clear hm
    go_wp2_with fail
    rw [← hwS]
    ((with_reducible refine (HCN.out _ _ _ HSS.out (HA.out.past HBS.out) (HA'.out.past HBS.out)).mono ?_); rintro e w1 ⟨rfl, hb1⟩)
    have q0 := HB0.out.past hb1; have q1 := HB1.out.past hb1; have q2 := HB2.out.past hb1; have q3 := HB3.out.past hb1
    have hB : Below w.heap.size w w1 := bstep hb1 HBS.out
    have HB := hidE hB
    have p0 := q0.cell 0; have z0 := q0.lt; have z3 := q3.lt
    simp at p0
    have Q0 := hidE q0; have Q1 := hidE q1; have Q2 := hidE q2; have Q3 := hidE q3
    have HAF := hidE (HA.out.past HB.out); have HAG := hidE (HA'.out.past HB.out)
    clear hb1 q1 q2 q3 hB HB0 HB1 HB2 HB3 HSS HA HA'
    have HV := hidE (fun w => le (vat F x).1 (vat F x).2 (vat G x).1 (vat G x).2 w)
    cases hle : leB (vat F x).1 (vat F x).2 (vat G x).1 (vat G x).2
    · have HE := hidE (le_first h1 h2 hle)
      rw [hle] at HV
      clear HSEQ h1 h2 hle
      generalize vat F x = y at *
      generalize vat G x = z at *
      go_wp2_with fail
      refine wp_region_past_lit (by kernel_rfl) (by kernel_rfl) ?_
      have hcp := Past.cell (W := w1)
      repeat (go_big_quiet_step (first | (go_at_call 38; first | exact Past.call _ (HATF.out _ (HAF.out.past (Past.prop _))) | exact Past.call _ (HATG.out _ (HAG.out.past (Past.prop _)))) | (go_at_call 37; exact Past.call _ (HV.out _))))
      refine wpQuiet_nil ?_
      rintro _ ⟨x', rfl⟩
      have o1 : Below w.heap.size w x'.1 := bstep x'.2 HB.out
      have q0 := Q0.out.past x'.2; have q1 := Q1.out.past x'.2; have q2 := Q2.out.past x'.2; have q3 := Q3.out.past x'.2
      clear hcp p0 z0 z3
      generalize x'.1 = w2 at *
      have p0 := q0.cell 0; have p1 := q1.cell 0; have p2 := q2.cell 0; have p3 := q3.cell 0; have f1 := q1.free; have f2 := q2.free; have f3 := q3.free; have z0 := q0.lt; have z1 := q1.lt; have z2 := q2.lt; have z3 := q3.lt
      simp at p0 p1 p2 p3
      have Q3 := ((q3.other (b := w.heap.size + 1) (i := 0) (by omega) (.int .i64 x)).other (b := w.heap.size + 1 + 1) (i := 0) (by omega) (.bool false)).set 0 (.int .i64 0)
      have Q2 := ((q2.other (b := w.heap.size + 1) (i := 0) (by omega) (.int .i64 x)).set 0 (.bool false)).other (b := w.heap.size + 1 + 1 + 1) (i := 0) (by omega) (.int .i64 0)
      have Q1 := ((q1.set 0 (.int .i64 x)).other (b := w.heap.size + 1 + 1) (i := 0) (by omega) (.bool false)).other (b := w.heap.size + 1 + 1 + 1) (i := 0) (by omega) (.int .i64 0)
      have r1 := Q1.cell 0; have r2 := Q2.cell 0; have r3 := Q3.cell 0
      simp at r1 r2 r3
      have R1 := hidE r1; have R2 := hidE r2; have R3 := hidE r3
      clear q0 q1 q2 q3 Q1 Q2 Q3 r1 r2 r3
      go_wp2
      refine ⟨M3 (x, false, 0), by simp [results, Try.results16, go_sem, R1.out, R2.out, R3.out], by rw [HE.out], ?_⟩
      (repeat (first | exact Below.refl _ _ | assumption | refine balloc ?_ _ | refine below_drewN ?_ _ | refine bstep (by assumption) ?_ | refine bstep (Past.prop _) ?_ | refine Below.setCell ?_ (by first | exact Nat.le_refl _ | (simp; done) | (simp; omega)) _))
    · have HHIT := hidE (fun pre p h3 h4 h5 => le_hit (pre := pre) (p := p) h1 h2 hle h3 h4 h5)
      have HNO := hidE (fun h => le_none h1 h2 hle h)
      rw [hle] at HV
      clear h1 h2 hle
      generalize vat F x = y at *
      generalize vat G x = z at *
      go_wp2_with fail
      refine wp_region_past_lit (by kernel_rfl) (by kernel_rfl) ?_
      have hcp := Past.cell (W := w1)
      repeat (go_big_quiet_step (first | (go_at_call 38; first | exact Past.call _ (HATF.out _ (HAF.out.past (Past.prop _))) | exact Past.call _ (HATG.out _ (HAG.out.past (Past.prop _)))) | (go_at_call 37; exact Past.call _ (HV.out _))))
      refine wpQuiet_nil ?_
      rintro _ ⟨x', rfl⟩
      have o1 : Below w.heap.size w x'.1 := bstep x'.2 HB.out
      have q0 := Q0.out.past x'.2; have q1 := Q1.out.past x'.2; have q2 := Q2.out.past x'.2; have q3 := Q3.out.past x'.2
      clear hcp p0 z0 z3
      generalize x'.1 = w2 at *
      clear HATF HATG HAF HAG HV HCN Q0 Q1 Q2 Q3
      have z3 := q3.lt
      go_wp2
      have HI0 : LeI x w [] (w2.alloc (Obj.cells #[Value.slice a F.length cap, Value.slice a' G.length cap', Value.nilFunc] 57)) := ⟨by (repeat (first | exact Below.refl _ _ | assumption | refine balloc ?_ _ | refine below_drewN ?_ _ | refine bstep (by assumption) ?_ | refine bstep (Past.prop _) ?_ | refine Below.setCell ?_ (by first | exact Nat.le_refl _ | (simp; done) | (simp; omega)) _)), q0.alloc _, q1.alloc _, q2.alloc _, q3.alloc _, fun q hq => by simp at hq⟩
      have HB5 : Below w.heap.size w (w2.alloc (Obj.cells #[Value.slice a F.length cap, Value.slice a' G.length cap', Value.nilFunc] 57)) := by (repeat (first | exact Below.refl _ _ | assumption | refine balloc ?_ _ | refine below_drewN ?_ _ | refine bstep (by assumption) ?_ | refine bstep (Past.prop _) ?_ | refine Below.setCell ?_ (by first | exact Nat.le_refl _ | (simp; done) | (simp; omega)) _))
      have HZ5 : w.heap.size + 1 + 1 + 1 < (w2.alloc (Obj.cells #[Value.slice a F.length cap, Value.slice a' G.length cap', Value.nilFunc] 57)).heap.size := by simp; omega
      clear q0 q1 q2 q3 o1
      generalize w2.alloc (Obj.cells #[Value.slice a F.length cap, Value.slice a' G.length cap', Value.nilFunc] 57) = W5 at *
      refine wp_rangeFunc_T (n₀ := w.heap.size) (S := togL F G) rfl (enters_of Try.func39 (by kernel_rfl) rfl) HB5.size (HSEQ.out _ HB5) (fun _ => rfl)
        (LeI x w) (fun c _ W => LeX F G x w c W)
        (fun s A B h hb => leI_below HZ5 h hb) (fun c s A B h hb => leX_below HZ5 h hb) HI0
        (fun p a1 W => ∃ (Bx : Nat) (u0 u1 u2 u3 u4 u9 u12 u13 u14 u15 u16 u17 u18 u19 u20 u21 u22 u23 u24 u25 u26 u27 u28 u29 u30 u31 u32 u33 u34 u35 u36 u37 u38 u39 u40 u41 u42 u43 u44 : Value), W5.heap.size ≤ Bx ∧ Blk W Bx #[.int .i64 p.2.1.1, .int .i64 p.2.1.2, .int .i64 p.2.2.1, .int .i64 p.2.2.2] 67 ∧ a1 = { tmps := #[u0, u1, u2, u3, u4, .pointer (some ⟨w.heap.size, 0, none⟩), .pointer (some ⟨w.heap.size + 1, 0, none⟩), .pointer (some ⟨w.heap.size + 1 + 1, 0, none⟩), .pointer (some ⟨w.heap.size + 1 + 1 + 1, 0, none⟩), u9, .int .i64 p.1, .pointer (some ⟨Bx, 0, none⟩), u12, u13, u14, u15, u16, u17, u18, u19, u20, u21, u22, u23, u24, u25, u26, u27, u28, u29, u30, u31, u32, u33, u34, u35, u36, u37, u38, u39, u40, u41, u42, u43, u44], defers := [] })
        ?hax ?assign ?body ?done ?stop
      case hax =>
        rintro p a1 A l r o ⟨Bx, u0, u1, u2, u3, u4, u9, u12, u13, u14, u15, u16, u17, u18, u19, u20, u21, u22, u23, u24, u25, u26, u27, u28, u29, u30, u31, u32, u33, u34, u35, u36, u37, u38, u39, u40, u41, u42, u43, u44, h1, h2, h3⟩ hlr
        exact ⟨Bx, _, _, _, _, _, _, _, _, _, _, _, _, _, _, _, _, _, _, _, _, _, _, _, _, _, _, _, _, _, _, _, _, _, _, _, _, _, _, _, h1, (World.putObj_heap_other (fun e => by subst e; rw [show A.heap[Bx]? = _ from h2] at hlr; cases hlr)).trans h2, h3⟩
      case assign =>
        intro l pre p W K hsz hi hK
        dsimp only [encT]
        gi_wp2
        exact hK _ _ (Outside.of_below ((Below.refl _ _).alloc (Nat.le_refl _) _) (by omega)) (leI_below HZ5 hi ((Below.refl _ _).alloc hsz _)) ⟨W.heap.size, _, _, _, _, _, _, _, _, _, _, _, _, _, _, _, _, _, _, _, _, _, _, _, _, _, _, _, _, _, _, _, _, _, _, _, _, _, _, _, by omega, Blk.made _ _ _, rfl⟩
      case body =>
        rintro l pre p a1 W hsz ⟨i1, i2, i3, i4, i5, i6⟩ ⟨Bx, u0, u1, u2, u3, u4, u9, u12, u13, u14, u15, u16, u17, u18, u19, u20, u21, u22, u23, u24, u25, u26, u27, u28, u29, u30, u31, u32, u33, u34, u35, u36, u37, u38, u39, u40, u41, u42, u43, u44, hBx, bX, rfl⟩ hpre
        clear HI0 HSEQ
        have c0 := i2.cell 0; have c1 := i3.cell 0; have c2 := i4.cell 0; have c3 := i5.cell 0; have f1 := i3.free; have f2 := i4.free; have f3 := i5.free
        have y0 := bX.cell 0; have y1 := bX.cell 1; have y2 := bX.cell 2; have y3 := bX.cell 3; have yz := bX.lt
        have t0 := i2.lt; have t1 := i3.lt; have t2 := i4.lt; have t3 := i5.lt
        simp at c0 c1 c2 c3 y0 y1 y2 y3
        by_cases hx : x < p.1
        · have hd : decide (x < p.1) = true := decide_eq_true hx
          have HLE := hidE (le p.2.1.1 p.2.1.2 p.2.2.1 p.2.2.2 W)
          have HCD := hidE (show cndLE x p = !(leB p.2.1.1 p.2.1.2 p.2.2.1 p.2.2.2) by unfold cndLE; rw [hd]; rfl)
          clear hx
          cases hb : leB p.2.1.1 p.2.1.2 p.2.2.1 p.2.2.2
          all_goals
            rw [hb] at HLE HCD
            gi_wp2_with fail
            refine ⟨trivial, rfl, (CallsIn.inRound l (callsIn_wide.2 HLE.out)).mono ?_⟩
            rintro e w3 ⟨rfl, hb3⟩
            have o3 : Outside w.heap.size W5.heap.size W w3 := Outside.of_below hb3 i1.size
          · have HD := hidE (HHIT.out pre p hpre i6 HCD.out)
            have q1 := i3.past hb3; have q2 := i4.past hb3; have q3 := i5.past hb3
            clear c0 c1 c2 c3 f1 f2 f3 y0 y1 y2 y3 yz t0 t1 t2 t3 hb3 bX
            have c1 := q1.cell 0; have c2 := q2.cell 0; have c3 := q3.cell 0; have f1 := q1.free; have f2 := q2.free; have f3 := q3.free; have t1 := q1.lt; have t2 := q2.lt; have t3 := q3.lt
            simp at c1 c2 c3
            gi_wp2
            have o4 : Outside w.heap.size W5.heap.size w3 _ := Outside.of_grown (grown_set w3 (w.heap.size + 1) 0 (.int .i64 p.1)) (by omega) (by omega) (by omega)
            have o5 : Outside w.heap.size W5.heap.size _ _ := Outside.of_grown (grown_set (w3.setCell ⟨w.heap.size + 1, 0, none⟩ (.int .i64 p.1)) (w.heap.size + 1 + 1) 0 (.bool false)) (by omega) (by omega) (by simp [World.setCell]; omega)
            have o6 : Outside w.heap.size W5.heap.size _ _ := Outside.of_grown (grown_set ((w3.setCell ⟨w.heap.size + 1, 0, none⟩ (.int .i64 p.1)).setCell ⟨w.heap.size + 1 + 1, 0, none⟩ (.bool false)) (w.heap.size + 1 + 1 + 1) 0 (.int .i64 0)) (by omega) (by omega) (by simp [World.setCell]; omega)
            have oo := ((o3.trans o4).trans o5).trans o6
            refine ⟨oo, rfl, i1.trans oo.below, ?_, ?_, ?_⟩
            · rw [HD.out]
              simpa using ((q1.set 0 (.int .i64 p.1)).other (b := w.heap.size + 1 + 1) (i := 0) (by omega) (.bool false)).other (b := w.heap.size + 1 + 1 + 1) (i := 0) (by omega) (.int .i64 0)
            · rw [HD.out]
              simpa using ((q2.other (b := w.heap.size + 1) (i := 0) (by omega) (.int .i64 p.1)).set 0 (.bool false)).other (b := w.heap.size + 1 + 1 + 1) (i := 0) (by omega) (.int .i64 0)
            · rw [HD.out]
              simpa using ((q3.other (b := w.heap.size + 1) (i := 0) (by omega) (.int .i64 p.1)).other (b := w.heap.size + 1 + 1) (i := 0) (by omega) (.bool false)).set 0 (.int .i64 0)
          · gi_wp2
            refine ⟨o3, leI_below (n := W5.heap.size) HZ5 ⟨i1, i2, i3, i4, i5, fun q hq => ?_⟩ (hb3.mono hsz)⟩
            rcases List.mem_append.1 hq with h | h
            · exact i6 q h
            · simp at h; subst h; exact HCD.out
        · have hd : decide (x < p.1) = false := decide_eq_false hx
          have HCD := hidE (show cndLE x p = false by unfold cndLE; rw [hd]; rfl)
          clear hx
          gi_wp2
          refine ⟨trivial, ?_⟩
          gi_wp2
          refine ⟨Outside.refl _ _ _, i1, i2, i3, i4, i5, fun q hq => ?_⟩
          rcases List.mem_append.1 hq with h | h
          · exact i6 q h
          · simp at h; subst h; exact HCD.out
      case done =>
        rintro D W hD ⟨i1, i2, i3, i4, i5, i6⟩ hK
        have HE := hidE (HNO.out i6)
        have hDz : D < W.heap.size := (Array.getElem?_eq_some_iff.1 hK).1
        have c1 := i3.cell 0; have c2 := i4.cell 0; have c3 := i5.cell 0; have f1 := i3.free; have f2 := i4.free; have f3 := i5.free
        have t1 := i3.lt; have t2 := i4.lt; have t3 := i5.lt
        simp at c1 c2 c3
        have hkf : (((W.setCell ⟨w.heap.size + 1, 0, none⟩ (.int .i64 0)).setCell ⟨w.heap.size + 1 + 1, 0, none⟩ (.bool true)).setCell ⟨w.heap.size + 1 + 1 + 1, 0, none⟩ (.int .i64 0)).heap[D]? = some (.deferred (some [])) :=
          (Below.heap_setCell _ _ _ _ (by simp; omega)).trans ((Below.heap_setCell _ _ _ _ (by simp; omega)).trans ((Below.heap_setCell _ _ _ _ (by simp; omega)).trans hK))
        have r1 := ((((i3.set 0 (.int .i64 0)).other (b := w.heap.size + 1 + 1) (i := 0) (by omega) (.bool true)).other (b := w.heap.size + 1 + 1 + 1) (i := 0) (by omega) (.int .i64 0)).put (b := D) (by omega) (.deferred none)).cell 0
        have r2 := ((((i4.other (b := w.heap.size + 1) (i := 0) (by omega) (.int .i64 0)).set 0 (.bool true)).other (b := w.heap.size + 1 + 1 + 1) (i := 0) (by omega) (.int .i64 0)).put (b := D) (by omega) (.deferred none)).cell 0
        have r3 := ((((i5.other (b := w.heap.size + 1) (i := 0) (by omega) (.int .i64 0)).other (b := w.heap.size + 1 + 1) (i := 0) (by omega) (.bool true)).set 0 (.int .i64 0)).put (b := D) (by omega) (.deferred none)).cell 0
        simp at r1 r2 r3
        have R1 := hidE r1; have R2 := hidE r2; have R3 := hidE r3; have HI1 := hidE i1; have HKF := hidE hkf
        clear HI0 HSEQ r1 r2 r3 i1 i2 i3 i4 i5 hkf hK
        go_wp2
        refine ⟨by simp, .inl ⟨_, _, rfl, run_takeDeferred HKF.out, ?_⟩⟩
        refine ⟨M3 (0, true, 0), by simp [results, Try.results16, go_sem, R1.out, R2.out, R3.out], by rw [HE.out], ?_⟩
        exact ((((HI1.out.setCell (p := ⟨w.heap.size + 1, 0, none⟩) (by simp) _).setCell (p := ⟨w.heap.size + 1 + 1, 0, none⟩) (by simp; omega) _).setCell (p := ⟨w.heap.size + 1 + 1 + 1, 0, none⟩) (by simp; omega) _)).trans (below_putObj _ _ _ (by omega))
      case stop =>
        rintro D c pre W hD hpre ⟨rfl, i1, i3, i4, i5⟩ hK
        have r1 := (i3.put (b := D) (by omega) (.deferred none)).cell 0
        have r2 := (i4.put (b := D) (by omega) (.deferred none)).cell 0
        have r3 := (i5.put (b := D) (by omega) (.deferred none)).cell 0
        simp at r1 r2 r3
        have R1 := hidE r1; have R2 := hidE r2; have R3 := hidE r3; have HI1 := hidE i1
        clear HI0 HSEQ r1 r2 r3 i1 i3 i4 i5
        go_wp2
        refine ⟨by simp, .inl ⟨_, _, rfl, run_takeDeferred hK, ?_⟩⟩
        refine ⟨M3 (leS F G x), by simp [results, Try.results16, go_sem, R1.out, R2.out, R3.out], rfl, ?_⟩
        exact HI1.out.trans (below_putObj _ _ _ (by omega))
end Go.Proofs.Ytgbgnpdfjoeonaa
