/- A range over a function: an iterator that keeps state of its own in cells, and the law for its caller. The caller's own variables lie below where the loop begins; the iterator's own, and the loop's book-keeping, at or beyond. Program-free. No conditions. A range over a function whose body keeps a block of its own, made in an earlier round (a slice that it appends to): an iterator's contract with that block named, and the law for its caller. Program-free. No conditions. The contract of the iterator (span.window).stretches: it hands on the stretches of the window, one after the other. No conditions but that the slice's cells read as integers, and sizes. The contract of (span.window).evaluate: an error, or each of the window's stretches is handed on. No conditions but that the slice's cells read as integers, sizes, and what the function that is handed the stretches keeps. The contracts of span.along, Sum, Low and High. No conditions but the lists' sizes, and that the slices' cells read as integers. The contracts of span.Low and High. No conditions but the lists' sizes, and that the slices' cells read as integers. The contract of span.Cut. No conditions but the list's size, and that the slice's cells read as integers. The contract of span.Shift. No conditions but the list's size, and that the slice's cells read as integers. -/
import Derived.RangeFuncRecord
import Derived.RangeFuncSeq
import Derived.Test.YthgenmejjflceaaKA
import Derived.Test.YthgenmejjflceaaKM
import Derived.OwnWalkIn
import Derived.Test.YthgenmejjflceaaKB
import Derived.RangeFuncCalls
import Derived.Shelf.Abstract
import Derived.Laws.MakeOwn
namespace Go.Proofs.Ythgenmejjflceaa
open Go.RowKit

/-- What a body keeps: whatever lies below n₀, and whatever lay at or beyond n₁. -/
structure Outside (n₀ n₁ : Nat) (W W' : World) : Prop where
  below : Below n₀ W W'
  beyond : ∀ k, n₁ ≤ k → k < W.heap.size → W'.heap[k]? = W.heap[k]?
theorem Outside.refl (n₀ n₁ : Nat) (W : World) : Outside n₀ n₁ W W := ⟨Below.refl _ _, fun _ _ _ => rfl⟩
theorem Outside.trans {n₀ n₁ : Nat} {A B C : World} (h : Outside n₀ n₁ A B) (k : Outside n₀ n₁ B C) : Outside n₀ n₁ A C :=
  ⟨h.below.trans k.below, fun i hi hl => (k.beyond i hi (Nat.lt_of_lt_of_le hl h.below.size)).trans (h.beyond i hi hl)⟩
theorem Outside.of_below {n₀ n₁ : Nat} {A B : World} (h : Below A.heap.size A B) (hn : n₀ ≤ A.heap.size) : Outside n₀ n₁ A B := ⟨h.mono hn, fun k _ hl => h.block k hl⟩
theorem Outside.weak {n₀ n₁ n₁' : Nat} {A B : World} (h : Outside n₀ n₁ A B) (hn : n₁ ≤ n₁') : Outside n₀ n₁' A B := ⟨h.below, fun k hk hl => h.beyond k (by omega) hl⟩
/-- A turn of a block of the caller's own. -/
theorem Outside.of_grown {n₀ n₁ p : Nat} {A B : World} (h : A.grownBy B (some p)) (h0 : n₀ ≤ p) (h1 : p < n₁) (h2 : n₀ ≤ A.heap.size) : Outside n₀ n₁ A B :=
  ⟨⟨h.os, h.tape, h.output, h.size, fun k hk => h.block k (by omega) (fun e => by cases e; omega)⟩, fun k hk hl => h.block k hl (fun e => by cases e; omega)⟩

/-- The contract of an iterator value: it hands on the list S, one after the other, unless a round says 'no more'; whatever the caller's invariants are that speak only of what lay ahead of the iterator's call. -/
def SeqT {α : Type} (P : Program) (gf : Nat) (rb lb : Array Value) (encs : α → Array Value) (n₀ : Nat) (S : List α) (w : World) : Prop :=
  ∀ (l : Nat) (J Jx : List α → World → Prop) (W : World), Below w.heap.size w W →
    (∀ s A B, J s A → Below W.heap.size A B → J s B) → (∀ s A B, Jx s A → Below W.heap.size A B → Jx s B) →
    (∀ pre x W1, J pre W1 → pre ++ [x] <+: S → YieldAt Fence.wide 0 P l (encs x) W1 fun e W' =>
      (e = .returned (.bool true) ∧ J (pre ++ [x]) W' ∧ Outside n₀ W.heap.size W1 W') ∨ (e = .returned (.bool false) ∧ Jx (pre ++ [x]) W')) →
    J [] W →
    Calls P gf (rb ++ #[.func (.yield l) #[] #[]] ++ lb) W fun e W' => (∃ v, e = .returned v) ∧ (J S W' ∨ ∃ pre, pre <+: S ∧ Jx pre W')

/-- How the body of a round may be left. -/
def postT {α : Type} (n₀ n₁ : Nat) (I : List α → World → Prop) (Ix : Code → List α → World → Prop) (xs : List α) (W : World) : Exit → Act → World → Prop
  | .normal, _, W' => Outside n₀ n₁ W W' ∧ I xs W'
  | .ret, _, W' => Outside n₀ n₁ W W' ∧ Ix .ret xs W'
  | .exit id, _, W' => Outside n₀ n₁ W W' ∧ Ix (.exit id) xs W'
  | .goto t, _, W' => Outside n₀ n₁ W W' ∧ Ix (.goto t) xs W'
  | .panic _, _, _ => False
  | .outgrown, _, _ => False

theorem below_putObj {B : Nat} (W : World) (l : Nat) (o : Obj) (h : B ≤ l) : Below B W (W.putObj l o) :=
  ⟨rfl, rfl, rfl, by simp, fun k hk => World.putObj_heap_other (by omega)⟩

theorem grown_putObj (W : World) (l : Nat) (o : Obj) : W.grownBy (W.putObj l o) (some l) :=
  ⟨rfl, rfl, rfl, by simp, fun k _ hk => World.putObj_heap_other (fun e => hk (by rw [e]))⟩
/-- The statement. -/
theorem wp_rangeFunc_T {α : Type} {P : Program} {g : Operand} {ps : Array Tmp} {assign body : Code} {Q : Exit → Act → World → Prop} {a : Act} {w : World}
    {gf : Nat} {rb lb : Array Value} (hg : a.eval g = .func (.func gf) rb lb) (eg : ∀ args w, (callFunc gf args).run P w = .ok (.enter gf args) w)
    {encs : α → Array Value} {n₀ : Nat} (hn₀ : n₀ ≤ w.heap.size) {S : List α} (hseq : SeqT P gf rb lb encs n₀ S w) (hps : ∀ x, (encs x).size = ps.size)
    (I : List α → World → Prop) (Ix : Code → List α → World → Prop) (hI : ∀ s A B, I s A → Below w.heap.size A B → I s B) (hIx : ∀ c s A B, Ix c s A → Below w.heap.size A B → Ix c s B) (h0 : I [] w)
    (Ax : α → Act → World → Prop) (hAx : ∀ x a' A l r o, Ax x a' A → A.heap[l]? = some (.loop r) → Ax x a' (A.putObj l o))
    (hassign : ∀ (l : Nat) (pre : List α) (x : α) (W : World) (K : Act → World → Prop), w.heap.size ≤ W.heap.size → I pre W → (∀ a' W', Outside n₀ w.heap.size W W' → I pre W' → Ax x a' W' → K a' W') →
      assign.wpIn (Fence.wide.inRound l) 0 P (Exit.then K (fun _ _ _ => False)) { tmps := (ps.zip (encs x)).foldl (fun t (p, v) => t.setIfInBounds p v) a.tmps, defers := [] } W)
    (hbody : ∀ (l : Nat) (pre : List α) (x : α) (a' : Act) (W : World), w.heap.size ≤ W.heap.size → I pre W → Ax x a' W → pre ++ [x] <+: S → body.wpIn (Fence.wide.inRound l) 0 P (postT n₀ w.heap.size I Ix (pre ++ [x]) W) a' W)
    (hdone : ∀ (D : Nat) (W : World), w.heap.size ≤ D → I S W → W.heap[D]? = some (.deferred (some [])) → Q .normal { a with defers := { target := .collected D, args := #[] } :: a.defers } W)
    (hstop : ∀ (D : Nat) (c : Code) (pre : List α) (W : World), w.heap.size ≤ D → pre <+: S → Ix c pre W → W.heap[D]? = some (.deferred (some [])) → c.wp P Q { a with defers := { target := .collected D, args := #[] } :: a.defers } W) :
    (Code.rangeFunc g ps assign body).wp P Q a w := by
  refine (wpIn_wide (n := 0)).1 (wpIn_rangeFunc ?_)
  intro fn hfn
  obtain ⟨rec, hrec⟩ : ∃ rec : LoopState → Option Code → Loop, rec = fun st pe => { state := st, pending := pe, fn, tmps := a.tmps, params := ps, assign, body, defers := w.heap.size } := ⟨_, rfl⟩
  obtain ⟨W1, hW1⟩ : ∃ W1, (w.alloc (.deferred (some []))).alloc (.loop (rec .ready none)) = W1 := ⟨_, rfl⟩
  have hL1 : W1.heap[w.heap.size + 1]? = some (.loop (rec .ready none)) := by
    rw [← hW1]; have := World.alloc_heap_new (w.alloc (.deferred (some []))) (.loop (rec .ready none)); rwa [World.size_alloc] at this
  have hK1 : W1.heap[w.heap.size]? = some (.deferred (some [])) := by
    rw [← hW1]; exact (Below.heap_alloc _ _ _ (by simp)).trans (World.alloc_heap_new w _)
  have hb1 : Below w.heap.size w W1 := by
    rw [← hW1]; exact ((Below.refl _ w).alloc (Nat.le_refl _) _).alloc (by simp) _
  have hs1 : W1.heap.size = w.heap.size + 2 := by rw [← hW1]; simp
  have hI1 : I [] W1 := hI _ _ _ h0 hb1
  refine ⟨w.heap.size + 1, [{ target := .collected w.heap.size, args := #[] }], W1, { target := .fn (.func gf) lb, args := rb ++ #[.func (.yield (w.heap.size + 1)) #[] #[]] }, W1, gf,
    rb ++ #[.func (.yield (w.heap.size + 1)) #[] #[]] ++ lb, W1, ?_, ?_, ?_, ?_, fun h => by simp [Fence.wide] at h, ?_⟩
  · rw [← hW1, hrec]; exact run_enterLoop_outer _ _ _ _ _
  · simp only [resolve, hg]
    simp [go_sem, Deferred.ofValue]
  · intro f' hf'; trivial
  · simp [invoke, go_sem, eg]
  · refine callsIn_wide.2 ?_
    refine (hseq (w.heap.size + 1)
      (fun pre W => I pre W ∧ W.heap[w.heap.size + 1]? = some (.loop (rec .ready none)) ∧ W.heap[w.heap.size]? = some (.deferred (some [])) ∧ w.heap.size ≤ W.heap.size)
      (fun pre W => ∃ c, Ix c pre W ∧ W.heap[w.heap.size + 1]? = some (.loop (rec .done (some c))) ∧ W.heap[w.heap.size]? = some (.deferred (some [])))
      W1 hb1
      (fun s A B hs hg' => ⟨hI s A B hs.1 (hg'.mono (by omega)), (hg'.block _ (by omega)).trans hs.2.1, (hg'.block _ (by omega)).trans hs.2.2.1, Nat.le_trans hs.2.2.2 hg'.size⟩)
      (fun s A B hs hg' => by
        obtain ⟨c, hc, hl, hk⟩ := hs
        exact ⟨c, hIx c s A B hc (hg'.mono (by omega)), (hg'.block _ (by omega)).trans hl, (hg'.block _ (by omega)).trans hk⟩)
      ?_ ⟨hI1, hL1, hK1, hb1.size⟩).mono ?_
    · -- one round
      rintro pre x W ⟨hi, hl, hk, hsz⟩ hpre
      have hlt : w.heap.size + 1 < W.heap.size := (Array.getElem?_eq_some_iff.1 hl).1
      have hy := run_yield (P := P) (args := encs x) hl (by rw [hrec]; exact hps x)
      rw [hrec] at hy
      refine ⟨fn, _, assign, body, hy, roundIn_of_wpIn trivial (hassign _ pre x W _ hsz hi ?_)⟩
      clear hy
      intro a' Wa hoa hia hax
      have hla := (hoa.beyond _ (by omega) hlt).trans hl
      have hka := (hoa.beyond _ (Nat.le_refl _) (by omega)).trans hk
      have hlta : w.heap.size + 1 < Wa.heap.size := Nat.lt_of_lt_of_le hlt hoa.below.size
      refine ⟨_, run_beginRound hla (by rw [hrec]), ?_⟩
      have hl2 : (Wa.putObj (w.heap.size + 1) (.loop { rec .ready none with state := .busy })).heap[w.heap.size + 1]? = some (.loop { rec .ready none with state := .busy }) := World.putObj_heap_same hlta
      have hk2 : (Wa.putObj (w.heap.size + 1) (.loop { rec .ready none with state := .busy })).heap[w.heap.size]? = some (.deferred (some [])) := (World.putObj_heap_other (by omega)).trans hka
      have hb2 : Below w.heap.size Wa (Wa.putObj (w.heap.size + 1) (.loop { rec .ready none with state := .busy })) := below_putObj _ _ _ (by omega)
      refine wpIn_mono (hbody _ pre x a' _ (by simp; omega) (hI _ _ _ hia hb2) (hAx _ _ _ _ _ _ hax hla) hpre) ?_
      have fin : ∀ (jump : Option Code) (W3 : World), Outside n₀ w.heap.size (Wa.putObj (w.heap.size + 1) (.loop { rec .ready none with state := .busy })) W3 →
          (Instr.endRound (w.heap.size + 1) jump).run P W3 = .ok (.bool jump.isNone) (W3.putObj (w.heap.size + 1) (.loop (rec (if jump.isNone then .ready else .done) jump))) ∧
          (W3.putObj (w.heap.size + 1) (.loop (rec (if jump.isNone then .ready else .done) jump))).heap[w.heap.size + 1]? = some (.loop (rec (if jump.isNone then .ready else .done) jump)) ∧
          (W3.putObj (w.heap.size + 1) (.loop (rec (if jump.isNone then .ready else .done) jump))).heap[w.heap.size]? = some (.deferred (some [])) ∧
          Below w.heap.size W3 (W3.putObj (w.heap.size + 1) (.loop (rec (if jump.isNone then .ready else .done) jump))) ∧
          Outside n₀ W1.heap.size W (W3.putObj (w.heap.size + 1) (.loop (rec (if jump.isNone then .ready else .done) jump))) := fun jump W3 ho3 => by
        have hl3 := (ho3.beyond (w.heap.size + 1) (by omega) (by simp; omega)).trans hl2
        have hk3 := (ho3.beyond w.heap.size (Nat.le_refl _) (by simp; omega)).trans hk2
        have hr := run_endRound (P := P) jump hl3
        have hsz3 : w.heap.size + 1 < W3.heap.size := (Array.getElem?_eq_some_iff.1 hl3).1
        refine ⟨?_, World.putObj_heap_same hsz3, (World.putObj_heap_other (by omega)).trans hk3, below_putObj _ _ _ (by omega), ?_⟩
        · rw [hrec] at hr ⊢; exact hr
        · have e1 : Outside n₀ W1.heap.size Wa (Wa.putObj (w.heap.size + 1) (.loop { rec .ready none with state := .busy })) := Outside.of_grown (grown_putObj _ _ _) (by omega) (by omega) (by omega)
          have e2 : Outside n₀ W1.heap.size W3 (W3.putObj (w.heap.size + 1) (.loop (rec (if jump.isNone then .ready else .done) jump))) := Outside.of_grown (grown_putObj _ _ _) (by omega) (by omega) (by omega)
          exact (((hoa.weak (by omega)).trans e1).trans (ho3.weak (by omega))).trans e2
      rintro e a3 W3 hp
      cases e with
      | normal =>
        obtain ⟨hk3, hi3⟩ := hp
        obtain ⟨hr, hl4, hk4, hb4, ho4⟩ := fin none W3 hk3
        exact ⟨_, _, hr, .inl ⟨rfl, ⟨hI _ _ _ hi3 hb4, hl4, hk4, Nat.le_trans (by have := hk3.below.size; simp at this; omega) hb4.size⟩, ho4⟩⟩
      | ret =>
        obtain ⟨hk3, hi3⟩ := hp
        obtain ⟨hr, hl4, hk4, hb4, ho4⟩ := fin (some .ret) W3 hk3
        exact ⟨_, _, hr, .inr ⟨rfl, .ret, hIx _ _ _ _ hi3 hb4, hl4, hk4⟩⟩
      | exit id =>
        obtain ⟨hk3, hi3⟩ := hp
        obtain ⟨hr, hl4, hk4, hb4, ho4⟩ := fin (some (.exit id)) W3 hk3
        exact ⟨_, _, hr, .inr ⟨rfl, .exit id, hIx _ _ _ _ hi3 hb4, hl4, hk4⟩⟩
      | goto t =>
        obtain ⟨hk3, hi3⟩ := hp
        obtain ⟨hr, hl4, hk4, hb4, ho4⟩ := fin (some (.goto t)) W3 hk3
        exact ⟨_, _, hr, .inr ⟨rfl, .goto t, hIx _ _ _ _ hi3 hb4, hl4, hk4⟩⟩
      | panic ch => exact hp.elim
      | outgrown => exact hp.elim
    · -- behind the iterator
      rintro e W2 ⟨⟨v, rfl⟩, (⟨hi, hl, hk, _⟩ | ⟨pre, hSp, c, hi, hl, hk⟩)⟩
      · exact ⟨none, _, by have := run_endLoop (P := P) hl (by rw [hrec]; simp); rw [hrec] at this; exact this, hdone _ _ (Nat.le_refl _) (hI _ _ _ hi (below_putObj _ _ _ (by omega))) ((World.putObj_heap_other (by omega)).trans hk)⟩
      · exact ⟨some c, _, by have := run_endLoop (P := P) hl (by rw [hrec]; simp); rw [hrec] at this; exact this, (wpIn_wide (n := 0)).2 (hstop _ c pre _ (Nat.le_refl _) hSp (hIx _ _ _ _ hi (below_putObj _ _ _ (by omega))) ((World.putObj_heap_other (by omega)).trans hk))⟩
end Go.Proofs.Ythgenmejjflceaa

namespace Go.Proofs.Ythgenmejjflceaa
open Go.RowKit

/-- The contract of an iterator value, as SeqT, with the one block that the body made in an earlier round and may write again (g: from where on the body's blocks lie, and that block). -/
def SeqO {α : Type} (P : Program) (gf : Nat) (rb lb : Array Value) (encs : α → Array Value) (n₀ : Nat) (S : List α) (w : World) : Prop :=
  ∀ (l : Nat) (J : List α → Option (Nat × Nat) → World → Prop) (Jx : List α → World → Prop) (W : World), Below w.heap.size w W →
    (∀ s g A B, J s g A → Below W.heap.size A B → (∀ b k, g = some (b, k) → B.heap[k]? = A.heap[k]?) → J s g B) → (∀ s g A, J s g A → ∀ b k, g = some (b, k) → b ≤ k ∧ k < A.heap.size) → (∀ s A B, Jx s A → Below W.heap.size A B → Jx s B) →
    (∀ pre x g W1, J pre g W1 → W.heap.size ≤ W1.heap.size → pre ++ [x] <+: S → YieldAt Fence.wide 0 P l (encs x) W1 fun e W' =>
      (e = .returned (.bool true) ∧ ∃ g', J (pre ++ [x]) g' W' ∧ Below n₀ W1 W' ∧ (∀ k, W.heap.size ≤ k → k < W1.heap.size → (∀ b, g ≠ some (b, k)) → W'.heap[k]? = W1.heap[k]?) ∧ (∀ b k, g' = some (b, k) → W1.heap.size ≤ b ∨ ∃ j, g = some (b, j))) ∨ (e = .returned (.bool false) ∧ Jx (pre ++ [x]) W')) →
    J [] none W →
    Calls P gf (rb ++ #[.func (.yield l) #[] #[]] ++ lb) W fun e W' => (∃ v, e = .returned v) ∧ ((∃ g, J S g W') ∨ ∃ pre, pre <+: S ∧ Jx pre W')

theorem SeqO.toT {α : Type} {P : Program} {gf : Nat} {rb lb : Array Value} {encs : α → Array Value} {n₀ : Nat} {S : List α} {w : World} (h : SeqO P gf rb lb encs n₀ S w) : SeqT P gf rb lb encs n₀ S w := by
  intro l J Jx W hW hJ hJx hY h0
  refine (h l (fun s g A => g = none ∧ J s A) Jx W hW (fun s g A B q hb _ => ⟨q.1, hJ _ _ _ q.2 hb⟩) (fun s g A q b k hk => by rw [q.1] at hk; cases hk) hJx ?_ ⟨rfl, h0⟩).mono ?_
  · rintro pre x g W1 ⟨rfl, q⟩ hz hpre
    obtain ⟨fn, tmps, assign, body, hy, hR⟩ := hY pre x W1 q hpre
    refine ⟨fn, tmps, assign, body, hy, hR.mono ?_⟩
    rintro e W' (⟨rfl, k1, k2⟩ | ⟨rfl, k1⟩)
    · exact .inl ⟨rfl, none, ⟨rfl, k1⟩, k2.below, fun k hk hl _ => k2.beyond k hk hl, fun b k hk => by cases hk⟩
    · exact .inr ⟨rfl, k1⟩
  · rintro e W' ⟨hv, ⟨g, _, q⟩ | q⟩
    · exact ⟨hv, .inl q⟩
    · exact ⟨hv, .inr q⟩

/-- How the body of a round may be left: by its end alone. -/
def postO {α : Type} (n₀ n₁ : Nat) (I : List α → Option (Nat × Nat) → World → Prop) (xs : List α) (g : Option (Nat × Nat)) (W : World) : Exit → Act → World → Prop
  | .normal, _, W' => ∃ g', I xs g' W' ∧ Below n₀ W W' ∧ (∀ k, n₁ ≤ k → k < W.heap.size → (∀ b, g ≠ some (b, k)) → W'.heap[k]? = W.heap[k]?) ∧ (∀ b k, g' = some (b, k) → W.heap.size ≤ b ∨ ∃ j, g = some (b, j))
  | _, _, _ => False

/-- The statement. -/
theorem wp_rangeFunc_O {α : Type} {P : Program} {gop : Operand} {ps : Array Tmp} {assign body : Code} {Q : Exit → Act → World → Prop} {a : Act} {w : World}
    {gf : Nat} {rb lb : Array Value} (hg : a.eval gop = .func (.func gf) rb lb) (eg : ∀ args w, (callFunc gf args).run P w = .ok (.enter gf args) w)
    {encs : α → Array Value} {n₀ : Nat} (hn₀ : n₀ ≤ w.heap.size) {S : List α} (hseq : SeqO P gf rb lb encs n₀ S w) (hps : ∀ x, (encs x).size = ps.size)
    (I : List α → Option (Nat × Nat) → World → Prop) (hI : ∀ s g A B, I s g A → Below w.heap.size A B → (∀ b k, g = some (b, k) → B.heap[k]? = A.heap[k]?) → I s g B) (hIg : ∀ s g A, I s g A → ∀ b k, g = some (b, k) → b ≤ k ∧ k < A.heap.size) (h0 : I [] none w)
    (Ax : α → Act → World → Prop) (hAx : ∀ x a' A l r o, Ax x a' A → A.heap[l]? = some (.loop r) → Ax x a' (A.putObj l o))
    (hassign : ∀ (l : Nat) (pre : List α) (x : α) (g : Option (Nat × Nat)) (W : World) (K : Act → World → Prop), w.heap.size ≤ W.heap.size → I pre g W → (∀ a' W', Below W.heap.size W W' → I pre g W' → Ax x a' W' → K a' W') →
      assign.wpIn (Fence.wide.inRound l) 0 P (Exit.then K (fun _ _ _ => False)) { tmps := (ps.zip (encs x)).foldl (fun t (p, v) => t.setIfInBounds p v) a.tmps, defers := [] } W)
    (hbody : ∀ (l : Nat) (pre : List α) (x : α) (g : Option (Nat × Nat)) (a' : Act) (W : World), w.heap.size ≤ W.heap.size → I pre g W → Ax x a' W → pre ++ [x] <+: S → body.wpIn (Fence.wide.inRound l) 0 P (postO n₀ w.heap.size I (pre ++ [x]) g W) a' W)
    (hdone : ∀ (D : Nat) (g : Option (Nat × Nat)) (W : World), D = w.heap.size → I S g W → (∀ b k, g = some (b, k) → w.heap.size + 2 ≤ b) → W.heap[D]? = some (.deferred (some [])) → Q .normal { a with defers := { target := .collected D, args := #[] } :: a.defers } W) :
    (Code.rangeFunc gop ps assign body).wp P Q a w := by
  refine (wpIn_wide (n := 0)).1 (wpIn_rangeFunc ?_)
  intro fn hfn
  obtain ⟨rec, hrec⟩ : ∃ rec : LoopState → Option Code → Loop, rec = fun st pe => { state := st, pending := pe, fn, tmps := a.tmps, params := ps, assign, body, defers := w.heap.size } := ⟨_, rfl⟩
  obtain ⟨W1, hW1⟩ : ∃ W1, (w.alloc (.deferred (some []))).alloc (.loop (rec .ready none)) = W1 := ⟨_, rfl⟩
  have hL1 : W1.heap[w.heap.size + 1]? = some (.loop (rec .ready none)) := by
    rw [← hW1]; have := World.alloc_heap_new (w.alloc (.deferred (some []))) (.loop (rec .ready none)); rwa [World.size_alloc] at this
  have hK1 : W1.heap[w.heap.size]? = some (.deferred (some [])) := by
    rw [← hW1]; exact (Below.heap_alloc _ _ _ (by simp)).trans (World.alloc_heap_new w _)
  have hb1 : Below w.heap.size w W1 := by
    rw [← hW1]; exact ((Below.refl _ w).alloc (Nat.le_refl _) _).alloc (by simp) _
  have hs1 : W1.heap.size = w.heap.size + 2 := by rw [← hW1]; simp
  have hI1 : I [] none W1 := hI _ _ _ _ h0 hb1 (fun b k hk => by cases hk)
  refine ⟨w.heap.size + 1, [{ target := .collected w.heap.size, args := #[] }], W1, { target := .fn (.func gf) lb, args := rb ++ #[.func (.yield (w.heap.size + 1)) #[] #[]] }, W1, gf,
    rb ++ #[.func (.yield (w.heap.size + 1)) #[] #[]] ++ lb, W1, ?_, ?_, ?_, ?_, fun h => by simp [Fence.wide] at h, ?_⟩
  · rw [← hW1, hrec]; exact run_enterLoop_outer _ _ _ _ _
  · simp only [resolve, hg]
    simp [go_sem, Deferred.ofValue]
  · intro f' hf'; trivial
  · simp [invoke, go_sem, eg]
  · refine callsIn_wide.2 ?_
    refine (hseq (w.heap.size + 1)
      (fun pre g W => I pre g W ∧ W.heap[w.heap.size + 1]? = some (.loop (rec .ready none)) ∧ W.heap[w.heap.size]? = some (.deferred (some [])) ∧ w.heap.size ≤ W.heap.size ∧ ∀ b k, g = some (b, k) → w.heap.size + 2 ≤ b)
      (fun _ _ => False)
      W1 hb1
      (fun s g A B hs hb hk => ⟨hI s g A B hs.1 (hb.mono (by omega)) hk, (hb.block _ (by omega)).trans hs.2.1, (hb.block _ (by omega)).trans hs.2.2.1, Nat.le_trans hs.2.2.2.1 hb.size, hs.2.2.2.2⟩)
      (fun s g A hs b k hk => hIg s g A hs.1 b k hk)
      (fun s A B hs _ => hs)
      ?_ ⟨hI1, hL1, hK1, hb1.size, fun b k hk => by cases hk⟩).mono ?_
    · -- one round
      rintro pre x g W ⟨hi, hl, hk, hsz, hg0⟩ hW1z hpre
      have hlt : w.heap.size + 1 < W.heap.size := (Array.getElem?_eq_some_iff.1 hl).1
      have hy := run_yield (P := P) (args := encs x) hl (by rw [hrec]; exact hps x)
      rw [hrec] at hy
      refine ⟨fn, _, assign, body, hy, roundIn_of_wpIn trivial (hassign _ pre x g W _ hsz hi ?_)⟩
      clear hy
      intro a' Wa hoa hia hax
      have hla := (hoa.block (w.heap.size + 1) hlt).trans hl
      have hka := (hoa.block w.heap.size (by omega)).trans hk
      have hlta : w.heap.size + 1 < Wa.heap.size := Nat.lt_of_lt_of_le hlt hoa.size
      refine ⟨_, run_beginRound hla (by rw [hrec]), ?_⟩
      have hl2 : (Wa.putObj (w.heap.size + 1) (.loop { rec .ready none with state := .busy })).heap[w.heap.size + 1]? = some (.loop { rec .ready none with state := .busy }) := World.putObj_heap_same hlta
      have hk2 : (Wa.putObj (w.heap.size + 1) (.loop { rec .ready none with state := .busy })).heap[w.heap.size]? = some (.deferred (some [])) := (World.putObj_heap_other (by omega)).trans hka
      have hb2 : Below w.heap.size Wa (Wa.putObj (w.heap.size + 1) (.loop { rec .ready none with state := .busy })) := below_putObj _ _ _ (by omega)
      refine wpIn_mono (hbody _ pre x g a' _ (by have := hoa.size; simp; omega) (hI _ _ _ _ hia hb2 (fun b k hk => World.putObj_heap_other (fun e => by have := hg0 b k hk; have := (hIg _ _ _ hi b k hk).1; omega))) (hAx _ _ _ _ _ _ hax hla) hpre) ?_
      rintro e a3 W3 hp
      cases e with
      | normal =>
        obtain ⟨g', hi3, hb3, hk3, hg3⟩ := hp
        have hz3 := hb3.size
        have hl3 := (hk3 (w.heap.size + 1) (by omega) (by simp; omega) (fun b e => by have := hg0 b _ e; have := (hIg _ _ _ hi b _ e).1; omega)).trans hl2
        have hd3 := (hk3 w.heap.size (Nat.le_refl _) (by simp; omega) (fun b e => by have := hg0 b _ e; have := (hIg _ _ _ hi b _ e).1; omega)).trans hk2
        have hr := run_endRound (P := P) (none : Option Code) hl3
        have hsz3 : w.heap.size + 1 < W3.heap.size := (Array.getElem?_eq_some_iff.1 hl3).1
        have hzz : W.heap.size ≤ W3.heap.size := by have := hoa.size; simp at hz3; omega
        have hg0' : ∀ b k, g' = some (b, k) → w.heap.size + 2 ≤ b := fun b k e => by
          rcases hg3 b k e with h | ⟨j, h⟩
          · simp at h
            have := hoa.size
            omega
          · exact hg0 b j h
        have hb4 : Below w.heap.size W3 (W3.putObj (w.heap.size + 1) (.loop (rec .ready none))) := below_putObj _ _ _ (by omega)
        refine ⟨.bool true, W3.putObj (w.heap.size + 1) (.loop (rec .ready none)), ?_, .inl ⟨rfl, g', ⟨hI _ _ _ _ hi3 hb4 (fun b k hk => World.putObj_heap_other (fun e => by have := hg0' b k hk; have := (hIg _ _ _ hi3 b k hk).1; omega)), World.putObj_heap_same hsz3, (World.putObj_heap_other (by omega)).trans hd3, by simp; omega, hg0'⟩, ?_, ?_, ?_⟩⟩
        · rw [hrec] at hr ⊢; exact hr
        · exact ((hoa.mono (by omega)).trans (hb2.mono hn₀)).trans (hb3.trans (hb4.mono hn₀))
        · intro k h1 h2 h3
          have h4 : k ≠ w.heap.size + 1 := by omega
          exact (World.putObj_heap_other h4).trans ((hk3 k (by omega) (by have := hoa.size; simp; omega) h3).trans ((World.putObj_heap_other h4).trans (hoa.block k h2)))
        · intro b k e
          rcases hg3 b k e with h | h
          · exact .inl (by have := hoa.size; simp at h; omega)
          · exact .inr h
      | ret => exact hp.elim
      | exit id => exact hp.elim
      | goto t => exact hp.elim
      | panic ch => exact hp.elim
      | outgrown => exact hp.elim
    · -- behind the iterator
      rintro e W2 ⟨⟨v, rfl⟩, (⟨g, hi, hl, hk, hz, hg0⟩ | ⟨pre, _, hf⟩)⟩
      · exact ⟨none, _, by have := run_endLoop (P := P) hl (by rw [hrec]; simp); rw [hrec] at this; exact this, hdone _ g _ rfl (hI _ _ _ _ hi (below_putObj _ _ _ (by omega)) (fun b k hk => World.putObj_heap_other (fun e => by have := hg0 b k hk; have := (hIg _ _ _ hi b k hk).1; omega))) hg0 ((World.putObj_heap_other (by omega)).trans hk)⟩
      · exact hf.elim
end Go.Proofs.Ythgenmejjflceaa

namespace Go.Proofs.Ythgenmejjflceaa
open Go.ChangeShapes Go.WideShapes Go.ChangeAt Go.RowKit
attribute [local irreducible] Go.Calls

/-- What yield is handed. -/
def encS (s : St) : Array Value := #[.agg #[.int .i64 s.1, .int .i64 s.2.1, .int .i64 s.2.2.1, .int .i64 s.2.2.2]]
/-- A window. -/
abbrev WN (a : Option Addr) (n cap : Nat) (x y : Int) : Value := .agg #[.slice a n cap, .int .i64 x, .int .i64 y]

/-- Where the walk stands between two rounds. -/
def StrAt (F : List Sg) (x y : Int) (w0 W : World) (J : List St → Option (Nat × Nat) → World → Prop) (gh : Nat) (v13 : Value) (wr : World) : Prop :=
  ∃ (k : Nat) (p q : Int) (v : Int × Int) (pre : List St) (g : Option (Nat × Nat)), (∀ b k, g = some (b, k) → W.heap.size + 2 ≤ b) ∧ k ≤ F.length ∧ F.length - k ≤ gh ∧ v13 = .int .i64 k ∧ pre ++ strG y (F.drop k) p v = strL F x y ∧ J pre g wr ∧
    Below w0.heap.size w0 wr ∧ W.heap.size + 1 < wr.heap.size ∧ Blk wr (W.heap.size + 1) #[.int .i64 p, .int .i64 q, .int .i64 v.1, .int .i64 v.2] 64

theorem keptS {w : World} {k b i : Nat} (h : k ≠ b) (v : Value) : (w.setCell ⟨b, i, none⟩ v).heap[k]? = w.heap[k]? := Below.heap_setCell _ _ _ _ h
theorem keptA {w : World} {k : Nat} (h : k < w.heap.size) (o : Obj) : (w.alloc o).heap[k]? = w.heap[k]? := Below.heap_alloc _ _ _ h
set_option maxRecDepth 100000 in
set_option maxHeartbeats 2000000 in
theorem strO_c (F : List Sg) (x y : Int) (a : Option Addr) (cap : Nat) (w0 w : World) (hl : F.length ≤ 1000000000) (hA : ArgS w0 a F) (hb : Below w0.heap.size w0 w) :
    SeqO Try.prog 39 #[WN a F.length cap x y] #[] encS w0.heap.size (strL F x y) w := by
  intro l J Jx W hW hJ hJg hJx hY h0
  have H0 := hidE h0; have HJ := hidE hJ; have HJG := hidE hJg; have HJX := hidE hJx; have HY := hidE hY
  have HA := hidE hA
  have hbW : Below w0.heap.size w0 W := hb.trans (hW.mono hb.size)
  have HBW := hidE hbW
  clear hA hJ hJg hJx hY h0 hb hW hbW
  show Calls Try.prog 39 #[WN a F.length cap x y, .func (.yield l) #[] #[]] W _
  go_enter Try.func39, Try.ntmps39
  go_wp2
  go_loopg [13] F.length (fun gh v13 wr => StrAt F x y w0 W J gh v13 wr ∧ Blk wr W.heap.size #[.slice a F.length cap, .int .i64 x, .int .i64 y] 59)
  case atStart =>
    refine ⟨⟨0, x, 0, (0, 0), [], none, fun b k h => (by cases h), Nat.zero_le _, Nat.le_refl _, rfl, rfl, HJ.out _ _ _ _ H0.out ?_ (fun b k h => by cases h), HBW.out.trans (Below.mono ?_ HBW.out.size), ?_, ?_⟩, ?_⟩
    · (repeat (first | exact Below.refl _ _ | assumption | refine balloc ?_ _ | refine below_drewN ?_ _ | refine bstep (by assumption) ?_ | refine bstep (Past.prop _) ?_ | refine Below.setCell ?_ (by first | exact Nat.le_refl _ | (simp; done) | (simp; omega)) _))
    · (repeat (first | exact Below.refl _ _ | assumption | refine balloc ?_ _ | refine below_drewN ?_ _ | refine bstep (by assumption) ?_ | refine bstep (Past.prop _) ?_ | refine Below.setCell ?_ (by first | exact Nat.le_refl _ | (simp; done) | (simp; omega)) _))
    · simp
    · exact Blk.made_at _ _ _ _ (by simp)
    · exact (Blk.made _ _ _).alloc _
  case round =>
    obtain ⟨⟨k, p, q, v, pre, g, hgb, hk, hgh, rfl, hpre, hJ1, hB1, hsz, blk⟩, blk0⟩ := hrel
    have HGB := hidE hgb
    have HK := hidE (fun b k (e : g = some (b, k)) => show W.heap.size + 1 < k ∧ k < wr.heap.size from by have h1 := hgb b k e; have h2 := HJG.out _ _ _ hJ1 b k e; omega)
    clear hgb
    have HJ1 := hidE hJ1; have HB1 := hidE hB1; have HPRE := hidE hpre; have HBK := hidE blk; have HBK0 := hidE blk0; have HSZ := hidE hsz; have HG := hidE hgh
    clear hJ1 hB1 hpre blk blk0 hsz hgh
    obtain ⟨wo, hwo⟩ : ∃ wo : World, wo = wr := ⟨_, rfl⟩
    have cases3 : ((¬ k < F.length ∨ (k < F.length ∧ decide ((k : Int) < (F.length : Int)) = true ∧ decide (y ≤ ats F k) = true)) ∧ pre ++ strZ y p v = strL F x y) ∨
        (k < F.length ∧ decide ((k : Int) < (F.length : Int)) = true ∧ decide (y ≤ ats F k) = false ∧ decide (p < ats F k) = false ∧ pre ++ strG y (F.drop (k + 1)) p (vls F k) = strL F x y) ∨
        (k < F.length ∧ decide ((k : Int) < (F.length : Int)) = true ∧ decide (y ≤ ats F k) = false ∧ decide (p < ats F k) = true ∧ pre ++ (p, ats F k, v) :: strG y (F.drop (k + 1)) (ats F k) (vls F k) = strL F x y) := by
      have hp := HPRE.out
      by_cases hlt : k < F.length
      · rw [drop_cons hlt] at hp
        have hd : decide ((k : Int) < (F.length : Int)) = true := decide_eq_true (by omega)
        by_cases h1 : y ≤ ats F k
        · rw [strG_end h1] at hp
          exact .inl ⟨.inr ⟨hlt, hd, decide_eq_true h1⟩, hp⟩
        · by_cases h2 : p < ats F k
          · rw [strG_cut h1 h2] at hp
            exact .inr (.inr ⟨hlt, hd, decide_eq_false h1, decide_eq_true h2, hp⟩)
          · rw [strG_on h1 h2] at hp
            exact .inr (.inl ⟨hlt, hd, decide_eq_false h1, decide_eq_false h2, hp⟩)
      · rw [List.drop_eq_nil_of_le (by omega), strG_nil] at hp
        exact .inl ⟨.inl hlt, hp⟩
    clear HPRE
    rcases cases3 with ⟨he, hp⟩ | ⟨hlt, hd, h1, h2, hp⟩ | ⟨hlt, hd, h1, h2, hp⟩
    · have HP := hidE hp
      clear hp
      have c3 := HBK0.out.cell 2; have c4 := HBK.out.cell 0; have c5 := HBK.out.cell 1; have c6 := HBK.out.cell 2; have c7 := HBK.out.cell 3; have f4 := HBK.out.free; have z4 := HBK.out.lt; have z3 := HBK0.out.lt
      simp at c3 c4 c5 c6 c7
      have hsz := HSZ.out
      by_cases hz : p < y
      · have dz : decide (p < y) = true := decide_eq_true hz
        have HP2 := hidE (show pre ++ [(p, y, v)] = strL F x y by rw [← HP.out]; unfold strZ; rw [if_pos hz])
        clear HP hz
        have hpre : pre ++ [(p, y, v)] <+: strL F x y := by rw [HP2.out]; exact List.prefix_refl _
        rcases he with he | ⟨hlt, he, he2⟩
        · have he1 : decide (k < F.length) = false := decide_eq_false he
          have he2 : decide ((k : Int) < (F.length : Int)) = false := decide_eq_false (by omega)
          have bb : Below W.heap.size wr (wr.setCell ⟨W.heap.size + 1, 1, none⟩ (.int .i64 y)) := (Below.refl _ wr).setCell (p := ⟨W.heap.size + 1, 1, none⟩) (by simp) _
          obtain ⟨fn, tmps, assign, body, hy, hR⟩ := HY.out pre (p, y, v) g _ (HJ.out _ _ _ _ HJ1.out bb (fun b k e => by obtain ⟨q1, q2⟩ := HK.out b k e; exact keptS (by omega) _)) (by simp [World.setCell]; omega) hpre
          dsimp only [encS] at hy
          go_upto_region 14 with fail
          refine (wpIn_wide (n := 0)).1 ?_
          gi_wp2
          refine ⟨rfl, hR.mono ?_⟩
          clear hy hR
          rintro e W' (⟨rfl, g', hJ', hO, hO2, hO3⟩ | ⟨rfl, hJx'⟩)
          all_goals
            gi_wp2
            try go_wp2
            go_end0
          · exact ⟨⟨_, rfl⟩, .inl ⟨g', by rw [← HP2.out]; exact hJ'⟩⟩
          · exact ⟨⟨_, rfl⟩, .inr ⟨pre ++ [(p, y, v)], hpre, hJx'⟩⟩
        · obtain ⟨b, off, rfl, hb, hc⟩ := (HA.out.past HB1.out) (by omega)
          obtain ⟨c0, c1, c2⟩ := hc.get hlt
          clear hc
          generalize ats F k = u at *
          generalize vls F k = v' at *
          have bb : Below W.heap.size wr ((wr.setCell ⟨W.heap.size + 1, 1, none⟩ (.int .i64 y)).alloc (Obj.cells #[.int .i64 u, .int .i64 v'.1, .int .i64 v'.2] 54)) :=
            ((Below.refl _ wr).setCell (p := ⟨W.heap.size + 1, 1, none⟩) (by simp) _).alloc (by simp [World.setCell]; omega) _
          obtain ⟨fn, tmps, assign, body, hy, hR⟩ := HY.out pre (p, y, v) g _ (HJ.out _ _ _ _ HJ1.out bb (fun b k e => by obtain ⟨q1, q2⟩ := HK.out b k e; exact (keptA (by simp [World.setCell]; omega) _).trans (keptS (by omega) _))) (by simp [World.setCell]; omega) hpre
          dsimp only [encS] at hy
          go_upto_region 14 with fail
          refine (wpIn_wide (n := 0)).1 ?_
          gi_wp2
          refine ⟨rfl, hR.mono ?_⟩
          clear hy hR
          rintro e W' (⟨rfl, g', hJ', hO, hO2, hO3⟩ | ⟨rfl, hJx'⟩)
          all_goals
            gi_wp2
            try go_wp2
            go_end0
          · exact ⟨⟨_, rfl⟩, .inl ⟨g', by rw [← HP2.out]; exact hJ'⟩⟩
          · exact ⟨⟨_, rfl⟩, .inr ⟨pre ++ [(p, y, v)], hpre, hJx'⟩⟩
      · have dz : decide (p < y) = false := decide_eq_false hz
        have HP2 := hidE (show pre = strL F x y by rw [← HP.out]; unfold strZ; rw [if_neg hz, List.append_nil])
        clear HP hz
        rcases he with he | ⟨hlt, he, he2⟩
        · have he1 : decide (k < F.length) = false := decide_eq_false he
          have he2 : decide ((k : Int) < (F.length : Int)) = false := decide_eq_false (by omega)
          have bb : Below W.heap.size wr (wr.setCell ⟨W.heap.size + 1, 1, none⟩ (.int .i64 y)) := (Below.refl _ wr).setCell (p := ⟨W.heap.size + 1, 1, none⟩) (by simp) _
          have HJ2 := hidE (HJ.out _ _ _ _ HJ1.out bb (fun b k e => by obtain ⟨q1, q2⟩ := HK.out b k e; exact keptS (by omega) _))
          clear bb
          go_wp2
          go_end0
          exact ⟨⟨_, rfl⟩, .inl ⟨g, by rw [← HP2.out]; exact HJ2.out⟩⟩
        · obtain ⟨b, off, rfl, hb, hc⟩ := (HA.out.past HB1.out) (by omega)
          obtain ⟨c0, c1, c2⟩ := hc.get hlt
          clear hc
          generalize ats F k = u at *
          generalize vls F k = v' at *
          have bb : Below W.heap.size wr ((wr.setCell ⟨W.heap.size + 1, 1, none⟩ (.int .i64 y)).alloc (Obj.cells #[.int .i64 u, .int .i64 v'.1, .int .i64 v'.2] 54)) :=
            ((Below.refl _ wr).setCell (p := ⟨W.heap.size + 1, 1, none⟩) (by simp) _).alloc (by simp [World.setCell]; omega) _
          have HJ2 := hidE (HJ.out _ _ _ _ HJ1.out bb (fun b k e => by obtain ⟨q1, q2⟩ := HK.out b k e; exact (keptA (by simp [World.setCell]; omega) _).trans (keptS (by omega) _)))
          clear bb
          go_wp2
          go_end0
          exact ⟨⟨_, rfl⟩, .inl ⟨g, by rw [← HP2.out]; exact HJ2.out⟩⟩
    · have HP := hidE hp
      obtain ⟨b, off, rfl, hb, hc⟩ := (HA.out.past HB1.out) (by omega)
      obtain ⟨c0, c1, c2⟩ := hc.get hlt
      have c3 := HBK0.out.cell 2; have c4 := HBK.out.cell 0; have c5 := HBK.out.cell 1; have c6 := HBK.out.cell 2; have c7 := HBK.out.cell 3; have f4 := HBK.out.free; have z4 := HBK.out.lt; have z3 := HBK0.out.lt
      simp at c3 c4 c5 c6 c7
      clear hc hp
      generalize ats F k = u at *
      generalize vls F k = v' at *
      go_wp2
      go_roundg (F.length - (k + 1))
      case measure => have := HG.out; omega
      case rel =>
        have hsz := HSZ.out
        have bb : Below W.heap.size wr (((wr.setCell ⟨W.heap.size + 1, 2, none⟩ (.int .i64 v'.1)).setCell ⟨W.heap.size + 1, 3, none⟩ (.int .i64 v'.2)).alloc (Obj.cells #[.int .i64 u, .int .i64 v'.1, .int .i64 v'.2] 54)) :=
          (((Below.refl _ wr).setCell (p := ⟨W.heap.size + 1, 2, none⟩) (by simp) _).setCell (p := ⟨W.heap.size + 1, 3, none⟩) (by simp) _).alloc (by simp [World.setCell]; omega) _
        exact ⟨⟨k + 1, p, q, v', pre, g, HGB.out, by omega, Nat.le_refl _, by go_num, HP.out, HJ.out _ _ _ _ HJ1.out bb (fun b k e => by obtain ⟨q1, q2⟩ := HK.out b k e; exact (keptA (by simp [World.setCell]; omega) _).trans ((keptS (by omega) _).trans (keptS (by omega) _))), HB1.out.trans (bb.mono HBW.out.size), by simp [World.setCell]; omega, ((HBK.out.set 2 (.int .i64 v'.1)).set 3 (.int .i64 v'.2)).alloc _⟩, ((HBK0.out.other (by omega) _).other (by omega) _).alloc _⟩
    · have HP := hidE hp
      obtain ⟨b, off, rfl, hb, hc⟩ := (HA.out.past HB1.out) (by omega)
      obtain ⟨c0, c1, c2⟩ := hc.get hlt
      have c3 := HBK0.out.cell 2; have c4 := HBK.out.cell 0; have c5 := HBK.out.cell 1; have c6 := HBK.out.cell 2; have c7 := HBK.out.cell 3; have f4 := HBK.out.free; have z4 := HBK.out.lt; have z3 := HBK0.out.lt
      simp at c3 c4 c5 c6 c7
      clear hc hp
      generalize ats F k = u at *
      generalize vls F k = v' at *
      have hpre : pre ++ [(p, u, v)] <+: strL F x y := ⟨strG y (F.drop (k + 1)) u v', by rw [← HP.out]; simp⟩
      have hsz := HSZ.out
      have q1 := (HBK.out.set 1 (.int .i64 u)).alloc (Obj.cells #[.int .i64 u, .int .i64 v'.1, .int .i64 v'.2] 54)
      have q0 := (HBK0.out.other (b := W.heap.size + 1) (i := 1) (by omega) (.int .i64 u)).alloc (Obj.cells #[.int .i64 u, .int .i64 v'.1, .int .i64 v'.2] 54)
      have qr : Blk ((wr.setCell ⟨W.heap.size + 1, 1, none⟩ (.int .i64 u)).alloc (Obj.cells #[.int .i64 u, .int .i64 v'.1, .int .i64 v'.2] 54)) wr.heap.size #[.int .i64 u, .int .i64 v'.1, .int .i64 v'.2] 54 := Blk.made_at _ _ _ _ (by simp [World.setCell])
      have bb : Below W.heap.size wr ((wr.setCell ⟨W.heap.size + 1, 1, none⟩ (.int .i64 u)).alloc (Obj.cells #[.int .i64 u, .int .i64 v'.1, .int .i64 v'.2] 54)) :=
        ((Below.refl _ wr).setCell (p := ⟨W.heap.size + 1, 1, none⟩) (by simp) _).alloc (by simp [World.setCell]; omega) _
      obtain ⟨fn, tmps, assign, body, hy, hR⟩ := HY.out pre (p, u, v) g _ (HJ.out _ _ _ _ HJ1.out bb (fun b k e => by obtain ⟨q1, q2⟩ := HK.out b k e; exact (keptA (by simp [World.setCell]; omega) _).trans (keptS (by omega) _))) (by simp [World.setCell]; omega) hpre
      dsimp only [encS] at hy
      have HQ1 := hidE q1; have HQ0 := hidE q0; have HQR := hidE qr; have HBB := hidE bb; have HPR := hidE hpre
      clear q1 q0 qr bb hpre
      go_upto_region 8 with fail
      refine (wpIn_wide (n := 0)).1 ?_
      gi_wp2
      refine ⟨rfl, hR.mono ?_⟩
      clear hy hR
      rintro e W' (⟨rfl, g', hJ', hO, hO2, hO3⟩ | ⟨rfl, hJx'⟩)
      · have hz1 := hO.size
        have hzz : W.heap.size ≤ wr.heap.size := by omega
        simp [World.setCell] at hz1
        have s1 := (hO2 _ (by omega) HQ1.out.lt (fun b e => by have := HK.out b _ e; omega)).trans HQ1.out
        have s0 := (hO2 _ (by omega) HQ0.out.lt (fun b e => by have := HK.out b _ e; omega)).trans HQ0.out
        have sr := (hO2 _ (by omega) HQR.out.lt (fun b e => by have := HK.out b _ e; omega)).trans HQR.out
        have HGB2 := hidE (fun b k (e : g' = some (b, k)) => show W.heap.size + 2 ≤ b from by
          rcases hO3 b k e with h | ⟨j, h⟩
          · simp [World.setCell] at h; omega
          · exact HGB.out b j h)
        have HJ2 := hidE hJ'; have HO := hidE hO
        clear hO hO2 hO3 hJ'
        change Blk W' _ _ _ at s1
        change Blk W' _ _ _ at s0
        change Blk W' _ _ _ at sr
        have d0 := sr.cell 0; have d1 := sr.cell 1; have d2 := sr.cell 2; have dz := sr.lt
        have g0 := s1.cell 0; have g1 := s1.cell 1; have g2 := s1.cell 2; have g3 := s1.cell 3; have gf := s1.free; have gz := s1.lt
        simp at d0 d1 d2 g0 g1 g2 g3
        clear hz1 c0 c1 c2 c3 c4 c5 c6 c7 f4 z4 z3 hb
        gi_wp2
        go_wp2
        go_roundg (F.length - (k + 1))
        case measure => have := HG.out; omega
        case rel =>
          have bc : Below W.heap.size W' (((W'.setCell ⟨W.heap.size + 1, 0, none⟩ (.int .i64 u)).setCell ⟨W.heap.size + 1, 2, none⟩ (.int .i64 v'.1)).setCell ⟨W.heap.size + 1, 3, none⟩ (.int .i64 v'.2)) :=
            (((Below.refl _ W').setCell (p := ⟨W.heap.size + 1, 0, none⟩) (by simp) _).setCell (p := ⟨W.heap.size + 1, 2, none⟩) (by simp) _).setCell (p := ⟨W.heap.size + 1, 3, none⟩) (by simp) _
          have hz1 := HO.out.size
          simp [World.setCell] at hz1
          refine ⟨⟨k + 1, u, u, v', pre ++ [(p, u, v)], g', HGB2.out, by omega, Nat.le_refl _, by go_num, ?_, HJ.out _ _ _ _ HJ2.out bc (fun b k e => by have q1 := HGB2.out b k e; have q2 := (HJG.out _ _ _ HJ2.out b k e).1; exact (keptS (by omega) _).trans ((keptS (by omega) _).trans (keptS (by omega) _))), ((HB1.out.trans (HBB.out.mono HBW.out.size)).trans HO.out).trans (bc.mono HBW.out.size), by simp [World.setCell]; omega, ?_⟩, ?_⟩
          · rw [← HP.out]; simp
          · simpa using ((s1.set 0 (.int .i64 u)).set 2 (.int .i64 v'.1)).set 3 (.int .i64 v'.2)
          · exact ((s0.other (by omega) _).other (by omega) _).other (by omega) _
      · gi_wp2
        go_wp2
        refine bodyPost_ret (results_none rfl _ _ _) rfl ?_
        exact ⟨⟨_, rfl⟩, .inr ⟨pre ++ [(p, u, v)], HPR.out, hJx'⟩⟩
theorem str_c (F : List Sg) (x y : Int) (a : Option Addr) (cap : Nat) (w0 w : World) (hl : F.length ≤ 1000000000) (hA : ArgS w0 a F) (hb : Below w0.heap.size w0 w) :
    SeqT Try.prog 39 #[WN a F.length cap x y] #[] encS w0.heap.size (strL F x y) w := (strO_c F x y a cap w0 w hl hA hb).toT
end Go.Proofs.Ythgenmejjflceaa

namespace Go.Proofs.Ythgenmejjflceaa
open Go.ChangeShapes Go.WideShapes Go.ChangeAt Go.RowKit Go.Shelf
attribute [local irreducible] Go.Calls
attribute [local go_sem] Oper.semAt_some

theorem spanPut {w : World} {k : Nat} {cs : Array Value} {t : TypeId} (h : Blk w k cs t) {b : Nat} (hb : k ≠ b) (o : Obj) : Blk (w.putObj b o) k cs t := (World.putObj_heap_other hb).trans h
theorem outBlk {n₀ n₁ k : Nat} {W W' : World} {cs : Array Value} {t : TypeId} (h : Blk W k cs t) (ho : Outside n₀ n₁ W W') (hk : n₁ ≤ k) : Blk W' k cs t := (ho.beyond k hk h.lt).trans h
/-- Between two rounds. -/
def EvI (a : Option Addr) (n cap : Nat) (x y : Int) (fv : Value) (J : List St → World → Prop) (w0 w : World) (pre : List St) (W : World) : Prop :=
  J pre W ∧ Below w0.heap.size w0 W ∧ Blk W (w.heap.size + 1) #[fv] 66 ∧ Blk W w.heap.size #[.slice a n cap, .int .i64 x, .int .i64 y] 59
theorem wndB_not {x y : Int} (h : wndB x y = false) : x < -1125899906842624 ∨ (-1125899906842624 ≤ x ∧ 1125899906842624 < y) ∨ (-1125899906842624 ≤ x ∧ y ≤ 1125899906842624 ∧ y ≤ x) ∨ (-1125899906842624 ≤ x ∧ y ≤ 1125899906842624 ∧ x < y ∧ 8000 < y - x) := by
  unfold wndB at h
  have := of_decide_eq_false h
  omega
/-- The stretches that are handed on. -/
def evS (F : List Sg) (x y : Int) : List St := if badW F x y = 0 then strL F x y else []

set_option maxRecDepth 100000 in
set_option maxHeartbeats 2000000 in
theorem ev_c (F : List Sg) (x y : Int) (a : Option Addr) (cap gk : Nat) (lk : Array Value) (w0 w : World) (J : List St → World → Prop) (hl : F.length ≤ 1000000000) (hA : ArgS w0 a F) (hb : Below w0.heap.size w0 w)
    (eg : ∀ args w, (callFunc gk args).run Try.prog w = .ok (.enter gk args) w)
    (hJ : ∀ s A B, J s A → Below w.heap.size A B → J s B)
    (hE : badW F x y = 0 → ∀ pre s W, w.heap.size ≤ W.heap.size → J pre W → pre ++ [s] <+: strL F x y → Calls Try.prog gk (encS s ++ lk) W fun e W' => (∃ v, e = .returned v) ∧ J (pre ++ [s]) W' ∧ Outside w0.heap.size w.heap.size W W') (h0 : J [] w) :
    Calls Try.prog 34 #[WN a F.length cap x y, .func (.func gk) #[] lk] w fun e w' => e = .returned (.int .i64 (badW F x y)) ∧ J (evS F x y) w' ∧ Below w0.heap.size w0 w' := by
  have HA := hidE hA; have HJ := hidE hJ; have HE := hidE hE; have H0 := hidE h0; have HBW := hidE hb
  have HV := hidE (fun w hA => pmay_c F a cap w (by omega) hA)
  have HZ := hidE hb.size
  clear hJ hE h0 hb
  cases h1 : mayB F
  · have HS := hidE (show evS F x y = [] by unfold evS; rw [badW_form h1, if_neg (by decide)])
    rw [badW_form h1]
    rw [h1] at HV
    clear h1 hA
    go_enter Try.func34, Try.ntmps34
    go_wp2_with fail
    ((with_reducible refine (HV.out _ (HA.out.past (HBW.out.trans (Below.mono (by (repeat (first | exact Below.refl _ _ | assumption | refine balloc ?_ _ | refine below_drewN ?_ _ | refine bstep (by assumption) ?_ | refine bstep (Past.prop _) ?_ | refine Below.setCell ?_ (by first | exact Nat.le_refl _ | (simp; done) | (simp; omega)) _))) HBW.out.size)))).mono ?_); rintro e w1 ⟨rfl, hb1⟩)
    have HB1 := hidE (show Below w.heap.size w w1 by (repeat (first | exact Below.refl _ _ | assumption | refine balloc ?_ _ | refine below_drewN ?_ _ | refine bstep (by assumption) ?_ | refine bstep (Past.prop _) ?_ | refine Below.setCell ?_ (by first | exact Nat.le_refl _ | (simp; done) | (simp; omega)) _)))
    clear hb1
    go_wp2
    go_ret
    exact ⟨rfl, by rw [HS.out]; exact HJ.out _ _ _ H0.out HB1.out, HBW.out.trans (HB1.out.mono HZ.out)⟩
  rw [h1] at HV
  cases h2 : wndB x y
  · have HS := hidE (show evS F x y = [] by unfold evS; rw [badW_arg h1 h2, if_neg (by decide)])
    rw [badW_arg h1 h2]
    have hq := wndB_not h2
    clear h1 h2 hA
    rcases hq with h | ⟨h, h'⟩ | ⟨h, h', h2⟩ | ⟨h, h', h2, h3⟩
    · have e1 : decide (x < -1125899906842624) = true := decide_eq_true h
      go_enter Try.func34, Try.ntmps34
      go_wp2_with fail
      ((with_reducible refine (HV.out _ (HA.out.past (HBW.out.trans (Below.mono (by (repeat (first | exact Below.refl _ _ | assumption | refine balloc ?_ _ | refine below_drewN ?_ _ | refine bstep (by assumption) ?_ | refine bstep (Past.prop _) ?_ | refine Below.setCell ?_ (by first | exact Nat.le_refl _ | (simp; done) | (simp; omega)) _))) HBW.out.size)))).mono ?_); rintro e w1 ⟨rfl, hb1⟩)
      have HB1 := hidE (show Below w.heap.size w w1 by (repeat (first | exact Below.refl _ _ | assumption | refine balloc ?_ _ | refine below_drewN ?_ _ | refine bstep (by assumption) ?_ | refine bstep (Past.prop _) ?_ | refine Below.setCell ?_ (by first | exact Nat.le_refl _ | (simp; done) | (simp; omega)) _)))
      have B1 := (Blk.alloc (Blk.made w #[.slice a F.length cap, .int .i64 x, .int .i64 y] 59) (Obj.cells #[Value.func (.func gk) #[] lk] 66)).past hb1
      have c1 := B1.cell 1; have c2 := B1.cell 2; have z1 := B1.lt
      simp at c1 c2
      clear hb1
      go_wp2
      go_ret
      exact ⟨rfl, by rw [HS.out]; exact HJ.out _ _ _ H0.out HB1.out, HBW.out.trans (HB1.out.mono HZ.out)⟩
    · have e0 : decide (x < -1125899906842624) = false := decide_eq_false (by omega)
      have e1 : decide (1125899906842624 < y) = true := decide_eq_true (by omega)
      go_enter Try.func34, Try.ntmps34
      go_wp2_with fail
      ((with_reducible refine (HV.out _ (HA.out.past (HBW.out.trans (Below.mono (by (repeat (first | exact Below.refl _ _ | assumption | refine balloc ?_ _ | refine below_drewN ?_ _ | refine bstep (by assumption) ?_ | refine bstep (Past.prop _) ?_ | refine Below.setCell ?_ (by first | exact Nat.le_refl _ | (simp; done) | (simp; omega)) _))) HBW.out.size)))).mono ?_); rintro e w1 ⟨rfl, hb1⟩)
      have HB1 := hidE (show Below w.heap.size w w1 by (repeat (first | exact Below.refl _ _ | assumption | refine balloc ?_ _ | refine below_drewN ?_ _ | refine bstep (by assumption) ?_ | refine bstep (Past.prop _) ?_ | refine Below.setCell ?_ (by first | exact Nat.le_refl _ | (simp; done) | (simp; omega)) _)))
      have B1 := (Blk.alloc (Blk.made w #[.slice a F.length cap, .int .i64 x, .int .i64 y] 59) (Obj.cells #[Value.func (.func gk) #[] lk] 66)).past hb1
      have c1 := B1.cell 1; have c2 := B1.cell 2; have z1 := B1.lt
      simp at c1 c2
      clear hb1
      go_wp2
      go_ret
      exact ⟨rfl, by rw [HS.out]; exact HJ.out _ _ _ H0.out HB1.out, HBW.out.trans (HB1.out.mono HZ.out)⟩
    · have e0 : decide (x < -1125899906842624) = false := decide_eq_false (by omega)
      have e1 : decide (1125899906842624 < y) = false := decide_eq_false (by omega)
      have e2 : decide (y ≤ x) = true := decide_eq_true (by omega)
      go_enter Try.func34, Try.ntmps34
      go_wp2_with fail
      ((with_reducible refine (HV.out _ (HA.out.past (HBW.out.trans (Below.mono (by (repeat (first | exact Below.refl _ _ | assumption | refine balloc ?_ _ | refine below_drewN ?_ _ | refine bstep (by assumption) ?_ | refine bstep (Past.prop _) ?_ | refine Below.setCell ?_ (by first | exact Nat.le_refl _ | (simp; done) | (simp; omega)) _))) HBW.out.size)))).mono ?_); rintro e w1 ⟨rfl, hb1⟩)
      have HB1 := hidE (show Below w.heap.size w w1 by (repeat (first | exact Below.refl _ _ | assumption | refine balloc ?_ _ | refine below_drewN ?_ _ | refine bstep (by assumption) ?_ | refine bstep (Past.prop _) ?_ | refine Below.setCell ?_ (by first | exact Nat.le_refl _ | (simp; done) | (simp; omega)) _)))
      have B1 := (Blk.alloc (Blk.made w #[.slice a F.length cap, .int .i64 x, .int .i64 y] 59) (Obj.cells #[Value.func (.func gk) #[] lk] 66)).past hb1
      have c1 := B1.cell 1; have c2 := B1.cell 2; have z1 := B1.lt
      simp at c1 c2
      clear hb1
      go_wp2
      go_ret
      exact ⟨rfl, by rw [HS.out]; exact HJ.out _ _ _ H0.out HB1.out, HBW.out.trans (HB1.out.mono HZ.out)⟩
    · have e0 : decide (x < -1125899906842624) = false := decide_eq_false (by omega)
      have e1 : decide (1125899906842624 < y) = false := decide_eq_false (by omega)
      have e2 : decide (y ≤ x) = false := decide_eq_false (by omega)
      have e3 : decide (8000 < y - x) = true := decide_eq_true (by omega)
      go_enter Try.func34, Try.ntmps34
      go_wp2_with fail
      ((with_reducible refine (HV.out _ (HA.out.past (HBW.out.trans (Below.mono (by (repeat (first | exact Below.refl _ _ | assumption | refine balloc ?_ _ | refine below_drewN ?_ _ | refine bstep (by assumption) ?_ | refine bstep (Past.prop _) ?_ | refine Below.setCell ?_ (by first | exact Nat.le_refl _ | (simp; done) | (simp; omega)) _))) HBW.out.size)))).mono ?_); rintro e w1 ⟨rfl, hb1⟩)
      have HB1 := hidE (show Below w.heap.size w w1 by (repeat (first | exact Below.refl _ _ | assumption | refine balloc ?_ _ | refine below_drewN ?_ _ | refine bstep (by assumption) ?_ | refine bstep (Past.prop _) ?_ | refine Below.setCell ?_ (by first | exact Nat.le_refl _ | (simp; done) | (simp; omega)) _)))
      have B1 := (Blk.alloc (Blk.made w #[.slice a F.length cap, .int .i64 x, .int .i64 y] 59) (Obj.cells #[Value.func (.func gk) #[] lk] 66)).past hb1
      have c1 := B1.cell 1; have c2 := B1.cell 2; have z1 := B1.lt
      simp at c1 c2
      clear hb1
      go_wp2
      go_ret
      exact ⟨rfl, by rw [HS.out]; exact HJ.out _ _ _ H0.out HB1.out, HBW.out.trans (HB1.out.mono HZ.out)⟩
  · have HS := hidE (show evS F x y = strL F x y by unfold evS; rw [badW_ok h1 h2, if_pos rfl])
    rw [badW_ok h1 h2]
    have HE := hidE (HE.out (badW_ok h1 h2))
    rw [wndB_iff] at h2
    have e0 : decide (x < -1125899906842624) = false := decide_eq_false (by omega)
    have e1 : decide (1125899906842624 < y) = false := decide_eq_false (by omega)
    have e2 : decide (y ≤ x) = false := decide_eq_false (by omega)
    have e3 : decide (8000 < y - x) = false := decide_eq_false (by omega)
    have HSEQ := hidE (fun w' hb => str_c F x y a cap w0 w' hl hA hb)
    clear h1 hA
    refine (callsIn_wide (n := 0)).1 (callsIn_of_wp_marks Try.func34 rfl trivial ((wpIn_wide (n := 0)).2 ?_))
    simp only [Try.ntmps34, List.size_toArray, List.length_cons, List.length_nil, Nat.reduceAdd, Nat.reduceSub, Array.replicate_succ, Array.replicate_zero, List.push_toArray, List.append_toArray, List.nil_append, List.cons_append]
    go_wp2_with fail
    ((with_reducible refine (HV.out _ (HA.out.past (HBW.out.trans (Below.mono (by (repeat (first | exact Below.refl _ _ | assumption | refine balloc ?_ _ | refine below_drewN ?_ _ | refine bstep (by assumption) ?_ | refine bstep (Past.prop _) ?_ | refine Below.setCell ?_ (by first | exact Nat.le_refl _ | (simp; done) | (simp; omega)) _))) HBW.out.size)))).mono ?_); rintro e w1 ⟨rfl, hb1⟩)
    have HB1 := hidE (show Below w.heap.size w w1 by (repeat (first | exact Below.refl _ _ | assumption | refine balloc ?_ _ | refine below_drewN ?_ _ | refine bstep (by assumption) ?_ | refine bstep (Past.prop _) ?_ | refine Below.setCell ?_ (by first | exact Nat.le_refl _ | (simp; done) | (simp; omega)) _)))
    have B1 := (Blk.alloc (Blk.made w #[.slice a F.length cap, .int .i64 x, .int .i64 y] 59) (Obj.cells #[Value.func (.func gk) #[] lk] 66)).past hb1
    have B2 := (Blk.made_at (w.alloc (Obj.cells #[.slice a F.length cap, .int .i64 x, .int .i64 y] 59)) #[Value.func (.func gk) #[] lk] 66 (w.heap.size + 1) (by simp)).past hb1
    have c0 := B1.cell 0; have c1 := B1.cell 1; have c2 := B1.cell 2; have z1 := B1.lt; have z2 := B2.lt
    simp at c0 c1 c2
    have HK1 := hidE B1; have HK2 := hidE B2
    clear hb1 B1 B2
    go_wp2
    have hn0 : w0.heap.size ≤ w1.heap.size := Nat.le_trans HZ.out HB1.out.size
    have hI0 : EvI a F.length cap x y (.func (.func gk) #[] lk) J w0 w [] w1 := ⟨HJ.out _ _ _ H0.out HB1.out, HBW.out.trans (HB1.out.mono HZ.out), HK2.out, HK1.out⟩
    clear e0 e1 e2 e3 c0 c1 c2 h2 HV
    refine wp_rangeFunc_T (n₀ := w0.heap.size) (S := strL F x y) rfl (enters_of Try.func39 (by kernel_rfl) rfl) hn0 (HSEQ.out _ hI0.2.1) (fun _ => rfl)
      (EvI a F.length cap x y (.func (.func gk) #[] lk) J w0 w) (fun _ _ _ => False)
      (fun s A B h hb => ⟨HJ.out _ _ _ h.1 (hb.mono HB1.out.size), h.2.1.trans (hb.mono hn0), h.2.2.1.below hb z2, h.2.2.2.below hb z1⟩) (fun c s A B h hb => h.elim) hI0
      (fun s a1 W => ∃ (Bx : Nat) (u0 u1 u2 u4 u6 u7 u8 u9 u10 u11 u12 u13 u14 u15 u16 u17 u18 u19 u20 u21 u22 u23 u24 u25 u26 u27 u28 u29 u30 u31 u32 u33 u34 u35 u36 u37 u38 : Value), w1.heap.size ≤ Bx ∧ Blk W Bx #[.int .i64 s.1, .int .i64 s.2.1, .int .i64 s.2.2.1, .int .i64 s.2.2.2] 64 ∧ a1 = { tmps := #[u0, u1, u2, .pointer (some ⟨w.heap.size + 1, 0, none⟩), u4, .pointer (some ⟨Bx, 0, none⟩), u6, u7, u8, u9, u10, u11, u12, u13, u14, u15, u16, u17, u18, u19, u20, u21, u22, u23, u24, u25, u26, u27, u28, u29, u30, u31, u32, u33, u34, u35, u36, u37, u38], defers := [] })
      ?hax ?assign ?body ?done ?stop
    case hax =>
      rintro p a1 A l r o ⟨Bx, u0, u1, u2, u4, u6, u7, u8, u9, u10, u11, u12, u13, u14, u15, u16, u17, u18, u19, u20, u21, u22, u23, u24, u25, u26, u27, u28, u29, u30, u31, u32, u33, u34, u35, u36, u37, u38, h1, h2, h3⟩ hlr
      exact ⟨Bx, _, _, _, _, _, _, _, _, _, _, _, _, _, _, _, _, _, _, _, _, _, _, _, _, _, _, _, _, _, _, _, _, _, _, _, _, _, h1, (World.putObj_heap_other (fun e => by subst e; rw [show A.heap[Bx]? = _ from h2] at hlr; cases hlr)).trans h2, h3⟩
    case assign =>
      intro l pre s W K hsz hi hK
      dsimp only [encS]
      gi_wp2
      refine hK _ _ (Outside.of_below ((Below.refl _ _).alloc (Nat.le_refl _) _) (by omega)) ⟨HJ.out _ _ _ hi.1 ((Below.refl _ _).alloc (by omega) _), hi.2.1.alloc (by omega) _, hi.2.2.1.alloc _, hi.2.2.2.alloc _⟩ ⟨W.heap.size, _, _, _, _, _, _, _, _, _, _, _, _, _, _, _, _, _, _, _, _, _, _, _, _, _, _, _, _, _, _, _, _, _, _, _, _, _, by omega, Blk.made _ _ _, rfl⟩
    case body =>
      rintro l pre s a1 W hsz ⟨i1, i2, i3, i4⟩ ⟨Bx, u0, u1, u2, u4, u6, u7, u8, u9, u10, u11, u12, u13, u14, u15, u16, u17, u18, u19, u20, u21, u22, u23, u24, u25, u26, u27, u28, u29, u30, u31, u32, u33, u34, u35, u36, u37, u38, hBx, bX, rfl⟩ hpre
      have HC := hidE (HE.out pre s W (by omega) i1 hpre)
      have y0 := bX.cell 0; have y1 := bX.cell 1; have y2 := bX.cell 2; have y3 := bX.cell 3; have yz := bX.lt
      have t0 := i3.cell 0; have t1 := i3.lt
      simp at y0 y1 y2 y3 t0
      clear hI0 HSEQ
      gi_wp2_with fail
      refine ⟨trivial, rfl, (CallsIn.inRound l (callsIn_wide.2 HC.out)).mono ?_⟩
      rintro e w3 ⟨⟨v, rfl⟩, hJ3, hO⟩
      gi_wp2
      have hO' : Outside w0.heap.size w1.heap.size W w3 := hO.weak (by omega)
      exact ⟨hO', hJ3, i2.trans hO.below, outBlk i3 hO (by omega), outBlk i4 hO (by omega)⟩
    case done =>
      rintro D W hD ⟨i1, i2, i3, i4⟩ hK
      clear hI0 HSEQ
      go_wp2
      refine ⟨by simp, .inl ⟨_, _, rfl, run_takeDeferred hK, ?_⟩⟩
      refine ⟨.int .i64 0, by simp [results, Try.results34, go_sem], rfl, by rw [HS.out]; exact HJ.out _ _ _ i1 (below_putObj _ _ _ (by omega)), i2.trans (below_putObj _ _ _ (by omega))⟩
    case stop =>
      rintro D c pre W hD hpre h hK
      exact h.elim
end Go.Proofs.Ythgenmejjflceaa

namespace Go.Proofs.Ythgenmejjflceaa
open Go.ChangeShapes Go.WideShapes Go.ChangeAt Go.RowKit Go.Shelf
attribute [local irreducible] Go.Calls

theorem wrap_add {a b : Int} (h : -9223372036854775808 ≤ a + b) (h2 : a + b ≤ 9223372036854775807) : wrap64 (a + wrap64 b) = a + b := by unfold wrap64; omega
set_option maxHeartbeats 1000000 in
theorem along_c (a b n c d : Int) (w : World) (h1 : -9223372036854775808 ≤ a + n * c ∧ a + n * c ≤ 9223372036854775807) (h2 : -9223372036854775808 ≤ b + n * d ∧ b + n * d ≤ 9223372036854775807) :
    Calls Try.prog 36 #[V a b, .int .i64 n, V c d] w fun e w' => e = .returned (V (a + n * c) (b + n * d)) ∧ Below w.heap.size w w' := by
  have H1 := hidE (wrap_add h1.1 h1.2); have H2 := hidE (wrap_add h2.1 h2.2)
  clear h1 h2
  go_enter Try.func36, Try.ntmps36
  go_wp2
  refine bodyPost_ret (v := V (a + n * c) (b + n * d)) ?_ rfl ⟨rfl, ?_⟩
  · have q1 := H1.out; have q2 := H2.out
    simp [results, Try.results36, go_sem, q1, q2]
  · (repeat (first | exact Below.refl _ _ | assumption | refine balloc ?_ _ | refine below_drewN ?_ _ | refine bstep (by assumption) ?_ | refine bstep (Past.prop _) ?_ | refine Below.setCell ?_ (by first | exact Nat.le_refl _ | (simp; done) | (simp; omega)) _))

/-- What the closure keeps. -/
theorem addcl_c (s : St) (p : Nat) (acc : Int × Int) (w : World) (hB : Blk w p #[.int .i64 acc.1, .int .i64 acc.2] 26)
    (h0 : -9223372036854775808 ≤ s.2.1 - s.1 ∧ s.2.1 - s.1 ≤ 9223372036854775807)
    (h1 : -9223372036854775808 ≤ (addG acc s).1 ∧ (addG acc s).1 ≤ 9223372036854775807) (h2 : -9223372036854775808 ≤ (addG acc s).2 ∧ (addG acc s).2 ≤ 9223372036854775807) :
    Calls Try.prog 35 (encS s ++ #[.pointer (some ⟨p, 0, none⟩)]) w fun e w' => (∃ v, e = .returned v) ∧ Blk w' p #[.int .i64 (addG acc s).1, .int .i64 (addG acc s).2] 26 ∧ w.grownBy w' (some p) := by
  have HC := hidE (fun w => along_c acc.1 acc.2 (s.2.1 - s.1) s.2.2.1 s.2.2.2 w h1 h2)
  have e0 := hB.cell 0; have e1 := hB.cell 1; have ef := hB.free; have ez := hB.lt
  simp at e0 e1
  have HB := hidE hB
  have HG := hidE (show addG acc s = (acc.1 + (s.2.1 - s.1) * s.2.2.1, acc.2 + (s.2.1 - s.1) * s.2.2.2) from rfl)
  clear h1 h2 hB
  rw [HG.out]
  show Calls _ _ #[.agg #[.int .i64 s.1, .int .i64 s.2.1, .int .i64 s.2.2.1, .int .i64 s.2.2.2], .pointer (some ⟨p, 0, none⟩)] _ _
  generalize acc.1 + (s.2.1 - s.1) * s.2.2.1 = q1 at *
  generalize acc.2 + (s.2.1 - s.1) * s.2.2.2 = q2 at *
  go_enter Try.func35, Try.ntmps35
  go_wp2_with fail
  ((with_reducible refine (HC.out _).mono ?_); rintro e w1 ⟨rfl, hb1⟩)
  have hb : Below w.heap.size w w1 := by (repeat (first | exact Below.refl _ _ | assumption | refine balloc ?_ _ | refine below_drewN ?_ _ | refine bstep (by assumption) ?_ | refine bstep (Past.prop _) ?_ | refine Below.setCell ?_ (by first | exact Nat.le_refl _ | (simp; done) | (simp; omega)) _))
  have B1 := HB.out.below hb ez
  clear hb1 e0 e1 ef ez
  have e0 := B1.cell 0; have e1 := B1.cell 1; have ef := B1.free; have ez := B1.lt
  simp at e0 e1
  go_wp2
  go_end0
  refine ⟨⟨_, rfl⟩, by simpa using (B1.set 0 (.int .i64 q1)).set 1 (.int .i64 q2), ?_⟩
  exact grown_trans (grown_trans (grown_any hb) (grown_set _ _ _ _)) (grown_set _ _ _ _)

/-- The sum so far. -/
def sumJ (F : List Sg) (x : Int) (p : Nat) (pre : List St) (W : World) : Prop :=
  Blk W p #[.int .i64 (sumN F x (endG x pre - x).toNat).1, .int .i64 (sumN F x (endG x pre - x).toNat).2] 26
set_option maxHeartbeats 1000000 in
theorem sum_c (F : List Sg) (x y : Int) (a : Option Addr) (cap : Nat) (w : World) (hl : F.length ≤ 1000000000) (hA : ArgS w a F) :
    Calls Try.prog 14 #[.slice a F.length cap, .int .i64 x, .int .i64 y] w fun e w' => e = .returned (VE (totS F x y)) ∧ Below w.heap.size w w' := by
  obtain ⟨w0, hw0⟩ : ∃ w0, w0 = w.alloc (Obj.cells #[.int .i64 0, .int .i64 0] 26) := ⟨_, rfl⟩
  have hz0 : w0.heap.size = w.heap.size + 1 := by rw [hw0]; simp
  have hA0 : ArgS w0 a F := hA.past (by rw [hw0]; (repeat (first | exact Below.refl _ _ | assumption | refine balloc ?_ _ | refine below_drewN ?_ _ | refine bstep (by assumption) ?_ | refine bstep (Past.prop _) ?_ | refine Below.setCell ?_ (by first | exact Nat.le_refl _ | (simp; done) | (simp; omega)) _)))
  have HEV := hidE (fun (w' : World) (hb : Below w0.heap.size w0 w') (hB : Blk w' (w.heap.size + 1) #[.int .i64 0, .int .i64 0] 26) => ev_c F x y a cap 35 #[.pointer (some ⟨w.heap.size + 1, 0, none⟩)] w0 w' (sumJ F x (w.heap.size + 1)) hl hA0 hb
    (enters_of Try.func35 (by kernel_rfl) rfl) (fun s A B h hb2 => h.below hb2 hB.lt)
    (fun hbad pre s W hz hJ hpre => by
      obtain ⟨hm, hwn⟩ := badW_zero.1 hbad
      rw [wndB_iff] at hwn
      obtain ⟨k1, k2, k3, k4, k5⟩ := str_at (mayB_iff.1 hm) hpre
      have hsum := add_str (F := F) k2 k3 k5
      have hle := sumN_le (CF.ok (mayB_iff.1 hm)) x (s.2.1 - x).toNat
      have hke : (s.2.1 - x).toNat ≤ 8000 := by omega
      unfold sumJ at hJ
      rw [← k1] at hJ
      have hq : ((((s.2.1 - x).toNat : Nat)) : Int) ≤ 8000 := by omega
      have hm2 : (1125899906842624 : Int) * (((s.2.1 - x).toNat : Nat)) ≤ 9007199254740992000 := by omega
      refine (addcl_c s (w.heap.size + 1) (sumN F x (s.1 - x).toNat) W hJ (by omega) (by rw [← hsum]; omega) (by rw [← hsum]; omega)).mono ?_
      rintro e W' ⟨hv, hB2, hg⟩
      refine ⟨hv, ?_, Outside.of_grown hg (by omega) hB.lt (Nat.le_trans hb.size hz)⟩
      unfold sumJ
      rw [endG_snoc, hsum]
      exact hB2)
    (by unfold sumJ; rw [show endG x [] - x = 0 from Int.sub_self x]; exact hB))
  have HT := hidE (show totS F x y = ((sumN F x (endG x (evS F x y) - x).toNat).1, (sumN F x (endG x (evS F x y) - x).toNat).2, badW F x y) from by
    by_cases hq : badW F x y = 0
    · obtain ⟨hm, hwn⟩ := badW_zero.1 hq
      rw [wndB_iff] at hwn
      rw [totS_ok hq, show evS F x y = strL F x y from if_pos hq, str_end (mayB_iff.1 hm) (by omega), hq]
    · rw [totS_no hq, show evS F x y = [] from if_neg hq, show endG x [] - x = 0 from Int.sub_self x]; rfl)
  clear hA hA0
  rw [HT.out]
  unfold sumJ at HEV
  generalize sumN F x (endG x (evS F x y) - x).toNat = q at *
  generalize badW F x y = er at *
  have HB00 := hidE (show Blk w0 w.heap.size #[.int .i64 0, .int .i64 0] 26 by rw [hw0]; exact Blk.made _ _ _)
  have HBW := hidE (show Below w.heap.size w w0 by rw [hw0]; (repeat (first | exact Below.refl _ _ | assumption | refine balloc ?_ _ | refine below_drewN ?_ _ | refine bstep (by assumption) ?_ | refine bstep (Past.prop _) ?_ | refine Below.setCell ?_ (by first | exact Nat.le_refl _ | (simp; done) | (simp; omega)) _)))
  go_enter Try.func14, Try.ntmps14
  go_wp2_with fail
  rw [← hw0]
  ((with_reducible refine (HEV.out _ ?hb0 ?hB0).mono ?_)); case hb0 => exact (Below.refl _ w0).alloc (Nat.le_refl _) _
  case hB0 => exact Blk.made_at _ _ _ _ (by omega)
  rintro e w1 ⟨rfl, hB1, hb1⟩
  have B0 := HB00.out.below hb1 (by omega)
  have e0 := hB1.cell 0; have e1 := hB1.cell 1; have ez := hB1.lt; have d0 := B0.cell 0; have d1 := B0.cell 1; have df := B0.free; have dz := B0.lt
  simp at e0 e1 d0 d1
  have B2 := (B0.set 0 (.int .i64 q.1)).set 1 (.int .i64 q.2)
  have g0 := B2.cell 0; have g1 := B2.cell 1
  simp at g0 g1
  have HBB := hidE (HBW.out.trans (hb1.mono (by omega)))
  clear hB1 hb1 B0 B2
  go_wp2
  refine bodyPost_ret (v := VE (q.1, q.2, er)) (by simp [results, Try.results14, go_sem, g0, g1]) rfl ⟨rfl, ?_⟩
  exact (HBB.out.setCell (p := ⟨w.heap.size, 0, none⟩) (Nat.le_refl _) _).setCell (p := ⟨w.heap.size, 1, none⟩) (Nat.le_refl _) _
end Go.Proofs.Ythgenmejjflceaa

namespace Go.Proofs.Ythgenmejjflceaa
open Go.ChangeShapes Go.WideShapes Go.ChangeAt Go.RowKit Go.Shelf
attribute [local irreducible] Go.Calls

/-- What the closure keeps. -/
theorem lowcl_c (s : St) (p p0 p2 n cap : Nat) (a : Option Addr) (x y : Int) (v r : Int × Int) (w : World) (hB : Blk w p #[.int .i64 v.1, .int .i64 v.2] 26)
    (hW : Blk w p0 #[.slice a n cap, .int .i64 x, .int .i64 y] 59) (hP : Blk w p2 #[.func (.func 30) #[] #[]] 55) (_hp0 : p0 ≠ p) (hp2 : p2 ≠ p)
    (hr : r = if s.1 = x then (mn s.2.2.1 s.2.2.1, mn s.2.2.2 s.2.2.2) else (mn v.1 s.2.2.1, mn v.2 s.2.2.2)) :
    Calls Try.prog 50 (encS s ++ #[.pointer (some ⟨p0, 0, none⟩), .pointer (some ⟨p, 0, none⟩), .pointer (some ⟨p2, 0, none⟩)]) w fun e w' => (∃ v, e = .returned v) ∧ Blk w' p #[.int .i64 r.1, .int .i64 r.2] 26 ∧ w.grownBy w' (some p) := by
  have c0 := hB.cell 0; have c1 := hB.cell 1; have cf := hB.free; have cz := hB.lt; have d1 := hW.cell 1; have dz := hW.lt; have g0 := hP.cell 0; have gz := hP.lt
  simp at c0 c1 d1 g0
  have HB := hidE hB; have HP := hidE hP
  have HR := hidE hr
  clear hB hW hP hr
  show Calls _ _ #[.agg #[.int .i64 s.1, .int .i64 s.2.1, .int .i64 s.2.2.1, .int .i64 s.2.2.2], .pointer (some ⟨p0, 0, none⟩), .pointer (some ⟨p, 0, none⟩), .pointer (some ⟨p2, 0, none⟩)] _ _
  by_cases hx : s.1 = x
  · have hd : (s.1 == x) = true := beq_iff_eq.2 hx
    have HR2 := hidE (HR.out.trans (if_pos hx))
    have HC := hidE (fun w => mn_c s.2.2.1 s.2.2.2 s.2.2.1 s.2.2.2 w)
    rw [HR2.out]
    clear hx HR
    generalize mn s.2.2.1 s.2.2.1 = q1 at *
    generalize mn s.2.2.2 s.2.2.2 = q2 at *
    go_enter Try.func50, Try.ntmps50
    go_upto_region 3 with fail
    go_wp2_with fail
    ((with_reducible refine (HC.out _).mono ?_); rintro e w1 ⟨rfl, hb1⟩)
    have hg : w.grownBy w1 (some p) := grown_trans (grown_trans (grown_trans (grown_set _ _ _ _) (grown_set _ _ _ _)) (grown_alloc _ _ _)) (grown_any hb1)
    have B1 : Blk w1 p #[.int .i64 s.2.2.1, .int .i64 s.2.2.2] 26 := by
      have := ((((HB.out.set 0 (.int .i64 s.2.2.1)).set 1 (.int .i64 s.2.2.2)).alloc (Obj.cells #[.int .i64 s.1, .int .i64 s.2.1, .int .i64 s.2.2.1, .int .i64 s.2.2.2] 64))).past hb1
      simpa using this
    have hg' := hidE hg; have HB1 := hidE B1
    have e0 := B1.cell 0; have e1 := B1.cell 1; have ef := B1.free; have ez := B1.lt
    simp at e0 e1
    clear hg B1 hb1 c0 c1 cf cz d1 dz g0 gz
    go_wp2
    go_end0
    refine ⟨⟨_, rfl⟩, by simpa using (HB1.out.set 0 (.int .i64 q1)).set 1 (.int .i64 q2), ?_⟩
    exact grown_trans (grown_trans hg'.out (grown_set _ _ _ _)) (grown_set _ _ _ _)
  · have hd : (s.1 == x) = false := beq_eq_false_iff_ne.2 hx
    have HR2 := hidE (HR.out.trans (if_neg hx))
    have HC := hidE (fun w => mn_c v.1 v.2 s.2.2.1 s.2.2.2 w)
    rw [HR2.out]
    clear hx HR
    generalize mn v.1 s.2.2.1 = q1 at *
    generalize mn v.2 s.2.2.2 = q2 at *
    go_enter Try.func50, Try.ntmps50
    go_upto_region 3 with fail
    go_wp2_with fail
    ((with_reducible refine (HC.out _).mono ?_); rintro e w1 ⟨rfl, hb1⟩)
    have hg : w.grownBy w1 (some p) := grown_trans (grown_alloc _ _ _) (grown_any hb1)
    have B1 : Blk w1 p #[.int .i64 v.1, .int .i64 v.2] 26 := (HB.out.alloc (Obj.cells #[.int .i64 s.1, .int .i64 s.2.1, .int .i64 s.2.2.1, .int .i64 s.2.2.2] 64)).past hb1
    have hg' := hidE hg; have HB1 := hidE B1
    have e0 := B1.cell 0; have e1 := B1.cell 1; have ef := B1.free; have ez := B1.lt
    simp at e0 e1
    clear hg B1 hb1 c0 c1 cf cz d1 dz g0 gz
    go_wp2
    go_end0
    refine ⟨⟨_, rfl⟩, by simpa using (HB1.out.set 0 (.int .i64 q1)).set 1 (.int .i64 q2), ?_⟩
    exact grown_trans (grown_trans hg'.out (grown_set _ _ _ _)) (grown_set _ _ _ _)
/-- The value so far. -/
def lowV (F : List Sg) (x z : Int) : Int × Int := if z = x then (0, 0) else lowN F x (z - x).toNat
def lowJ (F : List Sg) (x : Int) (w : World) (wn pk : Array Value) (pre : List St) (W : World) : Prop :=
  Blk W (w.heap.size + 1 + 1 + 1) #[.int .i64 (lowV F x (endG x pre)).1, .int .i64 (lowV F x (endG x pre)).2] 26 ∧ Blk W w.heap.size wn 59 ∧ Blk W (w.heap.size + 1) pk 55
theorem lowV_step {F : List Sg} {x : Int} {s : St} (hx : x ≤ s.1) (h : s.1 < s.2.1) (hv : ∀ t, s.1 ≤ t → t < s.2.1 → vat F t = s.2.2) :
    lowV F x s.2.1 = if s.1 = x then (mn s.2.2.1 s.2.2.1, mn s.2.2.2 s.2.2.2) else (mn (lowV F x s.1).1 s.2.2.1, mn (lowV F x s.1).2 s.2.2.2) := by
  have e := low_str hx h hv
  unfold lowV
  rw [if_neg (by omega), e]
  by_cases c : s.1 = x
  · rw [if_pos c, c, Int.sub_self]
    have : lowN F x (Int.toNat 0) = s.2.2 := by
      show vat F x = s.2.2
      exact hv x (by omega) (by omega)
    rw [this]
  · rw [if_neg c, if_neg c]

set_option maxHeartbeats 1000000 in
theorem lowex_c (F : List Sg) (x y : Int) (a : Option Addr) (cap : Nat) (w : World) (hl : F.length ≤ 1000000000) (hA : ArgS w a F) :
    Calls Try.prog 29 #[WN a F.length cap x y, .func (.func 30) #[] #[]] w fun e w' => e = .returned (VE (lowS F x y)) ∧ Below w.heap.size w w' := by
  obtain ⟨w0, hw0⟩ : ∃ w0, w0 = ((w.alloc (Obj.cells #[.slice a F.length cap, .int .i64 x, .int .i64 y] 59)).alloc (Obj.cells #[.func (.func 30) #[] #[]] 55)).alloc (Obj.cells #[.int .i64 0, .int .i64 0] 26) := ⟨_, rfl⟩
  have hz0 : w0.heap.size = w.heap.size + 1 + 1 + 1 := by rw [hw0]; simp
  have hbw0 : Below w.heap.size w w0 := by rw [hw0]; (repeat (first | exact Below.refl _ _ | assumption | refine balloc ?_ _ | refine below_drewN ?_ _ | refine bstep (by assumption) ?_ | refine bstep (Past.prop _) ?_ | refine Below.setCell ?_ (by first | exact Nat.le_refl _ | (simp; done) | (simp; omega)) _))
  have hA0 : ArgS w0 a F := hA.past hbw0
  have HB0 := hidE (show Blk w0 w.heap.size #[.slice a F.length cap, .int .i64 x, .int .i64 y] 59 by rw [hw0]; exact ((Blk.made _ _ _).alloc _).alloc _)
  have HB1 := hidE (show Blk w0 (w.heap.size + 1) #[.func (.func 30) #[] #[]] 55 by rw [hw0]; exact (Blk.made_at _ _ _ _ (by simp)).alloc _)
  have HB2 := hidE (show Blk w0 (w.heap.size + 1 + 1) #[.int .i64 0, .int .i64 0] 26 by rw [hw0]; exact Blk.made_at _ _ _ _ (by simp))
  have HEV := hidE (fun (w' : World) (hb : Below w0.heap.size w0 w') (hB : Blk w' (w.heap.size + 1 + 1 + 1) #[.int .i64 0, .int .i64 0] 26) => ev_c F x y a cap 50 #[.pointer (some ⟨w.heap.size, 0, none⟩), .pointer (some ⟨w.heap.size + 1 + 1 + 1, 0, none⟩), .pointer (some ⟨w.heap.size + 1, 0, none⟩)] w0 w'
    (fun pre W => lowJ F x w #[.slice a F.length cap, .int .i64 x, .int .i64 y] #[.func (.func 30) #[] #[]] pre W) hl hA0 hb
    (enters_of Try.func50 (by kernel_rfl) rfl) (fun s A B h hb2 => ⟨h.1.below hb2 hB.lt, h.2.1.below hb2 (by have := hB.lt; omega), h.2.2.below hb2 (by have := hB.lt; omega)⟩)
    (fun hbad pre s W hz hJ hpre => by
      obtain ⟨hm, hwn⟩ := badW_zero.1 hbad
      obtain ⟨k1, k2, k3, k4, k5⟩ := str_at (mayB_iff.1 hm) hpre
      obtain ⟨j1, j2, j3⟩ := hJ
      rw [← k1] at j1
      refine (lowcl_c s (w.heap.size + 1 + 1 + 1) w.heap.size (w.heap.size + 1) F.length cap a x y (lowV F x s.1) (lowV F x s.2.1) W j1 j2 j3 (by omega) (by omega) (lowV_step k2 k3 k5)).mono ?_
      rintro e W' ⟨hv, hB2, hg⟩
      refine ⟨hv, ⟨?_, j2.grown hg (by simp; omega), j3.grown hg (by simp)⟩, Outside.of_grown hg (by omega) hB.lt (Nat.le_trans hb.size hz)⟩
      rw [endG_snoc]
      exact hB2)
    ⟨by rw [show lowV F x (endG x []) = (0, 0) from if_pos rfl]; exact hB, HB0.out.below hb (by omega), HB1.out.below hb (by omega)⟩)
  have HT := hidE (show lowS F x y = ((lowV F x (endG x (evS F x y))).1, (lowV F x (endG x (evS F x y))).2, badW F x y) from by
    by_cases hq : badW F x y = 0
    · obtain ⟨hm, hwn⟩ := badW_zero.1 hq
      rw [wndB_iff] at hwn
      rw [lowS_ok hq, show evS F x y = strL F x y from if_pos hq, str_end (mayB_iff.1 hm) (by omega), hq]
      unfold lowV
      rw [if_neg (by omega)]
    · rw [lowS_no hq, show evS F x y = [] from if_neg hq, show lowV F x (endG x []) = (0, 0) from if_pos rfl])
  clear hA hA0
  rw [HT.out]
  unfold lowJ at HEV
  generalize lowV F x (endG x (evS F x y)) = q at *
  generalize badW F x y = er at *
  have HBW := hidE hbw0
  clear hbw0
  have c0 := HB0.out.cell 0; have c1 := HB0.out.cell 1; have c2 := HB0.out.cell 2; have z0 := HB0.out.lt; have z2 := HB2.out.lt
  simp at c0 c1 c2
  go_enter Try.func29, Try.ntmps29
  go_wp2_with fail
  rw [← hw0]
  ((with_reducible refine (HEV.out _ ?hb0 ?hB0).mono ?_)); case hb0 => exact (Below.refl _ w0).alloc (Nat.le_refl _) _
  case hB0 => exact Blk.made_at _ _ _ _ (by omega)
  rintro e w1 ⟨rfl, ⟨hB1, _, _⟩, hb1⟩
  have B0 := HB2.out.below hb1 (by omega)
  clear c0 c1 c2 z0 z2
  have e0 := hB1.cell 0; have e1 := hB1.cell 1; have ez := hB1.lt; have d0 := B0.cell 0; have d1 := B0.cell 1; have df := B0.free; have dz := B0.lt
  simp at e0 e1 d0 d1
  have B2 := (B0.set 0 (.int .i64 q.1)).set 1 (.int .i64 q.2)
  have g0 := B2.cell 0; have g1 := B2.cell 1
  simp at g0 g1
  have HBB := hidE (HBW.out.trans (hb1.mono (by omega)))
  clear hB1 hb1 B0 B2
  go_wp2
  refine bodyPost_ret (v := VE (q.1, q.2, er)) (by simp [results, Try.results29, go_sem, g0, g1]) rfl ⟨rfl, ?_⟩
  exact (HBB.out.setCell (p := ⟨w.heap.size + 1 + 1, 0, none⟩) (by simp; omega) _).setCell (p := ⟨w.heap.size + 1 + 1, 1, none⟩) (by simp; omega) _

theorem low_c (F : List Sg) (x y : Int) (a : Option Addr) (cap : Nat) (w : World) (hl : F.length ≤ 1000000000) (hA : ArgS w a F) :
    Calls Try.prog 10 #[.slice a F.length cap, .int .i64 x, .int .i64 y] w fun e w' => e = .returned (VE (lowS F x y)) ∧ Below w.heap.size w w' := by
  have HA := hidE hA
  have HX := hidE (fun w' hA => lowex_c F x y a cap w' hl hA)
  clear hA
  generalize lowS F x y = q at *
  go_enter Try.func10, Try.ntmps10
  go_wp2_with fail
  ((with_reducible refine (HX.out _ (HA.out.past (by (repeat (first | exact Below.refl _ _ | assumption | refine balloc ?_ _ | refine below_drewN ?_ _ | refine bstep (by assumption) ?_ | refine bstep (Past.prop _) ?_ | refine Below.setCell ?_ (by first | exact Nat.le_refl _ | (simp; done) | (simp; omega)) _))))).mono ?_); rintro e w1 ⟨rfl, hb1⟩)
  have B0 := (Blk.made w #[.int .i64 0, .int .i64 0] 26).past hb1
  have d0 := B0.cell 0; have d1 := B0.cell 1; have df := B0.free; have dz := B0.lt
  simp at d0 d1
  have B2 := (B0.set 0 (.int .i64 q.1)).set 1 (.int .i64 q.2.1)
  have g0 := B2.cell 0; have g1 := B2.cell 1
  simp at g0 g1
  have hb : Below w.heap.size w w1 := by (repeat (first | exact Below.refl _ _ | assumption | refine balloc ?_ _ | refine below_drewN ?_ _ | refine bstep (by assumption) ?_ | refine bstep (Past.prop _) ?_ | refine Below.setCell ?_ (by first | exact Nat.le_refl _ | (simp; done) | (simp; omega)) _))
  have HBB := hidE hb
  clear B0 B2 hb hb1
  go_wp2
  refine bodyPost_ret (v := VE q) (by simp [results, Try.results10, go_sem, g0, g1]) rfl ⟨rfl, ?_⟩
  exact (HBB.out.setCell (p := ⟨w.heap.size, 0, none⟩) (Nat.le_refl _) _).setCell (p := ⟨w.heap.size, 1, none⟩) (Nat.le_refl _) _
/-- What the closure keeps. -/
theorem highcl_c (s : St) (p p0 p2 n cap : Nat) (a : Option Addr) (x y : Int) (v r : Int × Int) (w : World) (hB : Blk w p #[.int .i64 v.1, .int .i64 v.2] 26)
    (hW : Blk w p0 #[.slice a n cap, .int .i64 x, .int .i64 y] 59) (hP : Blk w p2 #[.func (.func 33) #[] #[]] 55) (_hp0 : p0 ≠ p) (hp2 : p2 ≠ p)
    (hr : r = if s.1 = x then (mx s.2.2.1 s.2.2.1, mx s.2.2.2 s.2.2.2) else (mx v.1 s.2.2.1, mx v.2 s.2.2.2)) :
    Calls Try.prog 50 (encS s ++ #[.pointer (some ⟨p0, 0, none⟩), .pointer (some ⟨p, 0, none⟩), .pointer (some ⟨p2, 0, none⟩)]) w fun e w' => (∃ v, e = .returned v) ∧ Blk w' p #[.int .i64 r.1, .int .i64 r.2] 26 ∧ w.grownBy w' (some p) := by
  have c0 := hB.cell 0; have c1 := hB.cell 1; have cf := hB.free; have cz := hB.lt; have d1 := hW.cell 1; have dz := hW.lt; have g0 := hP.cell 0; have gz := hP.lt
  simp at c0 c1 d1 g0
  have HB := hidE hB; have HP := hidE hP
  have HR := hidE hr
  clear hB hW hP hr
  show Calls _ _ #[.agg #[.int .i64 s.1, .int .i64 s.2.1, .int .i64 s.2.2.1, .int .i64 s.2.2.2], .pointer (some ⟨p0, 0, none⟩), .pointer (some ⟨p, 0, none⟩), .pointer (some ⟨p2, 0, none⟩)] _ _
  by_cases hx : s.1 = x
  · have hd : (s.1 == x) = true := beq_iff_eq.2 hx
    have HR2 := hidE (HR.out.trans (if_pos hx))
    have HC := hidE (fun w => mx_c s.2.2.1 s.2.2.2 s.2.2.1 s.2.2.2 w)
    rw [HR2.out]
    clear hx HR
    generalize mx s.2.2.1 s.2.2.1 = q1 at *
    generalize mx s.2.2.2 s.2.2.2 = q2 at *
    go_enter Try.func50, Try.ntmps50
    go_upto_region 3 with fail
    go_wp2_with fail
    ((with_reducible refine (HC.out _).mono ?_); rintro e w1 ⟨rfl, hb1⟩)
    have hg : w.grownBy w1 (some p) := grown_trans (grown_trans (grown_trans (grown_set _ _ _ _) (grown_set _ _ _ _)) (grown_alloc _ _ _)) (grown_any hb1)
    have B1 : Blk w1 p #[.int .i64 s.2.2.1, .int .i64 s.2.2.2] 26 := by
      have := ((((HB.out.set 0 (.int .i64 s.2.2.1)).set 1 (.int .i64 s.2.2.2)).alloc (Obj.cells #[.int .i64 s.1, .int .i64 s.2.1, .int .i64 s.2.2.1, .int .i64 s.2.2.2] 64))).past hb1
      simpa using this
    have hg' := hidE hg; have HB1 := hidE B1
    have e0 := B1.cell 0; have e1 := B1.cell 1; have ef := B1.free; have ez := B1.lt
    simp at e0 e1
    clear hg B1 hb1 c0 c1 cf cz d1 dz g0 gz
    go_wp2
    go_end0
    refine ⟨⟨_, rfl⟩, by simpa using (HB1.out.set 0 (.int .i64 q1)).set 1 (.int .i64 q2), ?_⟩
    exact grown_trans (grown_trans hg'.out (grown_set _ _ _ _)) (grown_set _ _ _ _)
  · have hd : (s.1 == x) = false := beq_eq_false_iff_ne.2 hx
    have HR2 := hidE (HR.out.trans (if_neg hx))
    have HC := hidE (fun w => mx_c v.1 v.2 s.2.2.1 s.2.2.2 w)
    rw [HR2.out]
    clear hx HR
    generalize mx v.1 s.2.2.1 = q1 at *
    generalize mx v.2 s.2.2.2 = q2 at *
    go_enter Try.func50, Try.ntmps50
    go_upto_region 3 with fail
    go_wp2_with fail
    ((with_reducible refine (HC.out _).mono ?_); rintro e w1 ⟨rfl, hb1⟩)
    have hg : w.grownBy w1 (some p) := grown_trans (grown_alloc _ _ _) (grown_any hb1)
    have B1 : Blk w1 p #[.int .i64 v.1, .int .i64 v.2] 26 := (HB.out.alloc (Obj.cells #[.int .i64 s.1, .int .i64 s.2.1, .int .i64 s.2.2.1, .int .i64 s.2.2.2] 64)).past hb1
    have hg' := hidE hg; have HB1 := hidE B1
    have e0 := B1.cell 0; have e1 := B1.cell 1; have ef := B1.free; have ez := B1.lt
    simp at e0 e1
    clear hg B1 hb1 c0 c1 cf cz d1 dz g0 gz
    go_wp2
    go_end0
    refine ⟨⟨_, rfl⟩, by simpa using (HB1.out.set 0 (.int .i64 q1)).set 1 (.int .i64 q2), ?_⟩
    exact grown_trans (grown_trans hg'.out (grown_set _ _ _ _)) (grown_set _ _ _ _)
/-- The value so far. -/
def highV (F : List Sg) (x z : Int) : Int × Int := if z = x then (0, 0) else highN F x (z - x).toNat
def highJ (F : List Sg) (x : Int) (w : World) (wn pk : Array Value) (pre : List St) (W : World) : Prop :=
  Blk W (w.heap.size + 1 + 1 + 1) #[.int .i64 (highV F x (endG x pre)).1, .int .i64 (highV F x (endG x pre)).2] 26 ∧ Blk W w.heap.size wn 59 ∧ Blk W (w.heap.size + 1) pk 55
theorem highV_step {F : List Sg} {x : Int} {s : St} (hx : x ≤ s.1) (h : s.1 < s.2.1) (hv : ∀ t, s.1 ≤ t → t < s.2.1 → vat F t = s.2.2) :
    highV F x s.2.1 = if s.1 = x then (mx s.2.2.1 s.2.2.1, mx s.2.2.2 s.2.2.2) else (mx (highV F x s.1).1 s.2.2.1, mx (highV F x s.1).2 s.2.2.2) := by
  have e := high_str hx h hv
  unfold highV
  rw [if_neg (by omega), e]
  by_cases c : s.1 = x
  · rw [if_pos c, c, Int.sub_self]
    have : highN F x (Int.toNat 0) = s.2.2 := by
      show vat F x = s.2.2
      exact hv x (by omega) (by omega)
    rw [this]
  · rw [if_neg c, if_neg c]

set_option maxHeartbeats 1000000 in
theorem highex_c (F : List Sg) (x y : Int) (a : Option Addr) (cap : Nat) (w : World) (hl : F.length ≤ 1000000000) (hA : ArgS w a F) :
    Calls Try.prog 29 #[WN a F.length cap x y, .func (.func 33) #[] #[]] w fun e w' => e = .returned (VE (highS F x y)) ∧ Below w.heap.size w w' := by
  obtain ⟨w0, hw0⟩ : ∃ w0, w0 = ((w.alloc (Obj.cells #[.slice a F.length cap, .int .i64 x, .int .i64 y] 59)).alloc (Obj.cells #[.func (.func 33) #[] #[]] 55)).alloc (Obj.cells #[.int .i64 0, .int .i64 0] 26) := ⟨_, rfl⟩
  have hz0 : w0.heap.size = w.heap.size + 1 + 1 + 1 := by rw [hw0]; simp
  have hbw0 : Below w.heap.size w w0 := by rw [hw0]; (repeat (first | exact Below.refl _ _ | assumption | refine balloc ?_ _ | refine below_drewN ?_ _ | refine bstep (by assumption) ?_ | refine bstep (Past.prop _) ?_ | refine Below.setCell ?_ (by first | exact Nat.le_refl _ | (simp; done) | (simp; omega)) _))
  have hA0 : ArgS w0 a F := hA.past hbw0
  have HB0 := hidE (show Blk w0 w.heap.size #[.slice a F.length cap, .int .i64 x, .int .i64 y] 59 by rw [hw0]; exact ((Blk.made _ _ _).alloc _).alloc _)
  have HB1 := hidE (show Blk w0 (w.heap.size + 1) #[.func (.func 33) #[] #[]] 55 by rw [hw0]; exact (Blk.made_at _ _ _ _ (by simp)).alloc _)
  have HB2 := hidE (show Blk w0 (w.heap.size + 1 + 1) #[.int .i64 0, .int .i64 0] 26 by rw [hw0]; exact Blk.made_at _ _ _ _ (by simp))
  have HEV := hidE (fun (w' : World) (hb : Below w0.heap.size w0 w') (hB : Blk w' (w.heap.size + 1 + 1 + 1) #[.int .i64 0, .int .i64 0] 26) => ev_c F x y a cap 50 #[.pointer (some ⟨w.heap.size, 0, none⟩), .pointer (some ⟨w.heap.size + 1 + 1 + 1, 0, none⟩), .pointer (some ⟨w.heap.size + 1, 0, none⟩)] w0 w'
    (fun pre W => highJ F x w #[.slice a F.length cap, .int .i64 x, .int .i64 y] #[.func (.func 33) #[] #[]] pre W) hl hA0 hb
    (enters_of Try.func50 (by kernel_rfl) rfl) (fun s A B h hb2 => ⟨h.1.below hb2 hB.lt, h.2.1.below hb2 (by have := hB.lt; omega), h.2.2.below hb2 (by have := hB.lt; omega)⟩)
    (fun hbad pre s W hz hJ hpre => by
      obtain ⟨hm, hwn⟩ := badW_zero.1 hbad
      obtain ⟨k1, k2, k3, k4, k5⟩ := str_at (mayB_iff.1 hm) hpre
      obtain ⟨j1, j2, j3⟩ := hJ
      rw [← k1] at j1
      refine (highcl_c s (w.heap.size + 1 + 1 + 1) w.heap.size (w.heap.size + 1) F.length cap a x y (highV F x s.1) (highV F x s.2.1) W j1 j2 j3 (by omega) (by omega) (highV_step k2 k3 k5)).mono ?_
      rintro e W' ⟨hv, hB2, hg⟩
      refine ⟨hv, ⟨?_, j2.grown hg (by simp; omega), j3.grown hg (by simp)⟩, Outside.of_grown hg (by omega) hB.lt (Nat.le_trans hb.size hz)⟩
      rw [endG_snoc]
      exact hB2)
    ⟨by rw [show highV F x (endG x []) = (0, 0) from if_pos rfl]; exact hB, HB0.out.below hb (by omega), HB1.out.below hb (by omega)⟩)
  have HT := hidE (show highS F x y = ((highV F x (endG x (evS F x y))).1, (highV F x (endG x (evS F x y))).2, badW F x y) from by
    by_cases hq : badW F x y = 0
    · obtain ⟨hm, hwn⟩ := badW_zero.1 hq
      rw [wndB_iff] at hwn
      rw [highS_ok hq, show evS F x y = strL F x y from if_pos hq, str_end (mayB_iff.1 hm) (by omega), hq]
      unfold highV
      rw [if_neg (by omega)]
    · rw [highS_no hq, show evS F x y = [] from if_neg hq, show highV F x (endG x []) = (0, 0) from if_pos rfl])
  clear hA hA0
  rw [HT.out]
  unfold highJ at HEV
  generalize highV F x (endG x (evS F x y)) = q at *
  generalize badW F x y = er at *
  have HBW := hidE hbw0
  clear hbw0
  have c0 := HB0.out.cell 0; have c1 := HB0.out.cell 1; have c2 := HB0.out.cell 2; have z0 := HB0.out.lt; have z2 := HB2.out.lt
  simp at c0 c1 c2
  go_enter Try.func29, Try.ntmps29
  go_wp2_with fail
  rw [← hw0]
  ((with_reducible refine (HEV.out _ ?hb0 ?hB0).mono ?_)); case hb0 => exact (Below.refl _ w0).alloc (Nat.le_refl _) _
  case hB0 => exact Blk.made_at _ _ _ _ (by omega)
  rintro e w1 ⟨rfl, ⟨hB1, _, _⟩, hb1⟩
  have B0 := HB2.out.below hb1 (by omega)
  clear c0 c1 c2 z0 z2
  have e0 := hB1.cell 0; have e1 := hB1.cell 1; have ez := hB1.lt; have d0 := B0.cell 0; have d1 := B0.cell 1; have df := B0.free; have dz := B0.lt
  simp at e0 e1 d0 d1
  have B2 := (B0.set 0 (.int .i64 q.1)).set 1 (.int .i64 q.2)
  have g0 := B2.cell 0; have g1 := B2.cell 1
  simp at g0 g1
  have HBB := hidE (HBW.out.trans (hb1.mono (by omega)))
  clear hB1 hb1 B0 B2
  go_wp2
  refine bodyPost_ret (v := VE (q.1, q.2, er)) (by simp [results, Try.results29, go_sem, g0, g1]) rfl ⟨rfl, ?_⟩
  exact (HBB.out.setCell (p := ⟨w.heap.size + 1 + 1, 0, none⟩) (by simp; omega) _).setCell (p := ⟨w.heap.size + 1 + 1, 1, none⟩) (by simp; omega) _

theorem high_c (F : List Sg) (x y : Int) (a : Option Addr) (cap : Nat) (w : World) (hl : F.length ≤ 1000000000) (hA : ArgS w a F) :
    Calls Try.prog 12 #[.slice a F.length cap, .int .i64 x, .int .i64 y] w fun e w' => e = .returned (VE (highS F x y)) ∧ Below w.heap.size w w' := by
  have HA := hidE hA
  have HX := hidE (fun w' hA => highex_c F x y a cap w' hl hA)
  clear hA
  generalize highS F x y = q at *
  go_enter Try.func12, Try.ntmps12
  go_wp2_with fail
  ((with_reducible refine (HX.out _ (HA.out.past (by (repeat (first | exact Below.refl _ _ | assumption | refine balloc ?_ _ | refine below_drewN ?_ _ | refine bstep (by assumption) ?_ | refine bstep (Past.prop _) ?_ | refine Below.setCell ?_ (by first | exact Nat.le_refl _ | (simp; done) | (simp; omega)) _))))).mono ?_); rintro e w1 ⟨rfl, hb1⟩)
  have B0 := (Blk.made w #[.int .i64 0, .int .i64 0] 26).past hb1
  have d0 := B0.cell 0; have d1 := B0.cell 1; have df := B0.free; have dz := B0.lt
  simp at d0 d1
  have B2 := (B0.set 0 (.int .i64 q.1)).set 1 (.int .i64 q.2.1)
  have g0 := B2.cell 0; have g1 := B2.cell 1
  simp at g0 g1
  have hb : Below w.heap.size w w1 := by (repeat (first | exact Below.refl _ _ | assumption | refine balloc ?_ _ | refine below_drewN ?_ _ | refine bstep (by assumption) ?_ | refine bstep (Past.prop _) ?_ | refine Below.setCell ?_ (by first | exact Nat.le_refl _ | (simp; done) | (simp; omega)) _))
  have HBB := hidE hb
  clear B0 B2 hb hb1
  go_wp2
  refine bodyPost_ret (v := VE q) (by simp [results, Try.results12, go_sem, g0, g1]) rfl ⟨rfl, ?_⟩
  exact (HBB.out.setCell (p := ⟨w.heap.size, 0, none⟩) (Nat.le_refl _) _).setCell (p := ⟨w.heap.size, 1, none⟩) (Nat.le_refl _) _
end Go.Proofs.Ythgenmejjflceaa

namespace Go.Proofs.Ythgenmejjflceaa
open Go.ChangeShapes Go.WideShapes Go.ChangeAt Go.RowKit Go.Shelf
attribute [local irreducible] Go.Calls
attribute [local go_sem] Oper.semAt_some

theorem own_kept {A B : World} {β sz n : Nat} {e : TypeId} {v : Value} {xs : List Value} (h : A.ownsRow β e sz v n xs) (hk : ∀ k, v.ownBlock = some k → B.heap[k]? = A.heap[k]?) : B.ownsRow β e sz v n xs := by
  obtain ⟨h1, h2 | ⟨g, cap, cur, h3, h4, h5, h6⟩⟩ := h
  · exact ⟨h1, .inl h2⟩
  · exact ⟨h1, .inr ⟨g, cap, cur, h3, h4, (hk g (by rw [h3]; rfl)).trans h5, h6⟩⟩
theorem own_lt {A : World} {β sz n : Nat} {e : TypeId} {v : Value} {xs : List Value} (h : A.ownsRow β e sz v n xs) {k : Nat} (hk : v.ownBlock = some k) : k < A.heap.size := by
  obtain ⟨h1, h2 | ⟨g, cap, cur, h3, h4, h5, h6⟩⟩ := h
  · rw [h2.1] at hk; simp [Value.ownBlock] at hk
  · rw [h3] at hk; simp [Value.ownBlock] at hk; subst hk; exact lt_of_block h5
theorem own_has {A : World} {β sz n : Nat} {e : TypeId} {v : Value} {xs : List Value} (h : A.ownsRow β e sz v n xs) (hv : v ≠ .slice none 0 0) : ∃ k, v.ownBlock = some k := by
  obtain ⟨h1, h2 | ⟨g, cap, cur, h3, h4, h5, h6⟩⟩ := h
  · exact absurd h2.1 hv
  · exact ⟨g, by rw [h3]; rfl⟩
theorem own_sli {A : World} {β sz n : Nat} {e : TypeId} {v : Value} {xs : List Value} (h : A.ownsRow β e sz v n xs) : ∃ a cap, v = .slice a n cap := by
  obtain ⟨h1, h2 | ⟨g, cap, cur, h3, h4, h5, h6⟩⟩ := h
  · exact ⟨none, 0, by rw [h2.1, h2.2]⟩
  · exact ⟨_, cap, h3⟩
theorem own_nil {A : World} (β sz : Nat) (e : TypeId) : A.ownsRow β e sz (.slice none 0 0) 0 [] := ⟨by simp, .inl ⟨rfl, rfl⟩⟩
theorem sfresh_at (w : World) (cs : Array Value) (t : TypeId) (k : Nat) (h : k = w.heap.size) : ∀ j u, cs.toList[j]? = some u → (w.alloc (.cells cs t)).cell? ((⟨k, 0, none⟩ : Addr).add j) = some u := by
  subst h
  exact new_cells w cs t
/-- A slice of runs lies on where only blocks of one cell, or of none, are turned. -/
theorem sargS_turn {w w' : World} {a : Option Addr} {l : List Sg} (h : ArgS w a l) (hs : w.heap.size ≤ w'.heap.size) (hk : ∀ k i v, w.cell? ⟨k, i + 1, none⟩ = some v → w'.heap[k]? = w.heap[k]?) : ArgS w' a l := fun hl => by
  obtain ⟨b, off, e, h1, h2⟩ := h hl
  have hb : w'.heap[b]? = w.heap[b]? := by
    obtain ⟨_, q, _⟩ := h2 0 hl
    exact hk b _ _ q
  have hc : ∀ i, w'.cell? ⟨b, i, none⟩ = w.cell? ⟨b, i, none⟩ := fun i => World.cell?_of_block (a := ⟨b, i, none⟩) hb
  refine ⟨b, off, e, Nat.lt_of_lt_of_le h1 hs, fun i hi => ?_⟩
  obtain ⟨q1, q2, q3⟩ := h2 i hi
  exact ⟨(hc _).trans q1, (hc _).trans q2, (hc _).trans q3⟩
theorem sno_cell {w : World} {k i : Nat} {v : Value} {d : Option (List Deferred)} (h : w.heap[k]? = some (.deferred d)) (hc : w.cell? ⟨k, i, none⟩ = some v) : False := by
  simp [World.cell?, h] at hc
theorem rawC_snoc (l : List St) (s : St) : rawC (l ++ [s]) = rawC l ++ [(s.1, s.2.2)] := by unfold rawC; rw [List.map_append]; rfl
theorem rawC_len (l : List St) : (rawC l).length = l.length := by unfold rawC; rw [List.length_map]
/-- Between two rounds. -/
def CutI (w : World) (p : Nat) (pre : List St) (g : Option (Nat × Nat)) (W : World) : Prop :=
  ∃ (v : Value) (β : Nat), Blk W p #[v] 22 ∧ Below w.heap.size w W ∧ W.ownsRow β 54 3 v pre.length (cellsOfS (rawC pre)) ∧ p < β ∧ β ≤ W.heap.size ∧ ((g = none ∧ v = .slice none 0 0) ∨ ∃ k, g = some (β, k) ∧ v.ownBlock = some k)
theorem cutI_keep {w : World} {p : Nat} {pre : List St} {g : Option (Nat × Nat)} {A B : World} {n : Nat} (hp : p < n) (hn : w.heap.size ≤ n) (h : CutI w p pre g A) (hb : Below n A B) (hk : ∀ b k, g = some (b, k) → B.heap[k]? = A.heap[k]?) : CutI w p pre g B := by
  obtain ⟨v, β, h1, h2, h3, h4, h5, h6⟩ := h
  refine ⟨v, β, h1.below hb hp, h2.trans (hb.mono hn), own_kept h3 (fun k e => ?_), h4, Nat.le_trans h5 hb.size, h6⟩
  rcases h6 with ⟨_, q⟩ | ⟨k', q, q2⟩
  · rw [q] at e; simp [Value.ownBlock] at e
  · rw [q2] at e; cases e; exact hk _ _ q
theorem cutI_own {w : World} {p : Nat} {pre : List St} {g : Option (Nat × Nat)} {A : World} (h : CutI w p pre g A) : ∀ b k, g = some (b, k) → b ≤ k ∧ k < A.heap.size := by
  obtain ⟨v, β, h1, h2, h3, h4, h5, h6⟩ := h
  rintro b k e
  rcases h6 with ⟨q, _⟩ | ⟨k', q, q2⟩
  · rw [q] at e; cases e
  · rw [q] at e; cases e
    exact ⟨own_block h3 q2, own_lt h3 q2⟩
/-- From where on what is appended may lie. -/
theorem cutI_base {w : World} {p : Nat} {pre : List St} {g : Option (Nat × Nat)} {A : World} (hz : p < A.heap.size) (h : CutI w p pre g A) : ∃ (av : Option Addr) (cap γ : Nat), Blk A p #[.slice av pre.length cap] 22 ∧ Below w.heap.size w A ∧ A.ownsRow γ 54 3 (.slice av pre.length cap) pre.length (cellsOfS (rawC pre)) ∧ p < γ ∧ γ ≤ A.heap.size ∧
    (∀ k, (Value.slice av pre.length cap).ownBlock = some k → g = some (γ, k) ∧ γ ≤ k) ∧ (A.heap.size ≤ γ ∨ ∃ j, g = some (γ, j)) := by
  obtain ⟨v, β, h1, h2, h3, h4, h5, h6⟩ := h
  obtain ⟨a, cap, rfl⟩ := own_sli h3
  rcases h6 with ⟨q, e⟩ | ⟨k', q, q2⟩
  · have hx : A.ownsRow A.heap.size 54 3 (.slice a pre.length cap) pre.length (cellsOfS (rawC pre)) := by
      obtain ⟨q1, q2 | ⟨g', cap', cur, q3, _⟩⟩ := h3
      · exact ⟨q1, .inl q2⟩
      · rw [q3] at e; cases e
    refine ⟨a, cap, A.heap.size, h1, h2, hx, hz, Nat.le_refl _, fun k hk => ?_, .inl (Nat.le_refl _)⟩
    rw [e] at hk; simp [Value.ownBlock] at hk
  · exact ⟨a, cap, β, h1, h2, h3, h4, h5, fun k hk => ⟨by rw [q2] at hk; cases hk; exact q, own_block h3 hk⟩, .inr ⟨k', q⟩⟩

set_option maxRecDepth 100000 in
set_option maxHeartbeats 2000000 in
theorem cut_c (F : List Sg) (x y : Int) (a : Option Addr) (cap : Nat) (w : World) (hl : F.length ≤ 999999990) (hA : ArgS w a F) :
    Calls Try.prog 16 #[.slice a F.length cap, .int .i64 x, .int .i64 y] w (OfIs w (cutS F x y).1 (cutS F x y).2) := by
  have HA := hidE hA
  have HV := hidE (fun w hA => pmay_c F a cap w (by omega) hA)
  cases h1 : mayB F
  · rw [cutS_form h1]
    rw [h1] at HV
    clear h1 hA
    go_enter Try.func16, Try.ntmps16
    go_wp2_with fail
    ((with_reducible refine (HV.out _ HA.out).mono ?_); rintro e w1 ⟨rfl, hb1⟩)
    go_wp2
    go_ret2
    exact ⟨_, rfl, sliS_nil _, hb1⟩
  rw [h1] at HV
  by_cases h2 : y < x
  · rw [cutS_arg h1 h2]
    have hd : decide (y < x) = true := decide_eq_true h2
    clear h1 hA h2
    go_enter Try.func16, Try.ntmps16
    go_wp2_with fail
    ((with_reducible refine (HV.out _ HA.out).mono ?_); rintro e w1 ⟨rfl, hb1⟩)
    go_wp2
    go_ret2
    exact ⟨_, rfl, sliS_nil _, hb1⟩
  have hd : decide (y < x) = false := decide_eq_false h2
  have HSEQ := hidE (fun w' hb => strO_c F x y a cap w w' (by omega) hA hb)
  have HLEN := hidE (strG_len y F x (0, 0))
  have HC := hidE (mayB_iff.1 h1)
  have HM := hidE h1
  have H2 := hidE h2
  clear h1 hA h2
  refine (callsIn_wide (n := 0)).1 (callsIn_of_wp_marks Try.func16 rfl trivial ((wpIn_wide (n := 0)).2 ?_))
  simp only [Try.ntmps16, List.size_toArray, List.length_cons, List.length_nil, Nat.reduceAdd, Nat.reduceSub, Array.replicate_succ, Array.replicate_zero, List.push_toArray, List.append_toArray, List.nil_append, List.cons_append]
  go_wp2_with fail
  ((with_reducible refine (HV.out _ HA.out).mono ?_); rintro e w1 ⟨rfl, hb1⟩)
  go_wp2
  obtain ⟨p, hp⟩ : ∃ p, p = w1.heap.size := ⟨_, rfl⟩
  obtain ⟨w2, hw2⟩ : ∃ w2, w2 = w1.alloc (Obj.cells #[.slice none 0 0] 22) := ⟨_, rfl⟩
  have hz2 : w2.heap.size = p + 1 := by rw [hw2, hp]; simp
  have hb2 : Below w.heap.size w w2 := by rw [hw2]; (repeat (first | exact Below.refl _ _ | assumption | refine balloc ?_ _ | refine below_drewN ?_ _ | refine bstep (by assumption) ?_ | refine bstep (Past.prop _) ?_ | refine Below.setCell ?_ (by first | exact Nat.le_refl _ | (simp; done) | (simp; omega)) _))
  have hB2 : Blk w2 p #[.slice none 0 0] 22 := by rw [hw2, hp]; exact Blk.made _ _ _
  have hwp : w.heap.size ≤ p := by rw [hp]; exact hb1.size
  rw [← hw2]
  subst hp
  clear hw2 hb1 hd
  have hI0 : CutI w w1.heap.size [] none w2 := ⟨.slice none 0 0, w1.heap.size + 1, hB2, hb2, own_nil _ _ _, by omega, by omega, .inl ⟨rfl, rfl⟩⟩
  refine wp_rangeFunc_O (n₀ := w.heap.size) (S := strL F x y) rfl (enters_of Try.func39 (by kernel_rfl) rfl) hb2.size (HSEQ.out _ hb2) (fun _ => rfl)
    (CutI w w1.heap.size) (fun s g A B h hb hk => cutI_keep (n := w2.heap.size) (by omega) (by omega) h hb hk) (fun s g A h => cutI_own h) hI0
    (fun s a1 W => ∃ (Bx : Nat) (u0 u1 u2 u3 u4 u5 u6 u7 u10 u11 u12 u13 u14 u15 u16 u17 u18 u19 u20 u21 u22 u23 u24 u25 u26 u27 u28 u29 u30 u31 u32 u33 u34 u35 u36 u37 : Value), w2.heap.size ≤ Bx ∧ Blk W Bx #[.int .i64 s.1, .int .i64 s.2.1, .int .i64 s.2.2.1, .int .i64 s.2.2.2] 64 ∧ a1 = { tmps := #[u0, u1, u2, u3, u4, u5, u6, u7, .pointer (some ⟨w1.heap.size, 0, none⟩), .pointer (some ⟨Bx, 0, none⟩), u10, u11, u12, u13, u14, u15, u16, u17, u18, u19, u20, u21, u22, u23, u24, u25, u26, u27, u28, u29, u30, u31, u32, u33, u34, u35, u36, u37], defers := [] })
    ?hax ?assign ?body ?done
  case hax =>
    rintro s a1 A l r o ⟨Bx, u0, u1, u2, u3, u4, u5, u6, u7, u10, u11, u12, u13, u14, u15, u16, u17, u18, u19, u20, u21, u22, u23, u24, u25, u26, u27, u28, u29, u30, u31, u32, u33, u34, u35, u36, u37, h1, h2, h3⟩ hlr
    exact ⟨Bx, _, _, _, _, _, _, _, _, _, _, _, _, _, _, _, _, _, _, _, _, _, _, _, _, _, _, _, _, _, _, _, _, _, _, _, _, h1, (World.putObj_heap_other (fun e => by subst e; rw [show A.heap[Bx]? = _ from h2] at hlr; cases hlr)).trans h2, h3⟩
  case assign =>
    intro l pre s g W K hsz hi hK
    have hown := cutI_own hi
    dsimp only [encS]
    gi_wp2
    refine hK _ _ ((Below.refl _ _).alloc (Nat.le_refl _) _) (cutI_keep (n := W.heap.size) (by omega) (by omega) hi ((Below.refl _ _).alloc (Nat.le_refl _) _) (fun b k e => keptA (hown b k e).2 _)) ⟨W.heap.size, _, _, _, _, _, _, _, _, _, _, _, _, _, _, _, _, _, _, _, _, _, _, _, _, _, _, _, _, _, _, _, _, _, _, _, _, by omega, Blk.made _ _ _, rfl⟩
  case body =>
    rintro l pre s g a1 W hsz hi ⟨Bx, u0, u1, u2, u3, u4, u5, u6, u7, u10, u11, u12, u13, u14, u15, u16, u17, u18, u19, u20, u21, u22, u23, u24, u25, u26, u27, u28, u29, u30, u31, u32, u33, u34, u35, u36, u37, hBx, bX, rfl⟩ hpre
    obtain ⟨av, cp, γ, i1, i2, i3, i4, i5, i6, i7⟩ := cutI_base (by omega) hi
    have hlt : pre.length ≤ F.length + 1 := by
      have h1 := hpre.length_le
      simp only [List.length_append, List.length_cons, List.length_nil] at h1
      have h2 := HLEN.out
      unfold strL at h1
      omega
    have y0 := bX.cell 0; have y1 := bX.cell 1; have y2 := bX.cell 2; have y3 := bX.cell 3; have yz := bX.lt
    have t0 := i1.cell 0; have t1 := i1.lt; have tf := i1.free
    simp at y0 y1 y2 y3 t0
    obtain ⟨ix, hix, hz0, hzz, hz4⟩ := info_parts Try.infoSeg
    have HI := hidE hix; have HZ0 := hidE hz0; have HZ1 := hidE hzz; have HZ2 := hidE hz4
    have I1 := hidE i1; have I2 := hidE i2; have I3 := hidE i3; have I6 := hidE i6; have I7 := hidE i7; have BX := hidE bX
    clear hI0 HSEQ hi hix hz0 hzz hz4 i1 i2 i3 i6 i7 bX hpre
    gi_wp2_with (gi_at_builtin; refine wpListIn_append_own _ rfl (.tmp 22) (.tmp 28) 22 rfl γ 54 ix (.agg #[.int .i64 0, .int .i64 0, .int .i64 0]) 3 24 Try.underlying22 HI.out HZ0.out HZ1.out HZ2.out rfl (by decide) _ _ _ rfl (own_kept I3.out (fun k e => keptA (own_lt I3.out e) _)) ⟨_, 0, none⟩ 1 1 [.int .i64 s.1, .int .i64 s.2.2.1, .int .i64 s.2.2.2] rfl rfl (sfresh_at _ #[.int .i64 s.1, .int .i64 s.2.2.1, .int .i64 s.2.2.2] 54 _ (by simp)) (by intro y hy; simp at hy; rcases hy with rfl | rfl | rfl <;> rfl) (by unfold maxLen; omega) (by omega) (by simp; omega) ?_; intro v4 w4 hown4 hgrow4 hnil4; obtain ⟨a4, c4, rfl⟩ := own_sli hown4; have HG4 := hidE hgrow4; have HO4 := hidE hown4; have HN4 := hidE hnil4; have BP4 : Blk w4 w1.heap.size #[.slice av pre.length cp] 22 := (I1.out.alloc _).grown HG4.out (fun e => by have := (I6.out _ e.symm).2; omega); have g4 := BP4.cell 0; have g5 := BP4.free; have g6 := BP4.lt; simp at g4; have HB4 := hidE BP4; clear hgrow4 hown4 hnil4 BP4 y0 y1 y2 y3 yz t0 t1 tf)
    have hv4 : (Value.slice a4 (pre.length + 1) c4) ≠ .slice none 0 0 := fun e => by have := (HN4.out.1 e).2; omega
    obtain ⟨k4, hk4⟩ := own_has HO4.out hv4
    have hown : (w4.setCell ⟨w1.heap.size, 0, none⟩ (Value.slice a4 (pre.length + 1) c4)).ownsRow γ 54 3 (Value.slice a4 (pre.length + 1) c4) (pre ++ [s]).length (cellsOfS (rawC (pre ++ [s]))) := by
      rw [rawC_snoc, cellsOfS_app, List.length_append]
      exact own_kept HO4.out (fun k e => keptS (by have := own_block HO4.out e; omega) _)
    have hz4 : W.heap.size ≤ w4.heap.size := by have := HG4.out.size; simp at this; omega
    have hb4 : Below w.heap.size W (w4.setCell ⟨w1.heap.size, 0, none⟩ (Value.slice a4 (pre.length + 1) c4)) :=
      (Below.grown ((Below.refl _ W).alloc (by omega) _) HG4.out (by simp; omega) (fun k e => by have := (I6.out k e).2; omega)).setCell (p := ⟨w1.heap.size, 0, none⟩) (by simp; omega) _
    refine ⟨some (γ, k4), ⟨(Value.slice a4 (pre.length + 1) c4), γ, by simpa using HB4.out.set 0 (Value.slice a4 (pre.length + 1) c4), I2.out.trans hb4, hown, i4, by simp [World.setCell]; omega, .inr ⟨k4, rfl, hk4⟩⟩, hb4, fun k e1 e2 e3 => ?_, fun b k e => ?_⟩
    · refine (keptS (by omega) _).trans ((HG4.out.block k (by simp; omega) (fun e => ?_)).trans (keptA e2 _))
      exact e3 _ (I6.out k e.symm).1
    · cases e; exact I7.out
  case done =>
    rintro D g W hD hi hgd hK
    obtain rfl : D = w1.heap.size + 1 := hD.trans hz2
    have hDz : (w1.heap.size + 1) < W.heap.size := (Array.getElem?_eq_some_iff.1 hK).1
    have hpD : w1.heap.size < w1.heap.size + 1 := by omega
    obtain ⟨av, cp, γ, i1, i2, i3, i4, i5, i6, i7⟩ := cutI_base (by omega) hi
    have hgD : ∀ k, (Value.slice av (strL F x y).length cp).ownBlock = some k → (w1.heap.size + 1) + 2 ≤ k := fun k e => by
      obtain ⟨q1, q2⟩ := i6 k e
      have := hgd _ _ q1
      omega
    have t0 := i1.cell 0; have t1 := i1.lt; have tf := i1.free
    simp at t0
    have hlt : (strL F x y).length ≤ F.length + 1 := HLEN.out
    obtain ⟨ix, hix, hz0, hzz, hz4⟩ := info_parts Try.infoSeg
    have HI := hidE hix; have HZ0 := hidE hz0; have HZ1 := hidE hzz; have HZ2 := hidE hz4
    have I1 := hidE i1; have I2 := hidE i2; have I3 := hidE i3; have I6 := hidE i6; have HGD := hidE hgD; have HKD := hidE hK
    clear hI0 HSEQ hi hix hz0 hzz hz4 i1 i2 i3 i6 i7 hgd hK hgD hB2 hD hz2
    go_wp2_with (first | (at_builtin; refine wpList_append_own _ rfl (.tmp 30) (.tmp 33) 22 rfl γ 54 ix (.agg #[.int .i64 0, .int .i64 0, .int .i64 0]) 3 24 Try.underlying22 HI.out HZ0.out HZ1.out HZ2.out rfl (by decide) _ _ _ rfl (own_kept I3.out (fun k e => keptA (own_lt I3.out e) _)) ⟨_, 0, none⟩ 1 1 [.int .i64 y, .int .i64 0, .int .i64 0] rfl rfl (sfresh_at _ #[.int .i64 y, .int .i64 0, .int .i64 0] 54 _ (by simp)) (by intro y hy; simp at hy; rcases hy with rfl | rfl | rfl <;> rfl) (by unfold maxLen; omega) (by omega) (by simp; omega) ?_; intro v4 w4 hown4 hgrow4 hnil4; obtain ⟨a4, c4, rfl⟩ := own_sli hown4; have HG4 := hidE hgrow4; have HO4 := hidE hown4; clear hgrow4 hown4 hnil4) | fail)
    have hR : cellsOfS (rawC (strL F x y)) ++ [.int .i64 y, .int .i64 0, .int .i64 0] = cellsOfS (cutR F x y) := by unfold cutR; rw [cellsOfS_app]; rfl
    have hRl : (cutR F x y).length = (strL F x y).length + 1 := by unfold cutR; rw [List.length_append, rawC_len]; rfl
    have hO := HO4.out
    rw [hR, ← hRl] at hO
    obtain ⟨aR, cR, eR, _, _, hAR⟩ := sliS_own hO
    rw [hRl] at eR
    cases eR
    have hOF := of_c (cutR F x y) a4 c4 w4 (by rw [hRl]; omega) hAR
    rw [hRl] at hOF
    ((with_reducible refine hOF.mono ?_); rintro e w5 ⟨v5, f5, er, rfl, hs5, hcase, hb5⟩)
    have hz4 : W.heap.size ≤ w4.heap.size := by have := HG4.out.size; simp at this; omega
    have hK4 : w4.heap[(w1.heap.size + 1)]? = some (.deferred (some [])) := (HG4.out.block (w1.heap.size + 1) (by simp; omega) (fun e => by have := HGD.out _ e.symm; omega)).trans ((keptA hDz _).trans HKD.out)
    have hK5 : w5.heap[(w1.heap.size + 1)]? = some (.deferred (some [])) := (hb5.block (w1.heap.size + 1) (by omega)).trans hK4
    have hb4 : Below w.heap.size w w4 := I2.out.trans (Below.grown ((Below.refl _ W).alloc (by have := I2.out.size; omega) _) HG4.out (by have := I2.out.size; simp; omega) (fun k e => by have := (I6.out k e).2; have := I2.out.size; omega))
    obtain ⟨a5, c5, rfl, h51, h52, h53⟩ := hs5
    have HS5 := hidE (And.intro h51 (And.intro h52 h53)); have HK5 := hidE hK5; have HC5 := hidE hcase
    have HB5 := hidE (hb4.trans (hb5.mono hb4.size))
    clear hb4 hK4 hb5 hcase h51 h52 h53 hK5 hOF hO hR hRl hAR t0 t1 tf
    go_wp2
    refine ⟨by simp, .inl ⟨_, _, rfl, run_takeDeferred HK5.out, ?_⟩⟩
    refine ⟨.tuple #[.slice a5 f5.length c5, .int .i64 er], by simp [results, Try.results16, go_sem], ?_⟩
    obtain ⟨h51, h52, h53⟩ := HS5.out
    have hxy : x ≤ y := by have := H2.out; omega
    have hSL : ∀ G : List Sg, f5 = G → SliS (w5.putObj (w1.heap.size + 1) (.deferred none)) (.slice a5 f5.length c5) G := fun G e => by
      subst e
      refine ⟨a5, c5, rfl, h51, h52, sargS_turn h53 (by simp) (fun k i v hc => World.putObj_heap_other (fun e => ?_))⟩
      subst e
      exact sno_cell HK5.out hc
    have hBF : Below w.heap.size w (w5.putObj (w1.heap.size + 1) (.deferred none)) := HB5.out.trans (below_putObj _ _ _ (by omega))
    cases hf : farB x y
    · rw [cutS_far HM.out (by have := H2.out; omega) hf]
      rcases HC5.out with ⟨q1, _, _⟩ | ⟨_, q2, q3⟩
      · rw [cutR_ok HC.out hxy, hf] at q1; cases q1
      · rw [q2]; exact ⟨_, rfl, hSL _ q3, hBF⟩
    · rw [cutS_ok HM.out (by have := H2.out; omega) hf]
      rcases HC5.out with ⟨_, q2, q3⟩ | ⟨q1, _, _⟩
      · rw [q2]; exact ⟨_, rfl, hSL _ (cutR_of HC.out hxy hf q3), hBF⟩
      · rw [cutR_ok HC.out hxy, hf] at q1; cases q1
end Go.Proofs.Ythgenmejjflceaa

namespace Go.Proofs.Ythgenmejjflceaa
open Go.ChangeShapes Go.WideShapes Go.ChangeAt Go.RowKit
attribute [local irreducible] Go.Calls

theorem make_full (n : Nat) (hn : n ≤ 1000000000) : ∀ w, (Instr.makeSlice 22 (.int .i64 (n : Int)) (.int .i64 (n : Int))).run Try.prog w = .ok (.slice (some ⟨w.heap.size, 0, none⟩) n n) (w.alloc (.cells (madeCells #[.int .i64 0, .int .i64 0, .int .i64 0] (n * 3)) 54)) := by
  intro w
  obtain ⟨i0, hi, hz0, hz1, hz2⟩ := info_parts Try.infoSeg
  have h := run_make (P := Try.prog) w 22 54 i0 (.agg #[.int .i64 0, .int .i64 0, .int .i64 0]) Try.underlying22 hi hz0 .i64 .i64 n n (by omega) (by omega) (by rw [hz2]; omega) (by omega)
  rw [h]
  simp only [Int.toNat_natCast, hz1, Value.cells]
/-- The cells of the first k runs, shifted. -/
def ShC (F : List Sg) (d : Int) (k : Nat) (cs : Array Value) : Prop :=
  ∀ i, i < k → cs[i * 3]? = some (.int .i64 (ats F i + d)) ∧ cs[i * 3 + 1]? = some (.int .i64 (vls F i).1) ∧ cs[i * 3 + 2]? = some (.int .i64 (vls F i).2)
theorem shC_step {F : List Sg} {d : Int} {k : Nat} {cs : Array Value} (h : ShC F d k cs) (hs : k * 3 + 2 < cs.size) :
    ShC F d (k + 1) (((cs.setIfInBounds (k * 3) (.int .i64 (ats F k + d))).setIfInBounds (k * 3 + 1) (.int .i64 (vls F k).1)).setIfInBounds (k * 3 + 2) (.int .i64 (vls F k).2)) := by
  intro i hi
  by_cases e : i = k
  · subst e
    refine ⟨?_, ?_, ?_⟩ <;> simp [Array.getElem?_setIfInBounds] <;> omega
  · obtain ⟨h1, h2, h3⟩ := h i (by omega)
    refine ⟨?_, ?_, ?_⟩
    · simp only [Array.getElem?_setIfInBounds]
      rw [if_neg (by omega), if_neg (by omega), if_neg (by omega)]; exact h1
    · simp only [Array.getElem?_setIfInBounds]
      rw [if_neg (by omega), if_neg (by omega), if_neg (by omega)]; exact h2
    · simp only [Array.getElem?_setIfInBounds]
      rw [if_neg (by omega), if_neg (by omega), if_neg (by omega)]; exact h3
theorem shiftL_at {F : List Sg} {d : Int} {i : Nat} (h : i < F.length) : ats (shiftL F d) i = ats F i + d ∧ vls (shiftL F d) i = vls F i := by
  have e : (shiftL F d).getD i (0, 0, 0) = ((F.getD i (0, 0, 0)).1 + d, (F.getD i (0, 0, 0)).2) := by
    unfold shiftL
    rw [List.getD_eq_getElem?_getD, List.getD_eq_getElem?_getD, List.getElem?_map, List.getElem?_eq_getElem h]
    rfl
  unfold ats vls
  rw [e]
  exact ⟨rfl, rfl⟩
theorem shC_arg {w : World} {R : Nat} {F : List Sg} {d : Int} {cs : Array Value} {t : TypeId} (hB : Blk w R cs t) (h : ShC F d F.length cs) : ArgS w (some ⟨R, 0, none⟩) (shiftL F d) := fun _ =>
  ⟨R, 0, rfl, hB.lt, fun i hi => by
    rw [shiftL_len] at hi
    obtain ⟨h1, h2, h3⟩ := h i hi
    obtain ⟨e1, e2⟩ := shiftL_at (d := d) hi
    unfold ats at e1; unfold vls at e2
    rw [e1, e2]
    simp only [Nat.zero_add]
    exact ⟨(hB.cell _).trans h1, (hB.cell _).trans h2, (hB.cell _).trans h3⟩⟩
theorem shift_ofIs {F G : List Sg} {d : Int} (h : IsOf (shiftL F d) G) (hF : Canon F) (ho : shiftOk F d = true) : G = shiftL F d := by
  have hC := shift_canon hF ho
  exact cf_ext h.1 hC fun t => (h.2.1 t).trans (rv_canon hC t)

set_option maxRecDepth 100000 in
set_option maxHeartbeats 2000000 in
theorem shift_c (F : List Sg) (d : Int) (a : Option Addr) (cap : Nat) (w : World) (hl : F.length ≤ 1000000000) (hA : ArgS w a F) :
    Calls Try.prog 18 #[.slice a F.length cap, .int .i64 d] w (OfIs w (shiftS F d).1 (shiftS F d).2) := by
  have HA := hidE hA; clear hA
  have HV := hidE (fun w hA => pmay_c F a cap w (by omega) hA)
  cases h1 : mayB F
  · rw [shiftS_form h1]
    rw [h1] at HV
    clear h1
    go_enter Try.func18, Try.ntmps18
    go_wp2_with fail
    ((with_reducible refine (HV.out _ HA.out).mono ?_); rintro e w1 ⟨rfl, hb1⟩)
    go_wp2
    go_ret2
    exact ⟨_, rfl, sliS_nil _, hb1⟩
  rw [h1] at HV
  cases h2 : okT d
  · rw [shiftS_far h1 h2]
    have hq : d < -1125899906842624 ∨ (-1125899906842624 ≤ d ∧ 1125899906842624 < d) := by
      unfold okT at h2
      have := of_decide_eq_false h2
      omega
    clear h1 h2
    rcases hq with h | ⟨h, h'⟩
    · have e1 : decide (d < -1125899906842624) = true := decide_eq_true h
      go_enter Try.func18, Try.ntmps18
      go_wp2_with fail
      ((with_reducible refine (HV.out _ HA.out).mono ?_); rintro e w1 ⟨rfl, hb1⟩)
      go_wp2
      go_ret2
      exact ⟨_, rfl, sliS_nil _, hb1⟩
    · have e1 : decide (d < -1125899906842624) = false := decide_eq_false (by omega)
      have e2 : decide (1125899906842624 < d) = true := decide_eq_true h'
      go_enter Try.func18, Try.ntmps18
      go_wp2_with fail
      ((with_reducible refine (HV.out _ HA.out).mono ?_); rintro e w1 ⟨rfl, hb1⟩)
      go_wp2
      go_ret2
      exact ⟨_, rfl, sliS_nil _, hb1⟩
  have h2' := okT_iff.1 h2
  have e1 : decide (d < -1125899906842624) = false := decide_eq_false (by omega)
  have e2 : decide (1125899906842624 < d) = false := decide_eq_false (by omega)
  have HM := hidE h1; have HT := hidE h2
  have HMK := hidE (make_full F.length hl)
  have HIN := hidE (fun (k : Nat) (hk : k < F.length) => show -1125899906842624 ≤ ats F k ∧ ats F k ≤ 1125899906842624 from by
    unfold ats; rw [getD_get _ _ _ hk]
    exact okT_iff.1 (okT_of (CF.ok (mayB_iff.1 h1)) (List.getElem_mem hk)))
  clear h1 h2
  go_enter Try.func18, Try.ntmps18
  have hmk := HMK.out
  go_wp2_with fail
  ((with_reducible refine (HV.out _ HA.out).mono ?_); rintro e w1 ⟨rfl, hb1⟩)
  go_wp2
  obtain ⟨R, hR⟩ : ∃ R, R = w1.heap.size := ⟨_, rfl⟩
  go_loopg [23] F.length (fun gh v23 wr => ∃ (k : Nat) (cs : Array Value), k ≤ F.length ∧ F.length - k ≤ gh ∧ v23 = .int .i64 k ∧ Blk wr w1.heap.size cs 54 ∧ cs.size = F.length * 3 ∧ ShC F d k cs ∧ Below w.heap.size w wr)
  case atStart => exact ⟨0, _, Nat.zero_le _, Nat.le_refl _, rfl, Blk.made _ _ _, by simp [madeCells], fun i hi => by omega, by (repeat (first | exact Below.refl _ _ | assumption | refine balloc ?_ _ | refine below_drewN ?_ _ | refine bstep (by assumption) ?_ | refine bstep (Past.prop _) ?_ | refine Below.setCell ?_ (by first | exact Nat.le_refl _ | (simp; done) | (simp; omega)) _))⟩
  case round =>
    obtain ⟨k, cs, hk, hg, rfl, hB, hcs, hsc, hb⟩ := hrel
    have HB := hidE hB; have HS := hidE hsc; have HBE := hidE hb; have HCS := hidE hcs; have HG := hidE hg
    have HWR := hidE hb1.size
    clear hB hsc hb hcs hg
    obtain ⟨wo, hwo⟩ : ∃ wo : World, wo = wr := ⟨_, rfl⟩
    by_cases hlt : k < F.length
    · have hin := HIN.out k hlt
      obtain ⟨b, off, rfl, hbb, hc⟩ := (HA.out.past HBE.out) (by omega)
      obtain ⟨c0, c1, c2⟩ := hc.get hlt
      have HST := hidE (shC_step HS.out (by have := HCS.out; omega))
      have t0 := HB.out.cell (k * 3); have t1 := HB.out.cell (k * 3 + 1); have t2 := HB.out.cell (k * 3 + 2); have tf := HB.out.free; have tz := HB.out.lt
      rw [Array.getElem?_eq_getElem (by have := HCS.out; omega)] at t0 t1 t2
      generalize cs[k * 3]'_ = o0 at *
      generalize cs[k * 3 + 1]'_ = o1 at *
      generalize cs[k * 3 + 2]'_ = o2 at *
      clear hc HS HIN
      generalize ats F k = u at *
      generalize vls F k = v at *
      go_wp2
      go_roundg (F.length - (k + 1))
      case measure => have := HG.out; omega
      case rel =>
        refine ⟨k + 1, _, by omega, Nat.le_refl _, by go_num, ?_, ?_, HST.out, ?_⟩
        · exact (((HB.out.set _ _).set _ _).set _ _).alloc _
        · simp [HCS.out]
        · have hz := HWR.out
          refine Below.alloc ?_ (by simp [World.setCell]; have := HBE.out.size; omega) _
          exact ((HBE.out.setCell (p := ⟨w1.heap.size, k * 3, none⟩) hz _).setCell (p := ⟨w1.heap.size, k * 3 + 1, none⟩) hz _).setCell (p := ⟨w1.heap.size, k * 3 + 2, none⟩) hz _
    · have hk' : k = F.length := by omega
      subst hk'
      have hOF := of_c (shiftL F d) (some ⟨w1.heap.size, 0, none⟩) F.length wr (by rw [shiftL_len]; omega) (shC_arg HB.out HS.out)
      rw [shiftL_len] at hOF
      have HOF := hidE hOF
      have hd : decide ((F.length : Int) < (F.length : Int)) = false := decide_eq_false (by omega)
      have hd2 : decide (F.length < F.length) = false := decide_eq_false (by omega)
      clear hOF HB HS
      go_wp2_with fail
      ((with_reducible refine HOF.out.mono ?_); rintro e w5 ⟨v5, f5, er, rfl, hs5, hcase, hb5⟩)
      go_wp2
      go_ret2
      have hbf : Below w.heap.size w w5 := HBE.out.trans (hb5.mono HBE.out.size)
      cases hf : shiftOk F d
      · rw [shiftS_no HM.out HT.out hf]
        rcases hcase with ⟨q1, _, _⟩ | ⟨_, q2, q3⟩
        · rw [show (shiftL F d).all okS = shiftOk F d from rfl, hf] at q1; cases q1
        · rw [q2]; exact ⟨_, rfl, by rw [← q3]; exact hs5, hbf⟩
      · rw [shiftS_ok HM.out HT.out hf]
        rcases hcase with ⟨_, q2, q3⟩ | ⟨q1, _, _⟩
        · rw [q2]; exact ⟨_, rfl, by rw [← shift_ofIs q3 (mayB_iff.1 HM.out) hf]; exact hs5, hbf⟩
        · rw [show (shiftL F d).all okS = shiftOk F d from rfl, hf] at q1; cases q1
end Go.Proofs.Ythgenmejjflceaa
