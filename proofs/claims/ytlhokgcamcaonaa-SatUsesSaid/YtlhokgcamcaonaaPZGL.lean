/- What a satisfied definition uses: nothing outside of the window, whole units, and in all its atoms' ticks. No program. No conditions. A range over a function whose body keeps a block of its own, made in an earlier round (a slice that it appends to): an iterator's contract with that block named, and the law for its caller. Program-free. No conditions. The contract of the iterator (span.window).stretches: it hands on the stretches of the window, one after the other. No conditions but that the slice's cells read as integers, and sizes. The contract of (span.window).evaluate: an error, or each of the window's stretches is handed on. No conditions but that the slice's cells read as integers, sizes, and what the function that is handed the stretches keeps. The contracts of span.along, Sum, Low and High. No conditions but the lists' sizes, and that the slices' cells read as integers. The walk of the statement on what a satisfied definition uses. No conditions but sizes, and that the slices read as parts, as pieces. -/
import Derived.Test.YtlhokgcamcaonaaPZGI
import Derived.Test.YtlhokgcamcaonaaPZMB
import Derived.Test.YtlhokgcamcaonaaPZGC
import Derived.Test.YtlhokgcamcaonaaPZGA
import Derived.OwnWalkIn
import Derived.RangeFuncCalls
import Derived.Shelf.Abstract
import Derived.Test.YtlhokgcamcaonaaPZGH
import Derived.Test.YtlhokgcamcaonaaPZGK
namespace Go.Proofs.Ytlhokgcamcaonaa

/-- A piece's units over the first k ticks from x on. -/
def cntP (l : List Prt) (x : Int) (k : Nat) (p : Pc) : Int := min (max (x + k - p.2) 0) (dP l p)
def sumP (f : Pc → Int) (W : List Pc) : Int := W.foldl (fun n p => n + f p) 0
theorem sumP_from (f : Pc → Int) : ∀ (W : List Pc) (n : Int), W.foldl (fun n p => n + f p) n = n + sumP f W
  | [], n => by unfold sumP; simp
  | p :: W, n => by
    unfold sumP
    rw [List.foldl_cons, List.foldl_cons, sumP_from f W, sumP_from f W (0 + f p)]; omega
theorem sumP_cons (f : Pc → Int) (p : Pc) (W : List Pc) : sumP f (p :: W) = f p + sumP f W := by
  conv => lhs; unfold sumP
  rw [List.foldl_cons, sumP_from]; omega
theorem sumP_snoc (f : Pc → Int) (p : Pc) (W : List Pc) : sumP f (W ++ [p]) = sumP f W + f p := by
  unfold sumP; rw [List.foldl_append]; rfl
theorem boxN_sum (l : List Prt) (t : Int) (W : List Pc) : boxN l W t = sumP (fun p => if onP l t p then nP l p else 0) W := by
  have : ∀ (W : List Pc) (n : Int), W.foldl (fun n p => if onP l t p then n + nP l p else n) n = W.foldl (fun n p => n + if onP l t p then nP l p else 0) n := by
    intro W
    induction W with
    | nil => intro n; rfl
    | cons p W ih =>
      intro n
      rw [List.foldl_cons, List.foldl_cons, ih]
      congr 1
      split <;> simp
  exact this W 0
theorem sumP_add (f g h : Pc → Int) : ∀ W : List Pc, (∀ p ∈ W, f p = g p + h p) → sumP f W = sumP g W + sumP h W
  | [], _ => rfl
  | p :: W, hh => by
    rw [sumP_cons, sumP_cons, sumP_cons, sumP_add f g h W (fun q hq => hh q (List.mem_cons_of_mem _ hq)), hh p (by simp)]; omega
theorem sumP_congr {f g : Pc → Int} : ∀ {W : List Pc}, (∀ p ∈ W, f p = g p) → sumP f W = sumP g W
  | [], _ => rfl
  | p :: W, h => by rw [sumP_cons, sumP_cons, h p (by simp), sumP_congr fun q hq => h q (List.mem_cons_of_mem _ hq)]
theorem cnt_step (l : List Prt) (x : Int) (k : Nat) (p : Pc) (_hx : x ≤ p.2) (hd : 0 ≤ dP l p) : nP l p * cntP l x (k + 1) p = nP l p * cntP l x k p + (if onP l (x + k) p then nP l p else 0) := by
  unfold cntP onP
  generalize dP l p = d at *
  generalize nP l p = n
  by_cases c : p.2 ≤ x + k ∧ x + k < p.2 + d
  · rw [decide_eq_true c.1, decide_eq_true c.2]
    have e : min (max (x + ((k + 1 : Nat) : Int) - p.2) 0) d = min (max (x + (k : Int) - p.2) 0) d + 1 := by omega
    rw [e, Int.mul_add]; simp
  · have e : min (max (x + ((k + 1 : Nat) : Int) - p.2) 0) d = min (max (x + (k : Int) - p.2) 0) d := by omega
    have e2 : (decide (p.2 ≤ x + k) && decide (x + k < p.2 + d)) = false := by
      rw [Bool.and_eq_false_iff]; simp only [decide_eq_false_iff_not]; omega
    rw [e, e2]; simp
section
variable {l : List Prt} {m c : Int} {W : List Pc}
theorem use_sumN (h : UseOk l m c W) (x : Int) (hx : ∀ p ∈ W, x ≤ p.2) : ∀ k : Nat, sumN (useL l m c W) x k = (sumP (fun p => nP l p * cntP l x k p) W * m, sumP (fun p => nP l p * cntP l x k p) W * c)
  | 0 => by
    have : sumP (fun p => nP l p * cntP l x 0 p) W = 0 := by
      rw [sumP_congr (g := fun _ => 0)]
      · clear h hx
        induction W with
        | nil => rfl
        | cons p W ih => rw [sumP_cons, ih]; rfl
      · intro p hp
        have h1 := hx p hp
        have h2 := h.np hp
        have : cntP l x 0 p = 0 := by unfold cntP; omega
        rw [this]; simp
    rw [this]; simp [sumN]
  | k + 1 => by
    have ih := use_sumN h x hx k
    have hv := h.spec.2.1 (x + k)
    rw [sumN_step, ih, hv]
    unfold useV
    rw [boxN_sum, sumP_add (fun p => nP l p * cntP l x (k + 1) p) (fun p => nP l p * cntP l x k p) (fun p => if onP l (x + k) p then nP l p else 0) W fun p hp => cnt_step l x k p (hx p hp) (h.np hp).2.2.1]
    simp only [Int.add_mul]
/-- All that the pieces use. -/
def wantP (l : List Prt) (W : List Pc) : Int := sumP (fun p => nP l p * dP l p) W
theorem use_total (h : UseOk l m c W) {x y : Int} (hxy : x ≤ y) (hx : ∀ p ∈ W, x ≤ p.2) (hy : ∀ p ∈ W, p.2 + dP l p ≤ y) : sumN (useL l m c W) x (y - x).toNat = (wantP l W * m, wantP l W * c) := by
  rw [use_sumN h x hx]
  have : sumP (fun p => nP l p * cntP l x (y - x).toNat p) W = wantP l W := sumP_congr fun p hp => by
    have h1 := hx p hp
    have h2 := hy p hp
    have h3 := h.np hp
    have : cntP l x (y - x).toNat p = dP l p := by unfold cntP; omega
    rw [this]
  rw [this]
theorem want_bd : ∀ {W : List Pc}, (∀ p ∈ W, 0 ≤ nP l p ∧ nP l p ≤ 4096 ∧ 0 ≤ dP l p ∧ dP l p ≤ 4096) → 0 ≤ wantP l W ∧ wantP l W ≤ 16777216 * W.length
  | [], _ => by simp [wantP, sumP]
  | p :: W, h => by
    have ih := want_bd (W := W) fun q hq => h q (List.mem_cons_of_mem _ hq)
    obtain ⟨h1, h2, h3, h4⟩ := h p (by simp)
    have e1 : 0 ≤ nP l p * dP l p := Int.mul_nonneg h1 h3
    have e2 : nP l p * dP l p ≤ 4096 * 4096 := Int.mul_le_mul h2 h4 h3 (by omega)
    unfold wantP at *
    rw [sumP_cons]
    simp only [List.length_cons]
    omega
theorem want_take {k : Nat} {q : Pc} (h : W[k]? = some q) : wantP l (W.take (k + 1)) = wantP l (W.take k) + nP l q * dP l q := by
  unfold wantP; rw [take_snoc h, sumP_snoc]
/-- The times of a canonical function that was built: in the window. -/
theorem use_times (h : UseOk l m c W) {x y : Int} (hx : ∀ p ∈ W, x ≤ p.2) (hy : ∀ p ∈ W, p.2 + dP l p ≤ y) : ∀ s ∈ useL l m c W, x ≤ s.1 ∧ s.1 ≤ y := by
  obtain ⟨_, h2, _, _⟩ := buildL_all (useV l m c W) _ (useTs l W) rfl (timesL_up _) fun t ht => by
    unfold okS
    rw [Bool.and_eq_true]
    exact ⟨h.time (timesL_mem.1 ht), h.val t⟩
  intro s hs
  obtain ⟨p, hp, hq⟩ := mem_raw.1 (timesL_mem.1 (h2 s hs))
  have h1 := hx p hp
  have h2 := hy p hp
  have h3 := h.np hp
  omega
theorem box_one (h : UseOk l m c W) {p : Pc} (hp : p ∈ W) {t : Int} (ht : onP l t p = true) : nP l p ≤ boxN l W t := by
  have : ∀ W : List Pc, p ∈ W → (∀ q ∈ W, 0 ≤ nP l q) → nP l p ≤ sumP (fun p => if onP l t p then nP l p else 0) W := by
    intro W
    induction W with
    | nil => intro h; cases h
    | cons q W ih =>
      intro hm hn
      have hnn : 0 ≤ sumP (fun p => if onP l t p then nP l p else 0) W := by
        clear ih hm
        have hn' : ∀ q ∈ W, 0 ≤ nP l q := fun r hr => hn r (List.mem_cons_of_mem _ hr)
        clear hn
        induction W with
        | nil => exact Int.le_refl _
        | cons r W ih2 =>
          rw [sumP_cons]
          have := ih2 fun q hq => hn' q (List.mem_cons_of_mem _ hq)
          have h0 := hn' r (by simp)
          split <;> omega
      rw [sumP_cons]
      have h0 := hn q (by simp)
      rcases List.mem_cons.1 hm with rfl | hm
      · simp only [ht, if_true]; omega
      · have := ih hm fun r hr => hn r (List.mem_cons_of_mem _ hr)
        split <;> omega
  rw [boxN_sum]
  exact this W hp fun q hq => (h.np hq).1
/-- Pieces that use something leave runs. -/
theorem use_some (h : UseOk l m c W) (hW : W ≠ []) (hn : ∀ p ∈ W, 1 ≤ nP l p ∧ 1 ≤ dP l p) : useL l m c W ≠ [] := by
  intro e
  obtain ⟨p, W', rfl⟩ : ∃ p W', W = p :: W' := by
    cases W with
    | nil => exact absurd rfl hW
    | cons p W' => exact ⟨p, W', rfl⟩
  have hv := h.spec.2.1 p.2
  rw [e] at hv
  have h1 := hn p (by simp)
  have hb := box_one h (p := p) (by simp) (t := p.2) (by unfold onP; rw [decide_eq_true (Int.le_refl _), decide_eq_true (by omega)]; rfl)
  have hm := h.mem
  have h2 : 1 * 1 ≤ boxN l (p :: W') p.2 * m := Int.mul_le_mul (by omega) hm.1 (by omega) (by omega)
  have h3 : (0 : Int) = boxN l (p :: W') p.2 * m := congrArg Prod.fst hv
  omega
/-- What a run has: a whole number of units. -/
theorem use_run (h : UseOk l m c W) {i : Nat} (hi : i < (useL l m c W).length) : ∃ n : Int, 0 ≤ n ∧ n ≤ 262144 ∧ vls (useL l m c W) i = (n * m, n * c) := by
  have hC := mayB_iff.1 h.spec.1
  have hv : vat (useL l m c W) (ats (useL l m c W) i) = vls (useL l m c W) i := by
    have hup := CF.up hC
    have := vat_of (l := useL l m c W) (t := ats (useL l m c W) i) (n := i + 1) (by omega) (.inr (by rw [Nat.add_sub_cancel]; exact Int.le_refl _)) fun j hj hj2 => by
      have := List.pairwise_iff_getElem.1 hup i j hi hj2 (by omega)
      unfold ats
      rw [getD_get _ _ _ hi, getD_get _ _ _ hj2]
      exact this
    rw [this, if_neg (by omega), Nat.add_sub_cancel]
  rw [h.spec.2.1] at hv
  have hb := h.bd (ats (useL l m c W) i)
  exact ⟨_, hb.1, hb.2, hv.symm⟩
theorem use_last (h : UseOk l m c W) {x y : Int} (hx : ∀ p ∈ W, x ≤ p.2) (hy : ∀ p ∈ W, p.2 + dP l p ≤ y) : lastV (useL l m c W) = (0, 0) := by
  have h1 := vat_all _ (useL l m c W) y rfl fun s hs => (use_times h hx hy s hs).2
  rw [h.spec.2.1] at h1
  have h2 : boxN l W y = 0 := boxN_zero l W 0 fun p hp => by
    have := hy p hp
    unfold onP
    rw [Bool.and_eq_false_iff]; simp only [decide_eq_false_iff_not]; omega
  rw [← h1]
  unfold useV
  rw [h2]; simp
end
/-- A piece's atom has units and ticks. -/
theorem atom_pos {l : List Prt} {W : List Pc} (ht : (treeS l).2 = 0) (hW : Atoms l W) : ∀ p ∈ W, 1 ≤ nP l p ∧ 1 ≤ dP l p := fun p hp => by
  obtain ⟨a1, a2, a3⟩ := hW p hp
  have hb := (tree_part ht (i := p.1.toNat) (by omega)).1
  unfold badP at hb
  rw [if_pos a3] at hb
  have hb := of_decide_eq_false hb
  have hn : (l.getD p.1.toNat ⟨0, 0, 0, 0, 0⟩).n ≠ 0 := fun e => hb (.inr (.inl e))
  unfold nP dP
  unfold pr0
  have hnn : 0 ≤ (l.getD p.1.toNat ⟨0, 0, 0, 0, 0⟩).n := by omega
  omega
/-- Without pieces nothing is satisfied. -/
theorem none_ok {l : List Prt} {t : TI} (hh : Here l [] 0 t) : t.ok = false := by
  obtain ⟨y, K, deep, ink, o, hat, hfit, rfl, hz⟩ := hh
  cases ho : (satI [] y K o).ok
  · rfl
  · exfalso
    have h1 := ok_se [] (.cons y K .nil) o deep ink hfit (satI [] y K o) (by rw [satF_cons]; simp) ho
    exact h1 (se_R (fun p hp => by cases hp) hat hfit)
end Go.Proofs.Ytlhokgcamcaonaa

namespace Go.Proofs.Ytlhokgcamcaonaa
open Go.RowKit

/-- The contract of an iterator value, as SeqT, with the one block that the body made in an earlier round and may write again (g: from where on the body's blocks lie, and that block). -/
def SeqO {α : Type} (P : Program) (gf : Nat) (rb lb : Array Value) (encs : α → Array Value) (n₀ : Nat) (S : List α) (w : World) : Prop :=
  ∀ (l : Nat) (J : List α → Option (Nat × Nat) → World → Prop) (Jx : List α → World → Prop) (W : World), Below w.heap.size w W →
    (∀ s g A B, J s g A → Below W.heap.size A B → (∀ b k, g = some (b, k) → B.heap[k]? = A.heap[k]?) → J s g B) → (∀ s g A, J s g A → ∀ b k, g = some (b, k) → b ≤ k ∧ k < A.heap.size) → (∀ s A B, Jx s A → Below W.heap.size A B → Jx s B) →
    (∀ pre x g W1, J pre g W1 → W.heap.size ≤ W1.heap.size → pre ++ [x] <+: S → YieldAt Fence.wide 0 P l (encs x) W1 fun e W' =>
      (e = .returned (.bool true) ∧ ∃ g', J (pre ++ [x]) g' W' ∧ Below n₀ W1 W' ∧ (∀ k, W.heap.size ≤ k → k < W1.heap.size → (∀ b, g ≠ some (b, k)) → W'.heap[k]? = W1.heap[k]?) ∧ (∀ b k, g' = some (b, k) → W1.heap.size ≤ b ∨ ∃ j, g = some (b, j))) ∨ (e = .returned (.bool false) ∧ Jx (pre ++ [x]) W')) →
    J [] none W →
    Calls P gf (rb ++ #[.func (.yield l) #[] #[]] ++ lb) W fun e W' => (∃ v, e = .returned v) ∧ ((∃ g, J S g W') ∨ ∃ pre, pre <+: S ∧ Jx pre W')

theorem SeqO.toT {α : Type} {P : Program} {gf : Nat} {rb lb : Array Value} {encs : α → Array Value} {n₀ : Nat} {S : List α} {w : World} (h : SeqO P gf rb lb encs n₀ S w) : SeqT P gf rb lb encs n₀ S w := by
  intro l J Jx W hW hJ hJx hY h0
  refine (h l (fun s g A => g = none ∧ J s A) Jx W hW (fun s g A B q hb _ => ⟨q.1, hJ _ _ _ q.2 hb⟩) (fun s g A q b k hk => by rw [q.1] at hk; cases hk) hJx ?_ ⟨rfl, h0⟩).mono ?_
  · rintro pre x g W1 ⟨rfl, q⟩ hz hpre
    obtain ⟨fn, tmps, assign, body, hy, hR⟩ := hY pre x W1 q hpre
    refine ⟨fn, tmps, assign, body, hy, hR.mono ?_⟩
    rintro e W' (⟨rfl, k1, k2⟩ | ⟨rfl, k1⟩)
    · exact .inl ⟨rfl, none, ⟨rfl, k1⟩, k2.below, fun k hk hl _ => k2.beyond k hk hl, fun b k hk => by cases hk⟩
    · exact .inr ⟨rfl, k1⟩
  · rintro e W' ⟨hv, ⟨g, _, q⟩ | q⟩
    · exact ⟨hv, .inl q⟩
    · exact ⟨hv, .inr q⟩

end Go.Proofs.Ytlhokgcamcaonaa

namespace Go.Proofs.Ytlhokgcamcaonaa
open Go.ChangeShapes Go.WideShapes Go.ChangeAt Go.RowKit
attribute [local irreducible] Go.Calls

/-- What yield is handed. -/
def encS (s : St) : Array Value := #[.agg #[.int .i64 s.1, .int .i64 s.2.1, .int .i64 s.2.2.1, .int .i64 s.2.2.2]]
/-- A window. -/
abbrev WN (a : Option Addr) (n cap : Nat) (x y : Int) : Value := .agg #[.slice a n cap, .int .i64 x, .int .i64 y]

/-- Where the walk stands between two rounds. -/
def StrAt (F : List Sg) (x y : Int) (w0 W : World) (J : List St → Option (Nat × Nat) → World → Prop) (gh : Nat) (v13 : Value) (wr : World) : Prop :=
  ∃ (k : Nat) (p q : Int) (v : Int × Int) (pre : List St) (g : Option (Nat × Nat)), (∀ b k, g = some (b, k) → W.heap.size + 2 ≤ b) ∧ k ≤ F.length ∧ F.length - k ≤ gh ∧ v13 = .int .i64 k ∧ pre ++ strG y (F.drop k) p v = strL F x y ∧ J pre g wr ∧
    Below w0.heap.size w0 wr ∧ W.heap.size + 1 < wr.heap.size ∧ Blk wr (W.heap.size + 1) #[.int .i64 p, .int .i64 q, .int .i64 v.1, .int .i64 v.2] 89

set_option maxRecDepth 100000 in
set_option maxHeartbeats 2000000 in
theorem strO_c (F : List Sg) (x y : Int) (a : Option Addr) (cap : Nat) (w0 w : World) (hl : F.length ≤ 1000000000) (hA : ArgS w0 a F) (hb : Below w0.heap.size w0 w) :
    SeqO Try.prog 51 #[WN a F.length cap x y] #[] encS w0.heap.size (strL F x y) w := by
  intro l J Jx W hW hJ hJg hJx hY h0
  have H0 := hidE h0; have HJ := hidE hJ; have HJG := hidE hJg; have HJX := hidE hJx; have HY := hidE hY
  have HA := hidE hA
  have hbW : Below w0.heap.size w0 W := hb.trans (hW.mono hb.size)
  have HBW := hidE hbW
  clear hA hJ hJg hJx hY h0 hb hW hbW
  show Calls Try.prog 51 #[WN a F.length cap x y, .func (.yield l) #[] #[]] W _
  go_enter Try.func51, Try.ntmps51
  go_wp2
  go_loopg [13] F.length (fun gh v13 wr => StrAt F x y w0 W J gh v13 wr ∧ Blk wr W.heap.size #[.slice a F.length cap, .int .i64 x, .int .i64 y] 86)
  case atStart =>
    refine ⟨⟨0, x, 0, (0, 0), [], none, fun b k h => (by cases h), Nat.zero_le _, Nat.le_refl _, rfl, rfl, HJ.out _ _ _ _ H0.out ?_ (fun b k h => by cases h), HBW.out.trans (Below.mono ?_ HBW.out.size), ?_, ?_⟩, ?_⟩
    · (repeat (first | exact Below.refl _ _ | assumption | refine balloc ?_ _ | refine below_drewN ?_ _ | refine bstep (by assumption) ?_ | refine bstep (Past.prop _) ?_ | refine Below.setCell ?_ (by first | exact Nat.le_refl _ | (simp; done) | (simp; omega)) _))
    · (repeat (first | exact Below.refl _ _ | assumption | refine balloc ?_ _ | refine below_drewN ?_ _ | refine bstep (by assumption) ?_ | refine bstep (Past.prop _) ?_ | refine Below.setCell ?_ (by first | exact Nat.le_refl _ | (simp; done) | (simp; omega)) _))
    · simp
    · exact Blk.made_at _ _ _ _ (by simp)
    · exact (Blk.made _ _ _).alloc _
  case round =>
    obtain ⟨⟨k, p, q, v, pre, g, hgb, hk, hgh, rfl, hpre, hJ1, hB1, hsz, blk⟩, blk0⟩ := hrel
    have HGB := hidE hgb
    have HK := hidE (fun b k (e : g = some (b, k)) => show W.heap.size + 1 < k ∧ k < wr.heap.size from by have h1 := hgb b k e; have h2 := HJG.out _ _ _ hJ1 b k e; omega)
    clear hgb
    have HJ1 := hidE hJ1; have HB1 := hidE hB1; have HPRE := hidE hpre; have HBK := hidE blk; have HBK0 := hidE blk0; have HSZ := hidE hsz; have HG := hidE hgh
    clear hJ1 hB1 hpre blk blk0 hsz hgh
    obtain ⟨wo, hwo⟩ : ∃ wo : World, wo = wr := ⟨_, rfl⟩
    have cases3 : ((¬ k < F.length ∨ (k < F.length ∧ decide ((k : Int) < (F.length : Int)) = true ∧ decide (y ≤ ats F k) = true)) ∧ pre ++ strZ y p v = strL F x y) ∨
        (k < F.length ∧ decide ((k : Int) < (F.length : Int)) = true ∧ decide (y ≤ ats F k) = false ∧ decide (p < ats F k) = false ∧ pre ++ strG y (F.drop (k + 1)) p (vls F k) = strL F x y) ∨
        (k < F.length ∧ decide ((k : Int) < (F.length : Int)) = true ∧ decide (y ≤ ats F k) = false ∧ decide (p < ats F k) = true ∧ pre ++ (p, ats F k, v) :: strG y (F.drop (k + 1)) (ats F k) (vls F k) = strL F x y) := by
      have hp := HPRE.out
      by_cases hlt : k < F.length
      · rw [drop_cons hlt] at hp
        have hd : decide ((k : Int) < (F.length : Int)) = true := decide_eq_true (by omega)
        by_cases h1 : y ≤ ats F k
        · rw [strG_end h1] at hp
          exact .inl ⟨.inr ⟨hlt, hd, decide_eq_true h1⟩, hp⟩
        · by_cases h2 : p < ats F k
          · rw [strG_cut h1 h2] at hp
            exact .inr (.inr ⟨hlt, hd, decide_eq_false h1, decide_eq_true h2, hp⟩)
          · rw [strG_on h1 h2] at hp
            exact .inr (.inl ⟨hlt, hd, decide_eq_false h1, decide_eq_false h2, hp⟩)
      · rw [List.drop_eq_nil_of_le (by omega), strG_nil] at hp
        exact .inl ⟨.inl hlt, hp⟩
    clear HPRE
    rcases cases3 with ⟨he, hp⟩ | ⟨hlt, hd, h1, h2, hp⟩ | ⟨hlt, hd, h1, h2, hp⟩
    · have HP := hidE hp
      clear hp
      have c3 := HBK0.out.cell 2; have c4 := HBK.out.cell 0; have c5 := HBK.out.cell 1; have c6 := HBK.out.cell 2; have c7 := HBK.out.cell 3; have f4 := HBK.out.free; have z4 := HBK.out.lt; have z3 := HBK0.out.lt
      simp at c3 c4 c5 c6 c7
      have hsz := HSZ.out
      by_cases hz : p < y
      · have dz : decide (p < y) = true := decide_eq_true hz
        have HP2 := hidE (show pre ++ [(p, y, v)] = strL F x y by rw [← HP.out]; unfold strZ; rw [if_pos hz])
        clear HP hz
        have hpre : pre ++ [(p, y, v)] <+: strL F x y := by rw [HP2.out]; exact List.prefix_refl _
        rcases he with he | ⟨hlt, he, he2⟩
        · have he1 : decide (k < F.length) = false := decide_eq_false he
          have he2 : decide ((k : Int) < (F.length : Int)) = false := decide_eq_false (by omega)
          have bb : Below W.heap.size wr (wr.setCell ⟨W.heap.size + 1, 1, none⟩ (.int .i64 y)) := (Below.refl _ wr).setCell (p := ⟨W.heap.size + 1, 1, none⟩) (by simp) _
          obtain ⟨fn, tmps, assign, body, hy, hR⟩ := HY.out pre (p, y, v) g _ (HJ.out _ _ _ _ HJ1.out bb (fun b k e => by obtain ⟨q1, q2⟩ := HK.out b k e; exact keptS (by omega) _)) (by simp [World.setCell]; omega) hpre
          dsimp only [encS] at hy
          go_upto_region 14 with fail
          refine (wpIn_wide (n := 0)).1 ?_
          gi_wp2
          refine ⟨rfl, hR.mono ?_⟩
          clear hy hR
          rintro e W' (⟨rfl, g', hJ', hO, hO2, hO3⟩ | ⟨rfl, hJx'⟩)
          all_goals
            gi_wp2
            try go_wp2
            go_end0
          · exact ⟨⟨_, rfl⟩, .inl ⟨g', by rw [← HP2.out]; exact hJ'⟩⟩
          · exact ⟨⟨_, rfl⟩, .inr ⟨pre ++ [(p, y, v)], hpre, hJx'⟩⟩
        · obtain ⟨b, off, rfl, hb, hc⟩ := (HA.out.past HB1.out) (by omega)
          obtain ⟨c0, c1, c2⟩ := hc.get hlt
          clear hc
          generalize ats F k = u at *
          generalize vls F k = v' at *
          have bb : Below W.heap.size wr ((wr.setCell ⟨W.heap.size + 1, 1, none⟩ (.int .i64 y)).alloc (Obj.cells #[.int .i64 u, .int .i64 v'.1, .int .i64 v'.2] 52)) :=
            ((Below.refl _ wr).setCell (p := ⟨W.heap.size + 1, 1, none⟩) (by simp) _).alloc (by simp [World.setCell]; omega) _
          obtain ⟨fn, tmps, assign, body, hy, hR⟩ := HY.out pre (p, y, v) g _ (HJ.out _ _ _ _ HJ1.out bb (fun b k e => by obtain ⟨q1, q2⟩ := HK.out b k e; exact (keptA (by simp [World.setCell]; omega) _).trans (keptS (by omega) _))) (by simp [World.setCell]; omega) hpre
          dsimp only [encS] at hy
          go_upto_region 14 with fail
          refine (wpIn_wide (n := 0)).1 ?_
          gi_wp2
          refine ⟨rfl, hR.mono ?_⟩
          clear hy hR
          rintro e W' (⟨rfl, g', hJ', hO, hO2, hO3⟩ | ⟨rfl, hJx'⟩)
          all_goals
            gi_wp2
            try go_wp2
            go_end0
          · exact ⟨⟨_, rfl⟩, .inl ⟨g', by rw [← HP2.out]; exact hJ'⟩⟩
          · exact ⟨⟨_, rfl⟩, .inr ⟨pre ++ [(p, y, v)], hpre, hJx'⟩⟩
      · have dz : decide (p < y) = false := decide_eq_false hz
        have HP2 := hidE (show pre = strL F x y by rw [← HP.out]; unfold strZ; rw [if_neg hz, List.append_nil])
        clear HP hz
        rcases he with he | ⟨hlt, he, he2⟩
        · have he1 : decide (k < F.length) = false := decide_eq_false he
          have he2 : decide ((k : Int) < (F.length : Int)) = false := decide_eq_false (by omega)
          have bb : Below W.heap.size wr (wr.setCell ⟨W.heap.size + 1, 1, none⟩ (.int .i64 y)) := (Below.refl _ wr).setCell (p := ⟨W.heap.size + 1, 1, none⟩) (by simp) _
          have HJ2 := hidE (HJ.out _ _ _ _ HJ1.out bb (fun b k e => by obtain ⟨q1, q2⟩ := HK.out b k e; exact keptS (by omega) _))
          clear bb
          go_wp2
          go_end0
          exact ⟨⟨_, rfl⟩, .inl ⟨g, by rw [← HP2.out]; exact HJ2.out⟩⟩
        · obtain ⟨b, off, rfl, hb, hc⟩ := (HA.out.past HB1.out) (by omega)
          obtain ⟨c0, c1, c2⟩ := hc.get hlt
          clear hc
          generalize ats F k = u at *
          generalize vls F k = v' at *
          have bb : Below W.heap.size wr ((wr.setCell ⟨W.heap.size + 1, 1, none⟩ (.int .i64 y)).alloc (Obj.cells #[.int .i64 u, .int .i64 v'.1, .int .i64 v'.2] 52)) :=
            ((Below.refl _ wr).setCell (p := ⟨W.heap.size + 1, 1, none⟩) (by simp) _).alloc (by simp [World.setCell]; omega) _
          have HJ2 := hidE (HJ.out _ _ _ _ HJ1.out bb (fun b k e => by obtain ⟨q1, q2⟩ := HK.out b k e; exact (keptA (by simp [World.setCell]; omega) _).trans (keptS (by omega) _)))
          clear bb
          go_wp2
          go_end0
          exact ⟨⟨_, rfl⟩, .inl ⟨g, by rw [← HP2.out]; exact HJ2.out⟩⟩
    · have HP := hidE hp
      obtain ⟨b, off, rfl, hb, hc⟩ := (HA.out.past HB1.out) (by omega)
      obtain ⟨c0, c1, c2⟩ := hc.get hlt
      have c3 := HBK0.out.cell 2; have c4 := HBK.out.cell 0; have c5 := HBK.out.cell 1; have c6 := HBK.out.cell 2; have c7 := HBK.out.cell 3; have f4 := HBK.out.free; have z4 := HBK.out.lt; have z3 := HBK0.out.lt
      simp at c3 c4 c5 c6 c7
      clear hc hp
      generalize ats F k = u at *
      generalize vls F k = v' at *
      go_wp2
      go_roundg (F.length - (k + 1))
      case measure => have := HG.out; omega
      case rel =>
        have hsz := HSZ.out
        have bb : Below W.heap.size wr (((wr.setCell ⟨W.heap.size + 1, 2, none⟩ (.int .i64 v'.1)).setCell ⟨W.heap.size + 1, 3, none⟩ (.int .i64 v'.2)).alloc (Obj.cells #[.int .i64 u, .int .i64 v'.1, .int .i64 v'.2] 52)) :=
          (((Below.refl _ wr).setCell (p := ⟨W.heap.size + 1, 2, none⟩) (by simp) _).setCell (p := ⟨W.heap.size + 1, 3, none⟩) (by simp) _).alloc (by simp [World.setCell]; omega) _
        exact ⟨⟨k + 1, p, q, v', pre, g, HGB.out, by omega, Nat.le_refl _, by go_num, HP.out, HJ.out _ _ _ _ HJ1.out bb (fun b k e => by obtain ⟨q1, q2⟩ := HK.out b k e; exact (keptA (by simp [World.setCell]; omega) _).trans ((keptS (by omega) _).trans (keptS (by omega) _))), HB1.out.trans (bb.mono HBW.out.size), by simp [World.setCell]; omega, ((HBK.out.set 2 (.int .i64 v'.1)).set 3 (.int .i64 v'.2)).alloc _⟩, ((HBK0.out.other (by omega) _).other (by omega) _).alloc _⟩
    · have HP := hidE hp
      obtain ⟨b, off, rfl, hb, hc⟩ := (HA.out.past HB1.out) (by omega)
      obtain ⟨c0, c1, c2⟩ := hc.get hlt
      have c3 := HBK0.out.cell 2; have c4 := HBK.out.cell 0; have c5 := HBK.out.cell 1; have c6 := HBK.out.cell 2; have c7 := HBK.out.cell 3; have f4 := HBK.out.free; have z4 := HBK.out.lt; have z3 := HBK0.out.lt
      simp at c3 c4 c5 c6 c7
      clear hc hp
      generalize ats F k = u at *
      generalize vls F k = v' at *
      have hpre : pre ++ [(p, u, v)] <+: strL F x y := ⟨strG y (F.drop (k + 1)) u v', by rw [← HP.out]; simp⟩
      have hsz := HSZ.out
      have q1 := (HBK.out.set 1 (.int .i64 u)).alloc (Obj.cells #[.int .i64 u, .int .i64 v'.1, .int .i64 v'.2] 52)
      have q0 := (HBK0.out.other (b := W.heap.size + 1) (i := 1) (by omega) (.int .i64 u)).alloc (Obj.cells #[.int .i64 u, .int .i64 v'.1, .int .i64 v'.2] 52)
      have qr : Blk ((wr.setCell ⟨W.heap.size + 1, 1, none⟩ (.int .i64 u)).alloc (Obj.cells #[.int .i64 u, .int .i64 v'.1, .int .i64 v'.2] 52)) wr.heap.size #[.int .i64 u, .int .i64 v'.1, .int .i64 v'.2] 52 := Blk.made_at _ _ _ _ (by simp [World.setCell])
      have bb : Below W.heap.size wr ((wr.setCell ⟨W.heap.size + 1, 1, none⟩ (.int .i64 u)).alloc (Obj.cells #[.int .i64 u, .int .i64 v'.1, .int .i64 v'.2] 52)) :=
        ((Below.refl _ wr).setCell (p := ⟨W.heap.size + 1, 1, none⟩) (by simp) _).alloc (by simp [World.setCell]; omega) _
      obtain ⟨fn, tmps, assign, body, hy, hR⟩ := HY.out pre (p, u, v) g _ (HJ.out _ _ _ _ HJ1.out bb (fun b k e => by obtain ⟨q1, q2⟩ := HK.out b k e; exact (keptA (by simp [World.setCell]; omega) _).trans (keptS (by omega) _))) (by simp [World.setCell]; omega) hpre
      dsimp only [encS] at hy
      have HQ1 := hidE q1; have HQ0 := hidE q0; have HQR := hidE qr; have HBB := hidE bb; have HPR := hidE hpre
      clear q1 q0 qr bb hpre
      go_upto_region 8 with fail
      refine (wpIn_wide (n := 0)).1 ?_
      gi_wp2
      refine ⟨rfl, hR.mono ?_⟩
      clear hy hR
      rintro e W' (⟨rfl, g', hJ', hO, hO2, hO3⟩ | ⟨rfl, hJx'⟩)
      · have hz1 := hO.size
        have hzz : W.heap.size ≤ wr.heap.size := by omega
        simp [World.setCell] at hz1
        have s1 := (hO2 _ (by omega) HQ1.out.lt (fun b e => by have := HK.out b _ e; omega)).trans HQ1.out
        have s0 := (hO2 _ (by omega) HQ0.out.lt (fun b e => by have := HK.out b _ e; omega)).trans HQ0.out
        have sr := (hO2 _ (by omega) HQR.out.lt (fun b e => by have := HK.out b _ e; omega)).trans HQR.out
        have HGB2 := hidE (fun b k (e : g' = some (b, k)) => show W.heap.size + 2 ≤ b from by
          rcases hO3 b k e with h | ⟨j, h⟩
          · simp [World.setCell] at h; omega
          · exact HGB.out b j h)
        have HJ2 := hidE hJ'; have HO := hidE hO
        clear hO hO2 hO3 hJ'
        change Blk W' _ _ _ at s1
        change Blk W' _ _ _ at s0
        change Blk W' _ _ _ at sr
        have d0 := sr.cell 0; have d1 := sr.cell 1; have d2 := sr.cell 2; have dz := sr.lt
        have g0 := s1.cell 0; have g1 := s1.cell 1; have g2 := s1.cell 2; have g3 := s1.cell 3; have gf := s1.free; have gz := s1.lt
        simp at d0 d1 d2 g0 g1 g2 g3
        clear hz1 c0 c1 c2 c3 c4 c5 c6 c7 f4 z4 z3 hb
        gi_wp2
        go_wp2
        go_roundg (F.length - (k + 1))
        case measure => have := HG.out; omega
        case rel =>
          have bc : Below W.heap.size W' (((W'.setCell ⟨W.heap.size + 1, 0, none⟩ (.int .i64 u)).setCell ⟨W.heap.size + 1, 2, none⟩ (.int .i64 v'.1)).setCell ⟨W.heap.size + 1, 3, none⟩ (.int .i64 v'.2)) :=
            (((Below.refl _ W').setCell (p := ⟨W.heap.size + 1, 0, none⟩) (by simp) _).setCell (p := ⟨W.heap.size + 1, 2, none⟩) (by simp) _).setCell (p := ⟨W.heap.size + 1, 3, none⟩) (by simp) _
          have hz1 := HO.out.size
          simp [World.setCell] at hz1
          refine ⟨⟨k + 1, u, u, v', pre ++ [(p, u, v)], g', HGB2.out, by omega, Nat.le_refl _, by go_num, ?_, HJ.out _ _ _ _ HJ2.out bc (fun b k e => by have q1 := HGB2.out b k e; have q2 := (HJG.out _ _ _ HJ2.out b k e).1; exact (keptS (by omega) _).trans ((keptS (by omega) _).trans (keptS (by omega) _))), ((HB1.out.trans (HBB.out.mono HBW.out.size)).trans HO.out).trans (bc.mono HBW.out.size), by simp [World.setCell]; omega, ?_⟩, ?_⟩
          · rw [← HP.out]; simp
          · simpa using ((s1.set 0 (.int .i64 u)).set 2 (.int .i64 v'.1)).set 3 (.int .i64 v'.2)
          · exact ((s0.other (by omega) _).other (by omega) _).other (by omega) _
      · gi_wp2
        go_wp2
        refine bodyPost_ret (results_none rfl _ _ _) rfl ?_
        exact ⟨⟨_, rfl⟩, .inr ⟨pre ++ [(p, u, v)], HPR.out, hJx'⟩⟩
theorem str_c (F : List Sg) (x y : Int) (a : Option Addr) (cap : Nat) (w0 w : World) (hl : F.length ≤ 1000000000) (hA : ArgS w0 a F) (hb : Below w0.heap.size w0 w) :
    SeqT Try.prog 51 #[WN a F.length cap x y] #[] encS w0.heap.size (strL F x y) w := (strO_c F x y a cap w0 w hl hA hb).toT
end Go.Proofs.Ytlhokgcamcaonaa

namespace Go.Proofs.Ytlhokgcamcaonaa
open Go.ChangeShapes Go.WideShapes Go.ChangeAt Go.RowKit Go.Shelf
attribute [local irreducible] Go.Calls
attribute [local go_sem] Oper.semAt_some

theorem outBlk {n₀ n₁ k : Nat} {W W' : World} {cs : Array Value} {t : TypeId} (h : Blk W k cs t) (ho : Outside n₀ n₁ W W') (hk : n₁ ≤ k) : Blk W' k cs t := (ho.beyond k hk h.lt).trans h
/-- Between two rounds. -/
def EvI (a : Option Addr) (n cap : Nat) (x y : Int) (fv : Value) (J : List St → World → Prop) (w0 w : World) (pre : List St) (W : World) : Prop :=
  J pre W ∧ Below w0.heap.size w0 W ∧ Blk W (w.heap.size + 1) #[fv] 91 ∧ Blk W w.heap.size #[.slice a n cap, .int .i64 x, .int .i64 y] 86
theorem wndB_not {x y : Int} (h : wndB x y = false) : x < -1125899906842624 ∨ (-1125899906842624 ≤ x ∧ 1125899906842624 < y) ∨ (-1125899906842624 ≤ x ∧ y ≤ 1125899906842624 ∧ y ≤ x) ∨ (-1125899906842624 ≤ x ∧ y ≤ 1125899906842624 ∧ x < y ∧ 8000 < y - x) := by
  unfold wndB at h
  have := of_decide_eq_false h
  omega
/-- The stretches that are handed on. -/
def evS (F : List Sg) (x y : Int) : List St := if badW F x y = 0 then strL F x y else []

set_option maxRecDepth 100000 in
set_option maxHeartbeats 2000000 in
theorem ev_c (F : List Sg) (x y : Int) (a : Option Addr) (cap gk : Nat) (lk : Array Value) (w0 w : World) (J : List St → World → Prop) (hl : F.length ≤ 1000000000) (hA : ArgS w0 a F) (hb : Below w0.heap.size w0 w)
    (eg : ∀ args w, (callFunc gk args).run Try.prog w = .ok (.enter gk args) w)
    (hJ : ∀ s A B, J s A → Below w.heap.size A B → J s B)
    (hE : badW F x y = 0 → ∀ pre s W, w.heap.size ≤ W.heap.size → J pre W → pre ++ [s] <+: strL F x y → Calls Try.prog gk (encS s ++ lk) W fun e W' => (∃ v, e = .returned v) ∧ J (pre ++ [s]) W' ∧ Outside w0.heap.size w.heap.size W W') (h0 : J [] w) :
    Calls Try.prog 36 #[WN a F.length cap x y, .func (.func gk) #[] lk] w fun e w' => e = .returned (.int .i64 (badW F x y)) ∧ J (evS F x y) w' ∧ Below w0.heap.size w0 w' := by
  have HA := hidE hA; have HJ := hidE hJ; have HE := hidE hE; have H0 := hidE h0; have HBW := hidE hb
  have HV := hidE (fun w hA => pmay_c F a cap w (by omega) hA)
  have HZ := hidE hb.size
  clear hJ hE h0 hb
  cases h1 : mayB F
  · have HS := hidE (show evS F x y = [] by unfold evS; rw [badW_form h1, if_neg (by decide)])
    rw [badW_form h1]
    rw [h1] at HV
    clear h1 hA
    go_enter Try.func36, Try.ntmps36
    go_wp2_with fail
    ((with_reducible refine (HV.out _ (HA.out.past (HBW.out.trans (Below.mono (by (repeat (first | exact Below.refl _ _ | assumption | refine balloc ?_ _ | refine below_drewN ?_ _ | refine bstep (by assumption) ?_ | refine bstep (Past.prop _) ?_ | refine Below.setCell ?_ (by first | exact Nat.le_refl _ | (simp; done) | (simp; omega)) _))) HBW.out.size)))).mono ?_); rintro e w1 ⟨rfl, hb1⟩)
    have HB1 := hidE (show Below w.heap.size w w1 by (repeat (first | exact Below.refl _ _ | assumption | refine balloc ?_ _ | refine below_drewN ?_ _ | refine bstep (by assumption) ?_ | refine bstep (Past.prop _) ?_ | refine Below.setCell ?_ (by first | exact Nat.le_refl _ | (simp; done) | (simp; omega)) _)))
    clear hb1
    go_wp2
    go_ret
    exact ⟨rfl, by rw [HS.out]; exact HJ.out _ _ _ H0.out HB1.out, HBW.out.trans (HB1.out.mono HZ.out)⟩
  rw [h1] at HV
  cases h2 : wndB x y
  · have HS := hidE (show evS F x y = [] by unfold evS; rw [badW_arg h1 h2, if_neg (by decide)])
    rw [badW_arg h1 h2]
    have hq := wndB_not h2
    clear h1 h2 hA
    rcases hq with h | ⟨h, h'⟩ | ⟨h, h', h2⟩ | ⟨h, h', h2, h3⟩
    · have e1 : decide (x < -1125899906842624) = true := decide_eq_true h
      go_enter Try.func36, Try.ntmps36
      go_wp2_with fail
      ((with_reducible refine (HV.out _ (HA.out.past (HBW.out.trans (Below.mono (by (repeat (first | exact Below.refl _ _ | assumption | refine balloc ?_ _ | refine below_drewN ?_ _ | refine bstep (by assumption) ?_ | refine bstep (Past.prop _) ?_ | refine Below.setCell ?_ (by first | exact Nat.le_refl _ | (simp; done) | (simp; omega)) _))) HBW.out.size)))).mono ?_); rintro e w1 ⟨rfl, hb1⟩)
      have HB1 := hidE (show Below w.heap.size w w1 by (repeat (first | exact Below.refl _ _ | assumption | refine balloc ?_ _ | refine below_drewN ?_ _ | refine bstep (by assumption) ?_ | refine bstep (Past.prop _) ?_ | refine Below.setCell ?_ (by first | exact Nat.le_refl _ | (simp; done) | (simp; omega)) _)))
      have B1 := (Blk.alloc (Blk.made w #[.slice a F.length cap, .int .i64 x, .int .i64 y] 86) (Obj.cells #[Value.func (.func gk) #[] lk] 91)).past hb1
      have c1 := B1.cell 1; have c2 := B1.cell 2; have z1 := B1.lt
      simp at c1 c2
      clear hb1
      go_wp2
      go_ret
      exact ⟨rfl, by rw [HS.out]; exact HJ.out _ _ _ H0.out HB1.out, HBW.out.trans (HB1.out.mono HZ.out)⟩
    · have e0 : decide (x < -1125899906842624) = false := decide_eq_false (by omega)
      have e1 : decide (1125899906842624 < y) = true := decide_eq_true (by omega)
      go_enter Try.func36, Try.ntmps36
      go_wp2_with fail
      ((with_reducible refine (HV.out _ (HA.out.past (HBW.out.trans (Below.mono (by (repeat (first | exact Below.refl _ _ | assumption | refine balloc ?_ _ | refine below_drewN ?_ _ | refine bstep (by assumption) ?_ | refine bstep (Past.prop _) ?_ | refine Below.setCell ?_ (by first | exact Nat.le_refl _ | (simp; done) | (simp; omega)) _))) HBW.out.size)))).mono ?_); rintro e w1 ⟨rfl, hb1⟩)
      have HB1 := hidE (show Below w.heap.size w w1 by (repeat (first | exact Below.refl _ _ | assumption | refine balloc ?_ _ | refine below_drewN ?_ _ | refine bstep (by assumption) ?_ | refine bstep (Past.prop _) ?_ | refine Below.setCell ?_ (by first | exact Nat.le_refl _ | (simp; done) | (simp; omega)) _)))
      have B1 := (Blk.alloc (Blk.made w #[.slice a F.length cap, .int .i64 x, .int .i64 y] 86) (Obj.cells #[Value.func (.func gk) #[] lk] 91)).past hb1
      have c1 := B1.cell 1; have c2 := B1.cell 2; have z1 := B1.lt
      simp at c1 c2
      clear hb1
      go_wp2
      go_ret
      exact ⟨rfl, by rw [HS.out]; exact HJ.out _ _ _ H0.out HB1.out, HBW.out.trans (HB1.out.mono HZ.out)⟩
    · have e0 : decide (x < -1125899906842624) = false := decide_eq_false (by omega)
      have e1 : decide (1125899906842624 < y) = false := decide_eq_false (by omega)
      have e2 : decide (y ≤ x) = true := decide_eq_true (by omega)
      go_enter Try.func36, Try.ntmps36
      go_wp2_with fail
      ((with_reducible refine (HV.out _ (HA.out.past (HBW.out.trans (Below.mono (by (repeat (first | exact Below.refl _ _ | assumption | refine balloc ?_ _ | refine below_drewN ?_ _ | refine bstep (by assumption) ?_ | refine bstep (Past.prop _) ?_ | refine Below.setCell ?_ (by first | exact Nat.le_refl _ | (simp; done) | (simp; omega)) _))) HBW.out.size)))).mono ?_); rintro e w1 ⟨rfl, hb1⟩)
      have HB1 := hidE (show Below w.heap.size w w1 by (repeat (first | exact Below.refl _ _ | assumption | refine balloc ?_ _ | refine below_drewN ?_ _ | refine bstep (by assumption) ?_ | refine bstep (Past.prop _) ?_ | refine Below.setCell ?_ (by first | exact Nat.le_refl _ | (simp; done) | (simp; omega)) _)))
      have B1 := (Blk.alloc (Blk.made w #[.slice a F.length cap, .int .i64 x, .int .i64 y] 86) (Obj.cells #[Value.func (.func gk) #[] lk] 91)).past hb1
      have c1 := B1.cell 1; have c2 := B1.cell 2; have z1 := B1.lt
      simp at c1 c2
      clear hb1
      go_wp2
      go_ret
      exact ⟨rfl, by rw [HS.out]; exact HJ.out _ _ _ H0.out HB1.out, HBW.out.trans (HB1.out.mono HZ.out)⟩
    · have e0 : decide (x < -1125899906842624) = false := decide_eq_false (by omega)
      have e1 : decide (1125899906842624 < y) = false := decide_eq_false (by omega)
      have e2 : decide (y ≤ x) = false := decide_eq_false (by omega)
      have e3 : decide (8000 < y - x) = true := decide_eq_true (by omega)
      go_enter Try.func36, Try.ntmps36
      go_wp2_with fail
      ((with_reducible refine (HV.out _ (HA.out.past (HBW.out.trans (Below.mono (by (repeat (first | exact Below.refl _ _ | assumption | refine balloc ?_ _ | refine below_drewN ?_ _ | refine bstep (by assumption) ?_ | refine bstep (Past.prop _) ?_ | refine Below.setCell ?_ (by first | exact Nat.le_refl _ | (simp; done) | (simp; omega)) _))) HBW.out.size)))).mono ?_); rintro e w1 ⟨rfl, hb1⟩)
      have HB1 := hidE (show Below w.heap.size w w1 by (repeat (first | exact Below.refl _ _ | assumption | refine balloc ?_ _ | refine below_drewN ?_ _ | refine bstep (by assumption) ?_ | refine bstep (Past.prop _) ?_ | refine Below.setCell ?_ (by first | exact Nat.le_refl _ | (simp; done) | (simp; omega)) _)))
      have B1 := (Blk.alloc (Blk.made w #[.slice a F.length cap, .int .i64 x, .int .i64 y] 86) (Obj.cells #[Value.func (.func gk) #[] lk] 91)).past hb1
      have c1 := B1.cell 1; have c2 := B1.cell 2; have z1 := B1.lt
      simp at c1 c2
      clear hb1
      go_wp2
      go_ret
      exact ⟨rfl, by rw [HS.out]; exact HJ.out _ _ _ H0.out HB1.out, HBW.out.trans (HB1.out.mono HZ.out)⟩
  · have HS := hidE (show evS F x y = strL F x y by unfold evS; rw [badW_ok h1 h2, if_pos rfl])
    rw [badW_ok h1 h2]
    have HE := hidE (HE.out (badW_ok h1 h2))
    rw [wndB_iff] at h2
    have e0 : decide (x < -1125899906842624) = false := decide_eq_false (by omega)
    have e1 : decide (1125899906842624 < y) = false := decide_eq_false (by omega)
    have e2 : decide (y ≤ x) = false := decide_eq_false (by omega)
    have e3 : decide (8000 < y - x) = false := decide_eq_false (by omega)
    have HSEQ := hidE (fun w' hb => str_c F x y a cap w0 w' hl hA hb)
    clear h1 hA
    refine (callsIn_wide (n := 0)).1 (callsIn_of_wp_marks Try.func36 rfl trivial ((wpIn_wide (n := 0)).2 ?_))
    simp only [Try.ntmps36, List.size_toArray, List.length_cons, List.length_nil, Nat.reduceAdd, Nat.reduceSub, Array.replicate_succ, Array.replicate_zero, List.push_toArray, List.append_toArray, List.nil_append, List.cons_append]
    go_wp2_with fail
    ((with_reducible refine (HV.out _ (HA.out.past (HBW.out.trans (Below.mono (by (repeat (first | exact Below.refl _ _ | assumption | refine balloc ?_ _ | refine below_drewN ?_ _ | refine bstep (by assumption) ?_ | refine bstep (Past.prop _) ?_ | refine Below.setCell ?_ (by first | exact Nat.le_refl _ | (simp; done) | (simp; omega)) _))) HBW.out.size)))).mono ?_); rintro e w1 ⟨rfl, hb1⟩)
    have HB1 := hidE (show Below w.heap.size w w1 by (repeat (first | exact Below.refl _ _ | assumption | refine balloc ?_ _ | refine below_drewN ?_ _ | refine bstep (by assumption) ?_ | refine bstep (Past.prop _) ?_ | refine Below.setCell ?_ (by first | exact Nat.le_refl _ | (simp; done) | (simp; omega)) _)))
    have B1 := (Blk.alloc (Blk.made w #[.slice a F.length cap, .int .i64 x, .int .i64 y] 86) (Obj.cells #[Value.func (.func gk) #[] lk] 91)).past hb1
    have B2 := (Blk.made_at (w.alloc (Obj.cells #[.slice a F.length cap, .int .i64 x, .int .i64 y] 86)) #[Value.func (.func gk) #[] lk] 91 (w.heap.size + 1) (by simp)).past hb1
    have c0 := B1.cell 0; have c1 := B1.cell 1; have c2 := B1.cell 2; have z1 := B1.lt; have z2 := B2.lt
    simp at c0 c1 c2
    have HK1 := hidE B1; have HK2 := hidE B2
    clear hb1 B1 B2
    go_wp2
    have hn0 : w0.heap.size ≤ w1.heap.size := Nat.le_trans HZ.out HB1.out.size
    have hI0 : EvI a F.length cap x y (.func (.func gk) #[] lk) J w0 w [] w1 := ⟨HJ.out _ _ _ H0.out HB1.out, HBW.out.trans (HB1.out.mono HZ.out), HK2.out, HK1.out⟩
    clear e0 e1 e2 e3 c0 c1 c2 h2 HV
    refine wp_rangeFunc_T (n₀ := w0.heap.size) (S := strL F x y) rfl (enters_of Try.func51 (by kernel_rfl) rfl) hn0 (HSEQ.out _ hI0.2.1) (fun _ => rfl)
      (EvI a F.length cap x y (.func (.func gk) #[] lk) J w0 w) (fun _ _ _ => False)
      (fun s A B h hb => ⟨HJ.out _ _ _ h.1 (hb.mono HB1.out.size), h.2.1.trans (hb.mono hn0), h.2.2.1.below hb z2, h.2.2.2.below hb z1⟩) (fun c s A B h hb => h.elim) hI0
      (fun s a1 W => ∃ (Bx : Nat) (u0 u1 u2 u4 u6 u7 u8 u9 u10 u11 u12 u13 u14 u15 u16 u17 u18 u19 u20 u21 u22 u23 u24 u25 u26 u27 u28 u29 u30 u31 u32 u33 u34 u35 u36 u37 u38 : Value), w1.heap.size ≤ Bx ∧ Blk W Bx #[.int .i64 s.1, .int .i64 s.2.1, .int .i64 s.2.2.1, .int .i64 s.2.2.2] 89 ∧ a1 = { tmps := #[u0, u1, u2, .pointer (some ⟨w.heap.size + 1, 0, none⟩), u4, .pointer (some ⟨Bx, 0, none⟩), u6, u7, u8, u9, u10, u11, u12, u13, u14, u15, u16, u17, u18, u19, u20, u21, u22, u23, u24, u25, u26, u27, u28, u29, u30, u31, u32, u33, u34, u35, u36, u37, u38], defers := [] })
      ?hax ?assign ?body ?done ?stop
    case hax =>
      rintro p a1 A l r o ⟨Bx, u0, u1, u2, u4, u6, u7, u8, u9, u10, u11, u12, u13, u14, u15, u16, u17, u18, u19, u20, u21, u22, u23, u24, u25, u26, u27, u28, u29, u30, u31, u32, u33, u34, u35, u36, u37, u38, h1, h2, h3⟩ hlr
      exact ⟨Bx, _, _, _, _, _, _, _, _, _, _, _, _, _, _, _, _, _, _, _, _, _, _, _, _, _, _, _, _, _, _, _, _, _, _, _, _, _, h1, (World.putObj_heap_other (fun e => by subst e; rw [show A.heap[Bx]? = _ from h2] at hlr; cases hlr)).trans h2, h3⟩
    case assign =>
      intro l pre s W K hsz hi hK
      dsimp only [encS]
      gi_wp2
      refine hK _ _ (Outside.of_below ((Below.refl _ _).alloc (Nat.le_refl _) _) (by omega)) ⟨HJ.out _ _ _ hi.1 ((Below.refl _ _).alloc (by omega) _), hi.2.1.alloc (by omega) _, hi.2.2.1.alloc _, hi.2.2.2.alloc _⟩ ⟨W.heap.size, _, _, _, _, _, _, _, _, _, _, _, _, _, _, _, _, _, _, _, _, _, _, _, _, _, _, _, _, _, _, _, _, _, _, _, _, _, by omega, Blk.made _ _ _, rfl⟩
    case body =>
      rintro l pre s a1 W hsz ⟨i1, i2, i3, i4⟩ ⟨Bx, u0, u1, u2, u4, u6, u7, u8, u9, u10, u11, u12, u13, u14, u15, u16, u17, u18, u19, u20, u21, u22, u23, u24, u25, u26, u27, u28, u29, u30, u31, u32, u33, u34, u35, u36, u37, u38, hBx, bX, rfl⟩ hpre
      have HC := hidE (HE.out pre s W (by omega) i1 hpre)
      have y0 := bX.cell 0; have y1 := bX.cell 1; have y2 := bX.cell 2; have y3 := bX.cell 3; have yz := bX.lt
      have t0 := i3.cell 0; have t1 := i3.lt
      simp at y0 y1 y2 y3 t0
      clear hI0 HSEQ
      gi_wp2_with fail
      refine ⟨trivial, rfl, (CallsIn.inRound l (callsIn_wide.2 HC.out)).mono ?_⟩
      rintro e w3 ⟨⟨v, rfl⟩, hJ3, hO⟩
      gi_wp2
      have hO' : Outside w0.heap.size w1.heap.size W w3 := hO.weak (by omega)
      exact ⟨hO', hJ3, i2.trans hO.below, outBlk i3 hO (by omega), outBlk i4 hO (by omega)⟩
    case done =>
      rintro D W hD ⟨i1, i2, i3, i4⟩ hK
      clear hI0 HSEQ
      go_wp2
      refine ⟨by simp, .inl ⟨_, _, rfl, run_takeDeferred hK, ?_⟩⟩
      refine ⟨.int .i64 0, by simp [results, Try.results36, go_sem], rfl, by rw [HS.out]; exact HJ.out _ _ _ i1 (below_putObj _ _ _ (by omega)), i2.trans (below_putObj _ _ _ (by omega))⟩
    case stop =>
      rintro D c pre W hD hpre h hK
      exact h.elim
end Go.Proofs.Ytlhokgcamcaonaa

namespace Go.Proofs.Ytlhokgcamcaonaa
open Go.ChangeShapes Go.WideShapes Go.ChangeAt Go.RowKit Go.Shelf
attribute [local irreducible] Go.Calls

theorem wrap_add {a b : Int} (h : -9223372036854775808 ≤ a + b) (h2 : a + b ≤ 9223372036854775807) : wrap64 (a + wrap64 b) = a + b := by unfold wrap64; omega
set_option maxHeartbeats 1000000 in
theorem along_c (a b n c d : Int) (w : World) (h1 : -9223372036854775808 ≤ a + n * c ∧ a + n * c ≤ 9223372036854775807) (h2 : -9223372036854775808 ≤ b + n * d ∧ b + n * d ≤ 9223372036854775807) :
    Calls Try.prog 38 #[V a b, .int .i64 n, V c d] w fun e w' => e = .returned (V (a + n * c) (b + n * d)) ∧ Below w.heap.size w w' := by
  have H1 := hidE (wrap_add h1.1 h1.2); have H2 := hidE (wrap_add h2.1 h2.2)
  clear h1 h2
  go_enter Try.func38, Try.ntmps38
  go_wp2
  refine bodyPost_ret (v := V (a + n * c) (b + n * d)) ?_ rfl ⟨rfl, ?_⟩
  · have q1 := H1.out; have q2 := H2.out
    simp [results, Try.results38, go_sem, q1, q2]
  · (repeat (first | exact Below.refl _ _ | assumption | refine balloc ?_ _ | refine below_drewN ?_ _ | refine bstep (by assumption) ?_ | refine bstep (Past.prop _) ?_ | refine Below.setCell ?_ (by first | exact Nat.le_refl _ | (simp; done) | (simp; omega)) _))

/-- What the closure keeps. -/
theorem addcl_c (s : St) (p : Nat) (acc : Int × Int) (w : World) (hB : Blk w p #[.int .i64 acc.1, .int .i64 acc.2] 29)
    (h0 : -9223372036854775808 ≤ s.2.1 - s.1 ∧ s.2.1 - s.1 ≤ 9223372036854775807)
    (h1 : -9223372036854775808 ≤ (addG acc s).1 ∧ (addG acc s).1 ≤ 9223372036854775807) (h2 : -9223372036854775808 ≤ (addG acc s).2 ∧ (addG acc s).2 ≤ 9223372036854775807) :
    Calls Try.prog 37 (encS s ++ #[.pointer (some ⟨p, 0, none⟩)]) w fun e w' => (∃ v, e = .returned v) ∧ Blk w' p #[.int .i64 (addG acc s).1, .int .i64 (addG acc s).2] 29 ∧ w.grownBy w' (some p) := by
  have HC := hidE (fun w => along_c acc.1 acc.2 (s.2.1 - s.1) s.2.2.1 s.2.2.2 w h1 h2)
  have e0 := hB.cell 0; have e1 := hB.cell 1; have ef := hB.free; have ez := hB.lt
  simp at e0 e1
  have HB := hidE hB
  have HG := hidE (show addG acc s = (acc.1 + (s.2.1 - s.1) * s.2.2.1, acc.2 + (s.2.1 - s.1) * s.2.2.2) from rfl)
  clear h1 h2 hB
  rw [HG.out]
  show Calls _ _ #[.agg #[.int .i64 s.1, .int .i64 s.2.1, .int .i64 s.2.2.1, .int .i64 s.2.2.2], .pointer (some ⟨p, 0, none⟩)] _ _
  generalize acc.1 + (s.2.1 - s.1) * s.2.2.1 = q1 at *
  generalize acc.2 + (s.2.1 - s.1) * s.2.2.2 = q2 at *
  go_enter Try.func37, Try.ntmps37
  go_wp2_with fail
  ((with_reducible refine (HC.out _).mono ?_); rintro e w1 ⟨rfl, hb1⟩)
  have hb : Below w.heap.size w w1 := by (repeat (first | exact Below.refl _ _ | assumption | refine balloc ?_ _ | refine below_drewN ?_ _ | refine bstep (by assumption) ?_ | refine bstep (Past.prop _) ?_ | refine Below.setCell ?_ (by first | exact Nat.le_refl _ | (simp; done) | (simp; omega)) _))
  have B1 := HB.out.below hb ez
  clear hb1 e0 e1 ef ez
  have e0 := B1.cell 0; have e1 := B1.cell 1; have ef := B1.free; have ez := B1.lt
  simp at e0 e1
  go_wp2
  go_end0
  refine ⟨⟨_, rfl⟩, by simpa using (B1.set 0 (.int .i64 q1)).set 1 (.int .i64 q2), ?_⟩
  exact grown_trans (grown_trans (grown_any hb) (grown_set _ _ _ _)) (grown_set _ _ _ _)

/-- The sum so far. -/
def sumJ (F : List Sg) (x : Int) (p : Nat) (pre : List St) (W : World) : Prop :=
  Blk W p #[.int .i64 (sumN F x (endG x pre - x).toNat).1, .int .i64 (sumN F x (endG x pre - x).toNat).2] 29
set_option maxHeartbeats 1000000 in
theorem sum_c (F : List Sg) (x y : Int) (a : Option Addr) (cap : Nat) (w : World) (hl : F.length ≤ 1000000000) (hA : ArgS w a F) :
    Calls Try.prog 20 #[.slice a F.length cap, .int .i64 x, .int .i64 y] w fun e w' => e = .returned (VE (totS F x y)) ∧ Below w.heap.size w w' := by
  obtain ⟨w0, hw0⟩ : ∃ w0, w0 = w.alloc (Obj.cells #[.int .i64 0, .int .i64 0] 29) := ⟨_, rfl⟩
  have hz0 : w0.heap.size = w.heap.size + 1 := by rw [hw0]; simp
  have hA0 : ArgS w0 a F := hA.past (by rw [hw0]; (repeat (first | exact Below.refl _ _ | assumption | refine balloc ?_ _ | refine below_drewN ?_ _ | refine bstep (by assumption) ?_ | refine bstep (Past.prop _) ?_ | refine Below.setCell ?_ (by first | exact Nat.le_refl _ | (simp; done) | (simp; omega)) _)))
  have HEV := hidE (fun (w' : World) (hb : Below w0.heap.size w0 w') (hB : Blk w' (w.heap.size + 1) #[.int .i64 0, .int .i64 0] 29) => ev_c F x y a cap 37 #[.pointer (some ⟨w.heap.size + 1, 0, none⟩)] w0 w' (sumJ F x (w.heap.size + 1)) hl hA0 hb
    (enters_of Try.func37 (by kernel_rfl) rfl) (fun s A B h hb2 => h.below hb2 hB.lt)
    (fun hbad pre s W hz hJ hpre => by
      obtain ⟨hm, hwn⟩ := badW_zero.1 hbad
      rw [wndB_iff] at hwn
      obtain ⟨k1, k2, k3, k4, k5⟩ := str_at (mayB_iff.1 hm) hpre
      have hsum := add_str (F := F) k2 k3 k5
      have hle := sumN_le (CF.ok (mayB_iff.1 hm)) x (s.2.1 - x).toNat
      have hke : (s.2.1 - x).toNat ≤ 8000 := by omega
      unfold sumJ at hJ
      rw [← k1] at hJ
      have hq : ((((s.2.1 - x).toNat : Nat)) : Int) ≤ 8000 := by omega
      have hm2 : (1125899906842624 : Int) * (((s.2.1 - x).toNat : Nat)) ≤ 9007199254740992000 := by omega
      refine (addcl_c s (w.heap.size + 1) (sumN F x (s.1 - x).toNat) W hJ (by omega) (by rw [← hsum]; omega) (by rw [← hsum]; omega)).mono ?_
      rintro e W' ⟨hv, hB2, hg⟩
      refine ⟨hv, ?_, Outside.of_grown hg (by omega) hB.lt (Nat.le_trans hb.size hz)⟩
      unfold sumJ
      rw [endG_snoc, hsum]
      exact hB2)
    (by unfold sumJ; rw [show endG x [] - x = 0 from Int.sub_self x]; exact hB))
  have HT := hidE (show totS F x y = ((sumN F x (endG x (evS F x y) - x).toNat).1, (sumN F x (endG x (evS F x y) - x).toNat).2, badW F x y) from by
    by_cases hq : badW F x y = 0
    · obtain ⟨hm, hwn⟩ := badW_zero.1 hq
      rw [wndB_iff] at hwn
      rw [totS_ok hq, show evS F x y = strL F x y from if_pos hq, str_end (mayB_iff.1 hm) (by omega), hq]
    · rw [totS_no hq, show evS F x y = [] from if_neg hq, show endG x [] - x = 0 from Int.sub_self x]; rfl)
  clear hA hA0
  rw [HT.out]
  unfold sumJ at HEV
  generalize sumN F x (endG x (evS F x y) - x).toNat = q at *
  generalize badW F x y = er at *
  have HB00 := hidE (show Blk w0 w.heap.size #[.int .i64 0, .int .i64 0] 29 by rw [hw0]; exact Blk.made _ _ _)
  have HBW := hidE (show Below w.heap.size w w0 by rw [hw0]; (repeat (first | exact Below.refl _ _ | assumption | refine balloc ?_ _ | refine below_drewN ?_ _ | refine bstep (by assumption) ?_ | refine bstep (Past.prop _) ?_ | refine Below.setCell ?_ (by first | exact Nat.le_refl _ | (simp; done) | (simp; omega)) _)))
  go_enter Try.func20, Try.ntmps20
  go_wp2_with fail
  rw [← hw0]
  ((with_reducible refine (HEV.out _ ?hb0 ?hB0).mono ?_)); case hb0 => exact (Below.refl _ w0).alloc (Nat.le_refl _) _
  case hB0 => exact Blk.made_at _ _ _ _ (by omega)
  rintro e w1 ⟨rfl, hB1, hb1⟩
  have B0 := HB00.out.below hb1 (by omega)
  have e0 := hB1.cell 0; have e1 := hB1.cell 1; have ez := hB1.lt; have d0 := B0.cell 0; have d1 := B0.cell 1; have df := B0.free; have dz := B0.lt
  simp at e0 e1 d0 d1
  have B2 := (B0.set 0 (.int .i64 q.1)).set 1 (.int .i64 q.2)
  have g0 := B2.cell 0; have g1 := B2.cell 1
  simp at g0 g1
  have HBB := hidE (HBW.out.trans (hb1.mono (by omega)))
  clear hB1 hb1 B0 B2
  go_wp2
  refine bodyPost_ret (v := VE (q.1, q.2, er)) (by simp [results, Try.results20, go_sem, g0, g1]) rfl ⟨rfl, ?_⟩
  exact (HBB.out.setCell (p := ⟨w.heap.size, 0, none⟩) (Nat.le_refl _) _).setCell (p := ⟨w.heap.size, 1, none⟩) (Nat.le_refl _) _
end Go.Proofs.Ytlhokgcamcaonaa

namespace Go.Proofs.Ytlhokgcamcaonaa
open Go.ChangeShapes Go.WideShapes Go.ChangeAt Go.RowKit
attribute [local irreducible] Go.Calls

/-- A satisfied definition: what its usage is like. -/
structure UsD (fr to' m c : Int) (l : List Prt) (W : List Pc) : Prop where
  ok : UseOk l m c W
  her : wrongS fr to' l (unitB m c) W = 0
  frm : ∀ p ∈ W, fr ≤ p.2
  til : ∀ p ∈ W, p.2 + dP l p ≤ to'
  pos : ∀ p ∈ W, 1 ≤ nP l p ∧ 1 ≤ dP l p
  win : 0 ≤ fr ∧ fr < to' ∧ to' ≤ 1099511627776 ∧ to' - fr ≤ 4096
theorem usD_of {fr to' m c : Int} {l : List Prt} {W : List Pc} {z : Int} {t : TI} (hz : wrongS fr to' l (decide ((0 : Int) ≤ 0 ∧ 0 < (l.length : Int))) W = z) (hh : z = 0 → Here l W 0 t) (hm : 1 ≤ m ∧ m ≤ 100) (hc : 1 ≤ c ∧ c ≤ 100)
    (hr : ((lookT z t).ok && (decide (fr ≤ seB (lookT z t).se) && decide (seE (lookT z t).se ≤ to'))) = true) : UsD fr to' m c l W := by
  have hb := sat_both hz hh
  rw [hr] at hb
  have hb := hb.symm
  simp only [Bool.and_eq_true, decide_eq_true_eq] at hb
  obtain ⟨rfl, hw, ho⟩ := hb
  obtain ⟨q1, q2, q3, q4⟩ := wrong_zero hz
  have hck := chk_ok q1
  have hwin := hck.2.1
  have hu : unitB m c = true := by
    unfold unitB
    simp only [Bool.and_eq_true, decide_eq_true_eq]; omega
  have her : wrongS fr to' l (unitB m c) W = 0 := by
    unfold wrongS
    rw [if_neg (by omega), if_neg (by rw [hu, q3]; simp), if_neg (by rw [q4]; simp)]
  have hw : ∀ p ∈ W, fr ≤ p.2 ∧ p.2 + dP l p ≤ to' := fun p hp => by
    unfold winB at hw
    rw [List.all_eq_true] at hw
    have := hw p hp
    simpa using this
  exact ⟨useOk_of her, her, fun p hp => (hw p hp).1, fun p hp => (hw p hp).2, atom_pos hck.2.2.1 (pcs_atoms (by omega) q3), by omega⟩
theorem usD_tot {fr to' m c : Int} {l : List Prt} {W : List Pc} (h : UsD fr to' m c l W) : totS (useL l m c W) fr to' = (wantP l W * m, wantP l W * c, 0) := by
  have hb : badW (useL l m c W) fr to' = 0 := badW_zero.2 ⟨h.ok.spec.1, wndB_iff.2 (by have := h.win; omega)⟩
  rw [totS_ok hb, use_total h.ok (by have := h.win; omega) h.frm h.til]
set_option maxRecDepth 100000 in
set_option maxHeartbeats 8000000 in
theorem satuses_no (fr to' : Int) (l : List Prt) (W : List Pc) (a wa : Option Addr) (cap wcap : Nat) (x y : Int) (W0 : World) (hl : l.length ≤ 100) (hWl : W.length ≤ 100) (hA : ArgP W0 a l) (hP : ArgVs W0 wa W) (_hf : -9223372036854775808 ≤ fr ∧ fr ≤ 9223372036854775807) (_ht : -9223372036854775808 ≤ to' ∧ to' ≤ 9223372036854775807) (hx : 0 ≤ x ∧ x ≤ 255) (hy : 0 ≤ y ∧ y ≤ 255)
    (SA : ∀ w, TL W0 fr to' a l cap wa W w → Calls Try.prog 15 #[def8 fr to' a l.length cap, .slice wa W.length wcap] w fun e w' => e = .returned (.bool false) ∧ Below w.heap.size w w') :
    Calls Try.prog 4 #[def8 fr to' a l.length cap, .slice wa W.length wcap, .agg #[.int .u8 x, .int .u8 y]] W0 fun e w' => e = .returned (.bool true) ∧ Below W0.heap.size W0 w' := by
  have HB0 := hidE (show Below W0.heap.size W0 ((W0.alloc (.cells #[.int .i64 fr, .int .i64 to', .slice a l.length cap] 24)).alloc (.cells #[.int .u8 x, .int .u8 y] 50)) from by (repeat (first | exact Below.refl _ _ | assumption | refine balloc ?_ _ | refine below_drewN ?_ _ | refine bstep (by assumption) ?_ | refine bstep (Past.prop _) ?_ | refine Below.setCell ?_ (by first | exact Nat.le_refl _ | (simp; done) | (simp; omega)) _)))
  have HT0 := hidE (show TL W0 fr to' a l cap wa W ((W0.alloc (.cells #[.int .i64 fr, .int .i64 to', .slice a l.length cap] 24)).alloc (.cells #[.int .u8 x, .int .u8 y] 50)) from ⟨HB0.out, (Blk.made _ _ _).alloc _, hA.past HB0.out, hP.past HB0.out⟩)
  have HH := hidE head10_c
  have SA := hidE SA
  have d1 : decide ((100 : Int) < (l.length : Int)) = false := decide_eq_false (by omega)
  have d1' : decide (100 < l.length) = false := decide_eq_false (by omega)
  have d2 : decide ((100 : Int) < (W.length : Int)) = false := decide_eq_false (by omega)
  have d2' : decide (100 < W.length) = false := decide_eq_false (by omega)
  clear hA hP
  go_enter Try.func4, Try.ntmps4
  go_upto_region 4 with fail
  obtain ⟨m, hm⟩ : ∃ m, 1 + x % 100 = m := ⟨_, rfl⟩
  obtain ⟨c, hc⟩ : ∃ c, 1 + y % 100 = c := ⟨_, rfl⟩
  rw [hm, hc]
  obtain ⟨w3, hw3⟩ : ∃ w3, w3 = ((W0.alloc (.cells #[.int .i64 fr, .int .i64 to', .slice a l.length cap] 24)).alloc (.cells #[.int .u8 x, .int .u8 y] 50)).alloc (.cells #[.int .i64 m, .int .i64 c] 29) := ⟨_, rfl⟩
  rw [← hw3]
  have HT := hidE (show TL W0 fr to' a l cap wa W w3 from by rw [hw3]; exact HT0.out.past (by (repeat (first | exact Below.refl _ _ | assumption | refine balloc ?_ _ | refine below_drewN ?_ _ | refine bstep (by assumption) ?_ | refine bstep (Past.prop _) ?_ | refine Below.setCell ?_ (by first | exact Nat.le_refl _ | (simp; done) | (simp; omega)) _))))
  have HU := hidE (show Blk w3 (W0.heap.size + 1 + 1) #[.int .i64 m, .int .i64 c] 29 from by rw [hw3]; exact Blk.made_at _ _ _ _ (by simp))
  clear hw3 HT0 HB0
  have p0 := HT.out.d.cell 0; have p1 := HT.out.d.cell 1; have p2 := HT.out.d.cell 2; have pz := HT.out.d.lt
  have u0 := HU.out.cell 0; have u1 := HU.out.cell 1; have uz := HU.out.lt
  simp at p0 p1 p2 u0 u1
  by_cases h0 : W.length = 0
  · have e0 : ((W.length : Int) == 0) = true := beq_iff_eq.2 (by omega)
    have e0' : (W.length == 0) = true := beq_iff_eq.2 h0
    clear h0
    go_wp2_with fail
    ((with_reducible refine (SA.out _ HT.out).mono ?_); rintro e w4 ⟨rfl, hb4⟩)
    replace HT := hidE (HT.out.past hb4)
    clear hb4 p0 p1 p2 pz u0 u1 uz
    go_wp2_with fail
    ((with_reducible refine (HH.out _).mono ?_); rintro e w5 ⟨rfl, hb5⟩)
    replace HT := hidE (HT.out.past hb5)
    clear hb5
    go_wp2
    go_ret
    exact ⟨rfl, HT.out.bel⟩
  · have e0 : ((W.length : Int) == 0) = false := beq_eq_false_iff_ne.2 (by omega)
    have e0' : (W.length == 0) = false := beq_eq_false_iff_ne.2 h0
    clear h0
    go_wp2_with fail
    ((with_reducible refine (SA.out _ HT.out).mono ?_); rintro e w4 ⟨rfl, hb4⟩)
    replace HT := hidE (HT.out.past hb4)
    clear hb4 p0 p1 p2 pz u0 u1 uz
    go_wp2_with fail
    ((with_reducible refine (HH.out _).mono ?_); rintro e w5 ⟨rfl, hb5⟩)
    replace HT := hidE (HT.out.past hb5)
    clear hb5
    go_wp2
    go_ret
    exact ⟨rfl, HT.out.bel⟩
set_option maxRecDepth 100000 in
set_option maxHeartbeats 16000000 in
theorem satuses_yes (fr to' : Int) (l : List Prt) (W : List Pc) (a wa : Option Addr) (cap wcap : Nat) (x y : Int) (W0 : World) (hl : l.length ≤ 100) (hWl : W.length ≤ 100) (hA : ArgP W0 a l) (hP : ArgVs W0 wa W) (hf : -9223372036854775808 ≤ fr ∧ fr ≤ 9223372036854775807) (ht : -9223372036854775808 ≤ to' ∧ to' ≤ 9223372036854775807) (hx : 0 ≤ x ∧ x ≤ 255) (hy : 0 ≤ y ∧ y ≤ 255)
    (SA : ∀ w, TL W0 fr to' a l cap wa W w → Calls Try.prog 15 #[def8 fr to' a l.length cap, .slice wa W.length wcap] w fun e w' => e = .returned (.bool true) ∧ Below w.heap.size w w') (hD : UsD fr to' (1 + x % 100) (1 + y % 100) l W) (hW0 : W.length ≠ 0) :
    Calls Try.prog 4 #[def8 fr to' a l.length cap, .slice wa W.length wcap, .agg #[.int .u8 x, .int .u8 y]] W0 fun e w' => e = .returned (.bool true) ∧ Below W0.heap.size W0 w' := by
  have HB0 := hidE (show Below W0.heap.size W0 ((W0.alloc (.cells #[.int .i64 fr, .int .i64 to', .slice a l.length cap] 24)).alloc (.cells #[.int .u8 x, .int .u8 y] 50)) from by (repeat (first | exact Below.refl _ _ | assumption | refine balloc ?_ _ | refine below_drewN ?_ _ | refine bstep (by assumption) ?_ | refine bstep (Past.prop _) ?_ | refine Below.setCell ?_ (by first | exact Nat.le_refl _ | (simp; done) | (simp; omega)) _)))
  have HT0 := hidE (show TL W0 fr to' a l cap wa W ((W0.alloc (.cells #[.int .i64 fr, .int .i64 to', .slice a l.length cap] 24)).alloc (.cells #[.int .u8 x, .int .u8 y] 50)) from ⟨HB0.out, (Blk.made _ _ _).alloc _, hA.past HB0.out, hP.past HB0.out⟩)
  have HH := hidE head10_c
  have SA := hidE SA
  have d1 : decide ((100 : Int) < (l.length : Int)) = false := decide_eq_false (by omega)
  have d1' : decide (100 < l.length) = false := decide_eq_false (by omega)
  have d2 : decide ((100 : Int) < (W.length : Int)) = false := decide_eq_false (by omega)
  have d2' : decide (100 < W.length) = false := decide_eq_false (by omega)
  have HA0 := hidE hA
  have HP0 := hidE hP
  go_enter Try.func4, Try.ntmps4
  go_upto_region 4 with fail
  obtain ⟨m, hm⟩ : ∃ m, 1 + x % 100 = m := ⟨_, rfl⟩
  obtain ⟨c, hc⟩ : ∃ c, 1 + y % 100 = c := ⟨_, rfl⟩
  rw [hm, hc]
  obtain ⟨w3, hw3⟩ : ∃ w3, w3 = ((W0.alloc (.cells #[.int .i64 fr, .int .i64 to', .slice a l.length cap] 24)).alloc (.cells #[.int .u8 x, .int .u8 y] 50)).alloc (.cells #[.int .i64 m, .int .i64 c] 29) := ⟨_, rfl⟩
  rw [← hw3]
  have HT := hidE (show TL W0 fr to' a l cap wa W w3 from by rw [hw3]; exact HT0.out.past (by (repeat (first | exact Below.refl _ _ | assumption | refine balloc ?_ _ | refine below_drewN ?_ _ | refine bstep (by assumption) ?_ | refine bstep (Past.prop _) ?_ | refine Below.setCell ?_ (by first | exact Nat.le_refl _ | (simp; done) | (simp; omega)) _))))
  have HU := hidE (show Blk w3 (W0.heap.size + 1 + 1) #[.int .i64 m, .int .i64 c] 29 from by rw [hw3]; exact Blk.made_at _ _ _ _ (by simp))
  clear hw3 HT0 HB0
  rw [hm, hc] at hD
  have hmb : 1 ≤ m ∧ m ≤ 100 := by omega
  have hcb : 1 ≤ c ∧ c ≤ 100 := by omega
  clear hm hc hx hy
  -- what the usage is like
  obtain ⟨L, hL⟩ : ∃ L, useL l m c W = L := ⟨_, rfl⟩
  have US := hidE (fun (w : World) (h : TL W0 fr to' a l cap wa W w) => show Calls Try.prog 11 #[def8 fr to' a l.length cap, .slice wa W.length wcap, V m c] w (OfIs w L 0) from by
    have := satUse_c fr to' m c l W a wa cap wcap 0 w (by omega) (by omega) h.T h.P hf ht hD.her
    rw [if_pos rfl, hL] at this; exact this)
  have htot := usD_tot hD
  rw [hL] at htot
  have hLlen : L.length ≤ 128 := by rw [← hL]; exact hD.ok.spec.2.2
  have hSUM := hidE (fun (w : World) (sa : Option Addr) (sc : Nat) (h : ArgS w sa L) => show Calls Try.prog 20 #[.slice sa L.length sc, .int .i64 fr, .int .i64 to'] w fun e w' => e = .returned (VE (wantP l W * m, wantP l W * c, 0)) ∧ Below w.heap.size w w' from by
    have := sum_c L fr to' sa sc w (by omega) h
    rw [htot] at this; exact this)
  have hne : L ≠ [] := by rw [← hL]; exact use_some hD.ok (by intro e; rw [e] at hW0; exact hW0 rfl) hD.pos
  obtain ⟨k, hk⟩ : ∃ k, L.length = k + 1 := ⟨L.length - 1, by have := List.length_pos_iff.2 hne; omega⟩
  have htm : ∀ s ∈ L, fr ≤ s.1 ∧ s.1 ≤ to' := by rw [← hL]; exact use_times hD.ok hD.frm hD.til
  have hat : ∀ i, i < L.length → fr ≤ ats L i ∧ ats L i ≤ to' := fun i hi => by
    have := htm (L.getD i (0, 0, 0)) (by rw [List.getD_eq_getElem?_getD, List.getElem?_eq_getElem hi]; exact List.getElem_mem hi)
    exact this
  have hlast : vls L k = (0, 0) := by
    have := use_last hD.ok hD.frm hD.til
    rw [hL] at this
    unfold lastV at this
    rw [if_neg (by omega), hk, Nat.add_sub_cancel] at this
    exact this
  have hruns : ∀ i, i < L.length → ∃ n : Int, 0 ≤ n ∧ n ≤ 262144 ∧ vls L i = (n * m, n * c) := fun i hi => by
    have := use_run hD.ok (i := i) (by rw [hL]; exact hi)
    rw [hL] at this; exact this
  have hl0 := (hat 0 (by omega)).1
  have hlk := (hat k (by omega)).2
  have s1 : decide (ats L 0 < fr) = false := decide_eq_false (by omega)
  have s2 : decide (to' < ats L k) = false := decide_eq_false (by omega)
  have hwb := want_bd (l := l) (W := W) fun p hp => hD.ok.np hp
  have HD := hidE hD
  have HRU := hidE hruns
  have HAT := hidE hat
  have HMB := hidE hmb
  have HCB := hidE hcb
  clear hL htot htm hat hruns hl0 hlk hne hA hP hf ht hD
  have p0 := HT.out.d.cell 0; have p1 := HT.out.d.cell 1; have p2 := HT.out.d.cell 2; have pz := HT.out.d.lt
  have u0 := HU.out.cell 0; have u1 := HU.out.cell 1; have uz := HU.out.lt
  simp at p0 p1 p2 u0 u1
  have e0 : ((W.length : Int) == 0) = false := beq_eq_false_iff_ne.2 (by omega)
  have e0' : (W.length == 0) = false := beq_eq_false_iff_ne.2 hW0
  go_wp2_with fail
  ((with_reducible refine (SA.out _ HT.out).mono ?_); rintro e w4 ⟨rfl, hb4⟩)
  replace HT := hidE (HT.out.past hb4)
  replace HU := hidE (HU.out.past hb4)
  clear hb4 p0 p1 p2 pz u0 u1 uz SA
  have p0 := HT.out.d.cell 0; have p1 := HT.out.d.cell 1; have p2 := HT.out.d.cell 2; have pz := HT.out.d.lt
  have u0 := HU.out.cell 0; have u1 := HU.out.cell 1; have uz := HU.out.lt
  simp at p0 p1 p2 u0 u1
  go_wp2_with fail
  ((with_reducible refine (US.out _ HT.out).mono ?_); rintro e w5 ⟨v5, rfl, hs5, hb5⟩)
  replace HT := hidE (HT.out.past hb5)
  replace HU := hidE (HU.out.past hb5)
  obtain ⟨sa, sc, rfl, _, _, hSA⟩ := hs5
  obtain ⟨b, off, rfl, hbb, hcs⟩ := hSA (by omega)
  obtain ⟨bw, ow, rfl, hbw, hcw⟩ := HT.out.P (by omega)
  have HCW := hidE hcw
  have hl0 : 0 < l.length := by
    have := HD.out.ok.atoms (W.getD 0 (0, 0)) (by rw [List.getD_eq_getElem?_getD, List.getElem?_eq_getElem (show 0 < W.length by omega)]; exact List.getElem_mem _)
    omega
  obtain ⟨ba, oa, rfl, hba, hca⟩ := HT.out.T hl0
  have HCA := hidE hca
  have HSA := hidE hSA
  clear hb5 p0 p1 p2 pz u0 u1 uz US hSA hcw hca hl0
  have p0 := HT.out.d.cell 0; have p1 := HT.out.d.cell 1; have p2 := HT.out.d.cell 2; have pz := HT.out.d.lt
  have u0 := HU.out.cell 0; have u1 := HU.out.cell 1; have uz := HU.out.lt
  simp at p0 p1 p2 u0 u1
  obtain ⟨c0, _, _⟩ := hcs.get (i := 0) (by omega)
  obtain ⟨k0, k1, k2⟩ := hcs.get (i := k) (by omega)
  rw [hlast] at k1 k2
  simp at c0
  dsimp only at k1 k2
  have hk1 : k < 9223372036854775807 := by omega
  have hk2 : IntKind.i64.wrap (k : Int) = k := IntWalk.i64_in _ (by omega)
  have hk3 : ((k : Int) + 1 == 0) = false := beq_eq_false_iff_ne.2 (by omega)
  have HCS := hidE hcs
  clear hcs
  obtain ⟨n, hn⟩ : ∃ n, L.length = n := ⟨_, rfl⟩
  rw [hk]
  have HK := hidE hk
  clear hn hk hlast
  generalize hu0 : ats L 0 = x0 at *
  generalize hu1 : ats L k = x1 at *
  clear hu0 hu1
  go_wp2_with fail
  go_quiet (fail)
  clear c0 k0 k1 k2 hk1 hk2 hk3 s1 s2
  go_wp2_with fail
  go_loopg [10, 11] W.length (fun gh v10 v11 wr => ∃ i : Nat, v11 = .int .i64 i ∧ v10 = .int .i64 (wantP l (W.take i)) ∧ i ≤ W.length ∧ W.length - i ≤ gh ∧ Below w5.heap.size w5 wr)
  case atStart => exact ⟨0, rfl, rfl, Nat.zero_le _, by omega, by (repeat (first | exact Below.refl _ _ | assumption | refine balloc ?_ _ | refine below_drewN ?_ _ | refine bstep (by assumption) ?_ | refine bstep (Past.prop _) ?_ | refine Below.setCell ?_ (by first | exact Nat.le_refl _ | (simp; done) | (simp; omega)) _))⟩
  case round =>
    clear p0 p1 p2 pz u0 u1 uz
    obtain ⟨i, rfl, rfl, hi, hgh, hbr⟩ := hrel
    have HT2 := hidE (HT.out.past hbr)
    have HU2 := hidE (HU.out.past hbr)
    have HBR := hidE hbr
    have p0 := HT2.out.d.cell 0; have p1 := HT2.out.d.cell 1; have p2 := HT2.out.d.cell 2; have pz := HT2.out.d.lt
    have u0 := HU2.out.cell 0; have u1 := HU2.out.cell 1; have uz := HU2.out.lt
    simp at p0 p1 p2 u0 u1
    by_cases hlt : i < W.length
    · have hqm : W.getD i (0, 0) ∈ W := by rw [List.getD_eq_getElem?_getD, List.getElem?_eq_getElem hlt]; exact List.getElem_mem hlt
      have hat := HD.out.ok.atoms _ hqm
      have hnp := HD.out.ok.np hqm
      have e : W[i]? = some (W.getD i (0, 0)) := by rw [List.getD_eq_getElem?_getD, List.getElem?_eq_getElem hlt]; rfl
      have hst := want_take (l := l) e
      have hwb := want_bd (l := l) (W := W.take i) fun p hp => HD.out.ok.np (List.mem_of_mem_take hp)
      have hwl : ((W.take i).length : Int) ≤ 100 := by rw [List.length_take]; omega
      obtain ⟨g0', _⟩ := HCW.out i hlt
      have g0 := (hbr.cell (p := ⟨bw, ow + i * 2, none⟩) hbw).trans g0'
      have gz := Nat.lt_of_lt_of_le hbw hbr.size
      clear g0'
      obtain ⟨j, hj⟩ : ∃ j : Nat, (W.getD i (0, 0)).1 = (j : Int) := ⟨(W.getD i (0, 0)).1.toNat, by omega⟩
      have hjl : j < l.length := by omega
      obtain ⟨_, r1', _, r3', _⟩ := HCA.out.get hjl
      have r1 := (hbr.cell (p := ⟨ba, oa + j * 5 + 1, none⟩) hba).trans r1'
      have r3 := (hbr.cell (p := ⟨ba, oa + j * 5 + 3, none⟩) hba).trans r3'
      have rz := Nat.lt_of_lt_of_le hba hbr.size
      clear r1' r3'
      unfold nP dP at hst hnp
      rw [hj] at g0 hst hnp
      rw [Int.toNat_natCast] at hst hnp
      generalize hpn : (l.getD j pr0).n = nn at *
      generalize hpd : (l.getD j pr0).d = dd at *
      generalize hwi : wantP l (W.take i) = wi at *
      have b1 : 0 ≤ (nn : Int) * dd := Int.mul_nonneg (by omega) (by omega)
      have b2 : (nn : Int) * dd ≤ 4096 * 4096 := Int.mul_le_mul (by omega) (by omega) (by omega) (by omega)
      have b3 : IntKind.i64.wrap ((nn : Int) * dd) = (nn : Int) * dd := IntWalk.i64_in _ (by omega)
      have b4 : IntKind.i64.wrap (wi + (nn : Int) * dd) = wi + (nn : Int) * dd := IntWalk.i64_in _ (by omega)
      have s3 : decide ((j : Int) < 0) = false := decide_eq_false (by omega)
      have s4 : decide ((l.length : Int) ≤ (j : Int)) = false := decide_eq_false (by omega)
      have s4' : decide (l.length ≤ j) = false := decide_eq_false (by omega)
      have hn32 : nn ≤ 4096 := by omega
      have HST := hidE hst
      clear hqm hat hnp e hst hwb hwl hj hpn hpd hwi b1 b2 hbr
      go_wp2_with fail
      go_quiet (fail)
      go_wp2_with fail
      go_quiet (fail)
      go_wp2
      go_roundg (W.length - (i + 1))
      case measure => omega
      case rel => exact ⟨i + 1, by go_num, by rw [HST.out], by omega, Nat.le_refl _, by have := HBR.out; (repeat (first | exact Below.refl _ _ | assumption | refine balloc ?_ _ | refine below_drewN ?_ _ | refine bstep (by assumption) ?_ | refine bstep (Past.prop _) ?_ | refine Below.setCell ?_ (by first | exact Nat.le_refl _ | (simp; done) | (simp; omega)) _))⟩
    · have hii : i = W.length := by omega
      subst hii
      rw [List.take_length]
      have s5 : decide ((W.length : Int) < (W.length : Int)) = false := decide_eq_false (by omega)
      have s5' : ¬ W.length < W.length := by omega
      clear hbr
      have HSUM := hidE (fun (w : World) (h : ArgS w (some ⟨b, off, none⟩) L) => by
        have := hSUM.out w (some ⟨b, off, none⟩) sc h
        rw [HK.out] at this; exact this)
      have hkk : k < 128 := by have := HK.out; omega
      have hwb2 := hwb
      have hwl2 : (W.length : Int) ≤ 100 := by omega
      generalize hwant : wantP l W = want at *
      have t1 : 0 ≤ want * m := Int.mul_nonneg hwb2.1 (by have := HMB.out; omega)
      have t2 : want * m ≤ 1677721600 * 100 := Int.mul_le_mul (by omega) (by have := HMB.out; omega) (by have := HMB.out; omega) (by omega)
      have t3 : 0 ≤ want * c := Int.mul_nonneg hwb2.1 (by have := HCB.out; omega)
      have t4 : want * c ≤ 1677721600 * 100 := Int.mul_le_mul (by omega) (by have := HCB.out; omega) (by have := HCB.out; omega) (by omega)
      have w1 : IntKind.i64.wrap (want * m) = want * m := IntWalk.i64_in _ (by omega)
      have w2 : IntKind.i64.wrap (want * c) = want * c := IntWalk.i64_in _ (by omega)
      clear hwb hwb2 hwl2 hwant t1 t2 t3 t4 hSUM
      go_wp2_with fail
      go_loopg [12, 13] (k + 1) (fun gh v12 v13 wq => ∃ (i : Nat) (z : Value), z = v13 ∧ v12 = .int .i64 i ∧ i ≤ k + 1 ∧ k + 1 - i ≤ gh ∧ Below wr.heap.size wr wq)
      case atStart => exact ⟨0, undef, rfl, rfl, Nat.zero_le _, by omega, Below.refl _ _⟩
      case round =>
        clear p0 p1 p2 pz u0 u1 uz
        obtain ⟨i, z, rfl, rfl, hi2, hgh2, hbq⟩ := hrel
        have HT3 := hidE (HT2.out.past hbq)
        have HU3 := hidE (HU2.out.past hbq)
        have HBQ := hidE hbq
        have HBT := hidE (HBR.out.trans (hbq.mono HBR.out.size))
        have p0 := HT3.out.d.cell 0; have p1 := HT3.out.d.cell 1; have p2 := HT3.out.d.cell 2; have pz := HT3.out.d.lt
        have u0 := HU3.out.cell 0; have u1 := HU3.out.cell 1; have uz := HU3.out.lt
        simp at p0 p1 p2 u0 u1
        clear hbq
        by_cases hlt2 : i < k + 1
        · obtain ⟨n, n0, n1, hv⟩ := HRU.out i (by rw [HK.out]; exact hlt2)
          obtain ⟨_, v1', v2'⟩ := HCS.out.get (i := i) (by rw [HK.out]; exact hlt2)
          rw [hv] at v1' v2'
          dsimp only at v1' v2'
          have v1 := (HBT.out.cell (p := ⟨b, off + i * 3 + 1, none⟩) hbb).trans v1'
          have v2 := (HBT.out.cell (p := ⟨b, off + i * 3 + 2, none⟩) hbb).trans v2'
          have vz := Nat.lt_of_lt_of_le hbb HBT.out.size
          have hm1 := HMB.out; have hc1 := HCB.out
          have t1 : 0 ≤ n * m := Int.mul_nonneg n0 (by omega)
          have t2 : n * m ≤ 262144 * 100 := Int.mul_le_mul n1 (by omega) (by omega) (by omega)
          have t3 : 0 ≤ n * c := Int.mul_nonneg n0 (by omega)
          have t4 : n * c ≤ 262144 * 100 := Int.mul_le_mul n1 (by omega) (by omega) (by omega)
          have y1 : IntKind.i64.wrap (n * m) = n * m := IntWalk.i64_in _ (by omega)
          have y2 : IntKind.i64.wrap (n * c) = n * c := IntWalk.i64_in _ (by omega)
          have y3 : (n * m).tdiv m = n := Int.mul_tdiv_cancel n (by omega)
          have y4 : (m == 0) = false := beq_eq_false_iff_ne.2 (by omega)
          have y5 : decide (n < 0) = false := decide_eq_false (by omega)
          have y6 : IntKind.i64.wrap n = n := IntWalk.i64_in _ (by omega)
          have y7 : ¬ m = 0 := by omega
          clear hv v1' v2' t1 t2 t3 t4 hm1 hc1
          go_wp2_with fail
          go_quiet (fail)
          go_wp2_with fail
          go_quiet (fail)
          go_wp2
          go_roundg (k + 1 - (i + 1))
          case measure => omega
          case rel => exact ⟨i + 1, _, rfl, by go_num, by omega, Nat.le_refl _, by have := HBQ.out; (repeat (first | exact Below.refl _ _ | assumption | refine balloc ?_ _ | refine below_drewN ?_ _ | refine bstep (by assumption) ?_ | refine bstep (Past.prop _) ?_ | refine Below.setCell ?_ (by first | exact Nat.le_refl _ | (simp; done) | (simp; omega)) _))⟩
        · have hii : i = k + 1 := by omega
          subst hii
          have s6 : decide (((k + 1 : Nat) : Int) < ((k + 1 : Nat) : Int)) = false := decide_eq_false (by omega)
          go_wp2_with fail
          ((with_reducible refine (HSUM.out _ (HSA.out.past HBT.out)).mono ?_); rintro e w8 ⟨rfl, hb8⟩)
          replace HT3 := hidE (HT3.out.past hb8)
          replace HU3 := hidE (HU3.out.past hb8)
          clear p0 p1 p2 pz u0 u1 uz hb8
          have p0 := HT3.out.d.cell 0; have p1 := HT3.out.d.cell 1; have p2 := HT3.out.d.cell 2; have pz := HT3.out.d.lt
          have u0 := HU3.out.cell 0; have u1 := HU3.out.cell 1; have uz := HU3.out.lt
          simp at p0 p1 p2 u0 u1
          have r1 : (want * m == want * m) = true := beq_self_eq_true _
          have r2 : (want * c == want * c) = true := beq_self_eq_true _
          go_wp2_with fail
          ((with_reducible refine (HH.out _).mono ?_); rintro e w9 ⟨rfl, hb9⟩)
          have HBF := hidE (HT3.out.bel.trans ((show Below w8.heap.size w8 w9 from by (repeat (first | exact Below.refl _ _ | assumption | refine balloc ?_ _ | refine below_drewN ?_ _ | refine bstep (by assumption) ?_ | refine bstep (Past.prop _) ?_ | refine Below.setCell ?_ (by first | exact Nat.le_refl _ | (simp; done) | (simp; omega)) _))).mono HT3.out.bel.size))
          clear hb9
          go_wp2
          go_ret
          exact ⟨rfl, HBF.out⟩
set_option maxRecDepth 100000 in
set_option maxHeartbeats 8000000 in
theorem satuses_walk (fr to' : Int) (l : List Prt) (W : List Pc) (a wa : Option Addr) (cap wcap : Nat) (x y : Int) (W0 : World) (hl : l.length ≤ 9223372036854775807) (hWl : W.length ≤ 9223372036854775807) (hA : ArgP W0 a l) (hP : ArgVs W0 wa W) (hf : -9223372036854775808 ≤ fr ∧ fr ≤ 9223372036854775807) (ht : -9223372036854775808 ≤ to' ∧ to' ≤ 9223372036854775807) (hx : 0 ≤ x ∧ x ≤ 255) (hy : 0 ≤ y ∧ y ≤ 255) :
    Calls Try.prog 4 #[def8 fr to' a l.length cap, .slice wa W.length wcap, .agg #[.int .u8 x, .int .u8 y]] W0 fun e w' => e = .returned (.bool true) ∧ Below W0.heap.size W0 w' := by
  have HB0 := hidE (show Below W0.heap.size W0 ((W0.alloc (.cells #[.int .i64 fr, .int .i64 to', .slice a l.length cap] 24)).alloc (.cells #[.int .u8 x, .int .u8 y] 50)) from by (repeat (first | exact Below.refl _ _ | assumption | refine balloc ?_ _ | refine below_drewN ?_ _ | refine bstep (by assumption) ?_ | refine bstep (Past.prop _) ?_ | refine Below.setCell ?_ (by first | exact Nat.le_refl _ | (simp; done) | (simp; omega)) _)))
  have HH := hidE head10_c
  by_cases hg : 100 < l.length ∨ 100 < W.length
  · by_cases h1 : 100 < l.length
    · have d1 : decide ((100 : Int) < (l.length : Int)) = true := decide_eq_true (by omega)
      have d1' : decide (100 < l.length) = true := decide_eq_true (by omega)
      clear hg h1 hl hWl hA hP hf ht hx hy
      go_enter Try.func4, Try.ntmps4
      go_wp2_with (go_at_call 7; (with_reducible refine (HH.out _).mono ?_); rintro e w1 ⟨rfl, hb1⟩)
      go_ret
      exact ⟨rfl, HB0.out.trans (hb1.mono HB0.out.size)⟩
    · have d1 : decide ((100 : Int) < (l.length : Int)) = false := decide_eq_false (by omega)
      have d1' : decide (100 < l.length) = false := decide_eq_false (by omega)
      have d2 : decide ((100 : Int) < (W.length : Int)) = true := decide_eq_true (by omega)
      have d2' : decide (100 < W.length) = true := decide_eq_true (by omega)
      clear hg h1 hl hWl hA hP hf ht hx hy
      go_enter Try.func4, Try.ntmps4
      go_wp2_with (go_at_call 7; (with_reducible refine (HH.out _).mono ?_); rintro e w1 ⟨rfl, hb1⟩)
      go_ret
      exact ⟨rfl, HB0.out.trans (hb1.mono HB0.out.size)⟩
  have hl1 : l.length ≤ 100 := by omega
  have hW1 : W.length ≤ 100 := by omega
  obtain ⟨Z, hZ⟩ : ∃ Z, wrongS fr to' l (decide ((0 : Int) ≤ 0 ∧ 0 < (l.length : Int))) W = Z := ⟨_, rfl⟩
  obtain ⟨t0, h0⟩ := here_if (fr := fr) (to' := to') (l := l) (W := W) (V := W) (z := 0)
  rw [hZ] at h0
  obtain ⟨r, hr⟩ : ∃ r, ((lookT Z t0).ok && (decide (fr ≤ seB (lookT Z t0).se) && decide (seE (lookT Z t0).se ≤ to'))) = r := ⟨_, rfl⟩
  have SA : ∀ w, TL W0 fr to' a l cap wa W w → Calls Try.prog 15 #[def8 fr to' a l.length cap, .slice wa W.length wcap] w fun e w' => e = .returned (.bool r) ∧ Below w.heap.size w w' := fun w h => by
    have := satSat_c fr to' l W a wa cap wcap Z t0 w (by omega) (by omega) h.T h.P hf ht hZ h0
    rw [hr] at this; exact this
  cases r with
  | false => exact satuses_no fr to' l W a wa cap wcap x y W0 hl1 hW1 hA hP hf ht hx hy SA
  | true =>
    refine satuses_yes fr to' l W a wa cap wcap x y W0 hl1 hW1 hA hP hf ht hx hy SA (usD_of hZ h0 (by omega) (by omega) hr) (fun e => ?_)
    have hW : W = [] := List.eq_nil_of_length_eq_zero e
    subst hW
    have hb := hr
    simp only [Bool.and_eq_true] at hb
    by_cases hz : Z = 0
    · rw [hz, lookT_zero, none_ok (h0 hz)] at hb
      cases hb.1
    · rw [lookT_err hz] at hb
      cases hb.1
end Go.Proofs.Ytlhokgcamcaonaa
