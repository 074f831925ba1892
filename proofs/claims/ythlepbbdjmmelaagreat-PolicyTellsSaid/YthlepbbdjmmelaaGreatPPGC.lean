/- The contract of (calc.pair).combined. No conditions but the lists' sizes, that the slices' cells read as integers, and that the functions are canonical. The contract of the document's own May of vectors. No conditions. The contracts of the document's own small answers for rle. No conditions but that the lists' cells read as integers. Slices that read as lists of numbers. No function of the program. No conditions. The contracts of the document's own lists of times, and of its canonical function. No conditions but the lists' sizes. The contract of the document's own list of times. No conditions but the list's size. Appending a slice of numbers to a row that a call owns. No function of the program. No conditions. The contract of the document's own list of the times of two functions. No conditions but the lists' sizes. The contracts of the document's own answers for vec: sums, differences, least, greatest, at most. No conditions. -/
import Derived.Test.YthlepbbdjmmelaaGreatPPGA
import Derived.Test.YthlepbbdjmmelaaGreatPPMA
import Derived.Test.YthlepbbdjmmelaaGreatPPGB
import Derived.Laws.MakeOwn
import Derived.RangeFuncCalls
import Derived.Shelf.Abstract
import Derived.Test.YthlepbbdjmmelaaGreatRows
import Derived.Outline
import Derived.Laws.AppendOwnNone
import Derived.Deep.RegionLaw
import Derived.Deep.DeepCutAuto
namespace Go.Proofs.YthlepbbdjmmelaaGreat
open Go.ChangeShapes Go.WideShapes Go.ChangeAt Go.RowKit Go.Shelf
attribute [local irreducible] Go.Calls
attribute [local go_sem] Oper.semAt_some

theorem make_segs (n : Nat) (hn : n ≤ 1000000000) : ∀ w, (Instr.makeSlice 22 (.int .i64 0) (.int .i64 (n : Int))).run Tryz.prog w = .ok (.slice (some ⟨w.heap.size, 0, none⟩) 0 n) (w.alloc (.cells (madeCells #[.int .i64 0, .int .i64 0, .int .i64 0] (n * 3)) 112)) := by
  intro w
  obtain ⟨i0, hi, hz0, hz1, hz2⟩ := info_parts Tryz.infoSeg
  have h := run_make (P := Tryz.prog) w 22 112 i0 (.agg #[.int .i64 0, .int .i64 0, .int .i64 0]) Tryz.underlying22 hi hz0 .i64 .i64 0 n (by omega) (by omega) (by rw [hz2]; omega) (by omega)
  rw [h]
  simp only [Int.toNat_natCast, hz1, Value.cells]
  rfl

theorem make_segs2 (n m : Nat) (hn : n + m ≤ 1000000000) : ∀ w, (Instr.makeSlice 22 (.int .i64 0) (.int .i64 ((n : Int) + (m : Int)))).run Tryz.prog w = .ok (.slice (some ⟨w.heap.size, 0, none⟩) 0 (n + m)) (w.alloc (.cells (madeCells #[.int .i64 0, .int .i64 0, .int .i64 0] ((n + m) * 3)) 112)) := by
  intro w
  rw [← Int.natCast_add]
  exact make_segs (n + m) hn w

/-- A block whose first cells hold a list of runs. -/
def RowAt (W : World) (g cap : Nat) (l : List Sg) : Prop := ∃ cur : Array Value, Blk W g cur 112 ∧ cur.size = cap * 3 ∧ l.length ≤ cap ∧ cap ≤ 1000000000 ∧ cur.toList.take (l.length * 3) = cellsOfS l
theorem RowAt.below {W W' : World} {g cap B : Nat} {l : List Sg} (h : RowAt W g cap l) (hb : Below B W W') (hg : g < B) : RowAt W' g cap l := by
  obtain ⟨cur, h1, h2⟩ := h
  exact ⟨cur, h1.below hb hg, h2⟩
theorem RowAt.own {W : World} {g cap base : Nat} {l : List Sg} (h : RowAt W g cap l) (hb : base ≤ g) : W.ownsRow base 112 3 (.slice (some ⟨g, 0, none⟩) l.length cap) l.length (cellsOfS l) := by
  obtain ⟨cur, h1, h2, h3, h4, h5⟩ := h
  exact ⟨by rw [cellsOfS_len], .inr ⟨g, cap, cur, rfl, hb, h1, h3, by unfold maxLen; omega, h2, h5⟩⟩
theorem RowAt.of_own {W : World} {g cap base : Nat} {l : List Sg} (hc : cap ≤ 1000000000) (h : W.ownsRow base 112 3 (.slice (some ⟨g, 0, none⟩) l.length cap) l.length (cellsOfS l)) : RowAt W g cap l := by
  obtain ⟨h1, h2 | ⟨g', cap', cur, e, h3, h4, h5, h6, h7, h8⟩⟩ := h
  · cases h2.1
  · cases e
    exact ⟨cur, h4, h7, h5, hc, h8⟩
theorem RowAt.other {W : World} {g cap b i : Nat} {l : List Sg} (h : RowAt W g cap l) (hne : g ≠ b) (v : Value) : RowAt (W.setCell ⟨b, i, none⟩ v) g cap l := by
  obtain ⟨cur, h1, h2⟩ := h
  exact ⟨cur, h1.other hne v, h2⟩
theorem RowAt.made {W : World} (n : Nat) (hn : n ≤ 1000000000) : RowAt (W.alloc (.cells (madeCells #[.int .i64 0, .int .i64 0, .int .i64 0] (n * 3)) 112)) W.heap.size n [] :=
  ⟨_, Blk.made _ _ _, by simp [madeCells], by simp, hn, by simp [cellsOfS]⟩
theorem fresh_at (w : World) (cs : Array Value) (t : TypeId) (k : Nat) (h : k = w.heap.size) : ∀ j u, cs.toList[j]? = some u → (w.alloc (.cells cs t)).cell? ((⟨k, 0, none⟩ : Addr).add j) = some u := by
  subst h
  exact new_cells w cs t
theorem madeRow (n : Nat) (hn : n ≤ 1000000000) (W : World) (o : Obj) (g : Nat) (h : g = W.heap.size) : RowAt ((W.alloc (.cells (madeCells #[.int .i64 0, .int .i64 0, .int .i64 0] (n * 3)) 112)).alloc o) g n [] := by
  subst h
  obtain ⟨cur, h1, h2⟩ := RowAt.made (W := W) n hn
  exact ⟨cur, h1.alloc _, h2⟩
/-- A slice of runs lies on where only blocks of one cell, or of none, are turned. -/
theorem argS_turn {w w' : World} {a : Option Addr} {l : List Sg} (h : ArgS w a l) (hs : w.heap.size ≤ w'.heap.size) (hk : ∀ k i v, w.cell? ⟨k, i + 1, none⟩ = some v → w'.heap[k]? = w.heap[k]?) : ArgS w' a l := fun hl => by
  obtain ⟨b, off, e, h1, h2⟩ := h hl
  have hb : w'.heap[b]? = w.heap[b]? := by
    obtain ⟨_, q, _⟩ := h2 0 hl
    exact hk b _ _ q
  have hc : ∀ i, w'.cell? ⟨b, i, none⟩ = w.cell? ⟨b, i, none⟩ := fun i => World.cell?_of_block (a := ⟨b, i, none⟩) hb
  refine ⟨b, off, e, Nat.lt_of_lt_of_le h1 hs, fun i hi => ?_⟩
  obtain ⟨q1, q2, q3⟩ := h2 i hi
  exact ⟨(hc _).trans q1, (hc _).trans q2, (hc _).trans q3⟩
theorem one_cell {w : World} {k i : Nat} {x v : Value} {t : TypeId} (h : Blk w k #[x] t) (hc : w.cell? ⟨k, i + 1, none⟩ = some v) : False := by
  rw [h.cell] at hc; simp at hc
theorem no_cell {w : World} {k i : Nat} {v : Value} {d : Option (List Deferred)} (h : w.heap[k]? = some (.deferred d)) (hc : w.cell? ⟨k, i, none⟩ = some v) : False := by
  simp [World.cell?, h] at hc
theorem Blk.put {w : World} {k : Nat} {cs : Array Value} {t : TypeId} (h : Blk w k cs t) {b : Nat} (hb : k ≠ b) (o : Obj) : Blk (w.putObj b o) k cs t := (World.putObj_heap_other hb).trans h
/-- Between two rounds of the loop. -/
def CombI (k : Int) (F G : List Sg) (w : World) (v0 : Value) (pre : List Tg) (W : World) : Prop :=
  Below w.heap.size w W ∧ w.heap.size + 1 + 1 + 1 + 1 < W.heap.size ∧ Blk W w.heap.size v0.cells 190 ∧ Blk W (w.heap.size + 1) #[.slice none 0 0] 22 ∧ Blk W (w.heap.size + 1 + 1) #[.int .i64 0] 28 ∧
    RowAt W (w.heap.size + 1 + 1 + 1) (F.length + G.length) (pre.map (rawOf k)) ∧ Blk W (w.heap.size + 1 + 1 + 1 + 1) #[.slice (some ⟨w.heap.size + 1 + 1 + 1, 0, none⟩) pre.length (F.length + G.length)] 22 ∧ (∀ p ∈ pre, errOf k p = 0)
/-- A round has left with an error. -/
def CombX (k : Int) (F G : List Sg) (w : World) (c : Code) (W : World) : Prop :=
  c = .ret ∧ Below w.heap.size w W ∧ Blk W (w.heap.size + 1) #[.slice none 0 0] 22 ∧ Blk W (w.heap.size + 1 + 1) #[.int .i64 (doS k F G).2] 28 ∧ (doS k F G).1 = []
theorem combI_below {k : Int} {F G : List Sg} {w : World} {v0 : Value} {pre : List Tg} {A B : World} (h : CombI k F G w v0 pre A) (hb : Below (w.heap.size + 1 + 1 + 1 + 1 + 1) A B) : CombI k F G w v0 pre B := by
  obtain ⟨h1, h2, h3, h4, h5, h6, h7, h8⟩ := h
  exact ⟨h1.trans (hb.mono (by omega)), Nat.lt_of_lt_of_le h2 hb.size, h3.below hb (by omega), h4.below hb (by omega), h5.below hb (by omega), h6.below hb (by omega), h7.below hb (by omega), h8⟩
theorem combX_below {k : Int} {F G : List Sg} {w : World} {c : Code} {A B : World} (h : CombX k F G w c A) (hb : Below (w.heap.size + 1 + 1 + 1 + 1 + 1) A B) : CombX k F G w c B := by
  obtain ⟨h1, h2, h3, h4, h5⟩ := h
  exact ⟨h1, h2.trans (hb.mono (by omega)), h3.below hb (by omega), h4.below hb (by omega), h5⟩

set_option maxRecDepth 100000 in
set_option maxHeartbeats 2000000 in
theorem comb_plus (F G : List Sg) (a a' : Option Addr) (cap cap' : Nat) (w : World) (hF : F.length ≤ cap) (hc : cap ≤ 9223372036854775807) (hG : G.length ≤ cap') (hc' : cap' ≤ 9223372036854775807) (hl : F.length + G.length ≤ 1000000000)
    (hA : ArgS w a F) (hA' : ArgS w a' G) (hm : mayB F = true) (hm' : mayB G = true) :
    Calls Tryz.prog 124 #[.agg #[.slice a F.length cap, .slice a' G.length cap', .func (.func 123) #[] #[]]] w (OfIs w (doS 0 F G).1 (doS 0 F G).2) := by
  have HBAD := hidE (fun (p : Tg) hp he => comb_bad (k := 0) hm hm' (p := p) hp he)
  have HOK := hidE (fun he => comb_ok (k := 0) hm hm' he)
  have HSEQ := hidE (fun w' hb => tog_c F G a a' cap cap' (.func (.func 123) #[] #[]) w w' hF hc hG hc' hl hA hA' hb)
  have HLEN := hidE (togL_len F G)
  have HMK := hidE (make_segs2 F.length G.length hl)
  clear hA hA' hm hm' hF hc hG hc'
  refine (callsIn_wide (n := 0)).1 (callsIn_of_wp_marks Tryz.func124 rfl trivial ((wpIn_wide (n := 0)).2 ?_))
  simp only [Tryz.ntmps124, List.size_toArray, List.length_cons, List.length_nil, Nat.reduceAdd, Nat.reduceSub, Array.replicate_succ, Array.replicate_zero, List.push_toArray, List.append_toArray, List.nil_append, List.cons_append]
  have hmk := HMK.out
  go_wp2
  have hm3 := madeRow (F.length + G.length) hl
  have HI0 : CombI 0 F G w (.agg #[.slice a F.length cap, .slice a' G.length cap', .func (.func 123) #[] #[]]) [] ((((((w.alloc (Obj.cells #[Value.slice a F.length cap, Value.slice a' G.length cap', .func (.func 123) #[] #[]] 190)).alloc (Obj.cells #[Value.slice none 0 0] 22)).alloc (Obj.cells #[Value.int IntKind.i64 0] 28)).alloc (Obj.cells (madeCells #[Value.int IntKind.i64 0, Value.int IntKind.i64 0, Value.int IntKind.i64 0] ((F.length + G.length) * 3)) 112)).alloc (Obj.cells #[Value.slice (some { block := w.heap.size + 1 + 1 + 1, off := 0 }) 0 (F.length + G.length)] 22))) :=
    ⟨by (repeat (first | exact Below.refl _ _ | assumption | refine balloc ?_ _ | refine below_drewN ?_ _ | refine bstep (by assumption) ?_ | refine bstep (Past.prop _) ?_ | refine Below.setCell ?_ (by first | exact Nat.le_refl _ | (simp; done) | (simp; omega)) _)), by simp, (((Blk.made _ _ _).alloc _).alloc _).alloc _ |>.alloc _, (((Blk.made_at _ _ _ _ (by simp)).alloc _).alloc _).alloc _, ((Blk.made_at _ _ _ _ (by simp)).alloc _).alloc _, hm3 _ _ _ (by simp), Blk.made_at _ _ _ _ (by simp), fun p hp => by simp at hp⟩
  have HS5 : (((((((w.alloc (Obj.cells #[Value.slice a F.length cap, Value.slice a' G.length cap', .func (.func 123) #[] #[]] 190)).alloc (Obj.cells #[Value.slice none 0 0] 22)).alloc (Obj.cells #[Value.int IntKind.i64 0] 28)).alloc (Obj.cells (madeCells #[Value.int IntKind.i64 0, Value.int IntKind.i64 0, Value.int IntKind.i64 0] ((F.length + G.length) * 3)) 112)).alloc (Obj.cells #[Value.slice (some { block := w.heap.size + 1 + 1 + 1, off := 0 }) 0 (F.length + G.length)] 22)))).heap.size = w.heap.size + 1 + 1 + 1 + 1 + 1 := by simp
  have HB5 : Below w.heap.size w ((((((w.alloc (Obj.cells #[Value.slice a F.length cap, Value.slice a' G.length cap', .func (.func 123) #[] #[]] 190)).alloc (Obj.cells #[Value.slice none 0 0] 22)).alloc (Obj.cells #[Value.int IntKind.i64 0] 28)).alloc (Obj.cells (madeCells #[Value.int IntKind.i64 0, Value.int IntKind.i64 0, Value.int IntKind.i64 0] ((F.length + G.length) * 3)) 112)).alloc (Obj.cells #[Value.slice (some { block := w.heap.size + 1 + 1 + 1, off := 0 }) 0 (F.length + G.length)] 22))) := by (repeat (first | exact Below.refl _ _ | assumption | refine balloc ?_ _ | refine below_drewN ?_ _ | refine bstep (by assumption) ?_ | refine bstep (Past.prop _) ?_ | refine Below.setCell ?_ (by first | exact Nat.le_refl _ | (simp; done) | (simp; omega)) _))
  generalize ((((((w.alloc (Obj.cells #[Value.slice a F.length cap, Value.slice a' G.length cap', .func (.func 123) #[] #[]] 190)).alloc (Obj.cells #[Value.slice none 0 0] 22)).alloc (Obj.cells #[Value.int IntKind.i64 0] 28)).alloc (Obj.cells (madeCells #[Value.int IntKind.i64 0, Value.int IntKind.i64 0, Value.int IntKind.i64 0] ((F.length + G.length) * 3)) 112)).alloc (Obj.cells #[Value.slice (some { block := w.heap.size + 1 + 1 + 1, off := 0 }) 0 (F.length + G.length)] 22))) = W5 at *
  refine wp_rangeFunc_T (n₀ := w.heap.size) (S := togL F G) rfl (enters_of Tryz.func143 (by kernel_rfl) rfl) HB5.size (HSEQ.out _ HB5) (fun _ => rfl)
    (CombI 0 F G w (.agg #[.slice a F.length cap, .slice a' G.length cap', .func (.func 123) #[] #[]])) (fun c _ W => CombX 0 F G w c W)
    (fun s A B h hb => combI_below h (HS5 ▸ hb)) (fun c s A B h hb => combX_below h (HS5 ▸ hb)) HI0
    (fun x a1 W => ∃ Bx : Nat, w.heap.size + 1 + 1 + 1 + 1 + 1 ≤ Bx ∧ Blk W Bx #[.int .i64 x.2.1.1, .int .i64 x.2.1.2, .int .i64 x.2.2.1, .int .i64 x.2.2.2] 208 ∧ a1 = { tmps := #[.agg #[.slice a F.length cap, .slice a' G.length cap', .func (.func 123) #[] #[]], .pointer (some ⟨w.heap.size, 0, none⟩), .pointer (some ⟨w.heap.size + 1, 0, none⟩), .pointer (some ⟨w.heap.size + 1 + 1, 0, none⟩), .pointer (some ⟨w.heap.size + 1 + 1 + 1 + 1, 0, none⟩), .int .i64 x.1, .pointer (some ⟨Bx, 0, none⟩), undef, undef,
      .pointer (some ⟨w.heap.size, 0, none⟩), .slice a F.length cap, .int .i64 F.length, .pointer (some ⟨w.heap.size, 1, none⟩), .slice a' G.length cap', .int .i64 G.length, .int .i64 ((F.length : Int) + (G.length : Int)), .slice (some ⟨w.heap.size + 1 + 1 + 1, 0, none⟩) 0 (F.length + G.length), .agg #[.slice a F.length cap, .slice a' G.length cap', .func (.func 123) #[] #[]],
      .func (.func 143) #[.agg #[.slice a F.length cap, .slice a' G.length cap', .func (.func 123) #[] #[]]] #[], .int .i64 x.1, .agg #[.int .i64 x.2.1.1, .int .i64 x.2.1.2, .int .i64 x.2.2.1, .int .i64 x.2.2.2], undef, undef, undef, undef, undef, undef, undef, undef, undef, undef, undef, undef, undef, undef, undef, undef, undef, undef, undef, undef, undef, undef, undef], defers := [] })
    ?hax ?assign ?body ?done ?stop
  case hax =>
    rintro x a1 A l r o ⟨Bx, h1, h2, h3⟩ hlr
    exact ⟨Bx, h1, (World.putObj_heap_other (fun e => by subst e; rw [show A.heap[Bx]? = _ from h2] at hlr; cases hlr)).trans h2, h3⟩
  case assign =>
    intro l pre x W K hsz hi hK
    rw [HS5] at hsz
    dsimp only [encT]
    gi_wp2
    exact hK _ _ (Outside.of_below ((Below.refl _ _).alloc (Nat.le_refl _) _) (by omega)) (combI_below hi ((Below.refl _ _).alloc (by omega) _)) ⟨W.heap.size, by omega, Blk.made _ _ _, rfl⟩
  case body =>
    rintro l pre x a1 W hsz ⟨i1, i2, i3, i4, i5, i6, i7, i8⟩ ⟨Bx, hBx, bX, rfl⟩ hpre
    rw [HS5] at hsz
    clear HI0 HSEQ HMK hmk hm3
    have HOP := hidE (plus_c x.2.1.1 x.2.1.2 x.2.2.1 x.2.2.2 W)
    change Hid (Calls _ _ _ W fun e w' => e = .returned (VE (opV 0 x.2.1 x.2.2)) ∧ _) at HOP
    have HRAW := hidE (show rawOf 0 x = (x.1, ((opV 0 x.2.1 x.2.2).1, (opV 0 x.2.1 x.2.2).2.1)) from rfl)
    have HERR := hidE (show errOf 0 x = (opV 0 x.2.1 x.2.2).2.2 from rfl)
    generalize opV 0 x.2.1 x.2.2 = q at *
    have p2 := i3.cell 2; have r0 := i7.cell 0; have rf := i7.free; have e0 := i5.cell 0; have ef := i5.free; have v0 := i4.cell 0; have vf := i4.free
    have x0 := bX.cell 0; have x1 := bX.cell 1; have x2 := bX.cell 2; have x3 := bX.cell 3; have xz := bX.lt
    simp [Value.cells] at p2 r0 e0 v0 x0 x1 x2 x3
    gi_wp2_with fail
    refine ⟨trivial, rfl, (CallsIn.inRound l (callsIn_wide.2 HOP.out)).mono ?_⟩
    rintro e w1 ⟨rfl, hb1⟩
    clear p2 r0 rf e0 ef v0 vf x0 x1 x2 x3 xz
    have HB1 := hidE hb1
    have o1 : Outside w.heap.size W5.heap.size W w1 := Outside.of_below hb1 i1.size
    have hz1 : w.heap.size + 1 + 1 + 1 + 1 + 1 ≤ w1.heap.size := Nat.le_trans hsz hb1.size
    have BE := i5.past hb1; have BV := i4.past hb1; have BR := i7.past hb1
    have r0 := BR.cell 0; have rf := BR.free; have rz := BR.lt; have e0 := BE.cell 0; have ef := BE.free; have ez := BE.lt; have v0 := BV.cell 0; have vf := BV.free; have vz := BV.lt
    simp at r0 e0 v0
    by_cases hq : q.2.2 = 0
    · have g2 : (q.2.2 != 0) = false := by rw [bne_eq_false_iff_eq]; exact hq
      have HE0 := hidE (HERR.out.trans hq)
      have hsl : (pre.map (rawOf 0)).length = pre.length := by simp
      have hlt : pre.length + 1 ≤ F.length + G.length := by
        have h1 := hpre.length_le
        simp only [List.length_append, List.length_cons, List.length_nil] at h1
        have := HLEN.out; omega
      have HROW := hidE (i6.below hb1 (by omega))
      have APP := hidE (fun W' (hb : Below w1.heap.size w1 W') => show W'.ownsRow w.heap.size 112 3 (.slice (some ⟨w.heap.size + 1 + 1 + 1, 0, none⟩) pre.length (F.length + G.length)) pre.length (cellsOfS (pre.map (rawOf 0))) from by
        have := (HROW.out.below hb (by omega)).own (base := w.heap.size) (by omega)
        rw [hsl] at this; exact this)
      obtain ⟨ix, hix, hz0, hzz, hz2⟩ := info_parts Tryz.infoSeg
      have HI := hidE hix; have HZ1 := hidE hzz
      have HI1 := hidE i1; have HI3 := hidE i3; have HI8 := hidE i8; have HPRE := hidE hpre
      have BF := i3.past hb1; have BE' := hidE BE; have BV' := hidE BV
      clear hq hix hz0 hzz hz2 i1 i3 i4 i5 i6 i7 i8 hpre BE BV HERR HOP HBAD HOK bX e0 ef ez v0 vf vz hb1 hsl
      gi_wp2_with (gi_at_builtin; refine wpListIn_append_fits _ rfl (.tmp 34) (.tmp 38) 22 rfl w.heap.size 112 ix 3 Tryz.underlying22 HI.out HZ1.out (w.heap.size + 1 + 1 + 1) pre.length (F.length + G.length) _ rfl (APP.out _ (by (repeat (first | exact Below.refl _ _ | assumption | refine balloc ?_ _ | refine below_drewN ?_ _ | refine bstep (by assumption) ?_ | refine bstep (Past.prop _) ?_ | refine Below.setCell ?_ (by first | exact Nat.le_refl _ | (simp; done) | (simp; omega)) _)))) ⟨_, 0, none⟩ 1 1 [.int .i64 x.1, .int .i64 q.1, .int .i64 q.2.1] rfl rfl (fresh_at _ #[.int .i64 x.1, .int .i64 q.1, .int .i64 q.2.1] 112 _ (by simp)) (by intro y hy; simp at hy; rcases hy with rfl | rfl | rfl <;> rfl) (by omega) ?_; intro w4 hown4 hgrow4; have BR4 := ((BR.alloc _).alloc _).grown hgrow4 (by simp); have r4 := BR4.cell 0; have rf4 := BR4.free; have rz4 := BR4.lt; simp at r4; have HG4 := hidE hgrow4; have HO4 := hidE hown4; have HR4 := hidE BR4; clear hgrow4 hown4 r0 rf rz BR4)
      have o2 : Outside w.heap.size W5.heap.size w1 _ := Outside.of_below (((Below.refl _ w1).alloc (Nat.le_refl _) (Obj.cells #[Value.int IntKind.i64 q.fst, Value.int IntKind.i64 q.snd.fst] 65)).alloc (by simp) (Obj.cells #[Value.int IntKind.i64 x.fst, Value.int IntKind.i64 q.fst, Value.int IntKind.i64 q.snd.fst] 112)) (by omega)
      have o3 : Outside w.heap.size W5.heap.size _ w4 := Outside.of_grown HG4.out (by omega) (by omega) (by simp; omega)
      have o4 : Outside w.heap.size W5.heap.size w4 _ := Outside.of_grown (grown_set w4 (w.heap.size + 1 + 1 + 1 + 1) 0 (.slice (some ⟨w.heap.size + 1 + 1 + 1, 0, none⟩) (pre.length + 1) (F.length + G.length))) (by omega) (by omega) (by omega)
      have oo := ((o1.trans o2).trans o3).trans o4
      have hmap : (pre ++ [x]).map (rawOf 0) = pre.map (rawOf 0) ++ [(x.1, (q.1, q.2.1))] := by rw [List.map_append, List.map_cons, List.map_nil, HRAW.out]
      have hlen : ((pre ++ [x]).map (rawOf 0)).length = pre.length + 1 := by simp
      have hrow : RowAt w4 (w.heap.size + 1 + 1 + 1) (F.length + G.length) ((pre ++ [x]).map (rawOf 0)) := RowAt.of_own (base := w.heap.size) hl (by
        rw [hlen, hmap, cellsOfS_app]; exact HO4.out)
      refine ⟨oo, HI1.out.trans oo.below, by simp [World.setCell]; omega, (((BF.alloc _).alloc _).grown HG4.out (by simp; omega)).other (by omega) _, (((BV'.out.alloc _).alloc _).grown HG4.out (by simp)).other (by omega) _, (((BE'.out.alloc _).alloc _).grown HG4.out (by simp)).other (by omega) _, hrow.other (by omega) _, ?_, fun p hp => ?_⟩
      · have := HR4.out.set 0 (.slice (some ⟨w.heap.size + 1 + 1 + 1, 0, none⟩) (pre.length + 1) (F.length + G.length))
        simpa using this
      · rcases List.mem_append.1 hp with h | h
        · exact HI8.out p h
        · simp at h; subst h; exact HE0.out
    · have g2 : (q.2.2 != 0) = true := bne_iff_ne.2 hq
      have HB := hidE (HBAD.out x (hpre.subset (by simp)) (by rw [HERR.out]; exact hq))
      have hb' := HB.out
      rw [HERR.out] at hb'
      have HD := hidE hb'
      clear hb'
      gi_wp2
      have o2 : Outside w.heap.size W5.heap.size _ _ := Outside.of_grown (grown_set w1 (w.heap.size + 1) 0 (.slice none 0 0)) (by omega) (by omega) (by omega)
      have o3 : Outside w.heap.size W5.heap.size _ _ := Outside.of_grown (grown_set (w1.setCell ⟨w.heap.size + 1, 0, none⟩ (.slice none 0 0)) (w.heap.size + 1 + 1) 0 (.int .i64 q.2.2)) (by omega) (by omega) (by simp [World.setCell]; omega)
      have o4 : Outside w.heap.size W5.heap.size _ _ := Outside.of_below ((Below.refl _ ((w1.setCell ⟨w.heap.size + 1, 0, none⟩ (.slice none 0 0)).setCell ⟨w.heap.size + 1 + 1, 0, none⟩ (.int .i64 q.2.2))).alloc (Nat.le_refl _) (Obj.cells #[Value.int IntKind.i64 q.fst, Value.int IntKind.i64 q.snd.fst] 65)) (by simp [World.setCell]; omega)
      have oo := ((o1.trans o2).trans o3).trans o4
      refine ⟨oo, rfl, i1.trans oo.below, ?_, ?_, by rw [HD.out]⟩
      · have := ((BV.set 0 (.slice none 0 0)).other (b := w.heap.size + 1 + 1) (i := 0) (by omega) (.int .i64 q.2.2)).alloc (Obj.cells #[Value.int IntKind.i64 q.fst, Value.int IntKind.i64 q.snd.fst] 65)
        simpa using this
      · have := ((BE.other (b := w.heap.size + 1) (i := 0) (by omega) (.slice none 0 0)).set 0 (.int .i64 q.2.2)).alloc (Obj.cells #[Value.int IntKind.i64 q.fst, Value.int IntKind.i64 q.snd.fst] 65)
        rw [HD.out]
        simpa using this
  case done =>
    rintro D W hD ⟨i1, i2, i3, i4, i5, i6, i7, i8⟩ hK
    rw [HS5] at hD
    have hD' : D < W.heap.size := (Array.getElem?_eq_some_iff.1 hK).1
    obtain ⟨hok, hun⟩ := HOK.out i8
    have HUN := hidE hun; have HALL := hidE hok
    have hml : ((togL F G).map (rawOf 0)).length = (togL F G).length := by simp
    obtain ⟨aR, capR, eR, _, _, hAR⟩ := sliS_own (i6.own (base := w.heap.size) (by omega))
    cases eR
    have HOF := hidE (show Calls Tryz.prog 144 #[.slice (some ⟨w.heap.size + 1 + 1 + 1, 0, none⟩) (togL F G).length (F.length + G.length)] W (OfPost W ((togL F G).map (rawOf 0))) from by
      have := of_c ((togL F G).map (rawOf 0)) _ (F.length + G.length) W (by rw [hml]; have := HLEN.out; omega) hAR
      rw [hml] at this; exact this)
    have r0 := i7.cell 0; have rf := i7.free; have rz := i7.lt; have e0 := i5.cell 0; have ef := i5.free; have ez := i5.lt; have v0 := i4.cell 0; have vf := i4.free; have vz := i4.lt
    simp at r0 e0 v0
    have HKD := hidE hK; have BE := hidE i5; have BV := hidE i4
    clear HI0 HSEQ HMK hmk hm3 hun hok hAR i3 i4 i5 i6 i7 hK HOK HBAD
    go_wp2_with fail
    ((with_reducible refine (HOF.out).mono ?_); rintro e w1 ⟨v1, f1, er, rfl, hs1, hcase, hb1⟩)
    clear r0 rf rz e0 ef ez v0 vf vz
    have BE1 := BE.out.past hb1; have BV1 := BV.out.past hb1
    have e0 := BE1.cell 0; have ef := BE1.free; have ez := BE1.lt; have v0 := BV1.cell 0; have vf := BV1.free; have vz := BV1.lt
    simp at e0 v0
    obtain ⟨a1, c1, rfl, hs11, hs12, hs13⟩ := hs1
    have HS1 := hidE (And.intro hs11 (And.intro hs12 hs13)); have HC := hidE hcase; have HB1 := hidE hb1
    clear hs11 hs12 hs13 hcase hb1
    go_wp2
    obtain ⟨h2, h3, h4⟩ := HS1.out
    have hkf : ((w1.setCell ⟨w.heap.size + 1, 0, none⟩ (.slice a1 f1.length c1)).setCell ⟨w.heap.size + 1 + 1, 0, none⟩ (.int .i64 er)).heap[D]? = some (.deferred (some [])) :=
      (Below.heap_setCell _ _ _ _ (by simp; omega)).trans ((Below.heap_setCell _ _ _ _ (by simp; omega)).trans ((HB1.out.block D hD').trans HKD.out))
    have g1 := (((BV1.set 0 (.slice a1 f1.length c1)).other (b := w.heap.size + 1 + 1) (i := 0) (by omega) (.int .i64 er)).put (b := D) (by omega) (.deferred none)).cell 0
    have g2 := (((BE1.other (b := w.heap.size + 1) (i := 0) (by omega) (.slice a1 f1.length c1)).set 0 (.int .i64 er)).put (b := D) (by omega) (.deferred none)).cell 0
    simp at g1 g2
    have hdz : D < w1.heap.size := Nat.lt_of_lt_of_le hD' HB1.out.size
    refine ⟨by simp, .inl ⟨_, _, rfl, run_takeDeferred hkf, ?_⟩⟩
    refine ⟨.tuple #[.slice a1 f1.length c1, .int .i64 er], by simp [results, Tryz.results124, go_sem, g1, g2], ?_⟩
    rcases HC.out with ⟨_, q2, q3⟩ | ⟨q1, _, _⟩
    · rw [HUN.out _ q3, q2]
      refine ⟨_, rfl, ⟨a1, c1, rfl, h2, h3, argS_turn h4 (by simp [World.setCell]) (fun k i v hc => ?_)⟩, ?_⟩
      · by_cases e1 : k = w.heap.size + 1
        · subst e1; exact (one_cell BV1 hc).elim
        by_cases e2 : k = w.heap.size + 1 + 1
        · subst e2; exact (one_cell BE1 hc).elim
        by_cases e3 : k = D
        · subst e3; exact (no_cell ((HB1.out.block k hD').trans HKD.out) hc).elim
        · exact (World.putObj_heap_other e3).trans ((Below.heap_setCell _ _ _ _ e2).trans (Below.heap_setCell _ _ _ _ e1))
      · refine ((((i1.trans (HB1.out.mono i1.size)).setCell (p := ⟨w.heap.size + 1, 0, none⟩) (by simp) _).setCell (p := ⟨w.heap.size + 1 + 1, 0, none⟩) (by simp; omega) _)).trans (below_putObj _ _ _ (by omega))
    · rw [HALL.out] at q1; cases q1
  case stop =>
    rintro D c pre W hD hpre ⟨rfl, i1, i2, i3, hnil⟩ hK
    rw [HS5] at hD
    have g1 := (i2.put (b := D) (by omega) (.deferred none)).cell 0
    have g2 := (i3.put (b := D) (by omega) (.deferred none)).cell 0
    simp at g1 g2
    have HI1 := hidE i1
    clear HI0 HSEQ HMK hmk hm3 i2 i3 HOK HBAD
    go_wp2
    refine ⟨by simp, .inl ⟨_, _, rfl, run_takeDeferred hK, ?_⟩⟩
    refine ⟨.tuple #[.slice none 0 0, .int .i64 (doS 0 F G).2], by simp [results, Tryz.results124, go_sem, g1, g2], ?_⟩
    rw [hnil]
    exact ⟨_, rfl, sliS_nil _, HI1.out.trans (below_putObj _ _ _ (by omega))⟩

set_option maxRecDepth 100000 in
set_option maxHeartbeats 2000000 in
theorem comb_sub (F G : List Sg) (a a' : Option Addr) (cap cap' : Nat) (w : World) (hF : F.length ≤ cap) (hc : cap ≤ 9223372036854775807) (hG : G.length ≤ cap') (hc' : cap' ≤ 9223372036854775807) (hl : F.length + G.length ≤ 1000000000)
    (hA : ArgS w a F) (hA' : ArgS w a' G) (hm : mayB F = true) (hm' : mayB G = true) :
    Calls Tryz.prog 124 #[.agg #[.slice a F.length cap, .slice a' G.length cap', .func (.func 184) #[] #[]]] w (OfIs w (doS 1 F G).1 (doS 1 F G).2) := by
  have HBAD := hidE (fun (p : Tg) hp he => comb_bad (k := 1) hm hm' (p := p) hp he)
  have HOK := hidE (fun he => comb_ok (k := 1) hm hm' he)
  have HSEQ := hidE (fun w' hb => tog_c F G a a' cap cap' (.func (.func 184) #[] #[]) w w' hF hc hG hc' hl hA hA' hb)
  have HLEN := hidE (togL_len F G)
  have HMK := hidE (make_segs2 F.length G.length hl)
  clear hA hA' hm hm' hF hc hG hc'
  refine (callsIn_wide (n := 0)).1 (callsIn_of_wp_marks Tryz.func124 rfl trivial ((wpIn_wide (n := 0)).2 ?_))
  simp only [Tryz.ntmps124, List.size_toArray, List.length_cons, List.length_nil, Nat.reduceAdd, Nat.reduceSub, Array.replicate_succ, Array.replicate_zero, List.push_toArray, List.append_toArray, List.nil_append, List.cons_append]
  have hmk := HMK.out
  go_wp2
  have hm3 := madeRow (F.length + G.length) hl
  have HI0 : CombI 1 F G w (.agg #[.slice a F.length cap, .slice a' G.length cap', .func (.func 184) #[] #[]]) [] ((((((w.alloc (Obj.cells #[Value.slice a F.length cap, Value.slice a' G.length cap', .func (.func 184) #[] #[]] 190)).alloc (Obj.cells #[Value.slice none 0 0] 22)).alloc (Obj.cells #[Value.int IntKind.i64 0] 28)).alloc (Obj.cells (madeCells #[Value.int IntKind.i64 0, Value.int IntKind.i64 0, Value.int IntKind.i64 0] ((F.length + G.length) * 3)) 112)).alloc (Obj.cells #[Value.slice (some { block := w.heap.size + 1 + 1 + 1, off := 0 }) 0 (F.length + G.length)] 22))) :=
    ⟨by (repeat (first | exact Below.refl _ _ | assumption | refine balloc ?_ _ | refine below_drewN ?_ _ | refine bstep (by assumption) ?_ | refine bstep (Past.prop _) ?_ | refine Below.setCell ?_ (by first | exact Nat.le_refl _ | (simp; done) | (simp; omega)) _)), by simp, (((Blk.made _ _ _).alloc _).alloc _).alloc _ |>.alloc _, (((Blk.made_at _ _ _ _ (by simp)).alloc _).alloc _).alloc _, ((Blk.made_at _ _ _ _ (by simp)).alloc _).alloc _, hm3 _ _ _ (by simp), Blk.made_at _ _ _ _ (by simp), fun p hp => by simp at hp⟩
  have HS5 : (((((((w.alloc (Obj.cells #[Value.slice a F.length cap, Value.slice a' G.length cap', .func (.func 184) #[] #[]] 190)).alloc (Obj.cells #[Value.slice none 0 0] 22)).alloc (Obj.cells #[Value.int IntKind.i64 0] 28)).alloc (Obj.cells (madeCells #[Value.int IntKind.i64 0, Value.int IntKind.i64 0, Value.int IntKind.i64 0] ((F.length + G.length) * 3)) 112)).alloc (Obj.cells #[Value.slice (some { block := w.heap.size + 1 + 1 + 1, off := 0 }) 0 (F.length + G.length)] 22)))).heap.size = w.heap.size + 1 + 1 + 1 + 1 + 1 := by simp
  have HB5 : Below w.heap.size w ((((((w.alloc (Obj.cells #[Value.slice a F.length cap, Value.slice a' G.length cap', .func (.func 184) #[] #[]] 190)).alloc (Obj.cells #[Value.slice none 0 0] 22)).alloc (Obj.cells #[Value.int IntKind.i64 0] 28)).alloc (Obj.cells (madeCells #[Value.int IntKind.i64 0, Value.int IntKind.i64 0, Value.int IntKind.i64 0] ((F.length + G.length) * 3)) 112)).alloc (Obj.cells #[Value.slice (some { block := w.heap.size + 1 + 1 + 1, off := 0 }) 0 (F.length + G.length)] 22))) := by (repeat (first | exact Below.refl _ _ | assumption | refine balloc ?_ _ | refine below_drewN ?_ _ | refine bstep (by assumption) ?_ | refine bstep (Past.prop _) ?_ | refine Below.setCell ?_ (by first | exact Nat.le_refl _ | (simp; done) | (simp; omega)) _))
  generalize ((((((w.alloc (Obj.cells #[Value.slice a F.length cap, Value.slice a' G.length cap', .func (.func 184) #[] #[]] 190)).alloc (Obj.cells #[Value.slice none 0 0] 22)).alloc (Obj.cells #[Value.int IntKind.i64 0] 28)).alloc (Obj.cells (madeCells #[Value.int IntKind.i64 0, Value.int IntKind.i64 0, Value.int IntKind.i64 0] ((F.length + G.length) * 3)) 112)).alloc (Obj.cells #[Value.slice (some { block := w.heap.size + 1 + 1 + 1, off := 0 }) 0 (F.length + G.length)] 22))) = W5 at *
  refine wp_rangeFunc_T (n₀ := w.heap.size) (S := togL F G) rfl (enters_of Tryz.func143 (by kernel_rfl) rfl) HB5.size (HSEQ.out _ HB5) (fun _ => rfl)
    (CombI 1 F G w (.agg #[.slice a F.length cap, .slice a' G.length cap', .func (.func 184) #[] #[]])) (fun c _ W => CombX 1 F G w c W)
    (fun s A B h hb => combI_below h (HS5 ▸ hb)) (fun c s A B h hb => combX_below h (HS5 ▸ hb)) HI0
    (fun x a1 W => ∃ Bx : Nat, w.heap.size + 1 + 1 + 1 + 1 + 1 ≤ Bx ∧ Blk W Bx #[.int .i64 x.2.1.1, .int .i64 x.2.1.2, .int .i64 x.2.2.1, .int .i64 x.2.2.2] 208 ∧ a1 = { tmps := #[.agg #[.slice a F.length cap, .slice a' G.length cap', .func (.func 184) #[] #[]], .pointer (some ⟨w.heap.size, 0, none⟩), .pointer (some ⟨w.heap.size + 1, 0, none⟩), .pointer (some ⟨w.heap.size + 1 + 1, 0, none⟩), .pointer (some ⟨w.heap.size + 1 + 1 + 1 + 1, 0, none⟩), .int .i64 x.1, .pointer (some ⟨Bx, 0, none⟩), undef, undef,
      .pointer (some ⟨w.heap.size, 0, none⟩), .slice a F.length cap, .int .i64 F.length, .pointer (some ⟨w.heap.size, 1, none⟩), .slice a' G.length cap', .int .i64 G.length, .int .i64 ((F.length : Int) + (G.length : Int)), .slice (some ⟨w.heap.size + 1 + 1 + 1, 0, none⟩) 0 (F.length + G.length), .agg #[.slice a F.length cap, .slice a' G.length cap', .func (.func 184) #[] #[]],
      .func (.func 143) #[.agg #[.slice a F.length cap, .slice a' G.length cap', .func (.func 184) #[] #[]]] #[], .int .i64 x.1, .agg #[.int .i64 x.2.1.1, .int .i64 x.2.1.2, .int .i64 x.2.2.1, .int .i64 x.2.2.2], undef, undef, undef, undef, undef, undef, undef, undef, undef, undef, undef, undef, undef, undef, undef, undef, undef, undef, undef, undef, undef, undef, undef], defers := [] })
    ?hax ?assign ?body ?done ?stop
  case hax =>
    rintro x a1 A l r o ⟨Bx, h1, h2, h3⟩ hlr
    exact ⟨Bx, h1, (World.putObj_heap_other (fun e => by subst e; rw [show A.heap[Bx]? = _ from h2] at hlr; cases hlr)).trans h2, h3⟩
  case assign =>
    intro l pre x W K hsz hi hK
    rw [HS5] at hsz
    dsimp only [encT]
    gi_wp2
    exact hK _ _ (Outside.of_below ((Below.refl _ _).alloc (Nat.le_refl _) _) (by omega)) (combI_below hi ((Below.refl _ _).alloc (by omega) _)) ⟨W.heap.size, by omega, Blk.made _ _ _, rfl⟩
  case body =>
    rintro l pre x a1 W hsz ⟨i1, i2, i3, i4, i5, i6, i7, i8⟩ ⟨Bx, hBx, bX, rfl⟩ hpre
    rw [HS5] at hsz
    clear HI0 HSEQ HMK hmk hm3
    have HOP := hidE (sub_c x.2.1.1 x.2.1.2 x.2.2.1 x.2.2.2 W)
    change Hid (Calls _ _ _ W fun e w' => e = .returned (VE (opV 1 x.2.1 x.2.2)) ∧ _) at HOP
    have HRAW := hidE (show rawOf 1 x = (x.1, ((opV 1 x.2.1 x.2.2).1, (opV 1 x.2.1 x.2.2).2.1)) from rfl)
    have HERR := hidE (show errOf 1 x = (opV 1 x.2.1 x.2.2).2.2 from rfl)
    generalize opV 1 x.2.1 x.2.2 = q at *
    have p2 := i3.cell 2; have r0 := i7.cell 0; have rf := i7.free; have e0 := i5.cell 0; have ef := i5.free; have v0 := i4.cell 0; have vf := i4.free
    have x0 := bX.cell 0; have x1 := bX.cell 1; have x2 := bX.cell 2; have x3 := bX.cell 3; have xz := bX.lt
    simp [Value.cells] at p2 r0 e0 v0 x0 x1 x2 x3
    gi_wp2_with fail
    refine ⟨trivial, rfl, (CallsIn.inRound l (callsIn_wide.2 HOP.out)).mono ?_⟩
    rintro e w1 ⟨rfl, hb1⟩
    clear p2 r0 rf e0 ef v0 vf x0 x1 x2 x3 xz
    have HB1 := hidE hb1
    have o1 : Outside w.heap.size W5.heap.size W w1 := Outside.of_below hb1 i1.size
    have hz1 : w.heap.size + 1 + 1 + 1 + 1 + 1 ≤ w1.heap.size := Nat.le_trans hsz hb1.size
    have BE := i5.past hb1; have BV := i4.past hb1; have BR := i7.past hb1
    have r0 := BR.cell 0; have rf := BR.free; have rz := BR.lt; have e0 := BE.cell 0; have ef := BE.free; have ez := BE.lt; have v0 := BV.cell 0; have vf := BV.free; have vz := BV.lt
    simp at r0 e0 v0
    by_cases hq : q.2.2 = 0
    · have g2 : (q.2.2 != 0) = false := by rw [bne_eq_false_iff_eq]; exact hq
      have HE0 := hidE (HERR.out.trans hq)
      have hsl : (pre.map (rawOf 1)).length = pre.length := by simp
      have hlt : pre.length + 1 ≤ F.length + G.length := by
        have h1 := hpre.length_le
        simp only [List.length_append, List.length_cons, List.length_nil] at h1
        have := HLEN.out; omega
      have HROW := hidE (i6.below hb1 (by omega))
      have APP := hidE (fun W' (hb : Below w1.heap.size w1 W') => show W'.ownsRow w.heap.size 112 3 (.slice (some ⟨w.heap.size + 1 + 1 + 1, 0, none⟩) pre.length (F.length + G.length)) pre.length (cellsOfS (pre.map (rawOf 1))) from by
        have := (HROW.out.below hb (by omega)).own (base := w.heap.size) (by omega)
        rw [hsl] at this; exact this)
      obtain ⟨ix, hix, hz0, hzz, hz2⟩ := info_parts Tryz.infoSeg
      have HI := hidE hix; have HZ1 := hidE hzz
      have HI1 := hidE i1; have HI3 := hidE i3; have HI8 := hidE i8; have HPRE := hidE hpre
      have BF := i3.past hb1; have BE' := hidE BE; have BV' := hidE BV
      clear hq hix hz0 hzz hz2 i1 i3 i4 i5 i6 i7 i8 hpre BE BV HERR HOP HBAD HOK bX e0 ef ez v0 vf vz hb1 hsl
      gi_wp2_with (gi_at_builtin; refine wpListIn_append_fits _ rfl (.tmp 34) (.tmp 38) 22 rfl w.heap.size 112 ix 3 Tryz.underlying22 HI.out HZ1.out (w.heap.size + 1 + 1 + 1) pre.length (F.length + G.length) _ rfl (APP.out _ (by (repeat (first | exact Below.refl _ _ | assumption | refine balloc ?_ _ | refine below_drewN ?_ _ | refine bstep (by assumption) ?_ | refine bstep (Past.prop _) ?_ | refine Below.setCell ?_ (by first | exact Nat.le_refl _ | (simp; done) | (simp; omega)) _)))) ⟨_, 0, none⟩ 1 1 [.int .i64 x.1, .int .i64 q.1, .int .i64 q.2.1] rfl rfl (fresh_at _ #[.int .i64 x.1, .int .i64 q.1, .int .i64 q.2.1] 112 _ (by simp)) (by intro y hy; simp at hy; rcases hy with rfl | rfl | rfl <;> rfl) (by omega) ?_; intro w4 hown4 hgrow4; have BR4 := ((BR.alloc _).alloc _).grown hgrow4 (by simp); have r4 := BR4.cell 0; have rf4 := BR4.free; have rz4 := BR4.lt; simp at r4; have HG4 := hidE hgrow4; have HO4 := hidE hown4; have HR4 := hidE BR4; clear hgrow4 hown4 r0 rf rz BR4)
      have o2 : Outside w.heap.size W5.heap.size w1 _ := Outside.of_below (((Below.refl _ w1).alloc (Nat.le_refl _) (Obj.cells #[Value.int IntKind.i64 q.fst, Value.int IntKind.i64 q.snd.fst] 65)).alloc (by simp) (Obj.cells #[Value.int IntKind.i64 x.fst, Value.int IntKind.i64 q.fst, Value.int IntKind.i64 q.snd.fst] 112)) (by omega)
      have o3 : Outside w.heap.size W5.heap.size _ w4 := Outside.of_grown HG4.out (by omega) (by omega) (by simp; omega)
      have o4 : Outside w.heap.size W5.heap.size w4 _ := Outside.of_grown (grown_set w4 (w.heap.size + 1 + 1 + 1 + 1) 0 (.slice (some ⟨w.heap.size + 1 + 1 + 1, 0, none⟩) (pre.length + 1) (F.length + G.length))) (by omega) (by omega) (by omega)
      have oo := ((o1.trans o2).trans o3).trans o4
      have hmap : (pre ++ [x]).map (rawOf 1) = pre.map (rawOf 1) ++ [(x.1, (q.1, q.2.1))] := by rw [List.map_append, List.map_cons, List.map_nil, HRAW.out]
      have hlen : ((pre ++ [x]).map (rawOf 1)).length = pre.length + 1 := by simp
      have hrow : RowAt w4 (w.heap.size + 1 + 1 + 1) (F.length + G.length) ((pre ++ [x]).map (rawOf 1)) := RowAt.of_own (base := w.heap.size) hl (by
        rw [hlen, hmap, cellsOfS_app]; exact HO4.out)
      refine ⟨oo, HI1.out.trans oo.below, by simp [World.setCell]; omega, (((BF.alloc _).alloc _).grown HG4.out (by simp; omega)).other (by omega) _, (((BV'.out.alloc _).alloc _).grown HG4.out (by simp)).other (by omega) _, (((BE'.out.alloc _).alloc _).grown HG4.out (by simp)).other (by omega) _, hrow.other (by omega) _, ?_, fun p hp => ?_⟩
      · have := HR4.out.set 0 (.slice (some ⟨w.heap.size + 1 + 1 + 1, 0, none⟩) (pre.length + 1) (F.length + G.length))
        simpa using this
      · rcases List.mem_append.1 hp with h | h
        · exact HI8.out p h
        · simp at h; subst h; exact HE0.out
    · have g2 : (q.2.2 != 0) = true := bne_iff_ne.2 hq
      have HB := hidE (HBAD.out x (hpre.subset (by simp)) (by rw [HERR.out]; exact hq))
      have hb' := HB.out
      rw [HERR.out] at hb'
      have HD := hidE hb'
      clear hb'
      gi_wp2
      have o2 : Outside w.heap.size W5.heap.size _ _ := Outside.of_grown (grown_set w1 (w.heap.size + 1) 0 (.slice none 0 0)) (by omega) (by omega) (by omega)
      have o3 : Outside w.heap.size W5.heap.size _ _ := Outside.of_grown (grown_set (w1.setCell ⟨w.heap.size + 1, 0, none⟩ (.slice none 0 0)) (w.heap.size + 1 + 1) 0 (.int .i64 q.2.2)) (by omega) (by omega) (by simp [World.setCell]; omega)
      have o4 : Outside w.heap.size W5.heap.size _ _ := Outside.of_below ((Below.refl _ ((w1.setCell ⟨w.heap.size + 1, 0, none⟩ (.slice none 0 0)).setCell ⟨w.heap.size + 1 + 1, 0, none⟩ (.int .i64 q.2.2))).alloc (Nat.le_refl _) (Obj.cells #[Value.int IntKind.i64 q.fst, Value.int IntKind.i64 q.snd.fst] 65)) (by simp [World.setCell]; omega)
      have oo := ((o1.trans o2).trans o3).trans o4
      refine ⟨oo, rfl, i1.trans oo.below, ?_, ?_, by rw [HD.out]⟩
      · have := ((BV.set 0 (.slice none 0 0)).other (b := w.heap.size + 1 + 1) (i := 0) (by omega) (.int .i64 q.2.2)).alloc (Obj.cells #[Value.int IntKind.i64 q.fst, Value.int IntKind.i64 q.snd.fst] 65)
        simpa using this
      · have := ((BE.other (b := w.heap.size + 1) (i := 0) (by omega) (.slice none 0 0)).set 0 (.int .i64 q.2.2)).alloc (Obj.cells #[Value.int IntKind.i64 q.fst, Value.int IntKind.i64 q.snd.fst] 65)
        rw [HD.out]
        simpa using this
  case done =>
    rintro D W hD ⟨i1, i2, i3, i4, i5, i6, i7, i8⟩ hK
    rw [HS5] at hD
    have hD' : D < W.heap.size := (Array.getElem?_eq_some_iff.1 hK).1
    obtain ⟨hok, hun⟩ := HOK.out i8
    have HUN := hidE hun; have HALL := hidE hok
    have hml : ((togL F G).map (rawOf 1)).length = (togL F G).length := by simp
    obtain ⟨aR, capR, eR, _, _, hAR⟩ := sliS_own (i6.own (base := w.heap.size) (by omega))
    cases eR
    have HOF := hidE (show Calls Tryz.prog 144 #[.slice (some ⟨w.heap.size + 1 + 1 + 1, 0, none⟩) (togL F G).length (F.length + G.length)] W (OfPost W ((togL F G).map (rawOf 1))) from by
      have := of_c ((togL F G).map (rawOf 1)) _ (F.length + G.length) W (by rw [hml]; have := HLEN.out; omega) hAR
      rw [hml] at this; exact this)
    have r0 := i7.cell 0; have rf := i7.free; have rz := i7.lt; have e0 := i5.cell 0; have ef := i5.free; have ez := i5.lt; have v0 := i4.cell 0; have vf := i4.free; have vz := i4.lt
    simp at r0 e0 v0
    have HKD := hidE hK; have BE := hidE i5; have BV := hidE i4
    clear HI0 HSEQ HMK hmk hm3 hun hok hAR i3 i4 i5 i6 i7 hK HOK HBAD
    go_wp2_with fail
    ((with_reducible refine (HOF.out).mono ?_); rintro e w1 ⟨v1, f1, er, rfl, hs1, hcase, hb1⟩)
    clear r0 rf rz e0 ef ez v0 vf vz
    have BE1 := BE.out.past hb1; have BV1 := BV.out.past hb1
    have e0 := BE1.cell 0; have ef := BE1.free; have ez := BE1.lt; have v0 := BV1.cell 0; have vf := BV1.free; have vz := BV1.lt
    simp at e0 v0
    obtain ⟨a1, c1, rfl, hs11, hs12, hs13⟩ := hs1
    have HS1 := hidE (And.intro hs11 (And.intro hs12 hs13)); have HC := hidE hcase; have HB1 := hidE hb1
    clear hs11 hs12 hs13 hcase hb1
    go_wp2
    obtain ⟨h2, h3, h4⟩ := HS1.out
    have hkf : ((w1.setCell ⟨w.heap.size + 1, 0, none⟩ (.slice a1 f1.length c1)).setCell ⟨w.heap.size + 1 + 1, 0, none⟩ (.int .i64 er)).heap[D]? = some (.deferred (some [])) :=
      (Below.heap_setCell _ _ _ _ (by simp; omega)).trans ((Below.heap_setCell _ _ _ _ (by simp; omega)).trans ((HB1.out.block D hD').trans HKD.out))
    have g1 := (((BV1.set 0 (.slice a1 f1.length c1)).other (b := w.heap.size + 1 + 1) (i := 0) (by omega) (.int .i64 er)).put (b := D) (by omega) (.deferred none)).cell 0
    have g2 := (((BE1.other (b := w.heap.size + 1) (i := 0) (by omega) (.slice a1 f1.length c1)).set 0 (.int .i64 er)).put (b := D) (by omega) (.deferred none)).cell 0
    simp at g1 g2
    have hdz : D < w1.heap.size := Nat.lt_of_lt_of_le hD' HB1.out.size
    refine ⟨by simp, .inl ⟨_, _, rfl, run_takeDeferred hkf, ?_⟩⟩
    refine ⟨.tuple #[.slice a1 f1.length c1, .int .i64 er], by simp [results, Tryz.results124, go_sem, g1, g2], ?_⟩
    rcases HC.out with ⟨_, q2, q3⟩ | ⟨q1, _, _⟩
    · rw [HUN.out _ q3, q2]
      refine ⟨_, rfl, ⟨a1, c1, rfl, h2, h3, argS_turn h4 (by simp [World.setCell]) (fun k i v hc => ?_)⟩, ?_⟩
      · by_cases e1 : k = w.heap.size + 1
        · subst e1; exact (one_cell BV1 hc).elim
        by_cases e2 : k = w.heap.size + 1 + 1
        · subst e2; exact (one_cell BE1 hc).elim
        by_cases e3 : k = D
        · subst e3; exact (no_cell ((HB1.out.block k hD').trans HKD.out) hc).elim
        · exact (World.putObj_heap_other e3).trans ((Below.heap_setCell _ _ _ _ e2).trans (Below.heap_setCell _ _ _ _ e1))
      · refine ((((i1.trans (HB1.out.mono i1.size)).setCell (p := ⟨w.heap.size + 1, 0, none⟩) (by simp) _).setCell (p := ⟨w.heap.size + 1 + 1, 0, none⟩) (by simp; omega) _)).trans (below_putObj _ _ _ (by omega))
    · rw [HALL.out] at q1; cases q1
  case stop =>
    rintro D c pre W hD hpre ⟨rfl, i1, i2, i3, hnil⟩ hK
    rw [HS5] at hD
    have g1 := (i2.put (b := D) (by omega) (.deferred none)).cell 0
    have g2 := (i3.put (b := D) (by omega) (.deferred none)).cell 0
    simp at g1 g2
    have HI1 := hidE i1
    clear HI0 HSEQ HMK hmk hm3 i2 i3 HOK HBAD
    go_wp2
    refine ⟨by simp, .inl ⟨_, _, rfl, run_takeDeferred hK, ?_⟩⟩
    refine ⟨.tuple #[.slice none 0 0, .int .i64 (doS 1 F G).2], by simp [results, Tryz.results124, go_sem, g1, g2], ?_⟩
    rw [hnil]
    exact ⟨_, rfl, sliS_nil _, HI1.out.trans (below_putObj _ _ _ (by omega))⟩

end Go.Proofs.YthlepbbdjmmelaaGreat

namespace Go.Proofs.YthlepbbdjmmelaaGreat
open Go.ChangeShapes Go.WideShapes Go.ChangeAt Go.RowKit

theorem rmay (a b : Int) (w : World) : Calls Tryz.prog 74 #[V a b] w fun e w' => e = .returned (.bool (okV a b)) ∧ Below w.heap.size w w' := by
  go_enter Tryz.func74, Tryz.ntmps74
  go_wp2
  all_goals
    go_ret
    refine ⟨ret_bool (by unfold okV; rw [Bool.eq_iff_iff]; simp; omega), ?_⟩
    (repeat (first | exact Below.refl _ _ | assumption | refine balloc ?_ _ | refine below_drewN ?_ _ | refine bstep (by assumption) ?_ | refine bstep (Past.prop _) ?_ | refine Below.setCell ?_ (by first | exact Nat.le_refl _ | (simp; done) | (simp; omega)) _))
theorem rmay_eq {a b : Int} {r : Bool} {w : World} (h : okV a b = r) : Calls Tryz.prog 74 #[V a b] w fun e w' => e = .returned (.bool r) ∧ Below w.heap.size w w' := h ▸ rmay a b w
end Go.Proofs.YthlepbbdjmmelaaGreat

namespace Go.Proofs.YthlepbbdjmmelaaGreat
open Go.ChangeShapes Go.WideShapes Go.ChangeAt Go.RowKit
attribute [local irreducible] Go.Calls

theorem rin_c (s : Sg) (w : World) : Calls Tryz.prog 87 #[S s.1 s.2.1 s.2.2] w fun e w' => e = .returned (.bool (okS s)) ∧ Below w.heap.size w w' := by
  obtain ⟨x, m, c⟩ := s
  show Calls _ _ #[S x m c] _ _
  by_cases h1 : -1125899906842624 ≤ x
  · by_cases h2 : x ≤ 1125899906842624
    · have e : okS (x, m, c) = okV m c := by
        have : okT x = true := okT_iff.2 ⟨h1, h2⟩
        unfold okS; simp only [this, Bool.true_and]
      rw [e]
      have d1 : decide (-1125899906842624 ≤ x) = true := decide_eq_true h1
      have d2 : decide (x ≤ 1125899906842624) = true := decide_eq_true h2
      clear e
      go_enter Tryz.func87, Tryz.ntmps87
      go_wp2_with (go_at_call 74; ((with_reducible refine (rmay m c _).mono ?_); rintro e w' ⟨rfl, hb⟩; obtain ⟨hc, hf⟩ := bcell hb))
      go_ret
      exact ⟨rfl, by (repeat (first | exact Below.refl _ _ | assumption | refine balloc ?_ _ | refine below_drewN ?_ _ | refine bstep (by assumption) ?_ | refine bstep (Past.prop _) ?_ | refine Below.setCell ?_ (by first | exact Nat.le_refl _ | (simp; done) | (simp; omega)) _))⟩
    · have e : okS (x, m, c) = false := by
        have : okT x = false := decide_eq_false (by omega)
        unfold okS; simp only [this, Bool.false_and]
      rw [e]
      have d1 : decide (-1125899906842624 ≤ x) = true := decide_eq_true h1
      have d2 : decide (x ≤ 1125899906842624) = false := decide_eq_false h2
      clear e
      go_enter Tryz.func87, Tryz.ntmps87
      go_wp2
      go_ret
      exact ⟨rfl, by (repeat (first | exact Below.refl _ _ | assumption | refine balloc ?_ _ | refine below_drewN ?_ _ | refine bstep (by assumption) ?_ | refine bstep (Past.prop _) ?_ | refine Below.setCell ?_ (by first | exact Nat.le_refl _ | (simp; done) | (simp; omega)) _))⟩
  · have e : okS (x, m, c) = false := by
      have : okT x = false := decide_eq_false (by omega)
      unfold okS; simp only [this, Bool.false_and]
    rw [e]
    have d1 : decide (-1125899906842624 ≤ x) = false := decide_eq_false h1
    clear e
    go_enter Tryz.func87, Tryz.ntmps87
    go_wp2
    go_ret
    exact ⟨rfl, by (repeat (first | exact Below.refl _ _ | assumption | refine balloc ?_ _ | refine below_drewN ?_ _ | refine bstep (by assumption) ?_ | refine bstep (Past.prop _) ?_ | refine Below.setCell ?_ (by first | exact Nat.le_refl _ | (simp; done) | (simp; omega)) _))⟩
set_option maxHeartbeats 1000000 in
theorem rsame_c (l r : List Sg) (a a' : Option Addr) (cap cap' : Nat) (w : World) (hl : l.length ≤ 9223372036854775807) (hr : r.length ≤ 9223372036854775807) (hA : ArgS w a l) (hA' : ArgS w a' r) :
    Calls Tryz.prog 33 #[.slice a l.length cap, .slice a' r.length cap'] w fun e w' => e = .returned (.bool (sameB l r)) ∧ Below w.heap.size w w' := by
  have HA := hidE hA; have HA' := hidE hA'; clear hA hA'
  by_cases hlen : l.length = r.length
  · have e1 : ((l.length : Int) != (r.length : Int)) = false := by rw [bne_eq_false_iff_eq]; omega
    have e2 : ((l.length : Int) == (r.length : Int)) = true := beq_iff_eq.2 (by omega)
    have HL := hidE hlen
    have le1 : l.length ≤ r.length := by omega
    clear hlen
    go_enter Tryz.func33, Tryz.ntmps33
    go_wp2
    go_loopg [5] l.length (fun g vi wr => ∃ k : Nat, k ≤ l.length ∧ l.length - k ≤ g ∧ vi = .int .i64 k ∧ (∀ i, i < k → ats l i = ats r i ∧ vls l i = vls r i) ∧ Below w.heap.size w wr)
    case atStart => exact ⟨0, Nat.zero_le _, by omega, rfl, fun i hi => by omega, Below.refl _ _⟩
    case round =>
      obtain ⟨k, hk, hg, rfl, hs, hb⟩ := hrel
      have HS := hidE hs; have HB := hidE hb; clear hs hb
      by_cases hlt : k < l.length
      · obtain ⟨b, off, rfl, hb, hc⟩ := (HA.out.past HB.out) (by omega)
        obtain ⟨c0, c1, c2⟩ := hc.get hlt
        obtain ⟨b', off', rfl, hb', hc'⟩ := (HA'.out.past HB.out) (by omega)
        obtain ⟨d0, d1, d2⟩ := hc'.get (i := k) (by omega)
        clear hc hc'
        by_cases hne : ats l k = ats r k ∧ (vls l k).1 = (vls r k).1 ∧ (vls l k).2 = (vls r k).2
        · have HX := hidE (show ∀ i, i < k + 1 → ats l i = ats r i ∧ vls l i = vls r i from fun i hi => by
            by_cases e : i = k
            · rw [e]; exact ⟨hne.1, Prod.ext hne.2.1 hne.2.2⟩
            · exact HS.out i (by omega))
          obtain ⟨n1, n2, n3⟩ := hne
          rw [← n1] at d0; rw [← n2] at d1; rw [← n3] at d2
          clear n1 n2 n3
          generalize ats l k = u at *
          generalize vls l k = v at *
          go_wp2
          go_quiet (fail)
          go_wp2
          go_roundg (l.length - (k + 1))
          case measure => omega
          case rel => exact ⟨k + 1, by omega, Nat.le_refl _, by go_num, HX.out, by have := HB.out; (repeat (first | exact Below.refl _ _ | assumption | refine balloc ?_ _ | refine below_drewN ?_ _ | refine bstep (by assumption) ?_ | refine bstep (Past.prop _) ?_ | refine Below.setCell ?_ (by first | exact Nat.le_refl _ | (simp; done) | (simp; omega)) _))⟩
        · have HX := hidE (show sameB l r = false from same_f (i := k) (by
            by_cases e : ats l k = ats r k
            · right; intro h; exact hne ⟨e, by rw [h], by rw [h]⟩
            · exact .inl e))
          by_cases n1 : ats l k = ats r k
          · by_cases n2 : (vls l k).1 = (vls r k).1
            · have n3 : ((vls l k).2 == (vls r k).2) = false := beq_eq_false_iff_ne.2 fun h => hne ⟨n1, n2, h⟩
              rw [← n1] at d0; rw [← n2] at d1
              clear n1 n2 hne
              generalize ats l k = u at *
              generalize vls l k = v at *
              generalize vls r k = v' at *
              go_wp2
              go_quiet (fail)
              go_wp2
              go_ret
              exact ⟨ret_bool (by rw [HX.out]), by have := HB.out; (repeat (first | exact Below.refl _ _ | assumption | refine balloc ?_ _ | refine below_drewN ?_ _ | refine bstep (by assumption) ?_ | refine bstep (Past.prop _) ?_ | refine Below.setCell ?_ (by first | exact Nat.le_refl _ | (simp; done) | (simp; omega)) _))⟩
            · have n3 : ((vls l k).1 == (vls r k).1) = false := beq_eq_false_iff_ne.2 n2
              rw [← n1] at d0
              clear n1 n2 hne
              generalize ats l k = u at *
              generalize vls l k = v at *
              generalize vls r k = v' at *
              go_wp2
              go_quiet (fail)
              go_wp2
              go_ret
              exact ⟨ret_bool (by rw [HX.out]), by have := HB.out; (repeat (first | exact Below.refl _ _ | assumption | refine balloc ?_ _ | refine below_drewN ?_ _ | refine bstep (by assumption) ?_ | refine bstep (Past.prop _) ?_ | refine Below.setCell ?_ (by first | exact Nat.le_refl _ | (simp; done) | (simp; omega)) _))⟩
          · have n3 : (ats l k == ats r k) = false := beq_eq_false_iff_ne.2 n1
            clear n1 hne
            generalize ats l k = u at *
            generalize vls l k = v at *
            generalize ats r k = u' at *
            generalize vls r k = v' at *
            go_wp2
            go_quiet (fail)
            go_wp2
            go_ret
            exact ⟨ret_bool (by rw [HX.out]), by have := HB.out; (repeat (first | exact Below.refl _ _ | assumption | refine balloc ?_ _ | refine below_drewN ?_ _ | refine bstep (by assumption) ?_ | refine bstep (Past.prop _) ?_ | refine Below.setCell ?_ (by first | exact Nat.le_refl _ | (simp; done) | (simp; omega)) _))⟩
      · have hk' : k = l.length := by omega
        subst hk'
        have HX := hidE (same_t HL.out HS.out)
        go_wp2
        go_ret
        exact ⟨ret_bool (by rw [HX.out]), HB.out⟩
  · have e1 : ((l.length : Int) != (r.length : Int)) = true := bne_iff_ne.2 (by omega)
    have e2 : ((l.length : Int) == (r.length : Int)) = false := beq_eq_false_iff_ne.2 (by omega)
    have HX := hidE (show sameB l r = false from decide_eq_false (fun e => hlen (by rw [e])))
    clear hlen
    go_enter Tryz.func33, Tryz.ntmps33
    go_wp2
    go_ret
    exact ⟨ret_bool (by rw [HX.out]), Below.refl _ _⟩

end Go.Proofs.YthlepbbdjmmelaaGreat

namespace Go.Proofs.YthlepbbdjmmelaaGreat
open Go.ChangeShapes Go.WideShapes Go.ChangeAt Go.RowKit
attribute [local irreducible] Go.Calls

theorem Tryz.infoI64 : (Tryz.prog.info? 2).map (fun i => (i.zero, i.size, i.bytes)) = some (some (.int .i64 0), 1, 8) := by kernel_rfl

/-- The cells of a list of numbers. -/
def cellsI (l : List Int) : List Value := l.map (.int .i64)
theorem cellsI_get {l : List Int} {i : Nat} (h : i < l.length) : (cellsI l)[i]? = some (.int .i64 (l.getD i 0)) := by
  unfold cellsI
  rw [List.getElem?_map, List.getElem?_eq_getElem h, getD_get _ _ _ h]; rfl
theorem cellsI_one (l : List Int) : ∀ u ∈ cellsI l, u.oneCell' = true := fun u hu => by
  unfold cellsI at hu
  rw [List.mem_map] at hu
  obtain ⟨x, _, rfl⟩ := hu
  rfl
/-- The numbers that a slice's cells hold. -/
def CellsI (w : World) (b off : Nat) (l : List Int) : Prop := ∀ i, i < l.length → w.cell? ⟨b, off + i, none⟩ = some (.int .i64 (l.getD i 0))
def ArgI (w : World) (a : Option Addr) (l : List Int) : Prop := 0 < l.length → ∃ b off, a = some ⟨b, off, none⟩ ∧ b < w.heap.size ∧ CellsI w b off l
theorem CellsI.below {w w' : World} {b off B : Nat} {l : List Int} (h : CellsI w b off l) (hb : Below B w w') (hB : b < B) : CellsI w' b off l := fun i hi => (hb.cell (p := ⟨b, _, none⟩) hB).trans (h i hi)
theorem ArgI.past {w w' : World} {a : Option Addr} {l : List Int} (h : ArgI w a l) (hb : Below w.heap.size w w') : ArgI w' a l := fun hl => by
  obtain ⟨b, off, e, h1, h2⟩ := h hl
  exact ⟨b, off, e, Nat.lt_of_lt_of_le h1 hb.size, h2.below hb h1⟩
def SliI (w : World) (v : Value) (l : List Int) : Prop := ∃ (a : Option Addr) (cap : Nat), v = .slice a l.length cap ∧ l.length ≤ cap ∧ cap ≤ 9223372036854775807 ∧ ArgI w a l
theorem sliI_own {w : World} {base : Nat} {e : TypeId} {v : Value} {l : List Int} (h : w.ownsRow base e 1 v l.length (cellsI l)) : SliI w v l := by
  obtain ⟨h1, h2 | ⟨g, cap, cur, rfl, h3, h4, h5, h6, h7, h8⟩⟩ := h
  · obtain ⟨rfl, h2⟩ := h2
    have : l = [] := List.eq_nil_of_length_eq_zero h2
    subst this
    exact ⟨none, 0, rfl, Nat.le_refl _, by omega, fun h => by simp at h⟩
  · refine ⟨some ⟨g, 0, none⟩, cap, rfl, h5, by unfold maxLen at h6; omega, fun _ => ⟨g, 0, rfl, lt_of_block h4, fun i hi => ?_⟩⟩
    have hg := cellsI_get hi
    have e : w.cell? ⟨g, 0 + i, none⟩ = cur[i]? := by simp [World.cell?, h4]
    rw [e, ← Array.getElem?_toList]
    rw [← h8, List.getElem?_take, if_pos (by omega)] at hg
    exact hg
end Go.Proofs.YthlepbbdjmmelaaGreat

namespace Go.Proofs.YthlepbbdjmmelaaGreat
open Go.ChangeShapes Go.WideShapes Go.ChangeAt Go.RowKit
attribute [local irreducible] Go.Calls

set_option maxHeartbeats 1000000 in
theorem rwhen_c (l : List Sg) (a : Option Addr) (cap : Nat) (w : World) (hl : l.length ≤ 1099511627776) (hA : ArgS w a l) :
    Calls Tryz.prog 117 #[.slice a l.length cap] w (RetV w fun v w' => w'.ownsRow w.heap.size 2 1 v l.length (cellsI (l.map (·.1)))) := by
  have HA := hidE hA; clear hA
  obtain ⟨i0, hi, hz0, hz1, hz2⟩ := info_parts Tryz.infoI64
  have HI := hidE hi; have HZ0 := hidE hz0; have HZ1 := hidE hz1; have HZ2 := hidE hz2
  clear hi hz0 hz1 hz2
  go_enter Tryz.func117, Tryz.ntmps117
  go_wp2
  go_loopg [3, 4] l.length (fun g vf vi wr => ∃ (k : Nat) (v : Value), v = vf ∧ k ≤ l.length ∧ l.length - k ≤ g ∧ vi = .int .i64 k ∧ Below w.heap.size w wr ∧ wr.ownsRow w.heap.size 2 1 v k (cellsI ((l.take k).map (·.1))))
  case atStart => exact ⟨0, .slice none 0 0, rfl, Nat.zero_le _, by omega, rfl, Below.refl _ _, ⟨rfl, .inl ⟨rfl, rfl⟩⟩⟩
  case round =>
    obtain ⟨k, v, rfl, hk, hg, rfl, hb, ho⟩ := hrel
    have HB := hidE hb; have HO := hidE ho; clear hb ho
    by_cases hlt : k < l.length
    · obtain ⟨b, off, rfl, hbb, hc⟩ := (HA.out.past HB.out) (by omega)
      obtain ⟨d0, d1, d2⟩ := hc.get hlt
      have HS := hidE (show cellsI ((l.take (k + 1)).map (·.1)) = cellsI ((l.take k).map (·.1)) ++ [.int .i64 (ats l k)] by
        rw [List.take_succ_eq_append_getElem hlt]
        unfold cellsI ats
        rw [getD_get _ _ _ hlt, List.map_append, List.map_append]; rfl)
      have hsz := HB.out.size
      clear hc d1 d2
      generalize ats l k = u at *
      go_wp2_with (at_builtin; refine wpList_append_own _ rfl (.tmp 11) (.tmp 17) 59 rfl w.heap.size 2 i0 (.int .i64 0) 1 8 Tryz.underlying59 HI.out HZ0.out HZ1.out HZ2.out rfl (by decide) _ _ _ rfl (HO.out.alloc _) ⟨wr.heap.size, 0, none⟩ 1 1 [.int .i64 u] rfl rfl (new_cells wr #[.int .i64 u] 2) (by intro x hx; simp at hx; rcases hx with rfl; rfl) (by unfold maxLen; omega) (by omega) (by simp; omega) ?_; intro v' w4 hown4 hgrow4 _)
      have p4 : Below w.heap.size w w4 := Below.grown (HB.out.alloc hsz (.cells #[.int .i64 u] 2)) hgrow4 (by simp; omega) (fun k hk => own_block HO.out hk)
      rw [← HS.out] at hown4
      have P4 := hidE p4; have PO := hidE hown4
      clear p4 hown4 hgrow4 d0
      go_wp2
      go_roundg (l.length - (k + 1))
      case measure => omega
      case rel => exact ⟨k + 1, v', rfl, by omega, Nat.le_refl _, by go_num, P4.out, PO.out⟩
    · have hk' : k = l.length := by omega
      subst hk'
      have ho := HO.out
      rw [List.take_length] at ho
      have HO2 := hidE ho; clear ho HO
      go_wp2
      go_ret
      exact ⟨_, rfl, HO2.out, HB.out⟩

theorem new_cells_at (w : World) (cs : Array Value) (t : TypeId) (k : Nat) (h : k = w.heap.size) : ∀ j u, cs.toList[j]? = some u → (w.alloc (.cells cs t)).cell? ((⟨k, 0, none⟩ : Addr).add j) = some u := by
  subst h; exact new_cells w cs t
def WithPost (w : World) (B : Nat) (v0 : Value) (f : List Sg) (e : Ending) (w' : World) : Prop :=
  ∃ v' : Value, e = .returned v' ∧ w'.ownsRow B 112 3 v' f.length (cellsOfS f) ∧ w.grownBy w' v0.ownBlock
theorem own_past {w w' : World} {B : Nat} {e : TypeId} {sz : Nat} {v : Value} {n : Nat} {xs : List Value} (h : w.ownsRow B e sz v n xs) (hb : Below w.heap.size w w') : w'.ownsRow B e sz v n xs := own_below h hb

set_option maxHeartbeats 1000000 in
set_option maxRecDepth 100000 in
theorem rwith_c (f : List Sg) (v0 : Value) (B : Nat) (t m c : Int) (w : World) (hB : B ≤ w.heap.size) (hl : f.length ≤ 1099511627776) (ho : w.ownsRow B 112 3 v0 f.length (cellsOfS f)) :
    Calls Tryz.prog 92 #[v0, .int .i64 t, V m c] w (WithPost w B v0 (withL f t (m, c))) := by
  obtain ⟨a, cap, rfl, hlc, hcap, hA⟩ := sliS_own ho
  have HO := hidE ho; have HA := hidE hA
  clear ho hA
  obtain ⟨i0, hi, hz0, hz1, hz2⟩ := info_parts Tryz.infoSeg
  have HI := hidE hi; have HZ0 := hidE hz0; have HZ1 := hidE hz1; have HZ2 := hidE hz2
  clear hi hz0 hz1 hz2
  have app : ∀ (wx : World), Below w.heap.size w wx → Hid (wx.ownsRow B 112 3 (.slice a f.length cap) f.length (cellsOfS f) ∧ B ≤ wx.heap.size) := fun wx hb => ⟨own_past HO.out hb, Nat.le_trans hB hb.size⟩
  have APP := hidE app; clear app
  have HCS := hidE (show cellsOfS (f ++ [(t, (m, c))]) = cellsOfS f ++ [.int .i64 t, .int .i64 m, .int .i64 c] from cellsOfS_app _ _)
  have hlen1 : (f ++ [(t, (m, c))]).length = f.length + 1 := by simp
  have HL1 := hidE hlen1; clear hlen1
  by_cases h0 : f.length = 0
  · have hlast : lastV f = (0, 0) := by unfold lastV; rw [if_pos h0]
    have hd : decide ((0 : Int) < (f.length : Int)) = false := decide_eq_false (by omega)
    have hd' : ¬ (0 : Int) < (f.length : Int) := by omega
    have hd2 : ¬ 0 < f.length := by omega
    by_cases hv : (m, c) = ((0, 0) : Int × Int)
    · have HF := hidE (show withL f t (m, c) = f by unfold withL; rw [hlast, if_pos hv])
      obtain ⟨rfl, rfl⟩ : m = 0 ∧ c = 0 := by simpa using hv
      clear hv hlast h0
      go_enter Tryz.func92, Tryz.ntmps92
      go_wp2
      go_ret
      exact ⟨_, rfl, by rw [HF.out]; exact own_past HO.out (by (repeat (first | exact Below.refl _ _ | assumption | refine balloc ?_ _ | refine below_drewN ?_ _ | refine bstep (by assumption) ?_ | refine bstep (Past.prop _) ?_ | refine Below.setCell ?_ (by first | exact Nat.le_refl _ | (simp; done) | (simp; omega)) _))), grown_any (by (repeat (first | exact Below.refl _ _ | assumption | refine balloc ?_ _ | refine below_drewN ?_ _ | refine bstep (by assumption) ?_ | refine bstep (Past.prop _) ?_ | refine Below.setCell ?_ (by first | exact Nat.le_refl _ | (simp; done) | (simp; omega)) _)))⟩
    · have HF := hidE (show withL f t (m, c) = f ++ [(t, (m, c))] by unfold withL; rw [hlast, if_neg hv])
      have hmc : ((m == 0) && (c == 0)) = false := by
        rw [Bool.eq_false_iff]; intro h; simp at h; exact hv (by rw [h.1, h.2])
      clear hv hlast h0
      cases hm : (m == 0)
      rotate_left
      · have hc : (c == 0) = false := by rw [hm] at hmc; simpa using hmc
        clear hmc
        go_enter Tryz.func92, Tryz.ntmps92
        go_wp2_with (at_builtin; go_loud (refine wpList_append_own _ rfl (.tmp 23) (.tmp 27) 22 rfl B 112 i0 (.agg #[.int .i64 0, .int .i64 0, .int .i64 0]) 3 24 Tryz.underlying22 HI.out HZ0.out HZ1.out HZ2.out rfl (by decide) _ _ _ rfl (APP.out _ (by (repeat (first | exact Below.refl _ _ | assumption | refine balloc ?_ _ | refine below_drewN ?_ _ | refine bstep (by assumption) ?_ | refine bstep (Past.prop _) ?_ | refine Below.setCell ?_ (by first | exact Nat.le_refl _ | (simp; done) | (simp; omega)) _)))).out.1 ⟨_, 0, none⟩ 1 1 [.int .i64 t, .int .i64 m, .int .i64 c] rfl rfl (new_cells_at _ #[.int .i64 t, .int .i64 m, .int .i64 c] 112 _ (by simp)) (by intro x hx; simp at hx; rcases hx with rfl | rfl | rfl <;> rfl) (by unfold maxLen; omega) (by omega) (by simp; omega) ?_; intro v' w4 hown4 hgrow4 _))
        rw [← HCS.out, ← HL1.out] at hown4
        have HO4 := hidE hown4; have HG4 := hidE (grown_trans (grown_any (show Below w.heap.size w _ by (repeat (first | exact Below.refl _ _ | assumption | refine balloc ?_ _ | refine below_drewN ?_ _ | refine bstep (by assumption) ?_ | refine bstep (Past.prop _) ?_ | refine Below.setCell ?_ (by first | exact Nat.le_refl _ | (simp; done) | (simp; omega)) _)))) hgrow4)
        clear hown4 hgrow4
        go_wp2
        go_ret
        exact ⟨_, rfl, by rw [HF.out]; exact HO4.out, HG4.out⟩
      · clear hmc
        go_enter Tryz.func92, Tryz.ntmps92
        go_wp2_with (at_builtin; refine wpList_append_own _ rfl (.tmp 23) (.tmp 27) 22 rfl B 112 i0 (.agg #[.int .i64 0, .int .i64 0, .int .i64 0]) 3 24 Tryz.underlying22 HI.out HZ0.out HZ1.out HZ2.out rfl (by decide) _ _ _ rfl (APP.out _ (by (repeat (first | exact Below.refl _ _ | assumption | refine balloc ?_ _ | refine below_drewN ?_ _ | refine bstep (by assumption) ?_ | refine bstep (Past.prop _) ?_ | refine Below.setCell ?_ (by first | exact Nat.le_refl _ | (simp; done) | (simp; omega)) _)))).out.1 ⟨_, 0, none⟩ 1 1 [.int .i64 t, .int .i64 m, .int .i64 c] rfl rfl (new_cells_at _ #[.int .i64 t, .int .i64 m, .int .i64 c] 112 _ (by simp)) (by intro x hx; simp at hx; rcases hx with rfl | rfl | rfl <;> rfl) (by unfold maxLen; omega) (by omega) (by simp; omega) ?_; intro v' w4 hown4 hgrow4 _)
        rw [← HCS.out, ← HL1.out] at hown4
        have HO4 := hidE hown4; have HG4 := hidE (grown_trans (grown_any (show Below w.heap.size w _ by (repeat (first | exact Below.refl _ _ | assumption | refine balloc ?_ _ | refine below_drewN ?_ _ | refine bstep (by assumption) ?_ | refine bstep (Past.prop _) ?_ | refine Below.setCell ?_ (by first | exact Nat.le_refl _ | (simp; done) | (simp; omega)) _)))) hgrow4)
        clear hown4 hgrow4
        go_wp2
        go_ret
        exact ⟨_, rfl, by rw [HF.out]; exact HO4.out, HG4.out⟩
  · obtain ⟨k, hk⟩ : ∃ k, f.length = k + 1 := ⟨f.length - 1, by omega⟩
    have hlast : lastV f = vls f k := by unfold lastV; rw [if_neg h0, hk, Nat.add_sub_cancel]
    obtain ⟨b, off, rfl, hb, hc⟩ := HA.out (by omega)
    obtain ⟨d0, d1, d2⟩ := hc.get (i := k) (by omega)
    have hd : decide ((0 : Int) < (f.length : Int)) = true := decide_eq_true (by omega)
    have hkz : (f.length : Int) - 1 = (k : Int) := by omega
    have hkl : k < f.length := by omega
    have HKZ := hidE hkz
    have hn1 : b ≠ w.heap.size := by omega
    have hn2 : b ≠ w.heap.size + 1 := by omega
    clear hc hk h0 hkz d0
    by_cases hv : (m, c) = vls f k
    · have HF := hidE (show withL f t (m, c) = f by unfold withL; rw [hlast, if_pos hv])
      rw [← hv] at d1 d2
      clear hv hlast
      go_enter Tryz.func92, Tryz.ntmps92
      go_upto_region 3 with fail
      have hkz := HKZ.out
      go_wp2
      go_ret
      exact ⟨_, rfl, by rw [HF.out]; exact own_past HO.out (by (repeat (first | exact Below.refl _ _ | assumption | refine balloc ?_ _ | refine below_drewN ?_ _ | refine bstep (by assumption) ?_ | refine bstep (Past.prop _) ?_ | refine Below.setCell ?_ (by first | exact Nat.le_refl _ | (simp; done) | (simp; omega)) _))), grown_any (by (repeat (first | exact Below.refl _ _ | assumption | refine balloc ?_ _ | refine below_drewN ?_ _ | refine bstep (by assumption) ?_ | refine bstep (Past.prop _) ?_ | refine Below.setCell ?_ (by first | exact Nat.le_refl _ | (simp; done) | (simp; omega)) _)))⟩
    · have HF := hidE (show withL f t (m, c) = f ++ [(t, (m, c))] by unfold withL; rw [hlast, if_neg hv])
      have hmc : ((m == (vls f k).1) && (c == (vls f k).2)) = false := by
        rw [Bool.eq_false_iff]; intro h; simp at h; exact hv (Prod.ext h.1 h.2)
      clear hv hlast
      generalize vls f k = q at *
      cases hm : (m == q.1)
      rotate_left
      · have hc : (c == q.2) = false := by rw [hm] at hmc; simpa using hmc
        clear hmc
        go_enter Tryz.func92, Tryz.ntmps92
        go_upto_region 3 with fail
        have hkz := HKZ.out
        go_wp2_with (at_builtin; refine wpList_append_own _ rfl (.tmp 23) (.tmp 27) 22 rfl B 112 i0 (.agg #[.int .i64 0, .int .i64 0, .int .i64 0]) 3 24 Tryz.underlying22 HI.out HZ0.out HZ1.out HZ2.out rfl (by decide) _ _ _ rfl (APP.out _ (by (repeat (first | exact Below.refl _ _ | assumption | refine balloc ?_ _ | refine below_drewN ?_ _ | refine bstep (by assumption) ?_ | refine bstep (Past.prop _) ?_ | refine Below.setCell ?_ (by first | exact Nat.le_refl _ | (simp; done) | (simp; omega)) _)))).out.1 ⟨_, 0, none⟩ 1 1 [.int .i64 t, .int .i64 m, .int .i64 c] rfl rfl (new_cells_at _ #[.int .i64 t, .int .i64 m, .int .i64 c] 112 _ (by simp)) (by intro x hx; simp at hx; rcases hx with rfl | rfl | rfl <;> rfl) (by unfold maxLen; omega) (by omega) (by simp; omega) ?_; intro v' w4 hown4 hgrow4 _)
        rw [← HCS.out, ← HL1.out] at hown4
        have HO4 := hidE hown4; have HG4 := hidE (grown_trans (grown_any (show Below w.heap.size w _ by (repeat (first | exact Below.refl _ _ | assumption | refine balloc ?_ _ | refine below_drewN ?_ _ | refine bstep (by assumption) ?_ | refine bstep (Past.prop _) ?_ | refine Below.setCell ?_ (by first | exact Nat.le_refl _ | (simp; done) | (simp; omega)) _)))) hgrow4)
        clear hown4 hgrow4
        go_wp2
        go_ret
        exact ⟨_, rfl, by rw [HF.out]; exact HO4.out, HG4.out⟩
      · clear hmc
        go_enter Tryz.func92, Tryz.ntmps92
        go_upto_region 3 with fail
        have hkz := HKZ.out
        go_wp2_with (at_builtin; refine wpList_append_own _ rfl (.tmp 23) (.tmp 27) 22 rfl B 112 i0 (.agg #[.int .i64 0, .int .i64 0, .int .i64 0]) 3 24 Tryz.underlying22 HI.out HZ0.out HZ1.out HZ2.out rfl (by decide) _ _ _ rfl (APP.out _ (by (repeat (first | exact Below.refl _ _ | assumption | refine balloc ?_ _ | refine below_drewN ?_ _ | refine bstep (by assumption) ?_ | refine bstep (Past.prop _) ?_ | refine Below.setCell ?_ (by first | exact Nat.le_refl _ | (simp; done) | (simp; omega)) _)))).out.1 ⟨_, 0, none⟩ 1 1 [.int .i64 t, .int .i64 m, .int .i64 c] rfl rfl (new_cells_at _ #[.int .i64 t, .int .i64 m, .int .i64 c] 112 _ (by simp)) (by intro x hx; simp at hx; rcases hx with rfl | rfl | rfl <;> rfl) (by unfold maxLen; omega) (by omega) (by simp; omega) ?_; intro v' w4 hown4 hgrow4 _)
        rw [← HCS.out, ← HL1.out] at hown4
        have HO4 := hidE hown4; have HG4 := hidE (grown_trans (grown_any (show Below w.heap.size w _ by (repeat (first | exact Below.refl _ _ | assumption | refine balloc ?_ _ | refine below_drewN ?_ _ | refine bstep (by assumption) ?_ | refine bstep (Past.prop _) ?_ | refine Below.setCell ?_ (by first | exact Nat.le_refl _ | (simp; done) | (simp; omega)) _)))) hgrow4)
        clear hown4 hgrow4
        go_wp2
        go_ret
        exact ⟨_, rfl, by rw [HF.out]; exact HO4.out, HG4.out⟩
end Go.Proofs.YthlepbbdjmmelaaGreat

namespace Go.Proofs.YthlepbbdjmmelaaGreat
open Go.ChangeShapes Go.WideShapes Go.ChangeAt Go.RowKit
attribute [local irreducible] Go.Calls

/-- A slice whose cells are the list's, nil too. -/
def SrcI (w : World) (v : Value) (l : List Int) : Prop := ∃ (a : Option Addr) (cap : Nat), v = .slice a l.length cap ∧ (a = none → l = [] ∧ cap = 0) ∧ ∀ ad, a = some ad → ∀ j u, (cellsI l)[j]? = some u → w.cell? (ad.add j) = some u
theorem step_append_src {P : Program} {ops : Array Oper} {o : Oper} {a : Act} {w : World} {K : Act → World → Prop} {Q : Exit → Act → World → Prop} {E : Prop}
    (hg : o.guard = none) (s x : Operand) (t : TypeId) (hop : o.op = Op.call { callee := Callee.builtin Builtin.append, args := #[s, x], argTypes := #[t, t] })
    (base : Nat) (e : TypeId) (i : TypeInfo) (ht : P.underlying t = some (.slice e)) (hi : P.info? e = some i) (hz : i.zero = some (.int .i64 0)) (hsize : i.size = 1) (hby : i.bytes = 8)
    (v : Value) (n : Nat) (xs : List Value) (hs : a.eval s = v) (hown : w.ownsRow base e 1 v n xs)
    (vx : Value) (news : List Int) (hx : a.eval x = vx) (hsrc : SrcI w vx news)
    (h63 : n + news.length ≤ 1099511627776) (hbase : base ≤ w.heap.size)
    (h : ∀ v' w', w'.ownsRow base e 1 v' (n + news.length) (xs ++ cellsI news) → w.grownBy w' v.ownBlock → K (a.put o.dst v') w') :
    if Region.wanted o (yielded ops a.tmps) = true then Oper.wp P o a w K Q else E := by
  have hw : Region.wanted o (yielded ops a.tmps) = true := by simp [Region.wanted, hg]
  rw [if_pos hw]
  obtain ⟨ad, cap, rfl, hn, hc⟩ := hsrc
  cases ad with
  | none =>
    obtain ⟨rfl, rfl⟩ := hn rfl
    have hrun := run_append_owned_none (P := P) (w := w) base t o.type e i 1 ht hi v n xs hown
    have hK := h v w (by simpa [cellsI] using hown) ⟨rfl, rfl, rfl, Nat.le_refl _, fun _ _ _ => rfl⟩
    unfold Oper.wp
    simp [execOp, hop, resolve, invoke, builtin, hs, hx, hrun, Result.andThen]
    exact hK
  | some ad =>
    exact wp_append_own w s x t hop base e i (.int .i64 0) 1 8 ht hi hz hsize hby rfl (by decide) v n xs hs hown ad news.length cap (cellsI news) hx (by simp [cellsI]) (hc ad rfl) (cellsI_one news) (by unfold maxLen; omega) (by omega) hbase fun v' w' h1 h2 _ => h v' w' h1 h2

/-- The same, told for rows that lie from a world's end on. -/
theorem step_app {P : Program} {ops : Array Oper} {o : Oper} {a : Act} {w : World} {K : Act → World → Prop} {Q : Exit → Act → World → Prop} {E : Prop}
    (hg : o.guard = none) (s x : Operand) (t : TypeId) (hop : o.op = Op.call { callee := Callee.builtin Builtin.append, args := #[s, x], argTypes := #[t, t] })
    (W0 : World) (e : TypeId) (i : TypeInfo) (ht : P.underlying t = some (.slice e)) (hi : P.info? e = some i) (hz : i.zero = some (.int .i64 0)) (hsize : i.size = 1) (hby : i.bytes = 8)
    (v : Value) (n : Nat) (xs : List Value) (hs : a.eval s = v) (hown : w.ownsRow W0.heap.size e 1 v n xs)
    (vx : Value) (news : List Int) (hx : a.eval x = vx) (hsrc : SrcI w vx news)
    (h63 : n + news.length ≤ 1099511627776) (hb : Below W0.heap.size W0 w)
    (h : ∀ v' w', w'.ownsRow W0.heap.size e 1 v' (n + news.length) (xs ++ cellsI news) → Below W0.heap.size W0 w' → (∀ k cs t, Blk w k cs t → v.ownBlock ≠ some k → Blk w' k cs t) → K (a.put o.dst v') w') :
    if Region.wanted o (yielded ops a.tmps) = true then Oper.wp P o a w K Q else E :=
  step_append_src hg s x t hop W0.heap.size e i ht hi hz hsize hby v n xs hs hown vx news hx hsrc h63 hb.size fun v' w' h1 h2 =>
    h v' w' h1 (hb.grown h2 hb.size (fun _k hk => own_block hown hk)) (fun _k _cs _t hB hne => hB.grown h2 (fun e => hne e.symm))
theorem own_empty {w : World} {p base : Nat} {e : TypeId} (hB : Blk w p #[] e) (hp : base ≤ p) : w.ownsRow base e 1 (.slice (some ⟨p, 0, none⟩) 0 0) 0 [] :=
  ⟨rfl, .inr ⟨p, 0, #[], rfl, hp, hB, Nat.le_refl _, Nat.zero_le _, rfl, rfl⟩⟩
theorem own_low {w : World} {B B' : Nat} {e : TypeId} {sz : Nat} {v : Value} {n : Nat} {xs : List Value} (h : w.ownsRow B e sz v n xs) (hB : B' ≤ B) : w.ownsRow B' e sz v n xs := by
  obtain ⟨h1, h2 | ⟨g, cap, cur, h3, h4, h5⟩⟩ := h
  · exact ⟨h1, .inl h2⟩
  · exact ⟨h1, .inr ⟨g, cap, cur, h3, Nat.le_trans hB h4, h5⟩⟩
theorem src_one {w : World} {p : Nat} {x : Int} {t : TypeId} (hB : Blk w p #[.int .i64 x] t) : SrcI w (.slice (some ⟨p, 0, none⟩) 1 1) [x] := by
  refine ⟨some ⟨p, 0, none⟩, 1, rfl, (fun h => by cases h), fun ad had j u hj => ?_⟩
  cases had
  have hj0 : j = 0 := by
    have := (List.getElem?_eq_some_iff.1 hj).1
    simp [cellsI] at this; exact this
  subst hj0
  have e : ((⟨p, 0, none⟩ : Addr).add 0) = ⟨p, 0, none⟩ := by simp [Addr.add]
  rw [e, hB.cell 0, ← hj]; rfl
theorem src_nil (w : World) : SrcI w (.slice none 0 0) [] := ⟨none, 0, rfl, fun _ => ⟨rfl, rfl⟩, fun _ h => by cases h⟩
theorem cellsI_app (l r : List Int) : cellsI (l ++ r) = cellsI l ++ cellsI r := by unfold cellsI; rw [List.map_append]

theorem own_fin {w : World} {B : Nat} {e : TypeId} {v : Value} {o : List Int} {x : Int} {j : Nat} (h : w.ownsRow B e 1 v (0 + (o.take j).length + [x].length + (o.drop j).length) ([] ++ cellsI (o.take j) ++ cellsI [x] ++ cellsI (o.drop j))) (hins : insT x o = o.take j ++ x :: o.drop j) :
    w.ownsRow B e 1 v (insT x o).length (cellsI (insT x o)) := by
  have e1 : (insT x o).length = 0 + (o.take j).length + [x].length + (o.drop j).length := by rw [hins]; simp; omega
  have e2 : cellsI (insT x o) = [] ++ cellsI (o.take j) ++ cellsI [x] ++ cellsI (o.drop j) := by
    rw [hins, show o.take j ++ x :: o.drop j = o.take j ++ ([x] ++ o.drop j) from rfl, cellsI_app, cellsI_app, List.nil_append, List.append_assoc]
  rw [e1, e2]; exact h
/-- Pieces of a row read as slices. -/
theorem src_take {w : World} {g cap j n : Nat} {o : List Int} (hc : ∀ i, i < o.length → w.cell? ⟨g, i, none⟩ = some (.int .i64 (o.getD i 0))) (hj : j ≤ o.length) (hn : n = j) : SrcI w (.slice (some ⟨g, 0, none⟩) n cap) (o.take j) := by
  subst hn
  refine ⟨some ⟨g, 0, none⟩, cap, by simp [Nat.min_eq_left hj], (fun h => by cases h), fun ad had i u hu => ?_⟩
  cases had
  have hi := (List.getElem?_eq_some_iff.1 hu).1
  simp [cellsI] at hi
  have e : ((⟨g, 0, none⟩ : Addr).add i) = ⟨g, i, none⟩ := by
    unfold Addr.add
    by_cases c : i = 0
    · subst c; simp
    · simp [c]
  rw [e, hc i (by omega), ← hu]
  unfold cellsI
  rw [List.getElem?_map, List.getElem?_take, if_pos (by omega), List.getElem?_eq_getElem (by omega), getD_get _ _ _ (by omega)]; rfl
theorem src_drop {w : World} {g cap j n p : Nat} {o : List Int} (hc : ∀ i, i < o.length → w.cell? ⟨g, i, none⟩ = some (.int .i64 (o.getD i 0))) (hj : j ≤ o.length) (hn : n = o.length - j) (hp : p = j ∨ j = o.length) : SrcI w (.slice (some ⟨g, p, none⟩) n cap) (o.drop j) := by
  subst hn
  refine ⟨some ⟨g, p, none⟩, cap, by simp, (fun h => by cases h), fun ad had i u hu => ?_⟩
  cases had
  have hi := (List.getElem?_eq_some_iff.1 hu).1
  simp [cellsI] at hi
  have hpj : p = j := by omega
  subst hpj
  have e : ((⟨g, p, none⟩ : Addr).add i) = ⟨g, p + i, none⟩ := by
    unfold Addr.add
    by_cases c : i = 0
    · subst c; simp
    · simp [c]
  rw [e, hc (p + i) (by omega), ← hu]
  unfold cellsI
  rw [List.getElem?_map, List.getElem?_drop, List.getElem?_eq_getElem (by omega), getD_get _ _ _ (by omega)]; rfl
theorem own_cells {w : World} {g : Nat} {e : TypeId} {cur : Array Value} {o : List Int} (h : w.heap[g]? = some (.cells cur e (0, 0))) (ht : cur.toList.take (o.length * 1) = cellsI o) : ∀ i, i < o.length → w.cell? ⟨g, i, none⟩ = some (.int .i64 (o.getD i 0)) := fun i hi => by
  have hg := cellsI_get hi
  have e : w.cell? ⟨g, i, none⟩ = cur[i]? := by simp [World.cell?, h]
  rw [e, ← Array.getElem?_toList]
  rw [← ht, List.getElem?_take, if_pos (by omega)] at hg
  exact hg

set_option maxRecDepth 100000 in
set_option maxHeartbeats 8000000 in
theorem rtimes_c (l : List Int) (a : Option Addr) (cap : Nat) (w : World) (hl : l.length ≤ 1000000000) (hA : ArgI w a l) :
    Calls Tryz.prog 110 #[.slice a l.length cap] w (RetV w fun v w' => w'.ownsRow w.heap.size 2 1 v (timesL l).length (cellsI (timesL l))) := by
  have HA := hidE hA; clear hA
  obtain ⟨i0, hi, hz0, hz1, hz2⟩ := info_parts Tryz.infoI64
  have HI := hidE hi; have HZ0 := hidE hz0; have HZ1 := hidE hz1; have HZ2 := hidE hz2
  clear hi hz0 hz1 hz2
  go_enter Tryz.func110, Tryz.ntmps110
  go_wp2
  go_loopg [3, 4, 5] l.length (fun g vf vi _ wr => ∃ (k : Nat) (v : Value), v = vf ∧ k ≤ l.length ∧ l.length - k ≤ g ∧ vi = .int .i64 k ∧ Below w.heap.size w wr ∧ wr.ownsRow w.heap.size 2 1 v (timesL (l.take k)).length (cellsI (timesL (l.take k))))
  case atStart => exact ⟨0, .slice none 0 0, rfl, Nat.zero_le _, by omega, rfl, Below.refl _ _, ⟨rfl, .inl ⟨rfl, rfl⟩⟩⟩
  case round =>
    obtain ⟨k, v, rfl, hk, hg, rfl, hb, ho⟩ := hrel
    have HB := hidE hb; have HO := hidE ho; clear hb ho
    by_cases hlt : k < l.length
    · obtain ⟨b, off, rfl, hbb, hc⟩ := (HA.out.past HB.out) (by omega)
      have d0 := hc k hlt
      have HT := hidE (timesL_step hlt)
      have htl := timesL_len (l.take k)
      rw [List.length_take] at htl
      generalize timesL (l.take k) = o at *
      generalize l.getD k 0 = x at *
      have hsz := HB.out.size
      have hho := HO.out
      obtain ⟨hol, ⟨rfl, ho0⟩ | ⟨g, co, cur, rfl, hgB, hgh, hlc, hcm, hcs, hct⟩⟩ := hho
      · have : o = [] := List.eq_nil_of_length_eq_zero ho0
        subst this
        have HR := hidE (show insT x [] = [x] from rfl)
        clear hc hol ho0
        obtain ⟨wo, rfl⟩ : ∃ wo : World, wo = wr := ⟨_, rfl⟩
        go_wp2_with fail
        go_loopg [5] 0 (fun g2 vj wr2 => vj = .int .i64 0 ∧ wr2 = wo)
        case atStart => exact ⟨rfl, rfl⟩
        case round =>
          obtain ⟨rfl, rfl⟩ := hrel
          go_wp2_with fail
          refine wp_region_past_lit (by kernel_rfl) (by kernel_rfl) ?_
          repeat (go_big_quiet_step (fail))
          refine wpQuiet_nil ?_
          rintro _ ⟨x', rfl⟩
          have o1 := own_below HO.out x'.2
          have o2 : Below w.heap.size w x'.1 := by have := HB.out; (repeat (first | exact Below.refl _ _ | assumption | refine balloc ?_ _ | refine below_drewN ?_ _ | refine bstep (by assumption) ?_ | refine bstep (Past.prop _) ?_ | refine Below.setCell ?_ (by first | exact Nat.le_refl _ | (simp; done) | (simp; omega)) _))
          have o3 : b < x'.1.heap.size := Nat.lt_of_lt_of_le hbb x'.2.size
          have o4 := (x'.2.cell (p := ⟨b, off + k, none⟩) hbb).trans d0
          clear HO HB d0 hbb
          generalize x'.1 = w5 at *
          go_wp2_with fail
          refine wp_region_past_lit (by kernel_rfl) (by kernel_rfl) ?_
          repeat (go_big_quiet_step (fail))
          refine wpQuiet_nil ?_
          rintro _ ⟨x', rfl⟩
          have o1 := own_below o1 x'.2
          have o2' : Below w.heap.size w x'.1 := by (repeat (first | exact Below.refl _ _ | assumption | refine balloc ?_ _ | refine below_drewN ?_ _ | refine bstep (by assumption) ?_ | refine bstep (Past.prop _) ?_ | refine Below.setCell ?_ (by first | exact Nat.le_refl _ | (simp; done) | (simp; omega)) _))
          have o4 := (x'.2.cell (p := ⟨b, off + k, none⟩) o3).trans o4
          have o3 : b < x'.1.heap.size := Nat.lt_of_lt_of_le o3 x'.2.size
          clear o2
          generalize x'.1 = w6 at *
          go_wp2_with fail
          have HS3 := hidE (fun (w' : World) (_ : Below w6.heap.size w6 w') => src_nil w')
          have HS1 := hidE (fun (w' : World) (_ : Below w6.heap.size w6 w') => src_nil w')
          have ho2 := hidE o2'
          go_region_law (first | (refine step_app rfl (.tmp 44) (.tmp 47) 59 rfl w6 2 i0 Tryz.underlying59 HI.out HZ0.out HZ1.out HZ2.out (.slice (some ⟨w6.heap.size, 0, none⟩) 0 0) 0 [] rfl (own_empty (p := w6.heap.size) ((Blk.made _ _ _).drew 1) (by omega)) _ _ rfl (HS1.out _ (by (repeat (first | exact Below.refl _ _ | assumption | refine balloc ?_ _ | refine below_drewN ?_ _ | refine bstep (by assumption) ?_ | refine bstep (Past.prop _) ?_ | refine Below.setCell ?_ (by first | exact Nat.le_refl _ | (simp; done) | (simp; omega)) _)))) (by (try simp only [List.length_nil]); omega) (by (repeat (first | exact Below.refl _ _ | assumption | refine balloc ?_ _ | refine below_drewN ?_ _ | refine bstep (by assumption) ?_ | refine bstep (Past.prop _) ?_ | refine Below.setCell ?_ (by first | exact Nat.le_refl _ | (simp; done) | (simp; omega)) _))) ?_; intro v1 w1 own1 hb1 keep1; have hcell1 := (hb1.cell (p := ⟨b, off + k, none⟩) o3).trans o4; have hsz1 := hb1.size) | (refine step_app rfl (.tmp 44) (.tmp 47) 59 rfl w6 2 i0 Tryz.underlying59 HI.out HZ0.out HZ1.out HZ2.out (.slice (some ⟨w6.heap.size, 0, none⟩) 0 0) 0 [] rfl (own_empty (p := w6.heap.size) (((Blk.made _ _ _).alloc _).drew 1) (by omega)) _ _ rfl (HS1.out _ (by (repeat (first | exact Below.refl _ _ | assumption | refine balloc ?_ _ | refine below_drewN ?_ _ | refine bstep (by assumption) ?_ | refine bstep (Past.prop _) ?_ | refine Below.setCell ?_ (by first | exact Nat.le_refl _ | (simp; done) | (simp; omega)) _)))) (by (try simp only [List.length_nil]); omega) (by (repeat (first | exact Below.refl _ _ | assumption | refine balloc ?_ _ | refine below_drewN ?_ _ | refine bstep (by assumption) ?_ | refine bstep (Past.prop _) ?_ | refine Below.setCell ?_ (by first | exact Nat.le_refl _ | (simp; done) | (simp; omega)) _))) ?_; intro v1 w1 own1 hb1 keep1; have hcell1 := (hb1.cell (p := ⟨b, off + k, none⟩) o3).trans o4; have hsz1 := hb1.size) | (refine step_app rfl (.tmp 44) (.tmp 47) 59 rfl w6 2 i0 Tryz.underlying59 HI.out HZ0.out HZ1.out HZ2.out (.slice (some ⟨w6.heap.size + 1, 0, none⟩) 0 0) 0 [] rfl (own_empty (p := w6.heap.size + 1) ((Blk.made_at _ _ _ _ (by simp)).drew 1) (by omega)) _ _ rfl (HS1.out _ (by (repeat (first | exact Below.refl _ _ | assumption | refine balloc ?_ _ | refine below_drewN ?_ _ | refine bstep (by assumption) ?_ | refine bstep (Past.prop _) ?_ | refine Below.setCell ?_ (by first | exact Nat.le_refl _ | (simp; done) | (simp; omega)) _)))) (by (try simp only [List.length_nil]); omega) (by (repeat (first | exact Below.refl _ _ | assumption | refine balloc ?_ _ | refine below_drewN ?_ _ | refine bstep (by assumption) ?_ | refine bstep (Past.prop _) ?_ | refine Below.setCell ?_ (by first | exact Nat.le_refl _ | (simp; done) | (simp; omega)) _))) ?_; intro v1 w1 own1 hb1 keep1; have hcell1 := (hb1.cell (p := ⟨b, off + k, none⟩) o3).trans o4; have hsz1 := hb1.size) | (refine step_app rfl (.tmp 48) (.tmp 53) 59 rfl w6 2 i0 Tryz.underlying59 HI.out HZ0.out HZ1.out HZ2.out _ _ _ rfl (own1.alloc _) _ [x] rfl (src_one (Blk.made _ _ _)) (by (try simp only [List.length_cons, List.length_nil]); omega) (by (repeat (first | exact Below.refl _ _ | assumption | refine balloc ?_ _ | refine below_drewN ?_ _ | refine bstep (by assumption) ?_ | refine bstep (Past.prop _) ?_ | refine Below.setCell ?_ (by first | exact Nat.le_refl _ | (simp; done) | (simp; omega)) _))) ?_; intro v2 w2 own2 hb2 keep2) | (refine step_app rfl (.tmp 48) (.tmp 53) 59 rfl w6 2 i0 Tryz.underlying59 HI.out HZ0.out HZ1.out HZ2.out _ _ _ rfl (own1) _ [x] rfl (src_one (keep1 w6.heap.size _ _ (((Blk.made _ _ _).alloc _).drew 1) (by simp [Value.ownBlock]))) (by (try simp only [List.length_cons, List.length_nil]); omega) (by (repeat (first | exact Below.refl _ _ | assumption | refine balloc ?_ _ | refine below_drewN ?_ _ | refine bstep (by assumption) ?_ | refine bstep (Past.prop _) ?_ | refine Below.setCell ?_ (by first | exact Nat.le_refl _ | (simp; done) | (simp; omega)) _))) ?_; intro v2 w2 own2 hb2 keep2) | (refine step_app rfl (.tmp 48) (.tmp 53) 59 rfl w6 2 i0 Tryz.underlying59 HI.out HZ0.out HZ1.out HZ2.out _ _ _ rfl (own1) _ [x] rfl (src_one (keep1 (w6.heap.size + 1) _ _ ((Blk.made_at _ _ _ _ (by simp)).drew 1) (by simp [Value.ownBlock]))) (by (try simp only [List.length_cons, List.length_nil]); omega) (by (repeat (first | exact Below.refl _ _ | assumption | refine balloc ?_ _ | refine below_drewN ?_ _ | refine bstep (by assumption) ?_ | refine bstep (Past.prop _) ?_ | refine Below.setCell ?_ (by first | exact Nat.le_refl _ | (simp; done) | (simp; omega)) _))) ?_; intro v2 w2 own2 hb2 keep2) | (refine step_app rfl (.tmp 54) (.tmp 57) 59 rfl w6 2 i0 Tryz.underlying59 HI.out HZ0.out HZ1.out HZ2.out _ _ _ rfl own2 _ _ rfl (HS3.out _ (by (repeat (first | exact Below.refl _ _ | assumption | refine balloc ?_ _ | refine below_drewN ?_ _ | refine bstep (by assumption) ?_ | refine bstep (Past.prop _) ?_ | refine Below.setCell ?_ (by first | exact Nat.le_refl _ | (simp; done) | (simp; omega)) _)))) (by (try simp only [List.length_cons, List.length_nil]); omega) (by (repeat (first | exact Below.refl _ _ | assumption | refine balloc ?_ _ | refine below_drewN ?_ _ | refine bstep (by assumption) ?_ | refine bstep (Past.prop _) ?_ | refine Below.setCell ?_ (by first | exact Nat.le_refl _ | (simp; done) | (simp; omega)) _))) ?_; intro v3 w3 own3 hb3 keep3))
          all_goals
            go_wp2
            have hown3 := own_fin (o := []) (j := 0) own3 rfl
            rw [← HT.out] at hown3
            have HO3 := hidE (own_low hown3 o2'.size); have HB3 := hidE (o2'.trans (hb3.mono o2'.size))
            clear hown3
            go_roundg (l.length - (k + 1))
            case measure => omega
            case rel => exact ⟨k + 1, v3, rfl, by omega, Nat.le_refl _, by go_num, HB3.out, HO3.out⟩
      · have hcells := own_cells hgh hct
        have hglt : g < wr.heap.size := lt_of_block hgh
        have HC := hidE hcells
        clear hc hol hgh hct hcs hcells
        have hcm' : co ≤ 9223372036854775807 := hcm
        obtain ⟨wo, rfl⟩ : ∃ wo : World, wo = wr := ⟨_, rfl⟩
        go_wp2_with fail
        go_loopg [5] o.length (fun g2 vj wr2 => ∃ j : Nat, vj = .int .i64 j ∧ j ≤ o.length ∧ o.length - j ≤ g2 ∧ (∀ i, i < j → o.getD i 0 < x) ∧ Below wo.heap.size wo wr2)
        case atStart => exact ⟨0, rfl, Nat.zero_le _, by omega, fun i hi => by omega, Below.refl _ _⟩
        case round =>
          obtain ⟨j, rfl, hj, hg2, hj2, hbr⟩ := hrel
          have HJ := hidE hj2; have HBR := hidE hbr
          have d1 := (hbr.cell (p := ⟨b, off + k, none⟩) hbb).trans d0
          have hbb2 := Nat.lt_of_lt_of_le hbb hbr.size
          have hgl2 := Nat.lt_of_lt_of_le hglt hbr.size
          clear hj2 hbr
          by_cases hjl : j < o.length
          · have c0 := (HBR.out.cell (p := ⟨g, j, none⟩) hglt).trans (HC.out j hjl)
            have hjd : decide ((j : Int) < (o.length : Int)) = true := decide_eq_true (by omega)
            by_cases hjx : o.getD j 0 < x
            · have HJ2 := hidE (show ∀ i, i < j + 1 → o.getD i 0 < x from fun i hi => by
                by_cases e : i = j
                · rw [e]; exact hjx
                · exact HJ.out i (by omega))
              have hd : decide (o.getD j 0 < x) = true := decide_eq_true hjx
              clear hjx
              generalize o.getD j 0 = y at *
              go_wp2_with fail
              refine wp_region_past_lit (by kernel_rfl) (by kernel_rfl) ?_
              have hcp := Past.cell (W := wr)
              repeat (go_big_quiet_step (fail))
              refine wpQuiet_nil ?_
              rintro _ ⟨x', rfl⟩
              have o1 := bstep x'.2 HBR.out
              clear hcp d1 c0
              generalize x'.1 = w5 at *
              go_wp2
              go_roundg (o.length - (j + 1))
              case measure => omega
              case rel => exact ⟨j + 1, by go_num, by omega, Nat.le_refl _, HJ2.out, o1⟩
            · have hd : decide (o.getD j 0 < x) = false := decide_eq_false hjx
              have HI2 := hidE (insT_at (x := x) (o := o) (k := j) hj HJ.out (fun _ => hjx))
              by_cases hjq : o.getD j 0 = x
              · have HS := hidE (show insT x o = o by rw [HI2.out, if_pos ⟨hjl, hjq⟩])
                have hde : (o.getD j 0 == x) = true := beq_iff_eq.2 hjq
                clear hjx hjq HI2
                generalize o.getD j 0 = y at *
                go_wp2_with fail
                refine wp_region_past_lit (by kernel_rfl) (by kernel_rfl) ?_
                have hcp := Past.cell (W := wr)
                repeat (go_big_quiet_step (fail))
                refine wpQuiet_nil ?_
                rintro _ ⟨x', rfl⟩
                have o1 := bstep x'.2 HBR.out
                have e1 := (x'.2.cell (p := ⟨b, off + k, none⟩) hbb2).trans d1
                have e2 := (x'.2.cell (p := ⟨g, j, none⟩) hgl2).trans c0
                have hb5 := Nat.lt_of_lt_of_le hbb2 x'.2.size
                have hg5 := Nat.lt_of_lt_of_le hgl2 x'.2.size
                clear hcp d1 c0 HBR
                generalize x'.1 = w5 at *
                go_wp2_with fail
                refine wp_region_past_lit (by kernel_rfl) (by kernel_rfl) ?_
                have hcp := Past.cell (W := w5)
                repeat (go_big_quiet_step (fail))
                refine wpQuiet_nil ?_
                rintro _ ⟨x', rfl⟩
                have o1 := bstep x'.2 o1
                clear hcp e1 e2
                generalize x'.1 = w6 at *
                have HB6 := hidE (HB.out.trans (o1.mono hsz))
                have HO6 := hidE (show w6.ownsRow w.heap.size 2 1 (.slice (some ⟨g, 0, none⟩) o.length co) (timesL (l.take (k + 1))).length (cellsI (timesL (l.take (k + 1)))) by rw [HT.out, HS.out]; exact own_below HO.out o1)
                clear o1
                go_wp2
                go_roundg (l.length - (k + 1))
                case measure => omega
                case rel => exact ⟨k + 1, _, rfl, by omega, Nat.le_refl _, by go_num, HB6.out, HO6.out⟩
              · have HI3 := hidE (show insT x o = o.take j ++ x :: o.drop j by rw [HI2.out, if_neg (fun q => hjq q.2)])
                have hde : (o.getD j 0 == x) = false := beq_eq_false_iff_ne.2 hjq
                clear hjx hjq HI2 HJ
                generalize o.getD j 0 = y at *
                go_wp2_with fail
                refine wp_region_past_lit (by kernel_rfl) (by kernel_rfl) ?_
                have hcp := Past.cell (W := wr)
                repeat (go_big_quiet_step (fail))
                refine wpQuiet_nil ?_
                rintro _ ⟨x', rfl⟩
                have o1 := bstep x'.2 HBR.out
                have e1 := (x'.2.cell (p := ⟨b, off + k, none⟩) hbb2).trans d1
                have e2 := (x'.2.cell (p := ⟨g, j, none⟩) hgl2).trans c0
                have hb5 := Nat.lt_of_lt_of_le hbb2 x'.2.size
                have hg5 := Nat.lt_of_lt_of_le hgl2 x'.2.size
                clear hcp d1 HBR c0
                generalize x'.1 = w5 at *
                go_wp2_with fail
                refine wp_region_past_lit (by kernel_rfl) (by kernel_rfl) ?_
                have hcp := Past.cell (W := w5)
                repeat (go_big_quiet_step (fail))
                refine wpQuiet_nil ?_
                rintro _ ⟨x', rfl⟩
                have o1 := bstep x'.2 o1
                have o4 := (x'.2.cell (p := ⟨b, off + k, none⟩) hb5).trans e1
                have o3 := Nat.lt_of_lt_of_le hb5 x'.2.size
                have hg6 := Nat.lt_of_lt_of_le hg5 x'.2.size
                clear hcp e1 hb5 hg5 e2
                generalize x'.1 = w6 at *
                have o2' := HB.out.trans (o1.mono hsz)
                have HCW := hidE (fun (w' : World) (hw' : Below w6.heap.size w6 w') (i : Nat) (hi : i < o.length) => ((bstep hw' o1).cell (p := ⟨g, i, none⟩) hglt).trans (HC.out i hi))
                have HS1 := hidE (fun (n : Nat) (hn : n = j) (w' : World) (hw' : Below w6.heap.size w6 w') => src_take (cap := co) (n := n) (HCW.out w' hw') hj hn)
                have HS3 := hidE (fun (n p c : Nat) (hn : n = o.length - j) (hp : p = j ∨ j = o.length) (w' : World) (hw' : Below w6.heap.size w6 w') => src_drop (cap := c) (n := n) (p := p) (HCW.out w' hw') hj hn hp)
                clear HC HO HB d0 o1
                have hjco : j ≤ co := by omega
                have hjcz : (j : Int) ≤ (co : Int) := by omega
                by_cases hjc : j = co
                · subst hjc
                  go_wp2_with fail
                  go_region_law (first | (refine step_app rfl (.tmp 44) (.tmp 47) 59 rfl w6 2 i0 Tryz.underlying59 HI.out HZ0.out HZ1.out HZ2.out (.slice (some ⟨w6.heap.size, 0, none⟩) 0 0) 0 [] rfl (own_empty (p := w6.heap.size) ((Blk.made _ _ _).drew 1) (by omega)) _ _ rfl (HS1.out _ (by omega) _ (by (repeat (first | exact Below.refl _ _ | assumption | refine balloc ?_ _ | refine below_drewN ?_ _ | refine bstep (by assumption) ?_ | refine bstep (Past.prop _) ?_ | refine Below.setCell ?_ (by first | exact Nat.le_refl _ | (simp; done) | (simp; omega)) _)))) (by (try simp only [List.length_take]); omega) (by (repeat (first | exact Below.refl _ _ | assumption | refine balloc ?_ _ | refine below_drewN ?_ _ | refine bstep (by assumption) ?_ | refine bstep (Past.prop _) ?_ | refine Below.setCell ?_ (by first | exact Nat.le_refl _ | (simp; done) | (simp; omega)) _))) ?_; intro v1 w1 own1 hb1 keep1; have hcell1 := (hb1.cell (p := ⟨b, off + k, none⟩) o3).trans o4; have hsz1 := hb1.size) | (refine step_app rfl (.tmp 44) (.tmp 47) 59 rfl w6 2 i0 Tryz.underlying59 HI.out HZ0.out HZ1.out HZ2.out (.slice (some ⟨w6.heap.size, 0, none⟩) 0 0) 0 [] rfl (own_empty (p := w6.heap.size) (((Blk.made _ _ _).alloc _).drew 1) (by omega)) _ _ rfl (HS1.out _ (by omega) _ (by (repeat (first | exact Below.refl _ _ | assumption | refine balloc ?_ _ | refine below_drewN ?_ _ | refine bstep (by assumption) ?_ | refine bstep (Past.prop _) ?_ | refine Below.setCell ?_ (by first | exact Nat.le_refl _ | (simp; done) | (simp; omega)) _)))) (by (try simp only [List.length_take]); omega) (by (repeat (first | exact Below.refl _ _ | assumption | refine balloc ?_ _ | refine below_drewN ?_ _ | refine bstep (by assumption) ?_ | refine bstep (Past.prop _) ?_ | refine Below.setCell ?_ (by first | exact Nat.le_refl _ | (simp; done) | (simp; omega)) _))) ?_; intro v1 w1 own1 hb1 keep1; have hcell1 := (hb1.cell (p := ⟨b, off + k, none⟩) o3).trans o4; have hsz1 := hb1.size) | (refine step_app rfl (.tmp 44) (.tmp 47) 59 rfl w6 2 i0 Tryz.underlying59 HI.out HZ0.out HZ1.out HZ2.out (.slice (some ⟨w6.heap.size + 1, 0, none⟩) 0 0) 0 [] rfl (own_empty (p := w6.heap.size + 1) ((Blk.made_at _ _ _ _ (by simp)).drew 1) (by omega)) _ _ rfl (HS1.out _ (by omega) _ (by (repeat (first | exact Below.refl _ _ | assumption | refine balloc ?_ _ | refine below_drewN ?_ _ | refine bstep (by assumption) ?_ | refine bstep (Past.prop _) ?_ | refine Below.setCell ?_ (by first | exact Nat.le_refl _ | (simp; done) | (simp; omega)) _)))) (by (try simp only [List.length_take]); omega) (by (repeat (first | exact Below.refl _ _ | assumption | refine balloc ?_ _ | refine below_drewN ?_ _ | refine bstep (by assumption) ?_ | refine bstep (Past.prop _) ?_ | refine Below.setCell ?_ (by first | exact Nat.le_refl _ | (simp; done) | (simp; omega)) _))) ?_; intro v1 w1 own1 hb1 keep1; have hcell1 := (hb1.cell (p := ⟨b, off + k, none⟩) o3).trans o4; have hsz1 := hb1.size) | (refine step_app rfl (.tmp 48) (.tmp 53) 59 rfl w6 2 i0 Tryz.underlying59 HI.out HZ0.out HZ1.out HZ2.out _ _ _ rfl (own1.alloc _) _ [x] rfl (src_one (Blk.made _ _ _)) (by (try simp only [List.length_cons, List.length_nil, List.length_take]); omega) (by (repeat (first | exact Below.refl _ _ | assumption | refine balloc ?_ _ | refine below_drewN ?_ _ | refine bstep (by assumption) ?_ | refine bstep (Past.prop _) ?_ | refine Below.setCell ?_ (by first | exact Nat.le_refl _ | (simp; done) | (simp; omega)) _))) ?_; intro v2 w2 own2 hb2 keep2) | (refine step_app rfl (.tmp 48) (.tmp 53) 59 rfl w6 2 i0 Tryz.underlying59 HI.out HZ0.out HZ1.out HZ2.out _ _ _ rfl (own1) _ [x] rfl (src_one (keep1 w6.heap.size _ _ (((Blk.made _ _ _).alloc _).drew 1) (by simp [Value.ownBlock]))) (by (try simp only [List.length_cons, List.length_nil, List.length_take]); omega) (by (repeat (first | exact Below.refl _ _ | assumption | refine balloc ?_ _ | refine below_drewN ?_ _ | refine bstep (by assumption) ?_ | refine bstep (Past.prop _) ?_ | refine Below.setCell ?_ (by first | exact Nat.le_refl _ | (simp; done) | (simp; omega)) _))) ?_; intro v2 w2 own2 hb2 keep2) | (refine step_app rfl (.tmp 48) (.tmp 53) 59 rfl w6 2 i0 Tryz.underlying59 HI.out HZ0.out HZ1.out HZ2.out _ _ _ rfl (own1) _ [x] rfl (src_one (keep1 (w6.heap.size + 1) _ _ ((Blk.made_at _ _ _ _ (by simp)).drew 1) (by simp [Value.ownBlock]))) (by (try simp only [List.length_cons, List.length_nil, List.length_take]); omega) (by (repeat (first | exact Below.refl _ _ | assumption | refine balloc ?_ _ | refine below_drewN ?_ _ | refine bstep (by assumption) ?_ | refine bstep (Past.prop _) ?_ | refine Below.setCell ?_ (by first | exact Nat.le_refl _ | (simp; done) | (simp; omega)) _))) ?_; intro v2 w2 own2 hb2 keep2) | (refine step_app rfl (.tmp 54) (.tmp 57) 59 rfl w6 2 i0 Tryz.underlying59 HI.out HZ0.out HZ1.out HZ2.out _ _ _ rfl own2 _ _ rfl (HS3.out _ _ _ (by omega) (by omega) _ (by (repeat (first | exact Below.refl _ _ | assumption | refine balloc ?_ _ | refine below_drewN ?_ _ | refine bstep (by assumption) ?_ | refine bstep (Past.prop _) ?_ | refine Below.setCell ?_ (by first | exact Nat.le_refl _ | (simp; done) | (simp; omega)) _)))) (by (try simp only [List.length_cons, List.length_nil, List.length_take, List.length_drop]); omega) (by (repeat (first | exact Below.refl _ _ | assumption | refine balloc ?_ _ | refine below_drewN ?_ _ | refine bstep (by assumption) ?_ | refine bstep (Past.prop _) ?_ | refine Below.setCell ?_ (by first | exact Nat.le_refl _ | (simp; done) | (simp; omega)) _))) ?_; intro v3 w3 own3 hb3 keep3))
                  all_goals
                    go_wp2
                    have hown3 := own_fin own3 HI3.out
                    rw [← HT.out] at hown3
                    have HO3 := hidE (own_low hown3 o2'.size); have HB3 := hidE (o2'.trans (hb3.mono o2'.size))
                    clear hown3
                    go_roundg (l.length - (k + 1))
                    case measure => omega
                    case rel => exact ⟨k + 1, v3, rfl, by omega, Nat.le_refl _, by go_num, HB3.out, HO3.out⟩
                · have hjce : ¬ co = j := fun h => hjc h.symm
                  go_wp2_with fail
                  go_region_law (first | (refine step_app rfl (.tmp 44) (.tmp 47) 59 rfl w6 2 i0 Tryz.underlying59 HI.out HZ0.out HZ1.out HZ2.out (.slice (some ⟨w6.heap.size, 0, none⟩) 0 0) 0 [] rfl (own_empty (p := w6.heap.size) ((Blk.made _ _ _).drew 1) (by omega)) _ _ rfl (HS1.out _ (by omega) _ (by (repeat (first | exact Below.refl _ _ | assumption | refine balloc ?_ _ | refine below_drewN ?_ _ | refine bstep (by assumption) ?_ | refine bstep (Past.prop _) ?_ | refine Below.setCell ?_ (by first | exact Nat.le_refl _ | (simp; done) | (simp; omega)) _)))) (by (try simp only [List.length_take]); omega) (by (repeat (first | exact Below.refl _ _ | assumption | refine balloc ?_ _ | refine below_drewN ?_ _ | refine bstep (by assumption) ?_ | refine bstep (Past.prop _) ?_ | refine Below.setCell ?_ (by first | exact Nat.le_refl _ | (simp; done) | (simp; omega)) _))) ?_; intro v1 w1 own1 hb1 keep1; have hcell1 := (hb1.cell (p := ⟨b, off + k, none⟩) o3).trans o4; have hsz1 := hb1.size) | (refine step_app rfl (.tmp 44) (.tmp 47) 59 rfl w6 2 i0 Tryz.underlying59 HI.out HZ0.out HZ1.out HZ2.out (.slice (some ⟨w6.heap.size, 0, none⟩) 0 0) 0 [] rfl (own_empty (p := w6.heap.size) (((Blk.made _ _ _).alloc _).drew 1) (by omega)) _ _ rfl (HS1.out _ (by omega) _ (by (repeat (first | exact Below.refl _ _ | assumption | refine balloc ?_ _ | refine below_drewN ?_ _ | refine bstep (by assumption) ?_ | refine bstep (Past.prop _) ?_ | refine Below.setCell ?_ (by first | exact Nat.le_refl _ | (simp; done) | (simp; omega)) _)))) (by (try simp only [List.length_take]); omega) (by (repeat (first | exact Below.refl _ _ | assumption | refine balloc ?_ _ | refine below_drewN ?_ _ | refine bstep (by assumption) ?_ | refine bstep (Past.prop _) ?_ | refine Below.setCell ?_ (by first | exact Nat.le_refl _ | (simp; done) | (simp; omega)) _))) ?_; intro v1 w1 own1 hb1 keep1; have hcell1 := (hb1.cell (p := ⟨b, off + k, none⟩) o3).trans o4; have hsz1 := hb1.size) | (refine step_app rfl (.tmp 44) (.tmp 47) 59 rfl w6 2 i0 Tryz.underlying59 HI.out HZ0.out HZ1.out HZ2.out (.slice (some ⟨w6.heap.size + 1, 0, none⟩) 0 0) 0 [] rfl (own_empty (p := w6.heap.size + 1) ((Blk.made_at _ _ _ _ (by simp)).drew 1) (by omega)) _ _ rfl (HS1.out _ (by omega) _ (by (repeat (first | exact Below.refl _ _ | assumption | refine balloc ?_ _ | refine below_drewN ?_ _ | refine bstep (by assumption) ?_ | refine bstep (Past.prop _) ?_ | refine Below.setCell ?_ (by first | exact Nat.le_refl _ | (simp; done) | (simp; omega)) _)))) (by (try simp only [List.length_take]); omega) (by (repeat (first | exact Below.refl _ _ | assumption | refine balloc ?_ _ | refine below_drewN ?_ _ | refine bstep (by assumption) ?_ | refine bstep (Past.prop _) ?_ | refine Below.setCell ?_ (by first | exact Nat.le_refl _ | (simp; done) | (simp; omega)) _))) ?_; intro v1 w1 own1 hb1 keep1; have hcell1 := (hb1.cell (p := ⟨b, off + k, none⟩) o3).trans o4; have hsz1 := hb1.size) | (refine step_app rfl (.tmp 48) (.tmp 53) 59 rfl w6 2 i0 Tryz.underlying59 HI.out HZ0.out HZ1.out HZ2.out _ _ _ rfl (own1.alloc _) _ [x] rfl (src_one (Blk.made _ _ _)) (by (try simp only [List.length_cons, List.length_nil, List.length_take]); omega) (by (repeat (first | exact Below.refl _ _ | assumption | refine balloc ?_ _ | refine below_drewN ?_ _ | refine bstep (by assumption) ?_ | refine bstep (Past.prop _) ?_ | refine Below.setCell ?_ (by first | exact Nat.le_refl _ | (simp; done) | (simp; omega)) _))) ?_; intro v2 w2 own2 hb2 keep2) | (refine step_app rfl (.tmp 48) (.tmp 53) 59 rfl w6 2 i0 Tryz.underlying59 HI.out HZ0.out HZ1.out HZ2.out _ _ _ rfl (own1) _ [x] rfl (src_one (keep1 w6.heap.size _ _ (((Blk.made _ _ _).alloc _).drew 1) (by simp [Value.ownBlock]))) (by (try simp only [List.length_cons, List.length_nil, List.length_take]); omega) (by (repeat (first | exact Below.refl _ _ | assumption | refine balloc ?_ _ | refine below_drewN ?_ _ | refine bstep (by assumption) ?_ | refine bstep (Past.prop _) ?_ | refine Below.setCell ?_ (by first | exact Nat.le_refl _ | (simp; done) | (simp; omega)) _))) ?_; intro v2 w2 own2 hb2 keep2) | (refine step_app rfl (.tmp 48) (.tmp 53) 59 rfl w6 2 i0 Tryz.underlying59 HI.out HZ0.out HZ1.out HZ2.out _ _ _ rfl (own1) _ [x] rfl (src_one (keep1 (w6.heap.size + 1) _ _ ((Blk.made_at _ _ _ _ (by simp)).drew 1) (by simp [Value.ownBlock]))) (by (try simp only [List.length_cons, List.length_nil, List.length_take]); omega) (by (repeat (first | exact Below.refl _ _ | assumption | refine balloc ?_ _ | refine below_drewN ?_ _ | refine bstep (by assumption) ?_ | refine bstep (Past.prop _) ?_ | refine Below.setCell ?_ (by first | exact Nat.le_refl _ | (simp; done) | (simp; omega)) _))) ?_; intro v2 w2 own2 hb2 keep2) | (refine step_app rfl (.tmp 54) (.tmp 57) 59 rfl w6 2 i0 Tryz.underlying59 HI.out HZ0.out HZ1.out HZ2.out _ _ _ rfl own2 _ _ rfl (HS3.out _ _ _ (by omega) (by omega) _ (by (repeat (first | exact Below.refl _ _ | assumption | refine balloc ?_ _ | refine below_drewN ?_ _ | refine bstep (by assumption) ?_ | refine bstep (Past.prop _) ?_ | refine Below.setCell ?_ (by first | exact Nat.le_refl _ | (simp; done) | (simp; omega)) _)))) (by (try simp only [List.length_cons, List.length_nil, List.length_take, List.length_drop]); omega) (by (repeat (first | exact Below.refl _ _ | assumption | refine balloc ?_ _ | refine below_drewN ?_ _ | refine bstep (by assumption) ?_ | refine bstep (Past.prop _) ?_ | refine Below.setCell ?_ (by first | exact Nat.le_refl _ | (simp; done) | (simp; omega)) _))) ?_; intro v3 w3 own3 hb3 keep3))
                  all_goals
                    go_wp2
                    have hown3 := own_fin own3 HI3.out
                    rw [← HT.out] at hown3
                    have HO3 := hidE (own_low hown3 o2'.size); have HB3 := hidE (o2'.trans (hb3.mono o2'.size))
                    clear hown3
                    go_roundg (l.length - (k + 1))
                    case measure => omega
                    case rel => exact ⟨k + 1, v3, rfl, by omega, Nat.le_refl _, by go_num, HB3.out, HO3.out⟩
          · have hje : j = o.length := by omega
            have HI3 := hidE (show insT x o = o.take j ++ x :: o.drop j by rw [insT_at (x := x) (o := o) (k := j) hj HJ.out (fun h => absurd h hjl), if_neg (fun q => hjl q.1)])
            have hjd : decide ((j : Int) < (o.length : Int)) = false := decide_eq_false (by omega)
            have hje1 : j ≤ o.length := by omega
            have hje2 : o.length ≤ j := by omega
            clear hje HJ
            go_wp2_with fail
            refine wp_region_past_lit (by kernel_rfl) (by kernel_rfl) ?_
            have hcp := Past.cell (W := wr)
            repeat (go_big_quiet_step (fail))
            refine wpQuiet_nil ?_
            rintro _ ⟨x', rfl⟩
            have o1 := bstep x'.2 HBR.out
            have e1 := (x'.2.cell (p := ⟨b, off + k, none⟩) hbb2).trans d1
            have hb5 := Nat.lt_of_lt_of_le hbb2 x'.2.size
            have hg5 := Nat.lt_of_lt_of_le hgl2 x'.2.size
            clear hcp d1 HBR
            generalize x'.1 = w5 at *
            go_wp2_with fail
            refine wp_region_past_lit (by kernel_rfl) (by kernel_rfl) ?_
            have hcp := Past.cell (W := w5)
            repeat (go_big_quiet_step (fail))
            refine wpQuiet_nil ?_
            rintro _ ⟨x', rfl⟩
            have o1 := bstep x'.2 o1
            have o4 := (x'.2.cell (p := ⟨b, off + k, none⟩) hb5).trans e1
            have o3 := Nat.lt_of_lt_of_le hb5 x'.2.size
            have hg6 := Nat.lt_of_lt_of_le hg5 x'.2.size
            clear hcp e1 hb5 hg5
            generalize x'.1 = w6 at *
            have o2' := HB.out.trans (o1.mono hsz)
            have HCW := hidE (fun (w' : World) (hw' : Below w6.heap.size w6 w') (i : Nat) (hi : i < o.length) => ((bstep hw' o1).cell (p := ⟨g, i, none⟩) hglt).trans (HC.out i hi))
            have HS1 := hidE (fun (n : Nat) (hn : n = j) (w' : World) (hw' : Below w6.heap.size w6 w') => src_take (cap := co) (n := n) (HCW.out w' hw') hj hn)
            have HS3 := hidE (fun (n p c : Nat) (hn : n = o.length - j) (hp : p = j ∨ j = o.length) (w' : World) (hw' : Below w6.heap.size w6 w') => src_drop (cap := c) (n := n) (p := p) (HCW.out w' hw') hj hn hp)
            clear HC HO HB d0 o1
            have hjco : j ≤ co := by omega
            have hjcz : (j : Int) ≤ (co : Int) := by omega
            by_cases hjc : j = co
            · subst hjc
              go_wp2_with fail
              go_region_law (first | (refine step_app rfl (.tmp 44) (.tmp 47) 59 rfl w6 2 i0 Tryz.underlying59 HI.out HZ0.out HZ1.out HZ2.out (.slice (some ⟨w6.heap.size, 0, none⟩) 0 0) 0 [] rfl (own_empty (p := w6.heap.size) ((Blk.made _ _ _).drew 1) (by omega)) _ _ rfl (HS1.out _ (by omega) _ (by (repeat (first | exact Below.refl _ _ | assumption | refine balloc ?_ _ | refine below_drewN ?_ _ | refine bstep (by assumption) ?_ | refine bstep (Past.prop _) ?_ | refine Below.setCell ?_ (by first | exact Nat.le_refl _ | (simp; done) | (simp; omega)) _)))) (by (try simp only [List.length_take]); omega) (by (repeat (first | exact Below.refl _ _ | assumption | refine balloc ?_ _ | refine below_drewN ?_ _ | refine bstep (by assumption) ?_ | refine bstep (Past.prop _) ?_ | refine Below.setCell ?_ (by first | exact Nat.le_refl _ | (simp; done) | (simp; omega)) _))) ?_; intro v1 w1 own1 hb1 keep1; have hcell1 := (hb1.cell (p := ⟨b, off + k, none⟩) o3).trans o4; have hsz1 := hb1.size) | (refine step_app rfl (.tmp 44) (.tmp 47) 59 rfl w6 2 i0 Tryz.underlying59 HI.out HZ0.out HZ1.out HZ2.out (.slice (some ⟨w6.heap.size, 0, none⟩) 0 0) 0 [] rfl (own_empty (p := w6.heap.size) (((Blk.made _ _ _).alloc _).drew 1) (by omega)) _ _ rfl (HS1.out _ (by omega) _ (by (repeat (first | exact Below.refl _ _ | assumption | refine balloc ?_ _ | refine below_drewN ?_ _ | refine bstep (by assumption) ?_ | refine bstep (Past.prop _) ?_ | refine Below.setCell ?_ (by first | exact Nat.le_refl _ | (simp; done) | (simp; omega)) _)))) (by (try simp only [List.length_take]); omega) (by (repeat (first | exact Below.refl _ _ | assumption | refine balloc ?_ _ | refine below_drewN ?_ _ | refine bstep (by assumption) ?_ | refine bstep (Past.prop _) ?_ | refine Below.setCell ?_ (by first | exact Nat.le_refl _ | (simp; done) | (simp; omega)) _))) ?_; intro v1 w1 own1 hb1 keep1; have hcell1 := (hb1.cell (p := ⟨b, off + k, none⟩) o3).trans o4; have hsz1 := hb1.size) | (refine step_app rfl (.tmp 44) (.tmp 47) 59 rfl w6 2 i0 Tryz.underlying59 HI.out HZ0.out HZ1.out HZ2.out (.slice (some ⟨w6.heap.size + 1, 0, none⟩) 0 0) 0 [] rfl (own_empty (p := w6.heap.size + 1) ((Blk.made_at _ _ _ _ (by simp)).drew 1) (by omega)) _ _ rfl (HS1.out _ (by omega) _ (by (repeat (first | exact Below.refl _ _ | assumption | refine balloc ?_ _ | refine below_drewN ?_ _ | refine bstep (by assumption) ?_ | refine bstep (Past.prop _) ?_ | refine Below.setCell ?_ (by first | exact Nat.le_refl _ | (simp; done) | (simp; omega)) _)))) (by (try simp only [List.length_take]); omega) (by (repeat (first | exact Below.refl _ _ | assumption | refine balloc ?_ _ | refine below_drewN ?_ _ | refine bstep (by assumption) ?_ | refine bstep (Past.prop _) ?_ | refine Below.setCell ?_ (by first | exact Nat.le_refl _ | (simp; done) | (simp; omega)) _))) ?_; intro v1 w1 own1 hb1 keep1; have hcell1 := (hb1.cell (p := ⟨b, off + k, none⟩) o3).trans o4; have hsz1 := hb1.size) | (refine step_app rfl (.tmp 48) (.tmp 53) 59 rfl w6 2 i0 Tryz.underlying59 HI.out HZ0.out HZ1.out HZ2.out _ _ _ rfl (own1.alloc _) _ [x] rfl (src_one (Blk.made _ _ _)) (by (try simp only [List.length_cons, List.length_nil, List.length_take]); omega) (by (repeat (first | exact Below.refl _ _ | assumption | refine balloc ?_ _ | refine below_drewN ?_ _ | refine bstep (by assumption) ?_ | refine bstep (Past.prop _) ?_ | refine Below.setCell ?_ (by first | exact Nat.le_refl _ | (simp; done) | (simp; omega)) _))) ?_; intro v2 w2 own2 hb2 keep2) | (refine step_app rfl (.tmp 48) (.tmp 53) 59 rfl w6 2 i0 Tryz.underlying59 HI.out HZ0.out HZ1.out HZ2.out _ _ _ rfl (own1) _ [x] rfl (src_one (keep1 w6.heap.size _ _ (((Blk.made _ _ _).alloc _).drew 1) (by simp [Value.ownBlock]))) (by (try simp only [List.length_cons, List.length_nil, List.length_take]); omega) (by (repeat (first | exact Below.refl _ _ | assumption | refine balloc ?_ _ | refine below_drewN ?_ _ | refine bstep (by assumption) ?_ | refine bstep (Past.prop _) ?_ | refine Below.setCell ?_ (by first | exact Nat.le_refl _ | (simp; done) | (simp; omega)) _))) ?_; intro v2 w2 own2 hb2 keep2) | (refine step_app rfl (.tmp 48) (.tmp 53) 59 rfl w6 2 i0 Tryz.underlying59 HI.out HZ0.out HZ1.out HZ2.out _ _ _ rfl (own1) _ [x] rfl (src_one (keep1 (w6.heap.size + 1) _ _ ((Blk.made_at _ _ _ _ (by simp)).drew 1) (by simp [Value.ownBlock]))) (by (try simp only [List.length_cons, List.length_nil, List.length_take]); omega) (by (repeat (first | exact Below.refl _ _ | assumption | refine balloc ?_ _ | refine below_drewN ?_ _ | refine bstep (by assumption) ?_ | refine bstep (Past.prop _) ?_ | refine Below.setCell ?_ (by first | exact Nat.le_refl _ | (simp; done) | (simp; omega)) _))) ?_; intro v2 w2 own2 hb2 keep2) | (refine step_app rfl (.tmp 54) (.tmp 57) 59 rfl w6 2 i0 Tryz.underlying59 HI.out HZ0.out HZ1.out HZ2.out _ _ _ rfl own2 _ _ rfl (HS3.out _ _ _ (by omega) (by omega) _ (by (repeat (first | exact Below.refl _ _ | assumption | refine balloc ?_ _ | refine below_drewN ?_ _ | refine bstep (by assumption) ?_ | refine bstep (Past.prop _) ?_ | refine Below.setCell ?_ (by first | exact Nat.le_refl _ | (simp; done) | (simp; omega)) _)))) (by (try simp only [List.length_cons, List.length_nil, List.length_take, List.length_drop]); omega) (by (repeat (first | exact Below.refl _ _ | assumption | refine balloc ?_ _ | refine below_drewN ?_ _ | refine bstep (by assumption) ?_ | refine bstep (Past.prop _) ?_ | refine Below.setCell ?_ (by first | exact Nat.le_refl _ | (simp; done) | (simp; omega)) _))) ?_; intro v3 w3 own3 hb3 keep3))
              all_goals
                go_wp2
                have hown3 := own_fin own3 HI3.out
                rw [← HT.out] at hown3
                have HO3 := hidE (own_low hown3 o2'.size); have HB3 := hidE (o2'.trans (hb3.mono o2'.size))
                clear hown3
                go_roundg (l.length - (k + 1))
                case measure => omega
                case rel => exact ⟨k + 1, v3, rfl, by omega, Nat.le_refl _, by go_num, HB3.out, HO3.out⟩
            · have hjce : ¬ co = j := fun h => hjc h.symm
              go_wp2_with fail
              go_region_law (first | (refine step_app rfl (.tmp 44) (.tmp 47) 59 rfl w6 2 i0 Tryz.underlying59 HI.out HZ0.out HZ1.out HZ2.out (.slice (some ⟨w6.heap.size, 0, none⟩) 0 0) 0 [] rfl (own_empty (p := w6.heap.size) ((Blk.made _ _ _).drew 1) (by omega)) _ _ rfl (HS1.out _ (by omega) _ (by (repeat (first | exact Below.refl _ _ | assumption | refine balloc ?_ _ | refine below_drewN ?_ _ | refine bstep (by assumption) ?_ | refine bstep (Past.prop _) ?_ | refine Below.setCell ?_ (by first | exact Nat.le_refl _ | (simp; done) | (simp; omega)) _)))) (by (try simp only [List.length_take]); omega) (by (repeat (first | exact Below.refl _ _ | assumption | refine balloc ?_ _ | refine below_drewN ?_ _ | refine bstep (by assumption) ?_ | refine bstep (Past.prop _) ?_ | refine Below.setCell ?_ (by first | exact Nat.le_refl _ | (simp; done) | (simp; omega)) _))) ?_; intro v1 w1 own1 hb1 keep1; have hcell1 := (hb1.cell (p := ⟨b, off + k, none⟩) o3).trans o4; have hsz1 := hb1.size) | (refine step_app rfl (.tmp 44) (.tmp 47) 59 rfl w6 2 i0 Tryz.underlying59 HI.out HZ0.out HZ1.out HZ2.out (.slice (some ⟨w6.heap.size, 0, none⟩) 0 0) 0 [] rfl (own_empty (p := w6.heap.size) (((Blk.made _ _ _).alloc _).drew 1) (by omega)) _ _ rfl (HS1.out _ (by omega) _ (by (repeat (first | exact Below.refl _ _ | assumption | refine balloc ?_ _ | refine below_drewN ?_ _ | refine bstep (by assumption) ?_ | refine bstep (Past.prop _) ?_ | refine Below.setCell ?_ (by first | exact Nat.le_refl _ | (simp; done) | (simp; omega)) _)))) (by (try simp only [List.length_take]); omega) (by (repeat (first | exact Below.refl _ _ | assumption | refine balloc ?_ _ | refine below_drewN ?_ _ | refine bstep (by assumption) ?_ | refine bstep (Past.prop _) ?_ | refine Below.setCell ?_ (by first | exact Nat.le_refl _ | (simp; done) | (simp; omega)) _))) ?_; intro v1 w1 own1 hb1 keep1; have hcell1 := (hb1.cell (p := ⟨b, off + k, none⟩) o3).trans o4; have hsz1 := hb1.size) | (refine step_app rfl (.tmp 44) (.tmp 47) 59 rfl w6 2 i0 Tryz.underlying59 HI.out HZ0.out HZ1.out HZ2.out (.slice (some ⟨w6.heap.size + 1, 0, none⟩) 0 0) 0 [] rfl (own_empty (p := w6.heap.size + 1) ((Blk.made_at _ _ _ _ (by simp)).drew 1) (by omega)) _ _ rfl (HS1.out _ (by omega) _ (by (repeat (first | exact Below.refl _ _ | assumption | refine balloc ?_ _ | refine below_drewN ?_ _ | refine bstep (by assumption) ?_ | refine bstep (Past.prop _) ?_ | refine Below.setCell ?_ (by first | exact Nat.le_refl _ | (simp; done) | (simp; omega)) _)))) (by (try simp only [List.length_take]); omega) (by (repeat (first | exact Below.refl _ _ | assumption | refine balloc ?_ _ | refine below_drewN ?_ _ | refine bstep (by assumption) ?_ | refine bstep (Past.prop _) ?_ | refine Below.setCell ?_ (by first | exact Nat.le_refl _ | (simp; done) | (simp; omega)) _))) ?_; intro v1 w1 own1 hb1 keep1; have hcell1 := (hb1.cell (p := ⟨b, off + k, none⟩) o3).trans o4; have hsz1 := hb1.size) | (refine step_app rfl (.tmp 48) (.tmp 53) 59 rfl w6 2 i0 Tryz.underlying59 HI.out HZ0.out HZ1.out HZ2.out _ _ _ rfl (own1.alloc _) _ [x] rfl (src_one (Blk.made _ _ _)) (by (try simp only [List.length_cons, List.length_nil, List.length_take]); omega) (by (repeat (first | exact Below.refl _ _ | assumption | refine balloc ?_ _ | refine below_drewN ?_ _ | refine bstep (by assumption) ?_ | refine bstep (Past.prop _) ?_ | refine Below.setCell ?_ (by first | exact Nat.le_refl _ | (simp; done) | (simp; omega)) _))) ?_; intro v2 w2 own2 hb2 keep2) | (refine step_app rfl (.tmp 48) (.tmp 53) 59 rfl w6 2 i0 Tryz.underlying59 HI.out HZ0.out HZ1.out HZ2.out _ _ _ rfl (own1) _ [x] rfl (src_one (keep1 w6.heap.size _ _ (((Blk.made _ _ _).alloc _).drew 1) (by simp [Value.ownBlock]))) (by (try simp only [List.length_cons, List.length_nil, List.length_take]); omega) (by (repeat (first | exact Below.refl _ _ | assumption | refine balloc ?_ _ | refine below_drewN ?_ _ | refine bstep (by assumption) ?_ | refine bstep (Past.prop _) ?_ | refine Below.setCell ?_ (by first | exact Nat.le_refl _ | (simp; done) | (simp; omega)) _))) ?_; intro v2 w2 own2 hb2 keep2) | (refine step_app rfl (.tmp 48) (.tmp 53) 59 rfl w6 2 i0 Tryz.underlying59 HI.out HZ0.out HZ1.out HZ2.out _ _ _ rfl (own1) _ [x] rfl (src_one (keep1 (w6.heap.size + 1) _ _ ((Blk.made_at _ _ _ _ (by simp)).drew 1) (by simp [Value.ownBlock]))) (by (try simp only [List.length_cons, List.length_nil, List.length_take]); omega) (by (repeat (first | exact Below.refl _ _ | assumption | refine balloc ?_ _ | refine below_drewN ?_ _ | refine bstep (by assumption) ?_ | refine bstep (Past.prop _) ?_ | refine Below.setCell ?_ (by first | exact Nat.le_refl _ | (simp; done) | (simp; omega)) _))) ?_; intro v2 w2 own2 hb2 keep2) | (refine step_app rfl (.tmp 54) (.tmp 57) 59 rfl w6 2 i0 Tryz.underlying59 HI.out HZ0.out HZ1.out HZ2.out _ _ _ rfl own2 _ _ rfl (HS3.out _ _ _ (by omega) (by omega) _ (by (repeat (first | exact Below.refl _ _ | assumption | refine balloc ?_ _ | refine below_drewN ?_ _ | refine bstep (by assumption) ?_ | refine bstep (Past.prop _) ?_ | refine Below.setCell ?_ (by first | exact Nat.le_refl _ | (simp; done) | (simp; omega)) _)))) (by (try simp only [List.length_cons, List.length_nil, List.length_take, List.length_drop]); omega) (by (repeat (first | exact Below.refl _ _ | assumption | refine balloc ?_ _ | refine below_drewN ?_ _ | refine bstep (by assumption) ?_ | refine bstep (Past.prop _) ?_ | refine Below.setCell ?_ (by first | exact Nat.le_refl _ | (simp; done) | (simp; omega)) _))) ?_; intro v3 w3 own3 hb3 keep3))
              all_goals
                go_wp2
                have hown3 := own_fin own3 HI3.out
                rw [← HT.out] at hown3
                have HO3 := hidE (own_low hown3 o2'.size); have HB3 := hidE (o2'.trans (hb3.mono o2'.size))
                clear hown3
                go_roundg (l.length - (k + 1))
                case measure => omega
                case rel => exact ⟨k + 1, v3, rfl, by omega, Nat.le_refl _, by go_num, HB3.out, HO3.out⟩
    · have hk' : k = l.length := by omega
      subst hk'
      have ho := HO.out
      rw [List.take_length] at ho
      have HO2 := hidE ho; clear ho HO
      go_wp2
      go_ret
      exact ⟨_, rfl, HO2.out, HB.out⟩
end Go.Proofs.YthlepbbdjmmelaaGreat

namespace Go.Proofs.YthlepbbdjmmelaaGreat
open Go.ChangeShapes Go.WideShapes Go.ChangeAt Go.RowKit
attribute [local irreducible] Go.Calls

/-- A row of numbers made by calls: a slice to append from. -/
theorem src_own {w : World} {B : Nat} {e : TypeId} {v : Value} {l : List Int} (h : w.ownsRow B e 1 v l.length (cellsI l)) : SrcI w v l := by
  obtain ⟨h1, h2 | ⟨g, cap, cur, rfl, h3, h4, h5, h6, h7, h8⟩⟩ := h
  · obtain ⟨rfl, h2⟩ := h2
    have : l = [] := List.eq_nil_of_length_eq_zero h2
    subst this
    exact src_nil w
  · refine ⟨some ⟨g, 0, none⟩, cap, rfl, (fun h => by cases h), fun ad had j u hj => ?_⟩
    cases had
    have hjl : j < l.length := by
      have := (List.getElem?_eq_some_iff.1 hj).1
      simpa [cellsI] using this
    have e2 : w.cell? ⟨g, j, none⟩ = cur[j]? := by simp [World.cell?, h4]
    have e3 : ((⟨g, 0, none⟩ : Addr).add j) = ⟨g, j, none⟩ := by
      unfold Addr.add
      by_cases c : j = 0
      · subst c; simp
      · simp [c]
    rw [e3, e2, ← Array.getElem?_toList]
    rw [← h8, List.getElem?_take, if_pos (by omega)] at hj
    exact hj
theorem wpList_append_src {P : Program} {ops : Array Oper} {rest : List Oper} {o : Oper} {a : Act} {w : World} {Q : Exit → Act → World → Prop} (hgd : o.guard = none) (s x : Operand) (t : TypeId)
    (hop : o.op = .call { callee := .builtin .append, args := #[s, x], argTypes := #[t, t] })
    (base : Nat) (e : TypeId) (i : TypeInfo) (ht : P.underlying t = some (.slice e)) (hi : P.info? e = some i) (hz : i.zero = some (.int .i64 0)) (hsize : i.size = 1) (hby : i.bytes = 8)
    (v : Value) (n : Nat) (xs : List Value) (hs : a.eval s = v) (hown : w.ownsRow base e 1 v n xs)
    (vx : Value) (news : List Int) (hx : a.eval x = vx) (hsrc : SrcI w vx news)
    (h63 : n + news.length ≤ 1099511627776) (hbase : base ≤ w.heap.size)
    (h : ∀ v' w', w'.ownsRow base e 1 v' (n + news.length) (xs ++ cellsI news) → w.grownBy w' v.ownBlock → wpList P ops Q rest (a.put o.dst v') w') : wpList P ops Q (o :: rest) a w := by
  obtain ⟨ad, cap, rfl, hn, hc⟩ := hsrc
  cases ad with
  | none =>
    obtain ⟨rfl, rfl⟩ := hn rfl
    exact wpList_append_own_none hgd s x t hop base e i 1 ht hi v n xs hs hown hx (h v w (by simpa [cellsI] using hown) ⟨rfl, rfl, rfl, Nat.le_refl _, fun _ _ _ => rfl⟩)
  | some ad =>
    exact wpList_append_own w hgd s x t hop base e i (.int .i64 0) 1 8 ht hi hz hsize hby rfl (by decide) v n xs hs hown ad news.length cap (cellsI news) hx (by simp [cellsI]) (hc ad rfl) (cellsI_one news) (by unfold maxLen; omega) (by omega) hbase fun v' w' h1 h2 _ => h v' w' h1 h2
theorem own_two {w : World} {p base : Nat} {e : TypeId} {x y : Int} (hB : Blk w p #[.int .i64 x, .int .i64 y] e) (hp : base ≤ p) : w.ownsRow base e 1 (.slice (some ⟨p, 0, none⟩) 2 2) 2 (cellsI [x, y]) :=
  ⟨rfl, .inr ⟨p, 2, #[.int .i64 x, .int .i64 y], rfl, hp, hB, Nat.le_refl _, by unfold maxLen; omega, rfl, rfl⟩⟩
end Go.Proofs.YthlepbbdjmmelaaGreat

namespace Go.Proofs.YthlepbbdjmmelaaGreat
open Go.ChangeShapes Go.WideShapes Go.ChangeAt Go.RowKit
attribute [local irreducible] Go.Calls

set_option maxHeartbeats 1000000 in
theorem rtwo_own (f g : List Sg) (a a' : Option Addr) (cap cap' : Nat) (w : World) (hl : f.length + g.length ≤ 1000000000) (hA : ArgS w a f) (hA' : ArgS w a' g) :
    Calls Tryz.prog 90 #[.slice a f.length cap, .slice a' g.length cap'] w (RetV w fun v w' => w'.ownsRow w.heap.size 2 1 v (twoT f g).length (cellsI (twoT f g))) := by
  have HA := hidE hA; have HA' := hidE hA'; clear hA hA'
  obtain ⟨i0, hi, hz0, hz1, hz2⟩ := info_parts Tryz.infoI64
  have HI := hidE hi; have HZ0 := hidE hz0; have HZ1 := hidE hz1; have HZ2 := hidE hz2
  clear hi hz0 hz1 hz2
  go_enter Tryz.func90, Tryz.ntmps90
  go_wp2_with fail
  ((with_reducible refine (rwhen_c f a cap _ (by omega) HA.out).mono ?_); rintro e w1 ⟨v1, rfl, ho1, hb1⟩)
  have HB1 := hidE hb1; have HO1 := hidE ho1
  clear hb1 ho1
  go_wp2_with fail
  ((with_reducible refine (rwhen_c g a' cap' _ (by omega) (HA'.out.past HB1.out)).mono ?_); rintro e w2 ⟨v2, rfl, ho2, hb2⟩)
  have HB2 := hidE (bstep hb2 HB1.out)
  have HO1' := hidE (own_below HO1.out hb2)
  have ho2' : w2.ownsRow w1.heap.size 2 1 v2 (g.map (·.1)).length (cellsI (g.map (·.1))) := by rw [List.length_map]; exact ho2
  have HS2 := hidE (src_own ho2')
  clear ho2 ho2' hb2 HO1
  go_wp2_with (at_builtin; refine wpList_append_src rfl (.tmp 6) (.tmp 8) 59 rfl w.heap.size 2 i0 Tryz.underlying59 HI.out HZ0.out HZ1.out HZ2.out _ _ _ rfl HO1'.out _ _ rfl HS2.out (by simp; omega) HB2.out.size ?_; intro v3 w3 ho3 hg3)
  have hb3 : Below w.heap.size w w3 := Below.grown HB2.out hg3 HB2.out.size (fun k hk => own_block HO1'.out hk)
  have ho3' : w3.ownsRow w.heap.size 2 1 v3 (f.map (·.1) ++ g.map (·.1)).length (cellsI (f.map (·.1) ++ g.map (·.1))) := by
    rw [cellsI_app, List.length_append, List.length_map]; exact ho3
  obtain ⟨a3, c3, rfl, _, _, hA3⟩ := sliI_own ho3'
  have hrt := rtimes_c (f.map (·.1) ++ g.map (·.1)) a3 c3 w3 (by simp; omega) hA3
  rw [show (f.map (·.1) ++ g.map (·.1)).length = f.length + g.length by simp] at hrt
  have HRT := hidE hrt
  clear hrt
  have HB3 := hidE hb3
  clear ho3 ho3' hg3 hb3 hA3
  go_wp2_with fail
  ((with_reducible refine (HRT.out).mono ?_); rintro e w4 ⟨v4, rfl, ho4, hb4⟩)
  have HB4 := hidE (bstep hb4 HB3.out)
  have HO4 := hidE (own_low ho4 HB3.out.size)
  clear hb4 ho4
  go_wp2
  go_ret
  exact ⟨_, rfl, HO4.out, HB4.out⟩
theorem rtwo_c (f g : List Sg) (a a' : Option Addr) (cap cap' : Nat) (w : World) (hl : f.length + g.length ≤ 1000000000) (hA : ArgS w a f) (hA' : ArgS w a' g) :
    Calls Tryz.prog 90 #[.slice a f.length cap, .slice a' g.length cap'] w (RetV w fun v w' => SliI w' v (twoT f g)) :=
  (rtwo_own f g a a' cap cap' w hl hA hA').mono fun _ _ ⟨v, h1, h2, h3⟩ => ⟨v, h1, sliI_own h2, h3⟩
end Go.Proofs.YthlepbbdjmmelaaGreat

namespace Go.Proofs.YthlepbbdjmmelaaGreat
open Go.ChangeShapes Go.WideShapes Go.ChangeAt Go.RowKit

theorem rle (a b c d : Int) (w : World) : Calls Tryz.prog 46 #[V a b, V c d] w fun e w' => e = .returned (.bool (leB a b c d)) ∧ Below w.heap.size w w' := by
  go_enter Tryz.func46, Tryz.ntmps46
  go_wp2
  all_goals
    go_ret
    refine ⟨ret_bool (by unfold leB; rw [Bool.eq_iff_iff]; simp; omega), ?_⟩
    (repeat (first | exact Below.refl _ _ | assumption | refine balloc ?_ _ | refine below_drewN ?_ _ | refine bstep (by assumption) ?_ | refine bstep (Past.prop _) ?_ | refine Below.setCell ?_ (by first | exact Nat.le_refl _ | (simp; done) | (simp; omega)) _))

theorem rmn (a b c d : Int) (w : World) : Calls Tryz.prog 119 #[V a b, V c d] w fun e w' => e = .returned (V (mn a c) (mn b d)) ∧ Below w.heap.size w w' := by
  go_enter Tryz.func119, Tryz.ntmps119
  go_wp2
  all_goals
    refine bodyPost_ret (v := V (mn a c) (mn b d)) (by unfold mn; simp [results, Tryz.results119, go_sem, *]; try omega) rfl ⟨rfl, ?_⟩
    (repeat (first | exact Below.refl _ _ | assumption | refine balloc ?_ _ | refine below_drewN ?_ _ | refine bstep (by assumption) ?_ | refine bstep (Past.prop _) ?_ | refine Below.setCell ?_ (by first | exact Nat.le_refl _ | (simp; done) | (simp; omega)) _))
theorem rmx (a b c d : Int) (w : World) : Calls Tryz.prog 120 #[V a b, V c d] w fun e w' => e = .returned (V (mx a c) (mx b d)) ∧ Below w.heap.size w w' := by
  go_enter Tryz.func120, Tryz.ntmps120
  go_wp2
  all_goals
    refine bodyPost_ret (v := V (mx a c) (mx b d)) (by unfold mx; simp [results, Tryz.results120, go_sem, *]; try omega) rfl ⟨rfl, ?_⟩
    (repeat (first | exact Below.refl _ _ | assumption | refine balloc ?_ _ | refine below_drewN ?_ _ | refine bstep (by assumption) ?_ | refine bstep (Past.prop _) ?_ | refine Below.setCell ?_ (by first | exact Nat.le_refl _ | (simp; done) | (simp; omega)) _))

theorem rtold (a b : Int) (w : World) : Calls Tryz.prog 75 #[V a b] w fun e w' => e = .returned (VE (gate (okV a b) a b)) ∧ Below w.heap.size w w' := by
  cases h : okV a b
  · rw [gate_false rfl]
    go_enter Tryz.func75, Tryz.ntmps75
    go_wp2_with (go_at_call 74; ((with_reducible refine (rmay_eq h).mono ?_); rintro e w' ⟨rfl, hb⟩; obtain ⟨hc, hf⟩ := bcell hb; have hz0 := bsz hb (w.heap.size) (by first | assumption | (simp; done) | (simp; omega)); have hz1 := bsz hb (w.heap.size + 1) (by first | assumption | (simp; done) | (simp; omega))))
    refine bodyPost_ret (v := VE (0, 0, 10)) (by simp [results, Tryz.results75, go_sem, *]) rfl ⟨rfl, ?_⟩
    (repeat (first | exact Below.refl _ _ | assumption | refine balloc ?_ _ | refine below_drewN ?_ _ | refine bstep (by assumption) ?_ | refine bstep (Past.prop _) ?_ | refine Below.setCell ?_ (by first | exact Nat.le_refl _ | (simp; done) | (simp; omega)) _))
  · rw [gate_true rfl]
    go_enter Tryz.func75, Tryz.ntmps75
    go_wp2_with (go_at_call 74; ((with_reducible refine (rmay_eq h).mono ?_); rintro e w' ⟨rfl, hb⟩; obtain ⟨hc, hf⟩ := bcell hb; have hz0 := bsz hb (w.heap.size) (by first | assumption | (simp; done) | (simp; omega)); have hz1 := bsz hb (w.heap.size + 1) (by first | assumption | (simp; done) | (simp; omega))))
    refine bodyPost_ret (v := VE (a, b, 0)) (by simp [results, Tryz.results75, go_sem, *]) rfl ⟨rfl, ?_⟩
    (repeat (first | exact Below.refl _ _ | assumption | refine balloc ?_ _ | refine below_drewN ?_ _ | refine bstep (by assumption) ?_ | refine bstep (Past.prop _) ?_ | refine Below.setCell ?_ (by first | exact Nat.le_refl _ | (simp; done) | (simp; omega)) _))

theorem radd_no (a b c d : Int) (w : World) (h : (okV a b && okV c d) = false) : Calls Tryz.prog 29 #[V a b, V c d] w fun e w' => e = .returned (VE (0, 0, 10)) ∧ Below w.heap.size w w' := by
  cases h1 : okV a b
  · clear h
    go_enter Tryz.func29, Tryz.ntmps29
    go_wp2_with (go_at_call 74; ((with_reducible refine (rmay_eq h1).mono ?_); rintro e w' ⟨rfl, hb⟩; obtain ⟨hc, hf⟩ := bcell hb; have hz0 := bsz hb (w.heap.size) (by first | assumption | (simp; done) | (simp; omega)); have hz1 := bsz hb (w.heap.size + 1) (by first | assumption | (simp; done) | (simp; omega)); have hz2 := bsz hb (w.heap.size + 1 + 1) (by first | assumption | (simp; done) | (simp; omega))))
    refine bodyPost_ret (v := VE (0, 0, 10)) (by simp [results, Tryz.results29, go_sem, *]) rfl ⟨rfl, ?_⟩
    (repeat (first | exact Below.refl _ _ | assumption | refine balloc ?_ _ | refine below_drewN ?_ _ | refine bstep (by assumption) ?_ | refine bstep (Past.prop _) ?_ | refine Below.setCell ?_ (by first | exact Nat.le_refl _ | (simp; done) | (simp; omega)) _))
  · have h2 : okV c d = false := by rw [h1] at h; simpa using h
    clear h
    go_enter Tryz.func29, Tryz.ntmps29
    go_wp2_with (first | (go_at_call 74; ((with_reducible refine (rmay_eq h1).mono ?_); rintro e w' ⟨rfl, hb⟩; obtain ⟨hc, hf⟩ := bcell hb; have hz0 := bsz hb (w.heap.size) (by first | assumption | (simp; done) | (simp; omega)); have hz1 := bsz hb (w.heap.size + 1) (by first | assumption | (simp; done) | (simp; omega)); have hz2 := bsz hb (w.heap.size + 1 + 1) (by first | assumption | (simp; done) | (simp; omega)))) | (go_at_call 74; ((with_reducible refine (rmay_eq h2).mono ?_); rintro e w' ⟨rfl, hb⟩; obtain ⟨hc, hf⟩ := bcell hb; have hz0 := bsz hb (w.heap.size) (by first | assumption | (simp; done) | (simp; omega)); have hz1 := bsz hb (w.heap.size + 1) (by first | assumption | (simp; done) | (simp; omega)); have hz2 := bsz hb (w.heap.size + 1 + 1) (by first | assumption | (simp; done) | (simp; omega)))))
    refine bodyPost_ret (v := VE (0, 0, 10)) (by simp [results, Tryz.results29, go_sem, *]) rfl ⟨rfl, ?_⟩
    (repeat (first | exact Below.refl _ _ | assumption | refine balloc ?_ _ | refine below_drewN ?_ _ | refine bstep (by assumption) ?_ | refine bstep (Past.prop _) ?_ | refine Below.setCell ?_ (by first | exact Nat.le_refl _ | (simp; done) | (simp; omega)) _))

theorem radd (a b c d : Int) (w : World) : Calls Tryz.prog 29 #[V a b, V c d] w fun e w' => e = .returned (VE (addS a b c d)) ∧ Below w.heap.size w w' := by
  cases h : (okV a b && okV c d)
  · have e : addS a b c d = (0, 0, 10) := by unfold addS; exact gate_no h
    rw [e]; exact radd_no a b c d w h
  · have e : addS a b c d = gate (okV (a + c) (b + d)) (a + c) (b + d) := by unfold addS; rw [h]; rfl
    obtain ⟨h1, h2⟩ : okV a b = true ∧ okV c d = true := by simpa using h
    have g1 := okV_iff.1 h1; have g2 := okV_iff.1 h2
    rw [e]; clear e h
    generalize hg : gate (okV (a + c) (b + d)) (a + c) (b + d) = g
    have Hg := hidE hg; clear hg
    go_enter Tryz.func29, Tryz.ntmps29
    go_wp2_with (first | (go_at_call 74; ((with_reducible refine (rmay_eq h1).mono ?_); rintro e w' ⟨rfl, hb⟩; obtain ⟨hc, hf⟩ := bcell hb; have hz0 := bsz hb (w.heap.size) (by first | assumption | (simp; done) | (simp; omega)); have hz1 := bsz hb (w.heap.size + 1) (by first | assumption | (simp; done) | (simp; omega)); have hz2 := bsz hb (w.heap.size + 1 + 1) (by first | assumption | (simp; done) | (simp; omega)))) | (go_at_call 74; ((with_reducible refine (rmay_eq h2).mono ?_); rintro e w' ⟨rfl, hb⟩; obtain ⟨hc, hf⟩ := bcell hb; have hz0 := bsz hb (w.heap.size) (by first | assumption | (simp; done) | (simp; omega)); have hz1 := bsz hb (w.heap.size + 1) (by first | assumption | (simp; done) | (simp; omega)); have hz2 := bsz hb (w.heap.size + 1 + 1) (by first | assumption | (simp; done) | (simp; omega)))) | (go_at_call 75; ((with_reducible refine (rtold (a + c) (b + d) _).mono ?_); rintro e w' ⟨rfl, hb⟩; rw [Hg.out]; obtain ⟨hc, hf⟩ := bcell hb; have hz2 := bsz hb (w.heap.size + 1 + 1) (by first | assumption | (simp; done) | (simp; omega)))))
    refine bodyPost_ret (v := VE g) (by simp [results, Tryz.results29, go_sem, *]) rfl ⟨rfl, ?_⟩
    (repeat (first | exact Below.refl _ _ | assumption | refine balloc ?_ _ | refine below_drewN ?_ _ | refine bstep (by assumption) ?_ | refine bstep (Past.prop _) ?_ | refine Below.setCell ?_ (by first | exact Nat.le_refl _ | (simp; done) | (simp; omega)) _))


theorem rsub (a b c d : Int) (w : World) : Calls Tryz.prog 118 #[V a b, V c d] w fun e w' => e = .returned (VE (subS a b c d)) ∧ Below w.heap.size w w' := by
  cases h2 : okV c d
  · have e : subS a b c d = (0, 0, 10) := by unfold subS; exact gate_no (by rw [h2]; simp)
    rw [e]; clear e
    go_enter Tryz.func118, Tryz.ntmps118
    go_wp2_with (go_at_call 74; ((with_reducible refine (rmay_eq h2).mono ?_); rintro e w' ⟨rfl, hb⟩; obtain ⟨hc, hf⟩ := bcell hb; have hz0 := bsz hb (w.heap.size) (by first | assumption | (simp; done) | (simp; omega)); have hz1 := bsz hb (w.heap.size + 1) (by first | assumption | (simp; done) | (simp; omega)); have hz2 := bsz hb (w.heap.size + 1 + 1) (by first | assumption | (simp; done) | (simp; omega))))
    refine bodyPost_ret (v := VE (0, 0, 10)) (by simp [results, Tryz.results118, go_sem, *]) rfl ⟨rfl, ?_⟩
    (repeat (first | exact Below.refl _ _ | assumption | refine balloc ?_ _ | refine below_drewN ?_ _ | refine bstep (by assumption) ?_ | refine bstep (Past.prop _) ?_ | refine Below.setCell ?_ (by first | exact Nat.le_refl _ | (simp; done) | (simp; omega)) _))
  · have e : subS a b c d = addS a b (-c) (-d) := by
      have : okV (-c) (-d) = okV c d := by unfold okV; rw [decide_eq_decide]; omega
      unfold subS addS; rw [this, Int.sub_eq_add_neg, Int.sub_eq_add_neg]
    have g2 := okV_iff.1 h2
    rw [e]; clear e
    go_enter Tryz.func118, Tryz.ntmps118
    go_wp2_with (first | (go_at_call 74; ((with_reducible refine (rmay_eq h2).mono ?_); rintro e w' ⟨rfl, hb⟩; obtain ⟨hc, hf⟩ := bcell hb; have hz0 := bsz hb (w.heap.size) (by first | assumption | (simp; done) | (simp; omega)); have hz1 := bsz hb (w.heap.size + 1) (by first | assumption | (simp; done) | (simp; omega)); have hz2 := bsz hb (w.heap.size + 1 + 1) (by first | assumption | (simp; done) | (simp; omega)))) | (go_at_call 29; ((with_reducible refine (radd a b (-c) (-d) _).mono ?_); rintro e w' ⟨rfl, hb⟩; obtain ⟨hc, hf⟩ := bcell hb; have hz2 := bsz hb (w.heap.size + 1 + 1) (by first | assumption | (simp; done) | (simp; omega)))))
    refine bodyPost_ret (v := VE (addS a b (-c) (-d))) (by simp [results, Tryz.results118, go_sem, *]) rfl ⟨rfl, ?_⟩
    (repeat (first | exact Below.refl _ _ | assumption | refine balloc ?_ _ | refine below_drewN ?_ _ | refine bstep (by assumption) ?_ | refine bstep (Past.prop _) ?_ | refine Below.setCell ?_ (by first | exact Nat.le_refl _ | (simp; done) | (simp; omega)) _))
end Go.Proofs.YthlepbbdjmmelaaGreat
