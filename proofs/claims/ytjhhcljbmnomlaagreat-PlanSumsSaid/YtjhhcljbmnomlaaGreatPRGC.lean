/- The contract of (calc.pair).combined. No conditions but the lists' sizes, that the slices' cells read as integers, and that the functions are canonical. The contract of the document's own May of vectors. No conditions. The contracts of the document's own small answers for rle. No conditions but that the lists' cells read as integers. Slices that read as lists of numbers. No function of the program. No conditions. The contracts of the document's own lists of times, and of its canonical function. No conditions but the lists' sizes. -/
import Derived.Test.YtjhhcljbmnomlaaGreatPRGA
import Derived.Test.YtjhhcljbmnomlaaGreatPRMA
import Derived.Test.YtjhhcljbmnomlaaGreatPRGB
import Derived.Laws.MakeOwn
import Derived.RangeFuncCalls
import Derived.Shelf.Abstract
import Derived.Test.YtjhhcljbmnomlaaGreatRows
import Derived.Outline
import Derived.Laws.AppendOwnNone
import Derived.Deep.RegionLaw
import Derived.Deep.DeepCutAuto
namespace Go.Proofs.YtjhhcljbmnomlaaGreat
open Go.ChangeShapes Go.WideShapes Go.ChangeAt Go.RowKit Go.Shelf
attribute [local irreducible] Go.Calls
attribute [local go_sem] Oper.semAt_some

theorem make_segs (n : Nat) (hn : n ≤ 1000000000) : ∀ w, (Instr.makeSlice 22 (.int .i64 0) (.int .i64 (n : Int))).run Tryz.prog w = .ok (.slice (some ⟨w.heap.size, 0, none⟩) 0 n) (w.alloc (.cells (madeCells #[.int .i64 0, .int .i64 0, .int .i64 0] (n * 3)) 105)) := by
  intro w
  obtain ⟨i0, hi, hz0, hz1, hz2⟩ := info_parts Tryz.infoSeg
  have h := run_make (P := Tryz.prog) w 22 105 i0 (.agg #[.int .i64 0, .int .i64 0, .int .i64 0]) Tryz.underlying22 hi hz0 .i64 .i64 0 n (by omega) (by omega) (by rw [hz2]; omega) (by omega)
  rw [h]
  simp only [Int.toNat_natCast, hz1, Value.cells]
  rfl

theorem make_segs2 (n m : Nat) (hn : n + m ≤ 1000000000) : ∀ w, (Instr.makeSlice 22 (.int .i64 0) (.int .i64 ((n : Int) + (m : Int)))).run Tryz.prog w = .ok (.slice (some ⟨w.heap.size, 0, none⟩) 0 (n + m)) (w.alloc (.cells (madeCells #[.int .i64 0, .int .i64 0, .int .i64 0] ((n + m) * 3)) 105)) := by
  intro w
  rw [← Int.natCast_add]
  exact make_segs (n + m) hn w

/-- A block whose first cells hold a list of runs. -/
def RowAt (W : World) (g cap : Nat) (l : List Sg) : Prop := ∃ cur : Array Value, Blk W g cur 105 ∧ cur.size = cap * 3 ∧ l.length ≤ cap ∧ cap ≤ 1000000000 ∧ cur.toList.take (l.length * 3) = cellsOfS l
theorem RowAt.below {W W' : World} {g cap B : Nat} {l : List Sg} (h : RowAt W g cap l) (hb : Below B W W') (hg : g < B) : RowAt W' g cap l := by
  obtain ⟨cur, h1, h2⟩ := h
  exact ⟨cur, h1.below hb hg, h2⟩
theorem RowAt.own {W : World} {g cap base : Nat} {l : List Sg} (h : RowAt W g cap l) (hb : base ≤ g) : W.ownsRow base 105 3 (.slice (some ⟨g, 0, none⟩) l.length cap) l.length (cellsOfS l) := by
  obtain ⟨cur, h1, h2, h3, h4, h5⟩ := h
  exact ⟨by rw [cellsOfS_len], .inr ⟨g, cap, cur, rfl, hb, h1, h3, by unfold maxLen; omega, h2, h5⟩⟩
theorem RowAt.of_own {W : World} {g cap base : Nat} {l : List Sg} (hc : cap ≤ 1000000000) (h : W.ownsRow base 105 3 (.slice (some ⟨g, 0, none⟩) l.length cap) l.length (cellsOfS l)) : RowAt W g cap l := by
  obtain ⟨h1, h2 | ⟨g', cap', cur, e, h3, h4, h5, h6, h7, h8⟩⟩ := h
  · cases h2.1
  · cases e
    exact ⟨cur, h4, h7, h5, hc, h8⟩
theorem RowAt.other {W : World} {g cap b i : Nat} {l : List Sg} (h : RowAt W g cap l) (hne : g ≠ b) (v : Value) : RowAt (W.setCell ⟨b, i, none⟩ v) g cap l := by
  obtain ⟨cur, h1, h2⟩ := h
  exact ⟨cur, h1.other hne v, h2⟩
theorem RowAt.made {W : World} (n : Nat) (hn : n ≤ 1000000000) : RowAt (W.alloc (.cells (madeCells #[.int .i64 0, .int .i64 0, .int .i64 0] (n * 3)) 105)) W.heap.size n [] :=
  ⟨_, Blk.made _ _ _, by simp [madeCells], by simp, hn, by simp [cellsOfS]⟩
theorem fresh_at (w : World) (cs : Array Value) (t : TypeId) (k : Nat) (h : k = w.heap.size) : ∀ j u, cs.toList[j]? = some u → (w.alloc (.cells cs t)).cell? ((⟨k, 0, none⟩ : Addr).add j) = some u := by
  subst h
  exact new_cells w cs t
theorem madeRow (n : Nat) (hn : n ≤ 1000000000) (W : World) (o : Obj) (g : Nat) (h : g = W.heap.size) : RowAt ((W.alloc (.cells (madeCells #[.int .i64 0, .int .i64 0, .int .i64 0] (n * 3)) 105)).alloc o) g n [] := by
  subst h
  obtain ⟨cur, h1, h2⟩ := RowAt.made (W := W) n hn
  exact ⟨cur, h1.alloc _, h2⟩
/-- A slice of runs lies on where only blocks of one cell, or of none, are turned. -/
theorem argS_turn {w w' : World} {a : Option Addr} {l : List Sg} (h : ArgS w a l) (hs : w.heap.size ≤ w'.heap.size) (hk : ∀ k i v, w.cell? ⟨k, i + 1, none⟩ = some v → w'.heap[k]? = w.heap[k]?) : ArgS w' a l := fun hl => by
  obtain ⟨b, off, e, h1, h2⟩ := h hl
  have hb : w'.heap[b]? = w.heap[b]? := by
    obtain ⟨_, q, _⟩ := h2 0 hl
    exact hk b _ _ q
  have hc : ∀ i, w'.cell? ⟨b, i, none⟩ = w.cell? ⟨b, i, none⟩ := fun i => World.cell?_of_block (a := ⟨b, i, none⟩) hb
  refine ⟨b, off, e, Nat.lt_of_lt_of_le h1 hs, fun i hi => ?_⟩
  obtain ⟨q1, q2, q3⟩ := h2 i hi
  exact ⟨(hc _).trans q1, (hc _).trans q2, (hc _).trans q3⟩
theorem one_cell {w : World} {k i : Nat} {x v : Value} {t : TypeId} (h : Blk w k #[x] t) (hc : w.cell? ⟨k, i + 1, none⟩ = some v) : False := by
  rw [h.cell] at hc; simp at hc
theorem no_cell {w : World} {k i : Nat} {v : Value} {d : Option (List Deferred)} (h : w.heap[k]? = some (.deferred d)) (hc : w.cell? ⟨k, i, none⟩ = some v) : False := by
  simp [World.cell?, h] at hc
theorem Blk.put {w : World} {k : Nat} {cs : Array Value} {t : TypeId} (h : Blk w k cs t) {b : Nat} (hb : k ≠ b) (o : Obj) : Blk (w.putObj b o) k cs t := (World.putObj_heap_other hb).trans h
/-- Between two rounds of the loop. -/
def CombI (k : Int) (F G : List Sg) (w : World) (v0 : Value) (pre : List Tg) (W : World) : Prop :=
  Below w.heap.size w W ∧ w.heap.size + 1 + 1 + 1 + 1 < W.heap.size ∧ Blk W w.heap.size v0.cells 217 ∧ Blk W (w.heap.size + 1) #[.slice none 0 0] 22 ∧ Blk W (w.heap.size + 1 + 1) #[.int .i64 0] 28 ∧
    RowAt W (w.heap.size + 1 + 1 + 1) (F.length + G.length) (pre.map (rawOf k)) ∧ Blk W (w.heap.size + 1 + 1 + 1 + 1) #[.slice (some ⟨w.heap.size + 1 + 1 + 1, 0, none⟩) pre.length (F.length + G.length)] 22 ∧ (∀ p ∈ pre, errOf k p = 0)
/-- A round has left with an error. -/
def CombX (k : Int) (F G : List Sg) (w : World) (c : Code) (W : World) : Prop :=
  c = .ret ∧ Below w.heap.size w W ∧ Blk W (w.heap.size + 1) #[.slice none 0 0] 22 ∧ Blk W (w.heap.size + 1 + 1) #[.int .i64 (doS k F G).2] 28 ∧ (doS k F G).1 = []
theorem combI_below {k : Int} {F G : List Sg} {w : World} {v0 : Value} {pre : List Tg} {A B : World} (h : CombI k F G w v0 pre A) (hb : Below (w.heap.size + 1 + 1 + 1 + 1 + 1) A B) : CombI k F G w v0 pre B := by
  obtain ⟨h1, h2, h3, h4, h5, h6, h7, h8⟩ := h
  exact ⟨h1.trans (hb.mono (by omega)), Nat.lt_of_lt_of_le h2 hb.size, h3.below hb (by omega), h4.below hb (by omega), h5.below hb (by omega), h6.below hb (by omega), h7.below hb (by omega), h8⟩
theorem combX_below {k : Int} {F G : List Sg} {w : World} {c : Code} {A B : World} (h : CombX k F G w c A) (hb : Below (w.heap.size + 1 + 1 + 1 + 1 + 1) A B) : CombX k F G w c B := by
  obtain ⟨h1, h2, h3, h4, h5⟩ := h
  exact ⟨h1, h2.trans (hb.mono (by omega)), h3.below hb (by omega), h4.below hb (by omega), h5⟩

set_option maxRecDepth 100000 in
set_option maxHeartbeats 2000000 in
theorem comb_plus (F G : List Sg) (a a' : Option Addr) (cap cap' : Nat) (w : World) (hF : F.length ≤ cap) (hc : cap ≤ 9223372036854775807) (hG : G.length ≤ cap') (hc' : cap' ≤ 9223372036854775807) (hl : F.length + G.length ≤ 1000000000)
    (hA : ArgS w a F) (hA' : ArgS w a' G) (hm : mayB F = true) (hm' : mayB G = true) :
    Calls Tryz.prog 142 #[.agg #[.slice a F.length cap, .slice a' G.length cap', .func (.func 141) #[] #[]]] w (OfIs w (doS 0 F G).1 (doS 0 F G).2) := by
  have HBAD := hidE (fun (p : Tg) hp he => comb_bad (k := 0) hm hm' (p := p) hp he)
  have HOK := hidE (fun he => comb_ok (k := 0) hm hm' he)
  have HSEQ := hidE (fun w' hb => tog_c F G a a' cap cap' (.func (.func 141) #[] #[]) w w' hF hc hG hc' hl hA hA' hb)
  have HLEN := hidE (togL_len F G)
  have HMK := hidE (make_segs2 F.length G.length hl)
  clear hA hA' hm hm' hF hc hG hc'
  refine (callsIn_wide (n := 0)).1 (callsIn_of_wp_marks Tryz.func142 rfl trivial ((wpIn_wide (n := 0)).2 ?_))
  simp only [Tryz.ntmps142, List.size_toArray, List.length_cons, List.length_nil, Nat.reduceAdd, Nat.reduceSub, Array.replicate_succ, Array.replicate_zero, List.push_toArray, List.append_toArray, List.nil_append, List.cons_append]
  have hmk := HMK.out
  go_wp2
  have hm3 := madeRow (F.length + G.length) hl
  have HI0 : CombI 0 F G w (.agg #[.slice a F.length cap, .slice a' G.length cap', .func (.func 141) #[] #[]]) [] ((((((w.alloc (Obj.cells #[Value.slice a F.length cap, Value.slice a' G.length cap', .func (.func 141) #[] #[]] 217)).alloc (Obj.cells #[Value.slice none 0 0] 22)).alloc (Obj.cells #[Value.int IntKind.i64 0] 28)).alloc (Obj.cells (madeCells #[Value.int IntKind.i64 0, Value.int IntKind.i64 0, Value.int IntKind.i64 0] ((F.length + G.length) * 3)) 105)).alloc (Obj.cells #[Value.slice (some { block := w.heap.size + 1 + 1 + 1, off := 0 }) 0 (F.length + G.length)] 22))) :=
    ⟨by (repeat (first | exact Below.refl _ _ | assumption | refine balloc ?_ _ | refine below_drewN ?_ _ | refine bstep (by assumption) ?_ | refine bstep (Past.prop _) ?_ | refine Below.setCell ?_ (by first | exact Nat.le_refl _ | (simp; done) | (simp; omega)) _)), by simp, (((Blk.made _ _ _).alloc _).alloc _).alloc _ |>.alloc _, (((Blk.made_at _ _ _ _ (by simp)).alloc _).alloc _).alloc _, ((Blk.made_at _ _ _ _ (by simp)).alloc _).alloc _, hm3 _ _ _ (by simp), Blk.made_at _ _ _ _ (by simp), fun p hp => by simp at hp⟩
  have HS5 : (((((((w.alloc (Obj.cells #[Value.slice a F.length cap, Value.slice a' G.length cap', .func (.func 141) #[] #[]] 217)).alloc (Obj.cells #[Value.slice none 0 0] 22)).alloc (Obj.cells #[Value.int IntKind.i64 0] 28)).alloc (Obj.cells (madeCells #[Value.int IntKind.i64 0, Value.int IntKind.i64 0, Value.int IntKind.i64 0] ((F.length + G.length) * 3)) 105)).alloc (Obj.cells #[Value.slice (some { block := w.heap.size + 1 + 1 + 1, off := 0 }) 0 (F.length + G.length)] 22)))).heap.size = w.heap.size + 1 + 1 + 1 + 1 + 1 := by simp
  have HB5 : Below w.heap.size w ((((((w.alloc (Obj.cells #[Value.slice a F.length cap, Value.slice a' G.length cap', .func (.func 141) #[] #[]] 217)).alloc (Obj.cells #[Value.slice none 0 0] 22)).alloc (Obj.cells #[Value.int IntKind.i64 0] 28)).alloc (Obj.cells (madeCells #[Value.int IntKind.i64 0, Value.int IntKind.i64 0, Value.int IntKind.i64 0] ((F.length + G.length) * 3)) 105)).alloc (Obj.cells #[Value.slice (some { block := w.heap.size + 1 + 1 + 1, off := 0 }) 0 (F.length + G.length)] 22))) := by (repeat (first | exact Below.refl _ _ | assumption | refine balloc ?_ _ | refine below_drewN ?_ _ | refine bstep (by assumption) ?_ | refine bstep (Past.prop _) ?_ | refine Below.setCell ?_ (by first | exact Nat.le_refl _ | (simp; done) | (simp; omega)) _))
  generalize ((((((w.alloc (Obj.cells #[Value.slice a F.length cap, Value.slice a' G.length cap', .func (.func 141) #[] #[]] 217)).alloc (Obj.cells #[Value.slice none 0 0] 22)).alloc (Obj.cells #[Value.int IntKind.i64 0] 28)).alloc (Obj.cells (madeCells #[Value.int IntKind.i64 0, Value.int IntKind.i64 0, Value.int IntKind.i64 0] ((F.length + G.length) * 3)) 105)).alloc (Obj.cells #[Value.slice (some { block := w.heap.size + 1 + 1 + 1, off := 0 }) 0 (F.length + G.length)] 22))) = W5 at *
  refine wp_rangeFunc_T (n₀ := w.heap.size) (S := togL F G) rfl (enters_of Tryz.func184 (by kernel_rfl) rfl) HB5.size (HSEQ.out _ HB5) (fun _ => rfl)
    (CombI 0 F G w (.agg #[.slice a F.length cap, .slice a' G.length cap', .func (.func 141) #[] #[]])) (fun c _ W => CombX 0 F G w c W)
    (fun s A B h hb => combI_below h (HS5 ▸ hb)) (fun c s A B h hb => combX_below h (HS5 ▸ hb)) HI0
    (fun x a1 W => ∃ Bx : Nat, w.heap.size + 1 + 1 + 1 + 1 + 1 ≤ Bx ∧ Blk W Bx #[.int .i64 x.2.1.1, .int .i64 x.2.1.2, .int .i64 x.2.2.1, .int .i64 x.2.2.2] 251 ∧ a1 = { tmps := #[.agg #[.slice a F.length cap, .slice a' G.length cap', .func (.func 141) #[] #[]], .pointer (some ⟨w.heap.size, 0, none⟩), .pointer (some ⟨w.heap.size + 1, 0, none⟩), .pointer (some ⟨w.heap.size + 1 + 1, 0, none⟩), .pointer (some ⟨w.heap.size + 1 + 1 + 1 + 1, 0, none⟩), .int .i64 x.1, .pointer (some ⟨Bx, 0, none⟩), undef, undef,
      .pointer (some ⟨w.heap.size, 0, none⟩), .slice a F.length cap, .int .i64 F.length, .pointer (some ⟨w.heap.size, 1, none⟩), .slice a' G.length cap', .int .i64 G.length, .int .i64 ((F.length : Int) + (G.length : Int)), .slice (some ⟨w.heap.size + 1 + 1 + 1, 0, none⟩) 0 (F.length + G.length), .agg #[.slice a F.length cap, .slice a' G.length cap', .func (.func 141) #[] #[]],
      .func (.func 184) #[.agg #[.slice a F.length cap, .slice a' G.length cap', .func (.func 141) #[] #[]]] #[], .int .i64 x.1, .agg #[.int .i64 x.2.1.1, .int .i64 x.2.1.2, .int .i64 x.2.2.1, .int .i64 x.2.2.2], undef, undef, undef, undef, undef, undef, undef, undef, undef, undef, undef, undef, undef, undef, undef, undef, undef, undef, undef, undef, undef, undef, undef], defers := [] })
    ?hax ?assign ?body ?done ?stop
  case hax =>
    rintro x a1 A l r o ⟨Bx, h1, h2, h3⟩ hlr
    exact ⟨Bx, h1, (World.putObj_heap_other (fun e => by subst e; rw [show A.heap[Bx]? = _ from h2] at hlr; cases hlr)).trans h2, h3⟩
  case assign =>
    intro l pre x W K hsz hi hK
    rw [HS5] at hsz
    dsimp only [encT]
    gi_wp2
    exact hK _ _ (Outside.of_below ((Below.refl _ _).alloc (Nat.le_refl _) _) (by omega)) (combI_below hi ((Below.refl _ _).alloc (by omega) _)) ⟨W.heap.size, by omega, Blk.made _ _ _, rfl⟩
  case body =>
    rintro l pre x a1 W hsz ⟨i1, i2, i3, i4, i5, i6, i7, i8⟩ ⟨Bx, hBx, bX, rfl⟩ hpre
    rw [HS5] at hsz
    clear HI0 HSEQ HMK hmk hm3
    have HOP := hidE (plus_c x.2.1.1 x.2.1.2 x.2.2.1 x.2.2.2 W)
    change Hid (Calls _ _ _ W fun e w' => e = .returned (VE (opV 0 x.2.1 x.2.2)) ∧ _) at HOP
    have HRAW := hidE (show rawOf 0 x = (x.1, ((opV 0 x.2.1 x.2.2).1, (opV 0 x.2.1 x.2.2).2.1)) from rfl)
    have HERR := hidE (show errOf 0 x = (opV 0 x.2.1 x.2.2).2.2 from rfl)
    generalize opV 0 x.2.1 x.2.2 = q at *
    have p2 := i3.cell 2; have r0 := i7.cell 0; have rf := i7.free; have e0 := i5.cell 0; have ef := i5.free; have v0 := i4.cell 0; have vf := i4.free
    have x0 := bX.cell 0; have x1 := bX.cell 1; have x2 := bX.cell 2; have x3 := bX.cell 3; have xz := bX.lt
    simp [Value.cells] at p2 r0 e0 v0 x0 x1 x2 x3
    gi_wp2_with fail
    refine ⟨trivial, rfl, (CallsIn.inRound l (callsIn_wide.2 HOP.out)).mono ?_⟩
    rintro e w1 ⟨rfl, hb1⟩
    clear p2 r0 rf e0 ef v0 vf x0 x1 x2 x3 xz
    have HB1 := hidE hb1
    have o1 : Outside w.heap.size W5.heap.size W w1 := Outside.of_below hb1 i1.size
    have hz1 : w.heap.size + 1 + 1 + 1 + 1 + 1 ≤ w1.heap.size := Nat.le_trans hsz hb1.size
    have BE := i5.past hb1; have BV := i4.past hb1; have BR := i7.past hb1
    have r0 := BR.cell 0; have rf := BR.free; have rz := BR.lt; have e0 := BE.cell 0; have ef := BE.free; have ez := BE.lt; have v0 := BV.cell 0; have vf := BV.free; have vz := BV.lt
    simp at r0 e0 v0
    by_cases hq : q.2.2 = 0
    · have g2 : (q.2.2 != 0) = false := by rw [bne_eq_false_iff_eq]; exact hq
      have HE0 := hidE (HERR.out.trans hq)
      have hsl : (pre.map (rawOf 0)).length = pre.length := by simp
      have hlt : pre.length + 1 ≤ F.length + G.length := by
        have h1 := hpre.length_le
        simp only [List.length_append, List.length_cons, List.length_nil] at h1
        have := HLEN.out; omega
      have HROW := hidE (i6.below hb1 (by omega))
      have APP := hidE (fun W' (hb : Below w1.heap.size w1 W') => show W'.ownsRow w.heap.size 105 3 (.slice (some ⟨w.heap.size + 1 + 1 + 1, 0, none⟩) pre.length (F.length + G.length)) pre.length (cellsOfS (pre.map (rawOf 0))) from by
        have := (HROW.out.below hb (by omega)).own (base := w.heap.size) (by omega)
        rw [hsl] at this; exact this)
      obtain ⟨ix, hix, hz0, hzz, hz2⟩ := info_parts Tryz.infoSeg
      have HI := hidE hix; have HZ1 := hidE hzz
      have HI1 := hidE i1; have HI3 := hidE i3; have HI8 := hidE i8; have HPRE := hidE hpre
      have BF := i3.past hb1; have BE' := hidE BE; have BV' := hidE BV
      clear hq hix hz0 hzz hz2 i1 i3 i4 i5 i6 i7 i8 hpre BE BV HERR HOP HBAD HOK bX e0 ef ez v0 vf vz hb1 hsl
      gi_wp2_with (gi_at_builtin; refine wpListIn_append_fits _ rfl (.tmp 34) (.tmp 38) 22 rfl w.heap.size 105 ix 3 Tryz.underlying22 HI.out HZ1.out (w.heap.size + 1 + 1 + 1) pre.length (F.length + G.length) _ rfl (APP.out _ (by (repeat (first | exact Below.refl _ _ | assumption | refine balloc ?_ _ | refine below_drewN ?_ _ | refine bstep (by assumption) ?_ | refine bstep (Past.prop _) ?_ | refine Below.setCell ?_ (by first | exact Nat.le_refl _ | (simp; done) | (simp; omega)) _)))) ⟨_, 0, none⟩ 1 1 [.int .i64 x.1, .int .i64 q.1, .int .i64 q.2.1] rfl rfl (fresh_at _ #[.int .i64 x.1, .int .i64 q.1, .int .i64 q.2.1] 105 _ (by simp)) (by intro y hy; simp at hy; rcases hy with rfl | rfl | rfl <;> rfl) (by omega) ?_; intro w4 hown4 hgrow4; have BR4 := ((BR.alloc _).alloc _).grown hgrow4 (by simp); have r4 := BR4.cell 0; have rf4 := BR4.free; have rz4 := BR4.lt; simp at r4; have HG4 := hidE hgrow4; have HO4 := hidE hown4; have HR4 := hidE BR4; clear hgrow4 hown4 r0 rf rz BR4)
      have o2 : Outside w.heap.size W5.heap.size w1 _ := Outside.of_below (((Below.refl _ w1).alloc (Nat.le_refl _) (Obj.cells #[Value.int IntKind.i64 q.fst, Value.int IntKind.i64 q.snd.fst] 65)).alloc (by simp) (Obj.cells #[Value.int IntKind.i64 x.fst, Value.int IntKind.i64 q.fst, Value.int IntKind.i64 q.snd.fst] 105)) (by omega)
      have o3 : Outside w.heap.size W5.heap.size _ w4 := Outside.of_grown HG4.out (by omega) (by omega) (by simp; omega)
      have o4 : Outside w.heap.size W5.heap.size w4 _ := Outside.of_grown (grown_set w4 (w.heap.size + 1 + 1 + 1 + 1) 0 (.slice (some ⟨w.heap.size + 1 + 1 + 1, 0, none⟩) (pre.length + 1) (F.length + G.length))) (by omega) (by omega) (by omega)
      have oo := ((o1.trans o2).trans o3).trans o4
      have hmap : (pre ++ [x]).map (rawOf 0) = pre.map (rawOf 0) ++ [(x.1, (q.1, q.2.1))] := by rw [List.map_append, List.map_cons, List.map_nil, HRAW.out]
      have hlen : ((pre ++ [x]).map (rawOf 0)).length = pre.length + 1 := by simp
      have hrow : RowAt w4 (w.heap.size + 1 + 1 + 1) (F.length + G.length) ((pre ++ [x]).map (rawOf 0)) := RowAt.of_own (base := w.heap.size) hl (by
        rw [hlen, hmap, cellsOfS_app]; exact HO4.out)
      refine ⟨oo, HI1.out.trans oo.below, by simp [World.setCell]; omega, (((BF.alloc _).alloc _).grown HG4.out (by simp; omega)).other (by omega) _, (((BV'.out.alloc _).alloc _).grown HG4.out (by simp)).other (by omega) _, (((BE'.out.alloc _).alloc _).grown HG4.out (by simp)).other (by omega) _, hrow.other (by omega) _, ?_, fun p hp => ?_⟩
      · have := HR4.out.set 0 (.slice (some ⟨w.heap.size + 1 + 1 + 1, 0, none⟩) (pre.length + 1) (F.length + G.length))
        simpa using this
      · rcases List.mem_append.1 hp with h | h
        · exact HI8.out p h
        · simp at h; subst h; exact HE0.out
    · have g2 : (q.2.2 != 0) = true := bne_iff_ne.2 hq
      have HB := hidE (HBAD.out x (hpre.subset (by simp)) (by rw [HERR.out]; exact hq))
      have hb' := HB.out
      rw [HERR.out] at hb'
      have HD := hidE hb'
      clear hb'
      gi_wp2
      have o2 : Outside w.heap.size W5.heap.size _ _ := Outside.of_grown (grown_set w1 (w.heap.size + 1) 0 (.slice none 0 0)) (by omega) (by omega) (by omega)
      have o3 : Outside w.heap.size W5.heap.size _ _ := Outside.of_grown (grown_set (w1.setCell ⟨w.heap.size + 1, 0, none⟩ (.slice none 0 0)) (w.heap.size + 1 + 1) 0 (.int .i64 q.2.2)) (by omega) (by omega) (by simp [World.setCell]; omega)
      have o4 : Outside w.heap.size W5.heap.size _ _ := Outside.of_below ((Below.refl _ ((w1.setCell ⟨w.heap.size + 1, 0, none⟩ (.slice none 0 0)).setCell ⟨w.heap.size + 1 + 1, 0, none⟩ (.int .i64 q.2.2))).alloc (Nat.le_refl _) (Obj.cells #[Value.int IntKind.i64 q.fst, Value.int IntKind.i64 q.snd.fst] 65)) (by simp [World.setCell]; omega)
      have oo := ((o1.trans o2).trans o3).trans o4
      refine ⟨oo, rfl, i1.trans oo.below, ?_, ?_, by rw [HD.out]⟩
      · have := ((BV.set 0 (.slice none 0 0)).other (b := w.heap.size + 1 + 1) (i := 0) (by omega) (.int .i64 q.2.2)).alloc (Obj.cells #[Value.int IntKind.i64 q.fst, Value.int IntKind.i64 q.snd.fst] 65)
        simpa using this
      · have := ((BE.other (b := w.heap.size + 1) (i := 0) (by omega) (.slice none 0 0)).set 0 (.int .i64 q.2.2)).alloc (Obj.cells #[Value.int IntKind.i64 q.fst, Value.int IntKind.i64 q.snd.fst] 65)
        rw [HD.out]
        simpa using this
  case done =>
    rintro D W hD ⟨i1, i2, i3, i4, i5, i6, i7, i8⟩ hK
    rw [HS5] at hD
    have hD' : D < W.heap.size := (Array.getElem?_eq_some_iff.1 hK).1
    obtain ⟨hok, hun⟩ := HOK.out i8
    have HUN := hidE hun; have HALL := hidE hok
    have hml : ((togL F G).map (rawOf 0)).length = (togL F G).length := by simp
    obtain ⟨aR, capR, eR, _, _, hAR⟩ := sliS_own (i6.own (base := w.heap.size) (by omega))
    cases eR
    have HOF := hidE (show Calls Tryz.prog 182 #[.slice (some ⟨w.heap.size + 1 + 1 + 1, 0, none⟩) (togL F G).length (F.length + G.length)] W (OfPost W ((togL F G).map (rawOf 0))) from by
      have := of_c ((togL F G).map (rawOf 0)) _ (F.length + G.length) W (by rw [hml]; have := HLEN.out; omega) hAR
      rw [hml] at this; exact this)
    have r0 := i7.cell 0; have rf := i7.free; have rz := i7.lt; have e0 := i5.cell 0; have ef := i5.free; have ez := i5.lt; have v0 := i4.cell 0; have vf := i4.free; have vz := i4.lt
    simp at r0 e0 v0
    have HKD := hidE hK; have BE := hidE i5; have BV := hidE i4
    clear HI0 HSEQ HMK hmk hm3 hun hok hAR i3 i4 i5 i6 i7 hK HOK HBAD
    go_wp2_with fail
    ((with_reducible refine (HOF.out).mono ?_); rintro e w1 ⟨v1, f1, er, rfl, hs1, hcase, hb1⟩)
    clear r0 rf rz e0 ef ez v0 vf vz
    have BE1 := BE.out.past hb1; have BV1 := BV.out.past hb1
    have e0 := BE1.cell 0; have ef := BE1.free; have ez := BE1.lt; have v0 := BV1.cell 0; have vf := BV1.free; have vz := BV1.lt
    simp at e0 v0
    obtain ⟨a1, c1, rfl, hs11, hs12, hs13⟩ := hs1
    have HS1 := hidE (And.intro hs11 (And.intro hs12 hs13)); have HC := hidE hcase; have HB1 := hidE hb1
    clear hs11 hs12 hs13 hcase hb1
    go_wp2
    obtain ⟨h2, h3, h4⟩ := HS1.out
    have hkf : ((w1.setCell ⟨w.heap.size + 1, 0, none⟩ (.slice a1 f1.length c1)).setCell ⟨w.heap.size + 1 + 1, 0, none⟩ (.int .i64 er)).heap[D]? = some (.deferred (some [])) :=
      (Below.heap_setCell _ _ _ _ (by simp; omega)).trans ((Below.heap_setCell _ _ _ _ (by simp; omega)).trans ((HB1.out.block D hD').trans HKD.out))
    have g1 := (((BV1.set 0 (.slice a1 f1.length c1)).other (b := w.heap.size + 1 + 1) (i := 0) (by omega) (.int .i64 er)).put (b := D) (by omega) (.deferred none)).cell 0
    have g2 := (((BE1.other (b := w.heap.size + 1) (i := 0) (by omega) (.slice a1 f1.length c1)).set 0 (.int .i64 er)).put (b := D) (by omega) (.deferred none)).cell 0
    simp at g1 g2
    have hdz : D < w1.heap.size := Nat.lt_of_lt_of_le hD' HB1.out.size
    refine ⟨by simp, .inl ⟨_, _, rfl, run_takeDeferred hkf, ?_⟩⟩
    refine ⟨.tuple #[.slice a1 f1.length c1, .int .i64 er], by simp [results, Tryz.results142, go_sem, g1, g2], ?_⟩
    rcases HC.out with ⟨_, q2, q3⟩ | ⟨q1, _, _⟩
    · rw [HUN.out _ q3, q2]
      refine ⟨_, rfl, ⟨a1, c1, rfl, h2, h3, argS_turn h4 (by simp [World.setCell]) (fun k i v hc => ?_)⟩, ?_⟩
      · by_cases e1 : k = w.heap.size + 1
        · subst e1; exact (one_cell BV1 hc).elim
        by_cases e2 : k = w.heap.size + 1 + 1
        · subst e2; exact (one_cell BE1 hc).elim
        by_cases e3 : k = D
        · subst e3; exact (no_cell ((HB1.out.block k hD').trans HKD.out) hc).elim
        · exact (World.putObj_heap_other e3).trans ((Below.heap_setCell _ _ _ _ e2).trans (Below.heap_setCell _ _ _ _ e1))
      · refine ((((i1.trans (HB1.out.mono i1.size)).setCell (p := ⟨w.heap.size + 1, 0, none⟩) (by simp) _).setCell (p := ⟨w.heap.size + 1 + 1, 0, none⟩) (by simp; omega) _)).trans (below_putObj _ _ _ (by omega))
    · rw [HALL.out] at q1; cases q1
  case stop =>
    rintro D c pre W hD hpre ⟨rfl, i1, i2, i3, hnil⟩ hK
    rw [HS5] at hD
    have g1 := (i2.put (b := D) (by omega) (.deferred none)).cell 0
    have g2 := (i3.put (b := D) (by omega) (.deferred none)).cell 0
    simp at g1 g2
    have HI1 := hidE i1
    clear HI0 HSEQ HMK hmk hm3 i2 i3 HOK HBAD
    go_wp2
    refine ⟨by simp, .inl ⟨_, _, rfl, run_takeDeferred hK, ?_⟩⟩
    refine ⟨.tuple #[.slice none 0 0, .int .i64 (doS 0 F G).2], by simp [results, Tryz.results142, go_sem, g1, g2], ?_⟩
    rw [hnil]
    exact ⟨_, rfl, sliS_nil _, HI1.out.trans (below_putObj _ _ _ (by omega))⟩

set_option maxRecDepth 100000 in
set_option maxHeartbeats 2000000 in
theorem comb_sub (F G : List Sg) (a a' : Option Addr) (cap cap' : Nat) (w : World) (hF : F.length ≤ cap) (hc : cap ≤ 9223372036854775807) (hG : G.length ≤ cap') (hc' : cap' ≤ 9223372036854775807) (hl : F.length + G.length ≤ 1000000000)
    (hA : ArgS w a F) (hA' : ArgS w a' G) (hm : mayB F = true) (hm' : mayB G = true) :
    Calls Tryz.prog 142 #[.agg #[.slice a F.length cap, .slice a' G.length cap', .func (.func 212) #[] #[]]] w (OfIs w (doS 1 F G).1 (doS 1 F G).2) := by
  have HBAD := hidE (fun (p : Tg) hp he => comb_bad (k := 1) hm hm' (p := p) hp he)
  have HOK := hidE (fun he => comb_ok (k := 1) hm hm' he)
  have HSEQ := hidE (fun w' hb => tog_c F G a a' cap cap' (.func (.func 212) #[] #[]) w w' hF hc hG hc' hl hA hA' hb)
  have HLEN := hidE (togL_len F G)
  have HMK := hidE (make_segs2 F.length G.length hl)
  clear hA hA' hm hm' hF hc hG hc'
  refine (callsIn_wide (n := 0)).1 (callsIn_of_wp_marks Tryz.func142 rfl trivial ((wpIn_wide (n := 0)).2 ?_))
  simp only [Tryz.ntmps142, List.size_toArray, List.length_cons, List.length_nil, Nat.reduceAdd, Nat.reduceSub, Array.replicate_succ, Array.replicate_zero, List.push_toArray, List.append_toArray, List.nil_append, List.cons_append]
  have hmk := HMK.out
  go_wp2
  have hm3 := madeRow (F.length + G.length) hl
  have HI0 : CombI 1 F G w (.agg #[.slice a F.length cap, .slice a' G.length cap', .func (.func 212) #[] #[]]) [] ((((((w.alloc (Obj.cells #[Value.slice a F.length cap, Value.slice a' G.length cap', .func (.func 212) #[] #[]] 217)).alloc (Obj.cells #[Value.slice none 0 0] 22)).alloc (Obj.cells #[Value.int IntKind.i64 0] 28)).alloc (Obj.cells (madeCells #[Value.int IntKind.i64 0, Value.int IntKind.i64 0, Value.int IntKind.i64 0] ((F.length + G.length) * 3)) 105)).alloc (Obj.cells #[Value.slice (some { block := w.heap.size + 1 + 1 + 1, off := 0 }) 0 (F.length + G.length)] 22))) :=
    ⟨by (repeat (first | exact Below.refl _ _ | assumption | refine balloc ?_ _ | refine below_drewN ?_ _ | refine bstep (by assumption) ?_ | refine bstep (Past.prop _) ?_ | refine Below.setCell ?_ (by first | exact Nat.le_refl _ | (simp; done) | (simp; omega)) _)), by simp, (((Blk.made _ _ _).alloc _).alloc _).alloc _ |>.alloc _, (((Blk.made_at _ _ _ _ (by simp)).alloc _).alloc _).alloc _, ((Blk.made_at _ _ _ _ (by simp)).alloc _).alloc _, hm3 _ _ _ (by simp), Blk.made_at _ _ _ _ (by simp), fun p hp => by simp at hp⟩
  have HS5 : (((((((w.alloc (Obj.cells #[Value.slice a F.length cap, Value.slice a' G.length cap', .func (.func 212) #[] #[]] 217)).alloc (Obj.cells #[Value.slice none 0 0] 22)).alloc (Obj.cells #[Value.int IntKind.i64 0] 28)).alloc (Obj.cells (madeCells #[Value.int IntKind.i64 0, Value.int IntKind.i64 0, Value.int IntKind.i64 0] ((F.length + G.length) * 3)) 105)).alloc (Obj.cells #[Value.slice (some { block := w.heap.size + 1 + 1 + 1, off := 0 }) 0 (F.length + G.length)] 22)))).heap.size = w.heap.size + 1 + 1 + 1 + 1 + 1 := by simp
  have HB5 : Below w.heap.size w ((((((w.alloc (Obj.cells #[Value.slice a F.length cap, Value.slice a' G.length cap', .func (.func 212) #[] #[]] 217)).alloc (Obj.cells #[Value.slice none 0 0] 22)).alloc (Obj.cells #[Value.int IntKind.i64 0] 28)).alloc (Obj.cells (madeCells #[Value.int IntKind.i64 0, Value.int IntKind.i64 0, Value.int IntKind.i64 0] ((F.length + G.length) * 3)) 105)).alloc (Obj.cells #[Value.slice (some { block := w.heap.size + 1 + 1 + 1, off := 0 }) 0 (F.length + G.length)] 22))) := by (repeat (first | exact Below.refl _ _ | assumption | refine balloc ?_ _ | refine below_drewN ?_ _ | refine bstep (by assumption) ?_ | refine bstep (Past.prop _) ?_ | refine Below.setCell ?_ (by first | exact Nat.le_refl _ | (simp; done) | (simp; omega)) _))
  generalize ((((((w.alloc (Obj.cells #[Value.slice a F.length cap, Value.slice a' G.length cap', .func (.func 212) #[] #[]] 217)).alloc (Obj.cells #[Value.slice none 0 0] 22)).alloc (Obj.cells #[Value.int IntKind.i64 0] 28)).alloc (Obj.cells (madeCells #[Value.int IntKind.i64 0, Value.int IntKind.i64 0, Value.int IntKind.i64 0] ((F.length + G.length) * 3)) 105)).alloc (Obj.cells #[Value.slice (some { block := w.heap.size + 1 + 1 + 1, off := 0 }) 0 (F.length + G.length)] 22))) = W5 at *
  refine wp_rangeFunc_T (n₀ := w.heap.size) (S := togL F G) rfl (enters_of Tryz.func184 (by kernel_rfl) rfl) HB5.size (HSEQ.out _ HB5) (fun _ => rfl)
    (CombI 1 F G w (.agg #[.slice a F.length cap, .slice a' G.length cap', .func (.func 212) #[] #[]])) (fun c _ W => CombX 1 F G w c W)
    (fun s A B h hb => combI_below h (HS5 ▸ hb)) (fun c s A B h hb => combX_below h (HS5 ▸ hb)) HI0
    (fun x a1 W => ∃ Bx : Nat, w.heap.size + 1 + 1 + 1 + 1 + 1 ≤ Bx ∧ Blk W Bx #[.int .i64 x.2.1.1, .int .i64 x.2.1.2, .int .i64 x.2.2.1, .int .i64 x.2.2.2] 251 ∧ a1 = { tmps := #[.agg #[.slice a F.length cap, .slice a' G.length cap', .func (.func 212) #[] #[]], .pointer (some ⟨w.heap.size, 0, none⟩), .pointer (some ⟨w.heap.size + 1, 0, none⟩), .pointer (some ⟨w.heap.size + 1 + 1, 0, none⟩), .pointer (some ⟨w.heap.size + 1 + 1 + 1 + 1, 0, none⟩), .int .i64 x.1, .pointer (some ⟨Bx, 0, none⟩), undef, undef,
      .pointer (some ⟨w.heap.size, 0, none⟩), .slice a F.length cap, .int .i64 F.length, .pointer (some ⟨w.heap.size, 1, none⟩), .slice a' G.length cap', .int .i64 G.length, .int .i64 ((F.length : Int) + (G.length : Int)), .slice (some ⟨w.heap.size + 1 + 1 + 1, 0, none⟩) 0 (F.length + G.length), .agg #[.slice a F.length cap, .slice a' G.length cap', .func (.func 212) #[] #[]],
      .func (.func 184) #[.agg #[.slice a F.length cap, .slice a' G.length cap', .func (.func 212) #[] #[]]] #[], .int .i64 x.1, .agg #[.int .i64 x.2.1.1, .int .i64 x.2.1.2, .int .i64 x.2.2.1, .int .i64 x.2.2.2], undef, undef, undef, undef, undef, undef, undef, undef, undef, undef, undef, undef, undef, undef, undef, undef, undef, undef, undef, undef, undef, undef, undef], defers := [] })
    ?hax ?assign ?body ?done ?stop
  case hax =>
    rintro x a1 A l r o ⟨Bx, h1, h2, h3⟩ hlr
    exact ⟨Bx, h1, (World.putObj_heap_other (fun e => by subst e; rw [show A.heap[Bx]? = _ from h2] at hlr; cases hlr)).trans h2, h3⟩
  case assign =>
    intro l pre x W K hsz hi hK
    rw [HS5] at hsz
    dsimp only [encT]
    gi_wp2
    exact hK _ _ (Outside.of_below ((Below.refl _ _).alloc (Nat.le_refl _) _) (by omega)) (combI_below hi ((Below.refl _ _).alloc (by omega) _)) ⟨W.heap.size, by omega, Blk.made _ _ _, rfl⟩
  case body =>
    rintro l pre x a1 W hsz ⟨i1, i2, i3, i4, i5, i6, i7, i8⟩ ⟨Bx, hBx, bX, rfl⟩ hpre
    rw [HS5] at hsz
    clear HI0 HSEQ HMK hmk hm3
    have HOP := hidE (sub_c x.2.1.1 x.2.1.2 x.2.2.1 x.2.2.2 W)
    change Hid (Calls _ _ _ W fun e w' => e = .returned (VE (opV 1 x.2.1 x.2.2)) ∧ _) at HOP
    have HRAW := hidE (show rawOf 1 x = (x.1, ((opV 1 x.2.1 x.2.2).1, (opV 1 x.2.1 x.2.2).2.1)) from rfl)
    have HERR := hidE (show errOf 1 x = (opV 1 x.2.1 x.2.2).2.2 from rfl)
    generalize opV 1 x.2.1 x.2.2 = q at *
    have p2 := i3.cell 2; have r0 := i7.cell 0; have rf := i7.free; have e0 := i5.cell 0; have ef := i5.free; have v0 := i4.cell 0; have vf := i4.free
    have x0 := bX.cell 0; have x1 := bX.cell 1; have x2 := bX.cell 2; have x3 := bX.cell 3; have xz := bX.lt
    simp [Value.cells] at p2 r0 e0 v0 x0 x1 x2 x3
    gi_wp2_with fail
    refine ⟨trivial, rfl, (CallsIn.inRound l (callsIn_wide.2 HOP.out)).mono ?_⟩
    rintro e w1 ⟨rfl, hb1⟩
    clear p2 r0 rf e0 ef v0 vf x0 x1 x2 x3 xz
    have HB1 := hidE hb1
    have o1 : Outside w.heap.size W5.heap.size W w1 := Outside.of_below hb1 i1.size
    have hz1 : w.heap.size + 1 + 1 + 1 + 1 + 1 ≤ w1.heap.size := Nat.le_trans hsz hb1.size
    have BE := i5.past hb1; have BV := i4.past hb1; have BR := i7.past hb1
    have r0 := BR.cell 0; have rf := BR.free; have rz := BR.lt; have e0 := BE.cell 0; have ef := BE.free; have ez := BE.lt; have v0 := BV.cell 0; have vf := BV.free; have vz := BV.lt
    simp at r0 e0 v0
    by_cases hq : q.2.2 = 0
    · have g2 : (q.2.2 != 0) = false := by rw [bne_eq_false_iff_eq]; exact hq
      have HE0 := hidE (HERR.out.trans hq)
      have hsl : (pre.map (rawOf 1)).length = pre.length := by simp
      have hlt : pre.length + 1 ≤ F.length + G.length := by
        have h1 := hpre.length_le
        simp only [List.length_append, List.length_cons, List.length_nil] at h1
        have := HLEN.out; omega
      have HROW := hidE (i6.below hb1 (by omega))
      have APP := hidE (fun W' (hb : Below w1.heap.size w1 W') => show W'.ownsRow w.heap.size 105 3 (.slice (some ⟨w.heap.size + 1 + 1 + 1, 0, none⟩) pre.length (F.length + G.length)) pre.length (cellsOfS (pre.map (rawOf 1))) from by
        have := (HROW.out.below hb (by omega)).own (base := w.heap.size) (by omega)
        rw [hsl] at this; exact this)
      obtain ⟨ix, hix, hz0, hzz, hz2⟩ := info_parts Tryz.infoSeg
      have HI := hidE hix; have HZ1 := hidE hzz
      have HI1 := hidE i1; have HI3 := hidE i3; have HI8 := hidE i8; have HPRE := hidE hpre
      have BF := i3.past hb1; have BE' := hidE BE; have BV' := hidE BV
      clear hq hix hz0 hzz hz2 i1 i3 i4 i5 i6 i7 i8 hpre BE BV HERR HOP HBAD HOK bX e0 ef ez v0 vf vz hb1 hsl
      gi_wp2_with (gi_at_builtin; refine wpListIn_append_fits _ rfl (.tmp 34) (.tmp 38) 22 rfl w.heap.size 105 ix 3 Tryz.underlying22 HI.out HZ1.out (w.heap.size + 1 + 1 + 1) pre.length (F.length + G.length) _ rfl (APP.out _ (by (repeat (first | exact Below.refl _ _ | assumption | refine balloc ?_ _ | refine below_drewN ?_ _ | refine bstep (by assumption) ?_ | refine bstep (Past.prop _) ?_ | refine Below.setCell ?_ (by first | exact Nat.le_refl _ | (simp; done) | (simp; omega)) _)))) ⟨_, 0, none⟩ 1 1 [.int .i64 x.1, .int .i64 q.1, .int .i64 q.2.1] rfl rfl (fresh_at _ #[.int .i64 x.1, .int .i64 q.1, .int .i64 q.2.1] 105 _ (by simp)) (by intro y hy; simp at hy; rcases hy with rfl | rfl | rfl <;> rfl) (by omega) ?_; intro w4 hown4 hgrow4; have BR4 := ((BR.alloc _).alloc _).grown hgrow4 (by simp); have r4 := BR4.cell 0; have rf4 := BR4.free; have rz4 := BR4.lt; simp at r4; have HG4 := hidE hgrow4; have HO4 := hidE hown4; have HR4 := hidE BR4; clear hgrow4 hown4 r0 rf rz BR4)
      have o2 : Outside w.heap.size W5.heap.size w1 _ := Outside.of_below (((Below.refl _ w1).alloc (Nat.le_refl _) (Obj.cells #[Value.int IntKind.i64 q.fst, Value.int IntKind.i64 q.snd.fst] 65)).alloc (by simp) (Obj.cells #[Value.int IntKind.i64 x.fst, Value.int IntKind.i64 q.fst, Value.int IntKind.i64 q.snd.fst] 105)) (by omega)
      have o3 : Outside w.heap.size W5.heap.size _ w4 := Outside.of_grown HG4.out (by omega) (by omega) (by simp; omega)
      have o4 : Outside w.heap.size W5.heap.size w4 _ := Outside.of_grown (grown_set w4 (w.heap.size + 1 + 1 + 1 + 1) 0 (.slice (some ⟨w.heap.size + 1 + 1 + 1, 0, none⟩) (pre.length + 1) (F.length + G.length))) (by omega) (by omega) (by omega)
      have oo := ((o1.trans o2).trans o3).trans o4
      have hmap : (pre ++ [x]).map (rawOf 1) = pre.map (rawOf 1) ++ [(x.1, (q.1, q.2.1))] := by rw [List.map_append, List.map_cons, List.map_nil, HRAW.out]
      have hlen : ((pre ++ [x]).map (rawOf 1)).length = pre.length + 1 := by simp
      have hrow : RowAt w4 (w.heap.size + 1 + 1 + 1) (F.length + G.length) ((pre ++ [x]).map (rawOf 1)) := RowAt.of_own (base := w.heap.size) hl (by
        rw [hlen, hmap, cellsOfS_app]; exact HO4.out)
      refine ⟨oo, HI1.out.trans oo.below, by simp [World.setCell]; omega, (((BF.alloc _).alloc _).grown HG4.out (by simp; omega)).other (by omega) _, (((BV'.out.alloc _).alloc _).grown HG4.out (by simp)).other (by omega) _, (((BE'.out.alloc _).alloc _).grown HG4.out (by simp)).other (by omega) _, hrow.other (by omega) _, ?_, fun p hp => ?_⟩
      · have := HR4.out.set 0 (.slice (some ⟨w.heap.size + 1 + 1 + 1, 0, none⟩) (pre.length + 1) (F.length + G.length))
        simpa using this
      · rcases List.mem_append.1 hp with h | h
        · exact HI8.out p h
        · simp at h; subst h; exact HE0.out
    · have g2 : (q.2.2 != 0) = true := bne_iff_ne.2 hq
      have HB := hidE (HBAD.out x (hpre.subset (by simp)) (by rw [HERR.out]; exact hq))
      have hb' := HB.out
      rw [HERR.out] at hb'
      have HD := hidE hb'
      clear hb'
      gi_wp2
      have o2 : Outside w.heap.size W5.heap.size _ _ := Outside.of_grown (grown_set w1 (w.heap.size + 1) 0 (.slice none 0 0)) (by omega) (by omega) (by omega)
      have o3 : Outside w.heap.size W5.heap.size _ _ := Outside.of_grown (grown_set (w1.setCell ⟨w.heap.size + 1, 0, none⟩ (.slice none 0 0)) (w.heap.size + 1 + 1) 0 (.int .i64 q.2.2)) (by omega) (by omega) (by simp [World.setCell]; omega)
      have o4 : Outside w.heap.size W5.heap.size _ _ := Outside.of_below ((Below.refl _ ((w1.setCell ⟨w.heap.size + 1, 0, none⟩ (.slice none 0 0)).setCell ⟨w.heap.size + 1 + 1, 0, none⟩ (.int .i64 q.2.2))).alloc (Nat.le_refl _) (Obj.cells #[Value.int IntKind.i64 q.fst, Value.int IntKind.i64 q.snd.fst] 65)) (by simp [World.setCell]; omega)
      have oo := ((o1.trans o2).trans o3).trans o4
      refine ⟨oo, rfl, i1.trans oo.below, ?_, ?_, by rw [HD.out]⟩
      · have := ((BV.set 0 (.slice none 0 0)).other (b := w.heap.size + 1 + 1) (i := 0) (by omega) (.int .i64 q.2.2)).alloc (Obj.cells #[Value.int IntKind.i64 q.fst, Value.int IntKind.i64 q.snd.fst] 65)
        simpa using this
      · have := ((BE.other (b := w.heap.size + 1) (i := 0) (by omega) (.slice none 0 0)).set 0 (.int .i64 q.2.2)).alloc (Obj.cells #[Value.int IntKind.i64 q.fst, Value.int IntKind.i64 q.snd.fst] 65)
        rw [HD.out]
        simpa using this
  case done =>
    rintro D W hD ⟨i1, i2, i3, i4, i5, i6, i7, i8⟩ hK
    rw [HS5] at hD
    have hD' : D < W.heap.size := (Array.getElem?_eq_some_iff.1 hK).1
    obtain ⟨hok, hun⟩ := HOK.out i8
    have HUN := hidE hun; have HALL := hidE hok
    have hml : ((togL F G).map (rawOf 1)).length = (togL F G).length := by simp
    obtain ⟨aR, capR, eR, _, _, hAR⟩ := sliS_own (i6.own (base := w.heap.size) (by omega))
    cases eR
    have HOF := hidE (show Calls Tryz.prog 182 #[.slice (some ⟨w.heap.size + 1 + 1 + 1, 0, none⟩) (togL F G).length (F.length + G.length)] W (OfPost W ((togL F G).map (rawOf 1))) from by
      have := of_c ((togL F G).map (rawOf 1)) _ (F.length + G.length) W (by rw [hml]; have := HLEN.out; omega) hAR
      rw [hml] at this; exact this)
    have r0 := i7.cell 0; have rf := i7.free; have rz := i7.lt; have e0 := i5.cell 0; have ef := i5.free; have ez := i5.lt; have v0 := i4.cell 0; have vf := i4.free; have vz := i4.lt
    simp at r0 e0 v0
    have HKD := hidE hK; have BE := hidE i5; have BV := hidE i4
    clear HI0 HSEQ HMK hmk hm3 hun hok hAR i3 i4 i5 i6 i7 hK HOK HBAD
    go_wp2_with fail
    ((with_reducible refine (HOF.out).mono ?_); rintro e w1 ⟨v1, f1, er, rfl, hs1, hcase, hb1⟩)
    clear r0 rf rz e0 ef ez v0 vf vz
    have BE1 := BE.out.past hb1; have BV1 := BV.out.past hb1
    have e0 := BE1.cell 0; have ef := BE1.free; have ez := BE1.lt; have v0 := BV1.cell 0; have vf := BV1.free; have vz := BV1.lt
    simp at e0 v0
    obtain ⟨a1, c1, rfl, hs11, hs12, hs13⟩ := hs1
    have HS1 := hidE (And.intro hs11 (And.intro hs12 hs13)); have HC := hidE hcase; have HB1 := hidE hb1
    clear hs11 hs12 hs13 hcase hb1
    go_wp2
    obtain ⟨h2, h3, h4⟩ := HS1.out
    have hkf : ((w1.setCell ⟨w.heap.size + 1, 0, none⟩ (.slice a1 f1.length c1)).setCell ⟨w.heap.size + 1 + 1, 0, none⟩ (.int .i64 er)).heap[D]? = some (.deferred (some [])) :=
      (Below.heap_setCell _ _ _ _ (by simp; omega)).trans ((Below.heap_setCell _ _ _ _ (by simp; omega)).trans ((HB1.out.block D hD').trans HKD.out))
    have g1 := (((BV1.set 0 (.slice a1 f1.length c1)).other (b := w.heap.size + 1 + 1) (i := 0) (by omega) (.int .i64 er)).put (b := D) (by omega) (.deferred none)).cell 0
    have g2 := (((BE1.other (b := w.heap.size + 1) (i := 0) (by omega) (.slice a1 f1.length c1)).set 0 (.int .i64 er)).put (b := D) (by omega) (.deferred none)).cell 0
    simp at g1 g2
    have hdz : D < w1.heap.size := Nat.lt_of_lt_of_le hD' HB1.out.size
    refine ⟨by simp, .inl ⟨_, _, rfl, run_takeDeferred hkf, ?_⟩⟩
    refine ⟨.tuple #[.slice a1 f1.length c1, .int .i64 er], by simp [results, Tryz.results142, go_sem, g1, g2], ?_⟩
    rcases HC.out with ⟨_, q2, q3⟩ | ⟨q1, _, _⟩
    · rw [HUN.out _ q3, q2]
      refine ⟨_, rfl, ⟨a1, c1, rfl, h2, h3, argS_turn h4 (by simp [World.setCell]) (fun k i v hc => ?_)⟩, ?_⟩
      · by_cases e1 : k = w.heap.size + 1
        · subst e1; exact (one_cell BV1 hc).elim
        by_cases e2 : k = w.heap.size + 1 + 1
        · subst e2; exact (one_cell BE1 hc).elim
        by_cases e3 : k = D
        · subst e3; exact (no_cell ((HB1.out.block k hD').trans HKD.out) hc).elim
        · exact (World.putObj_heap_other e3).trans ((Below.heap_setCell _ _ _ _ e2).trans (Below.heap_setCell _ _ _ _ e1))
      · refine ((((i1.trans (HB1.out.mono i1.size)).setCell (p := ⟨w.heap.size + 1, 0, none⟩) (by simp) _).setCell (p := ⟨w.heap.size + 1 + 1, 0, none⟩) (by simp; omega) _)).trans (below_putObj _ _ _ (by omega))
    · rw [HALL.out] at q1; cases q1
  case stop =>
    rintro D c pre W hD hpre ⟨rfl, i1, i2, i3, hnil⟩ hK
    rw [HS5] at hD
    have g1 := (i2.put (b := D) (by omega) (.deferred none)).cell 0
    have g2 := (i3.put (b := D) (by omega) (.deferred none)).cell 0
    simp at g1 g2
    have HI1 := hidE i1
    clear HI0 HSEQ HMK hmk hm3 i2 i3 HOK HBAD
    go_wp2
    refine ⟨by simp, .inl ⟨_, _, rfl, run_takeDeferred hK, ?_⟩⟩
    refine ⟨.tuple #[.slice none 0 0, .int .i64 (doS 1 F G).2], by simp [results, Tryz.results142, go_sem, g1, g2], ?_⟩
    rw [hnil]
    exact ⟨_, rfl, sliS_nil _, HI1.out.trans (below_putObj _ _ _ (by omega))⟩

end Go.Proofs.YtjhhcljbmnomlaaGreat

namespace Go.Proofs.YtjhhcljbmnomlaaGreat
open Go.ChangeShapes Go.WideShapes Go.ChangeAt Go.RowKit

theorem rmay (a b : Int) (w : World) : Calls Tryz.prog 68 #[V a b] w fun e w' => e = .returned (.bool (okV a b)) ∧ Below w.heap.size w w' := by
  go_enter Tryz.func68, Tryz.ntmps68
  go_wp2
  all_goals
    go_ret
    refine ⟨ret_bool (by unfold okV; rw [Bool.eq_iff_iff]; simp; omega), ?_⟩
    (repeat (first | exact Below.refl _ _ | assumption | refine balloc ?_ _ | refine below_drewN ?_ _ | refine bstep (by assumption) ?_ | refine bstep (Past.prop _) ?_ | refine Below.setCell ?_ (by first | exact Nat.le_refl _ | (simp; done) | (simp; omega)) _))
theorem rmay_eq {a b : Int} {r : Bool} {w : World} (h : okV a b = r) : Calls Tryz.prog 68 #[V a b] w fun e w' => e = .returned (.bool r) ∧ Below w.heap.size w w' := h ▸ rmay a b w
end Go.Proofs.YtjhhcljbmnomlaaGreat

namespace Go.Proofs.YtjhhcljbmnomlaaGreat
open Go.ChangeShapes Go.WideShapes Go.ChangeAt Go.RowKit
attribute [local irreducible] Go.Calls

theorem rin_c (s : Sg) (w : World) : Calls Tryz.prog 109 #[S s.1 s.2.1 s.2.2] w fun e w' => e = .returned (.bool (okS s)) ∧ Below w.heap.size w w' := by
  obtain ⟨x, m, c⟩ := s
  show Calls _ _ #[S x m c] _ _
  by_cases h1 : -1125899906842624 ≤ x
  · by_cases h2 : x ≤ 1125899906842624
    · have e : okS (x, m, c) = okV m c := by
        have : okT x = true := okT_iff.2 ⟨h1, h2⟩
        unfold okS; simp only [this, Bool.true_and]
      rw [e]
      have d1 : decide (-1125899906842624 ≤ x) = true := decide_eq_true h1
      have d2 : decide (x ≤ 1125899906842624) = true := decide_eq_true h2
      clear e
      go_enter Tryz.func109, Tryz.ntmps109
      go_wp2_with (go_at_call 68; ((with_reducible refine (rmay m c _).mono ?_); rintro e w' ⟨rfl, hb⟩; obtain ⟨hc, hf⟩ := bcell hb))
      go_ret
      exact ⟨rfl, by (repeat (first | exact Below.refl _ _ | assumption | refine balloc ?_ _ | refine below_drewN ?_ _ | refine bstep (by assumption) ?_ | refine bstep (Past.prop _) ?_ | refine Below.setCell ?_ (by first | exact Nat.le_refl _ | (simp; done) | (simp; omega)) _))⟩
    · have e : okS (x, m, c) = false := by
        have : okT x = false := decide_eq_false (by omega)
        unfold okS; simp only [this, Bool.false_and]
      rw [e]
      have d1 : decide (-1125899906842624 ≤ x) = true := decide_eq_true h1
      have d2 : decide (x ≤ 1125899906842624) = false := decide_eq_false h2
      clear e
      go_enter Tryz.func109, Tryz.ntmps109
      go_wp2
      go_ret
      exact ⟨rfl, by (repeat (first | exact Below.refl _ _ | assumption | refine balloc ?_ _ | refine below_drewN ?_ _ | refine bstep (by assumption) ?_ | refine bstep (Past.prop _) ?_ | refine Below.setCell ?_ (by first | exact Nat.le_refl _ | (simp; done) | (simp; omega)) _))⟩
  · have e : okS (x, m, c) = false := by
      have : okT x = false := decide_eq_false (by omega)
      unfold okS; simp only [this, Bool.false_and]
    rw [e]
    have d1 : decide (-1125899906842624 ≤ x) = false := decide_eq_false h1
    clear e
    go_enter Tryz.func109, Tryz.ntmps109
    go_wp2
    go_ret
    exact ⟨rfl, by (repeat (first | exact Below.refl _ _ | assumption | refine balloc ?_ _ | refine below_drewN ?_ _ | refine bstep (by assumption) ?_ | refine bstep (Past.prop _) ?_ | refine Below.setCell ?_ (by first | exact Nat.le_refl _ | (simp; done) | (simp; omega)) _))⟩
set_option maxHeartbeats 1000000 in
theorem rsame_c (l r : List Sg) (a a' : Option Addr) (cap cap' : Nat) (w : World) (hl : l.length ≤ 9223372036854775807) (hr : r.length ≤ 9223372036854775807) (hA : ArgS w a l) (hA' : ArgS w a' r) :
    Calls Tryz.prog 30 #[.slice a l.length cap, .slice a' r.length cap'] w fun e w' => e = .returned (.bool (sameB l r)) ∧ Below w.heap.size w w' := by
  have HA := hidE hA; have HA' := hidE hA'; clear hA hA'
  by_cases hlen : l.length = r.length
  · have e1 : ((l.length : Int) != (r.length : Int)) = false := by rw [bne_eq_false_iff_eq]; omega
    have e2 : ((l.length : Int) == (r.length : Int)) = true := beq_iff_eq.2 (by omega)
    have HL := hidE hlen
    have le1 : l.length ≤ r.length := by omega
    clear hlen
    go_enter Tryz.func30, Tryz.ntmps30
    go_wp2
    go_loopg [5] l.length (fun g vi wr => ∃ k : Nat, k ≤ l.length ∧ l.length - k ≤ g ∧ vi = .int .i64 k ∧ (∀ i, i < k → ats l i = ats r i ∧ vls l i = vls r i) ∧ Below w.heap.size w wr)
    case atStart => exact ⟨0, Nat.zero_le _, by omega, rfl, fun i hi => by omega, Below.refl _ _⟩
    case round =>
      obtain ⟨k, hk, hg, rfl, hs, hb⟩ := hrel
      have HS := hidE hs; have HB := hidE hb; clear hs hb
      by_cases hlt : k < l.length
      · obtain ⟨b, off, rfl, hb, hc⟩ := (HA.out.past HB.out) (by omega)
        obtain ⟨c0, c1, c2⟩ := hc.get hlt
        obtain ⟨b', off', rfl, hb', hc'⟩ := (HA'.out.past HB.out) (by omega)
        obtain ⟨d0, d1, d2⟩ := hc'.get (i := k) (by omega)
        clear hc hc'
        by_cases hne : ats l k = ats r k ∧ (vls l k).1 = (vls r k).1 ∧ (vls l k).2 = (vls r k).2
        · have HX := hidE (show ∀ i, i < k + 1 → ats l i = ats r i ∧ vls l i = vls r i from fun i hi => by
            by_cases e : i = k
            · rw [e]; exact ⟨hne.1, Prod.ext hne.2.1 hne.2.2⟩
            · exact HS.out i (by omega))
          obtain ⟨n1, n2, n3⟩ := hne
          rw [← n1] at d0; rw [← n2] at d1; rw [← n3] at d2
          clear n1 n2 n3
          generalize ats l k = u at *
          generalize vls l k = v at *
          go_wp2
          go_quiet (fail)
          go_wp2
          go_roundg (l.length - (k + 1))
          case measure => omega
          case rel => exact ⟨k + 1, by omega, Nat.le_refl _, by go_num, HX.out, by have := HB.out; (repeat (first | exact Below.refl _ _ | assumption | refine balloc ?_ _ | refine below_drewN ?_ _ | refine bstep (by assumption) ?_ | refine bstep (Past.prop _) ?_ | refine Below.setCell ?_ (by first | exact Nat.le_refl _ | (simp; done) | (simp; omega)) _))⟩
        · have HX := hidE (show sameB l r = false from same_f (i := k) (by
            by_cases e : ats l k = ats r k
            · right; intro h; exact hne ⟨e, by rw [h], by rw [h]⟩
            · exact .inl e))
          by_cases n1 : ats l k = ats r k
          · by_cases n2 : (vls l k).1 = (vls r k).1
            · have n3 : ((vls l k).2 == (vls r k).2) = false := beq_eq_false_iff_ne.2 fun h => hne ⟨n1, n2, h⟩
              rw [← n1] at d0; rw [← n2] at d1
              clear n1 n2 hne
              generalize ats l k = u at *
              generalize vls l k = v at *
              generalize vls r k = v' at *
              go_wp2
              go_quiet (fail)
              go_wp2
              go_ret
              exact ⟨ret_bool (by rw [HX.out]), by have := HB.out; (repeat (first | exact Below.refl _ _ | assumption | refine balloc ?_ _ | refine below_drewN ?_ _ | refine bstep (by assumption) ?_ | refine bstep (Past.prop _) ?_ | refine Below.setCell ?_ (by first | exact Nat.le_refl _ | (simp; done) | (simp; omega)) _))⟩
            · have n3 : ((vls l k).1 == (vls r k).1) = false := beq_eq_false_iff_ne.2 n2
              rw [← n1] at d0
              clear n1 n2 hne
              generalize ats l k = u at *
              generalize vls l k = v at *
              generalize vls r k = v' at *
              go_wp2
              go_quiet (fail)
              go_wp2
              go_ret
              exact ⟨ret_bool (by rw [HX.out]), by have := HB.out; (repeat (first | exact Below.refl _ _ | assumption | refine balloc ?_ _ | refine below_drewN ?_ _ | refine bstep (by assumption) ?_ | refine bstep (Past.prop _) ?_ | refine Below.setCell ?_ (by first | exact Nat.le_refl _ | (simp; done) | (simp; omega)) _))⟩
          · have n3 : (ats l k == ats r k) = false := beq_eq_false_iff_ne.2 n1
            clear n1 hne
            generalize ats l k = u at *
            generalize vls l k = v at *
            generalize ats r k = u' at *
            generalize vls r k = v' at *
            go_wp2
            go_quiet (fail)
            go_wp2
            go_ret
            exact ⟨ret_bool (by rw [HX.out]), by have := HB.out; (repeat (first | exact Below.refl _ _ | assumption | refine balloc ?_ _ | refine below_drewN ?_ _ | refine bstep (by assumption) ?_ | refine bstep (Past.prop _) ?_ | refine Below.setCell ?_ (by first | exact Nat.le_refl _ | (simp; done) | (simp; omega)) _))⟩
      · have hk' : k = l.length := by omega
        subst hk'
        have HX := hidE (same_t HL.out HS.out)
        go_wp2
        go_ret
        exact ⟨ret_bool (by rw [HX.out]), HB.out⟩
  · have e1 : ((l.length : Int) != (r.length : Int)) = true := bne_iff_ne.2 (by omega)
    have e2 : ((l.length : Int) == (r.length : Int)) = false := beq_eq_false_iff_ne.2 (by omega)
    have HX := hidE (show sameB l r = false from decide_eq_false (fun e => hlen (by rw [e])))
    clear hlen
    go_enter Tryz.func30, Tryz.ntmps30
    go_wp2
    go_ret
    exact ⟨ret_bool (by rw [HX.out]), Below.refl _ _⟩

end Go.Proofs.YtjhhcljbmnomlaaGreat

namespace Go.Proofs.YtjhhcljbmnomlaaGreat
open Go.ChangeShapes Go.WideShapes Go.ChangeAt Go.RowKit
attribute [local irreducible] Go.Calls

theorem Tryz.infoI64 : (Tryz.prog.info? 2).map (fun i => (i.zero, i.size, i.bytes)) = some (some (.int .i64 0), 1, 8) := by kernel_rfl

/-- The cells of a list of numbers. -/
def cellsI (l : List Int) : List Value := l.map (.int .i64)
theorem cellsI_get {l : List Int} {i : Nat} (h : i < l.length) : (cellsI l)[i]? = some (.int .i64 (l.getD i 0)) := by
  unfold cellsI
  rw [List.getElem?_map, List.getElem?_eq_getElem h, getD_get _ _ _ h]; rfl
theorem cellsI_one (l : List Int) : ∀ u ∈ cellsI l, u.oneCell' = true := fun u hu => by
  unfold cellsI at hu
  rw [List.mem_map] at hu
  obtain ⟨x, _, rfl⟩ := hu
  rfl
/-- The numbers that a slice's cells hold. -/
def CellsI (w : World) (b off : Nat) (l : List Int) : Prop := ∀ i, i < l.length → w.cell? ⟨b, off + i, none⟩ = some (.int .i64 (l.getD i 0))
def ArgI (w : World) (a : Option Addr) (l : List Int) : Prop := 0 < l.length → ∃ b off, a = some ⟨b, off, none⟩ ∧ b < w.heap.size ∧ CellsI w b off l
theorem CellsI.below {w w' : World} {b off B : Nat} {l : List Int} (h : CellsI w b off l) (hb : Below B w w') (hB : b < B) : CellsI w' b off l := fun i hi => (hb.cell (p := ⟨b, _, none⟩) hB).trans (h i hi)
theorem ArgI.past {w w' : World} {a : Option Addr} {l : List Int} (h : ArgI w a l) (hb : Below w.heap.size w w') : ArgI w' a l := fun hl => by
  obtain ⟨b, off, e, h1, h2⟩ := h hl
  exact ⟨b, off, e, Nat.lt_of_lt_of_le h1 hb.size, h2.below hb h1⟩
def SliI (w : World) (v : Value) (l : List Int) : Prop := ∃ (a : Option Addr) (cap : Nat), v = .slice a l.length cap ∧ l.length ≤ cap ∧ cap ≤ 9223372036854775807 ∧ ArgI w a l
theorem sliI_own {w : World} {base : Nat} {e : TypeId} {v : Value} {l : List Int} (h : w.ownsRow base e 1 v l.length (cellsI l)) : SliI w v l := by
  obtain ⟨h1, h2 | ⟨g, cap, cur, rfl, h3, h4, h5, h6, h7, h8⟩⟩ := h
  · obtain ⟨rfl, h2⟩ := h2
    have : l = [] := List.eq_nil_of_length_eq_zero h2
    subst this
    exact ⟨none, 0, rfl, Nat.le_refl _, by omega, fun h => by simp at h⟩
  · refine ⟨some ⟨g, 0, none⟩, cap, rfl, h5, by unfold maxLen at h6; omega, fun _ => ⟨g, 0, rfl, lt_of_block h4, fun i hi => ?_⟩⟩
    have hg := cellsI_get hi
    have e : w.cell? ⟨g, 0 + i, none⟩ = cur[i]? := by simp [World.cell?, h4]
    rw [e, ← Array.getElem?_toList]
    rw [← h8, List.getElem?_take, if_pos (by omega)] at hg
    exact hg
end Go.Proofs.YtjhhcljbmnomlaaGreat

namespace Go.Proofs.YtjhhcljbmnomlaaGreat
open Go.ChangeShapes Go.WideShapes Go.ChangeAt Go.RowKit
attribute [local irreducible] Go.Calls

set_option maxHeartbeats 1000000 in
theorem rwhen_c (l : List Sg) (a : Option Addr) (cap : Nat) (w : World) (hl : l.length ≤ 1099511627776) (hA : ArgS w a l) :
    Calls Tryz.prog 93 #[.slice a l.length cap] w (RetV w fun v w' => w'.ownsRow w.heap.size 2 1 v l.length (cellsI (l.map (·.1)))) := by
  have HA := hidE hA; clear hA
  obtain ⟨i0, hi, hz0, hz1, hz2⟩ := info_parts Tryz.infoI64
  have HI := hidE hi; have HZ0 := hidE hz0; have HZ1 := hidE hz1; have HZ2 := hidE hz2
  clear hi hz0 hz1 hz2
  go_enter Tryz.func93, Tryz.ntmps93
  go_wp2
  go_loopg [3, 4] l.length (fun g vf vi wr => ∃ (k : Nat) (v : Value), v = vf ∧ k ≤ l.length ∧ l.length - k ≤ g ∧ vi = .int .i64 k ∧ Below w.heap.size w wr ∧ wr.ownsRow w.heap.size 2 1 v k (cellsI ((l.take k).map (·.1))))
  case atStart => exact ⟨0, .slice none 0 0, rfl, Nat.zero_le _, by omega, rfl, Below.refl _ _, ⟨rfl, .inl ⟨rfl, rfl⟩⟩⟩
  case round =>
    obtain ⟨k, v, rfl, hk, hg, rfl, hb, ho⟩ := hrel
    have HB := hidE hb; have HO := hidE ho; clear hb ho
    by_cases hlt : k < l.length
    · obtain ⟨b, off, rfl, hbb, hc⟩ := (HA.out.past HB.out) (by omega)
      obtain ⟨d0, d1, d2⟩ := hc.get hlt
      have HS := hidE (show cellsI ((l.take (k + 1)).map (·.1)) = cellsI ((l.take k).map (·.1)) ++ [.int .i64 (ats l k)] by
        rw [List.take_succ_eq_append_getElem hlt]
        unfold cellsI ats
        rw [getD_get _ _ _ hlt, List.map_append, List.map_append]; rfl)
      have hsz := HB.out.size
      clear hc d1 d2
      generalize ats l k = u at *
      go_wp2_with (at_builtin; refine wpList_append_own _ rfl (.tmp 11) (.tmp 17) 59 rfl w.heap.size 2 i0 (.int .i64 0) 1 8 Tryz.underlying59 HI.out HZ0.out HZ1.out HZ2.out rfl (by decide) _ _ _ rfl (HO.out.alloc _) ⟨wr.heap.size, 0, none⟩ 1 1 [.int .i64 u] rfl rfl (new_cells wr #[.int .i64 u] 2) (by intro x hx; simp at hx; rcases hx with rfl; rfl) (by unfold maxLen; omega) (by omega) (by simp; omega) ?_; intro v' w4 hown4 hgrow4 _)
      have p4 : Below w.heap.size w w4 := Below.grown (HB.out.alloc hsz (.cells #[.int .i64 u] 2)) hgrow4 (by simp; omega) (fun k hk => own_block HO.out hk)
      rw [← HS.out] at hown4
      have P4 := hidE p4; have PO := hidE hown4
      clear p4 hown4 hgrow4 d0
      go_wp2
      go_roundg (l.length - (k + 1))
      case measure => omega
      case rel => exact ⟨k + 1, v', rfl, by omega, Nat.le_refl _, by go_num, P4.out, PO.out⟩
    · have hk' : k = l.length := by omega
      subst hk'
      have ho := HO.out
      rw [List.take_length] at ho
      have HO2 := hidE ho; clear ho HO
      go_wp2
      go_ret
      exact ⟨_, rfl, HO2.out, HB.out⟩

theorem new_cells_at (w : World) (cs : Array Value) (t : TypeId) (k : Nat) (h : k = w.heap.size) : ∀ j u, cs.toList[j]? = some u → (w.alloc (.cells cs t)).cell? ((⟨k, 0, none⟩ : Addr).add j) = some u := by
  subst h; exact new_cells w cs t
def WithPost (w : World) (B : Nat) (v0 : Value) (f : List Sg) (e : Ending) (w' : World) : Prop :=
  ∃ v' : Value, e = .returned v' ∧ w'.ownsRow B 105 3 v' f.length (cellsOfS f) ∧ w.grownBy w' v0.ownBlock
theorem own_past {w w' : World} {B : Nat} {e : TypeId} {sz : Nat} {v : Value} {n : Nat} {xs : List Value} (h : w.ownsRow B e sz v n xs) (hb : Below w.heap.size w w') : w'.ownsRow B e sz v n xs := own_below h hb

set_option maxHeartbeats 1000000 in
set_option maxRecDepth 100000 in
theorem rwith_c (f : List Sg) (v0 : Value) (B : Nat) (t m c : Int) (w : World) (hB : B ≤ w.heap.size) (hl : f.length ≤ 1099511627776) (ho : w.ownsRow B 105 3 v0 f.length (cellsOfS f)) :
    Calls Tryz.prog 112 #[v0, .int .i64 t, V m c] w (WithPost w B v0 (withL f t (m, c))) := by
  obtain ⟨a, cap, rfl, hlc, hcap, hA⟩ := sliS_own ho
  have HO := hidE ho; have HA := hidE hA
  clear ho hA
  obtain ⟨i0, hi, hz0, hz1, hz2⟩ := info_parts Tryz.infoSeg
  have HI := hidE hi; have HZ0 := hidE hz0; have HZ1 := hidE hz1; have HZ2 := hidE hz2
  clear hi hz0 hz1 hz2
  have app : ∀ (wx : World), Below w.heap.size w wx → Hid (wx.ownsRow B 105 3 (.slice a f.length cap) f.length (cellsOfS f) ∧ B ≤ wx.heap.size) := fun wx hb => ⟨own_past HO.out hb, Nat.le_trans hB hb.size⟩
  have APP := hidE app; clear app
  have HCS := hidE (show cellsOfS (f ++ [(t, (m, c))]) = cellsOfS f ++ [.int .i64 t, .int .i64 m, .int .i64 c] from cellsOfS_app _ _)
  have hlen1 : (f ++ [(t, (m, c))]).length = f.length + 1 := by simp
  have HL1 := hidE hlen1; clear hlen1
  by_cases h0 : f.length = 0
  · have hlast : lastV f = (0, 0) := by unfold lastV; rw [if_pos h0]
    have hd : decide ((0 : Int) < (f.length : Int)) = false := decide_eq_false (by omega)
    have hd' : ¬ (0 : Int) < (f.length : Int) := by omega
    have hd2 : ¬ 0 < f.length := by omega
    by_cases hv : (m, c) = ((0, 0) : Int × Int)
    · have HF := hidE (show withL f t (m, c) = f by unfold withL; rw [hlast, if_pos hv])
      obtain ⟨rfl, rfl⟩ : m = 0 ∧ c = 0 := by simpa using hv
      clear hv hlast h0
      go_enter Tryz.func112, Tryz.ntmps112
      go_wp2
      go_ret
      exact ⟨_, rfl, by rw [HF.out]; exact own_past HO.out (by (repeat (first | exact Below.refl _ _ | assumption | refine balloc ?_ _ | refine below_drewN ?_ _ | refine bstep (by assumption) ?_ | refine bstep (Past.prop _) ?_ | refine Below.setCell ?_ (by first | exact Nat.le_refl _ | (simp; done) | (simp; omega)) _))), grown_any (by (repeat (first | exact Below.refl _ _ | assumption | refine balloc ?_ _ | refine below_drewN ?_ _ | refine bstep (by assumption) ?_ | refine bstep (Past.prop _) ?_ | refine Below.setCell ?_ (by first | exact Nat.le_refl _ | (simp; done) | (simp; omega)) _)))⟩
    · have HF := hidE (show withL f t (m, c) = f ++ [(t, (m, c))] by unfold withL; rw [hlast, if_neg hv])
      have hmc : ((m == 0) && (c == 0)) = false := by
        rw [Bool.eq_false_iff]; intro h; simp at h; exact hv (by rw [h.1, h.2])
      clear hv hlast h0
      cases hm : (m == 0)
      rotate_left
      · have hc : (c == 0) = false := by rw [hm] at hmc; simpa using hmc
        clear hmc
        go_enter Tryz.func112, Tryz.ntmps112
        go_wp2_with (at_builtin; go_loud (refine wpList_append_own _ rfl (.tmp 23) (.tmp 27) 22 rfl B 105 i0 (.agg #[.int .i64 0, .int .i64 0, .int .i64 0]) 3 24 Tryz.underlying22 HI.out HZ0.out HZ1.out HZ2.out rfl (by decide) _ _ _ rfl (APP.out _ (by (repeat (first | exact Below.refl _ _ | assumption | refine balloc ?_ _ | refine below_drewN ?_ _ | refine bstep (by assumption) ?_ | refine bstep (Past.prop _) ?_ | refine Below.setCell ?_ (by first | exact Nat.le_refl _ | (simp; done) | (simp; omega)) _)))).out.1 ⟨_, 0, none⟩ 1 1 [.int .i64 t, .int .i64 m, .int .i64 c] rfl rfl (new_cells_at _ #[.int .i64 t, .int .i64 m, .int .i64 c] 105 _ (by simp)) (by intro x hx; simp at hx; rcases hx with rfl | rfl | rfl <;> rfl) (by unfold maxLen; omega) (by omega) (by simp; omega) ?_; intro v' w4 hown4 hgrow4 _))
        rw [← HCS.out, ← HL1.out] at hown4
        have HO4 := hidE hown4; have HG4 := hidE (grown_trans (grown_any (show Below w.heap.size w _ by (repeat (first | exact Below.refl _ _ | assumption | refine balloc ?_ _ | refine below_drewN ?_ _ | refine bstep (by assumption) ?_ | refine bstep (Past.prop _) ?_ | refine Below.setCell ?_ (by first | exact Nat.le_refl _ | (simp; done) | (simp; omega)) _)))) hgrow4)
        clear hown4 hgrow4
        go_wp2
        go_ret
        exact ⟨_, rfl, by rw [HF.out]; exact HO4.out, HG4.out⟩
      · clear hmc
        go_enter Tryz.func112, Tryz.ntmps112
        go_wp2_with (at_builtin; refine wpList_append_own _ rfl (.tmp 23) (.tmp 27) 22 rfl B 105 i0 (.agg #[.int .i64 0, .int .i64 0, .int .i64 0]) 3 24 Tryz.underlying22 HI.out HZ0.out HZ1.out HZ2.out rfl (by decide) _ _ _ rfl (APP.out _ (by (repeat (first | exact Below.refl _ _ | assumption | refine balloc ?_ _ | refine below_drewN ?_ _ | refine bstep (by assumption) ?_ | refine bstep (Past.prop _) ?_ | refine Below.setCell ?_ (by first | exact Nat.le_refl _ | (simp; done) | (simp; omega)) _)))).out.1 ⟨_, 0, none⟩ 1 1 [.int .i64 t, .int .i64 m, .int .i64 c] rfl rfl (new_cells_at _ #[.int .i64 t, .int .i64 m, .int .i64 c] 105 _ (by simp)) (by intro x hx; simp at hx; rcases hx with rfl | rfl | rfl <;> rfl) (by unfold maxLen; omega) (by omega) (by simp; omega) ?_; intro v' w4 hown4 hgrow4 _)
        rw [← HCS.out, ← HL1.out] at hown4
        have HO4 := hidE hown4; have HG4 := hidE (grown_trans (grown_any (show Below w.heap.size w _ by (repeat (first | exact Below.refl _ _ | assumption | refine balloc ?_ _ | refine below_drewN ?_ _ | refine bstep (by assumption) ?_ | refine bstep (Past.prop _) ?_ | refine Below.setCell ?_ (by first | exact Nat.le_refl _ | (simp; done) | (simp; omega)) _)))) hgrow4)
        clear hown4 hgrow4
        go_wp2
        go_ret
        exact ⟨_, rfl, by rw [HF.out]; exact HO4.out, HG4.out⟩
  · obtain ⟨k, hk⟩ : ∃ k, f.length = k + 1 := ⟨f.length - 1, by omega⟩
    have hlast : lastV f = vls f k := by unfold lastV; rw [if_neg h0, hk, Nat.add_sub_cancel]
    obtain ⟨b, off, rfl, hb, hc⟩ := HA.out (by omega)
    obtain ⟨d0, d1, d2⟩ := hc.get (i := k) (by omega)
    have hd : decide ((0 : Int) < (f.length : Int)) = true := decide_eq_true (by omega)
    have hkz : (f.length : Int) - 1 = (k : Int) := by omega
    have hkl : k < f.length := by omega
    have HKZ := hidE hkz
    have hn1 : b ≠ w.heap.size := by omega
    have hn2 : b ≠ w.heap.size + 1 := by omega
    clear hc hk h0 hkz d0
    by_cases hv : (m, c) = vls f k
    · have HF := hidE (show withL f t (m, c) = f by unfold withL; rw [hlast, if_pos hv])
      rw [← hv] at d1 d2
      clear hv hlast
      go_enter Tryz.func112, Tryz.ntmps112
      go_upto_region 3 with fail
      have hkz := HKZ.out
      go_wp2
      go_ret
      exact ⟨_, rfl, by rw [HF.out]; exact own_past HO.out (by (repeat (first | exact Below.refl _ _ | assumption | refine balloc ?_ _ | refine below_drewN ?_ _ | refine bstep (by assumption) ?_ | refine bstep (Past.prop _) ?_ | refine Below.setCell ?_ (by first | exact Nat.le_refl _ | (simp; done) | (simp; omega)) _))), grown_any (by (repeat (first | exact Below.refl _ _ | assumption | refine balloc ?_ _ | refine below_drewN ?_ _ | refine bstep (by assumption) ?_ | refine bstep (Past.prop _) ?_ | refine Below.setCell ?_ (by first | exact Nat.le_refl _ | (simp; done) | (simp; omega)) _)))⟩
    · have HF := hidE (show withL f t (m, c) = f ++ [(t, (m, c))] by unfold withL; rw [hlast, if_neg hv])
      have hmc : ((m == (vls f k).1) && (c == (vls f k).2)) = false := by
        rw [Bool.eq_false_iff]; intro h; simp at h; exact hv (Prod.ext h.1 h.2)
      clear hv hlast
      generalize vls f k = q at *
      cases hm : (m == q.1)
      rotate_left
      · have hc : (c == q.2) = false := by rw [hm] at hmc; simpa using hmc
        clear hmc
        go_enter Tryz.func112, Tryz.ntmps112
        go_upto_region 3 with fail
        have hkz := HKZ.out
        go_wp2_with (at_builtin; refine wpList_append_own _ rfl (.tmp 23) (.tmp 27) 22 rfl B 105 i0 (.agg #[.int .i64 0, .int .i64 0, .int .i64 0]) 3 24 Tryz.underlying22 HI.out HZ0.out HZ1.out HZ2.out rfl (by decide) _ _ _ rfl (APP.out _ (by (repeat (first | exact Below.refl _ _ | assumption | refine balloc ?_ _ | refine below_drewN ?_ _ | refine bstep (by assumption) ?_ | refine bstep (Past.prop _) ?_ | refine Below.setCell ?_ (by first | exact Nat.le_refl _ | (simp; done) | (simp; omega)) _)))).out.1 ⟨_, 0, none⟩ 1 1 [.int .i64 t, .int .i64 m, .int .i64 c] rfl rfl (new_cells_at _ #[.int .i64 t, .int .i64 m, .int .i64 c] 105 _ (by simp)) (by intro x hx; simp at hx; rcases hx with rfl | rfl | rfl <;> rfl) (by unfold maxLen; omega) (by omega) (by simp; omega) ?_; intro v' w4 hown4 hgrow4 _)
        rw [← HCS.out, ← HL1.out] at hown4
        have HO4 := hidE hown4; have HG4 := hidE (grown_trans (grown_any (show Below w.heap.size w _ by (repeat (first | exact Below.refl _ _ | assumption | refine balloc ?_ _ | refine below_drewN ?_ _ | refine bstep (by assumption) ?_ | refine bstep (Past.prop _) ?_ | refine Below.setCell ?_ (by first | exact Nat.le_refl _ | (simp; done) | (simp; omega)) _)))) hgrow4)
        clear hown4 hgrow4
        go_wp2
        go_ret
        exact ⟨_, rfl, by rw [HF.out]; exact HO4.out, HG4.out⟩
      · clear hmc
        go_enter Tryz.func112, Tryz.ntmps112
        go_upto_region 3 with fail
        have hkz := HKZ.out
        go_wp2_with (at_builtin; refine wpList_append_own _ rfl (.tmp 23) (.tmp 27) 22 rfl B 105 i0 (.agg #[.int .i64 0, .int .i64 0, .int .i64 0]) 3 24 Tryz.underlying22 HI.out HZ0.out HZ1.out HZ2.out rfl (by decide) _ _ _ rfl (APP.out _ (by (repeat (first | exact Below.refl _ _ | assumption | refine balloc ?_ _ | refine below_drewN ?_ _ | refine bstep (by assumption) ?_ | refine bstep (Past.prop _) ?_ | refine Below.setCell ?_ (by first | exact Nat.le_refl _ | (simp; done) | (simp; omega)) _)))).out.1 ⟨_, 0, none⟩ 1 1 [.int .i64 t, .int .i64 m, .int .i64 c] rfl rfl (new_cells_at _ #[.int .i64 t, .int .i64 m, .int .i64 c] 105 _ (by simp)) (by intro x hx; simp at hx; rcases hx with rfl | rfl | rfl <;> rfl) (by unfold maxLen; omega) (by omega) (by simp; omega) ?_; intro v' w4 hown4 hgrow4 _)
        rw [← HCS.out, ← HL1.out] at hown4
        have HO4 := hidE hown4; have HG4 := hidE (grown_trans (grown_any (show Below w.heap.size w _ by (repeat (first | exact Below.refl _ _ | assumption | refine balloc ?_ _ | refine below_drewN ?_ _ | refine bstep (by assumption) ?_ | refine bstep (Past.prop _) ?_ | refine Below.setCell ?_ (by first | exact Nat.le_refl _ | (simp; done) | (simp; omega)) _)))) hgrow4)
        clear hown4 hgrow4
        go_wp2
        go_ret
        exact ⟨_, rfl, by rw [HF.out]; exact HO4.out, HG4.out⟩
end Go.Proofs.YtjhhcljbmnomlaaGreat
