/- The contract of the writer's method part. Conditions: the part's numbers are of its fields' kinds, its kind is known, the stack is one between two parts. Terms in each other and beside each other: which is one too many, and where it stands. No program. No conditions. Slices that read as lists of parts: five cells each. No function of the program. No conditions. The contracts of Tree and of Same. Conditions: the lists' lengths, that kinds are bytes. The contract of Print. Conditions: the definition's numbers are of their fields' kinds, the list's length, the tables. What the document's example texts are parsed to, by steps that are counted. No program. No conditions. The children's texts: (*term).texts. Conditions: the block reads as a term that may be, its size, the tables. Texts compared: cmp.Less, strings.Compare, slices.IsSorted. No conditions but sizes. The children's order: the stable sort of at most 20 places, by a comparison that only makes memory. No conditions but the row's size. The children's order as places: a stable order by the texts' ranks is the rules' own. No program. No conditions. The rule of order: (*term).sort. Conditions: the block reads as a term that may be, its size, the tables. The rule of order: (*term).sort. Conditions: the block reads as a term that may be, its size, the tables. -/
import Derived.Test.YtkjpmhmlakmglaaDoorP9GC
import Derived.Test.YtkjpmhmlakmglaaDoorP9GA
import Derived.Maps.AppendAt
import Derived.Deep.RegionHeld3
import Derived.Test.YtkjpmhmlakmglaaDoorP9MA
import Derived.Test.YtkjpmhmlakmglaaDoorP9GB
import Derived.Lib.Bytealg
import Derived.LoopTactic
import Derived.BigRegion
import Derived.Outline
import Derived.Deep.LoopGhost
namespace Go.Proofs.YtkjpmhmlakmglaaDoor
open Go.ChangeShapes Go.WideShapes Go.ChangeAt Go.RowKit Go.Shelf
attribute [local irreducible] Go.Calls

/-- The tables, below a base. -/
structure Tb (B : Nat) (w : World) : Prop where
  pow : PowTab w
  words : WordsAre w
  plt : 2 < B
  wlt : 1 < B
theorem Tb.below {B : Nat} {w w' : World} (h : Tb B w) (hb : Below B w w') : Tb B w' :=
  ⟨var_below (g := 2) (by kernel_rfl) h.pow hb h.plt, h.words.below hb h.wlt, h.plt, h.wlt⟩
theorem Tb.of {w : World} (h : Tab w) {B : Nat} (hB : w.heap.size ≤ B) : Tb B w :=
  ⟨h.1, h.2, Nat.lt_of_lt_of_le (var_lt (by kernel_rfl) h.1) hB, Nat.lt_of_lt_of_le h.2.lt hB⟩
theorem dec_c (n : Int) (h : -9223372036854775808 ≤ n ∧ n ≤ 9223372036854775807) (w : World) (hT : PowTab w) :
    Calls Tryd.prog 62 #[.int .i64 n] w fun e w' => e = .returned (strV (decS n)) ∧ Below w.heap.size w w' := by
  have HC := hidE (itoa_c n h.1 h.2 w hT)
  clear hT
  go_enter Tryd.func62, Tryd.ntmps62
  go_wp2_with fail
  ((with_reducible refine HC.out.mono ?_); rintro e w1 ⟨rfl, hb⟩)
  go_wp2
  go_ret
  exact ⟨rfl, hb⟩
theorem word_cell {B : Nat} {w : World} (h : Tb B w) {k : Nat} (hk : k ≤ 4) : w.cell? ⟨1, k, none⟩ = some (strV (wordK k)) := by
  have b : k = 0 ∨ k = 1 ∨ k = 2 ∨ k = 3 ∨ k = 4 := by omega
  rcases b with rfl | rfl | rfl | rfl | rfl
  · exact h.words.cell (i := 0) rfl
  · exact h.words.cell (i := 1) rfl
  · exact h.words.cell (i := 2) rfl
  · exact h.words.cell (i := 3) rfl
  · exact h.words.cell (i := 4) rfl
def intsV (l : List Int) : List Value := l.map fun x => .int .i64 x
/-- The writer and its stack. -/
def WrI (B b : Nat) (s : List UInt8) (st : List Int) (w : World) : Prop := ∃ o, Wr B b s o w ∧ w.ownsRow B 3 1 o st.length (intsV st.reverse)
theorem Wr.past {B b : Nat} {l : List UInt8} {o : Value} {w w' : World} (h : Wr B b l o w) (hb : Below w.heap.size w w') : Wr B b l o w' := by
  have key : ∀ pv, WrAt B b pv l o w → WrAt B b pv l o w' := fun pv h => by
    obtain ⟨v, hbk, ho, hne, hlt, hB⟩ := wr_out h
    exact ⟨hB, v, hbk.past hb, ho.kept (grown_any (r := none) hb) (by cases v.ownBlock <;> simp)⟩
  rcases h with h | h
  · exact .inl (key _ h)
  · exact .inr (key _ h)
theorem own_others {B b n sz : Nat} {o : Value} {xs : List Value} {w w' : World} {e : TypeId} (he : e ≠ 5) (h : w.ownsRow B e sz o n xs) (hne : o.ownBlock ≠ some b) (hk : Lib.OthersKept 5 (some b) w w') : w'.ownsRow B e sz o n xs := by
  obtain ⟨h1, h2 | ⟨g, cap, cur, h3, h4, h5, h6⟩⟩ := h
  · exact ⟨h1, .inl h2⟩
  · refine ⟨h1, .inr ⟨g, cap, cur, h3, h4, hk g _ h5 (fun e => hne (by rw [h3]; simp [Value.ownBlock]; simpa using e)) (fun c fz e => ?_), h6⟩⟩
    cases e
    exact he rfl
theorem row_ne {B b n : Nat} {o : Value} {xs : List Value} {w : World} {cs : Array Value} (h : w.ownsRow B 3 1 o n xs) (hb : Blk w b cs 110) : o.ownBlock ≠ some b := by
  intro e
  obtain ⟨_, h2 | ⟨g, cap, cur, h3, h4, h5, _⟩⟩ := h
  · rw [h2.1] at e; simp [Value.ownBlock] at e
  · rw [h3] at e
    simp only [Value.ownBlock, Option.some.injEq] at e
    subst e
    have := h5.symm.trans hb
    simp at this
theorem wr_blk {B b : Nat} {l : List UInt8} {o : Value} {w : World} (h : Wr B b l o w) : ∃ pv v, Blk w b #[pv, v, o] 110 ∧ B ≤ b := by
  rcases h with h | h
  · obtain ⟨v, hb, _, _, _, hB⟩ := wr_out h; exact ⟨_, v, hb, hB⟩
  · obtain ⟨v, hb, _, _, _, hB⟩ := wr_out h; exact ⟨_, v, hb, hB⟩
/-- What is kept while a part is written. -/
structure PtSt (B b pb : Nat) (s : List UInt8) (o : Value) (st : List Int) (x : Prt) (w0 w : World) : Prop where
  wr : Wr B b s o w
  row : w.ownsRow B 3 1 o st.length (intsV st.reverse)
  box : Blk w pb #[.int .u8 x.kind, .int .u32 x.n, .int .u32 x.g, .int .i64 x.d, .int .i64 x.kids] 36
  bel : Below B w0 w
  tb : Tb B w
  ne : pb ≠ b
  sz : B ≤ w0.heap.size
theorem PtSt.past {B b pb : Nat} {s : List UInt8} {o : Value} {st : List Int} {x : Prt} {w0 w w' : World} (h : PtSt B b pb s o st x w0 w) (hb : Below w.heap.size w w') : PtSt B b pb s o st x w0 w' :=
  have hB := Nat.le_trans h.sz h.bel.size
  ⟨h.wr.past hb, own_below h.row hb, h.box.past hb, h.bel.trans (hb.mono hB), h.tb.below (hb.mono hB), h.ne, h.sz⟩
theorem PtSt.wrote {B b pb : Nat} {s s' : List UInt8} {o : Value} {st : List Int} {x : Prt} {w0 w w' : World} (h : PtSt B b pb s o st x w0 w) (hw : WroteW B b s' o w w') : PtSt B b pb s' o st x w0 w' := by
  obtain ⟨pv, v, hb, hB⟩ := wr_blk h.wr
  refine ⟨hw.1, own_others (by decide) h.row (row_ne h.row hb) hw.2.2, hw.2.2 pb _ h.box (fun e => h.ne (by simpa using e)) (fun c fz e => ?_), h.bel.trans hw.2.1, h.tb.below hw.2.1, h.ne, h.sz⟩
  cases e
theorem others_past {e : TypeId} {bo : Option Nat} {w w' : World} (hb : Below w.heap.size w w') : Lib.OthersKept e bo w w' := fun k _x hk _ _ => (hb.block k (Array.getElem?_eq_some_iff.1 hk).1).trans hk
theorem str_cat (a b : List UInt8) : (⟨a.toArray⟩ : ByteArray) ++ ⟨b.toArray⟩ = ⟨(a ++ b).toArray⟩ := by
  rw [ByteArray.ext_iff, ByteArray.data_append]
  simp
theorem rows_ne {B n m : Nat} {o v : Value} {xs ys : List Value} {w : World} (h : w.ownsRow B 3 1 o n xs) (h2 : w.ownsRowF B 5 1 v m ys) {g : Nat} (hg : o.ownBlock = some g) : v.ownBlock ≠ some g := by
  obtain ⟨_, h3 | ⟨g', cap, cur, h3, _, h5, _⟩⟩ := h
  · rw [h3.1] at hg; simp [Value.ownBlock] at hg
  · rw [h3] at hg
    simp only [Value.ownBlock, Option.some.injEq] at hg
    subst hg
    exact Lib.ownBlock_neF h2 h5 (by decide)
/-- A store into the stack's row leaves the writer as it is. -/
theorem Wr.row {B b n g i : Nat} {l : List UInt8} {o : Value} {xs : List Value} {w : World} (h : Wr B b l o w) (ho : w.ownsRow B 3 1 o n xs) (hg : o.ownBlock = some g) (x : Value) : Wr B b l o (w.setCell ⟨g, i, none⟩ x) := by
  have key : ∀ pv, WrAt B b pv l o w → WrAt B b pv l o (w.setCell ⟨g, i, none⟩ x) := fun pv h => by
    obtain ⟨v, hbk, hv, hne, hlt, hB⟩ := wr_out h
    exact ⟨hB, v, hbk.other (fun e => row_ne ho hbk (by rw [hg, e])) x, hv.kept (grown_set w g i x) (.inr (rows_ne ho hv hg))⟩
  rcases h with h | h
  · exact .inl (key _ h)
  · exact .inr (key _ h)
theorem intsV_len (l : List Int) : (intsV l).length = l.length := List.length_map ..
theorem row_top {B g n cap : Nat} {c : Int} {r : List Int} {w : World} (h : w.ownsRow B 3 1 (.slice (some ⟨g, 0, none⟩) n cap) n (intsV (c :: r).reverse)) (hn : n = r.length + 1) : w.cell? ⟨g, r.length, none⟩ = some (.int .i64 c) := by
  rw [h.cellAt r.length (by omega)]
  simp [intsV]
theorem row_set {B g n cap : Nat} {c d : Int} {r : List Int} {w : World} (h : w.ownsRow B 3 1 (.slice (some ⟨g, 0, none⟩) n cap) n (intsV (c :: r).reverse)) : (w.setCell ⟨g, r.length, none⟩ (.int .i64 d)).ownsRow B 3 1 (.slice (some ⟨g, 0, none⟩) n cap) n (intsV (d :: r).reverse) := by
  have h2 := (h.stored r.length (.int .i64 d)).1
  have e : (intsV (c :: r).reverse).set r.length (.int .i64 d) = intsV (d :: r).reverse := by
    simp only [intsV, List.reverse_cons, List.map_append, List.map_cons, List.map_nil]
    rw [List.set_append_right _ _ (by simp)]
    simp
  rwa [e] at h2
theorem row_pop {B g n cap : Nat} {c : Int} {r : List Int} {w : World} (h : w.ownsRow B 3 1 (.slice (some ⟨g, 0, none⟩) n cap) n (intsV (c :: r).reverse)) (hn : n = r.length + 1) : w.ownsRow B 3 1 (.slice (some ⟨g, 0, none⟩) r.length cap) r.length (intsV r.reverse) := by
  subst hn
  obtain ⟨h1, h2 | ⟨g', cap', cur, h3, h4, h5, h6, h7, h8, h9⟩⟩ := h
  · simp at h2
  · cases h3
    refine ⟨by rw [intsV_len]; simp, .inr ⟨g, cap, cur, rfl, h4, h5, by omega, h7, h8, ?_⟩⟩
    have := congrArg (List.take (r.length * 1)) h9
    rw [List.take_take, Nat.min_eq_left (by omega)] at this
    rw [this]
    simp only [intsV, List.reverse_cons, List.map_append]
    rw [List.take_append_of_le_length (by simp), List.take_of_length_le (by simp)]
theorem row_push {l : List Int} {x : Int} : intsV l.reverse ++ [.int .i64 x] = intsV (x :: l).reverse := by simp [intsV]
/-- Where the stack lies, where it isn't empty. -/
theorem row_at {B n : Nat} {o : Value} {xs : List Value} {w : World} (h : w.ownsRow B 3 1 o n xs) (hn : 0 < n) : ∃ g cap, o = .slice (some ⟨g, 0, none⟩) n cap ∧ B ≤ g ∧ g < w.heap.size ∧ n ≤ cap ∧ cap ≤ 9223372036854775807 := by
  obtain ⟨_, h2 | ⟨g, cap, cur, h3, h4, h5, h6, h7, _⟩⟩ := h
  · omega
  · exact ⟨g, cap, h3, h4, lt_of_block h5, h6, by unfold maxLen at h7; omega⟩
theorem step_appI {P : Program} {ops : Array Oper} {o : Oper} {a : Act} {w : World} {K : Act → World → Prop} {Q : Exit → Act → World → Prop} {E : Prop}
    (hg : o.guard = none) (s x : Operand) (t : TypeId) (hop : o.op = Op.call { callee := Callee.builtin Builtin.append, args := #[s, x], argTypes := #[t, t] })
    (B : Nat) (e : TypeId) (i : TypeInfo) (z : Value) (ht : P.underlying t = some (.slice e)) (hi : P.info? e = some i) (hz : i.zero = some z) (hsize : i.size = 1) (hby : i.bytes = 8) (hzs : z.cells.size = 1)
    (v : Value) (n : Nat) (xs : List Value) (hs : a.eval s = v) (hown : w.ownsRow B e 1 v n xs)
    (p : Nat) (y : Int) (hx : a.eval x = .slice (some ⟨p, 0, none⟩) 1 1) (hc : w.cell? ⟨p, 0, none⟩ = some (.int .i64 y))
    (h63 : n ≤ 1000000000) (hB : B ≤ w.heap.size)
    (h : ∀ v' w', w'.ownsRow B e 1 v' (n + 1) (xs ++ [.int .i64 y]) → w.grownBy w' v.ownBlock → K (a.put o.dst v') w') :
    if Region.wanted o (yielded ops a.tmps) = true then Oper.wp P o a w K Q else E := by
  have hw : Region.wanted o (yielded ops a.tmps) = true := by simp [Region.wanted, hg]
  rw [if_pos hw]
  refine wp_append_own w s x t hop B e i z 1 8 ht hi hz hsize hby hzs (by decide) v n xs hs hown ⟨p, 0, none⟩ 1 1 [.int .i64 y] hx rfl ?_ (by intro u hu; simp at hu; subst hu; rfl) (by unfold maxLen; omega) (by omega) hB fun v' w' h1 h2 _ => h v' w' h1 h2
  intro j u hj
  have hj0 : j = 0 := by have := (List.getElem?_eq_some_iff.1 hj).1; simpa using this
  subst hj0
  simp at hj
  subst hj
  simpa [Addr.add] using hc
theorem Tryd.infoI64 : (Tryd.prog.info? 3).map (fun i => (i.zero, i.size, i.bytes)) = some (some (.int .i64 0), 1, 8) := by kernel_rfl
/-- The stack's row gets a new number; the writer's bytes stay. -/
theorem Wr.push {B b n : Nat} {l : List UInt8} {o o' : Value} {xs : List Value} {w w' : World} (h : Wr B b l o w) (ho : w.ownsRow B 3 1 o n xs) (ob : Obj) (hg : (w.drew.alloc ob).grownBy w' o.ownBlock) : Wr B b l o' (w'.setCell ⟨b, 2, none⟩ o') := by
  have key : ∀ pv, WrAt B b pv l o w → WrAt B b pv l o' (w'.setCell ⟨b, 2, none⟩ o') := fun pv h => by
    obtain ⟨v, hbk, hv, hne, hlt, hB⟩ := wr_out h
    have hd : Below w.heap.size w (w.drew.alloc ob) := balloc (Below.drew (Below.refl _ _)) ob
    have hb2 : Blk w' b #[pv, v, o] 110 := (hbk.past hd).grown hg (fun e => row_ne ho hbk e.symm)
    have hv2 : w'.ownsRowF B 5 1 v l.length (Lib.byteCells l) := by
      have h1 : (w.drew.alloc ob).ownsRowF B 5 1 v l.length (Lib.byteCells l) := hv.kept (grown_any (r := none) hd) (by cases v.ownBlock <;> simp)
      refine h1.kept hg ?_
      cases e : o.ownBlock with
      | none =>
        cases v.ownBlock with
        | none => exact .inl rfl
        | some k => exact .inr (by simp)
      | some g => exact .inr (rows_ne ho hv e)
    have hs := hb2.set 2 o'
    exact ⟨hB, v, by simpa using hs, hv2.kept (grown_set w' b 2 o') (.inr hne)⟩
  rcases h with h | h
  · exact .inl (key _ h)
  · exact .inr (key _ h)
theorem Wr.stack {B b : Nat} {l : List UInt8} {o o' : Value} {w : World} (h : Wr B b l o w) : Wr B b l o' (w.setCell ⟨b, 2, none⟩ o') := by
  have key : ∀ pv, WrAt B b pv l o w → WrAt B b pv l o' (w.setCell ⟨b, 2, none⟩ o') := fun pv h => by
    obtain ⟨v, hbk, hv, hne, hlt, hB⟩ := wr_out h
    have hs := hbk.set 2 o'
    exact ⟨hB, v, by simpa using hs, hv.kept (grown_set w b 2 o') (.inr hne)⟩
  rcases h with h | h
  · exact .inl (key _ h)
  · exact .inr (key _ h)
set_option maxRecDepth 100000 in
set_option maxHeartbeats 2000000 in
theorem part_c (B b : Nat) (s : List UInt8) (st : List Int) (x : Prt) (w : World) (hB : B ≤ w.heap.size) (hw : WrI B b s st w) (hst : StOk st) (hs : s.length + st.length ≤ 100000000) (hx : PrtW x) (hk : x.kind ≤ 4) (hkids : 0 ≤ x.kids ∧ x.kids ≤ 1000000) (hT : Tb B w) :
    Calls Tryd.prog 63 #[.pointer (some ⟨b, 0, none⟩), prtV x] w fun e w' => e = .returned (.tuple #[]) ∧ WrI B b (partW (s, st) x).1 (partW (s, st) x).2 w' ∧ Below B w w' := by
  obtain ⟨o, hwr, hro⟩ := hw
  have hS : PtSt B b w.heap.size s o st x w (w.alloc (.cells #[.int .u8 x.kind, .int .u32 x.n, .int .u32 x.g, .int .i64 x.d, .int .i64 x.kids] 36)) := by
    obtain ⟨pv, v, hb, _⟩ := wr_blk hwr
    have hba : Below w.heap.size w (w.alloc (.cells #[.int .u8 x.kind, .int .u32 x.n, .int .u32 x.g, .int .i64 x.d, .int .i64 x.kids] 36)) := balloc (Below.refl _ _) _
    exact ⟨hwr.past hba, own_below hro hba, Blk.made _ _ _, hba.mono hB, hT.below (hba.mono hB), by have := hb.lt; omega, hB⟩
  have HS := hidE hS
  clear hS hwr hro hT
  have hkl : (x.kind : Int) < 5 := by omega
  have hwl := wordK_len x.kind
  go_enter Tryd.func63, Tryd.ntmps63
  go_wp2_with fail
  generalize w.alloc (.cells #[.int .u8 x.kind, .int .u32 x.n, .int .u32 x.g, .int .i64 x.d, .int .i64 x.kids] 36) = w1 at *
  generalize w.heap.size = pb at *
  have hwc := word_cell HS.out.tb hk
  have hgl := HS.out.tb.words.lt
  have c0 := HS.out.box.cell 0; have z := HS.out.box.lt
  simp at c0
  have hcp := Past.cell (W := w1)
  refine wp_region_bar 8 _ (by kernel_rfl) rfl (by kernel_rfl) (fun v w'' => v = .tuple #[.int .i64 (headS x).length, .nilIface] ∧ WroteW B b (s ++ headS x) o w1 w'') ?_
  simp only [List.take_succ_cons, List.take_zero, List.drop_succ_cons, List.drop_zero]
  repeat (go_big_quiet_step (fail))
  refine wpQuiet_nil ?_
  intro y
  refine ⟨rfl, ?_, ?_⟩
  · simp [go_sem, gives]
    rw [show (⟨#[32, 40]⟩ : ByteArray) ++ ⟨(wordK x.kind).toArray⟩ = ⟨(headS x).toArray⟩ from str_cat [32, 40] (wordK x.kind)]
    refine (wr_str B b s (headS x) o y.1 (HS.out.wr.past y.2) (by simp only [headS, List.length_cons]; omega) (by have := HS.out.sz; have := HS.out.bel.size; have := y.2.size; omega)).mono ?_
    rintro e w'' ⟨rfl, h1, h2, h3⟩
    have hy := y.2
    exact ⟨_, rfl, rfl, h1, (hy.mono (Nat.le_trans HS.out.sz HS.out.bel.size)).trans h2, Lib.OthersKept.trans (others_past hy) h3⟩
  · rintro v w2 ⟨rfl, hw2⟩
    have HS2 := hidE (HS.out.wrote hw2)
    clear hw2 c0 z hwc hgl hcp
    refine wpQuiet_nil ?_
    rintro _ ⟨y, rfl⟩
    have HS3 := hidE (HS2.out.past y.2)
    clear HS2 HS
    generalize y.1 = w3 at *
    clear y
    have c0 := HS3.out.box.cell 0; have c1 := HS3.out.box.cell 1; have c2 := HS3.out.box.cell 2; have c3 := HS3.out.box.cell 3; have z := HS3.out.box.lt
    simp at c0 c1 c2 c3
    simp only [Act.put, List.setIfInBounds_toArray, List.set_cons_succ, List.set_cons_zero]
    go_upto_if 15 with fail
    go_cut [] (fun wx => PtSt B b pb (s ++ headS x ++ numsS x) o st x w wx)
    case first =>
      by_cases e0 : x.kind = 0
      · have q : ((x.kind : Int) == 0) = true := beq_iff_eq.2 (by omega)
        have hn : numsS x = 32 :: (decS x.n ++ 32 :: (decS x.g ++ 32 :: decS x.d)) := by unfold numsS; rw [if_pos e0]
        have hnl := numsS_len hx
        have wn : IntKind.i64.wrap (x.n : Int) = x.n := IntWalk.i64_in _ (by have := hx.2.1; omega)
        have wg : IntKind.i64.wrap (x.g : Int) = x.g := IntWalk.i64_in _ (by have := hx.2.2.1; omega)
        have HD1 := hidE (fun (y : Past w3) => dec_c x.n (by have := hx.2.1; omega) y.1 (HS3.out.past y.2).tb.pow)
        have HD2 := hidE (fun (y : Past w3) => dec_c x.g (by have := hx.2.2.1; omega) y.1 (HS3.out.past y.2).tb.pow)
        have HD3 := hidE (fun (y : Past w3) => dec_c x.d hx.2.2.2.1 y.1 (HS3.out.past y.2).tb.pow)
        have HN := hidE hn; clear hn
        have hl1 := decS_len (n := (x.n : Int)) (by have := hx.2.1; omega)
        have hl2 := decS_len (n := (x.g : Int)) (by have := hx.2.2.1; omega)
        have hl3 := decS_len (n := x.d) hx.2.2.2.1
        go_upto_region 3 with fail
        have hcp := Past.cell (W := w3)
        refine wp_region_bar 19 _ (by kernel_rfl) rfl (by kernel_rfl) (fun v w'' => v = .tuple #[.int .i64 (numsS x).length, .nilIface] ∧ WroteW B b (s ++ headS x ++ numsS x) o w3 w'') ?_
        simp only [List.take_succ_cons, List.take_zero, List.drop_succ_cons, List.drop_zero]
        repeat (go_big_quiet_step ((go_at_call 62; first | exact Past.call _ (HD1.out _) | exact Past.call _ (HD2.out _) | exact Past.call _ (HD3.out _))))
        refine wpQuiet_nil ?_
        intro y
        refine ⟨rfl, ?_, ?_⟩
        · simp [go_sem, gives]
          rw [show (⟨#[32]⟩ : ByteArray) ++ ⟨(decS x.n).toArray⟩ ++ ⟨#[32]⟩ ++ ⟨(decS x.g).toArray⟩ ++ ⟨#[32]⟩ ++ ⟨(decS x.d).toArray⟩ = ⟨(numsS x).toArray⟩ from by
            rw [show (⟨#[32]⟩ : ByteArray) = ⟨([32] : List UInt8).toArray⟩ from rfl, str_cat, str_cat, str_cat, str_cat, str_cat, HN.out]
            simp]
          have hlen2 : (s ++ headS x).length + (numsS x).length ≤ 140737488355328 := by simp only [headS, List.length_cons, List.length_append]; omega
          refine (wr_str B b (s ++ headS x) (numsS x) o y.1 (HS3.out.wr.past y.2) hlen2 (by have := HS3.out.sz; have := HS3.out.bel.size; have := y.2.size; omega)).mono ?_
          rintro e w'' ⟨rfl, h1, h2, h3⟩
          have hy := y.2
          rw [← List.append_assoc]
          exact ⟨_, rfl, rfl, h1, (hy.mono (Nat.le_trans HS3.out.sz HS3.out.bel.size)).trans h2, Lib.OthersKept.trans (others_past hy) h3⟩
        · rintro v w4 ⟨rfl, hw4⟩
          have HS4 := hidE (HS3.out.wrote hw4)
          clear hw4 c0 c1 c2 c3 z hcp HD1 HD2 HD3
          refine wpQuiet_nil ?_
          rintro _ ⟨y, rfl⟩
          have HS5 := hidE (HS4.out.past y.2)
          clear HS4
          generalize y.1 = w5 at *
          clear y
          simp only [Act.put, List.setIfInBounds_toArray, List.set_cons_succ, List.set_cons_zero]
          go_wp2
          go_meet
          case rel => exact HS5.out
      · have q : ((x.kind : Int) == 0) = false := beq_eq_false_iff_ne.2 (by omega)
        have hn : numsS x = [] := by unfold numsS; rw [if_neg e0]
        go_wp2
        go_meet
        case rel => rw [hn, List.append_nil]; exact HS3.out
    case rest =>
      have hcut2 := hcut
      obtain ⟨s2, hs2⟩ : ∃ s2, s2 = s ++ headS x ++ numsS x := ⟨_, rfl⟩
      rw [← hs2] at hcut2
      have hl2 : s2.length + st.length ≤ 100000100 := by
        rw [hs2]
        have := numsS_len hx
        simp only [headS, List.length_cons, List.length_append]; omega
      have HPW := hidE (show partW (s, st) x = closeW s2 (x.kids :: decTop st) by rw [hs2]; rfl)
      have HS4 := hidE hcut2
      clear hcut hcut2 hs2 HS3 c0 c1 c2 c3 z hkl hwl
      have hro := HS4.out.row
      obtain ⟨ao, co, rfl⟩ := own_sli hro
      obtain ⟨pv, v, hbk, hBb⟩ := wr_blk HS4.out.wr
      obtain ⟨n, hn⟩ : ∃ n, n = st.length := ⟨_, rfl⟩
      rw [← hn] at HS4 hbk hro
      have d2 := hbk.cell 2; have z2 := hbk.lt
      simp at d2
      have HBK := hidE hbk; have HRO := hidE hro; have HN := hidE hn; have HST := hidE hst; have HL2 := hidE hl2
      clear hbk hro hn hst hl2
      go_upto_if 41 with fail
      go_cut [] (fun wx => PtSt B b pb s2 (.slice ao n co) (decTop st) x w wx)
      case first =>
        by_cases hz : n = 0
        · have hd : decTop st = st := by
            have := HN.out
            cases st with
            | nil => rfl
            | cons c r => simp at this; omega
          clear HPW
          subst hz
          go_wp2
          go_meet
          case rel => rw [hd]; exact HS4.out
        · obtain ⟨m, rfl⟩ : ∃ m, n = m + 1 := ⟨n - 1, by omega⟩
          obtain ⟨c, r, hcr, hrm⟩ : ∃ c r, st = c :: r ∧ r.length = m := by
            have := HN.out
            cases st with
            | nil => simp at this
            | cons c r => simp at this; exact ⟨c, r, rfl, by omega⟩
          have hm2 : m < 100000200 := by have := HL2.out; have := HN.out; omega
          have HCR := hidE hcr; have HRM := hidE hrm
          obtain ⟨g, cg, hg1, hg2, hg3, hg4, hg5⟩ := row_at HRO.out (by omega)
          cases hg1
          have t1 : wc.cell? ⟨g, m, none⟩ = some (.int .i64 c) := by
            have h0 := HRO.out
            rw [HCR.out] at h0
            have := row_top h0 (by rw [HRM.out])
            rwa [HRM.out] at this
          have q : decide ((0 : Int) < (m : Int) + 1) = true := decide_eq_true (by omega)
          have q' : decide ((m : Int) + 1 > 0) = true := decide_eq_true (by omega)
          have hc1 := HST.out.1 c (by rw [HCR.out]; simp)
          have w1 : IntKind.i64.wrap (c - 1) = c - 1 := IntWalk.i64_in _ (by omega)
          have hf := HRO.out.frozenAt
          have hof := hf m
          have HB3 := hidE hBb
          clear HPW hf hcr hrm hz
          go_wp2
          go_region
          go_wp2
          go_meet
          case rel =>
            have hgB : B ≤ g := hg2
            have hne : g ≠ b := fun e => row_ne HRO.out HBK.out (by rw [e]; rfl)
            have hpb : g ≠ pb := fun e => by
              have h1 := HS4.out.box
              obtain ⟨_, h2 | ⟨g', cap, cur, h3, h4, h5, _⟩⟩ := HRO.out
              · simp at h2
              · cases h3
                have := h5.symm.trans (e ▸ h1)
                simp at this
            have hd : Below wc.heap.size wc wc.drew := Below.drew (Below.refl _ _)
            have hS := HS4.out.past hd
            have hwr := hS.wr.row hS.row rfl (i := m) (.int .i64 (c - 1))
            have hro2 := hS.row
            rw [HCR.out, show (c :: r).length = m + 1 by simp [HRM.out]] at hro2
            have hrow := row_set (d := c - 1) hro2
            rw [HRM.out] at hrow
            exact ⟨hwr, by rw [HCR.out]; show World.ownsRow _ _ _ _ _ (r.length + 1) _; rw [HRM.out]; exact hrow, hS.box.other (fun e => hpb e.symm) _, hS.bel.setCell (p := ⟨g, m, none⟩) hgB _, hS.tb.below ((Below.refl B _).setCell (p := ⟨g, m, none⟩) hgB _), hS.ne, hS.sz⟩
      case rest =>
        have hnd : n = (decTop st).length := HN.out.trans (decTop_len st).symm
        subst hnd
        have HS5 := hidE hcut
        clear hcut HS4 d2 z2 HBK HRO
        have HSD := hidE (decTop_ok HST.out)
        have hs2l : s2.length + (decTop st).length ≤ 100000100 := by rw [decTop_len]; exact HL2.out
        clear HST HL2 HN
        generalize decTop st = dt at *
        have hro := HS5.out.row
        obtain ⟨pv, v, hbk, hBb⟩ := wr_blk HS5.out.wr
        have d2 := hbk.cell 2; have z2 := hbk.lt; have f2 := hbk.free 2
        have k4 := HS5.out.box.cell 4; have zk := HS5.out.box.lt
        simp at d2 k4
        have HBK := hidE hbk; have HRO := hidE hro
        obtain ⟨i0, hi, hz0, hz1, hz2⟩ := info_parts Tryd.infoI64
        have HI := hidE hi; have HZ0 := hidE hz0; have HZ1 := hidE hz1; have HZ2 := hidE hz2
        have hsB : B ≤ wc.heap.size := Nat.le_trans HS5.out.sz HS5.out.bel.size
        clear hbk hro hi hz0 hz1 hz2
        have HRD := hidE (show wc.drew.ownsRow B 3 1 (.slice ao dt.length co) dt.length (intsV dt.reverse) from HRO.out)
        have hcell : (wc.drew.alloc (.cells #[.int .i64 x.kids] 3)).cell? ⟨wc.heap.size, 0, none⟩ = some (.int .i64 x.kids) := by
          have := (Blk.made wc.drew #[.int .i64 x.kids] 3).cell 0
          simpa using this
        have HCL := hidE hcell; clear hcell
        go_upto_region 6 with fail
        go_cut [] (fun wx => ∃ o', Wr B b s2 o' wx ∧ wx.ownsRow B 3 1 o' (dt.length + 1) (intsV (x.kids :: dt).reverse) ∧ Below B w wx)
        case first =>
          go_region_law ((refine step_appI rfl (.tmp 60) (.tmp 63) 26 rfl B 3 i0 _ Tryd.underlying26 HI.out HZ0.out HZ1.out HZ2.out rfl _ _ _ rfl (World.ownsRow.alloc HRD.out _) _ _ rfl HCL.out (by omega) (by simp; omega) ?_; intro v' w' own' hg'; obtain ⟨ao', co', rfl⟩ := own_sli own'; have hb' : Blk w' b #[pv, v, .slice ao dt.length co] 110 := (HBK.out.past (balloc (Below.drew (Below.refl _ _)) _)).grown hg' (fun e => row_ne HRO.out HBK.out e.symm); have e2 := hb'.cell 2; have ez := hb'.lt; have ef := hb'.free 2; simp at e2; have HB' := hidE hb'; clear hb'))
          all_goals
            go_wp2
            go_meet
            case rel =>
              have hne := row_ne own' HB'.out
              have hba : Below B wc (wc.drew.alloc (.cells #[.int .i64 x.kids] 3)) := (Below.drew (Below.refl B wc)).alloc hsB _
              rw [row_push] at own'
              exact ⟨_, HS5.out.wr.push HRO.out _ hg', own_kept own' (fun k e => keptS (fun e2 => hne (by rw [e, e2])) _), ((HS5.out.bel.trans hba).grown hg' (by simp; omega) (fun k hk => own_block HRO.out hk)).setCell (p := ⟨b, 2, none⟩) hBb _⟩
        case rest =>
          obtain ⟨o1, hw1, hr1, hb1⟩ := hcut
          have HW1 := hidE hw1; have HR1 := hidE hr1; have HB1 := hidE hb1
          have HSZ := hidE HS5.out.sz
          clear hw1 hr1 hb1 HS5 HBK HRO HRD HCL d2 z2 f2 k4 zk HI HZ0 HZ1 HZ2 hsB
          go_wp2_with fail
          go_loopg [] (dt.length + 1) (fun gh wr => ∃ (s' : List UInt8) (st' : List Int) (o' : Value), st'.length ≤ gh ∧ closeW s2 (x.kids :: dt) = closeW s' st' ∧ s'.length + st'.length ≤ 100000101 ∧ (∀ y ∈ st', 0 ≤ y ∧ y ≤ 1000000) ∧ Wr B b s' o' wr ∧ wr.ownsRow B 3 1 o' st'.length (intsV st'.reverse) ∧ Below B w wr)
          case atStart => exact ⟨s2, x.kids :: dt, o1, by simp, rfl, by simp only [List.length_cons]; omega, fun y hy => by
            simp only [List.mem_cons] at hy
            rcases hy with rfl | hy
            · exact hkids
            · exact HSD.out y hy, HW1.out, HR1.out, HB1.out⟩
          case round =>
            obtain ⟨s', st', o', hgh, hcl, hlen, hall, hwr, hrow, hbel⟩ := hrel
            have HGH := hidE hgh; have HCLW := hidE hcl; have HLEN := hidE hlen; have HALL := hidE hall; have HWR := hidE hwr; have HROW := hidE hrow; have HBEL := hidE hbel
            clear HW1 HR1 HB1
            obtain ⟨ao', co', rfl⟩ := own_sli hrow
            obtain ⟨pv', v', hbk', hBb'⟩ := wr_blk hwr
            obtain ⟨n, hn⟩ : ∃ n, n = st'.length := ⟨_, rfl⟩
            rw [← hn] at HWR HROW hbk'
            have d2 := hbk'.cell 2; have z2 := hbk'.lt; have f2 := hbk'.free 2
            simp at d2
            have HBK := hidE hbk'; have HN := hidE hn
            have hsB : B ≤ wr.heap.size := Nat.le_trans HSZ.out hbel.size
            clear hgh hcl hlen hall hwr hrow hbel hbk' hn
            by_cases hz : n = 0
            · have hst0 : st' = [] := List.eq_nil_of_length_eq_zero (by have := HN.out; omega)
              have HZ := hidE (show partW (s, st) x = (s', []) by rw [HPW.out, HCLW.out, hst0]; rfl)
              have HZR := hidE hst0
              subst hz
              clear hst0
              go_wp2_with fail
              refine wp_region_past_lit (by kernel_rfl) (by kernel_rfl) ?_
              have hcp := Past.cell (W := wr)
              repeat (go_big_quiet_step (fail))
              refine wpQuiet_nil ?_
              rintro _ ⟨y, rfl⟩
              have hy := y.2
              have hfw := HWR.out.past hy
              have hfr := own_below HROW.out hy
              have hfb := HBEL.out.trans (hy.mono hsB)
              have F := hidE (And.intro hfw (And.intro hfr hfb))
              clear hfw hfr hfb hcp d2 z2 f2
              generalize y.1 = w9 at *
              clear y hy
              go_wp2
              go_end0
              refine ⟨rfl, ?_, F.out.2.2⟩
              rw [HZ.out]
              have hfin := F.out.2.1
              rw [HZR.out] at hfin
              exact ⟨_, F.out.1, hfin⟩
            · obtain ⟨m, rfl⟩ : ∃ m, n = m + 1 := ⟨n - 1, by omega⟩
              obtain ⟨c, r, hcr, hrm⟩ : ∃ c r, st' = c :: r ∧ r.length = m := by
                have := HN.out
                cases st' with
                | nil => simp at this
                | cons c r => simp at this; exact ⟨c, r, rfl, by omega⟩
              have hm2 : m < 100000200 := by have := HLEN.out; have := HN.out; omega
              have HCR := hidE hcr; have HRM := hidE hrm
              obtain ⟨g, cg, hg1, hg2, hg3, hg4, hg5⟩ := row_at HROW.out (by omega)
              cases hg1
              have t1 : wr.cell? ⟨g, m, none⟩ = some (.int .i64 c) := by
                have h0 := HROW.out
                rw [HCR.out] at h0
                have := row_top h0 (by rw [HRM.out])
                rwa [HRM.out] at this
              have q : decide ((0 : Int) < (m : Int) + 1) = true := decide_eq_true (by omega)
              have q' : decide ((m : Int) + 1 > 0) = true := decide_eq_true (by omega)
              clear hcr hrm hz
              by_cases hc0 : c = 0
              · subst hc0
                have HCL2 := hidE (show closeW s2 (x.kids :: dt) = closeW (s' ++ [41]) r by rw [HCLW.out, HCR.out, closeW_zero])
                go_wp2_with fail
                refine wp_region_past_lit (by kernel_rfl) (by kernel_rfl) ?_
                have hcp := Past.cell (W := wr)
                repeat (go_big_quiet_step (fail))
                refine wpQuiet_nil ?_
                rintro _ ⟨y, rfl⟩
                have hy := y.2
                have HW9 := hidE (HWR.out.past hy)
                have HR9 := hidE (own_below HROW.out hy)
                have HB9 := hidE (HBEL.out.trans (hy.mono hsB))
                have hs9 : B ≤ y.1.heap.size := Nat.le_trans hsB hy.size
                clear hcp d2 z2 f2 t1 q q' HCLW
                generalize y.1 = w9 at *
                clear y hy
                have HWB := hidE (wr_byte B b s' _ 41 w9 HW9.out (by have := HLEN.out; have := HN.out; omega) hs9 41 rfl)
                go_wp2_with fail
                ((with_reducible refine HWB.out.mono ?_); rintro e w10 ⟨rfl, hw10⟩)
                have hne := row_ne HR9.out (wr_blk HW9.out).choose_spec.choose_spec.1
                have HR10 := hidE (own_others (by decide) HR9.out hne hw10.2.2)
                have HW10 := hidE hw10.1
                have HB10 := hidE (HB9.out.trans hw10.2.1)
                obtain ⟨pv2, v2, hbk2, _⟩ := wr_blk hw10.1
                have e2 := hbk2.cell 2; have ez := hbk2.lt; have ef := hbk2.free 2
                simp at e2
                have wm : IntKind.i64.wrap ((m : Int) + 1 - 1) = (m : Int) := (IntWalk.i64_in _ (by omega)).trans (by omega)
                have hmc : m ≤ co' := by omega
                have hmc2 : (m : Int) ≤ (co' : Int) := by omega
                clear hw10 hbk2 hne HWB
                go_wp2_with fail
                go_region
                go_wp2
                go_roundg r.length
                case measure => have := HGH.out; have := HN.out; have := HRM.out; omega
                case rel =>
                  have hd : Below w10.heap.size w10 w10.drew := Below.drew (Below.refl _ _)
                  have hro := HR10.out
                  rw [HCR.out] at hro
                  have hro2 := row_pop hro (by rw [HRM.out])
                  rw [HRM.out] at hro2
                  have hk : ∀ k, (Value.slice (some ⟨g, 0, none⟩) m co').ownBlock = some k → (w10.setCell ⟨b, 2, none⟩ (.slice (some ⟨g, 0, none⟩) m co')).heap[k]? = w10.heap[k]? := fun k e => by
                    cases e
                    obtain ⟨pv3, v3, hb3, _⟩ := wr_blk HW10.out
                    exact keptS (fun e => row_ne HR10.out hb3 (show some g = some b from congrArg some e)) _
                  refine ⟨s' ++ [41], r, .slice (some ⟨g, 0, none⟩) m co', Nat.le_refl _, HCL2.out, by have := HLEN.out; have := HN.out; simp only [List.length_append, List.length_cons, List.length_nil]; have := HRM.out; omega, fun y hy => HALL.out y (by rw [HCR.out]; exact List.mem_cons_of_mem _ hy), HW10.out.stack.past (Below.drew (Below.refl _ _)), ?_, (HB10.out.setCell (p := ⟨b, 2, none⟩) hBb _).drew⟩
                  rw [HRM.out]
                  exact own_below (own_kept hro2 hk) (Below.drew (Below.refl _ _))
              · have q2 : (c == 0) = false := beq_eq_false_iff_ne.2 hc0
                have HZ := hidE (show partW (s, st) x = (s', c :: r) by rw [HPW.out, HCLW.out, HCR.out, closeW_pos _ _ _ hc0])
                clear hc0
                go_wp2_with fail
                refine wp_region_past_lit (by kernel_rfl) (by kernel_rfl) ?_
                have hcp := Past.cell (W := wr)
                repeat (go_big_quiet_step (fail))
                refine wpQuiet_nil ?_
                rintro _ ⟨y, rfl⟩
                have hy := y.2
                have hfw := HWR.out.past hy
                have hfr := own_below HROW.out hy
                have hfb := HBEL.out.trans (hy.mono hsB)
                have F := hidE (And.intro hfw (And.intro hfr hfb))
                clear hfw hfr hfb hcp d2 z2 f2 t1 q q'
                generalize y.1 = w9 at *
                clear y hy
                go_wp2
                go_end0
                refine ⟨rfl, ?_, F.out.2.2⟩
                rw [HZ.out]
                have hfin := F.out
                rw [HCR.out] at hfin
                refine ⟨_, hfin.1, ?_⟩
                rw [show (c :: r).length = m + 1 by simp [HRM.out]]
                exact hfin.2.1
end Go.Proofs.YtkjpmhmlakmglaaDoor

namespace Go.Proofs.YtkjpmhmlakmglaaDoor

/-- The place of a token in the text of tokens. -/
theorem place_pos : ∀ (a : List Tok) (t u : Tok) (b : List Tok) (p : Nat), ((placeG p (t :: (a ++ u :: b))).getD (a.length + 1) tk0).pos + u.text.length = p + (t.text ++ tailG t (a ++ [u])).length
  | [], t, u, b, p => by
    have e : placeG p (t :: ([] ++ u :: b)) = { t with pos := p } :: placeG (p + t.text.length + (if gapB t u then 1 else 0)) (u :: b) := rfl
    have e2 : ∀ q, ((placeG q (u :: b)).getD 0 tk0).pos = q := fun q => by cases b <;> rfl
    rw [e]
    show ((placeG _ (u :: b)).getD 0 tk0).pos + u.text.length = _
    rw [e2]
    simp only [List.nil_append, tailG, List.append_nil, List.length_append]
    split <;> simp <;> omega
  | v :: a, t, u, b, p => by
    have e : placeG p (t :: (v :: a ++ u :: b)) = { t with pos := p } :: placeG (p + t.text.length + (if gapB t v then 1 else 0)) (v :: (a ++ u :: b)) := rfl
    rw [e]
    show ((placeG _ (v :: (a ++ u :: b))).getD (a.length + 1) tk0).pos + u.text.length = _
    rw [place_pos a v u b]
    simp only [List.cons_append, tailG, List.length_append]
    split <;> simp <;> omega

def atom1 (next : Fst) : Fst := .cons ⟨0, 1, 1, 1, 0⟩ .nil next
def deepF (k : Nat) : Nat → Fst
  | 0 => atom1 .nil
  | n + 1 => .cons ⟨k, 0, 0, 0, 0⟩ (deepF k n) .nil
def wideF : Nat → Fst
  | 0 => .nil
  | m + 1 => atom1 (wideF m)
def allF (m : Nat) : Fst := .cons ⟨4, 0, 0, 0, 0⟩ (wideF m) .nil
theorem deepF_wf {k : Nat} (hk : 1 ≤ k ∧ k ≤ 4) : ∀ n, (deepF k n).wf
  | 0 => ⟨.inl ⟨rfl, by decide, by decide, by decide, by decide, rfl⟩, rfl, trivial, trivial⟩
  | n + 1 => ⟨.inr ⟨hk.1, hk.2, rfl, rfl, rfl, fun e => by cases n <;> cases e⟩, rfl, deepF_wf hk n, trivial⟩
theorem wideF_wf : ∀ m, (wideF m).wf
  | 0 => trivial
  | m + 1 => ⟨.inl ⟨rfl, by decide, by decide, by decide, by decide, rfl⟩, rfl, trivial, wideF_wf m⟩
theorem allF_wf {m : Nat} (h : 0 < m) : (allF m).wf := ⟨.inr ⟨by decide, by decide, rfl, rfl, rfl, fun e => by cases m with | zero => omega | succ m => cases e⟩, rfl, wideF_wf m, trivial⟩
theorem deepF_len (k n : Nat) : (deepF k n).len = 1 := by cases n <;> rfl
theorem deepF_size (k : Nat) : ∀ n, (deepF k n).size = n + 1
  | 0 => rfl
  | n + 1 => by simp only [deepF, Fst.size, deepF_size k n]
theorem deepF_depth (k : Nat) : ∀ n, (deepF k n).depth = n + 1
  | 0 => rfl
  | n + 1 => by simp only [deepF, Fst.depth, deepF_depth k n]; omega
theorem wideF_size : ∀ m, (wideF m).size = m
  | 0 => rfl
  | m + 1 => by simp only [wideF, atom1, Fst.size, wideF_size m]; omega
theorem wideF_len : ∀ m, (wideF m).len = m
  | 0 => rfl
  | m + 1 => by simp only [wideF, atom1, Fst.len, wideF_len m]
theorem wideF_depth : ∀ m, (wideF m).depth ≤ 1
  | 0 => Nat.zero_le _
  | m + 1 => by simp only [wideF, atom1, Fst.depth]; have := wideF_depth m; omega
theorem deep_ok {k n : Nat} (h : n < 8) : badI (deepF k n) 8 0 = none := badI_none _ _ _ (by rw [deepF_depth]; omega) (fun _ => by rw [deepF_size]; omega)
theorem deep_bad {k : Nat} (hk : k ≠ 0) : ∀ (f cnt n : Nat), f ≤ n → cnt + f < 64 → badI (deepF k n) f cnt = some (2 * f)
  | 0, cnt, n, _, _ => by
    cases n with
    | zero => rfl
    | succ n => rw [deepF, badI, if_pos (.inl rfl)]
  | f + 1, cnt, 0, h, _ => by omega
  | f + 1, cnt, n + 1, h, hc => by
    rw [deepF, badI, if_neg (by omega), Nat.add_sub_cancel, deep_bad hk f (cnt + 1) n (by omega) (by omega)]
    simp only [if_neg hk]
    congr 1
    omega
theorem wide_none : ∀ (m f cnt : Nat), 0 < f → cnt + m ≤ 64 → badI (wideF m) f cnt = none := fun m f cnt hf h => badI_none _ _ _ (by have := wideF_depth m; omega) (fun _ => by rw [wideF_size]; exact h)
theorem wide_bad : ∀ (m f cnt : Nat), 0 < f → cnt ≤ 64 → 64 < cnt + m → badI (wideF m) f cnt = some (6 * (64 - cnt))
  | 0, _, _, _, h1, h2 => by omega
  | m + 1, f, cnt, hf, h1, h2 => by
    rw [wideF, atom1, badI]
    by_cases c : 64 ≤ cnt
    · rw [if_pos (.inr c)]
      congr 1
      omega
    · rw [if_neg (by omega), badI]
      simp only [Fst.size, Nat.add_zero, Fst.toks, List.length_nil]
      rw [wide_bad m f (cnt + 1) hf (by omega) (by omega)]
      simp only
      congr 1
      simp
      omega
theorem all_ok {m : Nat} (h : m < 64) : badI (allF m) 8 0 = none := badI_none _ _ _ (by unfold allF; simp only [Fst.depth]; have := wideF_depth m; omega) (fun _ => by unfold allF; simp only [Fst.size, wideF_size]; omega)
theorem all_bad {m : Nat} (h : 64 ≤ m) : badI (allF m) 8 0 = some (2 + 6 * 63) := by
  rw [allF, badI, if_neg (by omega), wide_bad m 7 1 (by omega) (by omega) (by omega)]
  rfl
/-- The tokens ahead of the first one that is too deep. -/
def deepA (k : Nat) : Nat → List Tok
  | 0 => []
  | f + 1 => tokO :: tokW (wordK k) :: deepA k f
theorem deepA_len (k : Nat) : ∀ f, (deepA k f).length = 2 * f
  | 0 => rfl
  | f + 1 => by simp only [deepA, List.length_cons, deepA_len k f]; omega
theorem deep_toks {k : Nat} (hk : k ≠ 0) : ∀ (f n : Nat), f ≤ n → ∃ r, (deepF k n).toks = deepA k f ++ tokO :: r
  | 0, 0, _ => ⟨_, rfl⟩
  | 0, n + 1, _ => ⟨_, rfl⟩
  | f + 1, 0, h => by omega
  | f + 1, n + 1, h => by
    obtain ⟨r, e⟩ := deep_toks hk f n (by omega)
    refine ⟨r ++ tokC :: [], ?_⟩
    simp only [deepF, Fst.toks, if_neg hk, e, deepA]
    simp
def wideA : Nat → List Tok
  | 0 => []
  | m + 1 => tokO :: tokW (wordK 0) :: tokN 1 :: tokN 1 :: tokN 1 :: tokC :: wideA m
theorem wideA_len : ∀ m, (wideA m).length = 6 * m
  | 0 => rfl
  | m + 1 => by simp only [wideA, List.length_cons, wideA_len m]; omega
theorem wide_toks : ∀ (j m : Nat), j < m → ∃ r, (wideF m).toks = wideA j ++ tokO :: r
  | 0, 0, h => by omega
  | 0, m + 1, _ => ⟨_, rfl⟩
  | j + 1, 0, h => by omega
  | j + 1, m + 1, h => by
    obtain ⟨r, e⟩ := wide_toks j m (by omega)
    refine ⟨r, ?_⟩
    simp only [wideF, atom1, Fst.toks, if_pos, e, wideA]
    simp
theorem tail_gap {t u : Tok} {l : List Tok} (h : gapB t u = true) : (tailG t (u :: l)).length = 1 + u.text.length + (tailG u l).length := by
  rw [tailG, h, if_pos rfl]
  simp only [List.length_append, List.length_cons, List.length_nil]
  omega
theorem tail_no {t u : Tok} {l : List Tok} (h : gapB t u = false) : (tailG t (u :: l)).length = u.text.length + (tailG u l).length := by
  rw [tailG, h, if_neg (by decide)]
  simp only [List.length_append, List.length_nil]
  omega
theorem gap_open {t : Tok} (ht : t.kind ≠ 2) : gapB t tokO = true := by unfold gapB; rw [show (t.kind != 2) = true from bne_iff_ne.2 ht]; rfl
theorem dig1 : digG 1 = [49] := by rw [digG, if_pos (by decide)]; rfl
theorem dig2 : digG 2 = [50] := by rw [digG, if_pos (by decide)]; rfl
theorem dec1 : decS 1 = [49] := by rw [decS_of (by decide)]; exact dig1
theorem dec2 : decS 2 = [50] := by rw [decS_of (by decide)]; exact dig2
theorem tokN1 : (tokN 1).text.length = 1 := by show (digG 1).length = 1; rw [dig1]; rfl
theorem tokN2 : (tokN 2).text.length = 1 := by show (digG 2).length = 1; rw [dig2]; rfl
theorem deepA_tail (k : Nat) : ∀ (f : Nat) (t : Tok), t.kind ≠ 2 → (tailG t (deepA k f ++ [tokO])).length = f * (2 + (wordK k).length) + 2
  | 0, t, ht => by
    rw [deepA, List.nil_append, tail_gap (gap_open ht)]
    simp [tailG, tokO]
  | f + 1, t, ht => by
    rw [deepA, List.cons_append, List.cons_append, tail_gap (gap_open ht), tail_no (show gapB tokO (tokW (wordK k)) = false from rfl), deepA_tail k f (tokW (wordK k)) (by show (0 : Nat) ≠ 2; decide), Nat.succ_mul]
    have l1 : tokO.text.length = 1 := rfl
    have l2 : (tokW (wordK k)).text.length = (wordK k).length := rfl
    omega
theorem wideA_tail : ∀ (j : Nat) (t : Tok), t.kind ≠ 2 → (tailG t (wideA j ++ [tokO])).length = j * 13 + 2
  | 0, t, ht => by
    rw [wideA, List.nil_append, tail_gap (gap_open ht)]
    simp [tailG, tokO]
  | j + 1, t, ht => by
    simp only [wideA, List.cons_append]
    rw [tail_gap (gap_open ht), tail_no (show gapB tokO (tokW (wordK 0)) = false from rfl), tail_gap (show gapB (tokW (wordK 0)) (tokN 1) = true from rfl), tail_gap (show gapB (tokN 1) (tokN 1) = true from rfl), tail_gap (show gapB (tokN 1) (tokN 1) = true from rfl), tail_no (show gapB (tokN 1) tokC = false from rfl), wideA_tail j tokC (by decide)]
    have l1 : tokO.text.length = 1 := rfl
    have l2 : (tokW (wordK 0)).text.length = 4 := rfl
    have l3 := tokN1
    have l4 : tokC.text.length = 1 := rfl
    omega
theorem pre_tail (l : List Tok) : (tailG (tokW wFrom) (tokN 1 :: tokW wTo :: tokN 2 :: tokL :: l)).length = 8 + (tailG tokL l).length := by
  rw [tail_gap (show gapB (tokW wFrom) (tokN 1) = true from rfl), tail_gap (show gapB (tokN 1) (tokW wTo) = true from rfl), tail_gap (show gapB (tokW wTo) (tokN 2) = true from rfl), tail_no (show gapB (tokN 2) tokL = false from rfl)]
  have l1 := tokN1
  have l2 := tokN2
  have l3 : (tokW wTo).text.length = 2 := rfl
  have l4 : tokL.text.length = 1 := rfl
  omega
theorem okN12 : okN 1 ∧ okN 2 := ⟨⟨by decide, by decide⟩, by decide, by decide⟩
/-- The place of the term that is too deep. -/
theorem deep_place {k n : Nat} (hk : k ≠ 0) (h : 8 ≤ n) : ((placeG 0 (tokD 1 2 (deepF k n))).getD (5 + 2 * 8) tk0).pos = 13 + 8 * (2 + (wordK k).length) := by
  obtain ⟨r, e⟩ := deep_toks hk 8 n h
  have hp := place_pos (tokN 1 :: tokW wTo :: tokN 2 :: tokL :: deepA k 8) (tokW wFrom) tokO r 0
  unfold tokD
  rw [e]
  have hl : (tokN 1 :: tokW wTo :: tokN 2 :: tokL :: deepA k 8).length + 1 = 5 + 2 * 8 := by simp only [List.length_cons, deepA_len]
  rw [hl] at hp
  have ht : (tailG (tokW wFrom) (tokN 1 :: tokW wTo :: tokN 2 :: tokL :: deepA k 8 ++ [tokO])).length = 8 + (tailG tokL (deepA k 8 ++ [tokO])).length := pre_tail _
  rw [List.length_append, ht, deepA_tail k 8 tokL (by decide)] at hp
  have l1 : tokO.text.length = 1 := rfl
  have l2 : (tokW wFrom).text.length = 4 := rfl
  rw [l1, l2] at hp
  simp only [List.cons_append] at hp
  omega
theorem wide_place {m : Nat} (h : 64 ≤ m) : ((placeG 0 (tokD 1 2 (allF m))).getD (5 + (2 + 6 * 63)) tk0).pos = 18 + 63 * 13 := by
  obtain ⟨r, e⟩ := wide_toks 63 m (by omega)
  have ea : (allF m).toks = tokO :: tokW (wordK 4) :: (wideA 63 ++ tokO :: (r ++ [tokC])) := by
    simp only [allF, Fst.toks, e]
    simp
  have hp := place_pos (tokN 1 :: tokW wTo :: tokN 2 :: tokL :: tokO :: tokW (wordK 4) :: wideA 63) (tokW wFrom) tokO (r ++ [tokC]) 0
  unfold tokD
  rw [ea]
  have hl : (tokN 1 :: tokW wTo :: tokN 2 :: tokL :: tokO :: tokW (wordK 4) :: wideA 63).length + 1 = 5 + (2 + 6 * 63) := by simp only [List.length_cons, wideA_len]
  rw [hl] at hp
  have ht : (tailG (tokW wFrom) (tokN 1 :: tokW wTo :: tokN 2 :: tokL :: tokO :: tokW (wordK 4) :: wideA 63 ++ [tokO])).length = 13 + (tailG (tokW (wordK 4)) (wideA 63 ++ [tokO])).length := by
    simp only [List.cons_append]
    rw [pre_tail, tail_gap (show gapB tokL tokO = true from rfl), tail_no (show gapB tokO (tokW (wordK 4)) = false from rfl)]
    have l1 : tokO.text.length = 1 := rfl
    have l2 : (tokW (wordK 4)).text.length = 3 := rfl
    omega
  rw [List.length_append, ht, wideA_tail 63 _ (by show (0 : Nat) ≠ 2; decide)] at hp
  have l1 : tokO.text.length = 1 := rfl
  have l2 : (tokW wFrom).text.length = 4 := rfl
  rw [l1, l2] at hp
  simp only [List.cons_append] at hp
  omega
/-- Their texts. -/
def pre12 : List UInt8 := [102, 114, 111, 109, 32, 49, 32, 116, 111, 32, 50, 58, 32]
def atomS : List UInt8 := [40, 97, 116, 111, 109, 32, 49, 32, 49, 32, 49, 41]
def openS (k : Nat) : Nat → List UInt8
  | 0 => []
  | n + 1 => openS k n ++ (40 :: (wordK k ++ [32]))
def closeS (n : Nat) : List UInt8 := List.replicate n 41
def deepS (k n : Nat) : List UInt8 := pre12 ++ openS k n ++ (atomS ++ closeS n)
def wideS : Nat → List UInt8
  | 0 => [102, 114, 111, 109, 32, 49, 32, 116, 111, 32, 50, 58, 32, 40, 97, 108, 108]
  | m + 1 => wideS m ++ 32 :: atomS
theorem openS_front (k : Nat) : ∀ n, openS k (n + 1) = 40 :: (wordK k ++ 32 :: openS k n)
  | 0 => by simp [openS]
  | n + 1 => by
    show openS k (n + 1) ++ (40 :: (wordK k ++ [32])) = 40 :: (wordK k ++ 32 :: (openS k n ++ (40 :: (wordK k ++ [32]))))
    rw [openS_front k n]
    simp
theorem atom1_text (next : Fst) : textF (atom1 next) = 32 :: (atomS ++ textF next) := by
  rw [atom1, textF, if_pos rfl, textF]
  simp only [Int.natCast_one]
  rw [dec1]
  rfl
theorem deep_body {k : Nat} (hk : k ≠ 0) : ∀ n, textF (deepF k n) = 32 :: (openS k n ++ (atomS ++ closeS n))
  | 0 => by rw [deepF, atom1_text]; rfl
  | n + 1 => by
    rw [deepF, textF, if_neg hk, deep_body hk n, openS_front]
    simp [closeS, List.replicate_succ']
    rfl
theorem deep_text {k : Nat} (hk : k ≠ 0) (n : Nat) : printF 1 2 (deepF k n) = deepS k n := by
  unfold printF
  rw [deep_body hk n]
  unfold deepS
  rw [dec1, dec2]
  simp [wFrom, wTo, pre12]
def atomsS : Nat → List UInt8
  | 0 => []
  | m + 1 => atomsS m ++ 32 :: atomS
theorem atomsS_front : ∀ m, atomsS (m + 1) = 32 :: (atomS ++ atomsS m)
  | 0 => by simp [atomsS]
  | m + 1 => by
    show atomsS (m + 1) ++ 32 :: atomS = 32 :: (atomS ++ (atomsS m ++ 32 :: atomS))
    rw [atomsS_front m]
    simp
theorem wide_body : ∀ m, textF (wideF m) = atomsS m
  | 0 => rfl
  | m + 1 => by
    rw [wideF, atom1_text, wide_body m, atomsS_front]
theorem wideS_eq : ∀ m, wideS m = [102, 114, 111, 109, 32, 49, 32, 116, 111, 32, 50, 58, 32, 40, 97, 108, 108] ++ atomsS m
  | 0 => rfl
  | m + 1 => by rw [wideS, wideS_eq m, atomsS]; simp
theorem wide_text (m : Nat) : printF 1 2 (allF m) = wideS m ++ [41] := by
  unfold printF allF
  rw [textF, wide_body, wideS_eq]
  rw [dec1, dec2]
  simp [wFrom, wTo, wordK, textF]
theorem openS_len (k : Nat) : ∀ n, (openS k n).length = n * (2 + (wordK k).length)
  | 0 => by simp [openS]
  | n + 1 => by
    rw [openS, List.length_append, openS_len k n, Nat.succ_mul]
    simp
    omega
theorem deepS_len (k n : Nat) : (deepS k n).length = 25 + n * (3 + (wordK k).length) := by
  unfold deepS closeS
  simp only [List.length_append, openS_len, List.length_replicate]
  rw [Nat.mul_add, Nat.mul_add]
  simp only [pre12, atomS, List.length_cons, List.length_nil]
  omega
theorem wideS_len : ∀ m, (wideS m).length = 17 + 13 * m
  | 0 => rfl
  | m + 1 => by
    rw [wideS, List.length_append, wideS_len m]
    simp only [atomS, List.length_cons, List.length_nil]
    omega
/-- What the statement on depth asks. -/
theorem deep_parse {k n : Nat} (hk : 1 ≤ k ∧ k ≤ 4) (hn : n < 20) : parseS (deepS k n) = if n < 8 then (⟨1, 2, (deepF k n).flat⟩, 0, 0) else (df0, 13 + 8 * (2 + (wordK k).length), 80) := by
  have hk0 : k ≠ 0 := by omega
  have hw : (wordK k).length ≤ 5 := by
    have : k = 1 ∨ k = 2 ∨ k = 3 ∨ k = 4 := by omega
    rcases this with rfl | rfl | rfl | rfl <;> decide
  have hlen : (deepS k n).length ≤ 4096 := by
    rw [deepS_len]
    have := Nat.mul_le_mul (show n ≤ 20 by omega) (show 3 + (wordK k).length ≤ 8 by omega)
    omega
  rw [← deep_text hk0 n] at hlen ⊢
  rw [print_text okN12.1 okN12.2 (deepF_wf hk n)] at hlen ⊢
  rw [parse_text okN12.1 okN12.2 (deepF_wf hk n) (deepF_len k n) hlen]
  by_cases c : n < 8
  · rw [if_pos c, deep_ok c]
  · rw [if_neg c, deep_bad hk0 8 0 n (by omega) (by omega)]
    simp only
    rw [deep_place hk0 (by omega)]
theorem wide_parse {m : Nat} (h0 : 0 < m) (hm : m ≤ 100) : parseS (wideS m ++ [41]) = if m < 64 then (⟨1, 2, (allF m).flat⟩, 0, 0) else (df0, 18 + 63 * 13, 80) := by
  have hlen : (wideS m ++ [41]).length ≤ 4096 := by rw [List.length_append, wideS_len]; simp; omega
  rw [← wide_text m] at hlen ⊢
  rw [print_text okN12.1 okN12.2 (allF_wf h0)] at hlen ⊢
  rw [parse_text okN12.1 okN12.2 (allF_wf h0) rfl hlen]
  by_cases c : m < 64
  · rw [if_pos c, all_ok c]
  · rw [if_neg c, all_bad (by omega)]
    simp only
    rw [wide_place (by omega)]
theorem all_flat_len (m : Nat) : (allF m).flat.length = m + 1 := by rw [flat_len]; unfold allF; simp only [Fst.size, wideF_size]
end Go.Proofs.YtkjpmhmlakmglaaDoor

namespace Go.Proofs.YtkjpmhmlakmglaaDoor
open Go.ChangeShapes Go.WideShapes Go.ChangeAt Go.RowKit
attribute [local irreducible] Go.Calls

/-- What Parse hands back, where the answer is known. -/
def ParIs (w : World) (d : Df) (p : Nat) (er : Int) (e : Ending) (w' : World) : Prop := ∃ (a : Option Addr) (cap : Nat), e = .returned (.tuple #[defV d.fr d.to' a d.T.length cap, .int .i64 p, .int .i64 er]) ∧ d.T.length ≤ cap ∧ cap ≤ 9223372036854775807 ∧ ArgP w' a d.T ∧ Below w.heap.size w w'
/-- Are two definitions the same? -/
def sameD (d e : Df) : Bool := decide (d = e)
theorem df_iff {d e : Df} : d = e ↔ d.fr = e.fr ∧ d.to' = e.to' ∧ d.T = e.T := by
  obtain ⟨a, b, c⟩ := d
  obtain ⟨a', b', c'⟩ := e
  simp
end Go.Proofs.YtkjpmhmlakmglaaDoor

namespace Go.Proofs.YtkjpmhmlakmglaaDoor
open Go.ChangeShapes Go.WideShapes Go.ChangeAt Go.RowKit
attribute [local irreducible] Go.Calls

theorem endF_big : ∀ (l : List Prt) (n : Nat), l.length < n → endF l n = none
  | [], n + 1, _ => rfl
  | x :: l, n + 1, h => by
    rw [endF_cons]
    by_cases c : 4 < x.kind ∨ x.kids < 0
    · rw [if_pos c]
    · rw [if_neg c, endF_big l _ (by simp only [List.length_cons] at h; omega)]
theorem treeB_end (l : List Prt) : treeB l = decide (endF l 1 = some []) := by
  unfold treeB
  cases l with
  | nil => rfl
  | cons x l => rw [decide_eq_true (by simp : x :: l ≠ []), Bool.true_and]
set_option maxHeartbeats 1000000 in
theorem tree_c (T : List Prt) (hW : ∀ x ∈ T, x.kind ≤ 255) (a : Option Addr) (cap : Nat) (w : World) (hl : T.length ≤ 100000) (hA : ArgP w a T) : Calls Tryd.prog 60 #[.slice a T.length cap] w fun e w' => e = .returned (.bool (treeB T)) ∧ Below w.heap.size w w' := by
  have HA := hidE hA; have HW := hidE hW
  have HT := hidE (treeB_end T)
  clear hA hW
  obtain ⟨b0, hb0⟩ : ∃ b0, b0 = treeB T := ⟨_, rfl⟩
  rw [← hb0] at HT ⊢
  clear hb0
  go_enter Tryd.func60, Tryd.ntmps60
  go_wp2
  go_loopg [3, 9] T.length (fun g v3 v9 wr => ∃ (k D : Nat), k ≤ T.length ∧ T.length - k ≤ g ∧ v3 = .int .i64 D ∧ v9 = .int .i64 k ∧ (D ≤ T.length - k ∨ (k = 0 ∧ D = 1)) ∧ b0 = decide (endF (T.drop k) D = some []) ∧ Below w.heap.size w wr)
  case atStart => exact ⟨0, 1, Nat.zero_le _, Nat.le_refl _, rfl, rfl, .inr ⟨rfl, rfl⟩, HT.out, Below.refl _ _⟩
  case round =>
    obtain ⟨k, D, hk, hg, rfl, rfl, hD, he, hb⟩ := hrel
    have HG := hidE hg; have HE := hidE he; have HB := hidE hb
    clear hg he hb HT
    by_cases hlt : k < T.length
    · obtain ⟨p, off, rfl, hp, hc⟩ := (HA.out.past HB.out) (by omega)
      obtain ⟨c0, c1, c2, c3, c4⟩ := hc.get hlt
      have hdr : T.drop k = T.getD k pr0 :: T.drop (k + 1) := by
        rw [List.drop_eq_getElem_cons hlt, pgetD _ _ hlt]
      have hkd : (T.getD k pr0).kind ≤ 255 := HW.out _ (by rw [pgetD _ _ hlt]; exact List.getElem_mem hlt)
      have hdl : (T.drop (k + 1)).length = T.length - (k + 1) := by simp
      rw [hdr] at HE
      clear hdr hc
      generalize T.getD k pr0 = x at *
      generalize hTL : T.drop (k + 1) = R at *
      have q1 : decide ((k : Int) < (T.length : Int)) = true := decide_eq_true (by omega)
      have q2 : decide (k < T.length) = true := decide_eq_true hlt
      have w1 : IntKind.i64.wrap ((T.length : Int) - (k : Int)) = (T.length : Int) - (k : Int) := IntWalk.i64_in _ (by omega)
      have w2 : IntKind.i64.wrap ((T.length : Int) - (k : Int) - 1) = (T.length : Int) - (k : Int) - 1 := IntWalk.i64_in _ (by omega)
      have w3 : IntKind.i64.wrap ((D : Int) - 1) = (D : Int) - 1 := IntWalk.i64_in _ (by omega)
      have w4 : IntKind.i64.wrap ((T.length : Int) - (k : Int) - 1 - ((D : Int) - 1)) = (T.length : Int) - (k : Int) - 1 - ((D : Int) - 1) := IntWalk.i64_in _ (by omega)
      by_cases n0 : D = 0
      · have HX := hidE (show b0 = false by rw [HE.out, n0]; exact decide_eq_false (by intro h; cases h))
        have q3 : ((D : Int) == 0) = true := beq_iff_eq.2 (by omega)
        clear n0 hD w3 w4
        go_wp2
        go_ret
        exact ⟨ret_bool HX.out.symm, by have := HB.out; (repeat (first | exact Below.refl _ _ | assumption | refine balloc ?_ _ | refine below_drewN ?_ _ | refine bstep (by assumption) ?_ | refine bstep (Past.prop _) ?_ | refine Below.setCell ?_ (by first | exact Nat.le_refl _ | (simp; done) | (simp; omega)) _))⟩
      · have q3 : ((D : Int) == 0) = false := beq_eq_false_iff_ne.2 (by omega)
        obtain ⟨n, rfl⟩ : ∃ n, D = n + 1 := ⟨D - 1, by omega⟩
        have hn' : n ≤ 100000 := by omega
        have q3' : ((n : Int) + 1 == 0) = false := beq_eq_false_iff_ne.2 (by omega)
        have w4' : IntKind.i64.wrap ((T.length : Int) - (k : Int) - 1 - (n : Int)) = (T.length : Int) - (k : Int) - 1 - (n : Int) := IntWalk.i64_in _ (by omega)
        have HE2 := hidE (by have := HE.out; rw [endF_cons] at this; exact this)
        clear HE n0
        by_cases n1 : 4 < x.kind
        · have HX := hidE (show b0 = false by rw [HE2.out, if_pos (.inl n1)]; rfl)
          have q4 : decide ((x.kind : Int) ≥ 5) = true := decide_eq_true (by omega)
          have q5 : decide ((5 : Int) ≤ (x.kind : Int)) = true := decide_eq_true (by omega)
          have q6 : decide (5 ≤ x.kind) = true := decide_eq_true (by omega)
          have q7 : decide (x.kind ≥ 5) = true := decide_eq_true (by omega)
          clear hD w3 w4 HE2
          go_wp2
          go_ret
          exact ⟨ret_bool HX.out.symm, by have := HB.out; (repeat (first | exact Below.refl _ _ | assumption | refine balloc ?_ _ | refine below_drewN ?_ _ | refine bstep (by assumption) ?_ | refine bstep (Past.prop _) ?_ | refine Below.setCell ?_ (by first | exact Nat.le_refl _ | (simp; done) | (simp; omega)) _))⟩
        · have q4 : decide ((x.kind : Int) ≥ 5) = false := decide_eq_false (by omega)
          have q5 : decide ((5 : Int) ≤ (x.kind : Int)) = false := decide_eq_false (by omega)
          have q6 : decide (5 ≤ x.kind) = false := decide_eq_false (by omega)
          have q7 : decide (x.kind ≥ 5) = false := decide_eq_false (by omega)
          by_cases n2 : x.kids < 0
          · have HX := hidE (show b0 = false by rw [HE2.out, if_pos (.inr n2)]; rfl)
            have q8 : decide (x.kids < 0) = true := decide_eq_true n2
            clear hD w3 w4 HE2 n2
            go_wp2
            go_ret
            exact ⟨ret_bool HX.out.symm, by have := HB.out; (repeat (first | exact Below.refl _ _ | assumption | refine balloc ?_ _ | refine below_drewN ?_ _ | refine bstep (by assumption) ?_ | refine bstep (Past.prop _) ?_ | refine Below.setCell ?_ (by first | exact Nat.le_refl _ | (simp; done) | (simp; omega)) _))⟩
          · have q8 : decide (x.kids < 0) = false := decide_eq_false n2
            by_cases n3 : x.kids > (T.length : Int) - (k : Int) - 1 - (n : Int)
            · have HX := hidE (show b0 = false by
                rw [HE2.out, if_neg (by omega), endF_big R _ (by rw [hdl]; omega)]; rfl)
              have q9 := decide_eq_true n3
              have q10 : decide ((T.length : Int) - (k : Int) - 1 - (n : Int) < x.kids) = true := decide_eq_true n3
              clear hD HE2
              go_wp2
              go_ret
              exact ⟨ret_bool HX.out.symm, by have := HB.out; (repeat (first | exact Below.refl _ _ | assumption | refine balloc ?_ _ | refine below_drewN ?_ _ | refine bstep (by assumption) ?_ | refine bstep (Past.prop _) ?_ | refine Below.setCell ?_ (by first | exact Nat.le_refl _ | (simp; done) | (simp; omega)) _))⟩
            · have q9 := decide_eq_false n3
              have q10 : decide ((T.length : Int) - (k : Int) - 1 - (n : Int) < x.kids) = false := decide_eq_false n3
              have HX := hidE (show b0 = decide (endF R (n + x.kids.toNat) = some []) by rw [HE2.out, if_neg (by omega)])
              have w5 : IntKind.i64.wrap (x.kids - 1) = x.kids - 1 := IntWalk.i64_in _ (by omega)
              have w6 : IntKind.i64.wrap ((n : Int) + 1 + (x.kids - 1)) = (n : Int) + 1 + (x.kids - 1) := IntWalk.i64_in _ (by omega)
              clear HE2
              go_wp2
              go_roundg (T.length - (k + 1))
              case measure => have := HG.out; omega
              case rel =>
                refine ⟨k + 1, n + x.kids.toNat, by omega, Nat.le_refl _, ?_, rfl, .inl (by omega), by rw [hTL]; exact HX.out, by have := HB.out; (repeat (first | exact Below.refl _ _ | assumption | refine balloc ?_ _ | refine below_drewN ?_ _ | refine bstep (by assumption) ?_ | refine bstep (Past.prop _) ?_ | refine Below.setCell ?_ (by first | exact Nat.le_refl _ | (simp; done) | (simp; omega)) _))⟩
                congr 1
                omega
    · have q1 : decide ((k : Int) < (T.length : Int)) = false := decide_eq_false (by omega)
      have q2 : decide (k < T.length) = false := decide_eq_false hlt
      have HX := hidE (show b0 = ((D : Int) == 0) by
        rw [HE.out, List.drop_eq_nil_of_le (by omega)]
        cases D with
        | zero => rfl
        | succ n => rw [show endF [] (n + 1) = none from rfl]; simp; omega)
      go_wp2
      go_ret
      exact ⟨ret_bool HX.out.symm, HB.out⟩
end Go.Proofs.YtkjpmhmlakmglaaDoor

namespace Go.Proofs.YtkjpmhmlakmglaaDoor
open Go.ChangeShapes Go.WideShapes Go.ChangeAt Go.RowKit Go.Shelf
attribute [local irreducible] Go.Calls

/-- What Print hands back: of a tree its text, if its numbers are what a text may have; else an error, or some text. -/
def PrintPost (w : World) (fr to' : Int) (T : List Prt) (e : Ending) (w' : World) : Prop :=
  ∃ (t : List UInt8) (er : Int), e = .returned (.tuple #[strV t, .int .i64 er]) ∧ Below w.heap.size w w' ∧ t.length ≤ 1000000000 ∧ ((treeB T = false ∧ er = 81 ∧ t = []) ∨ (er = 0 ∧ ∃ F : Fst, F.kok ∧ F.len = 1 ∧ T = F.flat ∧ t = printF fr to' F))
/-- What a text begins with. -/
def headW (fr to' : Int) : List UInt8 := [102, 114, 111, 109, 32] ++ decS fr ++ [32, 116, 111, 32] ++ decS to' ++ [58]
theorem headW_print (fr to' : Int) (F : Fst) : headW fr to' ++ textF F = printF fr to' F := by
  simp [headW, printF, wFrom, wTo]
/-- What is kept while parts are written. -/
structure PrSt (b : Nat) (a : List UInt8 × List Int) (fr to' : Int) (ad : Option Addr) (T : List Prt) (cap : Nat) (p : Nat) (w0 w : World) : Prop where
  wr : WrI b b a.1 a.2 w
  bel : Below b w0 w
  d : Blk w p #[.int .i64 fr, .int .i64 to', .slice ad T.length cap] 24
  arg : ArgP w ad T
  tb : Tb b w
  sz : b ≤ w.heap.size
theorem PrSt.next {b : Nat} {a a' : List UInt8 × List Int} {fr to' : Int} {ad : Option Addr} {T : List Prt} {cap p : Nat} {w0 w w' : World} (h : PrSt b a fr to' ad T cap p w0 w) (hp : p < b) (hw0 : w0.heap.size = b) (hA0 : ArgP w0 ad T) (hb : Below b w w') (hw : WrI b b a'.1 a'.2 w') : PrSt b a' fr to' ad T cap p w0 w' :=
  ⟨hw, h.bel.trans hb, h.d.below hb hp, hA0.past (by rw [hw0]; exact h.bel.trans hb), h.tb.below hb, Nat.le_trans h.sz hb.size⟩
theorem stOk_nil : StOk [] := ⟨fun y hy => (by cases hy), fun c r e => (by cases e)⟩
theorem WrI.past {B b : Nat} {s : List UInt8} {st : List Int} {w w' : World} (h : WrI B b s st w) (hb : Below w.heap.size w w') : WrI B b s st w' := by
  obtain ⟨o, h1, h2⟩ := h
  exact ⟨o, h1.past hb, own_below h2 hb⟩
theorem WrI.wrote {B b : Nat} {s s' : List UInt8} {st : List Int} {o : Value} {w w' : World} (h1 : Wr B b s o w) (h2 : w.ownsRow B 3 1 o st.length (intsV st.reverse)) (hw : WroteW B b s' o w w') : WrI B b s' st w' := by
  obtain ⟨pv, v, hb, hB⟩ := wr_blk h1
  exact ⟨o, hw.1, own_others (by decide) h2 (row_ne h2 hb) hw.2.2⟩
set_option maxRecDepth 100000 in
set_option maxHeartbeats 2000000 in
theorem print_c (fr to' : Int) (hf : -9223372036854775808 ≤ fr ∧ fr ≤ 9223372036854775807) (ht : -9223372036854775808 ≤ to' ∧ to' ≤ 9223372036854775807) (T : List Prt) (hW : ∀ x ∈ T, PrtW x) (a : Option Addr) (cap : Nat) (w : World) (hl : T.length ≤ 100000) (hA : ArgP w a T) (hT : Tab w) :
    Calls Tryd.prog 56 #[defV fr to' a T.length cap] w (PrintPost w fr to' T) := by
  have HC := hidE (fun w' (hb : Below w.heap.size w w') => tree_c T (fun x hx => (hW x hx).1) a cap w' hl (hA.past hb))
  have HA := hidE hA; have HT := hidE hT; have HW := hidE hW
  clear hA hT hW
  cases htr : treeB T with
  | false =>
    rw [htr] at HC
    have HTR := hidE htr; clear htr
    go_enter Tryd.func56, Tryd.ntmps56
    go_wp2_with fail
    ((with_reducible refine (HC.out _ (by (repeat (first | exact Below.refl _ _ | assumption | refine balloc ?_ _ | refine below_drewN ?_ _ | refine bstep (by assumption) ?_ | refine bstep (Past.prop _) ?_ | refine Below.setCell ?_ (by first | exact Nat.le_refl _ | (simp; done) | (simp; omega)) _)))).mono ?_); rintro e w1 ⟨rfl, hb⟩)
    have HB := hidE (show Below w.heap.size w w1 by (repeat (first | exact Below.refl _ _ | assumption | refine balloc ?_ _ | refine below_drewN ?_ _ | refine bstep (by assumption) ?_ | refine bstep (Past.prop _) ?_ | refine Below.setCell ?_ (by first | exact Nat.le_refl _ | (simp; done) | (simp; omega)) _)))
    clear hb
    go_wp2
    refine bodyPost_ret (v := .tuple #[strV [], .int .i64 81]) (by simp [results, Tryd.results56, go_sem]) rfl ⟨[], 81, rfl, HB.out, by simp, .inl ⟨HTR.out, rfl, rfl⟩⟩
  | true =>
    rw [htr] at HC
    obtain ⟨F, k1, k2, k3⟩ := tree_iff.1 htr
    have HK1 := hidE k1; have HK2 := hidE k2; have HK3 := hidE k3
    have hlf := decS_len hf; have hlt := decS_len ht
    clear htr k1 k2 k3
    go_enter Tryd.func56, Tryd.ntmps56
    go_wp2_with fail
    ((with_reducible refine (HC.out _ (by (repeat (first | exact Below.refl _ _ | assumption | refine balloc ?_ _ | refine below_drewN ?_ _ | refine bstep (by assumption) ?_ | refine bstep (Past.prop _) ?_ | refine Below.setCell ?_ (by first | exact Nat.le_refl _ | (simp; done) | (simp; omega)) _)))).mono ?_); rintro e w1 ⟨rfl, hb⟩)
    have hb0 := (Blk.made w #[.int .i64 fr, .int .i64 to', .slice a T.length cap] 24).past hb
    have hbw : Below w.heap.size w w1 := by (repeat (first | exact Below.refl _ _ | assumption | refine balloc ?_ _ | refine below_drewN ?_ _ | refine bstep (by assumption) ?_ | refine bstep (Past.prop _) ?_ | refine Below.setCell ?_ (by first | exact Nat.le_refl _ | (simp; done) | (simp; omega)) _))
    have hS : PrSt w1.heap.size ([], []) fr to' a T cap w.heap.size w1 (w1.alloc (.cells #[.pointer none, .slice none 0 0, .slice none 0 0] 110)) := by
      have hba : Below w1.heap.size w1 (w1.alloc (.cells #[.pointer none, .slice none 0 0, .slice none 0 0] 110)) := balloc (Below.refl _ _) _
      exact ⟨⟨.slice none 0 0, .inl ⟨Nat.le_refl _, .slice none 0 0, Blk.made _ _ _, World.ownsRowF_nil _ _ _ _⟩, World.ownsRow_nil _ _ _ _⟩, hba, hb0.past hba, (HA.out.past hbw).past hba, (Tb.of (HT.out.past hbw) (Nat.le_refl _)).below hba, by simp⟩
    have HS := hidE hS; have HBW := hidE hbw
    have hpb : w.heap.size < w1.heap.size := hb0.lt
    have hA0 := HA.out.past hbw
    clear hS hbw hb hb0 HA HC
    have HA0 := hidE hA0
    clear hA0
    go_wp2_with fail
    generalize w1.alloc (.cells #[.pointer none, .slice none 0 0, .slice none 0 0] 110) = w2 at *
    obtain ⟨b, hbe⟩ : ∃ b, b = w1.heap.size := ⟨_, rfl⟩
    obtain ⟨p, hpe⟩ : ∃ p, p = w.heap.size := ⟨_, rfl⟩
    rw [← hbe] at HS hpb ⊢
    rw [← hpe] at HS hpb ⊢
    have HBE := hidE hbe; have HPE := hidE hpe
    clear hbe hpe
    obtain ⟨o, ho1, ho2⟩ := HS.out.wr
    have HO1 := hidE ho1; have HO2 := hidE ho2
    have c0 := HS.out.d.cell 0; have c1 := HS.out.d.cell 1; have z := HS.out.d.lt
    simp at c0 c1
    have HD1 := hidE (fun (y : Past w2) => dec_c fr hf y.1 (HS.out.tb.below (y.2.mono HS.out.sz)).pow)
    have HD2 := hidE (fun (y : Past w2) => dec_c to' ht y.1 (HS.out.tb.below (y.2.mono HS.out.sz)).pow)
    have hcp := Past.cell (W := w2)
    clear ho1 ho2
    refine wp_region_bar 13 _ (by kernel_rfl) rfl (by kernel_rfl) (fun v w'' => v = .tuple #[.int .i64 (headW fr to').length, .nilIface] ∧ WroteW b b (headW fr to') o w2 w'') ?_
    simp only [List.take_succ_cons, List.take_zero, List.drop_succ_cons, List.drop_zero]
    repeat (go_big_quiet_step ((go_at_call 62; first | exact Past.call _ (HD1.out _) | exact Past.call _ (HD2.out _))))
    refine wpQuiet_nil ?_
    intro y
    refine ⟨rfl, ?_, ?_⟩
    · simp [go_sem, gives]
      rw [show (⟨#[102, 114, 111, 109, 32]⟩ : ByteArray) ++ ⟨(decS fr).toArray⟩ ++ ⟨#[32, 116, 111, 32]⟩ ++ ⟨(decS to').toArray⟩ ++ ⟨#[58]⟩ = ⟨(headW fr to').toArray⟩ from by
        rw [show (⟨#[102, 114, 111, 109, 32]⟩ : ByteArray) = ⟨([102, 114, 111, 109, 32] : List UInt8).toArray⟩ from rfl, show (⟨#[32, 116, 111, 32]⟩ : ByteArray) = ⟨([32, 116, 111, 32] : List UInt8).toArray⟩ from rfl, show (⟨#[58]⟩ : ByteArray) = ⟨([58] : List UInt8).toArray⟩ from rfl, str_cat, str_cat, str_cat, str_cat]
        rfl]
      have hhl : (headW fr to').length ≤ 60 := by simp only [headW, List.length_append, List.length_cons, List.length_nil]; omega
      refine (wr_str b b [] (headW fr to') o y.1 (HO1.out.past y.2) (by simp only [List.length_nil]; omega) (Nat.le_trans HS.out.sz y.2.size)).mono ?_
      rintro e w'' ⟨rfl, h1, h2, h3⟩
      have hy := y.2
      exact ⟨_, rfl, rfl, h1, (hy.mono HS.out.sz).trans h2, Lib.OthersKept.trans (others_past hy) h3⟩
    · rintro v w3 ⟨rfl, hw3⟩
      have HS3 := hidE (HS.out.next (a' := (headW fr to', [])) hpb HBE.out.symm HA0.out hw3.2.1 (WrI.wrote HO1.out HO2.out hw3))
      clear hw3 c0 c1 z hcp HD1 HD2
      refine wpQuiet_nil ?_
      rintro _ ⟨y, rfl⟩
      have HS4 := hidE (HS3.out.next (a' := (headW fr to', [])) hpb HBE.out.symm HA0.out (y.2.mono HS3.out.sz) (HS3.out.wr.past y.2))
      clear HS3 HS HO1 HO2
      generalize y.1 = w4 at *
      clear y
      have c2 := HS4.out.d.cell 2; have z := HS4.out.d.lt
      simp at c2
      simp only [Act.put, List.setIfInBounds_toArray, List.set_cons_succ, List.set_cons_zero]
      have hhl : (headW fr to').length ≤ 60 := by simp only [headW, List.length_append, List.length_cons, List.length_nil]; omega
      have HPART := hidE (fun (k : Nat) (hk : k ≤ T.length) => partsW_ok (T.take k) (headW fr to', []) stOk_nil (fun x hx => ⟨HW.out x (List.mem_of_mem_take hx), by
        have h1 := List.mem_of_mem_take hx
        rw [HK3.out] at h1
        have := kok_kids F HK1.out x h1
        have h2 := flat_len F
        rw [← HK3.out] at h2
        omega⟩))
      go_wp2_with fail
      go_loopg [30] T.length (fun gh v30 wr => ∃ k : Nat, k ≤ T.length ∧ T.length - k ≤ gh ∧ v30 = .int .i64 k ∧ PrSt b (partsW (headW fr to', []) (T.take k)) fr to' a T cap p w1 wr)
      case atStart => exact ⟨0, Nat.zero_le _, Nat.le_refl _, rfl, HS4.out⟩
      case round =>
        obtain ⟨k, hk, hgh, rfl, hp⟩ := hrel
        have HG := hidE hgh; have HP := hidE hp
        clear hgh hp
        by_cases hlt : k < T.length
        · obtain ⟨bb, off, rfl, hbb, hc⟩ := HP.out.arg (by omega)
          obtain ⟨e0, e1, e2, e3, e4⟩ := hc.get hlt
          have q1 : decide ((k : Int) < (T.length : Int)) = true := decide_eq_true (by omega)
          have q2 : decide (k < T.length) = true := decide_eq_true hlt
          have hx := HW.out (T.getD k pr0) (by rw [pgetD _ _ hlt]; exact List.getElem_mem hlt)
          have hmem : T.getD k pr0 ∈ F.flat := by rw [← HK3.out, pgetD _ _ hlt]; exact List.getElem_mem hlt
          have hkk := kok_kind F HK1.out _ hmem
          have hki := kok_kids F HK1.out _ hmem
          have hfs : F.size ≤ 100000 := by rw [← flat_len, ← HK3.out]; exact hl
          have hok := HPART.out k (by omega)
          have htk : (T.take k).length = k := by rw [List.length_take]; omega
          rw [htk] at hok
          have HNX := hidE (partsW_succ (headW fr to', []) T k hlt)
          have HPT := hidE (fun w' (hb : Below wr.heap.size wr w') => part_c b b (partsW (headW fr to', []) (T.take k)).1 (partsW (headW fr to', []) (T.take k)).2 (T.getD k pr0) w' (Nat.le_trans HP.out.sz hb.size) (HP.out.wr.past hb) hok.1 (by have := hok.2; simp only [List.length_nil] at this; omega) hx hkk ⟨hki.1, by omega⟩ (HP.out.tb.below (hb.mono HP.out.sz)))
          clear hc hx hmem hkk hki hok htk
          rw [show (⟨0, 0, 0, 0, 0⟩ : Prt) = pr0 from rfl] at HNX
          generalize T.getD k pr0 = x at *
          go_wp2_with fail
          have hba : Below wr.heap.size wr (wr.alloc (.cells #[.int .u8 x.kind, .int .u32 x.n, .int .u32 x.g, .int .i64 x.d, .int .i64 x.kids] 36)) := balloc (Below.refl _ _) _
          ((with_reducible refine (HPT.out _ hba).mono ?_); rintro e w6 ⟨rfl, hwi, hb6⟩)
          have HB6 := hidE ((hba.mono HP.out.sz).trans hb6); have HWI := hidE hwi
          clear hba hwi hb6
          go_wp2
          go_roundg (T.length - (k + 1))
          case measure => have := HG.out; omega
          case rel => exact ⟨k + 1, by omega, Nat.le_refl _, by go_num, HP.out.next hpb HBE.out.symm HA0.out HB6.out (by rw [HNX.out]; exact HWI.out)⟩
        · have q1 : decide ((k : Int) < (T.length : Int)) = false := decide_eq_false (by omega)
          have q2 : decide (k < T.length) = false := decide_eq_false hlt
          have hkT : T.take k = F.flat := by rw [List.take_of_length_le (by omega), HK3.out]
          have hfin := HP.out
          have hlen2 := (HPART.out k hk).2
          rw [hkT, partsW_one HK2.out, headW_print] at hfin
          rw [hkT, partsW_one HK2.out, headW_print] at hlen2
          have htl : (printF fr to' F).length ≤ 1000000000 := by
            simp only [List.length_nil] at hlen2
            rw [← HK3.out] at hlen2
            omega
          obtain ⟨o2, g1, _⟩ := hfin.wr
          have hne : printF fr to' F ≠ [] := by simp [printF, wFrom]
          have HSTR := hidE (wr_string b b (printF fr to' F) o2 wr g1 hne (by omega))
          have HBF := hidE (hfin.bel)
          clear hkT hfin hlen2 g1 hne
          go_wp2_with fail
          ((with_reducible refine HSTR.out.mono ?_); rintro e w5 ⟨rfl, hb5⟩)
          have HB5 := hidE (HBW.out.trans (((HBF.out.trans hb5)).mono (by rw [HBE.out]; exact HBW.out.size)))
          clear hb5
          go_wp2
          refine bodyPost_ret (v := .tuple #[strV (printF fr to' F), .int .i64 0]) (by simp [results, Tryd.results56, go_sem]) rfl ⟨printF fr to' F, 0, rfl, HB5.out, htl, .inr ⟨rfl, F, HK1.out, HK2.out, HK3.out, rfl⟩⟩
end Go.Proofs.YtkjpmhmlakmglaaDoor

namespace Go.Proofs.YtkjpmhmlakmglaaDoor

def parseF (s : List UInt8) : Df × Nat × Int :=
  if 4096 < s.length then (df0, 0, 3) else match lexF s.length 0 s with
  | .error p => (df0, p, 60)
  | .ok l => match defP l with
    | .ok r => (⟨r.1, r.2.1, r.2.2.flat⟩, 0, 0)
    | .error e => (df0, e.2.getD s.length, e.1)
theorem parseF_eq (s : List UInt8) : parseF s = parseS s := by unfold parseF parseS; rw [lexF_eq _ _ _ (Nat.le_refl _)]; rfl
/-- The text of the document's example. -/
def hp0 : List UInt8 := [102, 114, 111, 109, 32, 48, 32, 116, 111, 32, 49, 48, 48, 58, 32, 40, 111, 114, 100, 101, 114, 32, 40, 97, 116, 111, 109, 32, 50, 32, 49, 32, 49, 48, 41, 32, 40, 97, 110, 121, 32, 40, 97, 116, 111, 109, 32, 52, 32, 50, 32, 53, 41, 32, 40, 97, 116, 111, 109, 32, 49, 32, 49, 32, 50, 48, 41, 41, 41]
def hp0T : List Prt := [⟨1, 0, 0, 0, 2⟩, ⟨0, 2, 1, 10, 0⟩, ⟨3, 0, 0, 0, 2⟩, ⟨0, 4, 2, 5, 0⟩, ⟨0, 1, 1, 20, 0⟩]
def hp0F : Fst := .cons ⟨1, 0, 0, 0, 0⟩ (.cons ⟨0, 2, 1, 10, 0⟩ .nil (.cons ⟨3, 0, 0, 0, 0⟩ (.cons ⟨0, 4, 2, 5, 0⟩ .nil (.cons ⟨0, 1, 1, 20, 0⟩ .nil .nil)) .nil)) .nil
theorem hp0_parse : parseS hp0 = (⟨0, 100, hp0T⟩, 0, 0) := (parseF_eq hp0).symm.trans (by decide +kernel)
theorem hp0_flat : hp0F.flat = hp0T := rfl
theorem hp0_tree : treeB hp0T = true := by decide +kernel
theorem hp0_cut : treeB (hp0T.take 4) = false := by decide +kernel
theorem nil_tree : treeB [] = false := by decide +kernel
theorem hp1_parse : parseS [102, 114, 111, 109, 32, 48, 32, 116, 111, 32, 57, 32, 40, 97, 116, 111, 109, 32, 49, 32, 49, 32, 49, 41] = (df0, 12, 70) := (parseF_eq _).symm.trans (by decide +kernel)
theorem hp2_parse : parseS [102, 114, 111, 109, 32, 48, 32, 116, 111, 32, 57, 58, 32, 40, 111, 114, 100, 101, 114, 41] = (df0, 19, 70) := (parseF_eq _).symm.trans (by decide +kernel)
theorem hp3_parse : parseS [102, 114, 111, 109, 32, 48, 32, 116, 111, 32, 57, 58, 32, 40, 97, 116, 111, 109, 32, 49, 32, 49, 41] = (df0, 22, 70) := (parseF_eq _).symm.trans (by decide +kernel)
theorem hp4_parse : parseS hp0.dropLast = (df0, 68, 70) := (parseF_eq _).symm.trans (by decide +kernel)
theorem hp5_parse : parseS [] = (df0, 0, 70) := (parseF_eq _).symm.trans (by decide +kernel)
theorem hp6_parse : parseS [102, 114, 111, 109, 32, 48, 32, 116, 111, 32, 57, 58, 32, 40, 97, 116, 111, 109, 32, 52, 50, 57, 52, 57, 54, 55, 50, 57, 54, 32, 49, 32, 49, 41] = (df0, 19, 70) := (parseF_eq _).symm.trans (by decide +kernel)
theorem flat_inj : ∀ (F G : Fst) (r r' : List Prt), F.kok → G.kok → F.len = G.len → F.flat ++ r = G.flat ++ r' → F = G ∧ r = r'
  | .nil, .nil, r, r', _, _, _, h => ⟨rfl, h⟩
  | .nil, .cons _ _ _, _, _, _, _, h, _ => by simp [Fst.len] at h
  | .cons _ _ _, .nil, _, _, _, _, h, _ => by simp [Fst.len] at h
  | .cons x k n, .cons y k' n', r, r', ⟨_, x0, f1, f2⟩, ⟨_, y0, g1, g2⟩, hl, h => by
    simp only [Fst.flat, List.cons_append, List.append_assoc, List.cons.injEq] at h
    obtain ⟨h1, h2⟩ := h
    obtain ⟨x1, x2, x3, x4, x5⟩ := x
    obtain ⟨y1, y2, y3, y4, y5⟩ := y
    simp only [Prt.mk.injEq] at h1 x0 y0
    obtain ⟨rfl, rfl, rfl, rfl, h3⟩ := h1
    obtain ⟨rfl, h4⟩ := flat_inj k k' _ _ f1 g1 (by omega) h2
    obtain ⟨rfl, h5⟩ := flat_inj n n' _ _ f2 g2 (by simp only [Fst.len] at hl; omega) h4
    exact ⟨by rw [x0, y0], h5⟩
theorem dig_small {n : Nat} (h : n < 10) : digG n = [UInt8.ofNat (48 + n)] := by rw [digG, if_pos h]
theorem dig_big {n : Nat} (h : ¬ n < 10) : digG n = digG (n / 10) ++ [UInt8.ofNat (48 + n % 10)] := by rw [digG, if_neg h]
theorem dc0 : decS 0 = [48] := (decS_of (by decide)).trans (dig_small (by decide))
theorem dc1 : decS 1 = [49] := (decS_of (by decide)).trans (dig_small (by decide))
theorem dc2 : decS 2 = [50] := (decS_of (by decide)).trans (dig_small (by decide))
theorem dc4 : decS 4 = [52] := (decS_of (by decide)).trans (dig_small (by decide))
theorem dc5 : decS 5 = [53] := (decS_of (by decide)).trans (dig_small (by decide))
theorem dg10 : digG 10 = [49, 48] := (dig_big (by decide)).trans (congrArg (· ++ [48]) (dig_small (n := 1) (by decide)))
theorem dg20 : digG 20 = [50, 48] := (dig_big (by decide)).trans (congrArg (· ++ [48]) (dig_small (n := 2) (by decide)))
theorem dc10 : decS 10 = [49, 48] := (decS_of (by decide)).trans dg10
theorem dc20 : decS 20 = [50, 48] := (decS_of (by decide)).trans dg20
theorem dc100 : decS 100 = [49, 48, 48] := (decS_of (by decide)).trans ((dig_big (by decide)).trans (congrArg (· ++ [48]) dg10))
theorem hp0_print : printF 0 100 hp0F = hp0 := by
  simp only [printF, hp0F, textF, Int.cast_ofNat_Int, dc0, dc1, dc2, dc4, dc5, dc10, dc20, dc100]
  decide +kernel
theorem hp0_kok : hp0F.kok := by simp [hp0F, Fst.kok]
/-- Whatever tree the example's parts are read as, its text is the example's. -/
theorem hp0_text {F : Fst} (h : F.kok) (h1 : F.len = 1) (h2 : hp0T = F.flat) : printF 0 100 F = hp0 := by
  have := (flat_inj hp0F F [] [] hp0_kok h (by rw [h1]; rfl) (by rw [List.append_nil, List.append_nil, ← h2]; rfl)).1
  rw [← this]
  exact hp0_print
end Go.Proofs.YtkjpmhmlakmglaaDoor

namespace Go.Proofs.YtkjpmhmlakmglaaDoor
open Go.ChangeShapes Go.WideShapes Go.ChangeAt Go.RowKit
attribute [local irreducible] Go.Calls

/-- A term's text as the program has it: a window ahead. -/
def txN (t : Tm) : List UInt8 := headW 0 0 ++ txT t
def cellsZ (l : List (List UInt8)) : List Value := l.map strV
theorem Tryd.infoStrN : (Tryd.prog.info? 9).map (fun i => (i.zero, i.size, i.bytes)) = some (some (strV []), 1, 16) := by kernel_rfl
theorem print_txN {t : Tm} {deep ink : Nat} (hf : FitT t deep ink) {T : List Prt} (hT : T = flT t) {w w' : World} {e : Ending} (h : PrintPost w 0 0 T e w') : e = .returned (.tuple #[strV (txN t), .int .i64 0]) ∧ Below w.heap.size w w' ∧ (txN t).length ≤ 1000000000 := by
  subst hT
  have hk := fitT_kok hf
  have hfl : flT t = (bare (.cons t.1 t.2 .nil)).flat := by rw [bare_flat]; rfl
  have hlen : (bare (.cons t.1 t.2 .nil)).len = 1 := (bare_len _).1
  obtain ⟨s, er, rfl, hb, hsl, h2⟩ := h
  rcases h2 with ⟨c, _⟩ | ⟨rfl, F, k1, k2, k3, rfl⟩
  · rw [tree_iff.2 ⟨_, hk, hlen, hfl⟩] at c; cases c
  · have : F = bare (.cons t.1 t.2 .nil) := (flat_inj F _ [] [] k1 hk (k2.trans hlen.symm) (by rw [← k3, ← hfl])).1
    have e : printF 0 0 F = txN t := by rw [this, ← headW_print, bare_text]; rfl
    exact ⟨by rw [e], hb, by rw [← e]; exact hsl⟩
/-- A slice value that reads as texts. -/
def SliZ (w : World) (v : Value) (l : List (List UInt8)) : Prop := ∃ (a : Option Addr) (cap : Nat), v = .slice a l.length cap ∧ l.length ≤ cap ∧ cap ≤ 9223372036854775807 ∧ (0 < l.length → ∃ b off, a = some ⟨b, off, none⟩ ∧ b < w.heap.size ∧ ∀ i, i < l.length → w.cell? ⟨b, off + i, none⟩ = some (strV (l.getD i [])))
theorem SliZ.past {w w' : World} {v : Value} {l : List (List UInt8)} (h : SliZ w v l) (hb : Below w.heap.size w w') : SliZ w' v l := by
  obtain ⟨a, cap, e, h1, h2, h3⟩ := h
  refine ⟨a, cap, e, h1, h2, fun hl => ?_⟩
  obtain ⟨b, off, e2, g1, g2⟩ := h3 hl
  exact ⟨b, off, e2, Nat.lt_of_lt_of_le g1 hb.size, fun i hi => (hb.cell (p := ⟨b, _, none⟩) g1).trans (g2 i hi)⟩
theorem sliZ_own {w : World} {B : Nat} {e : TypeId} {v : Value} {l : List (List UInt8)} (h : w.ownsRow B e 1 v l.length (cellsZ l)) : SliZ w v l := by
  obtain ⟨h1, h2 | ⟨g, cap, cur, rfl, h3, h4, h5, h6, h7, h8⟩⟩ := h
  · obtain ⟨rfl, h2⟩ := h2
    have : l = [] := List.eq_nil_of_length_eq_zero h2
    subst this
    exact ⟨none, 0, rfl, Nat.le_refl _, by omega, fun h => by simp at h⟩
  · refine ⟨some ⟨g, 0, none⟩, cap, rfl, h5, by unfold maxLen at h6; omega, fun _ => ⟨g, 0, rfl, lt_of_block h4, fun i hi => ?_⟩⟩
    have e : w.cell? ⟨g, 0 + i, none⟩ = cur[i]? := by simp [World.cell?, h4]
    have hx : (cellsZ l)[i]? = some (strV (l.getD i [])) := by
      unfold cellsZ
      rw [List.getElem?_map, List.getD_eq_getElem?_getD, List.getElem?_eq_getElem hi]; rfl
    rw [e, ← Array.getElem?_toList]
    rw [← h8, List.getElem?_take, if_pos (by omega)] at hx
    exact hx
/-- What texts hands back. -/
def TxtPost (w : World) (t : Tm) (e : Ending) (w' : World) : Prop := ∃ v, e = .returned v ∧ SliZ w' v ((toL t.2).map txN) ∧ Below w.heap.size w w' ∧ (∀ k, v.ownBlock = some k → w.heap.size ≤ k) ∧ ∀ u ∈ toL t.2, (txN u).length ≤ 1000000000
set_option maxHeartbeats 4000000 in
set_option maxRecDepth 100000 in
theorem texts_c (S : Nat → Prop) (p : Nat) (t : Tm) (w : World) (deep ink : Nat) (hT : TermB S w p t) (hf : FitT t deep ink) (hs : sizT t ≤ 64) (hTab : Tab w) :
    Calls Tryd.prog 50 #[.pointer (some ⟨p, 0, none⟩)] w (TxtPost w t) := by
  obtain ⟨z, v, hb, hv⟩ := hT
  obtain ⟨av, cap, rfl, hc1, hc2⟩ := hv.shape
  have hlen := fitT_len hf
  have pz := hb.lt
  have HV := hidE hv.old; have HF := hidE hf; have HTAB := hidE hTab
  obtain ⟨ix, hix, hz0, hzz, hz4⟩ := info_parts Tryd.infoStrN
  have HI := hidE hix; have HZ0 := hidE hz0; have HZ1 := hidE hzz; have HZ2 := hidE hz4
  have c6 := hb.cell 6
  simp at c6
  clear hix hz0 hzz hz4 hb hv hf hTab
  go_enter Tryd.func50, Tryd.ntmps50
  go_wp2
  go_loopg [3, 14] t.2.len (fun gh v3 v14 wr => ∃ (A C : List Tm), v14 = .int .i64 A.length ∧ A ++ C = toL t.2 ∧ C.length ≤ gh ∧ wr.ownsRow w.heap.size 9 1 v3 A.length (cellsZ (A.map txN)) ∧ Below w.heap.size w wr ∧ ∀ u ∈ A, (txN u).length ≤ 1000000000)
  case atStart => exact ⟨[], toL t.2, rfl, rfl, by rw [toL_len]; exact Nat.le_refl _, own_nil _ _ _, Below.refl _ _, fun u h => by cases h⟩
  case round =>
    obtain ⟨A, C, rfl, hAC, hgh, hown, hbl, hsl⟩ := hrel
    have HSL := hidE hsl
    clear hsl
    have HAC := hidE hAC; have HGH := hidE hgh; have HOW := hidE hown; have HBL := hidE hbl
    have hAn : A.length + C.length = t.2.len := by rw [← toL_len, ← hAC, List.length_append]
    obtain ⟨a3, c3, rfl⟩ := own_sli hown
    have e6 := (hbl.cell (p := ⟨p, 6, none⟩) pz).trans c6
    have ez := Nat.lt_of_lt_of_le pz hbl.size
    clear hgh hown hbl
    cases C with
    | nil =>
      have q1 : decide ((A.length : Int) < (t.2.len : Int)) = false := decide_eq_false (by simp at hAn; omega)
      have q2 : ¬ A.length < t.2.len := by simp at hAn; omega
      have hA : A = toL t.2 := by simpa using hAC
      have hfin : SliZ wr (.slice a3 A.length c3) ((toL t.2).map txN) := by
        have h := HOW.out
        have := sliZ_own (l := A.map txN) (by rw [List.length_map]; exact h)
        rw [← hA]; exact this
      have HFI := hidE hfin
      have hsa := HSL.out
      rw [hA] at hsa
      have HSA := hidE hsa
      clear hAC hA hfin hsa
      go_wp2
      go_ret
      exact ⟨_, rfl, HFI.out, HBL.out, fun k e => own_block HOW.out e, HSA.out⟩
    | cons u C =>
      have q1 : decide ((A.length : Int) < (t.2.len : Int)) = true := decide_eq_true (by simp at hAn; omega)
      have q2 : A.length < t.2.len := by simp at hAn; omega
      obtain ⟨b, off, cap', z', vk, e, _, hbz, hSb, hk, d0, d1, d2, d3, d4, d5, d6⟩ := (HV.out.sam (Sam.old HBL.out)).get (i := A.length) q2
      cases e
      rw [getD_toL hAC] at d0 d1 d2 d3 d5 hk
      obtain ⟨ak, ck, rfl, hk1, hk2⟩ := hk.shape
      have hu : u ∈ toL t.2 := by rw [← hAC]; simp
      have hsu := siz_kid hu
      have HK := hidE hk
      have HFU := hidE (fitT_kid HF.out hu)
      have hws := HBL.out.size
      have hAl : A.length ≤ 16 := by omega
      have HPR := hidE (fun (a : Option Addr) (cap : Nat) (n : Nat) (hn : n = (flT u).length) (w' : World) (hA : ArgP w' a (flT u)) (hT : Tab w') => (by subst hn; exact print_c 0 0 (by omega) (by omega) (flT u) (fitT_flat HFU.out) a cap w' (by rw [flT_len]; omega) hA hT : Calls Tryd.prog 56 #[defV 0 0 a n cap] w' (PrintPost w' 0 0 (flT u))))
      clear hk hAC hu
      go_wp2_with fail
      obtain ⟨w1, hw1⟩ : ∃ w1, w1 = (wr.alloc (.cells (tcA u.1 z' (.slice ak u.2.len ck)) 54)).alloc (.cells #[.slice none 0 0, .slice none 0 0] 50) := ⟨_, rfl⟩
      rw [← hw1]
      have hb1 : Below wr.heap.size wr w1 := by rw [hw1]; (repeat (first | exact Below.refl _ _ | assumption | refine balloc ?_ _ | refine below_drewN ?_ _ | refine bstep (by assumption) ?_ | refine bstep (Past.prop _) ?_ | refine Below.setCell ?_ (by first | exact Nat.le_refl _ | (simp; done) | (simp; omega)) _))
      have hsz1 : w1.heap.size = wr.heap.size + 1 + 1 := by rw [hw1]; simp
      have hls : ListAt (wr.heap.size + 1 + 1) (wr.heap.size + 1) w1 [] [] := ⟨_, _, by rw [hw1]; exact Blk.made_at _ _ _ _ (by simp), own_nil _ _ _, own_nil _ _ _⟩
      have hK1 : SliF (Old S w) w1 (.slice ak u.2.len ck) u.2 := HK.out.sam (Sam.past hb1)
      have hSn : ∀ k, Old S w k → k < wr.heap.size + 1 + 1 ∧ k ≠ wr.heap.size + 1 := fun k q => by have := q.2; omega
      clear hw1 d0 d1 d2 d3 d4 d5 d6 e6 ez
      ((with_reducible refine (add_c (Old S w) (wr.heap.size + 1 + 1) (wr.heap.size + 1) (Nat.lt_succ_self _) hSn (sizT u) u z' _ [] [] w1 (Nat.le_refl _) (Nat.le_of_eq hsz1.symm) hls hK1 (by simp only [List.length_nil]; omega) rfl).mono ?_); rintro e w2 ⟨rfl, hl2, hbar2⟩)
      have hb2 : Below wr.heap.size wr w2 := hb1.trans ((hbar2.below (Nat.le_succ _)).mono (Nat.le_succ _))
      obtain ⟨vp, vf, hl3, hp3, _⟩ := hl2
      obtain ⟨ap, cp, rfl⟩ := own_sli hp3
      have hp4 := sliP_own hp3
      simp only [List.nil_append] at hp4 hl3
      obtain ⟨_, _, e, hp5, hp6, hA2⟩ := hp4
      cases e
      have g0 := hl3.cell 0; have gz := hl3.lt
      simp at g0
      have HA2 := hidE hA2; have HB2 := hidE hb2
      have hfl : (flT u).length = sizT u := flT_len u
      rw [hfl] at g0 hp5
      have HFL := hidE hfl
      clear hl3 hp3 hA2 hb2 hbar2 hb1 hls hK1 hsz1 hfl
      go_wp2_with fail
      ((with_reducible refine (HPR.out _ _ _ HFL.out.symm _ HA2.out (HTAB.out.past (HBL.out.trans (HB2.out.mono hws)))).mono ?_); intro e w3 hpp)
      obtain ⟨rfl, hb3, hl3⟩ := print_txN HFU.out rfl hpp
      have HL3 := hidE hl3
      clear hl3
      have HB3 := hidE (HB2.out.trans (hb3.mono HB2.out.size))
      clear hpp hb3 g0 gz HA2 HPR
      go_wp2_with (at_builtin; go_loud (refine list_appV rfl (.tmp 27) (.tmp 29) 94 rfl w.heap.size 9 ix _ 1 16 Tryd.underlying94 HI.out HZ0.out HZ1.out HZ2.out rfl (by decide) (.slice a3 A.length c3) A.length (cellsZ (A.map txN)) rfl (own_below (own_below HOW.out HB3.out) (by (repeat (first | exact Below.refl _ _ | assumption | refine balloc ?_ _ | refine below_drewN ?_ _ | refine bstep (by assumption) ?_ | refine bstep (Past.prop _) ?_ | refine Below.setCell ?_ (by first | exact Nat.le_refl _ | (simp; done) | (simp; omega)) _)))) _ 1 [strV (txN u)] rfl (srcV_new (Blk.made_at _ _ _ _ (by first | rfl | (simp; done))) rfl (by intro y hy; simp at hy; subst hy; rfl)) (by omega) (by omega) (by have := HB3.out.size; simp; omega) ?_); intro v' w' own' hg'; obtain ⟨av', cp', rfl⟩ := own_sli own')
      go_roundg C.length
      case measure => have := HGH.out; simp only [List.length_cons] at this; omega
      case rel =>
        refine ⟨A ++ [u], C, by simp, by rw [← HAC.out]; simp, Nat.le_refl _, ?_, ?_, fun y hy => by
          rcases List.mem_append.1 hy with hy | hy
          · exact HSL.out y hy
          · obtain rfl := List.mem_singleton.1 hy; exact HL3.out⟩
        · rw [List.length_append, List.map_append, cellsZ, List.map_append]; exact own'
        · have hb4 := HBL.out.trans (HB3.out.mono hws)
          exact Below.grown (hb4.trans ((show Below w3.heap.size w3 _ from by (repeat (first | exact Below.refl _ _ | assumption | refine balloc ?_ _ | refine below_drewN ?_ _ | refine bstep (by assumption) ?_ | refine bstep (Past.prop _) ?_ | refine Below.setCell ?_ (by first | exact Nat.le_refl _ | (simp; done) | (simp; omega)) _))).mono hb4.size)) hg' (by have := hb4.size; simp; omega) (fun j hj => own_block HOW.out hj)
end Go.Proofs.YtkjpmhmlakmglaaDoor

namespace Go.Proofs.YtkjpmhmlakmglaaDoor
open Go.ChangeShapes Go.WideShapes Go.ChangeAt Go.RowKit
attribute [local irreducible] Go.Calls

theorem less_ltB : ∀ a b : List UInt8, Op.bytesLess a b = ltB a b
  | [], [] => rfl
  | _ :: _, [] => rfl
  | [], _ :: _ => rfl
  | a :: r, b :: s => by
    rw [Op.bytesLess, ltB, less_ltB r s]
    congr 1
theorem strL (l : List UInt8) : (⟨l.toArray⟩ : ByteArray).toList = l := by rw [Lib.toList_data]
theorem isNaNs_c (a : List UInt8) (w : World) : Calls Tryd.prog 65 #[strV a] w fun e w' => e = .returned (.bool false) ∧ w' = w := by
  go_enter Tryd.func65, Tryd.ntmps65
  go_wp2
  go_ret
  exact ⟨by simp, rfl⟩
theorem lessS_c (a b : List UInt8) (w : World) : Calls Tryd.prog 57 #[strV a, strV b] w fun e w' => e = .returned (.bool (ltB a b)) ∧ w' = w := by
  go_enter Tryd.func57, Tryd.ntmps57
  go_wp2_with (go_at_call 65; refine (isNaNs_c _ _).mono ?_; rintro e w' ⟨rfl, rfl⟩)
  go_ret
  exact ⟨by simp [less_ltB], rfl⟩
/-- What strings.Compare answers. -/
def cmpB (a b : List UInt8) : Int := Lib.compareBytes a b
theorem cmpB_ltB : ∀ a b : List UInt8, (cmpB a b < 0 ↔ ltB a b = true) ∧ (cmpB a b = 0 ↔ a = b)
  | [], [] => by simp [cmpB, Lib.compareBytes, ltB]
  | _ :: _, [] => by simp [cmpB, Lib.compareBytes, ltB]
  | [], _ :: _ => by simp [cmpB, Lib.compareBytes, ltB]
  | a :: r, b :: s => by
    have ih := cmpB_ltB r s
    unfold cmpB at ih ⊢
    rw [Lib.compareBytes, ltB]
    by_cases h1 : a < b
    · rw [if_pos h1]
      have : a ≠ b := fun e => by subst e; exact absurd h1 (by simp)
      exact ⟨by simp [h1], by simp [this]⟩
    · by_cases h2 : b < a
      · have : a ≠ b := fun e => by subst e; exact absurd h2 (by simp)
        rw [if_neg h1, if_pos h2]
        exact ⟨by simp [h1, this], by simp [this]⟩
      · have e : a = b := UInt8.toNat_inj.1 (by rw [UInt8.lt_iff_toNat_lt] at h1 h2; omega)
        subst e
        rw [if_neg h1, if_neg h2]
        exact ⟨by simp [ih.1], by simp [ih.2]⟩
theorem compareS_c (a b : List UInt8) (w : World) : Calls Tryd.prog 54 #[strV a, strV b] w fun e w' => e = .returned (.int .i64 (cmpB a b)) ∧ w' = w := by
  have hC : ∀ (w : World), Calls Tryd.prog 59 #[strV a, strV b] w fun e w' => e = .returned (.int .i64 (cmpB a b)) ∧ w' = w := fun w => by
    go_enter Tryd.func59, Tryd.ntmps59
    go_wp2
    rw [run_callFunc_extern Tryd.func68 (by kernel_rfl) (by kernel_rfl) (by kernel_rfl) (e := Extern.BytealgCompare.compare) (by kernel_rfl), Lib.run_compareString]
    simp only [Result.andThen]
    rw [Oper.upon_value]
    go_wp2
    go_ret
    exact ⟨rfl, rfl⟩
  go_enter Tryd.func54, Tryd.ntmps54
  go_wp2_with (go_at_call 59; refine (hC _).mono ?_; rintro e w' ⟨rfl, rfl⟩)
  go_ret
  exact ⟨rfl, rfl⟩
def SortedZ (l : List (List UInt8)) : Prop := ∀ i, 0 < i → i < l.length → ltB (l.getD i []) (l.getD (i - 1) []) = false
def SrtAns (w : World) (l : List (List UInt8)) (e : Ending) (w' : World) : Prop := ∃ r : Bool, e = .returned (.bool r) ∧ (r = true ↔ SortedZ l) ∧ Below w.heap.size w w'
set_option maxHeartbeats 4000000 in
set_option maxRecDepth 100000 in
theorem isSorted_c (l : List (List UInt8)) (v : Value) (w : World) (hl : l.length ≤ 100000) (h : SliZ w v l) :
    Calls Tryd.prog 51 #[v] w (SrtAns w l) := by
  obtain ⟨a, cap, rfl, h1, h2, h3⟩ := h
  have HC := hidE h3
  clear h3
  go_enter Tryd.func51, Tryd.ntmps51
  go_wp2
  go_loopg [3] l.length (fun gh v3 wr => ∃ i : Int, v3 = .int .i64 i ∧ -1 ≤ i ∧ i < l.length ∧ i.toNat ≤ gh ∧ (∀ j : Nat, i < (j : Int) → 0 < j → j < l.length → ltB (l.getD j []) (l.getD (j - 1) []) = false) ∧ Below w.heap.size w wr)
  case atStart => exact ⟨(l.length : Int) - 1, rfl, by omega, by omega, by omega, fun j a b c => by omega, Below.refl _ _⟩
  case round =>
    obtain ⟨i, rfl, hi1, hi2, hgh, hall, hbl⟩ := hrel
    have HALL := hidE hall; have HBL := hidE hbl; have HGH := hidE hgh
    clear hall hbl hgh
    by_cases hp : 0 < i
    · obtain ⟨k, rfl⟩ : ∃ k : Nat, i = (k : Int) + 1 := ⟨(i - 1).toNat, by omega⟩
      obtain ⟨b, off, rfl, hb, hc⟩ := HC.out (by omega)
      have zb := Nat.lt_of_lt_of_le hb HBL.out.size
      have c1 := (HBL.out.cell (p := ⟨b, off + (k + 1), none⟩) hb).trans (hc (k + 1) (by omega))
      have c0 := (HBL.out.cell (p := ⟨b, off + k, none⟩) hb).trans (hc k (by omega))
      generalize hx : l.getD (k + 1) [] = x at *
      generalize hy : l.getD k [] = y at *
      have HX := hidE hx; have HY := hidE hy
      have q0 : (k : Int) + 1 < l.length := hi2
      have q1 : k + 1 < l.length := by omega
      clear hc hx hy
      go_wp2
      refine wp_region_past_lit (by kernel_rfl) (by kernel_rfl) ?_
      have hcp := Past.cell (W := wr)
      repeat (go_big_quiet_step ((go_at_call 57; exact Past.same _ (lessS_c _ _ _))))
      refine wpQuiet_nil ?_
      rintro _ ⟨x', rfl⟩
      have HB2 := hidE (HBL.out.trans (x'.2.mono HBL.out.size))
      clear hcp c0 c1
      generalize x'.1 = w2 at *
      cases hlt : ltB x y with
      | true =>
        have hf : ¬ SortedZ l := fun h => by
          have := h (k + 1) (by omega) q1
          rw [Nat.add_sub_cancel, HX.out, HY.out, hlt] at this; cases this
        have HF := hidE hf
        clear hf
        go_wp2
        go_ret
        exact ⟨false, rfl, by simp only [Bool.false_eq_true, false_iff]; exact HF.out, HB2.out⟩
      | false =>
        have HLT := hidE hlt
        go_wp2
        go_roundg k
        case measure => have := HGH.out; omega
        case rel =>
          refine ⟨(k : Int), by go_num, by omega, by omega, by omega, fun j h1 h2 h3 => ?_, HB2.out⟩
          by_cases c : j = k + 1
          · subst c; rw [Nat.add_sub_cancel, HX.out, HY.out]; exact HLT.out
          · exact HALL.out j (by omega) h2 h3
    · have q1 : decide (0 < i) = false := decide_eq_false hp
      go_wp2
      go_ret
      exact ⟨true, rfl, by simp only [true_iff]; exact fun j h1 h2 => HALL.out j (by omega) h1 h2, HBL.out⟩
end Go.Proofs.YtkjpmhmlakmglaaDoor

namespace Go.Proofs.YtkjpmhmlakmglaaDoor
open Go.ChangeShapes Go.WideShapes Go.ChangeAt Go.RowKit
attribute [local irreducible] Go.Calls

/-- Less, alike, more: -1, 0, 1. -/
def cmpI (a b : Int) : Int := if a < b then -1 else if b < a then 1 else 0
theorem cmpI_neg {a b : Int} : decide (cmpI a b < 0) = decide (a < b) := by unfold cmpI; split <;> simp_all; split <;> simp_all
/-- In whatever world of the sort's the comparison answers by the key, and only makes memory. -/
def Cmps (w0 : World) (blk n : Nat) (recv : Value) (K : Nat → Int) : Prop :=
  ∀ w, Below blk w0 w → ∀ x y : Nat, x < n → y < n → Calls Tryd.prog 53 #[.int .i64 x, .int .i64 y, recv] w fun e w' => e = .returned (.int .i64 (cmpI (K x) (K y))) ∧ Below w.heap.size w w'

/-- A row of numbers below n. -/
def Okd (n : Nat) (d : Nat → Nat) : Prop := ∀ k, k < n → d k < n
theorem Okd.mv {n a b : Nat} {d d' : Nat → Nat} (h : Okd n d) (hm : Mv a b d d') (hb : b ≤ n) : Okd n d' := fun k hk => by
  by_cases c : a ≤ k ∧ k < b
  · obtain ⟨k', h1, h2, e⟩ := hm.inn k c.1 c.2
    rw [e]; exact h _ (by omega)
  · rw [hm.out k (by omega)]; exact h _ hk

/-- The stretch [a, b) has been put in order. -/
def SrtX (w0 : World) (blk n : Nat) (t : TypeId) (K : Nat → Int) (a b : Nat) (d : Nat → Nat) (e : Ending) (w' : World) : Prop :=
  e = .returned (.tuple #[]) ∧ ∃ d', RowX w0 blk n t d' w' ∧ Mv a b d d' ∧ Inv K n d' ∧ Srt K a b d'

theorem cmp_t {K : Nat → Int} {x y : Nat} (h : K x < K y) : decide (cmpI (K x) (K y) < 0) = true := by rw [cmpI_neg]; exact decide_eq_true h
theorem cmp_f {K : Nat → Int} {x y : Nat} (h : ¬ K x < K y) : decide (cmpI (K x) (K y) < 0) = false := by rw [cmpI_neg]; exact decide_eq_false h

set_option maxHeartbeats 4000000 in
theorem insertion_c (w0 w : World) (blk n cap a b : Nat) (t : TypeId) (K : Nat → Int) (recv : Value) (d : Nat → Nat) (h : RowX w0 blk n t d w) (hC : Cmps w0 blk n recv K) (hI : Inv K n d) (hO : Okd n d) (hab : a ≤ b) (hb : b ≤ n) (hn : n ≤ 4611686018427387904) :
    Calls Tryd.prog 66 #[.slice (some ⟨blk, 0, none⟩) n cap, .int .i64 a, .int .i64 b, .func (.func 53) #[] #[recv]] w (SrtX w0 blk n t K a b d) := by
  have H := hidE h; have HC := hidE hC; have HI := hidE hI; have HO := hidE hO
  clear h hC hI hO
  go_enter Tryd.func66, Tryd.ntmps66
  go_wp2
  go_loopg [8] (b - a) (fun g1 vi wr => ∃ (i : Nat) (dk : Nat → Nat), vi = .int .i64 i ∧ a < i ∧ b - i ≤ g1 ∧ (i ≤ b ∨ i = a + 1) ∧ RowX w0 blk n t dk wr ∧ Mv a b d dk ∧ Inv K n dk ∧ Srt K a i dk)
  case atStart => exact ⟨a + 1, d, by go_num, by omega, by omega, by omega, H.out, Mv.refl _ _ _, HI.out, srt_one _ _ _ (by omega)⟩
  case round =>
    obtain ⟨i, dk, rfl, hai, hg1, hib, hr, hm, hi, hs⟩ := hrel
    have HR := hidE hr; have HM := hidE hm; have HJ := hidE hi; have HS := hidE hs
    clear hr hm hi hs
    by_cases hlt : i < b
    · have hltz : (i : Int) < (b : Int) := by omega
      obtain ⟨wo, rfl⟩ : ∃ wo : World, wo = wr := ⟨_, rfl⟩
      go_wp2
      go_loopg [9] i (fun g2 vj wr2 => ∃ (j : Nat) (dj : Nat → Nat), vj = .int .i64 j ∧ a ≤ j ∧ j ≤ i ∧ j ≤ g2 ∧ RowX w0 blk n t dj wr2 ∧ Mv a b d dj ∧ Inv K n dj ∧ InsR K a i j dj)
      case atStart => exact ⟨i, dk, rfl, by omega, Nat.le_refl _, Nat.le_refl _, HR.out, HM.out, HJ.out, InsR.start HS.out⟩
      case round =>
        clear HR HM HJ HS
        obtain ⟨j, dj, rfl, haj, hji, hg2, hr, hm, hi, hs⟩ := hrel
        have HR := hidE hr; have HM := hidE hm; have HJ := hidE hi; have HS := hidE hs
        have hok := HO.out.mv hm hb
        clear hr hm hi hs
        by_cases hja : a < j
        · obtain ⟨jp, rfl⟩ : ∃ q, j = q + 1 := ⟨j - 1, by omega⟩
          have hjd : decide ((a : Int) < (jp : Int) + 1) = true := decide_eq_true (by omega)
          have c1 := HR.out.cell (i := jp + 1) (by omega)
          have c2 := HR.out.cell (i := jp) (by omega)
          have z := HR.out.lt
          have k1 := hok (jp + 1) (by omega)
          have k2 := hok jp (by omega)
          have HCM := hidE (fun w hw => HC.out w hw (dj (jp + 1)) (dj jp) k1 k2)
          clear hok
          by_cases hkey : K (dj (jp + 1)) < K (dj jp)
          · have hd := cmp_t hkey
            have HX := hidE (⟨(HJ.out.swap' jp (by omega) hkey), (HM.out.trans (Mv.swap dj (jp + 1) jp (by omega) (by omega))), (HS.out.step (by omega) (by omega) hkey)⟩ : Inv K n (sw dj (jp + 1) jp) ∧ Mv a b d (sw dj (jp + 1) jp) ∧ InsR K a i jp (sw dj (jp + 1) jp))
            clear hkey HM HJ HS
            have HE := hidE (fun (w : World) (h : RowX w0 blk n t dj w) => (h.swap (jp + 1) jp).drew)
            have HF := hidE (fun (w : World) (h : RowX w0 blk n t dj w) => h.c2 (jp + 1) jp (by omega) (dj jp))
            generalize hx : dj (jp + 1) = x at *
            generalize hy : dj jp = y at *
            go_wp2_with fail
            refine wp_region_past_lit (by kernel_rfl) (by kernel_rfl) ?_
            have hc := Past.cell (W := wr)
            repeat (go_big_quiet_step ((go_at_call 53; exact Past.call _ (HCM.out _ (HR.out.low.trans ((Past.prop _).mono (Nat.le_of_lt z)))))))
            refine wpQuiet_nil ?_
            rintro _ ⟨x', rfl⟩
            have hr2 := HR.out.past x'.2
            clear c1 c2 hc
            generalize x'.1 = w2 at hr2 ⊢
            have g1 := hr2.cell (i := jp + 1) (by omega)
            have g2 := hr2.cell (i := jp) (by omega)
            have g3 := HF.out _ hr2
            have f1 := hr2.free (jp + 1)
            have f2 := hr2.free jp
            have hE := HE.out _ hr2
            rw [if_neg (by omega)] at g3
            rw [hx] at g1
            rw [hy] at g2
            have HE2 := hidE hE; have Hx := hidE hx; have Hy := hidE hy
            clear hE hr2 hx hy
            go_wp2_with fail
            go_region
            go_wp2
            go_roundg jp
            case measure => omega
            case rel => exact ⟨jp, _, by go_num, by omega, by omega, Nat.le_refl _, HE2.out, HX.out.2.1, HX.out.1, HX.out.2.2⟩
          · have hd := cmp_f hkey
            have HX := hidE (HS.out.done HJ.out (by omega) haj hji (.inr hkey))
            clear hkey
            generalize hx : dj (jp + 1) = x at *
            generalize hy : dj jp = y at *
            have Hx := hidE hx; have Hy := hidE hy
            clear hx hy
            go_wp2_with fail
            refine wp_region_past_lit (by kernel_rfl) (by kernel_rfl) ?_
            have hc := Past.cell (W := wr)
            repeat (go_big_quiet_step ((go_at_call 53; exact Past.call _ (HCM.out _ (HR.out.low.trans ((Past.prop _).mono (Nat.le_of_lt z)))))))
            refine wpQuiet_nil ?_
            rintro _ ⟨x', rfl⟩
            have hr2 := HR.out.past x'.2
            clear c1 c2 hc
            generalize x'.1 = w2 at hr2 ⊢
            have HR2 := hidE hr2; clear hr2
            go_wp2
            go_roundg (b - (i + 1))
            case measure => omega
            case rel => exact ⟨i + 1, _, by go_num, by omega, by omega, by omega, HR2.out, HM.out, HJ.out, HX.out⟩
        · have hja' : j = a := by omega
          subst hja'
          have HX := hidE (HS.out.done HJ.out (by omega) haj hji (.inl rfl))
          have hd : ¬ (j : Int) < (j : Int) := by omega
          go_wp2_with fail
          refine wp_region_past_lit (by kernel_rfl) (by kernel_rfl) ?_
          repeat (go_big_quiet_step (fail))
          refine wpQuiet_nil ?_
          rintro _ ⟨x', rfl⟩
          have hr2 := HR.out.past x'.2
          generalize x'.1 = w2 at hr2 ⊢
          have HR2 := hidE hr2; clear hr2
          go_wp2
          go_roundg (b - (i + 1))
          case measure => omega
          case rel => exact ⟨i + 1, _, by go_num, by omega, by omega, by omega, HR2.out, HM.out, HJ.out, HX.out⟩
    · go_wp2
      go_end0
      exact ⟨rfl, dk, HR.out, HM.out, HJ.out, HS.out.mono (Nat.le_refl _) (by omega)⟩
theorem insertion_eq {w0 w : World} {blk n cap a b : Nat} {x y : Int} {t : TypeId} {K : Nat → Int} {recv : Value} {d : Nat → Nat} (h : RowX w0 blk n t d w) (hC : Cmps w0 blk n recv K) (hI : Inv K n d) (hO : Okd n d) (hx : x = a) (hy : y = b) (hab : a ≤ b) (hb : b ≤ n) (hn : n ≤ 4611686018427387904) :
    Calls Tryd.prog 66 #[.slice (some ⟨blk, 0, none⟩) n cap, .int .i64 x, .int .i64 y, .func (.func 53) #[] #[recv]] w (SrtX w0 blk n t K a b d) := by
  subst hx hy; exact insertion_c w0 w blk n cap a b t K recv d h hC hI hO hab hb hn
set_option maxRecDepth 100000 in
set_option maxHeartbeats 8000000 in
theorem stable_c (w0 w : World) (blk n cap : Nat) (t : TypeId) (K : Nat → Int) (recv : Value) (d : Nat → Nat) (h : RowX w0 blk n t d w) (hC : Cmps w0 blk n recv K) (hI : Inv K n d) (hO : Okd n d) (hn : n < 20) :
    Calls Tryd.prog 58 #[.slice (some ⟨blk, 0, none⟩) n cap, .int .i64 n, .func (.func 53) #[] #[recv]] w (SrtX w0 blk n t K 0 n d) := by
  have H := hidE h; have HC := hidE hC; have HI := hidE hI; have HO := hidE hO
  clear h hC hI hO
  go_enter Tryd.func58, Tryd.ntmps58
  go_wp2
  go_loopg [7, 8] 0 (fun g1 va vb wr => va = .int .i64 0 ∧ vb = .int .i64 20 ∧ wr = w)
  case atStart => exact ⟨rfl, rfl, rfl⟩
  case round =>
    obtain ⟨rfl, rfl, rfl⟩ := hrel
    have hltz : ¬ (20 : Int) ≤ (n : Int) := by omega
    go_wp2_with (go_at_call 66; ((with_reducible refine (insertion_eq (a := 0) (b := n) H.out HC.out HI.out HO.out Int.natCast_zero.symm rfl (by omega) (by omega) (by omega)).mono ?_); rintro e w1 ⟨rfl, d1, hr1, hm1, hi1, hs1⟩))
    have R1 := hidE hr1; have M1 := hidE hm1; have I1 := hidE hi1; have S1 := hidE hs1
    clear hr1 hm1 hi1 hs1
    go_loopg [6] 0 (fun g2 vs wr2 => vs = .int .i64 20 ∧ wr2 = w1)
    case atStart => exact ⟨rfl, rfl⟩
    case round =>
      obtain ⟨rfl, rfl⟩ := hrel
      have hltz : ¬ (20 : Int) < (n : Int) := by omega
      go_wp2
      go_end0
      exact ⟨rfl, d1, R1.out, M1.out, I1.out, S1.out⟩
theorem sortStable_c (w0 w : World) (blk n cap : Nat) (t : TypeId) (K : Nat → Int) (recv : Value) (d : Nat → Nat) (h : RowX w0 blk n t d w) (hC : Cmps w0 blk n recv K) (hI : Inv K n d) (hO : Okd n d) (hn : n < 20) :
    Calls Tryd.prog 52 #[.slice (some ⟨blk, 0, none⟩) n cap, .func (.func 53) #[] #[recv]] w (SrtX w0 blk n t K 0 n d) := by
  have HK := hidE (stable_c w0 w blk n cap t K recv d h hC hI hO hn)
  clear h hC hI hO
  go_enter Tryd.func52, Tryd.ntmps52
  go_wp2_with (go_at_call 58; ((with_reducible refine (HK.out).mono ?_); rintro e w1 ⟨rfl, hx⟩))
  go_end0
  exact ⟨rfl, hx⟩
end Go.Proofs.YtkjpmhmlakmglaaDoor

namespace Go.Proofs.YtkjpmhmlakmglaaDoor

theorem ltB_pre : ∀ (h a b : List UInt8), ltB (h ++ a) (h ++ b) = ltB a b
  | [], _, _ => rfl
  | c :: h, a, b => by simp [ltB, ltB_pre h a b]
/-- How many of them come ahead of a text. -/
def rk (l : List (List UInt8)) (s : List UInt8) : Nat := l.countP fun u => ltB u s
theorem cnt_lt {α : Type} {p q : α → Bool} : ∀ {l : List α}, (∀ u ∈ l, p u = true → q u = true) → (∃ a ∈ l, q a = true ∧ p a = false) → l.countP p < l.countP q
  | [], _, ⟨a, ha, _⟩ => by cases ha
  | u :: l, h, ⟨a, ha, h1, h2⟩ => by
    have hle : l.countP p ≤ l.countP q := List.countP_mono_left fun x hx => h x (List.mem_cons_of_mem _ hx)
    rw [List.countP_cons, List.countP_cons]
    rcases List.mem_cons.1 ha with rfl | ha
    · rw [h1, h2]; simp; omega
    · have ih := cnt_lt (fun x hx => h x (List.mem_cons_of_mem _ hx)) ⟨a, ha, h1, h2⟩
      have := h u (by simp)
      by_cases c : p u = true
      · rw [if_pos c, if_pos (this c)]; omega
      · rw [if_neg c]; split <;> omega
theorem rk_lt {l : List (List UInt8)} {a b : List UInt8} (ha : a ∈ l) (h : ltB a b = true) : rk l a < rk l b :=
  cnt_lt (fun u _ hu => ltB_trans u a b hu h) ⟨a, ha, h, ltB_irr a⟩
theorem rk_iff {l : List (List UInt8)} {a b : List UInt8} (ha : a ∈ l) (hb : b ∈ l) : (rk l a < rk l b ↔ ltB a b = true) ∧ (rk l a = rk l b ↔ a = b) := by
  cases h1 : ltB a b with
  | true =>
    have := rk_lt ha h1
    exact ⟨by simp [this], ⟨fun e => by omega, fun e => by subst e; omega⟩⟩
  | false =>
    cases h2 : ltB b a with
    | true =>
      have := rk_lt hb h2
      exact ⟨by simp; omega, ⟨fun e => by omega, fun e => by subst e; omega⟩⟩
    | false =>
      have := ltB_total a b h1 h2
      subst this
      exact ⟨by simp, by simp⟩
/-- Terms with their places. -/
def numL : Nat → List Tm → List (Tm × Nat)
  | _, [] => []
  | o, t :: l => (t, o) :: numL (o + 1) l
def insP (p : Tm × Nat) : List (Tm × Nat) → List (Tm × Nat)
  | [] => [p]
  | u :: l => if ltB (txT p.1) (txT u.1) then p :: u :: l else u :: insP p l
theorem insP_fst (p : Tm × Nat) : ∀ l, (insP p l).map (·.1) = insG p.1 (l.map (·.1))
  | [] => rfl
  | u :: l => by
    simp only [insP, List.map_cons, insG]
    split
    · rfl
    · rw [List.map_cons, insP_fst p l]
theorem insP_mem (p q : Tm × Nat) : ∀ l, q ∈ insP p l → q = p ∨ q ∈ l
  | [], h => by simpa [insP] using h
  | u :: l, h => by
    rw [insP] at h
    split at h
    · simpa using h
    · rcases List.mem_cons.1 h with rfl | h
      · exact .inr (by simp)
      · rcases insP_mem p q l h with rfl | h
        · exact .inl rfl
        · exact .inr (List.mem_cons_of_mem _ h)
theorem insP_perm (p : Tm × Nat) : ∀ l, (insP p l).Perm (p :: l)
  | [] => List.Perm.refl _
  | u :: l => by
    rw [insP]
    split
    · exact List.Perm.refl _
    · exact ((insP_perm p l).cons u).trans (List.Perm.swap p u l)
/-- By text, then by place. -/
def RP (p q : Tm × Nat) : Prop := ltB (txT p.1) (txT q.1) = true ∨ (txT p.1 = txT q.1 ∧ p.2 < q.2)
theorem RP.anti {p q : Tm × Nat} (h : RP p q) (h2 : RP q p) : False := by
  rcases h with h | ⟨h, a⟩
  · rcases h2 with h2 | ⟨h2, _⟩
    · have := ltB_trans _ _ _ h h2; rw [ltB_irr] at this; cases this
    · rw [h2, ltB_irr] at h; cases h
  · rcases h2 with h2 | ⟨_, b⟩
    · rw [h, ltB_irr] at h2; cases h2
    · omega
theorem insP_srt (p : Tm × Nat) : ∀ l : List (Tm × Nat), l.Pairwise RP → (∀ q ∈ l, q.2 < p.2) → (insP p l).Pairwise RP
  | [], _, _ => List.pairwise_singleton _ _
  | u :: l, h, hp => by
    obtain ⟨h1, h2⟩ := List.pairwise_cons.1 h
    rw [insP]
    split
    · rename_i c
      refine List.pairwise_cons.2 ⟨fun q hq => ?_, h⟩
      rcases List.mem_cons.1 hq with rfl | hq
      · exact .inl c
      · rcases h1 q hq with g | ⟨g, _⟩
        · exact .inl (ltB_trans _ _ _ c g)
        · exact .inl (by rw [← g]; exact c)
    · rename_i c
      refine List.pairwise_cons.2 ⟨fun q hq => ?_, insP_srt p l h2 fun q hq => hp q (List.mem_cons_of_mem _ hq)⟩
      rcases insP_mem p q l hq with rfl | hq
      · cases g : ltB (txT u.1) (txT q.1) with
        | true => exact .inl g
        | false => exact .inr ⟨ltB_total _ _ g (by simpa using c), hp u (by simp)⟩
      · exact h1 q hq
theorem foldP_fst : ∀ (l a : List (Tm × Nat)), (l.foldl (fun a p => insP p a) a).map (·.1) = (l.map (·.1)).foldl (fun a t => insG t a) (a.map (·.1))
  | [], a => rfl
  | p :: l, a => by simp only [List.foldl_cons, List.map_cons, foldP_fst l, insP_fst]
theorem foldP_perm : ∀ (l a : List (Tm × Nat)), (l.foldl (fun a p => insP p a) a).Perm (l ++ a)
  | [], a => List.Perm.refl _
  | p :: l, a => by
    rw [List.foldl_cons]
    exact (foldP_perm l (insP p a)).trans (((insP_perm p a).append_left l).trans List.perm_middle)
theorem foldP_srt : ∀ (l : List Tm) (o : Nat) (a : List (Tm × Nat)), a.Pairwise RP → (∀ q ∈ a, q.2 < o) → ((numL o l).foldl (fun a p => insP p a) a).Pairwise RP
  | [], _, a, h, _ => h
  | t :: l, o, a, h, hp => by
    refine foldP_srt l (o + 1) _ (insP_srt (t, o) a h hp) fun q hq => ?_
    rcases insP_mem _ _ _ hq with rfl | hq
    · exact Nat.lt_succ_self _
    · have := hp q hq; omega
theorem numL_fst : ∀ (l : List Tm) (o : Nat), (numL o l).map (·.1) = l
  | [], _ => rfl
  | t :: l, o => by simp only [numL, List.map_cons, numL_fst l]
theorem numL_range : ∀ (l : List Tm) (o : Nat), numL o l = (List.range l.length).map fun i => (l.getD i tm0, o + i)
  | [], _ => rfl
  | t :: l, o => by
    rw [numL, numL_range l, List.length_cons, List.range_succ_eq_map, List.map_cons, List.map_map]
    congr 1
    refine List.map_congr_left fun i _ => ?_
    simp only [Function.comp, List.getD_cons_succ, Prod.mk.injEq, true_and]; omega
theorem mv_perm {n : Nat} {d : Nat → Nat} (h : Mv 0 n id d) : ((List.range n).map d).Perm (List.range n) := by
  obtain ⟨p, q, h1, h2, h3, h4⟩ := h
  have hd : ∀ k, d k = p k := h1
  have hp : ∀ k, k < n → p k < n := fun k hk => by
    refine Nat.lt_of_not_le fun c => ?_
    have e := h4 (p k) (.inr c)
    have : p k = k := by rw [← h3 (p k), e, h3]
    omega
  have hq : ∀ k, k < n → q k < n := fun k hk => by
    refine Nat.lt_of_not_le fun c => ?_
    have e := h4 (q k) (.inr c)
    rw [h2] at e; omega
  have hnd : ((List.range n).map d).Nodup := by
    refine List.Pairwise.map d (R := (· ≠ ·)) (fun a b hab e => hab ?_) List.nodup_range
    rw [hd, hd] at e
    rw [← h3 a, e, h3]
  refine (List.perm_ext_iff_of_nodup hnd List.nodup_range).2 fun a => ?_
  simp only [List.mem_map, List.mem_range]
  exact ⟨fun ⟨k, hk, e⟩ => by rw [← e, hd]; exact hp k hk, fun ha => ⟨q a, hq a ha, by rw [hd, h2]⟩⟩
/-- A stable order of the places is the rules' order of the terms. -/
theorem sort_is {L : List Tm} {n : Nat} (hn : L.length = n) {d : Nat → Nat} (hm : Mv 0 n id d) {K : Nat → Int}
    (hK : ∀ i j, i < n → j < n → (K i < K j ↔ ltB (txT (L.getD i tm0)) (txT (L.getD j tm0)) = true) ∧ (K i = K j ↔ txT (L.getD i tm0) = txT (L.getD j tm0)))
    (hS : Srt K 0 n d) : (List.range n).map (fun k => L.getD (d k) tm0) = sortG L := by
  have hp := mv_perm hm
  have hlt : ∀ k, k < n → d k < n := fun k hk => by
    have := hp.mem_iff.1 (List.mem_map.2 ⟨k, List.mem_range.2 hk, rfl⟩)
    exact List.mem_range.1 this
  have e1 : ((numL 0 L).foldl (fun a p => insP p a) []).map (·.1) = sortG L := by rw [foldP_fst, numL_fst]; rfl
  have e2 : ((List.range n).map fun k => (L.getD (d k) tm0, d k)) = (numL 0 L).foldl (fun a p => insP p a) [] := by
    refine List.Perm.eq_of_pairwise (le := RP) (fun a b _ _ h1 h2 => (h1.anti h2).elim) ?_ (foldP_srt L 0 [] List.Pairwise.nil (fun q h => by cases h)) ?_
    · rw [List.pairwise_map]
      refine List.Pairwise.imp_of_mem (R := (· < ·)) (fun {a b} ha hb hab => ?_) List.pairwise_lt_range
      have ha := List.mem_range.1 ha; have hb := List.mem_range.1 hb
      obtain ⟨k1, k2⟩ := hK (d a) (d b) (hlt a ha) (hlt b hb)
      rcases hS a b (Nat.zero_le _) hab hb with h | ⟨h, h'⟩
      · exact .inl (k1.1 h)
      · exact .inr ⟨k2.1 h, h'⟩
    · refine List.Perm.trans ?_ (foldP_perm _ _).symm
      rw [List.append_nil, numL_range, hn]
      simp only [Nat.zero_add]
      have := hp.map fun i => (L.getD i tm0, i)
      rw [List.map_map] at this
      exact this
  rw [← e1, ← e2, List.map_map]; rfl
/-- The texts are in order just if sorting leaves them. -/
theorem srt_iff (L : List Tm) : (∀ i, 0 < i → i < L.length → ltB (txT (L.getD i tm0)) (txT (L.getD (i - 1) tm0)) = false) ↔ srtB L = true := by
  unfold srtB
  rw [decide_eq_true_iff]
  constructor
  · intro h
    have hs : SrtL L := by
      have key : ∀ (j i : Nat), i < j → j < L.length → ltB (txT (L.getD j tm0)) (txT (L.getD i tm0)) = false := by
        intro j
        induction j with
        | zero => intro i h1; omega
        | succ j ih =>
          intro i h1 h2
          have h3 := h (j + 1) (by omega) h2
          rw [Nat.add_sub_cancel] at h3
          by_cases c : i = j
          · subst c; exact h3
          · exact leB_trans (ih i (by omega) (by omega)) h3
      refine List.pairwise_iff_getElem.2 fun i j hi hj hij => ?_
      have := key j i hij hj
      rw [List.getD_eq_getElem?_getD, List.getD_eq_getElem?_getD, List.getElem?_eq_getElem hi, List.getElem?_eq_getElem hj] at this
      exact this
    rw [sortG_fix hs]
  · intro h i h1 h2
    have hs := sortG_srt L
    have hl := (sortG_siz L).2
    have := List.pairwise_iff_getElem.1 hs (i - 1) i (by omega) (by omega) (by omega)
    have g : ∀ j (hj : j < L.length), txT (L.getD j tm0) = txT ((sortG L)[j]'(by omega)) := fun j hj => by
      have := congrArg (fun l => l[j]?) h
      simp only [List.getElem?_map, List.getElem?_eq_getElem hj, List.getElem?_eq_getElem (show j < (sortG L).length by omega), Option.map_some, Option.some.injEq] at this
      rw [List.getD_eq_getElem?_getD, List.getElem?_eq_getElem hj]; exact this
    rw [g i h2, g (i - 1) (by omega)]; exact this
end Go.Proofs.YtkjpmhmlakmglaaDoor

namespace Go.Proofs.YtkjpmhmlakmglaaDoor
open Go.ChangeShapes Go.WideShapes Go.ChangeAt Go.RowKit
attribute [local irreducible] Go.Calls

set_option maxHeartbeats 2000000 in
set_option maxRecDepth 100000 in
theorem scmp_c (l : List (List UInt8)) (v : Value) (q x y : Nat) (w : World) (h : SliZ w v l) (hl : l.length ≤ 100000) (hq : w.cell? ⟨q, 0, none⟩ = some v) (hqz : q < w.heap.size) (hx : x < l.length) (hy : y < l.length) :
    Calls Tryd.prog 53 #[.int .i64 x, .int .i64 y, .pointer (some ⟨q, 0, none⟩)] w fun e w' => e = .returned (.int .i64 (cmpB (l.getD x []) (l.getD y []))) ∧ Below w.heap.size w w' := by
  obtain ⟨a, cap, rfl, h1, h2, h3⟩ := h
  obtain ⟨b, off, rfl, hb, hc⟩ := h3 (by omega)
  have c1 := hc x hx; have c2 := hc y hy
  generalize l.getD x [] = s at *
  generalize l.getD y [] = s' at *
  have hxz : (x : Int) < l.length := by omega
  have hyz : (y : Int) < l.length := by omega
  clear hc h3
  go_enter Tryd.func53, Tryd.ntmps53
  go_wp2
  refine wp_region_past_lit (by kernel_rfl) (by kernel_rfl) ?_
  have hcp := Past.cell (W := w)
  repeat (go_big_quiet_step ((go_at_call 54; exact Past.same _ (compareS_c _ _ _))))
  refine wpQuiet_nil ?_
  rintro _ ⟨x', rfl⟩
  have hb2 := x'.2
  generalize x'.1 = w2 at *
  go_wp2
  go_ret
  exact ⟨rfl, hb2⟩
/-- The places' keys. -/
def keyK (L : List Tm) (i : Nat) : Int := rk (L.map txN) (txN (L.getD i tm0))
theorem getD_txN {L : List Tm} {i : Nat} (h : i < L.length) : (L.map txN).getD i [] = txN (L.getD i tm0) ∧ txN (L.getD i tm0) ∈ L.map txN := by
  have e : (L.map txN).getD i [] = txN (L.getD i tm0) := by
    rw [List.getD_eq_getElem?_getD, List.getD_eq_getElem?_getD, List.getElem?_map, List.getElem?_eq_getElem h]; rfl
  refine ⟨e, List.mem_map.2 ⟨L.getD i tm0, ?_, rfl⟩⟩
  rw [List.getD_eq_getElem?_getD, List.getElem?_eq_getElem h]; exact List.getElem_mem h
theorem txN_lt (u v : Tm) : ltB (txN u) (txN v) = ltB (txT u) (txT v) := ltB_pre _ _ _
theorem txN_eq {u v : Tm} : txN u = txN v ↔ txT u = txT v := ⟨fun h => List.append_cancel_left h, fun h => by unfold txN; rw [h]⟩
theorem keyK_iff {L : List Tm} {i j : Nat} (hi : i < L.length) (hj : j < L.length) : (keyK L i < keyK L j ↔ ltB (txT (L.getD i tm0)) (txT (L.getD j tm0)) = true) ∧ (keyK L i = keyK L j ↔ txT (L.getD i tm0) = txT (L.getD j tm0)) := by
  obtain ⟨a, b⟩ := rk_iff (getD_txN hi).2 (getD_txN hj).2
  unfold keyK
  exact ⟨by rw [← txN_lt, ← a]; omega, by rw [← txN_eq, ← b]; omega⟩
theorem keyK_cmp {L : List Tm} {i j : Nat} (hi : i < L.length) (hj : j < L.length) : cmpB ((L.map txN).getD i []) ((L.map txN).getD j []) = cmpI (keyK L i) (keyK L j) := by
  obtain ⟨a, b⟩ := keyK_iff hi hj
  rw [(getD_txN hi).1, (getD_txN hj).1]
  obtain ⟨c, d⟩ := cmpB_ltB (txN (L.getD i tm0)) (txN (L.getD j tm0))
  obtain ⟨c', d'⟩ := cmpB_ltB (txN (L.getD j tm0)) (txN (L.getD i tm0))
  have a' := (keyK_iff hj hi).1
  rw [txN_lt, ← a] at c
  rw [txN_eq, ← b] at d
  have hr : cmpB (txN (L.getD i tm0)) (txN (L.getD j tm0)) = -1 ∨ cmpB (txN (L.getD i tm0)) (txN (L.getD j tm0)) = 0 ∨ cmpB (txN (L.getD i tm0)) (txN (L.getD j tm0)) = 1 := by
    generalize txN (L.getD i tm0) = s
    generalize txN (L.getD j tm0) = s'
    unfold cmpB
    induction s generalizing s' with
    | nil => cases s' <;> simp [Lib.compareBytes]
    | cons a s ih =>
      cases s' with
      | nil => simp [Lib.compareBytes]
      | cons b s' =>
        rw [Lib.compareBytes]
        split
        · simp
        · split
          · simp
          · exact ih s'
  unfold cmpI
  by_cases h1 : keyK L i < keyK L j
  · rw [if_pos h1]; have := c.2 h1; omega
  · rw [if_neg h1]
    by_cases h2 : keyK L j < keyK L i
    · rw [if_pos h2]
      have n1 : ¬ cmpB (txN (L.getD i tm0)) (txN (L.getD j tm0)) < 0 := fun q => h1 (c.1 q)
      have n2 : ¬ cmpB (txN (L.getD i tm0)) (txN (L.getD j tm0)) = 0 := fun q => by have := d.1 q; omega
      omega
    · rw [if_neg h2]
      exact d.2 (by omega)
theorem sort_srt {t : Tm} {r : Bool} (h : r = true ↔ SortedZ ((toL t.2).map txN)) : r = srtB (toL t.2) := by
  have h2 := srt_iff (toL t.2)
  have h3 : SortedZ ((toL t.2).map txN) ↔ ∀ i, 0 < i → i < (toL t.2).length → ltB (txT ((toL t.2).getD i tm0)) (txT ((toL t.2).getD (i - 1) tm0)) = false := by
    unfold SortedZ
    rw [List.length_map]
    constructor
    · intro h i a b
      have := h i a b
      rw [(getD_txN b).1, (getD_txN (show i - 1 < (toL t.2).length by omega)).1, txN_lt] at this; exact this
    · intro h i a b
      rw [(getD_txN b).1, (getD_txN (show i - 1 < (toL t.2).length by omega)).1, txN_lt]; exact h i a b
  rw [h3, h2] at h
  cases r <;> cases hs : srtB (toL t.2) <;> simp_all
/-- A row of the call's own of the first numbers, as the sort takes it. -/
theorem rowX_own {w : World} {B n : Nat} {e : TypeId} {v : Value} (h : w.ownsRow B e 1 v n (cellsK .i64 (natsI (List.range n)))) (hn : 0 < n) : ∃ g cap, v = .slice (some ⟨g, 0, none⟩) n cap ∧ B ≤ g ∧ RowX w g n e id w := by
  obtain ⟨_, h2 | ⟨g, cap, cur, rfl, h3, h4, h5, h6, h7, h8⟩⟩ := h
  · omega
  · refine ⟨g, cap, rfl, h3, ⟨(cur.toList.drop n).toArray, ?_⟩, Below.refl _ _⟩
    have e1 : rowC n id = (cellsK .i64 (natsI (List.range n))).toArray := by
      unfold rowC cellsK natsI
      rw [List.map_map]; rfl
    unfold Blk
    rw [h4, e1, ← h8, Nat.mul_one]
    congr 2
    apply Array.toList_inj.1
    simp
end Go.Proofs.YtkjpmhmlakmglaaDoor

namespace Go.Proofs.YtkjpmhmlakmglaaDoor
open Go.ChangeShapes Go.WideShapes Go.ChangeAt Go.RowKit
attribute [local irreducible] Go.Calls

set_option maxHeartbeats 8000000 in
set_option maxRecDepth 100000 in
theorem sort_c (S : Nat → Prop) (p : Nat) (t : Tm) (w : World) (deep ink : Nat) (hS : ¬ S p) (hS2 : ∀ k, w.heap.size ≤ k → S k) (hT : TermB S w p t) (hf : FitT t deep ink) (hs : sizT t ≤ 64) (hTab : Tab w) :
    Calls Tryd.prog 48 #[.pointer (some ⟨p, 0, none⟩)] w (RuleTo S p (sortR t) t w) := by
  have HTX := hidE (texts_c S p t w deep ink hT hf hs hTab)
  have hkk := badP_kids hf.1
  have hlen := fitT_len hf
  obtain ⟨z, v, hb, hv⟩ := hT
  obtain ⟨av, cap, rfl, hc1, hc2⟩ := hv.shape
  obtain ⟨kd, hkd⟩ : ∃ kd, t.1.kind = kd := ⟨_, rfl⟩
  obtain ⟨n, hn⟩ : ∃ n, t.2.len = n := ⟨_, rfl⟩
  have pz := hb.lt
  have hn16 : n ≤ 16 := by omega
  have HB := hidE hb; have HV := hidE hv.old; have HKD := hidE hkd; have HN := hidE hn
  have c0 := hb.cell 0
  simp at c0
  rw [hkd] at c0
  by_cases h34 : kd = 3 ∨ kd = 4
  · have k1 : ((kd : Int) != 3) = true ∧ ((kd : Int) != 4) = false ∨ ((kd : Int) != 3) = false := by
      rcases h34 with e | e
      · subst e; right; rfl
      · subst e; left; exact ⟨rfl, rfl⟩
    have H34 := hidE h34
    clear hv hb hf hTab hkd hn hkk
    go_enter Tryd.func48, Tryd.ntmps48
    go_upto_region 1 with fail
    go_cut [22] (fun v22 wx => v22 = .bool false ∧ wx = w)
    case first =>
      rcases k1 with ⟨k1, k2⟩ | k1
      all_goals
        go_wp2
        go_meet
        case rel => exact ⟨rfl, rfl⟩
    case rest =>
      obtain ⟨rfl, rfl⟩ := hcut
      clear k1 h34
      go_wp2_with fail
      ((with_reducible refine HTX.out.mono ?_); rintro e w1 ⟨vt, rfl, hz1, hb1, _, _⟩)
      have hll : ((toL t.2).map txN).length = n := by rw [List.length_map, toL_len]; exact HN.out
      obtain ⟨l, hl⟩ : ∃ l, l = (toL t.2).map txN := ⟨_, rfl⟩
      rw [← hl] at hz1 hll
      have HL := hidE hl
      obtain ⟨at1, ct1, rfl, ht1, ht2, _⟩ := id hz1
      rw [hll] at hz1 ht1 ⊢
      have hq1 := hb1.size
      go_wp2_with fail
      obtain ⟨w2, hw2⟩ : ∃ w2, w2 = w1.alloc (.cells #[.slice at1 n ct1] 94) := ⟨_, rfl⟩
      rw [← hw2]
      have hQ : Below wc.heap.size wc w2 := by rw [hw2]; (repeat (first | exact Below.refl _ _ | assumption | refine balloc ?_ _ | refine below_drewN ?_ _ | refine bstep (by assumption) ?_ | refine bstep (Past.prop _) ?_ | refine Below.setCell ?_ (by first | exact Nat.le_refl _ | (simp; done) | (simp; omega)) _))
      have hQ1 : Blk w2 w1.heap.size #[.slice at1 n ct1] 94 := by rw [hw2]; exact Blk.made _ _ _
      have hZ1 : SliZ w2 (.slice at1 n ct1) l := hz1.past (by rw [hw2]; (repeat (first | exact Below.refl _ _ | assumption | refine balloc ?_ _ | refine below_drewN ?_ _ | refine bstep (by assumption) ?_ | refine bstep (Past.prop _) ?_ | refine Below.setCell ?_ (by first | exact Nat.le_refl _ | (simp; done) | (simp; omega)) _)))
      have hsz2 : w2.heap.size = w1.heap.size + 1 := by rw [hw2]; simp
      have HQ := hidE hQ; have HQ1 := hidE hQ1; have HZ1 := hidE hZ1
      clear hw2 hQ hQ1 hZ1 hz1 hb1 hl
      have HIS := hidE (isSorted_c l (.slice at1 n ct1) w2 (by omega) HZ1.out)
      ((with_reducible refine HIS.out.mono ?_); rintro e w3 ⟨r, rfl, hr, hb3⟩)
      have hrs : r = srtB (toL t.2) := sort_srt (by rw [← HL.out]; exact hr)
      have HQ3 := hidE (HQ.out.trans (hb3.mono HQ.out.size)); have HZ3 := hidE (HZ1.out.past hb3); have HQ4 := hidE (HQ1.out.past hb3)
      have h3 := hb3.size
      cases r with
      | true =>
        have hR : sortR t = none := by unfold sortR; rw [if_neg (by rw [← hrs]; exact fun q => by cases q.2)]
        have HR := hidE hR
        clear hr hrs hR HQ HZ1 HQ1 HIS hb3
        go_wp2
        go_ret
        rw [RuleTo, HR.out]
        exact ⟨rfl, TermB.past ⟨z, _, HB.out, HV.out.mono fun k a _ => a.1⟩ HQ3.out, grown_any HQ3.out⟩
      | false =>
        have hR : sortR t = some (t.1, ofL (sortG (toL t.2))) := by unfold sortR; rw [if_pos ⟨by rw [HKD.out]; exact H34.out, hrs.symm⟩]
        have HR := hidE hR
        have hn0 : 0 < n := by
          rcases Nat.eq_zero_or_pos n with e | e
          · exfalso
            have : toL t.2 = [] := List.eq_nil_of_length_eq_zero (by rw [toL_len, HN.out]; exact e)
            rw [this] at hrs; simp [srtB, sortG] at hrs
          · exact e
        have e0 := HQ4.out.cell 0; have ez := HQ4.out.lt
        simp at e0
        clear hr hrs hR HQ HZ1 HQ1 HIS hb3
        obtain ⟨ix, hix, hz0, hzz, hz4⟩ := info_parts Tryd.infoIntN
        have HI := hidE hix; have HZ0 := hidE hz0; have HY1 := hidE hzz; have HY2 := hidE hz4
        clear hix hz0 hzz hz4
        go_wp2
        go_loopg [4, 29] n (fun gh v4 v29 wr => ∃ k : Nat, k ≤ n ∧ n - k ≤ gh ∧ v29 = .int .i64 k ∧ wr.ownsRow w3.heap.size 3 1 v4 k (cellsK .i64 (natsI (List.range k))) ∧ Below w3.heap.size w3 wr)
        case atStart => exact ⟨0, Nat.zero_le _, Nat.le_refl _, rfl, own_nil _ _ _, Below.refl _ _⟩
        case round =>
          obtain ⟨k, hkn, hgh, rfl, hown, hbl⟩ := hrel
          have HOW := hidE hown; have HBL := hidE hbl; have HGH := hidE hgh
          have hws := hbl.size
          obtain ⟨a4, c4, rfl⟩ := own_sli hown
          clear hown hbl hgh e0 ez
          by_cases hk : k < n
          · have q1 : decide ((k : Int) < (n : Int)) = true := decide_eq_true (by omega)
            have q2 : decide (k < n) = true := decide_eq_true hk
            go_wp2_with (at_builtin; go_loud (refine list_appV rfl (.tmp 32) (.tmp 34) 26 rfl w3.heap.size 3 ix _ 1 8 Tryd.underlying26 HI.out HZ0.out HY1.out HY2.out rfl (by decide) (.slice a4 k c4) k (cellsK .i64 (natsI (List.range k))) rfl (own_below HOW.out (by (repeat (first | exact Below.refl _ _ | assumption | refine balloc ?_ _ | refine below_drewN ?_ _ | refine bstep (by assumption) ?_ | refine bstep (Past.prop _) ?_ | refine Below.setCell ?_ (by first | exact Nat.le_refl _ | (simp; done) | (simp; omega)) _)))) _ 1 [.int .i64 k] rfl (srcV_new (Blk.made_at _ _ _ _ (by first | rfl | (simp; done))) rfl (by intro y hy; simp at hy; subst hy; rfl)) (by omega) (by omega) (by simp; omega) ?_); intro v' w' own' hg'; obtain ⟨av', cp', rfl⟩ := own_sli own')
            go_roundg (n - (k + 1))
            case measure => have := HGH.out; omega
            case rel =>
              refine ⟨k + 1, hk, Nat.le_refl _, by go_num, ?_, Below.grown (HBL.out.trans ((show Below wr.heap.size wr _ from by (repeat (first | exact Below.refl _ _ | assumption | refine balloc ?_ _ | refine below_drewN ?_ _ | refine bstep (by assumption) ?_ | refine bstep (Past.prop _) ?_ | refine Below.setCell ?_ (by first | exact Nat.le_refl _ | (simp; done) | (simp; omega)) _))).mono hws)) hg' (by simp; omega) (fun j hj => own_block HOW.out hj)⟩
              rw [List.range_succ, natsI_app, cellsK_app]; exact own'
          · have hkn' : k = n := by omega
            subst hkn'
            have q1 : decide ((k : Int) < (k : Int)) = false := decide_eq_false (by omega)
            have q2 : decide (k < k) = false := decide_eq_false (by omega)
            obtain ⟨g, cg, hv4, hgB, hrow⟩ := rowX_own HOW.out hn0
            cases hv4
            have HROW := hidE hrow
            have HCM := hidE (show Cmps wr g k (.pointer (some ⟨w1.heap.size, 0, none⟩)) (keyK (toL t.2)) from fun w' hb' x y hx hy => by
              have h6 : Below w3.heap.size w3 w' := HBL.out.trans (hb'.mono hgB)
              have hq6 := (HQ4.out.past h6).cell 0
              have hln : (toL t.2).length = k := by rw [toL_len]; exact HN.out
              have := scmp_c l (.slice at1 k ct1) w1.heap.size x y w' (HZ3.out.past h6) (by omega) (by simpa using hq6) (HQ4.out.past h6).lt (by omega) (by omega)
              rw [HL.out, keyK_cmp (by omega) (by omega)] at this
              exact this)
            have HSS := hidE (sortStable_c wr wr g k c4 3 (keyK (toL t.2)) (.pointer (some ⟨w1.heap.size, 0, none⟩)) id HROW.out HCM.out (fun a b h _ => .inr h) (fun a h => h) (by omega))
            clear hrow HOW
            go_wp2_with fail
            ((with_reducible refine HSS.out.mono ?_); rintro e w5 ⟨rfl, d, hrow5, hmv, _, hsr⟩)
            have hb5 : Below w3.heap.size w3 w5 := HBL.out.trans (hrow5.low.mono hgB)
            have hbw : Below wc.heap.size wc w5 := HQ3.out.trans (hb5.mono HQ3.out.size)
            have hfin := sort_is (L := toL t.2) (n := k) (by rw [toL_len]; exact HN.out) hmv (fun i j hi hj => keyK_iff (by rw [toL_len, HN.out]; exact hi) (by rw [toL_len, HN.out]; exact hj)) hsr
            have hok := (show Okd k id from fun a h => h).mv hmv (Nat.le_refl _)
            have HR5 := hidE hrow5; have HBW := hidE hbw; have HFIN := hidE hfin; have HOKD := hidE hok
            have hw5 := hbw.size
            clear hrow5 hmv hsr hb5 hbw hfin hok HSS HCM HROW HBL
            obtain ⟨iy, hiy, hz0, hzz, hz4⟩ := info_parts Tryd.infoTermN
            have JI := hidE hiy; have JZ0 := hidE hz0; have JY1 := hidE hzz; have JY2 := hidE hz4
            clear hiy hz0 hzz hz4
            go_wp2
            go_loopg [6, 42] k (fun gh v6 v42 wr2 => ∃ m : Nat, m ≤ k ∧ k - m ≤ gh ∧ v42 = .int .i64 m ∧ OwnN w5.heap.size (Old S wc) wr2 v6 ((List.range m).map fun j => (toL t.2).getD (d j) tm0) ∧ Below w5.heap.size w5 wr2)
            case atStart => exact ⟨0, Nat.zero_le _, Nat.le_refl _, rfl, ownN_nil _ _ _, Below.refl _ _⟩
            case round =>
              obtain ⟨m, hmk, hgh, rfl, hown, hbl⟩ := hrel
              have HBL := hidE hbl; have HGH := hidE hgh
              have hws := hbl.size
              obtain ⟨xs, ho, hrx⟩ := hown
              rw [List.length_map, List.length_range] at ho
              obtain ⟨a6, c6, rfl⟩ := own_sli ho
              have HOW := hidE ho; have HRX := hidE hrx
              have hbw2 := HBW.out.trans (hbl.mono hw5)
              have HBW2 := hidE hbw2
              have b6 := (HB.out.past hbw2).cell 6
              have bz := (HB.out.past hbw2).lt
              simp at b6
              rw [HN.out] at b6
              clear hbl hgh ho hrx hbw2
              by_cases hk : m < k
              · have q1 : decide ((m : Int) < (k : Int)) = true := decide_eq_true (by omega)
                have q2 : decide (m < k) = true := decide_eq_true hk
                have r0 := (HR5.out.past HBL.out).cell (i := m) hk
                have rz := (HR5.out.past HBL.out).lt
                have hdm := HOKD.out m hk
                obtain ⟨b, off, cap', z', vk, e, _, hbz, hSb, hkv, d0, d1, d2, d3, d4, d5, d6⟩ := (HV.out.sam (Sam.old (HBW2.out))).get (i := d m) (by rw [HN.out]; exact hdm)
                cases e
                obtain ⟨u, hu⟩ : ∃ u, (toL t.2).getD (d m) tm0 = u := ⟨_, rfl⟩
                rw [hu] at d0 d1 d2 d3 d5 hkv
                obtain ⟨ak, ck, rfl, hk1, hk2⟩ := hkv.shape
                have HK := hidE hkv; have HU := hidE hu
                have hdz : (d m : Int) < (k : Int) := by omega
                obtain ⟨dm, hdme⟩ : ∃ dm, d m = dm := ⟨_, rfl⟩
                rw [hdme] at r0 hdm hdz d0 d1 d2 d3 d4 d5 d6
                clear hkv hu hdme
                go_wp2_with (at_builtin; go_loud (refine list_appV rfl (.tmp 46) (.tmp 54) 52 rfl w5.heap.size 54 iy _ 7 64 Tryd.underlying52 JI.out JZ0.out JY1.out JY2.out rfl (by decide) (.slice a6 m c6) m xs rfl (own_below HOW.out (by (repeat (first | exact Below.refl _ _ | assumption | refine balloc ?_ _ | refine below_drewN ?_ _ | refine bstep (by assumption) ?_ | refine bstep (Past.prop _) ?_ | refine Below.setCell ?_ (by first | exact Nat.le_refl _ | (simp; done) | (simp; omega)) _)))) _ 1 (tcV u.1 z' _) rfl (srcV_new (Blk.made_at _ _ _ _ (by first | rfl | (simp; done))) rfl (by intro y hy; simp at hy; rcases hy with rfl | rfl | rfl | rfl | rfl | rfl | rfl <;> rfl)) (by omega) (by omega) (by simp; omega) ?_); intro v' w' own' hg'; obtain ⟨av', cp', rfl⟩ := own_sli own')
                go_roundg (k - (m + 1))
                case measure => have := HGH.out; omega
                case rel =>
                  have hbl3 := (show Below w5.heap.size wr w' from Below.grown ((show Below wr.heap.size wr _ from by (repeat (first | exact Below.refl _ _ | assumption | refine balloc ?_ _ | refine below_drewN ?_ _ | refine bstep (by assumption) ?_ | refine bstep (Past.prop _) ?_ | refine Below.setCell ?_ (by first | exact Nat.le_refl _ | (simp; done) | (simp; omega)) _))).mono hws) hg' (by simp; omega) (fun j hj => own_block HOW.out hj))
                  have hsm : Sam (Old S wc) wr w' := Sam.old (hbl3.mono hw5)
                  refine ⟨m + 1, hk, Nat.le_refl _, by go_num, ⟨xs ++ tcV u.1 z' (.slice ak u.2.len ck), ?_, ?_⟩, HBL.out.trans hbl3⟩
                  · rw [List.length_map, List.length_range]; exact own'
                  · rw [List.range_succ, List.map_append]
                    refine CelF.app ?_ (HRX.out.sam hsm)
                    rw [List.map_cons, List.map_nil, HU.out]
                    exact (celF_one HK.out).sam hsm
              · have hkm : m = k := by omega
                subst hkm
                have q1 : decide ((m : Int) < (m : Int)) = false := decide_eq_false (by omega)
                have q2 : decide (m < m) = false := decide_eq_false (by omega)
                have pf := (HB.out.past HBW2.out).free 6
                go_wp2
                go_ret
                refine ⟨by rw [HR.out]; rfl, ?_, grown_trans (grown_any HBW2.out) (grown_set _ _ _ _)⟩
                rw [HR.out]
                have hs := (HB.out.past HBW2.out).set 6 (.slice a6 m c6)
                simp only [tcA, List.setIfInBounds_toArray, List.set_cons_zero, List.set_cons_succ] at hs
                have hown : OwnN w5.heap.size (Old S wc) wr (.slice a6 m c6) (sortG (toL t.2)) := by
                  rw [← HFIN.out]
                  exact ⟨xs, by rw [List.length_map, List.length_range]; exact HOW.out, HRX.out⟩
                exact ⟨z, _, hs, (hown.sli (fun k hk => hS2 k (by omega)) (fun k q => q.1)).off hS (grown_set _ _ _ _)⟩
  · have k1 : ((kd : Int) != 3) = true := by simp; omega
    have k2 : ((kd : Int) != 4) = true := by simp; omega
    have hR : sortR t = none := by unfold sortR; rw [if_neg (by rw [HKD.out]; exact fun q => h34 q.1)]
    have HR := hidE hR
    clear hv hb hf hTab hkd hn hkk HTX hR
    go_enter Tryd.func48, Tryd.ntmps48
    go_wp2
    go_ret
    rw [RuleTo, HR.out]
    exact ⟨rfl, ⟨z, _, HB.out, HV.out.mono fun k a _ => a.1⟩, grown_refl _ _⟩
end Go.Proofs.YtkjpmhmlakmglaaDoor
