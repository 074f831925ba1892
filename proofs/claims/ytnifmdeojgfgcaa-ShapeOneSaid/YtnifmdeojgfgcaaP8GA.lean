/- Program-free lemmas for walks over calls that make memory of their own. No conditions. From a walk to a statement: a law whose call answers true and only makes memory has its row. No conditions. Slices that read as lists of parts: five cells each. No function of the program. No conditions. A definition that is handed in: two times and a slice of parts. No conditions. The five reasons why a part may not be, one by one. No conditions but the machine's bounds. A block's cells read, and written, all at once. No function of the program. No conditions. The spot behind a part. No conditions but that no reason holds of the part. The first reason why parts may not be: the reasons, and fault. No conditions but the machine's bounds. The contracts of the document's own answers of layer 8: bad, read, Tree, Check, End, May. No conditions but sizes, and that the slice's cells read as parts. Slices that read as lists of integers of one kind (uint8, uint64 ..). No function of the program. No conditions. A row of cells that is appended to, round by round: where it lies, and what turns of memory leave it as it is: for any kind of element. Program-free. No conditions. The contracts of the document's own answers of layer 8: Tree, Check, End, May, Kids, Depth, Atoms, Same. No conditions but sizes, and that the slices' cells read as parts, as places. -/
import Derived.WalkKit
import Derived.ProofKit
import Derived.OpenShut
import Derived.Below
import Derived.WalkSmall
import Derived.OneCell
import Derived.Deep.QuietTactic
import Derived.BigQuiet
import Derived.Test.YtnifmdeojgfgcaaRows
import Derived.Carry
import Derived.Lib.SmallJoins
import Derived.Test.YtnifmdeojgfgcaaP8MA
import Derived.LoopTactic
import Derived.Deep.LoopGhost
import Derived.WalkMore
import Derived.ScopeJumps
import Derived.Deep.DeepCutAuto
import Derived.Outline
import Derived.BigRegion
import Derived.Laws.AppendOwn
import Derived.Laws.OwnMore
import Derived.Laws.IdiomStrings
import Derived.Deep.MidRow
namespace Go.Proofs.Ytnifmdeojgfgcaa
open Go.ChangeShapes Go.WideShapes Go.ChangeAt Go.RowKit

/-- The worlds that a call which only makes memory may leave behind W. -/
def Past (W : World) : Type := { w : World // Below W.heap.size W w }

instance (W : World) : Nonempty (Past W) := ⟨⟨W, Below.refl _ _⟩⟩

theorem Past.cell {W : World} (x : Past W) (b o : Nat) (h : b < W.heap.size) : x.1.cell? ⟨b, o, none⟩ = W.cell? ⟨b, o, none⟩ :=
  x.2.cell (p := ⟨b, o, none⟩) h
theorem Past.frozen {W : World} (x : Past W) (b o : Nat) (h : b < W.heap.size) : x.1.frozen? ⟨b, o, none⟩ = W.frozen? ⟨b, o, none⟩ :=
  x.2.frozen (p := ⟨b, o, none⟩) h

theorem bcell {W w1 : World} (hb : Below W.heap.size W w1) : (∀ b o, b < W.heap.size → w1.cell? ⟨b, o, none⟩ = W.cell? ⟨b, o, none⟩) ∧ (∀ b o, b < W.heap.size → w1.frozen? ⟨b, o, none⟩ = W.frozen? ⟨b, o, none⟩) :=
  ⟨fun b o h => hb.cell (p := ⟨b, o, none⟩) h, fun b o h => hb.frozen (p := ⟨b, o, none⟩) h⟩

theorem bsz {W w1 : World} (hb : Below W.heap.size W w1) (k : Nat) (h : k < W.heap.size) : k < w1.heap.size := Nat.lt_of_lt_of_le h hb.size

/-- A region that draws its order, whose operations read and call what only makes memory: one walk in the text's order. -/
theorem wp_region_past_lit {P : Program} {id : Nat} {Q : Exit → Act → World → Prop} {a : Act} {w : World} {l : List Oper} (hm : P.follows .mixedOrders = true) (hB : Region.lexB .any l.toArray = true)
    (h : wpQuiet P l.toArray (fun w' => ∃ x : Past w, w' = x.1) (fun a' => ∀ w', (∃ x : Past w, w' = x.1) → Q .normal a' w') l a) : (Code.region id l.toArray true).wp P Q a w :=
  wp_region_quiet (C := fun w' => ∃ x : Past w, w' = x.1) hm hB ⟨⟨_, (Below.refl _ _).drew⟩, rfl⟩ (by simpa using h)

theorem Past.call {P : Program} {f : FuncId} {args : Array Value} {W : World} {v : Value} (x : Past W)
    (h : Calls P f args x.1 fun e w' => e = .returned v ∧ Below x.1.heap.size x.1 w') : Calls P f args x.1 fun e w'' => e = .returned v ∧ ∃ y : Past W, w'' = y.1 :=
  h.mono fun _ _ ⟨he, hb⟩ => ⟨he, ⟨⟨_, x.2.trans (hb.mono x.2.size)⟩, rfl⟩⟩

theorem Past.same {P : Program} {f : FuncId} {args : Array Value} {W : World} {v : Value} (x : Past W)
    (h : Calls P f args x.1 fun e w' => e = .returned v ∧ w' = x.1) : Calls P f args x.1 fun e w'' => e = .returned v ∧ ∃ y : Past W, w'' = y.1 :=
  h.mono fun _ _ ⟨he, hb⟩ => ⟨he, ⟨x, hb⟩⟩

theorem same_below {P : Program} {f : FuncId} {args : Array Value} {w : World} {v : Value}
    (h : Calls P f args w fun e w' => e = .returned v ∧ w' = w) : Calls P f args w fun e w' => e = .returned v ∧ Below w.heap.size w w' :=
  h.mono fun _ _ ⟨he, hb⟩ => ⟨he, hb ▸ Below.refl _ _⟩

theorem Past.prop {W : World} (x : Past W) : Below W.heap.size W x.1 := x.2
theorem bstep {a W w' : World} (h : Below W.heap.size W w') (ha : Below a.heap.size a W) : Below a.heap.size a w' := ha.trans (h.mono ha.size)
theorem balloc {a w : World} (h : Below a.heap.size a w) (o : Obj) : Below a.heap.size a (w.alloc o) := h.alloc h.size o
theorem hidE {p : Prop} (h : p) : Hid p := h
/-- A block known whole, none of it a string's bytes. -/
def Blk (w : World) (k : Nat) (cs : Array Value) (t : TypeId) : Prop := w.heap[k]? = some (.cells cs t (0, 0))
theorem Blk.lt {w : World} {k : Nat} {cs : Array Value} {t : TypeId} (h : Blk w k cs t) : k < w.heap.size := lt_of_block h
theorem Blk.cell {w : World} {k : Nat} {cs : Array Value} {t : TypeId} (h : Blk w k cs t) (i : Nat) : w.cell? ⟨k, i, none⟩ = cs[i]? := by
  unfold Blk at h; simp [World.cell?, h]
theorem Blk.free {w : World} {k : Nat} {cs : Array Value} {t : TypeId} (h : Blk w k cs t) (i : Nat) : w.frozen? ⟨k, i, none⟩ = false := by
  unfold Blk at h; simp [World.frozen?, h]
theorem Blk.made (w : World) (cs : Array Value) (t : TypeId) : Blk (w.alloc (.cells cs t)) w.heap.size cs t := by
  show (w.heap.push _)[w.heap.size]? = _
  simp
theorem Blk.made_at (w : World) (cs : Array Value) (t : TypeId) (k : Nat) (h : k = w.heap.size) : Blk (w.alloc (.cells cs t)) k cs t := h ▸ Blk.made w cs t
theorem Blk.alloc {w : World} {k : Nat} {cs : Array Value} {t : TypeId} (h : Blk w k cs t) (o : Obj) : Blk (w.alloc o) k cs t := by
  have := h.lt
  show (w.heap.push _)[k]? = _
  rw [Array.getElem?_push, if_neg (by omega)]; exact h
theorem Blk.below {w w' : World} {k : Nat} {cs : Array Value} {t : TypeId} (h : Blk w k cs t) {B : Nat} (hb : Below B w w') (hk : k < B) : Blk w' k cs t := (hb.block k hk).trans h
theorem Blk.past {w w' : World} {k : Nat} {cs : Array Value} {t : TypeId} (h : Blk w k cs t) (hb : Below w.heap.size w w') : Blk w' k cs t := h.below hb h.lt
theorem Blk.drew {w : World} {k : Nat} {cs : Array Value} {t : TypeId} (h : Blk w k cs t) (n : Nat) : Blk (w.drewN n) k cs t := h
theorem Blk.set {w : World} {k : Nat} {cs : Array Value} {t : TypeId} (h : Blk w k cs t) (i : Nat) (v : Value) : Blk (w.setCell ⟨k, i, none⟩ v) k (cs.setIfInBounds i v) t := by
  have hlt := h.lt
  have h' : w.heap[k] = .cells cs t (0, 0) := by unfold Blk at h; simpa [Array.getElem?_eq_getElem hlt] using h
  show (w.heap.modify k _)[k]? = _
  rw [Array.getElem?_eq_getElem (by simpa using hlt), Array.getElem_modify_self, h']
  rfl
theorem Blk.other {w : World} {k : Nat} {cs : Array Value} {t : TypeId} (h : Blk w k cs t) {b i : Nat} (hb : k ≠ b) (v : Value) : Blk (w.setCell ⟨b, i, none⟩ v) k cs t :=
  (Below.heap_setCell w ⟨b, i, none⟩ v k hb).trans h
theorem ret_bool {a b : Bool} (h : a = b) : Ending.returned (.bool a) = .returned (.bool b) := by rw [h]
theorem ret_int {k : IntKind} {a b : Int} (h : a = b) : Ending.returned (.int k a) = .returned (.int k b) := by rw [h]
theorem ret_tup {a b : Array Value} (h : a = b) : Ending.returned (.tuple a) = .returned (.tuple b) := by rw [h]

/-- A bool of which something is known is handed back; the call only makes memory. -/
def RetB (w : World) (p : Bool → Prop) (e : Ending) (w' : World) : Prop := ∃ r : Bool, e = .returned (.bool r) ∧ p r ∧ Below w.heap.size w w'
/-- So a number. -/
def RetN (w : World) (p : Nat → Prop) (e : Ending) (w' : World) : Prop := ∃ n : Nat, e = .returned (.int .i64 n) ∧ p n ∧ Below w.heap.size w w'
/-- So a value. -/
def RetV (w : World) (p : Value → World → Prop) (e : Ending) (w' : World) : Prop := ∃ v : Value, e = .returned v ∧ p v w' ∧ Below w.heap.size w w'

end Go.Proofs.Ytnifmdeojgfgcaa

namespace Go.Proofs.Ytnifmdeojgfgcaa
open Go.ChangeShapes Go.WideShapes Go.ChangeAt Go.RowKit Go.WideElems

def readOk (P : Program) (ts : List TypeId) : Bool := ts.all fun t => P.readableRec t && decide (t < P.types.size)
theorem readOk_spec {P : Program} {ts : List TypeId} (h : readOk P ts = true) : ∀ t ∈ ts, P.readableRec t = true ∧ t < P.types.size := fun t ht => by
  have := List.all_eq_true.1 h t ht
  simpa using this
theorem own : ownKnob Try.prog.godebug = none := by kernel_rfl
theorem laidOut : laidOutB Try.prog = true := by kernel_rfl

section
variable {H : Type} {enc : TypeId × Value → H} {P : Program}

/-- What was read before reads so behind a call that only makes memory. -/
theorem trodAll_past (hl : laidOutB P = true) {W W' : World} (hb : Below W.heap.size W W') : ∀ (ts : List TypeId) (vs : List Value) (ds : List (DataW H)) (ps : List MemPlace),
    (∀ t ∈ ts, P.readableRec t = true ∧ t < P.types.size) → DataW.TrodAll enc P W 0 (fun _ => true) true ts vs ds ps → (∀ x ∈ ps, x.block < W.heap.size) →
    ∀ sp : Nat → Bool, (∀ x ∈ ps, sp x.block = true) → DataW.TrodAll enc P W' 0 sp true ts vs ds ps := by
  intro ts
  induction ts with
  | nil =>
    intro vs ds ps _ h _ sp _
    cases vs <;> cases ds <;> simp only [DataW.TrodAll] at h ⊢
    exact h
  | cons t ts ih =>
    intro vs ds ps hr h hlt sp hsp
    cases vs with
    | nil => cases ds <;> simp only [DataW.TrodAll] at h
    | cons v vs =>
      cases ds with
      | nil => simp only [DataW.TrodAll] at h
      | cons d ds =>
        simp only [DataW.TrodAll] at h ⊢
        obtain ⟨p, q, h1, h2, rfl⟩ := h
        have hr0 := hr t (by simp)
        exact ⟨p, q, WideElems.Trod_stays hl hr0.1 hr0.2 h1 (fun x hx => hb.same (hlt x (by simp [hx]))) (fun x hx => hsp x (by simp [hx])),
          ih vs ds q (fun u hu => hr u (by simp [hu])) h2 (fun x hx => hlt x (by simp [hx])) sp (fun x hx => hsp x (by simp [hx])), rfl⟩

/-- The row's last step. -/
theorem law_post {f : Func} {s : ChangeSpec} {rt : TypeId} {W W' : World} {args : Array Value} {ds gs : List (DataW H)} {before : List MemPlace}
    (hl : laidOutB P = true) (hread : ∀ t ∈ f.params.toList, P.readableRec t = true ∧ t < P.types.size) (hv : s.vars = []) (hbool : P.underlying rt = some .bool) (hrt : f.resultTypes = #[rt])
    (hfn : (s.fn H ds).results = [.lit (.bool true)] ∧ (s.fn H ds).args = ds ∧ (s.fn H ds).vars = [])
    (hW : DataW.Whole enc P f.params.toList s.vars false W args.toList ds gs before) (hb : Below W.heap.size W W') :
    s.post enc P f false true false false W args (.bool true) W' := by
  have hlt : ∀ x ∈ before, x.block < W.heap.size := fun x hx => hW.lt x hx
  have hW' := hW
  obtain ⟨p, q, hA, hV, rfl, hz, hn⟩ := hW
  rw [hv] at hV
  obtain ⟨rfl, rfl⟩ := trodVars_none hV
  rw [List.append_nil] at *
  obtain ⟨e1, e2, e3⟩ := hfn
  have hres : ∀ (b : Nat) (sp : Nat → Bool) (hd : Bool), DataW.TrodAll enc P W' b sp hd f.resultTypes.toList ((Value.bool true).resultList f.resultTypes.size) (s.fn H (ds ++ [])).results [] := by
    intro b sp hd
    rw [List.append_nil, e1, hrt]
    exact trodAll_cons_mk (shut_bool hbool true) trodAll_mk0
  have hargs : ∀ sp : Nat → Bool, (∀ x ∈ p, sp x.block = true) → DataW.TrodAll enc P W' 0 sp true f.params.toList args.toList (s.fn H (ds ++ [])).args p := by
    intro sp hsp
    rw [List.append_nil, e2]
    exact trodAll_past hl hb _ _ _ _ hread hA hlt sp hsp
  have hvars : ∀ sp : Nat → Bool, DataW.TrodVars enc P W' sp s.vars (s.fn H (ds ++ [])).vars [] := by
    intro sp
    rw [List.append_nil, e3, hv]
    rfl
  have hold : ∀ x ∈ p, (fun b => decide (b < W.heap.size)) x.block = true := fun x hx => by simpa using hlt x hx
  refine ⟨ds, [], p, [], p, [], hW', hres _ _ _, hargs _ hold, hvars _, World.keptBut_mono (fun x hx => ⟨hx, Or.inr (by simpa using hx)⟩) (hb.frame (· ∈ p)), fun h => by cases h⟩

/-- A vector that is handed in: two integers. -/
theorem open_vec {t tv : TypeId} {f0 f1 : Field} (hs : P.underlying t = some (.struct #[f0, f1])) (h0 : f0.type = tv) (h1 : f1.type = tv) (hv : P.underlying tv = some (.int .i64)) (hone : Go.Deep.oneCellFields P #[f0, f1] = true) (hC : P.cellsOf t = 2)
    {r : Reach} {b0 : Nat} {W : World} {base : Nat} {sp : Nat → Bool} {held : Bool} {v : Value} {d : DataW H} {p : List MemPlace} (ho : Value.okWide P W r b0 t v) (h : DataW.Trod enc P W base sp held t v d p) :
    ∃ m c : Int, v = .agg #[.int .i64 m, .int .i64 c] ∧ (-9223372036854775808 ≤ m ∧ m ≤ 9223372036854775807) ∧ (-9223372036854775808 ≤ c ∧ c ≤ 9223372036854775807) := by
  obtain ⟨c0, c1, y0, y1, m, rfl, rfl, rfl, hy0, hy1⟩ := Joins.open_agg2 hs hone hC ho h
  rw [h0] at hy0; rw [h1] at hy1
  obtain ⟨a, e0, _, wa⟩ := DataW.trod_int hv hy0
  obtain ⟨b, e1, _, wb⟩ := DataW.trod_int hv hy1
  simp at e0 e1
  subst e0 e1
  exact ⟨a, b, rfl, by simpa [Lit.wf, IntKind.min, IntKind.max, IntKind.signed, IntKind.bits] using wa, by simpa [Lit.wf, IntKind.min, IntKind.max, IntKind.signed, IntKind.bits] using wb⟩

end



end Go.Proofs.Ytnifmdeojgfgcaa

namespace Go.Proofs.Ytnifmdeojgfgcaa
open Go.ChangeShapes Go.WideShapes Go.ChangeAt Go.RowKit
attribute [local irreducible] Go.Calls

def pr0 : Prt := ⟨0, 0, 0, 0, 0⟩
/-- A part's value. -/
abbrev prtV (x : Prt) : Value := .agg #[.int .u8 x.kind, .int .u32 x.n, .int .u32 x.g, .int .i64 x.d, .int .i64 x.kids]
/-- A definition's value. -/
abbrev defV (fr to' : Int) (a : Option Addr) (n cap : Nat) : Value := .agg #[.int .i64 fr, .int .i64 to', .slice a n cap]
/-- The parts that a slice's cells hold. -/
def CellsP (w : World) (b off : Nat) (l : List Prt) : Prop :=
  ∀ i, i < l.length → w.cell? ⟨b, off + i * 5, none⟩ = some (.int .u8 (l.getD i pr0).kind) ∧ w.cell? ⟨b, off + i * 5 + 1, none⟩ = some (.int .u32 (l.getD i pr0).n) ∧ w.cell? ⟨b, off + i * 5 + 2, none⟩ = some (.int .u32 (l.getD i pr0).g) ∧ w.cell? ⟨b, off + i * 5 + 3, none⟩ = some (.int .i64 (l.getD i pr0).d) ∧ w.cell? ⟨b, off + i * 5 + 4, none⟩ = some (.int .i64 (l.getD i pr0).kids)
/-- A slice that reads as the list: where it is not empty it lies in a block of the world's. -/
def ArgP (w : World) (a : Option Addr) (l : List Prt) : Prop := 0 < l.length → ∃ b off, a = some ⟨b, off, none⟩ ∧ b < w.heap.size ∧ CellsP w b off l
theorem CellsP.below {w w' : World} {b off B : Nat} {l : List Prt} (h : CellsP w b off l) (hb : Below B w w') (hB : b < B) : CellsP w' b off l := fun i hi => by
  obtain ⟨h1, h2, h3, h4, h5⟩ := h i hi
  exact ⟨(hb.cell (p := ⟨b, _, none⟩) hB).trans h1, (hb.cell (p := ⟨b, _, none⟩) hB).trans h2, (hb.cell (p := ⟨b, _, none⟩) hB).trans h3, (hb.cell (p := ⟨b, _, none⟩) hB).trans h4, (hb.cell (p := ⟨b, _, none⟩) hB).trans h5⟩
theorem ArgP.past {w w' : World} {a : Option Addr} {l : List Prt} (h : ArgP w a l) (hb : Below w.heap.size w w') : ArgP w' a l := fun hl => by
  obtain ⟨b, off, e, h1, h2⟩ := h hl
  exact ⟨b, off, e, Nat.lt_of_lt_of_le h1 hb.size, h2.below hb h1⟩
theorem CellsP.get {w : World} {b off : Nat} {l : List Prt} (h : CellsP w b off l) {i : Nat} (hi : i < l.length) : w.cell? ⟨b, off + i * 5, none⟩ = some (.int .u8 (l.getD i pr0).kind) ∧ w.cell? ⟨b, off + i * 5 + 1, none⟩ = some (.int .u32 (l.getD i pr0).n) ∧ w.cell? ⟨b, off + i * 5 + 2, none⟩ = some (.int .u32 (l.getD i pr0).g) ∧ w.cell? ⟨b, off + i * 5 + 3, none⟩ = some (.int .i64 (l.getD i pr0).d) ∧ w.cell? ⟨b, off + i * 5 + 4, none⟩ = some (.int .i64 (l.getD i pr0).kids) := h i hi
theorem Try.infoPart : (Try.prog.info? 42).map (fun i => (i.zero, i.size, i.bytes)) = some (some (.agg #[.int .u8 0, .int .u32 0, .int .u32 0, .int .i64 0, .int .i64 0]), 5, 32) := by kernel_rfl
/-- The cells of a list of parts. -/
def cellsOfP : List Prt → List Value
  | [] => []
  | t :: r => .int .u8 t.kind :: .int .u32 t.n :: .int .u32 t.g :: .int .i64 t.d :: .int .i64 t.kids :: cellsOfP r
theorem cellsOfP_len : ∀ l, (cellsOfP l).length = l.length * 5
  | [] => rfl
  | s :: r => by simp only [cellsOfP, List.length_cons, cellsOfP_len r]; omega
theorem cellsOfP_app : ∀ l r, cellsOfP (l ++ r) = cellsOfP l ++ cellsOfP r
  | [], _ => rfl
  | s :: l, r => by simp only [cellsOfP, List.cons_append, cellsOfP_app l r]
theorem cellsOfP_get : ∀ (l : List Prt) (i : Nat), i < l.length → (cellsOfP l)[i * 5]? = some (.int .u8 (l.getD i pr0).kind) ∧ (cellsOfP l)[i * 5 + 1]? = some (.int .u32 (l.getD i pr0).n) ∧ (cellsOfP l)[i * 5 + 2]? = some (.int .u32 (l.getD i pr0).g) ∧ (cellsOfP l)[i * 5 + 3]? = some (.int .i64 (l.getD i pr0).d) ∧ (cellsOfP l)[i * 5 + 4]? = some (.int .i64 (l.getD i pr0).kids)
  | [], i, h => by simp at h
  | s :: l, 0, _ => ⟨rfl, rfl, rfl, rfl, rfl⟩
  | s :: l, i + 1, h => by
    obtain ⟨h1, h2, h3, h4, h5⟩ := cellsOfP_get l i (by simp at h; omega)
    have e : ∀ j, (cellsOfP (s :: l))[(i + 1) * 5 + j]? = (cellsOfP l)[i * 5 + j]? := fun j => by
      simp only [cellsOfP]
      rw [show (i + 1) * 5 + j = i * 5 + j + 1 + 1 + 1 + 1 + 1 by omega]
      simp only [List.getElem?_cons_succ]
    exact ⟨(e 0).trans h1, (e 1).trans h2, (e 2).trans h3, (e 3).trans h4, (e 4).trans h5⟩
/-- A slice value that reads as the list of parts. -/
def SliP (w : World) (v : Value) (l : List Prt) : Prop := ∃ (a : Option Addr) (cap : Nat), v = .slice a l.length cap ∧ l.length ≤ cap ∧ cap ≤ 9223372036854775807 ∧ ArgP w a l
theorem SliP.past {w w' : World} {v : Value} {l : List Prt} (h : SliP w v l) (hb : Below w.heap.size w w') : SliP w' v l := by
  obtain ⟨a, cap, h1, h2, h3, h4⟩ := h
  exact ⟨a, cap, h1, h2, h3, h4.past hb⟩
theorem sliP_nil (w : World) : SliP w (.slice none 0 0) [] := ⟨none, 0, rfl, Nat.le_refl _, by omega, fun h => by simp at h⟩
/-- What a call has appended to reads as a slice. -/
theorem sliP_own {w : World} {base : Nat} {e : TypeId} {v : Value} {l : List Prt} (h : w.ownsRow base e 5 v l.length (cellsOfP l)) : SliP w v l := by
  obtain ⟨h1, h2 | ⟨g, cap, cur, rfl, h3, h4, h5, h6, h7, h8⟩⟩ := h
  · obtain ⟨rfl, h2⟩ := h2
    have : l = [] := List.eq_nil_of_length_eq_zero h2
    subst this
    exact sliP_nil w
  · refine ⟨some ⟨g, 0, none⟩, cap, rfl, h5, by unfold maxLen at h6; omega, fun _ => ⟨g, 0, rfl, lt_of_block h4, fun i hi => ?_⟩⟩
    have hg := cellsOfP_get l i hi
    have hc : ∀ j x, j < l.length * 5 → (cellsOfP l)[j]? = some x → w.cell? ⟨g, j, none⟩ = some x := fun j x hj hx => by
      have e : w.cell? ⟨g, j, none⟩ = cur[j]? := by simp [World.cell?, h4]
      rw [e, ← Array.getElem?_toList]
      rw [← h8, List.getElem?_take, if_pos hj] at hx
      exact hx
    simp only [Nat.zero_add]
    exact ⟨hc _ _ (by omega) hg.1, hc _ _ (by omega) hg.2.1, hc _ _ (by omega) hg.2.2.1, hc _ _ (by omega) hg.2.2.2.1, hc _ _ (by omega) hg.2.2.2.2⟩
/-- A new block of parts reads as a slice. -/
theorem argP_blk {w : World} {p : Nat} {l : List Prt} {t : TypeId} (h : Blk w p (cellsOfP l).toArray t) : ArgP w (some ⟨p, 0, none⟩) l := fun _ =>
  ⟨p, 0, rfl, h.lt, fun i hi => by
    obtain ⟨h1, h2, h3, h4, h5⟩ := cellsOfP_get l i hi
    simp only [Nat.zero_add]
    have q : ∀ j, w.cell? ⟨p, j, none⟩ = (cellsOfP l)[j]? := fun j => (h.cell j).trans (by simp)
    exact ⟨(q _).trans h1, (q _).trans h2, (q _).trans h3, (q _).trans h4, (q _).trans h5⟩⟩
theorem prt_iff {x y : Prt} : x = y ↔ x.kind = y.kind ∧ x.n = y.n ∧ x.g = y.g ∧ x.d = y.d ∧ x.kids = y.kids := by
  obtain ⟨x1, x2, x3, x4, x5⟩ := x
  obtain ⟨y1, y2, y3, y4, y5⟩ := y
  simp
theorem pgetD (l : List Prt) (i : Nat) (h : i < l.length) : l.getD i pr0 = l[i] := by rw [List.getD_eq_getElem?_getD, List.getElem?_eq_getElem h]; rfl
theorem list_extP {l r : List Prt} (h : l.length = r.length) (h2 : ∀ i, i < l.length → l.getD i pr0 = r.getD i pr0) : l = r := by
  apply List.ext_getElem h
  intro i h3 h4
  have := h2 i h3
  rwa [pgetD _ _ h3, pgetD _ _ h4] at this
theorem cellsP_one (l : List Prt) : ∀ u ∈ cellsOfP l, u.oneCell' = true := by
  induction l with
  | nil => intro u h; cases h
  | cons x l ih =>
    intro u h
    simp only [cellsOfP, List.mem_cons] at h
    rcases h with rfl | rfl | rfl | rfl | rfl | h
    · rfl
    · rfl
    · rfl
    · rfl
    · rfl
    · exact ih u h
/-- The cells of a slice of parts, one by one: what an append reads. -/
theorem srcP {w : World} {b off : Nat} {l : List Prt} (h : CellsP w b off l) : ∀ j u, (cellsOfP l)[j]? = some u → w.cell? ((⟨b, off, none⟩ : Addr).add j) = some u := by
  intro j u hu
  have hj := (List.getElem?_eq_some_iff.1 hu).1
  rw [cellsOfP_len] at hj
  have ad : (⟨b, off, none⟩ : Addr).add j = ⟨b, off + j, none⟩ := by
    unfold Addr.add
    by_cases c : j = 0
    · subst c; simp
    · simp [c]
  rw [ad]
  obtain ⟨i, r, hr, rfl⟩ : ∃ i r, r < 5 ∧ j = i * 5 + r := ⟨j / 5, j % 5, Nat.mod_lt _ (by decide), by omega⟩
  have hi : i < l.length := by omega
  obtain ⟨g0, g1, g2, g3, g4⟩ := cellsOfP_get l i hi
  obtain ⟨h0, h1, h2, h3, h4⟩ := h i hi
  have : r = 0 ∨ r = 1 ∨ r = 2 ∨ r = 3 ∨ r = 4 := by omega
  rcases this with rfl | rfl | rfl | rfl | rfl
  · rw [Nat.add_zero] at hu; rw [Nat.add_zero, h0, ← g0, hu]
  · rw [← Nat.add_assoc, h1, ← g1, hu]
  · rw [← Nat.add_assoc, h2, ← g2, hu]
  · rw [← Nat.add_assoc, h3, ← g3, hu]
  · rw [← Nat.add_assoc, h4, ← g4, hu]
theorem cellsP_part {w : World} {b off : Nat} {A B C : List Prt} (h : CellsP w b off (A ++ (B ++ C))) : CellsP w b (off + A.length * 5) B := fun i hi => by
  have h2 := h (A.length + i) (by simp; omega)
  have e : (A ++ (B ++ C)).getD (A.length + i) pr0 = B.getD i pr0 := by
    rw [List.getD_eq_getElem?_getD, List.getD_eq_getElem?_getD, List.getElem?_append_right (by omega), List.getElem?_append_left (by omega)]
    congr 2; omega
  rw [e, show off + (A.length + i) * 5 = off + A.length * 5 + i * 5 by omega] at h2
  exact h2
theorem argP_take {w : World} {a : Option Addr} {l : List Prt} (n : Nat) (h : ArgP w a l) : ArgP w a (l.take n) := fun hl => by
  obtain ⟨b, off, e, h1, h2⟩ := h (by simp at hl; omega)
  refine ⟨b, off, e, h1, fun i hi => ?_⟩
  have hn : i < n ∧ i < l.length := by simp at hi; omega
  have e2 : (l.take n).getD i pr0 = l.getD i pr0 := by rw [List.getD_eq_getElem?_getD, List.getD_eq_getElem?_getD, List.getElem?_take, if_pos hn.1]
  rw [e2]
  exact h2 i hn.2
end Go.Proofs.Ytnifmdeojgfgcaa

namespace Go.Proofs.Ytnifmdeojgfgcaa
open Go.ChangeShapes Go.WideShapes Go.ChangeAt Go.RowKit

instance : Inhabited Prt := ⟨pr0⟩
section
variable {H : Type} {enc : TypeId × Value → H} {P : Program}
theorem wfI64 {n : Int} (h : (Lit.int .i64 n).wf = true) : -9223372036854775808 ≤ n ∧ n ≤ 9223372036854775807 := by simpa [Lit.wf, IntKind.min, IntKind.max, IntKind.signed, IntKind.bits] using h
theorem wfU8 {n : Int} (h : (Lit.int .u8 n).wf = true) : 0 ≤ n ∧ n ≤ 255 := by simpa [Lit.wf, IntKind.min, IntKind.max, IntKind.signed, IntKind.bits] using h
theorem wfU32 {n : Int} (h : (Lit.int .u32 n).wf = true) : 0 ≤ n ∧ n ≤ 4294967295 := by simpa [Lit.wf, IntKind.min, IntKind.max, IntKind.signed, IntKind.bits] using h
theorem open_parts {ts e tk tu ti tn : TypeId} {f0 f1 f2 f3 f4 : Field} {W : World} {v : Value} {x : DataW H × List MemPlace} {fuel : Nat} (hs : P.underlying ts = some (.slice e)) (he : P.underlying e = some (.struct #[f0, f1, f2, f3, f4]))
    (ce : P.cellsOf e = 5) (o0 : f0.offset = 0) (o1 : f1.offset = 1) (o2 : f2.offset = 2) (o3 : f3.offset = 3) (o4 : f4.offset = 4) (t0 : f0.type = tk) (t1 : f1.type = tu) (t2 : f2.type = tu) (t3 : f3.type = ti) (t4 : f4.type = tn)
    (ck : P.cellsOf tk = 1) (cu : P.cellsOf tu = 1) (ci : P.cellsOf ti = 1) (cn : P.cellsOf tn = 1) (hk : P.underlying tk = some (.int .u8)) (hu : P.underlying tu = some (.int .u32)) (hi : P.underlying ti = some (.int .i64)) (hn : P.underlying tn = some (.int .i64))
    (hf : DataW.trod enc P W 0 (fun _ => true) true fuel ts [v] = some x) :
    ∃ (l : List Prt) (a : Option Addr) (cap : Nat), v = .slice a l.length cap ∧ l.length ≤ cap ∧ cap ≤ 9223372036854775807 ∧ ArgP W a l ∧ ∀ x ∈ l, PrtW x := by
  rcases Deep.open_slice hs hf with ⟨hcs, _⟩ | ⟨a', len', cap', m, n, D, Pl, hcs, _, hlc, hcm, hm, _, hx⟩
  · simp at hcs
    exact ⟨[], none, 0, hcs, by simp, by omega, fun h => by simp at h, fun x hx => by simp at hx⟩
  · simp at hcs
    subst hcs
    have hlen : len' ≤ m := by rw [hm]; simpa using hlc
    have each : ∀ i, i < len' → ∃ s : Prt, (W.cell? (a'.add (i * 5)) = some (.int .u8 s.kind) ∧ W.cell? ((a'.add (i * 5)).add 1) = some (.int .u32 s.n) ∧ W.cell? ((a'.add (i * 5)).add 2) = some (.int .u32 s.g) ∧ W.cell? ((a'.add (i * 5)).add 3) = some (.int .i64 s.d) ∧ W.cell? ((a'.add (i * 5)).add 4) = some (.int .i64 s.kids)) ∧ PrtW s := fun i hi' => by
      obtain ⟨cs', hc, ht⟩ := hx i (by omega)
      rw [ce] at hc
      obtain ⟨_, hcl, hat⟩ := World.cells?_some hc
      obtain ⟨ys, n', _, _, hl1, hyl, hfs⟩ := DataW.trod_struct he ht
      have h0 := hfs 0 f0 rfl
      have h1 := hfs 1 f1 rfl
      have h2 := hfs 2 f2 rfl
      have h3 := hfs 3 f3 rfl
      have h4 := hfs 4 f4 rfl
      rw [o0, t0, ck] at h0
      rw [o1, t1, cu] at h1
      rw [o2, t2, cu] at h2
      rw [o3, t3, ci] at h3
      rw [o4, t4, cn] at h4
      match cs', hcl with
      | [c0, c1, c2, c3, c4], _ =>
        match ys, hyl with
        | [y0, y1, y2, y3, y4], _ =>
          simp at h0 h1 h2 h3 h4
          obtain ⟨z0, e0, _, w0⟩ := DataW.trod_int hk h0
          obtain ⟨z1, e1, _, w1⟩ := DataW.trod_int hu h1
          obtain ⟨z2, e2, _, w2⟩ := DataW.trod_int hu h2
          obtain ⟨z3, e3, _, w3⟩ := DataW.trod_int hi h3
          obtain ⟨z4, e4, _, w4⟩ := DataW.trod_int hn h4
          simp at e0 e1 e2 e3 e4
          subst e0 e1 e2 e3 e4
          have a0 := hat 0 (by omega)
          have a1 := hat 1 (by omega)
          have a2 := hat 2 (by omega)
          have a3 := hat 3 (by omega)
          have a4 := hat 4 (by omega)
          simp at a1 a2 a3 a4
          have b0 := wfU8 w0
          have b1 := wfU32 w1
          have b2 := wfU32 w2
          refine ⟨⟨z0.toNat, z1.toNat, z2.toNat, z3, z4⟩, ⟨?_, ?_, ?_, a3, a4⟩, ?_, ?_, ?_, wfI64 w3, wfI64 w4⟩
          · have ea : (a'.add (i * 5)).add 0 = a'.add (i * 5) := by simp [Addr.add]
            rw [ea] at a0
            simp only [Int.toNat_of_nonneg b0.1]
            simpa using a0
          · simp only [Int.toNat_of_nonneg b1.1]; exact a1
          · simp only [Int.toNat_of_nonneg b2.1]; exact a2
          · show z0.toNat ≤ 255; omega
          · show z1.toNat ≤ 4294967295; omega
          · show z2.toNat ≤ 4294967295; omega
    obtain ⟨F, hF⟩ := Deep.choose_lt each
    refine ⟨(List.range len').map F, some a', cap', by simp, by simp; omega, by unfold maxLen at hcm; omega, fun hl => ?_, fun x hx => ?_⟩
    · simp at hl
      have hc00 := (hF 0 hl).1.1
      obtain ⟨b, off, spot⟩ := a'
      have hsp : spot = none := by
        cases spot with
        | none => rfl
        | some s => simp [Addr.add, World.cell?] at hc00; split at hc00 <;> simp at hc00
      subst hsp
      have hb : b < W.heap.size := by
        apply Nat.lt_of_not_le
        intro hge
        simp [Addr.add, World.cell?, Array.getElem?_eq_none hge] at hc00
      refine ⟨b, off, rfl, hb, fun i hi => ?_⟩
      have hi' : i < len' := by simpa using hi
      have hg : ((List.range len').map F).getD i pr0 = F i := by simp [List.getD_eq_getElem?_getD, hi']
      obtain ⟨⟨h1, h2, h3, h4, h5⟩, _⟩ := hF i hi'
      have ad : ∀ x y : Nat, (⟨b, x, none⟩ : Addr).add y = ⟨b, x + y, none⟩ := fun x y => by
        unfold Addr.add
        by_cases c : y = 0
        · subst c; simp
        · simp [c]
      rw [ad] at h1 h2 h3 h4 h5
      rw [ad] at h2 h3 h4 h5
      rw [hg]
      exact ⟨h1, h2, h3, h4, h5⟩
    · rw [List.mem_map] at hx
      obtain ⟨i, hi, rfl⟩ := hx
      exact (hF i (by simpa using hi)).2
end
set_option maxRecDepth 100000 in
theorem cellsPart : Try.prog.cellsOf 42 = 5 := by kernel_rfl
set_option maxRecDepth 100000 in
theorem cellsDef : Try.prog.cellsOf 24 = 3 := by kernel_rfl
set_option maxRecDepth 100000 in
theorem cells4 : Try.prog.cellsOf 5 = 1 ∧ Try.prog.cellsOf 40 = 1 ∧ Try.prog.cellsOf 2 = 1 ∧ Try.prog.cellsOf 3 = 1 := ⟨by kernel_rfl, by kernel_rfl, by kernel_rfl, by kernel_rfl⟩
set_option maxRecDepth 100000 in
/-- For this program. -/
theorem open_defP {H : Type} {enc : TypeId × Value → H} {W : World} {v : Value} {d : DataW H} {p : List MemPlace} {r : Reach} {b0 : Nat} (ho : Value.okWide Try.prog W r b0 24 v) (h : DataW.Trod enc Try.prog W 0 (fun _ => true) true 24 v d p) :
    ∃ (fr to' : Int) (l : List Prt) (a : Option Addr) (cap : Nat), v = defV fr to' a l.length cap ∧ (-9223372036854775808 ≤ fr ∧ fr ≤ 9223372036854775807) ∧ (-9223372036854775808 ≤ to' ∧ to' ≤ 9223372036854775807) ∧ l.length ≤ cap ∧ cap ≤ 9223372036854775807 ∧ ArgP W a l ∧ ∀ x ∈ l, PrtW x := by
  obtain ⟨v0, v1, v2, y0, y1, y2, n, rfl, rfl, rfl, h0, h1, h2⟩ := Joins.open_agg3 (P := Try.prog) Try.underlying24 (by kernel_rfl) cellsDef ho h
  obtain ⟨z0, e0, _, w0⟩ := DataW.trod_int Try.underlying2 h0
  obtain ⟨z1, e1, _, w1⟩ := DataW.trod_int Try.underlying2 h1
  simp at e0 e1
  subst e0 e1
  obtain ⟨l, a, cap, rfl, hl, hc, hA, hp⟩ := open_parts (P := Try.prog) Try.underlying22 Try.underlying42 cellsPart rfl rfl rfl rfl rfl rfl rfl rfl rfl rfl cells4.1 cells4.2.1 cells4.2.2.1 cells4.2.2.2 Try.underlying5 Try.underlying40 Try.underlying2 Try.underlying3 h2
  exact ⟨z0, z1, l, a, cap, rfl, wfI64 w0, wfI64 w1, hl, hc, hA, hp⟩
end Go.Proofs.Ytnifmdeojgfgcaa

namespace Go.Proofs.Ytnifmdeojgfgcaa
open Go.ChangeShapes Go.WideShapes Go.ChangeAt Go.RowKit
attribute [local irreducible] Go.Calls

/-- The cells of a spot, and its value: where, how many are open, and the open ones. -/
abbrev spC (p d : Nat) (O : Nat → Nat × Nat) : Array Value := #[.int .i64 p, .int .i64 d, .int .u8 (O 0).1, .int .i64 (O 0).2, .int .u8 (O 1).1, .int .i64 (O 1).2, .int .u8 (O 2).1, .int .i64 (O 2).2, .int .u8 (O 3).1, .int .i64 (O 3).2, .int .u8 (O 4).1, .int .i64 (O 4).2, .int .u8 (O 5).1, .int .i64 (O 5).2, .int .u8 (O 6).1, .int .i64 (O 6).2, .int .u8 (O 7).1, .int .i64 (O 7).2]
abbrev spV (p d : Nat) (O : Nat → Nat × Nat) : Value := .agg (spC p d O)
set_option maxHeartbeats 1000000 in
theorem rea0_c (p d : Nat) (O : Nat → Nat × Nat) (x : Prt) (w : World) : Calls Try.prog 33 #[spV p d O, prtV x] w fun e w' => e = .returned (.bool (reasS p d O x 0)) ∧ Below w.heap.size w w' := by
  obtain ⟨kd, n, g, dd, ks⟩ := x
  show Calls _ _ _ _ fun e w' => e = .returned (.bool (decide (0 < p) && decide (d = 0))) ∧ Below w.heap.size w w'
  simp only [spV, spC]
  generalize O 0 = o0; generalize O 1 = o1; generalize O 2 = o2; generalize O 3 = o3; generalize O 4 = o4; generalize O 5 = o5; generalize O 6 = o6; generalize O 7 = o7
  go_enter Try.func33, Try.ntmps33
  go_wp2
  all_goals
    go_ret
    refine ⟨ret_bool ?_, by (repeat (first | exact Below.refl _ _ | assumption | refine balloc ?_ _ | refine below_drewN ?_ _ | refine bstep (by assumption) ?_ | refine bstep (Past.prop _) ?_ | refine Below.setCell ?_ (by first | exact Nat.le_refl _ | (simp; done) | (simp; omega)) _))⟩
    first | (symm; apply decide_eq_true; omega) | (symm; apply decide_eq_false; omega) | (rw [Bool.eq_iff_iff]; simp only [Bool.and_eq_true, decide_eq_true_eq, beq_iff_eq]; omega) | (simp_all; done) | (rw [Bool.eq_iff_iff]; simp_all; omega)
theorem rea1_c (p d : Nat) (O : Nat → Nat × Nat) (x : Prt) (w : World) : Calls Try.prog 34 #[spV p d O, prtV x] w fun e w' => e = .returned (.bool (reasS p d O x 1)) ∧ Below w.heap.size w w' := by
  obtain ⟨kd, n, g, dd, ks⟩ := x
  show Calls _ _ _ _ fun e w' => e = .returned (.bool (decide (64 ≤ p))) ∧ Below w.heap.size w w'
  simp only [spV, spC]
  generalize O 0 = o0; generalize O 1 = o1; generalize O 2 = o2; generalize O 3 = o3; generalize O 4 = o4; generalize O 5 = o5; generalize O 6 = o6; generalize O 7 = o7
  go_enter Try.func34, Try.ntmps34
  go_wp2
  all_goals
    go_ret
    refine ⟨ret_bool ?_, by (repeat (first | exact Below.refl _ _ | assumption | refine balloc ?_ _ | refine below_drewN ?_ _ | refine bstep (by assumption) ?_ | refine bstep (Past.prop _) ?_ | refine Below.setCell ?_ (by first | exact Nat.le_refl _ | (simp; done) | (simp; omega)) _))⟩
    first | (symm; apply decide_eq_true; omega) | (symm; apply decide_eq_false; omega) | (rw [Bool.eq_iff_iff]; simp only [decide_eq_true_eq]; omega) | (simp_all; done) | (rw [Bool.eq_iff_iff]; simp_all; omega)
theorem rea4_c (p d : Nat) (O : Nat → Nat × Nat) (x : Prt) (w : World) : Calls Try.prog 37 #[spV p d O, prtV x] w fun e w' => e = .returned (.bool (reasS p d O x 4)) ∧ Below w.heap.size w w' := by
  obtain ⟨kd, n, g, dd, ks⟩ := x
  show Calls _ _ _ _ fun e w' => e = .returned (.bool (decide (8 ≤ d))) ∧ Below w.heap.size w w'
  simp only [spV, spC]
  generalize O 0 = o0; generalize O 1 = o1; generalize O 2 = o2; generalize O 3 = o3; generalize O 4 = o4; generalize O 5 = o5; generalize O 6 = o6; generalize O 7 = o7
  go_enter Try.func37, Try.ntmps37
  go_wp2
  all_goals
    go_ret
    refine ⟨ret_bool ?_, by (repeat (first | exact Below.refl _ _ | assumption | refine balloc ?_ _ | refine below_drewN ?_ _ | refine bstep (by assumption) ?_ | refine bstep (Past.prop _) ?_ | refine Below.setCell ?_ (by first | exact Nat.le_refl _ | (simp; done) | (simp; omega)) _))⟩
    first | (symm; apply decide_eq_true; omega) | (symm; apply decide_eq_false; omega) | (rw [Bool.eq_iff_iff]; simp only [decide_eq_true_eq]; omega) | (simp_all; done) | (rw [Bool.eq_iff_iff]; simp_all; omega)
set_option maxHeartbeats 2000000 in
theorem rea2_c (p d : Nat) (O : Nat → Nat × Nat) (x : Prt) (w : World) : Calls Try.prog 35 #[spV p d O, prtV x] w fun e w' => e = .returned (.bool (reasS p d O x 2)) ∧ Below w.heap.size w w' := by
  obtain ⟨kd, n, g, dd, ks⟩ := x
  show Calls _ _ _ _ fun e w' => e = .returned (.bool (badP ⟨kd, n, g, dd, ks⟩)) ∧ Below w.heap.size w w'
  simp only [spV, spC]
  generalize O 0 = o0; generalize O 1 = o1; generalize O 2 = o2; generalize O 3 = o3; generalize O 4 = o4; generalize O 5 = o5; generalize O 6 = o6; generalize O 7 = o7
  by_cases hk : kd = 0
  · have HE := hidE (show badP ⟨kd, n, g, dd, ks⟩ = decide (ks ≠ 0 ∨ n = 0 ∨ 4096 < n ∨ g = 0 ∨ n < g ∨ n % g ≠ 0 ∨ dd < 1 ∨ 4096 < dd) by unfold badP; rw [if_pos hk])
    rw [HE.out]
    have k1 : ((kd : Int) == 0) = true := by simp [hk]
    have k0 : decide ((kd : Int) > 4) = false := decide_eq_false (by omega)
    have k2 : decide (4 < kd) = false := decide_eq_false (by omega)
    have hmod : (n : Int).tmod (g : Int) = ((n % g : Nat) : Int) := by rw [Int.tmod_eq_emod_of_nonneg (by omega)]; omega
    clear HE hk
    go_enter Try.func35, Try.ntmps35
    go_wp2
    all_goals
      go_ret
      refine ⟨ret_bool ?_, by (repeat (first | exact Below.refl _ _ | assumption | refine balloc ?_ _ | refine below_drewN ?_ _ | refine bstep (by assumption) ?_ | refine bstep (Past.prop _) ?_ | refine Below.setCell ?_ (by first | exact Nat.le_refl _ | (simp; done) | (simp; omega)) _))⟩
      first | (symm; apply decide_eq_true; omega) | (symm; apply decide_eq_false; omega) | (rw [Bool.eq_iff_iff]; simp only [decide_eq_true_eq, ne_eq]; omega) | (simp_all; done) | (rw [Bool.eq_iff_iff]; simp_all; omega)
  · have HE := hidE (show badP ⟨kd, n, g, dd, ks⟩ = decide (4 < kd ∨ ks < 1 ∨ 16 < ks ∨ n ≠ 0 ∨ g ≠ 0 ∨ dd ≠ 0) by unfold badP; rw [if_neg hk])
    rw [HE.out]
    have k1 : ((kd : Int) == 0) = false := by simp; omega
    clear HE hk
    go_enter Try.func35, Try.ntmps35
    go_wp2
    all_goals
      go_ret
      refine ⟨ret_bool ?_, by (repeat (first | exact Below.refl _ _ | assumption | refine balloc ?_ _ | refine below_drewN ?_ _ | refine bstep (by assumption) ?_ | refine bstep (Past.prop _) ?_ | refine Below.setCell ?_ (by first | exact Nat.le_refl _ | (simp; done) | (simp; omega)) _))⟩
      first | (symm; apply decide_eq_true; omega) | (symm; apply decide_eq_false; omega) | (rw [Bool.eq_iff_iff]; simp only [decide_eq_true_eq, ne_eq]; omega) | (simp_all; done) | (rw [Bool.eq_iff_iff]; simp_all; omega)
set_option maxHeartbeats 2000000 in
theorem rea3_c (p d : Nat) (O : Nat → Nat × Nat) (x : Prt) (w : World) (hd : d ≤ 8) : Calls Try.prog 36 #[spV p d O, prtV x] w fun e w' => e = .returned (.bool (reasS p d O x 3)) ∧ Below w.heap.size w w' := by
  obtain ⟨kd, n, g, dd, ks⟩ := x
  show Calls _ _ _ _ fun e w' => e = .returned (.bool (decide (0 < d) && (decide ((O (d - 1)).1 = 2) && decide (kd ≠ 0)))) ∧ Below w.heap.size w w'
  rcases (show d = 0 ∨ d = 1 ∨ d = 2 ∨ d = 3 ∨ d = 4 ∨ d = 5 ∨ d = 6 ∨ d = 7 ∨ d = 8 by omega) with rfl | rfl | rfl | rfl | rfl | rfl | rfl | rfl | rfl
  all_goals
    simp only [Nat.reduceSub]
    simp only [spV, spC]
    generalize O 0 = o0; generalize O 1 = o1; generalize O 2 = o2; generalize O 3 = o3; generalize O 4 = o4; generalize O 5 = o5; generalize O 6 = o6; generalize O 7 = o7
    go_enter Try.func36, Try.ntmps36
    go_wp2
    all_goals
      go_ret
      refine ⟨ret_bool ?_, by (repeat (first | exact Below.refl _ _ | assumption | refine balloc ?_ _ | refine below_drewN ?_ _ | refine bstep (by assumption) ?_ | refine bstep (Past.prop _) ?_ | refine Below.setCell ?_ (by first | exact Nat.le_refl _ | (simp; done) | (simp; omega)) _))⟩
      first | (symm; apply decide_eq_true; omega) | (symm; apply decide_eq_false; omega) | (rw [Bool.eq_iff_iff]; simp only [Bool.and_eq_true, decide_eq_true_eq, bne_iff_ne, ne_eq]; omega) | (simp_all; done) | (rw [Bool.eq_iff_iff]; simp_all; omega)
end Go.Proofs.Ytnifmdeojgfgcaa

namespace Go.Proofs.Ytnifmdeojgfgcaa
open Go.ChangeShapes Go.WideShapes Go.ChangeAt Go.RowKit

theorem Blk.range {w : World} {k : Nat} {cs : Array Value} {t : TypeId} (h : Blk w k cs t) : w.rangeAt k 0 cs.toList := fun j v hv => by
  rw [Nat.zero_add, h.cell j]
  simpa using hv
theorem Blk.there {w : World} {k : Nat} {cs : Array Value} {t : TypeId} (h : Blk w k cs t) : w.there k 0 cs.size := fun j hj => by
  rw [Nat.zero_add, h.cell j]
  exact ⟨by simp [hj], h.free j⟩
theorem Blk.setCells_other {w : World} {k b : Nat} {cs : Array Value} {t : TypeId} (h : Blk w k cs t) (hb : k ≠ b) : ∀ (vs : List Value) (o : Nat), Blk (w.setCells b o vs) k cs t := by
  intro vs
  induction vs generalizing w with
  | nil => intro o; exact h
  | cons v r ih => intro o; exact ih (h.other hb v) (o + 1)
def setAll (cs : Array Value) : Nat → List Value → Array Value
  | _, [] => cs
  | o, v :: r => setAll (cs.setIfInBounds o v) (o + 1) r
theorem Blk.setCells {w : World} {k : Nat} {cs : Array Value} {t : TypeId} (h : Blk w k cs t) : ∀ (vs : List Value) (o : Nat), Blk (w.setCells k o vs) k (setAll cs o vs) t := by
  intro vs
  induction vs generalizing w cs with
  | nil => intro o; exact h
  | cons v r ih => intro o; exact ih (h.set o v) (o + 1)
theorem below_setCells {B k : Nat} {w w' : World} (h : Below B w w') (hk : B ≤ k) : ∀ (vs : List Value) (o : Nat), Below B w (w'.setCells k o vs) := by
  intro vs
  induction vs generalizing w' with
  | nil => intro o; exact h
  | cons v r ih => intro o; exact ih (h.setCell (p := ⟨k, o, none⟩) hk v) (o + 1)
/-- A result that is kept in a cell. -/
theorem results_cell {P : Program} {fn : Func} {tmps : Array Value} {w : World} {a : Nat} {t : TypeId} {x : Addr} {v : Value} (hr : fn.results = #[.cell a t]) (ha : tmps.getD a undef = .pointer (some x)) (h : (loadVar t x).run P w = .ok v w) : (results fn tmps).run P w = .ok v w := by
  unfold results
  rw [hr]
  have ha' : tmps[a]?.getD undef = .pointer (some x) := by simpa using ha
  simp [ha', asAddr, h]
end Go.Proofs.Ytnifmdeojgfgcaa

namespace Go.Proofs.Ytnifmdeojgfgcaa
open Go.ChangeShapes Go.WideShapes Go.ChangeAt Go.RowKit
attribute [local irreducible] Go.Calls

abbrev spZ : Array Value := #[.int .i64 0, .int .i64 0, .int .u8 0, .int .i64 0, .int .u8 0, .int .i64 0, .int .u8 0, .int .i64 0, .int .u8 0, .int .i64 0, .int .u8 0, .int .i64 0, .int .u8 0, .int .i64 0, .int .u8 0, .int .i64 0, .int .u8 0, .int .i64 0]
theorem Try.infoSpot : (Try.prog.info? 63).map (·.size) = some 18 := by kernel_rfl
theorem Try.undSpot : ∃ d, Try.prog.underlying 63 = some d ∧ d.isRow = true := ⟨_, Try.underlying63, rfl⟩
theorem spC_all (p d q e : Nat) (O O' : Nat → Nat × Nat) : setAll (spC p d O) 0 (spC q e O').toList = spC q e O' := by simp [setAll, spC]
theorem spC_allZ (q e : Nat) (O' : Nat → Nat × Nat) : setAll spZ 0 (spC q e O').toList = spC q e O' := by simp [setAll, spC, spZ]
theorem spC_one (p d : Nat) (O : Nat → Nat × Nat) : (spC p d O).all (·.oneCell') = true := by simp [Value.oneCell']
theorem spC_at (p d : Nat) (O : Nat → Nat × Nat) {m : Nat} (h : m < 8) : (spC p d O)[2 + m * 2]? = some (.int .u8 (O m).1) ∧ (spC p d O)[2 + m * 2 + 1]? = some (.int .i64 (O m).2) := by
  rcases (show m = 0 ∨ m = 1 ∨ m = 2 ∨ m = 3 ∨ m = 4 ∨ m = 5 ∨ m = 6 ∨ m = 7 by omega) with rfl | rfl | rfl | rfl | rfl | rfl | rfl | rfl <;> exact ⟨rfl, rfl⟩
theorem spC_set0 (p d : Nat) (O : Nat → Nat × Nat) (z : Int) (q : Nat) (h : z = q) : (spC p d O).setIfInBounds 0 (.int .i64 z) = spC q d O := by subst h; rfl
theorem spC_set1 (p d : Nat) (O : Nat → Nat × Nat) (z : Int) (q : Nat) (h : z = q) : (spC p d O).setIfInBounds 1 (.int .i64 z) = spC p q O := by subst h; rfl
theorem spC_left (p d : Nat) (O : Nat → Nat × Nat) {m : Nat} (hm : m < 8) (z : Int) (q : Nat) (h : z = q) : (spC p d O).setIfInBounds (2 + m * 2 + 1) (.int .i64 z) = spC p d (putO O m ((O m).1, q)) := by
  subst h
  rcases (show m = 0 ∨ m = 1 ∨ m = 2 ∨ m = 3 ∨ m = 4 ∨ m = 5 ∨ m = 6 ∨ m = 7 by omega) with rfl | rfl | rfl | rfl | rfl | rfl | rfl | rfl <;> rfl
theorem spC_put (p d : Nat) (O : Nat → Nat × Nat) {m : Nat} (hm : m < 8) (k : Nat) (z : Int) (q : Nat) (h : z = q) : ((spC p d O).setIfInBounds (2 + m * 2) (.int .u8 k)).setIfInBounds (2 + m * 2 + 1) (.int .i64 z) = spC p d (putO O m (k, q)) := by
  subst h
  rcases (show m = 0 ∨ m = 1 ∨ m = 2 ∨ m = 3 ∨ m = 4 ∨ m = 5 ∨ m = 6 ∨ m = 7 by omega) with rfl | rfl | rfl | rfl | rfl | rfl | rfl | rfl <;> rfl
theorem popN_stop {O : Nat → Nat × Nat} {d : Nat} (h : (O d).2 ≠ 0) : popN O (d + 1) = d + 1 := if_neg h
theorem popN_go {O : Nat → Nat × Nat} {d : Nat} (h : (O d).2 = 0) : popN O (d + 1) = popN O d := if_pos h
set_option maxRecDepth 100000 in
set_option maxHeartbeats 4000000 in
theorem beh8_c (p d : Nat) (O : Nat → Nat × Nat) (x : Prt) (w : World) (hp : p < 4611686018427387904) (hd : d ≤ 8) (hd2 : x.kind ≠ 0 → d < 8) (ht : d = 0 ∨ (O (d - 1)).2 ≠ 0) (hn : ∀ i, (O i).2 ≤ 16) (hk : 0 ≤ x.kids ∧ x.kids ≤ 16) :
    Calls Try.prog 30 #[spV p d O, prtV x] w fun e w' => e = .returned (spV (p + 1) (popN (nextO d O x) (nextD d x)) (nextO d O x)) ∧ Below w.heap.size w w' := by
  obtain ⟨O2, hO2⟩ : ∃ O2, O2 = nextO d O x := ⟨_, rfl⟩
  obtain ⟨D2, hD2⟩ : ∃ D2, D2 = nextD d x := ⟨_, rfl⟩
  have hD8 : D2 ≤ 8 := by
    rw [hD2]; unfold nextD
    split
    · exact hd
    · have := hd2 (by assumption); omega
  have hO16 : ∀ i, (O2 i).2 ≤ 16 := by
    intro i
    have hr : ∀ i, (rowO d O i).2 ≤ 16 := fun i => by
      unfold rowO
      split
      · exact hn i
      · unfold putO
        split
        · have := hn (d - 1); simp only; omega
        · exact hn i
    rw [hO2]; unfold nextO
    split
    · exact hr i
    · unfold putO
      split
      · simp only; omega
      · exact hr i
  rw [← hO2, ← hD2]
  obtain ⟨kd, n, g, dd, ks⟩ := x
  simp only at hk hd2
  obtain ⟨K, rfl⟩ : ∃ K : Nat, ks = (K : Int) := ⟨ks.toNat, by omega⟩
  go_enter Try.func30, Try.ntmps30
  go_upto_region 1 with fail
  obtain ⟨w1, hw1⟩ : ∃ w1, w1 = ((w.alloc (.cells (spC p d O) 63)).alloc (.cells #[.int .u8 kd, .int .u32 n, .int .u32 g, .int .i64 dd, .int .i64 K] 42)).alloc (.cells spZ 63) := ⟨_, rfl⟩
  have HB : Blk w1 w.heap.size (spC p d O) 63 := hw1 ▸ ((Blk.made w _ _).alloc _).alloc _
  have HP : Blk w1 (w.heap.size + 1) #[.int .u8 kd, .int .u32 n, .int .u32 g, .int .i64 dd, .int .i64 K] 42 := hw1 ▸ (Blk.made_at (w.alloc (.cells (spC p d O) 63)) _ _ (w.heap.size + 1) (by simp)).alloc _
  have HR : Blk w1 (w.heap.size + 1 + 1) spZ 63 := hw1 ▸ Blk.made_at _ _ _ (w.heap.size + 1 + 1) (by simp)
  have hb : Below w.heap.size w w1 := hw1 ▸ (by (repeat (first | exact Below.refl _ _ | assumption | refine balloc ?_ _ | refine below_drewN ?_ _ | refine bstep (by assumption) ?_ | refine bstep (Past.prop _) ?_ | refine Below.setCell ?_ (by first | exact Nat.le_refl _ | (simp; done) | (simp; omega)) _)))
  rw [← hw1]
  clear hw1
  have c0 : w1.cell? ⟨w.heap.size, 0, none⟩ = some (.int .i64 p) := HB.cell 0
  have f0 := HB.free; have z0 := HB.lt
  have p64 : IntKind.i64.wrap ((p : Int) + 1) = (p : Int) + 1 := IntWalk.i64_in _ (by omega)
  have H := hidE (And.intro HB (And.intro HP (And.intro HR hb)))
  clear HB HP HR hb
  go_upto_region 2 with fail
  obtain ⟨HB, HP, HR, hb⟩ := H.out
  obtain ⟨w2, hw2⟩ : ∃ w2, w2 = w1.setCell ⟨w.heap.size, 0, none⟩ (.int .i64 ((p : Int) + 1)) := ⟨_, rfl⟩
  replace HB : Blk w2 w.heap.size (spC (p + 1) d O) 63 := hw2 ▸ spC_set0 p d O ((p : Int) + 1) (p + 1) (by omega) ▸ HB.set 0 _
  replace HP : Blk w2 (w.heap.size + 1) #[.int .u8 kd, .int .u32 n, .int .u32 g, .int .i64 dd, .int .i64 K] 42 := hw2 ▸ HP.other (by omega) _
  replace HR : Blk w2 (w.heap.size + 1 + 1) spZ 63 := hw2 ▸ HR.other (by omega) _
  replace hb : Below w.heap.size w w2 := hw2 ▸ hb.setCell (p := ⟨w.heap.size, 0, none⟩) (Nat.le_refl _) _
  rw [← hw2]
  clear hw2 H c0 f0 z0 p64 w1
  by_cases hd0 : d = 0
  · have hO : rowO d O = O := if_pos hd0
    have c1 : w2.cell? ⟨w.heap.size, 1, none⟩ = some (.int .i64 d) := HB.cell 1
    have z0 := HB.lt
    have q1 : decide ((d : Int) > 0) = false := decide_eq_false (by omega)
    have q1' : decide (0 < d) = false := decide_eq_false (by omega)
    clear hd0
    have H := hidE (And.intro HB (And.intro HP (And.intro HR hb)))
    clear HB HP HR hb
    go_upto_region 4 with fail
    obtain ⟨HB, HP, HR, hb⟩ := H.out
    clear H c1 z0 q1 q1'
    rw [← hO] at HB
    clear hO
    obtain ⟨w3, hw3⟩ : ∃ w3, w3 = w2 := ⟨_, rfl⟩
    rw [← hw3] at HB HP HR hb
    rw [← hw3]
    clear hw3 w2
    have k0 : w3.cell? ⟨w.heap.size + 1, 0, none⟩ = some (.int .u8 kd) := HP.cell 0
    have z0 := HB.lt; have z1 := HP.lt
    by_cases hkd : kd = 0
    · have hO2' := hidE (show O2 = rowO d O from hO2.trans (if_pos hkd))
      have hD2' := hidE (show D2 = d from hD2.trans (if_pos hkd))
      have r1 : ((kd : Int) != 0) = false := by rw [hkd]; rfl
      clear hO2 hD2 hkd
      have H := hidE (And.intro HB (And.intro HP (And.intro HR hb)))
      clear HB HP HR hb
      go_wp2_with fail
      go_loopg [] D2 (fun gh wr => ∃ D' : Nat, D' ≤ D2 ∧ D' ≤ gh ∧ popN O2 D' = popN O2 D2 ∧ Blk wr w.heap.size (spC (p + 1) D' O2) 63 ∧ Blk wr (w.heap.size + 1 + 1) spZ 63 ∧ Below w.heap.size w wr)
      case atStart =>
        obtain ⟨HB, HP, HR, hb⟩ := H.out
        exact ⟨D2, Nat.le_refl _, Nat.le_refl _, rfl, by rw [hO2'.out, hD2'.out]; exact HB, HR, hb⟩
      case round =>
        obtain ⟨D', hDD, hgh, hpop, HB, HR, hb⟩ := hrel
        by_cases h0 : D' = 0
        · subst h0
          have HPE := hidE (show popN O2 D2 = 0 from hpop.symm)
          have z0 := HB.lt
          have H := hidE (And.intro HB (And.intro HR hb))
          have c1 : wr.cell? ⟨w.heap.size, 1, none⟩ = some (.int .i64 0) := HB.cell 1
          clear HB HR hb hpop
          go_upto_region 9 with fail
          obtain ⟨HB, HR, hb⟩ := H.out
          obtain ⟨ds, hu, hd⟩ := Try.undSpot
          refine wp_region_lit (wpList_load_mid rfl 63 (.tmp 2) rfl w.heap.size 0 rfl (spC (p + 1) (0) O2).toList ds HB.range hu hd Try.infoSpot ?_)
          refine wpList_store_mid rfl 63 (.tmp 4) (.tmp 56) rfl (w.heap.size + 1 + 1) 0 (spC (p + 1) (0) O2) rfl rfl HR.there Try.infoSpot (spC_one _ _ _) ?_
          have HF := spC_allZ (p + 1) (0) O2 ▸ HR.setCells (spC (p + 1) (0) O2).toList 0
          have hbF := below_setCells hb (show w.heap.size ≤ w.heap.size + 1 + 1 by omega) (spC (p + 1) (0) O2).toList 0
          generalize World.setCells wr _ _ _ = wz at *
          clear H HB HR hb
          go_wp2
          refine bodyPost_ret (v := spV (p + 1) (0) O2) ?_ rfl ⟨by rw [HPE.out], hbF⟩
          exact results_cell (fn := Try.f30) Try.results30 rfl (run_loadVar_mid wz (w.heap.size + 1 + 1) 0 63 (spC (p + 1) (0) O2).toList ds HF.range hu hd Try.infoSpot)
        · obtain ⟨m', rfl⟩ : ∃ m', D' = m' + 1 := ⟨D' - 1, by omega⟩
          have hm8 : m' < 8 := by omega
          have hn' := hO16 m'
          have c1 : wr.cell? ⟨w.heap.size, 1, none⟩ = some (.int .i64 ((m' : Int) + 1)) := (HB.cell 1).trans (by simp)
          have cL : wr.cell? ⟨w.heap.size, 2 + m' * 2 + 1, none⟩ = some (.int .i64 (O2 m').2) := (HB.cell _).trans (spC_at _ _ _ hm8).2
          have f0 := HB.free; have z0 := HB.lt
          have q1 : decide ((m' : Int) + 1 > 0) = true := decide_eq_true (by omega)
          have q2 : IntKind.i64.wrap ((m' : Int) + 1 - 1) = (m' : Int) := by rw [Int.add_sub_cancel]; exact IntWalk.i64_in _ (by omega)
          by_cases hz : (O2 m').2 = 0
          · have q3 : (((O2 m').2 : Int) == 0) = true := by rw [hz]; rfl
            have HG := hidE hgh
            have HPO := hidE ((popN_go hz).symm.trans hpop)
            have H := hidE (And.intro HB (And.intro HR hb))
            clear HB HR hb hgh hpop hz
            go_wp2
            go_roundg m'
            case measure => have := HG.out; omega
            case rel =>
              obtain ⟨HB, HR, hb⟩ := H.out
              exact ⟨m', by omega, Nat.le_refl _, HPO.out, spC_set1 (p + 1) (m' + 1) O2 (m' : Int) m' rfl ▸ HB.set 1 _, HR.other (by omega) _, hb.setCell (p := ⟨w.heap.size, 1, none⟩) (Nat.le_refl _) _⟩
          · have q3 : (((O2 m').2 : Int) == 0) = false := beq_eq_false_iff_ne.2 (by omega)
            have hst := popN_stop hz
            have HPE := hidE (show popN O2 D2 = m' + 1 from hpop.symm.trans hst)
            have z0 := HB.lt
            have H := hidE (And.intro HB (And.intro HR hb))
            clear HB HR hb hpop
            go_upto_region 9 with fail
            obtain ⟨HB, HR, hb⟩ := H.out
            obtain ⟨ds, hu, hd⟩ := Try.undSpot
            refine wp_region_lit (wpList_load_mid rfl 63 (.tmp 2) rfl w.heap.size 0 rfl (spC (p + 1) (m' + 1) O2).toList ds HB.range hu hd Try.infoSpot ?_)
            refine wpList_store_mid rfl 63 (.tmp 4) (.tmp 56) rfl (w.heap.size + 1 + 1) 0 (spC (p + 1) (m' + 1) O2) rfl rfl HR.there Try.infoSpot (spC_one _ _ _) ?_
            have HF := spC_allZ (p + 1) (m' + 1) O2 ▸ HR.setCells (spC (p + 1) (m' + 1) O2).toList 0
            have hbF := below_setCells hb (show w.heap.size ≤ w.heap.size + 1 + 1 by omega) (spC (p + 1) (m' + 1) O2).toList 0
            generalize World.setCells wr _ _ _ = wz at *
            clear H HB HR hb
            go_wp2
            refine bodyPost_ret (v := spV (p + 1) (m' + 1) O2) ?_ rfl ⟨by rw [HPE.out], hbF⟩
            exact results_cell (fn := Try.f30) Try.results30 rfl (run_loadVar_mid wz (w.heap.size + 1 + 1) 0 63 (spC (p + 1) (m' + 1) O2).toList ds HF.range hu hd Try.infoSpot)
    · have hd8 := hd2 hkd
      have hO2' := hidE (show O2 = putO (rowO d O) d (kd, K) from hO2.trans (if_neg hkd))
      have hD2' := hidE (show D2 = d + 1 from hD2.trans (if_neg hkd))
      have r1 : ((kd : Int) != 0) = true := bne_iff_ne.2 (by omega)
      have c1 : w3.cell? ⟨w.heap.size, 1, none⟩ = some (.int .i64 d) := HB.cell 1
      have k4 : w3.cell? ⟨w.heap.size + 1, 4, none⟩ = some (.int .i64 K) := HP.cell 4
      have f0 := HB.free
      have cA : w3.cell? ⟨w.heap.size, 2 + d * 2, none⟩ = some (.int .u8 (rowO d O d).1) := (HB.cell _).trans (spC_at _ _ _ hd8).1
      have cB : w3.cell? ⟨w.heap.size, 2 + d * 2 + 1, none⟩ = some (.int .i64 (rowO d O d).2) := (HB.cell _).trans (spC_at _ _ _ hd8).2
      have q4 : IntKind.i64.wrap ((d : Int) + 1) = (d : Int) + 1 := IntWalk.i64_in _ (by omega)
      clear hO2 hD2 hkd
      have H := hidE (And.intro HB (And.intro HP (And.intro HR hb)))
      clear HB HP HR hb
      go_upto_region 6 with fail
      obtain ⟨HB, HP, HR, hb⟩ := H.out
      obtain ⟨w4, hw4⟩ : ∃ w4, w4 = (w3.setCell ⟨w.heap.size, 2 + d * 2, none⟩ (.int .u8 kd)).setCell ⟨w.heap.size, 2 + d * 2 + 1, none⟩ (.int .i64 K) := ⟨_, rfl⟩
      replace HB : Blk w4 w.heap.size (spC (p + 1) d O2) 63 := hw4 ▸ hO2'.out ▸ spC_put (p + 1) d (rowO d O) hd8 kd K K rfl ▸ (HB.set _ _).set _ _
      replace HR : Blk w4 (w.heap.size + 1 + 1) spZ 63 := hw4 ▸ (HR.other (by omega) _).other (by omega) _
      replace hb : Below w.heap.size w w4 := hw4 ▸ (hb.setCell (p := ⟨w.heap.size, _, none⟩) (Nat.le_refl _) _).setCell (p := ⟨w.heap.size, _, none⟩) (Nat.le_refl _) _
      rw [← hw4]
      clear hw4 H c1 cA cB f0 z0 k0 k4 z1 HP w3
      have c1 : w4.cell? ⟨w.heap.size, 1, none⟩ = some (.int .i64 d) := HB.cell 1
      have f0 := HB.free; have z0 := HB.lt
      have H := hidE (And.intro HB (And.intro HR hb))
      clear HB HR hb
      go_wp2_with fail
      go_loopg [] D2 (fun gh wr => ∃ D' : Nat, D' ≤ D2 ∧ D' ≤ gh ∧ popN O2 D' = popN O2 D2 ∧ Blk wr w.heap.size (spC (p + 1) D' O2) 63 ∧ Blk wr (w.heap.size + 1 + 1) spZ 63 ∧ Below w.heap.size w wr)
      case atStart =>
        obtain ⟨HB, HR, hb⟩ := H.out
        exact ⟨D2, Nat.le_refl _, Nat.le_refl _, rfl, spC_set1 (p + 1) d O2 ((d : Int) + 1) D2 (by rw [hD2'.out]; omega) ▸ HB.set 1 _, HR.other (by omega) _, hb.setCell (p := ⟨w.heap.size, 1, none⟩) (Nat.le_refl _) _⟩
      case round =>
        obtain ⟨D', hDD, hgh, hpop, HB, HR, hb⟩ := hrel
        by_cases h0 : D' = 0
        · subst h0
          have HPE := hidE (show popN O2 D2 = 0 from hpop.symm)
          have z0 := HB.lt
          have H := hidE (And.intro HB (And.intro HR hb))
          have c1 : wr.cell? ⟨w.heap.size, 1, none⟩ = some (.int .i64 0) := HB.cell 1
          clear HB HR hb hpop
          go_upto_region 9 with fail
          obtain ⟨HB, HR, hb⟩ := H.out
          obtain ⟨ds, hu, hd⟩ := Try.undSpot
          refine wp_region_lit (wpList_load_mid rfl 63 (.tmp 2) rfl w.heap.size 0 rfl (spC (p + 1) (0) O2).toList ds HB.range hu hd Try.infoSpot ?_)
          refine wpList_store_mid rfl 63 (.tmp 4) (.tmp 56) rfl (w.heap.size + 1 + 1) 0 (spC (p + 1) (0) O2) rfl rfl HR.there Try.infoSpot (spC_one _ _ _) ?_
          have HF := spC_allZ (p + 1) (0) O2 ▸ HR.setCells (spC (p + 1) (0) O2).toList 0
          have hbF := below_setCells hb (show w.heap.size ≤ w.heap.size + 1 + 1 by omega) (spC (p + 1) (0) O2).toList 0
          generalize World.setCells wr _ _ _ = wz at *
          clear H HB HR hb
          go_wp2
          refine bodyPost_ret (v := spV (p + 1) (0) O2) ?_ rfl ⟨by rw [HPE.out], hbF⟩
          exact results_cell (fn := Try.f30) Try.results30 rfl (run_loadVar_mid wz (w.heap.size + 1 + 1) 0 63 (spC (p + 1) (0) O2).toList ds HF.range hu hd Try.infoSpot)
        · obtain ⟨m', rfl⟩ : ∃ m', D' = m' + 1 := ⟨D' - 1, by omega⟩
          have hm8 : m' < 8 := by omega
          have hn' := hO16 m'
          have c1 : wr.cell? ⟨w.heap.size, 1, none⟩ = some (.int .i64 ((m' : Int) + 1)) := (HB.cell 1).trans (by simp)
          have cL : wr.cell? ⟨w.heap.size, 2 + m' * 2 + 1, none⟩ = some (.int .i64 (O2 m').2) := (HB.cell _).trans (spC_at _ _ _ hm8).2
          have f0 := HB.free; have z0 := HB.lt
          have q1 : decide ((m' : Int) + 1 > 0) = true := decide_eq_true (by omega)
          have q2 : IntKind.i64.wrap ((m' : Int) + 1 - 1) = (m' : Int) := by rw [Int.add_sub_cancel]; exact IntWalk.i64_in _ (by omega)
          by_cases hz : (O2 m').2 = 0
          · have q3 : (((O2 m').2 : Int) == 0) = true := by rw [hz]; rfl
            have HG := hidE hgh
            have HPO := hidE ((popN_go hz).symm.trans hpop)
            have H := hidE (And.intro HB (And.intro HR hb))
            clear HB HR hb hgh hpop hz
            go_wp2
            go_roundg m'
            case measure => have := HG.out; omega
            case rel =>
              obtain ⟨HB, HR, hb⟩ := H.out
              exact ⟨m', by omega, Nat.le_refl _, HPO.out, spC_set1 (p + 1) (m' + 1) O2 (m' : Int) m' rfl ▸ HB.set 1 _, HR.other (by omega) _, hb.setCell (p := ⟨w.heap.size, 1, none⟩) (Nat.le_refl _) _⟩
          · have q3 : (((O2 m').2 : Int) == 0) = false := beq_eq_false_iff_ne.2 (by omega)
            have hst := popN_stop hz
            have HPE := hidE (show popN O2 D2 = m' + 1 from hpop.symm.trans hst)
            have z0 := HB.lt
            have H := hidE (And.intro HB (And.intro HR hb))
            clear HB HR hb hpop
            go_upto_region 9 with fail
            obtain ⟨HB, HR, hb⟩ := H.out
            obtain ⟨ds, hu, hd⟩ := Try.undSpot
            refine wp_region_lit (wpList_load_mid rfl 63 (.tmp 2) rfl w.heap.size 0 rfl (spC (p + 1) (m' + 1) O2).toList ds HB.range hu hd Try.infoSpot ?_)
            refine wpList_store_mid rfl 63 (.tmp 4) (.tmp 56) rfl (w.heap.size + 1 + 1) 0 (spC (p + 1) (m' + 1) O2) rfl rfl HR.there Try.infoSpot (spC_one _ _ _) ?_
            have HF := spC_allZ (p + 1) (m' + 1) O2 ▸ HR.setCells (spC (p + 1) (m' + 1) O2).toList 0
            have hbF := below_setCells hb (show w.heap.size ≤ w.heap.size + 1 + 1 by omega) (spC (p + 1) (m' + 1) O2).toList 0
            generalize World.setCells wr _ _ _ = wz at *
            clear H HB HR hb
            go_wp2
            refine bodyPost_ret (v := spV (p + 1) (m' + 1) O2) ?_ rfl ⟨by rw [HPE.out], hbF⟩
            exact results_cell (fn := Try.f30) Try.results30 rfl (run_loadVar_mid wz (w.heap.size + 1 + 1) 0 63 (spC (p + 1) (m' + 1) O2).toList ds HF.range hu hd Try.infoSpot)
  · obtain ⟨m, hm⟩ : ∃ m, d = m + 1 := ⟨d - 1, by omega⟩
    have hm8 : m < 8 := by omega
    have hnm := hn m
    have htm : (O m).2 ≠ 0 := by
      rcases ht with h | h
      · omega
      · rwa [hm, Nat.add_sub_cancel] at h
    have hO : rowO d O = putO O m ((O m).1, (O m).2 - 1) := by unfold rowO; rw [if_neg hd0, hm, Nat.add_sub_cancel]
    have c1 : w2.cell? ⟨w.heap.size, 1, none⟩ = some (.int .i64 d) := HB.cell 1
    have cL : w2.cell? ⟨w.heap.size, 2 + m * 2 + 1, none⟩ = some (.int .i64 (O m).2) := (HB.cell _).trans (spC_at _ _ _ hm8).2
    have f0 := HB.free; have z0 := HB.lt
    have q1 : decide ((d : Int) > 0) = true := decide_eq_true (by omega)
    have q1' : decide (0 < d) = true := decide_eq_true (by omega)
    have q2 : IntKind.i64.wrap ((d : Int) - 1) = (m : Int) := by rw [show (d : Int) - 1 = (m : Int) by omega]; exact IntWalk.i64_in _ (by omega)
    have q3 : IntKind.i64.wrap ((O m).2 - 1 : Int) = ((O m).2 - 1 : Int) := IntWalk.i64_in _ (by omega)
    clear hd0 ht hm
    have H := hidE (And.intro HB (And.intro HP (And.intro HR hb)))
    clear HB HP HR hb
    go_upto_region 4 with fail
    obtain ⟨HB, HP, HR, hb⟩ := H.out
    obtain ⟨w3, hw3⟩ : ∃ w3, w3 = w2.setCell ⟨w.heap.size, 2 + m * 2 + 1, none⟩ (.int .i64 ((O m).2 - 1 : Int)) := ⟨_, rfl⟩
    replace HB : Blk w3 w.heap.size (spC (p + 1) d (rowO d O)) 63 := hw3 ▸ hO ▸ spC_left (p + 1) d O hm8 ((O m).2 - 1 : Int) ((O m).2 - 1) (by omega) ▸ HB.set _ _
    replace HP : Blk w3 (w.heap.size + 1) #[.int .u8 kd, .int .u32 n, .int .u32 g, .int .i64 dd, .int .i64 K] 42 := hw3 ▸ HP.other (by omega) _
    replace HR : Blk w3 (w.heap.size + 1 + 1) spZ 63 := hw3 ▸ HR.other (by omega) _
    replace hb : Below w.heap.size w w3 := hw3 ▸ hb.setCell (p := ⟨w.heap.size, _, none⟩) (Nat.le_refl _) _
    rw [← hw3]
    clear hw3 H c1 cL f0 z0 q1 q1' q2 q3 hO htm hnm hm8 w2
    have k0 : w3.cell? ⟨w.heap.size + 1, 0, none⟩ = some (.int .u8 kd) := HP.cell 0
    have z0 := HB.lt; have z1 := HP.lt
    by_cases hkd : kd = 0
    · have hO2' := hidE (show O2 = rowO d O from hO2.trans (if_pos hkd))
      have hD2' := hidE (show D2 = d from hD2.trans (if_pos hkd))
      have r1 : ((kd : Int) != 0) = false := by rw [hkd]; rfl
      clear hO2 hD2 hkd
      have H := hidE (And.intro HB (And.intro HP (And.intro HR hb)))
      clear HB HP HR hb
      go_wp2_with fail
      go_loopg [] D2 (fun gh wr => ∃ D' : Nat, D' ≤ D2 ∧ D' ≤ gh ∧ popN O2 D' = popN O2 D2 ∧ Blk wr w.heap.size (spC (p + 1) D' O2) 63 ∧ Blk wr (w.heap.size + 1 + 1) spZ 63 ∧ Below w.heap.size w wr)
      case atStart =>
        obtain ⟨HB, HP, HR, hb⟩ := H.out
        exact ⟨D2, Nat.le_refl _, Nat.le_refl _, rfl, by rw [hO2'.out, hD2'.out]; exact HB, HR, hb⟩
      case round =>
        obtain ⟨D', hDD, hgh, hpop, HB, HR, hb⟩ := hrel
        by_cases h0 : D' = 0
        · subst h0
          have HPE := hidE (show popN O2 D2 = 0 from hpop.symm)
          have z0 := HB.lt
          have H := hidE (And.intro HB (And.intro HR hb))
          have c1 : wr.cell? ⟨w.heap.size, 1, none⟩ = some (.int .i64 0) := HB.cell 1
          clear HB HR hb hpop
          go_upto_region 9 with fail
          obtain ⟨HB, HR, hb⟩ := H.out
          obtain ⟨ds, hu, hd⟩ := Try.undSpot
          refine wp_region_lit (wpList_load_mid rfl 63 (.tmp 2) rfl w.heap.size 0 rfl (spC (p + 1) (0) O2).toList ds HB.range hu hd Try.infoSpot ?_)
          refine wpList_store_mid rfl 63 (.tmp 4) (.tmp 56) rfl (w.heap.size + 1 + 1) 0 (spC (p + 1) (0) O2) rfl rfl HR.there Try.infoSpot (spC_one _ _ _) ?_
          have HF := spC_allZ (p + 1) (0) O2 ▸ HR.setCells (spC (p + 1) (0) O2).toList 0
          have hbF := below_setCells hb (show w.heap.size ≤ w.heap.size + 1 + 1 by omega) (spC (p + 1) (0) O2).toList 0
          generalize World.setCells wr _ _ _ = wz at *
          clear H HB HR hb
          go_wp2
          refine bodyPost_ret (v := spV (p + 1) (0) O2) ?_ rfl ⟨by rw [HPE.out], hbF⟩
          exact results_cell (fn := Try.f30) Try.results30 rfl (run_loadVar_mid wz (w.heap.size + 1 + 1) 0 63 (spC (p + 1) (0) O2).toList ds HF.range hu hd Try.infoSpot)
        · obtain ⟨m', rfl⟩ : ∃ m', D' = m' + 1 := ⟨D' - 1, by omega⟩
          have hm8 : m' < 8 := by omega
          have hn' := hO16 m'
          have c1 : wr.cell? ⟨w.heap.size, 1, none⟩ = some (.int .i64 ((m' : Int) + 1)) := (HB.cell 1).trans (by simp)
          have cL : wr.cell? ⟨w.heap.size, 2 + m' * 2 + 1, none⟩ = some (.int .i64 (O2 m').2) := (HB.cell _).trans (spC_at _ _ _ hm8).2
          have f0 := HB.free; have z0 := HB.lt
          have q1 : decide ((m' : Int) + 1 > 0) = true := decide_eq_true (by omega)
          have q2 : IntKind.i64.wrap ((m' : Int) + 1 - 1) = (m' : Int) := by rw [Int.add_sub_cancel]; exact IntWalk.i64_in _ (by omega)
          by_cases hz : (O2 m').2 = 0
          · have q3 : (((O2 m').2 : Int) == 0) = true := by rw [hz]; rfl
            have HG := hidE hgh
            have HPO := hidE ((popN_go hz).symm.trans hpop)
            have H := hidE (And.intro HB (And.intro HR hb))
            clear HB HR hb hgh hpop hz
            go_wp2
            go_roundg m'
            case measure => have := HG.out; omega
            case rel =>
              obtain ⟨HB, HR, hb⟩ := H.out
              exact ⟨m', by omega, Nat.le_refl _, HPO.out, spC_set1 (p + 1) (m' + 1) O2 (m' : Int) m' rfl ▸ HB.set 1 _, HR.other (by omega) _, hb.setCell (p := ⟨w.heap.size, 1, none⟩) (Nat.le_refl _) _⟩
          · have q3 : (((O2 m').2 : Int) == 0) = false := beq_eq_false_iff_ne.2 (by omega)
            have hst := popN_stop hz
            have HPE := hidE (show popN O2 D2 = m' + 1 from hpop.symm.trans hst)
            have z0 := HB.lt
            have H := hidE (And.intro HB (And.intro HR hb))
            clear HB HR hb hpop
            go_upto_region 9 with fail
            obtain ⟨HB, HR, hb⟩ := H.out
            obtain ⟨ds, hu, hd⟩ := Try.undSpot
            refine wp_region_lit (wpList_load_mid rfl 63 (.tmp 2) rfl w.heap.size 0 rfl (spC (p + 1) (m' + 1) O2).toList ds HB.range hu hd Try.infoSpot ?_)
            refine wpList_store_mid rfl 63 (.tmp 4) (.tmp 56) rfl (w.heap.size + 1 + 1) 0 (spC (p + 1) (m' + 1) O2) rfl rfl HR.there Try.infoSpot (spC_one _ _ _) ?_
            have HF := spC_allZ (p + 1) (m' + 1) O2 ▸ HR.setCells (spC (p + 1) (m' + 1) O2).toList 0
            have hbF := below_setCells hb (show w.heap.size ≤ w.heap.size + 1 + 1 by omega) (spC (p + 1) (m' + 1) O2).toList 0
            generalize World.setCells wr _ _ _ = wz at *
            clear H HB HR hb
            go_wp2
            refine bodyPost_ret (v := spV (p + 1) (m' + 1) O2) ?_ rfl ⟨by rw [HPE.out], hbF⟩
            exact results_cell (fn := Try.f30) Try.results30 rfl (run_loadVar_mid wz (w.heap.size + 1 + 1) 0 63 (spC (p + 1) (m' + 1) O2).toList ds HF.range hu hd Try.infoSpot)
    · have hd8 := hd2 hkd
      have hO2' := hidE (show O2 = putO (rowO d O) d (kd, K) from hO2.trans (if_neg hkd))
      have hD2' := hidE (show D2 = d + 1 from hD2.trans (if_neg hkd))
      have r1 : ((kd : Int) != 0) = true := bne_iff_ne.2 (by omega)
      have c1 : w3.cell? ⟨w.heap.size, 1, none⟩ = some (.int .i64 d) := HB.cell 1
      have k4 : w3.cell? ⟨w.heap.size + 1, 4, none⟩ = some (.int .i64 K) := HP.cell 4
      have f0 := HB.free
      have cA : w3.cell? ⟨w.heap.size, 2 + d * 2, none⟩ = some (.int .u8 (rowO d O d).1) := (HB.cell _).trans (spC_at _ _ _ hd8).1
      have cB : w3.cell? ⟨w.heap.size, 2 + d * 2 + 1, none⟩ = some (.int .i64 (rowO d O d).2) := (HB.cell _).trans (spC_at _ _ _ hd8).2
      have q4 : IntKind.i64.wrap ((d : Int) + 1) = (d : Int) + 1 := IntWalk.i64_in _ (by omega)
      clear hO2 hD2 hkd
      have H := hidE (And.intro HB (And.intro HP (And.intro HR hb)))
      clear HB HP HR hb
      go_upto_region 6 with fail
      obtain ⟨HB, HP, HR, hb⟩ := H.out
      obtain ⟨w4, hw4⟩ : ∃ w4, w4 = (w3.setCell ⟨w.heap.size, 2 + d * 2, none⟩ (.int .u8 kd)).setCell ⟨w.heap.size, 2 + d * 2 + 1, none⟩ (.int .i64 K) := ⟨_, rfl⟩
      replace HB : Blk w4 w.heap.size (spC (p + 1) d O2) 63 := hw4 ▸ hO2'.out ▸ spC_put (p + 1) d (rowO d O) hd8 kd K K rfl ▸ (HB.set _ _).set _ _
      replace HR : Blk w4 (w.heap.size + 1 + 1) spZ 63 := hw4 ▸ (HR.other (by omega) _).other (by omega) _
      replace hb : Below w.heap.size w w4 := hw4 ▸ (hb.setCell (p := ⟨w.heap.size, _, none⟩) (Nat.le_refl _) _).setCell (p := ⟨w.heap.size, _, none⟩) (Nat.le_refl _) _
      rw [← hw4]
      clear hw4 H c1 cA cB f0 z0 k0 k4 z1 HP w3
      have c1 : w4.cell? ⟨w.heap.size, 1, none⟩ = some (.int .i64 d) := HB.cell 1
      have f0 := HB.free; have z0 := HB.lt
      have H := hidE (And.intro HB (And.intro HR hb))
      clear HB HR hb
      go_wp2_with fail
      go_loopg [] D2 (fun gh wr => ∃ D' : Nat, D' ≤ D2 ∧ D' ≤ gh ∧ popN O2 D' = popN O2 D2 ∧ Blk wr w.heap.size (spC (p + 1) D' O2) 63 ∧ Blk wr (w.heap.size + 1 + 1) spZ 63 ∧ Below w.heap.size w wr)
      case atStart =>
        obtain ⟨HB, HR, hb⟩ := H.out
        exact ⟨D2, Nat.le_refl _, Nat.le_refl _, rfl, spC_set1 (p + 1) d O2 ((d : Int) + 1) D2 (by rw [hD2'.out]; omega) ▸ HB.set 1 _, HR.other (by omega) _, hb.setCell (p := ⟨w.heap.size, 1, none⟩) (Nat.le_refl _) _⟩
      case round =>
        obtain ⟨D', hDD, hgh, hpop, HB, HR, hb⟩ := hrel
        by_cases h0 : D' = 0
        · subst h0
          have HPE := hidE (show popN O2 D2 = 0 from hpop.symm)
          have z0 := HB.lt
          have H := hidE (And.intro HB (And.intro HR hb))
          have c1 : wr.cell? ⟨w.heap.size, 1, none⟩ = some (.int .i64 0) := HB.cell 1
          clear HB HR hb hpop
          go_upto_region 9 with fail
          obtain ⟨HB, HR, hb⟩ := H.out
          obtain ⟨ds, hu, hd⟩ := Try.undSpot
          refine wp_region_lit (wpList_load_mid rfl 63 (.tmp 2) rfl w.heap.size 0 rfl (spC (p + 1) (0) O2).toList ds HB.range hu hd Try.infoSpot ?_)
          refine wpList_store_mid rfl 63 (.tmp 4) (.tmp 56) rfl (w.heap.size + 1 + 1) 0 (spC (p + 1) (0) O2) rfl rfl HR.there Try.infoSpot (spC_one _ _ _) ?_
          have HF := spC_allZ (p + 1) (0) O2 ▸ HR.setCells (spC (p + 1) (0) O2).toList 0
          have hbF := below_setCells hb (show w.heap.size ≤ w.heap.size + 1 + 1 by omega) (spC (p + 1) (0) O2).toList 0
          generalize World.setCells wr _ _ _ = wz at *
          clear H HB HR hb
          go_wp2
          refine bodyPost_ret (v := spV (p + 1) (0) O2) ?_ rfl ⟨by rw [HPE.out], hbF⟩
          exact results_cell (fn := Try.f30) Try.results30 rfl (run_loadVar_mid wz (w.heap.size + 1 + 1) 0 63 (spC (p + 1) (0) O2).toList ds HF.range hu hd Try.infoSpot)
        · obtain ⟨m', rfl⟩ : ∃ m', D' = m' + 1 := ⟨D' - 1, by omega⟩
          have hm8 : m' < 8 := by omega
          have hn' := hO16 m'
          have c1 : wr.cell? ⟨w.heap.size, 1, none⟩ = some (.int .i64 ((m' : Int) + 1)) := (HB.cell 1).trans (by simp)
          have cL : wr.cell? ⟨w.heap.size, 2 + m' * 2 + 1, none⟩ = some (.int .i64 (O2 m').2) := (HB.cell _).trans (spC_at _ _ _ hm8).2
          have f0 := HB.free; have z0 := HB.lt
          have q1 : decide ((m' : Int) + 1 > 0) = true := decide_eq_true (by omega)
          have q2 : IntKind.i64.wrap ((m' : Int) + 1 - 1) = (m' : Int) := by rw [Int.add_sub_cancel]; exact IntWalk.i64_in _ (by omega)
          by_cases hz : (O2 m').2 = 0
          · have q3 : (((O2 m').2 : Int) == 0) = true := by rw [hz]; rfl
            have HG := hidE hgh
            have HPO := hidE ((popN_go hz).symm.trans hpop)
            have H := hidE (And.intro HB (And.intro HR hb))
            clear HB HR hb hgh hpop hz
            go_wp2
            go_roundg m'
            case measure => have := HG.out; omega
            case rel =>
              obtain ⟨HB, HR, hb⟩ := H.out
              exact ⟨m', by omega, Nat.le_refl _, HPO.out, spC_set1 (p + 1) (m' + 1) O2 (m' : Int) m' rfl ▸ HB.set 1 _, HR.other (by omega) _, hb.setCell (p := ⟨w.heap.size, 1, none⟩) (Nat.le_refl _) _⟩
          · have q3 : (((O2 m').2 : Int) == 0) = false := beq_eq_false_iff_ne.2 (by omega)
            have hst := popN_stop hz
            have HPE := hidE (show popN O2 D2 = m' + 1 from hpop.symm.trans hst)
            have z0 := HB.lt
            have H := hidE (And.intro HB (And.intro HR hb))
            clear HB HR hb hpop
            go_upto_region 9 with fail
            obtain ⟨HB, HR, hb⟩ := H.out
            obtain ⟨ds, hu, hd⟩ := Try.undSpot
            refine wp_region_lit (wpList_load_mid rfl 63 (.tmp 2) rfl w.heap.size 0 rfl (spC (p + 1) (m' + 1) O2).toList ds HB.range hu hd Try.infoSpot ?_)
            refine wpList_store_mid rfl 63 (.tmp 4) (.tmp 56) rfl (w.heap.size + 1 + 1) 0 (spC (p + 1) (m' + 1) O2) rfl rfl HR.there Try.infoSpot (spC_one _ _ _) ?_
            have HF := spC_allZ (p + 1) (m' + 1) O2 ▸ HR.setCells (spC (p + 1) (m' + 1) O2).toList 0
            have hbF := below_setCells hb (show w.heap.size ≤ w.heap.size + 1 + 1 by omega) (spC (p + 1) (m' + 1) O2).toList 0
            generalize World.setCells wr _ _ _ = wz at *
            clear H HB HR hb
            go_wp2
            refine bodyPost_ret (v := spV (p + 1) (m' + 1) O2) ?_ rfl ⟨by rw [HPE.out], hbF⟩
            exact results_cell (fn := Try.f30) Try.results30 rfl (run_loadVar_mid wz (w.heap.size + 1 + 1) 0 63 (spC (p + 1) (m' + 1) O2).toList ds HF.range hu hd Try.infoSpot)
end Go.Proofs.Ytnifmdeojgfgcaa

namespace Go.Proofs.Ytnifmdeojgfgcaa
open Go.ChangeShapes Go.WideShapes Go.ChangeAt Go.RowKit
attribute [local irreducible] Go.Calls

theorem run_store_fnS {P : Program} {w : World} {a : Addr} {m : Mode} {f : Fn} {l r : Array Value} : (store a (.func f l r) m).run P w = stored P w a (.func f l r) m := run_store P w a _ m rfl
attribute [local go_sem] run_store_fnS
abbrev rsC : Array Value := #[.func (.func 33) #[] #[], .int .i64 81, .func (.func 34) #[] #[], .int .i64 81, .func (.func 35) #[] #[], .int .i64 81, .func (.func 36) #[] #[], .int .i64 81, .func (.func 37) #[] #[], .int .i64 80]
theorem reasons8_c (w : World) : Calls Try.prog 29 #[] w fun e w' => e = .returned (.slice (some ⟨w.heap.size, 0, none⟩) 5 5) ∧ Blk w' w.heap.size rsC 66 ∧ Below w.heap.size w w' := by
  go_enter Try.func29, Try.ntmps29
  go_wp2
  go_ret
  exact ⟨rfl, Blk.made _ _ _, by (repeat (first | exact Below.refl _ _ | assumption | refine balloc ?_ _ | refine below_drewN ?_ _ | refine bstep (by assumption) ?_ | refine bstep (Past.prop _) ?_ | refine Below.setCell ?_ (by first | exact Nat.le_refl _ | (simp; done) | (simp; omega)) _))⟩
def prC (x : Prt) : Array Value := #[.int .u8 x.kind, .int .u32 x.n, .int .u32 x.g, .int .i64 x.d, .int .i64 x.kids]
set_option maxRecDepth 100000 in
set_option maxHeartbeats 4000000 in
theorem fault8_c (l : List Prt) (a : Option Addr) (cap : Nat) (w : World) (hl : l.length ≤ 9223372036854775807) (hA : ArgP w a l) :
    Calls Try.prog 22 #[.slice a l.length cap] w fun e w' => e = .returned (.tuple #[.int .i64 (treeS l).1, .int .i64 (treeS l).2]) ∧ Below w.heap.size w w' := by
  have HA := hidE hA
  have HL := hidE hl
  clear hA
  go_enter Try.func22, Try.ntmps22
  go_wp2_with (go_at_call 29; (with_reducible refine (reasons8_c _).mono ?_); rintro e w1 ⟨rfl, hB0, hb1⟩; have HB0 := hidE hB0; have HB1 := hidE hb1; have hz1 := hB0.lt; clear hB0 hb1)
  have hS0 := Blk.made_at w1 spZ 63 w1.heap.size rfl
  have HR0 := hidE (HB0.out.alloc (.cells spZ 63))
  have HW0 := hidE (HB1.out.alloc HB1.out.size (.cells spZ 63))
  have HS0 := hidE (show Blk (w1.alloc (.cells spZ 63)) w1.heap.size (spC 0 0 fun _ => (0, 0)) 63 from hS0)
  clear hS0
  generalize w1.alloc (Obj.cells spZ 63) = w2 at *
  go_loopg [13] l.length (fun gh v13 wr => ∃ (k d : Nat) (O : Nat → Nat × Nat), k ≤ l.length ∧ l.length - k ≤ gh ∧ v13 = .int .i64 k ∧ AtS l k d O ∧ k ≤ 64 ∧ Blk wr w.heap.size rsC 66 ∧ Blk wr w1.heap.size (spC k d O) 63 ∧ Below w.heap.size w wr)
  case atStart => exact ⟨0, 0, _, Nat.zero_le _, Nat.le_refl _, rfl, at_start l, by omega, HR0.out, HS0.out, HW0.out⟩
  case round =>
    obtain ⟨k, d, O, hkk, hgh, rfl, hat, hk64, HR, HS, hb⟩ := hrel
    by_cases hlt : k < l.length
    · obtain ⟨b, off, rfl, hbb, hc⟩ := (HA.out.past hb) (by omega)
      obtain ⟨c0, c1, c2, c3, c4⟩ := hc.get hlt
      rw [show l.getD k pr0 = l.getD k ⟨0, 0, 0, 0, 0⟩ from rfl] at c0 c1 c2 c3 c4
      have r1 : decide ((k : Int) < (l.length : Int)) = true := decide_eq_true (by omega)
      have r2 : decide (k < l.length) = true := decide_eq_true hlt
      have hd8 := hat.le
      have HRE := hidE (at_reas hat hlt)
      have HNX := hidE (at_next hat hlt)
      have HAT := hidE hat
      have HG := hidE (And.intro hgh hkk)
      have z1 := HR.lt; have z2 := HS.lt
      have HM := hidE (And.intro HR (And.intro HS hb))
      clear hgh hkk hat hc HR HS hb HR0 HS0 HW0 HB0 HB1
      generalize (l.getD k ⟨0, 0, 0, 0, 0⟩) = x at *
      go_upto_region 6 with fail
      obtain ⟨HR, HS, hb⟩ := HM.out
      have HP := Blk.made wr (prC x) 42
      replace HR := HR.alloc (.cells (prC x) 42)
      replace HS := HS.alloc (.cells (prC x) 42)
      replace hb := hb.alloc hb.size (.cells (prC x) 42)
      have hzr := hbb
      change Blk (wr.alloc (.cells #[.int .u8 x.kind, .int .u32 x.n, .int .u32 x.g, .int .i64 x.d, .int .i64 x.kids] 42)) _ _ _ at HR
      change Blk (wr.alloc (.cells #[.int .u8 x.kind, .int .u32 x.n, .int .u32 x.g, .int .i64 x.d, .int .i64 x.kids] 42)) _ _ _ at HS
      change Blk (wr.alloc (.cells #[.int .u8 x.kind, .int .u32 x.n, .int .u32 x.g, .int .i64 x.d, .int .i64 x.kids] 42)) _ (prC x) _ at HP
      change Below _ _ (wr.alloc (.cells #[.int .u8 x.kind, .int .u32 x.n, .int .u32 x.g, .int .i64 x.d, .int .i64 x.kids] 42)) at hb
      generalize wr.alloc (.cells #[.int .u8 x.kind, .int .u32 x.n, .int .u32 x.g, .int .i64 x.d, .int .i64 x.kids] 42) = w3 at *
      have HM3 := hidE (And.intro HR (And.intro HS (And.intro HP hb)))
      clear HM HR HS HP hb c0 c1 c2 c3 c4
      generalize wr.heap.size = q at *
      go_wp2_with fail
      go_loopg [19] 5 (fun gh v19 wi => ∃ j : Nat, j ≤ 5 ∧ 5 - j ≤ gh ∧ v19 = .int .i64 j ∧ (∀ i, i < j → reasS k d O x i = false) ∧ Blk wi w.heap.size rsC 66 ∧ Blk wi w1.heap.size (spC k d O) 63 ∧ Blk wi q (prC x) 42 ∧ Below w.heap.size w wi)
      case atStart =>
        obtain ⟨HR, HS, HP, hb⟩ := HM3.out
        exact ⟨0, Nat.zero_le _, Nat.le_refl _, rfl, fun i h => by omega, HR, HS, HP, hb⟩
      case round =>
        obtain ⟨j, hj5, hgi, rfl, hfa, HR, HS, HP, hb⟩ := hrel
        clear HM3
        by_cases hj : j < 5
        · have HGI := hidE (And.intro hgi hfa)
          clear hgi hfa
          rcases (show j = 0 ∨ j = 1 ∨ j = 2 ∨ j = 3 ∨ j = 4 by omega) with rfl | rfl | rfl | rfl | rfl
          · have g0 : wr.cell? ⟨w.heap.size, 0, none⟩ = some (.func (.func 33) #[] #[]) := HR.cell 0
            have g1 : wr.cell? ⟨w.heap.size, 1, none⟩ = some (.int .i64 81) := HR.cell 1
            have p0 : wr.cell? ⟨q, 0, none⟩ = some (.int .u8 x.kind) := HP.cell 0; have p1 : wr.cell? ⟨q, 1, none⟩ = some (.int .u32 x.n) := HP.cell 1; have p2 : wr.cell? ⟨q, 2, none⟩ = some (.int .u32 x.g) := HP.cell 2; have p3 : wr.cell? ⟨q, 3, none⟩ = some (.int .i64 x.d) := HP.cell 3; have p4 : wr.cell? ⟨q, 4, none⟩ = some (.int .i64 x.kids) := HP.cell 4
            have z1 := HR.lt; have z2 := HS.lt; have z3 := HP.lt
            have HC := hidE (fun W => rea0_c k d O x W)
            have HN := hidE (Blk.made wr #[.func (.func 33) #[] #[], .int .i64 81] 66)
            have H := hidE (And.intro (HR.alloc (.cells #[.func (.func 33) #[] #[], .int .i64 81] 66)) (And.intro (HS.alloc (.cells #[.func (.func 33) #[] #[], .int .i64 81] 66)) (And.intro (HP.alloc (.cells #[.func (.func 33) #[] #[], .int .i64 81] 66)) (hb.alloc hb.size (.cells #[.func (.func 33) #[] #[], .int .i64 81] 66)))))
            clear HR HS HP hb
            go_upto_region 9 with fail
            obtain ⟨ds, hu, hd⟩ := Try.undSpot
            iterate 7 go_step
            refine wpList_load_mid rfl 63 (.tmp 5) rfl w1.heap.size 0 rfl (spC k d O).toList ds H.out.2.1.range hu hd Try.infoSpot ?_
            clear hu hd
            go_wp2_with fail
            ((with_reducible refine (HC.out _).mono ?_); rintro e wc ⟨rfl, hbc⟩)
            have y0 : wc.cell? ⟨w1.heap.size, 0, none⟩ = some (.int .i64 k) := (H.out.2.1.past hbc).cell 0
            have y1 : wc.cell? ⟨wr.heap.size, 1, none⟩ = some (.int .i64 81) := (HN.out.past hbc).cell 1
            have HF := hidE (And.intro (H.out.1.past hbc) (And.intro (H.out.2.1.past hbc) (And.intro (H.out.2.2.1.past hbc) (H.out.2.2.2.trans (hbc.mono H.out.2.2.2.size)))))
            have v1 := HF.out.1.lt; have v2 := HF.out.2.1.lt; have v3 := (HN.out.past hbc).lt
            clear H HN hbc g0 g1 p0 p1 p2 p3 p4 z1 z2 z3 HC
            cases hv : reasS k d O x 0 with
            | true =>
              have HRES := hidE (HRE.out 0 (by omega) HGI.out.2 hv)
              clear hv
              go_upto_region 10 with fail
              go_quiet (fail)
              go_wp2
              refine bodyPost_ret (v := .tuple #[.int .i64 k, .int .i64 81]) (by simp [results, Try.results22, go_sem]) rfl ⟨by rw [HRES.out]; rfl, below_drewN HF.out.2.2.2 _⟩
            | false =>
              go_wp2_with fail
              go_roundg (5 - 1)
              case measure => have := HGI.out.1; omega
              case rel => exact ⟨1, by omega, Nat.le_refl _, by go_num, fun i hi => by
                  by_cases c : i < 0
                  · exact HGI.out.2 i c
                  · rw [show i = 0 by omega]; exact hv, HF.out.1, HF.out.2.1, HF.out.2.2.1, HF.out.2.2.2⟩
          · have g0 : wr.cell? ⟨w.heap.size, 2, none⟩ = some (.func (.func 34) #[] #[]) := HR.cell 2
            have g1 : wr.cell? ⟨w.heap.size, 3, none⟩ = some (.int .i64 81) := HR.cell 3
            have p0 : wr.cell? ⟨q, 0, none⟩ = some (.int .u8 x.kind) := HP.cell 0; have p1 : wr.cell? ⟨q, 1, none⟩ = some (.int .u32 x.n) := HP.cell 1; have p2 : wr.cell? ⟨q, 2, none⟩ = some (.int .u32 x.g) := HP.cell 2; have p3 : wr.cell? ⟨q, 3, none⟩ = some (.int .i64 x.d) := HP.cell 3; have p4 : wr.cell? ⟨q, 4, none⟩ = some (.int .i64 x.kids) := HP.cell 4
            have z1 := HR.lt; have z2 := HS.lt; have z3 := HP.lt
            have HC := hidE (fun W => rea1_c k d O x W)
            have HN := hidE (Blk.made wr #[.func (.func 34) #[] #[], .int .i64 81] 66)
            have H := hidE (And.intro (HR.alloc (.cells #[.func (.func 34) #[] #[], .int .i64 81] 66)) (And.intro (HS.alloc (.cells #[.func (.func 34) #[] #[], .int .i64 81] 66)) (And.intro (HP.alloc (.cells #[.func (.func 34) #[] #[], .int .i64 81] 66)) (hb.alloc hb.size (.cells #[.func (.func 34) #[] #[], .int .i64 81] 66)))))
            clear HR HS HP hb
            go_upto_region 9 with fail
            obtain ⟨ds, hu, hd⟩ := Try.undSpot
            iterate 7 go_step
            refine wpList_load_mid rfl 63 (.tmp 5) rfl w1.heap.size 0 rfl (spC k d O).toList ds H.out.2.1.range hu hd Try.infoSpot ?_
            clear hu hd
            go_wp2_with fail
            ((with_reducible refine (HC.out _).mono ?_); rintro e wc ⟨rfl, hbc⟩)
            have y0 : wc.cell? ⟨w1.heap.size, 0, none⟩ = some (.int .i64 k) := (H.out.2.1.past hbc).cell 0
            have y1 : wc.cell? ⟨wr.heap.size, 1, none⟩ = some (.int .i64 81) := (HN.out.past hbc).cell 1
            have HF := hidE (And.intro (H.out.1.past hbc) (And.intro (H.out.2.1.past hbc) (And.intro (H.out.2.2.1.past hbc) (H.out.2.2.2.trans (hbc.mono H.out.2.2.2.size)))))
            have v1 := HF.out.1.lt; have v2 := HF.out.2.1.lt; have v3 := (HN.out.past hbc).lt
            clear H HN hbc g0 g1 p0 p1 p2 p3 p4 z1 z2 z3 HC
            cases hv : reasS k d O x 1 with
            | true =>
              have HRES := hidE (HRE.out 1 (by omega) HGI.out.2 hv)
              clear hv
              go_upto_region 10 with fail
              go_quiet (fail)
              go_wp2
              refine bodyPost_ret (v := .tuple #[.int .i64 k, .int .i64 81]) (by simp [results, Try.results22, go_sem]) rfl ⟨by rw [HRES.out]; rfl, below_drewN HF.out.2.2.2 _⟩
            | false =>
              go_wp2_with fail
              go_roundg (5 - 2)
              case measure => have := HGI.out.1; omega
              case rel => exact ⟨2, by omega, Nat.le_refl _, by go_num, fun i hi => by
                  by_cases c : i < 1
                  · exact HGI.out.2 i c
                  · rw [show i = 1 by omega]; exact hv, HF.out.1, HF.out.2.1, HF.out.2.2.1, HF.out.2.2.2⟩
          · have g0 : wr.cell? ⟨w.heap.size, 4, none⟩ = some (.func (.func 35) #[] #[]) := HR.cell 4
            have g1 : wr.cell? ⟨w.heap.size, 5, none⟩ = some (.int .i64 81) := HR.cell 5
            have p0 : wr.cell? ⟨q, 0, none⟩ = some (.int .u8 x.kind) := HP.cell 0; have p1 : wr.cell? ⟨q, 1, none⟩ = some (.int .u32 x.n) := HP.cell 1; have p2 : wr.cell? ⟨q, 2, none⟩ = some (.int .u32 x.g) := HP.cell 2; have p3 : wr.cell? ⟨q, 3, none⟩ = some (.int .i64 x.d) := HP.cell 3; have p4 : wr.cell? ⟨q, 4, none⟩ = some (.int .i64 x.kids) := HP.cell 4
            have z1 := HR.lt; have z2 := HS.lt; have z3 := HP.lt
            have HC := hidE (fun W => rea2_c k d O x W)
            have HN := hidE (Blk.made wr #[.func (.func 35) #[] #[], .int .i64 81] 66)
            have H := hidE (And.intro (HR.alloc (.cells #[.func (.func 35) #[] #[], .int .i64 81] 66)) (And.intro (HS.alloc (.cells #[.func (.func 35) #[] #[], .int .i64 81] 66)) (And.intro (HP.alloc (.cells #[.func (.func 35) #[] #[], .int .i64 81] 66)) (hb.alloc hb.size (.cells #[.func (.func 35) #[] #[], .int .i64 81] 66)))))
            clear HR HS HP hb
            go_upto_region 9 with fail
            obtain ⟨ds, hu, hd⟩ := Try.undSpot
            iterate 7 go_step
            refine wpList_load_mid rfl 63 (.tmp 5) rfl w1.heap.size 0 rfl (spC k d O).toList ds H.out.2.1.range hu hd Try.infoSpot ?_
            clear hu hd
            go_wp2_with fail
            ((with_reducible refine (HC.out _).mono ?_); rintro e wc ⟨rfl, hbc⟩)
            have y0 : wc.cell? ⟨w1.heap.size, 0, none⟩ = some (.int .i64 k) := (H.out.2.1.past hbc).cell 0
            have y1 : wc.cell? ⟨wr.heap.size, 1, none⟩ = some (.int .i64 81) := (HN.out.past hbc).cell 1
            have HF := hidE (And.intro (H.out.1.past hbc) (And.intro (H.out.2.1.past hbc) (And.intro (H.out.2.2.1.past hbc) (H.out.2.2.2.trans (hbc.mono H.out.2.2.2.size)))))
            have v1 := HF.out.1.lt; have v2 := HF.out.2.1.lt; have v3 := (HN.out.past hbc).lt
            clear H HN hbc g0 g1 p0 p1 p2 p3 p4 z1 z2 z3 HC
            cases hv : reasS k d O x 2 with
            | true =>
              have HRES := hidE (HRE.out 2 (by omega) HGI.out.2 hv)
              clear hv
              go_upto_region 10 with fail
              go_quiet (fail)
              go_wp2
              refine bodyPost_ret (v := .tuple #[.int .i64 k, .int .i64 81]) (by simp [results, Try.results22, go_sem]) rfl ⟨by rw [HRES.out]; rfl, below_drewN HF.out.2.2.2 _⟩
            | false =>
              go_wp2_with fail
              go_roundg (5 - 3)
              case measure => have := HGI.out.1; omega
              case rel => exact ⟨3, by omega, Nat.le_refl _, by go_num, fun i hi => by
                  by_cases c : i < 2
                  · exact HGI.out.2 i c
                  · rw [show i = 2 by omega]; exact hv, HF.out.1, HF.out.2.1, HF.out.2.2.1, HF.out.2.2.2⟩
          · have g0 : wr.cell? ⟨w.heap.size, 6, none⟩ = some (.func (.func 36) #[] #[]) := HR.cell 6
            have g1 : wr.cell? ⟨w.heap.size, 7, none⟩ = some (.int .i64 81) := HR.cell 7
            have p0 : wr.cell? ⟨q, 0, none⟩ = some (.int .u8 x.kind) := HP.cell 0; have p1 : wr.cell? ⟨q, 1, none⟩ = some (.int .u32 x.n) := HP.cell 1; have p2 : wr.cell? ⟨q, 2, none⟩ = some (.int .u32 x.g) := HP.cell 2; have p3 : wr.cell? ⟨q, 3, none⟩ = some (.int .i64 x.d) := HP.cell 3; have p4 : wr.cell? ⟨q, 4, none⟩ = some (.int .i64 x.kids) := HP.cell 4
            have z1 := HR.lt; have z2 := HS.lt; have z3 := HP.lt
            have HC := hidE (fun W => rea3_c k d O x W hd8)
            have HN := hidE (Blk.made wr #[.func (.func 36) #[] #[], .int .i64 81] 66)
            have H := hidE (And.intro (HR.alloc (.cells #[.func (.func 36) #[] #[], .int .i64 81] 66)) (And.intro (HS.alloc (.cells #[.func (.func 36) #[] #[], .int .i64 81] 66)) (And.intro (HP.alloc (.cells #[.func (.func 36) #[] #[], .int .i64 81] 66)) (hb.alloc hb.size (.cells #[.func (.func 36) #[] #[], .int .i64 81] 66)))))
            clear HR HS HP hb
            go_upto_region 9 with fail
            obtain ⟨ds, hu, hd⟩ := Try.undSpot
            iterate 7 go_step
            refine wpList_load_mid rfl 63 (.tmp 5) rfl w1.heap.size 0 rfl (spC k d O).toList ds H.out.2.1.range hu hd Try.infoSpot ?_
            clear hu hd
            go_wp2_with fail
            ((with_reducible refine (HC.out _).mono ?_); rintro e wc ⟨rfl, hbc⟩)
            have y0 : wc.cell? ⟨w1.heap.size, 0, none⟩ = some (.int .i64 k) := (H.out.2.1.past hbc).cell 0
            have y1 : wc.cell? ⟨wr.heap.size, 1, none⟩ = some (.int .i64 81) := (HN.out.past hbc).cell 1
            have HF := hidE (And.intro (H.out.1.past hbc) (And.intro (H.out.2.1.past hbc) (And.intro (H.out.2.2.1.past hbc) (H.out.2.2.2.trans (hbc.mono H.out.2.2.2.size)))))
            have v1 := HF.out.1.lt; have v2 := HF.out.2.1.lt; have v3 := (HN.out.past hbc).lt
            clear H HN hbc g0 g1 p0 p1 p2 p3 p4 z1 z2 z3 HC
            cases hv : reasS k d O x 3 with
            | true =>
              have HRES := hidE (HRE.out 3 (by omega) HGI.out.2 hv)
              clear hv
              go_upto_region 10 with fail
              go_quiet (fail)
              go_wp2
              refine bodyPost_ret (v := .tuple #[.int .i64 k, .int .i64 81]) (by simp [results, Try.results22, go_sem]) rfl ⟨by rw [HRES.out]; rfl, below_drewN HF.out.2.2.2 _⟩
            | false =>
              go_wp2_with fail
              go_roundg (5 - 4)
              case measure => have := HGI.out.1; omega
              case rel => exact ⟨4, by omega, Nat.le_refl _, by go_num, fun i hi => by
                  by_cases c : i < 3
                  · exact HGI.out.2 i c
                  · rw [show i = 3 by omega]; exact hv, HF.out.1, HF.out.2.1, HF.out.2.2.1, HF.out.2.2.2⟩
          · have g0 : wr.cell? ⟨w.heap.size, 8, none⟩ = some (.func (.func 37) #[] #[]) := HR.cell 8
            have g1 : wr.cell? ⟨w.heap.size, 9, none⟩ = some (.int .i64 80) := HR.cell 9
            have p0 : wr.cell? ⟨q, 0, none⟩ = some (.int .u8 x.kind) := HP.cell 0; have p1 : wr.cell? ⟨q, 1, none⟩ = some (.int .u32 x.n) := HP.cell 1; have p2 : wr.cell? ⟨q, 2, none⟩ = some (.int .u32 x.g) := HP.cell 2; have p3 : wr.cell? ⟨q, 3, none⟩ = some (.int .i64 x.d) := HP.cell 3; have p4 : wr.cell? ⟨q, 4, none⟩ = some (.int .i64 x.kids) := HP.cell 4
            have z1 := HR.lt; have z2 := HS.lt; have z3 := HP.lt
            have HC := hidE (fun W => rea4_c k d O x W)
            have HN := hidE (Blk.made wr #[.func (.func 37) #[] #[], .int .i64 80] 66)
            have H := hidE (And.intro (HR.alloc (.cells #[.func (.func 37) #[] #[], .int .i64 80] 66)) (And.intro (HS.alloc (.cells #[.func (.func 37) #[] #[], .int .i64 80] 66)) (And.intro (HP.alloc (.cells #[.func (.func 37) #[] #[], .int .i64 80] 66)) (hb.alloc hb.size (.cells #[.func (.func 37) #[] #[], .int .i64 80] 66)))))
            clear HR HS HP hb
            go_upto_region 9 with fail
            obtain ⟨ds, hu, hd⟩ := Try.undSpot
            iterate 7 go_step
            refine wpList_load_mid rfl 63 (.tmp 5) rfl w1.heap.size 0 rfl (spC k d O).toList ds H.out.2.1.range hu hd Try.infoSpot ?_
            clear hu hd
            go_wp2_with fail
            ((with_reducible refine (HC.out _).mono ?_); rintro e wc ⟨rfl, hbc⟩)
            have y0 : wc.cell? ⟨w1.heap.size, 0, none⟩ = some (.int .i64 k) := (H.out.2.1.past hbc).cell 0
            have y1 : wc.cell? ⟨wr.heap.size, 1, none⟩ = some (.int .i64 80) := (HN.out.past hbc).cell 1
            have HF := hidE (And.intro (H.out.1.past hbc) (And.intro (H.out.2.1.past hbc) (And.intro (H.out.2.2.1.past hbc) (H.out.2.2.2.trans (hbc.mono H.out.2.2.2.size)))))
            have v1 := HF.out.1.lt; have v2 := HF.out.2.1.lt; have v3 := (HN.out.past hbc).lt
            clear H HN hbc g0 g1 p0 p1 p2 p3 p4 z1 z2 z3 HC
            cases hv : reasS k d O x 4 with
            | true =>
              have HRES := hidE (HRE.out 4 (by omega) HGI.out.2 hv)
              clear hv
              go_upto_region 10 with fail
              go_quiet (fail)
              go_wp2
              refine bodyPost_ret (v := .tuple #[.int .i64 k, .int .i64 80]) (by simp [results, Try.results22, go_sem]) rfl ⟨by rw [HRES.out]; rfl, below_drewN HF.out.2.2.2 _⟩
            | false =>
              go_wp2_with fail
              go_roundg (5 - 5)
              case measure => have := HGI.out.1; omega
              case rel => exact ⟨5, by omega, Nat.le_refl _, by go_num, fun i hi => by
                  by_cases c : i < 4
                  · exact HGI.out.2 i c
                  · rw [show i = 4 by omega]; exact hv, HF.out.1, HF.out.2.1, HF.out.2.2.1, HF.out.2.2.2⟩
        · obtain rfl : j = 5 := by omega
          have hall := hfa
          obtain ⟨hk6, hd7, hnx⟩ := HNX.out hfa
          have p0 : wr.cell? ⟨q, 0, none⟩ = some (.int .u8 x.kind) := HP.cell 0; have p1 : wr.cell? ⟨q, 1, none⟩ = some (.int .u32 x.n) := HP.cell 1; have p2 : wr.cell? ⟨q, 2, none⟩ = some (.int .u32 x.g) := HP.cell 2; have p3 : wr.cell? ⟨q, 3, none⟩ = some (.int .i64 x.d) := HP.cell 3; have p4 : wr.cell? ⟨q, 4, none⟩ = some (.int .i64 x.kids) := HP.cell 4
          have z1 := HR.lt; have z2 := HS.lt; have z3 := HP.lt
          have hbad := hfa 2 (by omega)
          have HC := hidE (fun W => beh8_c k d O x W (by omega) hd8 (fun _ => hd7) HAT.out.top HAT.out.num (bad_kids hbad))
          have HNE := hidE hnx
          have H := hidE (And.intro HR (And.intro HS hb))
          clear HR HS HP hb hfa hall hnx hbad
          obtain ⟨ds, hu, hd⟩ := Try.undSpot
          go_upto_region 12 with fail
          go_step
          refine wpList_load_mid rfl 63 (.tmp 5) rfl w1.heap.size 0 rfl (spC k d O).toList ds H.out.2.1.range hu hd Try.infoSpot ?_
          clear hu hd
          go_wp2_with fail
          ((with_reducible refine (HC.out _).mono ?_); rintro e wc ⟨rfl, hbc⟩)
          dsimp only
          go_step
          have HS' := H.out.2.1.past hbc
          have HR' := (H.out.1.past hbc).setCells_other (b := w1.heap.size) (by omega) (spC (k + 1) (popN (nextO d O x) (nextD d x)) (nextO d O x)).toList 0
          have hb' := below_setCells (H.out.2.2.trans (hbc.mono H.out.2.2.size)) (show w.heap.size ≤ w1.heap.size by omega) (spC (k + 1) (popN (nextO d O x) (nextD d x)) (nextO d O x)).toList 0
          refine wpList_store_mid rfl 63 (.tmp 5) (.tmp 35) rfl w1.heap.size 0 (spC (k + 1) (popN (nextO d O x) (nextD d x)) (nextO d O x)) rfl rfl HS'.there Try.infoSpot (spC_one _ _ _) ?_
          replace HS' := spC_all k d (k + 1) (popN (nextO d O x) (nextD d x)) O (nextO d O x) ▸ HS'.setCells (spC (k + 1) (popN (nextO d O x) (nextD d x)) (nextO d O x)).toList 0
          generalize World.setCells wc _ _ _ = wn at *
          have HF := hidE (And.intro HR' (And.intro HS' hb'))
          clear HR' HS' hb' H hbc HC
          generalize popN (nextO d O x) (nextD d x) = d2 at *
          generalize nextO d O x = O2 at *
          go_wp2_with fail
          go_roundg (l.length - (k + 1))
          case measure => have := HG.out; omega
          case rel => exact ⟨k + 1, d2, O2, by omega, Nat.le_refl _, by go_num, HNE.out, by omega, HF.out.1, HF.out.2.1, HF.out.2.2⟩
    · obtain rfl : k = l.length := by omega
      have r1 : decide ((l.length : Int) < (l.length : Int)) = false := decide_eq_false (by omega)
      have r2 : decide (l.length < l.length) = false := decide_eq_false (by omega)
      have HE := hidE (at_end hat rfl)
      have s0 : wr.cell? ⟨w1.heap.size, 0, none⟩ = some (.int .i64 l.length) := HS.cell 0
      have s1 : wr.cell? ⟨w1.heap.size, 1, none⟩ = some (.int .i64 d) := HS.cell 1
      have z1 := HS.lt
      have HB := hidE hb
      clear hat HR HS hb hgh HR0 HS0 HW0 HB0 HB1
      by_cases c0 : l.length = 0
      · have q1 : ((l.length : Int) == 0) = true := by rw [c0]; rfl
        rw [if_pos (.inl c0)] at HE
        clear c0
        go_wp2
        refine bodyPost_ret (v := .tuple #[.int .i64 l.length, .int .i64 81]) (by simp [results, Try.results22, go_sem]) rfl ⟨by rw [HE.out], HB.out⟩
      · have q1 : ((l.length : Int) == 0) = false := beq_eq_false_iff_ne.2 (by omega)
        by_cases c1 : 0 < d
        · have q2 : decide ((d : Int) > 0) = true := decide_eq_true (by omega)
          have q3 : decide (0 < d) = true := decide_eq_true c1
          rw [if_pos (.inr c1)] at HE
          go_wp2
          refine bodyPost_ret (v := .tuple #[.int .i64 l.length, .int .i64 81]) (by simp [results, Try.results22, go_sem]) rfl ⟨by rw [HE.out], HB.out⟩
        · have q2 : decide ((d : Int) > 0) = false := decide_eq_false (by omega)
          have q3 : decide (0 < d) = false := decide_eq_false c1
          rw [if_neg (by omega)] at HE
          go_wp2
          refine bodyPost_ret (v := .tuple #[.int .i64 0, .int .i64 0]) (by simp [results, Try.results22, go_sem]) rfl ⟨by rw [HE.out]; rfl, HB.out⟩
end Go.Proofs.Ytnifmdeojgfgcaa

namespace Go.Proofs.Ytnifmdeojgfgcaa
open Go.ChangeShapes Go.WideShapes Go.ChangeAt Go.RowKit
attribute [local irreducible] Go.Calls

set_option maxHeartbeats 1000000 in
theorem rbad_c (x : Prt) (w : World) : Calls Try.prog 32 #[prtV x] w fun e w' => e = .returned (.bool (badP x)) ∧ Below w.heap.size w w' := by
  obtain ⟨kd, n, g, d, ks⟩ := x
  by_cases hk : kd = 0
  · have HE := hidE (show badP ⟨kd, n, g, d, ks⟩ = decide (ks ≠ 0 ∨ n = 0 ∨ 4096 < n ∨ g = 0 ∨ n < g ∨ n % g ≠ 0 ∨ d < 1 ∨ 4096 < d) by unfold badP; rw [if_pos hk])
    rw [HE.out]
    have k1 : ((kd : Int) == 0) = true := by simp [hk]
    have hmod : (n : Int).tmod (g : Int) = ((n % g : Nat) : Int) := by rw [Int.tmod_eq_emod_of_nonneg (by omega)]; omega
    clear HE hk
    go_enter Try.func32, Try.ntmps32
    go_wp2
    all_goals
      go_ret
      refine ⟨ret_bool ?_, by (repeat (first | exact Below.refl _ _ | assumption | refine balloc ?_ _ | refine below_drewN ?_ _ | refine bstep (by assumption) ?_ | refine bstep (Past.prop _) ?_ | refine Below.setCell ?_ (by first | exact Nat.le_refl _ | (simp; done) | (simp; omega)) _))⟩
      first
        | (symm; apply decide_eq_true; omega)
        | (symm; apply decide_eq_false; omega)
        | (simp_all; done)
        | (rw [Bool.eq_iff_iff]; simp_all; omega)
  · have HE := hidE (show badP ⟨kd, n, g, d, ks⟩ = decide (4 < kd ∨ ks < 1 ∨ 16 < ks ∨ n ≠ 0 ∨ g ≠ 0 ∨ d ≠ 0) by unfold badP; rw [if_neg hk])
    rw [HE.out]
    have k1 : ((kd : Int) == 0) = false := by simp; omega
    clear HE hk
    go_enter Try.func32, Try.ntmps32
    go_wp2
    all_goals
      go_ret
      refine ⟨ret_bool ?_, by (repeat (first | exact Below.refl _ _ | assumption | refine balloc ?_ _ | refine below_drewN ?_ _ | refine bstep (by assumption) ?_ | refine bstep (Past.prop _) ?_ | refine Below.setCell ?_ (by first | exact Nat.le_refl _ | (simp; done) | (simp; omega)) _))⟩
      first
        | (symm; apply decide_eq_true; omega)
        | (symm; apply decide_eq_false; omega)
        | (simp_all; done)
        | (rw [Bool.eq_iff_iff]; simp_all; omega)
/-- Three integers. -/
abbrev I3 (r : Nat × Nat × Int) : Value := .tuple #[.int .i64 r.1, .int .i64 r.2.1, .int .i64 r.2.2]
set_option maxRecDepth 100000 in
set_option maxHeartbeats 4000000 in
theorem rread_c (l : List Prt) (a : Option Addr) (cap : Nat) (hl : l.length ≤ 1000000000) : ∀ (m p deep ink : Nat) (w : World), l.length + 1 - p ≤ m → ArgP w a l → deep ≤ 1000000000 → p ≤ 1000000000 →
    Calls Try.prog 28 #[.slice a l.length cap, .int .i64 p, .int .i64 deep, .int .u8 ink] w fun e w' => e = .returned (I3 (rdT (rdS (l.length + 1) l p deep ink 1))) ∧ Below w.heap.size w w' := by
  intro m
  induction m with
  | zero =>
    intro p deep ink w hm hA hd hp
    have HE := hidE (rd_stop (stop_out (deep := deep) (ink := ink) (show l.length ≤ p by omega)))
    rw [HE.out]
    have q1 : decide ((p : Int) ≥ (l.length : Int)) = true := decide_eq_true (by omega)
    have q2 : decide (l.length ≤ p) = true := decide_eq_true (by omega)
    clear HE
    go_enter Try.func28, Try.ntmps28
    go_wp2
    refine bodyPost_ret (v := .tuple #[.int .i64 0, .int .i64 p, .int .i64 81]) (by simp [results, Try.results28, go_sem]) rfl ⟨rfl, Below.refl _ _⟩
  | succ m ih =>
    intro p deep ink w hm hA hd hp
    by_cases hlt : p < l.length
    · obtain ⟨b, off, rfl, hbb, hc⟩ := hA (by omega)
      obtain ⟨c0, c1, c2, c3, c4⟩ := hc.get hlt
      have q1 : decide ((p : Int) ≥ (l.length : Int)) = false := decide_eq_false (by omega)
      have q2 : decide (l.length ≤ p) = false := decide_eq_false (by omega)
      have HBAD := hidE (fun w => rbad_c (l.getD p ⟨0, 0, 0, 0, 0⟩) w)
      have HC := hidE hc
      have hHd := hd
      have HPR := hidE (show l.getD p pr0 = l.getD p ⟨0, 0, 0, 0, 0⟩ from rfl)
      rw [HPR.out] at c0 c1 c2 c3 c4
      by_cases h64 : 64 ≤ p
      · have HE := hidE (rd_stop (stop_shape (deep := deep) (ink := ink) hlt (.inl h64)))
        rw [HE.out]
        have q3 : decide ((p : Int) ≥ 64) = true := decide_eq_true (by omega)
        have q4 : decide (64 ≤ p) = true := decide_eq_true h64
        clear HE hc c0 c1 c2 c3 c4 ih
        go_enter Try.func28, Try.ntmps28
        go_wp2
        refine bodyPost_ret (v := .tuple #[.int .i64 0, .int .i64 p, .int .i64 81]) (by simp [results, Try.results28, go_sem]) rfl ⟨rfl, Below.refl _ _⟩
      · have q3 : decide ((p : Int) ≥ 64) = false := decide_eq_false (by omega)
        have q4 : decide (64 ≤ p) = false := decide_eq_false h64
        cases hbad : badP (l.getD p ⟨0, 0, 0, 0, 0⟩)
        · rw [hbad] at HBAD
          by_cases hin : ink = 2 ∧ (l.getD p ⟨0, 0, 0, 0, 0⟩).kind ≠ 0
          · have HE := hidE (rd_stop (stop_shape (deep := deep) (ink := ink) hlt (.inr (.inr hin))))
            rw [HE.out]
            have i1 : ((ink : Int) == 2) = true := by simp [hin.1]
            have i2 : (((l.getD p ⟨0, 0, 0, 0, 0⟩).kind : Int) != 0) = true := bne_iff_ne.2 (by have := hin.2; omega)
            clear HE hc ih hbad HPR hin
            generalize (l.getD p ⟨0, 0, 0, 0, 0⟩) = x at *
            obtain ⟨kd, n, g, d, ks⟩ := x
            simp only at c0 c1 c2 c3 c4 i2
            go_enter Try.func28, Try.ntmps28
            go_wp2_with (go_at_call 32; (with_reducible refine (HBAD.out _).mono ?_); rintro e w1 ⟨rfl, hb1⟩; have c5 := (hb1.cell (p := ⟨b, off + p * 5, none⟩) hbb).trans c0)
            refine bodyPost_ret (v := .tuple #[.int .i64 0, .int .i64 p, .int .i64 81]) (by simp [results, Try.results28, go_sem]) rfl ⟨rfl, hb1⟩
          · have hst := stop_deep (deep := deep) (ink := ink) hlt (fun h => by
              rcases h with h | h | h
              · exact h64 h
              · rw [hbad] at h; cases h
              · exact hin h)
            have hin2 : ((ink : Int) == 2) = false ∨ (((ink : Int) == 2) = true ∧ (((l.getD p ⟨0, 0, 0, 0, 0⟩).kind : Int) != 0) = false) := by
              by_cases c : ink = 2
              · refine .inr ⟨by simp [c], ?_⟩
                have : (l.getD p ⟨0, 0, 0, 0, 0⟩).kind = 0 := by
                  by_cases c2 : (l.getD p ⟨0, 0, 0, 0, 0⟩).kind = 0
                  · exact c2
                  · exact absurd ⟨c, c2⟩ hin
                rw [this]; rfl
              · exact .inl (by simp; omega)
            by_cases h8 : 8 < deep
            · rw [if_pos h8] at hst
              have HE := hidE (rd_stop hst)
              rw [HE.out]
              have d1 : decide ((deep : Int) > 8) = true := decide_eq_true (by omega)
              have d2 : decide (8 < deep) = true := decide_eq_true h8
              clear HE hc ih hbad HPR hin hst
              generalize (l.getD p ⟨0, 0, 0, 0, 0⟩) = x at *
              obtain ⟨kd, n, g, d, ks⟩ := x
              simp only at c0 c1 c2 c3 c4 hin2
              rcases hin2 with i1 | ⟨i1, i2⟩
              all_goals
                go_enter Try.func28, Try.ntmps28
                go_wp2_with (go_at_call 32; (with_reducible refine (HBAD.out _).mono ?_); rintro e w1 ⟨rfl, hb1⟩; have c5 := (hb1.cell (p := ⟨b, off + p * 5, none⟩) hbb).trans c0)
                refine bodyPost_ret (v := .tuple #[.int .i64 0, .int .i64 p, .int .i64 80]) (by simp [results, Try.results28, go_sem]) rfl ⟨rfl, hb1⟩
            · rw [if_neg h8] at hst
              have HOP := hidE (rd_open hst)
              have hks := bad_kids hbad
              have d1 : decide ((deep : Int) > 8) = false := decide_eq_false (by omega)
              have d2 : decide (8 < deep) = false := decide_eq_false h8
              have w1 : IntKind.i64.wrap ((p : Int) + 1) = (p : Int) + 1 := IntWalk.i64_in _ (by omega)
              have w2 : IntKind.i64.wrap ((deep : Int) + 1) = (deep : Int) + 1 := IntWalk.i64_in _ (by omega)
              clear hbad HPR hin hst hA
              generalize (l.getD p ⟨0, 0, 0, 0, 0⟩) = x at *
              obtain ⟨kd, n, g, d, ks⟩ := x
              simp only at c0 c1 c2 c3 c4 hin2 hks HOP
              obtain ⟨K, rfl⟩ : ∃ K : Nat, ks = (K : Int) := ⟨ks.toNat, by omega⟩
              rw [Int.toNat_natCast] at HOP
              have HA := hidE (show ArgP w (some ⟨b, off, none⟩) l from fun _ => ⟨b, off, rfl, hbb, HC.out⟩)
              have HI := hidE ih
              have HM := hidE (And.intro hm hHd)
              clear ih hc hm hHd hd
              rcases hin2 with i1 | ⟨i1, i2⟩
              all_goals
                go_enter Try.func28, Try.ntmps28
                go_wp2_with (go_at_call 32; (with_reducible refine (HBAD.out _).mono ?_); rintro e w1 ⟨rfl, hb1⟩; have c5 := (hb1.cell (p := ⟨b, off + p * 5, none⟩) hbb).trans c0)
                go_loopg [11, 12] K (fun gh v11 v12 wr => ∃ k q : Nat, k ≤ K ∧ K - k ≤ gh ∧ v12 = .int .i64 k ∧ v11 = .int .i64 q ∧ p < q ∧ q ≤ l.length ∧ rdS (l.length + 1) l q (deep + 1) kd (K - k) = rdS (l.length + 1) l (p + 1) (deep + 1) kd K ∧ Below w.heap.size w wr)
                case atStart => exact ⟨0, p + 1, Nat.zero_le _, Nat.le_refl _, rfl, by simp, by omega, by omega, rfl, hb1⟩
                case round =>
                  obtain ⟨k, q, hkk, hgh, rfl, rfl, hq1, hq2, hR, hb⟩ := hrel
                  have HB := hidE hb; have HR := hidE hR; have HG := hidE hgh
                  have f0 := (hb.cell (p := ⟨b, off + p * 5, none⟩) hbb).trans c0
                  have f4 := (hb.cell (p := ⟨b, off + p * 5 + 4, none⟩) hbb).trans c4
                  have fz := Nat.lt_of_lt_of_le hbb hb.size
                  clear hb hR hgh c5 hb1 c1 c2 c3
                  by_cases hk : k < K
                  · have r1 : decide ((k : Int) < (K : Int)) = true := decide_eq_true (by omega)
                    have r2 : decide (k < K) = true := decide_eq_true hk
                    have HCALL := hidE (fun w' (hb' : Below w.heap.size w w') => show Calls Try.prog 28 #[.slice (some ⟨b, off, none⟩) l.length cap, .int .i64 q, .int .i64 ((deep : Int) + 1), .int .u8 kd] w' fun e w'' => e = .returned (I3 (rdT (rdS (l.length + 1) l q (deep + 1) kd 1))) ∧ Below w'.heap.size w' w'' from by
                      have := HI.out q (deep + 1) kd w' (by have := HM.out.1; omega) (HA.out.past hb') (by omega) (by omega)
                      rw [show ((deep + 1 : Nat) : Int) = (deep : Int) + 1 by omega] at this
                      exact this)
                    have HONE := hidE (rd_one (m := l.length + 1) (l := l) (p := q) (deep := deep + 1) (ink := kd) (n := K - k - 1) (by omega) (by omega))
                    cases hone : rdS (l.length + 1) l q (deep + 1) kd 1 with
                    | error e =>
                      rw [hone] at HCALL HONE
                      have he : (e.2 == 0) = false ∧ (e.2 != 0) = true := by
                        rcases rd_err _ _ _ _ _ _ _ hone with h | h <;> rw [h] <;> decide
                      obtain ⟨he1, he2⟩ := he
                      have HF := hidE (show rdS (l.length + 1) l p deep ink 1 = .error e by
                        rw [HOP.out, ← HR.out, show K - k = K - k - 1 + 1 by omega, HONE.out])
                      rw [show rdT (.error e) = (0, e.1, e.2) from rfl] at HCALL
                      clear hone
                      obtain ⟨ea, eb⟩ := e
                      simp only at he1 he2
                      go_wp2_with (go_at_call 28; (with_reducible refine (HCALL.out _ HB.out).mono ?_); rintro e w2 ⟨rfl, hb2⟩)
                      refine bodyPost_ret (v := .tuple #[.int .i64 0, .int .i64 ea, .int .i64 eb]) (by simp [results, Try.results28, go_sem]) rfl ⟨by rw [HF.out]; rfl, HB.out.trans (hb2.mono HB.out.size)⟩
                    | ok q' =>
                      rw [hone] at HCALL HONE
                      have hgt := rd_gt _ _ _ _ _ _ _ hone
                      rw [show rdT (.ok q') = (q', 0, 0) from rfl] at HCALL
                      clear hone
                      go_wp2_with (go_at_call 28; (with_reducible refine (HCALL.out _ HB.out).mono ?_); rintro e w2 ⟨rfl, hb2⟩)
                      go_roundg (K - (k + 1))
                      case measure => have := HG.out; omega
                      case rel => exact ⟨k + 1, q', by omega, Nat.le_refl _, by go_num, rfl, by omega, by omega, by rw [← HR.out, show K - k = K - k - 1 + 1 by omega, HONE.out]; rfl, HB.out.trans (hb2.mono HB.out.size)⟩
                  · obtain rfl : k = K := by omega
                    have r1 : decide ((k : Int) < (k : Int)) = false := decide_eq_false (by omega)
                    have r2 : decide (k < k) = false := decide_eq_false (by omega)
                    have HF := hidE (show rdS (l.length + 1) l p deep ink 1 = .ok q by rw [HOP.out, ← HR.out, Nat.sub_self, rd_zero])
                    go_wp2
                    refine bodyPost_ret (v := .tuple #[.int .i64 q, .int .i64 0, .int .i64 0]) (by simp [results, Try.results28, go_sem]) rfl ⟨by rw [HF.out]; rfl, HB.out⟩
        · have HE := hidE (rd_stop (stop_shape (deep := deep) (ink := ink) hlt (.inr (.inl hbad))))
          rw [HE.out]
          rw [hbad] at HBAD
          clear HE hc ih hbad HPR
          generalize (l.getD p ⟨0, 0, 0, 0, 0⟩) = x at *
          obtain ⟨kd, n, g, d, ks⟩ := x
          simp only at c0 c1 c2 c3 c4
          go_enter Try.func28, Try.ntmps28
          go_wp2_with (go_at_call 32; (with_reducible refine (HBAD.out _).mono ?_); rintro e w1 ⟨rfl, hb1⟩)
          refine bodyPost_ret (v := .tuple #[.int .i64 0, .int .i64 p, .int .i64 81]) (by simp [results, Try.results28, go_sem]) rfl ⟨rfl, hb1⟩
    · have HE := hidE (rd_stop (stop_out (deep := deep) (ink := ink) (show l.length ≤ p by omega)))
      rw [HE.out]
      have q1 : decide ((p : Int) ≥ (l.length : Int)) = true := decide_eq_true (by omega)
      have q2 : decide (l.length ≤ p) = true := decide_eq_true (by omega)
      clear HE ih
      go_enter Try.func28, Try.ntmps28
      go_wp2
      refine bodyPost_ret (v := .tuple #[.int .i64 0, .int .i64 p, .int .i64 81]) (by simp [results, Try.results28, go_sem]) rfl ⟨rfl, Below.refl _ _⟩
end Go.Proofs.Ytnifmdeojgfgcaa

namespace Go.Proofs.Ytnifmdeojgfgcaa
open Go.ChangeShapes Go.WideShapes Go.ChangeAt Go.RowKit
attribute [local irreducible] Go.Calls

/-- The numbers that a slice's cells hold. -/
def CellsK (k : IntKind) (w : World) (b off : Nat) (l : List Int) : Prop := ∀ i, i < l.length → w.cell? ⟨b, off + i, none⟩ = some (.int k (l.getD i 0))
def ArgK (k : IntKind) (w : World) (a : Option Addr) (l : List Int) : Prop := 0 < l.length → ∃ b off, a = some ⟨b, off, none⟩ ∧ b < w.heap.size ∧ CellsK k w b off l
theorem CellsK.below {k : IntKind} {w w' : World} {b off B : Nat} {l : List Int} (h : CellsK k w b off l) (hb : Below B w w') (hB : b < B) : CellsK k w' b off l := fun i hi => (hb.cell (p := ⟨b, _, none⟩) hB).trans (h i hi)
theorem ArgK.past {k : IntKind} {w w' : World} {a : Option Addr} {l : List Int} (h : ArgK k w a l) (hb : Below w.heap.size w w') : ArgK k w' a l := fun hl => by
  obtain ⟨b, off, e, h1, h2⟩ := h hl
  exact ⟨b, off, e, Nat.lt_of_lt_of_le h1 hb.size, h2.below hb h1⟩
/-- The cells of a list of numbers. -/
def cellsK (k : IntKind) (l : List Int) : List Value := l.map (.int k)
theorem cellsK_app (k : IntKind) (l r : List Int) : cellsK k (l ++ r) = cellsK k l ++ cellsK k r := by unfold cellsK; rw [List.map_append]
theorem kgetD (l : List Int) (i : Nat) (h : i < l.length) : l.getD i 0 = l[i] := by rw [List.getD_eq_getElem?_getD, List.getElem?_eq_getElem h]; rfl
theorem cellsK_get {k : IntKind} {l : List Int} {i : Nat} (h : i < l.length) : (cellsK k l)[i]? = some (.int k (l.getD i 0)) := by
  unfold cellsK
  rw [List.getElem?_map, List.getElem?_eq_getElem h, kgetD _ _ h]; rfl
/-- What a call has appended to reads as a slice. -/
theorem argK_own {k : IntKind} {w : World} {base : Nat} {e : TypeId} {v : Value} {l : List Int} (h : w.ownsRow base e 1 v l.length (cellsK k l)) : ∃ a cap, v = .slice a l.length cap ∧ ArgK k w a l := by
  obtain ⟨h1, h2 | ⟨g, cap, cur, rfl, h3, h4, h5, h6, h7, h8⟩⟩ := h
  · obtain ⟨rfl, h2⟩ := h2
    have : l = [] := List.eq_nil_of_length_eq_zero h2
    subst this
    exact ⟨none, 0, rfl, fun h => by simp at h⟩
  · refine ⟨some ⟨g, 0, none⟩, cap, rfl, fun _ => ⟨g, 0, rfl, lt_of_block h4, fun i hi => ?_⟩⟩
    have hg := cellsK_get (k := k) hi
    have e : w.cell? ⟨g, 0 + i, none⟩ = cur[i]? := by simp [World.cell?, h4]
    rw [e, ← Array.getElem?_toList]
    rw [← h8, List.getElem?_take, if_pos (by omega)] at hg
    exact hg
end Go.Proofs.Ytnifmdeojgfgcaa

namespace Go.Proofs.Ytnifmdeojgfgcaa
open Go.ChangeShapes Go.WideShapes Go.ChangeAt Go.RowKit
attribute [local irreducible] Go.Calls

theorem own_below {w w' : World} {B : Nat} {e : TypeId} {sz : Nat} {v : Value} {n : Nat} {xs : List Value} (h : w.ownsRow B e sz v n xs) (hb : Below w.heap.size w w') : w'.ownsRow B e sz v n xs := by
  obtain ⟨h1, h2 | ⟨g, cap, cur, h3, h4, h5, h6⟩⟩ := h
  · exact ⟨h1, .inl h2⟩
  · exact ⟨h1, .inr ⟨g, cap, cur, h3, h4, (hb.block g (lt_of_block h5)).trans h5, h6⟩⟩
/-- The block that an append may write lies from the base on. -/
theorem own_block {w : World} {B : Nat} {e : TypeId} {sz : Nat} {v : Value} {n : Nat} {xs : List Value} (h : w.ownsRow B e sz v n xs) {k : Nat} (hk : v.ownBlock = some k) : B ≤ k := by
  obtain ⟨h1, h2 | ⟨g, cap, cur, h3, h4, h5, h6⟩⟩ := h
  · rw [h2.1] at hk; simp [Value.ownBlock] at hk
  · rw [h3] at hk; simp [Value.ownBlock] at hk; omega
theorem own_kept {A B : World} {β sz n : Nat} {e : TypeId} {v : Value} {xs : List Value} (h : A.ownsRow β e sz v n xs) (hk : ∀ k, v.ownBlock = some k → B.heap[k]? = A.heap[k]?) : B.ownsRow β e sz v n xs := by
  obtain ⟨h1, h2 | ⟨g, cap, cur, h3, h4, h5, h6⟩⟩ := h
  · exact ⟨h1, .inl h2⟩
  · exact ⟨h1, .inr ⟨g, cap, cur, h3, h4, (hk g (by rw [h3]; rfl)).trans h5, h6⟩⟩
theorem own_lt {A : World} {β sz n : Nat} {e : TypeId} {v : Value} {xs : List Value} (h : A.ownsRow β e sz v n xs) {k : Nat} (hk : v.ownBlock = some k) : k < A.heap.size := by
  obtain ⟨h1, h2 | ⟨g, cap, cur, h3, h4, h5, h6⟩⟩ := h
  · rw [h2.1] at hk; simp [Value.ownBlock] at hk
  · rw [h3] at hk; simp [Value.ownBlock] at hk; subst hk; exact lt_of_block h5
theorem own_has {A : World} {β sz n : Nat} {e : TypeId} {v : Value} {xs : List Value} (h : A.ownsRow β e sz v n xs) (hv : v ≠ .slice none 0 0) : ∃ k, v.ownBlock = some k := by
  obtain ⟨h1, h2 | ⟨g, cap, cur, h3, h4, h5, h6⟩⟩ := h
  · exact absurd h2.1 hv
  · exact ⟨g, by rw [h3]; rfl⟩
theorem own_sli {A : World} {β sz n : Nat} {e : TypeId} {v : Value} {xs : List Value} (h : A.ownsRow β e sz v n xs) : ∃ a cap, v = .slice a n cap := by
  obtain ⟨h1, h2 | ⟨g, cap, cur, h3, h4, h5, h6⟩⟩ := h
  · exact ⟨none, 0, by rw [h2.1, h2.2]⟩
  · exact ⟨_, cap, h3⟩
theorem own_nil {A : World} (β sz : Nat) (e : TypeId) : A.ownsRow β e sz (.slice none 0 0) 0 [] := ⟨by simp, .inl ⟨rfl, rfl⟩⟩
theorem keptS {w : World} {k b i : Nat} (h : k ≠ b) (v : Value) : (w.setCell ⟨b, i, none⟩ v).heap[k]? = w.heap[k]? := Below.heap_setCell _ _ _ _ h
theorem keptA {w : World} {k : Nat} (h : k < w.heap.size) (o : Obj) : (w.alloc o).heap[k]? = w.heap[k]? := Below.heap_alloc _ _ _ h
/-- The block p holds a slice that owns its row; g: from where on its blocks lie, and the one that it has. -/
def OwnI (w : World) (p : Nat) (t e : TypeId) (sz n : Nat) (xs : List Value) (g : Option (Nat × Nat)) (W : World) : Prop :=
  ∃ (v : Value) (β : Nat), Blk W p #[v] t ∧ Below w.heap.size w W ∧ W.ownsRow β e sz v n xs ∧ p < β ∧ β ≤ W.heap.size ∧ ((g = none ∧ v = .slice none 0 0) ∨ ∃ k, g = some (β, k) ∧ v.ownBlock = some k)
theorem ownI_keep {w : World} {p sz n : Nat} {t e : TypeId} {xs : List Value} {g : Option (Nat × Nat)} {A B : World} {m : Nat} (hp : p < m) (hn : w.heap.size ≤ m) (h : OwnI w p t e sz n xs g A) (hb : Below m A B) (hk : ∀ b k, g = some (b, k) → B.heap[k]? = A.heap[k]?) : OwnI w p t e sz n xs g B := by
  obtain ⟨v, β, h1, h2, h3, h4, h5, h6⟩ := h
  refine ⟨v, β, h1.below hb hp, h2.trans (hb.mono hn), own_kept h3 (fun k e => ?_), h4, Nat.le_trans h5 hb.size, h6⟩
  rcases h6 with ⟨_, q⟩ | ⟨k', q, q2⟩
  · rw [q] at e; simp [Value.ownBlock] at e
  · rw [q2] at e; cases e; exact hk _ _ q
theorem ownI_own {w : World} {p sz n : Nat} {t e : TypeId} {xs : List Value} {g : Option (Nat × Nat)} {A : World} (h : OwnI w p t e sz n xs g A) : ∀ b k, g = some (b, k) → b ≤ k ∧ k < A.heap.size := by
  obtain ⟨v, β, h1, h2, h3, h4, h5, h6⟩ := h
  rintro b k e
  rcases h6 with ⟨q, _⟩ | ⟨k', q, q2⟩
  · rw [q] at e; cases e
  · rw [q] at e; cases e
    exact ⟨own_block h3 q2, own_lt h3 q2⟩
theorem ownI_lt {w : World} {p sz n : Nat} {t e : TypeId} {xs : List Value} {g : Option (Nat × Nat)} {A : World} (h : OwnI w p t e sz n xs g A) : p < A.heap.size := by
  obtain ⟨v, β, h1, _⟩ := h
  exact h1.lt
/-- From where on what is appended may lie. -/
theorem ownI_base {w : World} {p sz n : Nat} {t e : TypeId} {xs : List Value} {g : Option (Nat × Nat)} {A : World} (h : OwnI w p t e sz n xs g A) : ∃ (av : Option Addr) (cap γ : Nat), Blk A p #[.slice av n cap] t ∧ Below w.heap.size w A ∧ A.ownsRow γ e sz (.slice av n cap) n xs ∧ p < γ ∧ γ ≤ A.heap.size ∧
    (∀ k, (Value.slice av n cap).ownBlock = some k → g = some (γ, k) ∧ γ ≤ k) ∧ (A.heap.size ≤ γ ∨ ∃ j, g = some (γ, j)) := by
  have hz := ownI_lt h
  obtain ⟨v, β, h1, h2, h3, h4, h5, h6⟩ := h
  obtain ⟨a, cap, rfl⟩ := own_sli h3
  rcases h6 with ⟨q, e'⟩ | ⟨k', q, q2⟩
  · have hx : A.ownsRow A.heap.size e sz (.slice a n cap) n xs := by
      obtain ⟨q1, q2 | ⟨g', cap', cur, q3, _⟩⟩ := h3
      · exact ⟨q1, .inl q2⟩
      · rw [q3] at e'; cases e'
    refine ⟨a, cap, A.heap.size, h1, h2, hx, hz, Nat.le_refl _, fun k hk => ?_, .inl (Nat.le_refl _)⟩
    rw [e'] at hk; simp [Value.ownBlock] at hk
  · exact ⟨a, cap, β, h1, h2, h3, h4, h5, fun k hk => ⟨by rw [q2] at hk; cases hk; exact q, own_block h3 hk⟩, .inr ⟨k', q⟩⟩
theorem grown_set (w : World) (p i : Nat) (v : Value) : w.grownBy (w.setCell ⟨p, i, none⟩ v) (some p) := ⟨rfl, rfl, rfl, by simp [World.setCell], fun k _ hk => Below.heap_setCell _ _ _ _ (fun e => hk (by rw [e]))⟩
theorem grown_trans {a b c : World} {r : Option Nat} (h : a.grownBy b r) (h' : b.grownBy c r) : a.grownBy c r :=
  ⟨h'.os.trans h.os, h'.tape.trans h.tape, h'.output.trans h.output, Nat.le_trans h.size h'.size, fun k hk hr => (h'.block k (Nat.lt_of_lt_of_le hk h.size) hr).trans (h.block k hk hr)⟩
theorem grown_refl (w : World) (r : Option Nat) : w.grownBy w r := ⟨rfl, rfl, rfl, Nat.le_refl _, fun _ _ _ => rfl⟩
theorem grown_any {w w' : World} {r : Option Nat} (h : Below w.heap.size w w') : w.grownBy w' r := ⟨h.os, h.tape, h.output, h.size, fun k hk _ => h.block k hk⟩
theorem Blk.grown {w w' : World} {k : Nat} {cs : Array Value} {t : TypeId} {r : Option Nat} (h : Blk w k cs t) (hg : w.grownBy w' r) (hr : some k ≠ r) : Blk w' k cs t := (hg.block k h.lt hr).trans h
theorem own_grown {w w' : World} {B p : Nat} {e : TypeId} {sz : Nat} {v : Value} {n : Nat} {xs : List Value} (h : w.ownsRow B e sz v n xs) (hg : w.grownBy w' (some p)) (hp : p < B) : w'.ownsRow B e sz v n xs := by
  obtain ⟨h1, h2 | ⟨g, cap, cur, h3, h4, h5, h6⟩⟩ := h
  · exact ⟨h1, .inl h2⟩
  · exact ⟨h1, .inr ⟨g, cap, cur, h3, h4, (hg.block g (lt_of_block h5) (fun e => by simp at e; omega)).trans h5, h6⟩⟩
theorem new_cellsB (w : World) (cs : Array Value) (t : TypeId) : ∀ j u, cs.toList[j]? = some u → (w.alloc (.cells cs t)).cell? ((⟨w.heap.size, 0, none⟩ : Addr).add j) = some u := by
  intro j u h
  have e : ((⟨w.heap.size, 0, none⟩ : Addr).add j) = ⟨w.heap.size, j, none⟩ := by
    unfold Addr.add
    by_cases c : j = 0
    · subst c; simp
    · simp [c]
  rw [e, (Blk.made w cs t).cell j, ← h, Array.getElem?_toList]
end Go.Proofs.Ytnifmdeojgfgcaa

namespace Go.Proofs.Ytnifmdeojgfgcaa
open Go.ChangeShapes Go.WideShapes Go.ChangeAt Go.RowKit
attribute [local irreducible] Go.Calls

theorem rtree_c (l : List Prt) (a : Option Addr) (cap : Nat) (w : World) (hl : l.length ≤ 1000000000) (hA : ArgP w a l) :
    Calls Try.prog 23 #[.slice a l.length cap] w fun e w' => e = .returned (.tuple #[.int .i64 (treeS l).1, .int .i64 (treeS l).2]) ∧ Below w.heap.size w w' := by
  have HR := hidE (show Calls Try.prog 28 #[.slice a l.length cap, .int .i64 0, .int .i64 1, .int .u8 0] w _ from rread_c l a cap hl (l.length + 1) 0 1 0 w (by omega) hA (by omega) (by omega))
  have HT := hidE (show treeS l = (match rdS (l.length + 1) l 0 1 0 1 with | .error x => x | .ok e => if e < l.length then (e, 81) else (0, 0)) from rfl)
  cases hrd : rdS (l.length + 1) l 0 1 0 1 with
  | error x =>
    rw [hrd] at HR HT
    have he : (x.2 == 0) = false ∧ (x.2 != 0) = true := by
      rcases rd_err _ _ _ _ _ _ _ hrd with h | h <;> rw [h] <;> decide
    obtain ⟨he1, he2⟩ := he
    obtain ⟨xa, xb⟩ := x
    simp only [rdT] at HR HT he1 he2
    clear hrd hA
    go_enter Try.func23, Try.ntmps23
    go_wp2_with (go_at_call 28; (with_reducible refine HR.out.mono ?_); rintro e w2 ⟨rfl, hb2⟩)
    go_ret2
    exact ⟨by rw [HT.out]; rfl, hb2⟩
  | ok q =>
    rw [hrd] at HR HT
    simp only [rdT] at HR HT
    by_cases hq : q < l.length
    · rw [if_pos hq] at HT
      have r1 : decide ((q : Int) < (l.length : Int)) = true := decide_eq_true (by omega)
      have r2 : decide (q < l.length) = true := decide_eq_true hq
      clear hrd hA
      go_enter Try.func23, Try.ntmps23
      go_wp2_with (go_at_call 28; (with_reducible refine HR.out.mono ?_); rintro e w2 ⟨rfl, hb2⟩)
      go_ret2
      exact ⟨by rw [HT.out]; rfl, hb2⟩
    · rw [if_neg hq] at HT
      have r1 : decide ((q : Int) < (l.length : Int)) = false := decide_eq_false (by omega)
      have r2 : decide (q < l.length) = false := decide_eq_false hq
      clear hrd hA
      go_enter Try.func23, Try.ntmps23
      go_wp2_with (go_at_call 28; (with_reducible refine HR.out.mono ?_); rintro e w2 ⟨rfl, hb2⟩)
      go_ret2
      exact ⟨by rw [HT.out]; rfl, hb2⟩
/-- A definition's value. -/
abbrev def8 (fr to' : Int) (a : Option Addr) (n cap : Nat) : Value := .agg #[.int .i64 fr, .int .i64 to', .slice a n cap]
set_option maxHeartbeats 1000000 in
theorem rchk_c (fr to' : Int) (l : List Prt) (a : Option Addr) (cap : Nat) (w : World) (hl : l.length ≤ 1000000000) (hA : ArgP w a l) (hf : -9223372036854775808 ≤ fr ∧ fr ≤ 9223372036854775807) (ht : -9223372036854775808 ≤ to' ∧ to' ≤ 9223372036854775807) :
    Calls Try.prog 9 #[def8 fr to' a l.length cap] w fun e w' => e = .returned (.tuple #[.int .i64 (chkS fr to' l).1, .int .i64 (chkS fr to' l).2]) ∧ Below w.heap.size w w' := by
  have HR := hidE (fun w hA => rtree_c l a cap w hl hA)
  have HC := hidE (show chkS fr to' l = if fr < 0 ∨ to' ≤ fr ∨ 1099511627776 < to' ∨ 4096 < to' - fr then ((-1, 82) : Int × Int) else ((((treeS l).1 : Nat) : Int), (treeS l).2) from rfl)
  have HA := hidE hA
  clear hA
  generalize treeS l = T at *
  by_cases c1 : fr < 0
  · have q1 : decide (fr < 0) = true := decide_eq_true c1
    rw [if_pos (.inl c1)] at HC
    clear c1
    go_enter Try.func9, Try.ntmps9
    go_wp2
    go_ret2
    exact ⟨by rw [HC.out]; rfl, by (repeat (first | exact Below.refl _ _ | assumption | refine balloc ?_ _ | refine below_drewN ?_ _ | refine bstep (by assumption) ?_ | refine bstep (Past.prop _) ?_ | refine Below.setCell ?_ (by first | exact Nat.le_refl _ | (simp; done) | (simp; omega)) _))⟩
  have q1 : decide (fr < 0) = false := decide_eq_false c1
  by_cases c2 : to' ≤ fr
  · have q2 : decide (to' ≤ fr) = true := decide_eq_true c2
    rw [if_pos (.inr (.inl c2))] at HC
    clear c1 c2
    go_enter Try.func9, Try.ntmps9
    go_wp2
    go_ret2
    exact ⟨by rw [HC.out]; rfl, by (repeat (first | exact Below.refl _ _ | assumption | refine balloc ?_ _ | refine below_drewN ?_ _ | refine bstep (by assumption) ?_ | refine bstep (Past.prop _) ?_ | refine Below.setCell ?_ (by first | exact Nat.le_refl _ | (simp; done) | (simp; omega)) _))⟩
  have q2 : decide (to' ≤ fr) = false := decide_eq_false c2
  by_cases c3 : 1099511627776 < to'
  · have q3 : decide (to' > 1099511627776) = true := decide_eq_true c3
    have q3' : decide (1099511627776 < to') = true := decide_eq_true c3
    rw [if_pos (.inr (.inr (.inl c3)))] at HC
    clear c1 c2 c3
    go_enter Try.func9, Try.ntmps9
    go_wp2
    go_ret2
    exact ⟨by rw [HC.out]; rfl, by (repeat (first | exact Below.refl _ _ | assumption | refine balloc ?_ _ | refine below_drewN ?_ _ | refine bstep (by assumption) ?_ | refine bstep (Past.prop _) ?_ | refine Below.setCell ?_ (by first | exact Nat.le_refl _ | (simp; done) | (simp; omega)) _))⟩
  have q3 : decide (to' > 1099511627776) = false := decide_eq_false c3
  have q3' : decide (1099511627776 < to') = false := decide_eq_false c3
  have wr : IntKind.i64.wrap (to' - fr) = to' - fr := IntWalk.i64_in _ (by omega)
  by_cases c4 : 4096 < to' - fr
  · have q4 : decide (to' - fr > 4096) = true := decide_eq_true c4
    have q4' : decide (4096 < to' - fr) = true := decide_eq_true c4
    rw [if_pos (.inr (.inr (.inr c4)))] at HC
    clear c1 c2 c3 c4
    go_enter Try.func9, Try.ntmps9
    go_wp2
    go_ret2
    exact ⟨by rw [HC.out]; rfl, by (repeat (first | exact Below.refl _ _ | assumption | refine balloc ?_ _ | refine below_drewN ?_ _ | refine bstep (by assumption) ?_ | refine bstep (Past.prop _) ?_ | refine Below.setCell ?_ (by first | exact Nat.le_refl _ | (simp; done) | (simp; omega)) _))⟩
  have q4 : decide (to' - fr > 4096) = false := decide_eq_false c4
  have q4' : decide (4096 < to' - fr) = false := decide_eq_false c4
  rw [if_neg (by omega)] at HC
  clear c1 c2 c3 c4
  go_enter Try.func9, Try.ntmps9
  go_wp2_with (go_at_call 23; (with_reducible refine (HR.out _ (HA.out.past (by (repeat (first | exact Below.refl _ _ | assumption | refine balloc ?_ _ | refine below_drewN ?_ _ | refine bstep (by assumption) ?_ | refine bstep (Past.prop _) ?_ | refine Below.setCell ?_ (by first | exact Nat.le_refl _ | (simp; done) | (simp; omega)) _))))).mono ?_); rintro e w2 ⟨rfl, hb2⟩)
  go_ret2
  exact ⟨by rw [HC.out]; rfl, by (repeat (first | exact Below.refl _ _ | assumption | refine balloc ?_ _ | refine below_drewN ?_ _ | refine bstep (by assumption) ?_ | refine bstep (Past.prop _) ?_ | refine Below.setCell ?_ (by first | exact Nat.le_refl _ | (simp; done) | (simp; omega)) _))⟩
theorem rend_c (l : List Prt) (p : Nat) (a : Option Addr) (cap : Nat) (w : World) (hl : l.length ≤ 1000000000) (hp : p ≤ 1000000000) (hA : ArgP w a l) :
    Calls Try.prog 18 #[.slice a l.length cap, .int .i64 p] w fun e w' => e = .returned (.int .i64 (endS l p)) ∧ Below w.heap.size w w' := by
  have HR := hidE (show Calls Try.prog 28 #[.slice a l.length cap, .int .i64 p, .int .i64 1, .int .u8 0] w _ from rread_c l a cap hl (l.length + 1) p 1 0 w (by omega) hA (by omega) hp)
  have HE := hidE (show endS l p = (rdT (rdS (l.length + 1) l p 1 0 1)).1 from rfl)
  rw [HE.out]
  generalize rdT (rdS (l.length + 1) l p 1 0 1) = R at *
  obtain ⟨x, y, z⟩ := R
  clear HE hA
  go_enter Try.func18, Try.ntmps18
  go_wp2_with (go_at_call 28; (with_reducible refine HR.out.mono ?_); rintro e w2 ⟨rfl, hb2⟩)
  go_ret
  exact ⟨rfl, hb2⟩
theorem rmay_c (l : List Prt) (z : Int) (a : Option Addr) (cap : Nat) (w : World) (hl : l.length ≤ 1000000000) (hA : ArgP w a l) :
    Calls Try.prog 16 #[.slice a l.length cap, .int .i64 z] w fun e w' => e = .returned (.int .i64 (mayS l z)) ∧ Below w.heap.size w w' := by
  have HR := hidE (rtree_c l a cap w hl hA)
  have HM := hidE (show mayS l z = if (treeS l).2 ≠ 0 then 81 else if z < 0 ∨ (l.length : Int) ≤ z then 2 else 0 from rfl)
  generalize treeS l = T at *
  obtain ⟨tp, te⟩ := T
  simp only at HM
  by_cases ht : te ≠ 0
  · have q1 : (te != 0) = true := bne_iff_ne.2 ht
    rw [if_pos ht] at HM
    clear ht hA
    go_enter Try.func16, Try.ntmps16
    go_wp2_with (go_at_call 23; (with_reducible refine HR.out.mono ?_); rintro e w2 ⟨rfl, hb2⟩)
    go_ret
    exact ⟨by rw [HM.out]; rfl, hb2⟩
  · obtain rfl : te = 0 := by omega
    rw [if_neg ht] at HM
    by_cases c1 : z < 0
    · have q1 : decide (z < 0) = true := decide_eq_true c1
      rw [if_pos (.inl c1)] at HM
      clear ht c1 hA
      go_enter Try.func16, Try.ntmps16
      go_wp2_with (go_at_call 23; (with_reducible refine HR.out.mono ?_); rintro e w2 ⟨rfl, hb2⟩)
      go_ret
      exact ⟨by rw [HM.out]; rfl, hb2⟩
    · have q1 : decide (z < 0) = false := decide_eq_false c1
      by_cases c2 : (l.length : Int) ≤ z
      · have q2 : decide ((l.length : Int) ≤ z) = true := decide_eq_true c2
        rw [if_pos (.inr c2)] at HM
        clear ht c1 c2 hA
        go_enter Try.func16, Try.ntmps16
        go_wp2_with (go_at_call 23; (with_reducible refine HR.out.mono ?_); rintro e w2 ⟨rfl, hb2⟩)
        go_ret
        exact ⟨by rw [HM.out]; rfl, hb2⟩
      · have q2 : decide ((l.length : Int) ≤ z) = false := decide_eq_false c2
        rw [if_neg (by omega)] at HM
        clear ht c1 c2 hA
        go_enter Try.func16, Try.ntmps16
        go_wp2_with (go_at_call 23; (with_reducible refine HR.out.mono ?_); rintro e w2 ⟨rfl, hb2⟩)
        go_ret
        exact ⟨by rw [HM.out]; rfl, hb2⟩
theorem Try.infoIntL : (Try.prog.info? 3).map (fun i => (i.zero, i.size, i.bytes)) = some (some (.int .i64 0), 1, 8) := by kernel_rfl
/-- Places, as integers. -/
def natsI (l : List Nat) : List Int := l.map fun (n : Nat) => (n : Int)
theorem natsI_len (l : List Nat) : (natsI l).length = l.length := by unfold natsI; rw [List.length_map]
theorem natsI_app (l r : List Nat) : natsI (l ++ r) = natsI l ++ natsI r := by unfold natsI; rw [List.map_append]
/-- A slice value that reads as the list of places. -/
def SliN (w : World) (v : Value) (l : List Nat) : Prop := ∃ (a : Option Addr) (cap : Nat), v = .slice a l.length cap ∧ l.length ≤ cap ∧ cap ≤ 9223372036854775807 ∧ ArgK .i64 w a (natsI l)
theorem SliN.past {w w' : World} {v : Value} {l : List Nat} (h : SliN w v l) (hb : Below w.heap.size w w') : SliN w' v l := by
  obtain ⟨a, cap, h1, h2, h3, h4⟩ := h
  exact ⟨a, cap, h1, h2, h3, h4.past hb⟩
theorem sliN_own {w : World} {base : Nat} {e : TypeId} {v : Value} {l : List Nat} (h : w.ownsRow base e 1 v l.length (cellsK .i64 (natsI l))) : SliN w v l := by
  obtain ⟨a, cap, hv, hA⟩ := argK_own (l := natsI l) (by rw [natsI_len]; exact h)
  rw [natsI_len] at hv
  obtain ⟨h1, h2 | ⟨g, cp, cur, h3, h4, h5, h6, h7, h8⟩⟩ := h
  · obtain ⟨rfl, h2⟩ := h2
    have e := List.eq_nil_of_length_eq_zero h2
    subst e
    exact ⟨none, 0, rfl, Nat.le_refl _, by omega, fun hh => by simp [natsI] at hh⟩
  · rw [hv] at h3
    cases h3
    exact ⟨_, cap, hv, h6, by unfold maxLen at h7; omega, hA⟩
theorem kidsGo_len (l : List Prt) : ∀ (n p : Nat), (kidsGo l n p).length = n
  | 0, _ => rfl
  | n + 1, p => by simp only [kidsGo, List.length_cons, kidsGo_len l n]
/-- Where the child behind so many begins. -/
def kidAt (l : List Prt) (p : Nat) : Nat → Nat
  | 0 => p
  | k + 1 => endS l (kidAt l p k)
theorem kidsGo_snoc (l : List Prt) : ∀ (n p : Nat), kidsGo l (n + 1) p = kidsGo l n p ++ [kidAt l p n]
  | 0, p => rfl
  | n + 1, p => by
    have h : ∀ k, kidAt l (endS l p) k = kidAt l p (k + 1) := fun k => by
      induction k with
      | zero => rfl
      | succ k ih => simp only [kidAt] at ih ⊢; rw [ih]
    rw [kidsGo, kidsGo_snoc l n (endS l p), h]
    rfl
theorem endS_le (l : List Prt) (p : Nat) : endS l p ≤ l.length := by
  unfold endS
  cases h : rdS (l.length + 1) l p 1 0 1 with
  | error x => simp [rdT]
  | ok q => exact (rd_gt _ _ _ _ _ _ _ h).2 (by omega)
theorem kidAt_le {l : List Prt} {p : Nat} (hp : p ≤ l.length) : ∀ k, kidAt l p k ≤ l.length
  | 0 => hp
  | _k + 1 => endS_le l _
set_option maxHeartbeats 1000000 in
theorem rkids_c (l : List Prt) (p : Nat) (a : Option Addr) (cap : Nat) (w : World) (hl : l.length ≤ 1000000000) (hp : p < l.length) (hk : (l.getD p ⟨0, 0, 0, 0, 0⟩).kids ≤ 1000) (hA : ArgP w a l) :
    Calls Try.prog 17 #[.slice a l.length cap, .int .i64 p] w fun e w' => ∃ v, e = .returned v ∧ SliN w' v (kidsS l p) ∧ Below w.heap.size w w' := by
  obtain ⟨b, off, rfl, hbb, hc⟩ := hA (by omega)
  obtain ⟨_, _, _, _, c4⟩ := hc.get hp
  have hpr : l.getD p pr0 = l.getD p ⟨0, 0, 0, 0, 0⟩ := rfl
  rw [hpr] at c4
  have HA := hidE (show ArgP w (some ⟨b, off, none⟩) l from fun _ => ⟨b, off, rfl, hbb, hc⟩)
  have HKS := hidE (show kidsS l p = kidsGo l (l.getD p ⟨0, 0, 0, 0, 0⟩).kids.toNat (p + 1) from rfl)
  rw [HKS.out]
  clear HKS hc hA hpr
  generalize (l.getD p ⟨0, 0, 0, 0, 0⟩).kids = ks at *
  have HE := hidE (fun q w' hq hb => rend_c l q (some ⟨b, off, none⟩) cap w' hl hq (HA.out.past hb))
  obtain ⟨ix, hix, hz0, hzz, hz4⟩ := info_parts Try.infoIntL
  have HI := hidE hix; have HZ0 := hidE hz0; have HZ1 := hidE hzz; have HZ2 := hidE hz4
  have wp1 : IntKind.i64.wrap ((p : Int) + 1) = (p : Int) + 1 := IntWalk.i64_in _ (by omega)
  clear hix hz0 hzz hz4
  go_enter Try.func17, Try.ntmps17
  go_wp2
  go_loopg [5, 6, 7] ks.toNat (fun gh v5 v6 v7 wr => ∃ k : Nat, k ≤ ks.toNat ∧ ks.toNat - k ≤ gh ∧ v7 = .int .i64 k ∧ v6 = .int .i64 (kidAt l (p + 1) k) ∧ wr.ownsRow w.heap.size 3 1 v5 k (cellsK .i64 (natsI (kidsGo l k (p + 1)))) ∧ Below w.heap.size w wr)
  case atStart => exact ⟨0, Nat.zero_le _, Nat.le_refl _, rfl, by simp [kidAt], show w.ownsRow w.heap.size 3 1 _ 0 [] from own_nil _ _ _, Below.refl _ _⟩
  case round =>
    obtain ⟨k, hkk, hgh, rfl, rfl, hown, hb⟩ := hrel
    obtain ⟨av, cp, rfl⟩ := own_sli hown
    have HB := hidE hb; have HO := hidE hown; have HG := hidE hgh
    have f4 := (hb.cell (p := ⟨b, off + p * 5 + 4, none⟩) hbb).trans c4
    have fz := Nat.lt_of_lt_of_le hbb hb.size
    have hws := hb.size
    clear hown hb hgh
    by_cases hlt : (k : Int) < ks
    · have r1 : decide ((k : Int) < ks) = true := decide_eq_true hlt
      have hkl := kidAt_le (l := l) (p := p + 1) (by omega) k
      have HSN := hidE (show cellsK .i64 (natsI (kidsGo l (k + 1) (p + 1))) = cellsK .i64 (natsI (kidsGo l k (p + 1))) ++ [.int .i64 (kidAt l (p + 1) k)] by rw [kidsGo_snoc, natsI_app, cellsK_app]; rfl)
      have HNX := hidE (show kidAt l (p + 1) (k + 1) = endS l (kidAt l (p + 1) k) from rfl)
      generalize kidAt l (p + 1) k = q at *
      go_wp2_with (first | (at_builtin; refine wpList_append_own _ rfl (.tmp 19) (.tmp 21) 32 rfl w.heap.size 3 ix (.int .i64 0) 1 8 Try.underlying32 HI.out HZ0.out HZ1.out HZ2.out rfl (by decide) _ _ _ rfl (own_below HO.out ((Below.refl _ _).alloc (Nat.le_refl _) _)) ⟨_, 0, none⟩ 1 1 [.int .i64 q] rfl rfl (new_cellsB _ #[.int .i64 q] 3) (by intro y hy; simp at hy; rcases hy with rfl; rfl) (by unfold maxLen; omega) (by omega) (by simp; omega) ?_; intro v4 w4 hown4 hgrow4 hnil4; obtain ⟨a4, c4', rfl⟩ := own_sli hown4; have HG4 := hidE hgrow4; have HO4 := hidE hown4; clear hgrow4 hown4 hnil4 f4) | fail)
      have HB4 := hidE (show Below w.heap.size w w4 from HB.out.trans (Below.grown ((Below.refl _ wr).alloc (by omega) _) HG4.out (by simp; omega) (fun k e => own_block HO.out (show (Value.slice av _ cp).ownBlock = some k from e))))
      ((with_reducible refine (HE.out q _ (by omega) HB4.out).mono ?_); rintro e w5 ⟨rfl, hb5⟩)
      go_wp2
      go_roundg (ks.toNat - (k + 1))
      case measure => have := HG.out; omega
      case rel => exact ⟨k + 1, by omega, Nat.le_refl _, by go_num, by rw [HNX.out], by rw [HSN.out]; exact own_below HO4.out hb5, HB4.out.trans (hb5.mono HB4.out.size)⟩
    · have r1 : decide ((k : Int) < ks) = false := decide_eq_false hlt
      obtain rfl : k = ks.toNat := by omega
      go_wp2
      go_ret
      exact ⟨_, rfl, sliN_own (by rw [kidsGo_len]; exact HO.out), HB.out⟩
end Go.Proofs.Ytnifmdeojgfgcaa
