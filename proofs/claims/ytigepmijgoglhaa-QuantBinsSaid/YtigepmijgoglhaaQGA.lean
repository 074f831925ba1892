/- Program-free lemmas for walks over calls that make memory of their own. No conditions. From a walk to a statement: a law whose call answers true and only makes memory has its row. No conditions. Slices that read as lists of runs, rows of runs that grow, and what Of and Box hand back. No function of the program. No conditions. A slice of runs that is handed in: its cells are integers. No conditions. For the statements' walks: slices that read as lists, made anew, handed back. No conditions. The statements' own runs. No conditions. The contract of (reader).read: the runs ahead of a time are read. No conditions but sizes, and that the slice's cells read as integers. The contract of the document's own May of vectors. No conditions. The contracts of the document's own times, rounded: left, bad, told, Down, Up. No conditions. The contracts of quant's small functions: within, isQuantum, down, up, checked, Down, Up. No conditions but that times are far from the ends of an int64 where it is said. A range over a function: an iterator that keeps state of its own in cells, and the law for its caller. The caller's own variables lie below where the loop begins; the iterator's own, and the loop's book-keeping, at or beyond. Program-free. No conditions. A range over a function whose body keeps a block of its own, made in an earlier round (a slice that it appends to): an iterator's contract with that block named, and the law for its caller. Program-free. No conditions. The contract of the iterator (span.window).stretches: it hands on the stretches of the window, one after the other. No conditions but that the slice's cells read as integers, and sizes. The contracts of vec.May and what it calls: each gives what its plain function says, whatever it is given, and only makes memory. No conditions. A row of integers of a call's own, and what its exchanges come to. No conditions. The comparison of two runs by their times, handed on with the runs bound to it. No conditions but that the runs' cells read as integers. -/
import Derived.WalkKit
import Derived.ProofKit
import Derived.OpenShut
import Derived.Below
import Derived.WalkSmall
import Derived.OneCell
import Derived.Deep.QuietTactic
import Derived.BigQuiet
import Derived.Test.YtigepmijgoglhaaRows
import Derived.Carry
import Derived.Lib.SmallJoins
import Derived.Test.YtigepmijgoglhaaQMA
import Derived.LoopTactic
import Derived.Deep.LoopGhost
import Derived.WalkMore
import Derived.ScopeJumps
import Derived.Deep.DeepCutAuto
import Derived.Outline
import Derived.BigRegion
import Derived.Laws.AppendOwn
import Derived.Laws.OwnMore
import Derived.Test.YtigepmijgoglhaaQMB
import Derived.RangeFuncRecord
import Derived.RangeFuncSeq
import Derived.OwnWalkIn
namespace Go.Proofs.Ytigepmijgoglhaa
open Go.ChangeShapes Go.WideShapes Go.ChangeAt Go.RowKit

/-- The worlds that a call which only makes memory may leave behind W. -/
def Past (W : World) : Type := { w : World // Below W.heap.size W w }

instance (W : World) : Nonempty (Past W) := ⟨⟨W, Below.refl _ _⟩⟩

theorem Past.cell {W : World} (x : Past W) (b o : Nat) (h : b < W.heap.size) : x.1.cell? ⟨b, o, none⟩ = W.cell? ⟨b, o, none⟩ :=
  x.2.cell (p := ⟨b, o, none⟩) h
theorem Past.frozen {W : World} (x : Past W) (b o : Nat) (h : b < W.heap.size) : x.1.frozen? ⟨b, o, none⟩ = W.frozen? ⟨b, o, none⟩ :=
  x.2.frozen (p := ⟨b, o, none⟩) h

theorem bcell {W w1 : World} (hb : Below W.heap.size W w1) : (∀ b o, b < W.heap.size → w1.cell? ⟨b, o, none⟩ = W.cell? ⟨b, o, none⟩) ∧ (∀ b o, b < W.heap.size → w1.frozen? ⟨b, o, none⟩ = W.frozen? ⟨b, o, none⟩) :=
  ⟨fun b o h => hb.cell (p := ⟨b, o, none⟩) h, fun b o h => hb.frozen (p := ⟨b, o, none⟩) h⟩

theorem bsz {W w1 : World} (hb : Below W.heap.size W w1) (k : Nat) (h : k < W.heap.size) : k < w1.heap.size := Nat.lt_of_lt_of_le h hb.size

/-- A region that draws its order, whose operations read and call what only makes memory: one walk in the text's order. -/
theorem wp_region_past_lit {P : Program} {id : Nat} {Q : Exit → Act → World → Prop} {a : Act} {w : World} {l : List Oper} (hm : P.follows .mixedOrders = true) (hB : Region.lexB .any l.toArray = true)
    (h : wpQuiet P l.toArray (fun w' => ∃ x : Past w, w' = x.1) (fun a' => ∀ w', (∃ x : Past w, w' = x.1) → Q .normal a' w') l a) : (Code.region id l.toArray true).wp P Q a w :=
  wp_region_quiet (C := fun w' => ∃ x : Past w, w' = x.1) hm hB ⟨⟨_, (Below.refl _ _).drew⟩, rfl⟩ (by simpa using h)

theorem Past.call {P : Program} {f : FuncId} {args : Array Value} {W : World} {v : Value} (x : Past W)
    (h : Calls P f args x.1 fun e w' => e = .returned v ∧ Below x.1.heap.size x.1 w') : Calls P f args x.1 fun e w'' => e = .returned v ∧ ∃ y : Past W, w'' = y.1 :=
  h.mono fun _ _ ⟨he, hb⟩ => ⟨he, ⟨⟨_, x.2.trans (hb.mono x.2.size)⟩, rfl⟩⟩

theorem Past.same {P : Program} {f : FuncId} {args : Array Value} {W : World} {v : Value} (x : Past W)
    (h : Calls P f args x.1 fun e w' => e = .returned v ∧ w' = x.1) : Calls P f args x.1 fun e w'' => e = .returned v ∧ ∃ y : Past W, w'' = y.1 :=
  h.mono fun _ _ ⟨he, hb⟩ => ⟨he, ⟨x, hb⟩⟩

theorem same_below {P : Program} {f : FuncId} {args : Array Value} {w : World} {v : Value}
    (h : Calls P f args w fun e w' => e = .returned v ∧ w' = w) : Calls P f args w fun e w' => e = .returned v ∧ Below w.heap.size w w' :=
  h.mono fun _ _ ⟨he, hb⟩ => ⟨he, hb ▸ Below.refl _ _⟩

theorem Past.prop {W : World} (x : Past W) : Below W.heap.size W x.1 := x.2
theorem bstep {a W w' : World} (h : Below W.heap.size W w') (ha : Below a.heap.size a W) : Below a.heap.size a w' := ha.trans (h.mono ha.size)
theorem balloc {a w : World} (h : Below a.heap.size a w) (o : Obj) : Below a.heap.size a (w.alloc o) := h.alloc h.size o
theorem hidE {p : Prop} (h : p) : Hid p := h
/-- A block known whole, none of it a string's bytes. -/
def Blk (w : World) (k : Nat) (cs : Array Value) (t : TypeId) : Prop := w.heap[k]? = some (.cells cs t (0, 0))
theorem Blk.lt {w : World} {k : Nat} {cs : Array Value} {t : TypeId} (h : Blk w k cs t) : k < w.heap.size := lt_of_block h
theorem Blk.cell {w : World} {k : Nat} {cs : Array Value} {t : TypeId} (h : Blk w k cs t) (i : Nat) : w.cell? ⟨k, i, none⟩ = cs[i]? := by
  unfold Blk at h; simp [World.cell?, h]
theorem Blk.free {w : World} {k : Nat} {cs : Array Value} {t : TypeId} (h : Blk w k cs t) (i : Nat) : w.frozen? ⟨k, i, none⟩ = false := by
  unfold Blk at h; simp [World.frozen?, h]
theorem Blk.made (w : World) (cs : Array Value) (t : TypeId) : Blk (w.alloc (.cells cs t)) w.heap.size cs t := by
  show (w.heap.push _)[w.heap.size]? = _
  simp
theorem Blk.made_at (w : World) (cs : Array Value) (t : TypeId) (k : Nat) (h : k = w.heap.size) : Blk (w.alloc (.cells cs t)) k cs t := h ▸ Blk.made w cs t
theorem Blk.alloc {w : World} {k : Nat} {cs : Array Value} {t : TypeId} (h : Blk w k cs t) (o : Obj) : Blk (w.alloc o) k cs t := by
  have := h.lt
  show (w.heap.push _)[k]? = _
  rw [Array.getElem?_push, if_neg (by omega)]; exact h
theorem Blk.below {w w' : World} {k : Nat} {cs : Array Value} {t : TypeId} (h : Blk w k cs t) {B : Nat} (hb : Below B w w') (hk : k < B) : Blk w' k cs t := (hb.block k hk).trans h
theorem Blk.past {w w' : World} {k : Nat} {cs : Array Value} {t : TypeId} (h : Blk w k cs t) (hb : Below w.heap.size w w') : Blk w' k cs t := h.below hb h.lt
theorem Blk.drew {w : World} {k : Nat} {cs : Array Value} {t : TypeId} (h : Blk w k cs t) (n : Nat) : Blk (w.drewN n) k cs t := h
theorem Blk.set {w : World} {k : Nat} {cs : Array Value} {t : TypeId} (h : Blk w k cs t) (i : Nat) (v : Value) : Blk (w.setCell ⟨k, i, none⟩ v) k (cs.setIfInBounds i v) t := by
  have hlt := h.lt
  have h' : w.heap[k] = .cells cs t (0, 0) := by unfold Blk at h; simpa [Array.getElem?_eq_getElem hlt] using h
  show (w.heap.modify k _)[k]? = _
  rw [Array.getElem?_eq_getElem (by simpa using hlt), Array.getElem_modify_self, h']
  rfl
theorem Blk.other {w : World} {k : Nat} {cs : Array Value} {t : TypeId} (h : Blk w k cs t) {b i : Nat} (hb : k ≠ b) (v : Value) : Blk (w.setCell ⟨b, i, none⟩ v) k cs t :=
  (Below.heap_setCell w ⟨b, i, none⟩ v k hb).trans h
theorem ret_bool {a b : Bool} (h : a = b) : Ending.returned (.bool a) = .returned (.bool b) := by rw [h]
theorem ret_int {k : IntKind} {a b : Int} (h : a = b) : Ending.returned (.int k a) = .returned (.int k b) := by rw [h]
theorem ret_tup {a b : Array Value} (h : a = b) : Ending.returned (.tuple a) = .returned (.tuple b) := by rw [h]

/-- A bool of which something is known is handed back; the call only makes memory. -/
def RetB (w : World) (p : Bool → Prop) (e : Ending) (w' : World) : Prop := ∃ r : Bool, e = .returned (.bool r) ∧ p r ∧ Below w.heap.size w w'
/-- So a number. -/
def RetN (w : World) (p : Nat → Prop) (e : Ending) (w' : World) : Prop := ∃ n : Nat, e = .returned (.int .i64 n) ∧ p n ∧ Below w.heap.size w w'
/-- So a value. -/
def RetV (w : World) (p : Value → World → Prop) (e : Ending) (w' : World) : Prop := ∃ v : Value, e = .returned v ∧ p v w' ∧ Below w.heap.size w w'

end Go.Proofs.Ytigepmijgoglhaa

namespace Go.Proofs.Ytigepmijgoglhaa
open Go.ChangeShapes Go.WideShapes Go.ChangeAt Go.RowKit Go.WideElems

def readOk (P : Program) (ts : List TypeId) : Bool := ts.all fun t => P.readableRec t && decide (t < P.types.size)
theorem readOk_spec {P : Program} {ts : List TypeId} (h : readOk P ts = true) : ∀ t ∈ ts, P.readableRec t = true ∧ t < P.types.size := fun t ht => by
  have := List.all_eq_true.1 h t ht
  simpa using this
theorem own : ownKnob Try.prog.godebug = none := by kernel_rfl
theorem laidOut : laidOutB Try.prog = true := by kernel_rfl

section
variable {H : Type} {enc : TypeId × Value → H} {P : Program}

/-- What was read before reads so behind a call that only makes memory. -/
theorem trodAll_past (hl : laidOutB P = true) {W W' : World} (hb : Below W.heap.size W W') : ∀ (ts : List TypeId) (vs : List Value) (ds : List (DataW H)) (ps : List MemPlace),
    (∀ t ∈ ts, P.readableRec t = true ∧ t < P.types.size) → DataW.TrodAll enc P W 0 (fun _ => true) true ts vs ds ps → (∀ x ∈ ps, x.block < W.heap.size) →
    ∀ sp : Nat → Bool, (∀ x ∈ ps, sp x.block = true) → DataW.TrodAll enc P W' 0 sp true ts vs ds ps := by
  intro ts
  induction ts with
  | nil =>
    intro vs ds ps _ h _ sp _
    cases vs <;> cases ds <;> simp only [DataW.TrodAll] at h ⊢
    exact h
  | cons t ts ih =>
    intro vs ds ps hr h hlt sp hsp
    cases vs with
    | nil => cases ds <;> simp only [DataW.TrodAll] at h
    | cons v vs =>
      cases ds with
      | nil => simp only [DataW.TrodAll] at h
      | cons d ds =>
        simp only [DataW.TrodAll] at h ⊢
        obtain ⟨p, q, h1, h2, rfl⟩ := h
        have hr0 := hr t (by simp)
        exact ⟨p, q, WideElems.Trod_stays hl hr0.1 hr0.2 h1 (fun x hx => hb.same (hlt x (by simp [hx]))) (fun x hx => hsp x (by simp [hx])),
          ih vs ds q (fun u hu => hr u (by simp [hu])) h2 (fun x hx => hlt x (by simp [hx])) sp (fun x hx => hsp x (by simp [hx])), rfl⟩

/-- The row's last step. -/
theorem law_post {f : Func} {s : ChangeSpec} {rt : TypeId} {W W' : World} {args : Array Value} {ds gs : List (DataW H)} {before : List MemPlace}
    (hl : laidOutB P = true) (hread : ∀ t ∈ f.params.toList, P.readableRec t = true ∧ t < P.types.size) (hv : s.vars = []) (hbool : P.underlying rt = some .bool) (hrt : f.resultTypes = #[rt])
    (hfn : (s.fn H ds).results = [.lit (.bool true)] ∧ (s.fn H ds).args = ds ∧ (s.fn H ds).vars = [])
    (hW : DataW.Whole enc P f.params.toList s.vars false W args.toList ds gs before) (hb : Below W.heap.size W W') :
    s.post enc P f false true false false W args (.bool true) W' := by
  have hlt : ∀ x ∈ before, x.block < W.heap.size := fun x hx => hW.lt x hx
  have hW' := hW
  obtain ⟨p, q, hA, hV, rfl, hz, hn⟩ := hW
  rw [hv] at hV
  obtain ⟨rfl, rfl⟩ := trodVars_none hV
  rw [List.append_nil] at *
  obtain ⟨e1, e2, e3⟩ := hfn
  have hres : ∀ (b : Nat) (sp : Nat → Bool) (hd : Bool), DataW.TrodAll enc P W' b sp hd f.resultTypes.toList ((Value.bool true).resultList f.resultTypes.size) (s.fn H (ds ++ [])).results [] := by
    intro b sp hd
    rw [List.append_nil, e1, hrt]
    exact trodAll_cons_mk (shut_bool hbool true) trodAll_mk0
  have hargs : ∀ sp : Nat → Bool, (∀ x ∈ p, sp x.block = true) → DataW.TrodAll enc P W' 0 sp true f.params.toList args.toList (s.fn H (ds ++ [])).args p := by
    intro sp hsp
    rw [List.append_nil, e2]
    exact trodAll_past hl hb _ _ _ _ hread hA hlt sp hsp
  have hvars : ∀ sp : Nat → Bool, DataW.TrodVars enc P W' sp s.vars (s.fn H (ds ++ [])).vars [] := by
    intro sp
    rw [List.append_nil, e3, hv]
    rfl
  have hold : ∀ x ∈ p, (fun b => decide (b < W.heap.size)) x.block = true := fun x hx => by simpa using hlt x hx
  refine ⟨ds, [], p, [], p, [], hW', hres _ _ _, hargs _ hold, hvars _, World.keptBut_mono (fun x hx => ⟨hx, Or.inr (by simpa using hx)⟩) (hb.frame (· ∈ p)), fun h => by cases h⟩

/-- A vector that is handed in: two integers. -/
theorem open_vec {t tv : TypeId} {f0 f1 : Field} (hs : P.underlying t = some (.struct #[f0, f1])) (h0 : f0.type = tv) (h1 : f1.type = tv) (hv : P.underlying tv = some (.int .i64)) (hone : Go.Deep.oneCellFields P #[f0, f1] = true) (hC : P.cellsOf t = 2)
    {r : Reach} {b0 : Nat} {W : World} {base : Nat} {sp : Nat → Bool} {held : Bool} {v : Value} {d : DataW H} {p : List MemPlace} (ho : Value.okWide P W r b0 t v) (h : DataW.Trod enc P W base sp held t v d p) :
    ∃ m c : Int, v = .agg #[.int .i64 m, .int .i64 c] ∧ (-9223372036854775808 ≤ m ∧ m ≤ 9223372036854775807) ∧ (-9223372036854775808 ≤ c ∧ c ≤ 9223372036854775807) := by
  obtain ⟨c0, c1, y0, y1, m, rfl, rfl, rfl, hy0, hy1⟩ := Joins.open_agg2 hs hone hC ho h
  rw [h0] at hy0; rw [h1] at hy1
  obtain ⟨a, e0, _, wa⟩ := DataW.trod_int hv hy0
  obtain ⟨b, e1, _, wb⟩ := DataW.trod_int hv hy1
  simp at e0 e1
  subst e0 e1
  exact ⟨a, b, rfl, by simpa [Lit.wf, IntKind.min, IntKind.max, IntKind.signed, IntKind.bits] using wa, by simpa [Lit.wf, IntKind.min, IntKind.max, IntKind.signed, IntKind.bits] using wb⟩

end


theorem cellsV : Try.prog.cellsOf 35 = 2 := by kernel_rfl

end Go.Proofs.Ytigepmijgoglhaa

namespace Go.Proofs.Ytigepmijgoglhaa
open Go.ChangeShapes Go.WideShapes Go.ChangeAt Go.RowKit
attribute [local irreducible] Go.Calls

/-- A run: its time, its vector. -/
abbrev S (at' m c : Int) : Value := .agg #[.int .i64 at', .int .i64 m, .int .i64 c]
/-- The runs that a slice's cells hold. -/
def CellsS (w : World) (b off : Nat) (l : List Sg) : Prop :=
  ∀ i, i < l.length → w.cell? ⟨b, off + i * 3, none⟩ = some (.int .i64 (l.getD i (0, 0, 0)).1) ∧ w.cell? ⟨b, off + i * 3 + 1, none⟩ = some (.int .i64 (l.getD i (0, 0, 0)).2.1) ∧ w.cell? ⟨b, off + i * 3 + 2, none⟩ = some (.int .i64 (l.getD i (0, 0, 0)).2.2)
/-- A slice that reads as the list: where it is not empty it lies in a block of the world's. -/
def ArgS (w : World) (a : Option Addr) (l : List Sg) : Prop := 0 < l.length → ∃ b off, a = some ⟨b, off, none⟩ ∧ b < w.heap.size ∧ CellsS w b off l
theorem CellsS.below {w w' : World} {b off B : Nat} {l : List Sg} (h : CellsS w b off l) (hb : Below B w w') (hB : b < B) : CellsS w' b off l := fun i hi => by
  obtain ⟨h1, h2, h3⟩ := h i hi
  exact ⟨(hb.cell (p := ⟨b, _, none⟩) hB).trans h1, (hb.cell (p := ⟨b, _, none⟩) hB).trans h2, (hb.cell (p := ⟨b, _, none⟩) hB).trans h3⟩
theorem ArgS.past {w w' : World} {a : Option Addr} {l : List Sg} (h : ArgS w a l) (hb : Below w.heap.size w w') : ArgS w' a l := fun hl => by
  obtain ⟨b, off, e, h1, h2⟩ := h hl
  exact ⟨b, off, e, Nat.lt_of_lt_of_le h1 hb.size, h2.below hb h1⟩
theorem CellsS.get {w : World} {b off : Nat} {l : List Sg} (h : CellsS w b off l) {i : Nat} (hi : i < l.length) : w.cell? ⟨b, off + i * 3, none⟩ = some (.int .i64 (ats l i)) ∧ w.cell? ⟨b, off + i * 3 + 1, none⟩ = some (.int .i64 (vls l i).1) ∧ w.cell? ⟨b, off + i * 3 + 2, none⟩ = some (.int .i64 (vls l i).2) := h i hi
theorem ret_v {a b : Value} (h : a = b) : Ending.returned a = .returned b := by rw [h]
theorem grown_alloc (w : World) (o : Obj) (r : Option Nat) : w.grownBy (w.alloc o) r := ⟨rfl, rfl, rfl, by simp, fun k hk _ => Below.heap_alloc _ _ _ hk⟩
theorem grown_set (w : World) (p i : Nat) (v : Value) : w.grownBy (w.setCell ⟨p, i, none⟩ v) (some p) := ⟨rfl, rfl, rfl, by simp [World.setCell], fun k _ hk => Below.heap_setCell _ _ _ _ (fun e => hk (by rw [e]))⟩
theorem grown_trans {a b c : World} {r : Option Nat} (h : a.grownBy b r) (h' : b.grownBy c r) : a.grownBy c r :=
  ⟨h'.os.trans h.os, h'.tape.trans h.tape, h'.output.trans h.output, Nat.le_trans h.size h'.size, fun k hk hr => (h'.block k (Nat.lt_of_lt_of_le hk h.size) hr).trans (h.block k hk hr)⟩
theorem grown_refl (w : World) (r : Option Nat) : w.grownBy w r := ⟨rfl, rfl, rfl, Nat.le_refl _, fun _ _ _ => rfl⟩
theorem grown_any {w w' : World} {r : Option Nat} (h : Below w.heap.size w w') : w.grownBy w' r := ⟨h.os, h.tape, h.output, h.size, fun k hk _ => h.block k hk⟩
theorem Blk.grown {w w' : World} {k : Nat} {cs : Array Value} {t : TypeId} {r : Option Nat} (h : Blk w k cs t) (hg : w.grownBy w' r) (hr : some k ≠ r) : Blk w' k cs t := (hg.block k h.lt hr).trans h
/-- Where a list of runs begins and ends, and whether it ends. -/
def endsL (l : List Sg) : Int × Int × Bool := if l.length = 0 then (0, 0, true) else (ats l 0, ats l (l.length - 1), vls l (l.length - 1) == (0, 0))
theorem sg_ext {a b : Sg} (h1 : a.1 = b.1) (h2 : a.2.1 = b.2.1) (h3 : a.2.2 = b.2.2) : a = b := by
  obtain ⟨x, m, c⟩ := a
  obtain ⟨x', m', c'⟩ := b
  simp at h1 h2 h3
  rw [h1, h2, h3]
theorem list_ext {l r : List Sg} (h : l.length = r.length) (h2 : ∀ i, i < l.length → ats l i = ats r i ∧ vls l i = vls r i) : l = r := by
  apply List.ext_getElem h
  intro i h3 h4
  obtain ⟨e1, e2⟩ := h2 i h3
  unfold ats at e1; unfold vls at e2
  rw [getD_get _ _ _ h3, getD_get _ _ _ h4] at e1 e2
  exact Prod.ext e1 e2
def sameB (l r : List Sg) : Bool := decide (l = r)
theorem same_t {l r : List Sg} (h : l.length = r.length) (h2 : ∀ i, i < l.length → ats l i = ats r i ∧ vls l i = vls r i) : sameB l r = true := decide_eq_true (list_ext h h2)
theorem same_f {l r : List Sg} {i : Nat} (h : ats l i ≠ ats r i ∨ vls l i ≠ vls r i) : sameB l r = false := decide_eq_false (fun e => by subst e; simp at h)
theorem Try.infoSeg : (Try.prog.info? 43).map (fun i => (i.zero, i.size, i.bytes)) = some (some (.agg #[.int .i64 0, .int .i64 0, .int .i64 0]), 3, 24) := by kernel_rfl
/-- The cells of a list of runs. -/
def cellsOfS : List Sg → List Value
  | [] => []
  | s :: r => .int .i64 s.1 :: .int .i64 s.2.1 :: .int .i64 s.2.2 :: cellsOfS r
theorem cellsOfS_len : ∀ l, (cellsOfS l).length = l.length * 3
  | [] => rfl
  | s :: r => by simp only [cellsOfS, List.length_cons, cellsOfS_len r]; omega
theorem cellsOfS_app : ∀ l r, cellsOfS (l ++ r) = cellsOfS l ++ cellsOfS r
  | [], _ => rfl
  | s :: l, r => by simp only [cellsOfS, List.cons_append, cellsOfS_app l r]
theorem cellsOfS_get : ∀ (l : List Sg) (i : Nat), i < l.length → (cellsOfS l)[i * 3]? = some (.int .i64 (ats l i)) ∧ (cellsOfS l)[i * 3 + 1]? = some (.int .i64 (vls l i).1) ∧ (cellsOfS l)[i * 3 + 2]? = some (.int .i64 (vls l i).2)
  | [], i, h => by simp at h
  | s :: l, 0, _ => ⟨rfl, rfl, rfl⟩
  | s :: l, i + 1, h => by
    obtain ⟨h1, h2, h3⟩ := cellsOfS_get l i (by simp at h; omega)
    have e : ∀ j, (cellsOfS (s :: l))[(i + 1) * 3 + j]? = (cellsOfS l)[i * 3 + j]? := fun j => by
      simp only [cellsOfS]
      rw [show (i + 1) * 3 + j = i * 3 + j + 1 + 1 + 1 by omega]
      simp only [List.getElem?_cons_succ]
    exact ⟨(e 0).trans h1, (e 1).trans h2, (e 2).trans h3⟩
/-- A slice value that reads as the list of runs. -/
def SliS (w : World) (v : Value) (l : List Sg) : Prop := ∃ (a : Option Addr) (cap : Nat), v = .slice a l.length cap ∧ l.length ≤ cap ∧ cap ≤ 9223372036854775807 ∧ ArgS w a l
theorem SliS.past {w w' : World} {v : Value} {l : List Sg} (h : SliS w v l) (hb : Below w.heap.size w w') : SliS w' v l := by
  obtain ⟨a, cap, h1, h2, h3, h4⟩ := h
  exact ⟨a, cap, h1, h2, h3, h4.past hb⟩
theorem sliS_nil (w : World) : SliS w (.slice none 0 0) [] := ⟨none, 0, rfl, Nat.le_refl _, by omega, fun h => by simp at h⟩
/-- What a call has appended to reads as a slice. -/
theorem sliS_own {w : World} {base : Nat} {e : TypeId} {v : Value} {l : List Sg} (h : w.ownsRow base e 3 v l.length (cellsOfS l)) : SliS w v l := by
  obtain ⟨h1, h2 | ⟨g, cap, cur, rfl, h3, h4, h5, h6, h7, h8⟩⟩ := h
  · obtain ⟨rfl, h2⟩ := h2
    have : l = [] := List.eq_nil_of_length_eq_zero h2
    subst this
    exact sliS_nil w
  · refine ⟨some ⟨g, 0, none⟩, cap, rfl, h5, by unfold maxLen at h6; omega, fun _ => ⟨g, 0, rfl, lt_of_block h4, fun i hi => ?_⟩⟩
    have hg := cellsOfS_get l i hi
    have hc : ∀ j x, j < l.length * 3 → (cellsOfS l)[j]? = some x → w.cell? ⟨g, j, none⟩ = some x := fun j x hj hx => by
      have e : w.cell? ⟨g, j, none⟩ = cur[j]? := by simp [World.cell?, h4]
      rw [e, ← Array.getElem?_toList]
      rw [← h8, List.getElem?_take, if_pos hj] at hx
      exact hx
    simp only [Nat.zero_add]
    exact ⟨hc _ _ (by omega) hg.1, hc _ _ (by omega) hg.2.1, hc _ _ (by omega) hg.2.2⟩
theorem own_below {w w' : World} {B : Nat} {e : TypeId} {sz : Nat} {v : Value} {n : Nat} {xs : List Value} (h : w.ownsRow B e sz v n xs) (hb : Below w.heap.size w w') : w'.ownsRow B e sz v n xs := by
  obtain ⟨h1, h2 | ⟨g, cap, cur, h3, h4, h5, h6⟩⟩ := h
  · exact ⟨h1, .inl h2⟩
  · exact ⟨h1, .inr ⟨g, cap, cur, h3, h4, (hb.block g (lt_of_block h5)).trans h5, h6⟩⟩
theorem own_grown {w w' : World} {B p : Nat} {e : TypeId} {sz : Nat} {v : Value} {n : Nat} {xs : List Value} (h : w.ownsRow B e sz v n xs) (hg : w.grownBy w' (some p)) (hp : p < B) : w'.ownsRow B e sz v n xs := by
  obtain ⟨h1, h2 | ⟨g, cap, cur, h3, h4, h5, h6⟩⟩ := h
  · exact ⟨h1, .inl h2⟩
  · exact ⟨h1, .inr ⟨g, cap, cur, h3, h4, (hg.block g (lt_of_block h5) (fun e => by simp at e; omega)).trans h5, h6⟩⟩
/-- The block that an append may write lies from the base on. -/
theorem own_block {w : World} {B : Nat} {e : TypeId} {sz : Nat} {v : Value} {n : Nat} {xs : List Value} (h : w.ownsRow B e sz v n xs) {k : Nat} (hk : v.ownBlock = some k) : B ≤ k := by
  obtain ⟨h1, h2 | ⟨g, cap, cur, h3, h4, h5, h6⟩⟩ := h
  · rw [h2.1] at hk; simp [Value.ownBlock] at hk
  · rw [h3] at hk; simp [Value.ownBlock] at hk; omega
theorem new_cells (w : World) (cs : Array Value) (t : TypeId) : ∀ j u, cs.toList[j]? = some u → (w.alloc (.cells cs t)).cell? ((⟨w.heap.size, 0, none⟩ : Addr).add j) = some u := by
  intro j u h
  have e : ((⟨w.heap.size, 0, none⟩ : Addr).add j) = ⟨w.heap.size, j, none⟩ := by
    unfold Addr.add
    by_cases c : j = 0
    · subst c; simp
    · simp [c]
  rw [e, (Blk.made w cs t).cell j, ← h, Array.getElem?_toList]
/-- What Of hands back. -/
def OfPost (w : World) (l : List Sg) (e : Ending) (w' : World) : Prop :=
  ∃ (v : Value) (f : List Sg) (er : Int), e = .returned (.tuple #[v, .int .i64 er]) ∧ SliS w' v f ∧ ((l.all okS = true ∧ er = 0 ∧ IsOf l f) ∨ (l.all okS = false ∧ er = 10 ∧ f = [])) ∧ Below w.heap.size w w'
theorem drop_cons {l : List Sg} {k : Nat} (h : k < l.length) : l.drop k = l.getD k (0, 0, 0) :: l.drop (k + 1) := by
  rw [List.drop_eq_getElem_cons h, getD_get _ _ _ h]
theorem all_bad {l : List Sg} {k : Nat} (h : k < l.length) (hb : okS (l.getD k (0, 0, 0)) = false) : l.all okS = false := by
  rw [getD_get _ _ _ h] at hb
  rw [List.all_eq_false]
  exact ⟨_, List.getElem_mem h, by rw [hb]; exact Bool.false_ne_true⟩
theorem all_good {l : List Sg} (h : ∀ k, k < l.length → okS (l.getD k (0, 0, 0)) = true) : l.all okS = true := by
  rw [List.all_eq_true]
  intro x hx
  obtain ⟨i, hi, rfl⟩ := List.getElem_of_mem hx
  have := h i hi
  rw [getD_get _ _ _ hi] at this; exact this
/-- A new block of runs reads as a slice. -/
theorem argS_blk {w : World} {p : Nat} {l : List Sg} {t : TypeId} (h : Blk w p (cellsOfS l).toArray t) : ArgS w (some ⟨p, 0, none⟩) l := fun _ =>
  ⟨p, 0, rfl, h.lt, fun i hi => by
    obtain ⟨h1, h2, h3⟩ := cellsOfS_get l i hi
    simp only [Nat.zero_add]
    have q : ∀ j, w.cell? ⟨p, j, none⟩ = (cellsOfS l)[j]? := fun j => (h.cell j).trans (by simp)
    exact ⟨(q _).trans h1, (q _).trans h2, (q _).trans h3⟩⟩
/-- What a call of Of hands back, where the answer is known. -/
def OfIs (w : World) (F : List Sg) (er : Int) (e : Ending) (w' : World) : Prop := ∃ v : Value, e = .returned (.tuple #[v, .int .i64 er]) ∧ SliS w' v F ∧ Below w.heap.size w w'
/-- The box's runs. -/
def boxL (x y : Int) (v : Int × Int) : List Sg := if x = y ∨ v = (0, 0) then [] else [(x, v), (y, (0, 0))]
theorem boxL_of {x y : Int} {v : Int × Int} (hxy : x ≤ y) (h1 : okS (x, v) = true) (h2 : okS (y, (0, 0)) = true) : IsOf [(x, v), (y, (0, 0))] (boxL x y v) := by
  unfold boxL
  by_cases c : x = y ∨ v = (0, 0)
  · rw [if_pos c]
    refine ⟨trivial, fun t => ?_, by simp⟩
    unfold rv rread vat
    simp only [List.foldl_cons, List.foldl_nil]
    unfold rstep
    rcases c with c | c
    · subst c
      by_cases k : x ≤ t <;> simp [k]
    · subst c
      by_cases k : x ≤ t <;> by_cases k2 : y ≤ t <;> simp [k, k2, hxy]
  · rw [if_neg c]
    have c1 : x ≠ y := fun e => c (.inl e)
    have c2 : v ≠ (0, 0) := fun e => c (.inr e)
    refine ⟨⟨h1, c2, fun s hs => ?_, h2, fun e => c2 e.symm, fun s hs => by simp at hs, trivial⟩, fun t => ?_, Nat.le_refl _⟩
    · simp at hs; subst hs
      show x < y
      omega
    · unfold rv rread vat
      simp only [List.foldl_cons, List.foldl_nil]
      unfold rstep stepV
      by_cases k : x ≤ t <;> by_cases k2 : y ≤ t <;> simp [k, k2, hxy]
/-- What Box hands back. -/
def boxS (x y : Int) (v : Int × Int) : List Sg × Int := if y < x then ([], 2) else if okS (x, v) && okS (y, (0, 0)) then (boxL x y v, 0) else ([], 10)
/-- The document's example. -/
theorem head_of : IsOf [(5, (1, 1)), (2, (3, 3)), (5, (2, 2)), (9, (2, 2))] [(2, (3, 3)), (5, (2, 2))] := by
  refine ⟨⟨by decide, by decide, fun s hs => by simp at hs; subst hs; decide, by decide, by decide, fun s hs => by simp at hs, trivial⟩, fun t => ?_, by decide⟩
  unfold rv rread vat
  simp only [List.foldl_cons, List.foldl_nil]
  unfold rstep stepV
  by_cases k : (2 : Int) ≤ t
  · by_cases k2 : (5 : Int) ≤ t
    · by_cases k3 : (9 : Int) ≤ t <;> simp [k, k2, k3]
    · have k3 : ¬ (9 : Int) ≤ t := by omega
      simp [k, k2, k3]
  · have k2 : ¬ (5 : Int) ≤ t := by omega
    have k3 : ¬ (9 : Int) ≤ t := by omega
    simp [k, k2, k3]
end Go.Proofs.Ytigepmijgoglhaa

namespace Go.Proofs.Ytigepmijgoglhaa
open Go.ChangeShapes Go.WideShapes Go.ChangeAt Go.RowKit

/-- A number that an int64 holds. -/
def I64 (x : Int) : Prop := -9223372036854775808 ≤ x ∧ x ≤ 9223372036854775807
/-- A run whose numbers are int64s. -/
def S64 (s : Sg) : Prop := I64 s.1 ∧ I64 s.2.1 ∧ I64 s.2.2
section
variable {H : Type} {enc : TypeId × Value → H} {P : Program}
theorem wf64 {n : Int} (h : (Lit.int .i64 n).wf = true) : I64 n := by
  have : -9223372036854775808 ≤ n ∧ n ≤ 9223372036854775807 := by simpa [Lit.wf, IntKind.min, IntKind.max, IntKind.signed, IntKind.bits] using h
  exact this
theorem open_segs {ts e tv ti : TypeId} {f0 f1 g0 g1 : Field} {W : World} {v : Value} {d : DataW H} {p : List MemPlace} (hs : P.underlying ts = some (.slice e)) (he : P.underlying e = some (.struct #[f0, f1]))
    (ce : P.cellsOf e = 3) (o0 : f0.offset = 0) (o1 : f1.offset = 1) (t0 : f0.type = ti) (t1 : f1.type = tv) (ci : P.cellsOf ti = 1) (cv : P.cellsOf tv = 2) (hi : P.underlying ti = some (.int .i64))
    (hv : P.underlying tv = some (.struct #[g0, g1])) (p0 : g0.offset = 0) (p1 : g1.offset = 1) (u0 : g0.type = ti) (u1 : g1.type = ti)
    {r : Reach} {b0 : Nat} (ho : Value.okWide P W r b0 ts v) (h : DataW.Trod enc P W 0 (fun _ => true) true ts v d p) :
    ∃ (l : List Sg) (a : Option Addr) (cap : Nat), v = .slice a l.length cap ∧ l.length ≤ 9223372036854775807 ∧ ArgS W a l ∧ ∀ x ∈ l, S64 x := by
  obtain ⟨a, len, cap, rfl⟩ := okWide_slice hs ho
  obtain ⟨fuel, hf⟩ := h
  rcases Deep.open_slice (cs := [.slice a len cap]) hs hf with ⟨hcs, _⟩ | ⟨a', len', cap', m, n, D, Pl, hcs, _, hlc, hcm, hm, _, hx⟩
  · simp at hcs
    obtain ⟨rfl, rfl, rfl⟩ := hcs
    exact ⟨[], none, 0, rfl, by simp, fun h => by simp at h, fun x hx => by simp at hx⟩
  · simp at hcs
    obtain ⟨rfl, rfl, rfl⟩ := hcs
    have hlen : len ≤ m := by rw [hm]; simpa using hlc
    have each : ∀ i, i < len → ∃ s : Sg, (W.cell? (a'.add (i * 3)) = some (.int .i64 s.1) ∧ W.cell? ((a'.add (i * 3)).add 1) = some (.int .i64 s.2.1) ∧ W.cell? ((a'.add (i * 3)).add 2) = some (.int .i64 s.2.2)) ∧ S64 s := fun i hi' => by
      obtain ⟨cs', hc, ht⟩ := hx i (by omega)
      rw [ce] at hc
      obtain ⟨_, hcl, hat⟩ := World.cells?_some hc
      obtain ⟨ys, n', _, _, hl1, hyl, hfs⟩ := DataW.trod_struct he ht
      have h0 := hfs 0 f0 rfl
      have h1 := hfs 1 f1 rfl
      rw [o0, t0, ci] at h0
      rw [o1, t1, cv] at h1
      match cs', hcl with
      | [c0, c1, c2], _ =>
        match ys, hyl with
        | [y0, y1], _ =>
          simp at h0 h1
          obtain ⟨z0, e0, _, w0⟩ := DataW.trod_int hi h0
          obtain ⟨zs, n2, _, _, hl2, hzl, hgs⟩ := DataW.trod_struct hv h1
          have k0 := hgs 0 g0 rfl
          have k1 := hgs 1 g1 rfl
          rw [p0, u0, ci] at k0
          rw [p1, u1, ci] at k1
          match zs, hzl with
          | [q0, q1], _ =>
            simp at k0 k1
            obtain ⟨z1, e1, _, w1⟩ := DataW.trod_int hi k0
            obtain ⟨z2, e2, _, w2⟩ := DataW.trod_int hi k1
            simp at e0 e1 e2
            subst e0 e1 e2
            have a0 := hat 0 (by omega)
            have a1 := hat 1 (by omega)
            have a2 := hat 2 (by omega)
            simp at a1 a2
            refine ⟨(z0, z1, z2), ⟨?_, a1, a2⟩, wf64 w0, wf64 w1, wf64 w2⟩
            have ea : (a'.add (i * 3)).add 0 = a'.add (i * 3) := by simp [Addr.add]
            rw [ea] at a0
            simpa using a0
    obtain ⟨F, hF⟩ := Deep.choose_lt each
    refine ⟨(List.range len).map F, some a', cap, by simp, by simp; unfold maxLen at hcm; omega, fun hl => ?_, fun x hx => ?_⟩
    · simp at hl
      have hc00 := (hF 0 hl).1.1
      obtain ⟨b, off, spot⟩ := a'
      have hsp : spot = none := by
        cases spot with
        | none => rfl
        | some s => simp [Addr.add, World.cell?] at hc00; split at hc00 <;> simp at hc00
      subst hsp
      have hb : b < W.heap.size := by
        apply Nat.lt_of_not_le
        intro hge
        simp [Addr.add, World.cell?, Array.getElem?_eq_none hge] at hc00
      refine ⟨b, off, rfl, hb, fun i hi => ?_⟩
      have hi' : i < len := by simpa using hi
      have hg : ((List.range len).map F).getD i (0, 0, 0) = F i := by simp [List.getD_eq_getElem?_getD, hi']
      obtain ⟨⟨h1, h2, h3⟩, _⟩ := hF i hi'
      have ad : ∀ x y : Nat, (⟨b, x, none⟩ : Addr).add y = ⟨b, x + y, none⟩ := fun x y => by
        unfold Addr.add
        by_cases c : y = 0
        · subst c; simp
        · simp [c]
      rw [ad] at h1 h2 h3
      rw [ad] at h2 h3
      rw [hg]
      exact ⟨h1, h2, h3⟩
    · rw [List.mem_map] at hx
      obtain ⟨i, hi, rfl⟩ := hx
      exact (hF i (by simpa using hi)).2
theorem open_slis {ts e tv ti : TypeId} {f0 f1 g0 g1 : Field} {W : World} {v : Value} {d : DataW H} {p : List MemPlace} (hs : P.underlying ts = some (.slice e)) (he : P.underlying e = some (.struct #[f0, f1]))
    (ce : P.cellsOf e = 3) (o0 : f0.offset = 0) (o1 : f1.offset = 1) (t0 : f0.type = ti) (t1 : f1.type = tv) (ci : P.cellsOf ti = 1) (cv : P.cellsOf tv = 2) (hi : P.underlying ti = some (.int .i64))
    (hv : P.underlying tv = some (.struct #[g0, g1])) (p0 : g0.offset = 0) (p1 : g1.offset = 1) (u0 : g0.type = ti) (u1 : g1.type = ti)
    {r : Reach} {b0 : Nat} (ho : Value.okWide P W r b0 ts v) (h : DataW.Trod enc P W 0 (fun _ => true) true ts v d p) :
    ∃ (l : List Sg) (a : Option Addr) (cap : Nat), v = .slice a l.length cap ∧ l.length ≤ 9223372036854775807 ∧ SliS W (.slice a l.length cap) l ∧ ∀ x ∈ l, S64 x := by
  obtain ⟨a, len, cap, rfl⟩ := okWide_slice hs ho
  obtain ⟨fuel, hf⟩ := h
  rcases Deep.open_slice (cs := [.slice a len cap]) hs hf with ⟨hcs, _⟩ | ⟨a', len', cap', m, n, D, Pl, hcs, _, hlc, hcm, hm, _, hx⟩
  · simp at hcs
    obtain ⟨rfl, rfl, rfl⟩ := hcs
    exact ⟨[], none, 0, rfl, by simp, sliS_nil _, fun x hx => by simp at hx⟩
  · simp at hcs
    obtain ⟨rfl, rfl, rfl⟩ := hcs
    have hlen : len ≤ m := by rw [hm]; simpa using hlc
    have each : ∀ i, i < len → ∃ s : Sg, (W.cell? (a'.add (i * 3)) = some (.int .i64 s.1) ∧ W.cell? ((a'.add (i * 3)).add 1) = some (.int .i64 s.2.1) ∧ W.cell? ((a'.add (i * 3)).add 2) = some (.int .i64 s.2.2)) ∧ S64 s := fun i hi' => by
      obtain ⟨cs', hc, ht⟩ := hx i (by omega)
      rw [ce] at hc
      obtain ⟨_, hcl, hat⟩ := World.cells?_some hc
      obtain ⟨ys, n', _, _, hl1, hyl, hfs⟩ := DataW.trod_struct he ht
      have h0 := hfs 0 f0 rfl
      have h1 := hfs 1 f1 rfl
      rw [o0, t0, ci] at h0
      rw [o1, t1, cv] at h1
      match cs', hcl with
      | [c0, c1, c2], _ =>
        match ys, hyl with
        | [y0, y1], _ =>
          simp at h0 h1
          obtain ⟨z0, e0, _, w0⟩ := DataW.trod_int hi h0
          obtain ⟨zs, n2, _, _, hl2, hzl, hgs⟩ := DataW.trod_struct hv h1
          have k0 := hgs 0 g0 rfl
          have k1 := hgs 1 g1 rfl
          rw [p0, u0, ci] at k0
          rw [p1, u1, ci] at k1
          match zs, hzl with
          | [q0, q1], _ =>
            simp at k0 k1
            obtain ⟨z1, e1, _, w1⟩ := DataW.trod_int hi k0
            obtain ⟨z2, e2, _, w2⟩ := DataW.trod_int hi k1
            simp at e0 e1 e2
            subst e0 e1 e2
            have a0 := hat 0 (by omega)
            have a1 := hat 1 (by omega)
            have a2 := hat 2 (by omega)
            simp at a1 a2
            refine ⟨(z0, z1, z2), ⟨?_, a1, a2⟩, wf64 w0, wf64 w1, wf64 w2⟩
            have ea : (a'.add (i * 3)).add 0 = a'.add (i * 3) := by simp [Addr.add]
            rw [ea] at a0
            simpa using a0
    obtain ⟨F, hF⟩ := Deep.choose_lt each
    refine ⟨(List.range len).map F, some a', cap, by simp, by simp; unfold maxLen at hcm; omega, ⟨some a', cap, rfl, by simp; omega, by unfold maxLen at hcm; omega, fun hl => ?_⟩, fun x hx => ?_⟩
    · simp at hl
      have hc00 := (hF 0 hl).1.1
      obtain ⟨b, off, spot⟩ := a'
      have hsp : spot = none := by
        cases spot with
        | none => rfl
        | some s => simp [Addr.add, World.cell?] at hc00; split at hc00 <;> simp at hc00
      subst hsp
      have hb : b < W.heap.size := by
        apply Nat.lt_of_not_le
        intro hge
        simp [Addr.add, World.cell?, Array.getElem?_eq_none hge] at hc00
      refine ⟨b, off, rfl, hb, fun i hi => ?_⟩
      have hi' : i < len := by simpa using hi
      have hg : ((List.range len).map F).getD i (0, 0, 0) = F i := by simp [List.getD_eq_getElem?_getD, hi']
      obtain ⟨⟨h1, h2, h3⟩, _⟩ := hF i hi'
      have ad : ∀ x y : Nat, (⟨b, x, none⟩ : Addr).add y = ⟨b, x + y, none⟩ := fun x y => by
        unfold Addr.add
        by_cases c : y = 0
        · subst c; simp
        · simp [c]
      rw [ad] at h1 h2 h3
      rw [ad] at h2 h3
      rw [hg]
      exact ⟨h1, h2, h3⟩
    · rw [List.mem_map] at hx
      obtain ⟨i, hi, rfl⟩ := hx
      exact (hF i (by simpa using hi)).2
end
set_option maxRecDepth 100000 in
theorem cellsSeg : Try.prog.cellsOf 43 = 3 := by kernel_rfl
set_option maxRecDepth 100000 in
theorem cellsI64 : Try.prog.cellsOf 2 = 1 := by kernel_rfl
set_option maxRecDepth 100000 in
/-- For this program. -/
theorem open_segsP {H : Type} {enc : TypeId × Value → H} {W : World} {v : Value} {d : DataW H} {p : List MemPlace} {r : Reach} {b0 : Nat} (ho : Value.okWide Try.prog W r b0 29 v) (h : DataW.Trod enc Try.prog W 0 (fun _ => true) true 29 v d p) :
    ∃ (l : List Sg) (a : Option Addr) (cap : Nat), v = .slice a l.length cap ∧ l.length ≤ 9223372036854775807 ∧ ArgS W a l ∧ ∀ x ∈ l, S64 x :=
  open_segs (P := Try.prog) Try.underlying29 Try.underlying43 cellsSeg rfl rfl rfl rfl cellsI64 cellsV Try.underlying2 Try.underlying35 rfl rfl rfl rfl ho h
set_option maxRecDepth 100000 in
theorem open_slisP {H : Type} {enc : TypeId × Value → H} {W : World} {v : Value} {d : DataW H} {p : List MemPlace} {r : Reach} {b0 : Nat} (ho : Value.okWide Try.prog W r b0 29 v) (h : DataW.Trod enc Try.prog W 0 (fun _ => true) true 29 v d p) :
    ∃ (l : List Sg) (a : Option Addr) (cap : Nat), v = .slice a l.length cap ∧ l.length ≤ 9223372036854775807 ∧ SliS W (.slice a l.length cap) l ∧ ∀ x ∈ l, S64 x :=
  open_slis (P := Try.prog) Try.underlying29 Try.underlying43 cellsSeg rfl rfl rfl rfl cellsI64 cellsV Try.underlying2 Try.underlying35 rfl rfl rfl rfl ho h
end Go.Proofs.Ytigepmijgoglhaa

namespace Go.Proofs.Ytigepmijgoglhaa
open Go.ChangeShapes Go.WideShapes Go.ChangeAt Go.RowKit
attribute [local irreducible] Go.Calls

theorem sliS_alloc {w : World} {v : Value} {l : List Sg} (h : SliS w v l) (o : Obj) : SliS (w.alloc o) v l := h.past ((Below.refl _ _).alloc (Nat.le_refl _) _)
/-- A new block of runs. -/
theorem sliS_new {w : World} {p n : Nat} {cs : Array Value} {l : List Sg} {t : TypeId} (h : Blk w p cs t) (hc : cs = (cellsOfS l).toArray) (hn : n = l.length) (h2 : n ≤ 1000000) : SliS w (.slice (some ⟨p, 0, none⟩) n n) l := by
  subst hc; subst hn
  exact ⟨some ⟨p, 0, none⟩, l.length, rfl, Nat.le_refl _, by omega, argS_blk h⟩
theorem SliS.len {w : World} {a : Option Addr} {n cap : Nat} {l : List Sg} (h : SliS w (.slice a n cap) l) : n = l.length ∧ l.length ≤ cap ∧ cap ≤ 9223372036854775807 ∧ ArgS w a l := by
  obtain ⟨a', c', e, h1, h2, h3⟩ := h
  cases e
  exact ⟨rfl, h1, h2, h3⟩
/-- What a call hands back, taken apart. -/
def OfSl (w : World) (n : Nat) (F : List Sg) (er : Int) (e : Ending) (w' : World) : Prop := ∃ (a : Option Addr) (cap : Nat), e = .returned (.tuple #[.slice a n cap, .int .i64 er]) ∧ SliS w' (.slice a n cap) F ∧ Below w.heap.size w w'
theorem Calls.ofSl {P : Program} {f : FuncId} {args : Array Value} {w : World} {F : List Sg} {er : Int} {n : Nat} (h : Calls P f args w (OfIs w F er)) (hn : F.length = n) : Calls P f args w (OfSl w n F er) := h.mono fun _ _ h => by
  subst hn
  obtain ⟨v, h1, hs, h3⟩ := h
  obtain ⟨a, cap, rfl, q1, q2, q3⟩ := hs
  exact ⟨a, cap, h1, ⟨a, cap, rfl, q1, q2, q3⟩, h3⟩
end Go.Proofs.Ytigepmijgoglhaa

namespace Go.Proofs.Ytigepmijgoglhaa
open Go.ChangeShapes Go.WideShapes Go.ChangeAt Go.RowKit
attribute [local irreducible] Go.Calls

theorem seg_c (x m c : Int) (w : World) : Calls Try.prog 18 #[.int .i64 x, .int .i64 m, .int .i64 c] w fun e w' => e = .returned (S x m c) ∧ Below w.heap.size w w' := by
  go_enter Try.func18, Try.ntmps18
  go_wp2
  exact bodyPost_ret (v := S x m c) (by simp [results, Try.results18, go_sem]) rfl ⟨rfl, by (repeat (first | exact Below.refl _ _ | assumption | refine balloc ?_ _ | refine below_drewN ?_ _ | refine bstep (by assumption) ?_ | refine bstep (Past.prop _) ?_ | refine Below.setCell ?_ (by first | exact Nat.le_refl _ | (simp; done) | (simp; omega)) _))⟩
end Go.Proofs.Ytigepmijgoglhaa

namespace Go.Proofs.Ytigepmijgoglhaa
open Go.ChangeShapes Go.WideShapes Go.ChangeAt Go.RowKit
attribute [local irreducible] Go.Calls

def RdPost (F : List Sg) (k : Nat) (tt : Int) (p : Nat) (a : Option Addr) (cap : Nat) (w0 w : World) (e : Ending) (w' : World) : Prop :=
  ∃ (k' : Nat) (a' : Option Addr) (cap' : Nat), k ≤ k' ∧ k' ≤ F.length ∧ (∀ i, k ≤ i → i < k' → ats F i < tt) ∧ (k' = F.length ∨ tt ≤ ats F k') ∧
    e = .returned (.slice a' (readL F k k').length cap') ∧ (readL F k k').length ≤ F.length ∧ ArgS w0 a' (readL F k k') ∧ Blk w' p #[.slice a F.length cap, .int .i64 k'] 65 ∧ w.grownBy w' (some p)
theorem rd_arg {F : List Sg} {k k' f b off cap : Nat} {w0 : World} (hA : ArgS w0 (some ⟨b, off, none⟩) F) (hf : firstR F k = f) (h2 : k' ≤ F.length) (hcap : F.length ≤ cap) :
    ArgS w0 (if cap = f then some ⟨b, off, none⟩ else some ⟨b, off + f * 3, none⟩) (readL F k k') := by
  intro hl
  rw [readL_len h2, hf] at hl
  rw [if_neg (by omega)]
  obtain ⟨b', off', e, hb, hc⟩ := hA (by omega)
  cases e
  refine ⟨b, off + f * 3, rfl, hb, fun i hi => ?_⟩
  rw [readL_len h2, hf] at hi
  obtain ⟨h1, h2, h3⟩ := hc (f + i) (by omega)
  rw [readL_get (by omega), hf, show off + f * 3 + i * 3 = off + (f + i) * 3 by omega]
  exact ⟨h1, h2, h3⟩
theorem rd_arg0 {F : List Sg} {k' : Nat} {a : Option Addr} {w0 : World} (hA : ArgS w0 a F) (h2 : k' ≤ F.length) : ArgS w0 a (readL F 0 k') := by
  intro hl
  rw [readL_len h2] at hl
  have hf : firstR F 0 = 0 := rfl
  obtain ⟨b, off, e, hb, hc⟩ := hA (by omega)
  refine ⟨b, off, e, hb, fun i hi => ?_⟩
  rw [readL_len h2, hf] at hi
  obtain ⟨h1, h2, h3⟩ := hc i (by omega)
  rw [readL_get (by omega), hf, Nat.zero_add]
  exact ⟨h1, h2, h3⟩
set_option maxRecDepth 100000 in
set_option maxHeartbeats 2000000 in
theorem read_c (F : List Sg) (k : Nat) (tt : Int) (p : Nat) (a : Option Addr) (cap : Nat) (w0 w : World) (hl : F.length ≤ 1000000000) (hcap : F.length ≤ cap) (hcap2 : cap ≤ 9223372036854775807) (hA : ArgS w0 a F) (hw : Below w0.heap.size w0 w) (hp : w0.heap.size ≤ p) (hk : k ≤ F.length)
    (hB : Blk w p #[.slice a F.length cap, .int .i64 k] 65) :
    Calls Try.prog 38 #[.pointer (some ⟨p, 0, none⟩), .int .i64 tt] w (RdPost F k tt p a cap w0 w) := by
  have HW := hidE hw; have HP := hidE hp; have HA := hidE hA; have HB0 := hidE hB
  have b0 := hB.cell 0; have b1 := hB.cell 1; have bz := hB.lt
  simp at b0 b1
  have hkb : k = 0 ∨ (∃ j, k = j + 1 ∧ vls F j = (0, 0)) ∨ ∃ j, k = j + 1 ∧ vls F j ≠ (0, 0) := by
    cases k with
    | zero => exact .inl rfl
    | succ j =>
      by_cases c : vls F j = (0, 0)
      · exact .inr (.inl ⟨j, rfl, c⟩)
      · exact .inr (.inr ⟨j, rfl, c⟩)
  clear hA hw hp hB
  rcases hkb with rfl | ⟨j, rfl, hv⟩ | ⟨j, rfl, hv⟩
  · by_cases hl0 : F.length = 0
    · have q0 : decide ((0 : Int) < (F.length : Int)) = false := decide_eq_false (by omega)
      have q1 : decide (0 < F.length) = false := decide_eq_false (by omega)
      have FIN := hidE (show ∀ (W' : World) (c : Nat), Below w.heap.size w W' → RdPost F 0 tt p a cap w0 w (.returned (.slice a 0 c)) W' from fun W' c hbb =>
        ⟨0, a, c, Nat.le_refl _, Nat.zero_le _, fun i h1 h2 => by omega, .inl hl0.symm, by rw [readL_len (Nat.zero_le _)]; simp, by rw [readL_len (Nat.zero_le _)]; omega, rd_arg0 HA.out (Nat.zero_le _), HB0.out.past hbb, grown_any hbb⟩)
      clear hl0
      generalize F.length = kl at *
      go_enter Try.func38, Try.ntmps38
      go_wp2
      go_loopg [] 0 (fun gh wr => wr = w)
      case atStart => rfl
      case round =>
        subst hrel
        go_wp2
        go_quiet (fail)
        go_wp2
        go_quiet (fail)
        go_wp2
        go_ret
        exact FIN.out _ _ (by (repeat (first | exact Below.refl _ _ | assumption | refine balloc ?_ _ | refine below_drewN ?_ _ | refine bstep (by assumption) ?_ | refine bstep (Past.prop _) ?_ | refine Below.setCell ?_ (by first | exact Nat.le_refl _ | (simp; done) | (simp; omega)) _)))
    have HF := hidE (show firstR F 0 = 0 from rfl)
    obtain ⟨b, off, rfl, hb0, hc0⟩ := HA.out (by omega)
    have hbz : b < w.heap.size := by have := HW.out.size; omega
    go_enter Try.func38, Try.ntmps38
    go_wp2
    clear b0 b1 hl0
    all_goals go_loopg [] F.length (fun gh wr => ∃ m : Nat, 0 ≤ m ∧ m ≤ F.length ∧ F.length - m ≤ gh ∧ (∀ i, 0 ≤ i → i < m → ats F i < tt) ∧ Blk wr p #[.slice (some ⟨b, off, none⟩) F.length cap, .int .i64 m] 65 ∧ w.grownBy wr (some p))
    all_goals first
      | (case atStart => exact ⟨0, Nat.le_refl _, by omega, by omega, fun i h1 h2 => by omega, HB0.out, grown_refl _ _⟩)
      | skip
    all_goals
      obtain ⟨m, hkm, hml, hg, hlo, hB1, hgr⟩ := hrel
      have HG := hidE hgr; have HB := hidE hB1; have HLO := hidE hlo; have HGH := hidE hg
      have hbw : Below w0.heap.size w0 wr := HW.out.grown hgr HW.out.size (fun k' e' => by cases e'; exact HP.out)
      have hc := hc0.below hbw hb0
      have hbp : b ≠ p := by have := HP.out; omega
      have hbz2 : b < wr.heap.size := by have := hbw.size; omega
      have g0 := hB1.cell 0; have g1 := hB1.cell 1; have gz := hB1.lt; have gf := hB1.free
      simp at g0 g1
      clear hgr hB1 hlo hg
      obtain ⟨wo, hwo⟩ : ∃ wo : World, wo = wr := ⟨_, rfl⟩
      have fin : (m = F.length ∨ tt ≤ ats F m) → ∀ (W' : World) (av : Option Addr), Below wr.heap.size wr W' → av = some ⟨b, off, none⟩ → RdPost F (0) tt p (some ⟨b, off, none⟩) cap w0 w (.returned (.slice av (m - (0)) (cap - (0)))) W' := fun hq W' av hbb hav =>
        ⟨m, av, cap - (0), hkm, hml, HLO.out, hq, by rw [readL_len hml, HF.out], by rw [readL_len hml]; omega, by rw [hav]; exact rd_arg0 HA.out hml, HB.out.past hbb, grown_trans HG.out (grown_any hbb)⟩
      have FIN := hidE fin
      clear fin
      by_cases hlt : m < F.length
      · obtain ⟨d0, _, _⟩ := hc.get hlt
        have q0 : decide (m < F.length) = true := decide_eq_true hlt
        have q1 : decide ((m : Int) < (F.length : Int)) = true := decide_eq_true (by omega)
        clear hc hc0
        by_cases ht : ats F m < tt
        · have q2 : decide (ats F m < tt) = true := decide_eq_true ht
          have HX := hidE (show ∀ i, 0 ≤ i → i < m + 1 → ats F i < tt from fun i h1 h2 => by
            by_cases c : i = m
            · rw [c]; exact ht
            · exact HLO.out i h1 (by omega))
          clear ht
          generalize ats F m = u at *
          go_wp2
          go_quiet (fail)
          go_wp2
          go_roundg (F.length - (m + 1))
          case measure => have := HGH.out; omega
          case rel =>
            refine ⟨m + 1, by omega, by omega, by omega, HX.out, ?_, ?_⟩
            · have q := HB.out.set 1 (.int .i64 ((m + 1 : Nat) : Int))
              simp at q ⊢
              exact q
            · exact grown_trans (grown_trans HG.out (grown_any (below_drewN (Below.refl _ _) _))) (grown_set _ _ _ _)
        · have q2 : decide (ats F m < tt) = false := decide_eq_false ht
          have FIN2 := hidE (FIN.out (.inr (by omega)))
          clear ht FIN
          generalize ats F m = u at *
          go_wp2
          go_quiet (fail)
          go_wp2
          go_quiet (fail)
          go_wp2
          go_ret
          exact FIN2.out _ _ (by (repeat (first | exact Below.refl _ _ | assumption | refine balloc ?_ _ | refine below_drewN ?_ _ | refine bstep (by assumption) ?_ | refine bstep (Past.prop _) ?_ | refine Below.setCell ?_ (by first | exact Nat.le_refl _ | (simp; done) | (simp; omega)) _))) rfl
      · have q0 : decide (m < F.length) = false := decide_eq_false hlt
        have q1 : decide ((m : Int) < (F.length : Int)) = false := decide_eq_false (by omega)
        have FIN2 := hidE (FIN.out (.inl (by omega)))
        clear hc hc0 FIN
        go_wp2
        go_quiet (fail)
        go_wp2
        go_quiet (fail)
        go_wp2
        go_ret
        exact FIN2.out _ _ (by (repeat (first | exact Below.refl _ _ | assumption | refine balloc ?_ _ | refine below_drewN ?_ _ | refine bstep (by assumption) ?_ | refine bstep (Past.prop _) ?_ | refine Below.setCell ?_ (by first | exact Nat.le_refl _ | (simp; done) | (simp; omega)) _))) rfl
  · have HF := hidE (show firstR F (j + 1) = j + 1 by unfold firstR; rw [if_neg]; rw [Nat.add_sub_cancel, hv]; exact fun h => h.2 rfl)
    obtain ⟨b, off, rfl, hb0, hc0⟩ := HA.out (by omega)
    have hc := hc0.below HW.out hb0
    obtain ⟨d0, d1, d2⟩ := hc.get (i := j) (by omega)
    rw [hv] at d1 d2
    simp only at d1 d2
    have hbz : b < w.heap.size := by have := HW.out.size; omega
    have e0 : decide (0 < j + 1) = true := decide_eq_true (by omega)
    have e1 : decide ((0 : Int) < ((j + 1 : Nat) : Int)) = true := decide_eq_true (by omega)
    clear hc
    go_enter Try.func38, Try.ntmps38
    go_wp2
    all_goals clear d0 d1 d2 b0 b1
    all_goals go_loopg [] F.length (fun gh wr => ∃ m : Nat, (j + 1) ≤ m ∧ m ≤ F.length ∧ F.length - m ≤ gh ∧ (∀ i, (j + 1) ≤ i → i < m → ats F i < tt) ∧ Blk wr p #[.slice (some ⟨b, off, none⟩) F.length cap, .int .i64 m] 65 ∧ w.grownBy wr (some p))
    all_goals first
      | (case atStart => exact ⟨(j + 1), Nat.le_refl _, by omega, by omega, fun i h1 h2 => by omega, HB0.out, grown_refl _ _⟩)
      | skip
    all_goals
      obtain ⟨m, hkm, hml, hg, hlo, hB1, hgr⟩ := hrel
      have HG := hidE hgr; have HB := hidE hB1; have HLO := hidE hlo; have HGH := hidE hg
      have hbw : Below w0.heap.size w0 wr := HW.out.grown hgr HW.out.size (fun k' e' => by cases e'; exact HP.out)
      have hc := hc0.below hbw hb0
      have hbp : b ≠ p := by have := HP.out; omega
      have hbz2 : b < wr.heap.size := by have := hbw.size; omega
      have g0 := hB1.cell 0; have g1 := hB1.cell 1; have gz := hB1.lt; have gf := hB1.free
      simp at g0 g1
      clear hgr hB1 hlo hg
      obtain ⟨wo, hwo⟩ : ∃ wo : World, wo = wr := ⟨_, rfl⟩
      have fin : (m = F.length ∨ tt ≤ ats F m) → ∀ (W' : World) (av : Option Addr), Below wr.heap.size wr W' → av = (if cap = j + 1 then some ⟨b, off, none⟩ else some ⟨b, off + (j + 1) * 3, none⟩) → RdPost F ((j + 1)) tt p (some ⟨b, off, none⟩) cap w0 w (.returned (.slice av (m - (j + 1)) (cap - (j + 1)))) W' := fun hq W' av hbb hav =>
        ⟨m, av, cap - (j + 1), hkm, hml, HLO.out, hq, by rw [readL_len hml, HF.out], by rw [readL_len hml]; omega, by rw [hav]; exact rd_arg HA.out HF.out hml hcap, HB.out.past hbb, grown_trans HG.out (grown_any hbb)⟩
      have FIN := hidE fin
      clear fin
      by_cases hlt : m < F.length
      · obtain ⟨d0, _, _⟩ := hc.get hlt
        have q0 : decide (m < F.length) = true := decide_eq_true hlt
        have q1 : decide ((m : Int) < (F.length : Int)) = true := decide_eq_true (by omega)
        clear hc hc0
        by_cases ht : ats F m < tt
        · have q2 : decide (ats F m < tt) = true := decide_eq_true ht
          have HX := hidE (show ∀ i, (j + 1) ≤ i → i < m + 1 → ats F i < tt from fun i h1 h2 => by
            by_cases c : i = m
            · rw [c]; exact ht
            · exact HLO.out i h1 (by omega))
          clear ht
          generalize ats F m = u at *
          go_wp2
          go_quiet (fail)
          go_wp2
          go_roundg (F.length - (m + 1))
          case measure => have := HGH.out; omega
          case rel =>
            refine ⟨m + 1, by omega, by omega, by omega, HX.out, ?_, ?_⟩
            · have q := HB.out.set 1 (.int .i64 ((m + 1 : Nat) : Int))
              simp at q ⊢
              exact q
            · exact grown_trans (grown_trans HG.out (grown_any (below_drewN (Below.refl _ _) _))) (grown_set _ _ _ _)
        · have q2 : decide (ats F m < tt) = false := decide_eq_false ht
          have FIN2 := hidE (FIN.out (.inr (by omega)))
          clear ht FIN
          generalize ats F m = u at *
          go_wp2
          go_quiet (fail)
          go_wp2
          go_quiet (fail)
          go_wp2
          go_ret
          exact FIN2.out _ (some ⟨b, off + (j + 1) * 3, none⟩) (by (repeat (first | exact Below.refl _ _ | assumption | refine balloc ?_ _ | refine below_drewN ?_ _ | refine bstep (by assumption) ?_ | refine bstep (Past.prop _) ?_ | refine Below.setCell ?_ (by first | exact Nat.le_refl _ | (simp; done) | (simp; omega)) _))) (by rw [if_neg (by omega)])
      · have q0 : decide (m < F.length) = false := decide_eq_false hlt
        have q1 : decide ((m : Int) < (F.length : Int)) = false := decide_eq_false (by omega)
        have FIN2 := hidE (FIN.out (.inl (by omega)))
        clear hc hc0 FIN
        go_wp2
        go_quiet (fail)
        go_wp2
        go_quiet (fail)
        go_wp2
        all_goals
          go_ret
          first
            | exact FIN2.out _ (some ⟨b, off + (j + 1) * 3, none⟩) (by (repeat (first | exact Below.refl _ _ | assumption | refine balloc ?_ _ | refine below_drewN ?_ _ | refine bstep (by assumption) ?_ | refine bstep (Past.prop _) ?_ | refine Below.setCell ?_ (by first | exact Nat.le_refl _ | (simp; done) | (simp; omega)) _))) (by rw [if_neg (by omega)])
            | (have hcj : cap = j + 1 := by assumption
               have q := fun W' hbb => FIN2.out W' (some ⟨b, off, none⟩) hbb (by rw [if_pos hcj])
               simp only [hcj, Nat.sub_self] at q
               exact q _ (by (repeat (first | exact Below.refl _ _ | assumption | refine balloc ?_ _ | refine below_drewN ?_ _ | refine bstep (by assumption) ?_ | refine bstep (Past.prop _) ?_ | refine Below.setCell ?_ (by first | exact Nat.le_refl _ | (simp; done) | (simp; omega)) _))))
  · have HF := hidE (show firstR F (j + 1) = j by unfold firstR; rw [if_pos (by rw [Nat.add_sub_cancel]; exact ⟨by omega, hv⟩), Nat.add_sub_cancel])
    obtain ⟨b, off, rfl, hb0, hc0⟩ := HA.out (by omega)
    have hc := hc0.below HW.out hb0
    obtain ⟨d0, d1, d2⟩ := hc.get (i := j) (by omega)
    have hbz : b < w.heap.size := by have := HW.out.size; omega
    have e0 : decide (0 < j + 1) = true := decide_eq_true (by omega)
    have e1 : decide ((0 : Int) < ((j + 1 : Nat) : Int)) = true := decide_eq_true (by omega)
    clear hc
    go_enter Try.func38, Try.ntmps38
    go_wp2
    all_goals try exact absurd (Prod.ext (show (vls F j).1 = 0 by assumption) (show (vls F j).2 = 0 by assumption)) hv
    all_goals clear d0 d1 d2 b0 b1
    all_goals go_loopg [] F.length (fun gh wr => ∃ m : Nat, (j + 1) ≤ m ∧ m ≤ F.length ∧ F.length - m ≤ gh ∧ (∀ i, (j + 1) ≤ i → i < m → ats F i < tt) ∧ Blk wr p #[.slice (some ⟨b, off, none⟩) F.length cap, .int .i64 m] 65 ∧ w.grownBy wr (some p))
    all_goals first
      | (case atStart => exact ⟨(j + 1), Nat.le_refl _, by omega, by omega, fun i h1 h2 => by omega, HB0.out, grown_refl _ _⟩)
      | skip
    all_goals
      obtain ⟨m, hkm, hml, hg, hlo, hB1, hgr⟩ := hrel
      have HG := hidE hgr; have HB := hidE hB1; have HLO := hidE hlo; have HGH := hidE hg
      have hbw : Below w0.heap.size w0 wr := HW.out.grown hgr HW.out.size (fun k' e' => by cases e'; exact HP.out)
      have hc := hc0.below hbw hb0
      have hbp : b ≠ p := by have := HP.out; omega
      have hbz2 : b < wr.heap.size := by have := hbw.size; omega
      have g0 := hB1.cell 0; have g1 := hB1.cell 1; have gz := hB1.lt; have gf := hB1.free
      simp at g0 g1
      clear hgr hB1 hlo hg
      obtain ⟨wo, hwo⟩ : ∃ wo : World, wo = wr := ⟨_, rfl⟩
      have fin : (m = F.length ∨ tt ≤ ats F m) → ∀ (W' : World) (av : Option Addr), Below wr.heap.size wr W' → av = (if cap = j then some ⟨b, off, none⟩ else some ⟨b, off + j * 3, none⟩) → RdPost F ((j + 1)) tt p (some ⟨b, off, none⟩) cap w0 w (.returned (.slice av (m - (j)) (cap - (j)))) W' := fun hq W' av hbb hav =>
        ⟨m, av, cap - (j), hkm, hml, HLO.out, hq, by rw [readL_len hml, HF.out], by rw [readL_len hml]; omega, by rw [hav]; exact rd_arg HA.out HF.out hml hcap, HB.out.past hbb, grown_trans HG.out (grown_any hbb)⟩
      have FIN := hidE fin
      clear fin
      by_cases hlt : m < F.length
      · obtain ⟨d0, _, _⟩ := hc.get hlt
        have q0 : decide (m < F.length) = true := decide_eq_true hlt
        have q1 : decide ((m : Int) < (F.length : Int)) = true := decide_eq_true (by omega)
        clear hc hc0
        by_cases ht : ats F m < tt
        · have q2 : decide (ats F m < tt) = true := decide_eq_true ht
          have HX := hidE (show ∀ i, (j + 1) ≤ i → i < m + 1 → ats F i < tt from fun i h1 h2 => by
            by_cases c : i = m
            · rw [c]; exact ht
            · exact HLO.out i h1 (by omega))
          clear ht
          generalize ats F m = u at *
          go_wp2
          go_quiet (fail)
          go_wp2
          go_roundg (F.length - (m + 1))
          case measure => have := HGH.out; omega
          case rel =>
            refine ⟨m + 1, by omega, by omega, by omega, HX.out, ?_, ?_⟩
            · have q := HB.out.set 1 (.int .i64 ((m + 1 : Nat) : Int))
              simp at q ⊢
              exact q
            · exact grown_trans (grown_trans HG.out (grown_any (below_drewN (Below.refl _ _) _))) (grown_set _ _ _ _)
        · have q2 : decide (ats F m < tt) = false := decide_eq_false ht
          have FIN2 := hidE (FIN.out (.inr (by omega)))
          clear ht FIN
          generalize ats F m = u at *
          go_wp2
          go_quiet (fail)
          go_wp2
          go_quiet (fail)
          go_wp2
          go_ret
          exact FIN2.out _ (some ⟨b, off + j * 3, none⟩) (by (repeat (first | exact Below.refl _ _ | assumption | refine balloc ?_ _ | refine below_drewN ?_ _ | refine bstep (by assumption) ?_ | refine bstep (Past.prop _) ?_ | refine Below.setCell ?_ (by first | exact Nat.le_refl _ | (simp; done) | (simp; omega)) _))) (by rw [if_neg (by omega)])
      · have q0 : decide (m < F.length) = false := decide_eq_false hlt
        have q1 : decide ((m : Int) < (F.length : Int)) = false := decide_eq_false (by omega)
        have FIN2 := hidE (FIN.out (.inl (by omega)))
        clear hc hc0 FIN
        go_wp2
        go_quiet (fail)
        go_wp2
        go_quiet (fail)
        go_wp2
        all_goals
          go_ret
          first
            | exact FIN2.out _ (some ⟨b, off + j * 3, none⟩) (by (repeat (first | exact Below.refl _ _ | assumption | refine balloc ?_ _ | refine below_drewN ?_ _ | refine bstep (by assumption) ?_ | refine bstep (Past.prop _) ?_ | refine Below.setCell ?_ (by first | exact Nat.le_refl _ | (simp; done) | (simp; omega)) _))) (by rw [if_neg (by omega)])
            | (have hcj : cap = j := by assumption
               have q := fun W' hbb => FIN2.out W' (some ⟨b, off, none⟩) hbb (by rw [if_pos hcj])
               simp only [hcj, Nat.sub_self] at q
               exact q _ (by (repeat (first | exact Below.refl _ _ | assumption | refine balloc ?_ _ | refine below_drewN ?_ _ | refine bstep (by assumption) ?_ | refine bstep (Past.prop _) ?_ | refine Below.setCell ?_ (by first | exact Nat.le_refl _ | (simp; done) | (simp; omega)) _))))
end Go.Proofs.Ytigepmijgoglhaa

namespace Go.Proofs.Ytigepmijgoglhaa
open Go.ChangeShapes Go.WideShapes Go.ChangeAt Go.RowKit

end Go.Proofs.Ytigepmijgoglhaa

namespace Go.Proofs.Ytigepmijgoglhaa
open Go.ChangeShapes Go.WideShapes Go.ChangeAt Go.RowKit
attribute [local irreducible] Go.Calls

theorem qArg_no {q : Int} (h : q < 1 ∨ 4096 < q) : qArg q = false := by unfold qArg; exact decide_eq_false (by omega)
theorem okT_no {t : Int} (h : t < -1125899906842624 ∨ 1125899906842624 < t) : okT t = false := by unfold okT; exact decide_eq_false (by omega)
/-- Two integers. -/
abbrev I2 (r : Int × Int) : Value := .tuple #[.int .i64 r.1, .int .i64 r.2]

theorem rleft_c (t q : Int) (w : World) (hq : 1 ≤ q ∧ q ≤ 4096) (_ht : -9223372036854775808 ≤ t ∧ t ≤ 9223372036854775807) :
    Calls Try.prog 16 #[.int .i64 t, .int .i64 q] w fun e w' => e = .returned (.int .i64 (t % q)) ∧ w' = w := by
  have HE := hidE (left_emod (t := t) (q := q) (by omega))
  have h1 := Int.emod_nonneg t (show q ≠ 0 by omega)
  have h2 := Int.emod_lt_of_pos t (show 0 < q by omega)
  have hr : -4096 ≤ t.tmod q ∧ t.tmod q < 4096 := by
    have := HE.out
    split at this <;> omega
  have hq0 : q ≠ 0 := by omega
  have hq1 : (q == 0) = false := beq_eq_false_iff_ne.2 hq0
  have WR := hidE (show IntKind.i64.wrap (t.tmod q) = t.tmod q from IntWalk.i64_in _ (by omega))
  clear h1 h2
  by_cases c : t.tmod q < 0
  · have HE2 := hidE (show t.tmod q + q = t % q by have := HE.out; rwa [if_pos c] at this)
    have hd : decide (t.tmod q < 0) = true := decide_eq_true c
    rw [← HE2.out]
    clear HE HE2
    have wr := WR.out
    go_enter Try.func16, Try.ntmps16
    go_wp2
    go_ret
    exact ⟨rfl, rfl⟩
  · have HE2 := hidE (show t.tmod q = t % q by have := HE.out; rwa [if_neg c] at this)
    have hd : decide (t.tmod q < 0) = false := decide_eq_false c
    rw [← HE2.out]
    clear HE HE2
    have wr := WR.out
    go_enter Try.func16, Try.ntmps16
    go_wp2
    go_ret
    exact ⟨rfl, rfl⟩
theorem rqbad_c (t q : Int) (w : World) : Calls Try.prog 14 #[.int .i64 t, .int .i64 q] w fun e w' => e = .returned (.int .i64 (qBad t q)) ∧ w' = w := by
  by_cases h1 : q < 1
  · have HE := hidE (qBad_q (t := t) (qArg_no (.inl h1)))
    have e1 : decide (q < 1) = true := decide_eq_true h1
    rw [HE.out]
    go_enter Try.func14, Try.ntmps14
    go_wp2
    go_ret
    exact ⟨rfl, rfl⟩
  have e1 : decide (q < 1) = false := decide_eq_false h1
  by_cases h2 : 4096 < q
  · have HE := hidE (qBad_q (t := t) (qArg_no (.inr h2)))
    have e2 : decide (4096 < q) = true := decide_eq_true h2
    rw [HE.out]
    go_enter Try.func14, Try.ntmps14
    go_wp2
    go_ret
    exact ⟨rfl, rfl⟩
  have e2 : decide (4096 < q) = false := decide_eq_false h2
  by_cases h3 : t < -1125899906842624
  · have HE := hidE (qBad_t (t := t) (q := q) (qArg_iff.2 (by omega)) (okT_no (.inl h3)))
    have e3 : decide (t < -1125899906842624) = true := decide_eq_true h3
    rw [HE.out]
    go_enter Try.func14, Try.ntmps14
    go_wp2
    go_ret
    exact ⟨rfl, rfl⟩
  have e3 : decide (t < -1125899906842624) = false := decide_eq_false h3
  by_cases h4 : 1125899906842624 < t
  · have HE := hidE (qBad_t (t := t) (q := q) (qArg_iff.2 (by omega)) (okT_no (.inr h4)))
    have e4 : decide (1125899906842624 < t) = true := decide_eq_true h4
    rw [HE.out]
    go_enter Try.func14, Try.ntmps14
    go_wp2
    go_ret
    exact ⟨rfl, rfl⟩
  have e4 : decide (1125899906842624 < t) = false := decide_eq_false h4
  have HE := hidE (qBad_ok (t := t) (q := q) (qArg_iff.2 (by omega)) (okT_iff.2 (by omega)))
  rw [HE.out]
  go_enter Try.func14, Try.ntmps14
  go_wp2
  go_ret
  exact ⟨rfl, rfl⟩
theorem rqtold_c (t : Int) (w : World) : Calls Try.prog 15 #[.int .i64 t] w fun e w' => e = .returned (I2 (qTold t)) ∧ w' = w := by
  by_cases h3 : t < -1125899906842624
  · have HE := hidE (qTold_no (t := t) (okT_no (.inl h3)))
    have e3 : decide (t < -1125899906842624) = true := decide_eq_true h3
    rw [HE.out]
    go_enter Try.func15, Try.ntmps15
    go_wp2
    go_ret2
    exact ⟨rfl, rfl⟩
  have e3 : decide (t < -1125899906842624) = false := decide_eq_false h3
  by_cases h4 : 1125899906842624 < t
  · have HE := hidE (qTold_no (t := t) (okT_no (.inr h4)))
    have e4 : decide (1125899906842624 < t) = true := decide_eq_true h4
    rw [HE.out]
    go_enter Try.func15, Try.ntmps15
    go_wp2
    go_ret2
    exact ⟨rfl, rfl⟩
  have e4 : decide (1125899906842624 < t) = false := decide_eq_false h4
  have HE := hidE (qTold_ok (t := t) (okT_iff.2 (by omega)))
  rw [HE.out]
  go_enter Try.func15, Try.ntmps15
  go_wp2
  go_ret2
  exact ⟨rfl, rfl⟩
theorem rdown_c (t q : Int) (w : World) : Calls Try.prog 6 #[.int .i64 t, .int .i64 q] w fun e w' => e = .returned (I2 (downS t q)) ∧ w' = w := by
  have HB := hidE (fun w => rqbad_c t q w)
  by_cases hb : qBad t q = 0
  · obtain ⟨hq', ht'⟩ := qBad_zero.1 hb
    have hq := qArg_iff.1 hq'; have ht := okT_iff.1 ht'
    clear hq' ht'
    have HE := hidE (show downS t q = qTold (t - t % q) from downS_ok hb)
    have HL := hidE (fun w => rleft_c t q w hq (by omega))
    have HT := hidE (fun w => rqtold_c (t - t % q) w)
    have h1 := Int.emod_nonneg t (show q ≠ 0 by omega)
    have h2 := Int.emod_lt_of_pos t (show 0 < q by omega)
    have e1 : (qBad t q != 0) = false := by rw [bne_eq_false_iff_eq]; exact hb
    rw [HE.out]
    generalize qTold (t - t % q) = r at *
    generalize t % q = m at *
    clear HE
    rw [hb] at HB
    clear hb e1
    go_enter Try.func6, Try.ntmps6
    go_wp2_with (first | (go_at_call 14; ((with_reducible refine (HB.out _).mono ?_); rintro e w1 ⟨rfl, rfl⟩)) | (go_at_call 16; ((with_reducible refine (HL.out _).mono ?_); rintro e w1 ⟨rfl, rfl⟩)) | (go_at_call 15; ((with_reducible refine (HT.out _).mono ?_); rintro e w1 ⟨rfl, rfl⟩)))
    go_ret2
    exact ⟨rfl, rfl⟩
  · have HE := hidE (downS_bad hb)
    have e1 : (qBad t q != 0) = true := bne_iff_ne.2 hb
    rw [HE.out]
    clear HE hb
    generalize qBad t q = r at *
    go_enter Try.func6, Try.ntmps6
    go_wp2_with (go_at_call 14; ((with_reducible refine (HB.out _).mono ?_); rintro e w1 ⟨rfl, rfl⟩))
    go_ret2
    exact ⟨rfl, rfl⟩
theorem rup_c (t q : Int) (w : World) : Calls Try.prog 8 #[.int .i64 t, .int .i64 q] w fun e w' => e = .returned (I2 (upS t q)) ∧ w' = w := by
  have HB := hidE (fun w => rqbad_c t q w)
  by_cases hb : qBad t q = 0
  · obtain ⟨hq', ht'⟩ := qBad_zero.1 hb
    have hq := qArg_iff.1 hq'; have ht := okT_iff.1 ht'
    clear hq' ht'
    have HL := hidE (fun w => rleft_c t q w hq (by omega))
    have h1 := Int.emod_nonneg t (show q ≠ 0 by omega)
    have h2 := Int.emod_lt_of_pos t (show 0 < q by omega)
    rw [hb] at HB
    by_cases h0 : t % q = 0
    · have HE := hidE (show upS t q = (t, 0) by rw [upS_ok hb]; unfold upI; rw [if_pos h0]; exact qTold_ok (okT_iff.2 ht))
      rw [HE.out]
      rw [h0] at HL
      clear HE hb h0 h1 h2
      go_enter Try.func8, Try.ntmps8
      go_wp2_with (first | (go_at_call 14; ((with_reducible refine (HB.out _).mono ?_); rintro e w1 ⟨rfl, rfl⟩)) | (go_at_call 16; ((with_reducible refine (HL.out _).mono ?_); rintro e w1 ⟨rfl, rfl⟩)))
      go_ret2
      exact ⟨rfl, rfl⟩
    · have HE := hidE (show upS t q = qTold (t - t % q + q) by rw [upS_ok hb]; unfold upI downI; rw [if_neg h0])
      have HT := hidE (fun w => rqtold_c (t - t % q + q) w)
      have e1 : (t % q == 0) = false := beq_eq_false_iff_ne.2 h0
      rw [HE.out]
      generalize qTold (t - t % q + q) = r at *
      generalize t % q = m at *
      clear HE hb h0
      go_enter Try.func8, Try.ntmps8
      go_wp2_with (first | (go_at_call 14; ((with_reducible refine (HB.out _).mono ?_); rintro e w1 ⟨rfl, rfl⟩)) | (go_at_call 16; ((with_reducible refine (HL.out _).mono ?_); rintro e w1 ⟨rfl, rfl⟩)) | (go_at_call 15; ((with_reducible refine (HT.out _).mono ?_); rintro e w1 ⟨rfl, rfl⟩)))
      go_ret2
      exact ⟨rfl, rfl⟩
  · have HE := hidE (upS_bad hb)
    have e1 : (qBad t q != 0) = true := bne_iff_ne.2 hb
    rw [HE.out]
    clear HE hb
    generalize qBad t q = r at *
    go_enter Try.func8, Try.ntmps8
    go_wp2_with (go_at_call 14; ((with_reducible refine (HB.out _).mono ?_); rintro e w1 ⟨rfl, rfl⟩))
    go_ret2
    exact ⟨rfl, rfl⟩
end Go.Proofs.Ytigepmijgoglhaa

namespace Go.Proofs.Ytigepmijgoglhaa
open Go.ChangeShapes Go.WideShapes Go.ChangeAt Go.RowKit
attribute [local irreducible] Go.Calls

def inB (x f : Int) : Bool := decide (-f ≤ x ∧ x ≤ f)
theorem inB_iff {x f : Int} : inB x f = true ↔ (-f ≤ x ∧ x ≤ f) := by unfold inB; exact decide_eq_true_iff
theorem within_c (x f : Int) (w : World) (hf : 0 ≤ f ∧ f ≤ 9223372036854775807) : Calls Try.prog 23 #[.int .i64 x, .int .i64 f] w fun e w' => e = .returned (.bool (inB x f)) ∧ w' = w := by
  by_cases h1 : -f ≤ x
  · have HE := hidE (show inB x f = decide (x ≤ f) by unfold inB; rw [decide_eq_decide]; omega)
    have d1 : decide (-f ≤ x) = true := decide_eq_true h1
    rw [HE.out]
    clear h1
    go_enter Try.func23, Try.ntmps23
    go_wp2
    go_ret
    exact ⟨rfl, rfl⟩
  · have HE := hidE (show inB x f = false by unfold inB; exact decide_eq_false (by omega))
    have d1 : decide (-f ≤ x) = false := decide_eq_false h1
    rw [HE.out]
    clear h1
    go_enter Try.func23, Try.ntmps23
    go_wp2
    go_ret
    exact ⟨rfl, rfl⟩
theorem isq_c (q : Int) (w : World) : Calls Try.prog 22 #[.int .i64 q] w fun e w' => e = .returned (.bool (qArg q)) ∧ w' = w := by
  by_cases h1 : 1 ≤ q
  · have HE := hidE (show qArg q = decide (q ≤ 4096) by unfold qArg; rw [decide_eq_decide]; omega)
    have d1 : decide (1 ≤ q) = true := decide_eq_true h1
    rw [HE.out]
    clear h1
    go_enter Try.func22, Try.ntmps22
    go_wp2
    go_ret
    exact ⟨rfl, rfl⟩
  · have HE := hidE (show qArg q = false by unfold qArg; exact decide_eq_false (by omega))
    have d1 : decide (1 ≤ q) = false := decide_eq_false h1
    rw [HE.out]
    clear h1
    go_enter Try.func22, Try.ntmps22
    go_wp2
    go_ret
    exact ⟨rfl, rfl⟩
/-- What down and up make of how far a time is behind its multiple. -/
theorem dncl_c (t r : Int) (p : Nat) (w : World) (hB : Blk w p #[.int .i64 t] 2) (hw : -9223372036854775808 ≤ t - r ∧ t - r ≤ 9223372036854775807) :
    Calls Try.prog 30 #[.int .i64 r, .pointer (some ⟨p, 0, none⟩)] w fun e w' => e = .returned (.int .i64 (t - r)) ∧ w' = w := by
  have c0 := hB.cell 0; have cz := hB.lt
  simp at c0
  have WR := IntWalk.i64_in (t - r) (by omega)
  clear hB
  go_enter Try.func30, Try.ntmps30
  go_wp2
  go_ret
  exact ⟨rfl, rfl⟩
theorem upcl_c (t q r : Int) (p p2 : Nat) (w : World) (hB : Blk w p #[.int .i64 t] 2) (hB2 : Blk w p2 #[.int .i64 q] 2) (hw : -1152921504606846976 ≤ t ∧ t ≤ 1152921504606846976) (hq : 1 ≤ q ∧ q ≤ 4096) (hr : 0 ≤ r ∧ r < q) :
    Calls Try.prog 31 #[.int .i64 r, .pointer (some ⟨p, 0, none⟩), .pointer (some ⟨p2, 0, none⟩)] w fun e w' => e = .returned (.int .i64 (if r = 0 then t else t - r + q)) ∧ w' = w := by
  have c0 := hB.cell 0; have cz := hB.lt; have d0 := hB2.cell 0; have dz := hB2.lt
  simp at c0 d0
  clear hB hB2
  by_cases h : r = 0
  · rw [if_pos h]
    have e0 : (r == 0) = true := beq_iff_eq.2 h
    subst h
    go_enter Try.func31, Try.ntmps31
    go_wp2
    go_ret
    exact ⟨rfl, rfl⟩
  · rw [if_neg h]
    have e0 : (r == 0) = false := beq_eq_false_iff_ne.2 h
    have WR := IntWalk.i64_in (t - r) (by omega)
    have WR2 := IntWalk.i64_in (t - r + q) (by omega)
    clear h
    go_enter Try.func31, Try.ntmps31
    go_wp2
    go_ret
    exact ⟨rfl, rfl⟩
/-- What a function value makes of t % q is handed back. -/
theorem rounded_dn (t q r : Int) (caps : Array Value) (w : World) (hq : 1 ≤ q ∧ q ≤ 4096) (_ht : -9223372036854775808 ≤ t ∧ t ≤ 9223372036854775807)
    (hC : Calls Try.prog 30 (#[.int .i64 (t % q)] ++ caps) w fun e w' => e = .returned (.int .i64 r) ∧ w' = w) :
    Calls Try.prog 29 #[.int .i64 t, .int .i64 q, .func (.func 30) #[] caps] w fun e w' => e = .returned (.int .i64 r) ∧ w' = w := by
  have HC := hidE hC
  have HE := hidE (left_emod (t := t) (q := q) (by omega))
  have h1 := Int.emod_nonneg t (show q ≠ 0 by omega)
  have h2 := Int.emod_lt_of_pos t (show 0 < q by omega)
  have hr : -4096 ≤ t.tmod q ∧ t.tmod q < 4096 := by
    have := HE.out
    split at this <;> omega
  have hq0 : q ≠ 0 := by omega
  have hq1 : (q == 0) = false := beq_eq_false_iff_ne.2 hq0
  have WR := hidE (show IntKind.i64.wrap (t.tmod q) = t.tmod q from IntWalk.i64_in _ (by omega))
  clear h1 h2 hC
  by_cases c : t.tmod q < 0
  · have HE2 := hidE (show t.tmod q + q = t % q by have := HE.out; rwa [if_pos c] at this)
    have hd : decide (t.tmod q < 0) = true := decide_eq_true c
    rw [← HE2.out] at HC
    clear HE HE2
    have wr := WR.out
    go_enter Try.func29, Try.ntmps29
    go_wp2_with fail
    ((with_reducible refine (HC.out).mono ?_); rintro e w1 ⟨rfl, rfl⟩)
    go_wp2
    go_ret
    exact ⟨rfl, rfl⟩
  · have HE2 := hidE (show t.tmod q = t % q by have := HE.out; rwa [if_neg c] at this)
    have hd : decide (t.tmod q < 0) = false := decide_eq_false c
    rw [← HE2.out] at HC
    clear HE HE2
    have wr := WR.out
    go_enter Try.func29, Try.ntmps29
    go_wp2_with fail
    ((with_reducible refine (HC.out).mono ?_); rintro e w1 ⟨rfl, rfl⟩)
    go_wp2
    go_ret
    exact ⟨rfl, rfl⟩
/-- What a function value makes of t % q is handed back. -/
theorem rounded_up (t q r : Int) (caps : Array Value) (w : World) (hq : 1 ≤ q ∧ q ≤ 4096) (_ht : -9223372036854775808 ≤ t ∧ t ≤ 9223372036854775807)
    (hC : Calls Try.prog 31 (#[.int .i64 (t % q)] ++ caps) w fun e w' => e = .returned (.int .i64 r) ∧ w' = w) :
    Calls Try.prog 29 #[.int .i64 t, .int .i64 q, .func (.func 31) #[] caps] w fun e w' => e = .returned (.int .i64 r) ∧ w' = w := by
  have HC := hidE hC
  have HE := hidE (left_emod (t := t) (q := q) (by omega))
  have h1 := Int.emod_nonneg t (show q ≠ 0 by omega)
  have h2 := Int.emod_lt_of_pos t (show 0 < q by omega)
  have hr : -4096 ≤ t.tmod q ∧ t.tmod q < 4096 := by
    have := HE.out
    split at this <;> omega
  have hq0 : q ≠ 0 := by omega
  have hq1 : (q == 0) = false := beq_eq_false_iff_ne.2 hq0
  have WR := hidE (show IntKind.i64.wrap (t.tmod q) = t.tmod q from IntWalk.i64_in _ (by omega))
  clear h1 h2 hC
  by_cases c : t.tmod q < 0
  · have HE2 := hidE (show t.tmod q + q = t % q by have := HE.out; rwa [if_pos c] at this)
    have hd : decide (t.tmod q < 0) = true := decide_eq_true c
    rw [← HE2.out] at HC
    clear HE HE2
    have wr := WR.out
    go_enter Try.func29, Try.ntmps29
    go_wp2_with fail
    ((with_reducible refine (HC.out).mono ?_); rintro e w1 ⟨rfl, rfl⟩)
    go_wp2
    go_ret
    exact ⟨rfl, rfl⟩
  · have HE2 := hidE (show t.tmod q = t % q by have := HE.out; rwa [if_neg c] at this)
    have hd : decide (t.tmod q < 0) = false := decide_eq_false c
    rw [← HE2.out] at HC
    clear HE HE2
    have wr := WR.out
    go_enter Try.func29, Try.ntmps29
    go_wp2_with fail
    ((with_reducible refine (HC.out).mono ?_); rintro e w1 ⟨rfl, rfl⟩)
    go_wp2
    go_ret
    exact ⟨rfl, rfl⟩
theorem down_c (t q : Int) (w : World) (hq : 1 ≤ q ∧ q ≤ 4096) (ht : -1152921504606846976 ≤ t ∧ t ≤ 1152921504606846976) :
    Calls Try.prog 13 #[.int .i64 t, .int .i64 q] w fun e w' => e = .returned (.int .i64 (downI t q)) ∧ Below w.heap.size w w' := by
  have h1 := Int.emod_nonneg t (show q ≠ 0 by omega)
  have h2 := Int.emod_lt_of_pos t (show 0 < q by omega)
  have HC := hidE (rounded_dn t q (downI t q) #[.pointer (some ⟨w.heap.size, 0, none⟩)] (w.alloc (.cells #[.int .i64 t] 2)) hq (by omega) (dncl_c t (t % q) w.heap.size _ (Blk.made _ _ _) (by omega)))
  clear h1 h2
  generalize downI t q = d at *
  go_enter Try.func13, Try.ntmps13
  go_wp2_with fail
  ((with_reducible refine (HC.out).mono ?_); rintro e w1 ⟨rfl, rfl⟩)
  go_wp2
  go_ret
  exact ⟨rfl, by (repeat (first | exact Below.refl _ _ | assumption | refine balloc ?_ _ | refine below_drewN ?_ _ | refine bstep (by assumption) ?_ | refine bstep (Past.prop _) ?_ | refine Below.setCell ?_ (by first | exact Nat.le_refl _ | (simp; done) | (simp; omega)) _))⟩
theorem up_c (t q : Int) (w : World) (hq : 1 ≤ q ∧ q ≤ 4096) (ht : -1152921504606846976 ≤ t ∧ t ≤ 1152921504606846976) :
    Calls Try.prog 17 #[.int .i64 t, .int .i64 q] w fun e w' => e = .returned (.int .i64 (upI t q)) ∧ Below w.heap.size w w' := by
  have h1 := Int.emod_nonneg t (show q ≠ 0 by omega)
  have h2 := Int.emod_lt_of_pos t (show 0 < q by omega)
  have hc := upcl_c t q (t % q) w.heap.size (w.heap.size + 1) ((w.alloc (.cells #[.int .i64 t] 2)).alloc (.cells #[.int .i64 q] 2)) ((Blk.made _ _ _).alloc _) (Blk.made_at _ _ _ _ (by simp)) ht hq ⟨h1, h2⟩
  rw [show (if t % q = 0 then t else t - t % q + q) = upI t q from rfl] at hc
  have HC := hidE (rounded_up t q (upI t q) #[.pointer (some ⟨w.heap.size, 0, none⟩), .pointer (some ⟨w.heap.size + 1, 0, none⟩)] _ hq (by omega) hc)
  clear h1 h2 hc
  generalize upI t q = d at *
  go_enter Try.func17, Try.ntmps17
  go_wp2_with fail
  ((with_reducible refine (HC.out).mono ?_); rintro e w1 ⟨rfl, rfl⟩)
  go_wp2
  go_ret
  exact ⟨rfl, by (repeat (first | exact Below.refl _ _ | assumption | refine balloc ?_ _ | refine below_drewN ?_ _ | refine bstep (by assumption) ?_ | refine bstep (Past.prop _) ?_ | refine Below.setCell ?_ (by first | exact Nat.le_refl _ | (simp; done) | (simp; omega)) _))⟩
theorem chk_down (t q : Int) (w : World) : Calls Try.prog 12 #[.int .i64 t, .int .i64 q, .func (.func 13) #[] #[]] w fun e w' => e = .returned (I2 (downS t q)) ∧ Below w.heap.size w w' := by
  have HQ := hidE (isq_c q)
  have HI := hidE (fun (x : Int) w => within_c x 1125899906842624 w (by omega))
  have hok : ∀ x, inB x 1125899906842624 = okT x := fun x => rfl
  cases h1 : qArg q
  · rw [h1] at HQ
    rw [downS_bad (by rw [qBad_q h1]; decide), qBad_q h1]
    clear h1
    go_enter Try.func12, Try.ntmps12
    go_wp2_with fail
    ((with_reducible refine (HQ.out _).mono ?_); rintro e w1 ⟨rfl, rfl⟩)
    go_wp2
    go_ret2
    exact ⟨rfl, Below.refl _ _⟩
  rw [h1] at HQ
  cases h2 : okT t
  · have HT := hidE (HI.out t)
    rw [hok, h2] at HT
    rw [downS_bad (by rw [qBad_t h1 h2]; decide), qBad_t h1 h2]
    clear h1 h2
    go_enter Try.func12, Try.ntmps12
    go_wp2_with fail
    ((with_reducible refine (HQ.out _).mono ?_); rintro e w1 ⟨rfl, rfl⟩)
    go_wp2_with fail
    ((with_reducible refine (HT.out _).mono ?_); rintro e w1 ⟨rfl, rfl⟩)
    go_wp2
    go_ret2
    exact ⟨rfl, Below.refl _ _⟩
  have HT := hidE (HI.out t)
  rw [hok, h2] at HT
  rw [downS_ok (qBad_ok h1 h2)]
  have HD := hidE (fun w => down_c t q w (qArg_iff.1 h1) (by have := okT_iff.1 h2; omega))
  have HT2 := hidE (HI.out (downI t q))
  rw [hok] at HT2
  clear h1 h2 hok HI
  generalize downI t q = d at *
  cases h3 : okT d
  · rw [h3] at HT2
    rw [qTold_no h3]
    clear h3
    go_enter Try.func12, Try.ntmps12
    go_wp2_with fail
    ((with_reducible refine (HQ.out _).mono ?_); rintro e w1 ⟨rfl, rfl⟩)
    go_wp2_with fail
    ((with_reducible refine (HT.out _).mono ?_); rintro e w1 ⟨rfl, rfl⟩)
    go_wp2_with fail
    ((with_reducible refine (HD.out _).mono ?_); rintro e w1 ⟨rfl, hb1⟩)
    have HB1 := hidE hb1; clear hb1
    go_wp2_with fail
    ((with_reducible refine (HT2.out _).mono ?_); rintro e w2 ⟨rfl, rfl⟩)
    go_wp2
    go_ret2
    exact ⟨rfl, HB1.out⟩
  · rw [h3] at HT2
    rw [qTold_ok h3]
    clear h3
    go_enter Try.func12, Try.ntmps12
    go_wp2_with fail
    ((with_reducible refine (HQ.out _).mono ?_); rintro e w1 ⟨rfl, rfl⟩)
    go_wp2_with fail
    ((with_reducible refine (HT.out _).mono ?_); rintro e w1 ⟨rfl, rfl⟩)
    go_wp2_with fail
    ((with_reducible refine (HD.out _).mono ?_); rintro e w1 ⟨rfl, hb1⟩)
    have HB1 := hidE hb1; clear hb1
    go_wp2_with fail
    ((with_reducible refine (HT2.out _).mono ?_); rintro e w2 ⟨rfl, rfl⟩)
    go_wp2
    go_ret2
    exact ⟨rfl, HB1.out⟩
theorem qdown_c (t q : Int) (w : World) : Calls Try.prog 5 #[.int .i64 t, .int .i64 q] w fun e w' => e = .returned (I2 (downS t q)) ∧ Below w.heap.size w w' := by
  have HC := hidE (chk_down t q)
  generalize downS t q = d at *
  obtain ⟨d1, d2⟩ := d
  go_enter Try.func5, Try.ntmps5
  go_wp2_with fail
  ((with_reducible refine (HC.out _).mono ?_); rintro e w1 ⟨rfl, hb1⟩)
  go_wp2
  go_ret2
  exact ⟨rfl, hb1⟩
theorem chk_up (t q : Int) (w : World) : Calls Try.prog 12 #[.int .i64 t, .int .i64 q, .func (.func 17) #[] #[]] w fun e w' => e = .returned (I2 (upS t q)) ∧ Below w.heap.size w w' := by
  have HQ := hidE (isq_c q)
  have HI := hidE (fun (x : Int) w => within_c x 1125899906842624 w (by omega))
  have hok : ∀ x, inB x 1125899906842624 = okT x := fun x => rfl
  cases h1 : qArg q
  · rw [h1] at HQ
    rw [upS_bad (by rw [qBad_q h1]; decide), qBad_q h1]
    clear h1
    go_enter Try.func12, Try.ntmps12
    go_wp2_with fail
    ((with_reducible refine (HQ.out _).mono ?_); rintro e w1 ⟨rfl, rfl⟩)
    go_wp2
    go_ret2
    exact ⟨rfl, Below.refl _ _⟩
  rw [h1] at HQ
  cases h2 : okT t
  · have HT := hidE (HI.out t)
    rw [hok, h2] at HT
    rw [upS_bad (by rw [qBad_t h1 h2]; decide), qBad_t h1 h2]
    clear h1 h2
    go_enter Try.func12, Try.ntmps12
    go_wp2_with fail
    ((with_reducible refine (HQ.out _).mono ?_); rintro e w1 ⟨rfl, rfl⟩)
    go_wp2_with fail
    ((with_reducible refine (HT.out _).mono ?_); rintro e w1 ⟨rfl, rfl⟩)
    go_wp2
    go_ret2
    exact ⟨rfl, Below.refl _ _⟩
  have HT := hidE (HI.out t)
  rw [hok, h2] at HT
  rw [upS_ok (qBad_ok h1 h2)]
  have HD := hidE (fun w => up_c t q w (qArg_iff.1 h1) (by have := okT_iff.1 h2; omega))
  have HT2 := hidE (HI.out (upI t q))
  rw [hok] at HT2
  clear h1 h2 hok HI
  generalize upI t q = d at *
  cases h3 : okT d
  · rw [h3] at HT2
    rw [qTold_no h3]
    clear h3
    go_enter Try.func12, Try.ntmps12
    go_wp2_with fail
    ((with_reducible refine (HQ.out _).mono ?_); rintro e w1 ⟨rfl, rfl⟩)
    go_wp2_with fail
    ((with_reducible refine (HT.out _).mono ?_); rintro e w1 ⟨rfl, rfl⟩)
    go_wp2_with fail
    ((with_reducible refine (HD.out _).mono ?_); rintro e w1 ⟨rfl, hb1⟩)
    have HB1 := hidE hb1; clear hb1
    go_wp2_with fail
    ((with_reducible refine (HT2.out _).mono ?_); rintro e w2 ⟨rfl, rfl⟩)
    go_wp2
    go_ret2
    exact ⟨rfl, HB1.out⟩
  · rw [h3] at HT2
    rw [qTold_ok h3]
    clear h3
    go_enter Try.func12, Try.ntmps12
    go_wp2_with fail
    ((with_reducible refine (HQ.out _).mono ?_); rintro e w1 ⟨rfl, rfl⟩)
    go_wp2_with fail
    ((with_reducible refine (HT.out _).mono ?_); rintro e w1 ⟨rfl, rfl⟩)
    go_wp2_with fail
    ((with_reducible refine (HD.out _).mono ?_); rintro e w1 ⟨rfl, hb1⟩)
    have HB1 := hidE hb1; clear hb1
    go_wp2_with fail
    ((with_reducible refine (HT2.out _).mono ?_); rintro e w2 ⟨rfl, rfl⟩)
    go_wp2
    go_ret2
    exact ⟨rfl, HB1.out⟩
theorem qup_c (t q : Int) (w : World) : Calls Try.prog 7 #[.int .i64 t, .int .i64 q] w fun e w' => e = .returned (I2 (upS t q)) ∧ Below w.heap.size w w' := by
  have HC := hidE (chk_up t q)
  generalize upS t q = d at *
  obtain ⟨d1, d2⟩ := d
  go_enter Try.func7, Try.ntmps7
  go_wp2_with fail
  ((with_reducible refine (HC.out _).mono ?_); rintro e w1 ⟨rfl, hb1⟩)
  go_wp2
  go_ret2
  exact ⟨rfl, hb1⟩
end Go.Proofs.Ytigepmijgoglhaa

namespace Go.Proofs.Ytigepmijgoglhaa
open Go.RowKit

/-- What a body keeps: whatever lies below n₀, and whatever lay at or beyond n₁. -/
structure Outside (n₀ n₁ : Nat) (W W' : World) : Prop where
  below : Below n₀ W W'
  beyond : ∀ k, n₁ ≤ k → k < W.heap.size → W'.heap[k]? = W.heap[k]?
theorem Outside.refl (n₀ n₁ : Nat) (W : World) : Outside n₀ n₁ W W := ⟨Below.refl _ _, fun _ _ _ => rfl⟩
theorem Outside.trans {n₀ n₁ : Nat} {A B C : World} (h : Outside n₀ n₁ A B) (k : Outside n₀ n₁ B C) : Outside n₀ n₁ A C :=
  ⟨h.below.trans k.below, fun i hi hl => (k.beyond i hi (Nat.lt_of_lt_of_le hl h.below.size)).trans (h.beyond i hi hl)⟩
theorem Outside.of_below {n₀ n₁ : Nat} {A B : World} (h : Below A.heap.size A B) (hn : n₀ ≤ A.heap.size) : Outside n₀ n₁ A B := ⟨h.mono hn, fun k _ hl => h.block k hl⟩
theorem Outside.weak {n₀ n₁ n₁' : Nat} {A B : World} (h : Outside n₀ n₁ A B) (hn : n₁ ≤ n₁') : Outside n₀ n₁' A B := ⟨h.below, fun k hk hl => h.beyond k (by omega) hl⟩
/-- A turn of a block of the caller's own. -/
theorem Outside.of_grown {n₀ n₁ p : Nat} {A B : World} (h : A.grownBy B (some p)) (h0 : n₀ ≤ p) (h1 : p < n₁) (h2 : n₀ ≤ A.heap.size) : Outside n₀ n₁ A B :=
  ⟨⟨h.os, h.tape, h.output, h.size, fun k hk => h.block k (by omega) (fun e => by cases e; omega)⟩, fun k hk hl => h.block k hl (fun e => by cases e; omega)⟩

/-- The contract of an iterator value: it hands on the list S, one after the other, unless a round says 'no more'; whatever the caller's invariants are that speak only of what lay ahead of the iterator's call. -/
def SeqT {α : Type} (P : Program) (gf : Nat) (rb lb : Array Value) (encs : α → Array Value) (n₀ : Nat) (S : List α) (w : World) : Prop :=
  ∀ (l : Nat) (J Jx : List α → World → Prop) (W : World), Below w.heap.size w W →
    (∀ s A B, J s A → Below W.heap.size A B → J s B) → (∀ s A B, Jx s A → Below W.heap.size A B → Jx s B) →
    (∀ pre x W1, J pre W1 → pre ++ [x] <+: S → YieldAt Fence.wide 0 P l (encs x) W1 fun e W' =>
      (e = .returned (.bool true) ∧ J (pre ++ [x]) W' ∧ Outside n₀ W.heap.size W1 W') ∨ (e = .returned (.bool false) ∧ Jx (pre ++ [x]) W')) →
    J [] W →
    Calls P gf (rb ++ #[.func (.yield l) #[] #[]] ++ lb) W fun e W' => (∃ v, e = .returned v) ∧ (J S W' ∨ ∃ pre, pre <+: S ∧ Jx pre W')

/-- How the body of a round may be left. -/
def postT {α : Type} (n₀ n₁ : Nat) (I : List α → World → Prop) (Ix : Code → List α → World → Prop) (xs : List α) (W : World) : Exit → Act → World → Prop
  | .normal, _, W' => Outside n₀ n₁ W W' ∧ I xs W'
  | .ret, _, W' => Outside n₀ n₁ W W' ∧ Ix .ret xs W'
  | .exit id, _, W' => Outside n₀ n₁ W W' ∧ Ix (.exit id) xs W'
  | .goto t, _, W' => Outside n₀ n₁ W W' ∧ Ix (.goto t) xs W'
  | .panic _, _, _ => False
  | .outgrown, _, _ => False

theorem below_putObj {B : Nat} (W : World) (l : Nat) (o : Obj) (h : B ≤ l) : Below B W (W.putObj l o) :=
  ⟨rfl, rfl, rfl, by simp, fun k hk => World.putObj_heap_other (by omega)⟩

theorem grown_putObj (W : World) (l : Nat) (o : Obj) : W.grownBy (W.putObj l o) (some l) :=
  ⟨rfl, rfl, rfl, by simp, fun k _ hk => World.putObj_heap_other (fun e => hk (by rw [e]))⟩
/-- The statement. -/
theorem wp_rangeFunc_T {α : Type} {P : Program} {g : Operand} {ps : Array Tmp} {assign body : Code} {Q : Exit → Act → World → Prop} {a : Act} {w : World}
    {gf : Nat} {rb lb : Array Value} (hg : a.eval g = .func (.func gf) rb lb) (eg : ∀ args w, (callFunc gf args).run P w = .ok (.enter gf args) w)
    {encs : α → Array Value} {n₀ : Nat} (hn₀ : n₀ ≤ w.heap.size) {S : List α} (hseq : SeqT P gf rb lb encs n₀ S w) (hps : ∀ x, (encs x).size = ps.size)
    (I : List α → World → Prop) (Ix : Code → List α → World → Prop) (hI : ∀ s A B, I s A → Below w.heap.size A B → I s B) (hIx : ∀ c s A B, Ix c s A → Below w.heap.size A B → Ix c s B) (h0 : I [] w)
    (Ax : α → Act → World → Prop) (hAx : ∀ x a' A l r o, Ax x a' A → A.heap[l]? = some (.loop r) → Ax x a' (A.putObj l o))
    (hassign : ∀ (l : Nat) (pre : List α) (x : α) (W : World) (K : Act → World → Prop), w.heap.size ≤ W.heap.size → I pre W → (∀ a' W', Outside n₀ w.heap.size W W' → I pre W' → Ax x a' W' → K a' W') →
      assign.wpIn (Fence.wide.inRound l) 0 P (Exit.then K (fun _ _ _ => False)) { tmps := (ps.zip (encs x)).foldl (fun t (p, v) => t.setIfInBounds p v) a.tmps, defers := [] } W)
    (hbody : ∀ (l : Nat) (pre : List α) (x : α) (a' : Act) (W : World), w.heap.size ≤ W.heap.size → I pre W → Ax x a' W → pre ++ [x] <+: S → body.wpIn (Fence.wide.inRound l) 0 P (postT n₀ w.heap.size I Ix (pre ++ [x]) W) a' W)
    (hdone : ∀ (D : Nat) (W : World), w.heap.size ≤ D → I S W → W.heap[D]? = some (.deferred (some [])) → Q .normal { a with defers := { target := .collected D, args := #[] } :: a.defers } W)
    (hstop : ∀ (D : Nat) (c : Code) (pre : List α) (W : World), w.heap.size ≤ D → pre <+: S → Ix c pre W → W.heap[D]? = some (.deferred (some [])) → c.wp P Q { a with defers := { target := .collected D, args := #[] } :: a.defers } W) :
    (Code.rangeFunc g ps assign body).wp P Q a w := by
  refine (wpIn_wide (n := 0)).1 (wpIn_rangeFunc ?_)
  intro fn hfn
  obtain ⟨rec, hrec⟩ : ∃ rec : LoopState → Option Code → Loop, rec = fun st pe => { state := st, pending := pe, fn, tmps := a.tmps, params := ps, assign, body, defers := w.heap.size } := ⟨_, rfl⟩
  obtain ⟨W1, hW1⟩ : ∃ W1, (w.alloc (.deferred (some []))).alloc (.loop (rec .ready none)) = W1 := ⟨_, rfl⟩
  have hL1 : W1.heap[w.heap.size + 1]? = some (.loop (rec .ready none)) := by
    rw [← hW1]; have := World.alloc_heap_new (w.alloc (.deferred (some []))) (.loop (rec .ready none)); rwa [World.size_alloc] at this
  have hK1 : W1.heap[w.heap.size]? = some (.deferred (some [])) := by
    rw [← hW1]; exact (Below.heap_alloc _ _ _ (by simp)).trans (World.alloc_heap_new w _)
  have hb1 : Below w.heap.size w W1 := by
    rw [← hW1]; exact ((Below.refl _ w).alloc (Nat.le_refl _) _).alloc (by simp) _
  have hs1 : W1.heap.size = w.heap.size + 2 := by rw [← hW1]; simp
  have hI1 : I [] W1 := hI _ _ _ h0 hb1
  refine ⟨w.heap.size + 1, [{ target := .collected w.heap.size, args := #[] }], W1, { target := .fn (.func gf) lb, args := rb ++ #[.func (.yield (w.heap.size + 1)) #[] #[]] }, W1, gf,
    rb ++ #[.func (.yield (w.heap.size + 1)) #[] #[]] ++ lb, W1, ?_, ?_, ?_, ?_, fun h => by simp [Fence.wide] at h, ?_⟩
  · rw [← hW1, hrec]; exact run_enterLoop_outer _ _ _ _ _
  · simp only [resolve, hg]
    simp [go_sem, Deferred.ofValue]
  · intro f' hf'; trivial
  · simp [invoke, go_sem, eg]
  · refine callsIn_wide.2 ?_
    refine (hseq (w.heap.size + 1)
      (fun pre W => I pre W ∧ W.heap[w.heap.size + 1]? = some (.loop (rec .ready none)) ∧ W.heap[w.heap.size]? = some (.deferred (some [])) ∧ w.heap.size ≤ W.heap.size)
      (fun pre W => ∃ c, Ix c pre W ∧ W.heap[w.heap.size + 1]? = some (.loop (rec .done (some c))) ∧ W.heap[w.heap.size]? = some (.deferred (some [])))
      W1 hb1
      (fun s A B hs hg' => ⟨hI s A B hs.1 (hg'.mono (by omega)), (hg'.block _ (by omega)).trans hs.2.1, (hg'.block _ (by omega)).trans hs.2.2.1, Nat.le_trans hs.2.2.2 hg'.size⟩)
      (fun s A B hs hg' => by
        obtain ⟨c, hc, hl, hk⟩ := hs
        exact ⟨c, hIx c s A B hc (hg'.mono (by omega)), (hg'.block _ (by omega)).trans hl, (hg'.block _ (by omega)).trans hk⟩)
      ?_ ⟨hI1, hL1, hK1, hb1.size⟩).mono ?_
    · -- one round
      rintro pre x W ⟨hi, hl, hk, hsz⟩ hpre
      have hlt : w.heap.size + 1 < W.heap.size := (Array.getElem?_eq_some_iff.1 hl).1
      have hy := run_yield (P := P) (args := encs x) hl (by rw [hrec]; exact hps x)
      rw [hrec] at hy
      refine ⟨fn, _, assign, body, hy, roundIn_of_wpIn trivial (hassign _ pre x W _ hsz hi ?_)⟩
      clear hy
      intro a' Wa hoa hia hax
      have hla := (hoa.beyond _ (by omega) hlt).trans hl
      have hka := (hoa.beyond _ (Nat.le_refl _) (by omega)).trans hk
      have hlta : w.heap.size + 1 < Wa.heap.size := Nat.lt_of_lt_of_le hlt hoa.below.size
      refine ⟨_, run_beginRound hla (by rw [hrec]), ?_⟩
      have hl2 : (Wa.putObj (w.heap.size + 1) (.loop { rec .ready none with state := .busy })).heap[w.heap.size + 1]? = some (.loop { rec .ready none with state := .busy }) := World.putObj_heap_same hlta
      have hk2 : (Wa.putObj (w.heap.size + 1) (.loop { rec .ready none with state := .busy })).heap[w.heap.size]? = some (.deferred (some [])) := (World.putObj_heap_other (by omega)).trans hka
      have hb2 : Below w.heap.size Wa (Wa.putObj (w.heap.size + 1) (.loop { rec .ready none with state := .busy })) := below_putObj _ _ _ (by omega)
      refine wpIn_mono (hbody _ pre x a' _ (by simp; omega) (hI _ _ _ hia hb2) (hAx _ _ _ _ _ _ hax hla) hpre) ?_
      have fin : ∀ (jump : Option Code) (W3 : World), Outside n₀ w.heap.size (Wa.putObj (w.heap.size + 1) (.loop { rec .ready none with state := .busy })) W3 →
          (Instr.endRound (w.heap.size + 1) jump).run P W3 = .ok (.bool jump.isNone) (W3.putObj (w.heap.size + 1) (.loop (rec (if jump.isNone then .ready else .done) jump))) ∧
          (W3.putObj (w.heap.size + 1) (.loop (rec (if jump.isNone then .ready else .done) jump))).heap[w.heap.size + 1]? = some (.loop (rec (if jump.isNone then .ready else .done) jump)) ∧
          (W3.putObj (w.heap.size + 1) (.loop (rec (if jump.isNone then .ready else .done) jump))).heap[w.heap.size]? = some (.deferred (some [])) ∧
          Below w.heap.size W3 (W3.putObj (w.heap.size + 1) (.loop (rec (if jump.isNone then .ready else .done) jump))) ∧
          Outside n₀ W1.heap.size W (W3.putObj (w.heap.size + 1) (.loop (rec (if jump.isNone then .ready else .done) jump))) := fun jump W3 ho3 => by
        have hl3 := (ho3.beyond (w.heap.size + 1) (by omega) (by simp; omega)).trans hl2
        have hk3 := (ho3.beyond w.heap.size (Nat.le_refl _) (by simp; omega)).trans hk2
        have hr := run_endRound (P := P) jump hl3
        have hsz3 : w.heap.size + 1 < W3.heap.size := (Array.getElem?_eq_some_iff.1 hl3).1
        refine ⟨?_, World.putObj_heap_same hsz3, (World.putObj_heap_other (by omega)).trans hk3, below_putObj _ _ _ (by omega), ?_⟩
        · rw [hrec] at hr ⊢; exact hr
        · have e1 : Outside n₀ W1.heap.size Wa (Wa.putObj (w.heap.size + 1) (.loop { rec .ready none with state := .busy })) := Outside.of_grown (grown_putObj _ _ _) (by omega) (by omega) (by omega)
          have e2 : Outside n₀ W1.heap.size W3 (W3.putObj (w.heap.size + 1) (.loop (rec (if jump.isNone then .ready else .done) jump))) := Outside.of_grown (grown_putObj _ _ _) (by omega) (by omega) (by omega)
          exact (((hoa.weak (by omega)).trans e1).trans (ho3.weak (by omega))).trans e2
      rintro e a3 W3 hp
      cases e with
      | normal =>
        obtain ⟨hk3, hi3⟩ := hp
        obtain ⟨hr, hl4, hk4, hb4, ho4⟩ := fin none W3 hk3
        exact ⟨_, _, hr, .inl ⟨rfl, ⟨hI _ _ _ hi3 hb4, hl4, hk4, Nat.le_trans (by have := hk3.below.size; simp at this; omega) hb4.size⟩, ho4⟩⟩
      | ret =>
        obtain ⟨hk3, hi3⟩ := hp
        obtain ⟨hr, hl4, hk4, hb4, ho4⟩ := fin (some .ret) W3 hk3
        exact ⟨_, _, hr, .inr ⟨rfl, .ret, hIx _ _ _ _ hi3 hb4, hl4, hk4⟩⟩
      | exit id =>
        obtain ⟨hk3, hi3⟩ := hp
        obtain ⟨hr, hl4, hk4, hb4, ho4⟩ := fin (some (.exit id)) W3 hk3
        exact ⟨_, _, hr, .inr ⟨rfl, .exit id, hIx _ _ _ _ hi3 hb4, hl4, hk4⟩⟩
      | goto t =>
        obtain ⟨hk3, hi3⟩ := hp
        obtain ⟨hr, hl4, hk4, hb4, ho4⟩ := fin (some (.goto t)) W3 hk3
        exact ⟨_, _, hr, .inr ⟨rfl, .goto t, hIx _ _ _ _ hi3 hb4, hl4, hk4⟩⟩
      | panic ch => exact hp.elim
      | outgrown => exact hp.elim
    · -- behind the iterator
      rintro e W2 ⟨⟨v, rfl⟩, (⟨hi, hl, hk, _⟩ | ⟨pre, hSp, c, hi, hl, hk⟩)⟩
      · exact ⟨none, _, by have := run_endLoop (P := P) hl (by rw [hrec]; simp); rw [hrec] at this; exact this, hdone _ _ (Nat.le_refl _) (hI _ _ _ hi (below_putObj _ _ _ (by omega))) ((World.putObj_heap_other (by omega)).trans hk)⟩
      · exact ⟨some c, _, by have := run_endLoop (P := P) hl (by rw [hrec]; simp); rw [hrec] at this; exact this, (wpIn_wide (n := 0)).2 (hstop _ c pre _ (Nat.le_refl _) hSp (hIx _ _ _ _ hi (below_putObj _ _ _ (by omega))) ((World.putObj_heap_other (by omega)).trans hk))⟩
end Go.Proofs.Ytigepmijgoglhaa

namespace Go.Proofs.Ytigepmijgoglhaa
open Go.RowKit

/-- The contract of an iterator value, as SeqT, with the one block that the body made in an earlier round and may write again (g: from where on the body's blocks lie, and that block). -/
def SeqO {α : Type} (P : Program) (gf : Nat) (rb lb : Array Value) (encs : α → Array Value) (n₀ : Nat) (S : List α) (w : World) : Prop :=
  ∀ (l : Nat) (J : List α → Option (Nat × Nat) → World → Prop) (Jx : List α → World → Prop) (W : World), Below w.heap.size w W →
    (∀ s g A B, J s g A → Below W.heap.size A B → (∀ b k, g = some (b, k) → B.heap[k]? = A.heap[k]?) → J s g B) → (∀ s g A, J s g A → ∀ b k, g = some (b, k) → b ≤ k ∧ k < A.heap.size) → (∀ s A B, Jx s A → Below W.heap.size A B → Jx s B) →
    (∀ pre x g W1, J pre g W1 → W.heap.size ≤ W1.heap.size → pre ++ [x] <+: S → YieldAt Fence.wide 0 P l (encs x) W1 fun e W' =>
      (e = .returned (.bool true) ∧ ∃ g', J (pre ++ [x]) g' W' ∧ Below n₀ W1 W' ∧ (∀ k, W.heap.size ≤ k → k < W1.heap.size → (∀ b, g ≠ some (b, k)) → W'.heap[k]? = W1.heap[k]?) ∧ (∀ b k, g' = some (b, k) → W1.heap.size ≤ b ∨ ∃ j, g = some (b, j))) ∨ (e = .returned (.bool false) ∧ Jx (pre ++ [x]) W')) →
    J [] none W →
    Calls P gf (rb ++ #[.func (.yield l) #[] #[]] ++ lb) W fun e W' => (∃ v, e = .returned v) ∧ ((∃ g, J S g W') ∨ ∃ pre, pre <+: S ∧ Jx pre W')

theorem SeqO.toT {α : Type} {P : Program} {gf : Nat} {rb lb : Array Value} {encs : α → Array Value} {n₀ : Nat} {S : List α} {w : World} (h : SeqO P gf rb lb encs n₀ S w) : SeqT P gf rb lb encs n₀ S w := by
  intro l J Jx W hW hJ hJx hY h0
  refine (h l (fun s g A => g = none ∧ J s A) Jx W hW (fun s g A B q hb _ => ⟨q.1, hJ _ _ _ q.2 hb⟩) (fun s g A q b k hk => by rw [q.1] at hk; cases hk) hJx ?_ ⟨rfl, h0⟩).mono ?_
  · rintro pre x g W1 ⟨rfl, q⟩ hz hpre
    obtain ⟨fn, tmps, assign, body, hy, hR⟩ := hY pre x W1 q hpre
    refine ⟨fn, tmps, assign, body, hy, hR.mono ?_⟩
    rintro e W' (⟨rfl, k1, k2⟩ | ⟨rfl, k1⟩)
    · exact .inl ⟨rfl, none, ⟨rfl, k1⟩, k2.below, fun k hk hl _ => k2.beyond k hk hl, fun b k hk => by cases hk⟩
    · exact .inr ⟨rfl, k1⟩
  · rintro e W' ⟨hv, ⟨g, _, q⟩ | q⟩
    · exact ⟨hv, .inl q⟩
    · exact ⟨hv, .inr q⟩

/-- How the body of a round may be left: by its end alone. -/
def postO {α : Type} (n₀ n₁ : Nat) (I : List α → Option (Nat × Nat) → World → Prop) (xs : List α) (g : Option (Nat × Nat)) (W : World) : Exit → Act → World → Prop
  | .normal, _, W' => ∃ g', I xs g' W' ∧ Below n₀ W W' ∧ (∀ k, n₁ ≤ k → k < W.heap.size → (∀ b, g ≠ some (b, k)) → W'.heap[k]? = W.heap[k]?) ∧ (∀ b k, g' = some (b, k) → W.heap.size ≤ b ∨ ∃ j, g = some (b, j))
  | _, _, _ => False

/-- The statement. -/
theorem wp_rangeFunc_O {α : Type} {P : Program} {gop : Operand} {ps : Array Tmp} {assign body : Code} {Q : Exit → Act → World → Prop} {a : Act} {w : World}
    {gf : Nat} {rb lb : Array Value} (hg : a.eval gop = .func (.func gf) rb lb) (eg : ∀ args w, (callFunc gf args).run P w = .ok (.enter gf args) w)
    {encs : α → Array Value} {n₀ : Nat} (hn₀ : n₀ ≤ w.heap.size) {S : List α} (hseq : SeqO P gf rb lb encs n₀ S w) (hps : ∀ x, (encs x).size = ps.size)
    (I : List α → Option (Nat × Nat) → World → Prop) (hI : ∀ s g A B, I s g A → Below w.heap.size A B → (∀ b k, g = some (b, k) → B.heap[k]? = A.heap[k]?) → I s g B) (hIg : ∀ s g A, I s g A → ∀ b k, g = some (b, k) → b ≤ k ∧ k < A.heap.size) (h0 : I [] none w)
    (Ax : α → Act → World → Prop) (hAx : ∀ x a' A l r o, Ax x a' A → A.heap[l]? = some (.loop r) → Ax x a' (A.putObj l o))
    (hassign : ∀ (l : Nat) (pre : List α) (x : α) (g : Option (Nat × Nat)) (W : World) (K : Act → World → Prop), w.heap.size ≤ W.heap.size → I pre g W → (∀ a' W', Below W.heap.size W W' → I pre g W' → Ax x a' W' → K a' W') →
      assign.wpIn (Fence.wide.inRound l) 0 P (Exit.then K (fun _ _ _ => False)) { tmps := (ps.zip (encs x)).foldl (fun t (p, v) => t.setIfInBounds p v) a.tmps, defers := [] } W)
    (hbody : ∀ (l : Nat) (pre : List α) (x : α) (g : Option (Nat × Nat)) (a' : Act) (W : World), w.heap.size ≤ W.heap.size → I pre g W → Ax x a' W → pre ++ [x] <+: S → body.wpIn (Fence.wide.inRound l) 0 P (postO n₀ w.heap.size I (pre ++ [x]) g W) a' W)
    (hdone : ∀ (D : Nat) (g : Option (Nat × Nat)) (W : World), D = w.heap.size → I S g W → (∀ b k, g = some (b, k) → w.heap.size + 2 ≤ b) → W.heap[D]? = some (.deferred (some [])) → Q .normal { a with defers := { target := .collected D, args := #[] } :: a.defers } W) :
    (Code.rangeFunc gop ps assign body).wp P Q a w := by
  refine (wpIn_wide (n := 0)).1 (wpIn_rangeFunc ?_)
  intro fn hfn
  obtain ⟨rec, hrec⟩ : ∃ rec : LoopState → Option Code → Loop, rec = fun st pe => { state := st, pending := pe, fn, tmps := a.tmps, params := ps, assign, body, defers := w.heap.size } := ⟨_, rfl⟩
  obtain ⟨W1, hW1⟩ : ∃ W1, (w.alloc (.deferred (some []))).alloc (.loop (rec .ready none)) = W1 := ⟨_, rfl⟩
  have hL1 : W1.heap[w.heap.size + 1]? = some (.loop (rec .ready none)) := by
    rw [← hW1]; have := World.alloc_heap_new (w.alloc (.deferred (some []))) (.loop (rec .ready none)); rwa [World.size_alloc] at this
  have hK1 : W1.heap[w.heap.size]? = some (.deferred (some [])) := by
    rw [← hW1]; exact (Below.heap_alloc _ _ _ (by simp)).trans (World.alloc_heap_new w _)
  have hb1 : Below w.heap.size w W1 := by
    rw [← hW1]; exact ((Below.refl _ w).alloc (Nat.le_refl _) _).alloc (by simp) _
  have hs1 : W1.heap.size = w.heap.size + 2 := by rw [← hW1]; simp
  have hI1 : I [] none W1 := hI _ _ _ _ h0 hb1 (fun b k hk => by cases hk)
  refine ⟨w.heap.size + 1, [{ target := .collected w.heap.size, args := #[] }], W1, { target := .fn (.func gf) lb, args := rb ++ #[.func (.yield (w.heap.size + 1)) #[] #[]] }, W1, gf,
    rb ++ #[.func (.yield (w.heap.size + 1)) #[] #[]] ++ lb, W1, ?_, ?_, ?_, ?_, fun h => by simp [Fence.wide] at h, ?_⟩
  · rw [← hW1, hrec]; exact run_enterLoop_outer _ _ _ _ _
  · simp only [resolve, hg]
    simp [go_sem, Deferred.ofValue]
  · intro f' hf'; trivial
  · simp [invoke, go_sem, eg]
  · refine callsIn_wide.2 ?_
    refine (hseq (w.heap.size + 1)
      (fun pre g W => I pre g W ∧ W.heap[w.heap.size + 1]? = some (.loop (rec .ready none)) ∧ W.heap[w.heap.size]? = some (.deferred (some [])) ∧ w.heap.size ≤ W.heap.size ∧ ∀ b k, g = some (b, k) → w.heap.size + 2 ≤ b)
      (fun _ _ => False)
      W1 hb1
      (fun s g A B hs hb hk => ⟨hI s g A B hs.1 (hb.mono (by omega)) hk, (hb.block _ (by omega)).trans hs.2.1, (hb.block _ (by omega)).trans hs.2.2.1, Nat.le_trans hs.2.2.2.1 hb.size, hs.2.2.2.2⟩)
      (fun s g A hs b k hk => hIg s g A hs.1 b k hk)
      (fun s A B hs _ => hs)
      ?_ ⟨hI1, hL1, hK1, hb1.size, fun b k hk => by cases hk⟩).mono ?_
    · -- one round
      rintro pre x g W ⟨hi, hl, hk, hsz, hg0⟩ hW1z hpre
      have hlt : w.heap.size + 1 < W.heap.size := (Array.getElem?_eq_some_iff.1 hl).1
      have hy := run_yield (P := P) (args := encs x) hl (by rw [hrec]; exact hps x)
      rw [hrec] at hy
      refine ⟨fn, _, assign, body, hy, roundIn_of_wpIn trivial (hassign _ pre x g W _ hsz hi ?_)⟩
      clear hy
      intro a' Wa hoa hia hax
      have hla := (hoa.block (w.heap.size + 1) hlt).trans hl
      have hka := (hoa.block w.heap.size (by omega)).trans hk
      have hlta : w.heap.size + 1 < Wa.heap.size := Nat.lt_of_lt_of_le hlt hoa.size
      refine ⟨_, run_beginRound hla (by rw [hrec]), ?_⟩
      have hl2 : (Wa.putObj (w.heap.size + 1) (.loop { rec .ready none with state := .busy })).heap[w.heap.size + 1]? = some (.loop { rec .ready none with state := .busy }) := World.putObj_heap_same hlta
      have hk2 : (Wa.putObj (w.heap.size + 1) (.loop { rec .ready none with state := .busy })).heap[w.heap.size]? = some (.deferred (some [])) := (World.putObj_heap_other (by omega)).trans hka
      have hb2 : Below w.heap.size Wa (Wa.putObj (w.heap.size + 1) (.loop { rec .ready none with state := .busy })) := below_putObj _ _ _ (by omega)
      refine wpIn_mono (hbody _ pre x g a' _ (by have := hoa.size; simp; omega) (hI _ _ _ _ hia hb2 (fun b k hk => World.putObj_heap_other (fun e => by have := hg0 b k hk; have := (hIg _ _ _ hi b k hk).1; omega))) (hAx _ _ _ _ _ _ hax hla) hpre) ?_
      rintro e a3 W3 hp
      cases e with
      | normal =>
        obtain ⟨g', hi3, hb3, hk3, hg3⟩ := hp
        have hz3 := hb3.size
        have hl3 := (hk3 (w.heap.size + 1) (by omega) (by simp; omega) (fun b e => by have := hg0 b _ e; have := (hIg _ _ _ hi b _ e).1; omega)).trans hl2
        have hd3 := (hk3 w.heap.size (Nat.le_refl _) (by simp; omega) (fun b e => by have := hg0 b _ e; have := (hIg _ _ _ hi b _ e).1; omega)).trans hk2
        have hr := run_endRound (P := P) (none : Option Code) hl3
        have hsz3 : w.heap.size + 1 < W3.heap.size := (Array.getElem?_eq_some_iff.1 hl3).1
        have hzz : W.heap.size ≤ W3.heap.size := by have := hoa.size; simp at hz3; omega
        have hg0' : ∀ b k, g' = some (b, k) → w.heap.size + 2 ≤ b := fun b k e => by
          rcases hg3 b k e with h | ⟨j, h⟩
          · simp at h
            have := hoa.size
            omega
          · exact hg0 b j h
        have hb4 : Below w.heap.size W3 (W3.putObj (w.heap.size + 1) (.loop (rec .ready none))) := below_putObj _ _ _ (by omega)
        refine ⟨.bool true, W3.putObj (w.heap.size + 1) (.loop (rec .ready none)), ?_, .inl ⟨rfl, g', ⟨hI _ _ _ _ hi3 hb4 (fun b k hk => World.putObj_heap_other (fun e => by have := hg0' b k hk; have := (hIg _ _ _ hi3 b k hk).1; omega)), World.putObj_heap_same hsz3, (World.putObj_heap_other (by omega)).trans hd3, by simp; omega, hg0'⟩, ?_, ?_, ?_⟩⟩
        · rw [hrec] at hr ⊢; exact hr
        · exact ((hoa.mono (by omega)).trans (hb2.mono hn₀)).trans (hb3.trans (hb4.mono hn₀))
        · intro k h1 h2 h3
          have h4 : k ≠ w.heap.size + 1 := by omega
          exact (World.putObj_heap_other h4).trans ((hk3 k (by omega) (by have := hoa.size; simp; omega) h3).trans ((World.putObj_heap_other h4).trans (hoa.block k h2)))
        · intro b k e
          rcases hg3 b k e with h | h
          · exact .inl (by have := hoa.size; simp at h; omega)
          · exact .inr h
      | ret => exact hp.elim
      | exit id => exact hp.elim
      | goto t => exact hp.elim
      | panic ch => exact hp.elim
      | outgrown => exact hp.elim
    · -- behind the iterator
      rintro e W2 ⟨⟨v, rfl⟩, (⟨g, hi, hl, hk, hz, hg0⟩ | ⟨pre, _, hf⟩)⟩
      · exact ⟨none, _, by have := run_endLoop (P := P) hl (by rw [hrec]; simp); rw [hrec] at this; exact this, hdone _ g _ rfl (hI _ _ _ _ hi (below_putObj _ _ _ (by omega)) (fun b k hk => World.putObj_heap_other (fun e => by have := hg0 b k hk; have := (hIg _ _ _ hi b k hk).1; omega))) hg0 ((World.putObj_heap_other (by omega)).trans hk)⟩
      · exact hf.elim
end Go.Proofs.Ytigepmijgoglhaa

namespace Go.Proofs.Ytigepmijgoglhaa
open Go.ChangeShapes Go.WideShapes Go.ChangeAt Go.RowKit
attribute [local irreducible] Go.Calls

/-- What yield is handed. -/
def encS (s : St) : Array Value := #[.agg #[.int .i64 s.1, .int .i64 s.2.1, .int .i64 s.2.2.1, .int .i64 s.2.2.2]]
/-- A window. -/
abbrev WN (a : Option Addr) (n cap : Nat) (x y : Int) : Value := .agg #[.slice a n cap, .int .i64 x, .int .i64 y]

/-- Where the walk stands between two rounds. -/
def StrAt (F : List Sg) (x y : Int) (w0 W : World) (J : List St → Option (Nat × Nat) → World → Prop) (gh : Nat) (v13 : Value) (wr : World) : Prop :=
  ∃ (k : Nat) (p q : Int) (v : Int × Int) (pre : List St) (g : Option (Nat × Nat)), (∀ b k, g = some (b, k) → W.heap.size + 2 ≤ b) ∧ k ≤ F.length ∧ F.length - k ≤ gh ∧ v13 = .int .i64 k ∧ pre ++ strG y (F.drop k) p v = strL F x y ∧ J pre g wr ∧
    Below w0.heap.size w0 wr ∧ W.heap.size + 1 < wr.heap.size ∧ Blk wr (W.heap.size + 1) #[.int .i64 p, .int .i64 q, .int .i64 v.1, .int .i64 v.2] 72

theorem keptS {w : World} {k b i : Nat} (h : k ≠ b) (v : Value) : (w.setCell ⟨b, i, none⟩ v).heap[k]? = w.heap[k]? := Below.heap_setCell _ _ _ _ h
theorem keptA {w : World} {k : Nat} (h : k < w.heap.size) (o : Obj) : (w.alloc o).heap[k]? = w.heap[k]? := Below.heap_alloc _ _ _ h
set_option maxRecDepth 100000 in
set_option maxHeartbeats 2000000 in
theorem strO_c (F : List Sg) (x y : Int) (a : Option Addr) (cap : Nat) (w0 w : World) (hl : F.length ≤ 1000000000) (hA : ArgS w0 a F) (hb : Below w0.heap.size w0 w) :
    SeqO Try.prog 47 #[WN a F.length cap x y] #[] encS w0.heap.size (strL F x y) w := by
  intro l J Jx W hW hJ hJg hJx hY h0
  have H0 := hidE h0; have HJ := hidE hJ; have HJG := hidE hJg; have HJX := hidE hJx; have HY := hidE hY
  have HA := hidE hA
  have hbW : Below w0.heap.size w0 W := hb.trans (hW.mono hb.size)
  have HBW := hidE hbW
  clear hA hJ hJg hJx hY h0 hb hW hbW
  show Calls Try.prog 47 #[WN a F.length cap x y, .func (.yield l) #[] #[]] W _
  go_enter Try.func47, Try.ntmps47
  go_wp2
  go_loopg [13] F.length (fun gh v13 wr => StrAt F x y w0 W J gh v13 wr ∧ Blk wr W.heap.size #[.slice a F.length cap, .int .i64 x, .int .i64 y] 69)
  case atStart =>
    refine ⟨⟨0, x, 0, (0, 0), [], none, fun b k h => (by cases h), Nat.zero_le _, Nat.le_refl _, rfl, rfl, HJ.out _ _ _ _ H0.out ?_ (fun b k h => by cases h), HBW.out.trans (Below.mono ?_ HBW.out.size), ?_, ?_⟩, ?_⟩
    · (repeat (first | exact Below.refl _ _ | assumption | refine balloc ?_ _ | refine below_drewN ?_ _ | refine bstep (by assumption) ?_ | refine bstep (Past.prop _) ?_ | refine Below.setCell ?_ (by first | exact Nat.le_refl _ | (simp; done) | (simp; omega)) _))
    · (repeat (first | exact Below.refl _ _ | assumption | refine balloc ?_ _ | refine below_drewN ?_ _ | refine bstep (by assumption) ?_ | refine bstep (Past.prop _) ?_ | refine Below.setCell ?_ (by first | exact Nat.le_refl _ | (simp; done) | (simp; omega)) _))
    · simp
    · exact Blk.made_at _ _ _ _ (by simp)
    · exact (Blk.made _ _ _).alloc _
  case round =>
    obtain ⟨⟨k, p, q, v, pre, g, hgb, hk, hgh, rfl, hpre, hJ1, hB1, hsz, blk⟩, blk0⟩ := hrel
    have HGB := hidE hgb
    have HK := hidE (fun b k (e : g = some (b, k)) => show W.heap.size + 1 < k ∧ k < wr.heap.size from by have h1 := hgb b k e; have h2 := HJG.out _ _ _ hJ1 b k e; omega)
    clear hgb
    have HJ1 := hidE hJ1; have HB1 := hidE hB1; have HPRE := hidE hpre; have HBK := hidE blk; have HBK0 := hidE blk0; have HSZ := hidE hsz; have HG := hidE hgh
    clear hJ1 hB1 hpre blk blk0 hsz hgh
    obtain ⟨wo, hwo⟩ : ∃ wo : World, wo = wr := ⟨_, rfl⟩
    have cases3 : ((¬ k < F.length ∨ (k < F.length ∧ decide ((k : Int) < (F.length : Int)) = true ∧ decide (y ≤ ats F k) = true)) ∧ pre ++ strZ y p v = strL F x y) ∨
        (k < F.length ∧ decide ((k : Int) < (F.length : Int)) = true ∧ decide (y ≤ ats F k) = false ∧ decide (p < ats F k) = false ∧ pre ++ strG y (F.drop (k + 1)) p (vls F k) = strL F x y) ∨
        (k < F.length ∧ decide ((k : Int) < (F.length : Int)) = true ∧ decide (y ≤ ats F k) = false ∧ decide (p < ats F k) = true ∧ pre ++ (p, ats F k, v) :: strG y (F.drop (k + 1)) (ats F k) (vls F k) = strL F x y) := by
      have hp := HPRE.out
      by_cases hlt : k < F.length
      · rw [drop_cons hlt] at hp
        have hd : decide ((k : Int) < (F.length : Int)) = true := decide_eq_true (by omega)
        by_cases h1 : y ≤ ats F k
        · rw [strG_end h1] at hp
          exact .inl ⟨.inr ⟨hlt, hd, decide_eq_true h1⟩, hp⟩
        · by_cases h2 : p < ats F k
          · rw [strG_cut h1 h2] at hp
            exact .inr (.inr ⟨hlt, hd, decide_eq_false h1, decide_eq_true h2, hp⟩)
          · rw [strG_on h1 h2] at hp
            exact .inr (.inl ⟨hlt, hd, decide_eq_false h1, decide_eq_false h2, hp⟩)
      · rw [List.drop_eq_nil_of_le (by omega), strG_nil] at hp
        exact .inl ⟨.inl hlt, hp⟩
    clear HPRE
    rcases cases3 with ⟨he, hp⟩ | ⟨hlt, hd, h1, h2, hp⟩ | ⟨hlt, hd, h1, h2, hp⟩
    · have HP := hidE hp
      clear hp
      have c3 := HBK0.out.cell 2; have c4 := HBK.out.cell 0; have c5 := HBK.out.cell 1; have c6 := HBK.out.cell 2; have c7 := HBK.out.cell 3; have f4 := HBK.out.free; have z4 := HBK.out.lt; have z3 := HBK0.out.lt
      simp at c3 c4 c5 c6 c7
      have hsz := HSZ.out
      by_cases hz : p < y
      · have dz : decide (p < y) = true := decide_eq_true hz
        have HP2 := hidE (show pre ++ [(p, y, v)] = strL F x y by rw [← HP.out]; unfold strZ; rw [if_pos hz])
        clear HP hz
        have hpre : pre ++ [(p, y, v)] <+: strL F x y := by rw [HP2.out]; exact List.prefix_refl _
        rcases he with he | ⟨hlt, he, he2⟩
        · have he1 : decide (k < F.length) = false := decide_eq_false he
          have he2 : decide ((k : Int) < (F.length : Int)) = false := decide_eq_false (by omega)
          have bb : Below W.heap.size wr (wr.setCell ⟨W.heap.size + 1, 1, none⟩ (.int .i64 y)) := (Below.refl _ wr).setCell (p := ⟨W.heap.size + 1, 1, none⟩) (by simp) _
          obtain ⟨fn, tmps, assign, body, hy, hR⟩ := HY.out pre (p, y, v) g _ (HJ.out _ _ _ _ HJ1.out bb (fun b k e => by obtain ⟨q1, q2⟩ := HK.out b k e; exact keptS (by omega) _)) (by simp [World.setCell]; omega) hpre
          dsimp only [encS] at hy
          go_upto_region 14 with fail
          refine (wpIn_wide (n := 0)).1 ?_
          gi_wp2
          refine ⟨rfl, hR.mono ?_⟩
          clear hy hR
          rintro e W' (⟨rfl, g', hJ', hO, hO2, hO3⟩ | ⟨rfl, hJx'⟩)
          all_goals
            gi_wp2
            try go_wp2
            go_end0
          · exact ⟨⟨_, rfl⟩, .inl ⟨g', by rw [← HP2.out]; exact hJ'⟩⟩
          · exact ⟨⟨_, rfl⟩, .inr ⟨pre ++ [(p, y, v)], hpre, hJx'⟩⟩
        · obtain ⟨b, off, rfl, hb, hc⟩ := (HA.out.past HB1.out) (by omega)
          obtain ⟨c0, c1, c2⟩ := hc.get hlt
          clear hc
          generalize ats F k = u at *
          generalize vls F k = v' at *
          have bb : Below W.heap.size wr ((wr.setCell ⟨W.heap.size + 1, 1, none⟩ (.int .i64 y)).alloc (Obj.cells #[.int .i64 u, .int .i64 v'.1, .int .i64 v'.2] 43)) :=
            ((Below.refl _ wr).setCell (p := ⟨W.heap.size + 1, 1, none⟩) (by simp) _).alloc (by simp [World.setCell]; omega) _
          obtain ⟨fn, tmps, assign, body, hy, hR⟩ := HY.out pre (p, y, v) g _ (HJ.out _ _ _ _ HJ1.out bb (fun b k e => by obtain ⟨q1, q2⟩ := HK.out b k e; exact (keptA (by simp [World.setCell]; omega) _).trans (keptS (by omega) _))) (by simp [World.setCell]; omega) hpre
          dsimp only [encS] at hy
          go_upto_region 14 with fail
          refine (wpIn_wide (n := 0)).1 ?_
          gi_wp2
          refine ⟨rfl, hR.mono ?_⟩
          clear hy hR
          rintro e W' (⟨rfl, g', hJ', hO, hO2, hO3⟩ | ⟨rfl, hJx'⟩)
          all_goals
            gi_wp2
            try go_wp2
            go_end0
          · exact ⟨⟨_, rfl⟩, .inl ⟨g', by rw [← HP2.out]; exact hJ'⟩⟩
          · exact ⟨⟨_, rfl⟩, .inr ⟨pre ++ [(p, y, v)], hpre, hJx'⟩⟩
      · have dz : decide (p < y) = false := decide_eq_false hz
        have HP2 := hidE (show pre = strL F x y by rw [← HP.out]; unfold strZ; rw [if_neg hz, List.append_nil])
        clear HP hz
        rcases he with he | ⟨hlt, he, he2⟩
        · have he1 : decide (k < F.length) = false := decide_eq_false he
          have he2 : decide ((k : Int) < (F.length : Int)) = false := decide_eq_false (by omega)
          have bb : Below W.heap.size wr (wr.setCell ⟨W.heap.size + 1, 1, none⟩ (.int .i64 y)) := (Below.refl _ wr).setCell (p := ⟨W.heap.size + 1, 1, none⟩) (by simp) _
          have HJ2 := hidE (HJ.out _ _ _ _ HJ1.out bb (fun b k e => by obtain ⟨q1, q2⟩ := HK.out b k e; exact keptS (by omega) _))
          clear bb
          go_wp2
          go_end0
          exact ⟨⟨_, rfl⟩, .inl ⟨g, by rw [← HP2.out]; exact HJ2.out⟩⟩
        · obtain ⟨b, off, rfl, hb, hc⟩ := (HA.out.past HB1.out) (by omega)
          obtain ⟨c0, c1, c2⟩ := hc.get hlt
          clear hc
          generalize ats F k = u at *
          generalize vls F k = v' at *
          have bb : Below W.heap.size wr ((wr.setCell ⟨W.heap.size + 1, 1, none⟩ (.int .i64 y)).alloc (Obj.cells #[.int .i64 u, .int .i64 v'.1, .int .i64 v'.2] 43)) :=
            ((Below.refl _ wr).setCell (p := ⟨W.heap.size + 1, 1, none⟩) (by simp) _).alloc (by simp [World.setCell]; omega) _
          have HJ2 := hidE (HJ.out _ _ _ _ HJ1.out bb (fun b k e => by obtain ⟨q1, q2⟩ := HK.out b k e; exact (keptA (by simp [World.setCell]; omega) _).trans (keptS (by omega) _)))
          clear bb
          go_wp2
          go_end0
          exact ⟨⟨_, rfl⟩, .inl ⟨g, by rw [← HP2.out]; exact HJ2.out⟩⟩
    · have HP := hidE hp
      obtain ⟨b, off, rfl, hb, hc⟩ := (HA.out.past HB1.out) (by omega)
      obtain ⟨c0, c1, c2⟩ := hc.get hlt
      have c3 := HBK0.out.cell 2; have c4 := HBK.out.cell 0; have c5 := HBK.out.cell 1; have c6 := HBK.out.cell 2; have c7 := HBK.out.cell 3; have f4 := HBK.out.free; have z4 := HBK.out.lt; have z3 := HBK0.out.lt
      simp at c3 c4 c5 c6 c7
      clear hc hp
      generalize ats F k = u at *
      generalize vls F k = v' at *
      go_wp2
      go_roundg (F.length - (k + 1))
      case measure => have := HG.out; omega
      case rel =>
        have hsz := HSZ.out
        have bb : Below W.heap.size wr (((wr.setCell ⟨W.heap.size + 1, 2, none⟩ (.int .i64 v'.1)).setCell ⟨W.heap.size + 1, 3, none⟩ (.int .i64 v'.2)).alloc (Obj.cells #[.int .i64 u, .int .i64 v'.1, .int .i64 v'.2] 43)) :=
          (((Below.refl _ wr).setCell (p := ⟨W.heap.size + 1, 2, none⟩) (by simp) _).setCell (p := ⟨W.heap.size + 1, 3, none⟩) (by simp) _).alloc (by simp [World.setCell]; omega) _
        exact ⟨⟨k + 1, p, q, v', pre, g, HGB.out, by omega, Nat.le_refl _, by go_num, HP.out, HJ.out _ _ _ _ HJ1.out bb (fun b k e => by obtain ⟨q1, q2⟩ := HK.out b k e; exact (keptA (by simp [World.setCell]; omega) _).trans ((keptS (by omega) _).trans (keptS (by omega) _))), HB1.out.trans (bb.mono HBW.out.size), by simp [World.setCell]; omega, ((HBK.out.set 2 (.int .i64 v'.1)).set 3 (.int .i64 v'.2)).alloc _⟩, ((HBK0.out.other (by omega) _).other (by omega) _).alloc _⟩
    · have HP := hidE hp
      obtain ⟨b, off, rfl, hb, hc⟩ := (HA.out.past HB1.out) (by omega)
      obtain ⟨c0, c1, c2⟩ := hc.get hlt
      have c3 := HBK0.out.cell 2; have c4 := HBK.out.cell 0; have c5 := HBK.out.cell 1; have c6 := HBK.out.cell 2; have c7 := HBK.out.cell 3; have f4 := HBK.out.free; have z4 := HBK.out.lt; have z3 := HBK0.out.lt
      simp at c3 c4 c5 c6 c7
      clear hc hp
      generalize ats F k = u at *
      generalize vls F k = v' at *
      have hpre : pre ++ [(p, u, v)] <+: strL F x y := ⟨strG y (F.drop (k + 1)) u v', by rw [← HP.out]; simp⟩
      have hsz := HSZ.out
      have q1 := (HBK.out.set 1 (.int .i64 u)).alloc (Obj.cells #[.int .i64 u, .int .i64 v'.1, .int .i64 v'.2] 43)
      have q0 := (HBK0.out.other (b := W.heap.size + 1) (i := 1) (by omega) (.int .i64 u)).alloc (Obj.cells #[.int .i64 u, .int .i64 v'.1, .int .i64 v'.2] 43)
      have qr : Blk ((wr.setCell ⟨W.heap.size + 1, 1, none⟩ (.int .i64 u)).alloc (Obj.cells #[.int .i64 u, .int .i64 v'.1, .int .i64 v'.2] 43)) wr.heap.size #[.int .i64 u, .int .i64 v'.1, .int .i64 v'.2] 43 := Blk.made_at _ _ _ _ (by simp [World.setCell])
      have bb : Below W.heap.size wr ((wr.setCell ⟨W.heap.size + 1, 1, none⟩ (.int .i64 u)).alloc (Obj.cells #[.int .i64 u, .int .i64 v'.1, .int .i64 v'.2] 43)) :=
        ((Below.refl _ wr).setCell (p := ⟨W.heap.size + 1, 1, none⟩) (by simp) _).alloc (by simp [World.setCell]; omega) _
      obtain ⟨fn, tmps, assign, body, hy, hR⟩ := HY.out pre (p, u, v) g _ (HJ.out _ _ _ _ HJ1.out bb (fun b k e => by obtain ⟨q1, q2⟩ := HK.out b k e; exact (keptA (by simp [World.setCell]; omega) _).trans (keptS (by omega) _))) (by simp [World.setCell]; omega) hpre
      dsimp only [encS] at hy
      have HQ1 := hidE q1; have HQ0 := hidE q0; have HQR := hidE qr; have HBB := hidE bb; have HPR := hidE hpre
      clear q1 q0 qr bb hpre
      go_upto_region 8 with fail
      refine (wpIn_wide (n := 0)).1 ?_
      gi_wp2
      refine ⟨rfl, hR.mono ?_⟩
      clear hy hR
      rintro e W' (⟨rfl, g', hJ', hO, hO2, hO3⟩ | ⟨rfl, hJx'⟩)
      · have hz1 := hO.size
        have hzz : W.heap.size ≤ wr.heap.size := by omega
        simp [World.setCell] at hz1
        have s1 := (hO2 _ (by omega) HQ1.out.lt (fun b e => by have := HK.out b _ e; omega)).trans HQ1.out
        have s0 := (hO2 _ (by omega) HQ0.out.lt (fun b e => by have := HK.out b _ e; omega)).trans HQ0.out
        have sr := (hO2 _ (by omega) HQR.out.lt (fun b e => by have := HK.out b _ e; omega)).trans HQR.out
        have HGB2 := hidE (fun b k (e : g' = some (b, k)) => show W.heap.size + 2 ≤ b from by
          rcases hO3 b k e with h | ⟨j, h⟩
          · simp [World.setCell] at h; omega
          · exact HGB.out b j h)
        have HJ2 := hidE hJ'; have HO := hidE hO
        clear hO hO2 hO3 hJ'
        change Blk W' _ _ _ at s1
        change Blk W' _ _ _ at s0
        change Blk W' _ _ _ at sr
        have d0 := sr.cell 0; have d1 := sr.cell 1; have d2 := sr.cell 2; have dz := sr.lt
        have g0 := s1.cell 0; have g1 := s1.cell 1; have g2 := s1.cell 2; have g3 := s1.cell 3; have gf := s1.free; have gz := s1.lt
        simp at d0 d1 d2 g0 g1 g2 g3
        clear hz1 c0 c1 c2 c3 c4 c5 c6 c7 f4 z4 z3 hb
        gi_wp2
        go_wp2
        go_roundg (F.length - (k + 1))
        case measure => have := HG.out; omega
        case rel =>
          have bc : Below W.heap.size W' (((W'.setCell ⟨W.heap.size + 1, 0, none⟩ (.int .i64 u)).setCell ⟨W.heap.size + 1, 2, none⟩ (.int .i64 v'.1)).setCell ⟨W.heap.size + 1, 3, none⟩ (.int .i64 v'.2)) :=
            (((Below.refl _ W').setCell (p := ⟨W.heap.size + 1, 0, none⟩) (by simp) _).setCell (p := ⟨W.heap.size + 1, 2, none⟩) (by simp) _).setCell (p := ⟨W.heap.size + 1, 3, none⟩) (by simp) _
          have hz1 := HO.out.size
          simp [World.setCell] at hz1
          refine ⟨⟨k + 1, u, u, v', pre ++ [(p, u, v)], g', HGB2.out, by omega, Nat.le_refl _, by go_num, ?_, HJ.out _ _ _ _ HJ2.out bc (fun b k e => by have q1 := HGB2.out b k e; have q2 := (HJG.out _ _ _ HJ2.out b k e).1; exact (keptS (by omega) _).trans ((keptS (by omega) _).trans (keptS (by omega) _))), ((HB1.out.trans (HBB.out.mono HBW.out.size)).trans HO.out).trans (bc.mono HBW.out.size), by simp [World.setCell]; omega, ?_⟩, ?_⟩
          · rw [← HP.out]; simp
          · simpa using ((s1.set 0 (.int .i64 u)).set 2 (.int .i64 v'.1)).set 3 (.int .i64 v'.2)
          · exact ((s0.other (by omega) _).other (by omega) _).other (by omega) _
      · gi_wp2
        go_wp2
        refine bodyPost_ret (results_none rfl _ _ _) rfl ?_
        exact ⟨⟨_, rfl⟩, .inr ⟨pre ++ [(p, u, v)], HPR.out, hJx'⟩⟩
theorem str_c (F : List Sg) (x y : Int) (a : Option Addr) (cap : Nat) (w0 w : World) (hl : F.length ≤ 1000000000) (hA : ArgS w0 a F) (hb : Below w0.heap.size w0 w) :
    SeqT Try.prog 47 #[WN a F.length cap x y] #[] encS w0.heap.size (strL F x y) w := (strO_c F x y a cap w0 w hl hA hb).toT
end Go.Proofs.Ytigepmijgoglhaa

namespace Go.Proofs.Ytigepmijgoglhaa
open Go.ChangeShapes Go.WideShapes Go.ChangeAt Go.RowKit

theorem lec (x y : Int) (w : World) : Calls Try.prog 59 #[.int .i64 x, .int .i64 y] w fun e w' => e = .returned (.bool (decide (x ≤ y))) ∧ w' = w := by
  go_enter Try.func59, Try.ntmps59
  go_wp2
  go_ret
  exact ⟨rfl, rfl⟩

theorem bothLE (a b c d : Int) (w : World) : Calls Try.prog 58 #[V a b, V c d, .func (.func 59) #[] #[]] w fun e w' => e = .returned (.tuple #[.bool (decide (a ≤ c)), .bool (decide (b ≤ d))]) ∧ Below w.heap.size w w' := by
  go_enter Try.func58, Try.ntmps58
  go_wp2
  go_quiet ((go_at_call 59; exact Calls.quiet_of_same (lec _ _ _)))
  go_wp2
  go_ret2
  exact ⟨rfl, below_drewN (((Below.refl _ _).alloc (Nat.le_refl _) _).alloc (by simp) _) _⟩

theorem le (a b c d : Int) (w : World) : Calls Try.prog 54 #[V a b, V c d] w fun e w' => e = .returned (.bool (leB a b c d)) ∧ Below w.heap.size w w' := by
  go_enter Try.func54, Try.ntmps54
  go_wp2_with (go_at_call 58; refine (bothLE _ _ _ _ _).mono ?_; rintro e w' ⟨rfl, hb⟩)
  all_goals
    go_ret
    refine ⟨ret_bool ?_, (((Below.refl _ _).alloc (Nat.le_refl _) _).alloc (by simp) _).trans (hb.mono (by simp; omega))⟩
  · simp [leB]; omega
  · simp [leB]; omega
theorem le_eq {a b c d : Int} {r : Bool} {w : World} (h : leB a b c d = r) : Calls Try.prog 54 #[V a b, V c d] w fun e w' => e = .returned (.bool r) ∧ Below w.heap.size w w' := h ▸ le a b c d w

theorem of_ (m n : Int) (w : World) : Calls Try.prog 49 #[.int .i64 m, .int .i64 n] w fun e w' => e = .returned (V m n) ∧ Below w.heap.size w w' := by
  go_enter Try.func49, Try.ntmps49
  go_wp2
  exact bodyPost_ret (v := V m n) (by simp [results, Try.results49, go_sem]) rfl ⟨rfl, (Below.refl _ _).alloc (by simp) _⟩

theorem alike (n : Int) (w : World) : Calls Try.prog 55 #[.int .i64 n] w fun e w' => e = .returned (V n n) ∧ Below w.heap.size w w' := by
  go_enter Try.func55, Try.ntmps55
  go_wp2_with (go_at_call 49; refine (of_ _ _ _).mono ?_; rintro e w' ⟨rfl, hb⟩; obtain ⟨hc, hf⟩ := bcell hb; have hz := bsz hb w.heap.size (by simp))
  refine bodyPost_ret (v := V n n) (by simp [results, Try.results55, go_sem, hc]) rfl ⟨rfl, ?_⟩
  exact ((((Below.refl _ _).alloc (Nat.le_refl _) _).trans (hb.mono (by simp))).setCell (Nat.le_refl _) _).setCell (Nat.le_refl _) _

theorem may (a b : Int) (w : World) : Calls Try.prog 46 #[V a b] w fun e w' => e = .returned (.bool (okV a b)) ∧ Below w.heap.size w w' := by
  rw [← okV_parts]
  cases h1 : leB (-1125899906842624) (-1125899906842624) a b
  all_goals
    go_enter Try.func46, Try.ntmps46
    go_wp2
    refine wp_region_past_lit (by kernel_rfl) (by kernel_rfl) ?_
    have hc := Past.cell (W := w.alloc (Obj.cells #[Value.int IntKind.i64 a, Value.int IntKind.i64 b] 35))
    repeat (go_big_quiet_step ((first | (go_at_call 55; exact Past.call _ (alike _ _)) | (go_at_call 54; exact Past.call _ (le_eq h1)) | (go_at_call 54; exact Past.call _ (le _ _ _ _ _)))))
    refine wpQuiet_nil ?_
    rintro _ ⟨x, rfl⟩
    go_wp2
    go_ret
    exact ⟨rfl, ((Below.refl _ _).alloc (Nat.le_refl _) _).trans (x.2.mono (by simp))⟩
theorem may_eq {a b : Int} {r : Bool} {w : World} (h : okV a b = r) : Calls Try.prog 46 #[V a b] w fun e w' => e = .returned (.bool r) ∧ Below w.heap.size w w' := h ▸ may a b w
end Go.Proofs.Ytigepmijgoglhaa

namespace Go.Proofs.Ytigepmijgoglhaa
open Go.ChangeShapes Go.WideShapes Go.ChangeAt Go.RowKit

/-- The row's cells. -/
def rowC (n : Nat) (d : Nat → Nat) : Array Value := ((List.range n).map fun i => Value.int .i64 (d i)).toArray
theorem rowC_get {n : Nat} {d : Nat → Nat} {i : Nat} (h : i < n) : (rowC n d)[i]? = some (.int .i64 (d i)) := by
  simp [rowC, List.getElem?_range h]
theorem rowC_size (n : Nat) (d : Nat → Nat) : (rowC n d).size = n := by simp [rowC]
theorem rowC_ext {n : Nat} {d d' : Nat → Nat} (h : ∀ i, i < n → d i = d' i) : rowC n d = rowC n d' := by
  unfold rowC
  congr 1
  exact List.map_congr_left fun i hi => by rw [h i (by simpa using hi)]
theorem rowC_set {n : Nat} {d : Nat → Nat} {i : Nat} (v : Nat) : (rowC n d).setIfInBounds i (.int .i64 v) = rowC n (fun k => if k = i then v else d k) := by
  apply Array.ext_getElem?
  intro k
  rw [Array.getElem?_setIfInBounds, rowC_size]
  by_cases c : i = k
  · subst c
    rw [if_pos rfl]
    by_cases h : i < n
    · rw [if_pos h, rowC_get h, if_pos rfl]
    · rw [if_neg h, Array.getElem?_eq_none (by rw [rowC_size]; omega)]
  · rw [if_neg c]
    by_cases h : k < n
    · rw [rowC_get h, rowC_get h, if_neg (by omega)]
    · rw [Array.getElem?_eq_none (by rw [rowC_size]; omega), Array.getElem?_eq_none (by rw [rowC_size]; omega)]
theorem rowC_swap {n : Nat} {d : Nat → Nat} {i j : Nat} : ((rowC n d).setIfInBounds i (.int .i64 (d j))).setIfInBounds j (.int .i64 (d i)) = rowC n (sw d i j) := by
  rw [rowC_set, rowC_set]
  refine rowC_ext fun k _ => ?_
  unfold sw
  by_cases c1 : k = j
  · by_cases c2 : k = i
    · rw [if_pos c1, if_pos c2, ← c1, ← c2]
    · rw [if_pos c1, if_neg c2, if_pos c1]
  · rw [if_neg c1, if_neg c1]

/-- A world of the sort's: the row holds d; what lies below it is as it was. -/
structure RowW (w0 : World) (blk n : Nat) (t : TypeId) (d : Nat → Nat) (w : World) : Prop where
  here : Blk w blk (rowC n d) t
  low : Below blk w0 w
variable {w0 w w' : World} {blk n : Nat} {t : TypeId} {d : Nat → Nat}
theorem RowW.lt (h : RowW w0 blk n t d w) : blk < w.heap.size := h.here.lt
theorem RowW.cell (h : RowW w0 blk n t d w) {i : Nat} (hi : i < n) : w.cell? ⟨blk, i, none⟩ = some (.int .i64 (d i)) := (h.here.cell i).trans (rowC_get hi)
theorem RowW.free (h : RowW w0 blk n t d w) (i : Nat) : w.frozen? ⟨blk, i, none⟩ = false := h.here.free i
theorem RowW.past (h : RowW w0 blk n t d w) (hb : Below w.heap.size w w') : RowW w0 blk n t d w' := ⟨h.here.past hb, h.low.trans (hb.mono (Nat.le_of_lt h.lt))⟩
theorem RowW.set (h : RowW w0 blk n t d w) (i v : Nat) : RowW w0 blk n t (fun k => if k = i then v else d k) (w.setCell ⟨blk, i, none⟩ (.int .i64 v)) :=
  ⟨by rw [← rowC_set]; exact h.here.set i _, h.low.setCell (Nat.le_refl _) _⟩
theorem RowW.swap (h : RowW w0 blk n t d w) (i j : Nat) : RowW w0 blk n t (sw d i j) ((w.setCell ⟨blk, i, none⟩ (.int .i64 (d j))).setCell ⟨blk, j, none⟩ (.int .i64 (d i))) :=
  ⟨by rw [← rowC_swap]; exact (h.here.set i _).set j _, (h.low.setCell (Nat.le_refl _) _).setCell (Nat.le_refl _) _⟩
theorem RowW.drew (h : RowW w0 blk n t d w) : RowW w0 blk n t d w.drew := ⟨h.here.drew 1, h.low.drew⟩
theorem RowW.ext (h : RowW w0 blk n t d w) {d' : Nat → Nat} (e : d = d') : RowW w0 blk n t d' w := e ▸ h
/-- Behind the first store the second place still reads. -/
theorem RowW.c2 (h : RowW w0 blk n t d w) (i j : Nat) (hj : j < n) (v : Nat) : (w.setCell ⟨blk, i, none⟩ (.int .i64 v)).cell? ⟨blk, j, none⟩ = some (.int .i64 ((if j = i then v else d j : Nat))) :=
  (h.set i v).cell hj
end Go.Proofs.Ytigepmijgoglhaa

namespace Go.Proofs.Ytigepmijgoglhaa
open Go.ChangeShapes Go.WideShapes Go.ChangeAt Go.RowKit
attribute [local irreducible] Go.Calls

/-- Less, alike, more: -1, 0, 1. -/
def cmpI (a b : Int) : Int := if a < b then -1 else if b < a then 1 else 0
theorem cmpI_lt {a b : Int} (h : a < b) : cmpI a b = -1 := by unfold cmpI; rw [if_pos h]
theorem cmpI_neg {a b : Int} : decide (cmpI a b < 0) = decide (a < b) := by unfold cmpI; split <;> simp_all; split <;> simp_all

theorem isNaN_c (x : Int) (w : World) : Calls Try.prog 64 #[.int .i64 x] w fun e w' => e = .returned (.bool false) ∧ w' = w := by
  go_enter Try.func64, Try.ntmps64
  go_wp2
  go_ret
  exact ⟨rfl, rfl⟩

theorem compare64 (a b : Int) (w : World) : Calls Try.prog 62 #[.int .i64 a, .int .i64 b] w fun e w' => e = .returned (.int .i64 (cmpI a b)) ∧ w' = w := by
  rcases Int.lt_trichotomy a b with c | c | c
  · have hv : cmpI a b = -1 := cmpI_lt c
    have HV := hidE hv; clear hv
    go_enter Try.func62, Try.ntmps62
    go_wp2_with (go_at_call 64; ((with_reducible refine (isNaN_c _ _).mono ?_); rintro e w' ⟨rfl, rfl⟩))
    go_ret
    exact ⟨ret_int HV.out.symm, rfl⟩
  · have hv : cmpI a b = 0 := by unfold cmpI; rw [if_neg (by omega), if_neg (by omega)]
    have HV := hidE hv; clear hv
    subst c
    go_enter Try.func62, Try.ntmps62
    go_wp2_with (go_at_call 64; ((with_reducible refine (isNaN_c _ _).mono ?_); rintro e w' ⟨rfl, rfl⟩))
    go_ret
    exact ⟨ret_int HV.out.symm, rfl⟩
  · have hv : cmpI a b = 1 := by unfold cmpI; rw [if_neg (by omega), if_pos (by omega)]
    have HV := hidE hv; clear hv
    have c' : ¬ a < b := by omega
    go_enter Try.func62, Try.ntmps62
    go_wp2_with (go_at_call 64; ((with_reducible refine (isNaN_c _ _).mono ?_); rintro e w' ⟨rfl, rfl⟩))
    go_ret
    exact ⟨ret_int HV.out.symm, rfl⟩

theorem byAt_c (a m c a' m' c' : Int) (w : World) : Calls Try.prog 57 #[S a m c, S a' m' c'] w fun e w' => e = .returned (.int .i64 (cmpI a a')) ∧ Below w.heap.size w w' := by
  go_enter Try.func57, Try.ntmps57
  go_wp2_with (go_at_call 62; ((with_reducible refine (compare64 _ _ _).mono ?_); rintro e w' ⟨rfl, rfl⟩))
  go_ret
  exact ⟨rfl, by (repeat (first | exact Below.refl _ _ | assumption | refine balloc ?_ _ | refine below_drewN ?_ _ | refine bstep (by assumption) ?_ | refine bstep (Past.prop _) ?_ | refine Below.setCell ?_ (by first | exact Nat.le_refl _ | (simp; done) | (simp; omega)) _))⟩

theorem cmpRuns_c (l : List Sg) (b off cap x y : Nat) (w : World) (hb0 : b < w.heap.size) (_hl : l.length ≤ 9223372036854775807) (hc0 : CellsS w b off l) (hx : x < l.length) (hy : y < l.length) :
    Calls Try.prog 53 #[.slice (some ⟨b, off, none⟩) l.length cap, .int .i64 x, .int .i64 y] w fun e w' => e = .returned (.int .i64 (cmpI (ats l x) (ats l y))) ∧ Below w.heap.size w w' := by
  obtain ⟨x0, x1, x2⟩ := hc0.get hx
  obtain ⟨y0, y1, y2⟩ := hc0.get hy
  clear hc0
  generalize ats l x = u0 at *
  generalize vls l x = u at *
  generalize ats l y = v0 at *
  generalize vls l y = v at *
  go_enter Try.func53, Try.ntmps53
  go_wp2
  refine wp_region_past_lit (by kernel_rfl) (by kernel_rfl) ?_
  have hc := Past.cell (W := w)
  repeat (go_big_quiet_step ((go_at_call 57; exact Past.call _ (byAt_c _ _ _ _ _ _ _))))
  refine wpQuiet_nil ?_
  rintro _ ⟨x', rfl⟩
  go_wp2
  go_ret
  exact ⟨rfl, x'.2⟩
end Go.Proofs.Ytigepmijgoglhaa
