/- Program-free lemmas for walks over calls that make memory of their own. No conditions. From a walk to a statement: a law whose call answers true and only makes memory has its row. No conditions. Slices that read as lists of tokens: four cells each, the second a string. No function of the program. No conditions. Slices that read as lists of integers of one kind (uint8, uint64 ..). No function of the program. No conditions. Slices of uint8 and of uint64 that are handed in. No conditions. The contracts of package lex's functions of one byte: isLetter, isDigit, class, inRun; and apart. No conditions. White that is put ahead of a token: its bytes, and what the tokens are then. No program. No conditions. Tokens, their text, and back: what the statement looks at, token by token. No program. No conditions. The contracts of package lex's functions of one run: Word, Number, behind. No conditions but the text's length. The contract of package lex's Number. No conditions but the text's length. The contracts of package lex's kinds and kindOf. No conditions but the text's length, and that the list of kinds lies where kinds laid it. A range over a function: an iterator that keeps state of its own in cells, and the law for its caller. The caller's own variables lie below where the loop begins; the iterator's own, and the loop's book-keeping, at or beyond. Program-free. No conditions. A range over a function whose body keeps a block of its own, made in an earlier round (a slice that it appends to), and may leave the loop: an iterator's contract with that block named, and with what the iterator reads of the caller's, and the law for its caller. Program-free. No conditions. The contract of the iterator that package lex's runs hands back: it hands on a text's runs, one after the other. No conditions but the text's length. A row of cells that is appended to, round by round: where it lies, and what turns of memory leave it as it is: for any kind of element. Program-free. No conditions. -/
import Derived.WalkKit
import Derived.ProofKit
import Derived.OpenShut
import Derived.Below
import Derived.WalkSmall
import Derived.OneCell
import Derived.Deep.QuietTactic
import Derived.BigQuiet
import Derived.Test.YtpcgeaphfpcghaaRows
import Derived.Carry
import Derived.Lib.SmallJoins
import Derived.Test.YtpcgeaphfpcghaaLMA
import Derived.LoopTactic
import Derived.Deep.LoopGhost
import Derived.WalkMore
import Derived.ScopeJumps
import Derived.Deep.DeepCutAuto
import Derived.Outline
import Derived.BigRegion
import Derived.Laws.AppendOwn
import Derived.Laws.OwnMore
import Derived.Laws.IdiomStrings
import Derived.RangeFuncRecord
import Derived.RangeFuncSeq
import Derived.Shelf.Abstract
import Derived.RangeFuncCalls
import Derived.OwnWalkIn
namespace Go.Proofs.Ytpcgeaphfpcghaa
open Go.ChangeShapes Go.WideShapes Go.ChangeAt Go.RowKit

/-- The worlds that a call which only makes memory may leave behind W. -/
def Past (W : World) : Type := { w : World // Below W.heap.size W w }

instance (W : World) : Nonempty (Past W) := ⟨⟨W, Below.refl _ _⟩⟩

theorem Past.cell {W : World} (x : Past W) (b o : Nat) (h : b < W.heap.size) : x.1.cell? ⟨b, o, none⟩ = W.cell? ⟨b, o, none⟩ :=
  x.2.cell (p := ⟨b, o, none⟩) h
theorem Past.frozen {W : World} (x : Past W) (b o : Nat) (h : b < W.heap.size) : x.1.frozen? ⟨b, o, none⟩ = W.frozen? ⟨b, o, none⟩ :=
  x.2.frozen (p := ⟨b, o, none⟩) h

theorem bcell {W w1 : World} (hb : Below W.heap.size W w1) : (∀ b o, b < W.heap.size → w1.cell? ⟨b, o, none⟩ = W.cell? ⟨b, o, none⟩) ∧ (∀ b o, b < W.heap.size → w1.frozen? ⟨b, o, none⟩ = W.frozen? ⟨b, o, none⟩) :=
  ⟨fun b o h => hb.cell (p := ⟨b, o, none⟩) h, fun b o h => hb.frozen (p := ⟨b, o, none⟩) h⟩

theorem bsz {W w1 : World} (hb : Below W.heap.size W w1) (k : Nat) (h : k < W.heap.size) : k < w1.heap.size := Nat.lt_of_lt_of_le h hb.size

/-- A region that draws its order, whose operations read and call what only makes memory: one walk in the text's order. -/
theorem wp_region_past_lit {P : Program} {id : Nat} {Q : Exit → Act → World → Prop} {a : Act} {w : World} {l : List Oper} (hm : P.follows .mixedOrders = true) (hB : Region.lexB .any l.toArray = true)
    (h : wpQuiet P l.toArray (fun w' => ∃ x : Past w, w' = x.1) (fun a' => ∀ w', (∃ x : Past w, w' = x.1) → Q .normal a' w') l a) : (Code.region id l.toArray true).wp P Q a w :=
  wp_region_quiet (C := fun w' => ∃ x : Past w, w' = x.1) hm hB ⟨⟨_, (Below.refl _ _).drew⟩, rfl⟩ (by simpa using h)

theorem Past.call {P : Program} {f : FuncId} {args : Array Value} {W : World} {v : Value} (x : Past W)
    (h : Calls P f args x.1 fun e w' => e = .returned v ∧ Below x.1.heap.size x.1 w') : Calls P f args x.1 fun e w'' => e = .returned v ∧ ∃ y : Past W, w'' = y.1 :=
  h.mono fun _ _ ⟨he, hb⟩ => ⟨he, ⟨⟨_, x.2.trans (hb.mono x.2.size)⟩, rfl⟩⟩

theorem Past.same {P : Program} {f : FuncId} {args : Array Value} {W : World} {v : Value} (x : Past W)
    (h : Calls P f args x.1 fun e w' => e = .returned v ∧ w' = x.1) : Calls P f args x.1 fun e w'' => e = .returned v ∧ ∃ y : Past W, w'' = y.1 :=
  h.mono fun _ _ ⟨he, hb⟩ => ⟨he, ⟨x, hb⟩⟩

theorem same_below {P : Program} {f : FuncId} {args : Array Value} {w : World} {v : Value}
    (h : Calls P f args w fun e w' => e = .returned v ∧ w' = w) : Calls P f args w fun e w' => e = .returned v ∧ Below w.heap.size w w' :=
  h.mono fun _ _ ⟨he, hb⟩ => ⟨he, hb ▸ Below.refl _ _⟩

theorem Past.prop {W : World} (x : Past W) : Below W.heap.size W x.1 := x.2
theorem bstep {a W w' : World} (h : Below W.heap.size W w') (ha : Below a.heap.size a W) : Below a.heap.size a w' := ha.trans (h.mono ha.size)
theorem balloc {a w : World} (h : Below a.heap.size a w) (o : Obj) : Below a.heap.size a (w.alloc o) := h.alloc h.size o
theorem hidE {p : Prop} (h : p) : Hid p := h
/-- A block known whole, none of it a string's bytes. -/
def Blk (w : World) (k : Nat) (cs : Array Value) (t : TypeId) : Prop := w.heap[k]? = some (.cells cs t (0, 0))
theorem Blk.lt {w : World} {k : Nat} {cs : Array Value} {t : TypeId} (h : Blk w k cs t) : k < w.heap.size := lt_of_block h
theorem Blk.cell {w : World} {k : Nat} {cs : Array Value} {t : TypeId} (h : Blk w k cs t) (i : Nat) : w.cell? ⟨k, i, none⟩ = cs[i]? := by
  unfold Blk at h; simp [World.cell?, h]
theorem Blk.free {w : World} {k : Nat} {cs : Array Value} {t : TypeId} (h : Blk w k cs t) (i : Nat) : w.frozen? ⟨k, i, none⟩ = false := by
  unfold Blk at h; simp [World.frozen?, h]
theorem Blk.made (w : World) (cs : Array Value) (t : TypeId) : Blk (w.alloc (.cells cs t)) w.heap.size cs t := by
  show (w.heap.push _)[w.heap.size]? = _
  simp
theorem Blk.made_at (w : World) (cs : Array Value) (t : TypeId) (k : Nat) (h : k = w.heap.size) : Blk (w.alloc (.cells cs t)) k cs t := h ▸ Blk.made w cs t
theorem Blk.alloc {w : World} {k : Nat} {cs : Array Value} {t : TypeId} (h : Blk w k cs t) (o : Obj) : Blk (w.alloc o) k cs t := by
  have := h.lt
  show (w.heap.push _)[k]? = _
  rw [Array.getElem?_push, if_neg (by omega)]; exact h
theorem Blk.below {w w' : World} {k : Nat} {cs : Array Value} {t : TypeId} (h : Blk w k cs t) {B : Nat} (hb : Below B w w') (hk : k < B) : Blk w' k cs t := (hb.block k hk).trans h
theorem Blk.past {w w' : World} {k : Nat} {cs : Array Value} {t : TypeId} (h : Blk w k cs t) (hb : Below w.heap.size w w') : Blk w' k cs t := h.below hb h.lt
theorem Blk.drew {w : World} {k : Nat} {cs : Array Value} {t : TypeId} (h : Blk w k cs t) (n : Nat) : Blk (w.drewN n) k cs t := h
theorem Blk.set {w : World} {k : Nat} {cs : Array Value} {t : TypeId} (h : Blk w k cs t) (i : Nat) (v : Value) : Blk (w.setCell ⟨k, i, none⟩ v) k (cs.setIfInBounds i v) t := by
  have hlt := h.lt
  have h' : w.heap[k] = .cells cs t (0, 0) := by unfold Blk at h; simpa [Array.getElem?_eq_getElem hlt] using h
  show (w.heap.modify k _)[k]? = _
  rw [Array.getElem?_eq_getElem (by simpa using hlt), Array.getElem_modify_self, h']
  rfl
theorem Blk.other {w : World} {k : Nat} {cs : Array Value} {t : TypeId} (h : Blk w k cs t) {b i : Nat} (hb : k ≠ b) (v : Value) : Blk (w.setCell ⟨b, i, none⟩ v) k cs t :=
  (Below.heap_setCell w ⟨b, i, none⟩ v k hb).trans h
theorem ret_bool {a b : Bool} (h : a = b) : Ending.returned (.bool a) = .returned (.bool b) := by rw [h]
theorem ret_int {k : IntKind} {a b : Int} (h : a = b) : Ending.returned (.int k a) = .returned (.int k b) := by rw [h]
theorem ret_tup {a b : Array Value} (h : a = b) : Ending.returned (.tuple a) = .returned (.tuple b) := by rw [h]

/-- A bool of which something is known is handed back; the call only makes memory. -/
def RetB (w : World) (p : Bool → Prop) (e : Ending) (w' : World) : Prop := ∃ r : Bool, e = .returned (.bool r) ∧ p r ∧ Below w.heap.size w w'
/-- So a number. -/
def RetN (w : World) (p : Nat → Prop) (e : Ending) (w' : World) : Prop := ∃ n : Nat, e = .returned (.int .i64 n) ∧ p n ∧ Below w.heap.size w w'
/-- So a value. -/
def RetV (w : World) (p : Value → World → Prop) (e : Ending) (w' : World) : Prop := ∃ v : Value, e = .returned v ∧ p v w' ∧ Below w.heap.size w w'

end Go.Proofs.Ytpcgeaphfpcghaa

namespace Go.Proofs.Ytpcgeaphfpcghaa
open Go.ChangeShapes Go.WideShapes Go.ChangeAt Go.RowKit Go.WideElems

def readOk (P : Program) (ts : List TypeId) : Bool := ts.all fun t => P.readableRec t && decide (t < P.types.size)
theorem readOk_spec {P : Program} {ts : List TypeId} (h : readOk P ts = true) : ∀ t ∈ ts, P.readableRec t = true ∧ t < P.types.size := fun t ht => by
  have := List.all_eq_true.1 h t ht
  simpa using this
theorem own : ownKnob Try.prog.godebug = none := by kernel_rfl
theorem laidOut : laidOutB Try.prog = true := by kernel_rfl

section
variable {H : Type} {enc : TypeId × Value → H} {P : Program}

/-- What was read before reads so behind a call that only makes memory. -/
theorem trodAll_past (hl : laidOutB P = true) {W W' : World} (hb : Below W.heap.size W W') : ∀ (ts : List TypeId) (vs : List Value) (ds : List (DataW H)) (ps : List MemPlace),
    (∀ t ∈ ts, P.readableRec t = true ∧ t < P.types.size) → DataW.TrodAll enc P W 0 (fun _ => true) true ts vs ds ps → (∀ x ∈ ps, x.block < W.heap.size) →
    ∀ sp : Nat → Bool, (∀ x ∈ ps, sp x.block = true) → DataW.TrodAll enc P W' 0 sp true ts vs ds ps := by
  intro ts
  induction ts with
  | nil =>
    intro vs ds ps _ h _ sp _
    cases vs <;> cases ds <;> simp only [DataW.TrodAll] at h ⊢
    exact h
  | cons t ts ih =>
    intro vs ds ps hr h hlt sp hsp
    cases vs with
    | nil => cases ds <;> simp only [DataW.TrodAll] at h
    | cons v vs =>
      cases ds with
      | nil => simp only [DataW.TrodAll] at h
      | cons d ds =>
        simp only [DataW.TrodAll] at h ⊢
        obtain ⟨p, q, h1, h2, rfl⟩ := h
        have hr0 := hr t (by simp)
        exact ⟨p, q, WideElems.Trod_stays hl hr0.1 hr0.2 h1 (fun x hx => hb.same (hlt x (by simp [hx]))) (fun x hx => hsp x (by simp [hx])),
          ih vs ds q (fun u hu => hr u (by simp [hu])) h2 (fun x hx => hlt x (by simp [hx])) sp (fun x hx => hsp x (by simp [hx])), rfl⟩

/-- The row's last step. -/
theorem law_post {f : Func} {s : ChangeSpec} {rt : TypeId} {W W' : World} {args : Array Value} {ds gs : List (DataW H)} {before : List MemPlace}
    (hl : laidOutB P = true) (hread : ∀ t ∈ f.params.toList, P.readableRec t = true ∧ t < P.types.size) (hv : s.vars = []) (hbool : P.underlying rt = some .bool) (hrt : f.resultTypes = #[rt])
    (hfn : (s.fn H ds).results = [.lit (.bool true)] ∧ (s.fn H ds).args = ds ∧ (s.fn H ds).vars = [])
    (hW : DataW.Whole enc P f.params.toList s.vars false W args.toList ds gs before) (hb : Below W.heap.size W W') :
    s.post enc P f false true false false W args (.bool true) W' := by
  have hlt : ∀ x ∈ before, x.block < W.heap.size := fun x hx => hW.lt x hx
  have hW' := hW
  obtain ⟨p, q, hA, hV, rfl, hz, hn⟩ := hW
  rw [hv] at hV
  obtain ⟨rfl, rfl⟩ := trodVars_none hV
  rw [List.append_nil] at *
  obtain ⟨e1, e2, e3⟩ := hfn
  have hres : ∀ (b : Nat) (sp : Nat → Bool) (hd : Bool), DataW.TrodAll enc P W' b sp hd f.resultTypes.toList ((Value.bool true).resultList f.resultTypes.size) (s.fn H (ds ++ [])).results [] := by
    intro b sp hd
    rw [List.append_nil, e1, hrt]
    exact trodAll_cons_mk (shut_bool hbool true) trodAll_mk0
  have hargs : ∀ sp : Nat → Bool, (∀ x ∈ p, sp x.block = true) → DataW.TrodAll enc P W' 0 sp true f.params.toList args.toList (s.fn H (ds ++ [])).args p := by
    intro sp hsp
    rw [List.append_nil, e2]
    exact trodAll_past hl hb _ _ _ _ hread hA hlt sp hsp
  have hvars : ∀ sp : Nat → Bool, DataW.TrodVars enc P W' sp s.vars (s.fn H (ds ++ [])).vars [] := by
    intro sp
    rw [List.append_nil, e3, hv]
    rfl
  have hold : ∀ x ∈ p, (fun b => decide (b < W.heap.size)) x.block = true := fun x hx => by simpa using hlt x hx
  refine ⟨ds, [], p, [], p, [], hW', hres _ _ _, hargs _ hold, hvars _, World.keptBut_mono (fun x hx => ⟨hx, Or.inr (by simpa using hx)⟩) (hb.frame (· ∈ p)), fun h => by cases h⟩

/-- A vector that is handed in: two integers. -/
theorem open_vec {t tv : TypeId} {f0 f1 : Field} (hs : P.underlying t = some (.struct #[f0, f1])) (h0 : f0.type = tv) (h1 : f1.type = tv) (hv : P.underlying tv = some (.int .i64)) (hone : Go.Deep.oneCellFields P #[f0, f1] = true) (hC : P.cellsOf t = 2)
    {r : Reach} {b0 : Nat} {W : World} {base : Nat} {sp : Nat → Bool} {held : Bool} {v : Value} {d : DataW H} {p : List MemPlace} (ho : Value.okWide P W r b0 t v) (h : DataW.Trod enc P W base sp held t v d p) :
    ∃ m c : Int, v = .agg #[.int .i64 m, .int .i64 c] ∧ (-9223372036854775808 ≤ m ∧ m ≤ 9223372036854775807) ∧ (-9223372036854775808 ≤ c ∧ c ≤ 9223372036854775807) := by
  obtain ⟨c0, c1, y0, y1, m, rfl, rfl, rfl, hy0, hy1⟩ := Joins.open_agg2 hs hone hC ho h
  rw [h0] at hy0; rw [h1] at hy1
  obtain ⟨a, e0, _, wa⟩ := DataW.trod_int hv hy0
  obtain ⟨b, e1, _, wb⟩ := DataW.trod_int hv hy1
  simp at e0 e1
  subst e0 e1
  exact ⟨a, b, rfl, by simpa [Lit.wf, IntKind.min, IntKind.max, IntKind.signed, IntKind.bits] using wa, by simpa [Lit.wf, IntKind.min, IntKind.max, IntKind.signed, IntKind.bits] using wb⟩

end



end Go.Proofs.Ytpcgeaphfpcghaa

namespace Go.Proofs.Ytpcgeaphfpcghaa
open Go.ChangeShapes Go.WideShapes Go.ChangeAt Go.RowKit
attribute [local irreducible] Go.Calls

/-- Bytes as a string's value. -/
abbrev strV (l : List UInt8) : Value := .string ⟨l.toArray⟩
def tk0 : Tok := ⟨0, [], 0, 0⟩
/-- A token's value. -/
abbrev tokV (t : Tok) : Value := .agg #[.int .u8 t.kind, strV t.text, .int .i64 t.num, .int .i64 t.pos]
/-- The tokens that a slice's cells hold. -/
def CellsT (w : World) (b off : Nat) (l : List Tok) : Prop :=
  ∀ i, i < l.length → w.cell? ⟨b, off + i * 4, none⟩ = some (.int .u8 (l.getD i tk0).kind) ∧ w.cell? ⟨b, off + i * 4 + 1, none⟩ = some (strV (l.getD i tk0).text) ∧ w.cell? ⟨b, off + i * 4 + 2, none⟩ = some (.int .i64 (l.getD i tk0).num) ∧ w.cell? ⟨b, off + i * 4 + 3, none⟩ = some (.int .i64 (l.getD i tk0).pos)
/-- A slice that reads as the list: where it is not empty it lies in a block of the world's. -/
def ArgT (w : World) (a : Option Addr) (l : List Tok) : Prop := 0 < l.length → ∃ b off, a = some ⟨b, off, none⟩ ∧ b < w.heap.size ∧ CellsT w b off l
theorem CellsT.below {w w' : World} {b off B : Nat} {l : List Tok} (h : CellsT w b off l) (hb : Below B w w') (hB : b < B) : CellsT w' b off l := fun i hi => by
  obtain ⟨h1, h2, h3, h4⟩ := h i hi
  exact ⟨(hb.cell (p := ⟨b, _, none⟩) hB).trans h1, (hb.cell (p := ⟨b, _, none⟩) hB).trans h2, (hb.cell (p := ⟨b, _, none⟩) hB).trans h3, (hb.cell (p := ⟨b, _, none⟩) hB).trans h4⟩
theorem ArgT.past {w w' : World} {a : Option Addr} {l : List Tok} (h : ArgT w a l) (hb : Below w.heap.size w w') : ArgT w' a l := fun hl => by
  obtain ⟨b, off, e, h1, h2⟩ := h hl
  exact ⟨b, off, e, Nat.lt_of_lt_of_le h1 hb.size, h2.below hb h1⟩
theorem Try.infoTok : (Try.prog.info? 30).map (fun i => (i.zero, i.size, i.bytes)) = some (some (.agg #[.int .u8 0, .string ⟨#[]⟩, .int .i64 0, .int .i64 0]), 4, 40) := by kernel_rfl
/-- The cells of a list of tokens. -/
def cellsOfT : List Tok → List Value
  | [] => []
  | t :: r => .int .u8 t.kind :: strV t.text :: .int .i64 t.num :: .int .i64 t.pos :: cellsOfT r
theorem cellsOfT_len : ∀ l, (cellsOfT l).length = l.length * 4
  | [] => rfl
  | s :: r => by simp only [cellsOfT, List.length_cons, cellsOfT_len r]; omega
theorem cellsOfT_app : ∀ l r, cellsOfT (l ++ r) = cellsOfT l ++ cellsOfT r
  | [], _ => rfl
  | s :: l, r => by simp only [cellsOfT, List.cons_append, cellsOfT_app l r]
theorem cellsOfT_get : ∀ (l : List Tok) (i : Nat), i < l.length → (cellsOfT l)[i * 4]? = some (.int .u8 (l.getD i tk0).kind) ∧ (cellsOfT l)[i * 4 + 1]? = some (strV (l.getD i tk0).text) ∧ (cellsOfT l)[i * 4 + 2]? = some (.int .i64 (l.getD i tk0).num) ∧ (cellsOfT l)[i * 4 + 3]? = some (.int .i64 (l.getD i tk0).pos)
  | [], i, h => by simp at h
  | s :: l, 0, _ => ⟨rfl, rfl, rfl, rfl⟩
  | s :: l, i + 1, h => by
    obtain ⟨h1, h2, h3, h4⟩ := cellsOfT_get l i (by simp at h; omega)
    have e : ∀ j, (cellsOfT (s :: l))[(i + 1) * 4 + j]? = (cellsOfT l)[i * 4 + j]? := fun j => by
      simp only [cellsOfT]
      rw [show (i + 1) * 4 + j = i * 4 + j + 1 + 1 + 1 + 1 by omega]
      simp only [List.getElem?_cons_succ]
    exact ⟨(e 0).trans h1, (e 1).trans h2, (e 2).trans h3, (e 3).trans h4⟩
theorem new_cellsT (w : World) (cs : Array Value) (t : TypeId) : ∀ j u, cs.toList[j]? = some u → (w.alloc (.cells cs t)).cell? ((⟨w.heap.size, 0, none⟩ : Addr).add j) = some u := by
  intro j u h
  have e : ((⟨w.heap.size, 0, none⟩ : Addr).add j) = ⟨w.heap.size, j, none⟩ := by
    unfold Addr.add
    by_cases c : j = 0
    · subst c; simp
    · simp [c]
  rw [e, (Blk.made w cs t).cell j, ← h, Array.getElem?_toList]
/-- A slice value that reads as the list of tokens. -/
def SliT (w : World) (v : Value) (l : List Tok) : Prop := ∃ (a : Option Addr) (cap : Nat), v = .slice a l.length cap ∧ l.length ≤ cap ∧ cap ≤ 9223372036854775807 ∧ ArgT w a l
theorem SliT.past {w w' : World} {v : Value} {l : List Tok} (h : SliT w v l) (hb : Below w.heap.size w w') : SliT w' v l := by
  obtain ⟨a, cap, h1, h2, h3, h4⟩ := h
  exact ⟨a, cap, h1, h2, h3, h4.past hb⟩
theorem sliT_nil (w : World) : SliT w (.slice none 0 0) [] := ⟨none, 0, rfl, Nat.le_refl _, by omega, fun h => by simp at h⟩
/-- What a call has appended to reads as a slice. -/
theorem sliT_own {w : World} {base : Nat} {e : TypeId} {v : Value} {l : List Tok} (h : w.ownsRow base e 4 v l.length (cellsOfT l)) : SliT w v l := by
  obtain ⟨h1, h2 | ⟨g, cap, cur, rfl, h3, h4, h5, h6, h7, h8⟩⟩ := h
  · obtain ⟨rfl, h2⟩ := h2
    have : l = [] := List.eq_nil_of_length_eq_zero h2
    subst this
    exact sliT_nil w
  · refine ⟨some ⟨g, 0, none⟩, cap, rfl, h5, by unfold maxLen at h6; omega, fun _ => ⟨g, 0, rfl, lt_of_block h4, fun i hi => ?_⟩⟩
    have hg := cellsOfT_get l i hi
    have hc : ∀ j x, j < l.length * 4 → (cellsOfT l)[j]? = some x → w.cell? ⟨g, j, none⟩ = some x := fun j x hj hx => by
      have e : w.cell? ⟨g, j, none⟩ = cur[j]? := by simp [World.cell?, h4]
      rw [e, ← Array.getElem?_toList]
      rw [← h8, List.getElem?_take, if_pos hj] at hx
      exact hx
    simp only [Nat.zero_add]
    exact ⟨hc _ _ (by omega) hg.1, hc _ _ (by omega) hg.2.1, hc _ _ (by omega) hg.2.2.1, hc _ _ (by omega) hg.2.2.2⟩
/-- A new block of tokens reads as a slice. -/
theorem argT_blk {w : World} {p : Nat} {l : List Tok} {t : TypeId} (h : Blk w p (cellsOfT l).toArray t) : ArgT w (some ⟨p, 0, none⟩) l := fun _ =>
  ⟨p, 0, rfl, h.lt, fun i hi => by
    obtain ⟨h1, h2, h3, h4⟩ := cellsOfT_get l i hi
    simp only [Nat.zero_add]
    have q : ∀ j, w.cell? ⟨p, j, none⟩ = (cellsOfT l)[j]? := fun j => (h.cell j).trans (by simp)
    exact ⟨(q _).trans h1, (q _).trans h2, (q _).trans h3, (q _).trans h4⟩⟩
/-- What a call of Lex hands back, where the answer is known: the tokens, or the place of what is none, and the error. -/
def LexIs (w : World) (l : List Tok) (p : Nat) (er : Int) (e : Ending) (w' : World) : Prop := ∃ v : Value, e = .returned (.tuple #[v, .int .i64 p, .int .i64 er]) ∧ SliT w' v l ∧ Below w.heap.size w w'
/-- Lex, as the document has it. -/
def lexS (s : List UInt8) : List Tok × Nat × Int := if 4096 < s.length then ([], 0, 3) else match lexG 0 s with
  | .ok l => (l, 0, 0)
  | .error p => ([], p, 60)
/-- The same tokens, but for their places, or with them. -/
def noPos (t : Tok) : Tok := { t with pos := 0 }
def sameT (b : Bool) (l r : List Tok) : Bool := decide (if b then l = r else l.map noPos = r.map noPos)
end Go.Proofs.Ytpcgeaphfpcghaa

namespace Go.Proofs.Ytpcgeaphfpcghaa
open Go.ChangeShapes Go.WideShapes Go.ChangeAt Go.RowKit
attribute [local irreducible] Go.Calls

/-- The numbers that a slice's cells hold. -/
def CellsK (k : IntKind) (w : World) (b off : Nat) (l : List Int) : Prop := ∀ i, i < l.length → w.cell? ⟨b, off + i, none⟩ = some (.int k (l.getD i 0))
def ArgK (k : IntKind) (w : World) (a : Option Addr) (l : List Int) : Prop := 0 < l.length → ∃ b off, a = some ⟨b, off, none⟩ ∧ b < w.heap.size ∧ CellsK k w b off l
theorem CellsK.below {k : IntKind} {w w' : World} {b off B : Nat} {l : List Int} (h : CellsK k w b off l) (hb : Below B w w') (hB : b < B) : CellsK k w' b off l := fun i hi => (hb.cell (p := ⟨b, _, none⟩) hB).trans (h i hi)
theorem ArgK.past {k : IntKind} {w w' : World} {a : Option Addr} {l : List Int} (h : ArgK k w a l) (hb : Below w.heap.size w w') : ArgK k w' a l := fun hl => by
  obtain ⟨b, off, e, h1, h2⟩ := h hl
  exact ⟨b, off, e, Nat.lt_of_lt_of_le h1 hb.size, h2.below hb h1⟩
/-- The cells of a list of numbers. -/
def cellsK (k : IntKind) (l : List Int) : List Value := l.map (.int k)
theorem cellsK_app (k : IntKind) (l r : List Int) : cellsK k (l ++ r) = cellsK k l ++ cellsK k r := by unfold cellsK; rw [List.map_append]
theorem kgetD (l : List Int) (i : Nat) (h : i < l.length) : l.getD i 0 = l[i] := by rw [List.getD_eq_getElem?_getD, List.getElem?_eq_getElem h]; rfl
theorem cellsK_get {k : IntKind} {l : List Int} {i : Nat} (h : i < l.length) : (cellsK k l)[i]? = some (.int k (l.getD i 0)) := by
  unfold cellsK
  rw [List.getElem?_map, List.getElem?_eq_getElem h, kgetD _ _ h]; rfl
/-- What a call has appended to reads as a slice. -/
theorem argK_own {k : IntKind} {w : World} {base : Nat} {e : TypeId} {v : Value} {l : List Int} (h : w.ownsRow base e 1 v l.length (cellsK k l)) : ∃ a cap, v = .slice a l.length cap ∧ ArgK k w a l := by
  obtain ⟨h1, h2 | ⟨g, cap, cur, rfl, h3, h4, h5, h6, h7, h8⟩⟩ := h
  · obtain ⟨rfl, h2⟩ := h2
    have : l = [] := List.eq_nil_of_length_eq_zero h2
    subst this
    exact ⟨none, 0, rfl, fun h => by simp at h⟩
  · refine ⟨some ⟨g, 0, none⟩, cap, rfl, fun _ => ⟨g, 0, rfl, lt_of_block h4, fun i hi => ?_⟩⟩
    have hg := cellsK_get (k := k) hi
    have e : w.cell? ⟨g, 0 + i, none⟩ = cur[i]? := by simp [World.cell?, h4]
    rw [e, ← Array.getElem?_toList]
    rw [← h8, List.getElem?_take, if_pos (by omega)] at hg
    exact hg
end Go.Proofs.Ytpcgeaphfpcghaa

namespace Go.Proofs.Ytpcgeaphfpcghaa
open Go.ChangeShapes Go.WideShapes Go.ChangeAt Go.RowKit
section
variable {H : Type} {enc : TypeId × Value → H} {P : Program}
theorem open_ks {k : IntKind} {ts ti : TypeId} {W : World} {v : Value} {d : DataW H} {p : List MemPlace} (hs : P.underlying ts = some (.slice ti)) (ci : P.cellsOf ti = 1) (hi : P.underlying ti = some (.int k))
    {r : Reach} {b0 : Nat} (ho : Value.okWide P W r b0 ts v) (h : DataW.Trod enc P W 0 (fun _ => true) true ts v d p) :
    ∃ (l : List Int) (a : Option Addr) (cap : Nat), v = .slice a l.length cap ∧ l.length ≤ 9223372036854775807 ∧ ArgK k W a l ∧ ∀ z ∈ l, (Lit.int k z).wf = true := by
  obtain ⟨a, len, cap, rfl⟩ := okWide_slice hs ho
  obtain ⟨fuel, hf⟩ := h
  rcases Deep.open_slice (cs := [.slice a len cap]) hs hf with ⟨hcs, _⟩ | ⟨a', len', cap', m, n, D, Pl, hcs, _, hlc, hcm, hm, _, hx⟩
  · simp at hcs
    obtain ⟨rfl, rfl, rfl⟩ := hcs
    exact ⟨[], none, 0, rfl, by simp, fun h => by simp at h, fun z hz => by simp at hz⟩
  · simp at hcs
    obtain ⟨rfl, rfl, rfl⟩ := hcs
    have hlen : len ≤ m := by rw [hm]; simpa using hlc
    have each : ∀ i, i < len → ∃ z : Int, W.cell? (a'.add i) = some (.int k z) ∧ (Lit.int k z).wf = true := fun i hi' => by
      obtain ⟨cs', hc, ht⟩ := hx i (by omega)
      rw [ci] at hc
      obtain ⟨_, hcl, hat⟩ := World.cells?_some hc
      obtain ⟨z, ez, _, wz⟩ := DataW.trod_int hi ht
      subst ez
      have a0 := hat 0 (by omega)
      simp at a0
      refine ⟨z, ?_, wz⟩
      have ea : ((a'.add i).add 0) = a'.add i := by simp [Addr.add]
      first | exact a0 | (rw [ea] at a0; exact a0)
    obtain ⟨F, hF⟩ := Deep.choose_lt each
    refine ⟨(List.range len).map F, some a', cap, by simp, by simp; unfold maxLen at hcm; omega, fun hl => ?_, fun z hz => ?_⟩
    · simp at hl
      have hc00 := (hF 0 hl).1
      obtain ⟨b, off, spot⟩ := a'
      have hsp : spot = none := by
        cases spot with
        | none => rfl
        | some s => simp [Addr.add, World.cell?] at hc00; split at hc00 <;> simp at hc00
      subst hsp
      have hb : b < W.heap.size := by
        apply Nat.lt_of_not_le
        intro hge
        simp [Addr.add, World.cell?, Array.getElem?_eq_none hge] at hc00
      refine ⟨b, off, rfl, hb, fun i hi => ?_⟩
      have hi' : i < len := by simpa using hi
      have hg : ((List.range len).map F).getD i 0 = F i := by simp [List.getD_eq_getElem?_getD, hi']
      have h1 := (hF i hi').1
      have ad : (⟨b, off, none⟩ : Addr).add i = ⟨b, off + i, none⟩ := by
        unfold Addr.add
        by_cases c : i = 0
        · subst c; simp
        · simp [c]
      rw [ad] at h1
      rw [hg]
      exact h1
    · obtain ⟨i, hi, rfl⟩ := List.mem_map.1 hz
      exact (hF i (List.mem_range.1 hi)).2
end
theorem cellsU64 : Try.prog.cellsOf 37 = 1 := by kernel_rfl
set_option maxRecDepth 100000 in
theorem open_u64lP {H : Type} {enc : TypeId × Value → H} {W : World} {v : Value} {d : DataW H} {p : List MemPlace} {r : Reach} {b0 : Nat} (ho : Value.okWide Try.prog W r b0 35 v) (h : DataW.Trod enc Try.prog W 0 (fun _ => true) true 35 v d p) :
    ∃ (l : List Int) (a : Option Addr) (cap : Nat), v = .slice a l.length cap ∧ l.length ≤ 9223372036854775807 ∧ ArgK .u64 W a l ∧ ∀ z ∈ l, 0 ≤ z ∧ z ≤ 18446744073709551615 := by
  obtain ⟨l, a, cap, h1, h2, h3, h4⟩ := open_ks (P := Try.prog) Try.underlying35 cellsU64 Try.underlying37 ho h
  exact ⟨l, a, cap, h1, h2, h3, fun z hz => by have := h4 z hz; simpa [Lit.wf, IntKind.min, IntKind.max, IntKind.signed, IntKind.bits] using this⟩
theorem cellsU8 : Try.prog.cellsOf 5 = 1 := by kernel_rfl
set_option maxRecDepth 100000 in
theorem open_u8lP {H : Type} {enc : TypeId × Value → H} {W : World} {v : Value} {d : DataW H} {p : List MemPlace} {r : Reach} {b0 : Nat} (ho : Value.okWide Try.prog W r b0 33 v) (h : DataW.Trod enc Try.prog W 0 (fun _ => true) true 33 v d p) :
    ∃ (l : List Int) (a : Option Addr) (cap : Nat), v = .slice a l.length cap ∧ l.length ≤ 9223372036854775807 ∧ ArgK .u8 W a l ∧ ∀ z ∈ l, 0 ≤ z ∧ z ≤ 255 := by
  obtain ⟨l, a, cap, h1, h2, h3, h4⟩ := open_ks (P := Try.prog) Try.underlying33 cellsU8 Try.underlying5 ho h
  exact ⟨l, a, cap, h1, h2, h3, fun z hz => by have := h4 z hz; simpa [Lit.wf, IntKind.min, IntKind.max, IntKind.signed, IntKind.bits] using this⟩
end Go.Proofs.Ytpcgeaphfpcghaa

namespace Go.Proofs.Ytpcgeaphfpcghaa
open Go.ChangeShapes Go.WideShapes Go.ChangeAt Go.RowKit
attribute [local irreducible] Go.Calls

def ltrI (x : Int) : Bool := decide (97 ≤ x ∧ x ≤ 122)
def dgtI (x : Int) : Bool := decide (48 ≤ x ∧ x ≤ 57)
def whtI (x : Int) : Bool := decide (x = 32 ∨ x = 9 ∨ x = 10 ∨ x = 13)
theorem ltrI_of (c : UInt8) : ltrI c.toNat = letterB c := by
  unfold ltrI letterB
  rw [Bool.eq_iff_iff, Bool.and_eq_true, decide_eq_true_iff, decide_eq_true_iff, decide_eq_true_iff, UInt8.le_iff_toNat_le, UInt8.le_iff_toNat_le, show (97 : UInt8).toNat = 97 from rfl, show (122 : UInt8).toNat = 122 from rfl]
  omega
theorem dgtI_of (c : UInt8) : dgtI c.toNat = digitB c := by
  unfold dgtI digitB
  rw [Bool.eq_iff_iff, Bool.and_eq_true, decide_eq_true_iff, decide_eq_true_iff, decide_eq_true_iff, UInt8.le_iff_toNat_le, UInt8.le_iff_toNat_le, show (48 : UInt8).toNat = 48 from rfl, show (57 : UInt8).toNat = 57 from rfl]
  omega
theorem whtI_of (c : UInt8) : whtI c.toNat = whiteB c := by
  unfold whtI whiteB
  rw [Bool.eq_iff_iff]
  simp only [decide_eq_true_iff, Bool.or_eq_true, beq_iff_eq, ← UInt8.toNat_inj]
  simp only [show (32 : UInt8).toNat = 32 from rfl, show (9 : UInt8).toNat = 9 from rfl, show (10 : UInt8).toNat = 10 from rfl, show (13 : UInt8).toNat = 13 from rfl]
  omega
theorem ltrI_c (x : Int) (w : World) : Calls Try.prog 23 #[.int .u8 x] w fun e w' => e = .returned (.bool (ltrI x)) ∧ w' = w := by
  by_cases h1 : 97 ≤ x
  · have HE := hidE (show ltrI x = decide (x ≤ 122) by unfold ltrI; rw [decide_eq_decide]; omega)
    have d1 : decide (97 ≤ x) = true := decide_eq_true h1
    rw [HE.out]
    clear h1
    go_enter Try.func23, Try.ntmps23
    go_wp2
    go_ret
    exact ⟨rfl, rfl⟩
  · have HE := hidE (show ltrI x = false by unfold ltrI; exact decide_eq_false (by omega))
    have d1 : decide (97 ≤ x) = false := decide_eq_false h1
    rw [HE.out]
    clear h1
    go_enter Try.func23, Try.ntmps23
    go_wp2
    go_ret
    exact ⟨rfl, rfl⟩
theorem dgtI_c (x : Int) (w : World) : Calls Try.prog 22 #[.int .u8 x] w fun e w' => e = .returned (.bool (dgtI x)) ∧ w' = w := by
  by_cases h1 : 48 ≤ x
  · have HE := hidE (show dgtI x = decide (x ≤ 57) by unfold dgtI; rw [decide_eq_decide]; omega)
    have d1 : decide (48 ≤ x) = true := decide_eq_true h1
    rw [HE.out]
    clear h1
    go_enter Try.func22, Try.ntmps22
    go_wp2
    go_ret
    exact ⟨rfl, rfl⟩
  · have HE := hidE (show dgtI x = false by unfold dgtI; exact decide_eq_false (by omega))
    have d1 : decide (48 ≤ x) = false := decide_eq_false h1
    rw [HE.out]
    clear h1
    go_enter Try.func22, Try.ntmps22
    go_wp2
    go_ret
    exact ⟨rfl, rfl⟩
/-- Whether a run ends ahead of a byte, and whether it is white. -/
theorem class_i (x : Int) (w : World) : Calls Try.prog 28 #[.int .u8 x] w fun e w' => e = .returned (.tuple #[.bool (!(ltrI x || dgtI x)), .bool (whtI x)]) ∧ w' = w := by
  by_cases h1 : x = 32
  · subst h1
    rw [show ltrI 32 = false from rfl, show dgtI 32 = false from rfl]
    have HE : Hid (whtI 32 = decide (32 ≠ (40 : Nat) ∧ 32 ≠ (41 : Nat) ∧ 32 ≠ (58 : Nat))) := hidE (by decide)
    rw [HE.out]
    go_enter Try.func28, Try.ntmps28
    go_wp2
    go_ret2
    exact ⟨rfl, rfl⟩
  by_cases h2 : x = 9
  · subst h2
    rw [show ltrI 9 = false from rfl, show dgtI 9 = false from rfl]
    have HE : Hid (whtI 9 = decide (9 ≠ (40 : Nat) ∧ 9 ≠ (41 : Nat) ∧ 9 ≠ (58 : Nat))) := hidE (by decide)
    rw [HE.out]
    go_enter Try.func28, Try.ntmps28
    go_wp2
    go_ret2
    exact ⟨rfl, rfl⟩
  by_cases h3 : x = 10
  · subst h3
    rw [show ltrI 10 = false from rfl, show dgtI 10 = false from rfl]
    have HE : Hid (whtI 10 = decide (10 ≠ (40 : Nat) ∧ 10 ≠ (41 : Nat) ∧ 10 ≠ (58 : Nat))) := hidE (by decide)
    rw [HE.out]
    go_enter Try.func28, Try.ntmps28
    go_wp2
    go_ret2
    exact ⟨rfl, rfl⟩
  by_cases h4 : x = 13
  · subst h4
    rw [show ltrI 13 = false from rfl, show dgtI 13 = false from rfl]
    have HE : Hid (whtI 13 = decide (13 ≠ (40 : Nat) ∧ 13 ≠ (41 : Nat) ∧ 13 ≠ (58 : Nat))) := hidE (by decide)
    rw [HE.out]
    go_enter Try.func28, Try.ntmps28
    go_wp2
    go_ret2
    exact ⟨rfl, rfl⟩
  by_cases h5 : x = 40
  · subst h5
    rw [show ltrI 40 = false from rfl, show dgtI 40 = false from rfl]
    have HE : Hid (whtI 40 = decide (40 ≠ (40 : Nat) ∧ 40 ≠ (41 : Nat) ∧ 40 ≠ (58 : Nat))) := hidE (by decide)
    rw [HE.out]
    go_enter Try.func28, Try.ntmps28
    go_wp2
    go_ret2
    exact ⟨rfl, rfl⟩
  by_cases h6 : x = 41
  · subst h6
    rw [show ltrI 41 = false from rfl, show dgtI 41 = false from rfl]
    have HE : Hid (whtI 41 = decide (41 ≠ (40 : Nat) ∧ 41 ≠ (41 : Nat) ∧ 41 ≠ (58 : Nat))) := hidE (by decide)
    rw [HE.out]
    go_enter Try.func28, Try.ntmps28
    go_wp2
    go_ret2
    exact ⟨rfl, rfl⟩
  by_cases h7 : x = 58
  · subst h7
    rw [show ltrI 58 = false from rfl, show dgtI 58 = false from rfl]
    have HE : Hid (whtI 58 = decide (58 ≠ (40 : Nat) ∧ 58 ≠ (41 : Nat) ∧ 58 ≠ (58 : Nat))) := hidE (by decide)
    rw [HE.out]
    go_enter Try.func28, Try.ntmps28
    go_wp2
    go_ret2
    exact ⟨rfl, rfl⟩
  have HE := hidE (show whtI x = false by unfold whtI; exact decide_eq_false (by omega))
  have HL := hidE (fun w => ltrI_c x w); have HD := hidE (fun w => dgtI_c x w)
  have e1 : (x == 32) = false := beq_eq_false_iff_ne.2 h1
  have e2 : (x == 9) = false := beq_eq_false_iff_ne.2 h2
  have e3 : (x == 10) = false := beq_eq_false_iff_ne.2 h3
  have e4 : (x == 13) = false := beq_eq_false_iff_ne.2 h4
  have e5 : (x == 40) = false := beq_eq_false_iff_ne.2 h5
  have e6 : (x == 41) = false := beq_eq_false_iff_ne.2 h6
  have e7 : (x == 58) = false := beq_eq_false_iff_ne.2 h7
  rw [HE.out]
  clear h1 h2 h3 h4 h5 h6 h7
  generalize ltrI x = bl at *
  generalize dgtI x = bd at *
  cases bl
  · cases bd
    all_goals
      go_enter Try.func28, Try.ntmps28
      go_wp2_with (first | (go_at_call 23; (with_reducible refine (HL.out _).mono ?_); rintro e w' ⟨rfl, rfl⟩) | (go_at_call 22; (with_reducible refine (HD.out _).mono ?_); rintro e w' ⟨rfl, rfl⟩))
      go_ret2
      exact ⟨rfl, rfl⟩
  · go_enter Try.func28, Try.ntmps28
    go_wp2_with (first | (go_at_call 23; (with_reducible refine (HL.out _).mono ?_); rintro e w' ⟨rfl, rfl⟩) | (go_at_call 22; (with_reducible refine (HD.out _).mono ?_); rintro e w' ⟨rfl, rfl⟩))
    go_ret2
    exact ⟨rfl, rfl⟩
theorem class_c (c : UInt8) (w : World) : Calls Try.prog 28 #[.int .u8 c.toNat] w fun e w' => e = .returned (.tuple #[.bool (!alnumB c), .bool (whiteB c)]) ∧ w' = w := by
  have := class_i c.toNat w
  rw [ltrI_of, dgtI_of, whtI_of] at this
  exact this
theorem inrun_c (c : UInt8) (w : World) : Calls Try.prog 31 #[.int .u8 c.toNat] w fun e w' => e = .returned (.bool (alnumB c)) ∧ w' = w := by
  have HC := hidE (fun w => class_c c w)
  have HE := hidE (Bool.not_not (alnumB c))
  generalize alnumB c = b at *
  cases b
  all_goals
    go_enter Try.func31, Try.ntmps31
    go_wp2_with (go_at_call 28; (with_reducible refine (HC.out _).mono ?_); rintro e w' ⟨rfl, rfl⟩)
    go_ret
    exact ⟨rfl, rfl⟩
theorem letter_c (c : UInt8) (w : World) : Calls Try.prog 23 #[.int .u8 c.toNat] w fun e w' => e = .returned (.bool (letterB c)) ∧ w' = w := by
  rw [← ltrI_of]; exact ltrI_c _ w
theorem digit_c (c : UInt8) (w : World) : Calls Try.prog 22 #[.int .u8 c.toNat] w fun e w' => e = .returned (.bool (digitB c)) ∧ w' = w := by
  rw [← dgtI_of]; exact dgtI_c _ w
/-- Whether there is a blank between two kinds. -/
def apI (x y : Nat) : Bool := x != 2 && y != 3 && y != 4
theorem apart_c (x y : Nat) (w : World) : Calls Try.prog 18 #[.int .u8 x, .int .u8 y] w fun e w' => e = .returned (.bool (apI x y)) ∧ w' = w := by
  by_cases h1 : x = 2
  · subst h1
    rw [show apI 2 y = false from rfl]
    go_enter Try.func18, Try.ntmps18
    go_wp2
    go_ret
    exact ⟨rfl, rfl⟩
  have e1 : ((x : Int) != 2) = true := bne_iff_ne.2 (by omega)
  by_cases h2 : y = 3
  · subst h2
    rw [show apI x 3 = false by unfold apI; simp]
    clear h1
    go_enter Try.func18, Try.ntmps18
    go_wp2
    go_ret
    exact ⟨rfl, rfl⟩
  have e2 : ((y : Int) != 3) = true := bne_iff_ne.2 (by omega)
  by_cases h3 : y = 4
  · subst h3
    rw [show apI x 4 = false by unfold apI; simp]
    clear h1 h2
    go_enter Try.func18, Try.ntmps18
    go_wp2
    go_ret
    exact ⟨rfl, rfl⟩
  have e3 : ((y : Int) != 4) = true := bne_iff_ne.2 (by omega)
  have HE := hidE (show apI x y = true by unfold apI; simp; omega)
  rw [HE.out]
  clear h1 h2 h3
  go_enter Try.func18, Try.ntmps18
  go_wp2
  go_ret
  exact ⟨rfl, rfl⟩
end Go.Proofs.Ytpcgeaphfpcghaa

namespace Go.Proofs.Ytpcgeaphfpcghaa

def whB (z : Int) : UInt8 := if z % 4 = 0 then 32 else if z % 4 = 1 then 9 else if z % 4 = 2 then 10 else 13
theorem whB_white (z : Int) : whiteB (whB z) = true := by
  unfold whB
  split
  · decide
  · split
    · decide
    · split <;> decide
def whL (l : List Int) : List UInt8 := l.map whB
theorem whL_len (l : List Int) : (whL l).length = l.length := by unfold whL; simp
theorem whL_white (l : List Int) : (whL l).all whiteB = true := by
  rw [List.all_eq_true]
  intro c hc
  obtain ⟨z, _, rfl⟩ := List.mem_map.1 hc
  exact whB_white z
theorem whL_take {l : List Int} {i : Nat} (h : i < l.length) : whL (l.take (i + 1)) = whL (l.take i) ++ [whB (l.getD i 0)] := by
  unfold whL
  rw [List.take_add_one, List.getElem?_eq_getElem h, List.map_append, List.getD_eq_getElem?_getD, List.getElem?_eq_getElem h]
  rfl
theorem wh_same (d k : Nat) (l : List Tok) : sameT false l (whiteG d k l) = true := by
  unfold sameT
  refine decide_eq_true ?_
  simp only [Bool.false_eq_true, if_false]
  unfold whiteG shiftG
  rw [List.map_append, List.map_map, show (noPos ∘ fun t : Tok => { t with pos := t.pos + d }) = noPos from rfl, ← List.map_append, List.take_append_drop]
theorem wh_len (d k : Nat) (l : List Tok) : (whiteG d k l).length = l.length := by
  unfold whiteG shiftG
  rw [List.length_append, List.length_map, List.length_take, List.length_drop]
  omega
theorem tgetD (l : List Tok) (i : Nat) (h : i < l.length) : l.getD i tk0 = l[i] := by rw [List.getD_eq_getElem?_getD, List.getElem?_eq_getElem h]; rfl
theorem wh_pos {d k : Nat} {l : List Tok} {i : Nat} (h : i < l.length) : ((whiteG d k l).getD i tk0).pos = if k ≤ i then (l.getD i tk0).pos + d else (l.getD i tk0).pos := by
  rw [tgetD _ _ (by rw [wh_len]; exact h), tgetD _ _ h]
  unfold whiteG shiftG
  by_cases c : k ≤ i
  · rw [if_pos c, List.getElem_append_right (by rw [List.length_take]; omega), List.getElem_map, List.getElem_drop]
    simp only [List.length_take]
    congr 3
    omega
  · rw [if_neg c, List.getElem_append_left (by rw [List.length_take]; omega), List.getElem_take]
theorem wh_put {s : List UInt8} {l : List Tok} {k : Nat} {m : List UInt8} (h : lexG 0 s = .ok l) (hm : m.all whiteB = true) (hk : k < l.length) :
    lexG 0 (s.take (l.getD k tk0).pos ++ m ++ s.drop (l.getD k tk0).pos) = .ok (whiteG m.length k l) := by
  rw [List.append_assoc]
  exact lex_white h hm (by rw [List.getElem?_eq_getElem hk, tgetD _ _ hk])
theorem lex_pos {s : List UInt8} {l : List Tok} {k : Nat} (h : lexG 0 s = .ok l) (hk : k < l.length) : (l.getD k tk0).pos + (l.getD k tk0).text.length ≤ s.length := by
  have := (spells_pos l 0 s k (l.getD k tk0) (lexG_spells s.length s 0 l (Nat.le_refl _) h) (by rw [List.getElem?_eq_getElem hk, tgetD _ _ hk])).2
  omega
/-- There are no more tokens than bytes. -/
theorem spells_count : ∀ (l : List Tok) (p : Nat) (s : List UInt8), Spells p s l → l.length ≤ s.length
  | [], _, _, _ => by simp
  | t :: l, p, s, ⟨w, r, e, h1, h2, h3, h4, h5⟩ => by
    have ih := spells_count l _ r h5
    obtain ⟨c, r', e2⟩ := text_head h3
    rw [e, e2]
    simp only [List.length_append, List.length_cons]
    omega
theorem lex_count {s : List UInt8} {l : List Tok} (h : lexG 0 s = .ok l) : l.length ≤ s.length := spells_count l 0 s (lexG_spells s.length s 0 l (Nat.le_refl _) h)
/-- Pieces of a text. -/
theorem str_take (s : List UInt8) (p : Nat) : (⟨s.toArray⟩ : ByteArray).extract 0 p = ⟨(s.take p).toArray⟩ := by
  rw [ByteArray.ext_iff, ByteArray.data_extract]
  simp
theorem str_drop (s : List UInt8) (p : Nat) (n : Nat) (hn : n = s.length) : (⟨s.toArray⟩ : ByteArray).extract p n = ⟨(s.drop p).toArray⟩ := by
  rw [ByteArray.ext_iff, ByteArray.data_extract]
  subst hn
  simp
  exact List.take_of_length_le (by rw [List.length_drop]; exact Nat.le_refl _)
theorem str_mid (s : List UInt8) (p q : Nat) : (⟨s.toArray⟩ : ByteArray).extract p q = ⟨((s.drop p).take (q - p)).toArray⟩ := by
  rw [ByteArray.ext_iff, ByteArray.data_extract]
  simp
end Go.Proofs.Ytpcgeaphfpcghaa

namespace Go.Proofs.Ytpcgeaphfpcghaa

/-- Where a token's search begins, and where it must end. -/
def begT (p : Nat) (l : List Tok) (i : Nat) : Nat := if i = 0 then p else (l.getD (i - 1) tk0).pos + (l.getD (i - 1) tk0).text.length
def endT (p : Nat) (s : List UInt8) (l : List Tok) (i : Nat) : Nat := if i < l.length then (l.getD i tk0).pos else p + s.length
structure TokAt (p : Nat) (s : List UInt8) (l : List Tok) (i : Nat) : Prop where
  p0 : p ≤ begT p l i
  le : begT p l i ≤ endT p s l i
  ls : endT p s l i ≤ p + s.length
  white : ∀ q, begT p l i ≤ q → q < endT p s l i → whiteB (s.getD (q - p) 0) = true
  pos : i < l.length → 0 < (l.getD i tk0).text.length
  fit : i < l.length → (l.getD i tk0).pos + (l.getD i tk0).text.length ≤ p + s.length
  text : i < l.length → (s.drop ((l.getD i tk0).pos - p)).take (l.getD i tk0).text.length = (l.getD i tk0).text
theorem all_getD {f : UInt8 → Bool} {s : List UInt8} (h : s.all f = true) {i : Nat} (hi : i < s.length) : f (s.getD i 0) = true := by
  rw [List.all_eq_true] at h
  rw [List.getD_eq_getElem?_getD, List.getElem?_eq_getElem hi]
  exact h _ (List.getElem_mem hi)
theorem getD_app1 {a b : List UInt8} {i : Nat} (h : i < a.length) : (a ++ b).getD i 0 = a.getD i 0 := by
  simp only [List.getD_eq_getElem?_getD]
  rw [List.getElem?_append_left h]
theorem getD_app2 {a b : List UInt8} {i : Nat} (h : a.length ≤ i) : (a ++ b).getD i 0 = b.getD (i - a.length) 0 := by
  simp only [List.getD_eq_getElem?_getD]
  rw [List.getElem?_append_right h]
theorem spells_at : ∀ (l : List Tok) (p : Nat) (s : List UInt8), Spells p s l → ∀ i, i ≤ l.length → TokAt p s l i
  | [], p, s, h, i, hi => by
    have h' : s.all whiteB = true := h
    have h0 : i = 0 := by simpa using hi
    subst h0
    have e1 : begT p [] 0 = p := rfl
    have e2 : endT p s [] 0 = p + s.length := rfl
    refine ⟨by rw [e1]; exact Nat.le_refl _, by rw [e1, e2]; omega, by rw [e2]; exact Nat.le_refl _, fun q h1 h2 => ?_, fun h => by simp at h, fun h => by simp at h, fun h => by simp at h⟩
    rw [e1] at h1; rw [e2] at h2
    exact all_getD h' (by omega)
  | t :: l, p, s, ⟨w, r, e, h1, h2, h3, h4, h5⟩, 0, _ => by
    have e1 : begT p (t :: l) 0 = p := rfl
    have e2 : endT p s (t :: l) 0 = t.pos := rfl
    have e3 : (t :: l).getD 0 tk0 = t := rfl
    obtain ⟨c, r', ec⟩ := text_head h3
    have hl := congrArg List.length e
    simp only [List.length_append] at hl
    refine ⟨by rw [e1]; exact Nat.le_refl _, by rw [e1, e2]; omega, by rw [e2]; omega, fun q q1 q2 => ?_, fun _ => by rw [e3, ec]; simp, fun _ => by rw [e3]; omega, fun _ => ?_⟩
    · rw [e1] at q1; rw [e2] at q2
      rw [e, List.append_assoc, getD_app1 (by omega)]
      exact all_getD h1 (by omega)
    · rw [e3, h2, show p + w.length - p = w.length by omega, e, List.append_assoc, List.drop_left' rfl, List.take_left' rfl]
  | t :: l, p, s, ⟨w, r, e, h1, h2, h3, h4, h5⟩, i + 1, hi => by
    simp only [List.length_cons] at hi
    have ih := spells_at l _ r h5 i (by omega)
    have hl := congrArg List.length e
    simp only [List.length_append] at hl
    have e1 : begT p (t :: l) (i + 1) = begT (p + w.length + t.text.length) l i := by
      unfold begT
      rw [if_neg (by omega)]
      cases i with
      | zero => rw [if_pos rfl]; show t.pos + t.text.length = _; omega
      | succ i => rw [if_neg (by omega)]; rfl
    have e2 : endT p s (t :: l) (i + 1) = endT (p + w.length + t.text.length) r l i := by
      unfold endT
      by_cases c : i < l.length
      · rw [if_pos c, if_pos (by simp only [List.length_cons]; omega)]; rfl
      · rw [if_neg c, if_neg (by simp only [List.length_cons]; omega)]; omega
    have e3 : (t :: l).getD (i + 1) tk0 = l.getD i tk0 := rfl
    have hp0 := ih.p0
    have hls := ih.ls
    refine ⟨by rw [e1]; omega, by rw [e1, e2]; exact ih.le, by rw [e2]; omega, fun q q1 q2 => ?_, fun h => by rw [e3]; exact ih.pos (by simpa using h), fun h => by rw [e3]; have := ih.fit (by simpa using h); omega, fun h => ?_⟩
    · rw [e1] at q1; rw [e2] at q2
      have := ih.white q q1 q2
      rw [e, getD_app2 (by rw [List.length_append]; omega), List.length_append, show q - p - (w.length + t.text.length) = q - (p + w.length + t.text.length) by omega]
      exact this
    · have hi' : i < l.length := by simpa using h
      have := ih.text hi'
      have hpi : begT (p + w.length + t.text.length) l i ≤ (l.getD i tk0).pos := by
        have := ih.le
        unfold endT at this
        rw [if_pos hi'] at this
        exact this
      rw [e3, e, show (l.getD i tk0).pos - p = (w ++ t.text).length + ((l.getD i tk0).pos - (p + w.length + t.text.length)) by rw [List.length_append]; omega, List.drop_length_add_append]
      exact this
theorem lex_at {s : List UInt8} {l : List Tok} (h : lexG 0 s = .ok l) {i : Nat} (hi : i ≤ l.length) : TokAt 0 s l i := spells_at l 0 s (lexG_spells s.length s 0 l (Nat.le_refl _) h) i hi
/-- The text of tokens is not so long. -/
theorem textG_cons (t : Tok) (l : List Tok) : (textG (t :: l)).length ≤ t.text.length + 1 + (textG l).length := by
  cases l with
  | nil => simp only [textG, List.length_nil]; omega
  | cons u l =>
    show (t.text ++ (if gapB t u then 32 :: textG (u :: l) else textG (u :: l))).length ≤ _
    rw [List.length_append]
    split
    · simp only [List.length_cons]; omega
    · omega
theorem spells_text : ∀ (l : List Tok) (p : Nat) (s : List UInt8), Spells p s l → (textG l).length ≤ 2 * s.length
  | [], _, _, _ => by simp [textG]
  | t :: l, p, s, ⟨w, r, e, h1, h2, h3, h4, h5⟩ => by
    have ih := spells_text l _ r h5
    have := textG_cons t l
    obtain ⟨c, r', ec⟩ := text_head h3
    have hl := congrArg List.length e
    have hc := congrArg List.length ec
    simp only [List.length_append, List.length_cons] at hl hc
    omega
theorem lex_text {s : List UInt8} {l : List Tok} (h : lexG 0 s = .ok l) : (textG l).length ≤ 2 * s.length := spells_text l 0 s (lexG_spells s.length s 0 l (Nat.le_refl _) h)
theorem place_same : ∀ (l : List Tok) (p : Nat), (placeG p l).map noPos = l.map noPos
  | [], _ => rfl
  | [t], _ => rfl
  | t :: u :: l, p => by
    have ih := place_same (u :: l) (p + t.text.length + (if gapB t u then 1 else 0))
    show noPos { t with pos := p } :: (placeG _ (u :: l)).map noPos = noPos t :: (u :: l).map noPos
    rw [ih]
    rfl
theorem place_len (l : List Tok) (p : Nat) : (placeG p l).length = l.length := by
  have := congrArg List.length (place_same l p)
  simpa using this
theorem back_same (l : List Tok) : sameT false l (placeG 0 l) = true := by
  unfold sameT
  refine decide_eq_true ?_
  simp only [Bool.false_eq_true, if_false]
  exact (place_same l 0).symm
theorem byte_at (s : List UInt8) {q : Nat} (h : q < (⟨s.toArray⟩ : ByteArray).size) : (⟨s.toArray⟩ : ByteArray)[q]'h = s.getD q 0 := by
  have h2 : q < s.length := by simpa [ByteArray.size] using h
  rw [List.getD_eq_getElem?_getD, List.getElem?_eq_getElem h2]
  rfl
end Go.Proofs.Ytpcgeaphfpcghaa

namespace Go.Proofs.Ytpcgeaphfpcghaa
open Go.ChangeShapes Go.WideShapes Go.ChangeAt Go.RowKit
attribute [local irreducible] Go.Calls

theorem tw_at (p : UInt8 → Bool) : ∀ (l : List UInt8) (j : Nat), j < (l.takeWhile p).length → j < l.length ∧ p (l.getD j 0) = true
  | [], j, h => by simp at h
  | c :: r, j, h => by
    rw [List.takeWhile_cons] at h
    cases hc : p c
    · rw [hc] at h; simp at h
    · rw [hc, if_pos rfl] at h
      cases j with
      | zero => exact ⟨by simp, hc⟩
      | succ j =>
        have := tw_at p r j (by simp only [List.length_cons] at h; omega)
        exact ⟨by simp only [List.length_cons]; omega, this.2⟩
theorem tw_end (p : UInt8 → Bool) : ∀ (l : List UInt8), (l.takeWhile p).length < l.length → p (l.getD (l.takeWhile p).length 0) = false
  | [], h => by simp at h
  | c :: r, h => by
    rw [List.takeWhile_cons] at h ⊢
    cases hc : p c
    · simpa using hc
    · rw [hc, if_pos rfl] at h
      rw [if_pos rfl]
      exact tw_end p r (by simp only [List.length_cons] at h; omega)
theorem getD_drop (s : List UInt8) (k j : Nat) : (s.drop k).getD j 0 = s.getD (k + j) 0 := by
  rw [List.getD_eq_getElem?_getD, List.getElem?_drop, ← List.getD_eq_getElem?_getD]
/-- How far a run goes. -/
def rlen (s : List UInt8) (k : Nat) : Nat := ((s.drop k).takeWhile alnumB).length
theorem rlen_in {s : List UInt8} {k j : Nat} (h : j < rlen s k) : k + j < s.length ∧ alnumB (s.getD (k + j) 0) = true := by
  have := tw_at alnumB (s.drop k) j h
  rw [getD_drop, List.length_drop] at this
  exact ⟨by omega, this.2⟩
theorem rlen_end {s : List UInt8} {k : Nat} (h : k + rlen s k < s.length) : alnumB (s.getD (k + rlen s k) 0) = false := by
  have := tw_end alnumB (s.drop k) (by rw [List.length_drop]; unfold rlen at h; omega)
  rw [getD_drop] at this
  exact this
theorem rlen_le {s : List UInt8} {k : Nat} (h : k ≤ s.length) : k + rlen s k ≤ s.length := by
  have := takeWhile_len (p := alnumB) (s.drop k)
  rw [List.length_drop] at this
  unfold rlen; omega
set_option maxHeartbeats 1000000 in
theorem behind_c (s : List UInt8) (k : Nat) (w : World) (hs : s.length ≤ 1000000000) (hk : k < s.length) : Calls Try.prog 27 #[strV s, .int .i64 k] w fun e w' => e = .returned (.int .i64 (bhd s k)) ∧ w' = w := by
  have slen : (⟨s.toArray⟩ : ByteArray).size = s.length := by simp [ByteArray.size]
  have HRL := hidE (rlen_le (s := s) (k := k) (by omega))
  have HBD := hidE (show bhd s k = max (k + rlen s k) (k + 1) from rfl)
  go_enter Try.func27, Try.ntmps27
  go_wp2
  go_loopg [5] (s.length - k) (fun gh v5 wr => ∃ j : Nat, j ≤ rlen s k ∧ rlen s k - j ≤ gh ∧ v5 = .int .i64 ((k + j : Nat) : Int) ∧ wr = w)
  case atStart => exact ⟨0, Nat.zero_le _, by have := HRL.out; omega, by simp, rfl⟩
  case round =>
    obtain ⟨j, hj, hgh, rfl, rfl⟩ := hrel
    by_cases hlt : j < rlen s k
    · obtain ⟨q1, q2⟩ := rlen_in hlt
      have HIN := hidE (fun (h : k + j < (⟨s.toArray⟩ : ByteArray).size) w => show Calls Try.prog 31 #[.int .u8 ((⟨s.toArray⟩ : ByteArray)[k + j]'h).toNat] w fun e w' => e = .returned (.bool true) ∧ w' = w from by
        have := inrun_c ((⟨s.toArray⟩ : ByteArray)[k + j]'h) w
        rw [byte_at s h, q2] at this
        rw [byte_at s h]
        exact this)
      generalize hm : k + j = m at *
      have d1 : decide ((m : Int) < (s.length : Int)) = true := decide_eq_true (by omega)
      have d1' : decide (m < s.length) = true := decide_eq_true q1
      clear q2
      go_wp2_with (go_at_call 31; (with_reducible refine (HIN.out _ _).mono ?_); rintro e w' ⟨rfl, rfl⟩)
      go_roundg (rlen s k - (j + 1))
      case measure => omega
      case rel => exact ⟨j + 1, by omega, Nat.le_refl _, by rw [← Nat.add_assoc, hm]; go_num, rfl⟩
    · obtain rfl : j = rlen s k := by omega
      have hmax : ((bhd s k : Nat) : Int) = if ((k + rlen s k : Nat) : Int) < (k : Int) + 1 then (k : Int) + 1 else ((k + rlen s k : Nat) : Int) := by
        rw [HBD.out]
        split <;> omega
      have HMX := hidE hmax
      by_cases hlt2 : k + rlen s k < s.length
      · have q2 := rlen_end hlt2
        have HIN := hidE (fun (h : k + rlen s k < (⟨s.toArray⟩ : ByteArray).size) w => show Calls Try.prog 31 #[.int .u8 ((⟨s.toArray⟩ : ByteArray)[k + rlen s k]'h).toNat] w fun e w' => e = .returned (.bool false) ∧ w' = w from by
          have := inrun_c ((⟨s.toArray⟩ : ByteArray)[k + rlen s k]'h) w
          rw [byte_at s h, q2] at this
          rw [byte_at s h]
          exact this)
        clear hmax HRL HBD hlt hgh hj q2
        generalize k + rlen s k = m at *
        have d1 : decide ((m : Int) < (s.length : Int)) = true := decide_eq_true (by omega)
        have d1' : decide (m < s.length) = true := decide_eq_true hlt2
        go_wp2_with (go_at_call 31; (with_reducible refine (HIN.out _ _).mono ?_); rintro e w' ⟨rfl, rfl⟩)
        all_goals
          go_ret
          refine ⟨?_, rfl⟩
          rw [HMX.out]
          first | (rw [if_pos (by omega)]; rfl) | (rw [if_neg (by omega)]; rfl)
      · clear hmax HRL HBD hlt hgh hj
        generalize k + rlen s k = m at *
        have d1 : decide ((m : Int) < (s.length : Int)) = false := decide_eq_false (by omega)
        have d1' : decide (m < s.length) = false := decide_eq_false hlt2
        go_wp2
        all_goals
          go_ret
          refine ⟨?_, rfl⟩
          rw [HMX.out]
          first | (rw [if_pos (by omega)]; rfl) | (rw [if_neg (by omega)]; rfl)
set_option maxHeartbeats 1000000 in
theorem word_c (s : List UInt8) (w : World) (hs : s.length ≤ 1000000000) : Calls Try.prog 13 #[strV s] w fun e w' => e = .returned (.bool (isWord s)) ∧ Below w.heap.size w w' := by
  have slen : (⟨s.toArray⟩ : ByteArray).size = s.length := by simp [ByteArray.size]
  go_enter Try.func13, Try.ntmps13
  go_wp2
  go_loopg [6] s.length (fun gh v6 wr => ∃ i : Nat, i ≤ s.length ∧ s.length - i ≤ gh ∧ v6 = .int .i64 i ∧ (∀ j, j < i → letterB (s.getD j 0) = true) ∧ wr = w)
  case atStart => exact ⟨0, Nat.zero_le _, Nat.le_refl _, rfl, fun j h => by omega, rfl⟩
  case round =>
    obtain ⟨i, hi, hgh, rfl, hall, rfl⟩ := hrel
    have HA := hidE hall
    clear hall
    by_cases hlt : i < s.length
    · have d1 : decide ((i : Int) < (s.length : Int)) = true := decide_eq_true (by omega)
      have d1' : decide (i < s.length) = true := decide_eq_true hlt
      cases hl : letterB (s.getD i 0)
      · have HIN := hidE (fun (h : i < (⟨s.toArray⟩ : ByteArray).size) w => show Calls Try.prog 23 #[.int .u8 ((⟨s.toArray⟩ : ByteArray)[i]'h).toNat] w fun e w' => e = .returned (.bool false) ∧ w' = w from by
          have := letter_c ((⟨s.toArray⟩ : ByteArray)[i]'h) w
          rw [byte_at s h, hl] at this
          rw [byte_at s h]
          exact this)
        have HE := hidE (show isWord s = false by
          unfold isWord
          rw [Bool.and_eq_false_iff]; right
          rw [List.all_eq_false]
          rw [List.getD_eq_getElem?_getD, List.getElem?_eq_getElem hlt] at hl
          exact ⟨_, List.getElem_mem hlt, by rw [show letterB s[i] = false from hl]; decide⟩)
        clear hl
        go_wp2_with (go_at_call 23; (with_reducible refine (HIN.out _ _).mono ?_); rintro e w' ⟨rfl, rfl⟩)
        go_ret
        exact ⟨by rw [HE.out]; rfl, Below.refl _ _⟩
      · have HIN := hidE (fun (h : i < (⟨s.toArray⟩ : ByteArray).size) w => show Calls Try.prog 23 #[.int .u8 ((⟨s.toArray⟩ : ByteArray)[i]'h).toNat] w fun e w' => e = .returned (.bool true) ∧ w' = w from by
          have := letter_c ((⟨s.toArray⟩ : ByteArray)[i]'h) w
          rw [byte_at s h, hl] at this
          rw [byte_at s h]
          exact this)
        have HL := hidE hl
        clear hl
        go_wp2_with (go_at_call 23; (with_reducible refine (HIN.out _ _).mono ?_); rintro e w' ⟨rfl, rfl⟩)
        go_roundg (s.length - (i + 1))
        case measure => omega
        case rel => exact ⟨i + 1, by omega, Nat.le_refl _, by go_num, fun j hj => by
          by_cases e : j = i
          · subst e; exact HL.out
          · exact HA.out j (by omega), rfl⟩
    · have d1 : decide ((i : Int) < (s.length : Int)) = false := decide_eq_false (by omega)
      have d1' : decide (i < s.length) = false := decide_eq_false hlt
      obtain rfl : i = s.length := by omega
      have hw : isWord s = !s.isEmpty := by
        unfold isWord
        rw [show s.all letterB = true from by
          rw [List.all_eq_true]
          intro x hx
          obtain ⟨j, hj, e⟩ := List.getElem_of_mem hx
          have := HA.out j hj
          rw [List.getD_eq_getElem?_getD, List.getElem?_eq_getElem hj] at this
          rw [← e]; exact this, Bool.and_true]
      have HW := hidE hw
      clear hw HA
      cases s with
      | nil =>
        go_wp2
        go_ret
        exact ⟨by rw [HW.out]; rfl, Below.refl _ _⟩
      | cons c r =>
        go_wp2
        go_ret
        refine ⟨?_, Below.refl _ _⟩
        rw [HW.out]
        first | rfl | (simp; done)
end Go.Proofs.Ytpcgeaphfpcghaa

namespace Go.Proofs.Ytpcgeaphfpcghaa
open Go.ChangeShapes Go.WideShapes Go.ChangeAt Go.RowKit
attribute [local irreducible] Go.Calls

def numS (s : List UInt8) : Int × Bool := if isNum s then (valD s, true) else (0, false)
theorem valD_take {s : List UInt8} {i : Nat} (h : i < s.length) : valD (s.take (i + 1)) = 10 * valD (s.take i) + (((s.getD i 0).toNat : Int) - 48) := by
  rw [List.take_add_one, List.getElem?_eq_getElem h, Option.toList_some, valD_snoc, List.getD_eq_getElem?_getD, List.getElem?_eq_getElem h]
  rfl
theorem digit_range {c : UInt8} (h : digitB c = true) : 48 ≤ (c.toNat : Int) ∧ (c.toNat : Int) ≤ 57 := by
  rw [← dgtI_of] at h
  unfold dgtI at h
  exact of_decide_eq_true h
theorem valD_grows {s : List UInt8} (h : s.all digitB = true) : ∀ (i : Nat), i ≤ s.length → 0 ≤ valD (s.take i)
  | 0, _ => by simp [valD]
  | i + 1, hi => by
    have ih := valD_grows h i (by omega)
    rw [valD_take (by omega)]
    rw [List.all_eq_true] at h
    have := digit_range (h _ (List.getElem_mem (show i < s.length by omega)))
    rw [List.getD_eq_getElem?_getD, List.getElem?_eq_getElem (show i < s.length by omega)]
    simp only [Option.getD_some]
    omega
theorem valD_mono {s : List UInt8} (h : s.all digitB = true) (i : Nat) : ∀ (d : Nat), i + d ≤ s.length → valD (s.take i) ≤ valD (s.take (i + d))
  | 0, _ => Int.le_refl _
  | d + 1, hi => by
    have ih := valD_mono h i d (by omega)
    have h0 := valD_grows h (i + d) (by omega)
    rw [show i + (d + 1) = i + d + 1 by omega, valD_take (by omega)]
    rw [List.all_eq_true] at h
    have := digit_range (h _ (List.getElem_mem (show i + d < s.length by omega)))
    rw [List.getD_eq_getElem?_getD, List.getElem?_eq_getElem (show i + d < s.length by omega)]
    simp only [Option.getD_some]
    omega
theorem num_over {s : List UInt8} {i : Nat} (hi : i ≤ s.length) (h : 1099511627776 < valD (s.take i)) : isNum s = false := by
  unfold isNum
  cases hd : s.all digitB
  · simp
  · have := valD_mono hd i (s.length - i) (by omega)
    rw [show i + (s.length - i) = s.length by omega, List.take_length] at this
    rw [show decide (valD s ≤ 1099511627776) = false from decide_eq_false (by omega), Bool.and_false]
theorem num_bad {s : List UInt8} {i : Nat} (hi : i < s.length) (h : digitB (s.getD i 0) = false) : isNum s = false := by
  unfold isNum
  rw [show s.all digitB = false from by
    rw [List.all_eq_false]
    rw [List.getD_eq_getElem?_getD, List.getElem?_eq_getElem hi] at h
    exact ⟨_, List.getElem_mem hi, by rw [show digitB s[i] = false from h]; decide⟩]
  simp
theorem num_zeroes {c : UInt8} {r : List UInt8} (hr : 0 < r.length) (h : c = 48) : isNum (c :: r) = false := by
  subst h
  unfold isNum
  rw [show ((48 :: r : List UInt8).length == 1) = false from by simp; intro e; subst e; simp at hr]
  simp
theorem num_good {s : List UInt8} (h0 : s ≠ []) (hall : ∀ j, j < s.length → digitB (s.getD j 0) = true) (hz : s.length = 1 ∨ s.getD 0 0 ≠ 48) (hv : valD s ≤ 1099511627776) : isNum s = true := by
  unfold isNum
  simp only [Bool.and_eq_true, Bool.or_eq_true, decide_eq_true_iff]
  refine ⟨⟨⟨?_, ?_⟩, ?_⟩, hv⟩
  · cases s with
    | nil => exact absurd rfl h0
    | cons c r => rfl
  · rw [List.all_eq_true]
    intro x hx
    obtain ⟨j, hj, e⟩ := List.getElem_of_mem hx
    have := hall j hj
    rw [List.getD_eq_getElem?_getD, List.getElem?_eq_getElem hj] at this
    rw [← e]; exact this
  · rcases hz with h | h
    · left; rw [h]; rfl
    · right
      cases s with
      | nil => exact absurd rfl h0
      | cons c r => simpa using h
theorem numS_no {s : List UInt8} (h : isNum s = false) : numS s = (0, false) := by unfold numS; rw [h]; rfl
theorem numS_yes {s : List UInt8} (h : isNum s = true) : numS s = (valD s, true) := by unfold numS; rw [if_pos h]

set_option maxHeartbeats 1000000 in
theorem num_c (s : List UInt8) (w : World) (hs : s.length ≤ 1000000000) : Calls Try.prog 12 #[strV s] w fun e w' => e = .returned (.tuple #[.int .i64 (numS s).1, .bool (numS s).2]) ∧ Below w.heap.size w w' := by
  cases s with
  | nil =>
    rw [show numS [] = (0, false) from rfl]
    go_enter Try.func12, Try.ntmps12
    go_wp2
    go_ret2
    exact ⟨rfl, Below.refl _ _⟩
  | cons c r =>
    have hcase : (0 < r.length ∧ c = 48) ∨ (r.length = 0 ∨ c ≠ 48) := by
      by_cases h1 : r.length = 0
      · exact .inr (.inl h1)
      · by_cases h2 : c = 48
        · exact .inl ⟨by omega, h2⟩
        · exact .inr (.inr h2)
    have hne : c :: r ≠ [] := by simp
    have hemp : (c :: r).isEmpty = false := rfl
    have hp0 : 0 < (c :: r).length := by simp
    have hp1 : (0 : Int) < ((c :: r).length : Int) := by omega
    have hp2 : decide (0 < (c :: r).length) = true := decide_eq_true hp0
    have slen : (⟨(c :: r).toArray⟩ : ByteArray).size = (c :: r).length := by simp [ByteArray.size]
    have hb0 : ∀ h, (⟨(c :: r).toArray⟩ : ByteArray)[0]'h = c := fun h => byte_at (c :: r) h
    rcases hcase with ⟨h1, h2⟩ | h1
    · have HE := hidE (numS_no (num_zeroes h1 h2))
      have d1 : decide ((1 : Int) < ((c :: r).length : Int)) = true := decide_eq_true (by simp only [List.length_cons]; omega)
      have e1 : ((c.toNat : Int) == 48) = true := by rw [h2]; rfl
      rw [HE.out]
      clear HE h2 hne
      generalize c :: r = s at *
      clear h1
      go_enter Try.func12, Try.ntmps12
      go_wp2
      go_ret2
      exact ⟨rfl, Below.refl _ _⟩
    · have hz : ((c :: r).length = 1 ∨ (c :: r).getD 0 0 ≠ 48) ∧ (decide ((1 : Int) < ((c :: r).length : Int)) = false ∨ (decide ((1 : Int) < ((c :: r).length : Int)) = true ∧ ((c.toNat : Int) == 48) = false)) := by
        refine ⟨h1.imp (fun h => by simp [h]) (fun h => h), ?_⟩
        by_cases hr : r.length = 0
        · left; exact decide_eq_false (by simp only [List.length_cons]; omega)
        · right
          refine ⟨decide_eq_true (by simp only [List.length_cons]; omega), beq_eq_false_iff_ne.2 fun e => ?_⟩
          rcases h1 with h1 | h1
          · exact hr h1
          · exact h1 (UInt8.toNat_inj.1 (by rw [show (48 : UInt8).toNat = 48 from rfl]; omega))
      have HNE := hidE hne; have HZ := hidE hz.1
      obtain ⟨_, hz⟩ := hz
      clear h1 hne
      generalize c :: r = s at *
      rcases hz with d1 | ⟨d1, e1⟩
      all_goals
        go_enter Try.func12, Try.ntmps12
        go_wp2
        go_loopg [4, 20] s.length (fun gh v4 v20 wr => ∃ i : Nat, i ≤ s.length ∧ s.length - i ≤ gh ∧ v20 = .int .i64 i ∧ v4 = .int .i64 (valD (s.take i)) ∧ 0 ≤ valD (s.take i) ∧ valD (s.take i) ≤ 1099511627776 ∧ (∀ j, j < i → digitB (s.getD j 0) = true) ∧ wr = w)
        case atStart => exact ⟨0, Nat.zero_le _, Nat.le_refl _, rfl, rfl, by simp [valD], by simp [valD], fun j h => by omega, rfl⟩
        case round =>
          obtain ⟨i, hi, hgh, rfl, rfl, hv0, hv1, hall, rfl⟩ := hrel
          have HA := hidE hall
          clear hall hb0
          by_cases hlt : i < s.length
          · have q1 : decide ((i : Int) < (s.length : Int)) = true := decide_eq_true (by omega)
            have q1' : decide (i < s.length) = true := decide_eq_true hlt
            have hbt : ∀ h, (⟨s.toArray⟩ : ByteArray)[i]'h = s.getD i 0 := fun h => byte_at s h
            cases hl : digitB (s.getD i 0)
            · have HE := hidE (numS_no (num_bad hlt hl))
              have HIN := hidE (fun w => digit_c (s.getD i 0) w)
              rw [hl] at HIN
              clear hl
              generalize s.getD i 0 = x at *
              go_wp2_with (go_at_call 22; (with_reducible refine (HIN.out _).mono ?_); rintro e w' ⟨rfl, rfl⟩)
              go_ret2
              exact ⟨by rw [HE.out]; rfl, Below.refl _ _⟩
            · have HIN := hidE (fun w => digit_c (s.getD i 0) w)
              rw [hl] at HIN
              have HT := hidE (valD_take hlt)
              have hr := digit_range hl
              have HL := hidE hl
              clear hl
              have HOV := hidE (fun (h : 1099511627776 < valD (s.take (i + 1))) => numS_no (num_over (i := i + 1) (by omega) h))
              generalize hxd : s.getD i 0 = x at *
              have HXD := hidE hxd
              clear hxd
              generalize valD (s.take i) = m at *
              have w1 : IntKind.i64.wrap (10 * m) = 10 * m := IntWalk.i64_in _ (by omega)
              have w2 : IntKind.u8.wrap ((x.toNat : Int) - 48) = (x.toNat : Int) - 48 := by simp [IntKind.wrap, IntKind.bits, IntKind.signed]; omega
              have w3 : IntKind.i64.wrap ((x.toNat : Int) - 48) = (x.toNat : Int) - 48 := IntWalk.i64_in _ (by omega)
              have w4 : IntKind.i64.wrap (10 * m + ((x.toNat : Int) - 48)) = 10 * m + ((x.toNat : Int) - 48) := IntWalk.i64_in _ (by omega)
              by_cases hov : 1099511627776 < 10 * m + ((x.toNat : Int) - 48)
              · have HE := hidE (HOV.out (by rw [HT.out]; exact hov))
                have q2 : decide ((1099511627776 : Int) < 10 * m + ((x.toNat : Int) - 48)) = true := decide_eq_true hov
                go_wp2_with (go_at_call 22; (with_reducible refine (HIN.out _).mono ?_); rintro e w' ⟨rfl, rfl⟩)
                go_ret2
                exact ⟨by rw [HE.out]; rfl, Below.refl _ _⟩
              · have q2 : decide ((1099511627776 : Int) < 10 * m + ((x.toNat : Int) - 48)) = false := decide_eq_false hov
                go_wp2_with (go_at_call 22; (with_reducible refine (HIN.out _).mono ?_); rintro e w' ⟨rfl, rfl⟩)
                go_roundg (s.length - (i + 1))
                case measure => omega
                case rel => exact ⟨i + 1, by omega, Nat.le_refl _, by go_num, by rw [HT.out], by rw [HT.out]; omega, by rw [HT.out]; omega, fun j hj => by
                  by_cases e : j = i
                  · subst e; rw [HXD.out]; exact HL.out
                  · exact HA.out j (by omega), rfl⟩
          · have q1 : decide ((i : Int) < (s.length : Int)) = false := decide_eq_false (by omega)
            have q1' : decide (i < s.length) = false := decide_eq_false hlt
            obtain rfl : i = s.length := by omega
            rw [List.take_length] at hv1
            have HE := hidE (numS_yes (num_good HNE.out HA.out HZ.out hv1))
            simp only [List.take_length]
            go_wp2
            go_ret2
            exact ⟨by rw [HE.out]; rfl, Below.refl _ _⟩
end Go.Proofs.Ytpcgeaphfpcghaa

namespace Go.Proofs.Ytpcgeaphfpcghaa
open Go.ChangeShapes Go.WideShapes Go.ChangeAt Go.RowKit
attribute [local irreducible] Go.Calls

theorem run_store_fn {P : Program} {w : World} {a : Addr} {m : Mode} {f : Fn} {l r : Array Value} : (store a (.func f l r) m).run P w = stored P w a (.func f l r) m := run_store P w a _ m rfl
attribute [local go_sem] run_store_fn
theorem kcl_word (t : List UInt8) (w : World) (hs : t.length ≤ 1000000000) : Calls Try.prog 24 #[strV t] w fun e w' => e = .returned (.tuple #[.int .i64 0, .bool (isWord t)]) ∧ Below w.heap.size w w' := by
  have HW := hidE (fun w => word_c t w hs)
  generalize isWord t = b at *
  go_enter Try.func24, Try.ntmps24
  go_wp2_with (go_at_call 13; (with_reducible refine (HW.out _).mono ?_); rintro e w' ⟨rfl, hb⟩)
  go_ret2
  exact ⟨rfl, hb⟩
theorem kcl_mark (t m : List UInt8) (p : Nat) (w : World) (hB : Blk w p #[strV m] 9) : Calls Try.prog 30 #[strV t, .pointer (some ⟨p, 0, none⟩)] w fun e w' => e = .returned (.tuple #[.int .i64 0, .bool (t == m)]) ∧ Below w.heap.size w w' := by
  have c0 := hB.cell 0; have cz := hB.lt
  simp at c0
  clear hB
  go_enter Try.func30, Try.ntmps30
  go_wp2
  go_quiet (fail)
  go_wp2
  go_ret2
  exact ⟨rfl, by (repeat (first | exact Below.refl _ _ | assumption | refine balloc ?_ _ | refine below_drewN ?_ _ | refine bstep (by assumption) ?_ | refine bstep (Past.prop _) ?_ | refine Below.setCell ?_ (by first | exact Nat.le_refl _ | (simp; done) | (simp; omega)) _))⟩
theorem kinds_c (w : World) : Calls Try.prog 14 #[] w fun e w' => e = .returned (.slice (some ⟨w.heap.size + 3, 0, none⟩) 5 5) ∧ Below w.heap.size w w' ∧ Blk w' (w.heap.size + 3) #[.int .u8 0, .func (.func 24) #[] #[], .int .u8 1, .func (.func 12) #[] #[], .int .u8 2, .func (.func 30) #[] #[.pointer (some ⟨w.heap.size, 0, none⟩)], .int .u8 3, .func (.func 30) #[] #[.pointer (some ⟨w.heap.size + 1, 0, none⟩)], .int .u8 4, .func (.func 30) #[] #[.pointer (some ⟨w.heap.size + 2, 0, none⟩)]] 60 ∧ Blk w' w.heap.size #[strV [40]] 9 ∧ Blk w' (w.heap.size + 1) #[strV [41]] 9 ∧ Blk w' (w.heap.size + 2) #[strV [58]] 9 := by
  go_enter Try.func14, Try.ntmps14
  go_wp2
  go_ret
  refine ⟨rfl, by (repeat (first | exact Below.refl _ _ | assumption | refine balloc ?_ _ | refine below_drewN ?_ _ | refine bstep (by assumption) ?_ | refine bstep (Past.prop _) ?_ | refine Below.setCell ?_ (by first | exact Nat.le_refl _ | (simp; done) | (simp; omega)) _)), ?_, ?_, ?_, ?_⟩
  · exact Blk.made_at _ _ _ _ (by simp)
  · exact (((Blk.made_at _ _ _ _ rfl).alloc _).alloc _).alloc _
  · exact ((Blk.made_at _ _ _ _ (by simp)).alloc _).alloc _
  · exact (Blk.made_at _ _ _ _ (by simp)).alloc _
/-- What kindOf hands back. -/
def kO (t : List UInt8) : Nat × Int × Bool := match kindOf t with
  | none => (0, 0, false)
  | some k => (k.1, k.2, true)
theorem word_num {t : List UInt8} (h : isWord t = true) : isNum t = false := by
  unfold isWord at h
  rw [Bool.and_eq_true] at h
  obtain ⟨h1, h2⟩ := h
  cases t with
  | nil => cases h1
  | cons c r =>
    rw [List.all_cons, Bool.and_eq_true] at h2
    unfold isNum
    have : digitB c = false := by
      cases hd : digitB c
      · rfl
      · rw [digit_letter hd] at h2; exact absurd h2.1 (by decide)
    rw [List.all_cons, this]
    simp
theorem kO_word {t : List UInt8} (h : isWord t = true) : kO t = (0, 0, true) := by
  have hn := word_num h
  have e1 : t ≠ [40] := fun e => by rw [e] at h; exact absurd h (by decide)
  have e2 : t ≠ [41] := fun e => by rw [e] at h; exact absurd h (by decide)
  have e3 : t ≠ [58] := fun e => by rw [e] at h; exact absurd h (by decide)
  unfold kO kindOf
  rw [hn, if_neg (by decide), if_neg e1, if_neg e2, if_neg e3, if_pos h]
theorem kO_num {t : List UInt8} (h : isNum t = true) : kO t = (1, valD t, true) := by
  unfold kO kindOf
  rw [if_pos h]
theorem kO_open : kO [40] = (2, 0, true) := by decide
theorem kO_close : kO [41] = (3, 0, true) := by decide
theorem kO_colon : kO [58] = (4, 0, true) := by decide
theorem kO_openB {t : List UInt8} (h : (t == [40]) = true) : kO t = (2, 0, true) := by rw [eq_of_beq h]; exact kO_open
theorem kO_closeB {t : List UInt8} (h : (t == [41]) = true) : kO t = (3, 0, true) := by rw [eq_of_beq h]; exact kO_close
theorem kO_colonB {t : List UInt8} (h : (t == [58]) = true) : kO t = (4, 0, true) := by rw [eq_of_beq h]; exact kO_colon
theorem kO_none {t : List UInt8} (h0 : isWord t = false) (h1 : isNum t = false) (h2 : (t == [40]) = false) (h3 : (t == [41]) = false) (h4 : (t == [58]) = false) : kO t = (0, 0, false) := by
  unfold kO kindOf
  rw [h1, h0, if_neg (by decide), if_neg (beq_eq_false_iff_ne.1 h2), if_neg (beq_eq_false_iff_ne.1 h3), if_neg (beq_eq_false_iff_ne.1 h4), if_neg (by decide)]
/-- The list of the kinds. -/
structure KindsAt (w : World) (b p1 p2 p3 : Nat) : Prop where
  all : Blk w b #[.int .u8 0, .func (.func 24) #[] #[], .int .u8 1, .func (.func 12) #[] #[], .int .u8 2, .func (.func 30) #[] #[.pointer (some ⟨p1, 0, none⟩)], .int .u8 3, .func (.func 30) #[] #[.pointer (some ⟨p2, 0, none⟩)], .int .u8 4, .func (.func 30) #[] #[.pointer (some ⟨p3, 0, none⟩)]] 60
  m1 : Blk w p1 #[strV [40]] 9
  m2 : Blk w p2 #[strV [41]] 9
  m3 : Blk w p3 #[strV [58]] 9
theorem KindsAt.below {w w' : World} {b p1 p2 p3 n : Nat} (h : KindsAt w b p1 p2 p3) (hb : Below n w w') (h1 : b < n) (h2 : p1 < n) (h3 : p2 < n) (h4 : p3 < n) : KindsAt w' b p1 p2 p3 :=
  ⟨h.all.below hb h1, h.m1.below hb h2, h.m2.below hb h3, h.m3.below hb h4⟩
theorem KindsAt.past {w w' : World} {b p1 p2 p3 : Nat} (h : KindsAt w b p1 p2 p3) (hb : Below w.heap.size w w') : KindsAt w' b p1 p2 p3 := h.below hb h.all.lt h.m1.lt h.m2.lt h.m3.lt
/-- No kind ahead of the i-th. -/
def noUp (t : List UInt8) (i : Nat) : Prop := (0 < i → isWord t = false) ∧ (1 < i → isNum t = false) ∧ (2 < i → (t == [40]) = false) ∧ (3 < i → (t == [41]) = false) ∧ (4 < i → (t == [58]) = false)
theorem noUp_zero (t : List UInt8) : noUp t 0 := ⟨fun h => by omega, fun h => by omega, fun h => by omega, fun h => by omega, fun h => by omega⟩
theorem noUp_word {t : List UInt8} (h : isWord t = false) : noUp t 1 := ⟨fun _ => h, fun h => by omega, fun h => by omega, fun h => by omega, fun h => by omega⟩
theorem noUp_num {t : List UInt8} (k : noUp t 1) (h : isNum t = false) : noUp t 2 := ⟨fun _ => k.1 (by omega), fun _ => h, fun h => by omega, fun h => by omega, fun h => by omega⟩
theorem noUp_open {t : List UInt8} (k : noUp t 2) (h : (t == [40]) = false) : noUp t 3 := ⟨fun _ => k.1 (by omega), fun _ => k.2.1 (by omega), fun _ => h, fun h => by omega, fun h => by omega⟩
theorem noUp_close {t : List UInt8} (k : noUp t 3) (h : (t == [41]) = false) : noUp t 4 := ⟨fun _ => k.1 (by omega), fun _ => k.2.1 (by omega), fun _ => k.2.2.1 (by omega), fun _ => h, fun h => by omega⟩
theorem noUp_colon {t : List UInt8} (k : noUp t 4) (h : (t == [58]) = false) : noUp t 5 := ⟨fun _ => k.1 (by omega), fun _ => k.2.1 (by omega), fun _ => k.2.2.1 (by omega), fun _ => k.2.2.2.1 (by omega), fun _ => h⟩
theorem noUp_none {t : List UInt8} (k : noUp t 5) : kO t = (0, 0, false) := kO_none (k.1 (by omega)) (k.2.1 (by omega)) (k.2.2.1 (by omega)) (k.2.2.2.1 (by omega)) (k.2.2.2.2 (by omega))

set_option maxHeartbeats 2000000 in
theorem kindof_c (t : List UInt8) (b p1 p2 p3 : Nat) (w : World) (hs : t.length ≤ 1000000000) (hK : KindsAt w b p1 p2 p3) :
    Calls Try.prog 16 #[strV t, .slice (some ⟨b, 0, none⟩) 5 5] w fun e w' => e = .returned (.tuple #[.int .u8 (kO t).1, .int .i64 (kO t).2.1, .bool (kO t).2.2]) ∧ Below w.heap.size w w' := by
  have HK := hidE hK
  clear hK
  go_enter Try.func16, Try.ntmps16
  go_wp2
  go_loopg [11] 5 (fun gh v11 wr => ∃ i : Nat, i ≤ 5 ∧ 5 - i ≤ gh ∧ v11 = .int .i64 i ∧ noUp t i ∧ Below w.heap.size w wr)
  case atStart => exact ⟨0, Nat.zero_le _, Nat.le_refl _, rfl, noUp_zero t, Below.refl _ _⟩
  case round =>
    obtain ⟨i, hi, hgh, rfl, hno, hb⟩ := hrel
    have KW := HK.out.past hb
    have HN := hidE hno; have HB := hidE hb; have HG := hidE hgh
    clear hno hb hgh
    obtain ⟨wo, hwo⟩ : ∃ wo : World, wo = wr := ⟨_, rfl⟩
    have hsz := HB.out.size
    obtain rfl | rfl | rfl | rfl | rfl | rfl : i = 0 ∨ i = 1 ∨ i = 2 ∨ i = 3 ∨ i = 4 ∨ i = 5 := by omega
    · have c0 := KW.all.cell 0; have c1 := KW.all.cell 1; have cz := KW.all.lt
      simp at c0 c1
      have HKW := hidE KW
      clear KW
      cases hy : isWord t
      · have HS := hidE (noUp_word hy)
        have HC := hidE (fun w => kcl_word t w)
        try rw [numS_no hy] at HC
        try rw [hy] at HC
        clear hy
        go_wp2_with (go_at_call 24; (with_reducible refine (HC.out _ (by first | exact hs | (exact HKW.out.m1.alloc _) | (exact HKW.out.m2.alloc _) | (exact HKW.out.m3.alloc _))).mono ?_); rintro e w' ⟨rfl, hb1⟩; have z1 := hb1.size; have c5 := hb1.cell (p := ⟨wr.heap.size, 0, none⟩) (by simp); simp at c5 z1)
        go_roundg (5 - (0 + 1))
        case measure => have := HG.out; omega
        case rel => exact ⟨0 + 1, by omega, Nat.le_refl _, by first | rfl | go_num, HS.out, HB.out.trans (((Below.refl _ wr).alloc (Nat.le_refl _) _).trans (hb1.mono (by simp)) |>.mono hsz)⟩
      · have HS := hidE (show kO t = _ from kO_word hy)
        have HC := hidE (fun w => kcl_word t w)
        try rw [numS_yes hy] at HC
        try rw [hy] at HC
        clear hy
        go_wp2_with (go_at_call 24; (with_reducible refine (HC.out _ (by first | exact hs | (exact HKW.out.m1.alloc _) | (exact HKW.out.m2.alloc _) | (exact HKW.out.m3.alloc _))).mono ?_); rintro e w' ⟨rfl, hb1⟩; have z1 := hb1.size; have c5 := hb1.cell (p := ⟨wr.heap.size, 0, none⟩) (by simp); simp at c5 z1)
        refine bodyPost_ret (v := .tuple #[.int .u8 (kO t).1, .int .i64 (kO t).2.1, .bool (kO t).2.2]) (by rw [HS.out]; simp [results, Try.results16, go_sem]) rfl ⟨rfl, HB.out.trans (((Below.refl _ wr).alloc (Nat.le_refl _) _).trans (hb1.mono (by simp)) |>.mono hsz)⟩
    · have c0 := KW.all.cell 2; have c1 := KW.all.cell 3; have cz := KW.all.lt
      simp at c0 c1
      have HKW := hidE KW
      clear KW
      cases hy : isNum t
      · have HS := hidE (noUp_num HN.out hy)
        have HC := hidE (fun w => num_c t w)
        try rw [numS_no hy] at HC
        try rw [hy] at HC
        clear hy
        go_wp2_with (go_at_call 12; (with_reducible refine (HC.out _ (by first | exact hs | (exact HKW.out.m1.alloc _) | (exact HKW.out.m2.alloc _) | (exact HKW.out.m3.alloc _))).mono ?_); rintro e w' ⟨rfl, hb1⟩; have z1 := hb1.size; have c5 := hb1.cell (p := ⟨wr.heap.size, 0, none⟩) (by simp); simp at c5 z1)
        go_roundg (5 - (1 + 1))
        case measure => have := HG.out; omega
        case rel => exact ⟨1 + 1, by omega, Nat.le_refl _, by first | rfl | go_num, HS.out, HB.out.trans (((Below.refl _ wr).alloc (Nat.le_refl _) _).trans (hb1.mono (by simp)) |>.mono hsz)⟩
      · have HS := hidE (show kO t = _ from kO_num hy)
        have HC := hidE (fun w => num_c t w)
        try rw [numS_yes hy] at HC
        try rw [hy] at HC
        clear hy
        go_wp2_with (go_at_call 12; (with_reducible refine (HC.out _ (by first | exact hs | (exact HKW.out.m1.alloc _) | (exact HKW.out.m2.alloc _) | (exact HKW.out.m3.alloc _))).mono ?_); rintro e w' ⟨rfl, hb1⟩; have z1 := hb1.size; have c5 := hb1.cell (p := ⟨wr.heap.size, 0, none⟩) (by simp); simp at c5 z1)
        refine bodyPost_ret (v := .tuple #[.int .u8 (kO t).1, .int .i64 (kO t).2.1, .bool (kO t).2.2]) (by rw [HS.out]; simp [results, Try.results16, go_sem]) rfl ⟨rfl, HB.out.trans (((Below.refl _ wr).alloc (Nat.le_refl _) _).trans (hb1.mono (by simp)) |>.mono hsz)⟩
    · have c0 := KW.all.cell 4; have c1 := KW.all.cell 5; have cz := KW.all.lt
      simp at c0 c1
      have HKW := hidE KW
      clear KW
      cases hy : (t == [40])
      · have HS := hidE (noUp_open HN.out hy)
        have HC := hidE (fun w => kcl_mark t [40] p1 w)
        try rw [numS_no hy] at HC
        try rw [hy] at HC
        clear hy
        go_wp2_with (go_at_call 30; (with_reducible refine (HC.out _ (by first | exact hs | (exact HKW.out.m1.alloc _) | (exact HKW.out.m2.alloc _) | (exact HKW.out.m3.alloc _))).mono ?_); rintro e w' ⟨rfl, hb1⟩; have z1 := hb1.size; have c5 := hb1.cell (p := ⟨wr.heap.size, 0, none⟩) (by simp); simp at c5 z1)
        go_roundg (5 - (2 + 1))
        case measure => have := HG.out; omega
        case rel => exact ⟨2 + 1, by omega, Nat.le_refl _, by first | rfl | go_num, HS.out, HB.out.trans (((Below.refl _ wr).alloc (Nat.le_refl _) _).trans (hb1.mono (by simp)) |>.mono hsz)⟩
      · have HS := hidE (show kO t = _ from kO_openB hy)
        have HC := hidE (fun w => kcl_mark t [40] p1 w)
        try rw [numS_yes hy] at HC
        try rw [hy] at HC
        clear hy
        go_wp2_with (go_at_call 30; (with_reducible refine (HC.out _ (by first | exact hs | (exact HKW.out.m1.alloc _) | (exact HKW.out.m2.alloc _) | (exact HKW.out.m3.alloc _))).mono ?_); rintro e w' ⟨rfl, hb1⟩; have z1 := hb1.size; have c5 := hb1.cell (p := ⟨wr.heap.size, 0, none⟩) (by simp); simp at c5 z1)
        refine bodyPost_ret (v := .tuple #[.int .u8 (kO t).1, .int .i64 (kO t).2.1, .bool (kO t).2.2]) (by rw [HS.out]; simp [results, Try.results16, go_sem]) rfl ⟨rfl, HB.out.trans (((Below.refl _ wr).alloc (Nat.le_refl _) _).trans (hb1.mono (by simp)) |>.mono hsz)⟩
    · have c0 := KW.all.cell 6; have c1 := KW.all.cell 7; have cz := KW.all.lt
      simp at c0 c1
      have HKW := hidE KW
      clear KW
      cases hy : (t == [41])
      · have HS := hidE (noUp_close HN.out hy)
        have HC := hidE (fun w => kcl_mark t [41] p2 w)
        try rw [numS_no hy] at HC
        try rw [hy] at HC
        clear hy
        go_wp2_with (go_at_call 30; (with_reducible refine (HC.out _ (by first | exact hs | (exact HKW.out.m1.alloc _) | (exact HKW.out.m2.alloc _) | (exact HKW.out.m3.alloc _))).mono ?_); rintro e w' ⟨rfl, hb1⟩; have z1 := hb1.size; have c5 := hb1.cell (p := ⟨wr.heap.size, 0, none⟩) (by simp); simp at c5 z1)
        go_roundg (5 - (3 + 1))
        case measure => have := HG.out; omega
        case rel => exact ⟨3 + 1, by omega, Nat.le_refl _, by first | rfl | go_num, HS.out, HB.out.trans (((Below.refl _ wr).alloc (Nat.le_refl _) _).trans (hb1.mono (by simp)) |>.mono hsz)⟩
      · have HS := hidE (show kO t = _ from kO_closeB hy)
        have HC := hidE (fun w => kcl_mark t [41] p2 w)
        try rw [numS_yes hy] at HC
        try rw [hy] at HC
        clear hy
        go_wp2_with (go_at_call 30; (with_reducible refine (HC.out _ (by first | exact hs | (exact HKW.out.m1.alloc _) | (exact HKW.out.m2.alloc _) | (exact HKW.out.m3.alloc _))).mono ?_); rintro e w' ⟨rfl, hb1⟩; have z1 := hb1.size; have c5 := hb1.cell (p := ⟨wr.heap.size, 0, none⟩) (by simp); simp at c5 z1)
        refine bodyPost_ret (v := .tuple #[.int .u8 (kO t).1, .int .i64 (kO t).2.1, .bool (kO t).2.2]) (by rw [HS.out]; simp [results, Try.results16, go_sem]) rfl ⟨rfl, HB.out.trans (((Below.refl _ wr).alloc (Nat.le_refl _) _).trans (hb1.mono (by simp)) |>.mono hsz)⟩
    · have c0 := KW.all.cell 8; have c1 := KW.all.cell 9; have cz := KW.all.lt
      simp at c0 c1
      have HKW := hidE KW
      clear KW
      cases hy : (t == [58])
      · have HS := hidE (noUp_colon HN.out hy)
        have HC := hidE (fun w => kcl_mark t [58] p3 w)
        try rw [numS_no hy] at HC
        try rw [hy] at HC
        clear hy
        go_wp2_with (go_at_call 30; (with_reducible refine (HC.out _ (by first | exact hs | (exact HKW.out.m1.alloc _) | (exact HKW.out.m2.alloc _) | (exact HKW.out.m3.alloc _))).mono ?_); rintro e w' ⟨rfl, hb1⟩; have z1 := hb1.size; have c5 := hb1.cell (p := ⟨wr.heap.size, 0, none⟩) (by simp); simp at c5 z1)
        go_roundg (5 - (4 + 1))
        case measure => have := HG.out; omega
        case rel => exact ⟨4 + 1, by omega, Nat.le_refl _, by first | rfl | go_num, HS.out, HB.out.trans (((Below.refl _ wr).alloc (Nat.le_refl _) _).trans (hb1.mono (by simp)) |>.mono hsz)⟩
      · have HS := hidE (show kO t = _ from kO_colonB hy)
        have HC := hidE (fun w => kcl_mark t [58] p3 w)
        try rw [numS_yes hy] at HC
        try rw [hy] at HC
        clear hy
        go_wp2_with (go_at_call 30; (with_reducible refine (HC.out _ (by first | exact hs | (exact HKW.out.m1.alloc _) | (exact HKW.out.m2.alloc _) | (exact HKW.out.m3.alloc _))).mono ?_); rintro e w' ⟨rfl, hb1⟩; have z1 := hb1.size; have c5 := hb1.cell (p := ⟨wr.heap.size, 0, none⟩) (by simp); simp at c5 z1)
        refine bodyPost_ret (v := .tuple #[.int .u8 (kO t).1, .int .i64 (kO t).2.1, .bool (kO t).2.2]) (by rw [HS.out]; simp [results, Try.results16, go_sem]) rfl ⟨rfl, HB.out.trans (((Below.refl _ wr).alloc (Nat.le_refl _) _).trans (hb1.mono (by simp)) |>.mono hsz)⟩
    · have HS := hidE (noUp_none HN.out)
      clear KW
      go_wp2
      refine bodyPost_ret (v := .tuple #[.int .u8 (kO t).1, .int .i64 (kO t).2.1, .bool (kO t).2.2]) (by rw [HS.out]; simp [results, Try.results16, go_sem]) rfl ⟨rfl, HB.out⟩
end Go.Proofs.Ytpcgeaphfpcghaa

namespace Go.Proofs.Ytpcgeaphfpcghaa
open Go.RowKit

/-- What a body keeps: whatever lies below n₀, and whatever lay at or beyond n₁. -/
structure Outside (n₀ n₁ : Nat) (W W' : World) : Prop where
  below : Below n₀ W W'
  beyond : ∀ k, n₁ ≤ k → k < W.heap.size → W'.heap[k]? = W.heap[k]?
theorem Outside.refl (n₀ n₁ : Nat) (W : World) : Outside n₀ n₁ W W := ⟨Below.refl _ _, fun _ _ _ => rfl⟩
theorem Outside.trans {n₀ n₁ : Nat} {A B C : World} (h : Outside n₀ n₁ A B) (k : Outside n₀ n₁ B C) : Outside n₀ n₁ A C :=
  ⟨h.below.trans k.below, fun i hi hl => (k.beyond i hi (Nat.lt_of_lt_of_le hl h.below.size)).trans (h.beyond i hi hl)⟩
theorem Outside.of_below {n₀ n₁ : Nat} {A B : World} (h : Below A.heap.size A B) (hn : n₀ ≤ A.heap.size) : Outside n₀ n₁ A B := ⟨h.mono hn, fun k _ hl => h.block k hl⟩
theorem Outside.weak {n₀ n₁ n₁' : Nat} {A B : World} (h : Outside n₀ n₁ A B) (hn : n₁ ≤ n₁') : Outside n₀ n₁' A B := ⟨h.below, fun k hk hl => h.beyond k (by omega) hl⟩
/-- A turn of a block of the caller's own. -/
theorem Outside.of_grown {n₀ n₁ p : Nat} {A B : World} (h : A.grownBy B (some p)) (h0 : n₀ ≤ p) (h1 : p < n₁) (h2 : n₀ ≤ A.heap.size) : Outside n₀ n₁ A B :=
  ⟨⟨h.os, h.tape, h.output, h.size, fun k hk => h.block k (by omega) (fun e => by cases e; omega)⟩, fun k hk hl => h.block k hl (fun e => by cases e; omega)⟩

/-- The contract of an iterator value: it hands on the list S, one after the other, unless a round says 'no more'; whatever the caller's invariants are that speak only of what lay ahead of the iterator's call. -/
def SeqT {α : Type} (P : Program) (gf : Nat) (rb lb : Array Value) (encs : α → Array Value) (n₀ : Nat) (S : List α) (w : World) : Prop :=
  ∀ (l : Nat) (J Jx : List α → World → Prop) (W : World), Below w.heap.size w W →
    (∀ s A B, J s A → Below W.heap.size A B → J s B) → (∀ s A B, Jx s A → Below W.heap.size A B → Jx s B) →
    (∀ pre x W1, J pre W1 → pre ++ [x] <+: S → YieldAt Fence.wide 0 P l (encs x) W1 fun e W' =>
      (e = .returned (.bool true) ∧ J (pre ++ [x]) W' ∧ Outside n₀ W.heap.size W1 W') ∨ (e = .returned (.bool false) ∧ Jx (pre ++ [x]) W')) →
    J [] W →
    Calls P gf (rb ++ #[.func (.yield l) #[] #[]] ++ lb) W fun e W' => (∃ v, e = .returned v) ∧ (J S W' ∨ ∃ pre, pre <+: S ∧ Jx pre W')

/-- How the body of a round may be left. -/
def postT {α : Type} (n₀ n₁ : Nat) (I : List α → World → Prop) (Ix : Code → List α → World → Prop) (xs : List α) (W : World) : Exit → Act → World → Prop
  | .normal, _, W' => Outside n₀ n₁ W W' ∧ I xs W'
  | .ret, _, W' => Outside n₀ n₁ W W' ∧ Ix .ret xs W'
  | .exit id, _, W' => Outside n₀ n₁ W W' ∧ Ix (.exit id) xs W'
  | .goto t, _, W' => Outside n₀ n₁ W W' ∧ Ix (.goto t) xs W'
  | .panic _, _, _ => False
  | .outgrown, _, _ => False

theorem below_putObj {B : Nat} (W : World) (l : Nat) (o : Obj) (h : B ≤ l) : Below B W (W.putObj l o) :=
  ⟨rfl, rfl, rfl, by simp, fun k hk => World.putObj_heap_other (by omega)⟩

theorem grown_putObj (W : World) (l : Nat) (o : Obj) : W.grownBy (W.putObj l o) (some l) :=
  ⟨rfl, rfl, rfl, by simp, fun k _ hk => World.putObj_heap_other (fun e => hk (by rw [e]))⟩
/-- The statement. -/
theorem wp_rangeFunc_T {α : Type} {P : Program} {g : Operand} {ps : Array Tmp} {assign body : Code} {Q : Exit → Act → World → Prop} {a : Act} {w : World}
    {gf : Nat} {rb lb : Array Value} (hg : a.eval g = .func (.func gf) rb lb) (eg : ∀ args w, (callFunc gf args).run P w = .ok (.enter gf args) w)
    {encs : α → Array Value} {n₀ : Nat} (hn₀ : n₀ ≤ w.heap.size) {S : List α} (hseq : SeqT P gf rb lb encs n₀ S w) (hps : ∀ x, (encs x).size = ps.size)
    (I : List α → World → Prop) (Ix : Code → List α → World → Prop) (hI : ∀ s A B, I s A → Below w.heap.size A B → I s B) (hIx : ∀ c s A B, Ix c s A → Below w.heap.size A B → Ix c s B) (h0 : I [] w)
    (Ax : α → Act → World → Prop) (hAx : ∀ x a' A l r o, Ax x a' A → A.heap[l]? = some (.loop r) → Ax x a' (A.putObj l o))
    (hassign : ∀ (l : Nat) (pre : List α) (x : α) (W : World) (K : Act → World → Prop), w.heap.size ≤ W.heap.size → I pre W → (∀ a' W', Outside n₀ w.heap.size W W' → I pre W' → Ax x a' W' → K a' W') →
      assign.wpIn (Fence.wide.inRound l) 0 P (Exit.then K (fun _ _ _ => False)) { tmps := (ps.zip (encs x)).foldl (fun t (p, v) => t.setIfInBounds p v) a.tmps, defers := [] } W)
    (hbody : ∀ (l : Nat) (pre : List α) (x : α) (a' : Act) (W : World), w.heap.size ≤ W.heap.size → I pre W → Ax x a' W → pre ++ [x] <+: S → body.wpIn (Fence.wide.inRound l) 0 P (postT n₀ w.heap.size I Ix (pre ++ [x]) W) a' W)
    (hdone : ∀ (D : Nat) (W : World), w.heap.size ≤ D → I S W → W.heap[D]? = some (.deferred (some [])) → Q .normal { a with defers := { target := .collected D, args := #[] } :: a.defers } W)
    (hstop : ∀ (D : Nat) (c : Code) (pre : List α) (W : World), w.heap.size ≤ D → pre <+: S → Ix c pre W → W.heap[D]? = some (.deferred (some [])) → c.wp P Q { a with defers := { target := .collected D, args := #[] } :: a.defers } W) :
    (Code.rangeFunc g ps assign body).wp P Q a w := by
  refine (wpIn_wide (n := 0)).1 (wpIn_rangeFunc ?_)
  intro fn hfn
  obtain ⟨rec, hrec⟩ : ∃ rec : LoopState → Option Code → Loop, rec = fun st pe => { state := st, pending := pe, fn, tmps := a.tmps, params := ps, assign, body, defers := w.heap.size } := ⟨_, rfl⟩
  obtain ⟨W1, hW1⟩ : ∃ W1, (w.alloc (.deferred (some []))).alloc (.loop (rec .ready none)) = W1 := ⟨_, rfl⟩
  have hL1 : W1.heap[w.heap.size + 1]? = some (.loop (rec .ready none)) := by
    rw [← hW1]; have := World.alloc_heap_new (w.alloc (.deferred (some []))) (.loop (rec .ready none)); rwa [World.size_alloc] at this
  have hK1 : W1.heap[w.heap.size]? = some (.deferred (some [])) := by
    rw [← hW1]; exact (Below.heap_alloc _ _ _ (by simp)).trans (World.alloc_heap_new w _)
  have hb1 : Below w.heap.size w W1 := by
    rw [← hW1]; exact ((Below.refl _ w).alloc (Nat.le_refl _) _).alloc (by simp) _
  have hs1 : W1.heap.size = w.heap.size + 2 := by rw [← hW1]; simp
  have hI1 : I [] W1 := hI _ _ _ h0 hb1
  refine ⟨w.heap.size + 1, [{ target := .collected w.heap.size, args := #[] }], W1, { target := .fn (.func gf) lb, args := rb ++ #[.func (.yield (w.heap.size + 1)) #[] #[]] }, W1, gf,
    rb ++ #[.func (.yield (w.heap.size + 1)) #[] #[]] ++ lb, W1, ?_, ?_, ?_, ?_, fun h => by simp [Fence.wide] at h, ?_⟩
  · rw [← hW1, hrec]; exact run_enterLoop_outer _ _ _ _ _
  · simp only [resolve, hg]
    simp [go_sem, Deferred.ofValue]
  · intro f' hf'; trivial
  · simp [invoke, go_sem, eg]
  · refine callsIn_wide.2 ?_
    refine (hseq (w.heap.size + 1)
      (fun pre W => I pre W ∧ W.heap[w.heap.size + 1]? = some (.loop (rec .ready none)) ∧ W.heap[w.heap.size]? = some (.deferred (some [])) ∧ w.heap.size ≤ W.heap.size)
      (fun pre W => ∃ c, Ix c pre W ∧ W.heap[w.heap.size + 1]? = some (.loop (rec .done (some c))) ∧ W.heap[w.heap.size]? = some (.deferred (some [])))
      W1 hb1
      (fun s A B hs hg' => ⟨hI s A B hs.1 (hg'.mono (by omega)), (hg'.block _ (by omega)).trans hs.2.1, (hg'.block _ (by omega)).trans hs.2.2.1, Nat.le_trans hs.2.2.2 hg'.size⟩)
      (fun s A B hs hg' => by
        obtain ⟨c, hc, hl, hk⟩ := hs
        exact ⟨c, hIx c s A B hc (hg'.mono (by omega)), (hg'.block _ (by omega)).trans hl, (hg'.block _ (by omega)).trans hk⟩)
      ?_ ⟨hI1, hL1, hK1, hb1.size⟩).mono ?_
    · -- one round
      rintro pre x W ⟨hi, hl, hk, hsz⟩ hpre
      have hlt : w.heap.size + 1 < W.heap.size := (Array.getElem?_eq_some_iff.1 hl).1
      have hy := run_yield (P := P) (args := encs x) hl (by rw [hrec]; exact hps x)
      rw [hrec] at hy
      refine ⟨fn, _, assign, body, hy, roundIn_of_wpIn trivial (hassign _ pre x W _ hsz hi ?_)⟩
      clear hy
      intro a' Wa hoa hia hax
      have hla := (hoa.beyond _ (by omega) hlt).trans hl
      have hka := (hoa.beyond _ (Nat.le_refl _) (by omega)).trans hk
      have hlta : w.heap.size + 1 < Wa.heap.size := Nat.lt_of_lt_of_le hlt hoa.below.size
      refine ⟨_, run_beginRound hla (by rw [hrec]), ?_⟩
      have hl2 : (Wa.putObj (w.heap.size + 1) (.loop { rec .ready none with state := .busy })).heap[w.heap.size + 1]? = some (.loop { rec .ready none with state := .busy }) := World.putObj_heap_same hlta
      have hk2 : (Wa.putObj (w.heap.size + 1) (.loop { rec .ready none with state := .busy })).heap[w.heap.size]? = some (.deferred (some [])) := (World.putObj_heap_other (by omega)).trans hka
      have hb2 : Below w.heap.size Wa (Wa.putObj (w.heap.size + 1) (.loop { rec .ready none with state := .busy })) := below_putObj _ _ _ (by omega)
      refine wpIn_mono (hbody _ pre x a' _ (by simp; omega) (hI _ _ _ hia hb2) (hAx _ _ _ _ _ _ hax hla) hpre) ?_
      have fin : ∀ (jump : Option Code) (W3 : World), Outside n₀ w.heap.size (Wa.putObj (w.heap.size + 1) (.loop { rec .ready none with state := .busy })) W3 →
          (Instr.endRound (w.heap.size + 1) jump).run P W3 = .ok (.bool jump.isNone) (W3.putObj (w.heap.size + 1) (.loop (rec (if jump.isNone then .ready else .done) jump))) ∧
          (W3.putObj (w.heap.size + 1) (.loop (rec (if jump.isNone then .ready else .done) jump))).heap[w.heap.size + 1]? = some (.loop (rec (if jump.isNone then .ready else .done) jump)) ∧
          (W3.putObj (w.heap.size + 1) (.loop (rec (if jump.isNone then .ready else .done) jump))).heap[w.heap.size]? = some (.deferred (some [])) ∧
          Below w.heap.size W3 (W3.putObj (w.heap.size + 1) (.loop (rec (if jump.isNone then .ready else .done) jump))) ∧
          Outside n₀ W1.heap.size W (W3.putObj (w.heap.size + 1) (.loop (rec (if jump.isNone then .ready else .done) jump))) := fun jump W3 ho3 => by
        have hl3 := (ho3.beyond (w.heap.size + 1) (by omega) (by simp; omega)).trans hl2
        have hk3 := (ho3.beyond w.heap.size (Nat.le_refl _) (by simp; omega)).trans hk2
        have hr := run_endRound (P := P) jump hl3
        have hsz3 : w.heap.size + 1 < W3.heap.size := (Array.getElem?_eq_some_iff.1 hl3).1
        refine ⟨?_, World.putObj_heap_same hsz3, (World.putObj_heap_other (by omega)).trans hk3, below_putObj _ _ _ (by omega), ?_⟩
        · rw [hrec] at hr ⊢; exact hr
        · have e1 : Outside n₀ W1.heap.size Wa (Wa.putObj (w.heap.size + 1) (.loop { rec .ready none with state := .busy })) := Outside.of_grown (grown_putObj _ _ _) (by omega) (by omega) (by omega)
          have e2 : Outside n₀ W1.heap.size W3 (W3.putObj (w.heap.size + 1) (.loop (rec (if jump.isNone then .ready else .done) jump))) := Outside.of_grown (grown_putObj _ _ _) (by omega) (by omega) (by omega)
          exact (((hoa.weak (by omega)).trans e1).trans (ho3.weak (by omega))).trans e2
      rintro e a3 W3 hp
      cases e with
      | normal =>
        obtain ⟨hk3, hi3⟩ := hp
        obtain ⟨hr, hl4, hk4, hb4, ho4⟩ := fin none W3 hk3
        exact ⟨_, _, hr, .inl ⟨rfl, ⟨hI _ _ _ hi3 hb4, hl4, hk4, Nat.le_trans (by have := hk3.below.size; simp at this; omega) hb4.size⟩, ho4⟩⟩
      | ret =>
        obtain ⟨hk3, hi3⟩ := hp
        obtain ⟨hr, hl4, hk4, hb4, ho4⟩ := fin (some .ret) W3 hk3
        exact ⟨_, _, hr, .inr ⟨rfl, .ret, hIx _ _ _ _ hi3 hb4, hl4, hk4⟩⟩
      | exit id =>
        obtain ⟨hk3, hi3⟩ := hp
        obtain ⟨hr, hl4, hk4, hb4, ho4⟩ := fin (some (.exit id)) W3 hk3
        exact ⟨_, _, hr, .inr ⟨rfl, .exit id, hIx _ _ _ _ hi3 hb4, hl4, hk4⟩⟩
      | goto t =>
        obtain ⟨hk3, hi3⟩ := hp
        obtain ⟨hr, hl4, hk4, hb4, ho4⟩ := fin (some (.goto t)) W3 hk3
        exact ⟨_, _, hr, .inr ⟨rfl, .goto t, hIx _ _ _ _ hi3 hb4, hl4, hk4⟩⟩
      | panic ch => exact hp.elim
      | outgrown => exact hp.elim
    · -- behind the iterator
      rintro e W2 ⟨⟨v, rfl⟩, (⟨hi, hl, hk, _⟩ | ⟨pre, hSp, c, hi, hl, hk⟩)⟩
      · exact ⟨none, _, by have := run_endLoop (P := P) hl (by rw [hrec]; simp); rw [hrec] at this; exact this, hdone _ _ (Nat.le_refl _) (hI _ _ _ hi (below_putObj _ _ _ (by omega))) ((World.putObj_heap_other (by omega)).trans hk)⟩
      · exact ⟨some c, _, by have := run_endLoop (P := P) hl (by rw [hrec]; simp); rw [hrec] at this; exact this, (wpIn_wide (n := 0)).2 (hstop _ c pre _ (Nat.le_refl _) hSp (hIx _ _ _ _ hi (below_putObj _ _ _ (by omega))) ((World.putObj_heap_other (by omega)).trans hk))⟩
end Go.Proofs.Ytpcgeaphfpcghaa

namespace Go.Proofs.Ytpcgeaphfpcghaa
open Go.RowKit

/-- The contract of an iterator value, as SeqT, with the one block that the body made in an earlier round and may write again (g: from where on the body's blocks lie, and that block), and what it reads of the caller's (K). -/
def SeqX {α : Type} (P : Program) (gf : Nat) (rb lb : Array Value) (encs : α → Array Value) (n₀ : Nat) (K : World → Prop) (S : List α) (w : World) : Prop :=
  ∀ (l : Nat) (J : List α → Option (Nat × Nat) → World → Prop) (Jx : List α → World → Prop) (W : World), Below w.heap.size w W →
    (∀ s g A B, J s g A → Below W.heap.size A B → (∀ b k, g = some (b, k) → B.heap[k]? = A.heap[k]?) → J s g B) → (∀ s g A, J s g A → ∀ b k, g = some (b, k) → b ≤ k ∧ k < A.heap.size) → (∀ s g A, J s g A → K A) → (∀ s A B, Jx s A → Below W.heap.size A B → Jx s B) →
    (∀ pre x g W1, J pre g W1 → W.heap.size ≤ W1.heap.size → pre ++ [x] <+: S → YieldAt Fence.wide 0 P l (encs x) W1 fun e W' =>
      (e = .returned (.bool true) ∧ ∃ g', J (pre ++ [x]) g' W' ∧ Below n₀ W1 W' ∧ (∀ k, W.heap.size ≤ k → k < W1.heap.size → (∀ b, g ≠ some (b, k)) → W'.heap[k]? = W1.heap[k]?) ∧ (∀ b k, g' = some (b, k) → W1.heap.size ≤ b ∨ ∃ j, g = some (b, j))) ∨ (e = .returned (.bool false) ∧ Jx (pre ++ [x]) W')) →
    J [] none W →
    Calls P gf (rb ++ #[.func (.yield l) #[] #[]] ++ lb) W fun e W' => (∃ v, e = .returned v) ∧ ((∃ g, J S g W') ∨ ∃ pre, pre <+: S ∧ Jx pre W')

/-- How the body of a round may be left: by its end, or by a return. -/
def postX {α : Type} (n₀ n₁ : Nat) (I : List α → Option (Nat × Nat) → World → Prop) (Ix : List α → World → Prop) (xs : List α) (g : Option (Nat × Nat)) (W : World) : Exit → Act → World → Prop
  | .normal, _, W' => ∃ g', I xs g' W' ∧ Below n₀ W W' ∧ (∀ k, n₁ ≤ k → k < W.heap.size → (∀ b, g ≠ some (b, k)) → W'.heap[k]? = W.heap[k]?) ∧ (∀ b k, g' = some (b, k) → W.heap.size ≤ b ∨ ∃ j, g = some (b, j))
  | .ret, _, W' => Ix xs W' ∧ (∀ k, n₁ ≤ k → k < n₁ + 2 → k < W.heap.size → W'.heap[k]? = W.heap[k]?)
  | _, _, _ => False

/-- The statement. -/
theorem wp_rangeFunc_X {α : Type} {P : Program} {gop : Operand} {ps : Array Tmp} {assign body : Code} {Q : Exit → Act → World → Prop} {a : Act} {w : World}
    {gf : Nat} {rb lb : Array Value} (hg : a.eval gop = .func (.func gf) rb lb) (eg : ∀ args w, (callFunc gf args).run P w = .ok (.enter gf args) w)
    {encs : α → Array Value} {n₀ : Nat} (hn₀ : n₀ ≤ w.heap.size) {S : List α} {K : World → Prop} (hseq : SeqX P gf rb lb encs n₀ K S w) (hps : ∀ x, (encs x).size = ps.size)
    (I : List α → Option (Nat × Nat) → World → Prop) (hI : ∀ s g A B, I s g A → Below w.heap.size A B → (∀ b k, g = some (b, k) → B.heap[k]? = A.heap[k]?) → I s g B) (hIg : ∀ s g A, I s g A → ∀ b k, g = some (b, k) → b ≤ k ∧ k < A.heap.size) (hIK : ∀ s g A, I s g A → K A) (h0 : I [] none w)
    (Ix : List α → World → Prop) (hIx : ∀ s A B, Ix s A → Below w.heap.size A B → Ix s B)
    (Ax : α → Act → World → Prop) (hAx : ∀ x a' A l r o, Ax x a' A → A.heap[l]? = some (.loop r) → Ax x a' (A.putObj l o))
    (hassign : ∀ (l : Nat) (pre : List α) (x : α) (g : Option (Nat × Nat)) (W : World) (K' : Act → World → Prop), w.heap.size ≤ W.heap.size → I pre g W → (∀ a' W', Below W.heap.size W W' → I pre g W' → Ax x a' W' → K' a' W') →
      assign.wpIn (Fence.wide.inRound l) 0 P (Exit.then K' (fun _ _ _ => False)) { tmps := (ps.zip (encs x)).foldl (fun t (p, v) => t.setIfInBounds p v) a.tmps, defers := [] } W)
    (hbody : ∀ (l : Nat) (pre : List α) (x : α) (g : Option (Nat × Nat)) (a' : Act) (W : World), w.heap.size ≤ W.heap.size → I pre g W → Ax x a' W → pre ++ [x] <+: S → body.wpIn (Fence.wide.inRound l) 0 P (postX n₀ w.heap.size I Ix (pre ++ [x]) g W) a' W)
    (hdone : ∀ (D : Nat) (g : Option (Nat × Nat)) (W : World), D = w.heap.size → I S g W → (∀ b k, g = some (b, k) → w.heap.size + 2 ≤ b) → W.heap[D]? = some (.deferred (some [])) → Q .normal { a with defers := { target := .collected D, args := #[] } :: a.defers } W)
    (hstop : ∀ (D : Nat) (pre : List α) (W : World), D = w.heap.size → pre <+: S → Ix pre W → W.heap[D]? = some (.deferred (some [])) → Code.ret.wp P Q { a with defers := { target := .collected D, args := #[] } :: a.defers } W) :
    (Code.rangeFunc gop ps assign body).wp P Q a w := by
  refine (wpIn_wide (n := 0)).1 (wpIn_rangeFunc ?_)
  intro fn hfn
  obtain ⟨rec, hrec⟩ : ∃ rec : LoopState → Option Code → Loop, rec = fun st pe => { state := st, pending := pe, fn, tmps := a.tmps, params := ps, assign, body, defers := w.heap.size } := ⟨_, rfl⟩
  obtain ⟨W1, hW1⟩ : ∃ W1, (w.alloc (.deferred (some []))).alloc (.loop (rec .ready none)) = W1 := ⟨_, rfl⟩
  have hL1 : W1.heap[w.heap.size + 1]? = some (.loop (rec .ready none)) := by
    rw [← hW1]; have := World.alloc_heap_new (w.alloc (.deferred (some []))) (.loop (rec .ready none)); rwa [World.size_alloc] at this
  have hK1 : W1.heap[w.heap.size]? = some (.deferred (some [])) := by
    rw [← hW1]; exact (Below.heap_alloc _ _ _ (by simp)).trans (World.alloc_heap_new w _)
  have hb1 : Below w.heap.size w W1 := by
    rw [← hW1]; exact ((Below.refl _ w).alloc (Nat.le_refl _) _).alloc (by simp) _
  have hs1 : W1.heap.size = w.heap.size + 2 := by rw [← hW1]; simp
  have hI1 : I [] none W1 := hI _ _ _ _ h0 hb1 (fun b k hk => by cases hk)
  refine ⟨w.heap.size + 1, [{ target := .collected w.heap.size, args := #[] }], W1, { target := .fn (.func gf) lb, args := rb ++ #[.func (.yield (w.heap.size + 1)) #[] #[]] }, W1, gf,
    rb ++ #[.func (.yield (w.heap.size + 1)) #[] #[]] ++ lb, W1, ?_, ?_, ?_, ?_, fun h => by simp [Fence.wide] at h, ?_⟩
  · rw [← hW1, hrec]; exact run_enterLoop_outer _ _ _ _ _
  · simp only [resolve, hg]
    simp [go_sem, Deferred.ofValue]
  · intro f' hf'; trivial
  · simp [invoke, go_sem, eg]
  · refine callsIn_wide.2 ?_
    refine (hseq (w.heap.size + 1)
      (fun pre g W => I pre g W ∧ W.heap[w.heap.size + 1]? = some (.loop (rec .ready none)) ∧ W.heap[w.heap.size]? = some (.deferred (some [])) ∧ w.heap.size ≤ W.heap.size ∧ ∀ b k, g = some (b, k) → w.heap.size + 2 ≤ b)
      (fun pre W => Ix pre W ∧ W.heap[w.heap.size + 1]? = some (.loop (rec .done (some .ret))) ∧ W.heap[w.heap.size]? = some (.deferred (some [])))
      W1 hb1
      (fun s g A B hs hb hk => ⟨hI s g A B hs.1 (hb.mono (by omega)) hk, (hb.block _ (by omega)).trans hs.2.1, (hb.block _ (by omega)).trans hs.2.2.1, Nat.le_trans hs.2.2.2.1 hb.size, hs.2.2.2.2⟩)
      (fun s g A hs b k hk => hIg s g A hs.1 b k hk)
      (fun s g A hs => hIK s g A hs.1)
      (fun s A B hs hb => ⟨hIx s A B hs.1 (hb.mono (by omega)), (hb.block _ (by omega)).trans hs.2.1, (hb.block _ (by omega)).trans hs.2.2⟩)
      ?_ ⟨hI1, hL1, hK1, hb1.size, fun b k hk => by cases hk⟩).mono ?_
    · -- one round
      rintro pre x g W ⟨hi, hl, hk, hsz, hg0⟩ hW1z hpre
      have hlt : w.heap.size + 1 < W.heap.size := (Array.getElem?_eq_some_iff.1 hl).1
      have hy := run_yield (P := P) (args := encs x) hl (by rw [hrec]; exact hps x)
      rw [hrec] at hy
      refine ⟨fn, _, assign, body, hy, roundIn_of_wpIn trivial (hassign _ pre x g W _ hsz hi ?_)⟩
      clear hy
      intro a' Wa hoa hia hax
      have hla := (hoa.block (w.heap.size + 1) hlt).trans hl
      have hka := (hoa.block w.heap.size (by omega)).trans hk
      have hlta : w.heap.size + 1 < Wa.heap.size := Nat.lt_of_lt_of_le hlt hoa.size
      refine ⟨_, run_beginRound hla (by rw [hrec]), ?_⟩
      have hl2 : (Wa.putObj (w.heap.size + 1) (.loop { rec .ready none with state := .busy })).heap[w.heap.size + 1]? = some (.loop { rec .ready none with state := .busy }) := World.putObj_heap_same hlta
      have hk2 : (Wa.putObj (w.heap.size + 1) (.loop { rec .ready none with state := .busy })).heap[w.heap.size]? = some (.deferred (some [])) := (World.putObj_heap_other (by omega)).trans hka
      have hb2 : Below w.heap.size Wa (Wa.putObj (w.heap.size + 1) (.loop { rec .ready none with state := .busy })) := below_putObj _ _ _ (by omega)
      refine wpIn_mono (hbody _ pre x g a' _ (by have := hoa.size; simp; omega) (hI _ _ _ _ hia hb2 (fun b k hk => World.putObj_heap_other (fun e => by have := hg0 b k hk; have := (hIg _ _ _ hi b k hk).1; omega))) (hAx _ _ _ _ _ _ hax hla) hpre) ?_
      rintro e a3 W3 hp
      cases e with
      | normal =>
        obtain ⟨g', hi3, hb3, hk3, hg3⟩ := hp
        have hz3 := hb3.size
        have hl3 := (hk3 (w.heap.size + 1) (by omega) (by simp; omega) (fun b e => by have := hg0 b _ e; have := (hIg _ _ _ hi b _ e).1; omega)).trans hl2
        have hd3 := (hk3 w.heap.size (Nat.le_refl _) (by simp; omega) (fun b e => by have := hg0 b _ e; have := (hIg _ _ _ hi b _ e).1; omega)).trans hk2
        have hr := run_endRound (P := P) (none : Option Code) hl3
        have hsz3 : w.heap.size + 1 < W3.heap.size := (Array.getElem?_eq_some_iff.1 hl3).1
        have hzz : W.heap.size ≤ W3.heap.size := by have := hoa.size; simp at hz3; omega
        have hg0' : ∀ b k, g' = some (b, k) → w.heap.size + 2 ≤ b := fun b k e => by
          rcases hg3 b k e with h | ⟨j, h⟩
          · simp at h
            have := hoa.size
            omega
          · exact hg0 b j h
        have hb4 : Below w.heap.size W3 (W3.putObj (w.heap.size + 1) (.loop (rec .ready none))) := below_putObj _ _ _ (by omega)
        refine ⟨.bool true, W3.putObj (w.heap.size + 1) (.loop (rec .ready none)), ?_, .inl ⟨rfl, g', ⟨hI _ _ _ _ hi3 hb4 (fun b k hk => World.putObj_heap_other (fun e => by have := hg0' b k hk; have := (hIg _ _ _ hi3 b k hk).1; omega)), World.putObj_heap_same hsz3, (World.putObj_heap_other (by omega)).trans hd3, by simp; omega, hg0'⟩, ?_, ?_, ?_⟩⟩
        · rw [hrec] at hr ⊢; exact hr
        · exact ((hoa.mono (by omega)).trans (hb2.mono hn₀)).trans (hb3.trans (hb4.mono hn₀))
        · intro k h1 h2 h3
          have h4 : k ≠ w.heap.size + 1 := by omega
          exact (World.putObj_heap_other h4).trans ((hk3 k (by omega) (by have := hoa.size; simp; omega) h3).trans ((World.putObj_heap_other h4).trans (hoa.block k h2)))
        · intro b k e
          rcases hg3 b k e with h | h
          · exact .inl (by have := hoa.size; simp at h; omega)
          · exact .inr h
      | ret =>
        obtain ⟨hi3, hk3⟩ := hp
        have hl3 := (hk3 (w.heap.size + 1) (by omega) (by omega) (by simp; omega)).trans hl2
        have hd3 := (hk3 w.heap.size (Nat.le_refl _) (by omega) (by simp; omega)).trans hk2
        have hr := run_endRound (P := P) (some Code.ret) hl3
        have hsz3 : w.heap.size + 1 < W3.heap.size := (Array.getElem?_eq_some_iff.1 hl3).1
        refine ⟨.bool false, W3.putObj (w.heap.size + 1) (.loop (rec .done (some .ret))), ?_, .inr ⟨rfl, hIx _ _ _ hi3 (below_putObj _ _ _ (by omega)), World.putObj_heap_same hsz3, (World.putObj_heap_other (by omega)).trans hd3⟩⟩
        rw [hrec] at hr ⊢; exact hr
      | exit id => exact hp.elim
      | goto t => exact hp.elim
      | panic ch => exact hp.elim
      | outgrown => exact hp.elim
    · -- behind the iterator
      rintro e W2 ⟨⟨v, rfl⟩, (⟨g, hi, hl, hk, hz, hg0⟩ | ⟨pre, hSp, hi, hl, hk⟩)⟩
      · exact ⟨none, _, by have := run_endLoop (P := P) hl (by rw [hrec]; simp); rw [hrec] at this; exact this, hdone _ g _ rfl (hI _ _ _ _ hi (below_putObj _ _ _ (by omega)) (fun b k hk => World.putObj_heap_other (fun e => by have := hg0 b k hk; have := (hIg _ _ _ hi b k hk).1; omega))) hg0 ((World.putObj_heap_other (by omega)).trans hk)⟩
      · exact ⟨some .ret, _, by have := run_endLoop (P := P) hl (by rw [hrec]; simp); rw [hrec] at this; exact this, (wpIn_wide (n := 0)).2 (hstop _ pre _ rfl hSp (hIx _ _ _ hi (below_putObj _ _ _ (by omega))) ((World.putObj_heap_other (by omega)).trans hk))⟩
end Go.Proofs.Ytpcgeaphfpcghaa

namespace Go.Proofs.Ytpcgeaphfpcghaa
open Go.ChangeShapes Go.WideShapes Go.ChangeAt Go.RowKit Go.Shelf
attribute [local irreducible] Go.Calls
attribute [local go_sem] Oper.semAt_some

/-- What yield is handed. -/
def encR (x : Nat × List UInt8) : Array Value := #[.int .i64 x.1, strV x.2]

set_option maxRecDepth 100000 in
set_option maxHeartbeats 2000000 in
theorem runs_c (s : List UInt8) (p n0 : Nat) (w : World) (hs : s.length ≤ 1000000000) :
    SeqX Try.prog 26 #[] #[.pointer (some ⟨p, 0, none⟩)] encR n0 (fun W => Blk W p #[strV s] 9) (itemsG s.length 0 s) w := by
  intro l J Jx W hW hJ hJg hK hJx hY h0
  have H0 := hidE h0; have HK := hidE hK; have HY := hidE hY
  clear hJ hJg hJx hY h0 hK hW
  show Calls Try.prog 26 #[.func (.yield l) #[] #[], .pointer (some ⟨p, 0, none⟩)] W _
  have slen : (⟨s.toArray⟩ : ByteArray).size = s.length := by simp [ByteArray.size]
  go_enter Try.func26, Try.ntmps26
  go_wp2
  go_loopg [4] s.length (fun gh v4 wr => ∃ (k n : Nat) (pre : List (Nat × List UInt8)) (g : Option (Nat × Nat)), s.length - k ≤ gh ∧ k ≤ s.length ∧ v4 = .int .i64 k ∧ s.length - k ≤ n ∧ pre ++ itemsG n k s = itemsG s.length 0 s ∧ J pre g wr ∧ W.heap.size ≤ wr.heap.size)
  case atStart => exact ⟨0, s.length, [], none, Nat.sub_le _ _, Nat.zero_le _, rfl, Nat.sub_le _ _, rfl, H0.out, Nat.le_refl _⟩
  case round =>
    obtain ⟨k, n, pre, g, hgh, hk, rfl, hn, hpre, hJ1, hsz⟩ := hrel
    have blk := HK.out _ _ _ hJ1
    have c0 := blk.cell 0; have cz := blk.lt
    simp at c0
    have HJ1 := hidE hJ1; have HPRE := hidE hpre; have HG := hidE hgh; have HSZ := hidE hsz; have HN := hidE hn
    clear hJ1 hpre hgh hsz hn blk
    obtain ⟨wo, hwo⟩ : ∃ wo : World, wo = wr := ⟨_, rfl⟩
    by_cases hlt : k < s.length
    · obtain ⟨m, rfl⟩ : ∃ m, n = m + 1 := ⟨n - 1, by have := HN.out; omega⟩
      have d1 : decide ((k : Int) < (s.length : Int)) = true := decide_eq_true (by omega)
      have d1' : decide (k < s.length) = true := decide_eq_true hlt
      have HBH := hidE (fun w => behind_c s k w hs hlt)
      have hbt : ∀ h, (⟨s.toArray⟩ : ByteArray)[k]'h = s.getD k 0 := fun h => byte_at s h
      have HCL := hidE (fun w => class_c (s.getD k 0) w)
      have hg1 := bhd_gt s k; have hg2 := bhd_le hlt
      cases hw : whiteB (s.getD k 0)
      · have HP2 := hidE (show pre ++ [(k, (s.drop k).take (bhd s k - k))] ++ itemsG m (bhd s k) s = itemsG s.length 0 s by rw [← HPRE.out, items_run hlt hw, List.append_assoc]; rfl)
        have hpx : pre ++ [(k, (s.drop k).take (bhd s k - k))] <+: itemsG s.length 0 s := ⟨_, HP2.out⟩
        rw [hw] at HCL
        have hmid := str_mid s k (bhd s k)
        obtain ⟨fn, tmps, assign, body, hy, hR⟩ := HY.out pre _ g _ HJ1.out (by have := HSZ.out; omega) hpx
        dsimp only [encR] at hy
        have HPX := hidE hpx
        clear HPRE hpx hw
        generalize (!alnumB (s.getD k 0)) = ba at *
        generalize s.getD k 0 = c at *
        generalize (s.drop k).take (bhd s k - k) = X at *
        generalize bhd s k = te at *
        have b1 : (0 : Int) ≤ (k : Int) := by omega
        have b2 : (k : Int) ≤ (te : Int) := by omega
        have b3 : (te : Int) ≤ (s.length : Int) := by omega
        have b5 : (te : Int) ≤ ((⟨s.toArray⟩ : ByteArray).size : Int) := by rw [slen]; exact b3
        go_upto_region 6 with (first | (go_at_call 27; (with_reducible refine (HBH.out _).mono ?_); rintro e w' ⟨rfl, rfl⟩) | (go_at_call 28; (with_reducible refine (HCL.out _).mono ?_); rintro e w' ⟨rfl, rfl⟩))
        refine (wpIn_wide (n := 0)).1 ?_
        gi_wp2
        refine ⟨rfl, hR.mono ?_⟩
        clear hy hR
        rintro e W' (⟨rfl, g', hJ', hO, _, _⟩ | ⟨rfl, hJx'⟩)
        · gi_wp2
          go_wp2
          go_roundg (s.length - te)
          case measure => have := HG.out; omega
          case rel => exact ⟨te, m, _, g', Nat.le_refl _, by omega, rfl, by have := HN.out; omega, HP2.out, hJ', by have := hO.size; have := HSZ.out; omega⟩
        · gi_wp2
          go_wp2
          refine bodyPost_ret (results_none rfl _ _ _) rfl ?_
          exact ⟨⟨_, rfl⟩, .inr ⟨_, HPX.out, hJx'⟩⟩
      · have HP2 := hidE (show pre ++ itemsG m (bhd s k) s = itemsG s.length 0 s by rw [← HPRE.out, items_white hlt hw])
        rw [hw] at HCL
        clear HPRE hw
        generalize (!alnumB (s.getD k 0)) = ba at *
        generalize s.getD k 0 = c at *
        generalize bhd s k = te at *
        go_wp2_with (first | (go_at_call 27; (with_reducible refine (HBH.out _).mono ?_); rintro e w' ⟨rfl, rfl⟩) | (go_at_call 28; (with_reducible refine (HCL.out _).mono ?_); rintro e w' ⟨rfl, rfl⟩))
        go_roundg (s.length - te)
        case measure => have := HG.out; omega
        case rel => exact ⟨te, m, pre, g, Nat.le_refl _, by omega, rfl, by have := HN.out; omega, HP2.out, HJ1.out, HSZ.out⟩
    · have d1 : decide ((k : Int) < (s.length : Int)) = false := decide_eq_false (by omega)
      have d1' : decide (k < s.length) = false := decide_eq_false hlt
      have HP2 := hidE (show pre = itemsG s.length 0 s by rw [← HPRE.out, items_end hlt, List.append_nil])
      clear HPRE
      go_wp2
      go_end0
      exact ⟨⟨_, rfl⟩, .inl ⟨g, by rw [← HP2.out]; exact HJ1.out⟩⟩
end Go.Proofs.Ytpcgeaphfpcghaa

namespace Go.Proofs.Ytpcgeaphfpcghaa
open Go.ChangeShapes Go.WideShapes Go.ChangeAt Go.RowKit
attribute [local irreducible] Go.Calls

theorem own_below {w w' : World} {B : Nat} {e : TypeId} {sz : Nat} {v : Value} {n : Nat} {xs : List Value} (h : w.ownsRow B e sz v n xs) (hb : Below w.heap.size w w') : w'.ownsRow B e sz v n xs := by
  obtain ⟨h1, h2 | ⟨g, cap, cur, h3, h4, h5, h6⟩⟩ := h
  · exact ⟨h1, .inl h2⟩
  · exact ⟨h1, .inr ⟨g, cap, cur, h3, h4, (hb.block g (lt_of_block h5)).trans h5, h6⟩⟩
/-- The block that an append may write lies from the base on. -/
theorem own_block {w : World} {B : Nat} {e : TypeId} {sz : Nat} {v : Value} {n : Nat} {xs : List Value} (h : w.ownsRow B e sz v n xs) {k : Nat} (hk : v.ownBlock = some k) : B ≤ k := by
  obtain ⟨h1, h2 | ⟨g, cap, cur, h3, h4, h5, h6⟩⟩ := h
  · rw [h2.1] at hk; simp [Value.ownBlock] at hk
  · rw [h3] at hk; simp [Value.ownBlock] at hk; omega
theorem own_kept {A B : World} {β sz n : Nat} {e : TypeId} {v : Value} {xs : List Value} (h : A.ownsRow β e sz v n xs) (hk : ∀ k, v.ownBlock = some k → B.heap[k]? = A.heap[k]?) : B.ownsRow β e sz v n xs := by
  obtain ⟨h1, h2 | ⟨g, cap, cur, h3, h4, h5, h6⟩⟩ := h
  · exact ⟨h1, .inl h2⟩
  · exact ⟨h1, .inr ⟨g, cap, cur, h3, h4, (hk g (by rw [h3]; rfl)).trans h5, h6⟩⟩
theorem own_lt {A : World} {β sz n : Nat} {e : TypeId} {v : Value} {xs : List Value} (h : A.ownsRow β e sz v n xs) {k : Nat} (hk : v.ownBlock = some k) : k < A.heap.size := by
  obtain ⟨h1, h2 | ⟨g, cap, cur, h3, h4, h5, h6⟩⟩ := h
  · rw [h2.1] at hk; simp [Value.ownBlock] at hk
  · rw [h3] at hk; simp [Value.ownBlock] at hk; subst hk; exact lt_of_block h5
theorem own_has {A : World} {β sz n : Nat} {e : TypeId} {v : Value} {xs : List Value} (h : A.ownsRow β e sz v n xs) (hv : v ≠ .slice none 0 0) : ∃ k, v.ownBlock = some k := by
  obtain ⟨h1, h2 | ⟨g, cap, cur, h3, h4, h5, h6⟩⟩ := h
  · exact absurd h2.1 hv
  · exact ⟨g, by rw [h3]; rfl⟩
theorem own_sli {A : World} {β sz n : Nat} {e : TypeId} {v : Value} {xs : List Value} (h : A.ownsRow β e sz v n xs) : ∃ a cap, v = .slice a n cap := by
  obtain ⟨h1, h2 | ⟨g, cap, cur, h3, h4, h5, h6⟩⟩ := h
  · exact ⟨none, 0, by rw [h2.1, h2.2]⟩
  · exact ⟨_, cap, h3⟩
theorem own_nil {A : World} (β sz : Nat) (e : TypeId) : A.ownsRow β e sz (.slice none 0 0) 0 [] := ⟨by simp, .inl ⟨rfl, rfl⟩⟩
theorem keptS {w : World} {k b i : Nat} (h : k ≠ b) (v : Value) : (w.setCell ⟨b, i, none⟩ v).heap[k]? = w.heap[k]? := Below.heap_setCell _ _ _ _ h
theorem keptA {w : World} {k : Nat} (h : k < w.heap.size) (o : Obj) : (w.alloc o).heap[k]? = w.heap[k]? := Below.heap_alloc _ _ _ h
/-- The block p holds a slice that owns its row; g: from where on its blocks lie, and the one that it has. -/
def OwnI (w : World) (p : Nat) (t e : TypeId) (sz n : Nat) (xs : List Value) (g : Option (Nat × Nat)) (W : World) : Prop :=
  ∃ (v : Value) (β : Nat), Blk W p #[v] t ∧ Below w.heap.size w W ∧ W.ownsRow β e sz v n xs ∧ p < β ∧ β ≤ W.heap.size ∧ ((g = none ∧ v = .slice none 0 0) ∨ ∃ k, g = some (β, k) ∧ v.ownBlock = some k)
theorem ownI_keep {w : World} {p sz n : Nat} {t e : TypeId} {xs : List Value} {g : Option (Nat × Nat)} {A B : World} {m : Nat} (hp : p < m) (hn : w.heap.size ≤ m) (h : OwnI w p t e sz n xs g A) (hb : Below m A B) (hk : ∀ b k, g = some (b, k) → B.heap[k]? = A.heap[k]?) : OwnI w p t e sz n xs g B := by
  obtain ⟨v, β, h1, h2, h3, h4, h5, h6⟩ := h
  refine ⟨v, β, h1.below hb hp, h2.trans (hb.mono hn), own_kept h3 (fun k e => ?_), h4, Nat.le_trans h5 hb.size, h6⟩
  rcases h6 with ⟨_, q⟩ | ⟨k', q, q2⟩
  · rw [q] at e; simp [Value.ownBlock] at e
  · rw [q2] at e; cases e; exact hk _ _ q
theorem ownI_own {w : World} {p sz n : Nat} {t e : TypeId} {xs : List Value} {g : Option (Nat × Nat)} {A : World} (h : OwnI w p t e sz n xs g A) : ∀ b k, g = some (b, k) → b ≤ k ∧ k < A.heap.size := by
  obtain ⟨v, β, h1, h2, h3, h4, h5, h6⟩ := h
  rintro b k e
  rcases h6 with ⟨q, _⟩ | ⟨k', q, q2⟩
  · rw [q] at e; cases e
  · rw [q] at e; cases e
    exact ⟨own_block h3 q2, own_lt h3 q2⟩
theorem ownI_lt {w : World} {p sz n : Nat} {t e : TypeId} {xs : List Value} {g : Option (Nat × Nat)} {A : World} (h : OwnI w p t e sz n xs g A) : p < A.heap.size := by
  obtain ⟨v, β, h1, _⟩ := h
  exact h1.lt
/-- From where on what is appended may lie. -/
theorem ownI_base {w : World} {p sz n : Nat} {t e : TypeId} {xs : List Value} {g : Option (Nat × Nat)} {A : World} (h : OwnI w p t e sz n xs g A) : ∃ (av : Option Addr) (cap γ : Nat), Blk A p #[.slice av n cap] t ∧ Below w.heap.size w A ∧ A.ownsRow γ e sz (.slice av n cap) n xs ∧ p < γ ∧ γ ≤ A.heap.size ∧
    (∀ k, (Value.slice av n cap).ownBlock = some k → g = some (γ, k) ∧ γ ≤ k) ∧ (A.heap.size ≤ γ ∨ ∃ j, g = some (γ, j)) := by
  have hz := ownI_lt h
  obtain ⟨v, β, h1, h2, h3, h4, h5, h6⟩ := h
  obtain ⟨a, cap, rfl⟩ := own_sli h3
  rcases h6 with ⟨q, e'⟩ | ⟨k', q, q2⟩
  · have hx : A.ownsRow A.heap.size e sz (.slice a n cap) n xs := by
      obtain ⟨q1, q2 | ⟨g', cap', cur, q3, _⟩⟩ := h3
      · exact ⟨q1, .inl q2⟩
      · rw [q3] at e'; cases e'
    refine ⟨a, cap, A.heap.size, h1, h2, hx, hz, Nat.le_refl _, fun k hk => ?_, .inl (Nat.le_refl _)⟩
    rw [e'] at hk; simp [Value.ownBlock] at hk
  · exact ⟨a, cap, β, h1, h2, h3, h4, h5, fun k hk => ⟨by rw [q2] at hk; cases hk; exact q, own_block h3 hk⟩, .inr ⟨k', q⟩⟩
theorem grown_set (w : World) (p i : Nat) (v : Value) : w.grownBy (w.setCell ⟨p, i, none⟩ v) (some p) := ⟨rfl, rfl, rfl, by simp [World.setCell], fun k _ hk => Below.heap_setCell _ _ _ _ (fun e => hk (by rw [e]))⟩
theorem grown_trans {a b c : World} {r : Option Nat} (h : a.grownBy b r) (h' : b.grownBy c r) : a.grownBy c r :=
  ⟨h'.os.trans h.os, h'.tape.trans h.tape, h'.output.trans h.output, Nat.le_trans h.size h'.size, fun k hk hr => (h'.block k (Nat.lt_of_lt_of_le hk h.size) hr).trans (h.block k hk hr)⟩
theorem grown_refl (w : World) (r : Option Nat) : w.grownBy w r := ⟨rfl, rfl, rfl, Nat.le_refl _, fun _ _ _ => rfl⟩
theorem grown_any {w w' : World} {r : Option Nat} (h : Below w.heap.size w w') : w.grownBy w' r := ⟨h.os, h.tape, h.output, h.size, fun k hk _ => h.block k hk⟩
theorem Blk.grown {w w' : World} {k : Nat} {cs : Array Value} {t : TypeId} {r : Option Nat} (h : Blk w k cs t) (hg : w.grownBy w' r) (hr : some k ≠ r) : Blk w' k cs t := (hg.block k h.lt hr).trans h
theorem own_grown {w w' : World} {B p : Nat} {e : TypeId} {sz : Nat} {v : Value} {n : Nat} {xs : List Value} (h : w.ownsRow B e sz v n xs) (hg : w.grownBy w' (some p)) (hp : p < B) : w'.ownsRow B e sz v n xs := by
  obtain ⟨h1, h2 | ⟨g, cap, cur, h3, h4, h5, h6⟩⟩ := h
  · exact ⟨h1, .inl h2⟩
  · exact ⟨h1, .inr ⟨g, cap, cur, h3, h4, (hg.block g (lt_of_block h5) (fun e => by simp at e; omega)).trans h5, h6⟩⟩
end Go.Proofs.Ytpcgeaphfpcghaa
