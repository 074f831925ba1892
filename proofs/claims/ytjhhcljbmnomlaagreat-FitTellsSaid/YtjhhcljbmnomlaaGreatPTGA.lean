/- Program-free lemmas for walks over calls that make memory of their own. No conditions. From a walk to a statement: a law whose call answers true and only makes memory has its row. No conditions. A row of cells that is appended to, round by round: where it lies, and what turns of memory leave it as it is: for any kind of element. Program-free. No conditions. Slices that read as lists of runs, rows of runs that grow, and what Of and Box hand back. No function of the program. No conditions. A slice of runs that is handed in: its cells are integers. No conditions. For the statements' walks: slices that read as lists, made anew, handed back. No conditions. A slice of runs among a value's cells, as it is handed in. No conditions. Policies as values, and rows of them. No function of the program. No conditions. Policies, rows of them, three functions that are handed in. No conditions. Windows, pairs of small numbers, cases that are handed in. No conditions. Rows of cells, one a cell: of slices, of functions. No function of the program. No conditions. The contracts of calc.next and calc.pass. No conditions but that the slices' cells read as integers. A range over a function: an iterator that keeps state of its own in cells, and the law for its caller. The caller's own variables lie below where the loop begins; the iterator's own, and the loop's book-keeping, at or beyond. Program-free. No conditions. The contract of the iterator (calc.pair).together: it hands on the times, and both values, one after the other. No conditions but that the slices' cells read as integers, and sizes. The contracts of vec.May and what it calls: each gives what its plain function says, whatever it is given, and only makes memory. No conditions. The contracts of vec.Min and vec.Max. No conditions. The contracts of vec.Sub and Add, on what vec.May's text says. No conditions but that a slice's cells read as integers. -/
import Derived.WalkKit
import Derived.ProofKit
import Derived.OpenShut
import Derived.Below
import Derived.WalkSmall
import Derived.OneCell
import Derived.Deep.QuietTactic
import Derived.BigQuiet
import Derived.Test.YtjhhcljbmnomlaaGreatRows
import Derived.Carry
import Derived.Lib.SmallJoins
import Derived.Laws.AppendOwn
import Derived.Laws.OwnMore
import Derived.Test.YtjhhcljbmnomlaaGreatPTMA
import Derived.LoopTactic
import Derived.Deep.LoopGhost
import Derived.WalkMore
import Derived.ScopeJumps
import Derived.Deep.DeepCutAuto
import Derived.Outline
import Derived.BigRegion
import Derived.Test.YtjhhcljbmnomlaaGreatPTMB
import Derived.RangeFuncRecord
import Derived.RangeFuncSeq
import Derived.OwnWalkIn
namespace Go.Proofs.YtjhhcljbmnomlaaGreat
open Go.ChangeShapes Go.WideShapes Go.ChangeAt Go.RowKit

/-- The worlds that a call which only makes memory may leave behind W. -/
def Past (W : World) : Type := { w : World // Below W.heap.size W w }

instance (W : World) : Nonempty (Past W) := ⟨⟨W, Below.refl _ _⟩⟩

theorem Past.cell {W : World} (x : Past W) (b o : Nat) (h : b < W.heap.size) : x.1.cell? ⟨b, o, none⟩ = W.cell? ⟨b, o, none⟩ :=
  x.2.cell (p := ⟨b, o, none⟩) h
theorem Past.frozen {W : World} (x : Past W) (b o : Nat) (h : b < W.heap.size) : x.1.frozen? ⟨b, o, none⟩ = W.frozen? ⟨b, o, none⟩ :=
  x.2.frozen (p := ⟨b, o, none⟩) h

theorem bcell {W w1 : World} (hb : Below W.heap.size W w1) : (∀ b o, b < W.heap.size → w1.cell? ⟨b, o, none⟩ = W.cell? ⟨b, o, none⟩) ∧ (∀ b o, b < W.heap.size → w1.frozen? ⟨b, o, none⟩ = W.frozen? ⟨b, o, none⟩) :=
  ⟨fun b o h => hb.cell (p := ⟨b, o, none⟩) h, fun b o h => hb.frozen (p := ⟨b, o, none⟩) h⟩

theorem bsz {W w1 : World} (hb : Below W.heap.size W w1) (k : Nat) (h : k < W.heap.size) : k < w1.heap.size := Nat.lt_of_lt_of_le h hb.size

/-- A region that draws its order, whose operations read and call what only makes memory: one walk in the text's order. -/
theorem wp_region_past_lit {P : Program} {id : Nat} {Q : Exit → Act → World → Prop} {a : Act} {w : World} {l : List Oper} (hm : P.follows .mixedOrders = true) (hB : Region.lexB .any l.toArray = true)
    (h : wpQuiet P l.toArray (fun w' => ∃ x : Past w, w' = x.1) (fun a' => ∀ w', (∃ x : Past w, w' = x.1) → Q .normal a' w') l a) : (Code.region id l.toArray true).wp P Q a w :=
  wp_region_quiet (C := fun w' => ∃ x : Past w, w' = x.1) hm hB ⟨⟨_, (Below.refl _ _).drew⟩, rfl⟩ (by simpa using h)

theorem Past.call {P : Program} {f : FuncId} {args : Array Value} {W : World} {v : Value} (x : Past W)
    (h : Calls P f args x.1 fun e w' => e = .returned v ∧ Below x.1.heap.size x.1 w') : Calls P f args x.1 fun e w'' => e = .returned v ∧ ∃ y : Past W, w'' = y.1 :=
  h.mono fun _ _ ⟨he, hb⟩ => ⟨he, ⟨⟨_, x.2.trans (hb.mono x.2.size)⟩, rfl⟩⟩

theorem Past.same {P : Program} {f : FuncId} {args : Array Value} {W : World} {v : Value} (x : Past W)
    (h : Calls P f args x.1 fun e w' => e = .returned v ∧ w' = x.1) : Calls P f args x.1 fun e w'' => e = .returned v ∧ ∃ y : Past W, w'' = y.1 :=
  h.mono fun _ _ ⟨he, hb⟩ => ⟨he, ⟨x, hb⟩⟩

theorem same_below {P : Program} {f : FuncId} {args : Array Value} {w : World} {v : Value}
    (h : Calls P f args w fun e w' => e = .returned v ∧ w' = w) : Calls P f args w fun e w' => e = .returned v ∧ Below w.heap.size w w' :=
  h.mono fun _ _ ⟨he, hb⟩ => ⟨he, hb ▸ Below.refl _ _⟩

theorem Past.prop {W : World} (x : Past W) : Below W.heap.size W x.1 := x.2
theorem bstep {a W w' : World} (h : Below W.heap.size W w') (ha : Below a.heap.size a W) : Below a.heap.size a w' := ha.trans (h.mono ha.size)
theorem balloc {a w : World} (h : Below a.heap.size a w) (o : Obj) : Below a.heap.size a (w.alloc o) := h.alloc h.size o
theorem hidE {p : Prop} (h : p) : Hid p := h
/-- A block known whole, none of it a string's bytes. -/
def Blk (w : World) (k : Nat) (cs : Array Value) (t : TypeId) : Prop := w.heap[k]? = some (.cells cs t (0, 0))
theorem Blk.lt {w : World} {k : Nat} {cs : Array Value} {t : TypeId} (h : Blk w k cs t) : k < w.heap.size := lt_of_block h
theorem Blk.cell {w : World} {k : Nat} {cs : Array Value} {t : TypeId} (h : Blk w k cs t) (i : Nat) : w.cell? ⟨k, i, none⟩ = cs[i]? := by
  unfold Blk at h; simp [World.cell?, h]
theorem Blk.free {w : World} {k : Nat} {cs : Array Value} {t : TypeId} (h : Blk w k cs t) (i : Nat) : w.frozen? ⟨k, i, none⟩ = false := by
  unfold Blk at h; simp [World.frozen?, h]
theorem Blk.made (w : World) (cs : Array Value) (t : TypeId) : Blk (w.alloc (.cells cs t)) w.heap.size cs t := by
  show (w.heap.push _)[w.heap.size]? = _
  simp
theorem Blk.made_at (w : World) (cs : Array Value) (t : TypeId) (k : Nat) (h : k = w.heap.size) : Blk (w.alloc (.cells cs t)) k cs t := h ▸ Blk.made w cs t
theorem Blk.alloc {w : World} {k : Nat} {cs : Array Value} {t : TypeId} (h : Blk w k cs t) (o : Obj) : Blk (w.alloc o) k cs t := by
  have := h.lt
  show (w.heap.push _)[k]? = _
  rw [Array.getElem?_push, if_neg (by omega)]; exact h
theorem Blk.below {w w' : World} {k : Nat} {cs : Array Value} {t : TypeId} (h : Blk w k cs t) {B : Nat} (hb : Below B w w') (hk : k < B) : Blk w' k cs t := (hb.block k hk).trans h
theorem Blk.past {w w' : World} {k : Nat} {cs : Array Value} {t : TypeId} (h : Blk w k cs t) (hb : Below w.heap.size w w') : Blk w' k cs t := h.below hb h.lt
theorem Blk.drew {w : World} {k : Nat} {cs : Array Value} {t : TypeId} (h : Blk w k cs t) (n : Nat) : Blk (w.drewN n) k cs t := h
theorem Blk.set {w : World} {k : Nat} {cs : Array Value} {t : TypeId} (h : Blk w k cs t) (i : Nat) (v : Value) : Blk (w.setCell ⟨k, i, none⟩ v) k (cs.setIfInBounds i v) t := by
  have hlt := h.lt
  have h' : w.heap[k] = .cells cs t (0, 0) := by unfold Blk at h; simpa [Array.getElem?_eq_getElem hlt] using h
  show (w.heap.modify k _)[k]? = _
  rw [Array.getElem?_eq_getElem (by simpa using hlt), Array.getElem_modify_self, h']
  rfl
theorem Blk.other {w : World} {k : Nat} {cs : Array Value} {t : TypeId} (h : Blk w k cs t) {b i : Nat} (hb : k ≠ b) (v : Value) : Blk (w.setCell ⟨b, i, none⟩ v) k cs t :=
  (Below.heap_setCell w ⟨b, i, none⟩ v k hb).trans h
theorem ret_bool {a b : Bool} (h : a = b) : Ending.returned (.bool a) = .returned (.bool b) := by rw [h]
theorem ret_int {k : IntKind} {a b : Int} (h : a = b) : Ending.returned (.int k a) = .returned (.int k b) := by rw [h]
theorem ret_tup {a b : Array Value} (h : a = b) : Ending.returned (.tuple a) = .returned (.tuple b) := by rw [h]

/-- A bool of which something is known is handed back; the call only makes memory. -/
def RetB (w : World) (p : Bool → Prop) (e : Ending) (w' : World) : Prop := ∃ r : Bool, e = .returned (.bool r) ∧ p r ∧ Below w.heap.size w w'
/-- So a number. -/
def RetN (w : World) (p : Nat → Prop) (e : Ending) (w' : World) : Prop := ∃ n : Nat, e = .returned (.int .i64 n) ∧ p n ∧ Below w.heap.size w w'
/-- So a value. -/
def RetV (w : World) (p : Value → World → Prop) (e : Ending) (w' : World) : Prop := ∃ v : Value, e = .returned v ∧ p v w' ∧ Below w.heap.size w w'

end Go.Proofs.YtjhhcljbmnomlaaGreat

namespace Go.Proofs.YtjhhcljbmnomlaaGreat
open Go.ChangeShapes Go.WideShapes Go.ChangeAt Go.RowKit Go.WideElems

def readOk (P : Program) (ts : List TypeId) : Bool := ts.all fun t => P.readableRec t && decide (t < P.types.size)
theorem readOk_spec {P : Program} {ts : List TypeId} (h : readOk P ts = true) : ∀ t ∈ ts, P.readableRec t = true ∧ t < P.types.size := fun t ht => by
  have := List.all_eq_true.1 h t ht
  simpa using this
theorem own : ownKnob Tryz.prog.godebug = none := by kernel_rfl
theorem laidOut : laidOutB Tryz.prog = true := by kernel_rfl

section
variable {H : Type} {enc : TypeId × Value → H} {P : Program}

/-- What was read before reads so behind a call that only makes memory. -/
theorem trodAll_past (hl : laidOutB P = true) {W W' : World} (hb : Below W.heap.size W W') : ∀ (ts : List TypeId) (vs : List Value) (ds : List (DataW H)) (ps : List MemPlace),
    (∀ t ∈ ts, P.readableRec t = true ∧ t < P.types.size) → DataW.TrodAll enc P W 0 (fun _ => true) true ts vs ds ps → (∀ x ∈ ps, x.block < W.heap.size) →
    ∀ sp : Nat → Bool, (∀ x ∈ ps, sp x.block = true) → DataW.TrodAll enc P W' 0 sp true ts vs ds ps := by
  intro ts
  induction ts with
  | nil =>
    intro vs ds ps _ h _ sp _
    cases vs <;> cases ds <;> simp only [DataW.TrodAll] at h ⊢
    exact h
  | cons t ts ih =>
    intro vs ds ps hr h hlt sp hsp
    cases vs with
    | nil => cases ds <;> simp only [DataW.TrodAll] at h
    | cons v vs =>
      cases ds with
      | nil => simp only [DataW.TrodAll] at h
      | cons d ds =>
        simp only [DataW.TrodAll] at h ⊢
        obtain ⟨p, q, h1, h2, rfl⟩ := h
        have hr0 := hr t (by simp)
        exact ⟨p, q, WideElems.Trod_stays hl hr0.1 hr0.2 h1 (fun x hx => hb.same (hlt x (by simp [hx]))) (fun x hx => hsp x (by simp [hx])),
          ih vs ds q (fun u hu => hr u (by simp [hu])) h2 (fun x hx => hlt x (by simp [hx])) sp (fun x hx => hsp x (by simp [hx])), rfl⟩

/-- The row's last step. -/
theorem law_post {f : Func} {s : ChangeSpec} {rt : TypeId} {W W' : World} {args : Array Value} {ds gs : List (DataW H)} {before : List MemPlace}
    (hl : laidOutB P = true) (hread : ∀ t ∈ f.params.toList, P.readableRec t = true ∧ t < P.types.size) (hv : s.vars = []) (hbool : P.underlying rt = some .bool) (hrt : f.resultTypes = #[rt])
    (hfn : (s.fn H ds).results = [.lit (.bool true)] ∧ (s.fn H ds).args = ds ∧ (s.fn H ds).vars = [])
    (hW : DataW.Whole enc P f.params.toList s.vars false W args.toList ds gs before) (hb : Below W.heap.size W W') :
    s.post enc P f false true false false W args (.bool true) W' := by
  have hlt : ∀ x ∈ before, x.block < W.heap.size := fun x hx => hW.lt x hx
  have hW' := hW
  obtain ⟨p, q, hA, hV, rfl, hz, hn⟩ := hW
  rw [hv] at hV
  obtain ⟨rfl, rfl⟩ := trodVars_none hV
  rw [List.append_nil] at *
  obtain ⟨e1, e2, e3⟩ := hfn
  have hres : ∀ (b : Nat) (sp : Nat → Bool) (hd : Bool), DataW.TrodAll enc P W' b sp hd f.resultTypes.toList ((Value.bool true).resultList f.resultTypes.size) (s.fn H (ds ++ [])).results [] := by
    intro b sp hd
    rw [List.append_nil, e1, hrt]
    exact trodAll_cons_mk (shut_bool hbool true) trodAll_mk0
  have hargs : ∀ sp : Nat → Bool, (∀ x ∈ p, sp x.block = true) → DataW.TrodAll enc P W' 0 sp true f.params.toList args.toList (s.fn H (ds ++ [])).args p := by
    intro sp hsp
    rw [List.append_nil, e2]
    exact trodAll_past hl hb _ _ _ _ hread hA hlt sp hsp
  have hvars : ∀ sp : Nat → Bool, DataW.TrodVars enc P W' sp s.vars (s.fn H (ds ++ [])).vars [] := by
    intro sp
    rw [List.append_nil, e3, hv]
    rfl
  have hold : ∀ x ∈ p, (fun b => decide (b < W.heap.size)) x.block = true := fun x hx => by simpa using hlt x hx
  refine ⟨ds, [], p, [], p, [], hW', hres _ _ _, hargs _ hold, hvars _, World.keptBut_mono (fun x hx => ⟨hx, Or.inr (by simpa using hx)⟩) (hb.frame (· ∈ p)), fun h => by cases h⟩

/-- A vector that is handed in: two integers. -/
theorem open_vec {t tv : TypeId} {f0 f1 : Field} (hs : P.underlying t = some (.struct #[f0, f1])) (h0 : f0.type = tv) (h1 : f1.type = tv) (hv : P.underlying tv = some (.int .i64)) (hone : Go.Deep.oneCellFields P #[f0, f1] = true) (hC : P.cellsOf t = 2)
    {r : Reach} {b0 : Nat} {W : World} {base : Nat} {sp : Nat → Bool} {held : Bool} {v : Value} {d : DataW H} {p : List MemPlace} (ho : Value.okWide P W r b0 t v) (h : DataW.Trod enc P W base sp held t v d p) :
    ∃ m c : Int, v = .agg #[.int .i64 m, .int .i64 c] ∧ (-9223372036854775808 ≤ m ∧ m ≤ 9223372036854775807) ∧ (-9223372036854775808 ≤ c ∧ c ≤ 9223372036854775807) := by
  obtain ⟨c0, c1, y0, y1, m, rfl, rfl, rfl, hy0, hy1⟩ := Joins.open_agg2 hs hone hC ho h
  rw [h0] at hy0; rw [h1] at hy1
  obtain ⟨a, e0, _, wa⟩ := DataW.trod_int hv hy0
  obtain ⟨b, e1, _, wb⟩ := DataW.trod_int hv hy1
  simp at e0 e1
  subst e0 e1
  exact ⟨a, b, rfl, by simpa [Lit.wf, IntKind.min, IntKind.max, IntKind.signed, IntKind.bits] using wa, by simpa [Lit.wf, IntKind.min, IntKind.max, IntKind.signed, IntKind.bits] using wb⟩

end


theorem cellsV : Tryz.prog.cellsOf 65 = 2 := by kernel_rfl

end Go.Proofs.YtjhhcljbmnomlaaGreat

namespace Go.Proofs.YtjhhcljbmnomlaaGreat
open Go.ChangeShapes Go.WideShapes Go.ChangeAt Go.RowKit
attribute [local irreducible] Go.Calls

theorem own_below {w w' : World} {B : Nat} {e : TypeId} {sz : Nat} {v : Value} {n : Nat} {xs : List Value} (h : w.ownsRow B e sz v n xs) (hb : Below w.heap.size w w') : w'.ownsRow B e sz v n xs := by
  obtain ⟨h1, h2 | ⟨g, cap, cur, h3, h4, h5, h6⟩⟩ := h
  · exact ⟨h1, .inl h2⟩
  · exact ⟨h1, .inr ⟨g, cap, cur, h3, h4, (hb.block g (lt_of_block h5)).trans h5, h6⟩⟩
/-- The block that an append may write lies from the base on. -/
theorem own_block {w : World} {B : Nat} {e : TypeId} {sz : Nat} {v : Value} {n : Nat} {xs : List Value} (h : w.ownsRow B e sz v n xs) {k : Nat} (hk : v.ownBlock = some k) : B ≤ k := by
  obtain ⟨h1, h2 | ⟨g, cap, cur, h3, h4, h5, h6⟩⟩ := h
  · rw [h2.1] at hk; simp [Value.ownBlock] at hk
  · rw [h3] at hk; simp [Value.ownBlock] at hk; omega
theorem own_kept {A B : World} {β sz n : Nat} {e : TypeId} {v : Value} {xs : List Value} (h : A.ownsRow β e sz v n xs) (hk : ∀ k, v.ownBlock = some k → B.heap[k]? = A.heap[k]?) : B.ownsRow β e sz v n xs := by
  obtain ⟨h1, h2 | ⟨g, cap, cur, h3, h4, h5, h6⟩⟩ := h
  · exact ⟨h1, .inl h2⟩
  · exact ⟨h1, .inr ⟨g, cap, cur, h3, h4, (hk g (by rw [h3]; rfl)).trans h5, h6⟩⟩
theorem own_lt {A : World} {β sz n : Nat} {e : TypeId} {v : Value} {xs : List Value} (h : A.ownsRow β e sz v n xs) {k : Nat} (hk : v.ownBlock = some k) : k < A.heap.size := by
  obtain ⟨h1, h2 | ⟨g, cap, cur, h3, h4, h5, h6⟩⟩ := h
  · rw [h2.1] at hk; simp [Value.ownBlock] at hk
  · rw [h3] at hk; simp [Value.ownBlock] at hk; subst hk; exact lt_of_block h5
theorem own_has {A : World} {β sz n : Nat} {e : TypeId} {v : Value} {xs : List Value} (h : A.ownsRow β e sz v n xs) (hv : v ≠ .slice none 0 0) : ∃ k, v.ownBlock = some k := by
  obtain ⟨h1, h2 | ⟨g, cap, cur, h3, h4, h5, h6⟩⟩ := h
  · exact absurd h2.1 hv
  · exact ⟨g, by rw [h3]; rfl⟩
theorem own_sli {A : World} {β sz n : Nat} {e : TypeId} {v : Value} {xs : List Value} (h : A.ownsRow β e sz v n xs) : ∃ a cap, v = .slice a n cap := by
  obtain ⟨h1, h2 | ⟨g, cap, cur, h3, h4, h5, h6⟩⟩ := h
  · exact ⟨none, 0, by rw [h2.1, h2.2]⟩
  · exact ⟨_, cap, h3⟩
theorem own_nil {A : World} (β sz : Nat) (e : TypeId) : A.ownsRow β e sz (.slice none 0 0) 0 [] := ⟨by simp, .inl ⟨rfl, rfl⟩⟩
theorem keptS {w : World} {k b i : Nat} (h : k ≠ b) (v : Value) : (w.setCell ⟨b, i, none⟩ v).heap[k]? = w.heap[k]? := Below.heap_setCell _ _ _ _ h
theorem keptA {w : World} {k : Nat} (h : k < w.heap.size) (o : Obj) : (w.alloc o).heap[k]? = w.heap[k]? := Below.heap_alloc _ _ _ h
/-- The block p holds a slice that owns its row; g: from where on its blocks lie, and the one that it has. -/
def OwnI (w : World) (p : Nat) (t e : TypeId) (sz n : Nat) (xs : List Value) (g : Option (Nat × Nat)) (W : World) : Prop :=
  ∃ (v : Value) (β : Nat), Blk W p #[v] t ∧ Below w.heap.size w W ∧ W.ownsRow β e sz v n xs ∧ p < β ∧ β ≤ W.heap.size ∧ ((g = none ∧ v = .slice none 0 0) ∨ ∃ k, g = some (β, k) ∧ v.ownBlock = some k)
theorem ownI_keep {w : World} {p sz n : Nat} {t e : TypeId} {xs : List Value} {g : Option (Nat × Nat)} {A B : World} {m : Nat} (hp : p < m) (hn : w.heap.size ≤ m) (h : OwnI w p t e sz n xs g A) (hb : Below m A B) (hk : ∀ b k, g = some (b, k) → B.heap[k]? = A.heap[k]?) : OwnI w p t e sz n xs g B := by
  obtain ⟨v, β, h1, h2, h3, h4, h5, h6⟩ := h
  refine ⟨v, β, h1.below hb hp, h2.trans (hb.mono hn), own_kept h3 (fun k e => ?_), h4, Nat.le_trans h5 hb.size, h6⟩
  rcases h6 with ⟨_, q⟩ | ⟨k', q, q2⟩
  · rw [q] at e; simp [Value.ownBlock] at e
  · rw [q2] at e; cases e; exact hk _ _ q
theorem ownI_own {w : World} {p sz n : Nat} {t e : TypeId} {xs : List Value} {g : Option (Nat × Nat)} {A : World} (h : OwnI w p t e sz n xs g A) : ∀ b k, g = some (b, k) → b ≤ k ∧ k < A.heap.size := by
  obtain ⟨v, β, h1, h2, h3, h4, h5, h6⟩ := h
  rintro b k e
  rcases h6 with ⟨q, _⟩ | ⟨k', q, q2⟩
  · rw [q] at e; cases e
  · rw [q] at e; cases e
    exact ⟨own_block h3 q2, own_lt h3 q2⟩
theorem ownI_lt {w : World} {p sz n : Nat} {t e : TypeId} {xs : List Value} {g : Option (Nat × Nat)} {A : World} (h : OwnI w p t e sz n xs g A) : p < A.heap.size := by
  obtain ⟨v, β, h1, _⟩ := h
  exact h1.lt
/-- From where on what is appended may lie. -/
theorem ownI_base {w : World} {p sz n : Nat} {t e : TypeId} {xs : List Value} {g : Option (Nat × Nat)} {A : World} (h : OwnI w p t e sz n xs g A) : ∃ (av : Option Addr) (cap γ : Nat), Blk A p #[.slice av n cap] t ∧ Below w.heap.size w A ∧ A.ownsRow γ e sz (.slice av n cap) n xs ∧ p < γ ∧ γ ≤ A.heap.size ∧
    (∀ k, (Value.slice av n cap).ownBlock = some k → g = some (γ, k) ∧ γ ≤ k) ∧ (A.heap.size ≤ γ ∨ ∃ j, g = some (γ, j)) := by
  have hz := ownI_lt h
  obtain ⟨v, β, h1, h2, h3, h4, h5, h6⟩ := h
  obtain ⟨a, cap, rfl⟩ := own_sli h3
  rcases h6 with ⟨q, e'⟩ | ⟨k', q, q2⟩
  · have hx : A.ownsRow A.heap.size e sz (.slice a n cap) n xs := by
      obtain ⟨q1, q2 | ⟨g', cap', cur, q3, _⟩⟩ := h3
      · exact ⟨q1, .inl q2⟩
      · rw [q3] at e'; cases e'
    refine ⟨a, cap, A.heap.size, h1, h2, hx, hz, Nat.le_refl _, fun k hk => ?_, .inl (Nat.le_refl _)⟩
    rw [e'] at hk; simp [Value.ownBlock] at hk
  · exact ⟨a, cap, β, h1, h2, h3, h4, h5, fun k hk => ⟨by rw [q2] at hk; cases hk; exact q, own_block h3 hk⟩, .inr ⟨k', q⟩⟩
theorem grown_set (w : World) (p i : Nat) (v : Value) : w.grownBy (w.setCell ⟨p, i, none⟩ v) (some p) := ⟨rfl, rfl, rfl, by simp [World.setCell], fun k _ hk => Below.heap_setCell _ _ _ _ (fun e => hk (by rw [e]))⟩
theorem grown_trans {a b c : World} {r : Option Nat} (h : a.grownBy b r) (h' : b.grownBy c r) : a.grownBy c r :=
  ⟨h'.os.trans h.os, h'.tape.trans h.tape, h'.output.trans h.output, Nat.le_trans h.size h'.size, fun k hk hr => (h'.block k (Nat.lt_of_lt_of_le hk h.size) hr).trans (h.block k hk hr)⟩
theorem grown_refl (w : World) (r : Option Nat) : w.grownBy w r := ⟨rfl, rfl, rfl, Nat.le_refl _, fun _ _ _ => rfl⟩
theorem grown_any {w w' : World} {r : Option Nat} (h : Below w.heap.size w w') : w.grownBy w' r := ⟨h.os, h.tape, h.output, h.size, fun k hk _ => h.block k hk⟩
theorem Blk.grown {w w' : World} {k : Nat} {cs : Array Value} {t : TypeId} {r : Option Nat} (h : Blk w k cs t) (hg : w.grownBy w' r) (hr : some k ≠ r) : Blk w' k cs t := (hg.block k h.lt hr).trans h
theorem own_grown {w w' : World} {B p : Nat} {e : TypeId} {sz : Nat} {v : Value} {n : Nat} {xs : List Value} (h : w.ownsRow B e sz v n xs) (hg : w.grownBy w' (some p)) (hp : p < B) : w'.ownsRow B e sz v n xs := by
  obtain ⟨h1, h2 | ⟨g, cap, cur, h3, h4, h5, h6⟩⟩ := h
  · exact ⟨h1, .inl h2⟩
  · exact ⟨h1, .inr ⟨g, cap, cur, h3, h4, (hg.block g (lt_of_block h5) (fun e => by simp at e; omega)).trans h5, h6⟩⟩
theorem new_cellsB (w : World) (cs : Array Value) (t : TypeId) : ∀ j u, cs.toList[j]? = some u → (w.alloc (.cells cs t)).cell? ((⟨w.heap.size, 0, none⟩ : Addr).add j) = some u := by
  intro j u h
  have e : ((⟨w.heap.size, 0, none⟩ : Addr).add j) = ⟨w.heap.size, j, none⟩ := by
    unfold Addr.add
    by_cases c : j = 0
    · subst c; simp
    · simp [c]
  rw [e, (Blk.made w cs t).cell j, ← h, Array.getElem?_toList]
end Go.Proofs.YtjhhcljbmnomlaaGreat

namespace Go.Proofs.YtjhhcljbmnomlaaGreat
open Go.ChangeShapes Go.WideShapes Go.ChangeAt Go.RowKit
attribute [local irreducible] Go.Calls

/-- A run: its time, its vector. -/
abbrev S (at' m c : Int) : Value := .agg #[.int .i64 at', .int .i64 m, .int .i64 c]
/-- The runs that a slice's cells hold. -/
def CellsS (w : World) (b off : Nat) (l : List Sg) : Prop :=
  ∀ i, i < l.length → w.cell? ⟨b, off + i * 3, none⟩ = some (.int .i64 (l.getD i (0, 0, 0)).1) ∧ w.cell? ⟨b, off + i * 3 + 1, none⟩ = some (.int .i64 (l.getD i (0, 0, 0)).2.1) ∧ w.cell? ⟨b, off + i * 3 + 2, none⟩ = some (.int .i64 (l.getD i (0, 0, 0)).2.2)
/-- A slice that reads as the list: where it is not empty it lies in a block of the world's. -/
def ArgS (w : World) (a : Option Addr) (l : List Sg) : Prop := 0 < l.length → ∃ b off, a = some ⟨b, off, none⟩ ∧ b < w.heap.size ∧ CellsS w b off l
theorem CellsS.below {w w' : World} {b off B : Nat} {l : List Sg} (h : CellsS w b off l) (hb : Below B w w') (hB : b < B) : CellsS w' b off l := fun i hi => by
  obtain ⟨h1, h2, h3⟩ := h i hi
  exact ⟨(hb.cell (p := ⟨b, _, none⟩) hB).trans h1, (hb.cell (p := ⟨b, _, none⟩) hB).trans h2, (hb.cell (p := ⟨b, _, none⟩) hB).trans h3⟩
theorem ArgS.past {w w' : World} {a : Option Addr} {l : List Sg} (h : ArgS w a l) (hb : Below w.heap.size w w') : ArgS w' a l := fun hl => by
  obtain ⟨b, off, e, h1, h2⟩ := h hl
  exact ⟨b, off, e, Nat.lt_of_lt_of_le h1 hb.size, h2.below hb h1⟩
theorem CellsS.get {w : World} {b off : Nat} {l : List Sg} (h : CellsS w b off l) {i : Nat} (hi : i < l.length) : w.cell? ⟨b, off + i * 3, none⟩ = some (.int .i64 (ats l i)) ∧ w.cell? ⟨b, off + i * 3 + 1, none⟩ = some (.int .i64 (vls l i).1) ∧ w.cell? ⟨b, off + i * 3 + 2, none⟩ = some (.int .i64 (vls l i).2) := h i hi
theorem ret_v {a b : Value} (h : a = b) : Ending.returned a = .returned b := by rw [h]
theorem grown_alloc (w : World) (o : Obj) (r : Option Nat) : w.grownBy (w.alloc o) r := ⟨rfl, rfl, rfl, by simp, fun k hk _ => Below.heap_alloc _ _ _ hk⟩
/-- Where a list of runs begins and ends, and whether it ends. -/
def endsL (l : List Sg) : Int × Int × Bool := if l.length = 0 then (0, 0, true) else (ats l 0, ats l (l.length - 1), vls l (l.length - 1) == (0, 0))
theorem sg_ext {a b : Sg} (h1 : a.1 = b.1) (h2 : a.2.1 = b.2.1) (h3 : a.2.2 = b.2.2) : a = b := by
  obtain ⟨x, m, c⟩ := a
  obtain ⟨x', m', c'⟩ := b
  simp at h1 h2 h3
  rw [h1, h2, h3]
theorem list_ext {l r : List Sg} (h : l.length = r.length) (h2 : ∀ i, i < l.length → ats l i = ats r i ∧ vls l i = vls r i) : l = r := by
  apply List.ext_getElem h
  intro i h3 h4
  obtain ⟨e1, e2⟩ := h2 i h3
  unfold ats at e1; unfold vls at e2
  rw [getD_get _ _ _ h3, getD_get _ _ _ h4] at e1 e2
  exact Prod.ext e1 e2
def sameB (l r : List Sg) : Bool := decide (l = r)
theorem same_t {l r : List Sg} (h : l.length = r.length) (h2 : ∀ i, i < l.length → ats l i = ats r i ∧ vls l i = vls r i) : sameB l r = true := decide_eq_true (list_ext h h2)
theorem same_f {l r : List Sg} {i : Nat} (h : ats l i ≠ ats r i ∨ vls l i ≠ vls r i) : sameB l r = false := decide_eq_false (fun e => by subst e; simp at h)
theorem Tryz.infoSeg : (Tryz.prog.info? 105).map (fun i => (i.zero, i.size, i.bytes)) = some (some (.agg #[.int .i64 0, .int .i64 0, .int .i64 0]), 3, 24) := by kernel_rfl
/-- The cells of a list of runs. -/
def cellsOfS : List Sg → List Value
  | [] => []
  | s :: r => .int .i64 s.1 :: .int .i64 s.2.1 :: .int .i64 s.2.2 :: cellsOfS r
theorem cellsOfS_len : ∀ l, (cellsOfS l).length = l.length * 3
  | [] => rfl
  | s :: r => by simp only [cellsOfS, List.length_cons, cellsOfS_len r]; omega
theorem cellsOfS_app : ∀ l r, cellsOfS (l ++ r) = cellsOfS l ++ cellsOfS r
  | [], _ => rfl
  | s :: l, r => by simp only [cellsOfS, List.cons_append, cellsOfS_app l r]
theorem cellsOfS_get : ∀ (l : List Sg) (i : Nat), i < l.length → (cellsOfS l)[i * 3]? = some (.int .i64 (ats l i)) ∧ (cellsOfS l)[i * 3 + 1]? = some (.int .i64 (vls l i).1) ∧ (cellsOfS l)[i * 3 + 2]? = some (.int .i64 (vls l i).2)
  | [], i, h => by simp at h
  | s :: l, 0, _ => ⟨rfl, rfl, rfl⟩
  | s :: l, i + 1, h => by
    obtain ⟨h1, h2, h3⟩ := cellsOfS_get l i (by simp at h; omega)
    have e : ∀ j, (cellsOfS (s :: l))[(i + 1) * 3 + j]? = (cellsOfS l)[i * 3 + j]? := fun j => by
      simp only [cellsOfS]
      rw [show (i + 1) * 3 + j = i * 3 + j + 1 + 1 + 1 by omega]
      simp only [List.getElem?_cons_succ]
    exact ⟨(e 0).trans h1, (e 1).trans h2, (e 2).trans h3⟩
/-- A slice value that reads as the list of runs. -/
def SliS (w : World) (v : Value) (l : List Sg) : Prop := ∃ (a : Option Addr) (cap : Nat), v = .slice a l.length cap ∧ l.length ≤ cap ∧ cap ≤ 9223372036854775807 ∧ ArgS w a l
theorem SliS.past {w w' : World} {v : Value} {l : List Sg} (h : SliS w v l) (hb : Below w.heap.size w w') : SliS w' v l := by
  obtain ⟨a, cap, h1, h2, h3, h4⟩ := h
  exact ⟨a, cap, h1, h2, h3, h4.past hb⟩
theorem sliS_nil (w : World) : SliS w (.slice none 0 0) [] := ⟨none, 0, rfl, Nat.le_refl _, by omega, fun h => by simp at h⟩
/-- What a call has appended to reads as a slice. -/
theorem sliS_own {w : World} {base : Nat} {e : TypeId} {v : Value} {l : List Sg} (h : w.ownsRow base e 3 v l.length (cellsOfS l)) : SliS w v l := by
  obtain ⟨h1, h2 | ⟨g, cap, cur, rfl, h3, h4, h5, h6, h7, h8⟩⟩ := h
  · obtain ⟨rfl, h2⟩ := h2
    have : l = [] := List.eq_nil_of_length_eq_zero h2
    subst this
    exact sliS_nil w
  · refine ⟨some ⟨g, 0, none⟩, cap, rfl, h5, by unfold maxLen at h6; omega, fun _ => ⟨g, 0, rfl, lt_of_block h4, fun i hi => ?_⟩⟩
    have hg := cellsOfS_get l i hi
    have hc : ∀ j x, j < l.length * 3 → (cellsOfS l)[j]? = some x → w.cell? ⟨g, j, none⟩ = some x := fun j x hj hx => by
      have e : w.cell? ⟨g, j, none⟩ = cur[j]? := by simp [World.cell?, h4]
      rw [e, ← Array.getElem?_toList]
      rw [← h8, List.getElem?_take, if_pos hj] at hx
      exact hx
    simp only [Nat.zero_add]
    exact ⟨hc _ _ (by omega) hg.1, hc _ _ (by omega) hg.2.1, hc _ _ (by omega) hg.2.2⟩
theorem new_cells (w : World) (cs : Array Value) (t : TypeId) : ∀ j u, cs.toList[j]? = some u → (w.alloc (.cells cs t)).cell? ((⟨w.heap.size, 0, none⟩ : Addr).add j) = some u := by
  intro j u h
  have e : ((⟨w.heap.size, 0, none⟩ : Addr).add j) = ⟨w.heap.size, j, none⟩ := by
    unfold Addr.add
    by_cases c : j = 0
    · subst c; simp
    · simp [c]
  rw [e, (Blk.made w cs t).cell j, ← h, Array.getElem?_toList]
/-- What Of hands back. -/
def OfPost (w : World) (l : List Sg) (e : Ending) (w' : World) : Prop :=
  ∃ (v : Value) (f : List Sg) (er : Int), e = .returned (.tuple #[v, .int .i64 er]) ∧ SliS w' v f ∧ ((l.all okS = true ∧ er = 0 ∧ IsOf l f) ∨ (l.all okS = false ∧ er = 10 ∧ f = [])) ∧ Below w.heap.size w w'
theorem drop_cons {l : List Sg} {k : Nat} (h : k < l.length) : l.drop k = l.getD k (0, 0, 0) :: l.drop (k + 1) := by
  rw [List.drop_eq_getElem_cons h, getD_get _ _ _ h]
theorem all_bad {l : List Sg} {k : Nat} (h : k < l.length) (hb : okS (l.getD k (0, 0, 0)) = false) : l.all okS = false := by
  rw [getD_get _ _ _ h] at hb
  rw [List.all_eq_false]
  exact ⟨_, List.getElem_mem h, by rw [hb]; exact Bool.false_ne_true⟩
theorem all_good {l : List Sg} (h : ∀ k, k < l.length → okS (l.getD k (0, 0, 0)) = true) : l.all okS = true := by
  rw [List.all_eq_true]
  intro x hx
  obtain ⟨i, hi, rfl⟩ := List.getElem_of_mem hx
  have := h i hi
  rw [getD_get _ _ _ hi] at this; exact this
/-- A new block of runs reads as a slice. -/
theorem argS_blk {w : World} {p : Nat} {l : List Sg} {t : TypeId} (h : Blk w p (cellsOfS l).toArray t) : ArgS w (some ⟨p, 0, none⟩) l := fun _ =>
  ⟨p, 0, rfl, h.lt, fun i hi => by
    obtain ⟨h1, h2, h3⟩ := cellsOfS_get l i hi
    simp only [Nat.zero_add]
    have q : ∀ j, w.cell? ⟨p, j, none⟩ = (cellsOfS l)[j]? := fun j => (h.cell j).trans (by simp)
    exact ⟨(q _).trans h1, (q _).trans h2, (q _).trans h3⟩⟩
/-- What a call of Of hands back, where the answer is known. -/
def OfIs (w : World) (F : List Sg) (er : Int) (e : Ending) (w' : World) : Prop := ∃ v : Value, e = .returned (.tuple #[v, .int .i64 er]) ∧ SliS w' v F ∧ Below w.heap.size w w'
/-- The box's runs. -/
def boxL (x y : Int) (v : Int × Int) : List Sg := if x = y ∨ v = (0, 0) then [] else [(x, v), (y, (0, 0))]
theorem boxL_of {x y : Int} {v : Int × Int} (hxy : x ≤ y) (h1 : okS (x, v) = true) (h2 : okS (y, (0, 0)) = true) : IsOf [(x, v), (y, (0, 0))] (boxL x y v) := by
  unfold boxL
  by_cases c : x = y ∨ v = (0, 0)
  · rw [if_pos c]
    refine ⟨trivial, fun t => ?_, by simp⟩
    unfold rv rread vat
    simp only [List.foldl_cons, List.foldl_nil]
    unfold rstep
    rcases c with c | c
    · subst c
      by_cases k : x ≤ t <;> simp [k]
    · subst c
      by_cases k : x ≤ t <;> by_cases k2 : y ≤ t <;> simp [k, k2, hxy]
  · rw [if_neg c]
    have c1 : x ≠ y := fun e => c (.inl e)
    have c2 : v ≠ (0, 0) := fun e => c (.inr e)
    refine ⟨⟨h1, c2, fun s hs => ?_, h2, fun e => c2 e.symm, fun s hs => by simp at hs, trivial⟩, fun t => ?_, Nat.le_refl _⟩
    · simp at hs; subst hs
      show x < y
      omega
    · unfold rv rread vat
      simp only [List.foldl_cons, List.foldl_nil]
      unfold rstep stepV
      by_cases k : x ≤ t <;> by_cases k2 : y ≤ t <;> simp [k, k2, hxy]
/-- What Box hands back. -/
def boxS (x y : Int) (v : Int × Int) : List Sg × Int := if y < x then ([], 2) else if okS (x, v) && okS (y, (0, 0)) then (boxL x y v, 0) else ([], 10)
/-- The document's example. -/
theorem head_of : IsOf [(5, (1, 1)), (2, (3, 3)), (5, (2, 2)), (9, (2, 2))] [(2, (3, 3)), (5, (2, 2))] := by
  refine ⟨⟨by decide, by decide, fun s hs => by simp at hs; subst hs; decide, by decide, by decide, fun s hs => by simp at hs, trivial⟩, fun t => ?_, by decide⟩
  unfold rv rread vat
  simp only [List.foldl_cons, List.foldl_nil]
  unfold rstep stepV
  by_cases k : (2 : Int) ≤ t
  · by_cases k2 : (5 : Int) ≤ t
    · by_cases k3 : (9 : Int) ≤ t <;> simp [k, k2, k3]
    · have k3 : ¬ (9 : Int) ≤ t := by omega
      simp [k, k2, k3]
  · have k2 : ¬ (5 : Int) ≤ t := by omega
    have k3 : ¬ (9 : Int) ≤ t := by omega
    simp [k, k2, k3]
end Go.Proofs.YtjhhcljbmnomlaaGreat

namespace Go.Proofs.YtjhhcljbmnomlaaGreat
open Go.ChangeShapes Go.WideShapes Go.ChangeAt Go.RowKit

/-- A number that an int64 holds. -/
def I64 (x : Int) : Prop := -9223372036854775808 ≤ x ∧ x ≤ 9223372036854775807
/-- A run whose numbers are int64s. -/
def S64 (s : Sg) : Prop := I64 s.1 ∧ I64 s.2.1 ∧ I64 s.2.2
section
variable {H : Type} {enc : TypeId × Value → H} {P : Program}
theorem wf64 {n : Int} (h : (Lit.int .i64 n).wf = true) : I64 n := by
  have : -9223372036854775808 ≤ n ∧ n ≤ 9223372036854775807 := by simpa [Lit.wf, IntKind.min, IntKind.max, IntKind.signed, IntKind.bits] using h
  exact this
theorem open_segs {ts e tv ti : TypeId} {f0 f1 g0 g1 : Field} {W : World} {v : Value} {d : DataW H} {p : List MemPlace} (hs : P.underlying ts = some (.slice e)) (he : P.underlying e = some (.struct #[f0, f1]))
    (ce : P.cellsOf e = 3) (o0 : f0.offset = 0) (o1 : f1.offset = 1) (t0 : f0.type = ti) (t1 : f1.type = tv) (ci : P.cellsOf ti = 1) (cv : P.cellsOf tv = 2) (hi : P.underlying ti = some (.int .i64))
    (hv : P.underlying tv = some (.struct #[g0, g1])) (p0 : g0.offset = 0) (p1 : g1.offset = 1) (u0 : g0.type = ti) (u1 : g1.type = ti)
    {r : Reach} {b0 : Nat} (ho : Value.okWide P W r b0 ts v) (h : DataW.Trod enc P W 0 (fun _ => true) true ts v d p) :
    ∃ (l : List Sg) (a : Option Addr) (cap : Nat), v = .slice a l.length cap ∧ l.length ≤ 9223372036854775807 ∧ ArgS W a l ∧ ∀ x ∈ l, S64 x := by
  obtain ⟨a, len, cap, rfl⟩ := okWide_slice hs ho
  obtain ⟨fuel, hf⟩ := h
  rcases Deep.open_slice (cs := [.slice a len cap]) hs hf with ⟨hcs, _⟩ | ⟨a', len', cap', m, n, D, Pl, hcs, _, hlc, hcm, hm, _, hx⟩
  · simp at hcs
    obtain ⟨rfl, rfl, rfl⟩ := hcs
    exact ⟨[], none, 0, rfl, by simp, fun h => by simp at h, fun x hx => by simp at hx⟩
  · simp at hcs
    obtain ⟨rfl, rfl, rfl⟩ := hcs
    have hlen : len ≤ m := by rw [hm]; simpa using hlc
    have each : ∀ i, i < len → ∃ s : Sg, (W.cell? (a'.add (i * 3)) = some (.int .i64 s.1) ∧ W.cell? ((a'.add (i * 3)).add 1) = some (.int .i64 s.2.1) ∧ W.cell? ((a'.add (i * 3)).add 2) = some (.int .i64 s.2.2)) ∧ S64 s := fun i hi' => by
      obtain ⟨cs', hc, ht⟩ := hx i (by omega)
      rw [ce] at hc
      obtain ⟨_, hcl, hat⟩ := World.cells?_some hc
      obtain ⟨ys, n', _, _, hl1, hyl, hfs⟩ := DataW.trod_struct he ht
      have h0 := hfs 0 f0 rfl
      have h1 := hfs 1 f1 rfl
      rw [o0, t0, ci] at h0
      rw [o1, t1, cv] at h1
      match cs', hcl with
      | [c0, c1, c2], _ =>
        match ys, hyl with
        | [y0, y1], _ =>
          simp at h0 h1
          obtain ⟨z0, e0, _, w0⟩ := DataW.trod_int hi h0
          obtain ⟨zs, n2, _, _, hl2, hzl, hgs⟩ := DataW.trod_struct hv h1
          have k0 := hgs 0 g0 rfl
          have k1 := hgs 1 g1 rfl
          rw [p0, u0, ci] at k0
          rw [p1, u1, ci] at k1
          match zs, hzl with
          | [q0, q1], _ =>
            simp at k0 k1
            obtain ⟨z1, e1, _, w1⟩ := DataW.trod_int hi k0
            obtain ⟨z2, e2, _, w2⟩ := DataW.trod_int hi k1
            simp at e0 e1 e2
            subst e0 e1 e2
            have a0 := hat 0 (by omega)
            have a1 := hat 1 (by omega)
            have a2 := hat 2 (by omega)
            simp at a1 a2
            refine ⟨(z0, z1, z2), ⟨?_, a1, a2⟩, wf64 w0, wf64 w1, wf64 w2⟩
            have ea : (a'.add (i * 3)).add 0 = a'.add (i * 3) := by simp [Addr.add]
            rw [ea] at a0
            simpa using a0
    obtain ⟨F, hF⟩ := Deep.choose_lt each
    refine ⟨(List.range len).map F, some a', cap, by simp, by simp; unfold maxLen at hcm; omega, fun hl => ?_, fun x hx => ?_⟩
    · simp at hl
      have hc00 := (hF 0 hl).1.1
      obtain ⟨b, off, spot⟩ := a'
      have hsp : spot = none := by
        cases spot with
        | none => rfl
        | some s => simp [Addr.add, World.cell?] at hc00; split at hc00 <;> simp at hc00
      subst hsp
      have hb : b < W.heap.size := by
        apply Nat.lt_of_not_le
        intro hge
        simp [Addr.add, World.cell?, Array.getElem?_eq_none hge] at hc00
      refine ⟨b, off, rfl, hb, fun i hi => ?_⟩
      have hi' : i < len := by simpa using hi
      have hg : ((List.range len).map F).getD i (0, 0, 0) = F i := by simp [List.getD_eq_getElem?_getD, hi']
      obtain ⟨⟨h1, h2, h3⟩, _⟩ := hF i hi'
      have ad : ∀ x y : Nat, (⟨b, x, none⟩ : Addr).add y = ⟨b, x + y, none⟩ := fun x y => by
        unfold Addr.add
        by_cases c : y = 0
        · subst c; simp
        · simp [c]
      rw [ad] at h1 h2 h3
      rw [ad] at h2 h3
      rw [hg]
      exact ⟨h1, h2, h3⟩
    · rw [List.mem_map] at hx
      obtain ⟨i, hi, rfl⟩ := hx
      exact (hF i (by simpa using hi)).2
theorem open_slis {ts e tv ti : TypeId} {f0 f1 g0 g1 : Field} {W : World} {v : Value} {d : DataW H} {p : List MemPlace} (hs : P.underlying ts = some (.slice e)) (he : P.underlying e = some (.struct #[f0, f1]))
    (ce : P.cellsOf e = 3) (o0 : f0.offset = 0) (o1 : f1.offset = 1) (t0 : f0.type = ti) (t1 : f1.type = tv) (ci : P.cellsOf ti = 1) (cv : P.cellsOf tv = 2) (hi : P.underlying ti = some (.int .i64))
    (hv : P.underlying tv = some (.struct #[g0, g1])) (p0 : g0.offset = 0) (p1 : g1.offset = 1) (u0 : g0.type = ti) (u1 : g1.type = ti)
    {r : Reach} {b0 : Nat} (ho : Value.okWide P W r b0 ts v) (h : DataW.Trod enc P W 0 (fun _ => true) true ts v d p) :
    ∃ (l : List Sg) (a : Option Addr) (cap : Nat), v = .slice a l.length cap ∧ l.length ≤ 9223372036854775807 ∧ SliS W (.slice a l.length cap) l ∧ ∀ x ∈ l, S64 x := by
  obtain ⟨a, len, cap, rfl⟩ := okWide_slice hs ho
  obtain ⟨fuel, hf⟩ := h
  rcases Deep.open_slice (cs := [.slice a len cap]) hs hf with ⟨hcs, _⟩ | ⟨a', len', cap', m, n, D, Pl, hcs, _, hlc, hcm, hm, _, hx⟩
  · simp at hcs
    obtain ⟨rfl, rfl, rfl⟩ := hcs
    exact ⟨[], none, 0, rfl, by simp, sliS_nil _, fun x hx => by simp at hx⟩
  · simp at hcs
    obtain ⟨rfl, rfl, rfl⟩ := hcs
    have hlen : len ≤ m := by rw [hm]; simpa using hlc
    have each : ∀ i, i < len → ∃ s : Sg, (W.cell? (a'.add (i * 3)) = some (.int .i64 s.1) ∧ W.cell? ((a'.add (i * 3)).add 1) = some (.int .i64 s.2.1) ∧ W.cell? ((a'.add (i * 3)).add 2) = some (.int .i64 s.2.2)) ∧ S64 s := fun i hi' => by
      obtain ⟨cs', hc, ht⟩ := hx i (by omega)
      rw [ce] at hc
      obtain ⟨_, hcl, hat⟩ := World.cells?_some hc
      obtain ⟨ys, n', _, _, hl1, hyl, hfs⟩ := DataW.trod_struct he ht
      have h0 := hfs 0 f0 rfl
      have h1 := hfs 1 f1 rfl
      rw [o0, t0, ci] at h0
      rw [o1, t1, cv] at h1
      match cs', hcl with
      | [c0, c1, c2], _ =>
        match ys, hyl with
        | [y0, y1], _ =>
          simp at h0 h1
          obtain ⟨z0, e0, _, w0⟩ := DataW.trod_int hi h0
          obtain ⟨zs, n2, _, _, hl2, hzl, hgs⟩ := DataW.trod_struct hv h1
          have k0 := hgs 0 g0 rfl
          have k1 := hgs 1 g1 rfl
          rw [p0, u0, ci] at k0
          rw [p1, u1, ci] at k1
          match zs, hzl with
          | [q0, q1], _ =>
            simp at k0 k1
            obtain ⟨z1, e1, _, w1⟩ := DataW.trod_int hi k0
            obtain ⟨z2, e2, _, w2⟩ := DataW.trod_int hi k1
            simp at e0 e1 e2
            subst e0 e1 e2
            have a0 := hat 0 (by omega)
            have a1 := hat 1 (by omega)
            have a2 := hat 2 (by omega)
            simp at a1 a2
            refine ⟨(z0, z1, z2), ⟨?_, a1, a2⟩, wf64 w0, wf64 w1, wf64 w2⟩
            have ea : (a'.add (i * 3)).add 0 = a'.add (i * 3) := by simp [Addr.add]
            rw [ea] at a0
            simpa using a0
    obtain ⟨F, hF⟩ := Deep.choose_lt each
    refine ⟨(List.range len).map F, some a', cap, by simp, by simp; unfold maxLen at hcm; omega, ⟨some a', cap, rfl, by simp; omega, by unfold maxLen at hcm; omega, fun hl => ?_⟩, fun x hx => ?_⟩
    · simp at hl
      have hc00 := (hF 0 hl).1.1
      obtain ⟨b, off, spot⟩ := a'
      have hsp : spot = none := by
        cases spot with
        | none => rfl
        | some s => simp [Addr.add, World.cell?] at hc00; split at hc00 <;> simp at hc00
      subst hsp
      have hb : b < W.heap.size := by
        apply Nat.lt_of_not_le
        intro hge
        simp [Addr.add, World.cell?, Array.getElem?_eq_none hge] at hc00
      refine ⟨b, off, rfl, hb, fun i hi => ?_⟩
      have hi' : i < len := by simpa using hi
      have hg : ((List.range len).map F).getD i (0, 0, 0) = F i := by simp [List.getD_eq_getElem?_getD, hi']
      obtain ⟨⟨h1, h2, h3⟩, _⟩ := hF i hi'
      have ad : ∀ x y : Nat, (⟨b, x, none⟩ : Addr).add y = ⟨b, x + y, none⟩ := fun x y => by
        unfold Addr.add
        by_cases c : y = 0
        · subst c; simp
        · simp [c]
      rw [ad] at h1 h2 h3
      rw [ad] at h2 h3
      rw [hg]
      exact ⟨h1, h2, h3⟩
    · rw [List.mem_map] at hx
      obtain ⟨i, hi, rfl⟩ := hx
      exact (hF i (by simpa using hi)).2
end
set_option maxRecDepth 100000 in
theorem cellsSeg : Tryz.prog.cellsOf 105 = 3 := by kernel_rfl
set_option maxRecDepth 100000 in
theorem cellsI64 : Tryz.prog.cellsOf 2 = 1 := by kernel_rfl
set_option maxRecDepth 100000 in
/-- For this program. -/
theorem open_segsP {H : Type} {enc : TypeId × Value → H} {W : World} {v : Value} {d : DataW H} {p : List MemPlace} {r : Reach} {b0 : Nat} (ho : Value.okWide Tryz.prog W r b0 22 v) (h : DataW.Trod enc Tryz.prog W 0 (fun _ => true) true 22 v d p) :
    ∃ (l : List Sg) (a : Option Addr) (cap : Nat), v = .slice a l.length cap ∧ l.length ≤ 9223372036854775807 ∧ ArgS W a l ∧ ∀ x ∈ l, S64 x :=
  open_segs (P := Tryz.prog) Tryz.underlying22 Tryz.underlying105 cellsSeg rfl rfl rfl rfl cellsI64 cellsV Tryz.underlying2 Tryz.underlying65 rfl rfl rfl rfl ho h
set_option maxRecDepth 100000 in
theorem open_slisP {H : Type} {enc : TypeId × Value → H} {W : World} {v : Value} {d : DataW H} {p : List MemPlace} {r : Reach} {b0 : Nat} (ho : Value.okWide Tryz.prog W r b0 22 v) (h : DataW.Trod enc Tryz.prog W 0 (fun _ => true) true 22 v d p) :
    ∃ (l : List Sg) (a : Option Addr) (cap : Nat), v = .slice a l.length cap ∧ l.length ≤ 9223372036854775807 ∧ SliS W (.slice a l.length cap) l ∧ ∀ x ∈ l, S64 x :=
  open_slis (P := Tryz.prog) Tryz.underlying22 Tryz.underlying105 cellsSeg rfl rfl rfl rfl cellsI64 cellsV Tryz.underlying2 Tryz.underlying65 rfl rfl rfl rfl ho h
end Go.Proofs.YtjhhcljbmnomlaaGreat

namespace Go.Proofs.YtjhhcljbmnomlaaGreat
open Go.ChangeShapes Go.WideShapes Go.ChangeAt Go.RowKit
attribute [local irreducible] Go.Calls

theorem sliS_alloc {w : World} {v : Value} {l : List Sg} (h : SliS w v l) (o : Obj) : SliS (w.alloc o) v l := h.past ((Below.refl _ _).alloc (Nat.le_refl _) _)
/-- A new block of runs. -/
theorem sliS_new {w : World} {p n : Nat} {cs : Array Value} {l : List Sg} {t : TypeId} (h : Blk w p cs t) (hc : cs = (cellsOfS l).toArray) (hn : n = l.length) (h2 : n ≤ 1000000) : SliS w (.slice (some ⟨p, 0, none⟩) n n) l := by
  subst hc; subst hn
  exact ⟨some ⟨p, 0, none⟩, l.length, rfl, Nat.le_refl _, by omega, argS_blk h⟩
theorem SliS.len {w : World} {a : Option Addr} {n cap : Nat} {l : List Sg} (h : SliS w (.slice a n cap) l) : n = l.length ∧ l.length ≤ cap ∧ cap ≤ 9223372036854775807 ∧ ArgS w a l := by
  obtain ⟨a', c', e, h1, h2, h3⟩ := h
  cases e
  exact ⟨rfl, h1, h2, h3⟩
/-- What a call hands back, taken apart. -/
def OfSl (w : World) (n : Nat) (F : List Sg) (er : Int) (e : Ending) (w' : World) : Prop := ∃ (a : Option Addr) (cap : Nat), e = .returned (.tuple #[.slice a n cap, .int .i64 er]) ∧ SliS w' (.slice a n cap) F ∧ Below w.heap.size w w'
theorem Calls.ofSl {P : Program} {f : FuncId} {args : Array Value} {w : World} {F : List Sg} {er : Int} {n : Nat} (h : Calls P f args w (OfIs w F er)) (hn : F.length = n) : Calls P f args w (OfSl w n F er) := h.mono fun _ _ h => by
  subst hn
  obtain ⟨v, h1, hs, h3⟩ := h
  obtain ⟨a, cap, rfl, q1, q2, q3⟩ := hs
  exact ⟨a, cap, h1, ⟨a, cap, rfl, q1, q2, q3⟩, h3⟩
end Go.Proofs.YtjhhcljbmnomlaaGreat

namespace Go.Proofs.YtjhhcljbmnomlaaGreat
open Go.ChangeShapes Go.WideShapes Go.ChangeAt Go.RowKit
section
variable {H : Type} {enc : TypeId × Value → H} {P : Program}
theorem trod_slis {ts e tv ti : TypeId} {f0 f1 g0 g1 : Field} {W : World} {cs : List Value} {x : DataW H × List MemPlace} {fuel : Nat} (hs : P.underlying ts = some (.slice e)) (he : P.underlying e = some (.struct #[f0, f1]))
    (ce : P.cellsOf e = 3) (o0 : f0.offset = 0) (o1 : f1.offset = 1) (t0 : f0.type = ti) (t1 : f1.type = tv) (ci : P.cellsOf ti = 1) (cv : P.cellsOf tv = 2) (hi : P.underlying ti = some (.int .i64))
    (hv : P.underlying tv = some (.struct #[g0, g1])) (p0 : g0.offset = 0) (p1 : g1.offset = 1) (u0 : g0.type = ti) (u1 : g1.type = ti)
    (hf : DataW.trod enc P W 0 (fun _ => true) true fuel ts cs = some x) :
    ∃ (l : List Sg) (a : Option Addr) (cap : Nat), cs = [.slice a l.length cap] ∧ l.length ≤ 9223372036854775807 ∧ SliS W (.slice a l.length cap) l ∧ ∀ x ∈ l, S64 x := by
  rcases Deep.open_slice hs hf with ⟨hcs, _⟩ | ⟨a', len, cap, m, n, D, Pl, hcs, _, hlc, hcm, hm, _, hx⟩
  · subst hcs
    exact ⟨[], none, 0, rfl, by simp, sliS_nil _, fun x hx => by simp at hx⟩
  · subst hcs
    have hlen : len ≤ m := by rw [hm]; simpa using hlc
    have each : ∀ i, i < len → ∃ s : Sg, (W.cell? (a'.add (i * 3)) = some (.int .i64 s.1) ∧ W.cell? ((a'.add (i * 3)).add 1) = some (.int .i64 s.2.1) ∧ W.cell? ((a'.add (i * 3)).add 2) = some (.int .i64 s.2.2)) ∧ S64 s := fun i hi' => by
      obtain ⟨cs', hc, ht⟩ := hx i (by omega)
      rw [ce] at hc
      obtain ⟨_, hcl, hat⟩ := World.cells?_some hc
      obtain ⟨ys, n', _, _, hl1, hyl, hfs⟩ := DataW.trod_struct he ht
      have h0 := hfs 0 f0 rfl
      have h1 := hfs 1 f1 rfl
      rw [o0, t0, ci] at h0
      rw [o1, t1, cv] at h1
      match cs', hcl with
      | [c0, c1, c2], _ =>
        match ys, hyl with
        | [y0, y1], _ =>
          simp at h0 h1
          obtain ⟨z0, e0, _, w0⟩ := DataW.trod_int hi h0
          obtain ⟨zs, n2, _, _, hl2, hzl, hgs⟩ := DataW.trod_struct hv h1
          have k0 := hgs 0 g0 rfl
          have k1 := hgs 1 g1 rfl
          rw [p0, u0, ci] at k0
          rw [p1, u1, ci] at k1
          match zs, hzl with
          | [q0, q1], _ =>
            simp at k0 k1
            obtain ⟨z1, e1, _, w1⟩ := DataW.trod_int hi k0
            obtain ⟨z2, e2, _, w2⟩ := DataW.trod_int hi k1
            simp at e0 e1 e2
            subst e0 e1 e2
            have a0 := hat 0 (by omega)
            have a1 := hat 1 (by omega)
            have a2 := hat 2 (by omega)
            simp at a1 a2
            refine ⟨(z0, z1, z2), ⟨?_, a1, a2⟩, wf64 w0, wf64 w1, wf64 w2⟩
            have ea : (a'.add (i * 3)).add 0 = a'.add (i * 3) := by simp [Addr.add]
            rw [ea] at a0
            simpa using a0
    obtain ⟨F, hF⟩ := Deep.choose_lt each
    refine ⟨(List.range len).map F, some a', cap, by simp, by simp; unfold maxLen at hcm; omega, ⟨some a', cap, rfl, by simp; omega, by unfold maxLen at hcm; omega, fun hl => ?_⟩, fun x hx => ?_⟩
    · simp at hl
      have hc00 := (hF 0 hl).1.1
      obtain ⟨b, off, spot⟩ := a'
      have hsp : spot = none := by
        cases spot with
        | none => rfl
        | some s => simp [Addr.add, World.cell?] at hc00; split at hc00 <;> simp at hc00
      subst hsp
      have hb : b < W.heap.size := by
        apply Nat.lt_of_not_le
        intro hge
        simp [Addr.add, World.cell?, Array.getElem?_eq_none hge] at hc00
      refine ⟨b, off, rfl, hb, fun i hi => ?_⟩
      have hi' : i < len := by simpa using hi
      have hg : ((List.range len).map F).getD i (0, 0, 0) = F i := by simp [List.getD_eq_getElem?_getD, hi']
      obtain ⟨⟨h1, h2, h3⟩, _⟩ := hF i hi'
      have ad : ∀ x y : Nat, (⟨b, x, none⟩ : Addr).add y = ⟨b, x + y, none⟩ := fun x y => by
        unfold Addr.add
        by_cases c : y = 0
        · subst c; simp
        · simp [c]
      rw [ad] at h1 h2 h3
      rw [ad] at h2 h3
      rw [hg]
      exact ⟨h1, h2, h3⟩
    · rw [List.mem_map] at hx
      obtain ⟨i, hi, rfl⟩ := hx
      exact (hF i (by simpa using hi)).2
end
end Go.Proofs.YtjhhcljbmnomlaaGreat

namespace Go.Proofs.YtjhhcljbmnomlaaGreat
open Go.ChangeShapes Go.WideShapes Go.ChangeAt Go.RowKit
attribute [local irreducible] Go.Calls

abbrev PV (x : Pol) : Value := .agg #[.int .u8 x.1, .int .i64 x.2.1.1, .int .i64 x.2.1.2, .int .i64 x.2.2]
/-- A policy whose numbers its kinds hold. -/
def P64 (x : Pol) : Prop := (0 ≤ x.1 ∧ x.1 ≤ 255) ∧ (-9223372036854775808 ≤ x.2.1.1 ∧ x.2.1.1 ≤ 9223372036854775807) ∧ (-9223372036854775808 ≤ x.2.1.2 ∧ x.2.1.2 ≤ 9223372036854775807) ∧ (-9223372036854775808 ≤ x.2.2 ∧ x.2.2 ≤ 9223372036854775807)
/-- The policies that a slice's cells hold. -/
def CellsPo (w : World) (b off : Nat) (l : List Pol) : Prop :=
  ∀ i, i < l.length → w.cell? ⟨b, off + i * 4, none⟩ = some (.int .u8 (l.getD i (0, (0, 0), 0)).1) ∧ w.cell? ⟨b, off + i * 4 + 1, none⟩ = some (.int .i64 (l.getD i (0, (0, 0), 0)).2.1.1) ∧
    w.cell? ⟨b, off + i * 4 + 2, none⟩ = some (.int .i64 (l.getD i (0, (0, 0), 0)).2.1.2) ∧ w.cell? ⟨b, off + i * 4 + 3, none⟩ = some (.int .i64 (l.getD i (0, (0, 0), 0)).2.2)
def ArgPs (w : World) (a : Option Addr) (l : List Pol) : Prop := 0 < l.length → ∃ b off, a = some ⟨b, off, none⟩ ∧ b < w.heap.size ∧ CellsPo w b off l
theorem CellsPo.below {w w' : World} {b off B : Nat} {l : List Pol} (h : CellsPo w b off l) (hb : Below B w w') (hB : b < B) : CellsPo w' b off l := fun i hi => by
  obtain ⟨h1, h2, h3, h4⟩ := h i hi
  exact ⟨(hb.cell (p := ⟨b, _, none⟩) hB).trans h1, (hb.cell (p := ⟨b, _, none⟩) hB).trans h2, (hb.cell (p := ⟨b, _, none⟩) hB).trans h3, (hb.cell (p := ⟨b, _, none⟩) hB).trans h4⟩
theorem ArgPs.past {w w' : World} {a : Option Addr} {l : List Pol} (h : ArgPs w a l) (hb : Below w.heap.size w w') : ArgPs w' a l := fun hl => by
  obtain ⟨b, off, e, h1, h2⟩ := h hl
  exact ⟨b, off, e, Nat.lt_of_lt_of_le h1 hb.size, h2.below hb h1⟩
end Go.Proofs.YtjhhcljbmnomlaaGreat

namespace Go.Proofs.YtjhhcljbmnomlaaGreat
open Go.ChangeShapes Go.WideShapes Go.ChangeAt Go.RowKit
section
variable {H : Type} {enc : TypeId × Value → H} {P : Program}
theorem trod_pol {e tv ti tu : TypeId} {f0 f1 f2 g0 g1 : Field} {W : World} {cs : List Value} {x : DataW H × List MemPlace} {fuel : Nat} (he : P.underlying e = some (.struct #[f0, f1, f2]))
    (o0 : f0.offset = 0) (o1 : f1.offset = 1) (o2 : f2.offset = 3) (t0 : f0.type = tu) (t1 : f1.type = tv) (t2 : f2.type = ti) (cu : P.cellsOf tu = 1) (cv : P.cellsOf tv = 2) (ci : P.cellsOf ti = 1) (hu : P.underlying tu = some (.int .u8)) (hi : P.underlying ti = some (.int .i64))
    (hv : P.underlying tv = some (.struct #[g0, g1])) (p0 : g0.offset = 0) (p1 : g1.offset = 1) (u0 : g0.type = ti) (u1 : g1.type = ti)
    (hf : DataW.trod enc P W 0 (fun _ => true) true fuel e cs = some x) (hcl : cs.length = 4) :
    ∃ q : Pol, cs = [.int .u8 q.1, .int .i64 q.2.1.1, .int .i64 q.2.1.2, .int .i64 q.2.2] ∧ P64 q := by
  obtain ⟨ys, n', _, _, hl1, hyl, hfs⟩ := DataW.trod_struct he hf
  have h0 := hfs 0 f0 rfl
  have h1 := hfs 1 f1 rfl
  have h2 := hfs 2 f2 rfl
  rw [o0, t0, cu] at h0
  rw [o1, t1, cv] at h1
  rw [o2, t2, ci] at h2
  match cs, hcl with
  | [c0, c1, c2, c3], _ =>
    match ys, hyl with
    | [y0, y1, y2], _ =>
      simp at h0 h1 h2
      obtain ⟨z0, e0, _, w0⟩ := DataW.trod_int hu h0
      obtain ⟨z3, e3, _, w3⟩ := DataW.trod_int hi h2
      obtain ⟨zs, n2, _, _, hl2, hzl, hgs⟩ := DataW.trod_struct hv h1
      have k0 := hgs 0 g0 rfl
      have k1 := hgs 1 g1 rfl
      rw [p0, u0, ci] at k0
      rw [p1, u1, ci] at k1
      match zs, hzl with
      | [q0, q1], _ =>
        simp at k0 k1
        obtain ⟨z1, e1, _, w1⟩ := DataW.trod_int hi k0
        obtain ⟨z2, e2, _, w2⟩ := DataW.trod_int hi k1
        simp at e0 e1 e2 e3
        subst e0 e1 e2 e3
        exact ⟨(z0, (z1, z2), z3), rfl, by simpa [Lit.wf, IntKind.min, IntKind.max, IntKind.signed, IntKind.bits] using w0, wf64 w1, wf64 w2, wf64 w3⟩
theorem open_pol {e tv ti tu : TypeId} {f0 f1 f2 g0 g1 : Field} {W : World} {v : Value} {d : DataW H} {p : List MemPlace} (he : P.underlying e = some (.struct #[f0, f1, f2])) (ce : P.cellsOf e = 4)
    (o0 : f0.offset = 0) (o1 : f1.offset = 1) (o2 : f2.offset = 3) (t0 : f0.type = tu) (t1 : f1.type = tv) (t2 : f2.type = ti) (cu : P.cellsOf tu = 1) (cv : P.cellsOf tv = 2) (ci : P.cellsOf ti = 1) (hu : P.underlying tu = some (.int .u8)) (hi : P.underlying ti = some (.int .i64))
    (hv : P.underlying tv = some (.struct #[g0, g1])) (p0 : g0.offset = 0) (p1 : g1.offset = 1) (u0 : g0.type = ti) (u1 : g1.type = ti)
    {r : Reach} {b0 : Nat} (ho : Value.okWide P W r b0 e v) (h : DataW.Trod enc P W 0 (fun _ => true) true e v d p) :
    ∃ q : Pol, v = PV q ∧ P64 q := by
  simp only [Value.okWide, he] at ho
  obtain ⟨cs, rfl, hsz, _⟩ := ho
  obtain ⟨fuel, hf⟩ := h
  rw [ce] at hsz
  obtain ⟨q, hq, h64⟩ := trod_pol he o0 o1 o2 t0 t1 t2 cu cv ci hu hi hv p0 p1 u0 u1 hf (by simpa [Value.cells] using hsz)
  refine ⟨q, ?_, h64⟩
  obtain ⟨l⟩ := cs
  simp [Value.cells] at hq
  rw [hq]
/-- An array of three slices of runs. -/
theorem open_slis3 {t ts e tv ti : TypeId} {f0 f1 g0 g1 : Field} {W : World} {v : Value} {d : DataW H} {p : List MemPlace} (ht : P.underlying t = some (.array 3 ts)) (ct : P.cellsOf t = 3) (cts : P.cellsOf ts = 1) (hs : P.underlying ts = some (.slice e)) (he : P.underlying e = some (.struct #[f0, f1]))
    (ce : P.cellsOf e = 3) (o0 : f0.offset = 0) (o1 : f1.offset = 1) (t0 : f0.type = ti) (t1 : f1.type = tv) (ci : P.cellsOf ti = 1) (cv : P.cellsOf tv = 2) (hi : P.underlying ti = some (.int .i64))
    (hv : P.underlying tv = some (.struct #[g0, g1])) (p0 : g0.offset = 0) (p1 : g1.offset = 1) (u0 : g0.type = ti) (u1 : g1.type = ti)
    {r : Reach} {b0 : Nat} (ho : Value.okWide P W r b0 t v) (h : DataW.Trod enc P W 0 (fun _ => true) true t v d p) :
    ∃ (F G K : List Sg) (a b c : Option Addr) (n m k : Nat), v = .agg #[.slice a F.length n, .slice b G.length m, .slice c K.length k] ∧ SliS W (.slice a F.length n) F ∧ SliS W (.slice b G.length m) G ∧ SliS W (.slice c K.length k) K ∧ (∀ x ∈ F, S64 x) ∧ (∀ x ∈ G, S64 x) ∧ ∀ x ∈ K, S64 x := by
  simp only [Value.okWide, ht] at ho
  obtain ⟨cs, rfl, hsz, _⟩ := ho
  obtain ⟨fuel, hf⟩ := h
  obtain ⟨xs, m, _, _, hl, hxl, hx⟩ := DataW.trod_array ht hf
  rw [ct] at hsz
  obtain ⟨c0, c1, c2, rfl⟩ : ∃ c0 c1 c2, cs = #[c0, c1, c2] := by
    obtain ⟨l⟩ := cs
    match l, hsz with
    | [c0, c1, c2], _ => exact ⟨c0, c1, c2, rfl⟩
  match xs, hxl with
  | [y0, y1, y2], _ =>
    have h0 := hx 0 (by omega)
    have h1 := hx 1 (by omega)
    have h2 := hx 2 (by omega)
    rw [cts] at h0 h1 h2
    simp [Value.cells] at h0 h1 h2
    obtain ⟨F, a, n, e0, _, S0, z0⟩ := trod_slis hs he ce o0 o1 t0 t1 ci cv hi hv p0 p1 u0 u1 h0
    obtain ⟨G, b, m, e1, _, S1, z1⟩ := trod_slis hs he ce o0 o1 t0 t1 ci cv hi hv p0 p1 u0 u1 h1
    obtain ⟨K, c, k, e2, _, S2, z2⟩ := trod_slis hs he ce o0 o1 t0 t1 ci cv hi hv p0 p1 u0 u1 h2
    simp at e0 e1 e2
    subst e0 e1 e2
    exact ⟨F, G, K, a, b, c, n, m, k, rfl, S0, S1, S2, z0, z1, z2⟩
/-- A slice of policies. -/
theorem open_pols {ts e tv ti tu : TypeId} {f0 f1 f2 g0 g1 : Field} {W : World} {v : Value} {d : DataW H} {p : List MemPlace} (hs : P.underlying ts = some (.slice e)) (he : P.underlying e = some (.struct #[f0, f1, f2])) (ce : P.cellsOf e = 4)
    (o0 : f0.offset = 0) (o1 : f1.offset = 1) (o2 : f2.offset = 3) (t0 : f0.type = tu) (t1 : f1.type = tv) (t2 : f2.type = ti) (cu : P.cellsOf tu = 1) (cv : P.cellsOf tv = 2) (ci : P.cellsOf ti = 1) (hu : P.underlying tu = some (.int .u8)) (hi : P.underlying ti = some (.int .i64))
    (hv : P.underlying tv = some (.struct #[g0, g1])) (p0 : g0.offset = 0) (p1 : g1.offset = 1) (u0 : g0.type = ti) (u1 : g1.type = ti)
    {r : Reach} {b0 : Nat} (ho : Value.okWide P W r b0 ts v) (h : DataW.Trod enc P W 0 (fun _ => true) true ts v d p) :
    ∃ (l : List Pol) (a : Option Addr) (cap : Nat), v = .slice a l.length cap ∧ l.length ≤ 9223372036854775807 ∧ ArgPs W a l ∧ ∀ x ∈ l, P64 x := by
  obtain ⟨a, len, cap, rfl⟩ := okWide_slice hs ho
  obtain ⟨fuel, hf⟩ := h
  rcases Deep.open_slice (cs := [.slice a len cap]) hs hf with ⟨hcs, _⟩ | ⟨a', len', cap', m, n, D, Pl, hcs, _, hlc, hcm, hm, _, hx⟩
  · simp at hcs
    obtain ⟨rfl, rfl, rfl⟩ := hcs
    exact ⟨[], none, 0, rfl, by simp, fun h => by simp at h, fun x hx => by simp at hx⟩
  · simp at hcs
    obtain ⟨rfl, rfl, rfl⟩ := hcs
    have hlen : len ≤ m := by rw [hm]; simpa using hlc
    have each : ∀ i, i < len → ∃ s : Pol, (W.cell? (a'.add (i * 4)) = some (.int .u8 s.1) ∧ W.cell? ((a'.add (i * 4)).add 1) = some (.int .i64 s.2.1.1) ∧ W.cell? ((a'.add (i * 4)).add 2) = some (.int .i64 s.2.1.2) ∧ W.cell? ((a'.add (i * 4)).add 3) = some (.int .i64 s.2.2)) ∧ P64 s := fun i hi' => by
      obtain ⟨cs', hc, ht⟩ := hx i (by omega)
      rw [ce] at hc
      obtain ⟨_, hcl, hat⟩ := World.cells?_some hc
      obtain ⟨q, rfl, h64⟩ := trod_pol he o0 o1 o2 t0 t1 t2 cu cv ci hu hi hv p0 p1 u0 u1 ht hcl
      have a0 := hat 0 (by omega)
      have a1 := hat 1 (by omega)
      have a2 := hat 2 (by omega)
      have a3 := hat 3 (by omega)
      simp at a1 a2 a3
      refine ⟨q, ⟨?_, a1, a2, a3⟩, h64⟩
      have ea : (a'.add (i * 4)).add 0 = a'.add (i * 4) := by simp [Addr.add]
      rw [ea] at a0
      simpa using a0
    obtain ⟨F, hF⟩ := Deep.choose_lt each
    refine ⟨(List.range len).map F, some a', cap, by simp, by simp; unfold maxLen at hcm; omega, fun hl => ?_, fun x hx => ?_⟩
    · simp at hl
      have hc00 := (hF 0 hl).1.1
      obtain ⟨b, off, spot⟩ := a'
      have hsp : spot = none := by
        cases spot with
        | none => rfl
        | some s => simp [Addr.add, World.cell?] at hc00; split at hc00 <;> simp at hc00
      subst hsp
      have hb : b < W.heap.size := by
        apply Nat.lt_of_not_le
        intro hge
        simp [Addr.add, World.cell?, Array.getElem?_eq_none hge] at hc00
      refine ⟨b, off, rfl, hb, fun i hi => ?_⟩
      have hi' : i < len := by simpa using hi
      have hg : ((List.range len).map F).getD i (0, (0, 0), 0) = F i := by simp [List.getD_eq_getElem?_getD, hi']
      obtain ⟨⟨h1, h2, h3, h4⟩, _⟩ := hF i hi'
      have ad : ∀ x y : Nat, (⟨b, x, none⟩ : Addr).add y = ⟨b, x + y, none⟩ := fun x y => by
        unfold Addr.add
        by_cases c : y = 0
        · subst c; simp
        · simp [c]
      rw [ad] at h1 h2 h3 h4
      rw [ad] at h2 h3 h4
      rw [hg]
      exact ⟨h1, h2, h3, h4⟩
    · rw [List.mem_map] at hx
      obtain ⟨i, hi, rfl⟩ := hx
      exact (hF i (by simpa using hi)).2
end
set_option maxRecDepth 100000 in
theorem cellsPol : Tryz.prog.cellsOf 77 = 4 := by kernel_rfl
set_option maxRecDepth 100000 in
theorem cellsU8 : Tryz.prog.cellsOf 5 = 1 := by kernel_rfl
set_option maxRecDepth 100000 in
/-- For this program. -/
theorem open_polP {H : Type} {enc : TypeId × Value → H} {W : World} {v : Value} {d : DataW H} {p : List MemPlace} {r : Reach} {b0 : Nat} (ho : Value.okWide Tryz.prog W r b0 77 v) (h : DataW.Trod enc Tryz.prog W 0 (fun _ => true) true 77 v d p) :
    ∃ q : Pol, v = PV q ∧ P64 q :=
  open_pol (P := Tryz.prog) Tryz.underlying77 cellsPol rfl rfl rfl rfl rfl rfl cellsU8 cellsV cellsI64 Tryz.underlying5 Tryz.underlying2 Tryz.underlying65 rfl rfl rfl rfl ho h
set_option maxRecDepth 100000 in
theorem cellsS3 : Tryz.prog.cellsOf 88 = 3 := by kernel_rfl
set_option maxRecDepth 100000 in
theorem cellsSl : Tryz.prog.cellsOf 22 = 1 := by kernel_rfl
set_option maxRecDepth 100000 in
theorem open_slis3P {H : Type} {enc : TypeId × Value → H} {W : World} {v : Value} {d : DataW H} {p : List MemPlace} {r : Reach} {b0 : Nat} (ho : Value.okWide Tryz.prog W r b0 88 v) (h : DataW.Trod enc Tryz.prog W 0 (fun _ => true) true 88 v d p) :
    ∃ (F G K : List Sg) (a b c : Option Addr) (n m k : Nat), v = .agg #[.slice a F.length n, .slice b G.length m, .slice c K.length k] ∧ SliS W (.slice a F.length n) F ∧ SliS W (.slice b G.length m) G ∧ SliS W (.slice c K.length k) K ∧ (∀ x ∈ F, S64 x) ∧ (∀ x ∈ G, S64 x) ∧ ∀ x ∈ K, S64 x :=
  open_slis3 (P := Tryz.prog) Tryz.underlying88 cellsS3 cellsSl Tryz.underlying22 Tryz.underlying105 cellsSeg rfl rfl rfl rfl cellsI64 cellsV Tryz.underlying2 Tryz.underlying65 rfl rfl rfl rfl ho h
set_option maxRecDepth 100000 in
theorem open_polsP {H : Type} {enc : TypeId × Value → H} {W : World} {v : Value} {d : DataW H} {p : List MemPlace} {r : Reach} {b0 : Nat} (ho : Value.okWide Tryz.prog W r b0 150 v) (h : DataW.Trod enc Tryz.prog W 0 (fun _ => true) true 150 v d p) :
    ∃ (l : List Pol) (a : Option Addr) (cap : Nat), v = .slice a l.length cap ∧ l.length ≤ 9223372036854775807 ∧ ArgPs W a l ∧ ∀ x ∈ l, P64 x :=
  open_pols (P := Tryz.prog) Tryz.underlying150 Tryz.underlying77 cellsPol rfl rfl rfl rfl rfl rfl cellsU8 cellsV cellsI64 Tryz.underlying5 Tryz.underlying2 Tryz.underlying65 rfl rfl rfl rfl ho h
end Go.Proofs.YtjhhcljbmnomlaaGreat

namespace Go.Proofs.YtjhhcljbmnomlaaGreat
open Go.ChangeShapes Go.WideShapes Go.ChangeAt Go.RowKit
section
variable {H : Type} {enc : TypeId × Value → H} {P : Program}
/-- A slice of policies. -/
theorem trod_polsF {ts e tv ti tu : TypeId} {f0 f1 f2 g0 g1 : Field} {W : World} {cs : List Value} {x : DataW H × List MemPlace} {fuel : Nat} (hs : P.underlying ts = some (.slice e)) (he : P.underlying e = some (.struct #[f0, f1, f2])) (ce : P.cellsOf e = 4)
    (o0 : f0.offset = 0) (o1 : f1.offset = 1) (o2 : f2.offset = 3) (t0 : f0.type = tu) (t1 : f1.type = tv) (t2 : f2.type = ti) (cu : P.cellsOf tu = 1) (cv : P.cellsOf tv = 2) (ci : P.cellsOf ti = 1) (hu : P.underlying tu = some (.int .u8)) (hi : P.underlying ti = some (.int .i64))
    (hv : P.underlying tv = some (.struct #[g0, g1])) (p0 : g0.offset = 0) (p1 : g1.offset = 1) (u0 : g0.type = ti) (u1 : g1.type = ti)
    (hf : DataW.trod enc P W 0 (fun _ => true) true fuel ts cs = some x) :
    ∃ (l : List Pol) (a : Option Addr) (cap : Nat), cs = [.slice a l.length cap] ∧ l.length ≤ 9223372036854775807 ∧ ArgPs W a l ∧ (∀ x ∈ l, P64 x) ∧ (a = none → l.length = 0 ∧ cap = 0) := by
  rcases Deep.open_slice hs hf with ⟨hcs, _⟩ | ⟨a', len, cap, m, n, D, Pl, hcs, _, hlc, hcm, hm, _, hx⟩
  · subst hcs
    exact ⟨[], none, 0, rfl, by simp, fun h => by simp at h, fun x hx => by simp at hx, fun _ => ⟨rfl, rfl⟩⟩
  · subst hcs
    have hlen : len ≤ m := by rw [hm]; simpa using hlc
    have each : ∀ i, i < len → ∃ s : Pol, (W.cell? (a'.add (i * 4)) = some (.int .u8 s.1) ∧ W.cell? ((a'.add (i * 4)).add 1) = some (.int .i64 s.2.1.1) ∧ W.cell? ((a'.add (i * 4)).add 2) = some (.int .i64 s.2.1.2) ∧ W.cell? ((a'.add (i * 4)).add 3) = some (.int .i64 s.2.2)) ∧ P64 s := fun i hi' => by
      obtain ⟨cs', hc, ht⟩ := hx i (by omega)
      rw [ce] at hc
      obtain ⟨_, hcl, hat⟩ := World.cells?_some hc
      obtain ⟨q, rfl, h64⟩ := trod_pol he o0 o1 o2 t0 t1 t2 cu cv ci hu hi hv p0 p1 u0 u1 ht hcl
      have a0 := hat 0 (by omega)
      have a1 := hat 1 (by omega)
      have a2 := hat 2 (by omega)
      have a3 := hat 3 (by omega)
      simp at a1 a2 a3
      refine ⟨q, ⟨?_, a1, a2, a3⟩, h64⟩
      have ea : (a'.add (i * 4)).add 0 = a'.add (i * 4) := by simp [Addr.add]
      rw [ea] at a0
      simpa using a0
    obtain ⟨F, hF⟩ := Deep.choose_lt each
    refine ⟨(List.range len).map F, some a', cap, by simp, by simp; unfold maxLen at hcm; omega, fun hl => ?_, fun x hx => ?_, fun h => by cases h⟩
    · simp at hl
      have hc00 := (hF 0 hl).1.1
      obtain ⟨b, off, spot⟩ := a'
      have hsp : spot = none := by
        cases spot with
        | none => rfl
        | some s => simp [Addr.add, World.cell?] at hc00; split at hc00 <;> simp at hc00
      subst hsp
      have hb : b < W.heap.size := by
        apply Nat.lt_of_not_le
        intro hge
        simp [Addr.add, World.cell?, Array.getElem?_eq_none hge] at hc00
      refine ⟨b, off, rfl, hb, fun i hi => ?_⟩
      have hi' : i < len := by simpa using hi
      have hg : ((List.range len).map F).getD i (0, (0, 0), 0) = F i := by simp [List.getD_eq_getElem?_getD, hi']
      obtain ⟨⟨h1, h2, h3, h4⟩, _⟩ := hF i hi'
      have ad : ∀ x y : Nat, (⟨b, x, none⟩ : Addr).add y = ⟨b, x + y, none⟩ := fun x y => by
        unfold Addr.add
        by_cases c : y = 0
        · subst c; simp
        · simp [c]
      rw [ad] at h1 h2 h3 h4
      rw [ad] at h2 h3 h4
      rw [hg]
      exact ⟨h1, h2, h3, h4⟩
    · rw [List.mem_map] at hx
      obtain ⟨i, hi, rfl⟩ := hx
      exact (hF i (by simpa using hi)).2
/-- A window, and a vector. -/
theorem open_ask {t tv ti : TypeId} {f0 f1 f2 g0 g1 : Field} {W : World} {v : Value} {d : DataW H} {p : List MemPlace} (ht : P.underlying t = some (.struct #[f0, f1, f2])) (ct : P.cellsOf t = 4)
    (o0 : f0.offset = 0) (o1 : f1.offset = 1) (o2 : f2.offset = 2) (t0 : f0.type = ti) (t1 : f1.type = ti) (t2 : f2.type = tv) (cv : P.cellsOf tv = 2) (ci : P.cellsOf ti = 1) (hi : P.underlying ti = some (.int .i64))
    (hv : P.underlying tv = some (.struct #[g0, g1])) (p0 : g0.offset = 0) (p1 : g1.offset = 1) (u0 : g0.type = ti) (u1 : g1.type = ti)
    {r : Reach} {b0 : Nat} (ho : Value.okWide P W r b0 t v) (h : DataW.Trod enc P W 0 (fun _ => true) true t v d p) :
    ∃ x y z u : Int, v = .agg #[.int .i64 x, .int .i64 y, .int .i64 z, .int .i64 u] ∧ I64 x ∧ I64 y ∧ I64 z ∧ I64 u := by
  simp only [Value.okWide, ht] at ho
  obtain ⟨cs, rfl, hsz, _⟩ := ho
  obtain ⟨fuel, hf⟩ := h
  rw [ct] at hsz
  obtain ⟨c0, c1, c2, c3, rfl⟩ : ∃ c0 c1 c2 c3, cs = #[c0, c1, c2, c3] := by
    obtain ⟨l⟩ := cs
    match l, hsz with
    | [c0, c1, c2, c3], _ => exact ⟨c0, c1, c2, c3, rfl⟩
  obtain ⟨ys, n', _, _, hl1, hyl, hfs⟩ := DataW.trod_struct ht hf
  have h0 := hfs 0 f0 rfl
  have h1 := hfs 1 f1 rfl
  have h2 := hfs 2 f2 rfl
  rw [o0, t0, ci] at h0
  rw [o1, t1, ci] at h1
  rw [o2, t2, cv] at h2
  match ys, hyl with
  | [y0, y1, y2], _ =>
    simp [Value.cells] at h0 h1 h2
    obtain ⟨z0, e0, _, w0⟩ := DataW.trod_int hi h0
    obtain ⟨z1, e1, _, w1⟩ := DataW.trod_int hi h1
    obtain ⟨zs, n2, _, _, hl2, hzl, hgs⟩ := DataW.trod_struct hv h2
    have k0 := hgs 0 g0 rfl
    have k1 := hgs 1 g1 rfl
    rw [p0, u0, ci] at k0
    rw [p1, u1, ci] at k1
    match zs, hzl with
    | [q0, q1], _ =>
      simp at k0 k1
      obtain ⟨z2, e2, _, w2⟩ := DataW.trod_int hi k0
      obtain ⟨z3, e3, _, w3⟩ := DataW.trod_int hi k1
      simp at e0 e1 e2 e3
      subst e0 e1 e2 e3
      exact ⟨z0, z1, z2, z3, rfl, wf64 w0, wf64 w1, wf64 w2, wf64 w3⟩
/-- Two small numbers. -/
theorem open_u16s {t ti : TypeId} (ht : P.underlying t = some (.array 2 ti)) (hti : P.underlying ti = some (.int .u16)) (ce : P.cellsOf ti = 1) (ct : P.cellsOf t = 2)
    {W : World} {v : Value} {d : DataW H} {p : List MemPlace} {r : Reach} {b0 base : Nat} {sp : Nat → Bool} {held : Bool} (ho : Value.okWide P W r b0 t v) (h : DataW.Trod enc P W base sp held t v d p) :
    ∃ x y : Int, v = .agg #[.int .u16 x, .int .u16 y] ∧ (0 ≤ x ∧ x ≤ 65535) ∧ (0 ≤ y ∧ y ≤ 65535) := by
  simp only [Value.okWide, ht] at ho
  obtain ⟨cs, rfl, hsz, _⟩ := ho
  obtain ⟨fuel, hf⟩ := h
  obtain ⟨xs, m, _, _, hl, hxl, hx⟩ := DataW.trod_array ht hf
  rw [ct] at hsz
  obtain ⟨c0, c1, rfl⟩ : ∃ c0 c1, cs = #[c0, c1] := by
    obtain ⟨l⟩ := cs
    match l, hsz with
    | [c0, c1], _ => exact ⟨c0, c1, rfl⟩
  match xs, hxl with
  | [y0, y1], _ =>
    have h0 := hx 0 (by omega)
    have h1 := hx 1 (by omega)
    rw [ce] at h0 h1
    simp [Value.cells] at h0 h1
    obtain ⟨z0, e0, _, w0⟩ := DataW.trod_int hti h0
    obtain ⟨z1, e1, _, w1⟩ := DataW.trod_int hti h1
    simp at e0 e1
    subst e0 e1
    exact ⟨z0, z1, rfl, by simpa [Lit.wf, IntKind.min, IntKind.max, IntKind.signed, IntKind.bits] using w0, by simpa [Lit.wf, IntKind.min, IntKind.max, IntKind.signed, IntKind.bits] using w1⟩
/-- A capacity, a load, what a user has, policies, a time. -/
theorem open_fcase {t ts tp e ep tv ti tu : TypeId} {f0 f1 f2 f3 f4 e0 e1 g0 g1 h0' h1' h2' : Field} {W : World} {v : Value} {d : DataW H} {p : List MemPlace} (ht : P.underlying t = some (.struct #[f0, f1, f2, f3, f4])) (ct : P.cellsOf t = 5)
    (o0 : f0.offset = 0) (o1 : f1.offset = 1) (o2 : f2.offset = 2) (o3 : f3.offset = 3) (o4 : f4.offset = 4) (t0 : f0.type = ts) (t1 : f1.type = ts) (t2 : f2.type = ts) (t3 : f3.type = tp) (t4 : f4.type = ti) (cts : P.cellsOf ts = 1) (ctp : P.cellsOf tp = 1)
    (hs : P.underlying ts = some (.slice e)) (he : P.underlying e = some (.struct #[e0, e1])) (ce : P.cellsOf e = 3) (eo0 : e0.offset = 0) (eo1 : e1.offset = 1) (et0 : e0.type = ti) (et1 : e1.type = tv) (ci : P.cellsOf ti = 1) (cv : P.cellsOf tv = 2) (hi : P.underlying ti = some (.int .i64))
    (hv : P.underlying tv = some (.struct #[g0, g1])) (p0 : g0.offset = 0) (p1 : g1.offset = 1) (u0 : g0.type = ti) (u1 : g1.type = ti)
    (hp : P.underlying tp = some (.slice ep)) (hep : P.underlying ep = some (.struct #[h0', h1', h2'])) (cep : P.cellsOf ep = 4) (po0 : h0'.offset = 0) (po1 : h1'.offset = 1) (po2 : h2'.offset = 3) (pt0 : h0'.type = tu) (pt1 : h1'.type = tv) (pt2 : h2'.type = ti) (cu : P.cellsOf tu = 1) (hu : P.underlying tu = some (.int .u8))
    {r : Reach} {b0 : Nat} (ho : Value.okWide P W r b0 t v) (h : DataW.Trod enc P W 0 (fun _ => true) true t v d p) :
    ∃ (F G K : List Sg) (l : List Pol) (a b c o : Option Addr) (n m k j : Nat) (x : Int), v = .agg #[.slice a F.length n, .slice b G.length m, .slice c K.length k, .slice o l.length j, .int .i64 x] ∧ SliS W (.slice a F.length n) F ∧ SliS W (.slice b G.length m) G ∧ SliS W (.slice c K.length k) K ∧
      (ArgPs W o l ∧ (∀ x ∈ l, P64 x) ∧ (o = none → l.length = 0 ∧ j = 0) ∧ l.length ≤ 9223372036854775807) ∧ I64 x := by
  simp only [Value.okWide, ht] at ho
  obtain ⟨cs, rfl, hsz, _⟩ := ho
  obtain ⟨fuel, hf⟩ := h
  rw [ct] at hsz
  obtain ⟨c0, c1, c2, c3, c4, rfl⟩ : ∃ c0 c1 c2 c3 c4, cs = #[c0, c1, c2, c3, c4] := by
    obtain ⟨l⟩ := cs
    match l, hsz with
    | [c0, c1, c2, c3, c4], _ => exact ⟨c0, c1, c2, c3, c4, rfl⟩
  obtain ⟨ys, n', _, _, hl1, hyl, hfs⟩ := DataW.trod_struct ht hf
  have h0 := hfs 0 f0 rfl
  have h1 := hfs 1 f1 rfl
  have h2 := hfs 2 f2 rfl
  have h3 := hfs 3 f3 rfl
  have h4 := hfs 4 f4 rfl
  rw [o0, t0, cts] at h0
  rw [o1, t1, cts] at h1
  rw [o2, t2, cts] at h2
  rw [o3, t3, ctp] at h3
  rw [o4, t4, ci] at h4
  match ys, hyl with
  | [y0, y1, y2, y3, y4], _ =>
    simp [Value.cells] at h0 h1 h2 h3 h4
    obtain ⟨F, a, n, q0, _, S0, _⟩ := trod_slis hs he ce eo0 eo1 et0 et1 ci cv hi hv p0 p1 u0 u1 h0
    obtain ⟨G, b, m, q1, _, S1, _⟩ := trod_slis hs he ce eo0 eo1 et0 et1 ci cv hi hv p0 p1 u0 u1 h1
    obtain ⟨K, c, k, q2, _, S2, _⟩ := trod_slis hs he ce eo0 eo1 et0 et1 ci cv hi hv p0 p1 u0 u1 h2
    obtain ⟨l, o, j, q3, z1, z2, z3, z4⟩ := trod_polsF hp hep cep po0 po1 po2 pt0 pt1 pt2 cu cv ci hu hi hv p0 p1 u0 u1 h3
    obtain ⟨x, q4, _, w4⟩ := DataW.trod_int hi h4
    simp at q0 q1 q2 q3 q4
    subst q0 q1 q2 q3 q4
    exact ⟨F, G, K, l, a, b, c, o, n, m, k, j, x, rfl, S0, S1, S2, ⟨z2, z3, z4, z1⟩, wf64 w4⟩
end
set_option maxRecDepth 100000 in
theorem open_askP {H : Type} {enc : TypeId × Value → H} {W : World} {v : Value} {d : DataW H} {p : List MemPlace} {r : Reach} {b0 : Nat} (ho : Value.okWide Tryz.prog W r b0 91 v) (h : DataW.Trod enc Tryz.prog W 0 (fun _ => true) true 91 v d p) :
    ∃ x y z u : Int, v = .agg #[.int .i64 x, .int .i64 y, .int .i64 z, .int .i64 u] ∧ I64 x ∧ I64 y ∧ I64 z ∧ I64 u :=
  open_ask (P := Tryz.prog) Tryz.underlying91 (by kernel_rfl) rfl rfl rfl rfl rfl rfl cellsV cellsI64 Tryz.underlying2 Tryz.underlying65 rfl rfl rfl rfl ho h
end Go.Proofs.YtjhhcljbmnomlaaGreat

namespace Go.Proofs.YtjhhcljbmnomlaaGreat
open Go.ChangeShapes Go.WideShapes Go.ChangeAt Go.RowKit
attribute [local irreducible] Go.Calls

/-- The values that a slice's cells hold. -/
def CellsX (w : World) (b off : Nat) (xs : List Value) : Prop := ∀ i, i < xs.length → w.cell? ⟨b, off + i, none⟩ = some (xs.getD i (.slice none 0 0))
def SliX (w : World) (v : Value) (xs : List Value) : Prop := ∃ (a : Option Addr) (cap : Nat), v = .slice a xs.length cap ∧ xs.length ≤ cap ∧ cap ≤ 9223372036854775807 ∧ (0 < xs.length → ∃ b off, a = some ⟨b, off, none⟩ ∧ b < w.heap.size ∧ CellsX w b off xs)
theorem sliX_own {w : World} {base : Nat} {e : TypeId} {v : Value} {xs : List Value} (h : w.ownsRow base e 1 v xs.length xs) : SliX w v xs := by
  obtain ⟨h1, h2 | ⟨g, cap, cur, rfl, h3, h4, h5, h6, h7, h8⟩⟩ := h
  · obtain ⟨rfl, h2⟩ := h2
    have : xs = [] := List.eq_nil_of_length_eq_zero h2
    subst this
    exact ⟨none, 0, rfl, Nat.le_refl _, by omega, fun h => by simp at h⟩
  · refine ⟨some ⟨g, 0, none⟩, cap, rfl, h5, by unfold maxLen at h6; omega, fun _ => ⟨g, 0, rfl, lt_of_block h4, fun i hi => ?_⟩⟩
    have e : w.cell? ⟨g, 0 + i, none⟩ = cur[i]? := by simp [World.cell?, h4]
    have hg : xs[i]? = some (xs.getD i (.slice none 0 0)) := by simp [List.getD_eq_getElem?_getD, List.getElem?_eq_getElem hi]
    rw [e, ← Array.getElem?_toList]
    rw [← h8, List.getElem?_take, if_pos (by omega)] at hg
    rw [← h8]; exact hg
theorem SliX.past {w w' : World} {v : Value} {xs : List Value} (h : SliX w v xs) (hb : Below w.heap.size w w') : SliX w' v xs := by
  obtain ⟨a, cap, h1, h2, h3, h4⟩ := h
  exact ⟨a, cap, h1, h2, h3, fun hl => by
    obtain ⟨b, off, e, h5, h6⟩ := h4 hl
    exact ⟨b, off, e, Nat.lt_of_lt_of_le h5 hb.size, fun i hi => (hb.cell (p := ⟨b, _, none⟩) h5).trans (h6 i hi)⟩⟩
/-- Slices that read as lists of runs, one by one. -/
def RowX (w : World) (xs : List Value) (Fs : List (List Sg)) : Prop := xs.length = Fs.length ∧ ∀ i, i < xs.length → SliS w (xs.getD i (.slice none 0 0)) (Fs.getD i [])
theorem RowX.past {w w' : World} {xs : List Value} {Fs : List (List Sg)} (h : RowX w xs Fs) (hb : Below w.heap.size w w') : RowX w' xs Fs := ⟨h.1, fun i hi => (h.2 i hi).past hb⟩
theorem getD_snoc {α : Type} {l : List α} {x d : α} {i : Nat} : (l ++ [x]).getD i d = if i < l.length then l.getD i d else if i = l.length then x else d := by
  simp only [List.getD_eq_getElem?_getD]
  by_cases h : i < l.length
  · rw [if_pos h, List.getElem?_append_left h]
  · rw [if_neg h, List.getElem?_append_right (by omega)]
    by_cases h2 : i = l.length
    · subst h2; simp
    · rw [if_neg h2]
      have : [x][i - l.length]? = none := by rw [List.getElem?_eq_none_iff]; simp; omega
      rw [this]; rfl
theorem RowX.snoc {w : World} {xs : List Value} {Fs : List (List Sg)} {v : Value} {F : List Sg} (h : RowX w xs Fs) (hv : SliS w v F) : RowX w (xs ++ [v]) (Fs ++ [F]) := by
  refine ⟨by simp [h.1], fun i hi => ?_⟩
  rw [getD_snoc, getD_snoc, ← h.1]
  simp at hi
  by_cases c : i < xs.length
  · rw [if_pos c, if_pos c]; exact h.2 i c
  · rw [if_neg c, if_neg c, if_pos (by omega), if_pos (by omega)]; exact hv
end Go.Proofs.YtjhhcljbmnomlaaGreat

namespace Go.Proofs.YtjhhcljbmnomlaaGreat
open Go.ChangeShapes Go.WideShapes Go.ChangeAt Go.RowKit
attribute [local irreducible] Go.Calls

set_option maxRecDepth 100000 in
theorem next_c (f g : List Sg) (a a' : Option Addr) (cap cap' : Nat) (w : World) (hl : f.length ≤ 1000000000) (hl' : g.length ≤ 1000000000) (hne : ¬ (f.length = 0 ∧ g.length = 0)) (hA : ArgS w a f) (hA' : ArgS w a' g) :
    Calls Tryz.prog 220 #[.slice a f.length cap, .slice a' g.length cap'] w fun e w' => e = .returned (.int .i64 (nextT f g)) ∧ Below w.heap.size w w' := by
  by_cases hg : g.length = 0
  · have hf : 0 < f.length := by omega
    have HE := hidE (show nextT f g = ats f 0 by unfold nextT; rw [if_pos (.inl hg)])
    obtain ⟨b, off, rfl, hb, hc⟩ := hA hf
    obtain ⟨c0, _, _⟩ := hc.get (i := 0) hf
    simp at c0
    have dg : ((g.length : Int) == 0) = true := beq_iff_eq.2 (by omega)
    clear hA hA' hc hne hg
    rw [HE.out]
    generalize ats f 0 = u at *
    generalize f.length = k at *
    generalize g.length = k' at *
    go_enter Tryz.func220, Tryz.ntmps220
    go_wp2
    go_quiet (fail)
    go_wp2
    go_ret
    exact ⟨rfl, by (repeat (first | exact Below.refl _ _ | assumption | refine balloc ?_ _ | refine below_drewN ?_ _ | refine bstep (by assumption) ?_ | refine bstep (Past.prop _) ?_ | refine Below.setCell ?_ (by first | exact Nat.le_refl _ | (simp; done) | (simp; omega)) _))⟩
  · have hg0 : 0 < g.length := by omega
    obtain ⟨b', off', rfl, hb', hc'⟩ := hA' hg0
    obtain ⟨d0, _, _⟩ := hc'.get (i := 0) hg0
    simp at d0
    have dg : ((g.length : Int) == 0) = false := beq_eq_false_iff_ne.2 (by omega)
    by_cases hf : f.length = 0
    · have HE := hidE (show nextT f g = ats g 0 by unfold nextT; rw [if_neg (by omega)])
      have df : decide (0 < f.length) = false := decide_eq_false (by omega)
      clear hA hA' hc' hne hg hf
      rw [HE.out]
      generalize ats g 0 = u at *
      generalize g.length = k at *
      generalize f.length = k' at *
      go_enter Tryz.func220, Tryz.ntmps220
      go_wp2
      go_quiet (fail)
      go_wp2
      go_ret
      exact ⟨rfl, by (repeat (first | exact Below.refl _ _ | assumption | refine balloc ?_ _ | refine below_drewN ?_ _ | refine bstep (by assumption) ?_ | refine bstep (Past.prop _) ?_ | refine Below.setCell ?_ (by first | exact Nat.le_refl _ | (simp; done) | (simp; omega)) _))⟩
    · have hf0 : 0 < f.length := by omega
      obtain ⟨b, off, rfl, hb, hc⟩ := hA hf0
      obtain ⟨c0, _, _⟩ := hc.get (i := 0) hf0
      simp at c0
      have df : decide (0 < f.length) = true := decide_eq_true hf0
      by_cases hlt : ats f 0 < ats g 0
      · have HE := hidE (show nextT f g = ats f 0 by unfold nextT; rw [if_pos (.inr ⟨hf0, hlt⟩)])
        have dl : decide (ats f 0 < ats g 0) = true := decide_eq_true hlt
        clear hA hA' hc hc' hne hg hf hlt
        rw [HE.out]
        generalize ats g 0 = u at *
        generalize ats f 0 = u' at *
        generalize g.length = k at *
        generalize f.length = k' at *
        go_enter Tryz.func220, Tryz.ntmps220
        go_wp2
        go_quiet (fail)
        go_wp2
        go_ret
        exact ⟨rfl, by (repeat (first | exact Below.refl _ _ | assumption | refine balloc ?_ _ | refine below_drewN ?_ _ | refine bstep (by assumption) ?_ | refine bstep (Past.prop _) ?_ | refine Below.setCell ?_ (by first | exact Nat.le_refl _ | (simp; done) | (simp; omega)) _))⟩
      · have HE := hidE (show nextT f g = ats g 0 by unfold nextT; rw [if_neg (by omega)])
        have dl : decide (ats f 0 < ats g 0) = false := decide_eq_false hlt
        clear hA hA' hc hc' hne hg hf hlt
        rw [HE.out]
        generalize ats g 0 = u at *
        generalize ats f 0 = u' at *
        generalize g.length = k at *
        generalize f.length = k' at *
        go_enter Tryz.func220, Tryz.ntmps220
        go_wp2
        go_quiet (fail)
        go_wp2
        go_ret
        exact ⟨rfl, by (repeat (first | exact Below.refl _ _ | assumption | refine balloc ?_ _ | refine below_drewN ?_ _ | refine bstep (by assumption) ?_ | refine bstep (Past.prop _) ?_ | refine Below.setCell ?_ (by first | exact Nat.le_refl _ | (simp; done) | (simp; omega)) _))⟩

/-- A slice value that reads as r wherever the slice a reads as f. -/
def SliAll (a : Option Addr) (f : List Sg) (v : Value) (r : List Sg) : Prop :=
  ∃ (a2 : Option Addr) (cap2 : Nat), v = .slice a2 r.length cap2 ∧ r.length ≤ cap2 ∧ cap2 ≤ 9223372036854775807 ∧ ∀ w0, ArgS w0 a f → ArgS w0 a2 r
theorem sliAll_refl (a : Option Addr) (f : List Sg) (cap : Nat) (h : f.length ≤ cap) (h2 : cap ≤ 9223372036854775807) : SliAll a f (.slice a f.length cap) f := ⟨a, cap, rfl, h, h2, fun _ h => h⟩
theorem sliAll_trans {a a1 : Option Addr} {f f1 r : List Sg} {v : Value} (h : ∀ w0, ArgS w0 a f → ArgS w0 a1 f1) (h2 : SliAll a1 f1 v r) : SliAll a f v r := by
  obtain ⟨a2, cap2, e, l1, l2, k⟩ := h2
  exact ⟨a2, cap2, e, l1, l2, fun w0 h0 => k w0 (h w0 h0)⟩
theorem argS_tail {b off : Nat} {f : List Sg} (w0 : World) (h : ArgS w0 (some ⟨b, off, none⟩) f) : ArgS w0 (some ⟨b, off + 3, none⟩) (f.drop 1) := fun hl => by
  rw [List.length_drop] at hl
  obtain ⟨b', off', e, hb, hc⟩ := h (by omega)
  cases e
  refine ⟨b, off + 3, rfl, hb, fun i hi => ?_⟩
  rw [List.length_drop] at hi
  obtain ⟨h1, h2, h3⟩ := hc (i + 1) (by omega)
  have e : (f.drop 1).getD i (0, 0, 0) = f.getD (i + 1) (0, 0, 0) := by simp [List.getD_eq_getElem?_getD]
  rw [e, show off + 3 + i * 3 = off + (i + 1) * 3 by omega]
  exact ⟨h1, h2, h3⟩

set_option maxRecDepth 100000 in
theorem pass_c (f : List Sg) (t x y : Int) (a : Option Addr) (cap : Nat) (w : World) (hl : f.length ≤ cap) (hl' : cap ≤ 9223372036854775807) (hA : ArgS w a f) :
    Calls Tryz.prog 221 #[.slice a f.length cap, .int .i64 t, V x y] w fun e w' => (∃ sv, e = .returned (.tuple #[V (passV f t (x, y)).1 (passV f t (x, y)).2, sv]) ∧ SliAll a f sv (passF f t)) ∧ Below w.heap.size w w' := by
  by_cases hf : f.length = 0
  · have HE := hidE (show passV f t (x, y) = (x, y) by unfold passV hit; rw [if_neg (by rw [hf]; simp)])
    have HF := hidE (show passF f t = f by unfold passF hit; rw [if_neg (by rw [hf]; simp)])
    have HS := hidE (sliAll_refl a f cap hl hl')
    have df : decide (0 < f.length) = false := decide_eq_false (by omega)
    clear hA hf hl hl'
    rw [HE.out, HF.out]
    generalize f.length = k at *
    go_enter Tryz.func221, Tryz.ntmps221
    go_wp2
    refine bodyPost_ret (v := .tuple #[V x y, .slice a k cap]) (by simp [results, Tryz.results221, go_sem, *]) rfl ⟨⟨_, rfl, HS.out⟩, ?_⟩
    (repeat (first | exact Below.refl _ _ | assumption | refine balloc ?_ _ | refine below_drewN ?_ _ | refine bstep (by assumption) ?_ | refine bstep (Past.prop _) ?_ | refine Below.setCell ?_ (by first | exact Nat.le_refl _ | (simp; done) | (simp; omega)) _))
  · have hf0 : 0 < f.length := by omega
    obtain ⟨b, off, rfl, hb, hc⟩ := hA hf0
    obtain ⟨c0, c1, c2⟩ := hc.get (i := 0) hf0
    simp at c0 c1 c2
    have df : decide (0 < f.length) = true := decide_eq_true hf0
    by_cases ht : ats f 0 = t
    · have HE := hidE (show passV f t (x, y) = vls f 0 by unfold passV hit; rw [if_pos (by simp [hf0, ht])])
      have HF := hidE (show passF f t = f.drop 1 by unfold passF hit; rw [if_pos (by simp [hf0, ht])])
      have HS := hidE (argS_tail (b := b) (off := off) (f := f))
      have dt : (ats f 0 == t) = true := beq_iff_eq.2 ht
      have HL := hidE (show (f.drop 1).length = f.length - 1 by rw [List.length_drop])
      clear hA hc hf ht
      rw [HE.out, HF.out]
      generalize f.drop 1 = r at *
      generalize ats f 0 = u at *
      generalize vls f 0 = v at *
      go_enter Tryz.func221, Tryz.ntmps221
      go_upto_region 2 with fail
      go_region
      have hB : Below w.heap.size w ((w.alloc (Obj.cells #[Value.int IntKind.i64 x, Value.int IntKind.i64 y] 65)).alloc (Obj.cells #[Value.int IntKind.i64 v.fst, Value.int IntKind.i64 v.snd] 65)).drew :=
        Below.trans (b := (w.alloc (Obj.cells #[Value.int IntKind.i64 x, Value.int IntKind.i64 y] 65)).alloc (Obj.cells #[Value.int IntKind.i64 v.fst, Value.int IntKind.i64 v.snd] 65)) (by (repeat (first | exact Below.refl _ _ | assumption | refine balloc ?_ _ | refine below_drewN ?_ _ | refine bstep (by assumption) ?_ | refine bstep (Past.prop _) ?_ | refine Below.setCell ?_ (by first | exact Nat.le_refl _ | (simp; done) | (simp; omega)) _))) (Below.refl _ _).drew
      have HB := hidE hB
      clear hB
      go_wp2
      · refine bodyPost_ret (v := .tuple #[V v.1 v.2, .slice (if cap = 1 then some ⟨b, off, none⟩ else some ⟨b, off + 3, none⟩) (f.length - 1) (cap - 1)]) (by simp [results, Tryz.results221, go_sem, *]) rfl ⟨⟨_, rfl, _, _, by rw [HL.out], by rw [HL.out]; omega, by omega, fun w0 h0 hl0 => ?_⟩, HB.out⟩
        rw [HL.out] at hl0
        omega
      · refine bodyPost_ret (v := .tuple #[V v.1 v.2, .slice (if cap = 1 then some ⟨b, off, none⟩ else some ⟨b, off + 3, none⟩) (f.length - 1) (cap - 1)]) (by simp [results, Tryz.results221, go_sem, *]) rfl ⟨⟨_, rfl, _, _, by rw [HL.out], by rw [HL.out]; omega, by omega, fun w0 h0 => ?_⟩, HB.out⟩
        rw [if_neg (by assumption)]
        exact HS.out w0 h0
    · have HE := hidE (show passV f t (x, y) = (x, y) by unfold passV hit; rw [if_neg (by simp [ht])])
      have HF := hidE (show passF f t = f by unfold passF hit; rw [if_neg (by simp [ht])])
      have HS := hidE (sliAll_refl (some ⟨b, off, none⟩) f cap hl hl')
      have dt : (ats f 0 == t) = false := beq_eq_false_iff_ne.2 ht
      clear hA hc hf hl hl' ht c1 c2
      rw [HE.out, HF.out]
      generalize ats f 0 = u at *
      generalize f.length = k at *
      go_enter Tryz.func221, Tryz.ntmps221
      go_wp2
      refine bodyPost_ret (v := .tuple #[V x y, .slice (some ⟨b, off, none⟩) k cap]) (by simp [results, Tryz.results221, go_sem, *]) rfl ⟨⟨_, rfl, HS.out⟩, ?_⟩
      (repeat (first | exact Below.refl _ _ | assumption | refine balloc ?_ _ | refine below_drewN ?_ _ | refine bstep (by assumption) ?_ | refine bstep (Past.prop _) ?_ | refine Below.setCell ?_ (by first | exact Nat.le_refl _ | (simp; done) | (simp; omega)) _))
end Go.Proofs.YtjhhcljbmnomlaaGreat

namespace Go.Proofs.YtjhhcljbmnomlaaGreat
open Go.RowKit

/-- What a body keeps: whatever lies below n₀, and whatever lay at or beyond n₁. -/
structure Outside (n₀ n₁ : Nat) (W W' : World) : Prop where
  below : Below n₀ W W'
  beyond : ∀ k, n₁ ≤ k → k < W.heap.size → W'.heap[k]? = W.heap[k]?
theorem Outside.refl (n₀ n₁ : Nat) (W : World) : Outside n₀ n₁ W W := ⟨Below.refl _ _, fun _ _ _ => rfl⟩
theorem Outside.trans {n₀ n₁ : Nat} {A B C : World} (h : Outside n₀ n₁ A B) (k : Outside n₀ n₁ B C) : Outside n₀ n₁ A C :=
  ⟨h.below.trans k.below, fun i hi hl => (k.beyond i hi (Nat.lt_of_lt_of_le hl h.below.size)).trans (h.beyond i hi hl)⟩
theorem Outside.of_below {n₀ n₁ : Nat} {A B : World} (h : Below A.heap.size A B) (hn : n₀ ≤ A.heap.size) : Outside n₀ n₁ A B := ⟨h.mono hn, fun k _ hl => h.block k hl⟩
theorem Outside.weak {n₀ n₁ n₁' : Nat} {A B : World} (h : Outside n₀ n₁ A B) (hn : n₁ ≤ n₁') : Outside n₀ n₁' A B := ⟨h.below, fun k hk hl => h.beyond k (by omega) hl⟩
/-- A turn of a block of the caller's own. -/
theorem Outside.of_grown {n₀ n₁ p : Nat} {A B : World} (h : A.grownBy B (some p)) (h0 : n₀ ≤ p) (h1 : p < n₁) (h2 : n₀ ≤ A.heap.size) : Outside n₀ n₁ A B :=
  ⟨⟨h.os, h.tape, h.output, h.size, fun k hk => h.block k (by omega) (fun e => by cases e; omega)⟩, fun k hk hl => h.block k hl (fun e => by cases e; omega)⟩

/-- The contract of an iterator value: it hands on the list S, one after the other, unless a round says 'no more'; whatever the caller's invariants are that speak only of what lay ahead of the iterator's call. -/
def SeqT {α : Type} (P : Program) (gf : Nat) (rb lb : Array Value) (encs : α → Array Value) (n₀ : Nat) (S : List α) (w : World) : Prop :=
  ∀ (l : Nat) (J Jx : List α → World → Prop) (W : World), Below w.heap.size w W →
    (∀ s A B, J s A → Below W.heap.size A B → J s B) → (∀ s A B, Jx s A → Below W.heap.size A B → Jx s B) →
    (∀ pre x W1, J pre W1 → pre ++ [x] <+: S → YieldAt Fence.wide 0 P l (encs x) W1 fun e W' =>
      (e = .returned (.bool true) ∧ J (pre ++ [x]) W' ∧ Outside n₀ W.heap.size W1 W') ∨ (e = .returned (.bool false) ∧ Jx (pre ++ [x]) W')) →
    J [] W →
    Calls P gf (rb ++ #[.func (.yield l) #[] #[]] ++ lb) W fun e W' => (∃ v, e = .returned v) ∧ (J S W' ∨ ∃ pre, pre <+: S ∧ Jx pre W')

/-- How the body of a round may be left. -/
def postT {α : Type} (n₀ n₁ : Nat) (I : List α → World → Prop) (Ix : Code → List α → World → Prop) (xs : List α) (W : World) : Exit → Act → World → Prop
  | .normal, _, W' => Outside n₀ n₁ W W' ∧ I xs W'
  | .ret, _, W' => Outside n₀ n₁ W W' ∧ Ix .ret xs W'
  | .exit id, _, W' => Outside n₀ n₁ W W' ∧ Ix (.exit id) xs W'
  | .goto t, _, W' => Outside n₀ n₁ W W' ∧ Ix (.goto t) xs W'
  | .panic _, _, _ => False
  | .outgrown, _, _ => False

theorem below_putObj {B : Nat} (W : World) (l : Nat) (o : Obj) (h : B ≤ l) : Below B W (W.putObj l o) :=
  ⟨rfl, rfl, rfl, by simp, fun k hk => World.putObj_heap_other (by omega)⟩

theorem grown_putObj (W : World) (l : Nat) (o : Obj) : W.grownBy (W.putObj l o) (some l) :=
  ⟨rfl, rfl, rfl, by simp, fun k _ hk => World.putObj_heap_other (fun e => hk (by rw [e]))⟩
/-- The statement. -/
theorem wp_rangeFunc_T {α : Type} {P : Program} {g : Operand} {ps : Array Tmp} {assign body : Code} {Q : Exit → Act → World → Prop} {a : Act} {w : World}
    {gf : Nat} {rb lb : Array Value} (hg : a.eval g = .func (.func gf) rb lb) (eg : ∀ args w, (callFunc gf args).run P w = .ok (.enter gf args) w)
    {encs : α → Array Value} {n₀ : Nat} (hn₀ : n₀ ≤ w.heap.size) {S : List α} (hseq : SeqT P gf rb lb encs n₀ S w) (hps : ∀ x, (encs x).size = ps.size)
    (I : List α → World → Prop) (Ix : Code → List α → World → Prop) (hI : ∀ s A B, I s A → Below w.heap.size A B → I s B) (hIx : ∀ c s A B, Ix c s A → Below w.heap.size A B → Ix c s B) (h0 : I [] w)
    (Ax : α → Act → World → Prop) (hAx : ∀ x a' A l r o, Ax x a' A → A.heap[l]? = some (.loop r) → Ax x a' (A.putObj l o))
    (hassign : ∀ (l : Nat) (pre : List α) (x : α) (W : World) (K : Act → World → Prop), w.heap.size ≤ W.heap.size → I pre W → (∀ a' W', Outside n₀ w.heap.size W W' → I pre W' → Ax x a' W' → K a' W') →
      assign.wpIn (Fence.wide.inRound l) 0 P (Exit.then K (fun _ _ _ => False)) { tmps := (ps.zip (encs x)).foldl (fun t (p, v) => t.setIfInBounds p v) a.tmps, defers := [] } W)
    (hbody : ∀ (l : Nat) (pre : List α) (x : α) (a' : Act) (W : World), w.heap.size ≤ W.heap.size → I pre W → Ax x a' W → pre ++ [x] <+: S → body.wpIn (Fence.wide.inRound l) 0 P (postT n₀ w.heap.size I Ix (pre ++ [x]) W) a' W)
    (hdone : ∀ (D : Nat) (W : World), w.heap.size ≤ D → I S W → W.heap[D]? = some (.deferred (some [])) → Q .normal { a with defers := { target := .collected D, args := #[] } :: a.defers } W)
    (hstop : ∀ (D : Nat) (c : Code) (pre : List α) (W : World), w.heap.size ≤ D → pre <+: S → Ix c pre W → W.heap[D]? = some (.deferred (some [])) → c.wp P Q { a with defers := { target := .collected D, args := #[] } :: a.defers } W) :
    (Code.rangeFunc g ps assign body).wp P Q a w := by
  refine (wpIn_wide (n := 0)).1 (wpIn_rangeFunc ?_)
  intro fn hfn
  obtain ⟨rec, hrec⟩ : ∃ rec : LoopState → Option Code → Loop, rec = fun st pe => { state := st, pending := pe, fn, tmps := a.tmps, params := ps, assign, body, defers := w.heap.size } := ⟨_, rfl⟩
  obtain ⟨W1, hW1⟩ : ∃ W1, (w.alloc (.deferred (some []))).alloc (.loop (rec .ready none)) = W1 := ⟨_, rfl⟩
  have hL1 : W1.heap[w.heap.size + 1]? = some (.loop (rec .ready none)) := by
    rw [← hW1]; have := World.alloc_heap_new (w.alloc (.deferred (some []))) (.loop (rec .ready none)); rwa [World.size_alloc] at this
  have hK1 : W1.heap[w.heap.size]? = some (.deferred (some [])) := by
    rw [← hW1]; exact (Below.heap_alloc _ _ _ (by simp)).trans (World.alloc_heap_new w _)
  have hb1 : Below w.heap.size w W1 := by
    rw [← hW1]; exact ((Below.refl _ w).alloc (Nat.le_refl _) _).alloc (by simp) _
  have hs1 : W1.heap.size = w.heap.size + 2 := by rw [← hW1]; simp
  have hI1 : I [] W1 := hI _ _ _ h0 hb1
  refine ⟨w.heap.size + 1, [{ target := .collected w.heap.size, args := #[] }], W1, { target := .fn (.func gf) lb, args := rb ++ #[.func (.yield (w.heap.size + 1)) #[] #[]] }, W1, gf,
    rb ++ #[.func (.yield (w.heap.size + 1)) #[] #[]] ++ lb, W1, ?_, ?_, ?_, ?_, fun h => by simp [Fence.wide] at h, ?_⟩
  · rw [← hW1, hrec]; exact run_enterLoop_outer _ _ _ _ _
  · simp only [resolve, hg]
    simp [go_sem, Deferred.ofValue]
  · intro f' hf'; trivial
  · simp [invoke, go_sem, eg]
  · refine callsIn_wide.2 ?_
    refine (hseq (w.heap.size + 1)
      (fun pre W => I pre W ∧ W.heap[w.heap.size + 1]? = some (.loop (rec .ready none)) ∧ W.heap[w.heap.size]? = some (.deferred (some [])) ∧ w.heap.size ≤ W.heap.size)
      (fun pre W => ∃ c, Ix c pre W ∧ W.heap[w.heap.size + 1]? = some (.loop (rec .done (some c))) ∧ W.heap[w.heap.size]? = some (.deferred (some [])))
      W1 hb1
      (fun s A B hs hg' => ⟨hI s A B hs.1 (hg'.mono (by omega)), (hg'.block _ (by omega)).trans hs.2.1, (hg'.block _ (by omega)).trans hs.2.2.1, Nat.le_trans hs.2.2.2 hg'.size⟩)
      (fun s A B hs hg' => by
        obtain ⟨c, hc, hl, hk⟩ := hs
        exact ⟨c, hIx c s A B hc (hg'.mono (by omega)), (hg'.block _ (by omega)).trans hl, (hg'.block _ (by omega)).trans hk⟩)
      ?_ ⟨hI1, hL1, hK1, hb1.size⟩).mono ?_
    · -- one round
      rintro pre x W ⟨hi, hl, hk, hsz⟩ hpre
      have hlt : w.heap.size + 1 < W.heap.size := (Array.getElem?_eq_some_iff.1 hl).1
      have hy := run_yield (P := P) (args := encs x) hl (by rw [hrec]; exact hps x)
      rw [hrec] at hy
      refine ⟨fn, _, assign, body, hy, roundIn_of_wpIn trivial (hassign _ pre x W _ hsz hi ?_)⟩
      clear hy
      intro a' Wa hoa hia hax
      have hla := (hoa.beyond _ (by omega) hlt).trans hl
      have hka := (hoa.beyond _ (Nat.le_refl _) (by omega)).trans hk
      have hlta : w.heap.size + 1 < Wa.heap.size := Nat.lt_of_lt_of_le hlt hoa.below.size
      refine ⟨_, run_beginRound hla (by rw [hrec]), ?_⟩
      have hl2 : (Wa.putObj (w.heap.size + 1) (.loop { rec .ready none with state := .busy })).heap[w.heap.size + 1]? = some (.loop { rec .ready none with state := .busy }) := World.putObj_heap_same hlta
      have hk2 : (Wa.putObj (w.heap.size + 1) (.loop { rec .ready none with state := .busy })).heap[w.heap.size]? = some (.deferred (some [])) := (World.putObj_heap_other (by omega)).trans hka
      have hb2 : Below w.heap.size Wa (Wa.putObj (w.heap.size + 1) (.loop { rec .ready none with state := .busy })) := below_putObj _ _ _ (by omega)
      refine wpIn_mono (hbody _ pre x a' _ (by simp; omega) (hI _ _ _ hia hb2) (hAx _ _ _ _ _ _ hax hla) hpre) ?_
      have fin : ∀ (jump : Option Code) (W3 : World), Outside n₀ w.heap.size (Wa.putObj (w.heap.size + 1) (.loop { rec .ready none with state := .busy })) W3 →
          (Instr.endRound (w.heap.size + 1) jump).run P W3 = .ok (.bool jump.isNone) (W3.putObj (w.heap.size + 1) (.loop (rec (if jump.isNone then .ready else .done) jump))) ∧
          (W3.putObj (w.heap.size + 1) (.loop (rec (if jump.isNone then .ready else .done) jump))).heap[w.heap.size + 1]? = some (.loop (rec (if jump.isNone then .ready else .done) jump)) ∧
          (W3.putObj (w.heap.size + 1) (.loop (rec (if jump.isNone then .ready else .done) jump))).heap[w.heap.size]? = some (.deferred (some [])) ∧
          Below w.heap.size W3 (W3.putObj (w.heap.size + 1) (.loop (rec (if jump.isNone then .ready else .done) jump))) ∧
          Outside n₀ W1.heap.size W (W3.putObj (w.heap.size + 1) (.loop (rec (if jump.isNone then .ready else .done) jump))) := fun jump W3 ho3 => by
        have hl3 := (ho3.beyond (w.heap.size + 1) (by omega) (by simp; omega)).trans hl2
        have hk3 := (ho3.beyond w.heap.size (Nat.le_refl _) (by simp; omega)).trans hk2
        have hr := run_endRound (P := P) jump hl3
        have hsz3 : w.heap.size + 1 < W3.heap.size := (Array.getElem?_eq_some_iff.1 hl3).1
        refine ⟨?_, World.putObj_heap_same hsz3, (World.putObj_heap_other (by omega)).trans hk3, below_putObj _ _ _ (by omega), ?_⟩
        · rw [hrec] at hr ⊢; exact hr
        · have e1 : Outside n₀ W1.heap.size Wa (Wa.putObj (w.heap.size + 1) (.loop { rec .ready none with state := .busy })) := Outside.of_grown (grown_putObj _ _ _) (by omega) (by omega) (by omega)
          have e2 : Outside n₀ W1.heap.size W3 (W3.putObj (w.heap.size + 1) (.loop (rec (if jump.isNone then .ready else .done) jump))) := Outside.of_grown (grown_putObj _ _ _) (by omega) (by omega) (by omega)
          exact (((hoa.weak (by omega)).trans e1).trans (ho3.weak (by omega))).trans e2
      rintro e a3 W3 hp
      cases e with
      | normal =>
        obtain ⟨hk3, hi3⟩ := hp
        obtain ⟨hr, hl4, hk4, hb4, ho4⟩ := fin none W3 hk3
        exact ⟨_, _, hr, .inl ⟨rfl, ⟨hI _ _ _ hi3 hb4, hl4, hk4, Nat.le_trans (by have := hk3.below.size; simp at this; omega) hb4.size⟩, ho4⟩⟩
      | ret =>
        obtain ⟨hk3, hi3⟩ := hp
        obtain ⟨hr, hl4, hk4, hb4, ho4⟩ := fin (some .ret) W3 hk3
        exact ⟨_, _, hr, .inr ⟨rfl, .ret, hIx _ _ _ _ hi3 hb4, hl4, hk4⟩⟩
      | exit id =>
        obtain ⟨hk3, hi3⟩ := hp
        obtain ⟨hr, hl4, hk4, hb4, ho4⟩ := fin (some (.exit id)) W3 hk3
        exact ⟨_, _, hr, .inr ⟨rfl, .exit id, hIx _ _ _ _ hi3 hb4, hl4, hk4⟩⟩
      | goto t =>
        obtain ⟨hk3, hi3⟩ := hp
        obtain ⟨hr, hl4, hk4, hb4, ho4⟩ := fin (some (.goto t)) W3 hk3
        exact ⟨_, _, hr, .inr ⟨rfl, .goto t, hIx _ _ _ _ hi3 hb4, hl4, hk4⟩⟩
      | panic ch => exact hp.elim
      | outgrown => exact hp.elim
    · -- behind the iterator
      rintro e W2 ⟨⟨v, rfl⟩, (⟨hi, hl, hk, _⟩ | ⟨pre, hSp, c, hi, hl, hk⟩)⟩
      · exact ⟨none, _, by have := run_endLoop (P := P) hl (by rw [hrec]; simp); rw [hrec] at this; exact this, hdone _ _ (Nat.le_refl _) (hI _ _ _ hi (below_putObj _ _ _ (by omega))) ((World.putObj_heap_other (by omega)).trans hk)⟩
      · exact ⟨some c, _, by have := run_endLoop (P := P) hl (by rw [hrec]; simp); rw [hrec] at this; exact this, (wpIn_wide (n := 0)).2 (hstop _ c pre _ (Nat.le_refl _) hSp (hIx _ _ _ _ hi (below_putObj _ _ _ (by omega))) ((World.putObj_heap_other (by omega)).trans hk))⟩
end Go.Proofs.YtjhhcljbmnomlaaGreat

namespace Go.Proofs.YtjhhcljbmnomlaaGreat
open Go.ChangeShapes Go.WideShapes Go.ChangeAt Go.RowKit
attribute [local irreducible] Go.Calls

/-- What yield is handed. -/
def encT (p : Tg) : Array Value := #[.int .i64 p.1, .agg #[.int .i64 p.2.1.1, .int .i64 p.2.1.2, .int .i64 p.2.2.1, .int .i64 p.2.2.2]]

/-- Where the walk stands between two rounds. -/
def TogAt (F G : List Sg) (w0 W : World) (J : List Tg → World → Prop) (gh : Nat) (v4 v5 : Value) (wr : World) : Prop :=
  ∃ (f g : List Sg) (x y : Int × Int) (pre : List Tg) (a1 a2 : Option Addr) (c1 c2 : Nat), v4 = .slice a1 f.length c1 ∧ v5 = .slice a2 g.length c2 ∧
    f.length ≤ c1 ∧ c1 ≤ 9223372036854775807 ∧ g.length ≤ c2 ∧ c2 ≤ 9223372036854775807 ∧ ArgS w0 a1 f ∧ ArgS w0 a2 g ∧ f.length + g.length ≤ gh ∧ f.length + g.length ≤ 1000000000 ∧
    pre ++ tog gh f g x y = togL F G ∧ J pre wr ∧ Below w0.heap.size w0 wr ∧ W.heap.size ≤ wr.heap.size ∧ Blk wr (W.heap.size + 1) #[.int .i64 x.1, .int .i64 x.2, .int .i64 y.1, .int .i64 y.2] 251

set_option maxRecDepth 100000 in
set_option maxHeartbeats 2000000 in
theorem tog_c (F G : List Sg) (a a' : Option Addr) (cap cap' : Nat) (fv : Value) (w0 w : World) (hF : F.length ≤ cap) (hc : cap ≤ 9223372036854775807) (hG : G.length ≤ cap') (hc' : cap' ≤ 9223372036854775807)
    (hl : F.length + G.length ≤ 1000000000) (hA : ArgS w0 a F) (hA' : ArgS w0 a' G) (hb : Below w0.heap.size w0 w) :
    SeqT Tryz.prog 184 #[.agg #[.slice a F.length cap, .slice a' G.length cap', fv]] #[] encT w0.heap.size (togL F G) w := by
  intro l J Jx W hW hJ hJx hY h0
  have H0 := hidE h0; have HJ := hidE hJ; have HJX := hidE hJx; have HY := hidE hY
  have HA := hidE hA; have HA' := hidE hA'
  have hbW : Below w0.heap.size w0 W := hb.trans (hW.mono hb.size)
  have HBW := hidE hbW
  have HL := hidE (And.intro (And.intro hF hc) (And.intro hG hc'))
  clear hA hA' hJ hJx hY h0 hF hG hc hc' hb hW hbW
  show Calls Tryz.prog 184 #[.agg #[.slice a F.length cap, .slice a' G.length cap', fv], .func (.yield l) #[] #[]] W _
  go_enter Tryz.func184, Tryz.ntmps184
  go_wp2
  go_quiet (fail)
  go_wp2
  go_loopg [4, 5, 7] (F.length + G.length) (fun gh v4 v5 _ wr => TogAt F G w0 W J gh v4 v5 wr)
  case atStart =>
    obtain ⟨⟨e1, e2⟩, e3, e4⟩ := HL.out
    refine ⟨F, G, (0, 0), (0, 0), [], a, a', cap, cap', rfl, rfl, e1, e2, e3, e4, HA.out, HA'.out, Nat.le_refl _, hl, rfl, HJ.out _ _ _ H0.out ?_, HBW.out.trans (Below.mono ?_ HBW.out.size), ?_, ?_⟩
    · (repeat (first | exact Below.refl _ _ | assumption | refine balloc ?_ _ | refine below_drewN ?_ _ | refine bstep (by assumption) ?_ | refine bstep (Past.prop _) ?_ | refine Below.setCell ?_ (by first | exact Nat.le_refl _ | (simp; done) | (simp; omega)) _))
    · (repeat (first | exact Below.refl _ _ | assumption | refine balloc ?_ _ | refine below_drewN ?_ _ | refine bstep (by assumption) ?_ | refine bstep (Past.prop _) ?_ | refine Below.setCell ?_ (by first | exact Nat.le_refl _ | (simp; done) | (simp; omega)) _))
    · simp; omega
    · exact Blk.made_at _ _ _ _ (by simp)
  case round =>
    obtain ⟨f, g, x, y, pre, a1, a2, c1, c2, rfl, rfl, l1, m1, l2, m2, k1, k2, hgh, hlen, hpre, hJ1, hB1, hsz, blk⟩ := hrel
    clear HA HA' HL
    have K1 := hidE k1; have K2 := hidE k2; have HJ1 := hidE hJ1; have HB1 := hidE hB1; have HPRE := hidE hpre
    have HM := hidE (And.intro (And.intro l1 m1) (And.intro l2 m2))
    have HG := hidE (And.intro hgh hlen)
    have HSZ := hidE hsz
    clear k1 k2 hJ1 hB1 hpre l1 m1 l2 m2 hgh hlen hsz
    obtain ⟨wo, hwo⟩ : ∃ wo : World, wo = wr := ⟨_, rfl⟩
    by_cases hne : f.length = 0 ∧ g.length = 0
    · have df : decide (0 < f.length) = false := decide_eq_false (by omega)
      have dg : decide (0 < g.length) = false := decide_eq_false (by omega)
      have HE := hidE (tog_nil (n := gk) (x := x) (y := y) hne.1 hne.2)
      clear hne
      generalize f.length = kf at *
      generalize g.length = kg at *
      go_wp2
      go_end0
      exact ⟨⟨_, rfl⟩, .inl (by have := HPRE.out; rw [HE.out, List.append_nil] at this; rw [← this]; exact HJ1.out)⟩
    · obtain ⟨gk', rfl⟩ : ∃ gk', gk = gk' + 1 := ⟨gk - 1, by have := HG.out.1; omega⟩
      have HPRE' := HPRE.out
      rw [tog_cons hne] at HPRE'
      have HP := hidE HPRE'
      have HLESS := hidE (pass_less hne)
      have HNE := hidE hne
      clear HPRE' HPRE
      have HNX := hidE (fun w h1 h2 => next_c f g a1 a2 c1 c2 w (by have := HG.out.2; omega) (by have := HG.out.2; omega) HNE.out h1 h2)
      have HPF := hidE (fun w h1 => pass_c f (nextT f g) x.1 x.2 a1 c1 w HM.out.1.1 HM.out.1.2 h1)
      have HPG := hidE (fun w h1 => pass_c g (nextT f g) y.1 y.2 a2 c2 w HM.out.2.1 HM.out.2.2 h1)
      have hd : decide (0 < f.length) = true ∨ (decide (0 < f.length) = false ∧ decide (0 < g.length) = true) := by
        by_cases c : 0 < f.length
        · exact .inl (decide_eq_true c)
        · exact .inr ⟨decide_eq_false c, decide_eq_true (by omega)⟩
      have HFL := hidE (passF_len f (nextT f g)); have HGL := hidE (passF_len g (nextT f g))
      generalize hxv : passV f (nextT f g) x = x' at *
      generalize hyv : passV g (nextT f g) y = y' at *
      have hxv' : passV f (nextT f g) (x.1, x.2) = x' := hxv
      have hyv' : passV g (nextT f g) (y.1, y.2) = y' := hyv
      try simp only [hxv'] at HPF
      try simp only [hyv'] at HPG
      clear hxv hyv hxv' hyv' hne
      generalize passF f (nextT f g) = f' at *
      generalize passF g (nextT f g) = g' at *
      generalize nextT f g = t at *
      have p0 := blk.cell 0; have p1 := blk.cell 1; have p2 := blk.cell 2; have p3 := blk.cell 3; have pf := blk.free; have pz := blk.lt
      simp at p0 p1 p2 p3
      rcases hd with hd | ⟨hd, hd'⟩
      all_goals
        have hw0 := HBW.out.size
        go_wp2_with fail
        ((with_reducible refine (HNX.out _ (K1.out.past HB1.out) (K2.out.past HB1.out)).mono ?_); rintro e w1 ⟨rfl, hb1⟩)
        have q1 := blk.past hb1
        have bb1 : Below W.heap.size wr w1 := hb1.mono HSZ.out
        have s1 := hb1.size
        clear hb1 p0 p1 p2 p3 pf pz
        have p0 := q1.cell 0; have p1 := q1.cell 1; have p2 := q1.cell 2; have p3 := q1.cell 3; have pf := q1.free; have pz := q1.lt
        simp at p0 p1 p2 p3
        go_wp2_with fail
        ((with_reducible refine (HPF.out _ (K1.out.past (HB1.out.trans (bb1.mono hw0)))).mono ?_); rintro e w2 ⟨⟨sv, rfl, hsv⟩, hb2⟩)
        obtain ⟨a3, c3, rfl, l3, m3, k3⟩ := hsv
        have K3 := hidE (k3 _ K1.out); have M3 := hidE (And.intro l3 m3)
        have q2 := q1.past hb2
        have bb2 : Below W.heap.size wr w2 := bb1.trans (hb2.mono (Nat.le_trans HSZ.out s1))
        have s2 := hb2.size
        clear hb2 p0 p1 p2 p3 pf pz bb1 l3 m3 k3
        have q3 := (q2.set 0 (.int .i64 x'.1)).set 1 (.int .i64 x'.2)
        have bb3 : Below W.heap.size wr ((w2.setCell ⟨W.heap.size + 1, 0, none⟩ (.int .i64 x'.1)).setCell ⟨W.heap.size + 1, 1, none⟩ (.int .i64 x'.2)) := by (repeat (first | exact Below.refl _ _ | assumption | refine balloc ?_ _ | refine below_drewN ?_ _ | refine bstep (by assumption) ?_ | refine bstep (Past.prop _) ?_ | refine Below.setCell ?_ (by first | exact Nat.le_refl _ | (simp; done) | (simp; omega)) _))
        have p0 := q2.cell 0; have p1 := q2.cell 1; have p2 := q2.cell 2; have p3 := q2.cell 3; have pf := q2.free; have pz := q2.lt
        simp at p0 p1 p2 p3 q3
        go_wp2_with fail
        ((with_reducible refine (HPG.out _ (K2.out.past (HB1.out.trans (bb3.mono hw0)))).mono ?_); rintro e w3 ⟨⟨sv, rfl, hsv⟩, hb3⟩)
        obtain ⟨a4, c4, rfl, l4, m4, k4⟩ := hsv
        have K4 := hidE (k4 _ K2.out); have M4 := hidE (And.intro l4 m4)
        have q4 := q3.past hb3
        have bb4 : Below W.heap.size wr w3 := bb3.trans (hb3.mono (by simp [World.setCell]; omega))
        have s4 : wr.heap.size ≤ w3.heap.size := by have := hb3.size; simp [World.setCell] at this; omega
        clear hb3 p0 p1 p2 p3 pf pz bb2 bb3 l4 m4 k4
        have q5 := (q4.set 2 (.int .i64 y'.1)).set 3 (.int .i64 y'.2)
        have bb5 : Below W.heap.size wr ((w3.setCell ⟨W.heap.size + 1, 2, none⟩ (.int .i64 y'.1)).setCell ⟨W.heap.size + 1, 3, none⟩ (.int .i64 y'.2)) := by (repeat (first | exact Below.refl _ _ | assumption | refine balloc ?_ _ | refine below_drewN ?_ _ | refine bstep (by assumption) ?_ | refine bstep (Past.prop _) ?_ | refine Below.setCell ?_ (by first | exact Nat.le_refl _ | (simp; done) | (simp; omega)) _))
        have p0 := q4.cell 0; have p1 := q4.cell 1; have p2 := q4.cell 2; have p3 := q4.cell 3; have pf := q4.free; have pz := q4.lt
        simp at p0 p1 p2 p3 q5
        obtain ⟨fn, tmps, assign, body, hy, hR⟩ := HY.out pre (t, x', y') _ (HJ.out _ _ _ HJ1.out bb5) ⟨tog gk' f' g' x' y', by rw [← HP.out]; simp⟩
        dsimp only [encT] at hy
        go_upto_region 7 with fail
        refine (wpIn_wide (n := 0)).1 ?_
        gi_wp2
        refine ⟨rfl, hR.mono ?_⟩
        clear hy hR
        rintro e W' (⟨rfl, hJ', hO⟩ | ⟨rfl, hJx'⟩)
        · gi_wp2
          go_wp2
          go_roundg gk'
          case measure => omega
          case rel =>
            have hz : W.heap.size + 1 < ((w3.setCell ⟨W.heap.size + 1, 2, none⟩ (.int .i64 y'.1)).setCell ⟨W.heap.size + 1, 3, none⟩ (.int .i64 y'.2)).heap.size := q5.lt
            exact ⟨f', g', x', y', pre ++ [(t, x', y')], a3, a4, c3, c4, rfl, rfl, M3.out.1, M3.out.2, M4.out.1, M4.out.2, K3.out, K4.out, by have := HLESS.out; have := HG.out.1; omega, by have := HLESS.out; have := HG.out.2; omega,
              by rw [← HP.out]; simp, hJ', (HB1.out.trans (bb5.mono hw0)).trans hO.below, Nat.le_trans (Nat.le_trans HSZ.out bb5.size) hO.below.size, (hO.beyond _ (by omega) hz).trans q5⟩
        · gi_wp2
          go_wp2
          refine bodyPost_ret (results_none rfl _ _ _) rfl ?_
          exact ⟨⟨_, rfl⟩, .inr ⟨pre ++ [(t, x', y')], ⟨tog gk' f' g' x' y', by rw [← HP.out]; simp⟩, hJx'⟩⟩
end Go.Proofs.YtjhhcljbmnomlaaGreat

namespace Go.Proofs.YtjhhcljbmnomlaaGreat
open Go.ChangeShapes Go.WideShapes Go.ChangeAt Go.RowKit

theorem lec (x y : Int) (w : World) : Calls Tryz.prog 133 #[.int .i64 x, .int .i64 y] w fun e w' => e = .returned (.bool (decide (x ≤ y))) ∧ w' = w := by
  go_enter Tryz.func133, Tryz.ntmps133
  go_wp2
  go_ret
  exact ⟨rfl, rfl⟩

theorem bothLE (a b c d : Int) (w : World) : Calls Tryz.prog 132 #[V a b, V c d, .func (.func 133) #[] #[]] w fun e w' => e = .returned (.tuple #[.bool (decide (a ≤ c)), .bool (decide (b ≤ d))]) ∧ Below w.heap.size w w' := by
  go_enter Tryz.func132, Tryz.ntmps132
  go_wp2
  go_quiet ((go_at_call 133; exact Calls.quiet_of_same (lec _ _ _)))
  go_wp2
  go_ret2
  exact ⟨rfl, below_drewN (((Below.refl _ _).alloc (Nat.le_refl _) _).alloc (by simp) _) _⟩

theorem le (a b c d : Int) (w : World) : Calls Tryz.prog 84 #[V a b, V c d] w fun e w' => e = .returned (.bool (leB a b c d)) ∧ Below w.heap.size w w' := by
  go_enter Tryz.func84, Tryz.ntmps84
  go_wp2_with (go_at_call 132; refine (bothLE _ _ _ _ _).mono ?_; rintro e w' ⟨rfl, hb⟩)
  all_goals
    go_ret
    refine ⟨ret_bool ?_, (((Below.refl _ _).alloc (Nat.le_refl _) _).alloc (by simp) _).trans (hb.mono (by simp; omega))⟩
  · simp [leB]; omega
  · simp [leB]; omega
theorem le_eq {a b c d : Int} {r : Bool} {w : World} (h : leB a b c d = r) : Calls Tryz.prog 84 #[V a b, V c d] w fun e w' => e = .returned (.bool r) ∧ Below w.heap.size w w' := h ▸ le a b c d w

theorem of_ (m n : Int) (w : World) : Calls Tryz.prog 161 #[.int .i64 m, .int .i64 n] w fun e w' => e = .returned (V m n) ∧ Below w.heap.size w w' := by
  go_enter Tryz.func161, Tryz.ntmps161
  go_wp2
  exact bodyPost_ret (v := V m n) (by simp [results, Tryz.results161, go_sem]) rfl ⟨rfl, (Below.refl _ _).alloc (by simp) _⟩

theorem alike (n : Int) (w : World) : Calls Tryz.prog 143 #[.int .i64 n] w fun e w' => e = .returned (V n n) ∧ Below w.heap.size w w' := by
  go_enter Tryz.func143, Tryz.ntmps143
  go_wp2_with (go_at_call 161; refine (of_ _ _ _).mono ?_; rintro e w' ⟨rfl, hb⟩; obtain ⟨hc, hf⟩ := bcell hb; have hz := bsz hb w.heap.size (by simp))
  refine bodyPost_ret (v := V n n) (by simp [results, Tryz.results143, go_sem, hc]) rfl ⟨rfl, ?_⟩
  exact ((((Below.refl _ _).alloc (Nat.le_refl _) _).trans (hb.mono (by simp))).setCell (Nat.le_refl _) _).setCell (Nat.le_refl _) _

theorem may (a b : Int) (w : World) : Calls Tryz.prog 135 #[V a b] w fun e w' => e = .returned (.bool (okV a b)) ∧ Below w.heap.size w w' := by
  rw [← okV_parts]
  cases h1 : leB (-1125899906842624) (-1125899906842624) a b
  all_goals
    go_enter Tryz.func135, Tryz.ntmps135
    go_wp2
    refine wp_region_past_lit (by kernel_rfl) (by kernel_rfl) ?_
    have hc := Past.cell (W := w.alloc (Obj.cells #[Value.int IntKind.i64 a, Value.int IntKind.i64 b] 65))
    repeat (go_big_quiet_step ((first | (go_at_call 143; exact Past.call _ (alike _ _)) | (go_at_call 84; exact Past.call _ (le_eq h1)) | (go_at_call 84; exact Past.call _ (le _ _ _ _ _)))))
    refine wpQuiet_nil ?_
    rintro _ ⟨x, rfl⟩
    go_wp2
    go_ret
    exact ⟨rfl, ((Below.refl _ _).alloc (Nat.le_refl _) _).trans (x.2.mono (by simp))⟩
theorem may_eq {a b : Int} {r : Bool} {w : World} (h : okV a b = r) : Calls Tryz.prog 135 #[V a b] w fun e w' => e = .returned (.bool r) ∧ Below w.heap.size w w' := h ▸ may a b w
end Go.Proofs.YtjhhcljbmnomlaaGreat

namespace Go.Proofs.YtjhhcljbmnomlaaGreat
open Go.ChangeShapes Go.WideShapes Go.ChangeAt Go.RowKit

theorem cl_mn (x y : Int) (w : World) : Calls Tryz.prog 162 #[.int .i64 x, .int .i64 y] w fun e w' => e = .returned (.int .i64 (mn x y)) ∧ w' = w := by
  go_enter Tryz.func162, Tryz.ntmps162
  go_wp2
  all_goals
    go_ret
    exact ⟨ret_int (by unfold mn; split <;> omega), rfl⟩
theorem cl_mx (x y : Int) (w : World) : Calls Tryz.prog 236 #[.int .i64 x, .int .i64 y] w fun e w' => e = .returned (.int .i64 (mx x y)) ∧ w' = w := by
  go_enter Tryz.func236, Tryz.ntmps236
  go_wp2
  all_goals
    go_ret
    exact ⟨ret_int (by unfold mx; split <;> omega), rfl⟩
theorem both_mn (a b c d : Int) (w : World) :
    Calls Tryz.prog 144 #[V a b, V c d, .func (.func 162) #[] #[]] w fun e w' => e = .returned (.tuple #[.int .i64 (mn a c), .int .i64 (mn b d)]) ∧ Below w.heap.size w w' := by
  go_enter Tryz.func144, Tryz.ntmps144
  go_wp2
  go_quiet ((go_at_call 162; exact Calls.quiet_of_same (cl_mn _ _ _)))
  go_wp2
  go_ret2
  exact ⟨rfl, below_drewN (((Below.refl _ _).alloc (Nat.le_refl _) _).alloc (by simp) _) _⟩
theorem both_mx (a b c d : Int) (w : World) :
    Calls Tryz.prog 144 #[V a b, V c d, .func (.func 236) #[] #[]] w fun e w' => e = .returned (.tuple #[.int .i64 (mx a c), .int .i64 (mx b d)]) ∧ Below w.heap.size w w' := by
  go_enter Tryz.func144, Tryz.ntmps144
  go_wp2
  go_quiet ((go_at_call 236; exact Calls.quiet_of_same (cl_mx _ _ _)))
  go_wp2
  go_ret2
  exact ⟨rfl, below_drewN (((Below.refl _ _).alloc (Nat.le_refl _) _).alloc (by simp) _) _⟩
theorem mn_c (a b c d : Int) (w : World) : Calls Tryz.prog 115 #[V a b, V c d] w fun e w' => e = .returned (V (mn a c) (mn b d)) ∧ Below w.heap.size w w' := by
  go_enter Tryz.func115, Tryz.ntmps115
  go_wp2_with (first | (go_at_call 144; ((with_reducible refine (both_mn _ _ _ _ _).mono ?_); rintro e w' ⟨rfl, hb⟩; obtain ⟨hc, hf⟩ := bcell hb; have hz0 := bsz hb (w.heap.size) (by first | assumption | (simp; done) | (simp; omega)); have hz1 := bsz hb (w.heap.size + 1) (by first | assumption | (simp; done) | (simp; omega)); have hz2 := bsz hb (w.heap.size + 1 + 1) (by first | assumption | (simp; done) | (simp; omega)))) | (go_at_call 161; ((with_reducible refine (of_ _ _ _).mono ?_); rintro e w' ⟨rfl, hb⟩; obtain ⟨hc, hf⟩ := bcell hb; have hz0 := bsz hb (w.heap.size) (by first | assumption | (simp; done) | (simp; omega)); have hz1 := bsz hb (w.heap.size + 1) (by first | assumption | (simp; done) | (simp; omega)); have hz2 := bsz hb (w.heap.size + 1 + 1) (by first | assumption | (simp; done) | (simp; omega)))))
  refine bodyPost_ret (v := V (mn a c) (mn b d)) (by simp [results, Tryz.results115, go_sem, *]) rfl ⟨rfl, ?_⟩
  (repeat (first | exact Below.refl _ _ | assumption | refine balloc ?_ _ | refine below_drewN ?_ _ | refine bstep (by assumption) ?_ | refine bstep (Past.prop _) ?_ | refine Below.setCell ?_ (by first | exact Nat.le_refl _ | (simp; done) | (simp; omega)) _))
theorem mx_c (a b c d : Int) (w : World) : Calls Tryz.prog 214 #[V a b, V c d] w fun e w' => e = .returned (V (mx a c) (mx b d)) ∧ Below w.heap.size w w' := by
  go_enter Tryz.func214, Tryz.ntmps214
  go_wp2_with (first | (go_at_call 144; ((with_reducible refine (both_mx _ _ _ _ _).mono ?_); rintro e w' ⟨rfl, hb⟩; obtain ⟨hc, hf⟩ := bcell hb; have hz0 := bsz hb (w.heap.size) (by first | assumption | (simp; done) | (simp; omega)); have hz1 := bsz hb (w.heap.size + 1) (by first | assumption | (simp; done) | (simp; omega)); have hz2 := bsz hb (w.heap.size + 1 + 1) (by first | assumption | (simp; done) | (simp; omega)))) | (go_at_call 161; ((with_reducible refine (of_ _ _ _).mono ?_); rintro e w' ⟨rfl, hb⟩; obtain ⟨hc, hf⟩ := bcell hb; have hz0 := bsz hb (w.heap.size) (by first | assumption | (simp; done) | (simp; omega)); have hz1 := bsz hb (w.heap.size + 1) (by first | assumption | (simp; done) | (simp; omega)); have hz2 := bsz hb (w.heap.size + 1 + 1) (by first | assumption | (simp; done) | (simp; omega)))))
  refine bodyPost_ret (v := V (mx a c) (mx b d)) (by simp [results, Tryz.results214, go_sem, *]) rfl ⟨rfl, ?_⟩
  (repeat (first | exact Below.refl _ _ | assumption | refine balloc ?_ _ | refine below_drewN ?_ _ | refine bstep (by assumption) ?_ | refine bstep (Past.prop _) ?_ | refine Below.setCell ?_ (by first | exact Nat.le_refl _ | (simp; done) | (simp; omega)) _))
end Go.Proofs.YtjhhcljbmnomlaaGreat

namespace Go.Proofs.YtjhhcljbmnomlaaGreat
open Go.ChangeShapes Go.WideShapes Go.ChangeAt Go.RowKit

theorem cl_sub (x y : Int) (w : World) (hx : -1125899906842624 ≤ x ∧ x ≤ 1125899906842624) (hy : -1125899906842624 ≤ y ∧ y ≤ 1125899906842624) : Calls Tryz.prog 235 #[.int .i64 x, .int .i64 y] w fun e w' => e = .returned (.int .i64 (x - y)) ∧ w' = w := by
  go_enter Tryz.func235, Tryz.ntmps235
  go_wp2
  go_ret
  exact ⟨rfl, rfl⟩
theorem cl_add (x y : Int) (w : World) (hx : -1125899906842624 ≤ x ∧ x ≤ 1125899906842624) (hy : -1125899906842624 ≤ y ∧ y ≤ 1125899906842624) : Calls Tryz.prog 219 #[.int .i64 x, .int .i64 y] w fun e w' => e = .returned (.int .i64 (x + y)) ∧ w' = w := by
  go_enter Tryz.func219, Tryz.ntmps219
  go_wp2
  go_ret
  exact ⟨rfl, rfl⟩
/-- Both components by one closure that only computes. -/
theorem both_sub (a b c d : Int) (w : World) (h1 : okV a b = true) (h2 : okV c d = true) :
    Calls Tryz.prog 144 #[V a b, V c d, .func (.func 235) #[] #[]] w fun e w' => e = .returned (.tuple #[.int .i64 (a - c), .int .i64 (b - d)]) ∧ Below w.heap.size w w' := by
  have g1 := h1; have g2 := h2
  simp only [okV_iff] at g1 g2
  have G1 := hidE g1; have G2 := hidE g2
  clear g1 g2 h1 h2
  go_enter Tryz.func144, Tryz.ntmps144
  go_wp2
  go_quiet ((go_at_call 235; exact Calls.quiet_of_same (cl_sub _ _ _ (by have := G1.out; have := G2.out; omega) (by have := G1.out; have := G2.out; omega))))
  go_wp2
  go_ret2
  exact ⟨rfl, below_drewN (((Below.refl _ _).alloc (Nat.le_refl _) _).alloc (by simp) _) _⟩
theorem both_add (a b c d : Int) (w : World) (h1 : okV a b = true) (h2 : okV c d = true) :
    Calls Tryz.prog 144 #[V a b, V c d, .func (.func 219) #[] #[]] w fun e w' => e = .returned (.tuple #[.int .i64 (a + c), .int .i64 (b + d)]) ∧ Below w.heap.size w w' := by
  have g1 := h1; have g2 := h2
  simp only [okV_iff] at g1 g2
  have G1 := hidE g1; have G2 := hidE g2
  clear g1 g2 h1 h2
  go_enter Tryz.func144, Tryz.ntmps144
  go_wp2
  go_quiet ((go_at_call 219; exact Calls.quiet_of_same (cl_add _ _ _ (by have := G1.out; have := G2.out; omega) (by have := G1.out; have := G2.out; omega))))
  go_wp2
  go_ret2
  exact ⟨rfl, below_drewN (((Below.refl _ _).alloc (Nat.le_refl _) _).alloc (by simp) _) _⟩
theorem valid_no (fv : Value) (a b c d : Int) (w : World) (h : (okV a b && okV c d) = false) :
    Calls Tryz.prog 136 #[V a b, V c d, fv] w fun e w' => e = .returned (VE (0, 0, 10)) ∧ Below w.heap.size w w' := by
  cases h1 : okV a b
  · clear h
    go_enter Tryz.func136, Tryz.ntmps136
    go_wp2_with (go_at_call 135; ((with_reducible refine (may_eq h1).mono ?_); rintro e w' ⟨rfl, hb⟩; obtain ⟨hc, hf⟩ := bcell hb; have hz0 := bsz hb (w.heap.size) (by first | assumption | (simp; done) | (simp; omega)); have hz1 := bsz hb (w.heap.size + 1) (by first | assumption | (simp; done) | (simp; omega)); have hz2 := bsz hb (w.heap.size + 1 + 1) (by first | assumption | (simp; done) | (simp; omega))))
    refine bodyPost_ret (v := VE (0, 0, 10)) (by simp [results, Tryz.results136, go_sem, *]) rfl ⟨rfl, ?_⟩
    (repeat (first | exact Below.refl _ _ | assumption | refine balloc ?_ _ | refine below_drewN ?_ _ | refine bstep (by assumption) ?_ | refine bstep (Past.prop _) ?_ | refine Below.setCell ?_ (by first | exact Nat.le_refl _ | (simp; done) | (simp; omega)) _))
  · have h2 : okV c d = false := by rw [h1] at h; simpa using h
    clear h
    go_enter Tryz.func136, Tryz.ntmps136
    go_wp2_with (first | (go_at_call 135; ((with_reducible refine (may_eq h1).mono ?_); rintro e w' ⟨rfl, hb⟩; obtain ⟨hc, hf⟩ := bcell hb; have hz0 := bsz hb (w.heap.size) (by first | assumption | (simp; done) | (simp; omega)); have hz1 := bsz hb (w.heap.size + 1) (by first | assumption | (simp; done) | (simp; omega)); have hz2 := bsz hb (w.heap.size + 1 + 1) (by first | assumption | (simp; done) | (simp; omega)))) | (go_at_call 135; ((with_reducible refine (may_eq h2).mono ?_); rintro e w' ⟨rfl, hb⟩; obtain ⟨hc, hf⟩ := bcell hb; have hz0 := bsz hb (w.heap.size) (by first | assumption | (simp; done) | (simp; omega)); have hz1 := bsz hb (w.heap.size + 1) (by first | assumption | (simp; done) | (simp; omega)); have hz2 := bsz hb (w.heap.size + 1 + 1) (by first | assumption | (simp; done) | (simp; omega)))))
    refine bodyPost_ret (v := VE (0, 0, 10)) (by simp [results, Tryz.results136, go_sem, *]) rfl ⟨rfl, ?_⟩
    (repeat (first | exact Below.refl _ _ | assumption | refine balloc ?_ _ | refine below_drewN ?_ _ | refine bstep (by assumption) ?_ | refine bstep (Past.prop _) ?_ | refine Below.setCell ?_ (by first | exact Nat.le_refl _ | (simp; done) | (simp; omega)) _))

theorem valid_yes (fv : Value) (a b c d x y : Int) (w : World) (h1 : okV a b = true) (h2 : okV c d = true)
    (HB : ∀ w', Below w.heap.size w w' → Calls Tryz.prog 144 #[V a b, V c d, fv] w' fun e w'' => e = .returned (.tuple #[.int .i64 x, .int .i64 y]) ∧ Below w'.heap.size w' w'') :
    Calls Tryz.prog 136 #[V a b, V c d, fv] w fun e w' => e = .returned (VE (gate (okV x y) x y)) ∧ Below w.heap.size w w' := by
  have HB' := hidE HB; clear HB
  cases h3 : okV x y
  · rw [gate_false rfl]
    go_enter Tryz.func136, Tryz.ntmps136
    go_wp2_with (first | (go_at_call 135; ((with_reducible refine (may_eq h1).mono ?_); rintro e w' ⟨rfl, hb⟩; obtain ⟨hc, hf⟩ := bcell hb; have hz0 := bsz hb (w.heap.size) (by first | assumption | (simp; done) | (simp; omega)); have hz1 := bsz hb (w.heap.size + 1) (by first | assumption | (simp; done) | (simp; omega)); have hz2 := bsz hb (w.heap.size + 1 + 1) (by first | assumption | (simp; done) | (simp; omega)))) | (go_at_call 135; ((with_reducible refine (may_eq h2).mono ?_); rintro e w' ⟨rfl, hb⟩; obtain ⟨hc, hf⟩ := bcell hb; have hz0 := bsz hb (w.heap.size) (by first | assumption | (simp; done) | (simp; omega)); have hz1 := bsz hb (w.heap.size + 1) (by first | assumption | (simp; done) | (simp; omega)); have hz2 := bsz hb (w.heap.size + 1 + 1) (by first | assumption | (simp; done) | (simp; omega)))) | (go_at_call 144; ((with_reducible refine (HB'.out _ (by (repeat (first | exact Below.refl _ _ | assumption | refine balloc ?_ _ | refine below_drewN ?_ _ | refine bstep (by assumption) ?_ | refine bstep (Past.prop _) ?_ | refine Below.setCell ?_ (by first | exact Nat.le_refl _ | (simp; done) | (simp; omega)) _)))).mono ?_); rintro e w' ⟨rfl, hb⟩; obtain ⟨hc, hf⟩ := bcell hb; have hz0 := bsz hb (w.heap.size) (by first | assumption | (simp; done) | (simp; omega)); have hz1 := bsz hb (w.heap.size + 1) (by first | assumption | (simp; done) | (simp; omega)); have hz2 := bsz hb (w.heap.size + 1 + 1) (by first | assumption | (simp; done) | (simp; omega)))) | (go_at_call 161; ((with_reducible refine (of_ _ _ _).mono ?_); rintro e w' ⟨rfl, hb⟩; obtain ⟨hc, hf⟩ := bcell hb; have hz0 := bsz hb (w.heap.size) (by first | assumption | (simp; done) | (simp; omega)); have hz1 := bsz hb (w.heap.size + 1) (by first | assumption | (simp; done) | (simp; omega)); have hz2 := bsz hb (w.heap.size + 1 + 1) (by first | assumption | (simp; done) | (simp; omega)))) | (go_at_call 135; ((with_reducible refine (may_eq h3).mono ?_); rintro e w' ⟨rfl, hb⟩; obtain ⟨hc, hf⟩ := bcell hb; have hz0 := bsz hb (w.heap.size) (by first | assumption | (simp; done) | (simp; omega)); have hz1 := bsz hb (w.heap.size + 1) (by first | assumption | (simp; done) | (simp; omega)); have hz2 := bsz hb (w.heap.size + 1 + 1) (by first | assumption | (simp; done) | (simp; omega)))))
    refine bodyPost_ret (v := VE (0, 0, 10)) (by simp [results, Tryz.results136, go_sem, *]) rfl ⟨rfl, ?_⟩
    (repeat (first | exact Below.refl _ _ | assumption | refine balloc ?_ _ | refine below_drewN ?_ _ | refine bstep (by assumption) ?_ | refine bstep (Past.prop _) ?_ | refine Below.setCell ?_ (by first | exact Nat.le_refl _ | (simp; done) | (simp; omega)) _))
  · rw [gate_true rfl]
    go_enter Tryz.func136, Tryz.ntmps136
    go_wp2_with (first | (go_at_call 135; ((with_reducible refine (may_eq h1).mono ?_); rintro e w' ⟨rfl, hb⟩; obtain ⟨hc, hf⟩ := bcell hb; have hz0 := bsz hb (w.heap.size) (by first | assumption | (simp; done) | (simp; omega)); have hz1 := bsz hb (w.heap.size + 1) (by first | assumption | (simp; done) | (simp; omega)); have hz2 := bsz hb (w.heap.size + 1 + 1) (by first | assumption | (simp; done) | (simp; omega)))) | (go_at_call 135; ((with_reducible refine (may_eq h2).mono ?_); rintro e w' ⟨rfl, hb⟩; obtain ⟨hc, hf⟩ := bcell hb; have hz0 := bsz hb (w.heap.size) (by first | assumption | (simp; done) | (simp; omega)); have hz1 := bsz hb (w.heap.size + 1) (by first | assumption | (simp; done) | (simp; omega)); have hz2 := bsz hb (w.heap.size + 1 + 1) (by first | assumption | (simp; done) | (simp; omega)))) | (go_at_call 144; ((with_reducible refine (HB'.out _ (by (repeat (first | exact Below.refl _ _ | assumption | refine balloc ?_ _ | refine below_drewN ?_ _ | refine bstep (by assumption) ?_ | refine bstep (Past.prop _) ?_ | refine Below.setCell ?_ (by first | exact Nat.le_refl _ | (simp; done) | (simp; omega)) _)))).mono ?_); rintro e w' ⟨rfl, hb⟩; obtain ⟨hc, hf⟩ := bcell hb; have hz0 := bsz hb (w.heap.size) (by first | assumption | (simp; done) | (simp; omega)); have hz1 := bsz hb (w.heap.size + 1) (by first | assumption | (simp; done) | (simp; omega)); have hz2 := bsz hb (w.heap.size + 1 + 1) (by first | assumption | (simp; done) | (simp; omega)))) | (go_at_call 161; ((with_reducible refine (of_ _ _ _).mono ?_); rintro e w' ⟨rfl, hb⟩; obtain ⟨hc, hf⟩ := bcell hb; have hz0 := bsz hb (w.heap.size) (by first | assumption | (simp; done) | (simp; omega)); have hz1 := bsz hb (w.heap.size + 1) (by first | assumption | (simp; done) | (simp; omega)); have hz2 := bsz hb (w.heap.size + 1 + 1) (by first | assumption | (simp; done) | (simp; omega)))) | (go_at_call 135; ((with_reducible refine (may_eq h3).mono ?_); rintro e w' ⟨rfl, hb⟩; obtain ⟨hc, hf⟩ := bcell hb; have hz0 := bsz hb (w.heap.size) (by first | assumption | (simp; done) | (simp; omega)); have hz1 := bsz hb (w.heap.size + 1) (by first | assumption | (simp; done) | (simp; omega)); have hz2 := bsz hb (w.heap.size + 1 + 1) (by first | assumption | (simp; done) | (simp; omega)))))
    refine bodyPost_ret (v := VE (x, y, 0)) (by simp [results, Tryz.results136, go_sem, *]) rfl ⟨rfl, ?_⟩
    (repeat (first | exact Below.refl _ _ | assumption | refine balloc ?_ _ | refine below_drewN ?_ _ | refine bstep (by assumption) ?_ | refine bstep (Past.prop _) ?_ | refine Below.setCell ?_ (by first | exact Nat.le_refl _ | (simp; done) | (simp; omega)) _))

theorem sub_c (a b c d : Int) (w : World) : Calls Tryz.prog 212 #[V a b, V c d] w fun e w' => e = .returned (VE (subS a b c d)) ∧ Below w.heap.size w w' := by
  cases h : (okV a b && okV c d)
  · have e : subS a b c d = (0, 0, 10) := by unfold subS; exact gate_no h
    rw [e]; clear e
    go_enter Tryz.func212, Tryz.ntmps212
    go_wp2_with (go_at_call 136; ((with_reducible refine (valid_no _ _ _ _ _ _ h).mono ?_); rintro e w' ⟨rfl, hb⟩; obtain ⟨hc, hf⟩ := bcell hb; have hz0 := bsz hb (w.heap.size) (by first | assumption | (simp; done) | (simp; omega)); have hz1 := bsz hb (w.heap.size + 1) (by first | assumption | (simp; done) | (simp; omega)); have hz2 := bsz hb (w.heap.size + 1 + 1) (by first | assumption | (simp; done) | (simp; omega))))
    refine bodyPost_ret (v := VE (0, 0, 10)) (by simp [results, Tryz.results212, go_sem, *]) rfl ⟨rfl, ?_⟩
    (repeat (first | exact Below.refl _ _ | assumption | refine balloc ?_ _ | refine below_drewN ?_ _ | refine bstep (by assumption) ?_ | refine bstep (Past.prop _) ?_ | refine Below.setCell ?_ (by first | exact Nat.le_refl _ | (simp; done) | (simp; omega)) _))
  · have e : subS a b c d = gate (okV (a - c) (b - d)) (a - c) (b - d) := by unfold subS; rw [h]; rfl
    obtain ⟨h1, h2⟩ : okV a b = true ∧ okV c d = true := by simpa using h
    rw [e]; clear e h
    generalize hg : gate (okV (a - c) (b - d)) (a - c) (b - d) = g
    have Hg := hidE hg; clear hg
    go_enter Tryz.func212, Tryz.ntmps212
    go_wp2_with (go_at_call 136; ((with_reducible refine (valid_yes _ _ _ _ _ (a - c) (b - d) _ h1 h2 (fun w' _ => both_sub _ _ _ _ _ h1 h2)).mono ?_); rintro e w' ⟨rfl, hb⟩; rw [Hg.out]; obtain ⟨hc, hf⟩ := bcell hb; have hz2 := bsz hb (w.heap.size + 1 + 1) (by simp)))
    refine bodyPost_ret (v := VE g) (by simp [results, Tryz.results212, go_sem, *]) rfl ⟨rfl, ?_⟩
    (repeat (first | exact Below.refl _ _ | assumption | refine balloc ?_ _ | refine below_drewN ?_ _ | refine bstep (by assumption) ?_ | refine bstep (Past.prop _) ?_ | refine Below.setCell ?_ (by first | exact Nat.le_refl _ | (simp; done) | (simp; omega)) _))

theorem vadd (a b c d : Int) (w : World) : Calls Tryz.prog 136 #[V a b, V c d, .func (.func 219) #[] #[]] w fun e w' => e = .returned (VE (addS a b c d)) ∧ Below w.heap.size w w' := by
  cases h : (okV a b && okV c d)
  · have e : addS a b c d = (0, 0, 10) := by unfold addS; exact gate_no h
    rw [e]; exact valid_no _ a b c d w h
  · have e : addS a b c d = gate (okV (a + c) (b + d)) (a + c) (b + d) := by unfold addS; rw [h]; rfl
    obtain ⟨h1, h2⟩ : okV a b = true ∧ okV c d = true := by simpa using h
    rw [e]; exact valid_yes _ a b c d _ _ w h1 h2 (fun w' _ => both_add _ _ _ _ _ h1 h2)

def addFrom (x y : Int) : List (Int × Int) → Int × Int × Int
  | [] => (x, y, 0)
  | v :: r => if (addS x y v.1 v.2).2.2 = 0 then addFrom (addS x y v.1 v.2).1 (addS x y v.1 v.2).2.1 r else (0, 0, (addS x y v.1 v.2).2.2)
def addL (l : List (Int × Int)) : Int × Int × Int := addFrom 0 0 l

/-- The slice's cells hold the list's vectors. -/
def CellsV (w : World) (b off : Nat) (l : List (Int × Int)) : Prop :=
  ∀ i, i < l.length → w.cell? ⟨b, off + i * 2, none⟩ = some (.int .i64 (l.getD i (0, 0)).1) ∧ w.cell? ⟨b, off + i * 2 + 1, none⟩ = some (.int .i64 (l.getD i (0, 0)).2)

theorem drop_getD (l : List (Int × Int)) (k : Nat) (h : k < l.length) : l.drop k = l.getD k (0, 0) :: l.drop (k + 1) := by
  rw [List.drop_eq_getElem_cons h, List.getD_eq_getElem?_getD, List.getElem?_eq_getElem h]; rfl

theorem add_some (l : List (Int × Int)) (b off cap : Nat) (w : World) (hb0 : b < w.heap.size) (hl : l.length ≤ 9223372036854775807) (hc0 : CellsV w b off l) :
    Calls Tryz.prog 183 #[.slice (some ⟨b, off, none⟩) l.length cap] w fun e w' => e = .returned (VE (addL l)) ∧ Below w.heap.size w w' := by
  have HC := hidE hc0; clear hc0
  go_enter Tryz.func183, Tryz.ntmps183
  go_wp2
  go_loopw [10] (fun i wr => ∃ k : Nat, ∃ x y : Int, k ≤ l.length ∧ i = .int .i64 k ∧ addFrom x y (l.drop k) = addL l ∧ Below w.heap.size w wr ∧ Blk wr (w.heap.size + 1) #[.int .i64 x, .int .i64 y] 65 ∧ Blk wr w.heap.size #[.int .i64 0, .int .i64 0] 65) (fun i _ => l.length - (intOf i).toNat)
  case atStart => exact ⟨0, 0, 0, Nat.zero_le _, rfl, rfl, by (repeat (first | exact Below.refl _ _ | assumption | refine balloc ?_ _ | refine below_drewN ?_ _ | refine bstep (by assumption) ?_ | refine bstep (Past.prop _) ?_ | refine Below.setCell ?_ (by first | exact Nat.le_refl _ | (simp; done) | (simp; omega)) _)), Blk.made_at _ _ _ _ (by simp), (Blk.made _ _ _).alloc _⟩
  case round =>
    obtain ⟨k, x, y, hk, rfl, hs, hb, s1, s0⟩ := hrel
    have HS := hidE hs; clear hs
    have c10 := s1.cell 0; have c11 := s1.cell 1; have f1 := s1.free; have c00 := s0.cell 0; have c01 := s0.cell 1; have f0 := s0.free
    simp at c10 c11 c00 c01
    have z1 := s1.lt; have z0 := s0.lt
    by_cases hlt : k < l.length
    · have e0 := (HC.out k hlt).1; have e1 := (HC.out k hlt).2
      rw [← hb.cell hb0] at e0 e1
      have HD := hidE (drop_getD l k hlt)
      generalize l.getD k (0, 0) = v at *
      have HG := hidE (vadd x y v.1 v.2)
      have HS' := HS.out
      rw [HD.out] at HS'
      unfold addFrom at HS'
      generalize hg : addS x y v.1 v.2 = g at *
      clear HS hg
      by_cases hg0 : g.2.2 = 0
      · rw [if_pos hg0] at HS'
        have HT := hidE HS'; clear HS'
        have g1 : (g.2.2 == 0) = true := beq_iff_eq.2 hg0
        have g2 : (g.2.2 != 0) = false := by rw [bne_eq_false_iff_eq]; exact hg0
        clear hg0
        go_wp2_with (go_at_call 136; ((with_reducible refine (HG.out _).mono ?_); rintro e w' ⟨rfl, hb2⟩; obtain ⟨hc, hf⟩ := bcell hb2; have y1 := bsz hb2 (w.heap.size + 1) (by simp; omega); have y0 := bsz hb2 (w.heap.size) (by simp; omega)))
        exact ⟨⟨k + 1, g.1, g.2.1, by omega, by go_num, HT.out, by (repeat (first | exact Below.refl _ _ | assumption | refine balloc ?_ _ | refine below_drewN ?_ _ | refine bstep (by assumption) ?_ | refine bstep (Past.prop _) ?_ | refine Below.setCell ?_ (by first | exact Nat.le_refl _ | (simp; done) | (simp; omega)) _)), (((s1.alloc _).past hb2).set 0 _).set 1 _, (((s0.alloc _).past hb2).other (by omega) _).other (by omega) _⟩, by simp [intOf]; omega⟩
      · rw [if_neg hg0] at HS'
        have HT := hidE HS'; clear HS'
        have g1 : (g.2.2 == 0) = false := beq_eq_false_iff_ne.2 hg0
        have g2 : (g.2.2 != 0) = true := bne_iff_ne.2 hg0
        clear hg0
        go_wp2_with (go_at_call 136; ((with_reducible refine (HG.out _).mono ?_); rintro e w' ⟨rfl, hb2⟩; obtain ⟨hc, hf⟩ := bcell hb2; have y1 := bsz hb2 (w.heap.size + 1) (by simp; omega); have y0 := bsz hb2 (w.heap.size) (by simp; omega)))
        have B0 := (((((s0.alloc _).past hb2).other (b := w.heap.size + 1) (i := 0) (by omega) (.int .i64 g.1)).other (b := w.heap.size + 1) (i := 1) (by omega) (.int .i64 g.2.1)).set 0 (.int .i64 0)).set 1 (.int .i64 0)
        have d0 := B0.cell 0; have d1 := B0.cell 1
        simp at d0 d1
        refine bodyPost_ret (v := VE (0, 0, g.2.2)) (by simp [results, Tryz.results183, go_sem, d0, d1]) rfl ⟨by rw [← HT.out], ?_⟩
        (repeat (first | exact Below.refl _ _ | assumption | refine balloc ?_ _ | refine below_drewN ?_ _ | refine bstep (by assumption) ?_ | refine bstep (Past.prop _) ?_ | refine Below.setCell ?_ (by first | exact Nat.le_refl _ | (simp; done) | (simp; omega)) _))
    · go_wp2
      have : k = l.length := by omega
      subst this
      have e := HS.out
      rw [List.drop_length] at e
      refine bodyPost_ret (v := VE (x, y, 0)) (by simp [results, Tryz.results183, go_sem, *]) rfl ⟨by rw [← e]; rfl, ?_⟩
      (repeat (first | exact Below.refl _ _ | assumption | refine balloc ?_ _ | refine below_drewN ?_ _ | refine bstep (by assumption) ?_ | refine bstep (Past.prop _) ?_ | refine Below.setCell ?_ (by first | exact Nat.le_refl _ | (simp; done) | (simp; omega)) _))

theorem add_none (w : World) : Calls Tryz.prog 183 #[.slice none 0 0] w fun e w' => e = .returned (VE (addL [])) ∧ Below w.heap.size w w' := by
  go_enter Tryz.func183, Tryz.ntmps183
  go_wp2
  refine wp_loop_rounds 1 ?_
  rw [rounds_succ]
  go_wp2
  refine bodyPost_ret (v := VE (0, 0, 0)) (by simp [results, Tryz.results183, go_sem, *]) rfl ⟨rfl, ?_⟩
  (repeat (first | exact Below.refl _ _ | assumption | refine balloc ?_ _ | refine below_drewN ?_ _ | refine bstep (by assumption) ?_ | refine bstep (Past.prop _) ?_ | refine Below.setCell ?_ (by first | exact Nat.le_refl _ | (simp; done) | (simp; omega)) _))
end Go.Proofs.YtjhhcljbmnomlaaGreat
