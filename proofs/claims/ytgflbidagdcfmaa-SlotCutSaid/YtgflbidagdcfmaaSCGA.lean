/- Program-free lemmas for walks over calls that make memory of their own. No conditions. From a walk to a statement: a law whose call answers true and only makes memory has its row. No conditions. A row of cells that is appended to, round by round: where it lies, and what turns of memory leave it as it is: for any kind of element. Program-free. No conditions. Slices that read as lists of runs, rows of runs that grow, and what Of and Box hand back. No function of the program. No conditions. A slice of runs that is handed in: its cells are integers. No conditions. An array of two int64 that is handed in: two integers. No conditions. Arrays of two uint8, and of two vectors, that are handed in: two small integers; four integers. No conditions. For the statements' walks: slices that read as lists, made anew, handed back. No conditions. A slice of runs among a value's cells, as it is handed in. No conditions. Legs, windows, and rows of a window, legs and small numbers that are handed in. No conditions. Slices that read as lists of vectors. No function of the program. No conditions. The cells of a list of pairs of numbers, appended to a row. No function of the program. No conditions. The contracts of vec.May and what it calls: each gives what its plain function says, whatever it is given, and only makes memory. No conditions. A row of integers of a call's own, and what its exchanges come to. No conditions. The comparison of two runs by their times, handed on with the runs bound to it. No conditions but that the runs' cells read as integers. The statements' own runs. No conditions. The contracts of rle's small functions. No conditions but that the lists' cells read as integers. The contract of rle.Same. No conditions but that the lists' cells read as integers. A region that draws its order: every operation but a forced tail may run in whatever order; each is asked only what its own operands need. No conditions. A region that draws its order and has one operation that all before it must precede, and all behind it must follow: that one may write. No conditions. -/
import Derived.WalkKit
import Derived.ProofKit
import Derived.OpenShut
import Derived.Below
import Derived.WalkSmall
import Derived.OneCell
import Derived.Deep.QuietTactic
import Derived.BigQuiet
import Derived.Test.YtgflbidagdcfmaaRows
import Derived.Carry
import Derived.Lib.SmallJoins
import Derived.Laws.AppendOwn
import Derived.Laws.OwnMore
import Derived.Test.YtgflbidagdcfmaaSCMA
import Derived.LoopTactic
import Derived.Deep.LoopGhost
import Derived.WalkMore
import Derived.ScopeJumps
import Derived.Deep.DeepCutAuto
import Derived.Outline
import Derived.BigRegion
import Derived.Deep.Quiet
namespace Go.Proofs.Ytgflbidagdcfmaa
open Go.ChangeShapes Go.WideShapes Go.ChangeAt Go.RowKit

/-- The worlds that a call which only makes memory may leave behind W. -/
def Past (W : World) : Type := { w : World // Below W.heap.size W w }

instance (W : World) : Nonempty (Past W) := ⟨⟨W, Below.refl _ _⟩⟩

theorem Past.cell {W : World} (x : Past W) (b o : Nat) (h : b < W.heap.size) : x.1.cell? ⟨b, o, none⟩ = W.cell? ⟨b, o, none⟩ :=
  x.2.cell (p := ⟨b, o, none⟩) h
theorem Past.frozen {W : World} (x : Past W) (b o : Nat) (h : b < W.heap.size) : x.1.frozen? ⟨b, o, none⟩ = W.frozen? ⟨b, o, none⟩ :=
  x.2.frozen (p := ⟨b, o, none⟩) h

theorem bcell {W w1 : World} (hb : Below W.heap.size W w1) : (∀ b o, b < W.heap.size → w1.cell? ⟨b, o, none⟩ = W.cell? ⟨b, o, none⟩) ∧ (∀ b o, b < W.heap.size → w1.frozen? ⟨b, o, none⟩ = W.frozen? ⟨b, o, none⟩) :=
  ⟨fun b o h => hb.cell (p := ⟨b, o, none⟩) h, fun b o h => hb.frozen (p := ⟨b, o, none⟩) h⟩

theorem bsz {W w1 : World} (hb : Below W.heap.size W w1) (k : Nat) (h : k < W.heap.size) : k < w1.heap.size := Nat.lt_of_lt_of_le h hb.size

/-- A region that draws its order, whose operations read and call what only makes memory: one walk in the text's order. -/
theorem wp_region_past_lit {P : Program} {id : Nat} {Q : Exit → Act → World → Prop} {a : Act} {w : World} {l : List Oper} (hm : P.follows .mixedOrders = true) (hB : Region.lexB .any l.toArray = true)
    (h : wpQuiet P l.toArray (fun w' => ∃ x : Past w, w' = x.1) (fun a' => ∀ w', (∃ x : Past w, w' = x.1) → Q .normal a' w') l a) : (Code.region id l.toArray true).wp P Q a w :=
  wp_region_quiet (C := fun w' => ∃ x : Past w, w' = x.1) hm hB ⟨⟨_, (Below.refl _ _).drew⟩, rfl⟩ (by simpa using h)

theorem Past.call {P : Program} {f : FuncId} {args : Array Value} {W : World} {v : Value} (x : Past W)
    (h : Calls P f args x.1 fun e w' => e = .returned v ∧ Below x.1.heap.size x.1 w') : Calls P f args x.1 fun e w'' => e = .returned v ∧ ∃ y : Past W, w'' = y.1 :=
  h.mono fun _ _ ⟨he, hb⟩ => ⟨he, ⟨⟨_, x.2.trans (hb.mono x.2.size)⟩, rfl⟩⟩

theorem Past.same {P : Program} {f : FuncId} {args : Array Value} {W : World} {v : Value} (x : Past W)
    (h : Calls P f args x.1 fun e w' => e = .returned v ∧ w' = x.1) : Calls P f args x.1 fun e w'' => e = .returned v ∧ ∃ y : Past W, w'' = y.1 :=
  h.mono fun _ _ ⟨he, hb⟩ => ⟨he, ⟨x, hb⟩⟩

theorem same_below {P : Program} {f : FuncId} {args : Array Value} {w : World} {v : Value}
    (h : Calls P f args w fun e w' => e = .returned v ∧ w' = w) : Calls P f args w fun e w' => e = .returned v ∧ Below w.heap.size w w' :=
  h.mono fun _ _ ⟨he, hb⟩ => ⟨he, hb ▸ Below.refl _ _⟩

theorem Past.prop {W : World} (x : Past W) : Below W.heap.size W x.1 := x.2
theorem bstep {a W w' : World} (h : Below W.heap.size W w') (ha : Below a.heap.size a W) : Below a.heap.size a w' := ha.trans (h.mono ha.size)
theorem balloc {a w : World} (h : Below a.heap.size a w) (o : Obj) : Below a.heap.size a (w.alloc o) := h.alloc h.size o
theorem hidE {p : Prop} (h : p) : Hid p := h
/-- A block known whole, none of it a string's bytes. -/
def Blk (w : World) (k : Nat) (cs : Array Value) (t : TypeId) : Prop := w.heap[k]? = some (.cells cs t (0, 0))
theorem Blk.lt {w : World} {k : Nat} {cs : Array Value} {t : TypeId} (h : Blk w k cs t) : k < w.heap.size := lt_of_block h
theorem Blk.cell {w : World} {k : Nat} {cs : Array Value} {t : TypeId} (h : Blk w k cs t) (i : Nat) : w.cell? ⟨k, i, none⟩ = cs[i]? := by
  unfold Blk at h; simp [World.cell?, h]
theorem Blk.free {w : World} {k : Nat} {cs : Array Value} {t : TypeId} (h : Blk w k cs t) (i : Nat) : w.frozen? ⟨k, i, none⟩ = false := by
  unfold Blk at h; simp [World.frozen?, h]
theorem Blk.made (w : World) (cs : Array Value) (t : TypeId) : Blk (w.alloc (.cells cs t)) w.heap.size cs t := by
  show (w.heap.push _)[w.heap.size]? = _
  simp
theorem Blk.made_at (w : World) (cs : Array Value) (t : TypeId) (k : Nat) (h : k = w.heap.size) : Blk (w.alloc (.cells cs t)) k cs t := h ▸ Blk.made w cs t
theorem Blk.alloc {w : World} {k : Nat} {cs : Array Value} {t : TypeId} (h : Blk w k cs t) (o : Obj) : Blk (w.alloc o) k cs t := by
  have := h.lt
  show (w.heap.push _)[k]? = _
  rw [Array.getElem?_push, if_neg (by omega)]; exact h
theorem Blk.below {w w' : World} {k : Nat} {cs : Array Value} {t : TypeId} (h : Blk w k cs t) {B : Nat} (hb : Below B w w') (hk : k < B) : Blk w' k cs t := (hb.block k hk).trans h
theorem Blk.past {w w' : World} {k : Nat} {cs : Array Value} {t : TypeId} (h : Blk w k cs t) (hb : Below w.heap.size w w') : Blk w' k cs t := h.below hb h.lt
theorem Blk.drew {w : World} {k : Nat} {cs : Array Value} {t : TypeId} (h : Blk w k cs t) (n : Nat) : Blk (w.drewN n) k cs t := h
theorem Blk.set {w : World} {k : Nat} {cs : Array Value} {t : TypeId} (h : Blk w k cs t) (i : Nat) (v : Value) : Blk (w.setCell ⟨k, i, none⟩ v) k (cs.setIfInBounds i v) t := by
  have hlt := h.lt
  have h' : w.heap[k] = .cells cs t (0, 0) := by unfold Blk at h; simpa [Array.getElem?_eq_getElem hlt] using h
  show (w.heap.modify k _)[k]? = _
  rw [Array.getElem?_eq_getElem (by simpa using hlt), Array.getElem_modify_self, h']
  rfl
theorem Blk.other {w : World} {k : Nat} {cs : Array Value} {t : TypeId} (h : Blk w k cs t) {b i : Nat} (hb : k ≠ b) (v : Value) : Blk (w.setCell ⟨b, i, none⟩ v) k cs t :=
  (Below.heap_setCell w ⟨b, i, none⟩ v k hb).trans h
theorem ret_bool {a b : Bool} (h : a = b) : Ending.returned (.bool a) = .returned (.bool b) := by rw [h]
theorem ret_int {k : IntKind} {a b : Int} (h : a = b) : Ending.returned (.int k a) = .returned (.int k b) := by rw [h]
theorem ret_tup {a b : Array Value} (h : a = b) : Ending.returned (.tuple a) = .returned (.tuple b) := by rw [h]

/-- A bool of which something is known is handed back; the call only makes memory. -/
def RetB (w : World) (p : Bool → Prop) (e : Ending) (w' : World) : Prop := ∃ r : Bool, e = .returned (.bool r) ∧ p r ∧ Below w.heap.size w w'
/-- So a number. -/
def RetN (w : World) (p : Nat → Prop) (e : Ending) (w' : World) : Prop := ∃ n : Nat, e = .returned (.int .i64 n) ∧ p n ∧ Below w.heap.size w w'
/-- So a value. -/
def RetV (w : World) (p : Value → World → Prop) (e : Ending) (w' : World) : Prop := ∃ v : Value, e = .returned v ∧ p v w' ∧ Below w.heap.size w w'

end Go.Proofs.Ytgflbidagdcfmaa

namespace Go.Proofs.Ytgflbidagdcfmaa
open Go.ChangeShapes Go.WideShapes Go.ChangeAt Go.RowKit Go.WideElems

def readOk (P : Program) (ts : List TypeId) : Bool := ts.all fun t => P.readableRec t && decide (t < P.types.size)
theorem readOk_spec {P : Program} {ts : List TypeId} (h : readOk P ts = true) : ∀ t ∈ ts, P.readableRec t = true ∧ t < P.types.size := fun t ht => by
  have := List.all_eq_true.1 h t ht
  simpa using this
theorem own : ownKnob Try.prog.godebug = none := by kernel_rfl
theorem laidOut : laidOutB Try.prog = true := by kernel_rfl

section
variable {H : Type} {enc : TypeId × Value → H} {P : Program}

/-- What was read before reads so behind a call that only makes memory. -/
theorem trodAll_past (hl : laidOutB P = true) {W W' : World} (hb : Below W.heap.size W W') : ∀ (ts : List TypeId) (vs : List Value) (ds : List (DataW H)) (ps : List MemPlace),
    (∀ t ∈ ts, P.readableRec t = true ∧ t < P.types.size) → DataW.TrodAll enc P W 0 (fun _ => true) true ts vs ds ps → (∀ x ∈ ps, x.block < W.heap.size) →
    ∀ sp : Nat → Bool, (∀ x ∈ ps, sp x.block = true) → DataW.TrodAll enc P W' 0 sp true ts vs ds ps := by
  intro ts
  induction ts with
  | nil =>
    intro vs ds ps _ h _ sp _
    cases vs <;> cases ds <;> simp only [DataW.TrodAll] at h ⊢
    exact h
  | cons t ts ih =>
    intro vs ds ps hr h hlt sp hsp
    cases vs with
    | nil => cases ds <;> simp only [DataW.TrodAll] at h
    | cons v vs =>
      cases ds with
      | nil => simp only [DataW.TrodAll] at h
      | cons d ds =>
        simp only [DataW.TrodAll] at h ⊢
        obtain ⟨p, q, h1, h2, rfl⟩ := h
        have hr0 := hr t (by simp)
        exact ⟨p, q, WideElems.Trod_stays hl hr0.1 hr0.2 h1 (fun x hx => hb.same (hlt x (by simp [hx]))) (fun x hx => hsp x (by simp [hx])),
          ih vs ds q (fun u hu => hr u (by simp [hu])) h2 (fun x hx => hlt x (by simp [hx])) sp (fun x hx => hsp x (by simp [hx])), rfl⟩

/-- The row's last step. -/
theorem law_post {f : Func} {s : ChangeSpec} {rt : TypeId} {W W' : World} {args : Array Value} {ds gs : List (DataW H)} {before : List MemPlace}
    (hl : laidOutB P = true) (hread : ∀ t ∈ f.params.toList, P.readableRec t = true ∧ t < P.types.size) (hv : s.vars = []) (hbool : P.underlying rt = some .bool) (hrt : f.resultTypes = #[rt])
    (hfn : (s.fn H ds).results = [.lit (.bool true)] ∧ (s.fn H ds).args = ds ∧ (s.fn H ds).vars = [])
    (hW : DataW.Whole enc P f.params.toList s.vars false W args.toList ds gs before) (hb : Below W.heap.size W W') :
    s.post enc P f false true false false W args (.bool true) W' := by
  have hlt : ∀ x ∈ before, x.block < W.heap.size := fun x hx => hW.lt x hx
  have hW' := hW
  obtain ⟨p, q, hA, hV, rfl, hz, hn⟩ := hW
  rw [hv] at hV
  obtain ⟨rfl, rfl⟩ := trodVars_none hV
  rw [List.append_nil] at *
  obtain ⟨e1, e2, e3⟩ := hfn
  have hres : ∀ (b : Nat) (sp : Nat → Bool) (hd : Bool), DataW.TrodAll enc P W' b sp hd f.resultTypes.toList ((Value.bool true).resultList f.resultTypes.size) (s.fn H (ds ++ [])).results [] := by
    intro b sp hd
    rw [List.append_nil, e1, hrt]
    exact trodAll_cons_mk (shut_bool hbool true) trodAll_mk0
  have hargs : ∀ sp : Nat → Bool, (∀ x ∈ p, sp x.block = true) → DataW.TrodAll enc P W' 0 sp true f.params.toList args.toList (s.fn H (ds ++ [])).args p := by
    intro sp hsp
    rw [List.append_nil, e2]
    exact trodAll_past hl hb _ _ _ _ hread hA hlt sp hsp
  have hvars : ∀ sp : Nat → Bool, DataW.TrodVars enc P W' sp s.vars (s.fn H (ds ++ [])).vars [] := by
    intro sp
    rw [List.append_nil, e3, hv]
    rfl
  have hold : ∀ x ∈ p, (fun b => decide (b < W.heap.size)) x.block = true := fun x hx => by simpa using hlt x hx
  refine ⟨ds, [], p, [], p, [], hW', hres _ _ _, hargs _ hold, hvars _, World.keptBut_mono (fun x hx => ⟨hx, Or.inr (by simpa using hx)⟩) (hb.frame (· ∈ p)), fun h => by cases h⟩

/-- A vector that is handed in: two integers. -/
theorem open_vec {t tv : TypeId} {f0 f1 : Field} (hs : P.underlying t = some (.struct #[f0, f1])) (h0 : f0.type = tv) (h1 : f1.type = tv) (hv : P.underlying tv = some (.int .i64)) (hone : Go.Deep.oneCellFields P #[f0, f1] = true) (hC : P.cellsOf t = 2)
    {r : Reach} {b0 : Nat} {W : World} {base : Nat} {sp : Nat → Bool} {held : Bool} {v : Value} {d : DataW H} {p : List MemPlace} (ho : Value.okWide P W r b0 t v) (h : DataW.Trod enc P W base sp held t v d p) :
    ∃ m c : Int, v = .agg #[.int .i64 m, .int .i64 c] ∧ (-9223372036854775808 ≤ m ∧ m ≤ 9223372036854775807) ∧ (-9223372036854775808 ≤ c ∧ c ≤ 9223372036854775807) := by
  obtain ⟨c0, c1, y0, y1, m, rfl, rfl, rfl, hy0, hy1⟩ := Joins.open_agg2 hs hone hC ho h
  rw [h0] at hy0; rw [h1] at hy1
  obtain ⟨a, e0, _, wa⟩ := DataW.trod_int hv hy0
  obtain ⟨b, e1, _, wb⟩ := DataW.trod_int hv hy1
  simp at e0 e1
  subst e0 e1
  exact ⟨a, b, rfl, by simpa [Lit.wf, IntKind.min, IntKind.max, IntKind.signed, IntKind.bits] using wa, by simpa [Lit.wf, IntKind.min, IntKind.max, IntKind.signed, IntKind.bits] using wb⟩

end


theorem cellsV : Try.prog.cellsOf 36 = 2 := by kernel_rfl

end Go.Proofs.Ytgflbidagdcfmaa

namespace Go.Proofs.Ytgflbidagdcfmaa
open Go.ChangeShapes Go.WideShapes Go.ChangeAt Go.RowKit
attribute [local irreducible] Go.Calls

theorem own_below {w w' : World} {B : Nat} {e : TypeId} {sz : Nat} {v : Value} {n : Nat} {xs : List Value} (h : w.ownsRow B e sz v n xs) (hb : Below w.heap.size w w') : w'.ownsRow B e sz v n xs := by
  obtain ⟨h1, h2 | ⟨g, cap, cur, h3, h4, h5, h6⟩⟩ := h
  · exact ⟨h1, .inl h2⟩
  · exact ⟨h1, .inr ⟨g, cap, cur, h3, h4, (hb.block g (lt_of_block h5)).trans h5, h6⟩⟩
/-- The block that an append may write lies from the base on. -/
theorem own_block {w : World} {B : Nat} {e : TypeId} {sz : Nat} {v : Value} {n : Nat} {xs : List Value} (h : w.ownsRow B e sz v n xs) {k : Nat} (hk : v.ownBlock = some k) : B ≤ k := by
  obtain ⟨h1, h2 | ⟨g, cap, cur, h3, h4, h5, h6⟩⟩ := h
  · rw [h2.1] at hk; simp [Value.ownBlock] at hk
  · rw [h3] at hk; simp [Value.ownBlock] at hk; omega
theorem own_kept {A B : World} {β sz n : Nat} {e : TypeId} {v : Value} {xs : List Value} (h : A.ownsRow β e sz v n xs) (hk : ∀ k, v.ownBlock = some k → B.heap[k]? = A.heap[k]?) : B.ownsRow β e sz v n xs := by
  obtain ⟨h1, h2 | ⟨g, cap, cur, h3, h4, h5, h6⟩⟩ := h
  · exact ⟨h1, .inl h2⟩
  · exact ⟨h1, .inr ⟨g, cap, cur, h3, h4, (hk g (by rw [h3]; rfl)).trans h5, h6⟩⟩
theorem own_lt {A : World} {β sz n : Nat} {e : TypeId} {v : Value} {xs : List Value} (h : A.ownsRow β e sz v n xs) {k : Nat} (hk : v.ownBlock = some k) : k < A.heap.size := by
  obtain ⟨h1, h2 | ⟨g, cap, cur, h3, h4, h5, h6⟩⟩ := h
  · rw [h2.1] at hk; simp [Value.ownBlock] at hk
  · rw [h3] at hk; simp [Value.ownBlock] at hk; subst hk; exact lt_of_block h5
theorem own_has {A : World} {β sz n : Nat} {e : TypeId} {v : Value} {xs : List Value} (h : A.ownsRow β e sz v n xs) (hv : v ≠ .slice none 0 0) : ∃ k, v.ownBlock = some k := by
  obtain ⟨h1, h2 | ⟨g, cap, cur, h3, h4, h5, h6⟩⟩ := h
  · exact absurd h2.1 hv
  · exact ⟨g, by rw [h3]; rfl⟩
theorem own_sli {A : World} {β sz n : Nat} {e : TypeId} {v : Value} {xs : List Value} (h : A.ownsRow β e sz v n xs) : ∃ a cap, v = .slice a n cap := by
  obtain ⟨h1, h2 | ⟨g, cap, cur, h3, h4, h5, h6⟩⟩ := h
  · exact ⟨none, 0, by rw [h2.1, h2.2]⟩
  · exact ⟨_, cap, h3⟩
theorem own_nil {A : World} (β sz : Nat) (e : TypeId) : A.ownsRow β e sz (.slice none 0 0) 0 [] := ⟨by simp, .inl ⟨rfl, rfl⟩⟩
theorem keptS {w : World} {k b i : Nat} (h : k ≠ b) (v : Value) : (w.setCell ⟨b, i, none⟩ v).heap[k]? = w.heap[k]? := Below.heap_setCell _ _ _ _ h
theorem keptA {w : World} {k : Nat} (h : k < w.heap.size) (o : Obj) : (w.alloc o).heap[k]? = w.heap[k]? := Below.heap_alloc _ _ _ h
/-- The block p holds a slice that owns its row; g: from where on its blocks lie, and the one that it has. -/
def OwnI (w : World) (p : Nat) (t e : TypeId) (sz n : Nat) (xs : List Value) (g : Option (Nat × Nat)) (W : World) : Prop :=
  ∃ (v : Value) (β : Nat), Blk W p #[v] t ∧ Below w.heap.size w W ∧ W.ownsRow β e sz v n xs ∧ p < β ∧ β ≤ W.heap.size ∧ ((g = none ∧ v = .slice none 0 0) ∨ ∃ k, g = some (β, k) ∧ v.ownBlock = some k)
theorem ownI_keep {w : World} {p sz n : Nat} {t e : TypeId} {xs : List Value} {g : Option (Nat × Nat)} {A B : World} {m : Nat} (hp : p < m) (hn : w.heap.size ≤ m) (h : OwnI w p t e sz n xs g A) (hb : Below m A B) (hk : ∀ b k, g = some (b, k) → B.heap[k]? = A.heap[k]?) : OwnI w p t e sz n xs g B := by
  obtain ⟨v, β, h1, h2, h3, h4, h5, h6⟩ := h
  refine ⟨v, β, h1.below hb hp, h2.trans (hb.mono hn), own_kept h3 (fun k e => ?_), h4, Nat.le_trans h5 hb.size, h6⟩
  rcases h6 with ⟨_, q⟩ | ⟨k', q, q2⟩
  · rw [q] at e; simp [Value.ownBlock] at e
  · rw [q2] at e; cases e; exact hk _ _ q
theorem ownI_own {w : World} {p sz n : Nat} {t e : TypeId} {xs : List Value} {g : Option (Nat × Nat)} {A : World} (h : OwnI w p t e sz n xs g A) : ∀ b k, g = some (b, k) → b ≤ k ∧ k < A.heap.size := by
  obtain ⟨v, β, h1, h2, h3, h4, h5, h6⟩ := h
  rintro b k e
  rcases h6 with ⟨q, _⟩ | ⟨k', q, q2⟩
  · rw [q] at e; cases e
  · rw [q] at e; cases e
    exact ⟨own_block h3 q2, own_lt h3 q2⟩
theorem ownI_lt {w : World} {p sz n : Nat} {t e : TypeId} {xs : List Value} {g : Option (Nat × Nat)} {A : World} (h : OwnI w p t e sz n xs g A) : p < A.heap.size := by
  obtain ⟨v, β, h1, _⟩ := h
  exact h1.lt
/-- From where on what is appended may lie. -/
theorem ownI_base {w : World} {p sz n : Nat} {t e : TypeId} {xs : List Value} {g : Option (Nat × Nat)} {A : World} (h : OwnI w p t e sz n xs g A) : ∃ (av : Option Addr) (cap γ : Nat), Blk A p #[.slice av n cap] t ∧ Below w.heap.size w A ∧ A.ownsRow γ e sz (.slice av n cap) n xs ∧ p < γ ∧ γ ≤ A.heap.size ∧
    (∀ k, (Value.slice av n cap).ownBlock = some k → g = some (γ, k) ∧ γ ≤ k) ∧ (A.heap.size ≤ γ ∨ ∃ j, g = some (γ, j)) := by
  have hz := ownI_lt h
  obtain ⟨v, β, h1, h2, h3, h4, h5, h6⟩ := h
  obtain ⟨a, cap, rfl⟩ := own_sli h3
  rcases h6 with ⟨q, e'⟩ | ⟨k', q, q2⟩
  · have hx : A.ownsRow A.heap.size e sz (.slice a n cap) n xs := by
      obtain ⟨q1, q2 | ⟨g', cap', cur, q3, _⟩⟩ := h3
      · exact ⟨q1, .inl q2⟩
      · rw [q3] at e'; cases e'
    refine ⟨a, cap, A.heap.size, h1, h2, hx, hz, Nat.le_refl _, fun k hk => ?_, .inl (Nat.le_refl _)⟩
    rw [e'] at hk; simp [Value.ownBlock] at hk
  · exact ⟨a, cap, β, h1, h2, h3, h4, h5, fun k hk => ⟨by rw [q2] at hk; cases hk; exact q, own_block h3 hk⟩, .inr ⟨k', q⟩⟩
theorem grown_set (w : World) (p i : Nat) (v : Value) : w.grownBy (w.setCell ⟨p, i, none⟩ v) (some p) := ⟨rfl, rfl, rfl, by simp [World.setCell], fun k _ hk => Below.heap_setCell _ _ _ _ (fun e => hk (by rw [e]))⟩
theorem grown_trans {a b c : World} {r : Option Nat} (h : a.grownBy b r) (h' : b.grownBy c r) : a.grownBy c r :=
  ⟨h'.os.trans h.os, h'.tape.trans h.tape, h'.output.trans h.output, Nat.le_trans h.size h'.size, fun k hk hr => (h'.block k (Nat.lt_of_lt_of_le hk h.size) hr).trans (h.block k hk hr)⟩
theorem grown_refl (w : World) (r : Option Nat) : w.grownBy w r := ⟨rfl, rfl, rfl, Nat.le_refl _, fun _ _ _ => rfl⟩
theorem grown_any {w w' : World} {r : Option Nat} (h : Below w.heap.size w w') : w.grownBy w' r := ⟨h.os, h.tape, h.output, h.size, fun k hk _ => h.block k hk⟩
theorem Blk.grown {w w' : World} {k : Nat} {cs : Array Value} {t : TypeId} {r : Option Nat} (h : Blk w k cs t) (hg : w.grownBy w' r) (hr : some k ≠ r) : Blk w' k cs t := (hg.block k h.lt hr).trans h
theorem own_grown {w w' : World} {B p : Nat} {e : TypeId} {sz : Nat} {v : Value} {n : Nat} {xs : List Value} (h : w.ownsRow B e sz v n xs) (hg : w.grownBy w' (some p)) (hp : p < B) : w'.ownsRow B e sz v n xs := by
  obtain ⟨h1, h2 | ⟨g, cap, cur, h3, h4, h5, h6⟩⟩ := h
  · exact ⟨h1, .inl h2⟩
  · exact ⟨h1, .inr ⟨g, cap, cur, h3, h4, (hg.block g (lt_of_block h5) (fun e => by simp at e; omega)).trans h5, h6⟩⟩
theorem new_cellsB (w : World) (cs : Array Value) (t : TypeId) : ∀ j u, cs.toList[j]? = some u → (w.alloc (.cells cs t)).cell? ((⟨w.heap.size, 0, none⟩ : Addr).add j) = some u := by
  intro j u h
  have e : ((⟨w.heap.size, 0, none⟩ : Addr).add j) = ⟨w.heap.size, j, none⟩ := by
    unfold Addr.add
    by_cases c : j = 0
    · subst c; simp
    · simp [c]
  rw [e, (Blk.made w cs t).cell j, ← h, Array.getElem?_toList]
end Go.Proofs.Ytgflbidagdcfmaa

namespace Go.Proofs.Ytgflbidagdcfmaa
open Go.ChangeShapes Go.WideShapes Go.ChangeAt Go.RowKit
attribute [local irreducible] Go.Calls

/-- A run: its time, its vector. -/
abbrev S (at' m c : Int) : Value := .agg #[.int .i64 at', .int .i64 m, .int .i64 c]
/-- The runs that a slice's cells hold. -/
def CellsS (w : World) (b off : Nat) (l : List Sg) : Prop :=
  ∀ i, i < l.length → w.cell? ⟨b, off + i * 3, none⟩ = some (.int .i64 (l.getD i (0, 0, 0)).1) ∧ w.cell? ⟨b, off + i * 3 + 1, none⟩ = some (.int .i64 (l.getD i (0, 0, 0)).2.1) ∧ w.cell? ⟨b, off + i * 3 + 2, none⟩ = some (.int .i64 (l.getD i (0, 0, 0)).2.2)
/-- A slice that reads as the list: where it is not empty it lies in a block of the world's. -/
def ArgS (w : World) (a : Option Addr) (l : List Sg) : Prop := 0 < l.length → ∃ b off, a = some ⟨b, off, none⟩ ∧ b < w.heap.size ∧ CellsS w b off l
theorem CellsS.below {w w' : World} {b off B : Nat} {l : List Sg} (h : CellsS w b off l) (hb : Below B w w') (hB : b < B) : CellsS w' b off l := fun i hi => by
  obtain ⟨h1, h2, h3⟩ := h i hi
  exact ⟨(hb.cell (p := ⟨b, _, none⟩) hB).trans h1, (hb.cell (p := ⟨b, _, none⟩) hB).trans h2, (hb.cell (p := ⟨b, _, none⟩) hB).trans h3⟩
theorem ArgS.past {w w' : World} {a : Option Addr} {l : List Sg} (h : ArgS w a l) (hb : Below w.heap.size w w') : ArgS w' a l := fun hl => by
  obtain ⟨b, off, e, h1, h2⟩ := h hl
  exact ⟨b, off, e, Nat.lt_of_lt_of_le h1 hb.size, h2.below hb h1⟩
theorem CellsS.get {w : World} {b off : Nat} {l : List Sg} (h : CellsS w b off l) {i : Nat} (hi : i < l.length) : w.cell? ⟨b, off + i * 3, none⟩ = some (.int .i64 (ats l i)) ∧ w.cell? ⟨b, off + i * 3 + 1, none⟩ = some (.int .i64 (vls l i).1) ∧ w.cell? ⟨b, off + i * 3 + 2, none⟩ = some (.int .i64 (vls l i).2) := h i hi
theorem ret_v {a b : Value} (h : a = b) : Ending.returned a = .returned b := by rw [h]
theorem grown_alloc (w : World) (o : Obj) (r : Option Nat) : w.grownBy (w.alloc o) r := ⟨rfl, rfl, rfl, by simp, fun k hk _ => Below.heap_alloc _ _ _ hk⟩
/-- Where a list of runs begins and ends, and whether it ends. -/
def endsL (l : List Sg) : Int × Int × Bool := if l.length = 0 then (0, 0, true) else (ats l 0, ats l (l.length - 1), vls l (l.length - 1) == (0, 0))
theorem sg_ext {a b : Sg} (h1 : a.1 = b.1) (h2 : a.2.1 = b.2.1) (h3 : a.2.2 = b.2.2) : a = b := by
  obtain ⟨x, m, c⟩ := a
  obtain ⟨x', m', c'⟩ := b
  simp at h1 h2 h3
  rw [h1, h2, h3]
theorem list_ext {l r : List Sg} (h : l.length = r.length) (h2 : ∀ i, i < l.length → ats l i = ats r i ∧ vls l i = vls r i) : l = r := by
  apply List.ext_getElem h
  intro i h3 h4
  obtain ⟨e1, e2⟩ := h2 i h3
  unfold ats at e1; unfold vls at e2
  rw [getD_get _ _ _ h3, getD_get _ _ _ h4] at e1 e2
  exact Prod.ext e1 e2
def sameB (l r : List Sg) : Bool := decide (l = r)
theorem same_t {l r : List Sg} (h : l.length = r.length) (h2 : ∀ i, i < l.length → ats l i = ats r i ∧ vls l i = vls r i) : sameB l r = true := decide_eq_true (list_ext h h2)
theorem same_f {l r : List Sg} {i : Nat} (h : ats l i ≠ ats r i ∨ vls l i ≠ vls r i) : sameB l r = false := decide_eq_false (fun e => by subst e; simp at h)
theorem Try.infoSeg : (Try.prog.info? 56).map (fun i => (i.zero, i.size, i.bytes)) = some (some (.agg #[.int .i64 0, .int .i64 0, .int .i64 0]), 3, 24) := by kernel_rfl
/-- The cells of a list of runs. -/
def cellsOfS : List Sg → List Value
  | [] => []
  | s :: r => .int .i64 s.1 :: .int .i64 s.2.1 :: .int .i64 s.2.2 :: cellsOfS r
theorem cellsOfS_len : ∀ l, (cellsOfS l).length = l.length * 3
  | [] => rfl
  | s :: r => by simp only [cellsOfS, List.length_cons, cellsOfS_len r]; omega
theorem cellsOfS_app : ∀ l r, cellsOfS (l ++ r) = cellsOfS l ++ cellsOfS r
  | [], _ => rfl
  | s :: l, r => by simp only [cellsOfS, List.cons_append, cellsOfS_app l r]
theorem cellsOfS_get : ∀ (l : List Sg) (i : Nat), i < l.length → (cellsOfS l)[i * 3]? = some (.int .i64 (ats l i)) ∧ (cellsOfS l)[i * 3 + 1]? = some (.int .i64 (vls l i).1) ∧ (cellsOfS l)[i * 3 + 2]? = some (.int .i64 (vls l i).2)
  | [], i, h => by simp at h
  | s :: l, 0, _ => ⟨rfl, rfl, rfl⟩
  | s :: l, i + 1, h => by
    obtain ⟨h1, h2, h3⟩ := cellsOfS_get l i (by simp at h; omega)
    have e : ∀ j, (cellsOfS (s :: l))[(i + 1) * 3 + j]? = (cellsOfS l)[i * 3 + j]? := fun j => by
      simp only [cellsOfS]
      rw [show (i + 1) * 3 + j = i * 3 + j + 1 + 1 + 1 by omega]
      simp only [List.getElem?_cons_succ]
    exact ⟨(e 0).trans h1, (e 1).trans h2, (e 2).trans h3⟩
/-- A slice value that reads as the list of runs. -/
def SliS (w : World) (v : Value) (l : List Sg) : Prop := ∃ (a : Option Addr) (cap : Nat), v = .slice a l.length cap ∧ l.length ≤ cap ∧ cap ≤ 9223372036854775807 ∧ ArgS w a l
theorem SliS.past {w w' : World} {v : Value} {l : List Sg} (h : SliS w v l) (hb : Below w.heap.size w w') : SliS w' v l := by
  obtain ⟨a, cap, h1, h2, h3, h4⟩ := h
  exact ⟨a, cap, h1, h2, h3, h4.past hb⟩
theorem sliS_nil (w : World) : SliS w (.slice none 0 0) [] := ⟨none, 0, rfl, Nat.le_refl _, by omega, fun h => by simp at h⟩
/-- What a call has appended to reads as a slice. -/
theorem sliS_own {w : World} {base : Nat} {e : TypeId} {v : Value} {l : List Sg} (h : w.ownsRow base e 3 v l.length (cellsOfS l)) : SliS w v l := by
  obtain ⟨h1, h2 | ⟨g, cap, cur, rfl, h3, h4, h5, h6, h7, h8⟩⟩ := h
  · obtain ⟨rfl, h2⟩ := h2
    have : l = [] := List.eq_nil_of_length_eq_zero h2
    subst this
    exact sliS_nil w
  · refine ⟨some ⟨g, 0, none⟩, cap, rfl, h5, by unfold maxLen at h6; omega, fun _ => ⟨g, 0, rfl, lt_of_block h4, fun i hi => ?_⟩⟩
    have hg := cellsOfS_get l i hi
    have hc : ∀ j x, j < l.length * 3 → (cellsOfS l)[j]? = some x → w.cell? ⟨g, j, none⟩ = some x := fun j x hj hx => by
      have e : w.cell? ⟨g, j, none⟩ = cur[j]? := by simp [World.cell?, h4]
      rw [e, ← Array.getElem?_toList]
      rw [← h8, List.getElem?_take, if_pos hj] at hx
      exact hx
    simp only [Nat.zero_add]
    exact ⟨hc _ _ (by omega) hg.1, hc _ _ (by omega) hg.2.1, hc _ _ (by omega) hg.2.2⟩
theorem new_cells (w : World) (cs : Array Value) (t : TypeId) : ∀ j u, cs.toList[j]? = some u → (w.alloc (.cells cs t)).cell? ((⟨w.heap.size, 0, none⟩ : Addr).add j) = some u := by
  intro j u h
  have e : ((⟨w.heap.size, 0, none⟩ : Addr).add j) = ⟨w.heap.size, j, none⟩ := by
    unfold Addr.add
    by_cases c : j = 0
    · subst c; simp
    · simp [c]
  rw [e, (Blk.made w cs t).cell j, ← h, Array.getElem?_toList]
/-- What Of hands back. -/
def OfPost (w : World) (l : List Sg) (e : Ending) (w' : World) : Prop :=
  ∃ (v : Value) (f : List Sg) (er : Int), e = .returned (.tuple #[v, .int .i64 er]) ∧ SliS w' v f ∧ ((l.all okS = true ∧ er = 0 ∧ IsOf l f) ∨ (l.all okS = false ∧ er = 10 ∧ f = [])) ∧ Below w.heap.size w w'
theorem drop_cons {l : List Sg} {k : Nat} (h : k < l.length) : l.drop k = l.getD k (0, 0, 0) :: l.drop (k + 1) := by
  rw [List.drop_eq_getElem_cons h, getD_get _ _ _ h]
theorem all_bad {l : List Sg} {k : Nat} (h : k < l.length) (hb : okS (l.getD k (0, 0, 0)) = false) : l.all okS = false := by
  rw [getD_get _ _ _ h] at hb
  rw [List.all_eq_false]
  exact ⟨_, List.getElem_mem h, by rw [hb]; exact Bool.false_ne_true⟩
theorem all_good {l : List Sg} (h : ∀ k, k < l.length → okS (l.getD k (0, 0, 0)) = true) : l.all okS = true := by
  rw [List.all_eq_true]
  intro x hx
  obtain ⟨i, hi, rfl⟩ := List.getElem_of_mem hx
  have := h i hi
  rw [getD_get _ _ _ hi] at this; exact this
/-- A new block of runs reads as a slice. -/
theorem argS_blk {w : World} {p : Nat} {l : List Sg} {t : TypeId} (h : Blk w p (cellsOfS l).toArray t) : ArgS w (some ⟨p, 0, none⟩) l := fun _ =>
  ⟨p, 0, rfl, h.lt, fun i hi => by
    obtain ⟨h1, h2, h3⟩ := cellsOfS_get l i hi
    simp only [Nat.zero_add]
    have q : ∀ j, w.cell? ⟨p, j, none⟩ = (cellsOfS l)[j]? := fun j => (h.cell j).trans (by simp)
    exact ⟨(q _).trans h1, (q _).trans h2, (q _).trans h3⟩⟩
/-- What a call of Of hands back, where the answer is known. -/
def OfIs (w : World) (F : List Sg) (er : Int) (e : Ending) (w' : World) : Prop := ∃ v : Value, e = .returned (.tuple #[v, .int .i64 er]) ∧ SliS w' v F ∧ Below w.heap.size w w'
/-- The box's runs. -/
def boxL (x y : Int) (v : Int × Int) : List Sg := if x = y ∨ v = (0, 0) then [] else [(x, v), (y, (0, 0))]
theorem boxL_of {x y : Int} {v : Int × Int} (hxy : x ≤ y) (h1 : okS (x, v) = true) (h2 : okS (y, (0, 0)) = true) : IsOf [(x, v), (y, (0, 0))] (boxL x y v) := by
  unfold boxL
  by_cases c : x = y ∨ v = (0, 0)
  · rw [if_pos c]
    refine ⟨trivial, fun t => ?_, by simp⟩
    unfold rv rread vat
    simp only [List.foldl_cons, List.foldl_nil]
    unfold rstep
    rcases c with c | c
    · subst c
      by_cases k : x ≤ t <;> simp [k]
    · subst c
      by_cases k : x ≤ t <;> by_cases k2 : y ≤ t <;> simp [k, k2, hxy]
  · rw [if_neg c]
    have c1 : x ≠ y := fun e => c (.inl e)
    have c2 : v ≠ (0, 0) := fun e => c (.inr e)
    refine ⟨⟨h1, c2, fun s hs => ?_, h2, fun e => c2 e.symm, fun s hs => by simp at hs, trivial⟩, fun t => ?_, Nat.le_refl _⟩
    · simp at hs; subst hs
      show x < y
      omega
    · unfold rv rread vat
      simp only [List.foldl_cons, List.foldl_nil]
      unfold rstep stepV
      by_cases k : x ≤ t <;> by_cases k2 : y ≤ t <;> simp [k, k2, hxy]
/-- What Box hands back. -/
def boxS (x y : Int) (v : Int × Int) : List Sg × Int := if y < x then ([], 2) else if okS (x, v) && okS (y, (0, 0)) then (boxL x y v, 0) else ([], 10)
/-- The document's example. -/
theorem head_of : IsOf [(5, (1, 1)), (2, (3, 3)), (5, (2, 2)), (9, (2, 2))] [(2, (3, 3)), (5, (2, 2))] := by
  refine ⟨⟨by decide, by decide, fun s hs => by simp at hs; subst hs; decide, by decide, by decide, fun s hs => by simp at hs, trivial⟩, fun t => ?_, by decide⟩
  unfold rv rread vat
  simp only [List.foldl_cons, List.foldl_nil]
  unfold rstep stepV
  by_cases k : (2 : Int) ≤ t
  · by_cases k2 : (5 : Int) ≤ t
    · by_cases k3 : (9 : Int) ≤ t <;> simp [k, k2, k3]
    · have k3 : ¬ (9 : Int) ≤ t := by omega
      simp [k, k2, k3]
  · have k2 : ¬ (5 : Int) ≤ t := by omega
    have k3 : ¬ (9 : Int) ≤ t := by omega
    simp [k, k2, k3]
end Go.Proofs.Ytgflbidagdcfmaa

namespace Go.Proofs.Ytgflbidagdcfmaa
open Go.ChangeShapes Go.WideShapes Go.ChangeAt Go.RowKit

/-- A number that an int64 holds. -/
def I64 (x : Int) : Prop := -9223372036854775808 ≤ x ∧ x ≤ 9223372036854775807
/-- A run whose numbers are int64s. -/
def S64 (s : Sg) : Prop := I64 s.1 ∧ I64 s.2.1 ∧ I64 s.2.2
section
variable {H : Type} {enc : TypeId × Value → H} {P : Program}
theorem wf64 {n : Int} (h : (Lit.int .i64 n).wf = true) : I64 n := by
  have : -9223372036854775808 ≤ n ∧ n ≤ 9223372036854775807 := by simpa [Lit.wf, IntKind.min, IntKind.max, IntKind.signed, IntKind.bits] using h
  exact this
theorem open_segs {ts e tv ti : TypeId} {f0 f1 g0 g1 : Field} {W : World} {v : Value} {d : DataW H} {p : List MemPlace} (hs : P.underlying ts = some (.slice e)) (he : P.underlying e = some (.struct #[f0, f1]))
    (ce : P.cellsOf e = 3) (o0 : f0.offset = 0) (o1 : f1.offset = 1) (t0 : f0.type = ti) (t1 : f1.type = tv) (ci : P.cellsOf ti = 1) (cv : P.cellsOf tv = 2) (hi : P.underlying ti = some (.int .i64))
    (hv : P.underlying tv = some (.struct #[g0, g1])) (p0 : g0.offset = 0) (p1 : g1.offset = 1) (u0 : g0.type = ti) (u1 : g1.type = ti)
    {r : Reach} {b0 : Nat} (ho : Value.okWide P W r b0 ts v) (h : DataW.Trod enc P W 0 (fun _ => true) true ts v d p) :
    ∃ (l : List Sg) (a : Option Addr) (cap : Nat), v = .slice a l.length cap ∧ l.length ≤ 9223372036854775807 ∧ ArgS W a l ∧ ∀ x ∈ l, S64 x := by
  obtain ⟨a, len, cap, rfl⟩ := okWide_slice hs ho
  obtain ⟨fuel, hf⟩ := h
  rcases Deep.open_slice (cs := [.slice a len cap]) hs hf with ⟨hcs, _⟩ | ⟨a', len', cap', m, n, D, Pl, hcs, _, hlc, hcm, hm, _, hx⟩
  · simp at hcs
    obtain ⟨rfl, rfl, rfl⟩ := hcs
    exact ⟨[], none, 0, rfl, by simp, fun h => by simp at h, fun x hx => by simp at hx⟩
  · simp at hcs
    obtain ⟨rfl, rfl, rfl⟩ := hcs
    have hlen : len ≤ m := by rw [hm]; simpa using hlc
    have each : ∀ i, i < len → ∃ s : Sg, (W.cell? (a'.add (i * 3)) = some (.int .i64 s.1) ∧ W.cell? ((a'.add (i * 3)).add 1) = some (.int .i64 s.2.1) ∧ W.cell? ((a'.add (i * 3)).add 2) = some (.int .i64 s.2.2)) ∧ S64 s := fun i hi' => by
      obtain ⟨cs', hc, ht⟩ := hx i (by omega)
      rw [ce] at hc
      obtain ⟨_, hcl, hat⟩ := World.cells?_some hc
      obtain ⟨ys, n', _, _, hl1, hyl, hfs⟩ := DataW.trod_struct he ht
      have h0 := hfs 0 f0 rfl
      have h1 := hfs 1 f1 rfl
      rw [o0, t0, ci] at h0
      rw [o1, t1, cv] at h1
      match cs', hcl with
      | [c0, c1, c2], _ =>
        match ys, hyl with
        | [y0, y1], _ =>
          simp at h0 h1
          obtain ⟨z0, e0, _, w0⟩ := DataW.trod_int hi h0
          obtain ⟨zs, n2, _, _, hl2, hzl, hgs⟩ := DataW.trod_struct hv h1
          have k0 := hgs 0 g0 rfl
          have k1 := hgs 1 g1 rfl
          rw [p0, u0, ci] at k0
          rw [p1, u1, ci] at k1
          match zs, hzl with
          | [q0, q1], _ =>
            simp at k0 k1
            obtain ⟨z1, e1, _, w1⟩ := DataW.trod_int hi k0
            obtain ⟨z2, e2, _, w2⟩ := DataW.trod_int hi k1
            simp at e0 e1 e2
            subst e0 e1 e2
            have a0 := hat 0 (by omega)
            have a1 := hat 1 (by omega)
            have a2 := hat 2 (by omega)
            simp at a1 a2
            refine ⟨(z0, z1, z2), ⟨?_, a1, a2⟩, wf64 w0, wf64 w1, wf64 w2⟩
            have ea : (a'.add (i * 3)).add 0 = a'.add (i * 3) := by simp [Addr.add]
            rw [ea] at a0
            simpa using a0
    obtain ⟨F, hF⟩ := Deep.choose_lt each
    refine ⟨(List.range len).map F, some a', cap, by simp, by simp; unfold maxLen at hcm; omega, fun hl => ?_, fun x hx => ?_⟩
    · simp at hl
      have hc00 := (hF 0 hl).1.1
      obtain ⟨b, off, spot⟩ := a'
      have hsp : spot = none := by
        cases spot with
        | none => rfl
        | some s => simp [Addr.add, World.cell?] at hc00; split at hc00 <;> simp at hc00
      subst hsp
      have hb : b < W.heap.size := by
        apply Nat.lt_of_not_le
        intro hge
        simp [Addr.add, World.cell?, Array.getElem?_eq_none hge] at hc00
      refine ⟨b, off, rfl, hb, fun i hi => ?_⟩
      have hi' : i < len := by simpa using hi
      have hg : ((List.range len).map F).getD i (0, 0, 0) = F i := by simp [List.getD_eq_getElem?_getD, hi']
      obtain ⟨⟨h1, h2, h3⟩, _⟩ := hF i hi'
      have ad : ∀ x y : Nat, (⟨b, x, none⟩ : Addr).add y = ⟨b, x + y, none⟩ := fun x y => by
        unfold Addr.add
        by_cases c : y = 0
        · subst c; simp
        · simp [c]
      rw [ad] at h1 h2 h3
      rw [ad] at h2 h3
      rw [hg]
      exact ⟨h1, h2, h3⟩
    · rw [List.mem_map] at hx
      obtain ⟨i, hi, rfl⟩ := hx
      exact (hF i (by simpa using hi)).2
theorem open_slis {ts e tv ti : TypeId} {f0 f1 g0 g1 : Field} {W : World} {v : Value} {d : DataW H} {p : List MemPlace} (hs : P.underlying ts = some (.slice e)) (he : P.underlying e = some (.struct #[f0, f1]))
    (ce : P.cellsOf e = 3) (o0 : f0.offset = 0) (o1 : f1.offset = 1) (t0 : f0.type = ti) (t1 : f1.type = tv) (ci : P.cellsOf ti = 1) (cv : P.cellsOf tv = 2) (hi : P.underlying ti = some (.int .i64))
    (hv : P.underlying tv = some (.struct #[g0, g1])) (p0 : g0.offset = 0) (p1 : g1.offset = 1) (u0 : g0.type = ti) (u1 : g1.type = ti)
    {r : Reach} {b0 : Nat} (ho : Value.okWide P W r b0 ts v) (h : DataW.Trod enc P W 0 (fun _ => true) true ts v d p) :
    ∃ (l : List Sg) (a : Option Addr) (cap : Nat), v = .slice a l.length cap ∧ l.length ≤ 9223372036854775807 ∧ SliS W (.slice a l.length cap) l ∧ ∀ x ∈ l, S64 x := by
  obtain ⟨a, len, cap, rfl⟩ := okWide_slice hs ho
  obtain ⟨fuel, hf⟩ := h
  rcases Deep.open_slice (cs := [.slice a len cap]) hs hf with ⟨hcs, _⟩ | ⟨a', len', cap', m, n, D, Pl, hcs, _, hlc, hcm, hm, _, hx⟩
  · simp at hcs
    obtain ⟨rfl, rfl, rfl⟩ := hcs
    exact ⟨[], none, 0, rfl, by simp, sliS_nil _, fun x hx => by simp at hx⟩
  · simp at hcs
    obtain ⟨rfl, rfl, rfl⟩ := hcs
    have hlen : len ≤ m := by rw [hm]; simpa using hlc
    have each : ∀ i, i < len → ∃ s : Sg, (W.cell? (a'.add (i * 3)) = some (.int .i64 s.1) ∧ W.cell? ((a'.add (i * 3)).add 1) = some (.int .i64 s.2.1) ∧ W.cell? ((a'.add (i * 3)).add 2) = some (.int .i64 s.2.2)) ∧ S64 s := fun i hi' => by
      obtain ⟨cs', hc, ht⟩ := hx i (by omega)
      rw [ce] at hc
      obtain ⟨_, hcl, hat⟩ := World.cells?_some hc
      obtain ⟨ys, n', _, _, hl1, hyl, hfs⟩ := DataW.trod_struct he ht
      have h0 := hfs 0 f0 rfl
      have h1 := hfs 1 f1 rfl
      rw [o0, t0, ci] at h0
      rw [o1, t1, cv] at h1
      match cs', hcl with
      | [c0, c1, c2], _ =>
        match ys, hyl with
        | [y0, y1], _ =>
          simp at h0 h1
          obtain ⟨z0, e0, _, w0⟩ := DataW.trod_int hi h0
          obtain ⟨zs, n2, _, _, hl2, hzl, hgs⟩ := DataW.trod_struct hv h1
          have k0 := hgs 0 g0 rfl
          have k1 := hgs 1 g1 rfl
          rw [p0, u0, ci] at k0
          rw [p1, u1, ci] at k1
          match zs, hzl with
          | [q0, q1], _ =>
            simp at k0 k1
            obtain ⟨z1, e1, _, w1⟩ := DataW.trod_int hi k0
            obtain ⟨z2, e2, _, w2⟩ := DataW.trod_int hi k1
            simp at e0 e1 e2
            subst e0 e1 e2
            have a0 := hat 0 (by omega)
            have a1 := hat 1 (by omega)
            have a2 := hat 2 (by omega)
            simp at a1 a2
            refine ⟨(z0, z1, z2), ⟨?_, a1, a2⟩, wf64 w0, wf64 w1, wf64 w2⟩
            have ea : (a'.add (i * 3)).add 0 = a'.add (i * 3) := by simp [Addr.add]
            rw [ea] at a0
            simpa using a0
    obtain ⟨F, hF⟩ := Deep.choose_lt each
    refine ⟨(List.range len).map F, some a', cap, by simp, by simp; unfold maxLen at hcm; omega, ⟨some a', cap, rfl, by simp; omega, by unfold maxLen at hcm; omega, fun hl => ?_⟩, fun x hx => ?_⟩
    · simp at hl
      have hc00 := (hF 0 hl).1.1
      obtain ⟨b, off, spot⟩ := a'
      have hsp : spot = none := by
        cases spot with
        | none => rfl
        | some s => simp [Addr.add, World.cell?] at hc00; split at hc00 <;> simp at hc00
      subst hsp
      have hb : b < W.heap.size := by
        apply Nat.lt_of_not_le
        intro hge
        simp [Addr.add, World.cell?, Array.getElem?_eq_none hge] at hc00
      refine ⟨b, off, rfl, hb, fun i hi => ?_⟩
      have hi' : i < len := by simpa using hi
      have hg : ((List.range len).map F).getD i (0, 0, 0) = F i := by simp [List.getD_eq_getElem?_getD, hi']
      obtain ⟨⟨h1, h2, h3⟩, _⟩ := hF i hi'
      have ad : ∀ x y : Nat, (⟨b, x, none⟩ : Addr).add y = ⟨b, x + y, none⟩ := fun x y => by
        unfold Addr.add
        by_cases c : y = 0
        · subst c; simp
        · simp [c]
      rw [ad] at h1 h2 h3
      rw [ad] at h2 h3
      rw [hg]
      exact ⟨h1, h2, h3⟩
    · rw [List.mem_map] at hx
      obtain ⟨i, hi, rfl⟩ := hx
      exact (hF i (by simpa using hi)).2
end
set_option maxRecDepth 100000 in
theorem cellsSeg : Try.prog.cellsOf 56 = 3 := by kernel_rfl
set_option maxRecDepth 100000 in
theorem cellsI64 : Try.prog.cellsOf 2 = 1 := by kernel_rfl
set_option maxRecDepth 100000 in
/-- For this program. -/
theorem open_segsP {H : Type} {enc : TypeId × Value → H} {W : World} {v : Value} {d : DataW H} {p : List MemPlace} {r : Reach} {b0 : Nat} (ho : Value.okWide Try.prog W r b0 22 v) (h : DataW.Trod enc Try.prog W 0 (fun _ => true) true 22 v d p) :
    ∃ (l : List Sg) (a : Option Addr) (cap : Nat), v = .slice a l.length cap ∧ l.length ≤ 9223372036854775807 ∧ ArgS W a l ∧ ∀ x ∈ l, S64 x :=
  open_segs (P := Try.prog) Try.underlying22 Try.underlying56 cellsSeg rfl rfl rfl rfl cellsI64 cellsV Try.underlying2 Try.underlying36 rfl rfl rfl rfl ho h
set_option maxRecDepth 100000 in
theorem open_slisP {H : Type} {enc : TypeId × Value → H} {W : World} {v : Value} {d : DataW H} {p : List MemPlace} {r : Reach} {b0 : Nat} (ho : Value.okWide Try.prog W r b0 22 v) (h : DataW.Trod enc Try.prog W 0 (fun _ => true) true 22 v d p) :
    ∃ (l : List Sg) (a : Option Addr) (cap : Nat), v = .slice a l.length cap ∧ l.length ≤ 9223372036854775807 ∧ SliS W (.slice a l.length cap) l ∧ ∀ x ∈ l, S64 x :=
  open_slis (P := Try.prog) Try.underlying22 Try.underlying56 cellsSeg rfl rfl rfl rfl cellsI64 cellsV Try.underlying2 Try.underlying36 rfl rfl rfl rfl ho h
end Go.Proofs.Ytgflbidagdcfmaa

namespace Go.Proofs.Ytgflbidagdcfmaa
open Go.ChangeShapes Go.WideShapes Go.ChangeAt Go.RowKit

theorem open_arr2 {H : Type} {enc : TypeId × Value → H} {P : Program} {t ti : TypeId} (ht : P.underlying t = some (.array 2 ti)) (hti : P.underlying ti = some (.int .i64)) (ce : P.cellsOf ti = 1) (ct : P.cellsOf t = 2)
    {W : World} {v : Value} {d : DataW H} {p : List MemPlace} {r : Reach} {b0 base : Nat} {sp : Nat → Bool} {held : Bool} (ho : Value.okWide P W r b0 t v) (h : DataW.Trod enc P W base sp held t v d p) :
    ∃ x y : Int, v = .agg #[.int .i64 x, .int .i64 y] := by
  simp only [Value.okWide, ht] at ho
  obtain ⟨cs, rfl, hsz, _⟩ := ho
  obtain ⟨fuel, hf⟩ := h
  obtain ⟨xs, m, _, _, hl, hxl, hx⟩ := DataW.trod_array ht hf
  rw [ct] at hsz
  obtain ⟨c0, c1, rfl⟩ : ∃ c0 c1, cs = #[c0, c1] := by
    obtain ⟨l⟩ := cs
    match l, hsz with
    | [c0, c1], _ => exact ⟨c0, c1, rfl⟩
  match xs, hxl with
  | [y0, y1], _ =>
    have h0 := hx 0 (by omega)
    have h1 := hx 1 (by omega)
    rw [ce] at h0 h1
    simp [Value.cells] at h0 h1
    obtain ⟨z0, e0, _, _⟩ := DataW.trod_int hti h0
    obtain ⟨z1, e1, _, _⟩ := DataW.trod_int hti h1
    simp at e0 e1
    subst e0 e1
    exact ⟨z0, z1, rfl⟩
end Go.Proofs.Ytgflbidagdcfmaa

namespace Go.Proofs.Ytgflbidagdcfmaa
open Go.ChangeShapes Go.WideShapes Go.ChangeAt Go.RowKit

theorem open_u8s {H : Type} {enc : TypeId × Value → H} {P : Program} {t ti : TypeId} (ht : P.underlying t = some (.array 2 ti)) (hti : P.underlying ti = some (.int .u8)) (ce : P.cellsOf ti = 1) (ct : P.cellsOf t = 2)
    {W : World} {v : Value} {d : DataW H} {p : List MemPlace} {r : Reach} {b0 base : Nat} {sp : Nat → Bool} {held : Bool} (ho : Value.okWide P W r b0 t v) (h : DataW.Trod enc P W base sp held t v d p) :
    ∃ x y : Int, v = .agg #[.int .u8 x, .int .u8 y] ∧ (0 ≤ x ∧ x ≤ 255) ∧ (0 ≤ y ∧ y ≤ 255) := by
  simp only [Value.okWide, ht] at ho
  obtain ⟨cs, rfl, hsz, _⟩ := ho
  obtain ⟨fuel, hf⟩ := h
  obtain ⟨xs, m, _, _, hl, hxl, hx⟩ := DataW.trod_array ht hf
  rw [ct] at hsz
  obtain ⟨c0, c1, rfl⟩ : ∃ c0 c1, cs = #[c0, c1] := by
    obtain ⟨l⟩ := cs
    match l, hsz with
    | [c0, c1], _ => exact ⟨c0, c1, rfl⟩
  match xs, hxl with
  | [y0, y1], _ =>
    have h0 := hx 0 (by omega)
    have h1 := hx 1 (by omega)
    rw [ce] at h0 h1
    simp [Value.cells] at h0 h1
    obtain ⟨z0, e0, _, w0⟩ := DataW.trod_int hti h0
    obtain ⟨z1, e1, _, w1⟩ := DataW.trod_int hti h1
    simp at e0 e1
    subst e0 e1
    exact ⟨z0, z1, rfl, by simpa [Lit.wf, IntKind.min, IntKind.max, IntKind.signed, IntKind.bits] using w0, by simpa [Lit.wf, IntKind.min, IntKind.max, IntKind.signed, IntKind.bits] using w1⟩
theorem open_vec2 {H : Type} {enc : TypeId × Value → H} {P : Program} {t tv ti : TypeId} {f0 f1 : Field} (ht : P.underlying t = some (.array 2 tv)) (hs : P.underlying tv = some (.struct #[f0, f1])) (h0t : f0.type = ti) (h1t : f1.type = ti) (h0o : f0.offset = 0) (h1o : f1.offset = 1)
    (hti : P.underlying ti = some (.int .i64)) (ci : P.cellsOf ti = 1) (cv : P.cellsOf tv = 2) (ct : P.cellsOf t = 4)
    {W : World} {v : Value} {d : DataW H} {p : List MemPlace} {r : Reach} {b0 base : Nat} {sp : Nat → Bool} {held : Bool} (ho : Value.okWide P W r b0 t v) (h : DataW.Trod enc P W base sp held t v d p) :
    ∃ x y z u : Int, v = .agg #[.int .i64 x, .int .i64 y, .int .i64 z, .int .i64 u] := by
  simp only [Value.okWide, ht] at ho
  obtain ⟨cs, rfl, hsz, _⟩ := ho
  obtain ⟨fuel, hf⟩ := h
  obtain ⟨xs, m, _, _, hl, hxl, hx⟩ := DataW.trod_array ht hf
  rw [ct] at hsz
  obtain ⟨c0, c1, c2, c3, rfl⟩ : ∃ c0 c1 c2 c3, cs = #[c0, c1, c2, c3] := by
    obtain ⟨l⟩ := cs
    match l, hsz with
    | [c0, c1, c2, c3], _ => exact ⟨c0, c1, c2, c3, rfl⟩
  match xs, hxl with
  | [y0, y1], _ =>
    have h0 := hx 0 (by omega)
    have h1 := hx 1 (by omega)
    rw [cv] at h0 h1
    simp [Value.cells] at h0 h1
    obtain ⟨a0, a1, n0, _, _, g0, g1⟩ := trod_struct2 hs h0
    obtain ⟨a2, a3, n1, _, _, g2, g3⟩ := trod_struct2 hs h1
    rw [h0t, h0o, ci] at g0 g2
    rw [h1t, h1o, ci] at g1 g3
    simp at g0 g1 g2 g3
    obtain ⟨z0, e0, _, _⟩ := DataW.trod_int hti g0
    obtain ⟨z1, e1, _, _⟩ := DataW.trod_int hti g1
    obtain ⟨z2, e2, _, _⟩ := DataW.trod_int hti g2
    obtain ⟨z3, e3, _, _⟩ := DataW.trod_int hti g3
    simp at e0 e1 e2 e3
    subst e0 e1 e2 e3
    exact ⟨z0, z1, z2, z3, rfl⟩
end Go.Proofs.Ytgflbidagdcfmaa

namespace Go.Proofs.Ytgflbidagdcfmaa
open Go.ChangeShapes Go.WideShapes Go.ChangeAt Go.RowKit
attribute [local irreducible] Go.Calls

theorem sliS_alloc {w : World} {v : Value} {l : List Sg} (h : SliS w v l) (o : Obj) : SliS (w.alloc o) v l := h.past ((Below.refl _ _).alloc (Nat.le_refl _) _)
/-- A new block of runs. -/
theorem sliS_new {w : World} {p n : Nat} {cs : Array Value} {l : List Sg} {t : TypeId} (h : Blk w p cs t) (hc : cs = (cellsOfS l).toArray) (hn : n = l.length) (h2 : n ≤ 1000000) : SliS w (.slice (some ⟨p, 0, none⟩) n n) l := by
  subst hc; subst hn
  exact ⟨some ⟨p, 0, none⟩, l.length, rfl, Nat.le_refl _, by omega, argS_blk h⟩
theorem SliS.len {w : World} {a : Option Addr} {n cap : Nat} {l : List Sg} (h : SliS w (.slice a n cap) l) : n = l.length ∧ l.length ≤ cap ∧ cap ≤ 9223372036854775807 ∧ ArgS w a l := by
  obtain ⟨a', c', e, h1, h2, h3⟩ := h
  cases e
  exact ⟨rfl, h1, h2, h3⟩
/-- What a call hands back, taken apart. -/
def OfSl (w : World) (n : Nat) (F : List Sg) (er : Int) (e : Ending) (w' : World) : Prop := ∃ (a : Option Addr) (cap : Nat), e = .returned (.tuple #[.slice a n cap, .int .i64 er]) ∧ SliS w' (.slice a n cap) F ∧ Below w.heap.size w w'
theorem Calls.ofSl {P : Program} {f : FuncId} {args : Array Value} {w : World} {F : List Sg} {er : Int} {n : Nat} (h : Calls P f args w (OfIs w F er)) (hn : F.length = n) : Calls P f args w (OfSl w n F er) := h.mono fun _ _ h => by
  subst hn
  obtain ⟨v, h1, hs, h3⟩ := h
  obtain ⟨a, cap, rfl, q1, q2, q3⟩ := hs
  exact ⟨a, cap, h1, ⟨a, cap, rfl, q1, q2, q3⟩, h3⟩
end Go.Proofs.Ytgflbidagdcfmaa

namespace Go.Proofs.Ytgflbidagdcfmaa
open Go.ChangeShapes Go.WideShapes Go.ChangeAt Go.RowKit
section
variable {H : Type} {enc : TypeId × Value → H} {P : Program}
theorem trod_slis {ts e tv ti : TypeId} {f0 f1 g0 g1 : Field} {W : World} {cs : List Value} {x : DataW H × List MemPlace} {fuel : Nat} (hs : P.underlying ts = some (.slice e)) (he : P.underlying e = some (.struct #[f0, f1]))
    (ce : P.cellsOf e = 3) (o0 : f0.offset = 0) (o1 : f1.offset = 1) (t0 : f0.type = ti) (t1 : f1.type = tv) (ci : P.cellsOf ti = 1) (cv : P.cellsOf tv = 2) (hi : P.underlying ti = some (.int .i64))
    (hv : P.underlying tv = some (.struct #[g0, g1])) (p0 : g0.offset = 0) (p1 : g1.offset = 1) (u0 : g0.type = ti) (u1 : g1.type = ti)
    (hf : DataW.trod enc P W 0 (fun _ => true) true fuel ts cs = some x) :
    ∃ (l : List Sg) (a : Option Addr) (cap : Nat), cs = [.slice a l.length cap] ∧ l.length ≤ 9223372036854775807 ∧ SliS W (.slice a l.length cap) l ∧ ∀ x ∈ l, S64 x := by
  rcases Deep.open_slice hs hf with ⟨hcs, _⟩ | ⟨a', len, cap, m, n, D, Pl, hcs, _, hlc, hcm, hm, _, hx⟩
  · subst hcs
    exact ⟨[], none, 0, rfl, by simp, sliS_nil _, fun x hx => by simp at hx⟩
  · subst hcs
    have hlen : len ≤ m := by rw [hm]; simpa using hlc
    have each : ∀ i, i < len → ∃ s : Sg, (W.cell? (a'.add (i * 3)) = some (.int .i64 s.1) ∧ W.cell? ((a'.add (i * 3)).add 1) = some (.int .i64 s.2.1) ∧ W.cell? ((a'.add (i * 3)).add 2) = some (.int .i64 s.2.2)) ∧ S64 s := fun i hi' => by
      obtain ⟨cs', hc, ht⟩ := hx i (by omega)
      rw [ce] at hc
      obtain ⟨_, hcl, hat⟩ := World.cells?_some hc
      obtain ⟨ys, n', _, _, hl1, hyl, hfs⟩ := DataW.trod_struct he ht
      have h0 := hfs 0 f0 rfl
      have h1 := hfs 1 f1 rfl
      rw [o0, t0, ci] at h0
      rw [o1, t1, cv] at h1
      match cs', hcl with
      | [c0, c1, c2], _ =>
        match ys, hyl with
        | [y0, y1], _ =>
          simp at h0 h1
          obtain ⟨z0, e0, _, w0⟩ := DataW.trod_int hi h0
          obtain ⟨zs, n2, _, _, hl2, hzl, hgs⟩ := DataW.trod_struct hv h1
          have k0 := hgs 0 g0 rfl
          have k1 := hgs 1 g1 rfl
          rw [p0, u0, ci] at k0
          rw [p1, u1, ci] at k1
          match zs, hzl with
          | [q0, q1], _ =>
            simp at k0 k1
            obtain ⟨z1, e1, _, w1⟩ := DataW.trod_int hi k0
            obtain ⟨z2, e2, _, w2⟩ := DataW.trod_int hi k1
            simp at e0 e1 e2
            subst e0 e1 e2
            have a0 := hat 0 (by omega)
            have a1 := hat 1 (by omega)
            have a2 := hat 2 (by omega)
            simp at a1 a2
            refine ⟨(z0, z1, z2), ⟨?_, a1, a2⟩, wf64 w0, wf64 w1, wf64 w2⟩
            have ea : (a'.add (i * 3)).add 0 = a'.add (i * 3) := by simp [Addr.add]
            rw [ea] at a0
            simpa using a0
    obtain ⟨F, hF⟩ := Deep.choose_lt each
    refine ⟨(List.range len).map F, some a', cap, by simp, by simp; unfold maxLen at hcm; omega, ⟨some a', cap, rfl, by simp; omega, by unfold maxLen at hcm; omega, fun hl => ?_⟩, fun x hx => ?_⟩
    · simp at hl
      have hc00 := (hF 0 hl).1.1
      obtain ⟨b, off, spot⟩ := a'
      have hsp : spot = none := by
        cases spot with
        | none => rfl
        | some s => simp [Addr.add, World.cell?] at hc00; split at hc00 <;> simp at hc00
      subst hsp
      have hb : b < W.heap.size := by
        apply Nat.lt_of_not_le
        intro hge
        simp [Addr.add, World.cell?, Array.getElem?_eq_none hge] at hc00
      refine ⟨b, off, rfl, hb, fun i hi => ?_⟩
      have hi' : i < len := by simpa using hi
      have hg : ((List.range len).map F).getD i (0, 0, 0) = F i := by simp [List.getD_eq_getElem?_getD, hi']
      obtain ⟨⟨h1, h2, h3⟩, _⟩ := hF i hi'
      have ad : ∀ x y : Nat, (⟨b, x, none⟩ : Addr).add y = ⟨b, x + y, none⟩ := fun x y => by
        unfold Addr.add
        by_cases c : y = 0
        · subst c; simp
        · simp [c]
      rw [ad] at h1 h2 h3
      rw [ad] at h2 h3
      rw [hg]
      exact ⟨h1, h2, h3⟩
    · rw [List.mem_map] at hx
      obtain ⟨i, hi, rfl⟩ := hx
      exact (hF i (by simpa using hi)).2
end
end Go.Proofs.Ytgflbidagdcfmaa

namespace Go.Proofs.Ytgflbidagdcfmaa
open Go.ChangeShapes Go.WideShapes Go.ChangeAt Go.RowKit
section
variable {H : Type} {enc : TypeId × Value → H} {P : Program}
/-- A window, legs, two small numbers. -/
theorem open_srow {t tw ts e ta tv ti tu : TypeId} {f0 f1 f2 w0 w1 e0 e1 g0 g1 : Field} {W : World} {v : Value} {d : DataW H} {p : List MemPlace} (ht : P.underlying t = some (.struct #[f0, f1, f2])) (ct : P.cellsOf t = 5)
    (o0 : f0.offset = 0) (o1 : f1.offset = 2) (o2 : f2.offset = 3) (t0 : f0.type = tw) (t1 : f1.type = ts) (t2 : f2.type = ta) (cw : P.cellsOf tw = 2) (cts : P.cellsOf ts = 1) (ca : P.cellsOf ta = 2)
    (hw : P.underlying tw = some (.struct #[w0, w1])) (q0 : w0.offset = 0) (q1 : w1.offset = 1) (r0 : w0.type = ti) (r1 : w1.type = ti)
    (hs : P.underlying ts = some (.slice e)) (he : P.underlying e = some (.struct #[e0, e1])) (ce : P.cellsOf e = 3) (eo0 : e0.offset = 0) (eo1 : e1.offset = 1) (et0 : e0.type = ti) (et1 : e1.type = tv) (ci : P.cellsOf ti = 1) (cv : P.cellsOf tv = 2) (hi : P.underlying ti = some (.int .i64))
    (hv : P.underlying tv = some (.struct #[g0, g1])) (p0 : g0.offset = 0) (p1 : g1.offset = 1) (u0 : g0.type = ti) (u1 : g1.type = ti)
    (ha : P.underlying ta = some (.array 2 tu)) (hu : P.underlying tu = some (.int .u8)) (cu : P.cellsOf tu = 1)
    {r : Reach} {b0 : Nat} (ho : Value.okWide P W r b0 t v) (h : DataW.Trod enc P W 0 (fun _ => true) true t v d p) :
    ∃ (a b x y : Int) (l : List Sg) (o : Option Addr) (c : Nat), v = .agg #[.int .i64 a, .int .i64 b, .slice o l.length c, .int .u8 x, .int .u8 y] ∧ I64 a ∧ I64 b ∧ SliS W (.slice o l.length c) l ∧ (∀ z ∈ l, S64 z) ∧ (0 ≤ x ∧ x ≤ 255) ∧ (0 ≤ y ∧ y ≤ 255) := by
  simp only [Value.okWide, ht] at ho
  obtain ⟨cs, rfl, hsz, _⟩ := ho
  obtain ⟨fuel, hf⟩ := h
  rw [ct] at hsz
  obtain ⟨c0, c1, c2, c3, c4, rfl⟩ : ∃ c0 c1 c2 c3 c4, cs = #[c0, c1, c2, c3, c4] := by
    obtain ⟨l⟩ := cs
    match l, hsz with
    | [c0, c1, c2, c3, c4], _ => exact ⟨c0, c1, c2, c3, c4, rfl⟩
  obtain ⟨ys, n', _, _, hl1, hyl, hfs⟩ := DataW.trod_struct ht hf
  have h0 := hfs 0 f0 rfl
  have h1 := hfs 1 f1 rfl
  have h2 := hfs 2 f2 rfl
  rw [o0, t0, cw] at h0
  rw [o1, t1, cts] at h1
  rw [o2, t2, ca] at h2
  match ys, hyl with
  | [y0, y1, y2], _ =>
    simp [Value.cells] at h0 h1 h2
    obtain ⟨zs, n2, _, _, hl2, hzl, hgs⟩ := DataW.trod_struct hw h0
    have k0 := hgs 0 w0 rfl
    have k1 := hgs 1 w1 rfl
    rw [q0, r0, ci] at k0
    rw [q1, r1, ci] at k1
    obtain ⟨F, o, n, s0, _, S0, S1⟩ := trod_slis hs he ce eo0 eo1 et0 et1 ci cv hi hv p0 p1 u0 u1 h1
    obtain ⟨xs, m, _, _, hl, hxl, hx⟩ := DataW.trod_array ha h2
    have x0 := hx 0 (by omega)
    have x1 := hx 1 (by omega)
    rw [cu] at x0 x1
    match zs, hzl, xs, hxl with
    | [za, zb], _, [xa, xb], _ =>
      simp at k0 k1 x0 x1
      obtain ⟨a, ea, _, wa⟩ := DataW.trod_int hi k0
      obtain ⟨b, eb, _, wb⟩ := DataW.trod_int hi k1
      obtain ⟨x, ex, _, wx⟩ := DataW.trod_int hu x0
      obtain ⟨y, ey, _, wy⟩ := DataW.trod_int hu x1
      simp at ea eb ex ey s0
      subst ea eb ex ey s0
      exact ⟨a, b, x, y, F, o, n, rfl, wf64 wa, wf64 wb, S0, S1, by simpa [Lit.wf, IntKind.min, IntKind.max, IntKind.signed, IntKind.bits] using wx, by simpa [Lit.wf, IntKind.min, IntKind.max, IntKind.signed, IntKind.bits] using wy⟩
end
theorem cellsLeg : Try.prog.cellsOf 38 = 3 := by kernel_rfl
theorem cellsWin : Try.prog.cellsOf 24 = 2 := by kernel_rfl
set_option maxRecDepth 100000 in
theorem open_legsP {H : Type} {enc : TypeId × Value → H} {W : World} {v : Value} {d : DataW H} {p : List MemPlace} {r : Reach} {b0 : Nat} (ho : Value.okWide Try.prog W r b0 25 v) (h : DataW.Trod enc Try.prog W 0 (fun _ => true) true 25 v d p) :
    ∃ (l : List Sg) (a : Option Addr) (cap : Nat), v = .slice a l.length cap ∧ l.length ≤ 9223372036854775807 ∧ SliS W (.slice a l.length cap) l ∧ ∀ x ∈ l, S64 x :=
  open_slis (P := Try.prog) Try.underlying25 Try.underlying38 cellsLeg rfl rfl rfl rfl cellsI64 cellsV Try.underlying2 Try.underlying36 rfl rfl rfl rfl ho h
set_option maxRecDepth 100000 in
theorem open_winP {H : Type} {enc : TypeId × Value → H} {W : World} {v : Value} {d : DataW H} {p : List MemPlace} {r : Reach} {b0 : Nat} (ho : Value.okWide Try.prog W r b0 24 v) (h : DataW.Trod enc Try.prog W 0 (fun _ => true) true 24 v d p) :
    ∃ m c : Int, v = .agg #[.int .i64 m, .int .i64 c] ∧ (-9223372036854775808 ≤ m ∧ m ≤ 9223372036854775807) ∧ (-9223372036854775808 ≤ c ∧ c ≤ 9223372036854775807) :=
  open_vec Try.underlying24 rfl rfl Try.underlying2 (by kernel_rfl) cellsWin ho h
set_option maxRecDepth 100000 in
theorem open_srowP {H : Type} {enc : TypeId × Value → H} {W : World} {v : Value} {d : DataW H} {p : List MemPlace} {r : Reach} {b0 : Nat} (ho : Value.okWide Try.prog W r b0 28 v) (h : DataW.Trod enc Try.prog W 0 (fun _ => true) true 28 v d p) :
    ∃ (a b x y : Int) (l : List Sg) (o : Option Addr) (c : Nat), v = .agg #[.int .i64 a, .int .i64 b, .slice o l.length c, .int .u8 x, .int .u8 y] ∧ I64 a ∧ I64 b ∧ SliS W (.slice o l.length c) l ∧ (∀ z ∈ l, S64 z) ∧ (0 ≤ x ∧ x ≤ 255) ∧ (0 ≤ y ∧ y ≤ 255) :=
  open_srow (P := Try.prog) Try.underlying28 (by kernel_rfl) rfl rfl rfl rfl rfl rfl cellsWin (by kernel_rfl) (by kernel_rfl) Try.underlying24 rfl rfl rfl rfl Try.underlying25 Try.underlying38 cellsLeg rfl rfl rfl rfl cellsI64 cellsV Try.underlying2 Try.underlying36 rfl rfl rfl rfl Try.underlying26 Try.underlying5 (by kernel_rfl) ho h
end Go.Proofs.Ytgflbidagdcfmaa

namespace Go.Proofs.Ytgflbidagdcfmaa
open Go.ChangeShapes Go.WideShapes Go.ChangeAt Go.RowKit
attribute [local irreducible] Go.Calls

/-- The vectors that a slice's cells hold. -/
def VCells (w : World) (b off : Nat) (l : List (Int × Int)) : Prop :=
  ∀ i, i < l.length → w.cell? ⟨b, off + i * 2, none⟩ = some (.int .i64 (l.getD i (0, 0)).1) ∧ w.cell? ⟨b, off + i * 2 + 1, none⟩ = some (.int .i64 (l.getD i (0, 0)).2)
def ArgVs (w : World) (a : Option Addr) (l : List (Int × Int)) : Prop := 0 < l.length → ∃ b off, a = some ⟨b, off, none⟩ ∧ b < w.heap.size ∧ VCells w b off l
theorem VCells.below {w w' : World} {b off B : Nat} {l : List (Int × Int)} (h : VCells w b off l) (hb : Below B w w') (hB : b < B) : VCells w' b off l := fun i hi => by
  obtain ⟨h1, h2⟩ := h i hi
  exact ⟨(hb.cell (p := ⟨b, _, none⟩) hB).trans h1, (hb.cell (p := ⟨b, _, none⟩) hB).trans h2⟩
theorem ArgVs.past {w w' : World} {a : Option Addr} {l : List (Int × Int)} (h : ArgVs w a l) (hb : Below w.heap.size w w') : ArgVs w' a l := fun hl => by
  obtain ⟨b, off, e, h1, h2⟩ := h hl
  exact ⟨b, off, e, Nat.lt_of_lt_of_le h1 hb.size, h2.below hb h1⟩
/-- A slice value that reads as the list of vectors. -/
def SliVs (w : World) (v : Value) (l : List (Int × Int)) : Prop := ∃ (a : Option Addr) (cap : Nat), v = .slice a l.length cap ∧ l.length ≤ cap ∧ cap ≤ 9223372036854775807 ∧ ArgVs w a l
theorem SliVs.past {w w' : World} {v : Value} {l : List (Int × Int)} (h : SliVs w v l) (hb : Below w.heap.size w w') : SliVs w' v l := by
  obtain ⟨a, cap, h1, h2, h3, h4⟩ := h
  exact ⟨a, cap, h1, h2, h3, h4.past hb⟩
/-- What a call hands back, where the answer is known: a slice of vectors, and an error. -/
def VsIs (w : World) (L : List (Int × Int)) (er : Int) (e : Ending) (w' : World) : Prop := ∃ (a : Option Addr) (cap : Nat), e = .returned (.tuple #[.slice a L.length cap, .int .i64 er]) ∧ SliVs w' (.slice a L.length cap) L ∧ Below w.heap.size w w'
theorem sliVs_len {w : World} {a : Option Addr} {n cap : Nat} {l : List (Int × Int)} (h : SliVs w (.slice a n cap) l) : n = l.length ∧ l.length ≤ cap ∧ cap ≤ 9223372036854775807 ∧ ArgVs w a l := by
  obtain ⟨a', c', e, h1, h2, h3⟩ := h
  cases e
  exact ⟨rfl, h1, h2, h3⟩
end Go.Proofs.Ytgflbidagdcfmaa

namespace Go.Proofs.Ytgflbidagdcfmaa
open Go.ChangeShapes Go.WideShapes Go.ChangeAt Go.RowKit
attribute [local irreducible] Go.Calls

/-- The cells of a list of vectors. -/
def cellsOfV : List (Int × Int) → List Value
  | [] => []
  | s :: r => .int .i64 s.1 :: .int .i64 s.2 :: cellsOfV r
theorem cellsOfV_len : ∀ l, (cellsOfV l).length = l.length * 2
  | [] => rfl
  | s :: r => by simp only [cellsOfV, List.length_cons, cellsOfV_len r]; omega
theorem cellsOfV_app : ∀ l r, cellsOfV (l ++ r) = cellsOfV l ++ cellsOfV r
  | [], _ => rfl
  | s :: l, r => by simp only [cellsOfV, List.cons_append, cellsOfV_app l r]
theorem cellsOfV_get : ∀ (l : List (Int × Int)) (i : Nat), i < l.length → (cellsOfV l)[i * 2]? = some (.int .i64 (l.getD i (0, 0)).1) ∧ (cellsOfV l)[i * 2 + 1]? = some (.int .i64 (l.getD i (0, 0)).2)
  | [], i, h => by simp at h
  | s :: l, 0, _ => ⟨rfl, rfl⟩
  | s :: l, i + 1, h => by
    obtain ⟨h1, h2⟩ := cellsOfV_get l i (by simp at h; omega)
    have e : ∀ j, (cellsOfV (s :: l))[(i + 1) * 2 + j]? = (cellsOfV l)[i * 2 + j]? := fun j => by
      simp only [cellsOfV]
      rw [show (i + 1) * 2 + j = i * 2 + j + 1 + 1 by omega]
      simp only [List.getElem?_cons_succ]
    exact ⟨(e 0).trans h1, (e 1).trans h2⟩
/-- What a call has appended to reads as a slice of vectors. -/
theorem sliVs_own {w : World} {base : Nat} {e : TypeId} {v : Value} {l : List (Int × Int)} (h : w.ownsRow base e 2 v l.length (cellsOfV l)) : SliVs w v l := by
  obtain ⟨h1, h2 | ⟨g, cap, cur, rfl, h3, h4, h5, h6, h7, h8⟩⟩ := h
  · obtain ⟨rfl, h2⟩ := h2
    have : l = [] := List.eq_nil_of_length_eq_zero h2
    subst this
    exact ⟨none, 0, rfl, Nat.le_refl _, by omega, fun h => by simp at h⟩
  · refine ⟨some ⟨g, 0, none⟩, cap, rfl, h5, by unfold maxLen at h6; omega, fun _ => ⟨g, 0, rfl, lt_of_block h4, fun i hi => ?_⟩⟩
    have hg := cellsOfV_get l i hi
    have hc : ∀ j x, j < l.length * 2 → (cellsOfV l)[j]? = some x → w.cell? ⟨g, j, none⟩ = some x := fun j x hj hx => by
      have e : w.cell? ⟨g, j, none⟩ = cur[j]? := by simp [World.cell?, h4]
      rw [e, ← Array.getElem?_toList]
      rw [← h8, List.getElem?_take, if_pos hj] at hx
      exact hx
    simp only [Nat.zero_add]
    exact ⟨hc _ _ (by omega) hg.1, hc _ _ (by omega) hg.2⟩
end Go.Proofs.Ytgflbidagdcfmaa

namespace Go.Proofs.Ytgflbidagdcfmaa
open Go.ChangeShapes Go.WideShapes Go.ChangeAt Go.RowKit

theorem lec (x y : Int) (w : World) : Calls Try.prog 74 #[.int .i64 x, .int .i64 y] w fun e w' => e = .returned (.bool (decide (x ≤ y))) ∧ w' = w := by
  go_enter Try.func74, Try.ntmps74
  go_wp2
  go_ret
  exact ⟨rfl, rfl⟩

theorem bothLE (a b c d : Int) (w : World) : Calls Try.prog 73 #[V a b, V c d, .func (.func 74) #[] #[]] w fun e w' => e = .returned (.tuple #[.bool (decide (a ≤ c)), .bool (decide (b ≤ d))]) ∧ Below w.heap.size w w' := by
  go_enter Try.func73, Try.ntmps73
  go_wp2
  go_quiet ((go_at_call 74; exact Calls.quiet_of_same (lec _ _ _)))
  go_wp2
  go_ret2
  exact ⟨rfl, below_drewN (((Below.refl _ _).alloc (Nat.le_refl _) _).alloc (by simp) _) _⟩

theorem le (a b c d : Int) (w : World) : Calls Try.prog 51 #[V a b, V c d] w fun e w' => e = .returned (.bool (leB a b c d)) ∧ Below w.heap.size w w' := by
  go_enter Try.func51, Try.ntmps51
  go_wp2_with (go_at_call 73; refine (bothLE _ _ _ _ _).mono ?_; rintro e w' ⟨rfl, hb⟩)
  all_goals
    go_ret
    refine ⟨ret_bool ?_, (((Below.refl _ _).alloc (Nat.le_refl _) _).alloc (by simp) _).trans (hb.mono (by simp; omega))⟩
  · simp [leB]; omega
  · simp [leB]; omega
theorem le_eq {a b c d : Int} {r : Bool} {w : World} (h : leB a b c d = r) : Calls Try.prog 51 #[V a b, V c d] w fun e w' => e = .returned (.bool r) ∧ Below w.heap.size w w' := h ▸ le a b c d w

theorem of_ (m n : Int) (w : World) : Calls Try.prog 99 #[.int .i64 m, .int .i64 n] w fun e w' => e = .returned (V m n) ∧ Below w.heap.size w w' := by
  go_enter Try.func99, Try.ntmps99
  go_wp2
  exact bodyPost_ret (v := V m n) (by simp [results, Try.results99, go_sem]) rfl ⟨rfl, (Below.refl _ _).alloc (by simp) _⟩

theorem alike (n : Int) (w : World) : Calls Try.prog 88 #[.int .i64 n] w fun e w' => e = .returned (V n n) ∧ Below w.heap.size w w' := by
  go_enter Try.func88, Try.ntmps88
  go_wp2_with (go_at_call 99; refine (of_ _ _ _).mono ?_; rintro e w' ⟨rfl, hb⟩; obtain ⟨hc, hf⟩ := bcell hb; have hz := bsz hb w.heap.size (by simp))
  refine bodyPost_ret (v := V n n) (by simp [results, Try.results88, go_sem, hc]) rfl ⟨rfl, ?_⟩
  exact ((((Below.refl _ _).alloc (Nat.le_refl _) _).trans (hb.mono (by simp))).setCell (Nat.le_refl _) _).setCell (Nat.le_refl _) _

theorem may (a b : Int) (w : World) : Calls Try.prog 67 #[V a b] w fun e w' => e = .returned (.bool (okV a b)) ∧ Below w.heap.size w w' := by
  rw [← okV_parts]
  cases h1 : leB (-1125899906842624) (-1125899906842624) a b
  all_goals
    go_enter Try.func67, Try.ntmps67
    go_wp2
    refine wp_region_past_lit (by kernel_rfl) (by kernel_rfl) ?_
    have hc := Past.cell (W := w.alloc (Obj.cells #[Value.int IntKind.i64 a, Value.int IntKind.i64 b] 36))
    repeat (go_big_quiet_step ((first | (go_at_call 88; exact Past.call _ (alike _ _)) | (go_at_call 51; exact Past.call _ (le_eq h1)) | (go_at_call 51; exact Past.call _ (le _ _ _ _ _)))))
    refine wpQuiet_nil ?_
    rintro _ ⟨x, rfl⟩
    go_wp2
    go_ret
    exact ⟨rfl, ((Below.refl _ _).alloc (Nat.le_refl _) _).trans (x.2.mono (by simp))⟩
theorem may_eq {a b : Int} {r : Bool} {w : World} (h : okV a b = r) : Calls Try.prog 67 #[V a b] w fun e w' => e = .returned (.bool r) ∧ Below w.heap.size w w' := h ▸ may a b w
end Go.Proofs.Ytgflbidagdcfmaa

namespace Go.Proofs.Ytgflbidagdcfmaa
open Go.ChangeShapes Go.WideShapes Go.ChangeAt Go.RowKit

/-- The row's cells. -/
def rowC (n : Nat) (d : Nat → Nat) : Array Value := ((List.range n).map fun i => Value.int .i64 (d i)).toArray
theorem rowC_get {n : Nat} {d : Nat → Nat} {i : Nat} (h : i < n) : (rowC n d)[i]? = some (.int .i64 (d i)) := by
  simp [rowC, List.getElem?_range h]
theorem rowC_size (n : Nat) (d : Nat → Nat) : (rowC n d).size = n := by simp [rowC]
theorem rowC_ext {n : Nat} {d d' : Nat → Nat} (h : ∀ i, i < n → d i = d' i) : rowC n d = rowC n d' := by
  unfold rowC
  congr 1
  exact List.map_congr_left fun i hi => by rw [h i (by simpa using hi)]
theorem rowC_set {n : Nat} {d : Nat → Nat} {i : Nat} (v : Nat) : (rowC n d).setIfInBounds i (.int .i64 v) = rowC n (fun k => if k = i then v else d k) := by
  apply Array.ext_getElem?
  intro k
  rw [Array.getElem?_setIfInBounds, rowC_size]
  by_cases c : i = k
  · subst c
    rw [if_pos rfl]
    by_cases h : i < n
    · rw [if_pos h, rowC_get h, if_pos rfl]
    · rw [if_neg h, Array.getElem?_eq_none (by rw [rowC_size]; omega)]
  · rw [if_neg c]
    by_cases h : k < n
    · rw [rowC_get h, rowC_get h, if_neg (by omega)]
    · rw [Array.getElem?_eq_none (by rw [rowC_size]; omega), Array.getElem?_eq_none (by rw [rowC_size]; omega)]
theorem rowC_swap {n : Nat} {d : Nat → Nat} {i j : Nat} : ((rowC n d).setIfInBounds i (.int .i64 (d j))).setIfInBounds j (.int .i64 (d i)) = rowC n (sw d i j) := by
  rw [rowC_set, rowC_set]
  refine rowC_ext fun k _ => ?_
  unfold sw
  by_cases c1 : k = j
  · by_cases c2 : k = i
    · rw [if_pos c1, if_pos c2, ← c1, ← c2]
    · rw [if_pos c1, if_neg c2, if_pos c1]
  · rw [if_neg c1, if_neg c1]

/-- A world of the sort's: the row holds d; what lies below it is as it was. -/
structure RowW (w0 : World) (blk n : Nat) (t : TypeId) (d : Nat → Nat) (w : World) : Prop where
  here : Blk w blk (rowC n d) t
  low : Below blk w0 w
variable {w0 w w' : World} {blk n : Nat} {t : TypeId} {d : Nat → Nat}
theorem RowW.lt (h : RowW w0 blk n t d w) : blk < w.heap.size := h.here.lt
theorem RowW.cell (h : RowW w0 blk n t d w) {i : Nat} (hi : i < n) : w.cell? ⟨blk, i, none⟩ = some (.int .i64 (d i)) := (h.here.cell i).trans (rowC_get hi)
theorem RowW.free (h : RowW w0 blk n t d w) (i : Nat) : w.frozen? ⟨blk, i, none⟩ = false := h.here.free i
theorem RowW.past (h : RowW w0 blk n t d w) (hb : Below w.heap.size w w') : RowW w0 blk n t d w' := ⟨h.here.past hb, h.low.trans (hb.mono (Nat.le_of_lt h.lt))⟩
theorem RowW.set (h : RowW w0 blk n t d w) (i v : Nat) : RowW w0 blk n t (fun k => if k = i then v else d k) (w.setCell ⟨blk, i, none⟩ (.int .i64 v)) :=
  ⟨by rw [← rowC_set]; exact h.here.set i _, h.low.setCell (Nat.le_refl _) _⟩
theorem RowW.swap (h : RowW w0 blk n t d w) (i j : Nat) : RowW w0 blk n t (sw d i j) ((w.setCell ⟨blk, i, none⟩ (.int .i64 (d j))).setCell ⟨blk, j, none⟩ (.int .i64 (d i))) :=
  ⟨by rw [← rowC_swap]; exact (h.here.set i _).set j _, (h.low.setCell (Nat.le_refl _) _).setCell (Nat.le_refl _) _⟩
theorem RowW.drew (h : RowW w0 blk n t d w) : RowW w0 blk n t d w.drew := ⟨h.here.drew 1, h.low.drew⟩
theorem RowW.ext (h : RowW w0 blk n t d w) {d' : Nat → Nat} (e : d = d') : RowW w0 blk n t d' w := e ▸ h
/-- Behind the first store the second place still reads. -/
theorem RowW.c2 (h : RowW w0 blk n t d w) (i j : Nat) (hj : j < n) (v : Nat) : (w.setCell ⟨blk, i, none⟩ (.int .i64 v)).cell? ⟨blk, j, none⟩ = some (.int .i64 ((if j = i then v else d j : Nat))) :=
  (h.set i v).cell hj
end Go.Proofs.Ytgflbidagdcfmaa

namespace Go.Proofs.Ytgflbidagdcfmaa
open Go.ChangeShapes Go.WideShapes Go.ChangeAt Go.RowKit
attribute [local irreducible] Go.Calls

/-- Less, alike, more: -1, 0, 1. -/
def cmpI (a b : Int) : Int := if a < b then -1 else if b < a then 1 else 0
theorem cmpI_lt {a b : Int} (h : a < b) : cmpI a b = -1 := by unfold cmpI; rw [if_pos h]
theorem cmpI_neg {a b : Int} : decide (cmpI a b < 0) = decide (a < b) := by unfold cmpI; split <;> simp_all; split <;> simp_all

theorem isNaN_c (x : Int) (w : World) : Calls Try.prog 55 #[.int .i64 x] w fun e w' => e = .returned (.bool false) ∧ w' = w := by
  go_enter Try.func55, Try.ntmps55
  go_wp2
  go_ret
  exact ⟨rfl, rfl⟩

theorem compare64 (a b : Int) (w : World) : Calls Try.prog 33 #[.int .i64 a, .int .i64 b] w fun e w' => e = .returned (.int .i64 (cmpI a b)) ∧ w' = w := by
  rcases Int.lt_trichotomy a b with c | c | c
  · have hv : cmpI a b = -1 := cmpI_lt c
    have HV := hidE hv; clear hv
    go_enter Try.func33, Try.ntmps33
    go_wp2_with (go_at_call 55; ((with_reducible refine (isNaN_c _ _).mono ?_); rintro e w' ⟨rfl, rfl⟩))
    go_ret
    exact ⟨ret_int HV.out.symm, rfl⟩
  · have hv : cmpI a b = 0 := by unfold cmpI; rw [if_neg (by omega), if_neg (by omega)]
    have HV := hidE hv; clear hv
    subst c
    go_enter Try.func33, Try.ntmps33
    go_wp2_with (go_at_call 55; ((with_reducible refine (isNaN_c _ _).mono ?_); rintro e w' ⟨rfl, rfl⟩))
    go_ret
    exact ⟨ret_int HV.out.symm, rfl⟩
  · have hv : cmpI a b = 1 := by unfold cmpI; rw [if_neg (by omega), if_pos (by omega)]
    have HV := hidE hv; clear hv
    have c' : ¬ a < b := by omega
    go_enter Try.func33, Try.ntmps33
    go_wp2_with (go_at_call 55; ((with_reducible refine (isNaN_c _ _).mono ?_); rintro e w' ⟨rfl, rfl⟩))
    go_ret
    exact ⟨ret_int HV.out.symm, rfl⟩

theorem byAt_c (a m c a' m' c' : Int) (w : World) : Calls Try.prog 70 #[S a m c, S a' m' c'] w fun e w' => e = .returned (.int .i64 (cmpI a a')) ∧ Below w.heap.size w w' := by
  go_enter Try.func70, Try.ntmps70
  go_wp2_with (go_at_call 33; ((with_reducible refine (compare64 _ _ _).mono ?_); rintro e w' ⟨rfl, rfl⟩))
  go_ret
  exact ⟨rfl, by (repeat (first | exact Below.refl _ _ | assumption | refine balloc ?_ _ | refine below_drewN ?_ _ | refine bstep (by assumption) ?_ | refine bstep (Past.prop _) ?_ | refine Below.setCell ?_ (by first | exact Nat.le_refl _ | (simp; done) | (simp; omega)) _))⟩

theorem cmpRuns_c (l : List Sg) (b off cap x y : Nat) (w : World) (hb0 : b < w.heap.size) (_hl : l.length ≤ 9223372036854775807) (hc0 : CellsS w b off l) (hx : x < l.length) (hy : y < l.length) :
    Calls Try.prog 102 #[.slice (some ⟨b, off, none⟩) l.length cap, .int .i64 x, .int .i64 y] w fun e w' => e = .returned (.int .i64 (cmpI (ats l x) (ats l y))) ∧ Below w.heap.size w w' := by
  obtain ⟨x0, x1, x2⟩ := hc0.get hx
  obtain ⟨y0, y1, y2⟩ := hc0.get hy
  clear hc0
  generalize ats l x = u0 at *
  generalize vls l x = u at *
  generalize ats l y = v0 at *
  generalize vls l y = v at *
  go_enter Try.func102, Try.ntmps102
  go_wp2
  refine wp_region_past_lit (by kernel_rfl) (by kernel_rfl) ?_
  have hc := Past.cell (W := w)
  repeat (go_big_quiet_step ((go_at_call 70; exact Past.call _ (byAt_c _ _ _ _ _ _ _))))
  refine wpQuiet_nil ?_
  rintro _ ⟨x', rfl⟩
  go_wp2
  go_ret
  exact ⟨rfl, x'.2⟩
end Go.Proofs.Ytgflbidagdcfmaa

namespace Go.Proofs.Ytgflbidagdcfmaa
open Go.ChangeShapes Go.WideShapes Go.ChangeAt Go.RowKit
attribute [local irreducible] Go.Calls

end Go.Proofs.Ytgflbidagdcfmaa

namespace Go.Proofs.Ytgflbidagdcfmaa
open Go.ChangeShapes Go.WideShapes Go.ChangeAt Go.RowKit
attribute [local irreducible] Go.Calls

theorem valid_c (s : Sg) (w : World) : Calls Try.prog 58 #[S s.1 s.2.1 s.2.2] w fun e w' => e = .returned (.bool (okS s)) ∧ Below w.heap.size w w' := by
  obtain ⟨x, m, c⟩ := s
  show Calls _ _ #[S x m c] _ _
  by_cases h1 : -1125899906842624 ≤ x
  · by_cases h2 : x ≤ 1125899906842624
    · have e : okS (x, m, c) = okV m c := by
        have : okT x = true := okT_iff.2 ⟨h1, h2⟩
        unfold okS; simp only [this, Bool.true_and]
      rw [e]
      have d1 : decide (-1125899906842624 ≤ x) = true := decide_eq_true h1
      have d2 : decide (x ≤ 1125899906842624) = true := decide_eq_true h2
      clear e
      go_enter Try.func58, Try.ntmps58
      go_wp2_with (go_at_call 67; ((with_reducible refine (may m c _).mono ?_); rintro e w' ⟨rfl, hb⟩; obtain ⟨hc, hf⟩ := bcell hb))
      go_ret
      exact ⟨rfl, by (repeat (first | exact Below.refl _ _ | assumption | refine balloc ?_ _ | refine below_drewN ?_ _ | refine bstep (by assumption) ?_ | refine bstep (Past.prop _) ?_ | refine Below.setCell ?_ (by first | exact Nat.le_refl _ | (simp; done) | (simp; omega)) _))⟩
    · have e : okS (x, m, c) = false := by
        have : okT x = false := decide_eq_false (by omega)
        unfold okS; simp only [this, Bool.false_and]
      rw [e]
      have d1 : decide (-1125899906842624 ≤ x) = true := decide_eq_true h1
      have d2 : decide (x ≤ 1125899906842624) = false := decide_eq_false h2
      clear e
      go_enter Try.func58, Try.ntmps58
      go_wp2
      go_ret
      exact ⟨rfl, by (repeat (first | exact Below.refl _ _ | assumption | refine balloc ?_ _ | refine below_drewN ?_ _ | refine bstep (by assumption) ?_ | refine bstep (Past.prop _) ?_ | refine Below.setCell ?_ (by first | exact Nat.le_refl _ | (simp; done) | (simp; omega)) _))⟩
  · have e : okS (x, m, c) = false := by
      have : okT x = false := decide_eq_false (by omega)
      unfold okS; simp only [this, Bool.false_and]
    rw [e]
    have d1 : decide (-1125899906842624 ≤ x) = false := decide_eq_false h1
    clear e
    go_enter Try.func58, Try.ntmps58
    go_wp2
    go_ret
    exact ⟨rfl, by (repeat (first | exact Below.refl _ _ | assumption | refine balloc ?_ _ | refine below_drewN ?_ _ | refine bstep (by assumption) ?_ | refine bstep (Past.prop _) ?_ | refine Below.setCell ?_ (by first | exact Nat.le_refl _ | (simp; done) | (simp; omega)) _))⟩

/-- The closure that remembers: the block p holds what came last. -/
def ChgPost (w : World) (p : Nat) (m0 c0 m c : Int) (e : Ending) (w' : World) : Prop :=
  e = .returned (.bool (!((m, c) == (m0, c0)))) ∧ Blk w' p #[.int .i64 m, .int .i64 c] 36 ∧ w.grownBy w' (some p)

theorem chg_c (p : Nat) (m0 c0 m c : Int) (w : World) (hB : Blk w p #[.int .i64 m0, .int .i64 c0] 36) :
    Calls Try.prog 81 #[V m c, .pointer (some ⟨p, 0, none⟩)] w (ChgPost w p m0 c0 m c) := by
  have c1 := hB.cell 0; have c2 := hB.cell 1; have f := hB.free; have z := hB.lt
  simp at c1 c2
  have hp : p ≠ w.heap.size := by omega
  by_cases e1 : m = m0
  · subst e1
    by_cases e2 : c = c0
    · subst e2
      go_enter Try.func81, Try.ntmps81
      go_wp2
      go_ret
      refine ⟨ret_bool (by simp), ?_, ?_⟩
      · simpa using ((hB.set 0 (.int .i64 m)).set 1 (.int .i64 c)).alloc _
      · exact grown_trans (grown_trans (grown_set _ _ _ _) (grown_set _ _ _ _)) (grown_alloc _ _ _)
    · have d2 : (c == c0) = false := beq_eq_false_iff_ne.2 e2
      go_enter Try.func81, Try.ntmps81
      go_wp2
      go_ret
      refine ⟨ret_bool (by simp [e2]), ?_, ?_⟩
      · simpa using ((hB.set 0 (.int .i64 m)).set 1 (.int .i64 c)).alloc _
      · exact grown_trans (grown_trans (grown_set _ _ _ _) (grown_set _ _ _ _)) (grown_alloc _ _ _)
  · have d1 : (m == m0) = false := beq_eq_false_iff_ne.2 e1
    go_enter Try.func81, Try.ntmps81
    go_wp2
    go_ret
    refine ⟨ret_bool (by simp [e1]), ?_, ?_⟩
    · simpa using ((hB.set 0 (.int .i64 m)).set 1 (.int .i64 c)).alloc _
    · exact grown_trans (grown_trans (grown_set _ _ _ _) (grown_set _ _ _ _)) (grown_alloc _ _ _)

theorem changing_c (w : World) : Calls Try.prog 57 #[] w fun e w' => e = .returned (.func (.func 81) #[] #[.pointer (some ⟨w.heap.size, 0, none⟩)]) ∧ w' = w.alloc (.cells #[.int .i64 0, .int .i64 0] 36) := by
  go_enter Try.func57, Try.ntmps57
  go_wp2
  go_ret
  exact ⟨rfl, rfl⟩

end Go.Proofs.Ytgflbidagdcfmaa

namespace Go.Proofs.Ytgflbidagdcfmaa
open Go.ChangeShapes Go.WideShapes Go.ChangeAt Go.RowKit
attribute [local irreducible] Go.Calls

end Go.Proofs.Ytgflbidagdcfmaa

namespace Go.Proofs.Ytgflbidagdcfmaa
open Go.RowKit

/-- What is asked of one operation's outcome: its value and the world behind it. -/
def gives (P : Program) (G : Value → World → Prop) : Result Next → Prop
  | .ok (.value u) w' => G u w'
  | .ok .skip w' => G undef w'
  | .ok (.enter f args) w' => Calls P f args w' (fun e w'' => ∃ v, e = .returned v ∧ G v w'')
  | _ => False

theorem upon_of_gives {P : Program} {o : Oper} {a : Act} {next : Act → World → Prop} {Q : Exit → Act → World → Prop} {G : Value → World → Prop} {r : Result Next}
    (h : gives P G r) (hn : ∀ v w', G v w' → next (a.put o.dst v) w') : o.upon P a next Q r := by
  cases r with
  | ok n w' =>
    cases n <;> simp only [gives] at h <;> simp only [Oper.upon]
    case value u => exact hn _ _ h
    case skip => exact hn _ _ h
    case enter f args => exact h.mono fun e w'' ⟨v, he, hg⟩ => by subst he; exact hn _ _ hg
  | halt x w' => simp only [gives] at h

/-- Operation i waits for operation j. -/
def waits (ops : Array Oper) (i j : Nat) : Bool := match ops[i]? with
  | some o => o.after.any fun e => Region.binds .any e && e.on == j
  | none => false
def cover (ops : Array Oper) : Nat → Nat → Nat → Bool
  | 0, i, j => waits ops i j
  | d + 1, i, j => waits ops i j || (List.range i).any fun k => waits ops i k && cover ops d k j
/-- Most regions are shallow; the deep look is taken only where the other fails. -/
def coverX (ops : Array Oper) (i j : Nat) : Bool := cover ops 3 i j || cover ops 8 i j

/-- The frame in which the first n operations have left u. -/
def frm (l : List Oper) (u : Nat → Value) : Nat → Act → Act
  | k, a => match l with
    | [] => a
    | o :: r => frm r u (k + 1) (a.put o.dst (u k))

/-- The closed facts on a region: edges lead back; operands made in the region are waited for; no two write one slot; the tail waits for all ahead of it. -/
def jOk (l : List Oper) (n : Nat) (lax : List Nat) : Bool :=
  Region.noSelect l.toArray &&
  ((List.range l.length).all fun i => match l[i]? with
    | some o => o.after.all fun e => !Region.binds .any e || decide (e.on < i)
    | none => true) &&
  ((List.range n).all fun i => match l[i]? with
    | some o => (List.range n).all fun j => match l[j]? with
      | some p => match p.dst with
        | some t => (!(o.looksAt l.toArray).contains t || waits l.toArray i j) && (i == j || o.dst != some t)
        | none => true
      | none => true
    | none => true) &&
  ((List.range l.length).all fun i => decide (i < n) || (List.range i).all fun j => lax.contains j || coverX l.toArray i j) &&
  (lax.all fun i => decide (i < n)) &&
  (lax.all fun i => match l[i]? with
    | some o => (List.range l.length).all fun j => match l[j]? with
      | some p => j == i || (decide (j < n) && !lax.contains j) || waits l.toArray j i || o.apart l.toArray p
      | none => true
    | none => true)

structure Shut (ops : Array Oper) (listed : Array Bool) : Prop where
  size : listed.size = ops.size
  deps : ∀ i o, ops[i]? = some o → listed.getD i false = true → ∀ e ∈ o.after, Region.binds .any e = true → listed.getD e.on false = true

theorem waits_listed {ops : Array Oper} {listed : Array Bool} {i j : Nat} {o : Oper} (ho : ops[i]? = some o)
    (hd : ∀ e ∈ o.after, Region.binds .any e = true → listed.getD e.on false = true) (h : waits ops i j = true) : listed.getD j false = true := by
  unfold waits at h
  rw [ho] at h
  obtain ⟨e, he, hb⟩ := Array.any_eq_true'.1 h
  simp only [Bool.and_eq_true, beq_iff_eq] at hb
  exact hb.2 ▸ hd e he hb.1

theorem cover_listed {ops : Array Oper} {listed : Array Bool} (hs : Shut ops listed) : ∀ (d i j : Nat) (o : Oper), ops[i]? = some o →
    (∀ e ∈ o.after, Region.binds .any e = true → listed.getD e.on false = true) → cover ops d i j = true → listed.getD j false = true := by
  intro d
  induction d with
  | zero => intro i j o ho hd h; exact waits_listed ho hd h
  | succ d ih =>
    intro i j o ho hd h
    simp only [cover, Bool.or_eq_true, List.any_eq_true, Bool.and_eq_true] at h
    rcases h with h | ⟨k, _, hk, hc⟩
    · exact waits_listed ho hd h
    · have hkl := waits_listed ho hd hk
      cases hok : ops[k]? with
      | none =>
        have hlt : ¬ k < ops.size := by intro hlt; rw [Array.getElem?_eq_getElem hlt] at hok; cases hok
        rw [← hs.size] at hlt
        simp [Array.getElem?_eq_none (Nat.not_lt.1 hlt)] at hkl
      | some ok => exact ih k j ok hok (hs.deps k ok hok hkl) hc

theorem coverX_listed {ops : Array Oper} {listed : Array Bool} (hs : Shut ops listed) (i j : Nat) (o : Oper) (ho : ops[i]? = some o)
    (hd : ∀ e ∈ o.after, Region.binds .any e = true → listed.getD e.on false = true) (h : coverX ops i j = true) : listed.getD j false = true := by
  unfold coverX at h
  rw [Bool.or_eq_true] at h
  rcases h with h | h
  · exact cover_listed hs 3 i j o ho hd h
  · exact cover_listed hs 8 i j o ho hd h

theorem getD_flip {x : Array Bool} {j : Nat} (h : j < x.size) (d e : Bool) : x.getD j d = x.getD j e := by simp [h]

/-- The tail: one operation behind the other. -/
theorem tail_any {P : Program} {l : List Oper} {n : Nat} {Q : Exit → Act → World → Prop}
    (hback : ∀ i o, l[i]? = some o → ∀ e ∈ o.after, Region.binds .any e = true → e.on < i)
    (hok : ∀ i, n ≤ i → i < l.length → ∀ j, n ≤ j → j < i → coverX l.toArray i j = true) :
    ∀ (fuel k : Nat) (listed : Array Bool) (a : Act) (w : World), n ≤ k → k ≤ l.length → l.length ≤ k + fuel → Shut l.toArray listed →
      (∀ j, j < l.length → listed.getD j false = decide (j < k)) → wpList P l.toArray Q (l.drop k) a w → wpAny P .any l.toArray Q fuel listed a w := by
  have done : ∀ (k : Nat) (listed : Array Bool), l.length ≤ k → Shut l.toArray listed → (∀ j, j < l.length → listed.getD j false = decide (j < k)) → Region.ready .any l.toArray listed = [] := by
    intro k listed hk hs hl
    apply List.eq_nil_iff_forall_not_mem.2
    intro j hj
    obtain ⟨h0, o, ho, _⟩ := mem_ready.1 hj
    have hjl : j < l.length := by
      rcases Nat.lt_or_ge j l.length with h | h
      · exact h
      · simp [List.getElem?_eq_none h] at ho
    have := hl j hjl
    rw [getD_flip (by rw [hs.size]; simp; exact hjl) false true, h0] at this
    simp at this; omega
  intro fuel
  induction fuel with
  | zero =>
    intro k listed a w _ hk1 hk2 hs hl h
    have hk : k = l.length := by omega
    subst hk
    rw [List.drop_length] at h
    exact ⟨done _ _ (Nat.le_refl _) hs hl, h⟩
  | succ fuel ih =>
    intro k listed a w hnk hk1 hk2 hs hl h
    rcases Nat.lt_or_ge k l.length with hlt | hge
    · have hok' : l[k]? = some l[k] := List.getElem?_eq_getElem hlt
      have hka : l.toArray[k]? = some l[k] := by simp
      rw [List.drop_eq_getElem_cons hlt] at h
      have hdeps : ∀ e ∈ l[k].after, Region.binds .any e = true → listed.getD e.on false = true := fun e he hb => by
        have := hback k _ hok' e he hb
        rw [hl e.on (by omega)]; simpa using this
      refine ⟨fun h0 => ?_, fun j hj => ?_⟩
      · exfalso
        have : k ∈ Region.ready .any l.toArray listed := by
          refine mem_ready.2 ⟨?_, l[k], hka, hdeps⟩
          rw [getD_flip (by rw [hs.size]; simp; exact hlt) true false, hl k hlt]; simp
        rw [h0] at this; cases this
      · obtain ⟨h0, o, ho, hd⟩ := mem_ready.1 hj
        have hjl : j < l.length := by
          rcases Nat.lt_or_ge j l.length with h | h
          · exact h
          · simp [List.getElem?_eq_none h] at ho
        have hjk : k ≤ j := by
          have := hl j hjl
          rw [getD_flip (by rw [hs.size]; simp; exact hjl) false true, h0] at this
          simp at this; exact this
        have hej : j = k := by
          rcases Nat.lt_or_ge k j with hlt' | hge'
          · have := coverX_listed hs j k o ho hd (hok j (by omega) hjl k hnk hlt')
            rw [hl k hlt] at this; simp at this
          · omega
        subst hej
        have hwp : wpOp P l.toArray Q j (wpList P l.toArray Q (l.drop (j + 1))) a w := by
          unfold wpOp; simp only [hka]; exact h
        refine wpOp_mono (fun a' w' h' => ih (j + 1) _ a' w' (by omega) (by omega) (by omega) ⟨by simpa using hs.size, ?_⟩ ?_ h') hwp
        · intro i oi hi hli e he hb
          by_cases hij : i = j
          · subst hij
            rw [hka] at hi; cases hi
            exact getD_set_true (hdeps e he hb)
          · rw [getD_set_ne false (Ne.symm hij)] at hli
            exact getD_set_true (hs.deps i oi hi hli e he hb)
        · intro i hi
          by_cases hij : i = j
          · subst hij
            have : i < listed.size := by rw [hs.size]; simpa using hi
            simp [this]
          · rw [getD_set_ne false (Ne.symm hij), hl i hi, decide_eq_decide]; omega
    · have hk : k = l.length := by omega
      subst hk
      rw [List.drop_length] at h
      exact wpAny_done (done _ _ (Nat.le_refl _) hs hl) h _

theorem frm_spec (u : Nat → Value) : ∀ (l : List Oper) (k : Nat) (a : Act), (frm l u k a).tmps.size = a.tmps.size ∧ (frm l u k a).defers = a.defers ∧
    (∀ (t : Tmp), (∀ (j : Nat) (o : Oper), l[j]? = some o → o.dst ≠ some t) → (frm l u k a).tmps[t]? = a.tmps[t]?) ∧
    (∀ (j : Nat) (o : Oper) (t : Tmp), l[j]? = some o → o.dst = some t → (∀ (i : Nat) (p : Oper), l[i]? = some p → i ≠ j → p.dst ≠ some t) → t < a.tmps.size → (frm l u k a).tmps[t]? = some (u (k + j))) := by
  intro l
  induction l with
  | nil => intro k a; exact ⟨rfl, rfl, fun _ _ => rfl, fun j o t h => by simp at h⟩
  | cons q r ih =>
    intro k a
    obtain ⟨h1, h2, h3, h4⟩ := ih (k + 1) (a.put q.dst (u k))
    have hs : (a.put q.dst (u k)).tmps.size = a.tmps.size := by cases q.dst <;> simp [Act.put]
    have hd : (a.put q.dst (u k)).defers = a.defers := by cases q.dst <;> simp [Act.put]
    refine ⟨by rw [← hs]; exact h1, by rw [← hd]; exact h2, fun t ht => ?_, fun j o t hj hdst huniq hlt => ?_⟩
    · have e := h3 t (fun j o hj => ht (j + 1) o (by simpa using hj))
      show (frm r u (k + 1) (a.put q.dst (u k))).tmps[t]? = _
      rw [e]
      have hq := ht 0 q (by simp)
      cases hqd : q.dst with
      | none => rfl
      | some d =>
        have hne : d ≠ t := fun e => hq (by rw [hqd, e])
        simp [Act.put, Array.getElem?_setIfInBounds_ne hne]
    · show (frm r u (k + 1) (a.put q.dst (u k))).tmps[t]? = _
      cases j with
      | zero =>
        simp at hj; subst hj
        rw [h3 t (fun i p hi => huniq (i + 1) p (by simpa using hi) (by omega)), hdst]
        simp [Act.put, hlt]
      | succ j =>
        have := h4 j o t (by simpa using hj) hdst (fun i p hi hne => huniq (i + 1) p (by simpa using hi) (by omega)) (by rw [hs]; exact hlt)
        rw [this]; congr 2; omega

/-- What holds while the first n operations run, in whatever order. -/
structure JInv (l : List Oper) (n : Nat) (a0 : Act) (w0 : World) (R : Nat → Value → World → Prop) (fr : Nat → Bool) (u : Nat → Value) (listed : Array Bool) (a : Act) (w : World) : Prop where
  shut : Shut l.toArray listed
  notail : ∀ j, n ≤ j → j < l.length → listed.getD j false = false
  size : a.tmps.size = a0.tmps.size
  defers : a.defers = a0.defers
  mine : ∀ (j : Nat) (o : Oper) (t : Tmp), j < n → l[j]? = some o → listed.getD j false = true → o.dst = some t → t < a0.tmps.size → a.tmps[t]? = some (u j)
  rest : ∀ (t : Tmp), (∀ (j : Nat) (o : Oper), j < n → l[j]? = some o → listed.getD j false = true → o.dst ≠ some t) → a.tmps[t]? = a0.tmps[t]?
  past : Below w0.heap.size w0 w
  facts : ∀ j, j < n → listed.getD j false = true → R j (u j) w
  fresh : ∀ j, j < n → listed.getD j false = true → fr j = true → ∃ p, u j = .pointer (some ⟨p, 0, none⟩) ∧ p < w.heap.size
  apart : ∀ i j, i < n → j < n → i ≠ j → listed.getD i false = true → listed.getD j false = true → fr i = true → fr j = true → u i ≠ u j

/-- What is asked of operation i: in the frame in which all the first n have left u, in a world that has only grown, knowing what it waits for. -/
def JStep (P : Program) (l : List Oper) (n : Nat) (a0 : Act) (w0 : World) (R : Nat → Value → World → Prop) (fr : Nat → Bool) (i : Nat) (o : Oper) : Prop :=
  ∀ (u : Nat → Value) (x : Past w0), (∀ j, j < n → waits l.toArray i j = true → R j (u j) x.1) →
    if Region.wanted o (yielded l.toArray (frm (l.take n) u 0 a0).tmps) then
      gives P (fun v w' => Below x.1.heap.size x.1 w' ∧ R i v w' ∧ (fr i = true → ∃ p, v = .pointer (some ⟨p, 0, none⟩) ∧ x.1.heap.size ≤ p ∧ p < w'.heap.size)) ((execOp (frm (l.take n) u 0 a0).eval o).run P x.1)
    else R i undef x.1 ∧ fr i = false

structure JOk (l : List Oper) (n : Nat) (lax : List Nat) : Prop where
  sel : Region.noSelect l.toArray = true
  back : ∀ (i : Nat) (o : Oper), l[i]? = some o → ∀ e ∈ o.after, Region.binds .any e = true → e.on < i
  own : ∀ (i : Nat) (o : Oper) (j : Nat) (p : Oper) (t : Tmp), i < n → j < n → l[i]? = some o → l[j]? = some p → p.dst = some t → t ∈ o.looksAt l.toArray → waits l.toArray i j = true
  one : ∀ (i : Nat) (o : Oper) (j : Nat) (p : Oper) (t : Tmp), i < n → j < n → l[i]? = some o → l[j]? = some p → p.dst = some t → o.dst = some t → i = j
  tail : ∀ i, n ≤ i → i < l.length → ∀ j, j < i → j ∉ lax → coverX l.toArray i j = true
  laxLt : ∀ i, i ∈ lax → i < n
  laxA : ∀ (i j : Nat) (o p : Oper), i ∈ lax → l[i]? = some o → l[j]? = some p → j ≠ i → (n ≤ j ∨ j ∈ lax) → waits l.toArray j i = true ∨ o.apart l.toArray p = true

theorem jOk_spec {l : List Oper} {n : Nat} {lax : List Nat} (h : jOk l n lax = true) : JOk l n lax := by
  simp only [jOk, Bool.and_eq_true, List.all_eq_true, List.mem_range] at h
  obtain ⟨⟨⟨⟨⟨h1, h2⟩, h3⟩, h4⟩, h5⟩, h6⟩ := h
  refine ⟨h1, ?_, ?_, ?_, ?_, fun i hi => by simpa using h5 i hi, ?_⟩
  rotate_left 4
  · intro i j o p hi ho hp hne hj
    have := h6 i hi
    rw [ho] at this
    have := List.all_eq_true.1 this j (List.mem_range.2 (List.getElem?_eq_some_iff.1 hp).1)
    rw [hp] at this
    simp only [Bool.or_eq_true, Bool.and_eq_true, decide_eq_true_eq, beq_iff_eq, Bool.not_eq_true'] at this
    rcases this with ((h | h) | h) | h
    · exact absurd h hne
    · exfalso
      rcases hj with hj | hj
      · omega
      · have := h.2; simp [hj] at this
    · exact .inl h
    · exact .inr h
  · intro i o ho e he hb
    have := h2 i (List.getElem?_eq_some_iff.1 ho).1
    rw [ho] at this
    have := Array.all_eq_true_iff_forall_mem.1 this e he
    simpa [hb] using this
  · intro i o j p t hi hj ho hp ht hl
    have := h3 i hi
    rw [ho] at this
    have := List.all_eq_true.1 this j (List.mem_range.2 hj)
    rw [hp] at this
    simp only [ht, Bool.and_eq_true, Bool.or_eq_true, Bool.not_eq_true'] at this
    rcases this.1 with h | h
    · exact absurd hl (by simpa using h)
    · exact h
  · intro i o j p t hi hj ho hp ht hd
    have := h3 i hi
    rw [ho] at this
    have := List.all_eq_true.1 this j (List.mem_range.2 hj)
    rw [hp] at this
    simp only [ht, Bool.and_eq_true, Bool.or_eq_true] at this
    rcases this.2 with h | h
    · simpa using h
    · rw [hd] at h; simp at h
  · intro i hi hl j hj hjx
    have := h4 i hl
    simp only [Bool.or_eq_true, decide_eq_true_eq, List.all_eq_true, List.mem_range] at this
    rcases this with h | h
    · omega
    · rcases h j hj with h | h
      · exact absurd (by simpa using h) hjx
      · exact h

section
variable {P : Program} {l : List Oper} {n : Nat} {lax : List Nat} {a0 : Act} {w0 : World} {R : Nat → Value → World → Prop} {fr : Nat → Bool}

/-- What an operation that is ready looks at is as it will be when all have run. -/
theorem look_same (_hn : n ≤ l.length) (hok : JOk l n lax) {u : Nat → Value} {listed : Array Bool} {a : Act} {w : World} (hI : JInv l n a0 w0 R fr u listed a w)
    {i : Nat} {o : Oper} (hi : i < n) (ho : l[i]? = some o) (hd : ∀ e ∈ o.after, Region.binds .any e = true → listed.getD e.on false = true) :
    ∀ t, t ∈ o.looksAt l.toArray → a.tmps[t]? = (frm (l.take n) u 0 a0).tmps[t]? := by
  intro t ht
  obtain ⟨f1, _, f3, f4⟩ := frm_spec u (l.take n) 0 a0
  by_cases h : ∃ (j : Nat) (p : Oper), j < n ∧ l[j]? = some p ∧ p.dst = some t
  · obtain ⟨j, p, hj, hp, hpt⟩ := h
    have hw := hok.own i o j p t hi hj ho hp hpt ht
    have hl := waits_listed (ops := l.toArray) (i := i) (by simpa using ho) hd hw
    rcases Nat.lt_or_ge t a0.tmps.size with hlt | hge
    · rw [hI.mine j p t hj hp hl hpt hlt, f4 j p t (by rw [List.getElem?_take, if_pos hj]; exact hp) hpt (fun k q hq hne => ?_) hlt]
      · simp
      · intro hqt
        rw [List.getElem?_take] at hq
        split at hq
        · rename_i hk; exact hne (hok.one k q j p t hk hj hq hp hpt hqt)
        · cases hq
    · rw [Array.getElem?_eq_none (by rw [hI.size]; exact hge), Array.getElem?_eq_none (by rw [f1]; exact hge)]
  · rw [hI.rest t (fun j p hj hp _ hpt => h ⟨j, p, hj, hp, hpt⟩), f3 t (fun j p hp hpt => ?_)]
    rw [List.getElem?_take] at hp
    split at hp
    · rename_i hk; exact h ⟨j, p, hk, hp, hpt⟩
    · cases hp

theorem exec_same {a a' : Act} {o : Oper} {ops : Array Oper} (hs : ∀ cs b, o.op ≠ .select cs b) (h : ∀ t, t ∈ o.looksAt ops → a.tmps[t]? = a'.tmps[t]?) : execOp a.eval o = execOp a'.eval o := by
  refine execOp_congr o hs fun x hx => ?_
  cases x with
  | tmp t =>
    have := h t (List.mem_append_left _ (List.mem_filterMap.2 ⟨.tmp t, by simpa using hx, rfl⟩))
    simp only [Act.eval, Array.getD_eq_getD_getElem?, this]
  | const v => rfl
  | global g => rfl
  | func f => rfl

theorem wanted_same {a a' : Act} {o : Oper} {ops : Array Oper} (h : ∀ t, t ∈ o.looksAt ops → a.tmps[t]? = a'.tmps[t]?) :
    Region.wanted o (yielded ops a.tmps) = Region.wanted o (yielded ops a'.tmps) := by
  unfold Region.wanted
  cases hg : o.guard with
  | none => rfl
  | some gw =>
    obtain ⟨g, want⟩ := gw
    have hy : yielded ops a.tmps g = yielded ops a'.tmps g := by
      unfold yielded
      cases ht : (ops[g]?).bind (·.dst) with
      | none => rfl
      | some t => simp only [Option.bind_some, h t (List.mem_append_right _ (by simp [hg, ht]))]
    simp only [hy]

/-- One operation has run: what holds then. -/
theorem JInv.next (hok : JOk l n lax) (hst : ∀ i v w w', R i v w → Below w.heap.size w w' → R i v w') {u : Nat → Value} {listed : Array Bool} {a : Act} {w : World} (hI : JInv l n a0 w0 R fr u listed a w)
    {i : Nat} {o : Oper} (hi : i < n) (hn : n ≤ l.length) (ho : l[i]? = some o) (hun : listed.getD i false = false) (hd : ∀ e ∈ o.after, Region.binds .any e = true → listed.getD e.on false = true)
    {v : Value} {w' : World} (hb : Below w.heap.size w w') (hR : R i v w') (hf : fr i = true → ∃ p, v = .pointer (some ⟨p, 0, none⟩) ∧ w.heap.size ≤ p ∧ p < w'.heap.size) :
    JInv l n a0 w0 R fr (fun j => if j = i then v else u j) (listed.setIfInBounds i true) (a.put o.dst v) w' := by
  have hsz : (a.put o.dst v).tmps.size = a.tmps.size := by cases o.dst <;> simp [Act.put]
  have hil : i < listed.size := by rw [hI.shut.size]; simp; omega
  have hne : ∀ j, j ≠ i → (listed.setIfInBounds i true).getD j false = listed.getD j false := fun j h => getD_set_ne false (Ne.symm h)
  refine ⟨⟨by simpa using hI.shut.size, ?_⟩, ?_, by rw [hsz]; exact hI.size, ?_, ?_, ?_, ?_, ?_, ?_, ?_⟩
  · intro k ok hk hkl e he hbd
    by_cases hki : k = i
    · subst hki
      have : ok = o := by have : l.toArray[k]? = some o := by simpa using ho
                          rw [this] at hk; exact (Option.some.inj hk).symm
      subst this
      exact getD_set_true (hd e he hbd)
    · rw [hne k hki] at hkl
      exact getD_set_true (hI.shut.deps k ok hk hkl e he hbd)
  · intro j hj hjl
    rw [hne j (by omega)]; exact hI.notail j hj hjl
  · have : (a.put o.dst v).defers = a.defers := by cases o.dst <;> rfl
    rw [this]; exact hI.defers
  · intro j p t hj hp hl hpt hlt
    by_cases hji : j = i
    · subst hji
      have : p = o := by rw [ho] at hp; exact (Option.some.inj hp).symm
      subst this
      simp [Act.put, hpt, hI.size, hlt]
    · rw [hne j hji] at hl
      have hdst : o.dst ≠ some t := fun h => hji (hok.one j p i o t hj hi hp ho h hpt)
      have : (a.put o.dst v).tmps[t]? = a.tmps[t]? := by
        cases hod : o.dst with
        | none => rfl
        | some d => have : d ≠ t := fun e => hdst (by rw [hod, e])
                    simp [Act.put, Array.getElem?_setIfInBounds_ne this]
      rw [this, if_neg hji]
      exact hI.mine j p t hj hp hl hpt hlt
  · intro t ht
    have hdst : o.dst ≠ some t := ht i o hi ho (by simp [hil])
    have : (a.put o.dst v).tmps[t]? = a.tmps[t]? := by
      cases hod : o.dst with
      | none => rfl
      | some d => have : d ≠ t := fun e => hdst (by rw [hod, e])
                  simp [Act.put, Array.getElem?_setIfInBounds_ne this]
    rw [this]
    exact hI.rest t fun j p hj hp hl => ht j p hj hp (getD_set_true hl)
  · exact hI.past.trans (hb.mono hI.past.size)
  · intro j hj hl
    by_cases hji : j = i
    · subst hji; simpa using hR
    · rw [hne j hji] at hl
      simp only [if_neg hji]
      exact hst _ _ _ _ (hI.facts j hj hl) hb
  · intro j hj hl hfj
    by_cases hji : j = i
    · subst hji
      obtain ⟨p, h1, _, h3⟩ := hf hfj
      exact ⟨p, by simpa using h1, h3⟩
    · rw [hne j hji] at hl
      obtain ⟨p, h1, h2⟩ := hI.fresh j hj hl hfj
      exact ⟨p, by simpa [if_neg hji] using h1, Nat.lt_of_lt_of_le h2 hb.size⟩
  · intro j k hj hk hjk hjl hkl hfj hfk
    by_cases hji : j = i
    · subst hji
      rw [hne k (Ne.symm hjk)] at hkl
      obtain ⟨p, h1, h2, _⟩ := hf hfj
      obtain ⟨q, h3, h4⟩ := hI.fresh k hk hkl hfk
      simp only [if_true, if_neg (Ne.symm hjk), h1, h3]
      intro h; (simp at h <;> omega)
    · by_cases hki : k = i
      · subst hki
        rw [hne j hji] at hjl
        obtain ⟨p, h1, h2, _⟩ := hf hfk
        obtain ⟨q, h3, h4⟩ := hI.fresh j hj hjl hfj
        simp only [if_true, if_neg hji, h1, h3]
        intro h; (simp at h <;> omega)
      · rw [hne j hji] at hjl; rw [hne k hki] at hkl
        simp only [if_neg hji, if_neg hki]
        exact hI.apart j k hj hk hjk hjl hkl hfj hfk

/-- All of the first n operations have run: the frame is the whole one. -/
theorem JInv.whole (hok : JOk l n lax) {u : Nat → Value} {listed : Array Bool} {a : Act} {w : World} (hI : JInv l n a0 w0 R fr u listed a w) (_hn : n ≤ l.length)
    (hall : ∀ j, j < n → listed.getD j false = true) : a = frm (l.take n) u 0 a0 := by
  obtain ⟨f1, f2, f3, f4⟩ := frm_spec u (l.take n) 0 a0
  have htm : a.tmps = (frm (l.take n) u 0 a0).tmps := by
    apply Array.ext_getElem?
    intro t
    by_cases h : ∃ (j : Nat) (p : Oper), j < n ∧ l[j]? = some p ∧ p.dst = some t
    · obtain ⟨j, p, hj, hp, hpt⟩ := h
      rcases Nat.lt_or_ge t a0.tmps.size with hlt | hge
      · rw [hI.mine j p t hj hp (hall j hj) hpt hlt, f4 j p t (by rw [List.getElem?_take, if_pos hj]; exact hp) hpt (fun k q hq hne => ?_) hlt]
        · simp
        · intro hqt
          rw [List.getElem?_take] at hq
          split at hq
          · rename_i hk; exact hne (hok.one k q j p t hk hj hq hp hpt hqt)
          · cases hq
      · rw [Array.getElem?_eq_none (by rw [hI.size]; exact hge), Array.getElem?_eq_none (by rw [f1]; exact hge)]
    · rw [hI.rest t (fun j p hj hp _ hpt => h ⟨j, p, hj, hp, hpt⟩), f3 t (fun j p hp hpt => ?_)]
      rw [List.getElem?_take] at hp
      split at hp
      · rename_i hk; exact h ⟨j, p, hk, hp, hpt⟩
      · cases hp
  have hde : a.defers = (frm (l.take n) u 0 a0).defers := by rw [f2]; exact hI.defers
  cases a; cases hq : frm (l.take n) u 0 a0
  rw [hq] at htm hde
  simp only at htm hde
  rw [htm, hde]

def left (n : Nat) (listed : Array Bool) : Nat := ((List.range n).filter fun j => !listed.getD j false).length

theorem left_set {n i : Nat} {listed : Array Bool} (hi : i < n) (hil : i < listed.size) (hun : listed.getD i false = false) : left n (listed.setIfInBounds i true) + 1 ≤ left n listed := by
  unfold left
  have h1 : (List.range n).filter (fun j => !(listed.setIfInBounds i true).getD j false) = ((List.range n).filter fun j => !listed.getD j false).filter (fun j => j != i) := by
    rw [List.filter_filter]
    refine List.filter_congr fun j _ => ?_
    by_cases hji : j = i
    · subst hji; simp [hil]
    · rw [getD_set_ne false (Ne.symm hji)]; simp [hji]
  rw [h1]
  have hmem : i ∈ (List.range n).filter fun j => !listed.getD j false := by simp [List.mem_filter, hi]; simpa using hun
  have : (((List.range n).filter fun j => !listed.getD j false).filter (fun j => j != i)).length < ((List.range n).filter fun j => !listed.getD j false).length := by
    apply Nat.lt_of_not_le
    intro hle
    have := (List.filter_sublist (p := fun j => j != i) (l := (List.range n).filter fun j => !listed.getD j false)).eq_of_length_le hle
    rw [← this] at hmem
    simp at hmem
  omega

/-- What is asked besides of an operation that the tail need not wait for: it gives one value, in whatever world; and all that has not run is apart from it. -/
def JLax (P : Program) (l : List Oper) (n : Nat) (a0 : Act) (w0 : World) (R : Nat → Value → World → Prop) (fr : Nat → Bool) (Q : Exit → Act → World → Prop) (i : Nat) (o : Oper) : Prop :=
  fr i = false ∧
  (∀ c a w v, Q (.panic c) (a.put o.dst v) w → Q (.panic c) a w) ∧
  ∀ (u : Nat → Value) (x : Past w0), (∀ j, j < n → waits l.toArray i j = true → R j (u j) x.1) →
    Region.wanted o (yielded l.toArray (frm (l.take n) u 0 a0).tmps) = true ∧ ∃ v, R i v x.1 ∧ ∀ w, (execOp (frm (l.take n) u 0 a0).eval o).run P w = .ok (.value v) w

theorem prefix_any {Q : Exit → Act → World → Prop} (hn : n ≤ l.length) (hok : JOk l n lax) (hst : ∀ i v w w', R i v w → Below w.heap.size w w' → R i v w')
    (hstep : ∀ (i : Nat) (o : Oper), i < n → l[i]? = some o → JStep P l n a0 w0 R fr i o)
    (hlax : ∀ (i : Nat) (o : Oper), i ∈ lax → l[i]? = some o → JLax P l n a0 w0 R fr Q i o)
    (htail : ∀ (u : Nat → Value) (x : Past w0), (∀ i, i < n → R i (u i) x.1) → (∀ i j, i < n → j < n → i ≠ j → fr i = true → fr j = true → u i ≠ u j) → wpList P l.toArray Q (l.drop n) (frm (l.take n) u 0 a0) x.1) :
    ∀ (m fuel : Nat) (u : Nat → Value) (listed : Array Bool) (a : Act) (w : World), left n listed ≤ m → m + (l.length - n) ≤ fuel → JInv l n a0 w0 R fr u listed a w → wpAny P .any l.toArray Q fuel listed a w := by
  have ending : ∀ (fuel : Nat) (u : Nat → Value) (listed : Array Bool) (a : Act) (w : World), (l.length - n) ≤ fuel → JInv l n a0 w0 R fr u listed a w → (∀ j, j < n → listed.getD j false = true) → wpAny P .any l.toArray Q fuel listed a w := by
    intro fuel u listed a w hf hI hall
    have ha := hI.whole hok hn hall
    refine tail_any (n := n) hok.back (fun i h1 h2 j h3 h4 => hok.tail i h1 h2 j h4 (fun hx => by have := hok.laxLt j hx; omega)) fuel n listed a w (Nat.le_refl _) hn (by omega) hI.shut (fun j hj => ?_) ?_
    · by_cases h : j < n
      · rw [hall j h]; simp [h]
      · rw [hI.notail j (by omega) hj]; simp [h]
    · rw [ha]
      exact htail u ⟨w, hI.past⟩ (fun i hi => hI.facts i hi (hall i hi)) (fun i j hi hj hij h1 h2 => hI.apart i j hi hj hij (hall i hi) (hall j hj) h1 h2)
  intro m
  induction m with
  | zero =>
    intro fuel u listed a w hm hf hI
    refine ending fuel u listed a w (by omega) hI (fun j hj => ?_)
    cases h : listed.getD j false with
    | true => rfl
    | false =>
      exfalso
      have hmem : j ∈ (List.range n).filter fun j => !listed.getD j false := by simp [List.mem_filter, hj]; simpa using h
      have : (List.range n).filter (fun j => !listed.getD j false) = [] := List.length_eq_zero_iff.1 (by unfold left at hm; omega)
      rw [this] at hmem; cases hmem
  | succ m ih =>
    intro fuel u listed a w hm hf hI
    have hlt : ∀ j, j < n → j < listed.size := fun j hj => by rw [hI.shut.size]; simp; omega
    by_cases hall : ∀ j, j < n → listed.getD j false = true
    · exact ending fuel u listed a w (by omega) hI hall
    obtain ⟨fuel, rfl⟩ : ∃ f, fuel = f + 1 := ⟨fuel - 1, by omega⟩
    -- the least operation that has not run is ready
    have hex : ∃ j, j < n ∧ listed.getD j false = false ∧ ∀ k, k < j → listed.getD k false = true := by
      apply Classical.byContradiction
      intro hno
      refine hall fun j => ?_
      induction j using Nat.strongRecOn with
      | ind j ihj =>
        intro hj
        cases h : listed.getD j false with
        | true => rfl
        | false => exact absurd ⟨j, hj, h, fun k hk => ihj k hk (by omega)⟩ hno
    obtain ⟨j0, hj0, hj0l, hj0k⟩ := hex
    have hj0o : l[j0]? = some (l[j0]'(by omega)) := List.getElem?_eq_getElem (by omega)
    have hd0 : ∀ e ∈ (l[j0]'(by omega)).after, Region.binds .any e = true → listed.getD e.on false = true := fun e he hb => hj0k _ (hok.back j0 _ hj0o e he hb)
    have hr0 : j0 ∈ Region.ready .any l.toArray listed := mem_ready.2 ⟨by rw [getD_flip (hlt j0 hj0) true false]; exact hj0l, _, by rw [List.getElem?_toArray]; exact hj0o, hd0⟩
    by_cases hnz : ∀ j, j < n → j ∉ lax → listed.getD j false = true
    · -- what is left of the first n need not be waited for: it may be taken first
      have hx : j0 ∈ lax := Classical.byContradiction fun h => by rw [hnz j0 hj0 h] at hj0l; cases hj0l
      obtain ⟨h1, h3, h4⟩ := hlax j0 _ hx hj0o
      obtain ⟨h5, v, h6, h7⟩ := h4 u ⟨w, hI.past⟩ (fun j hj hw => hI.facts j hj (waits_listed (by rw [List.getElem?_toArray]; exact hj0o) hd0 hw))
      have hlook := look_same hn hok hI hj0 hj0o hd0
      have hsel := fun cs b => Region.noSelect_spec hok.sel j0 _ cs b (by rw [List.getElem?_toArray]; exact hj0o)
      refine wpAny_first (i := j0) (v := v) (by rw [List.getElem?_toArray]; exact hj0o) (Region.noSelect_spec hok.sel) (fun c a w => h3 c a w v) fuel listed a w ?_ hr0 ?_ ?_
      · intro j oj hoj hne hun hno
        rw [List.getElem?_toArray] at hoj
        have hj : n ≤ j ∨ j ∈ lax := by
          rcases Nat.lt_or_ge j n with h | h
          · right
            exact Classical.byContradiction fun hx' => by
              have := hnz j h hx'
              rw [getD_flip (hlt j h) true false, this] at hun; cases hun
          · exact .inl h
        rcases hok.laxA j0 j _ oj hx hj0o hoj hne hj with h | h
        · exfalso
          unfold waits at h
          rw [List.getElem?_toArray, hoj] at h
          obtain ⟨e, he, hb⟩ := Array.any_eq_true'.1 h
          simp only [Bool.and_eq_true, beq_iff_eq] at hb
          exact hno e he hb.1 hb.2
        · exact h
      · refine .inl ⟨by rw [wanted_same hlook]; exact h5, fun w' => ?_⟩
        rw [exec_same hsel hlook]; exact h7 w'
      · exact ih fuel _ _ _ _ (by have := left_set hj0 (hlt j0 hj0) hj0l; omega) (by omega) (hI.next hok hst hj0 hn hj0o hj0l hd0 (Below.refl _ _) h6 (fun h => by rw [h1] at h; cases h))
    · refine ⟨fun h0 => (by rw [h0] at hr0; cases hr0), fun i hi => ?_⟩
      obtain ⟨hun, o, ho, hd⟩ := mem_ready.1 hi
      have hil : i < l.length := by
        rcases Nat.lt_or_ge i l.length with h | h
        · exact h
        · simp [List.getElem?_eq_none h] at ho
      have hol : l[i]? = some o := by simpa using ho
      have hun' : listed.getD i false = false := by rw [← getD_flip (by rw [hI.shut.size]; simp; exact hil) true false]; exact hun
      have hin : i < n := by
        rcases Nat.lt_or_ge i n with h | h
        · exact h
        · exfalso
          exact hnz fun j hj hx => coverX_listed hI.shut i j o ho hd (hok.tail i h hil j (by omega) hx)
      have hlook := look_same hn hok hI hin hol hd
      have hs := hstep i o hin hol u ⟨w, hI.past⟩ (fun j hj hw => hI.facts j hj (waits_listed ho hd hw))
      have hsel := fun cs b => Region.noSelect_spec hok.sel i o cs b ho
      unfold wpOp
      simp only [ho]
      rw [wanted_same hlook]
      have go : ∀ v w', Below w.heap.size w w' → R i v w' → (fr i = true → ∃ p, v = .pointer (some ⟨p, 0, none⟩) ∧ w.heap.size ≤ p ∧ p < w'.heap.size) →
          wpAny P .any l.toArray Q fuel (listed.setIfInBounds i true) (a.put o.dst v) w' := fun v w' h1 h2 h3 =>
        ih fuel _ _ _ _ (by have := left_set hin (hlt i hin) hun'; omega) (by omega) (hI.next hok hst hin hn hol hun' hd h1 h2 h3)
      split
      · rename_i hwant
        rw [if_pos hwant] at hs
        refine .inl ?_
        unfold Oper.wp
        rw [exec_same hsel hlook]
        exact upon_of_gives hs fun v w' ⟨h1, h2, h3⟩ => go v w' h1 h2 h3
      · rename_i hwant
        rw [if_neg hwant] at hs
        exact go undef w (Below.refl _ _) hs.1 (fun h => by rw [hs.2] at h; cases h)

/-- A REGION THAT DRAWS ITS ORDER: the first n operations in whatever order, each by what it waits for; then the tail. -/
theorem wp_region_J {id : Nat} {Q : Exit → Act → World → Prop} (n : Nat) (lax : List Nat) (R : Nat → Value → World → Prop) (fr : Nat → Bool) (hm : P.follows .mixedOrders = true) (hn : n ≤ l.length) (hok : jOk l n lax = true)
    (hst : ∀ i v w w', R i v w → Below w.heap.size w w' → R i v w')
    (hstep : ∀ (i : Nat) (o : Oper), i < n → l[i]? = some o → JStep P l n a0 w0 R fr i o)
    (hlax : ∀ (i : Nat) (o : Oper), i ∈ lax → l[i]? = some o → JLax P l n a0 w0 R fr Q i o)
    (htail : ∀ (u : Nat → Value) (x : Past w0), (∀ i, i < n → R i (u i) x.1) → (∀ i j, i < n → j < n → i ≠ j → fr i = true → fr j = true → u i ≠ u j) → wpList P l.toArray Q (l.drop n) (frm (l.take n) u 0 a0) x.1) :
    (Code.region id l.toArray true).wp P Q a0 w0 := by
  have hok' := jOk_spec hok
  refine wp_region_any hm ?_
  have hun : ∀ j, (Array.replicate l.toArray.size false).getD j false = false := fun j => by
    simp only [Array.getD_eq_getD_getElem?, Array.getElem?_replicate]; split <;> rfl
  refine prefix_any hn hok' hst hstep hlax htail n l.toArray.size (fun _ => undef) _ a0 _ ?_ (by simp; omega) ?_
  · unfold left
    exact Nat.le_trans (List.length_filter_le _ _) (by simp)
  · have no : ∀ (j : Nat) (q : Prop), (Array.replicate l.toArray.size false).getD j false = true → q := fun j q h => by rw [hun] at h; cases h
    exact {
      shut := ⟨by simp, fun i o _ h => no i _ h⟩
      notail := fun j _ _ => hun j
      size := rfl
      defers := rfl
      mine := fun j o t _ _ h => no j _ h
      rest := fun _ _ => rfl
      past := (Below.refl _ _).drew
      facts := fun j _ h => no j _ h
      fresh := fun j _ h => no j _ h
      apart := fun i j _ _ _ h => no i _ h }

end

/-- The value is known; it is a new block's address, and the block is known. -/
def detR (v0 : Value) : Value → World → Prop := fun v _ => v = v0
def newR (B : Nat) (cs : Array Value) (t : TypeId) : Value → World → Prop := fun v w => ∃ p, v = .pointer (some ⟨p, 0, none⟩) ∧ B ≤ p ∧ Blk w p cs t
/-- The value is a slice over the whole of a new block. -/
def sliR (B n : Nat) (cs : Array Value) (t : TypeId) : Value → World → Prop := fun v w => ∃ p, v = .slice (some ⟨p, 0, none⟩) n n ∧ B ≤ p ∧ Blk w p cs t
def Stab (r : Value → World → Prop) : Prop := ∀ v w w', r v w → Below w.heap.size w w' → r v w'
theorem stab_det (v0 : Value) : Stab (detR v0) := fun _ _ _ h _ => h
theorem stab_new (B : Nat) (cs : Array Value) (t : TypeId) : Stab (newR B cs t) := fun _ _ _ ⟨p, h1, h2, h3⟩ hb => ⟨p, h1, h2, h3.past hb⟩
theorem stab_sli (B n : Nat) (cs : Array Value) (t : TypeId) : Stab (sliR B n cs t) := fun _ _ _ ⟨p, h1, h2, h3⟩ hb => ⟨p, h1, h2, h3.past hb⟩
def nthR (rs : List (Value → World → Prop)) (i : Nat) : Value → World → Prop := rs.getD i (fun _ _ => True)
theorem stab_nth {rs : List (Value → World → Prop)} (h : ∀ r ∈ rs, Stab r) : ∀ i v w w', nthR rs i v w → Below w.heap.size w w' → nthR rs i v w' := by
  intro i v w w' h1 h2
  unfold nthR at *
  rcases Nat.lt_or_ge i rs.length with hl | hl
  · rw [List.getD_eq_getElem?_getD, List.getElem?_eq_getElem hl] at *
    exact h _ (List.getElem_mem hl) v w w' h1 h2
  · rw [List.getD_eq_getElem?_getD, List.getElem?_eq_none hl]
    trivial

/-- A region in the text's order whose operations read and call what only makes memory: the same walk. -/
theorem wpList_of_quiet {P : Program} {ops : Array Oper} {C : World → Prop} {Q : Act → Prop} {Q' : Exit → Act → World → Prop} (hQ : ∀ a w, C w → Q a → Q' .normal a w) :
    ∀ (l : List Oper) (a : Act) (w : World), C w → wpQuiet P ops C Q l a → wpList P ops Q' l a w := by
  intro l
  induction l with
  | nil => intro a w hw h; exact hQ a w hw h
  | cons o r ih =>
    intro a w hw h
    unfold wpQuiet at h
    unfold wpList
    split
    · rename_i hwant
      rw [if_pos hwant] at h
      exact .inl (Oper.wp_of_quiet hw (fun a' w' hw' h' => ih a' w' hw' h') h)
    · rename_i hwant
      rw [if_neg hwant] at h
      exact ih _ _ hw h
theorem wp_region_past_seq {P : Program} {id : Nat} {Q : Exit → Act → World → Prop} {a : Act} {w : World} {l : List Oper}
    (h : wpQuiet P l.toArray (fun w' => ∃ x : Past w, w' = x.1) (fun a' => ∀ w', (∃ x : Past w, w' = x.1) → Q .normal a' w') l a) : (Code.region id l.toArray false).wp P Q a w :=
  wp_region_list (by
    have := wpList_of_quiet (P := P) (ops := l.toArray) (C := fun w' => ∃ x : Past w, w' = x.1) (Q := fun a' => ∀ w', (∃ x : Past w, w' = x.1) → Q .normal a' w') (Q' := Q) (fun a w hw h => h w hw) l a w ⟨⟨w, Below.refl _ _⟩, rfl⟩ h
    simpa using this)

end Go.Proofs.Ytgflbidagdcfmaa

namespace Go.Proofs.Ytgflbidagdcfmaa
open Go.RowKit

def barOk (l : List Oper) (q : Nat) : Bool :=
  Region.noSelect l.toArray && decide (q < l.length) &&
  ((List.range l.length).all fun i => match l[i]? with
    | some o => o.after.all fun e => !Region.binds .any e || decide (e.on < i)
    | none => true) &&
  ((List.range q).all fun i => match l[i]? with
    | some o => match o.guard with
      | some g => decide (g.1 < q)
      | none => true
    | none => true) &&
  ((List.range l.length).all fun i => decide (i ≤ q) || (List.range i).any fun j => decide (q ≤ j) && waits l.toArray i j) &&
  ((List.range q).all fun j => (List.range (q + 1)).any fun i => decide (j < i) && waits l.toArray i j) &&
  Region.lexB .any (l.take q).toArray &&
  Region.lexFrom .any l.toArray (l.drop (q + 1)).length (q + 1) (Array.replicate (q + 1) true ++ Array.replicate (l.length - (q + 1)) false)

structure BarOk (l : List Oper) (q : Nat) : Prop where
  sel : Region.noSelect l.toArray = true
  lt : q < l.length
  back : ∀ i o, l[i]? = some o → ∀ e ∈ o.after, Region.binds .any e = true → e.on < i
  guard : ∀ i o, i < q → l[i]? = some o → ∀ g, o.guard = some g → g.1 < q
  after : ∀ i, i < l.length → q < i → ∃ j, q ≤ j ∧ j < i ∧ waits l.toArray i j = true
  before : ∀ j, j < q → ∃ i, j < i ∧ i ≤ q ∧ waits l.toArray i j = true
  lexP : Region.lexB .any (l.take q).toArray = true
  lexS : Region.lexFrom .any l.toArray (l.drop (q + 1)).length (q + 1) (Array.replicate (q + 1) true ++ Array.replicate (l.length - (q + 1)) false) = true

theorem barOk_spec {l : List Oper} {q : Nat} (h : barOk l q = true) : BarOk l q := by
  unfold barOk at h
  simp only [Bool.and_eq_true] at h
  obtain ⟨⟨⟨⟨⟨⟨⟨h1, h2⟩, h3⟩, h4⟩, h5⟩, h6⟩, h7⟩, h8⟩ := h
  rw [decide_eq_true_eq] at h2
  refine ⟨h1, h2, ?_, ?_, ?_, ?_, h7, h8⟩
  · intro i o ho e he hb
    have hi : i < l.length := (List.getElem?_eq_some_iff.1 ho).1
    have := List.all_eq_true.1 h3 i (by simpa using hi)
    rw [ho] at this
    have := Array.all_eq_true'.1 this e he
    rw [hb] at this
    simpa using this
  · intro i o hi ho g hg
    have := List.all_eq_true.1 h4 i (by simpa using hi)
    rw [ho] at this
    simp only [hg] at this
    simpa using this
  · intro i hi hqi
    have := List.all_eq_true.1 h5 i (by simpa using hi)
    rw [Bool.or_eq_true, decide_eq_true_eq] at this
    rcases this with c | c
    · omega
    · obtain ⟨j, hj, hc⟩ := List.any_eq_true.1 c
      rw [Bool.and_eq_true, decide_eq_true_eq] at hc
      exact ⟨j, hc.1, by simpa using hj, hc.2⟩
  · intro j hj
    have := List.all_eq_true.1 h6 j (by simpa using hj)
    obtain ⟨i, hi, hc⟩ := List.any_eq_true.1 this
    rw [Bool.and_eq_true, decide_eq_true_eq] at hc
    have := List.mem_range.1 hi
    exact ⟨i, hc.1, by omega, hc.2⟩

section
variable {l : List Oper} {q : Nat} (B : BarOk l q)
include B
/-- Whoever stands behind the bar waits for it. -/
theorem BarOk.behind {listed : Array Bool} (hs : Shut l.toArray listed) : ∀ (n i : Nat), i ≤ n → i < l.length → q < i → (∀ o, l[i]? = some o → ∀ e ∈ o.after, Region.binds .any e = true → listed.getD e.on false = true) → listed.getD q false = true := by
  intro n
  induction n with
  | zero => intro i h1 _ h3; omega
  | succ n ih =>
    intro i h1 h2 h3 hd
    obtain ⟨j, j1, j2, j3⟩ := B.after i h2 h3
    have hoi : l.toArray[i]? = some l[i] := by simp [h2]
    have hj := waits_listed hoi (hd l[i] (List.getElem?_eq_getElem h2)) j3
    by_cases c : j = q
    · rw [c] at hj; exact hj
    · refine ih j (by omega) (by omega) (by omega) fun o ho e he hb => ?_
      exact hs.deps j o (by simpa using ho) hj e he hb
/-- The bar waits for all ahead of it. -/
theorem BarOk.ahead {listed : Array Bool} (hs : Shut l.toArray listed) (hd : ∀ o, l[q]? = some o → ∀ e ∈ o.after, Region.binds .any e = true → listed.getD e.on false = true) : ∀ (n j : Nat), q - j ≤ n → j < q → listed.getD j false = true := by
  intro n
  induction n with
  | zero => intro j h1 h2; omega
  | succ n ih =>
    intro j h1 h2
    obtain ⟨i, i1, i2, i3⟩ := B.before j h2
    by_cases c : i = q
    · subst c
      have hll := B.lt
      have hoi : l.toArray[i]? = some l[i] := by simp [hll]
      exact waits_listed hoi (hd l[i] (List.getElem?_eq_getElem hll)) i3
    · have hi := ih i (by omega) (by omega)
      have hil : i < l.length := by have := B.lt; omega
      have hoi : l.toArray[i]? = some l[i] := by simp [hil]
      exact waits_listed hoi (fun e he hb => hs.deps i l[i] hoi hi e he hb) i3
end

theorem wanted_take {l : List Oper} {q : Nat} (o : Oper) (t : Array Value) (hg : ∀ g, o.guard = some g → g.1 < q) : Region.wanted o (yielded (l.take q).toArray t) = Region.wanted o (yielded l.toArray t) := by
  unfold Region.wanted
  cases h : o.guard with
  | none => rfl
  | some g =>
    have hlt := hg g h
    have e : yielded (l.take q).toArray t g.1 = yielded l.toArray t g.1 := by
      unfold yielded
      simp [hlt]
    simp only [e]

/-- The number of those ahead of the bar that are still to come. -/
def todo (q : Nat) (listed : Array Bool) : Nat := ((List.range q).filter fun i => !listed.getD i false).length
theorem todo_zero {q : Nat} {listed : Array Bool} (h : todo q listed = 0) : ∀ i, i < q → listed.getD i false = true := by
  intro i hi
  unfold todo at h
  have := List.eq_nil_of_length_eq_zero h
  cases hl : listed.getD i false with
  | true => rfl
  | false =>
    have hm : i ∈ (List.range q).filter fun i => !listed.getD i false := by
      rw [List.mem_filter]; exact ⟨by simpa using hi, by rw [hl]; rfl⟩
    rw [this] at hm; cases hm
theorem filter_set (listed : Array Bool) (i : Nat) (hi : i < listed.size) (hl : listed.getD i false = false) : ∀ (r : List Nat), r.Nodup → i ∈ r → (r.filter fun j => !listed.getD j false).length = (r.filter fun j => !(listed.setIfInBounds i true).getD j false).length + 1 := by
  intro r
  induction r with
  | nil => intro _ h; cases h
  | cons a r ih =>
    intro hn hm
    have hn' := List.nodup_cons.1 hn
    by_cases c : a = i
    · subst c
      have e : (r.filter fun j => !listed.getD j false) = r.filter fun j => !(listed.setIfInBounds a true).getD j false := by
        refine List.filter_congr fun j hj => ?_
        have : j ≠ a := fun e => hn'.1 (e ▸ hj)
        rw [getD_set_ne false (Ne.symm this)]
      rw [List.filter_cons_of_pos (by rw [hl]; rfl), List.filter_cons_of_neg (by simp [hi]), e]
      rfl
    · have hm' : i ∈ r := by
        rcases List.mem_cons.1 hm with h | h
        · exact absurd h.symm c
        · exact h
      have := ih hn'.2 hm'
      have e : (listed.setIfInBounds i true).getD a false = listed.getD a false := getD_set_ne false (Ne.symm c)
      cases hla : listed.getD a false with
      | true => rw [List.filter_cons_of_neg (by rw [hla]; simp), List.filter_cons_of_neg (by rw [e, hla]; simp)]; exact this
      | false => rw [List.filter_cons_of_pos (by rw [hla]; rfl), List.filter_cons_of_pos (by rw [e, hla]; rfl)]; simp only [List.length_cons]; omega
theorem todo_set {q : Nat} {listed : Array Bool} {i : Nat} (hi : i < q) (hs : i < listed.size) (hl : listed.getD i false = false) : todo q listed = todo q (listed.setIfInBounds i true) + 1 :=
  filter_set listed i hs hl _ List.nodup_range (by simpa using hi)

theorem prefix_bar {P : Program} {l : List Oper} {q : Nat} (B : BarOk l q) {C : World → Prop} {Q' : Act → Prop} {Q : Exit → Act → World → Prop} (r : Nat)
    (hK : ∀ (listed : Array Bool) a w, listed.size = l.length → (∀ i, i < l.length → listed.getD i false = decide (i < q)) → C w → Q' a → wpAny P .any l.toArray Q r listed a w) :
    ∀ (n : Nat) (listed L : Array Bool) (a : Act) (w : World), Shut l.toArray listed → (∀ i, q ≤ i → listed.getD i false = false) → todo q listed = n → L.size = q → (∀ i, i < q → L.getD i false = listed.getD i false) → C w →
      wpAnyQ P .any (l.take q).toArray C Q' n L a → wpAny P .any l.toArray Q (n + r) listed a w := by
  intro n
  have hql := B.lt
  induction n with
  | zero =>
    intro listed L a w hs hno ht hL hLe hC h
    rw [Nat.zero_add]
    refine hK listed a w (by simpa using hs.size) (fun i hi => ?_) hC h.2
    by_cases c : i < q
    · rw [todo_zero ht i c]; exact (decide_eq_true c).symm
    · rw [hno i (by omega)]; exact (decide_eq_false c).symm
  | succ n ih =>
    intro listed L a w hs hno ht hL hLe hC h
    have hsz : listed.size = l.length := by simpa using hs.size
    have hsome : ∃ i, i < q ∧ listed.getD i false = false := by
      unfold todo at ht
      cases hf : (List.range q).filter fun i => !listed.getD i false with
      | nil => rw [hf] at ht; simp at ht
      | cons x y =>
        have : x ∈ (List.range q).filter fun i => !listed.getD i false := by rw [hf]; simp
        rw [List.mem_filter] at this
        exact ⟨x, by simpa using this.1, by simpa using this.2⟩
    obtain ⟨j0, hj0, hl0⟩ := hsome
    rw [Nat.succ_add]
    refine ⟨fun h0 => ?_, fun i hi => ?_⟩
    · exfalso
      -- the least that is still to come may come
      have key : ∀ (m j : Nat), j ≤ m → j < q → listed.getD j false = false → Region.ready .any l.toArray listed ≠ [] := by
        intro m
        induction m with
        | zero =>
          intro j hjm hjq hjl hnil
          have hj0 : j = 0 := by omega
          subst hj0
          have hm : 0 ∈ Region.ready .any l.toArray listed := by
            refine mem_ready.2 ⟨by rw [getD_flip (by rw [hsz]; omega) true false]; exact hjl, l[0]'(by omega), by simp, fun e he hb => ?_⟩
            have := B.back 0 _ (List.getElem?_eq_getElem (by omega)) e he hb
            omega
          rw [hnil] at hm; cases hm
        | succ m ihm =>
          intro j hjm hjq hjl hnil
          by_cases hall : ∃ k, k < j ∧ listed.getD k false = false
          · obtain ⟨k, hk, hkl⟩ := hall
            exact ihm k (by omega) (by omega) hkl hnil
          · have hm : j ∈ Region.ready .any l.toArray listed := by
              refine mem_ready.2 ⟨by rw [getD_flip (by rw [hsz]; omega) true false]; exact hjl, l[j]'(by omega), by simp, fun e he hb => ?_⟩
              have := B.back j _ (List.getElem?_eq_getElem (by omega)) e he hb
              cases hx : listed.getD e.on false with
              | true => rfl
              | false => exact absurd ⟨e.on, this, hx⟩ hall
            rw [hnil] at hm; cases hm
      exact key j0 j0 (Nat.le_refl _) hj0 hl0 h0
    · obtain ⟨hil, o, ho, hd⟩ := mem_ready.1 hi
      have hilen : i < l.length := by
        rcases Nat.lt_or_ge i l.length with h | h
        · exact h
        · simp [List.getElem?_eq_none h] at ho
      have hol : l[i]? = some o := by simpa using ho
      have hil' : listed.getD i false = false := by rw [getD_flip (by rw [hsz]; exact hilen) false true]; exact hil
      have hiq : i < q := by
        rcases Nat.lt_trichotomy i q with c | c | c
        · exact c
        · exfalso
          subst c
          have := B.ahead hs (fun o' ho' e he hb => by rw [hol] at ho'; cases ho'; exact hd e he hb) i j0 (by omega) hj0
          rw [hl0] at this; cases this
        · exfalso
          have := B.behind hs i i (Nat.le_refl _) hilen c (fun o' ho' e he hb => by rw [hol] at ho'; cases ho'; exact hd e he hb)
          rw [hno q (Nat.le_refl _)] at this; cases this
      have hop : (l.take q).toArray[i]? = some o := by simp [hiq, hol]
      have hir : i ∈ Region.ready .any (l.take q).toArray L := by
        refine mem_ready.2 ⟨?_, o, hop, fun e he hb => ?_⟩
        · rw [getD_flip (by rw [hL]; exact hiq) true false, hLe i hiq]; exact hil'
        · have := B.back i o hol e he hb
          rw [hLe _ (by omega)]; exact hd e he hb
      have hq := h.2 i hir
      have hwp := wpOp_of_qOp (Q' := Q) (K' := fun a' w' => wpAny P .any l.toArray Q (n + r) (listed.setIfInBounds i true) a' w') hC (fun a' w' hC' hK' => ih (listed.setIfInBounds i true) (L.setIfInBounds i true) a' w' ⟨by simpa using hs.size, ?_⟩ ?_ ?_ (by simpa using hL) ?_ hC' hK') hq
      · unfold wpOp at hwp ⊢
        simp only [hop] at hwp
        simp only [ho]
        rw [wanted_take o a.tmps (fun g hg => B.guard i o hiq hol g hg)] at hwp
        exact hwp
      · intro k ok hk hkl e he hb
        by_cases hki : k = i
        · subst hki
          rw [ho] at hk; cases hk
          exact getD_set_true (hd e he hb)
        · rw [getD_set_ne false (Ne.symm hki)] at hkl
          exact getD_set_true (hs.deps k ok hk hkl e he hb)
      · intro k hk
        rw [getD_set_ne false (by omega)]; exact hno k hk
      · have := todo_set hiq (by rw [hsz]; exact hilen) hil'
        omega
      · intro k hk
        by_cases hki : k = i
        · subst hki
          simp [hL, hsz, hk, hilen]
        · rw [getD_set_ne false (Ne.symm hki), getD_set_ne false (Ne.symm hki)]; exact hLe k hk

/-- The region's law. -/
theorem wp_region_bar {P : Program} {id : Nat} {Q : Exit → Act → World → Prop} {a : Act} {w : World} {l : List Oper} (q : Nat) (o : Oper) (hm : P.follows .mixedOrders = true) (ho : l[q]? = some o) (hok : barOk l q = true) (G : Value → World → Prop)
    (h : wpQuiet P (l.take q).toArray (fun w' => ∃ x : Past w, w' = x.1) (fun a' => ∀ x : Past w, Region.wanted o (yielded l.toArray a'.tmps) = true ∧ gives P G ((execOp a'.eval o).run P x.1) ∧
      ∀ v w'', G v w'' → wpQuiet P l.toArray (fun w' => ∃ y : Past w'', w' = y.1) (fun a3 => ∀ w3, (∃ y : Past w'', w3 = y.1) → Q .normal a3 w3) (l.drop (q + 1)) (a'.put o.dst v)) (l.take q) a) : (Code.region id l.toArray true).wp P Q a w := by
  have B := barOk_spec hok
  have hql := B.lt
  refine wp_region_any hm ?_
  have hfuel : l.toArray.size = q + (l.length - q) := by simp; omega
  rw [hfuel]
  have hun : ∀ (n j : Nat), (Array.replicate n false).getD j false = false := fun n j => by
    simp only [Array.getD_eq_getD_getElem?, Array.getElem?_replicate]; split <;> rfl
  have hlexP := B.lexP
  simp only [Region.lexB, Bool.and_eq_true] at hlexP
  have hq0 := wpAnyQ_lex (P := P) (C := fun w' => ∃ x : Past w, w' = x.1) (md := .any) hlexP.1 (l.take q) 0 (Array.replicate (l.take q).toArray.size false) a (by simp) (by simpa using hlexP.2) h
  have hlen : (l.take q).length = q := by rw [List.length_take]; omega
  rw [hlen] at hq0
  refine prefix_bar B (l.length - q) ?_ q (Array.replicate (q + (l.length - q)) false) (Array.replicate (l.take q).toArray.size false) a _ ⟨by simp; omega, fun i oi _ hli => by rw [hun] at hli; cases hli⟩ (fun i _ => hun _ _) ?_ (by simp; omega) (fun i _ => by rw [hun, hun]) ⟨⟨_, (Below.refl _ _).drew⟩, rfl⟩ hq0
  · intro listed a' w' hsz hcan ⟨x, hx⟩ hQ'
    subst hx
    obtain ⟨hw, hg, hrest⟩ := hQ' x
    obtain ⟨r, hr⟩ : ∃ r, l.length - q = r + 1 := ⟨l.length - q - 1, by omega⟩
    rw [hr]
    have hs : Shut l.toArray listed := ⟨by simpa using hsz, fun i oi hi hli e he hb => by
      have hil : i < l.length := by
        rcases Nat.lt_or_ge i l.length with h | h
        · exact h
        · simp [List.getElem?_eq_none h] at hi
      rw [hcan i hil] at hli
      have := B.back i oi (by simpa using hi) e he hb
      have h1 := of_decide_eq_true hli
      rw [hcan e.on (by omega)]; exact decide_eq_true (by omega)⟩
    have hqr : q ∈ Region.ready .any l.toArray listed := by
      refine mem_ready.2 ⟨by rw [getD_flip (by rw [hsz]; exact hql) true false, hcan q hql]; simp, o, by simpa using ho, fun e he hb => ?_⟩
      have := B.back q o ho e he hb
      rw [hcan e.on (by omega)]; exact decide_eq_true this
    refine ⟨fun h0 => (by rw [h0] at hqr; cases hqr), fun i hi => ?_⟩
    obtain ⟨hil, oi, hoi, hd⟩ := mem_ready.1 hi
    have hilen : i < l.length := by
      rcases Nat.lt_or_ge i l.length with h | h
      · exact h
      · simp [List.getElem?_eq_none h] at hoi
    have hil' : listed.getD i false = false := by rw [getD_flip (by rw [hsz]; exact hilen) false true]; exact hil
    have hiq : i = q := by
      rcases Nat.lt_trichotomy i q with c | c | c
      · rw [hcan i hilen, decide_eq_true c] at hil'; cases hil'
      · exact c
      · exfalso
        have := B.behind hs i i (Nat.le_refl _) hilen c (fun o' ho' e he hb => by
          have : l[i]? = some oi := by simpa using hoi
          rw [this] at ho'; cases ho'; exact hd e he hb)
        rw [hcan q hql] at this; simp at this
    subst hiq
    have hoo : oi = o := by
      have : l[i]? = some oi := by simpa using hoi
      rw [this] at ho; cases ho; rfl
    subst hoo
    have hcanon : listed.setIfInBounds i true = Array.replicate (i + 1) true ++ Array.replicate (l.length - (i + 1)) false := by
      apply Array.ext_getElem?
      intro k
      rw [Array.getElem?_setIfInBounds, Array.getElem?_append, Array.getElem?_replicate, Array.getElem?_replicate]
      simp only [Array.size_replicate]
      have hget : k < l.length → listed[k]? = some (decide (k < i)) := fun hk => by
        have := hcan k hk
        rw [Array.getD_eq_getD_getElem?, Array.getElem?_eq_getElem (by omega)] at this
        rw [Array.getElem?_eq_getElem (by omega)]; simpa using this
      by_cases c1 : i = k
      · subst c1
        rw [if_pos rfl, if_pos (by omega), if_pos (by omega), if_pos (by omega)]
      · rw [if_neg c1]
        by_cases c2 : k < i + 1
        · rw [if_pos c2, if_pos c2, hget (by omega)]
          congr 1; exact decide_eq_true (by omega)
        · rw [if_neg c2]
          by_cases c3 : k < l.length
          · rw [hget c3, if_pos (by omega)]
            congr 1; exact decide_eq_false (by omega)
          · rw [if_neg (by omega), Array.getElem?_eq_none (by omega)]
    unfold wpOp
    simp only [hoi]
    rw [if_pos hw]
    refine .inl ?_
    unfold Oper.wp
    refine upon_of_gives hg fun v w'' hv => ?_
    have hsuf := hrest v w'' hv
    rw [hcanon]
    have hdl : (l.drop (i + 1)).length = r := by rw [List.length_drop]; omega
    have hq2 := wpAnyQ_lex (P := P) (C := fun w' => ∃ y : Past w'', w' = y.1) (md := .any) B.sel (l.drop (i + 1)) (i + 1) (Array.replicate (i + 1) true ++ Array.replicate (l.length - (i + 1)) false) _ (fun j => by simp [List.getElem?_drop]) B.lexS hsuf
    rw [hdl] at hq2
    exact wpAny_of_quiet (C := fun w' => ∃ y : Past w'', w' = y.1) (fun a3 w3 hw3 h3 => h3 w3 hw3) r _ _ _ ⟨⟨_, Below.refl _ _⟩, rfl⟩ hq2
  · unfold todo
    rw [List.filter_eq_self.2 (fun i _ => by rw [hun]; rfl), List.length_range]
end Go.Proofs.Ytgflbidagdcfmaa
