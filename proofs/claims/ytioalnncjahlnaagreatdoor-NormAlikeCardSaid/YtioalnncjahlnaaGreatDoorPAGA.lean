/- Program-free lemmas for walks over calls that make memory of their own. No conditions. What the walks are told of package-level tables: where the program has them, that they hold what they are laid with (strconv's powers of ten; the words of the kinds); else nothing. No conditions. From a walk to a statement: a law whose call answers true and only makes memory has its row. No conditions. Slices that read as lists of parts: five cells each. No function of the program. No conditions. A definition that is handed in: two times and a slice of parts. No conditions. Slices that read as lists of tokens: four cells each, the second a string. No function of the program. No conditions. White that is put ahead of a token: its bytes, and what the tokens are then. No program. No conditions. Tokens, their text, and back: what the statement looks at, token by token. No program. No conditions. Definitions as forests of parts: their list, their tokens; what tokens are parsed to; that the one goes back to the other. No program. No conditions. Terms' tokens are parsed to the terms, or are found too deep at the first term that is. No program. No conditions. Definitions: their tokens, their text, what a text is parsed to; there and back. No program. No conditions. Lists of parts that are trees; parts in another one's stead; the text of a definition, byte by byte. No program. No conditions. The normal form of terms: the rules, on a term and the list of its children; that they end, and that what they end in stays. No program. No conditions. The normal form: it is reached, it stays, it is no greater and no deeper, its parts are parts that were there, and it may be. No program. No conditions. -/
import Derived.WalkKit
import Derived.ProofKit
import Derived.OpenShut
import Derived.Below
import Derived.WalkSmall
import Derived.OneCell
import Derived.Deep.QuietTactic
import Derived.BigQuiet
import Derived.Lib.LaidTab
import Derived.Shelf.Strconv.Itoa4
import Derived.Test.YtioalnncjahlnaaGreatDoorProg
import Derived.Test.YtioalnncjahlnaaGreatDoorRows
import Derived.Test.YtioalnncjahlnaaGreatDoorTie
import Derived.Test.YtioalnncjahlnaaGreatDoorCards
import Derived.LaidMore
import Derived.Lay
import Derived.SevenTiedAt
import Derived.Stop.Joined
import Derived.Carry
import Derived.Lib.SmallJoins
import Derived.Test.YtioalnncjahlnaaGreatDoorPAMA
import Derived.LoopTactic
import Derived.Deep.LoopGhost
import Derived.WalkMore
import Derived.ScopeJumps
import Derived.Deep.DeepCutAuto
import Derived.Outline
import Derived.BigRegion
import Derived.Laws.AppendOwn
import Derived.Laws.OwnMore
import Derived.Laws.IdiomStrings
namespace Go.Proofs.YtioalnncjahlnaaGreatDoor
open Go.ChangeShapes Go.WideShapes Go.ChangeAt Go.RowKit

/-- The worlds that a call which only makes memory may leave behind W. -/
def Past (W : World) : Type := { w : World // Below W.heap.size W w }

instance (W : World) : Nonempty (Past W) := ⟨⟨W, Below.refl _ _⟩⟩

theorem Past.cell {W : World} (x : Past W) (b o : Nat) (h : b < W.heap.size) : x.1.cell? ⟨b, o, none⟩ = W.cell? ⟨b, o, none⟩ :=
  x.2.cell (p := ⟨b, o, none⟩) h
theorem Past.frozen {W : World} (x : Past W) (b o : Nat) (h : b < W.heap.size) : x.1.frozen? ⟨b, o, none⟩ = W.frozen? ⟨b, o, none⟩ :=
  x.2.frozen (p := ⟨b, o, none⟩) h

theorem bcell {W w1 : World} (hb : Below W.heap.size W w1) : (∀ b o, b < W.heap.size → w1.cell? ⟨b, o, none⟩ = W.cell? ⟨b, o, none⟩) ∧ (∀ b o, b < W.heap.size → w1.frozen? ⟨b, o, none⟩ = W.frozen? ⟨b, o, none⟩) :=
  ⟨fun b o h => hb.cell (p := ⟨b, o, none⟩) h, fun b o h => hb.frozen (p := ⟨b, o, none⟩) h⟩

theorem bsz {W w1 : World} (hb : Below W.heap.size W w1) (k : Nat) (h : k < W.heap.size) : k < w1.heap.size := Nat.lt_of_lt_of_le h hb.size

/-- A region that draws its order, whose operations read and call what only makes memory: one walk in the text's order. -/
theorem wp_region_past_lit {P : Program} {id : Nat} {Q : Exit → Act → World → Prop} {a : Act} {w : World} {l : List Oper} (hm : P.follows .mixedOrders = true) (hB : Region.lexB .any l.toArray = true)
    (h : wpQuiet P l.toArray (fun w' => ∃ x : Past w, w' = x.1) (fun a' => ∀ w', (∃ x : Past w, w' = x.1) → Q .normal a' w') l a) : (Code.region id l.toArray true).wp P Q a w :=
  wp_region_quiet (C := fun w' => ∃ x : Past w, w' = x.1) hm hB ⟨⟨_, (Below.refl _ _).drew⟩, rfl⟩ (by simpa using h)

theorem Past.call {P : Program} {f : FuncId} {args : Array Value} {W : World} {v : Value} (x : Past W)
    (h : Calls P f args x.1 fun e w' => e = .returned v ∧ Below x.1.heap.size x.1 w') : Calls P f args x.1 fun e w'' => e = .returned v ∧ ∃ y : Past W, w'' = y.1 :=
  h.mono fun _ _ ⟨he, hb⟩ => ⟨he, ⟨⟨_, x.2.trans (hb.mono x.2.size)⟩, rfl⟩⟩

theorem Past.same {P : Program} {f : FuncId} {args : Array Value} {W : World} {v : Value} (x : Past W)
    (h : Calls P f args x.1 fun e w' => e = .returned v ∧ w' = x.1) : Calls P f args x.1 fun e w'' => e = .returned v ∧ ∃ y : Past W, w'' = y.1 :=
  h.mono fun _ _ ⟨he, hb⟩ => ⟨he, ⟨x, hb⟩⟩

theorem same_below {P : Program} {f : FuncId} {args : Array Value} {w : World} {v : Value}
    (h : Calls P f args w fun e w' => e = .returned v ∧ w' = w) : Calls P f args w fun e w' => e = .returned v ∧ Below w.heap.size w w' :=
  h.mono fun _ _ ⟨he, hb⟩ => ⟨he, hb ▸ Below.refl _ _⟩

theorem Past.prop {W : World} (x : Past W) : Below W.heap.size W x.1 := x.2
theorem bstep {a W w' : World} (h : Below W.heap.size W w') (ha : Below a.heap.size a W) : Below a.heap.size a w' := ha.trans (h.mono ha.size)
theorem balloc {a w : World} (h : Below a.heap.size a w) (o : Obj) : Below a.heap.size a (w.alloc o) := h.alloc h.size o
theorem hidE {p : Prop} (h : p) : Hid p := h
/-- A block known whole, none of it a string's bytes. -/
def Blk (w : World) (k : Nat) (cs : Array Value) (t : TypeId) : Prop := w.heap[k]? = some (.cells cs t (0, 0))
theorem Blk.lt {w : World} {k : Nat} {cs : Array Value} {t : TypeId} (h : Blk w k cs t) : k < w.heap.size := lt_of_block h
theorem Blk.cell {w : World} {k : Nat} {cs : Array Value} {t : TypeId} (h : Blk w k cs t) (i : Nat) : w.cell? ⟨k, i, none⟩ = cs[i]? := by
  unfold Blk at h; simp [World.cell?, h]
theorem Blk.free {w : World} {k : Nat} {cs : Array Value} {t : TypeId} (h : Blk w k cs t) (i : Nat) : w.frozen? ⟨k, i, none⟩ = false := by
  unfold Blk at h; simp [World.frozen?, h]
theorem Blk.made (w : World) (cs : Array Value) (t : TypeId) : Blk (w.alloc (.cells cs t)) w.heap.size cs t := by
  show (w.heap.push _)[w.heap.size]? = _
  simp
theorem Blk.made_at (w : World) (cs : Array Value) (t : TypeId) (k : Nat) (h : k = w.heap.size) : Blk (w.alloc (.cells cs t)) k cs t := h ▸ Blk.made w cs t
theorem Blk.alloc {w : World} {k : Nat} {cs : Array Value} {t : TypeId} (h : Blk w k cs t) (o : Obj) : Blk (w.alloc o) k cs t := by
  have := h.lt
  show (w.heap.push _)[k]? = _
  rw [Array.getElem?_push, if_neg (by omega)]; exact h
theorem Blk.below {w w' : World} {k : Nat} {cs : Array Value} {t : TypeId} (h : Blk w k cs t) {B : Nat} (hb : Below B w w') (hk : k < B) : Blk w' k cs t := (hb.block k hk).trans h
theorem Blk.past {w w' : World} {k : Nat} {cs : Array Value} {t : TypeId} (h : Blk w k cs t) (hb : Below w.heap.size w w') : Blk w' k cs t := h.below hb h.lt
theorem Blk.drew {w : World} {k : Nat} {cs : Array Value} {t : TypeId} (h : Blk w k cs t) (n : Nat) : Blk (w.drewN n) k cs t := h
theorem Blk.set {w : World} {k : Nat} {cs : Array Value} {t : TypeId} (h : Blk w k cs t) (i : Nat) (v : Value) : Blk (w.setCell ⟨k, i, none⟩ v) k (cs.setIfInBounds i v) t := by
  have hlt := h.lt
  have h' : w.heap[k] = .cells cs t (0, 0) := by unfold Blk at h; simpa [Array.getElem?_eq_getElem hlt] using h
  show (w.heap.modify k _)[k]? = _
  rw [Array.getElem?_eq_getElem (by simpa using hlt), Array.getElem_modify_self, h']
  rfl
theorem Blk.other {w : World} {k : Nat} {cs : Array Value} {t : TypeId} (h : Blk w k cs t) {b i : Nat} (hb : k ≠ b) (v : Value) : Blk (w.setCell ⟨b, i, none⟩ v) k cs t :=
  (Below.heap_setCell w ⟨b, i, none⟩ v k hb).trans h
theorem ret_bool {a b : Bool} (h : a = b) : Ending.returned (.bool a) = .returned (.bool b) := by rw [h]
theorem ret_int {k : IntKind} {a b : Int} (h : a = b) : Ending.returned (.int k a) = .returned (.int k b) := by rw [h]
theorem ret_tup {a b : Array Value} (h : a = b) : Ending.returned (.tuple a) = .returned (.tuple b) := by rw [h]

/-- A bool of which something is known is handed back; the call only makes memory. -/
def RetB (w : World) (p : Bool → Prop) (e : Ending) (w' : World) : Prop := ∃ r : Bool, e = .returned (.bool r) ∧ p r ∧ Below w.heap.size w w'
/-- So a number. -/
def RetN (w : World) (p : Nat → Prop) (e : Ending) (w' : World) : Prop := ∃ n : Nat, e = .returned (.int .i64 n) ∧ p n ∧ Below w.heap.size w w'
/-- So a value. -/
def RetV (w : World) (p : Value → World → Prop) (e : Ending) (w' : World) : Prop := ∃ v : Value, e = .returned v ∧ p v w' ∧ Below w.heap.size w w'

end Go.Proofs.YtioalnncjahlnaaGreatDoor

namespace Go.Proofs.YtioalnncjahlnaaGreatDoor
open Go.RowKit
/-- The table of the powers of ten holds them. -/
def PowTab (w : World) : Prop := Lib.TabIs Tryz.prog w "internal/strconv.uint64pow10" .u64 Lib.pow10Tab
theorem var_lt {w : World} {name : String} {g : Nat} {cs : Array Value} (hg : Tryz.prog.globalNamed name = some g) (h : w.var? Tryz.prog name = some cs) : g < w.heap.size := by
  unfold World.var? at h
  rw [hg] at h
  simp only [Option.bind_some] at h
  rcases Nat.lt_or_ge g w.heap.size with h' | h'
  · exact h'
  · simp [Array.getElem?_eq_none h'] at h
theorem var_below {w w' : World} {B : Nat} {name : String} {g : Nat} {cs : Array Value} (hg : Tryz.prog.globalNamed name = some g) (h : w.var? Tryz.prog name = some cs) (hb : Below B w w') (hB : g < B) : w'.var? Tryz.prog name = some cs := by
  unfold World.var? at h ⊢
  rw [hg] at h ⊢
  simp only [Option.bind_some] at h ⊢
  rw [hb.block _ hB]
  exact h
theorem var_past {w w' : World} {name : String} {g : Nat} {cs : Array Value} (hg : Tryz.prog.globalNamed name = some g) (h : w.var? Tryz.prog name = some cs) (hb : Below w.heap.size w w') : w'.var? Tryz.prog name = some cs := var_below hg h hb (var_lt hg h)
theorem PowTab.past {w w' : World} (h : PowTab w) (hb : Below w.heap.size w w') : PowTab w' := var_past (g := 2) (by kernel_rfl) h hb
/-- The words of the kinds. -/
def wordTab : List ByteArray := [⟨#[97, 116, 111, 109]⟩, ⟨#[111, 114, 100, 101, 114]⟩, ⟨#[110, 101, 120, 116]⟩, ⟨#[97, 110, 121]⟩, ⟨#[97, 108, 108]⟩]
def WordsAre (w : World) : Prop := w.var? Tryz.prog "livery/parse.words" = some (wordTab.map Value.string).toArray
theorem WordsAre.past {w w' : World} (h : WordsAre w) (hb : Below w.heap.size w w') : WordsAre w' := var_past (g := 1) (by kernel_rfl) h hb
theorem WordsAre.below {w w' : World} {B : Nat} (h : WordsAre w) (hb : Below B w w') (hB : 1 < B) : WordsAre w' := var_below (g := 1) (by kernel_rfl) h hb hB
theorem WordsAre.lt {w : World} (h : WordsAre w) : 1 < w.heap.size := var_lt (by kernel_rfl) h
theorem WordsAre.cell {w : World} (h : WordsAre w) {i : Nat} {s : ByteArray} (hi : wordTab[i]? = some s) : w.cell? ⟨1, i, none⟩ = some (.string s) := by
  have := World.var?_cell (g := 1) (by kernel_rfl) h i
  simpa [hi] using this
/-- An array of strings that reads as the list holds its strings. -/
theorem cells_of_strs {H : Type} {enc : TypeId × Value → H} {P : Program} {w : World} {base : Nat} {sp : Nat → Bool} {held : Bool} {fuel : Nat} {t e : TypeId} {n : Nat} {cs : List Value} {ls : List (List UInt8)} {p : List MemPlace}
    (ht : P.underlying t = some (.array n e)) (he : P.underlying e = some .string) (hce : P.cellsOf e = 1) (hct : P.cellsOf t = n)
    (h : DataW.trod enc P w base sp held fuel t cs = some (.agg (ls.map fun l => .lit (.string l)), p)) : cs = ls.map fun l => Value.string ⟨l.toArray⟩ := by
  cases fuel with
  | zero => simp [DataW.trod] at h
  | succ fuel =>
    simp only [DataW.trod, ht, hce, hct, Nat.mul_one] at h
    split at h
    · rename_i hl
      obtain ⟨xs, hm, hx⟩ := Option.map_eq_some_iff.1 h
      have hxs : xs.map (·.1) = ls.map fun l => (DataW.lit (.string l) : DataW H) := by
        have := congrArg Prod.fst hx
        simpa using this
      have hxl : xs.length = n := by simpa using Lib.mapM_length hm
      have hzl : ls.length = n := by
        have := congrArg List.length hxs
        simp at this
        omega
      apply List.ext_getElem?
      intro i
      by_cases hi : i < n
      · obtain ⟨b, hb, hf⟩ := Lib.mapM_at hm i i (by simp [hi])
        obtain ⟨s, hc, rfl, _⟩ := DataW.trod_string he hf
        have h1 : cs[i]? = some (.string s) := by
          have := congrArg (·[0]?) hc
          simpa [List.getElem?_take, List.getElem?_drop] using this
        have h2 : (xs.map (·.1))[i]? = some (DataW.lit (.string s.data.toList) : DataW H) := by simp [hb]
        rw [hxs] at h2
        simp only [List.getElem?_map, Option.map_eq_some_iff, DataW.lit.injEq, Lit.string.injEq] at h2
        obtain ⟨z', hz', e'⟩ := h2
        subst e'
        simp [h1, hz']
      · rw [List.getElem?_eq_none (by omega), List.getElem?_eq_none (by simp; omega)]
    · cases h
theorem words_of_head {W : World} {rest : List (String × DataW Unit)} {d : DataW Unit} (hd : d = .agg ([[97, 116, 111, 109], [111, 114, 100, 101, 114], [110, 101, 120, 116], [97, 110, 121], [97, 108, 108]].map fun l => .lit (.string l))) (h : laidMet Tryz.prog (("livery/parse.words", d) :: rest) W) : WordsAre W := by
  subst hd
  obtain ⟨ps, ⟨g', t', cs, fuel, p, q, hg', ht', hvar, hd, _, _⟩, _⟩ := h
  obtain rfl := Option.some.inj ((show Tryz.prog.globalNamed "livery/parse.words" = some 1 by kernel_rfl).symm.trans hg')
  obtain rfl := Option.some.inj ((show (Tryz.prog.globals[1]?).map (·.type) = some 224 by kernel_rfl).symm.trans ht')
  unfold WordsAre
  have e := cells_of_strs Tryz.underlying224 Tryz.underlying9 (by kernel_rfl) (by kernel_rfl) hd
  have e2 : List.map Value.string wordTab = cs.toList := by rw [e]; rfl
  rw [hvar, e2]
def Tab (w : World) : Prop := PowTab w ∧ WordsAre w
theorem Tab.past {w w' : World} (h : Tab w) (hb : Below w.heap.size w w') : Tab w' := ⟨h.1.past hb, h.2.past hb⟩
end Go.Proofs.YtioalnncjahlnaaGreatDoor

namespace Go.Proofs.YtioalnncjahlnaaGreatDoor
open Go.ChangeShapes Go.WideShapes Go.ChangeAt Go.RowKit Go.WideElems

def readOk (P : Program) (ts : List TypeId) : Bool := ts.all fun t => P.readableRec t && decide (t < P.types.size)
theorem readOk_spec {P : Program} {ts : List TypeId} (h : readOk P ts = true) : ∀ t ∈ ts, P.readableRec t = true ∧ t < P.types.size := fun t ht => by
  have := List.all_eq_true.1 h t ht
  simpa using this
theorem laidMet_tail {P : Program} {W : World} {x : String × DataW Unit} {rest : List (String × DataW Unit)} (h : laidMet P (x :: rest) W) : laidMet P rest W := by
  obtain ⟨n, d⟩ := x
  obtain ⟨ps, ⟨g, t, cs, fuel, p, q, _, _, _, _, hr, rfl⟩, hnd, hall⟩ := h
  exact ⟨q, hr, (List.nodup_append.1 hnd).2.1, fun b off hm => hall b off (List.mem_append_right _ hm)⟩
theorem tab_of_laid {W : World} {rest : List (String × DataW Unit)} (h : laidMet Tryz.prog (("internal/strconv.uint64pow10", Rows.laid_internal_strconv_uint64pow10) :: rest) W) : PowTab W :=
  Lib.tabIs_of_head (g := 2) (by kernel_rfl) (t := 237) (by kernel_rfl) Tryz.underlying237 (e := 198) Tryz.underlying198 (by kernel_rfl) (by kernel_rfl) h
theorem words_of_laid {W : World} {rest : List (String × DataW Unit)} (h : laidMet Tryz.prog (("livery/parse.words", Rows.laid_livery_parse_words) :: rest) W) : WordsAre W := words_of_head rfl h
theorem own : ownKnob Tryz.prog.godebug = none := by kernel_rfl
theorem laidOut : laidOutB Tryz.prog = true := by kernel_rfl

section
variable {H : Type} {enc : TypeId × Value → H} {P : Program}

/-- What was read before reads so behind a call that only makes memory. -/
theorem trodAll_past (hl : laidOutB P = true) {W W' : World} (hb : Below W.heap.size W W') : ∀ (ts : List TypeId) (vs : List Value) (ds : List (DataW H)) (ps : List MemPlace),
    (∀ t ∈ ts, P.readableRec t = true ∧ t < P.types.size) → DataW.TrodAll enc P W 0 (fun _ => true) true ts vs ds ps → (∀ x ∈ ps, x.block < W.heap.size) →
    ∀ sp : Nat → Bool, (∀ x ∈ ps, sp x.block = true) → DataW.TrodAll enc P W' 0 sp true ts vs ds ps := by
  intro ts
  induction ts with
  | nil =>
    intro vs ds ps _ h _ sp _
    cases vs <;> cases ds <;> simp only [DataW.TrodAll] at h ⊢
    exact h
  | cons t ts ih =>
    intro vs ds ps hr h hlt sp hsp
    cases vs with
    | nil => cases ds <;> simp only [DataW.TrodAll] at h
    | cons v vs =>
      cases ds with
      | nil => simp only [DataW.TrodAll] at h
      | cons d ds =>
        simp only [DataW.TrodAll] at h ⊢
        obtain ⟨p, q, h1, h2, rfl⟩ := h
        have hr0 := hr t (by simp)
        exact ⟨p, q, WideElems.Trod_stays hl hr0.1 hr0.2 h1 (fun x hx => hb.same (hlt x (by simp [hx]))) (fun x hx => hsp x (by simp [hx])),
          ih vs ds q (fun u hu => hr u (by simp [hu])) h2 (fun x hx => hlt x (by simp [hx])) sp (fun x hx => hsp x (by simp [hx])), rfl⟩

/-- The row's last step. -/
theorem law_post {f : Func} {s : ChangeSpec} {rt : TypeId} {W W' : World} {args : Array Value} {ds gs : List (DataW H)} {before : List MemPlace}
    (hl : laidOutB P = true) (hread : ∀ t ∈ f.params.toList, P.readableRec t = true ∧ t < P.types.size) (hv : s.vars = []) (hbool : P.underlying rt = some .bool) (hrt : f.resultTypes = #[rt])
    (hfn : (s.fn H ds).results = [.lit (.bool true)] ∧ (s.fn H ds).args = ds ∧ (s.fn H ds).vars = [])
    (hW : DataW.Whole enc P f.params.toList s.vars false W args.toList ds gs before) (hb : Below W.heap.size W W') :
    s.post enc P f false true false false W args (.bool true) W' := by
  have hlt : ∀ x ∈ before, x.block < W.heap.size := fun x hx => hW.lt x hx
  have hW' := hW
  obtain ⟨p, q, hA, hV, rfl, hz, hn⟩ := hW
  rw [hv] at hV
  obtain ⟨rfl, rfl⟩ := trodVars_none hV
  rw [List.append_nil] at *
  obtain ⟨e1, e2, e3⟩ := hfn
  have hres : ∀ (b : Nat) (sp : Nat → Bool) (hd : Bool), DataW.TrodAll enc P W' b sp hd f.resultTypes.toList ((Value.bool true).resultList f.resultTypes.size) (s.fn H (ds ++ [])).results [] := by
    intro b sp hd
    rw [List.append_nil, e1, hrt]
    exact trodAll_cons_mk (shut_bool hbool true) trodAll_mk0
  have hargs : ∀ sp : Nat → Bool, (∀ x ∈ p, sp x.block = true) → DataW.TrodAll enc P W' 0 sp true f.params.toList args.toList (s.fn H (ds ++ [])).args p := by
    intro sp hsp
    rw [List.append_nil, e2]
    exact trodAll_past hl hb _ _ _ _ hread hA hlt sp hsp
  have hvars : ∀ sp : Nat → Bool, DataW.TrodVars enc P W' sp s.vars (s.fn H (ds ++ [])).vars [] := by
    intro sp
    rw [List.append_nil, e3, hv]
    rfl
  have hold : ∀ x ∈ p, (fun b => decide (b < W.heap.size)) x.block = true := fun x hx => by simpa using hlt x hx
  refine ⟨ds, [], p, [], p, [], hW', hres _ _ _, hargs _ hold, hvars _, World.keptBut_mono (fun x hx => ⟨hx, Or.inr (by simpa using hx)⟩) (hb.frame (· ∈ p)), fun h => by cases h⟩

/-- A vector that is handed in: two integers. -/
theorem open_vec {t tv : TypeId} {f0 f1 : Field} (hs : P.underlying t = some (.struct #[f0, f1])) (h0 : f0.type = tv) (h1 : f1.type = tv) (hv : P.underlying tv = some (.int .i64)) (hone : Go.Deep.oneCellFields P #[f0, f1] = true) (hC : P.cellsOf t = 2)
    {r : Reach} {b0 : Nat} {W : World} {base : Nat} {sp : Nat → Bool} {held : Bool} {v : Value} {d : DataW H} {p : List MemPlace} (ho : Value.okWide P W r b0 t v) (h : DataW.Trod enc P W base sp held t v d p) :
    ∃ m c : Int, v = .agg #[.int .i64 m, .int .i64 c] ∧ (-9223372036854775808 ≤ m ∧ m ≤ 9223372036854775807) ∧ (-9223372036854775808 ≤ c ∧ c ≤ 9223372036854775807) := by
  obtain ⟨c0, c1, y0, y1, m, rfl, rfl, rfl, hy0, hy1⟩ := Joins.open_agg2 hs hone hC ho h
  rw [h0] at hy0; rw [h1] at hy1
  obtain ⟨a, e0, _, wa⟩ := DataW.trod_int hv hy0
  obtain ⟨b, e1, _, wb⟩ := DataW.trod_int hv hy1
  simp at e0 e1
  subst e0 e1
  exact ⟨a, b, rfl, by simpa [Lit.wf, IntKind.min, IntKind.max, IntKind.signed, IntKind.bits] using wa, by simpa [Lit.wf, IntKind.min, IntKind.max, IntKind.signed, IntKind.bits] using wb⟩

end


theorem cellsV : Tryz.prog.cellsOf 51 = 2 := by kernel_rfl

end Go.Proofs.YtioalnncjahlnaaGreatDoor

namespace Go.Proofs.YtioalnncjahlnaaGreatDoor
open Go.ChangeShapes Go.WideShapes Go.ChangeAt Go.RowKit
attribute [local irreducible] Go.Calls

def pr0 : Prt := ⟨0, 0, 0, 0, 0⟩
/-- A part's value. -/
abbrev prtV (x : Prt) : Value := .agg #[.int .u8 x.kind, .int .u32 x.n, .int .u32 x.g, .int .i64 x.d, .int .i64 x.kids]
/-- A definition's value. -/
abbrev defV (fr to' : Int) (a : Option Addr) (n cap : Nat) : Value := .agg #[.int .i64 fr, .int .i64 to', .slice a n cap]
/-- The parts that a slice's cells hold. -/
def CellsP (w : World) (b off : Nat) (l : List Prt) : Prop :=
  ∀ i, i < l.length → w.cell? ⟨b, off + i * 5, none⟩ = some (.int .u8 (l.getD i pr0).kind) ∧ w.cell? ⟨b, off + i * 5 + 1, none⟩ = some (.int .u32 (l.getD i pr0).n) ∧ w.cell? ⟨b, off + i * 5 + 2, none⟩ = some (.int .u32 (l.getD i pr0).g) ∧ w.cell? ⟨b, off + i * 5 + 3, none⟩ = some (.int .i64 (l.getD i pr0).d) ∧ w.cell? ⟨b, off + i * 5 + 4, none⟩ = some (.int .i64 (l.getD i pr0).kids)
/-- A slice that reads as the list: where it is not empty it lies in a block of the world's. -/
def ArgP (w : World) (a : Option Addr) (l : List Prt) : Prop := 0 < l.length → ∃ b off, a = some ⟨b, off, none⟩ ∧ b < w.heap.size ∧ CellsP w b off l
theorem CellsP.below {w w' : World} {b off B : Nat} {l : List Prt} (h : CellsP w b off l) (hb : Below B w w') (hB : b < B) : CellsP w' b off l := fun i hi => by
  obtain ⟨h1, h2, h3, h4, h5⟩ := h i hi
  exact ⟨(hb.cell (p := ⟨b, _, none⟩) hB).trans h1, (hb.cell (p := ⟨b, _, none⟩) hB).trans h2, (hb.cell (p := ⟨b, _, none⟩) hB).trans h3, (hb.cell (p := ⟨b, _, none⟩) hB).trans h4, (hb.cell (p := ⟨b, _, none⟩) hB).trans h5⟩
theorem ArgP.past {w w' : World} {a : Option Addr} {l : List Prt} (h : ArgP w a l) (hb : Below w.heap.size w w') : ArgP w' a l := fun hl => by
  obtain ⟨b, off, e, h1, h2⟩ := h hl
  exact ⟨b, off, e, Nat.lt_of_lt_of_le h1 hb.size, h2.below hb h1⟩
theorem CellsP.get {w : World} {b off : Nat} {l : List Prt} (h : CellsP w b off l) {i : Nat} (hi : i < l.length) : w.cell? ⟨b, off + i * 5, none⟩ = some (.int .u8 (l.getD i pr0).kind) ∧ w.cell? ⟨b, off + i * 5 + 1, none⟩ = some (.int .u32 (l.getD i pr0).n) ∧ w.cell? ⟨b, off + i * 5 + 2, none⟩ = some (.int .u32 (l.getD i pr0).g) ∧ w.cell? ⟨b, off + i * 5 + 3, none⟩ = some (.int .i64 (l.getD i pr0).d) ∧ w.cell? ⟨b, off + i * 5 + 4, none⟩ = some (.int .i64 (l.getD i pr0).kids) := h i hi
theorem Tryz.infoPart : (Tryz.prog.info? 35).map (fun i => (i.zero, i.size, i.bytes)) = some (some (.agg #[.int .u8 0, .int .u32 0, .int .u32 0, .int .i64 0, .int .i64 0]), 5, 32) := by kernel_rfl
/-- The cells of a list of parts. -/
def cellsOfP : List Prt → List Value
  | [] => []
  | t :: r => .int .u8 t.kind :: .int .u32 t.n :: .int .u32 t.g :: .int .i64 t.d :: .int .i64 t.kids :: cellsOfP r
theorem cellsOfP_len : ∀ l, (cellsOfP l).length = l.length * 5
  | [] => rfl
  | s :: r => by simp only [cellsOfP, List.length_cons, cellsOfP_len r]; omega
theorem cellsOfP_app : ∀ l r, cellsOfP (l ++ r) = cellsOfP l ++ cellsOfP r
  | [], _ => rfl
  | s :: l, r => by simp only [cellsOfP, List.cons_append, cellsOfP_app l r]
theorem cellsOfP_get : ∀ (l : List Prt) (i : Nat), i < l.length → (cellsOfP l)[i * 5]? = some (.int .u8 (l.getD i pr0).kind) ∧ (cellsOfP l)[i * 5 + 1]? = some (.int .u32 (l.getD i pr0).n) ∧ (cellsOfP l)[i * 5 + 2]? = some (.int .u32 (l.getD i pr0).g) ∧ (cellsOfP l)[i * 5 + 3]? = some (.int .i64 (l.getD i pr0).d) ∧ (cellsOfP l)[i * 5 + 4]? = some (.int .i64 (l.getD i pr0).kids)
  | [], i, h => by simp at h
  | s :: l, 0, _ => ⟨rfl, rfl, rfl, rfl, rfl⟩
  | s :: l, i + 1, h => by
    obtain ⟨h1, h2, h3, h4, h5⟩ := cellsOfP_get l i (by simp at h; omega)
    have e : ∀ j, (cellsOfP (s :: l))[(i + 1) * 5 + j]? = (cellsOfP l)[i * 5 + j]? := fun j => by
      simp only [cellsOfP]
      rw [show (i + 1) * 5 + j = i * 5 + j + 1 + 1 + 1 + 1 + 1 by omega]
      simp only [List.getElem?_cons_succ]
    exact ⟨(e 0).trans h1, (e 1).trans h2, (e 2).trans h3, (e 3).trans h4, (e 4).trans h5⟩
/-- A slice value that reads as the list of parts. -/
def SliP (w : World) (v : Value) (l : List Prt) : Prop := ∃ (a : Option Addr) (cap : Nat), v = .slice a l.length cap ∧ l.length ≤ cap ∧ cap ≤ 9223372036854775807 ∧ ArgP w a l
theorem SliP.past {w w' : World} {v : Value} {l : List Prt} (h : SliP w v l) (hb : Below w.heap.size w w') : SliP w' v l := by
  obtain ⟨a, cap, h1, h2, h3, h4⟩ := h
  exact ⟨a, cap, h1, h2, h3, h4.past hb⟩
theorem sliP_nil (w : World) : SliP w (.slice none 0 0) [] := ⟨none, 0, rfl, Nat.le_refl _, by omega, fun h => by simp at h⟩
/-- What a call has appended to reads as a slice. -/
theorem sliP_own {w : World} {base : Nat} {e : TypeId} {v : Value} {l : List Prt} (h : w.ownsRow base e 5 v l.length (cellsOfP l)) : SliP w v l := by
  obtain ⟨h1, h2 | ⟨g, cap, cur, rfl, h3, h4, h5, h6, h7, h8⟩⟩ := h
  · obtain ⟨rfl, h2⟩ := h2
    have : l = [] := List.eq_nil_of_length_eq_zero h2
    subst this
    exact sliP_nil w
  · refine ⟨some ⟨g, 0, none⟩, cap, rfl, h5, by unfold maxLen at h6; omega, fun _ => ⟨g, 0, rfl, lt_of_block h4, fun i hi => ?_⟩⟩
    have hg := cellsOfP_get l i hi
    have hc : ∀ j x, j < l.length * 5 → (cellsOfP l)[j]? = some x → w.cell? ⟨g, j, none⟩ = some x := fun j x hj hx => by
      have e : w.cell? ⟨g, j, none⟩ = cur[j]? := by simp [World.cell?, h4]
      rw [e, ← Array.getElem?_toList]
      rw [← h8, List.getElem?_take, if_pos hj] at hx
      exact hx
    simp only [Nat.zero_add]
    exact ⟨hc _ _ (by omega) hg.1, hc _ _ (by omega) hg.2.1, hc _ _ (by omega) hg.2.2.1, hc _ _ (by omega) hg.2.2.2.1, hc _ _ (by omega) hg.2.2.2.2⟩
/-- A new block of parts reads as a slice. -/
theorem argP_blk {w : World} {p : Nat} {l : List Prt} {t : TypeId} (h : Blk w p (cellsOfP l).toArray t) : ArgP w (some ⟨p, 0, none⟩) l := fun _ =>
  ⟨p, 0, rfl, h.lt, fun i hi => by
    obtain ⟨h1, h2, h3, h4, h5⟩ := cellsOfP_get l i hi
    simp only [Nat.zero_add]
    have q : ∀ j, w.cell? ⟨p, j, none⟩ = (cellsOfP l)[j]? := fun j => (h.cell j).trans (by simp)
    exact ⟨(q _).trans h1, (q _).trans h2, (q _).trans h3, (q _).trans h4, (q _).trans h5⟩⟩
theorem prt_iff {x y : Prt} : x = y ↔ x.kind = y.kind ∧ x.n = y.n ∧ x.g = y.g ∧ x.d = y.d ∧ x.kids = y.kids := by
  obtain ⟨x1, x2, x3, x4, x5⟩ := x
  obtain ⟨y1, y2, y3, y4, y5⟩ := y
  simp
theorem pgetD (l : List Prt) (i : Nat) (h : i < l.length) : l.getD i pr0 = l[i] := by rw [List.getD_eq_getElem?_getD, List.getElem?_eq_getElem h]; rfl
theorem list_extP {l r : List Prt} (h : l.length = r.length) (h2 : ∀ i, i < l.length → l.getD i pr0 = r.getD i pr0) : l = r := by
  apply List.ext_getElem h
  intro i h3 h4
  have := h2 i h3
  rwa [pgetD _ _ h3, pgetD _ _ h4] at this
theorem cellsP_one (l : List Prt) : ∀ u ∈ cellsOfP l, u.oneCell' = true := by
  induction l with
  | nil => intro u h; cases h
  | cons x l ih =>
    intro u h
    simp only [cellsOfP, List.mem_cons] at h
    rcases h with rfl | rfl | rfl | rfl | rfl | h
    · rfl
    · rfl
    · rfl
    · rfl
    · rfl
    · exact ih u h
/-- The cells of a slice of parts, one by one: what an append reads. -/
theorem srcP {w : World} {b off : Nat} {l : List Prt} (h : CellsP w b off l) : ∀ j u, (cellsOfP l)[j]? = some u → w.cell? ((⟨b, off, none⟩ : Addr).add j) = some u := by
  intro j u hu
  have hj := (List.getElem?_eq_some_iff.1 hu).1
  rw [cellsOfP_len] at hj
  have ad : (⟨b, off, none⟩ : Addr).add j = ⟨b, off + j, none⟩ := by
    unfold Addr.add
    by_cases c : j = 0
    · subst c; simp
    · simp [c]
  rw [ad]
  obtain ⟨i, r, hr, rfl⟩ : ∃ i r, r < 5 ∧ j = i * 5 + r := ⟨j / 5, j % 5, Nat.mod_lt _ (by decide), by omega⟩
  have hi : i < l.length := by omega
  obtain ⟨g0, g1, g2, g3, g4⟩ := cellsOfP_get l i hi
  obtain ⟨h0, h1, h2, h3, h4⟩ := h i hi
  have : r = 0 ∨ r = 1 ∨ r = 2 ∨ r = 3 ∨ r = 4 := by omega
  rcases this with rfl | rfl | rfl | rfl | rfl
  · rw [Nat.add_zero] at hu; rw [Nat.add_zero, h0, ← g0, hu]
  · rw [← Nat.add_assoc, h1, ← g1, hu]
  · rw [← Nat.add_assoc, h2, ← g2, hu]
  · rw [← Nat.add_assoc, h3, ← g3, hu]
  · rw [← Nat.add_assoc, h4, ← g4, hu]
theorem cellsP_part {w : World} {b off : Nat} {A B C : List Prt} (h : CellsP w b off (A ++ (B ++ C))) : CellsP w b (off + A.length * 5) B := fun i hi => by
  have h2 := h (A.length + i) (by simp; omega)
  have e : (A ++ (B ++ C)).getD (A.length + i) pr0 = B.getD i pr0 := by
    rw [List.getD_eq_getElem?_getD, List.getD_eq_getElem?_getD, List.getElem?_append_right (by omega), List.getElem?_append_left (by omega)]
    congr 2; omega
  rw [e, show off + (A.length + i) * 5 = off + A.length * 5 + i * 5 by omega] at h2
  exact h2
theorem argP_take {w : World} {a : Option Addr} {l : List Prt} (n : Nat) (h : ArgP w a l) : ArgP w a (l.take n) := fun hl => by
  obtain ⟨b, off, e, h1, h2⟩ := h (by simp at hl; omega)
  refine ⟨b, off, e, h1, fun i hi => ?_⟩
  have hn : i < n ∧ i < l.length := by simp at hi; omega
  have e2 : (l.take n).getD i pr0 = l.getD i pr0 := by rw [List.getD_eq_getElem?_getD, List.getD_eq_getElem?_getD, List.getElem?_take, if_pos hn.1]
  rw [e2]
  exact h2 i hn.2
end Go.Proofs.YtioalnncjahlnaaGreatDoor

namespace Go.Proofs.YtioalnncjahlnaaGreatDoor
open Go.ChangeShapes Go.WideShapes Go.ChangeAt Go.RowKit

instance : Inhabited Prt := ⟨pr0⟩
section
variable {H : Type} {enc : TypeId × Value → H} {P : Program}
theorem wfI64 {n : Int} (h : (Lit.int .i64 n).wf = true) : -9223372036854775808 ≤ n ∧ n ≤ 9223372036854775807 := by simpa [Lit.wf, IntKind.min, IntKind.max, IntKind.signed, IntKind.bits] using h
theorem wfU8 {n : Int} (h : (Lit.int .u8 n).wf = true) : 0 ≤ n ∧ n ≤ 255 := by simpa [Lit.wf, IntKind.min, IntKind.max, IntKind.signed, IntKind.bits] using h
theorem wfU32 {n : Int} (h : (Lit.int .u32 n).wf = true) : 0 ≤ n ∧ n ≤ 4294967295 := by simpa [Lit.wf, IntKind.min, IntKind.max, IntKind.signed, IntKind.bits] using h
theorem open_parts {ts e tk tu ti tn : TypeId} {f0 f1 f2 f3 f4 : Field} {W : World} {v : Value} {x : DataW H × List MemPlace} {fuel : Nat} (hs : P.underlying ts = some (.slice e)) (he : P.underlying e = some (.struct #[f0, f1, f2, f3, f4]))
    (ce : P.cellsOf e = 5) (o0 : f0.offset = 0) (o1 : f1.offset = 1) (o2 : f2.offset = 2) (o3 : f3.offset = 3) (o4 : f4.offset = 4) (t0 : f0.type = tk) (t1 : f1.type = tu) (t2 : f2.type = tu) (t3 : f3.type = ti) (t4 : f4.type = tn)
    (ck : P.cellsOf tk = 1) (cu : P.cellsOf tu = 1) (ci : P.cellsOf ti = 1) (cn : P.cellsOf tn = 1) (hk : P.underlying tk = some (.int .u8)) (hu : P.underlying tu = some (.int .u32)) (hi : P.underlying ti = some (.int .i64)) (hn : P.underlying tn = some (.int .i64))
    (hf : DataW.trod enc P W 0 (fun _ => true) true fuel ts [v] = some x) :
    ∃ (l : List Prt) (a : Option Addr) (cap : Nat), v = .slice a l.length cap ∧ l.length ≤ cap ∧ cap ≤ 9223372036854775807 ∧ ArgP W a l ∧ ∀ x ∈ l, PrtW x := by
  rcases Deep.open_slice hs hf with ⟨hcs, _⟩ | ⟨a', len', cap', m, n, D, Pl, hcs, _, hlc, hcm, hm, _, hx⟩
  · simp at hcs
    exact ⟨[], none, 0, hcs, by simp, by omega, fun h => by simp at h, fun x hx => by simp at hx⟩
  · simp at hcs
    subst hcs
    have hlen : len' ≤ m := by rw [hm]; simpa using hlc
    have each : ∀ i, i < len' → ∃ s : Prt, (W.cell? (a'.add (i * 5)) = some (.int .u8 s.kind) ∧ W.cell? ((a'.add (i * 5)).add 1) = some (.int .u32 s.n) ∧ W.cell? ((a'.add (i * 5)).add 2) = some (.int .u32 s.g) ∧ W.cell? ((a'.add (i * 5)).add 3) = some (.int .i64 s.d) ∧ W.cell? ((a'.add (i * 5)).add 4) = some (.int .i64 s.kids)) ∧ PrtW s := fun i hi' => by
      obtain ⟨cs', hc, ht⟩ := hx i (by omega)
      rw [ce] at hc
      obtain ⟨_, hcl, hat⟩ := World.cells?_some hc
      obtain ⟨ys, n', _, _, hl1, hyl, hfs⟩ := DataW.trod_struct he ht
      have h0 := hfs 0 f0 rfl
      have h1 := hfs 1 f1 rfl
      have h2 := hfs 2 f2 rfl
      have h3 := hfs 3 f3 rfl
      have h4 := hfs 4 f4 rfl
      rw [o0, t0, ck] at h0
      rw [o1, t1, cu] at h1
      rw [o2, t2, cu] at h2
      rw [o3, t3, ci] at h3
      rw [o4, t4, cn] at h4
      match cs', hcl with
      | [c0, c1, c2, c3, c4], _ =>
        match ys, hyl with
        | [y0, y1, y2, y3, y4], _ =>
          simp at h0 h1 h2 h3 h4
          obtain ⟨z0, e0, _, w0⟩ := DataW.trod_int hk h0
          obtain ⟨z1, e1, _, w1⟩ := DataW.trod_int hu h1
          obtain ⟨z2, e2, _, w2⟩ := DataW.trod_int hu h2
          obtain ⟨z3, e3, _, w3⟩ := DataW.trod_int hi h3
          obtain ⟨z4, e4, _, w4⟩ := DataW.trod_int hn h4
          simp at e0 e1 e2 e3 e4
          subst e0 e1 e2 e3 e4
          have a0 := hat 0 (by omega)
          have a1 := hat 1 (by omega)
          have a2 := hat 2 (by omega)
          have a3 := hat 3 (by omega)
          have a4 := hat 4 (by omega)
          simp at a1 a2 a3 a4
          have b0 := wfU8 w0
          have b1 := wfU32 w1
          have b2 := wfU32 w2
          refine ⟨⟨z0.toNat, z1.toNat, z2.toNat, z3, z4⟩, ⟨?_, ?_, ?_, a3, a4⟩, ?_, ?_, ?_, wfI64 w3, wfI64 w4⟩
          · have ea : (a'.add (i * 5)).add 0 = a'.add (i * 5) := by simp [Addr.add]
            rw [ea] at a0
            simp only [Int.toNat_of_nonneg b0.1]
            simpa using a0
          · simp only [Int.toNat_of_nonneg b1.1]; exact a1
          · simp only [Int.toNat_of_nonneg b2.1]; exact a2
          · show z0.toNat ≤ 255; omega
          · show z1.toNat ≤ 4294967295; omega
          · show z2.toNat ≤ 4294967295; omega
    obtain ⟨F, hF⟩ := Deep.choose_lt each
    refine ⟨(List.range len').map F, some a', cap', by simp, by simp; omega, by unfold maxLen at hcm; omega, fun hl => ?_, fun x hx => ?_⟩
    · simp at hl
      have hc00 := (hF 0 hl).1.1
      obtain ⟨b, off, spot⟩ := a'
      have hsp : spot = none := by
        cases spot with
        | none => rfl
        | some s => simp [Addr.add, World.cell?] at hc00; split at hc00 <;> simp at hc00
      subst hsp
      have hb : b < W.heap.size := by
        apply Nat.lt_of_not_le
        intro hge
        simp [Addr.add, World.cell?, Array.getElem?_eq_none hge] at hc00
      refine ⟨b, off, rfl, hb, fun i hi => ?_⟩
      have hi' : i < len' := by simpa using hi
      have hg : ((List.range len').map F).getD i pr0 = F i := by simp [List.getD_eq_getElem?_getD, hi']
      obtain ⟨⟨h1, h2, h3, h4, h5⟩, _⟩ := hF i hi'
      have ad : ∀ x y : Nat, (⟨b, x, none⟩ : Addr).add y = ⟨b, x + y, none⟩ := fun x y => by
        unfold Addr.add
        by_cases c : y = 0
        · subst c; simp
        · simp [c]
      rw [ad] at h1 h2 h3 h4 h5
      rw [ad] at h2 h3 h4 h5
      rw [hg]
      exact ⟨h1, h2, h3, h4, h5⟩
    · rw [List.mem_map] at hx
      obtain ⟨i, hi, rfl⟩ := hx
      exact (hF i (by simpa using hi)).2
end
set_option maxRecDepth 100000 in
theorem cellsPart : Tryz.prog.cellsOf 35 = 5 := by kernel_rfl
set_option maxRecDepth 100000 in
theorem cellsDef : Tryz.prog.cellsOf 24 = 3 := by kernel_rfl
set_option maxRecDepth 100000 in
theorem cells4 : Tryz.prog.cellsOf 5 = 1 ∧ Tryz.prog.cellsOf 33 = 1 ∧ Tryz.prog.cellsOf 2 = 1 ∧ Tryz.prog.cellsOf 3 = 1 := ⟨by kernel_rfl, by kernel_rfl, by kernel_rfl, by kernel_rfl⟩
set_option maxRecDepth 100000 in
/-- For this program. -/
theorem open_defP {H : Type} {enc : TypeId × Value → H} {W : World} {v : Value} {d : DataW H} {p : List MemPlace} {r : Reach} {b0 : Nat} (ho : Value.okWide Tryz.prog W r b0 24 v) (h : DataW.Trod enc Tryz.prog W 0 (fun _ => true) true 24 v d p) :
    ∃ (fr to' : Int) (l : List Prt) (a : Option Addr) (cap : Nat), v = defV fr to' a l.length cap ∧ (-9223372036854775808 ≤ fr ∧ fr ≤ 9223372036854775807) ∧ (-9223372036854775808 ≤ to' ∧ to' ≤ 9223372036854775807) ∧ l.length ≤ cap ∧ cap ≤ 9223372036854775807 ∧ ArgP W a l ∧ ∀ x ∈ l, PrtW x := by
  obtain ⟨v0, v1, v2, y0, y1, y2, n, rfl, rfl, rfl, h0, h1, h2⟩ := Joins.open_agg3 (P := Tryz.prog) Tryz.underlying24 (by kernel_rfl) cellsDef ho h
  obtain ⟨z0, e0, _, w0⟩ := DataW.trod_int Tryz.underlying2 h0
  obtain ⟨z1, e1, _, w1⟩ := DataW.trod_int Tryz.underlying2 h1
  simp at e0 e1
  subst e0 e1
  obtain ⟨l, a, cap, rfl, hl, hc, hA, hp⟩ := open_parts (P := Tryz.prog) Tryz.underlying22 Tryz.underlying35 cellsPart rfl rfl rfl rfl rfl rfl rfl rfl rfl rfl cells4.1 cells4.2.1 cells4.2.2.1 cells4.2.2.2 Tryz.underlying5 Tryz.underlying33 Tryz.underlying2 Tryz.underlying3 h2
  exact ⟨z0, z1, l, a, cap, rfl, wfI64 w0, wfI64 w1, hl, hc, hA, hp⟩
end Go.Proofs.YtioalnncjahlnaaGreatDoor

namespace Go.Proofs.YtioalnncjahlnaaGreatDoor
open Go.ChangeShapes Go.WideShapes Go.ChangeAt Go.RowKit
attribute [local irreducible] Go.Calls

/-- Bytes as a string's value. -/
abbrev strV (l : List UInt8) : Value := .string ⟨l.toArray⟩
def tk0 : Tok := ⟨0, [], 0, 0⟩
/-- A token's value. -/
abbrev tokV (t : Tok) : Value := .agg #[.int .u8 t.kind, strV t.text, .int .i64 t.num, .int .i64 t.pos]
/-- The tokens that a slice's cells hold. -/
def CellsT (w : World) (b off : Nat) (l : List Tok) : Prop :=
  ∀ i, i < l.length → w.cell? ⟨b, off + i * 4, none⟩ = some (.int .u8 (l.getD i tk0).kind) ∧ w.cell? ⟨b, off + i * 4 + 1, none⟩ = some (strV (l.getD i tk0).text) ∧ w.cell? ⟨b, off + i * 4 + 2, none⟩ = some (.int .i64 (l.getD i tk0).num) ∧ w.cell? ⟨b, off + i * 4 + 3, none⟩ = some (.int .i64 (l.getD i tk0).pos)
/-- A slice that reads as the list: where it is not empty it lies in a block of the world's. -/
def ArgT (w : World) (a : Option Addr) (l : List Tok) : Prop := 0 < l.length → ∃ b off, a = some ⟨b, off, none⟩ ∧ b < w.heap.size ∧ CellsT w b off l
theorem CellsT.below {w w' : World} {b off B : Nat} {l : List Tok} (h : CellsT w b off l) (hb : Below B w w') (hB : b < B) : CellsT w' b off l := fun i hi => by
  obtain ⟨h1, h2, h3, h4⟩ := h i hi
  exact ⟨(hb.cell (p := ⟨b, _, none⟩) hB).trans h1, (hb.cell (p := ⟨b, _, none⟩) hB).trans h2, (hb.cell (p := ⟨b, _, none⟩) hB).trans h3, (hb.cell (p := ⟨b, _, none⟩) hB).trans h4⟩
theorem ArgT.past {w w' : World} {a : Option Addr} {l : List Tok} (h : ArgT w a l) (hb : Below w.heap.size w w') : ArgT w' a l := fun hl => by
  obtain ⟨b, off, e, h1, h2⟩ := h hl
  exact ⟨b, off, e, Nat.lt_of_lt_of_le h1 hb.size, h2.below hb h1⟩
/-- The cells of a list of tokens. -/
def cellsOfT : List Tok → List Value
  | [] => []
  | t :: r => .int .u8 t.kind :: strV t.text :: .int .i64 t.num :: .int .i64 t.pos :: cellsOfT r
theorem cellsOfT_len : ∀ l, (cellsOfT l).length = l.length * 4
  | [] => rfl
  | s :: r => by simp only [cellsOfT, List.length_cons, cellsOfT_len r]; omega
theorem cellsOfT_app : ∀ l r, cellsOfT (l ++ r) = cellsOfT l ++ cellsOfT r
  | [], _ => rfl
  | s :: l, r => by simp only [cellsOfT, List.cons_append, cellsOfT_app l r]
theorem cellsOfT_get : ∀ (l : List Tok) (i : Nat), i < l.length → (cellsOfT l)[i * 4]? = some (.int .u8 (l.getD i tk0).kind) ∧ (cellsOfT l)[i * 4 + 1]? = some (strV (l.getD i tk0).text) ∧ (cellsOfT l)[i * 4 + 2]? = some (.int .i64 (l.getD i tk0).num) ∧ (cellsOfT l)[i * 4 + 3]? = some (.int .i64 (l.getD i tk0).pos)
  | [], i, h => by simp at h
  | s :: l, 0, _ => ⟨rfl, rfl, rfl, rfl⟩
  | s :: l, i + 1, h => by
    obtain ⟨h1, h2, h3, h4⟩ := cellsOfT_get l i (by simp at h; omega)
    have e : ∀ j, (cellsOfT (s :: l))[(i + 1) * 4 + j]? = (cellsOfT l)[i * 4 + j]? := fun j => by
      simp only [cellsOfT]
      rw [show (i + 1) * 4 + j = i * 4 + j + 1 + 1 + 1 + 1 by omega]
      simp only [List.getElem?_cons_succ]
    exact ⟨(e 0).trans h1, (e 1).trans h2, (e 2).trans h3, (e 3).trans h4⟩
theorem new_cellsT (w : World) (cs : Array Value) (t : TypeId) : ∀ j u, cs.toList[j]? = some u → (w.alloc (.cells cs t)).cell? ((⟨w.heap.size, 0, none⟩ : Addr).add j) = some u := by
  intro j u h
  have e : ((⟨w.heap.size, 0, none⟩ : Addr).add j) = ⟨w.heap.size, j, none⟩ := by
    unfold Addr.add
    by_cases c : j = 0
    · subst c; simp
    · simp [c]
  rw [e, (Blk.made w cs t).cell j, ← h, Array.getElem?_toList]
/-- A slice value that reads as the list of tokens. -/
def SliT (w : World) (v : Value) (l : List Tok) : Prop := ∃ (a : Option Addr) (cap : Nat), v = .slice a l.length cap ∧ l.length ≤ cap ∧ cap ≤ 9223372036854775807 ∧ ArgT w a l
theorem SliT.past {w w' : World} {v : Value} {l : List Tok} (h : SliT w v l) (hb : Below w.heap.size w w') : SliT w' v l := by
  obtain ⟨a, cap, h1, h2, h3, h4⟩ := h
  exact ⟨a, cap, h1, h2, h3, h4.past hb⟩
theorem sliT_nil (w : World) : SliT w (.slice none 0 0) [] := ⟨none, 0, rfl, Nat.le_refl _, by omega, fun h => by simp at h⟩
/-- What a call has appended to reads as a slice. -/
theorem sliT_own {w : World} {base : Nat} {e : TypeId} {v : Value} {l : List Tok} (h : w.ownsRow base e 4 v l.length (cellsOfT l)) : SliT w v l := by
  obtain ⟨h1, h2 | ⟨g, cap, cur, rfl, h3, h4, h5, h6, h7, h8⟩⟩ := h
  · obtain ⟨rfl, h2⟩ := h2
    have : l = [] := List.eq_nil_of_length_eq_zero h2
    subst this
    exact sliT_nil w
  · refine ⟨some ⟨g, 0, none⟩, cap, rfl, h5, by unfold maxLen at h6; omega, fun _ => ⟨g, 0, rfl, lt_of_block h4, fun i hi => ?_⟩⟩
    have hg := cellsOfT_get l i hi
    have hc : ∀ j x, j < l.length * 4 → (cellsOfT l)[j]? = some x → w.cell? ⟨g, j, none⟩ = some x := fun j x hj hx => by
      have e : w.cell? ⟨g, j, none⟩ = cur[j]? := by simp [World.cell?, h4]
      rw [e, ← Array.getElem?_toList]
      rw [← h8, List.getElem?_take, if_pos hj] at hx
      exact hx
    simp only [Nat.zero_add]
    exact ⟨hc _ _ (by omega) hg.1, hc _ _ (by omega) hg.2.1, hc _ _ (by omega) hg.2.2.1, hc _ _ (by omega) hg.2.2.2⟩
/-- A new block of tokens reads as a slice. -/
theorem argT_blk {w : World} {p : Nat} {l : List Tok} {t : TypeId} (h : Blk w p (cellsOfT l).toArray t) : ArgT w (some ⟨p, 0, none⟩) l := fun _ =>
  ⟨p, 0, rfl, h.lt, fun i hi => by
    obtain ⟨h1, h2, h3, h4⟩ := cellsOfT_get l i hi
    simp only [Nat.zero_add]
    have q : ∀ j, w.cell? ⟨p, j, none⟩ = (cellsOfT l)[j]? := fun j => (h.cell j).trans (by simp)
    exact ⟨(q _).trans h1, (q _).trans h2, (q _).trans h3, (q _).trans h4⟩⟩
/-- What a call of Lex hands back, where the answer is known: the tokens, or the place of what is none, and the error. -/
def LexIs (w : World) (l : List Tok) (p : Nat) (er : Int) (e : Ending) (w' : World) : Prop := ∃ v : Value, e = .returned (.tuple #[v, .int .i64 p, .int .i64 er]) ∧ SliT w' v l ∧ Below w.heap.size w w'
/-- Lex, as the document has it. -/
def lexS (s : List UInt8) : List Tok × Nat × Int := if 4096 < s.length then ([], 0, 3) else match lexG 0 s with
  | .ok l => (l, 0, 0)
  | .error p => ([], p, 60)
/-- The same tokens, but for their places, or with them. -/
def noPos (t : Tok) : Tok := { t with pos := 0 }
def sameT (b : Bool) (l r : List Tok) : Bool := decide (if b then l = r else l.map noPos = r.map noPos)
end Go.Proofs.YtioalnncjahlnaaGreatDoor

namespace Go.Proofs.YtioalnncjahlnaaGreatDoor

def whB (z : Int) : UInt8 := if z % 4 = 0 then 32 else if z % 4 = 1 then 9 else if z % 4 = 2 then 10 else 13
theorem whB_white (z : Int) : whiteB (whB z) = true := by
  unfold whB
  split
  · decide
  · split
    · decide
    · split <;> decide
def whL (l : List Int) : List UInt8 := l.map whB
theorem whL_len (l : List Int) : (whL l).length = l.length := by unfold whL; simp
theorem whL_white (l : List Int) : (whL l).all whiteB = true := by
  rw [List.all_eq_true]
  intro c hc
  obtain ⟨z, _, rfl⟩ := List.mem_map.1 hc
  exact whB_white z
theorem whL_take {l : List Int} {i : Nat} (h : i < l.length) : whL (l.take (i + 1)) = whL (l.take i) ++ [whB (l.getD i 0)] := by
  unfold whL
  rw [List.take_add_one, List.getElem?_eq_getElem h, List.map_append, List.getD_eq_getElem?_getD, List.getElem?_eq_getElem h]
  rfl
theorem wh_same (d k : Nat) (l : List Tok) : sameT false l (whiteG d k l) = true := by
  unfold sameT
  refine decide_eq_true ?_
  simp only [Bool.false_eq_true, if_false]
  unfold whiteG shiftG
  rw [List.map_append, List.map_map, show (noPos ∘ fun t : Tok => { t with pos := t.pos + d }) = noPos from rfl, ← List.map_append, List.take_append_drop]
theorem wh_len (d k : Nat) (l : List Tok) : (whiteG d k l).length = l.length := by
  unfold whiteG shiftG
  rw [List.length_append, List.length_map, List.length_take, List.length_drop]
  omega
theorem tgetD (l : List Tok) (i : Nat) (h : i < l.length) : l.getD i tk0 = l[i] := by rw [List.getD_eq_getElem?_getD, List.getElem?_eq_getElem h]; rfl
theorem wh_pos {d k : Nat} {l : List Tok} {i : Nat} (h : i < l.length) : ((whiteG d k l).getD i tk0).pos = if k ≤ i then (l.getD i tk0).pos + d else (l.getD i tk0).pos := by
  rw [tgetD _ _ (by rw [wh_len]; exact h), tgetD _ _ h]
  unfold whiteG shiftG
  by_cases c : k ≤ i
  · rw [if_pos c, List.getElem_append_right (by rw [List.length_take]; omega), List.getElem_map, List.getElem_drop]
    simp only [List.length_take]
    congr 3
    omega
  · rw [if_neg c, List.getElem_append_left (by rw [List.length_take]; omega), List.getElem_take]
theorem wh_put {s : List UInt8} {l : List Tok} {k : Nat} {m : List UInt8} (h : lexG 0 s = .ok l) (hm : m.all whiteB = true) (hk : k < l.length) :
    lexG 0 (s.take (l.getD k tk0).pos ++ m ++ s.drop (l.getD k tk0).pos) = .ok (whiteG m.length k l) := by
  rw [List.append_assoc]
  exact lex_white h hm (by rw [List.getElem?_eq_getElem hk, tgetD _ _ hk])
theorem lex_pos {s : List UInt8} {l : List Tok} {k : Nat} (h : lexG 0 s = .ok l) (hk : k < l.length) : (l.getD k tk0).pos + (l.getD k tk0).text.length ≤ s.length := by
  have := (spells_pos l 0 s k (l.getD k tk0) (lexG_spells s.length s 0 l (Nat.le_refl _) h) (by rw [List.getElem?_eq_getElem hk, tgetD _ _ hk])).2
  omega
/-- There are no more tokens than bytes. -/
theorem spells_count : ∀ (l : List Tok) (p : Nat) (s : List UInt8), Spells p s l → l.length ≤ s.length
  | [], _, _, _ => by simp
  | t :: l, p, s, ⟨w, r, e, h1, h2, h3, h4, h5⟩ => by
    have ih := spells_count l _ r h5
    obtain ⟨c, r', e2⟩ := text_head h3
    rw [e, e2]
    simp only [List.length_append, List.length_cons]
    omega
theorem lex_count {s : List UInt8} {l : List Tok} (h : lexG 0 s = .ok l) : l.length ≤ s.length := spells_count l 0 s (lexG_spells s.length s 0 l (Nat.le_refl _) h)
/-- Pieces of a text. -/
theorem str_take (s : List UInt8) (p : Nat) : (⟨s.toArray⟩ : ByteArray).extract 0 p = ⟨(s.take p).toArray⟩ := by
  rw [ByteArray.ext_iff, ByteArray.data_extract]
  simp
theorem str_drop (s : List UInt8) (p : Nat) (n : Nat) (hn : n = s.length) : (⟨s.toArray⟩ : ByteArray).extract p n = ⟨(s.drop p).toArray⟩ := by
  rw [ByteArray.ext_iff, ByteArray.data_extract]
  subst hn
  simp
  exact List.take_of_length_le (by rw [List.length_drop]; exact Nat.le_refl _)
theorem str_mid (s : List UInt8) (p q : Nat) : (⟨s.toArray⟩ : ByteArray).extract p q = ⟨((s.drop p).take (q - p)).toArray⟩ := by
  rw [ByteArray.ext_iff, ByteArray.data_extract]
  simp
end Go.Proofs.YtioalnncjahlnaaGreatDoor

namespace Go.Proofs.YtioalnncjahlnaaGreatDoor

/-- Where a token's search begins, and where it must end. -/
def begT (p : Nat) (l : List Tok) (i : Nat) : Nat := if i = 0 then p else (l.getD (i - 1) tk0).pos + (l.getD (i - 1) tk0).text.length
def endT (p : Nat) (s : List UInt8) (l : List Tok) (i : Nat) : Nat := if i < l.length then (l.getD i tk0).pos else p + s.length
structure TokAt (p : Nat) (s : List UInt8) (l : List Tok) (i : Nat) : Prop where
  p0 : p ≤ begT p l i
  le : begT p l i ≤ endT p s l i
  ls : endT p s l i ≤ p + s.length
  white : ∀ q, begT p l i ≤ q → q < endT p s l i → whiteB (s.getD (q - p) 0) = true
  pos : i < l.length → 0 < (l.getD i tk0).text.length
  fit : i < l.length → (l.getD i tk0).pos + (l.getD i tk0).text.length ≤ p + s.length
  text : i < l.length → (s.drop ((l.getD i tk0).pos - p)).take (l.getD i tk0).text.length = (l.getD i tk0).text
theorem all_getD {f : UInt8 → Bool} {s : List UInt8} (h : s.all f = true) {i : Nat} (hi : i < s.length) : f (s.getD i 0) = true := by
  rw [List.all_eq_true] at h
  rw [List.getD_eq_getElem?_getD, List.getElem?_eq_getElem hi]
  exact h _ (List.getElem_mem hi)
theorem getD_app1 {a b : List UInt8} {i : Nat} (h : i < a.length) : (a ++ b).getD i 0 = a.getD i 0 := by
  simp only [List.getD_eq_getElem?_getD]
  rw [List.getElem?_append_left h]
theorem getD_app2 {a b : List UInt8} {i : Nat} (h : a.length ≤ i) : (a ++ b).getD i 0 = b.getD (i - a.length) 0 := by
  simp only [List.getD_eq_getElem?_getD]
  rw [List.getElem?_append_right h]
theorem spells_at : ∀ (l : List Tok) (p : Nat) (s : List UInt8), Spells p s l → ∀ i, i ≤ l.length → TokAt p s l i
  | [], p, s, h, i, hi => by
    have h' : s.all whiteB = true := h
    have h0 : i = 0 := by simpa using hi
    subst h0
    have e1 : begT p [] 0 = p := rfl
    have e2 : endT p s [] 0 = p + s.length := rfl
    refine ⟨by rw [e1]; exact Nat.le_refl _, by rw [e1, e2]; omega, by rw [e2]; exact Nat.le_refl _, fun q h1 h2 => ?_, fun h => by simp at h, fun h => by simp at h, fun h => by simp at h⟩
    rw [e1] at h1; rw [e2] at h2
    exact all_getD h' (by omega)
  | t :: l, p, s, ⟨w, r, e, h1, h2, h3, h4, h5⟩, 0, _ => by
    have e1 : begT p (t :: l) 0 = p := rfl
    have e2 : endT p s (t :: l) 0 = t.pos := rfl
    have e3 : (t :: l).getD 0 tk0 = t := rfl
    obtain ⟨c, r', ec⟩ := text_head h3
    have hl := congrArg List.length e
    simp only [List.length_append] at hl
    refine ⟨by rw [e1]; exact Nat.le_refl _, by rw [e1, e2]; omega, by rw [e2]; omega, fun q q1 q2 => ?_, fun _ => by rw [e3, ec]; simp, fun _ => by rw [e3]; omega, fun _ => ?_⟩
    · rw [e1] at q1; rw [e2] at q2
      rw [e, List.append_assoc, getD_app1 (by omega)]
      exact all_getD h1 (by omega)
    · rw [e3, h2, show p + w.length - p = w.length by omega, e, List.append_assoc, List.drop_left' rfl, List.take_left' rfl]
  | t :: l, p, s, ⟨w, r, e, h1, h2, h3, h4, h5⟩, i + 1, hi => by
    simp only [List.length_cons] at hi
    have ih := spells_at l _ r h5 i (by omega)
    have hl := congrArg List.length e
    simp only [List.length_append] at hl
    have e1 : begT p (t :: l) (i + 1) = begT (p + w.length + t.text.length) l i := by
      unfold begT
      rw [if_neg (by omega)]
      cases i with
      | zero => rw [if_pos rfl]; show t.pos + t.text.length = _; omega
      | succ i => rw [if_neg (by omega)]; rfl
    have e2 : endT p s (t :: l) (i + 1) = endT (p + w.length + t.text.length) r l i := by
      unfold endT
      by_cases c : i < l.length
      · rw [if_pos c, if_pos (by simp only [List.length_cons]; omega)]; rfl
      · rw [if_neg c, if_neg (by simp only [List.length_cons]; omega)]; omega
    have e3 : (t :: l).getD (i + 1) tk0 = l.getD i tk0 := rfl
    have hp0 := ih.p0
    have hls := ih.ls
    refine ⟨by rw [e1]; omega, by rw [e1, e2]; exact ih.le, by rw [e2]; omega, fun q q1 q2 => ?_, fun h => by rw [e3]; exact ih.pos (by simpa using h), fun h => by rw [e3]; have := ih.fit (by simpa using h); omega, fun h => ?_⟩
    · rw [e1] at q1; rw [e2] at q2
      have := ih.white q q1 q2
      rw [e, getD_app2 (by rw [List.length_append]; omega), List.length_append, show q - p - (w.length + t.text.length) = q - (p + w.length + t.text.length) by omega]
      exact this
    · have hi' : i < l.length := by simpa using h
      have := ih.text hi'
      have hpi : begT (p + w.length + t.text.length) l i ≤ (l.getD i tk0).pos := by
        have := ih.le
        unfold endT at this
        rw [if_pos hi'] at this
        exact this
      rw [e3, e, show (l.getD i tk0).pos - p = (w ++ t.text).length + ((l.getD i tk0).pos - (p + w.length + t.text.length)) by rw [List.length_append]; omega, List.drop_length_add_append]
      exact this
theorem lex_at {s : List UInt8} {l : List Tok} (h : lexG 0 s = .ok l) {i : Nat} (hi : i ≤ l.length) : TokAt 0 s l i := spells_at l 0 s (lexG_spells s.length s 0 l (Nat.le_refl _) h) i hi
/-- The text of tokens is not so long. -/
theorem textG_cons (t : Tok) (l : List Tok) : (textG (t :: l)).length ≤ t.text.length + 1 + (textG l).length := by
  cases l with
  | nil => simp only [textG, List.length_nil]; omega
  | cons u l =>
    show (t.text ++ (if gapB t u then 32 :: textG (u :: l) else textG (u :: l))).length ≤ _
    rw [List.length_append]
    split
    · simp only [List.length_cons]; omega
    · omega
theorem spells_text : ∀ (l : List Tok) (p : Nat) (s : List UInt8), Spells p s l → (textG l).length ≤ 2 * s.length
  | [], _, _, _ => by simp [textG]
  | t :: l, p, s, ⟨w, r, e, h1, h2, h3, h4, h5⟩ => by
    have ih := spells_text l _ r h5
    have := textG_cons t l
    obtain ⟨c, r', ec⟩ := text_head h3
    have hl := congrArg List.length e
    have hc := congrArg List.length ec
    simp only [List.length_append, List.length_cons] at hl hc
    omega
theorem lex_text {s : List UInt8} {l : List Tok} (h : lexG 0 s = .ok l) : (textG l).length ≤ 2 * s.length := spells_text l 0 s (lexG_spells s.length s 0 l (Nat.le_refl _) h)
theorem place_same : ∀ (l : List Tok) (p : Nat), (placeG p l).map noPos = l.map noPos
  | [], _ => rfl
  | [t], _ => rfl
  | t :: u :: l, p => by
    have ih := place_same (u :: l) (p + t.text.length + (if gapB t u then 1 else 0))
    show noPos { t with pos := p } :: (placeG _ (u :: l)).map noPos = noPos t :: (u :: l).map noPos
    rw [ih]
    rfl
theorem place_len (l : List Tok) (p : Nat) : (placeG p l).length = l.length := by
  have := congrArg List.length (place_same l p)
  simpa using this
theorem back_same (l : List Tok) : sameT false l (placeG 0 l) = true := by
  unfold sameT
  refine decide_eq_true ?_
  simp only [Bool.false_eq_true, if_false]
  exact (place_same l 0).symm
theorem byte_at (s : List UInt8) {q : Nat} (h : q < (⟨s.toArray⟩ : ByteArray).size) : (⟨s.toArray⟩ : ByteArray)[q]'h = s.getD q 0 := by
  have h2 : q < s.length := by simpa [ByteArray.size] using h
  rw [List.getD_eq_getElem?_getD, List.getElem?_eq_getElem h2]
  rfl
end Go.Proofs.YtioalnncjahlnaaGreatDoor

namespace Go.Proofs.YtioalnncjahlnaaGreatDoor

/-- The words. -/
def wordK : Nat → List UInt8
  | 0 => [97, 116, 111, 109]
  | 1 => [111, 114, 100, 101, 114]
  | 2 => [110, 101, 120, 116]
  | 3 => [97, 110, 121]
  | _ => [97, 108, 108]
/-- A part that a text can have: an atom with its numbers and no children, or another one with some. -/
def okP (x : Prt) (kids : Fst) : Prop := (x.kind = 0 ∧ x.n ≤ 4294967295 ∧ x.g ≤ 4294967295 ∧ 0 ≤ x.d ∧ x.d ≤ 1099511627776 ∧ kids = .nil) ∨ (1 ≤ x.kind ∧ x.kind ≤ 4 ∧ x.n = 0 ∧ x.g = 0 ∧ x.d = 0 ∧ kids ≠ .nil)
/-- And nothing but the part's own number of children is kept beside it. -/
def Fst.wf : Fst → Prop
  | .nil => True
  | .cons x kids next => okP x kids ∧ x.kids = 0 ∧ kids.wf ∧ next.wf
def tokN (n : Int) : Tok := ⟨1, digG n.toNat, n, 0⟩
def tokO : Tok := ⟨2, [40], 0, 0⟩
def tokC : Tok := ⟨3, [41], 0, 0⟩
def tokW (w : List UInt8) : Tok := ⟨0, w, 0, 0⟩
def tokL : Tok := ⟨4, [58], 0, 0⟩
/-- The tokens of terms. -/
def Fst.toks : Fst → List Tok
  | .nil => []
  | .cons x kids next => tokO :: tokW (wordK x.kind) :: ((if x.kind = 0 then [tokN x.n, tokN x.g, tokN x.d] else []) ++ (kids.toks ++ tokC :: next.toks))
/-- The kind that a word token says. -/
def kindW (t : Tok) : Option Nat := if t.kind ≠ 0 then none else if t.text = wordK 0 then some 0 else if t.text = wordK 1 then some 1 else if t.text = wordK 2 then some 2 else if t.text = wordK 3 then some 3 else if t.text = wordK 4 then some 4 else none
/-- An error: its number, and the place, or the end. -/
abbrev PErr := Int × Option Nat
def errT (e : Int) : List Tok → PErr
  | [] => (e, none)
  | t :: _ => (e, some t.pos)
def takeT (k : Nat) : List Tok → Except PErr (List Tok)
  | [] => .error (70, none)
  | t :: l => if t.kind = k then .ok l else .error (70, some t.pos)
def numT (lim : Int) : List Tok → Except PErr (Int × List Tok)
  | [] => .error (70, none)
  | t :: l => if t.kind = 1 ∧ t.num ≤ lim then .ok (t.num, l) else .error (70, some t.pos)
/-- An atom's numbers, and what closes it. -/
def atomT (l : List Tok) : Except PErr (Prt × List Tok) :=
  match numT 4294967295 l with
  | .error e => .error e
  | .ok (n, l1) => match numT 4294967295 l1 with
    | .error e => .error e
    | .ok (g, l2) => match numT 1099511627776 l2 with
      | .error e => .error e
      | .ok (d, l3) => match takeT 3 l3 with
        | .error e => .error e
        | .ok l4 => .ok (⟨0, n.toNat, g.toNat, d, 0⟩, l4)
/-- Do the terms go on? -/
def goesOn (mode : Nat) : List Tok → Bool
  | [] => mode != 2
  | t :: _ => mode != 2 || t.kind != 3
/-- What tokens are parsed to: one term (mode 0), one or more (1), any number of them (2); in so many steps, so deep, with so many parts ahead. -/
def parS : Nat → Nat → Nat → Nat → List Tok → Except PErr (Fst × List Tok)
  | 0, _, _, _, _ => .error (70, none)
  | m + 1, f, cnt, mode, l =>
    if goesOn mode l = false then .ok (.nil, l) else
    match l with
    | [] => .error (70, none)
    | t :: l1 =>
      if t.kind ≠ 2 then .error (70, some t.pos) else
      if f = 0 ∨ 64 ≤ cnt then .error (80, some t.pos) else
      match l1 with
      | [] => .error (70, none)
      | w :: l2 =>
        match kindW w with
        | none => .error (70, some w.pos)
        | some k =>
          if k = 0 then
            match atomT l2 with
            | .error e => .error e
            | .ok p => if mode = 0 then .ok (.cons p.1 .nil .nil, p.2) else
              match parS m f (cnt + 1) 2 p.2 with
              | .error e => .error e
              | .ok q => .ok (.cons p.1 .nil q.1, q.2)
          else
            match parS m (f - 1) (cnt + 1) 1 l2 with
            | .error e => .error e
            | .ok p =>
              match takeT 3 p.2 with
              | .error e => .error e
              | .ok l4 => if mode = 0 then .ok (.cons ⟨k, 0, 0, 0, 0⟩ p.1 .nil, l4) else
                match parS m f (cnt + 1 + p.1.size) 2 l4 with
                | .error e => .error e
                | .ok q => .ok (.cons ⟨k, 0, 0, 0, 0⟩ p.1 q.1, q.2)
theorem numT_cons (lim : Int) (t : Tok) (l : List Tok) : numT lim (t :: l) = if t.kind = 1 ∧ t.num ≤ lim then .ok (t.num, l) else .error (70, some t.pos) := rfl
theorem takeT_cons (k : Nat) (t : Tok) (l : List Tok) : takeT k (t :: l) = if t.kind = k then .ok l else .error (70, some t.pos) := rfl
theorem kindW_le {t : Tok} {k : Nat} (h : kindW t = some k) : k ≤ 4 := by
  unfold kindW at h
  split at h
  · cases h
  · split at h
    · cases h; omega
    · split at h
      · cases h; omega
      · split at h
        · cases h; omega
        · split at h
          · cases h; omega
          · split at h
            · cases h; omega
            · cases h
theorem numT_ok {lim n : Int} {l r : List Tok} (hl : ∀ t ∈ l, 0 ≤ t.num) (h : numT lim l = .ok (n, r)) : 0 ≤ n ∧ n ≤ lim ∧ ∃ t, l = t :: r := by
  cases l with
  | nil => cases h
  | cons t l =>
    rw [numT_cons] at h
    by_cases c : t.kind = 1 ∧ t.num ≤ lim
    · rw [if_pos c] at h
      cases h
      exact ⟨hl t (by simp), c.2, t, rfl⟩
    · rw [if_neg c] at h; cases h
theorem takeT_ok {k : Nat} {l r : List Tok} (h : takeT k l = .ok r) : ∃ t, l = t :: r := by
  cases l with
  | nil => cases h
  | cons t l =>
    rw [takeT_cons] at h
    by_cases c : t.kind = k
    · rw [if_pos c] at h; cases h; exact ⟨t, rfl⟩
    · rw [if_neg c] at h; cases h
theorem atomT_ok {l r : List Tok} {x : Prt} (hl : ∀ t ∈ l, 0 ≤ t.num) (h : atomT l = .ok (x, r)) : okP x .nil ∧ x.kids = 0 ∧ ∀ t ∈ r, 0 ≤ t.num := by
  unfold atomT at h
  cases h1 : numT 4294967295 l with
  | error e => rw [h1] at h; cases h
  | ok p =>
    obtain ⟨n, l1⟩ := p
    rw [h1] at h
    simp only at h
    obtain ⟨a1, a2, t1, e1⟩ := numT_ok hl h1
    have hl1 : ∀ t ∈ l1, 0 ≤ t.num := fun t ht => hl t (by rw [e1]; exact List.mem_cons_of_mem _ ht)
    cases h2 : numT 4294967295 l1 with
    | error e => rw [h2] at h; cases h
    | ok p =>
      obtain ⟨g, l2⟩ := p
      rw [h2] at h
      simp only at h
      obtain ⟨b1, b2, t2, e2⟩ := numT_ok hl1 h2
      have hl2 : ∀ t ∈ l2, 0 ≤ t.num := fun t ht => hl1 t (by rw [e2]; exact List.mem_cons_of_mem _ ht)
      cases h3 : numT 1099511627776 l2 with
      | error e => rw [h3] at h; cases h
      | ok p =>
        obtain ⟨d, l3⟩ := p
        rw [h3] at h
        simp only at h
        obtain ⟨c1, c2, t3, e3⟩ := numT_ok hl2 h3
        have hl3 : ∀ t ∈ l3, 0 ≤ t.num := fun t ht => hl2 t (by rw [e3]; exact List.mem_cons_of_mem _ ht)
        cases h4 : takeT 3 l3 with
        | error e => rw [h4] at h; cases h
        | ok l4 =>
          rw [h4] at h
          simp only at h
          cases h
          obtain ⟨t4, e4⟩ := takeT_ok h4
          refine ⟨.inl ⟨rfl, by show n.toNat ≤ _; omega, by show g.toNat ≤ _; omega, c1, c2, rfl⟩, rfl, fun t ht => hl3 t (by rw [e4]; exact List.mem_cons_of_mem _ ht)⟩
/-- What is parsed is a text's. -/
theorem parS_ok : ∀ (m f cnt mode : Nat) (l r : List Tok) (F : Fst), (∀ t ∈ l, 0 ≤ t.num) → parS m f cnt mode l = .ok (F, r) →
    F.wf ∧ F.depth ≤ f ∧ (F ≠ .nil → cnt + F.size ≤ 64) ∧ (mode = 0 → F.len = 1) ∧ (mode ≤ 1 → F ≠ .nil) ∧ ∀ t ∈ r, 0 ≤ t.num
  | 0, _, _, _, _, _, _, _, h => by rw [parS] at h; cases h
  | m + 1, f, cnt, mode, l, r, F, hl, h => by
    rw [parS.eq_def] at h
    simp only at h
    by_cases hg : goesOn mode l = false
    · rw [if_pos hg] at h
      cases h
      have hm : mode = 2 := by
        cases l with
        | nil => unfold goesOn at hg; simpa using hg
        | cons t l => unfold goesOn at hg; simp at hg; exact hg.1
      exact ⟨trivial, Nat.zero_le _, fun h => absurd rfl h, fun h => by omega, fun h => by omega, hl⟩
    · rw [if_neg hg] at h
      cases l with
      | nil => cases h
      | cons t l1 =>
        simp only at h
        by_cases hk : t.kind = 2
        · rw [if_neg (by simpa using hk)] at h
          by_cases hd : f = 0 ∨ 64 ≤ cnt
          · rw [if_pos hd] at h; cases h
          · rw [if_neg hd] at h
            cases l1 with
            | nil => cases h
            | cons w l2 =>
              have hl2 : ∀ t ∈ l2, 0 ≤ t.num := fun u hu => hl u (List.mem_cons_of_mem _ (List.mem_cons_of_mem _ hu))
              simp only at h
              cases hkw : kindW w with
              | none => rw [hkw] at h; cases h
              | some k =>
                rw [hkw] at h
                simp only at h
                by_cases hk0 : k = 0
                · rw [if_pos hk0] at h
                  cases ha : atomT l2 with
                  | error e => rw [ha] at h; cases h
                  | ok p =>
                    obtain ⟨x, l3⟩ := p
                    rw [ha] at h
                    simp only at h
                    obtain ⟨o1, o2, o3⟩ := atomT_ok hl2 ha
                    by_cases hm : mode = 0
                    · rw [if_pos hm] at h
                      cases h
                      refine ⟨⟨o1, o2, trivial, trivial⟩, ?_, fun _ => ?_, fun _ => rfl, fun _ => (fun e => by cases e), o3⟩
                      · simp only [Fst.depth]; omega
                      · simp only [Fst.size]; omega
                    · rw [if_neg hm] at h
                      cases hp : parS m f (cnt + 1) 2 l3 with
                      | error e => rw [hp] at h; cases h
                      | ok p =>
                        obtain ⟨G, l4⟩ := p
                        rw [hp] at h
                        simp only at h
                        cases h
                        obtain ⟨i1, i2, i3, _, _, i6⟩ := parS_ok m f (cnt + 1) 2 l3 _ _ o3 hp
                        refine ⟨⟨o1, o2, trivial, i1⟩, ?_, fun _ => ?_, fun e => absurd e hm, fun _ => (fun e => by cases e), i6⟩
                        · simp only [Fst.depth]; omega
                        · simp only [Fst.size]
                          cases G with
                          | nil => simp only [Fst.size]; omega
                          | cons y K N => have := i3 (fun e => by cases e); omega
                · rw [if_neg hk0] at h
                  have hk4 := kindW_le hkw
                  cases hp : parS m (f - 1) (cnt + 1) 1 l2 with
                  | error e => rw [hp] at h; cases h
                  | ok p =>
                    obtain ⟨K, l3⟩ := p
                    rw [hp] at h
                    simp only at h
                    obtain ⟨j1, j2, j3, _, j5, j6⟩ := parS_ok m (f - 1) (cnt + 1) 1 l2 _ _ hl2 hp
                    have jn := j5 (by omega)
                    have j3' := j3 jn
                    cases ht : takeT 3 l3 with
                    | error e => rw [ht] at h; cases h
                    | ok l4 =>
                      rw [ht] at h
                      simp only at h
                      obtain ⟨t4, e4⟩ := takeT_ok ht
                      have j7 : ∀ t ∈ l4, 0 ≤ t.num := fun u hu => j6 u (by rw [e4]; exact List.mem_cons_of_mem _ hu)
                      have ok1 : okP ⟨k, 0, 0, 0, 0⟩ K := .inr ⟨by show 1 ≤ k; omega, hk4, rfl, rfl, rfl, jn⟩
                      by_cases hm : mode = 0
                      · rw [if_pos hm] at h
                        cases h
                        refine ⟨⟨ok1, rfl, j1, trivial⟩, ?_, fun _ => ?_, fun _ => rfl, fun _ => (fun e => by cases e), j7⟩
                        · simp only [Fst.depth]; omega
                        · simp only [Fst.size]; omega
                      · rw [if_neg hm] at h
                        cases hq : parS m f (cnt + 1 + K.size) 2 l4 with
                        | error e => rw [hq] at h; cases h
                        | ok p =>
                          obtain ⟨G, l5⟩ := p
                          rw [hq] at h
                          simp only at h
                          cases h
                          obtain ⟨i1, i2, i3, _, _, i6⟩ := parS_ok m f (cnt + 1 + K.size) 2 l4 _ _ j7 hq
                          refine ⟨⟨ok1, rfl, j1, i1⟩, ?_, fun _ => ?_, fun e => absurd e hm, fun _ => (fun e => by cases e), i6⟩
                          · simp only [Fst.depth]; omega
                          · simp only [Fst.size]
                            cases G with
                            | nil => simp only [Fst.size]; omega
                            | cons y K' N => have := i3 (fun e => by cases e); omega
        · rw [if_pos (by simpa using hk)] at h; cases h
end Go.Proofs.YtioalnncjahlnaaGreatDoor

namespace Go.Proofs.YtioalnncjahlnaaGreatDoor

/-- The first token that opens a term that is too deep, or one too many. -/
def badI : Fst → Nat → Nat → Option Nat
  | .nil, _, _ => none
  | .cons x kids next, f, cnt =>
    if f = 0 ∨ 64 ≤ cnt then some 0 else
    match badI kids (f - 1) (cnt + 1) with
    | some i => some (2 + (if x.kind = 0 then 3 else 0) + i)
    | none => match badI next f (cnt + 1 + kids.size) with
      | some i => some (2 + (if x.kind = 0 then 3 else 0) + kids.toks.length + 1 + i)
      | none => none
/-- What parsing gives then. -/
def parR (F : Fst) (f cnt : Nat) (ts r : List Tok) : Except PErr (Fst × List Tok) := match badI F f cnt with
  | none => .ok (F, r)
  | some i => .error (80, some (ts.getD i tk0).pos)
theorem kindW_word {w : Tok} {k : Nat} (hk : k ≤ 4) (h : noPos w = tokW (wordK k)) : kindW w = some k := by
  have h1 : w.kind = 0 := congrArg Tok.kind h
  have h2 : w.text = wordK k := congrArg Tok.text h
  unfold kindW
  rw [if_neg (by omega), h2]
  have : k = 0 ∨ k = 1 ∨ k = 2 ∨ k = 3 ∨ k = 4 := by omega
  rcases this with rfl | rfl | rfl | rfl | rfl <;> rfl
theorem numT_tok {t : Tok} {n lim : Int} {l : List Tok} (hn : n ≤ lim) (h : noPos t = tokN n) : numT lim (t :: l) = .ok (n, l) := by
  have h1 : t.kind = 1 := congrArg Tok.kind h
  have h2 : t.num = n := congrArg Tok.num h
  rw [numT_cons, if_pos ⟨h1, by omega⟩, h2]
theorem takeT_tok {t : Tok} {k : Nat} {l : List Tok} (h : t.kind = k) : takeT k (t :: l) = .ok l := by rw [takeT_cons, if_pos h]
theorem atomT_toks {x : Prt} {t1 t2 t3 t4 : Tok} {l : List Tok} (hx : okP x .nil) (hk : x.kind = 0) (hkid : x.kids = 0) (h1 : noPos t1 = tokN x.n) (h2 : noPos t2 = tokN x.g) (h3 : noPos t3 = tokN x.d) (h4 : t4.kind = 3) : atomT (t1 :: t2 :: t3 :: t4 :: l) = .ok (x, l) := by
  rcases hx with ⟨_, a1, a2, a3, a4, _⟩ | ⟨a, _⟩
  · unfold atomT
    rw [numT_tok (by omega) h1]
    simp only
    rw [numT_tok (by omega) h2]
    simp only
    rw [numT_tok a4 h3]
    simp only
    rw [takeT_tok h4]
    simp only
    obtain ⟨k, n, g, d, kd⟩ := x
    simp only at hk hkid
    subst hk hkid
    simp
  · omega
theorem goesOn_open (mode : Nat) {t : Tok} (l : List Tok) (h : t.kind = 2) : goesOn mode (t :: l) = true := by
  show (mode != 2 || t.kind != 3) = true
  rw [show (t.kind != 3) = true by rw [h]; rfl, Bool.or_true]
theorem parS_open {m f cnt mode : Nat} {t w : Tok} {l : List Tok} (h : t.kind = 2) : parS (m + 1) f cnt mode (t :: w :: l) =
    if f = 0 ∨ 64 ≤ cnt then .error (80, some t.pos) else
        match kindW w with
        | none => .error (70, some w.pos)
        | some k =>
          if k = 0 then
            match atomT l with
            | .error e => .error e
            | .ok p => if mode = 0 then .ok (.cons p.1 .nil .nil, p.2) else
              match parS m f (cnt + 1) 2 p.2 with
              | .error e => .error e
              | .ok q => .ok (.cons p.1 .nil q.1, q.2)
          else
            match parS m (f - 1) (cnt + 1) 1 l with
            | .error e => .error e
            | .ok p =>
              match takeT 3 p.2 with
              | .error e => .error e
              | .ok l4 => if mode = 0 then .ok (.cons ⟨k, 0, 0, 0, 0⟩ p.1 .nil, l4) else
                match parS m f (cnt + 1 + p.1.size) 2 l4 with
                | .error e => .error e
                | .ok q => .ok (.cons ⟨k, 0, 0, 0, 0⟩ p.1 q.1, q.2) := by
  rw [parS.eq_def]
  simp only
  rw [if_neg (by rw [goesOn_open mode _ h]; decide), if_neg (by simpa using h)]
  all_goals rfl
theorem getD_cons2 {a b : Tok} {l : List Tok} {i : Nat} : (a :: b :: l).getD (2 + i) tk0 = l.getD i tk0 := by
  rw [show 2 + i = i + 1 + 1 by omega]; rfl
theorem tgetD_app1 {a b : List Tok} {i : Nat} (h : i < a.length) : (a ++ b).getD i tk0 = a.getD i tk0 := by
  simp only [List.getD_eq_getElem?_getD]
  rw [List.getElem?_append_left h]
theorem tgetD_app2 {a b : List Tok} {i : Nat} : (a ++ b).getD (a.length + i) tk0 = b.getD i tk0 := by
  simp only [List.getD_eq_getElem?_getD]
  rw [List.getElem?_append_right (by omega), Nat.add_sub_cancel_left]
theorem badI_lt : ∀ (F : Fst) (f cnt i : Nat), badI F f cnt = some i → i < F.toks.length
  | .nil, _, _, _, h => by cases h
  | .cons x kids next, f, cnt, i, h => by
    rw [badI] at h
    have hl : (Fst.cons x kids next).toks.length = 2 + (if x.kind = 0 then 3 else 0) + kids.toks.length + 1 + next.toks.length := by
      simp only [Fst.toks, List.length_cons, List.length_append]
      split <;> simp <;> omega
    rw [hl]
    by_cases hd : f = 0 ∨ 64 ≤ cnt
    · rw [if_pos hd] at h; cases h; omega
    · rw [if_neg hd] at h
      cases hk : badI kids (f - 1) (cnt + 1) with
      | some j =>
        rw [hk] at h
        cases h
        have := badI_lt kids _ _ _ hk
        omega
      | none =>
        rw [hk] at h
        simp only at h
        cases hn : badI next f (cnt + 1 + kids.size) with
        | some j =>
          rw [hn] at h
          cases h
          have := badI_lt next _ _ _ hn
          omega
        | none => rw [hn] at h; cases h
theorem parS_toks : ∀ (F : Fst) (m f cnt mode : Nat) (ts r : List Tok), F.wf → ts.map noPos = F.toks → ts.length < m → (1 ≤ mode → r = [] ∨ ∃ t r', r = t :: r' ∧ t.kind = 3) → mode ≤ 2 → (mode = 0 → F.len = 1) → (mode = 1 → F ≠ .nil) →
    parS m f cnt mode (ts ++ r) = parR F f cnt ts r
  | .nil, m, f, cnt, mode, ts, r, _, hts, hm, hr, hm2, h0, h1 => by
    have e : ts = [] := by simpa [Fst.toks] using hts
    have hmode : mode = 2 := by
      by_cases c : mode = 0
      · have := h0 c; simp [Fst.len] at this
      · by_cases c1 : mode = 1
        · exact absurd rfl (h1 c1)
        · omega
    subst e hmode
    cases m with
    | zero => simp at hm
    | succ m =>
      have hg : goesOn 2 r = false := by
        rcases hr (by omega) with e | ⟨t, r', e, hk⟩
        · rw [e]; rfl
        · rw [e]; show (2 != 2 || t.kind != 3) = false; rw [hk]; rfl
      rw [List.nil_append, parS.eq_def]
      simp only
      rw [if_pos hg]
      rfl
  | .cons x kids next, m, f, cnt, mode, ts, r, hw, hts, hm, hr, hm2, h0, h1 => by
    obtain ⟨hx, hkid, hwk, hwn⟩ := hw
    simp only [Fst.toks] at hts
    obtain ⟨tO, ts1, rfl, eO, hts1⟩ := List.map_eq_cons_iff.1 hts
    obtain ⟨tW, ts2, rfl, eW, hts2⟩ := List.map_eq_cons_iff.1 hts1
    obtain ⟨tN, ts3, rfl, eN, hts3⟩ := List.map_eq_append_iff.1 hts2
    obtain ⟨tK, ts4, rfl, eK, hts4⟩ := List.map_eq_append_iff.1 hts3
    obtain ⟨tC, tX, rfl, eC, eX⟩ := List.map_eq_cons_iff.1 hts4
    have kO : tO.kind = 2 := congrArg Tok.kind eO
    have kC : tC.kind = 3 := congrArg Tok.kind eC
    have lN : tN.length = if x.kind = 0 then 3 else 0 := by
      have := congrArg List.length eN
      rw [List.length_map] at this
      rw [this]
      split <;> rfl
    have lK : tK.length = kids.toks.length := by
      have := congrArg List.length eK
      rwa [List.length_map] at this
    simp only [List.length_cons, List.length_append] at hm
    cases m with
    | zero => omega
    | succ m =>
      have e1 : tO :: tW :: (tN ++ (tK ++ tC :: tX)) ++ r = tO :: tW :: (tN ++ (tK ++ (tC :: (tX ++ r)))) := by simp
      rw [e1, parS_open kO]
      unfold parR
      rw [badI]
      by_cases hd : f = 0 ∨ 64 ≤ cnt
      · rw [if_pos hd, if_pos hd]
        rfl
      · rw [if_neg hd, if_neg hd]
        have hk4 : x.kind ≤ 4 := by rcases hx with ⟨a, _⟩ | ⟨_, a, _⟩ <;> omega
        rw [kindW_word hk4 eW]
        simp only
        by_cases hk0 : x.kind = 0
        · rw [if_pos hk0]
          rw [if_pos hk0] at eN lN ⊢
          have hkn : kids = .nil := by
            rcases hx with ⟨_, _, _, _, _, a⟩ | ⟨a, _⟩
            · exact a
            · omega
          subst hkn
          have eK0 : tK = [] := by simpa [Fst.toks] using eK
          subst eK0
          obtain ⟨t1, n1, rfl, a1, b1⟩ := List.map_eq_cons_iff.1 eN
          obtain ⟨t2, n2, rfl, a2, b2⟩ := List.map_eq_cons_iff.1 b1
          obtain ⟨t3, n3, rfl, a3, b3⟩ := List.map_eq_cons_iff.1 b2
          have n30 : n3 = [] := by simpa using b3
          subst n30
          have ea : atomT ([t1, t2, t3] ++ ([] ++ (tC :: (tX ++ r)))) = .ok (x, tX ++ r) := atomT_toks hx hk0 hkid a1 a2 a3 kC
          rw [ea]
          simp only [badI, Fst.size, Nat.add_zero]
          by_cases hm0 : mode = 0
          · rw [if_pos hm0]
            have hnn : next = .nil := by
              have := h0 hm0
              cases next with
              | nil => rfl
              | cons y a b => simp [Fst.len] at this
            subst hnn
            have eX0 : tX = [] := by simpa [Fst.toks] using eX
            subst eX0
            rfl
          · rw [if_neg hm0, parS_toks next m f (cnt + 1) 2 tX r hwn eX (by simp at hm; omega) (fun _ => hr (by omega)) (Nat.le_refl _) (fun h => by omega) (fun h => by omega)]
            unfold parR
            cases hb : badI next f (cnt + 1) with
            | none => rfl
            | some i =>
              simp only
              have : (tO :: tW :: ([t1, t2, t3] ++ ([] ++ tC :: tX))).getD (2 + 3 + 0 + 1 + i) tk0 = tX.getD i tk0 := by
                rw [show 2 + 3 + 0 + 1 + i = i + 1 + 1 + 1 + 1 + 1 + 1 by omega]; rfl
              simp only [Fst.toks, List.length_nil]
              rw [this]
        · rw [if_neg hk0]
          rw [if_neg hk0] at eN lN ⊢
          have hx2 : x.n = 0 ∧ x.g = 0 ∧ x.d = 0 ∧ kids ≠ .nil := by
            rcases hx with ⟨a, _⟩ | ⟨_, _, a, b, c, d⟩
            · exact absurd a hk0
            · exact ⟨a, b, c, d⟩
          have hxe : (⟨x.kind, 0, 0, 0, 0⟩ : Prt) = x := by
            obtain ⟨k, n, g, d, kd⟩ := x
            obtain ⟨a, b, c, _⟩ := hx2
            simp only at a b c hkid
            subst a b c hkid
            rfl
          have eN0 : tN = [] := by simpa using eN
          subst eN0
          rw [List.nil_append, parS_toks kids m (f - 1) (cnt + 1) 1 tK (tC :: (tX ++ r)) hwk eK (by simp at hm; omega) (fun _ => .inr ⟨tC, _, rfl, kC⟩) (by omega) (fun h => by omega) (fun _ => hx2.2.2.2)]
          unfold parR
          cases hb : badI kids (f - 1) (cnt + 1) with
          | some i =>
            simp only
            have hi := badI_lt kids _ _ _ hb
            have : (tO :: tW :: ([] ++ (tK ++ tC :: tX))).getD (2 + 0 + i) tk0 = tK.getD i tk0 := by
              rw [show 2 + 0 + i = 2 + i by omega, getD_cons2, List.nil_append, tgetD_app1 (by omega)]
            rw [this]
          | none =>
            simp only
            rw [takeT_tok kC]
            simp only
            by_cases hm0 : mode = 0
            · rw [if_pos hm0]
              have hnn : next = .nil := by
                have := h0 hm0
                cases next with
                | nil => rfl
                | cons y a b => simp [Fst.len] at this
              subst hnn
              have eX0 : tX = [] := by simpa [Fst.toks] using eX
              subst eX0
              rw [hxe]
              rfl
            · rw [if_neg hm0, parS_toks next m f (cnt + 1 + kids.size) 2 tX r hwn eX (by simp at hm; omega) (fun _ => hr (by omega)) (Nat.le_refl _) (fun h => by omega) (fun h => by omega)]
              unfold parR
              cases hb2 : badI next f (cnt + 1 + kids.size) with
              | none => simp only; rw [hxe]
              | some i =>
                simp only
                have : (tO :: tW :: ([] ++ (tK ++ tC :: tX))).getD (2 + 0 + kids.toks.length + 1 + i) tk0 = tX.getD i tk0 := by
                  rw [show 2 + 0 + kids.toks.length + 1 + i = 2 + (tK.length + (i + 1)) by omega, getD_cons2, List.nil_append, tgetD_app2]
                  rfl
                rw [this]
end Go.Proofs.YtioalnncjahlnaaGreatDoor

namespace Go.Proofs.YtioalnncjahlnaaGreatDoor

theorem badI_none : ∀ (F : Fst) (f cnt : Nat), F.depth ≤ f → (F ≠ .nil → cnt + F.size ≤ 64) → badI F f cnt = none
  | .nil, _, _, _, _ => rfl
  | .cons x kids next, f, cnt, hd, hs => by
    simp only [Fst.depth] at hd
    have hs' := hs (fun e => by cases e)
    simp only [Fst.size] at hs'
    rw [badI, if_neg (by omega), badI_none kids (f - 1) (cnt + 1) (by omega) (fun _ => by omega)]
    simp only
    rw [badI_none next f (cnt + 1 + kids.size) (by omega) (fun _ => by omega)]
theorem toks_pos : ∀ F : Fst, F.toks.map noPos = F.toks
  | .nil => rfl
  | .cons x kids next => by
    simp only [Fst.toks, List.map_cons, List.map_append, toks_pos kids, toks_pos next]
    split <;> rfl
theorem badI_open : ∀ (F : Fst) (f cnt i : Nat), badI F f cnt = some i → F.toks.getD i tk0 = tokO
  | .nil, _, _, _, h => by cases h
  | .cons x kids next, f, cnt, i, h => by
    rw [badI] at h
    by_cases hd : f = 0 ∨ 64 ≤ cnt
    · rw [if_pos hd] at h; cases h; rfl
    · rw [if_neg hd] at h
      have e : ∀ (a : List Tok) (j : Nat), a.length = (if x.kind = 0 then 3 else 0) → (tokO :: tokW (wordK x.kind) :: (a ++ (kids.toks ++ tokC :: next.toks))).getD (2 + (if x.kind = 0 then 3 else 0) + j) tk0 = (kids.toks ++ tokC :: next.toks).getD j tk0 := fun a j ha => by
        rw [show 2 + (if x.kind = 0 then 3 else 0) + j = 2 + (a.length + j) by omega, getD_cons2, tgetD_app2]
      have hl : (if x.kind = 0 then [tokN x.n, tokN x.g, tokN x.d] else []).length = (if x.kind = 0 then 3 else 0) := by split <;> rfl
      simp only [Fst.toks]
      cases hk : badI kids (f - 1) (cnt + 1) with
      | some j =>
        rw [hk] at h
        cases h
        rw [e _ _ hl, tgetD_app1 (badI_lt kids _ _ _ hk)]
        exact badI_open kids _ _ _ hk
      | none =>
        rw [hk] at h
        simp only at h
        cases hn : badI next f (cnt + 1 + kids.size) with
        | some j =>
          rw [hn] at h
          cases h
          rw [show 2 + (if x.kind = 0 then 3 else 0) + kids.toks.length + 1 + j = 2 + (if x.kind = 0 then 3 else 0) + (kids.toks.length + (j + 1)) by omega, e _ _ hl, tgetD_app2]
          exact badI_open next _ _ _ hn
        | none => rw [hn] at h; cases h

def wFrom : List UInt8 := [102, 114, 111, 109]
def wTo : List UInt8 := [116, 111]
/-- A definition's tokens. -/
def tokD (fr to' : Int) (F : Fst) : List Tok := tokW wFrom :: tokN fr :: tokW wTo :: tokN to' :: tokL :: F.toks
def textD (fr to' : Int) (F : Fst) : List UInt8 := textG (tokD fr to' F)
def okN (n : Int) : Prop := 0 ≤ n ∧ n ≤ 1099511627776
theorem okTok_N {n : Int} (h : okN n) : okTok (tokN n).text (tokN n).kind (tokN n).num := by
  have := dig_ok (n := n.toNat) (by have := h.1; have := h.2; omega)
  show okTok (digG n.toNat) 1 n
  rw [show n = ((n.toNat : Nat) : Int) by have := h.1; omega]
  exact this
theorem okTok_O : okTok tokO.text tokO.kind tokO.num := ⟨rfl, .inl ⟨40, rfl, rfl, rfl⟩⟩
theorem okTok_C : okTok tokC.text tokC.kind tokC.num := ⟨rfl, .inl ⟨41, rfl, rfl, rfl⟩⟩
theorem okTok_L : okTok tokL.text tokL.kind tokL.num := ⟨rfl, .inl ⟨58, rfl, rfl, rfl⟩⟩
theorem okTok_W {k : Nat} (h : k ≤ 4) : okTok (tokW (wordK k)).text (tokW (wordK k)).kind (tokW (wordK k)).num := by
  have : k = 0 ∨ k = 1 ∨ k = 2 ∨ k = 3 ∨ k = 4 := by omega
  rcases this with rfl | rfl | rfl | rfl | rfl <;> exact ⟨rfl, .inr ⟨List.cons_ne_nil _ _, rfl⟩⟩
theorem toks_ok : ∀ F : Fst, F.wf → ∀ t ∈ F.toks, okTok t.text t.kind t.num
  | .nil, _, t, ht => by simp [Fst.toks] at ht
  | .cons x kids next, ⟨hx, hk, h1, h2⟩, t, ht => by
    have hk4 : x.kind ≤ 4 := by rcases hx with ⟨a, _⟩ | ⟨_, a, _⟩ <;> omega
    simp only [Fst.toks, List.mem_cons, List.mem_append] at ht
    rcases ht with rfl | rfl | ht | ht | rfl | ht
    · exact okTok_O
    · exact okTok_W hk4
    · by_cases c : x.kind = 0
      · rw [if_pos c] at ht
        rcases hx with ⟨_, a1, a2, a3, a4, _⟩ | ⟨a, _⟩
        · simp only [List.mem_cons, List.not_mem_nil, or_false] at ht
          rcases ht with rfl | rfl | rfl
          · exact okTok_N ⟨by omega, by omega⟩
          · exact okTok_N ⟨by omega, by omega⟩
          · exact okTok_N ⟨a3, a4⟩
        · omega
      · rw [if_neg c] at ht; simp at ht
    · exact toks_ok kids h1 t ht
    · exact okTok_C
    · exact toks_ok next h2 t ht
theorem tokD_ok {fr to' : Int} {F : Fst} (h1 : okN fr) (h2 : okN to') (h3 : F.wf) : ∀ t ∈ tokD fr to' F, okTok t.text t.kind t.num := fun t ht => by
  unfold tokD at ht
  simp only [List.mem_cons] at ht
  rcases ht with rfl | rfl | rfl | rfl | rfl | ht
  · exact ⟨rfl, .inr ⟨List.cons_ne_nil _ _, rfl⟩⟩
  · exact okTok_N h1
  · exact ⟨rfl, .inr ⟨List.cons_ne_nil _ _, rfl⟩⟩
  · exact okTok_N h2
  · exact okTok_L
  · exact toks_ok F h3 t ht
theorem textD_lex {fr to' : Int} {F : Fst} (h1 : okN fr) (h2 : okN to') (h3 : F.wf) : lexG 0 (textD fr to' F) = .ok (placeG 0 (tokD fr to' F)) := spells_lexG _ _ _ (text_spells _ 0 (tokD_ok h1 h2 h3))

/-- A word that must be. -/
def takeW (w : List UInt8) : List Tok → Except PErr (List Tok)
  | [] => .error (70, none)
  | t :: l => if t.kind = 0 ∧ t.text = w then .ok l else .error (70, some t.pos)
theorem takeW_cons (w : List UInt8) (t : Tok) (l : List Tok) : takeW w (t :: l) = if t.kind = 0 ∧ t.text = w then .ok l else .error (70, some t.pos) := rfl
/-- What a definition's tokens are parsed to. -/
def defP (l : List Tok) : Except PErr (Int × Int × Fst) :=
  match takeW wFrom l with
  | .error e => .error e
  | .ok l1 => match numT 1099511627776 l1 with
    | .error e => .error e
    | .ok p => match takeW wTo p.2 with
      | .error e => .error e
      | .ok l3 => match numT 1099511627776 l3 with
        | .error e => .error e
        | .ok q => match takeT 4 q.2 with
          | .error e => .error e
          | .ok l5 => match parS (l5.length + 1) 8 0 0 l5 with
            | .error e => .error e
            | .ok r => match r.2 with
              | [] => .ok (p.1, q.1, r.1)
              | t :: _ => .error (70, some t.pos)
theorem takeW_ok {w : List UInt8} {l r : List Tok} (h : takeW w l = .ok r) : ∃ t, l = t :: r := by
  cases l with
  | nil => cases h
  | cons t l =>
    rw [takeW_cons] at h
    by_cases c : t.kind = 0 ∧ t.text = w
    · rw [if_pos c] at h; cases h; exact ⟨t, rfl⟩
    · rw [if_neg c] at h; cases h
theorem defP_ok {l : List Tok} {fr to' : Int} {F : Fst} (hl : ∀ t ∈ l, 0 ≤ t.num) (h : defP l = .ok (fr, to', F)) : okN fr ∧ okN to' ∧ F.wf ∧ F.len = 1 ∧ F.depth ≤ 8 ∧ F.size ≤ 64 := by
  unfold defP at h
  cases h1 : takeW wFrom l with
  | error e => rw [h1] at h; cases h
  | ok l1 =>
    rw [h1] at h
    simp only at h
    obtain ⟨t1, e1⟩ := takeW_ok h1
    have hl1 : ∀ t ∈ l1, 0 ≤ t.num := fun u hu => hl u (by rw [e1]; exact List.mem_cons_of_mem _ hu)
    cases h2 : numT 1099511627776 l1 with
    | error e => rw [h2] at h; cases h
    | ok p =>
      obtain ⟨n, l2⟩ := p
      rw [h2] at h
      simp only at h
      obtain ⟨a1, a2, t2, e2⟩ := numT_ok hl1 h2
      have hl2 : ∀ t ∈ l2, 0 ≤ t.num := fun u hu => hl1 u (by rw [e2]; exact List.mem_cons_of_mem _ hu)
      cases h3 : takeW wTo l2 with
      | error e => rw [h3] at h; cases h
      | ok l3 =>
        rw [h3] at h
        simp only at h
        obtain ⟨t3, e3⟩ := takeW_ok h3
        have hl3 : ∀ t ∈ l3, 0 ≤ t.num := fun u hu => hl2 u (by rw [e3]; exact List.mem_cons_of_mem _ hu)
        cases h4 : numT 1099511627776 l3 with
        | error e => rw [h4] at h; cases h
        | ok q =>
          obtain ⟨n2, l4⟩ := q
          rw [h4] at h
          simp only at h
          obtain ⟨b1, b2, t4, e4⟩ := numT_ok hl3 h4
          have hl4 : ∀ t ∈ l4, 0 ≤ t.num := fun u hu => hl3 u (by rw [e4]; exact List.mem_cons_of_mem _ hu)
          cases h5 : takeT 4 l4 with
          | error e => rw [h5] at h; cases h
          | ok l5 =>
            rw [h5] at h
            simp only at h
            obtain ⟨t5, e5⟩ := takeT_ok h5
            have hl5 : ∀ t ∈ l5, 0 ≤ t.num := fun u hu => hl4 u (by rw [e5]; exact List.mem_cons_of_mem _ hu)
            cases h6 : parS (l5.length + 1) 8 0 0 l5 with
            | error e => rw [h6] at h; cases h
            | ok r =>
              obtain ⟨G, l6⟩ := r
              rw [h6] at h
              simp only at h
              cases l6 with
              | cons t l => cases h
              | nil =>
                cases h
                obtain ⟨i1, i2, i3, i4, i5, _⟩ := parS_ok _ _ _ _ _ _ _ hl5 h6
                have := i3 (i5 (by omega))
                exact ⟨⟨a1, a2⟩, ⟨b1, b2⟩, i1, i4 rfl, i2, by omega⟩
theorem defP_toks {ts : List Tok} {fr to' : Int} {F : Fst} (hts : ts.map noPos = tokD fr to' F) (h1 : okN fr) (h2 : okN to') (h3 : F.wf) (h4 : F.len = 1) :
    defP ts = match badI F 8 0 with
      | none => .ok (fr, to', F)
      | some i => .error (80, some (ts.getD (5 + i) tk0).pos) := by
  unfold tokD at hts
  obtain ⟨t1, s1, rfl, e1, hs1⟩ := List.map_eq_cons_iff.1 hts
  obtain ⟨t2, s2, rfl, e2, hs2⟩ := List.map_eq_cons_iff.1 hs1
  obtain ⟨t3, s3, rfl, e3, hs3⟩ := List.map_eq_cons_iff.1 hs2
  obtain ⟨t4, s4, rfl, e4, hs4⟩ := List.map_eq_cons_iff.1 hs3
  obtain ⟨t5, s5, rfl, e5, hs5⟩ := List.map_eq_cons_iff.1 hs4
  unfold defP
  rw [takeW_cons, if_pos ⟨congrArg Tok.kind e1, congrArg Tok.text e1⟩]
  simp only
  rw [numT_tok h1.2 e2]
  simp only
  rw [takeW_cons, if_pos ⟨congrArg Tok.kind e3, congrArg Tok.text e3⟩]
  simp only
  rw [numT_tok h2.2 e4]
  simp only
  rw [takeT_tok (show t5.kind = 4 from congrArg Tok.kind e5)]
  simp only
  have hp := parS_toks F (s5.length + 1) 8 0 0 s5 [] h3 hs5 (Nat.lt_succ_self _) (fun h => by omega) (by omega) (fun _ => h4) (fun h => by omega)
  rw [List.append_nil] at hp
  rw [hp]
  unfold parR
  cases hb : badI F 8 0 with
  | none => rfl
  | some i =>
    simp only
    rw [show 5 + i = i + 1 + 1 + 1 + 1 + 1 by omega]
    rfl
/-- No error is none. -/
theorem numT_err {lim : Int} {l : List Tok} {e : PErr} (h : numT lim l = .error e) : e.1 = 70 := by
  cases l with
  | nil => cases h; rfl
  | cons t l =>
    rw [numT_cons] at h
    by_cases c : t.kind = 1 ∧ t.num ≤ lim
    · rw [if_pos c] at h; cases h
    · rw [if_neg c] at h; cases h; rfl
theorem takeT_err {k : Nat} {l : List Tok} {e : PErr} (h : takeT k l = .error e) : e.1 = 70 := by
  cases l with
  | nil => cases h; rfl
  | cons t l =>
    rw [takeT_cons] at h
    by_cases c : t.kind = k
    · rw [if_pos c] at h; cases h
    · rw [if_neg c] at h; cases h; rfl
theorem takeW_err {w : List UInt8} {l : List Tok} {e : PErr} (h : takeW w l = .error e) : e.1 = 70 := by
  cases l with
  | nil => cases h; rfl
  | cons t l =>
    rw [takeW_cons] at h
    by_cases c : t.kind = 0 ∧ t.text = w
    · rw [if_pos c] at h; cases h
    · rw [if_neg c] at h; cases h; rfl
theorem atomT_err {l : List Tok} {e : PErr} (h : atomT l = .error e) : e.1 = 70 := by
  unfold atomT at h
  cases h1 : numT 4294967295 l with
  | error e1 => rw [h1] at h; cases h; exact numT_err h1
  | ok p =>
    rw [h1] at h
    simp only at h
    cases h2 : numT 4294967295 p.2 with
    | error e1 => rw [h2] at h; cases h; exact numT_err h2
    | ok p2 =>
      rw [h2] at h
      simp only at h
      cases h3 : numT 1099511627776 p2.2 with
      | error e1 => rw [h3] at h; cases h; exact numT_err h3
      | ok p3 =>
        rw [h3] at h
        simp only at h
        cases h4 : takeT 3 p3.2 with
        | error e1 => rw [h4] at h; cases h; exact takeT_err h4
        | ok p4 => rw [h4] at h; cases h
theorem parS_err : ∀ (m f cnt mode : Nat) (l : List Tok) (e : PErr), parS m f cnt mode l = .error e → e.1 = 70 ∨ e.1 = 80
  | 0, _, _, _, _, _, h => by rw [parS] at h; cases h; exact .inl rfl
  | m + 1, f, cnt, mode, l, e, h => by
    rw [parS.eq_def] at h
    simp only at h
    by_cases hg : goesOn mode l = false
    · rw [if_pos hg] at h; cases h
    · rw [if_neg hg] at h
      cases l with
      | nil => cases h; exact .inl rfl
      | cons t l1 =>
        simp only at h
        by_cases hk : t.kind = 2
        · rw [if_neg (by simpa using hk)] at h
          by_cases hd : f = 0 ∨ 64 ≤ cnt
          · rw [if_pos hd] at h; cases h; exact .inr rfl
          · rw [if_neg hd] at h
            cases l1 with
            | nil => cases h; exact .inl rfl
            | cons w l2 =>
              simp only at h
              cases hkw : kindW w with
              | none => rw [hkw] at h; cases h; exact .inl rfl
              | some k =>
                rw [hkw] at h
                simp only at h
                by_cases hk0 : k = 0
                · rw [if_pos hk0] at h
                  cases ha : atomT l2 with
                  | error e1 => rw [ha] at h; cases h; exact .inl (atomT_err ha)
                  | ok p =>
                    rw [ha] at h
                    simp only at h
                    by_cases hm : mode = 0
                    · rw [if_pos hm] at h; cases h
                    · rw [if_neg hm] at h
                      cases hp : parS m f (cnt + 1) 2 p.2 with
                      | error e1 => rw [hp] at h; cases h; exact parS_err _ _ _ _ _ _ hp
                      | ok q => rw [hp] at h; cases h
                · rw [if_neg hk0] at h
                  cases hp : parS m (f - 1) (cnt + 1) 1 l2 with
                  | error e1 => rw [hp] at h; cases h; exact parS_err _ _ _ _ _ _ hp
                  | ok p =>
                    rw [hp] at h
                    simp only at h
                    cases ht : takeT 3 p.2 with
                    | error e1 => rw [ht] at h; cases h; exact .inl (takeT_err ht)
                    | ok l4 =>
                      rw [ht] at h
                      simp only at h
                      by_cases hm : mode = 0
                      · rw [if_pos hm] at h; cases h
                      · rw [if_neg hm] at h
                        cases hq : parS m f (cnt + 1 + p.1.size) 2 l4 with
                        | error e1 => rw [hq] at h; cases h; exact parS_err _ _ _ _ _ _ hq
                        | ok q => rw [hq] at h; cases h
        · rw [if_pos (by simpa using hk)] at h; cases h; exact .inl rfl
theorem defP_err {l : List Tok} {e : PErr} (h : defP l = .error e) : e.1 = 70 ∨ e.1 = 80 := by
  unfold defP at h
  cases h1 : takeW wFrom l with
  | error e1 => rw [h1] at h; cases h; exact .inl (takeW_err h1)
  | ok l1 =>
    rw [h1] at h
    simp only at h
    cases h2 : numT 1099511627776 l1 with
    | error e1 => rw [h2] at h; cases h; exact .inl (numT_err h2)
    | ok p =>
      rw [h2] at h
      simp only at h
      cases h3 : takeW wTo p.2 with
      | error e1 => rw [h3] at h; cases h; exact .inl (takeW_err h3)
      | ok l3 =>
        rw [h3] at h
        simp only at h
        cases h4 : numT 1099511627776 l3 with
        | error e1 => rw [h4] at h; cases h; exact .inl (numT_err h4)
        | ok q =>
          rw [h4] at h
          simp only at h
          cases h5 : takeT 4 q.2 with
          | error e1 => rw [h5] at h; cases h; exact .inl (takeT_err h5)
          | ok l5 =>
            rw [h5] at h
            simp only at h
            cases h6 : parS (l5.length + 1) 8 0 0 l5 with
            | error e1 => rw [h6] at h; cases h; exact parS_err _ _ _ _ _ _ h6
            | ok r =>
              rw [h6] at h
              simp only at h
              cases hr : r.2 with
              | nil => rw [hr] at h; cases h
              | cons t l => rw [hr] at h; cases h; exact .inl rfl
/-- What Parse hands back: the definition, or the place and the number of the error. -/
structure Df where
  fr : Int
  to' : Int
  T : List Prt
deriving DecidableEq
def df0 : Df := ⟨0, 0, []⟩
def parseS (s : List UInt8) : Df × Nat × Int :=
  if 4096 < s.length then (df0, 0, 3) else match lexG 0 s with
  | .error p => (df0, p, 60)
  | .ok l => match defP l with
    | .ok r => (⟨r.1, r.2.1, r.2.2.flat⟩, 0, 0)
    | .error e => (df0, e.2.getD s.length, e.1)
theorem num_nonneg {s : List UInt8} {l : List Tok} (h : lexG 0 s = .ok l) : ∀ t ∈ l, 0 ≤ t.num := fun t ht => by
  obtain ⟨h1, _⟩ := spells_ok l 0 s (lexG_spells s.length s 0 l (Nat.le_refl _) h) t ht
  unfold kindOf at h1
  split at h1
  · rename_i hn
    simp only [Option.some.injEq, Prod.mk.injEq] at h1
    rw [← h1.2]
    unfold isNum at hn
    simp only [Bool.and_eq_true] at hn
    have hd := hn.1.1.2
    have key : ∀ (l : List UInt8) (a : Int), 0 ≤ a → l.all digitB = true → 0 ≤ l.foldl (fun n c => 10 * n + ((c.toNat : Int) - 48)) a := by
      intro l
      induction l with
      | nil => intro a ha _; exact ha
      | cons c l ih =>
        intro a ha hl
        rw [List.all_cons, Bool.and_eq_true] at hl
        refine ih _ ?_ hl.2
        have h1 := hl.1
        unfold digitB at h1
        rw [Bool.and_eq_true, decide_eq_true_iff, decide_eq_true_iff, UInt8.le_iff_toNat_le] at h1
        have : (48 : UInt8).toNat = 48 := rfl
        show 0 ≤ 10 * a + ((c.toNat : Int) - 48)
        omega
    exact key _ 0 (Int.le_refl _) hd
  · split at h1
    · simp only [Option.some.injEq, Prod.mk.injEq] at h1; rw [← h1.2]; exact Int.le_refl _
    · split at h1
      · simp only [Option.some.injEq, Prod.mk.injEq] at h1; rw [← h1.2]; exact Int.le_refl _
      · split at h1
        · simp only [Option.some.injEq, Prod.mk.injEq] at h1; rw [← h1.2]; exact Int.le_refl _
        · split at h1
          · simp only [Option.some.injEq, Prod.mk.injEq] at h1; rw [← h1.2]; exact Int.le_refl _
          · cases h1
/-- What is parsed has a tree, numbers that a text may have, and is not too deep. -/
theorem parse_ok {s : List UInt8} (h : (parseS s).2.2 = 0) : ∃ (fr to' : Int) (F : Fst), (parseS s) = (⟨fr, to', F.flat⟩, 0, 0) ∧ okN fr ∧ okN to' ∧ F.wf ∧ F.len = 1 ∧ F.depth ≤ 8 ∧ F.size ≤ 64 ∧ s.length ≤ 4096 := by
  unfold parseS at h ⊢
  by_cases hl : 4096 < s.length
  · rw [if_pos hl] at h; cases h
  · rw [if_neg hl] at h ⊢
    cases hx : lexG 0 s with
    | error p => rw [hx] at h; cases h
    | ok l =>
      rw [hx] at h
      simp only at h ⊢
      cases hd : defP l with
      | ok r =>
        obtain ⟨fr, to', F⟩ := r
        obtain ⟨a, b, c, d, e, f⟩ := defP_ok (num_nonneg hx) hd
        exact ⟨fr, to', F, rfl, a, b, c, d, e, f, by omega⟩
      | error e =>
        rw [hd] at h
        simp only at h
        exfalso
        rcases defP_err hd with q | q <;> rw [q] at h <;> cases h
/-- There and back. -/
theorem parse_text {fr to' : Int} {F : Fst} (h1 : okN fr) (h2 : okN to') (h3 : F.wf) (h4 : F.len = 1) (hl : (textD fr to' F).length ≤ 4096) :
    parseS (textD fr to' F) = match badI F 8 0 with
      | none => (⟨fr, to', F.flat⟩, 0, 0)
      | some i => (df0, ((placeG 0 (tokD fr to' F)).getD (5 + i) tk0).pos, 80) := by
  unfold parseS
  rw [if_neg (by omega), textD_lex h1 h2 h3]
  simp only
  have hm : (placeG 0 (tokD fr to' F)).map noPos = tokD fr to' F := by
    rw [place_same]
    unfold tokD
    simp only [List.map_cons, toks_pos]
    rfl
  rw [defP_toks hm h1 h2 h3 h4]
  cases badI F 8 0 <;> rfl
end Go.Proofs.YtioalnncjahlnaaGreatDoor

namespace Go.Proofs.YtioalnncjahlnaaGreatDoor

/-- Known kinds; the number of children is told by the children alone. -/
def Fst.kok : Fst → Prop
  | .nil => True
  | .cons x kids next => x.kind ≤ 4 ∧ x.kids = 0 ∧ kids.kok ∧ next.kok
theorem wf_kok : ∀ F : Fst, F.wf → F.kok
  | .nil, _ => trivial
  | .cons x kids next, ⟨hx, hk, h1, h2⟩ => ⟨by rcases hx with ⟨a, _⟩ | ⟨_, a, _⟩ <;> omega, hk, wf_kok kids h1, wf_kok next h2⟩
/-- What is left behind so many terms. -/
def endF : List Prt → Nat → Option (List Prt)
  | l, 0 => some l
  | [], _ + 1 => none
  | x :: l, n + 1 => if 4 < x.kind ∨ x.kids < 0 then none else endF l (n + x.kids.toNat)
theorem endF_zero (l : List Prt) : endF l 0 = some l := by cases l <;> rfl
theorem endF_cons (x : Prt) (l : List Prt) (n : Nat) : endF (x :: l) (n + 1) = if 4 < x.kind ∨ x.kids < 0 then none else endF l (n + x.kids.toNat) := rfl
theorem endF_flat : ∀ (F : Fst) (r : List Prt) (n : Nat), F.kok → endF (F.flat ++ r) (F.len + n) = endF r n
  | .nil, r, n, _ => by simp [Fst.flat, Fst.len]
  | .cons x kids next, r, n, ⟨h1, h2, h3, h4⟩ => by
    simp only [Fst.flat, Fst.len, List.cons_append, List.append_assoc]
    rw [show next.len + 1 + n = next.len + n + 1 by omega, endF_cons, if_neg (by simp only; omega)]
    simp only [Int.toNat_natCast]
    rw [show next.len + n + kids.len = kids.len + (next.len + n) by omega, endF_flat kids _ _ h3, endF_flat next r n h4]
/-- The first terms, and the others. -/
theorem fst_split : ∀ (a b : Nat) (G : Fst), G.kok → G.len = a + b → ∃ K N : Fst, K.kok ∧ N.kok ∧ K.len = a ∧ N.len = b ∧ G.flat = K.flat ++ N.flat
  | 0, b, G, hG, h => ⟨.nil, G, trivial, hG, rfl, by omega, rfl⟩
  | a + 1, b, .nil, _, h => by simp [Fst.len] at h; omega
  | a + 1, b, .cons x kids next, ⟨h1, h2, h3, h4⟩, h => by
    simp only [Fst.len] at h
    obtain ⟨K, N, k1, k2, k3, k4, k5⟩ := fst_split a b next h4 (by omega)
    refine ⟨.cons x kids K, N, ⟨h1, h2, h3, k1⟩, k2, by simp only [Fst.len]; omega, k4, ?_⟩
    simp only [Fst.flat, k5, List.cons_append, List.append_assoc]
theorem unflat : ∀ (m : Nat) (l r : List Prt) (n : Nat), l.length ≤ m → endF l n = some r → ∃ F : Fst, F.kok ∧ F.len = n ∧ l = F.flat ++ r
  | m, l, r, 0, _, h => by
    rw [endF_zero] at h
    cases h
    exact ⟨.nil, trivial, rfl, rfl⟩
  | m, [], r, n + 1, _, h => by cases h
  | 0, x :: l, r, n + 1, hm, _ => by simp at hm
  | m + 1, x :: l, r, n + 1, hm, h => by
    rw [endF_cons] at h
    by_cases c : 4 < x.kind ∨ x.kids < 0
    · rw [if_pos c] at h; cases h
    · rw [if_neg c] at h
      obtain ⟨G, g1, g2, g3⟩ := unflat m l r _ (by simpa using hm) h
      obtain ⟨K, N, k1, k2, k3, k4, k5⟩ := fst_split x.kids.toNat n G g1 (by omega)
      refine ⟨.cons { x with kids := 0 } K N, ⟨by show x.kind ≤ 4; omega, rfl, k1, k2⟩, by simp only [Fst.len]; omega, ?_⟩
      simp only [Fst.flat, List.cons_append, List.append_assoc]
      rw [g3, k5, List.append_assoc]
      congr 1
      obtain ⟨k, n', g, d, kd⟩ := x
      simp only at c k3 ⊢
      rw [k3]
      congr 1
      omega
/-- Do parts form a tree? -/
def treeB (l : List Prt) : Bool := decide (l ≠ []) && decide (endF l 1 = some [])
theorem tree_iff {l : List Prt} : treeB l = true ↔ ∃ F : Fst, F.kok ∧ F.len = 1 ∧ l = F.flat := by
  unfold treeB
  rw [Bool.and_eq_true, decide_eq_true_iff, decide_eq_true_iff]
  constructor
  · rintro ⟨_, h⟩
    obtain ⟨F, h1, h2, h3⟩ := unflat l.length l [] 1 (Nat.le_refl _) h
    exact ⟨F, h1, h2, by rw [h3, List.append_nil]⟩
  · rintro ⟨F, h1, h2, rfl⟩
    refine ⟨fun e => ?_, ?_⟩
    · have := congrArg List.length e
      rw [flat_len] at this
      have := len_size F
      simp at *
      omega
    · have := endF_flat F [] 0 h1
      rw [List.append_nil, h2] at this
      rw [this]
      rfl
/-- A part of which the statements say that a text may have it. -/
def plainP (x : Prt) : Prop := 0 ≤ x.d ∧ x.d ≤ 1099511627776 ∧ (x.kind = 0 ↔ x.kids = 0) ∧ (x.kind ≠ 0 → x.n = 0 ∧ x.g = 0 ∧ x.d = 0) ∧ x.n ≤ 4294967295 ∧ x.g ≤ 4294967295
theorem len_nil {F : Fst} : F.len = 0 ↔ F = .nil := by
  cases F with
  | nil => exact ⟨fun _ => rfl, fun _ => rfl⟩
  | cons x k n => exact ⟨fun h => by simp [Fst.len] at h, fun h => by cases h⟩
theorem plain_wf : ∀ F : Fst, F.kok → (∀ x ∈ F.flat, plainP x) → F.wf
  | .nil, _, _ => trivial
  | .cons x kids next, ⟨h1, h2, h3, h4⟩, h => by
    simp only [Fst.flat, List.mem_cons, List.mem_append] at h
    obtain ⟨p1, p2, p3, p4, p5, p6⟩ := h _ (.inl rfl)
    simp only at p1 p2 p3 p4 p5 p6
    have hz : ((kids.len : Nat) : Int) = 0 ↔ kids = .nil := by rw [← len_nil]; omega
    refine ⟨?_, h2, plain_wf kids h3 fun y hy => h y (.inr (.inl hy)), plain_wf next h4 fun y hy => h y (.inr (.inr hy))⟩
    by_cases c : x.kind = 0
    · exact .inl ⟨c, p5, p6, p1, p2, hz.1 (p3.1 c)⟩
    · obtain ⟨q1, q2, q3⟩ := p4 c
      exact .inr ⟨by omega, h1, q1, q2, q3, fun e => c (p3.2 (hz.2 e))⟩
theorem wf_plain : ∀ F : Fst, F.wf → ∀ x ∈ F.flat, plainP x
  | .nil, _, x, hx => by simp [Fst.flat] at hx
  | .cons y kids next, ⟨hy, hk, h1, h2⟩, x, hx => by
    simp only [Fst.flat, List.mem_cons, List.mem_append] at hx
    rcases hx with rfl | hx | hx
    · unfold plainP
      simp only
      have hz : ((kids.len : Nat) : Int) = 0 ↔ kids = .nil := by rw [← len_nil]; omega
      rcases hy with ⟨a1, a2, a3, a4, a5, a6⟩ | ⟨a1, a2, a3, a4, a5, a6⟩
      · exact ⟨a4, a5, ⟨fun _ => hz.2 a6, fun _ => a1⟩, fun c => absurd a1 c, a2, a3⟩
      · exact ⟨by omega, by omega, ⟨fun c => by omega, fun c => absurd (hz.1 c) a6⟩, fun _ => ⟨a3, a4, a5⟩, by omega, by omega⟩
    · exact wf_plain kids h1 x hx
    · exact wf_plain next h2 x hx
/-- A part, and what is below it, by its place; another term in its stead. -/
theorem fst_graft : ∀ (F : Fst) (k : Nat), k < F.size → ∃ (A : List Prt) (T : Fst) (B : List Prt), T.len = 1 ∧ F.flat = A ++ (T.flat ++ B) ∧ A.length = k ∧ (F.wf → T.wf) ∧
    ∀ b : Fst, b.len = 1 → ∃ F' : Fst, F'.len = F.len ∧ F'.flat = A ++ (b.flat ++ B) ∧ (F.wf → b.wf → F'.wf)
  | .nil, k, h => by simp [Fst.size] at h
  | .cons x kids next, 0, _ => by
    refine ⟨[], .cons x kids .nil, next.flat, rfl, by simp [Fst.flat], rfl, fun ⟨a, b, c, _⟩ => ⟨a, b, c, trivial⟩, fun b hb => ?_⟩
    cases b with
    | nil => simp [Fst.len] at hb
    | cons y ky ny =>
      have hn : ny = .nil := len_nil.1 (by simpa [Fst.len] using hb)
      subst hn
      exact ⟨.cons y ky next, by simp [Fst.len], by simp [Fst.flat], fun ⟨_, _, _, d⟩ ⟨a, b, c, _⟩ => ⟨a, b, c, d⟩⟩
  | .cons x kids next, k + 1, h => by
    simp only [Fst.size] at h
    by_cases c : k < kids.size
    · obtain ⟨A, T, B, h1, h2, h3, h4, h5⟩ := fst_graft kids k c
      refine ⟨{ x with kids := kids.len } :: A, T, B ++ next.flat, h1, by simp only [Fst.flat, h2]; simp, by simp [h3], fun ⟨_, _, w, _⟩ => h4 w, fun b hb => ?_⟩
      obtain ⟨K', k1, k2, k3⟩ := h5 b hb
      refine ⟨.cons x K' next, by simp [Fst.len], by simp only [Fst.flat, k1, k2]; simp, fun ⟨a1, a2, a3, a4⟩ hw => ⟨?_, a2, k3 a3 hw, a4⟩⟩
      have hnil : K' = .nil ↔ kids = .nil := by rw [← len_nil, ← len_nil, k1]
      rcases a1 with ⟨b1, b2, b3, b4, b5, b6⟩ | ⟨b1, b2, b3, b4, b5, b6⟩
      · exact .inl ⟨b1, b2, b3, b4, b5, hnil.2 b6⟩
      · exact .inr ⟨b1, b2, b3, b4, b5, fun e => b6 (hnil.1 e)⟩
    · obtain ⟨A, T, B, h1, h2, h3, h4, h5⟩ := fst_graft next (k - kids.size) (by omega)
      refine ⟨{ x with kids := kids.len } :: (kids.flat ++ A), T, B, h1, by simp only [Fst.flat, h2]; simp, by simp [flat_len, h3]; omega, fun ⟨_, _, _, w⟩ => h4 w, fun b hb => ?_⟩
      obtain ⟨N', k1, k2, k3⟩ := h5 b hb
      exact ⟨.cons x kids N', by simp [Fst.len, k1], by simp only [Fst.flat, k2]; simp, fun ⟨a1, a2, a3, a4⟩ hw => ⟨a1, a2, a3, k3 a4 hw⟩⟩

/-- A number's text. -/
def decS (n : Int) : List UInt8 := if n < 0 then 45 :: digG (-n).toNat else digG n.toNat
/-- The text of terms, a blank ahead of each. -/
def textF : Fst → List UInt8
  | .nil => []
  | .cons x kids next => 32 :: 40 :: (wordK x.kind ++ ((if x.kind = 0 then 32 :: (decS x.n ++ 32 :: (decS x.g ++ 32 :: decS x.d)) else []) ++ (textF kids ++ 41 :: textF next)))
/-- The text of a definition. -/
def printF (fr to' : Int) (F : Fst) : List UInt8 := wFrom ++ 32 :: (decS fr ++ 32 :: (wTo ++ 32 :: (decS to' ++ 58 :: textF F)))
/-- What stands behind a token. -/
def tailG (t : Tok) : List Tok → List UInt8
  | [] => []
  | u :: l => (if gapB t u then [32] else []) ++ (u.text ++ tailG u l)
theorem textG_tail : ∀ (t : Tok) (l : List Tok), textG (t :: l) = t.text ++ tailG t l
  | t, [] => by simp [textG, tailG]
  | t, u :: l => by
    show t.text ++ (if gapB t u then 32 :: textG (u :: l) else textG (u :: l)) = _
    rw [textG_tail u l, tailG]
    split <;> simp
theorem decS_of {n : Int} (h : 0 ≤ n) : decS n = digG n.toNat := by unfold decS; rw [if_neg (by omega)]
theorem tail_toks : ∀ (F : Fst) (t : Tok) (l : List Tok), F.wf → t.kind ≠ 2 → tailG t (F.toks ++ tokC :: l) = textF F ++ 41 :: tailG tokC l
  | .nil, t, l, _, ht => by
    simp only [Fst.toks, textF, List.nil_append, tailG]
    rw [show gapB t tokC = false by unfold gapB; rw [show (tokC.kind != 3) = false from rfl, Bool.and_false, Bool.false_and]]
    rfl
  | .cons x kids next, t, l, ⟨hx, hk, h1, h2⟩, ht => by
    have g1 : gapB t tokO = true := by
      unfold gapB
      rw [show (t.kind != 2) = true from bne_iff_ne.2 ht]
      rfl
    have g2 : gapB tokO (tokW (wordK x.kind)) = false := rfl
    simp only [Fst.toks, textF, List.cons_append, List.append_assoc]
    rw [tailG, g1, if_pos rfl, tailG, g2, if_neg (by decide)]
    have hT : ∀ u : Tok, u.kind ≠ 2 → tailG u (kids.toks ++ tokC :: (next.toks ++ tokC :: l)) = textF kids ++ 41 :: (textF next ++ 41 :: tailG tokC l) := fun u hu => by
      rw [tail_toks kids u (next.toks ++ tokC :: l) h1 hu, tail_toks next tokC l h2 (by decide)]
    by_cases c : x.kind = 0
    · rw [if_pos c, if_pos c]
      rcases hx with ⟨_, a1, a2, a3, a4, _⟩ | ⟨a, _⟩
      · simp only [List.cons_append, List.nil_append]
        rw [tailG, show gapB (tokW (wordK x.kind)) (tokN x.n) = true from rfl, if_pos rfl, tailG, show gapB (tokN x.n) (tokN x.g) = true from rfl, if_pos rfl, tailG, show gapB (tokN x.g) (tokN x.d) = true from rfl, if_pos rfl, hT (tokN x.d) (by show (1 : Nat) ≠ 2; decide)]
        rw [decS_of (Int.natCast_nonneg _), decS_of (Int.natCast_nonneg _), decS_of a3]
        simp [tokO, tokW, tokN]
      · omega
    · rw [if_neg c, if_neg c, List.nil_append, List.nil_append, hT _ (by show (0 : Nat) ≠ 2; decide)]
      simp [tokO, tokW]
theorem tail_end : ∀ (F : Fst) (t : Tok), F.wf → t.kind ≠ 2 → tailG t F.toks = textF F
  | .nil, t, _, _ => rfl
  | .cons x kids next, t, ⟨hx, hk, h1, h2⟩, ht => by
    have g1 : gapB t tokO = true := by
      unfold gapB
      rw [show (t.kind != 2) = true from bne_iff_ne.2 ht]
      rfl
    have g2 : gapB tokO (tokW (wordK x.kind)) = false := rfl
    simp only [Fst.toks, textF]
    rw [tailG, g1, if_pos rfl, tailG, g2, if_neg (by decide)]
    have hT : ∀ u : Tok, u.kind ≠ 2 → tailG u (kids.toks ++ tokC :: next.toks) = textF kids ++ 41 :: textF next := fun u hu => by
      rw [tail_toks kids u next.toks h1 hu, tail_end next tokC h2 (by decide)]
    by_cases c : x.kind = 0
    · rw [if_pos c, if_pos c]
      rcases hx with ⟨_, a1, a2, a3, a4, _⟩ | ⟨a, _⟩
      · simp only [List.cons_append, List.nil_append]
        rw [tailG, show gapB (tokW (wordK x.kind)) (tokN x.n) = true from rfl, if_pos rfl, tailG, show gapB (tokN x.n) (tokN x.g) = true from rfl, if_pos rfl, tailG, show gapB (tokN x.g) (tokN x.d) = true from rfl, if_pos rfl, hT (tokN x.d) (by show (1 : Nat) ≠ 2; decide)]
        rw [decS_of (Int.natCast_nonneg _), decS_of (Int.natCast_nonneg _), decS_of a3]
        simp [tokO, tokW, tokN]
      · omega
    · rw [if_neg c, if_neg c, List.nil_append, List.nil_append, hT _ (by show (0 : Nat) ≠ 2; decide)]
      simp [tokO, tokW]
theorem print_text {fr to' : Int} {F : Fst} (h1 : okN fr) (h2 : okN to') (h3 : F.wf) : printF fr to' F = textD fr to' F := by
  unfold textD tokD printF
  rw [textG_tail, tailG, show gapB (tokW wFrom) (tokN fr) = true from rfl, if_pos rfl, tailG, show gapB (tokN fr) (tokW wTo) = true from rfl, if_pos rfl, tailG, show gapB (tokW wTo) (tokN to') = true from rfl, if_pos rfl, tailG, show gapB (tokN to') tokL = false from rfl, if_neg (by decide), tail_end F tokL h3 (by decide)]
  rw [decS_of h1.1, decS_of h2.1]
  simp [tokW, tokN, tokL]
theorem kok_kind : ∀ (F : Fst), F.kok → ∀ x ∈ F.flat, x.kind ≤ 4
  | .nil, _, x, hx => by cases hx
  | .cons y K N, ⟨h1, _, h3, h4⟩, x, hx => by
    simp only [Fst.flat, List.mem_cons, List.mem_append] at hx
    rcases hx with rfl | hx | hx
    · exact h1
    · exact kok_kind K h3 x hx
    · exact kok_kind N h4 x hx
theorem kok_kids : ∀ (F : Fst), F.kok → ∀ x ∈ F.flat, 0 ≤ x.kids ∧ x.kids ≤ (F.size : Int)
  | .nil, _, x, hx => by cases hx
  | .cons y K N, ⟨h1, _, h3, h4⟩, x, hx => by
    simp only [Fst.flat, List.mem_cons, List.mem_append] at hx
    simp only [Fst.size]
    rcases hx with rfl | hx | hx
    · have := len_size K; show 0 ≤ (K.len : Int) ∧ (K.len : Int) ≤ _; omega
    · have := kok_kids K h3 x hx; omega
    · have := kok_kids N h4 x hx; omega
end Go.Proofs.YtioalnncjahlnaaGreatDoor

namespace Go.Proofs.YtioalnncjahlnaaGreatDoor

/-- A term: its part, its children. -/
abbrev Tm := Prt × Fst
def toL : Fst → List Tm
  | .nil => []
  | .cons x K N => (x, K) :: toL N
def ofL : List Tm → Fst
  | [] => .nil
  | t :: l => .cons t.1 t.2 (ofL l)
theorem of_to : ∀ F : Fst, ofL (toL F) = F
  | .nil => rfl
  | .cons x K N => by simp only [toL, ofL, of_to N]
theorem to_of : ∀ l : List Tm, toL (ofL l) = l
  | [] => rfl
  | t :: l => by simp only [toL, ofL, to_of l]
theorem toL_len : ∀ F : Fst, (toL F).length = F.len
  | .nil => rfl
  | .cons x K N => by simp only [toL, Fst.len, List.length_cons, toL_len N]
theorem ofL_len (l : List Tm) : (ofL l).len = l.length := by rw [← toL_len, to_of]
def sizT (t : Tm) : Nat := t.2.size + 1
def sizL : List Tm → Nat
  | [] => 0
  | t :: l => sizT t + sizL l
theorem sizL_to : ∀ F : Fst, sizL (toL F) = F.size
  | .nil => rfl
  | .cons x K N => by simp only [toL, sizL, sizT, Fst.size, sizL_to N]; omega
theorem sizL_of (l : List Tm) : (ofL l).size = sizL l := by rw [← sizL_to, to_of]
theorem sizL_app : ∀ a b : List Tm, sizL (a ++ b) = sizL a + sizL b
  | [], b => by simp [sizL]
  | t :: a, b => by simp only [List.cons_append, sizL, sizL_app a b]; omega
theorem sizL_len : ∀ l : List Tm, l.length ≤ sizL l
  | [] => Nat.le_refl _
  | t :: l => by simp only [sizL, sizT, List.length_cons]; have := sizL_len l; omega
/-- A term's text, a blank ahead of it. -/
def txT (t : Tm) : List UInt8 := textF (.cons t.1 t.2 .nil)
/-- Byte by byte; a proper prefix comes first. -/
def ltB : List UInt8 → List UInt8 → Bool
  | _, [] => false
  | [], _ :: _ => true
  | a :: r, b :: s => decide (a < b) || (decide (a = b) && ltB r s)
/-- Children of the kind give way to theirs, as far as there are at most 16: n of them are there. -/
def flatG (kind : Nat) : Nat → List Tm → List Tm
  | _, [] => []
  | n, t :: l => if t.1.kind = kind ∧ n + t.2.len ≤ 17 then toL t.2 ++ flatG kind (n + t.2.len - 1) l else t :: flatG kind n l
/-- Children whose text was there already are left out. -/
def onceG (seen : List (List UInt8)) : List Tm → List Tm
  | [] => []
  | t :: l => if seen.contains (txT t) then onceG seen l else t :: onceG (txT t :: seen) l
def insG (t : Tm) : List Tm → List Tm
  | [] => [t]
  | u :: l => if ltB (txT t) (txT u) then t :: u :: l else u :: insG t l
/-- Sorted by text; equal ones keep their order. -/
def sortG : List Tm → List Tm := List.foldl (fun a t => insG t a) []
/-- The first rule that changes a term. -/
def oneT (t : Tm) : Option Tm :=
  let l := toL t.2
  if l.length = 1 then l.head?
  else if (t.1.kind = 1 ∨ t.1.kind = 3 ∨ t.1.kind = 4) ∧ (flatG t.1.kind l.length l).length ≠ l.length then some (t.1, ofL (flatG t.1.kind l.length l))
  else if t.1.kind = 3 ∧ (onceG [] l).length ≠ l.length then some (t.1, ofL (onceG [] l))
  else if (t.1.kind = 3 ∨ t.1.kind = 4) ∧ l.map txT ≠ (sortG l).map txT then some (t.1, ofL (sortG l))
  else none
/-- Till none does. -/
def loopT : Nat → Tm → Tm
  | 0, t => t
  | m + 1, t => match oneT t with
    | none => t
    | some u => loopT m u
def plainF : Fst → Fst
  | .nil => .nil
  | .cons x K N => .cons (loopT (2 * K.size + 4) (x, plainF K)).1 (loopT (2 * K.size + 4) (x, plainF K)).2 (plainF N)
/-- Nothing changes it any more. -/
def Nrm : Fst → Prop
  | .nil => True
  | .cons x K N => oneT (x, K) = none ∧ Nrm K ∧ Nrm N
theorem loopT_fix {t : Tm} (h : oneT t = none) : ∀ m, loopT m t = t
  | 0 => rfl
  | m + 1 => by rw [loopT, h]
theorem plain_fix : ∀ F : Fst, Nrm F → plainF F = F
  | .nil, _ => rfl
  | .cons x K N, ⟨h1, h2, h3⟩ => by rw [plainF, plain_fix K h2, plain_fix N h3, loopT_fix h1]
theorem nrm_all : ∀ F : Fst, Nrm F ↔ ∀ t ∈ toL F, oneT t = none ∧ Nrm t.2
  | .nil => by simp [Nrm, toL]
  | .cons x K N => by simp only [Nrm, toL, List.mem_cons, forall_eq_or_imp, nrm_all N, and_assoc]
theorem nrm_of {l : List Tm} (h : ∀ t ∈ l, oneT t = none ∧ Nrm t.2) : Nrm (ofL l) := by rw [nrm_all, to_of]; exact h
theorem insG_mem (t u : Tm) : ∀ l : List Tm, u ∈ insG t l ↔ u = t ∨ u ∈ l
  | [] => by simp [insG]
  | v :: l => by
    rw [insG]
    split
    · simp
    · simp only [List.mem_cons, insG_mem t u l]
      constructor
      · rintro (h | h | h)
        · exact .inr (.inl h)
        · exact .inl h
        · exact .inr (.inr h)
      · rintro (h | h | h)
        · exact .inr (.inl h)
        · exact .inl h
        · exact .inr (.inr h)
theorem sort_fold : ∀ (l a : List Tm) (u : Tm), u ∈ l.foldl (fun a t => insG t a) a ↔ u ∈ l ∨ u ∈ a
  | [], a, u => by simp
  | t :: l, a, u => by
    rw [List.foldl_cons, sort_fold l, insG_mem]
    simp only [List.mem_cons]
    constructor
    · rintro (h | h | h)
      · exact .inl (.inr h)
      · exact .inl (.inl h)
      · exact .inr h
    · rintro ((h | h) | h)
      · exact .inr (.inl h)
      · exact .inl h
      · exact .inr (.inr h)
theorem sortG_mem (l : List Tm) (u : Tm) : u ∈ sortG l ↔ u ∈ l := by unfold sortG; rw [sort_fold]; simp
theorem onceG_mem : ∀ (l : List Tm) (s : List (List UInt8)) (u : Tm), u ∈ onceG s l → u ∈ l
  | [], _, _, h => by cases h
  | t :: l, s, u, h => by
    rw [onceG] at h
    split at h
    · exact List.mem_cons_of_mem _ (onceG_mem l s u h)
    · rcases List.mem_cons.1 h with h | h
      · exact List.mem_cons.2 (.inl h)
      · exact List.mem_cons_of_mem _ (onceG_mem l _ u h)
theorem flatG_mem (kind : Nat) : ∀ (l : List Tm) (n : Nat) (u : Tm), u ∈ flatG kind n l → u ∈ l ∨ ∃ t ∈ l, t.1.kind = kind ∧ u ∈ toL t.2
  | [], _, _, h => by cases h
  | t :: l, n, u, h => by
    rw [flatG] at h
    split at h
    · rename_i c
      rcases List.mem_append.1 h with h | h
      · exact .inr ⟨t, by simp, c.1, h⟩
      · rcases flatG_mem kind l _ u h with h | ⟨v, hv, hk⟩
        · exact .inl (List.mem_cons_of_mem _ h)
        · exact .inr ⟨v, List.mem_cons_of_mem _ hv, hk⟩
    · rcases List.mem_cons.1 h with h | h
      · exact .inl (List.mem_cons.2 (.inl h))
      · rcases flatG_mem kind l _ u h with h | ⟨v, hv, hk⟩
        · exact .inl (List.mem_cons_of_mem _ h)
        · exact .inr ⟨v, List.mem_cons_of_mem _ hv, hk⟩
/-- What a rule makes of a term: the rules, one by one. -/
theorem oneT_cases {t u : Tm} (h : oneT t = some u) :
    (toL t.2 = [u]) ∨ ((t.1.kind = 1 ∨ t.1.kind = 3 ∨ t.1.kind = 4) ∧ (flatG t.1.kind (toL t.2).length (toL t.2)).length ≠ (toL t.2).length ∧ u = (t.1, ofL (flatG t.1.kind (toL t.2).length (toL t.2)))) ∨
    (t.1.kind = 3 ∧ (onceG [] (toL t.2)).length ≠ (toL t.2).length ∧ u = (t.1, ofL (onceG [] (toL t.2)))) ∨
    ((t.1.kind = 3 ∨ t.1.kind = 4) ∧ (toL t.2).map txT ≠ (sortG (toL t.2)).map txT ∧ u = (t.1, ofL (sortG (toL t.2)))) := by
  unfold oneT at h
  simp only at h
  split at h
  · rename_i c
    left
    match hl : toL t.2, c with
    | [v], _ => rw [hl] at h; cases h; rfl
  · split at h
    · rename_i c; cases h; exact .inr (.inl ⟨c.1, c.2, rfl⟩)
    · split at h
      · rename_i c; cases h; exact .inr (.inr (.inl ⟨c.1, c.2, rfl⟩))
      · split at h
        · rename_i c; cases h; exact .inr (.inr (.inr ⟨c.1, c.2, rfl⟩))
        · cases h
theorem oneT_nrm {t u : Tm} (h : oneT t = some u) (hn : Nrm t.2) : Nrm u.2 := by
  rw [nrm_all] at hn
  rcases oneT_cases h with h | ⟨_, _, rfl⟩ | ⟨_, _, rfl⟩ | ⟨_, _, rfl⟩
  · exact (hn u (by rw [h]; simp)).2
  · refine nrm_of fun v hv => ?_
    rcases flatG_mem _ _ _ _ hv with hv | ⟨s, hs, _, hv⟩
    · exact hn v hv
    · exact (nrm_all s.2).1 (hn s hs).2 v hv
  · exact nrm_of fun v hv => hn v (onceG_mem _ _ _ hv)
  · exact nrm_of fun v hv => hn v ((sortG_mem _ _).1 hv)
theorem flatG_siz (kind : Nat) : ∀ (l : List Tm) (n : Nat), flatG kind n l = l ∨ sizL (flatG kind n l) < sizL l
  | [], _ => .inl rfl
  | t :: l, n => by
    rw [flatG]
    split
    · right
      rw [sizL_app, sizL_to]
      simp only [sizL, sizT]
      rcases flatG_siz kind l (n + t.2.len - 1) with h | h
      · rw [h]; omega
      · omega
    · rcases flatG_siz kind l n with h | h
      · exact .inl (by rw [h])
      · right; simp only [sizL]; omega
theorem onceG_siz : ∀ (l : List Tm) (s : List (List UInt8)), sizL (onceG s l) + (l.length - (onceG s l).length) ≤ sizL l ∧ (onceG s l).length ≤ l.length
  | [], _ => ⟨Nat.le_refl _, Nat.le_refl _⟩
  | t :: l, s => by
    rw [onceG]
    split
    · have := onceG_siz l s
      simp only [sizL, sizT, List.length_cons]; omega
    · have := onceG_siz l (txT t :: s)
      simp only [sizL, sizT, List.length_cons]; omega
theorem insG_siz (t : Tm) : ∀ l : List Tm, sizL (insG t l) = sizT t + sizL l ∧ (insG t l).length = l.length + 1
  | [] => ⟨rfl, rfl⟩
  | u :: l => by
    rw [insG]
    split
    · exact ⟨rfl, rfl⟩
    · have := insG_siz t l
      simp only [sizL, List.length_cons]; omega
theorem sort_fold_siz : ∀ (l a : List Tm), sizL (l.foldl (fun a t => insG t a) a) = sizL l + sizL a ∧ (l.foldl (fun a t => insG t a) a).length = l.length + a.length
  | [], a => by simp [sizL]
  | t :: l, a => by
    have := sort_fold_siz l (insG t a)
    have h2 := insG_siz t a
    simp only [List.foldl_cons, sizL, List.length_cons]; omega
theorem sortG_siz (l : List Tm) : sizL (sortG l) = sizL l ∧ (sortG l).length = l.length := by
  have := sort_fold_siz l []
  simpa [sortG, sizL] using this
end Go.Proofs.YtioalnncjahlnaaGreatDoor

namespace Go.Proofs.YtioalnncjahlnaaGreatDoor

theorem ltB_irr : ∀ a : List UInt8, ltB a a = false
  | [] => rfl
  | a :: r => by simp [ltB, ltB_irr r]
theorem ltB_trans : ∀ a b c : List UInt8, ltB a b = true → ltB b c = true → ltB a c = true
  | [], [], _, h, _ => by cases h
  | _ :: _, [], _, h, _ => by cases h
  | _, _ :: _, [], _, h => by cases h
  | [], _ :: _, _ :: _, _, _ => rfl
  | a :: r, b :: s, c :: t, h, h2 => by
    simp only [ltB, Bool.or_eq_true, Bool.and_eq_true, decide_eq_true_eq] at h h2 ⊢
    rcases h with h | ⟨rfl, h⟩
    · rcases h2 with h2 | ⟨rfl, h2⟩
      · exact .inl (UInt8.lt_trans h h2)
      · exact .inl h
    · rcases h2 with h2 | ⟨rfl, h2⟩
      · exact .inl h2
      · exact .inr ⟨rfl, ltB_trans r s t h h2⟩
theorem ltB_total : ∀ a b : List UInt8, ltB a b = false → ltB b a = false → a = b
  | [], [], _, _ => rfl
  | [], _ :: _, h, _ => by cases h
  | _ :: _, [], _, h => by cases h
  | a :: r, b :: s, h, h2 => by
    simp only [ltB, Bool.or_eq_false_iff, decide_eq_false_iff_not, Bool.and_eq_false_iff] at h h2
    have e : a = b := by
      rcases Nat.lt_trichotomy a.toNat b.toNat with c | c | c
      · exact absurd (UInt8.lt_iff_toNat_lt.2 c) h.1
      · exact UInt8.toNat_inj.1 c
      · exact absurd (UInt8.lt_iff_toNat_lt.2 c) h2.1
    subst e
    have h3 : ltB r s = false := by
      rcases h.2 with c | c
      · exact absurd rfl c
      · exact c
    have h4 : ltB s r = false := by
      rcases h2.2 with c | c
      · exact absurd rfl c
      · exact c
    rw [ltB_total r s h3 h4]
theorem leB_trans {a b c : List UInt8} (h : ltB b a = false) (h2 : ltB c b = false) : ltB c a = false := by
  cases h3 : ltB c a
  · rfl
  · cases h4 : ltB a b
    · have := ltB_total a b h4 h
      subst this
      rw [h3] at h2; cases h2
    · have := ltB_trans c a b h3 h4
      rw [this] at h2; cases h2
/-- In order. -/
def SrtL : List Tm → Prop := List.Pairwise fun u v => ltB (txT v) (txT u) = false
theorem insG_srt (t : Tm) : ∀ l : List Tm, SrtL l → SrtL (insG t l)
  | [], _ => List.pairwise_singleton _ _
  | u :: l, h => by
    obtain ⟨h1, h2⟩ := List.pairwise_cons.1 h
    rw [insG]
    split
    · rename_i c
      refine List.pairwise_cons.2 ⟨fun v hv => ?_, h⟩
      have hc : ltB (txT u) (txT t) = false := by
        cases h3 : ltB (txT u) (txT t)
        · rfl
        · have := ltB_trans _ _ _ c h3
          rw [ltB_irr] at this; cases this
      rcases List.mem_cons.1 hv with rfl | hv
      · exact hc
      · exact leB_trans hc (h1 v hv)
    · rename_i c
      refine List.pairwise_cons.2 ⟨fun v hv => ?_, insG_srt t l h2⟩
      rcases (insG_mem t v l).1 hv with rfl | hv
      · simpa using c
      · exact h1 v hv
theorem sort_fold_srt : ∀ (l a : List Tm), SrtL a → SrtL (l.foldl (fun a t => insG t a) a)
  | [], _, h => h
  | t :: l, a, h => sort_fold_srt l (insG t a) (insG_srt t a h)
theorem sortG_srt (l : List Tm) : SrtL (sortG l) := sort_fold_srt l [] List.Pairwise.nil
theorem insG_last (t : Tm) : ∀ a : List Tm, (∀ u ∈ a, ltB (txT t) (txT u) = false) → insG t a = a ++ [t]
  | [], _ => rfl
  | u :: a, h => by
    rw [insG, if_neg (by rw [h u (by simp)]; decide), insG_last t a (fun v hv => h v (List.mem_cons_of_mem _ hv))]
    rfl
theorem sort_fold_fix : ∀ (l a : List Tm), SrtL (a ++ l) → l.foldl (fun a t => insG t a) a = a ++ l
  | [], a, _ => by simp
  | t :: l, a, h => by
    have h2 : ∀ u ∈ a, ltB (txT t) (txT u) = false := fun u hu => (List.pairwise_append.1 h).2.2 u hu t (by simp)
    rw [List.foldl_cons, insG_last t a h2, sort_fold_fix l (a ++ [t]) (by simpa using h)]
    simp
theorem sortG_fix {l : List Tm} (h : SrtL l) : sortG l = l := by
  have := sort_fold_fix l [] (by simpa using h)
  simpa [sortG] using this
def mu (t : Tm) : Nat := 2 * sizT t + (if (t.1.kind = 3 ∨ t.1.kind = 4) ∧ (toL t.2).map txT ≠ (sortG (toL t.2)).map txT then 1 else 0)
theorem mu_le (t : Tm) : 2 * sizT t ≤ mu t ∧ mu t ≤ 2 * sizT t + 1 := by
  unfold mu
  split <;> omega
theorem oneT_siz {t u : Tm} (h : oneT t = some u) : sizT u ≤ sizT t ∧ mu u < mu t := by
  have h1 := mu_le t; have h2 := mu_le u
  rcases oneT_cases h with h | ⟨_, hl, rfl⟩ | ⟨_, hl, rfl⟩ | ⟨hk, hl, rfl⟩
  · have : t.2.size = sizT u := by rw [← sizL_to, h]; simp [sizL]
    simp only [sizT] at *; omega
  · have hs : sizL (flatG t.1.kind (toL t.2).length (toL t.2)) < sizL (toL t.2) := by
      rcases flatG_siz t.1.kind (toL t.2) (toL t.2).length with e | e
      · rw [e] at hl; exact absurd rfl hl
      · exact e
    rw [sizL_to] at hs
    simp only [sizT, sizL_of] at *; omega
  · have hs := onceG_siz (toL t.2) []
    rw [sizL_to] at hs
    simp only [sizT, sizL_of] at *; omega
  · have hs := (sortG_siz (toL t.2)).1
    rw [sizL_to] at hs
    have e1 : sizT (t.1, ofL (sortG (toL t.2))) = sizT t := by simp only [sizT, sizL_of, hs]
    refine ⟨by omega, ?_⟩
    unfold mu
    rw [e1, if_neg, if_pos ⟨hk, hl⟩]
    · omega
    · rintro ⟨_, c⟩
      simp only [to_of, sortG_fix (sortG_srt _)] at c
      exact c rfl
theorem loopT_end : ∀ (m : Nat) (t : Tm), mu t ≤ m → oneT (loopT m t) = none
  | 0, t, h => by have := mu_le t; simp only [sizT] at this; omega
  | m + 1, t, h => by
    rw [loopT]
    cases h1 : oneT t with
    | none => exact h1
    | some u => exact loopT_end m u (by have := (oneT_siz h1).2; omega)
/-- What the rules keep, the loop keeps. -/
theorem loopT_keep {I : Tm → Prop} (hI : ∀ t u, I t → oneT t = some u → I u) : ∀ (m : Nat) (t : Tm), I t → I (loopT m t)
  | 0, _, h => h
  | m + 1, t, h => by
    rw [loopT]
    cases h1 : oneT t with
    | none => exact h
    | some u => exact loopT_keep hI m u (hI t u h h1)
theorem plain_siz : ∀ F : Fst, (plainF F).size ≤ F.size ∧ (plainF F).len = F.len
  | .nil => ⟨Nat.le_refl _, rfl⟩
  | .cons x K N => by
    have h1 := plain_siz K; have h2 := plain_siz N
    have h3 := loopT_keep (I := fun t => sizT t ≤ K.size + 1) (fun t u h e => Nat.le_trans (oneT_siz e).1 h) (2 * K.size + 4) (x, plainF K) (by simp only [sizT]; omega)
    simp only [sizT] at h3
    simp only [plainF, Fst.size, Fst.len]; omega
theorem plain_nrm : ∀ F : Fst, Nrm (plainF F)
  | .nil => trivial
  | .cons x K N => by
    rw [plainF]
    refine ⟨loopT_end _ _ ?_, loopT_keep (I := fun t => Nrm t.2) (fun t u h e => oneT_nrm e h) _ _ (plain_nrm K), plain_nrm N⟩
    have h1 := (mu_le (x, plainF K)).2
    have h2 := (plain_siz K).1
    simp only [sizT] at h1; omega
/-- The normal form of a normal form is it. -/
theorem plain_plain (F : Fst) : plainF (plainF F) = plainF F := plain_fix _ (plain_nrm F)
theorem dep_all : ∀ (F : Fst) (d : Nat), F.depth ≤ d ↔ ∀ t ∈ toL F, t.2.depth + 1 ≤ d
  | .nil, d => by simp [Fst.depth, toL]
  | .cons x K N, d => by
    simp only [Fst.depth, toL, List.mem_cons, forall_eq_or_imp, ← dep_all N d]
    omega
theorem oneT_dep {t u : Tm} {d : Nat} (h : oneT t = some u) (hd : t.2.depth + 1 ≤ d) : u.2.depth + 1 ≤ d := by
  have hm := (dep_all t.2 t.2.depth).1 (Nat.le_refl _)
  have key : ∀ l : List Tm, (∀ v ∈ l, v.2.depth + 1 ≤ t.2.depth) → (ofL l).depth + 1 ≤ d := fun l hl => by
    have := (dep_all (ofL l) t.2.depth).2 (by rw [to_of]; exact hl)
    omega
  rcases oneT_cases h with h | ⟨_, _, rfl⟩ | ⟨_, _, rfl⟩ | ⟨_, _, rfl⟩
  · have := hm u (by rw [h]; simp); omega
  · refine key _ fun v hv => ?_
    rcases flatG_mem _ _ _ _ hv with hv | ⟨s, hs, _, hv⟩
    · exact hm v hv
    · have h1 := hm s hs
      have h2 := (dep_all s.2 s.2.depth).1 (Nat.le_refl _) v hv
      omega
  · exact key _ fun v hv => hm v (onceG_mem _ _ _ hv)
  · exact key _ fun v hv => hm v ((sortG_mem _ _).1 hv)
theorem plain_dep : ∀ F : Fst, (plainF F).depth ≤ F.depth
  | .nil => Nat.le_refl _
  | .cons x K N => by
    have h1 := plain_dep K; have h2 := plain_dep N
    have h3 := loopT_keep (I := fun t => t.2.depth + 1 ≤ K.depth + 1) (fun t u h e => oneT_dep e h) (2 * K.size + 4) (x, plainF K) (by simp only; omega)
    simp only [plainF, Fst.depth]; omega
/-- The parts, as they stand, with what is kept beside them. -/
def prsF : Fst → List Prt
  | .nil => []
  | .cons x K N => x :: (prsF K ++ prsF N)
theorem prsF_len : ∀ F : Fst, (prsF F).length = F.size
  | .nil => rfl
  | .cons x K N => by simp only [prsF, Fst.size, List.length_cons, List.length_append, prsF_len K, prsF_len N]
def cT (p : Prt) (t : Tm) : Nat := (prsF (.cons t.1 t.2 .nil)).count p
def cL (p : Prt) : List Tm → Nat
  | [] => 0
  | t :: l => cT p t + cL p l
theorem cL_to (p : Prt) : ∀ F : Fst, cL p (toL F) = (prsF F).count p
  | .nil => rfl
  | .cons x K N => by
    simp only [toL, cL, cT, prsF, List.append_nil, cL_to p N, List.count_cons, List.count_append]; omega
theorem cL_of (p : Prt) (l : List Tm) : (prsF (ofL l)).count p = cL p l := by rw [← cL_to, to_of]
theorem cL_app (p : Prt) : ∀ a b : List Tm, cL p (a ++ b) = cL p a + cL p b
  | [], b => by simp [cL]
  | t :: a, b => by simp only [List.cons_append, cL, cL_app p a b]; omega
theorem cT_eq (p : Prt) (t : Tm) : cT p t = (if t.1 = p then 1 else 0) + (prsF t.2).count p := by
  simp only [cT, prsF, List.append_nil, List.count_cons]
  by_cases c : t.1 = p
  · simp [c]; omega
  · simp [c]
theorem cL_flat (p : Prt) (kind : Nat) : ∀ (l : List Tm) (n : Nat), cL p (flatG kind n l) ≤ cL p l
  | [], _ => Nat.le_refl _
  | t :: l, n => by
    rw [flatG]
    split
    · have := cL_flat p kind l (n + t.2.len - 1)
      have h2 := cT_eq p t
      rw [cL_app, cL_to]
      simp only [cL]; omega
    · have := cL_flat p kind l n
      simp only [cL]; omega
theorem cL_once (p : Prt) : ∀ (l : List Tm) (s : List (List UInt8)), cL p (onceG s l) ≤ cL p l
  | [], _ => Nat.le_refl _
  | t :: l, s => by
    rw [onceG]
    split
    · have := cL_once p l s; simp only [cL]; omega
    · have := cL_once p l (txT t :: s); simp only [cL]; omega
theorem cL_ins (p : Prt) (t : Tm) : ∀ l : List Tm, cL p (insG t l) = cT p t + cL p l
  | [] => rfl
  | u :: l => by
    rw [insG]
    split
    · rfl
    · have := cL_ins p t l; simp only [cL]; omega
theorem cL_fold (p : Prt) : ∀ (l a : List Tm), cL p (l.foldl (fun a t => insG t a) a) = cL p l + cL p a
  | [], a => by simp [cL]
  | t :: l, a => by
    have := cL_fold p l (insG t a); have h2 := cL_ins p t a
    simp only [List.foldl_cons, cL]; omega
theorem oneT_cnt {t u : Tm} (p : Prt) (h : oneT t = some u) : cT p u ≤ cT p t := by
  have e := cT_eq p t
  have key : ∀ l : List Tm, cL p l ≤ cL p (toL t.2) → cT p (t.1, ofL l) ≤ cT p t := fun l hl => by
    have e2 := cT_eq p (t.1, ofL l)
    rw [cL_to] at hl
    simp only [cL_of] at e2
    omega
  rcases oneT_cases h with h | ⟨_, _, rfl⟩ | ⟨_, _, rfl⟩ | ⟨_, _, rfl⟩
  · have h2 := cL_to p t.2
    rw [h] at h2
    simp only [cL] at h2
    omega
  · exact key _ (cL_flat p _ _ _)
  · exact key _ (cL_once p _ _)
  · refine key _ ?_
    have := cL_fold p (toL t.2) []
    simp only [cL] at this
    unfold sortG
    omega
/-- Each part of the normal form was there, and none more often. -/
theorem plain_cnt (p : Prt) : ∀ F : Fst, (prsF (plainF F)).count p ≤ (prsF F).count p
  | .nil => Nat.le_refl _
  | .cons x K N => by
    have h1 := plain_cnt p K; have h2 := plain_cnt p N
    have h3 := loopT_keep (I := fun t => cT p t ≤ cT p (x, plainF K)) (fun t u h e => Nat.le_trans (oneT_cnt p e) h) (2 * K.size + 4) (x, plainF K) (Nat.le_refl _)
    have e1 := cT_eq p (x, plainF K)
    have e2 := cT_eq p (loopT (2 * K.size + 4) (x, plainF K))
    have e3 : (prsF (plainF (.cons x K N))).count p = cT p (loopT (2 * K.size + 4) (x, plainF K)) + (prsF (plainF N)).count p := by
      rw [plainF, e2]
      simp only [prsF, List.count_cons, List.count_append, beq_iff_eq]
      omega
    rw [e3]
    simp only [prsF, List.count_cons, List.count_append, beq_iff_eq]
    simp only at e1 h3
    omega
end Go.Proofs.YtioalnncjahlnaaGreatDoor
