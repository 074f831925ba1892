/- Program-free lemmas for walks over calls that make memory of their own. No conditions. What the walks are told of package-level tables: where the program has them, that they hold what they are laid with (strconv's powers of ten; the words of the kinds); else nothing. No conditions. From a walk to a statement: a law whose call answers true and only makes memory has its row. .. -/
import Derived.WalkKit
import Derived.ProofKit
import Derived.OpenShut
import Derived.Below
import Derived.WalkSmall
import Derived.OneCell
import Derived.Deep.QuietTactic
import Derived.BigQuiet
import Derived.Lib.LaidTab
import Derived.Shelf.Strconv.Itoa4
import Derived.Test.YthlepbbdjmmelaaGreatDoorProg
import Derived.Test.YthlepbbdjmmelaaGreatDoorRows
import Derived.Test.YthlepbbdjmmelaaGreatDoorTie
import Derived.Test.YthlepbbdjmmelaaGreatDoorCards
import Derived.LaidMore
import Derived.Lay
import Derived.SevenTiedAt
import Derived.Stop.Joined
import Derived.Carry
import Derived.Lib.SmallJoins
import Derived.Test.YthlepbbdjmmelaaGreatDoorPWMA
import Derived.LoopTactic
import Derived.Deep.LoopGhost
import Derived.WalkMore
import Derived.ScopeJumps
import Derived.Deep.DeepCutAuto
import Derived.Outline
import Derived.BigRegion
import Derived.Laws.AppendOwn
import Derived.Laws.OwnMore
import Derived.Laws.IdiomStrings
namespace Go.Proofs.YthlepbbdjmmelaaGreatDoor
section
open Go.ChangeShapes Go.WideShapes Go.ChangeAt Go.RowKit
def Past (W:World):Type:={ w:World // Below W.heap.size W w }
instance (W:World):Nonempty (Past W):=⟨⟨W,Below.refl _ _⟩⟩
theorem Past.cell {W:World} (x:Past W) (b o:Nat) (h:b < W.heap.size):x.1.cell? ⟨b,o,none⟩ = W.cell? ⟨b,o,none⟩ :=
  x.2.cell (p:=⟨b,o,none⟩) h
theorem bcell {W w1:World} (hb:Below W.heap.size W w1):(∀ b o,b < W.heap.size→w1.cell? ⟨b,o,none⟩ = W.cell? ⟨b,o,none⟩)∧(∀ b o,b < W.heap.size→w1.frozen? ⟨b,o,none⟩ = W.frozen? ⟨b,o,none⟩) :=
  ⟨fun b o h => hb.cell (p:=⟨b,o,none⟩) h,fun b o h => hb.frozen (p:=⟨b,o,none⟩) h⟩
theorem bsz {W w1:World} (hb:Below W.heap.size W w1) (k:Nat) (h:k < W.heap.size):k < w1.heap.size:=Nat.lt_of_lt_of_le h hb.size
theorem wp_region_past_lit {P:Program} {id:Nat} {Q:Exit→Act→World→Prop} {a:Act} {w:World} {l:List Oper} (hm:P.follows .mixedOrders = true) (hB:Region.lexB .any l.toArray = true)
    (h:wpQuiet P l.toArray (fun w' => ∃ x:Past w,w' = x.1) (fun a' => ∀ w',(∃ x:Past w,w' = x.1)→Q .normal a' w') l a):(Code.region id l.toArray true).wp P Q a w :=
  wp_region_quiet (C:=fun w' => ∃ x:Past w,w' = x.1) hm hB ⟨⟨_,(Below.refl _ _).drew⟩,rfl⟩ (by simpa using h)
theorem Past.call {P:Program} {f:FuncId} {args:Array Value} {W:World} {v:Value} (x:Past W)
    (h:Calls P f args x.1 fun e w' => e = .returned v∧Below x.1.heap.size x.1 w'):Calls P f args x.1 fun e w'' => e = .returned v∧∃ y:Past W,w'' = y.1 :=
  h.mono fun _ _ ⟨he,hb⟩ => ⟨he,⟨⟨_,x.2.trans (hb.mono x.2.size)⟩,rfl⟩⟩
theorem Past.same {P:Program} {f:FuncId} {args:Array Value} {W:World} {v:Value} (x:Past W)
    (h:Calls P f args x.1 fun e w' => e = .returned v∧w' = x.1):Calls P f args x.1 fun e w'' => e = .returned v∧∃ y:Past W,w'' = y.1 :=
  h.mono fun _ _ ⟨he,hb⟩ => ⟨he,⟨x,hb⟩⟩
theorem Past.prop {W:World} (x:Past W):Below W.heap.size W x.1:=x.2
theorem bstep {a W w':World} (h:Below W.heap.size W w') (ha:Below a.heap.size a W):Below a.heap.size a w':=ha.trans (h.mono ha.size)
theorem balloc {a w:World} (h:Below a.heap.size a w) (o:Obj):Below a.heap.size a (w.alloc o):=h.alloc h.size o
theorem hidE {p:Prop} (h:p):Hid p:=h
def Blk (w:World) (k:Nat) (cs:Array Value) (t:TypeId):Prop:=w.heap[k]? = some (.cells cs t (0,0))
theorem Blk.lt {w:World} {k:Nat} {cs:Array Value} {t:TypeId} (h:Blk w k cs t):k < w.heap.size:=lt_of_block h
theorem Blk.cell {w:World} {k:Nat} {cs:Array Value} {t:TypeId} (h:Blk w k cs t) (i:Nat):w.cell? ⟨k,i,none⟩ = cs[i]? := by
  unfold Blk at h;simp [World.cell?,h]
theorem Blk.free {w:World} {k:Nat} {cs:Array Value} {t:TypeId} (h:Blk w k cs t) (i:Nat):w.frozen? ⟨k,i,none⟩ = false:=by
  unfold Blk at h;simp [World.frozen?,h]
theorem Blk.made (w:World) (cs:Array Value) (t:TypeId):Blk (w.alloc (.cells cs t)) w.heap.size cs t:=by
  show (w.heap.push _)[w.heap.size]? = _
  simp
theorem Blk.made_at (w:World) (cs:Array Value) (t:TypeId) (k:Nat) (h:k = w.heap.size):Blk (w.alloc (.cells cs t)) k cs t:=h ▸ Blk.made w cs t
theorem Blk.alloc {w:World} {k:Nat} {cs:Array Value} {t:TypeId} (h:Blk w k cs t) (o:Obj):Blk (w.alloc o) k cs t:=by
  have:=h.lt
  show (w.heap.push _)[k]? = _
  rw [Array.getElem?_push,if_neg (by omega)];exact h
theorem Blk.below {w w':World} {k:Nat} {cs:Array Value} {t:TypeId} (h:Blk w k cs t) {B:Nat} (hb:Below B w w') (hk:k < B):Blk w' k cs t:=(hb.block k hk).trans h
theorem Blk.past {w w':World} {k:Nat} {cs:Array Value} {t:TypeId} (h:Blk w k cs t) (hb:Below w.heap.size w w'):Blk w' k cs t:=h.below hb h.lt
theorem Blk.drew {w:World} {k:Nat} {cs:Array Value} {t:TypeId} (h:Blk w k cs t) (n:Nat):Blk (w.drewN n) k cs t:=h
theorem Blk.set {w:World} {k:Nat} {cs:Array Value} {t:TypeId} (h:Blk w k cs t) (i:Nat) (v:Value):Blk (w.setCell ⟨k,i,none⟩ v) k (cs.setIfInBounds i v) t:=by
  have hlt:=h.lt
  have h':w.heap[k] = .cells cs t (0,0):=by unfold Blk at h;simpa [Array.getElem?_eq_getElem hlt] using h
  show (w.heap.modify k _)[k]? = _
  rw [Array.getElem?_eq_getElem (by simpa using hlt),Array.getElem_modify_self,h']
  rfl
theorem Blk.other {w:World} {k:Nat} {cs:Array Value} {t:TypeId} (h:Blk w k cs t) {b i:Nat} (hb:k ≠ b) (v:Value):Blk (w.setCell ⟨b,i,none⟩ v) k cs t :=
  (Below.heap_setCell w ⟨b,i,none⟩ v k hb).trans h
theorem ret_bool {a b:Bool} (h:a = b):Ending.returned (.bool a) = .returned (.bool b):=by rw [h]
theorem ret_int {k:IntKind} {a b:Int} (h:a = b):Ending.returned (.int k a) = .returned (.int k b):=by rw [h]
end
section
open Go.RowKit
def PowTab (w:World):Prop:=Lib.TabIs Tryz.prog w "internal/strconv.uint64pow10" .u64 Lib.pow10Tab
theorem var_lt {w:World} {name:String} {g:Nat} {cs:Array Value} (hg:Tryz.prog.globalNamed name = some g) (h:w.var? Tryz.prog name = some cs):g < w.heap.size:=by
  unfold World.var? at h
  rw [hg] at h
  simp only [Option.bind_some] at h
  rcases Nat.lt_or_ge g w.heap.size with h' | h'
  · exact h'
  · simp [Array.getElem?_eq_none h'] at h
theorem var_below {w w':World} {B:Nat} {name:String} {g:Nat} {cs:Array Value} (hg:Tryz.prog.globalNamed name = some g) (h:w.var? Tryz.prog name = some cs) (hb:Below B w w') (hB:g < B):w'.var? Tryz.prog name = some cs:=by
  unfold World.var? at h ⊢
  rw [hg] at h ⊢
  simp only [Option.bind_some] at h ⊢
  rw [hb.block _ hB]
  exact h
theorem var_past {w w':World} {name:String} {g:Nat} {cs:Array Value} (hg:Tryz.prog.globalNamed name = some g) (h:w.var? Tryz.prog name = some cs) (hb:Below w.heap.size w w'):w'.var? Tryz.prog name = some cs:=var_below hg h hb (var_lt hg h)
theorem PowTab.past {w w':World} (h:PowTab w) (hb:Below w.heap.size w w'):PowTab w':=var_past (g:=2) (by kernel_rfl) h hb
def wordTab:List ByteArray:=[⟨#[97,116,111,109]⟩,⟨#[111,114,100,101,114]⟩,⟨#[110,101,120,116]⟩,⟨#[97,110,121]⟩,⟨#[97,108,108]⟩]
def WordsAre (w:World):Prop:=w.var? Tryz.prog "livery/parse.words" = some (wordTab.map Value.string).toArray
theorem WordsAre.past {w w':World} (h:WordsAre w) (hb:Below w.heap.size w w'):WordsAre w':=var_past (g:=1) (by kernel_rfl) h hb
theorem WordsAre.below {w w':World} {B:Nat} (h:WordsAre w) (hb:Below B w w') (hB:1 < B):WordsAre w':=var_below (g:=1) (by kernel_rfl) h hb hB
theorem WordsAre.lt {w:World} (h:WordsAre w):1 < w.heap.size:=var_lt (by kernel_rfl) h
theorem WordsAre.cell {w:World} (h:WordsAre w) {i:Nat} {s:ByteArray} (hi:wordTab[i]? = some s):w.cell? ⟨1,i,none⟩ = some (.string s):=by
  have:=World.var?_cell (g:=1) (by kernel_rfl) h i
  simpa [hi] using this
theorem cells_of_strs {H:Type} {enc:TypeId × Value→H} {P:Program} {w:World} {base:Nat} {sp:Nat→Bool} {held:Bool} {fuel:Nat} {t e:TypeId} {n:Nat} {cs:List Value} {ls:List (List UInt8)} {p:List MemPlace}
    (ht:P.underlying t = some (.array n e)) (he:P.underlying e = some .string) (hce:P.cellsOf e = 1) (hct:P.cellsOf t = n)
    (h:DataW.trod enc P w base sp held fuel t cs = some (.agg (ls.map fun l => .lit (.string l)),p)):cs = ls.map fun l => Value.string ⟨l.toArray⟩:=by
  cases fuel with
  | zero => simp [DataW.trod] at h
  | succ fuel =>
    simp only [DataW.trod,ht,hce,hct,Nat.mul_one] at h
    split at h
    · rename_i hl
      obtain ⟨xs,hm,hx⟩:=Option.map_eq_some_iff.1 h
      have hxs:xs.map (·.1) = ls.map fun l => (DataW.lit (.string l):DataW H):=by
        have:=congrArg Prod.fst hx
        simpa using this
      have hxl:xs.length = n:=by simpa using Lib.mapM_length hm
      have hzl:ls.length = n:=by
        have:=congrArg List.length hxs
        simp at this
        omega
      apply List.ext_getElem?
      intro i
      by_cases hi:i < n
      · obtain ⟨b,hb,hf⟩:=Lib.mapM_at hm i i (by simp [hi])
        obtain ⟨s,hc,rfl,_⟩:=DataW.trod_string he hf
        have h1:cs[i]? = some (.string s):=by
          have:=congrArg (·[0]?) hc
          simpa [List.getElem?_take,List.getElem?_drop] using this
        have h2:(xs.map (·.1))[i]? = some (DataW.lit (.string s.data.toList):DataW H):=by simp [hb]
        rw [hxs] at h2
        simp only [List.getElem?_map,Option.map_eq_some_iff,DataW.lit.injEq,Lit.string.injEq] at h2
        obtain ⟨z',hz',e'⟩:=h2
        subst e'
        simp [h1,hz']
      · rw [List.getElem?_eq_none (by omega),List.getElem?_eq_none (by simp;omega)]
    · cases h
theorem words_of_head {W:World} {rest:List (String × DataW Unit)} {d:DataW Unit} (hd:d = .agg ([[97,116,111,109],[111,114,100,101,114],[110,101,120,116],[97,110,121],[97,108,108]].map fun l => .lit (.string l))) (h:laidMet Tryz.prog (("livery/parse.words",d) :: rest) W):WordsAre W:=by
  subst hd
  obtain ⟨ps,⟨g',t',cs,fuel,p,q,hg',ht',hvar,hd,_,_⟩,_⟩:=h
  obtain rfl:=Option.some.inj ((show Tryz.prog.globalNamed "livery/parse.words" = some 1 by kernel_rfl).symm.trans hg')
  obtain rfl:=Option.some.inj ((show (Tryz.prog.globals[1]?).map (·.type) = some 197 by kernel_rfl).symm.trans ht')
  unfold WordsAre
  have e:=cells_of_strs Tryz.underlying197 Tryz.underlying9 (by kernel_rfl) (by kernel_rfl) hd
  have e2:List.map Value.string wordTab = cs.toList:=by rw [e];rfl
  rw [hvar,e2]
def Tab (w:World):Prop:=PowTab w∧WordsAre w
theorem Tab.past {w w':World} (h:Tab w) (hb:Below w.heap.size w w'):Tab w':=⟨h.1.past hb,h.2.past hb⟩
end
section
open Go.ChangeShapes Go.WideShapes Go.ChangeAt Go.RowKit Go.WideElems
def readOk (P:Program) (ts:List TypeId):Bool:=ts.all fun t => P.readableRec t && decide (t < P.types.size)
theorem readOk_spec {P:Program} {ts:List TypeId} (h:readOk P ts = true):∀ t ∈ ts,P.readableRec t = true∧t < P.types.size:=fun t ht => by
  have:=List.all_eq_true.1 h t ht
  simpa using this
theorem laidMet_tail {P:Program} {W:World} {x:String × DataW Unit} {rest:List (String × DataW Unit)} (h:laidMet P (x :: rest) W):laidMet P rest W:=by
  obtain ⟨n,d⟩:=x
  obtain ⟨ps,⟨g,t,cs,fuel,p,q,_,_,_,_,hr,rfl⟩,hnd,hall⟩:=h
  exact ⟨q,hr,(List.nodup_append.1 hnd).2.1,fun b off hm => hall b off (List.mem_append_right _ hm)⟩
theorem tab_of_laid {W:World} {rest:List (String × DataW Unit)} (h:laidMet Tryz.prog (("internal/strconv.uint64pow10",Rows.laid_internal_strconv_uint64pow10) :: rest) W):PowTab W :=
  Lib.tabIs_of_head (g:=2) (by kernel_rfl) (t:=211) (by kernel_rfl) Tryz.underlying211 (e:=204) Tryz.underlying204 (by kernel_rfl) (by kernel_rfl) h
theorem words_of_laid {W:World} {rest:List (String × DataW Unit)} (h:laidMet Tryz.prog (("livery/parse.words",Rows.laid_livery_parse_words) :: rest) W):WordsAre W:=words_of_head rfl h
theorem own:ownKnob Tryz.prog.godebug = none:=by kernel_rfl
theorem laidOut:laidOutB Tryz.prog = true:=by kernel_rfl
section
variable {H:Type} {enc:TypeId × Value→H} {P:Program}
theorem trodAll_past (hl:laidOutB P = true) {W W':World} (hb:Below W.heap.size W W'):∀ (ts:List TypeId) (vs:List Value) (ds:List (DataW H)) (ps:List MemPlace),
    (∀ t ∈ ts,P.readableRec t = true∧t < P.types.size)→DataW.TrodAll enc P W 0 (fun _ => true) true ts vs ds ps→(∀ x ∈ ps,x.block < W.heap.size) →
    ∀ sp:Nat→Bool,(∀ x ∈ ps,sp x.block = true)→DataW.TrodAll enc P W' 0 sp true ts vs ds ps:=by
  intro ts
  induction ts with
  | nil =>
    intro vs ds ps _ h _ sp _
    cases vs <;> cases ds <;> simp only [DataW.TrodAll] at h ⊢
    exact h
  | cons t ts ih =>
    intro vs ds ps hr h hlt sp hsp
    cases vs with
    | nil => cases ds <;> simp only [DataW.TrodAll] at h
    | cons v vs =>
      cases ds with
      | nil => simp only [DataW.TrodAll] at h
      | cons d ds =>
        simp only [DataW.TrodAll] at h ⊢
        obtain ⟨p,q,h1,h2,rfl⟩:=h
        have hr0:=hr t (by simp)
        exact ⟨p,q,WideElems.Trod_stays hl hr0.1 hr0.2 h1 (fun x hx => hb.same (hlt x (by simp [hx]))) (fun x hx => hsp x (by simp [hx])),
          ih vs ds q (fun u hu => hr u (by simp [hu])) h2 (fun x hx => hlt x (by simp [hx])) sp (fun x hx => hsp x (by simp [hx])),rfl⟩
theorem law_post {f:Func} {s:ChangeSpec} {rt:TypeId} {W W':World} {args:Array Value} {ds gs:List (DataW H)} {before:List MemPlace}
    (hl:laidOutB P = true) (hread:∀ t ∈ f.params.toList,P.readableRec t = true∧t < P.types.size) (hv:s.vars = []) (hbool:P.underlying rt = some .bool) (hrt:f.resultTypes = #[rt])
    (hfn:(s.fn H ds).results = [.lit (.bool true)]∧(s.fn H ds).args = ds∧(s.fn H ds).vars = [])
    (hW:DataW.Whole enc P f.params.toList s.vars false W args.toList ds gs before) (hb:Below W.heap.size W W') :
    s.post enc P f false true false false W args (.bool true) W':=by
  have hlt:∀ x ∈ before,x.block < W.heap.size:=fun x hx => hW.lt x hx
  have hW':=hW
  obtain ⟨p,q,hA,hV,rfl,hz,hn⟩:=hW
  rw [hv] at hV
  obtain ⟨rfl,rfl⟩:=trodVars_none hV
  rw [List.append_nil] at *
  obtain ⟨e1,e2,e3⟩:=hfn
  have hres:∀ (b:Nat) (sp:Nat→Bool) (hd:Bool),DataW.TrodAll enc P W' b sp hd f.resultTypes.toList ((Value.bool true).resultList f.resultTypes.size) (s.fn H (ds ++ [])).results []:=by
    intro b sp hd
    rw [List.append_nil,e1,hrt]
    exact trodAll_cons_mk (shut_bool hbool true) trodAll_mk0
  have hargs:∀ sp:Nat→Bool,(∀ x ∈ p,sp x.block = true)→DataW.TrodAll enc P W' 0 sp true f.params.toList args.toList (s.fn H (ds ++ [])).args p:=by
    intro sp hsp
    rw [List.append_nil,e2]
    exact trodAll_past hl hb _ _ _ _ hread hA hlt sp hsp
  have hvars:∀ sp:Nat→Bool,DataW.TrodVars enc P W' sp s.vars (s.fn H (ds ++ [])).vars []:=by
    intro sp
    rw [List.append_nil,e3,hv]
    rfl
  have hold:∀ x ∈ p,(fun b => decide (b < W.heap.size)) x.block = true:=fun x hx => by simpa using hlt x hx
  refine ⟨ds,[],p,[],p,[],hW',hres _ _ _,hargs _ hold,hvars _,World.keptBut_mono (fun x hx => ⟨hx,Or.inr (by simpa using hx)⟩) (hb.frame (· ∈ p)),fun h => by cases h⟩
end
end
section
open Go.ChangeShapes Go.WideShapes Go.ChangeAt Go.RowKit
attribute [local irreducible] Go.Calls
def pr0:Prt:=⟨0,0,0,0,0⟩
abbrev prtV (x:Prt):Value := .agg #[.int .u8 x.kind,.int .u32 x.n,.int .u32 x.g,.int .i64 x.d,.int .i64 x.kids]
abbrev defV (fr to':Int) (a:Option Addr) (n cap:Nat):Value := .agg #[.int .i64 fr,.int .i64 to',.slice a n cap]
def CellsP (w:World) (b off:Nat) (l:List Prt):Prop :=
  ∀ i,i < l.length→w.cell? ⟨b,off + i * 5,none⟩ = some (.int .u8 (l.getD i pr0).kind)∧w.cell? ⟨b,off + i * 5 + 1,none⟩ = some (.int .u32 (l.getD i pr0).n)∧w.cell? ⟨b,off + i * 5 + 2,none⟩ = some (.int .u32 (l.getD i pr0).g)∧w.cell? ⟨b,off + i * 5 + 3,none⟩ = some (.int .i64 (l.getD i pr0).d)∧w.cell? ⟨b,off + i * 5 + 4,none⟩ = some (.int .i64 (l.getD i pr0).kids)
def ArgP (w:World) (a:Option Addr) (l:List Prt):Prop:=0 < l.length→∃ b off,a = some ⟨b,off,none⟩∧b < w.heap.size∧CellsP w b off l
theorem CellsP.below {w w':World} {b off B:Nat} {l:List Prt} (h:CellsP w b off l) (hb:Below B w w') (hB:b < B):CellsP w' b off l:=fun i hi => by
  obtain ⟨h1,h2,h3,h4,h5⟩:=h i hi
  exact ⟨(hb.cell (p:=⟨b,_,none⟩) hB).trans h1,(hb.cell (p:=⟨b,_,none⟩) hB).trans h2,(hb.cell (p:=⟨b,_,none⟩) hB).trans h3,(hb.cell (p:=⟨b,_,none⟩) hB).trans h4,(hb.cell (p:=⟨b,_,none⟩) hB).trans h5⟩
theorem ArgP.past {w w':World} {a:Option Addr} {l:List Prt} (h:ArgP w a l) (hb:Below w.heap.size w w'):ArgP w' a l:=fun hl => by
  obtain ⟨b,off,e,h1,h2⟩:=h hl
  exact ⟨b,off,e,Nat.lt_of_lt_of_le h1 hb.size,h2.below hb h1⟩
theorem CellsP.get {w:World} {b off:Nat} {l:List Prt} (h:CellsP w b off l) {i:Nat} (hi:i < l.length):w.cell? ⟨b,off + i * 5,none⟩ = some (.int .u8 (l.getD i pr0).kind)∧w.cell? ⟨b,off + i * 5 + 1,none⟩ = some (.int .u32 (l.getD i pr0).n)∧w.cell? ⟨b,off + i * 5 + 2,none⟩ = some (.int .u32 (l.getD i pr0).g)∧w.cell? ⟨b,off + i * 5 + 3,none⟩ = some (.int .i64 (l.getD i pr0).d)∧w.cell? ⟨b,off + i * 5 + 4,none⟩ = some (.int .i64 (l.getD i pr0).kids):=h i hi
theorem Tryz.infoPart:(Tryz.prog.info? 59).map (fun i => (i.zero,i.size,i.bytes)) = some (some (.agg #[.int .u8 0,.int .u32 0,.int .u32 0,.int .i64 0,.int .i64 0]),5,32):=by kernel_rfl
def cellsOfP:List Prt→List Value
  | [] => []
  | t :: r => .int .u8 t.kind :: .int .u32 t.n :: .int .u32 t.g :: .int .i64 t.d :: .int .i64 t.kids :: cellsOfP r
theorem cellsOfP_app:∀ l r,cellsOfP (l ++ r) = cellsOfP l ++ cellsOfP r
  | [],_ => rfl
  | s :: l,r => by simp only [cellsOfP,List.cons_append,cellsOfP_app l r]
theorem cellsOfP_get:∀ (l:List Prt) (i:Nat),i < l.length→(cellsOfP l)[i * 5]? = some (.int .u8 (l.getD i pr0).kind)∧(cellsOfP l)[i * 5 + 1]? = some (.int .u32 (l.getD i pr0).n)∧(cellsOfP l)[i * 5 + 2]? = some (.int .u32 (l.getD i pr0).g)∧(cellsOfP l)[i * 5 + 3]? = some (.int .i64 (l.getD i pr0).d)∧(cellsOfP l)[i * 5 + 4]? = some (.int .i64 (l.getD i pr0).kids)
  | [],i,h => by simp at h
  | s :: l,0,_ => ⟨rfl,rfl,rfl,rfl,rfl⟩
  | s :: l, i + 1, h => by
    obtain ⟨h1,h2,h3,h4,h5⟩:=cellsOfP_get l i (by simp at h;omega)
    have e:∀ j,(cellsOfP (s :: l))[(i + 1) * 5 + j]? = (cellsOfP l)[i * 5 + j]? := fun j => by
      simp only [cellsOfP]
      rw [show (i + 1) * 5 + j = i * 5 + j + 1 + 1 + 1 + 1 + 1 by omega]
      simp only [List.getElem?_cons_succ]
    exact ⟨(e 0).trans h1,(e 1).trans h2,(e 2).trans h3,(e 3).trans h4,(e 4).trans h5⟩
def SliP (w:World) (v:Value) (l:List Prt):Prop:=∃ (a:Option Addr) (cap:Nat),v = .slice a l.length cap∧l.length≤cap∧cap≤9223372036854775807∧ArgP w a l
theorem sliP_nil (w:World):SliP w (.slice none 0 0) []:=⟨none,0,rfl,Nat.le_refl _,by omega,fun h => by simp at h⟩
theorem sliP_own {w:World} {base:Nat} {e:TypeId} {v:Value} {l:List Prt} (h:w.ownsRow base e 5 v l.length (cellsOfP l)):SliP w v l:=by
  obtain ⟨h1,h2 | ⟨g,cap,cur,rfl,h3,h4,h5,h6,h7,h8⟩⟩:=h
  · obtain ⟨rfl,h2⟩:=h2
    have:l = []:=List.eq_nil_of_length_eq_zero h2
    subst this
    exact sliP_nil w
  · refine ⟨some ⟨g,0,none⟩,cap,rfl,h5,by unfold maxLen at h6;omega,fun _ => ⟨g,0,rfl,lt_of_block h4,fun i hi => ?_⟩⟩
    have hg:=cellsOfP_get l i hi
    have hc:∀ j x,j < l.length * 5→(cellsOfP l)[j]? = some x→w.cell? ⟨g,j,none⟩ = some x:=fun j x hj hx => by
      have e:w.cell? ⟨g,j,none⟩ = cur[j]? := by simp [World.cell?,h4]
      rw [e,← Array.getElem?_toList]
      rw [← h8,List.getElem?_take,if_pos hj] at hx
      exact hx
    simp only [Nat.zero_add]
    exact ⟨hc _ _ (by omega) hg.1,hc _ _ (by omega) hg.2.1,hc _ _ (by omega) hg.2.2.1,hc _ _ (by omega) hg.2.2.2.1,hc _ _ (by omega) hg.2.2.2.2⟩
theorem argP_blk {w:World} {p:Nat} {l:List Prt} {t:TypeId} (h:Blk w p (cellsOfP l).toArray t):ArgP w (some ⟨p,0,none⟩) l:=fun _ =>
  ⟨p,0,rfl,h.lt,fun i hi => by
    obtain ⟨h1,h2,h3,h4,h5⟩:=cellsOfP_get l i hi
    simp only [Nat.zero_add]
    have q:∀ j,w.cell? ⟨p,j,none⟩ = (cellsOfP l)[j]? := fun j => (h.cell j).trans (by simp)
    exact ⟨(q _).trans h1,(q _).trans h2,(q _).trans h3,(q _).trans h4,(q _).trans h5⟩⟩
theorem pgetD (l:List Prt) (i:Nat) (h:i < l.length):l.getD i pr0 = l[i]:=by rw [List.getD_eq_getElem?_getD,List.getElem?_eq_getElem h];rfl
end
section
open Go.ChangeShapes Go.WideShapes Go.ChangeAt Go.RowKit
instance:Inhabited Prt:=⟨pr0⟩
section
variable {H:Type} {enc:TypeId × Value→H} {P:Program}
theorem wfI64 {n:Int} (h:(Lit.int .i64 n).wf = true) : -9223372036854775808≤n∧n≤9223372036854775807:=by simpa [Lit.wf,IntKind.min,IntKind.max,IntKind.signed,IntKind.bits] using h
theorem wfU8 {n:Int} (h:(Lit.int .u8 n).wf = true):0≤n∧n≤255:=by simpa [Lit.wf,IntKind.min,IntKind.max,IntKind.signed,IntKind.bits] using h
theorem wfU32 {n:Int} (h:(Lit.int .u32 n).wf = true):0≤n∧n≤4294967295:=by simpa [Lit.wf,IntKind.min,IntKind.max,IntKind.signed,IntKind.bits] using h
theorem open_parts {ts e tk tu ti tn:TypeId} {f0 f1 f2 f3 f4:Field} {W:World} {v:Value} {x:DataW H × List MemPlace} {fuel:Nat} (hs:P.underlying ts = some (.slice e)) (he:P.underlying e = some (.struct #[f0,f1,f2,f3,f4]))
    (ce:P.cellsOf e = 5) (o0:f0.offset = 0) (o1:f1.offset = 1) (o2:f2.offset = 2) (o3:f3.offset = 3) (o4:f4.offset = 4) (t0:f0.type = tk) (t1:f1.type = tu) (t2:f2.type = tu) (t3:f3.type = ti) (t4:f4.type = tn)
    (ck:P.cellsOf tk = 1) (cu:P.cellsOf tu = 1) (ci:P.cellsOf ti = 1) (cn:P.cellsOf tn = 1) (hk:P.underlying tk = some (.int .u8)) (hu:P.underlying tu = some (.int .u32)) (hi:P.underlying ti = some (.int .i64)) (hn:P.underlying tn = some (.int .i64))
    (hf:DataW.trod enc P W 0 (fun _ => true) true fuel ts [v] = some x) :
    ∃ (l:List Prt) (a:Option Addr) (cap:Nat),v = .slice a l.length cap∧l.length≤cap∧cap≤9223372036854775807∧ArgP W a l∧∀ x ∈ l,PrtW x:=by
  rcases Deep.open_slice hs hf with ⟨hcs,_⟩ | ⟨a',len',cap',m,n,D,Pl,hcs,_,hlc,hcm,hm,_,hx⟩
  · simp at hcs
    exact ⟨[],none,0,hcs,by simp,by omega,fun h => by simp at h,fun x hx => by simp at hx⟩
  · simp at hcs
    subst hcs
    have hlen:len'≤m:=by rw [hm];simpa using hlc
    have each:∀ i,i < len'→∃ s:Prt,(W.cell? (a'.add (i * 5)) = some (.int .u8 s.kind)∧W.cell? ((a'.add (i * 5)).add 1) = some (.int .u32 s.n)∧W.cell? ((a'.add (i * 5)).add 2) = some (.int .u32 s.g)∧W.cell? ((a'.add (i * 5)).add 3) = some (.int .i64 s.d)∧W.cell? ((a'.add (i * 5)).add 4) = some (.int .i64 s.kids))∧PrtW s:=fun i hi' => by
      obtain ⟨cs',hc,ht⟩:=hx i (by omega)
      rw [ce] at hc
      obtain ⟨_,hcl,hat⟩:=World.cells?_some hc
      obtain ⟨ys,n',_,_,hl1,hyl,hfs⟩:=DataW.trod_struct he ht
      have h0:=hfs 0 f0 rfl
      have h1:=hfs 1 f1 rfl
      have h2:=hfs 2 f2 rfl
      have h3:=hfs 3 f3 rfl
      have h4:=hfs 4 f4 rfl
      rw [o0,t0,ck] at h0
      rw [o1,t1,cu] at h1
      rw [o2,t2,cu] at h2
      rw [o3,t3,ci] at h3
      rw [o4,t4,cn] at h4
      match cs',hcl with
      | [c0, c1, c2, c3, c4], _ =>
        match ys,hyl with
        | [y0, y1, y2, y3, y4], _ =>
          simp at h0 h1 h2 h3 h4
          obtain ⟨z0,e0,_,w0⟩:=DataW.trod_int hk h0
          obtain ⟨z1,e1,_,w1⟩:=DataW.trod_int hu h1
          obtain ⟨z2,e2,_,w2⟩:=DataW.trod_int hu h2
          obtain ⟨z3,e3,_,w3⟩:=DataW.trod_int hi h3
          obtain ⟨z4,e4,_,w4⟩:=DataW.trod_int hn h4
          simp at e0 e1 e2 e3 e4
          subst e0 e1 e2 e3 e4
          have a0:=hat 0 (by omega)
          have a1:=hat 1 (by omega)
          have a2:=hat 2 (by omega)
          have a3:=hat 3 (by omega)
          have a4:=hat 4 (by omega)
          simp at a1 a2 a3 a4
          have b0:=wfU8 w0
          have b1:=wfU32 w1
          have b2:=wfU32 w2
          refine ⟨⟨z0.toNat,z1.toNat,z2.toNat,z3,z4⟩,⟨?_, ?_, ?_,a3,a4⟩, ?_, ?_, ?_,wfI64 w3,wfI64 w4⟩
          · have ea:(a'.add (i * 5)).add 0 = a'.add (i * 5):=by simp [Addr.add]
            rw [ea] at a0
            simp only [Int.toNat_of_nonneg b0.1]
            simpa using a0
          · simp only [Int.toNat_of_nonneg b1.1];exact a1
          · simp only [Int.toNat_of_nonneg b2.1];exact a2
          · show z0.toNat≤255;omega
          · show z1.toNat≤4294967295;omega
          · show z2.toNat≤4294967295;omega
    obtain ⟨F,hF⟩:=Deep.choose_lt each
    refine ⟨(List.range len').map F,some a',cap',by simp,by simp;omega,by unfold maxLen at hcm;omega,fun hl => ?_,fun x hx => ?_⟩
    · simp at hl
      have hc00:=(hF 0 hl).1.1
      obtain ⟨b,off,spot⟩:=a'
      have hsp:spot = none:=by
        cases spot with
        | none => rfl
        | some s => simp [Addr.add,World.cell?] at hc00;split at hc00 <;> simp at hc00
      subst hsp
      have hb:b < W.heap.size:=by
        apply Nat.lt_of_not_le
        intro hge
        simp [Addr.add,World.cell?,Array.getElem?_eq_none hge] at hc00
      refine ⟨b,off,rfl,hb,fun i hi => ?_⟩
      have hi':i < len':=by simpa using hi
      have hg:((List.range len').map F).getD i pr0 = F i:=by simp [List.getD_eq_getElem?_getD,hi']
      obtain ⟨⟨h1,h2,h3,h4,h5⟩,_⟩:=hF i hi'
      have ad:∀ x y:Nat,(⟨b,x,none⟩:Addr).add y = ⟨b,x + y,none⟩:=fun x y => by
        unfold Addr.add
        by_cases c:y = 0
        · subst c;simp
        · simp [c]
      rw [ad] at h1 h2 h3 h4 h5
      rw [ad] at h2 h3 h4 h5
      rw [hg]
      exact ⟨h1,h2,h3,h4,h5⟩
    · rw [List.mem_map] at hx
      obtain ⟨i,hi,rfl⟩:=hx
      exact (hF i (by simpa using hi)).2
end
set_option maxRecDepth 100000 in
theorem cellsPart:Tryz.prog.cellsOf 59 = 5:=by kernel_rfl
set_option maxRecDepth 100000 in
theorem cellsDef:Tryz.prog.cellsOf 24 = 3:=by kernel_rfl
set_option maxRecDepth 100000 in
theorem cells4:Tryz.prog.cellsOf 5 = 1∧Tryz.prog.cellsOf 57 = 1∧Tryz.prog.cellsOf 2 = 1∧Tryz.prog.cellsOf 3 = 1:=⟨by kernel_rfl,by kernel_rfl,by kernel_rfl,by kernel_rfl⟩
set_option maxRecDepth 100000 in
theorem open_defP {H:Type} {enc:TypeId × Value→H} {W:World} {v:Value} {d:DataW H} {p:List MemPlace} {r:Reach} {b0:Nat} (ho:Value.okWide Tryz.prog W r b0 24 v) (h:DataW.Trod enc Tryz.prog W 0 (fun _ => true) true 24 v d p) :
    ∃ (fr to':Int) (l:List Prt) (a:Option Addr) (cap:Nat),v = defV fr to' a l.length cap∧(-9223372036854775808≤fr∧fr≤9223372036854775807)∧(-9223372036854775808≤to'∧to'≤9223372036854775807)∧l.length≤cap∧cap≤9223372036854775807∧ArgP W a l∧∀ x ∈ l,PrtW x:=by
  obtain ⟨v0,v1,v2,y0,y1,y2,n,rfl,rfl,rfl,h0,h1,h2⟩:=Joins.open_agg3 (P:=Tryz.prog) Tryz.underlying24 (by kernel_rfl) cellsDef ho h
  obtain ⟨z0,e0,_,w0⟩:=DataW.trod_int Tryz.underlying2 h0
  obtain ⟨z1,e1,_,w1⟩:=DataW.trod_int Tryz.underlying2 h1
  simp at e0 e1
  subst e0 e1
  obtain ⟨l,a,cap,rfl,hl,hc,hA,hp⟩:=open_parts (P:=Tryz.prog) Tryz.underlying22 Tryz.underlying59 cellsPart rfl rfl rfl rfl rfl rfl rfl rfl rfl rfl cells4.1 cells4.2.1 cells4.2.2.1 cells4.2.2.2 Tryz.underlying5 Tryz.underlying57 Tryz.underlying2 Tryz.underlying3 h2
  exact ⟨z0,z1,l,a,cap,rfl,wfI64 w0,wfI64 w1,hl,hc,hA,hp⟩
end
section
open Go.ChangeShapes Go.WideShapes Go.ChangeAt Go.RowKit
attribute [local irreducible] Go.Calls
theorem own_below {w w':World} {B:Nat} {e:TypeId} {sz:Nat} {v:Value} {n:Nat} {xs:List Value} (h:w.ownsRow B e sz v n xs) (hb:Below w.heap.size w w'):w'.ownsRow B e sz v n xs:=by
  obtain ⟨h1,h2 | ⟨g,cap,cur,h3,h4,h5,h6⟩⟩:=h
  · exact ⟨h1,.inl h2⟩
  · exact ⟨h1,.inr ⟨g,cap,cur,h3,h4,(hb.block g (lt_of_block h5)).trans h5,h6⟩⟩
theorem own_block {w:World} {B:Nat} {e:TypeId} {sz:Nat} {v:Value} {n:Nat} {xs:List Value} (h:w.ownsRow B e sz v n xs) {k:Nat} (hk:v.ownBlock = some k):B≤k:=by
  obtain ⟨h1,h2 | ⟨g,cap,cur,h3,h4,h5,h6⟩⟩:=h
  · rw [h2.1] at hk;simp [Value.ownBlock] at hk
  · rw [h3] at hk;simp [Value.ownBlock] at hk;omega
theorem own_kept {A B:World} {β sz n:Nat} {e:TypeId} {v:Value} {xs:List Value} (h:A.ownsRow β e sz v n xs) (hk:∀ k,v.ownBlock = some k→B.heap[k]? = A.heap[k]?):B.ownsRow β e sz v n xs:=by
  obtain ⟨h1,h2 | ⟨g,cap,cur,h3,h4,h5,h6⟩⟩:=h
  · exact ⟨h1,.inl h2⟩
  · exact ⟨h1,.inr ⟨g,cap,cur,h3,h4,(hk g (by rw [h3];rfl)).trans h5,h6⟩⟩
theorem own_lt {A:World} {β sz n:Nat} {e:TypeId} {v:Value} {xs:List Value} (h:A.ownsRow β e sz v n xs) {k:Nat} (hk:v.ownBlock = some k):k < A.heap.size:=by
  obtain ⟨h1,h2 | ⟨g,cap,cur,h3,h4,h5,h6⟩⟩:=h
  · rw [h2.1] at hk;simp [Value.ownBlock] at hk
  · rw [h3] at hk;simp [Value.ownBlock] at hk;subst hk;exact lt_of_block h5
theorem own_has {A:World} {β sz n:Nat} {e:TypeId} {v:Value} {xs:List Value} (h:A.ownsRow β e sz v n xs) (hv:v ≠ .slice none 0 0):∃ k,v.ownBlock = some k:=by
  obtain ⟨h1,h2 | ⟨g,cap,cur,h3,h4,h5,h6⟩⟩:=h
  · exact absurd h2.1 hv
  · exact ⟨g,by rw [h3];rfl⟩
theorem own_sli {A:World} {β sz n:Nat} {e:TypeId} {v:Value} {xs:List Value} (h:A.ownsRow β e sz v n xs):∃ a cap,v = .slice a n cap:=by
  obtain ⟨h1,h2 | ⟨g,cap,cur,h3,h4,h5,h6⟩⟩:=h
  · exact ⟨none,0,by rw [h2.1,h2.2]⟩
  · exact ⟨_,cap,h3⟩
theorem own_nil {A:World} (β sz:Nat) (e:TypeId):A.ownsRow β e sz (.slice none 0 0) 0 []:=⟨by simp,.inl ⟨rfl,rfl⟩⟩
theorem keptS {w:World} {k b i:Nat} (h:k ≠ b) (v:Value):(w.setCell ⟨b,i,none⟩ v).heap[k]? = w.heap[k]? := Below.heap_setCell _ _ _ _ h
theorem keptA {w:World} {k:Nat} (h:k < w.heap.size) (o:Obj):(w.alloc o).heap[k]? = w.heap[k]? := Below.heap_alloc _ _ _ h
def OwnI (w:World) (p:Nat) (t e:TypeId) (sz n:Nat) (xs:List Value) (g:Option (Nat × Nat)) (W:World):Prop :=
  ∃ (v:Value) (β:Nat),Blk W p #[v] t∧Below w.heap.size w W∧W.ownsRow β e sz v n xs∧p < β∧β≤W.heap.size∧((g = none∧v = .slice none 0 0) ∨ ∃ k,g = some (β,k)∧v.ownBlock = some k)
theorem ownI_keep {w:World} {p sz n:Nat} {t e:TypeId} {xs:List Value} {g:Option (Nat × Nat)} {A B:World} {m:Nat} (hp:p < m) (hn:w.heap.size≤m) (h:OwnI w p t e sz n xs g A) (hb:Below m A B) (hk:∀ b k,g = some (b,k)→B.heap[k]? = A.heap[k]?):OwnI w p t e sz n xs g B:=by
  obtain ⟨v,β,h1,h2,h3,h4,h5,h6⟩:=h
  refine ⟨v,β,h1.below hb hp,h2.trans (hb.mono hn),own_kept h3 (fun k e => ?_),h4,Nat.le_trans h5 hb.size,h6⟩
  rcases h6 with ⟨_,q⟩ | ⟨k',q,q2⟩
  · rw [q] at e;simp [Value.ownBlock] at e
  · rw [q2] at e;cases e;exact hk _ _ q
theorem ownI_own {w:World} {p sz n:Nat} {t e:TypeId} {xs:List Value} {g:Option (Nat × Nat)} {A:World} (h:OwnI w p t e sz n xs g A):∀ b k,g = some (b,k)→b≤k∧k < A.heap.size:=by
  obtain ⟨v,β,h1,h2,h3,h4,h5,h6⟩:=h
  rintro b k e
  rcases h6 with ⟨q,_⟩ | ⟨k',q,q2⟩
  · rw [q] at e;cases e
  · rw [q] at e;cases e
    exact ⟨own_block h3 q2,own_lt h3 q2⟩
theorem ownI_lt {w:World} {p sz n:Nat} {t e:TypeId} {xs:List Value} {g:Option (Nat × Nat)} {A:World} (h:OwnI w p t e sz n xs g A):p < A.heap.size:=by
  obtain ⟨v,β,h1,_⟩:=h
  exact h1.lt
theorem ownI_base {w:World} {p sz n:Nat} {t e:TypeId} {xs:List Value} {g:Option (Nat × Nat)} {A:World} (h:OwnI w p t e sz n xs g A):∃ (av:Option Addr) (cap γ:Nat),Blk A p #[.slice av n cap] t∧Below w.heap.size w A∧A.ownsRow γ e sz (.slice av n cap) n xs∧p < γ∧γ≤A.heap.size ∧
    (∀ k,(Value.slice av n cap).ownBlock = some k→g = some (γ,k)∧γ≤k)∧(A.heap.size≤γ ∨ ∃ j,g = some (γ,j)):=by
  have hz:=ownI_lt h
  obtain ⟨v,β,h1,h2,h3,h4,h5,h6⟩:=h
  obtain ⟨a,cap,rfl⟩:=own_sli h3
  rcases h6 with ⟨q,e'⟩ | ⟨k',q,q2⟩
  · have hx:A.ownsRow A.heap.size e sz (.slice a n cap) n xs:=by
      obtain ⟨q1,q2 | ⟨g',cap',cur,q3,_⟩⟩:=h3
      · exact ⟨q1,.inl q2⟩
      · rw [q3] at e';cases e'
    refine ⟨a,cap,A.heap.size,h1,h2,hx,hz,Nat.le_refl _,fun k hk => ?_,.inl (Nat.le_refl _)⟩
    rw [e'] at hk;simp [Value.ownBlock] at hk
  · exact ⟨a,cap,β,h1,h2,h3,h4,h5,fun k hk => ⟨by rw [q2] at hk;cases hk;exact q,own_block h3 hk⟩,.inr ⟨k',q⟩⟩
theorem grown_set (w:World) (p i:Nat) (v:Value):w.grownBy (w.setCell ⟨p,i,none⟩ v) (some p):=⟨rfl,rfl,rfl,by simp [World.setCell],fun k _ hk => Below.heap_setCell _ _ _ _ (fun e => hk (by rw [e]))⟩
theorem grown_trans {a b c:World} {r:Option Nat} (h:a.grownBy b r) (h':b.grownBy c r):a.grownBy c r :=
  ⟨h'.os.trans h.os,h'.tape.trans h.tape,h'.output.trans h.output,Nat.le_trans h.size h'.size,fun k hk hr => (h'.block k (Nat.lt_of_lt_of_le hk h.size) hr).trans (h.block k hk hr)⟩
theorem grown_refl (w:World) (r:Option Nat):w.grownBy w r:=⟨rfl,rfl,rfl,Nat.le_refl _,fun _ _ _ => rfl⟩
theorem grown_any {w w':World} {r:Option Nat} (h:Below w.heap.size w w'):w.grownBy w' r:=⟨h.os,h.tape,h.output,h.size,fun k hk _ => h.block k hk⟩
theorem Blk.grown {w w':World} {k:Nat} {cs:Array Value} {t:TypeId} {r:Option Nat} (h:Blk w k cs t) (hg:w.grownBy w' r) (hr:some k ≠ r):Blk w' k cs t:=(hg.block k h.lt hr).trans h
theorem own_grown {w w':World} {B p:Nat} {e:TypeId} {sz:Nat} {v:Value} {n:Nat} {xs:List Value} (h:w.ownsRow B e sz v n xs) (hg:w.grownBy w' (some p)) (hp:p < B):w'.ownsRow B e sz v n xs:=by
  obtain ⟨h1,h2 | ⟨g,cap,cur,h3,h4,h5,h6⟩⟩:=h
  · exact ⟨h1,.inl h2⟩
  · exact ⟨h1,.inr ⟨g,cap,cur,h3,h4,(hg.block g (lt_of_block h5) (fun e => by simp at e;omega)).trans h5,h6⟩⟩
theorem new_cellsB (w:World) (cs:Array Value) (t:TypeId):∀ j u,cs.toList[j]? = some u→(w.alloc (.cells cs t)).cell? ((⟨w.heap.size,0,none⟩:Addr).add j) = some u:=by
  intro j u h
  have e:((⟨w.heap.size,0,none⟩:Addr).add j) = ⟨w.heap.size,j,none⟩:=by
    unfold Addr.add
    by_cases c:j = 0
    · subst c;simp
    · simp [c]
  rw [e,(Blk.made w cs t).cell j,← h,Array.getElem?_toList]
end
section
open Go.ChangeShapes Go.WideShapes Go.ChangeAt Go.RowKit
attribute [local irreducible] Go.Calls
abbrev S (at' m c:Int):Value := .agg #[.int .i64 at',.int .i64 m,.int .i64 c]
def CellsS (w:World) (b off:Nat) (l:List Sg):Prop :=
  ∀ i,i < l.length→w.cell? ⟨b,off + i * 3,none⟩ = some (.int .i64 (l.getD i (0,0,0)).1)∧w.cell? ⟨b,off + i * 3 + 1,none⟩ = some (.int .i64 (l.getD i (0,0,0)).2.1)∧w.cell? ⟨b,off + i * 3 + 2,none⟩ = some (.int .i64 (l.getD i (0,0,0)).2.2)
def ArgS (w:World) (a:Option Addr) (l:List Sg):Prop:=0 < l.length→∃ b off,a = some ⟨b,off,none⟩∧b < w.heap.size∧CellsS w b off l
theorem CellsS.below {w w':World} {b off B:Nat} {l:List Sg} (h:CellsS w b off l) (hb:Below B w w') (hB:b < B):CellsS w' b off l:=fun i hi => by
  obtain ⟨h1,h2,h3⟩:=h i hi
  exact ⟨(hb.cell (p:=⟨b,_,none⟩) hB).trans h1,(hb.cell (p:=⟨b,_,none⟩) hB).trans h2,(hb.cell (p:=⟨b,_,none⟩) hB).trans h3⟩
theorem ArgS.past {w w':World} {a:Option Addr} {l:List Sg} (h:ArgS w a l) (hb:Below w.heap.size w w'):ArgS w' a l:=fun hl => by
  obtain ⟨b,off,e,h1,h2⟩:=h hl
  exact ⟨b,off,e,Nat.lt_of_lt_of_le h1 hb.size,h2.below hb h1⟩
theorem CellsS.get {w:World} {b off:Nat} {l:List Sg} (h:CellsS w b off l) {i:Nat} (hi:i < l.length):w.cell? ⟨b,off + i * 3,none⟩ = some (.int .i64 (ats l i))∧w.cell? ⟨b,off + i * 3 + 1,none⟩ = some (.int .i64 (vls l i).1)∧w.cell? ⟨b,off + i * 3 + 2,none⟩ = some (.int .i64 (vls l i).2):=h i hi
theorem grown_alloc (w:World) (o:Obj) (r:Option Nat):w.grownBy (w.alloc o) r:=⟨rfl,rfl,rfl,by simp,fun k hk _ => Below.heap_alloc _ _ _ hk⟩
theorem list_ext {l r:List Sg} (h:l.length = r.length) (h2:∀ i,i < l.length→ats l i = ats r i∧vls l i = vls r i):l = r:=by
  apply List.ext_getElem h
  intro i h3 h4
  obtain ⟨e1,e2⟩:=h2 i h3
  unfold ats at e1;unfold vls at e2
  rw [getD_get _ _ _ h3,getD_get _ _ _ h4] at e1 e2
  exact Prod.ext e1 e2
def sameB (l r:List Sg):Bool:=decide (l = r)
theorem same_t {l r:List Sg} (h:l.length = r.length) (h2:∀ i,i < l.length→ats l i = ats r i∧vls l i = vls r i):sameB l r = true:=decide_eq_true (list_ext h h2)
theorem same_f {l r:List Sg} {i:Nat} (h:ats l i ≠ ats r i ∨ vls l i ≠ vls r i):sameB l r = false:=decide_eq_false (fun e => by subst e;simp at h)
theorem Tryz.infoSeg:(Tryz.prog.info? 51).map (fun i => (i.zero,i.size,i.bytes)) = some (some (.agg #[.int .i64 0,.int .i64 0,.int .i64 0]),3,24):=by kernel_rfl
def cellsOfS:List Sg→List Value
  | [] => []
  | s :: r => .int .i64 s.1 :: .int .i64 s.2.1 :: .int .i64 s.2.2 :: cellsOfS r
theorem cellsOfS_len:∀ l,(cellsOfS l).length = l.length * 3
  | [] => rfl
  | s :: r => by simp only [cellsOfS,List.length_cons,cellsOfS_len r];omega
theorem cellsOfS_app:∀ l r,cellsOfS (l ++ r) = cellsOfS l ++ cellsOfS r
  | [],_ => rfl
  | s :: l,r => by simp only [cellsOfS,List.cons_append,cellsOfS_app l r]
theorem cellsOfS_get:∀ (l:List Sg) (i:Nat),i < l.length→(cellsOfS l)[i * 3]? = some (.int .i64 (ats l i))∧(cellsOfS l)[i * 3 + 1]? = some (.int .i64 (vls l i).1)∧(cellsOfS l)[i * 3 + 2]? = some (.int .i64 (vls l i).2)
  | [],i,h => by simp at h
  | s :: l,0,_ => ⟨rfl,rfl,rfl⟩
  | s :: l, i + 1, h => by
    obtain ⟨h1,h2,h3⟩:=cellsOfS_get l i (by simp at h;omega)
    have e:∀ j,(cellsOfS (s :: l))[(i + 1) * 3 + j]? = (cellsOfS l)[i * 3 + j]? := fun j => by
      simp only [cellsOfS]
      rw [show (i + 1) * 3 + j = i * 3 + j + 1 + 1 + 1 by omega]
      simp only [List.getElem?_cons_succ]
    exact ⟨(e 0).trans h1,(e 1).trans h2,(e 2).trans h3⟩
def SliS (w:World) (v:Value) (l:List Sg):Prop:=∃ (a:Option Addr) (cap:Nat),v = .slice a l.length cap∧l.length≤cap∧cap≤9223372036854775807∧ArgS w a l
theorem SliS.past {w w':World} {v:Value} {l:List Sg} (h:SliS w v l) (hb:Below w.heap.size w w'):SliS w' v l:=by
  obtain ⟨a,cap,h1,h2,h3,h4⟩:=h
  exact ⟨a,cap,h1,h2,h3,h4.past hb⟩
theorem sliS_nil (w:World):SliS w (.slice none 0 0) []:=⟨none,0,rfl,Nat.le_refl _,by omega,fun h => by simp at h⟩
theorem sliS_own {w:World} {base:Nat} {e:TypeId} {v:Value} {l:List Sg} (h:w.ownsRow base e 3 v l.length (cellsOfS l)):SliS w v l:=by
  obtain ⟨h1,h2 | ⟨g,cap,cur,rfl,h3,h4,h5,h6,h7,h8⟩⟩:=h
  · obtain ⟨rfl,h2⟩:=h2
    have:l = []:=List.eq_nil_of_length_eq_zero h2
    subst this
    exact sliS_nil w
  · refine ⟨some ⟨g,0,none⟩,cap,rfl,h5,by unfold maxLen at h6;omega,fun _ => ⟨g,0,rfl,lt_of_block h4,fun i hi => ?_⟩⟩
    have hg:=cellsOfS_get l i hi
    have hc:∀ j x,j < l.length * 3→(cellsOfS l)[j]? = some x→w.cell? ⟨g,j,none⟩ = some x:=fun j x hj hx => by
      have e:w.cell? ⟨g,j,none⟩ = cur[j]? := by simp [World.cell?,h4]
      rw [e,← Array.getElem?_toList]
      rw [← h8,List.getElem?_take,if_pos hj] at hx
      exact hx
    simp only [Nat.zero_add]
    exact ⟨hc _ _ (by omega) hg.1,hc _ _ (by omega) hg.2.1,hc _ _ (by omega) hg.2.2⟩
theorem new_cells (w:World) (cs:Array Value) (t:TypeId):∀ j u,cs.toList[j]? = some u→(w.alloc (.cells cs t)).cell? ((⟨w.heap.size,0,none⟩:Addr).add j) = some u:=by
  intro j u h
  have e:((⟨w.heap.size,0,none⟩:Addr).add j) = ⟨w.heap.size,j,none⟩:=by
    unfold Addr.add
    by_cases c:j = 0
    · subst c;simp
    · simp [c]
  rw [e,(Blk.made w cs t).cell j,← h,Array.getElem?_toList]
def OfPost (w:World) (l:List Sg) (e:Ending) (w':World):Prop :=
  ∃ (v:Value) (f:List Sg) (er:Int),e = .returned (.tuple #[v,.int .i64 er])∧SliS w' v f∧((l.all okS = true∧er = 0∧IsOf l f) ∨ (l.all okS = false∧er = 10∧f = []))∧Below w.heap.size w w'
theorem drop_cons {l:List Sg} {k:Nat} (h:k < l.length):l.drop k = l.getD k (0,0,0) :: l.drop (k + 1):=by
  rw [List.drop_eq_getElem_cons h,getD_get _ _ _ h]
theorem all_bad {l:List Sg} {k:Nat} (h:k < l.length) (hb:okS (l.getD k (0,0,0)) = false):l.all okS = false:=by
  rw [getD_get _ _ _ h] at hb
  rw [List.all_eq_false]
  exact ⟨_,List.getElem_mem h,by rw [hb];exact Bool.false_ne_true⟩
theorem all_good {l:List Sg} (h:∀ k,k < l.length→okS (l.getD k (0,0,0)) = true):l.all okS = true:=by
  rw [List.all_eq_true]
  intro x hx
  obtain ⟨i,hi,rfl⟩:=List.getElem_of_mem hx
  have:=h i hi
  rw [getD_get _ _ _ hi] at this;exact this
theorem argS_blk {w:World} {p:Nat} {l:List Sg} {t:TypeId} (h:Blk w p (cellsOfS l).toArray t):ArgS w (some ⟨p,0,none⟩) l:=fun _ =>
  ⟨p,0,rfl,h.lt,fun i hi => by
    obtain ⟨h1,h2,h3⟩:=cellsOfS_get l i hi
    simp only [Nat.zero_add]
    have q:∀ j,w.cell? ⟨p,j,none⟩ = (cellsOfS l)[j]? := fun j => (h.cell j).trans (by simp)
    exact ⟨(q _).trans h1,(q _).trans h2,(q _).trans h3⟩⟩
def OfIs (w:World) (F:List Sg) (er:Int) (e:Ending) (w':World):Prop:=∃ v:Value,e = .returned (.tuple #[v,.int .i64 er])∧SliS w' v F∧Below w.heap.size w w'
def boxL (x y:Int) (v:Int × Int):List Sg:=if x = y ∨ v = (0,0) then [] else [(x,v),(y,(0,0))]
theorem boxL_of {x y:Int} {v:Int × Int} (hxy:x≤y) (h1:okS (x,v) = true) (h2:okS (y,(0,0)) = true):IsOf [(x,v),(y,(0,0))] (boxL x y v):=by
  unfold boxL
  by_cases c:x = y ∨ v = (0,0)
  · rw [if_pos c]
    refine ⟨trivial,fun t => ?_,by simp⟩
    unfold rv rread vat
    simp only [List.foldl_cons,List.foldl_nil]
    unfold rstep
    rcases c with c | c
    · subst c
      by_cases k:x≤t <;> simp [k]
    · subst c
      by_cases k:x≤t <;> by_cases k2:y≤t <;> simp [k,k2,hxy]
  · rw [if_neg c]
    have c1:x ≠ y:=fun e => c (.inl e)
    have c2:v ≠ (0,0):=fun e => c (.inr e)
    refine ⟨⟨h1,c2,fun s hs => ?_,h2,fun e => c2 e.symm,fun s hs => by simp at hs,trivial⟩,fun t => ?_,Nat.le_refl _⟩
    · simp at hs;subst hs
      show x < y
      omega
    · unfold rv rread vat
      simp only [List.foldl_cons,List.foldl_nil]
      unfold rstep stepV
      by_cases k:x≤t <;> by_cases k2:y≤t <;> simp [k,k2,hxy]
def boxS (x y:Int) (v:Int × Int):List Sg × Int:=if y < x then ([],2) else if okS (x,v) && okS (y,(0,0)) then (boxL x y v,0) else ([],10)
end
section
open Go.ChangeShapes Go.WideShapes Go.ChangeAt Go.RowKit
def I64 (x:Int):Prop := -9223372036854775808≤x∧x≤9223372036854775807
section
variable {H:Type} {enc:TypeId × Value→H} {P:Program}
theorem wf64 {n:Int} (h:(Lit.int .i64 n).wf = true):I64 n:=by
  have : -9223372036854775808≤n∧n≤9223372036854775807:=by simpa [Lit.wf,IntKind.min,IntKind.max,IntKind.signed,IntKind.bits] using h
  exact this
end
end
section
open Go.ChangeShapes Go.WideShapes Go.ChangeAt Go.RowKit
attribute [local irreducible] Go.Calls
def VCells (w:World) (b off:Nat) (l:List (Int × Int)):Prop :=
  ∀ i,i < l.length→w.cell? ⟨b,off + i * 2,none⟩ = some (.int .i64 (l.getD i (0,0)).1)∧w.cell? ⟨b,off + i * 2 + 1,none⟩ = some (.int .i64 (l.getD i (0,0)).2)
def ArgVs (w:World) (a:Option Addr) (l:List (Int × Int)):Prop:=0 < l.length→∃ b off,a = some ⟨b,off,none⟩∧b < w.heap.size∧VCells w b off l
theorem VCells.below {w w':World} {b off B:Nat} {l:List (Int × Int)} (h:VCells w b off l) (hb:Below B w w') (hB:b < B):VCells w' b off l:=fun i hi => by
  obtain ⟨h1,h2⟩:=h i hi
  exact ⟨(hb.cell (p:=⟨b,_,none⟩) hB).trans h1,(hb.cell (p:=⟨b,_,none⟩) hB).trans h2⟩
theorem ArgVs.past {w w':World} {a:Option Addr} {l:List (Int × Int)} (h:ArgVs w a l) (hb:Below w.heap.size w w'):ArgVs w' a l:=fun hl => by
  obtain ⟨b,off,e,h1,h2⟩:=h hl
  exact ⟨b,off,e,Nat.lt_of_lt_of_le h1 hb.size,h2.below hb h1⟩
def SliVs (w:World) (v:Value) (l:List (Int × Int)):Prop:=∃ (a:Option Addr) (cap:Nat),v = .slice a l.length cap∧l.length≤cap∧cap≤9223372036854775807∧ArgVs w a l
end
section
open Go.ChangeShapes Go.WideShapes Go.ChangeAt Go.RowKit
section
variable {H:Type} {enc:TypeId × Value→H} {P:Program}
theorem open_pcs {ts e tn ti:TypeId} {f0 f1:Field} {W:World} {v:Value} {d:DataW H} {p:List MemPlace} (hs:P.underlying ts = some (.slice e)) (he:P.underlying e = some (.struct #[f0,f1]))
    (ce:P.cellsOf e = 2) (o0:f0.offset = 0) (o1:f1.offset = 1) (t0:f0.type = tn) (t1:f1.type = ti) (cn:P.cellsOf tn = 1) (ci:P.cellsOf ti = 1) (hn:P.underlying tn = some (.int .i64)) (hi:P.underlying ti = some (.int .i64))
    {r:Reach} {b0:Nat} (ho:Value.okWide P W r b0 ts v) (h:DataW.Trod enc P W 0 (fun _ => true) true ts v d p) :
    ∃ (l:List (Int × Int)) (a:Option Addr) (cap:Nat),v = .slice a l.length cap∧l.length≤9223372036854775807∧ArgVs W a l∧∀ x ∈ l,I64 x.1∧I64 x.2:=by
  obtain ⟨a,len,cap,rfl⟩:=okWide_slice hs ho
  obtain ⟨fuel,hf⟩:=h
  rcases Deep.open_slice (cs:=[.slice a len cap]) hs hf with ⟨hcs,_⟩ | ⟨a',len',cap',m,n,D,Pl,hcs,_,hlc,hcm,hm,_,hx⟩
  · simp at hcs
    obtain ⟨rfl,rfl,rfl⟩:=hcs
    exact ⟨[],none,0,rfl,by simp,fun h => by simp at h,fun x hx => by simp at hx⟩
  · simp at hcs
    obtain ⟨rfl,rfl,rfl⟩:=hcs
    have hlen:len≤m:=by rw [hm];simpa using hlc
    have each:∀ i,i < len→∃ s:Int × Int,(W.cell? (a'.add (i * 2)) = some (.int .i64 s.1)∧W.cell? ((a'.add (i * 2)).add 1) = some (.int .i64 s.2))∧I64 s.1∧I64 s.2:=fun i hi' => by
      obtain ⟨cs',hc,ht⟩:=hx i (by omega)
      rw [ce] at hc
      obtain ⟨_,hcl,hat⟩:=World.cells?_some hc
      obtain ⟨ys,n',_,_,hl1,hyl,hfs⟩:=DataW.trod_struct he ht
      have h0:=hfs 0 f0 rfl
      have h1:=hfs 1 f1 rfl
      rw [o0,t0,cn] at h0
      rw [o1,t1,ci] at h1
      match cs',hcl with
      | [c0, c1], _ =>
        match ys,hyl with
        | [y0, y1], _ =>
          simp at h0 h1
          obtain ⟨z0,e0,_,w0⟩:=DataW.trod_int hn h0
          obtain ⟨z1,e1,_,w1⟩:=DataW.trod_int hi h1
          simp at e0 e1
          subst e0 e1
          have a0:=hat 0 (by omega)
          have a1:=hat 1 (by omega)
          simp at a1
          refine ⟨(z0,z1),⟨?_,a1⟩,wf64 w0,wf64 w1⟩
          have ea:(a'.add (i * 2)).add 0 = a'.add (i * 2):=by simp [Addr.add]
          rw [ea] at a0
          simpa using a0
    obtain ⟨F,hF⟩:=Deep.choose_lt each
    refine ⟨(List.range len).map F,some a',cap,by simp,by simp;unfold maxLen at hcm;omega,fun hl => ?_,fun x hx => ?_⟩
    · simp at hl
      have hc00:=(hF 0 hl).1.1
      obtain ⟨b,off,spot⟩:=a'
      have hsp:spot = none:=by
        cases spot with
        | none => rfl
        | some s => simp [Addr.add,World.cell?] at hc00;split at hc00 <;> simp at hc00
      subst hsp
      have hb:b < W.heap.size:=by
        apply Nat.lt_of_not_le
        intro hge
        simp [Addr.add,World.cell?,Array.getElem?_eq_none hge] at hc00
      refine ⟨b,off,rfl,hb,fun i hi => ?_⟩
      have hi':i < len:=by simpa using hi
      have hg:((List.range len).map F).getD i (0,0) = F i:=by simp [List.getD_eq_getElem?_getD,hi']
      obtain ⟨⟨h1,h2⟩,_⟩:=hF i hi'
      have ad:∀ x y:Nat,(⟨b,x,none⟩:Addr).add y = ⟨b,x + y,none⟩:=fun x y => by
        unfold Addr.add
        by_cases c:y = 0
        · subst c;simp
        · simp [c]
      rw [ad] at h1 h2
      rw [ad] at h2
      rw [hg]
      exact ⟨h1,h2⟩
    · rw [List.mem_map] at hx
      obtain ⟨i,hi,rfl⟩:=hx
      exact (hF i (by simpa using hi)).2
end
set_option maxRecDepth 100000 in
theorem cellsPc:Tryz.prog.cellsOf 45 = 2∧Tryz.prog.cellsOf 3 = 1∧Tryz.prog.cellsOf 2 = 1:=⟨by kernel_rfl,by kernel_rfl,by kernel_rfl⟩
set_option maxRecDepth 100000 in
theorem open_pcsP {H:Type} {enc:TypeId × Value→H} {W:World} {v:Value} {d:DataW H} {p:List MemPlace} {r:Reach} {b0:Nat} (ho:Value.okWide Tryz.prog W r b0 25 v) (h:DataW.Trod enc Tryz.prog W 0 (fun _ => true) true 25 v d p) :
    ∃ (l:List (Int × Int)) (a:Option Addr) (cap:Nat),v = .slice a l.length cap∧l.length≤9223372036854775807∧ArgVs W a l∧∀ x ∈ l,I64 x.1∧I64 x.2 :=
  open_pcs (P:=Tryz.prog) Tryz.underlying25 Tryz.underlying45 cellsPc.1 rfl rfl rfl rfl cellsPc.2.1 cellsPc.2.2 Tryz.underlying3 Tryz.underlying2 ho h
end
section
open Go.ChangeShapes Go.WideShapes Go.ChangeAt Go.RowKit
attribute [local irreducible] Go.Calls
abbrev strV (l:List UInt8):Value := .string ⟨l.toArray⟩
def tk0:Tok:=⟨0,[],0,0⟩
theorem new_cellsT (w:World) (cs:Array Value) (t:TypeId):∀ j u,cs.toList[j]? = some u→(w.alloc (.cells cs t)).cell? ((⟨w.heap.size,0,none⟩:Addr).add j) = some u:=by
  intro j u h
  have e:((⟨w.heap.size,0,none⟩:Addr).add j) = ⟨w.heap.size,j,none⟩:=by
    unfold Addr.add
    by_cases c:j = 0
    · subst c;simp
    · simp [c]
  rw [e,(Blk.made w cs t).cell j,← h,Array.getElem?_toList]
def noPos (t:Tok):Tok:={ t with pos:=0 }
end
section
end
section
theorem place_same:∀ (l:List Tok) (p:Nat),(placeG p l).map noPos = l.map noPos
  | [],_ => rfl
  | [t],_ => rfl
  | t :: u :: l, p => by
    have ih:=place_same (u :: l) (p + t.text.length + (if gapB t u then 1 else 0))
    show noPos { t with pos:=p } :: (placeG _ (u :: l)).map noPos = noPos t :: (u :: l).map noPos
    rw [ih]
    rfl
end
section
def wordK:Nat→List UInt8
  | 0 => [97,116,111,109]
  | 1 => [111,114,100,101,114]
  | 2 => [110,101,120,116]
  | 3 => [97,110,121]
  | _ => [97,108,108]
def okP (x:Prt) (kids:Fst):Prop:=(x.kind = 0∧x.n≤4294967295∧x.g≤4294967295∧0≤x.d∧x.d≤1099511627776∧kids = .nil) ∨ (1≤x.kind∧x.kind≤4∧x.n = 0∧x.g = 0∧x.d = 0∧kids ≠ .nil)
def Fst.wf:Fst→Prop
  | .nil => True
  | .cons x kids next => okP x kids∧x.kids = 0∧kids.wf∧next.wf
def tokN (n:Int):Tok:=⟨1,digG n.toNat,n,0⟩
def tokO:Tok:=⟨2,[40],0,0⟩
def tokC:Tok:=⟨3,[41],0,0⟩
def tokW (w:List UInt8):Tok:=⟨0,w,0,0⟩
def tokL:Tok:=⟨4,[58],0,0⟩
def Fst.toks:Fst→List Tok
  | .nil => []
  | .cons x kids next => tokO :: tokW (wordK x.kind) :: ((if x.kind = 0 then [tokN x.n,tokN x.g,tokN x.d] else []) ++ (kids.toks ++ tokC :: next.toks))
def kindW (t:Tok):Option Nat:=if t.kind ≠ 0 then none else if t.text = wordK 0 then some 0 else if t.text = wordK 1 then some 1 else if t.text = wordK 2 then some 2 else if t.text = wordK 3 then some 3 else if t.text = wordK 4 then some 4 else none
abbrev PErr:=Int × Option Nat
def takeT (k:Nat):List Tok→Except PErr (List Tok)
  | [] => .error (70,none)
  | t :: l => if t.kind = k then .ok l else .error (70,some t.pos)
def numT (lim:Int):List Tok→Except PErr (Int × List Tok)
  | [] => .error (70,none)
  | t :: l => if t.kind = 1∧t.num≤lim then .ok (t.num,l) else .error (70,some t.pos)
def atomT (l:List Tok):Except PErr (Prt × List Tok) :=
  match numT 4294967295 l with
  | .error e => .error e
  | .ok (n, l1) => match numT 4294967295 l1 with
    | .error e => .error e
    | .ok (g, l2) => match numT 1099511627776 l2 with
      | .error e => .error e
      | .ok (d, l3) => match takeT 3 l3 with
        | .error e => .error e
        | .ok l4 => .ok (⟨0,n.toNat,g.toNat,d,0⟩,l4)
def goesOn (mode:Nat):List Tok→Bool
  | [] => mode != 2
  | t :: _ => mode != 2 || t.kind != 3
def parS:Nat→Nat→Nat→Nat→List Tok→Except PErr (Fst × List Tok)
  | 0,_,_,_,_ => .error (70,none)
  | m + 1, f, cnt, mode, l =>
    if goesOn mode l = false then .ok (.nil,l) else
    match l with
    | [] => .error (70,none)
    | t :: l1 =>
      if t.kind ≠ 2 then .error (70,some t.pos) else
      if f = 0 ∨ 64≤cnt then .error (80,some t.pos) else
      match l1 with
      | [] => .error (70,none)
      | w :: l2 =>
        match kindW w with
        | none => .error (70,some w.pos)
        | some k =>
          if k = 0 then
            match atomT l2 with
            | .error e => .error e
            | .ok p => if mode = 0 then .ok (.cons p.1 .nil .nil, p.2) else
              match parS m f (cnt + 1) 2 p.2 with
              | .error e => .error e
              | .ok q => .ok (.cons p.1 .nil q.1,q.2)
          else
            match parS m (f - 1) (cnt + 1) 1 l2 with
            | .error e => .error e
            | .ok p =>
              match takeT 3 p.2 with
              | .error e => .error e
              | .ok l4 => if mode = 0 then .ok (.cons ⟨k, 0, 0, 0, 0⟩ p.1 .nil, l4) else
                match parS m f (cnt + 1 + p.1.size) 2 l4 with
                | .error e => .error e
                | .ok q => .ok (.cons ⟨k,0,0,0,0⟩ p.1 q.1,q.2)
theorem numT_cons (lim:Int) (t:Tok) (l:List Tok):numT lim (t :: l) = if t.kind = 1∧t.num≤lim then .ok (t.num,l) else .error (70,some t.pos):=rfl
theorem takeT_cons (k:Nat) (t:Tok) (l:List Tok):takeT k (t :: l) = if t.kind = k then .ok l else .error (70,some t.pos):=rfl
end
section
def badI:Fst→Nat→Nat→Option Nat
  | .nil,_,_ => none
  | .cons x kids next, f, cnt =>
    if f = 0 ∨ 64≤cnt then some 0 else
    match badI kids (f - 1) (cnt + 1) with
    | some i => some (2 + (if x.kind = 0 then 3 else 0) + i)
    | none => match badI next f (cnt + 1 + kids.size) with
      | some i => some (2 + (if x.kind = 0 then 3 else 0) + kids.toks.length + 1 + i)
      | none => none
def parR (F:Fst) (f cnt:Nat) (ts r:List Tok):Except PErr (Fst × List Tok):=match badI F f cnt with
  | none => .ok (F,r)
  | some i => .error (80,some (ts.getD i tk0).pos)
theorem kindW_word {w:Tok} {k:Nat} (hk:k≤4) (h:noPos w = tokW (wordK k)):kindW w = some k:=by
  have h1:w.kind = 0:=congrArg Tok.kind h
  have h2:w.text = wordK k:=congrArg Tok.text h
  unfold kindW
  rw [if_neg (by omega),h2]
  have:k = 0 ∨ k = 1 ∨ k = 2 ∨ k = 3 ∨ k = 4:=by omega
  rcases this with rfl | rfl | rfl | rfl | rfl <;> rfl
theorem numT_tok {t:Tok} {n lim:Int} {l:List Tok} (hn:n≤lim) (h:noPos t = tokN n):numT lim (t :: l) = .ok (n,l):=by
  have h1:t.kind = 1:=congrArg Tok.kind h
  have h2:t.num = n:=congrArg Tok.num h
  rw [numT_cons,if_pos ⟨h1,by omega⟩,h2]
theorem takeT_tok {t:Tok} {k:Nat} {l:List Tok} (h:t.kind = k):takeT k (t :: l) = .ok l:=by rw [takeT_cons,if_pos h]
theorem atomT_toks {x:Prt} {t1 t2 t3 t4:Tok} {l:List Tok} (hx:okP x .nil) (hk:x.kind = 0) (hkid:x.kids = 0) (h1:noPos t1 = tokN x.n) (h2:noPos t2 = tokN x.g) (h3:noPos t3 = tokN x.d) (h4:t4.kind = 3):atomT (t1 :: t2 :: t3 :: t4 :: l) = .ok (x,l):=by
  rcases hx with ⟨_,a1,a2,a3,a4,_⟩ | ⟨a,_⟩
  · unfold atomT
    rw [numT_tok (by omega) h1]
    simp only
    rw [numT_tok (by omega) h2]
    simp only
    rw [numT_tok a4 h3]
    simp only
    rw [takeT_tok h4]
    simp only
    obtain ⟨k,n,g,d,kd⟩:=x
    simp only at hk hkid
    subst hk hkid
    simp
  · omega
theorem goesOn_open (mode:Nat) {t:Tok} (l:List Tok) (h:t.kind = 2):goesOn mode (t :: l) = true:=by
  show (mode != 2 || t.kind != 3) = true
  rw [show (t.kind != 3) = true by rw [h];rfl,Bool.or_true]
theorem parS_open {m f cnt mode:Nat} {t w:Tok} {l:List Tok} (h:t.kind = 2):parS (m + 1) f cnt mode (t :: w :: l) =
    if f = 0 ∨ 64≤cnt then .error (80,some t.pos) else
        match kindW w with
        | none => .error (70,some w.pos)
        | some k =>
          if k = 0 then
            match atomT l with
            | .error e => .error e
            | .ok p => if mode = 0 then .ok (.cons p.1 .nil .nil, p.2) else
              match parS m f (cnt + 1) 2 p.2 with
              | .error e => .error e
              | .ok q => .ok (.cons p.1 .nil q.1,q.2)
          else
            match parS m (f - 1) (cnt + 1) 1 l with
            | .error e => .error e
            | .ok p =>
              match takeT 3 p.2 with
              | .error e => .error e
              | .ok l4 => if mode = 0 then .ok (.cons ⟨k, 0, 0, 0, 0⟩ p.1 .nil, l4) else
                match parS m f (cnt + 1 + p.1.size) 2 l4 with
                | .error e => .error e
                | .ok q => .ok (.cons ⟨k,0,0,0,0⟩ p.1 q.1,q.2):=by
  rw [parS.eq_def]
  simp only
  rw [if_neg (by rw [goesOn_open mode _ h];decide),if_neg (by simpa using h)]
  all_goals rfl
theorem getD_cons2 {a b:Tok} {l:List Tok} {i:Nat}:(a :: b :: l).getD (2 + i) tk0 = l.getD i tk0:=by
  rw [show 2 + i = i + 1 + 1 by omega];rfl
theorem tgetD_app1 {a b:List Tok} {i:Nat} (h:i < a.length):(a ++ b).getD i tk0 = a.getD i tk0:=by
  simp only [List.getD_eq_getElem?_getD]
  rw [List.getElem?_append_left h]
theorem tgetD_app2 {a b:List Tok} {i:Nat}:(a ++ b).getD (a.length + i) tk0 = b.getD i tk0:=by
  simp only [List.getD_eq_getElem?_getD]
  rw [List.getElem?_append_right (by omega),Nat.add_sub_cancel_left]
theorem badI_lt:∀ (F:Fst) (f cnt i:Nat),badI F f cnt = some i→i < F.toks.length
  | .nil,_,_,_,h => by cases h
  | .cons x kids next, f, cnt, i, h => by
    rw [badI] at h
    have hl:(Fst.cons x kids next).toks.length = 2 + (if x.kind = 0 then 3 else 0) + kids.toks.length + 1 + next.toks.length:=by
      simp only [Fst.toks,List.length_cons,List.length_append]
      split <;> simp <;> omega
    rw [hl]
    by_cases hd:f = 0 ∨ 64≤cnt
    · rw [if_pos hd] at h;cases h;omega
    · rw [if_neg hd] at h
      cases hk:badI kids (f - 1) (cnt + 1) with
      | some j =>
        rw [hk] at h
        cases h
        have:=badI_lt kids _ _ _ hk
        omega
      | none =>
        rw [hk] at h
        simp only at h
        cases hn:badI next f (cnt + 1 + kids.size) with
        | some j =>
          rw [hn] at h
          cases h
          have:=badI_lt next _ _ _ hn
          omega
        | none => rw [hn] at h;cases h
theorem parS_toks:∀ (F:Fst) (m f cnt mode:Nat) (ts r:List Tok),F.wf→ts.map noPos = F.toks→ts.length < m→(1≤mode→r = [] ∨ ∃ t r',r = t :: r'∧t.kind = 3)→mode≤2→(mode = 0→F.len = 1)→(mode = 1→F ≠ .nil) →
    parS m f cnt mode (ts ++ r) = parR F f cnt ts r
  | .nil, m, f, cnt, mode, ts, r, _, hts, hm, hr, hm2, h0, h1 => by
    have e:ts = []:=by simpa [Fst.toks] using hts
    have hmode:mode = 2:=by
      by_cases c:mode = 0
      · have:=h0 c;simp [Fst.len] at this
      · by_cases c1:mode = 1
        · exact absurd rfl (h1 c1)
        · omega
    subst e hmode
    cases m with
    | zero => simp at hm
    | succ m =>
      have hg:goesOn 2 r = false:=by
        rcases hr (by omega) with e | ⟨t,r',e,hk⟩
        · rw [e];rfl
        · rw [e];show (2 != 2 || t.kind != 3) = false;rw [hk];rfl
      rw [List.nil_append,parS.eq_def]
      simp only
      rw [if_pos hg]
      rfl
  | .cons x kids next, m, f, cnt, mode, ts, r, hw, hts, hm, hr, hm2, h0, h1 => by
    obtain ⟨hx,hkid,hwk,hwn⟩:=hw
    simp only [Fst.toks] at hts
    obtain ⟨tO,ts1,rfl,eO,hts1⟩:=List.map_eq_cons_iff.1 hts
    obtain ⟨tW,ts2,rfl,eW,hts2⟩:=List.map_eq_cons_iff.1 hts1
    obtain ⟨tN,ts3,rfl,eN,hts3⟩:=List.map_eq_append_iff.1 hts2
    obtain ⟨tK,ts4,rfl,eK,hts4⟩:=List.map_eq_append_iff.1 hts3
    obtain ⟨tC,tX,rfl,eC,eX⟩:=List.map_eq_cons_iff.1 hts4
    have kO:tO.kind = 2:=congrArg Tok.kind eO
    have kC:tC.kind = 3:=congrArg Tok.kind eC
    have lN:tN.length = if x.kind = 0 then 3 else 0:=by
      have:=congrArg List.length eN
      rw [List.length_map] at this
      rw [this]
      split <;> rfl
    have lK:tK.length = kids.toks.length:=by
      have:=congrArg List.length eK
      rwa [List.length_map] at this
    simp only [List.length_cons,List.length_append] at hm
    cases m with
    | zero => omega
    | succ m =>
      have e1:tO :: tW :: (tN ++ (tK ++ tC :: tX)) ++ r = tO :: tW :: (tN ++ (tK ++ (tC :: (tX ++ r)))):=by simp
      rw [e1,parS_open kO]
      unfold parR
      rw [badI]
      by_cases hd:f = 0 ∨ 64≤cnt
      · rw [if_pos hd,if_pos hd]
        rfl
      · rw [if_neg hd,if_neg hd]
        have hk4:x.kind≤4:=by rcases hx with ⟨a,_⟩ | ⟨_,a,_⟩ <;> omega
        rw [kindW_word hk4 eW]
        simp only
        by_cases hk0:x.kind = 0
        · rw [if_pos hk0]
          rw [if_pos hk0] at eN lN ⊢
          have hkn:kids = .nil:=by
            rcases hx with ⟨_,_,_,_,_,a⟩ | ⟨a,_⟩
            · exact a
            · omega
          subst hkn
          have eK0:tK = []:=by simpa [Fst.toks] using eK
          subst eK0
          obtain ⟨t1,n1,rfl,a1,b1⟩:=List.map_eq_cons_iff.1 eN
          obtain ⟨t2,n2,rfl,a2,b2⟩:=List.map_eq_cons_iff.1 b1
          obtain ⟨t3,n3,rfl,a3,b3⟩:=List.map_eq_cons_iff.1 b2
          have n30:n3 = []:=by simpa using b3
          subst n30
          have ea:atomT ([t1,t2,t3] ++ ([] ++ (tC :: (tX ++ r)))) = .ok (x,tX ++ r):=atomT_toks hx hk0 hkid a1 a2 a3 kC
          rw [ea]
          simp only [badI,Fst.size,Nat.add_zero]
          by_cases hm0:mode = 0
          · rw [if_pos hm0]
            have hnn:next = .nil:=by
              have:=h0 hm0
              cases next with
              | nil => rfl
              | cons y a b => simp [Fst.len] at this
            subst hnn
            have eX0:tX = []:=by simpa [Fst.toks] using eX
            subst eX0
            rfl
          · rw [if_neg hm0,parS_toks next m f (cnt + 1) 2 tX r hwn eX (by simp at hm;omega) (fun _ => hr (by omega)) (Nat.le_refl _) (fun h => by omega) (fun h => by omega)]
            unfold parR
            cases hb:badI next f (cnt + 1) with
            | none => rfl
            | some i =>
              simp only
              have:(tO :: tW :: ([t1,t2,t3] ++ ([] ++ tC :: tX))).getD (2 + 3 + 0 + 1 + i) tk0 = tX.getD i tk0:=by
                rw [show 2 + 3 + 0 + 1 + i = i + 1 + 1 + 1 + 1 + 1 + 1 by omega];rfl
              simp only [Fst.toks,List.length_nil]
              rw [this]
        · rw [if_neg hk0]
          rw [if_neg hk0] at eN lN ⊢
          have hx2:x.n = 0∧x.g = 0∧x.d = 0∧kids ≠ .nil:=by
            rcases hx with ⟨a,_⟩ | ⟨_,_,a,b,c,d⟩
            · exact absurd a hk0
            · exact ⟨a,b,c,d⟩
          have hxe:(⟨x.kind,0,0,0,0⟩:Prt) = x:=by
            obtain ⟨k,n,g,d,kd⟩:=x
            obtain ⟨a,b,c,_⟩:=hx2
            simp only at a b c hkid
            subst a b c hkid
            rfl
          have eN0:tN = []:=by simpa using eN
          subst eN0
          rw [List.nil_append,parS_toks kids m (f - 1) (cnt + 1) 1 tK (tC :: (tX ++ r)) hwk eK (by simp at hm;omega) (fun _ => .inr ⟨tC,_,rfl,kC⟩) (by omega) (fun h => by omega) (fun _ => hx2.2.2.2)]
          unfold parR
          cases hb:badI kids (f - 1) (cnt + 1) with
          | some i =>
            simp only
            have hi:=badI_lt kids _ _ _ hb
            have:(tO :: tW :: ([] ++ (tK ++ tC :: tX))).getD (2 + 0 + i) tk0 = tK.getD i tk0:=by
              rw [show 2 + 0 + i = 2 + i by omega,getD_cons2,List.nil_append,tgetD_app1 (by omega)]
            rw [this]
          | none =>
            simp only
            rw [takeT_tok kC]
            simp only
            by_cases hm0:mode = 0
            · rw [if_pos hm0]
              have hnn:next = .nil:=by
                have:=h0 hm0
                cases next with
                | nil => rfl
                | cons y a b => simp [Fst.len] at this
              subst hnn
              have eX0:tX = []:=by simpa [Fst.toks] using eX
              subst eX0
              rw [hxe]
              rfl
            · rw [if_neg hm0,parS_toks next m f (cnt + 1 + kids.size) 2 tX r hwn eX (by simp at hm;omega) (fun _ => hr (by omega)) (Nat.le_refl _) (fun h => by omega) (fun h => by omega)]
              unfold parR
              cases hb2:badI next f (cnt + 1 + kids.size) with
              | none => simp only;rw [hxe]
              | some i =>
                simp only
                have:(tO :: tW :: ([] ++ (tK ++ tC :: tX))).getD (2 + 0 + kids.toks.length + 1 + i) tk0 = tX.getD i tk0:=by
                  rw [show 2 + 0 + kids.toks.length + 1 + i = 2 + (tK.length + (i + 1)) by omega,getD_cons2,List.nil_append,tgetD_app2]
                  rfl
                rw [this]
end
section
theorem badI_none:∀ (F:Fst) (f cnt:Nat),F.depth≤f→(F ≠ .nil→cnt + F.size≤64)→badI F f cnt = none
  | .nil,_,_,_,_ => rfl
  | .cons x kids next, f, cnt, hd, hs => by
    simp only [Fst.depth] at hd
    have hs':=hs (fun e => by cases e)
    simp only [Fst.size] at hs'
    rw [badI,if_neg (by omega),badI_none kids (f - 1) (cnt + 1) (by omega) (fun _ => by omega)]
    simp only
    rw [badI_none next f (cnt + 1 + kids.size) (by omega) (fun _ => by omega)]
theorem toks_pos:∀ F:Fst,F.toks.map noPos = F.toks
  | .nil => rfl
  | .cons x kids next => by
    simp only [Fst.toks,List.map_cons,List.map_append,toks_pos kids,toks_pos next]
    split <;> rfl
def wFrom:List UInt8:=[102,114,111,109]
def wTo:List UInt8:=[116,111]
def tokD (fr to':Int) (F:Fst):List Tok:=tokW wFrom :: tokN fr :: tokW wTo :: tokN to' :: tokL :: F.toks
def textD (fr to':Int) (F:Fst):List UInt8:=textG (tokD fr to' F)
def okN (n:Int):Prop:=0≤n∧n≤1099511627776
theorem okTok_N {n:Int} (h:okN n):okTok (tokN n).text (tokN n).kind (tokN n).num:=by
  have:=dig_ok (n:=n.toNat) (by have:=h.1;have:=h.2;omega)
  show okTok (digG n.toNat) 1 n
  rw [show n = ((n.toNat:Nat):Int) by have:=h.1;omega]
  exact this
theorem okTok_O:okTok tokO.text tokO.kind tokO.num:=⟨rfl,.inl ⟨40,rfl,rfl,rfl⟩⟩
theorem okTok_C:okTok tokC.text tokC.kind tokC.num:=⟨rfl,.inl ⟨41,rfl,rfl,rfl⟩⟩
theorem okTok_L:okTok tokL.text tokL.kind tokL.num:=⟨rfl,.inl ⟨58,rfl,rfl,rfl⟩⟩
theorem okTok_W {k:Nat} (h:k≤4):okTok (tokW (wordK k)).text (tokW (wordK k)).kind (tokW (wordK k)).num:=by
  have:k = 0 ∨ k = 1 ∨ k = 2 ∨ k = 3 ∨ k = 4:=by omega
  rcases this with rfl | rfl | rfl | rfl | rfl <;> exact ⟨rfl,.inr ⟨List.cons_ne_nil _ _,rfl⟩⟩
theorem toks_ok:∀ F:Fst,F.wf→∀ t ∈ F.toks,okTok t.text t.kind t.num
  | .nil,_,t,ht => by simp [Fst.toks] at ht
  | .cons x kids next, ⟨hx, hk, h1, h2⟩, t, ht => by
    have hk4:x.kind≤4:=by rcases hx with ⟨a,_⟩ | ⟨_,a,_⟩ <;> omega
    simp only [Fst.toks,List.mem_cons,List.mem_append] at ht
    rcases ht with rfl | rfl | ht | ht | rfl | ht
    · exact okTok_O
    · exact okTok_W hk4
    · by_cases c:x.kind = 0
      · rw [if_pos c] at ht
        rcases hx with ⟨_,a1,a2,a3,a4,_⟩ | ⟨a,_⟩
        · simp only [List.mem_cons,List.not_mem_nil,or_false] at ht
          rcases ht with rfl | rfl | rfl
          · exact okTok_N ⟨by omega,by omega⟩
          · exact okTok_N ⟨by omega,by omega⟩
          · exact okTok_N ⟨a3,a4⟩
        · omega
      · rw [if_neg c] at ht;simp at ht
    · exact toks_ok kids h1 t ht
    · exact okTok_C
    · exact toks_ok next h2 t ht
theorem tokD_ok {fr to':Int} {F:Fst} (h1:okN fr) (h2:okN to') (h3:F.wf):∀ t ∈ tokD fr to' F,okTok t.text t.kind t.num:=fun t ht => by
  unfold tokD at ht
  simp only [List.mem_cons] at ht
  rcases ht with rfl | rfl | rfl | rfl | rfl | ht
  · exact ⟨rfl,.inr ⟨List.cons_ne_nil _ _,rfl⟩⟩
  · exact okTok_N h1
  · exact ⟨rfl,.inr ⟨List.cons_ne_nil _ _,rfl⟩⟩
  · exact okTok_N h2
  · exact okTok_L
  · exact toks_ok F h3 t ht
theorem textD_lex {fr to':Int} {F:Fst} (h1:okN fr) (h2:okN to') (h3:F.wf):lexG 0 (textD fr to' F) = .ok (placeG 0 (tokD fr to' F)):=spells_lexG _ _ _ (text_spells _ 0 (tokD_ok h1 h2 h3))
def takeW (w:List UInt8):List Tok→Except PErr (List Tok)
  | [] => .error (70,none)
  | t :: l => if t.kind = 0∧t.text = w then .ok l else .error (70,some t.pos)
theorem takeW_cons (w:List UInt8) (t:Tok) (l:List Tok):takeW w (t :: l) = if t.kind = 0∧t.text = w then .ok l else .error (70,some t.pos):=rfl
def defP (l:List Tok):Except PErr (Int × Int × Fst) :=
  match takeW wFrom l with
  | .error e => .error e
  | .ok l1 => match numT 1099511627776 l1 with
    | .error e => .error e
    | .ok p => match takeW wTo p.2 with
      | .error e => .error e
      | .ok l3 => match numT 1099511627776 l3 with
        | .error e => .error e
        | .ok q => match takeT 4 q.2 with
          | .error e => .error e
          | .ok l5 => match parS (l5.length + 1) 8 0 0 l5 with
            | .error e => .error e
            | .ok r => match r.2 with
              | [] => .ok (p.1,q.1,r.1)
              | t :: _ => .error (70,some t.pos)
theorem defP_toks {ts:List Tok} {fr to':Int} {F:Fst} (hts:ts.map noPos = tokD fr to' F) (h1:okN fr) (h2:okN to') (h3:F.wf) (h4:F.len = 1) :
    defP ts = match badI F 8 0 with
      | none => .ok (fr,to',F)
      | some i => .error (80,some (ts.getD (5 + i) tk0).pos):=by
  unfold tokD at hts
  obtain ⟨t1,s1,rfl,e1,hs1⟩:=List.map_eq_cons_iff.1 hts
  obtain ⟨t2,s2,rfl,e2,hs2⟩:=List.map_eq_cons_iff.1 hs1
  obtain ⟨t3,s3,rfl,e3,hs3⟩:=List.map_eq_cons_iff.1 hs2
  obtain ⟨t4,s4,rfl,e4,hs4⟩:=List.map_eq_cons_iff.1 hs3
  obtain ⟨t5,s5,rfl,e5,hs5⟩:=List.map_eq_cons_iff.1 hs4
  unfold defP
  rw [takeW_cons,if_pos ⟨congrArg Tok.kind e1,congrArg Tok.text e1⟩]
  simp only
  rw [numT_tok h1.2 e2]
  simp only
  rw [takeW_cons,if_pos ⟨congrArg Tok.kind e3,congrArg Tok.text e3⟩]
  simp only
  rw [numT_tok h2.2 e4]
  simp only
  rw [takeT_tok (show t5.kind = 4 from congrArg Tok.kind e5)]
  simp only
  have hp:=parS_toks F (s5.length + 1) 8 0 0 s5 [] h3 hs5 (Nat.lt_succ_self _) (fun h => by omega) (by omega) (fun _ => h4) (fun h => by omega)
  rw [List.append_nil] at hp
  rw [hp]
  unfold parR
  cases hb:badI F 8 0 with
  | none => rfl
  | some i =>
    simp only
    rw [show 5 + i = i + 1 + 1 + 1 + 1 + 1 by omega]
    rfl
end
end Go.Proofs.YthlepbbdjmmelaaGreatDoor
