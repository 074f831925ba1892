/- Program-free lemmas for walks over calls that make memory of their own. No conditions. From a walk to a statement: a law whose call answers true and only makes memory has its row. No conditions. Slices that read as lists of parts: five cells each. No function of the program. No conditions. A definition that is handed in: two times and a slice of parts. No conditions. A row .. -/
import Derived.WalkKit
import Derived.ProofKit
import Derived.OpenShut
import Derived.Below
import Derived.WalkSmall
import Derived.OneCell
import Derived.Deep.QuietTactic
import Derived.BigQuiet
import Derived.Test.YtcmponckjkalaaaGreatRows
import Derived.Carry
import Derived.Lib.SmallJoins
import Derived.Test.YtcmponckjkalaaaGreatPUMA
import Derived.LoopTactic
import Derived.Deep.LoopGhost
import Derived.WalkMore
import Derived.ScopeJumps
import Derived.Deep.DeepCutAuto
import Derived.Outline
import Derived.BigRegion
import Derived.Laws.AppendOwn
import Derived.Laws.OwnMore
import Derived.Laws.IdiomStrings
namespace Go.Proofs.YtcmponckjkalaaaGreat
section
open Go.ChangeShapes Go.WideShapes Go.ChangeAt Go.RowKit
def Past (W:World):Type:={ w:World // Below W.heap.size W w }
instance (W:World):Nonempty (Past W):=⟨⟨W,Below.refl _ _⟩⟩
theorem Past.cell {W:World} (x:Past W) (b o:Nat) (h:b<W.heap.size):x.1.cell? ⟨b,o,none⟩=W.cell? ⟨b,o,none⟩ :=
 x.2.cell (p:=⟨b,o,none⟩) h
theorem bcell {W w1:World} (hb:Below W.heap.size W w1):(∀ b o,b<W.heap.size→w1.cell? ⟨b,o,none⟩=W.cell? ⟨b,o,none⟩)∧(∀ b o,b<W.heap.size→w1.frozen? ⟨b,o,none⟩=W.frozen? ⟨b,o,none⟩) :=
 ⟨fun b o h=>hb.cell (p:=⟨b,o,none⟩) h,fun b o h=>hb.frozen (p:=⟨b,o,none⟩) h⟩
theorem bsz {W w1:World} (hb:Below W.heap.size W w1) (k:Nat) (h:k<W.heap.size):k<w1.heap.size:=Nat.lt_of_lt_of_le h hb.size
theorem wp_region_past_lit {P:Program} {id:Nat} {Q:Exit→Act→World→Prop} {a:Act} {w:World} {l:List Oper} (hm:P.follows .mixedOrders=true) (hB:Region.lexB .any l.toArray=true)
  (h:wpQuiet P l.toArray (fun w'=>∃ x:Past w,w'=x.1) (fun a'=>∀ w',(∃ x:Past w,w'=x.1)→Q .normal a' w') l a):(Code.region id l.toArray true).wp P Q a w :=
 wp_region_quiet (C:=fun w'=>∃ x:Past w,w'=x.1) hm hB ⟨⟨_,(Below.refl _ _).drew⟩,rfl⟩ (by simpa using h)
theorem Past.call {P:Program} {f:FuncId} {args:Array Value} {W:World} {v:Value} (x:Past W)
  (h:Calls P f args x.1 fun e w'=>e = .returned v∧Below x.1.heap.size x.1 w'):Calls P f args x.1 fun e w''=>e = .returned v∧∃ y:Past W,w''=y.1 :=
 h.mono fun _ _ ⟨he,hb⟩=>⟨he,⟨⟨_,x.2.trans (hb.mono x.2.size)⟩,rfl⟩⟩
theorem Past.prop {W:World} (x:Past W):Below W.heap.size W x.1:=x.2
theorem bstep {a W w':World} (h:Below W.heap.size W w') (ha:Below a.heap.size a W):Below a.heap.size a w':=ha.trans (h.mono ha.size)
theorem balloc {a w:World} (h:Below a.heap.size a w) (o:Obj):Below a.heap.size a (w.alloc o):=h.alloc h.size o
theorem hidE {p:Prop} (h:p):Hid p:=h
def Blk (w:World) (k:Nat) (cs:Array Value) (t:TypeId):Prop:=w.heap[k]? = some (.cells cs t (0,0))
theorem Blk.lt {w:World} {k:Nat} {cs:Array Value} {t:TypeId} (h:Blk w k cs t):k<w.heap.size:=lt_of_block h
theorem Blk.cell {w:World} {k:Nat} {cs:Array Value} {t:TypeId} (h:Blk w k cs t) (i:Nat):w.cell? ⟨k,i,none⟩=cs[i]? := by
 unfold Blk at h;simp[World.cell?,h]
theorem Blk.free {w:World} {k:Nat} {cs:Array Value} {t:TypeId} (h:Blk w k cs t) (i:Nat):w.frozen? ⟨k,i,none⟩=false:=by
 unfold Blk at h;simp[World.frozen?,h]
theorem Blk.made (w:World) (cs:Array Value) (t:TypeId):Blk (w.alloc (.cells cs t)) w.heap.size cs t:=by
 show (w.heap.push _)[w.heap.size]? = _
 simp
theorem Blk.made_at (w:World) (cs:Array Value) (t:TypeId) (k:Nat) (h:k=w.heap.size):Blk (w.alloc (.cells cs t)) k cs t:=h ▸ Blk.made w cs t
theorem Blk.alloc {w:World} {k:Nat} {cs:Array Value} {t:TypeId} (h:Blk w k cs t) (o:Obj):Blk (w.alloc o) k cs t:=by
 have:=h.lt
 show (w.heap.push _)[k]? = _
 rw[Array.getElem?_push,if_neg (by omega)];exact h
theorem Blk.below {w w':World} {k:Nat} {cs:Array Value} {t:TypeId} (h:Blk w k cs t) {B:Nat} (hb:Below B w w') (hk:k<B):Blk w' k cs t:=(hb.block k hk).trans h
theorem Blk.past {w w':World} {k:Nat} {cs:Array Value} {t:TypeId} (h:Blk w k cs t) (hb:Below w.heap.size w w'):Blk w' k cs t:=h.below hb h.lt
theorem Blk.drew {w:World} {k:Nat} {cs:Array Value} {t:TypeId} (h:Blk w k cs t) (n:Nat):Blk (w.drewN n) k cs t:=h
theorem Blk.set {w:World} {k:Nat} {cs:Array Value} {t:TypeId} (h:Blk w k cs t) (i:Nat) (v:Value):Blk (w.setCell ⟨k,i,none⟩ v) k (cs.setIfInBounds i v) t:=by
 have hlt:=h.lt
 have h':w.heap[k] = .cells cs t (0,0):=by unfold Blk at h;simpa [Array.getElem?_eq_getElem hlt] using h
 show (w.heap.modify k _)[k]? = _
 rw[Array.getElem?_eq_getElem (by simpa using hlt),Array.getElem_modify_self,h']
 rfl
theorem Blk.other {w:World} {k:Nat} {cs:Array Value} {t:TypeId} (h:Blk w k cs t) {b i:Nat} (hb:k≠b) (v:Value):Blk (w.setCell ⟨b,i,none⟩ v) k cs t :=
 (Below.heap_setCell w ⟨b,i,none⟩ v k hb).trans h
theorem ret_bool {a b:Bool} (h:a=b):Ending.returned (.bool a) = .returned (.bool b):=by rw[h]
theorem ret_int {k:IntKind} {a b:Int} (h:a=b):Ending.returned (.int k a) = .returned (.int k b):=by rw[h]
def RetV (w:World) (p:Value→World→Prop) (e:Ending) (w':World):Prop:=∃ v:Value,e = .returned v∧p v w'∧Below w.heap.size w w'
end
section
open Go.ChangeShapes Go.WideShapes Go.ChangeAt Go.RowKit Go.WideElems
def readOk (P:Program) (ts:List TypeId):Bool:=ts.all fun t=>P.readableRec t && decide (t<P.types.size)
theorem readOk_spec {P:Program} {ts:List TypeId} (h:readOk P ts=true):∀ t∈ts,P.readableRec t=true∧t<P.types.size:=fun t ht=>by
 have:=List.all_eq_true.1 h t ht
 simpa using this
theorem own:ownKnob Tryz.prog.godebug=none:=by kernel_rfl
theorem laidOut:laidOutB Tryz.prog=true:=by kernel_rfl
section
variable {H:Type} {enc:TypeId × Value→H} {P:Program}
theorem trodAll_past (hl:laidOutB P=true) {W W':World} (hb:Below W.heap.size W W'):∀ (ts:List TypeId) (vs:List Value) (ds:List (DataW H)) (ps:List MemPlace),
  (∀ t∈ts,P.readableRec t=true∧t<P.types.size)→DataW.TrodAll enc P W 0 (fun _=>true) true ts vs ds ps→(∀ x∈ps,x.block<W.heap.size) →
  ∀ sp:Nat→Bool,(∀ x∈ps,sp x.block=true)→DataW.TrodAll enc P W' 0 sp true ts vs ds ps:=by
 intro ts
 induction ts with
 | nil =>
  intro vs ds ps _ h _ sp _
  cases vs<;>cases ds<;>simp only[DataW.TrodAll] at h ⊢
  exact h
 | cons t ts ih =>
  intro vs ds ps hr h hlt sp hsp
  cases vs with
  | nil=>cases ds<;>simp only[DataW.TrodAll] at h
  | cons v vs =>
   cases ds with
   | nil=>simp only[DataW.TrodAll] at h
   | cons d ds =>
    simp only[DataW.TrodAll] at h ⊢
    obtain ⟨p,q,h1,h2,rfl⟩:=h
    have hr0:=hr t (by simp)
    exact ⟨p,q,WideElems.Trod_stays hl hr0.1 hr0.2 h1 (fun x hx=>hb.same (hlt x (by simp[hx]))) (fun x hx=>hsp x (by simp[hx])),
     ih vs ds q (fun u hu=>hr u (by simp[hu])) h2 (fun x hx=>hlt x (by simp[hx])) sp (fun x hx=>hsp x (by simp[hx])),rfl⟩
theorem law_post {f:Func} {s:ChangeSpec} {rt:TypeId} {W W':World} {args:Array Value} {ds gs:List (DataW H)} {before:List MemPlace}
  (hl:laidOutB P=true) (hread:∀ t∈f.params.toList,P.readableRec t=true∧t<P.types.size) (hv:s.vars=[]) (hbool:P.underlying rt=some .bool) (hrt:f.resultTypes=#[rt])
  (hfn:(s.fn H ds).results=[.lit (.bool true)]∧(s.fn H ds).args=ds∧(s.fn H ds).vars=[])
  (hW:DataW.Whole enc P f.params.toList s.vars false W args.toList ds gs before) (hb:Below W.heap.size W W') :
  s.post enc P f false true false false W args (.bool true) W':=by
 have hlt:∀ x∈before,x.block<W.heap.size:=fun x hx=>hW.lt x hx
 have hW':=hW
 obtain ⟨p,q,hA,hV,rfl,hz,hn⟩:=hW
 rw[hv] at hV
 obtain ⟨rfl,rfl⟩:=trodVars_none hV
 rw[List.append_nil] at *
 obtain ⟨e1,e2,e3⟩:=hfn
 have hres:∀ (b:Nat) (sp:Nat→Bool) (hd:Bool),DataW.TrodAll enc P W' b sp hd f.resultTypes.toList ((Value.bool true).resultList f.resultTypes.size) (s.fn H (ds++[])).results []:=by
  intro b sp hd
  rw[List.append_nil,e1,hrt]
  exact trodAll_cons_mk (shut_bool hbool true) trodAll_mk0
 have hargs:∀ sp:Nat→Bool,(∀ x∈p,sp x.block=true)→DataW.TrodAll enc P W' 0 sp true f.params.toList args.toList (s.fn H (ds++[])).args p:=by
  intro sp hsp
  rw[List.append_nil,e2]
  exact trodAll_past hl hb _ _ _ _ hread hA hlt sp hsp
 have hvars:∀ sp:Nat→Bool,DataW.TrodVars enc P W' sp s.vars (s.fn H (ds++[])).vars []:=by
  intro sp
  rw[List.append_nil,e3,hv]
  rfl
 have hold:∀ x∈p,(fun b=>decide (b<W.heap.size)) x.block=true:=fun x hx=>by simpa using hlt x hx
 refine ⟨ds,[],p,[],p,[],hW',hres _ _ _,hargs _ hold,hvars _,World.keptBut_mono (fun x hx=>⟨hx,Or.inr (by simpa using hx)⟩) (hb.frame (·∈p)),fun h=>by cases h⟩
end
end
section
open Go.ChangeShapes Go.WideShapes Go.ChangeAt Go.RowKit
attribute [local irreducible] Go.Calls
def pr0:Prt:=⟨0,0,0,0,0⟩
def CellsP (w:World) (b off:Nat) (l:List Prt):Prop :=
 ∀ i,i<l.length→w.cell? ⟨b,off+i * 5,none⟩=some (.int .u8 (l.getD i pr0).kind)∧w.cell? ⟨b,off+i * 5+1,none⟩=some (.int .u32 (l.getD i pr0).n)∧w.cell? ⟨b,off+i * 5+2,none⟩=some (.int .u32 (l.getD i pr0).g)∧w.cell? ⟨b,off+i * 5+3,none⟩=some (.int .i64 (l.getD i pr0).d)∧w.cell? ⟨b,off+i * 5+4,none⟩=some (.int .i64 (l.getD i pr0).kids)
def ArgP (w:World) (a:Option Addr) (l:List Prt):Prop:=0<l.length→∃ b off,a=some ⟨b,off,none⟩∧b<w.heap.size∧CellsP w b off l
theorem CellsP.below {w w':World} {b off B:Nat} {l:List Prt} (h:CellsP w b off l) (hb:Below B w w') (hB:b<B):CellsP w' b off l:=fun i hi=>by
 obtain ⟨h1,h2,h3,h4,h5⟩:=h i hi
 exact ⟨(hb.cell (p:=⟨b,_,none⟩) hB).trans h1,(hb.cell (p:=⟨b,_,none⟩) hB).trans h2,(hb.cell (p:=⟨b,_,none⟩) hB).trans h3,(hb.cell (p:=⟨b,_,none⟩) hB).trans h4,(hb.cell (p:=⟨b,_,none⟩) hB).trans h5⟩
theorem ArgP.past {w w':World} {a:Option Addr} {l:List Prt} (h:ArgP w a l) (hb:Below w.heap.size w w'):ArgP w' a l:=fun hl=>by
 obtain ⟨b,off,e,h1,h2⟩:=h hl
 exact ⟨b,off,e,Nat.lt_of_lt_of_le h1 hb.size,h2.below hb h1⟩
theorem CellsP.get {w:World} {b off:Nat} {l:List Prt} (h:CellsP w b off l) {i:Nat} (hi:i<l.length):w.cell? ⟨b,off+i * 5,none⟩=some (.int .u8 (l.getD i pr0).kind)∧w.cell? ⟨b,off+i * 5+1,none⟩=some (.int .u32 (l.getD i pr0).n)∧w.cell? ⟨b,off+i * 5+2,none⟩=some (.int .u32 (l.getD i pr0).g)∧w.cell? ⟨b,off+i * 5+3,none⟩=some (.int .i64 (l.getD i pr0).d)∧w.cell? ⟨b,off+i * 5+4,none⟩=some (.int .i64 (l.getD i pr0).kids):=h i hi
theorem Tryz.infoPart:(Tryz.prog.info? 169).map (fun i=>(i.zero,i.size,i.bytes))=some (some (.agg #[.int .u8 0,.int .u32 0,.int .u32 0,.int .i64 0,.int .i64 0]),5,32):=by kernel_rfl
def cellsOfP:List Prt→List Value
 | []=>[]
 | t :: r => .int .u8 t.kind :: .int .u32 t.n :: .int .u32 t.g :: .int .i64 t.d :: .int .i64 t.kids :: cellsOfP r
theorem cellsOfP_len:∀ l,(cellsOfP l).length=l.length * 5
 | []=>rfl
 | s :: r=>by simp only[cellsOfP,List.length_cons,cellsOfP_len r];omega
theorem cellsOfP_get:∀ (l:List Prt) (i:Nat),i<l.length→(cellsOfP l)[i * 5]? = some (.int .u8 (l.getD i pr0).kind)∧(cellsOfP l)[i * 5+1]? = some (.int .u32 (l.getD i pr0).n)∧(cellsOfP l)[i * 5+2]? = some (.int .u32 (l.getD i pr0).g)∧(cellsOfP l)[i * 5+3]? = some (.int .i64 (l.getD i pr0).d)∧(cellsOfP l)[i * 5+4]? = some (.int .i64 (l.getD i pr0).kids)
 | [],i,h=>by simp at h
 | s :: l,0,_=>⟨rfl,rfl,rfl,rfl,rfl⟩
 | s :: l, i + 1, h => by
   obtain ⟨h1,h2,h3,h4,h5⟩:=cellsOfP_get l i (by simp at h;omega)
   have e:∀ j,(cellsOfP (s :: l))[(i+1) * 5+j]? = (cellsOfP l)[i * 5+j]? := fun j=>by
    simp only[cellsOfP]
    rw[show (i+1) * 5+j=i * 5+j+1+1+1+1+1 by omega]
    simp only[List.getElem?_cons_succ]
   exact ⟨(e 0).trans h1,(e 1).trans h2,(e 2).trans h3,(e 3).trans h4,(e 4).trans h5⟩
def SliP (w:World) (v:Value) (l:List Prt):Prop:=∃ (a:Option Addr) (cap:Nat),v = .slice a l.length cap∧l.length≤cap∧cap≤9223372036854775807∧ArgP w a l
theorem SliP.past {w w':World} {v:Value} {l:List Prt} (h:SliP w v l) (hb:Below w.heap.size w w'):SliP w' v l:=by
 obtain ⟨a,cap,h1,h2,h3,h4⟩:=h
 exact ⟨a,cap,h1,h2,h3,h4.past hb⟩
theorem sliP_nil (w:World):SliP w (.slice none 0 0) []:=⟨none,0,rfl,Nat.le_refl _,by omega,fun h=>by simp at h⟩
theorem sliP_own {w:World} {base:Nat} {e:TypeId} {v:Value} {l:List Prt} (h:w.ownsRow base e 5 v l.length (cellsOfP l)):SliP w v l:=by
 obtain ⟨h1,h2 | ⟨g,cap,cur,rfl,h3,h4,h5,h6,h7,h8⟩⟩:=h
 ·obtain ⟨rfl,h2⟩:=h2
  have:l=[]:=List.eq_nil_of_length_eq_zero h2
  subst this
  exact sliP_nil w
 ·refine ⟨some ⟨g,0,none⟩,cap,rfl,h5,by unfold maxLen at h6;omega,fun _=>⟨g,0,rfl,lt_of_block h4,fun i hi => ?_⟩⟩
  have hg:=cellsOfP_get l i hi
  have hc:∀ j x,j<l.length * 5→(cellsOfP l)[j]? = some x→w.cell? ⟨g,j,none⟩=some x:=fun j x hj hx=>by
   have e:w.cell? ⟨g,j,none⟩=cur[j]? := by simp[World.cell?,h4]
   rw[e,←Array.getElem?_toList]
   rw[←h8,List.getElem?_take,if_pos hj] at hx
   exact hx
  simp only[Nat.zero_add]
  exact ⟨hc _ _ (by omega) hg.1,hc _ _ (by omega) hg.2.1,hc _ _ (by omega) hg.2.2.1,hc _ _ (by omega) hg.2.2.2.1,hc _ _ (by omega) hg.2.2.2.2⟩
end
section
open Go.ChangeShapes Go.WideShapes Go.ChangeAt Go.RowKit
instance:Inhabited Prt:=⟨pr0⟩
section
variable {H:Type} {enc:TypeId × Value→H} {P:Program}
theorem wfU8 {n:Int} (h:(Lit.int .u8 n).wf=true):0≤n∧n≤255:=by simpa [Lit.wf,IntKind.min,IntKind.max,IntKind.signed,IntKind.bits] using h
theorem wfU32 {n:Int} (h:(Lit.int .u32 n).wf=true):0≤n∧n≤4294967295:=by simpa [Lit.wf,IntKind.min,IntKind.max,IntKind.signed,IntKind.bits] using h
end
set_option maxRecDepth 100000 in
theorem cells4:Tryz.prog.cellsOf 5=1∧Tryz.prog.cellsOf 44=1∧Tryz.prog.cellsOf 2=1∧Tryz.prog.cellsOf 3=1:=⟨by kernel_rfl,by kernel_rfl,by kernel_rfl,by kernel_rfl⟩
end
section
open Go.ChangeShapes Go.WideShapes Go.ChangeAt Go.RowKit
attribute [local irreducible] Go.Calls
theorem own_below {w w':World} {B:Nat} {e:TypeId} {sz:Nat} {v:Value} {n:Nat} {xs:List Value} (h:w.ownsRow B e sz v n xs) (hb:Below w.heap.size w w'):w'.ownsRow B e sz v n xs:=by
 obtain ⟨h1,h2 | ⟨g,cap,cur,h3,h4,h5,h6⟩⟩:=h
 ·exact ⟨h1,.inl h2⟩
 ·exact ⟨h1,.inr ⟨g,cap,cur,h3,h4,(hb.block g (lt_of_block h5)).trans h5,h6⟩⟩
theorem own_block {w:World} {B:Nat} {e:TypeId} {sz:Nat} {v:Value} {n:Nat} {xs:List Value} (h:w.ownsRow B e sz v n xs) {k:Nat} (hk:v.ownBlock=some k):B≤k:=by
 obtain ⟨h1,h2 | ⟨g,cap,cur,h3,h4,h5,h6⟩⟩:=h
 ·rw[h2.1] at hk;simp[Value.ownBlock] at hk
 ·rw[h3] at hk;simp[Value.ownBlock] at hk;omega
theorem own_kept {A B:World} {β sz n:Nat} {e:TypeId} {v:Value} {xs:List Value} (h:A.ownsRow β e sz v n xs) (hk:∀ k,v.ownBlock=some k→B.heap[k]? = A.heap[k]?):B.ownsRow β e sz v n xs:=by
 obtain ⟨h1,h2 | ⟨g,cap,cur,h3,h4,h5,h6⟩⟩:=h
 ·exact ⟨h1,.inl h2⟩
 ·exact ⟨h1,.inr ⟨g,cap,cur,h3,h4,(hk g (by rw[h3];rfl)).trans h5,h6⟩⟩
theorem own_lt {A:World} {β sz n:Nat} {e:TypeId} {v:Value} {xs:List Value} (h:A.ownsRow β e sz v n xs) {k:Nat} (hk:v.ownBlock=some k):k<A.heap.size:=by
 obtain ⟨h1,h2 | ⟨g,cap,cur,h3,h4,h5,h6⟩⟩:=h
 ·rw[h2.1] at hk;simp[Value.ownBlock] at hk
 ·rw[h3] at hk;simp[Value.ownBlock] at hk;subst hk;exact lt_of_block h5
theorem own_sli {A:World} {β sz n:Nat} {e:TypeId} {v:Value} {xs:List Value} (h:A.ownsRow β e sz v n xs):∃ a cap,v = .slice a n cap:=by
 obtain ⟨h1,h2 | ⟨g,cap,cur,h3,h4,h5,h6⟩⟩:=h
 ·exact ⟨none,0,by rw[h2.1,h2.2]⟩
 ·exact ⟨_,cap,h3⟩
theorem own_nil {A:World} (β sz:Nat) (e:TypeId):A.ownsRow β e sz (.slice none 0 0) 0 []:=⟨by simp,.inl ⟨rfl,rfl⟩⟩
theorem keptS {w:World} {k b i:Nat} (h:k≠b) (v:Value):(w.setCell ⟨b,i,none⟩ v).heap[k]? = w.heap[k]? := Below.heap_setCell _ _ _ _ h
theorem grown_set (w:World) (p i:Nat) (v:Value):w.grownBy (w.setCell ⟨p,i,none⟩ v) (some p):=⟨rfl,rfl,rfl,by simp[World.setCell],fun k _ hk=>Below.heap_setCell _ _ _ _ (fun e=>hk (by rw[e]))⟩
theorem grown_trans {a b c:World} {r:Option Nat} (h:a.grownBy b r) (h':b.grownBy c r):a.grownBy c r :=
 ⟨h'.os.trans h.os,h'.tape.trans h.tape,h'.output.trans h.output,Nat.le_trans h.size h'.size,fun k hk hr=>(h'.block k (Nat.lt_of_lt_of_le hk h.size) hr).trans (h.block k hk hr)⟩
theorem grown_any {w w':World} {r:Option Nat} (h:Below w.heap.size w w'):w.grownBy w' r:=⟨h.os,h.tape,h.output,h.size,fun k hk _=>h.block k hk⟩
theorem Blk.grown {w w':World} {k:Nat} {cs:Array Value} {t:TypeId} {r:Option Nat} (h:Blk w k cs t) (hg:w.grownBy w' r) (hr:some k≠r):Blk w' k cs t:=(hg.block k h.lt hr).trans h
theorem own_grown {w w':World} {B p:Nat} {e:TypeId} {sz:Nat} {v:Value} {n:Nat} {xs:List Value} (h:w.ownsRow B e sz v n xs) (hg:w.grownBy w' (some p)) (hp:p<B):w'.ownsRow B e sz v n xs:=by
 obtain ⟨h1,h2 | ⟨g,cap,cur,h3,h4,h5,h6⟩⟩:=h
 ·exact ⟨h1,.inl h2⟩
 ·exact ⟨h1,.inr ⟨g,cap,cur,h3,h4,(hg.block g (lt_of_block h5) (fun e=>by simp at e;omega)).trans h5,h6⟩⟩
abbrev S (at' m c:Int):Value := .agg #[.int .i64 at',.int .i64 m,.int .i64 c]
def CellsS (w:World) (b off:Nat) (l:List Sg):Prop :=
 ∀ i,i<l.length→w.cell? ⟨b,off+i * 3,none⟩=some (.int .i64 (l.getD i (0,0,0)).1)∧w.cell? ⟨b,off+i * 3+1,none⟩=some (.int .i64 (l.getD i (0,0,0)).2.1)∧w.cell? ⟨b,off+i * 3+2,none⟩=some (.int .i64 (l.getD i (0,0,0)).2.2)
def ArgS (w:World) (a:Option Addr) (l:List Sg):Prop:=0<l.length→∃ b off,a=some ⟨b,off,none⟩∧b<w.heap.size∧CellsS w b off l
theorem CellsS.below {w w':World} {b off B:Nat} {l:List Sg} (h:CellsS w b off l) (hb:Below B w w') (hB:b<B):CellsS w' b off l:=fun i hi=>by
 obtain ⟨h1,h2,h3⟩:=h i hi
 exact ⟨(hb.cell (p:=⟨b,_,none⟩) hB).trans h1,(hb.cell (p:=⟨b,_,none⟩) hB).trans h2,(hb.cell (p:=⟨b,_,none⟩) hB).trans h3⟩
theorem ArgS.past {w w':World} {a:Option Addr} {l:List Sg} (h:ArgS w a l) (hb:Below w.heap.size w w'):ArgS w' a l:=fun hl=>by
 obtain ⟨b,off,e,h1,h2⟩:=h hl
 exact ⟨b,off,e,Nat.lt_of_lt_of_le h1 hb.size,h2.below hb h1⟩
theorem CellsS.get {w:World} {b off:Nat} {l:List Sg} (h:CellsS w b off l) {i:Nat} (hi:i<l.length):w.cell? ⟨b,off+i * 3,none⟩=some (.int .i64 (ats l i))∧w.cell? ⟨b,off+i * 3+1,none⟩=some (.int .i64 (vls l i).1)∧w.cell? ⟨b,off+i * 3+2,none⟩=some (.int .i64 (vls l i).2):=h i hi
theorem grown_alloc (w:World) (o:Obj) (r:Option Nat):w.grownBy (w.alloc o) r:=⟨rfl,rfl,rfl,by simp,fun k hk _=>Below.heap_alloc _ _ _ hk⟩
def endsL (l:List Sg):Int × Int × Bool:=if l.length=0 then (0,0,true) else (ats l 0,ats l (l.length - 1),vls l (l.length - 1) == (0,0))
theorem list_ext {l r:List Sg} (h:l.length=r.length) (h2:∀ i,i<l.length→ats l i=ats r i∧vls l i=vls r i):l=r:=by
 apply List.ext_getElem h
 intro i h3 h4
 obtain ⟨e1,e2⟩:=h2 i h3
 unfold ats at e1;unfold vls at e2
 rw[getD_get _ _ _ h3,getD_get _ _ _ h4] at e1 e2
 exact Prod.ext e1 e2
def sameB (l r:List Sg):Bool:=decide (l=r)
theorem same_t {l r:List Sg} (h:l.length=r.length) (h2:∀ i,i<l.length→ats l i=ats r i∧vls l i=vls r i):sameB l r=true:=decide_eq_true (list_ext h h2)
theorem same_f {l r:List Sg} {i:Nat} (h:ats l i≠ats r i∨vls l i≠vls r i):sameB l r=false:=decide_eq_false (fun e=>by subst e;simp at h)
theorem Tryz.infoSeg:(Tryz.prog.info? 100).map (fun i=>(i.zero,i.size,i.bytes))=some (some (.agg #[.int .i64 0,.int .i64 0,.int .i64 0]),3,24):=by kernel_rfl
def cellsOfS:List Sg→List Value
 | []=>[]
 | s :: r => .int .i64 s.1 :: .int .i64 s.2.1 :: .int .i64 s.2.2 :: cellsOfS r
theorem cellsOfS_len:∀ l,(cellsOfS l).length=l.length * 3
 | []=>rfl
 | s :: r=>by simp only[cellsOfS,List.length_cons,cellsOfS_len r];omega
theorem cellsOfS_app:∀ l r,cellsOfS (l++r)=cellsOfS l++cellsOfS r
 | [],_=>rfl
 | s :: l,r=>by simp only[cellsOfS,List.cons_append,cellsOfS_app l r]
theorem cellsOfS_get:∀ (l:List Sg) (i:Nat),i<l.length→(cellsOfS l)[i * 3]? = some (.int .i64 (ats l i))∧(cellsOfS l)[i * 3+1]? = some (.int .i64 (vls l i).1)∧(cellsOfS l)[i * 3+2]? = some (.int .i64 (vls l i).2)
 | [],i,h=>by simp at h
 | s :: l,0,_=>⟨rfl,rfl,rfl⟩
 | s :: l, i + 1, h => by
   obtain ⟨h1,h2,h3⟩:=cellsOfS_get l i (by simp at h;omega)
   have e:∀ j,(cellsOfS (s :: l))[(i+1) * 3+j]? = (cellsOfS l)[i * 3+j]? := fun j=>by
    simp only[cellsOfS]
    rw[show (i+1) * 3+j=i * 3+j+1+1+1 by omega]
    simp only[List.getElem?_cons_succ]
   exact ⟨(e 0).trans h1,(e 1).trans h2,(e 2).trans h3⟩
def SliS (w:World) (v:Value) (l:List Sg):Prop:=∃ (a:Option Addr) (cap:Nat),v = .slice a l.length cap∧l.length≤cap∧cap≤9223372036854775807∧ArgS w a l
theorem SliS.past {w w':World} {v:Value} {l:List Sg} (h:SliS w v l) (hb:Below w.heap.size w w'):SliS w' v l:=by
 obtain ⟨a,cap,h1,h2,h3,h4⟩:=h
 exact ⟨a,cap,h1,h2,h3,h4.past hb⟩
theorem sliS_nil (w:World):SliS w (.slice none 0 0) []:=⟨none,0,rfl,Nat.le_refl _,by omega,fun h=>by simp at h⟩
theorem sliS_own {w:World} {base:Nat} {e:TypeId} {v:Value} {l:List Sg} (h:w.ownsRow base e 3 v l.length (cellsOfS l)):SliS w v l:=by
 obtain ⟨h1,h2 | ⟨g,cap,cur,rfl,h3,h4,h5,h6,h7,h8⟩⟩:=h
 ·obtain ⟨rfl,h2⟩:=h2
  have:l=[]:=List.eq_nil_of_length_eq_zero h2
  subst this
  exact sliS_nil w
 ·refine ⟨some ⟨g,0,none⟩,cap,rfl,h5,by unfold maxLen at h6;omega,fun _=>⟨g,0,rfl,lt_of_block h4,fun i hi => ?_⟩⟩
  have hg:=cellsOfS_get l i hi
  have hc:∀ j x,j<l.length * 3→(cellsOfS l)[j]? = some x→w.cell? ⟨g,j,none⟩=some x:=fun j x hj hx=>by
   have e:w.cell? ⟨g,j,none⟩=cur[j]? := by simp[World.cell?,h4]
   rw[e,←Array.getElem?_toList]
   rw[←h8,List.getElem?_take,if_pos hj] at hx
   exact hx
  simp only[Nat.zero_add]
  exact ⟨hc _ _ (by omega) hg.1,hc _ _ (by omega) hg.2.1,hc _ _ (by omega) hg.2.2⟩
theorem new_cells (w:World) (cs:Array Value) (t:TypeId):∀ j u,cs.toList[j]? = some u→(w.alloc (.cells cs t)).cell? ((⟨w.heap.size,0,none⟩:Addr).add j)=some u:=by
 intro j u h
 have e:((⟨w.heap.size,0,none⟩:Addr).add j)=⟨w.heap.size,j,none⟩:=by
  unfold Addr.add
  by_cases c:j=0
  ·subst c;simp
  ·simp[c]
 rw[e,(Blk.made w cs t).cell j,←h,Array.getElem?_toList]
def OfPost (w:World) (l:List Sg) (e:Ending) (w':World):Prop :=
 ∃ (v:Value) (f:List Sg) (er:Int),e = .returned (.tuple #[v,.int .i64 er])∧SliS w' v f∧((l.all okS=true∧er=0∧IsOf l f)∨(l.all okS=false∧er=10∧f=[]))∧Below w.heap.size w w'
theorem drop_cons {l:List Sg} {k:Nat} (h:k<l.length):l.drop k=l.getD k (0,0,0) :: l.drop (k+1):=by
 rw[List.drop_eq_getElem_cons h,getD_get _ _ _ h]
theorem all_bad {l:List Sg} {k:Nat} (h:k<l.length) (hb:okS (l.getD k (0,0,0))=false):l.all okS=false:=by
 rw[getD_get _ _ _ h] at hb
 rw[List.all_eq_false]
 exact ⟨_,List.getElem_mem h,by rw[hb];exact Bool.false_ne_true⟩
theorem all_good {l:List Sg} (h:∀ k,k<l.length→okS (l.getD k (0,0,0))=true):l.all okS=true:=by
 rw[List.all_eq_true]
 intro x hx
 obtain ⟨i,hi,rfl⟩:=List.getElem_of_mem hx
 have:=h i hi
 rw[getD_get _ _ _ hi] at this;exact this
theorem argS_blk {w:World} {p:Nat} {l:List Sg} {t:TypeId} (h:Blk w p (cellsOfS l).toArray t):ArgS w (some ⟨p,0,none⟩) l:=fun _ =>
 ⟨p,0,rfl,h.lt,fun i hi=>by
  obtain ⟨h1,h2,h3⟩:=cellsOfS_get l i hi
  simp only[Nat.zero_add]
  have q:∀ j,w.cell? ⟨p,j,none⟩=(cellsOfS l)[j]? := fun j=>(h.cell j).trans (by simp)
  exact ⟨(q _).trans h1,(q _).trans h2,(q _).trans h3⟩⟩
def OfIs (w:World) (F:List Sg) (er:Int) (e:Ending) (w':World):Prop:=∃ v:Value,e = .returned (.tuple #[v,.int .i64 er])∧SliS w' v F∧Below w.heap.size w w'
end
section
open Go.ChangeShapes Go.WideShapes Go.ChangeAt Go.RowKit
section
variable {H:Type} {enc:TypeId × Value→H} {P:Program}
end
end
section
open Go.ChangeShapes Go.WideShapes Go.ChangeAt Go.RowKit
attribute [local irreducible] Go.Calls
theorem sliS_new {w:World} {p n:Nat} {cs:Array Value} {l:List Sg} {t:TypeId} (h:Blk w p cs t) (hc:cs=(cellsOfS l).toArray) (hn:n=l.length) (h2:n≤1000000):SliS w (.slice (some ⟨p,0,none⟩) n n) l:=by
 subst hc;subst hn
 exact ⟨some ⟨p,0,none⟩,l.length,rfl,Nat.le_refl _,by omega,argS_blk h⟩
theorem SliS.len {w:World} {a:Option Addr} {n cap:Nat} {l:List Sg} (h:SliS w (.slice a n cap) l):n=l.length∧l.length≤cap∧cap≤9223372036854775807∧ArgS w a l:=by
 obtain ⟨a',c',e,h1,h2,h3⟩:=h
 cases e
 exact ⟨rfl,h1,h2,h3⟩
end
section
open Go.ChangeShapes Go.WideShapes Go.ChangeAt Go.RowKit
section
variable {H:Type} {enc:TypeId × Value→H} {P:Program}
end
end
section
open Go.ChangeShapes Go.WideShapes Go.RowKit
theorem wrapN {n:Nat} (h:n≤9223372036854775807):IntKind.i64.wrap (n:Int)=n:=by
 rw[IntKind.wrap_i64];omega
theorem run_append_nil_zeros {P:Program} (w:World) (t u ty e:TypeId) (i:TypeInfo) (z:Value) (k:IntKind) (ht:P.underlying t=some (.slice e)) (hu:P.underlying u=some (.int k)) (hi:P.info? e=some i) (hz:i.zero=some z)
  (n:Nat) (h0:0<n) (hs:0<i.size) (h63:n≤9223372036854775807) (h48:n * i.bytes≤281474976710656) :
  (Builtin.append_ #[t,u] ty #[.slice none 0 0,.int .i64 n]).run P w =
   .ok (.slice (some ⟨w.heap.size,0,none⟩) n (grownCap w n 0 e)) (w.drew.alloc (.cells (Builtin.zeroCells z.cells n++Builtin.zeroCells z.cells (grownCap w n 0 e - n)) e)):=by
 have hn:n≠0:=by omega
 have h63':¬ (9223372036854775807<(n:Int)):=by omega
 have h48':¬ (281474976710656<Builtin.nextslicecap n 0 * i.bytes):=by rw[nextslicecap_zero h0];omega
 have h48'':¬ (281474976710656<(n:Int) * (i.bytes:Int)):=by
  rw[←Int.natCast_mul];omega
 have hsn:n * i.size≠0:=Nat.mul_ne_zero hn (by omega)
 have hneg:¬ ((n:Int)<0):=by omega
 simp[Builtin.append_,run_underlying ht,run_underlying hu,sizeOf,typeInfo,zeroValue,hi,hz,Builtin.lenOf,asInt,asIntOf,wrapN h63,hn,h63',h48',h48'',hsn,hneg,Question.forced,run_firstCells_none,newRow,grownCap]
theorem list_appZ {P:Program} {ops:Array Oper} {rest:List Oper} {o:Oper} {a:Act} {w:World} {Q:Exit→Act→World→Prop} (hgd:o.guard=none) (s x:Operand) (t u:TypeId)
  (ho:o.op = .call { callee := .builtin .append,args:=#[s,x],argTypes:=#[t,u] })
  (base:Nat) (e:TypeId) (i:TypeInfo) (z:Value) (k:IntKind) (sz by':Nat) (ht:P.underlying t=some (.slice e)) (hu:P.underlying u=some (.int k)) (hi:P.info? e=some i) (hz:i.zero=some z) (hsize:i.size=sz) (hby:i.bytes=by') (hzs:z.cells.size=sz) (hs0:0<sz)
  (n:Nat) (hs:a.eval s = .slice none 0 0) (hx:a.eval x = .int .i64 n) (h0:0<n) (h63:n≤100000000000) (hb':by'≤1000) (hbase:base≤w.heap.size)
  (h:∀ b cap w',w'.ownsRow base e sz (.slice (some ⟨b,0,none⟩) 0 cap) 0 []→n≤cap→Below w.heap.size w w'→wpList P ops Q rest (a.put o.dst (.slice (some ⟨b,0,none⟩) n cap)) w'):wpList P ops Q (o :: rest) a w:=by
 refine wpList_plain hgd fun K' hK' => ?_
 subst hsize hby
 have hbb:n * i.bytes≤n * 1000:=Nat.mul_le_mul_left _ hb'
 have hr:=run_append_nil_zeros (P:=P) w t u o.type e i z k ht hu hi hz n h0 hs0 (by omega) (by omega)
 have hge:=grownCap_ge w n 0 e
 have hcm:grownCap w n 0 e≤maxLen:=grownCap_le_maxLen w n 0 e (by unfold maxLen;omega)
 unfold Oper.wp execOp
 simp only[ho,resolve,invoke,builtin,Sem.run_bind,Sem.run_pure,Result.andThen_ok,List.map_toArray,List.map_cons,List.map_nil,hs,hx,hr]
 refine hK' _ _ (h w.heap.size _ _ ?_ hge ?_)
 ·have:=World.ownsRow_made (base:=base) (size:=i.size) (e:=e) w.drew (Builtin.zeroCells z.cells n++Builtin.zeroCells z.cells (grownCap w n 0 e - n)) (grownCap w n 0 e) hbase hcm (by
   rw[Array.size_append,size_zeroCells,size_zeroCells,hzs,←Nat.add_mul]
   congr 1
   omega)
  exact this
 ·exact Below.grown (Below.refl _ _) (show w.grownBy (w.drew.alloc _) none from ⟨rfl,rfl,rfl,by simp,fun k hk _=>Below.heap_alloc w.drew _ k hk⟩) (Nat.le_refl _) (fun k e=>by cases e)
end
end Go.Proofs.YtcmponckjkalaaaGreat
