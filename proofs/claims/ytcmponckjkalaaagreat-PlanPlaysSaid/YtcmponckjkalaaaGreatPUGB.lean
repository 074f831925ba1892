/- Appends to a row of the call's own, of a slice whose cells are known, elements of any size. No function of the program. No conditions. Reservations, by values: which may be, in which order they stand. No program. No conditions. The contracts of calc.next and calc.pass. No conditions but that the slices' cells read as integers. A range over a function: an iterator that keeps .. -/
import Derived.Test.YtcmponckjkalaaaGreatPUGA
import Derived.Test.YtcmponckjkalaaaGreatRows
import Derived.LoopTactic
import Derived.Deep.LoopGhost
import Derived.WalkMore
import Derived.ScopeJumps
import Derived.Deep.DeepCutAuto
import Derived.Outline
import Derived.BigRegion
import Derived.Laws.AppendOwn
import Derived.Laws.OwnMore
import Derived.Laws.IdiomStrings
import Derived.Test.YtcmponckjkalaaaGreatPUMA
import Derived.Test.YtcmponckjkalaaaGreatPUMB
import Derived.RangeFuncRecord
import Derived.RangeFuncSeq
import Derived.OwnWalkIn
namespace Go.Proofs.YtcmponckjkalaaaGreat
section
open Go.ChangeShapes Go.WideShapes Go.ChangeAt Go.RowKit
def SrcV (w:World) (sz:Nat) (v:Value) (n:Nat) (ys:List Value):Prop :=
 ∃ (a:Option Addr) (cap:Nat),v = .slice a n cap∧(a=none→n=0∧cap=0)∧ys.length=n * sz∧(∀ u∈ys,u.oneCell'=true)∧∀ ad,a=some ad→∀ j u,ys[j]? = some u→w.cell? (ad.add j)=some u
theorem srcV_nil (w:World) (sz:Nat):SrcV w sz (.slice none 0 0) 0 []:=⟨none,0,rfl,fun _=>⟨rfl,rfl⟩,by simp,(fun u h=>by cases h),(fun ad h=>by cases h)⟩
theorem srcV_new {w:World} {p sz n cap:Nat} {ys:List Value} {t:TypeId} (h:Blk w p ys.toArray t) (hl:ys.length=n * sz) (h1:∀ u∈ys,u.oneCell'=true):SrcV w sz (.slice (some ⟨p,0,none⟩) n cap) n ys:=by
 refine ⟨_,cap,rfl,fun h=>by simp at h,hl,h1, ?_⟩
 rintro ad ⟨⟩ j u hu
 have e:((⟨p,0,none⟩:Addr).add j)=⟨p,j,none⟩:=by
  unfold Addr.add
  by_cases c:j=0
  ·subst c;simp
  ·simp[c]
 rw[e,h.cell j,←hu]
 simp
theorem wp_appV {P:Program} {o:Oper} {a:Act} {w:World} {K:Act→World→Prop} {Q:Exit→Act→World→Prop}
  (s x:Operand) (t:TypeId) (hop:o.op=Op.call { callee:=Callee.builtin Builtin.append,args:=#[s,x],argTypes:=#[t,t] })
  (base:Nat) (e:TypeId) (i:TypeInfo) (z:Value) (sz by':Nat) (ht:P.underlying t=some (.slice e)) (hi:P.info? e=some i) (hz:i.zero=some z) (hsize:i.size=sz) (hby:i.bytes=by') (hzs:z.cells.size=sz) (hs0:0<sz)
  (v:Value) (n:Nat) (xs:List Value) (hs:a.eval s=v) (hown:w.ownsRow base e sz v n xs)
  (vx:Value) (m:Nat) (ys:List Value) (hx:a.eval x=vx) (hsrc:SrcV w sz vx m ys)
  (h63:n+m≤1099511627776) (hb':by'≤100) (hbase:base≤w.heap.size)
  (h:∀ v' w',w'.ownsRow base e sz v' (n+m) (xs++ys)→w.grownBy w' v.ownBlock→K (a.put o.dst v') w'):Oper.wp P o a w K Q:=by
 obtain ⟨ad,cap,rfl,hn,hl,h1,hc⟩:=hsrc
 cases ad with
 | none =>
  obtain ⟨rfl,rfl⟩:=hn rfl
  have hy:ys=[]:=List.eq_nil_of_length_eq_zero (by omega)
  subst hy
  have hrun:=run_append_owned_none (P:=P) (w:=w) base t o.type e i sz ht hi v n xs hown
  have hK:=h v w (by simpa using hown) ⟨rfl,rfl,rfl,Nat.le_refl _,fun _ _ _=>rfl⟩
  unfold Oper.wp
  simp[execOp,hop,resolve,invoke,builtin,hs,hx,hrun,Result.andThen]
  exact hK
 | some ad =>
  have hbb:(n+m) * by'≤(n+m) * 100:=Nat.mul_le_mul_left _ hb'
  exact wp_append_own w s x t hop base e i z sz by' ht hi hz hsize hby hzs hs0 v n xs hs hown ad m cap ys hx hl (hc ad rfl) h1 (by unfold maxLen;omega) (by omega) hbase fun v' w' h1 h2 _=>h v' w' h1 h2
theorem list_appV {P:Program} {ops:Array Oper} {rest:List Oper} {o:Oper} {a:Act} {w:World} {Q:Exit→Act→World→Prop} (hgd:o.guard=none) (s x:Operand) (t:TypeId)
  (ho:o.op = .call { callee := .builtin .append,args:=#[s,x],argTypes:=#[t,t] })
  (base:Nat) (e:TypeId) (i:TypeInfo) (z:Value) (sz by':Nat) (ht:P.underlying t=some (.slice e)) (hi:P.info? e=some i) (hz:i.zero=some z) (hsize:i.size=sz) (hby:i.bytes=by') (hzs:z.cells.size=sz) (hs0:0<sz)
  (v:Value) (n:Nat) (xs:List Value) (hs:a.eval s=v) (hown:w.ownsRow base e sz v n xs)
  (vx:Value) (m:Nat) (ys:List Value) (hx:a.eval x=vx) (hsrc:SrcV w sz vx m ys)
  (h63:n+m≤1099511627776) (hb':by'≤100) (hbase:base≤w.heap.size)
  (h:∀ v' w',w'.ownsRow base e sz v' (n+m) (xs++ys)→w.grownBy w' v.ownBlock→wpList P ops Q rest (a.put o.dst v') w'):wpList P ops Q (o :: rest) a w :=
 wpList_plain hgd fun _ hK=>wp_appV s x t ho base e i z sz by' ht hi hz hsize hby hzs hs0 v n xs hs hown vx m ys hx hsrc h63 hb' hbase fun v' w' h2 h3=>hK _ _ (h v' w' h2 h3)
end
section
def nonneg (s:Sg):Bool:=decide (0≤s.2.1) && decide (0≤s.2.2)
def posB (F:List Sg):Bool:=mayB F && F.all nonneg
def chrB (b:UInt8):Bool:=(decide (97≤b.toNat) && decide (b.toNat≤122)) || (decide (48≤b.toNat) && decide (b.toNat≤57))
def nameB (u:List UInt8):Bool:=decide (1≤u.length∧u.length≤16) && u.all chrB
def mayR (id:Int) (u:List UInt8) (A:List Sg):Bool:=decide (id≠0) && nameB u && decide (A.length≤1024) && posB A && (endsL A).2.2 && decide (0≤(endsL A).1) && decide ((endsL A).2.1≤1099511627776)
theorem nonneg_not {s:Sg}:nonneg s=false↔s.2.1<0∨s.2.2<0:=by
 unfold nonneg
 rw[Bool.and_eq_false_iff,decide_eq_false_iff_not,decide_eq_false_iff_not]
 omega
theorem below_none {F:List Sg} (h:∀ i,i<F.length→nonneg (F.getD i (0,0,0))=true):F.all nonneg=true:=by
 rw[List.all_eq_true]
 intro x hx
 obtain ⟨i,hi,rfl⟩:=List.getElem_of_mem hx
 have:=h i hi
 rw[getD_get _ _ _ hi] at this;exact this
theorem below_some {F:List Sg} {i:Nat} (hi:i<F.length) (h:nonneg (F.getD i (0,0,0))=false):F.all nonneg=false:=by
 rw[getD_get _ _ _ hi] at h
 rw[List.all_eq_false]
 exact ⟨_,List.getElem_mem hi,by rw[h];decide⟩
end
section
open Go.ChangeShapes Go.WideShapes Go.ChangeAt Go.RowKit
attribute [local irreducible] Go.Calls
set_option maxRecDepth 100000 in
theorem next_c (f g:List Sg) (a a':Option Addr) (cap cap':Nat) (w:World) (hl:f.length≤1000000000) (hl':g.length≤1000000000) (hne:¬ (f.length=0∧g.length=0)) (hA:ArgS w a f) (hA':ArgS w a' g) :
  Calls Tryz.prog 187 #[.slice a f.length cap,.slice a' g.length cap'] w fun e w'=>e = .returned (.int .i64 (nextT f g))∧Below w.heap.size w w':=by
 by_cases hg:g.length=0
 ·have hf:0<f.length:=by omega
  have HE:=hidE (show nextT f g=ats f 0 by unfold nextT;rw[if_pos (.inl hg)])
  obtain ⟨b,off,rfl,hb,hc⟩:=hA hf
  obtain ⟨c0,_,_⟩:=hc.get (i:=0) hf
  simp at c0
  have dg:((g.length:Int) == 0)=true:=beq_iff_eq.2 (by omega)
  clear hA hA' hc hne hg
  rw[HE.out]
  generalize ats f 0=u at *
  generalize f.length=k at *
  generalize g.length=k' at *
  go_enter Tryz.func187,Tryz.ntmps187
  go_wp2
  go_quiet (fail)
  go_wp2
  go_ret
  exact ⟨rfl,by (repeat (first | exact Below.refl _ _ | assumption | refine balloc ?_ _ | refine below_drewN ?_ _ | refine bstep (by assumption) ?_ | refine bstep (Past.prop _) ?_ | refine Below.setCell ?_ (by first | exact Nat.le_refl _ | (simp;done) | (simp;omega)) _))⟩
 ·have hg0:0<g.length:=by omega
  obtain ⟨b',off',rfl,hb',hc'⟩:=hA' hg0
  obtain ⟨d0,_,_⟩:=hc'.get (i:=0) hg0
  simp at d0
  have dg:((g.length:Int) == 0)=false:=beq_eq_false_iff_ne.2 (by omega)
  by_cases hf:f.length=0
  ·have HE:=hidE (show nextT f g=ats g 0 by unfold nextT;rw[if_neg (by omega)])
   have df:decide (0<f.length)=false:=decide_eq_false (by omega)
   clear hA hA' hc' hne hg hf
   rw[HE.out]
   generalize ats g 0=u at *
   generalize g.length=k at *
   generalize f.length=k' at *
   go_enter Tryz.func187,Tryz.ntmps187
   go_wp2
   go_quiet (fail)
   go_wp2
   go_ret
   exact ⟨rfl,by (repeat (first | exact Below.refl _ _ | assumption | refine balloc ?_ _ | refine below_drewN ?_ _ | refine bstep (by assumption) ?_ | refine bstep (Past.prop _) ?_ | refine Below.setCell ?_ (by first | exact Nat.le_refl _ | (simp;done) | (simp;omega)) _))⟩
  ·have hf0:0<f.length:=by omega
   obtain ⟨b,off,rfl,hb,hc⟩:=hA hf0
   obtain ⟨c0,_,_⟩:=hc.get (i:=0) hf0
   simp at c0
   have df:decide (0<f.length)=true:=decide_eq_true hf0
   by_cases hlt:ats f 0<ats g 0
   ·have HE:=hidE (show nextT f g=ats f 0 by unfold nextT;rw[if_pos (.inr ⟨hf0,hlt⟩)])
    have dl:decide (ats f 0<ats g 0)=true:=decide_eq_true hlt
    clear hA hA' hc hc' hne hg hf hlt
    rw[HE.out]
    generalize ats g 0=u at *
    generalize ats f 0=u' at *
    generalize g.length=k at *
    generalize f.length=k' at *
    go_enter Tryz.func187,Tryz.ntmps187
    go_wp2
    go_quiet (fail)
    go_wp2
    go_ret
    exact ⟨rfl,by (repeat (first | exact Below.refl _ _ | assumption | refine balloc ?_ _ | refine below_drewN ?_ _ | refine bstep (by assumption) ?_ | refine bstep (Past.prop _) ?_ | refine Below.setCell ?_ (by first | exact Nat.le_refl _ | (simp;done) | (simp;omega)) _))⟩
   ·have HE:=hidE (show nextT f g=ats g 0 by unfold nextT;rw[if_neg (by omega)])
    have dl:decide (ats f 0<ats g 0)=false:=decide_eq_false hlt
    clear hA hA' hc hc' hne hg hf hlt
    rw[HE.out]
    generalize ats g 0=u at *
    generalize ats f 0=u' at *
    generalize g.length=k at *
    generalize f.length=k' at *
    go_enter Tryz.func187,Tryz.ntmps187
    go_wp2
    go_quiet (fail)
    go_wp2
    go_ret
    exact ⟨rfl,by (repeat (first | exact Below.refl _ _ | assumption | refine balloc ?_ _ | refine below_drewN ?_ _ | refine bstep (by assumption) ?_ | refine bstep (Past.prop _) ?_ | refine Below.setCell ?_ (by first | exact Nat.le_refl _ | (simp;done) | (simp;omega)) _))⟩
def SliAll (a:Option Addr) (f:List Sg) (v:Value) (r:List Sg):Prop :=
 ∃ (a2:Option Addr) (cap2:Nat),v = .slice a2 r.length cap2∧r.length≤cap2∧cap2≤9223372036854775807∧∀ w0,ArgS w0 a f→ArgS w0 a2 r
theorem sliAll_refl (a:Option Addr) (f:List Sg) (cap:Nat) (h:f.length≤cap) (h2:cap≤9223372036854775807):SliAll a f (.slice a f.length cap) f:=⟨a,cap,rfl,h,h2,fun _ h=>h⟩
theorem argS_tail {b off:Nat} {f:List Sg} (w0:World) (h:ArgS w0 (some ⟨b,off,none⟩) f):ArgS w0 (some ⟨b,off+3,none⟩) (f.drop 1):=fun hl=>by
 rw[List.length_drop] at hl
 obtain ⟨b',off',e,hb,hc⟩:=h (by omega)
 cases e
 refine ⟨b,off+3,rfl,hb,fun i hi => ?_⟩
 rw[List.length_drop] at hi
 obtain ⟨h1,h2,h3⟩:=hc (i+1) (by omega)
 have e:(f.drop 1).getD i (0,0,0)=f.getD (i+1) (0,0,0):=by simp[List.getD_eq_getElem?_getD]
 rw[e,show off+3+i * 3=off+(i+1) * 3 by omega]
 exact ⟨h1,h2,h3⟩
set_option maxRecDepth 100000 in
theorem pass_c (f:List Sg) (t x y:Int) (a:Option Addr) (cap:Nat) (w:World) (hl:f.length≤cap) (hl':cap≤9223372036854775807) (hA:ArgS w a f) :
  Calls Tryz.prog 188 #[.slice a f.length cap,.int .i64 t,V x y] w fun e w'=>(∃ sv,e = .returned (.tuple #[V (passV f t (x,y)).1 (passV f t (x,y)).2,sv])∧SliAll a f sv (passF f t))∧Below w.heap.size w w':=by
 by_cases hf:f.length=0
 ·have HE:=hidE (show passV f t (x,y)=(x,y) by unfold passV hit;rw[if_neg (by rw[hf];simp)])
  have HF:=hidE (show passF f t=f by unfold passF hit;rw[if_neg (by rw[hf];simp)])
  have HS:=hidE (sliAll_refl a f cap hl hl')
  have df:decide (0<f.length)=false:=decide_eq_false (by omega)
  clear hA hf hl hl'
  rw[HE.out,HF.out]
  generalize f.length=k at *
  go_enter Tryz.func188,Tryz.ntmps188
  go_wp2
  refine bodyPost_ret (v := .tuple #[V x y,.slice a k cap]) (by simp[results,Tryz.results188,go_sem, *]) rfl ⟨⟨_,rfl,HS.out⟩, ?_⟩
  (repeat (first | exact Below.refl _ _ | assumption | refine balloc ?_ _ | refine below_drewN ?_ _ | refine bstep (by assumption) ?_ | refine bstep (Past.prop _) ?_ | refine Below.setCell ?_ (by first | exact Nat.le_refl _ | (simp;done) | (simp;omega)) _))
 ·have hf0:0<f.length:=by omega
  obtain ⟨b,off,rfl,hb,hc⟩:=hA hf0
  obtain ⟨c0,c1,c2⟩:=hc.get (i:=0) hf0
  simp at c0 c1 c2
  have df:decide (0<f.length)=true:=decide_eq_true hf0
  by_cases ht:ats f 0=t
  ·have HE:=hidE (show passV f t (x,y)=vls f 0 by unfold passV hit;rw[if_pos (by simp[hf0,ht])])
   have HF:=hidE (show passF f t=f.drop 1 by unfold passF hit;rw[if_pos (by simp[hf0,ht])])
   have HS:=hidE (argS_tail (b:=b) (off:=off) (f:=f))
   have dt:(ats f 0 == t)=true:=beq_iff_eq.2 ht
   have HL:=hidE (show (f.drop 1).length=f.length - 1 by rw[List.length_drop])
   clear hA hc hf ht
   rw[HE.out,HF.out]
   generalize f.drop 1=r at *
   generalize ats f 0=u at *
   generalize vls f 0=v at *
   go_enter Tryz.func188,Tryz.ntmps188
   go_upto_region 2 with fail
   go_region
   have hB:Below w.heap.size w ((w.alloc (Obj.cells #[Value.int IntKind.i64 x,Value.int IntKind.i64 y] 60)).alloc (Obj.cells #[Value.int IntKind.i64 v.fst,Value.int IntKind.i64 v.snd] 60)).drew :=
    Below.trans (b:=(w.alloc (Obj.cells #[Value.int IntKind.i64 x,Value.int IntKind.i64 y] 60)).alloc (Obj.cells #[Value.int IntKind.i64 v.fst,Value.int IntKind.i64 v.snd] 60)) (by (repeat (first | exact Below.refl _ _ | assumption | refine balloc ?_ _ | refine below_drewN ?_ _ | refine bstep (by assumption) ?_ | refine bstep (Past.prop _) ?_ | refine Below.setCell ?_ (by first | exact Nat.le_refl _ | (simp;done) | (simp;omega)) _))) (Below.refl _ _).drew
   have HB:=hidE hB
   clear hB
   go_wp2
   ·refine bodyPost_ret (v := .tuple #[V v.1 v.2,.slice (if cap=1 then some ⟨b,off,none⟩ else some ⟨b,off+3,none⟩) (f.length - 1) (cap - 1)]) (by simp[results,Tryz.results188,go_sem, *]) rfl ⟨⟨_,rfl,_,_,by rw[HL.out],by rw[HL.out];omega,by omega,fun w0 h0 hl0 => ?_⟩,HB.out⟩
    rw[HL.out] at hl0
    omega
   ·refine bodyPost_ret (v := .tuple #[V v.1 v.2,.slice (if cap=1 then some ⟨b,off,none⟩ else some ⟨b,off+3,none⟩) (f.length - 1) (cap - 1)]) (by simp[results,Tryz.results188,go_sem, *]) rfl ⟨⟨_,rfl,_,_,by rw[HL.out],by rw[HL.out];omega,by omega,fun w0 h0 => ?_⟩,HB.out⟩
    rw[if_neg (by assumption)]
    exact HS.out w0 h0
  ·have HE:=hidE (show passV f t (x,y)=(x,y) by unfold passV hit;rw[if_neg (by simp[ht])])
   have HF:=hidE (show passF f t=f by unfold passF hit;rw[if_neg (by simp[ht])])
   have HS:=hidE (sliAll_refl (some ⟨b,off,none⟩) f cap hl hl')
   have dt:(ats f 0 == t)=false:=beq_eq_false_iff_ne.2 ht
   clear hA hc hf hl hl' ht c1 c2
   rw[HE.out,HF.out]
   generalize ats f 0=u at *
   generalize f.length=k at *
   go_enter Tryz.func188,Tryz.ntmps188
   go_wp2
   refine bodyPost_ret (v := .tuple #[V x y,.slice (some ⟨b,off,none⟩) k cap]) (by simp[results,Tryz.results188,go_sem, *]) rfl ⟨⟨_,rfl,HS.out⟩, ?_⟩
   (repeat (first | exact Below.refl _ _ | assumption | refine balloc ?_ _ | refine below_drewN ?_ _ | refine bstep (by assumption) ?_ | refine bstep (Past.prop _) ?_ | refine Below.setCell ?_ (by first | exact Nat.le_refl _ | (simp;done) | (simp;omega)) _))
end
section
open Go.RowKit
structure Outside (n₀ n₁:Nat) (W W':World):Prop where
 below:Below n₀ W W'
 beyond:∀ k,n₁≤k→k<W.heap.size→W'.heap[k]? = W.heap[k]?
theorem Outside.trans {n₀ n₁:Nat} {A B C:World} (h:Outside n₀ n₁ A B) (k:Outside n₀ n₁ B C):Outside n₀ n₁ A C :=
 ⟨h.below.trans k.below,fun i hi hl=>(k.beyond i hi (Nat.lt_of_lt_of_le hl h.below.size)).trans (h.beyond i hi hl)⟩
theorem Outside.of_below {n₀ n₁:Nat} {A B:World} (h:Below A.heap.size A B) (hn:n₀≤A.heap.size):Outside n₀ n₁ A B:=⟨h.mono hn,fun k _ hl=>h.block k hl⟩
theorem Outside.weak {n₀ n₁ n₁':Nat} {A B:World} (h:Outside n₀ n₁ A B) (hn:n₁≤n₁'):Outside n₀ n₁' A B:=⟨h.below,fun k hk hl=>h.beyond k (by omega) hl⟩
theorem Outside.of_grown {n₀ n₁ p:Nat} {A B:World} (h:A.grownBy B (some p)) (h0:n₀≤p) (h1:p<n₁) (h2:n₀≤A.heap.size):Outside n₀ n₁ A B :=
 ⟨⟨h.os,h.tape,h.output,h.size,fun k hk=>h.block k (by omega) (fun e=>by cases e;omega)⟩,fun k hk hl=>h.block k hl (fun e=>by cases e;omega)⟩
def SeqT {α:Type} (P:Program) (gf:Nat) (rb lb:Array Value) (encs:α→Array Value) (n₀:Nat) (S:List α) (w:World):Prop :=
 ∀ (l : Nat) (J Jx : List α → World → Prop) (W : World), Below w.heap.size w W →
   (∀ s A B,J s A→Below W.heap.size A B→J s B)→(∀ s A B,Jx s A→Below W.heap.size A B→Jx s B) →
   (∀ pre x W1,J pre W1→pre++[x] <+: S→YieldAt Fence.wide 0 P l (encs x) W1 fun e W' =>
    (e = .returned (.bool true)∧J (pre++[x]) W'∧Outside n₀ W.heap.size W1 W')∨(e = .returned (.bool false)∧Jx (pre++[x]) W')) →
   J [] W →
   Calls P gf (rb++#[.func (.yield l) #[] #[]]++lb) W fun e W'=>(∃ v,e = .returned v)∧(J S W'∨∃ pre,pre <+: S∧Jx pre W')
def postT {α:Type} (n₀ n₁:Nat) (I:List α→World→Prop) (Ix:Code→List α→World→Prop) (xs:List α) (W:World):Exit→Act→World→Prop
 | .normal,_,W'=>Outside n₀ n₁ W W'∧I xs W'
 | .ret,_,W'=>Outside n₀ n₁ W W'∧Ix .ret xs W'
 | .exit id,_,W'=>Outside n₀ n₁ W W'∧Ix (.exit id) xs W'
 | .goto t,_,W'=>Outside n₀ n₁ W W'∧Ix (.goto t) xs W'
 | .panic _,_,_=>False
 | .outgrown,_,_=>False
theorem below_putObj {B:Nat} (W:World) (l:Nat) (o:Obj) (h:B≤l):Below B W (W.putObj l o) :=
 ⟨rfl,rfl,rfl,by simp,fun k hk=>World.putObj_heap_other (by omega)⟩
theorem grown_putObj (W:World) (l:Nat) (o:Obj):W.grownBy (W.putObj l o) (some l) :=
 ⟨rfl,rfl,rfl,by simp,fun k _ hk=>World.putObj_heap_other (fun e=>hk (by rw[e]))⟩
theorem wp_rangeFunc_T {α:Type} {P:Program} {g:Operand} {ps:Array Tmp} {assign body:Code} {Q:Exit→Act→World→Prop} {a:Act} {w:World}
  {gf:Nat} {rb lb:Array Value} (hg:a.eval g = .func (.func gf) rb lb) (eg:∀ args w,(callFunc gf args).run P w = .ok (.enter gf args) w)
  {encs:α→Array Value} {n₀:Nat} (hn₀:n₀≤w.heap.size) {S:List α} (hseq:SeqT P gf rb lb encs n₀ S w) (hps:∀ x,(encs x).size=ps.size)
  (I:List α→World→Prop) (Ix:Code→List α→World→Prop) (hI:∀ s A B,I s A→Below w.heap.size A B→I s B) (hIx:∀ c s A B,Ix c s A→Below w.heap.size A B→Ix c s B) (h0:I [] w)
  (Ax:α→Act→World→Prop) (hAx:∀ x a' A l r o,Ax x a' A→A.heap[l]? = some (.loop r)→Ax x a' (A.putObj l o))
  (hassign:∀ (l:Nat) (pre:List α) (x:α) (W:World) (K:Act→World→Prop),w.heap.size≤W.heap.size→I pre W→(∀ a' W',Outside n₀ w.heap.size W W'→I pre W'→Ax x a' W'→K a' W') →
   assign.wpIn (Fence.wide.inRound l) 0 P (Exit.then K (fun _ _ _=>False)) { tmps:=(ps.zip (encs x)).foldl (fun t (p,v)=>t.setIfInBounds p v) a.tmps,defers:=[] } W)
  (hbody:∀ (l:Nat) (pre:List α) (x:α) (a':Act) (W:World),w.heap.size≤W.heap.size→I pre W→Ax x a' W→pre++[x] <+: S→body.wpIn (Fence.wide.inRound l) 0 P (postT n₀ w.heap.size I Ix (pre++[x]) W) a' W)
  (hdone:∀ (D:Nat) (W:World),w.heap.size≤D→I S W→W.heap[D]? = some (.deferred (some []))→Q .normal { a with defers:={ target := .collected D,args:=#[] } :: a.defers } W)
  (hstop:∀ (D:Nat) (c:Code) (pre:List α) (W:World),w.heap.size≤D→pre <+: S→Ix c pre W→W.heap[D]? = some (.deferred (some []))→c.wp P Q { a with defers:={ target := .collected D,args:=#[] } :: a.defers } W) :
  (Code.rangeFunc g ps assign body).wp P Q a w:=by
 refine (wpIn_wide (n:=0)).1 (wpIn_rangeFunc ?_)
 intro fn hfn
 obtain ⟨rec,hrec⟩:∃ rec:LoopState→Option Code→Loop,rec=fun st pe=>{ state:=st,pending:=pe,fn,tmps:=a.tmps,params:=ps,assign,body,defers:=w.heap.size }:=⟨_,rfl⟩
 obtain ⟨W1,hW1⟩:∃ W1,(w.alloc (.deferred (some []))).alloc (.loop (rec .ready none))=W1:=⟨_,rfl⟩
 have hL1:W1.heap[w.heap.size+1]? = some (.loop (rec .ready none)):=by
  rw[←hW1];have:=World.alloc_heap_new (w.alloc (.deferred (some []))) (.loop (rec .ready none));rwa [World.size_alloc] at this
 have hK1:W1.heap[w.heap.size]? = some (.deferred (some [])):=by
  rw[←hW1];exact (Below.heap_alloc _ _ _ (by simp)).trans (World.alloc_heap_new w _)
 have hb1:Below w.heap.size w W1:=by
  rw[←hW1];exact ((Below.refl _ w).alloc (Nat.le_refl _) _).alloc (by simp) _
 have hs1:W1.heap.size=w.heap.size+2:=by rw[←hW1];simp
 have hI1:I [] W1:=hI _ _ _ h0 hb1
 refine ⟨w.heap.size+1,[{ target := .collected w.heap.size,args:=#[] }],W1,{ target := .fn (.func gf) lb,args:=rb++#[.func (.yield (w.heap.size+1)) #[] #[]] },W1,gf,
  rb++#[.func (.yield (w.heap.size+1)) #[] #[]]++lb,W1, ?_, ?_, ?_, ?_,fun h=>by simp[Fence.wide] at h, ?_⟩
 ·rw[←hW1,hrec];exact run_enterLoop_outer _ _ _ _ _
 ·simp only[resolve,hg]
  simp[go_sem,Deferred.ofValue]
 ·intro f' hf';trivial
 ·simp[invoke,go_sem,eg]
 ·refine callsIn_wide.2 ?_
  refine (hseq (w.heap.size+1)
   (fun pre W=>I pre W∧W.heap[w.heap.size+1]? = some (.loop (rec .ready none))∧W.heap[w.heap.size]? = some (.deferred (some []))∧w.heap.size≤W.heap.size)
   (fun pre W=>∃ c,Ix c pre W∧W.heap[w.heap.size+1]? = some (.loop (rec .done (some c)))∧W.heap[w.heap.size]? = some (.deferred (some [])))
   W1 hb1
   (fun s A B hs hg'=>⟨hI s A B hs.1 (hg'.mono (by omega)),(hg'.block _ (by omega)).trans hs.2.1,(hg'.block _ (by omega)).trans hs.2.2.1,Nat.le_trans hs.2.2.2 hg'.size⟩)
   (fun s A B hs hg'=>by
    obtain ⟨c,hc,hl,hk⟩:=hs
    exact ⟨c,hIx c s A B hc (hg'.mono (by omega)),(hg'.block _ (by omega)).trans hl,(hg'.block _ (by omega)).trans hk⟩)
   ?_ ⟨hI1,hL1,hK1,hb1.size⟩).mono ?_
  ·-- one round
   rintro pre x W ⟨hi,hl,hk,hsz⟩ hpre
   have hlt:w.heap.size+1<W.heap.size:=(Array.getElem?_eq_some_iff.1 hl).1
   have hy:=run_yield (P:=P) (args:=encs x) hl (by rw[hrec];exact hps x)
   rw[hrec] at hy
   refine ⟨fn,_,assign,body,hy,roundIn_of_wpIn trivial (hassign _ pre x W _ hsz hi ?_)⟩
   clear hy
   intro a' Wa hoa hia hax
   have hla:=(hoa.beyond _ (by omega) hlt).trans hl
   have hka:=(hoa.beyond _ (Nat.le_refl _) (by omega)).trans hk
   have hlta:w.heap.size+1<Wa.heap.size:=Nat.lt_of_lt_of_le hlt hoa.below.size
   refine ⟨_,run_beginRound hla (by rw[hrec]), ?_⟩
   have hl2:(Wa.putObj (w.heap.size+1) (.loop { rec .ready none with state := .busy })).heap[w.heap.size+1]? = some (.loop { rec .ready none with state := .busy }):=World.putObj_heap_same hlta
   have hk2:(Wa.putObj (w.heap.size+1) (.loop { rec .ready none with state := .busy })).heap[w.heap.size]? = some (.deferred (some [])):=(World.putObj_heap_other (by omega)).trans hka
   have hb2:Below w.heap.size Wa (Wa.putObj (w.heap.size+1) (.loop { rec .ready none with state := .busy })):=below_putObj _ _ _ (by omega)
   refine wpIn_mono (hbody _ pre x a' _ (by simp;omega) (hI _ _ _ hia hb2) (hAx _ _ _ _ _ _ hax hla) hpre) ?_
   have fin:∀ (jump:Option Code) (W3:World),Outside n₀ w.heap.size (Wa.putObj (w.heap.size+1) (.loop { rec .ready none with state := .busy })) W3 →
     (Instr.endRound (w.heap.size+1) jump).run P W3 = .ok (.bool jump.isNone) (W3.putObj (w.heap.size+1) (.loop (rec (if jump.isNone then .ready else .done) jump))) ∧
     (W3.putObj (w.heap.size+1) (.loop (rec (if jump.isNone then .ready else .done) jump))).heap[w.heap.size+1]? = some (.loop (rec (if jump.isNone then .ready else .done) jump)) ∧
     (W3.putObj (w.heap.size+1) (.loop (rec (if jump.isNone then .ready else .done) jump))).heap[w.heap.size]? = some (.deferred (some [])) ∧
     Below w.heap.size W3 (W3.putObj (w.heap.size+1) (.loop (rec (if jump.isNone then .ready else .done) jump))) ∧
     Outside n₀ W1.heap.size W (W3.putObj (w.heap.size+1) (.loop (rec (if jump.isNone then .ready else .done) jump))):=fun jump W3 ho3=>by
    have hl3:=(ho3.beyond (w.heap.size+1) (by omega) (by simp;omega)).trans hl2
    have hk3:=(ho3.beyond w.heap.size (Nat.le_refl _) (by simp;omega)).trans hk2
    have hr:=run_endRound (P:=P) jump hl3
    have hsz3:w.heap.size+1<W3.heap.size:=(Array.getElem?_eq_some_iff.1 hl3).1
    refine ⟨?_,World.putObj_heap_same hsz3,(World.putObj_heap_other (by omega)).trans hk3,below_putObj _ _ _ (by omega), ?_⟩
    ·rw[hrec] at hr ⊢;exact hr
    ·have e1:Outside n₀ W1.heap.size Wa (Wa.putObj (w.heap.size+1) (.loop { rec .ready none with state := .busy })):=Outside.of_grown (grown_putObj _ _ _) (by omega) (by omega) (by omega)
     have e2:Outside n₀ W1.heap.size W3 (W3.putObj (w.heap.size+1) (.loop (rec (if jump.isNone then .ready else .done) jump))):=Outside.of_grown (grown_putObj _ _ _) (by omega) (by omega) (by omega)
     exact (((hoa.weak (by omega)).trans e1).trans (ho3.weak (by omega))).trans e2
   rintro e a3 W3 hp
   cases e with
   | normal =>
    obtain ⟨hk3,hi3⟩:=hp
    obtain ⟨hr,hl4,hk4,hb4,ho4⟩:=fin none W3 hk3
    exact ⟨_,_,hr,.inl ⟨rfl,⟨hI _ _ _ hi3 hb4,hl4,hk4,Nat.le_trans (by have:=hk3.below.size;simp at this;omega) hb4.size⟩,ho4⟩⟩
   | ret =>
    obtain ⟨hk3,hi3⟩:=hp
    obtain ⟨hr,hl4,hk4,hb4,ho4⟩:=fin (some .ret) W3 hk3
    exact ⟨_,_,hr,.inr ⟨rfl,.ret,hIx _ _ _ _ hi3 hb4,hl4,hk4⟩⟩
   | exit id =>
    obtain ⟨hk3,hi3⟩:=hp
    obtain ⟨hr,hl4,hk4,hb4,ho4⟩:=fin (some (.exit id)) W3 hk3
    exact ⟨_,_,hr,.inr ⟨rfl,.exit id,hIx _ _ _ _ hi3 hb4,hl4,hk4⟩⟩
   | goto t =>
    obtain ⟨hk3,hi3⟩:=hp
    obtain ⟨hr,hl4,hk4,hb4,ho4⟩:=fin (some (.goto t)) W3 hk3
    exact ⟨_,_,hr,.inr ⟨rfl,.goto t,hIx _ _ _ _ hi3 hb4,hl4,hk4⟩⟩
   | panic ch=>exact hp.elim
   | outgrown=>exact hp.elim
  ·-- behind the iterator
   rintro e W2 ⟨⟨v,rfl⟩,(⟨hi,hl,hk,_⟩ | ⟨pre,hSp,c,hi,hl,hk⟩)⟩
   ·exact ⟨none,_,by have:=run_endLoop (P:=P) hl (by rw[hrec];simp);rw[hrec] at this;exact this,hdone _ _ (Nat.le_refl _) (hI _ _ _ hi (below_putObj _ _ _ (by omega))) ((World.putObj_heap_other (by omega)).trans hk)⟩
   ·exact ⟨some c,_,by have:=run_endLoop (P:=P) hl (by rw[hrec];simp);rw[hrec] at this;exact this,(wpIn_wide (n:=0)).2 (hstop _ c pre _ (Nat.le_refl _) hSp (hIx _ _ _ _ hi (below_putObj _ _ _ (by omega))) ((World.putObj_heap_other (by omega)).trans hk))⟩
end
section
open Go.ChangeShapes Go.WideShapes Go.ChangeAt Go.RowKit
attribute [local irreducible] Go.Calls
def encT (p:Tg):Array Value:=#[.int .i64 p.1,.agg #[.int .i64 p.2.1.1,.int .i64 p.2.1.2,.int .i64 p.2.2.1,.int .i64 p.2.2.2]]
def TogAt (F G:List Sg) (w0 W:World) (J:List Tg→World→Prop) (gh:Nat) (v4 v5:Value) (wr:World):Prop :=
 ∃ (f g : List Sg) (x y : Int × Int) (pre : List Tg) (a1 a2 : Option Addr) (c1 c2 : Nat), v4 = .slice a1 f.length c1 ∧ v5 = .slice a2 g.length c2 ∧
   f.length≤c1∧c1≤9223372036854775807∧g.length≤c2∧c2≤9223372036854775807∧ArgS w0 a1 f∧ArgS w0 a2 g∧f.length+g.length≤gh∧f.length+g.length≤1000000000 ∧
   pre++tog gh f g x y=togL F G∧J pre wr∧Below w0.heap.size w0 wr∧W.heap.size≤wr.heap.size∧Blk wr (W.heap.size+1) #[.int .i64 x.1,.int .i64 x.2,.int .i64 y.1,.int .i64 y.2] 221
set_option maxRecDepth 100000 in
set_option maxHeartbeats 2000000 in
theorem tog_c (F G:List Sg) (a a':Option Addr) (cap cap':Nat) (fv:Value) (w0 w:World) (hF:F.length≤cap) (hc:cap≤9223372036854775807) (hG:G.length≤cap') (hc':cap'≤9223372036854775807)
  (hl:F.length+G.length≤1000000000) (hA:ArgS w0 a F) (hA':ArgS w0 a' G) (hb:Below w0.heap.size w0 w) :
  SeqT Tryz.prog 152 #[.agg #[.slice a F.length cap,.slice a' G.length cap',fv]] #[] encT w0.heap.size (togL F G) w:=by
 intro l J Jx W hW hJ hJx hY h0
 have H0:=hidE h0;have HJ:=hidE hJ;have HJX:=hidE hJx;have HY:=hidE hY
 have HA:=hidE hA;have HA':=hidE hA'
 have hbW:Below w0.heap.size w0 W:=hb.trans (hW.mono hb.size)
 have HBW:=hidE hbW
 have HL:=hidE (And.intro (And.intro hF hc) (And.intro hG hc'))
 clear hA hA' hJ hJx hY h0 hF hG hc hc' hb hW hbW
 show Calls Tryz.prog 152 #[.agg #[.slice a F.length cap,.slice a' G.length cap',fv],.func (.yield l) #[] #[]] W _
 go_enter Tryz.func152,Tryz.ntmps152
 go_wp2
 go_quiet (fail)
 go_wp2
 go_loopg [4,5,7] (F.length+G.length) (fun gh v4 v5 _ wr=>TogAt F G w0 W J gh v4 v5 wr)
 case atStart =>
  obtain ⟨⟨e1,e2⟩,e3,e4⟩:=HL.out
  refine ⟨F,G,(0,0),(0,0),[],a,a',cap,cap',rfl,rfl,e1,e2,e3,e4,HA.out,HA'.out,Nat.le_refl _,hl,rfl,HJ.out _ _ _ H0.out ?_,HBW.out.trans (Below.mono ?_ HBW.out.size), ?_, ?_⟩
  ·(repeat (first | exact Below.refl _ _ | assumption | refine balloc ?_ _ | refine below_drewN ?_ _ | refine bstep (by assumption) ?_ | refine bstep (Past.prop _) ?_ | refine Below.setCell ?_ (by first | exact Nat.le_refl _ | (simp;done) | (simp;omega)) _))
  ·(repeat (first | exact Below.refl _ _ | assumption | refine balloc ?_ _ | refine below_drewN ?_ _ | refine bstep (by assumption) ?_ | refine bstep (Past.prop _) ?_ | refine Below.setCell ?_ (by first | exact Nat.le_refl _ | (simp;done) | (simp;omega)) _))
  ·simp;omega
  ·exact Blk.made_at _ _ _ _ (by simp)
 case round =>
  obtain ⟨f,g,x,y,pre,a1,a2,c1,c2,rfl,rfl,l1,m1,l2,m2,k1,k2,hgh,hlen,hpre,hJ1,hB1,hsz,blk⟩:=hrel
  clear HA HA' HL
  have K1:=hidE k1;have K2:=hidE k2;have HJ1:=hidE hJ1;have HB1:=hidE hB1;have HPRE:=hidE hpre
  have HM:=hidE (And.intro (And.intro l1 m1) (And.intro l2 m2))
  have HG:=hidE (And.intro hgh hlen)
  have HSZ:=hidE hsz
  clear k1 k2 hJ1 hB1 hpre l1 m1 l2 m2 hgh hlen hsz
  obtain ⟨wo,hwo⟩:∃ wo:World,wo=wr:=⟨_,rfl⟩
  by_cases hne:f.length=0∧g.length=0
  ·have df:decide (0<f.length)=false:=decide_eq_false (by omega)
   have dg:decide (0<g.length)=false:=decide_eq_false (by omega)
   have HE:=hidE (tog_nil (n:=gk) (x:=x) (y:=y) hne.1 hne.2)
   clear hne
   generalize f.length=kf at *
   generalize g.length=kg at *
   go_wp2
   go_end0
   exact ⟨⟨_,rfl⟩,.inl (by have:=HPRE.out;rw[HE.out,List.append_nil] at this;rw[←this];exact HJ1.out)⟩
  ·obtain ⟨gk',rfl⟩:∃ gk',gk=gk'+1:=⟨gk - 1,by have:=HG.out.1;omega⟩
   have HPRE':=HPRE.out
   rw[tog_cons hne] at HPRE'
   have HP:=hidE HPRE'
   have HLESS:=hidE (pass_less hne)
   have HNE:=hidE hne
   clear HPRE' HPRE
   have HNX:=hidE (fun w h1 h2=>next_c f g a1 a2 c1 c2 w (by have:=HG.out.2;omega) (by have:=HG.out.2;omega) HNE.out h1 h2)
   have HPF:=hidE (fun w h1=>pass_c f (nextT f g) x.1 x.2 a1 c1 w HM.out.1.1 HM.out.1.2 h1)
   have HPG:=hidE (fun w h1=>pass_c g (nextT f g) y.1 y.2 a2 c2 w HM.out.2.1 HM.out.2.2 h1)
   have hd:decide (0<f.length)=true∨(decide (0<f.length)=false∧decide (0<g.length)=true):=by
    by_cases c:0<f.length
    ·exact .inl (decide_eq_true c)
    ·exact .inr ⟨decide_eq_false c,decide_eq_true (by omega)⟩
   have HFL:=hidE (passF_len f (nextT f g));have HGL:=hidE (passF_len g (nextT f g))
   generalize hxv:passV f (nextT f g) x=x' at *
   generalize hyv:passV g (nextT f g) y=y' at *
   have hxv':passV f (nextT f g) (x.1,x.2)=x':=hxv
   have hyv':passV g (nextT f g) (y.1,y.2)=y':=hyv
   try simp only[hxv'] at HPF
   try simp only[hyv'] at HPG
   clear hxv hyv hxv' hyv' hne
   generalize passF f (nextT f g)=f' at *
   generalize passF g (nextT f g)=g' at *
   generalize nextT f g=t at *
   have p0:=blk.cell 0;have p1:=blk.cell 1;have p2:=blk.cell 2;have p3:=blk.cell 3;have pf:=blk.free;have pz:=blk.lt
   simp at p0 p1 p2 p3
   rcases hd with hd | ⟨hd,hd'⟩
   all_goals
    have hw0:=HBW.out.size
    go_wp2_with fail
    ((with_reducible refine (HNX.out _ (K1.out.past HB1.out) (K2.out.past HB1.out)).mono ?_);rintro e w1 ⟨rfl,hb1⟩)
    have q1:=blk.past hb1
    have bb1:Below W.heap.size wr w1:=hb1.mono HSZ.out
    have s1:=hb1.size
    clear hb1 p0 p1 p2 p3 pf pz
    have p0:=q1.cell 0;have p1:=q1.cell 1;have p2:=q1.cell 2;have p3:=q1.cell 3;have pf:=q1.free;have pz:=q1.lt
    simp at p0 p1 p2 p3
    go_wp2_with fail
    ((with_reducible refine (HPF.out _ (K1.out.past (HB1.out.trans (bb1.mono hw0)))).mono ?_);rintro e w2 ⟨⟨sv,rfl,hsv⟩,hb2⟩)
    obtain ⟨a3,c3,rfl,l3,m3,k3⟩:=hsv
    have K3:=hidE (k3 _ K1.out);have M3:=hidE (And.intro l3 m3)
    have q2:=q1.past hb2
    have bb2:Below W.heap.size wr w2:=bb1.trans (hb2.mono (Nat.le_trans HSZ.out s1))
    have s2:=hb2.size
    clear hb2 p0 p1 p2 p3 pf pz bb1 l3 m3 k3
    have q3:=(q2.set 0 (.int .i64 x'.1)).set 1 (.int .i64 x'.2)
    have bb3:Below W.heap.size wr ((w2.setCell ⟨W.heap.size+1,0,none⟩ (.int .i64 x'.1)).setCell ⟨W.heap.size+1,1,none⟩ (.int .i64 x'.2)):=by (repeat (first | exact Below.refl _ _ | assumption | refine balloc ?_ _ | refine below_drewN ?_ _ | refine bstep (by assumption) ?_ | refine bstep (Past.prop _) ?_ | refine Below.setCell ?_ (by first | exact Nat.le_refl _ | (simp;done) | (simp;omega)) _))
    have p0:=q2.cell 0;have p1:=q2.cell 1;have p2:=q2.cell 2;have p3:=q2.cell 3;have pf:=q2.free;have pz:=q2.lt
    simp at p0 p1 p2 p3 q3
    go_wp2_with fail
    ((with_reducible refine (HPG.out _ (K2.out.past (HB1.out.trans (bb3.mono hw0)))).mono ?_);rintro e w3 ⟨⟨sv,rfl,hsv⟩,hb3⟩)
    obtain ⟨a4,c4,rfl,l4,m4,k4⟩:=hsv
    have K4:=hidE (k4 _ K2.out);have M4:=hidE (And.intro l4 m4)
    have q4:=q3.past hb3
    have bb4:Below W.heap.size wr w3:=bb3.trans (hb3.mono (by simp[World.setCell];omega))
    have s4:wr.heap.size≤w3.heap.size:=by have:=hb3.size;simp[World.setCell] at this;omega
    clear hb3 p0 p1 p2 p3 pf pz bb2 bb3 l4 m4 k4
    have q5:=(q4.set 2 (.int .i64 y'.1)).set 3 (.int .i64 y'.2)
    have bb5:Below W.heap.size wr ((w3.setCell ⟨W.heap.size+1,2,none⟩ (.int .i64 y'.1)).setCell ⟨W.heap.size+1,3,none⟩ (.int .i64 y'.2)):=by (repeat (first | exact Below.refl _ _ | assumption | refine balloc ?_ _ | refine below_drewN ?_ _ | refine bstep (by assumption) ?_ | refine bstep (Past.prop _) ?_ | refine Below.setCell ?_ (by first | exact Nat.le_refl _ | (simp;done) | (simp;omega)) _))
    have p0:=q4.cell 0;have p1:=q4.cell 1;have p2:=q4.cell 2;have p3:=q4.cell 3;have pf:=q4.free;have pz:=q4.lt
    simp at p0 p1 p2 p3 q5
    obtain ⟨fn,tmps,assign,body,hy,hR⟩:=HY.out pre (t,x',y') _ (HJ.out _ _ _ HJ1.out bb5) ⟨tog gk' f' g' x' y',by rw[←HP.out];simp⟩
    dsimp only[encT] at hy
    go_upto_region 7 with fail
    refine (wpIn_wide (n:=0)).1 ?_
    gi_wp2
    refine ⟨rfl,hR.mono ?_⟩
    clear hy hR
    rintro e W' (⟨rfl,hJ',hO⟩ | ⟨rfl,hJx'⟩)
    ·gi_wp2
     go_wp2
     go_roundg gk'
     case measure=>omega
     case rel =>
      have hz:W.heap.size+1<((w3.setCell ⟨W.heap.size+1,2,none⟩ (.int .i64 y'.1)).setCell ⟨W.heap.size+1,3,none⟩ (.int .i64 y'.2)).heap.size:=q5.lt
      exact ⟨f',g',x',y',pre++[(t,x',y')],a3,a4,c3,c4,rfl,rfl,M3.out.1,M3.out.2,M4.out.1,M4.out.2,K3.out,K4.out,by have:=HLESS.out;have:=HG.out.1;omega,by have:=HLESS.out;have:=HG.out.2;omega,
       by rw[←HP.out];simp,hJ',(HB1.out.trans (bb5.mono hw0)).trans hO.below,Nat.le_trans (Nat.le_trans HSZ.out bb5.size) hO.below.size,(hO.beyond _ (by omega) hz).trans q5⟩
    ·gi_wp2
     go_wp2
     refine bodyPost_ret (results_none rfl _ _ _) rfl ?_
     exact ⟨⟨_,rfl⟩,.inr ⟨pre++[(t,x',y')],⟨tog gk' f' g' x' y',by rw[←HP.out];simp⟩,hJx'⟩⟩
end
section
open Go.ChangeShapes Go.WideShapes Go.ChangeAt Go.RowKit
theorem lec (x y:Int) (w:World):Calls Tryz.prog 170 #[.int .i64 x,.int .i64 y] w fun e w'=>e = .returned (.bool (decide (x≤y)))∧w'=w:=by
 go_enter Tryz.func170,Tryz.ntmps170
 go_wp2
 go_ret
 exact ⟨rfl,rfl⟩
theorem bothLE (a b c d:Int) (w:World):Calls Tryz.prog 169 #[V a b,V c d,.func (.func 170) #[] #[]] w fun e w'=>e = .returned (.tuple #[.bool (decide (a≤c)),.bool (decide (b≤d))])∧Below w.heap.size w w':=by
 go_enter Tryz.func169,Tryz.ntmps169
 go_wp2
 go_quiet ((go_at_call 170;exact Calls.quiet_of_same (lec _ _ _)))
 go_wp2
 go_ret2
 exact ⟨rfl,below_drewN (((Below.refl _ _).alloc (Nat.le_refl _) _).alloc (by simp) _) _⟩
theorem le (a b c d:Int) (w:World):Calls Tryz.prog 131 #[V a b,V c d] w fun e w'=>e = .returned (.bool (leB a b c d))∧Below w.heap.size w w':=by
 go_enter Tryz.func131,Tryz.ntmps131
 go_wp2_with (go_at_call 169;refine (bothLE _ _ _ _ _).mono ?_;rintro e w' ⟨rfl,hb⟩)
 all_goals
  go_ret
  refine ⟨ret_bool ?_,(((Below.refl _ _).alloc (Nat.le_refl _) _).alloc (by simp) _).trans (hb.mono (by simp;omega))⟩
 ·simp[leB];omega
 ·simp[leB];omega
theorem le_eq {a b c d:Int} {r:Bool} {w:World} (h:leB a b c d=r):Calls Tryz.prog 131 #[V a b,V c d] w fun e w'=>e = .returned (.bool r)∧Below w.heap.size w w':=h ▸ le a b c d w
theorem of_ (m n:Int) (w:World):Calls Tryz.prog 132 #[.int .i64 m,.int .i64 n] w fun e w'=>e = .returned (V m n)∧Below w.heap.size w w':=by
 go_enter Tryz.func132,Tryz.ntmps132
 go_wp2
 exact bodyPost_ret (v:=V m n) (by simp[results,Tryz.results132,go_sem]) rfl ⟨rfl,(Below.refl _ _).alloc (by simp) _⟩
theorem alike (n:Int) (w:World):Calls Tryz.prog 184 #[.int .i64 n] w fun e w'=>e = .returned (V n n)∧Below w.heap.size w w':=by
 go_enter Tryz.func184,Tryz.ntmps184
 go_wp2_with (go_at_call 132;refine (of_ _ _ _).mono ?_;rintro e w' ⟨rfl,hb⟩;obtain ⟨hc,hf⟩:=bcell hb;have hz:=bsz hb w.heap.size (by simp))
 refine bodyPost_ret (v:=V n n) (by simp[results,Tryz.results184,go_sem,hc]) rfl ⟨rfl, ?_⟩
 exact ((((Below.refl _ _).alloc (Nat.le_refl _) _).trans (hb.mono (by simp))).setCell (Nat.le_refl _) _).setCell (Nat.le_refl _) _
theorem may (a b:Int) (w:World):Calls Tryz.prog 150 #[V a b] w fun e w'=>e = .returned (.bool (okV a b))∧Below w.heap.size w w':=by
 rw[←okV_parts]
 cases h1:leB (-1125899906842624) (-1125899906842624) a b
 all_goals
  go_enter Tryz.func150,Tryz.ntmps150
  go_wp2
  refine wp_region_past_lit (by kernel_rfl) (by kernel_rfl) ?_
  have hc:=Past.cell (W:=w.alloc (Obj.cells #[Value.int IntKind.i64 a,Value.int IntKind.i64 b] 60))
  repeat (go_big_quiet_step ((first | (go_at_call 184;exact Past.call _ (alike _ _)) | (go_at_call 131;exact Past.call _ (le_eq h1)) | (go_at_call 131;exact Past.call _ (le _ _ _ _ _)))))
  refine wpQuiet_nil ?_
  rintro _ ⟨x,rfl⟩
  go_wp2
  go_ret
  exact ⟨rfl,((Below.refl _ _).alloc (Nat.le_refl _) _).trans (x.2.mono (by simp))⟩
theorem may_eq {a b:Int} {r:Bool} {w:World} (h:okV a b=r):Calls Tryz.prog 150 #[V a b] w fun e w'=>e = .returned (.bool r)∧Below w.heap.size w w':=h ▸ may a b w
theorem cl_sub (x y:Int) (w:World) (hx : -1125899906842624≤x∧x≤1125899906842624) (hy : -1125899906842624≤y∧y≤1125899906842624):Calls Tryz.prog 215 #[.int .i64 x,.int .i64 y] w fun e w'=>e = .returned (.int .i64 (x - y))∧w'=w:=by
 go_enter Tryz.func215,Tryz.ntmps215
 go_wp2
 go_ret
 exact ⟨rfl,rfl⟩
theorem cl_add (x y:Int) (w:World) (hx : -1125899906842624≤x∧x≤1125899906842624) (hy : -1125899906842624≤y∧y≤1125899906842624):Calls Tryz.prog 186 #[.int .i64 x,.int .i64 y] w fun e w'=>e = .returned (.int .i64 (x+y))∧w'=w:=by
 go_enter Tryz.func186,Tryz.ntmps186
 go_wp2
 go_ret
 exact ⟨rfl,rfl⟩
theorem both_sub (a b c d:Int) (w:World) (h1:okV a b=true) (h2:okV c d=true) :
  Calls Tryz.prog 133 #[V a b,V c d,.func (.func 215) #[] #[]] w fun e w'=>e = .returned (.tuple #[.int .i64 (a - c),.int .i64 (b - d)])∧Below w.heap.size w w':=by
 have g1:=h1;have g2:=h2
 simp only[okV_iff] at g1 g2
 have G1:=hidE g1;have G2:=hidE g2
 clear g1 g2 h1 h2
 go_enter Tryz.func133,Tryz.ntmps133
 go_wp2
 go_quiet ((go_at_call 215;exact Calls.quiet_of_same (cl_sub _ _ _ (by have:=G1.out;have:=G2.out;omega) (by have:=G1.out;have:=G2.out;omega))))
 go_wp2
 go_ret2
 exact ⟨rfl,below_drewN (((Below.refl _ _).alloc (Nat.le_refl _) _).alloc (by simp) _) _⟩
theorem both_add (a b c d:Int) (w:World) (h1:okV a b=true) (h2:okV c d=true) :
  Calls Tryz.prog 133 #[V a b,V c d,.func (.func 186) #[] #[]] w fun e w'=>e = .returned (.tuple #[.int .i64 (a+c),.int .i64 (b+d)])∧Below w.heap.size w w':=by
 have g1:=h1;have g2:=h2
 simp only[okV_iff] at g1 g2
 have G1:=hidE g1;have G2:=hidE g2
 clear g1 g2 h1 h2
 go_enter Tryz.func133,Tryz.ntmps133
 go_wp2
 go_quiet ((go_at_call 186;exact Calls.quiet_of_same (cl_add _ _ _ (by have:=G1.out;have:=G2.out;omega) (by have:=G1.out;have:=G2.out;omega))))
 go_wp2
 go_ret2
 exact ⟨rfl,below_drewN (((Below.refl _ _).alloc (Nat.le_refl _) _).alloc (by simp) _) _⟩
theorem valid_no (fv:Value) (a b c d:Int) (w:World) (h:(okV a b && okV c d)=false) :
  Calls Tryz.prog 185 #[V a b,V c d,fv] w fun e w'=>e = .returned (VE (0,0,10))∧Below w.heap.size w w':=by
 cases h1:okV a b
 ·clear h
  go_enter Tryz.func185,Tryz.ntmps185
  go_wp2_with (go_at_call 150;((with_reducible refine (may_eq h1).mono ?_);rintro e w' ⟨rfl,hb⟩;obtain ⟨hc,hf⟩:=bcell hb;have hz0:=bsz hb (w.heap.size) (by first | assumption | (simp;done) | (simp;omega));have hz1:=bsz hb (w.heap.size+1) (by first | assumption | (simp;done) | (simp;omega));have hz2:=bsz hb (w.heap.size+1+1) (by first | assumption | (simp;done) | (simp;omega))))
  refine bodyPost_ret (v:=VE (0,0,10)) (by simp[results,Tryz.results185,go_sem, *]) rfl ⟨rfl, ?_⟩
  (repeat (first | exact Below.refl _ _ | assumption | refine balloc ?_ _ | refine below_drewN ?_ _ | refine bstep (by assumption) ?_ | refine bstep (Past.prop _) ?_ | refine Below.setCell ?_ (by first | exact Nat.le_refl _ | (simp;done) | (simp;omega)) _))
 ·have h2:okV c d=false:=by rw[h1] at h;simpa using h
  clear h
  go_enter Tryz.func185,Tryz.ntmps185
  go_wp2_with (first | (go_at_call 150;((with_reducible refine (may_eq h1).mono ?_);rintro e w' ⟨rfl,hb⟩;obtain ⟨hc,hf⟩:=bcell hb;have hz0:=bsz hb (w.heap.size) (by first | assumption | (simp;done) | (simp;omega));have hz1:=bsz hb (w.heap.size+1) (by first | assumption | (simp;done) | (simp;omega));have hz2:=bsz hb (w.heap.size+1+1) (by first | assumption | (simp;done) | (simp;omega)))) | (go_at_call 150;((with_reducible refine (may_eq h2).mono ?_);rintro e w' ⟨rfl,hb⟩;obtain ⟨hc,hf⟩:=bcell hb;have hz0:=bsz hb (w.heap.size) (by first | assumption | (simp;done) | (simp;omega));have hz1:=bsz hb (w.heap.size+1) (by first | assumption | (simp;done) | (simp;omega));have hz2:=bsz hb (w.heap.size+1+1) (by first | assumption | (simp;done) | (simp;omega)))))
  refine bodyPost_ret (v:=VE (0,0,10)) (by simp[results,Tryz.results185,go_sem, *]) rfl ⟨rfl, ?_⟩
  (repeat (first | exact Below.refl _ _ | assumption | refine balloc ?_ _ | refine below_drewN ?_ _ | refine bstep (by assumption) ?_ | refine bstep (Past.prop _) ?_ | refine Below.setCell ?_ (by first | exact Nat.le_refl _ | (simp;done) | (simp;omega)) _))
theorem valid_yes (fv:Value) (a b c d x y:Int) (w:World) (h1:okV a b=true) (h2:okV c d=true)
  (HB:∀ w',Below w.heap.size w w'→Calls Tryz.prog 133 #[V a b,V c d,fv] w' fun e w''=>e = .returned (.tuple #[.int .i64 x,.int .i64 y])∧Below w'.heap.size w' w'') :
  Calls Tryz.prog 185 #[V a b,V c d,fv] w fun e w'=>e = .returned (VE (gate (okV x y) x y))∧Below w.heap.size w w':=by
 have HB':=hidE HB;clear HB
 cases h3:okV x y
 ·rw[gate_false rfl]
  go_enter Tryz.func185,Tryz.ntmps185
  go_wp2_with (first | (go_at_call 150;((with_reducible refine (may_eq h1).mono ?_);rintro e w' ⟨rfl,hb⟩;obtain ⟨hc,hf⟩:=bcell hb;have hz0:=bsz hb (w.heap.size) (by first | assumption | (simp;done) | (simp;omega));have hz1:=bsz hb (w.heap.size+1) (by first | assumption | (simp;done) | (simp;omega));have hz2:=bsz hb (w.heap.size+1+1) (by first | assumption | (simp;done) | (simp;omega)))) | (go_at_call 150;((with_reducible refine (may_eq h2).mono ?_);rintro e w' ⟨rfl,hb⟩;obtain ⟨hc,hf⟩:=bcell hb;have hz0:=bsz hb (w.heap.size) (by first | assumption | (simp;done) | (simp;omega));have hz1:=bsz hb (w.heap.size+1) (by first | assumption | (simp;done) | (simp;omega));have hz2:=bsz hb (w.heap.size+1+1) (by first | assumption | (simp;done) | (simp;omega)))) | (go_at_call 133;((with_reducible refine (HB'.out _ (by (repeat (first | exact Below.refl _ _ | assumption | refine balloc ?_ _ | refine below_drewN ?_ _ | refine bstep (by assumption) ?_ | refine bstep (Past.prop _) ?_ | refine Below.setCell ?_ (by first | exact Nat.le_refl _ | (simp;done) | (simp;omega)) _)))).mono ?_);rintro e w' ⟨rfl,hb⟩;obtain ⟨hc,hf⟩:=bcell hb;have hz0:=bsz hb (w.heap.size) (by first | assumption | (simp;done) | (simp;omega));have hz1:=bsz hb (w.heap.size+1) (by first | assumption | (simp;done) | (simp;omega));have hz2:=bsz hb (w.heap.size+1+1) (by first | assumption | (simp;done) | (simp;omega)))) | (go_at_call 132;((with_reducible refine (of_ _ _ _).mono ?_);rintro e w' ⟨rfl,hb⟩;obtain ⟨hc,hf⟩:=bcell hb;have hz0:=bsz hb (w.heap.size) (by first | assumption | (simp;done) | (simp;omega));have hz1:=bsz hb (w.heap.size+1) (by first | assumption | (simp;done) | (simp;omega));have hz2:=bsz hb (w.heap.size+1+1) (by first | assumption | (simp;done) | (simp;omega)))) | (go_at_call 150;((with_reducible refine (may_eq h3).mono ?_);rintro e w' ⟨rfl,hb⟩;obtain ⟨hc,hf⟩:=bcell hb;have hz0:=bsz hb (w.heap.size) (by first | assumption | (simp;done) | (simp;omega));have hz1:=bsz hb (w.heap.size+1) (by first | assumption | (simp;done) | (simp;omega));have hz2:=bsz hb (w.heap.size+1+1) (by first | assumption | (simp;done) | (simp;omega)))))
  refine bodyPost_ret (v:=VE (0,0,10)) (by simp[results,Tryz.results185,go_sem, *]) rfl ⟨rfl, ?_⟩
  (repeat (first | exact Below.refl _ _ | assumption | refine balloc ?_ _ | refine below_drewN ?_ _ | refine bstep (by assumption) ?_ | refine bstep (Past.prop _) ?_ | refine Below.setCell ?_ (by first | exact Nat.le_refl _ | (simp;done) | (simp;omega)) _))
 ·rw[gate_true rfl]
  go_enter Tryz.func185,Tryz.ntmps185
  go_wp2_with (first | (go_at_call 150;((with_reducible refine (may_eq h1).mono ?_);rintro e w' ⟨rfl,hb⟩;obtain ⟨hc,hf⟩:=bcell hb;have hz0:=bsz hb (w.heap.size) (by first | assumption | (simp;done) | (simp;omega));have hz1:=bsz hb (w.heap.size+1) (by first | assumption | (simp;done) | (simp;omega));have hz2:=bsz hb (w.heap.size+1+1) (by first | assumption | (simp;done) | (simp;omega)))) | (go_at_call 150;((with_reducible refine (may_eq h2).mono ?_);rintro e w' ⟨rfl,hb⟩;obtain ⟨hc,hf⟩:=bcell hb;have hz0:=bsz hb (w.heap.size) (by first | assumption | (simp;done) | (simp;omega));have hz1:=bsz hb (w.heap.size+1) (by first | assumption | (simp;done) | (simp;omega));have hz2:=bsz hb (w.heap.size+1+1) (by first | assumption | (simp;done) | (simp;omega)))) | (go_at_call 133;((with_reducible refine (HB'.out _ (by (repeat (first | exact Below.refl _ _ | assumption | refine balloc ?_ _ | refine below_drewN ?_ _ | refine bstep (by assumption) ?_ | refine bstep (Past.prop _) ?_ | refine Below.setCell ?_ (by first | exact Nat.le_refl _ | (simp;done) | (simp;omega)) _)))).mono ?_);rintro e w' ⟨rfl,hb⟩;obtain ⟨hc,hf⟩:=bcell hb;have hz0:=bsz hb (w.heap.size) (by first | assumption | (simp;done) | (simp;omega));have hz1:=bsz hb (w.heap.size+1) (by first | assumption | (simp;done) | (simp;omega));have hz2:=bsz hb (w.heap.size+1+1) (by first | assumption | (simp;done) | (simp;omega)))) | (go_at_call 132;((with_reducible refine (of_ _ _ _).mono ?_);rintro e w' ⟨rfl,hb⟩;obtain ⟨hc,hf⟩:=bcell hb;have hz0:=bsz hb (w.heap.size) (by first | assumption | (simp;done) | (simp;omega));have hz1:=bsz hb (w.heap.size+1) (by first | assumption | (simp;done) | (simp;omega));have hz2:=bsz hb (w.heap.size+1+1) (by first | assumption | (simp;done) | (simp;omega)))) | (go_at_call 150;((with_reducible refine (may_eq h3).mono ?_);rintro e w' ⟨rfl,hb⟩;obtain ⟨hc,hf⟩:=bcell hb;have hz0:=bsz hb (w.heap.size) (by first | assumption | (simp;done) | (simp;omega));have hz1:=bsz hb (w.heap.size+1) (by first | assumption | (simp;done) | (simp;omega));have hz2:=bsz hb (w.heap.size+1+1) (by first | assumption | (simp;done) | (simp;omega)))))
  refine bodyPost_ret (v:=VE (x,y,0)) (by simp[results,Tryz.results185,go_sem, *]) rfl ⟨rfl, ?_⟩
  (repeat (first | exact Below.refl _ _ | assumption | refine balloc ?_ _ | refine below_drewN ?_ _ | refine bstep (by assumption) ?_ | refine bstep (Past.prop _) ?_ | refine Below.setCell ?_ (by first | exact Nat.le_refl _ | (simp;done) | (simp;omega)) _))
theorem sub_c (a b c d:Int) (w:World):Calls Tryz.prog 197 #[V a b,V c d] w fun e w'=>e = .returned (VE (subS a b c d))∧Below w.heap.size w w':=by
 cases h:(okV a b && okV c d)
 ·have e:subS a b c d=(0,0,10):=by unfold subS;exact gate_no h
  rw[e];clear e
  go_enter Tryz.func197,Tryz.ntmps197
  go_wp2_with (go_at_call 185;((with_reducible refine (valid_no _ _ _ _ _ _ h).mono ?_);rintro e w' ⟨rfl,hb⟩;obtain ⟨hc,hf⟩:=bcell hb;have hz0:=bsz hb (w.heap.size) (by first | assumption | (simp;done) | (simp;omega));have hz1:=bsz hb (w.heap.size+1) (by first | assumption | (simp;done) | (simp;omega));have hz2:=bsz hb (w.heap.size+1+1) (by first | assumption | (simp;done) | (simp;omega))))
  refine bodyPost_ret (v:=VE (0,0,10)) (by simp[results,Tryz.results197,go_sem, *]) rfl ⟨rfl, ?_⟩
  (repeat (first | exact Below.refl _ _ | assumption | refine balloc ?_ _ | refine below_drewN ?_ _ | refine bstep (by assumption) ?_ | refine bstep (Past.prop _) ?_ | refine Below.setCell ?_ (by first | exact Nat.le_refl _ | (simp;done) | (simp;omega)) _))
 ·have e:subS a b c d=gate (okV (a - c) (b - d)) (a - c) (b - d):=by unfold subS;rw[h];rfl
  obtain ⟨h1,h2⟩:okV a b=true∧okV c d=true:=by simpa using h
  rw[e];clear e h
  generalize hg:gate (okV (a - c) (b - d)) (a - c) (b - d)=g
  have Hg:=hidE hg;clear hg
  go_enter Tryz.func197,Tryz.ntmps197
  go_wp2_with (go_at_call 185;((with_reducible refine (valid_yes _ _ _ _ _ (a - c) (b - d) _ h1 h2 (fun w' _=>both_sub _ _ _ _ _ h1 h2)).mono ?_);rintro e w' ⟨rfl,hb⟩;rw[Hg.out];obtain ⟨hc,hf⟩:=bcell hb;have hz2:=bsz hb (w.heap.size+1+1) (by simp)))
  refine bodyPost_ret (v:=VE g) (by simp[results,Tryz.results197,go_sem, *]) rfl ⟨rfl, ?_⟩
  (repeat (first | exact Below.refl _ _ | assumption | refine balloc ?_ _ | refine below_drewN ?_ _ | refine bstep (by assumption) ?_ | refine bstep (Past.prop _) ?_ | refine Below.setCell ?_ (by first | exact Nat.le_refl _ | (simp;done) | (simp;omega)) _))
theorem vadd (a b c d:Int) (w:World):Calls Tryz.prog 185 #[V a b,V c d,.func (.func 186) #[] #[]] w fun e w'=>e = .returned (VE (addS a b c d))∧Below w.heap.size w w':=by
 cases h:(okV a b && okV c d)
 ·have e:addS a b c d=(0,0,10):=by unfold addS;exact gate_no h
  rw[e];exact valid_no _ a b c d w h
 ·have e:addS a b c d=gate (okV (a+c) (b+d)) (a+c) (b+d):=by unfold addS;rw[h];rfl
  obtain ⟨h1,h2⟩:okV a b=true∧okV c d=true:=by simpa using h
  rw[e];exact valid_yes _ a b c d _ _ w h1 h2 (fun w' _=>both_add _ _ _ _ _ h1 h2)
def addFrom (x y:Int):List (Int × Int)→Int × Int × Int
 | []=>(x,y,0)
 | v :: r=>if (addS x y v.1 v.2).2.2=0 then addFrom (addS x y v.1 v.2).1 (addS x y v.1 v.2).2.1 r else (0,0,(addS x y v.1 v.2).2.2)
def addL (l:List (Int × Int)):Int × Int × Int:=addFrom 0 0 l
def CellsV (w:World) (b off:Nat) (l:List (Int × Int)):Prop :=
 ∀ i,i<l.length→w.cell? ⟨b,off+i * 2,none⟩=some (.int .i64 (l.getD i (0,0)).1)∧w.cell? ⟨b,off+i * 2+1,none⟩=some (.int .i64 (l.getD i (0,0)).2)
theorem drop_getD (l:List (Int × Int)) (k:Nat) (h:k<l.length):l.drop k=l.getD k (0,0) :: l.drop (k+1):=by
 rw[List.drop_eq_getElem_cons h,List.getD_eq_getElem?_getD,List.getElem?_eq_getElem h];rfl
theorem add_some (l:List (Int × Int)) (b off cap:Nat) (w:World) (hb0:b<w.heap.size) (hl:l.length≤9223372036854775807) (hc0:CellsV w b off l) :
  Calls Tryz.prog 151 #[.slice (some ⟨b,off,none⟩) l.length cap] w fun e w'=>e = .returned (VE (addL l))∧Below w.heap.size w w':=by
 have HC:=hidE hc0;clear hc0
 go_enter Tryz.func151,Tryz.ntmps151
 go_wp2
 go_loopw [10] (fun i wr=>∃ k:Nat,∃ x y:Int,k≤l.length∧i = .int .i64 k∧addFrom x y (l.drop k)=addL l∧Below w.heap.size w wr∧Blk wr (w.heap.size+1) #[.int .i64 x,.int .i64 y] 60∧Blk wr w.heap.size #[.int .i64 0,.int .i64 0] 60) (fun i _=>l.length - (intOf i).toNat)
 case atStart=>exact ⟨0,0,0,Nat.zero_le _,rfl,rfl,by (repeat (first | exact Below.refl _ _ | assumption | refine balloc ?_ _ | refine below_drewN ?_ _ | refine bstep (by assumption) ?_ | refine bstep (Past.prop _) ?_ | refine Below.setCell ?_ (by first | exact Nat.le_refl _ | (simp;done) | (simp;omega)) _)),Blk.made_at _ _ _ _ (by simp),(Blk.made _ _ _).alloc _⟩
 case round =>
  obtain ⟨k,x,y,hk,rfl,hs,hb,s1,s0⟩:=hrel
  have HS:=hidE hs;clear hs
  have c10:=s1.cell 0;have c11:=s1.cell 1;have f1:=s1.free;have c00:=s0.cell 0;have c01:=s0.cell 1;have f0:=s0.free
  simp at c10 c11 c00 c01
  have z1:=s1.lt;have z0:=s0.lt
  by_cases hlt:k<l.length
  ·have e0:=(HC.out k hlt).1;have e1:=(HC.out k hlt).2
   rw[←hb.cell hb0] at e0 e1
   have HD:=hidE (drop_getD l k hlt)
   generalize l.getD k (0,0)=v at *
   have HG:=hidE (vadd x y v.1 v.2)
   have HS':=HS.out
   rw[HD.out] at HS'
   unfold addFrom at HS'
   generalize hg:addS x y v.1 v.2=g at *
   clear HS hg
   by_cases hg0:g.2.2=0
   ·rw[if_pos hg0] at HS'
    have HT:=hidE HS';clear HS'
    have g1:(g.2.2 == 0)=true:=beq_iff_eq.2 hg0
    have g2:(g.2.2 != 0)=false:=by rw[bne_eq_false_iff_eq];exact hg0
    clear hg0
    go_wp2_with (go_at_call 185;((with_reducible refine (HG.out _).mono ?_);rintro e w' ⟨rfl,hb2⟩;obtain ⟨hc,hf⟩:=bcell hb2;have y1:=bsz hb2 (w.heap.size+1) (by simp;omega);have y0:=bsz hb2 (w.heap.size) (by simp;omega)))
    exact ⟨⟨k+1,g.1,g.2.1,by omega,by go_num,HT.out,by (repeat (first | exact Below.refl _ _ | assumption | refine balloc ?_ _ | refine below_drewN ?_ _ | refine bstep (by assumption) ?_ | refine bstep (Past.prop _) ?_ | refine Below.setCell ?_ (by first | exact Nat.le_refl _ | (simp;done) | (simp;omega)) _)),(((s1.alloc _).past hb2).set 0 _).set 1 _,(((s0.alloc _).past hb2).other (by omega) _).other (by omega) _⟩,by simp[intOf];omega⟩
   ·rw[if_neg hg0] at HS'
    have HT:=hidE HS';clear HS'
    have g1:(g.2.2 == 0)=false:=beq_eq_false_iff_ne.2 hg0
    have g2:(g.2.2 != 0)=true:=bne_iff_ne.2 hg0
    clear hg0
    go_wp2_with (go_at_call 185;((with_reducible refine (HG.out _).mono ?_);rintro e w' ⟨rfl,hb2⟩;obtain ⟨hc,hf⟩:=bcell hb2;have y1:=bsz hb2 (w.heap.size+1) (by simp;omega);have y0:=bsz hb2 (w.heap.size) (by simp;omega)))
    have B0:=(((((s0.alloc _).past hb2).other (b:=w.heap.size+1) (i:=0) (by omega) (.int .i64 g.1)).other (b:=w.heap.size+1) (i:=1) (by omega) (.int .i64 g.2.1)).set 0 (.int .i64 0)).set 1 (.int .i64 0)
    have d0:=B0.cell 0;have d1:=B0.cell 1
    simp at d0 d1
    refine bodyPost_ret (v:=VE (0,0,g.2.2)) (by simp[results,Tryz.results151,go_sem,d0,d1]) rfl ⟨by rw[←HT.out], ?_⟩
    (repeat (first | exact Below.refl _ _ | assumption | refine balloc ?_ _ | refine below_drewN ?_ _ | refine bstep (by assumption) ?_ | refine bstep (Past.prop _) ?_ | refine Below.setCell ?_ (by first | exact Nat.le_refl _ | (simp;done) | (simp;omega)) _))
  ·go_wp2
   have:k=l.length:=by omega
   subst this
   have e:=HS.out
   rw[List.drop_length] at e
   refine bodyPost_ret (v:=VE (x,y,0)) (by simp[results,Tryz.results151,go_sem, *]) rfl ⟨by rw[←e];rfl, ?_⟩
   (repeat (first | exact Below.refl _ _ | assumption | refine balloc ?_ _ | refine below_drewN ?_ _ | refine bstep (by assumption) ?_ | refine bstep (Past.prop _) ?_ | refine Below.setCell ?_ (by first | exact Nat.le_refl _ | (simp;done) | (simp;omega)) _))
end
end Go.Proofs.YtcmponckjkalaaaGreat
