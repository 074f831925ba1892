/- The contract of the document's own list of times. No conditions but the list's size. Appending a slice of numbers to a row that a call owns. No function of the program. No conditions. The contract of the document's own list of the times of two functions. No conditions but the lists' sizes. The contracts of the document's own answers for vec: sums, differences, least, .. -/
import Derived.Test.YtcmponckjkalaaaGreatPUGF
import Derived.Test.YtcmponckjkalaaaGreatPUMB
import Derived.Test.YtcmponckjkalaaaGreatPUGE
namespace Go.Proofs.YtcmponckjkalaaaGreat
section
open Go.ChangeShapes Go.WideShapes Go.ChangeAt Go.RowKit
attribute [local irreducible] Go.Calls
def SrcI (w:World) (v:Value) (l:List Int):Prop:=∃ (a:Option Addr) (cap:Nat),v = .slice a l.length cap∧(a=none→l=[]∧cap=0)∧∀ ad,a=some ad→∀ j u,(cellsI l)[j]? = some u→w.cell? (ad.add j)=some u
theorem step_append_src {P:Program} {ops:Array Oper} {o:Oper} {a:Act} {w:World} {K:Act→World→Prop} {Q:Exit→Act→World→Prop} {E:Prop}
  (hg:o.guard=none) (s x:Operand) (t:TypeId) (hop:o.op=Op.call { callee:=Callee.builtin Builtin.append,args:=#[s,x],argTypes:=#[t,t] })
  (base:Nat) (e:TypeId) (i:TypeInfo) (ht:P.underlying t=some (.slice e)) (hi:P.info? e=some i) (hz:i.zero=some (.int .i64 0)) (hsize:i.size=1) (hby:i.bytes=8)
  (v:Value) (n:Nat) (xs:List Value) (hs:a.eval s=v) (hown:w.ownsRow base e 1 v n xs)
  (vx:Value) (news:List Int) (hx:a.eval x=vx) (hsrc:SrcI w vx news)
  (h63:n+news.length≤1099511627776) (hbase:base≤w.heap.size)
  (h:∀ v' w',w'.ownsRow base e 1 v' (n+news.length) (xs++cellsI news)→w.grownBy w' v.ownBlock→K (a.put o.dst v') w') :
  if Region.wanted o (yielded ops a.tmps)=true then Oper.wp P o a w K Q else E:=by
 have hw:Region.wanted o (yielded ops a.tmps)=true:=by simp[Region.wanted,hg]
 rw[if_pos hw]
 obtain ⟨ad,cap,rfl,hn,hc⟩:=hsrc
 cases ad with
 | none =>
  obtain ⟨rfl,rfl⟩:=hn rfl
  have hrun:=run_append_owned_none (P:=P) (w:=w) base t o.type e i 1 ht hi v n xs hown
  have hK:=h v w (by simpa [cellsI] using hown) ⟨rfl,rfl,rfl,Nat.le_refl _,fun _ _ _=>rfl⟩
  unfold Oper.wp
  simp[execOp,hop,resolve,invoke,builtin,hs,hx,hrun,Result.andThen]
  exact hK
 | some ad =>
  exact wp_append_own w s x t hop base e i (.int .i64 0) 1 8 ht hi hz hsize hby rfl (by decide) v n xs hs hown ad news.length cap (cellsI news) hx (by simp[cellsI]) (hc ad rfl) (cellsI_one news) (by unfold maxLen;omega) (by omega) hbase fun v' w' h1 h2 _=>h v' w' h1 h2
theorem step_app {P:Program} {ops:Array Oper} {o:Oper} {a:Act} {w:World} {K:Act→World→Prop} {Q:Exit→Act→World→Prop} {E:Prop}
  (hg:o.guard=none) (s x:Operand) (t:TypeId) (hop:o.op=Op.call { callee:=Callee.builtin Builtin.append,args:=#[s,x],argTypes:=#[t,t] })
  (W0:World) (e:TypeId) (i:TypeInfo) (ht:P.underlying t=some (.slice e)) (hi:P.info? e=some i) (hz:i.zero=some (.int .i64 0)) (hsize:i.size=1) (hby:i.bytes=8)
  (v:Value) (n:Nat) (xs:List Value) (hs:a.eval s=v) (hown:w.ownsRow W0.heap.size e 1 v n xs)
  (vx:Value) (news:List Int) (hx:a.eval x=vx) (hsrc:SrcI w vx news)
  (h63:n+news.length≤1099511627776) (hb:Below W0.heap.size W0 w)
  (h:∀ v' w',w'.ownsRow W0.heap.size e 1 v' (n+news.length) (xs++cellsI news)→Below W0.heap.size W0 w'→(∀ k cs t,Blk w k cs t→v.ownBlock≠some k→Blk w' k cs t)→K (a.put o.dst v') w') :
  if Region.wanted o (yielded ops a.tmps)=true then Oper.wp P o a w K Q else E :=
 step_append_src hg s x t hop W0.heap.size e i ht hi hz hsize hby v n xs hs hown vx news hx hsrc h63 hb.size fun v' w' h1 h2 =>
  h v' w' h1 (hb.grown h2 hb.size (fun _k hk=>own_block hown hk)) (fun _k _cs _t hB hne=>hB.grown h2 (fun e=>hne e.symm))
theorem own_empty {w:World} {p base:Nat} {e:TypeId} (hB:Blk w p #[] e) (hp:base≤p):w.ownsRow base e 1 (.slice (some ⟨p,0,none⟩) 0 0) 0 [] :=
 ⟨rfl,.inr ⟨p,0,#[],rfl,hp,hB,Nat.le_refl _,Nat.zero_le _,rfl,rfl⟩⟩
theorem own_low {w:World} {B B':Nat} {e:TypeId} {sz:Nat} {v:Value} {n:Nat} {xs:List Value} (h:w.ownsRow B e sz v n xs) (hB:B'≤B):w.ownsRow B' e sz v n xs:=by
 obtain ⟨h1,h2 | ⟨g,cap,cur,h3,h4,h5⟩⟩:=h
 ·exact ⟨h1,.inl h2⟩
 ·exact ⟨h1,.inr ⟨g,cap,cur,h3,Nat.le_trans hB h4,h5⟩⟩
theorem src_one {w:World} {p:Nat} {x:Int} {t:TypeId} (hB:Blk w p #[.int .i64 x] t):SrcI w (.slice (some ⟨p,0,none⟩) 1 1) [x]:=by
 refine ⟨some ⟨p,0,none⟩,1,rfl,(fun h=>by cases h),fun ad had j u hj => ?_⟩
 cases had
 have hj0:j=0:=by
  have:=(List.getElem?_eq_some_iff.1 hj).1
  simp[cellsI] at this;exact this
 subst hj0
 have e:((⟨p,0,none⟩:Addr).add 0)=⟨p,0,none⟩:=by simp[Addr.add]
 rw[e,hB.cell 0,←hj];rfl
theorem src_nil (w:World):SrcI w (.slice none 0 0) []:=⟨none,0,rfl,fun _=>⟨rfl,rfl⟩,fun _ h=>by cases h⟩
theorem cellsI_app (l r:List Int):cellsI (l++r)=cellsI l++cellsI r:=by unfold cellsI;rw[List.map_append]
theorem own_fin {w:World} {B:Nat} {e:TypeId} {v:Value} {o:List Int} {x:Int} {j:Nat} (h:w.ownsRow B e 1 v (0+(o.take j).length+[x].length+(o.drop j).length) ([]++cellsI (o.take j)++cellsI [x]++cellsI (o.drop j))) (hins:insT x o=o.take j++x :: o.drop j) :
  w.ownsRow B e 1 v (insT x o).length (cellsI (insT x o)):=by
 have e1:(insT x o).length=0+(o.take j).length+[x].length+(o.drop j).length:=by rw[hins];simp;omega
 have e2:cellsI (insT x o)=[]++cellsI (o.take j)++cellsI [x]++cellsI (o.drop j):=by
  rw[hins,show o.take j++x :: o.drop j=o.take j++([x]++o.drop j) from rfl,cellsI_app,cellsI_app,List.nil_append,List.append_assoc]
 rw[e1,e2];exact h
theorem src_take {w:World} {g cap j n:Nat} {o:List Int} (hc:∀ i,i<o.length→w.cell? ⟨g,i,none⟩=some (.int .i64 (o.getD i 0))) (hj:j≤o.length) (hn:n=j):SrcI w (.slice (some ⟨g,0,none⟩) n cap) (o.take j):=by
 subst hn
 refine ⟨some ⟨g,0,none⟩,cap,by simp[Nat.min_eq_left hj],(fun h=>by cases h),fun ad had i u hu => ?_⟩
 cases had
 have hi:=(List.getElem?_eq_some_iff.1 hu).1
 simp[cellsI] at hi
 have e:((⟨g,0,none⟩:Addr).add i)=⟨g,i,none⟩:=by
  unfold Addr.add
  by_cases c:i=0
  ·subst c;simp
  ·simp[c]
 rw[e,hc i (by omega),←hu]
 unfold cellsI
 rw[List.getElem?_map,List.getElem?_take,if_pos (by omega),List.getElem?_eq_getElem (by omega),getD_get _ _ _ (by omega)];rfl
theorem src_drop {w:World} {g cap j n p:Nat} {o:List Int} (hc:∀ i,i<o.length→w.cell? ⟨g,i,none⟩=some (.int .i64 (o.getD i 0))) (hj:j≤o.length) (hn:n=o.length - j) (hp:p=j∨j=o.length):SrcI w (.slice (some ⟨g,p,none⟩) n cap) (o.drop j):=by
 subst hn
 refine ⟨some ⟨g,p,none⟩,cap,by simp,(fun h=>by cases h),fun ad had i u hu => ?_⟩
 cases had
 have hi:=(List.getElem?_eq_some_iff.1 hu).1
 simp[cellsI] at hi
 have hpj:p=j:=by omega
 subst hpj
 have e:((⟨g,p,none⟩:Addr).add i)=⟨g,p+i,none⟩:=by
  unfold Addr.add
  by_cases c:i=0
  ·subst c;simp
  ·simp[c]
 rw[e,hc (p+i) (by omega),←hu]
 unfold cellsI
 rw[List.getElem?_map,List.getElem?_drop,List.getElem?_eq_getElem (by omega),getD_get _ _ _ (by omega)];rfl
theorem own_cells {w:World} {g:Nat} {e:TypeId} {cur:Array Value} {o:List Int} (h:w.heap[g]? = some (.cells cur e (0,0))) (ht:cur.toList.take (o.length * 1)=cellsI o):∀ i,i<o.length→w.cell? ⟨g,i,none⟩=some (.int .i64 (o.getD i 0)):=fun i hi=>by
 have hg:=cellsI_get hi
 have e:w.cell? ⟨g,i,none⟩=cur[i]? := by simp[World.cell?,h]
 rw[e,←Array.getElem?_toList]
 rw[←ht,List.getElem?_take,if_pos (by omega)] at hg
 exact hg
set_option maxRecDepth 100000 in
set_option maxHeartbeats 8000000 in
theorem rtimes_c (l:List Int) (a:Option Addr) (cap:Nat) (w:World) (hl:l.length≤1000000000) (hA:ArgI w a l) :
  Calls Tryz.prog 138 #[.slice a l.length cap] w (RetV w fun v w'=>w'.ownsRow w.heap.size 2 1 v (timesL l).length (cellsI (timesL l))):=by
 have HA:=hidE hA;clear hA
 obtain ⟨i0,hi,hz0,hz1,hz2⟩:=info_parts Tryz.infoI64
 have HI:=hidE hi;have HZ0:=hidE hz0;have HZ1:=hidE hz1;have HZ2:=hidE hz2
 clear hi hz0 hz1 hz2
 go_enter Tryz.func138,Tryz.ntmps138
 go_wp2
 go_loopg [3,4,5] l.length (fun g vf vi _ wr=>∃ (k:Nat) (v:Value),v=vf∧k≤l.length∧l.length - k≤g∧vi = .int .i64 k∧Below w.heap.size w wr∧wr.ownsRow w.heap.size 2 1 v (timesL (l.take k)).length (cellsI (timesL (l.take k))))
 case atStart=>exact ⟨0,.slice none 0 0,rfl,Nat.zero_le _,by omega,rfl,Below.refl _ _,⟨rfl,.inl ⟨rfl,rfl⟩⟩⟩
 case round =>
  obtain ⟨k,v,rfl,hk,hg,rfl,hb,ho⟩:=hrel
  have HB:=hidE hb;have HO:=hidE ho;clear hb ho
  by_cases hlt:k<l.length
  ·obtain ⟨b,off,rfl,hbb,hc⟩:=(HA.out.past HB.out) (by omega)
   have d0:=hc k hlt
   have HT:=hidE (timesL_step hlt)
   have htl:=timesL_len (l.take k)
   rw[List.length_take] at htl
   generalize timesL (l.take k)=o at *
   generalize l.getD k 0=x at *
   have hsz:=HB.out.size
   have hho:=HO.out
   obtain ⟨hol,⟨rfl,ho0⟩ | ⟨g,co,cur,rfl,hgB,hgh,hlc,hcm,hcs,hct⟩⟩:=hho
   ·have:o=[]:=List.eq_nil_of_length_eq_zero ho0
    subst this
    have HR:=hidE (show insT x []=[x] from rfl)
    clear hc hol ho0
    obtain ⟨wo,rfl⟩:∃ wo:World,wo=wr:=⟨_,rfl⟩
    go_wp2_with fail
    go_loopg [5] 0 (fun g2 vj wr2=>vj = .int .i64 0∧wr2=wo)
    case atStart=>exact ⟨rfl,rfl⟩
    case round =>
     obtain ⟨rfl,rfl⟩:=hrel
     go_wp2_with fail
     refine wp_region_past_lit (by kernel_rfl) (by kernel_rfl) ?_
     repeat (go_big_quiet_step (fail))
     refine wpQuiet_nil ?_
     rintro _ ⟨x',rfl⟩
     have o1:=own_below HO.out x'.2
     have o2:Below w.heap.size w x'.1:=by have:=HB.out;(repeat (first | exact Below.refl _ _ | assumption | refine balloc ?_ _ | refine below_drewN ?_ _ | refine bstep (by assumption) ?_ | refine bstep (Past.prop _) ?_ | refine Below.setCell ?_ (by first | exact Nat.le_refl _ | (simp;done) | (simp;omega)) _))
     have o3:b<x'.1.heap.size:=Nat.lt_of_lt_of_le hbb x'.2.size
     have o4:=(x'.2.cell (p:=⟨b,off+k,none⟩) hbb).trans d0
     clear HO HB d0 hbb
     generalize x'.1=w5 at *
     go_wp2_with fail
     refine wp_region_past_lit (by kernel_rfl) (by kernel_rfl) ?_
     repeat (go_big_quiet_step (fail))
     refine wpQuiet_nil ?_
     rintro _ ⟨x',rfl⟩
     have o1:=own_below o1 x'.2
     have o2':Below w.heap.size w x'.1:=by (repeat (first | exact Below.refl _ _ | assumption | refine balloc ?_ _ | refine below_drewN ?_ _ | refine bstep (by assumption) ?_ | refine bstep (Past.prop _) ?_ | refine Below.setCell ?_ (by first | exact Nat.le_refl _ | (simp;done) | (simp;omega)) _))
     have o4:=(x'.2.cell (p:=⟨b,off+k,none⟩) o3).trans o4
     have o3:b<x'.1.heap.size:=Nat.lt_of_lt_of_le o3 x'.2.size
     clear o2
     generalize x'.1=w6 at *
     go_wp2_with fail
     have HS3:=hidE (fun (w':World) (_:Below w6.heap.size w6 w')=>src_nil w')
     have HS1:=hidE (fun (w':World) (_:Below w6.heap.size w6 w')=>src_nil w')
     have ho2:=hidE o2'
     go_region_law (first | (refine step_app rfl (.tmp 44) (.tmp 47) 207 rfl w6 2 i0 Tryz.underlying207 HI.out HZ0.out HZ1.out HZ2.out (.slice (some ⟨w6.heap.size,0,none⟩) 0 0) 0 [] rfl (own_empty (p:=w6.heap.size) ((Blk.made _ _ _).drew 1) (by omega)) _ _ rfl (HS1.out _ (by (repeat (first | exact Below.refl _ _ | assumption | refine balloc ?_ _ | refine below_drewN ?_ _ | refine bstep (by assumption) ?_ | refine bstep (Past.prop _) ?_ | refine Below.setCell ?_ (by first | exact Nat.le_refl _ | (simp;done) | (simp;omega)) _)))) (by (try simp only[List.length_nil]);omega) (by (repeat (first | exact Below.refl _ _ | assumption | refine balloc ?_ _ | refine below_drewN ?_ _ | refine bstep (by assumption) ?_ | refine bstep (Past.prop _) ?_ | refine Below.setCell ?_ (by first | exact Nat.le_refl _ | (simp;done) | (simp;omega)) _))) ?_;intro v1 w1 own1 hb1 keep1;have hcell1:=(hb1.cell (p:=⟨b,off+k,none⟩) o3).trans o4;have hsz1:=hb1.size) | (refine step_app rfl (.tmp 44) (.tmp 47) 207 rfl w6 2 i0 Tryz.underlying207 HI.out HZ0.out HZ1.out HZ2.out (.slice (some ⟨w6.heap.size,0,none⟩) 0 0) 0 [] rfl (own_empty (p:=w6.heap.size) (((Blk.made _ _ _).alloc _).drew 1) (by omega)) _ _ rfl (HS1.out _ (by (repeat (first | exact Below.refl _ _ | assumption | refine balloc ?_ _ | refine below_drewN ?_ _ | refine bstep (by assumption) ?_ | refine bstep (Past.prop _) ?_ | refine Below.setCell ?_ (by first | exact Nat.le_refl _ | (simp;done) | (simp;omega)) _)))) (by (try simp only[List.length_nil]);omega) (by (repeat (first | exact Below.refl _ _ | assumption | refine balloc ?_ _ | refine below_drewN ?_ _ | refine bstep (by assumption) ?_ | refine bstep (Past.prop _) ?_ | refine Below.setCell ?_ (by first | exact Nat.le_refl _ | (simp;done) | (simp;omega)) _))) ?_;intro v1 w1 own1 hb1 keep1;have hcell1:=(hb1.cell (p:=⟨b,off+k,none⟩) o3).trans o4;have hsz1:=hb1.size) | (refine step_app rfl (.tmp 44) (.tmp 47) 207 rfl w6 2 i0 Tryz.underlying207 HI.out HZ0.out HZ1.out HZ2.out (.slice (some ⟨w6.heap.size+1,0,none⟩) 0 0) 0 [] rfl (own_empty (p:=w6.heap.size+1) ((Blk.made_at _ _ _ _ (by simp)).drew 1) (by omega)) _ _ rfl (HS1.out _ (by (repeat (first | exact Below.refl _ _ | assumption | refine balloc ?_ _ | refine below_drewN ?_ _ | refine bstep (by assumption) ?_ | refine bstep (Past.prop _) ?_ | refine Below.setCell ?_ (by first | exact Nat.le_refl _ | (simp;done) | (simp;omega)) _)))) (by (try simp only[List.length_nil]);omega) (by (repeat (first | exact Below.refl _ _ | assumption | refine balloc ?_ _ | refine below_drewN ?_ _ | refine bstep (by assumption) ?_ | refine bstep (Past.prop _) ?_ | refine Below.setCell ?_ (by first | exact Nat.le_refl _ | (simp;done) | (simp;omega)) _))) ?_;intro v1 w1 own1 hb1 keep1;have hcell1:=(hb1.cell (p:=⟨b,off+k,none⟩) o3).trans o4;have hsz1:=hb1.size) | (refine step_app rfl (.tmp 48) (.tmp 53) 207 rfl w6 2 i0 Tryz.underlying207 HI.out HZ0.out HZ1.out HZ2.out _ _ _ rfl (own1.alloc _) _ [x] rfl (src_one (Blk.made _ _ _)) (by (try simp only[List.length_cons,List.length_nil]);omega) (by (repeat (first | exact Below.refl _ _ | assumption | refine balloc ?_ _ | refine below_drewN ?_ _ | refine bstep (by assumption) ?_ | refine bstep (Past.prop _) ?_ | refine Below.setCell ?_ (by first | exact Nat.le_refl _ | (simp;done) | (simp;omega)) _))) ?_;intro v2 w2 own2 hb2 keep2) | (refine step_app rfl (.tmp 48) (.tmp 53) 207 rfl w6 2 i0 Tryz.underlying207 HI.out HZ0.out HZ1.out HZ2.out _ _ _ rfl (own1) _ [x] rfl (src_one (keep1 w6.heap.size _ _ (((Blk.made _ _ _).alloc _).drew 1) (by simp[Value.ownBlock]))) (by (try simp only[List.length_cons,List.length_nil]);omega) (by (repeat (first | exact Below.refl _ _ | assumption | refine balloc ?_ _ | refine below_drewN ?_ _ | refine bstep (by assumption) ?_ | refine bstep (Past.prop _) ?_ | refine Below.setCell ?_ (by first | exact Nat.le_refl _ | (simp;done) | (simp;omega)) _))) ?_;intro v2 w2 own2 hb2 keep2) | (refine step_app rfl (.tmp 48) (.tmp 53) 207 rfl w6 2 i0 Tryz.underlying207 HI.out HZ0.out HZ1.out HZ2.out _ _ _ rfl (own1) _ [x] rfl (src_one (keep1 (w6.heap.size+1) _ _ ((Blk.made_at _ _ _ _ (by simp)).drew 1) (by simp[Value.ownBlock]))) (by (try simp only[List.length_cons,List.length_nil]);omega) (by (repeat (first | exact Below.refl _ _ | assumption | refine balloc ?_ _ | refine below_drewN ?_ _ | refine bstep (by assumption) ?_ | refine bstep (Past.prop _) ?_ | refine Below.setCell ?_ (by first | exact Nat.le_refl _ | (simp;done) | (simp;omega)) _))) ?_;intro v2 w2 own2 hb2 keep2) | (refine step_app rfl (.tmp 54) (.tmp 57) 207 rfl w6 2 i0 Tryz.underlying207 HI.out HZ0.out HZ1.out HZ2.out _ _ _ rfl own2 _ _ rfl (HS3.out _ (by (repeat (first | exact Below.refl _ _ | assumption | refine balloc ?_ _ | refine below_drewN ?_ _ | refine bstep (by assumption) ?_ | refine bstep (Past.prop _) ?_ | refine Below.setCell ?_ (by first | exact Nat.le_refl _ | (simp;done) | (simp;omega)) _)))) (by (try simp only[List.length_cons,List.length_nil]);omega) (by (repeat (first | exact Below.refl _ _ | assumption | refine balloc ?_ _ | refine below_drewN ?_ _ | refine bstep (by assumption) ?_ | refine bstep (Past.prop _) ?_ | refine Below.setCell ?_ (by first | exact Nat.le_refl _ | (simp;done) | (simp;omega)) _))) ?_;intro v3 w3 own3 hb3 keep3))
     all_goals
      go_wp2
      have hown3:=own_fin (o:=[]) (j:=0) own3 rfl
      rw[←HT.out] at hown3
      have HO3:=hidE (own_low hown3 o2'.size);have HB3:=hidE (o2'.trans (hb3.mono o2'.size))
      clear hown3
      go_roundg (l.length - (k+1))
      case measure=>omega
      case rel=>exact ⟨k+1,v3,rfl,by omega,Nat.le_refl _,by go_num,HB3.out,HO3.out⟩
   ·have hcells:=own_cells hgh hct
    have hglt:g<wr.heap.size:=lt_of_block hgh
    have HC:=hidE hcells
    clear hc hol hgh hct hcs hcells
    have hcm':co≤9223372036854775807:=hcm
    obtain ⟨wo,rfl⟩:∃ wo:World,wo=wr:=⟨_,rfl⟩
    go_wp2_with fail
    go_loopg [5] o.length (fun g2 vj wr2=>∃ j:Nat,vj = .int .i64 j∧j≤o.length∧o.length - j≤g2∧(∀ i,i<j→o.getD i 0<x)∧Below wo.heap.size wo wr2)
    case atStart=>exact ⟨0,rfl,Nat.zero_le _,by omega,fun i hi=>by omega,Below.refl _ _⟩
    case round =>
     obtain ⟨j,rfl,hj,hg2,hj2,hbr⟩:=hrel
     have HJ:=hidE hj2;have HBR:=hidE hbr
     have d1:=(hbr.cell (p:=⟨b,off+k,none⟩) hbb).trans d0
     have hbb2:=Nat.lt_of_lt_of_le hbb hbr.size
     have hgl2:=Nat.lt_of_lt_of_le hglt hbr.size
     clear hj2 hbr
     by_cases hjl:j<o.length
     ·have c0:=(HBR.out.cell (p:=⟨g,j,none⟩) hglt).trans (HC.out j hjl)
      have hjd:decide ((j:Int)<(o.length:Int))=true:=decide_eq_true (by omega)
      by_cases hjx:o.getD j 0<x
      ·have HJ2:=hidE (show ∀ i,i<j+1→o.getD i 0<x from fun i hi=>by
        by_cases e:i=j
        ·rw[e];exact hjx
        ·exact HJ.out i (by omega))
       have hd:decide (o.getD j 0<x)=true:=decide_eq_true hjx
       clear hjx
       generalize o.getD j 0=y at *
       go_wp2_with fail
       refine wp_region_past_lit (by kernel_rfl) (by kernel_rfl) ?_
       have hcp:=Past.cell (W:=wr)
       repeat (go_big_quiet_step (fail))
       refine wpQuiet_nil ?_
       rintro _ ⟨x',rfl⟩
       have o1:=bstep x'.2 HBR.out
       clear hcp d1 c0
       generalize x'.1=w5 at *
       go_wp2
       go_roundg (o.length - (j+1))
       case measure=>omega
       case rel=>exact ⟨j+1,by go_num,by omega,Nat.le_refl _,HJ2.out,o1⟩
      ·have hd:decide (o.getD j 0<x)=false:=decide_eq_false hjx
       have HI2:=hidE (insT_at (x:=x) (o:=o) (k:=j) hj HJ.out (fun _=>hjx))
       by_cases hjq:o.getD j 0=x
       ·have HS:=hidE (show insT x o=o by rw[HI2.out,if_pos ⟨hjl,hjq⟩])
        have hde:(o.getD j 0 == x)=true:=beq_iff_eq.2 hjq
        clear hjx hjq HI2
        generalize o.getD j 0=y at *
        go_wp2_with fail
        refine wp_region_past_lit (by kernel_rfl) (by kernel_rfl) ?_
        have hcp:=Past.cell (W:=wr)
        repeat (go_big_quiet_step (fail))
        refine wpQuiet_nil ?_
        rintro _ ⟨x',rfl⟩
        have o1:=bstep x'.2 HBR.out
        have e1:=(x'.2.cell (p:=⟨b,off+k,none⟩) hbb2).trans d1
        have e2:=(x'.2.cell (p:=⟨g,j,none⟩) hgl2).trans c0
        have hb5:=Nat.lt_of_lt_of_le hbb2 x'.2.size
        have hg5:=Nat.lt_of_lt_of_le hgl2 x'.2.size
        clear hcp d1 c0 HBR
        generalize x'.1=w5 at *
        go_wp2_with fail
        refine wp_region_past_lit (by kernel_rfl) (by kernel_rfl) ?_
        have hcp:=Past.cell (W:=w5)
        repeat (go_big_quiet_step (fail))
        refine wpQuiet_nil ?_
        rintro _ ⟨x',rfl⟩
        have o1:=bstep x'.2 o1
        clear hcp e1 e2
        generalize x'.1=w6 at *
        have HB6:=hidE (HB.out.trans (o1.mono hsz))
        have HO6:=hidE (show w6.ownsRow w.heap.size 2 1 (.slice (some ⟨g,0,none⟩) o.length co) (timesL (l.take (k+1))).length (cellsI (timesL (l.take (k+1)))) by rw[HT.out,HS.out];exact own_below HO.out o1)
        clear o1
        go_wp2
        go_roundg (l.length - (k+1))
        case measure=>omega
        case rel=>exact ⟨k+1,_,rfl,by omega,Nat.le_refl _,by go_num,HB6.out,HO6.out⟩
       ·have HI3:=hidE (show insT x o=o.take j++x :: o.drop j by rw[HI2.out,if_neg (fun q=>hjq q.2)])
        have hde:(o.getD j 0 == x)=false:=beq_eq_false_iff_ne.2 hjq
        clear hjx hjq HI2 HJ
        generalize o.getD j 0=y at *
        go_wp2_with fail
        refine wp_region_past_lit (by kernel_rfl) (by kernel_rfl) ?_
        have hcp:=Past.cell (W:=wr)
        repeat (go_big_quiet_step (fail))
        refine wpQuiet_nil ?_
        rintro _ ⟨x',rfl⟩
        have o1:=bstep x'.2 HBR.out
        have e1:=(x'.2.cell (p:=⟨b,off+k,none⟩) hbb2).trans d1
        have e2:=(x'.2.cell (p:=⟨g,j,none⟩) hgl2).trans c0
        have hb5:=Nat.lt_of_lt_of_le hbb2 x'.2.size
        have hg5:=Nat.lt_of_lt_of_le hgl2 x'.2.size
        clear hcp d1 HBR c0
        generalize x'.1=w5 at *
        go_wp2_with fail
        refine wp_region_past_lit (by kernel_rfl) (by kernel_rfl) ?_
        have hcp:=Past.cell (W:=w5)
        repeat (go_big_quiet_step (fail))
        refine wpQuiet_nil ?_
        rintro _ ⟨x',rfl⟩
        have o1:=bstep x'.2 o1
        have o4:=(x'.2.cell (p:=⟨b,off+k,none⟩) hb5).trans e1
        have o3:=Nat.lt_of_lt_of_le hb5 x'.2.size
        have hg6:=Nat.lt_of_lt_of_le hg5 x'.2.size
        clear hcp e1 hb5 hg5 e2
        generalize x'.1=w6 at *
        have o2':=HB.out.trans (o1.mono hsz)
        have HCW:=hidE (fun (w':World) (hw':Below w6.heap.size w6 w') (i:Nat) (hi:i<o.length)=>((bstep hw' o1).cell (p:=⟨g,i,none⟩) hglt).trans (HC.out i hi))
        have HS1:=hidE (fun (n:Nat) (hn:n=j) (w':World) (hw':Below w6.heap.size w6 w')=>src_take (cap:=co) (n:=n) (HCW.out w' hw') hj hn)
        have HS3:=hidE (fun (n p c:Nat) (hn:n=o.length - j) (hp:p=j∨j=o.length) (w':World) (hw':Below w6.heap.size w6 w')=>src_drop (cap:=c) (n:=n) (p:=p) (HCW.out w' hw') hj hn hp)
        clear HC HO HB d0 o1
        have hjco:j≤co:=by omega
        have hjcz:(j:Int)≤(co:Int):=by omega
        by_cases hjc:j=co
        ·subst hjc
         go_wp2_with fail
         go_region_law (first | (refine step_app rfl (.tmp 44) (.tmp 47) 207 rfl w6 2 i0 Tryz.underlying207 HI.out HZ0.out HZ1.out HZ2.out (.slice (some ⟨w6.heap.size,0,none⟩) 0 0) 0 [] rfl (own_empty (p:=w6.heap.size) ((Blk.made _ _ _).drew 1) (by omega)) _ _ rfl (HS1.out _ (by omega) _ (by (repeat (first | exact Below.refl _ _ | assumption | refine balloc ?_ _ | refine below_drewN ?_ _ | refine bstep (by assumption) ?_ | refine bstep (Past.prop _) ?_ | refine Below.setCell ?_ (by first | exact Nat.le_refl _ | (simp;done) | (simp;omega)) _)))) (by (try simp only[List.length_take]);omega) (by (repeat (first | exact Below.refl _ _ | assumption | refine balloc ?_ _ | refine below_drewN ?_ _ | refine bstep (by assumption) ?_ | refine bstep (Past.prop _) ?_ | refine Below.setCell ?_ (by first | exact Nat.le_refl _ | (simp;done) | (simp;omega)) _))) ?_;intro v1 w1 own1 hb1 keep1;have hcell1:=(hb1.cell (p:=⟨b,off+k,none⟩) o3).trans o4;have hsz1:=hb1.size) | (refine step_app rfl (.tmp 44) (.tmp 47) 207 rfl w6 2 i0 Tryz.underlying207 HI.out HZ0.out HZ1.out HZ2.out (.slice (some ⟨w6.heap.size,0,none⟩) 0 0) 0 [] rfl (own_empty (p:=w6.heap.size) (((Blk.made _ _ _).alloc _).drew 1) (by omega)) _ _ rfl (HS1.out _ (by omega) _ (by (repeat (first | exact Below.refl _ _ | assumption | refine balloc ?_ _ | refine below_drewN ?_ _ | refine bstep (by assumption) ?_ | refine bstep (Past.prop _) ?_ | refine Below.setCell ?_ (by first | exact Nat.le_refl _ | (simp;done) | (simp;omega)) _)))) (by (try simp only[List.length_take]);omega) (by (repeat (first | exact Below.refl _ _ | assumption | refine balloc ?_ _ | refine below_drewN ?_ _ | refine bstep (by assumption) ?_ | refine bstep (Past.prop _) ?_ | refine Below.setCell ?_ (by first | exact Nat.le_refl _ | (simp;done) | (simp;omega)) _))) ?_;intro v1 w1 own1 hb1 keep1;have hcell1:=(hb1.cell (p:=⟨b,off+k,none⟩) o3).trans o4;have hsz1:=hb1.size) | (refine step_app rfl (.tmp 44) (.tmp 47) 207 rfl w6 2 i0 Tryz.underlying207 HI.out HZ0.out HZ1.out HZ2.out (.slice (some ⟨w6.heap.size+1,0,none⟩) 0 0) 0 [] rfl (own_empty (p:=w6.heap.size+1) ((Blk.made_at _ _ _ _ (by simp)).drew 1) (by omega)) _ _ rfl (HS1.out _ (by omega) _ (by (repeat (first | exact Below.refl _ _ | assumption | refine balloc ?_ _ | refine below_drewN ?_ _ | refine bstep (by assumption) ?_ | refine bstep (Past.prop _) ?_ | refine Below.setCell ?_ (by first | exact Nat.le_refl _ | (simp;done) | (simp;omega)) _)))) (by (try simp only[List.length_take]);omega) (by (repeat (first | exact Below.refl _ _ | assumption | refine balloc ?_ _ | refine below_drewN ?_ _ | refine bstep (by assumption) ?_ | refine bstep (Past.prop _) ?_ | refine Below.setCell ?_ (by first | exact Nat.le_refl _ | (simp;done) | (simp;omega)) _))) ?_;intro v1 w1 own1 hb1 keep1;have hcell1:=(hb1.cell (p:=⟨b,off+k,none⟩) o3).trans o4;have hsz1:=hb1.size) | (refine step_app rfl (.tmp 48) (.tmp 53) 207 rfl w6 2 i0 Tryz.underlying207 HI.out HZ0.out HZ1.out HZ2.out _ _ _ rfl (own1.alloc _) _ [x] rfl (src_one (Blk.made _ _ _)) (by (try simp only[List.length_cons,List.length_nil,List.length_take]);omega) (by (repeat (first | exact Below.refl _ _ | assumption | refine balloc ?_ _ | refine below_drewN ?_ _ | refine bstep (by assumption) ?_ | refine bstep (Past.prop _) ?_ | refine Below.setCell ?_ (by first | exact Nat.le_refl _ | (simp;done) | (simp;omega)) _))) ?_;intro v2 w2 own2 hb2 keep2) | (refine step_app rfl (.tmp 48) (.tmp 53) 207 rfl w6 2 i0 Tryz.underlying207 HI.out HZ0.out HZ1.out HZ2.out _ _ _ rfl (own1) _ [x] rfl (src_one (keep1 w6.heap.size _ _ (((Blk.made _ _ _).alloc _).drew 1) (by simp[Value.ownBlock]))) (by (try simp only[List.length_cons,List.length_nil,List.length_take]);omega) (by (repeat (first | exact Below.refl _ _ | assumption | refine balloc ?_ _ | refine below_drewN ?_ _ | refine bstep (by assumption) ?_ | refine bstep (Past.prop _) ?_ | refine Below.setCell ?_ (by first | exact Nat.le_refl _ | (simp;done) | (simp;omega)) _))) ?_;intro v2 w2 own2 hb2 keep2) | (refine step_app rfl (.tmp 48) (.tmp 53) 207 rfl w6 2 i0 Tryz.underlying207 HI.out HZ0.out HZ1.out HZ2.out _ _ _ rfl (own1) _ [x] rfl (src_one (keep1 (w6.heap.size+1) _ _ ((Blk.made_at _ _ _ _ (by simp)).drew 1) (by simp[Value.ownBlock]))) (by (try simp only[List.length_cons,List.length_nil,List.length_take]);omega) (by (repeat (first | exact Below.refl _ _ | assumption | refine balloc ?_ _ | refine below_drewN ?_ _ | refine bstep (by assumption) ?_ | refine bstep (Past.prop _) ?_ | refine Below.setCell ?_ (by first | exact Nat.le_refl _ | (simp;done) | (simp;omega)) _))) ?_;intro v2 w2 own2 hb2 keep2) | (refine step_app rfl (.tmp 54) (.tmp 57) 207 rfl w6 2 i0 Tryz.underlying207 HI.out HZ0.out HZ1.out HZ2.out _ _ _ rfl own2 _ _ rfl (HS3.out _ _ _ (by omega) (by omega) _ (by (repeat (first | exact Below.refl _ _ | assumption | refine balloc ?_ _ | refine below_drewN ?_ _ | refine bstep (by assumption) ?_ | refine bstep (Past.prop _) ?_ | refine Below.setCell ?_ (by first | exact Nat.le_refl _ | (simp;done) | (simp;omega)) _)))) (by (try simp only[List.length_cons,List.length_nil,List.length_take,List.length_drop]);omega) (by (repeat (first | exact Below.refl _ _ | assumption | refine balloc ?_ _ | refine below_drewN ?_ _ | refine bstep (by assumption) ?_ | refine bstep (Past.prop _) ?_ | refine Below.setCell ?_ (by first | exact Nat.le_refl _ | (simp;done) | (simp;omega)) _))) ?_;intro v3 w3 own3 hb3 keep3))
         all_goals
          go_wp2
          have hown3:=own_fin own3 HI3.out
          rw[←HT.out] at hown3
          have HO3:=hidE (own_low hown3 o2'.size);have HB3:=hidE (o2'.trans (hb3.mono o2'.size))
          clear hown3
          go_roundg (l.length - (k+1))
          case measure=>omega
          case rel=>exact ⟨k+1,v3,rfl,by omega,Nat.le_refl _,by go_num,HB3.out,HO3.out⟩
        ·have hjce:¬ co=j:=fun h=>hjc h.symm
         go_wp2_with fail
         go_region_law (first | (refine step_app rfl (.tmp 44) (.tmp 47) 207 rfl w6 2 i0 Tryz.underlying207 HI.out HZ0.out HZ1.out HZ2.out (.slice (some ⟨w6.heap.size,0,none⟩) 0 0) 0 [] rfl (own_empty (p:=w6.heap.size) ((Blk.made _ _ _).drew 1) (by omega)) _ _ rfl (HS1.out _ (by omega) _ (by (repeat (first | exact Below.refl _ _ | assumption | refine balloc ?_ _ | refine below_drewN ?_ _ | refine bstep (by assumption) ?_ | refine bstep (Past.prop _) ?_ | refine Below.setCell ?_ (by first | exact Nat.le_refl _ | (simp;done) | (simp;omega)) _)))) (by (try simp only[List.length_take]);omega) (by (repeat (first | exact Below.refl _ _ | assumption | refine balloc ?_ _ | refine below_drewN ?_ _ | refine bstep (by assumption) ?_ | refine bstep (Past.prop _) ?_ | refine Below.setCell ?_ (by first | exact Nat.le_refl _ | (simp;done) | (simp;omega)) _))) ?_;intro v1 w1 own1 hb1 keep1;have hcell1:=(hb1.cell (p:=⟨b,off+k,none⟩) o3).trans o4;have hsz1:=hb1.size) | (refine step_app rfl (.tmp 44) (.tmp 47) 207 rfl w6 2 i0 Tryz.underlying207 HI.out HZ0.out HZ1.out HZ2.out (.slice (some ⟨w6.heap.size,0,none⟩) 0 0) 0 [] rfl (own_empty (p:=w6.heap.size) (((Blk.made _ _ _).alloc _).drew 1) (by omega)) _ _ rfl (HS1.out _ (by omega) _ (by (repeat (first | exact Below.refl _ _ | assumption | refine balloc ?_ _ | refine below_drewN ?_ _ | refine bstep (by assumption) ?_ | refine bstep (Past.prop _) ?_ | refine Below.setCell ?_ (by first | exact Nat.le_refl _ | (simp;done) | (simp;omega)) _)))) (by (try simp only[List.length_take]);omega) (by (repeat (first | exact Below.refl _ _ | assumption | refine balloc ?_ _ | refine below_drewN ?_ _ | refine bstep (by assumption) ?_ | refine bstep (Past.prop _) ?_ | refine Below.setCell ?_ (by first | exact Nat.le_refl _ | (simp;done) | (simp;omega)) _))) ?_;intro v1 w1 own1 hb1 keep1;have hcell1:=(hb1.cell (p:=⟨b,off+k,none⟩) o3).trans o4;have hsz1:=hb1.size) | (refine step_app rfl (.tmp 44) (.tmp 47) 207 rfl w6 2 i0 Tryz.underlying207 HI.out HZ0.out HZ1.out HZ2.out (.slice (some ⟨w6.heap.size+1,0,none⟩) 0 0) 0 [] rfl (own_empty (p:=w6.heap.size+1) ((Blk.made_at _ _ _ _ (by simp)).drew 1) (by omega)) _ _ rfl (HS1.out _ (by omega) _ (by (repeat (first | exact Below.refl _ _ | assumption | refine balloc ?_ _ | refine below_drewN ?_ _ | refine bstep (by assumption) ?_ | refine bstep (Past.prop _) ?_ | refine Below.setCell ?_ (by first | exact Nat.le_refl _ | (simp;done) | (simp;omega)) _)))) (by (try simp only[List.length_take]);omega) (by (repeat (first | exact Below.refl _ _ | assumption | refine balloc ?_ _ | refine below_drewN ?_ _ | refine bstep (by assumption) ?_ | refine bstep (Past.prop _) ?_ | refine Below.setCell ?_ (by first | exact Nat.le_refl _ | (simp;done) | (simp;omega)) _))) ?_;intro v1 w1 own1 hb1 keep1;have hcell1:=(hb1.cell (p:=⟨b,off+k,none⟩) o3).trans o4;have hsz1:=hb1.size) | (refine step_app rfl (.tmp 48) (.tmp 53) 207 rfl w6 2 i0 Tryz.underlying207 HI.out HZ0.out HZ1.out HZ2.out _ _ _ rfl (own1.alloc _) _ [x] rfl (src_one (Blk.made _ _ _)) (by (try simp only[List.length_cons,List.length_nil,List.length_take]);omega) (by (repeat (first | exact Below.refl _ _ | assumption | refine balloc ?_ _ | refine below_drewN ?_ _ | refine bstep (by assumption) ?_ | refine bstep (Past.prop _) ?_ | refine Below.setCell ?_ (by first | exact Nat.le_refl _ | (simp;done) | (simp;omega)) _))) ?_;intro v2 w2 own2 hb2 keep2) | (refine step_app rfl (.tmp 48) (.tmp 53) 207 rfl w6 2 i0 Tryz.underlying207 HI.out HZ0.out HZ1.out HZ2.out _ _ _ rfl (own1) _ [x] rfl (src_one (keep1 w6.heap.size _ _ (((Blk.made _ _ _).alloc _).drew 1) (by simp[Value.ownBlock]))) (by (try simp only[List.length_cons,List.length_nil,List.length_take]);omega) (by (repeat (first | exact Below.refl _ _ | assumption | refine balloc ?_ _ | refine below_drewN ?_ _ | refine bstep (by assumption) ?_ | refine bstep (Past.prop _) ?_ | refine Below.setCell ?_ (by first | exact Nat.le_refl _ | (simp;done) | (simp;omega)) _))) ?_;intro v2 w2 own2 hb2 keep2) | (refine step_app rfl (.tmp 48) (.tmp 53) 207 rfl w6 2 i0 Tryz.underlying207 HI.out HZ0.out HZ1.out HZ2.out _ _ _ rfl (own1) _ [x] rfl (src_one (keep1 (w6.heap.size+1) _ _ ((Blk.made_at _ _ _ _ (by simp)).drew 1) (by simp[Value.ownBlock]))) (by (try simp only[List.length_cons,List.length_nil,List.length_take]);omega) (by (repeat (first | exact Below.refl _ _ | assumption | refine balloc ?_ _ | refine below_drewN ?_ _ | refine bstep (by assumption) ?_ | refine bstep (Past.prop _) ?_ | refine Below.setCell ?_ (by first | exact Nat.le_refl _ | (simp;done) | (simp;omega)) _))) ?_;intro v2 w2 own2 hb2 keep2) | (refine step_app rfl (.tmp 54) (.tmp 57) 207 rfl w6 2 i0 Tryz.underlying207 HI.out HZ0.out HZ1.out HZ2.out _ _ _ rfl own2 _ _ rfl (HS3.out _ _ _ (by omega) (by omega) _ (by (repeat (first | exact Below.refl _ _ | assumption | refine balloc ?_ _ | refine below_drewN ?_ _ | refine bstep (by assumption) ?_ | refine bstep (Past.prop _) ?_ | refine Below.setCell ?_ (by first | exact Nat.le_refl _ | (simp;done) | (simp;omega)) _)))) (by (try simp only[List.length_cons,List.length_nil,List.length_take,List.length_drop]);omega) (by (repeat (first | exact Below.refl _ _ | assumption | refine balloc ?_ _ | refine below_drewN ?_ _ | refine bstep (by assumption) ?_ | refine bstep (Past.prop _) ?_ | refine Below.setCell ?_ (by first | exact Nat.le_refl _ | (simp;done) | (simp;omega)) _))) ?_;intro v3 w3 own3 hb3 keep3))
         all_goals
          go_wp2
          have hown3:=own_fin own3 HI3.out
          rw[←HT.out] at hown3
          have HO3:=hidE (own_low hown3 o2'.size);have HB3:=hidE (o2'.trans (hb3.mono o2'.size))
          clear hown3
          go_roundg (l.length - (k+1))
          case measure=>omega
          case rel=>exact ⟨k+1,v3,rfl,by omega,Nat.le_refl _,by go_num,HB3.out,HO3.out⟩
     ·have hje:j=o.length:=by omega
      have HI3:=hidE (show insT x o=o.take j++x :: o.drop j by rw[insT_at (x:=x) (o:=o) (k:=j) hj HJ.out (fun h=>absurd h hjl),if_neg (fun q=>hjl q.1)])
      have hjd:decide ((j:Int)<(o.length:Int))=false:=decide_eq_false (by omega)
      have hje1:j≤o.length:=by omega
      have hje2:o.length≤j:=by omega
      clear hje HJ
      go_wp2_with fail
      refine wp_region_past_lit (by kernel_rfl) (by kernel_rfl) ?_
      have hcp:=Past.cell (W:=wr)
      repeat (go_big_quiet_step (fail))
      refine wpQuiet_nil ?_
      rintro _ ⟨x',rfl⟩
      have o1:=bstep x'.2 HBR.out
      have e1:=(x'.2.cell (p:=⟨b,off+k,none⟩) hbb2).trans d1
      have hb5:=Nat.lt_of_lt_of_le hbb2 x'.2.size
      have hg5:=Nat.lt_of_lt_of_le hgl2 x'.2.size
      clear hcp d1 HBR
      generalize x'.1=w5 at *
      go_wp2_with fail
      refine wp_region_past_lit (by kernel_rfl) (by kernel_rfl) ?_
      have hcp:=Past.cell (W:=w5)
      repeat (go_big_quiet_step (fail))
      refine wpQuiet_nil ?_
      rintro _ ⟨x',rfl⟩
      have o1:=bstep x'.2 o1
      have o4:=(x'.2.cell (p:=⟨b,off+k,none⟩) hb5).trans e1
      have o3:=Nat.lt_of_lt_of_le hb5 x'.2.size
      have hg6:=Nat.lt_of_lt_of_le hg5 x'.2.size
      clear hcp e1 hb5 hg5
      generalize x'.1=w6 at *
      have o2':=HB.out.trans (o1.mono hsz)
      have HCW:=hidE (fun (w':World) (hw':Below w6.heap.size w6 w') (i:Nat) (hi:i<o.length)=>((bstep hw' o1).cell (p:=⟨g,i,none⟩) hglt).trans (HC.out i hi))
      have HS1:=hidE (fun (n:Nat) (hn:n=j) (w':World) (hw':Below w6.heap.size w6 w')=>src_take (cap:=co) (n:=n) (HCW.out w' hw') hj hn)
      have HS3:=hidE (fun (n p c:Nat) (hn:n=o.length - j) (hp:p=j∨j=o.length) (w':World) (hw':Below w6.heap.size w6 w')=>src_drop (cap:=c) (n:=n) (p:=p) (HCW.out w' hw') hj hn hp)
      clear HC HO HB d0 o1
      have hjco:j≤co:=by omega
      have hjcz:(j:Int)≤(co:Int):=by omega
      by_cases hjc:j=co
      ·subst hjc
       go_wp2_with fail
       go_region_law (first | (refine step_app rfl (.tmp 44) (.tmp 47) 207 rfl w6 2 i0 Tryz.underlying207 HI.out HZ0.out HZ1.out HZ2.out (.slice (some ⟨w6.heap.size,0,none⟩) 0 0) 0 [] rfl (own_empty (p:=w6.heap.size) ((Blk.made _ _ _).drew 1) (by omega)) _ _ rfl (HS1.out _ (by omega) _ (by (repeat (first | exact Below.refl _ _ | assumption | refine balloc ?_ _ | refine below_drewN ?_ _ | refine bstep (by assumption) ?_ | refine bstep (Past.prop _) ?_ | refine Below.setCell ?_ (by first | exact Nat.le_refl _ | (simp;done) | (simp;omega)) _)))) (by (try simp only[List.length_take]);omega) (by (repeat (first | exact Below.refl _ _ | assumption | refine balloc ?_ _ | refine below_drewN ?_ _ | refine bstep (by assumption) ?_ | refine bstep (Past.prop _) ?_ | refine Below.setCell ?_ (by first | exact Nat.le_refl _ | (simp;done) | (simp;omega)) _))) ?_;intro v1 w1 own1 hb1 keep1;have hcell1:=(hb1.cell (p:=⟨b,off+k,none⟩) o3).trans o4;have hsz1:=hb1.size) | (refine step_app rfl (.tmp 44) (.tmp 47) 207 rfl w6 2 i0 Tryz.underlying207 HI.out HZ0.out HZ1.out HZ2.out (.slice (some ⟨w6.heap.size,0,none⟩) 0 0) 0 [] rfl (own_empty (p:=w6.heap.size) (((Blk.made _ _ _).alloc _).drew 1) (by omega)) _ _ rfl (HS1.out _ (by omega) _ (by (repeat (first | exact Below.refl _ _ | assumption | refine balloc ?_ _ | refine below_drewN ?_ _ | refine bstep (by assumption) ?_ | refine bstep (Past.prop _) ?_ | refine Below.setCell ?_ (by first | exact Nat.le_refl _ | (simp;done) | (simp;omega)) _)))) (by (try simp only[List.length_take]);omega) (by (repeat (first | exact Below.refl _ _ | assumption | refine balloc ?_ _ | refine below_drewN ?_ _ | refine bstep (by assumption) ?_ | refine bstep (Past.prop _) ?_ | refine Below.setCell ?_ (by first | exact Nat.le_refl _ | (simp;done) | (simp;omega)) _))) ?_;intro v1 w1 own1 hb1 keep1;have hcell1:=(hb1.cell (p:=⟨b,off+k,none⟩) o3).trans o4;have hsz1:=hb1.size) | (refine step_app rfl (.tmp 44) (.tmp 47) 207 rfl w6 2 i0 Tryz.underlying207 HI.out HZ0.out HZ1.out HZ2.out (.slice (some ⟨w6.heap.size+1,0,none⟩) 0 0) 0 [] rfl (own_empty (p:=w6.heap.size+1) ((Blk.made_at _ _ _ _ (by simp)).drew 1) (by omega)) _ _ rfl (HS1.out _ (by omega) _ (by (repeat (first | exact Below.refl _ _ | assumption | refine balloc ?_ _ | refine below_drewN ?_ _ | refine bstep (by assumption) ?_ | refine bstep (Past.prop _) ?_ | refine Below.setCell ?_ (by first | exact Nat.le_refl _ | (simp;done) | (simp;omega)) _)))) (by (try simp only[List.length_take]);omega) (by (repeat (first | exact Below.refl _ _ | assumption | refine balloc ?_ _ | refine below_drewN ?_ _ | refine bstep (by assumption) ?_ | refine bstep (Past.prop _) ?_ | refine Below.setCell ?_ (by first | exact Nat.le_refl _ | (simp;done) | (simp;omega)) _))) ?_;intro v1 w1 own1 hb1 keep1;have hcell1:=(hb1.cell (p:=⟨b,off+k,none⟩) o3).trans o4;have hsz1:=hb1.size) | (refine step_app rfl (.tmp 48) (.tmp 53) 207 rfl w6 2 i0 Tryz.underlying207 HI.out HZ0.out HZ1.out HZ2.out _ _ _ rfl (own1.alloc _) _ [x] rfl (src_one (Blk.made _ _ _)) (by (try simp only[List.length_cons,List.length_nil,List.length_take]);omega) (by (repeat (first | exact Below.refl _ _ | assumption | refine balloc ?_ _ | refine below_drewN ?_ _ | refine bstep (by assumption) ?_ | refine bstep (Past.prop _) ?_ | refine Below.setCell ?_ (by first | exact Nat.le_refl _ | (simp;done) | (simp;omega)) _))) ?_;intro v2 w2 own2 hb2 keep2) | (refine step_app rfl (.tmp 48) (.tmp 53) 207 rfl w6 2 i0 Tryz.underlying207 HI.out HZ0.out HZ1.out HZ2.out _ _ _ rfl (own1) _ [x] rfl (src_one (keep1 w6.heap.size _ _ (((Blk.made _ _ _).alloc _).drew 1) (by simp[Value.ownBlock]))) (by (try simp only[List.length_cons,List.length_nil,List.length_take]);omega) (by (repeat (first | exact Below.refl _ _ | assumption | refine balloc ?_ _ | refine below_drewN ?_ _ | refine bstep (by assumption) ?_ | refine bstep (Past.prop _) ?_ | refine Below.setCell ?_ (by first | exact Nat.le_refl _ | (simp;done) | (simp;omega)) _))) ?_;intro v2 w2 own2 hb2 keep2) | (refine step_app rfl (.tmp 48) (.tmp 53) 207 rfl w6 2 i0 Tryz.underlying207 HI.out HZ0.out HZ1.out HZ2.out _ _ _ rfl (own1) _ [x] rfl (src_one (keep1 (w6.heap.size+1) _ _ ((Blk.made_at _ _ _ _ (by simp)).drew 1) (by simp[Value.ownBlock]))) (by (try simp only[List.length_cons,List.length_nil,List.length_take]);omega) (by (repeat (first | exact Below.refl _ _ | assumption | refine balloc ?_ _ | refine below_drewN ?_ _ | refine bstep (by assumption) ?_ | refine bstep (Past.prop _) ?_ | refine Below.setCell ?_ (by first | exact Nat.le_refl _ | (simp;done) | (simp;omega)) _))) ?_;intro v2 w2 own2 hb2 keep2) | (refine step_app rfl (.tmp 54) (.tmp 57) 207 rfl w6 2 i0 Tryz.underlying207 HI.out HZ0.out HZ1.out HZ2.out _ _ _ rfl own2 _ _ rfl (HS3.out _ _ _ (by omega) (by omega) _ (by (repeat (first | exact Below.refl _ _ | assumption | refine balloc ?_ _ | refine below_drewN ?_ _ | refine bstep (by assumption) ?_ | refine bstep (Past.prop _) ?_ | refine Below.setCell ?_ (by first | exact Nat.le_refl _ | (simp;done) | (simp;omega)) _)))) (by (try simp only[List.length_cons,List.length_nil,List.length_take,List.length_drop]);omega) (by (repeat (first | exact Below.refl _ _ | assumption | refine balloc ?_ _ | refine below_drewN ?_ _ | refine bstep (by assumption) ?_ | refine bstep (Past.prop _) ?_ | refine Below.setCell ?_ (by first | exact Nat.le_refl _ | (simp;done) | (simp;omega)) _))) ?_;intro v3 w3 own3 hb3 keep3))
       all_goals
        go_wp2
        have hown3:=own_fin own3 HI3.out
        rw[←HT.out] at hown3
        have HO3:=hidE (own_low hown3 o2'.size);have HB3:=hidE (o2'.trans (hb3.mono o2'.size))
        clear hown3
        go_roundg (l.length - (k+1))
        case measure=>omega
        case rel=>exact ⟨k+1,v3,rfl,by omega,Nat.le_refl _,by go_num,HB3.out,HO3.out⟩
      ·have hjce:¬ co=j:=fun h=>hjc h.symm
       go_wp2_with fail
       go_region_law (first | (refine step_app rfl (.tmp 44) (.tmp 47) 207 rfl w6 2 i0 Tryz.underlying207 HI.out HZ0.out HZ1.out HZ2.out (.slice (some ⟨w6.heap.size,0,none⟩) 0 0) 0 [] rfl (own_empty (p:=w6.heap.size) ((Blk.made _ _ _).drew 1) (by omega)) _ _ rfl (HS1.out _ (by omega) _ (by (repeat (first | exact Below.refl _ _ | assumption | refine balloc ?_ _ | refine below_drewN ?_ _ | refine bstep (by assumption) ?_ | refine bstep (Past.prop _) ?_ | refine Below.setCell ?_ (by first | exact Nat.le_refl _ | (simp;done) | (simp;omega)) _)))) (by (try simp only[List.length_take]);omega) (by (repeat (first | exact Below.refl _ _ | assumption | refine balloc ?_ _ | refine below_drewN ?_ _ | refine bstep (by assumption) ?_ | refine bstep (Past.prop _) ?_ | refine Below.setCell ?_ (by first | exact Nat.le_refl _ | (simp;done) | (simp;omega)) _))) ?_;intro v1 w1 own1 hb1 keep1;have hcell1:=(hb1.cell (p:=⟨b,off+k,none⟩) o3).trans o4;have hsz1:=hb1.size) | (refine step_app rfl (.tmp 44) (.tmp 47) 207 rfl w6 2 i0 Tryz.underlying207 HI.out HZ0.out HZ1.out HZ2.out (.slice (some ⟨w6.heap.size,0,none⟩) 0 0) 0 [] rfl (own_empty (p:=w6.heap.size) (((Blk.made _ _ _).alloc _).drew 1) (by omega)) _ _ rfl (HS1.out _ (by omega) _ (by (repeat (first | exact Below.refl _ _ | assumption | refine balloc ?_ _ | refine below_drewN ?_ _ | refine bstep (by assumption) ?_ | refine bstep (Past.prop _) ?_ | refine Below.setCell ?_ (by first | exact Nat.le_refl _ | (simp;done) | (simp;omega)) _)))) (by (try simp only[List.length_take]);omega) (by (repeat (first | exact Below.refl _ _ | assumption | refine balloc ?_ _ | refine below_drewN ?_ _ | refine bstep (by assumption) ?_ | refine bstep (Past.prop _) ?_ | refine Below.setCell ?_ (by first | exact Nat.le_refl _ | (simp;done) | (simp;omega)) _))) ?_;intro v1 w1 own1 hb1 keep1;have hcell1:=(hb1.cell (p:=⟨b,off+k,none⟩) o3).trans o4;have hsz1:=hb1.size) | (refine step_app rfl (.tmp 44) (.tmp 47) 207 rfl w6 2 i0 Tryz.underlying207 HI.out HZ0.out HZ1.out HZ2.out (.slice (some ⟨w6.heap.size+1,0,none⟩) 0 0) 0 [] rfl (own_empty (p:=w6.heap.size+1) ((Blk.made_at _ _ _ _ (by simp)).drew 1) (by omega)) _ _ rfl (HS1.out _ (by omega) _ (by (repeat (first | exact Below.refl _ _ | assumption | refine balloc ?_ _ | refine below_drewN ?_ _ | refine bstep (by assumption) ?_ | refine bstep (Past.prop _) ?_ | refine Below.setCell ?_ (by first | exact Nat.le_refl _ | (simp;done) | (simp;omega)) _)))) (by (try simp only[List.length_take]);omega) (by (repeat (first | exact Below.refl _ _ | assumption | refine balloc ?_ _ | refine below_drewN ?_ _ | refine bstep (by assumption) ?_ | refine bstep (Past.prop _) ?_ | refine Below.setCell ?_ (by first | exact Nat.le_refl _ | (simp;done) | (simp;omega)) _))) ?_;intro v1 w1 own1 hb1 keep1;have hcell1:=(hb1.cell (p:=⟨b,off+k,none⟩) o3).trans o4;have hsz1:=hb1.size) | (refine step_app rfl (.tmp 48) (.tmp 53) 207 rfl w6 2 i0 Tryz.underlying207 HI.out HZ0.out HZ1.out HZ2.out _ _ _ rfl (own1.alloc _) _ [x] rfl (src_one (Blk.made _ _ _)) (by (try simp only[List.length_cons,List.length_nil,List.length_take]);omega) (by (repeat (first | exact Below.refl _ _ | assumption | refine balloc ?_ _ | refine below_drewN ?_ _ | refine bstep (by assumption) ?_ | refine bstep (Past.prop _) ?_ | refine Below.setCell ?_ (by first | exact Nat.le_refl _ | (simp;done) | (simp;omega)) _))) ?_;intro v2 w2 own2 hb2 keep2) | (refine step_app rfl (.tmp 48) (.tmp 53) 207 rfl w6 2 i0 Tryz.underlying207 HI.out HZ0.out HZ1.out HZ2.out _ _ _ rfl (own1) _ [x] rfl (src_one (keep1 w6.heap.size _ _ (((Blk.made _ _ _).alloc _).drew 1) (by simp[Value.ownBlock]))) (by (try simp only[List.length_cons,List.length_nil,List.length_take]);omega) (by (repeat (first | exact Below.refl _ _ | assumption | refine balloc ?_ _ | refine below_drewN ?_ _ | refine bstep (by assumption) ?_ | refine bstep (Past.prop _) ?_ | refine Below.setCell ?_ (by first | exact Nat.le_refl _ | (simp;done) | (simp;omega)) _))) ?_;intro v2 w2 own2 hb2 keep2) | (refine step_app rfl (.tmp 48) (.tmp 53) 207 rfl w6 2 i0 Tryz.underlying207 HI.out HZ0.out HZ1.out HZ2.out _ _ _ rfl (own1) _ [x] rfl (src_one (keep1 (w6.heap.size+1) _ _ ((Blk.made_at _ _ _ _ (by simp)).drew 1) (by simp[Value.ownBlock]))) (by (try simp only[List.length_cons,List.length_nil,List.length_take]);omega) (by (repeat (first | exact Below.refl _ _ | assumption | refine balloc ?_ _ | refine below_drewN ?_ _ | refine bstep (by assumption) ?_ | refine bstep (Past.prop _) ?_ | refine Below.setCell ?_ (by first | exact Nat.le_refl _ | (simp;done) | (simp;omega)) _))) ?_;intro v2 w2 own2 hb2 keep2) | (refine step_app rfl (.tmp 54) (.tmp 57) 207 rfl w6 2 i0 Tryz.underlying207 HI.out HZ0.out HZ1.out HZ2.out _ _ _ rfl own2 _ _ rfl (HS3.out _ _ _ (by omega) (by omega) _ (by (repeat (first | exact Below.refl _ _ | assumption | refine balloc ?_ _ | refine below_drewN ?_ _ | refine bstep (by assumption) ?_ | refine bstep (Past.prop _) ?_ | refine Below.setCell ?_ (by first | exact Nat.le_refl _ | (simp;done) | (simp;omega)) _)))) (by (try simp only[List.length_cons,List.length_nil,List.length_take,List.length_drop]);omega) (by (repeat (first | exact Below.refl _ _ | assumption | refine balloc ?_ _ | refine below_drewN ?_ _ | refine bstep (by assumption) ?_ | refine bstep (Past.prop _) ?_ | refine Below.setCell ?_ (by first | exact Nat.le_refl _ | (simp;done) | (simp;omega)) _))) ?_;intro v3 w3 own3 hb3 keep3))
       all_goals
        go_wp2
        have hown3:=own_fin own3 HI3.out
        rw[←HT.out] at hown3
        have HO3:=hidE (own_low hown3 o2'.size);have HB3:=hidE (o2'.trans (hb3.mono o2'.size))
        clear hown3
        go_roundg (l.length - (k+1))
        case measure=>omega
        case rel=>exact ⟨k+1,v3,rfl,by omega,Nat.le_refl _,by go_num,HB3.out,HO3.out⟩
  ·have hk':k=l.length:=by omega
   subst hk'
   have ho:=HO.out
   rw[List.take_length] at ho
   have HO2:=hidE ho;clear ho HO
   go_wp2
   go_ret
   exact ⟨_,rfl,HO2.out,HB.out⟩
theorem src_own {w:World} {B:Nat} {e:TypeId} {v:Value} {l:List Int} (h:w.ownsRow B e 1 v l.length (cellsI l)):SrcI w v l:=by
 obtain ⟨h1,h2 | ⟨g,cap,cur,rfl,h3,h4,h5,h6,h7,h8⟩⟩:=h
 ·obtain ⟨rfl,h2⟩:=h2
  have:l=[]:=List.eq_nil_of_length_eq_zero h2
  subst this
  exact src_nil w
 ·refine ⟨some ⟨g,0,none⟩,cap,rfl,(fun h=>by cases h),fun ad had j u hj => ?_⟩
  cases had
  have hjl:j<l.length:=by
   have:=(List.getElem?_eq_some_iff.1 hj).1
   simpa [cellsI] using this
  have e2:w.cell? ⟨g,j,none⟩=cur[j]? := by simp[World.cell?,h4]
  have e3:((⟨g,0,none⟩:Addr).add j)=⟨g,j,none⟩:=by
   unfold Addr.add
   by_cases c:j=0
   ·subst c;simp
   ·simp[c]
  rw[e3,e2,←Array.getElem?_toList]
  rw[←h8,List.getElem?_take,if_pos (by omega)] at hj
  exact hj
theorem wpList_append_src {P:Program} {ops:Array Oper} {rest:List Oper} {o:Oper} {a:Act} {w:World} {Q:Exit→Act→World→Prop} (hgd:o.guard=none) (s x:Operand) (t:TypeId)
  (hop:o.op = .call { callee := .builtin .append,args:=#[s,x],argTypes:=#[t,t] })
  (base:Nat) (e:TypeId) (i:TypeInfo) (ht:P.underlying t=some (.slice e)) (hi:P.info? e=some i) (hz:i.zero=some (.int .i64 0)) (hsize:i.size=1) (hby:i.bytes=8)
  (v:Value) (n:Nat) (xs:List Value) (hs:a.eval s=v) (hown:w.ownsRow base e 1 v n xs)
  (vx:Value) (news:List Int) (hx:a.eval x=vx) (hsrc:SrcI w vx news)
  (h63:n+news.length≤1099511627776) (hbase:base≤w.heap.size)
  (h:∀ v' w',w'.ownsRow base e 1 v' (n+news.length) (xs++cellsI news)→w.grownBy w' v.ownBlock→wpList P ops Q rest (a.put o.dst v') w'):wpList P ops Q (o :: rest) a w:=by
 obtain ⟨ad,cap,rfl,hn,hc⟩:=hsrc
 cases ad with
 | none =>
  obtain ⟨rfl,rfl⟩:=hn rfl
  exact wpList_append_own_none hgd s x t hop base e i 1 ht hi v n xs hs hown hx (h v w (by simpa [cellsI] using hown) ⟨rfl,rfl,rfl,Nat.le_refl _,fun _ _ _=>rfl⟩)
 | some ad =>
  exact wpList_append_own w hgd s x t hop base e i (.int .i64 0) 1 8 ht hi hz hsize hby rfl (by decide) v n xs hs hown ad news.length cap (cellsI news) hx (by simp[cellsI]) (hc ad rfl) (cellsI_one news) (by unfold maxLen;omega) (by omega) hbase fun v' w' h1 h2 _=>h v' w' h1 h2
set_option maxHeartbeats 1000000 in
theorem rtwo_own (f g:List Sg) (a a':Option Addr) (cap cap':Nat) (w:World) (hl:f.length+g.length≤1000000000) (hA:ArgS w a f) (hA':ArgS w a' g) :
  Calls Tryz.prog 139 #[.slice a f.length cap,.slice a' g.length cap'] w (RetV w fun v w'=>w'.ownsRow w.heap.size 2 1 v (twoT f g).length (cellsI (twoT f g))):=by
 have HA:=hidE hA;have HA':=hidE hA';clear hA hA'
 obtain ⟨i0,hi,hz0,hz1,hz2⟩:=info_parts Tryz.infoI64
 have HI:=hidE hi;have HZ0:=hidE hz0;have HZ1:=hidE hz1;have HZ2:=hidE hz2
 clear hi hz0 hz1 hz2
 go_enter Tryz.func139,Tryz.ntmps139
 go_wp2_with fail
 ((with_reducible refine (rwhen_c f a cap _ (by omega) HA.out).mono ?_);rintro e w1 ⟨v1,rfl,ho1,hb1⟩)
 have HB1:=hidE hb1;have HO1:=hidE ho1
 clear hb1 ho1
 go_wp2_with fail
 ((with_reducible refine (rwhen_c g a' cap' _ (by omega) (HA'.out.past HB1.out)).mono ?_);rintro e w2 ⟨v2,rfl,ho2,hb2⟩)
 have HB2:=hidE (bstep hb2 HB1.out)
 have HO1':=hidE (own_below HO1.out hb2)
 have ho2':w2.ownsRow w1.heap.size 2 1 v2 (g.map (·.1)).length (cellsI (g.map (·.1))):=by rw[List.length_map];exact ho2
 have HS2:=hidE (src_own ho2')
 clear ho2 ho2' hb2 HO1
 go_wp2_with (at_builtin;refine wpList_append_src rfl (.tmp 6) (.tmp 8) 207 rfl w.heap.size 2 i0 Tryz.underlying207 HI.out HZ0.out HZ1.out HZ2.out _ _ _ rfl HO1'.out _ _ rfl HS2.out (by simp;omega) HB2.out.size ?_;intro v3 w3 ho3 hg3)
 have hb3:Below w.heap.size w w3:=Below.grown HB2.out hg3 HB2.out.size (fun k hk=>own_block HO1'.out hk)
 have ho3':w3.ownsRow w.heap.size 2 1 v3 (f.map (·.1)++g.map (·.1)).length (cellsI (f.map (·.1)++g.map (·.1))):=by
  rw[cellsI_app,List.length_append,List.length_map];exact ho3
 obtain ⟨a3,c3,rfl,_,_,hA3⟩:=sliI_own ho3'
 have hrt:=rtimes_c (f.map (·.1)++g.map (·.1)) a3 c3 w3 (by simp;omega) hA3
 rw[show (f.map (·.1)++g.map (·.1)).length=f.length+g.length by simp] at hrt
 have HRT:=hidE hrt
 clear hrt
 have HB3:=hidE hb3
 clear ho3 ho3' hg3 hb3 hA3
 go_wp2_with fail
 ((with_reducible refine (HRT.out).mono ?_);rintro e w4 ⟨v4,rfl,ho4,hb4⟩)
 have HB4:=hidE (bstep hb4 HB3.out)
 have HO4:=hidE (own_low ho4 HB3.out.size)
 clear hb4 ho4
 go_wp2
 go_ret
 exact ⟨_,rfl,HO4.out,HB4.out⟩
theorem rtwo_c (f g:List Sg) (a a':Option Addr) (cap cap':Nat) (w:World) (hl:f.length+g.length≤1000000000) (hA:ArgS w a f) (hA':ArgS w a' g) :
  Calls Tryz.prog 139 #[.slice a f.length cap,.slice a' g.length cap'] w (RetV w fun v w'=>SliI w' v (twoT f g)) :=
 (rtwo_own f g a a' cap cap' w hl hA hA').mono fun _ _ ⟨v,h1,h2,h3⟩=>⟨v,h1,sliI_own h2,h3⟩
end
section
open Go.ChangeShapes Go.WideShapes Go.ChangeAt Go.RowKit
theorem rmn (a b c d:Int) (w:World):Calls Tryz.prog 200 #[V a b,V c d] w fun e w'=>e = .returned (V (mn a c) (mn b d))∧Below w.heap.size w w':=by
 go_enter Tryz.func200,Tryz.ntmps200
 go_wp2
 all_goals
  refine bodyPost_ret (v:=V (mn a c) (mn b d)) (by unfold mn;simp[results,Tryz.results200,go_sem, *];try omega) rfl ⟨rfl, ?_⟩
  (repeat (first | exact Below.refl _ _ | assumption | refine balloc ?_ _ | refine below_drewN ?_ _ | refine bstep (by assumption) ?_ | refine bstep (Past.prop _) ?_ | refine Below.setCell ?_ (by first | exact Nat.le_refl _ | (simp;done) | (simp;omega)) _))
theorem rmx (a b c d:Int) (w:World):Calls Tryz.prog 201 #[V a b,V c d] w fun e w'=>e = .returned (V (mx a c) (mx b d))∧Below w.heap.size w w':=by
 go_enter Tryz.func201,Tryz.ntmps201
 go_wp2
 all_goals
  refine bodyPost_ret (v:=V (mx a c) (mx b d)) (by unfold mx;simp[results,Tryz.results201,go_sem, *];try omega) rfl ⟨rfl, ?_⟩
  (repeat (first | exact Below.refl _ _ | assumption | refine balloc ?_ _ | refine below_drewN ?_ _ | refine bstep (by assumption) ?_ | refine bstep (Past.prop _) ?_ | refine Below.setCell ?_ (by first | exact Nat.le_refl _ | (simp;done) | (simp;omega)) _))
theorem rtold (a b:Int) (w:World):Calls Tryz.prog 216 #[V a b] w fun e w'=>e = .returned (VE (gate (okV a b) a b))∧Below w.heap.size w w':=by
 cases h:okV a b
 ·rw[gate_false rfl]
  go_enter Tryz.func216,Tryz.ntmps216
  go_wp2_with (go_at_call 144;((with_reducible refine (rmay_eq h).mono ?_);rintro e w' ⟨rfl,hb⟩;obtain ⟨hc,hf⟩:=bcell hb;have hz0:=bsz hb (w.heap.size) (by first | assumption | (simp;done) | (simp;omega));have hz1:=bsz hb (w.heap.size+1) (by first | assumption | (simp;done) | (simp;omega))))
  refine bodyPost_ret (v:=VE (0,0,10)) (by simp[results,Tryz.results216,go_sem, *]) rfl ⟨rfl, ?_⟩
  (repeat (first | exact Below.refl _ _ | assumption | refine balloc ?_ _ | refine below_drewN ?_ _ | refine bstep (by assumption) ?_ | refine bstep (Past.prop _) ?_ | refine Below.setCell ?_ (by first | exact Nat.le_refl _ | (simp;done) | (simp;omega)) _))
 ·rw[gate_true rfl]
  go_enter Tryz.func216,Tryz.ntmps216
  go_wp2_with (go_at_call 144;((with_reducible refine (rmay_eq h).mono ?_);rintro e w' ⟨rfl,hb⟩;obtain ⟨hc,hf⟩:=bcell hb;have hz0:=bsz hb (w.heap.size) (by first | assumption | (simp;done) | (simp;omega));have hz1:=bsz hb (w.heap.size+1) (by first | assumption | (simp;done) | (simp;omega))))
  refine bodyPost_ret (v:=VE (a,b,0)) (by simp[results,Tryz.results216,go_sem, *]) rfl ⟨rfl, ?_⟩
  (repeat (first | exact Below.refl _ _ | assumption | refine balloc ?_ _ | refine below_drewN ?_ _ | refine bstep (by assumption) ?_ | refine bstep (Past.prop _) ?_ | refine Below.setCell ?_ (by first | exact Nat.le_refl _ | (simp;done) | (simp;omega)) _))
theorem radd_no (a b c d:Int) (w:World) (h:(okV a b && okV c d)=false):Calls Tryz.prog 198 #[V a b,V c d] w fun e w'=>e = .returned (VE (0,0,10))∧Below w.heap.size w w':=by
 cases h1:okV a b
 ·clear h
  go_enter Tryz.func198,Tryz.ntmps198
  go_wp2_with (go_at_call 144;((with_reducible refine (rmay_eq h1).mono ?_);rintro e w' ⟨rfl,hb⟩;obtain ⟨hc,hf⟩:=bcell hb;have hz0:=bsz hb (w.heap.size) (by first | assumption | (simp;done) | (simp;omega));have hz1:=bsz hb (w.heap.size+1) (by first | assumption | (simp;done) | (simp;omega));have hz2:=bsz hb (w.heap.size+1+1) (by first | assumption | (simp;done) | (simp;omega))))
  refine bodyPost_ret (v:=VE (0,0,10)) (by simp[results,Tryz.results198,go_sem, *]) rfl ⟨rfl, ?_⟩
  (repeat (first | exact Below.refl _ _ | assumption | refine balloc ?_ _ | refine below_drewN ?_ _ | refine bstep (by assumption) ?_ | refine bstep (Past.prop _) ?_ | refine Below.setCell ?_ (by first | exact Nat.le_refl _ | (simp;done) | (simp;omega)) _))
 ·have h2:okV c d=false:=by rw[h1] at h;simpa using h
  clear h
  go_enter Tryz.func198,Tryz.ntmps198
  go_wp2_with (first | (go_at_call 144;((with_reducible refine (rmay_eq h1).mono ?_);rintro e w' ⟨rfl,hb⟩;obtain ⟨hc,hf⟩:=bcell hb;have hz0:=bsz hb (w.heap.size) (by first | assumption | (simp;done) | (simp;omega));have hz1:=bsz hb (w.heap.size+1) (by first | assumption | (simp;done) | (simp;omega));have hz2:=bsz hb (w.heap.size+1+1) (by first | assumption | (simp;done) | (simp;omega)))) | (go_at_call 144;((with_reducible refine (rmay_eq h2).mono ?_);rintro e w' ⟨rfl,hb⟩;obtain ⟨hc,hf⟩:=bcell hb;have hz0:=bsz hb (w.heap.size) (by first | assumption | (simp;done) | (simp;omega));have hz1:=bsz hb (w.heap.size+1) (by first | assumption | (simp;done) | (simp;omega));have hz2:=bsz hb (w.heap.size+1+1) (by first | assumption | (simp;done) | (simp;omega)))))
  refine bodyPost_ret (v:=VE (0,0,10)) (by simp[results,Tryz.results198,go_sem, *]) rfl ⟨rfl, ?_⟩
  (repeat (first | exact Below.refl _ _ | assumption | refine balloc ?_ _ | refine below_drewN ?_ _ | refine bstep (by assumption) ?_ | refine bstep (Past.prop _) ?_ | refine Below.setCell ?_ (by first | exact Nat.le_refl _ | (simp;done) | (simp;omega)) _))
theorem radd (a b c d:Int) (w:World):Calls Tryz.prog 198 #[V a b,V c d] w fun e w'=>e = .returned (VE (addS a b c d))∧Below w.heap.size w w':=by
 cases h:(okV a b && okV c d)
 ·have e:addS a b c d=(0,0,10):=by unfold addS;exact gate_no h
  rw[e];exact radd_no a b c d w h
 ·have e:addS a b c d=gate (okV (a+c) (b+d)) (a+c) (b+d):=by unfold addS;rw[h];rfl
  obtain ⟨h1,h2⟩:okV a b=true∧okV c d=true:=by simpa using h
  have g1:=okV_iff.1 h1;have g2:=okV_iff.1 h2
  rw[e];clear e h
  generalize hg:gate (okV (a+c) (b+d)) (a+c) (b+d)=g
  have Hg:=hidE hg;clear hg
  go_enter Tryz.func198,Tryz.ntmps198
  go_wp2_with (first | (go_at_call 144;((with_reducible refine (rmay_eq h1).mono ?_);rintro e w' ⟨rfl,hb⟩;obtain ⟨hc,hf⟩:=bcell hb;have hz0:=bsz hb (w.heap.size) (by first | assumption | (simp;done) | (simp;omega));have hz1:=bsz hb (w.heap.size+1) (by first | assumption | (simp;done) | (simp;omega));have hz2:=bsz hb (w.heap.size+1+1) (by first | assumption | (simp;done) | (simp;omega)))) | (go_at_call 144;((with_reducible refine (rmay_eq h2).mono ?_);rintro e w' ⟨rfl,hb⟩;obtain ⟨hc,hf⟩:=bcell hb;have hz0:=bsz hb (w.heap.size) (by first | assumption | (simp;done) | (simp;omega));have hz1:=bsz hb (w.heap.size+1) (by first | assumption | (simp;done) | (simp;omega));have hz2:=bsz hb (w.heap.size+1+1) (by first | assumption | (simp;done) | (simp;omega)))) | (go_at_call 216;((with_reducible refine (rtold (a+c) (b+d) _).mono ?_);rintro e w' ⟨rfl,hb⟩;rw[Hg.out];obtain ⟨hc,hf⟩:=bcell hb;have hz2:=bsz hb (w.heap.size+1+1) (by first | assumption | (simp;done) | (simp;omega)))))
  refine bodyPost_ret (v:=VE g) (by simp[results,Tryz.results198,go_sem, *]) rfl ⟨rfl, ?_⟩
  (repeat (first | exact Below.refl _ _ | assumption | refine balloc ?_ _ | refine below_drewN ?_ _ | refine bstep (by assumption) ?_ | refine bstep (Past.prop _) ?_ | refine Below.setCell ?_ (by first | exact Nat.le_refl _ | (simp;done) | (simp;omega)) _))
theorem rsub (a b c d:Int) (w:World):Calls Tryz.prog 199 #[V a b,V c d] w fun e w'=>e = .returned (VE (subS a b c d))∧Below w.heap.size w w':=by
 cases h2:okV c d
 ·have e:subS a b c d=(0,0,10):=by unfold subS;exact gate_no (by rw[h2];simp)
  rw[e];clear e
  go_enter Tryz.func199,Tryz.ntmps199
  go_wp2_with (go_at_call 144;((with_reducible refine (rmay_eq h2).mono ?_);rintro e w' ⟨rfl,hb⟩;obtain ⟨hc,hf⟩:=bcell hb;have hz0:=bsz hb (w.heap.size) (by first | assumption | (simp;done) | (simp;omega));have hz1:=bsz hb (w.heap.size+1) (by first | assumption | (simp;done) | (simp;omega));have hz2:=bsz hb (w.heap.size+1+1) (by first | assumption | (simp;done) | (simp;omega))))
  refine bodyPost_ret (v:=VE (0,0,10)) (by simp[results,Tryz.results199,go_sem, *]) rfl ⟨rfl, ?_⟩
  (repeat (first | exact Below.refl _ _ | assumption | refine balloc ?_ _ | refine below_drewN ?_ _ | refine bstep (by assumption) ?_ | refine bstep (Past.prop _) ?_ | refine Below.setCell ?_ (by first | exact Nat.le_refl _ | (simp;done) | (simp;omega)) _))
 ·have e:subS a b c d=addS a b (-c) (-d):=by
   have:okV (-c) (-d)=okV c d:=by unfold okV;rw[decide_eq_decide];omega
   unfold subS addS;rw[this,Int.sub_eq_add_neg,Int.sub_eq_add_neg]
  have g2:=okV_iff.1 h2
  rw[e];clear e
  go_enter Tryz.func199,Tryz.ntmps199
  go_wp2_with (first | (go_at_call 144;((with_reducible refine (rmay_eq h2).mono ?_);rintro e w' ⟨rfl,hb⟩;obtain ⟨hc,hf⟩:=bcell hb;have hz0:=bsz hb (w.heap.size) (by first | assumption | (simp;done) | (simp;omega));have hz1:=bsz hb (w.heap.size+1) (by first | assumption | (simp;done) | (simp;omega));have hz2:=bsz hb (w.heap.size+1+1) (by first | assumption | (simp;done) | (simp;omega)))) | (go_at_call 198;((with_reducible refine (radd a b (-c) (-d) _).mono ?_);rintro e w' ⟨rfl,hb⟩;obtain ⟨hc,hf⟩:=bcell hb;have hz2:=bsz hb (w.heap.size+1+1) (by first | assumption | (simp;done) | (simp;omega)))))
  refine bodyPost_ret (v:=VE (addS a b (-c) (-d))) (by simp[results,Tryz.results199,go_sem, *]) rfl ⟨rfl, ?_⟩
  (repeat (first | exact Below.refl _ _ | assumption | refine balloc ?_ _ | refine below_drewN ?_ _ | refine bstep (by assumption) ?_ | refine bstep (Past.prop _) ?_ | refine Below.setCell ?_ (by first | exact Nat.le_refl _ | (simp;done) | (simp;omega)) _))
end
end Go.Proofs.YtcmponckjkalaaaGreat
