/- The statements' own bound on rows of changes. No conditions. What few changes are: rows of changes that are short, and say what plan's contracts take. No function of the program. No conditions. Rows of changes that are handed in, and slices of them. No conditions. Rows of changes, and rows of such, as a statement of layer 11 is handed them. No conditions but the claim's own .. -/
import Derived.Test.YtcmponckjkalaaaGreatPUGT
import Derived.Deep.RegionHeld3
import Derived.SizedLaws
import Derived.Test.YtcmponckjkalaaaGreatPUGA
import Derived.Shelf.SlIter.Nil
import Derived.Shelf.SortM.Plain
import Derived.Shelf.SortM.SortNone
import Derived.Test.YtcmponckjkalaaaGreatPUGH
namespace Go.Proofs.YtcmponckjkalaaaGreat
section
open Go.ChangeShapes Go.WideShapes Go.ChangeAt Go.RowKit
attribute [local irreducible] Go.Calls
structure ChF0 (w:World) (l:List Cw) (cs:List (Int × Rv)):Prop where
 len:cs.length=l.length
 kd:∀ i,i<l.length→(l.getD i cw0).1=(cs.getD i (0,rv0)).1∧0≤(l.getD i cw0).1∧(l.getD i cw0).1≤255
 rv:∀ i,i<l.length→RwF w (l.getD i cw0).2 (cs.getD i (0,rv0)).2
theorem ChF0.past {w w':World} {l:List Cw} {cs:List (Int × Rv)} (h:ChF0 w l cs) (hb:Below w.heap.size w w'):ChF0 w' l cs:=⟨h.len,h.kd,fun i hi=>(h.rv i hi).past hb⟩
def smR (r:Rv):Prop:=r.A.length≤30∧r.W.length≤30∧r.T.length≤30∧r.u.length≤100
def SliSC (w:World) (v:Value) (ls:List (List Cw)) (css:List (List (Int × Rv))):Prop:=∃ (a:Option Addr) (cap:Nat),v = .slice a ls.length cap∧ls.length≤cap∧cap≤9223372036854775807∧css.length=ls.length ∧
 (0<ls.length→∃ b off,a=some ⟨b,off,none⟩∧b<w.heap.size∧∀ i,i<ls.length→∃ vi,w.cell? ⟨b,off+i,none⟩=some vi∧SliCh w vi (ls.getD i [])∧ChF0 w (ls.getD i []) (css.getD i [])∧(ls.getD i []).length≤100000000000000)
def sumC (ls:List (List Cw)) (i:Nat):Nat:=((ls.take i).map List.length).sum
theorem sumC_step {ls:List (List Cw)} {i:Nat} (h:i<ls.length):sumC ls (i+1)=sumC ls i+(ls.getD i []).length:=by
 unfold sumC
 rw[List.take_succ_eq_append_getElem h,List.map_append,List.sum_append,List.getD_eq_getElem?_getD,List.getElem?_eq_getElem h]
 simp
theorem sumC_le {ls:List (List Cw)} (h:∀ i,i<ls.length→(ls.getD i []).length≤100000000000000):∀ i,i≤ls.length→sumC ls i≤i * 100000000000000
 | 0,_=>by simp[sumC]
 | i+1,hi=>by rw[sumC_step hi];have:=sumC_le h i (by omega);have:=h i hi;omega
def Few (ls:List (List Cw)) (css:List (List (Int × Rv))):Prop:=ls.length≤40∧sumC ls ls.length≤80∧∀ i,i<ls.length→∀ k,k<(ls.getD i []).length→k<100→smR ((css.getD i []).getD k (0,rv0)).2
set_option maxRecDepth 100000 in
set_option maxHeartbeats 4000000 in
theorem great_c {v:Value} {ls:List (List Cw)} {css:List (List (Int × Rv))} (w:World) (hv:SliSC w v ls css):Calls Tryz.prog 10 #[v] w fun e w'=>∃ b,e = .returned (.bool b)∧Below w.heap.size w w'∧(b=false→Few ls css):=by
 obtain ⟨a,cap,rfl,p1,p2,p3,p4⟩:=hv
 have HA:=hidE p4
 have hl:ls.length≤9223372036854775807:=by omega
 have HBD:=hidE (show ∀ i,i<ls.length→(ls.getD i []).length≤100000000000000 from fun i hi=>by
  obtain ⟨b,off,_,_,h⟩:=p4 (by omega)
  obtain ⟨_,_,_,_,h5⟩:=h i hi
  exact h5)
 clear p1 p2 p3 p4
 go_enter Tryz.func10,Tryz.ntmps10
 go_wp2
 go_loopg [3,4] ls.length (fun g v3 v4 wr=>∃ (i:Nat) (m:Int),i≤ls.length∧ls.length - i≤g∧v4 = .int .i64 i∧v3 = .int .i64 m∧(i≤41→m=sumC ls i)∧(∀ j,j<i→∀ k,k<(ls.getD j []).length→k<100→smR ((css.getD j []).getD k (0,rv0)).2)∧Below w.heap.size w wr)
 case atStart=>exact ⟨0,0,Nat.zero_le _,by omega,rfl,rfl,fun _=>rfl,fun j hj=>by omega,Below.refl _ _⟩
 case round =>
  obtain ⟨i,m,hi,hg,rfl,rfl,hm,hs,hb⟩:=hrel
  have HB:=hidE hb;have HM:=hidE hm;have HS:=hidE hs;have HG:=hidE hg
  clear hb hm hs hg
  by_cases hlt:i<ls.length
  ·obtain ⟨b,off,rfl,hbz,hc⟩:=HA.out (by omega)
   obtain ⟨vi,c0,hsl,hch,hln⟩:=hc i hlt
   have hd0:decide ((i:Int)<(ls.length:Int))=true:=decide_eq_true (by omega)
   rw[←HB.out.cell (p:=⟨b,_,none⟩) hbz] at c0
   have hbz':b<wr.heap.size:=Nat.lt_of_lt_of_le hbz HB.out.size
   have HSL:=hidE (hsl.past HB.out);have HCH:=hidE (hch.past HB.out)
   obtain ⟨ai,ci,rfl,q1,q2,q3⟩:=id hsl
   have HST:=hidE (sumC_step hlt)
   have HSU:=hidE (sumC_le HBD.out i hi)
   generalize hLL:ls.getD i []=LL at *
   generalize hCC:css.getD i []=CC at *
   obtain ⟨M,hM⟩:∃ M,M=wrap64 (m+(LL.length:Int)):=⟨_,rfl⟩
   have HMM:=hidE (show i+1≤41→M=sumC ls (i+1) from fun h=>by
    have h1:=HSU.out
    have h2:i * 100000000000000≤4000000000000000:=by omega
    rw[hM,HM.out (by omega),HST.out]
    unfold wrap64;omega)
   have HW:=hidE hM
   have HLN:=hidE hln
   clear hsl hch hc q3 q1 q2 hln
   go_upto_region 6 with fail
   rw[←HW.out]
   clear HW hM
   obtain ⟨w1,hw1⟩:∃ w1:World,w1=wr:=⟨_,rfl⟩
   rw[←hw1] at HB HSL HCH c0 hbz' ⊢
   clear hw1
   go_wp2
   go_loopg [5] LL.length (fun g v5 wx=>∃ k:Nat,k≤LL.length∧LL.length - k≤g∧v5 = .int .i64 k∧(∀ q,q<k→smR (CC.getD q (0,rv0)).2)∧Below w1.heap.size w1 wx)
   case atStart=>exact ⟨0,Nat.zero_le _,by omega,rfl,fun q hq=>by omega,Below.refl _ _⟩
   case round =>
    obtain ⟨k,hk,hg2,rfl,hs2,hb2⟩:=hrel
    have HB2:=hidE hb2;have HS2:=hidE hs2;have HG2:=hidE hg2
    have c1:=(hb2.cell (p:=⟨b,off+i,none⟩) hbz').trans c0
    have hbz2:b<wr.heap.size:=Nat.lt_of_lt_of_le hbz' hb2.size
    clear hb2 hs2 hg2 c0 hbz'
    by_cases hk1:k<LL.length
    ·have f1:decide ((k:Int)<(LL.length:Int))=true:=decide_eq_true (by omega)
     by_cases hk2:k<100
     ·have f2:decide ((k:Int)<100)=true:=decide_eq_true (by omega)
      obtain ⟨_,_,e0,_,_,hcc0⟩:=HSL.out
      cases e0
      obtain ⟨b2,off2,rfl,hb2z,hcc⟩:=hcc0 (by omega)
      have hx:=HCH.out.rv k hk1
      have e0:=hcc k 0 hk1 (by omega);have e1:=hcc k 1 hk1 (by omega);have e2:=hcc k 2 hk1 (by omega);have e3:=hcc k 3 hk1 (by omega);have e4:=hcc k 4 hk1 (by omega);have e5:=hcc k 5 hk1 (by omega);have e6:=hcc k 6 hk1 (by omega);have e7:=hcc k 7 hk1 (by omega);have e8:=hcc k 8 hk1 (by omega)
      rw[←HB2.out.cell hb2z] at e0 e1 e2 e3 e4 e5 e6 e7 e8
      have hb2z':b2<wr.heap.size:=Nat.lt_of_lt_of_le hb2z HB2.out.size
      have HNX:=hidE (fun (h:smR (CC.getD k (0,rv0)).2)=>show ∀ q,q<k+1→smR (CC.getD q (0,rv0)).2 from fun q hq=>by
       by_cases c:q=k
       ·rw[c];exact h
       ·exact HS2.out q (by omega))
      clear hcc hcc0 hb2z
      generalize CC.getD k (0,rv0)=q at *
      generalize LL.getD k cw0=y at *
      obtain ⟨kd,x⟩:=y
      obtain ⟨kq,r⟩:=q
      simp only[cwCells,Rw.cells] at e0 e1 e2 e3 e4 e5 e6 e7 e8
      simp at e0 e1 e2 e3 e4 e5 e6 e7 e8
      simp only at hx
      obtain ⟨a5,c5,q5,_⟩:=hx.t
      obtain ⟨a6,c6,q6,_⟩:=hx.w'
      obtain ⟨a7,c7,q7,_⟩:=hx.a.1
      have q8:=hx.u
      clear hx
      obtain ⟨xi,xq,xu,xf,xt,xT,xW,xA⟩:=x
      obtain ⟨ri,rq,ru,rf,rt,rT,rW,rA⟩:=r
      simp only at q5 q6 q7 q8 e0 e1 e2 e3 e4 e5 e6 e7 e8
      subst q5 q6 q7 q8
      by_cases h1:rA.length≤30
      ·have n1:decide ((30:Int)<(rA.length:Int))=false:=decide_eq_false (by omega)
       by_cases h2:rW.length≤30
       ·have n2:decide ((30:Int)<(rW.length:Int))=false:=decide_eq_false (by omega)
        by_cases h3:rT.length≤30
        ·have n3:decide ((30:Int)<(rT.length:Int))=false:=decide_eq_false (by omega)
         by_cases h4:xu.length≤100
         ·have n4:decide ((100:Int)<(xu.length:Int))=false:=decide_eq_false (by omega)
          have HX:=hidE (HNX.out ⟨h1,h2,h3,h4⟩)
          clear HNX h1 h2 h3 h4
          go_wp2
          go_roundg (LL.length - (k+1))
          case measure=>have:=HG2.out;omega
          case rel=>exact ⟨k+1,by omega,Nat.le_refl _,by go_num,HX.out,by have:=HB2.out;(repeat (first | exact Below.refl _ _ | assumption | refine balloc ?_ _ | refine below_drewN ?_ _ | refine bstep (by assumption) ?_ | refine bstep (Past.prop _) ?_ | refine Below.setCell ?_ (by first | exact Nat.le_refl _ | (simp;done) | (simp;omega)) _))⟩
         ·have n4:decide ((100:Int)<(xu.length:Int))=true:=decide_eq_true (by omega)
          clear HNX
          go_wp2
          go_ret
          exact .inr ⟨rfl,by have h1:=HB.out.trans (HB2.out.mono HB.out.size);(repeat (first | exact Below.refl _ _ | assumption | refine balloc ?_ _ | refine below_drewN ?_ _ | refine bstep (by assumption) ?_ | refine bstep (Past.prop _) ?_ | refine Below.setCell ?_ (by first | exact Nat.le_refl _ | (simp;done) | (simp;omega)) _))⟩
        ·have n3:decide ((30:Int)<(rT.length:Int))=true:=decide_eq_true (by omega)
         clear HNX
         go_wp2
         go_ret
         exact .inr ⟨rfl,by have h1:=HB.out.trans (HB2.out.mono HB.out.size);(repeat (first | exact Below.refl _ _ | assumption | refine balloc ?_ _ | refine below_drewN ?_ _ | refine bstep (by assumption) ?_ | refine bstep (Past.prop _) ?_ | refine Below.setCell ?_ (by first | exact Nat.le_refl _ | (simp;done) | (simp;omega)) _))⟩
       ·have n2:decide ((30:Int)<(rW.length:Int))=true:=decide_eq_true (by omega)
        clear HNX
        go_wp2
        go_ret
        exact .inr ⟨rfl,by have h1:=HB.out.trans (HB2.out.mono HB.out.size);(repeat (first | exact Below.refl _ _ | assumption | refine balloc ?_ _ | refine below_drewN ?_ _ | refine bstep (by assumption) ?_ | refine bstep (Past.prop _) ?_ | refine Below.setCell ?_ (by first | exact Nat.le_refl _ | (simp;done) | (simp;omega)) _))⟩
      ·have n1:decide ((30:Int)<(rA.length:Int))=true:=decide_eq_true (by omega)
       clear HNX
       go_wp2
       go_ret
       exact .inr ⟨rfl,by have h1:=HB.out.trans (HB2.out.mono HB.out.size);(repeat (first | exact Below.refl _ _ | assumption | refine balloc ?_ _ | refine below_drewN ?_ _ | refine bstep (by assumption) ?_ | refine bstep (Past.prop _) ?_ | refine Below.setCell ?_ (by first | exact Nat.le_refl _ | (simp;done) | (simp;omega)) _))⟩
     ·have f2:decide ((k:Int)<100)=false:=decide_eq_false (by omega)
      have HX:=hidE (show ∀ j,j<i+1→∀ q,q<(ls.getD j []).length→q<100→smR ((css.getD j []).getD q (0,rv0)).2 from fun j hj q hq hq2=>by
       by_cases c:j=i
       ·subst c;rw[hCC];exact HS2.out q (by omega)
       ·exact HS.out j (by omega) q hq hq2)
      have HBN:=hidE (HB.out.trans (HB2.out.mono HB.out.size))
      clear HS2 HB2
      go_wp2
      go_roundg (ls.length - (i+1))
      case measure=>have:=HG.out;omega
      case rel=>exact ⟨i+1,M,by omega,Nat.le_refl _,by go_num,rfl,HMM.out,HX.out,HBN.out⟩
    ·have f1:decide ((k:Int)<(LL.length:Int))=false:=decide_eq_false (by omega)
     have HX:=hidE (show ∀ j,j<i+1→∀ q,q<(ls.getD j []).length→q<100→smR ((css.getD j []).getD q (0,rv0)).2 from fun j hj q hq hq2=>by
      by_cases c:j=i
      ·subst c;rw[hCC];rw[hLL] at hq;exact HS2.out q (by omega)
      ·exact HS.out j (by omega) q hq hq2)
     have HBN:=hidE (HB.out.trans (HB2.out.mono HB.out.size))
     clear HS2 HB2
     go_wp2
     go_roundg (ls.length - (i+1))
     case measure=>have:=HG.out;omega
     case rel=>exact ⟨i+1,M,by omega,Nat.le_refl _,by go_num,rfl,HMM.out,HX.out,HBN.out⟩
  ·obtain rfl:i=ls.length:=by omega
   have hd0:decide ((ls.length:Int)<(ls.length:Int))=false:=decide_eq_false (by omega)
   by_cases c4:ls.length≤40
   ·have n1:decide ((40:Int)<(ls.length:Int))=false:=decide_eq_false (by omega)
    have hm:=HM.out (by omega)
    subst hm
    by_cases c8:sumC ls ls.length≤80
    ·have n2:decide ((80:Int)<(sumC ls ls.length:Int))=false:=decide_eq_false (by omega)
     have HF:=hidE (show Few ls css from ⟨c4,c8,HS.out⟩)
     clear HS HM HBD HA c4 c8
     go_wp2
     go_ret
     exact ⟨false,rfl,HB.out,fun _=>HF.out⟩
    ·have n2:decide ((80:Int)<(sumC ls ls.length:Int))=true:=decide_eq_true (by omega)
     clear HS HM HBD HA
     go_wp2
     go_ret
     exact ⟨true,rfl,HB.out,fun h=>by cases h⟩
   ·have n1:decide ((40:Int)<(ls.length:Int))=true:=decide_eq_true (by omega)
    clear HS HM HBD HA
    go_wp2
    go_ret
    exact ⟨true,rfl,HB.out,fun h=>by cases h⟩
theorem sumC_mono {ls:List (List Cw)}:∀ {j:Nat},j≤ls.length→∀ i,i≤j→sumC ls i≤sumC ls j
 | 0, _, i, h => by obtain rfl : i = 0 := by omega
                    exact Nat.le_refl _
 | j + 1, hj, i, h => by
   by_cases c:i=j+1
   ·rw[c];exact Nat.le_refl _
   ·have:=sumC_mono (ls:=ls) (j:=j) (by omega) i (by omega)
    rw[sumC_step (by omega)];omega
theorem sumC_row {ls:List (List Cw)} {i:Nat} (h:i<ls.length):(ls.getD i []).length≤sumC ls ls.length:=by
 have h1:=sumC_mono (ls:=ls) (Nat.le_refl _) (i+1) h
 rw[sumC_step h] at h1
 omega
theorem smR.small {r:Rv} (h:smR r):r.small:=by
 obtain ⟨h1,h2,h3,h4⟩:=h
 exact ⟨by omega,by omega,by omega,by omega⟩
theorem Few.row {ls:List (List Cw)} {css:List (List (Int × Rv))} (h:Few ls css) {i:Nat} (hi:i<ls.length):(ls.getD i []).length≤80:=Nat.le_trans (sumC_row hi) h.2.1
theorem Few.sm {ls:List (List Cw)} {css:List (List (Int × Rv))} (h:Few ls css) {i k:Nat} (hi:i<ls.length) (hk:k<(ls.getD i []).length):smR ((css.getD i []).getD k (0,rv0)).2 :=
 h.2.2 i hi k hk (by have:=h.row hi;omega)
theorem Few.chs {w:World} {ls:List (List Cw)} {css:List (List (Int × Rv))} (h:Few ls css) {i:Nat} (hi:i<ls.length) (hc:ChF0 w (ls.getD i []) (css.getD i [])):ChsF w (ls.getD i []) (css.getD i []) :=
 ⟨hc.len,hc.kd,hc.rv,fun _ hk=>(h.sm hi hk).small⟩
end
section
open Go.ChangeShapes Go.WideShapes Go.ChangeAt Go.RowKit
section
variable {H:Type} {enc:TypeId × Value→H} {W:World}
theorem sliCh_of {cs:List Value} {k:Nat} {y:DataW H × List MemPlace} (h:Tr enc W k 37 cs y) :
  ∃ (v:Value) (l:List Cw) (c:List (Int × Rv)),cs=[v]∧SliCh W v l∧ChF0 W l c∧(l.length=0∨∃ el sp,y.1 = .slice el sp∧el.length=l.length):=by
 obtain ⟨n,a,cap,g,D,rfl,h1,h2,h3,hd,h4,h5⟩:=trod_sliD (P:=Tryz.prog) Tryz.underlying37 (sz:=9) (by kernel_rfl) (by omega) h
 have each:∀ i,i<n→∃ z:Cw × (Int × Rv),g i=cwCells z.1∧z.1.1=z.2.1∧(0≤z.1.1∧z.1.1≤255)∧RwF W z.1.2 z.2.2:=fun i hi=>by
  obtain ⟨hl,k',y',ht,_⟩:=h4 i hi
  obtain ⟨q,c,e1,e2,e3,e4,_⟩:=el_change ht hl
  exact ⟨(q,c),e1,e2,e3,e4⟩
 have:Inhabited (Cw × Int × Rv):=⟨(cw0,0,rv0)⟩
 obtain ⟨F,hF⟩:=Deep.choose_lt each
 have hget:∀ i,i<n→((List.range n).map fun i=>(F i).1).getD i cw0=(F i).1:=fun i hi=>by simp[List.getD_eq_getElem?_getD,hi]
 have hget2:∀ i,i<n→((List.range n).map fun i=>(F i).2).getD i (0,rv0)=(F i).2:=fun i hi=>by simp[List.getD_eq_getElem?_getD,hi]
 have hln:((List.range n).map fun i=>(F i).1).length=n:=by simp
 refine ⟨.slice a n cap,(List.range n).map fun i=>(F i).1,(List.range n).map fun i=>(F i).2,rfl,⟨a,cap,by rw[hln],by rw[hln];exact h1,h2,fun hp => ?_⟩,⟨by simp,fun i hi => ?_,fun i hi => ?_⟩, ?_⟩
 ·rw[hln] at hp
  obtain ⟨b,off,e,hb,hc⟩:=h5 hp
  refine ⟨b,off,e,hb,fun i j hi hj => ?_⟩
  rw[hln] at hi
  rw[hget i hi,hc i j hi hj,(hF i hi).1]
 ·rw[hln] at hi
  rw[hget i hi,hget2 i hi]
  exact ⟨(hF i hi).2.1,(hF i hi).2.2.1⟩
 ·rw[hln] at hi
  rw[hget i hi,hget2 i hi]
  exact (hF i hi).2.2.2
 ·rw[hln]
  rcases hd with hd | ⟨el,sp,e1,e2,_⟩
  ·exact .inl hd
  ·exact .inr ⟨el,sp,e1,e2⟩
theorem bytesCh:100≤Tryz.prog.bytesOf 52:=by
 have h:Tryz.prog.bytesOf 52=120:=by kernel_rfl
 omega
theorem sliSC_of {ts:List TypeId} {ds:List (DataW H)} {j:Nat} {cs:List Value} {k:Nat} {y:DataW H × List MemPlace} (hsz:(DataW.weightsEach Tryz.prog ts ds).all (·≤reachBytes)=true) (ht:ts[j]? = some 23) (hd0:ds[j]? = some y.1) (h:Tr enc W k 23 cs y) :
  ∃ (v:Value) (ls:List (List Cw)) (css:List (List (Int × Rv))),cs=[v]∧SliSC W v ls css:=by
 obtain ⟨n,a,cap,g,D,rfl,h1,h2,h3,hd,h4,h5⟩:=trod_sliD (P:=Tryz.prog) Tryz.underlying23 (sz:=1) (by kernel_rfl) (by omega) h
 have each:∀ i,i<n→∃ z:Value × List Cw × List (Int × Rv),g i=[z.1]∧SliCh W z.1 z.2.1∧ChF0 W z.2.1 z.2.2∧z.2.1.length≤100000000000000:=fun i hi=>by
  obtain ⟨hl,k',y',hy,hyD⟩:=h4 i hi
  obtain ⟨v,l,c,e1,e2,e3,e4⟩:=sliCh_of hy
  refine ⟨(v,l,c),e1,e2,e3, ?_⟩
  rcases e4 with e4 | ⟨el',sp',e5,e6⟩
  ·show l.length≤_;omega
  ·rcases hd with hd | ⟨el,sp,e7,e8,e9⟩
   ·omega
   ·have hm:=e9 i hi
    rw[←hyD,e5] at hm
    rw[e7] at hd0
    have:=reach_row hsz ht hd0 Tryz.underlying23 Tryz.underlying37 hm
    have hb:=bytesCh
    have hr:reachBytes=140737488351232:=rfl
    rw[hr] at this
    show l.length≤_
    have h9:el'.length * 100≤(el'.length+sp'.length) * Tryz.prog.bytesOf 52:=Nat.mul_le_mul (by omega) hb
    omega
 obtain ⟨F,hF⟩:=Deep.choose_lt each
 have hget:∀ i,i<n→((List.range n).map fun i=>(F i).2.1).getD i []=(F i).2.1:=fun i hi=>by simp[List.getD_eq_getElem?_getD,hi]
 have hget2:∀ i,i<n→((List.range n).map fun i=>(F i).2.2).getD i []=(F i).2.2:=fun i hi=>by simp[List.getD_eq_getElem?_getD,hi]
 have hln:((List.range n).map fun i=>(F i).2.1).length=n:=by simp
 refine ⟨.slice a n cap,(List.range n).map fun i=>(F i).2.1,(List.range n).map fun i=>(F i).2.2,rfl,a,cap,by rw[hln],by rw[hln];exact h1,h2,by simp,fun hp => ?_⟩
 rw[hln] at hp
 obtain ⟨b,off,e,hb,hc⟩:=h5 hp
 refine ⟨b,off,e,hb,fun i hi => ?_⟩
 rw[hln] at hi
 rw[hget i hi,hget2 i hi]
 refine ⟨(F i).1, ?_,(hF i hi).2.1,(hF i hi).2.2.1,(hF i hi).2.2.2⟩
 have:=hc i 0 hi (by omega)
 rw[(hF i hi).1] at this
 simpa using this
end
end
section
open Go.ChangeShapes Go.WideShapes Go.ChangeAt Go.RowKit
section
variable {H:Type} {enc:TypeId × Value→H} {W:World} {v:Value} {d:DataW H} {p:List MemPlace} {r:Reach} {b0 j:Nat} {ts:List TypeId} {ds:List (DataW H)}
set_option maxRecDepth 100000 in
theorem open_chsP (hsz:(DataW.weightsEach Tryz.prog ts ds).all (·≤reachBytes)=true) (ht:ts[j]? = some 37) (hd:ds[j]? = some d) (ho:Value.okWide Tryz.prog W r b0 37 v) (h:DataW.Trod enc Tryz.prog W 0 (fun _=>true) true 37 v d p) :
  ∃ (a:Option Addr) (cap:Nat) (l:List Cw) (c:List (Int × Rv)),v = .slice a l.length cap∧SliCh W (.slice a l.length cap) l∧ChF0 W l c∧l.length≤100000000000000:=by
 obtain ⟨o,n,k,rfl⟩:=okWide_slice Tryz.underlying37 ho
 obtain ⟨fuel,h⟩:=h
 have h:Tr enc W fuel 37 [.slice o n k] (d,p):=h
 obtain ⟨v',l,c,e,h1,h2,h3⟩:=sliCh_of h
 obtain ⟨a,cap,e2,h4⟩:=id h1
 rw[e2] at e h1
 have e3:Value.slice o n k=Value.slice a l.length cap:=by simpa using e
 refine ⟨a,cap,l,c,e3,h1,h2, ?_⟩
 rcases h3 with h3 | ⟨el,sp,e5,e6⟩
 ·omega
 ·have e5:d = .slice el sp:=e5
  rw[e5] at hd
  have h7:=sized_slice hsz ht hd Tryz.underlying37
  have hb:=bytesCh
  have hr:reachBytes=140737488351232:=rfl
  rw[hr] at h7
  have h9:el.length * 100≤(el.length+sp.length) * Tryz.prog.bytesOf 52:=Nat.mul_le_mul (by omega) hb
  omega
set_option maxRecDepth 100000 in
theorem open_chssP (hsz:(DataW.weightsEach Tryz.prog ts ds).all (·≤reachBytes)=true) (ht:ts[j]? = some 23) (hd:ds[j]? = some d) (ho:Value.okWide Tryz.prog W r b0 23 v) (h:DataW.Trod enc Tryz.prog W 0 (fun _=>true) true 23 v d p) :
  ∃ (a:Option Addr) (cap:Nat) (ls:List (List Cw)) (css:List (List (Int × Rv))),v = .slice a ls.length cap∧SliSC W (.slice a ls.length cap) ls css:=by
 obtain ⟨o,n,k,rfl⟩:=okWide_slice Tryz.underlying23 ho
 obtain ⟨fuel,h⟩:=h
 have h:Tr enc W fuel 23 [.slice o n k] (d,p):=h
 obtain ⟨v',ls,css,e,h1⟩:=sliSC_of hsz ht hd h
 obtain ⟨a,cap,e2,h4⟩:=id h1
 rw[e2] at e h1
 have e3:Value.slice o n k=Value.slice a ls.length cap:=by simpa using e
 exact ⟨a,cap,ls,css,e3,h1⟩
end
end
section
open Go.ChangeShapes Go.WideShapes Go.ChangeAt Go.RowKit
def SliFs (w:World) (v:Value) (Fs:List (List Sg)):Prop:=∃ (a:Option Addr) (cap:Nat),v = .slice a Fs.length cap∧(0<Fs.length→∃ b off,a=some ⟨b,off,none⟩∧b<w.heap.size∧∀ i,i<Fs.length→∃ vi,w.cell? ⟨b,off+i,none⟩=some vi∧SliF3 w vi (Fs.getD i []))
def SliU (w:World) (v:Value) (l:List Int):Prop:=∃ (a:Option Addr) (cap:Nat),v = .slice a l.length cap∧l.length≤9223372036854775807∧(0<l.length→∃ b off,a=some ⟨b,off,none⟩∧b<w.heap.size∧∀ i,i<l.length→w.cell? ⟨b,off+i,none⟩=some (.int .u32 (l.getD i 0)))
section
variable {H:Type} {enc:TypeId × Value→H} {W:World} {v:Value} {d:DataW H} {p:List MemPlace} {r:Reach} {b0:Nat}
set_option maxRecDepth 100000 in
theorem open_f3P (ho:Value.okWide Tryz.prog W r b0 22 v) (h:DataW.Trod enc Tryz.prog W 0 (fun _=>true) true 22 v d p) :
  ∃ (a:Option Addr) (cap:Nat) (F:List Sg),v = .slice a F.length cap∧SliF3 W (.slice a F.length cap) F:=by
 obtain ⟨o,n,k,rfl⟩:=okWide_slice Tryz.underlying22 ho
 obtain ⟨fuel,h⟩:=h
 have h:Tr enc W fuel 22 [.slice o n k] (d,p):=h
 obtain ⟨v',l,e,h1,h2⟩:=sliS_of h
 obtain ⟨a,cap,e2,_⟩:=id h1
 rw[e2] at e h1 h2
 have e3:Value.slice o n k=Value.slice a l.length cap:=by simpa using e
 exact ⟨a,cap,l,e3,h1,h2⟩
set_option maxRecDepth 100000 in
theorem open_f3sP (ho:Value.okWide Tryz.prog W r b0 24 v) (h:DataW.Trod enc Tryz.prog W 0 (fun _=>true) true 24 v d p) :
  ∃ (a:Option Addr) (cap:Nat) (Fs:List (List Sg)),v = .slice a Fs.length cap∧SliFs W (.slice a Fs.length cap) Fs:=by
 obtain ⟨o,n,k,rfl⟩:=okWide_slice Tryz.underlying24 ho
 obtain ⟨fuel,h⟩:=h
 have h:Tr enc W fuel 24 [.slice o n k] (d,p):=h
 obtain ⟨n',a,cap,g,e,_,_,_,h4,h5⟩:=trod_sli (P:=Tryz.prog) Tryz.underlying24 (sz:=1) (by kernel_rfl) (by omega) h
 obtain ⟨rfl,rfl,rfl⟩:o=a∧n=n'∧k=cap:=by simpa using e
 have each:∀ i,i<n→∃ z:Value × List Sg,g i=[z.1]∧SliF3 W z.1 z.2:=fun i hi=>by
  obtain ⟨_,k',y',ht⟩:=h4 i hi
  obtain ⟨v,l,e1,e2,e3⟩:=sliS_of ht
  exact ⟨(v,l),e1,e2,e3⟩
 have:Inhabited (Value × List Sg):=⟨(.slice none 0 0,[])⟩
 obtain ⟨F,hF⟩:=Deep.choose_lt each
 have hln:((List.range n).map fun i=>(F i).2).length=n:=by simp
 refine ⟨o,k,(List.range n).map fun i=>(F i).2,by rw[hln],o,k,rfl,fun hp => ?_⟩
 rw[hln] at hp
 obtain ⟨b,off,e,hb,hc⟩:=h5 hp
 refine ⟨b,off,e,hb,fun i hi => ?_⟩
 rw[hln] at hi
 have hget:((List.range n).map fun i=>(F i).2).getD i []=(F i).2:=by simp[List.getD_eq_getElem?_getD,hi]
 rw[hget]
 refine ⟨(F i).1, ?_,(hF i hi).2⟩
 have:=hc i 0 hi (by omega)
 rw[(hF i hi).1] at this
 simpa using this
set_option maxRecDepth 100000 in
theorem open_u32sP (ho:Value.okWide Tryz.prog W r b0 42 v) (h:DataW.Trod enc Tryz.prog W 0 (fun _=>true) true 42 v d p) :
  ∃ (a:Option Addr) (cap:Nat) (l:List Int),v = .slice a l.length cap∧SliU W (.slice a l.length cap) l:=by
 obtain ⟨o,n,k,rfl⟩:=okWide_slice Tryz.underlying42 ho
 obtain ⟨fuel,h⟩:=h
 have h:Tr enc W fuel 42 [.slice o n k] (d,p):=h
 obtain ⟨n',a,cap,g,e,hn1,hn2,_,h4,h5⟩:=trod_sli (P:=Tryz.prog) Tryz.underlying42 (sz:=1) (by kernel_rfl) (by omega) h
 obtain ⟨rfl,rfl,rfl⟩:o=a∧n=n'∧k=cap:=by simpa using e
 have each:∀ i,i<n→∃ z:Int,g i=[.int .u32 z]:=fun i hi=>by
  obtain ⟨_,k',y',ht⟩:=h4 i hi
  obtain ⟨z,ez,_,_⟩:=DataW.trod_int Tryz.underlying44 ht
  exact ⟨z,ez⟩
 obtain ⟨F,hF⟩:=Deep.choose_lt each
 have hln:((List.range n).map F).length=n:=by simp
 refine ⟨o,k,(List.range n).map F,by rw[hln],o,k,rfl,by rw[hln];omega,fun hp => ?_⟩
 rw[hln] at hp
 obtain ⟨b,off,e,hb,hc⟩:=h5 hp
 refine ⟨b,off,e,hb,fun i hi => ?_⟩
 rw[hln] at hi
 have hget:((List.range n).map F).getD i 0=F i:=by simp[List.getD_eq_getElem?_getD,hi]
 rw[hget]
 have:=hc i 0 hi (by omega)
 rw[hF i hi] at this
 simpa using this
end
end
section
open Go.ChangeShapes Go.WideShapes Go.ChangeAt Go.RowKit Go.Shelf
attribute [local irreducible] Go.Calls
def Tryz.itRen:Go.Shelf.Ren:=⟨fun | 6=>75 | 7=>76 | 8=>110 | 9=>111 | 10=>112 | 11=>147 | n=>n,fun | 0=>0 | 3=>31 | 4=>4 | 23=>102 | 24=>71 | 26=>9 | 27=>138 | 28=>139 | 33=>120 | n=>n,fun n=>n⟩
def Tryz.soRen:Go.Shelf.Ren:=⟨fun | 6=>111 | 8=>123 | 9=>148 | 19=>162 | 20=>163 | 21=>175 | 22=>176 | 23=>177 | 24=>178 | 25=>179 | 26=>180 | 27=>181 | 28=>182 | 29=>183 | 31=>191 | 32=>192 | 36=>207 | 37=>208 | 38=>209 | 39=>210 | 41=>227 | n=>n,fun | 0=>0 | 3=>3 | 4=>4 | 5=>5 | 9=>9 | 26=>71 | 27=>71 | 29=>9 | 32=>196 | 35=>224 | 36=>225 | 41=>229 | 44=>44 | 46=>233 | 53=>260 | 57=>264 | 63=>280 | 64=>281 | n=>n,fun n=>n⟩
set_option maxRecDepth 100000 in
theorem Tryz.keysLay:Go.Proofs.SlLaysZ.n7 Tryz.prog Tryz.itRen:={
 mixed:=by kernel_rfl
 f7:=⟨"maps.Keys[map[string][]livery/api.Rsv,string,[]livery/api.Rsv]",by decide,Tryz.func76.trans (congrArg some (by kernel_rfl))⟩
 f10:=⟨"maps.Keys[map[string][]livery/api.Rsv,string,[]livery/api.Rsv]$1",by decide,Tryz.func112.trans (congrArg some (by kernel_rfl))⟩
 t0:=Tryz.underlying0
 a0:=Tryz.isAgg0
 z0:=Tryz.sizeOf0
 v0:=Tryz.zeroValue0
 t4:=Tryz.underlying4
 a4:=Tryz.isAgg4
 z4:=Tryz.sizeOf4
 v4:=Tryz.zeroValue4
 t23:=Tryz.underlying102
 a23:=Tryz.isAgg102
 z23:=Tryz.sizeOf102
 v23:=Tryz.zeroValue102
 t26:=Tryz.underlying9
 a26:=Tryz.isAgg9
 z26:=Tryz.sizeOf9
 v26:=Tryz.zeroValue9
 t27:=Tryz.underlying138
 a27:=Tryz.isAgg138
 z27:=Tryz.sizeOf138
 v27:=Tryz.zeroValue138
 t28:=Tryz.underlying139
 a28:=Tryz.isAgg139
 z28:=Tryz.sizeOf139
 v28:=Tryz.zeroValue139
 t33:=Tryz.underlying120
 a33:=Tryz.isAgg120
 z33:=Tryz.sizeOf120
 v33:=Tryz.zeroValue120
 }
set_option maxRecDepth 100000 in
theorem Tryz.sortedLay:Go.Proofs.SlLaysZ.n6 Tryz.prog Tryz.itRen:={
 mixed:=by kernel_rfl
 f6:=⟨"slices.Sorted[string]",by decide,Tryz.func75.trans (congrArg some (by kernel_rfl))⟩
 f8:=⟨"slices.Collect[string]",by decide,Tryz.func110.trans (congrArg some (by kernel_rfl))⟩
 f11:=⟨"slices.AppendSeq[[]string,string]",by decide,Tryz.func147.trans (congrArg some (by kernel_rfl))⟩
 t0:=Tryz.underlying0
 a0:=Tryz.isAgg0
 z0:=Tryz.sizeOf0
 v0:=Tryz.zeroValue0
 t24:=Tryz.underlying71
 a24:=Tryz.isAgg71
 z24:=Tryz.sizeOf71
 v24:=Tryz.zeroValue71
 t26:=Tryz.underlying9
 a26:=Tryz.isAgg9
 z26:=Tryz.sizeOf9
 v26:=Tryz.zeroValue9
 t28:=Tryz.underlying139
 a28:=Tryz.isAgg139
 z28:=Tryz.sizeOf139
 v28:=Tryz.zeroValue139
 i26:=by kernel_rfl
 }
set_option maxRecDepth 100000 in
theorem Tryz.strSort:Go.Proofs.SlLaysM.n6 Tryz.prog Tryz.soRen:={
 mixed:=by kernel_rfl
 f6:=⟨"slices.Sort[[]string,string]",by decide,Tryz.func111.trans (congrArg some (by kernel_rfl))⟩
 f8:=Tryz.func123.trans (congrArg some (by kernel_rfl))
 f9:=⟨"slices.pdqsortOrdered[string]",by decide,Tryz.func148.trans (congrArg some (by kernel_rfl))⟩
 f19:=Tryz.func162.trans (congrArg some (by kernel_rfl))
 f20:=Tryz.func163.trans (congrArg some (by kernel_rfl))
 f21:=⟨"slices.insertionSortOrdered[string]",by decide,Tryz.func175.trans (congrArg some (by kernel_rfl))⟩
 f22:=⟨"slices.heapSortOrdered[string]",by decide,Tryz.func176.trans (congrArg some (by kernel_rfl))⟩
 f23:=⟨"slices.breakPatternsOrdered[string]",by decide,Tryz.func177.trans (congrArg some (by kernel_rfl))⟩
 f24:=⟨"slices.choosePivotOrdered[string]",by decide,Tryz.func178.trans (congrArg some (by kernel_rfl))⟩
 f25:=⟨"slices.reverseRangeOrdered[string]",by decide,Tryz.func179.trans (congrArg some (by kernel_rfl))⟩
 f26:=⟨"slices.partialInsertionSortOrdered[string]",by decide,Tryz.func180.trans (congrArg some (by kernel_rfl))⟩
 f27:=⟨"cmp.Less[string]",by decide,Tryz.func181.trans (congrArg some (by kernel_rfl))⟩
 f28:=⟨"slices.partitionEqualOrdered[string]",by decide,Tryz.func182.trans (congrArg some (by kernel_rfl))⟩
 f29:=⟨"slices.partitionOrdered[string]",by decide,Tryz.func183.trans (congrArg some (by kernel_rfl))⟩
 f31:=Tryz.func191.trans (congrArg some (by kernel_rfl))
 f32:=Tryz.func192.trans (congrArg some (by kernel_rfl))
 f36:=⟨"slices.siftDownOrdered[string]",by decide,Tryz.func207.trans (congrArg some (by kernel_rfl))⟩
 f37:=⟨"slices.medianAdjacentOrdered[string]",by decide,Tryz.func208.trans (congrArg some (by kernel_rfl))⟩
 f38:=⟨"slices.medianOrdered[string]",by decide,Tryz.func209.trans (congrArg some (by kernel_rfl))⟩
 f39:=⟨"cmp.isNaN[string]",by decide,Tryz.func210.trans (congrArg some (by kernel_rfl))⟩
 f41:=⟨"slices.order2Ordered[string]",by decide,Tryz.func227.trans (congrArg some (by kernel_rfl))⟩
 t0:=Tryz.underlying0
 a0:=Tryz.isAgg0
 z0:=Tryz.sizeOf0
 v0:=Tryz.zeroValue0
 t3:=Tryz.underlying3
 a3:=Tryz.isAgg3
 z3:=Tryz.sizeOf3
 v3:=Tryz.zeroValue3
 t4:=Tryz.underlying4
 a4:=Tryz.isAgg4
 z4:=Tryz.sizeOf4
 v4:=Tryz.zeroValue4
 t5:=Tryz.underlying5
 a5:=Tryz.isAgg5
 z5:=Tryz.sizeOf5
 v5:=Tryz.zeroValue5
 t9:=Tryz.underlying9
 a9:=Tryz.isAgg9
 z9:=Tryz.sizeOf9
 v9:=Tryz.zeroValue9
 t26:=Tryz.underlying71
 a26:=Tryz.isAgg71
 z26:=Tryz.sizeOf71
 v26:=Tryz.zeroValue71
 t27:=Tryz.underlying71
 a27:=Tryz.isAgg71
 z27:=Tryz.sizeOf71
 v27:=Tryz.zeroValue71
 t29:=Tryz.underlying9
 a29:=Tryz.isAgg9
 z29:=Tryz.sizeOf9
 v29:=Tryz.zeroValue9
 t32:=Tryz.underlying196
 a32:=Tryz.isAgg196
 z32:=Tryz.sizeOf196
 v32:=Tryz.zeroValue196
 t35:=Tryz.underlying224
 a35:=Tryz.isAgg224
 z35:=Tryz.sizeOf224
 v35:=Tryz.zeroValue224
 t36:=Tryz.underlying225
 a36:=Tryz.isAgg225
 z36:=Tryz.sizeOf225
 v36:=Tryz.zeroValue225
 t41:=Tryz.underlying229
 a41:=Tryz.isAgg229
 z41:=Tryz.sizeOf229
 v41:=Tryz.zeroValue229
 t44:=Tryz.underlying44
 a44:=Tryz.isAgg44
 z44:=Tryz.sizeOf44
 v44:=Tryz.zeroValue44
 t46:=Tryz.underlying233
 a46:=Tryz.isAgg233
 z46:=Tryz.sizeOf233
 v46:=Tryz.zeroValue233
 t53:=Tryz.underlying260
 a53:=Tryz.isAgg260
 z53:=Tryz.sizeOf260
 v53:=Tryz.zeroValue260
 t57:=Tryz.underlying264
 a57:=Tryz.isAgg264
 z57:=Tryz.sizeOf264
 v57:=Tryz.zeroValue264
 t63:=Tryz.underlying280
 a63:=Tryz.isAgg280
 z63:=Tryz.sizeOf280
 v63:=Tryz.zeroValue280
 t64:=Tryz.underlying281
 a64:=Tryz.isAgg281
 z64:=Tryz.sizeOf281
 v64:=Tryz.zeroValue281
 }
end
section
open Go.ChangeShapes Go.WideShapes Go.ChangeAt Go.RowKit Go.Sort Go.Shelf Go.Maps
attribute [local irreducible] Go.Calls
def insU (out:List (List UInt8)) (s:List UInt8):List (List UInt8):=if s∈out then out else out.takeWhile (fun x=>decide (x<s))++s :: out.dropWhile (fun x=>decide (x<s))
def usersS (L:List Rv):List (List UInt8):=L.foldl (fun out r=>insU out r.u) []
theorem insU_mem (out:List (List UInt8)) (s x:List UInt8):x∈insU out s↔x=s∨x∈out:=by
 unfold insU
 split
 ·rename_i h
  constructor
  ·exact .inr
  ·rintro (rfl | h')
   ·exact h
   ·exact h'
 ·have hp:(out.takeWhile (fun x=>decide (x<s))++s :: out.dropWhile (fun x=>decide (x<s))).Perm (s :: out):=by
   refine (List.perm_middle).trans ?_
   rw[List.takeWhile_append_dropWhile]
  rw[hp.mem_iff,List.mem_cons]
theorem insU_ord:∀ (out:List (List UInt8)) (s:List UInt8),out.Pairwise (·<·)→(insU out s).Pairwise (·<·)
 | [],s,_=>by simp[insU]
 | x :: out, s, h => by
   obtain ⟨h1,h2⟩:=List.pairwise_cons.1 h
   have ih:=insU_ord out s h2
   unfold insU at ih ⊢
   by_cases c:s∈x :: out
   ·rw[if_pos c];exact h
   ·rw[if_neg c]
    have hne:s≠x:=fun e=>c (by rw[e];exact List.mem_cons_self ..)
    have hno:s ∉ out:=fun e=>c (List.mem_cons_of_mem _ e)
    rw[if_neg hno] at ih
    by_cases d:x<s
    ·rw[List.takeWhile_cons_of_pos (p:=fun x=>decide (x<s)) (by simpa using d),List.dropWhile_cons_of_pos (p:=fun x=>decide (x<s)) (by simpa using d)]
     show (x :: (out.takeWhile (fun x=>decide (x<s))++s :: out.dropWhile (fun x=>decide (x<s)))).Pairwise (·<·)
     refine List.pairwise_cons.2 ⟨fun y hy => ?_,ih⟩
     have hp:(out.takeWhile (fun x=>decide (x<s))++s :: out.dropWhile (fun x=>decide (x<s))).Perm (s :: out):=by
      refine (List.perm_middle).trans ?_
      rw[List.takeWhile_append_dropWhile]
     rcases List.mem_cons.1 (hp.mem_iff.1 hy) with rfl | hy
     ·exact d
     ·exact h1 y hy
    ·rw[List.takeWhile_cons_of_neg (p:=fun x=>decide (x<s)) (by simpa using d),List.dropWhile_cons_of_neg (p:=fun x=>decide (x<s)) (by simpa using d)]
     have hsx:s<x:=by
      have h':s≤x:=List.not_lt.1 d
      by_cases h2:s<x
      ·exact h2
      ·exact absurd (List.le_antisymm h' (List.not_lt.1 h2)) hne
     show (s :: x :: out).Pairwise (·<·)
     refine List.pairwise_cons.2 ⟨fun y hy => ?_,h⟩
     rcases List.mem_cons.1 hy with rfl | hy
     ·exact hsx
     ·exact List.lt_trans hsx (h1 y hy)
theorem usersS_aux:∀ (L:List Rv) (out:List (List UInt8)),out.Pairwise (·<·)→(L.foldl (fun out r=>insU out r.u) out).Pairwise (·<·)∧∀ x,x∈L.foldl (fun out r=>insU out r.u) out↔x∈out∨∃ r∈L,r.u=x
 | [],out,h=>⟨h,fun x=>by simp⟩
 | r :: L, out, h => by
   obtain ⟨h1,h2⟩:=usersS_aux L (insU out r.u) (insU_ord out r.u h)
   refine ⟨h1,fun x => ?_⟩
   rw[List.foldl_cons,h2 x,insU_mem]
   constructor
   ·rintro ((rfl | h) | ⟨s,hs,rfl⟩)
    ·exact .inr ⟨r,List.mem_cons_self ..,rfl⟩
    ·exact .inl h
    ·exact .inr ⟨s,List.mem_cons_of_mem _ hs,rfl⟩
   ·rintro (h | ⟨s,hs,rfl⟩)
    ·exact .inl (.inr h)
    ·rcases List.mem_cons.1 hs with rfl | hs
     ·exact .inl (.inl rfl)
     ·exact .inr ⟨s,hs,rfl⟩
theorem usersS_ord (L:List Rv):(usersS L).Pairwise (·<·):=(usersS_aux L [] List.Pairwise.nil).1
theorem usersS_mem (L:List Rv) (x:List UInt8):x∈usersS L↔∃ r∈L,r.u=x:=by
 unfold usersS
 rw[(usersS_aux L [] List.Pairwise.nil).2 x]
 simp
theorem lt_nodup {l:List (List UInt8)} (h:l.Pairwise (·<·)):l.Nodup:=h.imp (fun h e=>by subst e;exact List.lt_irrefl _ h)
theorem sorted_users {L:List Rv} {ss:List (List UInt8)} (hn:ss.Nodup) (hm:∀ x,x∈ss↔∃ r∈L,r.u=x):ss.mergeSort (fun x y=>decide (x≤y))=usersS L:=by
 have tr:∀ a b c:List UInt8,decide (a≤b)=true→decide (b≤c)=true→decide (a≤c)=true:=fun a b c h1 h2=>by simp only[decide_eq_true_eq] at *;exact List.le_trans h1 h2
 have tot:∀ a b:List UInt8,(decide (a≤b) || decide (b≤a))=true:=fun a b=>by simp only[Bool.or_eq_true,decide_eq_true_eq];exact List.le_total a b
 have hp:ss.Perm (usersS L):=(List.perm_ext_iff_of_nodup hn (lt_nodup (usersS_ord L))).2 fun x=>by rw[hm x,usersS_mem]
 refine List.Perm.eq_of_pairwise (le:=fun a b=>decide (a≤b)=true) (fun a b _ _ h1 h2 => ?_) (List.pairwise_mergeSort tr tot ss) ((usersS_ord L).imp fun h => ?_) ((List.mergeSort_perm ss _).trans hp)
 ·simp only[decide_eq_true_eq] at h1 h2
  exact List.le_antisymm h1 h2
 ·simp only[decide_eq_true_eq]
  exact List.le_of_lt h
def anyR:Value→Option (DataW Unit × List MemPlace):=fun _=>some (.lit (.bool true),[])
theorem own_map {P:Program} {k:TypeId} {w:World} {m:Nat} {U:List Ent} (h:MapU w m U) (hl:U.length≤1000000) (hk:P.underlying k=some .string) :
  ∃ D:DataW Unit,w.ownsMap P k anyR m U.length D∧(strKeys D).Perm (U.map (·.1))∧Maps.size D≤1000000:=by
 obtain ⟨es,clock,hb,he,hn,hst,hcl,hs⟩:=h
 have hsz:es.size=U.length:=by
  have:=congrArg List.length he
  simpa using this
 have hkey:∀ e∈es.toList,∃ p∈U,e.key=kyV p.1:=fun e hx=>by
  obtain ⟨p,hp,h1,_⟩:=ent_mem he hx
  exact ⟨p,hp,h1⟩
 have hko:∀ e∈es.toList,∃ p∈U,e.key=kyV p.1∧keyOf P k e.key=some (.string p.1):=fun e hx=>by
  obtain ⟨p,hp,h1⟩:=hkey e hx
  refine ⟨p,hp,h1, ?_⟩
  rw[h1]
  have:=WideMaps.keyOf_string_mk hk (s:=⟨p.1.toArray⟩) (by simpa [ByteArray.size] using hs p hp)
  simpa using this
 have hrd:∀ e∈es.toList,∃ p∈U,e.key=kyV p.1∧Go.WideElems.rd P k anyR e=some (.string p.1,.lit (.bool true)):=fun e hx=>by
  obtain ⟨p,hp,h1,h2⟩:=hko e hx
  exact ⟨p,hp,h1,by unfold Go.WideElems.rd anyR;rw[h2];rfl⟩
 have hkn:(es.toList.map (·.key)).Nodup:=by
  have e1:es.toList.map (·.key)=(U.map (·.1)).map kyV:=by
   have:=congrArg (List.map Prod.fst) he
   simpa [List.map_map,Function.comp_def] using this
  rw[e1]
  exact (List.pairwise_map.2 (hn.imp fun h e=>h (kyV_inj e)))
 let g:Value→List UInt8:=fun v=>match v with
  | .string s=>s.data.toList
  | _=>[]
 refine ⟨.map ((es.toList.map (Go.WideElems.rg P k anyR)).foldr DataW.insert []),⟨es,clock,hb,⟨by rw[hsz];unfold maxLen;omega,⟨hcl,hst,hkn⟩,fun e hx => ?_⟩,Nat.le_of_eq hsz,rfl⟩, ?_, ?_⟩
 ·obtain ⟨p,_,_,h⟩:=hrd e hx
  exact ⟨_,h⟩
 ·show (((es.toList.map (Go.WideElems.rg P k anyR)).foldr DataW.insert []).map fun p=>strOf p.1).Perm _
  refine ((sorted_perm _).map _).trans ?_
  rw[List.map_map]
  have e2:es.toList.map ((fun p:Lit × DataW Unit=>strOf p.1) ∘ Go.WideElems.rg P k anyR)=es.toList.map (fun e=>g e.key):=by
   apply List.map_congr_left
   intro e hx
   obtain ⟨p,_,h1,h2⟩:=hrd e hx
   refine (congrArg (fun q:Lit × DataW Unit=>strOf q.1) (Go.WideElems.rg_of h2)).trans ?_
   rw[h1]
   simp[strOf,g]
  rw[e2]
  have e3:=congrArg (List.map fun q:Value × Value=>g q.1) he
  rw[List.map_map,List.map_map] at e3
  have e4:es.toList.map (fun e=>g e.key)=U.map (·.1):=by
   refine Eq.trans e3 ?_
   apply List.map_congr_left
   intro p _
   simp[g]
  rw[e4]
 ·show ((es.toList.map (Go.WideElems.rg P k anyR)).foldr DataW.insert []).length≤_
  rw[(sorted_perm _).length_eq,List.length_map]
  simp only[Array.length_toList]
  omega
theorem Tryz.sorts (m:Nat):AnyZ.SortsIn Tryz.prog Tryz.itRen Fence.wide m :=
 ⟨fun blk off cap ss W hH hblk hsz=>callsIn_wide.2 (AnyM.slices_Sort_string Tryz.strSort blk off cap ss W hH hblk hsz),
  fun p cap W=>callsIn_wide.2 (AnyM.slices_Sort_string_none Tryz.strSort p cap W)⟩
theorem keys_c (mb:Option Nat) (W:World):Calls Tryz.prog 76 #[.map mb] W fun e w'=>e = .returned (.func (.func 112) #[] #[.pointer (some ⟨W.heap.size,0,none⟩)])∧w'=W.alloc (.cells #[.map mb] 102) :=
 callsIn_wide.1 (AnyZ.keys_in Tryz.keysLay Fence.wide 5 trivial rfl mb W)
set_option maxHeartbeats 1000000 in
theorem uskeys_c {b:Nat} {U:List Ent} (w:World) (h:MapU w b U) (hl:U.length≤1000000) :
  Calls Tryz.prog 75 #[.func (.func 112) #[] #[.pointer (some ⟨w.heap.size,0,none⟩)]] (w.alloc (.cells #[.map (some b)] 102)) fun e w'=>∃ (v:Value) (ss:List (List UInt8)),e = .returned v∧ss.Perm (U.map (·.1)) ∧
   w'.ownsRow (w.alloc (.cells #[.map (some b)] 102)).heap.size 9 1 v ss.length ((ss.mergeSort (fun x y=>decide (x≤y))).map encStr)∧Below (w.alloc (.cells #[.map (some b)] 102)).heap.size (w.alloc (.cells #[.map (some b)] 102)) w':=by
 obtain ⟨D0,hown,hD,hsz⟩:=own_map h hl Tryz.underlying9
 have hbl:=hown.lt
 have hseq:SeqGives Fence.wide 2 Tryz.prog 112 #[.pointer (some ⟨w.heap.size,0,none⟩)] encStr (fun ss=>ss.Perm (strKeys D0)) (Maps.size D0) (w.alloc (.cells #[.map (some b)] 102)) :=
  AnyZ.keys_gives (ρ:=Tryz.itRen) { Tryz.keysLay with } Fence.wide _ trivial rfl (by omega) w.heap.size b U.length D0 _ (by simp) (by simp) (by
   obtain ⟨es,clock,hb,Ft,hs,hD⟩:=hown
   exact ⟨es,clock,(Below.heap_alloc _ _ b hbl).trans hb,Ft,hs,hD⟩)
 have:=AnyZ.sorted_in Tryz.sortedLay Fence.wide 5 trivial trivial trivial trivial rfl (by omega) (Tryz.sorts _) (enters_of Tryz.func111 (by kernel_rfl) rfl) 112 #[.pointer (some ⟨w.heap.size,0,none⟩)] trivial (enters_of Tryz.func112 (by kernel_rfl) rfl) _ _ (by unfold maxLen;omega) (by omega) _ hseq
 refine (callsIn_wide.1 this).mono ?_
 rintro e w' ⟨v,ss,rfl,hS,hrow,_,hb⟩
 exact ⟨v,ss,rfl,hS.trans hD,hrow,hb⟩
def UsrP (w:World) (L:List Rv) (e:Ending) (w':World):Prop:=∃ v,e = .returned v∧w'.ownsRow w.heap.size 9 1 v (usersS L).length ((usersS L).map encStr)∧Below w.heap.size w w'
theorem users_f {p:Nat} {L:List Rv} {C:List Sg} (w:World) (hP:Pl w p L C):Calls Tryz.prog 29 #[.pointer (some ⟨p,0,none⟩)] w (UsrP w L):=by
 obtain ⟨m,vc,U,rows,rvs,hB,hC,hBd⟩:=hP.has
 have hUl:U.length≤1000000:=by
  have h1:U.length≤(allRv rvs U).length:=by
   have:∀ V:List Ent,(∀ p∈V,rvs p.1≠[])→V.length≤(allRv rvs V).length:=by
    intro V
    induction V with
    | nil=>intro _;simp
    | cons q V ih =>
     intro h
     have h2:=ih fun p hp=>h p (List.mem_cons_of_mem _ hp)
     have h3:0<(rvs q.1).length:=List.length_pos_iff.2 (h q (List.mem_cons_self ..))
     unfold allRv at h2 ⊢
     rw[List.flatMap_cons,List.length_append,List.length_cons]
     omega
   exact this U hBd.full
  rw[hBd.perm.length_eq] at h1
  have:=hBd.good.few
  omega
 have hus:∀ ss:List (List UInt8),ss.Perm (U.map (·.1))→ss.length=(usersS L).length∧ss.mergeSort (fun x y=>decide (x≤y))=usersS L:=fun ss hss=>by
  have e:=sorted_users (L:=L) ((hss.nodup_iff).2 hBd.map.nodup) fun x=>by
   rw[hss.mem_iff]
   constructor
   ·intro hx
    obtain ⟨q,hq,rfl⟩:=List.mem_map.1 hx
    obtain ⟨r,hr⟩:=List.exists_mem_of_ne_nil _ (hBd.full q hq)
    exact ⟨r,hBd.mem hr,hBd.user q.1 r hr⟩
   ·rintro ⟨r,hr,rfl⟩
    obtain ⟨q,hq,hr2⟩:=allRv_mem.1 (hBd.perm.mem_iff.2 hr)
    rw[hBd.user q.1 r hr2]
    exact List.mem_map.2 ⟨q,hq,rfl⟩
  exact ⟨by rw[←e,List.length_mergeSort],e⟩
 have HMD:=hidE (made_c w hB)
 have HB:=hidE hB;have HM:=hidE hBd.map;have HUL:=hidE hUl;have HUS:=hidE hus
 obtain ⟨ac,cc,rfl,_⟩:=hC.1
 clear hP hB hC hBd hUl hus
 go_enter Tryz.func29,Tryz.ntmps29
 go_wp2_with fail
 ((with_reducible refine (HMD.out).mono ?_);rintro e w1 ⟨rfl,hb1⟩)
 have hB1:=HB.out.past hb1
 have q0:=hB1.cell 0;have q1:=hB1.cell 1;have qz:=hB1.lt
 simp at q0 q1
 have HB1:=hidE hb1;have HSO:=hidE (uskeys_c w1 (HM.out.past hb1) HUL.out)
 clear hB1 hb1 HMD
 go_wp2_with fail
 ((with_reducible refine (keys_c _ _).mono ?_);rintro e w2 ⟨rfl,rfl⟩)
 go_wp2_with fail
 ((with_reducible refine (HSO.out).mono ?_);rintro e w3 ⟨v,ss,rfl,hp,ho,hb3⟩)
 obtain ⟨av,cv,rfl⟩:=own_sli ho
 have HP:=hidE hp;have HO:=hidE ho;have HB3:=hidE hb3
 clear hp ho hb3 HSO
 go_wp2
 go_ret
 obtain ⟨h1,h2⟩:=HUS.out ss HP.out
 have ho:=HO.out
 rw[h2,h1] at ho
 have hbn:Below w1.heap.size w1 (w1.alloc (.cells #[.map (some m)] 102)):=(Below.refl _ _).alloc (Nat.le_refl _) _
 have hb13:=hbn.trans (HB3.out.mono hbn.size)
 rw[h1]
 exact ⟨_,rfl,own_base ho (by have:=HB1.out.size;have h9:=hbn.size;omega),HB1.out.trans (hb13.mono HB1.out.size)⟩
end
section
open Go.ChangeShapes Go.WideShapes Go.ChangeAt Go.RowKit
attribute [local irreducible] Go.Calls
end
section
open Go.RowKit
section
variable {P:Program} {l:List Oper} {n:Nat} {a0:Act} {w0:World}
abbrev JTriv (l:List Oper) (n:Nat) (a0:Act) (w0:World) (u:Nat→Value) (listed:Array Bool) (a:Act):Prop:=JInv l n a0 w0 (fun _ _ _=>True) (fun _=>false) u listed a w0
def CStep (P:Program) (l:List Oper) (n:Nat) (a0:Act) (I:(Nat→Bool)→(Nat→Value)→World→Prop) (i:Nat) (o:Oper):Prop :=
 ∀ (L : Nat → Bool) (u : Nat → Value) (w : World), L i = false → (∀ j, j < n → waits l.toArray i j = true → L j = true) → I L u w →
   if Region.wanted o (yielded l.toArray (frm (l.take n) u 0 a0).tmps) then
    gives P (fun v w'=>I (fun j=>if j=i then true else L j) (fun j=>if j=i then v else u j) w') ((execOp (frm (l.take n) u 0 a0).eval o).run P w)
   else I (fun j=>if j=i then true else L j) (fun j=>if j=i then undef else u j) w
def dstOnly (l : List Oper) (t j : Nat) : Bool := (match l[j]? with
    | some o=>o.dst == some t
    | none=>false) && (List.range l.length).all fun i=>i == j || match l[i]? with
    | some p=>p.dst != some t
    | none=>true
def dstNone (l:List Oper) (t:Nat):Bool:=l.all fun p=>p.dst != some t
theorem ev_mine {u:Nat→Value} {a0:Act} {l:List Oper} {t j:Nat} (h:dstOnly l t j=true) (ht:t<a0.tmps.size):(frm l u 0 a0).eval (.tmp t)=u j:=by
 unfold dstOnly at h
 rw[Bool.and_eq_true] at h
 obtain ⟨h1,h2⟩:=h
 cases hj:l[j]? with
 | none=>rw[hj] at h1;cases h1
 | some o =>
  rw[hj] at h1
  have:=(frm_spec u l 0 a0).2.2.2 j o t hj (beq_iff_eq.1 h1) (fun i p hi hne=>by
   rw[List.all_eq_true] at h2
   have hlt:i<l.length:=(List.getElem?_eq_some_iff.1 hi).1
   have:=h2 i (List.mem_range.2 hlt)
   rw[hi] at this
   simp only[Bool.or_eq_true,beq_iff_eq,bne_iff_ne] at this
   rcases this with e | e
   ·exact absurd e hne
   ·exact e) ht
  rw[Nat.zero_add] at this
  show (frm l u 0 a0).tmps.getD t undef=u j
  rw[Array.getD_eq_getD_getElem?,this]
  rfl
theorem ev_rest {u:Nat→Value} {a0:Act} {l:List Oper} {t:Nat} (h:dstNone l t=true):(frm l u 0 a0).eval (.tmp t)=a0.eval (.tmp t):=by
 have:=(frm_spec u l 0 a0).2.2.1 t (fun j o hj e=>by
  unfold dstNone at h
  rw[List.all_eq_true] at h
  have h2:=h o (List.mem_of_getElem? hj)
  rw[e] at h2
  simp at h2)
 show (frm l u 0 a0).tmps.getD t undef=a0.tmps.getD t undef
 rw[Array.getD_eq_getD_getElem?,Array.getD_eq_getD_getElem?,this]
theorem prefix_inv {Q:Exit→Act→World→Prop} {I:(Nat→Bool)→(Nat→Value)→World→Prop} (hn:n≤l.length) (hok:JOk l n [])
  (hstep:∀ (i:Nat) (o:Oper),i<n→l[i]? = some o→CStep P l n a0 I i o)
  (htail:∀ (L:Nat→Bool) (u:Nat→Value) (w:World),(∀ j,j<n→L j=true)→I L u w→wpList P l.toArray Q (l.drop n) (frm (l.take n) u 0 a0) w) :
  ∀ (m fuel:Nat) (u:Nat→Value) (listed:Array Bool) (a:Act) (w:World),left n listed≤m→m+(l.length - n)≤fuel→JTriv l n a0 w0 u listed a→I (fun j=>listed.getD j false) u w→wpAny P .any l.toArray Q fuel listed a w:=by
 have ending:∀ (fuel:Nat) (u:Nat→Value) (listed:Array Bool) (a:Act) (w:World),(l.length - n)≤fuel→JTriv l n a0 w0 u listed a→I (fun j=>listed.getD j false) u w→(∀ j,j<n→listed.getD j false=true)→wpAny P .any l.toArray Q fuel listed a w:=by
  intro fuel u listed a w hf hI hinv hall
  have ha:=hI.whole hok hn hall
  refine tail_any (n:=n) hok.back (fun i h1 h2 j h3 h4=>hok.tail i h1 h2 j h4 (by simp)) fuel n listed a w (Nat.le_refl _) hn (by omega) hI.shut (fun j hj => ?_) ?_
  ·by_cases h:j<n
   ·rw[hall j h];simp[h]
   ·rw[hI.notail j (by omega) hj];simp[h]
  ·rw[ha]
   exact htail _ u w hall hinv
 intro m
 induction m with
 | zero =>
  intro fuel u listed a w hm hf hI hinv
  refine ending fuel u listed a w (by omega) hI hinv (fun j hj => ?_)
  cases h:listed.getD j false with
  | true=>rfl
  | false =>
   exfalso
   have hmem:j∈(List.range n).filter fun j => !listed.getD j false:=by simp[List.mem_filter,hj];simpa using h
   have:(List.range n).filter (fun j => !listed.getD j false)=[]:=List.length_eq_zero_iff.1 (by unfold left at hm;omega)
   rw[this] at hmem;cases hmem
 | succ m ih =>
  intro fuel u listed a w hm hf hI hinv
  have hlt:∀ j,j<n→j<listed.size:=fun j hj=>by rw[hI.shut.size];simp;omega
  by_cases hall:∀ j,j<n→listed.getD j false=true
  ·exact ending fuel u listed a w (by omega) hI hinv hall
  obtain ⟨fuel,rfl⟩:∃ f,fuel=f+1:=⟨fuel - 1,by omega⟩
  have hex:∃ j,j<n∧listed.getD j false=false∧∀ k,k<j→listed.getD k false=true:=by
   apply Classical.byContradiction
   intro hno
   refine hall fun j => ?_
   induction j using Nat.strongRecOn with
   | ind j ihj =>
    intro hj
    cases h:listed.getD j false with
    | true=>rfl
    | false=>exact absurd ⟨j,hj,h,fun k hk=>ihj k hk (by omega)⟩ hno
  obtain ⟨j0,hj0,hj0l,hj0k⟩:=hex
  have hj0o:l[j0]? = some (l[j0]'(by omega)):=List.getElem?_eq_getElem (by omega)
  have hd0:∀ e∈(l[j0]'(by omega)).after,Region.binds .any e=true→listed.getD e.on false=true:=fun e he hb=>hj0k _ (hok.back j0 _ hj0o e he hb)
  have hr0:j0∈Region.ready .any l.toArray listed:=mem_ready.2 ⟨by rw[getD_flip (hlt j0 hj0) true false];exact hj0l,_,by rw[List.getElem?_toArray];exact hj0o,hd0⟩
  refine ⟨fun h0=>(by rw[h0] at hr0;cases hr0),fun i hi => ?_⟩
  obtain ⟨hun,o,ho,hd⟩:=mem_ready.1 hi
  have hil:i<l.length:=by
   rcases Nat.lt_or_ge i l.length with h | h
   ·exact h
   ·simp[List.getElem?_eq_none h] at ho
  have hol:l[i]? = some o:=by simpa using ho
  have hun':listed.getD i false=false:=by rw[←getD_flip (by rw[hI.shut.size];simp;exact hil) true false];exact hun
  have hin:i<n:=by
   rcases Nat.lt_or_ge i n with h | h
   ·exact h
   ·exfalso
    exact hall fun j hj=>coverX_listed hI.shut i j o ho hd (hok.tail i h hil j (by omega) (by simp))
  have hlook:=look_same hn hok hI hin hol hd
  have hs:=hstep i o hin hol (fun j=>listed.getD j false) u w hun' (fun j hj hw=>waits_listed ho hd hw) hinv
  have hsel:=fun cs b=>Region.noSelect_spec hok.sel i o cs b ho
  have hset:(fun j=>(listed.setIfInBounds i true).getD j false)=fun j=>if j=i then true else listed.getD j false:=by
   funext j
   by_cases h:j=i
   ·subst h
    have:=hlt j hin
    simp[this]
   ·rw[if_neg h,getD_set_ne false (Ne.symm h)]
  unfold wpOp
  simp only[ho]
  rw[wanted_same hlook]
  have go:∀ v w',I (fun j=>if j=i then true else listed.getD j false) (fun j=>if j=i then v else u j) w' →
    wpAny P .any l.toArray Q fuel (listed.setIfInBounds i true) (a.put o.dst v) w':=fun v w' h =>
   ih fuel _ _ _ _ (by have:=left_set hin (hlt i hin) hun';omega) (by omega) (hI.next hok (fun _ _ _ _ _ _=>trivial) hin hn hol hun' hd (Below.refl _ _) trivial (fun h=>by cases h)) (by rw[hset];exact h)
  split
  ·rename_i hwant
   rw[if_pos hwant] at hs
   refine .inl ?_
   unfold Oper.wp
   rw[exec_same hsel hlook]
   exact upon_of_gives hs fun v w' h=>go v w' h
  ·rename_i hwant
   rw[if_neg hwant] at hs
   exact go undef w hs
theorem wp_region_C {id:Nat} {Q:Exit→Act→World→Prop} (n:Nat) (I:(Nat→Bool)→(Nat→Value)→World→Prop) (hm:P.follows .mixedOrders=true) (hn:n≤l.length) (hok:jOk l n []=true)
  (hstart:I (fun _=>false) (fun _=>undef) w0.drew)
  (hstep:∀ (i:Nat) (o:Oper),i<n→l[i]? = some o→CStep P l n a0 I i o)
  (htail:∀ (L:Nat→Bool) (u:Nat→Value) (w:World),(∀ j,j<n→L j=true)→I L u w→wpList P l.toArray Q (l.drop n) (frm (l.take n) u 0 a0) w) :
  (Code.region id l.toArray true).wp P Q a0 w0:=by
 have hok':=jOk_spec hok
 refine wp_region_any hm ?_
 have hun:∀ j,(Array.replicate l.toArray.size false).getD j false=false:=fun j=>by
  simp only[Array.getD_eq_getD_getElem?,Array.getElem?_replicate];split<;>rfl
 refine prefix_inv (w0:=w0) hn hok' hstep htail n l.toArray.size (fun _=>undef) _ a0 _ ?_ (by simp;omega) ?_ ?_
 ·unfold left
  exact Nat.le_trans (List.length_filter_le _ _) (by simp)
 ·have no:∀ (j:Nat) (q:Prop),(Array.replicate l.toArray.size false).getD j false=true→q:=fun j q h=>by rw[hun] at h;cases h
  exact {
   shut:=⟨by simp,fun i o _ h=>no i _ h⟩
   notail:=fun j _ _=>hun j
   size:=rfl
   defers:=rfl
   mine:=fun j o t _ _ h=>no j _ h
   rest:=fun _ _=>rfl
   past:=Below.refl _ _
   facts:=fun j _ h=>no j _ h
   fresh:=fun j _ h=>no j _ h
   apart:=fun i j _ _ _ h=>no i _ h }
 ·have:(fun j=>(Array.replicate l.toArray.size false).getD j false)=fun _=>false:=funext hun
  rw[this]
  exact hstart
end
end
end Go.Proofs.YtcmponckjkalaaaGreat
