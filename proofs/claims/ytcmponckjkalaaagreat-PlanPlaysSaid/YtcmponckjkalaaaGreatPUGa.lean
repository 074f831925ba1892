/- The document's own answers of layer 11: one change. No conditions but the sizes. -/
import Derived.Test.YtcmponckjkalaaaGreatPUGY
import Derived.Test.YtcmponckjkalaaaGreatPUGZ
namespace Go.Proofs.YtcmponckjkalaaaGreat
section
open Go.ChangeShapes Go.WideShapes Go.ChangeAt Go.RowKit
attribute [local irreducible] Go.Calls
structure DQ (w:World) (v:Value) (L:List Rv) (C:List Sg):Prop where
 has:∃ vc vl l,v = .agg #[vc,vl]∧SliS w vc C∧SliRd w vl l∧RwsF w l L
theorem DQ.past {w w':World} {v:Value} {L:List Rv} {C:List Sg} (h:DQ w v L C) (hb:Below w.heap.size w w'):DQ w' v L C:=by
 obtain ⟨vc,vl,l,e,h1,h2,h3⟩:=h.has
 exact ⟨vc,vl,l,e,h1.past hb,h2.past hb,h3.past hb⟩
theorem DQ.keepI {w w':World} {v:Value} {L:List Rv} {C:List Sg} (h:DQ w v L C) (hk:KeepI w w'):DQ w' v L C:=by
 obtain ⟨vc,vl,l,e,h1,h2,h3⟩:=h.has
 exact ⟨vc,vl,l,e,h1.keepI hk,h2.keepI hk,h3.keepI hk⟩
theorem sliRd_rw {w:World} {v:Value} {l:List Rw} (h:SliRd w v l):SliRw w v l:=h.1
theorem load11_all {v:Value} {l:List Rw} {L:List Rv} (vc:Value) (w:World) (hS:SliRw w v l) (hF:RwsF w l L) (hl:l.length≤200) (hA:∀ r∈L,r.A.length≤1024) (hvc:∃ a n c,vc = .slice a n c) :
  Calls Tryz.prog 58 #[.agg #[vc,v],.string ⟨#[]⟩] w (OfIs w (sumS (fnsS L)).1 (sumS (fnsS L)).2):=by
 have:=load11_c vc [] w hS hF hl hA hvc (by simp)
 rw[byU_all] at this
 exact this
theorem may11_c {x:Rw} {r:Rv} (w:World) (hx:RwF w x r) (hl:r.A.length≤1000000000) (hf:x.fit) :
  Calls Tryz.prog 19 #[rwV x] w fun e w'=>e = .returned (.bool r.ok)∧Below w.heap.size w w':=by
 obtain ⟨xi,xs,xu,xf,xt,vT,vW,vA⟩:=x
 obtain ⟨⟨aT,nT,cT,e1⟩,⟨aW,nW,cW,e2⟩,_,_⟩:=hf
 obtain ⟨aA,cA,e3,_,_,hA⟩:=hx.a.1
 simp only at e1 e2 e3
 subst e1;subst e2;subst e3
 have h1:xi=r.id:=hx.id
 have h2:xu=r.u:=hx.u
 subst h1;subst h2
 rw[ok_is]
 exact may11_a w hA hl
theorem with11_c {v:Value} {l:List Rw} {L:List Rv} {x:Rw} {r:Rv} (vc:Value) (w:World) (hS:SliRd w v l) (hF:RwsF w l L) (hx:RwF w x r) (hfit:x.fit) (hl:l.length≤1000000) (hvc:∃ a n c,vc = .slice a n c) :
  Calls Tryz.prog 91 #[.agg #[vc,v],rwV x] w fun e w'=>∃ v',e = .returned (.agg #[vc,v'])∧RowIs w' w.heap.size v' (l.take (cntA L r)++([x]++l.drop (cntA L r)))∧Below w.heap.size w w':=by
 obtain ⟨xi,xs,xu,xf,xt,vT,vW,vA⟩:=x
 obtain ⟨⟨aT,nT,cT,e1⟩,⟨aW,nW,cW,e2⟩,⟨aA,nA,cA,e3⟩,_⟩:=id hfit
 simp only at e1 e2 e3
 subst e1;subst e2;subst e3
 have h1:xi=r.id:=hx.id
 have h2:xs=r.seq:=hx.seq
 rcases hS.open_ with ⟨rfl,rfl⟩ | ⟨b,off,cap,rfl,hnc,hcap,hbz,hc,hf⟩
 ·have:L=[]:=List.eq_nil_of_length_eq_zero hF.1
  subst this
  exact with11_nil vc w hfit hvc
 ·exact with11_some vc w hnc hbz hc hf hF.1 (fun i hi=>(hF.2 i hi).id) (fun i hi=>(hF.2 i hi).seq) h1 h2 hl hfit hvc
set_option maxRecDepth 100000 in
set_option maxHeartbeats 16000000 in
theorem one11_a {al:Option Addr} {nl cl:Nat} {l:List Rw} {L:List Rv} {C:List Sg} {k:Int} {r:Rv} {xi xs xf xt:Int} {xu:List UInt8} {a0 aT aW aA:Option Addr} {m0 c0 nT cT nW cW nA cA:Nat} (w:World)
  (hC:SliS w (.slice a0 m0 c0) C) (hS:SliRd w (.slice al nl cl) l) (hF:RwsF w l L) (hG:GoodL L) (hk:0≤k∧k≤255) (hx:RwF w (⟨xi,xs,xu,xf,xt,.slice aT nT cT,.slice aW nW cW,.slice aA nA cA⟩:Rw) r) (hfit:Rw.fit (⟨xi,xs,xu,xf,xt,.slice aT nT cT,.slice aW nW cW,.slice aA nA cA⟩:Rw)) (hsm:r.A.length≤1000000000) :
  Calls Tryz.prog 50 #[.agg #[.slice a0 m0 c0,.slice al nl cl],.agg #[.int .u8 k,.int .u32 xi,.int .u32 xs,nmV xu,.int .i64 xf,.int .i64 xt,.slice aT nT cT,.slice aW nW cW,.slice aA nA cA]] w fun e w'=>∃ v',e = .returned (.tuple #[v',.int .i64 (oneS L k r).2])∧DQ w' v' (oneS L k r).1 C∧Below w.heap.size w w':=by
 obtain ⟨w0,hw0⟩:∃ w0,w0=((w.alloc (Obj.cells #[.slice a0 m0 c0,.slice al nl cl] 33)).alloc (Obj.cells #[.int .u8 k,.int .u32 xi,.int .u32 xs,nmV xu,.int .i64 xf,.int .i64 xt,.slice aT nT cT,.slice aW nW cW,.slice aA nA cA] 52)).alloc (Obj.cells #[.slice none 0 0,.slice none 0 0] 33):=⟨_,rfl⟩
 have hb0:Below w.heap.size w w0:=by rw[hw0];(repeat (first | exact Below.refl _ _ | assumption | refine balloc ?_ _ | refine below_drewN ?_ _ | refine bstep (by assumption) ?_ | refine bstep (Past.prop _) ?_ | refine Below.setCell ?_ (by first | exact Nat.le_refl _ | (simp;done) | (simp;omega)) _))
 have HB:=hidE hb0
 have HB1:=hidE (show Blk w0 w.heap.size #[.slice a0 m0 c0,.slice al nl cl] 33 by rw[hw0];exact ((Blk.made _ _ _).alloc _).alloc _)
 have HB2:=hidE (show Blk w0 (w.heap.size+1) #[.int .u8 k,.int .u32 xi,.int .u32 xs,nmV xu,.int .i64 xf,.int .i64 xt,.slice aT nT cT,.slice aW nW cW,.slice aA nA cA] 52 by
  rw[hw0]
  refine Blk.alloc ?_ _
  have:=Blk.made (w.alloc (Obj.cells #[.slice a0 m0 c0,.slice al nl cl] 33)) #[.int .u8 k,.int .u32 xi,.int .u32 xs,nmV xu,.int .i64 xf,.int .i64 xt,.slice aT nT cT,.slice aW nW cW,.slice aA nA cA] 52
  simpa using this)
 have HB3:=hidE (show Blk w0 (w.heap.size+2) #[.slice none 0 0,.slice none 0 0] 33 by
  rw[hw0]
  have:=Blk.made ((w.alloc (Obj.cells #[.slice a0 m0 c0,.slice al nl cl] 33)).alloc (Obj.cells #[.int .u8 k,.int .u32 xi,.int .u32 xs,nmV xu,.int .i64 xf,.int .i64 xt,.slice aT nT cT,.slice aW nW cW,.slice aA nA cA] 52)) #[.slice none 0 0,.slice none 0 0] 33
  simpa using this)
 have HC:=hidE hC;have HS:=hidE hS;have HF:=hidE hF;have HG:=hidE hG;have HX:=hidE hx;have HFT:=hidE hfit;have HSM:=hidE hsm
 have hxi:xi=r.id:=hx.id
 have hll:l.length=nl:=by
  obtain ⟨⟨a',c',e,_⟩,_⟩:=hS
  have:nl=l.length:=by simpa using (congrArg (fun v=>match v with | Value.slice _ n _=>n | _=>0) e)
  exact this.symm
 have HLL:=hidE (show l.length≤128 from by have:=hF.1;have:=hG.few;omega)
 have HXI:=hidE hxi
 clear hC hS hF hG hx hfit hsm hb0 hxi hll
 by_cases hk2:2<k
 ·have dk:decide (2<k)=true:=decide_eq_true hk2
  have HE:=hidE (show oneS L k r=(L,2) from by unfold oneS;rw[if_pos hk2])
  clear hk hk2
  go_enter Tryz.func50,Tryz.ntmps50
  go_upto_region 1 with fail
  rw[←hw0]
  clear hw0
  have p0:=HB1.out.cell 0;have p1:=HB1.out.cell 1;have pz:=HB1.out.lt
  have c0':=HB2.out.cell 0;have c1:=HB2.out.cell 1;have c2:=HB2.out.cell 2;have c3:=HB2.out.cell 3;have c4:=HB2.out.cell 4;have c5:=HB2.out.cell 5;have c6:=HB2.out.cell 6;have c7:=HB2.out.cell 7;have c8:=HB2.out.cell 8;have cz:=HB2.out.lt
  have r0:=HB3.out.cell 0;have r1:=HB3.out.cell 1;have rz:=HB3.out.lt;have fr0:=HB3.out.free 0;have fr1:=HB3.out.free 1
  simp at p0 p1 c0' c1 c2 c3 c4 c5 c6 c7 c8 r0 r1
  go_wp2
  refine bodyPost_ret (v := .tuple #[.agg #[.slice a0 m0 c0,.slice al nl cl],.int .i64 2]) (by simp[results,Tryz.results50,go_sem,r0,r1]) rfl ?_
  rw[HE.out]
  have hbf:Below w.heap.size w ((World.setCell _ ⟨w.heap.size+2,0,none⟩ (.slice a0 m0 c0)).setCell ⟨w.heap.size+2,1,none⟩ (.slice al nl cl)):=Below.setCell (Below.setCell HB.out (show w.heap.size≤w.heap.size+2 by omega) _) (show w.heap.size≤w.heap.size+2 by omega) _
  exact ⟨_,rfl,⟨_,_,l,rfl,HC.out.past hbf,HS.out.past hbf,HF.out.past hbf⟩,hbf⟩
 ·have hk3:k=0∨k=1∨k=2:=by omega
  cases ha:atS L r.id with
  | none =>
   have HAT1:=hidE (show atI L xi = -1 from by rw[HXI.out];exact atI_none ha)
   rcases hk3 with rfl | rfl | rfl
   ·cases hok:r.ok
    ·have HE:=hidE (show oneS L 0 r=(L,5) from by unfold oneS;rw[if_neg (by decide),if_pos ⟨by decide,hok⟩])
     have HOK1:=hidE hok
     clear hk2 hk hok ha
     go_enter Tryz.func50,Tryz.ntmps50
     go_upto_region 1 with fail
     rw[←hw0]
     clear hw0
     have p0:=HB1.out.cell 0;have p1:=HB1.out.cell 1;have pz:=HB1.out.lt
     have c0':=HB2.out.cell 0;have c1:=HB2.out.cell 1;have c2:=HB2.out.cell 2;have c3:=HB2.out.cell 3;have c4:=HB2.out.cell 4;have c5:=HB2.out.cell 5;have c6:=HB2.out.cell 6;have c7:=HB2.out.cell 7;have c8:=HB2.out.cell 8;have cz:=HB2.out.lt
     have r0:=HB3.out.cell 0;have r1:=HB3.out.cell 1;have rz:=HB3.out.lt;have fr0:=HB3.out.free 0;have fr1:=HB3.out.free 1
     simp at p0 p1 c0' c1 c2 c3 c4 c5 c6 c7 c8 r0 r1
     go_wp2_with fail
     ((with_reducible refine (may11_c _ (HX.out.past HB.out) HSM.out HFT.out).mono ?_);rintro e wm ⟨rfl,hbm⟩)
     rw[HOK1.out]
     clear p0 p1 pz c0' c1 c2 c3 c4 c5 c6 c7 c8 cz r0 r1 rz fr0 fr1
     have HB:=hidE (bstep hbm HB.out);have HB1:=hidE (HB1.out.past hbm);have HB2:=hidE (HB2.out.past hbm);have HB3:=hidE (HB3.out.past hbm)
     clear hbm
     have p0:=HB1.out.cell 0;have p1:=HB1.out.cell 1;have pz:=HB1.out.lt
     have c0':=HB2.out.cell 0;have c1:=HB2.out.cell 1;have c2:=HB2.out.cell 2;have c3:=HB2.out.cell 3;have c4:=HB2.out.cell 4;have c5:=HB2.out.cell 5;have c6:=HB2.out.cell 6;have c7:=HB2.out.cell 7;have c8:=HB2.out.cell 8;have cz:=HB2.out.lt
     have r0:=HB3.out.cell 0;have r1:=HB3.out.cell 1;have rz:=HB3.out.lt;have fr0:=HB3.out.free 0;have fr1:=HB3.out.free 1
     simp at p0 p1 c0' c1 c2 c3 c4 c5 c6 c7 c8 r0 r1
     go_wp2
     refine bodyPost_ret (v := .tuple #[.agg #[.slice a0 m0 c0,.slice al nl cl],.int .i64 5]) (by simp[results,Tryz.results50,go_sem,r0,r1]) rfl ?_
     rw[HE.out]
     have hbf:Below w.heap.size w ((World.setCell _ ⟨w.heap.size+2,0,none⟩ (.slice a0 m0 c0)).setCell ⟨w.heap.size+2,1,none⟩ (.slice al nl cl)):=Below.setCell (Below.setCell HB.out (show w.heap.size≤w.heap.size+2 by omega) _) (show w.heap.size≤w.heap.size+2 by omega) _
     exact ⟨_,rfl,⟨_,_,l,rfl,HC.out.past hbf,HS.out.past hbf,HF.out.past hbf⟩,hbf⟩
    ·have HOK1:=hidE hok
     have HNN:=hidE (atS_none.1 ha)
     have HEQ:=hidE (show oneS L 0 r=finS L (insS L r) from by unfold oneS;rw[if_neg (by decide),if_neg (by rw[hok];decide),ha];rfl)
     clear hk2 hk hok ha
     go_enter Tryz.func50,Tryz.ntmps50
     go_upto_region 1 with fail
     rw[←hw0]
     clear hw0
     have p0:=HB1.out.cell 0;have p1:=HB1.out.cell 1;have pz:=HB1.out.lt
     have c0':=HB2.out.cell 0;have c1:=HB2.out.cell 1;have c2:=HB2.out.cell 2;have c3:=HB2.out.cell 3;have c4:=HB2.out.cell 4;have c5:=HB2.out.cell 5;have c6:=HB2.out.cell 6;have c7:=HB2.out.cell 7;have c8:=HB2.out.cell 8;have cz:=HB2.out.lt
     have r0:=HB3.out.cell 0;have r1:=HB3.out.cell 1;have rz:=HB3.out.lt;have fr0:=HB3.out.free 0;have fr1:=HB3.out.free 1
     simp at p0 p1 c0' c1 c2 c3 c4 c5 c6 c7 c8 r0 r1
     go_wp2_with fail
     ((with_reducible refine (may11_c _ (HX.out.past HB.out) HSM.out HFT.out).mono ?_);rintro e wm ⟨rfl,hbm⟩)
     rw[HOK1.out]
     clear p0 p1 pz c0' c1 c2 c3 c4 c5 c6 c7 c8 cz r0 r1 rz fr0 fr1
     have HB:=hidE (bstep hbm HB.out);have HB1:=hidE (HB1.out.past hbm);have HB2:=hidE (HB2.out.past hbm);have HB3:=hidE (HB3.out.past hbm)
     clear hbm
     have p0:=HB1.out.cell 0;have p1:=HB1.out.cell 1;have pz:=HB1.out.lt
     have c0':=HB2.out.cell 0;have c1:=HB2.out.cell 1;have c2:=HB2.out.cell 2;have c3:=HB2.out.cell 3;have c4:=HB2.out.cell 4;have c5:=HB2.out.cell 5;have c6:=HB2.out.cell 6;have c7:=HB2.out.cell 7;have c8:=HB2.out.cell 8;have cz:=HB2.out.lt
     have r0:=HB3.out.cell 0;have r1:=HB3.out.cell 1;have rz:=HB3.out.lt;have fr0:=HB3.out.free 0;have fr1:=HB3.out.free 1
     simp at p0 p1 c0' c1 c2 c3 c4 c5 c6 c7 c8 r0 r1
     go_wp2_with fail
     ((with_reducible refine (at11_c _ _ _ (sliRd_rw (HS.out.past HB.out)) (HF.out.past HB.out) (by have:=HLL.out;omega) ⟨_,_,_,rfl⟩).mono ?_);rintro e wa ⟨rfl,hba⟩)
     rw[HAT1.out]
     clear p0 p1 pz c0' c1 c2 c3 c4 c5 c6 c7 c8 cz r0 r1 rz fr0 fr1
     have HB:=hidE (bstep hba HB.out);have HB1:=hidE (HB1.out.past hba);have HB2:=hidE (HB2.out.past hba);have HB3:=hidE (HB3.out.past hba)
     clear hba
     have p0:=HB1.out.cell 0;have p1:=HB1.out.cell 1;have pz:=HB1.out.lt
     have c0':=HB2.out.cell 0;have c1:=HB2.out.cell 1;have c2:=HB2.out.cell 2;have c3:=HB2.out.cell 3;have c4:=HB2.out.cell 4;have c5:=HB2.out.cell 5;have c6:=HB2.out.cell 6;have c7:=HB2.out.cell 7;have c8:=HB2.out.cell 8;have cz:=HB2.out.lt
     have r0:=HB3.out.cell 0;have r1:=HB3.out.cell 1;have rz:=HB3.out.lt;have fr0:=HB3.out.free 0;have fr1:=HB3.out.free 1
     simp at p0 p1 c0' c1 c2 c3 c4 c5 c6 c7 c8 r0 r1
     go_upto_region 11 with fail
     obtain ⟨pn,hpn⟩:∃ pn,pn=wa.heap.size:=⟨_,rfl⟩
     obtain ⟨w7,hw7⟩:∃ w7,w7=wa.alloc (Obj.cells #[.slice a0 m0 c0,.slice al nl cl] 33):=⟨_,rfl⟩
     have HB7:=hidE (show Blk w7 pn #[.slice a0 m0 c0,.slice al nl cl] 33 by rw[hw7,hpn];exact Blk.made _ _ _)
     have h7:Below wa.heap.size wa w7:=by rw[hw7];(repeat (first | exact Below.refl _ _ | assumption | refine balloc ?_ _ | refine below_drewN ?_ _ | refine bstep (by assumption) ?_ | refine bstep (Past.prop _) ?_ | refine Below.setCell ?_ (by first | exact Nat.le_refl _ | (simp;done) | (simp;omega)) _))
     have HPN:=hidE (show w.heap.size+2<pn by rw[hpn];exact rz)
     rw[←hw7]
     rw[←hpn]
     clear hw7 hpn
     clear p0 p1 pz c0' c1 c2 c3 c4 c5 c6 c7 c8 cz r0 r1 rz fr0 fr1
     have HB:=hidE (bstep h7 HB.out);have HB1:=hidE (HB1.out.past h7);have HB2:=hidE (HB2.out.past h7);have HB3:=hidE (HB3.out.past h7)
     clear h7
     have HSc:=hidE (HS.out.past HB.out);have HFc:=hidE HF.out
     have p0:=HB1.out.cell 0;have p1:=HB1.out.cell 1;have pz:=HB1.out.lt
     have c0':=HB2.out.cell 0;have c1:=HB2.out.cell 1;have c2:=HB2.out.cell 2;have c3:=HB2.out.cell 3;have c4:=HB2.out.cell 4;have c5:=HB2.out.cell 5;have c6:=HB2.out.cell 6;have c7:=HB2.out.cell 7;have c8:=HB2.out.cell 8;have cz:=HB2.out.lt
     have r0:=HB3.out.cell 0;have r1:=HB3.out.cell 1;have rz:=HB3.out.lt;have fr0:=HB3.out.free 0;have fr1:=HB3.out.free 1
     simp at p0 p1 c0' c1 c2 c3 c4 c5 c6 c7 c8 r0 r1
     have n0:=HB7.out.cell 0;have n1:=HB7.out.cell 1;have nz:=HB7.out.lt;have nf0:=HB7.out.free 0;have nf1:=HB7.out.free 1
     simp at n0 n1
     have HLC:=hidE (show l.length≤200 from by have:=HLL.out;omega)
     go_wp2_with fail
     ((with_reducible refine (with11_c _ _ HSc.out (HFc.out.past HB.out) (HX.out.past HB.out) HFT.out (by have:=HLC.out;omega) ⟨_,_,_,rfl⟩).mono ?_);rintro e wb ⟨vb,rfl,hRb,hbb⟩)
     obtain ⟨lN,hlN⟩:∃ l',l'=l.take (cntA (L) r)++([(⟨xi,xs,xu,xf,xt,.slice aT nT cT,.slice aW nW cW,.slice aA nA cA⟩:Rw)]++l.drop (cntA (L) r)):=⟨_,rfl⟩
     rw[←hlN] at hRb
     have HFd:=hidE (show RwsF w lN (insS (L) r) by rw[hlN];exact rwsF_ins HF.out HX.out)
     obtain ⟨alN,clN,rfl⟩:=own_sli hRb.1
     have HR:=hidE (hRb.low (show pn+1≤_ from HB7.out.lt))
     have HB7:=hidE (HB7.out.past hbb)
     clear hlN hRb n0 n1 nz nf0 nf1 HSc HFc
     clear p0 p1 pz c0' c1 c2 c3 c4 c5 c6 c7 c8 cz r0 r1 rz fr0 fr1
     have HB:=hidE (bstep hbb HB.out);have HB1:=hidE (HB1.out.past hbb);have HB2:=hidE (HB2.out.past hbb);have HB3:=hidE (HB3.out.past hbb)
     clear hbb
     have n0:=HB7.out.cell 0;have n1:=HB7.out.cell 1;have nz:=HB7.out.lt;have nf0:=HB7.out.free 0;have nf1:=HB7.out.free 1
     simp at n0 n1
     go_upto_region 15 with fail
     obtain ⟨wwn,hwwn⟩:∃ w8,w8=(wb.setCell ⟨pn,0,none⟩ (.slice a0 m0 c0)).setCell ⟨pn,1,none⟩ (.slice alN lN.length clN):=⟨_,rfl⟩
     have HBn:=hidE (show Blk wwn pn #[.slice a0 m0 c0,.slice alN lN.length clN] 33 by rw[hwwn];simpa using (HB7.out.set 0 (.slice a0 m0 c0)).set 1 (.slice alN lN.length clN))
     have HRn:=hidE (show RowIs wwn (pn+1) (.slice alN lN.length clN) lN by rw[hwwn];exact (HR.out.set (by omega) _).set (by omega) _)
     have HBx:=hidE (show Below w.heap.size w wwn by rw[hwwn];have:=HPN.out;exact Below.setCell (Below.setCell HB.out (show w.heap.size≤pn by omega) _) (show w.heap.size≤pn by omega) _)
     have HB1x:=hidE (show Blk wwn w.heap.size #[.slice a0 m0 c0,.slice al nl cl] 33 by rw[hwwn];have:=HPN.out;exact (HB1.out.other (by omega) _).other (by omega) _)
     have HB2x:=hidE (show Blk wwn (w.heap.size+1) #[.int .u8 0,.int .u32 xi,.int .u32 xs,nmV xu,.int .i64 xf,.int .i64 xt,.slice aT nT cT,.slice aW nW cW,.slice aA nA cA] 52 by rw[hwwn];have:=HPN.out;exact (HB2.out.other (by omega) _).other (by omega) _)
     have HB3x:=hidE (show Blk wwn (w.heap.size+2) #[.slice none 0 0,.slice none 0 0] 33 by rw[hwwn];have:=HPN.out;exact (HB3.out.other (by omega) _).other (by omega) _)
     rw[←hwwn]
     clear hwwn HB7 HR HB HB1 HB2 HB3 n0 n1 nz nf0 nf1
     have HB7:=hidE HBn.out;have HR:=hidE HRn.out;have HB:=hidE HBx.out;have HB1:=hidE HB1x.out;have HB2:=hidE HB2x.out;have HB3:=hidE HB3x.out
     have HSc:=hidE HR.out.rd;have HFc:=hidE HFd.out
     clear HBn HRn HBx HB1x HB2x HB3x HFd
     have p0:=HB1.out.cell 0;have p1:=HB1.out.cell 1;have pz:=HB1.out.lt
     have c0':=HB2.out.cell 0;have c1:=HB2.out.cell 1;have c2:=HB2.out.cell 2;have c3:=HB2.out.cell 3;have c4:=HB2.out.cell 4;have c5:=HB2.out.cell 5;have c6:=HB2.out.cell 6;have c7:=HB2.out.cell 7;have c8:=HB2.out.cell 8;have cz:=HB2.out.lt
     have r0:=HB3.out.cell 0;have r1:=HB3.out.cell 1;have rz:=HB3.out.lt;have fr0:=HB3.out.free 0;have fr1:=HB3.out.free 1
     simp at p0 p1 c0' c1 c2 c3 c4 c5 c6 c7 c8 r0 r1
     have n0:=HB7.out.cell 0;have n1:=HB7.out.cell 1;have nz:=HB7.out.lt;have nf0:=HB7.out.free 0;have nf1:=HB7.out.free 1
     simp at n0 n1
     have HFN:=hidE HFc.out
     have HNL:=hidE (show (insS L r).length≤129 from by rw[insS_len];have:=HG.out.few;omega)
     have HGN:=hidE (show ∀ y∈insS L r,y.ok=true from insS_ok HG.out HOK1.out)
     have HNB:=hidE (show w.heap.size+2<pn+1 from by have:=HPN.out;omega)
     clear HSc HFc n0 n1 nz nf0 nf1
     have HNK:=hidE (show lN.length≤200 from by have h1:=HFN.out.1;have h2:=HNL.out;omega)
     have HNA:=hidE (show ∀ y∈insS L r,y.A.length≤1024 from fun y hy=>rok_len (HGN.out y hy))
     have n0:=HB7.out.cell 0;have n1:=HB7.out.cell 1;have nz:=HB7.out.lt
     simp at n0 n1
     have hlen:lN.length=(insS L r).length:=HFN.out.1.symm
     have hN200:lN.length≤200:=HNK.out
     by_cases h128:128<lN.length
     ·have d128:decide ((128:Int)<(lN.length:Int))=true:=decide_eq_true (by omega)
      have HE:=hidE (HEQ.out.trans (show finS L (insS L r)=(L,6) from by unfold finS;rw[if_pos (by omega)]))
      clear h128 hlen hN200
      go_wp2
      refine bodyPost_ret (v := .tuple #[.agg #[.slice a0 m0 c0,.slice al nl cl],.int .i64 6]) (by simp[results,Tryz.results50,go_sem,r0,r1]) rfl ?_
      rw[HE.out]
      have hbf:Below w.heap.size w ((World.setCell _ ⟨w.heap.size+2,0,none⟩ (.slice a0 m0 c0)).setCell ⟨w.heap.size+2,1,none⟩ (.slice al nl cl)):=Below.setCell (Below.setCell HB.out (show w.heap.size≤w.heap.size+2 by omega) _) (show w.heap.size≤w.heap.size+2 by omega) _
      exact ⟨_,rfl,⟨_,_,l,rfl,HC.out.past hbf,HS.out.past hbf,HF.out.past hbf⟩,hbf⟩
     ·have d128:decide ((128:Int)<(lN.length:Int))=false:=decide_eq_false (by omega)
      have HE1:=hidE (HEQ.out.trans (show finS L (insS L r)=if sumOk (insS L r) then (insS L r,0) else (L,10) from by unfold finS;rw[if_neg (by omega)]))
      clear h128 hlen hN200
      go_wp2_with fail
      ((with_reducible refine (load11_all _ _ (sliRd_rw HR.out.rd) (HFN.out.past HB.out) HNK.out HNA.out ⟨_,_,_,rfl⟩).mono ?_);rintro e wl ⟨vl,rfl,_,hbl⟩)
      have HB7:=hidE (HB7.out.past hbl);have HR:=hidE (HR.out.past hbl)
      clear n0 n1 nz
      clear p0 p1 pz c0' c1 c2 c3 c4 c5 c6 c7 c8 cz r0 r1 rz fr0 fr1
      have HB:=hidE (bstep hbl HB.out);have HB1:=hidE (HB1.out.past hbl);have HB2:=hidE (HB2.out.past hbl);have HB3:=hidE (HB3.out.past hbl)
      clear hbl
      have p0:=HB1.out.cell 0;have p1:=HB1.out.cell 1;have pz:=HB1.out.lt
      have c0':=HB2.out.cell 0;have c1:=HB2.out.cell 1;have c2:=HB2.out.cell 2;have c3:=HB2.out.cell 3;have c4:=HB2.out.cell 4;have c5:=HB2.out.cell 5;have c6:=HB2.out.cell 6;have c7:=HB2.out.cell 7;have c8:=HB2.out.cell 8;have cz:=HB2.out.lt
      have r0:=HB3.out.cell 0;have r1:=HB3.out.cell 1;have rz:=HB3.out.lt;have fr0:=HB3.out.free 0;have fr1:=HB3.out.free 1
      simp at p0 p1 c0' c1 c2 c3 c4 c5 c6 c7 c8 r0 r1
      have n0:=HB7.out.cell 0;have n1:=HB7.out.cell 1;have nz:=HB7.out.lt
      simp at n0 n1
      by_cases h0:(sumS (fnsS (insS L r))).2=0
      ·have HE:=hidE (HE1.out.trans (by rw[show sumOk (insS L r)=true from by unfold sumOk;exact decide_eq_true h0];first | done | exact if_pos rfl))
       have d0:((sumS (fnsS (insS L r))).2 == 0)=true:=beq_iff_eq.2 h0
       have d0':((sumS (fnsS (insS L r))).2 != 0)=false:=by rw[bne,d0];rfl
       rw[h0]
       clear h0 d0 d0'
       go_wp2
       refine bodyPost_ret (v := .tuple #[.agg #[.slice a0 m0 c0,.slice alN lN.length clN],.int .i64 0]) (by simp[results,Tryz.results50,go_sem,r0,r1]) rfl ?_
       rw[HE.out]
       have hbf:Below w.heap.size w ((World.setCell _ ⟨w.heap.size+2,0,none⟩ (.slice a0 m0 c0)).setCell ⟨w.heap.size+2,1,none⟩ (.slice alN lN.length clN)):=Below.setCell (Below.setCell HB.out (show w.heap.size≤w.heap.size+2 by omega) _) (show w.heap.size≤w.heap.size+2 by omega) _
       exact ⟨_,rfl,⟨_,_,lN,rfl,HC.out.past hbf,((HR.out.set HNB.out _).set HNB.out _).rd,HFN.out.past hbf⟩,hbf⟩
      ·have HE:=hidE (HE1.out.trans (by rw[show sumOk (insS L r)=false from by unfold sumOk;exact decide_eq_false h0];first | done | exact if_neg (by decide)))
       generalize (sumS (fnsS (insS L r))).2=er at *
       have d0:(er == 0)=false:=beq_eq_false_iff_ne.2 h0
       have d0':(er != 0)=true:=bne_iff_ne.2 h0
       clear h0 HE1
       go_wp2
       refine bodyPost_ret (v := .tuple #[.agg #[.slice a0 m0 c0,.slice al nl cl],.int .i64 10]) (by simp[results,Tryz.results50,go_sem,r0,r1]) rfl ?_
       rw[HE.out]
       have hbf:Below w.heap.size w ((World.setCell _ ⟨w.heap.size+2,0,none⟩ (.slice a0 m0 c0)).setCell ⟨w.heap.size+2,1,none⟩ (.slice al nl cl)):=Below.setCell (Below.setCell HB.out (show w.heap.size≤w.heap.size+2 by omega) _) (show w.heap.size≤w.heap.size+2 by omega) _
       exact ⟨_,rfl,⟨_,_,l,rfl,HC.out.past hbf,HS.out.past hbf,HF.out.past hbf⟩,hbf⟩
   ·cases hok:r.ok
    ·have HE:=hidE (show oneS L 1 r=(L,5) from by unfold oneS;rw[if_neg (by decide),if_pos ⟨by decide,hok⟩])
     have HOK1:=hidE hok
     clear hk2 hk hok ha
     go_enter Tryz.func50,Tryz.ntmps50
     go_upto_region 1 with fail
     rw[←hw0]
     clear hw0
     have p0:=HB1.out.cell 0;have p1:=HB1.out.cell 1;have pz:=HB1.out.lt
     have c0':=HB2.out.cell 0;have c1:=HB2.out.cell 1;have c2:=HB2.out.cell 2;have c3:=HB2.out.cell 3;have c4:=HB2.out.cell 4;have c5:=HB2.out.cell 5;have c6:=HB2.out.cell 6;have c7:=HB2.out.cell 7;have c8:=HB2.out.cell 8;have cz:=HB2.out.lt
     have r0:=HB3.out.cell 0;have r1:=HB3.out.cell 1;have rz:=HB3.out.lt;have fr0:=HB3.out.free 0;have fr1:=HB3.out.free 1
     simp at p0 p1 c0' c1 c2 c3 c4 c5 c6 c7 c8 r0 r1
     go_wp2_with fail
     ((with_reducible refine (may11_c _ (HX.out.past HB.out) HSM.out HFT.out).mono ?_);rintro e wm ⟨rfl,hbm⟩)
     rw[HOK1.out]
     clear p0 p1 pz c0' c1 c2 c3 c4 c5 c6 c7 c8 cz r0 r1 rz fr0 fr1
     have HB:=hidE (bstep hbm HB.out);have HB1:=hidE (HB1.out.past hbm);have HB2:=hidE (HB2.out.past hbm);have HB3:=hidE (HB3.out.past hbm)
     clear hbm
     have p0:=HB1.out.cell 0;have p1:=HB1.out.cell 1;have pz:=HB1.out.lt
     have c0':=HB2.out.cell 0;have c1:=HB2.out.cell 1;have c2:=HB2.out.cell 2;have c3:=HB2.out.cell 3;have c4:=HB2.out.cell 4;have c5:=HB2.out.cell 5;have c6:=HB2.out.cell 6;have c7:=HB2.out.cell 7;have c8:=HB2.out.cell 8;have cz:=HB2.out.lt
     have r0:=HB3.out.cell 0;have r1:=HB3.out.cell 1;have rz:=HB3.out.lt;have fr0:=HB3.out.free 0;have fr1:=HB3.out.free 1
     simp at p0 p1 c0' c1 c2 c3 c4 c5 c6 c7 c8 r0 r1
     go_wp2
     refine bodyPost_ret (v := .tuple #[.agg #[.slice a0 m0 c0,.slice al nl cl],.int .i64 5]) (by simp[results,Tryz.results50,go_sem,r0,r1]) rfl ?_
     rw[HE.out]
     have hbf:Below w.heap.size w ((World.setCell _ ⟨w.heap.size+2,0,none⟩ (.slice a0 m0 c0)).setCell ⟨w.heap.size+2,1,none⟩ (.slice al nl cl)):=Below.setCell (Below.setCell HB.out (show w.heap.size≤w.heap.size+2 by omega) _) (show w.heap.size≤w.heap.size+2 by omega) _
     exact ⟨_,rfl,⟨_,_,l,rfl,HC.out.past hbf,HS.out.past hbf,HF.out.past hbf⟩,hbf⟩
    ·have HE:=hidE (show oneS L 1 r=(L,7) from by unfold oneS;rw[if_neg (by decide),if_neg (by rw[hok];decide),ha];rfl)
     clear hk2 hk ha
     have HOK1:=hidE hok
     clear hok
     go_enter Tryz.func50,Tryz.ntmps50
     go_upto_region 1 with fail
     rw[←hw0]
     clear hw0
     have p0:=HB1.out.cell 0;have p1:=HB1.out.cell 1;have pz:=HB1.out.lt
     have c0':=HB2.out.cell 0;have c1:=HB2.out.cell 1;have c2:=HB2.out.cell 2;have c3:=HB2.out.cell 3;have c4:=HB2.out.cell 4;have c5:=HB2.out.cell 5;have c6:=HB2.out.cell 6;have c7:=HB2.out.cell 7;have c8:=HB2.out.cell 8;have cz:=HB2.out.lt
     have r0:=HB3.out.cell 0;have r1:=HB3.out.cell 1;have rz:=HB3.out.lt;have fr0:=HB3.out.free 0;have fr1:=HB3.out.free 1
     simp at p0 p1 c0' c1 c2 c3 c4 c5 c6 c7 c8 r0 r1
     go_wp2_with fail
     ((with_reducible refine (may11_c _ (HX.out.past HB.out) HSM.out HFT.out).mono ?_);rintro e wm ⟨rfl,hbm⟩)
     rw[HOK1.out]
     clear p0 p1 pz c0' c1 c2 c3 c4 c5 c6 c7 c8 cz r0 r1 rz fr0 fr1
     have HB:=hidE (bstep hbm HB.out);have HB1:=hidE (HB1.out.past hbm);have HB2:=hidE (HB2.out.past hbm);have HB3:=hidE (HB3.out.past hbm)
     clear hbm
     have p0:=HB1.out.cell 0;have p1:=HB1.out.cell 1;have pz:=HB1.out.lt
     have c0':=HB2.out.cell 0;have c1:=HB2.out.cell 1;have c2:=HB2.out.cell 2;have c3:=HB2.out.cell 3;have c4:=HB2.out.cell 4;have c5:=HB2.out.cell 5;have c6:=HB2.out.cell 6;have c7:=HB2.out.cell 7;have c8:=HB2.out.cell 8;have cz:=HB2.out.lt
     have r0:=HB3.out.cell 0;have r1:=HB3.out.cell 1;have rz:=HB3.out.lt;have fr0:=HB3.out.free 0;have fr1:=HB3.out.free 1
     simp at p0 p1 c0' c1 c2 c3 c4 c5 c6 c7 c8 r0 r1
     go_wp2_with fail
     ((with_reducible refine (at11_c _ _ _ (sliRd_rw (HS.out.past HB.out)) (HF.out.past HB.out) (by have:=HLL.out;omega) ⟨_,_,_,rfl⟩).mono ?_);rintro e wa ⟨rfl,hba⟩)
     rw[HAT1.out]
     clear p0 p1 pz c0' c1 c2 c3 c4 c5 c6 c7 c8 cz r0 r1 rz fr0 fr1
     have HB:=hidE (bstep hba HB.out);have HB1:=hidE (HB1.out.past hba);have HB2:=hidE (HB2.out.past hba);have HB3:=hidE (HB3.out.past hba)
     clear hba
     have p0:=HB1.out.cell 0;have p1:=HB1.out.cell 1;have pz:=HB1.out.lt
     have c0':=HB2.out.cell 0;have c1:=HB2.out.cell 1;have c2:=HB2.out.cell 2;have c3:=HB2.out.cell 3;have c4:=HB2.out.cell 4;have c5:=HB2.out.cell 5;have c6:=HB2.out.cell 6;have c7:=HB2.out.cell 7;have c8:=HB2.out.cell 8;have cz:=HB2.out.lt
     have r0:=HB3.out.cell 0;have r1:=HB3.out.cell 1;have rz:=HB3.out.lt;have fr0:=HB3.out.free 0;have fr1:=HB3.out.free 1
     simp at p0 p1 c0' c1 c2 c3 c4 c5 c6 c7 c8 r0 r1
     go_wp2
     refine bodyPost_ret (v := .tuple #[.agg #[.slice a0 m0 c0,.slice al nl cl],.int .i64 7]) (by simp[results,Tryz.results50,go_sem,r0,r1]) rfl ?_
     rw[HE.out]
     have hbf:Below w.heap.size w ((World.setCell _ ⟨w.heap.size+2,0,none⟩ (.slice a0 m0 c0)).setCell ⟨w.heap.size+2,1,none⟩ (.slice al nl cl)):=Below.setCell (Below.setCell HB.out (show w.heap.size≤w.heap.size+2 by omega) _) (show w.heap.size≤w.heap.size+2 by omega) _
     exact ⟨_,rfl,⟨_,_,l,rfl,HC.out.past hbf,HS.out.past hbf,HF.out.past hbf⟩,hbf⟩
   ·have HE:=hidE (show oneS L 2 r=(L,7) from by unfold oneS;rw[if_neg (by decide),if_neg (by rintro ⟨h,_⟩;exact h rfl),ha];rfl)
    clear hk2 hk ha
    go_enter Tryz.func50,Tryz.ntmps50
    go_upto_region 1 with fail
    rw[←hw0]
    clear hw0
    have p0:=HB1.out.cell 0;have p1:=HB1.out.cell 1;have pz:=HB1.out.lt
    have c0':=HB2.out.cell 0;have c1:=HB2.out.cell 1;have c2:=HB2.out.cell 2;have c3:=HB2.out.cell 3;have c4:=HB2.out.cell 4;have c5:=HB2.out.cell 5;have c6:=HB2.out.cell 6;have c7:=HB2.out.cell 7;have c8:=HB2.out.cell 8;have cz:=HB2.out.lt
    have r0:=HB3.out.cell 0;have r1:=HB3.out.cell 1;have rz:=HB3.out.lt;have fr0:=HB3.out.free 0;have fr1:=HB3.out.free 1
    simp at p0 p1 c0' c1 c2 c3 c4 c5 c6 c7 c8 r0 r1
    go_wp2_with fail
    ((with_reducible refine (at11_c _ _ _ (sliRd_rw (HS.out.past HB.out)) (HF.out.past HB.out) (by have:=HLL.out;omega) ⟨_,_,_,rfl⟩).mono ?_);rintro e wa ⟨rfl,hba⟩)
    rw[HAT1.out]
    clear p0 p1 pz c0' c1 c2 c3 c4 c5 c6 c7 c8 cz r0 r1 rz fr0 fr1
    have HB:=hidE (bstep hba HB.out);have HB1:=hidE (HB1.out.past hba);have HB2:=hidE (HB2.out.past hba);have HB3:=hidE (HB3.out.past hba)
    clear hba
    have p0:=HB1.out.cell 0;have p1:=HB1.out.cell 1;have pz:=HB1.out.lt
    have c0':=HB2.out.cell 0;have c1:=HB2.out.cell 1;have c2:=HB2.out.cell 2;have c3:=HB2.out.cell 3;have c4:=HB2.out.cell 4;have c5:=HB2.out.cell 5;have c6:=HB2.out.cell 6;have c7:=HB2.out.cell 7;have c8:=HB2.out.cell 8;have cz:=HB2.out.lt
    have r0:=HB3.out.cell 0;have r1:=HB3.out.cell 1;have rz:=HB3.out.lt;have fr0:=HB3.out.free 0;have fr1:=HB3.out.free 1
    simp at p0 p1 c0' c1 c2 c3 c4 c5 c6 c7 c8 r0 r1
    go_wp2
    refine bodyPost_ret (v := .tuple #[.agg #[.slice a0 m0 c0,.slice al nl cl],.int .i64 7]) (by simp[results,Tryz.results50,go_sem,r0,r1]) rfl ?_
    rw[HE.out]
    have hbf:Below w.heap.size w ((World.setCell _ ⟨w.heap.size+2,0,none⟩ (.slice a0 m0 c0)).setCell ⟨w.heap.size+2,1,none⟩ (.slice al nl cl)):=Below.setCell (Below.setCell HB.out (show w.heap.size≤w.heap.size+2 by omega) _) (show w.heap.size≤w.heap.size+2 by omega) _
    exact ⟨_,rfl,⟨_,_,l,rfl,HC.out.past hbf,HS.out.past hbf,HF.out.past hbf⟩,hbf⟩
  | some ia =>
   have HAT1:=hidE (show atI L xi=(ia:Int) from by rw[HXI.out];exact atI_some ha)
   have HIA:=hidE (show ia<l.length from by have h1:=(atS_some ha).1;have h2:=HF.out.1;omega)
   have dneg:decide ((ia:Int)<0)=false:=decide_eq_false (by omega)
   have dpos:decide ((0:Int)≤(ia:Int))=true:=decide_eq_true (by omega)
   rcases hk3 with rfl | rfl | rfl
   ·cases hok:r.ok
    ·have HE:=hidE (show oneS L 0 r=(L,5) from by unfold oneS;rw[if_neg (by decide),if_pos ⟨by decide,hok⟩])
     have HOK1:=hidE hok
     clear hk2 hk hok ha
     go_enter Tryz.func50,Tryz.ntmps50
     go_upto_region 1 with fail
     rw[←hw0]
     clear hw0
     have p0:=HB1.out.cell 0;have p1:=HB1.out.cell 1;have pz:=HB1.out.lt
     have c0':=HB2.out.cell 0;have c1:=HB2.out.cell 1;have c2:=HB2.out.cell 2;have c3:=HB2.out.cell 3;have c4:=HB2.out.cell 4;have c5:=HB2.out.cell 5;have c6:=HB2.out.cell 6;have c7:=HB2.out.cell 7;have c8:=HB2.out.cell 8;have cz:=HB2.out.lt
     have r0:=HB3.out.cell 0;have r1:=HB3.out.cell 1;have rz:=HB3.out.lt;have fr0:=HB3.out.free 0;have fr1:=HB3.out.free 1
     simp at p0 p1 c0' c1 c2 c3 c4 c5 c6 c7 c8 r0 r1
     go_wp2_with fail
     ((with_reducible refine (may11_c _ (HX.out.past HB.out) HSM.out HFT.out).mono ?_);rintro e wm ⟨rfl,hbm⟩)
     rw[HOK1.out]
     clear p0 p1 pz c0' c1 c2 c3 c4 c5 c6 c7 c8 cz r0 r1 rz fr0 fr1
     have HB:=hidE (bstep hbm HB.out);have HB1:=hidE (HB1.out.past hbm);have HB2:=hidE (HB2.out.past hbm);have HB3:=hidE (HB3.out.past hbm)
     clear hbm
     have p0:=HB1.out.cell 0;have p1:=HB1.out.cell 1;have pz:=HB1.out.lt
     have c0':=HB2.out.cell 0;have c1:=HB2.out.cell 1;have c2:=HB2.out.cell 2;have c3:=HB2.out.cell 3;have c4:=HB2.out.cell 4;have c5:=HB2.out.cell 5;have c6:=HB2.out.cell 6;have c7:=HB2.out.cell 7;have c8:=HB2.out.cell 8;have cz:=HB2.out.lt
     have r0:=HB3.out.cell 0;have r1:=HB3.out.cell 1;have rz:=HB3.out.lt;have fr0:=HB3.out.free 0;have fr1:=HB3.out.free 1
     simp at p0 p1 c0' c1 c2 c3 c4 c5 c6 c7 c8 r0 r1
     go_wp2
     refine bodyPost_ret (v := .tuple #[.agg #[.slice a0 m0 c0,.slice al nl cl],.int .i64 5]) (by simp[results,Tryz.results50,go_sem,r0,r1]) rfl ?_
     rw[HE.out]
     have hbf:Below w.heap.size w ((World.setCell _ ⟨w.heap.size+2,0,none⟩ (.slice a0 m0 c0)).setCell ⟨w.heap.size+2,1,none⟩ (.slice al nl cl)):=Below.setCell (Below.setCell HB.out (show w.heap.size≤w.heap.size+2 by omega) _) (show w.heap.size≤w.heap.size+2 by omega) _
     exact ⟨_,rfl,⟨_,_,l,rfl,HC.out.past hbf,HS.out.past hbf,HF.out.past hbf⟩,hbf⟩
    ·have HE:=hidE (show oneS L 0 r=(L,8) from by unfold oneS;rw[if_neg (by decide),if_neg (by rw[hok];decide),ha];rfl)
     clear hk2 hk ha
     have HOK1:=hidE hok
     clear hok
     go_enter Tryz.func50,Tryz.ntmps50
     go_upto_region 1 with fail
     rw[←hw0]
     clear hw0
     have p0:=HB1.out.cell 0;have p1:=HB1.out.cell 1;have pz:=HB1.out.lt
     have c0':=HB2.out.cell 0;have c1:=HB2.out.cell 1;have c2:=HB2.out.cell 2;have c3:=HB2.out.cell 3;have c4:=HB2.out.cell 4;have c5:=HB2.out.cell 5;have c6:=HB2.out.cell 6;have c7:=HB2.out.cell 7;have c8:=HB2.out.cell 8;have cz:=HB2.out.lt
     have r0:=HB3.out.cell 0;have r1:=HB3.out.cell 1;have rz:=HB3.out.lt;have fr0:=HB3.out.free 0;have fr1:=HB3.out.free 1
     simp at p0 p1 c0' c1 c2 c3 c4 c5 c6 c7 c8 r0 r1
     go_wp2_with fail
     ((with_reducible refine (may11_c _ (HX.out.past HB.out) HSM.out HFT.out).mono ?_);rintro e wm ⟨rfl,hbm⟩)
     rw[HOK1.out]
     clear p0 p1 pz c0' c1 c2 c3 c4 c5 c6 c7 c8 cz r0 r1 rz fr0 fr1
     have HB:=hidE (bstep hbm HB.out);have HB1:=hidE (HB1.out.past hbm);have HB2:=hidE (HB2.out.past hbm);have HB3:=hidE (HB3.out.past hbm)
     clear hbm
     have p0:=HB1.out.cell 0;have p1:=HB1.out.cell 1;have pz:=HB1.out.lt
     have c0':=HB2.out.cell 0;have c1:=HB2.out.cell 1;have c2:=HB2.out.cell 2;have c3:=HB2.out.cell 3;have c4:=HB2.out.cell 4;have c5:=HB2.out.cell 5;have c6:=HB2.out.cell 6;have c7:=HB2.out.cell 7;have c8:=HB2.out.cell 8;have cz:=HB2.out.lt
     have r0:=HB3.out.cell 0;have r1:=HB3.out.cell 1;have rz:=HB3.out.lt;have fr0:=HB3.out.free 0;have fr1:=HB3.out.free 1
     simp at p0 p1 c0' c1 c2 c3 c4 c5 c6 c7 c8 r0 r1
     go_wp2_with fail
     ((with_reducible refine (at11_c _ _ _ (sliRd_rw (HS.out.past HB.out)) (HF.out.past HB.out) (by have:=HLL.out;omega) ⟨_,_,_,rfl⟩).mono ?_);rintro e wa ⟨rfl,hba⟩)
     rw[HAT1.out]
     clear p0 p1 pz c0' c1 c2 c3 c4 c5 c6 c7 c8 cz r0 r1 rz fr0 fr1
     have HB:=hidE (bstep hba HB.out);have HB1:=hidE (HB1.out.past hba);have HB2:=hidE (HB2.out.past hba);have HB3:=hidE (HB3.out.past hba)
     clear hba
     have p0:=HB1.out.cell 0;have p1:=HB1.out.cell 1;have pz:=HB1.out.lt
     have c0':=HB2.out.cell 0;have c1:=HB2.out.cell 1;have c2:=HB2.out.cell 2;have c3:=HB2.out.cell 3;have c4:=HB2.out.cell 4;have c5:=HB2.out.cell 5;have c6:=HB2.out.cell 6;have c7:=HB2.out.cell 7;have c8:=HB2.out.cell 8;have cz:=HB2.out.lt
     have r0:=HB3.out.cell 0;have r1:=HB3.out.cell 1;have rz:=HB3.out.lt;have fr0:=HB3.out.free 0;have fr1:=HB3.out.free 1
     simp at p0 p1 c0' c1 c2 c3 c4 c5 c6 c7 c8 r0 r1
     go_wp2
     refine bodyPost_ret (v := .tuple #[.agg #[.slice a0 m0 c0,.slice al nl cl],.int .i64 8]) (by simp[results,Tryz.results50,go_sem,r0,r1]) rfl ?_
     rw[HE.out]
     have hbf:Below w.heap.size w ((World.setCell _ ⟨w.heap.size+2,0,none⟩ (.slice a0 m0 c0)).setCell ⟨w.heap.size+2,1,none⟩ (.slice al nl cl)):=Below.setCell (Below.setCell HB.out (show w.heap.size≤w.heap.size+2 by omega) _) (show w.heap.size≤w.heap.size+2 by omega) _
     exact ⟨_,rfl,⟨_,_,l,rfl,HC.out.past hbf,HS.out.past hbf,HF.out.past hbf⟩,hbf⟩
   ·cases hok:r.ok
    ·have HE:=hidE (show oneS L 1 r=(L,5) from by unfold oneS;rw[if_neg (by decide),if_pos ⟨by decide,hok⟩])
     have HOK1:=hidE hok
     clear hk2 hk hok ha
     go_enter Tryz.func50,Tryz.ntmps50
     go_upto_region 1 with fail
     rw[←hw0]
     clear hw0
     have p0:=HB1.out.cell 0;have p1:=HB1.out.cell 1;have pz:=HB1.out.lt
     have c0':=HB2.out.cell 0;have c1:=HB2.out.cell 1;have c2:=HB2.out.cell 2;have c3:=HB2.out.cell 3;have c4:=HB2.out.cell 4;have c5:=HB2.out.cell 5;have c6:=HB2.out.cell 6;have c7:=HB2.out.cell 7;have c8:=HB2.out.cell 8;have cz:=HB2.out.lt
     have r0:=HB3.out.cell 0;have r1:=HB3.out.cell 1;have rz:=HB3.out.lt;have fr0:=HB3.out.free 0;have fr1:=HB3.out.free 1
     simp at p0 p1 c0' c1 c2 c3 c4 c5 c6 c7 c8 r0 r1
     go_wp2_with fail
     ((with_reducible refine (may11_c _ (HX.out.past HB.out) HSM.out HFT.out).mono ?_);rintro e wm ⟨rfl,hbm⟩)
     rw[HOK1.out]
     clear p0 p1 pz c0' c1 c2 c3 c4 c5 c6 c7 c8 cz r0 r1 rz fr0 fr1
     have HB:=hidE (bstep hbm HB.out);have HB1:=hidE (HB1.out.past hbm);have HB2:=hidE (HB2.out.past hbm);have HB3:=hidE (HB3.out.past hbm)
     clear hbm
     have p0:=HB1.out.cell 0;have p1:=HB1.out.cell 1;have pz:=HB1.out.lt
     have c0':=HB2.out.cell 0;have c1:=HB2.out.cell 1;have c2:=HB2.out.cell 2;have c3:=HB2.out.cell 3;have c4:=HB2.out.cell 4;have c5:=HB2.out.cell 5;have c6:=HB2.out.cell 6;have c7:=HB2.out.cell 7;have c8:=HB2.out.cell 8;have cz:=HB2.out.lt
     have r0:=HB3.out.cell 0;have r1:=HB3.out.cell 1;have rz:=HB3.out.lt;have fr0:=HB3.out.free 0;have fr1:=HB3.out.free 1
     simp at p0 p1 c0' c1 c2 c3 c4 c5 c6 c7 c8 r0 r1
     go_wp2
     refine bodyPost_ret (v := .tuple #[.agg #[.slice a0 m0 c0,.slice al nl cl],.int .i64 5]) (by simp[results,Tryz.results50,go_sem,r0,r1]) rfl ?_
     rw[HE.out]
     have hbf:Below w.heap.size w ((World.setCell _ ⟨w.heap.size+2,0,none⟩ (.slice a0 m0 c0)).setCell ⟨w.heap.size+2,1,none⟩ (.slice al nl cl)):=Below.setCell (Below.setCell HB.out (show w.heap.size≤w.heap.size+2 by omega) _) (show w.heap.size≤w.heap.size+2 by omega) _
     exact ⟨_,rfl,⟨_,_,l,rfl,HC.out.past hbf,HS.out.past hbf,HF.out.past hbf⟩,hbf⟩
    ·have HOK1:=hidE hok
     have HEQ:=hidE (show oneS L 1 r=finS L (insS (L.eraseIdx ia) r) from by unfold oneS;rw[if_neg (by decide),if_neg (by rw[hok];decide),ha];rfl)
     clear hk2 hk hok ha
     go_enter Tryz.func50,Tryz.ntmps50
     go_upto_region 1 with fail
     rw[←hw0]
     clear hw0
     have p0:=HB1.out.cell 0;have p1:=HB1.out.cell 1;have pz:=HB1.out.lt
     have c0':=HB2.out.cell 0;have c1:=HB2.out.cell 1;have c2:=HB2.out.cell 2;have c3:=HB2.out.cell 3;have c4:=HB2.out.cell 4;have c5:=HB2.out.cell 5;have c6:=HB2.out.cell 6;have c7:=HB2.out.cell 7;have c8:=HB2.out.cell 8;have cz:=HB2.out.lt
     have r0:=HB3.out.cell 0;have r1:=HB3.out.cell 1;have rz:=HB3.out.lt;have fr0:=HB3.out.free 0;have fr1:=HB3.out.free 1
     simp at p0 p1 c0' c1 c2 c3 c4 c5 c6 c7 c8 r0 r1
     go_wp2_with fail
     ((with_reducible refine (may11_c _ (HX.out.past HB.out) HSM.out HFT.out).mono ?_);rintro e wm ⟨rfl,hbm⟩)
     rw[HOK1.out]
     clear p0 p1 pz c0' c1 c2 c3 c4 c5 c6 c7 c8 cz r0 r1 rz fr0 fr1
     have HB:=hidE (bstep hbm HB.out);have HB1:=hidE (HB1.out.past hbm);have HB2:=hidE (HB2.out.past hbm);have HB3:=hidE (HB3.out.past hbm)
     clear hbm
     have p0:=HB1.out.cell 0;have p1:=HB1.out.cell 1;have pz:=HB1.out.lt
     have c0':=HB2.out.cell 0;have c1:=HB2.out.cell 1;have c2:=HB2.out.cell 2;have c3:=HB2.out.cell 3;have c4:=HB2.out.cell 4;have c5:=HB2.out.cell 5;have c6:=HB2.out.cell 6;have c7:=HB2.out.cell 7;have c8:=HB2.out.cell 8;have cz:=HB2.out.lt
     have r0:=HB3.out.cell 0;have r1:=HB3.out.cell 1;have rz:=HB3.out.lt;have fr0:=HB3.out.free 0;have fr1:=HB3.out.free 1
     simp at p0 p1 c0' c1 c2 c3 c4 c5 c6 c7 c8 r0 r1
     go_wp2_with fail
     ((with_reducible refine (at11_c _ _ _ (sliRd_rw (HS.out.past HB.out)) (HF.out.past HB.out) (by have:=HLL.out;omega) ⟨_,_,_,rfl⟩).mono ?_);rintro e wa ⟨rfl,hba⟩)
     rw[HAT1.out]
     clear p0 p1 pz c0' c1 c2 c3 c4 c5 c6 c7 c8 cz r0 r1 rz fr0 fr1
     have HB:=hidE (bstep hba HB.out);have HB1:=hidE (HB1.out.past hba);have HB2:=hidE (HB2.out.past hba);have HB3:=hidE (HB3.out.past hba)
     clear hba
     have p0:=HB1.out.cell 0;have p1:=HB1.out.cell 1;have pz:=HB1.out.lt
     have c0':=HB2.out.cell 0;have c1:=HB2.out.cell 1;have c2:=HB2.out.cell 2;have c3:=HB2.out.cell 3;have c4:=HB2.out.cell 4;have c5:=HB2.out.cell 5;have c6:=HB2.out.cell 6;have c7:=HB2.out.cell 7;have c8:=HB2.out.cell 8;have cz:=HB2.out.lt
     have r0:=HB3.out.cell 0;have r1:=HB3.out.cell 1;have rz:=HB3.out.lt;have fr0:=HB3.out.free 0;have fr1:=HB3.out.free 1
     simp at p0 p1 c0' c1 c2 c3 c4 c5 c6 c7 c8 r0 r1
     go_upto_region 11 with fail
     obtain ⟨pn,hpn⟩:∃ pn,pn=wa.heap.size:=⟨_,rfl⟩
     obtain ⟨w7,hw7⟩:∃ w7,w7=wa.alloc (Obj.cells #[.slice a0 m0 c0,.slice al nl cl] 33):=⟨_,rfl⟩
     have HB7:=hidE (show Blk w7 pn #[.slice a0 m0 c0,.slice al nl cl] 33 by rw[hw7,hpn];exact Blk.made _ _ _)
     have h7:Below wa.heap.size wa w7:=by rw[hw7];(repeat (first | exact Below.refl _ _ | assumption | refine balloc ?_ _ | refine below_drewN ?_ _ | refine bstep (by assumption) ?_ | refine bstep (Past.prop _) ?_ | refine Below.setCell ?_ (by first | exact Nat.le_refl _ | (simp;done) | (simp;omega)) _))
     have HPN:=hidE (show w.heap.size+2<pn by rw[hpn];exact rz)
     rw[←hw7]
     rw[←hpn]
     clear hw7 hpn
     clear p0 p1 pz c0' c1 c2 c3 c4 c5 c6 c7 c8 cz r0 r1 rz fr0 fr1
     have HB:=hidE (bstep h7 HB.out);have HB1:=hidE (HB1.out.past h7);have HB2:=hidE (HB2.out.past h7);have HB3:=hidE (HB3.out.past h7)
     clear h7
     have HSc:=hidE (HS.out.past HB.out);have HFc:=hidE HF.out
     have p0:=HB1.out.cell 0;have p1:=HB1.out.cell 1;have pz:=HB1.out.lt
     have c0':=HB2.out.cell 0;have c1:=HB2.out.cell 1;have c2:=HB2.out.cell 2;have c3:=HB2.out.cell 3;have c4:=HB2.out.cell 4;have c5:=HB2.out.cell 5;have c6:=HB2.out.cell 6;have c7:=HB2.out.cell 7;have c8:=HB2.out.cell 8;have cz:=HB2.out.lt
     have r0:=HB3.out.cell 0;have r1:=HB3.out.cell 1;have rz:=HB3.out.lt;have fr0:=HB3.out.free 0;have fr1:=HB3.out.free 1
     simp at p0 p1 c0' c1 c2 c3 c4 c5 c6 c7 c8 r0 r1
     have n0:=HB7.out.cell 0;have n1:=HB7.out.cell 1;have nz:=HB7.out.lt;have nf0:=HB7.out.free 0;have nf1:=HB7.out.free 1
     simp at n0 n1
     go_wp2_with fail
     ((with_reducible refine (without11_c _ ia _ HSc.out HIA.out (by have:=HLL.out;omega) ⟨_,_,_,rfl⟩).mono ?_);rintro e wb ⟨vb,rfl,hRb,hbb⟩)
     obtain ⟨lE,hlE⟩:∃ l',l'=l.take ia++l.drop (ia+1):=⟨_,rfl⟩
     rw[←hlE] at hRb
     have HFd:=hidE (show RwsF w lE (L.eraseIdx ia) by rw[hlE];exact rwsF_erase HF.out ia)
     obtain ⟨alE,clE,rfl⟩:=own_sli hRb.1
     have HR:=hidE (hRb.low (show pn+1≤_ from HB7.out.lt))
     have HB7:=hidE (HB7.out.past hbb)
     clear hlE hRb n0 n1 nz nf0 nf1 HSc HFc
     clear p0 p1 pz c0' c1 c2 c3 c4 c5 c6 c7 c8 cz r0 r1 rz fr0 fr1
     have HB:=hidE (bstep hbb HB.out);have HB1:=hidE (HB1.out.past hbb);have HB2:=hidE (HB2.out.past hbb);have HB3:=hidE (HB3.out.past hbb)
     clear hbb
     have n0:=HB7.out.cell 0;have n1:=HB7.out.cell 1;have nz:=HB7.out.lt;have nf0:=HB7.out.free 0;have nf1:=HB7.out.free 1
     simp at n0 n1
     go_upto_region 13 with fail
     obtain ⟨wwe,hwwe⟩:∃ w8,w8=(wb.setCell ⟨pn,0,none⟩ (.slice a0 m0 c0)).setCell ⟨pn,1,none⟩ (.slice alE lE.length clE):=⟨_,rfl⟩
     have HBn:=hidE (show Blk wwe pn #[.slice a0 m0 c0,.slice alE lE.length clE] 33 by rw[hwwe];simpa using (HB7.out.set 0 (.slice a0 m0 c0)).set 1 (.slice alE lE.length clE))
     have HRn:=hidE (show RowIs wwe (pn+1) (.slice alE lE.length clE) lE by rw[hwwe];exact (HR.out.set (by omega) _).set (by omega) _)
     have HBx:=hidE (show Below w.heap.size w wwe by rw[hwwe];have:=HPN.out;exact Below.setCell (Below.setCell HB.out (show w.heap.size≤pn by omega) _) (show w.heap.size≤pn by omega) _)
     have HB1x:=hidE (show Blk wwe w.heap.size #[.slice a0 m0 c0,.slice al nl cl] 33 by rw[hwwe];have:=HPN.out;exact (HB1.out.other (by omega) _).other (by omega) _)
     have HB2x:=hidE (show Blk wwe (w.heap.size+1) #[.int .u8 1,.int .u32 xi,.int .u32 xs,nmV xu,.int .i64 xf,.int .i64 xt,.slice aT nT cT,.slice aW nW cW,.slice aA nA cA] 52 by rw[hwwe];have:=HPN.out;exact (HB2.out.other (by omega) _).other (by omega) _)
     have HB3x:=hidE (show Blk wwe (w.heap.size+2) #[.slice none 0 0,.slice none 0 0] 33 by rw[hwwe];have:=HPN.out;exact (HB3.out.other (by omega) _).other (by omega) _)
     rw[←hwwe]
     clear hwwe HB7 HR HB HB1 HB2 HB3 n0 n1 nz nf0 nf1
     have HB7:=hidE HBn.out;have HR:=hidE HRn.out;have HB:=hidE HBx.out;have HB1:=hidE HB1x.out;have HB2:=hidE HB2x.out;have HB3:=hidE HB3x.out
     have HSc:=hidE HR.out.rd;have HFc:=hidE HFd.out
     clear HBn HRn HBx HB1x HB2x HB3x HFd
     have p0:=HB1.out.cell 0;have p1:=HB1.out.cell 1;have pz:=HB1.out.lt
     have c0':=HB2.out.cell 0;have c1:=HB2.out.cell 1;have c2:=HB2.out.cell 2;have c3:=HB2.out.cell 3;have c4:=HB2.out.cell 4;have c5:=HB2.out.cell 5;have c6:=HB2.out.cell 6;have c7:=HB2.out.cell 7;have c8:=HB2.out.cell 8;have cz:=HB2.out.lt
     have r0:=HB3.out.cell 0;have r1:=HB3.out.cell 1;have rz:=HB3.out.lt;have fr0:=HB3.out.free 0;have fr1:=HB3.out.free 1
     simp at p0 p1 c0' c1 c2 c3 c4 c5 c6 c7 c8 r0 r1
     have n0:=HB7.out.cell 0;have n1:=HB7.out.cell 1;have nz:=HB7.out.lt;have nf0:=HB7.out.free 0;have nf1:=HB7.out.free 1
     simp at n0 n1
     have HFE:=hidE HFc.out
     have HLC:=hidE (show lE.length≤200 from by have h1:=HFE.out.1;have h2:=(good_erase HG.out ia).few;omega)
     go_wp2_with fail
     ((with_reducible refine (with11_c _ _ HSc.out (HFc.out.past HB.out) (HX.out.past HB.out) HFT.out (by have:=HLC.out;omega) ⟨_,_,_,rfl⟩).mono ?_);rintro e wb ⟨vb,rfl,hRb,hbb⟩)
     obtain ⟨lN,hlN⟩:∃ l',l'=lE.take (cntA (L.eraseIdx ia) r)++([(⟨xi,xs,xu,xf,xt,.slice aT nT cT,.slice aW nW cW,.slice aA nA cA⟩:Rw)]++lE.drop (cntA (L.eraseIdx ia) r)):=⟨_,rfl⟩
     rw[←hlN] at hRb
     have HFd:=hidE (show RwsF w lN (insS (L.eraseIdx ia) r) by rw[hlN];exact rwsF_ins HFE.out HX.out)
     obtain ⟨alN,clN,rfl⟩:=own_sli hRb.1
     have HR:=hidE (hRb.low (show pn+1≤_ from HB7.out.lt))
     have HB7:=hidE (HB7.out.past hbb)
     clear hlN hRb n0 n1 nz nf0 nf1 HSc HFc
     clear p0 p1 pz c0' c1 c2 c3 c4 c5 c6 c7 c8 cz r0 r1 rz fr0 fr1
     have HB:=hidE (bstep hbb HB.out);have HB1:=hidE (HB1.out.past hbb);have HB2:=hidE (HB2.out.past hbb);have HB3:=hidE (HB3.out.past hbb)
     clear hbb
     have n0:=HB7.out.cell 0;have n1:=HB7.out.cell 1;have nz:=HB7.out.lt;have nf0:=HB7.out.free 0;have nf1:=HB7.out.free 1
     simp at n0 n1
     go_upto_region 15 with fail
     obtain ⟨wwn,hwwn⟩:∃ w8,w8=(wb.setCell ⟨pn,0,none⟩ (.slice a0 m0 c0)).setCell ⟨pn,1,none⟩ (.slice alN lN.length clN):=⟨_,rfl⟩
     have HBn:=hidE (show Blk wwn pn #[.slice a0 m0 c0,.slice alN lN.length clN] 33 by rw[hwwn];simpa using (HB7.out.set 0 (.slice a0 m0 c0)).set 1 (.slice alN lN.length clN))
     have HRn:=hidE (show RowIs wwn (pn+1) (.slice alN lN.length clN) lN by rw[hwwn];exact (HR.out.set (by omega) _).set (by omega) _)
     have HBx:=hidE (show Below w.heap.size w wwn by rw[hwwn];have:=HPN.out;exact Below.setCell (Below.setCell HB.out (show w.heap.size≤pn by omega) _) (show w.heap.size≤pn by omega) _)
     have HB1x:=hidE (show Blk wwn w.heap.size #[.slice a0 m0 c0,.slice al nl cl] 33 by rw[hwwn];have:=HPN.out;exact (HB1.out.other (by omega) _).other (by omega) _)
     have HB2x:=hidE (show Blk wwn (w.heap.size+1) #[.int .u8 1,.int .u32 xi,.int .u32 xs,nmV xu,.int .i64 xf,.int .i64 xt,.slice aT nT cT,.slice aW nW cW,.slice aA nA cA] 52 by rw[hwwn];have:=HPN.out;exact (HB2.out.other (by omega) _).other (by omega) _)
     have HB3x:=hidE (show Blk wwn (w.heap.size+2) #[.slice none 0 0,.slice none 0 0] 33 by rw[hwwn];have:=HPN.out;exact (HB3.out.other (by omega) _).other (by omega) _)
     rw[←hwwn]
     clear hwwn HB7 HR HB HB1 HB2 HB3 n0 n1 nz nf0 nf1
     have HB7:=hidE HBn.out;have HR:=hidE HRn.out;have HB:=hidE HBx.out;have HB1:=hidE HB1x.out;have HB2:=hidE HB2x.out;have HB3:=hidE HB3x.out
     have HSc:=hidE HR.out.rd;have HFc:=hidE HFd.out
     clear HBn HRn HBx HB1x HB2x HB3x HFd
     have p0:=HB1.out.cell 0;have p1:=HB1.out.cell 1;have pz:=HB1.out.lt
     have c0':=HB2.out.cell 0;have c1:=HB2.out.cell 1;have c2:=HB2.out.cell 2;have c3:=HB2.out.cell 3;have c4:=HB2.out.cell 4;have c5:=HB2.out.cell 5;have c6:=HB2.out.cell 6;have c7:=HB2.out.cell 7;have c8:=HB2.out.cell 8;have cz:=HB2.out.lt
     have r0:=HB3.out.cell 0;have r1:=HB3.out.cell 1;have rz:=HB3.out.lt;have fr0:=HB3.out.free 0;have fr1:=HB3.out.free 1
     simp at p0 p1 c0' c1 c2 c3 c4 c5 c6 c7 c8 r0 r1
     have n0:=HB7.out.cell 0;have n1:=HB7.out.cell 1;have nz:=HB7.out.lt;have nf0:=HB7.out.free 0;have nf1:=HB7.out.free 1
     simp at n0 n1
     have HFN:=hidE HFc.out
     have HNL:=hidE (show (insS (L.eraseIdx ia) r).length≤129 from by rw[insS_len];have:=(good_erase HG.out ia).few;omega)
     have HGN:=hidE (show ∀ y∈insS (L.eraseIdx ia) r,y.ok=true from insS_ok (good_erase HG.out ia) HOK1.out)
     have HNB:=hidE (show w.heap.size+2<pn+1 from by have:=HPN.out;omega)
     clear HSc HFc n0 n1 nz nf0 nf1
     have HNK:=hidE (show lN.length≤200 from by have h1:=HFN.out.1;have h2:=HNL.out;omega)
     have HNA:=hidE (show ∀ y∈insS (L.eraseIdx ia) r,y.A.length≤1024 from fun y hy=>rok_len (HGN.out y hy))
     have n0:=HB7.out.cell 0;have n1:=HB7.out.cell 1;have nz:=HB7.out.lt
     simp at n0 n1
     have hlen:lN.length=(insS (L.eraseIdx ia) r).length:=HFN.out.1.symm
     have hN200:lN.length≤200:=HNK.out
     by_cases h128:128<lN.length
     ·have d128:decide ((128:Int)<(lN.length:Int))=true:=decide_eq_true (by omega)
      have HE:=hidE (HEQ.out.trans (show finS L (insS (L.eraseIdx ia) r)=(L,6) from by unfold finS;rw[if_pos (by omega)]))
      clear h128 hlen hN200
      go_wp2
      refine bodyPost_ret (v := .tuple #[.agg #[.slice a0 m0 c0,.slice al nl cl],.int .i64 6]) (by simp[results,Tryz.results50,go_sem,r0,r1]) rfl ?_
      rw[HE.out]
      have hbf:Below w.heap.size w ((World.setCell _ ⟨w.heap.size+2,0,none⟩ (.slice a0 m0 c0)).setCell ⟨w.heap.size+2,1,none⟩ (.slice al nl cl)):=Below.setCell (Below.setCell HB.out (show w.heap.size≤w.heap.size+2 by omega) _) (show w.heap.size≤w.heap.size+2 by omega) _
      exact ⟨_,rfl,⟨_,_,l,rfl,HC.out.past hbf,HS.out.past hbf,HF.out.past hbf⟩,hbf⟩
     ·have d128:decide ((128:Int)<(lN.length:Int))=false:=decide_eq_false (by omega)
      have HE1:=hidE (HEQ.out.trans (show finS L (insS (L.eraseIdx ia) r)=if sumOk (insS (L.eraseIdx ia) r) then (insS (L.eraseIdx ia) r,0) else (L,10) from by unfold finS;rw[if_neg (by omega)]))
      clear h128 hlen hN200
      go_wp2_with fail
      ((with_reducible refine (load11_all _ _ (sliRd_rw HR.out.rd) (HFN.out.past HB.out) HNK.out HNA.out ⟨_,_,_,rfl⟩).mono ?_);rintro e wl ⟨vl,rfl,_,hbl⟩)
      have HB7:=hidE (HB7.out.past hbl);have HR:=hidE (HR.out.past hbl)
      clear n0 n1 nz
      clear p0 p1 pz c0' c1 c2 c3 c4 c5 c6 c7 c8 cz r0 r1 rz fr0 fr1
      have HB:=hidE (bstep hbl HB.out);have HB1:=hidE (HB1.out.past hbl);have HB2:=hidE (HB2.out.past hbl);have HB3:=hidE (HB3.out.past hbl)
      clear hbl
      have p0:=HB1.out.cell 0;have p1:=HB1.out.cell 1;have pz:=HB1.out.lt
      have c0':=HB2.out.cell 0;have c1:=HB2.out.cell 1;have c2:=HB2.out.cell 2;have c3:=HB2.out.cell 3;have c4:=HB2.out.cell 4;have c5:=HB2.out.cell 5;have c6:=HB2.out.cell 6;have c7:=HB2.out.cell 7;have c8:=HB2.out.cell 8;have cz:=HB2.out.lt
      have r0:=HB3.out.cell 0;have r1:=HB3.out.cell 1;have rz:=HB3.out.lt;have fr0:=HB3.out.free 0;have fr1:=HB3.out.free 1
      simp at p0 p1 c0' c1 c2 c3 c4 c5 c6 c7 c8 r0 r1
      have n0:=HB7.out.cell 0;have n1:=HB7.out.cell 1;have nz:=HB7.out.lt
      simp at n0 n1
      by_cases h0:(sumS (fnsS (insS (L.eraseIdx ia) r))).2=0
      ·have HE:=hidE (HE1.out.trans (by rw[show sumOk (insS (L.eraseIdx ia) r)=true from by unfold sumOk;exact decide_eq_true h0];first | done | exact if_pos rfl))
       have d0:((sumS (fnsS (insS (L.eraseIdx ia) r))).2 == 0)=true:=beq_iff_eq.2 h0
       have d0':((sumS (fnsS (insS (L.eraseIdx ia) r))).2 != 0)=false:=by rw[bne,d0];rfl
       rw[h0]
       clear h0 d0 d0'
       go_wp2
       refine bodyPost_ret (v := .tuple #[.agg #[.slice a0 m0 c0,.slice alN lN.length clN],.int .i64 0]) (by simp[results,Tryz.results50,go_sem,r0,r1]) rfl ?_
       rw[HE.out]
       have hbf:Below w.heap.size w ((World.setCell _ ⟨w.heap.size+2,0,none⟩ (.slice a0 m0 c0)).setCell ⟨w.heap.size+2,1,none⟩ (.slice alN lN.length clN)):=Below.setCell (Below.setCell HB.out (show w.heap.size≤w.heap.size+2 by omega) _) (show w.heap.size≤w.heap.size+2 by omega) _
       exact ⟨_,rfl,⟨_,_,lN,rfl,HC.out.past hbf,((HR.out.set HNB.out _).set HNB.out _).rd,HFN.out.past hbf⟩,hbf⟩
      ·have HE:=hidE (HE1.out.trans (by rw[show sumOk (insS (L.eraseIdx ia) r)=false from by unfold sumOk;exact decide_eq_false h0];first | done | exact if_neg (by decide)))
       generalize (sumS (fnsS (insS (L.eraseIdx ia) r))).2=er at *
       have d0:(er == 0)=false:=beq_eq_false_iff_ne.2 h0
       have d0':(er != 0)=true:=bne_iff_ne.2 h0
       clear h0 HE1
       go_wp2
       refine bodyPost_ret (v := .tuple #[.agg #[.slice a0 m0 c0,.slice al nl cl],.int .i64 10]) (by simp[results,Tryz.results50,go_sem,r0,r1]) rfl ?_
       rw[HE.out]
       have hbf:Below w.heap.size w ((World.setCell _ ⟨w.heap.size+2,0,none⟩ (.slice a0 m0 c0)).setCell ⟨w.heap.size+2,1,none⟩ (.slice al nl cl)):=Below.setCell (Below.setCell HB.out (show w.heap.size≤w.heap.size+2 by omega) _) (show w.heap.size≤w.heap.size+2 by omega) _
       exact ⟨_,rfl,⟨_,_,l,rfl,HC.out.past hbf,HS.out.past hbf,HF.out.past hbf⟩,hbf⟩
   ·have HEQ:=hidE (show oneS L 2 r=finS L (L.eraseIdx ia) from by unfold oneS;rw[if_neg (by decide),if_neg (by rintro ⟨h,_⟩;exact h rfl),ha];rfl)
    clear hk2 hk ha
    go_enter Tryz.func50,Tryz.ntmps50
    go_upto_region 1 with fail
    rw[←hw0]
    clear hw0
    have p0:=HB1.out.cell 0;have p1:=HB1.out.cell 1;have pz:=HB1.out.lt
    have c0':=HB2.out.cell 0;have c1:=HB2.out.cell 1;have c2:=HB2.out.cell 2;have c3:=HB2.out.cell 3;have c4:=HB2.out.cell 4;have c5:=HB2.out.cell 5;have c6:=HB2.out.cell 6;have c7:=HB2.out.cell 7;have c8:=HB2.out.cell 8;have cz:=HB2.out.lt
    have r0:=HB3.out.cell 0;have r1:=HB3.out.cell 1;have rz:=HB3.out.lt;have fr0:=HB3.out.free 0;have fr1:=HB3.out.free 1
    simp at p0 p1 c0' c1 c2 c3 c4 c5 c6 c7 c8 r0 r1
    go_wp2_with fail
    ((with_reducible refine (at11_c _ _ _ (sliRd_rw (HS.out.past HB.out)) (HF.out.past HB.out) (by have:=HLL.out;omega) ⟨_,_,_,rfl⟩).mono ?_);rintro e wa ⟨rfl,hba⟩)
    rw[HAT1.out]
    clear p0 p1 pz c0' c1 c2 c3 c4 c5 c6 c7 c8 cz r0 r1 rz fr0 fr1
    have HB:=hidE (bstep hba HB.out);have HB1:=hidE (HB1.out.past hba);have HB2:=hidE (HB2.out.past hba);have HB3:=hidE (HB3.out.past hba)
    clear hba
    have p0:=HB1.out.cell 0;have p1:=HB1.out.cell 1;have pz:=HB1.out.lt
    have c0':=HB2.out.cell 0;have c1:=HB2.out.cell 1;have c2:=HB2.out.cell 2;have c3:=HB2.out.cell 3;have c4:=HB2.out.cell 4;have c5:=HB2.out.cell 5;have c6:=HB2.out.cell 6;have c7:=HB2.out.cell 7;have c8:=HB2.out.cell 8;have cz:=HB2.out.lt
    have r0:=HB3.out.cell 0;have r1:=HB3.out.cell 1;have rz:=HB3.out.lt;have fr0:=HB3.out.free 0;have fr1:=HB3.out.free 1
    simp at p0 p1 c0' c1 c2 c3 c4 c5 c6 c7 c8 r0 r1
    go_upto_region 11 with fail
    obtain ⟨pn,hpn⟩:∃ pn,pn=wa.heap.size:=⟨_,rfl⟩
    obtain ⟨w7,hw7⟩:∃ w7,w7=wa.alloc (Obj.cells #[.slice a0 m0 c0,.slice al nl cl] 33):=⟨_,rfl⟩
    have HB7:=hidE (show Blk w7 pn #[.slice a0 m0 c0,.slice al nl cl] 33 by rw[hw7,hpn];exact Blk.made _ _ _)
    have h7:Below wa.heap.size wa w7:=by rw[hw7];(repeat (first | exact Below.refl _ _ | assumption | refine balloc ?_ _ | refine below_drewN ?_ _ | refine bstep (by assumption) ?_ | refine bstep (Past.prop _) ?_ | refine Below.setCell ?_ (by first | exact Nat.le_refl _ | (simp;done) | (simp;omega)) _))
    have HPN:=hidE (show w.heap.size+2<pn by rw[hpn];exact rz)
    rw[←hw7]
    rw[←hpn]
    clear hw7 hpn
    clear p0 p1 pz c0' c1 c2 c3 c4 c5 c6 c7 c8 cz r0 r1 rz fr0 fr1
    have HB:=hidE (bstep h7 HB.out);have HB1:=hidE (HB1.out.past h7);have HB2:=hidE (HB2.out.past h7);have HB3:=hidE (HB3.out.past h7)
    clear h7
    have HSc:=hidE (HS.out.past HB.out);have HFc:=hidE HF.out
    have p0:=HB1.out.cell 0;have p1:=HB1.out.cell 1;have pz:=HB1.out.lt
    have c0':=HB2.out.cell 0;have c1:=HB2.out.cell 1;have c2:=HB2.out.cell 2;have c3:=HB2.out.cell 3;have c4:=HB2.out.cell 4;have c5:=HB2.out.cell 5;have c6:=HB2.out.cell 6;have c7:=HB2.out.cell 7;have c8:=HB2.out.cell 8;have cz:=HB2.out.lt
    have r0:=HB3.out.cell 0;have r1:=HB3.out.cell 1;have rz:=HB3.out.lt;have fr0:=HB3.out.free 0;have fr1:=HB3.out.free 1
    simp at p0 p1 c0' c1 c2 c3 c4 c5 c6 c7 c8 r0 r1
    have n0:=HB7.out.cell 0;have n1:=HB7.out.cell 1;have nz:=HB7.out.lt;have nf0:=HB7.out.free 0;have nf1:=HB7.out.free 1
    simp at n0 n1
    go_wp2_with fail
    ((with_reducible refine (without11_c _ ia _ HSc.out HIA.out (by have:=HLL.out;omega) ⟨_,_,_,rfl⟩).mono ?_);rintro e wb ⟨vb,rfl,hRb,hbb⟩)
    obtain ⟨lN,hlN⟩:∃ l',l'=l.take ia++l.drop (ia+1):=⟨_,rfl⟩
    rw[←hlN] at hRb
    have HFd:=hidE (show RwsF w lN (L.eraseIdx ia) by rw[hlN];exact rwsF_erase HF.out ia)
    obtain ⟨alN,clN,rfl⟩:=own_sli hRb.1
    have HR:=hidE (hRb.low (show pn+1≤_ from HB7.out.lt))
    have HB7:=hidE (HB7.out.past hbb)
    clear hlN hRb n0 n1 nz nf0 nf1 HSc HFc
    clear p0 p1 pz c0' c1 c2 c3 c4 c5 c6 c7 c8 cz r0 r1 rz fr0 fr1
    have HB:=hidE (bstep hbb HB.out);have HB1:=hidE (HB1.out.past hbb);have HB2:=hidE (HB2.out.past hbb);have HB3:=hidE (HB3.out.past hbb)
    clear hbb
    have n0:=HB7.out.cell 0;have n1:=HB7.out.cell 1;have nz:=HB7.out.lt;have nf0:=HB7.out.free 0;have nf1:=HB7.out.free 1
    simp at n0 n1
    go_upto_region 13 with fail
    obtain ⟨wwe,hwwe⟩:∃ w8,w8=(wb.setCell ⟨pn,0,none⟩ (.slice a0 m0 c0)).setCell ⟨pn,1,none⟩ (.slice alN lN.length clN):=⟨_,rfl⟩
    have HBn:=hidE (show Blk wwe pn #[.slice a0 m0 c0,.slice alN lN.length clN] 33 by rw[hwwe];simpa using (HB7.out.set 0 (.slice a0 m0 c0)).set 1 (.slice alN lN.length clN))
    have HRn:=hidE (show RowIs wwe (pn+1) (.slice alN lN.length clN) lN by rw[hwwe];exact (HR.out.set (by omega) _).set (by omega) _)
    have HBx:=hidE (show Below w.heap.size w wwe by rw[hwwe];have:=HPN.out;exact Below.setCell (Below.setCell HB.out (show w.heap.size≤pn by omega) _) (show w.heap.size≤pn by omega) _)
    have HB1x:=hidE (show Blk wwe w.heap.size #[.slice a0 m0 c0,.slice al nl cl] 33 by rw[hwwe];have:=HPN.out;exact (HB1.out.other (by omega) _).other (by omega) _)
    have HB2x:=hidE (show Blk wwe (w.heap.size+1) #[.int .u8 2,.int .u32 xi,.int .u32 xs,nmV xu,.int .i64 xf,.int .i64 xt,.slice aT nT cT,.slice aW nW cW,.slice aA nA cA] 52 by rw[hwwe];have:=HPN.out;exact (HB2.out.other (by omega) _).other (by omega) _)
    have HB3x:=hidE (show Blk wwe (w.heap.size+2) #[.slice none 0 0,.slice none 0 0] 33 by rw[hwwe];have:=HPN.out;exact (HB3.out.other (by omega) _).other (by omega) _)
    rw[←hwwe]
    clear hwwe HB7 HR HB HB1 HB2 HB3 n0 n1 nz nf0 nf1
    have HB7:=hidE HBn.out;have HR:=hidE HRn.out;have HB:=hidE HBx.out;have HB1:=hidE HB1x.out;have HB2:=hidE HB2x.out;have HB3:=hidE HB3x.out
    have HSc:=hidE HR.out.rd;have HFc:=hidE HFd.out
    clear HBn HRn HBx HB1x HB2x HB3x HFd
    have p0:=HB1.out.cell 0;have p1:=HB1.out.cell 1;have pz:=HB1.out.lt
    have c0':=HB2.out.cell 0;have c1:=HB2.out.cell 1;have c2:=HB2.out.cell 2;have c3:=HB2.out.cell 3;have c4:=HB2.out.cell 4;have c5:=HB2.out.cell 5;have c6:=HB2.out.cell 6;have c7:=HB2.out.cell 7;have c8:=HB2.out.cell 8;have cz:=HB2.out.lt
    have r0:=HB3.out.cell 0;have r1:=HB3.out.cell 1;have rz:=HB3.out.lt;have fr0:=HB3.out.free 0;have fr1:=HB3.out.free 1
    simp at p0 p1 c0' c1 c2 c3 c4 c5 c6 c7 c8 r0 r1
    have n0:=HB7.out.cell 0;have n1:=HB7.out.cell 1;have nz:=HB7.out.lt;have nf0:=HB7.out.free 0;have nf1:=HB7.out.free 1
    simp at n0 n1
    have HFN:=hidE HFc.out
    have HNL:=hidE (show (L.eraseIdx ia).length≤129 from by have:=(good_erase HG.out ia).few;omega)
    have HGN:=hidE (show ∀ y∈L.eraseIdx ia,y.ok=true from (good_erase HG.out ia).ok)
    have HNB:=hidE (show w.heap.size+2<pn+1 from by have:=HPN.out;omega)
    clear HSc HFc n0 n1 nz nf0 nf1
    have HNK:=hidE (show lN.length≤200 from by have h1:=HFN.out.1;have h2:=HNL.out;omega)
    have HNA:=hidE (show ∀ y∈L.eraseIdx ia,y.A.length≤1024 from fun y hy=>rok_len (HGN.out y hy))
    have n0:=HB7.out.cell 0;have n1:=HB7.out.cell 1;have nz:=HB7.out.lt
    simp at n0 n1
    have hlen:lN.length=(L.eraseIdx ia).length:=HFN.out.1.symm
    have hN200:lN.length≤200:=HNK.out
    by_cases h128:128<lN.length
    ·have d128:decide ((128:Int)<(lN.length:Int))=true:=decide_eq_true (by omega)
     have HE:=hidE (HEQ.out.trans (show finS L (L.eraseIdx ia)=(L,6) from by unfold finS;rw[if_pos (by omega)]))
     clear h128 hlen hN200
     go_wp2
     refine bodyPost_ret (v := .tuple #[.agg #[.slice a0 m0 c0,.slice al nl cl],.int .i64 6]) (by simp[results,Tryz.results50,go_sem,r0,r1]) rfl ?_
     rw[HE.out]
     have hbf:Below w.heap.size w ((World.setCell _ ⟨w.heap.size+2,0,none⟩ (.slice a0 m0 c0)).setCell ⟨w.heap.size+2,1,none⟩ (.slice al nl cl)):=Below.setCell (Below.setCell HB.out (show w.heap.size≤w.heap.size+2 by omega) _) (show w.heap.size≤w.heap.size+2 by omega) _
     exact ⟨_,rfl,⟨_,_,l,rfl,HC.out.past hbf,HS.out.past hbf,HF.out.past hbf⟩,hbf⟩
    ·have d128:decide ((128:Int)<(lN.length:Int))=false:=decide_eq_false (by omega)
     have HE1:=hidE (HEQ.out.trans (show finS L (L.eraseIdx ia)=if sumOk (L.eraseIdx ia) then (L.eraseIdx ia,0) else (L,10) from by unfold finS;rw[if_neg (by omega)]))
     clear h128 hlen hN200
     go_wp2_with fail
     ((with_reducible refine (load11_all _ _ (sliRd_rw HR.out.rd) (HFN.out.past HB.out) HNK.out HNA.out ⟨_,_,_,rfl⟩).mono ?_);rintro e wl ⟨vl,rfl,_,hbl⟩)
     have HB7:=hidE (HB7.out.past hbl);have HR:=hidE (HR.out.past hbl)
     clear n0 n1 nz
     clear p0 p1 pz c0' c1 c2 c3 c4 c5 c6 c7 c8 cz r0 r1 rz fr0 fr1
     have HB:=hidE (bstep hbl HB.out);have HB1:=hidE (HB1.out.past hbl);have HB2:=hidE (HB2.out.past hbl);have HB3:=hidE (HB3.out.past hbl)
     clear hbl
     have p0:=HB1.out.cell 0;have p1:=HB1.out.cell 1;have pz:=HB1.out.lt
     have c0':=HB2.out.cell 0;have c1:=HB2.out.cell 1;have c2:=HB2.out.cell 2;have c3:=HB2.out.cell 3;have c4:=HB2.out.cell 4;have c5:=HB2.out.cell 5;have c6:=HB2.out.cell 6;have c7:=HB2.out.cell 7;have c8:=HB2.out.cell 8;have cz:=HB2.out.lt
     have r0:=HB3.out.cell 0;have r1:=HB3.out.cell 1;have rz:=HB3.out.lt;have fr0:=HB3.out.free 0;have fr1:=HB3.out.free 1
     simp at p0 p1 c0' c1 c2 c3 c4 c5 c6 c7 c8 r0 r1
     have n0:=HB7.out.cell 0;have n1:=HB7.out.cell 1;have nz:=HB7.out.lt
     simp at n0 n1
     by_cases h0:(sumS (fnsS (L.eraseIdx ia))).2=0
     ·have HE:=hidE (HE1.out.trans (by rw[show sumOk (L.eraseIdx ia)=true from by unfold sumOk;exact decide_eq_true h0];first | done | exact if_pos rfl))
      have d0:((sumS (fnsS (L.eraseIdx ia))).2 == 0)=true:=beq_iff_eq.2 h0
      have d0':((sumS (fnsS (L.eraseIdx ia))).2 != 0)=false:=by rw[bne,d0];rfl
      rw[h0]
      clear h0 d0 d0'
      go_wp2
      refine bodyPost_ret (v := .tuple #[.agg #[.slice a0 m0 c0,.slice alN lN.length clN],.int .i64 0]) (by simp[results,Tryz.results50,go_sem,r0,r1]) rfl ?_
      rw[HE.out]
      have hbf:Below w.heap.size w ((World.setCell _ ⟨w.heap.size+2,0,none⟩ (.slice a0 m0 c0)).setCell ⟨w.heap.size+2,1,none⟩ (.slice alN lN.length clN)):=Below.setCell (Below.setCell HB.out (show w.heap.size≤w.heap.size+2 by omega) _) (show w.heap.size≤w.heap.size+2 by omega) _
      exact ⟨_,rfl,⟨_,_,lN,rfl,HC.out.past hbf,((HR.out.set HNB.out _).set HNB.out _).rd,HFN.out.past hbf⟩,hbf⟩
     ·have HE:=hidE (HE1.out.trans (by rw[show sumOk (L.eraseIdx ia)=false from by unfold sumOk;exact decide_eq_false h0];first | done | exact if_neg (by decide)))
      generalize (sumS (fnsS (L.eraseIdx ia))).2=er at *
      have d0:(er == 0)=false:=beq_eq_false_iff_ne.2 h0
      have d0':(er != 0)=true:=bne_iff_ne.2 h0
      clear h0 HE1
      go_wp2
      refine bodyPost_ret (v := .tuple #[.agg #[.slice a0 m0 c0,.slice al nl cl],.int .i64 10]) (by simp[results,Tryz.results50,go_sem,r0,r1]) rfl ?_
      rw[HE.out]
      have hbf:Below w.heap.size w ((World.setCell _ ⟨w.heap.size+2,0,none⟩ (.slice a0 m0 c0)).setCell ⟨w.heap.size+2,1,none⟩ (.slice al nl cl)):=Below.setCell (Below.setCell HB.out (show w.heap.size≤w.heap.size+2 by omega) _) (show w.heap.size≤w.heap.size+2 by omega) _
      exact ⟨_,rfl,⟨_,_,l,rfl,HC.out.past hbf,HS.out.past hbf,HF.out.past hbf⟩,hbf⟩
end
end Go.Proofs.YtcmponckjkalaaaGreat
