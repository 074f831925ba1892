/- The document's own answers of layer 11: changes made at once: all or none. No conditions but the sizes. -/
import Derived.Test.YtcmponckjkalaaaGreatPUGa
import Derived.Test.YtcmponckjkalaaaGreatPUGH
namespace Go.Proofs.YtcmponckjkalaaaGreat
section
open Go.ChangeShapes Go.WideShapes Go.ChangeAt Go.RowKit
attribute [local irreducible] Go.Calls
theorem noInt_sl2 {w:World} {q:Nat} {a a':Option Addr} {n c n' c':Nat} {t:TypeId} (h:Blk w q #[.slice a n c,.slice a' n' c'] t):NoInt w q:=fun o k i e=>by
 rw[h.cell o] at e
 match o,e with
 | 0,e=>simp at e
 | 1,e=>simp at e
 | o+2,e=>simp at e
theorem keepI_set2 {w:World} {q:Nat} {a a' b b':Option Addr} {n c n' c' m d m' d':Nat} {t:TypeId} (h:Blk w q #[.slice a n c,.slice a' n' c'] t):KeepI w ((w.setCell ⟨q,0,none⟩ (.slice b m d)).setCell ⟨q,1,none⟩ (.slice b' m' d')) :=
 ⟨by simp,fun p o k i hc=>by
  have hne:p≠q:=fun e=>by subst e;exact noInt_sl2 h o k i hc
  rw[keptS hne,keptS hne]⟩
theorem one11_c {a0 al:Option Addr} {m0 c0 nl cl:Nat} {L:List Rv} {C:List Sg} {k:Int} {x:Rw} {r:Rv} (w:World) (hD:DQ w (.agg #[.slice a0 m0 c0,.slice al nl cl]) L C) (hG:GoodL L) (hk:0≤k∧k≤255) (hx:RwF w x r) (hfit:x.fit) (hsm:r.A.length≤1000000000) :
  Calls Tryz.prog 50 #[.agg #[.slice a0 m0 c0,.slice al nl cl],chV k x] w fun e w'=>∃ v',e = .returned (.tuple #[v',.int .i64 (oneS L k r).2])∧DQ w' v' (oneS L k r).1 C∧Below w.heap.size w w':=by
 obtain ⟨vc,vl,l,e,h1,h2,h3⟩:=hD.has
 obtain ⟨e4,e5⟩:vc = .slice a0 m0 c0∧vl = .slice al nl cl:=by
  have:=congrArg (fun v=>match v with | Value.agg cs=>cs.toList | _=>[]) e
  simp at this
  exact ⟨this.1.symm,this.2.symm⟩
 subst e4;subst e5
 obtain ⟨xi,xs,xu,xf,xt,vT,vW,vA⟩:=x
 obtain ⟨⟨aT,nT,cT,e1⟩,⟨aW,nW,cW,e2⟩,⟨aA,nA,cA,e3⟩,_⟩:=id hfit
 simp only at e1 e2 e3
 subst e1;subst e2;subst e3
 exact one11_a w h1 h2 h3 hG hk hx hfit hsm
def tpD (L:List Rv) (C:List Sg) (er:Int):Value→World→Prop:=fun v w=>∃ v',v = .tuple #[v',.int .i64 er]∧DQ w v' L C
theorem stab_tpD (L:List Rv) (C:List Sg) (er:Int):Stab (tpD L C er):=fun _ _ _ ⟨v',e,h⟩ hb=>⟨v',e,h.past hb⟩
def dqR (L:List Rv) (C:List Sg):Value→World→Prop:=fun v w=>DQ w v L C
theorem stab_dqR (L:List Rv) (C:List Sg):Stab (dqR L C):=fun _ _ _ h hb=>DQ.past h hb
theorem DQ.sl {w:World} {v:Value} {L:List Rv} {C:List Sg} (h:DQ w v L C):∃ a0 m0 c0 al nl cl,v = .agg #[.slice a0 m0 c0,.slice al nl cl]:=by
 obtain ⟨vc,vl,l,rfl,⟨a,c,rfl,_⟩,⟨⟨a',c',rfl,_⟩,_⟩,_⟩:=h.has
 exact ⟨_,_,_,_,_,_,rfl⟩
theorem small_fit {w:World} {x:Rw} {r:Rv} (h:RwF w x r) (hs:r.small):x.fit:=h.fit (Nat.le_trans hs.2.2.2 (by unfold maxLen;omega))
set_option maxRecDepth 100000 in
set_option maxHeartbeats 16000000 in
theorem do11_a {a0 al av:Option Addr} {m0 c0 nl cl cv:Nat} {L:List Rv} {C:List Sg} {l:List Cw} {cs:List (Int × Rv)} (w:World) (hD:DQ w (.agg #[.slice a0 m0 c0,.slice al nl cl]) L C) (hG:GoodL L) (hv:SliCh w (.slice av l.length cv) l) (hc:ChsF w l cs) (hl:l.length≤1000000) :
  Calls Tryz.prog 14 #[.agg #[.slice a0 m0 c0,.slice al nl cl],.slice av l.length cv] w fun e w'=>∃ v',e = .returned (.tuple #[v',.int .i64 (doP L cs).2])∧DQ w' v' (doP L cs).1 C∧Below w.heap.size w w':=by
 obtain ⟨w0,hw0⟩:∃ w0,w0=(w.alloc (Obj.cells #[.slice a0 m0 c0,.slice al nl cl] 33)).alloc (Obj.cells #[.slice none 0 0,.slice none 0 0] 33):=⟨_,rfl⟩
 have hb0:Below w.heap.size w w0:=by rw[hw0];(repeat (first | exact Below.refl _ _ | assumption | refine balloc ?_ _ | refine below_drewN ?_ _ | refine bstep (by assumption) ?_ | refine bstep (Past.prop _) ?_ | refine Below.setCell ?_ (by first | exact Nat.le_refl _ | (simp;done) | (simp;omega)) _))
 have B1:Blk w0 w.heap.size #[.slice a0 m0 c0,.slice al nl cl] 33:=by rw[hw0];exact (Blk.made _ _ _).alloc _
 have B2:Blk w0 (w.heap.size+1) #[.slice none 0 0,.slice none 0 0] 33:=by
  rw[hw0]
  have:=Blk.made (w.alloc (Obj.cells #[.slice a0 m0 c0,.slice al nl cl] 33)) #[.slice none 0 0,.slice none 0 0] 33
  simpa using this
 have hz0:w0.heap.size=w.heap.size+2:=by rw[hw0];simp
 obtain ⟨w1,hw1⟩:∃ w1,w1=w0.alloc (Obj.cells #[.slice a0 m0 c0,.slice al nl cl] 33):=⟨_,rfl⟩
 have hb1:Below w0.heap.size w0 w1:=by rw[hw1];(repeat (first | exact Below.refl _ _ | assumption | refine balloc ?_ _ | refine below_drewN ?_ _ | refine bstep (by assumption) ?_ | refine bstep (Past.prop _) ?_ | refine Below.setCell ?_ (by first | exact Nat.le_refl _ | (simp;done) | (simp;omega)) _))
 have HB:=hidE (bstep hb1 hb0);have HB1:=hidE (B1.past hb1);have HB2:=hidE (B2.past hb1)
 have HB3:=hidE (show Blk w1 (w.heap.size+2) #[.slice a0 m0 c0,.slice al nl cl] 33 by rw[hw1,←hz0];exact Blk.made _ _ _)
 have HZ1:=hidE (show w.heap.size+3≤w1.heap.size by rw[hw1];simp[hz0])
 have HD:=hidE hD;have HG:=hidE hG;have HCH:=hidE hc;have HL:=hidE hl
 obtain ⟨_,_,ev,hv1,hv2,hv3⟩:=hv
 cases ev
 have HV:=hidE hv3
 have q0:=B1.cell 0;have q1:=B1.cell 1;have qz:=B1.lt
 simp at q0 q1
 clear hD hG hc hl hb0 hb1 B1 B2 hv1 hv2 hv3
 go_enter Tryz.func14,Tryz.ntmps14
 go_upto_region 1 with fail
 rw[←hw0]
 clear hw0
 go_upto_region 2 with fail
 rw[←hw1]
 clear hw1 q0 q1 qz hz0
 go_wp2
 go_loopg [7] l.length (fun g v7 wr=>∃ (k:Nat) (ax ay:Option Addr) (mx kx my ky:Nat),v7 = .int .i64 k∧k≤l.length∧l.length - k≤g∧(runS L (cs.take k)).2=0∧DQ wr (.agg #[.slice ax mx kx,.slice ay my ky]) (runS L (cs.take k)).1 C∧Blk wr (w.heap.size+2) #[.slice ax mx kx,.slice ay my ky] 33∧Blk wr w.heap.size #[.slice a0 m0 c0,.slice al nl cl] 33∧Blk wr (w.heap.size+1) #[.slice none 0 0,.slice none 0 0] 33∧Below w.heap.size w wr)
 case atStart=>exact ⟨0,_,_,_,_,_,_,rfl,Nat.zero_le _,Nat.le_refl _,rfl,HD.out.past HB.out,HB3.out,HB1.out,HB2.out,HB.out⟩
 case round =>
  clear HB HB1 HB2 HB3 HZ1
  obtain ⟨k,ax,ay,mx,kx,my,ky,rfl,hk,hg,h0,hd,h3,h1,h2,hb⟩:=hrel
  have HDK:=hidE hd;have HB1:=hidE h1;have HB2:=hidE h2;have HB3:=hidE h3;have HB:=hidE hb;have HGK:=hidE hg;have H0:=hidE h0
  clear hd h1 h2 h3 hb hg h0
  have hkm:k≤1000000:=by have:=HL.out;omega
  have p0:=HB1.out.cell 0;have p1:=HB1.out.cell 1;have pz:=HB1.out.lt
  have r0:=HB2.out.cell 0;have r1:=HB2.out.cell 1;have rz:=HB2.out.lt;have fr0:=HB2.out.free 0;have fr1:=HB2.out.free 1
  have n0:=HB3.out.cell 0;have n1:=HB3.out.cell 1;have nz:=HB3.out.lt;have fn0:=HB3.out.free 0;have fn1:=HB3.out.free 1
  simp at p0 p1 r0 r1 n0 n1
  by_cases hlt:k<l.length
  ·obtain ⟨b,off,rfl,hbz,hcc⟩:=HV.out (by omega)
   have HK1:=hidE (show k+1≤l.length from hlt)
   have HCL:=hidE (show k<cs.length by rw[HCH.out.len];exact hlt)
   have g0:=hcc k 0 hlt (by omega);have g1:=hcc k 1 hlt (by omega);have g2:=hcc k 2 hlt (by omega);have g3:=hcc k 3 hlt (by omega);have g4:=hcc k 4 hlt (by omega);have g5:=hcc k 5 hlt (by omega);have g6:=hcc k 6 hlt (by omega);have g7:=hcc k 7 hlt (by omega);have g8:=hcc k 8 hlt (by omega)
   have hRW:=(HCH.out.rv k hlt).past HB.out
   have hKD:=HCH.out.kd k hlt
   have hSM:=HCH.out.small k hlt
   have HST:=hidE (runS_ok_take HCL.out H0.out)
   have hGR:GoodL (runS L (cs.take k)).1:=run_good _ HG.out
   have HBAD:=hidE (fun (e:Int) (he:e≠0) (h:(runS L (cs.take (k+1))).2=e)=>doP_bad (L:=L) (by have:=HCL.out;omega:k+1≤cs.length) h he)
   generalize cs.getD k (0,rv0)=cd at *
   generalize l.getD k cw0=ld at *
   obtain ⟨kd,x⟩:=ld
   obtain ⟨kd',r⟩:=cd
   obtain ⟨hk1,hk2,hk3⟩:=hKD
   simp only at hk1 hk2 hk3 hRW hSM
   have hfx:=small_fit hRW hSM
   obtain ⟨xi,xs,xu,xf,xt,vT,vW,vA⟩:=x
   obtain ⟨⟨aT,nT,cT,e1⟩,⟨aW,nW,cW,e2⟩,⟨aA,nA,cA,e3⟩,_⟩:=id hfx
   simp only at e1 e2 e3
   subst e1;subst e2;subst e3
   subst hk1
   simp at g0 g1 g2 g3 g4 g5 g6 g7 g8
   rw[←HB.out.cell (p:=⟨b,_,none⟩) hbz] at g0 g1 g2 g3 g4 g5 g6 g7 g8
   have hbz':b<wr.heap.size:=Nat.lt_of_lt_of_le hbz HB.out.size
   obtain ⟨R0,hR0⟩:∃ R0,R0=runS L (cs.take k):=⟨_,rfl⟩
   rw[←hR0] at HDK HST H0 hGR
   have HONE:=hidE (fun (x:World) (hx:Below wr.heap.size wr x)=>one11_c x (HDK.out.past hx) hGR ⟨hk2,hk3⟩ (hRW.past hx) hfx (by have:=hSM.2.2.1;omega))
   clear hR0 hcc hbz hRW hSM hk2 hk3 hfx hGR HG
   obtain ⟨⟨R1,er⟩,hR1⟩:∃ q,q=oneS R0.1 kd r:=⟨_,rfl⟩
   have HR1:=hidE (show (oneS R0.1 kd r).1=R1∧(oneS R0.1 kd r).2=er from by rw[←hR1];exact ⟨rfl,rfl⟩)
   have HST:=hidE (show runS L (cs.take (k+1))=if er=0 then (R1,er) else (R0.1,er) from by rw[HST.out];simp only;rw[←hR1])
   rw[HR1.out.1,HR1.out.2] at HONE
   have hkI:(k:Int)<(l.length:Int):=by omega
   clear hR1 HR1
   go_upto_region 5 with fail
   refine wp_region_J 10 [8] (nthR [detR (.agg #[.slice ax mx kx,.slice ay my ky]),detR (.slice (some ⟨b,off,none⟩) l.length cv),detR (.int .i64 (k:Int)),detR (.pointer (some ⟨b,off+k * 9,none⟩)),detR (.agg #[.int .u8 kd,.int .u32 xi,.int .u32 xs,nmV xu,.int .i64 xf,.int .i64 xt,.slice aT nT cT,.slice aW nW cW,.slice aA nA cA]),tpD R1 C er,tpD R1 C er,dqR R1 C,detR (.int .i64 er),newR wr.heap.size #[.slice none 0 0,.slice none 0 0] 33]) (fun _=>false) (by kernel_rfl) (by decide) (by kernel_rfl) (stab_nth (by intro r hr;simp only[List.mem_cons,List.not_mem_nil,or_false] at hr;rcases hr with rfl | rfl | rfl | rfl | rfl | rfl | rfl | rfl | rfl | rfl<;>first | exact stab_det _ | exact stab_tpD _ _ _ | exact stab_dqR _ _ | exact stab_new _ _ _)) ?_ ?_ ?_
   ·intro i o hi ho
    match i,hi with
    | 0, _ =>
     obtain rfl:=Option.some.inj ho
     intro u x hd
     have hc:=Past.cell x
     simp[go_sem,gives,frm,Act.put,nthR,detR,Region.wanted,Below.refl,hc,n0,n1,nz]
    | 1, _ =>
     obtain rfl:=Option.some.inj ho
     intro u x hd
     have hc:=Past.cell x
     simp[go_sem,gives,frm,Act.put,nthR,detR,Region.wanted,Below.refl]
    | 2, _ =>
     obtain rfl:=Option.some.inj ho
     intro u x hd
     have hc:=Past.cell x
     simp[go_sem,gives,frm,Act.put,nthR,detR,Region.wanted,Below.refl]
    | 3, _ =>
     obtain rfl:=Option.some.inj ho
     intro u x hd
     have hc:=Past.cell x
     have d1:=hd 1 (by decide) (by kernel_rfl)
     have d2:=hd 2 (by decide) (by kernel_rfl)
     simp only[nthR,detR,List.getD_cons_zero,List.getD_cons_succ] at d1 d2
     simp[go_sem,gives,frm,Act.put,nthR,detR,Region.wanted,Below.refl,d1,d2,hlt]
    | 4, _ =>
     obtain rfl:=Option.some.inj ho
     intro u x hd
     have hc:=Past.cell x
     have d3:=hd 3 (by decide) (by kernel_rfl)
     simp only[nthR,detR,List.getD_cons_zero,List.getD_cons_succ] at d3
     simp[go_sem,gives,frm,Act.put,nthR,detR,Region.wanted,Below.refl,hc,d3,g0,g1,g2,g3,g4,g5,g6,g7,g8,hbz']
    | 5, _ =>
     obtain rfl:=Option.some.inj ho
     intro u x hd
     have hc:=Past.cell x
     have d0:=hd 0 (by decide) (by kernel_rfl)
     have d4:=hd 4 (by decide) (by kernel_rfl)
     simp only[nthR,detR,List.getD_cons_zero,List.getD_cons_succ] at d0 d4
     simp[go_sem,gives,frm,Act.put,nthR,Region.wanted,d0,d4]
     (with_reducible refine (HONE.out _ (Past.prop x)).mono ?_);rintro e w3 ⟨v,rfl,h1,hb3⟩;exact ⟨_,rfl,hb3,⟨v,rfl,h1⟩⟩
    | 6, _ =>
     obtain rfl:=Option.some.inj ho
     intro u x hd
     have hc:=Past.cell x
     have h5:tpD R1 C er (u 5) x.1:=hd 5 (by decide) (by kernel_rfl)
     simp[go_sem,gives,frm,Act.put,nthR,Region.wanted,Below.refl]
     exact h5
    | 7, _ =>
     obtain rfl:=Option.some.inj ho
     intro u x hd
     have hc:=Past.cell x
     have h6:tpD R1 C er (u 6) x.1:=hd 6 (by decide) (by kernel_rfl)
     have e6:=h6.choose_spec.1;have hs6:=h6.choose_spec.2;generalize h6.choose=x6 at *
     simp[go_sem,gives,frm,Act.put,nthR,Region.wanted,Below.refl,e6]
     exact hs6
    | 8, _ =>
     obtain rfl:=Option.some.inj ho
     intro u x hd
     have hc:=Past.cell x
     have h6:tpD R1 C er (u 6) x.1:=hd 6 (by decide) (by kernel_rfl)
     have e6:=h6.choose_spec.1;have hs6:=h6.choose_spec.2;generalize h6.choose=x6 at *
     simp[go_sem,gives,frm,Act.put,nthR,Region.wanted,Below.refl,detR,e6]
    | 9, _ =>
     obtain rfl:=Option.some.inj ho
     intro u x hd
     have hc:=Past.cell x
     simp[go_sem,gives,nthR,Region.wanted]
     exact ⟨by (repeat (first | exact Below.refl _ _ | assumption | refine balloc ?_ _ | refine below_drewN ?_ _ | refine bstep (by assumption) ?_ | refine bstep (Past.prop _) ?_ | refine Below.setCell ?_ (by first | exact Nat.le_refl _ | (simp;done) | (simp;omega)) _)),⟨_,rfl,(Past.prop x).size,Blk.made _ _ _⟩⟩
    | i+10,h=>exact absurd h (by omega)
   ·intro i o hx ho
    simp only[List.mem_cons,List.not_mem_nil,or_false] at hx
    rcases hx with rfl
    ·obtain rfl:=Option.some.inj ho
     refine ⟨rfl,fun _ _ _ _ h=>h,fun u x hd => ?_⟩
     have h6:tpD R1 C er (u 6) x.1:=hd 6 (by decide) (by kernel_rfl)
     have e6:=h6.choose_spec.1;have hs6:=h6.choose_spec.2;generalize h6.choose=x6 at *
     refine ⟨rfl,.int .i64 er,rfl,fun w' => ?_⟩
     simp[go_sem,frm,Act.put,e6]
   ·intro u x9 hu hne
    obtain ⟨px,e9,hpx,B9⟩:newR wr.heap.size #[.slice none 0 0,.slice none 0 0] 33 (u 9) x9.1:=hu 9 (by decide)
    have hD7:DQ x9.1 (u 7) R1 C:=hu 7 (by decide)
    have e8:u 8 = .int .i64 er:=hu 8 (by decide)
    obtain ⟨bx,jx,zx,by',jy,zy,e7⟩:=hD7.sl
    rw[e7] at hD7
    simp only[frm,List.take,Act.put,e7,e8,e9]
    have hb9:=x9.2
    have HB9:=hidE (bstep hb9 HB.out);have HB1:=hidE (HB1.out.past hb9);have HB2:=hidE (HB2.out.past hb9);have HB3:=hidE (HB3.out.past hb9);have HDO:=hidE (HDK.out.past hb9)
    have HBX:=hidE B9;have HDX:=hidE hD7
    have HPX:=hidE (show w.heap.size+2<px from Nat.lt_of_lt_of_le nz hpx)
    clear hu hne e7 e8 e9 hb9 hD7 B9 hpx p0 p1 pz r0 r1 rz fr0 fr1 n0 n1 nz fn0 fn1 g0 g1 g2 g3 g4 g5 g6 g7 g8 hbz' HONE HB HDK
    generalize x9.1=W at *
    generalize u 5=z5 at *;generalize u 6=z6 at *
    have x0:=HBX.out.cell 0;have x1:=HBX.out.cell 1;have xz:=HBX.out.lt;have xf0:=HBX.out.free 0;have xf1:=HBX.out.free 1
    simp at x0 x1
    go_upto_region 6 with fail
    obtain ⟨W8,hW8⟩:∃ W8,W8=(W.setCell ⟨px,0,none⟩ (.slice bx jx zx)).setCell ⟨px,1,none⟩ (.slice by' jy zy):=⟨_,rfl⟩
    have hkI:KeepI W W8:=by rw[hW8];exact keepI_set2 HBX.out
    have HBX:=hidE (show Blk W8 px #[.slice bx jx zx,.slice by' jy zy] 33 by rw[hW8];simpa using (HBX.out.set 0 (.slice bx jx zx)).set 1 (.slice by' jy zy))
    have HB9:=hidE (show Below w.heap.size w W8 by rw[hW8];have:=HPX.out;exact Below.setCell (Below.setCell HB9.out (show w.heap.size≤px by omega) _) (show w.heap.size≤px by omega) _)
    have HB1:=hidE (show Blk W8 w.heap.size _ _ by rw[hW8];have:=HPX.out;exact (HB1.out.other (by omega) _).other (by omega) _)
    have HB2:=hidE (show Blk W8 (w.heap.size+1) _ _ by rw[hW8];have:=HPX.out;exact (HB2.out.other (by omega) _).other (by omega) _)
    have HB3:=hidE (show Blk W8 (w.heap.size+2) _ _ by rw[hW8];have:=HPX.out;exact (HB3.out.other (by omega) _).other (by omega) _)
    have HDX:=hidE (HDX.out.keepI hkI)
    rw[←hW8]
    clear hW8 hkI x0 x1 xz xf0 xf1 HDO
    have p0:=HB1.out.cell 0;have p1:=HB1.out.cell 1;have pz:=HB1.out.lt
    have r0:=HB2.out.cell 0;have r1:=HB2.out.cell 1;have rz:=HB2.out.lt;have fr0:=HB2.out.free 0;have fr1:=HB2.out.free 1
    have n0:=HB3.out.cell 0;have n1:=HB3.out.cell 1;have nz:=HB3.out.lt;have fn0:=HB3.out.free 0;have fn1:=HB3.out.free 1
    have x0:=HBX.out.cell 0;have x1:=HBX.out.cell 1;have xz:=HBX.out.lt
    simp at p0 p1 r0 r1 n0 n1 x0 x1
    by_cases he:er=0
    ·have HS2:=hidE (HST.out.trans (if_pos he))
     subst he
     go_upto_region 4 with fail
     obtain ⟨W9,hW9⟩:∃ W9,W9=(W8.setCell ⟨w.heap.size+2,0,none⟩ (.slice bx jx zx)).setCell ⟨w.heap.size+2,1,none⟩ (.slice by' jy zy):=⟨_,rfl⟩
     have hkI:KeepI W8 W9:=by rw[hW9];exact keepI_set2 HB3.out
     have HB3':=hidE (show Blk W9 (w.heap.size+2) #[.slice bx jx zx,.slice by' jy zy] 33 by rw[hW9];simpa using (HB3.out.set 0 (.slice bx jx zx)).set 1 (.slice by' jy zy))
     have HB9':=hidE (show Below w.heap.size w W9 by rw[hW9];exact Below.setCell (Below.setCell HB9.out (show w.heap.size≤w.heap.size+2 by omega) _) (show w.heap.size≤w.heap.size+2 by omega) _)
     have HB1':=hidE (show Blk W9 w.heap.size _ _ by rw[hW9];exact (HB1.out.other (by omega) _).other (by omega) _)
     have HB2':=hidE (show Blk W9 (w.heap.size+1) _ _ by rw[hW9];exact (HB2.out.other (by omega) _).other (by omega) _)
     have HDX':=hidE (HDX.out.keepI hkI)
     rw[←hW9]
     clear hW9 hkI p0 p1 pz r0 r1 rz fr0 fr1 n0 n1 nz fn0 fn1 x0 x1 xz hlt hk HB1 HB2 HB3 HB9 HDX
     go_wp2
     go_roundg (l.length - (k+1))
     case measure=>have:=HGK.out;have:=HK1.out;omega
     case rel=>exact ⟨k+1,bx,by',jx,zx,jy,zy,by go_num,HK1.out,Nat.le_refl _,by rw[HS2.out],by rw[HS2.out];exact HDX'.out,HB3'.out,HB1'.out,HB2'.out,HB9'.out⟩
    ·have HE:=hidE (HBAD.out er he (by rw[HST.out,if_neg he]))
     have d0:(er == 0)=false:=beq_eq_false_iff_ne.2 he
     have d0':(er != 0)=true:=bne_iff_ne.2 he
     clear he
     go_wp2
     refine bodyPost_ret (v := .tuple #[.agg #[.slice a0 m0 c0,.slice al nl cl],.int .i64 er]) (by simp[results,Tryz.results14,go_sem,r0,r1]) rfl ?_
     rw[HE.out]
     have hbf:Below w.heap.size w ((World.setCell W8 ⟨w.heap.size+1,0,none⟩ (.slice a0 m0 c0)).setCell ⟨w.heap.size+1,1,none⟩ (.slice al nl cl)):=Below.setCell (Below.setCell HB9.out (show w.heap.size≤w.heap.size+1 by omega) _) (show w.heap.size≤w.heap.size+1 by omega) _
     exact ⟨_,rfl,HD.out.past hbf,hbf⟩
  ·have HTK:=hidE (show cs.take k=cs from by rw[List.take_of_length_le];have:=HCH.out.len;omega)
   rw[HTK.out] at HDK H0
   have HE:=hidE (show doP L cs=((runS L cs).1,0) from by unfold doP;rw[if_pos H0.out];exact Prod.ext rfl H0.out)
   go_wp2
   refine bodyPost_ret (v := .tuple #[.agg #[.slice ax mx kx,.slice ay my ky],.int .i64 0]) (by simp[results,Tryz.results14,go_sem,r0,r1]) rfl ?_
   rw[HE.out]
   have hbf:Below w.heap.size w ((World.setCell _ ⟨w.heap.size+1,0,none⟩ (.slice ax mx kx)).setCell ⟨w.heap.size+1,1,none⟩ (.slice ay my ky)):=Below.setCell (Below.setCell HB.out (show w.heap.size≤w.heap.size+1 by omega) _) (show w.heap.size≤w.heap.size+1 by omega) _
   exact ⟨_,rfl,HDK.out.keepI (keepI_set2 HB2.out),hbf⟩
end
end Go.Proofs.YtcmponckjkalaaaGreat
