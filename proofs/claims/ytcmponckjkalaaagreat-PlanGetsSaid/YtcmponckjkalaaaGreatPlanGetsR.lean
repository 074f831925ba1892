/- PlanGets: reservations are told as they were handed in; a copy is not touched. Conditions: that the slices read as changes and numbers. PlanGets: for every row of rows of changes, all numbers, and every row of changes, the statement's function answers true and leaves its arguments alone. No conditions. -/
import Derived.Test.YtcmponckjkalaaaGreatPUGd
import Derived.Test.YtcmponckjkalaaaGreatPUGU
namespace Go.Proofs.YtcmponckjkalaaaGreat
section
open Go.ChangeShapes Go.WideShapes Go.ChangeAt Go.RowKit
attribute [local irreducible] Go.Calls
theorem DQ.row {w:World} {v1 v2:Value} {L:List Rv} {C:List Sg} (h:DQ w (.agg #[v1,v2]) L C):∃ l,SliRw w v2 l∧RwsF w l L:=by
 obtain ⟨vc,vl,l,e,_,h2,h3⟩:=h.has
 have e5:vl=v2:=by
  have:=congrArg (fun v=>match v with | Value.agg cs=>cs.toList | _=>[]) e
  simp at this
  exact this.2.symm
 subst e5
 exact ⟨l,h2.1,h3⟩
theorem at11_d {w:World} {a0 al:Option Addr} {m0 c0 nl cl:Nat} {L:List Rv} {C:List Sg} (id:Int) (hD:DQ w (.agg #[.slice a0 m0 c0,.slice al nl cl]) L C) (hl:L.length≤1000000) :
  Calls Tryz.prog 22 #[.agg #[.slice a0 m0 c0,.slice al nl cl],.int .u32 id] w fun e w'=>e = .returned (.int .i64 (atI L id))∧Below w.heap.size w w':=by
 obtain ⟨l,h2,h3⟩:=hD.row
 exact at11_c _ id w h2 h3 (by have:=h3.1;omega) ⟨_,_,_,rfl⟩
set_option maxRecDepth 100000 in
set_option maxHeartbeats 32000000 in
theorem plangets_walk {al aI aq:Option Addr} {cl cI cq:Nat} {ls:List (List Cw)} {css:List (List (Int × Rv))} {ids:List Int} {lt:List Cw} {ct:List (Int × Rv)} (w:World) (hS:SliSC w (.slice al ls.length cl) ls css) (hI:SliU w (.slice aI ids.length cI) ids) (hT:SliCh w (.slice aq lt.length cq) lt) (hC:ChF0 w lt ct) (hn:lt.length≤100000000000000) :
  Calls Tryz.prog 4 #[.slice al ls.length cl,.slice aI ids.length cI,.slice aq lt.length cq] w fun e w'=>e = .returned (.bool true)∧Below w.heap.size w w':=by
 have HS:=hidE hS;have HT:=hidE hT;have HC:=hidE hC;have HN:=hidE hn
 have HH:=hidE (fun w=>plhead_c w)
 obtain ⟨_,_,e0,hil,his⟩:=hI
 cases e0
 have HIA:=hidE his;have HIL:=hidE hil
 clear hS hT hC hn his hil
 go_enter Tryz.func4,Tryz.ntmps4
 go_wp2_with fail
 ((with_reducible refine (great_c _ HS.out).mono ?_);rintro e w1 ⟨b1,rfl,hb1,hf1⟩)
 have HB1:=hidE hb1;have HF1:=hidE hf1
 have HZ1:=hidE hb1.size
 clear hb1 hf1
 cases b1
 ·have HFW:=hidE (HF1.out rfl)
  clear HF1
  have hba:Below w.heap.size w (w1.alloc (Obj.cells #[.slice aq lt.length cq] 37)):=HB1.out.alloc HZ1.out _
  have HBA:=hidE hba
  have HT1:=hidE (HT.out.past hba);have HC1:=hidE (HC.out.past hba)
  clear hba
  go_wp2_with fail
  ((with_reducible refine (great_c _ (sliSC_one (Blk.made _ _ _) HT1.out HC1.out HN.out)).mono ?_);rintro e w2 ⟨b2,rfl,hb2,hf2⟩)
  have HB2:=hidE (bstep hb2 HBA.out);have HF2:=hidE hf2
  clear hb2 hf2 HBA HT1 HC1
  cases b2
  ·have HFT:=hidE (HF2.out rfl)
   have HNT:=hidE (show lt.length≤80 from HFT.out.row (i:=0) (by simp))
   have HCT:=hidE (show ChsF w lt ct from HFT.out.chs (i:=0) (by simp) HC.out)
   clear HF2 HFT
   by_cases h60:60<ids.length
   ·have d1:decide ((60:Int)<(ids.length:Int))=true:=decide_eq_true (by omega)
    have d2:decide (60<ids.length)=true:=decide_eq_true h60
    clear h60
    go_wp2_with fail
    ((with_reducible refine (HH.out _).mono ?_);rintro e wh ⟨rfl,hbh⟩)
    go_wp2
    go_ret
    exact ⟨rfl,bstep hbh HB2.out⟩
   ·have d1:decide ((60:Int)<(ids.length:Int))=false:=decide_eq_false (by omega)
    have d2:decide (60<ids.length)=false:=decide_eq_false h60
    have HI60:=hidE (show ids.length≤60 by omega)
    clear h60
    go_wp2_with fail
    (with_reducible refine (new_f _ (sliF3_none _) (by simp)).mono ?_)
    rintro e w3 ⟨hb3,h3⟩
    rcases h3 with ⟨h,_⟩ | ⟨_,p,rfl,hP3,hp3⟩
    ·exact absurd h (by decide)
    have HB3:=hidE (bstep hb3 HB2.out)
    have HPZ:=hidE (show w.heap.size≤p from Nat.le_trans HB2.out.size hp3)
    have HP3:=hidE hP3
    clear hb3 hP3 hp3
    go_wp2_with fail
    ((with_reducible refine (new11_c _ (sliS_nil _) (by simp)).mono ?_);rintro e w4 ⟨hb4,h4⟩)
    have HB4:=hidE (bstep hb4 HB3.out)
    have HP4:=hidE (HP3.out.past hb4)
    clear hb4
    rcases h4 with ⟨h,_⟩ | ⟨_,rfl⟩
    ·exact absurd h (by decide)
    go_upto_region 5 with fail
    obtain ⟨q,hq⟩:∃ q,q=w4.heap.size:=⟨_,rfl⟩
    obtain ⟨w5,hw5⟩:∃ w5,w5=w4.alloc (Obj.cells #[.slice none 0 0,.slice none 0 0] 33):=⟨_,rfl⟩
    have hb5:Below w4.heap.size w4 w5:=by rw[hw5];(repeat (first | exact Below.refl _ _ | assumption | refine balloc ?_ _ | refine below_drewN ?_ _ | refine bstep (by assumption) ?_ | refine bstep (Past.prop _) ?_ | refine Below.setCell ?_ (by first | exact Nat.le_refl _ | (simp;done) | (simp;omega)) _))
    have hps:PS w w5 p q [] [] none 0 0 none 0 0:=⟨HP4.out.past hb5,by rw[hw5,hq];exact Blk.made _ _ _,⟨_,_,[],rfl,sliS_nil _,sliRd_nil _,rwsF_nil _⟩,bstep hb5 HB4.out,HPZ.out,by rw[hq];exact HB4.out.size,by have:=HP4.out.lt;omega⟩
    have HPS:=hidE hps
    rw[←hw5]
    rw[←hq]
    clear hw5 hb5 hps hq HP3 HP4 HB3 HB4
    go_wp2
    go_loopg [11] ls.length (fun g v11 wr=>∃ (k:Nat) (L:List Rv) (ax ay:Option Addr) (mx kx my ky:Nat),v11 = .int .i64 k∧k≤ls.length∧ls.length - k≤g∧PS w wr p q L [] ax mx kx ay my ky)
    case atStart=>exact ⟨0,[],_,_,_,_,_,_,rfl,Nat.zero_le _,Nat.le_refl _,HPS.out⟩
    case round =>
     clear HPS
     obtain ⟨k,L,ax,ay,mx,kx,my,ky,rfl,hk,hg,hps⟩:=hrel
     have HPS:=hidE hps;have HGK:=hidE hg
     have hk40:k≤40:=by have:=HFW.out.1;omega
     clear hps hg
     by_cases hlt:k<ls.length
     ·obtain ⟨_,_,e0,_,_,_,hA⟩:=HS.out
      cases e0
      obtain ⟨bb,off,rfl,hbz,hc⟩:=hA (by omega)
      obtain ⟨vi,s0,hsl,hch,_⟩:=hc k hlt
      obtain ⟨ai,ci,rfl,_,_,_⟩:=id hsl
      have HSW:=hidE (And.intro s0 hbz)
      rw[←HPS.out.bel.cell (p:=⟨bb,_,none⟩) hbz] at s0
      have hbz':bb<wr.heap.size:=Nat.lt_of_lt_of_le hbz HPS.out.bel.size
      have HSL:=hidE hsl
      have HCH:=hidE (HFW.out.chs hlt hch)
      have HRW:=hidE (HFW.out.row hlt)
      have HK1:=hidE (show k+1≤ls.length from hlt)
      have hkI:(k:Int)<(ls.length:Int):=by omega
      clear hA hc hsl hch hbz
      generalize ls.getD k []=LL at *
      generalize css.getD k []=CC at *
      obtain ⟨⟨L2,er⟩,hdo⟩:∃ r,doP L CC=r:=⟨_,rfl⟩
      have HD:=hidE hdo
      clear hdo
      go_wp2_with fail
      ((with_reducible refine (do_f _ HPS.out.pl (HSL.out.past HPS.out.bel) (HCH.out.past HPS.out.bel) (by have:=HRW.out;omega) HD.out).mono ?_);rintro e w9 ⟨rfl,hg9,hP9,_⟩)
      obtain ⟨hP9,hB9,hk9,hb9⟩:=HPS.out.wrote hg9 hP9
      have HP9:=hidE hP9;have HB9:=hidE hB9;have HBe:=hidE hb9;have HD9:=hidE (HPS.out.dq.keepI hk9);have HGL:=hidE HPS.out.pl.good
      have HPZ':=hidE HPS.out.pz;have HQZ':=hidE HPS.out.qz;have HNE':=hidE HPS.out.ne
      have s1:=(hb9.cell (p:=⟨bb,_,none⟩) HSW.out.2).trans HSW.out.1
      have sz1:=Nat.lt_of_lt_of_le HSW.out.2 hb9.size
      clear hP9 hB9 hk9 hb9 hg9 s0 hbz' HPS
      have n0:=HB9.out.cell 0;have n1:=HB9.out.cell 1;have nz:=HB9.out.lt;have fn0:=HB9.out.free 0;have fn1:=HB9.out.free 1
      simp at n0 n1
      have HDO:=hidE (fun (x:World) (hx:Below w9.heap.size w9 x)=>do11_c x (HD9.out.past hx) HGL.out (HSL.out.past (bstep hx HBe.out)) (HCH.out.past (bstep hx HBe.out)) (by have:=HRW.out;omega))
      rw[HD.out] at HDO
      simp only at HDO
      go_upto_region 9 with fail
      refine wp_region_J 9 [8] (nthR [detR (.agg #[.slice ax mx kx,.slice ay my ky]),detR (.slice (some ⟨bb,off,none⟩) ls.length cl),detR (.int .i64 (k:Int)),detR (.pointer (some ⟨bb,off+k,none⟩)),detR (.slice ai LL.length ci),tpD L2 [] er,tpD L2 [] er,dqR L2 [],detR (.int .i64 er)]) (fun _=>false) (by kernel_rfl) (by decide) (by kernel_rfl) (stab_nth (by intro r hr;simp only[List.mem_cons,List.not_mem_nil,or_false] at hr;rcases hr with rfl | rfl | rfl | rfl | rfl | rfl | rfl | rfl | rfl<;>first | exact stab_det _ | exact stab_tpD _ _ _ | exact stab_dqR _ _)) ?_ ?_ ?_
      ·intro i o hi ho
       match i,hi with
       | 0, _ =>
        obtain rfl:=Option.some.inj ho
        intro u x hd
        have hc:=Past.cell x
        simp[go_sem,gives,frm,Act.put,nthR,detR,Region.wanted,Below.refl,hc,n0,n1,nz]
       | 1, _ =>
        obtain rfl:=Option.some.inj ho
        intro u x hd
        have hc:=Past.cell x
        simp[go_sem,gives,frm,Act.put,nthR,detR,Region.wanted,Below.refl]
       | 2, _ =>
        obtain rfl:=Option.some.inj ho
        intro u x hd
        have hc:=Past.cell x
        simp[go_sem,gives,frm,Act.put,nthR,detR,Region.wanted,Below.refl]
       | 3, _ =>
        obtain rfl:=Option.some.inj ho
        intro u x hd
        have hc:=Past.cell x
        have d1:=hd 1 (by decide) (by kernel_rfl)
        have d2:=hd 2 (by decide) (by kernel_rfl)
        simp only[nthR,detR,List.getD_cons_zero,List.getD_cons_succ] at d1 d2
        simp[go_sem,gives,frm,Act.put,nthR,detR,Region.wanted,Below.refl,d1,d2,hlt]
       | 4, _ =>
        obtain rfl:=Option.some.inj ho
        intro u x hd
        have hc:=Past.cell x
        have d3:=hd 3 (by decide) (by kernel_rfl)
        simp only[nthR,detR,List.getD_cons_zero,List.getD_cons_succ] at d3
        simp[go_sem,gives,frm,Act.put,nthR,detR,Region.wanted,Below.refl,hc,d3,s1,sz1]
       | 5, _ =>
        obtain rfl:=Option.some.inj ho
        intro u x hd
        have hc:=Past.cell x
        have d0:=hd 0 (by decide) (by kernel_rfl)
        have d4:=hd 4 (by decide) (by kernel_rfl)
        simp only[nthR,detR,List.getD_cons_zero,List.getD_cons_succ] at d0 d4
        simp[go_sem,gives,frm,Act.put,nthR,Region.wanted,d0,d4]
        (with_reducible refine (HDO.out _ (Past.prop x)).mono ?_);rintro e w3 ⟨v,rfl,h1,hb3⟩;exact ⟨_,rfl,hb3,⟨v,rfl,h1⟩⟩
       | 6, _ =>
        obtain rfl:=Option.some.inj ho
        intro u x hd
        have hc:=Past.cell x
        have h5:tpD L2 [] er (u 5) x.1:=hd 5 (by decide) (by kernel_rfl)
        simp[go_sem,gives,frm,Act.put,nthR,Region.wanted,Below.refl]
        exact h5
       | 7, _ =>
        obtain rfl:=Option.some.inj ho
        intro u x hd
        have hc:=Past.cell x
        have h6:tpD L2 [] er (u 6) x.1:=hd 6 (by decide) (by kernel_rfl)
        have e6:=h6.choose_spec.1;have hs6:=h6.choose_spec.2;generalize h6.choose=x6 at *
        simp[go_sem,gives,frm,Act.put,nthR,Region.wanted,Below.refl,e6]
        exact hs6
       | 8, _ =>
        obtain rfl:=Option.some.inj ho
        intro u x hd
        have hc:=Past.cell x
        have h6:tpD L2 [] er (u 6) x.1:=hd 6 (by decide) (by kernel_rfl)
        have e6:=h6.choose_spec.1;have hs6:=h6.choose_spec.2;generalize h6.choose=x6 at *
        simp[go_sem,gives,frm,Act.put,nthR,Region.wanted,Below.refl,detR,e6]
       | i+9,h=>exact absurd h (by omega)
      ·intro i o hx ho
       simp only[List.mem_cons,List.not_mem_nil,or_false] at hx
       rcases hx with rfl
       ·obtain rfl:=Option.some.inj ho
        refine ⟨rfl,fun _ _ _ _ h=>h,fun u x hd => ?_⟩
        have h6:tpD L2 [] er (u 6) x.1:=hd 6 (by decide) (by kernel_rfl)
        have e6:=h6.choose_spec.1;have hs6:=h6.choose_spec.2;generalize h6.choose=x6 at *
        refine ⟨rfl,.int .i64 er,rfl,fun w' => ?_⟩
        simp[go_sem,frm,Act.put,e6]
      ·intro u x9 hu hne
       have hD7:DQ x9.1 (u 7) L2 []:=hu 7 (by decide)
       have e8:u 8 = .int .i64 er:=hu 8 (by decide)
       obtain ⟨bx,jx,zx,by',jy,zy,e7⟩:=hD7.sl
       rw[e7] at hD7
       simp only[frm,List.take,Act.put,e7,e8]
       have hb9:=x9.2
       have HP9:=hidE (HP9.out.past hb9);have HB9:=hidE (HB9.out.past hb9);have HBe:=hidE (bstep hb9 HBe.out);have HDX:=hidE hD7
       clear hu hne e7 e8 hb9 hD7 n0 n1 nz fn0 fn1 s1 sz1 HDO HD9
       generalize x9.1=W at *
       generalize u 5=z5 at *;generalize u 6=z6 at *
       have n0:=HB9.out.cell 0;have n1:=HB9.out.cell 1;have nz:=HB9.out.lt;have fn0:=HB9.out.free 0;have fn1:=HB9.out.free 1
       simp at n0 n1
       go_upto_region 10 with fail
       obtain ⟨W10,hW10⟩:∃ W10,W10=(W.setCell ⟨q,0,none⟩ (.slice bx jx zx)).setCell ⟨q,1,none⟩ (.slice by' jy zy):=⟨_,rfl⟩
       have HPS:=hidE (show PS w W10 p q L2 [] bx jx zx by' jy zy from ⟨by rw[hW10];exact pl_set2 HP9.out HB9.out HNE'.out,by rw[hW10];simpa using (HB9.out.set 0 (.slice bx jx zx)).set 1 (.slice by' jy zy),HDX.out.keepI (by rw[hW10];exact keepI_set2 HB9.out),by rw[hW10];have h2:=HQZ'.out;exact Below.setCell (Below.setCell HBe.out (show w.heap.size≤q from h2) _) (show w.heap.size≤q from h2) _,HPZ'.out,HQZ'.out,HNE'.out⟩)
       rw[←hW10]
       clear hW10 n0 n1 nz fn0 fn1 HP9 HB9 HBe HDX HPZ' HQZ' HNE' HD
       obtain ⟨_,_,e0,_,_,hsla⟩:=id HSL.out
       cases e0
       have HSLA:=hidE hsla
       clear hsla
       have HLL:=hidE (show LL.length≤80 from HRW.out)
       obtain ⟨nl,hnl⟩:∃ nl,nl=LL.length:=⟨_,rfl⟩
       have HNL:=hidE hnl
       rw[←hnl] at HSW HLL ⊢
       clear hnl
       go_wp2
       go_loopg [12] nl (fun g v12 wx=>∃ j:Nat,v12 = .int .i64 j∧j≤nl∧nl - j≤g∧PS w wx p q L2 [] bx jx zx by' jy zy)
       case atStart=>exact ⟨0,rfl,Nat.zero_le _,Nat.le_refl _,HPS.out⟩
       case round =>
        clear HPS
        obtain ⟨j,rfl,hj',hgj,hps⟩:=hrel
        have HPS:=hidE hps;have HGJ:=hidE hgj
        have hj80:j≤80:=by have:=HLL.out;omega
        have s0:=(HPS.out.bel.cell (p:=⟨bb,_,none⟩) HSW.out.2).trans HSW.out.1;have sz:=Nat.lt_of_lt_of_le HSW.out.2 HPS.out.bel.size
        clear hps hgj
        by_cases hj:j<nl
        ·have hjl:j<LL.length:=by have:=HNL.out;omega
         obtain ⟨cb,co,rfl,cz,cc⟩:=HSLA.out (by omega)
         have c1:=cc j 1 hjl (by omega);have c2:=cc j 2 hjl (by omega);have c3:=cc j 3 hjl (by omega);have c4:=cc j 4 hjl (by omega);have c5:=cc j 5 hjl (by omega);have c6:=cc j 6 hjl (by omega);have c7:=cc j 7 hjl (by omega);have c8:=cc j 8 hjl (by omega)
         have hRW:=HCH.out.rv j hjl
         have hSM:=HCH.out.small j hjl
         have HJ1:=hidE (show j+1≤nl from hj)
         have hjI:(j:Int)<(nl:Int):=by omega
         generalize CC.getD j (0,rv0)=cd at *
         generalize LL.getD j cw0=ld at *
         obtain ⟨kd,x⟩:=ld
         obtain ⟨kd',r⟩:=cd
         simp only at hRW hSM
         have hfx:=small_fit hRW hSM
         obtain ⟨xi,xs,xu,xf,xt,vT,vW,vA⟩:=x
         obtain ⟨⟨aT,nT,cT,e1⟩,⟨aW,nW,cW,e2⟩,⟨aA,nA,cA,e3⟩,_⟩:=id hfx
         simp only at e1 e2 e3
         subst e1;subst e2;subst e3
         simp at c1 c2 c3 c4 c5 c6 c7 c8
         rw[←HPS.out.bel.cell (p:=⟨cb,_,none⟩) cz] at c1 c2 c3 c4 c5 c6 c7 c8
         have cz':=Nat.lt_of_lt_of_le cz HPS.out.bel.size
         have HM1:=hidE (fun (X:World) (hX:Below wr.heap.size wr X)=>may_f (hRW.past (bstep hX HPS.out.bel)) hSM)
         have HM2:=hidE (fun (X:World) (hX:Below wr.heap.size wr X)=>may11_c X (hRW.past (bstep hX HPS.out.bel)) (by have:=hSM.2.2.1;omega) hfx)
         have n3:(r.ok != r.ok)=false:=bne_self_eq_false r.ok
         clear cc cz hRW hSM hfx
         generalize r.ok=okr at *
         go_wp2_with fail
         refine wp_region_past_lit (by kernel_rfl) (by kernel_rfl) ?_
         have hcp:=Past.cell (W:=wr)
         repeat (go_big_quiet_step (first | (go_at_call 18;exact Past.call _ (HM1.out _ (Past.prop _))) | (go_at_call 19;exact Past.call _ (HM2.out _ (Past.prop _)))))
         refine wpQuiet_nil ?_
         rintro _ ⟨x',rfl⟩
         have HPS:=hidE (HPS.out.past x'.2)
         clear hcp HM1 HM2 c1 c2 c3 c4 c5 c6 c7 c8 cz' s0 sz
         generalize x'.1=wl at *
         go_wp2
         go_roundg (nl - (j+1))
         case measure=>have:=HGJ.out;have:=HJ1.out;omega
         case rel=>exact ⟨j+1,by go_num,HJ1.out,Nat.le_refl _,HPS.out⟩
        ·go_wp2
         go_roundg (ls.length - (k+1))
         case measure=>have:=HGK.out;have:=HK1.out;omega
         case rel=>exact ⟨k+1,_,_,_,_,_,_,_,by go_num,HK1.out,Nat.le_refl _,HPS.out⟩
     ·clear hk hk40
      obtain ⟨wo,hwo⟩:∃ wo:World,wo=wr:=⟨_,rfl⟩
      subst hwo
      go_wp2_with fail
      ((with_reducible refine (copy_c _ HPS.out.pl (by simp)).mono ?_);rintro e w6 ⟨c,rfl,hcz,hQ,hb6⟩)
      have HPC:=hidE (show p<c from Nat.lt_of_lt_of_le HPS.out.pl.lt hcz)
      have HQC:=hidE (show q<c from Nat.lt_of_lt_of_le HPS.out.blk.lt hcz)
      have HPS:=hidE (HPS.out.past hb6);have HQ:=hidE hQ
      clear hcz hQ hb6
      go_wp2_with fail
      ((with_reducible refine (do_c _ HPS.out.pl (HT.out.past HPS.out.bel) (HCT.out.past HPS.out.bel) (by have:=HNT.out;omega)).mono ?_);rintro e w7 ⟨rfl,hg7,hP7,_⟩)
      have HQ:=hidE (HQ.out.beside HPS.out.pl hg7 (by have:=HPC.out;omega))
      obtain ⟨_,hB7,hk7,hb7⟩:=HPS.out.wrote hg7 hP7
      have HPS:=hidE (show PS w w7 c q L [] ax mx kx ay my ky from ⟨HQ.out,hB7,HPS.out.dq.keepI hk7,hb7,by have h1:=HPC.out;have h2:=HPS.out.pz;omega,HPS.out.qz,by have:=HQC.out;omega⟩)
      clear hB7 hk7 hb7 hg7 hP7 HQ
      go_wp2
      go_loopg [14] ids.length (fun g v14 wr=>∃ k:Nat,v14 = .int .i64 k∧k≤ids.length∧ids.length - k≤g∧PS w wr c q L [] ax mx kx ay my ky)
      case atStart=>exact ⟨0,rfl,Nat.zero_le _,Nat.le_refl _,HPS.out⟩
      case round =>
       clear HPS
       obtain ⟨k,rfl,hk,hg,hps⟩:=hrel
       have HPS:=hidE hps;have HGK:=hidE hg
       have hk60:k≤60:=by have:=HI60.out;omega
       clear hps hg
       by_cases hlt:k<ids.length
       ·obtain ⟨ib,io,rfl,iz,ic⟩:=HIA.out (by omega)
        have i0:=ic k hlt
        have HIW:=hidE (And.intro i0 iz)
        rw[←HPS.out.bel.cell (p:=⟨ib,_,none⟩) iz] at i0
        have iz':=Nat.lt_of_lt_of_le iz HPS.out.bel.size
        have HK1:=hidE (show k+1≤ids.length from hlt)
        have hkI:(k:Int)<(ids.length:Int):=by omega
        generalize ids.getD k 0=id' at *
        clear ic iz
        go_wp2_with fail
        ((with_reducible refine (get_f id' _ HPS.out.pl).mono ?_);rintro e w8 hget)
        unfold GetP at hget
        obtain ⟨hb8,hget⟩:=hget
        have HPS:=hidE (HPS.out.past hb8)
        have hi8:=(HPS.out.bel.cell (p:=⟨ib,_,none⟩) HIW.out.2).trans HIW.out.1
        have hz8:=Nat.lt_of_lt_of_le HIW.out.2 HPS.out.bel.size
        clear i0 iz'
        cases ha:atS L id' with
        | none =>
         rw[ha] at hget
         simp only at hget
         subst hget
         go_upto_region 21 with fail
         obtain ⟨pr,hpr⟩:∃ pr,pr=w8.heap.size:=⟨_,rfl⟩
         obtain ⟨w9,hw9⟩:∃ w9,w9=w8.alloc (Obj.cells #[.int .u32 0,.int .u32 0,.string ⟨#[]⟩,.int .i64 0,.int .i64 0,.slice none 0 0,.slice none 0 0,.slice none 0 0] 50):=⟨_,rfl⟩
         have hb9:Below w8.heap.size w8 w9:=by rw[hw9];(repeat (first | exact Below.refl _ _ | assumption | refine balloc ?_ _ | refine below_drewN ?_ _ | refine bstep (by assumption) ?_ | refine bstep (Past.prop _) ?_ | refine Below.setCell ?_ (by first | exact Nat.le_refl _ | (simp;done) | (simp;omega)) _))
         have HBR:=hidE (show Blk w9 pr #[.int .u32 0,.int .u32 0,.string ⟨#[]⟩,.int .i64 0,.int .i64 0,.slice none 0 0,.slice none 0 0,.slice none 0 0] 50 by rw[hw9,hpr];exact Blk.made _ _ _)
         have HPS:=hidE (HPS.out.past hb9)
         have i0:=(hb9.cell (p:=⟨ib,_,none⟩) hz8).trans hi8
         have iz:=Nat.lt_of_lt_of_le hz8 hb9.size
         rw[←hw9]
         rw[←hpr]
         clear hw9 hpr hb9 hi8 hz8
         have n0:=HPS.out.blk.cell 0;have n1:=HPS.out.blk.cell 1;have nz:=HPS.out.blk.lt;have fn0:=HPS.out.blk.free 0;have fn1:=HPS.out.blk.free 1
         simp at n0 n1
         have HAT:=hidE (fun (X:World) (hX:Below w9.heap.size w9 X)=>at11_d id' (HPS.out.dq.past hX) (by have:=HPS.out.pl.good.few;omega))
         rw[atI_none ha] at HAT
         go_wp2_with fail
         refine wp_region_past_lit (by kernel_rfl) (by kernel_rfl) ?_
         have hcp:=Past.cell (W:=w9)
         repeat (go_big_quiet_step (first | (go_at_call 22;exact Past.call _ (HAT.out _ (Past.prop _)))))
         refine wpQuiet_nil ?_
         rintro _ ⟨x',rfl⟩
         have HPS:=hidE (HPS.out.past x'.2);have HBR:=hidE (HBR.out.past x'.2)
         clear hcp HAT i0 iz n0 n1 nz fn0 fn1
         generalize x'.1=wl at *
         have r0:=HBR.out.cell 0;have rz:=HBR.out.lt
         simp at r0
         go_upto_region 22 with fail
         go_quiet (fail)
         have hq:Below wl.heap.size wl (wl.drewN nq):=below_drewN (Below.refl _ _) _
         have HPS:=hidE (HPS.out.past hq)
         clear hq r0 rz HBR
         generalize wl.drewN nq=wq at *
         go_wp2
         go_roundg (ids.length - (k+1))
         case measure=>have:=HGK.out;have:=HK1.out;omega
         case rel=>exact ⟨k+1,by go_num,HK1.out,Nat.le_refl _,HPS.out⟩
        | some j =>
         rw[ha] at hget
         simp only at hget
         obtain ⟨x,rfl,hx⟩:=hget
         have hgl:=HPS.out.pl.good
         obtain ⟨hjl,hje,hjx⟩:=atS_some ha
         have hrm:L.getD j rv0∈L:=by rw[List.getD_eq_getElem?_getD,List.getElem?_eq_getElem hjl];exact List.getElem_mem hjl
         have hru:(L.getD j rv0).u.length≤maxLen:=by have:=rok_name (hgl.ok _ hrm);unfold nameB at this;simp only[Bool.and_eq_true,decide_eq_true_eq] at this;have:=this.1.2;unfold maxLen;omega
         have hfx:=hx.fit hru
         obtain ⟨xi,xs,xu,xf,xt,vT,vW,vA⟩:=x
         obtain ⟨⟨aT,nT,cT,e1⟩,⟨aW,nW,cW,e2⟩,⟨aA,nA,cA,e3⟩,_⟩:=id hfx
         simp only at e1 e2 e3
         subst e1;subst e2;subst e3
         have HX:=hidE hx
         have HJL:=hidE hjl
         have HAS:=hidE ha
         have dneg:decide ((j:Int)<0)=false:=decide_eq_false (by omega)
         have dpos:decide ((0:Int)≤(j:Int))=true:=decide_eq_true (by omega)
         clear hgl hrm hru hfx hx hje hjx hjl ha
         go_upto_region 21 with fail
         obtain ⟨pr,hpr⟩:∃ pr,pr=w8.heap.size:=⟨_,rfl⟩
         obtain ⟨w9,hw9⟩:∃ w9,w9=w8.alloc (Obj.cells #[.int .u32 xi,.int .u32 xs,nmV xu,.int .i64 xf,.int .i64 xt,.slice aT nT cT,.slice aW nW cW,.slice aA nA cA] 50):=⟨_,rfl⟩
         have hb9:Below w8.heap.size w8 w9:=by rw[hw9];(repeat (first | exact Below.refl _ _ | assumption | refine balloc ?_ _ | refine below_drewN ?_ _ | refine bstep (by assumption) ?_ | refine bstep (Past.prop _) ?_ | refine Below.setCell ?_ (by first | exact Nat.le_refl _ | (simp;done) | (simp;omega)) _))
         have HBR:=hidE (show Blk w9 pr #[.int .u32 xi,.int .u32 xs,nmV xu,.int .i64 xf,.int .i64 xt,.slice aT nT cT,.slice aW nW cW,.slice aA nA cA] 50 by rw[hw9,hpr];exact Blk.made _ _ _)
         have HPS:=hidE (HPS.out.past hb9);have HX:=hidE (HX.out.past hb9)
         have i0:=(hb9.cell (p:=⟨ib,_,none⟩) hz8).trans hi8
         have iz:=Nat.lt_of_lt_of_le hz8 hb9.size
         rw[←hw9]
         rw[←hpr]
         clear hw9 hpr hb9 hi8 hz8
         have n0:=HPS.out.blk.cell 0;have n1:=HPS.out.blk.cell 1;have nz:=HPS.out.blk.lt;have fn0:=HPS.out.blk.free 0;have fn1:=HPS.out.blk.free 1
         simp at n0 n1
         have HAT:=hidE (fun (X:World) (hX:Below w9.heap.size w9 X)=>at11_d id' (HPS.out.dq.past hX) (by have:=HPS.out.pl.good.few;omega))
         rw[atI_some HAS.out] at HAT
         go_wp2_with fail
         refine wp_region_past_lit (by kernel_rfl) (by kernel_rfl) ?_
         have hcp:=Past.cell (W:=w9)
         repeat (go_big_quiet_step (first | (go_at_call 22;exact Past.call _ (HAT.out _ (Past.prop _)))))
         refine wpQuiet_nil ?_
         rintro _ ⟨x',rfl⟩
         have HPS:=hidE (HPS.out.past x'.2);have HBR:=hidE (HBR.out.past x'.2);have HX:=hidE (HX.out.past x'.2)
         clear hcp HAT i0 iz n0 n1 nz fn0 fn1
         generalize x'.1=wl at *
         obtain ⟨l,hrw,hrf⟩:=HPS.out.dq.row
         obtain ⟨_,_,el,_,_,_,hla,hlf⟩:=id hrw
         cases el
         have hjl':j<l.length:=by have h1:=HJL.out;have h2:=hrf.1;omega
         obtain ⟨lb,lo,rfl,lz,lc⟩:=hla (by omega)
         have gg:=lc.get hjl'
         have hy:=hrf.2 j hjl'
         have hyf:=hlf _ (getD_memRw hjl')
         generalize l.getD j rw0=y at *
         generalize L.getD j rv0=r at *
         obtain ⟨yi,ys,yu,yf,yt,vT,vW,vA⟩:=y
         obtain ⟨⟨bT,oT,dT,e1⟩,⟨bW,oW,dW,e2⟩,⟨bA,oA,dA,e3⟩,_⟩:=id hyf
         simp only at e1 e2 e3
         subst e1;subst e2;subst e3
         obtain ⟨g0,g1,g2,g3,g4,g5,g6,g7⟩:=gg
         simp only at g0 g1 g2 g3 g4 g5 g6 g7
         have HSR:=hidE (fun (X:World) (hX:Below wl.heap.size wl X)=>rsamer_t X (HX.out.past hX) (hy.past hX))
         have hjI:(j:Int)<(l.length:Int):=by omega
         have hj0:(0:Int)≤(j:Int):=by omega
         have n0:=HPS.out.blk.cell 0;have n1:=HPS.out.blk.cell 1;have nz:=HPS.out.blk.lt;have fn0:=HPS.out.blk.free 0;have fn1:=HPS.out.blk.free 1
         simp at n0 n1
         have r0:=HBR.out.cell 0;have r1:=HBR.out.cell 1;have r2:=HBR.out.cell 2;have r3:=HBR.out.cell 3;have r4:=HBR.out.cell 4;have r5:=HBR.out.cell 5;have r6:=HBR.out.cell 6;have r7:=HBR.out.cell 7;have rz:=HBR.out.lt
         simp at r0 r1 r2 r3 r4 r5 r6 r7
         clear hrw hrf hla hlf lc hy hyf
         obtain ⟨wm,hwm⟩:∃ wm,wm=wl:=⟨_,rfl⟩
         subst hwm
         go_wp2_with fail
         refine wp_region_past_lit (by kernel_rfl) (by kernel_rfl) ?_
         have hcp:=Past.cell (W:=wm)
         repeat (go_big_quiet_step (first | (go_at_call 23;exact Past.call _ (HSR.out _ (Past.prop _)))))
         refine wpQuiet_nil ?_
         rintro _ ⟨x',rfl⟩
         have HPS:=hidE (HPS.out.past x'.2)
         clear hcp HSR g0 g1 g2 g3 g4 g5 g6 g7 r0 r1 r2 r3 r4 r5 r6 r7 rz lz hjI hj0 dneg dpos HX HBR HJL HAS hjl' n0 n1 nz fn0 fn1
         generalize x'.1=wn at *
         go_wp2
         go_roundg (ids.length - (k+1))
         case measure=>have:=HGK.out;have:=HK1.out;omega
         case rel=>exact ⟨k+1,by go_num,HK1.out,Nat.le_refl _,HPS.out⟩
       ·have n0:=HPS.out.blk.cell 0;have n1:=HPS.out.blk.cell 1;have nz:=HPS.out.blk.lt;have fn0:=HPS.out.blk.free 0;have fn1:=HPS.out.blk.free 1
        simp at n0 n1
        go_upto_region 25 with fail
        obtain ⟨W11,hW11⟩:∃ W11,W11=wr.setCell ⟨q,0,none⟩ (.slice none 0 0):=⟨_,rfl⟩
        have HPS:=hidE (show PS w W11 c q L [] none 0 0 ay my ky from ⟨by rw[hW11];exact pl_set1 HPS.out.pl HPS.out.blk HPS.out.ne,by rw[hW11];simpa using HPS.out.blk.set 0 (.slice none 0 0),by
         have hk:KeepI wr W11:=by rw[hW11];exact keepI_one HPS.out.blk
         obtain ⟨vc,vl,l,e,h1,h2,h3⟩:=(HPS.out.dq.keepI hk).has
         obtain ⟨_,e5⟩:vc = .slice ax mx kx∧vl = .slice ay my ky:=by
          have:=congrArg (fun v=>match v with | Value.agg cs=>cs.toList | _=>[]) e
          simp at this
          exact ⟨this.1.symm,this.2.symm⟩
         subst e5
         exact ⟨_,_,l,rfl,sliS_nil _,h2,h3⟩,by rw[hW11];have h2:=HPS.out.qz;exact Below.setCell HPS.out.bel (show w.heap.size≤q from h2) _,HPS.out.pz,HPS.out.qz,HPS.out.ne⟩)
        rw[←hW11]
        clear hW11 n0 n1 nz fn0 fn1
        have n0:=HPS.out.blk.cell 0;have n1:=HPS.out.blk.cell 1;have nz:=HPS.out.blk.lt;have fn0:=HPS.out.blk.free 0;have fn1:=HPS.out.blk.free 1
        simp at n0 n1
        go_wp2_with fail
        ((with_reducible refine (same11_t _ HPS.out.pl HPS.out.dq (by simp)).mono ?_);rintro e ws ⟨rfl,hbs⟩)
        have HPS:=hidE (HPS.out.past hbs)
        clear hbs n0 n1 nz fn0 fn1
        go_wp2_with fail
        ((with_reducible refine (HH.out _).mono ?_);rintro e wh ⟨rfl,hbh⟩)
        go_wp2
        go_ret
        exact ⟨rfl,bstep hbh HPS.out.bel⟩
  ·clear HF2 HFW
   go_wp2_with fail
   ((with_reducible refine (HH.out _).mono ?_);rintro e wh ⟨rfl,hbh⟩)
   go_wp2
   go_ret
   exact ⟨rfl,bstep hbh HB2.out⟩
 ·clear HF1
  go_wp2_with fail
  ((with_reducible refine (HH.out _).mono ?_);rintro e wh ⟨rfl,hbh⟩)
  go_wp2
  go_ret
  exact ⟨rfl,bstep hbh HB1.out⟩
end
section
open Go.ChangeShapes Go.WideShapes Go.ChangeAt Go.RowKit
set_option maxRecDepth 100000 in
theorem planGets_lifted (os:Os) (started:os.Started) (H:Type) (enc:TypeId × Value→H) :
  ReturnsInHanded {} Tryz.checked os 4 .any (Rows.planGetsSpec.pre6 enc Tryz.prog Tryz.f4 Rows.planGetsRow.domain false) (Rows.planGetsSpec.post enc Tryz.prog Tryz.f4 false true false false):=by
 refine returnsInHanded_of_change_sized (C:=Tryz.checked) own started (by kernel_rfl) Tryz.func4
  (ChangeSpec.witness6 (enc:=enc) (C:=Tryz.checked) false ⟨#[],#[.slice none 0 0,.slice none 0 0,.slice none 0 0],[]⟩ 8 (by kernel_rfl) (by kernel_rfl) (by kernel_rfl) (by kernel_rfl)) ?_
 intro W base args ds gs before hval0 hW _ hsz _
 have hval:∀ (j:Nat) t v,Tryz.f4.params[j]? = some t→args[j]? = some v→Value.okWide Tryz.prog W .any base t v:=hval0
 have hW':=hW
 obtain ⟨p,q,hA0,hV,rfl,hfz,hnd⟩:=hW
 have hA:DataW.TrodAll enc Tryz.prog W 0 (fun _=>true) true Tryz.f4.params.toList args.toList ds p:=hA0
 rw[Tryz.params4] at hA hval hsz
 obtain ⟨v0,vs0,d0,ds0,p0,q0,hargs,rfl,rfl,h0,r0⟩:=trodAll_cons hA
 obtain ⟨v1,vs1,d1,ds1,p1,q1,rfl,rfl,rfl,h1,r1⟩:=trodAll_cons r0
 obtain ⟨v2,vs2,d2,ds2,p2,q2,rfl,rfl,rfl,h2,r2⟩:=trodAll_cons r1
 obtain ⟨rfl,rfl,rfl⟩:=trodAll_nil r2
 obtain rfl:args=#[v0,v1,v2]:=by cases args;simp_all
 obtain ⟨o0,n0,l0,c0,rfl,SC0⟩:=open_chssP (j:=0) hsz rfl rfl (hval 0 23 v0 rfl rfl) h0
 obtain ⟨o1,n1,F1,rfl,SF1⟩:=open_u32sP (hval 1 42 v1 rfl rfl) h1
 obtain ⟨o2,n2,l2,c2,rfl,SH2,SF2,SN2⟩:=open_chsP (j:=2) hsz rfl rfl (hval 2 37 v2 rfl rfl) h2
 clear hA0 hval0
 refine (plangets_walk W SC0 SF1 SH2 SF2 SN2).mono fun e W' ⟨he,hb⟩ => ?_
 subst he
 exact ⟨_,rfl,law_post laidOut (readOk_spec (by kernel_rfl)) rfl Tryz.underlying4 rfl ⟨rfl,rfl,rfl⟩ hW' hb⟩
theorem planGets_holds:Rows.PlanGetsSaid :=
 OpenClaim.holds_of_wide 4 Tryz.f4 rfl rfl rfl rfl rfl rfl rfl ⟨rfl,rfl,rfl,rfl,rfl⟩ rfl rfl rfl rfl rfl (by kernel_rfl) Tryz.func4 (by kernel_rfl)
  (of_decide_eq_true (by kernel_rfl)) (by unfold Func.isWrapper;first | (rw[if_pos (by decide +kernel)];kernel_rfl) | (rw[if_neg (by decide +kernel)];exact ⟨rfl,rfl⟩))
  (fun os started H enc _=>planGets_lifted os started H enc)
end
end Go.Proofs.YtcmponckjkalaaaGreat
