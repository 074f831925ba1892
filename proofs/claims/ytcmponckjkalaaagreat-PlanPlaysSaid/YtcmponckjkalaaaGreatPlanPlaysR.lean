/- PlanPlays: a plan has what the document says, whatever changes and capacities. Conditions: that the slices read as functions and changes. PlanPlays: for every capacity, every row of rows of changes, and every row of capacities, the statement's function answers true and leaves its arguments alone. No conditions. -/
import Derived.Test.YtcmponckjkalaaaGreatPUGd
import Derived.Test.YtcmponckjkalaaaGreatPUGU
namespace Go.Proofs.YtcmponckjkalaaaGreat
section
open Go.ChangeShapes Go.WideShapes Go.ChangeAt Go.RowKit
attribute [local irreducible] Go.Calls
set_option maxRecDepth 100000 in
set_option maxHeartbeats 32000000 in
theorem planplays_walk {af al aG:Option Addr} {cf cl cG:Nat} {F:List Sg} {ls:List (List Cw)} {css:List (List (Int × Rv))} {Gs:List (List Sg)} (w:World) (hF:SliF3 w (.slice af F.length cf) F) (hS:SliSC w (.slice al ls.length cl) ls css) (hGs:SliFs w (.slice aG Gs.length cG) Gs) :
  Calls Tryz.prog 3 #[.slice af F.length cf,.slice al ls.length cl,.slice aG Gs.length cG] w fun e w'=>e = .returned (.bool true)∧Below w.heap.size w w':=by
 have HF:=hidE hF;have HS:=hidE hS;have HGS:=hidE hGs
 have HH:=hidE (fun w=>plhead_c w)
 obtain ⟨_,_,e0,hgs⟩:=hGs
 cases e0
 have HGA:=hidE hgs
 clear hF hS hgs HGS
 go_enter Tryz.func3,Tryz.ntmps3
 go_wp2_with fail
 ((with_reducible refine (great_c _ HS.out).mono ?_);rintro e w1 ⟨b1,rfl,hb1,hf1⟩)
 have HB1:=hidE hb1;have HF1:=hidE hf1
 clear hb1 hf1
 cases b1
 ·have HFW:=hidE (HF1.out rfl)
  clear HF1
  by_cases h40:40<Gs.length
  ·have d1:decide ((40:Int)<(Gs.length:Int))=true:=decide_eq_true (by omega)
   have d1':decide (40<Gs.length)=true:=decide_eq_true h40
   clear h40
   go_wp2_with fail
   ((with_reducible refine (HH.out _).mono ?_);rintro e wh ⟨rfl,hbh⟩)
   go_wp2
   go_ret
   exact ⟨rfl,bstep hbh HB1.out⟩
  ·have d1:decide ((40:Int)<(Gs.length:Int))=false:=decide_eq_false (by omega)
   have d1':decide (40<Gs.length)=false:=decide_eq_false h40
   have HG40:=hidE (show Gs.length≤40 by omega)
   clear h40
   by_cases h30:30<F.length
   ·have d2:decide ((30:Int)<(F.length:Int))=true:=decide_eq_true (by omega)
    have d2':decide (30<F.length)=true:=decide_eq_true h30
    clear h30
    go_wp2_with fail
    ((with_reducible refine (HH.out _).mono ?_);rintro e wh ⟨rfl,hbh⟩)
    go_wp2
    go_ret
    exact ⟨rfl,bstep hbh HB1.out⟩
   ·have d2:decide ((30:Int)<(F.length:Int))=false:=decide_eq_false (by omega)
    have d2':decide (30<F.length)=false:=decide_eq_false h30
    have HF30:=hidE (show F.length≤30 by omega)
    clear h30
    go_wp2_with fail
    (with_reducible refine (new_f _ (HF.out.past HB1.out) (by have:=HF30.out;omega)).mono ?_)
    rintro e w3 ⟨hb3,h3⟩
    have HB3:=hidE (bstep hb3 HB1.out)
    rcases h3 with ⟨hpb,rfl⟩ | ⟨hpb,p,rfl,hP3,hp3⟩
    ·have HN:=hidE (fun w' (hb:Below w.heap.size w w')=>new11_c w' (HF.out.1.past hb) (by have:=HF30.out;omega))
     have HPB:=hidE hpb
     clear hpb hb3
     go_wp2_with fail
     ((with_reducible refine (HN.out _ HB3.out).mono ?_);rintro e w4 ⟨hb4,h4⟩)
     have HB4:=hidE (bstep hb4 HB3.out)
     rcases h4 with ⟨_,rfl⟩ | ⟨h,_⟩
     ·clear hb4
      go_wp2_with fail
      ((with_reducible refine (HH.out _).mono ?_);rintro e wh ⟨rfl,hbh⟩)
      have hbX:Below w.heap.size w wh:=bstep hbh (show Below w.heap.size w (w4.alloc (Obj.cells #[.slice none 0 0,.slice none 0 0] 33)) from by have:=HB4.out;have hz:=this.size;(repeat (first | exact Below.refl _ _ | assumption | refine balloc ?_ _ | refine below_drewN ?_ _ | refine bstep (by assumption) ?_ | refine bstep (Past.prop _) ?_ | refine Below.setCell ?_ (by first | exact Nat.le_refl _ | (simp;done) | (simp;omega)) _)))
      go_wp2
      go_ret
      exact ⟨rfl,hbX⟩
     ·rw[HPB.out] at h;cases h
    ·have HN:=hidE (fun w' (hb:Below w.heap.size w w')=>new11_c w' (HF.out.1.past hb) (by have:=HF30.out;omega))
     have HPB:=hidE hpb
     have HP3:=hidE hP3
     have HPZ:=hidE (show w.heap.size≤p from Nat.le_trans HB1.out.size hp3)
     clear hpb hb3 hP3 hp3
     go_wp2_with fail
     ((with_reducible refine (HN.out _ HB3.out).mono ?_);rintro e w4 ⟨hb4,h4⟩)
     have HB4:=hidE (bstep hb4 HB3.out)
     have HP4:=hidE (HP3.out.past hb4)
     clear hb4
     rcases h4 with ⟨h,_⟩ | ⟨_,rfl⟩
     ·rw[HPB.out] at h;cases h
     ·go_upto_region 5 with fail
      obtain ⟨q,hq⟩:∃ q,q=w4.heap.size:=⟨_,rfl⟩
      obtain ⟨w5,hw5⟩:∃ w5,w5=w4.alloc (Obj.cells #[.slice af F.length cf,.slice none 0 0] 33):=⟨_,rfl⟩
      have hb5:Below w4.heap.size w4 w5:=by rw[hw5];(repeat (first | exact Below.refl _ _ | assumption | refine balloc ?_ _ | refine below_drewN ?_ _ | refine bstep (by assumption) ?_ | refine bstep (Past.prop _) ?_ | refine Below.setCell ?_ (by first | exact Nat.le_refl _ | (simp;done) | (simp;omega)) _))
      have hps:PS w w5 p q [] F af F.length cf none 0 0:=⟨HP4.out.past hb5,by rw[hw5,hq];exact Blk.made _ _ _,⟨_,_,[],rfl,HF.out.1.past (bstep hb5 HB4.out),sliRd_nil _,rwsF_nil _⟩,bstep hb5 HB4.out,HPZ.out,by rw[hq];exact HB4.out.size,by have:=HP4.out.lt;omega⟩
      have HPS:=hidE hps
      rw[←hw5]
      rw[←hq]
      clear hw5 hb5 hps hq HN HP3 HP4 HB3 HB4 HPB
      go_wp2
      go_loopg [11] ls.length (fun g v11 wr=>∃ (k:Nat) (L:List Rv) (C:List Sg) (ax ay:Option Addr) (mx kx my ky:Nat),v11 = .int .i64 k∧k≤ls.length∧ls.length - k≤g∧C.length≤30∧PS w wr p q L C ax mx kx ay my ky)
      case atStart=>exact ⟨0,[],F,_,_,_,_,_,_,rfl,Nat.zero_le _,Nat.le_refl _,HF30.out,HPS.out⟩
      case round =>
       clear HPS
       obtain ⟨k,L,C,ax,ay,mx,kx,my,ky,rfl,hk,hg,hc30,hps⟩:=hrel
       have HPS:=hidE hps;have HGK:=hidE hg;have HC30:=hidE hc30;have HPL:=hidE hps.pl.lt
       have hk40:k≤40:=by have:=HFW.out.1;omega
       have n0:=hps.blk.cell 0;have n1:=hps.blk.cell 1;have nz:=hps.blk.lt
       simp at n0 n1
       clear hps hg hc30
       by_cases hlt:k<ls.length
       ·obtain ⟨_,_,e0,_,_,_,hA⟩:=HS.out
        cases e0
        obtain ⟨bb,off,rfl,hbz,hc⟩:=hA (by omega)
        obtain ⟨vi,s0,hsl,hch,_⟩:=hc k hlt
        obtain ⟨ai,ci,rfl,_,_,_⟩:=id hsl
        have HSB:=hidE (And.intro s0 hbz)
        rw[←HPS.out.bel.cell (p:=⟨bb,_,none⟩) hbz] at s0
        have hbz':bb<wr.heap.size:=Nat.lt_of_lt_of_le hbz HPS.out.bel.size
        have HSL:=hidE hsl
        have HCH:=hidE (HFW.out.chs hlt hch)
        have HRW:=hidE (HFW.out.row hlt)
        have HK1:=hidE (show k+1≤ls.length from hlt)
        clear hA hc hsl hch hbz
        generalize ls.getD k []=LL at *
        generalize css.getD k []=CC at *
        have HDO:=hidE (fun (x:World) (hx:Below wr.heap.size wr x)=>do11_c x (HPS.out.dq.past hx) HPS.out.pl.good (HSL.out.past (bstep hx HPS.out.bel)) (HCH.out.past (bstep hx HPS.out.bel)) (by have:=HRW.out;omega))
        obtain ⟨⟨L2,er⟩,hdo⟩:∃ r,doP L CC=r:=⟨_,rfl⟩
        have HD:=hidE hdo
        rw[hdo] at HDO
        simp only at HDO
        have hkI:(k:Int)<(ls.length:Int):=by omega
        clear hdo
        go_upto_region 12 with fail
        refine wp_region_J 10 [8] (nthR [detR (.agg #[.slice ax mx kx,.slice ay my ky]),detR (.slice (some ⟨bb,off,none⟩) ls.length cl),detR (.int .i64 (k:Int)),detR (.pointer (some ⟨bb,off+k,none⟩)),detR (.slice ai LL.length ci),tpD L2 C er,tpD L2 C er,dqR L2 C,detR (.int .i64 er),newR wr.heap.size #[.slice none 0 0,.slice none 0 0] 33]) (fun _=>false) (by kernel_rfl) (by decide) (by kernel_rfl) (stab_nth (by intro r hr;simp only[List.mem_cons,List.not_mem_nil,or_false] at hr;rcases hr with rfl | rfl | rfl | rfl | rfl | rfl | rfl | rfl | rfl | rfl<;>first | exact stab_det _ | exact stab_tpD _ _ _ | exact stab_dqR _ _ | exact stab_new _ _ _)) ?_ ?_ ?_
        ·intro i o hi ho
         match i,hi with
         | 0, _ =>
          obtain rfl:=Option.some.inj ho
          intro u x hd
          have hc:=Past.cell x
          simp[go_sem,gives,frm,Act.put,nthR,detR,Region.wanted,Below.refl,hc,n0,n1,nz]
         | 1, _ =>
          obtain rfl:=Option.some.inj ho
          intro u x hd
          have hc:=Past.cell x
          simp[go_sem,gives,frm,Act.put,nthR,detR,Region.wanted,Below.refl]
         | 2, _ =>
          obtain rfl:=Option.some.inj ho
          intro u x hd
          have hc:=Past.cell x
          simp[go_sem,gives,frm,Act.put,nthR,detR,Region.wanted,Below.refl]
         | 3, _ =>
          obtain rfl:=Option.some.inj ho
          intro u x hd
          have hc:=Past.cell x
          have d1:=hd 1 (by decide) (by kernel_rfl)
          have d2:=hd 2 (by decide) (by kernel_rfl)
          simp only[nthR,detR,List.getD_cons_zero,List.getD_cons_succ] at d1 d2
          simp[go_sem,gives,frm,Act.put,nthR,detR,Region.wanted,Below.refl,d1,d2,hlt]
         | 4, _ =>
          obtain rfl:=Option.some.inj ho
          intro u x hd
          have hc:=Past.cell x
          have d3:=hd 3 (by decide) (by kernel_rfl)
          simp only[nthR,detR,List.getD_cons_zero,List.getD_cons_succ] at d3
          simp[go_sem,gives,frm,Act.put,nthR,detR,Region.wanted,Below.refl,hc,d3,s0,hbz']
         | 5, _ =>
          obtain rfl:=Option.some.inj ho
          intro u x hd
          have hc:=Past.cell x
          have d0:=hd 0 (by decide) (by kernel_rfl)
          have d4:=hd 4 (by decide) (by kernel_rfl)
          simp only[nthR,detR,List.getD_cons_zero,List.getD_cons_succ] at d0 d4
          simp[go_sem,gives,frm,Act.put,nthR,Region.wanted,d0,d4]
          (with_reducible refine (HDO.out _ (Past.prop x)).mono ?_);rintro e w3 ⟨v,rfl,h1,hb3⟩;exact ⟨_,rfl,hb3,⟨v,rfl,h1⟩⟩
         | 6, _ =>
          obtain rfl:=Option.some.inj ho
          intro u x hd
          have hc:=Past.cell x
          have h5:tpD L2 C er (u 5) x.1:=hd 5 (by decide) (by kernel_rfl)
          simp[go_sem,gives,frm,Act.put,nthR,Region.wanted,Below.refl]
          exact h5
         | 7, _ =>
          obtain rfl:=Option.some.inj ho
          intro u x hd
          have hc:=Past.cell x
          have h6:tpD L2 C er (u 6) x.1:=hd 6 (by decide) (by kernel_rfl)
          have e6:=h6.choose_spec.1;have hs6:=h6.choose_spec.2;generalize h6.choose=x6 at *
          simp[go_sem,gives,frm,Act.put,nthR,Region.wanted,Below.refl,e6]
          exact hs6
         | 8, _ =>
          obtain rfl:=Option.some.inj ho
          intro u x hd
          have hc:=Past.cell x
          have h6:tpD L2 C er (u 6) x.1:=hd 6 (by decide) (by kernel_rfl)
          have e6:=h6.choose_spec.1;have hs6:=h6.choose_spec.2;generalize h6.choose=x6 at *
          simp[go_sem,gives,frm,Act.put,nthR,Region.wanted,Below.refl,detR,e6]
         | 9, _ =>
          obtain rfl:=Option.some.inj ho
          intro u x hd
          have hc:=Past.cell x
          simp[go_sem,gives,nthR,Region.wanted]
          exact ⟨by (repeat (first | exact Below.refl _ _ | assumption | refine balloc ?_ _ | refine below_drewN ?_ _ | refine bstep (by assumption) ?_ | refine bstep (Past.prop _) ?_ | refine Below.setCell ?_ (by first | exact Nat.le_refl _ | (simp;done) | (simp;omega)) _)),⟨_,rfl,(Past.prop x).size,Blk.made _ _ _⟩⟩
         | i+10,h=>exact absurd h (by omega)
        ·intro i o hx ho
         simp only[List.mem_cons,List.not_mem_nil,or_false] at hx
         rcases hx with rfl
         ·obtain rfl:=Option.some.inj ho
          refine ⟨rfl,fun _ _ _ _ h=>h,fun u x hd => ?_⟩
          have h6:tpD L2 C er (u 6) x.1:=hd 6 (by decide) (by kernel_rfl)
          have e6:=h6.choose_spec.1;have hs6:=h6.choose_spec.2;generalize h6.choose=x6 at *
          refine ⟨rfl,.int .i64 er,rfl,fun w' => ?_⟩
          simp[go_sem,frm,Act.put,e6]
        ·intro u x9 hu hne
         obtain ⟨px,e9,hpx,B9⟩:newR wr.heap.size #[.slice none 0 0,.slice none 0 0] 33 (u 9) x9.1:=hu 9 (by decide)
         have hD7:DQ x9.1 (u 7) L2 C:=hu 7 (by decide)
         have e8:u 8 = .int .i64 er:=hu 8 (by decide)
         obtain ⟨bx,jx,zx,by',jy,zy,e7⟩:=hD7.sl
         rw[e7] at hD7
         simp only[frm,List.take,Act.put,e7,e8,e9]
         have hb9:=x9.2
         have HPS:=hidE (HPS.out.past hb9)
         have HBX:=hidE B9;have HDX:=hidE hD7
         have HPX:=hidE (show q<px from Nat.lt_of_lt_of_le nz hpx)
         have HPP:=hidE (show p≠px from by have:=HPL.out;omega)
         clear hu hne e7 e8 e9 hb9 hD7 B9 hpx n0 n1 nz s0 hbz' HDO
         generalize x9.1=W at *
         generalize u 5=z5 at *;generalize u 6=z6 at *
         have x0:=HBX.out.cell 0;have x1:=HBX.out.cell 1;have xz:=HBX.out.lt;have xf0:=HBX.out.free 0;have xf1:=HBX.out.free 1
         simp at x0 x1
         go_upto_region 13 with fail
         obtain ⟨W8,hW8⟩:∃ W8,W8=(W.setCell ⟨px,0,none⟩ (.slice bx jx zx)).setCell ⟨px,1,none⟩ (.slice by' jy zy):=⟨_,rfl⟩
         have hkI2:KeepI W W8:=by rw[hW8];exact keepI_set2 HBX.out
         have HPS:=hidE (show PS w W8 p q L C ax mx kx ay my ky from ⟨by rw[hW8];exact pl_set2 HPS.out.pl HBX.out HPP.out,by rw[hW8];have:=HPX.out;exact (HPS.out.blk.other (by omega) _).other (by omega) _,HPS.out.dq.keepI hkI2,by rw[hW8];have h1:=HPX.out;have h2:=HPS.out.qz;exact Below.setCell (Below.setCell HPS.out.bel (show w.heap.size≤px by omega) _) (show w.heap.size≤px by omega) _,HPS.out.pz,HPS.out.qz,HPS.out.ne⟩)
         have HBX:=hidE (show Blk W8 px #[.slice bx jx zx,.slice by' jy zy] 33 by rw[hW8];simpa using (HBX.out.set 0 (.slice bx jx zx)).set 1 (.slice by' jy zy))
         have HDX:=hidE (HDX.out.keepI hkI2)
         rw[←hW8]
         clear hW8 hkI2 x0 x1 xz xf0 xf1
         have s0:=(HPS.out.bel.cell (p:=⟨bb,_,none⟩) HSB.out.2).trans HSB.out.1;have sz:=Nat.lt_of_lt_of_le HSB.out.2 HPS.out.bel.size
         go_wp2_with fail
         ((with_reducible refine (do_f _ HPS.out.pl (HSL.out.past HPS.out.bel) (HCH.out.past HPS.out.bel) (by have:=HRW.out;omega) HD.out).mono ?_);rintro e w9 ⟨rfl,hg9,hP9,_⟩)
         obtain ⟨hP9,hB9,hk9,hb9⟩:=HPS.out.wrote hg9 hP9
         have HP9:=hidE hP9;have HB9:=hidE hB9;have HBe:=hidE hb9
         have HBX:=hidE (HBX.out.grown hg9 (fun e=>HPP.out (Option.some.inj e).symm))
         have HDX:=hidE (HDX.out.keepI hk9)
         have HPZ':=hidE HPS.out.pz;have HQZ':=hidE HPS.out.qz;have HNE':=hidE HPS.out.ne
         clear hg9 hP9 hB9 hk9 hb9 s0 sz HPS
         have n0:=HB9.out.cell 0;have n1:=HB9.out.cell 1;have nz:=HB9.out.lt;have fn0:=HB9.out.free 0;have fn1:=HB9.out.free 1
         have x0:=HBX.out.cell 0;have x1:=HBX.out.cell 1;have xz:=HBX.out.lt
         simp at n0 n1 x0 x1
         have n3:(er != er)=false:=bne_self_eq_false er
         have n4:(er == er)=true:=beq_self_eq_true er
         go_upto_region 16 with fail
         obtain ⟨W10,hW10⟩:∃ W10,W10=(w9.setCell ⟨q,0,none⟩ (.slice bx jx zx)).setCell ⟨q,1,none⟩ (.slice by' jy zy):=⟨_,rfl⟩
         have HPS:=hidE (show PS w W10 p q L2 C bx jx zx by' jy zy from ⟨by rw[hW10];exact pl_set2 HP9.out HB9.out HNE'.out,by rw[hW10];simpa using (HB9.out.set 0 (.slice bx jx zx)).set 1 (.slice by' jy zy),HDX.out.keepI (by rw[hW10];exact keepI_set2 HB9.out),by rw[hW10];have h2:=HQZ'.out;exact Below.setCell (Below.setCell HBe.out (show w.heap.size≤q from h2) _) (show w.heap.size≤q from h2) _,HPZ'.out,HQZ'.out,HNE'.out⟩)
         rw[←hW10]
         clear hW10 n0 n1 nz fn0 fn1 x0 x1 xz HP9 HB9 HBe HBX HDX HPX HPP HPZ' HQZ' HNE' HPL n3 n4 HD HSL HCH HRW HSB
         have n0:=HPS.out.blk.cell 0;have n1:=HPS.out.blk.cell 1;have nz:=HPS.out.blk.lt;have fn0:=HPS.out.blk.free 0;have fn1:=HPS.out.blk.free 1
         simp at n0 n1
         by_cases hcl:k<Gs.length
         ·have hclI:(k:Int)<(Gs.length:Int):=by omega
          obtain ⟨gb,go,rfl,gz,gc⟩:=HGA.out (by omega)
          obtain ⟨vg,g0,hgf⟩:=gc k hcl
          obtain ⟨⟨ag,cg,rfl,_⟩,_⟩:=id hgf
          have HGW:=hidE (And.intro g0 gz)
          rw[←HPS.out.bel.cell (p:=⟨gb,_,none⟩) gz] at g0
          have gz':gb<W10.heap.size:=Nat.lt_of_lt_of_le gz HPS.out.bel.size
          have HGF:=hidE hgf
          have HG0:=hidE (And.intro g0 gz')
          clear gc hgf gz
          generalize Gs.getD k []=G at *
          by_cases hg30:G.length≤30
          ·have d5:decide ((G.length:Int)≤30)=true:=decide_eq_true (by omega)
           have d5':decide (G.length≤30)=true:=decide_eq_true hg30
           have HG30':=hidE hg30
           have HN:=hidE (fun w' (hb:Below w.heap.size w w')=>new11_c w' (HGF.out.1.past hb) (by have:=HG30'.out;omega))
           go_wp2_with fail
           ((with_reducible refine (HN.out _ HPS.out.bel).mono ?_);rintro e w4 ⟨hb4,h4⟩)
           have HPS:=hidE (HPS.out.past hb4)
           have HG0:=hidE (show w4.cell? ⟨gb,go+k,none⟩=some (.slice ag G.length cg)∧gb<w4.heap.size from ⟨(hb4.cell (p:=⟨gb,_,none⟩) HG0.out.2).trans HG0.out.1,Nat.lt_of_lt_of_le HG0.out.2 hb4.size⟩)
           clear hb4 g0 gz'
           clear n0 n1 nz fn0 fn1
           rcases h4 with ⟨hpb,rfl⟩ | ⟨hpb,rfl⟩
           ·have HPB:=hidE hpb
            clear hpb
            go_upto_region 18 with fail
            obtain ⟨w5,hw5⟩:∃ w5,w5=w4.alloc (Obj.cells #[.slice none 0 0,.slice none 0 0] 33):=⟨_,rfl⟩
            have hb5:Below w4.heap.size w4 w5:=by rw[hw5];(repeat (first | exact Below.refl _ _ | assumption | refine balloc ?_ _ | refine below_drewN ?_ _ | refine bstep (by assumption) ?_ | refine bstep (Past.prop _) ?_ | refine Below.setCell ?_ (by first | exact Nat.le_refl _ | (simp;done) | (simp;omega)) _))
            have HPS:=hidE (HPS.out.past hb5)
            have g0:=(hb5.cell (p:=⟨gb,go+k,none⟩) HG0.out.2).trans HG0.out.1
            have gz':=Nat.lt_of_lt_of_le HG0.out.2 hb5.size
            rw[←hw5]
            clear hw5 hb5
            have n0:=HPS.out.blk.cell 0;have n1:=HPS.out.blk.cell 1;have nz:=HPS.out.blk.lt;have fn0:=HPS.out.blk.free 0;have fn1:=HPS.out.blk.free 1
            simp at n0 n1
            go_wp2_with fail
            ((with_reducible refine (setcap_f _ HPS.out.pl (HGF.out.past HPS.out.bel) (by have:=HG30'.out;omega)).mono ?_);rintro e w9 ⟨hg9,h9⟩)
            rcases h9 with ⟨_,rfl,hP9⟩ | ⟨h,_⟩
            ·obtain ⟨hP9,hB9,hk9,hb9⟩:=HPS.out.wrote hg9 hP9
             have HPS:=hidE (show PS w w9 p q L2 C bx jx zx by' jy zy from ⟨hP9,hB9,HPS.out.dq.keepI hk9,hb9,HPS.out.pz,HPS.out.qz,HPS.out.ne⟩)
             clear hP9 hB9 hk9 hb9 hg9 g0 gz' HG0 HGF HN HPB n0 n1 nz fn0 fn1
             have n0:=HPS.out.blk.cell 0;have n1:=HPS.out.blk.cell 1;have nz:=HPS.out.blk.lt;have fn0:=HPS.out.blk.free 0;have fn1:=HPS.out.blk.free 1
             simp at n0 n1
             go_wp2_with fail
             ((with_reducible refine (same11_t _ HPS.out.pl HPS.out.dq (by have:=HC30.out;omega)).mono ?_);rintro e ws ⟨rfl,hbs⟩)
             have HPS:=hidE (HPS.out.past hbs)
             clear hbs
             clear n0 n1 nz fn0 fn1
             go_wp2
             go_roundg (ls.length - (k+1))
             case measure=>have:=HGK.out;have:=HK1.out;omega
             case rel=>exact ⟨k+1,_,_,_,_,_,_,_,_,by go_num,HK1.out,Nat.le_refl _,HC30.out,HPS.out⟩
            ·rw[HPB.out] at h;cases h
           ·have HPB:=hidE hpb
            clear hpb
            go_upto_region 18 with fail
            obtain ⟨w5,hw5⟩:∃ w5,w5=w4.alloc (Obj.cells #[.slice ag G.length cg,.slice none 0 0] 33):=⟨_,rfl⟩
            have hb5:Below w4.heap.size w4 w5:=by rw[hw5];(repeat (first | exact Below.refl _ _ | assumption | refine balloc ?_ _ | refine below_drewN ?_ _ | refine bstep (by assumption) ?_ | refine bstep (Past.prop _) ?_ | refine Below.setCell ?_ (by first | exact Nat.le_refl _ | (simp;done) | (simp;omega)) _))
            have HPS:=hidE (HPS.out.past hb5)
            have g0:=(hb5.cell (p:=⟨gb,go+k,none⟩) HG0.out.2).trans HG0.out.1
            have gz':=Nat.lt_of_lt_of_le HG0.out.2 hb5.size
            rw[←hw5]
            clear hw5 hb5
            have n0:=HPS.out.blk.cell 0;have n1:=HPS.out.blk.cell 1;have nz:=HPS.out.blk.lt;have fn0:=HPS.out.blk.free 0;have fn1:=HPS.out.blk.free 1
            simp at n0 n1
            go_wp2_with fail
            ((with_reducible refine (setcap_f _ HPS.out.pl (HGF.out.past HPS.out.bel) (by have:=HG30'.out;omega)).mono ?_);rintro e w9 ⟨hg9,h9⟩)
            rcases h9 with ⟨h,_⟩ | ⟨_,rfl,hP9⟩
            ·rw[HPB.out] at h;cases h
            ·obtain ⟨hP9,hB9,hk9,hb9⟩:=HPS.out.wrote hg9 hP9
             have HP9:=hidE hP9;have HB9:=hidE hB9;have HBe:=hidE hb9;have HDX:=hidE (HPS.out.dq.keepI hk9)
             have HPZ':=hidE HPS.out.pz;have HQZ':=hidE HPS.out.qz;have HNE':=hidE HPS.out.ne
             have hgc:=(hb9.cell (p:=⟨gb,go+k,none⟩) HGW.out.2).trans HGW.out.1
             have hgz:=Nat.lt_of_lt_of_le HGW.out.2 hb9.size
             clear hP9 hB9 hk9 hb9 hg9 g0 gz' HN HPB HPS n0 n1 nz fn0 fn1
             have n0:=HB9.out.cell 0;have n1:=HB9.out.cell 1;have nz:=HB9.out.lt;have fn0:=HB9.out.free 0;have fn1:=HB9.out.free 1
             simp at n0 n1
             go_upto_region 22 with fail
             obtain ⟨W11,hW11⟩:∃ W11,W11=w9.setCell ⟨q,0,none⟩ (.slice ag G.length cg):=⟨_,rfl⟩
             have HPS:=hidE (show PS w W11 p q L2 G ag G.length cg by' jy zy from ⟨by rw[hW11];exact pl_set1 HP9.out HB9.out HNE'.out,by rw[hW11];simpa using HB9.out.set 0 (.slice ag G.length cg),by
              have hk:KeepI w9 W11:=by rw[hW11];exact keepI_one HB9.out
              have hbel:Below w.heap.size w W11:=by rw[hW11];have h2:=HQZ'.out;exact Below.setCell HBe.out (show w.heap.size≤q from h2) _
              obtain ⟨vc,vl,l,e,h1,h2,h3⟩:=(HDX.out.keepI hk).has
              obtain ⟨_,e5⟩:vc = .slice bx jx zx∧vl = .slice by' jy zy:=by
               have:=congrArg (fun v=>match v with | Value.agg cs=>cs.toList | _=>[]) e
               simp at this
               exact ⟨this.1.symm,this.2.symm⟩
              subst e5
              exact ⟨_,_,l,rfl,HGF.out.1.past hbel,h2,h3⟩,by rw[hW11];have h2:=HQZ'.out;exact Below.setCell HBe.out (show w.heap.size≤q from h2) _,HPZ'.out,HQZ'.out,HNE'.out⟩)
             rw[←hW11]
             have HC30:=hidE HG30'.out
             clear hW11 n0 n1 nz fn0 fn1 hgc hgz HP9 HB9 HBe HDX HPZ' HQZ' HNE'
             have n0:=HPS.out.blk.cell 0;have n1:=HPS.out.blk.cell 1;have nz:=HPS.out.blk.lt;have fn0:=HPS.out.blk.free 0;have fn1:=HPS.out.blk.free 1
             simp at n0 n1
             go_wp2_with fail
             ((with_reducible refine (same11_t _ HPS.out.pl HPS.out.dq (by have:=HC30.out;omega)).mono ?_);rintro e ws ⟨rfl,hbs⟩)
             have HPS:=hidE (HPS.out.past hbs)
             clear hbs
             clear n0 n1 nz fn0 fn1
             go_wp2
             go_roundg (ls.length - (k+1))
             case measure=>have:=HGK.out;have:=HK1.out;omega
             case rel=>exact ⟨k+1,_,_,_,_,_,_,_,_,by go_num,HK1.out,Nat.le_refl _,HC30.out,HPS.out⟩
          ·have d5:decide ((G.length:Int)≤30)=false:=decide_eq_false (by omega)
           have d5':decide (G.length≤30)=false:=decide_eq_false hg30
           go_wp2_with fail
           ((with_reducible refine (same11_t _ HPS.out.pl HPS.out.dq (by have:=HC30.out;omega)).mono ?_);rintro e ws ⟨rfl,hbs⟩)
           have HPS:=hidE (HPS.out.past hbs)
           clear hbs
           clear n0 n1 nz fn0 fn1
           go_wp2
           go_roundg (ls.length - (k+1))
           case measure=>have:=HGK.out;have:=HK1.out;omega
           case rel=>exact ⟨k+1,_,_,_,_,_,_,_,_,by go_num,HK1.out,Nat.le_refl _,HC30.out,HPS.out⟩
         ·have hclI:¬ (k:Int)<(Gs.length:Int):=by omega
          go_wp2_with fail
          ((with_reducible refine (same11_t _ HPS.out.pl HPS.out.dq (by have:=HC30.out;omega)).mono ?_);rintro e ws ⟨rfl,hbs⟩)
          have HPS:=hidE (HPS.out.past hbs)
          clear hbs
          clear n0 n1 nz fn0 fn1
          go_wp2
          go_roundg (ls.length - (k+1))
          case measure=>have:=HGK.out;have:=HK1.out;omega
          case rel=>exact ⟨k+1,_,_,_,_,_,_,_,_,by go_num,HK1.out,Nat.le_refl _,HC30.out,HPS.out⟩
       ·go_wp2_with fail
        ((with_reducible refine (HH.out _).mono ?_);rintro e wh ⟨rfl,hbh⟩)
        go_wp2
        go_ret
        exact ⟨rfl,bstep hbh HPS.out.bel⟩
 ·clear HF1
  go_wp2_with fail
  ((with_reducible refine (HH.out _).mono ?_);rintro e wh ⟨rfl,hbh⟩)
  go_wp2
  go_ret
  exact ⟨rfl,bstep hbh HB1.out⟩
end
section
open Go.ChangeShapes Go.WideShapes Go.ChangeAt Go.RowKit
set_option maxRecDepth 100000 in
theorem planPlays_lifted (os:Os) (started:os.Started) (H:Type) (enc:TypeId × Value→H) :
  ReturnsInHanded {} Tryz.checked os 3 .any (Rows.planPlaysSpec.pre6 enc Tryz.prog Tryz.f3 Rows.planPlaysRow.domain false) (Rows.planPlaysSpec.post enc Tryz.prog Tryz.f3 false true false false):=by
 refine returnsInHanded_of_change_sized (C:=Tryz.checked) own started (by kernel_rfl) Tryz.func3
  (ChangeSpec.witness6 (enc:=enc) (C:=Tryz.checked) false ⟨#[],#[.slice none 0 0,.slice none 0 0,.slice none 0 0],[]⟩ 8 (by kernel_rfl) (by kernel_rfl) (by kernel_rfl) (by kernel_rfl)) ?_
 intro W base args ds gs before hval0 hW _ hsz _
 have hval:∀ (j:Nat) t v,Tryz.f3.params[j]? = some t→args[j]? = some v→Value.okWide Tryz.prog W .any base t v:=hval0
 have hW':=hW
 obtain ⟨p,q,hA0,hV,rfl,hfz,hnd⟩:=hW
 have hA:DataW.TrodAll enc Tryz.prog W 0 (fun _=>true) true Tryz.f3.params.toList args.toList ds p:=hA0
 rw[Tryz.params3] at hA hval hsz
 obtain ⟨v0,vs0,d0,ds0,p0,q0,hargs,rfl,rfl,h0,r0⟩:=trodAll_cons hA
 obtain ⟨v1,vs1,d1,ds1,p1,q1,rfl,rfl,rfl,h1,r1⟩:=trodAll_cons r0
 obtain ⟨v2,vs2,d2,ds2,p2,q2,rfl,rfl,rfl,h2,r2⟩:=trodAll_cons r1
 obtain ⟨rfl,rfl,rfl⟩:=trodAll_nil r2
 obtain rfl:args=#[v0,v1,v2]:=by cases args;simp_all
 obtain ⟨o0,n0,F0,rfl,SF0⟩:=open_f3P (hval 0 22 v0 rfl rfl) h0
 obtain ⟨o1,n1,l1,c1,rfl,SC1⟩:=open_chssP (j:=1) hsz rfl rfl (hval 1 23 v1 rfl rfl) h1
 obtain ⟨o2,n2,F2,rfl,SF2⟩:=open_f3sP (hval 2 24 v2 rfl rfl) h2
 clear hA0 hval0
 refine (planplays_walk W SF0 SC1 SF2).mono fun e W' ⟨he,hb⟩ => ?_
 subst he
 exact ⟨_,rfl,law_post laidOut (readOk_spec (by kernel_rfl)) rfl Tryz.underlying4 rfl ⟨rfl,rfl,rfl⟩ hW' hb⟩
theorem planPlays_holds:Rows.PlanPlaysSaid :=
 OpenClaim.holds_of_wide 3 Tryz.f3 rfl rfl rfl rfl rfl rfl rfl ⟨rfl,rfl,rfl,rfl,rfl⟩ rfl rfl rfl rfl rfl (by kernel_rfl) Tryz.func3 (by kernel_rfl)
  (of_decide_eq_true (by kernel_rfl)) (by unfold Func.isWrapper;first | (rw[if_pos (by decide +kernel)];kernel_rfl) | (rw[if_neg (by decide +kernel)];exact ⟨rfl,rfl⟩))
  (fun os started H enc _=>planPlays_lifted os started H enc)
end
end Go.Proofs.YtcmponckjkalaaaGreat
