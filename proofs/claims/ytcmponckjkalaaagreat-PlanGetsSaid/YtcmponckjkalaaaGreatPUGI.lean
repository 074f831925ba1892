/- The contract of the document's own function of two functions. No conditions but the lists' sizes. The contract of the document's own sum of a row of functions. No conditions but the lists' sizes. A region that draws its order and has one operation that all before it must precede, and all behind it must follow: that one may write. No conditions. The contract of rle.May. No .. -/
import Derived.Test.YtcmponckjkalaaaGreatPUGG
import Derived.Test.YtcmponckjkalaaaGreatPUGH
import Derived.Test.YtcmponckjkalaaaGreatPUMB
import Derived.Test.YtcmponckjkalaaaGreatPUGA
import Derived.LoopTactic
import Derived.Deep.LoopGhost
import Derived.Test.YtcmponckjkalaaaGreatPUGD
import Derived.Test.YtcmponckjkalaaaGreatPUMA
import Derived.Test.YtcmponckjkalaaaGreatPUGE
namespace Go.Proofs.YtcmponckjkalaaaGreat
section
open Go.ChangeShapes Go.WideShapes Go.ChangeAt Go.RowKit
attribute [local irreducible] Go.Calls
theorem rdo_form {k:Int} {F G:List Sg} {a a':Option Addr} {cap cap':Nat} {w:World} (hl:F.length+G.length≤1000000000) (hA:ArgS w a F) (hA':ArgS w a' G) (h:(mayB F && mayB G)=false) :
  Calls Tryz.prog 130 #[.int .i64 k,.slice a F.length cap,.slice a' G.length cap'] w (OfIs w (doS k F G).1 (doS k F G).2):=by
 rw[doS_form h]
 have HA:=hidE hA;have HA':=hidE hA';clear hA hA'
 have HV:=hidE (fun w hA=>rmayf_c F a cap w (by omega) hA)
 have HV':=hidE (fun w hA=>rmayf_c G a' cap' w (by omega) hA)
 cases h1:mayB F
 ·rw[h1] at HV
  clear h HV'
  go_enter Tryz.func130,Tryz.ntmps130
  go_wp2_with fail
  ((with_reducible refine (HV.out _ HA.out).mono ?_);rintro e w1 ⟨rfl,hb1⟩)
  go_wp2
  go_ret2
  exact ⟨_,rfl,sliS_nil _,hb1⟩
 ·have h2:mayB G=false:=by rw[h1] at h;simpa using h
  rw[h1] at HV;rw[h2] at HV'
  clear h
  go_enter Tryz.func130,Tryz.ntmps130
  go_wp2_with fail
  ((with_reducible refine (HV.out _ HA.out).mono ?_);rintro e w1 ⟨rfl,hb1⟩)
  have HB1:=hidE hb1;clear hb1
  go_wp2_with fail
  ((with_reducible refine (HV'.out _ (HA'.out.past HB1.out)).mono ?_);rintro e w2 ⟨rfl,hb2⟩)
  go_wp2
  go_ret2
  exact ⟨_,rfl,sliS_nil _,bstep hb2 HB1.out⟩
set_option maxRecDepth 100000 in
set_option maxHeartbeats 4000000 in
theorem rdo_c (k:Int) (F G:List Sg) (a a':Option Addr) (cap cap':Nat) (w:World) (hl:F.length+G.length≤1000000000) (hA:ArgS w a F) (hA':ArgS w a' G) :
  Calls Tryz.prog 130 #[.int .i64 k,.slice a F.length cap,.slice a' G.length cap'] w (OfIs w (doS k F G).1 (doS k F G).2):=by
 cases h:(mayB F && mayB G)
 ·exact rdo_form hl hA hA' h
 obtain ⟨h1,h2⟩:mayB F=true∧mayB G=true:=by simpa using h
 have HGOOD:=hidE (fun hi=>doS_ok (k:=k) h1 h2 hi)
 have HBAD:=hidE (fun i hi hb=>doS_bad (k:=k) (i:=i) h1 h2 hi hb)
 have HTL:=hidE (twoT_len F G)
 have HA:=hidE hA;have HA':=hidE hA';clear hA hA' h
 have HV:=hidE (fun w hA=>rmayf_c F a cap w (by omega) hA)
 have HV':=hidE (fun w hA=>rmayf_c G a' cap' w (by omega) hA)
 rw[h1] at HV;rw[h2] at HV'
 clear h1 h2
 change Hid ((∀ i,i<(twoT F G).length→(opT k F G ((twoT F G).getD i 0)).2.2=0)→doS k F G=(buildL (opW k F G) (twoT F G),0)) at HGOOD
 generalize doS k F G=D at *
 go_enter Tryz.func130,Tryz.ntmps130
 go_wp2_with fail
 ((with_reducible refine (HV.out _ HA.out).mono ?_);rintro e w1 ⟨rfl,hb1⟩)
 have HB1:=hidE hb1;clear hb1
 go_wp2_with fail
 ((with_reducible refine (HV'.out _ (HA'.out.past HB1.out)).mono ?_);rintro e w2 ⟨rfl,hb2⟩)
 have HB2:=hidE (bstep hb2 HB1.out);clear hb2 HV HV' HB1
 go_wp2_with fail
 ((with_reducible refine (rtwo_c F G a a' cap cap' _ hl (HA.out.past HB2.out) (HA'.out.past HB2.out)).mono ?_);rintro e w3 ⟨v3,rfl,hs3,hb3⟩)
 obtain ⟨a3,c3,rfl,_,_,hA3⟩:=hs3
 have HB3:=hidE (bstep hb3 HB2.out);have HA3:=hidE hA3
 clear hb3 hA3 HB2
 generalize twoT F G=ts at *
 go_wp2_with fail
 go_loopg [9,10,11,12] ts.length (fun gh vf vi _ _ wr=>∃ (n:Nat) (v:Value),v=vf∧vi = .int .i64 n∧n≤ts.length∧ts.length - n≤gh∧(∀ i,i<n→(opT k F G (ts.getD i 0)).2.2=0)∧Below w3.heap.size w3 wr∧wr.ownsRow w3.heap.size 100 3 v (buildL (opW k F G) (ts.take n)).length (cellsOfS (buildL (opW k F G) (ts.take n))))
 case atStart=>exact ⟨0,.slice none 0 0,rfl,rfl,by omega,by omega,fun i hi=>by omega,Below.refl _ _,⟨rfl,.inl ⟨rfl,rfl⟩⟩⟩
 case round =>
  obtain ⟨n,v,rfl,rfl,hn,hg,hs,hbr,ho⟩:=hrel
  have HS:=hidE hs;have HBR:=hidE hbr;have HO:=hidE ho
  clear hs ho
  by_cases hlt:n<ts.length
  ·obtain ⟨b,off,rfl,hb,hc⟩:=(HA3.out.past hbr) (by omega)
   have d0:=hc n hlt
   have HST:=hidE (buildL_step (g:=opW k F G) hlt)
   have hfl:=buildL_len (opW k F G) ts n hn
   have HAF:=hidE (show ArgS wr a F from (HA.out.past HB3.out).past hbr)
   have HAG:=hidE (show ArgS wr a' G from (HA'.out.past HB3.out).past hbr)
   have HATF:=hidE (fun w hA=>rat_c F a cap (ts.getD n 0) w (by omega) hA)
   have HATG:=hidE (fun w hA=>rat_c G a' cap' (ts.getD n 0) w (by omega) hA)
   have HONE:=hidE (fun w=>rone k (vat F (ts.getD n 0)).1 (vat F (ts.getD n 0)).2 (vat G (ts.getD n 0)).1 (vat G (ts.getD n 0)).2 w)
   have HNB:=hidE (HBAD.out n hlt)
   have HNS:=hidE (fun (he:(opT k F G (ts.getD n 0)).2.2=0)=>show ∀ i,i<n+1→(opT k F G (ts.getD i 0)).2.2=0 from fun i hi=>by
    by_cases e:i=n
    ·rw[e];exact he
    ·exact HS.out i (by omega))
   change Hid (∀ w,Calls _ _ _ w fun e w'=>e = .returned (VE (opT k F G (ts.getD n 0)))∧_) at HONE
   change Hid (buildL (opW k F G) (ts.take (n+1))=withL (buildL (opW k F G) (ts.take n)) (ts.getD n 0) ((opT k F G (ts.getD n 0)).1,(opT k F G (ts.getD n 0)).2.1)) at HST
   clear hc hbr
   generalize buildL (opW k F G) (ts.take n)=f at *
   generalize vat F (ts.getD n 0)=x at *
   generalize vat G (ts.getD n 0)=y at *
   generalize opT k F G (ts.getD n 0)=q at *
   generalize ts.getD n 0=t at *
   have HWI:=hidE (fun (w:World) (hB:w3.heap.size≤w.heap.size) (ho:w.ownsRow w3.heap.size 100 3 v f.length (cellsOfS f))=>rwith_c f v w3.heap.size t q.1 q.2.1 w hB (by have:=HTL.out;omega) ho)
   have hwr:w3.heap.size≤wr.heap.size:=HBR.out.size
   obtain ⟨wo,rfl⟩:∃ wo:World,wo=wr:=⟨_,rfl⟩
   go_upto_region 8 with fail
   go_cut [11,12] (fun s11 s12 wx=>∃ p:Nat,s11 = .pointer (some ⟨p,0,none⟩)∧s12 = .int .i64 q.2.2∧Blk wx p #[.int .i64 q.1,.int .i64 q.2.1] 60∧Below wo.heap.size wo wx)
   case first =>
    refine wp_region_J 18 [16] (nthR [detR (.int .i64 k),detR (.slice a F.length cap),detR (.slice (some ⟨b,off,none⟩) ts.length c3),detR (.int .i64 n),detR (.pointer (some ⟨b,off+n,none⟩)),detR (.int .i64 t),detR (V x.1 x.2),detR (.slice a' G.length cap'),detR (.slice (some ⟨b,off,none⟩) ts.length c3),detR (.int .i64 n),detR (.pointer (some ⟨b,off+n,none⟩)),detR (.int .i64 t),detR (V y.1 y.2),detR (VE q),detR (VE q),detR (V q.1 q.2.1),detR (.int .i64 q.2.2),newR wo.heap.size #[.int .i64 0,.int .i64 0] 60]) (fun _=>false) (by kernel_rfl) (by simp) (by kernel_rfl) (stab_nth (by simp[stab_det,stab_new])) ?_ ?_ ?_
    ·intro i o hi ho
     match i,hi with
     | 0, _ =>
      obtain rfl:=Option.some.inj ho
      intro u x' hd
      have hc:=Past.cell x'
      simp[go_sem,gives,frm,Act.put,nthR,detR,Region.wanted,Below.refl]
     | 1, _ =>
      obtain rfl:=Option.some.inj ho
      intro u x' hd
      have hc:=Past.cell x'
      simp[go_sem,gives,frm,Act.put,nthR,detR,Region.wanted,Below.refl]
     | 2, _ =>
      obtain rfl:=Option.some.inj ho
      intro u x' hd
      have hc:=Past.cell x'
      simp[go_sem,gives,frm,Act.put,nthR,detR,Region.wanted,Below.refl]
     | 3, _ =>
      obtain rfl:=Option.some.inj ho
      intro u x' hd
      have hc:=Past.cell x'
      simp[go_sem,gives,frm,Act.put,nthR,detR,Region.wanted,Below.refl]
     | 4, _ =>
      obtain rfl:=Option.some.inj ho
      intro u x' hd
      have hc:=Past.cell x'
      have d2:=hd 2 (by decide) (by kernel_rfl)
      have d3:=hd 3 (by decide) (by kernel_rfl)
      simp only[nthR,detR,List.getD_cons_zero,List.getD_cons_succ] at d2 d3
      simp[go_sem,gives,frm,Act.put,nthR,detR,Region.wanted,Below.refl,d2,d3,hlt]
     | 5, _ =>
      obtain rfl:=Option.some.inj ho
      intro u x' hd
      have hc:=Past.cell x'
      have d4:=hd 4 (by decide) (by kernel_rfl)
      simp only[nthR,detR,List.getD_cons_zero,List.getD_cons_succ] at d4
      simp[go_sem,gives,frm,Act.put,nthR,detR,Region.wanted,Below.refl,hc,d4,d0,hb]
     | 6, _ =>
      obtain rfl:=Option.some.inj ho
      intro u x' hd
      have hc:=Past.cell x'
      have d1:=hd 1 (by decide) (by kernel_rfl)
      have d5:=hd 5 (by decide) (by kernel_rfl)
      simp only[nthR,detR,List.getD_cons_zero,List.getD_cons_succ] at d1 d5
      simp[go_sem,gives,frm,Act.put,nthR,detR,Region.wanted,d1,d5]
      exact HATF.out _ (HAF.out.past x'.2)
     | 7, _ =>
      obtain rfl:=Option.some.inj ho
      intro u x' hd
      have hc:=Past.cell x'
      simp[go_sem,gives,frm,Act.put,nthR,detR,Region.wanted,Below.refl]
     | 8, _ =>
      obtain rfl:=Option.some.inj ho
      intro u x' hd
      have hc:=Past.cell x'
      simp[go_sem,gives,frm,Act.put,nthR,detR,Region.wanted,Below.refl]
     | 9, _ =>
      obtain rfl:=Option.some.inj ho
      intro u x' hd
      have hc:=Past.cell x'
      simp[go_sem,gives,frm,Act.put,nthR,detR,Region.wanted,Below.refl]
     | 10, _ =>
      obtain rfl:=Option.some.inj ho
      intro u x' hd
      have hc:=Past.cell x'
      have d8:=hd 8 (by decide) (by kernel_rfl)
      have d9:=hd 9 (by decide) (by kernel_rfl)
      simp only[nthR,detR,List.getD_cons_zero,List.getD_cons_succ] at d8 d9
      simp[go_sem,gives,frm,Act.put,nthR,detR,Region.wanted,Below.refl,d8,d9,hlt]
     | 11, _ =>
      obtain rfl:=Option.some.inj ho
      intro u x' hd
      have hc:=Past.cell x'
      have d10:=hd 10 (by decide) (by kernel_rfl)
      simp only[nthR,detR,List.getD_cons_zero,List.getD_cons_succ] at d10
      simp[go_sem,gives,frm,Act.put,nthR,detR,Region.wanted,Below.refl,hc,d10,d0,hb]
     | 12, _ =>
      obtain rfl:=Option.some.inj ho
      intro u x' hd
      have hc:=Past.cell x'
      have d7:=hd 7 (by decide) (by kernel_rfl)
      have d11:=hd 11 (by decide) (by kernel_rfl)
      simp only[nthR,detR,List.getD_cons_zero,List.getD_cons_succ] at d7 d11
      simp[go_sem,gives,frm,Act.put,nthR,detR,Region.wanted,d7,d11]
      exact HATG.out _ (HAG.out.past x'.2)
     | 13, _ =>
      obtain rfl:=Option.some.inj ho
      intro u x' hd
      have hc:=Past.cell x'
      have d0:=hd 0 (by decide) (by kernel_rfl)
      have d6:=hd 6 (by decide) (by kernel_rfl)
      have d12:=hd 12 (by decide) (by kernel_rfl)
      simp only[nthR,detR,List.getD_cons_zero,List.getD_cons_succ] at d0 d6 d12
      simp[go_sem,gives,frm,Act.put,nthR,detR,Region.wanted,d0,d6,d12]
      exact HONE.out _
     | 14, _ =>
      obtain rfl:=Option.some.inj ho
      intro u x' hd
      have hc:=Past.cell x'
      have d13:=hd 13 (by decide) (by kernel_rfl)
      simp only[nthR,detR,List.getD_cons_zero,List.getD_cons_succ] at d13
      simp[go_sem,gives,frm,Act.put,nthR,detR,Region.wanted,Below.refl,d13]
     | 15, _ =>
      obtain rfl:=Option.some.inj ho
      intro u x' hd
      have hc:=Past.cell x'
      have d14:=hd 14 (by decide) (by kernel_rfl)
      simp only[nthR,detR,List.getD_cons_zero,List.getD_cons_succ] at d14
      simp[go_sem,gives,frm,Act.put,nthR,detR,Region.wanted,Below.refl,d14]
     | 16, _ =>
      obtain rfl:=Option.some.inj ho
      intro u x' hd
      have hc:=Past.cell x'
      have d14:=hd 14 (by decide) (by kernel_rfl)
      simp only[nthR,detR,List.getD_cons_zero,List.getD_cons_succ] at d14
      simp[go_sem,gives,frm,Act.put,nthR,detR,Region.wanted,Below.refl,d14]
     | 17, _ =>
      obtain rfl:=Option.some.inj ho
      intro u x' hd
      have hc:=Past.cell x'
      simp[go_sem,gives,nthR,Region.wanted]
      exact ⟨by (repeat (first | exact Below.refl _ _ | assumption | refine balloc ?_ _ | refine below_drewN ?_ _ | refine bstep (by assumption) ?_ | refine bstep (Past.prop _) ?_ | refine Below.setCell ?_ (by first | exact Nat.le_refl _ | (simp;done) | (simp;omega)) _)),⟨_,rfl,by simpa using x'.2.size,Blk.made _ _ _⟩⟩
     | i+18,h=>exact absurd h (by omega)
    ·intro i o hx ho
     simp only[List.mem_cons,List.not_mem_nil,or_false] at hx
     rcases hx with rfl
     ·obtain rfl:=Option.some.inj ho
      refine ⟨rfl,fun _ _ _ _ h=>h,fun u x' hd => ?_⟩
      have d14:=hd 14 (by decide) (by kernel_rfl)
      simp only[nthR,detR,List.getD_cons_zero,List.getD_cons_succ] at d14
      refine ⟨rfl,.int .i64 q.2.2,rfl,fun w' => ?_⟩
      simp[go_sem,frm,Act.put,d14]
    ·intro u x' hu hne
     have d15:=hu 15 (by decide);have d16:=hu 16 (by decide)
     obtain ⟨p,h17,l17,B17⟩:newR _ _ _ _ _:=hu 17 (by decide)
     simp only[nthR,detR,List.getD_cons_zero,List.getD_cons_succ] at d15 d16
     have g0:=B17.cell 0;have g1:=B17.cell 1;have f17:=B17.free
     simp at g0 g1
     simp only[frm,List.take,Act.put,d15,d16,h17]
     clear d15 d16 hu hne
     have hx':=x'.2
     go_wp2
     go_meet
     case rel=>exact ⟨p,rfl,rfl,(B17.set 0 _).set 1 _,(hx'.setCell l17 _).setCell l17 _⟩
   obtain ⟨p,rfl,rfl,BP,hbx⟩:=hcut
   have HBX:=hidE hbx
   have d0':=(hbx.cell (p:=⟨b,off+n,none⟩) hb).trans d0
   have hb':=Nat.lt_of_lt_of_le hb hbx.size
   have p0:=BP.cell 0;have p1:=BP.cell 1;have pz:=BP.lt
   simp at p0 p1
   clear hbx d0 hb HATF HATG HONE HAF HAG
   by_cases hq0:q.2.2=0
   ·have g2:(q.2.2 != 0)=false:=by rw[bne_eq_false_iff_eq];exact hq0
    have HNS':=hidE (HNS.out hq0)
    clear hq0 HNB HNS
    go_wp2_with fail
    refine wp_region_J 6 [] (nthR [detR v,detR (.slice (some ⟨b,off,none⟩) ts.length c3),detR (.int .i64 n),detR (.pointer (some ⟨b,off+n,none⟩)),detR (.int .i64 t),detR (V q.1 q.2.1)]) (fun _=>false) (by kernel_rfl) (by simp) (by kernel_rfl) (stab_nth (by simp[stab_det])) ?_ ?_ ?_
    ·intro i o hi ho
     match i,hi with
     | 0, _ =>
      obtain rfl:=Option.some.inj ho
      intro u x' hd
      have hc:=Past.cell x'
      simp[go_sem,gives,frm,Act.put,nthR,detR,Region.wanted,Below.refl]
     | 1, _ =>
      obtain rfl:=Option.some.inj ho
      intro u x' hd
      have hc:=Past.cell x'
      simp[go_sem,gives,frm,Act.put,nthR,detR,Region.wanted,Below.refl]
     | 2, _ =>
      obtain rfl:=Option.some.inj ho
      intro u x' hd
      have hc:=Past.cell x'
      simp[go_sem,gives,frm,Act.put,nthR,detR,Region.wanted,Below.refl]
     | 3, _ =>
      obtain rfl:=Option.some.inj ho
      intro u x' hd
      have hc:=Past.cell x'
      have d1:=hd 1 (by decide) (by kernel_rfl)
      have d2:=hd 2 (by decide) (by kernel_rfl)
      simp only[nthR,detR,List.getD_cons_zero,List.getD_cons_succ] at d1 d2
      simp[go_sem,gives,frm,Act.put,nthR,detR,Region.wanted,Below.refl,d1,d2,hlt]
     | 4, _ =>
      obtain rfl:=Option.some.inj ho
      intro u x' hd
      have hc:=Past.cell x'
      have d3:=hd 3 (by decide) (by kernel_rfl)
      simp only[nthR,detR,List.getD_cons_zero,List.getD_cons_succ] at d3
      simp[go_sem,gives,frm,Act.put,nthR,detR,Region.wanted,Below.refl,hc,d3,d0',hb']
     | 5, _ =>
      obtain rfl:=Option.some.inj ho
      intro u x' hd
      have hc:=Past.cell x'
      simp[go_sem,gives,frm,Act.put,nthR,detR,Region.wanted,Below.refl,hc,p0,p1,pz]
     | i+6,h=>exact absurd h (by omega)
    ·intro i o h;cases h
    ·intro u x' hu hne
     have e0:=hu 0 (by decide);have e4:=hu 4 (by decide);have e5:=hu 5 (by decide)
     simp only[nthR,detR,List.getD_cons_zero,List.getD_cons_succ] at e0 e4 e5
     have hx:=x'.2
     have HXX:=hidE (show Below wo.heap.size wo x'.1 from bstep hx HBX.out)
     clear hx hu hne
     simp only[frm,List.take,Act.put,e0,e4,e5]
     clear e0 e4 e5
     generalize x'.1=w5 at *
     go_wp2_with (go_at_call 142;((with_reducible refine (HWI.out _ (Nat.le_trans hwr HXX.out.size) (own_below HO.out HXX.out)).mono ?_);rintro e w6 ⟨v',rfl,ho6,hg6⟩))
     have hb6:Below w3.heap.size w3 w6:=(HBR.out.trans (HXX.out.mono hwr)).grown hg6 (Nat.le_trans hwr HXX.out.size) (fun k hk=>own_block HO.out hk)
     rw[←HST.out] at ho6
     have HB6:=hidE hb6;have HO6:=hidE ho6
     clear hb6 ho6 hg6
     go_wp2
     go_roundg (ts.length - (n+1))
     case measure=>omega
     case rel=>exact ⟨n+1,v',rfl,by go_num,by omega,Nat.le_refl _,HNS'.out,HB6.out,HO6.out⟩
   ·have g2:(q.2.2 != 0)=true:=bne_iff_ne.2 hq0
    have HD:=hidE (HNB.out hq0)
    clear hq0 HNB HNS
    go_wp2
    go_ret2
    rw[HD.out]
    exact ⟨_,rfl,sliS_nil _,HB3.out.trans ((HBR.out.trans (HBX.out.mono hwr)).mono HB3.out.size)⟩
  ·have hn':n=ts.length:=by omega
   subst hn'
   have ho:=HO.out
   rw[List.take_length] at ho
   have HO2:=hidE ho;clear ho HO
   have HD:=hidE (HGOOD.out HS.out)
   go_wp2
   go_ret2
   rw[HD.out]
   exact ⟨_,rfl,sliS_own HO2.out,HB3.out.trans (HBR.out.mono HB3.out.size)⟩
def CellsR (w:World) (b off:Nat) (L:List (List Sg)):Prop :=
 ∀ i,i<L.length→∃ (a:Option Addr) (c:Nat),w.cell? ⟨b,off+i,none⟩=some (.slice a (L.getD i []).length c)∧ArgS w a (L.getD i [])
def ArgR (w:World) (a:Option Addr) (L:List (List Sg)):Prop:=0<L.length→∃ b off,a=some ⟨b,off,none⟩∧b<w.heap.size∧CellsR w b off L
theorem ArgR.past {w w':World} {a:Option Addr} {L:List (List Sg)} (h:ArgR w a L) (hb:Below w.heap.size w w'):ArgR w' a L:=fun hl=>by
 obtain ⟨b,off,e,h1,h2⟩:=h hl
 refine ⟨b,off,e,Nat.lt_of_lt_of_le h1 hb.size,fun i hi => ?_⟩
 obtain ⟨a',c,h3,h4⟩:=h2 i hi
 exact ⟨a',c,(hb.cell (p:=⟨b,_,none⟩) h1).trans h3,h4.past hb⟩
def lenR (L:List (List Sg)):Nat:=(L.map List.length).sum
theorem lenR_step {L:List (List Sg)} {n:Nat} (h:n<L.length):lenR (L.take (n+1))=lenR (L.take n)+(L.getD n []).length:=by
 unfold lenR
 rw[List.take_succ_eq_append_getElem h,getD_get _ _ _ h,List.map_append,List.sum_append]
 simp only[List.map_cons,List.map_nil,List.sum_cons,List.sum_nil,Nat.add_zero]
theorem lenR_take:∀ (L:List (List Sg)) (n:Nat),lenR (L.take n)≤lenR L
 | [],n=>by simp[lenR]
 | x :: r,0=>by simp[lenR]
 | x :: r, n + 1 => by
   have:=lenR_take r n
   unfold lenR at this ⊢
   simp only[List.take_succ_cons,List.map_cons,List.sum_cons]
   omega
theorem lenR_get {L:List (List Sg)} {n:Nat} (h:n<L.length):(L.getD n []).length≤lenR L:=by
 have h1:=lenR_step h
 have h2:=lenR_take L (n+1)
 omega
theorem doS_len (k:Int) (F G:List Sg):(doS k F G).1.length≤F.length+G.length:=by
 unfold doS
 split
 ·simp
 ·split
  ·exact opL_len k F G
  ·simp
theorem sumE_step {L:List (List Sg)} {n:Nat} (h:n<L.length) (h0:(sumE (L.take n)).2=0):sumE (L.take (n+1))=doS 0 (sumE (L.take n)).1 (L.getD n []):=by
 have:sumE (L.take (n+1))=if (sumE (L.take n)).2=0 then doS 0 (sumE (L.take n)).1 (L.getD n []) else sumE (L.take n):=by
  unfold sumE
  rw[List.take_succ_eq_append_getElem h,List.foldl_append,getD_get _ _ _ h];rfl
 rw[this,if_pos h0]
theorem sumE_err:∀ (r:List (List Sg)) (acc:List Sg × Int),acc.2≠0→r.foldl (fun acc f=>if acc.2=0 then doS 0 acc.1 f else acc) acc=acc
 | [],_,_=>rfl
 | x :: r, acc, h => by
   rw[List.foldl_cons,if_neg h]
   exact sumE_err r acc h
theorem sumE_bad {L:List (List Sg)} {n:Nat} (h:(sumE (L.take n)).2≠0):sumE L=sumE (L.take n):=by
 have e:sumE L=(L.drop n).foldl (fun acc f=>if acc.2=0 then doS 0 acc.1 f else acc) (sumE (L.take n)):=by
  unfold sumE
  rw[←List.foldl_append,List.take_append_drop]
 rw[e];exact sumE_err _ _ h
theorem doS_err {k:Int} {F G:List Sg} (h:(doS k F G).2≠0):(doS k F G).1=[]:=by
 unfold doS at h ⊢
 split
 ·rfl
 ·split
  ·rename_i h1 h2
   rw[if_neg h1,if_pos h2] at h
   exact absurd rfl h
  ·rfl
theorem sumS_form {L:List (List Sg)} {i:Nat} (hi:i<L.length) (h:mayB (L.getD i [])=false):sumS L=([],5):=by
 unfold sumS
 rw[if_neg]
 intro c
 rw[List.all_eq_true] at c
 rw[getD_get _ _ _ hi] at h
 rw[c _ (List.getElem_mem hi)] at h
 cases h
theorem sumS_good {L:List (List Sg)} (h:∀ i,i<L.length→mayB (L.getD i [])=true):sumS L=sumE L:=by
 unfold sumS
 rw[if_pos]
 rw[List.all_eq_true]
 intro x hx
 obtain ⟨i,hi,rfl⟩:=List.getElem_of_mem hx
 have:=h i hi
 rw[getD_get _ _ _ hi] at this;exact this
set_option maxRecDepth 100000 in
set_option maxHeartbeats 2000000 in
theorem rsum_c (L:List (List Sg)) (a:Option Addr) (cap:Nat) (w:World) (hn:L.length≤999999990) (hl:lenR L≤999999990) (hA:ArgR w a L) :
  Calls Tryz.prog 99 #[.slice a L.length cap] w (OfIs w (sumS L).1 (sumS L).2):=by
 have HA:=hidE hA;clear hA
 go_enter Tryz.func99,Tryz.ntmps99
 go_wp2
 go_loopg [4] L.length (fun gh vi wr=>∃ n:Nat,vi = .int .i64 n∧n≤L.length∧L.length - n≤gh∧(∀ i,i<n→mayB (L.getD i [])=true)∧Below w.heap.size w wr)
 case atStart=>exact ⟨0,rfl,by omega,by omega,fun i hi=>by omega,Below.refl _ _⟩
 case round =>
  obtain ⟨n,rfl,hnl,hg,hs,hbr⟩:=hrel
  have HS:=hidE hs;have HBR:=hidE hbr
  clear hs
  by_cases hlt:n<L.length
  ·obtain ⟨b,off,rfl,hb,hc⟩:=(HA.out.past hbr) (by omega)
   obtain ⟨ai,ci,d0,hAi⟩:=hc n hlt
   have HAI:=hidE hAi
   have hln:=lenR_get hlt
   have HV:=hidE (fun w hA=>rmayf_c (L.getD n []) ai ci w (by omega) hA)
   have HF:=hidE (fun h=>sumS_form hlt h)
   have HNS:=hidE (fun (he:mayB (L.getD n [])=true)=>show ∀ i,i<n+1→mayB (L.getD i [])=true from fun i hi=>by
    by_cases e:i=n
    ·rw[e];exact he
    ·exact HS.out i (by omega))
   clear hc hAi hbr
   generalize L.getD n []=G at *
   cases hm:mayB G
   ·have HD:=hidE (HF.out hm)
    rw[hm] at HV
    clear HNS HF hm
    go_wp2_with fail
    ((with_reducible refine (HV.out _ HAI.out).mono ?_);rintro e w1 ⟨rfl,hb1⟩)
    go_wp2
    go_ret2
    rw[HD.out]
    exact ⟨_,rfl,sliS_nil _,bstep hb1 HBR.out⟩
   ·have HN:=hidE (HNS.out hm)
    rw[hm] at HV
    clear HNS HF hm
    go_wp2_with fail
    ((with_reducible refine (HV.out _ HAI.out).mono ?_);rintro e w1 ⟨rfl,hb1⟩)
    have o1:=bstep hb1 HBR.out
    clear hb1 d0
    go_wp2
    go_roundg (L.length - (n+1))
    case measure=>omega
    case rel=>exact ⟨n+1,by go_num,by omega,Nat.le_refl _,HN.out,o1⟩
  ·have hn':n=L.length:=by omega
   subst hn'
   have HE:=hidE (sumS_good HS.out)
   clear HS hbr
   go_wp2_with fail
   go_loopg [5,6,7,8] L.length (fun gh vf vi _ _ wr2=>∃ (n:Nat) (v:Value),v=vf∧vi = .int .i64 n∧n≤L.length∧L.length - n≤gh∧(sumE (L.take n)).2=0∧(sumE (L.take n)).1.length≤lenR (L.take n)∧SliS wr2 v (sumE (L.take n)).1∧Below w.heap.size w wr2)
   case atStart=>exact ⟨0,.slice none 0 0,rfl,rfl,by omega,by omega,rfl,by simp[sumE],sliS_nil _,HBR.out⟩
   case round =>
    obtain ⟨n,v,rfl,rfl,hnl,hg2,h0,hlen,hv,hb2⟩:=hrel
    have HB2:=hidE hb2;have H0:=hidE h0
    by_cases hlt:n<L.length
    ·obtain ⟨b,off,rfl,hb,hc⟩:=(HA.out.past hb2) (by omega)
     obtain ⟨ai,ci,d0,hAi⟩:=hc n hlt
     obtain ⟨a1,c1,rfl,_,_,hA1⟩:=hv
     have HAI:=hidE hAi;have HA1:=hidE hA1
     have HST:=hidE (sumE_step hlt h0)
     have HBD:=hidE (fun h=>sumE_bad (L:=L) (n:=n+1) h)
     have hls:=lenR_step hlt
     have hlt2:=lenR_take L (n+1)
     clear hc hAi hA1 hb2 h0
     have HDL:=hidE (doS_len 0 (sumE (L.take n)).1 (L.getD n []))
     have HDE:=hidE (fun h=>doS_err (k:=0) (F:=(sumE (L.take n)).1) (G:=L.getD n []) h)
     have HDO:=hidE (fun w hA hA'=>rdo_c 0 (sumE (L.take n)).1 (L.getD n []) a1 ai c1 ci w (by omega) hA hA')
     rw[←HST.out] at HDL HDE HDO
     generalize (sumE (L.take n)).1=f at *
     generalize L.getD n []=G at *
     generalize hqq:sumE (L.take (n+1))=q at *
     have HQQ:=hidE hqq
     clear hqq
     by_cases hq:q.2=0
     ·have hd:(q.2 != 0)=false:=by rw[bne_eq_false_iff_eq];exact hq
      have HQ:=hidE hq
      clear hq HBD HDE
      go_wp2_with fail
      ((with_reducible refine (HDO.out _ HA1.out HAI.out).mono ?_);rintro e w3 ⟨v3,rfl,hv3,hb3⟩)
      have o1:=bstep hb3 HB2.out
      clear hb3 d0
      go_wp2
      go_roundg (L.length - (n+1))
      case measure=>omega
      case rel=>exact ⟨n+1,v3,rfl,by go_num,by omega,Nat.le_refl _,by rw[HQQ.out];exact HQ.out,by rw[HQQ.out];have:=HDL.out;omega,by rw[HQQ.out];exact hv3,o1⟩
     ·have hd:(q.2 != 0)=true:=bne_iff_ne.2 hq
      have HD:=hidE (HBD.out hq)
      have HQ1:=hidE (HDE.out hq)
      clear hq HBD HDE
      go_wp2_with fail
      ((with_reducible refine (HDO.out _ HA1.out HAI.out).mono ?_);rintro e w3 ⟨v3,rfl,hv3,hb3⟩)
      have o1:=bstep hb3 HB2.out
      clear hb3 d0
      go_wp2
      go_ret2
      rw[HE.out,HD.out,HQ1.out]
      exact ⟨_,rfl,sliS_nil _,o1⟩
    ·have hn':n=L.length:=by omega
     subst hn'
     have h0':=H0.out
     rw[List.take_length] at h0' hv
     have HH:=hidE h0';have HV2:=hidE hv
     clear h0' hv h0 H0 hlen hb2
     go_wp2
     go_ret2
     rw[HE.out,HH.out]
     exact ⟨_,rfl,HV2.out,HB2.out⟩
end
section
open Go.RowKit
def barOk (l:List Oper) (q:Nat):Bool :=
 Region.noSelect l.toArray && decide (q<l.length) &&
 ((List.range l.length).all fun i => match l[i]? with
   | some o=>o.after.all fun e => !Region.binds .any e || decide (e.on<i)
   | none=>true) &&
 ((List.range q).all fun i => match l[i]? with
   | some o => match o.guard with
     | some g=>decide (g.1<q)
     | none=>true
   | none=>true) &&
 ((List.range l.length).all fun i=>decide (i≤q) || (List.range i).any fun j=>decide (q≤j) && waits l.toArray i j) &&
 ((List.range q).all fun j=>(List.range (q+1)).any fun i=>decide (j<i) && waits l.toArray i j) &&
 Region.lexB .any (l.take q).toArray &&
 Region.lexFrom .any l.toArray (l.drop (q+1)).length (q+1) (Array.replicate (q+1) true++Array.replicate (l.length - (q+1)) false)
structure BarOk (l:List Oper) (q:Nat):Prop where
 sel:Region.noSelect l.toArray=true
 lt:q<l.length
 back:∀ i o,l[i]? = some o→∀ e∈o.after,Region.binds .any e=true→e.on<i
 guard:∀ i o,i<q→l[i]? = some o→∀ g,o.guard=some g→g.1<q
 after:∀ i,i<l.length→q<i→∃ j,q≤j∧j<i∧waits l.toArray i j=true
 before:∀ j,j<q→∃ i,j<i∧i≤q∧waits l.toArray i j=true
 lexP:Region.lexB .any (l.take q).toArray=true
 lexS:Region.lexFrom .any l.toArray (l.drop (q+1)).length (q+1) (Array.replicate (q+1) true++Array.replicate (l.length - (q+1)) false)=true
theorem barOk_spec {l:List Oper} {q:Nat} (h:barOk l q=true):BarOk l q:=by
 unfold barOk at h
 simp only[Bool.and_eq_true] at h
 obtain ⟨⟨⟨⟨⟨⟨⟨h1,h2⟩,h3⟩,h4⟩,h5⟩,h6⟩,h7⟩,h8⟩:=h
 rw[decide_eq_true_eq] at h2
 refine ⟨h1,h2, ?_, ?_, ?_, ?_,h7,h8⟩
 ·intro i o ho e he hb
  have hi:i<l.length:=(List.getElem?_eq_some_iff.1 ho).1
  have:=List.all_eq_true.1 h3 i (by simpa using hi)
  rw[ho] at this
  have:=Array.all_eq_true'.1 this e he
  rw[hb] at this
  simpa using this
 ·intro i o hi ho g hg
  have:=List.all_eq_true.1 h4 i (by simpa using hi)
  rw[ho] at this
  simp only[hg] at this
  simpa using this
 ·intro i hi hqi
  have:=List.all_eq_true.1 h5 i (by simpa using hi)
  rw[Bool.or_eq_true,decide_eq_true_eq] at this
  rcases this with c | c
  ·omega
  ·obtain ⟨j,hj,hc⟩:=List.any_eq_true.1 c
   rw[Bool.and_eq_true,decide_eq_true_eq] at hc
   exact ⟨j,hc.1,by simpa using hj,hc.2⟩
 ·intro j hj
  have:=List.all_eq_true.1 h6 j (by simpa using hj)
  obtain ⟨i,hi,hc⟩:=List.any_eq_true.1 this
  rw[Bool.and_eq_true,decide_eq_true_eq] at hc
  have:=List.mem_range.1 hi
  exact ⟨i,hc.1,by omega,hc.2⟩
section
variable {l:List Oper} {q:Nat} (B:BarOk l q)
include B
theorem BarOk.behind {listed:Array Bool} (hs:Shut l.toArray listed):∀ (n i:Nat),i≤n→i<l.length→q<i→(∀ o,l[i]? = some o→∀ e∈o.after,Region.binds .any e=true→listed.getD e.on false=true)→listed.getD q false=true:=by
 intro n
 induction n with
 | zero=>intro i h1 _ h3;omega
 | succ n ih =>
  intro i h1 h2 h3 hd
  obtain ⟨j,j1,j2,j3⟩:=B.after i h2 h3
  have hoi:l.toArray[i]? = some l[i]:=by simp[h2]
  have hj:=waits_listed hoi (hd l[i] (List.getElem?_eq_getElem h2)) j3
  by_cases c:j=q
  ·rw[c] at hj;exact hj
  ·refine ih j (by omega) (by omega) (by omega) fun o ho e he hb => ?_
   exact hs.deps j o (by simpa using ho) hj e he hb
theorem BarOk.ahead {listed:Array Bool} (hs:Shut l.toArray listed) (hd:∀ o,l[q]? = some o→∀ e∈o.after,Region.binds .any e=true→listed.getD e.on false=true):∀ (n j:Nat),q - j≤n→j<q→listed.getD j false=true:=by
 intro n
 induction n with
 | zero=>intro j h1 h2;omega
 | succ n ih =>
  intro j h1 h2
  obtain ⟨i,i1,i2,i3⟩:=B.before j h2
  by_cases c:i=q
  ·subst c
   have hll:=B.lt
   have hoi:l.toArray[i]? = some l[i]:=by simp[hll]
   exact waits_listed hoi (hd l[i] (List.getElem?_eq_getElem hll)) i3
  ·have hi:=ih i (by omega) (by omega)
   have hil:i<l.length:=by have:=B.lt;omega
   have hoi:l.toArray[i]? = some l[i]:=by simp[hil]
   exact waits_listed hoi (fun e he hb=>hs.deps i l[i] hoi hi e he hb) i3
end
theorem wanted_take {l:List Oper} {q:Nat} (o:Oper) (t:Array Value) (hg:∀ g,o.guard=some g→g.1<q):Region.wanted o (yielded (l.take q).toArray t)=Region.wanted o (yielded l.toArray t):=by
 unfold Region.wanted
 cases h:o.guard with
 | none=>rfl
 | some g =>
  have hlt:=hg g h
  have e:yielded (l.take q).toArray t g.1=yielded l.toArray t g.1:=by
   unfold yielded
   simp[hlt]
  simp only[e]
def todo (q:Nat) (listed:Array Bool):Nat:=((List.range q).filter fun i => !listed.getD i false).length
theorem todo_zero {q:Nat} {listed:Array Bool} (h:todo q listed=0):∀ i,i<q→listed.getD i false=true:=by
 intro i hi
 unfold todo at h
 have:=List.eq_nil_of_length_eq_zero h
 cases hl:listed.getD i false with
 | true=>rfl
 | false =>
  have hm:i∈(List.range q).filter fun i => !listed.getD i false:=by
   rw[List.mem_filter];exact ⟨by simpa using hi,by rw[hl];rfl⟩
  rw[this] at hm;cases hm
theorem filter_set (listed:Array Bool) (i:Nat) (hi:i<listed.size) (hl:listed.getD i false=false):∀ (r:List Nat),r.Nodup→i∈r→(r.filter fun j => !listed.getD j false).length=(r.filter fun j => !(listed.setIfInBounds i true).getD j false).length+1:=by
 intro r
 induction r with
 | nil=>intro _ h;cases h
 | cons a r ih =>
  intro hn hm
  have hn':=List.nodup_cons.1 hn
  by_cases c:a=i
  ·subst c
   have e:(r.filter fun j => !listed.getD j false)=r.filter fun j => !(listed.setIfInBounds a true).getD j false:=by
    refine List.filter_congr fun j hj => ?_
    have:j≠a:=fun e=>hn'.1 (e ▸ hj)
    rw[getD_set_ne false (Ne.symm this)]
   rw[List.filter_cons_of_pos (by rw[hl];rfl),List.filter_cons_of_neg (by simp[hi]),e]
   rfl
  ·have hm':i∈r:=by
    rcases List.mem_cons.1 hm with h | h
    ·exact absurd h.symm c
    ·exact h
   have:=ih hn'.2 hm'
   have e:(listed.setIfInBounds i true).getD a false=listed.getD a false:=getD_set_ne false (Ne.symm c)
   cases hla:listed.getD a false with
   | true=>rw[List.filter_cons_of_neg (by rw[hla];simp),List.filter_cons_of_neg (by rw[e,hla];simp)];exact this
   | false=>rw[List.filter_cons_of_pos (by rw[hla];rfl),List.filter_cons_of_pos (by rw[e,hla];rfl)];simp only[List.length_cons];omega
theorem todo_set {q:Nat} {listed:Array Bool} {i:Nat} (hi:i<q) (hs:i<listed.size) (hl:listed.getD i false=false):todo q listed=todo q (listed.setIfInBounds i true)+1 :=
 filter_set listed i hs hl _ List.nodup_range (by simpa using hi)
theorem prefix_bar {P:Program} {l:List Oper} {q:Nat} (B:BarOk l q) {C:World→Prop} {Q':Act→Prop} {Q:Exit→Act→World→Prop} (r:Nat)
  (hK:∀ (listed:Array Bool) a w,listed.size=l.length→(∀ i,i<l.length→listed.getD i false=decide (i<q))→C w→Q' a→wpAny P .any l.toArray Q r listed a w) :
  ∀ (n : Nat) (listed L : Array Bool) (a : Act) (w : World), Shut l.toArray listed → (∀ i, q ≤ i → listed.getD i false = false) → todo q listed = n → L.size = q → (∀ i, i < q → L.getD i false = listed.getD i false) → C w →
    wpAnyQ P .any (l.take q).toArray C Q' n L a→wpAny P .any l.toArray Q (n+r) listed a w:=by
 intro n
 have hql:=B.lt
 induction n with
 | zero =>
  intro listed L a w hs hno ht hL hLe hC h
  rw[Nat.zero_add]
  refine hK listed a w (by simpa using hs.size) (fun i hi => ?_) hC h.2
  by_cases c:i<q
  ·rw[todo_zero ht i c];exact (decide_eq_true c).symm
  ·rw[hno i (by omega)];exact (decide_eq_false c).symm
 | succ n ih =>
  intro listed L a w hs hno ht hL hLe hC h
  have hsz:listed.size=l.length:=by simpa using hs.size
  have hsome:∃ i,i<q∧listed.getD i false=false:=by
   unfold todo at ht
   cases hf:(List.range q).filter fun i => !listed.getD i false with
   | nil=>rw[hf] at ht;simp at ht
   | cons x y =>
    have:x∈(List.range q).filter fun i => !listed.getD i false:=by rw[hf];simp
    rw[List.mem_filter] at this
    exact ⟨x,by simpa using this.1,by simpa using this.2⟩
  obtain ⟨j0,hj0,hl0⟩:=hsome
  rw[Nat.succ_add]
  refine ⟨fun h0 => ?_,fun i hi => ?_⟩
  ·exfalso
   have key:∀ (m j:Nat),j≤m→j<q→listed.getD j false=false→Region.ready .any l.toArray listed≠[]:=by
    intro m
    induction m with
    | zero =>
     intro j hjm hjq hjl hnil
     have hj0:j=0:=by omega
     subst hj0
     have hm:0∈Region.ready .any l.toArray listed:=by
      refine mem_ready.2 ⟨by rw[getD_flip (by rw[hsz];omega) true false];exact hjl,l[0]'(by omega),by simp,fun e he hb => ?_⟩
      have:=B.back 0 _ (List.getElem?_eq_getElem (by omega)) e he hb
      omega
     rw[hnil] at hm;cases hm
    | succ m ihm =>
     intro j hjm hjq hjl hnil
     by_cases hall:∃ k,k<j∧listed.getD k false=false
     ·obtain ⟨k,hk,hkl⟩:=hall
      exact ihm k (by omega) (by omega) hkl hnil
     ·have hm:j∈Region.ready .any l.toArray listed:=by
       refine mem_ready.2 ⟨by rw[getD_flip (by rw[hsz];omega) true false];exact hjl,l[j]'(by omega),by simp,fun e he hb => ?_⟩
       have:=B.back j _ (List.getElem?_eq_getElem (by omega)) e he hb
       cases hx:listed.getD e.on false with
       | true=>rfl
       | false=>exact absurd ⟨e.on,this,hx⟩ hall
      rw[hnil] at hm;cases hm
   exact key j0 j0 (Nat.le_refl _) hj0 hl0 h0
  ·obtain ⟨hil,o,ho,hd⟩:=mem_ready.1 hi
   have hilen:i<l.length:=by
    rcases Nat.lt_or_ge i l.length with h | h
    ·exact h
    ·simp[List.getElem?_eq_none h] at ho
   have hol:l[i]? = some o:=by simpa using ho
   have hil':listed.getD i false=false:=by rw[getD_flip (by rw[hsz];exact hilen) false true];exact hil
   have hiq:i<q:=by
    rcases Nat.lt_trichotomy i q with c | c | c
    ·exact c
    ·exfalso
     subst c
     have:=B.ahead hs (fun o' ho' e he hb=>by rw[hol] at ho';cases ho';exact hd e he hb) i j0 (by omega) hj0
     rw[hl0] at this;cases this
    ·exfalso
     have:=B.behind hs i i (Nat.le_refl _) hilen c (fun o' ho' e he hb=>by rw[hol] at ho';cases ho';exact hd e he hb)
     rw[hno q (Nat.le_refl _)] at this;cases this
   have hop:(l.take q).toArray[i]? = some o:=by simp[hiq,hol]
   have hir:i∈Region.ready .any (l.take q).toArray L:=by
    refine mem_ready.2 ⟨?_,o,hop,fun e he hb => ?_⟩
    ·rw[getD_flip (by rw[hL];exact hiq) true false,hLe i hiq];exact hil'
    ·have:=B.back i o hol e he hb
     rw[hLe _ (by omega)];exact hd e he hb
   have hq:=h.2 i hir
   have hwp:=wpOp_of_qOp (Q':=Q) (K':=fun a' w'=>wpAny P .any l.toArray Q (n+r) (listed.setIfInBounds i true) a' w') hC (fun a' w' hC' hK'=>ih (listed.setIfInBounds i true) (L.setIfInBounds i true) a' w' ⟨by simpa using hs.size, ?_⟩ ?_ ?_ (by simpa using hL) ?_ hC' hK') hq
   ·unfold wpOp at hwp ⊢
    simp only[hop] at hwp
    simp only[ho]
    rw[wanted_take o a.tmps (fun g hg=>B.guard i o hiq hol g hg)] at hwp
    exact hwp
   ·intro k ok hk hkl e he hb
    by_cases hki:k=i
    ·subst hki
     rw[ho] at hk;cases hk
     exact getD_set_true (hd e he hb)
    ·rw[getD_set_ne false (Ne.symm hki)] at hkl
     exact getD_set_true (hs.deps k ok hk hkl e he hb)
   ·intro k hk
    rw[getD_set_ne false (by omega)];exact hno k hk
   ·have:=todo_set hiq (by rw[hsz];exact hilen) hil'
    omega
   ·intro k hk
    by_cases hki:k=i
    ·subst hki
     simp[hL,hsz,hk,hilen]
    ·rw[getD_set_ne false (Ne.symm hki),getD_set_ne false (Ne.symm hki)];exact hLe k hk
theorem wp_region_bar {P:Program} {id:Nat} {Q:Exit→Act→World→Prop} {a:Act} {w:World} {l:List Oper} (q:Nat) (o:Oper) (hm:P.follows .mixedOrders=true) (ho:l[q]? = some o) (hok:barOk l q=true) (G:Value→World→Prop)
  (h:wpQuiet P (l.take q).toArray (fun w'=>∃ x:Past w,w'=x.1) (fun a'=>∀ x:Past w,Region.wanted o (yielded l.toArray a'.tmps)=true∧gives P G ((execOp a'.eval o).run P x.1) ∧
   ∀ v w'',G v w''→wpQuiet P l.toArray (fun w'=>∃ y:Past w'',w'=y.1) (fun a3=>∀ w3,(∃ y:Past w'',w3=y.1)→Q .normal a3 w3) (l.drop (q+1)) (a'.put o.dst v)) (l.take q) a):(Code.region id l.toArray true).wp P Q a w:=by
 have B:=barOk_spec hok
 have hql:=B.lt
 refine wp_region_any hm ?_
 have hfuel:l.toArray.size=q+(l.length - q):=by simp;omega
 rw[hfuel]
 have hun:∀ (n j:Nat),(Array.replicate n false).getD j false=false:=fun n j=>by
  simp only[Array.getD_eq_getD_getElem?,Array.getElem?_replicate];split<;>rfl
 have hlexP:=B.lexP
 simp only[Region.lexB,Bool.and_eq_true] at hlexP
 have hq0:=wpAnyQ_lex (P:=P) (C:=fun w'=>∃ x:Past w,w'=x.1) (md := .any) hlexP.1 (l.take q) 0 (Array.replicate (l.take q).toArray.size false) a (by simp) (by simpa using hlexP.2) h
 have hlen:(l.take q).length=q:=by rw[List.length_take];omega
 rw[hlen] at hq0
 refine prefix_bar B (l.length - q) ?_ q (Array.replicate (q+(l.length - q)) false) (Array.replicate (l.take q).toArray.size false) a _ ⟨by simp;omega,fun i oi _ hli=>by rw[hun] at hli;cases hli⟩ (fun i _=>hun _ _) ?_ (by simp;omega) (fun i _=>by rw[hun,hun]) ⟨⟨_,(Below.refl _ _).drew⟩,rfl⟩ hq0
 ·intro listed a' w' hsz hcan ⟨x,hx⟩ hQ'
  subst hx
  obtain ⟨hw,hg,hrest⟩:=hQ' x
  obtain ⟨r,hr⟩:∃ r,l.length - q=r+1:=⟨l.length - q - 1,by omega⟩
  rw[hr]
  have hs:Shut l.toArray listed:=⟨by simpa using hsz,fun i oi hi hli e he hb=>by
   have hil:i<l.length:=by
    rcases Nat.lt_or_ge i l.length with h | h
    ·exact h
    ·simp[List.getElem?_eq_none h] at hi
   rw[hcan i hil] at hli
   have:=B.back i oi (by simpa using hi) e he hb
   have h1:=of_decide_eq_true hli
   rw[hcan e.on (by omega)];exact decide_eq_true (by omega)⟩
  have hqr:q∈Region.ready .any l.toArray listed:=by
   refine mem_ready.2 ⟨by rw[getD_flip (by rw[hsz];exact hql) true false,hcan q hql];simp,o,by simpa using ho,fun e he hb => ?_⟩
   have:=B.back q o ho e he hb
   rw[hcan e.on (by omega)];exact decide_eq_true this
  refine ⟨fun h0=>(by rw[h0] at hqr;cases hqr),fun i hi => ?_⟩
  obtain ⟨hil,oi,hoi,hd⟩:=mem_ready.1 hi
  have hilen:i<l.length:=by
   rcases Nat.lt_or_ge i l.length with h | h
   ·exact h
   ·simp[List.getElem?_eq_none h] at hoi
  have hil':listed.getD i false=false:=by rw[getD_flip (by rw[hsz];exact hilen) false true];exact hil
  have hiq:i=q:=by
   rcases Nat.lt_trichotomy i q with c | c | c
   ·rw[hcan i hilen,decide_eq_true c] at hil';cases hil'
   ·exact c
   ·exfalso
    have:=B.behind hs i i (Nat.le_refl _) hilen c (fun o' ho' e he hb=>by
     have:l[i]? = some oi:=by simpa using hoi
     rw[this] at ho';cases ho';exact hd e he hb)
    rw[hcan q hql] at this;simp at this
  subst hiq
  have hoo:oi=o:=by
   have:l[i]? = some oi:=by simpa using hoi
   rw[this] at ho;cases ho;rfl
  subst hoo
  have hcanon:listed.setIfInBounds i true=Array.replicate (i+1) true++Array.replicate (l.length - (i+1)) false:=by
   apply Array.ext_getElem?
   intro k
   rw[Array.getElem?_setIfInBounds,Array.getElem?_append,Array.getElem?_replicate,Array.getElem?_replicate]
   simp only[Array.size_replicate]
   have hget:k<l.length→listed[k]? = some (decide (k<i)):=fun hk=>by
    have:=hcan k hk
    rw[Array.getD_eq_getD_getElem?,Array.getElem?_eq_getElem (by omega)] at this
    rw[Array.getElem?_eq_getElem (by omega)];simpa using this
   by_cases c1:i=k
   ·subst c1
    rw[if_pos rfl,if_pos (by omega),if_pos (by omega),if_pos (by omega)]
   ·rw[if_neg c1]
    by_cases c2:k<i+1
    ·rw[if_pos c2,if_pos c2,hget (by omega)]
     congr 1;exact decide_eq_true (by omega)
    ·rw[if_neg c2]
     by_cases c3:k<l.length
     ·rw[hget c3,if_pos (by omega)]
      congr 1;exact decide_eq_false (by omega)
     ·rw[if_neg (by omega),Array.getElem?_eq_none (by omega)]
  unfold wpOp
  simp only[hoi]
  rw[if_pos hw]
  refine .inl ?_
  unfold Oper.wp
  refine upon_of_gives hg fun v w'' hv => ?_
  have hsuf:=hrest v w'' hv
  rw[hcanon]
  have hdl:(l.drop (i+1)).length=r:=by rw[List.length_drop];omega
  have hq2:=wpAnyQ_lex (P:=P) (C:=fun w'=>∃ y:Past w'',w'=y.1) (md := .any) B.sel (l.drop (i+1)) (i+1) (Array.replicate (i+1) true++Array.replicate (l.length - (i+1)) false) _ (fun j=>by simp[List.getElem?_drop]) B.lexS hsuf
  rw[hdl] at hq2
  exact wpAny_of_quiet (C:=fun w'=>∃ y:Past w'',w'=y.1) (fun a3 w3 hw3 h3=>h3 w3 hw3) r _ _ _ ⟨⟨_,Below.refl _ _⟩,rfl⟩ hq2
 ·unfold todo
  rw[List.filter_eq_self.2 (fun i _=>by rw[hun];rfl),List.length_range]
end
section
open Go.ChangeShapes Go.WideShapes Go.ChangeAt Go.RowKit
attribute [local irreducible] Go.Calls
set_option maxRecDepth 100000 in
set_option maxHeartbeats 4000000 in
theorem pmay_c (l:List Sg) (a:Option Addr) (cap:Nat) (w:World) (hl:l.length≤1099511627776) (hA:ArgS w a l) :
  Calls Tryz.prog 77 #[.slice a l.length cap] w fun e w'=>e = .returned (.bool (mayB l))∧Below w.heap.size w w':=by
 have HA:=hidE hA;clear hA
 go_enter Tryz.func77,Tryz.ntmps77
 go_wp2_with fail
 ((with_reducible refine (changing_c _).mono ?_);rintro e w1 ⟨rfl,rfl⟩)
 have hb0:Below w.heap.size w (w.alloc (.cells #[.int .i64 0,.int .i64 0] 60)):=by (repeat (first | exact Below.refl _ _ | assumption | refine balloc ?_ _ | refine below_drewN ?_ _ | refine bstep (by assumption) ?_ | refine bstep (Past.prop _) ?_ | refine Below.setCell ?_ (by first | exact Nat.le_refl _ | (simp;done) | (simp;omega)) _))
 have B0:Blk (w.alloc (.cells #[.int .i64 0,.int .i64 0] 60)) w.heap.size #[.int .i64 0,.int .i64 0] 60:=Blk.made _ _ _
 have HB0:=hidE hb0;have HBL:=hidE B0
 clear hb0 B0
 obtain ⟨p,hp⟩:∃ p,p=w.heap.size:=⟨_,rfl⟩
 have HP:=hidE hp
 rw[←hp] at HBL ⊢
 generalize w.alloc (.cells #[.int .i64 0,.int .i64 0] 60)=w1 at *
 have hpw:w.heap.size≤p:=by omega
 clear hp
 go_wp2_with fail
 go_loopg [9,4,5] l.length (fun g vi _ _ wr=>∃ k:Nat,k≤l.length∧l.length - k≤g∧vi = .int .i64 k∧(∀ i,i<k→okAt (0,0) l i=true)∧Below w.heap.size w wr∧Blk wr p #[.int .i64 (prevV l k).1,.int .i64 (prevV l k).2] 60)
 case atStart=>exact ⟨0,Nat.zero_le _,by omega,rfl,fun i hi=>by omega,HB0.out,HBL.out⟩
 case round =>
  clear HB0 HBL
  obtain ⟨k,hk,hg,rfl,hs,hb,hB⟩:=hrel
  have HS:=hidE hs;have HB:=hidE hb;have HBP:=hidE hB;clear hs hb hB
  by_cases hlt:k<l.length
  ·obtain ⟨b,off,rfl,hbb,hc⟩:=(HA.out.past HB.out) (by omega)
   have hbw:b<w.heap.size:=by
    obtain ⟨b',off',e,hb',_⟩:=HA.out (by omega)
    simp at e;omega
   obtain ⟨c0,c1,c2⟩:=hc.get hlt
   have hpz:=HBP.out.lt
   have HV:=hidE (fun w=>valid_c (l.getD k (0,0,0)) w)
   change Hid (∀ w,Calls _ _ #[S (ats l k) (vls l k).1 (vls l k).2] _ _) at HV
   have HPS:=hidE (prevV_succ l k)
   obtain ⟨wo,rfl⟩:∃ wo:World,wo=wr:=⟨_,rfl⟩
   cases hok:okS (l.getD k (0,0,0))
   ·have HX:=hidE (mayB_bad hlt (show okAt (0,0) l k=false by unfold okAt;rw[hok];rfl))
    rw[hok] at HV
    clear hc
    generalize ats l k=u at *
    generalize vls l k=v at *
    go_wp2_with fail
    refine wp_region_past_lit (by kernel_rfl) (by kernel_rfl) ?_
    have hcp:=Past.cell (W:=wo.alloc (.cells #[.int .i64 u,.int .i64 v.1,.int .i64 v.2] 100))
    repeat (go_big_quiet_step ((go_at_call 114;exact Past.call _ (HV.out _))))
    refine wpQuiet_nil ?_
    rintro _ ⟨x',rfl⟩
    have o1:Below w.heap.size w x'.1:=by have:=HB.out;(repeat (first | exact Below.refl _ _ | assumption | refine balloc ?_ _ | refine below_drewN ?_ _ | refine bstep (by assumption) ?_ | refine bstep (Past.prop _) ?_ | refine Below.setCell ?_ (by first | exact Nat.le_refl _ | (simp;done) | (simp;omega)) _))
    clear hcp
    generalize x'.1=w5 at *
    go_wp2
    go_ret
    exact ⟨ret_bool (by rw[HX.out]),o1⟩
   ·rw[hok] at HV
    have HOK:=hidE hok
    have HPV:=hidE (show okAt (0,0) l k=(!(vls l k == prevV l k) && (decide (k=0) || decide (ats l (k - 1)<ats l k))) by unfold okAt;rw[HOK.out,Bool.true_and];rfl)
    have HQ:Blk (wo.alloc (.cells #[.int .i64 (ats l k),.int .i64 (vls l k).1,.int .i64 (vls l k).2] 100)) wo.heap.size #[.int .i64 (ats l k),.int .i64 (vls l k).1,.int .i64 (vls l k).2] 100:=Blk.made _ _ _
    have hqp:wo.heap.size≠p:=by omega
    have HPA:Blk (wo.alloc (.cells #[.int .i64 (ats l k),.int .i64 (vls l k).1,.int .i64 (vls l k).2] 100)) p #[.int .i64 (prevV l k).1,.int .i64 (prevV l k).2] 60:=HBP.out.alloc _
    have HBA:Below w.heap.size w (wo.alloc (.cells #[.int .i64 (ats l k),.int .i64 (vls l k).1,.int .i64 (vls l k).2] 100)):=by have:=HB.out;(repeat (first | exact Below.refl _ _ | assumption | refine balloc ?_ _ | refine below_drewN ?_ _ | refine bstep (by assumption) ?_ | refine bstep (Past.prop _) ?_ | refine Below.setCell ?_ (by first | exact Nat.le_refl _ | (simp;done) | (simp;omega)) _))
    have hqz:=HQ.lt;have hpz2:=HPA.lt
    have HHQ:=hidE HQ;have HHP:=hidE HPA;have HHB:=hidE HBA
    have hbA:b<(wo.alloc (.cells #[.int .i64 (ats l k),.int .i64 (vls l k).1,.int .i64 (vls l k).2] 100)).heap.size:=by simp;omega
    have HCS:=hidE (show CellsS (wo.alloc (.cells #[.int .i64 (ats l k),.int .i64 (vls l k).1,.int .i64 (vls l k).2] 100)) b off l from hc.below ((Below.refl _ _).alloc (Nat.le_refl _) _) hbb)
    have hbp:b≠p:=by omega
    clear hc HQ HPA HBA HBP HB
    go_wp2_with fail
    clear c0 c1 c2
    generalize wo.heap.size=q at *
    generalize hWA:wo.alloc (.cells #[.int .i64 (ats l k),.int .i64 (vls l k).1,.int .i64 (vls l k).2] 100)=WA at *
    have q0:=HHQ.out.cell 0;have q1:=HHQ.out.cell 1;have q2:=HHQ.out.cell 2
    simp at q0 q1 q2
    clear hWA
    refine wp_region_bar 7 _ (by kernel_rfl) rfl (by kernel_rfl) (fun v w''=>v = .bool (!((vls l k) == (prevV l k)))∧Blk w'' p #[.int .i64 (vls l k).1,.int .i64 (vls l k).2] 60∧WA.grownBy w'' (some p)) ?_
    simp only[List.take_succ_cons,List.take_zero,List.drop_succ_cons,List.drop_zero]
    have hcp:=Past.cell (W:=WA)
    repeat (go_big_quiet_step ((go_at_call 114;exact Past.call _ (HV.out _))))
    refine wpQuiet_nil ?_
    intro x
    refine ⟨rfl, ?_, ?_⟩
    ·simp[go_sem,gives]
     exact (chg_c p (prevV l k).1 (prevV l k).2 (vls l k).1 (vls l k).2 _ (HHP.out.past x.2)).mono fun e w'' ⟨he,h1,h2⟩=>⟨_,he,rfl,h1,grown_trans (grown_any x.2) h2⟩
    ·rintro v w'' ⟨rfl,hBn,hg⟩
     have hbn:Below w.heap.size w w'':=HHB.out.grown hg (by have:=HHB.out.size;omega) (fun k hk=>by simp at hk;omega)
     have HG:=hidE hbn;have HBN:=hidE hBn
     have hq'':Blk w'' q #[.int .i64 (ats l k),.int .i64 (vls l k).1,.int .i64 (vls l k).2] 100:=HHQ.out.grown hg (by intro e;simp at e;omega)
     have n0:=hq''.cell 0
     simp at n0
     have hqz'':=hq''.lt
     have hraw:CellsS w'' b off l:=fun i hi=>by
      obtain ⟨h1,h2,h3⟩:=HCS.out i hi
      have hblk:=hg.block b hbA (by intro e;simp at e;omega)
      exact ⟨(World.cell?_of_block (w:=WA) (a:=⟨b,_,none⟩) hblk).trans h1,(World.cell?_of_block (w:=WA) (a:=⟨b,_,none⟩) hblk).trans h2,(World.cell?_of_block (w:=WA) (a:=⟨b,_,none⟩) hblk).trans h3⟩
     have hbz'':b<w''.heap.size:=Nat.lt_of_lt_of_le hbA hg.size
     have HRAW:=hidE hraw
     clear hbn hBn hq'' hg q0 q1 q2 hraw
     simp only[Act.put,List.setIfInBounds_toArray,List.set_cons_succ,List.set_cons_zero]
     cases hr:(!(vls l k == prevV l k))
     ·have HX:=hidE (mayB_bad hlt (show okAt (0,0) l k=false by rw[HPV.out,hr];rfl))
      clear hcp
      have hcq:=Past.cell (W:=w'')
      repeat (go_big_quiet_step (fail))
      refine wpQuiet_nil ?_
      rintro _ ⟨y,rfl⟩
      have o1:Below w.heap.size w y.1:=bstep y.2 HG.out
      clear hcq
      generalize y.1=w5 at *
      go_wp2
      go_ret
      exact ⟨ret_bool (by rw[HX.out]),o1⟩
     ·have HR:=hidE (show okAt (0,0) l k=(decide (k=0) || decide (ats l (k - 1)<ats l k)) by rw[HPV.out,hr,Bool.true_and])
      clear hr
      by_cases hk0:k=0
      ·have HX:=hidE (show ∀ i,i<k+1→okAt (0,0) l i=true from fun i hi=>by
        by_cases e:i=k
        ·rw[e,HR.out,decide_eq_true hk0];rfl
        ·exact HS.out i (by omega))
       have hd:decide ((0:Int)<(k:Int))=false:=decide_eq_false (by omega)
       clear hcp
       have hcq:=Past.cell (W:=w'')
       repeat (go_big_quiet_step (fail))
       refine wpQuiet_nil ?_
       rintro _ ⟨y,rfl⟩
       have o1:Below w.heap.size w y.1:=bstep y.2 HG.out
       have o2:=HBN.out.past y.2
       clear hcq
       generalize y.1=w5 at *
       go_wp2
       go_roundg (l.length - (k+1))
       case measure=>omega
       case rel=>exact ⟨k+1,by omega,Nat.le_refl _,by go_num,HX.out,o1,by rw[HPS.out];exact o2⟩
      ·obtain ⟨j,rfl⟩:∃ j,k=j+1:=⟨k - 1,by omega⟩
       have hd:decide ((0:Int)<(j:Int)+1)=true:=decide_eq_true (by omega)
       obtain ⟨m0,m1,m2⟩:=HRAW.out.get (i:=j) (by omega)
       clear m1 m2
       by_cases hle:ats l (j+1)≤ats l j
       ·have HX:=hidE (mayB_bad hlt (show okAt (0,0) l (j+1)=false by
         rw[HR.out,Nat.add_sub_cancel,decide_eq_false hk0,decide_eq_false (by omega)];rfl))
        have hd2:decide (ats l (j+1)≤ats l j)=true:=decide_eq_true hle
        clear hcp
        have hcq:=Past.cell (W:=w'')
        repeat (go_big_quiet_step (fail))
        refine wpQuiet_nil ?_
        rintro _ ⟨y,rfl⟩
        have o1:Below w.heap.size w y.1:=bstep y.2 HG.out
        clear hcq
        generalize y.1=w5 at *
        go_wp2
        go_ret
        exact ⟨ret_bool (by rw[HX.out]),o1⟩
       ·have HX:=hidE (show ∀ i,i<j+1+1→okAt (0,0) l i=true from fun i hi=>by
         by_cases e:i=j+1
         ·rw[e,HR.out,Nat.add_sub_cancel,decide_eq_true (show ats l j<ats l (j+1) by omega),Bool.or_true]
         ·exact HS.out i (by omega))
        have hd2:decide (ats l (j+1)≤ats l j)=false:=decide_eq_false hle
        clear hcp
        have hcq:=Past.cell (W:=w'')
        repeat (go_big_quiet_step (fail))
        refine wpQuiet_nil ?_
        rintro _ ⟨y,rfl⟩
        have o1:Below w.heap.size w y.1:=bstep y.2 HG.out
        have o2:=HBN.out.past y.2
        clear hcq
        generalize y.1=w5 at *
        go_wp2
        go_roundg (l.length - (j+1+1))
        case measure=>omega
        case rel=>exact ⟨j+1+1,by omega,Nat.le_refl _,by go_num,HX.out,o1,by rw[HPS.out];exact o2⟩
  ·have hk':k=l.length:=by omega
   subst hk'
   have HX:=hidE (mayB_good HS.out)
   go_wp2
   go_ret
   exact ⟨ret_bool (by rw[HX.out]),HB.out⟩
theorem all_no {L:List (List Sg)} {i:Nat} (hi:i<L.length) (h:mayB (L.getD i [])=false):L.all mayB=false:=by
 rw[getD_get _ _ _ hi] at h
 rw[List.all_eq_false]
 exact ⟨_,List.getElem_mem hi,by rw[h];exact Bool.false_ne_true⟩
theorem all_yes {L:List (List Sg)} (h:∀ i,i<L.length→mayB (L.getD i [])=true):L.all mayB=true:=by
 rw[List.all_eq_true]
 intro x hx
 obtain ⟨i,hi,rfl⟩:=List.getElem_of_mem hx
 have:=h i hi
 rw[getD_get _ _ _ hi] at this;exact this
set_option maxRecDepth 100000 in
set_option maxHeartbeats 1000000 in
theorem canon_c (L:List (List Sg)) (a:Option Addr) (cap:Nat) (w:World) (hn:L.length≤999999990) (hl:lenR L≤999999990) (hA:ArgR w a L) :
  Calls Tryz.prog 119 #[.slice a L.length cap] w fun e w'=>e = .returned (.bool (L.all mayB))∧Below w.heap.size w w':=by
 have HA:=hidE hA;clear hA
 go_enter Tryz.func119,Tryz.ntmps119
 go_wp2
 go_loopg [7,4] L.length (fun gh vi _ wr=>∃ n:Nat,vi = .int .i64 n∧n≤L.length∧L.length - n≤gh∧(∀ i,i<n→mayB (L.getD i [])=true)∧Below w.heap.size w wr)
 case atStart=>exact ⟨0,rfl,by omega,by omega,fun i hi=>by omega,Below.refl _ _⟩
 case round =>
  obtain ⟨n,rfl,hnl,hg,hs,hbr⟩:=hrel
  have HS:=hidE hs;have HBR:=hidE hbr
  clear hs
  by_cases hlt:n<L.length
  ·obtain ⟨b,off,rfl,hb,hc⟩:=(HA.out.past hbr) (by omega)
   obtain ⟨ai,ci,d0,hAi⟩:=hc n hlt
   have HAI:=hidE hAi
   have hln:=lenR_get hlt
   have HV:=hidE (fun w hA=>pmay_c (L.getD n []) ai ci w (by omega) hA)
   have HF:=hidE (fun h=>all_no hlt h)
   have HNS:=hidE (fun (he:mayB (L.getD n [])=true)=>show ∀ i,i<n+1→mayB (L.getD i [])=true from fun i hi=>by
    by_cases e:i=n
    ·rw[e];exact he
    ·exact HS.out i (by omega))
   clear hc hAi hbr
   generalize L.getD n []=G at *
   cases hm:mayB G
   ·have HD:=hidE (HF.out hm)
    rw[hm] at HV
    clear HNS HF hm
    go_wp2_with fail
    ((with_reducible refine (HV.out _ HAI.out).mono ?_);rintro e w1 ⟨rfl,hb1⟩)
    go_wp2
    go_ret
    rw[HD.out]
    exact ⟨rfl,bstep hb1 HBR.out⟩
   ·have HN:=hidE (HNS.out hm)
    rw[hm] at HV
    clear HNS HF hm
    go_wp2_with fail
    ((with_reducible refine (HV.out _ HAI.out).mono ?_);rintro e w1 ⟨rfl,hb1⟩)
    have o1:=bstep hb1 HBR.out
    clear hb1 d0
    go_wp2
    go_roundg (L.length - (n+1))
    case measure=>omega
    case rel=>exact ⟨n+1,by go_num,by omega,Nat.le_refl _,HN.out,o1⟩
  ·have hn':n=L.length:=by omega
   subst hn'
   have HE:=hidE (all_yes HS.out)
   go_wp2
   go_ret
   rw[HE.out]
   exact ⟨rfl,HBR.out⟩
theorem argR_two {w:World} {p:Nat} {F G:List Sg} {a a':Option Addr} {cap cap':Nat} {t:TypeId} (h:Blk w p #[.slice a F.length cap,.slice a' G.length cap'] t) (hA:ArgS w a F) (hA':ArgS w a' G):ArgR w (some ⟨p,0,none⟩) [F,G]:=fun _ =>
 ⟨p,0,rfl,h.lt,fun i hi=>by
  simp only[List.length_cons,List.length_nil] at hi
  match i,hi with
  | 0,_=>exact ⟨a,cap,h.cell 0,hA⟩
  | 1,_=>exact ⟨a',cap',h.cell 1,hA'⟩⟩
theorem canon_two (F G:List Sg) (p:Nat) (a a':Option Addr) (cap cap' c:Nat) (t:TypeId) (w:World) (hl:F.length+G.length≤999999990) (h:Blk w p #[.slice a F.length cap,.slice a' G.length cap'] t) (hA:ArgS w a F) (hA':ArgS w a' G) :
  Calls Tryz.prog 119 #[.slice (some ⟨p,0,none⟩) 2 c] w fun e w'=>e = .returned (.bool (mayB F && mayB G))∧Below w.heap.size w w':=by
 have:=canon_c [F,G] (some ⟨p,0,none⟩) c w (by simp) (by simp[lenR];omega) (argR_two h hA hA')
 simpa using this
set_option maxRecDepth 100000 in
theorem checked_c (k:Int) (F G:List Sg) (a a':Option Addr) (cap cap':Nat) (fn:Fn) (r c:Array Value) (w:World) (hl:F.length+G.length≤999999990) (hA:ArgS w a F) (hA':ArgS w a' G)
  (HC:∀ w',Below w.heap.size w w'→mayB F=true→mayB G=true→Calls Tryz.prog 121 #[.agg #[.slice a F.length cap,.slice a' G.length cap',.func fn r c]] w' (OfIs w' (doS k F G).1 (doS k F G).2)) :
  Calls Tryz.prog 196 #[.agg #[.slice a F.length cap,.slice a' G.length cap',.func fn r c]] w (OfIs w (doS k F G).1 (doS k F G).2):=by
 have HA:=hidE hA;have HA':=hidE hA';have HC':=hidE HC
 clear hA hA' HC
 have HCN:=hidE (fun w p t h hA hA'=>canon_two F G p a a' cap cap' 2 t w hl h hA hA')
 cases hm:(mayB F && mayB G)
 ·have HE:=hidE (doS_form (k:=k) hm)
  rw[HE.out]
  rw[hm] at HCN
  go_enter Tryz.func196,Tryz.ntmps196
  go_wp2_with fail
  have B2:Blk ((w.alloc (Obj.cells #[Value.slice a F.length cap,Value.slice a' G.length cap',Value.func fn r c] 192)).alloc (Obj.cells #[Value.slice a F.length cap,Value.slice a' G.length cap'] 22)) (w.heap.size+1) #[.slice a F.length cap,.slice a' G.length cap'] 22:=Blk.made_at _ _ _ _ (by simp)
  ((with_reducible refine (HCN.out _ _ _ B2 (HA.out.past (by (repeat (first | exact Below.refl _ _ | assumption | refine balloc ?_ _ | refine below_drewN ?_ _ | refine bstep (by assumption) ?_ | refine bstep (Past.prop _) ?_ | refine Below.setCell ?_ (by first | exact Nat.le_refl _ | (simp;done) | (simp;omega)) _)))) (HA'.out.past (by (repeat (first | exact Below.refl _ _ | assumption | refine balloc ?_ _ | refine below_drewN ?_ _ | refine bstep (by assumption) ?_ | refine bstep (Past.prop _) ?_ | refine Below.setCell ?_ (by first | exact Nat.le_refl _ | (simp;done) | (simp;omega)) _))))).mono ?_);rintro e w1 ⟨rfl,hb1⟩)
  have hB:Below w.heap.size w w1:=by (repeat (first | exact Below.refl _ _ | assumption | refine balloc ?_ _ | refine below_drewN ?_ _ | refine bstep (by assumption) ?_ | refine bstep (Past.prop _) ?_ | refine Below.setCell ?_ (by first | exact Nat.le_refl _ | (simp;done) | (simp;omega)) _))
  clear hb1
  go_wp2
  go_ret2
  exact ⟨_,rfl,sliS_nil _,hB⟩
 ·obtain ⟨h1,h2⟩:mayB F=true∧mayB G=true:=by simpa using hm
  rw[hm] at HCN
  have HC2:=hidE (fun w' hb=>HC'.out w' hb h1 h2)
  clear hm h1 h2 HC'
  generalize doS k F G=D at *
  go_enter Tryz.func196,Tryz.ntmps196
  go_wp2_with fail
  have B2:Blk ((w.alloc (Obj.cells #[Value.slice a F.length cap,Value.slice a' G.length cap',Value.func fn r c] 192)).alloc (Obj.cells #[Value.slice a F.length cap,Value.slice a' G.length cap'] 22)) (w.heap.size+1) #[.slice a F.length cap,.slice a' G.length cap'] 22:=Blk.made_at _ _ _ _ (by simp)
  have B1:Blk ((w.alloc (Obj.cells #[Value.slice a F.length cap,Value.slice a' G.length cap',Value.func fn r c] 192)).alloc (Obj.cells #[Value.slice a F.length cap,Value.slice a' G.length cap'] 22)) w.heap.size #[.slice a F.length cap,.slice a' G.length cap',.func fn r c] 192:=(Blk.made _ _ _).alloc _
  ((with_reducible refine (HCN.out _ _ _ B2 (HA.out.past (by (repeat (first | exact Below.refl _ _ | assumption | refine balloc ?_ _ | refine below_drewN ?_ _ | refine bstep (by assumption) ?_ | refine bstep (Past.prop _) ?_ | refine Below.setCell ?_ (by first | exact Nat.le_refl _ | (simp;done) | (simp;omega)) _)))) (HA'.out.past (by (repeat (first | exact Below.refl _ _ | assumption | refine balloc ?_ _ | refine below_drewN ?_ _ | refine bstep (by assumption) ?_ | refine bstep (Past.prop _) ?_ | refine Below.setCell ?_ (by first | exact Nat.le_refl _ | (simp;done) | (simp;omega)) _))))).mono ?_);rintro e w1 ⟨rfl,hb1⟩)
  have hB:Below w.heap.size w w1:=by (repeat (first | exact Below.refl _ _ | assumption | refine balloc ?_ _ | refine below_drewN ?_ _ | refine bstep (by assumption) ?_ | refine bstep (Past.prop _) ?_ | refine Below.setCell ?_ (by first | exact Nat.le_refl _ | (simp;done) | (simp;omega)) _))
  have q1:=B1.past hb1
  clear hb1 B1 B2
  have p0:=q1.cell 0;have p1:=q1.cell 1;have p2:=q1.cell 2;have pf:=q1.free;have pz:=q1.lt
  simp at p0 p1 p2
  have HB:=hidE hB
  clear hB
  go_wp2_with fail
  ((with_reducible refine (HC2.out _ HB.out).mono ?_);rintro e w2 ⟨v2,rfl,hv2,hb2⟩)
  go_wp2
  go_ret2
  exact ⟨_,rfl,hv2,bstep hb2 HB.out⟩
set_option maxRecDepth 100000 in
theorem csub_c (F G:List Sg) (a a':Option Addr) (cap cap':Nat) (w:World) (hF:F.length≤cap) (hc:cap≤9223372036854775807) (hG:G.length≤cap') (hc':cap'≤9223372036854775807) (hl:F.length+G.length≤999999990) (hA:ArgS w a F) (hA':ArgS w a' G) :
  Calls Tryz.prog 167 #[.slice a F.length cap,.slice a' G.length cap'] w (OfIs w (doS 1 F G).1 (doS 1 F G).2):=by
 have HK:=hidE (checked_c 1 F G a a' cap cap' (.func 197) #[] #[] w hl hA hA' (fun w' hb h1 h2=>comb_sub F G a a' cap cap' w' hF hc hG hc' (by omega) (hA.past hb) (hA'.past hb) h1 h2))
 clear hA hA'
 go_enter Tryz.func167,Tryz.ntmps167
 go_wp2_with fail
 ((with_reducible refine (HK.out).mono ?_);rintro e w2 ⟨v2,rfl,hv2,hb2⟩)
 go_wp2
 go_ret2
 exact ⟨_,rfl,hv2,hb2⟩
end
end Go.Proofs.YtcmponckjkalaaaGreat
