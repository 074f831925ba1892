/- The contract of the document's own answer of two vectors, by a number. No conditions. The contracts of the document's own At and May. No conditions but the lists' sizes. The contract of the document's own May of functions. No conditions but the list's size. A region that draws its order: every operation but a forced tail may run in whatever order; each is asked only what .. -/
import Derived.Test.YtcmponckjkalaaaGreatPUGG
import Derived.Test.YtcmponckjkalaaaGreatPUMB
import Derived.Test.YtcmponckjkalaaaGreatPUGF
import Derived.Test.YtcmponckjkalaaaGreatPUGA
import Derived.Deep.Quiet
namespace Go.Proofs.YtcmponckjkalaaaGreat
section
open Go.ChangeShapes Go.WideShapes Go.ChangeAt Go.RowKit
theorem rone (k a b c d:Int) (w:World):Calls Tryz.prog 168 #[.int .i64 k,V a b,V c d] w fun e w'=>e = .returned (VE (opV k (a,b) (c,d)))∧Below w.heap.size w w':=by
 by_cases h0:k=0
 ·subst h0
  rw[opV_0]
  generalize hg:addS a b c d=g
  have Hg:=hidE hg;clear hg
  go_enter Tryz.func168,Tryz.ntmps168
  go_wp2_with (go_at_call 198;((with_reducible refine (radd a b c d _).mono ?_);rintro e w' ⟨rfl,hb⟩;rw[Hg.out];obtain ⟨hc,hf⟩:=bcell hb;have hz0:=bsz hb (w.heap.size) (by first | assumption | (simp;done) | (simp;omega));have hz1:=bsz hb (w.heap.size+1) (by first | assumption | (simp;done) | (simp;omega));have hz2:=bsz hb (w.heap.size+1+1) (by first | assumption | (simp;done) | (simp;omega))))
  refine bodyPost_ret (v:=VE g) (by simp[results,Tryz.results168,go_sem, *]) rfl ⟨rfl, ?_⟩
  (repeat (first | exact Below.refl _ _ | assumption | refine balloc ?_ _ | refine below_drewN ?_ _ | refine bstep (by assumption) ?_ | refine bstep (Past.prop _) ?_ | refine Below.setCell ?_ (by first | exact Nat.le_refl _ | (simp;done) | (simp;omega)) _))
 have d0:(k == 0)=false:=beq_eq_false_iff_ne.2 h0
 by_cases h1:k=1
 ·subst h1
  rw[opV_1]
  generalize hg:subS a b c d=g
  have Hg:=hidE hg;clear hg
  clear h0
  go_enter Tryz.func168,Tryz.ntmps168
  go_wp2_with (go_at_call 199;((with_reducible refine (rsub a b c d _).mono ?_);rintro e w' ⟨rfl,hb⟩;rw[Hg.out];obtain ⟨hc,hf⟩:=bcell hb;have hz0:=bsz hb (w.heap.size) (by first | assumption | (simp;done) | (simp;omega));have hz1:=bsz hb (w.heap.size+1) (by first | assumption | (simp;done) | (simp;omega));have hz2:=bsz hb (w.heap.size+1+1) (by first | assumption | (simp;done) | (simp;omega))))
  refine bodyPost_ret (v:=VE g) (by simp[results,Tryz.results168,go_sem, *]) rfl ⟨rfl, ?_⟩
  (repeat (first | exact Below.refl _ _ | assumption | refine balloc ?_ _ | refine below_drewN ?_ _ | refine bstep (by assumption) ?_ | refine bstep (Past.prop _) ?_ | refine Below.setCell ?_ (by first | exact Nat.le_refl _ | (simp;done) | (simp;omega)) _))
 have d1:(k == 1)=false:=beq_eq_false_iff_ne.2 h1
 by_cases h2:k=2
 ·subst h2
  rw[opV_2]
  clear h0 h1
  go_enter Tryz.func168,Tryz.ntmps168
  go_wp2_with (go_at_call 200;((with_reducible refine (rmn a b c d _).mono ?_);rintro e w' ⟨rfl,hb⟩;obtain ⟨hc,hf⟩:=bcell hb;have hz0:=bsz hb (w.heap.size) (by first | assumption | (simp;done) | (simp;omega));have hz1:=bsz hb (w.heap.size+1) (by first | assumption | (simp;done) | (simp;omega));have hz2:=bsz hb (w.heap.size+1+1) (by first | assumption | (simp;done) | (simp;omega))))
  refine bodyPost_ret (v:=VE (mn a c,mn b d,0)) (by simp[results,Tryz.results168,go_sem, *]) rfl ⟨rfl, ?_⟩
  (repeat (first | exact Below.refl _ _ | assumption | refine balloc ?_ _ | refine below_drewN ?_ _ | refine bstep (by assumption) ?_ | refine bstep (Past.prop _) ?_ | refine Below.setCell ?_ (by first | exact Nat.le_refl _ | (simp;done) | (simp;omega)) _))
 have d2:(k == 2)=false:=beq_eq_false_iff_ne.2 h2
 rw[opV_3 h0 h1 h2]
 clear h0 h1 h2
 go_enter Tryz.func168,Tryz.ntmps168
 go_wp2_with (go_at_call 201;((with_reducible refine (rmx a b c d _).mono ?_);rintro e w' ⟨rfl,hb⟩;obtain ⟨hc,hf⟩:=bcell hb;have hz0:=bsz hb (w.heap.size) (by first | assumption | (simp;done) | (simp;omega));have hz1:=bsz hb (w.heap.size+1) (by first | assumption | (simp;done) | (simp;omega));have hz2:=bsz hb (w.heap.size+1+1) (by first | assumption | (simp;done) | (simp;omega))))
 refine bodyPost_ret (v:=VE (mx a c,mx b d,0)) (by simp[results,Tryz.results168,go_sem, *]) rfl ⟨rfl, ?_⟩
 (repeat (first | exact Below.refl _ _ | assumption | refine balloc ?_ _ | refine below_drewN ?_ _ | refine bstep (by assumption) ?_ | refine bstep (Past.prop _) ?_ | refine Below.setCell ?_ (by first | exact Nat.le_refl _ | (simp;done) | (simp;omega)) _))
end
section
open Go.ChangeShapes Go.WideShapes Go.ChangeAt Go.RowKit
attribute [local irreducible] Go.Calls
set_option maxHeartbeats 1000000 in
theorem rat_c (l:List Sg) (a:Option Addr) (cap:Nat) (t:Int) (w:World) (hl:l.length≤9223372036854775807) (hA:ArgS w a l) :
  Calls Tryz.prog 141 #[.slice a l.length cap,.int .i64 t] w fun e w'=>e = .returned (V (vat l t).1 (vat l t).2)∧Below w.heap.size w w':=by
 have HA:=hidE hA;clear hA
 go_enter Tryz.func141,Tryz.ntmps141
 go_wp2
 go_loopg [6] l.length (fun g vi wr=>∃ k:Nat,k≤l.length∧l.length - k≤g∧vi = .int .i64 k∧Below w.heap.size w wr∧Blk wr (w.heap.size+1) #[.int .i64 (vat (l.take k) t).1,.int .i64 (vat (l.take k) t).2] 60∧Blk wr w.heap.size #[.int .i64 0,.int .i64 0] 60)
 case atStart=>exact ⟨0,Nat.zero_le _,by omega,rfl,by (repeat (first | exact Below.refl _ _ | assumption | refine balloc ?_ _ | refine below_drewN ?_ _ | refine bstep (by assumption) ?_ | refine bstep (Past.prop _) ?_ | refine Below.setCell ?_ (by first | exact Nat.le_refl _ | (simp;done) | (simp;omega)) _)),Blk.made_at _ _ _ _ (by simp),(Blk.made _ _ _).alloc _⟩
 case round =>
  obtain ⟨k,hk,hg,rfl,hb,h1,h0⟩:=hrel
  have c10:=h1.cell 0;have c11:=h1.cell 1;have f1:=h1.free;have c00:=h0.cell 0;have c01:=h0.cell 1;have f0:=h0.free;have z1:=h1.lt;have z0:=h0.lt
  simp at c10 c11 c00 c01
  by_cases hlt:k<l.length
  ·have HST:=hidE (vat_step (t:=t) hlt)
   obtain ⟨b,off,rfl,hbb,hc⟩:=(HA.out.past hb) (by omega)
   have hbw:b<w.heap.size:=by
    obtain ⟨b',off',e,hb',_⟩:=HA.out (by omega)
    simp at e;omega
   obtain ⟨d0,d1,d2⟩:=hc.get hlt
   clear hc
   by_cases hq:ats l k≤t
   ·have HS:=hidE (show vat (l.take (k+1)) t=vls l k by rw[HST.out,if_pos hq])
    have d3:decide (ats l k≤t)=true:=decide_eq_true hq
    have hn1:b≠w.heap.size:=by omega
    have hn2:b≠w.heap.size+1:=by omega
    clear HST c00 c01
    generalize ats l k=u at *
    generalize vls l k=v at *
    generalize vat (l.take k) t=q at *
    go_wp2
    go_roundg (l.length - (k+1))
    case measure=>omega
    case rel=>exact ⟨k+1,by omega,Nat.le_refl _,by go_num,by (repeat (first | exact Below.refl _ _ | assumption | refine balloc ?_ _ | refine below_drewN ?_ _ | refine bstep (by assumption) ?_ | refine bstep (Past.prop _) ?_ | refine Below.setCell ?_ (by first | exact Nat.le_refl _ | (simp;done) | (simp;omega)) _)),by rw[HS.out];exact (h1.set 0 _).set 1 _,(h0.other (by omega) _).other (by omega) _⟩
   ·have HS:=hidE (show vat (l.take (k+1)) t=vat (l.take k) t by rw[HST.out,if_neg hq])
    have d3:decide (ats l k≤t)=false:=decide_eq_false hq
    clear HST
    generalize ats l k=u at *
    go_wp2
    go_roundg (l.length - (k+1))
    case measure=>omega
    case rel=>exact ⟨k+1,by omega,Nat.le_refl _,by go_num,hb,by rw[HS.out];exact h1,h0⟩
  ·have hk':k=l.length:=by omega
   subst hk'
   have e:vat (l.take l.length) t=vat l t:=by rw[List.take_length]
   rw[e] at c10 c11
   clear e
   generalize hq:vat l t=q at *
   have HQ:=hidE hq;clear hq
   go_wp2
   have B0:=(h0.set 0 (.int .i64 q.1)).set 1 (.int .i64 q.2)
   have g0:=B0.cell 0;have g1:=B0.cell 1
   simp at g0 g1
   refine bodyPost_ret (v:=V q.1 q.2) (by simp[results,Tryz.results141,go_sem,g0,g1]) rfl ⟨by rw[HQ.out], ?_⟩
   (repeat (first | exact Below.refl _ _ | assumption | refine balloc ?_ _ | refine below_drewN ?_ _ | refine bstep (by assumption) ?_ | refine bstep (Past.prop _) ?_ | refine Below.setCell ?_ (by first | exact Nat.le_refl _ | (simp;done) | (simp;omega)) _))
set_option maxRecDepth 100000 in
set_option maxHeartbeats 4000000 in
theorem rmayf_c (l:List Sg) (a:Option Addr) (cap:Nat) (w:World) (hl:l.length≤1099511627776) (hA:ArgS w a l) :
  Calls Tryz.prog 89 #[.slice a l.length cap] w fun e w'=>e = .returned (.bool (mayB l))∧Below w.heap.size w w':=by
 have HA:=hidE hA;clear hA
 obtain ⟨p,hp⟩:∃ p,p=w.heap.size:=⟨_,rfl⟩
 have HPP:=hidE hp
 go_enter Tryz.func89,Tryz.ntmps89
 go_wp2
 go_loopg [4] l.length (fun g vi wr=>∃ k:Nat,k≤l.length∧l.length - k≤g∧vi = .int .i64 k∧(∀ i,i<k→okAt (0,0) l i=true)∧Below w.heap.size w wr∧Blk wr w.heap.size #[.int .i64 (prevV l k).1,.int .i64 (prevV l k).2] 60)
 case atStart=>exact ⟨0,Nat.zero_le _,by omega,rfl,fun i hi=>by omega,by (repeat (first | exact Below.refl _ _ | assumption | refine balloc ?_ _ | refine below_drewN ?_ _ | refine bstep (by assumption) ?_ | refine bstep (Past.prop _) ?_ | refine Below.setCell ?_ (by first | exact Nat.le_refl _ | (simp;done) | (simp;omega)) _)),Blk.made_at _ _ _ _ (by simp)⟩
 case round =>
  obtain ⟨k,hk,hg,rfl,hs,hb,hB⟩:=hrel
  have HS:=hidE hs;have HB:=hidE hb;have HBP:=hidE hB
  have q0:=hB.cell 0;have q1:=hB.cell 1;have qf:=hB.free;have qz:=hB.lt
  simp at q0 q1
  clear hs hb hB
  by_cases hlt:k<l.length
  ·obtain ⟨b,off,rfl,hbb,hc⟩:=(HA.out.past HB.out) (by omega)
   have hbw:b<w.heap.size:=by
    obtain ⟨b',off',e,hb',_⟩:=HA.out (by omega)
    simp at e;omega
   have hn1:b≠w.heap.size:=by omega
   obtain ⟨c0,c1,c2⟩:=hc.get hlt
   have HV:=hidE (fun w=>rin_c (l.getD k (0,0,0)) w)
   change Hid (∀ w,Calls _ _ #[S (ats l k) (vls l k).1 (vls l k).2] _ _) at HV
   have HPS:=hidE (prevV_succ l k)
   obtain ⟨wo,rfl⟩:∃ wo:World,wo=wr:=⟨_,rfl⟩
   cases hok:okS (l.getD k (0,0,0))
   ·have HX:=hidE (mayB_bad hlt (show okAt (0,0) l k=false by unfold okAt;rw[hok];rfl))
    rw[hok] at HV
    clear hc HPP hp
    generalize ats l k=u at *
    generalize vls l k=v at *
    generalize prevV l k=q at *
    go_wp2_with fail
    refine wp_region_past_lit (by kernel_rfl) (by kernel_rfl) ?_
    have hcp:=Past.cell (W:=wo)
    repeat (go_big_quiet_step ((go_at_call 117;exact Past.call _ (HV.out _))))
    refine wpQuiet_nil ?_
    rintro _ ⟨x',rfl⟩
    have o1:Below w.heap.size w x'.1:=bstep x'.2 HB.out
    clear hcp
    generalize x'.1=w5 at *
    go_wp2
    go_ret
    exact ⟨ret_bool (by rw[HX.out]),o1⟩
   ·rw[hok] at HV
    have HOK:=hidE hok
    have HPV:=hidE (show okAt (0,0) l k=(!(vls l k == prevV l k) && (decide (k=0) || decide (ats l (k - 1)<ats l k))) by unfold okAt;rw[HOK.out,Bool.true_and];rfl)
    by_cases hv:vls l k=prevV l k
    ·have HX:=hidE (mayB_bad hlt (show okAt (0,0) l k=false by rw[HPV.out,hv];simp))
     rw[←hv] at q0 q1
     clear hc HPP hp hv HPV HBP HOK hok
     generalize ats l k=u at *
     generalize vls l k=v at *
     go_wp2_with fail
     refine wp_region_past_lit (by kernel_rfl) (by kernel_rfl) ?_
     have hcp:=Past.cell (W:=wo)
     repeat (go_big_quiet_step ((go_at_call 117;exact Past.call _ (HV.out _))))
     refine wpQuiet_nil ?_
     rintro _ ⟨x',rfl⟩
     have o1:Below w.heap.size w x'.1:=bstep x'.2 HB.out
     clear hcp
     generalize x'.1=w5 at *
     go_wp2
     go_ret
     exact ⟨ret_bool (by rw[HX.out]),o1⟩
    ·have hne:((vls l k).1 == (prevV l k).1)=true→((vls l k).2 == (prevV l k).2)=false:=fun h=>by
      rw[Bool.eq_false_iff];intro h2
      exact hv (Prod.ext (beq_iff_eq.1 h) (beq_iff_eq.1 h2))
     have HNE:=hidE hne
     have HR:=hidE (show okAt (0,0) l k=(decide (k=0) || decide (ats l (k - 1)<ats l k)) by rw[HPV.out,beq_eq_false_iff_ne.2 hv];rfl)
     clear hne hv HPV HOK hok
     by_cases hk0:k=0
     ·have HX:=hidE (show ∀ i,i<k+1→okAt (0,0) l i=true from fun i hi=>by
       by_cases e:i=k
       ·rw[e,HR.out,decide_eq_true hk0];rfl
       ·exact HS.out i (by omega))
      have hd:decide (0<k)=false:=decide_eq_false (by omega)
      clear hc HPP hp HR hk0
      generalize ats l k=u at *
      generalize vls l k=v at *
      generalize prevV l k=q at *
      cases hm:(v.1 == q.1)
      rotate_left
      ·have hm2:=HNE.out hm
       go_wp2_with fail
       refine wp_region_past_lit (by kernel_rfl) (by kernel_rfl) ?_
       have hcp:=Past.cell (W:=wo)
       repeat (go_big_quiet_step ((go_at_call 117;exact Past.call _ (HV.out _))))
       refine wpQuiet_nil ?_
       rintro _ ⟨x',rfl⟩
       have o1:Below w.heap.size w x'.1:=bstep x'.2 HB.out
       have oB:=HBP.out.past x'.2
       have r0:=(hcp x' b (off+k * 3+1) hbb).trans c1
       have r1:=(hcp x' b (off+k * 3+2) hbb).trans c2
       have of':=oB.free
       have y0:=oB.cell 0
       have y1:=oB.cell 1
       simp at y0 y1
       have oz:=oB.lt
       have obz:b<x'.1.heap.size:=Nat.lt_of_lt_of_le hbb x'.2.size
       clear hcp c0 c1 c2 q0 q1 qf qz hbb
       generalize x'.1=w5 at *
       go_wp2
       go_roundg (l.length - (k+1))
       case measure=>omega
       case rel=>exact ⟨k+1,by omega,Nat.le_refl _,by go_num,HX.out,by (repeat (first | exact Below.refl _ _ | assumption | refine balloc ?_ _ | refine below_drewN ?_ _ | refine bstep (by assumption) ?_ | refine bstep (Past.prop _) ?_ | refine Below.setCell ?_ (by first | exact Nat.le_refl _ | (simp;done) | (simp;omega)) _)),by rw[HPS.out];exact (oB.set 0 _).set 1 _⟩
      ·clear HNE
       go_wp2_with fail
       refine wp_region_past_lit (by kernel_rfl) (by kernel_rfl) ?_
       have hcp:=Past.cell (W:=wo)
       repeat (go_big_quiet_step ((go_at_call 117;exact Past.call _ (HV.out _))))
       refine wpQuiet_nil ?_
       rintro _ ⟨x',rfl⟩
       have o1:Below w.heap.size w x'.1:=bstep x'.2 HB.out
       have oB:=HBP.out.past x'.2
       have r0:=(hcp x' b (off+k * 3+1) hbb).trans c1
       have r1:=(hcp x' b (off+k * 3+2) hbb).trans c2
       have of':=oB.free
       have y0:=oB.cell 0
       have y1:=oB.cell 1
       simp at y0 y1
       have oz:=oB.lt
       have obz:b<x'.1.heap.size:=Nat.lt_of_lt_of_le hbb x'.2.size
       clear hcp c0 c1 c2 q0 q1 qf qz hbb
       generalize x'.1=w5 at *
       go_wp2
       go_roundg (l.length - (k+1))
       case measure=>omega
       case rel=>exact ⟨k+1,by omega,Nat.le_refl _,by go_num,HX.out,by (repeat (first | exact Below.refl _ _ | assumption | refine balloc ?_ _ | refine below_drewN ?_ _ | refine bstep (by assumption) ?_ | refine bstep (Past.prop _) ?_ | refine Below.setCell ?_ (by first | exact Nat.le_refl _ | (simp;done) | (simp;omega)) _)),by rw[HPS.out];exact (oB.set 0 _).set 1 _⟩
     ·obtain ⟨j,hj⟩:∃ j,k=j+1:=⟨k - 1,by omega⟩
      have hd:decide (0<k)=true:=decide_eq_true (by omega)
      have hkj:(k:Int) - 1=(j:Int):=by omega
      have HKJ:=hidE hkj
      have hjl:j<l.length:=by omega
      obtain ⟨e0,_,_⟩:=hc.get hjl
      by_cases hlt2:ats l j<ats l k
      ·have HX:=hidE (show ∀ i,i<k+1→okAt (0,0) l i=true from fun i hi=>by
        by_cases e:i=k
        ·rw[e,HR.out,hj,Nat.add_sub_cancel,←hj,decide_eq_true hlt2,Bool.or_true]
        ·exact HS.out i (by omega))
       have hd2:decide (ats l k≤ats l j)=false:=decide_eq_false (by omega)
       have HHJ:=hidE hj
       clear hc HPP hp HR hlt2 hj hkj
       generalize ats l j=u' at *
       generalize ats l k=u at *
       generalize vls l k=v at *
       generalize prevV l k=q at *
       cases hm:(v.1 == q.1)
       rotate_left
       ·have hm2:=HNE.out hm
        go_wp2_with fail
        refine wp_region_past_lit (by kernel_rfl) (by kernel_rfl) ?_
        have hcp:=Past.cell (W:=wo)
        have hkj:=HKJ.out
        repeat (go_big_quiet_step ((go_at_call 117;exact Past.call _ (HV.out _))))
        refine wpQuiet_nil ?_
        rintro _ ⟨x',rfl⟩
        have o1:Below w.heap.size w x'.1:=bstep x'.2 HB.out
        have oB:=HBP.out.past x'.2
        have r0:=(hcp x' b (off+k * 3+1) hbb).trans c1
        have r1:=(hcp x' b (off+k * 3+2) hbb).trans c2
        have of':=oB.free
        have y0:=oB.cell 0
        have y1:=oB.cell 1
        simp at y0 y1
        have oz:=oB.lt
        have obz:b<x'.1.heap.size:=Nat.lt_of_lt_of_le hbb x'.2.size
        clear hcp c0 c1 c2 q0 q1 qf qz hbb
        generalize x'.1=w5 at *
        go_wp2
        go_roundg (l.length - (k+1))
        case measure=>omega
        case rel=>exact ⟨k+1,by omega,Nat.le_refl _,by go_num,HX.out,by (repeat (first | exact Below.refl _ _ | assumption | refine balloc ?_ _ | refine below_drewN ?_ _ | refine bstep (by assumption) ?_ | refine bstep (Past.prop _) ?_ | refine Below.setCell ?_ (by first | exact Nat.le_refl _ | (simp;done) | (simp;omega)) _)),by rw[HPS.out];exact (oB.set 0 _).set 1 _⟩
       ·clear HNE
        go_wp2_with fail
        refine wp_region_past_lit (by kernel_rfl) (by kernel_rfl) ?_
        have hcp:=Past.cell (W:=wo)
        have hkj:=HKJ.out
        repeat (go_big_quiet_step ((go_at_call 117;exact Past.call _ (HV.out _))))
        refine wpQuiet_nil ?_
        rintro _ ⟨x',rfl⟩
        have o1:Below w.heap.size w x'.1:=bstep x'.2 HB.out
        have oB:=HBP.out.past x'.2
        have r0:=(hcp x' b (off+k * 3+1) hbb).trans c1
        have r1:=(hcp x' b (off+k * 3+2) hbb).trans c2
        have of':=oB.free
        have y0:=oB.cell 0
        have y1:=oB.cell 1
        simp at y0 y1
        have oz:=oB.lt
        have obz:b<x'.1.heap.size:=Nat.lt_of_lt_of_le hbb x'.2.size
        clear hcp c0 c1 c2 q0 q1 qf qz hbb
        generalize x'.1=w5 at *
        go_wp2
        go_roundg (l.length - (k+1))
        case measure=>omega
        case rel=>exact ⟨k+1,by omega,Nat.le_refl _,by go_num,HX.out,by (repeat (first | exact Below.refl _ _ | assumption | refine balloc ?_ _ | refine below_drewN ?_ _ | refine bstep (by assumption) ?_ | refine bstep (Past.prop _) ?_ | refine Below.setCell ?_ (by first | exact Nat.le_refl _ | (simp;done) | (simp;omega)) _)),by rw[HPS.out];exact (oB.set 0 _).set 1 _⟩
      ·have HX:=hidE (mayB_bad hlt (show okAt (0,0) l k=false by
        rw[HR.out,decide_eq_false hk0,Bool.false_or,hj,Nat.add_sub_cancel,←hj];exact decide_eq_false hlt2))
       have hd2:decide (ats l k≤ats l j)=true:=decide_eq_true (by omega)
       have HHJ:=hidE hj
       clear hc HPP hp HR hlt2 hj hkj
       generalize ats l j=u' at *
       generalize ats l k=u at *
       generalize vls l k=v at *
       generalize prevV l k=q at *
       cases hm:(v.1 == q.1)
       rotate_left
       ·have hm2:=HNE.out hm
        go_wp2_with fail
        refine wp_region_past_lit (by kernel_rfl) (by kernel_rfl) ?_
        have hcp:=Past.cell (W:=wo)
        have hkj:=HKJ.out
        repeat (go_big_quiet_step ((go_at_call 117;exact Past.call _ (HV.out _))))
        refine wpQuiet_nil ?_
        rintro _ ⟨x',rfl⟩
        have o1:Below w.heap.size w x'.1:=bstep x'.2 HB.out
        clear hcp
        generalize x'.1=w5 at *
        go_wp2
        go_ret
        exact ⟨ret_bool (by rw[HX.out]),o1⟩
       ·clear HNE
        go_wp2_with fail
        refine wp_region_past_lit (by kernel_rfl) (by kernel_rfl) ?_
        have hcp:=Past.cell (W:=wo)
        have hkj:=HKJ.out
        repeat (go_big_quiet_step ((go_at_call 117;exact Past.call _ (HV.out _))))
        refine wpQuiet_nil ?_
        rintro _ ⟨x',rfl⟩
        have o1:Below w.heap.size w x'.1:=bstep x'.2 HB.out
        clear hcp
        generalize x'.1=w5 at *
        go_wp2
        go_ret
        exact ⟨ret_bool (by rw[HX.out]),o1⟩
  ·have hk':k=l.length:=by omega
   subst hk'
   have HX:=hidE (mayB_good HS.out)
   go_wp2
   go_ret
   exact ⟨ret_bool (by rw[HX.out]),by have:=HB.out;(repeat (first | exact Below.refl _ _ | assumption | refine balloc ?_ _ | refine below_drewN ?_ _ | refine bstep (by assumption) ?_ | refine bstep (Past.prop _) ?_ | refine Below.setCell ?_ (by first | exact Nat.le_refl _ | (simp;done) | (simp;omega)) _))⟩
end
section
open Go.RowKit
def gives (P:Program) (G:Value→World→Prop):Result Next→Prop
 | .ok (.value u) w'=>G u w'
 | .ok .skip w'=>G undef w'
 | .ok (.enter f args) w'=>Calls P f args w' (fun e w''=>∃ v,e = .returned v∧G v w'')
 | _=>False
theorem upon_of_gives {P:Program} {o:Oper} {a:Act} {next:Act→World→Prop} {Q:Exit→Act→World→Prop} {G:Value→World→Prop} {r:Result Next}
  (h:gives P G r) (hn:∀ v w',G v w'→next (a.put o.dst v) w'):o.upon P a next Q r:=by
 cases r with
 | ok n w' =>
  cases n<;>simp only[gives] at h<;>simp only[Oper.upon]
  case value u=>exact hn _ _ h
  case skip=>exact hn _ _ h
  case enter f args=>exact h.mono fun e w'' ⟨v,he,hg⟩=>by subst he;exact hn _ _ hg
 | halt x w'=>simp only[gives] at h
def waits (ops:Array Oper) (i j:Nat):Bool:=match ops[i]? with
 | some o=>o.after.any fun e=>Region.binds .any e && e.on == j
 | none=>false
def cover (ops:Array Oper):Nat→Nat→Nat→Bool
 | 0,i,j=>waits ops i j
 | d+1,i,j=>waits ops i j || (List.range i).any fun k=>waits ops i k && cover ops d k j
def coverX (ops:Array Oper) (i j:Nat):Bool:=cover ops 3 i j || cover ops 8 i j
def frm (l:List Oper) (u:Nat→Value):Nat→Act→Act
 | k, a => match l with
   | []=>a
   | o :: r=>frm r u (k+1) (a.put o.dst (u k))
def jOk (l:List Oper) (n:Nat) (lax:List Nat):Bool :=
 Region.noSelect l.toArray &&
 ((List.range l.length).all fun i => match l[i]? with
   | some o=>o.after.all fun e => !Region.binds .any e || decide (e.on<i)
   | none=>true) &&
 ((List.range n).all fun i => match l[i]? with
   | some o => (List.range n).all fun j => match l[j]? with
     | some p => match p.dst with
       | some t=>(!(o.looksAt l.toArray).contains t || waits l.toArray i j) && (i == j || o.dst != some t)
       | none=>true
     | none=>true
   | none=>true) &&
 ((List.range l.length).all fun i=>decide (i<n) || (List.range i).all fun j=>lax.contains j || coverX l.toArray i j) &&
 (lax.all fun i=>decide (i<n)) &&
 (lax.all fun i=>match l[i]? with
  | some o => (List.range l.length).all fun j => match l[j]? with
    | some p=>j == i || (decide (j<n) && !lax.contains j) || waits l.toArray j i || o.apart l.toArray p
    | none=>true
  | none=>true)
structure Shut (ops:Array Oper) (listed:Array Bool):Prop where
 size:listed.size=ops.size
 deps:∀ i o,ops[i]? = some o→listed.getD i false=true→∀ e∈o.after,Region.binds .any e=true→listed.getD e.on false=true
theorem waits_listed {ops:Array Oper} {listed:Array Bool} {i j:Nat} {o:Oper} (ho:ops[i]? = some o)
  (hd:∀ e∈o.after,Region.binds .any e=true→listed.getD e.on false=true) (h:waits ops i j=true):listed.getD j false=true:=by
 unfold waits at h
 rw[ho] at h
 obtain ⟨e,he,hb⟩:=Array.any_eq_true'.1 h
 simp only[Bool.and_eq_true,beq_iff_eq] at hb
 exact hb.2 ▸ hd e he hb.1
theorem cover_listed {ops:Array Oper} {listed:Array Bool} (hs:Shut ops listed):∀ (d i j:Nat) (o:Oper),ops[i]? = some o →
  (∀ e∈o.after,Region.binds .any e=true→listed.getD e.on false=true)→cover ops d i j=true→listed.getD j false=true:=by
 intro d
 induction d with
 | zero=>intro i j o ho hd h;exact waits_listed ho hd h
 | succ d ih =>
  intro i j o ho hd h
  simp only[cover,Bool.or_eq_true,List.any_eq_true,Bool.and_eq_true] at h
  rcases h with h | ⟨k,_,hk,hc⟩
  ·exact waits_listed ho hd h
  ·have hkl:=waits_listed ho hd hk
   cases hok:ops[k]? with
   | none =>
    have hlt:¬ k<ops.size:=by intro hlt;rw[Array.getElem?_eq_getElem hlt] at hok;cases hok
    rw[←hs.size] at hlt
    simp[Array.getElem?_eq_none (Nat.not_lt.1 hlt)] at hkl
   | some ok=>exact ih k j ok hok (hs.deps k ok hok hkl) hc
theorem coverX_listed {ops:Array Oper} {listed:Array Bool} (hs:Shut ops listed) (i j:Nat) (o:Oper) (ho:ops[i]? = some o)
  (hd:∀ e∈o.after,Region.binds .any e=true→listed.getD e.on false=true) (h:coverX ops i j=true):listed.getD j false=true:=by
 unfold coverX at h
 rw[Bool.or_eq_true] at h
 rcases h with h | h
 ·exact cover_listed hs 3 i j o ho hd h
 ·exact cover_listed hs 8 i j o ho hd h
theorem getD_flip {x:Array Bool} {j:Nat} (h:j<x.size) (d e:Bool):x.getD j d=x.getD j e:=by simp[h]
theorem tail_any {P:Program} {l:List Oper} {n:Nat} {Q:Exit→Act→World→Prop}
  (hback:∀ i o,l[i]? = some o→∀ e∈o.after,Region.binds .any e=true→e.on<i)
  (hok:∀ i,n≤i→i<l.length→∀ j,n≤j→j<i→coverX l.toArray i j=true) :
  ∀ (fuel k : Nat) (listed : Array Bool) (a : Act) (w : World), n ≤ k → k ≤ l.length → l.length ≤ k + fuel → Shut l.toArray listed →
    (∀ j,j<l.length→listed.getD j false=decide (j<k))→wpList P l.toArray Q (l.drop k) a w→wpAny P .any l.toArray Q fuel listed a w:=by
 have done:∀ (k:Nat) (listed:Array Bool),l.length≤k→Shut l.toArray listed→(∀ j,j<l.length→listed.getD j false=decide (j<k))→Region.ready .any l.toArray listed=[]:=by
  intro k listed hk hs hl
  apply List.eq_nil_iff_forall_not_mem.2
  intro j hj
  obtain ⟨h0,o,ho,_⟩:=mem_ready.1 hj
  have hjl:j<l.length:=by
   rcases Nat.lt_or_ge j l.length with h | h
   ·exact h
   ·simp[List.getElem?_eq_none h] at ho
  have:=hl j hjl
  rw[getD_flip (by rw[hs.size];simp;exact hjl) false true,h0] at this
  simp at this;omega
 intro fuel
 induction fuel with
 | zero =>
  intro k listed a w _ hk1 hk2 hs hl h
  have hk:k=l.length:=by omega
  subst hk
  rw[List.drop_length] at h
  exact ⟨done _ _ (Nat.le_refl _) hs hl,h⟩
 | succ fuel ih =>
  intro k listed a w hnk hk1 hk2 hs hl h
  rcases Nat.lt_or_ge k l.length with hlt | hge
  ·have hok':l[k]? = some l[k]:=List.getElem?_eq_getElem hlt
   have hka:l.toArray[k]? = some l[k]:=by simp
   rw[List.drop_eq_getElem_cons hlt] at h
   have hdeps:∀ e∈l[k].after,Region.binds .any e=true→listed.getD e.on false=true:=fun e he hb=>by
    have:=hback k _ hok' e he hb
    rw[hl e.on (by omega)];simpa using this
   refine ⟨fun h0 => ?_,fun j hj => ?_⟩
   ·exfalso
    have:k∈Region.ready .any l.toArray listed:=by
     refine mem_ready.2 ⟨?_,l[k],hka,hdeps⟩
     rw[getD_flip (by rw[hs.size];simp;exact hlt) true false,hl k hlt];simp
    rw[h0] at this;cases this
   ·obtain ⟨h0,o,ho,hd⟩:=mem_ready.1 hj
    have hjl:j<l.length:=by
     rcases Nat.lt_or_ge j l.length with h | h
     ·exact h
     ·simp[List.getElem?_eq_none h] at ho
    have hjk:k≤j:=by
     have:=hl j hjl
     rw[getD_flip (by rw[hs.size];simp;exact hjl) false true,h0] at this
     simp at this;exact this
    have hej:j=k:=by
     rcases Nat.lt_or_ge k j with hlt' | hge'
     ·have:=coverX_listed hs j k o ho hd (hok j (by omega) hjl k hnk hlt')
      rw[hl k hlt] at this;simp at this
     ·omega
    subst hej
    have hwp:wpOp P l.toArray Q j (wpList P l.toArray Q (l.drop (j+1))) a w:=by
     unfold wpOp;simp only[hka];exact h
    refine wpOp_mono (fun a' w' h'=>ih (j+1) _ a' w' (by omega) (by omega) (by omega) ⟨by simpa using hs.size, ?_⟩ ?_ h') hwp
    ·intro i oi hi hli e he hb
     by_cases hij:i=j
     ·subst hij
      rw[hka] at hi;cases hi
      exact getD_set_true (hdeps e he hb)
     ·rw[getD_set_ne false (Ne.symm hij)] at hli
      exact getD_set_true (hs.deps i oi hi hli e he hb)
    ·intro i hi
     by_cases hij:i=j
     ·subst hij
      have:i<listed.size:=by rw[hs.size];simpa using hi
      simp[this]
     ·rw[getD_set_ne false (Ne.symm hij),hl i hi,decide_eq_decide];omega
  ·have hk:k=l.length:=by omega
   subst hk
   rw[List.drop_length] at h
   exact wpAny_done (done _ _ (Nat.le_refl _) hs hl) h _
theorem frm_spec (u:Nat→Value):∀ (l:List Oper) (k:Nat) (a:Act),(frm l u k a).tmps.size=a.tmps.size∧(frm l u k a).defers=a.defers ∧
  (∀ (t:Tmp),(∀ (j:Nat) (o:Oper),l[j]? = some o→o.dst≠some t)→(frm l u k a).tmps[t]? = a.tmps[t]?) ∧
  (∀ (j:Nat) (o:Oper) (t:Tmp),l[j]? = some o→o.dst=some t→(∀ (i:Nat) (p:Oper),l[i]? = some p→i≠j→p.dst≠some t)→t<a.tmps.size→(frm l u k a).tmps[t]? = some (u (k+j))):=by
 intro l
 induction l with
 | nil=>intro k a;exact ⟨rfl,rfl,fun _ _=>rfl,fun j o t h=>by simp at h⟩
 | cons q r ih =>
  intro k a
  obtain ⟨h1,h2,h3,h4⟩:=ih (k+1) (a.put q.dst (u k))
  have hs:(a.put q.dst (u k)).tmps.size=a.tmps.size:=by cases q.dst<;>simp[Act.put]
  have hd:(a.put q.dst (u k)).defers=a.defers:=by cases q.dst<;>simp[Act.put]
  refine ⟨by rw[←hs];exact h1,by rw[←hd];exact h2,fun t ht => ?_,fun j o t hj hdst huniq hlt => ?_⟩
  ·have e:=h3 t (fun j o hj=>ht (j+1) o (by simpa using hj))
   show (frm r u (k+1) (a.put q.dst (u k))).tmps[t]? = _
   rw[e]
   have hq:=ht 0 q (by simp)
   cases hqd:q.dst with
   | none=>rfl
   | some d =>
    have hne:d≠t:=fun e=>hq (by rw[hqd,e])
    simp[Act.put,Array.getElem?_setIfInBounds_ne hne]
  ·show (frm r u (k+1) (a.put q.dst (u k))).tmps[t]? = _
   cases j with
   | zero =>
    simp at hj;subst hj
    rw[h3 t (fun i p hi=>huniq (i+1) p (by simpa using hi) (by omega)),hdst]
    simp[Act.put,hlt]
   | succ j =>
    have:=h4 j o t (by simpa using hj) hdst (fun i p hi hne=>huniq (i+1) p (by simpa using hi) (by omega)) (by rw[hs];exact hlt)
    rw[this];congr 2;omega
structure JInv (l:List Oper) (n:Nat) (a0:Act) (w0:World) (R:Nat→Value→World→Prop) (fr:Nat→Bool) (u:Nat→Value) (listed:Array Bool) (a:Act) (w:World):Prop where
 shut:Shut l.toArray listed
 notail:∀ j,n≤j→j<l.length→listed.getD j false=false
 size:a.tmps.size=a0.tmps.size
 defers:a.defers=a0.defers
 mine:∀ (j:Nat) (o:Oper) (t:Tmp),j<n→l[j]? = some o→listed.getD j false=true→o.dst=some t→t<a0.tmps.size→a.tmps[t]? = some (u j)
 rest:∀ (t:Tmp),(∀ (j:Nat) (o:Oper),j<n→l[j]? = some o→listed.getD j false=true→o.dst≠some t)→a.tmps[t]? = a0.tmps[t]?
 past:Below w0.heap.size w0 w
 facts:∀ j,j<n→listed.getD j false=true→R j (u j) w
 fresh:∀ j,j<n→listed.getD j false=true→fr j=true→∃ p,u j = .pointer (some ⟨p,0,none⟩)∧p<w.heap.size
 apart:∀ i j,i<n→j<n→i≠j→listed.getD i false=true→listed.getD j false=true→fr i=true→fr j=true→u i≠u j
def JStep (P:Program) (l:List Oper) (n:Nat) (a0:Act) (w0:World) (R:Nat→Value→World→Prop) (fr:Nat→Bool) (i:Nat) (o:Oper):Prop :=
 ∀ (u : Nat → Value) (x : Past w0), (∀ j, j < n → waits l.toArray i j = true → R j (u j) x.1) →
   if Region.wanted o (yielded l.toArray (frm (l.take n) u 0 a0).tmps) then
    gives P (fun v w'=>Below x.1.heap.size x.1 w'∧R i v w'∧(fr i=true→∃ p,v = .pointer (some ⟨p,0,none⟩)∧x.1.heap.size≤p∧p<w'.heap.size)) ((execOp (frm (l.take n) u 0 a0).eval o).run P x.1)
   else R i undef x.1∧fr i=false
structure JOk (l:List Oper) (n:Nat) (lax:List Nat):Prop where
 sel:Region.noSelect l.toArray=true
 back:∀ (i:Nat) (o:Oper),l[i]? = some o→∀ e∈o.after,Region.binds .any e=true→e.on<i
 own:∀ (i:Nat) (o:Oper) (j:Nat) (p:Oper) (t:Tmp),i<n→j<n→l[i]? = some o→l[j]? = some p→p.dst=some t→t∈o.looksAt l.toArray→waits l.toArray i j=true
 one:∀ (i:Nat) (o:Oper) (j:Nat) (p:Oper) (t:Tmp),i<n→j<n→l[i]? = some o→l[j]? = some p→p.dst=some t→o.dst=some t→i=j
 tail:∀ i,n≤i→i<l.length→∀ j,j<i→j ∉ lax→coverX l.toArray i j=true
 laxLt:∀ i,i∈lax→i<n
 laxA:∀ (i j:Nat) (o p:Oper),i∈lax→l[i]? = some o→l[j]? = some p→j≠i→(n≤j∨j∈lax)→waits l.toArray j i=true∨o.apart l.toArray p=true
theorem jOk_spec {l:List Oper} {n:Nat} {lax:List Nat} (h:jOk l n lax=true):JOk l n lax:=by
 simp only[jOk,Bool.and_eq_true,List.all_eq_true,List.mem_range] at h
 obtain ⟨⟨⟨⟨⟨h1,h2⟩,h3⟩,h4⟩,h5⟩,h6⟩:=h
 refine ⟨h1, ?_, ?_, ?_, ?_,fun i hi=>by simpa using h5 i hi, ?_⟩
 rotate_left 4
 ·intro i j o p hi ho hp hne hj
  have:=h6 i hi
  rw[ho] at this
  have:=List.all_eq_true.1 this j (List.mem_range.2 (List.getElem?_eq_some_iff.1 hp).1)
  rw[hp] at this
  simp only[Bool.or_eq_true,Bool.and_eq_true,decide_eq_true_eq,beq_iff_eq,Bool.not_eq_true'] at this
  rcases this with ((h | h) | h) | h
  ·exact absurd h hne
  ·exfalso
   rcases hj with hj | hj
   ·omega
   ·have:=h.2;simp[hj] at this
  ·exact .inl h
  ·exact .inr h
 ·intro i o ho e he hb
  have:=h2 i (List.getElem?_eq_some_iff.1 ho).1
  rw[ho] at this
  have:=Array.all_eq_true_iff_forall_mem.1 this e he
  simpa [hb] using this
 ·intro i o j p t hi hj ho hp ht hl
  have:=h3 i hi
  rw[ho] at this
  have:=List.all_eq_true.1 this j (List.mem_range.2 hj)
  rw[hp] at this
  simp only[ht,Bool.and_eq_true,Bool.or_eq_true,Bool.not_eq_true'] at this
  rcases this.1 with h | h
  ·exact absurd hl (by simpa using h)
  ·exact h
 ·intro i o j p t hi hj ho hp ht hd
  have:=h3 i hi
  rw[ho] at this
  have:=List.all_eq_true.1 this j (List.mem_range.2 hj)
  rw[hp] at this
  simp only[ht,Bool.and_eq_true,Bool.or_eq_true] at this
  rcases this.2 with h | h
  ·simpa using h
  ·rw[hd] at h;simp at h
 ·intro i hi hl j hj hjx
  have:=h4 i hl
  simp only[Bool.or_eq_true,decide_eq_true_eq,List.all_eq_true,List.mem_range] at this
  rcases this with h | h
  ·omega
  ·rcases h j hj with h | h
   ·exact absurd (by simpa using h) hjx
   ·exact h
section
variable {P:Program} {l:List Oper} {n:Nat} {lax:List Nat} {a0:Act} {w0:World} {R:Nat→Value→World→Prop} {fr:Nat→Bool}
theorem look_same (_hn:n≤l.length) (hok:JOk l n lax) {u:Nat→Value} {listed:Array Bool} {a:Act} {w:World} (hI:JInv l n a0 w0 R fr u listed a w)
  {i:Nat} {o:Oper} (hi:i<n) (ho:l[i]? = some o) (hd:∀ e∈o.after,Region.binds .any e=true→listed.getD e.on false=true) :
  ∀ t,t∈o.looksAt l.toArray→a.tmps[t]? = (frm (l.take n) u 0 a0).tmps[t]? := by
 intro t ht
 obtain ⟨f1,_,f3,f4⟩:=frm_spec u (l.take n) 0 a0
 by_cases h:∃ (j:Nat) (p:Oper),j<n∧l[j]? = some p∧p.dst=some t
 ·obtain ⟨j,p,hj,hp,hpt⟩:=h
  have hw:=hok.own i o j p t hi hj ho hp hpt ht
  have hl:=waits_listed (ops:=l.toArray) (i:=i) (by simpa using ho) hd hw
  rcases Nat.lt_or_ge t a0.tmps.size with hlt | hge
  ·rw[hI.mine j p t hj hp hl hpt hlt,f4 j p t (by rw[List.getElem?_take,if_pos hj];exact hp) hpt (fun k q hq hne => ?_) hlt]
   ·simp
   ·intro hqt
    rw[List.getElem?_take] at hq
    split at hq
    ·rename_i hk;exact hne (hok.one k q j p t hk hj hq hp hpt hqt)
    ·cases hq
  ·rw[Array.getElem?_eq_none (by rw[hI.size];exact hge),Array.getElem?_eq_none (by rw[f1];exact hge)]
 ·rw[hI.rest t (fun j p hj hp _ hpt=>h ⟨j,p,hj,hp,hpt⟩),f3 t (fun j p hp hpt => ?_)]
  rw[List.getElem?_take] at hp
  split at hp
  ·rename_i hk;exact h ⟨j,p,hk,hp,hpt⟩
  ·cases hp
theorem exec_same {a a':Act} {o:Oper} {ops:Array Oper} (hs:∀ cs b,o.op ≠ .select cs b) (h:∀ t,t∈o.looksAt ops→a.tmps[t]? = a'.tmps[t]?):execOp a.eval o=execOp a'.eval o:=by
 refine execOp_congr o hs fun x hx => ?_
 cases x with
 | tmp t =>
  have:=h t (List.mem_append_left _ (List.mem_filterMap.2 ⟨.tmp t,by simpa using hx,rfl⟩))
  simp only[Act.eval,Array.getD_eq_getD_getElem?,this]
 | const v=>rfl
 | global g=>rfl
 | func f=>rfl
theorem wanted_same {a a':Act} {o:Oper} {ops:Array Oper} (h:∀ t,t∈o.looksAt ops→a.tmps[t]? = a'.tmps[t]?) :
  Region.wanted o (yielded ops a.tmps)=Region.wanted o (yielded ops a'.tmps):=by
 unfold Region.wanted
 cases hg:o.guard with
 | none=>rfl
 | some gw =>
  obtain ⟨g,want⟩:=gw
  have hy:yielded ops a.tmps g=yielded ops a'.tmps g:=by
   unfold yielded
   cases ht:(ops[g]?).bind (·.dst) with
   | none=>rfl
   | some t=>simp only[Option.bind_some,h t (List.mem_append_right _ (by simp[hg,ht]))]
  simp only[hy]
theorem JInv.next (hok:JOk l n lax) (hst:∀ i v w w',R i v w→Below w.heap.size w w'→R i v w') {u:Nat→Value} {listed:Array Bool} {a:Act} {w:World} (hI:JInv l n a0 w0 R fr u listed a w)
  {i:Nat} {o:Oper} (hi:i<n) (hn:n≤l.length) (ho:l[i]? = some o) (hun:listed.getD i false=false) (hd:∀ e∈o.after,Region.binds .any e=true→listed.getD e.on false=true)
  {v:Value} {w':World} (hb:Below w.heap.size w w') (hR:R i v w') (hf:fr i=true→∃ p,v = .pointer (some ⟨p,0,none⟩)∧w.heap.size≤p∧p<w'.heap.size) :
  JInv l n a0 w0 R fr (fun j=>if j=i then v else u j) (listed.setIfInBounds i true) (a.put o.dst v) w':=by
 have hsz:(a.put o.dst v).tmps.size=a.tmps.size:=by cases o.dst<;>simp[Act.put]
 have hil:i<listed.size:=by rw[hI.shut.size];simp;omega
 have hne:∀ j,j≠i→(listed.setIfInBounds i true).getD j false=listed.getD j false:=fun j h=>getD_set_ne false (Ne.symm h)
 refine ⟨⟨by simpa using hI.shut.size, ?_⟩, ?_,by rw[hsz];exact hI.size, ?_, ?_, ?_, ?_, ?_, ?_, ?_⟩
 ·intro k ok hk hkl e he hbd
  by_cases hki:k=i
  ·subst hki
   have : ok = o := by have : l.toArray[k]? = some o := by simpa using ho
                       rw[this] at hk;exact (Option.some.inj hk).symm
   subst this
   exact getD_set_true (hd e he hbd)
  ·rw[hne k hki] at hkl
   exact getD_set_true (hI.shut.deps k ok hk hkl e he hbd)
 ·intro j hj hjl
  rw[hne j (by omega)];exact hI.notail j hj hjl
 ·have:(a.put o.dst v).defers=a.defers:=by cases o.dst<;>rfl
  rw[this];exact hI.defers
 ·intro j p t hj hp hl hpt hlt
  by_cases hji:j=i
  ·subst hji
   have:p=o:=by rw[ho] at hp;exact (Option.some.inj hp).symm
   subst this
   simp[Act.put,hpt,hI.size,hlt]
  ·rw[hne j hji] at hl
   have hdst:o.dst≠some t:=fun h=>hji (hok.one j p i o t hj hi hp ho h hpt)
   have:(a.put o.dst v).tmps[t]? = a.tmps[t]? := by
    cases hod:o.dst with
    | none=>rfl
    | some d => have : d ≠ t := fun e => hdst (by rw [hod, e])
                simp[Act.put,Array.getElem?_setIfInBounds_ne this]
   rw[this,if_neg hji]
   exact hI.mine j p t hj hp hl hpt hlt
 ·intro t ht
  have hdst:o.dst≠some t:=ht i o hi ho (by simp[hil])
  have:(a.put o.dst v).tmps[t]? = a.tmps[t]? := by
   cases hod:o.dst with
   | none=>rfl
   | some d => have : d ≠ t := fun e => hdst (by rw [hod, e])
               simp[Act.put,Array.getElem?_setIfInBounds_ne this]
  rw[this]
  exact hI.rest t fun j p hj hp hl=>ht j p hj hp (getD_set_true hl)
 ·exact hI.past.trans (hb.mono hI.past.size)
 ·intro j hj hl
  by_cases hji:j=i
  ·subst hji;simpa using hR
  ·rw[hne j hji] at hl
   simp only[if_neg hji]
   exact hst _ _ _ _ (hI.facts j hj hl) hb
 ·intro j hj hl hfj
  by_cases hji:j=i
  ·subst hji
   obtain ⟨p,h1,_,h3⟩:=hf hfj
   exact ⟨p,by simpa using h1,h3⟩
  ·rw[hne j hji] at hl
   obtain ⟨p,h1,h2⟩:=hI.fresh j hj hl hfj
   exact ⟨p,by simpa [if_neg hji] using h1,Nat.lt_of_lt_of_le h2 hb.size⟩
 ·intro j k hj hk hjk hjl hkl hfj hfk
  by_cases hji:j=i
  ·subst hji
   rw[hne k (Ne.symm hjk)] at hkl
   obtain ⟨p,h1,h2,_⟩:=hf hfj
   obtain ⟨q,h3,h4⟩:=hI.fresh k hk hkl hfk
   simp only[if_true,if_neg (Ne.symm hjk),h1,h3]
   intro h;(simp at h<;>omega)
  ·by_cases hki:k=i
   ·subst hki
    rw[hne j hji] at hjl
    obtain ⟨p,h1,h2,_⟩:=hf hfk
    obtain ⟨q,h3,h4⟩:=hI.fresh j hj hjl hfj
    simp only[if_true,if_neg hji,h1,h3]
    intro h;(simp at h<;>omega)
   ·rw[hne j hji] at hjl;rw[hne k hki] at hkl
    simp only[if_neg hji,if_neg hki]
    exact hI.apart j k hj hk hjk hjl hkl hfj hfk
theorem JInv.whole (hok:JOk l n lax) {u:Nat→Value} {listed:Array Bool} {a:Act} {w:World} (hI:JInv l n a0 w0 R fr u listed a w) (_hn:n≤l.length)
  (hall:∀ j,j<n→listed.getD j false=true):a=frm (l.take n) u 0 a0:=by
 obtain ⟨f1,f2,f3,f4⟩:=frm_spec u (l.take n) 0 a0
 have htm:a.tmps=(frm (l.take n) u 0 a0).tmps:=by
  apply Array.ext_getElem?
  intro t
  by_cases h:∃ (j:Nat) (p:Oper),j<n∧l[j]? = some p∧p.dst=some t
  ·obtain ⟨j,p,hj,hp,hpt⟩:=h
   rcases Nat.lt_or_ge t a0.tmps.size with hlt | hge
   ·rw[hI.mine j p t hj hp (hall j hj) hpt hlt,f4 j p t (by rw[List.getElem?_take,if_pos hj];exact hp) hpt (fun k q hq hne => ?_) hlt]
    ·simp
    ·intro hqt
     rw[List.getElem?_take] at hq
     split at hq
     ·rename_i hk;exact hne (hok.one k q j p t hk hj hq hp hpt hqt)
     ·cases hq
   ·rw[Array.getElem?_eq_none (by rw[hI.size];exact hge),Array.getElem?_eq_none (by rw[f1];exact hge)]
  ·rw[hI.rest t (fun j p hj hp _ hpt=>h ⟨j,p,hj,hp,hpt⟩),f3 t (fun j p hp hpt => ?_)]
   rw[List.getElem?_take] at hp
   split at hp
   ·rename_i hk;exact h ⟨j,p,hk,hp,hpt⟩
   ·cases hp
 have hde:a.defers=(frm (l.take n) u 0 a0).defers:=by rw[f2];exact hI.defers
 cases a;cases hq:frm (l.take n) u 0 a0
 rw[hq] at htm hde
 simp only at htm hde
 rw[htm,hde]
def left (n:Nat) (listed:Array Bool):Nat:=((List.range n).filter fun j => !listed.getD j false).length
theorem left_set {n i:Nat} {listed:Array Bool} (hi:i<n) (hil:i<listed.size) (hun:listed.getD i false=false):left n (listed.setIfInBounds i true)+1≤left n listed:=by
 unfold left
 have h1:(List.range n).filter (fun j => !(listed.setIfInBounds i true).getD j false)=((List.range n).filter fun j => !listed.getD j false).filter (fun j=>j != i):=by
  rw[List.filter_filter]
  refine List.filter_congr fun j _ => ?_
  by_cases hji:j=i
  ·subst hji;simp[hil]
  ·rw[getD_set_ne false (Ne.symm hji)];simp[hji]
 rw[h1]
 have hmem:i∈(List.range n).filter fun j => !listed.getD j false:=by simp[List.mem_filter,hi];simpa using hun
 have:(((List.range n).filter fun j => !listed.getD j false).filter (fun j=>j != i)).length<((List.range n).filter fun j => !listed.getD j false).length:=by
  apply Nat.lt_of_not_le
  intro hle
  have:=(List.filter_sublist (p:=fun j=>j != i) (l:=(List.range n).filter fun j => !listed.getD j false)).eq_of_length_le hle
  rw[←this] at hmem
  simp at hmem
 omega
def JLax (P:Program) (l:List Oper) (n:Nat) (a0:Act) (w0:World) (R:Nat→Value→World→Prop) (fr:Nat→Bool) (Q:Exit→Act→World→Prop) (i:Nat) (o:Oper):Prop :=
 fr i=false ∧
 (∀ c a w v,Q (.panic c) (a.put o.dst v) w→Q (.panic c) a w) ∧
 ∀ (u : Nat → Value) (x : Past w0), (∀ j, j < n → waits l.toArray i j = true → R j (u j) x.1) →
   Region.wanted o (yielded l.toArray (frm (l.take n) u 0 a0).tmps)=true∧∃ v,R i v x.1∧∀ w,(execOp (frm (l.take n) u 0 a0).eval o).run P w = .ok (.value v) w
theorem prefix_any {Q:Exit→Act→World→Prop} (hn:n≤l.length) (hok:JOk l n lax) (hst:∀ i v w w',R i v w→Below w.heap.size w w'→R i v w')
  (hstep:∀ (i:Nat) (o:Oper),i<n→l[i]? = some o→JStep P l n a0 w0 R fr i o)
  (hlax:∀ (i:Nat) (o:Oper),i∈lax→l[i]? = some o→JLax P l n a0 w0 R fr Q i o)
  (htail:∀ (u:Nat→Value) (x:Past w0),(∀ i,i<n→R i (u i) x.1)→(∀ i j,i<n→j<n→i≠j→fr i=true→fr j=true→u i≠u j)→wpList P l.toArray Q (l.drop n) (frm (l.take n) u 0 a0) x.1) :
  ∀ (m fuel:Nat) (u:Nat→Value) (listed:Array Bool) (a:Act) (w:World),left n listed≤m→m+(l.length - n)≤fuel→JInv l n a0 w0 R fr u listed a w→wpAny P .any l.toArray Q fuel listed a w:=by
 have ending:∀ (fuel:Nat) (u:Nat→Value) (listed:Array Bool) (a:Act) (w:World),(l.length - n)≤fuel→JInv l n a0 w0 R fr u listed a w→(∀ j,j<n→listed.getD j false=true)→wpAny P .any l.toArray Q fuel listed a w:=by
  intro fuel u listed a w hf hI hall
  have ha:=hI.whole hok hn hall
  refine tail_any (n:=n) hok.back (fun i h1 h2 j h3 h4=>hok.tail i h1 h2 j h4 (fun hx=>by have:=hok.laxLt j hx;omega)) fuel n listed a w (Nat.le_refl _) hn (by omega) hI.shut (fun j hj => ?_) ?_
  ·by_cases h:j<n
   ·rw[hall j h];simp[h]
   ·rw[hI.notail j (by omega) hj];simp[h]
  ·rw[ha]
   exact htail u ⟨w,hI.past⟩ (fun i hi=>hI.facts i hi (hall i hi)) (fun i j hi hj hij h1 h2=>hI.apart i j hi hj hij (hall i hi) (hall j hj) h1 h2)
 intro m
 induction m with
 | zero =>
  intro fuel u listed a w hm hf hI
  refine ending fuel u listed a w (by omega) hI (fun j hj => ?_)
  cases h:listed.getD j false with
  | true=>rfl
  | false =>
   exfalso
   have hmem:j∈(List.range n).filter fun j => !listed.getD j false:=by simp[List.mem_filter,hj];simpa using h
   have:(List.range n).filter (fun j => !listed.getD j false)=[]:=List.length_eq_zero_iff.1 (by unfold left at hm;omega)
   rw[this] at hmem;cases hmem
 | succ m ih =>
  intro fuel u listed a w hm hf hI
  have hlt:∀ j,j<n→j<listed.size:=fun j hj=>by rw[hI.shut.size];simp;omega
  by_cases hall:∀ j,j<n→listed.getD j false=true
  ·exact ending fuel u listed a w (by omega) hI hall
  obtain ⟨fuel,rfl⟩:∃ f,fuel=f+1:=⟨fuel - 1,by omega⟩
  have hex:∃ j,j<n∧listed.getD j false=false∧∀ k,k<j→listed.getD k false=true:=by
   apply Classical.byContradiction
   intro hno
   refine hall fun j => ?_
   induction j using Nat.strongRecOn with
   | ind j ihj =>
    intro hj
    cases h:listed.getD j false with
    | true=>rfl
    | false=>exact absurd ⟨j,hj,h,fun k hk=>ihj k hk (by omega)⟩ hno
  obtain ⟨j0,hj0,hj0l,hj0k⟩:=hex
  have hj0o:l[j0]? = some (l[j0]'(by omega)):=List.getElem?_eq_getElem (by omega)
  have hd0:∀ e∈(l[j0]'(by omega)).after,Region.binds .any e=true→listed.getD e.on false=true:=fun e he hb=>hj0k _ (hok.back j0 _ hj0o e he hb)
  have hr0:j0∈Region.ready .any l.toArray listed:=mem_ready.2 ⟨by rw[getD_flip (hlt j0 hj0) true false];exact hj0l,_,by rw[List.getElem?_toArray];exact hj0o,hd0⟩
  by_cases hnz:∀ j,j<n→j ∉ lax→listed.getD j false=true
  ·-- what is left of the first n need not be waited for: it may be taken first
   have hx:j0∈lax:=Classical.byContradiction fun h=>by rw[hnz j0 hj0 h] at hj0l;cases hj0l
   obtain ⟨h1,h3,h4⟩:=hlax j0 _ hx hj0o
   obtain ⟨h5,v,h6,h7⟩:=h4 u ⟨w,hI.past⟩ (fun j hj hw=>hI.facts j hj (waits_listed (by rw[List.getElem?_toArray];exact hj0o) hd0 hw))
   have hlook:=look_same hn hok hI hj0 hj0o hd0
   have hsel:=fun cs b=>Region.noSelect_spec hok.sel j0 _ cs b (by rw[List.getElem?_toArray];exact hj0o)
   refine wpAny_first (i:=j0) (v:=v) (by rw[List.getElem?_toArray];exact hj0o) (Region.noSelect_spec hok.sel) (fun c a w=>h3 c a w v) fuel listed a w ?_ hr0 ?_ ?_
   ·intro j oj hoj hne hun hno
    rw[List.getElem?_toArray] at hoj
    have hj:n≤j∨j∈lax:=by
     rcases Nat.lt_or_ge j n with h | h
     ·right
      exact Classical.byContradiction fun hx'=>by
       have:=hnz j h hx'
       rw[getD_flip (hlt j h) true false,this] at hun;cases hun
     ·exact .inl h
    rcases hok.laxA j0 j _ oj hx hj0o hoj hne hj with h | h
    ·exfalso
     unfold waits at h
     rw[List.getElem?_toArray,hoj] at h
     obtain ⟨e,he,hb⟩:=Array.any_eq_true'.1 h
     simp only[Bool.and_eq_true,beq_iff_eq] at hb
     exact hno e he hb.1 hb.2
    ·exact h
   ·refine .inl ⟨by rw[wanted_same hlook];exact h5,fun w' => ?_⟩
    rw[exec_same hsel hlook];exact h7 w'
   ·exact ih fuel _ _ _ _ (by have:=left_set hj0 (hlt j0 hj0) hj0l;omega) (by omega) (hI.next hok hst hj0 hn hj0o hj0l hd0 (Below.refl _ _) h6 (fun h=>by rw[h1] at h;cases h))
  ·refine ⟨fun h0=>(by rw[h0] at hr0;cases hr0),fun i hi => ?_⟩
   obtain ⟨hun,o,ho,hd⟩:=mem_ready.1 hi
   have hil:i<l.length:=by
    rcases Nat.lt_or_ge i l.length with h | h
    ·exact h
    ·simp[List.getElem?_eq_none h] at ho
   have hol:l[i]? = some o:=by simpa using ho
   have hun':listed.getD i false=false:=by rw[←getD_flip (by rw[hI.shut.size];simp;exact hil) true false];exact hun
   have hin:i<n:=by
    rcases Nat.lt_or_ge i n with h | h
    ·exact h
    ·exfalso
     exact hnz fun j hj hx=>coverX_listed hI.shut i j o ho hd (hok.tail i h hil j (by omega) hx)
   have hlook:=look_same hn hok hI hin hol hd
   have hs:=hstep i o hin hol u ⟨w,hI.past⟩ (fun j hj hw=>hI.facts j hj (waits_listed ho hd hw))
   have hsel:=fun cs b=>Region.noSelect_spec hok.sel i o cs b ho
   unfold wpOp
   simp only[ho]
   rw[wanted_same hlook]
   have go:∀ v w',Below w.heap.size w w'→R i v w'→(fr i=true→∃ p,v = .pointer (some ⟨p,0,none⟩)∧w.heap.size≤p∧p<w'.heap.size) →
     wpAny P .any l.toArray Q fuel (listed.setIfInBounds i true) (a.put o.dst v) w':=fun v w' h1 h2 h3 =>
    ih fuel _ _ _ _ (by have:=left_set hin (hlt i hin) hun';omega) (by omega) (hI.next hok hst hin hn hol hun' hd h1 h2 h3)
   split
   ·rename_i hwant
    rw[if_pos hwant] at hs
    refine .inl ?_
    unfold Oper.wp
    rw[exec_same hsel hlook]
    exact upon_of_gives hs fun v w' ⟨h1,h2,h3⟩=>go v w' h1 h2 h3
   ·rename_i hwant
    rw[if_neg hwant] at hs
    exact go undef w (Below.refl _ _) hs.1 (fun h=>by rw[hs.2] at h;cases h)
theorem wp_region_J {id:Nat} {Q:Exit→Act→World→Prop} (n:Nat) (lax:List Nat) (R:Nat→Value→World→Prop) (fr:Nat→Bool) (hm:P.follows .mixedOrders=true) (hn:n≤l.length) (hok:jOk l n lax=true)
  (hst:∀ i v w w',R i v w→Below w.heap.size w w'→R i v w')
  (hstep:∀ (i:Nat) (o:Oper),i<n→l[i]? = some o→JStep P l n a0 w0 R fr i o)
  (hlax:∀ (i:Nat) (o:Oper),i∈lax→l[i]? = some o→JLax P l n a0 w0 R fr Q i o)
  (htail:∀ (u:Nat→Value) (x:Past w0),(∀ i,i<n→R i (u i) x.1)→(∀ i j,i<n→j<n→i≠j→fr i=true→fr j=true→u i≠u j)→wpList P l.toArray Q (l.drop n) (frm (l.take n) u 0 a0) x.1) :
  (Code.region id l.toArray true).wp P Q a0 w0:=by
 have hok':=jOk_spec hok
 refine wp_region_any hm ?_
 have hun:∀ j,(Array.replicate l.toArray.size false).getD j false=false:=fun j=>by
  simp only[Array.getD_eq_getD_getElem?,Array.getElem?_replicate];split<;>rfl
 refine prefix_any hn hok' hst hstep hlax htail n l.toArray.size (fun _=>undef) _ a0 _ ?_ (by simp;omega) ?_
 ·unfold left
  exact Nat.le_trans (List.length_filter_le _ _) (by simp)
 ·have no:∀ (j:Nat) (q:Prop),(Array.replicate l.toArray.size false).getD j false=true→q:=fun j q h=>by rw[hun] at h;cases h
  exact {
   shut:=⟨by simp,fun i o _ h=>no i _ h⟩
   notail:=fun j _ _=>hun j
   size:=rfl
   defers:=rfl
   mine:=fun j o t _ _ h=>no j _ h
   rest:=fun _ _=>rfl
   past:=(Below.refl _ _).drew
   facts:=fun j _ h=>no j _ h
   fresh:=fun j _ h=>no j _ h
   apart:=fun i j _ _ _ h=>no i _ h }
end
def detR (v0:Value):Value→World→Prop:=fun v _=>v=v0
def newR (B:Nat) (cs:Array Value) (t:TypeId):Value→World→Prop:=fun v w=>∃ p,v = .pointer (some ⟨p,0,none⟩)∧B≤p∧Blk w p cs t
def Stab (r:Value→World→Prop):Prop:=∀ v w w',r v w→Below w.heap.size w w'→r v w'
theorem stab_det (v0:Value):Stab (detR v0):=fun _ _ _ h _=>h
theorem stab_new (B:Nat) (cs:Array Value) (t:TypeId):Stab (newR B cs t):=fun _ _ _ ⟨p,h1,h2,h3⟩ hb=>⟨p,h1,h2,h3.past hb⟩
def nthR (rs:List (Value→World→Prop)) (i:Nat):Value→World→Prop:=rs.getD i (fun _ _=>True)
theorem stab_nth {rs:List (Value→World→Prop)} (h:∀ r∈rs,Stab r):∀ i v w w',nthR rs i v w→Below w.heap.size w w'→nthR rs i v w':=by
 intro i v w w' h1 h2
 unfold nthR at *
 rcases Nat.lt_or_ge i rs.length with hl | hl
 ·rw[List.getD_eq_getElem?_getD,List.getElem?_eq_getElem hl] at *
  exact h _ (List.getElem_mem hl) v w w' h1 h2
 ·rw[List.getD_eq_getElem?_getD,List.getElem?_eq_none hl]
  trivial
end
section
open Go.ChangeShapes Go.WideShapes Go.ChangeAt Go.RowKit
attribute [local irreducible] Go.Calls
theorem buildL_step {g:Int→Int × Int} {ts:List Int} {k:Nat} (h:k<ts.length):buildL g (ts.take (k+1))=withL (buildL g (ts.take k)) (ts.getD k 0) (g (ts.getD k 0)):=by
 rw[List.take_succ_eq_append_getElem h,buildL_snoc,getD_get _ _ _ h]
theorem withL_len (f:List Sg) (t:Int) (v:Int × Int):(withL f t v).length≤f.length+1:=by unfold withL;split<;>simp
theorem buildL_len (g:Int→Int × Int) (ts:List Int):∀ k,k≤ts.length→(buildL g (ts.take k)).length≤k
 | 0,_=>by simp[buildL]
 | k + 1, h => by
   rw[buildL_step (by omega)]
   have:=withL_len (buildL g (ts.take k)) (ts.getD k 0) (g (ts.getD k 0))
   have:=buildL_len g ts k (by omega)
   omega
end
end Go.Proofs.YtcmponckjkalaaaGreat
