/- Changes one by one: a part of a row of changes; what one change at a time comes to. No function of the program. No conditions. The document's own answers on reservations: where both are the same. No conditions but the sizes. What the walk of PlanOnce wants: plans beside one another, one row of changes, the same rows of runs. No conditions. Sums over a plan: what the .. -/
import Derived.Test.YtcmponckjkalaaaGreatPUGT
import Derived.Test.YtcmponckjkalaaaGreatPUGL
import Derived.Deep.RegionHeld3
import Derived.BigQuiet
import Derived.Test.YtcmponckjkalaaaGreatPUGW
import Derived.Test.YtcmponckjkalaaaGreatPUGU
import Derived.Test.YtcmponckjkalaaaGreatPUGI
import Derived.Test.YtcmponckjkalaaaGreatPUGB
import Derived.Maps.AppendAt
namespace Go.Proofs.YtcmponckjkalaaaGreat
section
open Go.ChangeShapes Go.WideShapes Go.ChangeAt Go.RowKit
attribute [local irreducible] Go.Calls
theorem rsamea_t {v1 v2:Value} {F:List Sg} (w:World) (h1:SliS w v1 F) (h2:SliS w v2 F):Calls Tryz.prog 47 #[v1,v2] w fun e w'=>e = .returned (.bool true)∧Below w.heap.size w w':=by
 obtain ⟨a1,c1,rfl,_⟩:=id h1
 obtain ⟨a2,c2,rfl,_⟩:=id h2
 exact rsame_s (b:=true) h1 h2 (decide_eq_true rfl)
set_option maxHeartbeats 1000000 in
theorem rsamew_t {v1 v2:Value} {l:List (Int × Int)} (w:World) (h1:SliVs w v1 l) (h2:SliVs w v2 l):Calls Tryz.prog 67 #[v1,v2] w fun e w'=>e = .returned (.bool true)∧Below w.heap.size w w':=by
 obtain ⟨a1,c1,rfl,p1,p2,p3⟩:=h1
 obtain ⟨a2,c2,rfl,q1,q2,q3⟩:=h2
 have HA1:=hidE p3;have HA2:=hidE q3
 have hl:l.length≤9223372036854775807:=by omega
 clear p3 q3 p1 p2 q1 q2
 go_enter Tryz.func67,Tryz.ntmps67
 go_wp2
 go_loopg [5] l.length (fun g vi wr=>∃ k:Nat,k≤l.length∧l.length - k≤g∧vi = .int .i64 k∧Below w.heap.size w wr)
 case atStart=>exact ⟨0,Nat.zero_le _,by omega,rfl,Below.refl _ _⟩
 case round =>
  obtain ⟨k,hk,hg,rfl,hb⟩:=hrel
  have HB:=hidE hb;clear hb
  by_cases hlt:k<l.length
  ·obtain ⟨b1,o1,rfl,z1,f1⟩:=(HA1.out.past HB.out) (by omega)
   obtain ⟨b2,o2,rfl,z2,f2⟩:=(HA2.out.past HB.out) (by omega)
   obtain ⟨x0,x1⟩:=f1 k hlt
   obtain ⟨y0,y1⟩:=f2 k hlt
   clear f1 f2
   generalize l.getD k (0,0)=q at *
   go_wp2
   go_quiet (fail)
   go_wp2
   go_roundg (l.length - (k+1))
   case measure=>omega
   case rel=>exact ⟨k+1,by omega,Nat.le_refl _,by go_num,by have:=HB.out;(repeat (first | exact Below.refl _ _ | assumption | refine balloc ?_ _ | refine below_drewN ?_ _ | refine bstep (by assumption) ?_ | refine bstep (Past.prop _) ?_ | refine Below.setCell ?_ (by first | exact Nat.le_refl _ | (simp;done) | (simp;omega)) _))⟩
  ·go_wp2
   go_ret
   exact ⟨rfl,by have:=HB.out;(repeat (first | exact Below.refl _ _ | assumption | refine balloc ?_ _ | refine below_drewN ?_ _ | refine bstep (by assumption) ?_ | refine bstep (Past.prop _) ?_ | refine Below.setCell ?_ (by first | exact Nat.le_refl _ | (simp;done) | (simp;omega)) _))⟩
set_option maxHeartbeats 1000000 in
theorem rsamed_t {fr to':Int} {v1 v2:Value} {l:List Prt} (w:World) (h1:SliP w v1 l) (h2:SliP w v2 l):Calls Tryz.prog 66 #[.agg #[.int .i64 fr,.int .i64 to',v1],.agg #[.int .i64 fr,.int .i64 to',v2]] w fun e w'=>e = .returned (.bool true)∧Below w.heap.size w w':=by
 obtain ⟨a1,c1,rfl,p1,p2,p3⟩:=h1
 obtain ⟨a2,c2,rfl,q1,q2,q3⟩:=h2
 have HA1:=hidE p3;have HA2:=hidE q3
 have hl:l.length≤9223372036854775807:=by omega
 clear p3 q3 p1 p2 q1 q2
 go_enter Tryz.func66,Tryz.ntmps66
 go_wp2
 go_loopg [5] l.length (fun g vi wr=>∃ k:Nat,k≤l.length∧l.length - k≤g∧vi = .int .i64 k∧Below w.heap.size w wr ∧
  Blk wr w.heap.size #[.int .i64 fr,.int .i64 to',.slice a1 l.length c1] 47∧Blk wr (w.heap.size+1) #[.int .i64 fr,.int .i64 to',.slice a2 l.length c2] 47)
 case atStart=>exact ⟨0,Nat.zero_le _,Nat.le_refl _,rfl,by (repeat (first | exact Below.refl _ _ | assumption | refine balloc ?_ _ | refine below_drewN ?_ _ | refine bstep (by assumption) ?_ | refine bstep (Past.prop _) ?_ | refine Below.setCell ?_ (by first | exact Nat.le_refl _ | (simp;done) | (simp;omega)) _)),(Blk.made _ _ _).alloc _,Blk.made_at _ _ _ _ (by simp)⟩
 case round =>
  obtain ⟨k,hk,hg,rfl,hb,hB1,hB2⟩:=hrel
  have HB:=hidE hb;have HB1:=hidE hB1;have HB2:=hidE hB2;have HG:=hidE hg
  have p0:=hB1.cell 2;have pz:=hB1.lt;have p1:=hB2.cell 2;have pz1:=hB2.lt
  simp at p0 p1
  clear hb hB1 hB2 hg
  obtain ⟨wo,hwo⟩:∃ wo:World,wo=wr:=⟨_,rfl⟩
  by_cases hlt:k<l.length
  ·obtain ⟨p,off,rfl,hpp,hc⟩:=(HA1.out.past HB.out) (by omega)
   obtain ⟨x0,x1,x2,x3,x4⟩:=hc.get hlt
   obtain ⟨p',off',rfl,hpp',hc'⟩:=(HA2.out.past HB.out) (by omega)
   obtain ⟨y0,y1,y2,y3,y4⟩:=hc'.get hlt
   have q1:decide ((k:Int)<(l.length:Int))=true:=decide_eq_true (by omega)
   have q2:decide (k<l.length)=true:=decide_eq_true hlt
   clear hc hc'
   generalize l.getD k pr0=x at *
   go_wp2
   go_quiet (fail)
   go_wp2
   go_roundg (l.length - (k+1))
   case measure=>have:=HG.out;omega
   case rel=>exact ⟨k+1,by omega,Nat.le_refl _,by go_num,by have:=HB.out;(repeat (first | exact Below.refl _ _ | assumption | refine balloc ?_ _ | refine below_drewN ?_ _ | refine bstep (by assumption) ?_ | refine bstep (Past.prop _) ?_ | refine Below.setCell ?_ (by first | exact Nat.le_refl _ | (simp;done) | (simp;omega)) _)),HB1.out.drew _,HB2.out.drew _⟩
  ·have q1:decide ((k:Int)<(l.length:Int))=false:=decide_eq_false (by omega)
   go_wp2
   go_ret
   exact ⟨rfl,by have:=HB.out;(repeat (first | exact Below.refl _ _ | assumption | refine balloc ?_ _ | refine below_drewN ?_ _ | refine bstep (by assumption) ?_ | refine bstep (Past.prop _) ?_ | refine Below.setCell ?_ (by first | exact Nat.le_refl _ | (simp;done) | (simp;omega)) _))⟩
set_option maxHeartbeats 2000000 in
theorem rsamer_t {x y:Rw} {r:Rv} (w:World) (hx:RwF w x r) (hy:RwF w y r):Calls Tryz.prog 23 #[rwV x,rwV y] w fun e w'=>e = .returned (.bool true)∧Below w.heap.size w w':=by
 obtain ⟨i1,s1,u1,f1,t1,vT1,vW1,vA1⟩:=x
 obtain ⟨i2,s2,u2,f2,t2,vT2,vW2,vA2⟩:=y
 obtain ⟨i,s,u,fr,to',T,W,A⟩:=r
 obtain ⟨rfl,rfl,rfl,rfl,rfl,hT1, -,hW1, -,hA1, -⟩:=hx
 obtain ⟨h1,h2,h3,h4,h5,hT2, -,hW2, -,hA2, -⟩:=hy
 simp only at h1 h2 h3 h4 h5 hT1 hW1 hA1 hT2 hW2 hA2
 subst h1 h2 h3 h4 h5
 have KT:=hidE (fun (w':World) (hb:Below w.heap.size w w')=>rsamed_t (fr:=f2) (to':=t2) w' (hT1.past hb) (hT2.past hb))
 have KW:=hidE (fun (w':World) (hb:Below w.heap.size w w')=>rsamew_t w' (hW1.past hb) (hW2.past hb))
 have KA:=hidE (fun (w':World) (hb:Below w.heap.size w w')=>rsamea_t w' (hA1.past hb) (hA2.past hb))
 clear hT1 hT2 hW1 hW2 hA1 hA2
 obtain ⟨w0,hw0⟩:∃ w0,w0=(w.alloc (Obj.cells #[.int .u32 i2,.int .u32 s2,nmV u2,.int .i64 f2,.int .i64 t2,vT1,vW1,vA1] 50)).alloc (Obj.cells #[.int .u32 i2,.int .u32 s2,nmV u2,.int .i64 f2,.int .i64 t2,vT2,vW2,vA2] 50):=⟨_,rfl⟩
 have B1:Blk w0 w.heap.size #[.int .u32 i2,.int .u32 s2,nmV u2,.int .i64 f2,.int .i64 t2,vT1,vW1,vA1] 50:=by rw[hw0];exact (Blk.made _ _ _).alloc _
 have B2:Blk w0 (w.heap.size+1) #[.int .u32 i2,.int .u32 s2,nmV u2,.int .i64 f2,.int .i64 t2,vT2,vW2,vA2] 50:=by rw[hw0];exact Blk.made_at _ _ _ _ (by simp)
 have hb0:Below w.heap.size w w0:=by rw[hw0];(repeat (first | exact Below.refl _ _ | assumption | refine balloc ?_ _ | refine below_drewN ?_ _ | refine bstep (by assumption) ?_ | refine bstep (Past.prop _) ?_ | refine Below.setCell ?_ (by first | exact Nat.le_refl _ | (simp;done) | (simp;omega)) _))
 have HB1:=hidE B1;have HB2:=hidE B2
 clear B1 B2
 show Calls _ _ #[rvV _ _ _ _ _ _ _ _,rvV _ _ _ _ _ _ _ _] _ _
 go_enter Tryz.func23,Tryz.ntmps23
 go_wp2_with fail
 rw[←hw0]
 clear hw0
 ((with_reducible refine (KT.out _ hb0).mono ?_);rintro e w1 ⟨rfl,hb1⟩)
 have D1:=hidE (HB1.out.past hb1);have D2:=hidE (HB2.out.past hb1)
 have hB1:Below w.heap.size w w1:=by (repeat (first | exact Below.refl _ _ | assumption | refine balloc ?_ _ | refine below_drewN ?_ _ | refine bstep (by assumption) ?_ | refine bstep (Past.prop _) ?_ | refine Below.setCell ?_ (by first | exact Nat.le_refl _ | (simp;done) | (simp;omega)) _))
 clear HB1 HB2 hb0 hb1 KT
 have c4:=D1.out.cell 6;have c5:=D1.out.cell 7;have cz:=D1.out.lt
 have e4:=D2.out.cell 6;have e5:=D2.out.cell 7;have ez:=D2.out.lt
 simp at c4 c5 e4 e5
 go_wp2_with fail
 ((with_reducible refine (KW.out _ hB1).mono ?_);rintro e w2 ⟨rfl,hb2⟩)
 have E1:=D1.out.past hb2;have E2:=D2.out.past hb2
 have hB2:Below w.heap.size w w2:=by (repeat (first | exact Below.refl _ _ | assumption | refine balloc ?_ _ | refine below_drewN ?_ _ | refine bstep (by assumption) ?_ | refine bstep (Past.prop _) ?_ | refine Below.setCell ?_ (by first | exact Nat.le_refl _ | (simp;done) | (simp;omega)) _))
 clear D1 D2 hb2 hB1 KW c4 c5 e4 e5 cz ez
 have c5:=E1.cell 7;have cz:=E1.lt
 have e5:=E2.cell 7;have ez:=E2.lt
 simp at c5 e5
 clear E1 E2
 go_wp2_with fail
 ((with_reducible refine (KA.out _ hB2).mono ?_);rintro e w3 ⟨rfl,hb3⟩)
 go_wp2
 go_ret
 exact ⟨rfl,by (repeat (first | exact Below.refl _ _ | assumption | refine balloc ?_ _ | refine below_drewN ?_ _ | refine bstep (by assumption) ?_ | refine bstep (Past.prop _) ?_ | refine Below.setCell ?_ (by first | exact Nat.le_refl _ | (simp;done) | (simp;omega)) _))⟩
set_option maxRecDepth 100000 in
set_option maxHeartbeats 4000000 in
theorem rsameall_t {v1 v2:Value} {l1 l2:List Rw} {L:List Rv} (w:World) (h1:SliRw w v1 l1) (h2:SliRw w v2 l2) (r1:RwsF w l1 L) (r2:RwsF w l2 L):Calls Tryz.prog 41 #[v1,v2] w fun e w'=>e = .returned (.bool true)∧Below w.heap.size w w':=by
 obtain ⟨a1,c1,rfl,p1,p2, -,p3, -⟩:=h1
 obtain ⟨a2,c2,rfl,p4,p5, -,p6, -⟩:=h2
 have n1:=r1.1;have n2:=r2.1
 have e12:l1.length=l2.length:=by omega
 have HR1:=hidE r1;have HR2:=hidE r2;have HA1:=hidE p3;have HA2:=hidE p6
 have hl:l1.length≤9223372036854775807:=by omega
 have HE:=hidE e12
 have b0:((l1.length:Int) != (l2.length:Int))=false:=by rw[bne_eq_false_iff_eq];omega
 clear r1 r2 p1 p2 p4 p5 p3 p6 n1 n2 e12
 go_enter Tryz.func41,Tryz.ntmps41
 go_wp2
 go_loopg [5] l1.length (fun g vi wr=>∃ k:Nat,k≤l1.length∧l1.length - k≤g∧vi = .int .i64 k∧Below w.heap.size w wr)
 case atStart=>exact ⟨0,Nat.zero_le _,by omega,rfl,Below.refl _ _⟩
 case round =>
  obtain ⟨k,hk,hg,rfl,hb⟩:=hrel
  have HB:=hidE hb;clear hb
  by_cases hlt:k<l1.length
  ·have hlt2:k<l2.length:=by have:=HE.out;omega
   obtain ⟨g1,o1,rfl,z1,f1⟩:=HA1.out (by omega)
   obtain ⟨g2,o2,rfl,z2,f2⟩:=HA2.out (by omega)
   have F1:=hidE (HR1.out.2 k hlt);have F2:=hidE (HR2.out.2 k hlt2)
   obtain ⟨x0,x1,x2,x3,x4,x5,x6,x7⟩:=f1.get hlt
   obtain ⟨y0,y1,y2,y3,y4,y5,y6,y7⟩:=f2.get hlt2
   rw[←HB.out.cell (p:=⟨g1,_,none⟩) z1] at x0 x1 x2 x3 x4 x5 x6 x7
   rw[←HB.out.cell (p:=⟨g2,_,none⟩) z2] at y0 y1 y2 y3 y4 y5 y6 y7
   have z1':g1<wr.heap.size:=Nat.lt_of_lt_of_le z1 HB.out.size
   have z2':g2<wr.heap.size:=Nat.lt_of_lt_of_le z2 HB.out.size
   have i1:(k:Int)<(l1.length:Int):=by omega
   have i2:(k:Int)<(l2.length:Int):=by omega
   clear f1 f2 z1 z2
   generalize l1.getD k rw0=X at *
   generalize l2.getD k rw0=Y at *
   generalize L.getD k rv0=r at *
   go_upto_region 6 with fail
   refine wp_region_J 10 [] (nthR [detR (.slice (some ⟨g1,o1,none⟩) l1.length c1),detR (.int .i64 k),detR (.pointer (some ⟨g1,o1+k * 8,none⟩)),detR (rwV X),detR (.slice (some ⟨g2,o2,none⟩) l2.length c2),detR (.int .i64 k),detR (.pointer (some ⟨g2,o2+k * 8,none⟩)),detR (rwV Y),detR (.bool true),detR (.bool false)]) (fun _=>false) (by kernel_rfl) (by decide) (by kernel_rfl) (stab_nth (by intro r hr;simp only[List.mem_cons,List.not_mem_nil,or_false] at hr;rcases hr with rfl | rfl | rfl | rfl | rfl | rfl | rfl | rfl | rfl | rfl<;>first | exact stab_det _)) ?_ ?_ ?_
   ·intro i o hi ho
    match i,hi with
    | 0, _ =>
     obtain rfl:=Option.some.inj ho
     intro u x hd
     have hc:=Past.cell x
     simp[go_sem,gives,frm,Act.put,nthR,detR,Region.wanted,Below.refl]
    | 1, _ =>
     obtain rfl:=Option.some.inj ho
     intro u x hd
     have hc:=Past.cell x
     simp[go_sem,gives,frm,Act.put,nthR,detR,Region.wanted,Below.refl]
    | 2, _ =>
     obtain rfl:=Option.some.inj ho
     intro u x hd
     have hc:=Past.cell x
     have d0:=hd 0 (by decide) (by kernel_rfl)
     have d1:=hd 1 (by decide) (by kernel_rfl)
     simp only[nthR,detR,List.getD_cons_zero,List.getD_cons_succ] at d0 d1
     simp[go_sem,gives,frm,Act.put,nthR,detR,Region.wanted,Below.refl,d0,d1,i1]
    | 3, _ =>
     obtain rfl:=Option.some.inj ho
     intro u x hd
     have hc:=Past.cell x
     have d2:=hd 2 (by decide) (by kernel_rfl)
     simp only[nthR,detR,List.getD_cons_zero,List.getD_cons_succ] at d2
     simp[go_sem,gives,frm,Act.put,nthR,detR,Region.wanted,Below.refl,hc,d2,x0,x1,x2,x3,x4,x5,x6,x7,z1']
    | 4, _ =>
     obtain rfl:=Option.some.inj ho
     intro u x hd
     have hc:=Past.cell x
     simp[go_sem,gives,frm,Act.put,nthR,detR,Region.wanted,Below.refl]
    | 5, _ =>
     obtain rfl:=Option.some.inj ho
     intro u x hd
     have hc:=Past.cell x
     simp[go_sem,gives,frm,Act.put,nthR,detR,Region.wanted,Below.refl]
    | 6, _ =>
     obtain rfl:=Option.some.inj ho
     intro u x hd
     have hc:=Past.cell x
     have d4:=hd 4 (by decide) (by kernel_rfl)
     have d5:=hd 5 (by decide) (by kernel_rfl)
     simp only[nthR,detR,List.getD_cons_zero,List.getD_cons_succ] at d4 d5
     simp[go_sem,gives,frm,Act.put,nthR,detR,Region.wanted,Below.refl,d4,d5,i2]
    | 7, _ =>
     obtain rfl:=Option.some.inj ho
     intro u x hd
     have hc:=Past.cell x
     have d6:=hd 6 (by decide) (by kernel_rfl)
     simp only[nthR,detR,List.getD_cons_zero,List.getD_cons_succ] at d6
     simp[go_sem,gives,frm,Act.put,nthR,detR,Region.wanted,Below.refl,hc,d6,y0,y1,y2,y3,y4,y5,y6,y7,z2']
    | 8, _ =>
     obtain rfl:=Option.some.inj ho
     intro u x hd
     have hc:=Past.cell x
     have d3:=hd 3 (by decide) (by kernel_rfl)
     have d7:=hd 7 (by decide) (by kernel_rfl)
     simp only[nthR,detR,List.getD_cons_zero,List.getD_cons_succ] at d3 d7
     simp[go_sem,gives,frm,Act.put,nthR,Region.wanted,d3,d7]
     (refine (rsamer_t _ (F1.out.past (HB.out.trans ((Past.prop x).mono HB.out.size))) (F2.out.past (HB.out.trans ((Past.prop x).mono HB.out.size)))).mono ?_);rintro e w3 ⟨rfl,hb3⟩;exact ⟨_,rfl,hb3,rfl⟩
    | 9, _ =>
     obtain rfl:=Option.some.inj ho
     intro u x hd
     have hc:=Past.cell x
     have e8:u 8 = .bool true:=hd 8 (by decide) (by kernel_rfl)
     simp[go_sem,gives,frm,Act.put,nthR,Region.wanted,Below.refl,e8,detR]
    | i+10,h=>exact absurd h (by omega)
   ·intro i o hx ho
    simp at hx
   ·intro u x9 hu hne
    have e9:u 9 = .bool false:=hu 9 (by decide)
    have hb9:=Past.prop x9
    simp only[frm,List.take,Act.put,e9]
    refine wpList_nil ?_
    have hbk:Below w.heap.size w x9.1:=HB.out.trans (hb9.mono HB.out.size)
    clear hu hne e9 hb9
    generalize x9.1=w9 at *
    have HBK:=hidE hbk
    clear hbk x0 x1 x2 x3 x4 x5 x6 x7 y0 y1 y2 y3 y4 y5 y6 y7 z1' z2'
    generalize u 0=u17',u (0+1)=u18',u (0+1+1)=u19',u (0+1+1+1)=u20',u (0+1+1+1+1)=u21',u (0+1+1+1+1+1)=u22',u (0+1+1+1+1+1+1)=u23',u (0+1+1+1+1+1+1+1)=u24',u (0+1+1+1+1+1+1+1+1)=u25'
    go_frame
    go_wp2
    go_roundg (l1.length - (k+1))
    case measure=>omega
    case rel=>exact ⟨k+1,by omega,Nat.le_refl _,by go_num,HBK.out⟩
  ·have q1:decide ((k:Int)<(l1.length:Int))=false:=decide_eq_false (by omega)
   go_wp2
   go_ret
   exact ⟨rfl,HB.out⟩
theorem Pl.base {w wx w':World} {p:Nat} {L:List Rv} {C:List Sg} (_hP:Pl wx p L C) (hb:Below w.heap.size w wx) (hg:wx.grownBy w' (some p)) (hp:w.heap.size≤p):Below w.heap.size w w' :=
 Below.grown hb hg hb.size (fun k e=>by cases e;exact hp)
theorem Pl.beside {wx w':World} {p q:Nat} {L M:List Rv} {C D:List Sg} (hQ:Pl wx q M D) (hP:Pl wx p L C) (hg:wx.grownBy w' (some p)) (hqp:q≠p):Pl w' q M D:=by
 obtain ⟨m,vc,U,rows,rvs,hB,_,_⟩:=id hP.has
 exact hQ.other hg hP.noInt hqp hB
theorem sliSC_one {w:World} {b:Nat} {t:TypeId} {v:Value} {l:List Cw} {c:List (Int × Rv)} (hB:Blk w b #[v] t) (hv:SliCh w v l) (hc:ChF0 w l c) (hl:l.length≤100000000000000):SliSC w (.slice (some ⟨b,0,none⟩) 1 1) [l] [c] :=
 ⟨_,_,rfl,by simp,by omega,rfl,fun _=>⟨b,0,rfl,hB.lt,fun i hi=>by
  obtain rfl:i=0:=by simpa using hi
  exact ⟨v,by simpa using hB.cell 0,hv,hc,hl⟩⟩⟩
theorem sliF3_none (w:World):SliF3 w (.slice none 0 0) [] :=
 ⟨sliS_nil w,none,0,rfl,fun _=>⟨rfl,rfl⟩,rfl,fun u h=>by simp[cellsOfS] at h,fun ad e=>by cases e⟩
theorem rsame_v {w:World} {v1 v2:Value} {F:List Sg} (h1:SliS w v1 F) (h2:SliS w v2 F) :
  Calls Tryz.prog 47 #[v1,v2] w fun e w'=>e = .returned (.bool true)∧Below w.heap.size w w':=by
 obtain ⟨a1,c1,rfl,p1,p2,p3⟩:=h1
 obtain ⟨a2,c2,rfl,q1,q2,q3⟩:=h2
 have h:=rsame_c F F a1 a2 c1 c2 w (by omega) (by omega) p3 q3
 rw[show sameB F F=true by unfold sameB;exact decide_eq_true rfl] at h
 exact h
end
section
theorem ofU_sub (L:List Rv) (u:List UInt8):(ofU L u).Sublist L:=List.filter_sublist
end
section
open Go.ChangeShapes Go.WideShapes Go.ChangeAt Go.RowKit
attribute [local irreducible] Go.Calls
def UsAt (w:World) (v:Value) (us:List (List UInt8)):Prop:=∃ (a:Option Addr) (cap:Nat),v = .slice a us.length cap∧(0<us.length→∃ b,a=some ⟨b,0,none⟩∧b<w.heap.size∧∀ i,i<us.length→w.cell? ⟨b,i,none⟩=some (nmV (us.getD i [])))
theorem UsAt.past {w w':World} {v:Value} {us:List (List UInt8)} (h:UsAt w v us) (hb:Below w.heap.size w w'):UsAt w' v us:=by
 obtain ⟨a,cap,e,h1⟩:=h
 refine ⟨a,cap,e,fun hl => ?_⟩
 obtain ⟨b,e2,h2,h3⟩:=h1 hl
 exact ⟨b,e2,Nat.lt_of_lt_of_le h2 hb.size,fun i hi=>(hb.cell (p:=⟨b,_,none⟩) h2).trans (h3 i hi)⟩
theorem usAt_own {w:World} {B:Nat} {e:TypeId} {v:Value} {us:List (List UInt8)} (h:w.ownsRow B e 1 v us.length (us.map encStr)):UsAt w v us:=by
 obtain ⟨h1,h2 | ⟨g,cap,cur,rfl,h3,h4,h5,h6,h7,h8⟩⟩:=h
 ·obtain ⟨rfl,h2⟩:=h2
  exact ⟨none,0,by rw[h2],fun hl=>by omega⟩
 ·refine ⟨_,cap,rfl,fun _=>⟨g,rfl,lt_of_block h4,fun i hi => ?_⟩⟩
  have e:w.cell? ⟨g,i,none⟩=cur[i]? := by simp[World.cell?,h4]
  rw[e,←Array.getElem?_toList]
  have h9:(cur.toList.take (us.length * 1))[i]? = (us.map encStr)[i]? := by rw[h8]
  rw[List.getElem?_take,if_pos (by omega)] at h9
  rw[h9,List.getElem?_map,List.getD_eq_getElem?_getD,List.getElem?_eq_getElem hi]
  rfl
theorem insU_len (out:List (List UInt8)) (s:List UInt8):(insU out s).length≤out.length+1:=by
 unfold insU
 split
 ·omega
 ·have h:=congrArg List.length (List.takeWhile_append_dropWhile (p:=fun x=>decide (x<s)) (l:=out))
  rw[List.length_append] at h
  rw[List.length_append,List.length_cons]
  omega
theorem usersS_lenA:∀ (L:List Rv) (out:List (List UInt8)),(L.foldl (fun out r=>insU out r.u) out).length≤out.length+L.length
 | [],_=>by simp
 | r :: L, out => by
   have h1:=usersS_lenA L (insU out r.u)
   have h2:=insU_len out r.u
   simp only[List.foldl_cons,List.length_cons]
   omega
theorem usersS_len (L:List Rv):(usersS L).length≤L.length:=by
 have h:=usersS_lenA L []
 simpa [usersS] using h
theorem users_name {L:List Rv} (hL:GoodL L) {k:Nat} (hk:k<(usersS L).length):((usersS L).getD k []).length≤maxLen:=by
 have hm:(usersS L).getD k []∈usersS L:=by rw[List.getD_eq_getElem?_getD,List.getElem?_eq_getElem hk];exact List.getElem_mem hk
 obtain ⟨r,hr,e⟩:=(usersS_mem L _).1 hm
 have h:=rok_name (hL.ok r hr)
 unfold nameB at h
 simp only[Bool.and_eq_true,decide_eq_true_eq] at h
 rw[←e]
 have:=h.1.2
 unfold maxLen;omega
theorem ld_is {M:List (List Sg)} {v:Value} {w:World} {C:List Sg} (h:ldR M v w) (hC:Loads M C):SliS w v C:=by
 obtain ⟨A,h1,h2⟩:=h
 have:=loads_unique h2 hC (fun t=>⟨rfl,rfl⟩)
 subst this;exact h1
end
section
open Go.ChangeShapes Go.WideShapes Go.ChangeAt Go.RowKit
theorem rwsF_take {w:World} {l:List Rw} {L:List Rv} (h:RwsF w l L) (k:Nat):RwsF w (l.take k) (L.take k):=⟨by simp[h.1],fun i hi=>by
 rw[List.length_take] at hi
 have:=h.2 i (by omega)
 rw[List.getD_eq_getElem?_getD,List.getElem?_take_of_lt (by omega),←List.getD_eq_getElem?_getD,List.getD_eq_getElem?_getD (l:=L.take k),List.getElem?_take_of_lt (by omega),←List.getD_eq_getElem?_getD]
 exact this⟩
theorem rwsF_drop {w:World} {l:List Rw} {L:List Rv} (h:RwsF w l L) (k:Nat):RwsF w (l.drop k) (L.drop k):=⟨by simp[h.1],fun i hi=>by
 rw[List.length_drop] at hi
 have:=h.2 (k+i) (by omega)
 rw[List.getD_eq_getElem?_getD,List.getElem?_drop,←List.getD_eq_getElem?_getD,List.getD_eq_getElem?_getD (l:=L.drop k),List.getElem?_drop,←List.getD_eq_getElem?_getD]
 exact this⟩
theorem rwsF_one {w:World} {x:Rw} {r:Rv} (h:RwF w x r):RwsF w [x] [r]:=rwsF_snoc (rwsF_nil w) h
theorem eraseIdx_cut {α:Type} (l:List α) (i:Nat):l.eraseIdx i=l.take i++l.drop (i+1):=List.eraseIdx_eq_take_drop_succ l i
theorem rwsF_erase {w:World} {l:List Rw} {L:List Rv} (h:RwsF w l L) (i:Nat):RwsF w (l.take i++l.drop (i+1)) (L.eraseIdx i):=by
 rw[eraseIdx_cut]
 exact rwsF_app (rwsF_take h i) (rwsF_drop h (i+1))
def cntA (L:List Rv) (r:Rv):Nat:=(L.takeWhile fun x=>ltV x r).length
theorem takeWhile_cut {α:Type} (p:α→Bool):∀ l:List α,l.takeWhile p=l.take (l.takeWhile p).length∧l.dropWhile p=l.drop (l.takeWhile p).length
 | []=>⟨rfl,rfl⟩
 | x :: l => by
   by_cases c:p x=true
   ·rw[List.takeWhile_cons_of_pos c,List.dropWhile_cons_of_pos c]
    have:=takeWhile_cut p l
    exact ⟨by rw[List.length_cons,List.take_succ_cons];exact congrArg _ this.1,by rw[List.length_cons,List.drop_succ_cons];exact this.2⟩
   ·rw[List.takeWhile_cons_of_neg c,List.dropWhile_cons_of_neg c]
    exact ⟨by simp,by simp⟩
theorem insS_cut (L:List Rv) (r:Rv):insS L r=L.take (cntA L r)++([r]++L.drop (cntA L r)):=by
 have h:=takeWhile_cut (fun x=>ltV x r) L
 unfold insS cntA
 rw[←h.1,←h.2];rfl
theorem rwsF_ins {w:World} {l:List Rw} {L:List Rv} {x:Rw} {r:Rv} (h:RwsF w l L) (hx:RwF w x r):RwsF w (l.take (cntA L r)++([x]++l.drop (cntA L r))) (insS L r):=by
 rw[insS_cut]
 exact rwsF_app (rwsF_take h _) (rwsF_app (rwsF_one hx) (rwsF_drop h _))
theorem cntA_at {L:List Rv} {r:Rv} {k:Nat} (hk:k≤L.length) (h:∀ i,i<k→ltV (L.getD i rv0) r=true) (he:k=L.length∨ltV (L.getD k rv0) r=false):cntA L r=k:=by
 unfold cntA
 induction L generalizing k with
 | nil=>simp at hk;subst hk;rfl
 | cons y L ih =>
  match k with
  | 0 =>
   rcases he with he | he
   ·simp at he
   ·rw[List.getD_cons_zero] at he
    rw[List.takeWhile_cons_of_neg (p:=fun x=>ltV x r) (by rw[he];decide)];rfl
  | k+1 =>
   have h0:=h 0 (by omega)
   rw[List.getD_cons_zero] at h0
   rw[List.takeWhile_cons_of_pos (p:=fun x=>ltV x r) h0,List.length_cons]
   congr 1
   refine ih (by simpa using hk) (fun i hi => ?_) ?_
   ·have:=h (i+1) (by omega)
    rwa [List.getD_cons_succ] at this
   ·rcases he with he | he
    ·exact .inl (by simpa using he)
    ·rw[List.getD_cons_succ] at he
     exact .inr he
def byU (L:List Rv) (u:List UInt8):List Rv:=L.filter fun r=>decide (u=[]) || decide (r.u=u)
theorem byU_all (L:List Rv):byU L []=L:=by
 unfold byU
 rw[List.filter_eq_self]
 intro r _
 simp
theorem byU_of (L:List Rv) {u:List UInt8} (h:u≠[]):byU L u=ofU L u:=by
 unfold byU ofU
 congr 1
 funext r
 simp[h]
end
section
open Go.ChangeShapes Go.WideShapes Go.ChangeAt Go.RowKit
abbrev upB (L:Nat→Bool) (i:Nat):Nat→Bool:=fun j=>if j=i then true else L j
abbrev upV (u:Nat→Value) (i:Nat) (v:Value):Nat→Value:=fun j=>if j=i then v else u j
section
variable {tp:TypeId} {sz:Nat} {W0:World} {D:Nat→Option Value} {pB p1 p2 k n m:Nat} {cX c1 c2:List Value} {L:Nat→Bool} {u:Nat→Value} {w w':World}
end
theorem cstep_evF {P:Program} {l:List Oper} {n:Nat} {a0:Act} {I:(Nat→Bool)→(Nat→Value)→World→Prop} {i:Nat} {o:Oper} (hg:o.guard=none)
  (h:∀ (E:Operand→Value) (L:Nat→Bool) (u:Nat→Value) (w:World),(∀ t j,dstOnly (l.take n) t j=true→t<a0.tmps.size→E (.tmp t)=u j)→(∀ t,dstNone (l.take n) t=true→E (.tmp t)=a0.eval (.tmp t))→(∀ v,E (.const v)=v)→(∀ f,E (.func f) = .func (.func f) #[] #[]) →
   L i=false→(∀ j,j<n→waits l.toArray i j=true→L j=true)→I L u w→gives P (fun v w'=>I (fun j=>if j=i then true else L j) (fun j=>if j=i then v else u j) w') ((execOp E o).run P w)):CStep P l n a0 I i o:=by
 intro L u w hl hw hI
 rw[if_pos (by unfold Region.wanted;rw[hg])]
 exact h _ L u w (fun t j hd ht=>ev_mine hd ht) (fun t hd=>ev_rest hd) (fun _=>rfl) (fun _=>rfl) hl hw hI
section
variable {tp:TypeId} {sz:Nat} {W0:World} {D:Nat→Option Value} {pB p1 k n:Nat} {cX c1:List Value} {L:Nat→Bool} {u:Nat→Value} {w w':World}
end
theorem gives_ok {P:Program} {G:Value→World→Prop} {r:Result Next} {v:Value} {w':World} (h:r = .ok (.value v) w') (hG:G v w'):gives P G r:=by rw[h];exact hG
end
section
open Go.ChangeShapes Go.WideShapes Go.ChangeAt Go.RowKit
theorem srcV_grown {w w':World} {sz n:Nat} {v:Value} {ys:List Value} {r:Option Nat} (h:SrcV w sz v n ys) (hz:∀ k,v.ownBlock=some k→k<w.heap.size) (hg:w.grownBy w' r) (hne:∀ k,v.ownBlock=some k→r≠some k):SrcV w' sz v n ys:=by
 obtain ⟨a,cap,rfl,h0,h1,h2,h3⟩:=h
 refine ⟨a,cap,rfl,h0,h1,h2,fun ad e j u hu => ?_⟩
 subst e
 have hb:(ad.add j).block=ad.block:=by unfold Addr.add;split<;>rfl
 have hk:w'.heap[ad.block]? = w.heap[ad.block]? := hg.block _ (hz ad.block rfl) (fun e=>hne ad.block rfl e.symm)
 exact (World.cell?_of_block (a:=ad.add j) (by rw[hb];exact hk)).trans (h3 ad rfl j u hu)
theorem grown_below {w w':World} (h:Below w.heap.size w w'):w.grownBy w' none:=⟨h.os,h.tape,h.output,h.size,fun k hk _=>h.block k hk⟩
theorem srcV_pastC {w w':World} {sz n:Nat} {v:Value} {ys:List Value} (h:SrcV w sz v n ys) (hz:∀ k,v.ownBlock=some k→k<w.heap.size) (hb:Below w.heap.size w w'):SrcV w' sz v n ys:=srcV_grown h hz (grown_below hb) (fun k _ e=>by cases e)
def ChOk (D:Nat→Option Value) (Pl sl:Nat→Nat) (N:Nat):Prop :=
 (∀ i,i≤N→D (Pl i)=none)∧(∀ j,D (sl j)=none)∧(∀ i k,i≤N→k≤N→Pl i=Pl k→i=k)∧(∀ i j,i≤N→Pl i≠sl j)
structure ChI (tp:TypeId) (sz:Nat) (W0:World) (D:Nat→Option Value) (Pl sl:Nat→Nat) (N:Nat) (nn mm:Nat→Nat) (R C:Nat→List Value) (L:Nat→Bool) (u:Nat→Value) (w:World):Prop where
 bel:Below W0.heap.size W0 w
 det:∀ j v,D j=some v→L j=true→u j=v
 ord:∀ i,i<N→L (Pl (i+1))=true→L (Pl i)=true
 row:∀ i,i≤N→L (Pl i)=true→(i<N→L (Pl (i+1))=false)→w.ownsRow W0.heap.size tp sz (u (Pl i)) (nn i) (R i)
 src:∀ j,j≤N→L (sl j)=true→L (Pl j)=false→SrcV w sz (u (sl j)) (mm j) (C j)∧(∀ k,(u (sl j)).ownBlock=some k→k<w.heap.size) ∧
  ∀ i,i≤N→L (Pl i)=true→(i<N→L (Pl (i+1))=false)→∀ k,(u (sl j)).ownBlock=some k→(u (Pl i)).ownBlock≠some k
section
variable {tp:TypeId} {sz:Nat} {W0:World} {D:Nat→Option Value} {Pl sl:Nat→Nat} {N:Nat} {nn mm:Nat→Nat} {R C:Nat→List Value} {L:Nat→Bool} {u:Nat→Value} {w w':World}
theorem chI_start (hb:Below W0.heap.size W0 w):ChI tp sz W0 D Pl sl N nn mm R C (fun _=>false) (fun _=>undef) w :=
 ⟨hb,fun j v _ h=>(by cases h),fun i _ h=>(by cases h),fun i _ h=>(by cases h),fun j _ h=>(by cases h)⟩
theorem ChI.ndet (h:ChI tp sz W0 D Pl sl N nn mm R C L u w) (hk:ChOk D Pl sl N) {i:Nat} {v:Value} (hd:D i=some v) (hb:Below w.heap.size w w'):ChI tp sz W0 D Pl sl N nn mm R C (upB L i) (upV u i v) w':=by
 have iP:∀ k,k≤N→¬ Pl k=i:=fun k hkN e=>by rw[←e,hk.1 k hkN] at hd;cases hd
 have iS:∀ k,¬ sl k=i:=fun k e=>by rw[←e,hk.2.1 k] at hd;cases hd
 refine ⟨h.bel.trans (hb.mono h.bel.size),fun j x hx hj => ?_,fun k hkN => ?_,fun k hkN => ?_,fun j hj => ?_⟩
 ·by_cases c:j=i
  ·subst c
   rw[hd] at hx;cases hx
   simp[upV]
  ·simp only[upB,upV,if_neg c] at hj ⊢;exact h.det j x hx hj
 ·simp only[upB,if_neg (iP _ (show k+1≤N from hkN)),if_neg (iP k (by omega))];exact h.ord k hkN
 ·intro h1 h2
  simp only[upB,upV,if_neg (iP k hkN)] at h1 ⊢
  refine own_below (h.row k hkN h1 fun hlt => ?_) hb
  have:=h2 hlt
  simpa only[upB,if_neg (iP _ (show k+1≤N from hlt))] using this
 ·intro h1 h2
  simp only[upB,upV,if_neg (iS j),if_neg (iP j hj)] at h1 h2 ⊢
  obtain ⟨q1,q2,q3⟩:=h.src j hj h1 h2
  refine ⟨srcV_pastC q1 q2 hb,fun k hk'=>Nat.lt_of_lt_of_le (q2 k hk') hb.size,fun k hkN h3 h4 => ?_⟩
  simp only[if_neg (iP k hkN)] at h3 ⊢
  refine q3 k hkN h3 fun hlt => ?_
  have:=h4 hlt
  simpa only[if_neg (iP _ (show k+1≤N from hlt))] using this
theorem ChI.nbase (h:ChI tp sz W0 D Pl sl N nn mm R C L u w) (hk:ChOk D Pl sl N) (hl:L (Pl 0)=false) {v:Value} (ho:w'.ownsRow W0.heap.size tp sz v (nn 0) (R 0)) (hb:Below w.heap.size w w') (hf:∀ k,v.ownBlock=some k→w.heap.size≤k) :
  ChI tp sz W0 D Pl sl N nn mm R C (upB L (Pl 0)) (upV u (Pl 0) v) w':=by
 have all:∀ k,k≤N→L (Pl k)=false:=fun k=>by
  induction k with
  | zero=>intro _;exact hl
  | succ k ih =>
   intro hk'
   cases e:L (Pl (k+1)) with
   | false=>rfl
   | true =>
    have:=h.ord k (by omega) e
    rw[ih (by omega)] at this;cases this
 have iP:∀ k,k≤N→k≠0→¬ Pl k=Pl 0:=fun k hkN h0 e=>h0 (hk.2.2.1 k 0 hkN (by omega) e)
 have iS:∀ k,¬ sl k=Pl 0:=fun k e=>hk.2.2.2 0 k (by omega) e.symm
 refine ⟨h.bel.trans (hb.mono h.bel.size),fun j x hx hj => ?_,fun k hkN => ?_,fun k hkN h1 h2 => ?_,fun j hj h1 h2 => ?_⟩
 ·by_cases c:j=Pl 0
  ·subst c;rw[hk.1 0 (by omega)] at hx;cases hx
  ·simp only[upB,upV,if_neg c] at hj ⊢;exact h.det j x hx hj
 ·simp only[upB,if_neg (iP (k+1) hkN (by omega)),all (k+1) hkN];exact fun e=>by cases e
 ·by_cases c:k=0
  ·subst c;simpa [upV] using ho
  ·simp only[upB,if_neg (iP k hkN c),all k hkN] at h1;cases h1
 ·have hj0:j≠0:=fun e=>by subst e;simp[upB] at h2
  simp only[upB,upV,if_neg (iS j),if_neg (iP j hj hj0)] at h1 h2 ⊢
  obtain ⟨q1,q2,q3⟩:=h.src j hj h1 h2
  refine ⟨srcV_pastC q1 q2 hb,fun k hk'=>Nat.lt_of_lt_of_le (q2 k hk') hb.size,fun i hi h3 h4 k hk' e => ?_⟩
  by_cases c:i=0
  ·subst c
   rw[if_pos rfl] at e
   have:=hf k e;have:=q2 k hk';omega
  ·simp only[if_neg (iP i hi c),all i hi] at h3;cases h3
theorem ChI.nsrc (h:ChI tp sz W0 D Pl sl N nn mm R C L u w) (hk:ChOk D Pl sl N) {j:Nat} (hinj:∀ k,k≤N→sl k=sl j→k=j) {v:Value} (hs:SrcV w' sz v (mm j) (C j)) (hz:∀ k,v.ownBlock=some k→w.heap.size≤k∧k<w'.heap.size) (hb:Below w.heap.size w w') :
  ChI tp sz W0 D Pl sl N nn mm R C (upB L (sl j)) (upV u (sl j) v) w':=by
 have iP:∀ k,k≤N→¬ Pl k=sl j:=fun k hkN e=>hk.2.2.2 k j hkN e
 refine ⟨h.bel.trans (hb.mono h.bel.size),fun i x hx hj => ?_,fun k hkN => ?_,fun k hkN h1 h2 => ?_,fun i hi h1 h2 => ?_⟩
 ·by_cases c:i=sl j
  ·subst c;rw[hk.2.1 j] at hx;cases hx
  ·simp only[upB,upV,if_neg c] at hj ⊢;exact h.det i x hx hj
 ·simp only[upB,if_neg (iP _ (show k+1≤N from hkN)),if_neg (iP k (by omega))];exact h.ord k hkN
 ·simp only[upB,upV,if_neg (iP k hkN)] at h1 ⊢
  refine own_below (h.row k hkN h1 fun hlt => ?_) hb
  have:=h2 hlt
  simpa only[upB,if_neg (iP _ (show k+1≤N from hlt))] using this
 ·have back:∀ k,k≤N→(k<N→upB L (sl j) (Pl (k+1))=false)→(k<N→L (Pl (k+1))=false):=fun k hkN h4 hlt=>by
   have:=h4 hlt
   simpa only[upB,if_neg (iP _ (show k+1≤N from hlt))] using this
  by_cases c:sl i=sl j
  ·have:=hinj i hi c
   subst this
   simp only[upV,if_true]
   refine ⟨hs,fun k hk'=>(hz k hk').2,fun k hkN h3 h4 b hb' e => ?_⟩
   simp only[upB,if_neg (iP k hkN)] at h3 e
   have hr:=h.row k hkN h3 (back k hkN h4)
   have:=own_lt hr e;have:=(hz b hb').1;omega
  ·simp only[upB,upV,if_neg c,if_neg (iP i hi)] at h1 h2 ⊢
   obtain ⟨q1,q2,q3⟩:=h.src i hi h1 h2
   refine ⟨srcV_pastC q1 q2 hb,fun k hk'=>Nat.lt_of_lt_of_le (q2 k hk') hb.size,fun k hkN h3 h4 => ?_⟩
   simp only[if_neg (iP k hkN)] at h3 ⊢
   exact q3 k hkN h3 (back k hkN h4)
theorem ChI.napp (h:ChI tp sz W0 D Pl sl N nn mm R C L u w) (hk:ChOk D Pl sl N) {i:Nat} (hi:i<N) (hl:L (Pl (i+1))=false) (hp:L (Pl i)=true) {v:Value} (ho:w'.ownsRow W0.heap.size tp sz v (nn (i+1)) (R (i+1))) (hg:w.grownBy w' (u (Pl i)).ownBlock)
  (hat:v.ownBlock=(u (Pl i)).ownBlock∨v.ownBlock=some w.heap.size):ChI tp sz W0 D Pl sl N nn mm R C (upB L (Pl (i+1))) (upV u (Pl (i+1)) v) w':=by
 have hrow:=h.row i (by omega) hp fun _=>hl
 have up:∀ k,i<k→k≤N→L (Pl k)=false:=fun k=>by
  induction k with
  | zero=>intro h1;omega
  | succ k ih =>
   intro h1 h2
   by_cases c:k=i
   ·subst c;exact hl
   ·cases e:L (Pl (k+1)) with
    | false=>rfl
    | true =>
     have:=h.ord k (by omega) e
     rw[ih (by omega) (by omega)] at this;cases this
 have dn:∀ k,k≤i→L (Pl k)=true:=fun k hk'=>by
  have:∀ m,m≤i→L (Pl (i - m))=true:=fun m=>by
   induction m with
   | zero=>intro _;exact hp
   | succ m ih =>
    intro hm
    have h1:=ih (by omega)
    have h2:=h.ord (i - (m+1)) (by omega) (by rw[show i - (m+1)+1=i - m by omega];exact h1)
    exact h2
  have h1:=this (i - k) (by omega)
  rwa [show i - (i - k)=k by omega] at h1
 have iP:∀ k,k≤N→k≠i+1→¬ Pl k=Pl (i+1):=fun k hkN h0 e=>h0 (hk.2.2.1 k (i+1) hkN (by omega) e)
 have iS:∀ k,¬ sl k=Pl (i+1):=fun k e=>hk.2.2.2 (i+1) k (by omega) e.symm
 refine ⟨Below.grown h.bel hg h.bel.size (fun k e=>own_block hrow e),fun j x hx hj => ?_,fun k hkN h1 => ?_,fun k hkN h1 h2 => ?_,fun j hj h1 h2 => ?_⟩
 ·by_cases c:j=Pl (i+1)
  ·subst c;rw[hk.1 (i+1) (by omega)] at hx;cases hx
  ·simp only[upB,upV,if_neg c] at hj ⊢;exact h.det j x hx hj
 ·by_cases c:k=i+1
  ·subst c;simp[upB]
  ·simp only[upB,if_neg (iP k (by omega) c)]
   by_cases c2:k=i
   ·subst c2;exact hp
   ·simp only[upB,if_neg (iP (k+1) hkN (by omega))] at h1
    exact h.ord k hkN h1
 ·by_cases c:k=i+1
  ·subst c;simpa [upV] using ho
  ·simp only[upB,if_neg (iP k hkN c)] at h1
   by_cases c2:k<i+1
   ·exfalso
    have:=h2 (by omega)
    by_cases c3:k=i
    ·subst c3;simp[upB] at this
    ·simp only[upB,if_neg (iP (k+1) (by omega) (by omega))] at this
     rw[dn (k+1) (by omega)] at this;cases this
   ·rw[up k (by omega) hkN] at h1;cases h1
 ·have hji:j≠i+1:=fun e=>by subst e;simp[upB] at h2
  simp only[upB,upV,if_neg (iS j),if_neg (iP j hj hji)] at h1 h2 ⊢
  obtain ⟨q1,q2,q3⟩:=h.src j hj h1 h2
  have q3i:=q3 i (by omega) hp fun _=>hl
  refine ⟨srcV_grown q1 q2 hg (fun k hk'=>q3i k hk'),fun k hk'=>Nat.lt_of_lt_of_le (q2 k hk') hg.size,fun k hkN h3 h4 b hb' e => ?_⟩
  by_cases c:k=i+1
  ·subst c
   rw[if_pos rfl] at e
   rcases hat with hat | hat
   ·exact q3i b hb' (hat.symm.trans e)
   ·rw[hat] at e
    have:=q2 b hb'
    cases e;omega
  ·simp only[if_neg (iP k hkN c)] at h3
   by_cases c2:k<i+1
   ·have:=h4 (by omega)
    by_cases c3:k=i
    ·subst c3;simp at this
    ·simp only[if_neg (iP (k+1) (by omega) (by omega))] at this
     rw[dn (k+1) (by omega)] at this;cases this
   ·rw[up k (by omega) hkN] at h3;cases h3
end
theorem gives_appC {P:Program} {o:Oper} {E:Operand→Value} {w:World} {G:Value→World→Prop} (s x:Operand) (t:TypeId)
  (hop:o.op=Op.call { callee:=Callee.builtin Builtin.append,args:=#[s,x],argTypes:=#[t,t] })
  (base:Nat) (e:TypeId) (i:TypeInfo) (z:Value) (sz by':Nat) (ht:P.underlying t=some (.slice e)) (hi:P.info? e=some i) (hz:i.zero=some z) (hsize:i.size=sz) (hby:i.bytes=by') (hzs:z.cells.size=sz) (hs0:0<sz)
  (n:Nat) (xs:List Value) (hown:w.ownsRow base e sz (E s) n xs)
  (m:Nat) (ys:List Value) (hsrc:SrcV w sz (E x) m ys)
  (h63:n+m≤1099511627776) (hb':by'≤100) (hbase:base≤w.heap.size)
  (h:∀ v' w',w'.ownsRow base e sz v' (n+m) (xs++ys)→w.grownBy w' (E s).ownBlock→(v'.ownBlock=(E s).ownBlock∨v'.ownBlock=some w.heap.size)→G v' w'):gives P G ((execOp E o).run P w):=by
 obtain ⟨a,cap,hx,h0,hl,h1,hc⟩:=hsrc
 cases a with
 | none =>
  obtain ⟨rfl,rfl⟩:=h0 rfl
  have hy:ys=[]:=List.eq_nil_of_length_eq_zero (by omega)
  subst hy
  have hrun:=run_append_owned_none (P:=P) (w:=w) base t o.type e i sz ht hi (E s) n xs hown
  have hK:=h (E s) w (by simpa using hown) ⟨rfl,rfl,rfl,Nat.le_refl _,fun _ _ _=>rfl⟩ (.inl rfl)
  unfold execOp
  simp[hop,resolve,invoke,builtin,hx,hrun,Result.andThen,gives]
  exact hK
 | some ad =>
  have hbb:(n+m) * by'≤(n+m) * 100:=Nat.mul_le_mul_left _ hb'
  obtain ⟨v',w',hr,h2,h3,h4,h5⟩:=run_append_own_at (P:=P) w base t o.type e i z sz by' ht hi hz hsize hby hzs hs0 (E s) n xs hown ad m cap ys hl (hc ad rfl) h1 (by unfold maxLen;omega) (by omega) hbase
  unfold execOp
  simp only[hop,resolve,invoke,builtin,Sem.run_bind,Sem.run_pure,Result.andThen_ok,List.map_toArray,List.map_cons,List.map_nil,hx,hr]
  exact h v' w' h2 h3 h5
end
end Go.Proofs.YtcmponckjkalaaaGreat
