/- The contract of rle.Of: the canonical function of raw runs, or an error. No conditions but the list's size. The contract of (calc.pair).combined. No conditions but the lists' sizes, that the slices' cells read as integers, and that the functions are canonical. The contract of the document's own May of vectors. No conditions. -/
import Derived.Test.YtcmponckjkalaaaGreatPUGD
import Derived.Deep.DeepCutAuto
import Derived.Laws.AppendOwn
import Derived.Test.YtcmponckjkalaaaGreatPUGB
import Derived.Test.YtcmponckjkalaaaGreatPUMB
import Derived.Test.YtcmponckjkalaaaGreatPUGC
import Derived.Laws.MakeOwn
import Derived.RangeFuncCalls
import Derived.Shelf.Abstract
import Derived.Test.YtcmponckjkalaaaGreatRows
import Derived.Test.YtcmponckjkalaaaGreatPUGA
import Derived.Test.YtcmponckjkalaaaGreatPUMA
import Derived.Outline
namespace Go.Proofs.YtcmponckjkalaaaGreat
section
open Go.ChangeShapes Go.WideShapes Go.ChangeAt Go.RowKit
attribute [local irreducible] Go.Calls
theorem cmpr_nil (last:Int × Int):cmpr last []=[]:=rfl
theorem cmpr_skip {s:List Sg} {k:Nat} {last:Int × Int} (h:k+1<s.length) (e:ats s (k+1)=ats s k):cmpr last (s.drop k)=cmpr last (s.drop (k+1)):=by
 unfold ats at e
 rw[drop_cons (k:=k) (by omega),drop_cons h]
 conv=>lhs;unfold cmpr
 rw[if_pos e]
theorem cmpr_same {s:List Sg} {k:Nat} {last:Int × Int} (h:k<s.length) (e:k+1<s.length→ats s (k+1)≠ats s k) (e2:vls s k=last):cmpr last (s.drop k)=cmpr (vls s k) (s.drop (k+1)):=by
 rw[e2]
 unfold ats at e;unfold vls at e2
 by_cases c:k+1<s.length
 ·rw[drop_cons (k:=k) h,drop_cons c]
  conv=>lhs;unfold cmpr
  rw[if_neg (e c),if_pos e2]
 ·rw[drop_cons (k:=k) h,List.drop_eq_nil_of_le (by omega:s.length≤k+1)]
  unfold cmpr
  rw[if_pos e2]
theorem cmpr_new {s:List Sg} {k:Nat} {last:Int × Int} (h:k<s.length) (e:k+1<s.length→ats s (k+1)≠ats s k) (e2:vls s k≠last):cmpr last (s.drop k)=s.getD k (0,0,0)   :: cmpr (vls s k) (s.drop (k+1)):=by
 unfold ats at e;unfold vls at e2 ⊢
 by_cases c:k+1<s.length
 ·rw[drop_cons (k:=k) h,drop_cons c]
  conv=>lhs;unfold cmpr
  rw[if_neg (e c),if_neg e2]
 ·rw[drop_cons (k:=k) h,List.drop_eq_nil_of_le (by omega:s.length≤k+1)]
  unfold cmpr
  rw[if_neg e2]
set_option maxRecDepth 100000 in
set_option maxHeartbeats 4000000 in
theorem of_c (l:List Sg) (a:Option Addr) (cap:Nat) (w:World) (hl:l.length≤1099511627776) (hA:ArgS w a l) :
  Calls Tryz.prog 153 #[.slice a l.length cap] w (OfPost w l):=by
 have HA:=hidE hA;clear hA
 go_enter Tryz.func153,Tryz.ntmps153
 go_wp2
 go_loopg [13] l.length (fun g vi wr=>∃ k:Nat,k≤l.length∧l.length - k≤g∧vi = .int .i64 k∧(∀ i,i<k→okS (l.getD i (0,0,0))=true)∧Below w.heap.size w wr)
 case atStart=>exact ⟨0,Nat.zero_le _,by omega,rfl,fun i hi=>by omega,Below.refl _ _⟩
 case round =>
  obtain ⟨k,hk,hg,rfl,hs,hb⟩:=hrel
  have HS:=hidE hs;have HB:=hidE hb;clear hs hb
  by_cases hlt:k<l.length
  ·obtain ⟨b,off,rfl,hb,hc⟩:=(HA.out.past HB.out) (by omega)
   obtain ⟨c0,c1,c2⟩:=hc.get hlt
   clear hc
   cases hok:okS (l.getD k (0,0,0))
   ·have HX:=hidE (all_bad hlt hok)
    have HV:=hidE (fun w=>valid_c (l.getD k (0,0,0)) w)
    rw[hok] at HV
    change Hid (∀ w,Calls _ _ #[S (ats l k) (vls l k).1 (vls l k).2] _ _) at HV
    generalize ats l k=u at *
    generalize vls l k=v at *
    go_wp2_with (go_at_call 114;((with_reducible refine (HV.out _).mono ?_);rintro e w1 ⟨rfl,hb1⟩))
    go_ret2
    exact ⟨_,[],10,rfl,sliS_nil _,.inr ⟨HX.out,rfl,rfl⟩,by have:=HB.out;(repeat (first | exact Below.refl _ _ | assumption | refine balloc ?_ _ | refine below_drewN ?_ _ | refine bstep (by assumption) ?_ | refine bstep (Past.prop _) ?_ | refine Below.setCell ?_ (by first | exact Nat.le_refl _ | (simp;done) | (simp;omega)) _))⟩
   ·have HX:=hidE (show ∀ i,i<k+1→okS (l.getD i (0,0,0))=true from fun i hi=>by
     by_cases e:i=k
     ·rw[e];exact hok
     ·exact HS.out i (by omega))
    have HV:=hidE (fun w=>valid_c (l.getD k (0,0,0)) w)
    rw[hok] at HV
    change Hid (∀ w,Calls _ _ #[S (ats l k) (vls l k).1 (vls l k).2] _ _) at HV
    generalize ats l k=u at *
    generalize vls l k=v at *
    go_wp2_with (go_at_call 114;((with_reducible refine (HV.out _).mono ?_);rintro e w1 ⟨rfl,hb1⟩))
    go_roundg (l.length - (k+1))
    case measure=>omega
    case rel=>exact ⟨k+1,by omega,Nat.le_refl _,by go_num,HX.out,by have:=HB.out;(repeat (first | exact Below.refl _ _ | assumption | refine balloc ?_ _ | refine below_drewN ?_ _ | refine bstep (by assumption) ?_ | refine bstep (Past.prop _) ?_ | refine Below.setCell ?_ (by first | exact Nat.le_refl _ | (simp;done) | (simp;omega)) _))⟩
  ·have hk':k=l.length:=by omega
   subst hk'
   have HX:=hidE (all_good HS.out)
   clear HS
   go_wp2_with fail
   ((with_reducible refine (changing_c _).mono ?_);rintro e w1 ⟨rfl,rfl⟩)
   have hb0:Below w.heap.size w (wr.alloc (.cells #[.int .i64 0,.int .i64 0] 60)):=by have:=HB.out;(repeat (first | exact Below.refl _ _ | assumption | refine balloc ?_ _ | refine below_drewN ?_ _ | refine bstep (by assumption) ?_ | refine bstep (Past.prop _) ?_ | refine Below.setCell ?_ (by first | exact Nat.le_refl _ | (simp;done) | (simp;omega)) _))
   have hp0:w.heap.size≤wr.heap.size:=HB.out.size
   have B0:Blk (wr.alloc (.cells #[.int .i64 0,.int .i64 0] 60)) wr.heap.size #[.int .i64 0,.int .i64 0] 60:=Blk.made _ _ _
   have HB0:=hidE hb0;have HBL:=hidE B0
   clear hb0 B0 HB hg
   obtain ⟨p,hp⟩:∃ p,p=wr.heap.size:=⟨_,rfl⟩
   rw[←hp] at hp0 HBL ⊢
   generalize wr.alloc (.cells #[.int .i64 0,.int .i64 0] 60)=w1 at *
   clear hp
   go_wp2_with fail
   ((with_reducible refine (inOrder_c l a cap _ hl (HA.out.past HB0.out)).mono ?_);rintro e w2 ⟨q,d,rfl,hq,hbq,hb2,hm,hs⟩)
   have HIS:=hidE (isOf_cmpr hm hs (fun x hx=>List.all_eq_true.1 HX.out x hx))
   have HOD:=hidE (show Okd l.length d from fun k hk=>by
    obtain ⟨k',_,q2,e⟩:=hm.inn k (Nat.zero_le _) hk
    rw[e];exact q2)
   have hpl:=HBL.out.lt
   have HB2:=hidE (show Below w.heap.size w w2 by have:=HB0.out;(repeat (first | exact Below.refl _ _ | assumption | refine balloc ?_ _ | refine below_drewN ?_ _ | refine bstep (by assumption) ?_ | refine bstep (Past.prop _) ?_ | refine Below.setCell ?_ (by first | exact Nat.le_refl _ | (simp;done) | (simp;omega)) _)))
   have HBP:=hidE (HBL.out.past hb2)
   have HBQ:=hidE hbq
   have hq2:=hbq.lt
   have hp2:p<w2.heap.size:=Nat.lt_of_lt_of_le hpl hb2.size
   have hpq:p≠q:=by omega
   have hqw:w.heap.size≤q:=Nat.le_trans HB0.out.size hq
   have hlo:w.heap.size≤w2.heap.size:=by omega
   clear hm hs HBL HB0 hbq hb2 hpl hq
   generalize hB:w2.heap.size=B at hq2 hp2 hlo
   have HBE:=hidE hB;clear hB
   go_wp2_with fail
   go_loopg [26,6,9,10] l.length (fun g vi vf _ _ wr2=>∃ (k:Nat) (fk:List Sg) (last:Int × Int) (v6:Value),vi = .int .i64 k∧v6=vf∧k≤l.length∧l.length - k≤g∧fk.length≤k∧wr2.ownsRow B 100 3 v6 fk.length (cellsOfS fk)∧Blk wr2 p #[.int .i64 last.1,.int .i64 last.2] 60∧Blk wr2 q (rowC l.length d) 3∧Below w.heap.size w wr2∧B≤wr2.heap.size∧Hid (fk++cmpr last ((ordL l d).drop k)=cmpr (0,0) (ordL l d)))
   case atStart=>exact ⟨0,[],(0,0),.slice none 0 0,rfl,rfl,by omega,by omega,Nat.le_refl _,⟨rfl,.inl ⟨rfl,rfl⟩⟩,HBP.out,HBQ.out,HB2.out,Nat.le_of_eq HBE.out.symm,rfl⟩
   case round =>
    clear HBP HBQ HB2 HBE
    obtain ⟨k,fk,last,s6,rfl,rfl,hk,hg,hfk,hown,hbp,hbq,hb,hB,HF⟩:=hrel
    have HOW:=hidE hown;have HBP:=hidE hbp;have HBQ:=hidE hbq;have HB:=hidE hb
    clear hown hbp hbq hb
    by_cases hlt:k<l.length
    ·obtain ⟨b,off,rfl,hb,hc⟩:=(HA.out.past HB.out) (by omega)
     have hbw:b<w.heap.size:=by
      obtain ⟨b',off',e,hb',_⟩:=HA.out (by omega)
      simp at e;omega
     obtain ⟨c0,c1,c2⟩:=hc.get (i:=d k) (HOD.out k hlt)
     have r0:=(HBQ.out.cell k).trans (rowC_get hlt)
     have hdk:=HOD.out k hlt
     have hbz:b<wr.heap.size:=hb
     have hqz:=HBQ.out.lt
     have HEA:=hidE (ordL_ats (l:=l) (d:=d) hlt)
     have HEV:=hidE (ordL_vls (l:=l) (d:=d) hlt)
     by_cases hskip:k+1<l.length∧ats l (d (k+1))=ats l (d k)
     ·obtain ⟨hk1,hsame⟩:=hskip
      have HF2:=hidE (show fk++cmpr last ((ordL l d).drop (k+1))=cmpr (0,0) (ordL l d) by
       rw[←HF.out,cmpr_skip (k:=k) (by rw[ordL_len];exact hk1) (by rw[ordL_ats hk1,ordL_ats hlt];exact hsame)])
      obtain ⟨d0,d1,d2⟩:=hc.get (i:=d (k+1)) (HOD.out _ hk1)
      have r1:=(HBQ.out.cell (k+1)).trans (rowC_get hk1)
      have hdk1:=HOD.out _ hk1
      rw[hsame] at d0
      clear hc hsame c1 c2 d1 d2 HF HEA HEV
      have HCE:=hidE (show ∀ x:Past wr,wr.heap.size≤x.1.heap.size from fun x=>x.2.size)
      generalize ats l (d k)=u at *
      generalize d k=i0 at *
      generalize d (k+1)=i1 at *
      have g1:decide ((k:Int)+1<(l.length:Int))=true:=decide_eq_true (by omega)
      go_wp2
      refine wp_region_past_lit (by kernel_rfl) (by kernel_rfl) ?_
      have hcp:=Past.cell (W:=wr)
      repeat (go_big_quiet_step (fail))
      refine wpQuiet_nil ?_
      rintro _ ⟨x',rfl⟩
      have o1:=own_below HOW.out x'.2
      have o2:=HBP.out.past x'.2
      have o3:=HBQ.out.past x'.2
      have o4:Below w.heap.size w x'.1:=by have:=HB.out;(repeat (first | exact Below.refl _ _ | assumption | refine balloc ?_ _ | refine below_drewN ?_ _ | refine bstep (by assumption) ?_ | refine bstep (Past.prop _) ?_ | refine Below.setCell ?_ (by first | exact Nat.le_refl _ | (simp;done) | (simp;omega)) _))
      have o5:=Nat.le_trans hB x'.2.size
      clear hcp c0 d0 r0 r1
      generalize x'.1=w3 at o1 o2 o3 o4 o5 ⊢
      go_wp2
      go_roundg (l.length - (k+1))
      case measure=>omega
      case rel=>exact ⟨k+1,fk,last,s6,by go_num,rfl,by omega,Nat.le_refl _,by omega,o1,o2,o3,o4,o5,HF2.out⟩
     ·have HNE:=hidE (show k+1<(ordL l d).length→ats (ordL l d) (k+1)≠ats (ordL l d) k from fun h=>by
       rw[ordL_len] at h
       rw[ordL_ats h,ordL_ats hlt]
       exact fun e=>hskip ⟨h,e⟩)
      have HOL:=hidE (show k<(ordL l d).length by rw[ordL_len];exact hlt)
      generalize hdk0:d k=dk at r0 c0 c1 c2 hdk HEA HEV hskip
      clear hdk0
      go_wp2
      go_cut [52] (fun s52 wx=>s52 = .bool false∧wx.ownsRow B 100 3 s6 fk.length (cellsOfS fk)∧Blk wx p #[.int .i64 last.1,.int .i64 last.2] 60∧Blk wx q (rowC l.length d) 3∧Below w.heap.size w wx∧B≤wx.heap.size)
      case first =>
       by_cases hk1:k+1<l.length
       ·have hdf:(ats l (d (k+1)) == ats l dk)=false:=beq_eq_false_iff_ne.2 fun e=>hskip ⟨hk1,e⟩
        obtain ⟨d0,d1,d2⟩:=hc.get (i:=d (k+1)) (HOD.out _ hk1)
        have r1:=(HBQ.out.cell (k+1)).trans (rowC_get hk1)
        have hdk1:=HOD.out _ hk1
        clear hc hskip c1 c2 d1 d2 HF HEA HEV HNE
        generalize ats l dk=u at *
        generalize ats l (d (k+1))=u1 at *
        generalize d (k+1)=i1 at *
        have g1:decide ((k:Int)+1<(l.length:Int))=true:=decide_eq_true (by omega)
        refine wp_region_past_lit (by kernel_rfl) (by kernel_rfl) ?_
        have hcp:=Past.cell (W:=wr)
        repeat (go_big_quiet_step (fail))
        refine wpQuiet_nil ?_
        rintro _ ⟨x',rfl⟩
        go_wp2
        go_meet
        case rel=>exact ⟨rfl,own_below HOW.out x'.2,HBP.out.past x'.2,HBQ.out.past x'.2,by have:=HB.out;(repeat (first | exact Below.refl _ _ | assumption | refine balloc ?_ _ | refine below_drewN ?_ _ | refine bstep (by assumption) ?_ | refine bstep (Past.prop _) ?_ | refine Below.setCell ?_ (by first | exact Nat.le_refl _ | (simp;done) | (simp;omega)) _)),Nat.le_trans hB x'.2.size⟩
       ·clear hc hskip c1 c2 HF HEA HEV HNE
        have g1:decide ((k:Int)+1<(l.length:Int))=false:=decide_eq_false (by omega)
        refine wp_region_past_lit (by kernel_rfl) (by kernel_rfl) ?_
        have hcp:=Past.cell (W:=wr)
        repeat (go_big_quiet_step (fail))
        refine wpQuiet_nil ?_
        rintro _ ⟨x',rfl⟩
        go_wp2
        go_meet
        case rel=>exact ⟨rfl,own_below HOW.out x'.2,HBP.out.past x'.2,HBQ.out.past x'.2,by have:=HB.out;(repeat (first | exact Below.refl _ _ | assumption | refine balloc ?_ _ | refine below_drewN ?_ _ | refine bstep (by assumption) ?_ | refine bstep (Past.prop _) ?_ | refine Below.setCell ?_ (by first | exact Nat.le_refl _ | (simp;done) | (simp;omega)) _)),Nat.le_trans hB x'.2.size⟩
      obtain ⟨rfl,o1,o2,o3,o4,o5⟩:=hcut
      have hc2:CellsS wc b off l:=by
       obtain ⟨b',off',e,hb',hcc⟩:=HA.out.past o4 (by omega)
       simp at e
       obtain ⟨rfl,rfl⟩:=e
       exact hcc
      have hbc:b<wc.heap.size:=by have:=o4.size;omega
      obtain ⟨c0,c1,c2⟩:=hc2.get (i:=dk) hdk
      have O1:=hidE o1;have O2:=hidE o2;have O3:=hidE o3;have O4:=hidE o4;have O5:=hidE o5
      clear o1 o2 o3 o4 hc hc2 r0 HOW HBP HBQ HB hskip
      by_cases hsv:vls l dk=last
      ·have HF2:=hidE (show fk++cmpr (vls l dk) ((ordL l d).drop (k+1))=cmpr (0,0) (ordL l d) by
        rw[←HF.out,cmpr_same (k:=k) HOL.out HNE.out (by rw[HEV.out];exact hsv),HEV.out])
       have hbb:(!(((vls l dk).1,(vls l dk).2) == (last.1,last.2)))=false:=by rw[hsv];simp
       clear HF HEA HEV HNE hsv
       generalize ats l dk=u at *
       generalize vls l dk=v at *
       go_wp2_with fail
       ((with_reducible refine (chg_c p last.1 last.2 v.1 v.2 _ O2.out).mono ?_);rintro e w3 ⟨rfl,q1,q2⟩)
       have n1:=own_grown O1.out q2 hp2
       have n3:=O3.out.grown q2 (by intro e;simp at e;omega)
       have n4:Below w.heap.size w w3:=O4.out.grown q2 (by omega) (fun k hk=>by simp at hk;omega)
       have n5:B≤w3.heap.size:=Nat.le_trans O5.out q2.size
       clear q2 c0 c1 c2
       go_wp2
       go_roundg (l.length - (k+1))
       case measure=>omega
       case rel=>exact ⟨k+1,fk,v,s6,by go_num,rfl,by omega,Nat.le_refl _,by omega,n1,q1,n3,n4,n5,HF2.out⟩
      ·have HF2:=hidE (show (fk++[(ordL l d).getD k (0,0,0)])++cmpr (vls l dk) ((ordL l d).drop (k+1))=cmpr (0,0) (ordL l d) by
        rw[←HF.out,cmpr_new (k:=k) HOL.out HNE.out (by rw[HEV.out];exact hsv),HEV.out,List.append_assoc];rfl)
       have hbb:(!(((vls l dk).1,(vls l dk).2) == (last.1,last.2)))=true:=by
        rw[Bool.not_eq_true'];exact beq_eq_false_iff_ne.2 hsv
       have HSK:=hidE (show cellsOfS (fk++[(ordL l d).getD k (0,0,0)])=cellsOfS fk++[.int .i64 (ats l dk),.int .i64 (vls l dk).1,.int .i64 (vls l dk).2] by
        rw[cellsOfS_app]
        have e1:=HEA.out;have e2:=HEV.out
        unfold ats at e1 ⊢;unfold vls at e2 ⊢
        rw[←e1,←e2];rfl)
       clear HF HEA HEV HNE hsv
       generalize ats l dk=u at *
       generalize vls l dk=v at *
       obtain ⟨i0,hi,hz0,hz1,hz2⟩:=info_parts Tryz.infoSeg
       have HI:=hidE hi;have HZ0:=hidE hz0;have HZ1:=hidE hz1;have HZ2:=hidE hz2
       clear hi hz0 hz1 hz2
       go_wp2_with fail
       ((with_reducible refine (chg_c p last.1 last.2 v.1 v.2 _ O2.out).mono ?_);rintro e w3 ⟨rfl,q1,q2⟩)
       have hc3:b<w3.heap.size:=Nat.lt_of_lt_of_le hbc q2.size
       have hbp:some b≠some p:=by intro e;simp at e;omega
       have hblk:=q2.block b hbc hbp
       have t0:w3.cell? ⟨b,off+dk * 3,none⟩=some (.int .i64 u):=(World.cell?_of_block (w:=wc) (a:=⟨b,off+dk * 3,none⟩) hblk).trans c0
       have t1:w3.cell? ⟨b,off+dk * 3+1,none⟩=some (.int .i64 v.1):=(World.cell?_of_block (w:=wc) (a:=⟨b,off+dk * 3+1,none⟩) hblk).trans c1
       have t2:w3.cell? ⟨b,off+dk * 3+2,none⟩=some (.int .i64 v.2):=(World.cell?_of_block (w:=wc) (a:=⟨b,off+dk * 3+2,none⟩) hblk).trans c2
       have n1:=own_grown O1.out q2 hp2
       have n3:=O3.out.grown q2 (by intro e;simp at e;omega)
       have n4:Below w.heap.size w w3:=O4.out.grown q2 (by omega) (fun k hk=>by simp at hk;omega)
       have n5:B≤w3.heap.size:=Nat.le_trans O5.out q2.size
       have N1:=hidE n1;have N3:=hidE n3;have N4:=hidE n4;have Q1:=hidE q1
       clear q2 c0 c1 c2 n1 n3 n4 q1 hblk hbp
       go_wp2_with (at_builtin;refine wpList_append_own _ rfl (.tmp 60) (.tmp 65) 22 rfl B 100 i0 (.agg #[.int .i64 0,.int .i64 0,.int .i64 0]) 3 24 Tryz.underlying22 HI.out HZ0.out HZ1.out HZ2.out rfl (by decide) _ _ _ rfl (N1.out.alloc _) ⟨w3.heap.size,0,none⟩ 1 1 [.int .i64 u,.int .i64 v.1,.int .i64 v.2] rfl rfl (new_cells w3 #[.int .i64 u,.int .i64 v.1,.int .i64 v.2] 100) (by intro x hx;simp at hx;rcases hx with rfl | rfl | rfl<;>rfl) (by unfold maxLen;omega) (by omega) (by simp;omega) ?_;intro v' w4 hown4 hgrow4 _)
       have p1:=(Blk.alloc Q1.out (.cells #[.int .i64 u,.int .i64 v.1,.int .i64 v.2] 100)).grown hgrow4 (fun e=>by have:=own_block N1.out e.symm;omega)
       have p3:=(Blk.alloc N3.out (.cells #[.int .i64 u,.int .i64 v.1,.int .i64 v.2] 100)).grown hgrow4 (fun e=>by have:=own_block N1.out e.symm;omega)
       have p4:Below w.heap.size w w4:=Below.grown (N4.out.alloc (by omega) (.cells #[.int .i64 u,.int .i64 v.1,.int .i64 v.2] 100)) hgrow4 (by simp;omega) (fun k hk=>by have:=own_block N1.out hk;omega)
       have p5:B≤w4.heap.size:=Nat.le_trans n5 (Nat.le_trans (by simp) hgrow4.size)
       rw[←HSK.out] at hown4
       have P1:=hidE p1;have P3:=hidE p3;have P4:=hidE p4;have PO:=hidE hown4
       clear p1 p3 p4 hown4 hgrow4 t0 t1 t2
       go_wp2
       go_roundg (l.length - (k+1))
       case measure=>omega
       case rel=>exact ⟨k+1,fk++[(ordL l d).getD k (0,0,0)],v,v',by go_num,rfl,by omega,Nat.le_refl _,by simp;omega,by rw[List.length_append];exact PO.out,P1.out,P3.out,P4.out,p5,HF2.out⟩
    ·have hk':k=l.length:=by omega
     subst hk'
     have e:=HF.out
     rw[List.drop_eq_nil_of_le (by rw[ordL_len];exact Nat.le_refl _)] at e
     rw[cmpr_nil,List.append_nil] at e
     have HE:=hidE e;clear e
     go_wp2
     go_ret2
     exact ⟨_,fk,0,rfl,sliS_own HOW.out,.inl ⟨HX.out,rfl,by rw[HE.out];exact HIS.out⟩,HB.out⟩
end
section
open Go.ChangeShapes Go.WideShapes Go.ChangeAt Go.RowKit Go.Shelf
attribute [local irreducible] Go.Calls
attribute [local go_sem] Oper.semAt_some
theorem make_segs (n:Nat) (hn:n≤1000000000):∀ w,(Instr.makeSlice 22 (.int .i64 0) (.int .i64 (n:Int))).run Tryz.prog w = .ok (.slice (some ⟨w.heap.size,0,none⟩) 0 n) (w.alloc (.cells (madeCells #[.int .i64 0,.int .i64 0,.int .i64 0] (n * 3)) 100)):=by
 intro w
 obtain ⟨i0,hi,hz0,hz1,hz2⟩:=info_parts Tryz.infoSeg
 have h:=run_make (P:=Tryz.prog) w 22 100 i0 (.agg #[.int .i64 0,.int .i64 0,.int .i64 0]) Tryz.underlying22 hi hz0 .i64 .i64 0 n (by omega) (by omega) (by rw[hz2];omega) (by omega)
 rw[h]
 simp only[Int.toNat_natCast,hz1,Value.cells]
 rfl
theorem make_segs2 (n m:Nat) (hn:n+m≤1000000000):∀ w,(Instr.makeSlice 22 (.int .i64 0) (.int .i64 ((n:Int)+(m:Int)))).run Tryz.prog w = .ok (.slice (some ⟨w.heap.size,0,none⟩) 0 (n+m)) (w.alloc (.cells (madeCells #[.int .i64 0,.int .i64 0,.int .i64 0] ((n+m) * 3)) 100)):=by
 intro w
 rw[←Int.natCast_add]
 exact make_segs (n+m) hn w
def RowAt (W:World) (g cap:Nat) (l:List Sg):Prop:=∃ cur:Array Value,Blk W g cur 100∧cur.size=cap * 3∧l.length≤cap∧cap≤1000000000∧cur.toList.take (l.length * 3)=cellsOfS l
theorem RowAt.below {W W':World} {g cap B:Nat} {l:List Sg} (h:RowAt W g cap l) (hb:Below B W W') (hg:g<B):RowAt W' g cap l:=by
 obtain ⟨cur,h1,h2⟩:=h
 exact ⟨cur,h1.below hb hg,h2⟩
theorem RowAt.own {W:World} {g cap base:Nat} {l:List Sg} (h:RowAt W g cap l) (hb:base≤g):W.ownsRow base 100 3 (.slice (some ⟨g,0,none⟩) l.length cap) l.length (cellsOfS l):=by
 obtain ⟨cur,h1,h2,h3,h4,h5⟩:=h
 exact ⟨by rw[cellsOfS_len],.inr ⟨g,cap,cur,rfl,hb,h1,h3,by unfold maxLen;omega,h2,h5⟩⟩
theorem RowAt.of_own {W:World} {g cap base:Nat} {l:List Sg} (hc:cap≤1000000000) (h:W.ownsRow base 100 3 (.slice (some ⟨g,0,none⟩) l.length cap) l.length (cellsOfS l)):RowAt W g cap l:=by
 obtain ⟨h1,h2 | ⟨g',cap',cur,e,h3,h4,h5,h6,h7,h8⟩⟩:=h
 ·cases h2.1
 ·cases e
  exact ⟨cur,h4,h7,h5,hc,h8⟩
theorem RowAt.other {W:World} {g cap b i:Nat} {l:List Sg} (h:RowAt W g cap l) (hne:g≠b) (v:Value):RowAt (W.setCell ⟨b,i,none⟩ v) g cap l:=by
 obtain ⟨cur,h1,h2⟩:=h
 exact ⟨cur,h1.other hne v,h2⟩
theorem RowAt.made {W:World} (n:Nat) (hn:n≤1000000000):RowAt (W.alloc (.cells (madeCells #[.int .i64 0,.int .i64 0,.int .i64 0] (n * 3)) 100)) W.heap.size n [] :=
 ⟨_,Blk.made _ _ _,by simp[madeCells],by simp,hn,by simp[cellsOfS]⟩
theorem fresh_at (w:World) (cs:Array Value) (t:TypeId) (k:Nat) (h:k=w.heap.size):∀ j u,cs.toList[j]? = some u→(w.alloc (.cells cs t)).cell? ((⟨k,0,none⟩:Addr).add j)=some u:=by
 subst h
 exact new_cells w cs t
theorem madeRow (n:Nat) (hn:n≤1000000000) (W:World) (o:Obj) (g:Nat) (h:g=W.heap.size):RowAt ((W.alloc (.cells (madeCells #[.int .i64 0,.int .i64 0,.int .i64 0] (n * 3)) 100)).alloc o) g n []:=by
 subst h
 obtain ⟨cur,h1,h2⟩:=RowAt.made (W:=W) n hn
 exact ⟨cur,h1.alloc _,h2⟩
theorem argS_turn {w w':World} {a:Option Addr} {l:List Sg} (h:ArgS w a l) (hs:w.heap.size≤w'.heap.size) (hk:∀ k i v,w.cell? ⟨k,i+1,none⟩=some v→w'.heap[k]? = w.heap[k]?):ArgS w' a l:=fun hl=>by
 obtain ⟨b,off,e,h1,h2⟩:=h hl
 have hb:w'.heap[b]? = w.heap[b]? := by
  obtain ⟨_,q,_⟩:=h2 0 hl
  exact hk b _ _ q
 have hc:∀ i,w'.cell? ⟨b,i,none⟩=w.cell? ⟨b,i,none⟩:=fun i=>World.cell?_of_block (a:=⟨b,i,none⟩) hb
 refine ⟨b,off,e,Nat.lt_of_lt_of_le h1 hs,fun i hi => ?_⟩
 obtain ⟨q1,q2,q3⟩:=h2 i hi
 exact ⟨(hc _).trans q1,(hc _).trans q2,(hc _).trans q3⟩
theorem one_cell {w:World} {k i:Nat} {x v:Value} {t:TypeId} (h:Blk w k #[x] t) (hc:w.cell? ⟨k,i+1,none⟩=some v):False:=by
 rw[h.cell] at hc;simp at hc
theorem no_cell {w:World} {k i:Nat} {v:Value} {d:Option (List Deferred)} (h:w.heap[k]? = some (.deferred d)) (hc:w.cell? ⟨k,i,none⟩=some v):False:=by
 simp[World.cell?,h] at hc
theorem Blk.put {w:World} {k:Nat} {cs:Array Value} {t:TypeId} (h:Blk w k cs t) {b:Nat} (hb:k≠b) (o:Obj):Blk (w.putObj b o) k cs t:=(World.putObj_heap_other hb).trans h
def CombI (k:Int) (F G:List Sg) (w:World) (v0:Value) (pre:List Tg) (W:World):Prop :=
 Below w.heap.size w W∧w.heap.size+1+1+1+1<W.heap.size∧Blk W w.heap.size v0.cells 192∧Blk W (w.heap.size+1) #[.slice none 0 0] 22∧Blk W (w.heap.size+1+1) #[.int .i64 0] 28 ∧
  RowAt W (w.heap.size+1+1+1) (F.length+G.length) (pre.map (rawOf k))∧Blk W (w.heap.size+1+1+1+1) #[.slice (some ⟨w.heap.size+1+1+1,0,none⟩) pre.length (F.length+G.length)] 22∧(∀ p∈pre,errOf k p=0)
def CombX (k:Int) (F G:List Sg) (w:World) (c:Code) (W:World):Prop :=
 c = .ret∧Below w.heap.size w W∧Blk W (w.heap.size+1) #[.slice none 0 0] 22∧Blk W (w.heap.size+1+1) #[.int .i64 (doS k F G).2] 28∧(doS k F G).1=[]
theorem combI_below {k:Int} {F G:List Sg} {w:World} {v0:Value} {pre:List Tg} {A B:World} (h:CombI k F G w v0 pre A) (hb:Below (w.heap.size+1+1+1+1+1) A B):CombI k F G w v0 pre B:=by
 obtain ⟨h1,h2,h3,h4,h5,h6,h7,h8⟩:=h
 exact ⟨h1.trans (hb.mono (by omega)),Nat.lt_of_lt_of_le h2 hb.size,h3.below hb (by omega),h4.below hb (by omega),h5.below hb (by omega),h6.below hb (by omega),h7.below hb (by omega),h8⟩
theorem combX_below {k:Int} {F G:List Sg} {w:World} {c:Code} {A B:World} (h:CombX k F G w c A) (hb:Below (w.heap.size+1+1+1+1+1) A B):CombX k F G w c B:=by
 obtain ⟨h1,h2,h3,h4,h5⟩:=h
 exact ⟨h1,h2.trans (hb.mono (by omega)),h3.below hb (by omega),h4.below hb (by omega),h5⟩
set_option maxRecDepth 100000 in
set_option maxHeartbeats 2000000 in
theorem comb_plus (F G:List Sg) (a a':Option Addr) (cap cap':Nat) (w:World) (hF:F.length≤cap) (hc:cap≤9223372036854775807) (hG:G.length≤cap') (hc':cap'≤9223372036854775807) (hl:F.length+G.length≤1000000000)
  (hA:ArgS w a F) (hA':ArgS w a' G) (hm:mayB F=true) (hm':mayB G=true) :
  Calls Tryz.prog 121 #[.agg #[.slice a F.length cap,.slice a' G.length cap',.func (.func 120) #[] #[]]] w (OfIs w (doS 0 F G).1 (doS 0 F G).2):=by
 have HBAD:=hidE (fun (p:Tg) hp he=>comb_bad (k:=0) hm hm' (p:=p) hp he)
 have HOK:=hidE (fun he=>comb_ok (k:=0) hm hm' he)
 have HSEQ:=hidE (fun w' hb=>tog_c F G a a' cap cap' (.func (.func 120) #[] #[]) w w' hF hc hG hc' hl hA hA' hb)
 have HLEN:=hidE (togL_len F G)
 have HMK:=hidE (make_segs2 F.length G.length hl)
 clear hA hA' hm hm' hF hc hG hc'
 refine (callsIn_wide (n:=0)).1 (callsIn_of_wp_marks Tryz.func121 rfl trivial ((wpIn_wide (n:=0)).2 ?_))
 simp only[Tryz.ntmps121,List.size_toArray,List.length_cons,List.length_nil,Nat.reduceAdd,Nat.reduceSub,Array.replicate_succ,Array.replicate_zero,List.push_toArray,List.append_toArray,List.nil_append,List.cons_append]
 have hmk:=HMK.out
 go_wp2
 have hm3:=madeRow (F.length+G.length) hl
 have HI0:CombI 0 F G w (.agg #[.slice a F.length cap,.slice a' G.length cap',.func (.func 120) #[] #[]]) [] ((((((w.alloc (Obj.cells #[Value.slice a F.length cap,Value.slice a' G.length cap',.func (.func 120) #[] #[]] 192)).alloc (Obj.cells #[Value.slice none 0 0] 22)).alloc (Obj.cells #[Value.int IntKind.i64 0] 28)).alloc (Obj.cells (madeCells #[Value.int IntKind.i64 0,Value.int IntKind.i64 0,Value.int IntKind.i64 0] ((F.length+G.length) * 3)) 100)).alloc (Obj.cells #[Value.slice (some { block:=w.heap.size+1+1+1,off:=0 }) 0 (F.length+G.length)] 22))) :=
  ⟨by (repeat (first | exact Below.refl _ _ | assumption | refine balloc ?_ _ | refine below_drewN ?_ _ | refine bstep (by assumption) ?_ | refine bstep (Past.prop _) ?_ | refine Below.setCell ?_ (by first | exact Nat.le_refl _ | (simp;done) | (simp;omega)) _)),by simp,(((Blk.made _ _ _).alloc _).alloc _).alloc _ |>.alloc _,(((Blk.made_at _ _ _ _ (by simp)).alloc _).alloc _).alloc _,((Blk.made_at _ _ _ _ (by simp)).alloc _).alloc _,hm3 _ _ _ (by simp),Blk.made_at _ _ _ _ (by simp),fun p hp=>by simp at hp⟩
 have HS5:(((((((w.alloc (Obj.cells #[Value.slice a F.length cap,Value.slice a' G.length cap',.func (.func 120) #[] #[]] 192)).alloc (Obj.cells #[Value.slice none 0 0] 22)).alloc (Obj.cells #[Value.int IntKind.i64 0] 28)).alloc (Obj.cells (madeCells #[Value.int IntKind.i64 0,Value.int IntKind.i64 0,Value.int IntKind.i64 0] ((F.length+G.length) * 3)) 100)).alloc (Obj.cells #[Value.slice (some { block:=w.heap.size+1+1+1,off:=0 }) 0 (F.length+G.length)] 22)))).heap.size=w.heap.size+1+1+1+1+1:=by simp
 have HB5:Below w.heap.size w ((((((w.alloc (Obj.cells #[Value.slice a F.length cap,Value.slice a' G.length cap',.func (.func 120) #[] #[]] 192)).alloc (Obj.cells #[Value.slice none 0 0] 22)).alloc (Obj.cells #[Value.int IntKind.i64 0] 28)).alloc (Obj.cells (madeCells #[Value.int IntKind.i64 0,Value.int IntKind.i64 0,Value.int IntKind.i64 0] ((F.length+G.length) * 3)) 100)).alloc (Obj.cells #[Value.slice (some { block:=w.heap.size+1+1+1,off:=0 }) 0 (F.length+G.length)] 22))):=by (repeat (first | exact Below.refl _ _ | assumption | refine balloc ?_ _ | refine below_drewN ?_ _ | refine bstep (by assumption) ?_ | refine bstep (Past.prop _) ?_ | refine Below.setCell ?_ (by first | exact Nat.le_refl _ | (simp;done) | (simp;omega)) _))
 generalize ((((((w.alloc (Obj.cells #[Value.slice a F.length cap,Value.slice a' G.length cap',.func (.func 120) #[] #[]] 192)).alloc (Obj.cells #[Value.slice none 0 0] 22)).alloc (Obj.cells #[Value.int IntKind.i64 0] 28)).alloc (Obj.cells (madeCells #[Value.int IntKind.i64 0,Value.int IntKind.i64 0,Value.int IntKind.i64 0] ((F.length+G.length) * 3)) 100)).alloc (Obj.cells #[Value.slice (some { block:=w.heap.size+1+1+1,off:=0 }) 0 (F.length+G.length)] 22)))=W5 at *
 refine wp_rangeFunc_T (n₀:=w.heap.size) (S:=togL F G) rfl (enters_of Tryz.func152 (by kernel_rfl) rfl) HB5.size (HSEQ.out _ HB5) (fun _=>rfl)
  (CombI 0 F G w (.agg #[.slice a F.length cap,.slice a' G.length cap',.func (.func 120) #[] #[]])) (fun c _ W=>CombX 0 F G w c W)
  (fun s A B h hb=>combI_below h (HS5 ▸ hb)) (fun c s A B h hb=>combX_below h (HS5 ▸ hb)) HI0
  (fun x a1 W=>∃ Bx:Nat,w.heap.size+1+1+1+1+1≤Bx∧Blk W Bx #[.int .i64 x.2.1.1,.int .i64 x.2.1.2,.int .i64 x.2.2.1,.int .i64 x.2.2.2] 221∧a1={ tmps:=#[.agg #[.slice a F.length cap,.slice a' G.length cap',.func (.func 120) #[] #[]],.pointer (some ⟨w.heap.size,0,none⟩),.pointer (some ⟨w.heap.size+1,0,none⟩),.pointer (some ⟨w.heap.size+1+1,0,none⟩),.pointer (some ⟨w.heap.size+1+1+1+1,0,none⟩),.int .i64 x.1,.pointer (some ⟨Bx,0,none⟩),undef,undef,
   .pointer (some ⟨w.heap.size,0,none⟩),.slice a F.length cap,.int .i64 F.length,.pointer (some ⟨w.heap.size,1,none⟩),.slice a' G.length cap',.int .i64 G.length,.int .i64 ((F.length:Int)+(G.length:Int)),.slice (some ⟨w.heap.size+1+1+1,0,none⟩) 0 (F.length+G.length),.agg #[.slice a F.length cap,.slice a' G.length cap',.func (.func 120) #[] #[]],
   .func (.func 152) #[.agg #[.slice a F.length cap,.slice a' G.length cap',.func (.func 120) #[] #[]]] #[],.int .i64 x.1,.agg #[.int .i64 x.2.1.1,.int .i64 x.2.1.2,.int .i64 x.2.2.1,.int .i64 x.2.2.2],undef,undef,undef,undef,undef,undef,undef,undef,undef,undef,undef,undef,undef,undef,undef,undef,undef,undef,undef,undef,undef,undef,undef],defers:=[] })
  ?hax ?assign ?body ?done ?stop
 case hax =>
  rintro x a1 A l r o ⟨Bx,h1,h2,h3⟩ hlr
  exact ⟨Bx,h1,(World.putObj_heap_other (fun e=>by subst e;rw[show A.heap[Bx]? = _ from h2] at hlr;cases hlr)).trans h2,h3⟩
 case assign =>
  intro l pre x W K hsz hi hK
  rw[HS5] at hsz
  dsimp only[encT]
  gi_wp2
  exact hK _ _ (Outside.of_below ((Below.refl _ _).alloc (Nat.le_refl _) _) (by omega)) (combI_below hi ((Below.refl _ _).alloc (by omega) _)) ⟨W.heap.size,by omega,Blk.made _ _ _,rfl⟩
 case body =>
  rintro l pre x a1 W hsz ⟨i1,i2,i3,i4,i5,i6,i7,i8⟩ ⟨Bx,hBx,bX,rfl⟩ hpre
  rw[HS5] at hsz
  clear HI0 HSEQ HMK hmk hm3
  have HOP:=hidE (plus_c x.2.1.1 x.2.1.2 x.2.2.1 x.2.2.2 W)
  change Hid (Calls _ _ _ W fun e w'=>e = .returned (VE (opV 0 x.2.1 x.2.2))∧_) at HOP
  have HRAW:=hidE (show rawOf 0 x=(x.1,((opV 0 x.2.1 x.2.2).1,(opV 0 x.2.1 x.2.2).2.1)) from rfl)
  have HERR:=hidE (show errOf 0 x=(opV 0 x.2.1 x.2.2).2.2 from rfl)
  generalize opV 0 x.2.1 x.2.2=q at *
  have p2:=i3.cell 2;have r0:=i7.cell 0;have rf:=i7.free;have e0:=i5.cell 0;have ef:=i5.free;have v0:=i4.cell 0;have vf:=i4.free
  have x0:=bX.cell 0;have x1:=bX.cell 1;have x2:=bX.cell 2;have x3:=bX.cell 3;have xz:=bX.lt
  simp[Value.cells] at p2 r0 e0 v0 x0 x1 x2 x3
  gi_wp2_with fail
  refine ⟨trivial,rfl,(CallsIn.inRound l (callsIn_wide.2 HOP.out)).mono ?_⟩
  rintro e w1 ⟨rfl,hb1⟩
  clear p2 r0 rf e0 ef v0 vf x0 x1 x2 x3 xz
  have HB1:=hidE hb1
  have o1:Outside w.heap.size W5.heap.size W w1:=Outside.of_below hb1 i1.size
  have hz1:w.heap.size+1+1+1+1+1≤w1.heap.size:=Nat.le_trans hsz hb1.size
  have BE:=i5.past hb1;have BV:=i4.past hb1;have BR:=i7.past hb1
  have r0:=BR.cell 0;have rf:=BR.free;have rz:=BR.lt;have e0:=BE.cell 0;have ef:=BE.free;have ez:=BE.lt;have v0:=BV.cell 0;have vf:=BV.free;have vz:=BV.lt
  simp at r0 e0 v0
  by_cases hq:q.2.2=0
  ·have g2:(q.2.2 != 0)=false:=by rw[bne_eq_false_iff_eq];exact hq
   have HE0:=hidE (HERR.out.trans hq)
   have hsl:(pre.map (rawOf 0)).length=pre.length:=by simp
   have hlt:pre.length+1≤F.length+G.length:=by
    have h1:=hpre.length_le
    simp only[List.length_append,List.length_cons,List.length_nil] at h1
    have:=HLEN.out;omega
   have HROW:=hidE (i6.below hb1 (by omega))
   have APP:=hidE (fun W' (hb:Below w1.heap.size w1 W')=>show W'.ownsRow w.heap.size 100 3 (.slice (some ⟨w.heap.size+1+1+1,0,none⟩) pre.length (F.length+G.length)) pre.length (cellsOfS (pre.map (rawOf 0))) from by
    have:=(HROW.out.below hb (by omega)).own (base:=w.heap.size) (by omega)
    rw[hsl] at this;exact this)
   obtain ⟨ix,hix,hz0,hzz,hz2⟩:=info_parts Tryz.infoSeg
   have HI:=hidE hix;have HZ1:=hidE hzz
   have HI1:=hidE i1;have HI3:=hidE i3;have HI8:=hidE i8;have HPRE:=hidE hpre
   have BF:=i3.past hb1;have BE':=hidE BE;have BV':=hidE BV
   clear hq hix hz0 hzz hz2 i1 i3 i4 i5 i6 i7 i8 hpre BE BV HERR HOP HBAD HOK bX e0 ef ez v0 vf vz hb1 hsl
   gi_wp2_with (gi_at_builtin;refine wpListIn_append_fits _ rfl (.tmp 34) (.tmp 38) 22 rfl w.heap.size 100 ix 3 Tryz.underlying22 HI.out HZ1.out (w.heap.size+1+1+1) pre.length (F.length+G.length) _ rfl (APP.out _ (by (repeat (first | exact Below.refl _ _ | assumption | refine balloc ?_ _ | refine below_drewN ?_ _ | refine bstep (by assumption) ?_ | refine bstep (Past.prop _) ?_ | refine Below.setCell ?_ (by first | exact Nat.le_refl _ | (simp;done) | (simp;omega)) _)))) ⟨_,0,none⟩ 1 1 [.int .i64 x.1,.int .i64 q.1,.int .i64 q.2.1] rfl rfl (fresh_at _ #[.int .i64 x.1,.int .i64 q.1,.int .i64 q.2.1] 100 _ (by simp)) (by intro y hy;simp at hy;rcases hy with rfl | rfl | rfl<;>rfl) (by omega) ?_;intro w4 hown4 hgrow4;have BR4:=((BR.alloc _).alloc _).grown hgrow4 (by simp);have r4:=BR4.cell 0;have rf4:=BR4.free;have rz4:=BR4.lt;simp at r4;have HG4:=hidE hgrow4;have HO4:=hidE hown4;have HR4:=hidE BR4;clear hgrow4 hown4 r0 rf rz BR4)
   have o2:Outside w.heap.size W5.heap.size w1 _:=Outside.of_below (((Below.refl _ w1).alloc (Nat.le_refl _) (Obj.cells #[Value.int IntKind.i64 q.fst,Value.int IntKind.i64 q.snd.fst] 60)).alloc (by simp) (Obj.cells #[Value.int IntKind.i64 x.fst,Value.int IntKind.i64 q.fst,Value.int IntKind.i64 q.snd.fst] 100)) (by omega)
   have o3:Outside w.heap.size W5.heap.size _ w4:=Outside.of_grown HG4.out (by omega) (by omega) (by simp;omega)
   have o4:Outside w.heap.size W5.heap.size w4 _:=Outside.of_grown (grown_set w4 (w.heap.size+1+1+1+1) 0 (.slice (some ⟨w.heap.size+1+1+1,0,none⟩) (pre.length+1) (F.length+G.length))) (by omega) (by omega) (by omega)
   have oo:=((o1.trans o2).trans o3).trans o4
   have hmap:(pre++[x]).map (rawOf 0)=pre.map (rawOf 0)++[(x.1,(q.1,q.2.1))]:=by rw[List.map_append,List.map_cons,List.map_nil,HRAW.out]
   have hlen:((pre++[x]).map (rawOf 0)).length=pre.length+1:=by simp
   have hrow:RowAt w4 (w.heap.size+1+1+1) (F.length+G.length) ((pre++[x]).map (rawOf 0)):=RowAt.of_own (base:=w.heap.size) hl (by
    rw[hlen,hmap,cellsOfS_app];exact HO4.out)
   refine ⟨oo,HI1.out.trans oo.below,by simp[World.setCell];omega,(((BF.alloc _).alloc _).grown HG4.out (by simp;omega)).other (by omega) _,(((BV'.out.alloc _).alloc _).grown HG4.out (by simp)).other (by omega) _,(((BE'.out.alloc _).alloc _).grown HG4.out (by simp)).other (by omega) _,hrow.other (by omega) _, ?_,fun p hp => ?_⟩
   ·have:=HR4.out.set 0 (.slice (some ⟨w.heap.size+1+1+1,0,none⟩) (pre.length+1) (F.length+G.length))
    simpa using this
   ·rcases List.mem_append.1 hp with h | h
    ·exact HI8.out p h
    ·simp at h;subst h;exact HE0.out
  ·have g2:(q.2.2 != 0)=true:=bne_iff_ne.2 hq
   have HB:=hidE (HBAD.out x (hpre.subset (by simp)) (by rw[HERR.out];exact hq))
   have hb':=HB.out
   rw[HERR.out] at hb'
   have HD:=hidE hb'
   clear hb'
   gi_wp2
   have o2:Outside w.heap.size W5.heap.size _ _:=Outside.of_grown (grown_set w1 (w.heap.size+1) 0 (.slice none 0 0)) (by omega) (by omega) (by omega)
   have o3:Outside w.heap.size W5.heap.size _ _:=Outside.of_grown (grown_set (w1.setCell ⟨w.heap.size+1,0,none⟩ (.slice none 0 0)) (w.heap.size+1+1) 0 (.int .i64 q.2.2)) (by omega) (by omega) (by simp[World.setCell];omega)
   have o4:Outside w.heap.size W5.heap.size _ _:=Outside.of_below ((Below.refl _ ((w1.setCell ⟨w.heap.size+1,0,none⟩ (.slice none 0 0)).setCell ⟨w.heap.size+1+1,0,none⟩ (.int .i64 q.2.2))).alloc (Nat.le_refl _) (Obj.cells #[Value.int IntKind.i64 q.fst,Value.int IntKind.i64 q.snd.fst] 60)) (by simp[World.setCell];omega)
   have oo:=((o1.trans o2).trans o3).trans o4
   refine ⟨oo,rfl,i1.trans oo.below, ?_, ?_,by rw[HD.out]⟩
   ·have:=((BV.set 0 (.slice none 0 0)).other (b:=w.heap.size+1+1) (i:=0) (by omega) (.int .i64 q.2.2)).alloc (Obj.cells #[Value.int IntKind.i64 q.fst,Value.int IntKind.i64 q.snd.fst] 60)
    simpa using this
   ·have:=((BE.other (b:=w.heap.size+1) (i:=0) (by omega) (.slice none 0 0)).set 0 (.int .i64 q.2.2)).alloc (Obj.cells #[Value.int IntKind.i64 q.fst,Value.int IntKind.i64 q.snd.fst] 60)
    rw[HD.out]
    simpa using this
 case done =>
  rintro D W hD ⟨i1,i2,i3,i4,i5,i6,i7,i8⟩ hK
  rw[HS5] at hD
  have hD':D<W.heap.size:=(Array.getElem?_eq_some_iff.1 hK).1
  obtain ⟨hok,hun⟩:=HOK.out i8
  have HUN:=hidE hun;have HALL:=hidE hok
  have hml:((togL F G).map (rawOf 0)).length=(togL F G).length:=by simp
  obtain ⟨aR,capR,eR,_,_,hAR⟩:=sliS_own (i6.own (base:=w.heap.size) (by omega))
  cases eR
  have HOF:=hidE (show Calls Tryz.prog 153 #[.slice (some ⟨w.heap.size+1+1+1,0,none⟩) (togL F G).length (F.length+G.length)] W (OfPost W ((togL F G).map (rawOf 0))) from by
   have:=of_c ((togL F G).map (rawOf 0)) _ (F.length+G.length) W (by rw[hml];have:=HLEN.out;omega) hAR
   rw[hml] at this;exact this)
  have r0:=i7.cell 0;have rf:=i7.free;have rz:=i7.lt;have e0:=i5.cell 0;have ef:=i5.free;have ez:=i5.lt;have v0:=i4.cell 0;have vf:=i4.free;have vz:=i4.lt
  simp at r0 e0 v0
  have HKD:=hidE hK;have BE:=hidE i5;have BV:=hidE i4
  clear HI0 HSEQ HMK hmk hm3 hun hok hAR i3 i4 i5 i6 i7 hK HOK HBAD
  go_wp2_with fail
  ((with_reducible refine (HOF.out).mono ?_);rintro e w1 ⟨v1,f1,er,rfl,hs1,hcase,hb1⟩)
  clear r0 rf rz e0 ef ez v0 vf vz
  have BE1:=BE.out.past hb1;have BV1:=BV.out.past hb1
  have e0:=BE1.cell 0;have ef:=BE1.free;have ez:=BE1.lt;have v0:=BV1.cell 0;have vf:=BV1.free;have vz:=BV1.lt
  simp at e0 v0
  obtain ⟨a1,c1,rfl,hs11,hs12,hs13⟩:=hs1
  have HS1:=hidE (And.intro hs11 (And.intro hs12 hs13));have HC:=hidE hcase;have HB1:=hidE hb1
  clear hs11 hs12 hs13 hcase hb1
  go_wp2
  obtain ⟨h2,h3,h4⟩:=HS1.out
  have hkf:((w1.setCell ⟨w.heap.size+1,0,none⟩ (.slice a1 f1.length c1)).setCell ⟨w.heap.size+1+1,0,none⟩ (.int .i64 er)).heap[D]? = some (.deferred (some [])) :=
   (Below.heap_setCell _ _ _ _ (by simp;omega)).trans ((Below.heap_setCell _ _ _ _ (by simp;omega)).trans ((HB1.out.block D hD').trans HKD.out))
  have g1:=(((BV1.set 0 (.slice a1 f1.length c1)).other (b:=w.heap.size+1+1) (i:=0) (by omega) (.int .i64 er)).put (b:=D) (by omega) (.deferred none)).cell 0
  have g2:=(((BE1.other (b:=w.heap.size+1) (i:=0) (by omega) (.slice a1 f1.length c1)).set 0 (.int .i64 er)).put (b:=D) (by omega) (.deferred none)).cell 0
  simp at g1 g2
  have hdz:D<w1.heap.size:=Nat.lt_of_lt_of_le hD' HB1.out.size
  refine ⟨by simp,.inl ⟨_,_,rfl,run_takeDeferred hkf, ?_⟩⟩
  refine ⟨.tuple #[.slice a1 f1.length c1,.int .i64 er],by simp[results,Tryz.results121,go_sem,g1,g2], ?_⟩
  rcases HC.out with ⟨_,q2,q3⟩ | ⟨q1,_,_⟩
  ·rw[HUN.out _ q3,q2]
   refine ⟨_,rfl,⟨a1,c1,rfl,h2,h3,argS_turn h4 (by simp[World.setCell]) (fun k i v hc => ?_)⟩, ?_⟩
   ·by_cases e1:k=w.heap.size+1
    ·subst e1;exact (one_cell BV1 hc).elim
    by_cases e2:k=w.heap.size+1+1
    ·subst e2;exact (one_cell BE1 hc).elim
    by_cases e3:k=D
    ·subst e3;exact (no_cell ((HB1.out.block k hD').trans HKD.out) hc).elim
    ·exact (World.putObj_heap_other e3).trans ((Below.heap_setCell _ _ _ _ e2).trans (Below.heap_setCell _ _ _ _ e1))
   ·refine ((((i1.trans (HB1.out.mono i1.size)).setCell (p:=⟨w.heap.size+1,0,none⟩) (by simp) _).setCell (p:=⟨w.heap.size+1+1,0,none⟩) (by simp;omega) _)).trans (below_putObj _ _ _ (by omega))
  ·rw[HALL.out] at q1;cases q1
 case stop =>
  rintro D c pre W hD hpre ⟨rfl,i1,i2,i3,hnil⟩ hK
  rw[HS5] at hD
  have g1:=(i2.put (b:=D) (by omega) (.deferred none)).cell 0
  have g2:=(i3.put (b:=D) (by omega) (.deferred none)).cell 0
  simp at g1 g2
  have HI1:=hidE i1
  clear HI0 HSEQ HMK hmk hm3 i2 i3 HOK HBAD
  go_wp2
  refine ⟨by simp,.inl ⟨_,_,rfl,run_takeDeferred hK, ?_⟩⟩
  refine ⟨.tuple #[.slice none 0 0,.int .i64 (doS 0 F G).2],by simp[results,Tryz.results121,go_sem,g1,g2], ?_⟩
  rw[hnil]
  exact ⟨_,rfl,sliS_nil _,HI1.out.trans (below_putObj _ _ _ (by omega))⟩
set_option maxRecDepth 100000 in
set_option maxHeartbeats 2000000 in
theorem comb_sub (F G:List Sg) (a a':Option Addr) (cap cap':Nat) (w:World) (hF:F.length≤cap) (hc:cap≤9223372036854775807) (hG:G.length≤cap') (hc':cap'≤9223372036854775807) (hl:F.length+G.length≤1000000000)
  (hA:ArgS w a F) (hA':ArgS w a' G) (hm:mayB F=true) (hm':mayB G=true) :
  Calls Tryz.prog 121 #[.agg #[.slice a F.length cap,.slice a' G.length cap',.func (.func 197) #[] #[]]] w (OfIs w (doS 1 F G).1 (doS 1 F G).2):=by
 have HBAD:=hidE (fun (p:Tg) hp he=>comb_bad (k:=1) hm hm' (p:=p) hp he)
 have HOK:=hidE (fun he=>comb_ok (k:=1) hm hm' he)
 have HSEQ:=hidE (fun w' hb=>tog_c F G a a' cap cap' (.func (.func 197) #[] #[]) w w' hF hc hG hc' hl hA hA' hb)
 have HLEN:=hidE (togL_len F G)
 have HMK:=hidE (make_segs2 F.length G.length hl)
 clear hA hA' hm hm' hF hc hG hc'
 refine (callsIn_wide (n:=0)).1 (callsIn_of_wp_marks Tryz.func121 rfl trivial ((wpIn_wide (n:=0)).2 ?_))
 simp only[Tryz.ntmps121,List.size_toArray,List.length_cons,List.length_nil,Nat.reduceAdd,Nat.reduceSub,Array.replicate_succ,Array.replicate_zero,List.push_toArray,List.append_toArray,List.nil_append,List.cons_append]
 have hmk:=HMK.out
 go_wp2
 have hm3:=madeRow (F.length+G.length) hl
 have HI0:CombI 1 F G w (.agg #[.slice a F.length cap,.slice a' G.length cap',.func (.func 197) #[] #[]]) [] ((((((w.alloc (Obj.cells #[Value.slice a F.length cap,Value.slice a' G.length cap',.func (.func 197) #[] #[]] 192)).alloc (Obj.cells #[Value.slice none 0 0] 22)).alloc (Obj.cells #[Value.int IntKind.i64 0] 28)).alloc (Obj.cells (madeCells #[Value.int IntKind.i64 0,Value.int IntKind.i64 0,Value.int IntKind.i64 0] ((F.length+G.length) * 3)) 100)).alloc (Obj.cells #[Value.slice (some { block:=w.heap.size+1+1+1,off:=0 }) 0 (F.length+G.length)] 22))) :=
  ⟨by (repeat (first | exact Below.refl _ _ | assumption | refine balloc ?_ _ | refine below_drewN ?_ _ | refine bstep (by assumption) ?_ | refine bstep (Past.prop _) ?_ | refine Below.setCell ?_ (by first | exact Nat.le_refl _ | (simp;done) | (simp;omega)) _)),by simp,(((Blk.made _ _ _).alloc _).alloc _).alloc _ |>.alloc _,(((Blk.made_at _ _ _ _ (by simp)).alloc _).alloc _).alloc _,((Blk.made_at _ _ _ _ (by simp)).alloc _).alloc _,hm3 _ _ _ (by simp),Blk.made_at _ _ _ _ (by simp),fun p hp=>by simp at hp⟩
 have HS5:(((((((w.alloc (Obj.cells #[Value.slice a F.length cap,Value.slice a' G.length cap',.func (.func 197) #[] #[]] 192)).alloc (Obj.cells #[Value.slice none 0 0] 22)).alloc (Obj.cells #[Value.int IntKind.i64 0] 28)).alloc (Obj.cells (madeCells #[Value.int IntKind.i64 0,Value.int IntKind.i64 0,Value.int IntKind.i64 0] ((F.length+G.length) * 3)) 100)).alloc (Obj.cells #[Value.slice (some { block:=w.heap.size+1+1+1,off:=0 }) 0 (F.length+G.length)] 22)))).heap.size=w.heap.size+1+1+1+1+1:=by simp
 have HB5:Below w.heap.size w ((((((w.alloc (Obj.cells #[Value.slice a F.length cap,Value.slice a' G.length cap',.func (.func 197) #[] #[]] 192)).alloc (Obj.cells #[Value.slice none 0 0] 22)).alloc (Obj.cells #[Value.int IntKind.i64 0] 28)).alloc (Obj.cells (madeCells #[Value.int IntKind.i64 0,Value.int IntKind.i64 0,Value.int IntKind.i64 0] ((F.length+G.length) * 3)) 100)).alloc (Obj.cells #[Value.slice (some { block:=w.heap.size+1+1+1,off:=0 }) 0 (F.length+G.length)] 22))):=by (repeat (first | exact Below.refl _ _ | assumption | refine balloc ?_ _ | refine below_drewN ?_ _ | refine bstep (by assumption) ?_ | refine bstep (Past.prop _) ?_ | refine Below.setCell ?_ (by first | exact Nat.le_refl _ | (simp;done) | (simp;omega)) _))
 generalize ((((((w.alloc (Obj.cells #[Value.slice a F.length cap,Value.slice a' G.length cap',.func (.func 197) #[] #[]] 192)).alloc (Obj.cells #[Value.slice none 0 0] 22)).alloc (Obj.cells #[Value.int IntKind.i64 0] 28)).alloc (Obj.cells (madeCells #[Value.int IntKind.i64 0,Value.int IntKind.i64 0,Value.int IntKind.i64 0] ((F.length+G.length) * 3)) 100)).alloc (Obj.cells #[Value.slice (some { block:=w.heap.size+1+1+1,off:=0 }) 0 (F.length+G.length)] 22)))=W5 at *
 refine wp_rangeFunc_T (n₀:=w.heap.size) (S:=togL F G) rfl (enters_of Tryz.func152 (by kernel_rfl) rfl) HB5.size (HSEQ.out _ HB5) (fun _=>rfl)
  (CombI 1 F G w (.agg #[.slice a F.length cap,.slice a' G.length cap',.func (.func 197) #[] #[]])) (fun c _ W=>CombX 1 F G w c W)
  (fun s A B h hb=>combI_below h (HS5 ▸ hb)) (fun c s A B h hb=>combX_below h (HS5 ▸ hb)) HI0
  (fun x a1 W=>∃ Bx:Nat,w.heap.size+1+1+1+1+1≤Bx∧Blk W Bx #[.int .i64 x.2.1.1,.int .i64 x.2.1.2,.int .i64 x.2.2.1,.int .i64 x.2.2.2] 221∧a1={ tmps:=#[.agg #[.slice a F.length cap,.slice a' G.length cap',.func (.func 197) #[] #[]],.pointer (some ⟨w.heap.size,0,none⟩),.pointer (some ⟨w.heap.size+1,0,none⟩),.pointer (some ⟨w.heap.size+1+1,0,none⟩),.pointer (some ⟨w.heap.size+1+1+1+1,0,none⟩),.int .i64 x.1,.pointer (some ⟨Bx,0,none⟩),undef,undef,
   .pointer (some ⟨w.heap.size,0,none⟩),.slice a F.length cap,.int .i64 F.length,.pointer (some ⟨w.heap.size,1,none⟩),.slice a' G.length cap',.int .i64 G.length,.int .i64 ((F.length:Int)+(G.length:Int)),.slice (some ⟨w.heap.size+1+1+1,0,none⟩) 0 (F.length+G.length),.agg #[.slice a F.length cap,.slice a' G.length cap',.func (.func 197) #[] #[]],
   .func (.func 152) #[.agg #[.slice a F.length cap,.slice a' G.length cap',.func (.func 197) #[] #[]]] #[],.int .i64 x.1,.agg #[.int .i64 x.2.1.1,.int .i64 x.2.1.2,.int .i64 x.2.2.1,.int .i64 x.2.2.2],undef,undef,undef,undef,undef,undef,undef,undef,undef,undef,undef,undef,undef,undef,undef,undef,undef,undef,undef,undef,undef,undef,undef],defers:=[] })
  ?hax ?assign ?body ?done ?stop
 case hax =>
  rintro x a1 A l r o ⟨Bx,h1,h2,h3⟩ hlr
  exact ⟨Bx,h1,(World.putObj_heap_other (fun e=>by subst e;rw[show A.heap[Bx]? = _ from h2] at hlr;cases hlr)).trans h2,h3⟩
 case assign =>
  intro l pre x W K hsz hi hK
  rw[HS5] at hsz
  dsimp only[encT]
  gi_wp2
  exact hK _ _ (Outside.of_below ((Below.refl _ _).alloc (Nat.le_refl _) _) (by omega)) (combI_below hi ((Below.refl _ _).alloc (by omega) _)) ⟨W.heap.size,by omega,Blk.made _ _ _,rfl⟩
 case body =>
  rintro l pre x a1 W hsz ⟨i1,i2,i3,i4,i5,i6,i7,i8⟩ ⟨Bx,hBx,bX,rfl⟩ hpre
  rw[HS5] at hsz
  clear HI0 HSEQ HMK hmk hm3
  have HOP:=hidE (sub_c x.2.1.1 x.2.1.2 x.2.2.1 x.2.2.2 W)
  change Hid (Calls _ _ _ W fun e w'=>e = .returned (VE (opV 1 x.2.1 x.2.2))∧_) at HOP
  have HRAW:=hidE (show rawOf 1 x=(x.1,((opV 1 x.2.1 x.2.2).1,(opV 1 x.2.1 x.2.2).2.1)) from rfl)
  have HERR:=hidE (show errOf 1 x=(opV 1 x.2.1 x.2.2).2.2 from rfl)
  generalize opV 1 x.2.1 x.2.2=q at *
  have p2:=i3.cell 2;have r0:=i7.cell 0;have rf:=i7.free;have e0:=i5.cell 0;have ef:=i5.free;have v0:=i4.cell 0;have vf:=i4.free
  have x0:=bX.cell 0;have x1:=bX.cell 1;have x2:=bX.cell 2;have x3:=bX.cell 3;have xz:=bX.lt
  simp[Value.cells] at p2 r0 e0 v0 x0 x1 x2 x3
  gi_wp2_with fail
  refine ⟨trivial,rfl,(CallsIn.inRound l (callsIn_wide.2 HOP.out)).mono ?_⟩
  rintro e w1 ⟨rfl,hb1⟩
  clear p2 r0 rf e0 ef v0 vf x0 x1 x2 x3 xz
  have HB1:=hidE hb1
  have o1:Outside w.heap.size W5.heap.size W w1:=Outside.of_below hb1 i1.size
  have hz1:w.heap.size+1+1+1+1+1≤w1.heap.size:=Nat.le_trans hsz hb1.size
  have BE:=i5.past hb1;have BV:=i4.past hb1;have BR:=i7.past hb1
  have r0:=BR.cell 0;have rf:=BR.free;have rz:=BR.lt;have e0:=BE.cell 0;have ef:=BE.free;have ez:=BE.lt;have v0:=BV.cell 0;have vf:=BV.free;have vz:=BV.lt
  simp at r0 e0 v0
  by_cases hq:q.2.2=0
  ·have g2:(q.2.2 != 0)=false:=by rw[bne_eq_false_iff_eq];exact hq
   have HE0:=hidE (HERR.out.trans hq)
   have hsl:(pre.map (rawOf 1)).length=pre.length:=by simp
   have hlt:pre.length+1≤F.length+G.length:=by
    have h1:=hpre.length_le
    simp only[List.length_append,List.length_cons,List.length_nil] at h1
    have:=HLEN.out;omega
   have HROW:=hidE (i6.below hb1 (by omega))
   have APP:=hidE (fun W' (hb:Below w1.heap.size w1 W')=>show W'.ownsRow w.heap.size 100 3 (.slice (some ⟨w.heap.size+1+1+1,0,none⟩) pre.length (F.length+G.length)) pre.length (cellsOfS (pre.map (rawOf 1))) from by
    have:=(HROW.out.below hb (by omega)).own (base:=w.heap.size) (by omega)
    rw[hsl] at this;exact this)
   obtain ⟨ix,hix,hz0,hzz,hz2⟩:=info_parts Tryz.infoSeg
   have HI:=hidE hix;have HZ1:=hidE hzz
   have HI1:=hidE i1;have HI3:=hidE i3;have HI8:=hidE i8;have HPRE:=hidE hpre
   have BF:=i3.past hb1;have BE':=hidE BE;have BV':=hidE BV
   clear hq hix hz0 hzz hz2 i1 i3 i4 i5 i6 i7 i8 hpre BE BV HERR HOP HBAD HOK bX e0 ef ez v0 vf vz hb1 hsl
   gi_wp2_with (gi_at_builtin;refine wpListIn_append_fits _ rfl (.tmp 34) (.tmp 38) 22 rfl w.heap.size 100 ix 3 Tryz.underlying22 HI.out HZ1.out (w.heap.size+1+1+1) pre.length (F.length+G.length) _ rfl (APP.out _ (by (repeat (first | exact Below.refl _ _ | assumption | refine balloc ?_ _ | refine below_drewN ?_ _ | refine bstep (by assumption) ?_ | refine bstep (Past.prop _) ?_ | refine Below.setCell ?_ (by first | exact Nat.le_refl _ | (simp;done) | (simp;omega)) _)))) ⟨_,0,none⟩ 1 1 [.int .i64 x.1,.int .i64 q.1,.int .i64 q.2.1] rfl rfl (fresh_at _ #[.int .i64 x.1,.int .i64 q.1,.int .i64 q.2.1] 100 _ (by simp)) (by intro y hy;simp at hy;rcases hy with rfl | rfl | rfl<;>rfl) (by omega) ?_;intro w4 hown4 hgrow4;have BR4:=((BR.alloc _).alloc _).grown hgrow4 (by simp);have r4:=BR4.cell 0;have rf4:=BR4.free;have rz4:=BR4.lt;simp at r4;have HG4:=hidE hgrow4;have HO4:=hidE hown4;have HR4:=hidE BR4;clear hgrow4 hown4 r0 rf rz BR4)
   have o2:Outside w.heap.size W5.heap.size w1 _:=Outside.of_below (((Below.refl _ w1).alloc (Nat.le_refl _) (Obj.cells #[Value.int IntKind.i64 q.fst,Value.int IntKind.i64 q.snd.fst] 60)).alloc (by simp) (Obj.cells #[Value.int IntKind.i64 x.fst,Value.int IntKind.i64 q.fst,Value.int IntKind.i64 q.snd.fst] 100)) (by omega)
   have o3:Outside w.heap.size W5.heap.size _ w4:=Outside.of_grown HG4.out (by omega) (by omega) (by simp;omega)
   have o4:Outside w.heap.size W5.heap.size w4 _:=Outside.of_grown (grown_set w4 (w.heap.size+1+1+1+1) 0 (.slice (some ⟨w.heap.size+1+1+1,0,none⟩) (pre.length+1) (F.length+G.length))) (by omega) (by omega) (by omega)
   have oo:=((o1.trans o2).trans o3).trans o4
   have hmap:(pre++[x]).map (rawOf 1)=pre.map (rawOf 1)++[(x.1,(q.1,q.2.1))]:=by rw[List.map_append,List.map_cons,List.map_nil,HRAW.out]
   have hlen:((pre++[x]).map (rawOf 1)).length=pre.length+1:=by simp
   have hrow:RowAt w4 (w.heap.size+1+1+1) (F.length+G.length) ((pre++[x]).map (rawOf 1)):=RowAt.of_own (base:=w.heap.size) hl (by
    rw[hlen,hmap,cellsOfS_app];exact HO4.out)
   refine ⟨oo,HI1.out.trans oo.below,by simp[World.setCell];omega,(((BF.alloc _).alloc _).grown HG4.out (by simp;omega)).other (by omega) _,(((BV'.out.alloc _).alloc _).grown HG4.out (by simp)).other (by omega) _,(((BE'.out.alloc _).alloc _).grown HG4.out (by simp)).other (by omega) _,hrow.other (by omega) _, ?_,fun p hp => ?_⟩
   ·have:=HR4.out.set 0 (.slice (some ⟨w.heap.size+1+1+1,0,none⟩) (pre.length+1) (F.length+G.length))
    simpa using this
   ·rcases List.mem_append.1 hp with h | h
    ·exact HI8.out p h
    ·simp at h;subst h;exact HE0.out
  ·have g2:(q.2.2 != 0)=true:=bne_iff_ne.2 hq
   have HB:=hidE (HBAD.out x (hpre.subset (by simp)) (by rw[HERR.out];exact hq))
   have hb':=HB.out
   rw[HERR.out] at hb'
   have HD:=hidE hb'
   clear hb'
   gi_wp2
   have o2:Outside w.heap.size W5.heap.size _ _:=Outside.of_grown (grown_set w1 (w.heap.size+1) 0 (.slice none 0 0)) (by omega) (by omega) (by omega)
   have o3:Outside w.heap.size W5.heap.size _ _:=Outside.of_grown (grown_set (w1.setCell ⟨w.heap.size+1,0,none⟩ (.slice none 0 0)) (w.heap.size+1+1) 0 (.int .i64 q.2.2)) (by omega) (by omega) (by simp[World.setCell];omega)
   have o4:Outside w.heap.size W5.heap.size _ _:=Outside.of_below ((Below.refl _ ((w1.setCell ⟨w.heap.size+1,0,none⟩ (.slice none 0 0)).setCell ⟨w.heap.size+1+1,0,none⟩ (.int .i64 q.2.2))).alloc (Nat.le_refl _) (Obj.cells #[Value.int IntKind.i64 q.fst,Value.int IntKind.i64 q.snd.fst] 60)) (by simp[World.setCell];omega)
   have oo:=((o1.trans o2).trans o3).trans o4
   refine ⟨oo,rfl,i1.trans oo.below, ?_, ?_,by rw[HD.out]⟩
   ·have:=((BV.set 0 (.slice none 0 0)).other (b:=w.heap.size+1+1) (i:=0) (by omega) (.int .i64 q.2.2)).alloc (Obj.cells #[Value.int IntKind.i64 q.fst,Value.int IntKind.i64 q.snd.fst] 60)
    simpa using this
   ·have:=((BE.other (b:=w.heap.size+1) (i:=0) (by omega) (.slice none 0 0)).set 0 (.int .i64 q.2.2)).alloc (Obj.cells #[Value.int IntKind.i64 q.fst,Value.int IntKind.i64 q.snd.fst] 60)
    rw[HD.out]
    simpa using this
 case done =>
  rintro D W hD ⟨i1,i2,i3,i4,i5,i6,i7,i8⟩ hK
  rw[HS5] at hD
  have hD':D<W.heap.size:=(Array.getElem?_eq_some_iff.1 hK).1
  obtain ⟨hok,hun⟩:=HOK.out i8
  have HUN:=hidE hun;have HALL:=hidE hok
  have hml:((togL F G).map (rawOf 1)).length=(togL F G).length:=by simp
  obtain ⟨aR,capR,eR,_,_,hAR⟩:=sliS_own (i6.own (base:=w.heap.size) (by omega))
  cases eR
  have HOF:=hidE (show Calls Tryz.prog 153 #[.slice (some ⟨w.heap.size+1+1+1,0,none⟩) (togL F G).length (F.length+G.length)] W (OfPost W ((togL F G).map (rawOf 1))) from by
   have:=of_c ((togL F G).map (rawOf 1)) _ (F.length+G.length) W (by rw[hml];have:=HLEN.out;omega) hAR
   rw[hml] at this;exact this)
  have r0:=i7.cell 0;have rf:=i7.free;have rz:=i7.lt;have e0:=i5.cell 0;have ef:=i5.free;have ez:=i5.lt;have v0:=i4.cell 0;have vf:=i4.free;have vz:=i4.lt
  simp at r0 e0 v0
  have HKD:=hidE hK;have BE:=hidE i5;have BV:=hidE i4
  clear HI0 HSEQ HMK hmk hm3 hun hok hAR i3 i4 i5 i6 i7 hK HOK HBAD
  go_wp2_with fail
  ((with_reducible refine (HOF.out).mono ?_);rintro e w1 ⟨v1,f1,er,rfl,hs1,hcase,hb1⟩)
  clear r0 rf rz e0 ef ez v0 vf vz
  have BE1:=BE.out.past hb1;have BV1:=BV.out.past hb1
  have e0:=BE1.cell 0;have ef:=BE1.free;have ez:=BE1.lt;have v0:=BV1.cell 0;have vf:=BV1.free;have vz:=BV1.lt
  simp at e0 v0
  obtain ⟨a1,c1,rfl,hs11,hs12,hs13⟩:=hs1
  have HS1:=hidE (And.intro hs11 (And.intro hs12 hs13));have HC:=hidE hcase;have HB1:=hidE hb1
  clear hs11 hs12 hs13 hcase hb1
  go_wp2
  obtain ⟨h2,h3,h4⟩:=HS1.out
  have hkf:((w1.setCell ⟨w.heap.size+1,0,none⟩ (.slice a1 f1.length c1)).setCell ⟨w.heap.size+1+1,0,none⟩ (.int .i64 er)).heap[D]? = some (.deferred (some [])) :=
   (Below.heap_setCell _ _ _ _ (by simp;omega)).trans ((Below.heap_setCell _ _ _ _ (by simp;omega)).trans ((HB1.out.block D hD').trans HKD.out))
  have g1:=(((BV1.set 0 (.slice a1 f1.length c1)).other (b:=w.heap.size+1+1) (i:=0) (by omega) (.int .i64 er)).put (b:=D) (by omega) (.deferred none)).cell 0
  have g2:=(((BE1.other (b:=w.heap.size+1) (i:=0) (by omega) (.slice a1 f1.length c1)).set 0 (.int .i64 er)).put (b:=D) (by omega) (.deferred none)).cell 0
  simp at g1 g2
  have hdz:D<w1.heap.size:=Nat.lt_of_lt_of_le hD' HB1.out.size
  refine ⟨by simp,.inl ⟨_,_,rfl,run_takeDeferred hkf, ?_⟩⟩
  refine ⟨.tuple #[.slice a1 f1.length c1,.int .i64 er],by simp[results,Tryz.results121,go_sem,g1,g2], ?_⟩
  rcases HC.out with ⟨_,q2,q3⟩ | ⟨q1,_,_⟩
  ·rw[HUN.out _ q3,q2]
   refine ⟨_,rfl,⟨a1,c1,rfl,h2,h3,argS_turn h4 (by simp[World.setCell]) (fun k i v hc => ?_)⟩, ?_⟩
   ·by_cases e1:k=w.heap.size+1
    ·subst e1;exact (one_cell BV1 hc).elim
    by_cases e2:k=w.heap.size+1+1
    ·subst e2;exact (one_cell BE1 hc).elim
    by_cases e3:k=D
    ·subst e3;exact (no_cell ((HB1.out.block k hD').trans HKD.out) hc).elim
    ·exact (World.putObj_heap_other e3).trans ((Below.heap_setCell _ _ _ _ e2).trans (Below.heap_setCell _ _ _ _ e1))
   ·refine ((((i1.trans (HB1.out.mono i1.size)).setCell (p:=⟨w.heap.size+1,0,none⟩) (by simp) _).setCell (p:=⟨w.heap.size+1+1,0,none⟩) (by simp;omega) _)).trans (below_putObj _ _ _ (by omega))
  ·rw[HALL.out] at q1;cases q1
 case stop =>
  rintro D c pre W hD hpre ⟨rfl,i1,i2,i3,hnil⟩ hK
  rw[HS5] at hD
  have g1:=(i2.put (b:=D) (by omega) (.deferred none)).cell 0
  have g2:=(i3.put (b:=D) (by omega) (.deferred none)).cell 0
  simp at g1 g2
  have HI1:=hidE i1
  clear HI0 HSEQ HMK hmk hm3 i2 i3 HOK HBAD
  go_wp2
  refine ⟨by simp,.inl ⟨_,_,rfl,run_takeDeferred hK, ?_⟩⟩
  refine ⟨.tuple #[.slice none 0 0,.int .i64 (doS 1 F G).2],by simp[results,Tryz.results121,go_sem,g1,g2], ?_⟩
  rw[hnil]
  exact ⟨_,rfl,sliS_nil _,HI1.out.trans (below_putObj _ _ _ (by omega))⟩
end
section
open Go.ChangeShapes Go.WideShapes Go.ChangeAt Go.RowKit
theorem rmay (a b:Int) (w:World):Calls Tryz.prog 144 #[V a b] w fun e w'=>e = .returned (.bool (okV a b))∧Below w.heap.size w w':=by
 go_enter Tryz.func144,Tryz.ntmps144
 go_wp2
 all_goals
  go_ret
  refine ⟨ret_bool (by unfold okV;rw[Bool.eq_iff_iff];simp;omega), ?_⟩
  (repeat (first | exact Below.refl _ _ | assumption | refine balloc ?_ _ | refine below_drewN ?_ _ | refine bstep (by assumption) ?_ | refine bstep (Past.prop _) ?_ | refine Below.setCell ?_ (by first | exact Nat.le_refl _ | (simp;done) | (simp;omega)) _))
theorem rmay_eq {a b:Int} {r:Bool} {w:World} (h:okV a b=r):Calls Tryz.prog 144 #[V a b] w fun e w'=>e = .returned (.bool r)∧Below w.heap.size w w':=h ▸ rmay a b w
end
end Go.Proofs.YtcmponckjkalaaaGreat
