/- The contracts of the document's own small answers for rle. No conditions but that the lists' cells read as integers. Slices that read as lists of numbers. No function of the program. No conditions. The contracts of the document's own lists of times, and of its canonical function. No conditions but the lists' sizes. -/
import Derived.Test.YtcmponckjkalaaaGreatPUGA
import Derived.Test.YtcmponckjkalaaaGreatPUGE
import Derived.Test.YtcmponckjkalaaaGreatPUMA
import Derived.Laws.AppendOwnNone
import Derived.Deep.RegionLaw
import Derived.Deep.DeepCutAuto
namespace Go.Proofs.YtcmponckjkalaaaGreat
section
open Go.ChangeShapes Go.WideShapes Go.ChangeAt Go.RowKit
attribute [local irreducible] Go.Calls
theorem rin_c (s:Sg) (w:World):Calls Tryz.prog 117 #[S s.1 s.2.1 s.2.2] w fun e w'=>e = .returned (.bool (okS s))∧Below w.heap.size w w':=by
 obtain ⟨x,m,c⟩:=s
 show Calls _ _ #[S x m c] _ _
 by_cases h1 : -1125899906842624≤x
 ·by_cases h2:x≤1125899906842624
  ·have e:okS (x,m,c)=okV m c:=by
    have:okT x=true:=okT_iff.2 ⟨h1,h2⟩
    unfold okS;simp only[this,Bool.true_and]
   rw[e]
   have d1:decide (-1125899906842624≤x)=true:=decide_eq_true h1
   have d2:decide (x≤1125899906842624)=true:=decide_eq_true h2
   clear e
   go_enter Tryz.func117,Tryz.ntmps117
   go_wp2_with (go_at_call 144;((with_reducible refine (rmay m c _).mono ?_);rintro e w' ⟨rfl,hb⟩;obtain ⟨hc,hf⟩:=bcell hb))
   go_ret
   exact ⟨rfl,by (repeat (first | exact Below.refl _ _ | assumption | refine balloc ?_ _ | refine below_drewN ?_ _ | refine bstep (by assumption) ?_ | refine bstep (Past.prop _) ?_ | refine Below.setCell ?_ (by first | exact Nat.le_refl _ | (simp;done) | (simp;omega)) _))⟩
  ·have e:okS (x,m,c)=false:=by
    have:okT x=false:=decide_eq_false (by omega)
    unfold okS;simp only[this,Bool.false_and]
   rw[e]
   have d1:decide (-1125899906842624≤x)=true:=decide_eq_true h1
   have d2:decide (x≤1125899906842624)=false:=decide_eq_false h2
   clear e
   go_enter Tryz.func117,Tryz.ntmps117
   go_wp2
   go_ret
   exact ⟨rfl,by (repeat (first | exact Below.refl _ _ | assumption | refine balloc ?_ _ | refine below_drewN ?_ _ | refine bstep (by assumption) ?_ | refine bstep (Past.prop _) ?_ | refine Below.setCell ?_ (by first | exact Nat.le_refl _ | (simp;done) | (simp;omega)) _))⟩
 ·have e:okS (x,m,c)=false:=by
   have:okT x=false:=decide_eq_false (by omega)
   unfold okS;simp only[this,Bool.false_and]
  rw[e]
  have d1:decide (-1125899906842624≤x)=false:=decide_eq_false h1
  clear e
  go_enter Tryz.func117,Tryz.ntmps117
  go_wp2
  go_ret
  exact ⟨rfl,by (repeat (first | exact Below.refl _ _ | assumption | refine balloc ?_ _ | refine below_drewN ?_ _ | refine bstep (by assumption) ?_ | refine bstep (Past.prop _) ?_ | refine Below.setCell ?_ (by first | exact Nat.le_refl _ | (simp;done) | (simp;omega)) _))⟩
set_option maxHeartbeats 1000000 in
theorem rsame_c (l r:List Sg) (a a':Option Addr) (cap cap':Nat) (w:World) (hl:l.length≤9223372036854775807) (hr:r.length≤9223372036854775807) (hA:ArgS w a l) (hA':ArgS w a' r) :
  Calls Tryz.prog 47 #[.slice a l.length cap,.slice a' r.length cap'] w fun e w'=>e = .returned (.bool (sameB l r))∧Below w.heap.size w w':=by
 have HA:=hidE hA;have HA':=hidE hA';clear hA hA'
 by_cases hlen:l.length=r.length
 ·have e1:((l.length:Int) != (r.length:Int))=false:=by rw[bne_eq_false_iff_eq];omega
  have e2:((l.length:Int) == (r.length:Int))=true:=beq_iff_eq.2 (by omega)
  have HL:=hidE hlen
  have le1:l.length≤r.length:=by omega
  clear hlen
  go_enter Tryz.func47,Tryz.ntmps47
  go_wp2
  go_loopg [5] l.length (fun g vi wr=>∃ k:Nat,k≤l.length∧l.length - k≤g∧vi = .int .i64 k∧(∀ i,i<k→ats l i=ats r i∧vls l i=vls r i)∧Below w.heap.size w wr)
  case atStart=>exact ⟨0,Nat.zero_le _,by omega,rfl,fun i hi=>by omega,Below.refl _ _⟩
  case round =>
   obtain ⟨k,hk,hg,rfl,hs,hb⟩:=hrel
   have HS:=hidE hs;have HB:=hidE hb;clear hs hb
   by_cases hlt:k<l.length
   ·obtain ⟨b,off,rfl,hb,hc⟩:=(HA.out.past HB.out) (by omega)
    obtain ⟨c0,c1,c2⟩:=hc.get hlt
    obtain ⟨b',off',rfl,hb',hc'⟩:=(HA'.out.past HB.out) (by omega)
    obtain ⟨d0,d1,d2⟩:=hc'.get (i:=k) (by omega)
    clear hc hc'
    by_cases hne:ats l k=ats r k∧(vls l k).1=(vls r k).1∧(vls l k).2=(vls r k).2
    ·have HX:=hidE (show ∀ i,i<k+1→ats l i=ats r i∧vls l i=vls r i from fun i hi=>by
      by_cases e:i=k
      ·rw[e];exact ⟨hne.1,Prod.ext hne.2.1 hne.2.2⟩
      ·exact HS.out i (by omega))
     obtain ⟨n1,n2,n3⟩:=hne
     rw[←n1] at d0;rw[←n2] at d1;rw[←n3] at d2
     clear n1 n2 n3
     generalize ats l k=u at *
     generalize vls l k=v at *
     go_wp2
     go_quiet (fail)
     go_wp2
     go_roundg (l.length - (k+1))
     case measure=>omega
     case rel=>exact ⟨k+1,by omega,Nat.le_refl _,by go_num,HX.out,by have:=HB.out;(repeat (first | exact Below.refl _ _ | assumption | refine balloc ?_ _ | refine below_drewN ?_ _ | refine bstep (by assumption) ?_ | refine bstep (Past.prop _) ?_ | refine Below.setCell ?_ (by first | exact Nat.le_refl _ | (simp;done) | (simp;omega)) _))⟩
    ·have HX:=hidE (show sameB l r=false from same_f (i:=k) (by
      by_cases e:ats l k=ats r k
      ·right;intro h;exact hne ⟨e,by rw[h],by rw[h]⟩
      ·exact .inl e))
     by_cases n1:ats l k=ats r k
     ·by_cases n2:(vls l k).1=(vls r k).1
      ·have n3:((vls l k).2 == (vls r k).2)=false:=beq_eq_false_iff_ne.2 fun h=>hne ⟨n1,n2,h⟩
       rw[←n1] at d0;rw[←n2] at d1
       clear n1 n2 hne
       generalize ats l k=u at *
       generalize vls l k=v at *
       generalize vls r k=v' at *
       go_wp2
       go_quiet (fail)
       go_wp2
       go_ret
       exact ⟨ret_bool (by rw[HX.out]),by have:=HB.out;(repeat (first | exact Below.refl _ _ | assumption | refine balloc ?_ _ | refine below_drewN ?_ _ | refine bstep (by assumption) ?_ | refine bstep (Past.prop _) ?_ | refine Below.setCell ?_ (by first | exact Nat.le_refl _ | (simp;done) | (simp;omega)) _))⟩
      ·have n3:((vls l k).1 == (vls r k).1)=false:=beq_eq_false_iff_ne.2 n2
       rw[←n1] at d0
       clear n1 n2 hne
       generalize ats l k=u at *
       generalize vls l k=v at *
       generalize vls r k=v' at *
       go_wp2
       go_quiet (fail)
       go_wp2
       go_ret
       exact ⟨ret_bool (by rw[HX.out]),by have:=HB.out;(repeat (first | exact Below.refl _ _ | assumption | refine balloc ?_ _ | refine below_drewN ?_ _ | refine bstep (by assumption) ?_ | refine bstep (Past.prop _) ?_ | refine Below.setCell ?_ (by first | exact Nat.le_refl _ | (simp;done) | (simp;omega)) _))⟩
     ·have n3:(ats l k == ats r k)=false:=beq_eq_false_iff_ne.2 n1
      clear n1 hne
      generalize ats l k=u at *
      generalize vls l k=v at *
      generalize ats r k=u' at *
      generalize vls r k=v' at *
      go_wp2
      go_quiet (fail)
      go_wp2
      go_ret
      exact ⟨ret_bool (by rw[HX.out]),by have:=HB.out;(repeat (first | exact Below.refl _ _ | assumption | refine balloc ?_ _ | refine below_drewN ?_ _ | refine bstep (by assumption) ?_ | refine bstep (Past.prop _) ?_ | refine Below.setCell ?_ (by first | exact Nat.le_refl _ | (simp;done) | (simp;omega)) _))⟩
   ·have hk':k=l.length:=by omega
    subst hk'
    have HX:=hidE (same_t HL.out HS.out)
    go_wp2
    go_ret
    exact ⟨ret_bool (by rw[HX.out]),HB.out⟩
 ·have e1:((l.length:Int) != (r.length:Int))=true:=bne_iff_ne.2 (by omega)
  have e2:((l.length:Int) == (r.length:Int))=false:=beq_eq_false_iff_ne.2 (by omega)
  have HX:=hidE (show sameB l r=false from decide_eq_false (fun e=>hlen (by rw[e])))
  clear hlen
  go_enter Tryz.func47,Tryz.ntmps47
  go_wp2
  go_ret
  exact ⟨ret_bool (by rw[HX.out]),Below.refl _ _⟩
theorem Tryz.infoI64:(Tryz.prog.info? 2).map (fun i=>(i.zero,i.size,i.bytes))=some (some (.int .i64 0),1,8):=by kernel_rfl
def cellsI (l:List Int):List Value:=l.map (.int .i64)
theorem cellsI_get {l:List Int} {i:Nat} (h:i<l.length):(cellsI l)[i]? = some (.int .i64 (l.getD i 0)):=by
 unfold cellsI
 rw[List.getElem?_map,List.getElem?_eq_getElem h,getD_get _ _ _ h];rfl
theorem cellsI_one (l:List Int):∀ u∈cellsI l,u.oneCell'=true:=fun u hu=>by
 unfold cellsI at hu
 rw[List.mem_map] at hu
 obtain ⟨x,_,rfl⟩:=hu
 rfl
def CellsI (w:World) (b off:Nat) (l:List Int):Prop:=∀ i,i<l.length→w.cell? ⟨b,off+i,none⟩=some (.int .i64 (l.getD i 0))
def ArgI (w:World) (a:Option Addr) (l:List Int):Prop:=0<l.length→∃ b off,a=some ⟨b,off,none⟩∧b<w.heap.size∧CellsI w b off l
theorem CellsI.below {w w':World} {b off B:Nat} {l:List Int} (h:CellsI w b off l) (hb:Below B w w') (hB:b<B):CellsI w' b off l:=fun i hi=>(hb.cell (p:=⟨b,_,none⟩) hB).trans (h i hi)
theorem ArgI.past {w w':World} {a:Option Addr} {l:List Int} (h:ArgI w a l) (hb:Below w.heap.size w w'):ArgI w' a l:=fun hl=>by
 obtain ⟨b,off,e,h1,h2⟩:=h hl
 exact ⟨b,off,e,Nat.lt_of_lt_of_le h1 hb.size,h2.below hb h1⟩
def SliI (w:World) (v:Value) (l:List Int):Prop:=∃ (a:Option Addr) (cap:Nat),v = .slice a l.length cap∧l.length≤cap∧cap≤9223372036854775807∧ArgI w a l
theorem sliI_own {w:World} {base:Nat} {e:TypeId} {v:Value} {l:List Int} (h:w.ownsRow base e 1 v l.length (cellsI l)):SliI w v l:=by
 obtain ⟨h1,h2 | ⟨g,cap,cur,rfl,h3,h4,h5,h6,h7,h8⟩⟩:=h
 ·obtain ⟨rfl,h2⟩:=h2
  have:l=[]:=List.eq_nil_of_length_eq_zero h2
  subst this
  exact ⟨none,0,rfl,Nat.le_refl _,by omega,fun h=>by simp at h⟩
 ·refine ⟨some ⟨g,0,none⟩,cap,rfl,h5,by unfold maxLen at h6;omega,fun _=>⟨g,0,rfl,lt_of_block h4,fun i hi => ?_⟩⟩
  have hg:=cellsI_get hi
  have e:w.cell? ⟨g,0+i,none⟩=cur[i]? := by simp[World.cell?,h4]
  rw[e,←Array.getElem?_toList]
  rw[←h8,List.getElem?_take,if_pos (by omega)] at hg
  exact hg
set_option maxHeartbeats 1000000 in
theorem rwhen_c (l:List Sg) (a:Option Addr) (cap:Nat) (w:World) (hl:l.length≤1099511627776) (hA:ArgS w a l) :
  Calls Tryz.prog 174 #[.slice a l.length cap] w (RetV w fun v w'=>w'.ownsRow w.heap.size 2 1 v l.length (cellsI (l.map (·.1)))):=by
 have HA:=hidE hA;clear hA
 obtain ⟨i0,hi,hz0,hz1,hz2⟩:=info_parts Tryz.infoI64
 have HI:=hidE hi;have HZ0:=hidE hz0;have HZ1:=hidE hz1;have HZ2:=hidE hz2
 clear hi hz0 hz1 hz2
 go_enter Tryz.func174,Tryz.ntmps174
 go_wp2
 go_loopg [3,4] l.length (fun g vf vi wr=>∃ (k:Nat) (v:Value),v=vf∧k≤l.length∧l.length - k≤g∧vi = .int .i64 k∧Below w.heap.size w wr∧wr.ownsRow w.heap.size 2 1 v k (cellsI ((l.take k).map (·.1))))
 case atStart=>exact ⟨0,.slice none 0 0,rfl,Nat.zero_le _,by omega,rfl,Below.refl _ _,⟨rfl,.inl ⟨rfl,rfl⟩⟩⟩
 case round =>
  obtain ⟨k,v,rfl,hk,hg,rfl,hb,ho⟩:=hrel
  have HB:=hidE hb;have HO:=hidE ho;clear hb ho
  by_cases hlt:k<l.length
  ·obtain ⟨b,off,rfl,hbb,hc⟩:=(HA.out.past HB.out) (by omega)
   obtain ⟨d0,d1,d2⟩:=hc.get hlt
   have HS:=hidE (show cellsI ((l.take (k+1)).map (·.1))=cellsI ((l.take k).map (·.1))++[.int .i64 (ats l k)] by
    rw[List.take_succ_eq_append_getElem hlt]
    unfold cellsI ats
    rw[getD_get _ _ _ hlt,List.map_append,List.map_append];rfl)
   have hsz:=HB.out.size
   clear hc d1 d2
   generalize ats l k=u at *
   go_wp2_with (at_builtin;refine wpList_append_own _ rfl (.tmp 11) (.tmp 17) 207 rfl w.heap.size 2 i0 (.int .i64 0) 1 8 Tryz.underlying207 HI.out HZ0.out HZ1.out HZ2.out rfl (by decide) _ _ _ rfl (HO.out.alloc _) ⟨wr.heap.size,0,none⟩ 1 1 [.int .i64 u] rfl rfl (new_cells wr #[.int .i64 u] 2) (by intro x hx;simp at hx;rcases hx with rfl;rfl) (by unfold maxLen;omega) (by omega) (by simp;omega) ?_;intro v' w4 hown4 hgrow4 _)
   have p4:Below w.heap.size w w4:=Below.grown (HB.out.alloc hsz (.cells #[.int .i64 u] 2)) hgrow4 (by simp;omega) (fun k hk=>own_block HO.out hk)
   rw[←HS.out] at hown4
   have P4:=hidE p4;have PO:=hidE hown4
   clear p4 hown4 hgrow4 d0
   go_wp2
   go_roundg (l.length - (k+1))
   case measure=>omega
   case rel=>exact ⟨k+1,v',rfl,by omega,Nat.le_refl _,by go_num,P4.out,PO.out⟩
  ·have hk':k=l.length:=by omega
   subst hk'
   have ho:=HO.out
   rw[List.take_length] at ho
   have HO2:=hidE ho;clear ho HO
   go_wp2
   go_ret
   exact ⟨_,rfl,HO2.out,HB.out⟩
theorem new_cells_at (w:World) (cs:Array Value) (t:TypeId) (k:Nat) (h:k=w.heap.size):∀ j u,cs.toList[j]? = some u→(w.alloc (.cells cs t)).cell? ((⟨k,0,none⟩:Addr).add j)=some u:=by
 subst h;exact new_cells w cs t
def WithPost (w:World) (B:Nat) (v0:Value) (f:List Sg) (e:Ending) (w':World):Prop :=
 ∃ v':Value,e = .returned v'∧w'.ownsRow B 100 3 v' f.length (cellsOfS f)∧w.grownBy w' v0.ownBlock
theorem own_past {w w':World} {B:Nat} {e:TypeId} {sz:Nat} {v:Value} {n:Nat} {xs:List Value} (h:w.ownsRow B e sz v n xs) (hb:Below w.heap.size w w'):w'.ownsRow B e sz v n xs:=own_below h hb
set_option maxHeartbeats 1000000 in
set_option maxRecDepth 100000 in
theorem rwith_c (f:List Sg) (v0:Value) (B:Nat) (t m c:Int) (w:World) (hB:B≤w.heap.size) (hl:f.length≤1099511627776) (ho:w.ownsRow B 100 3 v0 f.length (cellsOfS f)) :
  Calls Tryz.prog 142 #[v0,.int .i64 t,V m c] w (WithPost w B v0 (withL f t (m,c))):=by
 obtain ⟨a,cap,rfl,hlc,hcap,hA⟩:=sliS_own ho
 have HO:=hidE ho;have HA:=hidE hA
 clear ho hA
 obtain ⟨i0,hi,hz0,hz1,hz2⟩:=info_parts Tryz.infoSeg
 have HI:=hidE hi;have HZ0:=hidE hz0;have HZ1:=hidE hz1;have HZ2:=hidE hz2
 clear hi hz0 hz1 hz2
 have app:∀ (wx:World),Below w.heap.size w wx→Hid (wx.ownsRow B 100 3 (.slice a f.length cap) f.length (cellsOfS f)∧B≤wx.heap.size):=fun wx hb=>⟨own_past HO.out hb,Nat.le_trans hB hb.size⟩
 have APP:=hidE app;clear app
 have HCS:=hidE (show cellsOfS (f++[(t,(m,c))])=cellsOfS f++[.int .i64 t,.int .i64 m,.int .i64 c] from cellsOfS_app _ _)
 have hlen1:(f++[(t,(m,c))]).length=f.length+1:=by simp
 have HL1:=hidE hlen1;clear hlen1
 by_cases h0:f.length=0
 ·have hlast:lastV f=(0,0):=by unfold lastV;rw[if_pos h0]
  have hd:decide ((0:Int)<(f.length:Int))=false:=decide_eq_false (by omega)
  have hd':¬ (0:Int)<(f.length:Int):=by omega
  have hd2:¬ 0<f.length:=by omega
  by_cases hv:(m,c)=((0,0):Int × Int)
  ·have HF:=hidE (show withL f t (m,c)=f by unfold withL;rw[hlast,if_pos hv])
   obtain ⟨rfl,rfl⟩:m=0∧c=0:=by simpa using hv
   clear hv hlast h0
   go_enter Tryz.func142,Tryz.ntmps142
   go_wp2
   go_ret
   exact ⟨_,rfl,by rw[HF.out];exact own_past HO.out (by (repeat (first | exact Below.refl _ _ | assumption | refine balloc ?_ _ | refine below_drewN ?_ _ | refine bstep (by assumption) ?_ | refine bstep (Past.prop _) ?_ | refine Below.setCell ?_ (by first | exact Nat.le_refl _ | (simp;done) | (simp;omega)) _))),grown_any (by (repeat (first | exact Below.refl _ _ | assumption | refine balloc ?_ _ | refine below_drewN ?_ _ | refine bstep (by assumption) ?_ | refine bstep (Past.prop _) ?_ | refine Below.setCell ?_ (by first | exact Nat.le_refl _ | (simp;done) | (simp;omega)) _)))⟩
  ·have HF:=hidE (show withL f t (m,c)=f++[(t,(m,c))] by unfold withL;rw[hlast,if_neg hv])
   have hmc:((m == 0) && (c == 0))=false:=by
    rw[Bool.eq_false_iff];intro h;simp at h;exact hv (by rw[h.1,h.2])
   clear hv hlast h0
   cases hm:(m == 0)
   rotate_left
   ·have hc:(c == 0)=false:=by rw[hm] at hmc;simpa using hmc
    clear hmc
    go_enter Tryz.func142,Tryz.ntmps142
    go_wp2_with (at_builtin;go_loud (refine wpList_append_own _ rfl (.tmp 23) (.tmp 27) 22 rfl B 100 i0 (.agg #[.int .i64 0,.int .i64 0,.int .i64 0]) 3 24 Tryz.underlying22 HI.out HZ0.out HZ1.out HZ2.out rfl (by decide) _ _ _ rfl (APP.out _ (by (repeat (first | exact Below.refl _ _ | assumption | refine balloc ?_ _ | refine below_drewN ?_ _ | refine bstep (by assumption) ?_ | refine bstep (Past.prop _) ?_ | refine Below.setCell ?_ (by first | exact Nat.le_refl _ | (simp;done) | (simp;omega)) _)))).out.1 ⟨_,0,none⟩ 1 1 [.int .i64 t,.int .i64 m,.int .i64 c] rfl rfl (new_cells_at _ #[.int .i64 t,.int .i64 m,.int .i64 c] 100 _ (by simp)) (by intro x hx;simp at hx;rcases hx with rfl | rfl | rfl<;>rfl) (by unfold maxLen;omega) (by omega) (by simp;omega) ?_;intro v' w4 hown4 hgrow4 _))
    rw[←HCS.out,←HL1.out] at hown4
    have HO4:=hidE hown4;have HG4:=hidE (grown_trans (grown_any (show Below w.heap.size w _ by (repeat (first | exact Below.refl _ _ | assumption | refine balloc ?_ _ | refine below_drewN ?_ _ | refine bstep (by assumption) ?_ | refine bstep (Past.prop _) ?_ | refine Below.setCell ?_ (by first | exact Nat.le_refl _ | (simp;done) | (simp;omega)) _)))) hgrow4)
    clear hown4 hgrow4
    go_wp2
    go_ret
    exact ⟨_,rfl,by rw[HF.out];exact HO4.out,HG4.out⟩
   ·clear hmc
    go_enter Tryz.func142,Tryz.ntmps142
    go_wp2_with (at_builtin;refine wpList_append_own _ rfl (.tmp 23) (.tmp 27) 22 rfl B 100 i0 (.agg #[.int .i64 0,.int .i64 0,.int .i64 0]) 3 24 Tryz.underlying22 HI.out HZ0.out HZ1.out HZ2.out rfl (by decide) _ _ _ rfl (APP.out _ (by (repeat (first | exact Below.refl _ _ | assumption | refine balloc ?_ _ | refine below_drewN ?_ _ | refine bstep (by assumption) ?_ | refine bstep (Past.prop _) ?_ | refine Below.setCell ?_ (by first | exact Nat.le_refl _ | (simp;done) | (simp;omega)) _)))).out.1 ⟨_,0,none⟩ 1 1 [.int .i64 t,.int .i64 m,.int .i64 c] rfl rfl (new_cells_at _ #[.int .i64 t,.int .i64 m,.int .i64 c] 100 _ (by simp)) (by intro x hx;simp at hx;rcases hx with rfl | rfl | rfl<;>rfl) (by unfold maxLen;omega) (by omega) (by simp;omega) ?_;intro v' w4 hown4 hgrow4 _)
    rw[←HCS.out,←HL1.out] at hown4
    have HO4:=hidE hown4;have HG4:=hidE (grown_trans (grown_any (show Below w.heap.size w _ by (repeat (first | exact Below.refl _ _ | assumption | refine balloc ?_ _ | refine below_drewN ?_ _ | refine bstep (by assumption) ?_ | refine bstep (Past.prop _) ?_ | refine Below.setCell ?_ (by first | exact Nat.le_refl _ | (simp;done) | (simp;omega)) _)))) hgrow4)
    clear hown4 hgrow4
    go_wp2
    go_ret
    exact ⟨_,rfl,by rw[HF.out];exact HO4.out,HG4.out⟩
 ·obtain ⟨k,hk⟩:∃ k,f.length=k+1:=⟨f.length - 1,by omega⟩
  have hlast:lastV f=vls f k:=by unfold lastV;rw[if_neg h0,hk,Nat.add_sub_cancel]
  obtain ⟨b,off,rfl,hb,hc⟩:=HA.out (by omega)
  obtain ⟨d0,d1,d2⟩:=hc.get (i:=k) (by omega)
  have hd:decide ((0:Int)<(f.length:Int))=true:=decide_eq_true (by omega)
  have hkz:(f.length:Int) - 1=(k:Int):=by omega
  have hkl:k<f.length:=by omega
  have HKZ:=hidE hkz
  have hn1:b≠w.heap.size:=by omega
  have hn2:b≠w.heap.size+1:=by omega
  clear hc hk h0 hkz d0
  by_cases hv:(m,c)=vls f k
  ·have HF:=hidE (show withL f t (m,c)=f by unfold withL;rw[hlast,if_pos hv])
   rw[←hv] at d1 d2
   clear hv hlast
   go_enter Tryz.func142,Tryz.ntmps142
   go_upto_region 3 with fail
   have hkz:=HKZ.out
   go_wp2
   go_ret
   exact ⟨_,rfl,by rw[HF.out];exact own_past HO.out (by (repeat (first | exact Below.refl _ _ | assumption | refine balloc ?_ _ | refine below_drewN ?_ _ | refine bstep (by assumption) ?_ | refine bstep (Past.prop _) ?_ | refine Below.setCell ?_ (by first | exact Nat.le_refl _ | (simp;done) | (simp;omega)) _))),grown_any (by (repeat (first | exact Below.refl _ _ | assumption | refine balloc ?_ _ | refine below_drewN ?_ _ | refine bstep (by assumption) ?_ | refine bstep (Past.prop _) ?_ | refine Below.setCell ?_ (by first | exact Nat.le_refl _ | (simp;done) | (simp;omega)) _)))⟩
  ·have HF:=hidE (show withL f t (m,c)=f++[(t,(m,c))] by unfold withL;rw[hlast,if_neg hv])
   have hmc:((m == (vls f k).1) && (c == (vls f k).2))=false:=by
    rw[Bool.eq_false_iff];intro h;simp at h;exact hv (Prod.ext h.1 h.2)
   clear hv hlast
   generalize vls f k=q at *
   cases hm:(m == q.1)
   rotate_left
   ·have hc:(c == q.2)=false:=by rw[hm] at hmc;simpa using hmc
    clear hmc
    go_enter Tryz.func142,Tryz.ntmps142
    go_upto_region 3 with fail
    have hkz:=HKZ.out
    go_wp2_with (at_builtin;refine wpList_append_own _ rfl (.tmp 23) (.tmp 27) 22 rfl B 100 i0 (.agg #[.int .i64 0,.int .i64 0,.int .i64 0]) 3 24 Tryz.underlying22 HI.out HZ0.out HZ1.out HZ2.out rfl (by decide) _ _ _ rfl (APP.out _ (by (repeat (first | exact Below.refl _ _ | assumption | refine balloc ?_ _ | refine below_drewN ?_ _ | refine bstep (by assumption) ?_ | refine bstep (Past.prop _) ?_ | refine Below.setCell ?_ (by first | exact Nat.le_refl _ | (simp;done) | (simp;omega)) _)))).out.1 ⟨_,0,none⟩ 1 1 [.int .i64 t,.int .i64 m,.int .i64 c] rfl rfl (new_cells_at _ #[.int .i64 t,.int .i64 m,.int .i64 c] 100 _ (by simp)) (by intro x hx;simp at hx;rcases hx with rfl | rfl | rfl<;>rfl) (by unfold maxLen;omega) (by omega) (by simp;omega) ?_;intro v' w4 hown4 hgrow4 _)
    rw[←HCS.out,←HL1.out] at hown4
    have HO4:=hidE hown4;have HG4:=hidE (grown_trans (grown_any (show Below w.heap.size w _ by (repeat (first | exact Below.refl _ _ | assumption | refine balloc ?_ _ | refine below_drewN ?_ _ | refine bstep (by assumption) ?_ | refine bstep (Past.prop _) ?_ | refine Below.setCell ?_ (by first | exact Nat.le_refl _ | (simp;done) | (simp;omega)) _)))) hgrow4)
    clear hown4 hgrow4
    go_wp2
    go_ret
    exact ⟨_,rfl,by rw[HF.out];exact HO4.out,HG4.out⟩
   ·clear hmc
    go_enter Tryz.func142,Tryz.ntmps142
    go_upto_region 3 with fail
    have hkz:=HKZ.out
    go_wp2_with (at_builtin;refine wpList_append_own _ rfl (.tmp 23) (.tmp 27) 22 rfl B 100 i0 (.agg #[.int .i64 0,.int .i64 0,.int .i64 0]) 3 24 Tryz.underlying22 HI.out HZ0.out HZ1.out HZ2.out rfl (by decide) _ _ _ rfl (APP.out _ (by (repeat (first | exact Below.refl _ _ | assumption | refine balloc ?_ _ | refine below_drewN ?_ _ | refine bstep (by assumption) ?_ | refine bstep (Past.prop _) ?_ | refine Below.setCell ?_ (by first | exact Nat.le_refl _ | (simp;done) | (simp;omega)) _)))).out.1 ⟨_,0,none⟩ 1 1 [.int .i64 t,.int .i64 m,.int .i64 c] rfl rfl (new_cells_at _ #[.int .i64 t,.int .i64 m,.int .i64 c] 100 _ (by simp)) (by intro x hx;simp at hx;rcases hx with rfl | rfl | rfl<;>rfl) (by unfold maxLen;omega) (by omega) (by simp;omega) ?_;intro v' w4 hown4 hgrow4 _)
    rw[←HCS.out,←HL1.out] at hown4
    have HO4:=hidE hown4;have HG4:=hidE (grown_trans (grown_any (show Below w.heap.size w _ by (repeat (first | exact Below.refl _ _ | assumption | refine balloc ?_ _ | refine below_drewN ?_ _ | refine bstep (by assumption) ?_ | refine bstep (Past.prop _) ?_ | refine Below.setCell ?_ (by first | exact Nat.le_refl _ | (simp;done) | (simp;omega)) _)))) hgrow4)
    clear hown4 hgrow4
    go_wp2
    go_ret
    exact ⟨_,rfl,by rw[HF.out];exact HO4.out,HG4.out⟩
end
end Go.Proofs.YtcmponckjkalaaaGreat
