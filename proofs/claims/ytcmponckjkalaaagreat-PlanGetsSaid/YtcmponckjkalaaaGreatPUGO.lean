/- What functions have together, at each time: sums of functions never below 0. No program. No conditions. Package plan: what reservations have together. No conditions but the sizes, and that the sum is in range. Package plan: the capacity of a plan. No conditions but the sizes. Package plan: what a user has. No conditions but the sizes, and that the sums are in range. Package .. -/
import Derived.Test.YtcmponckjkalaaaGreatPUGB
import Derived.Test.YtcmponckjkalaaaGreatPUMC
import Derived.Test.YtcmponckjkalaaaGreatPUGN
import Derived.Deep.LoopGhost
import Derived.Test.YtcmponckjkalaaaGreatPUGA
namespace Go.Proofs.YtcmponckjkalaaaGreat
section
def sA (L:List (List Sg)) (t:Int):Int:=(L.map fun f=>(vat f t).1).sum
def sB (L:List (List Sg)) (t:Int):Int:=(L.map fun f=>(vat f t).2).sum
theorem addS_okP {a b c d:Int} (h1:okV a b=true) (h2:okV c d=true) (h3:okV (a+c) (b+d)=true):addS a b c d=(a+c,b+d,0):=by unfold addS;rw[h1,h2,h3];rfl
theorem doS_nilP {F:List Sg} (h:mayB F=true):doS 0 [] F=(F,0):=doS_of rfl h h fun t=>by
 show addS 0 0 (vat F t).1 (vat F t).2=_
 have:=vat_ok (CF.ok (mayB_iff.1 h)) t
 rw[addS_okP (by decide) this (by simpa using this)]
 simp
theorem sumS_twoP {F G:List Sg} (h1:mayB F=true) (h2:mayB G=true):sumS [F,G]=doS 0 F G:=by
 have e:[F,G].all mayB=true:=by simp[h1,h2]
 unfold sumS
 rw[e,if_pos rfl]
 unfold sumE
 simp only[List.foldl_cons,List.foldl_nil,doS_nilP h1,if_true]
theorem vat_pos {F:List Sg} (h:F.all nonneg=true) (t:Int):0≤(vat F t).1∧0≤(vat F t).2:=by
 have key:∀ (l:List Sg) (v:Int × Int),(∀ s∈l,nonneg s=true)→0≤v.1∧0≤v.2→0≤(l.foldl (stepV t) v).1∧0≤(l.foldl (stepV t) v).2:=by
  intro l
  induction l with
  | nil=>intro v _ hv;exact hv
  | cons s r ih =>
   intro v hl hv
   refine ih _ (fun s' hs=>hl s' (List.mem_cons_of_mem _ hs)) ?_
   have:=hl s (List.mem_cons_self ..)
   unfold nonneg at this
   simp only[Bool.and_eq_true,decide_eq_true_eq] at this
   unfold stepV;split
   ·exact this
   ·exact hv
 exact key F (0,0) (fun s hs=>List.all_eq_true.1 h s hs) (by simp)
theorem sA_app (A B:List (List Sg)) (t:Int):sA (A++B) t=sA A t+sA B t:=by unfold sA;rw[List.map_append,List.sum_append]
theorem sB_app (A B:List (List Sg)) (t:Int):sB (A++B) t=sB A t+sB B t:=by unfold sB;rw[List.map_append,List.sum_append]
theorem sAB_pos {L:List (List Sg)} (h:∀ F∈L,posB F=true) (t:Int):0≤sA L t∧0≤sB L t:=by
 induction L with
 | nil=>simp[sA,sB]
 | cons F L ih =>
  obtain ⟨a,b⟩:=ih fun G hG=>h G (List.mem_cons_of_mem _ hG)
  have hp:=h F (List.mem_cons_self ..)
  unfold posB at hp
  rw[Bool.and_eq_true] at hp
  obtain ⟨c,d⟩:=vat_pos hp.2 t
  unfold sA sB at *
  simp only[List.map_cons,List.sum_cons]
  omega
def Loads (L:List (List Sg)) (A:List Sg):Prop:=mayB A=true∧(∀ t,vat A t=(sA L t,sB L t))∧A.length≤lenR L
def InR (L:List (List Sg)):Prop:=∀ t,sA L t≤1125899906842624∧sB L t≤1125899906842624
theorem loads_nil:Loads [] []:=⟨rfl,fun _=>rfl,Nat.le_refl _⟩
theorem loads_one {F:List Sg} (h:posB F=true):Loads [F] F:=by
 unfold posB at h
 rw[Bool.and_eq_true] at h
 exact ⟨h.1,fun t=>by simp[sA,sB],by simp[lenR]⟩
theorem loads_unique {L L':List (List Sg)} {A B:List Sg} (h:Loads L A) (h':Loads L' B) (e:∀ t,sA L t=sA L' t∧sB L t=sB L' t):A=B:=by
 have h1:=min_self h.1
 have h2:=doS_ext (k:=2) h.1 h.1 h'.1 h'.1 (fun t=>by unfold opT;rw[h.2.1 t,h'.2.1 t,(e t).1,(e t).2])
 rw[h1,min_self h'.1] at h2
 exact (Prod.mk.inj h2).1
theorem inR_left {A B:List (List Sg)} (hp:∀ F∈A++B,posB F=true) (h:InR (A++B)):InR A:=fun t=>by
 have:=h t
 rw[sA_app,sB_app] at this
 have:=sAB_pos (L:=B) (fun F hF=>hp F (List.mem_append_right _ hF)) t
 omega
theorem inR_right {A B:List (List Sg)} (hp:∀ F∈A++B,posB F=true) (h:InR (A++B)):InR B:=fun t=>by
 have:=h t
 rw[sA_app,sB_app] at this
 have:=sAB_pos (L:=A) (fun F hF=>hp F (List.mem_append_left _ hF)) t
 omega
theorem loads_add {L M:List (List Sg)} {A B:List Sg} (hp:∀ F∈L++M,posB F=true) (hr:InR (L++M)) (hA:Loads L A) (hB:Loads M B):∃ C,sumS [A,B]=(C,0)∧Loads (L++M) C:=by
 have hok:opOk 0 A B=true:=opOk_iff.2 fun t=>by
  unfold opT
  rw[hA.2.1 t,hB.2.1 t,opV_0]
  have h1:=hr t
  rw[sA_app,sB_app] at h1
  have h2:=sAB_pos (L:=L) (fun F hF=>hp F (List.mem_append_left _ hF)) t
  have h3:=sAB_pos (L:=M) (fun F hF=>hp F (List.mem_append_right _ hF)) t
  rw[addS_okP (okV_iff.2 (by omega)) (okV_iff.2 (by omega)) (okV_iff.2 (by omega))]
 refine ⟨opL 0 A B, ?_, ?_⟩
 ·rw[sumS_twoP hA.1 hB.1]
  unfold doS
  rw[hA.1,hB.1,if_neg (by decide),if_pos hok]
 ·obtain ⟨c1,c2⟩:=opL_spec (mayB_iff.1 hA.1) (mayB_iff.1 hB.1) hok
  refine ⟨mayB_iff.2 c1,fun t => ?_, ?_⟩
  ·rw[c2 t]
   unfold opW opT
   rw[hA.2.1 t,hB.2.1 t,opV_0]
   have h1:=hr t
   rw[sA_app,sB_app] at h1
   have h2:=sAB_pos (L:=L) (fun F hF=>hp F (List.mem_append_left _ hF)) t
   have h3:=sAB_pos (L:=M) (fun F hF=>hp F (List.mem_append_right _ hF)) t
   rw[addS_okP (okV_iff.2 (by omega)) (okV_iff.2 (by omega)) (okV_iff.2 (by omega)),sA_app,sB_app]
  ·have:=opL_len 0 A B
   have h1:=hA.2.2
   have h2:=hB.2.2
   unfold lenR at *
   rw[List.map_append,List.sum_append]
   omega
end
section
open Go.ChangeShapes Go.WideShapes Go.ChangeAt Go.RowKit
attribute [local irreducible] Go.Calls
theorem argQ_twoP {w:World} {p:Nat} {F G:List Sg} {v1 v2:Value} {t:TypeId} (h:Blk w p #[v1,v2] t) (h1:SliS w v1 F) (h2:SliS w v2 G):ArgQ w (some ⟨p,0,none⟩) [F,G]:=fun _ =>
 ⟨p,0,rfl,h.lt,fun i hi=>by
  simp only[List.length_cons,List.length_nil] at hi
  match i,hi with
  | 0,_=>exact ⟨v1,h.cell 0,h1⟩
  | 1,_=>exact ⟨v2,h.cell 1,h2⟩⟩
def RwA (w:World) (x:Rw) (F:List Sg):Prop:=SliS w x.vA F∧SrcV w 3 x.vA F.length (cellsOfS F)
theorem RwA.past {w w':World} {x:Rw} {F:List Sg} (h:RwA w x F) (hb:Below w.heap.size w w'):RwA w' x F:=⟨h.1.past hb,srcV_below h.2 hb⟩
def RwsA (w:World) (l:List Rw) (L:List (List Sg)):Prop:=L.length=l.length∧∀ i,i<l.length→RwA w (l.getD i rw0) (L.getD i [])
theorem RwsA.past {w w':World} {l:List Rw} {L:List (List Sg)} (h:RwsA w l L) (hb:Below w.heap.size w w'):RwsA w' l L:=⟨h.1,fun i hi=>(h.2 i hi).past hb⟩
theorem RwsA.take {w:World} {l:List Rw} {L:List (List Sg)} (h:RwsA w l L) (k:Nat):RwsA w (l.take k) (L.take k):=⟨by simp[h.1],fun i hi=>by
 simp at hi
 have:=h.2 i (by omega)
 rw[List.getD_eq_getElem?_getD,List.getElem?_take,if_pos (by omega),←List.getD_eq_getElem?_getD,List.getD_eq_getElem?_getD (l:=L.take k),List.getElem?_take,if_pos (by omega),←List.getD_eq_getElem?_getD]
 exact this⟩
theorem RwsA.drop {w:World} {l:List Rw} {L:List (List Sg)} (h:RwsA w l L) (k:Nat):RwsA w (l.drop k) (L.drop k):=⟨by simp[h.1],fun i hi=>by
 simp at hi
 have:=h.2 (k+i) (by omega)
 rw[List.getD_eq_getElem?_getD,List.getElem?_drop,←List.getD_eq_getElem?_getD,List.getD_eq_getElem?_getD (l:=L.drop k),List.getElem?_drop,←List.getD_eq_getElem?_getD]
 exact this⟩
theorem SliRw.take {w:World} {b off cap k:Nat} {l:List Rw} (h:SliRw w (.slice (some ⟨b,off,none⟩) l.length cap) l) (hk:k≤l.length):SliRw w (.slice (some ⟨b,off,none⟩) k cap) (l.take k):=by
 obtain ⟨a,c,e,h1,h2,h3,h4,h5⟩:=h
 cases e
 have hl:(l.take k).length=k:=by simp[hk]
 refine ⟨_,cap,by rw[hl],by rw[hl];omega,h2,(fun e=>by cases e),fun hp => ?_,fun x hx=>h5 x (List.mem_of_mem_take hx)⟩
 obtain ⟨b',o',e,h6,h7⟩:=h4 (by rw[hl] at hp;omega)
 cases e
 refine ⟨b,off,rfl,h6,fun i j hi hj => ?_⟩
 rw[hl] at hi
 have:=h7 i j (by omega) hj
 rw[List.getD_eq_getElem?_getD,List.getElem?_take,if_pos hi,←List.getD_eq_getElem?_getD]
 exact this
theorem SliRw.drop {w:World} {b off cap k:Nat} {l:List Rw} (h:SliRw w (.slice (some ⟨b,off,none⟩) l.length cap) l) (hk:k<l.length):SliRw w (.slice (some ⟨b,off+k * 8,none⟩) (l.length - k) (cap - k)) (l.drop k):=by
 obtain ⟨a,c,e,h1,h2,h3,h4,h5⟩:=h
 cases e
 have hl:(l.drop k).length=l.length - k:=by simp
 refine ⟨_,cap - k,by rw[hl],by rw[hl];omega,by omega,(fun e=>by cases e),fun hp => ?_,fun x hx=>h5 x (List.mem_of_mem_drop hx)⟩
 obtain ⟨b',o',e,h6,h7⟩:=h4 (by omega)
 cases e
 refine ⟨b,off+k * 8,rfl,h6,fun i j hi hj => ?_⟩
 rw[hl] at hi
 have:=h7 (k+i) j (by omega) hj
 rw[List.getD_eq_getElem?_getD,List.getElem?_drop,←List.getD_eq_getElem?_getD,←this]
 congr 2
 omega
theorem lenR_app (A B:List (List Sg)):lenR (A++B)=lenR A+lenR B:=by unfold lenR;rw[List.map_append,List.sum_append]
def ldR (M:List (List Sg)):Value→World→Prop:=fun v w=>∃ A,SliS w v A∧Loads M A
theorem stab_ld (M:List (List Sg)):Stab (ldR M):=fun _ _ _ ⟨A,h1,h2⟩ hb=>⟨A,h1.past hb,h2⟩
def ld2R (t:TypeId) (M N:List (List Sg)):Value→World→Prop:=fun v w=>∃ p v1 v2,v = .slice (some ⟨p,0,none⟩) 2 2∧Blk w p #[v1,v2] t∧ldR M v1 w∧ldR N v2 w
theorem stab_ld2 (t:TypeId) (M N:List (List Sg)):Stab (ld2R t M N):=fun _ _ _ ⟨p,v1,v2,e,h1,h2,h3⟩ hb=>⟨p,v1,v2,e,h1.past hb,stab_ld M _ _ _ h2 hb,stab_ld N _ _ _ h3 hb⟩
def ldtR (M:List (List Sg)):Value→World→Prop:=fun v w=>∃ sv,v = .tuple #[sv,.int .i64 0]∧ldR M sv w
theorem stab_ldt (M:List (List Sg)):Stab (ldtR M):=fun _ _ _ ⟨sv,e,h1⟩ hb=>⟨sv,e,stab_ld M _ _ _ h1 hb⟩
def LoadIs (w:World) (L:List (List Sg)) (e:Ending) (w':World):Prop:=∃ v,e = .returned v∧ldR L v w'∧Below w.heap.size w w'
theorem cadd_ld {w:World} {p:Nat} {v1 v2:Value} {M N:List (List Sg)} {t:TypeId} (h:Blk w p #[v1,v2] t) (h1:ldR M v1 w) (h2:ldR N v2 w) (hp:∀ F∈M++N,posB F=true) (hr:InR (M++N)) (hl:lenR (M++N)≤999999990) :
  Calls Tryz.prog 93 #[.slice (some ⟨p,0,none⟩) 2 2] w fun e w'=>∃ sv,e = .returned (.tuple #[sv,.int .i64 0])∧ldR (M++N) sv w'∧Below w.heap.size w w':=by
 obtain ⟨A,hA,hMA⟩:=h1
 obtain ⟨B,hB,hNB⟩:=h2
 obtain ⟨C,hC,hMC⟩:=loads_add hp hr hMA hNB
 have hlen:lenR [A,B]≤999999990:=by
  have:=hMA.2.2;have:=hNB.2.2
  rw[lenR_app] at hl
  simp[lenR] at *
  omega
 have hc:=cadd_c [A,B] (some ⟨p,0,none⟩) 2 w (by simp) hlen (argQ_twoP h hA hB)
 rw[hC] at hc
 refine hc.mono ?_
 rintro e w' ⟨v,rfl,hv,hb⟩
 exact ⟨v,rfl,⟨C,hv,hMC⟩,hb⟩
set_option maxRecDepth 100000 in
set_option maxHeartbeats 20000000 in
theorem load_c:∀ (n:Nat) (l:List Rw) (L:List (List Sg)) (v:Value) (w:World),l.length≤n→SliRw w v l→RwsA w l L→(∀ F∈L,posB F=true)→InR L→lenR L≤999999990→l.length≤1000000 →
  Calls Tryz.prog 53 #[v] w (LoadIs w L):=by
 intro n
 induction n with
 | zero =>
  intro l L v w hn hv hL hp hr hlr hs
  obtain ⟨a,cap,rfl,_⟩:=hv
  have hl0:l.length=0:=by omega
  have hL0:L=[]:=List.eq_nil_of_length_eq_zero (hL.1.trans hl0)
  subst hL0
  rw[hl0]
  go_enter Tryz.func53,Tryz.ntmps53
  go_wp2
  go_ret
  exact ⟨_,rfl,⟨[],sliS_nil _,loads_nil⟩,by (repeat (first | exact Below.refl _ _ | assumption | refine balloc ?_ _ | refine below_drewN ?_ _ | refine bstep (by assumption) ?_ | refine bstep (Past.prop _) ?_ | refine Below.setCell ?_ (by first | exact Nat.le_refl _ | (simp;done) | (simp;omega)) _))⟩
 | succ n ih =>
  intro l L v w hn hv hL hp hr hlr hs
  have HV:=hidE hv;have HL:=hidE hL;have HP:=hidE hp;have HR:=hidE hr
  obtain ⟨a,cap,rfl,hc1,hc2,hc3,hc4,hc5⟩:=hv
  by_cases h0:l.length=0
  ·have hL0:L=[]:=List.eq_nil_of_length_eq_zero (hL.1.trans h0)
   subst hL0
   clear HV HL HP HR ih hc1 hc2 hc3 hc4 hc5 hL hp hr
   rw[h0]
   clear hs hn h0
   go_enter Tryz.func53,Tryz.ntmps53
   go_wp2
   go_ret
   exact ⟨_,rfl,⟨[],sliS_nil _,loads_nil⟩,by (repeat (first | exact Below.refl _ _ | assumption | refine balloc ?_ _ | refine below_drewN ?_ _ | refine bstep (by assumption) ?_ | refine bstep (Past.prop _) ?_ | refine Below.setCell ?_ (by first | exact Nat.le_refl _ | (simp;done) | (simp;omega)) _))⟩
  by_cases h1:l.length=1
  ·obtain ⟨b,off,rfl,hbz,hcc⟩:=hc4 (by omega)
   obtain ⟨e0,e1,e2,e3,e4,e5,e6,e7⟩:=hcc.get (i:=0) (by omega)
   simp only[Nat.zero_mul,Nat.add_zero] at e0 e1 e2 e3 e4 e5 e6 e7
   obtain ⟨F,rfl⟩:∃ F,L=[F]:=List.length_eq_one_iff.1 (hL.1.trans h1)
   have hA:=hL.2 0 (by omega)
   have hF:=hp F (by simp)
   have HF:=hidE (loads_one hF)
   rw[show [F].getD 0 []=F from rfl] at hA
   have hlF:F.length≤999999990:=by simpa [lenR] using hlr
   have HC:=hidE (copiedSeg_c hA.2 (by omega))
   have hfit:=hc5 _ (getD_memRw (k:=0) (by omega))
   obtain ⟨_,_,⟨a7,n7,c7,q7⟩,_⟩:=hfit
   rw[q7] at e7 HC
   clear HV HL HP HR ih hc1 hc2 hc3 hc4 hc5 hL hp hr hcc hA hF e0 e1 e2 e3 e4 e5 e6
   rw[h1]
   clear hs hn h0 h1
   go_enter Tryz.func53,Tryz.ntmps53
   go_wp2_with fail
   ((with_reducible refine (HC.out).mono ?_);rintro e w1 ⟨v1,rfl,ho,hb1⟩)
   have HO:=hidE ho;have HB1:=hidE hb1
   clear ho hb1
   go_wp2
   go_ret
   exact ⟨_,rfl,⟨F,sliS_own HO.out,HF.out⟩,HB1.out⟩
  ·obtain ⟨b,off,rfl,hbz,hcc⟩:=hc4 (by omega)
   have d0:decide ((l.length:Int)=0)=false:=decide_eq_false (by omega)
   have d1:decide ((l.length:Int)=1)=false:=decide_eq_false (by omega)
   have d2:((l.length:Int) == 0)=false:=beq_eq_false_iff_ne.2 (by omega)
   have d3:((l.length:Int) == 1)=false:=beq_eq_false_iff_ne.2 (by omega)
   obtain ⟨h,hh⟩:∃ h:Nat,h=l.length / 2:=⟨_,rfl⟩
   have hh1:0<h:=by omega
   have hh2:h<l.length:=by omega
   have eq1:(l.length:Int) / 2=(h:Int):=by omega
   have eq2:Int.tdiv (l.length:Int) 2=(h:Int):=by rw[Int.tdiv_eq_ediv_of_nonneg (by omega)];exact eq1
   have E1:=hidE eq1;have E2:=hidE eq2
   have hhc:h≤cap:=by omega
   have hhm:h≤l.length:=by omega
   have hcne:¬ cap=h:=by omega
   have hsplit:L.take h++L.drop h=L:=List.take_append_drop h L
   have HX1:=hidE (fun w' (hb:Below w.heap.size w w')=>ih (l.take h) (L.take h) (.slice (some ⟨b,off,none⟩) h cap) w' (by simp;omega) ((HV.out.past hb).take (by omega)) ((HL.out.past hb).take h) (fun F hF=>HP.out F (List.mem_of_mem_take hF)) (by have:=HR.out;rw[←hsplit] at this;exact inR_left (by rw[hsplit];exact HP.out) this) (by have:=lenR_app (L.take h) (L.drop h);rw[hsplit] at this;omega) (by simp;omega))
   have HX2:=hidE (fun w' (hb:Below w.heap.size w w')=>ih (l.drop h) (L.drop h) (.slice (some ⟨b,off+h * 8,none⟩) (l.length - h) (cap - h)) w' (by simp;omega) ((HV.out.past hb).drop (by omega)) ((HL.out.past hb).drop h) (fun F hF=>HP.out F (List.mem_of_mem_drop hF)) (by have:=HR.out;rw[←hsplit] at this;exact inR_right (by rw[hsplit];exact HP.out) this) (by have:=lenR_app (L.take h) (L.drop h);rw[hsplit] at this;omega) (by simp;omega))
   have HAD:=hidE (fun (w':World) (p:Nat) (v1 v2:Value) (t:TypeId) (hB:Blk w' p #[v1,v2] t) (h1:ldR (L.take h) v1 w') (h2:ldR (L.drop h) v2 w')=>by
    have:=cadd_ld hB h1 h2 (by rw[hsplit];exact HP.out) (by rw[hsplit];exact HR.out) (by rw[hsplit];exact hlr)
    rw[hsplit] at this
    exact this)
   clear HV HL HP HR ih hc3 hc4 hc5 hL hp hr hcc hsplit hh eq1 eq2 hlr hn
   go_enter Tryz.func53,Tryz.ntmps53
   go_upto_region 7 with fail
   simp only[E1.out]
   clear E1 E2 d0 d1 d2 d3
   generalize l.length=m at *
   refine wp_region_J 13 [12] (nthR [detR (.slice (some ⟨b,off,none⟩) m cap),detR (.int .i64 h),detR (.slice (some ⟨b,off,none⟩) h cap),ldR (L.take h),detR (.slice (some ⟨b,off,none⟩) m cap),detR (.int .i64 h),detR (.slice (some ⟨b,off+h * 8,none⟩) (m - h) (cap - h)),ldR (L.drop h),ld2R 22 (L.take h) (L.drop h),ldtR L,ldtR L,ldR L,detR (.int .i64 0)]) (fun _=>false) (by kernel_rfl) (by decide) (by kernel_rfl) (stab_nth (by intro r hr;simp only[List.mem_cons,List.not_mem_nil,or_false] at hr;rcases hr with rfl | rfl | rfl | rfl | rfl | rfl | rfl | rfl | rfl | rfl | rfl | rfl | rfl<;>first | exact stab_det _ | exact stab_ld _ | exact stab_ld2 _ _ _ | exact stab_ldt _)) ?_ ?_ ?_
   ·intro i o hi ho
    match i,hi with
    | 0, _ =>
     obtain rfl:=Option.some.inj ho
     intro u x hd
     have hc:=Past.cell x
     simp[go_sem,gives,frm,Act.put,nthR,detR,Region.wanted,Below.refl]
    | 1, _ =>
     obtain rfl:=Option.some.inj ho
     intro u x hd
     have hc:=Past.cell x
     simp[go_sem,gives,frm,Act.put,nthR,detR,Region.wanted,Below.refl]
    | 2, _ =>
     obtain rfl:=Option.some.inj ho
     intro u x hd
     have hc:=Past.cell x
     have d0:=hd 0 (by decide) (by kernel_rfl)
     have d1:=hd 1 (by decide) (by kernel_rfl)
     simp only[nthR,detR,List.getD_cons_zero,List.getD_cons_succ] at d0 d1
     simp[go_sem,gives,frm,Act.put,nthR,detR,Region.wanted,Below.refl,d0,d1,hhc]
    | 3, _ =>
     obtain rfl:=Option.some.inj ho
     intro u x hd
     have hc:=Past.cell x
     have d2:=hd 2 (by decide) (by kernel_rfl)
     simp only[nthR,detR,List.getD_cons_zero,List.getD_cons_succ] at d2
     simp[go_sem,gives,frm,Act.put,nthR,Region.wanted,d2]
     (with_reducible refine (HX1.out _ (Past.prop x)).mono ?_);rintro e w3 ⟨v,rfl,hv3,hb3⟩;exact ⟨_,rfl,hb3,hv3⟩
    | 4, _ =>
     obtain rfl:=Option.some.inj ho
     intro u x hd
     have hc:=Past.cell x
     simp[go_sem,gives,frm,Act.put,nthR,detR,Region.wanted,Below.refl]
    | 5, _ =>
     obtain rfl:=Option.some.inj ho
     intro u x hd
     have hc:=Past.cell x
     simp[go_sem,gives,frm,Act.put,nthR,detR,Region.wanted,Below.refl]
    | 6, _ =>
     obtain rfl:=Option.some.inj ho
     intro u x hd
     have hc:=Past.cell x
     have d4:=hd 4 (by decide) (by kernel_rfl)
     have d5:=hd 5 (by decide) (by kernel_rfl)
     simp only[nthR,detR,List.getD_cons_zero,List.getD_cons_succ] at d4 d5
     simp[go_sem,gives,frm,Act.put,nthR,detR,Region.wanted,Below.refl,d4,d5,hhm,hcne]
    | 7, _ =>
     obtain rfl:=Option.some.inj ho
     intro u x hd
     have hc:=Past.cell x
     have d6:=hd 6 (by decide) (by kernel_rfl)
     simp only[nthR,detR,List.getD_cons_zero,List.getD_cons_succ] at d6
     simp[go_sem,gives,frm,Act.put,nthR,Region.wanted,d6]
     (with_reducible refine (HX2.out _ (Past.prop x)).mono ?_);rintro e w3 ⟨v,rfl,hv3,hb3⟩;exact ⟨_,rfl,hb3,hv3⟩
    | 8, _ =>
     obtain rfl:=Option.some.inj ho
     intro u x hd
     have hc:=Past.cell x
     have h3:ldR (L.take h) (u 3) x.1:=hd 3 (by decide) (by kernel_rfl)
     have h7:ldR (L.drop h) (u 7) x.1:=hd 7 (by decide) (by kernel_rfl)
     obtain ⟨A3,⟨a3,c3,e3,_⟩,_⟩:=id h3
     obtain ⟨A7,⟨a7,c7,e7,_⟩,_⟩:=id h7
     rw[e3] at h3;rw[e7] at h7
     simp[go_sem,gives,frm,Act.put,nthR,Region.wanted,e3,e7]
     exact ⟨by (repeat (first | exact Below.refl _ _ | assumption | refine balloc ?_ _ | refine below_drewN ?_ _ | refine bstep (by assumption) ?_ | refine bstep (Past.prop _) ?_ | refine Below.setCell ?_ (by first | exact Nat.le_refl _ | (simp;done) | (simp;omega)) _)),⟨_,_,_,rfl,Blk.made _ _ _,stab_ld _ _ _ _ h3 (by (repeat (first | exact Below.refl _ _ | assumption | refine balloc ?_ _ | refine below_drewN ?_ _ | refine bstep (by assumption) ?_ | refine bstep (Past.prop _) ?_ | refine Below.setCell ?_ (by first | exact Nat.le_refl _ | (simp;done) | (simp;omega)) _))),stab_ld _ _ _ _ h7 (by (repeat (first | exact Below.refl _ _ | assumption | refine balloc ?_ _ | refine below_drewN ?_ _ | refine bstep (by assumption) ?_ | refine bstep (Past.prop _) ?_ | refine Below.setCell ?_ (by first | exact Nat.le_refl _ | (simp;done) | (simp;omega)) _)))⟩⟩
    | 9, _ =>
     obtain rfl:=Option.some.inj ho
     intro u x hd
     have hc:=Past.cell x
     have h8:ld2R 22 (L.take h) (L.drop h) (u 8) x.1:=hd 8 (by decide) (by kernel_rfl)
     obtain ⟨p,v1,v2,e8,hB,h1,h2⟩:=h8
     simp[go_sem,gives,frm,Act.put,nthR,Region.wanted,e8]
     (with_reducible refine (HAD.out _ _ _ _ _ hB h1 h2).mono ?_);rintro e w3 ⟨sv,rfl,hv3,hb3⟩;exact ⟨_,rfl,hb3,⟨sv,rfl,hv3⟩⟩
    | 10, _ =>
     obtain rfl:=Option.some.inj ho
     intro u x hd
     have hc:=Past.cell x
     have h9:ldtR L (u 9) x.1:=hd 9 (by decide) (by kernel_rfl)
     obtain ⟨sv,e9,hs1⟩:=h9
     simp[go_sem,gives,frm,Act.put,nthR,Region.wanted,Below.refl,e9]
     exact ⟨sv,rfl,hs1⟩
    | 11, _ =>
     obtain rfl:=Option.some.inj ho
     intro u x hd
     have hc:=Past.cell x
     have h10:∃ sv,u 10 = .tuple #[sv,.int .i64 0]∧ldR L sv x.1:=hd 10 (by decide) (by kernel_rfl)
     have e10:=h10.choose_spec.1;have hs1:=h10.choose_spec.2;generalize h10.choose=sv at *
     simp[go_sem,gives,frm,Act.put,nthR,Region.wanted,Below.refl,e10]
     exact hs1
    | 12, _ =>
     obtain rfl:=Option.some.inj ho
     intro u x hd
     have hc:=Past.cell x
     have h10:∃ sv,u 10 = .tuple #[sv,.int .i64 0]∧ldR L sv x.1:=hd 10 (by decide) (by kernel_rfl)
     have e10:=h10.choose_spec.1;have hs1:=h10.choose_spec.2;generalize h10.choose=sv at *
     simp[go_sem,gives,frm,Act.put,nthR,detR,Region.wanted,Below.refl,e10]
    | i+13,h=>exact absurd h (by omega)
   ·intro i o hx ho
    simp only[List.mem_cons,List.not_mem_nil,or_false] at hx
    rcases hx with rfl
    ·obtain rfl:=Option.some.inj ho
     refine ⟨rfl,fun _ _ _ _ h=>h,fun u x hd => ?_⟩
     have h10:∃ sv,u 10 = .tuple #[sv,.int .i64 0]∧ldR L sv x.1:=hd 10 (by decide) (by kernel_rfl)
     have e10:=h10.choose_spec.1;have hs1:=h10.choose_spec.2;generalize h10.choose=sv at *
     refine ⟨rfl,.int .i64 0,rfl,fun w' => ?_⟩
     simp[go_sem,frm,Act.put,e10]
   ·intro u x9 hu hne
    have h11:ldR L (u 11) x9.1:=hu 11 (by decide)
    have e12:u 12 = .int .i64 0:=hu 12 (by decide)
    obtain ⟨vb,e11⟩:∃ vb,u 11=vb:=⟨_,rfl⟩
    rw[e11] at h11
    simp only[frm,List.take,Act.put,e11,e12]
    have HB9:=hidE x9.2
    have H11:=hidE h11
    obtain ⟨A,⟨aA,cA,eA,_⟩,_⟩:=id h11
    subst eA
    clear hu hne e12 e11 h11 HX1 HX2 HAD
    generalize x9.1=w9 at *
    go_wp2
    go_ret
    exact ⟨_,rfl,H11.out,HB9.out⟩
def SliF3 (w:World) (v:Value) (F:List Sg):Prop:=SliS w v F∧SrcV w 3 v F.length (cellsOfS F)
theorem SliF3.past {w w':World} {v:Value} {F:List Sg} (h:SliF3 w v F) (hb:Below w.heap.size w w'):SliF3 w' v F:=⟨h.1.past hb,srcV_below h.2 hb⟩
theorem cellsOfS_one:∀ l:List Sg,∀ v∈cellsOfS l,v.oneCell'=true
 | [],v,h=>by simp[cellsOfS] at h
 | s :: r, v, h => by
   simp only[cellsOfS,List.mem_cons] at h
   rcases h with rfl | rfl | rfl | h
   ·rfl
   ·rfl
   ·rfl
   ·exact cellsOfS_one r v h
theorem sliF3_own {w:World} {B:Nat} {e:TypeId} {v:Value} {F:List Sg} (h:w.ownsRow B e 3 v F.length (cellsOfS F)):SliF3 w v F:=⟨sliS_own h,own_src h (cellsOfS_one F)⟩
theorem cap_c {p m:Nat} {vc:Value} {C:List Sg} (w:World) (hB:Blk w p #[vc,.map (some m)] 106) (hC:SliF3 w vc C) (hl:C.length≤1000000000) :
  Calls Tryz.prog 32 #[.pointer (some ⟨p,0,none⟩)] w fun e w'=>∃ v,e = .returned v∧SliF3 w' v C∧Below w.heap.size w w':=by
 have HM:=hidE (made_c w hB)
 have HB:=hidE hB;have HC:=hidE hC
 obtain ⟨a,cp,rfl,_⟩:=hC.1
 clear hB hC
 go_enter Tryz.func32,Tryz.ntmps32
 go_wp2_with fail
 ((with_reducible refine (HM.out).mono ?_);rintro e w1 ⟨rfl,hb1⟩)
 have hB1:=HB.out.past hb1
 have b0:=hB1.cell 0;have bz:=hB1.lt
 simp at b0
 have HCP:=hidE (copiedSeg_c (HC.out.past hb1).2 (by omega))
 have HB1:=hidE hb1
 clear hB1 hb1 HM HB HC
 go_wp2_with fail
 ((with_reducible refine (HCP.out).mono ?_);rintro e w2 ⟨v,rfl,ho,hb2⟩)
 have HO:=hidE ho
 have HB2:=hidE (bstep hb2 HB1.out)
 clear ho hb2
 go_wp2
 go_ret
 exact ⟨v,rfl,sliF3_own HO.out,HB2.out⟩
theorem setcap_no {p m:Nat} {vc va:Value} {F:List Sg} (w:World) (hB:Blk w p #[vc,.map (some m)] 106) (hF:SliF3 w va F) (hl:F.length≤1000000000) (hp:posB F=false) :
  Calls Tryz.prog 16 #[.pointer (some ⟨p,0,none⟩),va] w fun e w'=>e = .returned (.int .i64 5)∧Below w.heap.size w w':=by
 have HM:=hidE (made_c w hB)
 have HF:=hidE hF
 obtain ⟨a,cp,rfl,_,_,hA⟩:=hF.1
 have HP:=hidE (fun w1 (hb:Below w.heap.size w w1)=>isPos_c F a cp w1 hl (hA.past hb))
 rw[hp] at HP
 clear hB hF hA hp
 go_enter Tryz.func16,Tryz.ntmps16
 go_wp2_with fail
 ((with_reducible refine (HM.out).mono ?_);rintro e w1 ⟨rfl,hb1⟩)
 go_wp2_with fail
 ((with_reducible refine (HP.out _ hb1).mono ?_);rintro e w2 ⟨rfl,hb2⟩)
 go_wp2
 go_ret
 exact ⟨rfl,by (repeat (first | exact Below.refl _ _ | assumption | refine balloc ?_ _ | refine below_drewN ?_ _ | refine bstep (by assumption) ?_ | refine bstep (Past.prop _) ?_ | refine Below.setCell ?_ (by first | exact Nat.le_refl _ | (simp;done) | (simp;omega)) _))⟩
set_option maxRecDepth 100000 in
theorem setcap_ok {p m:Nat} {vc va:Value} {F:List Sg} (w:World) (hB:Blk w p #[vc,.map (some m)] 106) (hF:SliF3 w va F) (hl:F.length≤1000000000) (hp:posB F=true) :
  Calls Tryz.prog 16 #[.pointer (some ⟨p,0,none⟩),va] w fun e w'=>e = .returned (.int .i64 0)∧w.grownBy w' (some p)∧∃ v,Blk w' p #[v,.map (some m)] 106∧SliF3 w' v F:=by
 have HM:=hidE (made_c w hB)
 have HF:=hidE hF;have HB:=hidE hB
 obtain ⟨a,cp,rfl,_,_,hA⟩:=hF.1
 have HP:=hidE (fun w1 (hb:Below w.heap.size w w1)=>isPos_c F a cp w1 hl (hA.past hb))
 rw[hp] at HP
 clear hB hF hA hp
 go_enter Tryz.func16,Tryz.ntmps16
 go_wp2_with fail
 ((with_reducible refine (HM.out).mono ?_);rintro e w1 ⟨rfl,hb1⟩)
 go_wp2_with fail
 ((with_reducible refine (HP.out _ hb1).mono ?_);rintro e w2 ⟨rfl,hb2⟩)
 have HB2:=hidE (bstep hb2 hb1)
 have HCP:=hidE (copiedSeg_c (HF.out.past HB2.out).2 (by omega))
 clear hb1 hb2 HM HP HF
 go_wp2_with fail
 ((with_reducible refine (HCP.out).mono ?_);rintro e w3 ⟨v,rfl,ho,hb3⟩)
 have HB3:=hidE (bstep hb3 HB2.out)
 have hB3:=HB.out.past HB3.out
 have hz:=(HB.out.past HB2.out).lt
 have HBB:=hidE hB3
 have b0:=hB3.cell 0;have bf:=hB3.free 0;have bz:=hB3.lt
 simp at b0
 obtain ⟨aV,cV,rfl⟩:=own_sli ho
 have HO:=hidE ho
 clear ho hb3 hB3 HB HCP
 go_wp2
 go_ret
 refine ⟨rfl,grown_trans (grown_any HB3.out) (grown_set _ _ _ _),_, ?_,sliF3_own (own_kept HO.out (fun k ek=>keptS (by have:=own_block HO.out ek;omega) _))⟩
 simpa using HBB.out.set 0 (.slice aV F.length cV)
structure PlanC (w:World) (m:Nat) (U:List Ent) (rows:List UInt8→List Rw) (fs:List UInt8→List (List Sg)):Prop where
 map:MapU w m U
 ok:RowsOk w U rows
 none:∀ s,(∀ p∈U,p.1≠s)→rows s=[]
 fns:∀ s,RwsA w (rows s) (fs s)
 pos:∀ s,∀ F∈fs s,posB F=true
 inR:∀ s,InR (fs s)
 few:∀ s,(rows s).length≤1000000
 short:∀ s,lenR (fs s)≤100000000
theorem PlanC.past {w w':World} {m:Nat} {U:List Ent} {rows:List UInt8→List Rw} {fs:List UInt8→List (List Sg)} (h:PlanC w m U rows fs) (hb:Below w.heap.size w w'):PlanC w' m U rows fs :=
 ⟨h.map.past hb,h.ok.past hb,h.none,fun s=>(h.fns s).past hb,h.pos,h.inR,h.few,h.short⟩
theorem look_rows {w:World} {m:Nat} {U:List Ent} {rows:List UInt8→List Rw} {fs:List UInt8→List (List Sg)} (h:PlanC w m U rows fs) (s:List UInt8):SliRw w (lookU U s (.slice none 0 0)) (rows s):=by
 unfold lookU
 cases hi:idxU U s with
 | none =>
  have:∀ p∈U,p.1≠s:=fun p hp e=>by
   unfold idxU at hi
   rw[List.findIdx?_eq_none_iff] at hi
   have:=hi p hp
   simp[e] at this
  rw[h.none s this]
  exact sliRw_nil w
 | some j =>
  unfold idxU at hi
  rw[List.findIdx?_eq_some_iff_getElem] at hi
  obtain ⟨hj,he,_⟩:=hi
  have e1:U[j].1=s:=by simpa using he
  have:=h.ok _ (List.getElem_mem hj)
  rw[e1] at this
  simpa [List.getD_eq_getElem?_getD,List.getElem?_eq_getElem hj] using this
theorem Tryz.zeroRows (w:World):(zeroValue 31).run Tryz.prog w = .ok (.slice none 0 0) w:=by kernel_rfl
theorem user_c {p m:Nat} {vc:Value} {U:List Ent} {rows:List UInt8→List Rw} {fs:List UInt8→List (List Sg)} (s:List UInt8) (w:World) (hB:Blk w p #[vc,.map (some m)] 106) (hP:PlanC w m U rows fs) (hs:s.length≤maxLen) :
  Calls Tryz.prog 33 #[.pointer (some ⟨p,0,none⟩),nmV s] w (LoadIs w (fs s)):=by
 have HM:=hidE (made_c w hB)
 have HB:=hidE hB;have HPC:=hidE hP
 clear hB hP
 go_enter Tryz.func33,Tryz.ntmps33
 go_wp2_with fail
 ((with_reducible refine (HM.out).mono ?_);rintro e w1 ⟨rfl,hb1⟩)
 have hB1:=HB.out.past hb1
 have b1:=hB1.cell 1;have bz:=hB1.lt
 simp at b1
 have hP1:=HPC.out.past hb1
 have hlk:=hP1.map.lookup (P:=Tryz.prog) (t:=102) (k:=9) (e:=31) Tryz.underlying9 Tryz.underlying102 (Tryz.zeroRows w1) hs
 have hsl:=look_rows hP1 s
 have HLD:=hidE (load_c (rows s).length (rows s) (fs s) _ w1 (Nat.le_refl _) hsl (hP1.fns s) (hP1.pos s) (hP1.inR s) (Nat.le_trans (hP1.short s) (by decide)) (hP1.few s))
 generalize lookU U s (.slice none 0 0)=vr at *
 have HB1:=hidE hb1
 clear hB1 hb1 HM HB HPC hP1 hsl hs
 go_wp2_with fail
 ((with_reducible refine (HLD.out).mono ?_);rintro e w2 ⟨v,rfl,hl,hb2⟩)
 have HL:=hidE hl
 have HB2:=hidE (bstep hb2 HB1.out)
 clear hl hb2
 go_wp2
 go_ret
 exact ⟨v,rfl,HL.out,HB2.out⟩
theorem Tryz.makeRows (w:World):(Instr.makeMap 102 none).run Tryz.prog w = .ok (.map (some w.heap.size)) (w.alloc (.map #[] 0)):=by kernel_rfl
def NewIs (w:World) (F:List Sg) (e:Ending) (w':World):Prop:=Below w.heap.size w w' ∧
 ((posB F=false∧e = .returned (.tuple #[.pointer none,.int .i64 5]))∨(posB F=true∧∃ p m v,e = .returned (.tuple #[.pointer (some ⟨p,0,none⟩),.int .i64 0])∧Blk w' p #[v,.map (some m)] 106∧SliF3 w' v F∧MapU w' m []∧w.heap.size≤p∧w.heap.size≤m))
set_option maxRecDepth 100000 in
theorem new_c {va:Value} {F:List Sg} (w:World) (hF:SliF3 w va F) (hl:F.length≤1000000000):Calls Tryz.prog 12 #[va] w (NewIs w F):=by
 obtain ⟨w0,hw0⟩:∃ w0,w0=(w.alloc (.map #[] 0)).alloc (Obj.cells #[.slice none 0 0,.map (some w.heap.size)] 106):=⟨_,rfl⟩
 have hB:Blk w0 (w.heap.size+1) #[.slice none 0 0,.map (some w.heap.size)] 106:=by rw[hw0];exact Blk.made_at _ _ _ _ (by simp)
 have hM:MapU w0 w.heap.size []:=by rw[hw0];exact (MapU.made w).alloc _
 have hb0:Below w.heap.size w w0:=by rw[hw0];(repeat (first | exact Below.refl _ _ | assumption | refine balloc ?_ _ | refine below_drewN ?_ _ | refine bstep (by assumption) ?_ | refine bstep (Past.prop _) ?_ | refine Below.setCell ?_ (by first | exact Nat.le_refl _ | (simp;done) | (simp;omega)) _))
 have hF0:=hF.past hb0
 cases hp:posB F
 ·have HC:=hidE (setcap_no w0 hB hF0 hl hp)
  have HB0:=hidE hb0;have HPO:=hidE hp
  obtain ⟨a,cp,rfl,_⟩:=hF.1
  clear hB hM hb0 hF0 hF hp
  have hmk:=Tryz.makeRows w
  go_enter Tryz.func12,Tryz.ntmps12
  go_upto_region 2 with fail
  rw[←hw0]
  clear hw0
  go_wp2_with fail
  ((with_reducible refine (HC.out).mono ?_);rintro e w1 ⟨rfl,hb1⟩)
  have HB1:=hidE (bstep hb1 HB0.out)
  clear hb1
  go_wp2
  go_ret2
  exact ⟨HB1.out,.inl ⟨HPO.out,rfl⟩⟩
 ·have HC:=hidE (setcap_ok w0 hB hF0 hl hp)
  have HB0:=hidE hb0;have HM:=hidE hM
  have HPO:=hidE hp
  have hz0:w0.heap.size=w.heap.size+1+1:=by rw[hw0];simp
  obtain ⟨a,cp,rfl,_⟩:=hF.1
  have HZ0:=hidE hz0
  clear hB hM hb0 hF0 hF hp hz0
  have hmk:=Tryz.makeRows w
  go_enter Tryz.func12,Tryz.ntmps12
  go_upto_region 2 with fail
  rw[←hw0]
  clear hw0
  go_wp2_with fail
  ((with_reducible refine (HC.out).mono ?_);rintro e w1 ⟨rfl,hg1,v,hB1,hv1⟩)
  have HB1:=hidE (Below.grown HB0.out hg1 HB0.out.size (fun k e=>by cases e;omega))
  have HM1:=hidE (HM.out.keep (hg1.block _ HM.out.lt (by simp)))
  have HBL:=hidE hB1;have HV:=hidE hv1
  clear hg1 hB1 hv1
  go_wp2
  go_ret2
  exact ⟨HB1.out,.inr ⟨HPO.out,_,_,v,rfl,HBL.out,HV.out,HM1.out,by omega,Nat.le_refl _⟩⟩
end
section
open Go.ChangeShapes Go.WideShapes Go.ChangeAt Go.RowKit
theorem wp_appW {P:Program} {o:Oper} {a:Act} {w:World} {K:Act→World→Prop} {Q:Exit→Act→World→Prop}
  (s x:Operand) (t:TypeId) (hop:o.op=Op.call { callee:=Callee.builtin Builtin.append,args:=#[s,x],argTypes:=#[t,t] })
  (base:Nat) (e:TypeId) (i:TypeInfo) (z:Value) (sz by':Nat) (ht:P.underlying t=some (.slice e)) (hi:P.info? e=some i) (hz:i.zero=some z) (hsize:i.size=sz) (hby:i.bytes=by') (hzs:z.cells.size=sz) (hs0:0<sz)
  (v:Value) (n:Nat) (xs:List Value) (hs:a.eval s=v) (hown:w.ownsRow base e sz v n xs)
  (vx:Value) (m:Nat) (ys:List Value) (hx:a.eval x=vx) (hsrc:SrcV w sz vx m ys)
  (h63:n+m≤100000000000) (hb':by'≤1000) (hbase:base≤w.heap.size)
  (h:∀ v' w',w'.ownsRow base e sz v' (n+m) (xs++ys)→w.grownBy w' v.ownBlock→K (a.put o.dst v') w'):Oper.wp P o a w K Q:=by
 obtain ⟨ad,cap,rfl,hn,hl,h1,hc⟩:=hsrc
 cases ad with
 | none =>
  obtain ⟨rfl,rfl⟩:=hn rfl
  have hy:ys=[]:=List.eq_nil_of_length_eq_zero (by omega)
  subst hy
  have hrun:=run_append_owned_none (P:=P) (w:=w) base t o.type e i sz ht hi v n xs hown
  have hK:=h v w (by simpa using hown) ⟨rfl,rfl,rfl,Nat.le_refl _,fun _ _ _=>rfl⟩
  unfold Oper.wp
  simp[execOp,hop,resolve,invoke,builtin,hs,hx,hrun,Result.andThen]
  exact hK
 | some ad =>
  have hbb:(n+m) * by'≤(n+m) * 1000:=Nat.mul_le_mul_left _ hb'
  exact wp_append_own w s x t hop base e i z sz by' ht hi hz hsize hby hzs hs0 v n xs hs hown ad m cap ys hx hl (hc ad rfl) h1 (by unfold maxLen;omega) (by omega) hbase fun v' w' h1 h2 _=>h v' w' h1 h2
theorem list_appW {P:Program} {ops:Array Oper} {rest:List Oper} {o:Oper} {a:Act} {w:World} {Q:Exit→Act→World→Prop} (hgd:o.guard=none) (s x:Operand) (t:TypeId)
  (ho:o.op = .call { callee := .builtin .append,args:=#[s,x],argTypes:=#[t,t] })
  (base:Nat) (e:TypeId) (i:TypeInfo) (z:Value) (sz by':Nat) (ht:P.underlying t=some (.slice e)) (hi:P.info? e=some i) (hz:i.zero=some z) (hsize:i.size=sz) (hby:i.bytes=by') (hzs:z.cells.size=sz) (hs0:0<sz)
  (v:Value) (n:Nat) (xs:List Value) (hs:a.eval s=v) (hown:w.ownsRow base e sz v n xs)
  (vx:Value) (m:Nat) (ys:List Value) (hx:a.eval x=vx) (hsrc:SrcV w sz vx m ys)
  (h63:n+m≤100000000000) (hb':by'≤1000) (hbase:base≤w.heap.size)
  (h:∀ v' w',w'.ownsRow base e sz v' (n+m) (xs++ys)→w.grownBy w' v.ownBlock→wpList P ops Q rest (a.put o.dst v') w'):wpList P ops Q (o :: rest) a w :=
 wpList_plain hgd fun _ hK=>wp_appW s x t ho base e i z sz by' ht hi hz hsize hby hzs hs0 v n xs hs hown vx m ys hx hsrc h63 hb' hbase fun v' w' h2 h3=>hK _ _ (h v' w' h2 h3)
end
section
open Go.ChangeShapes Go.WideShapes Go.ChangeAt Go.RowKit
attribute [local irreducible] Go.Calls
theorem Tryz.infoRsv:(Tryz.prog.info? 50).map (fun i=>(i.zero,i.size,i.bytes))=some (some (.agg #[.int .u32 0,.int .u32 0,.string ⟨#[]⟩,.int .i64 0,.int .i64 0,.slice none 0 0,.slice none 0 0,.slice none 0 0]),8,112):=by kernel_rfl
def ordW (x y:Rw):Prop:=x.seq<y.seq∨(x.seq=y.seq∧x.id≤y.id)
def SortC:Prop:=∀ (w:World) (B:Nat) (v:Value) (l:List Rw),w.ownsRow B 50 8 v l.length (cellsRw l)→(∀ x∈l,x.fit)→B≤w.heap.size→l.length≤100000000 →
 Calls Tryz.prog 94 #[v,.func (.func 95) #[] #[]] w fun e w'=>e = .returned (.tuple #[])∧Below B w w'∧∃ l',l'.Perm l∧l'.Pairwise ordW∧w'.ownsRow B 50 8 v l'.length (cellsRw l')
def allRw (rows:List UInt8→List Rw) (U:List Ent):List Rw:=U.flatMap fun p=>rows p.1
def ListIs (w:World) (U:List Ent) (rows:List UInt8→List Rw) (e:Ending) (w':World):Prop:=∃ v l,e = .returned v∧Below w.heap.size w w'∧l.Perm (allRw rows U)∧l.Pairwise ordW∧w'.ownsRow w.heap.size 50 8 v l.length (cellsRw l)
theorem all_app (rows:List UInt8→List Rw) (A B:List Ent):allRw rows (A++B)=allRw rows A++allRw rows B:=by unfold allRw;rw[List.flatMap_append]
theorem all_perm (rows:List UInt8→List Rw) {A B:List Ent} (h:A.Perm B):(allRw rows A).Perm (allRw rows B):=List.Perm.flatMap_right _ h
theorem RngU.all_le {w:World} {it m:Nat} {U done:List Ent} (h:RngU w it m U done) (rows:List UInt8→List Rw):(allRw rows done).length≤(allRw rows U).length:=by
 obtain ⟨C,hC⟩:=h.part
 have:=(all_perm rows hC).length_eq
 rw[all_app,List.length_append] at this
 omega
theorem RowsOk.fits {w:World} {U:List Ent} {rows:List UInt8→List Rw} (h:RowsOk w U rows):∀ x∈allRw rows U,x.fit:=fun x hx=>by
 unfold allRw at hx
 rw[List.mem_flatMap] at hx
 obtain ⟨p,hp,hx⟩:=hx
 obtain ⟨_,_,_,_,_,_,_,h5⟩:=h p hp
 exact h5 x hx
set_option maxRecDepth 100000 in
set_option maxHeartbeats 4000000 in
theorem list_c (hSort:SortC) {m:Nat} {U:List Ent} {rows:List UInt8→List Rw} (vc:Value) (w:World) (hU:MapU w m U) (hR:RowsOk w U rows) (hl:(allRw rows U).length≤100000000) :
  Calls Tryz.prog 54 #[ctV vc m] w (ListIs w U rows):=by
 obtain ⟨w0,hw0⟩:∃ w0,w0=w.alloc (Obj.cells #[vc,.map (some m)] 104):=⟨_,rfl⟩
 have B1:Blk w0 w.heap.size #[vc,.map (some m)] 104:=by rw[hw0];exact Blk.made _ _ _
 have hb0:Below w.heap.size w w0:=by rw[hw0];(repeat (first | exact Below.refl _ _ | assumption | refine balloc ?_ _ | refine below_drewN ?_ _ | refine bstep (by assumption) ?_ | refine bstep (Past.prop _) ?_ | refine Below.setCell ?_ (by first | exact Nat.le_refl _ | (simp;done) | (simp;omega)) _))
 have hU0:MapU w0 m U:=by rw[hw0];exact hU.alloc _
 have hz0:w0.heap.size=w.heap.size+1:=by rw[hw0];simp
 obtain ⟨ix,hix,hx0,hx1,hx2⟩:=info_parts Tryz.infoRsv
 have HI:=hidE hix;have HZ0:=hidE hx0;have HZ1:=hidE hx1;have HZ2:=hidE hx2
 have HMZ:=hidE hU.lt
 have HR:=hidE hR;have HU:=hidE hU0;have HL:=hidE hl;have HSO:=hidE hSort
 clear hU hR hU0 hl hix hx0 hx1 hx2 hSort
 go_enter Tryz.func54,Tryz.ntmps54
 go_upto_region 1 with fail
 rw[←hw0]
 clear hw0
 have b1:=B1.cell 1;have bz:=B1.lt
 simp at b1
 clear B1
 go_upto_region 2 with fail
 go_wp2_with (at_range;refine list_range_U rfl _ 102 9 31 rfl Tryz.underlying102 rfl HU.out ?_;intro w1 hr1 hg1 hz1)
 go_frame
 have hb1:Below w.heap.size w w1:=Below.grown hb0 hg1 hb0.size (fun k e=>by cases e)
 rw[hz0] at hr1 hz1
 rw[hz0]
 clear hb0 hg1 HU b1 bz hz0 w0
 go_loopw [3] (fun s wr=>∃ done,RngU wr (w.heap.size+1) m U done∧Below w.heap.size w wr∧wr.ownsRow (w.heap.size+2) 50 8 s (allRw rows done).length (cellsRw (allRw rows done))∧w.heap.size+2≤wr.heap.size) (fun _ wr=>U.length - seenN wr (w.heap.size+1))
 case atStart=>exact ⟨[],hr1,hb1,own_nil _ _ _,by omega⟩
 case round =>
  obtain ⟨done,hrg,hb,ho,hz⟩:=hrel
  obtain ⟨a1,c1,rfl⟩:=own_sli ho
  have HO:=hidE ho
  clear ho hr1 hb1 hz1
  go_wp2_with (at_next;refine list_next_U rfl _ rfl rfl hrg ?_ ?_)
  ·intro hp
   have hpm:=all_perm rows hp
   have HFIT:=hidE (fun x (hx:x∈allRw rows done)=>HR.out.fits x (hpm.mem_iff.1 hx))
   have HPM:=hidE hpm
   have hln:(allRw rows done).length≤100000000:=by rw[hpm.length_eq];exact HL.out
   have HC:=hidE (HSO.out wr (w.heap.size+2) _ _ HO.out HFIT.out hz hln)
   have HB:=hidE hb
   clear hp hpm hrg hb
   go_wp2_with fail
   ((with_reducible refine (HC.out).mono ?_);rintro e w3 ⟨rfl,hb3,l',hp3,hs3,ho3⟩)
   have HB3:=hidE (HB.out.trans (hb3.mono (by omega)))
   have HP3:=hidE (hp3.trans HPM.out);have HS3:=hidE hs3
   have HO3:=hidE (own_base ho3 (show w.heap.size≤w.heap.size+2 from by omega))
   have hle:=hp3.length_eq
   clear hb3 hp3 hs3 ho3
   go_wp2
   go_ret
   exact ⟨_,l',rfl,HB3.out,HP3.out,HS3.out,HO3.out⟩
  ·intro pk pv w2 hpU hlt hrg2 hg2 hz2 hen
   have hb2:Below w.heap.size w w2:=Below.grown hb hg2 hb.size (fun k e=>by cases e;omega)
   have hS:=HR.out.past hb2 (pk,pv) hpU
   have HSRC:=hidE hS.src
   obtain ⟨av,cv,ev,_⟩:=hS
   simp only at ev HSRC
   subst ev
   have hle:=hrg2.all_le rows
   have hal:allRw rows (done++[(pk,Value.slice av (rows pk).length cv)])=allRw rows done++rows pk:=by rw[all_app];simp[allRw]
   rw[hal,List.length_append] at hle
   have HAL:=hidE hal
   have HO2:=hidE (own_kept HO.out (fun k ek=>hg2.block k (own_lt HO.out ek) (fun e=>by cases e;have:=own_block HO.out ek;omega)))
   have hm1:=hrg.seen
   have hm2:=hrg2.seen
   rw[List.length_append,List.length_singleton] at hm2
   have HMS:=hidE (show U.length - seenN w2 (w.heap.size+1)<U.length - seenN wr (w.heap.size+1) from by rw[hm1,hm2];omega)
   have hz3:w.heap.size+2≤w2.heap.size:=by omega
   have HRG:=hidE hrg2;have HB2:=hidE hb2
   have hll:=HL.out
   have hn:(allRw rows done).length+(rows pk).length≤100000000:=by omega
   clear hg2 hb hrg hm1 hm2 hlt hle hal HO hpU hrg2 hb2
   go_wp2_with (at_builtin;go_loud (refine list_appW rfl (.tmp 13) (.tmp 14) 31 rfl (w.heap.size+2) 50 ix _ 8 112 Tryz.underlying31 HI.out HZ0.out HZ1.out HZ2.out rfl (by decide) (.slice a1 (allRw rows done).length c1) (allRw rows done).length (cellsRw (allRw rows done)) rfl HO2.out _ (rows pk).length (cellsRw (rows pk)) rfl HSRC.out (by omega) (by omega) hz3 ?_);intro v' w4 own' hg')
   have hb4:=Below.grown HB2.out hg' HB2.out.size (fun k e=>by have:=own_block HO2.out e;omega)
   have hr4:=HRG.out.keep (hg'.block m HRG.out.map.lt (fun e=>by have:=own_block HO2.out e.symm;have:=HMZ.out;omega)) (hg'.block (w.heap.size+1) HRG.out.lt (fun e=>by have:=own_block HO2.out e.symm;omega))
   have hsn:seenN w4 (w.heap.size+1)=seenN w2 (w.heap.size+1):=by rw[hr4.seen,HRG.out.seen]
   have hms:=HMS.out
   rw[←hsn] at hms
   have ho4:w4.ownsRow (w.heap.size+2) 50 8 v' (allRw rows (done++[(pk,Value.slice av (rows pk).length cv)])).length (cellsRw (allRw rows (done++[(pk,Value.slice av (rows pk).length cv)]))):=by rw[HAL.out,List.length_append,cellsRw_app];exact own'
   have HO4:=hidE ho4
   have hz5:=Nat.le_trans hz3 hg'.size
   have HMS4:=hidE hms
   obtain ⟨a5,c5,rfl⟩:=own_sli own'
   clear own' hg' ho4 HO2 HMS hms hsn HRG
   go_wp2
   exact ⟨⟨_,hr4,hb4,HO4.out,hz5⟩,HMS4.out⟩
end
section
open Go.ChangeShapes Go.WideShapes Go.ChangeAt Go.RowKit Go.Sort Go.Shelf
attribute [local irreducible] Go.Calls
theorem rowsF_of {l:List Rw} (h:∀ x∈l,x.fit):∃ d:Array FRw,rowsF d=l:=by
 refine ⟨(l.attach.map fun x=>(⟨x.1,h x.1 x.2⟩:FRw)).toArray, ?_⟩
 unfold rowsF
 simp[List.map_map,Function.comp_def]
theorem cmpLaysF (blk off size:Nat) (w:World):CmpLays Tryz.prog 95 #[] encF 8 cmpF blk off size w:=fun _ _ _ _ x y=>inOrderW_c x.1 y.1 _
theorem sort_some (w:World) (B g cap:Nat) (d:Array FRw) (h:w.ownsRow B 50 8 (.slice (some ⟨g,0,none⟩) d.size cap) d.size (cellsRw (rowsF d))) (hs:d.size≤100000000) :
  Calls Tryz.prog 94 #[.slice (some ⟨g,0,none⟩) d.size cap,.func (.func 95) #[] #[]] w fun e w'=>e = .returned (.tuple #[])∧∃ (d':Array FRw) (n:Nat) (os:Array Obj),PermIn 0 d.size d d'∧SortedIn (ltOf cmpF) 0 d.size d'∧w'=sortWorldK encF 8 w g 0 n d' os:=by
 have hg:g<w.heap.size:=own_lt h rfl
 have hH:HoldsK encF 8 w g 0 d:=fun j hj=>by
  rw[size_flatK] at hj
  rw[Nat.zero_add,h.cellAt j hj,flat_cells d hj]
  exact ⟨rfl,h.frozenAt j⟩
 exact AnyQ.slices_SortFunc Tryz.sortLays 8 Tryz.isAgg50 Tryz.sizeOf50 encF (fun _=>rfl) encF_one cmpF swoF 95 #[] g 0 cap d w (enters_of Tryz.func95 (by kernel_rfl) rfl) (cmpLaysF _ _ _ _) hH hg (by omega)
theorem sort_heap {w:World} {g n:Nat} {d':Array FRw} {os:Array Obj} {cur:Array Value} {e:TypeId} (h:w.heap[g]? = some (.cells cur e (0,0))) :
  (sortWorldK encF 8 w g 0 n d' os).heap[g]? = some (.cells (putCells id 0 (flatK encF 8 d') cur) e (0,0)):=by
 have hg:g<w.heap.size:=lt_of_block h
 show ((w.heap.modify g (onCells (putCells id 0 (flatK encF 8 d'))))++os)[g]? = _
 rw[Array.getElem?_append_left (by simpa using hg),Array.getElem?_modify,if_pos rfl,h]
 rfl
theorem sort_other {w:World} {g n k:Nat} {d':Array FRw} {os:Array Obj} (hk:k<w.heap.size) (hne:k≠g):(sortWorldK encF 8 w g 0 n d' os).heap[k]? = w.heap[k]? := by
 show ((w.heap.modify g (onCells (putCells id 0 (flatK encF 8 d'))))++os)[k]? = _
 rw[Array.getElem?_append_left (by simpa using hk),Array.getElem?_modify,if_neg (Ne.symm hne)]
theorem sort_size {w:World} {g n:Nat} {d':Array FRw} {os:Array Obj}:w.heap.size≤(sortWorldK encF 8 w g 0 n d' os).heap.size:=by
 show _≤((w.heap.modify g (onCells (putCells id 0 (flatK encF 8 d'))))++os).size
 simp
theorem sort_own {w:World} {B g cap n:Nat} {d d':Array FRw} {os:Array Obj} (h:w.ownsRow B 50 8 (.slice (some ⟨g,0,none⟩) d.size cap) d.size (cellsRw (rowsF d))) (hs:d'.size=d.size) :
  (sortWorldK encF 8 w g 0 n d' os).ownsRow B 50 8 (.slice (some ⟨g,0,none⟩) d.size cap) d.size (cellsRw (rowsF d')):=by
 obtain ⟨h1,h2 | ⟨g',cap',cur,h3,h4,h5,h6,h7,h8,h9⟩⟩:=h
 ·cases h2.1
 ·cases h3
  refine ⟨by rw[cellsRw_len,rowsF_len,hs],.inr ⟨g,cap,_,rfl,h4,sort_heap h5,h6,h7,by simp[putCells,h8], ?_⟩⟩
  apply List.ext_getElem?
  intro j
  have hcs:d.size * 8≤cur.size:=by rw[h8];exact Nat.mul_le_mul_right _ h6
  by_cases hj:j<d.size * 8
  ·rw[List.getElem?_take,if_pos hj,Array.getElem?_toList,flat_cells d' (by rw[hs];exact hj)]
   unfold putCells
   rw[Array.getElem?_mapIdx,Array.getElem?_eq_getElem (by omega),Option.map_some,if_pos ⟨Nat.zero_le _,by rw[size_flatK,hs];omega⟩]
   rfl
  ·rw[List.getElem?_eq_none (by simp;omega),List.getElem?_eq_none (by rw[cellsRw_len,rowsF_len,hs];omega)]
theorem sort_perm {d d':Array FRw} (h:PermIn 0 d.size d d'):(rowsF d').Perm (rowsF d):=by
 obtain ⟨h1,_,h3⟩:=h
 unfold rowsF
 have e1:(d.extract 0 d.size).toList=d.toList:=by simp
 have e2:(d'.extract 0 d.size).toList=d'.toList:=by rw[←h1];simp
 rw[e1,e2] at h3
 exact h3.map _
theorem sort_sorted {d d':Array FRw} (h1:d'.size=d.size) (h:SortedIn (ltOf cmpF) 0 d.size d'):(rowsF d').Pairwise ordW:=by
 rw[List.pairwise_iff_getElem]
 intro i j hi hj hij
 have hi':i<d'.size:=by rw[rowsF_len] at hi;exact hi
 have hj':j<d'.size:=by rw[rowsF_len] at hj;exact hj
 have:=h i j (Nat.zero_le _) hij (by omega)
 unfold ltOf cmpF at this
 rw[decide_eq_false_iff_not,cmpW_neg] at this
 have e1:=rowsF_get d' hi'
 have e2:=rowsF_get d' hj'
 rw[getD_get _ _ _ hi] at e1
 rw[getD_get _ _ _ hj] at e2
 rw[e1,e2]
 unfold ordW
 omega
theorem sortC_some (w:World) (B g cap:Nat) (l:List Rw) (h:w.ownsRow B 50 8 (.slice (some ⟨g,0,none⟩) l.length cap) l.length (cellsRw l)) (hf:∀ x∈l,x.fit) (hB:B≤w.heap.size) (hs:l.length≤100000000) :
  Calls Tryz.prog 94 #[.slice (some ⟨g,0,none⟩) l.length cap,.func (.func 95) #[] #[]] w fun e w'=>e = .returned (.tuple #[])∧Below B w w'∧∃ l',l'.Perm l∧l'.Pairwise ordW∧w'.ownsRow B 50 8 (.slice (some ⟨g,0,none⟩) l.length cap) l'.length (cellsRw l'):=by
 obtain ⟨d,rfl⟩:=rowsF_of hf
 rw[rowsF_len] at *
 refine (sort_some w B g cap d h hs).mono ?_
 rintro e w' ⟨rfl,d',n,os,hp,hso,rfl⟩
 have hBg:B≤g:=own_block h rfl
 refine ⟨rfl,⟨rfl,rfl,rfl,sort_size,fun k hk=>sort_other (by omega) (by omega)⟩,rowsF d',sort_perm hp,sort_sorted hp.1 hso, ?_⟩
 rw[rowsF_len,hp.1]
 exact sort_own h hp.1
theorem len_none (w:World):Calls Tryz.prog 123 #[.int .u64 0] w fun e w'=>e = .returned (.int .i64 0)∧w'=w:=by
 have h:=Any.bits_Len (SlLaysF0.n15.bits (P:=Tryz.prog) (ρ:=Tryz.sortRen) { Tryz.sortLays with }) 0 w (by omega) (by omega)
 exact h
theorem ins_none (f:Value) (w:World):Calls Tryz.prog 154 #[.slice none 0 0,.int .i64 0,.int .i64 0,f] w fun e w'=>e = .returned (.tuple #[])∧w'=w:=by
 go_enter Tryz.func154,Tryz.ntmps154
 go_wp2
 refine wp_loop_rounds 1 ?_
 rw[rounds_succ]
 go_wp2
 go_end0
 exact ⟨rfl,rfl⟩
theorem pdq_none (f:Value) (w:World):Calls Tryz.prog 122 #[.slice none 0 0,.int .i64 0,.int .i64 0,.int .i64 0,f] w fun e w'=>e = .returned (.tuple #[])∧w'=w:=by
 have HI:=hidE (fun w=>ins_none f w)
 go_enter Tryz.func122,Tryz.ntmps122
 go_wp2
 refine wp_loop_rounds 1 ?_
 rw[rounds_succ]
 go_wp2_with fail
 ((with_reducible refine (HI.out _).mono ?_);rintro e w1 ⟨rfl,rfl⟩)
 go_wp2
 refine bodyPost_ret (v := .tuple #[]) (by simp[results,Tryz.results122,go_sem]) rfl ⟨rfl,rfl⟩
theorem sort_none (f:Value) (w:World):Calls Tryz.prog 94 #[.slice none 0 0,f] w fun e w'=>e = .returned (.tuple #[])∧w'=w:=by
 have HL:=hidE (fun w=>len_none w);have HP:=hidE (fun w=>pdq_none f w)
 go_enter Tryz.func94,Tryz.ntmps94
 go_wp2_with fail
 ((with_reducible refine (HL.out _).mono ?_);rintro e w1 ⟨rfl,rfl⟩)
 go_wp2_with fail
 ((with_reducible refine (HP.out _).mono ?_);rintro e w1 ⟨rfl,rfl⟩)
 go_wp2
 go_end0
 exact ⟨rfl,rfl⟩
theorem sortC:SortC:=fun w B v l h hf hB hl=>by
 obtain ⟨h1,h2 | ⟨g,cap,cur,h3,h4⟩⟩:=id h
 ·obtain ⟨rfl,h0⟩:=h2
  have e:l=[]:=List.eq_nil_of_length_eq_zero h0
  subst e
  refine (sort_none _ w).mono ?_
  rintro e w' ⟨rfl,rfl⟩
  exact ⟨rfl,Below.refl _ _,[],List.Perm.refl _,List.Pairwise.nil,own_nil _ _ _⟩
 ·subst h3
  exact sortC_some w B g cap l h hf hB hl
end
section
open Go.ChangeShapes Go.WideShapes Go.ChangeAt Go.RowKit
attribute [local irreducible] Go.Calls
theorem rwsA_nil (w:World):RwsA w [] []:=⟨rfl,fun i hi=>by simp at hi⟩
theorem rwsA_cons {w:World} {x:Rw} {l:List Rw} {L:List (List Sg)}:RwsA w (x :: l) L↔∃ F M,L=F :: M∧RwA w x F∧RwsA w l M:=by
 constructor
 ·intro h
  cases L with
  | nil=>have:=h.1;simp at this
  | cons F M =>
   refine ⟨F,M,rfl,h.2 0 (by simp),by have:=h.1;simpa using this,fun i hi => ?_⟩
   have:=h.2 (i+1) (by simpa using hi)
   simpa using this
 ·rintro ⟨F,M,rfl,h1,h2⟩
  refine ⟨by simp[h2.1],fun i hi => ?_⟩
  cases i with
  | zero=>exact h1
  | succ i=>have:=h2.2 i (by simpa using hi);simpa using this
theorem rwsA_app {w:World} {A B:List Rw} {L M:List (List Sg)} (h1:RwsA w A L) (h2:RwsA w B M):RwsA w (A++B) (L++M):=by
 induction A generalizing L with
 | nil =>
  have:L=[]:=List.eq_nil_of_length_eq_zero h1.1
  subst this
  exact h2
 | cons x A ih =>
  obtain ⟨F,N,rfl,h3,h4⟩:=rwsA_cons.1 h1
  exact rwsA_cons.2 ⟨F,N++M,rfl,h3,ih h4⟩
theorem rwsA_perm {w:World} {l l':List Rw} (h:l.Perm l'):∀ L,RwsA w l L→∃ L',L'.Perm L∧RwsA w l' L':=by
 induction h with
 | nil=>exact fun L hL=>⟨L,List.Perm.refl _,hL⟩
 | cons x _ ih =>
  intro L hL
  obtain ⟨F,M,rfl,h1,h2⟩:=rwsA_cons.1 hL
  obtain ⟨M',hp,hM⟩:=ih M h2
  exact ⟨F :: M',hp.cons F,rwsA_cons.2 ⟨F,M',rfl,h1,hM⟩⟩
 | swap x y l =>
  intro L hL
  obtain ⟨F,M,rfl,h1,h2⟩:=rwsA_cons.1 hL
  obtain ⟨G,N,rfl,h3,h4⟩:=rwsA_cons.1 h2
  exact ⟨G :: F :: N,List.Perm.swap _ _ _,rwsA_cons.2 ⟨G,F :: N,rfl,h3,rwsA_cons.2 ⟨F,N,rfl,h1,h4⟩⟩⟩
 | trans _ _ ih1 ih2 =>
  intro L hL
  obtain ⟨M,hp,hM⟩:=ih1 L hL
  obtain ⟨N,hq,hN⟩:=ih2 M hM
  exact ⟨N,hq.trans hp,hN⟩
def allFs (fs:List UInt8→List (List Sg)) (U:List Ent):List (List Sg):=U.flatMap fun p=>fs p.1
theorem rwsA_all {w:World} {rows:List UInt8→List Rw} {fs:List UInt8→List (List Sg)} (h:∀ s,RwsA w (rows s) (fs s)):∀ U:List Ent,RwsA w (allRw rows U) (allFs fs U)
 | []=>rwsA_nil w
 | p :: U => by
   unfold allRw allFs
   rw[List.flatMap_cons,List.flatMap_cons]
   exact rwsA_app (h p.1) (rwsA_all h U)
theorem sA_perm {L M:List (List Sg)} (h:L.Perm M) (t:Int):sA L t=sA M t∧sB L t=sB M t:=by
 induction h with
 | nil=>exact ⟨rfl,rfl⟩
 | cons x _ ih=>unfold sA sB at *;simp only[List.map_cons,List.sum_cons];omega
 | swap x y l=>unfold sA sB;simp only[List.map_cons,List.sum_cons];omega
 | trans _ _ h1 h2=>exact ⟨h1.1.trans h2.1,h1.2.trans h2.2⟩
theorem lenR_perm {L M:List (List Sg)} (h:L.Perm M):lenR L=lenR M:=by
 induction h with
 | nil=>rfl
 | cons x _ ih=>unfold lenR at *;simp only[List.map_cons,List.sum_cons];omega
 | swap x y l=>unfold lenR;simp only[List.map_cons,List.sum_cons];omega
 | trans _ _ h1 h2=>exact h1.trans h2
theorem loads_perm {L M:List (List Sg)} {A:List Sg} (h:L.Perm M) (hA:Loads L A):Loads M A:=⟨hA.1,fun t=>by rw[hA.2.1 t,(sA_perm h t).1,(sA_perm h t).2],by rw[←lenR_perm h];exact hA.2.2⟩
theorem ldR_perm {L M:List (List Sg)} (h:L.Perm M) {v:Value} {w:World} (hv:ldR L v w):ldR M v w:=by
 obtain ⟨A,h1,h2⟩:=hv
 exact ⟨A,h1,loads_perm h h2⟩
theorem planLoad_c {p m:Nat} {vc:Value} {U:List Ent} {rows:List UInt8→List Rw} {fs:List UInt8→List (List Sg)} (w:World) (hB:Blk w p #[vc,.map (some m)] 106) (hP:PlanC w m U rows fs) (hA:InR (allFs fs U)) (hl:(allRw rows U).length≤1000000) (hr:lenR (allFs fs U)≤999999990) :
  Calls Tryz.prog 31 #[.pointer (some ⟨p,0,none⟩)] w (LoadIs w (allFs fs U)):=by
 have HM:=hidE (made_c w hB)
 have HB:=hidE hB;have HPC:=hidE hP;have HA:=hidE hA
 clear hB hP hA
 go_enter Tryz.func31,Tryz.ntmps31
 go_wp2_with fail
 ((with_reducible refine (HM.out).mono ?_);rintro e w1 ⟨rfl,hb1⟩)
 have hB1:=HB.out.past hb1
 have b0:=hB1.cell 0;have b1:=hB1.cell 1;have bz:=hB1.lt
 simp at b0 b1
 have hP1:=HPC.out.past hb1
 have HLI:=hidE (list_c sortC vc w1 hP1.map hP1.ok (by omega))
 have HB1:=hidE hb1;have HP1:=hidE hP1
 clear hB1 hb1 HM HB HPC hP1
 go_wp2_with fail
 ((with_reducible refine (HLI.out).mono ?_);rintro e w2 ⟨vl,l,rfl,hb2,hpm,hso,how⟩)
 have hP2:=HP1.out.past hb2
 obtain ⟨L,hLp,hLR⟩:=rwsA_perm hpm.symm _ (rwsA_all hP2.fns U)
 have hpos:∀ F∈L,posB F=true:=fun F hF=>by
  have:=hLp.mem_iff.1 hF
  unfold allFs at this
  rw[List.mem_flatMap] at this
  obtain ⟨q,_,hq⟩:=this
  exact hP2.pos _ F hq
 have hin:InR L:=fun t=>by rw[(sA_perm hLp t).1,(sA_perm hLp t).2];exact HA.out t
 have hfit:∀ x∈l,x.fit:=fun x hx=>hP2.ok.fits x (hpm.mem_iff.1 hx)
 have HLD:=hidE (load_c l.length l L vl w2 (Nat.le_refl _) (sliRw_own how hfit) hLR hpos hin (by rw[lenR_perm hLp];exact hr) (by rw[hpm.length_eq];exact hl))
 have HLP:=hidE hLp
 have HB2:=hidE (bstep hb2 HB1.out)
 clear hb2 hpm hso how hP2 hLp hLR hpos hin hfit HLI HP1 HA
 go_wp2_with fail
 ((with_reducible refine (HLD.out).mono ?_);rintro e w3 ⟨v,rfl,hv,hb3⟩)
 have HV:=hidE hv
 have HB3:=hidE (bstep hb3 HB2.out)
 clear hv hb3
 go_wp2
 go_ret
 exact ⟨v,rfl,ldR_perm HLP.out HV.out,HB3.out⟩
def VCells (w:World) (b off:Nat) (l:List (Int × Int)):Prop :=
 ∀ i,i<l.length→w.cell? ⟨b,off+i * 2,none⟩=some (.int .i64 (l.getD i (0,0)).1)∧w.cell? ⟨b,off+i * 2+1,none⟩=some (.int .i64 (l.getD i (0,0)).2)
def ArgVs (w:World) (a:Option Addr) (l:List (Int × Int)):Prop:=0<l.length→∃ b off,a=some ⟨b,off,none⟩∧b<w.heap.size∧VCells w b off l
theorem VCells.below {w w':World} {b off B:Nat} {l:List (Int × Int)} (h:VCells w b off l) (hb:Below B w w') (hB:b<B):VCells w' b off l:=fun i hi=>by
 obtain ⟨h1,h2⟩:=h i hi
 exact ⟨(hb.cell (p:=⟨b,_,none⟩) hB).trans h1,(hb.cell (p:=⟨b,_,none⟩) hB).trans h2⟩
theorem ArgVs.past {w w':World} {a:Option Addr} {l:List (Int × Int)} (h:ArgVs w a l) (hb:Below w.heap.size w w'):ArgVs w' a l:=fun hl=>by
 obtain ⟨b,off,e,h1,h2⟩:=h hl
 exact ⟨b,off,e,Nat.lt_of_lt_of_le h1 hb.size,h2.below hb h1⟩
def SliVs (w:World) (v:Value) (l:List (Int × Int)):Prop:=∃ (a:Option Addr) (cap:Nat),v = .slice a l.length cap∧l.length≤cap∧cap≤9223372036854775807∧ArgVs w a l
theorem SliVs.past {w w':World} {v:Value} {l:List (Int × Int)} (h:SliVs w v l) (hb:Below w.heap.size w w'):SliVs w' v l:=by
 obtain ⟨a,cap,h1,h2,h3,h4⟩:=h
 exact ⟨a,cap,h1,h2,h3,h4.past hb⟩
def cellsOfV:List (Int × Int)→List Value
 | []=>[]
 | s :: r => .int .i64 s.1 :: .int .i64 s.2 :: cellsOfV r
theorem cellsOfV_len:∀ l,(cellsOfV l).length=l.length * 2
 | []=>rfl
 | s :: r=>by simp only[cellsOfV,List.length_cons,cellsOfV_len r];omega
theorem cellsOfV_get:∀ (l:List (Int × Int)) (i:Nat),i<l.length→(cellsOfV l)[i * 2]? = some (.int .i64 (l.getD i (0,0)).1)∧(cellsOfV l)[i * 2+1]? = some (.int .i64 (l.getD i (0,0)).2)
 | [],i,h=>by simp at h
 | s :: l,0,_=>⟨rfl,rfl⟩
 | s :: l, i + 1, h => by
   obtain ⟨h1,h2⟩:=cellsOfV_get l i (by simp at h;omega)
   have e:∀ j,(cellsOfV (s :: l))[(i+1) * 2+j]? = (cellsOfV l)[i * 2+j]? := fun j=>by
    simp only[cellsOfV]
    rw[show (i+1) * 2+j=i * 2+j+1+1 by omega]
    simp only[List.getElem?_cons_succ]
   exact ⟨(e 0).trans h1,(e 1).trans h2⟩
theorem sliVs_own {w:World} {base:Nat} {e:TypeId} {v:Value} {l:List (Int × Int)} (h:w.ownsRow base e 2 v l.length (cellsOfV l)):SliVs w v l:=by
 obtain ⟨h1,h2 | ⟨g,cap,cur,rfl,h3,h4,h5,h6,h7,h8⟩⟩:=h
 ·obtain ⟨rfl,h2⟩:=h2
  have:l=[]:=List.eq_nil_of_length_eq_zero h2
  subst this
  exact ⟨none,0,rfl,Nat.le_refl _,by omega,fun h=>by simp at h⟩
 ·refine ⟨some ⟨g,0,none⟩,cap,rfl,h5,by unfold maxLen at h6;omega,fun _=>⟨g,0,rfl,lt_of_block h4,fun i hi => ?_⟩⟩
  have hg:=cellsOfV_get l i hi
  have hc:∀ j x,j<l.length * 2→(cellsOfV l)[j]? = some x→w.cell? ⟨g,j,none⟩=some x:=fun j x hj hx=>by
   have e:w.cell? ⟨g,j,none⟩=cur[j]? := by simp[World.cell?,h4]
   rw[e,←Array.getElem?_toList]
   rw[←h8,List.getElem?_take,if_pos hj] at hx
   exact hx
  simp only[Nat.zero_add]
  exact ⟨hc _ _ (by omega) hg.1,hc _ _ (by omega) hg.2⟩
end
end Go.Proofs.YtcmponckjkalaaaGreat
