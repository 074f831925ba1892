/- The contracts of the operations that calc combines by: plus, vec.Sub, and vec.Min and vec.Max behind always. No conditions. A row of integers of a call's own, and what its exchanges come to. No conditions. slices.swapRangeCmpFunc over a row of integers of the call's own. No conditions but the row's size. slices.rotateCmpFunc over a row of integers of the call's own. No .. -/
import Derived.Test.YtcmponckjkalaaaGreatPUGB
import Derived.Test.YtcmponckjkalaaaGreatPUMB
import Derived.Test.YtcmponckjkalaaaGreatPUGA
import Derived.Test.YtcmponckjkalaaaGreatPUMA
import Derived.Test.YtcmponckjkalaaaGreatRows
import Derived.LoopTactic
import Derived.BigRegion
import Derived.Outline
import Derived.Deep.LoopGhost
namespace Go.Proofs.YtcmponckjkalaaaGreat
section
open Go.ChangeShapes Go.WideShapes Go.ChangeAt Go.RowKit
attribute [local irreducible] Go.Calls
theorem addL_two (a b c d:Int):addL [(a,b),(c,d)]=addS a b c d:=by
 unfold addL addFrom addFrom addFrom
 simp only
 cases h1:okV a b
 ·have e1:addS 0 0 a b=(0,0,10):=by unfold addS;rw[h1];simp[gate]
  have e2:addS a b c d=(0,0,10):=by unfold addS;rw[h1];simp[gate]
  rw[e1,e2];simp
 ·have e0:okV 0 0=true:=by decide
  have e1:addS 0 0 a b=(a,b,0):=by unfold addS;rw[h1,e0];simp[gate,h1]
  rw[e1]
  simp only[if_true]
  by_cases h:(addS a b c d).2.2=0
  ·rw[if_pos h];exact Prod.ext rfl (Prod.ext rfl h.symm)
  ·rw[if_neg h]
   unfold addS gate at h ⊢
   split
   ·rename_i hh;rw[if_pos hh] at h;exact absurd rfl h
   ·rfl
theorem plus_c (a b c d:Int) (w:World):Calls Tryz.prog 120 #[V a b,V c d] w fun e w'=>e = .returned (VE (opV 0 (a,b) (c,d)))∧Below w.heap.size w w':=by
 rw[opV_0,←addL_two]
 generalize hg:addL [(a,b),(c,d)]=g
 have Hg:=hidE hg;clear hg
 have HK:=hidE (fun w b' hb hc=>show Calls Tryz.prog 151 #[.slice (some ⟨b',0,none⟩) 2 2] w _ from add_some [(a,b),(c,d)] b' 0 2 w hb (by simp) hc)
 go_enter Tryz.func120,Tryz.ntmps120
 go_wp2_with fail
 have B3:Blk ((((w.alloc (Obj.cells #[Value.int IntKind.i64 a,Value.int IntKind.i64 b] 60)).alloc (Obj.cells #[Value.int IntKind.i64 c,Value.int IntKind.i64 d] 60)).alloc (Obj.cells #[Value.int IntKind.i64 0,Value.int IntKind.i64 0] 60)).alloc (Obj.cells #[Value.int IntKind.i64 a,Value.int IntKind.i64 b,Value.int IntKind.i64 c,Value.int IntKind.i64 d] 60)) (w.heap.size+1+1+1) #[.int .i64 a,.int .i64 b,.int .i64 c,.int .i64 d] 60:=Blk.made_at _ _ _ _ (by simp)
 have B2:Blk ((((w.alloc (Obj.cells #[Value.int IntKind.i64 a,Value.int IntKind.i64 b] 60)).alloc (Obj.cells #[Value.int IntKind.i64 c,Value.int IntKind.i64 d] 60)).alloc (Obj.cells #[Value.int IntKind.i64 0,Value.int IntKind.i64 0] 60)).alloc (Obj.cells #[Value.int IntKind.i64 a,Value.int IntKind.i64 b,Value.int IntKind.i64 c,Value.int IntKind.i64 d] 60)) (w.heap.size+1+1) #[.int .i64 0,.int .i64 0] 60:=(Blk.made_at _ _ _ _ (by simp)).alloc _
 have hcv:CellsV ((((w.alloc (Obj.cells #[Value.int IntKind.i64 a,Value.int IntKind.i64 b] 60)).alloc (Obj.cells #[Value.int IntKind.i64 c,Value.int IntKind.i64 d] 60)).alloc (Obj.cells #[Value.int IntKind.i64 0,Value.int IntKind.i64 0] 60)).alloc (Obj.cells #[Value.int IntKind.i64 a,Value.int IntKind.i64 b,Value.int IntKind.i64 c,Value.int IntKind.i64 d] 60)) (w.heap.size+1+1+1) 0 [(a,b),(c,d)]:=by
  intro i hi
  simp only[List.length_cons,List.length_nil] at hi
  match i,hi with
  | 0,_=>exact ⟨B3.cell 0,B3.cell 1⟩
  | 1,_=>exact ⟨B3.cell 2,B3.cell 3⟩
 ((with_reducible refine (HK.out _ _ B3.lt hcv).mono ?_);rintro e w1 ⟨rfl,hb⟩)
 rw[Hg.out]
 have B2':=B2.past hb
 have hB:Below w.heap.size w w1:=by (repeat (first | exact Below.refl _ _ | assumption | refine balloc ?_ _ | refine below_drewN ?_ _ | refine bstep (by assumption) ?_ | refine bstep (Past.prop _) ?_ | refine Below.setCell ?_ (by first | exact Nat.le_refl _ | (simp;done) | (simp;omega)) _))
 have p0:=B2'.cell 0;have p1:=B2'.cell 1;have pf:=B2'.free;have pz:=B2'.lt
 simp at p0 p1
 clear hb B3 B2
 go_wp2
 refine bodyPost_ret (v:=VE g) (by simp[results,Tryz.results120,go_sem, *]) rfl ⟨rfl, ?_⟩
 (repeat (first | exact Below.refl _ _ | assumption | refine balloc ?_ _ | refine below_drewN ?_ _ | refine bstep (by assumption) ?_ | refine bstep (Past.prop _) ?_ | refine Below.setCell ?_ (by first | exact Nat.le_refl _ | (simp;done) | (simp;omega)) _))
end
section
open Go.ChangeShapes Go.WideShapes Go.ChangeAt Go.RowKit
def rowC (n:Nat) (d:Nat→Nat):Array Value:=((List.range n).map fun i=>Value.int .i64 (d i)).toArray
theorem rowC_get {n:Nat} {d:Nat→Nat} {i:Nat} (h:i<n):(rowC n d)[i]? = some (.int .i64 (d i)):=by
 simp[rowC,List.getElem?_range h]
theorem rowC_size (n:Nat) (d:Nat→Nat):(rowC n d).size=n:=by simp[rowC]
theorem rowC_ext {n:Nat} {d d':Nat→Nat} (h:∀ i,i<n→d i=d' i):rowC n d=rowC n d':=by
 unfold rowC
 congr 1
 exact List.map_congr_left fun i hi=>by rw[h i (by simpa using hi)]
theorem rowC_set {n:Nat} {d:Nat→Nat} {i:Nat} (v:Nat):(rowC n d).setIfInBounds i (.int .i64 v)=rowC n (fun k=>if k=i then v else d k):=by
 apply Array.ext_getElem?
 intro k
 rw[Array.getElem?_setIfInBounds,rowC_size]
 by_cases c:i=k
 ·subst c
  rw[if_pos rfl]
  by_cases h:i<n
  ·rw[if_pos h,rowC_get h,if_pos rfl]
  ·rw[if_neg h,Array.getElem?_eq_none (by rw[rowC_size];omega)]
 ·rw[if_neg c]
  by_cases h:k<n
  ·rw[rowC_get h,rowC_get h,if_neg (by omega)]
  ·rw[Array.getElem?_eq_none (by rw[rowC_size];omega),Array.getElem?_eq_none (by rw[rowC_size];omega)]
theorem rowC_swap {n:Nat} {d:Nat→Nat} {i j:Nat}:((rowC n d).setIfInBounds i (.int .i64 (d j))).setIfInBounds j (.int .i64 (d i))=rowC n (sw d i j):=by
 rw[rowC_set,rowC_set]
 refine rowC_ext fun k _ => ?_
 unfold sw
 by_cases c1:k=j
 ·by_cases c2:k=i
  ·rw[if_pos c1,if_pos c2,←c1,←c2]
  ·rw[if_pos c1,if_neg c2,if_pos c1]
 ·rw[if_neg c1,if_neg c1]
structure RowW (w0:World) (blk n:Nat) (t:TypeId) (d:Nat→Nat) (w:World):Prop where
 here:Blk w blk (rowC n d) t
 low:Below blk w0 w
variable {w0 w w':World} {blk n:Nat} {t:TypeId} {d:Nat→Nat}
theorem RowW.lt (h:RowW w0 blk n t d w):blk<w.heap.size:=h.here.lt
theorem RowW.cell (h:RowW w0 blk n t d w) {i:Nat} (hi:i<n):w.cell? ⟨blk,i,none⟩=some (.int .i64 (d i)):=(h.here.cell i).trans (rowC_get hi)
theorem RowW.free (h:RowW w0 blk n t d w) (i:Nat):w.frozen? ⟨blk,i,none⟩=false:=h.here.free i
theorem RowW.past (h:RowW w0 blk n t d w) (hb:Below w.heap.size w w'):RowW w0 blk n t d w':=⟨h.here.past hb,h.low.trans (hb.mono (Nat.le_of_lt h.lt))⟩
theorem RowW.set (h:RowW w0 blk n t d w) (i v:Nat):RowW w0 blk n t (fun k=>if k=i then v else d k) (w.setCell ⟨blk,i,none⟩ (.int .i64 v)) :=
 ⟨by rw[←rowC_set];exact h.here.set i _,h.low.setCell (Nat.le_refl _) _⟩
theorem RowW.swap (h:RowW w0 blk n t d w) (i j:Nat):RowW w0 blk n t (sw d i j) ((w.setCell ⟨blk,i,none⟩ (.int .i64 (d j))).setCell ⟨blk,j,none⟩ (.int .i64 (d i))) :=
 ⟨by rw[←rowC_swap];exact (h.here.set i _).set j _,(h.low.setCell (Nat.le_refl _) _).setCell (Nat.le_refl _) _⟩
theorem RowW.drew (h:RowW w0 blk n t d w):RowW w0 blk n t d w.drew:=⟨h.here.drew 1,h.low.drew⟩
theorem RowW.ext (h:RowW w0 blk n t d w) {d':Nat→Nat} (e:d=d'):RowW w0 blk n t d' w:=e ▸ h
theorem RowW.c2 (h:RowW w0 blk n t d w) (i j:Nat) (hj:j<n) (v:Nat):(w.setCell ⟨blk,i,none⟩ (.int .i64 v)).cell? ⟨blk,j,none⟩=some (.int .i64 ((if j=i then v else d j:Nat))) :=
 (h.set i v).cell hj
end
section
open Go.ChangeShapes Go.WideShapes Go.ChangeAt Go.RowKit
attribute [local irreducible] Go.Calls
set_option maxHeartbeats 1000000 in
theorem swapRange_c (w0 w:World) (blk n cap a b m:Nat) (t:TypeId) (d:Nat→Nat) (fv:Value) (h:RowW w0 blk n t d w) (hab:a+m≤b) (hb:b+m≤n) (hn:n≤4611686018427387904) :
  Calls Tryz.prog 235 #[.slice (some ⟨blk,0,none⟩) n cap,.int .i64 a,.int .i64 b,.int .i64 m,fv] w fun e w'=>e = .returned (.tuple #[])∧RowW w0 blk n t (swr d a b m) w':=by
 have H:=hidE h;clear h
 go_enter Tryz.func235,Tryz.ntmps235
 go_wp2
 go_loopw [10] (fun i wr=>∃ k:Nat,k≤m∧i = .int .i64 k∧RowW w0 blk n t (swr d a b k) wr) (fun i _=>m - (intOf i).toNat)
 case atStart=>exact ⟨0,Nat.zero_le _,rfl,H.out.ext (swr_zero _ _ _).symm⟩
 case round =>
  obtain ⟨k,hk,rfl,hr⟩:=hrel
  by_cases hlt:k<m
  ·have c1:=hr.cell (i:=a+k) (by omega)
   have c2:=hr.cell (i:=b+k) (by omega)
   have c3:=hr.c2 (a+k) (b+k) (by omega) (swr d a b k (b+k))
   have f1:=hr.free (a+k)
   have f2:=hr.free (b+k)
   have hS:=hidE ((hr.swap (a+k) (b+k)).drew.ext (swr_step d a b k (by omega)))
   rw[if_neg (by omega)] at c3
   clear hr
   generalize swr d a b k (b+k)=y at *
   generalize swr d a b k (a+k)=x at *
   go_wp2
   go_region
   go_wp2
   go_roundw
   case rel=>exact ⟨k+1,by omega,by go_num,hS.out⟩
   case measure=>simp[intOf];omega
  ·go_wp2
   have:k=m:=by omega
   subst this
   go_end0
   exact ⟨rfl,hr⟩
theorem swapRange_eq {w0 w:World} {blk n cap a b m:Nat} {x y z:Int} {t:TypeId} {d d':Nat→Nat} {fv:Value} (h:RowW w0 blk n t d w) (hx:x=a) (hy:y=b) (hz:z=m) (hab:a+m≤b) (hb:b+m≤n) (hn:n≤4611686018427387904) (hd:swr d a b m=d') :
  Calls Tryz.prog 235 #[.slice (some ⟨blk,0,none⟩) n cap,.int .i64 x,.int .i64 y,.int .i64 z,fv] w fun e w'=>e = .returned (.tuple #[])∧RowW w0 blk n t d' w':=by
 subst hx;subst hy;subst hz;subst hd
 exact swapRange_c w0 w blk n cap a b m t d fv h hab hb hn
set_option maxHeartbeats 1000000 in
theorem rotate_c (w0 w:World) (blk n cap a m b:Nat) (t:TypeId) (d:Nat→Nat) (fv:Value) (h:RowW w0 blk n t d w) (ham:a<m) (hmb:m<b) (hb:b≤n) (hn:n≤4611686018427387904) :
  Calls Tryz.prog 234 #[.slice (some ⟨blk,0,none⟩) n cap,.int .i64 a,.int .i64 m,.int .i64 b,fv] w fun e w'=>e = .returned (.tuple #[])∧RowW w0 blk n t (rot d a m b) w':=by
 have H:=hidE h;clear h
 go_enter Tryz.func234,Tryz.ntmps234
 go_wp2
 go_loopw [10,11] (fun vi vj wr=>∃ (i j:Nat) (dk:Nat→Nat),vi = .int .i64 i∧vj = .int .i64 j∧0<i∧i≤m∧0<j∧m+j≤n∧rot dk (m - i) m (m+j)=rot d a m b∧RowW w0 blk n t dk wr) (fun vi vj _=>(intOf vi).toNat+(intOf vj).toNat)
 case atStart=>exact ⟨m - a,b - m,d,by go_num,by go_num,by omega,by omega,by omega,by omega,by rw[show m - (m - a)=a by omega,show m+(b - m)=b by omega],H.out⟩
 case round =>
  obtain ⟨i,j,dk,rfl,rfl,hi0,him,hj0,hjn,hrot,hr⟩:=hrel
  have HR:=hidE hrot;have HW:=hidE hr
  clear hrot hr
  rcases Nat.lt_trichotomy i j with c | c | c
  ·have e1:((i:Int) == (j:Int))=false:=beq_eq_false_iff_ne.2 (by omega)
   have e2:((i:Int) != (j:Int))=true:=bne_iff_ne.2 (by omega)
   have e3:¬ (j:Int)<(i:Int):=by omega
   go_wp2_with (go_at_call 235;((with_reducible refine (swapRange_eq (a:=m - i) (b:=m+j - i) (m:=i) HW.out (by omega) (by omega) rfl (by omega) (by omega) hn rfl).mono ?_);rintro e w' ⟨rfl,hr2⟩))
   go_roundw
   case rel=>exact ⟨i,j - i,_,rfl,by go_num,hi0,him,by omega,by omega,(rot_lt dk m i j him c).trans HR.out,hr2⟩
   case measure=>simp[intOf];omega
  ·subst c
   go_wp2_with (go_at_call 235;((with_reducible refine (swapRange_eq (a:=m - i) (b:=m) (m:=i) HW.out (by omega) rfl rfl (by omega) (by omega) hn rfl).mono ?_);rintro e w' ⟨rfl,hr2⟩))
   go_end0
   exact ⟨rfl,hr2.ext ((rot_eq dk m i him).trans HR.out)⟩
  ·have e1:((i:Int) == (j:Int))=false:=beq_eq_false_iff_ne.2 (by omega)
   have e2:((i:Int) != (j:Int))=true:=bne_iff_ne.2 (by omega)
   have e3:(j:Int)<(i:Int):=by omega
   go_wp2_with (go_at_call 235;((with_reducible refine (swapRange_eq (a:=m - i) (b:=m) (m:=j) HW.out (by omega) rfl rfl (by omega) (by omega) hn rfl).mono ?_);rintro e w' ⟨rfl,hr2⟩))
   go_roundw
   case rel=>exact ⟨i - j,j,_,by go_num,rfl,by omega,by omega,hj0,hjn,(rot_gt dk m i j him c).trans HR.out,hr2⟩
   case measure=>simp[intOf];omega
def cmpI (a b:Int):Int:=if a<b then -1 else if b<a then 1 else 0
theorem cmpI_lt {a b:Int} (h:a<b):cmpI a b = -1:=by unfold cmpI;rw[if_pos h]
theorem cmpI_neg {a b:Int}:decide (cmpI a b<0)=decide (a<b):=by unfold cmpI;split<;>simp_all;split<;>simp_all
theorem isNaN_c (x:Int) (w:World):Calls Tryz.prog 233 #[.int .i64 x] w fun e w'=>e = .returned (.bool false)∧w'=w:=by
 go_enter Tryz.func233,Tryz.ntmps233
 go_wp2
 go_ret
 exact ⟨rfl,rfl⟩
theorem compare64 (a b:Int) (w:World):Calls Tryz.prog 229 #[.int .i64 a,.int .i64 b] w fun e w'=>e = .returned (.int .i64 (cmpI a b))∧w'=w:=by
 rcases Int.lt_trichotomy a b with c | c | c
 ·have hv:cmpI a b = -1:=cmpI_lt c
  have HV:=hidE hv;clear hv
  go_enter Tryz.func229,Tryz.ntmps229
  go_wp2_with (go_at_call 233;((with_reducible refine (isNaN_c _ _).mono ?_);rintro e w' ⟨rfl,rfl⟩))
  go_ret
  exact ⟨ret_int HV.out.symm,rfl⟩
 ·have hv:cmpI a b=0:=by unfold cmpI;rw[if_neg (by omega),if_neg (by omega)]
  have HV:=hidE hv;clear hv
  subst c
  go_enter Tryz.func229,Tryz.ntmps229
  go_wp2_with (go_at_call 233;((with_reducible refine (isNaN_c _ _).mono ?_);rintro e w' ⟨rfl,rfl⟩))
  go_ret
  exact ⟨ret_int HV.out.symm,rfl⟩
 ·have hv:cmpI a b=1:=by unfold cmpI;rw[if_neg (by omega),if_pos (by omega)]
  have HV:=hidE hv;clear hv
  have c':¬ a<b:=by omega
  go_enter Tryz.func229,Tryz.ntmps229
  go_wp2_with (go_at_call 233;((with_reducible refine (isNaN_c _ _).mono ?_);rintro e w' ⟨rfl,rfl⟩))
  go_ret
  exact ⟨ret_int HV.out.symm,rfl⟩
theorem byAt_c (a m c a' m' c':Int) (w:World):Calls Tryz.prog 219 #[S a m c,S a' m' c'] w fun e w'=>e = .returned (.int .i64 (cmpI a a'))∧Below w.heap.size w w':=by
 go_enter Tryz.func219,Tryz.ntmps219
 go_wp2_with (go_at_call 229;((with_reducible refine (compare64 _ _ _).mono ?_);rintro e w' ⟨rfl,rfl⟩))
 go_ret
 exact ⟨rfl,by (repeat (first | exact Below.refl _ _ | assumption | refine balloc ?_ _ | refine below_drewN ?_ _ | refine bstep (by assumption) ?_ | refine bstep (Past.prop _) ?_ | refine Below.setCell ?_ (by first | exact Nat.le_refl _ | (simp;done) | (simp;omega)) _))⟩
theorem cmpRuns_c (l:List Sg) (b off cap x y:Nat) (w:World) (hb0:b<w.heap.size) (_hl:l.length≤9223372036854775807) (hc0:CellsS w b off l) (hx:x<l.length) (hy:y<l.length) :
  Calls Tryz.prog 212 #[.slice (some ⟨b,off,none⟩) l.length cap,.int .i64 x,.int .i64 y] w fun e w'=>e = .returned (.int .i64 (cmpI (ats l x) (ats l y)))∧Below w.heap.size w w':=by
 obtain ⟨x0,x1,x2⟩:=hc0.get hx
 obtain ⟨y0,y1,y2⟩:=hc0.get hy
 clear hc0
 generalize ats l x=u0 at *
 generalize vls l x=u at *
 generalize ats l y=v0 at *
 generalize vls l y=v at *
 go_enter Tryz.func212,Tryz.ntmps212
 go_wp2
 refine wp_region_past_lit (by kernel_rfl) (by kernel_rfl) ?_
 have hc:=Past.cell (W:=w)
 repeat (go_big_quiet_step ((go_at_call 219;exact Past.call _ (byAt_c _ _ _ _ _ _ _))))
 refine wpQuiet_nil ?_
 rintro _ ⟨x',rfl⟩
 go_wp2
 go_ret
 exact ⟨rfl,x'.2⟩
def Cmps (w0:World) (blk n:Nat) (recv:Value) (K:Nat→Int):Prop :=
 ∀ w,Below blk w0 w→∀ x y:Nat,x<n→y<n→Calls Tryz.prog 212 #[recv,.int .i64 x,.int .i64 y] w fun e w'=>e = .returned (.int .i64 (cmpI (K x) (K y)))∧Below w.heap.size w w'
def Okd (n:Nat) (d:Nat→Nat):Prop:=∀ k,k<n→d k<n
theorem Okd.mv {n a b:Nat} {d d':Nat→Nat} (h:Okd n d) (hm:Mv a b d d') (hb:b≤n):Okd n d':=fun k hk=>by
 by_cases c:a≤k∧k<b
 ·obtain ⟨k',h1,h2,e⟩:=hm.inn k c.1 c.2
  rw[e];exact h _ (by omega)
 ·rw[hm.out k (by omega)];exact h _ hk
def SrtTo (w0:World) (blk n:Nat) (t:TypeId) (K:Nat→Int) (a b:Nat) (d:Nat→Nat) (e:Ending) (w':World):Prop :=
 e = .returned (.tuple #[])∧∃ d',RowW w0 blk n t d' w'∧Mv a b d d'∧Inv K n d'∧Srt K a b d'
theorem cmp_t {K:Nat→Int} {x y:Nat} (h:K x<K y):decide (cmpI (K x) (K y)<0)=true:=by rw[cmpI_neg];exact decide_eq_true h
theorem cmp_f {K:Nat→Int} {x y:Nat} (h:¬ K x<K y):decide (cmpI (K x) (K y)<0)=false:=by rw[cmpI_neg];exact decide_eq_false h
set_option maxHeartbeats 4000000 in
theorem insertion_c (w0 w:World) (blk n cap a b:Nat) (t:TypeId) (K:Nat→Int) (recv:Value) (d:Nat→Nat) (h:RowW w0 blk n t d w) (hC:Cmps w0 blk n recv K) (hI:Inv K n d) (hO:Okd n d) (hab:a≤b) (hb:b≤n) (hn:n≤4611686018427387904) :
  Calls Tryz.prog 231 #[.slice (some ⟨blk,0,none⟩) n cap,.int .i64 a,.int .i64 b,.func (.func 212) #[recv] #[]] w (SrtTo w0 blk n t K a b d):=by
 have H:=hidE h;have HC:=hidE hC;have HI:=hidE hI;have HO:=hidE hO
 clear h hC hI hO
 go_enter Tryz.func231,Tryz.ntmps231
 go_wp2
 go_loopg [8] (b - a) (fun g1 vi wr=>∃ (i:Nat) (dk:Nat→Nat),vi = .int .i64 i∧a<i∧b - i≤g1∧(i≤b∨i=a+1)∧RowW w0 blk n t dk wr∧Mv a b d dk∧Inv K n dk∧Srt K a i dk)
 case atStart=>exact ⟨a+1,d,by go_num,by omega,by omega,by omega,H.out,Mv.refl _ _ _,HI.out,srt_one _ _ _ (by omega)⟩
 case round =>
  obtain ⟨i,dk,rfl,hai,hg1,hib,hr,hm,hi,hs⟩:=hrel
  have HR:=hidE hr;have HM:=hidE hm;have HJ:=hidE hi;have HS:=hidE hs
  clear hr hm hi hs
  by_cases hlt:i<b
  ·have hltz:(i:Int)<(b:Int):=by omega
   obtain ⟨wo,rfl⟩:∃ wo:World,wo=wr:=⟨_,rfl⟩
   go_wp2
   go_loopg [9] i (fun g2 vj wr2=>∃ (j:Nat) (dj:Nat→Nat),vj = .int .i64 j∧a≤j∧j≤i∧j≤g2∧RowW w0 blk n t dj wr2∧Mv a b d dj∧Inv K n dj∧InsR K a i j dj)
   case atStart=>exact ⟨i,dk,rfl,by omega,Nat.le_refl _,Nat.le_refl _,HR.out,HM.out,HJ.out,InsR.start HS.out⟩
   case round =>
    clear HR HM HJ HS
    obtain ⟨j,dj,rfl,haj,hji,hg2,hr,hm,hi,hs⟩:=hrel
    have HR:=hidE hr;have HM:=hidE hm;have HJ:=hidE hi;have HS:=hidE hs
    have hok:=HO.out.mv hm hb
    clear hr hm hi hs
    by_cases hja:a<j
    ·obtain ⟨jp,rfl⟩:∃ q,j=q+1:=⟨j - 1,by omega⟩
     have hjd:decide ((a:Int)<(jp:Int)+1)=true:=decide_eq_true (by omega)
     have c1:=HR.out.cell (i:=jp+1) (by omega)
     have c2:=HR.out.cell (i:=jp) (by omega)
     have z:=HR.out.lt
     have k1:=hok (jp+1) (by omega)
     have k2:=hok jp (by omega)
     have HCM:=hidE (fun w hw=>HC.out w hw (dj (jp+1)) (dj jp) k1 k2)
     clear hok
     by_cases hkey:K (dj (jp+1))<K (dj jp)
     ·have hd:=cmp_t hkey
      have HX:=hidE (⟨(HJ.out.swap' jp (by omega) hkey),(HM.out.trans (Mv.swap dj (jp+1) jp (by omega) (by omega))),(HS.out.step (by omega) (by omega) hkey)⟩:Inv K n (sw dj (jp+1) jp)∧Mv a b d (sw dj (jp+1) jp)∧InsR K a i jp (sw dj (jp+1) jp))
      clear hkey HM HJ HS
      have HE:=hidE (fun (w:World) (h:RowW w0 blk n t dj w)=>(h.swap (jp+1) jp).drew)
      have HF:=hidE (fun (w:World) (h:RowW w0 blk n t dj w)=>h.c2 (jp+1) jp (by omega) (dj jp))
      generalize hx:dj (jp+1)=x at *
      generalize hy:dj jp=y at *
      go_wp2_with fail
      refine wp_region_past_lit (by kernel_rfl) (by kernel_rfl) ?_
      have hc:=Past.cell (W:=wr)
      repeat (go_big_quiet_step ((go_at_call 212;exact Past.call _ (HCM.out _ (HR.out.low.trans ((Past.prop _).mono (Nat.le_of_lt z)))))))
      refine wpQuiet_nil ?_
      rintro _ ⟨x',rfl⟩
      have hr2:=HR.out.past x'.2
      clear c1 c2 hc
      generalize x'.1=w2 at hr2 ⊢
      have g1:=hr2.cell (i:=jp+1) (by omega)
      have g2:=hr2.cell (i:=jp) (by omega)
      have g3:=HF.out _ hr2
      have f1:=hr2.free (jp+1)
      have f2:=hr2.free jp
      have hE:=HE.out _ hr2
      rw[if_neg (by omega)] at g3
      rw[hx] at g1
      rw[hy] at g2
      have HE2:=hidE hE;have Hx:=hidE hx;have Hy:=hidE hy
      clear hE hr2 hx hy
      go_wp2_with fail
      go_region
      go_wp2
      go_roundg jp
      case measure=>omega
      case rel=>exact ⟨jp,_,by go_num,by omega,by omega,Nat.le_refl _,HE2.out,HX.out.2.1,HX.out.1,HX.out.2.2⟩
     ·have hd:=cmp_f hkey
      have HX:=hidE (HS.out.done HJ.out (by omega) haj hji (.inr hkey))
      clear hkey
      generalize hx:dj (jp+1)=x at *
      generalize hy:dj jp=y at *
      have Hx:=hidE hx;have Hy:=hidE hy
      clear hx hy
      go_wp2_with fail
      refine wp_region_past_lit (by kernel_rfl) (by kernel_rfl) ?_
      have hc:=Past.cell (W:=wr)
      repeat (go_big_quiet_step ((go_at_call 212;exact Past.call _ (HCM.out _ (HR.out.low.trans ((Past.prop _).mono (Nat.le_of_lt z)))))))
      refine wpQuiet_nil ?_
      rintro _ ⟨x',rfl⟩
      have hr2:=HR.out.past x'.2
      clear c1 c2 hc
      generalize x'.1=w2 at hr2 ⊢
      have HR2:=hidE hr2;clear hr2
      go_wp2
      go_roundg (b - (i+1))
      case measure=>omega
      case rel=>exact ⟨i+1,_,by go_num,by omega,by omega,by omega,HR2.out,HM.out,HJ.out,HX.out⟩
    ·have hja':j=a:=by omega
     subst hja'
     have HX:=hidE (HS.out.done HJ.out (by omega) haj hji (.inl rfl))
     have hd:¬ (j:Int)<(j:Int):=by omega
     go_wp2_with fail
     refine wp_region_past_lit (by kernel_rfl) (by kernel_rfl) ?_
     repeat (go_big_quiet_step (fail))
     refine wpQuiet_nil ?_
     rintro _ ⟨x',rfl⟩
     have hr2:=HR.out.past x'.2
     generalize x'.1=w2 at hr2 ⊢
     have HR2:=hidE hr2;clear hr2
     go_wp2
     go_roundg (b - (i+1))
     case measure=>omega
     case rel=>exact ⟨i+1,_,by go_num,by omega,by omega,by omega,HR2.out,HM.out,HJ.out,HX.out⟩
  ·go_wp2
   go_end0
   exact ⟨rfl,dk,HR.out,HM.out,HJ.out,HS.out.mono (Nat.le_refl _) (by omega)⟩
theorem BubU.start' {K:Nat→Int} {n a m b i:Nat} {d:Nat→Nat} (hm1:a<m) (hm2:m≤a+1) (hI:Inv K n d) (hbn:b≤n) (h:Srt K m b d) (hi:i≤b) (h1:∀ y,m≤y→y<i→K (d y)<K (d a)) (h2:∀ y,i≤y→y<b→¬ K (d y)<K (d a)):BubU K a b a i d:=by
 have e:m=a+1:=by omega
 subst e
 exact BubU.start hI hbn h hi h1 h2
set_option maxRecDepth 100000 in
set_option maxHeartbeats 4000000 in
theorem symMerge_up (w0 w:World) (blk n cap a m b:Nat) (t:TypeId) (K:Nat→Int) (recv:Value) (d:Nat→Nat) (h:RowW w0 blk n t d w) (hC:Cmps w0 blk n recv K) (hI:Inv K n d) (hO:Okd n d) (hm1:a<m) (hm2:m≤a+1) (hmb:m<b) (hb:b≤n) (hn:n≤4611686018427387904) (hs:Srt K m b d) :
  Calls Tryz.prog 232 #[.slice (some ⟨blk,0,none⟩) n cap,.int .i64 a,.int .i64 m,.int .i64 b,.func (.func 212) #[recv] #[]] w (SrtTo w0 blk n t K a b d):=by
 have H:=hidE h;have HC:=hidE hC;have HI:=hidE hI;have HO:=hidE hO;have HS:=hidE hs
 clear h hC hI hO hs
 have e1:((m:Int) - (a:Int) == 1)=true:=beq_iff_eq.2 (by omega)
 go_enter Tryz.func232,Tryz.ntmps232
 go_wp2
 go_loopg [10,11] b (fun g1 vi vj wr=>∃ (i j:Nat),vi = .int .i64 i∧vj = .int .i64 j∧m≤i∧i≤j∧j≤b∧j - i≤g1∧RowW w0 blk n t d wr∧(∀ y,m≤y→y<i→K (d y)<K (d a))∧(∀ y,j≤y→y<b→¬ K (d y)<K (d a)))
 case atStart=>exact ⟨m,b,rfl,rfl,by omega,by omega,by omega,by omega,H.out,fun y h1 h2=>by omega,fun y h1 h2=>by omega⟩
 case round =>
  obtain ⟨i,j,rfl,rfl,hai,hij,hjb,hg1,hr,hlo,hhi⟩:=hrel
  have HR:=hidE hr;have HL:=hidE hlo;have HH:=hidE hhi
  clear hr hlo hhi
  by_cases hlt:i<j
  ·have hltz:(i:Int)<(j:Int):=by omega
   obtain ⟨h,eh⟩:∃ h:Nat,((i:Int)+(j:Int)) / 2=(h:Int):=⟨(i+j) / 2,by omega⟩
   have hih:i≤h:=by omega
   have hhj:h<j:=by omega
   have EH:=hidE eh;clear eh
   have hok:=HO.out
   have c1:=HR.out.cell (i:=h) (by omega)
   have c2:=HR.out.cell (i:=a) (by omega)
   have z:=HR.out.lt
   have k1:=hok h (by omega)
   have k2:=hok a (by omega)
   have HCM:=hidE (fun w hw=>HC.out w hw (d h) (d a) k1 k2)
   clear hok
   go_wp2_with fail
   simp only[EH.out]
   by_cases hkey:K (d h)<K (d a)
   ·have hd:=cmp_t hkey
    have HX:=hidE (fun y (h1:m≤y) (h2:y<h+1)=>(by
     have:=HS.out.le (k:=y) (k':=h) h1 (by omega) (by omega)
     omega:K (d y)<K (d a)))
    clear hkey
    generalize hx:d h=x at *
    generalize hy:d a=y at *
    have Hx:=hidE hx;have Hy:=hidE hy
    clear hx hy
    refine wp_region_past_lit (by kernel_rfl) (by kernel_rfl) ?_
    have hc:=Past.cell (W:=wr)
    repeat (go_big_quiet_step ((go_at_call 212;exact Past.call _ (HCM.out _ (HR.out.low.trans ((Past.prop _).mono (Nat.le_of_lt z)))))))
    refine wpQuiet_nil ?_
    rintro _ ⟨x',rfl⟩
    have hr2:=HR.out.past x'.2
    clear c1 c2 hc
    generalize x'.1=w2 at hr2 ⊢
    have HR2:=hidE hr2;clear hr2
    go_wp2
    go_roundg (j - (h+1))
    case measure=>omega
    case rel=>exact ⟨h+1,j,by go_num,rfl,by omega,by omega,hjb,by omega,HR2.out,by simpa only[Hy.out] using HX.out,by simpa only[Hy.out] using HH.out⟩
   ·have hd:=cmp_f hkey
    have HX:=hidE (fun y (h1:h≤y) (h2:y<b)=>(by
     have:=HS.out.le (k:=h) (k':=y) (by omega) h1 h2
     omega:¬ K (d y)<K (d a)))
    clear hkey
    generalize hx:d h=x at *
    generalize hy:d a=y at *
    have Hx:=hidE hx;have Hy:=hidE hy
    clear hx hy
    refine wp_region_past_lit (by kernel_rfl) (by kernel_rfl) ?_
    have hc:=Past.cell (W:=wr)
    repeat (go_big_quiet_step ((go_at_call 212;exact Past.call _ (HCM.out _ (HR.out.low.trans ((Past.prop _).mono (Nat.le_of_lt z)))))))
    refine wpQuiet_nil ?_
    rintro _ ⟨x',rfl⟩
    have hr2:=HR.out.past x'.2
    clear c1 c2 hc
    generalize x'.1=w2 at hr2 ⊢
    have HR2:=hidE hr2;clear hr2
    go_wp2
    go_roundg (h - i)
    case measure=>omega
    case rel=>exact ⟨i,h,rfl,rfl,hai,by omega,by omega,by omega,HR2.out,by simpa only[Hy.out] using HL.out,by simpa only[Hy.out] using HX.out⟩
  ·have:i=j:=by omega
   subst this
   have hltz:¬ (i:Int)<(i:Int):=by omega
   obtain ⟨ip,rfl⟩:∃ q,i=q+1:=⟨i - 1,by omega⟩
   have HB:=hidE (BubU.start' hm1 hm2 HI.out hb HS.out hjb HL.out HH.out)
   clear HL HH
   obtain ⟨wo,rfl⟩:∃ wo:World,wo=wr:=⟨_,rfl⟩
   go_wp2
   go_loopg [13] (ip - a) (fun g2 vk wr2=>∃ (k:Nat) (dk:Nat→Nat),vk = .int .i64 k∧a≤k∧k≤ip∧ip - k≤g2∧RowW w0 blk n t dk wr2∧Mv a b d dk∧Inv K n dk∧BubU K a b k (ip+1) dk)
   case atStart=>exact ⟨a,d,rfl,by omega,by omega,by omega,HR.out,Mv.refl _ _ _,HI.out,HB.out⟩
   case round =>
    clear HR HB
    obtain ⟨k,dk,rfl,hak,hki,hg2,hr,hm,hi,hs⟩:=hrel
    have HR:=hidE hr;have HM:=hidE hm;have HJ:=hidE hi;have HB:=hidE hs
    clear hr hm hi hs
    by_cases hlt:k<ip
    ·have hltz:(k:Int)<(ip:Int):=by omega
     have HX:=hidE (⟨HJ.out.swap k (by omega) (HB.out.mid _ (by omega) (by omega)),HM.out.trans (Mv.swap dk k (k+1) (by omega) (by omega)),HB.out.step hak (by omega) hjb⟩:Inv K n (sw dk k (k+1))∧Mv a b d (sw dk k (k+1))∧BubU K a b (k+1) (ip+1) (sw dk k (k+1)))
     have c1:=HR.out.cell (i:=k) (by omega)
     have c2:=HR.out.cell (i:=k+1) (by omega)
     have c3:=HR.out.c2 k (k+1) (by omega) (dk (k+1))
     have f1:=HR.out.free k
     have f2:=HR.out.free (k+1)
     have HE:=hidE (HR.out.swap k (k+1)).drew
     rw[if_neg (by omega)] at c3
     generalize hx:dk (k+1)=x at *
     generalize hy:dk k=y at *
     have Hx:=hidE hx;have Hy:=hidE hy
     clear hx hy
     go_wp2_with fail
     go_region
     go_wp2
     go_roundg (ip - (k+1))
     case measure=>omega
     case rel=>exact ⟨k+1,_,by go_num,by omega,by omega,Nat.le_refl _,HE.out,HX.out.2.1,HX.out.1,HX.out.2.2⟩
    ·have hltz:¬ (k:Int)<(ip:Int):=by omega
     go_wp2
     go_end0
     exact ⟨rfl,dk,HR.out,HM.out,HJ.out,HB.out.done (by omega)⟩
theorem BubD.start' {K:Nat→Int} {n a m b i:Nat} {d:Nat→Nat} (hm1:m<b) (hm2:b≤m+1) (hI:Inv K n d) (hbn:b≤n) (h:Srt K a m d) (h1:∀ x,a≤x→x<i→¬ K (d m)<K (d x)) (h2:∀ x,i≤x→x<m→K (d m)<K (d x)):BubD K a b m i d:=by
 have e:b=m+1:=by omega
 subst e
 exact BubD.start hI (by omega) h (fun x q1 q2 _=>h1 x q1 q2) h2
set_option maxRecDepth 100000 in
set_option maxHeartbeats 4000000 in
theorem symMerge_dn (w0 w:World) (blk n cap a m b:Nat) (t:TypeId) (K:Nat→Int) (recv:Value) (d:Nat→Nat) (h:RowW w0 blk n t d w) (hC:Cmps w0 blk n recv K) (hI:Inv K n d) (hO:Okd n d) (ham:a+1<m) (hm1:m<b) (hm2:b≤m+1) (hb:b≤n) (hn:n≤4611686018427387904) (hs:Srt K a m d) :
  Calls Tryz.prog 232 #[.slice (some ⟨blk,0,none⟩) n cap,.int .i64 a,.int .i64 m,.int .i64 b,.func (.func 212) #[recv] #[]] w (SrtTo w0 blk n t K a b d):=by
 have H:=hidE h;have HC:=hidE hC;have HI:=hidE hI;have HO:=hidE hO;have HS:=hidE hs
 clear h hC hI hO hs
 have e0:((m:Int) - (a:Int) == 1)=false:=beq_eq_false_iff_ne.2 (by omega)
 have e1:((b:Int) - (m:Int) == 1)=true:=beq_iff_eq.2 (by omega)
 go_enter Tryz.func232,Tryz.ntmps232
 go_wp2
 go_loopg [14,15] m (fun g1 vi vj wr=>∃ (i j:Nat),vi = .int .i64 i∧vj = .int .i64 j∧a≤i∧i≤j∧j≤m∧j - i≤g1∧RowW w0 blk n t d wr∧(∀ x,a≤x→x<i→¬ K (d m)<K (d x))∧(∀ x,j≤x→x<m→K (d m)<K (d x)))
 case atStart=>exact ⟨a,m,rfl,rfl,by omega,by omega,by omega,by omega,H.out,fun y h1 h2=>by omega,fun y h1 h2=>by omega⟩
 case round =>
  obtain ⟨i,j,rfl,rfl,hai,hij,hjb,hg1,hr,hlo,hhi⟩:=hrel
  have HR:=hidE hr;have HL:=hidE hlo;have HH:=hidE hhi
  clear hr hlo hhi
  by_cases hlt:i<j
  ·have hltz:(i:Int)<(j:Int):=by omega
   obtain ⟨h,eh⟩:∃ h:Nat,((i:Int)+(j:Int)) / 2=(h:Int):=⟨(i+j) / 2,by omega⟩
   have hih:i≤h:=by omega
   have hhj:h<j:=by omega
   have EH:=hidE eh;clear eh
   have hok:=HO.out
   have c1:=HR.out.cell (i:=h) (by omega)
   have c2:=HR.out.cell (i:=m) (by omega)
   have z:=HR.out.lt
   have k1:=hok h (by omega)
   have k2:=hok m (by omega)
   have HCM:=hidE (fun w hw=>HC.out w hw (d m) (d h) k2 k1)
   clear hok
   go_wp2_with fail
   simp only[EH.out]
   by_cases hkey:K (d m)<K (d h)
   ·have hd:=cmp_t hkey
    have HX:=hidE (fun x (h1:h≤x) (h2:x<m)=>(by
     have:=HS.out.le (k:=h) (k':=x) (by omega) h1 h2
     omega:K (d m)<K (d x)))
    clear hkey
    generalize hx:d h=x at *
    generalize hy:d m=y at *
    have Hx:=hidE hx;have Hy:=hidE hy
    clear hx hy
    refine wp_region_past_lit (by kernel_rfl) (by kernel_rfl) ?_
    have hc:=Past.cell (W:=wr)
    repeat (go_big_quiet_step ((go_at_call 212;exact Past.call _ (HCM.out _ (HR.out.low.trans ((Past.prop _).mono (Nat.le_of_lt z)))))))
    refine wpQuiet_nil ?_
    rintro _ ⟨x',rfl⟩
    have hr2:=HR.out.past x'.2
    clear c1 c2 hc
    generalize x'.1=w2 at hr2 ⊢
    have HR2:=hidE hr2;clear hr2
    go_wp2
    go_roundg (h - i)
    case measure=>omega
    case rel=>exact ⟨i,h,rfl,rfl,hai,by omega,by omega,by omega,HR2.out,by simpa only[Hy.out] using HL.out,by simpa only[Hy.out] using HX.out⟩
   ·have hd:=cmp_f hkey
    have HX:=hidE (fun x (h1:a≤x) (h2:x<h+1)=>(by
     have:=HS.out.le (k:=x) (k':=h) h1 (by omega) (by omega)
     omega:¬ K (d m)<K (d x)))
    clear hkey
    generalize hx:d h=x at *
    generalize hy:d m=y at *
    have Hx:=hidE hx;have Hy:=hidE hy
    clear hx hy
    refine wp_region_past_lit (by kernel_rfl) (by kernel_rfl) ?_
    have hc:=Past.cell (W:=wr)
    repeat (go_big_quiet_step ((go_at_call 212;exact Past.call _ (HCM.out _ (HR.out.low.trans ((Past.prop _).mono (Nat.le_of_lt z)))))))
    refine wpQuiet_nil ?_
    rintro _ ⟨x',rfl⟩
    have hr2:=HR.out.past x'.2
    clear c1 c2 hc
    generalize x'.1=w2 at hr2 ⊢
    have HR2:=hidE hr2;clear hr2
    go_wp2
    go_roundg (j - (h+1))
    case measure=>omega
    case rel=>exact ⟨h+1,j,by go_num,rfl,by omega,by omega,hjb,by omega,HR2.out,by simpa only[Hy.out] using HX.out,by simpa only[Hy.out] using HH.out⟩
  ·have:i=j:=by omega
   subst this
   have hltz:¬ (i:Int)<(i:Int):=by omega
   have HB:=hidE (BubD.start' hm1 hm2 HI.out hb HS.out HL.out HH.out)
   clear HL HH
   obtain ⟨wo,rfl⟩:∃ wo:World,wo=wr:=⟨_,rfl⟩
   go_wp2
   go_loopg [17] (m - i) (fun g2 vk wr2=>∃ (k:Nat) (dk:Nat→Nat),vk = .int .i64 k∧i≤k∧k≤m∧k - i≤g2∧RowW w0 blk n t dk wr2∧Mv a b d dk∧Inv K n dk∧BubD K a b k i dk)
   case atStart=>exact ⟨m,d,rfl,by omega,by omega,by omega,HR.out,Mv.refl _ _ _,HI.out,HB.out⟩
   case round =>
    clear HR HB
    obtain ⟨k,dk,rfl,hak,hki,hg2,hr,hm,hi,hs⟩:=hrel
    have HR:=hidE hr;have HM:=hidE hm;have HJ:=hidE hi;have HB:=hidE hs
    clear hr hm hi hs
    by_cases hlt:i<k
    ·obtain ⟨kp,rfl⟩:∃ q,k=q+1:=⟨k - 1,by omega⟩
     have hltz:(i:Int)<(kp:Int)+1:=by omega
     have HX:=hidE (⟨HJ.out.swap' kp (by omega) (HB.out.mid _ (by omega) (by omega)),HM.out.trans (Mv.swap dk (kp+1) kp (by omega) (by omega)),HB.out.step hai (by omega) (by omega)⟩:Inv K n (sw dk (kp+1) kp)∧Mv a b d (sw dk (kp+1) kp)∧BubD K a b kp i (sw dk (kp+1) kp))
     have c1:=HR.out.cell (i:=kp) (by omega)
     have c2:=HR.out.cell (i:=kp+1) (by omega)
     have c3:=HR.out.c2 (kp+1) kp (by omega) (dk kp)
     have f1:=HR.out.free kp
     have f2:=HR.out.free (kp+1)
     have HE:=hidE (HR.out.swap (kp+1) kp).drew
     rw[if_neg (by omega)] at c3
     generalize hx:dk (kp+1)=x at *
     generalize hy:dk kp=y at *
     have Hx:=hidE hx;have Hy:=hidE hy
     clear hx hy
     go_wp2_with fail
     go_region
     go_wp2
     go_roundg (kp - i)
     case measure=>omega
     case rel=>exact ⟨kp,_,by go_num,by omega,by omega,Nat.le_refl _,HE.out,HX.out.2.1,HX.out.1,HX.out.2.2⟩
    ·have hltz:¬ (i:Int)<(k:Int):=by omega
     go_wp2
     go_end0
     exact ⟨rfl,dk,HR.out,HM.out,HJ.out,HB.out.done (by omega)⟩
end
end Go.Proofs.YtcmponckjkalaaaGreat
