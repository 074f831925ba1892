/- Package plan: which functions and names may be. No conditions but the sizes of the lists. Package plan: which names, and which reservations, may be. No conditions but the sizes of the lists. Package plan: which reservations may be. No conditions but the sizes of the lists. Package plan: copies of slices, in new memory. No conditions but the sizes of the lists. Slices that .. -/
import Derived.Test.YtcmponckjkalaaaGreatPUGB
import Derived.Test.YtcmponckjkalaaaGreatPUGL
import Derived.Test.YtcmponckjkalaaaGreatPUGD
import Derived.LoopTactic
import Derived.Lib.ConvBytes
import Derived.Test.YtcmponckjkalaaaGreatPUGH
import Derived.Sort.Grow
import Derived.Deep.LoopGhost
namespace Go.Proofs.YtcmponckjkalaaaGreat
section
open Go.ChangeShapes Go.WideShapes Go.ChangeAt Go.RowKit
attribute [local irreducible] Go.Calls
theorem isBelow_c (s:Sg) (w:World):Calls Tryz.prog 98 #[S s.1 s.2.1 s.2.2] w fun e w'=>e = .returned (.bool (!(nonneg s)))∧Below w.heap.size w w':=by
 obtain ⟨x,m,c⟩:=s
 by_cases h1:m<0
 ·have e:nonneg (x,(m,c))=false:=nonneg_not.2 (.inl h1)
  have E:=hidE e;clear e
  have d1:decide (m<0)=true:=decide_eq_true h1
  clear h1
  go_enter Tryz.func98,Tryz.ntmps98
  go_wp2
  go_ret
  exact ⟨by rw[E.out];rfl,by (repeat (first | exact Below.refl _ _ | assumption | refine balloc ?_ _ | refine below_drewN ?_ _ | refine bstep (by assumption) ?_ | refine bstep (Past.prop _) ?_ | refine Below.setCell ?_ (by first | exact Nat.le_refl _ | (simp;done) | (simp;omega)) _))⟩
 ·have e:(!(nonneg (x,(m,c))))=decide (c<0):=by
   by_cases h2:c<0
   ·rw[nonneg_not.2 (.inr h2),decide_eq_true h2];rfl
   ·have:nonneg (x,(m,c))=true:=by unfold nonneg;simp;omega
    rw[this,decide_eq_false h2];rfl
  have E:=hidE e;clear e
  have d1:decide (m<0)=false:=decide_eq_false h1
  clear h1
  go_enter Tryz.func98,Tryz.ntmps98
  go_wp2
  go_ret
  exact ⟨by rw[E.out];rfl,by (repeat (first | exact Below.refl _ _ | assumption | refine balloc ?_ _ | refine below_drewN ?_ _ | refine bstep (by assumption) ?_ | refine bstep (Past.prop _) ?_ | refine Below.setCell ?_ (by first | exact Nat.le_refl _ | (simp;done) | (simp;omega)) _))⟩
set_option maxRecDepth 100000 in
set_option maxHeartbeats 2000000 in
theorem index_c (F:List Sg) (a:Option Addr) (cap:Nat) (w:World) (hl:F.length≤1000000000) (hA:ArgS w a F) :
  Calls Tryz.prog 129 #[.slice a F.length cap,.func (.func 98) #[] #[]] w fun e w'=>∃ n:Int,e = .returned (.int .i64 n)∧decide (0≤n) = !(F.all nonneg)∧Below w.heap.size w w':=by
 have HA:=hidE hA
 clear hA
 go_enter Tryz.func129,Tryz.ntmps129
 go_wp2
 go_loopw [8] (fun i wr=>∃ k:Nat,k≤F.length∧i = .int .i64 k∧(∀ j,j<k→nonneg (F.getD j (0,0,0))=true)∧Below w.heap.size w wr) (fun i _=>F.length - (intOf i).toNat)
 case atStart=>exact ⟨0,Nat.zero_le _,rfl,fun j hj=>by omega,by (repeat (first | exact Below.refl _ _ | assumption | refine balloc ?_ _ | refine below_drewN ?_ _ | refine bstep (by assumption) ?_ | refine bstep (Past.prop _) ?_ | refine Below.setCell ?_ (by first | exact Nat.le_refl _ | (simp;done) | (simp;omega)) _))⟩
 case round =>
  obtain ⟨k,hk,rfl,hs,hb⟩:=hrel
  have HS:=hidE hs;clear hs
  by_cases hlt:k<F.length
  ·obtain ⟨b,off,rfl,hbz,hc⟩:=HA.out (by omega)
   have hbr:b<wr.heap.size:=Nat.lt_of_lt_of_le hbz hb.size
   obtain ⟨e0,e1,e2⟩:=hc k hlt
   rw[←hb.cell hbz] at e0 e1 e2
   have HBI:=hidE (fun w=>isBelow_c (F.getD k (0,0,0)) w)
   have HN:=hidE (fun h=>below_some hlt h)
   have HQ:=hidE (fun h j (hj:j<k+1)=>show nonneg (F.getD j (0,0,0))=true from by
    by_cases e:j=k
    ·subst e;exact h
    ·exact HS.out j (by omega))
   generalize F.getD k (0,0,0)=s at *
   obtain ⟨x,m,c⟩:=s
   simp only at e0 e1 e2
   clear hc
   cases hn:nonneg (x,(m,c))
   ·have HF:=hidE (HN.out hn)
    rw[hn] at HBI
    clear HN HQ hn
    go_wp2_with fail
    ((with_reducible refine (HBI.out _).mono ?_);rintro e w2 ⟨rfl,hb2⟩)
    go_wp2
    go_ret
    exact ⟨_,rfl,by rw[HF.out];simp,by (repeat (first | exact Below.refl _ _ | assumption | refine balloc ?_ _ | refine below_drewN ?_ _ | refine bstep (by assumption) ?_ | refine bstep (Past.prop _) ?_ | refine Below.setCell ?_ (by first | exact Nat.le_refl _ | (simp;done) | (simp;omega)) _))⟩
   ·have HF:=hidE (HQ.out hn)
    rw[hn] at HBI
    clear HN HQ hn
    go_wp2_with fail
    ((with_reducible refine (HBI.out _).mono ?_);rintro e w2 ⟨rfl,hb2⟩)
    go_wp2
    exact ⟨⟨k+1,by omega,by go_num,HF.out,by (repeat (first | exact Below.refl _ _ | assumption | refine balloc ?_ _ | refine below_drewN ?_ _ | refine bstep (by assumption) ?_ | refine bstep (Past.prop _) ?_ | refine Below.setCell ?_ (by first | exact Nat.le_refl _ | (simp;done) | (simp;omega)) _))⟩,by simp[intOf];omega⟩
  ·have hkl:k=F.length:=by omega
   have HF:=hidE (below_none (F:=F) (by rw[←hkl];exact HS.out))
   clear hkl HS
   go_wp2
   go_ret
   exact ⟨_,rfl,by rw[HF.out];simp,by (repeat (first | exact Below.refl _ _ | assumption | refine balloc ?_ _ | refine below_drewN ?_ _ | refine bstep (by assumption) ?_ | refine bstep (Past.prop _) ?_ | refine Below.setCell ?_ (by first | exact Nat.le_refl _ | (simp;done) | (simp;omega)) _))⟩
theorem contains_c (F:List Sg) (a:Option Addr) (cap:Nat) (w:World) (hl:F.length≤1000000000) (hA:ArgS w a F) :
  Calls Tryz.prog 97 #[.slice a F.length cap,.func (.func 98) #[] #[]] w fun e w'=>e = .returned (.bool (!(F.all nonneg)))∧Below w.heap.size w w':=by
 have HI:=hidE (index_c F a cap w hl hA)
 clear hA
 go_enter Tryz.func97,Tryz.ntmps97
 go_wp2_with fail
 ((with_reducible refine (HI.out).mono ?_);rintro e w1 ⟨n,rfl,hn,hb1⟩)
 have HN:=hidE hn
 clear hn
 go_wp2
 go_ret
 exact ⟨by rw[←HN.out];rfl,by (repeat (first | exact Below.refl _ _ | assumption | refine balloc ?_ _ | refine below_drewN ?_ _ | refine bstep (by assumption) ?_ | refine bstep (Past.prop _) ?_ | refine Below.setCell ?_ (by first | exact Nat.le_refl _ | (simp;done) | (simp;omega)) _))⟩
theorem isPos_c (F:List Sg) (a:Option Addr) (cap:Nat) (w:World) (hl:F.length≤1000000000) (hA:ArgS w a F) :
  Calls Tryz.prog 56 #[.slice a F.length cap] w fun e w'=>e = .returned (.bool (posB F))∧Below w.heap.size w w':=by
 have HM:=hidE (pmay_c F a cap w (by omega) hA)
 have HA:=hidE hA
 clear hA
 unfold posB
 cases hm:mayB F
 ·rw[hm] at HM
  clear hm
  go_enter Tryz.func56,Tryz.ntmps56
  go_wp2_with fail
  ((with_reducible refine (HM.out).mono ?_);rintro e w1 ⟨rfl,hb1⟩)
  go_wp2
  go_ret
  exact ⟨rfl,by (repeat (first | exact Below.refl _ _ | assumption | refine balloc ?_ _ | refine below_drewN ?_ _ | refine bstep (by assumption) ?_ | refine bstep (Past.prop _) ?_ | refine Below.setCell ?_ (by first | exact Nat.le_refl _ | (simp;done) | (simp;omega)) _))⟩
 ·rw[hm] at HM
  clear hm
  go_enter Tryz.func56,Tryz.ntmps56
  go_wp2_with fail
  ((with_reducible refine (HM.out).mono ?_);rintro e w1 ⟨rfl,hb1⟩)
  go_wp2_with fail
  ((with_reducible refine (contains_c F a cap _ hl (HA.out.past hb1)).mono ?_);rintro e w2 ⟨rfl,hb2⟩)
  go_wp2
  go_ret
  exact ⟨by simp,by (repeat (first | exact Below.refl _ _ | assumption | refine balloc ?_ _ | refine below_drewN ?_ _ | refine bstep (by assumption) ?_ | refine bstep (Past.prop _) ?_ | refine Below.setCell ?_ (by first | exact Nat.le_refl _ | (simp;done) | (simp;omega)) _))⟩
abbrev nmV (l:List UInt8):Value := .string ⟨l.toArray⟩
theorem conv_u (u:List UInt8) (w:World):∃ (cap:Nat) (w1:World),(convert 9 166 (nmV u)).run Tryz.prog w = .ok (.slice (some ⟨w.heap.size,0,none⟩) u.length cap) w1∧Below w.heap.size w w1∧w.heap.size<w1.heap.size ∧
  ∀ j,j<u.length→w1.cell? ⟨w.heap.size,j,none⟩=some (.int .u8 (u.getD j 0).toNat):=by
 have slen:(⟨u.toArray⟩:ByteArray).size=u.length:=by simp[ByteArray.size]
 have hr:=Lib.run_convert_string_bytes w 9 166 5 ⟨u.toArray⟩ Tryz.underlying9 Tryz.underlying166 Tryz.underlying5
 rw[slen] at hr
 refine ⟨_,_,hr,⟨rfl,rfl,rfl,by rw[Lib.bytesWorld_size];omega,fun k hk=>Lib.bytesWorld_at_old w _ _ k hk⟩,by rw[Lib.bytesWorld_size];omega,fun j hj => ?_⟩
 have:=Lib.bytesWorld_cell w 5 ⟨u.toArray⟩ j (by rw[slen];exact hj)
 simpa using this
theorem name_no {u:List UInt8} {k:Nat} (hk:k<u.length) (h:chrB (u.getD k 0)=false):nameB u=false:=by
 unfold nameB
 have:u.all chrB=false:=by
  rw[List.all_eq_false]
  refine ⟨u.getD k 0, ?_,by rw[h];decide⟩
  rw[List.getD_eq_getElem?_getD,List.getElem?_eq_getElem hk];exact List.getElem_mem hk
 rw[this,Bool.and_false]
theorem name_yes {u:List UInt8} (h1:1≤u.length) (h2:u.length≤16) (h:∀ j,j<u.length→chrB (u.getD j 0)=true):nameB u=true:=by
 unfold nameB
 have:u.all chrB=true:=by
  rw[List.all_eq_true]
  intro x hx
  obtain ⟨i,hi,rfl⟩:=List.getElem_of_mem hx
  have:=h i hi
  rwa [List.getD_eq_getElem?_getD,List.getElem?_eq_getElem hi] at this
 rw[this,decide_eq_true ⟨h1,h2⟩];rfl
set_option maxRecDepth 100000 in
set_option maxHeartbeats 2000000 in
theorem isName_c (u:List UInt8) (w:World) (hu:u.length≤1000000) :
  Calls Tryz.prog 61 #[nmV u] w fun e w'=>e = .returned (.bool (nameB u))∧Below w.heap.size w w':=by
 have slen:(⟨u.toArray⟩:ByteArray).size=u.length:=by simp[ByteArray.size]
 by_cases h1:u.length<1
 ·have e:nameB u=false:=by unfold nameB;rw[decide_eq_false (by omega)];rfl
  have E:=hidE e;clear e slen
  have d1:decide (u.length<1)=true:=decide_eq_true (by omega)
  have d1':decide ((u.length:Int)<1)=true:=decide_eq_true (by omega)
  clear h1
  go_enter Tryz.func61,Tryz.ntmps61
  go_wp2
  go_ret
  exact ⟨by rw[E.out];rfl,by (repeat (first | exact Below.refl _ _ | assumption | refine balloc ?_ _ | refine below_drewN ?_ _ | refine bstep (by assumption) ?_ | refine bstep (Past.prop _) ?_ | refine Below.setCell ?_ (by first | exact Nat.le_refl _ | (simp;done) | (simp;omega)) _))⟩
 by_cases h2:16<u.length
 ·have e:nameB u=false:=by unfold nameB;rw[decide_eq_false (by omega)];rfl
  have E:=hidE e;clear e slen
  have d1:decide ((u.length:Int)<1)=false:=decide_eq_false (by omega)
  have d2:decide ((16:Int)<(u.length:Int))=true:=decide_eq_true (by omega)
  clear h1 h2
  go_enter Tryz.func61,Tryz.ntmps61
  go_wp2
  go_ret
  exact ⟨by rw[E.out];rfl,by (repeat (first | exact Below.refl _ _ | assumption | refine balloc ?_ _ | refine below_drewN ?_ _ | refine bstep (by assumption) ?_ | refine bstep (Past.prop _) ?_ | refine Below.setCell ?_ (by first | exact Nat.le_refl _ | (simp;done) | (simp;omega)) _))⟩
 have d1:decide ((u.length:Int)<1)=false:=decide_eq_false (by omega)
 have d2:decide ((16:Int)<(u.length:Int))=false:=decide_eq_false (by omega)
 obtain ⟨cap,w1,hrun,hb1,hz1,hcel⟩:=conv_u u w
 have HC:=hidE hcel
 have HL:=hidE (And.intro h1 h2)
 clear hcel h1 h2 slen
 go_enter Tryz.func61,Tryz.ntmps61
 go_upto_region 3 with fail
 go_wp2
 have hb0:Below w.heap.size w w1:=hb1
 clear hrun d1 d2
 go_loopw [16] (fun i wr=>∃ k:Nat,k≤u.length∧i = .int .i64 k∧(∀ j,j<k→chrB (u.getD j 0)=true)∧wr=w1) (fun i _=>u.length - (intOf i).toNat)
 case atStart=>exact ⟨0,Nat.zero_le _,rfl,fun j hj=>by omega,rfl⟩
 case round =>
  obtain ⟨k,hk,rfl,hs,rfl⟩:=hrel
  have HS:=hidE hs;clear hs
  by_cases hlt:k<u.length
  ·have e0:=HC.out k hlt
   have HN:=hidE (fun h=>name_no hlt h)
   have HQ:=hidE (fun h j (hj:j<k+1)=>show chrB (u.getD j 0)=true from by
    by_cases e:j=k
    ·subst e;exact h
    ·exact HS.out j (by omega))
   have hbt:(u.getD k 0).toNat<256:=(u.getD k 0).toNat_lt
   generalize u.getD k 0=b at *
   have HCH:=hidE (show chrB b=((decide (97≤b.toNat) && decide (b.toNat≤122)) || (decide (48≤b.toNat) && decide (b.toNat≤57))) from rfl)
   generalize hbn:b.toNat=n at *
   clear hbn
   go_wp2
   all_goals first
    | (go_ret;exact ⟨by rw[HN.out (by rw[HCH.out];simp;omega)];rfl,hb0⟩)
    | exact ⟨⟨k+1,by omega,by go_num,HQ.out (by rw[HCH.out];simp;omega),by first | trivial | rfl⟩,by simp[intOf];omega⟩
  ·have hkl:k=u.length:=by omega
   have h1:=HL.out.1;have h2:=HL.out.2
   have hall:=HS.out
   rw[hkl] at hall
   have HF:=hidE (name_yes (by omega) (by omega) hall)
   clear hkl HS h1 h2 hall
   go_wp2
   go_ret
   exact ⟨by rw[HF.out];rfl,hb0⟩
abbrev rvV (id seq:Int) (u:List UInt8) (fr to':Int) (vT vW vA:Value):Value := .agg #[.int .u32 id,.int .u32 seq,nmV u,.int .i64 fr,.int .i64 to',vT,vW,vA]
set_option maxRecDepth 100000 in
set_option maxHeartbeats 2000000 in
theorem may_c (id seq:Int) (u:List UInt8) (fr to':Int) (vT vW:Value) (a:Option Addr) (cap:Nat) (A:List Sg) (w:World) (hu:u.length≤1000000) (hl:A.length≤1000000000) (hA:ArgS w a A) :
  Calls Tryz.prog 18 #[rvV id seq u fr to' vT vW (.slice a A.length cap)] w fun e w'=>e = .returned (.bool (mayR id u A))∧Below w.heap.size w w':=by
 have HE:=hidE (fun w (h:ArgS w a A)=>ends_c A a cap w (by omega) h)
 have HN:=hidE (fun w=>isName_c u w hu)
 have HP:=hidE (fun w (h:ArgS w a A)=>isPos_c A a cap w hl h)
 have HA:=hidE hA
 have HM:=hidE (show mayR id u A=(decide (id≠0) && nameB u && decide (A.length≤1024) && posB A && (endsL A).2.2 && decide (0≤(endsL A).1) && decide ((endsL A).2.1≤1099511627776)) from rfl)
 clear hA hu
 generalize mayR id u A=b at *
 generalize endsL A=g at *
 obtain ⟨g1,g2,g3⟩:=g
 simp only at HE HM
 obtain ⟨w0,hw0⟩:∃ w0,w0=w.alloc (Obj.cells #[.int .u32 id,.int .u32 seq,nmV u,.int .i64 fr,.int .i64 to',vT,vW,.slice a A.length cap] 50):=⟨_,rfl⟩
 have B1:Blk w0 w.heap.size #[.int .u32 id,.int .u32 seq,nmV u,.int .i64 fr,.int .i64 to',vT,vW,.slice a A.length cap] 50:=by rw[hw0];exact Blk.made _ _ _
 have hb0:Below w.heap.size w w0:=by rw[hw0];(repeat (first | exact Below.refl _ _ | assumption | refine balloc ?_ _ | refine below_drewN ?_ _ | refine bstep (by assumption) ?_ | refine bstep (Past.prop _) ?_ | refine Below.setCell ?_ (by first | exact Nat.le_refl _ | (simp;done) | (simp;omega)) _))
 have HB:=hidE B1
 go_enter Tryz.func18,Tryz.ntmps18
 go_upto_region 1 with fail
 rw[←hw0]
 clear hw0
 have b7:=B1.cell 7;have bz:=B1.lt
 simp at b7
 clear B1
 go_upto_region 2 with ((with_reducible refine (HE.out _ (HA.out.past hb0)).mono ?_);rintro e w1 ⟨rfl,hb1⟩)
 have B1:=HB.out.past hb1
 have hb01:Below w.heap.size w w1:=by (repeat (first | exact Below.refl _ _ | assumption | refine balloc ?_ _ | refine below_drewN ?_ _ | refine bstep (by assumption) ?_ | refine bstep (Past.prop _) ?_ | refine Below.setCell ?_ (by first | exact Nat.le_refl _ | (simp;done) | (simp;omega)) _))
 have HA1:=hidE (HA.out.past hb01)
 clear b7 bz HE HB HA hb1 hb0
 have b0:=B1.cell 0;have b2:=B1.cell 2;have b7:=B1.cell 7;have bz:=B1.lt
 simp at b0 b2 b7
 by_cases h0:id=0
 ·have HF:=hidE (show b=false by rw[HM.out,h0];simp)
  subst h0
  clear HM HN HP
  go_wp2
  go_ret
  exact ⟨by rw[HF.out];rfl,by (repeat (first | exact Below.refl _ _ | assumption | refine balloc ?_ _ | refine below_drewN ?_ _ | refine bstep (by assumption) ?_ | refine bstep (Past.prop _) ?_ | refine Below.setCell ?_ (by first | exact Nat.le_refl _ | (simp;done) | (simp;omega)) _))⟩
 have d0:(id == 0)=false:=beq_eq_false_iff_ne.2 h0
 rw[show decide (id≠0)=true from decide_eq_true h0,Bool.true_and] at HM
 have d1:decide (id=0)=false:=decide_eq_false h0
 cases hn:nameB u
 ·rw[hn] at HN HM
  have HF:=hidE (show b=false by rw[HM.out];simp)
  clear HM HP hn
  go_wp2_with fail
  ((with_reducible refine (HN.out _).mono ?_);rintro e w2 ⟨rfl,hb2⟩)
  go_wp2
  go_ret
  exact ⟨by rw[HF.out];rfl,by (repeat (first | exact Below.refl _ _ | assumption | refine balloc ?_ _ | refine below_drewN ?_ _ | refine bstep (by assumption) ?_ | refine bstep (Past.prop _) ?_ | refine Below.setCell ?_ (by first | exact Nat.le_refl _ | (simp;done) | (simp;omega)) _))⟩
 rw[hn] at HN HM
 clear hn
 have B2':=hidE B1
 have hA2:=HA1.out
 by_cases hlen:1024<A.length
 ·have HF:=hidE (show b=false by rw[HM.out,decide_eq_false (show ¬(A.length≤1024) from by omega)];simp)
  have d2:decide ((A.length:Int)≤1024)=false:=decide_eq_false (by omega)
  clear HM HP hlen
  go_wp2_with fail
  ((with_reducible refine (HN.out _).mono ?_);rintro e w2 ⟨rfl,hb2⟩)
  have b7':=(B2'.out.past hb2).cell 7
  simp at b7'
  go_wp2
  go_ret
  exact ⟨by rw[HF.out];rfl,by (repeat (first | exact Below.refl _ _ | assumption | refine balloc ?_ _ | refine below_drewN ?_ _ | refine bstep (by assumption) ?_ | refine bstep (Past.prop _) ?_ | refine Below.setCell ?_ (by first | exact Nat.le_refl _ | (simp;done) | (simp;omega)) _))⟩
 rw[decide_eq_true (show A.length≤1024 from by omega)] at HM
 have d2:decide ((A.length:Int)≤1024)=true:=decide_eq_true (by omega)
 cases hp:posB A
 ·rw[hp] at HP HM
  have HF:=hidE (show b=false by rw[HM.out];simp)
  clear HM hp hlen
  go_wp2_with fail
  ((with_reducible refine (HN.out _).mono ?_);rintro e w2 ⟨rfl,hb2⟩)
  have b7':=(B2'.out.past hb2).cell 7
  simp at b7'
  go_wp2_with fail
  ((with_reducible refine (HP.out _ (HA1.out.past hb2)).mono ?_);rintro e w3 ⟨rfl,hb3⟩)
  go_wp2
  go_ret
  exact ⟨by rw[HF.out];rfl,by (repeat (first | exact Below.refl _ _ | assumption | refine balloc ?_ _ | refine below_drewN ?_ _ | refine bstep (by assumption) ?_ | refine bstep (Past.prop _) ?_ | refine Below.setCell ?_ (by first | exact Nat.le_refl _ | (simp;done) | (simp;omega)) _))⟩
 rw[hp] at HP HM
 have HF:=hidE (show b=(g3 && decide (0≤g1) && decide (g2≤1099511627776)) by rw[HM.out];simp)
 clear HM hp hlen
 go_wp2_with fail
 ((with_reducible refine (HN.out _).mono ?_);rintro e w2 ⟨rfl,hb2⟩)
 have b7':=(B2'.out.past hb2).cell 7
 simp at b7'
 go_wp2_with fail
 ((with_reducible refine (HP.out _ (HA1.out.past hb2)).mono ?_);rintro e w3 ⟨rfl,hb3⟩)
 go_wp2
 all_goals
  go_ret
  exact ⟨by rw[HF.out];simp[*]<;>omega,by (repeat (first | exact Below.refl _ _ | assumption | refine balloc ?_ _ | refine below_drewN ?_ _ | refine bstep (by assumption) ?_ | refine bstep (Past.prop _) ?_ | refine Below.setCell ?_ (by first | exact Nat.le_refl _ | (simp;done) | (simp;omega)) _))⟩
theorem srcV_below {w w':World} {sz n:Nat} {v:Value} {ys:List Value} (h:SrcV w sz v n ys) (hb:Below w.heap.size w w'):SrcV w' sz v n ys:=by
 obtain ⟨a,cap,e,h0,h1,h2,h3⟩:=h
 refine ⟨a,cap,e,h0,h1,h2,fun ad ha j u hu => ?_⟩
 have hc:=h3 ad ha j u hu
 exact (hb.cell (World.block_lt_of_cell? w _ hc)).trans hc
theorem own_src {w:World} {B:Nat} {e:TypeId} {sz:Nat} {v:Value} {n:Nat} {xs:List Value} (h:w.ownsRow B e sz v n xs) (h1:∀ u∈xs,u.oneCell'=true):SrcV w sz v n xs:=by
 have hl:=h.1
 obtain ⟨_,h2 | ⟨g,cap,cur,h3,h4,h5,h6⟩⟩:=id h
 ·obtain ⟨rfl,rfl⟩:=h2
  exact ⟨none,0,rfl,fun _=>⟨rfl,rfl⟩,hl,h1,fun ad e=>by cases e⟩
 ·subst h3
  exact ⟨_,cap,rfl,(fun e=>by cases e),hl,h1,fun ad e j u hu=>by cases e;exact h.cells rfl j u hu⟩
def CopyIs (w:World) (e:TypeId) (sz n:Nat) (ys:List Value) (x:Ending) (w':World):Prop:=∃ v,x = .returned v∧w'.ownsRow w.heap.size e sz v n ys∧Below w.heap.size w w'
theorem copiedSeg_c {w:World} {v:Value} {n:Nat} {ys:List Value} (h:SrcV w 3 v n ys) (hn:n≤1099511627776) :
  Calls Tryz.prog 57 #[v] w (CopyIs w 100 3 n ys):=by
 obtain ⟨ix,hix,hz0,hz1,hz2⟩:=info_parts Tryz.infoSeg
 have HI:=hidE hix;have HZ0:=hidE hz0;have HZ1:=hidE hz1;have HZ2:=hidE hz2;have HS:=hidE h
 obtain ⟨a,cap,rfl,_,_,_,_⟩:=h
 clear hix hz0 hz1 hz2
 go_enter Tryz.func57,Tryz.ntmps57
 go_wp2_with (at_builtin;go_loud (refine list_appV rfl (.const (.slice none 0 0)) (.tmp 3) 22 rfl w.heap.size 100 ix _ 3 24 Tryz.underlying22 HI.out HZ0.out HZ1.out HZ2.out rfl (by decide) (.slice none 0 0) 0 [] rfl (own_nil _ _ _) _ n ys rfl HS.out (by omega) (by omega) (Nat.le_refl _) ?_);intro v1 w5 own1 hg1;rw[Nat.zero_add,List.nil_append] at own1)
 go_ret
 exact ⟨v1,rfl,own1,Below.grown (Below.refl _ _) hg1 (Nat.le_refl _) (fun k e=>by cases e)⟩
theorem copiedPart_c {w:World} {v:Value} {n:Nat} {ys:List Value} (h:SrcV w 5 v n ys) (hn:n≤1099511627776) :
  Calls Tryz.prog 100 #[v] w (CopyIs w 169 5 n ys):=by
 obtain ⟨ix,hix,hz0,hz1,hz2⟩:=info_parts Tryz.infoPart
 have HI:=hidE hix;have HZ0:=hidE hz0;have HZ1:=hidE hz1;have HZ2:=hidE hz2;have HS:=hidE h
 obtain ⟨a,cap,rfl,_,_,_,_⟩:=h
 clear hix hz0 hz1 hz2
 go_enter Tryz.func100,Tryz.ntmps100
 go_wp2_with (at_builtin;go_loud (refine list_appV rfl (.const (.slice none 0 0)) (.tmp 3) 45 rfl w.heap.size 169 ix _ 5 32 Tryz.underlying45 HI.out HZ0.out HZ1.out HZ2.out rfl (by decide) (.slice none 0 0) 0 [] rfl (own_nil _ _ _) _ n ys rfl HS.out (by omega) (by omega) (Nat.le_refl _) ?_);intro v1 w5 own1 hg1;rw[Nat.zero_add,List.nil_append] at own1)
 go_ret
 exact ⟨v1,rfl,own1,Below.grown (Below.refl _ _) hg1 (Nat.le_refl _) (fun k e=>by cases e)⟩
theorem Tryz.infoPcQ:(Tryz.prog.info? 172).map (fun i=>(i.zero,i.size,i.bytes))=some (some (.agg #[.int .i64 0,.int .i64 0]),2,16):=by kernel_rfl
theorem copiedPiece_c {w:World} {v:Value} {n:Nat} {ys:List Value} (h:SrcV w 2 v n ys) (hn:n≤1099511627776) :
  Calls Tryz.prog 101 #[v] w (CopyIs w 172 2 n ys):=by
 obtain ⟨ix,hix,hz0,hz1,hz2⟩:=info_parts Tryz.infoPcQ
 have HI:=hidE hix;have HZ0:=hidE hz0;have HZ1:=hidE hz1;have HZ2:=hidE hz2;have HS:=hidE h
 obtain ⟨a,cap,rfl,_,_,_,_⟩:=h
 clear hix hz0 hz1 hz2
 go_enter Tryz.func101,Tryz.ntmps101
 go_wp2_with (at_builtin;go_loud (refine list_appV rfl (.const (.slice none 0 0)) (.tmp 3) 48 rfl w.heap.size 172 ix _ 2 16 Tryz.underlying48 HI.out HZ0.out HZ1.out HZ2.out rfl (by decide) (.slice none 0 0) 0 [] rfl (own_nil _ _ _) _ n ys rfl HS.out (by omega) (by omega) (Nat.le_refl _) ?_);intro v1 w5 own1 hg1;rw[Nat.zero_add,List.nil_append] at own1)
 go_ret
 exact ⟨v1,rfl,own1,Below.grown (Below.refl _ _) hg1 (Nat.le_refl _) (fun k e=>by cases e)⟩
end
section
open Go.ChangeShapes Go.WideShapes Go.ChangeAt Go.RowKit
structure Rw where
 id:Int
 seq:Int
 u:List UInt8
 fr:Int
 to':Int
 vT:Value
 vW:Value
 vA:Value
def rw0:Rw:=⟨0,0,[],0,0,.slice none 0 0,.slice none 0 0,.slice none 0 0⟩
abbrev Rw.cells (x:Rw):List Value:=[.int .u32 x.id,.int .u32 x.seq,nmV x.u,.int .i64 x.fr,.int .i64 x.to',x.vT,x.vW,x.vA]
abbrev rwV (x:Rw):Value:=rvV x.id x.seq x.u x.fr x.to' x.vT x.vW x.vA
def Rw.fit (x:Rw):Prop:=(∃ a n c,x.vT = .slice a n c)∧(∃ a n c,x.vW = .slice a n c)∧(∃ a n c,x.vA = .slice a n c)∧x.u.length≤maxLen
def cellsRw:List Rw→List Value
 | []=>[]
 | x :: r => .int .u32 x.id :: .int .u32 x.seq :: nmV x.u :: .int .i64 x.fr :: .int .i64 x.to' :: x.vT :: x.vW :: x.vA :: cellsRw r
theorem cellsRw_len:∀ l,(cellsRw l).length=l.length * 8
 | []=>rfl
 | s :: r=>by simp only[cellsRw,List.length_cons,cellsRw_len r];omega
theorem cellsRw_app:∀ l r,cellsRw (l++r)=cellsRw l++cellsRw r
 | [],_=>rfl
 | s :: l,r=>by simp only[cellsRw,List.cons_append,cellsRw_app l r]
theorem cellsRw_one:∀ l:List Rw,(∀ x∈l,x.fit)→∀ v∈cellsRw l,v.oneCell'=true
 | [],_,v,h=>by simp[cellsRw] at h
 | x :: l, hx, v, h => by
   obtain ⟨⟨a1,n1,c1,e1⟩,⟨a2,n2,c2,e2⟩,⟨a3,n3,c3,e3⟩,_⟩:=hx x (List.mem_cons_self ..)
   simp only[cellsRw,List.mem_cons] at h
   rcases h with rfl | rfl | rfl | rfl | rfl | rfl | rfl | rfl | h
   ·rfl
   ·rfl
   ·rfl
   ·rfl
   ·rfl
   ·rw[e1];rfl
   ·rw[e2];rfl
   ·rw[e3];rfl
   ·exact cellsRw_one l (fun y hy=>hx y (List.mem_cons_of_mem _ hy)) v h
theorem cellsRw_get:∀ (l:List Rw) (i j:Nat),i<l.length→j<8→(cellsRw l)[i * 8+j]? = (l.getD i rw0).cells[j]?
 | [],i,j,h,_=>by simp at h
 | s :: l, 0, j, _, hj => by
   match j,hj with
   | 0,_=>rfl
   | 1,_=>rfl
   | 2,_=>rfl
   | 3,_=>rfl
   | 4,_=>rfl
   | 5,_=>rfl
   | 6,_=>rfl
   | 7,_=>rfl
 | s :: l, i + 1, j, h, hj => by
   have e:(i+1) * 8+j=(i * 8+j)+1+1+1+1+1+1+1+1:=by omega
   rw[e]
   simp only[cellsRw,List.getElem?_cons_succ,List.getD_cons_succ]
   exact cellsRw_get l i j (by simpa using h) hj
def CellsRw (w:World) (b off:Nat) (l:List Rw):Prop:=∀ i j,i<l.length→j<8→w.cell? ⟨b,off+i * 8+j,none⟩=(l.getD i rw0).cells[j]?
theorem CellsRw.get {w:World} {b off:Nat} {l:List Rw} (h:CellsRw w b off l) {i:Nat} (hi:i<l.length) :
  w.cell? ⟨b,off+i * 8,none⟩=some (.int .u32 (l.getD i rw0).id)∧w.cell? ⟨b,off+i * 8+1,none⟩=some (.int .u32 (l.getD i rw0).seq)∧w.cell? ⟨b,off+i * 8+2,none⟩=some (nmV (l.getD i rw0).u) ∧
  w.cell? ⟨b,off+i * 8+3,none⟩=some (.int .i64 (l.getD i rw0).fr)∧w.cell? ⟨b,off+i * 8+4,none⟩=some (.int .i64 (l.getD i rw0).to')∧w.cell? ⟨b,off+i * 8+5,none⟩=some (l.getD i rw0).vT ∧
  w.cell? ⟨b,off+i * 8+6,none⟩=some (l.getD i rw0).vW∧w.cell? ⟨b,off+i * 8+7,none⟩=some (l.getD i rw0).vA :=
 ⟨h i 0 hi (by omega),h i 1 hi (by omega),h i 2 hi (by omega),h i 3 hi (by omega),h i 4 hi (by omega),h i 5 hi (by omega),h i 6 hi (by omega),h i 7 hi (by omega)⟩
def SliRw (w:World) (v:Value) (l:List Rw):Prop:=∃ (a:Option Addr) (cap:Nat),v = .slice a l.length cap∧l.length≤cap∧cap≤9223372036854775807∧(a=none→l.length=0∧cap=0) ∧
 (0<l.length→∃ b off,a=some ⟨b,off,none⟩∧b<w.heap.size∧CellsRw w b off l)∧∀ x∈l,x.fit
theorem SliRw.past {w w':World} {v:Value} {l:List Rw} (h:SliRw w v l) (hb:Below w.heap.size w w'):SliRw w' v l:=by
 obtain ⟨a,cap,e,h1,h2,h3,h4,h5⟩:=h
 refine ⟨a,cap,e,h1,h2,h3,fun hl => ?_,h5⟩
 obtain ⟨b,off,e2,h6,h7⟩:=h4 hl
 exact ⟨b,off,e2,Nat.lt_of_lt_of_le h6 hb.size,fun i j hi hj=>(hb.cell (p:=⟨b,_,none⟩) h6).trans (h7 i j hi hj)⟩
theorem sliRw_nil (w:World):SliRw w (.slice none 0 0) []:=⟨none,0,rfl,Nat.le_refl _,by omega,fun _=>⟨rfl,rfl⟩,fun h=>by simp at h,fun x h=>by simp at h⟩
theorem sliRw_own {w:World} {B:Nat} {e:TypeId} {v:Value} {l:List Rw} (h:w.ownsRow B e 8 v l.length (cellsRw l)) (hf:∀ x∈l,x.fit):SliRw w v l:=by
 have h':=h
 obtain ⟨h1,h2 | ⟨g,cap,cur,h3,h4,h5,h6,h7,h8,h9⟩⟩:=h
 ·refine ⟨none,0,by rw[h2.1,h2.2],by omega,by omega,fun _=>⟨h2.2,rfl⟩,fun hl=>by omega,hf⟩
 ·subst h3
  refine ⟨_,cap,rfl,h6,(by unfold maxLen at h7;omega),(fun e=>by cases e),fun hl=>⟨g,0,rfl,lt_of_block h5,fun i j hi hj => ?_⟩,hf⟩
  rw[Nat.zero_add,h'.cellAt (i * 8+j) (by omega),cellsRw_get l i j hi hj]
theorem SliRw.src {w:World} {v:Value} {l:List Rw} (h:SliRw w v l):SrcV w 8 v l.length (cellsRw l):=by
 obtain ⟨a,cap,e,h1,h2,h3,h4,h5⟩:=h
 refine ⟨a,cap,e,h3,cellsRw_len l,cellsRw_one l h5, ?_⟩
 rintro ad rfl k u hk
 have hkl:k<l.length * 8:=by
  obtain ⟨hlt,_⟩:=List.getElem?_eq_some_iff.1 hk
  rw[cellsRw_len] at hlt;exact hlt
 obtain ⟨b,off,e2,_,hc⟩:=h4 (by omega)
 cases e2
 have:=hc (k / 8) (k % 8) (by omega) (by omega)
 rw[show off+k / 8 * 8+k % 8=off+k from by omega,←cellsRw_get l _ _ (by omega) (by omega),show k / 8 * 8+k % 8=k from by omega,hk] at this
 rw[←this]
 unfold Addr.add
 by_cases c:k=0
 ·subst c;simp
 ·simp[c]
theorem own_base {w:World} {B B':Nat} {e:TypeId} {sz:Nat} {v:Value} {n:Nat} {xs:List Value} (h:w.ownsRow B e sz v n xs) (hb:B'≤B):w.ownsRow B' e sz v n xs:=by
 obtain ⟨h1,h2 | ⟨g,cap,cur,h3,h4,h5,h6⟩⟩:=h
 ·exact ⟨h1,.inl h2⟩
 ·exact ⟨h1,.inr ⟨g,cap,cur,h3,Nat.le_trans hb h4,h5,h6⟩⟩
theorem blk_eight {W:World} {p:Nat} {v0 v1 v2 v3 v4 v5 v6 v7:Value} {t:TypeId} (h:Blk W p #[v0,v1,v2,v3,v4,v5,v6,v7] t) (u0 u1 u2 u3 u4 u5 u6 u7:Value) :
  Blk ((((((((W.setCell ⟨p,0,none⟩ u0).setCell ⟨p,1,none⟩ u1).setCell ⟨p,2,none⟩ u2).setCell ⟨p,3,none⟩ u3).setCell ⟨p,4,none⟩ u4).setCell ⟨p,5,none⟩ u5).setCell ⟨p,6,none⟩ u6).setCell ⟨p,7,none⟩ u7) p #[u0,u1,u2,u3,u4,u5,u6,u7] t:=by
 simpa using (((((((h.set 0 u0).set 1 u1).set 2 u2).set 3 u3).set 4 u4).set 5 u5).set 6 u6).set 7 u7
theorem below_eight {B:Nat} {w W:World} {p:Nat} (h:Below B w W) (hp:B≤p) (u0 u1 u2 u3 u4 u5 u6 u7:Value) :
  Below B w ((((((((W.setCell ⟨p,0,none⟩ u0).setCell ⟨p,1,none⟩ u1).setCell ⟨p,2,none⟩ u2).setCell ⟨p,3,none⟩ u3).setCell ⟨p,4,none⟩ u4).setCell ⟨p,5,none⟩ u5).setCell ⟨p,6,none⟩ u6).setCell ⟨p,7,none⟩ u7) :=
 (((((((h.setCell hp _).setCell hp _).setCell hp _).setCell hp _).setCell hp _).setCell hp _).setCell hp _).setCell hp _
theorem heap_eight {W:World} {p k:Nat} (hk:k≠p) (u0 u1 u2 u3 u4 u5 u6 u7:Value) :
  ((((((((W.setCell ⟨p,0,none⟩ u0).setCell ⟨p,1,none⟩ u1).setCell ⟨p,2,none⟩ u2).setCell ⟨p,3,none⟩ u3).setCell ⟨p,4,none⟩ u4).setCell ⟨p,5,none⟩ u5).setCell ⟨p,6,none⟩ u6).setCell ⟨p,7,none⟩ u7).heap[k]? = W.heap[k]? :=
 (keptS hk _).trans ((keptS hk _).trans ((keptS hk _).trans ((keptS hk _).trans ((keptS hk _).trans ((keptS hk _).trans ((keptS hk _).trans (keptS hk _)))))))
end
section
open Go.RowKit Go.Sort
def Grw (w w':World):Prop:=∃ (q:Nat) (os:Array Obj),w'=grow (w.drewN q) os
theorem Grw.refl (w:World):Grw w w:=⟨0,#[],by simp[World.drewN_zero]⟩
theorem Grw.drew {w w':World} (h:Grw w w'):Grw w w'.drew:=by
 obtain ⟨q,os,rfl⟩:=h
 exact ⟨q+1,os,by rw[drew_grow];rfl⟩
theorem Grw.trans {a b c:World} (h:Grw a b) (k:Grw b c):Grw a c:=by
 obtain ⟨q,os,rfl⟩:=h
 obtain ⟨p,os',rfl⟩:=k
 refine ⟨q+p,os++os', ?_⟩
 rw[←grow_grow]
 unfold grow World.drewN
 simp[Nat.add_assoc]
theorem Grw.alloc {w w':World} (h:Grw w w') (o:Obj):Grw w (w'.alloc o):=h.trans ⟨0,#[o],by rw[World.drewN_zero,alloc_eq_grow]⟩
theorem Grw.size {w w':World} (h:Grw w w'):w.heap.size≤w'.heap.size:=by
 obtain ⟨q,os,rfl⟩:=h
 rw[size_grow];exact Nat.le_add_right _ _
theorem Grw.below {w w':World} (h:Grw w w'):Below w.heap.size w w':=by
 obtain ⟨q,os,rfl⟩:=h
 refine ⟨rfl,rfl,rfl,by rw[size_grow];exact Nat.le_add_right _ _,fun k hk => ?_⟩
 show (w.heap++os)[k]? = _
 rw[Array.getElem?_append_left hk]
namespace JD
structure JInv (l:List Oper) (n:Nat) (a0:Act) (w0:World) (R:Nat→Value→World→Prop) (fr:Nat→Bool) (u:Nat→Value) (listed:Array Bool) (a:Act) (w:World):Prop where
 shut:Shut l.toArray listed
 notail:∀ j,n≤j→j<l.length→listed.getD j false=false
 size:a.tmps.size=a0.tmps.size
 defers:a.defers=a0.defers
 mine:∀ (j:Nat) (o:Oper) (t:Tmp),j<n→l[j]? = some o→listed.getD j false=true→o.dst=some t→t<a0.tmps.size→a.tmps[t]? = some (u j)
 rest:∀ (t:Tmp),(∀ (j:Nat) (o:Oper),j<n→l[j]? = some o→listed.getD j false=true→o.dst≠some t)→a.tmps[t]? = a0.tmps[t]?
 past:Grw w0 w
 facts:∀ j,j<n→listed.getD j false=true→R j (u j) w
 fresh:∀ j,j<n→listed.getD j false=true→fr j=true→∃ p,u j = .pointer (some ⟨p,0,none⟩)∧p<w.heap.size
 apart:∀ i j,i<n→j<n→i≠j→listed.getD i false=true→listed.getD j false=true→fr i=true→fr j=true→u i≠u j
def JStep (P:Program) (l:List Oper) (n:Nat) (a0:Act) (w0:World) (R:Nat→Value→World→Prop) (fr:Nat→Bool) (i:Nat) (o:Oper):Prop :=
 ∀ (u : Nat → Value) (x : {x : World // Grw w0 x}), (∀ j, j < n → waits l.toArray i j = true → R j (u j) x.1) →
   if Region.wanted o (yielded l.toArray (frm (l.take n) u 0 a0).tmps) then
    gives P (fun v w'=>Grw x.1 w'∧R i v w'∧(fr i=true→∃ p,v = .pointer (some ⟨p,0,none⟩)∧x.1.heap.size≤p∧p<w'.heap.size)) ((execOp (frm (l.take n) u 0 a0).eval o).run P x.1)
   else R i undef x.1∧fr i=false
section
variable {P:Program} {l:List Oper} {n:Nat} {lax:List Nat} {a0:Act} {w0:World} {R:Nat→Value→World→Prop} {fr:Nat→Bool}
theorem look_same (_hn:n≤l.length) (hok:JOk l n lax) {u:Nat→Value} {listed:Array Bool} {a:Act} {w:World} (hI:JInv l n a0 w0 R fr u listed a w)
  {i:Nat} {o:Oper} (hi:i<n) (ho:l[i]? = some o) (hd:∀ e∈o.after,Region.binds .any e=true→listed.getD e.on false=true) :
  ∀ t,t∈o.looksAt l.toArray→a.tmps[t]? = (frm (l.take n) u 0 a0).tmps[t]? := by
 intro t ht
 obtain ⟨f1,_,f3,f4⟩:=frm_spec u (l.take n) 0 a0
 by_cases h:∃ (j:Nat) (p:Oper),j<n∧l[j]? = some p∧p.dst=some t
 ·obtain ⟨j,p,hj,hp,hpt⟩:=h
  have hw:=hok.own i o j p t hi hj ho hp hpt ht
  have hl:=waits_listed (ops:=l.toArray) (i:=i) (by simpa using ho) hd hw
  rcases Nat.lt_or_ge t a0.tmps.size with hlt | hge
  ·rw[hI.mine j p t hj hp hl hpt hlt,f4 j p t (by rw[List.getElem?_take,if_pos hj];exact hp) hpt (fun k q hq hne => ?_) hlt]
   ·simp
   ·intro hqt
    rw[List.getElem?_take] at hq
    split at hq
    ·rename_i hk;exact hne (hok.one k q j p t hk hj hq hp hpt hqt)
    ·cases hq
  ·rw[Array.getElem?_eq_none (by rw[hI.size];exact hge),Array.getElem?_eq_none (by rw[f1];exact hge)]
 ·rw[hI.rest t (fun j p hj hp _ hpt=>h ⟨j,p,hj,hp,hpt⟩),f3 t (fun j p hp hpt => ?_)]
  rw[List.getElem?_take] at hp
  split at hp
  ·rename_i hk;exact h ⟨j,p,hk,hp,hpt⟩
  ·cases hp
theorem exec_same {a a':Act} {o:Oper} {ops:Array Oper} (hs:∀ cs b,o.op ≠ .select cs b) (h:∀ t,t∈o.looksAt ops→a.tmps[t]? = a'.tmps[t]?):execOp a.eval o=execOp a'.eval o:=by
 refine execOp_congr o hs fun x hx => ?_
 cases x with
 | tmp t =>
  have:=h t (List.mem_append_left _ (List.mem_filterMap.2 ⟨.tmp t,by simpa using hx,rfl⟩))
  simp only[Act.eval,Array.getD_eq_getD_getElem?,this]
 | const v=>rfl
 | global g=>rfl
 | func f=>rfl
theorem wanted_same {a a':Act} {o:Oper} {ops:Array Oper} (h:∀ t,t∈o.looksAt ops→a.tmps[t]? = a'.tmps[t]?) :
  Region.wanted o (yielded ops a.tmps)=Region.wanted o (yielded ops a'.tmps):=by
 unfold Region.wanted
 cases hg:o.guard with
 | none=>rfl
 | some gw =>
  obtain ⟨g,want⟩:=gw
  have hy:yielded ops a.tmps g=yielded ops a'.tmps g:=by
   unfold yielded
   cases ht:(ops[g]?).bind (·.dst) with
   | none=>rfl
   | some t=>simp only[Option.bind_some,h t (List.mem_append_right _ (by simp[hg,ht]))]
  simp only[hy]
theorem JInv.next (hok:JOk l n lax) (hst:∀ i v w w',R i v w→Grw w w'→R i v w') {u:Nat→Value} {listed:Array Bool} {a:Act} {w:World} (hI:JInv l n a0 w0 R fr u listed a w)
  {i:Nat} {o:Oper} (hi:i<n) (hn:n≤l.length) (ho:l[i]? = some o) (hun:listed.getD i false=false) (hd:∀ e∈o.after,Region.binds .any e=true→listed.getD e.on false=true)
  {v:Value} {w':World} (hb:Grw w w') (hR:R i v w') (hf:fr i=true→∃ p,v = .pointer (some ⟨p,0,none⟩)∧w.heap.size≤p∧p<w'.heap.size) :
  JInv l n a0 w0 R fr (fun j=>if j=i then v else u j) (listed.setIfInBounds i true) (a.put o.dst v) w':=by
 have hsz:(a.put o.dst v).tmps.size=a.tmps.size:=by cases o.dst<;>simp[Act.put]
 have hil:i<listed.size:=by rw[hI.shut.size];simp;omega
 have hne:∀ j,j≠i→(listed.setIfInBounds i true).getD j false=listed.getD j false:=fun j h=>getD_set_ne false (Ne.symm h)
 refine ⟨⟨by simpa using hI.shut.size, ?_⟩, ?_,by rw[hsz];exact hI.size, ?_, ?_, ?_, ?_, ?_, ?_, ?_⟩
 ·intro k ok hk hkl e he hbd
  by_cases hki:k=i
  ·subst hki
   have : ok = o := by have : l.toArray[k]? = some o := by simpa using ho
                       rw[this] at hk;exact (Option.some.inj hk).symm
   subst this
   exact getD_set_true (hd e he hbd)
  ·rw[hne k hki] at hkl
   exact getD_set_true (hI.shut.deps k ok hk hkl e he hbd)
 ·intro j hj hjl
  rw[hne j (by omega)];exact hI.notail j hj hjl
 ·have:(a.put o.dst v).defers=a.defers:=by cases o.dst<;>rfl
  rw[this];exact hI.defers
 ·intro j p t hj hp hl hpt hlt
  by_cases hji:j=i
  ·subst hji
   have:p=o:=by rw[ho] at hp;exact (Option.some.inj hp).symm
   subst this
   simp[Act.put,hpt,hI.size,hlt]
  ·rw[hne j hji] at hl
   have hdst:o.dst≠some t:=fun h=>hji (hok.one j p i o t hj hi hp ho h hpt)
   have:(a.put o.dst v).tmps[t]? = a.tmps[t]? := by
    cases hod:o.dst with
    | none=>rfl
    | some d => have : d ≠ t := fun e => hdst (by rw [hod, e])
                simp[Act.put,Array.getElem?_setIfInBounds_ne this]
   rw[this,if_neg hji]
   exact hI.mine j p t hj hp hl hpt hlt
 ·intro t ht
  have hdst:o.dst≠some t:=ht i o hi ho (by simp[hil])
  have:(a.put o.dst v).tmps[t]? = a.tmps[t]? := by
   cases hod:o.dst with
   | none=>rfl
   | some d => have : d ≠ t := fun e => hdst (by rw [hod, e])
               simp[Act.put,Array.getElem?_setIfInBounds_ne this]
  rw[this]
  exact hI.rest t fun j p hj hp hl=>ht j p hj hp (getD_set_true hl)
 ·exact hI.past.trans hb
 ·intro j hj hl
  by_cases hji:j=i
  ·subst hji;simpa using hR
  ·rw[hne j hji] at hl
   simp only[if_neg hji]
   exact hst _ _ _ _ (hI.facts j hj hl) hb
 ·intro j hj hl hfj
  by_cases hji:j=i
  ·subst hji
   obtain ⟨p,h1,_,h3⟩:=hf hfj
   exact ⟨p,by simpa using h1,h3⟩
  ·rw[hne j hji] at hl
   obtain ⟨p,h1,h2⟩:=hI.fresh j hj hl hfj
   exact ⟨p,by simpa [if_neg hji] using h1,Nat.lt_of_lt_of_le h2 hb.size⟩
 ·intro j k hj hk hjk hjl hkl hfj hfk
  by_cases hji:j=i
  ·subst hji
   rw[hne k (Ne.symm hjk)] at hkl
   obtain ⟨p,h1,h2,_⟩:=hf hfj
   obtain ⟨q,h3,h4⟩:=hI.fresh k hk hkl hfk
   simp only[if_true,if_neg (Ne.symm hjk),h1,h3]
   intro h;(simp at h<;>omega)
  ·by_cases hki:k=i
   ·subst hki
    rw[hne j hji] at hjl
    obtain ⟨p,h1,h2,_⟩:=hf hfk
    obtain ⟨q,h3,h4⟩:=hI.fresh j hj hjl hfj
    simp only[if_true,if_neg hji,h1,h3]
    intro h;(simp at h<;>omega)
   ·rw[hne j hji] at hjl;rw[hne k hki] at hkl
    simp only[if_neg hji,if_neg hki]
    exact hI.apart j k hj hk hjk hjl hkl hfj hfk
theorem JInv.whole (hok:JOk l n lax) {u:Nat→Value} {listed:Array Bool} {a:Act} {w:World} (hI:JInv l n a0 w0 R fr u listed a w) (_hn:n≤l.length)
  (hall:∀ j,j<n→listed.getD j false=true):a=frm (l.take n) u 0 a0:=by
 obtain ⟨f1,f2,f3,f4⟩:=frm_spec u (l.take n) 0 a0
 have htm:a.tmps=(frm (l.take n) u 0 a0).tmps:=by
  apply Array.ext_getElem?
  intro t
  by_cases h:∃ (j:Nat) (p:Oper),j<n∧l[j]? = some p∧p.dst=some t
  ·obtain ⟨j,p,hj,hp,hpt⟩:=h
   rcases Nat.lt_or_ge t a0.tmps.size with hlt | hge
   ·rw[hI.mine j p t hj hp (hall j hj) hpt hlt,f4 j p t (by rw[List.getElem?_take,if_pos hj];exact hp) hpt (fun k q hq hne => ?_) hlt]
    ·simp
    ·intro hqt
     rw[List.getElem?_take] at hq
     split at hq
     ·rename_i hk;exact hne (hok.one k q j p t hk hj hq hp hpt hqt)
     ·cases hq
   ·rw[Array.getElem?_eq_none (by rw[hI.size];exact hge),Array.getElem?_eq_none (by rw[f1];exact hge)]
  ·rw[hI.rest t (fun j p hj hp _ hpt=>h ⟨j,p,hj,hp,hpt⟩),f3 t (fun j p hp hpt => ?_)]
   rw[List.getElem?_take] at hp
   split at hp
   ·rename_i hk;exact h ⟨j,p,hk,hp,hpt⟩
   ·cases hp
 have hde:a.defers=(frm (l.take n) u 0 a0).defers:=by rw[f2];exact hI.defers
 cases a;cases hq:frm (l.take n) u 0 a0
 rw[hq] at htm hde
 simp only at htm hde
 rw[htm,hde]
def left (n:Nat) (listed:Array Bool):Nat:=((List.range n).filter fun j => !listed.getD j false).length
theorem left_set {n i:Nat} {listed:Array Bool} (hi:i<n) (hil:i<listed.size) (hun:listed.getD i false=false):left n (listed.setIfInBounds i true)+1≤left n listed:=by
 unfold left
 have h1:(List.range n).filter (fun j => !(listed.setIfInBounds i true).getD j false)=((List.range n).filter fun j => !listed.getD j false).filter (fun j=>j != i):=by
  rw[List.filter_filter]
  refine List.filter_congr fun j _ => ?_
  by_cases hji:j=i
  ·subst hji;simp[hil]
  ·rw[getD_set_ne false (Ne.symm hji)];simp[hji]
 rw[h1]
 have hmem:i∈(List.range n).filter fun j => !listed.getD j false:=by simp[List.mem_filter,hi];simpa using hun
 have:(((List.range n).filter fun j => !listed.getD j false).filter (fun j=>j != i)).length<((List.range n).filter fun j => !listed.getD j false).length:=by
  apply Nat.lt_of_not_le
  intro hle
  have:=(List.filter_sublist (p:=fun j=>j != i) (l:=(List.range n).filter fun j => !listed.getD j false)).eq_of_length_le hle
  rw[←this] at hmem
  simp at hmem
 omega
def JLax (P:Program) (l:List Oper) (n:Nat) (a0:Act) (w0:World) (R:Nat→Value→World→Prop) (fr:Nat→Bool) (Q:Exit→Act→World→Prop) (i:Nat) (o:Oper):Prop :=
 fr i=false ∧
 (∀ c a w v,Q (.panic c) (a.put o.dst v) w→Q (.panic c) a w) ∧
 ∀ (u : Nat → Value) (x : {x : World // Grw w0 x}), (∀ j, j < n → waits l.toArray i j = true → R j (u j) x.1) →
   Region.wanted o (yielded l.toArray (frm (l.take n) u 0 a0).tmps)=true∧∃ v,R i v x.1∧∀ w,(execOp (frm (l.take n) u 0 a0).eval o).run P w = .ok (.value v) w
theorem prefix_any {Q:Exit→Act→World→Prop} (hn:n≤l.length) (hok:JOk l n lax) (hst:∀ i v w w',R i v w→Grw w w'→R i v w')
  (hstep:∀ (i:Nat) (o:Oper),i<n→l[i]? = some o→JStep P l n a0 w0 R fr i o)
  (hlax:∀ (i:Nat) (o:Oper),i∈lax→l[i]? = some o→JLax P l n a0 w0 R fr Q i o)
  (htail:∀ (u:Nat→Value) (x:{x:World // Grw w0 x}),(∀ i,i<n→R i (u i) x.1)→(∀ i j,i<n→j<n→i≠j→fr i=true→fr j=true→u i≠u j)→wpList P l.toArray Q (l.drop n) (frm (l.take n) u 0 a0) x.1) :
  ∀ (m fuel:Nat) (u:Nat→Value) (listed:Array Bool) (a:Act) (w:World),left n listed≤m→m+(l.length - n)≤fuel→JInv l n a0 w0 R fr u listed a w→wpAny P .any l.toArray Q fuel listed a w:=by
 have ending:∀ (fuel:Nat) (u:Nat→Value) (listed:Array Bool) (a:Act) (w:World),(l.length - n)≤fuel→JInv l n a0 w0 R fr u listed a w→(∀ j,j<n→listed.getD j false=true)→wpAny P .any l.toArray Q fuel listed a w:=by
  intro fuel u listed a w hf hI hall
  have ha:=hI.whole hok hn hall
  refine tail_any (n:=n) hok.back (fun i h1 h2 j h3 h4=>hok.tail i h1 h2 j h4 (fun hx=>by have:=hok.laxLt j hx;omega)) fuel n listed a w (Nat.le_refl _) hn (by omega) hI.shut (fun j hj => ?_) ?_
  ·by_cases h:j<n
   ·rw[hall j h];simp[h]
   ·rw[hI.notail j (by omega) hj];simp[h]
  ·rw[ha]
   exact htail u ⟨w,hI.past⟩ (fun i hi=>hI.facts i hi (hall i hi)) (fun i j hi hj hij h1 h2=>hI.apart i j hi hj hij (hall i hi) (hall j hj) h1 h2)
 intro m
 induction m with
 | zero =>
  intro fuel u listed a w hm hf hI
  refine ending fuel u listed a w (by omega) hI (fun j hj => ?_)
  cases h:listed.getD j false with
  | true=>rfl
  | false =>
   exfalso
   have hmem:j∈(List.range n).filter fun j => !listed.getD j false:=by simp[List.mem_filter,hj];simpa using h
   have:(List.range n).filter (fun j => !listed.getD j false)=[]:=List.length_eq_zero_iff.1 (by unfold left at hm;omega)
   rw[this] at hmem;cases hmem
 | succ m ih =>
  intro fuel u listed a w hm hf hI
  have hlt:∀ j,j<n→j<listed.size:=fun j hj=>by rw[hI.shut.size];simp;omega
  by_cases hall:∀ j,j<n→listed.getD j false=true
  ·exact ending fuel u listed a w (by omega) hI hall
  obtain ⟨fuel,rfl⟩:∃ f,fuel=f+1:=⟨fuel - 1,by omega⟩
  have hex:∃ j,j<n∧listed.getD j false=false∧∀ k,k<j→listed.getD k false=true:=by
   apply Classical.byContradiction
   intro hno
   refine hall fun j => ?_
   induction j using Nat.strongRecOn with
   | ind j ihj =>
    intro hj
    cases h:listed.getD j false with
    | true=>rfl
    | false=>exact absurd ⟨j,hj,h,fun k hk=>ihj k hk (by omega)⟩ hno
  obtain ⟨j0,hj0,hj0l,hj0k⟩:=hex
  have hj0o:l[j0]? = some (l[j0]'(by omega)):=List.getElem?_eq_getElem (by omega)
  have hd0:∀ e∈(l[j0]'(by omega)).after,Region.binds .any e=true→listed.getD e.on false=true:=fun e he hb=>hj0k _ (hok.back j0 _ hj0o e he hb)
  have hr0:j0∈Region.ready .any l.toArray listed:=mem_ready.2 ⟨by rw[getD_flip (hlt j0 hj0) true false];exact hj0l,_,by rw[List.getElem?_toArray];exact hj0o,hd0⟩
  by_cases hnz:∀ j,j<n→j ∉ lax→listed.getD j false=true
  ·-- what is left of the first n need not be waited for: it may be taken first
   have hx:j0∈lax:=Classical.byContradiction fun h=>by rw[hnz j0 hj0 h] at hj0l;cases hj0l
   obtain ⟨h1,h3,h4⟩:=hlax j0 _ hx hj0o
   obtain ⟨h5,v,h6,h7⟩:=h4 u ⟨w,hI.past⟩ (fun j hj hw=>hI.facts j hj (waits_listed (by rw[List.getElem?_toArray];exact hj0o) hd0 hw))
   have hlook:=look_same hn hok hI hj0 hj0o hd0
   have hsel:=fun cs b=>Region.noSelect_spec hok.sel j0 _ cs b (by rw[List.getElem?_toArray];exact hj0o)
   refine wpAny_first (i:=j0) (v:=v) (by rw[List.getElem?_toArray];exact hj0o) (Region.noSelect_spec hok.sel) (fun c a w=>h3 c a w v) fuel listed a w ?_ hr0 ?_ ?_
   ·intro j oj hoj hne hun hno
    rw[List.getElem?_toArray] at hoj
    have hj:n≤j∨j∈lax:=by
     rcases Nat.lt_or_ge j n with h | h
     ·right
      exact Classical.byContradiction fun hx'=>by
       have:=hnz j h hx'
       rw[getD_flip (hlt j h) true false,this] at hun;cases hun
     ·exact .inl h
    rcases hok.laxA j0 j _ oj hx hj0o hoj hne hj with h | h
    ·exfalso
     unfold waits at h
     rw[List.getElem?_toArray,hoj] at h
     obtain ⟨e,he,hb⟩:=Array.any_eq_true'.1 h
     simp only[Bool.and_eq_true,beq_iff_eq] at hb
     exact hno e he hb.1 hb.2
    ·exact h
   ·refine .inl ⟨by rw[wanted_same hlook];exact h5,fun w' => ?_⟩
    rw[exec_same hsel hlook];exact h7 w'
   ·exact ih fuel _ _ _ _ (by have:=left_set hj0 (hlt j0 hj0) hj0l;omega) (by omega) (hI.next hok hst hj0 hn hj0o hj0l hd0 (Grw.refl _) h6 (fun h=>by rw[h1] at h;cases h))
  ·refine ⟨fun h0=>(by rw[h0] at hr0;cases hr0),fun i hi => ?_⟩
   obtain ⟨hun,o,ho,hd⟩:=mem_ready.1 hi
   have hil:i<l.length:=by
    rcases Nat.lt_or_ge i l.length with h | h
    ·exact h
    ·simp[List.getElem?_eq_none h] at ho
   have hol:l[i]? = some o:=by simpa using ho
   have hun':listed.getD i false=false:=by rw[←getD_flip (by rw[hI.shut.size];simp;exact hil) true false];exact hun
   have hin:i<n:=by
    rcases Nat.lt_or_ge i n with h | h
    ·exact h
    ·exfalso
     exact hnz fun j hj hx=>coverX_listed hI.shut i j o ho hd (hok.tail i h hil j (by omega) hx)
   have hlook:=look_same hn hok hI hin hol hd
   have hs:=hstep i o hin hol u ⟨w,hI.past⟩ (fun j hj hw=>hI.facts j hj (waits_listed ho hd hw))
   have hsel:=fun cs b=>Region.noSelect_spec hok.sel i o cs b ho
   unfold wpOp
   simp only[ho]
   rw[wanted_same hlook]
   have go:∀ v w',Grw w w'→R i v w'→(fr i=true→∃ p,v = .pointer (some ⟨p,0,none⟩)∧w.heap.size≤p∧p<w'.heap.size) →
     wpAny P .any l.toArray Q fuel (listed.setIfInBounds i true) (a.put o.dst v) w':=fun v w' h1 h2 h3 =>
    ih fuel _ _ _ _ (by have:=left_set hin (hlt i hin) hun';omega) (by omega) (hI.next hok hst hin hn hol hun' hd h1 h2 h3)
   split
   ·rename_i hwant
    rw[if_pos hwant] at hs
    refine .inl ?_
    unfold Oper.wp
    rw[exec_same hsel hlook]
    exact upon_of_gives hs fun v w' ⟨h1,h2,h3⟩=>go v w' h1 h2 h3
   ·rename_i hwant
    rw[if_neg hwant] at hs
    exact go undef w (Grw.refl _) hs.1 (fun h=>by rw[hs.2] at h;cases h)
theorem wp_region_J {id:Nat} {Q:Exit→Act→World→Prop} (n:Nat) (lax:List Nat) (R:Nat→Value→World→Prop) (fr:Nat→Bool) (hm:P.follows .mixedOrders=true) (hn:n≤l.length) (hok:jOk l n lax=true)
  (hst:∀ i v w w',R i v w→Grw w w'→R i v w')
  (hstep:∀ (i:Nat) (o:Oper),i<n→l[i]? = some o→JStep P l n a0 w0 R fr i o)
  (hlax:∀ (i:Nat) (o:Oper),i∈lax→l[i]? = some o→JLax P l n a0 w0 R fr Q i o)
  (htail:∀ (u:Nat→Value) (x:{x:World // Grw w0 x}),(∀ i,i<n→R i (u i) x.1)→(∀ i j,i<n→j<n→i≠j→fr i=true→fr j=true→u i≠u j)→wpList P l.toArray Q (l.drop n) (frm (l.take n) u 0 a0) x.1) :
  (Code.region id l.toArray true).wp P Q a0 w0:=by
 have hok':=jOk_spec hok
 refine wp_region_any hm ?_
 have hun:∀ j,(Array.replicate l.toArray.size false).getD j false=false:=fun j=>by
  simp only[Array.getD_eq_getD_getElem?,Array.getElem?_replicate];split<;>rfl
 refine prefix_any hn hok' hst hstep hlax htail n l.toArray.size (fun _=>undef) _ a0 _ ?_ (by simp;omega) ?_
 ·unfold left
  exact Nat.le_trans (List.length_filter_le _ _) (by simp)
 ·have no:∀ (j:Nat) (q:Prop),(Array.replicate l.toArray.size false).getD j false=true→q:=fun j q h=>by rw[hun] at h;cases h
  exact {
   shut:=⟨by simp,fun i o _ h=>no i _ h⟩
   notail:=fun j _ _=>hun j
   size:=rfl
   defers:=rfl
   mine:=fun j o t _ _ h=>no j _ h
   rest:=fun _ _=>rfl
   past:=(Grw.refl _).drew
   facts:=fun j _ h=>no j _ h
   fresh:=fun j _ h=>no j _ h
   apart:=fun i j _ _ _ h=>no i _ h }
end
end JD
end
section
open Go.ChangeShapes Go.WideShapes Go.ChangeAt Go.RowKit Go.Sort
attribute [local irreducible] Go.Calls
def cmpU (a b:Int):Int:=if a<b then -1 else if b<a then 1 else 0
def orI (a b:Int):Int:=if a≠0 then a else b
def cmpW (x y:Rw):Int:=orI (cmpU x.seq y.seq) (cmpU x.id y.id)
theorem nan_c (a:Int) (w:World):Calls Tryz.prog 164 #[.int .u32 a] w fun e w'=>e = .returned (.bool false)∧w'=w:=by
 go_enter Tryz.func164,Tryz.ntmps164
 go_wp2
 go_ret
 exact ⟨by simp,rfl⟩
theorem cmp32_c (a b:Int) (w:World):Calls Tryz.prog 125 #[.int .u32 a,.int .u32 b] w fun e w'=>e = .returned (.int .i64 (cmpU a b))∧w'=w:=by
 have HA:=hidE (fun w=>nan_c a w);have HB:=hidE (fun w=>nan_c b w)
 by_cases h1:a<b
 ·have E:=hidE (show cmpU a b = -1 from if_pos h1)
  have d1:decide (a<b)=true:=decide_eq_true h1
  clear h1
  go_enter Tryz.func125,Tryz.ntmps125
  go_wp2_with fail
  ((with_reducible refine (HA.out _).mono ?_);rintro e w1 ⟨rfl,rfl⟩)
  go_wp2_with fail
  ((with_reducible refine (HB.out _).mono ?_);rintro e w2 ⟨rfl,rfl⟩)
  go_wp2
  go_ret
  exact ⟨by rw[E.out];rfl,rfl⟩
 by_cases h2:b<a
 ·have E:=hidE (show cmpU a b=1 from by unfold cmpU;rw[if_neg h1,if_pos h2])
  have d1:decide (a<b)=false:=decide_eq_false h1
  have d2:decide (b<a)=true:=decide_eq_true h2
  clear h1 h2
  go_enter Tryz.func125,Tryz.ntmps125
  go_wp2_with fail
  ((with_reducible refine (HA.out _).mono ?_);rintro e w1 ⟨rfl,rfl⟩)
  go_wp2_with fail
  ((with_reducible refine (HB.out _).mono ?_);rintro e w2 ⟨rfl,rfl⟩)
  go_wp2
  go_ret
  exact ⟨by rw[E.out];rfl,rfl⟩
 ·have E:=hidE (show cmpU a b=0 from by unfold cmpU;rw[if_neg h1,if_neg h2])
  have d1:decide (a<b)=false:=decide_eq_false h1
  have d2:decide (b<a)=false:=decide_eq_false h2
  clear h1 h2
  go_enter Tryz.func125,Tryz.ntmps125
  go_wp2_with fail
  ((with_reducible refine (HA.out _).mono ?_);rintro e w1 ⟨rfl,rfl⟩)
  go_wp2_with fail
  ((with_reducible refine (HB.out _).mono ?_);rintro e w2 ⟨rfl,rfl⟩)
  go_wp2
  go_ret
  exact ⟨by rw[E.out];rfl,rfl⟩
theorem or_c {p:Nat} {a b:Int} {t:TypeId} (w:World) (hB:Blk w p #[.int .i64 a,.int .i64 b] t):Calls Tryz.prog 124 #[.slice (some ⟨p,0,none⟩) 2 2] w fun e w'=>e = .returned (.int .i64 (orI a b))∧w'=w:=by
 have c0:=hB.cell 0;have c1:=hB.cell 1;have bz:=hB.lt
 simp at c0 c1
 clear hB
 by_cases h1:a=0
 ·subst h1
  by_cases h2:b=0
  ·subst h2
   go_enter Tryz.func124,Tryz.ntmps124
   go_wp2
   refine wp_loop_rounds 3 ?_
   rw[rounds_succ]
   go_wp2
   rw[rounds_succ]
   go_wp2
   rw[rounds_succ]
   go_wp2
   go_ret
   exact ⟨rfl,rfl⟩
  ·have d2:(b == 0)=false:=beq_eq_false_iff_ne.2 h2
   have d3:decide (b=0)=false:=decide_eq_false h2
   go_enter Tryz.func124,Tryz.ntmps124
   go_wp2
   refine wp_loop_rounds 2 ?_
   rw[rounds_succ]
   go_wp2
   rw[rounds_succ]
   go_wp2
   go_ret
   exact ⟨rfl,rfl⟩
 ·have d2:(a == 0)=false:=beq_eq_false_iff_ne.2 h1
  have d3:decide (a=0)=false:=decide_eq_false h1
  have E:=hidE (show orI a b=a from if_pos h1)
  go_enter Tryz.func124,Tryz.ntmps124
  go_wp2
  refine wp_loop_rounds 1 ?_
  rw[rounds_succ]
  go_wp2
  go_ret
  exact ⟨by rw[E.out];rfl,rfl⟩
def nthV (vs:List Value) (i:Nat):Value→World→Prop:=fun v _=>v=vs.getD i undef
set_option maxRecDepth 100000 in
set_option maxHeartbeats 4000000 in
theorem inOrderW_c (x y:Rw) (w:World):Calls Tryz.prog 95 #[rwV x,rwV y] w fun e w'=>e = .returned (.int .i64 (cmpW x y))∧Grw w w':=by
 obtain ⟨i1,q1,u1,f1,t1,a1,b1,c1⟩:=x
 obtain ⟨i2,q2,u2,f2,t2,a2,b2,c2⟩:=y
 obtain ⟨w0,hw0⟩:∃ w0,w0=(w.alloc (Obj.cells #[.int .u32 i1,.int .u32 q1,nmV u1,.int .i64 f1,.int .i64 t1,a1,b1,c1] 50)).alloc (Obj.cells #[.int .u32 i2,.int .u32 q2,nmV u2,.int .i64 f2,.int .i64 t2,a2,b2,c2] 50):=⟨_,rfl⟩
 obtain ⟨pb,hpb⟩:∃ pb,pb=w.heap.size:=⟨_,rfl⟩
 have B1:Blk w0 pb #[.int .u32 i1,.int .u32 q1,nmV u1,.int .i64 f1,.int .i64 t1,a1,b1,c1] 50:=by rw[hw0,hpb];exact (Blk.made _ _ _).alloc _
 have B2:Blk w0 (pb+1) #[.int .u32 i2,.int .u32 q2,nmV u2,.int .i64 f2,.int .i64 t2,a2,b2,c2] 50:=by rw[hw0,hpb];exact Blk.made_at _ _ _ _ (by simp)
 have hG:Grw w w0:=by rw[hw0];exact ((Grw.refl w).alloc _).alloc _
 have HG:=hidE hG;have HB1:=hidE B1;have HB2:=hidE B2
 have HC1:=hidE (fun w=>cmp32_c q1 q2 w);have HC2:=hidE (fun w=>cmp32_c i1 i2 w)
 have HOR:=hidE (fun (w:World) (p:Nat) (t:TypeId) (h:Blk w p #[.int .i64 (cmpU q1 q2),.int .i64 (cmpU i1 i2)] t)=>or_c w h)
 have HW:=hidE (show cmpW ⟨i1,q1,u1,f1,t1,a1,b1,c1⟩ ⟨i2,q2,u2,f2,t2,a2,b2,c2⟩=orI (cmpU q1 q2) (cmpU i1 i2) from rfl)
 go_enter Tryz.func95,Tryz.ntmps95
 go_upto_region 1 with fail
 rw[←hw0,←hpb]
 clear hw0 hpb hG B1 B2
 refine JD.wp_region_J 10 [] (nthV [.pointer (some ⟨pb,1,none⟩),.int .u32 q1,.pointer (some ⟨pb+1,1,none⟩),.int .u32 q2,.int .i64 (cmpU q1 q2),.pointer (some ⟨pb,0,none⟩),.int .u32 i1,.pointer (some ⟨pb+1,0,none⟩),.int .u32 i2,.int .i64 (cmpU i1 i2)]) (fun _=>false) (by kernel_rfl) (by decide) (by kernel_rfl) (fun _ _ _ _ h _=>h) ?_ ?_ ?_
 ·intro i o hi ho
  match i,hi with
  | 0, _ =>
   obtain rfl:=Option.some.inj ho
   intro u x hd
   have bz:=(HB1.out.past x.2.below).lt
   simp[go_sem,gives,frm,Act.put,nthV,Region.wanted,Grw.refl]
  | 1, _ =>
   obtain rfl:=Option.some.inj ho
   intro u x hd
   have d0:u 0 = .pointer (some ⟨pb,1,none⟩):=hd 0 (by decide) (by kernel_rfl)
   have hb:=HB1.out.past x.2.below
   have b0:=hb.cell 1;have bz:=hb.lt
   simp at b0
   simp[go_sem,gives,frm,Act.put,nthV,Region.wanted,Grw.refl,b0,d0]
  | 2, _ =>
   obtain rfl:=Option.some.inj ho
   intro u x hd
   have bz:=(HB2.out.past x.2.below).lt
   simp[go_sem,gives,frm,Act.put,nthV,Region.wanted,Grw.refl]
  | 3, _ =>
   obtain rfl:=Option.some.inj ho
   intro u x hd
   have d2:u 2 = .pointer (some ⟨pb+1,1,none⟩):=hd 2 (by decide) (by kernel_rfl)
   have hb:=HB2.out.past x.2.below
   have b0:=hb.cell 1;have bz:=hb.lt
   simp at b0
   simp[go_sem,gives,frm,Act.put,nthV,Region.wanted,Grw.refl,b0,d2]
  | 4, _ =>
   obtain rfl:=Option.some.inj ho
   intro u x hd
   have d1:u 1 = .int .u32 q1:=hd 1 (by decide) (by kernel_rfl)
   have d3:u 3 = .int .u32 q2:=hd 3 (by decide) (by kernel_rfl)
   simp[go_sem,gives,frm,Act.put,nthV,Region.wanted,d1,d3]
   (with_reducible refine (HC1.out _).mono ?_);rintro e w3 ⟨rfl,rfl⟩;exact ⟨rfl,Grw.refl _⟩
  | 5, _ =>
   obtain rfl:=Option.some.inj ho
   intro u x hd
   have bz:=(HB1.out.past x.2.below).lt
   simp[go_sem,gives,frm,Act.put,nthV,Region.wanted,Grw.refl,bz]
  | 6, _ =>
   obtain rfl:=Option.some.inj ho
   intro u x hd
   have d5:u 5 = .pointer (some ⟨pb,0,none⟩):=hd 5 (by decide) (by kernel_rfl)
   have hb:=HB1.out.past x.2.below
   have b0:=hb.cell 0;have bz:=hb.lt
   simp at b0
   simp[go_sem,gives,frm,Act.put,nthV,Region.wanted,Grw.refl,b0,d5]
  | 7, _ =>
   obtain rfl:=Option.some.inj ho
   intro u x hd
   have bz:=(HB2.out.past x.2.below).lt
   simp[go_sem,gives,frm,Act.put,nthV,Region.wanted,Grw.refl,bz]
  | 8, _ =>
   obtain rfl:=Option.some.inj ho
   intro u x hd
   have d7:u 7 = .pointer (some ⟨pb+1,0,none⟩):=hd 7 (by decide) (by kernel_rfl)
   have hb:=HB2.out.past x.2.below
   have b0:=hb.cell 0;have bz:=hb.lt
   simp at b0
   simp[go_sem,gives,frm,Act.put,nthV,Region.wanted,Grw.refl,b0,d7]
  | 9, _ =>
   obtain rfl:=Option.some.inj ho
   intro u x hd
   have d6:u 6 = .int .u32 i1:=hd 6 (by decide) (by kernel_rfl)
   have d8:u 8 = .int .u32 i2:=hd 8 (by decide) (by kernel_rfl)
   simp[go_sem,gives,frm,Act.put,nthV,Region.wanted,d6,d8]
   (with_reducible refine (HC2.out _).mono ?_);rintro e w3 ⟨rfl,rfl⟩;exact ⟨rfl,Grw.refl _⟩
  | i+10,h=>exact absurd h (by omega)
 ·intro i o hx ho
  simp at hx
 ·intro u x9 hu hne
  have e4:u 4 = .int .i64 (cmpU q1 q2):=hu 4 (by decide)
  have e9:u 9 = .int .i64 (cmpU i1 i2):=hu 9 (by decide)
  simp only[frm,List.take,Act.put,e4,e9]
  have HG9:=hidE (HG.out.trans x9.2)
  clear hu hne e4 e9 HB1 HB2 HC1 HC2 HG
  generalize x9.1=w9 at *
  generalize cmpU q1 q2=k1 at *
  generalize cmpU i1 i2=k2 at *
  go_wp2_with fail
  ((with_reducible refine (HOR.out _ _ _ (Blk.made _ _ _)).mono ?_);rintro e w10 ⟨rfl,rfl⟩)
  go_wp2
  go_ret
  exact ⟨by rw[HW.out];rfl,HG9.out.alloc _⟩
end
end Go.Proofs.YtcmponckjkalaaaGreat
