/- The document's own answers of layer 11: not below 0; where a number stands. No conditions but the sizes. The document's own answers of layer 11: a user's name. No conditions but the size. When a reservation may be, as the document says it. No program. No conditions. liveryref11.May: when a reservation may be, by definition. No conditions but the size, and that it reads as .. -/
import Derived.Test.YtcmponckjkalaaaGreatPUGX
import Derived.Test.YtcmponckjkalaaaGreatPUGH
import Derived.Test.YtcmponckjkalaaaGreatPUGP
import Derived.Test.YtcmponckjkalaaaGreatPUGB
namespace Go.Proofs.YtcmponckjkalaaaGreat
section
open Go.ChangeShapes Go.WideShapes Go.ChangeAt Go.RowKit
attribute [local irreducible] Go.Calls
set_option maxRecDepth 100000 in
theorem above11_c (F:List Sg) (a:Option Addr) (cap:Nat) (w:World) (hl:F.length≤1000000000) (hA:ArgS w a F) :
  Calls Tryz.prog 49 #[.slice a F.length cap] w fun e w'=>e = .returned (.bool (posB F))∧Below w.heap.size w w':=by
 have HA:=hidE hA;have HL:=hidE hl
 have HM:=hidE (fun w hA=>rmayf_c F a cap w (by omega) hA)
 have HPB:=hidE (show F.all nonneg=true→posB F=mayB F from fun h=>by unfold posB;rw[h,Bool.and_true])
 have HPN:=hidE (fun (k:Nat) (hk:k<F.length) (h:nonneg (F.getD k (0,0,0))=false)=>show posB F=false from by
  unfold posB
  have:F.all nonneg=false:=by
   rw[List.all_eq_false]
   refine ⟨_,List.getElem_mem hk, ?_⟩
   rw[getD_get _ _ _ hk] at h
   rw[h];decide
  rw[this,Bool.and_false])
 clear hA
 go_enter Tryz.func49,Tryz.ntmps49
 go_wp2
 go_loopg [3] F.length (fun g v3 wr=>∃ k:Nat,v3 = .int .i64 k∧k≤F.length∧F.length - k≤g∧(∀ i,i<k→nonneg (F.getD i (0,0,0))=true)∧Below w.heap.size w wr)
 case atStart=>exact ⟨0,rfl,Nat.zero_le _,by omega,fun i hi=>by omega,Below.refl _ _⟩
 case round =>
  obtain ⟨k,rfl,hk,hg,hp,hb⟩:=hrel
  have HP:=hidE hp;have HB:=hidE hb;have HG:=hidE hg
  have hkl:k≤1000000000:=by have:=HL.out;omega
  clear hp hg hb
  by_cases hlt:k<F.length
  ·obtain ⟨b,off,rfl,hbz,hc⟩:=(HA.out.past HB.out) (by omega)
   obtain ⟨c0,c1,c2⟩:=hc.get hlt
   replace c1:wr.cell? ⟨b,off+k * 3+1,none⟩=some (.int .i64 (F.getD k (0,0,0)).2.1):=c1
   replace c2:wr.cell? ⟨b,off+k * 3+2,none⟩=some (.int .i64 (F.getD k (0,0,0)).2.2):=c2
   have HN:=hidE (HPN.out k hlt)
   have HK1:=hidE (show k+1≤F.length from hlt)
   have HNX:=hidE (fun (h:nonneg (F.getD k (0,0,0))=true)=>show ∀ i,i<k+1→nonneg (F.getD i (0,0,0))=true from fun i hi=>by
    by_cases c:i<k
    ·exact HP.out i c
    ·have e:i=k:=by omega
     rw[e];exact h)
   generalize F.getD k (0,0,0)=s at *
   obtain ⟨st,sm,sc⟩:=s
   simp only at c1 c2
   clear hc
   by_cases h1:sm<0
   ·have d1:decide (sm<0)=true:=decide_eq_true h1
    have HX:=hidE (HN.out (by unfold nonneg;simp;omega))
    clear h1
    go_wp2
    go_ret
    exact ⟨by rw[HX.out];rfl,HB.out⟩
   ·have d1:decide (sm<0)=false:=decide_eq_false h1
    by_cases h2:sc<0
    ·have d2:decide (sc<0)=true:=decide_eq_true h2
     have HX:=hidE (HN.out (by unfold nonneg;simp;omega))
     clear h1 h2
     go_wp2
     go_ret
     exact ⟨by rw[HX.out];rfl,HB.out⟩
    ·have d2:decide (sc<0)=false:=decide_eq_false h2
     have HY:=hidE (HNX.out (by unfold nonneg;simp;omega))
     clear h1 h2 hlt hk
     go_wp2
     go_roundg (F.length - (k+1))
     case measure=>have:=HG.out;have:=HK1.out;omega
     case rel=>exact ⟨k+1,by go_num,HK1.out,Nat.le_refl _,HY.out,HB.out⟩
  ·have HE:=hidE (HPB.out (by
    rw[List.all_eq_true]
    intro x hx
    obtain ⟨i,hi,rfl⟩:=List.getElem_of_mem hx
    have:=HP.out i (by omega)
    rw[getD_get _ _ _ hi] at this
    exact this))
   go_wp2_with fail
   ((with_reducible refine (HM.out _ (HA.out.past HB.out)).mono ?_);rintro e w2 ⟨rfl,hb2⟩)
   have HB2:=hidE (bstep hb2 HB.out)
   clear hb2
   go_wp2
   go_ret
   exact ⟨by rw[HE.out];rfl,HB2.out⟩
def atI (L:List Rv) (id:Int):Int:=match atS L id with | some i=>(i:Int) | none => -1
theorem atI_some {L:List Rv} {id:Int} {i:Nat} (h:atS L id=some i):atI L id=i:=by unfold atI;rw[h]
theorem atI_none {L:List Rv} {id:Int} (h:atS L id=none):atI L id = -1:=by unfold atI;rw[h]
set_option maxRecDepth 100000 in
theorem at11_c {v:Value} {l:List Rw} {L:List Rv} (vc:Value) (id:Int) (w:World) (hS:SliRw w v l) (hF:RwsF w l L) (hl:l.length≤1000000000) (hvc:∃ a n c,vc = .slice a n c) :
  Calls Tryz.prog 22 #[.agg #[vc,v],.int .u32 id] w fun e w'=>e = .returned (.int .i64 (atI L id))∧Below w.heap.size w w':=by
 obtain ⟨ac,nc,cc,rfl⟩:=hvc
 obtain ⟨a,cap,rfl,p1,p2,p3,p4,p5⟩:=hS
 obtain ⟨w0,hw0⟩:∃ w0,w0=w.alloc (Obj.cells #[.slice ac nc cc,.slice a l.length cap] 33):=⟨_,rfl⟩
 have hb0:Below w.heap.size w w0:=by rw[hw0];(repeat (first | exact Below.refl _ _ | assumption | refine balloc ?_ _ | refine below_drewN ?_ _ | refine bstep (by assumption) ?_ | refine bstep (Past.prop _) ?_ | refine Below.setCell ?_ (by first | exact Nat.le_refl _ | (simp;done) | (simp;omega)) _))
 have HB0:=hidE hb0
 have HBX:=hidE (show Blk w0 w.heap.size #[.slice ac nc cc,.slice a l.length cap] 33 by rw[hw0];exact Blk.made _ _ _)
 have HA:=hidE p4;have HL:=hidE hl
 have HID:=hidE (fun (i:Nat) (hi:i<l.length)=>show (l.getD i rw0).id=(L.getD i rv0).id from (hF.2 i hi).id)
 have HLN:=hidE hF.1
 clear p1 p2 p3 p4 p5 hF hb0
 go_enter Tryz.func22,Tryz.ntmps22
 go_upto_region 1 with fail
 rw[←hw0]
 clear hw0
 go_wp2
 go_loopg [5] l.length (fun g v5 wr=>∃ k:Nat,v5 = .int .i64 k∧k≤l.length∧l.length - k≤g∧(∀ i,i<k→(L.getD i rv0).id≠id)∧Blk wr w.heap.size #[.slice ac nc cc,.slice a l.length cap] 33∧Below w.heap.size w wr)
 case atStart=>exact ⟨0,rfl,Nat.zero_le _,by omega,fun i hi=>by omega,HBX.out,HB0.out⟩
 case round =>
  obtain ⟨k,rfl,hk,hg,hp,hbx,hb⟩:=hrel
  have HP:=hidE hp;have HB:=hidE hb;have HG:=hidE hg;have HBY:=hidE hbx
  have hkl:k≤1000000000:=by have:=HL.out;omega
  have q0:=hbx.cell 0;have q1:=hbx.cell 1;have qz:=hbx.lt
  simp at q0 q1
  clear hp hg hbx
  by_cases hlt:k<l.length
  ·obtain ⟨b,off,rfl,hbz,hc⟩:=HA.out (by omega)
   have c0:=(hc.get hlt).1
   rw[←hb.cell hbz] at c0
   have hbz':b<wr.heap.size:=Nat.lt_of_lt_of_le hbz hb.size
   have HK1:=hidE (show k+1≤l.length from hlt)
   have e1:=HID.out k hlt
   have HNX:=hidE (fun (h:(L.getD k rv0).id≠id)=>show ∀ i,i<k+1→(L.getD i rv0).id≠id from fun i hi=>by
    by_cases c:i<k
    ·exact HP.out i c
    ·have e:i=k:=by omega
     rw[e];exact h)
   have HAT:=hidE (fun (h:(L.getD k rv0).id=id)=>show atS L id=some k from by
    have hkL:k<L.length:=by have:=HLN.out;omega
    unfold atS
    rw[List.findIdx?_eq_some_iff_getElem]
    refine ⟨hkL, ?_,fun j hj => ?_⟩
    ·rw[getD_get _ _ _ hkL] at h
     simp[h]
    ·have:=HP.out j hj
     rw[getD_get _ _ _ (by omega)] at this
     simpa using this)
   generalize L.getD k rv0=r at *
   generalize l.getD k rw0=x at *
   rw[e1] at c0
   clear hc hbz e1 hb
   by_cases h1:r.id=id
   ·have d1:(r.id == id)=true:=beq_iff_eq.2 h1
    have HX:=hidE (atI_some (HAT.out h1))
    clear h1
    go_wp2
    go_ret
    exact ⟨by rw[HX.out];rfl,HB.out⟩
   ·have d1:(r.id == id)=false:=beq_eq_false_iff_ne.2 h1
    have HY:=hidE (HNX.out h1)
    clear h1 hlt hk
    go_wp2
    go_roundg (l.length - (k+1))
    case measure=>have:=HG.out;have:=HK1.out;omega
    case rel=>exact ⟨k+1,by go_num,HK1.out,Nat.le_refl _,HY.out,HBY.out,HB.out⟩
  ·have HX:=hidE (atI_none (show atS L id=none from atS_none.2 fun r hr=>by
    obtain ⟨i,hi,rfl⟩:=List.getElem_of_mem hr
    have:=HP.out i (by have:=HLN.out;omega)
    rw[getD_get _ _ _ hi] at this
    exact this))
   clear hb
   go_wp2
   go_ret
   exact ⟨by rw[HX.out];rfl,HB.out⟩
set_option maxRecDepth 100000 in
theorem name11_c (u:List UInt8) (w:World) :
  Calls Tryz.prog 62 #[nmV u] w fun e w'=>e = .returned (.bool (nameB u))∧Below w.heap.size w w':=by
 by_cases h1:u.length<1
 ·have d1:decide (u.length<1)=true:=decide_eq_true h1
  have d1':decide ((u.length:Int)<1)=true:=decide_eq_true (by omega)
  have HE:=hidE (show nameB u=false by unfold nameB;rw[decide_eq_false (by omega)];rfl)
  rw[HE.out]
  clear h1
  go_enter Tryz.func62,Tryz.ntmps62
  go_wp2
  go_ret
  exact ⟨rfl,Below.refl _ _⟩
 ·have d1:decide (u.length<1)=false:=decide_eq_false h1
  have d1':decide ((u.length:Int)<1)=false:=decide_eq_false (by omega)
  by_cases h2:16<u.length
  ·have d2:decide (16<u.length)=true:=decide_eq_true h2
   have d2':decide ((16:Int)<(u.length:Int))=true:=decide_eq_true (by omega)
   have HE:=hidE (show nameB u=false by unfold nameB;rw[decide_eq_false (by omega)];rfl)
   rw[HE.out]
   clear h1 h2
   go_enter Tryz.func62,Tryz.ntmps62
   go_wp2
   go_ret
   exact ⟨rfl,Below.refl _ _⟩
  ·have d2:decide (16<u.length)=false:=decide_eq_false h2
   have d2':decide ((16:Int)<(u.length:Int))=false:=decide_eq_false (by omega)
   have HB:=hidE (show nameB u=u.all chrB by unfold nameB;rw[decide_eq_true (by omega)];rfl)
   have HL:=hidE (show u.length≤16 by omega)
   rw[HB.out]
   clear h1 h2 HB
   go_enter Tryz.func62,Tryz.ntmps62
   go_wp2
   go_loopg [3] u.length (fun g v3 wr=>∃ k:Nat,v3 = .int .i64 k∧k≤u.length∧u.length - k≤g∧(∀ i,i<k→chrB (u.getD i 0)=true)∧Below w.heap.size w wr)
   case atStart=>exact ⟨0,rfl,Nat.zero_le _,by omega,fun i hi=>by omega,Below.refl _ _⟩
   case round =>
    obtain ⟨k,rfl,hk,hg,hp,hb⟩:=hrel
    have HP:=hidE hp;have HB:=hidE hb;have HG:=hidE hg
    have hk16:k≤16:=by have:=HL.out;omega
    clear hp hg hb
    by_cases hlt:k<u.length
    ·have HK1:=hidE (show k+1≤u.length from hlt)
     obtain ⟨b,hb⟩:∃ b,u.getD k 0=b:=⟨_,rfl⟩
     have hkb:k<(ByteArray.mk u.toArray).size:=by simpa [ByteArray.size] using hlt
     have hbk:(ByteArray.mk u.toArray)[k]=b:=by
      rw[←hb,List.getD_eq_getElem?_getD,List.getElem?_eq_getElem hlt]
      simp[ByteArray.getElem_eq_getElem_data]
     have HNX:=hidE (fun (h:chrB b=true)=>show ∀ i,i<k+1→chrB (u.getD i 0)=true from fun i hi=>by
      by_cases c:i<k
      ·exact HP.out i c
      ·have e:i=k:=by omega
       rw[e,hb];exact h)
     have HNO:=hidE (fun (h:chrB b=false)=>show u.all chrB=false from by
      rw[List.all_eq_false]
      refine ⟨_,List.getElem_mem hlt, ?_⟩
      rw[getD_get _ _ _ hlt] at hb
      rw[hb,h];decide)
     clear hb
     by_cases c1:97≤b.toNat
     ·have f1:decide ((97:Int)≤(b.toNat:Int))=true:=decide_eq_true (by omega)
      have g1:decide (97≤b.toNat)=true:=decide_eq_true c1
      have f3:decide ((48:Int)≤(b.toNat:Int))=true:=decide_eq_true (by omega)
      have g3:decide (48≤b.toNat)=true:=decide_eq_true (by omega)
      have f4:decide ((b.toNat:Int)≤57)=false:=decide_eq_false (by omega)
      have g4:decide (b.toNat≤57)=false:=decide_eq_false (by omega)
      by_cases c2:b.toNat≤122
      ·have f2:decide ((b.toNat:Int)≤122)=true:=decide_eq_true (by omega)
       have g2:decide (b.toNat≤122)=true:=decide_eq_true c2
       have HY:=hidE (HNX.out (by unfold chrB;rw[g1,g2];rfl))
       go_wp2
       go_roundg (u.length - (k+1))
       case measure=>have:=HG.out;have:=HK1.out;omega
       case rel=>exact ⟨k+1,by go_num,HK1.out,Nat.le_refl _,HY.out,HB.out⟩
      ·have f2:decide ((b.toNat:Int)≤122)=false:=decide_eq_false (by omega)
       have g2:decide (b.toNat≤122)=false:=decide_eq_false c2
       have HX:=hidE (HNO.out (by unfold chrB;rw[g1,g2,g3,g4];rfl))
       go_wp2
       go_ret
       exact ⟨by rw[HX.out];rfl,HB.out⟩
     ·have f1:decide ((97:Int)≤(b.toNat:Int))=false:=decide_eq_false (by omega)
      have g1:decide (97≤b.toNat)=false:=decide_eq_false c1
      by_cases c3:48≤b.toNat
      ·have f3:decide ((48:Int)≤(b.toNat:Int))=true:=decide_eq_true (by omega)
       have g3:decide (48≤b.toNat)=true:=decide_eq_true c3
       by_cases c4:b.toNat≤57
       ·have f4:decide ((b.toNat:Int)≤57)=true:=decide_eq_true (by omega)
        have g4:decide (b.toNat≤57)=true:=decide_eq_true c4
        have HY:=hidE (HNX.out (by unfold chrB;rw[g1,g3,g4];simp))
        go_wp2
        go_roundg (u.length - (k+1))
        case measure=>have:=HG.out;have:=HK1.out;omega
        case rel=>exact ⟨k+1,by go_num,HK1.out,Nat.le_refl _,HY.out,HB.out⟩
       ·have f4:decide ((b.toNat:Int)≤57)=false:=decide_eq_false (by omega)
        have g4:decide (b.toNat≤57)=false:=decide_eq_false c4
        have HX:=hidE (HNO.out (by unfold chrB;rw[g1,g4];simp))
        go_wp2
        go_ret
        exact ⟨by rw[HX.out];rfl,HB.out⟩
      ·have f3:decide ((48:Int)≤(b.toNat:Int))=false:=decide_eq_false (by omega)
       have g3:decide (48≤b.toNat)=false:=decide_eq_false c3
       have HX:=hidE (HNO.out (by unfold chrB;rw[g1,g3];simp))
       go_wp2
       go_ret
       exact ⟨by rw[HX.out];rfl,HB.out⟩
    ·have HX:=hidE (show u.all chrB=true by
      rw[List.all_eq_true]
      intro x hx
      obtain ⟨i,hi,rfl⟩:=List.getElem_of_mem hx
      have:=HP.out i (by omega)
      rw[getD_get _ _ _ hi] at this
      exact this)
     go_wp2
     go_ret
     exact ⟨by rw[HX.out];rfl,HB.out⟩
end
section
def timesB (A:List Sg):Bool:=A.all (fun s=>decide (0≤s.1) && decide (s.1≤1099511627776)) && (decide (A.length=0) || (vls A (A.length - 1) == (0,0)))
theorem asc_canon {F:List Sg} (hF:Canon F):∀ i j:Nat,i<j→j<F.length→ats F i<ats F j:=fun i j h hj=>by
 have:=CF.up hF
 rw[List.pairwise_iff_getElem] at this
 have q:=this i j (by omega) hj h
 unfold ats
 rw[getD_get _ _ _ (by omega),getD_get _ _ _ hj]
 exact q
theorem asc_ends {F:List Sg} (hF:Canon F) {s:Sg} (hs:s∈F):(endsL F).1≤s.1∧s.1≤(endsL F).2.1:=by
 obtain ⟨i,hi,rfl⟩:=List.getElem_of_mem hs
 have ha:=asc_canon hF
 have ei:F[i].1=ats F i:=by unfold ats;rw[getD_get _ _ _ hi]
 unfold endsL
 rw[if_neg (by omega),ei]
 simp only
 constructor
 ·by_cases c:i=0
  ·rw[c];exact Int.le_refl _
  ·have:=ha 0 i (by omega) hi;omega
 ·by_cases c:i=F.length - 1
  ·rw[c];exact Int.le_refl _
  ·have:=ha i (F.length - 1) (by omega) (by omega);omega
theorem times_ends {A:List Sg} (h:mayB A=true):timesB A=((endsL A).2.2 && decide (0≤(endsL A).1) && decide ((endsL A).2.1≤1099511627776)):=by
 by_cases h0:A.length=0
 ·have:A=[]:=List.length_eq_zero_iff.1 h0
  subst this
  rfl
 ·have hc:=mayB_iff.1 h
  have m0:∀ i,i<A.length→∃ s∈A,s.1=ats A i:=fun i hi=>⟨A[i],List.getElem_mem hi,by unfold ats;rw[getD_get _ _ _ hi]⟩
  have e:endsL A=(ats A 0,ats A (A.length - 1),vls A (A.length - 1) == (0,0)):=by unfold endsL;rw[if_neg h0]
  have hb:=fun s hs=>asc_ends hc (s:=s) hs
  rw[e] at hb
  rw[e]
  unfold timesB
  rw[decide_eq_false h0,Bool.false_or,Bool.eq_iff_iff]
  simp only[Bool.and_eq_true,List.all_eq_true,decide_eq_true_eq] at hb ⊢
  constructor
  ·rintro ⟨h1,h2⟩
   obtain ⟨s,hs,e1⟩:=m0 0 (by omega)
   obtain ⟨t,ht,e2⟩:=m0 (A.length - 1) (by omega)
   have a1:=h1 s hs;have a2:=h1 t ht
   exact ⟨⟨h2,by omega⟩,by omega⟩
  ·rintro ⟨⟨h2,h3⟩,h4⟩
   refine ⟨fun s hs => ?_,h2⟩
   have:=hb s hs
   omega
theorem ok_is (r:Rv):r.ok=(decide (r.id≠0) && nameB r.u && posB r.A && decide (r.A.length≤1024) && timesB r.A):=by
 unfold Rv.ok mayR
 cases hp:posB r.A
 ·simp
 ·rw[times_ends (posB_may hp)]
  simp only[Bool.and_true,Bool.and_assoc]
end
section
open Go.ChangeShapes Go.WideShapes Go.ChangeAt Go.RowKit
attribute [local irreducible] Go.Calls
set_option maxRecDepth 100000 in
set_option maxHeartbeats 4000000 in
theorem may11_a {aT aW aA:Option Addr} {nT cT nW cW cA:Nat} {rid rsq rf rt:Int} {ru:List UInt8} {A:List Sg} (w:World) (hA:ArgS w aA A) (hl:A.length≤1000000000) :
  Calls Tryz.prog 19 #[rwV (⟨rid,rsq,ru,rf,rt,.slice aT nT cT,.slice aW nW cW,.slice aA A.length cA⟩:Rw)] w fun e w'=>e = .returned (.bool (decide (rid≠0) && nameB ru && posB A && decide (A.length≤1024) && timesB A))∧Below w.heap.size w w':=by
 obtain ⟨w0,hw0⟩:∃ w0,w0=w.alloc (Obj.cells #[.int .u32 rid,.int .u32 rsq,nmV ru,.int .i64 rf,.int .i64 rt,.slice aT nT cT,.slice aW nW cW,.slice aA A.length cA] 50):=⟨_,rfl⟩
 have hb0:Below w.heap.size w w0:=by rw[hw0];(repeat (first | exact Below.refl _ _ | assumption | refine balloc ?_ _ | refine below_drewN ?_ _ | refine bstep (by assumption) ?_ | refine bstep (Past.prop _) ?_ | refine Below.setCell ?_ (by first | exact Nat.le_refl _ | (simp;done) | (simp;omega)) _))
 have HB:=hidE hb0
 have HBR:=hidE (show Blk w0 w.heap.size #[.int .u32 rid,.int .u32 rsq,nmV ru,.int .i64 rf,.int .i64 rt,.slice aT nT cT,.slice aW nW cW,.slice aA A.length cA] 50 by rw[hw0];exact Blk.made _ _ _)
 have HA:=hidE (hA.past hb0)
 clear hA hb0
 obtain ⟨res,hres⟩:∃ res,(decide (rid≠0) && nameB ru && posB A && decide (A.length≤1024) && timesB A)=res:=⟨_,rfl⟩
 rw[hres]
 by_cases h1:rid=0
 ·have d1:(rid == 0)=true:=beq_iff_eq.2 h1
  have HE:=hidE (show res=false by rw[←hres,h1];rfl)
  clear h1 hres
  go_enter Tryz.func19,Tryz.ntmps19
  go_upto_region 1 with fail
  rw[←hw0]
  clear hw0
  have q0:=HBR.out.cell 0;have q2:=HBR.out.cell 2;have q7:=HBR.out.cell 7;have qz:=HBR.out.lt
  simp at q0 q2 q7
  go_wp2
  go_ret
  exact ⟨by rw[HE.out];rfl,HB.out⟩
 ·have d1:(rid == 0)=false:=beq_eq_false_iff_ne.2 h1
  cases hnm:nameB ru
  ·have HNM:=hidE hnm
   have HE:=hidE (show res=false by rw[←hres,hnm];simp)
   clear h1 hres hnm
   go_enter Tryz.func19,Tryz.ntmps19
   go_upto_region 1 with fail
   rw[←hw0]
   clear hw0
   have q0:=HBR.out.cell 0;have q2:=HBR.out.cell 2;have q7:=HBR.out.cell 7;have qz:=HBR.out.lt
   simp at q0 q2 q7
   go_wp2_with fail
   ((with_reducible refine (name11_c ru _).mono ?_);rintro e w1 ⟨rfl,hb1⟩)
   rw[HNM.out]
   have HB:=hidE (bstep hb1 HB.out);have HBR:=hidE (HBR.out.past hb1);have HA:=hidE (HA.out.past hb1)
   clear hb1
   clear q0 q2 q7 qz
   have q0:=HBR.out.cell 0;have q2:=HBR.out.cell 2;have q7:=HBR.out.cell 7;have qz:=HBR.out.lt
   simp at q0 q2 q7
   go_wp2
   go_ret
   exact ⟨by rw[HE.out];rfl,HB.out⟩
  ·have HNM:=hidE hnm
   cases hps:posB A
   ·have HPS:=hidE hps
    have HE:=hidE (show res=false by rw[←hres,hps];simp)
    clear h1 hres hnm hps
    go_enter Tryz.func19,Tryz.ntmps19
    go_upto_region 1 with fail
    rw[←hw0]
    clear hw0
    have q0:=HBR.out.cell 0;have q2:=HBR.out.cell 2;have q7:=HBR.out.cell 7;have qz:=HBR.out.lt
    simp at q0 q2 q7
    go_wp2_with fail
    ((with_reducible refine (name11_c ru _).mono ?_);rintro e w1 ⟨rfl,hb1⟩)
    rw[HNM.out]
    have HB:=hidE (bstep hb1 HB.out);have HBR:=hidE (HBR.out.past hb1);have HA:=hidE (HA.out.past hb1)
    clear hb1
    clear q0 q2 q7 qz
    have q0:=HBR.out.cell 0;have q2:=HBR.out.cell 2;have q7:=HBR.out.cell 7;have qz:=HBR.out.lt
    simp at q0 q2 q7
    go_wp2_with fail
    ((with_reducible refine (above11_c A aA cA _ (by omega) HA.out).mono ?_);rintro e w2 ⟨rfl,hb1⟩)
    rw[HPS.out]
    have HB:=hidE (bstep hb1 HB.out);have HBR:=hidE (HBR.out.past hb1);have HA:=hidE (HA.out.past hb1)
    clear hb1
    clear q0 q2 q7 qz
    have q0:=HBR.out.cell 0;have q2:=HBR.out.cell 2;have q7:=HBR.out.cell 7;have qz:=HBR.out.lt
    simp at q0 q2 q7
    go_wp2
    go_ret
    exact ⟨by rw[HE.out];rfl,HB.out⟩
   ·have HPS:=hidE hps
    by_cases h2:1024<A.length
    ·have d2:decide (1024<A.length)=true:=decide_eq_true h2
     have d2':decide ((1024:Int)<(A.length:Int))=true:=decide_eq_true (by omega)
     have HE:=hidE (show res=false by rw[←hres,decide_eq_false (show ¬ A.length≤1024 by omega)];simp)
     clear h1 hres hnm hps h2
     go_enter Tryz.func19,Tryz.ntmps19
     go_upto_region 1 with fail
     rw[←hw0]
     clear hw0
     have q0:=HBR.out.cell 0;have q2:=HBR.out.cell 2;have q7:=HBR.out.cell 7;have qz:=HBR.out.lt
     simp at q0 q2 q7
     go_wp2_with fail
     ((with_reducible refine (name11_c ru _).mono ?_);rintro e w1 ⟨rfl,hb1⟩)
     rw[HNM.out]
     have HB:=hidE (bstep hb1 HB.out);have HBR:=hidE (HBR.out.past hb1);have HA:=hidE (HA.out.past hb1)
     clear hb1
     clear q0 q2 q7 qz
     have q0:=HBR.out.cell 0;have q2:=HBR.out.cell 2;have q7:=HBR.out.cell 7;have qz:=HBR.out.lt
     simp at q0 q2 q7
     go_wp2_with fail
     ((with_reducible refine (above11_c A aA cA _ (by omega) HA.out).mono ?_);rintro e w2 ⟨rfl,hb1⟩)
     rw[HPS.out]
     have HB:=hidE (bstep hb1 HB.out);have HBR:=hidE (HBR.out.past hb1);have HA:=hidE (HA.out.past hb1)
     clear hb1
     clear q0 q2 q7 qz
     have q0:=HBR.out.cell 0;have q2:=HBR.out.cell 2;have q7:=HBR.out.cell 7;have qz:=HBR.out.lt
     simp at q0 q2 q7
     go_wp2
     go_ret
     exact ⟨by rw[HE.out];rfl,HB.out⟩
    ·have d2:decide (1024<A.length)=false:=decide_eq_false h2
     have d2':decide ((1024:Int)<(A.length:Int))=false:=decide_eq_false (by omega)
     have HE:=hidE (show res=timesB A by rw[←hres,decide_eq_true (show A.length≤1024 by omega),hnm,hps,decide_eq_true h1];simp)
     have HL:=hidE (show A.length≤1024 by omega)
     clear h1 hres hnm hps h2
     go_enter Tryz.func19,Tryz.ntmps19
     go_upto_region 1 with fail
     rw[←hw0]
     clear hw0
     have q0:=HBR.out.cell 0;have q2:=HBR.out.cell 2;have q7:=HBR.out.cell 7;have qz:=HBR.out.lt
     simp at q0 q2 q7
     go_wp2_with fail
     ((with_reducible refine (name11_c ru _).mono ?_);rintro e w1 ⟨rfl,hb1⟩)
     rw[HNM.out]
     have HB:=hidE (bstep hb1 HB.out);have HBR:=hidE (HBR.out.past hb1);have HA:=hidE (HA.out.past hb1)
     clear hb1
     clear q0 q2 q7 qz
     have q0:=HBR.out.cell 0;have q2:=HBR.out.cell 2;have q7:=HBR.out.cell 7;have qz:=HBR.out.lt
     simp at q0 q2 q7
     go_wp2_with fail
     ((with_reducible refine (above11_c A aA cA _ (by omega) HA.out).mono ?_);rintro e w2 ⟨rfl,hb1⟩)
     rw[HPS.out]
     have HB:=hidE (bstep hb1 HB.out);have HBR:=hidE (HBR.out.past hb1);have HA:=hidE (HA.out.past hb1)
     clear hb1
     clear q0 q2 q7 qz
     have q0:=HBR.out.cell 0;have q2:=HBR.out.cell 2;have q7:=HBR.out.cell 7;have qz:=HBR.out.lt
     simp at q0 q2 q7
     clear q0 q2 q7 qz
     have HTB:=hidE (show timesB A=(A.all (fun s=>decide (0≤s.1) && decide (s.1≤1099511627776)) && (decide (A.length=0) || (vls A (A.length - 1) == (0,0)))) from rfl)
     have HNO:=hidE (fun (k:Nat) (hk:k<A.length) (h:¬ (0≤(A.getD k (0,0,0)).1∧(A.getD k (0,0,0)).1≤1099511627776))=>show res=false from by
      rw[HE.out,HTB.out]
      have:A.all (fun s=>decide (0≤s.1) && decide (s.1≤1099511627776))=false:=by
       rw[List.all_eq_false]
       refine ⟨_,List.getElem_mem hk, ?_⟩
       rw[getD_get _ _ _ hk] at h
       simpa using h
      rw[this];rfl)
     generalize hz2:w2=wz at *
     clear hz2
     have q7:=HBR.out.cell 7;have qz:=HBR.out.lt
     simp at q7
     go_wp2
     clear q7 qz
     go_loopg [3] A.length (fun g v3 wr=>∃ k:Nat,v3 = .int .i64 k∧k≤A.length∧A.length - k≤g∧(∀ i,i<k→0≤(A.getD i (0,0,0)).1∧(A.getD i (0,0,0)).1≤1099511627776)∧Below wz.heap.size wz wr)
     case atStart=>exact ⟨0,rfl,Nat.zero_le _,by omega,fun i hi=>by omega,Below.refl _ _⟩
     case round =>
      obtain ⟨k,rfl,hk,hg,hp,hb⟩:=hrel
      have HP:=hidE hp;have HG:=hidE hg
      have hk1:k≤1024:=by have:=HL.out;omega
      have HBK:=hidE (bstep hb HB.out)
      have hbr:=HBR.out.past hb
      have q7:=hbr.cell 7;have qz:=hbr.lt
      simp at q7
      clear hp hg hbr
      by_cases hlt:k<A.length
      ·obtain ⟨b,off,rfl,hbz,hc⟩:=(HA.out.past hb) (by omega)
       have c0:wr.cell? ⟨b,off+k * 3,none⟩=some (.int .i64 (A.getD k (0,0,0)).1):=(hc.get hlt).1
       have HN:=hidE (HNO.out k hlt)
       have HK1:=hidE (show k+1≤A.length from hlt)
       have HNX:=hidE (fun (h:0≤(A.getD k (0,0,0)).1∧(A.getD k (0,0,0)).1≤1099511627776)=>show ∀ i,i<k+1→0≤(A.getD i (0,0,0)).1∧(A.getD i (0,0,0)).1≤1099511627776 from fun i hi=>by
        by_cases c:i<k
        ·exact HP.out i c
        ·have e:i=k:=by omega
         rw[e];exact h)
       generalize (A.getD k (0,0,0)).1=t at *
       have HBT:=hidE hb
       clear hc hb
       by_cases h3:t<0
       ·have d3:decide (t<0)=true:=decide_eq_true h3
        have HX:=hidE (HN.out (by omega))
        clear h3
        go_wp2
        go_ret
        exact ⟨by rw[HX.out];rfl,HBK.out⟩
       ·have d3:decide (t<0)=false:=decide_eq_false h3
        by_cases h4:1099511627776<t
        ·have d4:decide (1099511627776<t)=true:=decide_eq_true h4
         have HX:=hidE (HN.out (by omega))
         clear h3 h4
         go_wp2
         go_ret
         exact ⟨by rw[HX.out];rfl,HBK.out⟩
        ·have d4:decide (1099511627776<t)=false:=decide_eq_false h4
         have HY:=hidE (HNX.out (by omega))
         clear h3 h4 hlt hk
         go_wp2
         go_roundg (A.length - (k+1))
         case measure=>have:=HG.out;have:=HK1.out;omega
         case rel=>exact ⟨k+1,by go_num,HK1.out,Nat.le_refl _,HY.out,HBT.out⟩
      ·have HAL:=hidE (show A.all (fun s=>decide (0≤s.1) && decide (s.1≤1099511627776))=true by
        rw[List.all_eq_true]
        intro x hx
        obtain ⟨i,hi,rfl⟩:=List.getElem_of_mem hx
        have:=HP.out i (by omega)
        rw[getD_get _ _ _ hi] at this
        simpa using this)
       by_cases h5:A.length=0
       ·have HX:=hidE (show res=true by rw[HE.out,HTB.out,HAL.out,decide_eq_true h5];rfl)
        have d5:decide ((A.length:Int)=0)=true:=decide_eq_true (by omega)
        have d5':((A.length:Int) == 0)=true:=beq_iff_eq.2 (by omega)
        clear hb
        go_wp2
        go_ret
        exact ⟨by rw[HX.out];rfl,HBK.out⟩
       ·have HX:=hidE (show res=(vls A (A.length - 1) == (0,0)) by rw[HE.out,HTB.out,HAL.out,decide_eq_false h5];rfl)
        have d5:decide ((A.length:Int)=0)=false:=decide_eq_false (by omega)
        have d5':((A.length:Int) == 0)=false:=beq_eq_false_iff_ne.2 (by omega)
        obtain ⟨b,off,rfl,hbz,hc⟩:=(HA.out.past hb) (by omega)
        obtain ⟨_,c1,c2⟩:=hc.get (show A.length - 1<A.length by omega)
        clear hb hc
        generalize vls A (A.length - 1)=vv at *
        obtain ⟨vm,vc⟩:=vv
        simp only at c1 c2
        by_cases e1:vm=0
        ·by_cases e2:vc=0
         ·subst e1;subst e2
          have HX:=hidE (show res=true by rw[HX.out];rfl)
          go_wp2
          all_goals
           go_ret
           refine ⟨?_,HBK.out⟩
           first | (rw[HX.out];rfl) | (refine ret_bool ?_;rw[HX.out];simp;done) | (refine ret_bool ?_;rw[HX.out];simp;assumption)
         ·have HX:=hidE (show res=false by rw[HX.out];exact beq_eq_false_iff_ne.2 (fun h=>e2 (Prod.mk.inj h).2))
          have g2:(vc == 0)=false:=beq_eq_false_iff_ne.2 e2
          have g2':decide (vc=0)=false:=decide_eq_false e2
          subst e1
          go_wp2
          all_goals
           go_ret
           refine ⟨?_,HBK.out⟩
           first | (rw[HX.out];rfl) | (refine ret_bool ?_;rw[HX.out];simp;done) | (refine ret_bool ?_;rw[HX.out];simp;assumption)
        ·have HX:=hidE (show res=false by rw[HX.out];exact beq_eq_false_iff_ne.2 (fun h=>e1 (Prod.mk.inj h).1))
         have g1:(vm == 0)=false:=beq_eq_false_iff_ne.2 e1
         have g1':decide (vm=0)=false:=decide_eq_false e1
         go_wp2
         all_goals
          go_ret
          refine ⟨?_,HBK.out⟩
          first | (rw[HX.out];rfl) | (refine ret_bool ?_;rw[HX.out];simp;done) | (refine ret_bool ?_;rw[HX.out];simp;assumption)
theorem Tryz.infoSlR:(Tryz.prog.info? 22).map (fun i=>(i.zero,i.size,i.bytes))=some (some (.slice none 0 0),1,24):=by kernel_rfl
set_option maxRecDepth 100000 in
theorem new11_c {va:Value} {F:List Sg} (w:World) (hF:SliS w va F) (hl:F.length≤1000000000) :
  Calls Tryz.prog 13 #[va] w fun e w'=>Below w.heap.size w w'∧((posB F=false∧e = .returned (.tuple #[.agg #[.slice none 0 0,.slice none 0 0],.int .i64 5]))∨(posB F=true∧e = .returned (.tuple #[.agg #[va,.slice none 0 0],.int .i64 0]))):=by
 obtain ⟨a,cap,rfl,h1,h2,h3⟩:=hF
 have HAB:=hidE (fun w hA=>above11_c F a cap w hl hA)
 have HA:=hidE h3
 clear h3
 cases hp:posB F
 ·rw[hp] at HAB
  clear hp
  go_enter Tryz.func13,Tryz.ntmps13
  go_wp2_with fail
  ((with_reducible refine (HAB.out _ (HA.out.past (by (repeat (first | exact Below.refl _ _ | assumption | refine balloc ?_ _ | refine below_drewN ?_ _ | refine bstep (by assumption) ?_ | refine bstep (Past.prop _) ?_ | refine Below.setCell ?_ (by first | exact Nat.le_refl _ | (simp;done) | (simp;omega)) _))))).mono ?_);rintro e w1 ⟨rfl,hb1⟩)
  have B0:=(Blk.made w #[.slice none 0 0,.slice none 0 0] 33).past hb1
  have b0:=B0.cell 0;have b1:=B0.cell 1;have bz:=B0.lt;have fz0:=B0.free 0;have fz1:=B0.free 1
  simp at b0 b1
  go_wp2
  refine bodyPost_ret (v := .tuple #[.agg #[.slice none 0 0,.slice none 0 0],.int .i64 5]) (by simp[results,Tryz.results13,go_sem,b0,b1]) rfl ⟨by (repeat (first | exact Below.refl _ _ | assumption | refine balloc ?_ _ | refine below_drewN ?_ _ | refine bstep (by assumption) ?_ | refine bstep (Past.prop _) ?_ | refine Below.setCell ?_ (by first | exact Nat.le_refl _ | (simp;done) | (simp;omega)) _)),.inl ⟨trivial,rfl⟩⟩
 ·rw[hp] at HAB
  clear hp
  go_enter Tryz.func13,Tryz.ntmps13
  go_wp2_with fail
  ((with_reducible refine (HAB.out _ (HA.out.past (by (repeat (first | exact Below.refl _ _ | assumption | refine balloc ?_ _ | refine below_drewN ?_ _ | refine bstep (by assumption) ?_ | refine bstep (Past.prop _) ?_ | refine Below.setCell ?_ (by first | exact Nat.le_refl _ | (simp;done) | (simp;omega)) _))))).mono ?_);rintro e w1 ⟨rfl,hb1⟩)
  have B0:=(Blk.made w #[.slice none 0 0,.slice none 0 0] 33).past hb1
  have b0:=B0.cell 0;have b1:=B0.cell 1;have bz:=B0.lt;have fz0:=B0.free 0;have fz1:=B0.free 1
  simp at b0 b1
  go_wp2
  refine bodyPost_ret (v := .tuple #[.agg #[.slice a F.length cap,.slice none 0 0],.int .i64 0]) (by simp[results,Tryz.results13,go_sem,b0,b1]) rfl ⟨by (repeat (first | exact Below.refl _ _ | assumption | refine balloc ?_ _ | refine below_drewN ?_ _ | refine bstep (by assumption) ?_ | refine bstep (Past.prop _) ?_ | refine Below.setCell ?_ (by first | exact Nat.le_refl _ | (simp;done) | (simp;omega)) _)),.inr ⟨trivial,rfl⟩⟩
theorem byU_step {L:List Rv} {u:List UInt8} {k:Nat} (h:k<L.length):byU (L.take (k+1)) u=if (decide (u=[]) || decide ((L.getD k rv0).u=u))=true then byU (L.take k) u++[L.getD k rv0] else byU (L.take k) u:=by
 unfold byU
 rw[rvs_take h,List.filter_append]
 cases hc:(decide (u=[]) || decide ((L.getD k rv0).u=u))
 ·rw[if_neg (by decide)]
  simp only[List.filter_cons,hc,List.filter_nil]
  simp
 ·rw[if_pos rfl]
  simp only[List.filter_cons,hc,List.filter_nil,if_true]
def VsS (w:World) (vs:List Value) (L:List Rv):Prop:=vs.length=L.length∧∀ i,i<vs.length→SliS w (vs.getD i (.slice none 0 0)) (L.getD i rv0).A
theorem VsS.past {w w':World} {vs:List Value} {L:List Rv} (h:VsS w vs L) (hb:Below w.heap.size w w'):VsS w' vs L:=⟨h.1,fun i hi=>(h.2 i hi).past hb⟩
theorem vsS_nil (w:World):VsS w [] []:=⟨rfl,fun i hi=>by simp at hi⟩
theorem vsS_snoc {w:World} {vs:List Value} {L:List Rv} {v:Value} {r:Rv} (h:VsS w vs L) (hv:SliS w v r.A):VsS w (vs++[v]) (L++[r]):=⟨by simp[h.1],fun i hi=>by
 simp only[List.length_append,List.length_singleton] at hi
 by_cases hl:i<vs.length
 ·have:=h.2 i hl
  rw[List.getD_eq_getElem?_getD,List.getElem?_append_left hl,←List.getD_eq_getElem?_getD,List.getD_eq_getElem?_getD (l:=L++[r]),List.getElem?_append_left (by rw[←h.1];exact hl),←List.getD_eq_getElem?_getD]
  exact this
 ·have e:i=vs.length:=by omega
  subst e
  rw[List.getD_eq_getElem?_getD,List.getElem?_append_right (Nat.le_refl _),List.getD_eq_getElem?_getD (l:=L++[r]),List.getElem?_append_right (by rw[←h.1];exact Nat.le_refl _),←h.1,Nat.sub_self]
  exact hv⟩
theorem fns_getD (L:List Rv) (i:Nat):(fnsS L).getD i []=(L.getD i rv0).A:=by
 unfold fnsS
 rw[List.getD_eq_getElem?_getD,List.getD_eq_getElem?_getD,List.getElem?_map]
 cases L[i]? <;> rfl
theorem argR_own {w:World} {B n:Nat} {e:TypeId} {v:Value} {vs:List Value} {L:List Rv} (h:w.ownsRow B e 1 v n vs) (hv:VsS w vs L):∃ a cap,v = .slice a (fnsS L).length cap∧ArgR w a (fnsS L):=by
 have hn:(fnsS L).length=vs.length:=by unfold fnsS;rw[List.length_map,hv.1]
 have h':=h
 obtain ⟨h1,h2 | ⟨g,cap,cur,h3,h4,h5,h6,h7,h8,h9⟩⟩:=h
 ·obtain ⟨rfl,h2⟩:=h2
  have:vs.length=0:=by omega
  exact ⟨none,0,by rw[hn,this],fun hl=>by omega⟩
 ·refine ⟨some ⟨g,0,none⟩,cap,by rw[h3,hn,h1,Nat.mul_one],fun hl=>⟨g,0,rfl,lt_of_block h5,fun i hi => ?_⟩⟩
  have hi':i<vs.length:=by rw[←hn];exact hi
  subst h3
  have hc:=h'.cellAt i (by omega)
  obtain ⟨a,c,e1,_,_,hA⟩:=hv.2 i hi'
  rw[List.getD_eq_getElem?_getD,List.getElem?_eq_getElem hi',Option.getD_some] at e1
  rw[List.getElem?_eq_getElem hi',e1] at hc
  rw[fns_getD]
  exact ⟨a,c,by rw[Nat.zero_add];exact hc,hA⟩
theorem lenR_by {L:List Rv} (h:∀ r∈L,r.A.length≤1024):lenR (fnsS L)≤L.length * 1024:=by
 induction L with
 | nil=>simp[lenR,fnsS]
 | cons r L ih =>
  have h1:=h r (List.mem_cons_self ..)
  have h2:=ih fun x hx=>h x (List.mem_cons_of_mem _ hx)
  unfold lenR fnsS at h2 ⊢
  simp only[List.map_cons,List.sum_cons,List.length_cons] at h2 ⊢
  omega
set_option maxRecDepth 100000 in
set_option maxHeartbeats 8000000 in
theorem load11_c {v:Value} {l:List Rw} {L:List Rv} (vc:Value) (u:List UInt8) (w:World) (hS:SliRw w v l) (hF:RwsF w l L) (hl:l.length≤200) (hA:∀ r∈L,r.A.length≤1024) (hvc:∃ a n c,vc = .slice a n c) (hu:u.length≤maxLen) :
  Calls Tryz.prog 58 #[.agg #[vc,v],nmV u] w (OfIs w (sumS (fnsS (byU L u))).1 (sumS (fnsS (byU L u))).2):=by
 obtain ⟨ix,hix,hz0,hz1,hz2⟩:=info_parts Tryz.infoSlR
 have IX:=hidE hix;have IZ0:=hidE hz0;have IZ1:=hidE hz1;have IZ2:=hidE hz2
 clear hix hz0 hz1 hz2
 obtain ⟨ac,nc,cc,rfl⟩:=hvc
 obtain ⟨a,cap,rfl,p1,p2,p3,p4,p5⟩:=hS
 obtain ⟨w0,hw0⟩:∃ w0,w0=w.alloc (Obj.cells #[.slice ac nc cc,.slice a l.length cap] 33):=⟨_,rfl⟩
 have hb0:Below w.heap.size w w0:=by rw[hw0];(repeat (first | exact Below.refl _ _ | assumption | refine balloc ?_ _ | refine below_drewN ?_ _ | refine bstep (by assumption) ?_ | refine bstep (Past.prop _) ?_ | refine Below.setCell ?_ (by first | exact Nat.le_refl _ | (simp;done) | (simp;omega)) _))
 have HB0:=hidE hb0
 have HBX:=hidE (show Blk w0 w.heap.size #[.slice ac nc cc,.slice a l.length cap] 33 by rw[hw0];exact Blk.made _ _ _)
 have HZ0:=hidE (show w0.heap.size=w.heap.size+1 by rw[hw0];simp)
 have HP4:=hidE p4;have HL:=hidE hl;have HFF:=hidE hF;have HAL:=hidE hA;have HUL:=hidE hu
 have HLN:=hidE hF.1
 clear p1 p2 p3 p4 p5 hF hb0 hA hu
 go_enter Tryz.func58,Tryz.ntmps58
 go_upto_region 1 with fail
 rw[←hw0]
 clear hw0
 go_wp2
 go_loopg [6,7] l.length (fun g v6 v7 wr=>∃ (k:Nat) (vs:List Value),v7 = .int .i64 k∧k≤l.length∧l.length - k≤g∧wr.ownsRow (w.heap.size+1) 22 1 v6 vs.length vs∧VsS w vs (byU (L.take k) u)∧vs.length≤k∧Blk wr w.heap.size #[.slice ac nc cc,.slice a l.length cap] 33∧Below w.heap.size w wr∧w.heap.size+1≤wr.heap.size)
 case atStart=>exact ⟨0,[],rfl,Nat.zero_le _,by omega,own_nil _ _ _,vsS_nil _,Nat.le_refl _,HBX.out,HB0.out,by rw[HZ0.out];exact Nat.le_refl _⟩
 case round =>
  obtain ⟨k,vs,rfl,hk,hg,ho,hvs,hvk,hbx,hb,hwz⟩:=hrel
  have HO:=hidE ho;have HVS:=hidE hvs;have HVK:=hidE hvk;have HB:=hidE hb;have HG:=hidE hg;have HBY:=hidE hbx;have HWZ:=hidE hwz
  have hk200:k≤200:=by have:=HL.out;omega
  have q0:=hbx.cell 0;have q1:=hbx.cell 1;have qz:=hbx.lt
  simp at q0 q1
  clear hg hbx ho hvs hvk hwz
  by_cases hlt:k<l.length
  ·obtain ⟨b,off,rfl,hbz,hc⟩:=HP4.out (by omega)
   have gg:=hc.get hlt
   have c2:=gg.2.2.1;have c7:=gg.2.2.2.2.2.2.2
   rw[←hb.cell (p:=⟨b,_,none⟩) hbz] at c2 c7
   have hbz':b<wr.heap.size:=Nat.lt_of_lt_of_le hbz hb.size
   have hR:=HFF.out.2 k hlt
   have HK1:=hidE (show k+1≤l.length from hlt)
   have HST:=hidE (byU_step (u:=u) (show k<L.length by rw[HLN.out];exact hlt))
   have eu:(l.getD k rw0).u=(L.getD k rv0).u:=hR.u
   rw[eu] at c2
   have HRA:=hidE hR.a.1
   clear hc gg hbz hb hR eu
   generalize L.getD k rv0=r at *
   obtain ⟨va,hva⟩:∃ va,(l.getD k rw0).vA=va:=⟨_,rfl⟩
   rw[hva] at c7 HRA
   clear hva
   obtain ⟨aa,ca,rfl,_⟩:=id HRA.out
   by_cases hc:(decide (u=[]) || decide (r.u=u))=true
   ·have HST2:=hidE (HST.out.trans (if_pos hc))
    clear HST
    by_cases hu0:u=[]
    ·subst hu0
     go_wp2_with (at_builtin;refine list_appV rfl (.tmp 27) (.tmp 34) 24 rfl (w.heap.size+1) 22 ix _ 1 24 Tryz.underlying24 IX.out IZ0.out IZ1.out IZ2.out rfl (by decide) u6 vs.length vs rfl (own_below HO.out (by (repeat (first | exact Below.refl _ _ | assumption | refine balloc ?_ _ | refine below_drewN ?_ _ | refine bstep (by assumption) ?_ | refine bstep (Past.prop _) ?_ | refine Below.setCell ?_ (by first | exact Nat.le_refl _ | (simp;done) | (simp;omega)) _)))) _ 1 [.slice aa r.A.length ca] rfl (srcV_new (Blk.made_at _ _ _ _ (by first | rfl | (simp;done))) rfl (by intro y hy;simp at hy;subst hy;rfl)) (by have:=HVK.out;omega) (by omega) (by simp;have:=HWZ.out;omega) ?_;intro v4 w4 own4 hg4)
     have HB4:=hidE (Below.grown (show Below w.heap.size w (wr.alloc (Obj.cells #[.slice aa r.A.length ca] 22)) from by have:=HB.out;(repeat (first | exact Below.refl _ _ | assumption | refine balloc ?_ _ | refine below_drewN ?_ _ | refine bstep (by assumption) ?_ | refine bstep (Past.prop _) ?_ | refine Below.setCell ?_ (by first | exact Nat.le_refl _ | (simp;done) | (simp;omega)) _))) hg4 (by simp;have:=HB.out.size;omega) (fun kk hk=>by have:=own_block HO.out hk;omega))
     have HBY4:=hidE ((HBY.out.past (show Below wr.heap.size wr (wr.alloc (Obj.cells #[.slice aa r.A.length ca] 22)) from by (repeat (first | exact Below.refl _ _ | assumption | refine balloc ?_ _ | refine below_drewN ?_ _ | refine bstep (by assumption) ?_ | refine bstep (Past.prop _) ?_ | refine Below.setCell ?_ (by first | exact Nat.le_refl _ | (simp;done) | (simp;omega)) _)))).grown hg4 (fun e=>by have:=own_block HO.out e.symm;omega))
     have hz4:w.heap.size+1≤w4.heap.size:=Nat.le_trans HWZ.out (Nat.le_trans (by simp) hg4.size)
     have HO4:=hidE (show w4.ownsRow (w.heap.size+1) 22 1 v4 (vs++[Value.slice aa r.A.length ca]).length (vs++[Value.slice aa r.A.length ca]) from by simpa using own4)
     clear own4 hg4 q0 q1 qz c2 c7 hbz' hlt hk
     go_wp2
     go_roundg (l.length - (k+1))
     case measure=>have:=HG.out;have:=HK1.out;omega
     case rel=>exact ⟨k+1,_,by go_num,HK1.out,Nat.le_refl _,HO4.out,by rw[HST2.out];exact vsS_snoc HVS.out HRA.out,by have:=HVK.out;simp;omega,HBY4.out,HB4.out,hz4⟩
    ·have hu1:r.u=u:=by
      rw[decide_eq_false hu0,Bool.false_or] at hc
      exact of_decide_eq_true hc
     go_upto_region 6 with fail
     clear hc hu0 hu1
     go_wp2_with (at_builtin;refine list_appV rfl (.tmp 27) (.tmp 34) 24 rfl (w.heap.size+1) 22 ix _ 1 24 Tryz.underlying24 IX.out IZ0.out IZ1.out IZ2.out rfl (by decide) u6 vs.length vs rfl (own_below HO.out (by (repeat (first | exact Below.refl _ _ | assumption | refine balloc ?_ _ | refine below_drewN ?_ _ | refine bstep (by assumption) ?_ | refine bstep (Past.prop _) ?_ | refine Below.setCell ?_ (by first | exact Nat.le_refl _ | (simp;done) | (simp;omega)) _)))) _ 1 [.slice aa r.A.length ca] rfl (srcV_new (Blk.made_at _ _ _ _ (by first | rfl | (simp;done))) rfl (by intro y hy;simp at hy;subst hy;rfl)) (by have:=HVK.out;omega) (by omega) (by simp;have:=HWZ.out;omega) ?_;intro v4 w4 own4 hg4)
     have HB4:=hidE (Below.grown (show Below w.heap.size w (wr.alloc (Obj.cells #[.slice aa r.A.length ca] 22)) from by have:=HB.out;(repeat (first | exact Below.refl _ _ | assumption | refine balloc ?_ _ | refine below_drewN ?_ _ | refine bstep (by assumption) ?_ | refine bstep (Past.prop _) ?_ | refine Below.setCell ?_ (by first | exact Nat.le_refl _ | (simp;done) | (simp;omega)) _))) hg4 (by simp;have:=HB.out.size;omega) (fun kk hk=>by have:=own_block HO.out hk;omega))
     have HBY4:=hidE ((HBY.out.past (show Below wr.heap.size wr (wr.alloc (Obj.cells #[.slice aa r.A.length ca] 22)) from by (repeat (first | exact Below.refl _ _ | assumption | refine balloc ?_ _ | refine below_drewN ?_ _ | refine bstep (by assumption) ?_ | refine bstep (Past.prop _) ?_ | refine Below.setCell ?_ (by first | exact Nat.le_refl _ | (simp;done) | (simp;omega)) _)))).grown hg4 (fun e=>by have:=own_block HO.out e.symm;omega))
     have hz4:w.heap.size+1≤w4.heap.size:=Nat.le_trans HWZ.out (Nat.le_trans (by simp) hg4.size)
     have HO4:=hidE (show w4.ownsRow (w.heap.size+1) 22 1 v4 (vs++[Value.slice aa r.A.length ca]).length (vs++[Value.slice aa r.A.length ca]) from by simpa using own4)
     clear own4 hg4 q0 q1 qz c2 c7 hbz' hlt hk
     go_wp2
     go_roundg (l.length - (k+1))
     case measure=>have:=HG.out;have:=HK1.out;omega
     case rel=>exact ⟨k+1,_,by go_num,HK1.out,Nat.le_refl _,HO4.out,by rw[HST2.out];exact vsS_snoc HVS.out HRA.out,by have:=HVK.out;simp;omega,HBY4.out,HB4.out,hz4⟩
   ·have HST2:=hidE (HST.out.trans (if_neg hc))
    have hu0:¬ u=[]:=fun h=>hc (by rw[decide_eq_true h];rfl)
    have hu1:¬ r.u=u:=fun h=>hc (by rw[decide_eq_true h];exact Bool.or_true _)
    have HWZ':=hidE HWZ.out
    have d1:decide (r.u=u)=false:=decide_eq_false hu1
    have d2:(r.u == u)=false:=beq_eq_false_iff_ne.2 hu1
    have d3:decide (u=[])=false:=decide_eq_false hu0
    have d4:(u == [])=false:=beq_eq_false_iff_ne.2 hu0
    clear HST hc
    go_wp2
    go_roundg (l.length - (k+1))
    case measure=>have:=HG.out;have:=HK1.out;omega
    case rel=>exact ⟨k+1,vs,by go_num,HK1.out,Nat.le_refl _,HO.out,by rw[HST2.out];exact HVS.out,by have:=HVK.out;omega,HBY.out,HB.out,HWZ'.out⟩
  ·have HTK:=hidE (show L.take k=L from by rw[List.take_of_length_le];have:=HLN.out;omega)
   rw[HTK.out] at HVS
   obtain ⟨av,cv,rfl,hAR⟩:=argR_own HO.out (HVS.out.past HB.out)
   have HAR:=hidE hAR
   have HL1:=hidE (show (byU L u).length≤200 from Nat.le_trans (List.length_filter_le _ _) (by have:=HLN.out;have:=HL.out;omega))
   have HL2:=hidE (show ∀ r∈byU L u,r.A.length≤1024 from fun r hr=>HAL.out r (List.mem_filter.1 hr).1)
   generalize byU L u=M at *
   have HLM:=hidE (show (fnsS M).length≤999999990∧lenR (fnsS M)≤999999990 from ⟨by unfold fnsS;rw[List.length_map];have:=HL1.out;omega,by have:=lenR_by HL2.out;have:=HL1.out;omega⟩)
   clear hAR hk
   go_wp2_with fail
   ((with_reducible refine (rsum_c _ _ _ _ HLM.out.1 HLM.out.2 HAR.out).mono ?_);rintro e w8 ⟨v8,rfl,hs8,hb8⟩)
   have HB8:=hidE (bstep hb8 HB.out);have HS8:=hidE hs8
   clear hs8 hb8
   go_wp2
   go_ret2
   exact ⟨_,rfl,HS8.out,HB8.out⟩
end
end Go.Proofs.YtcmponckjkalaaaGreat
