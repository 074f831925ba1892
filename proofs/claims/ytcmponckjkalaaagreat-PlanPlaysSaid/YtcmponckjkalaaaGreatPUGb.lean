/- The document's own answers of layer 11: the users, in order. No conditions but the sizes. -/
import Derived.Test.YtcmponckjkalaaaGreatPUGa
import Derived.Test.YtcmponckjkalaaaGreatPUGX
import Derived.Sort.Walk0
namespace Go.Proofs.YtcmponckjkalaaaGreat
section
open Go.ChangeShapes Go.WideShapes Go.ChangeAt Go.RowKit
attribute [local irreducible] Go.Calls
theorem Tryz.infoStrU:(Tryz.prog.info? 9).map (fun i=>(i.zero,i.size,i.bytes))=some (some (.string ⟨#[]⟩),1,16):=by kernel_rfl
theorem insU_in {out:List (List UInt8)} {s:List UInt8} {k:Nat} (hk:k<out.length) (h:out.getD k []=s):insU out s=out:=by
 unfold insU
 rw[if_pos]
 rw[←h,List.getD_eq_getElem?_getD,List.getElem?_eq_getElem hk]
 exact List.getElem_mem hk
theorem insU_at {out:List (List UInt8)} {s:List UInt8} {k:Nat} (ho:out.Pairwise (·<·)) (hk:k≤out.length) (h1:∀ j,j<k→out.getD j []<s) (h2:k=out.length∨(¬ out.getD k []<s∧out.getD k []≠s)):insU out s=out.take k++([s]++out.drop k):=by
 have hlt:∀ j,(hj:j<k)→out[j]'(by omega)<s:=fun j hj=>by
  have:=h1 j hj
  rwa [List.getD_eq_getElem?_getD,List.getElem?_eq_getElem (by omega)] at this
 have hgt:∀ j,k≤j→(hj:j<out.length)→s<out[j]:=fun j hkj hj=>by
  rcases h2 with h2 | ⟨h2,h3⟩
  ·omega
  ·have hkl:k<out.length:=by omega
   rw[List.getD_eq_getElem?_getD,List.getElem?_eq_getElem hkl] at h2 h3
   simp only[Option.getD_some] at h2 h3
   have hs:s<out[k]:=by
    have h':s≤out[k]:=List.not_lt.1 h2
    by_cases c:s<out[k]
    ·exact c
    ·exact absurd (List.le_antisymm (List.not_lt.1 c) h') h3
   by_cases e:j=k
   ·subst e;exact hs
   ·exact List.lt_trans hs (List.pairwise_iff_getElem.1 ho k j hkl hj (by omega))
 have hno:s ∉ out:=fun hm=>by
  obtain ⟨j,hj,e⟩:=List.getElem_of_mem hm
  by_cases c:j<k
  ·have:=hlt j c;rw[e] at this;exact List.lt_irrefl _ this
  ·have:=hgt j (by omega) hj;rw[e] at this;exact List.lt_irrefl _ this
 have ht:∀ (L:List (List UInt8)) (m:Nat),m≤L.length→(∀ j,(hj:j<m)→(hj2:j<L.length)→L[j]<s)→(∀ j,m≤j→(hj:j<L.length)→s<L[j])→L.takeWhile (fun x=>decide (x<s))=L.take m∧L.dropWhile (fun x=>decide (x<s))=L.drop m:=by
  intro L
  induction L with
  | nil=>intro m hm _ _;simp at hm;subst hm;exact ⟨rfl,rfl⟩
  | cons y L ih =>
   intro m hm q1 q2
   match m with
   | 0 =>
    have:=q2 0 (Nat.le_refl _) (by simp)
    have hn:¬ (decide (y<s)=true):=by
     simp only[decide_eq_true_eq]
     exact fun h=>List.lt_irrefl _ (List.lt_trans h this)
    rw[List.takeWhile_cons_of_neg (p:=fun x=>decide (x<s)) hn,List.dropWhile_cons_of_neg (p:=fun x=>decide (x<s)) hn]
    exact ⟨rfl,rfl⟩
   | m+1 =>
    have hy:decide (y<s)=true:=decide_eq_true (q1 0 (by omega) (by simp))
    rw[List.takeWhile_cons_of_pos (p:=fun x=>decide (x<s)) hy,List.dropWhile_cons_of_pos (p:=fun x=>decide (x<s)) hy]
    have:=ih m (by simpa using hm) (fun j hj hj2=>q1 (j+1) (by omega) (by simpa using hj2)) (fun j hj hj2=>q2 (j+1) (by omega) (by simpa using hj2))
    rw[this.1,this.2]
    exact ⟨rfl,rfl⟩
 have:=ht out k hk (fun j hj hj2=>hlt j hj) hgt
 unfold insU
 rw[if_neg hno,this.1,this.2]
 rfl
theorem usersS_take {L:List Rv} {k:Nat} (h:k<L.length):usersS (L.take (k+1))=insU (usersS (L.take k)) (L.getD k rv0).u:=by
 unfold usersS
 rw[rvs_take h,List.foldl_append];rfl
def CellsU (w:World) (g:Nat) (off:Nat) (us:List (List UInt8)):Prop:=∀ i,i<us.length→w.cell? ⟨g,off+i,none⟩=some (nmV (us.getD i []))
theorem CellsU.below {w w':World} {g off B:Nat} {us:List (List UInt8)} (h:CellsU w g off us) (hb:Below B w w') (hz:g<B):CellsU w' g off us:=fun i hi=>(hb.cell (p:=⟨g,_,none⟩) hz).trans (h i hi)
theorem CellsU.take {w:World} {g off:Nat} {us:List (List UInt8)} (h:CellsU w g off us) (k:Nat):CellsU w g off (us.take k):=fun i hi=>by
 rw[List.length_take] at hi
 rw[List.getD_eq_getElem?_getD,List.getElem?_take_of_lt (by omega),←List.getD_eq_getElem?_getD]
 exact h i (by omega)
theorem CellsU.drop {w:World} {g off:Nat} {us:List (List UInt8)} (h:CellsU w g off us) (k:Nat):CellsU w g (off+k) (us.drop k):=fun i hi=>by
 rw[List.length_drop] at hi
 rw[List.getD_eq_getElem?_getD,List.getElem?_drop,←List.getD_eq_getElem?_getD,show off+k+i=off+(k+i) by omega]
 exact h (k+i) (by omega)
theorem srcU {w:World} {g off n cap:Nat} {us:List (List UInt8)} (hn:n=us.length) (hc:CellsU w g off us):SrcV w 1 (.slice (some ⟨g,off,none⟩) n cap) n (us.map encStr):=by
 subst hn
 refine ⟨_,cap,rfl,(fun e=>by cases e),by simp,(fun u hu=>by obtain ⟨x,_,rfl⟩:=List.mem_map.1 hu;rfl), ?_⟩
 rintro ad ⟨⟩ k u hk
 have hkl:k<us.length:=by
  obtain ⟨hlt,_⟩:=List.getElem?_eq_some_iff.1 hk
  simpa using hlt
 have:=hc k hkl
 rw[List.getElem?_map,List.getElem?_eq_getElem hkl] at hk
 rw[List.getD_eq_getElem?_getD,List.getElem?_eq_getElem hkl] at this
 have e2:((⟨g,off,none⟩:Addr).add k)=⟨g,off+k,none⟩:=by
  unfold Addr.add
  by_cases c:k=0
  ·subst c;simp
  ·simp[c]
 rw[e2,this]
 simpa using hk
theorem ownU_open {w:World} {B:Nat} {e:TypeId} {v:Value} {us:List (List UInt8)} (h:w.ownsRow B e 1 v us.length (us.map encStr)):(v = .slice none 0 0∧us=[])∨∃ g cap,v = .slice (some ⟨g,0,none⟩) us.length cap∧us.length≤cap∧B≤g∧g<w.heap.size∧CellsU w g 0 us:=by
 have h':=h
 obtain ⟨h1,h2 | ⟨g,cap,cur,rfl,h3,h4,h5,h6,h7,h8⟩⟩:=h
 ·exact .inl ⟨h2.1,List.eq_nil_of_length_eq_zero h2.2⟩
 ·refine .inr ⟨g,cap,rfl,h5,h3,lt_of_block h4,fun i hi => ?_⟩
  have:=h'.cellAt i (by simpa using hi)
  rw[Nat.zero_add,this,List.getElem?_map,List.getElem?_eq_getElem hi,List.getD_eq_getElem?_getD,List.getElem?_eq_getElem hi]
  rfl
theorem src_fromU {w0:World} {g n cap k:Nat} {us:List (List UInt8)} (hn:n=us.length) (hk:k≤n) (hz:g<w0.heap.size) (hc:CellsU w0 g 0 us) :
  ∃ ad:Addr,(if cap=k then some (⟨g,0,none⟩:Addr) else some ⟨g,k,none⟩)=some ad∧∀ w9,Below w0.heap.size w0 w9→n≤cap→SrcV w9 1 (.slice (some ad) (n - k) (cap - k)) (n - k) ((us.drop k).map encStr):=by
 by_cases hcp:cap=k
 ·refine ⟨⟨g,0,none⟩,by rw[if_pos hcp],fun w9 hb9 hnc => ?_⟩
  have e:us.drop k=[]:=List.drop_eq_nil_of_le (by omega)
  have e0:n - k=0:=by omega
  rw[e,e0]
  exact srcU (us:=[]) rfl (fun i hi=>by simp at hi)
 ·refine ⟨⟨g,k,none⟩,by rw[if_neg hcp],fun w9 hb9 _=>srcU (by rw[List.length_drop,hn]) ?_⟩
  have:=(hc.below hb9 hz).drop k
  rw[Nat.zero_add] at this
  exact this
set_option maxRecDepth 100000 in
set_option maxHeartbeats 16000000 in
theorem users11_c {v:Value} {l:List Rw} {L:List Rv} (vc:Value) (w:World) (hS:SliRw w v l) (hF:RwsF w l L) (hl:l.length≤200) (_hu:∀ r∈L,r.u.length≤maxLen) (hvc:∃ a n c,vc = .slice a n c) :
  Calls Tryz.prog 59 #[.agg #[vc,v]] w (UsrP w L):=by
 obtain ⟨ix,hix,hz0,hz1,hz2⟩:=info_parts Tryz.infoStrU
 have IX:=hidE hix;have IZ0:=hidE hz0;have IZ1:=hidE hz1;have IZ2:=hidE hz2
 clear hix hz0 hz1 hz2
 obtain ⟨ac,nc,cc,rfl⟩:=hvc
 obtain ⟨a,cap,rfl,p1,p2,p3,p4,p5⟩:=hS
 obtain ⟨w0,hw0⟩:∃ w0,w0=w.alloc (Obj.cells #[.slice ac nc cc,.slice a l.length cap] 33):=⟨_,rfl⟩
 have hb0:Below w.heap.size w w0:=by rw[hw0];(repeat (first | exact Below.refl _ _ | assumption | refine balloc ?_ _ | refine below_drewN ?_ _ | refine bstep (by assumption) ?_ | refine bstep (Past.prop _) ?_ | refine Below.setCell ?_ (by first | exact Nat.le_refl _ | (simp;done) | (simp;omega)) _))
 have HB0:=hidE hb0
 have HBX:=hidE (show Blk w0 w.heap.size #[.slice ac nc cc,.slice a l.length cap] 33 by rw[hw0];exact Blk.made _ _ _)
 have HP4:=hidE p4;have HL:=hidE hl;have HFF:=hidE hF
 have HLN:=hidE hF.1
 clear p1 p2 p3 p4 p5 hF hb0
 go_enter Tryz.func59,Tryz.ntmps59
 go_upto_region 1 with fail
 rw[←hw0]
 clear hw0
 go_wp2
 go_loopg [3,4] l.length (fun g v3 v4 wr=>∃ k:Nat,v4 = .int .i64 k∧k≤l.length∧l.length - k≤g∧wr.ownsRow (w.heap.size+1) 9 1 v3 (usersS (L.take k)).length ((usersS (L.take k)).map encStr)∧(usersS (L.take k)).length≤k∧Blk wr w.heap.size #[.slice ac nc cc,.slice a l.length cap] 33∧Below w.heap.size w wr)
 case atStart=>exact ⟨0,rfl,Nat.zero_le _,by omega,own_nil _ _ _,Nat.le_refl _,HBX.out,HB0.out⟩
 case round =>
  obtain ⟨k,rfl,hk,hg,ho,hok,hbx,hb⟩:=hrel
  have HO:=hidE ho;have HB:=hidE hb;have HG:=hidE hg;have HBY:=hidE hbx;have HOK:=hidE hok
  have hk200:k≤200:=by have:=HL.out;omega
  have q0:=hbx.cell 0;have q1:=hbx.cell 1;have qz:=hbx.lt
  simp at q0 q1
  clear hg hbx ho hok
  by_cases hlt:k<l.length
  ·obtain ⟨b,off,rfl,hbz,hc⟩:=HP4.out (by omega)
   have gg:=hc.get hlt
   have c2:=gg.2.2.1
   rw[←hb.cell (p:=⟨b,_,none⟩) hbz] at c2
   have hbz':b<wr.heap.size:=Nat.lt_of_lt_of_le hbz hb.size
   have HK1:=hidE (show k+1≤l.length from hlt)
   have HST:=hidE (usersS_take (show k<L.length by rw[HLN.out];exact hlt))
   rw[(HFF.out.2 k hlt).u] at c2
   have hkI:(k:Int)<(l.length:Int):=by omega
   generalize (L.getD k rv0).u=s at *
   have HORD:=hidE (usersS_ord (L.take k))
   generalize usersS (L.take k)=out at *
   clear hc gg hbz hb
   have hou:out.length≤200:=by have:=HOK.out;omega
   rcases ownU_open HO.out with ⟨rfl,rfl⟩ | ⟨g,cu,rfl,hoc,hBg,hgz,hcu⟩
   ·go_wp2
    go_loopg [6] 1 (fun g v6 wx=>v6 = .int .i64 0∧wx=wr)
    case atStart=>exact ⟨rfl,rfl⟩
    case round =>
     obtain ⟨rfl,rfl⟩:=hrel
     have HOK2:=hidE HOK.out
     have HWZ:=hidE (show w.heap.size+1≤wr.heap.size from by have:=HBY.out.lt;omega)
     clear HOK
     go_upto_region 10 with fail
     have HOK:ChOk (fun i=>([none,some (.slice none 0 0),some (.int .i64 0),some (.slice none 0 0),none,some (nmV s),none,none,some (.slice none 0 0),some (.int .i64 0),some (.slice none 0 0),none]:List (Option Value)).getD i none) (fun i=>[0,4,7,11].getD i 900) (fun j=>[901,902,6,903].getD j 990) 3:=by
      refine ⟨fun i hi => ?_,fun j => ?_,fun i k hi hk e => ?_,fun i j hi e => ?_⟩
      ·match i,hi with
       | 0,_=>rfl
       | 1,_=>rfl
       | 2,_=>rfl
       | 3,_=>rfl
      ·match j with
       | 0=>rfl
       | 1=>rfl
       | 2=>rfl
       | 3=>rfl
       | j+4=>rfl
      ·match i,k,hi,hk with
       | 0,0,_,_=>first | rfl | (simp at e)
       | 0,1,_,_=>first | rfl | (simp at e)
       | 0,2,_,_=>first | rfl | (simp at e)
       | 0,3,_,_=>first | rfl | (simp at e)
       | 1,0,_,_=>first | rfl | (simp at e)
       | 1,1,_,_=>first | rfl | (simp at e)
       | 1,2,_,_=>first | rfl | (simp at e)
       | 1,3,_,_=>first | rfl | (simp at e)
       | 2,0,_,_=>first | rfl | (simp at e)
       | 2,1,_,_=>first | rfl | (simp at e)
       | 2,2,_,_=>first | rfl | (simp at e)
       | 2,3,_,_=>first | rfl | (simp at e)
       | 3,0,_,_=>first | rfl | (simp at e)
       | 3,1,_,_=>first | rfl | (simp at e)
       | 3,2,_,_=>first | rfl | (simp at e)
       | 3,3,_,_=>first | rfl | (simp at e)
      ·match i,j,hi with
       | 0,0,_=>simp at e
       | 0,1,_=>simp at e
       | 0,2,_=>simp at e
       | 0,3,_=>simp at e
       | 0,j+4,_=>simp at e
       | 1,0,_=>simp at e
       | 1,1,_=>simp at e
       | 1,2,_=>simp at e
       | 1,3,_=>simp at e
       | 1,j+4,_=>simp at e
       | 2,0,_=>simp at e
       | 2,1,_=>simp at e
       | 2,2,_=>simp at e
       | 2,3,_=>simp at e
       | 2,j+4,_=>simp at e
       | 3,0,_=>simp at e
       | 3,1,_=>simp at e
       | 3,2,_=>simp at e
       | 3,3,_=>simp at e
       | 3,j+4,_=>simp at e
     have HINJ2:∀ q,q≤3→(fun j=>[901,902,6,903].getD j 990) q=(fun j=>[901,902,6,903].getD j 990) 2→q=2:=fun q hq e=>by
      match q,hq with
      | 0,_=>first | rfl | (simp at e)
      | 1,_=>first | rfl | (simp at e)
      | 2,_=>first | rfl | (simp at e)
      | 3,_=>first | rfl | (simp at e)
     refine wp_region_C 12 (ChI 9 1 wr (fun i=>([none,some (.slice none 0 0),some (.int .i64 0),some (.slice none 0 0),none,some (nmV s),none,none,some (.slice none 0 0),some (.int .i64 0),some (.slice none 0 0),none]:List (Option Value)).getD i none) (fun i=>[0,4,7,11].getD i 900) (fun j=>[901,902,6,903].getD j 990) 3 (fun i=>[0,0+0,0+0+1,0+0+1+0].getD i 0) (fun j=>[0,0,1,0].getD j 0) (fun i=>[[],[]++[],[]++[]++[nmV s],[]++[]++[nmV s]++[]].getD i []) (fun j=>[[],[],[nmV s],[]].getD j [])) (by kernel_rfl) (by decide) (by kernel_rfl) (chI_start (Below.refl _ _).drew) ?_ ?_
     ·intro i o hi ho
      match i,hi with
      | 0, _ =>
       have eo:=Option.some.inj ho
       have hg:o.guard=none:=by rw[←eo]
       refine cstep_evF hg ?_
       intro E L u w9 E1 E0 EC EF hl hw hI
       subst eo
       refine gives_ok (v := .slice (some ⟨w9.heap.size,0,none⟩) 0 0) (w':=w9.alloc (.cells #[] 9)) (by simp[execOp,go_sem]) ?_
       exact hI.nbase HOK hl (show World.ownsRow _ wr.heap.size 9 1 (.slice (some ⟨w9.heap.size,0,none⟩) 0 0) 0 [] from World.ownsRow_lit (e:=9) (size:=1) (base:=wr.heap.size) w9 #[] 0 hI.bel.size (by unfold maxLen;omega) rfl) ((Below.refl _ w9).alloc (Nat.le_refl _) _) (fun b hb=>by simp[Value.ownBlock] at hb;omega)
      | 1, _ =>
       have eo:=Option.some.inj ho
       have hg:o.guard=none:=by rw[←eo]
       refine cstep_evF hg ?_
       intro E L u w9 E1 E0 EC EF hl hw hI
       subst eo
       have a3:=(E0 3 (by kernel_rfl)).trans (show _=Value.slice none 0 0 from rfl)
       refine gives_ok (v := .slice none 0 0) (w':=w9) (by simp[execOp,go_sem,a3]) ?_
       exact hI.ndet HOK rfl (Below.refl _ _)
      | 2, _ =>
       have eo:=Option.some.inj ho
       have hg:o.guard=none:=by rw[←eo]
       refine cstep_evF hg ?_
       intro E L u w9 E1 E0 EC EF hl hw hI
       subst eo
       have a6:=(E0 6 (by kernel_rfl)).trans (show _=Value.int .i64 0 from rfl)
       refine gives_ok (v := .int .i64 0) (w':=w9) (by simp[execOp,go_sem,a6]) ?_
       exact hI.ndet HOK rfl (Below.refl _ _)
      | 3, _ =>
       have eo:=Option.some.inj ho
       have hg:o.guard=none:=by rw[←eo]
       refine cstep_evF hg ?_
       intro E L u w9 E1 E0 EC EF hl hw hI
       subst eo
       have a47:=(E1 47 1 (by kernel_rfl) (by simp)).trans (hI.det 1 _ rfl (hw 1 (by decide) (by kernel_rfl)))
       have a48:=(E1 48 2 (by kernel_rfl) (by simp)).trans (hI.det 2 _ rfl (hw 2 (by decide) (by kernel_rfl)))
       refine gives_ok (v := .slice none 0 0) (w':=w9) (by simp[execOp,go_sem,a47,a48]) ?_
       exact hI.ndet HOK rfl (Below.refl _ _)
      | 4, _ =>
       have eo:=Option.some.inj ho
       have hg:o.guard=none:=by rw[←eo]
       refine cstep_evF hg ?_
       intro E L u w9 E1 E0 EC EF hl hw hI
       subst eo
       have a46:=E1 46 0 (by kernel_rfl) (by simp)
       have a49:=(E1 49 3 (by kernel_rfl) (by simp)).trans (hI.det 3 _ rfl (hw 3 (by decide) (by kernel_rfl)))
       have hpw:=hw 0 (by decide) (by kernel_rfl)
       refine gives_appC (.tmp 46) (.tmp 49) 71 rfl wr.heap.size 9 ix _ 1 16 Tryz.underlying71 IX.out IZ0.out IZ1.out IZ2.out rfl (by decide) _ _ (by rw[a46];exact hI.row 0 (by decide) hpw (fun _=>hl)) 0 [] (by rw[a49];exact srcV_nil _ _) (by first | (simp;done) | (simp;omega)) (by omega) hI.bel.size ?_
       intro v' w' ho hg hat
       rw[a46] at hg hat
       exact hI.napp (i:=0) HOK (by decide) hl hpw ho hg hat
      | 5, _ =>
       have eo:=Option.some.inj ho
       have hg:o.guard=none:=by rw[←eo]
       refine cstep_evF hg ?_
       intro E L u w9 E1 E0 EC EF hl hw hI
       subst eo
       have a5:=(E0 5 (by kernel_rfl)).trans (show _=nmV s from rfl)
       refine gives_ok (v:=nmV s) (w':=w9) (by simp[execOp,go_sem,a5]) ?_
       exact hI.ndet HOK rfl (Below.refl _ _)
      | 6, _ =>
       have eo:=Option.some.inj ho
       have hg:o.guard=none:=by rw[←eo]
       refine cstep_evF hg ?_
       intro E L u w9 E1 E0 EC EF hl hw hI
       subst eo
       have a51:=(E1 51 5 (by kernel_rfl) (by simp)).trans (hI.det 5 _ rfl (hw 5 (by decide) (by kernel_rfl)))
       refine gives_ok (v := .slice (some ⟨w9.heap.size,0,none⟩) 1 1) (w':=w9.alloc (.cells #[nmV s] 9)) (by simp[execOp,go_sem,a51]) ?_
       exact hI.nsrc (j:=2) HOK HINJ2 (srcV_new (ys:=[nmV s]) (Blk.made _ _ _) rfl (by intro u hu;simp at hu;subst hu;rfl)) (fun kk hk=>by simp[Value.ownBlock] at hk;subst hk;simp) ((Below.refl _ w9).alloc (Nat.le_refl _) _)
      | 7, _ =>
       have eo:=Option.some.inj ho
       have hg:o.guard=none:=by rw[←eo]
       refine cstep_evF hg ?_
       intro E L u w9 E1 E0 EC EF hl hw hI
       subst eo
       have a50:=E1 50 4 (by kernel_rfl) (by simp)
       have a52:=E1 52 6 (by kernel_rfl) (by simp)
       have hpw:=hw 4 (by decide) (by kernel_rfl)
       have hxw:=hw 6 (by decide) (by kernel_rfl)
       refine gives_appC (.tmp 50) (.tmp 52) 71 rfl wr.heap.size 9 ix _ 1 16 Tryz.underlying71 IX.out IZ0.out IZ1.out IZ2.out rfl (by decide) _ _ (by rw[a50];exact hI.row 1 (by decide) hpw (fun _=>hl)) 1 [nmV s] (by rw[a52];exact (hI.src 2 (by decide) hxw hl).1) (by first | (simp;done) | (simp;omega)) (by omega) hI.bel.size ?_
       intro v' w' ho hg hat
       rw[a50] at hg hat
       exact hI.napp (i:=1) HOK (by decide) hl hpw ho hg hat
      | 8, _ =>
       have eo:=Option.some.inj ho
       have hg:o.guard=none:=by rw[←eo]
       refine cstep_evF hg ?_
       intro E L u w9 E1 E0 EC EF hl hw hI
       subst eo
       have a3:=(E0 3 (by kernel_rfl)).trans (show _=Value.slice none 0 0 from rfl)
       refine gives_ok (v := .slice none 0 0) (w':=w9) (by simp[execOp,go_sem,a3]) ?_
       exact hI.ndet HOK rfl (Below.refl _ _)
      | 9, _ =>
       have eo:=Option.some.inj ho
       have hg:o.guard=none:=by rw[←eo]
       refine cstep_evF hg ?_
       intro E L u w9 E1 E0 EC EF hl hw hI
       subst eo
       have a6:=(E0 6 (by kernel_rfl)).trans (show _=Value.int .i64 0 from rfl)
       refine gives_ok (v := .int .i64 0) (w':=w9) (by simp[execOp,go_sem,a6]) ?_
       exact hI.ndet HOK rfl (Below.refl _ _)
      | 10, _ =>
       have eo:=Option.some.inj ho
       have hg:o.guard=none:=by rw[←eo]
       refine cstep_evF hg ?_
       intro E L u w9 E1 E0 EC EF hl hw hI
       subst eo
       have a54:=(E1 54 8 (by kernel_rfl) (by simp)).trans (hI.det 8 _ rfl (hw 8 (by decide) (by kernel_rfl)))
       have a55:=(E1 55 9 (by kernel_rfl) (by simp)).trans (hI.det 9 _ rfl (hw 9 (by decide) (by kernel_rfl)))
       refine gives_ok (v := .slice none 0 0) (w':=w9) (by simp[execOp,go_sem,a54,a55]) ?_
       exact hI.ndet HOK rfl (Below.refl _ _)
      | 11, _ =>
       have eo:=Option.some.inj ho
       have hg:o.guard=none:=by rw[←eo]
       refine cstep_evF hg ?_
       intro E L u w9 E1 E0 EC EF hl hw hI
       subst eo
       have a53:=E1 53 7 (by kernel_rfl) (by simp)
       have a56:=(E1 56 10 (by kernel_rfl) (by simp)).trans (hI.det 10 _ rfl (hw 10 (by decide) (by kernel_rfl)))
       have hpw:=hw 7 (by decide) (by kernel_rfl)
       refine gives_appC (.tmp 53) (.tmp 56) 71 rfl wr.heap.size 9 ix _ 1 16 Tryz.underlying71 IX.out IZ0.out IZ1.out IZ2.out rfl (by decide) _ _ (by rw[a53];exact hI.row 2 (by decide) hpw (fun _=>hl)) 0 [] (by rw[a56];exact srcV_nil _ _) (by first | (simp;done) | (simp;omega)) (by omega) hI.bel.size ?_
       intro v' w' ho hg hat
       rw[a53] at hg hat
       exact hI.napp (i:=2) HOK (by decide) hl hpw ho hg hat
      | i+12,h=>exact absurd h (by omega)
     ·intro L u w9 hall hI
      have e1:u 1 = .slice none 0 0:=hI.det 1 _ rfl (hall 1 (by decide))
      have e2:u 2 = .int .i64 0:=hI.det 2 _ rfl (hall 2 (by decide))
      have e3:u 3 = .slice none 0 0:=hI.det 3 _ rfl (hall 3 (by decide))
      have e5:u 5=nmV s:=hI.det 5 _ rfl (hall 5 (by decide))
      have e8:u 8 = .slice none 0 0:=hI.det 8 _ rfl (hall 8 (by decide))
      have e9:u 9 = .int .i64 0:=hI.det 9 _ rfl (hall 9 (by decide))
      have e10:u 10 = .slice none 0 0:=hI.det 10 _ rfl (hall 10 (by decide))
      have hrow:=hI.row 3 (by decide) (hall 11 (by decide)) (fun h=>absurd h (by decide))
      rw[show u ((fun i=>[0,4,7,11].getD i 900) 3)=u 11 from rfl] at hrow
      obtain ⟨lx,hlx⟩:∃ lx,lx=[s]:=⟨_,rfl⟩
      have hlen:0+0+1+0=lx.length:=by rw[hlx];rfl
      rw[show ([]++[]++[nmV s]++[]:List Value)=lx.map encStr from by rw[hlx];rfl,hlen] at hrow
      have HNEW:=hidE (show lx=insU [] s from by rw[hlx];rfl)
      have hbX:=hI.bel
      have HB9:=hidE (bstep hbX HB.out);have HBY9:=hidE (HBY.out.past hbX)
      have HRW:=hidE (show w9.ownsRow (w.heap.size+1) 9 1 (u 11) lx.length (lx.map encStr) from own_low hrow HWZ.out)
      simp only[frm,List.take,Act.put,e1,e2,e3,e5,e8,e9,e10]
      clear hI hall hrow hlen hlx e1 e2 e3 e5 e8 e9 e10 HOK HINJ2 hbX
      generalize u 0=z0 at *;generalize u 4=z4 at *;generalize u 6=z6 at *;generalize u 7=z7 at *;generalize u 11=z11 at *
      go_wp2
      go_roundg (l.length - (k+1))
      case measure=>have:=HG.out;have:=HK1.out;omega
      case rel=>exact ⟨k+1,by go_num,HK1.out,Nat.le_refl _,by rw[HST.out,←HNEW.out];exact HRW.out,by rw[HST.out];have h1:=insU_len [] s;have h2:=HOK2.out;simp at h2 h1 ⊢;omega,HBY9.out,HB9.out⟩
   ·obtain ⟨n,hn⟩:∃ n,n=out.length:=⟨_,rfl⟩
    have HN:=hidE hn
    rw[←hn] at hoc hou ⊢
    have HCU:=hidE hcu
    clear hcu hn
    go_wp2
    go_loopg [6] n (fun gk v6 wx=>∃ j:Nat,v6 = .int .i64 j∧j≤n∧n - j≤gk∧(∀ i,i<j→out.getD i []<s)∧wx=wr)
    case atStart=>exact ⟨0,rfl,Nat.zero_le _,by omega,fun i hi=>by omega,rfl⟩
    case round =>
     obtain ⟨j,rfl,hj,hgj,hpj,rfl⟩:=hrel
     have HPJ:=hidE hpj;have HGJ:=hidE hgj
     have hj200:j≤200:=by omega
     clear hpj hgj
     have HOK2:=hidE HOK.out
     have HWZ:=hidE (show w.heap.size+1≤wr.heap.size from by have:=HBY.out.lt;omega)
     clear HOK
     by_cases hjn':j<n
     ·have cj:=HCU.out j (by have:=HN.out;omega)
      rw[Nat.zero_add] at cj
      have HJ1:=hidE (show j+1≤n from hjn')
      have HNXT:=hidE (fun (h:out.getD j []<s)=>show ∀ i,i<j+1→out.getD i []<s from fun i hi=>by
       by_cases c:i<j
       ·exact HPJ.out i c
       ·have e:i=j:=by omega
        rw[e];exact h)
      have HEQ:=hidE (fun (h:out.getD j []=s)=>insU_in (by have:=HN.out;omega:j<out.length) h)
      have HAT:=hidE (fun (h:¬ out.getD j []<s) (h':out.getD j []≠s)=>insU_at HORD.out (by have:=HN.out;omega) HPJ.out (.inr ⟨h,h'⟩))
      generalize out.getD j []=y at *
      by_cases h1:y<s
      ·have b1:Op.bytesLess y s=true:=by rw[bytesLess_eq];exact decide_eq_true h1
       have HN2:=hidE (HNXT.out h1)
       clear h1
       have HOKB:=hidE HOK2.out
       go_wp2
       go_roundg (n - (j+1))
       case measure=>have:=HGJ.out;have:=HJ1.out;omega
       case rel=>exact ⟨j+1,by go_num,HJ1.out,Nat.le_refl _,HN2.out,rfl⟩
      ·have b1:Op.bytesLess y s=false:=by rw[bytesLess_eq];exact decide_eq_false h1
       by_cases h2:y=s
       ·have HI:=hidE (HEQ.out h2)
        subst h2
        clear h1
        have HO':=HO.out
        rw[←HN.out] at HO'
        have HOO:=hidE HO'
        clear HO'
        go_wp2
        go_roundg (l.length - (k+1))
        case measure=>have:=HG.out;have:=HK1.out;omega
        case rel=>exact ⟨k+1,by go_num,HK1.out,Nat.le_refl _,by rw[HST.out,HI.out,←HN.out];exact HOO.out,by rw[HST.out,HI.out];have:=HOK2.out;omega,HBY.out,HB.out⟩
       ·have d2:(y == s)=false:=beq_eq_false_iff_ne.2 h2
        have HNO:=hidE (HAT.out h1 h2)
        clear h1
        obtain ⟨ad3,had3,h3⟩:=src_fromU (cap:=cu) HN.out (show j≤n from hj) hgz HCU.out
        have SRC3:=hidE h3
        have SRC1:=hidE (show ∀ w9,Below wr.heap.size wr w9→SrcV w9 1 (.slice (some ⟨g,0,none⟩) j cu) j ((out.take j).map encStr) from fun w9 hb9=>srcU (by rw[List.length_take];have:=HN.out;omega) ((HCU.out.below hb9 hgz).take j))
        have hnc:=hoc
        have hjn:j≤n:=hj
        have hjc:j≤cu:=by omega
        have hj0:(0:Int)≤(j:Int):=by omega
        have hjI:(j:Int)≤(n:Int):=by omega
        clear h3
        go_upto_region 10 with fail
        have HOK:ChOk (fun i=>([none,some (.slice (some ⟨g,0,none⟩) n cu),some (.int .i64 (j:Int)),some (.slice (some ⟨g,0,none⟩) j cu),none,some (nmV s),none,none,some (.slice (some ⟨g,0,none⟩) n cu),some (.int .i64 (j:Int)),some (.slice (some ad3) (n - j) (cu - j)),none]:List (Option Value)).getD i none) (fun i=>[0,4,7,11].getD i 900) (fun j=>[901,902,6,903].getD j 990) 3:=by
         refine ⟨fun i hi => ?_,fun j => ?_,fun i k hi hk e => ?_,fun i j hi e => ?_⟩
         ·match i,hi with
          | 0,_=>rfl
          | 1,_=>rfl
          | 2,_=>rfl
          | 3,_=>rfl
         ·match j with
          | 0=>rfl
          | 1=>rfl
          | 2=>rfl
          | 3=>rfl
          | j+4=>rfl
         ·match i,k,hi,hk with
          | 0,0,_,_=>first | rfl | (simp at e)
          | 0,1,_,_=>first | rfl | (simp at e)
          | 0,2,_,_=>first | rfl | (simp at e)
          | 0,3,_,_=>first | rfl | (simp at e)
          | 1,0,_,_=>first | rfl | (simp at e)
          | 1,1,_,_=>first | rfl | (simp at e)
          | 1,2,_,_=>first | rfl | (simp at e)
          | 1,3,_,_=>first | rfl | (simp at e)
          | 2,0,_,_=>first | rfl | (simp at e)
          | 2,1,_,_=>first | rfl | (simp at e)
          | 2,2,_,_=>first | rfl | (simp at e)
          | 2,3,_,_=>first | rfl | (simp at e)
          | 3,0,_,_=>first | rfl | (simp at e)
          | 3,1,_,_=>first | rfl | (simp at e)
          | 3,2,_,_=>first | rfl | (simp at e)
          | 3,3,_,_=>first | rfl | (simp at e)
         ·match i,j,hi with
          | 0,0,_=>simp at e
          | 0,1,_=>simp at e
          | 0,2,_=>simp at e
          | 0,3,_=>simp at e
          | 0,j+4,_=>simp at e
          | 1,0,_=>simp at e
          | 1,1,_=>simp at e
          | 1,2,_=>simp at e
          | 1,3,_=>simp at e
          | 1,j+4,_=>simp at e
          | 2,0,_=>simp at e
          | 2,1,_=>simp at e
          | 2,2,_=>simp at e
          | 2,3,_=>simp at e
          | 2,j+4,_=>simp at e
          | 3,0,_=>simp at e
          | 3,1,_=>simp at e
          | 3,2,_=>simp at e
          | 3,3,_=>simp at e
          | 3,j+4,_=>simp at e
        have HINJ2:∀ q,q≤3→(fun j=>[901,902,6,903].getD j 990) q=(fun j=>[901,902,6,903].getD j 990) 2→q=2:=fun q hq e=>by
         match q,hq with
         | 0,_=>first | rfl | (simp at e)
         | 1,_=>first | rfl | (simp at e)
         | 2,_=>first | rfl | (simp at e)
         | 3,_=>first | rfl | (simp at e)
        refine wp_region_C 12 (ChI 9 1 wr (fun i=>([none,some (.slice (some ⟨g,0,none⟩) n cu),some (.int .i64 (j:Int)),some (.slice (some ⟨g,0,none⟩) j cu),none,some (nmV s),none,none,some (.slice (some ⟨g,0,none⟩) n cu),some (.int .i64 (j:Int)),some (.slice (some ad3) (n - j) (cu - j)),none]:List (Option Value)).getD i none) (fun i=>[0,4,7,11].getD i 900) (fun j=>[901,902,6,903].getD j 990) 3 (fun i=>[0,0+j,0+j+1,0+j+1+(n - j)].getD i 0) (fun j=>[0,j,1,(n - j)].getD j 0) (fun i=>[[],[]++((out.take j).map encStr),[]++((out.take j).map encStr)++[nmV s],[]++((out.take j).map encStr)++[nmV s]++((out.drop j).map encStr)].getD i []) (fun j=>[[],((out.take j).map encStr),[nmV s],((out.drop j).map encStr)].getD j [])) (by kernel_rfl) (by decide) (by kernel_rfl) (chI_start (Below.refl _ _).drew) ?_ ?_
        ·intro i o hi ho
         match i,hi with
         | 0, _ =>
          have eo:=Option.some.inj ho
          have hg:o.guard=none:=by rw[←eo]
          refine cstep_evF hg ?_
          intro E L u w9 E1 E0 EC EF hl hw hI
          subst eo
          refine gives_ok (v := .slice (some ⟨w9.heap.size,0,none⟩) 0 0) (w':=w9.alloc (.cells #[] 9)) (by simp[execOp,go_sem]) ?_
          exact hI.nbase HOK hl (show World.ownsRow _ wr.heap.size 9 1 (.slice (some ⟨w9.heap.size,0,none⟩) 0 0) 0 [] from World.ownsRow_lit (e:=9) (size:=1) (base:=wr.heap.size) w9 #[] 0 hI.bel.size (by unfold maxLen;omega) rfl) ((Below.refl _ w9).alloc (Nat.le_refl _) _) (fun b hb=>by simp[Value.ownBlock] at hb;omega)
         | 1, _ =>
          have eo:=Option.some.inj ho
          have hg:o.guard=none:=by rw[←eo]
          refine cstep_evF hg ?_
          intro E L u w9 E1 E0 EC EF hl hw hI
          subst eo
          have a3:=(E0 3 (by kernel_rfl)).trans (show _=Value.slice (some ⟨g,0,none⟩) n cu from rfl)
          refine gives_ok (v := .slice (some ⟨g,0,none⟩) n cu) (w':=w9) (by simp[execOp,go_sem,a3]) ?_
          exact hI.ndet HOK rfl (Below.refl _ _)
         | 2, _ =>
          have eo:=Option.some.inj ho
          have hg:o.guard=none:=by rw[←eo]
          refine cstep_evF hg ?_
          intro E L u w9 E1 E0 EC EF hl hw hI
          subst eo
          have a6:=(E0 6 (by kernel_rfl)).trans (show _=Value.int .i64 (j:Int) from rfl)
          refine gives_ok (v := .int .i64 (j:Int)) (w':=w9) (by simp[execOp,go_sem,a6]) ?_
          exact hI.ndet HOK rfl (Below.refl _ _)
         | 3, _ =>
          have eo:=Option.some.inj ho
          have hg:o.guard=none:=by rw[←eo]
          refine cstep_evF hg ?_
          intro E L u w9 E1 E0 EC EF hl hw hI
          subst eo
          have a47:=(E1 47 1 (by kernel_rfl) (by simp)).trans (hI.det 1 _ rfl (hw 1 (by decide) (by kernel_rfl)))
          have a48:=(E1 48 2 (by kernel_rfl) (by simp)).trans (hI.det 2 _ rfl (hw 2 (by decide) (by kernel_rfl)))
          refine gives_ok (v := .slice (some ⟨g,0,none⟩) j cu) (w':=w9) (by simp[execOp,go_sem,a47,a48,hjc,hj0]) ?_
          exact hI.ndet HOK rfl (Below.refl _ _)
         | 4, _ =>
          have eo:=Option.some.inj ho
          have hg:o.guard=none:=by rw[←eo]
          refine cstep_evF hg ?_
          intro E L u w9 E1 E0 EC EF hl hw hI
          subst eo
          have a46:=E1 46 0 (by kernel_rfl) (by simp)
          have a49:=(E1 49 3 (by kernel_rfl) (by simp)).trans (hI.det 3 _ rfl (hw 3 (by decide) (by kernel_rfl)))
          have hpw:=hw 0 (by decide) (by kernel_rfl)
          refine gives_appC (.tmp 46) (.tmp 49) 71 rfl wr.heap.size 9 ix _ 1 16 Tryz.underlying71 IX.out IZ0.out IZ1.out IZ2.out rfl (by decide) _ _ (by rw[a46];exact hI.row 0 (by decide) hpw (fun _=>hl)) j ((out.take j).map encStr) (by rw[a49];exact SRC1.out w9 hI.bel) (by first | (simp;done) | (simp;omega)) (by omega) hI.bel.size ?_
          intro v' w' ho hg hat
          rw[a46] at hg hat
          exact hI.napp (i:=0) HOK (by decide) hl hpw ho hg hat
         | 5, _ =>
          have eo:=Option.some.inj ho
          have hg:o.guard=none:=by rw[←eo]
          refine cstep_evF hg ?_
          intro E L u w9 E1 E0 EC EF hl hw hI
          subst eo
          have a5:=(E0 5 (by kernel_rfl)).trans (show _=nmV s from rfl)
          refine gives_ok (v:=nmV s) (w':=w9) (by simp[execOp,go_sem,a5]) ?_
          exact hI.ndet HOK rfl (Below.refl _ _)
         | 6, _ =>
          have eo:=Option.some.inj ho
          have hg:o.guard=none:=by rw[←eo]
          refine cstep_evF hg ?_
          intro E L u w9 E1 E0 EC EF hl hw hI
          subst eo
          have a51:=(E1 51 5 (by kernel_rfl) (by simp)).trans (hI.det 5 _ rfl (hw 5 (by decide) (by kernel_rfl)))
          refine gives_ok (v := .slice (some ⟨w9.heap.size,0,none⟩) 1 1) (w':=w9.alloc (.cells #[nmV s] 9)) (by simp[execOp,go_sem,a51]) ?_
          exact hI.nsrc (j:=2) HOK HINJ2 (srcV_new (ys:=[nmV s]) (Blk.made _ _ _) rfl (by intro u hu;simp at hu;subst hu;rfl)) (fun kk hk=>by simp[Value.ownBlock] at hk;subst hk;simp) ((Below.refl _ w9).alloc (Nat.le_refl _) _)
         | 7, _ =>
          have eo:=Option.some.inj ho
          have hg:o.guard=none:=by rw[←eo]
          refine cstep_evF hg ?_
          intro E L u w9 E1 E0 EC EF hl hw hI
          subst eo
          have a50:=E1 50 4 (by kernel_rfl) (by simp)
          have a52:=E1 52 6 (by kernel_rfl) (by simp)
          have hpw:=hw 4 (by decide) (by kernel_rfl)
          have hxw:=hw 6 (by decide) (by kernel_rfl)
          refine gives_appC (.tmp 50) (.tmp 52) 71 rfl wr.heap.size 9 ix _ 1 16 Tryz.underlying71 IX.out IZ0.out IZ1.out IZ2.out rfl (by decide) _ _ (by rw[a50];exact hI.row 1 (by decide) hpw (fun _=>hl)) 1 [nmV s] (by rw[a52];exact (hI.src 2 (by decide) hxw hl).1) (by first | (simp;done) | (simp;omega)) (by omega) hI.bel.size ?_
          intro v' w' ho hg hat
          rw[a50] at hg hat
          exact hI.napp (i:=1) HOK (by decide) hl hpw ho hg hat
         | 8, _ =>
          have eo:=Option.some.inj ho
          have hg:o.guard=none:=by rw[←eo]
          refine cstep_evF hg ?_
          intro E L u w9 E1 E0 EC EF hl hw hI
          subst eo
          have a3:=(E0 3 (by kernel_rfl)).trans (show _=Value.slice (some ⟨g,0,none⟩) n cu from rfl)
          refine gives_ok (v := .slice (some ⟨g,0,none⟩) n cu) (w':=w9) (by simp[execOp,go_sem,a3]) ?_
          exact hI.ndet HOK rfl (Below.refl _ _)
         | 9, _ =>
          have eo:=Option.some.inj ho
          have hg:o.guard=none:=by rw[←eo]
          refine cstep_evF hg ?_
          intro E L u w9 E1 E0 EC EF hl hw hI
          subst eo
          have a6:=(E0 6 (by kernel_rfl)).trans (show _=Value.int .i64 (j:Int) from rfl)
          refine gives_ok (v := .int .i64 (j:Int)) (w':=w9) (by simp[execOp,go_sem,a6]) ?_
          exact hI.ndet HOK rfl (Below.refl _ _)
         | 10, _ =>
          have eo:=Option.some.inj ho
          have hg:o.guard=none:=by rw[←eo]
          refine cstep_evF hg ?_
          intro E L u w9 E1 E0 EC EF hl hw hI
          subst eo
          have a54:=(E1 54 8 (by kernel_rfl) (by simp)).trans (hI.det 8 _ rfl (hw 8 (by decide) (by kernel_rfl)))
          have a55:=(E1 55 9 (by kernel_rfl) (by simp)).trans (hI.det 9 _ rfl (hw 9 (by decide) (by kernel_rfl)))
          refine gives_ok (v := .slice (some ad3) (n - j) (cu - j)) (w':=w9) (by simp[execOp,go_sem,a54,a55,hj0,hjI,had3]) ?_
          exact hI.ndet HOK rfl (Below.refl _ _)
         | 11, _ =>
          have eo:=Option.some.inj ho
          have hg:o.guard=none:=by rw[←eo]
          refine cstep_evF hg ?_
          intro E L u w9 E1 E0 EC EF hl hw hI
          subst eo
          have a53:=E1 53 7 (by kernel_rfl) (by simp)
          have a56:=(E1 56 10 (by kernel_rfl) (by simp)).trans (hI.det 10 _ rfl (hw 10 (by decide) (by kernel_rfl)))
          have hpw:=hw 7 (by decide) (by kernel_rfl)
          refine gives_appC (.tmp 53) (.tmp 56) 71 rfl wr.heap.size 9 ix _ 1 16 Tryz.underlying71 IX.out IZ0.out IZ1.out IZ2.out rfl (by decide) _ _ (by rw[a53];exact hI.row 2 (by decide) hpw (fun _=>hl)) (n - j) ((out.drop j).map encStr) (by rw[a56];exact SRC3.out w9 hI.bel hnc) (by first | (simp;done) | (simp;omega)) (by omega) hI.bel.size ?_
          intro v' w' ho hg hat
          rw[a53] at hg hat
          exact hI.napp (i:=2) HOK (by decide) hl hpw ho hg hat
         | i+12,h=>exact absurd h (by omega)
        ·intro L u w9 hall hI
         have e1:u 1 = .slice (some ⟨g,0,none⟩) n cu:=hI.det 1 _ rfl (hall 1 (by decide))
         have e2:u 2 = .int .i64 (j:Int):=hI.det 2 _ rfl (hall 2 (by decide))
         have e3:u 3 = .slice (some ⟨g,0,none⟩) j cu:=hI.det 3 _ rfl (hall 3 (by decide))
         have e5:u 5=nmV s:=hI.det 5 _ rfl (hall 5 (by decide))
         have e8:u 8 = .slice (some ⟨g,0,none⟩) n cu:=hI.det 8 _ rfl (hall 8 (by decide))
         have e9:u 9 = .int .i64 (j:Int):=hI.det 9 _ rfl (hall 9 (by decide))
         have e10:u 10 = .slice (some ad3) (n - j) (cu - j):=hI.det 10 _ rfl (hall 10 (by decide))
         have hrow:=hI.row 3 (by decide) (hall 11 (by decide)) (fun h=>absurd h (by decide))
         rw[show u ((fun i=>[0,4,7,11].getD i 900) 3)=u 11 from rfl] at hrow
         obtain ⟨lx,hlx⟩:∃ lx,lx=(out.take j++([s]++out.drop j)):=⟨_,rfl⟩
         have hlen:0+j+1+(n - j)=lx.length:=by rw[hlx];simp only[List.length_append,List.length_take,List.length_drop,List.length_singleton];have:=HN.out;omega
         rw[show ([]++((out.take j).map encStr)++[nmV s]++((out.drop j).map encStr):List Value)=lx.map encStr from by rw[hlx];simp,hlen] at hrow
         have HNEW:=hidE (show lx=insU out s from by rw[hlx];exact HNO.out.symm)
         have hbX:=hI.bel
         have HB9:=hidE (bstep hbX HB.out);have HBY9:=hidE (HBY.out.past hbX)
         have HRW:=hidE (show w9.ownsRow (w.heap.size+1) 9 1 (u 11) lx.length (lx.map encStr) from own_low hrow HWZ.out)
         simp only[frm,List.take,Act.put,e1,e2,e3,e5,e8,e9,e10]
         clear hI hall hrow hlen hlx e1 e2 e3 e5 e8 e9 e10 HOK HINJ2 hbX
         generalize u 0=z0 at *;generalize u 4=z4 at *;generalize u 6=z6 at *;generalize u 7=z7 at *;generalize u 11=z11 at *
         go_wp2
         go_roundg (l.length - (k+1))
         case measure=>have:=HG.out;have:=HK1.out;omega
         case rel=>exact ⟨k+1,by go_num,HK1.out,Nat.le_refl _,by rw[HST.out,←HNEW.out];exact HRW.out,by rw[HST.out];have h1:=insU_len out s;have h2:=HOK2.out;omega,HBY9.out,HB9.out⟩
     ·have HNO:=hidE (insU_at HORD.out (by have:=HN.out;omega) HPJ.out (.inl (by have:=HN.out;omega)))
      obtain ⟨ad3,had3,h3⟩:=src_fromU (cap:=cu) HN.out (show j≤n from hj) hgz HCU.out
      have SRC3:=hidE h3
      have SRC1:=hidE (show ∀ w9,Below wr.heap.size wr w9→SrcV w9 1 (.slice (some ⟨g,0,none⟩) j cu) j ((out.take j).map encStr) from fun w9 hb9=>srcU (by rw[List.length_take];have:=HN.out;omega) ((HCU.out.below hb9 hgz).take j))
      have hnc:=hoc
      have hjn:j≤n:=hj
      have hjc:j≤cu:=by omega
      have hj0:(0:Int)≤(j:Int):=by omega
      have hjI:(j:Int)≤(n:Int):=by omega
      clear h3
      go_upto_region 10 with fail
      have HOK:ChOk (fun i=>([none,some (.slice (some ⟨g,0,none⟩) n cu),some (.int .i64 (j:Int)),some (.slice (some ⟨g,0,none⟩) j cu),none,some (nmV s),none,none,some (.slice (some ⟨g,0,none⟩) n cu),some (.int .i64 (j:Int)),some (.slice (some ad3) (n - j) (cu - j)),none]:List (Option Value)).getD i none) (fun i=>[0,4,7,11].getD i 900) (fun j=>[901,902,6,903].getD j 990) 3:=by
       refine ⟨fun i hi => ?_,fun j => ?_,fun i k hi hk e => ?_,fun i j hi e => ?_⟩
       ·match i,hi with
        | 0,_=>rfl
        | 1,_=>rfl
        | 2,_=>rfl
        | 3,_=>rfl
       ·match j with
        | 0=>rfl
        | 1=>rfl
        | 2=>rfl
        | 3=>rfl
        | j+4=>rfl
       ·match i,k,hi,hk with
        | 0,0,_,_=>first | rfl | (simp at e)
        | 0,1,_,_=>first | rfl | (simp at e)
        | 0,2,_,_=>first | rfl | (simp at e)
        | 0,3,_,_=>first | rfl | (simp at e)
        | 1,0,_,_=>first | rfl | (simp at e)
        | 1,1,_,_=>first | rfl | (simp at e)
        | 1,2,_,_=>first | rfl | (simp at e)
        | 1,3,_,_=>first | rfl | (simp at e)
        | 2,0,_,_=>first | rfl | (simp at e)
        | 2,1,_,_=>first | rfl | (simp at e)
        | 2,2,_,_=>first | rfl | (simp at e)
        | 2,3,_,_=>first | rfl | (simp at e)
        | 3,0,_,_=>first | rfl | (simp at e)
        | 3,1,_,_=>first | rfl | (simp at e)
        | 3,2,_,_=>first | rfl | (simp at e)
        | 3,3,_,_=>first | rfl | (simp at e)
       ·match i,j,hi with
        | 0,0,_=>simp at e
        | 0,1,_=>simp at e
        | 0,2,_=>simp at e
        | 0,3,_=>simp at e
        | 0,j+4,_=>simp at e
        | 1,0,_=>simp at e
        | 1,1,_=>simp at e
        | 1,2,_=>simp at e
        | 1,3,_=>simp at e
        | 1,j+4,_=>simp at e
        | 2,0,_=>simp at e
        | 2,1,_=>simp at e
        | 2,2,_=>simp at e
        | 2,3,_=>simp at e
        | 2,j+4,_=>simp at e
        | 3,0,_=>simp at e
        | 3,1,_=>simp at e
        | 3,2,_=>simp at e
        | 3,3,_=>simp at e
        | 3,j+4,_=>simp at e
      have HINJ2:∀ q,q≤3→(fun j=>[901,902,6,903].getD j 990) q=(fun j=>[901,902,6,903].getD j 990) 2→q=2:=fun q hq e=>by
       match q,hq with
       | 0,_=>first | rfl | (simp at e)
       | 1,_=>first | rfl | (simp at e)
       | 2,_=>first | rfl | (simp at e)
       | 3,_=>first | rfl | (simp at e)
      refine wp_region_C 12 (ChI 9 1 wr (fun i=>([none,some (.slice (some ⟨g,0,none⟩) n cu),some (.int .i64 (j:Int)),some (.slice (some ⟨g,0,none⟩) j cu),none,some (nmV s),none,none,some (.slice (some ⟨g,0,none⟩) n cu),some (.int .i64 (j:Int)),some (.slice (some ad3) (n - j) (cu - j)),none]:List (Option Value)).getD i none) (fun i=>[0,4,7,11].getD i 900) (fun j=>[901,902,6,903].getD j 990) 3 (fun i=>[0,0+j,0+j+1,0+j+1+(n - j)].getD i 0) (fun j=>[0,j,1,(n - j)].getD j 0) (fun i=>[[],[]++((out.take j).map encStr),[]++((out.take j).map encStr)++[nmV s],[]++((out.take j).map encStr)++[nmV s]++((out.drop j).map encStr)].getD i []) (fun j=>[[],((out.take j).map encStr),[nmV s],((out.drop j).map encStr)].getD j [])) (by kernel_rfl) (by decide) (by kernel_rfl) (chI_start (Below.refl _ _).drew) ?_ ?_
      ·intro i o hi ho
       match i,hi with
       | 0, _ =>
        have eo:=Option.some.inj ho
        have hg:o.guard=none:=by rw[←eo]
        refine cstep_evF hg ?_
        intro E L u w9 E1 E0 EC EF hl hw hI
        subst eo
        refine gives_ok (v := .slice (some ⟨w9.heap.size,0,none⟩) 0 0) (w':=w9.alloc (.cells #[] 9)) (by simp[execOp,go_sem]) ?_
        exact hI.nbase HOK hl (show World.ownsRow _ wr.heap.size 9 1 (.slice (some ⟨w9.heap.size,0,none⟩) 0 0) 0 [] from World.ownsRow_lit (e:=9) (size:=1) (base:=wr.heap.size) w9 #[] 0 hI.bel.size (by unfold maxLen;omega) rfl) ((Below.refl _ w9).alloc (Nat.le_refl _) _) (fun b hb=>by simp[Value.ownBlock] at hb;omega)
       | 1, _ =>
        have eo:=Option.some.inj ho
        have hg:o.guard=none:=by rw[←eo]
        refine cstep_evF hg ?_
        intro E L u w9 E1 E0 EC EF hl hw hI
        subst eo
        have a3:=(E0 3 (by kernel_rfl)).trans (show _=Value.slice (some ⟨g,0,none⟩) n cu from rfl)
        refine gives_ok (v := .slice (some ⟨g,0,none⟩) n cu) (w':=w9) (by simp[execOp,go_sem,a3]) ?_
        exact hI.ndet HOK rfl (Below.refl _ _)
       | 2, _ =>
        have eo:=Option.some.inj ho
        have hg:o.guard=none:=by rw[←eo]
        refine cstep_evF hg ?_
        intro E L u w9 E1 E0 EC EF hl hw hI
        subst eo
        have a6:=(E0 6 (by kernel_rfl)).trans (show _=Value.int .i64 (j:Int) from rfl)
        refine gives_ok (v := .int .i64 (j:Int)) (w':=w9) (by simp[execOp,go_sem,a6]) ?_
        exact hI.ndet HOK rfl (Below.refl _ _)
       | 3, _ =>
        have eo:=Option.some.inj ho
        have hg:o.guard=none:=by rw[←eo]
        refine cstep_evF hg ?_
        intro E L u w9 E1 E0 EC EF hl hw hI
        subst eo
        have a47:=(E1 47 1 (by kernel_rfl) (by simp)).trans (hI.det 1 _ rfl (hw 1 (by decide) (by kernel_rfl)))
        have a48:=(E1 48 2 (by kernel_rfl) (by simp)).trans (hI.det 2 _ rfl (hw 2 (by decide) (by kernel_rfl)))
        refine gives_ok (v := .slice (some ⟨g,0,none⟩) j cu) (w':=w9) (by simp[execOp,go_sem,a47,a48,hjc,hj0]) ?_
        exact hI.ndet HOK rfl (Below.refl _ _)
       | 4, _ =>
        have eo:=Option.some.inj ho
        have hg:o.guard=none:=by rw[←eo]
        refine cstep_evF hg ?_
        intro E L u w9 E1 E0 EC EF hl hw hI
        subst eo
        have a46:=E1 46 0 (by kernel_rfl) (by simp)
        have a49:=(E1 49 3 (by kernel_rfl) (by simp)).trans (hI.det 3 _ rfl (hw 3 (by decide) (by kernel_rfl)))
        have hpw:=hw 0 (by decide) (by kernel_rfl)
        refine gives_appC (.tmp 46) (.tmp 49) 71 rfl wr.heap.size 9 ix _ 1 16 Tryz.underlying71 IX.out IZ0.out IZ1.out IZ2.out rfl (by decide) _ _ (by rw[a46];exact hI.row 0 (by decide) hpw (fun _=>hl)) j ((out.take j).map encStr) (by rw[a49];exact SRC1.out w9 hI.bel) (by first | (simp;done) | (simp;omega)) (by omega) hI.bel.size ?_
        intro v' w' ho hg hat
        rw[a46] at hg hat
        exact hI.napp (i:=0) HOK (by decide) hl hpw ho hg hat
       | 5, _ =>
        have eo:=Option.some.inj ho
        have hg:o.guard=none:=by rw[←eo]
        refine cstep_evF hg ?_
        intro E L u w9 E1 E0 EC EF hl hw hI
        subst eo
        have a5:=(E0 5 (by kernel_rfl)).trans (show _=nmV s from rfl)
        refine gives_ok (v:=nmV s) (w':=w9) (by simp[execOp,go_sem,a5]) ?_
        exact hI.ndet HOK rfl (Below.refl _ _)
       | 6, _ =>
        have eo:=Option.some.inj ho
        have hg:o.guard=none:=by rw[←eo]
        refine cstep_evF hg ?_
        intro E L u w9 E1 E0 EC EF hl hw hI
        subst eo
        have a51:=(E1 51 5 (by kernel_rfl) (by simp)).trans (hI.det 5 _ rfl (hw 5 (by decide) (by kernel_rfl)))
        refine gives_ok (v := .slice (some ⟨w9.heap.size,0,none⟩) 1 1) (w':=w9.alloc (.cells #[nmV s] 9)) (by simp[execOp,go_sem,a51]) ?_
        exact hI.nsrc (j:=2) HOK HINJ2 (srcV_new (ys:=[nmV s]) (Blk.made _ _ _) rfl (by intro u hu;simp at hu;subst hu;rfl)) (fun kk hk=>by simp[Value.ownBlock] at hk;subst hk;simp) ((Below.refl _ w9).alloc (Nat.le_refl _) _)
       | 7, _ =>
        have eo:=Option.some.inj ho
        have hg:o.guard=none:=by rw[←eo]
        refine cstep_evF hg ?_
        intro E L u w9 E1 E0 EC EF hl hw hI
        subst eo
        have a50:=E1 50 4 (by kernel_rfl) (by simp)
        have a52:=E1 52 6 (by kernel_rfl) (by simp)
        have hpw:=hw 4 (by decide) (by kernel_rfl)
        have hxw:=hw 6 (by decide) (by kernel_rfl)
        refine gives_appC (.tmp 50) (.tmp 52) 71 rfl wr.heap.size 9 ix _ 1 16 Tryz.underlying71 IX.out IZ0.out IZ1.out IZ2.out rfl (by decide) _ _ (by rw[a50];exact hI.row 1 (by decide) hpw (fun _=>hl)) 1 [nmV s] (by rw[a52];exact (hI.src 2 (by decide) hxw hl).1) (by first | (simp;done) | (simp;omega)) (by omega) hI.bel.size ?_
        intro v' w' ho hg hat
        rw[a50] at hg hat
        exact hI.napp (i:=1) HOK (by decide) hl hpw ho hg hat
       | 8, _ =>
        have eo:=Option.some.inj ho
        have hg:o.guard=none:=by rw[←eo]
        refine cstep_evF hg ?_
        intro E L u w9 E1 E0 EC EF hl hw hI
        subst eo
        have a3:=(E0 3 (by kernel_rfl)).trans (show _=Value.slice (some ⟨g,0,none⟩) n cu from rfl)
        refine gives_ok (v := .slice (some ⟨g,0,none⟩) n cu) (w':=w9) (by simp[execOp,go_sem,a3]) ?_
        exact hI.ndet HOK rfl (Below.refl _ _)
       | 9, _ =>
        have eo:=Option.some.inj ho
        have hg:o.guard=none:=by rw[←eo]
        refine cstep_evF hg ?_
        intro E L u w9 E1 E0 EC EF hl hw hI
        subst eo
        have a6:=(E0 6 (by kernel_rfl)).trans (show _=Value.int .i64 (j:Int) from rfl)
        refine gives_ok (v := .int .i64 (j:Int)) (w':=w9) (by simp[execOp,go_sem,a6]) ?_
        exact hI.ndet HOK rfl (Below.refl _ _)
       | 10, _ =>
        have eo:=Option.some.inj ho
        have hg:o.guard=none:=by rw[←eo]
        refine cstep_evF hg ?_
        intro E L u w9 E1 E0 EC EF hl hw hI
        subst eo
        have a54:=(E1 54 8 (by kernel_rfl) (by simp)).trans (hI.det 8 _ rfl (hw 8 (by decide) (by kernel_rfl)))
        have a55:=(E1 55 9 (by kernel_rfl) (by simp)).trans (hI.det 9 _ rfl (hw 9 (by decide) (by kernel_rfl)))
        refine gives_ok (v := .slice (some ad3) (n - j) (cu - j)) (w':=w9) (by simp[execOp,go_sem,a54,a55,hj0,hjI,had3]) ?_
        exact hI.ndet HOK rfl (Below.refl _ _)
       | 11, _ =>
        have eo:=Option.some.inj ho
        have hg:o.guard=none:=by rw[←eo]
        refine cstep_evF hg ?_
        intro E L u w9 E1 E0 EC EF hl hw hI
        subst eo
        have a53:=E1 53 7 (by kernel_rfl) (by simp)
        have a56:=(E1 56 10 (by kernel_rfl) (by simp)).trans (hI.det 10 _ rfl (hw 10 (by decide) (by kernel_rfl)))
        have hpw:=hw 7 (by decide) (by kernel_rfl)
        refine gives_appC (.tmp 53) (.tmp 56) 71 rfl wr.heap.size 9 ix _ 1 16 Tryz.underlying71 IX.out IZ0.out IZ1.out IZ2.out rfl (by decide) _ _ (by rw[a53];exact hI.row 2 (by decide) hpw (fun _=>hl)) (n - j) ((out.drop j).map encStr) (by rw[a56];exact SRC3.out w9 hI.bel hnc) (by first | (simp;done) | (simp;omega)) (by omega) hI.bel.size ?_
        intro v' w' ho hg hat
        rw[a53] at hg hat
        exact hI.napp (i:=2) HOK (by decide) hl hpw ho hg hat
       | i+12,h=>exact absurd h (by omega)
      ·intro L u w9 hall hI
       have e1:u 1 = .slice (some ⟨g,0,none⟩) n cu:=hI.det 1 _ rfl (hall 1 (by decide))
       have e2:u 2 = .int .i64 (j:Int):=hI.det 2 _ rfl (hall 2 (by decide))
       have e3:u 3 = .slice (some ⟨g,0,none⟩) j cu:=hI.det 3 _ rfl (hall 3 (by decide))
       have e5:u 5=nmV s:=hI.det 5 _ rfl (hall 5 (by decide))
       have e8:u 8 = .slice (some ⟨g,0,none⟩) n cu:=hI.det 8 _ rfl (hall 8 (by decide))
       have e9:u 9 = .int .i64 (j:Int):=hI.det 9 _ rfl (hall 9 (by decide))
       have e10:u 10 = .slice (some ad3) (n - j) (cu - j):=hI.det 10 _ rfl (hall 10 (by decide))
       have hrow:=hI.row 3 (by decide) (hall 11 (by decide)) (fun h=>absurd h (by decide))
       rw[show u ((fun i=>[0,4,7,11].getD i 900) 3)=u 11 from rfl] at hrow
       obtain ⟨lx,hlx⟩:∃ lx,lx=(out.take j++([s]++out.drop j)):=⟨_,rfl⟩
       have hlen:0+j+1+(n - j)=lx.length:=by rw[hlx];simp only[List.length_append,List.length_take,List.length_drop,List.length_singleton];have:=HN.out;omega
       rw[show ([]++((out.take j).map encStr)++[nmV s]++((out.drop j).map encStr):List Value)=lx.map encStr from by rw[hlx];simp,hlen] at hrow
       have HNEW:=hidE (show lx=insU out s from by rw[hlx];exact HNO.out.symm)
       have hbX:=hI.bel
       have HB9:=hidE (bstep hbX HB.out);have HBY9:=hidE (HBY.out.past hbX)
       have HRW:=hidE (show w9.ownsRow (w.heap.size+1) 9 1 (u 11) lx.length (lx.map encStr) from own_low hrow HWZ.out)
       simp only[frm,List.take,Act.put,e1,e2,e3,e5,e8,e9,e10]
       clear hI hall hrow hlen hlx e1 e2 e3 e5 e8 e9 e10 HOK HINJ2 hbX
       generalize u 0=z0 at *;generalize u 4=z4 at *;generalize u 6=z6 at *;generalize u 7=z7 at *;generalize u 11=z11 at *
       go_wp2
       go_roundg (l.length - (k+1))
       case measure=>have:=HG.out;have:=HK1.out;omega
       case rel=>exact ⟨k+1,by go_num,HK1.out,Nat.le_refl _,by rw[HST.out,←HNEW.out];exact HRW.out,by rw[HST.out];have h1:=insU_len out s;have h2:=HOK2.out;omega,HBY9.out,HB9.out⟩
  ·have HTK:=hidE (show L.take k=L from by rw[List.take_of_length_le];have:=HLN.out;omega)
   rw[HTK.out] at HO
   go_wp2
   go_ret
   exact ⟨_,rfl,own_low HO.out (by omega),HB.out⟩
end
end Go.Proofs.YtcmponckjkalaaaGreat
