/- Package plan: the reservation with a number, how many there are, what is left of a sum. No conditions but the sizes. Package plan: the reservation with a number is taken away. No conditions but the sizes. -/
import Derived.Test.YtcmponckjkalaaaGreatPUGQ
namespace Go.Proofs.YtcmponckjkalaaaGreat
section
open Go.ChangeShapes Go.WideShapes Go.ChangeAt Go.RowKit
attribute [local irreducible] Go.Calls
theorem ids_one {L:List Rv} (hn:(L.map (·.id)).Nodup) {r s:Rv} (hr:r∈L) (hs:s∈L) (e:r.id=s.id):r=s:=by
 obtain ⟨i,hi,rfl⟩:=List.getElem_of_mem hr
 obtain ⟨j,hj,rfl⟩:=List.getElem_of_mem hs
 have h3:(L.map (·.id))[i]'(by simpa using hi)=(L.map (·.id))[j]'(by simpa using hj):=by simpa using e
 have:=(List.getElem_inj hn).1 h3
 subst this;rfl
variable {w:World} {m:Nat} {U:List Ent} {rows:List UInt8→List Rw} {rvs:List UInt8→List Rv} {L:List Rv}
theorem Body.fewRows (h:Body w m U rows rvs L) (s:List UInt8):(rows s).length≤128:=by
 have:=h.few s;have:=(h.vals s).1;omega
def InRows (U:List Ent) (rows:List UInt8→List Rw) (y:Rw):Prop:=∃ p∈U,y∈rows p.1
theorem Body.rowIs (hP:Body w m U rows rvs L) {y:Rw} {r:Rv} (hy:InRows U rows y) (hid:y.id=r.id) (hr:r∈L):RwF w y r:=by
 obtain ⟨p,hp,hy⟩:=hy
 obtain ⟨r',hr',hF⟩:=rwsF_mem (hP.vals p.1) hy
 have:r'=r:=ids_one hP.good.ids (hP.mem hr') hr (by rw[←hF.id,hid])
 subst this
 exact hF
theorem Body.rowFit (hP:Body w m U rows rvs L) {y:Rw} {r:Rv} (hy:InRows U rows y) (hid:y.id=r.id) (hr:r∈L):y.fit:=(hP.rowIs hy hid hr).fit (by have:=(hP.small _ hr).2.2.2;unfold maxLen;omega)
theorem find_some (vc:Value) {id:Int} {i:Nat} {r:Rv} (hP:Body w m U rows rvs L) (hi:atS L id=some i) (hr:L[i]? = some r) :
  Calls Tryz.prog 64 #[ctV vc m,.int .u32 id] w fun e w'=>∃ y,e = .returned (.tuple #[rwV y,.bool true])∧InRows U rows y∧y.id=r.id∧Below w.heap.size w w':=by
 refine (find_c vc id w hP.map hP.ok (fun p _=>by have:=hP.fewRows p.1;omega)).mono ?_
 obtain ⟨hlt,he,_⟩:=atS_some hi
 have e1:L[i]=r:=by rw[List.getElem?_eq_getElem hlt] at hr;exact Option.some.inj hr
 have hm:r∈L:=e1 ▸ List.getElem_mem hlt
 have hid:r.id=id:=by rw[←e1];exact he
 rintro e w' ⟨hb,⟨p,hp,x,hx,hxi,rfl⟩ | ⟨hno,rfl⟩⟩
 ·exact ⟨x,rfl,⟨p,hp,hx⟩,by rw[hxi,hid],hb⟩
 ·exfalso
  obtain ⟨p,hp,hr2⟩:=allRv_mem.1 (hP.perm.mem_iff.2 hm)
  obtain ⟨x,hx,hF⟩:=rwsF_mem' (hP.vals p.1) hr2
  exact hno p hp x hx (by rw[hF.id,hid])
theorem find_none (vc:Value) {id:Int} (hP:Body w m U rows rvs L) (hi:atS L id=none) :
  Calls Tryz.prog 64 #[ctV vc m,.int .u32 id] w fun e w'=>e = .returned (.tuple #[rvZ,.bool false])∧Below w.heap.size w w':=by
 refine (find_c vc id w hP.map hP.ok (fun p _=>by have:=hP.fewRows p.1;omega)).mono ?_
 rintro e w' ⟨hb,⟨p,hp,x,hx,hxi,rfl⟩ | ⟨hno,rfl⟩⟩
 ·exfalso
  obtain ⟨r',hr',hF⟩:=rwsF_mem (hP.vals p.1) hx
  exact atS_none.1 hi r' (hP.mem hr') (by rw[←hF.id,hxi])
 ·exact ⟨rfl,hb⟩
theorem lenU_rows {w:World} {rows:List UInt8→List Rw}:∀ {U:List Ent},RowsOk w U rows→lenU U=(allRw rows U).length
 | [],_=>rfl
 | p :: U, h => by
   have h1:=lenU_rows (U:=U) (fun q hq=>h q (List.mem_cons_of_mem _ hq))
   obtain ⟨a,c,e,_⟩:=h p (List.mem_cons_self ..)
   unfold allRw at h1 ⊢
   rw[List.flatMap_cons,List.length_append,←h1]
   show vlen p.2+lenU U=_
   rw[e];rfl
theorem count_b (vc:Value) (hP:Body w m U rows rvs L):Calls Tryz.prog 165 #[ctV vc m] w fun e w'=>e = .returned (.int .i64 L.length)∧Below w.heap.size w w':=by
 have hl:lenU U=L.length:=(lenU_rows hP.ok).trans hP.all_len
 refine (count_c vc w hP.map (fun p hp => ?_) (by have:=hP.good.few;omega)).mono ?_
 ·obtain ⟨a,c,e,_⟩:=hP.ok p hp
  exact ⟨a,_,c,e⟩
 ·rintro e w' ⟨rfl,hb⟩
  rw[hl];exact ⟨rfl,hb⟩
theorem loads_sub {K M:List (List Sg)} {f A:List Sg} (hp:∀ F∈f :: M,posB F=true) (hr:InR K) (hK:K.Perm (f :: M)) (hA:Loads K A):∃ C,doS 1 A f=(C,0)∧Loads M C:=by
 have hA':=loads_perm hK hA
 have hr':=inR_perm hK hr
 have hf:=hp f (List.mem_cons_self ..)
 have hM:∀ F∈M,posB F=true:=fun F hF=>hp F (List.mem_cons_of_mem _ hF)
 have hvf:∀ t,(vat A t).1=(vat f t).1+sA M t∧(vat A t).2=(vat f t).2+sB M t:=fun t=>by
  rw[hA'.2.1 t]
  simp[sA,sB]
 have hb:∀ t,0≤(vat f t).1∧0≤(vat f t).2:=fun t=>by
  unfold posB at hf;rw[Bool.and_eq_true] at hf
  exact vat_pos hf.2 t
 have hinM:InR M:=fun t=>by
  have h1:=hr' t
  have h2:=hb t
  simp only[sA,sB,List.map_cons,List.sum_cons] at h1 ⊢
  omega
 rcases sumS_pos hM with ⟨_,h0,hL⟩ | ⟨hno,_⟩
 ·refine ⟨(sumS M).1, ?_,hL⟩
  refine doS_of hA'.1 (posB_may hf) hL.1 fun t => ?_
  unfold opT
  have hs:=sAB_pos hM t
  have h1:=hr' t
  have h2:=hvf t
  have h3:=hb t
  rw[hL.2.1 t]
  have hS1:(vat A t).1≤1125899906842624∧(vat A t).2≤1125899906842624:=by rw[hA'.2.1 t];exact h1
  show subS (vat A t).1 (vat A t).2 (vat f t).1 (vat f t).2=_
  unfold subS
  rw[show okV (vat A t).1 (vat A t).2=true from okV_iff.2 (by omega),show okV (vat f t).1 (vat f t).2=true from okV_iff.2 (by omega),show okV ((vat A t).1 - (vat f t).1) ((vat A t).2 - (vat f t).2)=true from okV_iff.2 (by omega)]
  show ((vat A t).1 - (vat f t).1,(vat A t).2 - (vat f t).2,(0:Int))=(sA M t,sB M t,0)
  rw[h2.1,h2.2]
  congr 1
  ·omega
  ·congr 1;omega
 ·exact absurd hinM hno
theorem rwsF_filter {w:World} {id:Int} {l:List Rw}:∀ {R:List Rv},RwsF w l R→RwsF w (l.filter fun x=>decide (x.id≠id)) (R.filter fun r=>decide (r.id≠id)):=by
 induction l with
 | nil =>
  intro R h
  have:R=[]:=List.eq_nil_of_length_eq_zero h.1
  subst this
  exact rwsF_nil w
 | cons x l ih =>
  intro R h
  obtain ⟨r,M,rfl,h1,h2⟩:=rwsF_cons.1 h
  have e:=h1.id
  by_cases c:x.id=id
  ·rw[List.filter_cons_of_neg (by simpa using c),List.filter_cons_of_neg (by simpa [←e] using c)]
   exact ih h2
  ·rw[List.filter_cons_of_pos (by simpa using c),List.filter_cons_of_pos (by simpa [←e] using c)]
   exact rwsF_cons.2 ⟨r,_,rfl,h1,ih h2⟩
theorem take_filter {l:List Rw} {k:Nat} {id:Int} (h:k<l.length):(l.take (k+1)).filter (fun x=>decide (x.id≠id))=(l.take k).filter (fun x=>decide (x.id≠id))++if (l.getD k rw0).id=id then [] else [l.getD k rw0]:=by
 rw[List.take_succ_eq_append_getElem h,List.filter_append,List.getD_eq_getElem?_getD,List.getElem?_eq_getElem h]
 congr 1
 simp only[Option.getD_some]
 by_cases c:l[k].id=id
 ·rw[if_pos c,List.filter_cons_of_neg (by simpa using c)];rfl
 ·rw[if_neg c,List.filter_cons_of_pos (by simpa using c)];rfl
theorem erase_perm {L:List Rv} {i:Nat} {r:Rv} (h:L[i]? = some r):L.Perm (r :: L.eraseIdx i):=by
 obtain ⟨hlt,rfl⟩:=List.getElem?_eq_some_iff.1 h
 clear h
 induction L generalizing i with
 | nil=>simp at hlt
 | cons x L ih =>
  match i,hlt with
  | 0,_=>exact List.Perm.refl _
  | i+1, hlt =>
   rw[List.eraseIdx_cons_succ,List.getElem_cons_succ]
   exact ((ih (i:=i) (by simpa using hlt)).cons x).trans (List.Perm.swap _ _ _)
end
section
open Go.ChangeShapes Go.WideShapes Go.ChangeAt Go.RowKit
attribute [local irreducible] Go.Calls
def fndR (U:List Ent) (rows:List UInt8→List Rw) (id:Int):Value→World→Prop:=fun v _=>∃ y,v = .tuple #[rwV y,.bool true]∧InRows U rows y∧y.id=id
theorem stab_fnd (U:List Ent) (rows:List UInt8→List Rw) (id:Int):Stab (fndR U rows id):=fun _ _ _ h _=>h
def rowOfR (U:List Ent) (rows:List UInt8→List Rw) (id:Int):Value→World→Prop:=fun v _=>∃ y,v=rwV y∧InRows U rows y∧y.id=id
theorem stab_rowOf (U:List Ent) (rows:List UInt8→List Rw) (id:Int):Stab (rowOfR U rows id):=fun _ _ _ h _=>h
theorem csub_s {w:World} {v1 v2:Value} {F G:List Sg} {R:List Sg} {er:Int} (h1:SliS w v1 F) (h2:SliS w v2 G) (hl:F.length+G.length≤999999990) (he:doS 1 F G=(R,er)):Calls Tryz.prog 167 #[v1,v2] w (OfIs w R er):=by
 obtain ⟨a,c,rfl,p1,p2,p3⟩:=h1
 obtain ⟨a',c',rfl,q1,q2,q3⟩:=h2
 have:=csub_c F G a a' c c' w p1 p2 q1 q2 hl p3 q3
 rw[he] at this
 exact this
set_option maxRecDepth 100000 in
set_option maxHeartbeats 8000000 in
theorem drop_none {d m:Nat} {a n c} {L:List Rv} {x:Rw} {id:Int} (w:World) (hD:Dr w d m (.slice a n c) L) (hid:x.id=id) (hfit:x.fit) (hno:atS L id=none) :
  Calls Tryz.prog 128 #[.pointer (some ⟨d,0,none⟩),rwV x] w fun e w'=>e = .returned (.int .i64 7)∧Two d m w w':=by
 obtain ⟨U,rows,rvs,vs,hB,hP,hS⟩:=hD.has
 obtain ⟨avs,nvs,cvs,hvs⟩:=ldR_sli hS
 subst hvs
 have hds:=hB.lt
 obtain ⟨xi,xq,xu,xf,xt,xT,xW,xA⟩:=x
 obtain ⟨⟨a5,n5,c5,q5⟩,⟨a6,n6,c6,q6⟩,⟨a7,n7,c7,q7⟩,_⟩:=hfit
 simp only at q5 q6 q7 hid
 subst q5 q6 q7 hid
 obtain ⟨w0,hw0⟩:∃ w0,w0=w.alloc (Obj.cells #[.int .u32 xi,.int .u32 xq,nmV xu,.int .i64 xf,.int .i64 xt,.slice a5 n5 c5,.slice a6 n6 c6,.slice a7 n7 c7] 50):=⟨_,rfl⟩
 obtain ⟨pb,hpb⟩:∃ pb,pb=w.heap.size:=⟨_,rfl⟩
 have hb0:Below w.heap.size w w0:=by rw[hw0];(repeat (first | exact Below.refl _ _ | assumption | refine balloc ?_ _ | refine below_drewN ?_ _ | refine bstep (by assumption) ?_ | refine bstep (Past.prop _) ?_ | refine Below.setCell ?_ (by first | exact Nat.le_refl _ | (simp;done) | (simp;omega)) _))
 have B0:Blk w0 pb #[.int .u32 xi,.int .u32 xq,nmV xu,.int .i64 xf,.int .i64 xt,.slice a5 n5 c5,.slice a6 n6 c6,.slice a7 n7 c7] 50:=by rw[hw0,hpb];exact Blk.made _ _ _
 have hBw:=hB.past hb0
 have HBW:=hidE hBw;have HP:=hidE (hP.past hb0);have HBB:=hidE hb0;have HS:=hidE (stab_ld _ _ _ _ hS hb0)
 have HDS:=hidE hds;have HNO:=hidE hno
 go_enter Tryz.func128,Tryz.ntmps128
 go_upto_region 1 with fail
 rw[←hw0,←hpb]
 have q0:=hBw.cell 0;have q1:=hBw.cell 1;have qz:=hBw.lt
 have b0:=B0.cell 0;have bz:=B0.lt
 simp at q0 q1 b0
 clear hw0 hB hP hS hno hb0 hpb hBw B0 hD hds
 refine wp_region_J 11 [9] (nthR [detR (.pointer (some ⟨d,0,none⟩)),detR (.pointer (some ⟨d,0,none⟩)),detR (.pointer (some ⟨d,0,none⟩)),detR (ctV (.slice a n c) m),detR (.pointer (some ⟨pb,0,none⟩)),detR (.int .u32 xi),detR (.tuple #[rvZ,.bool false]),detR (.tuple #[rvZ,.bool false]),detR rvZ,detR (.bool false),newR w0.heap.size #[.int .u32 0,.int .u32 0,.string ⟨#[]⟩,.int .i64 0,.int .i64 0,.slice none 0 0,.slice none 0 0,.slice none 0 0] 50]) (fun _=>false) (by kernel_rfl) (by decide) (by kernel_rfl) (stab_nth (by intro r hr;simp only[List.mem_cons,List.not_mem_nil,or_false] at hr;rcases hr with rfl | rfl | rfl | rfl | rfl | rfl | rfl | rfl | rfl | rfl | rfl<;>first | exact stab_det _ | exact stab_new _ _ _)) ?_ ?_ ?_
 ·intro i o hi ho
  match i,hi with
  | 0, _ =>
   obtain rfl:=Option.some.inj ho
   intro u x hd
   have hc:=Past.cell x
   simp[go_sem,gives,frm,Act.put,nthR,detR,Region.wanted,Below.refl]
  | 1, _ =>
   obtain rfl:=Option.some.inj ho
   intro u x hd
   have hc:=Past.cell x
   have d0:=hd 0 (by decide) (by kernel_rfl)
   simp only[nthR,detR,List.getD_cons_zero] at d0
   simp[go_sem,gives,frm,Act.put,nthR,detR,Region.wanted,Below.refl,d0]
  | 2, _ =>
   obtain rfl:=Option.some.inj ho
   intro u x hd
   have hc:=Past.cell x
   have d1:=hd 1 (by decide) (by kernel_rfl)
   simp only[nthR,detR,List.getD_cons_zero,List.getD_cons_succ] at d1
   simp[go_sem,gives,frm,Act.put,nthR,detR,Region.wanted,Below.refl,d1]
  | 3, _ =>
   obtain rfl:=Option.some.inj ho
   intro u x hd
   have hc:=Past.cell x
   have d2:=hd 2 (by decide) (by kernel_rfl)
   simp only[nthR,detR,List.getD_cons_zero,List.getD_cons_succ] at d2
   simp[go_sem,gives,frm,Act.put,nthR,detR,Region.wanted,Below.refl,hc,d2,q0,q1,qz]
  | 4, _ =>
   obtain rfl:=Option.some.inj ho
   intro u x hd
   have hc:=Past.cell x
   simp[go_sem,gives,frm,Act.put,nthR,detR,Region.wanted,Below.refl]
  | 5, _ =>
   obtain rfl:=Option.some.inj ho
   intro u x hd
   have hc:=Past.cell x
   have d4:=hd 4 (by decide) (by kernel_rfl)
   simp only[nthR,detR,List.getD_cons_zero,List.getD_cons_succ] at d4
   simp[go_sem,gives,frm,Act.put,nthR,detR,Region.wanted,Below.refl,hc,d4,b0,bz]
  | 6, _ =>
   obtain rfl:=Option.some.inj ho
   intro u x hd
   have hc:=Past.cell x
   have d3:=hd 3 (by decide) (by kernel_rfl)
   have d5:=hd 5 (by decide) (by kernel_rfl)
   simp only[nthR,detR,List.getD_cons_zero,List.getD_cons_succ] at d3 d5
   simp[go_sem,gives,frm,Act.put,nthR,Region.wanted,d3,d5]
   (with_reducible refine (find_none (.slice a n c) (HP.out.past (Past.prop x)) HNO.out).mono ?_);rintro e w3 ⟨rfl,hb3⟩;exact ⟨_,rfl,hb3,rfl⟩
  | 7, _ =>
   obtain rfl:=Option.some.inj ho
   intro u x hd
   have hc:=Past.cell x
   have d6:u 6 = .tuple #[rvZ,.bool false]:=hd 6 (by decide) (by kernel_rfl)
   simp[go_sem,gives,frm,Act.put,nthR,Region.wanted,Below.refl,detR,d6]
  | 8, _ =>
   obtain rfl:=Option.some.inj ho
   intro u x hd
   have hc:=Past.cell x
   have d7:u 7 = .tuple #[rvZ,.bool false]:=hd 7 (by decide) (by kernel_rfl)
   simp[go_sem,gives,frm,Act.put,nthR,Region.wanted,Below.refl,detR,d7]
  | 9, _ =>
   obtain rfl:=Option.some.inj ho
   intro u x hd
   have hc:=Past.cell x
   have d7:u 7 = .tuple #[rvZ,.bool false]:=hd 7 (by decide) (by kernel_rfl)
   simp[go_sem,gives,frm,Act.put,nthR,Region.wanted,Below.refl,detR,d7]
  | 10, _ =>
   obtain rfl:=Option.some.inj ho
   intro u x hd
   have hc:=Past.cell x
   simp[go_sem,gives,nthR,Region.wanted]
   exact ⟨by (repeat (first | exact Below.refl _ _ | assumption | refine balloc ?_ _ | refine below_drewN ?_ _ | refine bstep (by assumption) ?_ | refine bstep (Past.prop _) ?_ | refine Below.setCell ?_ (by first | exact Nat.le_refl _ | (simp;done) | (simp;omega)) _)),⟨_,rfl,(Past.prop x).size,Blk.made _ _ _⟩⟩
  | i+11,h=>exact absurd h (by omega)
 ·intro i o hx ho
  simp only[List.mem_cons,List.not_mem_nil,or_false] at hx
  rcases hx with rfl
  ·obtain rfl:=Option.some.inj ho
   refine ⟨rfl,fun _ _ _ _ h=>h,fun u x hd => ?_⟩
   have d7:=hd 7 (by decide) (by kernel_rfl)
   simp only[nthR,detR,List.getD_cons_zero,List.getD_cons_succ] at d7
   refine ⟨rfl,.bool false,rfl,fun w' => ?_⟩
   simp[go_sem,frm,Act.put,d7]
 ·intro u x9 hu hne
  obtain ⟨p5,e10,p5z,B5⟩:newR w0.heap.size #[.int .u32 0,.int .u32 0,.string ⟨#[]⟩,.int .i64 0,.int .i64 0,.slice none 0 0,.slice none 0 0,.slice none 0 0] 50 (u 10) x9.1:=hu 10 (by decide)
  have e8:u 8=rvZ:=hu 8 (by decide)
  have e9:u 9 = .bool false:=hu 9 (by decide)
  simp only[frm,List.take,Act.put,e8,e9,e10]
  have q1':Below w.heap.size w x9.1:=HBB.out.trans (x9.2.mono HBB.out.size)
  have HQ:=hidE (below_eight q1' (show w.heap.size≤p5 from by have:=HBB.out.size;omega) (.int .u32 0) (.int .u32 0) (.string ⟨#[]⟩) (.int .i64 0) (.int .i64 0) (.slice none 0 0) (.slice none 0 0) (.slice none 0 0))
  have r0:=B5.cell 0;have r1:=B5.cell 1;have r2:=B5.cell 2;have r3:=B5.cell 3;have r4:=B5.cell 4;have r5:=B5.cell 5;have r6:=B5.cell 6;have r7:=B5.cell 7;have rf:=B5.free;have rz:=B5.lt
  simp at r0 r1 r2 r3 r4 r5 r6 r7
  clear hu hne e8 e9 e10 q1' B5 p5z q0 q1 qz b0 bz
  generalize x9.1=w9 at *
  go_wp2
  go_ret
  exact ⟨rfl,two_below HQ.out⟩
set_option maxRecDepth 100000 in
set_option maxHeartbeats 16000000 in
theorem drop_some {d m i:Nat} {a n c} {L:List Rv} {x:Rw} {r:Rv} {id:Int} (w:World) (hD:Dr w d m (.slice a n c) L) (hid:x.id=id) (hfit:x.fit) (hno:atS L id=some i) (hr:L[i]? = some r) :
  Calls Tryz.prog 128 #[.pointer (some ⟨d,0,none⟩),rwV x] w fun e w'=>e = .returned (.int .i64 0)∧Two d m w w'∧Dr w' d m (.slice a n c) (L.eraseIdx i):=by
 obtain ⟨U,rows,rvs,vs,hB,hP,hS⟩:=hD.has
 obtain ⟨avs,nvs,cvs,hvs⟩:=ldR_sli hS
 subst hvs
 have hds:=hB.lt
 obtain ⟨xi,xq,xu,xf,xt,xT,xW,xA⟩:=x
 obtain ⟨⟨a5,n5,c5,q5⟩,⟨a6,n6,c6,q6⟩,⟨a7,n7,c7,q7⟩,_⟩:=hfit
 simp only at q5 q6 q7 hid
 subst q5 q6 q7 hid
 obtain ⟨w0,hw0⟩:∃ w0,w0=w.alloc (Obj.cells #[.int .u32 xi,.int .u32 xq,nmV xu,.int .i64 xf,.int .i64 xt,.slice a5 n5 c5,.slice a6 n6 c6,.slice a7 n7 c7] 50):=⟨_,rfl⟩
 obtain ⟨pb,hpb⟩:∃ pb,pb=w.heap.size:=⟨_,rfl⟩
 have hb0:Below w.heap.size w w0:=by rw[hw0];(repeat (first | exact Below.refl _ _ | assumption | refine balloc ?_ _ | refine below_drewN ?_ _ | refine bstep (by assumption) ?_ | refine bstep (Past.prop _) ?_ | refine Below.setCell ?_ (by first | exact Nat.le_refl _ | (simp;done) | (simp;omega)) _))
 have B0:Blk w0 pb #[.int .u32 xi,.int .u32 xq,nmV xu,.int .i64 xf,.int .i64 xt,.slice a5 n5 c5,.slice a6 n6 c6,.slice a7 n7 c7] 50:=by rw[hw0,hpb];exact Blk.made _ _ _
 have hBw:=hB.past hb0
 have HBW:=hidE hBw;have HP:=hidE (hP.past hb0);have HBB:=hidE hb0;have HS:=hidE (stab_ld _ _ _ _ hS hb0)
 have HDS:=hidE hds;have HNO:=hidE hno;have HR:=hidE hr
 have HRL:=hidE (show r∈L from List.mem_of_getElem? hr)
 clear hr
 go_enter Tryz.func128,Tryz.ntmps128
 go_upto_region 1 with fail
 rw[←hw0,←hpb]
 have q0:=hBw.cell 0;have q1:=hBw.cell 1;have qz:=hBw.lt
 have b0:=B0.cell 0;have bz:=B0.lt
 simp at q0 q1 b0
 clear hw0 hB hP hS hno hb0 hpb hBw B0 hD hds
 refine wp_region_J 11 [9] (nthR [detR (.pointer (some ⟨d,0,none⟩)),detR (.pointer (some ⟨d,0,none⟩)),detR (.pointer (some ⟨d,0,none⟩)),detR (ctV (.slice a n c) m),detR (.pointer (some ⟨pb,0,none⟩)),detR (.int .u32 xi),fndR U rows r.id,fndR U rows r.id,rowOfR U rows r.id,detR (.bool true),newR w0.heap.size #[.int .u32 0,.int .u32 0,.string ⟨#[]⟩,.int .i64 0,.int .i64 0,.slice none 0 0,.slice none 0 0,.slice none 0 0] 50]) (fun _=>false) (by kernel_rfl) (by decide) (by kernel_rfl) (stab_nth (by intro r hr;simp only[List.mem_cons,List.not_mem_nil,or_false] at hr;rcases hr with rfl | rfl | rfl | rfl | rfl | rfl | rfl | rfl | rfl | rfl | rfl<;>first | exact stab_det _ | exact stab_fnd _ _ _ | exact stab_rowOf _ _ _ | exact stab_new _ _ _)) ?_ ?_ ?_
 ·intro i o hi ho
  match i,hi with
  | 0, _ =>
   obtain rfl:=Option.some.inj ho
   intro u x hd
   have hc:=Past.cell x
   simp[go_sem,gives,frm,Act.put,nthR,detR,Region.wanted,Below.refl]
  | 1, _ =>
   obtain rfl:=Option.some.inj ho
   intro u x hd
   have hc:=Past.cell x
   have d0:=hd 0 (by decide) (by kernel_rfl)
   simp only[nthR,detR,List.getD_cons_zero] at d0
   simp[go_sem,gives,frm,Act.put,nthR,detR,Region.wanted,Below.refl,d0]
  | 2, _ =>
   obtain rfl:=Option.some.inj ho
   intro u x hd
   have hc:=Past.cell x
   have d1:=hd 1 (by decide) (by kernel_rfl)
   simp only[nthR,detR,List.getD_cons_zero,List.getD_cons_succ] at d1
   simp[go_sem,gives,frm,Act.put,nthR,detR,Region.wanted,Below.refl,d1]
  | 3, _ =>
   obtain rfl:=Option.some.inj ho
   intro u x hd
   have hc:=Past.cell x
   have d2:=hd 2 (by decide) (by kernel_rfl)
   simp only[nthR,detR,List.getD_cons_zero,List.getD_cons_succ] at d2
   simp[go_sem,gives,frm,Act.put,nthR,detR,Region.wanted,Below.refl,hc,d2,q0,q1,qz]
  | 4, _ =>
   obtain rfl:=Option.some.inj ho
   intro u x hd
   have hc:=Past.cell x
   simp[go_sem,gives,frm,Act.put,nthR,detR,Region.wanted,Below.refl]
  | 5, _ =>
   obtain rfl:=Option.some.inj ho
   intro u x hd
   have hc:=Past.cell x
   have d4:=hd 4 (by decide) (by kernel_rfl)
   simp only[nthR,detR,List.getD_cons_zero,List.getD_cons_succ] at d4
   simp[go_sem,gives,frm,Act.put,nthR,detR,Region.wanted,Below.refl,hc,d4,b0,bz]
  | 6, _ =>
   obtain rfl:=Option.some.inj ho
   intro u x hd
   have hc:=Past.cell x
   have d3:=hd 3 (by decide) (by kernel_rfl)
   have d5:=hd 5 (by decide) (by kernel_rfl)
   simp only[nthR,detR,List.getD_cons_zero,List.getD_cons_succ] at d3 d5
   simp[go_sem,gives,frm,Act.put,nthR,Region.wanted,d3,d5]
   (with_reducible refine (find_some (.slice a n c) (HP.out.past (Past.prop x)) HNO.out HR.out).mono ?_);rintro e w3 ⟨y,rfl,h1,h2,hb3⟩;exact ⟨_,rfl,hb3,⟨y,rfl,h1,h2⟩⟩
  | 7, _ =>
   obtain rfl:=Option.some.inj ho
   intro u x hd
   have hc:=Past.cell x
   have h6:fndR U rows r.id (u 6) x.1:=hd 6 (by decide) (by kernel_rfl)
   simp[go_sem,gives,frm,Act.put,nthR,Region.wanted,Below.refl]
   exact h6
  | 8, _ =>
   obtain rfl:=Option.some.inj ho
   intro u x hd
   have hc:=Past.cell x
   have h7:∃ y,u 7 = .tuple #[rwV y,.bool true]∧InRows U rows y∧y.id=r.id:=hd 7 (by decide) (by kernel_rfl)
   have e7:=h7.choose_spec.1;have hs1:=h7.choose_spec.2;generalize h7.choose=y at *
   simp[go_sem,gives,frm,Act.put,nthR,Region.wanted,Below.refl,e7]
   exact ⟨y,rfl,hs1⟩
  | 9, _ =>
   obtain rfl:=Option.some.inj ho
   intro u x hd
   have hc:=Past.cell x
   have h7:∃ y,u 7 = .tuple #[rwV y,.bool true]∧InRows U rows y∧y.id=r.id:=hd 7 (by decide) (by kernel_rfl)
   have e7:=h7.choose_spec.1;have hs1:=h7.choose_spec.2;generalize h7.choose=y at *
   simp[go_sem,gives,frm,Act.put,nthR,Region.wanted,Below.refl,detR,e7]
  | 10, _ =>
   obtain rfl:=Option.some.inj ho
   intro u x hd
   have hc:=Past.cell x
   simp[go_sem,gives,nthR,Region.wanted]
   exact ⟨by (repeat (first | exact Below.refl _ _ | assumption | refine balloc ?_ _ | refine below_drewN ?_ _ | refine bstep (by assumption) ?_ | refine bstep (Past.prop _) ?_ | refine Below.setCell ?_ (by first | exact Nat.le_refl _ | (simp;done) | (simp;omega)) _)),⟨_,rfl,(Past.prop x).size,Blk.made _ _ _⟩⟩
  | i+11,h=>exact absurd h (by omega)
 ·intro i o hx ho
  simp only[List.mem_cons,List.not_mem_nil,or_false] at hx
  rcases hx with rfl
  ·obtain rfl:=Option.some.inj ho
   refine ⟨rfl,fun _ _ _ _ h=>h,fun u x hd => ?_⟩
   have h7:∃ y,u 7 = .tuple #[rwV y,.bool true]∧InRows U rows y∧y.id=r.id:=hd 7 (by decide) (by kernel_rfl)
   have e7:=h7.choose_spec.1;have hs1:=h7.choose_spec.2;generalize h7.choose=y at *
   refine ⟨rfl,.bool true,rfl,fun w' => ?_⟩
   simp[go_sem,frm,Act.put,e7]
 ·intro u x9 hu hne
  obtain ⟨p5,e10,p5z,B5⟩:newR w0.heap.size #[.int .u32 0,.int .u32 0,.string ⟨#[]⟩,.int .i64 0,.int .i64 0,.slice none 0 0,.slice none 0 0,.slice none 0 0] 50 (u 10) x9.1:=hu 10 (by decide)
  obtain ⟨y,e8,hyr,hyi⟩:rowOfR U rows r.id (u 8) x9.1:=hu 8 (by decide)
  have e9:u 9 = .bool true:=hu 9 (by decide)
  have hyF:=HP.out.rowIs hyr hyi HRL.out
  have hyf:=HP.out.rowFit hyr hyi HRL.out
  have hyu:=hyF.u
  obtain ⟨yi,yq,yu,yf,yt,yT,yW,yA⟩:=y
  obtain ⟨⟨g5,o5,k5,z5⟩,⟨g6,o6,k6,z6⟩,⟨g7,o7,k7,z7⟩,hyl⟩:=hyf
  simp only at z5 z6 z7 hyl hyi hyu
  subst z5 z6 z7 hyi hyu
  simp only[frm,List.take,Act.put,e8,e9,e10]
  have q1':Below w.heap.size w x9.1:=HBB.out.trans (x9.2.mono HBB.out.size)
  obtain ⟨w8,hw8⟩:∃ w8,w8=((((((((x9.1.setCell ⟨p5,0,none⟩ (.int .u32 r.id)).setCell ⟨p5,1,none⟩ (.int .u32 yq)).setCell ⟨p5,2,none⟩ (nmV r.u)).setCell ⟨p5,3,none⟩ (.int .i64 yf)).setCell ⟨p5,4,none⟩ (.int .i64 yt)).setCell ⟨p5,5,none⟩ (.slice g5 o5 k5)).setCell ⟨p5,6,none⟩ (.slice g6 o6 k6)).setCell ⟨p5,7,none⟩ (.slice g7 o7 k7)):=⟨_,rfl⟩
  have hpz:w.heap.size≤p5:=by have:=HBB.out.size;omega
  have hb8:Below w0.heap.size w0 w8:=by rw[hw8];exact below_eight x9.2 p5z _ _ _ _ _ _ _ _
  have B8:Blk w8 p5 #[.int .u32 r.id,.int .u32 yq,nmV r.u,.int .i64 yf,.int .i64 yt,.slice g5 o5 k5,.slice g6 o6 k6,.slice g7 o7 k7] 50:=by rw[hw8];exact blk_eight B5 _ _ _ _ _ _ _ _
  have hsA:SliS w8 (.slice g7 o7 k7) r.A:=(hyF.past hb8).a.1
  have HSA:=hidE hsA;have HB8:=hidE hb8;have HBL8:=hidE B8;have HYL:=hidE hyl
  have HPZ:=hidE hpz
  have r0:=B5.cell 0;have r1:=B5.cell 1;have r2:=B5.cell 2;have r3:=B5.cell 3;have r4:=B5.cell 4;have r5:=B5.cell 5;have r6:=B5.cell 6;have r7:=B5.cell 7;have rf:=B5.free;have rz:=B5.lt
  simp at r0 r1 r2 r3 r4 r5 r6 r7
  clear hu hne e8 e9 e10 q1' hyr hyF hyl hsA hb8 B8 B5 p5z hpz q0 q1 qz b0 bz
  generalize x9.1=w9 at *
  go_upto_region 4 with fail
  rw[←hw8]
  clear hw8 r0 r1 r2 r3 r4 r5 r6 r7 rf rz
  have hBw8:=HBW.out.past HB8.out
  have q0:=hBw8.cell 0;have q1:=hBw8.cell 1;have q2:=hBw8.cell 2;have qz:=hBw8.lt
  have b0:=HBL8.out.cell 0;have b2:=HBL8.out.cell 2;have b7:=HBL8.out.cell 7;have bz:=HBL8.out.lt
  simp at q0 q1 q2 b0 b2 b7
  have HS8:=hidE (stab_ld _ _ _ _ HS.out HB8.out)
  obtain ⟨A0,hA0,hL0⟩:=HS8.out
  obtain ⟨F,hF,hLF⟩:=loads_sub (f:=r.A) (M:=fnsS (L.eraseIdx i)) (K:=fnsS L) (A:=A0) (fun G hG=>by
   rcases List.mem_cons.1 hG with rfl | hG
   ·exact rok_pos (HP.out.good.ok r HRL.out)
   ·exact fns_pos (good_erase HP.out.good i).ok G hG) HP.out.good.inR (show (fnsS L).Perm (r.A :: fnsS (L.eraseIdx i)) from List.Perm.map Rv.A (erase_perm HR.out)) hL0
  have hlen:A0.length+r.A.length≤999999990:=by
   have h1:=hL0.2.2
   have h2:=lenR_le HP.out.good.ok
   have h3:=rok_len (HP.out.good.ok r HRL.out)
   have h4:=HP.out.good.few
   unfold fnsS at *
   omega
  have HSB:=hidE (fun w' (hb:Below w8.heap.size w8 w')=>csub_s (hA0.past hb) (HSA.out.past hb) hlen hF)
  have HLF:=hidE hLF
  have HW8:=hidE hBw8
  clear hA0 hL0 hF hLF hlen hBw8
  refine wp_region_J 13 [10] (nthR [detR (.pointer (some ⟨d,0,none⟩)),detR (.pointer (some ⟨d,0,none⟩)),detR (.pointer (some ⟨d,0,none⟩)),detR (.pointer (some ⟨d,2,none⟩)),detR (.slice avs nvs cvs),detR (.pointer (some ⟨p5,7,none⟩)),detR (.slice g7 o7 k7),tupR F 0,tupR F 0,sliF F,detR (.int .i64 0),detR (.pointer (some ⟨d,0,none⟩)),detR (.pointer (some ⟨d,2,none⟩))]) (fun _=>false) (by kernel_rfl) (by decide) (by kernel_rfl) (stab_nth (by intro r hr;simp only[List.mem_cons,List.not_mem_nil,or_false] at hr;rcases hr with rfl | rfl | rfl | rfl | rfl | rfl | rfl | rfl | rfl | rfl | rfl | rfl | rfl<;>first | exact stab_det _ | exact stab_tup _ _ | exact stab_sliF _)) ?_ ?_ ?_
  ·intro i o hi ho
   match i,hi with
   | 0, _ =>
    obtain rfl:=Option.some.inj ho
    intro u x hd
    have hc:=Past.cell x
    simp[go_sem,gives,frm,Act.put,nthR,detR,Region.wanted,Below.refl]
   | 1, _ =>
    obtain rfl:=Option.some.inj ho
    intro u x hd
    have hc:=Past.cell x
    simp[go_sem,gives,frm,Act.put,nthR,detR,Region.wanted,Below.refl]
   | 2, _ =>
    obtain rfl:=Option.some.inj ho
    intro u x hd
    have hc:=Past.cell x
    have d1:=hd 1 (by decide) (by kernel_rfl)
    simp only[nthR,detR,List.getD_cons_zero,List.getD_cons_succ] at d1
    simp[go_sem,gives,frm,Act.put,nthR,detR,Region.wanted,Below.refl,d1]
   | 3, _ =>
    obtain rfl:=Option.some.inj ho
    intro u x hd
    have hc:=Past.cell x
    have d2:=hd 2 (by decide) (by kernel_rfl)
    simp only[nthR,detR,List.getD_cons_zero,List.getD_cons_succ] at d2
    simp[go_sem,gives,frm,Act.put,nthR,detR,Region.wanted,Below.refl,d2]
   | 4, _ =>
    obtain rfl:=Option.some.inj ho
    intro u x hd
    have hc:=Past.cell x
    have d3:=hd 3 (by decide) (by kernel_rfl)
    simp only[nthR,detR,List.getD_cons_zero,List.getD_cons_succ] at d3
    simp[go_sem,gives,frm,Act.put,nthR,detR,Region.wanted,Below.refl,hc,d3,q2,qz]
   | 5, _ =>
    obtain rfl:=Option.some.inj ho
    intro u x hd
    have hc:=Past.cell x
    simp[go_sem,gives,frm,Act.put,nthR,detR,Region.wanted,Below.refl]
   | 6, _ =>
    obtain rfl:=Option.some.inj ho
    intro u x hd
    have hc:=Past.cell x
    have d5:=hd 5 (by decide) (by kernel_rfl)
    simp only[nthR,detR,List.getD_cons_zero,List.getD_cons_succ] at d5
    simp[go_sem,gives,frm,Act.put,nthR,detR,Region.wanted,Below.refl,hc,d5,b7,bz]
   | 7, _ =>
    obtain rfl:=Option.some.inj ho
    intro u x hd
    have hc:=Past.cell x
    have d4:=hd 4 (by decide) (by kernel_rfl)
    have d6:=hd 6 (by decide) (by kernel_rfl)
    simp only[nthR,detR,List.getD_cons_zero,List.getD_cons_succ] at d4 d6
    simp[go_sem,gives,frm,Act.put,nthR,Region.wanted,d4,d6]
    (with_reducible refine (HSB.out _ (Past.prop x)).mono ?_);rintro e w3 ⟨v,rfl,hv,hb3⟩;exact ⟨_,rfl,hb3,⟨v,rfl,hv⟩⟩
   | 8, _ =>
    obtain rfl:=Option.some.inj ho
    intro u x hd
    have hc:=Past.cell x
    have h7:tupR F 0 (u 7) x.1:=hd 7 (by decide) (by kernel_rfl)
    simp[go_sem,gives,frm,Act.put,nthR,Region.wanted,Below.refl]
    exact h7
   | 9, _ =>
    obtain rfl:=Option.some.inj ho
    intro u x hd
    have hc:=Past.cell x
    have h8:∃ sv,u 8 = .tuple #[sv,.int .i64 0]∧SliS x.1 sv F:=hd 8 (by decide) (by kernel_rfl)
    have e8:=h8.choose_spec.1;have hs1:=h8.choose_spec.2;generalize h8.choose=sv at *
    simp[go_sem,gives,frm,Act.put,nthR,Region.wanted,Below.refl,e8]
    exact hs1
   | 10, _ =>
    obtain rfl:=Option.some.inj ho
    intro u x hd
    have hc:=Past.cell x
    have h8:∃ sv,u 8 = .tuple #[sv,.int .i64 0]∧SliS x.1 sv F:=hd 8 (by decide) (by kernel_rfl)
    have e8:=h8.choose_spec.1;have hs1:=h8.choose_spec.2;generalize h8.choose=sv at *
    simp[go_sem,gives,frm,Act.put,nthR,Region.wanted,Below.refl,detR,e8]
   | 11, _ =>
    obtain rfl:=Option.some.inj ho
    intro u x hd
    have hc:=Past.cell x
    have d0:=hd 0 (by decide) (by kernel_rfl)
    simp only[nthR,detR,List.getD_cons_zero] at d0
    simp[go_sem,gives,frm,Act.put,nthR,detR,Region.wanted,Below.refl,d0]
   | 12, _ =>
    obtain rfl:=Option.some.inj ho
    intro u x hd
    have hc:=Past.cell x
    have d11:=hd 11 (by decide) (by kernel_rfl)
    simp only[nthR,detR,List.getD_cons_zero,List.getD_cons_succ] at d11
    simp[go_sem,gives,frm,Act.put,nthR,detR,Region.wanted,Below.refl,d11]
   | i+13,h=>exact absurd h (by omega)
  ·intro i o hx ho
   simp only[List.mem_cons,List.not_mem_nil,or_false] at hx
   rcases hx with rfl
   ·obtain rfl:=Option.some.inj ho
    refine ⟨rfl,fun _ _ _ _ h=>h,fun u x hd => ?_⟩
    have h8:∃ sv,u 8 = .tuple #[sv,.int .i64 0]∧SliS x.1 sv F:=hd 8 (by decide) (by kernel_rfl)
    have e8:=h8.choose_spec.1;have hs1:=h8.choose_spec.2;generalize h8.choose=sv at *
    refine ⟨rfl,.int .i64 0,rfl,fun w' => ?_⟩
    simp[go_sem,frm,Act.put,e8]
  ·intro u x9 hu hne
   have h9:SliS x9.1 (u 9) F:=hu 9 (by decide)
   have e12:u 12 = .pointer (some ⟨d,2,none⟩):=hu 12 (by decide)
   obtain ⟨vb,e9⟩:∃ vb,u 9=vb:=⟨_,rfl⟩
   rw[e9] at h9
   simp only[frm,List.take,Act.put,e9,e12]
   obtain ⟨aF,cF,eF,_⟩:=id h9
   subst eF
   have hb9:=x9.2
   have hB9:=HW8.out.past hb9
   have hP9:=HP.out.past (HB8.out.trans (hb9.mono HB8.out.size))
   obtain ⟨w10,hw10⟩:∃ w10,w10=x9.1.setCell ⟨d,2,none⟩ (.slice aF F.length cF):=⟨_,rfl⟩
   have hg10:x9.1.grownBy w10 (some d):=by rw[hw10];exact grown_set _ _ _ _
   have hni:=noInt_three hB9
   have hk10:=keepI_grown hg10 hni
   have hmd:=hP9.map.ne_blk hB9
   have hP10:=hP9.keepI hg10 hni hmd
   have hB10:Blk w10 d #[.slice a n c,.map (some m),.slice aF F.length cF] 112:=by
    rw[hw10]
    simpa using hB9.set 2 (.slice aF F.length cF)
   have hS10:ldR (fnsS (L.eraseIdx i)) (.slice aF F.length cF) w10:=⟨F,h9.keepI hk10,HLF.out⟩
   have z1:Below w.heap.size w x9.1:=(HBB.out.trans (HB8.out.mono HBB.out.size)).trans (hb9.mono (by have:=HBB.out.size;have:=HB8.out.size;omega))
   have z2:Two d m w w10:=(two_below z1).trans (two_fst hg10)
   have B10:Blk w10 p5 #[.int .u32 r.id,.int .u32 yq,nmV r.u,.int .i64 yf,.int .i64 yt,.slice g5 o5 k5,.slice g6 o6 k6,.slice g7 o7 k7] 50:=(HBL8.out.past hb9).grown hg10 (by have:=HPZ.out;have:=HDS.out;simp;omega)
   have HP10:=hidE hP10;have HB10:=hidE hB10;have HS10:=hidE hS10;have HZ2:=hidE z2;have HBL10:=hidE B10
   have HMD:=hidE hmd
   have dz9:=hB9.lt;have df9:=hB9.free 2;have dc9:=hB9.cell 2
   simp at dc9
   clear hu hne h9 e9 e12 hb9 hB9 hP9 hg10 hni hk10 hP10 hB10 hS10 z1 z2 B10 q0 q1 q2 qz b0 b2 b7 bz hmd
   generalize x9.1=w9' at *
   go_upto_region 6 with fail
   rw[←hw10]
   clear hw10 dz9 df9 dc9
   have q0:=HB10.out.cell 0;have q1:=HB10.out.cell 1;have qz:=HB10.out.lt
   have b0:=HBL10.out.cell 0;have b2:=HBL10.out.cell 2;have bz:=HBL10.out.lt
   simp at q0 q1 b0 b2
   have hsl:=look_rows HP10.out.planC r.u
   have HSL:=hidE hsl
   have hlk:=fun (x:Past w10)=>(HP10.out.past x.2).map.lookup (P:=Tryz.prog) (t:=102) (k:=9) (e:=31) Tryz.underlying9 Tryz.underlying102 (Tryz.zeroRows x.1) HYL.out
   obtain ⟨ar,cr,er,_⟩:=id hsl
   rw[er] at HSL hlk
   clear hsl er
   refine wp_region_J 10 [] (nthR [detR (.pointer (some ⟨d,0,none⟩)),detR (.pointer (some ⟨d,0,none⟩)),detR (.pointer (some ⟨d,0,none⟩)),detR (.pointer (some ⟨d,1,none⟩)),detR (.map (some m)),detR (.pointer (some ⟨p5,2,none⟩)),detR (nmV r.u),detR (.slice ar (rows r.u).length cr),detR (.int .i64 (rows r.u).length),detR (.int .i64 0)]) (fun _=>false) (by kernel_rfl) (by decide) (by kernel_rfl) (stab_nth (by intro r hr;simp only[List.mem_cons,List.not_mem_nil,or_false] at hr;rcases hr with rfl | rfl | rfl | rfl | rfl | rfl | rfl | rfl | rfl | rfl<;>first | exact stab_det _)) ?_ ?_ ?_
   ·intro i o hi ho
    match i,hi with
    | 0, _ =>
     obtain rfl:=Option.some.inj ho
     intro u x hd
     have hc:=Past.cell x
     simp[go_sem,gives,frm,Act.put,nthR,detR,Region.wanted,Below.refl]
    | 1, _ =>
     obtain rfl:=Option.some.inj ho
     intro u x hd
     have hc:=Past.cell x
     have d0:=hd 0 (by decide) (by kernel_rfl)
     simp only[nthR,detR,List.getD_cons_zero] at d0
     simp[go_sem,gives,frm,Act.put,nthR,detR,Region.wanted,Below.refl,d0]
    | 2, _ =>
     obtain rfl:=Option.some.inj ho
     intro u x hd
     have hc:=Past.cell x
     have d1:=hd 1 (by decide) (by kernel_rfl)
     simp only[nthR,detR,List.getD_cons_zero,List.getD_cons_succ] at d1
     simp[go_sem,gives,frm,Act.put,nthR,detR,Region.wanted,Below.refl,d1]
    | 3, _ =>
     obtain rfl:=Option.some.inj ho
     intro u x hd
     have hc:=Past.cell x
     have d2:=hd 2 (by decide) (by kernel_rfl)
     simp only[nthR,detR,List.getD_cons_zero,List.getD_cons_succ] at d2
     simp[go_sem,gives,frm,Act.put,nthR,detR,Region.wanted,Below.refl,d2]
    | 4, _ =>
     obtain rfl:=Option.some.inj ho
     intro u x hd
     have hc:=Past.cell x
     have d3:=hd 3 (by decide) (by kernel_rfl)
     simp only[nthR,detR,List.getD_cons_zero,List.getD_cons_succ] at d3
     simp[go_sem,gives,frm,Act.put,nthR,detR,Region.wanted,Below.refl,hc,d3,q1,qz]
    | 5, _ =>
     obtain rfl:=Option.some.inj ho
     intro u x hd
     have hc:=Past.cell x
     simp[go_sem,gives,frm,Act.put,nthR,detR,Region.wanted,Below.refl]
    | 6, _ =>
     obtain rfl:=Option.some.inj ho
     intro u x hd
     have hc:=Past.cell x
     have d5:=hd 5 (by decide) (by kernel_rfl)
     simp only[nthR,detR,List.getD_cons_zero,List.getD_cons_succ] at d5
     simp[go_sem,gives,frm,Act.put,nthR,detR,Region.wanted,Below.refl,hc,d5,b2,bz]
    | 7, _ =>
     obtain rfl:=Option.some.inj ho
     intro u x hd
     have hc:=Past.cell x
     have d4:=hd 4 (by decide) (by kernel_rfl)
     have d6:=hd 6 (by decide) (by kernel_rfl)
     simp only[nthR,detR,List.getD_cons_zero,List.getD_cons_succ] at d4 d6
     have hlk2:=hlk x
     simp[go_sem,gives,frm,Act.put,nthR,Region.wanted,Below.refl,d4,d6,detR,hlk2]
    | 8, _ =>
     obtain rfl:=Option.some.inj ho
     intro u x hd
     have hc:=Past.cell x
     have e7:u 7 = .slice ar (rows r.u).length cr:=hd 7 (by decide) (by kernel_rfl)
     simp[go_sem,gives,frm,Act.put,nthR,Region.wanted,Below.refl,detR,e7]
    | 9, _ =>
     obtain rfl:=Option.some.inj ho
     intro u x hd
     have hc:=Past.cell x
     simp[go_sem,gives,nthR,detR,Region.wanted,Below.refl]
    | i+10,h=>exact absurd h (by omega)
   ·intro i o hx ho
    simp at hx
   ·intro u x9 hu hne
    have e7:u 7 = .slice ar (rows r.u).length cr:=hu 7 (by decide)
    have e8:u 8 = .int .i64 (rows r.u).length:=hu 8 (by decide)
    have e9:u 9 = .int .i64 0:=hu 9 (by decide)
    simp only[frm,List.take,Act.put,e7,e8,e9]
    have hb11:=x9.2
    have HP11:=hidE (HP10.out.past hb11);have HB11:=hidE (HB10.out.past hb11);have HS11:=hidE (stab_ld _ _ _ _ HS10.out hb11);have HBL11:=hidE (HBL10.out.past hb11)
    have HZ11:=hidE (HZ2.out.trans (two_below hb11))
    have hsl:=HSL.out.past hb11
    have hfw:=HP10.out.fewRows r.u
    clear hu hne e7 e8 e9 hb11 hlk HSL q0 q1 qz b0 b2 bz HP10 HB10 HS10 HBL10 HZ2 HSB HS8
    generalize x9.1=W at *
    have HSL:=hidE hsl
    obtain ⟨_,_,e0,hc1,hc2,hc3,hc4,hc5⟩:=id hsl
    cases e0
    have HC4:=hidE hc4;have HFIT:=hidE hc5
    have b0:=HBL11.out.cell 0;have bz:=HBL11.out.lt
    simp at b0
    obtain ⟨ix,hix,hx0,hx1,hx2⟩:=info_parts Tryz.infoRsv
    have HI:=hidE hix;have HZ0:=hidE hx0;have HZ1:=hidE hx1;have HZ2:=hidE hx2
    clear hix hx0 hx1 hx2
    have HMEM:=hidE (fun k (h:k<(rows r.u).length)=>getD_memRw h)
    have HTK:=hidE (fun k (h:k<(rows r.u).length)=>take_filter (id:=r.id) h)
    clear hsl hc3 hc4 hc5
    generalize hrr:rows r.u=RR at *
    have HRR:=hidE hrr
    clear hrr
    go_upto_region 7 with fail
    go_loopw [7,44] (fun sv s wr=>∃ (k:Nat),s = .int .i64 k∧k≤RR.length∧wr.ownsRow W.heap.size 50 8 sv ((RR.take k).filter fun x=>decide (x.id≠r.id)).length (cellsRw ((RR.take k).filter fun x=>decide (x.id≠r.id)))∧Below W.heap.size W wr) (fun _ s _=>RR.length - (intOf s).toNat)
    case atStart=>exact ⟨0,rfl,Nat.zero_le _,own_nil _ _ _,Below.refl _ _⟩
    case round =>
     obtain ⟨k,rfl,hk,ho,hb⟩:=hrel
     have hfl:((RR.take k).filter fun x=>decide (x.id≠r.id)).length≤k:=Nat.le_trans (List.length_filter_le _ _) (by simp;omega)
     have HO:=hidE ho;have HB:=hidE hb
     obtain ⟨av,cv,rfl⟩:=own_sli ho
     by_cases hlt:k<RR.length
     ·obtain ⟨b,off,rfl,hbz,hcc⟩:=HC4.out (by omega)
      have hbr:b<wr.heap.size:=Nat.lt_of_lt_of_le hbz hb.size
      obtain ⟨e0,e1,e2,e3,e4,e5,e6,e7⟩:=hcc.get hlt
      rw[←hb.cell hbz] at e0 e1 e2 e3 e4 e5 e6 e7
      have hft:=HFIT.out _ (HMEM.out k hlt)
      have htk:=HTK.out k hlt
      have b0':=(hb.cell (p:=⟨p5,0,none⟩) bz).trans b0
      have bz':p5<wr.heap.size:=Nat.lt_of_lt_of_le bz hb.size
      generalize hll:(RR.take k).filter (fun x=>decide (x.id≠r.id))=LL at *
      have HLL:=hidE hll
      clear hcc HMEM HC4 HFIT ho hll b0 bz
      generalize RR.getD k rw0=x at *
      obtain ⟨xi',xq',xu',xf',xt',xT,xW,xA⟩:=x
      obtain ⟨⟨a5',n5',c5',z5⟩,⟨a6',n6',c6',z6⟩,⟨a7',n7',c7',z7⟩,hxu⟩:=hft
      simp only at z5 z6 z7 e0 e1 e2 e3 e4 e5 e6 e7 hxu htk
      subst z5 z6 z7
      obtain ⟨w4,hw4⟩:∃ w4,w4=wr.alloc (Obj.cells #[.int .u32 xi',.int .u32 xq',nmV xu',.int .i64 xf',.int .i64 xt',.slice a5' n5' c5',.slice a6' n6' c6',.slice a7' n7' c7'] 50):=⟨_,rfl⟩
      have B4:Blk w4 wr.heap.size #[.int .u32 xi',.int .u32 xq',nmV xu',.int .i64 xf',.int .i64 xt',.slice a5' n5' c5',.slice a6' n6' c6',.slice a7' n7' c7'] 50:=by rw[hw4];exact Blk.made _ _ _
      have hb4:Below wr.heap.size wr w4:=by rw[hw4];exact (Below.refl _ _).alloc (Nat.le_refl _) _
      have HB4:=hidE (hb.trans (hb4.mono hb.size));have HO4:=hidE (own_below HO.out hb4)
      have b0'':=(hb4.cell (p:=⟨p5,0,none⟩) bz').trans b0'
      have bz'':p5<w4.heap.size:=Nat.lt_of_lt_of_le bz' hb4.size
      by_cases heq:xi'=r.id
      ·rw[if_pos heq,List.append_nil] at htk
       have dne:(xi' != r.id)=false:=by rw[bne_eq_false_iff_eq];exact heq
       have HT:=hidE htk
       clear heq htk HTK
       go_upto_region 9 with fail
       rw[←hw4]
       clear hw4 e0 e1 e2 e3 e4 e5 e6 e7 b0' bz' hbr
       have g0:=B4.cell 0;have gz:=B4.lt
       simp at g0
       clear B4 hb4
       go_wp2
       exact ⟨⟨k+1,by go_num,by omega,by rw[HT.out];exact HO4.out,HB4.out⟩,by simp[intOf];omega⟩
      ·rw[if_neg heq] at htk
       have dne:(xi' != r.id)=true:=bne_iff_ne.2 heq
       have HT:=hidE htk
       clear heq htk HTK
       go_upto_region 9 with fail
       rw[←hw4]
       clear hw4 e0 e1 e2 e3 e4 e5 e6 e7 b0' bz' hbr
       have g0:=B4.cell 0;have g1:=B4.cell 1;have g2:=B4.cell 2;have g3:=B4.cell 3;have g4:=B4.cell 4;have g5':=B4.cell 5;have g6':=B4.cell 6;have g7':=B4.cell 7;have gz:=B4.lt
       simp at g0 g1 g2 g3 g4 g5' g6' g7'
       have hz4:=hb4.size;have hz5:=hb.size
       clear B4 hb4
       go_wp2_with (at_builtin;go_loud (refine list_appW rfl (.tmp 53) (.tmp 55) 31 rfl W.heap.size 50 ix _ 8 112 Tryz.underlying31 HI.out HZ0.out HZ1.out HZ2.out rfl (by decide) (.slice av LL.length cv) LL.length (cellsRw LL) rfl (own_below HO4.out (by (repeat (first | exact Below.refl _ _ | assumption | refine balloc ?_ _ | refine below_drewN ?_ _ | refine bstep (by assumption) ?_ | refine bstep (Past.prop _) ?_ | refine Below.setCell ?_ (by first | exact Nat.le_refl _ | (simp;done) | (simp;omega)) _)))) _ 1 [.int .u32 xi',.int .u32 xq',nmV xu',.int .i64 xf',.int .i64 xt',.slice a5' n5' c5',.slice a6' n6' c6',.slice a7' n7' c7'] rfl (srcV_new (Blk.made_at _ _ _ _ (by first | rfl | (simp;done))) rfl (by intro y hy;simp at hy;rcases hy with rfl | rfl | rfl | rfl | rfl | rfl | rfl | rfl<;>rfl)) (by omega) (by omega) (by simp;omega) ?_);intro v' w7 own' hg')
       obtain ⟨w6,hw6⟩:∃ w6,w6=w4.alloc (Obj.cells #[.int .u32 xi',.int .u32 xq',nmV xu',.int .i64 xf',.int .i64 xt',.slice a5' n5' c5',.slice a6' n6' c6',.slice a7' n7' c7'] 50):=⟨_,rfl⟩
       rw[←hw6] at hg'
       have hb6:Below w4.heap.size w4 w6:=by rw[hw6];exact (Below.refl _ _).alloc (Nat.le_refl _) _
       have ho6:=own_below HO4.out hb6
       have hb7:Below W.heap.size W w7:=Below.grown (HB4.out.trans (hb6.mono HB4.out.size)) hg' (by have:=hb6.size;omega) (fun k e=>own_block ho6 e)
       have ho8:w7.ownsRow W.heap.size 50 8 v' (LL++[(⟨xi',xq',xu',xf',xt',.slice a5' n5' c5',.slice a6' n6' c6',.slice a7' n7' c7'⟩:Rw)]).length (cellsRw (LL++[(⟨xi',xq',xu',xf',xt',.slice a5' n5' c5',.slice a6' n6' c6',.slice a7' n7' c7'⟩:Rw)])):=by rw[List.length_append,List.length_singleton,cellsRw_app];exact own'
       rw[←HT.out] at ho8
       have HO8:=hidE ho8;have HB7:=hidE hb7
       obtain ⟨a8,c8,rfl⟩:=own_sli own'
       clear own' hg' hb6 ho6 hb7 ho8 hw6 HO4 HB4
       go_wp2
       exact ⟨⟨k+1,by go_num,by omega,HO8.out,HB7.out⟩,by simp[intOf];omega⟩
     ·have hkl:k=RR.length:=by omega
      have ho9:=HO.out
      rw[List.take_of_length_le (by omega)] at ho9 hfl
      have hP9:=HP11.out.past HB.out
      have hB9:=HB11.out.past HB.out
      have hS9:=stab_ld _ _ _ _ HS11.out HB.out
      have hRf:RwsF wr (RR.filter fun x=>decide (x.id≠r.id)) ((rvs r.u).filter fun x=>decide (x.id≠r.id)):=rwsF_filter (by have:=hP9.vals r.u;rw[HRR.out] at this;exact this)
      obtain ⟨_,hxi,hpe⟩:=hP9.erase HNO.out HR.out
      have hgo:=good_erase HP.out.good i
      rw[←hxi] at hpe
      have hX:SliRw wr (.slice av _ cv) (RR.filter fun x=>decide (x.id≠r.id)):=sliRw_own ho9 (fun x hx=>HFIT.out x (List.mem_filter.1 hx).1)
      have hz9:Two d m w wr:=HZ11.out.trans (two_below HB.out)
      have hus:∀ y∈(rvs r.u).filter (fun x=>decide (x.id≠r.id)),y.u=r.u:=fun y hy=>hP9.user r.u y (List.mem_filter.1 hy).1
      have hsm:∀ y∈L.eraseIdx i,y.small:=fun y hy=>hP9.small y ((List.eraseIdx_sublist L i).subset hy)
      have b9:=HBL11.out.past HB.out
      rw[List.take_of_length_le (by omega)]
      generalize (RR.filter fun x=>decide (x.id≠r.id))=LL at *
      generalize hgR:((rvs r.u).filter fun x=>decide (x.id≠r.id))=R' at *
      have HP9:=hidE hP9;have HB9:=hidE hB9;have HS9:=hidE hS9;have HRF:=hidE hRf;have HPE:=hidE hpe;have HGO:=hidE hgo;have HX:=hidE hX;have HZ9:=hidE hz9;have HUS:=hidE hus;have HSM:=hidE hsm;have HB9':=hidE b9
      clear hP9 hB9 hS9 hRf hpe hgo hX hz9 hus hsm b9 hgR hxi ho9 ho HO HB HMEM HTK HC4 HFIT b0 bz hb hkl
      have q0:=HB9.out.cell 0;have q1:=HB9.out.cell 1;have qz:=HB9.out.lt
      have b2:=HB9'.out.cell 2;have bz:=HB9'.out.lt
      simp at q0 q1 b2
      by_cases hz:LL.length=0
      ·have hR0:R'=[]:=List.eq_nil_of_length_eq_zero (by rw[HRF.out.1];exact hz)
       have dz:((LL.length:Int) == 0)=true:=beq_iff_eq.2 (by omega)
       have HR0:=hidE hR0
       clear hz hR0
       go_upto_region 13 with fail
       refine wp_region_J 7 [] (nthR [detR (.pointer (some ⟨d,0,none⟩)),detR (.pointer (some ⟨d,0,none⟩)),detR (.pointer (some ⟨d,0,none⟩)),detR (.pointer (some ⟨d,1,none⟩)),detR (.map (some m)),detR (.pointer (some ⟨p5,2,none⟩)),detR (nmV r.u)]) (fun _=>false) (by kernel_rfl) (by decide) (by kernel_rfl) (stab_nth (by intro r hr;simp only[List.mem_cons,List.not_mem_nil,or_false] at hr;rcases hr with rfl | rfl | rfl | rfl | rfl | rfl | rfl<;>first | exact stab_det _)) ?_ ?_ ?_
       ·intro i o hi ho
        match i,hi with
        | 0, _ =>
         obtain rfl:=Option.some.inj ho
         intro u x hd
         have hc:=Past.cell x
         simp[go_sem,gives,frm,Act.put,nthR,detR,Region.wanted,Below.refl]
        | 1, _ =>
         obtain rfl:=Option.some.inj ho
         intro u x hd
         have hc:=Past.cell x
         have d0:=hd 0 (by decide) (by kernel_rfl)
         simp only[nthR,detR,List.getD_cons_zero] at d0
         simp[go_sem,gives,frm,Act.put,nthR,detR,Region.wanted,Below.refl,d0]
        | 2, _ =>
         obtain rfl:=Option.some.inj ho
         intro u x hd
         have hc:=Past.cell x
         have d1:=hd 1 (by decide) (by kernel_rfl)
         simp only[nthR,detR,List.getD_cons_zero,List.getD_cons_succ] at d1
         simp[go_sem,gives,frm,Act.put,nthR,detR,Region.wanted,Below.refl,d1]
        | 3, _ =>
         obtain rfl:=Option.some.inj ho
         intro u x hd
         have hc:=Past.cell x
         have d2:=hd 2 (by decide) (by kernel_rfl)
         simp only[nthR,detR,List.getD_cons_zero,List.getD_cons_succ] at d2
         simp[go_sem,gives,frm,Act.put,nthR,detR,Region.wanted,Below.refl,d2]
        | 4, _ =>
         obtain rfl:=Option.some.inj ho
         intro u x hd
         have hc:=Past.cell x
         have d3:=hd 3 (by decide) (by kernel_rfl)
         simp only[nthR,detR,List.getD_cons_zero,List.getD_cons_succ] at d3
         simp[go_sem,gives,frm,Act.put,nthR,detR,Region.wanted,Below.refl,hc,d3,q1,qz]
        | 5, _ =>
         obtain rfl:=Option.some.inj ho
         intro u x hd
         have hc:=Past.cell x
         simp[go_sem,gives,frm,Act.put,nthR,detR,Region.wanted,Below.refl]
        | 6, _ =>
         obtain rfl:=Option.some.inj ho
         intro u x hd
         have hc:=Past.cell x
         have d5:=hd 5 (by decide) (by kernel_rfl)
         simp only[nthR,detR,List.getD_cons_zero,List.getD_cons_succ] at d5
         simp[go_sem,gives,frm,Act.put,nthR,detR,Region.wanted,Below.refl,hc,d5,b2,bz]
        | i+7,h=>exact absurd h (by omega)
       ·intro i o hx ho
        simp at hx
       ·intro u x9 hu hne
        have e4:u 4 = .map (some m):=hu 4 (by decide)
        have e6:u 6=nmV r.u:=hu 6 (by decide)
        simp only[frm,List.take,Act.put,e4,e6]
        have hb13:=x9.2
        have hP13:=HP9.out.past hb13
        have hB13:=HB9.out.past hb13
        obtain ⟨w14,hdel,hM14,hg14,hz14⟩:=hP13.map.delete (P:=Tryz.prog) (t:=102) (k:=9) (e:=31) 0 Tryz.underlying9 Tryz.underlying102 HYL.out
        have hk14:=keepI_grown hg14 (noInt_map hP13.map)
        have hP14:=hP13.del hM14 hg14 (by have:=HPE.out;rw[HR0.out,List.nil_append] at this;exact this) HGO.out HSM.out
        have hD14:Dr w14 d m (.slice a n c) (L.eraseIdx i):=⟨_,_,_,_,hB13.grown hg14 (fun e=>(hP13.map.ne_blk hB13) (by cases e;rfl)),hP14,ldR_keepI (stab_ld _ _ _ _ HS9.out hb13) hk14⟩
        have z1:Two d m w x9.1:=HZ9.out.trans (two_below hb13)
        have z2:Two d m w w14:=z1.trans (two_snd hg14)
        have HQ:=hidE (And.intro z2 hD14)
        clear hu hne e4 e6 hb13 hP13 hB13 hM14 hg14 hz14 hk14 hP14 hD14 z1 z2 q0 q1 qz b2 bz
        generalize x9.1=w13 at *
        go_wp2
        go_ret
        exact ⟨rfl,HQ.out.1,HQ.out.2⟩
      ·have hRn:R'≠[]:=fun e=>hz (by rw[←HRF.out.1,e];rfl)
       have dz:((LL.length:Int) == 0)=false:=by rw[beq_eq_false_iff_ne];omega
       have HRN:=hidE hRn
       clear hz hRn
       go_upto_region 14 with fail
       refine wp_region_J 8 [] (nthR [detR (.pointer (some ⟨d,0,none⟩)),detR (.pointer (some ⟨d,0,none⟩)),detR (.pointer (some ⟨d,0,none⟩)),detR (.pointer (some ⟨d,1,none⟩)),detR (.map (some m)),detR (.pointer (some ⟨p5,2,none⟩)),detR (nmV r.u),detR (.slice av LL.length cv)]) (fun _=>false) (by kernel_rfl) (by decide) (by kernel_rfl) (stab_nth (by intro r hr;simp only[List.mem_cons,List.not_mem_nil,or_false] at hr;rcases hr with rfl | rfl | rfl | rfl | rfl | rfl | rfl | rfl<;>first | exact stab_det _)) ?_ ?_ ?_
       ·intro i o hi ho
        match i,hi with
        | 0, _ =>
         obtain rfl:=Option.some.inj ho
         intro u x hd
         have hc:=Past.cell x
         simp[go_sem,gives,frm,Act.put,nthR,detR,Region.wanted,Below.refl]
        | 1, _ =>
         obtain rfl:=Option.some.inj ho
         intro u x hd
         have hc:=Past.cell x
         have d0:=hd 0 (by decide) (by kernel_rfl)
         simp only[nthR,detR,List.getD_cons_zero] at d0
         simp[go_sem,gives,frm,Act.put,nthR,detR,Region.wanted,Below.refl,d0]
        | 2, _ =>
         obtain rfl:=Option.some.inj ho
         intro u x hd
         have hc:=Past.cell x
         have d1:=hd 1 (by decide) (by kernel_rfl)
         simp only[nthR,detR,List.getD_cons_zero,List.getD_cons_succ] at d1
         simp[go_sem,gives,frm,Act.put,nthR,detR,Region.wanted,Below.refl,d1]
        | 3, _ =>
         obtain rfl:=Option.some.inj ho
         intro u x hd
         have hc:=Past.cell x
         have d2:=hd 2 (by decide) (by kernel_rfl)
         simp only[nthR,detR,List.getD_cons_zero,List.getD_cons_succ] at d2
         simp[go_sem,gives,frm,Act.put,nthR,detR,Region.wanted,Below.refl,d2]
        | 4, _ =>
         obtain rfl:=Option.some.inj ho
         intro u x hd
         have hc:=Past.cell x
         have d3:=hd 3 (by decide) (by kernel_rfl)
         simp only[nthR,detR,List.getD_cons_zero,List.getD_cons_succ] at d3
         simp[go_sem,gives,frm,Act.put,nthR,detR,Region.wanted,Below.refl,hc,d3,q1,qz]
        | 5, _ =>
         obtain rfl:=Option.some.inj ho
         intro u x hd
         have hc:=Past.cell x
         simp[go_sem,gives,frm,Act.put,nthR,detR,Region.wanted,Below.refl]
        | 6, _ =>
         obtain rfl:=Option.some.inj ho
         intro u x hd
         have hc:=Past.cell x
         have d5:=hd 5 (by decide) (by kernel_rfl)
         simp only[nthR,detR,List.getD_cons_zero,List.getD_cons_succ] at d5
         simp[go_sem,gives,frm,Act.put,nthR,detR,Region.wanted,Below.refl,hc,d5,b2,bz]
        | 7, _ =>
         obtain rfl:=Option.some.inj ho
         intro u x hd
         have hc:=Past.cell x
         simp[go_sem,gives,frm,Act.put,nthR,detR,Region.wanted,Below.refl]
        | i+8,h=>exact absurd h (by omega)
       ·intro i o hx ho
        simp at hx
       ·intro u x9 hu hne
        have e4:u 4 = .map (some m):=hu 4 (by decide)
        have e6:u 6=nmV r.u:=hu 6 (by decide)
        have e7:u 7 = .slice av LL.length cv:=hu 7 (by decide)
        simp only[frm,List.take,Act.put,e4,e6,e7]
        have hb13:=x9.2
        have hP13:=HP9.out.past hb13
        have hB13:=HB9.out.past hb13
        obtain ⟨w14,hup,hM14,hg14,hz14⟩:=hP13.map.update (P:=Tryz.prog) (t:=102) (k:=9) (e:=31) Tryz.underlying9 Tryz.underlying102 HYL.out (.slice av LL.length cv)
        have hk14:=keepI_grown hg14 (noInt_map hP13.map)
        have hP14:=hP13.put hM14 hg14 ((HX.out.past hb13).keepI hk14) ((HRF.out.past hb13).keepI hk14) HRN.out HUS.out HPE.out HGO.out HSM.out
        have hD14:Dr w14 d m (.slice a n c) (L.eraseIdx i):=⟨_,_,_,_,hB13.grown hg14 (fun e=>(hP13.map.ne_blk hB13) (by cases e;rfl)),hP14,ldR_keepI (stab_ld _ _ _ _ HS9.out hb13) hk14⟩
        have z1:Two d m w x9.1:=HZ9.out.trans (two_below hb13)
        have z2:Two d m w w14:=z1.trans (two_snd hg14)
        have HQ:=hidE (And.intro z2 hD14)
        clear hu hne e4 e6 e7 hb13 hP13 hB13 hM14 hg14 hz14 hk14 hP14 hD14 z1 z2 q0 q1 qz b2 bz
        generalize x9.1=w13 at *
        go_wp2
        go_ret
        exact ⟨rfl,HQ.out.1,HQ.out.2⟩
end
end Go.Proofs.YtcmponckjkalaaaGreat
