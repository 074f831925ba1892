/- Package plan: changes made at once: all or none. No conditions but the sizes. Slices that are handed in, of elements of any kind; reservations and rows of changes that are handed in. No conditions. Slices that are handed in, with their data: how long a row inside a slice of slices may be by the form's own reach. No conditions. Package plan: a copy of a plan. No conditions .. -/
import Derived.Test.YtcmponckjkalaaaGreatPUGS
import Derived.Test.YtcmponckjkalaaaGreatPUGA
import Derived.SizedLaws
namespace Go.Proofs.YtcmponckjkalaaaGreat
section
open Go.ChangeShapes Go.WideShapes Go.ChangeAt Go.RowKit
attribute [local irreducible] Go.Calls
abbrev Cw:=Int × Rw
def cw0:Cw:=(0,rw0)
abbrev cwCells (q:Cw):List Value := .int .u8 q.1 :: q.2.cells
def SliCh (w:World) (v:Value) (l:List Cw):Prop:=∃ (a:Option Addr) (cap:Nat),v = .slice a l.length cap∧l.length≤cap∧cap≤9223372036854775807 ∧
 (0<l.length→∃ b off,a=some ⟨b,off,none⟩∧b<w.heap.size∧∀ i j,i<l.length→j<9→w.cell? ⟨b,off+i * 9+j,none⟩=(cwCells (l.getD i cw0))[j]?)
theorem SliCh.past {w w':World} {v:Value} {l:List Cw} (h:SliCh w v l) (hb:Below w.heap.size w w'):SliCh w' v l:=by
 obtain ⟨a,cap,e,h1,h2,h3⟩:=h
 refine ⟨a,cap,e,h1,h2,fun hl => ?_⟩
 obtain ⟨b,off,e2,h6,h7⟩:=h3 hl
 exact ⟨b,off,e2,Nat.lt_of_lt_of_le h6 hb.size,fun i j hi hj=>(hb.cell (p:=⟨b,_,none⟩) h6).trans (h7 i j hi hj)⟩
structure ChsF (w:World) (l:List Cw) (cs:List (Int × Rv)):Prop where
 len:cs.length=l.length
 kd:∀ i,i<l.length→(l.getD i cw0).1=(cs.getD i (0,rv0)).1∧0≤(l.getD i cw0).1∧(l.getD i cw0).1≤255
 rv:∀ i,i<l.length→RwF w (l.getD i cw0).2 (cs.getD i (0,rv0)).2
 small:∀ i,i<l.length→(cs.getD i (0,rv0)).2.small
theorem ChsF.past {w w':World} {l:List Cw} {cs:List (Int × Rv)} (h:ChsF w l cs) (hb:Below w.heap.size w w'):ChsF w' l cs:=⟨h.len,h.kd,fun i hi=>(h.rv i hi).past hb,h.small⟩
structure Pl (w:World) (p:Nat) (L:List Rv) (C:List Sg):Prop where
 has:∃ m vc U rows rvs,Blk w p #[vc,.map (some m)] 106∧SliF3 w vc C∧Body w m U rows rvs L
theorem Pl.past {w w':World} {p:Nat} {L:List Rv} {C:List Sg} (h:Pl w p L C) (hb:Below w.heap.size w w'):Pl w' p L C:=by
 obtain ⟨m,vc,U,rows,rvs,h1,h2,h3⟩:=h.has
 exact ⟨m,vc,U,rows,rvs,h1.past hb,h2.past hb,h3.past hb⟩
theorem Pl.lt {w:World} {p:Nat} {L:List Rv} {C:List Sg} (h:Pl w p L C):p<w.heap.size:=by
 obtain ⟨m,vc,U,rows,rvs,h1,h2,h3⟩:=h.has
 exact h1.lt
theorem Pl.good {w:World} {p:Nat} {L:List Rv} {C:List Sg} (h:Pl w p L C):GoodL L:=by
 obtain ⟨m,vc,U,rows,rvs,h1,h2,h3⟩:=h.has
 exact h3.good
theorem Pl.noInt {w:World} {p:Nat} {L:List Rv} {C:List Sg} (h:Pl w p L C):NoInt w p:=by
 obtain ⟨m,vc,U,rows,rvs,h1,⟨⟨a,c,rfl,_⟩,_⟩,h3⟩:=h.has
 exact noInt_two h1
theorem Pl.other {w w':World} {p q:Nat} {L:List Rv} {C:List Sg} (h:Pl w p L C) (hg:w.grownBy w' (some q)) (hn:NoInt w q) (hpq:p≠q) {cs:Array Value} {t:TypeId} (hq:Blk w q cs t):Pl w' p L C:=by
 obtain ⟨m,vc,U,rows,rvs,h1,h2,h3⟩:=h.has
 exact ⟨m,vc,U,rows,rvs,h1.grown hg (by simp;omega),h2.keepI (keepI_grown hg hn),h3.keepI hg hn (h3.map.ne_blk hq)⟩
theorem runS_ok_take {cs:List (Int × Rv)} {L:List Rv} {k:Nat} (hk:k<cs.length) (h:(runS L (cs.take k)).2=0):runS L (cs.take (k+1))=if (oneS (runS L (cs.take k)).1 (cs.getD k (0,rv0)).1 (cs.getD k (0,rv0)).2).2=0 then oneS (runS L (cs.take k)).1 (cs.getD k (0,rv0)).1 (cs.getD k (0,rv0)).2 else ((runS L (cs.take k)).1,(oneS (runS L (cs.take k)).1 (cs.getD k (0,rv0)).1 (cs.getD k (0,rv0)).2).2):=by
 rw[List.take_succ_eq_append_getElem hk,runS_snoc _ _ _ h,List.getD_eq_getElem?_getD,List.getElem?_eq_getElem hk];rfl
theorem doP_bad {cs:List (Int × Rv)} {L:List Rv} {k:Nat} {e:Int} (_hk:k≤cs.length) (h:(runS L (cs.take k)).2=e) (he:e≠0):doP L cs=(L,e):=by
 have h2:(runS L cs).2=e:=by
  have:=runS_bad (cs.take k) (cs.drop k) L (by rw[h];exact he)
  rw[List.take_append_drop] at this
  rw[this,h]
 unfold doP
 rw[if_neg (by rw[h2];exact he),h2]
def lstR (rows:List UInt8→List Rw) (U:List Ent):Value→World→Prop:=fun v w=>∃ l,SliRw w v l∧l.Perm (allRw rows U)
theorem stab_lst (rows:List UInt8→List Rw) (U:List Ent):Stab (lstR rows U):=fun _ _ _ ⟨l,h,hp⟩ hb=>⟨l,h.past hb,hp⟩
def ldP (M:List (List Sg)):Value→World→Prop:=fun v w=>ldR M v w
def drvR (vc:Value) (B:Nat) (U:List Ent) (M:List (List Sg)):Value→World→Prop:=fun v w=>∃ m vs,v = .agg #[vc,.map (some m),vs]∧B≤m∧MapU w m U∧ldR M vs w
theorem stab_drv (vc:Value) (B:Nat) (U:List Ent) (M:List (List Sg)):Stab (drvR vc B U M):=fun _ _ _ ⟨m,vs,e,h1,h2,h3⟩ hb=>⟨m,vs,e,h1,h2.past hb,stab_ld _ _ _ _ h3 hb⟩
theorem Body.load {w:World} {m:Nat} {U:List Ent} {rows:List UInt8→List Rw} {rvs:List UInt8→List Rv} {L:List Rv} (h:Body w m U rows rvs L) {v:Value} {l:List Rw} (hv:SliRw w v l) (hp:l.Perm (allRw rows U)):Calls Tryz.prog 53 #[v] w (LoadIs w (fnsS L)):=by
 obtain ⟨R,hRp,hRF⟩:=rwsF_perm hp.symm _ (rwsF_all h.vals U)
 have hRL:R.Perm L:=hRp.trans h.perm
 have hok:∀ r∈R,r.ok=true:=fun r hr=>h.good.ok r (hRL.mem_iff.1 hr)
 have hl:l.length≤128:=by rw[hp.length_eq,h.all_len];exact h.good.few
 have hlen:=lenR_le hok
 have hRl:=hRF.1
 refine (load_c l.length l (fnsS R) v w (Nat.le_refl _) hv hRF.fns (fns_pos hok) (inR_perm (hRL.symm.map (·.A)) h.good.inR) (by omega) (by omega)).mono ?_
 rintro e w' ⟨v',rfl,h1,h2⟩
 exact ⟨v',rfl,ldR_perm (L:=fnsS R) (M:=fnsS L) (List.Perm.map Rv.A hRL) h1,h2⟩
def DoIs (w:World) (p:Nat) (L:List Rv) (C:List Sg) (cs:List (Int × Rv)) (e:Ending) (w':World):Prop:=e = .returned (.int .i64 (doP L cs).2)∧w.grownBy w' (some p)∧Pl w' p (doP L cs).1 C∧((doP L cs).2≠0→Below w.heap.size w w')
set_option maxRecDepth 100000 in
set_option maxHeartbeats 16000000 in
theorem do_c {p:Nat} {L:List Rv} {C:List Sg} {v:Value} {l:List Cw} {cs:List (Int × Rv)} (w:World) (hP:Pl w p L C) (hv:SliCh w v l) (hc:ChsF w l cs) (hl:l.length≤1000000) :
  Calls Tryz.prog 15 #[.pointer (some ⟨p,0,none⟩),v] w (DoIs w p L C cs):=by
 obtain ⟨m,vc,U,rows,rvs,hB,hC,hBd⟩:=hP.has
 obtain ⟨ac,cc,evc,_⟩:=id hC.1
 subst evc
 obtain ⟨av,cv,rfl,hv1,hv2,hv3⟩:=hv
 have HMD:=hidE (made_c w hB)
 have HB:=hidE hB;have HC:=hidE hC;have HBD:=hidE hBd;have HV3:=hidE hv3;have HCS:=hidE hc
 have HPL:=hidE hP
 clear hP hB hC hBd hv3 hc
 go_enter Tryz.func15,Tryz.ntmps15
 go_wp2_with fail
 ((with_reducible refine (HMD.out).mono ?_);rintro e w1 ⟨rfl,hb1⟩)
 have hB1:=HB.out.past hb1
 have q0:=hB1.cell 0;have q1:=hB1.cell 1;have qz:=hB1.lt
 simp at q0 q1
 have HBD1:=hidE (HBD.out.past hb1);have HB1:=hidE hb1
 clear hB1 hb1 HMD
 go_upto_region 3 with fail
 have HLL:=hidE (show (allRw rows U).length≤100000000 from by rw[HBD1.out.all_len];have:=HBD1.out.good.few;omega)
 refine wp_region_J 13 [] (nthR [detR (.pointer (some ⟨p,0,none⟩)),detR (.pointer (some ⟨p,0,none⟩)),detR (.pointer (some ⟨p,0,none⟩)),detR (ctV (.slice ac C.length cc) m),ctR (.slice ac C.length cc) w1.heap.size U,detR (.pointer (some ⟨p,0,none⟩)),detR (.pointer (some ⟨p,0,none⟩)),detR (.pointer (some ⟨p,0,none⟩)),detR (ctV (.slice ac C.length cc) m),lstR rows U,ldP (fnsS L),drvR (.slice ac C.length cc) w1.heap.size U (fnsS L),newR w1.heap.size #[.slice none 0 0,.map none,.slice none 0 0] 112]) (fun _=>false) (by kernel_rfl) (by decide) (by kernel_rfl) (stab_nth (by intro r hr;simp only[List.mem_cons,List.not_mem_nil,or_false] at hr;rcases hr with rfl | rfl | rfl | rfl | rfl | rfl | rfl | rfl | rfl | rfl | rfl | rfl | rfl<;>first | exact stab_det _ | exact stab_ct _ _ _ | exact stab_lst _ _ | exact stab_ld _ | exact stab_drv _ _ _ _ | exact stab_new _ _ _)) ?_ ?_ ?_
 ·intro i o hi ho
  match i,hi with
  | 0, _ =>
   obtain rfl:=Option.some.inj ho
   intro u x hd
   have hc:=Past.cell x
   simp[go_sem,gives,frm,Act.put,nthR,detR,Region.wanted,Below.refl]
  | 1, _ =>
   obtain rfl:=Option.some.inj ho
   intro u x hd
   have hc:=Past.cell x
   have d0:=hd 0 (by decide) (by kernel_rfl)
   simp only[nthR,detR,List.getD_cons_zero] at d0
   simp[go_sem,gives,frm,Act.put,nthR,detR,Region.wanted,Below.refl,d0]
  | 2, _ =>
   obtain rfl:=Option.some.inj ho
   intro u x hd
   have hc:=Past.cell x
   have d1:=hd 1 (by decide) (by kernel_rfl)
   simp only[nthR,detR,List.getD_cons_zero,List.getD_cons_succ] at d1
   simp[go_sem,gives,frm,Act.put,nthR,detR,Region.wanted,Below.refl,d1]
  | 3, _ =>
   obtain rfl:=Option.some.inj ho
   intro u x hd
   have hc:=Past.cell x
   have d2:=hd 2 (by decide) (by kernel_rfl)
   simp only[nthR,detR,List.getD_cons_zero,List.getD_cons_succ] at d2
   simp[go_sem,gives,frm,Act.put,nthR,detR,Region.wanted,Below.refl,hc,d2,q0,q1,qz]
  | 4, _ =>
   obtain rfl:=Option.some.inj ho
   intro u x hd
   have hc:=Past.cell x
   have d3:=hd 3 (by decide) (by kernel_rfl)
   simp only[nthR,detR,List.getD_cons_zero,List.getD_cons_succ] at d3
   simp[go_sem,gives,frm,Act.put,nthR,Region.wanted,d3]
   (with_reducible refine (shared_c ac C.length cc _ (HBD1.out.past (Past.prop x)).map).mono ?_);rintro e w3 ⟨m2,rfl,h1,h2,hb3⟩;exact ⟨_,rfl,hb3,⟨m2,rfl,Nat.le_trans (Past.prop x).size h2,h1⟩⟩
  | 5, _ =>
   obtain rfl:=Option.some.inj ho
   intro u x hd
   have hc:=Past.cell x
   simp[go_sem,gives,frm,Act.put,nthR,detR,Region.wanted,Below.refl]
  | 6, _ =>
   obtain rfl:=Option.some.inj ho
   intro u x hd
   have hc:=Past.cell x
   have d5:=hd 5 (by decide) (by kernel_rfl)
   simp only[nthR,detR,List.getD_cons_zero,List.getD_cons_succ] at d5
   simp[go_sem,gives,frm,Act.put,nthR,detR,Region.wanted,Below.refl,d5]
  | 7, _ =>
   obtain rfl:=Option.some.inj ho
   intro u x hd
   have hc:=Past.cell x
   have d6:=hd 6 (by decide) (by kernel_rfl)
   simp only[nthR,detR,List.getD_cons_zero,List.getD_cons_succ] at d6
   simp[go_sem,gives,frm,Act.put,nthR,detR,Region.wanted,Below.refl,d6]
  | 8, _ =>
   obtain rfl:=Option.some.inj ho
   intro u x hd
   have hc:=Past.cell x
   have d7:=hd 7 (by decide) (by kernel_rfl)
   simp only[nthR,detR,List.getD_cons_zero,List.getD_cons_succ] at d7
   simp[go_sem,gives,frm,Act.put,nthR,detR,Region.wanted,Below.refl,hc,d7,q0,q1,qz]
  | 9, _ =>
   obtain rfl:=Option.some.inj ho
   intro u x hd
   have hc:=Past.cell x
   have d8:=hd 8 (by decide) (by kernel_rfl)
   simp only[nthR,detR,List.getD_cons_zero,List.getD_cons_succ] at d8
   simp[go_sem,gives,frm,Act.put,nthR,Region.wanted,d8]
   (with_reducible refine (list_c sortC (.slice ac C.length cc) _ (HBD1.out.past (Past.prop x)).map (HBD1.out.past (Past.prop x)).ok HLL.out).mono ?_);rintro e w3 ⟨v,l2,rfl,hb3,hp,_,ho⟩;exact ⟨_,rfl,hb3,⟨l2,sliRw_own ho (fun y hy=>HBD1.out.ok.fits y (hp.mem_iff.1 hy)),hp⟩⟩
  | 10, _ =>
   obtain rfl:=Option.some.inj ho
   intro u x hd
   have hc:=Past.cell x
   have h9:∃ l2,SliRw x.1 (u 9) l2∧l2.Perm (allRw rows U):=hd 9 (by decide) (by kernel_rfl)
   have hs9:=h9.choose_spec.1;have hp9:=h9.choose_spec.2;generalize h9.choose=l2 at *
   obtain ⟨a9,c9,e9,_⟩:=id hs9
   rw[e9] at hs9
   simp[go_sem,gives,frm,Act.put,nthR,Region.wanted,e9]
   (with_reducible refine ((HBD1.out.past (Past.prop x)).load hs9 hp9).mono ?_);rintro e w3 ⟨v,rfl,h1,hb3⟩;exact ⟨_,rfl,hb3,h1⟩
  | 11, _ =>
   obtain rfl:=Option.some.inj ho
   intro u x hd
   have hc:=Past.cell x
   have h4:∃ m2,u 4=ctV (.slice ac C.length cc) m2∧w1.heap.size≤m2∧MapU x.1 m2 U:=hd 4 (by decide) (by kernel_rfl)
   have e4:=h4.choose_spec.1;have hm4:=h4.choose_spec.2;generalize h4.choose=m2 at *
   have h10:ldR (fnsS L) (u 10) x.1:=hd 10 (by decide) (by kernel_rfl)
   obtain ⟨a10,n10,c10,e10⟩:=ldR_sli h10
   rw[e10] at h10
   simp[go_sem,gives,frm,Act.put,nthR,Region.wanted,Below.refl,e4,e10]
   exact ⟨m2,_,rfl,hm4.1,hm4.2,h10⟩
  | 12, _ =>
   obtain rfl:=Option.some.inj ho
   intro u x hd
   have hc:=Past.cell x
   simp[go_sem,gives,nthR,Region.wanted]
   exact ⟨by (repeat (first | exact Below.refl _ _ | assumption | refine balloc ?_ _ | refine below_drewN ?_ _ | refine bstep (by assumption) ?_ | refine bstep (Past.prop _) ?_ | refine Below.setCell ?_ (by first | exact Nat.le_refl _ | (simp;done) | (simp;omega)) _)),⟨_,rfl,(Past.prop x).size,Blk.made _ _ _⟩⟩
  | i+13,h=>exact absurd h (by omega)
 ·intro i o hx ho
  simp at hx
 ·intro u x9 hu hne
  obtain ⟨d,e12,hdz,BD⟩:newR w1.heap.size #[.slice none 0 0,.map none,.slice none 0 0] 112 (u 12) x9.1:=hu 12 (by decide)
  obtain ⟨m2,vs,e11,hmz,hM2,hld⟩:drvR (.slice ac C.length cc) w1.heap.size U (fnsS L) (u 11) x9.1:=hu 11 (by decide)
  obtain ⟨a0,n0,c0,rfl⟩:=ldR_sli hld
  simp only[frm,List.take,Act.put,e11,e12]
  have hbd9:=HBD1.out.past x9.2
  obtain ⟨w8,hw8⟩:∃ w8,w8=(((x9.1.setCell ⟨d,0,none⟩ (.slice ac C.length cc)).setCell ⟨d,1,none⟩ (.map (some m2))).setCell ⟨d,2,none⟩ (.slice a0 n0 c0)):=⟨_,rfl⟩
  have hg8:x9.1.grownBy w8 (some d):=by rw[hw8];exact grown_trans (grown_trans (grown_set _ _ _ _) (grown_set _ _ _ _)) (grown_set _ _ _ _)
  have hni:NoInt x9.1 d:=noInt_three BD
  have hbd8:Body w8 m2 U rows rvs L:=({ hbd9 with map:=hM2 }:Body x9.1 m2 U rows rvs L).keepI hg8 hni (hM2.ne_blk BD)
  have B8:Blk w8 d #[.slice ac C.length cc,.map (some m2),.slice a0 n0 c0] 112:=by
   rw[hw8]
   simpa using ((BD.set 0 (.slice ac C.length cc)).set 1 (.map (some m2))).set 2 (.slice a0 n0 c0)
  have hD8:Dr w8 d m2 (.slice ac C.length cc) L:=⟨U,rows,rvs,_,B8,hbd8,ldR_keepI hld (keepI_grown hg8 hni)⟩
  have z1:Below w.heap.size w x9.1:=HB1.out.trans (x9.2.mono HB1.out.size)
  have z2:Below w.heap.size w w8:=Below.grown z1 hg8 z1.size (fun k e=>by cases e;have:=HB1.out.size;omega)
  have HD8:=hidE hD8;have HZ2:=hidE z2
  have HDZ:=hidE (show w.heap.size≤d from by have:=HB1.out.size;omega);have HMZ:=hidE (show w.heap.size≤m2 from by have:=HB1.out.size;omega)
  have r0:=BD.cell 0;have r1:=BD.cell 1;have r2:=BD.cell 2;have rf:=BD.free;have rz:=BD.lt
  simp at r0 r1 r2
  clear hu hne e11 e12 hM2 hld hbd9 hg8 hni hbd8 B8 hD8 z1 z2 BD q0 q1 qz HBD1 HB1 HBD HLL hdz hmz
  generalize x9.1=w9 at *
  go_upto_region 5 with fail
  rw[←hw8]
  clear hw8 r0 r1 r2 rf rz
  go_loopw [26] (fun s wr=>∃ (k:Nat),s = .int .i64 k∧k≤l.length∧(runS L (cs.take k)).2=0∧Dr wr d m2 (.slice ac C.length cc) (runS L (cs.take k)).1∧Below w.heap.size w wr) (fun s _=>l.length - (intOf s).toNat)
  case atStart=>exact ⟨0,rfl,Nat.zero_le _,rfl,HD8.out,HZ2.out⟩
  case round =>
   obtain ⟨k,rfl,hk,hr0,hDk,hbk⟩:=hrel
   have HR0:=hidE hr0;have HDK:=hidE hDk;have HBK:=hidE hbk
   by_cases hlt:k<l.length
   ·obtain ⟨b,off,rfl,hbz,hcc⟩:=HV3.out (by omega)
    have hlc:k<cs.length:=by rw[HCS.out.len];exact hlt
    have hst:=runS_ok_take hlc hr0
    have hx:=(HCS.out.rv k hlt).past hbk
    have hsm:=HCS.out.small k hlt
    obtain ⟨hkd,hk0,hk5⟩:=HCS.out.kd k hlt
    have hbr:b<wr.heap.size:=Nat.lt_of_lt_of_le hbz hbk.size
    have e0:=hcc k 0 hlt (by omega);have e1:=hcc k 1 hlt (by omega);have e2:=hcc k 2 hlt (by omega);have e3:=hcc k 3 hlt (by omega);have e4:=hcc k 4 hlt (by omega);have e5:=hcc k 5 hlt (by omega);have e6:=hcc k 6 hlt (by omega);have e7:=hcc k 7 hlt (by omega);have e8:=hcc k 8 hlt (by omega)
    rw[←hbk.cell hbz] at e0 e1 e2 e3 e4 e5 e6 e7 e8
    rw[←hkd] at hst
    generalize hq:cs.getD k (0,rv0)=q at *
    generalize l.getD k cw0=y at *
    obtain ⟨kd,x⟩:=y
    simp only[cwCells,Rw.cells] at e0 e1 e2 e3 e4 e5 e6 e7 e8
    simp at e0 e1 e2 e3 e4 e5 e6 e7 e8
    simp only at hk0 hk5 hx hst
    clear hkd
    have hxf:=hx.fit (by have:=hsm.2.2.2;unfold maxLen;omega)
    obtain ⟨xi,xq,xu,xf,xt,xT,xW,xA⟩:=x
    obtain ⟨⟨a5,n5,c5,q5⟩,⟨a6,n6,c6,q6⟩,⟨a7,n7,c7,q7⟩,_⟩:=hxf
    simp only at q5 q6 q7 e0 e1 e2 e3 e4 e5 e6 e7 e8
    subst q5 q6 q7
    obtain ⟨w4,hw4⟩:∃ w4,w4=wr.alloc (Obj.cells #[.int .u8 kd,.int .u32 xi,.int .u32 xq,nmV xu,.int .i64 xf,.int .i64 xt,.slice a5 n5 c5,.slice a6 n6 c6,.slice a7 n7 c7] 52):=⟨_,rfl⟩
    have B4:Blk w4 wr.heap.size #[.int .u8 kd,.int .u32 xi,.int .u32 xq,nmV xu,.int .i64 xf,.int .i64 xt,.slice a5 n5 c5,.slice a6 n6 c6,.slice a7 n7 c7] 52:=by rw[hw4];exact Blk.made _ _ _
    have hb4:Below wr.heap.size wr w4:=by rw[hw4];exact (Below.refl _ _).alloc (Nat.le_refl _) _
    have HCG:=hidE (change_c w4 (hDk.past hb4) (hx.past hb4) hsm hk0 hk5)
    have HB4:=hidE (hbk.trans (hb4.mono hbk.size))
    have HST:=hidE hst
    have HLC:=hidE hlc
    go_upto_region 7 with fail
    rw[←hw4]
    clear hw4
    have b0:=B4.cell 0;have b1:=B4.cell 1;have b2:=B4.cell 2;have b3:=B4.cell 3;have b4:=B4.cell 4;have b5:=B4.cell 5;have b6:=B4.cell 6;have b7:=B4.cell 7;have b8:=B4.cell 8;have bz:=B4.lt
    simp at b0 b1 b2 b3 b4 b5 b6 b7 b8
    clear e0 e1 e2 e3 e4 e5 e6 e7 e8 B4 hb4 hx hsm hst hcc hDk hbk hr0 hk0 hk5 hlc HD8 hq
    go_wp2_with fail
    ((with_reducible refine (HCG.out).mono ?_);rintro e w5 ⟨hb5,rfl,hd5⟩)
    have HB5:=hidE (HB4.out.trans (hb5.below HDZ.out HMZ.out HB4.out.size))
    have HD5:=hidE hd5
    clear hb5 hd5 b0 b1 b2 b3 b4 b5 b6 b7 b8 bz HCG
    generalize oneS (runS L (cs.take k)).1 kd q.2=z at *
    by_cases hz:z.2=0
    ·have dz:(z.2 != 0)=false:=by rw[bne_eq_false_iff_eq];exact hz
     have hd5:=HD5.out hz
     have hst:=HST.out
     rw[if_pos hz] at hst
     have HQ:=hidE (And.intro hst (And.intro hz hd5))
     clear hz hd5 hst
     go_wp2
     exact ⟨⟨k+1,by go_num,by omega,by rw[HQ.out.1];exact HQ.out.2.1,by rw[HQ.out.1];exact HQ.out.2.2,HB5.out⟩,by simp[intOf];omega⟩
    ·have dz:(z.2 != 0)=true:=bne_iff_ne.2 hz
     have hst:=HST.out
     rw[if_neg hz] at hst
     have HQ:=hidE (doP_bad (L:=L) (cs:=cs) (k:=k+1) (e:=z.2) (by have:=HLC.out;omega) (by rw[hst]) hz)
     have HPP:=hidE (HPL.out.past HB5.out)
     clear hz hst
     go_wp2
     go_ret
     unfold DoIs
     rw[HQ.out]
     exact ⟨rfl,grown_any HB5.out,HPP.out,fun _=>HB5.out⟩
   ·have hkl:k=l.length:=by omega
    have hr0:=HR0.out
    have hDk:=HDK.out
    rw[List.take_of_length_le (by rw[HCS.out.len];omega)] at hr0 hDk
    have hdo:doP L cs=runS L cs:=by unfold doP;rw[if_pos hr0]
    obtain ⟨U2,rows2,rvs2,vs2,hBd2,hP2,_⟩:=hDk.has
    have hBp:=HB.out.past HBK.out
    obtain ⟨wf,hwf⟩:∃ wf,wf=(wr.setCell ⟨p,0,none⟩ (.slice ac C.length cc)).setCell ⟨p,1,none⟩ (.map (some m2)):=⟨_,rfl⟩
    have hgf:wr.grownBy wf (some p):=by rw[hwf];exact grown_trans (grown_set _ _ _ _) (grown_set _ _ _ _)
    have hni:NoInt wr p:=noInt_two hBp
    have hPf:=hP2.keepI hgf hni (hP2.map.ne_blk hBp)
    have hBf:Blk wf p #[.slice ac C.length cc,.map (some m2)] 106:=by
     rw[hwf]
     simpa using (hBp.set 0 (.slice ac C.length cc)).set 1 (.map (some m2))
    have hCf:=(HC.out.past HBK.out).keepI (keepI_grown hgf hni)
    have HQ:=hidE (show DoIs w p L C cs (.returned (.int .i64 0)) wf from by
     unfold DoIs
     rw[hdo,hr0]
     exact ⟨rfl,grown_trans (grown_any HBK.out) hgf,⟨_,_,_,_,_,hBf,hCf,hPf⟩,fun h=>absurd rfl h⟩)
    have d0:=hBd2.cell 0;have d1:=hBd2.cell 1;have dz:=hBd2.lt
    have p0:=hBp.cell 0;have p1:=hBp.cell 1;have pf:=hBp.free;have pz:=hBp.lt
    simp at d0 d1 p0 p1
    rw[hwf] at HQ
    clear hkl hr0 hDk hdo hP2 hgf hni hPf hBf hCf hBd2 hBp hwf HD8 hbk
    go_wp2
    go_ret
    exact HQ.out
end
section
open Go.ChangeShapes Go.WideShapes Go.ChangeAt Go.RowKit
section
variable {H:Type} {enc:TypeId × Value→H} {P:Program}
theorem addr_add (b x y:Nat):(⟨b,x,none⟩:Addr).add y=⟨b,x+y,none⟩:=by
 unfold Addr.add
 by_cases c:y=0
 ·subst c;simp
 ·simp[c]
theorem trod_sli {ts e:TypeId} {sz:Nat} {W:World} {cs:List Value} {x:DataW H × List MemPlace} {fuel:Nat} (hs:P.underlying ts=some (.slice e)) (ce:P.cellsOf e=sz) (h0:0<sz) (hf:DataW.trod enc P W 0 (fun _=>true) true fuel ts cs=some x) :
  ∃ (n : Nat) (a : Option Addr) (cap : Nat) (g : Nat → List Value), cs = [.slice a n cap] ∧ n ≤ cap ∧ cap ≤ 9223372036854775807 ∧ (a = none → n = 0 ∧ cap = 0) ∧
    (∀ i,i<n→(g i).length=sz∧∃ k y,DataW.trod enc P W 0 (fun _=>true) true k e (g i)=some y) ∧
    (0<n→∃ b off,a=some ⟨b,off,none⟩∧b<W.heap.size∧∀ i j,i<n→j<sz→W.cell? ⟨b,off+i * sz+j,none⟩=(g i)[j]?):=by
 rcases Deep.open_slice hs hf with ⟨hcs,_⟩ | ⟨a',len,cap,m,n,D,Pl,hcs,_,hlc,hcm,hm,_,hx⟩
 ·exact ⟨0,none,0,fun _=>[],hcs,by omega,by omega,fun _=>⟨rfl,rfl⟩,fun i hi=>by omega,fun h=>by omega⟩
 ·have hlen:len≤m:=by rw[hm];simpa using hlc
  have each:∀ i,i<len→∃ l:List Value,(l.length=sz∧(∃ k y,DataW.trod enc P W 0 (fun _=>true) true k e l=some y))∧∀ j,j<sz→W.cell? ((a'.add (i * sz)).add j)=l[j]? := fun i hi'=>by
   obtain ⟨cs',hc,ht⟩:=hx i (by omega)
   rw[ce] at hc
   obtain ⟨_,hcl,hat⟩:=World.cells?_some hc
   refine ⟨cs',⟨hcl,_,_,ht⟩,fun j hj => ?_⟩
   exact hat j hj
  obtain ⟨F,hF⟩:=Deep.choose_lt each
  refine ⟨len,some a',cap,F,hcs,by omega,by unfold maxLen at hcm;omega,(fun e=>by cases e),fun i hi=>(hF i hi).1,fun hl => ?_⟩
  have hc00:=(hF 0 hl).2 0 h0
  rw[List.getElem?_eq_getElem (by rw[(hF 0 hl).1.1];exact h0)] at hc00
  obtain ⟨b,off,spot⟩:=a'
  have hsp:spot=none:=by
   cases spot with
   | none=>rfl
   | some s=>simp[Addr.add,World.cell?] at hc00;split at hc00<;>simp at hc00
  subst hsp
  have hb:b<W.heap.size:=by
   apply Nat.lt_of_not_le
   intro hge
   simp[Addr.add,World.cell?,Array.getElem?_eq_none hge] at hc00
  refine ⟨b,off,rfl,hb,fun i j hi hj => ?_⟩
  have:=(hF i hi).2 j hj
  rw[addr_add,addr_add] at this
  exact this
end
section
variable {H:Type} {enc:TypeId × Value→H} {W:World}
set_option maxRecDepth 100000 in
theorem cellsOp:Tryz.prog.cellsOf 169=5∧Tryz.prog.cellsOf 172=2∧Tryz.prog.cellsOf 100=3∧Tryz.prog.cellsOf 60=2∧Tryz.prog.cellsOf 47=3∧Tryz.prog.cellsOf 50=8∧Tryz.prog.cellsOf 52=9∧Tryz.prog.cellsOf 9=1∧Tryz.prog.cellsOf 45=1∧Tryz.prog.cellsOf 48=1∧Tryz.prog.cellsOf 22=1∧Tryz.prog.cellsOf 37=1 :=
 ⟨by kernel_rfl,by kernel_rfl,by kernel_rfl,by kernel_rfl,by kernel_rfl,by kernel_rfl,by kernel_rfl,by kernel_rfl,by kernel_rfl,by kernel_rfl,by kernel_rfl,by kernel_rfl⟩
abbrev Tr (enc:TypeId × Value→H) (W:World) (k:Nat) (t:TypeId) (cs:List Value) (y:DataW H × List MemPlace):Prop:=DataW.trod enc Tryz.prog W 0 (fun _=>true) true k t cs=some y
set_option maxRecDepth 100000 in
theorem el_part {cs:List Value} {k:Nat} {y:DataW H × List MemPlace} (h:Tr enc W k 169 cs y) (hl:cs.length=5):∃ x:Prt,cs=[.int .u8 x.kind,.int .u32 x.n,.int .u32 x.g,.int .i64 x.d,.int .i64 x.kids]:=by
 obtain ⟨ys,n',_,_,hl1,hyl,hfs⟩:=DataW.trod_struct Tryz.underlying169 h
 have h0:=hfs 0 _ rfl
 have h1:=hfs 1 _ rfl
 have h2:=hfs 2 _ rfl
 have h3:=hfs 3 _ rfl
 have h4:=hfs 4 _ rfl
 simp only[List.getElem_toArray,List.getElem_cons_zero,List.getElem_cons_succ] at h0 h1 h2 h3 h4
 simp only[cells4.1,cells4.2.1,cells4.2.2.1,cells4.2.2.2] at h0 h1 h2 h3 h4
 match cs,hl with
 | [c0, c1, c2, c3, c4], _ =>
  match ys,hyl with
  | [y0, y1, y2, y3, y4], _ =>
   simp at h0 h1 h2 h3 h4
   obtain ⟨z0,e0,_,w0⟩:=DataW.trod_int Tryz.underlying5 h0
   obtain ⟨z1,e1,_,w1⟩:=DataW.trod_int Tryz.underlying44 h1
   obtain ⟨z2,e2,_,w2⟩:=DataW.trod_int Tryz.underlying44 h2
   obtain ⟨z3,e3,_,w3⟩:=DataW.trod_int Tryz.underlying2 h3
   obtain ⟨z4,e4,_,w4⟩:=DataW.trod_int Tryz.underlying3 h4
   simp at e0 e1 e2 e3 e4
   subst e0 e1 e2 e3 e4
   have b0:=wfU8 w0
   have b1:=wfU32 w1
   have b2:=wfU32 w2
   exact ⟨⟨z0.toNat,z1.toNat,z2.toNat,z3,z4⟩,by simp only[Int.toNat_of_nonneg b0.1,Int.toNat_of_nonneg b1.1,Int.toNat_of_nonneg b2.1]⟩
set_option maxRecDepth 100000 in
theorem el_piece {cs:List Value} {k:Nat} {y:DataW H × List MemPlace} (h:Tr enc W k 172 cs y) (hl:cs.length=2):∃ x:Int × Int,cs=[.int .i64 x.1,.int .i64 x.2]:=by
 obtain ⟨ys,n',_,_,hl1,hyl,hfs⟩:=DataW.trod_struct Tryz.underlying172 h
 have h0:=hfs 0 _ rfl
 have h1:=hfs 1 _ rfl
 simp only[List.getElem_toArray,List.getElem_cons_zero,List.getElem_cons_succ] at h0 h1
 simp only[cells4.2.2.1,cells4.2.2.2] at h0 h1
 match cs,hl with
 | [c0, c1], _ =>
  match ys,hyl with
  | [y0, y1], _ =>
   simp at h0 h1
   obtain ⟨z0,e0,_,w0⟩:=DataW.trod_int Tryz.underlying3 h0
   obtain ⟨z1,e1,_,w1⟩:=DataW.trod_int Tryz.underlying2 h1
   simp at e0 e1
   subst e0 e1
   exact ⟨(z0,z1),rfl⟩
set_option maxRecDepth 100000 in
theorem el_seg {cs:List Value} {k:Nat} {y:DataW H × List MemPlace} (h:Tr enc W k 100 cs y) (hl:cs.length=3):∃ x:Sg,cs=[.int .i64 x.1,.int .i64 x.2.1,.int .i64 x.2.2]:=by
 obtain ⟨ys,n',_,_,hl1,hyl,hfs⟩:=DataW.trod_struct Tryz.underlying100 h
 have h0:=hfs 0 _ rfl
 have h1:=hfs 1 _ rfl
 simp only[List.getElem_toArray,List.getElem_cons_zero,List.getElem_cons_succ] at h0 h1
 simp only[cells4.2.2.1,cellsOp.2.2.2.1] at h0 h1
 match cs,hl with
 | [c0, c1, c2], _ =>
  match ys,hyl with
  | [y0, y1], _ =>
   simp at h0 h1
   obtain ⟨z0,e0,_,w0⟩:=DataW.trod_int Tryz.underlying2 h0
   obtain ⟨zs,n2,_,_,hl2,hzl,hgs⟩:=DataW.trod_struct Tryz.underlying60 h1
   have k0:=hgs 0 _ rfl
   have k1:=hgs 1 _ rfl
   simp only[List.getElem_toArray,List.getElem_cons_zero,List.getElem_cons_succ] at k0 k1
   simp only[cells4.2.2.1] at k0 k1
   match zs,hzl with
   | [q0, q1], _ =>
    simp at k0 k1
    obtain ⟨z1,e1,_,w1⟩:=DataW.trod_int Tryz.underlying2 k0
    obtain ⟨z2,e2,_,w2⟩:=DataW.trod_int Tryz.underlying2 k1
    simp at e0 e1 e2
    subst e0 e1 e2
    exact ⟨(z0,z1,z2),rfl⟩
omit H enc in
theorem srcV_of {sz n cap:Nat} {a:Option Addr} {ys:List Value} (h0:0<sz) (hy:ys.length=n * sz) (h1:∀ u∈ys,u.oneCell'=true) (hn:a=none→n=0∧cap=0) (hc:0<n→∃ b off,a=some ⟨b,off,none⟩∧∀ i j,i<n→j<sz→W.cell? ⟨b,off+i * sz+j,none⟩=ys[i * sz+j]?):SrcV W sz (.slice a n cap) n ys:=by
 refine ⟨a,cap,rfl,hn,hy,h1,fun ad ha j u hu => ?_⟩
 have hj:j<n * sz:=by
  obtain ⟨hlt,_⟩:=List.getElem?_eq_some_iff.1 hu
  omega
 have hn0:0<n:=by
  rcases Nat.eq_zero_or_pos n with h | h
  ·subst h;simp at hj
  ·exact h
 obtain ⟨b,off,e,hcc⟩:=hc hn0
 rw[ha] at e
 cases e
 have hd:j / sz<n:=Nat.div_lt_of_lt_mul (by rw[Nat.mul_comm];exact hj)
 have:=hcc (j / sz) (j % sz) hd (Nat.mod_lt _ h0)
 have e2:j / sz * sz+j % sz=j:=by rw[Nat.mul_comm];exact Nat.div_add_mod j sz
 rw[addr_add,show off+j=off+j / sz * sz+j % sz from by omega,this,e2]
 exact hu
set_option maxRecDepth 100000 in
theorem sliP_of {cs:List Value} {k:Nat} {y:DataW H × List MemPlace} (h:Tr enc W k 45 cs y):∃ (v:Value) (l:List Prt),cs=[v]∧SliP W v l∧SrcV W 5 v l.length (cellsOfP l):=by
 obtain ⟨n,a,cap,g,rfl,h1,h2,h3,h4,h5⟩:=trod_sli (P:=Tryz.prog) Tryz.underlying45 (sz:=5) cellsOp.1 (by omega) h
 have each:∀ i,i<n→∃ x:Prt,g i=[.int .u8 x.kind,.int .u32 x.n,.int .u32 x.g,.int .i64 x.d,.int .i64 x.kids]:=fun i hi=>by
  obtain ⟨hl,k',y',ht⟩:=h4 i hi
  exact el_part ht hl
 obtain ⟨F,hF⟩:=Deep.choose_lt each
 have hget:∀ i,i<n→((List.range n).map F).getD i pr0=F i:=fun i hi=>by simp[List.getD_eq_getElem?_getD,hi]
 have hln:((List.range n).map F).length=n:=by simp
 refine ⟨.slice a n cap,(List.range n).map F,rfl,⟨a,cap,by rw[hln],by rw[hln];exact h1,h2,fun hp => ?_⟩, ?_⟩
 ·rw[hln] at hp
  obtain ⟨b,off,e,hb,hc⟩:=h5 hp
  refine ⟨b,off,e,hb,fun i hi => ?_⟩
  rw[hln] at hi
  rw[hget i hi]
  have hf:=hF i hi
  have c0:=hc i 0 hi (by omega);have c1:=hc i 1 hi (by omega);have c2:=hc i 2 hi (by omega);have c3:=hc i 3 hi (by omega);have c4:=hc i 4 hi (by omega)
  rw[hf] at c0 c1 c2 c3 c4
  simp at c0 c1 c2 c3 c4
  exact ⟨c0,c1,c2,c3,c4⟩
 ·rw[hln]
  refine srcV_of (by omega) (by rw[cellsOfP_len,hln]) (cellsOfP_one _) h3 fun hp => ?_
  obtain ⟨b,off,e,hb,hc⟩:=h5 hp
  refine ⟨b,off,e,fun i j hi hj => ?_⟩
  have hg:=cellsOfP_get ((List.range n).map F) i (by rw[hln];exact hi)
  rw[hget i hi] at hg
  rw[hc i j hi hj,hF i hi]
  match j,hj with
  | 0,_=>exact hg.1.symm
  | 1,_=>exact hg.2.1.symm
  | 2,_=>exact hg.2.2.1.symm
  | 3,_=>exact hg.2.2.2.1.symm
  | 4,_=>exact hg.2.2.2.2.symm
set_option maxRecDepth 100000 in
theorem sliVs_of {cs:List Value} {k:Nat} {y:DataW H × List MemPlace} (h:Tr enc W k 48 cs y):∃ (v:Value) (l:List (Int × Int)),cs=[v]∧SliVs W v l∧SrcV W 2 v l.length (cellsOfV l):=by
 obtain ⟨n,a,cap,g,rfl,h1,h2,h3,h4,h5⟩:=trod_sli (P:=Tryz.prog) Tryz.underlying48 (sz:=2) cellsOp.2.1 (by omega) h
 have each:∀ i,i<n→∃ x:(Int × Int),g i=[.int .i64 x.1,.int .i64 x.2]:=fun i hi=>by
  obtain ⟨hl,k',y',ht⟩:=h4 i hi
  exact el_piece ht hl
 obtain ⟨F,hF⟩:=Deep.choose_lt each
 have hget:∀ i,i<n→((List.range n).map F).getD i (0,0)=F i:=fun i hi=>by simp[List.getD_eq_getElem?_getD,hi]
 have hln:((List.range n).map F).length=n:=by simp
 refine ⟨.slice a n cap,(List.range n).map F,rfl,⟨a,cap,by rw[hln],by rw[hln];exact h1,h2,fun hp => ?_⟩, ?_⟩
 ·rw[hln] at hp
  obtain ⟨b,off,e,hb,hc⟩:=h5 hp
  refine ⟨b,off,e,hb,fun i hi => ?_⟩
  rw[hln] at hi
  rw[hget i hi]
  have hf:=hF i hi
  have c0:=hc i 0 hi (by omega);have c1:=hc i 1 hi (by omega)
  rw[hf] at c0 c1
  simp at c0 c1
  exact ⟨c0,c1⟩
 ·rw[hln]
  refine srcV_of (by omega) (by rw[cellsOfV_len,hln]) (cellsOfV_one _) h3 fun hp => ?_
  obtain ⟨b,off,e,hb,hc⟩:=h5 hp
  refine ⟨b,off,e,fun i j hi hj => ?_⟩
  have hg:=cellsOfV_get ((List.range n).map F) i (by rw[hln];exact hi)
  rw[hget i hi] at hg
  rw[hc i j hi hj,hF i hi]
  match j,hj with
  | 0,_=>exact hg.1.symm
  | 1,_=>exact hg.2.symm
set_option maxRecDepth 100000 in
theorem sliS_of {cs:List Value} {k:Nat} {y:DataW H × List MemPlace} (h:Tr enc W k 22 cs y):∃ (v:Value) (l:List Sg),cs=[v]∧SliS W v l∧SrcV W 3 v l.length (cellsOfS l):=by
 obtain ⟨n,a,cap,g,rfl,h1,h2,h3,h4,h5⟩:=trod_sli (P:=Tryz.prog) Tryz.underlying22 (sz:=3) cellsOp.2.2.1 (by omega) h
 have each:∀ i,i<n→∃ x:Sg,g i=[.int .i64 x.1,.int .i64 x.2.1,.int .i64 x.2.2]:=fun i hi=>by
  obtain ⟨hl,k',y',ht⟩:=h4 i hi
  exact el_seg ht hl
 obtain ⟨F,hF⟩:=Deep.choose_lt each
 have hget:∀ i,i<n→((List.range n).map F).getD i (0,0,0)=F i:=fun i hi=>by simp[List.getD_eq_getElem?_getD,hi]
 have hln:((List.range n).map F).length=n:=by simp
 refine ⟨.slice a n cap,(List.range n).map F,rfl,⟨a,cap,by rw[hln],by rw[hln];exact h1,h2,fun hp => ?_⟩, ?_⟩
 ·rw[hln] at hp
  obtain ⟨b,off,e,hb,hc⟩:=h5 hp
  refine ⟨b,off,e,hb,fun i hi => ?_⟩
  rw[hln] at hi
  rw[hget i hi]
  have hf:=hF i hi
  have c0:=hc i 0 hi (by omega);have c1:=hc i 1 hi (by omega);have c2:=hc i 2 hi (by omega)
  rw[hf] at c0 c1 c2
  simp at c0 c1 c2
  exact ⟨c0,c1,c2⟩
 ·rw[hln]
  refine srcV_of (by omega) (by rw[cellsOfS_len,hln]) (cellsOfS_one _) h3 fun hp => ?_
  obtain ⟨b,off,e,hb,hc⟩:=h5 hp
  refine ⟨b,off,e,fun i j hi hj => ?_⟩
  have hg:=cellsOfS_get ((List.range n).map F) i (by rw[hln];exact hi)
  unfold ats vls at hg
  rw[hget i hi] at hg
  rw[hc i j hi hj,hF i hi]
  match j,hj with
  | 0,_=>exact hg.1.symm
  | 1,_=>exact hg.2.1.symm
  | 2,_=>exact hg.2.2.symm
set_option maxRecDepth 100000 in
set_option maxHeartbeats 2000000 in
theorem el_rsv {cs:List Value} {k:Nat} {y:DataW H × List MemPlace} (h:Tr enc W k 50 cs y) (hl:cs.length=8):∃ (x:Rw) (r:Rv),cs=x.cells∧RwF W x r∧r.u.length≤maxLen:=by
 obtain ⟨ys,n',_,_,hl1,hyl,hfs⟩:=DataW.trod_struct Tryz.underlying50 h
 have h0:=hfs 0 _ rfl
 have h1:=hfs 1 _ rfl
 have h2:=hfs 2 _ rfl
 have h3:=hfs 3 _ rfl
 have h4:=hfs 4 _ rfl
 have h5:=hfs 5 _ rfl
 simp only[List.getElem_toArray,List.getElem_cons_zero,List.getElem_cons_succ] at h0 h1 h2 h3 h4 h5
 simp only[cells4.2.1,cellsOp.2.2.2.2.2.2.2.1,cellsOp.2.2.2.2.1,cellsOp.2.2.2.2.2.2.2.2.2.1,cellsOp.2.2.2.2.2.2.2.2.2.2.1] at h0 h1 h2 h3 h4 h5
 match cs,hl with
 | [c0, c1, c2, c3, c4, c5, c6, c7], _ =>
  match ys,hyl with
  | [y0, y1, y2, y3, y4, y5], _ =>
   simp at h0 h1 h2 h3 h4 h5
   obtain ⟨z0,e0,_,w0⟩:=DataW.trod_int Tryz.underlying44 h0
   obtain ⟨z1,e1,_,w1⟩:=DataW.trod_int Tryz.underlying44 h1
   obtain ⟨s2,e2,_,w2⟩:=DataW.trod_string Tryz.underlying9 h2
   obtain ⟨zs,n2,_,_,hl2,hzl,hgs⟩:=DataW.trod_struct Tryz.underlying47 h3
   have k0:=hgs 0 _ rfl
   have k1:=hgs 1 _ rfl
   have k2:=hgs 2 _ rfl
   simp only[List.getElem_toArray,List.getElem_cons_zero,List.getElem_cons_succ] at k0 k1 k2
   simp only[cells4.2.2.1,cellsOp.2.2.2.2.2.2.2.2.1] at k0 k1 k2
   match zs,hzl with
   | [q0, q1, q2], _ =>
    simp at k0 k1 k2
    obtain ⟨z3,e3,_,w3⟩:=DataW.trod_int Tryz.underlying2 k0
    obtain ⟨z4,e4,_,w4⟩:=DataW.trod_int Tryz.underlying2 k1
    obtain ⟨vT,lT,eT,hT,hTs⟩:=sliP_of k2
    obtain ⟨vW,lW,eW,hW,hWs⟩:=sliVs_of h4
    obtain ⟨vA,lA,eA,hA,hAs⟩:=sliS_of h5
    simp at e0 e1 e2 e3 e4 eT eW eA
    subst e0 e1 e2 e3 e4 eT eW eA
    refine ⟨⟨z0,z1,s2.data.toList,z3,z4,_,_,_⟩,⟨z0,z1,s2.data.toList,z3,z4,lT,lW,lA⟩,rfl,⟨rfl,rfl,rfl,rfl,rfl,hT,hTs,hW,hWs,hA,hAs⟩, ?_⟩
    show s2.data.toList.length≤maxLen
    rw[Array.length_toList]
    exact w2
set_option maxRecDepth 100000 in
theorem el_change {cs:List Value} {k:Nat} {y:DataW H × List MemPlace} (h:Tr enc W k 52 cs y) (hl:cs.length=9):∃ (q:Cw) (c:Int × Rv),cs=cwCells q∧q.1=c.1∧(0≤q.1∧q.1≤255)∧RwF W q.2 c.2∧c.2.u.length≤maxLen:=by
 obtain ⟨ys,n',_,_,hl1,hyl,hfs⟩:=DataW.trod_struct Tryz.underlying52 h
 have h0:=hfs 0 _ rfl
 have h1:=hfs 1 _ rfl
 simp only[List.getElem_toArray,List.getElem_cons_zero,List.getElem_cons_succ] at h0 h1
 simp only[cells4.1,cellsOp.2.2.2.2.2.1] at h0 h1
 match cs,hl with
 | [c0, c1, c2, c3, c4, c5, c6, c7, c8], _ =>
  match ys,hyl with
  | [y0, y1], _ =>
   simp at h0 h1
   obtain ⟨z0,e0,_,w0⟩:=DataW.trod_int Tryz.underlying5 h0
   obtain ⟨x,r,ex,hx,hu⟩:=el_rsv h1 rfl
   simp only[List.cons.injEq,and_true] at e0
   subst e0
   exact ⟨(z0,x),(z0,r),by rw[ex],rfl,wfU8 w0,hx,hu⟩
end
end
section
open Go.ChangeShapes Go.WideShapes Go.ChangeAt Go.RowKit
section
variable {H:Type} {enc:TypeId × Value→H} {P:Program}
theorem trod_sliD {ts e:TypeId} {sz:Nat} {W:World} {cs:List Value} {x:DataW H × List MemPlace} {fuel:Nat} (hs:P.underlying ts=some (.slice e)) (ce:P.cellsOf e=sz) (h0:0<sz) (hf:DataW.trod enc P W 0 (fun _=>true) true fuel ts cs=some x) :
  ∃ (n : Nat) (a : Option Addr) (cap : Nat) (g : Nat → List Value) (D : Nat → DataW H), cs = [.slice a n cap] ∧ n ≤ cap ∧ cap ≤ 9223372036854775807 ∧ (a = none → n = 0 ∧ cap = 0) ∧
    (n=0∨∃ el sp,x.1 = .slice el sp∧el.length=n∧∀ i,i<n→D i∈el) ∧
    (∀ i,i<n→(g i).length=sz∧∃ k y,DataW.trod enc P W 0 (fun _=>true) true k e (g i)=some y∧y.1=D i) ∧
    (0<n→∃ b off,a=some ⟨b,off,none⟩∧b<W.heap.size∧∀ i j,i<n→j<sz→W.cell? ⟨b,off+i * sz+j,none⟩=(g i)[j]?):=by
 rcases Deep.open_slice hs hf with ⟨hcs,_⟩ | ⟨a',len,cap,m,n,D,Pl,hcs,_,hlc,hcm,hm,hxe,hx⟩
 ·exact ⟨0,none,0,fun _=>[],fun _ => .nil,hcs,by omega,by omega,fun _=>⟨rfl,rfl⟩,.inl rfl,fun i hi=>by omega,fun h=>by omega⟩
 ·have hlen:len≤m:=by rw[hm];simpa using hlc
  have each:∀ i,i<len→∃ l:List Value,(l.length=sz∧(∃ k y,DataW.trod enc P W 0 (fun _=>true) true k e l=some y∧y.1=D i))∧∀ j,j<sz→W.cell? ((a'.add (i * sz)).add j)=l[j]? := fun i hi'=>by
   obtain ⟨cs',hc,ht⟩:=hx i (by omega)
   rw[ce] at hc
   obtain ⟨_,hcl,hat⟩:=World.cells?_some hc
   refine ⟨cs',⟨hcl,_,_,ht,rfl⟩,fun j hj => ?_⟩
   exact hat j hj
  obtain ⟨F,hF⟩:=Deep.choose_lt each
  refine ⟨len,some a',cap,F,D,hcs,by omega,by unfold maxLen at hcm;omega,(fun e=>by cases e),.inr ⟨_,_,by rw[hxe],by simp,fun i hi=>List.mem_map.2 ⟨i,List.mem_range.2 hi,rfl⟩⟩,fun i hi=>(hF i hi).1,fun hl => ?_⟩
  have hc00:=(hF 0 hl).2 0 h0
  rw[List.getElem?_eq_getElem (by rw[(hF 0 hl).1.1];exact h0)] at hc00
  obtain ⟨b,off,spot⟩:=a'
  have hsp:spot=none:=by
   cases spot with
   | none=>rfl
   | some s=>simp[Addr.add,World.cell?] at hc00;split at hc00<;>simp at hc00
  subst hsp
  have hb:b<W.heap.size:=by
   apply Nat.lt_of_not_le
   intro hge
   simp[Addr.add,World.cell?,Array.getElem?_eq_none hge] at hc00
  refine ⟨b,off,rfl,hb,fun i j hi hj => ?_⟩
  have:=(hF i hi).2 j hj
  rw[addr_add,addr_add] at this
  exact this
theorem weights_all_mem {e:TypeId}:∀ {l:List (DataW H)} {d:DataW H},d∈l→∀ n∈d.weights P e,n∈DataW.weightsAll P e l
 | d' :: r, d, hd, n, hn => by
   simp only[DataW.weightsAll,List.mem_append]
   rcases List.mem_cons.1 hd with rfl | h
   ·exact .inl hn
   ·exact .inr (weights_all_mem h n hn)
theorem reach_row {ts:List TypeId} {ds:List (DataW H)} (h:(DataW.weightsEach P ts ds).all (·≤reachBytes)=true) {j:Nat} {t e q:TypeId} {el sp el' sp':List (DataW H)}
  (ht:ts[j]? = some t) (hd:ds[j]? = some (.slice el sp)) (hu:P.underlying t=some (.slice e)) (hu2:P.underlying e=some (.slice q)) (hx:DataW.slice el' sp'∈el):(el'.length+sp'.length) * P.bytesOf q≤reachBytes:=by
 refine of_decide_eq_true (List.all_eq_true.1 h _ (DataW.weights_mem_each ht hd _ ?_))
 simp only[DataW.weights,hu,List.mem_cons,List.mem_append]
 exact .inr (.inl (weights_all_mem hx _ (by simp[DataW.weights,hu2])))
end
end
section
open Go.ChangeShapes Go.WideShapes Go.ChangeAt Go.RowKit
attribute [local irreducible] Go.Calls
theorem noInt_iter {w:World} {r m:Nat} {U done:List Ent} (h:RngU w r m U done):NoInt w r:=fun o k i e=>by
 obtain ⟨es,clock,since,seen,c0,_,_,_,_,_,_,h7,_⟩:=h
 simp[World.cell?,h7] at e
structure CpI (W w:World) (r m m':Nat) (U done U':List Ent) (rows':List UInt8→List Rw) (rvs:List UInt8→List Rv):Prop where
 rng:RngU w r m U done
 map:MapU w m' U'
 keys:U'.map (·.1)=done.map (·.1)
 ok:RowsOk w U' rows'
 vals:∀ p∈U',RwsF w (rows' p.1) (rvs p.1)
 base:Below W.heap.size W w
theorem CpI.body {W w:World} {r m m':Nat} {U done U':List Ent} {rows rows':List UInt8→List Rw} {rvs:List UInt8→List Rv} {L:List Rv} (h:CpI W w r m m' U done U' rows' rvs) (hB:Body w m U rows rvs L) (hp:done.Perm U) :
  Body w m' U' (fun s=>if s∈U'.map (·.1) then rows' s else []) rvs L:=by
 have hk:(U'.map (·.1)).Perm (U.map (·.1)):=by rw[h.keys];exact hp.map _
 have hin:∀ p∈U',p.1∈U'.map (·.1):=fun p hp=>List.mem_map.2 ⟨p,hp,rfl⟩
 refine ⟨h.map,fun p hp => ?_,fun s hs => ?_,fun p hp => ?_,fun s => ?_,hB.user, ?_,hB.good,hB.small⟩
 ·rw[if_pos (hin p hp)];exact h.ok p hp
 ·refine hB.gone s fun p hp e => ?_
  obtain ⟨q,hq,e2⟩:=List.mem_map.1 (hk.mem_iff.2 (List.mem_map.2 ⟨p,hp,rfl⟩))
  exact hs q hq (e2.trans e)
 ·obtain ⟨q,hq,e2⟩:=List.mem_map.1 (hk.mem_iff.1 (hin p hp))
  rw[←e2];exact hB.full q hq
 ·by_cases c:s∈U'.map (·.1)
  ·rw[if_pos c]
   obtain ⟨p,hp,rfl⟩:=List.mem_map.1 c
   exact h.vals p hp
  ·rw[if_neg c]
   have:rvs s=[]:=hB.gone s fun p hp e=>c (hk.mem_iff.2 (List.mem_map.2 ⟨p,hp,e⟩))
   rw[this];exact rwsF_nil w
 ·rw[all_keys]
  have h2:=hB.perm
  rw[all_keys] at h2
  exact (hk.flatMap_right _).trans h2
def CopyP (w:World) (L:List Rv) (C:List Sg) (e:Ending) (w':World):Prop:=∃ q,e = .returned (.pointer (some ⟨q,0,none⟩))∧w.heap.size≤q∧Pl w' q L C∧Below w.heap.size w w'
def rowN (R:List Rv):Value→World→Prop:=fun v w=>∃ l,SliRw w v l∧RwsF w l R
theorem stab_rowN (R:List Rv):Stab (rowN R):=fun _ _ _ ⟨l,h,hf⟩ hb=>⟨l,h.past hb,hf.past hb⟩
set_option maxRecDepth 100000 in
set_option maxHeartbeats 16000000 in
theorem copy_c {p:Nat} {L:List Rv} {C:List Sg} (w:World) (hP:Pl w p L C) (hl:C.length≤1000000000) :
  Calls Tryz.prog 20 #[.pointer (some ⟨p,0,none⟩)] w (CopyP w L C):=by
 obtain ⟨m,vc,U,rows,rvs,hB,hC,hBd⟩:=hP.has
 obtain ⟨ac,cc,evc,_⟩:=id hC.1
 subst evc
 have HMD:=hidE (made_c w hB)
 have HB:=hidE hB;have HC:=hidE hC;have HBD:=hidE hBd
 clear hP hB hC hBd
 have hmk:=Tryz.makeRows
 go_enter Tryz.func20,Tryz.ntmps20
 go_wp2_with fail
 ((with_reducible refine (HMD.out).mono ?_);rintro e w1 ⟨rfl,hb1⟩)
 have hB1:=HB.out.past hb1
 have q0:=hB1.cell 0;have q1:=hB1.cell 1;have qz:=hB1.lt
 simp at q0 q1
 have HBD1:=hidE (HBD.out.past hb1);have HB1:=hidE hb1;have HP1:=hidE hB1
 have HCP:=hidE (copiedSeg_c (HC.out.past hb1).2 (by omega))
 clear hB1 hb1 HMD
 go_wp2_with fail
 ((with_reducible refine (HCP.out).mono ?_);rintro e w2 ⟨vk,rfl,ho,hb2⟩)
 obtain ⟨ak,ck,rfl⟩:=own_sli ho
 have hCk:SliF3 w2 (.slice ak C.length ck) C:=sliF3_own ho
 have hz1:=HB1.out.size;have hz2:=hb2.size
 obtain ⟨n2,hn2⟩:∃ n2,n2=w2.heap.size:=⟨_,rfl⟩
 obtain ⟨w3,hw3⟩:∃ w3,w3=(w2.alloc (.map #[] 0)).alloc (Obj.cells #[.slice ak C.length ck,.map (some w2.heap.size)] 104):=⟨_,rfl⟩
 have B3:Blk w3 (n2+1) #[.slice ak C.length ck,.map (some n2)] 104:=by rw[hw3,hn2];exact Blk.made_at _ _ _ _ (by simp)
 have hM3:MapU w3 n2 []:=by rw[hw3,hn2];exact (MapU.made w2).alloc _
 have hb3:Below w2.heap.size w2 w3:=by rw[hw3];(repeat (first | exact Below.refl _ _ | assumption | refine balloc ?_ _ | refine below_drewN ?_ _ | refine bstep (by assumption) ?_ | refine bstep (Past.prop _) ?_ | refine Below.setCell ?_ (by first | exact Nat.le_refl _ | (simp;done) | (simp;omega)) _))
 have hz3:w3.heap.size=n2+2:=by rw[hw3,hn2];simp
 have hb13:Below w1.heap.size w1 w3:=hb2.trans (hb3.mono hz2)
 have HC3:=hidE (hCk.past hb3);have HB3:=hidE B3;have HM3:=hidE hM3;have HBD3:=hidE (HBD1.out.past hb13)
 have HW3:=hidE (HB1.out.trans (hb13.mono HB1.out.size))
 have HN2:=hidE (show w.heap.size≤n2 from by omega);have HMN:=hidE (show m<n2 from by have:=HBD1.out.map.lt;omega)
 have p0:=(hb13.cell (p:=⟨p,0,none⟩) qz).trans q0;have p1:=(hb13.cell (p:=⟨p,1,none⟩) qz).trans q1;have pz:p<w3.heap.size:=Nat.lt_of_lt_of_le qz hb13.size
 clear ho hb2 hCk hb3 hb13 B3 hM3 q0 q1 qz HCP
 go_upto_region 4 with fail
 rw[←hw3]
 rw[←hn2]
 clear hw3
 have HZ3:=hidE hz3
 clear hz3 hz1 hz2 hn2
 go_wp2_with (at_range;refine list_range_U rfl _ 102 9 31 rfl Tryz.underlying102 rfl HBD3.out.map ?_;intro w4 hr4 hg4 hz4)
 go_frame
 have hz3:=HZ3.out
 rw[hz3] at hr4 hz4
 rw[hz3]
 have hb4:Below w3.heap.size w3 w4:=Below.grown (Below.refl _ _) hg4 (Nat.le_refl _) (fun k e=>by cases e)
 have H0:CpI w w4 (n2+2) m n2 U [] [] (fun _=>[]) rvs:=⟨hr4,HM3.out.past hb4,rfl,fun p hp=>by simp at hp,fun p hp=>by simp at hp,HW3.out.trans (hb4.mono HW3.out.size)⟩
 have HB4:=hidE (HB3.out.past hb4);have HC4:=hidE (HC3.out.past hb4);have HBD4:=hidE (HBD3.out.past hb4)
 have H0':=hidE H0
 clear hr4 hg4 hz4 hb4 hz3 H0 p0 p1 pz HM3 HZ3 HC3 HB3 HBD3 HW3
 go_loopw [4] (fun _ wr=>∃ done U' rows',CpI w wr (n2+2) m n2 U done U' rows' rvs∧Blk wr (n2+1) #[.slice ak C.length ck,.map (some n2)] 104∧SliF3 wr (.slice ak C.length ck) C∧Body wr m U rows rvs L) (fun _ wr=>U.length - seenN wr (n2+2))
 case atStart=>exact ⟨[],[],_,H0'.out,HB4.out,HC4.out,HBD4.out⟩
 case round =>
  obtain ⟨done,U',rows',hI,hBk,hCk,hBd⟩:=hrel
  have HI:=hidE hI;have HBK:=hidE hBk;have HCK:=hidE hCk;have HBD5:=hidE hBd
  clear hI hBk hCk hBd
  go_wp2_with (at_next;refine list_next_U rfl _ rfl rfl HI.out.rng ?_ ?_)
  ·intro hp
   have hb:=HI.out.body HBD5.out hp
   have b0:=HBK.out.cell 0;have b1:=HBK.out.cell 1;have bz:=HBK.out.lt
   simp at b0 b1
   have HQ:=hidE (And.intro hb (And.intro HCK.out HI.out.base))
   clear hp hb
   go_wp2
   go_ret
   obtain ⟨hb,hC5,hba⟩:=HQ.out
   have hbn:Below wr.heap.size wr (wr.alloc (Obj.cells #[.slice ak C.length ck,.map (some n2)] 106)):=(Below.refl _ _).alloc (Nat.le_refl _) _
   exact ⟨_,rfl,hba.size,⟨_,_,_,_,_,Blk.made _ _ _,hC5.past hbn,hb.past hbn⟩,hba.trans (hbn.mono hba.size)⟩
  ·intro pk pv w5 hpU hlt hrg5 hg5 hz5 hen
   have hni:=noInt_iter HI.out.rng
   have hk5:=keepI_grown hg5 hni
   have hmr:m≠n2+2:=HI.out.rng.ne.symm
   have hBd5:=HBD5.out.keepI hg5 hni hmr
   have hM5:=HI.out.map.keep (hg5.block n2 HI.out.map.lt (by simp))
   have hI5:CpI w w5 (n2+2) m n2 U (done++[(pk,pv)]) (U'++[(pk,pv)]) rows' rvs→True:=fun _=>trivial
   have hB5:=HBK.out.grown hg5 (by simp)
   have hC5:=HCK.out.keepI hk5
   have hS:=hBd5.ok (pk,pv) hpU
   have hV:=hBd5.vals pk
   have hsm:∀ r∈rvs pk,r.small:=fun r hr=>hBd5.small r (hBd5.mem hr)
   have hfw:=hBd5.fewRows pk
   have hba5:Below w.heap.size w w5:=Below.grown HI.out.base hg5 HI.out.base.size (fun k e=>by cases e;have:=HN2.out;omega)
   have hok5:RowsOk w5 U' rows':=fun p hp=>(HI.out.ok p hp).keepI hk5
   have hvs5:∀ p∈U',RwsF w5 (rows' p.1) (rvs p.1):=fun p hp=>(HI.out.vals p hp).keepI hk5
   obtain ⟨av,cv,ev,_⟩:=id hS
   simp only at ev
   subst ev
   have HAA:=hidE (fun w' (hb:Below w5.heap.size w5 w')=>allApart_f w' (hS.past hb) (hV.past hb) hsm (by show (rows pk).length≤1000000;omega))
   have hnk:∀ p∈U',p.1≠pk:=fun p hp e=>by
    have h1:pk∈U'.map (·.1):=List.mem_map.2 ⟨p,hp,e⟩
    rw[HI.out.keys] at h1
    obtain ⟨C2,hC2⟩:=hrg5.part
    have h2:((done++[(pk,Value.slice av (rows pk).length cv)]++C2).map (·.1)).Nodup:=((hC2.map (·.1)).nodup_iff).2 hBd5.map.nodup
    rw[List.map_append,List.map_append] at h2
    have h3:=(List.nodup_append.1 h2).1
    have h4:=(List.nodup_append.1 h3).2.2
    exact h4 pk h1 pk (by simp) rfl
   have hpl:pk.length≤maxLen:=by
    obtain ⟨_,_,_,_,_,_,_,hs⟩:=hBd5.map
    exact hs _ hpU
   have hms:U.length - seenN w5 (n2+2)<U.length - seenN wr (n2+2):=by
    rw[hrg5.seen,HI.out.rng.seen,List.length_append,List.length_singleton];omega
   have HM5:=hidE hM5;have HBD6:=hidE hBd5;have HB5:=hidE hB5;have HC5:=hidE hC5;have HBA:=hidE hba5;have HOK5:=hidE hok5;have HVS5:=hidE hvs5;have HNK:=hidE hnk;have HPL:=hidE hpl;have HMS:=hidE hms;have HRG:=hidE hrg5;have HKS:=hidE HI.out.keys
   clear hni hk5 hmr hBd5 hM5 hI5 hB5 hC5 hS hV hsm hfw hba5 hok5 hvs5 hnk hpl hms hrg5 hg5 hz5 hlt hpU HBD5 HBK HCK HI
   have b0:=HB5.out.cell 0;have b1:=HB5.out.cell 1;have bz:=HB5.out.lt
   simp at b0 b1
   go_upto_region 7 with fail
   refine wp_region_J 5 [] (nthR [detR (.pointer (some ⟨(n2+1),1,none⟩)),detR (.map (some n2)),detR (nmV pk),detR (.slice av (rows pk).length cv),rowN (rvs pk)]) (fun _=>false) (by kernel_rfl) (by decide) (by kernel_rfl) (stab_nth (by intro r hr;simp only[List.mem_cons,List.not_mem_nil,or_false] at hr;rcases hr with rfl | rfl | rfl | rfl | rfl<;>first | exact stab_det _ | exact stab_rowN _)) ?_ ?_ ?_
   ·intro i o hi ho
    match i,hi with
    | 0, _ =>
     obtain rfl:=Option.some.inj ho
     intro u x hd
     have hc:=Past.cell x
     simp[go_sem,gives,frm,Act.put,nthR,detR,Region.wanted,Below.refl]
    | 1, _ =>
     obtain rfl:=Option.some.inj ho
     intro u x hd
     have hc:=Past.cell x
     have d0:=hd 0 (by decide) (by kernel_rfl)
     simp only[nthR,detR,List.getD_cons_zero] at d0
     simp[go_sem,gives,frm,Act.put,nthR,detR,Region.wanted,Below.refl,hc,d0,b1,bz]
    | 2, _ =>
     obtain rfl:=Option.some.inj ho
     intro u x hd
     have hc:=Past.cell x
     simp[go_sem,gives,frm,Act.put,nthR,detR,Region.wanted,Below.refl]
    | 3, _ =>
     obtain rfl:=Option.some.inj ho
     intro u x hd
     have hc:=Past.cell x
     simp[go_sem,gives,frm,Act.put,nthR,detR,Region.wanted,Below.refl]
    | 4, _ =>
     obtain rfl:=Option.some.inj ho
     intro u x hd
     have hc:=Past.cell x
     have d3:=hd 3 (by decide) (by kernel_rfl)
     simp only[nthR,detR,List.getD_cons_zero,List.getD_cons_succ] at d3
     simp[go_sem,gives,frm,Act.put,nthR,Region.wanted,d3]
     (with_reducible refine (HAA.out _ (Past.prop x)).mono ?_);rintro e w3 ⟨v,l,rfl,ho,hF,_,hft,hb3⟩;exact ⟨_,rfl,hb3,⟨l,sliRw_own ho hft,hF⟩⟩
    | i+5,h=>exact absurd h (by omega)
   ·intro i o hx ho
    simp at hx
   ·intro u x9 hu hne
    have e1:u 1 = .map (some n2):=hu 1 (by decide)
    have e2:u 2=nmV pk:=hu 2 (by decide)
    obtain ⟨l,hsl,hfl⟩:rowN (rvs pk) (u 4) x9.1:=hu 4 (by decide)
    obtain ⟨vb,e4⟩:∃ vb,u 4=vb:=⟨_,rfl⟩
    rw[e4] at hsl
    simp only[frm,List.take,Act.put,e1,e2,e4]
    have hb9:=x9.2
    have hM9:=HM5.out.past hb9
    obtain ⟨wf,hup,hMf,hgf,hzf⟩:=hM9.update (P:=Tryz.prog) (t:=102) (k:=9) (e:=31) Tryz.underlying9 Tryz.underlying102 HPL.out vb
    have hni:=noInt_map hM9
    have hkf:=keepI_grown hgf hni
    have hput:putU U' pk vb=U'++[(pk,vb)]:=by unfold putU;rw[idx_none HNK.out]
    rw[hput] at hMf
    have hrf:=(HRG.out.past hb9).keep (hgf.block m (HRG.out.past hb9).map.lt (fun e=>by
     have hne:=HMN.out
     cases e;omega)) (hgf.block (n2+2) (HRG.out.past hb9).lt (by simp))
    have hIf:CpI w wf (n2+2) m n2 U (done++[(pk,.slice av (rows pk).length cv)]) (U'++[(pk,vb)]) (updF rows' pk l) rvs:=by
     refine ⟨hrf,hMf,by simp[HKS.out],fun p hp => ?_,fun p hp => ?_, ?_⟩
     ·rcases List.mem_append.1 hp with hp | hp
      ·rw[updF_other _ _ (HNK.out p hp)];exact ((HOK5.out p hp).past hb9).keepI hkf
      ·rw[List.mem_singleton.1 hp]
       show SliRw wf vb (updF rows' pk l pk)
       rw[updF_same];exact hsl.keepI hkf
     ·rcases List.mem_append.1 hp with hp | hp
      ·rw[updF_other _ _ (HNK.out p hp)];exact ((HVS5.out p hp).past hb9).keepI hkf
      ·rw[List.mem_singleton.1 hp]
       show RwsF wf (updF rows' pk l pk) (rvs pk)
       rw[updF_same];exact hfl.keepI hkf
     ·have z:=HBA.out.trans (hb9.mono HBA.out.size)
      exact Below.grown z hgf z.size (fun k e=>by cases e;exact HN2.out)
    have hBf:=(HB5.out.past hb9).grown hgf (by simp)
    have hCf:=(HC5.out.past hb9).keepI hkf
    have hBdf:=(HBD6.out.past hb9).keepI hgf hni (fun e=>by
     have hne:=HMN.out
     omega)
    have hsn:seenN wf (n2+2)=seenN w5 (n2+2):=by rw[hrf.seen,HRG.out.seen]
    have HQ:=hidE (And.intro hIf (And.intro hBf (And.intro hCf hBdf)))
    have HSN:=hidE hsn
    clear hu hne e1 e2 e4 hsl hfl hb9 hM9 hMf hgf hzf hni hkf hput hrf hIf hBf hCf hBdf hsn b0 b1 bz
    generalize x9.1=w9 at *
    go_wp2
    exact ⟨⟨_,_,_,HQ.out.1,HQ.out.2.1,HQ.out.2.2.1,HQ.out.2.2.2⟩,by rw[HSN.out];exact HMS.out⟩
theorem body_nil {w:World} {m:Nat} (h:MapU w m []):Body w m [] (fun _=>[]) (fun _=>[]) [] :=
 ⟨h,fun p hp=>by simp at hp,fun _ _=>rfl,fun p hp=>by simp at hp,fun _=>rwsF_nil w,fun s r hr=>by simp at hr,List.Perm.refl _,good_nil,fun r hr=>by simp at hr⟩
def NewP (w:World) (F:List Sg) (e:Ending) (w':World):Prop:=Below w.heap.size w w' ∧
 ((posB F=false∧e = .returned (.tuple #[.pointer none,.int .i64 5]))∨(posB F=true∧∃ p,e = .returned (.tuple #[.pointer (some ⟨p,0,none⟩),.int .i64 0])∧Pl w' p [] F∧w.heap.size≤p))
theorem new_f {va:Value} {F:List Sg} (w:World) (hF:SliF3 w va F) (hl:F.length≤1000000000):Calls Tryz.prog 12 #[va] w (NewP w F):=by
 refine (new_c w hF hl).mono ?_
 rintro e w' ⟨hb,⟨h1,rfl⟩ | ⟨h1,p,m,v,rfl,hB,hC,hM,hp,_⟩⟩
 ·exact ⟨hb,.inl ⟨h1,rfl⟩⟩
 ·exact ⟨hb,.inr ⟨h1,p,rfl,⟨m,v,_,_,_,hB,hC,body_nil hM⟩,hp⟩⟩
theorem load_f {p:Nat} {L:List Rv} {C:List Sg} (w:World) (hP:Pl w p L C):Calls Tryz.prog 31 #[.pointer (some ⟨p,0,none⟩)] w (LoadIs w (fnsS L)):=by
 obtain ⟨m,vc,U,rows,rvs,hB,hC,hBd⟩:=hP.has
 have hin:InR (allFs (fun s=>fnsS (rvs s)) U):=by rw[fns_all];exact hBd.inR
 refine (planLoad_c w hB hBd.planC hin (by rw[hBd.all_len];have:=hBd.good.few;omega) (by have:=hBd.lenAll;omega)).mono ?_
 rintro e w' ⟨v,rfl,h1,h2⟩
 rw[fns_all] at h1
 exact ⟨v,rfl,ldR_perm (L:=fnsS (allRv rvs U)) (M:=fnsS L) (List.Perm.map Rv.A hBd.perm) h1,h2⟩
def ofU (L:List Rv) (s:List UInt8):List Rv:=L.filter fun r=>decide (r.u=s)
theorem Body.ofUser {w:World} {m:Nat} {U:List Ent} {rows:List UInt8→List Rw} {rvs:List UInt8→List Rv} {L:List Rv} (h:Body w m U rows rvs L) (s:List UInt8):(rvs s).Perm (ofU L s):=by
 have hp:=(h.rest s).filter (fun r=>decide (r.u=s))
 rw[List.filter_append] at hp
 have e1:(rvs s).filter (fun r=>decide (r.u=s))=rvs s:=by
  rw[List.filter_eq_self]
  intro r hr
  simpa using h.user s r hr
 have e2:(restOf rvs U s).filter (fun r=>decide (r.u=s))=[]:=by
  rw[List.filter_eq_nil_iff]
  intro r hr
  obtain ⟨t,ht,hrt⟩:=rest_mem hr
  have:=h.user t r hrt
  simp only[decide_eq_true_eq]
  rw[this];exact ht
 rw[e1,e2,List.append_nil] at hp
 exact hp
theorem user_f {p:Nat} {L:List Rv} {C:List Sg} (s:List UInt8) (w:World) (hP:Pl w p L C) (hs:s.length≤maxLen):Calls Tryz.prog 33 #[.pointer (some ⟨p,0,none⟩),nmV s] w (LoadIs w (fnsS (ofU L s))):=by
 obtain ⟨m,vc,U,rows,rvs,hB,hC,hBd⟩:=hP.has
 refine (user_c s w hB hBd.planC hs).mono ?_
 rintro e w' ⟨v,rfl,h1,h2⟩
 exact ⟨v,rfl,ldR_perm (L:=fnsS (rvs s)) (M:=fnsS (ofU L s)) (List.Perm.map Rv.A (hBd.ofUser s)) h1,h2⟩
def LstP (w:World) (L:List Rv) (e:Ending) (w':World):Prop:=∃ v l,e = .returned v∧SliRw w' v l∧RwsF w' l L∧Below w.heap.size w w'
theorem list_f {p:Nat} {L:List Rv} {C:List Sg} (w:World) (hP:Pl w p L C):Calls Tryz.prog 42 #[.pointer (some ⟨p,0,none⟩)] w (LstP w L):=by
 obtain ⟨m,vc,U,rows,rvs,hB,hC,hBd⟩:=hP.has
 refine (planList_c w hB hBd.map hBd.ok hBd.vals hBd.smalls (by rw[hBd.all_len];have:=hBd.good.few;omega)).mono ?_
 rintro e w' ⟨R,hp,ho,v,l,rfl,how,hF,_,hft,hb⟩
 have:=ord_eq hBd.good (hp.trans hBd.perm) ho
 subst this
 exact ⟨v,l,rfl,sliRw_own how hft,hF,hb⟩
def GetP (w:World) (L:List Rv) (id:Int) (e:Ending) (w':World):Prop:=Below w.heap.size w w'∧match atS L id with
 | some i=>∃ x,e = .returned (.tuple #[rwV x,.int .i64 0])∧RwF w' x (L.getD i rv0)
 | none=>e = .returned (.tuple #[rvZ,.int .i64 7])
theorem get_f {p:Nat} {L:List Rv} {C:List Sg} (id:Int) (w:World) (hP:Pl w p L C):Calls Tryz.prog 21 #[.pointer (some ⟨p,0,none⟩),.int .u32 id] w (GetP w L id):=by
 obtain ⟨m,vc,U,rows,rvs,hB,hC,hBd⟩:=hP.has
 refine (get_c id w hB hBd.map hBd.ok hBd.vals (fun s r hr=>hBd.small r (hBd.mem hr)) (fun p _=>by have:=hBd.fewRows p.1;omega)).mono ?_
 unfold GetP
 rintro e w' ⟨hb,⟨q,hq,r,hr,hid,x,rfl,hx⟩ | ⟨hno,rfl⟩⟩
 ·have hrL:=hBd.mem hr
  cases hi:atS L id with
  | none=>exact absurd hid (atS_none.1 hi r hrL)
  | some i =>
   obtain ⟨hlt,he,_⟩:=atS_some hi
   have:r=L[i]:=ids_one hBd.good.ids hrL (List.getElem_mem hlt) (by rw[hid,he])
   refine ⟨hb,x,rfl, ?_⟩
   rw[List.getD_eq_getElem?_getD,List.getElem?_eq_getElem hlt]
   rw[this] at hx;exact hx
 ·cases hi:atS L id with
  | none=>exact ⟨hb,rfl⟩
  | some i =>
   obtain ⟨hlt,he,_⟩:=atS_some hi
   obtain ⟨q,hq,hr⟩:=allRv_mem.1 (hBd.perm.mem_iff.2 (List.getElem_mem hlt))
   exact absurd he (hno q hq _ hr)
theorem cap_f {p:Nat} {L:List Rv} {C:List Sg} (w:World) (hP:Pl w p L C) (hl:C.length≤1000000000):Calls Tryz.prog 32 #[.pointer (some ⟨p,0,none⟩)] w fun e w'=>∃ v,e = .returned v∧SliF3 w' v C∧Below w.heap.size w w':=by
 obtain ⟨m,vc,U,rows,rvs,hB,hC,hBd⟩:=hP.has
 exact cap_c w hB hC hl
def SetP (w:World) (p:Nat) (L:List Rv) (C F:List Sg) (e:Ending) (w':World):Prop:=w.grownBy w' (some p) ∧
 ((posB F=false∧e = .returned (.int .i64 5)∧Pl w' p L C)∨(posB F=true∧e = .returned (.int .i64 0)∧Pl w' p L F))
theorem setcap_f {p:Nat} {L:List Rv} {C F:List Sg} {v:Value} (w:World) (hP:Pl w p L C) (hF:SliF3 w v F) (hl:F.length≤1000000000):Calls Tryz.prog 16 #[.pointer (some ⟨p,0,none⟩),v] w (SetP w p L C F):=by
 obtain ⟨m,vc,U,rows,rvs,hB,hC,hBd⟩:=id hP.has
 cases hp:posB F
 ·refine (setcap_no w hB hF hl hp).mono ?_
  rintro e w' ⟨rfl,hb⟩
  exact ⟨grown_any hb,.inl ⟨hp,rfl,hP.past hb⟩⟩
 ·refine (setcap_ok w hB hF hl hp).mono ?_
  rintro e w' ⟨rfl,hg,v',hB',hF'⟩
  exact ⟨hg,.inr ⟨hp,rfl,⟨m,v',U,rows,rvs,hB',hF',hBd.keepI hg hP.noInt (hBd.map.ne_blk hB)⟩⟩⟩
theorem ldR_is {M:List (List Sg)} {v:Value} {w:World} {A:List Sg} (h:ldR M v w) (hp:∀ F∈M,posB F=true) (hs:sumS M=(A,0)):SliS w v A:=by
 obtain ⟨A',h1,h2⟩:=h
 rcases sumS_pos hp with ⟨_,_,h3⟩ | ⟨_,h3⟩
 ·rw[hs] at h3
  have:=loads_unique h2 h3 (fun t=>⟨rfl,rfl⟩)
  subst this;exact h1
 ·rw[hs] at h3;simp at h3
end
end Go.Proofs.YtcmponckjkalaaaGreat
