/- The statement's own 'same' of a plan and the document's: it says true where both hold the same. No conditions but the sizes. A plan and the document's own beside each other. No conditions but the sizes. -/
import Derived.Test.YtcmponckjkalaaaGreatPUGb
import Derived.Test.YtcmponckjkalaaaGreatPUGc
import Derived.Test.YtcmponckjkalaaaGreatPUGX
import Derived.Test.YtcmponckjkalaaaGreatPUGV
import Derived.Test.YtcmponckjkalaaaGreatPUGU
namespace Go.Proofs.YtcmponckjkalaaaGreat
section
open Go.ChangeShapes Go.WideShapes Go.ChangeAt Go.RowKit
attribute [local irreducible] Go.Calls
def lstF (L:List Rv):Value→World→Prop:=fun v w=>∃ l,SliRw w v l∧RwsF w l L
theorem stab_lstF (L:List Rv):Stab (lstF L):=fun _ _ _ ⟨l,h1,h2⟩ hb=>⟨l,h1.past hb,h2.past hb⟩
theorem stab_ldP (M:List (List Sg)):Stab (ldP M):=fun _ _ _ h hb=>stab_ld _ _ _ _ h hb
def capR (C:List Sg):Value→World→Prop:=fun v w=>SliS w v C
theorem stab_capR (C:List Sg):Stab (capR C):=fun _ _ _ h hb=>SliS.past h hb
def usR (us:List (List UInt8)):Value→World→Prop:=fun v w=>UsAt w v us
theorem stab_usR (us:List (List UInt8)):Stab (usR us):=fun _ _ _ h hb=>UsAt.past h hb
def ofR (F:List Sg) (er:Int):Value→World→Prop:=fun v w=>∃ v',v = .tuple #[v',.int .i64 er]∧SliS w v' F
theorem stab_ofR (F:List Sg) (er:Int):Stab (ofR F er):=fun _ _ _ ⟨v',e,h⟩ hb=>⟨v',e,h.past hb⟩
theorem loads_of {L M:List Rv} (hG:GoodL L) (hs:M.Sublist L):(sumS (fnsS M)).2=0∧Loads (fnsS M) (sumS (fnsS M)).1:=by
 have hok:∀ r∈M,r.ok=true:=fun r hr=>hG.ok r (hs.subset hr)
 have hin:=inR_sub hG.ok hs hG.inR
 rcases sumS_pos (fns_pos hok) with ⟨_,h2,h3⟩ | ⟨h1,_⟩
 ·exact ⟨h2,h3⟩
 ·exact absurd hin h1
theorem sli_arg {w:World} {v:Value} {F:List Sg} (h:SliS w v F):∃ a c,v = .slice a F.length c:=by
 obtain ⟨a,c,e,_⟩:=h
 exact ⟨a,c,e⟩
set_option maxRecDepth 100000 in
set_option maxHeartbeats 16000000 in
theorem same11_t {p:Nat} {L:List Rv} {C:List Sg} {a0 al:Option Addr} {m0 c0 nl cl:Nat} (w:World) (hP:Pl w p L C) (hD:DQ w (.agg #[.slice a0 m0 c0,.slice al nl cl]) L C) (hC:C.length≤1000000) :
  Calls Tryz.prog 17 #[.pointer (some ⟨p,0,none⟩),.agg #[.slice a0 m0 c0,.slice al nl cl]] w fun e w'=>e = .returned (.bool true)∧Below w.heap.size w w':=by
 obtain ⟨vc,vl,l,e,h1,h2,h3⟩:=hD.has
 obtain ⟨e4,e5⟩:vc = .slice a0 m0 c0∧vl = .slice al nl cl:=by
  have:=congrArg (fun v=>match v with | Value.agg cs=>cs.toList | _=>[]) e
  simp at this
  exact ⟨this.1.symm,this.2.symm⟩
 subst e4;subst e5
 clear e hD
 have hG:=hP.good
 obtain ⟨w0,hw0⟩:∃ w0,w0=w.alloc (Obj.cells #[.slice a0 m0 c0,.slice al nl cl] 33):=⟨_,rfl⟩
 have hb0:Below w.heap.size w w0:=by rw[hw0];(repeat (first | exact Below.refl _ _ | assumption | refine balloc ?_ _ | refine below_drewN ?_ _ | refine bstep (by assumption) ?_ | refine bstep (Past.prop _) ?_ | refine Below.setCell ?_ (by first | exact Nat.le_refl _ | (simp;done) | (simp;omega)) _))
 have HB:=hidE hb0
 have HBX:=hidE (show Blk w0 w.heap.size #[.slice a0 m0 c0,.slice al nl cl] 33 by rw[hw0];exact Blk.made _ _ _)
 have HP:=hidE (hP.past hb0);have HSC:=hidE (h1.past hb0);have HS:=hidE (sliRd_rw (h2.past hb0));have HF:=hidE (h3.past hb0);have HG:=hidE hG;have HC:=hidE hC
 have HLL:=hidE (show l.length≤200 from by have:=h3.1;have:=hG.few;omega)
 have HLA:=hidE (show ∀ r∈L,r.A.length≤1024 from fun r hr=>rok_len (hG.ok r hr))
 have HLU:=hidE (show ∀ r∈L,r.u.length≤maxLen from fun r hr=>by have:=rok_name (hG.ok r hr);unfold nameB at this;simp only[Bool.and_eq_true,decide_eq_true_eq] at this;have:=this.1.2;unfold maxLen;omega)
 have HLD:=hidE (loads_of hG (List.Sublist.refl L))
 have q0:=HBX.out.cell 0;have q1:=HBX.out.cell 1;have qz:=HBX.out.lt
 simp at q0 q1
 clear hP h1 h2 h3 hG hC hb0
 go_enter Tryz.func17,Tryz.ntmps17
 go_upto_region 1 with fail
 rw[←hw0]
 clear hw0
 go_wp2_with fail
 ((with_reducible refine (load11_all _ _ HS.out HF.out HLL.out HLA.out ⟨_,_,_,rfl⟩).mono ?_);rintro e w1 ⟨v5,rfl,hs5,hb1⟩)
 obtain ⟨a5,c5,rfl⟩:=sli_arg hs5
 have HS5:=hidE hs5
 have HB:=hidE (bstep hb1 HB.out);have HBX:=hidE (HBX.out.past hb1);have HP:=hidE (HP.out.past hb1);have HSC:=hidE (HSC.out.past hb1);have HS:=hidE (HS.out.past hb1);have HF:=hidE (HF.out.past hb1)
 clear hs5 hb1 q0 q1 qz
 have q0:=HBX.out.cell 0;have q1:=HBX.out.cell 1;have qz:=HBX.out.lt
 simp at q0 q1
 obtain ⟨D,hD⟩:∃ D,D=(sumS (fnsS L)).1:=⟨_,rfl⟩
 have HLD1:=hidE (show Loads (fnsS L) D by rw[hD];exact HLD.out.2)
 rw[←hD] at HS5 ⊢
 clear hD
 go_upto_region 2 with fail
 (try simp only[List.append_eq,List.cons_append,List.nil_append])
 refine wp_region_J 21 [] (nthR [detR (.pointer (some ⟨p,0,none⟩)),lstF L,detR (.pointer (some ⟨w.heap.size,1,none⟩)),detR (.slice al nl cl),detR (.bool true),detR (.bool false),detR (.bool false),detR (.pointer (some ⟨p,0,none⟩)),ldP (fnsS L),detR (.slice a5 D.length c5),detR (.bool true),detR (.bool false),detR (.bool false),detR (.bool false),detR (.pointer (some ⟨p,0,none⟩)),capR C,detR (.pointer (some ⟨w.heap.size,0,none⟩)),detR (.slice a0 m0 c0),detR (.bool true),detR (.bool false),detR (.bool false)]) (fun _=>false) (by kernel_rfl) (by decide) (by kernel_rfl) (stab_nth (by intro r hr;simp only[List.mem_cons,List.not_mem_nil,or_false] at hr;rcases hr with rfl | rfl | rfl | rfl | rfl | rfl | rfl | rfl | rfl | rfl | rfl | rfl | rfl | rfl | rfl | rfl | rfl | rfl | rfl | rfl | rfl<;>first | exact stab_det _ | exact stab_lstF _ | exact stab_ldP _ | exact stab_capR _)) ?_ ?_ ?_
 ·intro i o hi ho
  match i,hi with
  | 0, _ =>
   have eo:=Option.some.inj ho
   clear ho
   have hg:o.guard=none:=by rw[←eo]
   refine jstep_ev hg ?_
   subst eo
   intro E u x hE hd
   have a0:E (.tmp 0)=Value.pointer (some ⟨p,0,none⟩):=(hE.rest 0 (by kernel_rfl)).trans rfl
   have hk:=hE.const
   have hfn:=hE.fn
   have hc:=Past.cell x
   clear hE hd
   simp[go_sem,gives,nthR,detR,Below.refl,a0]
  | 1, _ =>
   have eo:=Option.some.inj ho
   clear ho
   have hg:o.guard=none:=by rw[←eo]
   refine jstep_ev hg ?_
   subst eo
   intro E u x hE hd
   have e17:u 0 = .pointer (some ⟨p,0,none⟩):=hd 0 (by decide) (by kernel_rfl)
   have a17:=(hE.mine 17 0 (by kernel_rfl) (show 17<82 by decide)).trans e17
   have hk:=hE.const
   have hfn:=hE.fn
   have hc:=Past.cell x
   clear hE hd
   simp[go_sem,gives,nthR,hfn,a17]
   (with_reducible refine (list_f _ (HP.out.past (Past.prop x))).mono ?_);rintro e w3 ⟨v,l2,rfl,h1,h2,hb3⟩;exact ⟨_,rfl,hb3,⟨l2,h1,h2⟩⟩
  | 2, _ =>
   have eo:=Option.some.inj ho
   clear ho
   have hg:o.guard=none:=by rw[←eo]
   refine jstep_ev hg ?_
   subst eo
   intro E u x hE hd
   have a3:E (.tmp 3)=Value.pointer (some ⟨w.heap.size,0,none⟩):=(hE.rest 3 (by kernel_rfl)).trans rfl
   have hk:=hE.const
   have hfn:=hE.fn
   have hc:=Past.cell x
   clear hE hd
   simp[go_sem,gives,nthR,detR,Below.refl,a3]
  | 3, _ =>
   have eo:=Option.some.inj ho
   clear ho
   have hg:o.guard=none:=by rw[←eo]
   refine jstep_ev hg ?_
   subst eo
   intro E u x hE hd
   have e19:u 2 = .pointer (some ⟨w.heap.size,1,none⟩):=hd 2 (by decide) (by kernel_rfl)
   have a19:=(hE.mine 19 2 (by kernel_rfl) (show 19<82 by decide)).trans e19
   have hk:=hE.const
   have hfn:=hE.fn
   have hc:=Past.cell x
   clear hE hd
   simp[go_sem,gives,nthR,detR,Below.refl,hc,a19,q1,qz]
  | 4, _ =>
   have eo:=Option.some.inj ho
   clear ho
   have hg:o.guard=none:=by rw[←eo]
   refine jstep_ev hg ?_
   subst eo
   intro E u x hE hd
   have m18:=hE.mine 18 1 (by kernel_rfl) (show 18<82 by decide)
   have e20:u 3 = .slice al nl cl:=hd 3 (by decide) (by kernel_rfl)
   have a20:=(hE.mine 20 3 (by kernel_rfl) (show 20<82 by decide)).trans e20
   have h1:lstF L (u 1) x.1:=hd 1 (by decide) (by kernel_rfl)
   have h1s:=h1.choose_spec;generalize h1.choose=lz at *
   have hk:=hE.const
   have hfn:=hE.fn
   have hc:=Past.cell x
   clear hE hd
   simp[go_sem,gives,nthR,hfn,m18,a20]
   (with_reducible refine (rsameall_t _ h1s.1 (HS.out.past (Past.prop x)) h1s.2 (HF.out.past (Past.prop x))).mono ?_);rintro e w3 ⟨rfl,hb3⟩;exact ⟨_,rfl,hb3,rfl⟩
  | 5, _ =>
   have eo:=Option.some.inj ho
   clear ho
   have hg:o.guard=none:=by rw[←eo]
   refine jstep_ev hg ?_
   subst eo
   intro E u x hE hd
   have e21:u 4 = .bool true:=hd 4 (by decide) (by kernel_rfl)
   have a21:=(hE.mine 21 4 (by kernel_rfl) (show 21<82 by decide)).trans e21
   have hk:=hE.const
   have hfn:=hE.fn
   have hc:=Past.cell x
   clear hE hd
   simp[go_sem,gives,nthR,detR,Below.refl,a21]
  | 6, _ =>
   have eo:=Option.some.inj ho
   clear ho
   have hg:o.guard=none:=by rw[←eo]
   refine jstep_ev hg ?_
   subst eo
   intro E u x hE hd
   have e22:u 5 = .bool false:=hd 5 (by decide) (by kernel_rfl)
   have a22:=(hE.mine 22 5 (by kernel_rfl) (show 22<82 by decide)).trans e22
   have hk:=hE.const
   have hfn:=hE.fn
   have hc:=Past.cell x
   clear hE hd
   simp[go_sem,gives,nthR,detR,Below.refl,a22]
  | 7, _ =>
   have eo:=Option.some.inj ho
   clear ho
   have hg:o.guard=some (6,false):=by rw[←eo]
   refine jstep_guard (o:=o) 6 23 false hg (by kernel_rfl) (by kernel_rfl) (show 23<82 by decide) (fun u x hd=>by have e:u 6 = .bool false:=hd 6 (by decide) (by kernel_rfl);exact e) ?_
   subst eo
   intro E u x hE hd
   have a0:E (.tmp 0)=Value.pointer (some ⟨p,0,none⟩):=(hE.rest 0 (by kernel_rfl)).trans rfl
   have hk:=hE.const
   have hfn:=hE.fn
   have hc:=Past.cell x
   clear hE hd
   simp[go_sem,gives,nthR,detR,Below.refl,a0]
  | 8, _ =>
   have eo:=Option.some.inj ho
   clear ho
   have hg:o.guard=some (6,false):=by rw[←eo]
   refine jstep_guard (o:=o) 6 23 false hg (by kernel_rfl) (by kernel_rfl) (show 23<82 by decide) (fun u x hd=>by have e:u 6 = .bool false:=hd 6 (by decide) (by kernel_rfl);exact e) ?_
   subst eo
   intro E u x hE hd
   have e24:u 7 = .pointer (some ⟨p,0,none⟩):=hd 7 (by decide) (by kernel_rfl)
   have a24:=(hE.mine 24 7 (by kernel_rfl) (show 24<82 by decide)).trans e24
   have hk:=hE.const
   have hfn:=hE.fn
   have hc:=Past.cell x
   clear hE hd
   simp[go_sem,gives,nthR,hfn,a24]
   (with_reducible refine (load_f _ (HP.out.past (Past.prop x))).mono ?_);rintro e w3 ⟨v,rfl,h1,hb3⟩;exact ⟨_,rfl,hb3,h1⟩
  | 9, _ =>
   have eo:=Option.some.inj ho
   clear ho
   have hg:o.guard=some (6,false):=by rw[←eo]
   refine jstep_guard (o:=o) 6 23 false hg (by kernel_rfl) (by kernel_rfl) (show 23<82 by decide) (fun u x hd=>by have e:u 6 = .bool false:=hd 6 (by decide) (by kernel_rfl);exact e) ?_
   subst eo
   intro E u x hE hd
   have a5:E (.tmp 5)=Value.slice a5 D.length c5:=(hE.rest 5 (by kernel_rfl)).trans rfl
   have hk:=hE.const
   have hfn:=hE.fn
   have hc:=Past.cell x
   clear hE hd
   simp[go_sem,gives,nthR,detR,Below.refl,a5]
  | 10, _ =>
   have eo:=Option.some.inj ho
   clear ho
   have hg:o.guard=some (6,false):=by rw[←eo]
   refine jstep_guard (o:=o) 6 23 false hg (by kernel_rfl) (by kernel_rfl) (show 23<82 by decide) (fun u x hd=>by have e:u 6 = .bool false:=hd 6 (by decide) (by kernel_rfl);exact e) ?_
   subst eo
   intro E u x hE hd
   have m25:=hE.mine 25 8 (by kernel_rfl) (show 25<82 by decide)
   have e26:u 9 = .slice a5 D.length c5:=hd 9 (by decide) (by kernel_rfl)
   have a26:=(hE.mine 26 9 (by kernel_rfl) (show 26<82 by decide)).trans e26
   have h8:ldR (fnsS L) (u 8) x.1:=hd 8 (by decide) (by kernel_rfl)
   have hk:=hE.const
   have hfn:=hE.fn
   have hc:=Past.cell x
   clear hE hd
   simp[go_sem,gives,nthR,hfn,m25,a26]
   (with_reducible refine (rsame_v (ld_is h8 HLD1.out) (HS5.out.past (Past.prop x))).mono ?_);rintro e w3 ⟨rfl,hb3⟩;exact ⟨_,rfl,hb3,rfl⟩
  | 11, _ =>
   have eo:=Option.some.inj ho
   clear ho
   have hg:o.guard=some (6,false):=by rw[←eo]
   refine jstep_guard (o:=o) 6 23 false hg (by kernel_rfl) (by kernel_rfl) (show 23<82 by decide) (fun u x hd=>by have e:u 6 = .bool false:=hd 6 (by decide) (by kernel_rfl);exact e) ?_
   subst eo
   intro E u x hE hd
   have e27:u 10 = .bool true:=hd 10 (by decide) (by kernel_rfl)
   have a27:=(hE.mine 27 10 (by kernel_rfl) (show 27<82 by decide)).trans e27
   have hk:=hE.const
   have hfn:=hE.fn
   have hc:=Past.cell x
   clear hE hd
   simp[go_sem,gives,nthR,detR,Below.refl,a27]
  | 12, _ =>
   have eo:=Option.some.inj ho
   clear ho
   have hg:o.guard=none:=by rw[←eo]
   refine jstep_ev hg ?_
   subst eo
   intro E u x hE hd
   have e23:u 6 = .bool false:=hd 6 (by decide) (by kernel_rfl)
   have a23:=(hE.mine 23 6 (by kernel_rfl) (show 23<82 by decide)).trans e23
   have e28:u 11 = .bool false:=hd 11 (by decide) (by kernel_rfl)
   have a28:=(hE.mine 28 11 (by kernel_rfl) (show 28<82 by decide)).trans e28
   have hk:=hE.const
   have hfn:=hE.fn
   have hc:=Past.cell x
   clear hE hd
   simp[go_sem,gives,nthR,detR,Below.refl,hk,a23,a28]
  | 13, _ =>
   have eo:=Option.some.inj ho
   clear ho
   have hg:o.guard=none:=by rw[←eo]
   refine jstep_ev hg ?_
   subst eo
   intro E u x hE hd
   have e29:u 12 = .bool false:=hd 12 (by decide) (by kernel_rfl)
   have a29:=(hE.mine 29 12 (by kernel_rfl) (show 29<82 by decide)).trans e29
   have hk:=hE.const
   have hfn:=hE.fn
   have hc:=Past.cell x
   clear hE hd
   simp[go_sem,gives,nthR,detR,Below.refl,a29]
  | 14, _ =>
   have eo:=Option.some.inj ho
   clear ho
   have hg:o.guard=some (13,false):=by rw[←eo]
   refine jstep_guard (o:=o) 13 30 false hg (by kernel_rfl) (by kernel_rfl) (show 30<82 by decide) (fun u x hd=>by have e:u 13 = .bool false:=hd 13 (by decide) (by kernel_rfl);exact e) ?_
   subst eo
   intro E u x hE hd
   have a0:E (.tmp 0)=Value.pointer (some ⟨p,0,none⟩):=(hE.rest 0 (by kernel_rfl)).trans rfl
   have hk:=hE.const
   have hfn:=hE.fn
   have hc:=Past.cell x
   clear hE hd
   simp[go_sem,gives,nthR,detR,Below.refl,a0]
  | 15, _ =>
   have eo:=Option.some.inj ho
   clear ho
   have hg:o.guard=some (13,false):=by rw[←eo]
   refine jstep_guard (o:=o) 13 30 false hg (by kernel_rfl) (by kernel_rfl) (show 30<82 by decide) (fun u x hd=>by have e:u 13 = .bool false:=hd 13 (by decide) (by kernel_rfl);exact e) ?_
   subst eo
   intro E u x hE hd
   have e31:u 14 = .pointer (some ⟨p,0,none⟩):=hd 14 (by decide) (by kernel_rfl)
   have a31:=(hE.mine 31 14 (by kernel_rfl) (show 31<82 by decide)).trans e31
   have hk:=hE.const
   have hfn:=hE.fn
   have hc:=Past.cell x
   clear hE hd
   simp[go_sem,gives,nthR,hfn,a31]
   (with_reducible refine (cap_f _ (HP.out.past (Past.prop x)) (by have:=HC.out;omega)).mono ?_);rintro e w3 ⟨v,rfl,h1,hb3⟩;exact ⟨_,rfl,hb3,h1.1⟩
  | 16, _ =>
   have eo:=Option.some.inj ho
   clear ho
   have hg:o.guard=some (13,false):=by rw[←eo]
   refine jstep_guard (o:=o) 13 30 false hg (by kernel_rfl) (by kernel_rfl) (show 30<82 by decide) (fun u x hd=>by have e:u 13 = .bool false:=hd 13 (by decide) (by kernel_rfl);exact e) ?_
   subst eo
   intro E u x hE hd
   have a3:E (.tmp 3)=Value.pointer (some ⟨w.heap.size,0,none⟩):=(hE.rest 3 (by kernel_rfl)).trans rfl
   have hk:=hE.const
   have hfn:=hE.fn
   have hc:=Past.cell x
   clear hE hd
   simp[go_sem,gives,nthR,detR,Below.refl,a3]
  | 17, _ =>
   have eo:=Option.some.inj ho
   clear ho
   have hg:o.guard=some (13,false):=by rw[←eo]
   refine jstep_guard (o:=o) 13 30 false hg (by kernel_rfl) (by kernel_rfl) (show 30<82 by decide) (fun u x hd=>by have e:u 13 = .bool false:=hd 13 (by decide) (by kernel_rfl);exact e) ?_
   subst eo
   intro E u x hE hd
   have e33:u 16 = .pointer (some ⟨w.heap.size,0,none⟩):=hd 16 (by decide) (by kernel_rfl)
   have a33:=(hE.mine 33 16 (by kernel_rfl) (show 33<82 by decide)).trans e33
   have hk:=hE.const
   have hfn:=hE.fn
   have hc:=Past.cell x
   clear hE hd
   simp[go_sem,gives,nthR,detR,Below.refl,hc,a33,q0,qz]
  | 18, _ =>
   have eo:=Option.some.inj ho
   clear ho
   have hg:o.guard=some (13,false):=by rw[←eo]
   refine jstep_guard (o:=o) 13 30 false hg (by kernel_rfl) (by kernel_rfl) (show 30<82 by decide) (fun u x hd=>by have e:u 13 = .bool false:=hd 13 (by decide) (by kernel_rfl);exact e) ?_
   subst eo
   intro E u x hE hd
   have m32:=hE.mine 32 15 (by kernel_rfl) (show 32<82 by decide)
   have e34:u 17 = .slice a0 m0 c0:=hd 17 (by decide) (by kernel_rfl)
   have a34:=(hE.mine 34 17 (by kernel_rfl) (show 34<82 by decide)).trans e34
   have h15:SliS x.1 (u 15) C:=hd 15 (by decide) (by kernel_rfl)
   have hk:=hE.const
   have hfn:=hE.fn
   have hc:=Past.cell x
   clear hE hd
   simp[go_sem,gives,nthR,hfn,m32,a34]
   (with_reducible refine (rsame_v h15 (HSC.out.past (Past.prop x))).mono ?_);rintro e w3 ⟨rfl,hb3⟩;exact ⟨_,rfl,hb3,rfl⟩
  | 19, _ =>
   have eo:=Option.some.inj ho
   clear ho
   have hg:o.guard=some (13,false):=by rw[←eo]
   refine jstep_guard (o:=o) 13 30 false hg (by kernel_rfl) (by kernel_rfl) (show 30<82 by decide) (fun u x hd=>by have e:u 13 = .bool false:=hd 13 (by decide) (by kernel_rfl);exact e) ?_
   subst eo
   intro E u x hE hd
   have e35:u 18 = .bool true:=hd 18 (by decide) (by kernel_rfl)
   have a35:=(hE.mine 35 18 (by kernel_rfl) (show 35<82 by decide)).trans e35
   have hk:=hE.const
   have hfn:=hE.fn
   have hc:=Past.cell x
   clear hE hd
   simp[go_sem,gives,nthR,detR,Below.refl,a35]
  | 20, _ =>
   have eo:=Option.some.inj ho
   clear ho
   have hg:o.guard=none:=by rw[←eo]
   refine jstep_ev hg ?_
   subst eo
   intro E u x hE hd
   have e30:u 13 = .bool false:=hd 13 (by decide) (by kernel_rfl)
   have a30:=(hE.mine 30 13 (by kernel_rfl) (show 30<82 by decide)).trans e30
   have e36:u 19 = .bool false:=hd 19 (by decide) (by kernel_rfl)
   have a36:=(hE.mine 36 19 (by kernel_rfl) (show 36<82 by decide)).trans e36
   have hk:=hE.const
   have hfn:=hE.fn
   have hc:=Past.cell x
   clear hE hd
   simp[go_sem,gives,nthR,detR,Below.refl,hk,a30,a36]
  | i+21,h=>exact absurd h (by omega)
 ·intro i o hx ho
  simp at hx
 ·intro u x9 hu hne
  have e20:u 20 = .bool false:=hu 20 (by decide)
  have hb9:=x9.2
  simp only[frm,List.take,Act.put,e20]
  have HB:=hidE (bstep hb9 HB.out);have HBX:=hidE (HBX.out.past hb9);have HP:=hidE (HP.out.past hb9);have HS:=hidE (HS.out.past hb9);have HF:=hidE (HF.out.past hb9)
  clear hu hne e20 hb9 q0 q1 qz HS5 HSC
  generalize x9.1=w2 at *
  have q0:=HBX.out.cell 0;have q1:=HBX.out.cell 1;have qz:=HBX.out.lt
  simp at q0 q1
  refine wpList_nil ?_
  generalize u 0=zz0,u (0+1)=zz1,u (0+1+1)=zz2,u (0+1+1+1)=zz3,u (0+1+1+1+1)=zz4,u (0+1+1+1+1+1)=zz5,u (0+1+1+1+1+1+1)=zz6,u (0+1+1+1+1+1+1+1)=zz7,u (0+1+1+1+1+1+1+1+1)=zz8,u (0+1+1+1+1+1+1+1+1+1)=zz9,u (0+1+1+1+1+1+1+1+1+1+1)=zz10,u (0+1+1+1+1+1+1+1+1+1+1+1)=zz11,u (0+1+1+1+1+1+1+1+1+1+1+1+1)=zz12,u (0+1+1+1+1+1+1+1+1+1+1+1+1+1)=zz13,u (0+1+1+1+1+1+1+1+1+1+1+1+1+1+1)=zz14,u (0+1+1+1+1+1+1+1+1+1+1+1+1+1+1+1)=zz15,u (0+1+1+1+1+1+1+1+1+1+1+1+1+1+1+1+1)=zz16,u (0+1+1+1+1+1+1+1+1+1+1+1+1+1+1+1+1+1)=zz17,u (0+1+1+1+1+1+1+1+1+1+1+1+1+1+1+1+1+1+1)=zz18,u (0+1+1+1+1+1+1+1+1+1+1+1+1+1+1+1+1+1+1+1)=zz19
  go_frame
  go_upto_region 4 with fail
  refine wp_region_J 4 [] (nthR [detR (.pointer (some ⟨p,0,none⟩)),usR (usersS L),detR (.agg #[.slice a0 m0 c0,.slice al nl cl]),usR (usersS L)]) (fun _=>false) (by kernel_rfl) (by decide) (by kernel_rfl) (stab_nth (by intro r hr;simp only[List.mem_cons,List.not_mem_nil,or_false] at hr;rcases hr with rfl | rfl | rfl | rfl<;>first | exact stab_det _ | exact stab_usR _)) ?_ ?_ ?_
  ·intro i o hi ho
   match i,hi with
   | 0, _ =>
    obtain rfl:=Option.some.inj ho
    intro u x hd
    have hc:=Past.cell x
    simp[go_sem,gives,frm,Act.put,nthR,detR,Region.wanted,Below.refl]
   | 1, _ =>
    obtain rfl:=Option.some.inj ho
    intro u x hd
    have hc:=Past.cell x
    have d0:=hd 0 (by decide) (by kernel_rfl)
    simp only[nthR,detR,List.getD_cons_zero] at d0
    simp[go_sem,gives,frm,Act.put,nthR,Region.wanted,d0]
    (with_reducible refine (users_f _ (HP.out.past (Past.prop x))).mono ?_);rintro e w3 ⟨v,rfl,h1,hb3⟩;exact ⟨_,rfl,hb3,usAt_own h1⟩
   | 2, _ =>
    obtain rfl:=Option.some.inj ho
    intro u x hd
    have hc:=Past.cell x
    simp[go_sem,gives,frm,Act.put,nthR,detR,Region.wanted,Below.refl,hc,q0,q1,qz]
   | 3, _ =>
    obtain rfl:=Option.some.inj ho
    intro u x hd
    have hc:=Past.cell x
    have d2:=hd 2 (by decide) (by kernel_rfl)
    simp only[nthR,detR,List.getD_cons_zero,List.getD_cons_succ] at d2
    simp[go_sem,gives,frm,Act.put,nthR,Region.wanted,d2]
    (with_reducible refine (users11_c _ _ (HS.out.past (Past.prop x)) (HF.out.past (Past.prop x)) HLL.out HLU.out ⟨_,_,_,rfl⟩).mono ?_);rintro e w3 ⟨v,rfl,h1,hb3⟩;exact ⟨_,rfl,hb3,usAt_own h1⟩
   | i+4,h=>exact absurd h (by omega)
  ·intro i o hx ho
   simp at hx
  ·intro u x9 hu hne
   have h1:UsAt x9.1 (u 1) (usersS L):=hu 1 (by decide)
   have h3:UsAt x9.1 (u 3) (usersS L):=hu 3 (by decide)
   have hb9:=x9.2
   have HB:=hidE (bstep hb9 HB.out);have HBX:=hidE (HBX.out.past hb9);have HP:=hidE (HP.out.past hb9);have HS:=hidE (HS.out.past hb9);have HF:=hidE (HF.out.past hb9)
   obtain ⟨n,hn⟩:∃ n,n=(usersS L).length:=⟨_,rfl⟩
   have HN:=hidE hn
   have HN2:=hidE (show n≤128 from by rw[hn];have:=usersS_len L;have:=HG.out.few;omega)
   obtain ⟨b1,k1,e1,g1⟩:=h1
   obtain ⟨b2,k2,e2,g2⟩:=h3
   rw[←hn] at e1 e2 g1 g2
   have e0:u 0 = .pointer (some ⟨p,0,none⟩):=hu 0 (by decide)
   simp only[frm,List.take,Act.put,e1,e2]
   have HU1:=hidE g1;have HU2:=hidE g2
   clear hu hne e0 e1 e2 g1 g2 hb9 q0 q1 qz hn
   generalize x9.1=w3 at *
   generalize u 0=y0,u (0+1+1)=y2
   go_wp2
   go_loopg [9] n (fun g v9 wr=>∃ k:Nat,v9 = .int .i64 k∧k≤n∧n - k≤g∧Below w3.heap.size w3 wr)
   case atStart=>exact ⟨0,rfl,Nat.zero_le _,Nat.le_refl _,Below.refl _ _⟩
   case round =>
    obtain ⟨k,rfl,hk,hg,hb⟩:=hrel
    have HGK:=hidE hg
    have hk128:k≤128:=by have:=HN2.out;omega
    have HBR:=hidE hb
    have HBX:=hidE (HBX.out.past hb);have HP:=hidE (HP.out.past hb);have HS:=hidE (HS.out.past hb);have HF:=hidE (HF.out.past hb)
    have q0:=HBX.out.cell 0;have q1:=HBX.out.cell 1;have qz:=HBX.out.lt
    simp at q0 q1
    clear hg
    by_cases hlt:k<n
    ·obtain ⟨g1,rfl,gz1,gc1⟩:=HU1.out (by omega)
     obtain ⟨g2,rfl,gz2,gc2⟩:=HU2.out (by omega)
     have s1:=gc1 k hlt;have s2:=gc2 k hlt
     rw[←hb.cell (p:=⟨g1,_,none⟩) gz1] at s1
     rw[←hb.cell (p:=⟨g2,_,none⟩) gz2] at s2
     have gz1':g1<wr.heap.size:=Nat.lt_of_lt_of_le gz1 hb.size
     have gz2':g2<wr.heap.size:=Nat.lt_of_lt_of_le gz2 hb.size
     have hm:(usersS L).getD k []∈usersS L:=by rw[List.getD_eq_getElem?_getD,List.getElem?_eq_getElem (by rw[←HN.out];exact hlt)];exact List.getElem_mem _
     have HNM:=hidE (users_name HG.out (by rw[←HN.out];exact hlt))
     have HNE:=hidE (show (usersS L).getD k []≠[] from fun e=>by
      obtain ⟨r,hr,e2⟩:=(usersS_mem L _).1 hm
      have:=rok_name (HG.out.ok r hr)
      rw[e2,e] at this
      revert this;decide)
     have HK1:=hidE (show k+1≤n from hlt)
     have hkI:(k:Int)<(n:Int):=by omega
     generalize (usersS L).getD k []=s at *
     have HBY:=hidE (byU_of L HNE.out)
     have HLO:=hidE (loads_of HG.out (ofU_sub L s))
     clear gc1 gc2 hm hb gz1 gz2
     go_upto_region 10 with fail
     refine wp_region_J 9 [8] (nthR [detR (.agg #[.slice a0 m0 c0,.slice al nl cl]),detR (.slice (some ⟨g2,0,none⟩) n k2),detR (.int .i64 (k:Int)),detR (.pointer (some ⟨g2,k,none⟩)),detR (nmV s),ofR (sumS (fnsS (byU L s))).1 (sumS (fnsS (byU L s))).2,ofR (sumS (fnsS (byU L s))).1 (sumS (fnsS (byU L s))).2,capR (sumS (fnsS (byU L s))).1,detR (.int .i64 (sumS (fnsS (byU L s))).2)]) (fun _=>false) (by kernel_rfl) (by decide) (by kernel_rfl) (stab_nth (by intro r hr;simp only[List.mem_cons,List.not_mem_nil,or_false] at hr;rcases hr with rfl | rfl | rfl | rfl | rfl | rfl | rfl | rfl | rfl<;>first | exact stab_det _ | exact stab_ofR _ _ | exact stab_capR _)) ?_ ?_ ?_
     ·intro i o hi ho
      match i,hi with
      | 0, _ =>
       obtain rfl:=Option.some.inj ho
       intro u x hd
       have hc:=Past.cell x
       simp[go_sem,gives,frm,Act.put,nthR,detR,Region.wanted,Below.refl,hc,q0,q1,qz]
      | 1, _ =>
       obtain rfl:=Option.some.inj ho
       intro u x hd
       have hc:=Past.cell x
       simp[go_sem,gives,frm,Act.put,nthR,detR,Region.wanted,Below.refl]
      | 2, _ =>
       obtain rfl:=Option.some.inj ho
       intro u x hd
       have hc:=Past.cell x
       simp[go_sem,gives,frm,Act.put,nthR,detR,Region.wanted,Below.refl]
      | 3, _ =>
       obtain rfl:=Option.some.inj ho
       intro u x hd
       have hc:=Past.cell x
       have d1:=hd 1 (by decide) (by kernel_rfl)
       have d2:=hd 2 (by decide) (by kernel_rfl)
       simp only[nthR,detR,List.getD_cons_zero,List.getD_cons_succ] at d1 d2
       simp[go_sem,gives,frm,Act.put,nthR,detR,Region.wanted,Below.refl,d1,d2,hlt]
      | 4, _ =>
       obtain rfl:=Option.some.inj ho
       intro u x hd
       have hc:=Past.cell x
       have d3:=hd 3 (by decide) (by kernel_rfl)
       simp only[nthR,detR,List.getD_cons_zero,List.getD_cons_succ] at d3
       simp[go_sem,gives,frm,Act.put,nthR,detR,Region.wanted,Below.refl,hc,d3,s2,gz2']
      | 5, _ =>
       obtain rfl:=Option.some.inj ho
       intro u x hd
       have hc:=Past.cell x
       have d0:=hd 0 (by decide) (by kernel_rfl)
       have d4:=hd 4 (by decide) (by kernel_rfl)
       simp only[nthR,detR,List.getD_cons_zero,List.getD_cons_succ] at d0 d4
       simp[go_sem,gives,frm,Act.put,nthR,Region.wanted,d0,d4]
       (with_reducible refine (load11_c _ s _ (HS.out.past (Past.prop x)) (HF.out.past (Past.prop x)) HLL.out HLA.out ⟨_,_,_,rfl⟩ HNM.out).mono ?_);rintro e w3 ⟨v,rfl,h1,hb3⟩;exact ⟨_,rfl,hb3,⟨v,rfl,h1⟩⟩
      | 6, _ =>
       obtain rfl:=Option.some.inj ho
       intro u x hd
       have hc:=Past.cell x
       have h5:ofR (sumS (fnsS (byU L s))).1 (sumS (fnsS (byU L s))).2 (u 5) x.1:=hd 5 (by decide) (by kernel_rfl)
       simp[go_sem,gives,frm,Act.put,nthR,Region.wanted,Below.refl]
       exact h5
      | 7, _ =>
       obtain rfl:=Option.some.inj ho
       intro u x hd
       have hc:=Past.cell x
       have h6:ofR (sumS (fnsS (byU L s))).1 (sumS (fnsS (byU L s))).2 (u 6) x.1:=hd 6 (by decide) (by kernel_rfl)
       have e6:=h6.choose_spec.1;have hs6:=h6.choose_spec.2;generalize h6.choose=x6 at *
       simp[go_sem,gives,frm,Act.put,nthR,Region.wanted,Below.refl,e6]
       exact hs6
      | 8, _ =>
       obtain rfl:=Option.some.inj ho
       intro u x hd
       have hc:=Past.cell x
       have h6:ofR (sumS (fnsS (byU L s))).1 (sumS (fnsS (byU L s))).2 (u 6) x.1:=hd 6 (by decide) (by kernel_rfl)
       have e6:=h6.choose_spec.1;have hs6:=h6.choose_spec.2;generalize h6.choose=x6 at *
       simp[go_sem,gives,frm,Act.put,nthR,Region.wanted,Below.refl,detR,e6]
      | i+9,h=>exact absurd h (by omega)
     ·intro i o hx ho
      simp only[List.mem_cons,List.not_mem_nil,or_false] at hx
      rcases hx with rfl
      ·obtain rfl:=Option.some.inj ho
       refine ⟨rfl,fun _ _ _ _ h=>h,fun u x hd => ?_⟩
       have h6:ofR (sumS (fnsS (byU L s))).1 (sumS (fnsS (byU L s))).2 (u 6) x.1:=hd 6 (by decide) (by kernel_rfl)
       have e6:=h6.choose_spec.1;have hs6:=h6.choose_spec.2;generalize h6.choose=x6 at *
       refine ⟨rfl,.int .i64 (sumS (fnsS (byU L s))).2,rfl,fun w' => ?_⟩
       simp[go_sem,frm,Act.put,e6]
     ·intro u x9 hu hne
      have h7:SliS x9.1 (u 7) (sumS (fnsS (byU L s))).1:=hu 7 (by decide)
      have e8:u 8 = .int .i64 (sumS (fnsS (byU L s))).2:=hu 8 (by decide)
      rw[HBY.out] at h7 e8
      obtain ⟨a7,c7,e7⟩:=sli_arg h7
      have hb9:=x9.2
      simp only[frm,List.take,Act.put,e7,e8]
      rw[e7] at h7
      have HS7:=hidE h7
      have HBR:=hidE (bstep hb9 HBR.out);have HP:=hidE (HP.out.past hb9)
      have s1:=(hb9.cell (p:=⟨g1,_,none⟩) gz1').trans s1;have s2:=(hb9.cell (p:=⟨g2,_,none⟩) gz2').trans s2
      have gz1:=Nat.lt_of_lt_of_le gz1' hb9.size;have gz2:=Nat.lt_of_lt_of_le gz2' hb9.size
      have HLO1:=hidE HLO.out.2
      clear hu hne e7 e8 hb9 h7 q0 q1 qz gz1' gz2' HLO HBX HS HF
      generalize x9.1=w4 at *
      generalize (sumS (fnsS (ofU L s))).1=G at *
      generalize (sumS (fnsS (ofU L s))).2=er at *
      generalize u 0=yy0,u (0+1)=yy1,u (0+1+1)=yy2,u (0+1+1+1)=yy3,u (0+1+1+1+1)=yy4,u (0+1+1+1+1+1)=yy5,u (0+1+1+1+1+1+1)=yy6
      go_upto_region 11 with fail
      (try simp only[List.append_eq,List.cons_append,List.nil_append])
      refine wp_region_J 20 [] (nthR [detR (.slice (some ⟨g1,0,none⟩) n k1),detR (.int .i64 (k:Int)),detR (.pointer (some ⟨g1,k,none⟩)),detR (nmV s),detR (.slice (some ⟨g2,0,none⟩) n k2),detR (.int .i64 (k:Int)),detR (.pointer (some ⟨g2,k,none⟩)),detR (nmV s),detR (.bool false),detR (.bool false),detR (.pointer (some ⟨p,0,none⟩)),detR (.slice (some ⟨g1,0,none⟩) n k1),detR (.int .i64 (k:Int)),detR (.pointer (some ⟨g1,k,none⟩)),detR (nmV s),ldP (fnsS (ofU L s)),detR (.slice a7 G.length c7),detR (.bool true),detR (.bool false),detR (.bool false)]) (fun _=>false) (by kernel_rfl) (by decide) (by kernel_rfl) (stab_nth (by intro r hr;simp only[List.mem_cons,List.not_mem_nil,or_false] at hr;rcases hr with rfl | rfl | rfl | rfl | rfl | rfl | rfl | rfl | rfl | rfl | rfl | rfl | rfl | rfl | rfl | rfl | rfl | rfl | rfl | rfl<;>first | exact stab_det _ | exact stab_ldP _)) ?_ ?_ ?_
      ·intro i o hi ho
       match i,hi with
       | 0, _ =>
        have eo:=Option.some.inj ho
        clear ho
        have hg:o.guard=none:=by rw[←eo]
        refine jstep_ev hg ?_
        subst eo
        intro E u x hE hd
        have a7:E (.tmp 7)=Value.slice (some ⟨g1,0,none⟩) n k1:=(hE.rest 7 (by kernel_rfl)).trans rfl
        have hk:=hE.const
        have hfn:=hE.fn
        have hc:=Past.cell x
        clear hE hd
        simp[go_sem,gives,nthR,detR,Below.refl,a7]
       | 1, _ =>
        have eo:=Option.some.inj ho
        clear ho
        have hg:o.guard=none:=by rw[←eo]
        refine jstep_ev hg ?_
        subst eo
        intro E u x hE hd
        have a9:E (.tmp 9)=Value.int .i64 (k:Int):=(hE.rest 9 (by kernel_rfl)).trans rfl
        have hk:=hE.const
        have hfn:=hE.fn
        have hc:=Past.cell x
        clear hE hd
        simp[go_sem,gives,nthR,detR,Below.refl,a9]
       | 2, _ =>
        have eo:=Option.some.inj ho
        clear ho
        have hg:o.guard=none:=by rw[←eo]
        refine jstep_ev hg ?_
        subst eo
        intro E u x hE hd
        have e62:u 0 = .slice (some ⟨g1,0,none⟩) n k1:=hd 0 (by decide) (by kernel_rfl)
        have a62:=(hE.mine 62 0 (by kernel_rfl) (show 62<82 by decide)).trans e62
        have e63:u 1 = .int .i64 (k:Int):=hd 1 (by decide) (by kernel_rfl)
        have a63:=(hE.mine 63 1 (by kernel_rfl) (show 63<82 by decide)).trans e63
        have hk:=hE.const
        have hfn:=hE.fn
        have hc:=Past.cell x
        clear hE hd
        simp[go_sem,gives,nthR,detR,Below.refl,a62,a63,hlt]
       | 3, _ =>
        have eo:=Option.some.inj ho
        clear ho
        have hg:o.guard=none:=by rw[←eo]
        refine jstep_ev hg ?_
        subst eo
        intro E u x hE hd
        have e64:u 2 = .pointer (some ⟨g1,k,none⟩):=hd 2 (by decide) (by kernel_rfl)
        have a64:=(hE.mine 64 2 (by kernel_rfl) (show 64<82 by decide)).trans e64
        have hk:=hE.const
        have hfn:=hE.fn
        have hc:=Past.cell x
        clear hE hd
        simp[go_sem,gives,nthR,detR,Below.refl,hc,a64,s1,gz1]
       | 4, _ =>
        have eo:=Option.some.inj ho
        clear ho
        have hg:o.guard=none:=by rw[←eo]
        refine jstep_ev hg ?_
        subst eo
        intro E u x hE hd
        have a8:E (.tmp 8)=Value.slice (some ⟨g2,0,none⟩) n k2:=(hE.rest 8 (by kernel_rfl)).trans rfl
        have hk:=hE.const
        have hfn:=hE.fn
        have hc:=Past.cell x
        clear hE hd
        simp[go_sem,gives,nthR,detR,Below.refl,a8]
       | 5, _ =>
        have eo:=Option.some.inj ho
        clear ho
        have hg:o.guard=none:=by rw[←eo]
        refine jstep_ev hg ?_
        subst eo
        intro E u x hE hd
        have a9:E (.tmp 9)=Value.int .i64 (k:Int):=(hE.rest 9 (by kernel_rfl)).trans rfl
        have hk:=hE.const
        have hfn:=hE.fn
        have hc:=Past.cell x
        clear hE hd
        simp[go_sem,gives,nthR,detR,Below.refl,a9]
       | 6, _ =>
        have eo:=Option.some.inj ho
        clear ho
        have hg:o.guard=none:=by rw[←eo]
        refine jstep_ev hg ?_
        subst eo
        intro E u x hE hd
        have e66:u 4 = .slice (some ⟨g2,0,none⟩) n k2:=hd 4 (by decide) (by kernel_rfl)
        have a66:=(hE.mine 66 4 (by kernel_rfl) (show 66<82 by decide)).trans e66
        have e67:u 5 = .int .i64 (k:Int):=hd 5 (by decide) (by kernel_rfl)
        have a67:=(hE.mine 67 5 (by kernel_rfl) (show 67<82 by decide)).trans e67
        have hk:=hE.const
        have hfn:=hE.fn
        have hc:=Past.cell x
        clear hE hd
        simp[go_sem,gives,nthR,detR,Below.refl,a66,a67,hlt]
       | 7, _ =>
        have eo:=Option.some.inj ho
        clear ho
        have hg:o.guard=none:=by rw[←eo]
        refine jstep_ev hg ?_
        subst eo
        intro E u x hE hd
        have e68:u 6 = .pointer (some ⟨g2,k,none⟩):=hd 6 (by decide) (by kernel_rfl)
        have a68:=(hE.mine 68 6 (by kernel_rfl) (show 68<82 by decide)).trans e68
        have hk:=hE.const
        have hfn:=hE.fn
        have hc:=Past.cell x
        clear hE hd
        simp[go_sem,gives,nthR,detR,Below.refl,hc,a68,s2,gz2]
       | 8, _ =>
        have eo:=Option.some.inj ho
        clear ho
        have hg:o.guard=none:=by rw[←eo]
        refine jstep_ev hg ?_
        subst eo
        intro E u x hE hd
        have e65:u 3=nmV s:=hd 3 (by decide) (by kernel_rfl)
        have a65:=(hE.mine 65 3 (by kernel_rfl) (show 65<82 by decide)).trans e65
        have e69:u 7=nmV s:=hd 7 (by decide) (by kernel_rfl)
        have a69:=(hE.mine 69 7 (by kernel_rfl) (show 69<82 by decide)).trans e69
        have hk:=hE.const
        have hfn:=hE.fn
        have hc:=Past.cell x
        clear hE hd
        simp[go_sem,gives,nthR,detR,Below.refl,a65,a69]
       | 9, _ =>
        have eo:=Option.some.inj ho
        clear ho
        have hg:o.guard=none:=by rw[←eo]
        refine jstep_ev hg ?_
        subst eo
        intro E u x hE hd
        have e70:u 8 = .bool false:=hd 8 (by decide) (by kernel_rfl)
        have a70:=(hE.mine 70 8 (by kernel_rfl) (show 70<82 by decide)).trans e70
        have hk:=hE.const
        have hfn:=hE.fn
        have hc:=Past.cell x
        clear hE hd
        simp[go_sem,gives,nthR,detR,Below.refl,a70]
       | 10, _ =>
        have eo:=Option.some.inj ho
        clear ho
        have hg:o.guard=some (9,false):=by rw[←eo]
        refine jstep_guard (o:=o) 9 71 false hg (by kernel_rfl) (by kernel_rfl) (show 71<82 by decide) (fun u x hd=>by have e:u 9 = .bool false:=hd 9 (by decide) (by kernel_rfl);exact e) ?_
        subst eo
        intro E u x hE hd
        have a0:E (.tmp 0)=Value.pointer (some ⟨p,0,none⟩):=(hE.rest 0 (by kernel_rfl)).trans rfl
        have hk:=hE.const
        have hfn:=hE.fn
        have hc:=Past.cell x
        clear hE hd
        simp[go_sem,gives,nthR,detR,Below.refl,a0]
       | 11, _ =>
        have eo:=Option.some.inj ho
        clear ho
        have hg:o.guard=some (9,false):=by rw[←eo]
        refine jstep_guard (o:=o) 9 71 false hg (by kernel_rfl) (by kernel_rfl) (show 71<82 by decide) (fun u x hd=>by have e:u 9 = .bool false:=hd 9 (by decide) (by kernel_rfl);exact e) ?_
        subst eo
        intro E u x hE hd
        have a7:E (.tmp 7)=Value.slice (some ⟨g1,0,none⟩) n k1:=(hE.rest 7 (by kernel_rfl)).trans rfl
        have hk:=hE.const
        have hfn:=hE.fn
        have hc:=Past.cell x
        clear hE hd
        simp[go_sem,gives,nthR,detR,Below.refl,a7]
       | 12, _ =>
        have eo:=Option.some.inj ho
        clear ho
        have hg:o.guard=some (9,false):=by rw[←eo]
        refine jstep_guard (o:=o) 9 71 false hg (by kernel_rfl) (by kernel_rfl) (show 71<82 by decide) (fun u x hd=>by have e:u 9 = .bool false:=hd 9 (by decide) (by kernel_rfl);exact e) ?_
        subst eo
        intro E u x hE hd
        have a9:E (.tmp 9)=Value.int .i64 (k:Int):=(hE.rest 9 (by kernel_rfl)).trans rfl
        have hk:=hE.const
        have hfn:=hE.fn
        have hc:=Past.cell x
        clear hE hd
        simp[go_sem,gives,nthR,detR,Below.refl,a9]
       | 13, _ =>
        have eo:=Option.some.inj ho
        clear ho
        have hg:o.guard=some (9,false):=by rw[←eo]
        refine jstep_guard (o:=o) 9 71 false hg (by kernel_rfl) (by kernel_rfl) (show 71<82 by decide) (fun u x hd=>by have e:u 9 = .bool false:=hd 9 (by decide) (by kernel_rfl);exact e) ?_
        subst eo
        intro E u x hE hd
        have e73:u 11 = .slice (some ⟨g1,0,none⟩) n k1:=hd 11 (by decide) (by kernel_rfl)
        have a73:=(hE.mine 73 11 (by kernel_rfl) (show 73<82 by decide)).trans e73
        have e74:u 12 = .int .i64 (k:Int):=hd 12 (by decide) (by kernel_rfl)
        have a74:=(hE.mine 74 12 (by kernel_rfl) (show 74<82 by decide)).trans e74
        have hk:=hE.const
        have hfn:=hE.fn
        have hc:=Past.cell x
        clear hE hd
        simp[go_sem,gives,nthR,detR,Below.refl,a73,a74,hlt]
       | 14, _ =>
        have eo:=Option.some.inj ho
        clear ho
        have hg:o.guard=some (9,false):=by rw[←eo]
        refine jstep_guard (o:=o) 9 71 false hg (by kernel_rfl) (by kernel_rfl) (show 71<82 by decide) (fun u x hd=>by have e:u 9 = .bool false:=hd 9 (by decide) (by kernel_rfl);exact e) ?_
        subst eo
        intro E u x hE hd
        have e75:u 13 = .pointer (some ⟨g1,k,none⟩):=hd 13 (by decide) (by kernel_rfl)
        have a75:=(hE.mine 75 13 (by kernel_rfl) (show 75<82 by decide)).trans e75
        have hk:=hE.const
        have hfn:=hE.fn
        have hc:=Past.cell x
        clear hE hd
        simp[go_sem,gives,nthR,detR,Below.refl,hc,a75,s1,gz1]
       | 15, _ =>
        have eo:=Option.some.inj ho
        clear ho
        have hg:o.guard=some (9,false):=by rw[←eo]
        refine jstep_guard (o:=o) 9 71 false hg (by kernel_rfl) (by kernel_rfl) (show 71<82 by decide) (fun u x hd=>by have e:u 9 = .bool false:=hd 9 (by decide) (by kernel_rfl);exact e) ?_
        subst eo
        intro E u x hE hd
        have e72:u 10 = .pointer (some ⟨p,0,none⟩):=hd 10 (by decide) (by kernel_rfl)
        have a72:=(hE.mine 72 10 (by kernel_rfl) (show 72<82 by decide)).trans e72
        have e76:u 14=nmV s:=hd 14 (by decide) (by kernel_rfl)
        have a76:=(hE.mine 76 14 (by kernel_rfl) (show 76<82 by decide)).trans e76
        have hk:=hE.const
        have hfn:=hE.fn
        have hc:=Past.cell x
        clear hE hd
        simp[go_sem,gives,nthR,hfn,a72,a76]
        (with_reducible refine (user_f s _ (HP.out.past (Past.prop x)) HNM.out).mono ?_);rintro e w3 ⟨v,rfl,h1,hb3⟩;exact ⟨_,rfl,hb3,h1⟩
       | 16, _ =>
        have eo:=Option.some.inj ho
        clear ho
        have hg:o.guard=some (9,false):=by rw[←eo]
        refine jstep_guard (o:=o) 9 71 false hg (by kernel_rfl) (by kernel_rfl) (show 71<82 by decide) (fun u x hd=>by have e:u 9 = .bool false:=hd 9 (by decide) (by kernel_rfl);exact e) ?_
        subst eo
        intro E u x hE hd
        have a10:E (.tmp 10)=Value.slice a7 G.length c7:=(hE.rest 10 (by kernel_rfl)).trans rfl
        have hk:=hE.const
        have hfn:=hE.fn
        have hc:=Past.cell x
        clear hE hd
        simp[go_sem,gives,nthR,detR,Below.refl,a10]
       | 17, _ =>
        have eo:=Option.some.inj ho
        clear ho
        have hg:o.guard=some (9,false):=by rw[←eo]
        refine jstep_guard (o:=o) 9 71 false hg (by kernel_rfl) (by kernel_rfl) (show 71<82 by decide) (fun u x hd=>by have e:u 9 = .bool false:=hd 9 (by decide) (by kernel_rfl);exact e) ?_
        subst eo
        intro E u x hE hd
        have m77:=hE.mine 77 15 (by kernel_rfl) (show 77<82 by decide)
        have e78:u 16 = .slice a7 G.length c7:=hd 16 (by decide) (by kernel_rfl)
        have a78:=(hE.mine 78 16 (by kernel_rfl) (show 78<82 by decide)).trans e78
        have h15:ldR (fnsS (ofU L s)) (u 15) x.1:=hd 15 (by decide) (by kernel_rfl)
        have hk:=hE.const
        have hfn:=hE.fn
        have hc:=Past.cell x
        clear hE hd
        simp[go_sem,gives,nthR,hfn,m77,a78]
        (with_reducible refine (rsame_v (ld_is h15 HLO1.out) (HS7.out.past (Past.prop x))).mono ?_);rintro e w3 ⟨rfl,hb3⟩;exact ⟨_,rfl,hb3,rfl⟩
       | 18, _ =>
        have eo:=Option.some.inj ho
        clear ho
        have hg:o.guard=some (9,false):=by rw[←eo]
        refine jstep_guard (o:=o) 9 71 false hg (by kernel_rfl) (by kernel_rfl) (show 71<82 by decide) (fun u x hd=>by have e:u 9 = .bool false:=hd 9 (by decide) (by kernel_rfl);exact e) ?_
        subst eo
        intro E u x hE hd
        have e79:u 17 = .bool true:=hd 17 (by decide) (by kernel_rfl)
        have a79:=(hE.mine 79 17 (by kernel_rfl) (show 79<82 by decide)).trans e79
        have hk:=hE.const
        have hfn:=hE.fn
        have hc:=Past.cell x
        clear hE hd
        simp[go_sem,gives,nthR,detR,Below.refl,a79]
       | 19, _ =>
        have eo:=Option.some.inj ho
        clear ho
        have hg:o.guard=none:=by rw[←eo]
        refine jstep_ev hg ?_
        subst eo
        intro E u x hE hd
        have e71:u 9 = .bool false:=hd 9 (by decide) (by kernel_rfl)
        have a71:=(hE.mine 71 9 (by kernel_rfl) (show 71<82 by decide)).trans e71
        have e80:u 18 = .bool false:=hd 18 (by decide) (by kernel_rfl)
        have a80:=(hE.mine 80 18 (by kernel_rfl) (show 80<82 by decide)).trans e80
        have hk:=hE.const
        have hfn:=hE.fn
        have hc:=Past.cell x
        clear hE hd
        simp[go_sem,gives,nthR,detR,Below.refl,hk,a71,a80]
       | i+20,h=>exact absurd h (by omega)
      ·intro i o hx ho
       simp at hx
      ·intro u x9 hu hne
       have e19:u 19 = .bool false:=hu 19 (by decide)
       have hb9:=x9.2
       simp only[frm,List.take,Act.put,e19]
       have HBR:=hidE (bstep hb9 HBR.out)
       clear hu hne e19 hb9 s1 s2 gz1 gz2 HP HS7 HLO1
       generalize x9.1=w5 at *
       refine wpList_nil ?_
       generalize u 0=xx0,u (0+1)=xx1,u (0+1+1)=xx2,u (0+1+1+1)=xx3,u (0+1+1+1+1)=xx4,u (0+1+1+1+1+1)=xx5,u (0+1+1+1+1+1+1)=xx6,u (0+1+1+1+1+1+1+1)=xx7,u (0+1+1+1+1+1+1+1+1)=xx8,u (0+1+1+1+1+1+1+1+1+1)=xx9,u (0+1+1+1+1+1+1+1+1+1+1)=xx10,u (0+1+1+1+1+1+1+1+1+1+1+1)=xx11,u (0+1+1+1+1+1+1+1+1+1+1+1+1)=xx12,u (0+1+1+1+1+1+1+1+1+1+1+1+1+1)=xx13,u (0+1+1+1+1+1+1+1+1+1+1+1+1+1+1)=xx14,u (0+1+1+1+1+1+1+1+1+1+1+1+1+1+1+1)=xx15,u (0+1+1+1+1+1+1+1+1+1+1+1+1+1+1+1+1)=xx16,u (0+1+1+1+1+1+1+1+1+1+1+1+1+1+1+1+1+1)=xx17,u (0+1+1+1+1+1+1+1+1+1+1+1+1+1+1+1+1+1+1)=xx18
       go_frame
       go_wp2
       go_roundg (n - (k+1))
       case measure=>have:=HGK.out;have:=HK1.out;omega
       case rel=>exact ⟨k+1,by go_num,HK1.out,Nat.le_refl _,HBR.out⟩
    ·go_wp2
     go_ret
     exact ⟨rfl,bstep HBR.out HB.out⟩
end
section
open Go.ChangeShapes Go.WideShapes Go.ChangeAt Go.RowKit
attribute [local irreducible] Go.Calls
theorem keepI_one {w:World} {q:Nat} {a a' b:Option Addr} {n c n' c' m d:Nat} {t:TypeId} (h:Blk w q #[.slice a n c,.slice a' n' c'] t):KeepI w (w.setCell ⟨q,0,none⟩ (.slice b m d)) :=
 ⟨by simp,fun p o k i hc=>by
  have hne:p≠q:=fun e=>by subst e;exact noInt_sl2 h o k i hc
  rw[keptS hne]⟩
structure PS (w:World) (W:World) (p q:Nat) (L:List Rv) (C:List Sg) (ax:Option Addr) (mx kx:Nat) (ay:Option Addr) (my ky:Nat):Prop where
 pl:Pl W p L C
 blk:Blk W q #[.slice ax mx kx,.slice ay my ky] 33
 dq:DQ W (.agg #[.slice ax mx kx,.slice ay my ky]) L C
 bel:Below w.heap.size w W
 pz:w.heap.size≤p
 qz:w.heap.size≤q
 ne:p≠q
section
variable {w W W':World} {p q:Nat} {L:List Rv} {C:List Sg} {ax ay:Option Addr} {mx kx my ky:Nat}
theorem PS.past (h:PS w W p q L C ax mx kx ay my ky) (hb:Below W.heap.size W W'):PS w W' p q L C ax mx kx ay my ky :=
 ⟨h.pl.past hb,h.blk.past hb,h.dq.past hb,bstep hb h.bel,h.pz,h.qz,h.ne⟩
theorem PS.wrote {L':List Rv} {C':List Sg} (h:PS w W p q L C ax mx kx ay my ky) (hg:W.grownBy W' (some p)) (hP:Pl W' p L' C') :
  Pl W' p L' C'∧Blk W' q #[.slice ax mx kx,.slice ay my ky] 33∧KeepI W W'∧Below w.heap.size w W' :=
 ⟨hP,h.blk.grown hg (fun e=>h.ne (Option.some.inj e).symm),keepI_grown hg h.pl.noInt,h.pl.base h.bel hg h.pz⟩
theorem pl_set2 {bx by':Option Addr} {jx zx jy zy:Nat} (hP:Pl W p L C) (hB:Blk W q #[.slice ax mx kx,.slice ay my ky] 33) (hne:p≠q):Pl ((W.setCell ⟨q,0,none⟩ (.slice bx jx zx)).setCell ⟨q,1,none⟩ (.slice by' jy zy)) p L C :=
 hP.other (grown_trans (grown_set _ _ _ _) (grown_set _ _ _ _)) (noInt_sl2 hB) hne hB
theorem pl_set1 {bx:Option Addr} {jx zx:Nat} (hP:Pl W p L C) (hB:Blk W q #[.slice ax mx kx,.slice ay my ky] 33) (hne:p≠q):Pl (W.setCell ⟨q,0,none⟩ (.slice bx jx zx)) p L C :=
 hP.other (grown_set _ _ _ _) (noInt_sl2 hB) hne hB
end
theorem do11_c {a0 al av:Option Addr} {m0 c0 nl cl nv cv:Nat} {L:List Rv} {C:List Sg} {l:List Cw} {cs:List (Int × Rv)} (w:World) (hD:DQ w (.agg #[.slice a0 m0 c0,.slice al nl cl]) L C) (hG:GoodL L) (hv:SliCh w (.slice av nv cv) l) (hc:ChsF w l cs) (hl:l.length≤1000000) :
  Calls Tryz.prog 14 #[.agg #[.slice a0 m0 c0,.slice al nl cl],.slice av nv cv] w fun e w'=>∃ v',e = .returned (.tuple #[v',.int .i64 (doP L cs).2])∧DQ w' v' (doP L cs).1 C∧Below w.heap.size w w':=by
 have hv':=hv
 obtain ⟨_,_,e,_⟩:=hv
 cases e
 exact do11_a w hD hG hv' hc hl
end
end Go.Proofs.YtcmponckjkalaaaGreat
