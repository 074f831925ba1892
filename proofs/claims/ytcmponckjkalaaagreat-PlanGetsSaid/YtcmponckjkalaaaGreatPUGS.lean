/- Package plan: the three changes of a draft, each as the document's. No conditions but the sizes. Package plan: one change of a draft, whatever its kind. No conditions but the sizes. -/
import Derived.Test.YtcmponckjkalaaaGreatPUGR
namespace Go.Proofs.YtcmponckjkalaaaGreat
section
open Go.ChangeShapes Go.WideShapes Go.ChangeAt Go.RowKit
attribute [local irreducible] Go.Calls
theorem Dr.past {w w':World} {d m:Nat} {vc:Value} {L:List Rv} (h:Dr w d m vc L) (hb:Below w.heap.size w w'):Dr w' d m vc L:=by
 obtain ⟨U,rows,rvs,vs,h1,h2,h3⟩:=h.has
 exact ⟨U,rows,rvs,vs,h1.past hb,h2.past hb,stab_ld _ _ _ _ h3 hb⟩
theorem Dr.good {w:World} {d m:Nat} {vc:Value} {L:List Rv} (h:Dr w d m vc L):GoodL L:=by
 obtain ⟨U,rows,rvs,vs,h1,h2,h3⟩:=h.has
 exact h2.good
theorem Dr.lt {w:World} {d m:Nat} {vc:Value} {L:List Rv} (h:Dr w d m vc L):d<w.heap.size:=by
 obtain ⟨U,rows,rvs,vs,h1,h2,h3⟩:=h.has
 exact h1.lt
theorem Dr.ltm {w:World} {d m:Nat} {vc:Value} {L:List Rv} (h:Dr w d m vc L):m<w.heap.size:=by
 obtain ⟨U,rows,rvs,vs,h1,h2,h3⟩:=h.has
 exact h2.map.lt
def fdtR:Value→World→Prop:=fun v _=>∃ y,v = .tuple #[rwV y,.bool true]∧y.fit
theorem stab_fdt:Stab fdtR:=fun _ _ _ h _=>h
def fdvR:Value→World→Prop:=fun v _=>∃ y,v=rwV y∧y.fit
theorem stab_fdv:Stab fdvR:=fun _ _ _ h _=>h
def OneIs (w:World) (d m:Nat) (vc:Value) (q:List Rv × Int) (e:Ending) (w':World):Prop:=Two d m w w'∧e = .returned (.int .i64 q.2)∧(q.2=0→Dr w' d m vc q.1)
theorem may_f {w:World} {x:Rw} {r:Rv} (h:RwF w x r) (hs:r.small):Calls Tryz.prog 18 #[rwV x] w fun e w'=>e = .returned (.bool r.ok)∧Below w.heap.size w w':=by
 obtain ⟨a,cap,e,_,_,hA⟩:=h.a.1
 have:=may_c x.id x.seq x.u x.fr x.to' x.vT x.vW a cap r.A w (by rw[h.u];exact hs.2.2.2) hs.2.2.1 hA
 rw[←e] at this
 unfold Rv.ok
 rw[←h.id,←h.u]
 exact this
theorem one_form {L:List Rv} {k:Int} {r:Rv} (h1:¬ 2<k) (h2:k≠2) (h:r.ok=false):oneS L k r=(L,5):=by
 unfold oneS;rw[if_neg h1,if_pos ⟨h2,h⟩]
theorem one_add_there {L:List Rv} {r:Rv} {i:Nat} (h:r.ok=true) (hi:atS L r.id=some i):oneS L 0 r=(L,8):=by
 unfold oneS;rw[if_neg (by omega),if_neg (by simp[h]),hi];rfl
theorem one_add_new {L:List Rv} {r:Rv} (h:r.ok=true) (hi:atS L r.id=none):oneS L 0 r=finS L (insS L r):=by
 unfold oneS;rw[if_neg (by omega),if_neg (by simp[h]),hi];rfl
theorem one_put_none {L:List Rv} {r:Rv} (h:r.ok=true) (hi:atS L r.id=none):oneS L 1 r=(L,7):=by
 unfold oneS;rw[if_neg (by omega),if_neg (by simp[h]),hi];rfl
theorem one_put {L:List Rv} {r:Rv} {i:Nat} (h:r.ok=true) (hi:atS L r.id=some i):oneS L 1 r=finS L (insS (L.eraseIdx i) r):=by
 unfold oneS;rw[if_neg (by omega),if_neg (by simp[h]),hi];rfl
theorem one_drop_none {L:List Rv} {r:Rv} (hi:atS L r.id=none):oneS L 2 r=(L,7):=by
 unfold oneS;rw[if_neg (by omega),if_neg (by simp),hi];rfl
theorem one_drop {L:List Rv} {r:Rv} {i:Nat} (hi:atS L r.id=some i):oneS L 2 r=finS L (L.eraseIdx i):=by
 unfold oneS;rw[if_neg (by omega),if_neg (by simp),hi];rfl
theorem one_bad {L:List Rv} {k:Int} {r:Rv} (h:2<k):oneS L k r=(L,2):=by
 unfold oneS;rw[if_pos h]
theorem keepI_two {w w':World} {d m:Nat} {a n c} {L:List Rv} (hD:Dr w d m (.slice a n c) L) (h:Two d m w w'):KeepI w w':=by
 obtain ⟨U,rows,rvs,vs,hB,hP,hS⟩:=hD.has
 obtain ⟨avs,nvs,cvs,rfl⟩:=ldR_sli hS
 refine ⟨h.size,fun b o k i hc=>h.block b (World.block_lt_of_cell? w _ hc) (fun e => ?_) (fun e => ?_)⟩
 ·subst e;exact noInt_three hB o k i hc
 ·subst e;exact noInt_map hP.map o k i hc
theorem rwF_two {w w':World} {d m:Nat} {a n c} {L:List Rv} {x:Rw} {r:Rv} (hx:RwF w x r) (hD:Dr w d m (.slice a n c) L) (h:Two d m w w'):RwF w' x r:=hx.keepI (keepI_two hD h)
theorem insert_f {d m:Nat} {a n c} {L K:List Rv} {x:Rw} {r:Rv} (w:World) (hD:Dr w d m (.slice a n c) L) (hx:RwF w x r) (hr:r.ok=true) (hs:r.small) (hid:∀ y∈L,y.id≠r.id) (hn:L.length<128) :
  Calls Tryz.prog 166 #[.pointer (some ⟨d,0,none⟩),rwV x] w (OneIs w d m (.slice a n c) (finS K (insS L r))):=by
 refine (insert_c w hD hx hr hs hid hn).mono ?_
 rintro e w' ⟨hb,⟨h1,rfl,h2⟩ | ⟨h1,rfl⟩⟩
 ·have e:finS K (insS L r)=(insS L r,0):=by unfold finS;rw[insS_len,if_neg (by omega),if_pos h1]
  rw[e]
  exact ⟨hb,rfl,fun _=>h2⟩
 ·have e:finS K (insS L r)=(K,10):=by unfold finS;rw[insS_len,if_neg (by omega),if_neg (by rw[h1];decide)]
  rw[e]
  exact ⟨hb,rfl,fun h=>absurd h (by decide:¬ ((10:Int)=0))⟩
theorem drop_f {d m:Nat} {a n c} {L:List Rv} {x:Rw} {r:Rv} (w:World) (hD:Dr w d m (.slice a n c) L) (hx:RwF w x r) (hs:r.small) :
  Calls Tryz.prog 128 #[.pointer (some ⟨d,0,none⟩),rwV x] w (OneIs w d m (.slice a n c) (oneS L 2 r)):=by
 have hf:=hx.fit (by have:=hs.2.2.2;unfold maxLen;omega)
 cases hi:atS L r.id with
 | none =>
  refine (drop_none w hD hx.id hf hi).mono ?_
  rintro e w' ⟨rfl,hb⟩
  rw[one_drop_none hi]
  exact ⟨hb,rfl,fun h=>absurd h (by decide:¬ ((7:Int)=0))⟩
 | some i =>
  obtain ⟨hlt,_⟩:=atS_some hi
  refine (drop_some w hD hx.id hf hi (List.getElem?_eq_getElem hlt)).mono ?_
  rintro e w' ⟨rfl,hb,h2⟩
  rw[one_drop hi,finS_del (good_erase hD.good i)]
  exact ⟨hb,rfl,fun _=>h2⟩
set_option maxRecDepth 100000 in
set_option maxHeartbeats 4000000 in
theorem add_bad {d m:Nat} {a n c} {L:List Rv} {x:Rw} {r:Rv} (w:World) (hD:Dr w d m (.slice a n c) L) (hx:RwF w x r) (hs:r.small) (hr:r.ok=false) :
  Calls Tryz.prog 126 #[.pointer (some ⟨d,0,none⟩),rwV x] w (OneIs w d m (.slice a n c) (oneS L 0 r)):=by
 have hxf:=hx.fit (by have:=hs.2.2.2;unfold maxLen;omega)
 obtain ⟨xi,xq,xu,xf,xt,xT,xW,xA⟩:=x
 obtain ⟨⟨a5,n5,c5,q5⟩,⟨a6,n6,c6,q6⟩,⟨a7,n7,c7,q7⟩,_⟩:=hxf
 simp only at q5 q6 q7
 subst q5 q6 q7
 have hds:=hD.lt;have hdm:=hD.ltm
 obtain ⟨w0,hw0⟩:∃ w0,w0=w.alloc (Obj.cells #[.int .u32 xi,.int .u32 xq,nmV xu,.int .i64 xf,.int .i64 xt,.slice a5 n5 c5,.slice a6 n6 c6,.slice a7 n7 c7] 50):=⟨_,rfl⟩
 obtain ⟨pb,hpb⟩:∃ pb,pb=w.heap.size:=⟨_,rfl⟩
 have hb0:Below w.heap.size w w0:=by rw[hw0];(repeat (first | exact Below.refl _ _ | assumption | refine balloc ?_ _ | refine below_drewN ?_ _ | refine bstep (by assumption) ?_ | refine bstep (Past.prop _) ?_ | refine Below.setCell ?_ (by first | exact Nat.le_refl _ | (simp;done) | (simp;omega)) _))
 have B0:Blk w0 pb #[.int .u32 xi,.int .u32 xq,nmV xu,.int .i64 xf,.int .i64 xt,.slice a5 n5 c5,.slice a6 n6 c6,.slice a7 n7 c7] 50:=by rw[hw0,hpb];exact Blk.made _ _ _
 have HB0:=hidE B0;have HDR:=hidE (hD.past hb0);have HX:=hidE (hx.past hb0);have HBB:=hidE hb0
 have HS:=hidE hs;have HDS:=hidE hds;have HDM:=hidE hdm
 have HMY:=hidE (may_f (hx.past hb0) hs)
 rw[hr] at HMY
 have HR:=hidE hr
 go_enter Tryz.func126,Tryz.ntmps126
 go_upto_region 1 with fail
 rw[←hw0,←hpb]
 have b0:=B0.cell 0;have b1:=B0.cell 1;have b2:=B0.cell 2;have b3:=B0.cell 3;have b4:=B0.cell 4;have b5:=B0.cell 5;have b6:=B0.cell 6;have b7:=B0.cell 7;have bz:=B0.lt
 simp at b0 b1 b2 b3 b4 b5 b6 b7
 have HPB:=hidE hpb
 clear hw0 hD hx hr hb0 hpb B0 hds hdm hs
 go_wp2_with fail
 ((with_reducible refine (HMY.out).mono ?_);rintro e w1 ⟨rfl,hb1⟩)
 have HB1:=hidE hb1
 clear b0 b1 b2 b3 b4 b5 b6 b7 bz hb1 HMY
 have z1:Two d m w w1:=two_below (HBB.out.trans (HB1.out.mono HBB.out.size))
 have HZ:=hidE z1
 clear z1
 go_wp2
 go_ret
 rw[one_form (by omega) (by omega) HR.out]
 exact ⟨HZ.out,rfl,fun h=>absurd h (by decide:¬ ((5:Int)=0))⟩
set_option maxRecDepth 100000 in
set_option maxHeartbeats 4000000 in
theorem put_bad {d m:Nat} {a n c} {L:List Rv} {x:Rw} {r:Rv} (w:World) (hD:Dr w d m (.slice a n c) L) (hx:RwF w x r) (hs:r.small) (hr:r.ok=false) :
  Calls Tryz.prog 127 #[.pointer (some ⟨d,0,none⟩),rwV x] w (OneIs w d m (.slice a n c) (oneS L 1 r)):=by
 have hxf:=hx.fit (by have:=hs.2.2.2;unfold maxLen;omega)
 obtain ⟨xi,xq,xu,xf,xt,xT,xW,xA⟩:=x
 obtain ⟨⟨a5,n5,c5,q5⟩,⟨a6,n6,c6,q6⟩,⟨a7,n7,c7,q7⟩,_⟩:=hxf
 simp only at q5 q6 q7
 subst q5 q6 q7
 have hds:=hD.lt;have hdm:=hD.ltm
 obtain ⟨w0,hw0⟩:∃ w0,w0=w.alloc (Obj.cells #[.int .u32 xi,.int .u32 xq,nmV xu,.int .i64 xf,.int .i64 xt,.slice a5 n5 c5,.slice a6 n6 c6,.slice a7 n7 c7] 50):=⟨_,rfl⟩
 obtain ⟨pb,hpb⟩:∃ pb,pb=w.heap.size:=⟨_,rfl⟩
 have hb0:Below w.heap.size w w0:=by rw[hw0];(repeat (first | exact Below.refl _ _ | assumption | refine balloc ?_ _ | refine below_drewN ?_ _ | refine bstep (by assumption) ?_ | refine bstep (Past.prop _) ?_ | refine Below.setCell ?_ (by first | exact Nat.le_refl _ | (simp;done) | (simp;omega)) _))
 have B0:Blk w0 pb #[.int .u32 xi,.int .u32 xq,nmV xu,.int .i64 xf,.int .i64 xt,.slice a5 n5 c5,.slice a6 n6 c6,.slice a7 n7 c7] 50:=by rw[hw0,hpb];exact Blk.made _ _ _
 have HB0:=hidE B0;have HDR:=hidE (hD.past hb0);have HX:=hidE (hx.past hb0);have HBB:=hidE hb0
 have HS:=hidE hs;have HDS:=hidE hds;have HDM:=hidE hdm
 have HMY:=hidE (may_f (hx.past hb0) hs)
 rw[hr] at HMY
 have HR:=hidE hr
 go_enter Tryz.func127,Tryz.ntmps127
 go_upto_region 1 with fail
 rw[←hw0,←hpb]
 have b0:=B0.cell 0;have b1:=B0.cell 1;have b2:=B0.cell 2;have b3:=B0.cell 3;have b4:=B0.cell 4;have b5:=B0.cell 5;have b6:=B0.cell 6;have b7:=B0.cell 7;have bz:=B0.lt
 simp at b0 b1 b2 b3 b4 b5 b6 b7
 have HPB:=hidE hpb
 clear hw0 hD hx hr hb0 hpb B0 hds hdm hs
 go_wp2_with fail
 ((with_reducible refine (HMY.out).mono ?_);rintro e w1 ⟨rfl,hb1⟩)
 have HB1:=hidE hb1
 clear b0 b1 b2 b3 b4 b5 b6 b7 bz hb1 HMY
 have z1:Two d m w w1:=two_below (HBB.out.trans (HB1.out.mono HBB.out.size))
 have HZ:=hidE z1
 clear z1
 go_wp2
 go_ret
 rw[one_form (by omega) (by omega) HR.out]
 exact ⟨HZ.out,rfl,fun h=>absurd h (by decide:¬ ((5:Int)=0))⟩
set_option maxRecDepth 100000 in
set_option maxHeartbeats 8000000 in
theorem put_c {d m:Nat} {a n c} {L:List Rv} {x:Rw} {r:Rv} (w:World) (hD:Dr w d m (.slice a n c) L) (hx:RwF w x r) (hs:r.small) :
  Calls Tryz.prog 127 #[.pointer (some ⟨d,0,none⟩),rwV x] w (OneIs w d m (.slice a n c) (oneS L 1 r)):=by
 cases hr:r.ok
 ·exact put_bad w hD hx hs hr
 have hxf:=hx.fit (by have:=hs.2.2.2;unfold maxLen;omega)
 obtain ⟨xi,xq,xu,xf,xt,xT,xW,xA⟩:=x
 obtain ⟨⟨a5,n5,c5,q5⟩,⟨a6,n6,c6,q6⟩,⟨a7,n7,c7,q7⟩,_⟩:=hxf
 simp only at q5 q6 q7
 subst q5 q6 q7
 have hds:=hD.lt;have hdm:=hD.ltm
 obtain ⟨w0,hw0⟩:∃ w0,w0=w.alloc (Obj.cells #[.int .u32 xi,.int .u32 xq,nmV xu,.int .i64 xf,.int .i64 xt,.slice a5 n5 c5,.slice a6 n6 c6,.slice a7 n7 c7] 50):=⟨_,rfl⟩
 obtain ⟨pb,hpb⟩:∃ pb,pb=w.heap.size:=⟨_,rfl⟩
 have hb0:Below w.heap.size w w0:=by rw[hw0];(repeat (first | exact Below.refl _ _ | assumption | refine balloc ?_ _ | refine below_drewN ?_ _ | refine bstep (by assumption) ?_ | refine bstep (Past.prop _) ?_ | refine Below.setCell ?_ (by first | exact Nat.le_refl _ | (simp;done) | (simp;omega)) _))
 have B0:Blk w0 pb #[.int .u32 xi,.int .u32 xq,nmV xu,.int .i64 xf,.int .i64 xt,.slice a5 n5 c5,.slice a6 n6 c6,.slice a7 n7 c7] 50:=by rw[hw0,hpb];exact Blk.made _ _ _
 have HB0:=hidE B0;have HDR:=hidE (hD.past hb0);have HX:=hidE (hx.past hb0);have HBB:=hidE hb0
 have HS:=hidE hs;have HDS:=hidE hds;have HDM:=hidE hdm
 have HMY:=hidE (may_f (hx.past hb0) hs)
 rw[hr] at HMY
 have HR:=hidE hr
 go_enter Tryz.func127,Tryz.ntmps127
 go_upto_region 1 with fail
 rw[←hw0,←hpb]
 have b0:=B0.cell 0;have b1:=B0.cell 1;have b2:=B0.cell 2;have b3:=B0.cell 3;have b4:=B0.cell 4;have b5:=B0.cell 5;have b6:=B0.cell 6;have b7:=B0.cell 7;have bz:=B0.lt
 simp at b0 b1 b2 b3 b4 b5 b6 b7
 have HPB:=hidE hpb
 clear hw0 hD hx hr hb0 hpb B0 hds hdm hs
 go_wp2_with fail
 ((with_reducible refine (HMY.out).mono ?_);rintro e w1 ⟨rfl,hb1⟩)
 have HB1:=hidE hb1
 clear b0 b1 b2 b3 b4 b5 b6 b7 bz hb1 HMY
 have hB1:=HB0.out.past HB1.out
 have b0:=hB1.cell 0;have b1:=hB1.cell 1;have b2:=hB1.cell 2;have b3:=hB1.cell 3;have b4:=hB1.cell 4;have b5:=hB1.cell 5;have b6:=hB1.cell 6;have b7:=hB1.cell 7;have bz:=hB1.lt
 simp at b0 b1 b2 b3 b4 b5 b6 b7
 have HDP:=hidE (drop_f w1 (HDR.out.past HB1.out) (HX.out.past HB1.out) HS.out)
 have z1:Two d m w w1:=two_below (HBB.out.trans (HB1.out.mono HBB.out.size))
 have HZ:=hidE z1
 clear z1
 cases hi:atS L r.id with
 | none =>
  rw[one_drop_none hi] at HDP
  have HPN:=hidE (one_put_none HR.out hi)
  clear hi
  go_wp2_with fail
  ((with_reducible refine (HDP.out).mono ?_);rintro e w2 ⟨hb2,rfl,_⟩)
  have HZ2:=hidE (HZ.out.trans hb2)
  clear hb2 b0 b1 b2 b3 b4 b5 b6 b7 bz
  go_wp2
  go_ret
  rw[HPN.out]
  exact ⟨HZ2.out,rfl,fun h=>absurd h (by decide:¬ ((7:Int)=0))⟩
 | some i =>
  have hgo:=HDR.out.good
  have hel:=erase_len hi
  rw[one_drop hi,finS_del (good_erase hgo i)] at HDP
  have HPN:=hidE (one_put HR.out hi)
  have HID:=hidE (ids_erase hgo.ids hi)
  have HN:=hidE (show (L.eraseIdx i).length<128 from by have:=hgo.few;omega)
  have HP1:=hidE hB1
  clear hi hgo hel
  go_wp2_with fail
  ((with_reducible refine (HDP.out).mono ?_);rintro e w2 ⟨hb2,rfl,hd2⟩)
  have HZ2:=hidE (HZ.out.trans hb2)
  have HD2:=hidE (hd2 rfl)
  have hB2:=hb2.blk HP1.out (by have:=HPB.out;have:=HDS.out;omega) (by have:=HPB.out;have:=HDM.out;omega)
  have HX2:=hidE (rwF_two (HX.out.past HB1.out) (HDR.out.past HB1.out) hb2)
  have HIN:=hidE (insert_f (K:=L) w2 HD2.out HX2.out HR.out HS.out HID.out HN.out)
  clear hb2 hd2 b0 b1 b2 b3 b4 b5 b6 b7 bz
  have b0:=hB2.cell 0;have b1:=hB2.cell 1;have b2:=hB2.cell 2;have b3:=hB2.cell 3;have b4:=hB2.cell 4;have b5:=hB2.cell 5;have b6:=hB2.cell 6;have b7:=hB2.cell 7;have bz:=hB2.lt
  simp at b0 b1 b2 b3 b4 b5 b6 b7
  clear hB2
  go_wp2_with fail
  ((with_reducible refine (HIN.out).mono ?_);rintro e w3 ⟨hb3,rfl,hd3⟩)
  have HZ3:=hidE (HZ2.out.trans hb3)
  have HD3:=hidE hd3
  clear hb3 hd3 b0 b1 b2 b3 b4 b5 b6 b7 bz
  go_wp2
  go_ret
  rw[HPN.out]
  exact ⟨HZ3.out,rfl,HD3.out⟩
set_option maxRecDepth 100000 in
set_option maxHeartbeats 8000000 in
theorem add_there {d m:Nat} {a n c} {L:List Rv} {x:Rw} {r:Rv} (w:World) (hD:Dr w d m (.slice a n c) L) (hx:RwF w x r) (hs:r.small) {i:Nat} (hr:r.ok=true) (hi:atS L r.id=some i) :
  Calls Tryz.prog 126 #[.pointer (some ⟨d,0,none⟩),rwV x] w (OneIs w d m (.slice a n c) (oneS L 0 r)):=by
 have hxf:=hx.fit (by have:=hs.2.2.2;unfold maxLen;omega)
 obtain ⟨xi,xq,xu,xf,xt,xT,xW,xA⟩:=x
 obtain ⟨⟨a5,n5,c5,q5⟩,⟨a6,n6,c6,q6⟩,⟨a7,n7,c7,q7⟩,_⟩:=hxf
 simp only at q5 q6 q7
 subst q5 q6 q7
 have hds:=hD.lt;have hdm:=hD.ltm
 obtain ⟨w0,hw0⟩:∃ w0,w0=w.alloc (Obj.cells #[.int .u32 xi,.int .u32 xq,nmV xu,.int .i64 xf,.int .i64 xt,.slice a5 n5 c5,.slice a6 n6 c6,.slice a7 n7 c7] 50):=⟨_,rfl⟩
 obtain ⟨pb,hpb⟩:∃ pb,pb=w.heap.size:=⟨_,rfl⟩
 have hb0:Below w.heap.size w w0:=by rw[hw0];(repeat (first | exact Below.refl _ _ | assumption | refine balloc ?_ _ | refine below_drewN ?_ _ | refine bstep (by assumption) ?_ | refine bstep (Past.prop _) ?_ | refine Below.setCell ?_ (by first | exact Nat.le_refl _ | (simp;done) | (simp;omega)) _))
 have B0:Blk w0 pb #[.int .u32 xi,.int .u32 xq,nmV xu,.int .i64 xf,.int .i64 xt,.slice a5 n5 c5,.slice a6 n6 c6,.slice a7 n7 c7] 50:=by rw[hw0,hpb];exact Blk.made _ _ _
 have HB0:=hidE B0;have HDR:=hidE (hD.past hb0);have HX:=hidE (hx.past hb0);have HBB:=hidE hb0
 have HS:=hidE hs;have HDS:=hidE hds;have HDM:=hidE hdm
 have HMY:=hidE (may_f (hx.past hb0) hs)
 rw[hr] at HMY
 have HR:=hidE hr
 go_enter Tryz.func126,Tryz.ntmps126
 go_upto_region 1 with fail
 rw[←hw0,←hpb]
 have b0:=B0.cell 0;have b1:=B0.cell 1;have b2:=B0.cell 2;have b3:=B0.cell 3;have b4:=B0.cell 4;have b5:=B0.cell 5;have b6:=B0.cell 6;have b7:=B0.cell 7;have bz:=B0.lt
 simp at b0 b1 b2 b3 b4 b5 b6 b7
 have HPB:=hidE hpb
 clear hw0 hD hx hr hb0 hpb B0 hds hdm hs
 go_wp2_with fail
 ((with_reducible refine (HMY.out).mono ?_);rintro e w1 ⟨rfl,hb1⟩)
 have HB1:=hidE hb1
 clear b0 b1 b2 b3 b4 b5 b6 b7 bz hb1 HMY
 obtain ⟨U,rows,rvs,vs,hB,hP,hS⟩:=HDR.out.has
 have hBw:=hB.past HB1.out
 have q0:=hBw.cell 0;have q1:=hBw.cell 1;have qz:=hBw.lt
 simp at q0 q1
 have hB1:=HB0.out.past HB1.out
 have b0:=hB1.cell 0;have bz:=hB1.lt
 simp at b0
 have hxi:xi=r.id:=HX.out.id
 have HP1:=hidE (hP.past HB1.out);have HBX:=hidE hB1
 clear hB hP hS hB1 hBw
 subst hxi
 have HFD:=hidE (fun w' (hb:Below w1.heap.size w1 w')=>(find_some (.slice a n c) (HP1.out.past hb) hi (List.getElem?_eq_getElem (atS_some hi).1)).mono (fun e w3 (h:∃ y,e = .returned (.tuple #[rwV y,.bool true])∧InRows U rows y∧y.id=(L[i]'((atS_some hi).1)).id∧Below w'.heap.size w' w3)=>show ∃ y,e = .returned (.tuple #[rwV y,.bool true])∧y.fit∧Below w'.heap.size w' w3 from by
  obtain ⟨y,e1,h1,h2,h3⟩:=h
  exact ⟨y,e1,HP1.out.rowFit h1 h2 (List.getElem_mem _),h3⟩))
 have HPN:=hidE (one_add_there HR.out hi)
 clear hi
 go_upto_region 3 with fail
 refine wp_region_J 11 [9] (nthR [detR (.pointer (some ⟨d,0,none⟩)),detR (.pointer (some ⟨d,0,none⟩)),detR (.pointer (some ⟨d,0,none⟩)),detR (ctV (.slice a n c) m),detR (.pointer (some ⟨pb,0,none⟩)),detR (.int .u32 r.id),fdtR,fdtR,fdvR,detR (.bool true),newR w1.heap.size #[.int .u32 0,.int .u32 0,.string ⟨#[]⟩,.int .i64 0,.int .i64 0,.slice none 0 0,.slice none 0 0,.slice none 0 0] 50]) (fun _=>false) (by kernel_rfl) (by decide) (by kernel_rfl) (stab_nth (by intro r hr;simp only[List.mem_cons,List.not_mem_nil,or_false] at hr;rcases hr with rfl | rfl | rfl | rfl | rfl | rfl | rfl | rfl | rfl | rfl | rfl<;>first | exact stab_det _ | exact stab_fdt | exact stab_fdv | exact stab_new _ _ _)) ?_ ?_ ?_
 ·intro i o hi ho
  match i,hi with
  | 0, _ =>
   obtain rfl:=Option.some.inj ho
   intro u x hd
   have hc:=Past.cell x
   simp[go_sem,gives,frm,Act.put,nthR,detR,Region.wanted,Below.refl]
  | 1, _ =>
   obtain rfl:=Option.some.inj ho
   intro u x hd
   have hc:=Past.cell x
   have d0:=hd 0 (by decide) (by kernel_rfl)
   simp only[nthR,detR,List.getD_cons_zero] at d0
   simp[go_sem,gives,frm,Act.put,nthR,detR,Region.wanted,Below.refl,d0]
  | 2, _ =>
   obtain rfl:=Option.some.inj ho
   intro u x hd
   have hc:=Past.cell x
   have d1:=hd 1 (by decide) (by kernel_rfl)
   simp only[nthR,detR,List.getD_cons_zero,List.getD_cons_succ] at d1
   simp[go_sem,gives,frm,Act.put,nthR,detR,Region.wanted,Below.refl,d1]
  | 3, _ =>
   obtain rfl:=Option.some.inj ho
   intro u x hd
   have hc:=Past.cell x
   have d2:=hd 2 (by decide) (by kernel_rfl)
   simp only[nthR,detR,List.getD_cons_zero,List.getD_cons_succ] at d2
   simp[go_sem,gives,frm,Act.put,nthR,detR,Region.wanted,Below.refl,hc,d2,q0,q1,qz]
  | 4, _ =>
   obtain rfl:=Option.some.inj ho
   intro u x hd
   have hc:=Past.cell x
   simp[go_sem,gives,frm,Act.put,nthR,detR,Region.wanted,Below.refl]
  | 5, _ =>
   obtain rfl:=Option.some.inj ho
   intro u x hd
   have hc:=Past.cell x
   have d4:=hd 4 (by decide) (by kernel_rfl)
   simp only[nthR,detR,List.getD_cons_zero,List.getD_cons_succ] at d4
   simp[go_sem,gives,frm,Act.put,nthR,detR,Region.wanted,Below.refl,hc,d4,b0,bz]
  | 6, _ =>
   obtain rfl:=Option.some.inj ho
   intro u x hd
   have hc:=Past.cell x
   have d3:=hd 3 (by decide) (by kernel_rfl)
   have d5:=hd 5 (by decide) (by kernel_rfl)
   simp only[nthR,detR,List.getD_cons_zero,List.getD_cons_succ] at d3 d5
   simp[go_sem,gives,frm,Act.put,nthR,Region.wanted,d3,d5]
   (with_reducible refine (HFD.out _ (Past.prop x)).mono ?_);rintro e w3 ⟨y,rfl,h1,hb3⟩;exact ⟨_,rfl,hb3,⟨y,rfl,h1⟩⟩
  | 7, _ =>
   obtain rfl:=Option.some.inj ho
   intro u x hd
   have hc:=Past.cell x
   have h6:fdtR (u 6) x.1:=hd 6 (by decide) (by kernel_rfl)
   simp[go_sem,gives,frm,Act.put,nthR,Region.wanted,Below.refl]
   exact h6
  | 8, _ =>
   obtain rfl:=Option.some.inj ho
   intro u x hd
   have hc:=Past.cell x
   have h7:∃ y,u 7 = .tuple #[rwV y,.bool true]∧y.fit:=hd 7 (by decide) (by kernel_rfl)
   have e7:=h7.choose_spec.1;have hs1:=h7.choose_spec.2;generalize h7.choose=y at *
   simp[go_sem,gives,frm,Act.put,nthR,Region.wanted,Below.refl,e7]
   exact ⟨y,rfl,hs1⟩
  | 9, _ =>
   obtain rfl:=Option.some.inj ho
   intro u x hd
   have hc:=Past.cell x
   have h7:∃ y,u 7 = .tuple #[rwV y,.bool true]∧y.fit:=hd 7 (by decide) (by kernel_rfl)
   have e7:=h7.choose_spec.1;have hs1:=h7.choose_spec.2;generalize h7.choose=y at *
   simp[go_sem,gives,frm,Act.put,nthR,Region.wanted,Below.refl,detR,e7]
  | 10, _ =>
   obtain rfl:=Option.some.inj ho
   intro u x hd
   have hc:=Past.cell x
   simp[go_sem,gives,nthR,Region.wanted]
   exact ⟨by (repeat (first | exact Below.refl _ _ | assumption | refine balloc ?_ _ | refine below_drewN ?_ _ | refine bstep (by assumption) ?_ | refine bstep (Past.prop _) ?_ | refine Below.setCell ?_ (by first | exact Nat.le_refl _ | (simp;done) | (simp;omega)) _)),⟨_,rfl,(Past.prop x).size,Blk.made _ _ _⟩⟩
  | i+11,h=>exact absurd h (by omega)
 ·intro i o hx ho
  simp only[List.mem_cons,List.not_mem_nil,or_false] at hx
  rcases hx with rfl
  ·obtain rfl:=Option.some.inj ho
   refine ⟨rfl,fun _ _ _ _ h=>h,fun u x hd => ?_⟩
   have h7:∃ y,u 7 = .tuple #[rwV y,.bool true]∧y.fit:=hd 7 (by decide) (by kernel_rfl)
   have e7:=h7.choose_spec.1;have hs1:=h7.choose_spec.2;generalize h7.choose=y at *
   refine ⟨rfl,.bool true,rfl,fun w' => ?_⟩
   simp[go_sem,frm,Act.put,e7]
 ·intro u x9 hu hne
  obtain ⟨p5,e10,p5z,B5⟩:newR w1.heap.size #[.int .u32 0,.int .u32 0,.string ⟨#[]⟩,.int .i64 0,.int .i64 0,.slice none 0 0,.slice none 0 0,.slice none 0 0] 50 (u 10) x9.1:=hu 10 (by decide)
  obtain ⟨y,e8,hyf⟩:fdvR (u 8) x9.1:=hu 8 (by decide)
  have e9:u 9 = .bool true:=hu 9 (by decide)
  obtain ⟨yi,yq,yu,yf,yt,yT,yW,yA⟩:=y
  obtain ⟨⟨g5,o5,k5,z5⟩,⟨g6,o6,k6,z6⟩,⟨g7,o7,k7,z7⟩,hyl⟩:=hyf
  simp only at z5 z6 z7 hyl
  subst z5 z6 z7
  simp only[frm,List.take,Act.put,e8,e9,e10]
  have z1:Below w.heap.size w w1:=HBB.out.trans (HB1.out.mono HBB.out.size)
  have z2:Below w.heap.size w x9.1:=z1.trans (x9.2.mono z1.size)
  have HQ:=hidE (below_eight z2 (show w.heap.size≤p5 from by have:=z1.size;omega) (.int .u32 yi) (.int .u32 yq) (nmV yu) (.int .i64 yf) (.int .i64 yt) (.slice g5 o5 k5) (.slice g6 o6 k6) (.slice g7 o7 k7))
  have r0:=B5.cell 0;have r1:=B5.cell 1;have r2:=B5.cell 2;have r3:=B5.cell 3;have r4:=B5.cell 4;have r5:=B5.cell 5;have r6:=B5.cell 6;have r7:=B5.cell 7;have rf:=B5.free;have rz:=B5.lt
  simp at r0 r1 r2 r3 r4 r5 r6 r7
  clear hu hne e8 e9 e10 z1 z2 B5 p5z q0 q1 qz b0 bz
  generalize x9.1=w9 at *
  go_wp2
  go_ret
  rw[HPN.out]
  exact ⟨two_below HQ.out,rfl,fun h=>absurd h (by decide:¬ ((8:Int)=0))⟩
set_option maxRecDepth 100000 in
set_option maxHeartbeats 8000000 in
theorem add_new {d m:Nat} {a n c} {L:List Rv} {x:Rw} {r:Rv} (w:World) (hD:Dr w d m (.slice a n c) L) (hx:RwF w x r) (hs:r.small) (hr:r.ok=true) (hi:atS L r.id=none) :
  Calls Tryz.prog 126 #[.pointer (some ⟨d,0,none⟩),rwV x] w (OneIs w d m (.slice a n c) (oneS L 0 r)):=by
 have hxf:=hx.fit (by have:=hs.2.2.2;unfold maxLen;omega)
 obtain ⟨xi,xq,xu,xf,xt,xT,xW,xA⟩:=x
 obtain ⟨⟨a5,n5,c5,q5⟩,⟨a6,n6,c6,q6⟩,⟨a7,n7,c7,q7⟩,_⟩:=hxf
 simp only at q5 q6 q7
 subst q5 q6 q7
 have hds:=hD.lt;have hdm:=hD.ltm
 obtain ⟨w0,hw0⟩:∃ w0,w0=w.alloc (Obj.cells #[.int .u32 xi,.int .u32 xq,nmV xu,.int .i64 xf,.int .i64 xt,.slice a5 n5 c5,.slice a6 n6 c6,.slice a7 n7 c7] 50):=⟨_,rfl⟩
 obtain ⟨pb,hpb⟩:∃ pb,pb=w.heap.size:=⟨_,rfl⟩
 have hb0:Below w.heap.size w w0:=by rw[hw0];(repeat (first | exact Below.refl _ _ | assumption | refine balloc ?_ _ | refine below_drewN ?_ _ | refine bstep (by assumption) ?_ | refine bstep (Past.prop _) ?_ | refine Below.setCell ?_ (by first | exact Nat.le_refl _ | (simp;done) | (simp;omega)) _))
 have B0:Blk w0 pb #[.int .u32 xi,.int .u32 xq,nmV xu,.int .i64 xf,.int .i64 xt,.slice a5 n5 c5,.slice a6 n6 c6,.slice a7 n7 c7] 50:=by rw[hw0,hpb];exact Blk.made _ _ _
 have HB0:=hidE B0;have HDR:=hidE (hD.past hb0);have HX:=hidE (hx.past hb0);have HBB:=hidE hb0
 have HS:=hidE hs;have HDS:=hidE hds;have HDM:=hidE hdm
 have HMY:=hidE (may_f (hx.past hb0) hs)
 rw[hr] at HMY
 have HR:=hidE hr
 go_enter Tryz.func126,Tryz.ntmps126
 go_upto_region 1 with fail
 rw[←hw0,←hpb]
 have b0:=B0.cell 0;have b1:=B0.cell 1;have b2:=B0.cell 2;have b3:=B0.cell 3;have b4:=B0.cell 4;have b5:=B0.cell 5;have b6:=B0.cell 6;have b7:=B0.cell 7;have bz:=B0.lt
 simp at b0 b1 b2 b3 b4 b5 b6 b7
 have HPB:=hidE hpb
 clear hw0 hD hx hr hb0 hpb B0 hds hdm hs
 go_wp2_with fail
 ((with_reducible refine (HMY.out).mono ?_);rintro e w1 ⟨rfl,hb1⟩)
 have HB1:=hidE hb1
 clear b0 b1 b2 b3 b4 b5 b6 b7 bz hb1 HMY
 obtain ⟨U,rows,rvs,vs,hB,hP,hS⟩:=HDR.out.has
 have hBw:=hB.past HB1.out
 have q0:=hBw.cell 0;have q1:=hBw.cell 1;have qz:=hBw.lt
 simp at q0 q1
 have hB1:=HB0.out.past HB1.out
 have b0:=hB1.cell 0;have bz:=hB1.lt
 simp at b0
 have hxi:xi=r.id:=HX.out.id
 have HP1:=hidE (hP.past HB1.out);have HBX:=hidE hB1
 clear hB hP hS hB1 hBw
 subst hxi
 have HFD:=hidE (fun w' (hb:Below w1.heap.size w1 w')=>find_none (.slice a n c) (HP1.out.past hb) hi)
 have HPN:=hidE (one_add_new HR.out hi)
 have HID:=hidE (atS_none.1 hi)
 clear hi
 go_upto_region 3 with fail
 refine wp_region_J 11 [9] (nthR [detR (.pointer (some ⟨d,0,none⟩)),detR (.pointer (some ⟨d,0,none⟩)),detR (.pointer (some ⟨d,0,none⟩)),detR (ctV (.slice a n c) m),detR (.pointer (some ⟨pb,0,none⟩)),detR (.int .u32 r.id),detR (.tuple #[rvZ,.bool false]),detR (.tuple #[rvZ,.bool false]),detR rvZ,detR (.bool false),newR w1.heap.size #[.int .u32 0,.int .u32 0,.string ⟨#[]⟩,.int .i64 0,.int .i64 0,.slice none 0 0,.slice none 0 0,.slice none 0 0] 50]) (fun _=>false) (by kernel_rfl) (by decide) (by kernel_rfl) (stab_nth (by intro r hr;simp only[List.mem_cons,List.not_mem_nil,or_false] at hr;rcases hr with rfl | rfl | rfl | rfl | rfl | rfl | rfl | rfl | rfl | rfl | rfl<;>first | exact stab_det _ | exact stab_new _ _ _)) ?_ ?_ ?_
 ·intro i o hi ho
  match i,hi with
  | 0, _ =>
   obtain rfl:=Option.some.inj ho
   intro u x hd
   have hc:=Past.cell x
   simp[go_sem,gives,frm,Act.put,nthR,detR,Region.wanted,Below.refl]
  | 1, _ =>
   obtain rfl:=Option.some.inj ho
   intro u x hd
   have hc:=Past.cell x
   have d0:=hd 0 (by decide) (by kernel_rfl)
   simp only[nthR,detR,List.getD_cons_zero] at d0
   simp[go_sem,gives,frm,Act.put,nthR,detR,Region.wanted,Below.refl,d0]
  | 2, _ =>
   obtain rfl:=Option.some.inj ho
   intro u x hd
   have hc:=Past.cell x
   have d1:=hd 1 (by decide) (by kernel_rfl)
   simp only[nthR,detR,List.getD_cons_zero,List.getD_cons_succ] at d1
   simp[go_sem,gives,frm,Act.put,nthR,detR,Region.wanted,Below.refl,d1]
  | 3, _ =>
   obtain rfl:=Option.some.inj ho
   intro u x hd
   have hc:=Past.cell x
   have d2:=hd 2 (by decide) (by kernel_rfl)
   simp only[nthR,detR,List.getD_cons_zero,List.getD_cons_succ] at d2
   simp[go_sem,gives,frm,Act.put,nthR,detR,Region.wanted,Below.refl,hc,d2,q0,q1,qz]
  | 4, _ =>
   obtain rfl:=Option.some.inj ho
   intro u x hd
   have hc:=Past.cell x
   simp[go_sem,gives,frm,Act.put,nthR,detR,Region.wanted,Below.refl]
  | 5, _ =>
   obtain rfl:=Option.some.inj ho
   intro u x hd
   have hc:=Past.cell x
   have d4:=hd 4 (by decide) (by kernel_rfl)
   simp only[nthR,detR,List.getD_cons_zero,List.getD_cons_succ] at d4
   simp[go_sem,gives,frm,Act.put,nthR,detR,Region.wanted,Below.refl,hc,d4,b0,bz]
  | 6, _ =>
   obtain rfl:=Option.some.inj ho
   intro u x hd
   have hc:=Past.cell x
   have d3:=hd 3 (by decide) (by kernel_rfl)
   have d5:=hd 5 (by decide) (by kernel_rfl)
   simp only[nthR,detR,List.getD_cons_zero,List.getD_cons_succ] at d3 d5
   simp[go_sem,gives,frm,Act.put,nthR,Region.wanted,d3,d5]
   (with_reducible refine (HFD.out _ (Past.prop x)).mono ?_);rintro e w3 ⟨rfl,hb3⟩;exact ⟨_,rfl,hb3,rfl⟩
  | 7, _ =>
   obtain rfl:=Option.some.inj ho
   intro u x hd
   have hc:=Past.cell x
   have d6:u 6 = .tuple #[rvZ,.bool false]:=hd 6 (by decide) (by kernel_rfl)
   simp[go_sem,gives,frm,Act.put,nthR,Region.wanted,Below.refl,detR,d6]
  | 8, _ =>
   obtain rfl:=Option.some.inj ho
   intro u x hd
   have hc:=Past.cell x
   have d7:u 7 = .tuple #[rvZ,.bool false]:=hd 7 (by decide) (by kernel_rfl)
   simp[go_sem,gives,frm,Act.put,nthR,Region.wanted,Below.refl,detR,d7]
  | 9, _ =>
   obtain rfl:=Option.some.inj ho
   intro u x hd
   have hc:=Past.cell x
   have d7:u 7 = .tuple #[rvZ,.bool false]:=hd 7 (by decide) (by kernel_rfl)
   simp[go_sem,gives,frm,Act.put,nthR,Region.wanted,Below.refl,detR,d7]
  | 10, _ =>
   obtain rfl:=Option.some.inj ho
   intro u x hd
   have hc:=Past.cell x
   simp[go_sem,gives,nthR,Region.wanted]
   exact ⟨by (repeat (first | exact Below.refl _ _ | assumption | refine balloc ?_ _ | refine below_drewN ?_ _ | refine bstep (by assumption) ?_ | refine bstep (Past.prop _) ?_ | refine Below.setCell ?_ (by first | exact Nat.le_refl _ | (simp;done) | (simp;omega)) _)),⟨_,rfl,(Past.prop x).size,Blk.made _ _ _⟩⟩
  | i+11,h=>exact absurd h (by omega)
 ·intro i o hx ho
  simp only[List.mem_cons,List.not_mem_nil,or_false] at hx
  rcases hx with rfl
  ·obtain rfl:=Option.some.inj ho
   refine ⟨rfl,fun _ _ _ _ h=>h,fun u x hd => ?_⟩
   have d7:=hd 7 (by decide) (by kernel_rfl)
   simp only[nthR,detR,List.getD_cons_zero,List.getD_cons_succ] at d7
   refine ⟨rfl,.bool false,rfl,fun w' => ?_⟩
   simp[go_sem,frm,Act.put,d7]
 ·intro u x9 hu hne
  obtain ⟨p5,e10,p5z,B5⟩:newR w1.heap.size #[.int .u32 0,.int .u32 0,.string ⟨#[]⟩,.int .i64 0,.int .i64 0,.slice none 0 0,.slice none 0 0,.slice none 0 0] 50 (u 10) x9.1:=hu 10 (by decide)
  have e8:u 8=rvZ:=hu 8 (by decide)
  have e9:u 9 = .bool false:=hu 9 (by decide)
  simp only[frm,List.take,Act.put,e8,e9,e10]
  obtain ⟨w8,hw8⟩:∃ w8,w8=((((((((x9.1.setCell ⟨p5,0,none⟩ (.int .u32 0)).setCell ⟨p5,1,none⟩ (.int .u32 0)).setCell ⟨p5,2,none⟩ (.string ⟨#[]⟩)).setCell ⟨p5,3,none⟩ (.int .i64 0)).setCell ⟨p5,4,none⟩ (.int .i64 0)).setCell ⟨p5,5,none⟩ (.slice none 0 0)).setCell ⟨p5,6,none⟩ (.slice none 0 0)).setCell ⟨p5,7,none⟩ (.slice none 0 0)):=⟨_,rfl⟩
  have hb8:Below w1.heap.size w1 w8:=by rw[hw8];exact below_eight x9.2 p5z _ _ _ _ _ _ _ _
  have HB8:=hidE hb8
  have r0:=B5.cell 0;have r1:=B5.cell 1;have r2:=B5.cell 2;have r3:=B5.cell 3;have r4:=B5.cell 4;have r5:=B5.cell 5;have r6:=B5.cell 6;have r7:=B5.cell 7;have rf:=B5.free;have rz:=B5.lt
  simp at r0 r1 r2 r3 r4 r5 r6 r7
  clear hu hne e8 e9 e10 hb8 B5 p5z q0 q1 qz b0 bz HFD
  generalize x9.1=w9 at *
  go_upto_region 6 with fail
  rw[←hw8]
  clear hw8 r0 r1 r2 r3 r4 r5 r6 r7 rf rz
  have hD8:=(HDR.out.past HB1.out).past HB8.out
  obtain ⟨U2,rows2,rvs2,vs2,hB2,hP2,hS2⟩:=hD8.has
  have q0:=hB2.cell 0;have q1:=hB2.cell 1;have qz:=hB2.lt
  simp at q0 q1
  have HCT:=hidE (count_b (.slice a n c) hP2)
  have HD8:=hidE hD8;have HX8:=hidE ((HX.out.past HB1.out).past HB8.out);have HBX8:=hidE (HBX.out.past HB8.out)
  have HZ8:=hidE (two_below (d:=d) (m:=m) ((HBB.out.trans (HB1.out.mono HBB.out.size)).trans (HB8.out.mono (by have:=HBB.out.size;have:=HB1.out.size;omega))))
  clear hD8 hB2 hP2 hS2
  go_wp2_with fail
  ((with_reducible refine (HCT.out).mono ?_);rintro e w10 ⟨rfl,hb10⟩)
  have HB10:=hidE hb10
  clear q0 q1 qz hb10 HCT
  by_cases hn:L.length<128
  ·have dn:decide ((128:Int)≤(L.length:Int))=false:=decide_eq_false (by omega)
   have hB10:=HBX8.out.past HB10.out
   have b0:=hB10.cell 0;have b1:=hB10.cell 1;have b2:=hB10.cell 2;have b3:=hB10.cell 3;have b4:=hB10.cell 4;have b5:=hB10.cell 5;have b6:=hB10.cell 6;have b7:=hB10.cell 7;have bz:=hB10.lt
   simp at b0 b1 b2 b3 b4 b5 b6 b7
   have HIN:=hidE (insert_f (K:=L) w10 (HD8.out.past HB10.out) (HX8.out.past HB10.out) HR.out HS.out HID.out hn)
   clear hn hB10
   go_wp2_with fail
   ((with_reducible refine (HIN.out).mono ?_);rintro e w11 ⟨hb11,rfl,hd11⟩)
   have HZ11:=hidE ((HZ8.out.trans (two_below HB10.out)).trans hb11)
   have HD11:=hidE hd11
   clear hb11 hd11 b0 b1 b2 b3 b4 b5 b6 b7 bz
   go_wp2
   go_ret
   rw[HPN.out]
   exact ⟨HZ11.out,rfl,HD11.out⟩
  ·have dn:decide ((128:Int)≤(L.length:Int))=true:=decide_eq_true (by omega)
   have HZ11:=hidE (HZ8.out.trans (two_below (d:=d) (m:=m) HB10.out))
   have HE:=hidE (show finS L (insS L r)=(L,6) from by unfold finS;rw[insS_len,if_pos (by omega)])
   clear hn
   go_wp2
   go_ret
   rw[HPN.out,HE.out]
   exact ⟨HZ11.out,rfl,fun h=>absurd h (by decide:¬ ((6:Int)=0))⟩
theorem add_c {d m:Nat} {a n c} {L:List Rv} {x:Rw} {r:Rv} (w:World) (hD:Dr w d m (.slice a n c) L) (hx:RwF w x r) (hs:r.small) :
  Calls Tryz.prog 126 #[.pointer (some ⟨d,0,none⟩),rwV x] w (OneIs w d m (.slice a n c) (oneS L 0 r)):=by
 cases hr:r.ok
 ·exact add_bad w hD hx hs hr
 ·cases hi:atS L r.id with
  | none=>exact add_new w hD hx hs hr hi
  | some i=>exact add_there w hD hx hs hr hi
end
section
open Go.ChangeShapes Go.WideShapes Go.ChangeAt Go.RowKit
attribute [local irreducible] Go.Calls
attribute [local go_sem] run_store_fnZ
abbrev chV (kd:Int) (x:Rw):Value := .agg #[.int .u8 kd,.int .u32 x.id,.int .u32 x.seq,nmV x.u,.int .i64 x.fr,.int .i64 x.to',x.vT,x.vW,x.vA]
set_option maxRecDepth 100000 in
set_option maxHeartbeats 8000000 in
theorem change_bad {d m:Nat} {a n c} {L:List Rv} {kd:Int} {x:Rw} {r:Rv} (w:World) (hD:Dr w d m (.slice a n c) L) (hx:RwF w x r) (hs:r.small) (hk:2<kd) (hk2:kd≤255) :
  Calls Tryz.prog 55 #[.pointer (some ⟨d,0,none⟩),chV kd x] w (OneIs w d m (.slice a n c) (oneS L kd r)):=by
 have HPN:=hidE (one_bad (L:=L) (r:=r) hk)
 have dk:decide ((3:Int)≤kd)=true:=decide_eq_true (by omega)
 have hxf:=hx.fit (by have:=hs.2.2.2;unfold maxLen;omega)
 obtain ⟨xi,xq,xu,xf,xt,xT,xW,xA⟩:=x
 obtain ⟨⟨a5,n5,c5,q5⟩,⟨a6,n6,c6,q6⟩,⟨a7,n7,c7,q7⟩,_⟩:=hxf
 simp only at q5 q6 q7
 subst q5 q6 q7
 obtain ⟨w0,hw0⟩:∃ w0,w0=w.alloc (Obj.cells #[.int .u8 kd,.int .u32 xi,.int .u32 xq,nmV xu,.int .i64 xf,.int .i64 xt,.slice a5 n5 c5,.slice a6 n6 c6,.slice a7 n7 c7] 52):=⟨_,rfl⟩
 obtain ⟨pb,hpb⟩:∃ pb,pb=w.heap.size:=⟨_,rfl⟩
 have hb0:Below w.heap.size w w0:=by rw[hw0];(repeat (first | exact Below.refl _ _ | assumption | refine balloc ?_ _ | refine below_drewN ?_ _ | refine bstep (by assumption) ?_ | refine bstep (Past.prop _) ?_ | refine Below.setCell ?_ (by first | exact Nat.le_refl _ | (simp;done) | (simp;omega)) _))
 have B0:Blk w0 pb #[.int .u8 kd,.int .u32 xi,.int .u32 xq,nmV xu,.int .i64 xf,.int .i64 xt,.slice a5 n5 c5,.slice a6 n6 c6,.slice a7 n7 c7] 52:=by rw[hw0,hpb];exact Blk.made _ _ _
 have HB0:=hidE B0;have HBB:=hidE hb0
 have HDR:=hidE (hD.past hb0);have HX:=hidE (hx.past hb0);have HS:=hidE hs
 have HCH:=hidE (changes_c w0)
 go_enter Tryz.func55,Tryz.ntmps55
 go_upto_region 1 with fail
 rw[←hw0,←hpb]
 clear hw0 hD hx hb0 hpb B0 hs
 go_wp2_with fail
 ((with_reducible refine (HCH.out).mono ?_);rintro e w1 ⟨rfl,hb1⟩)
 obtain ⟨w2,hw2⟩:∃ w2,w2=w1.alloc (Obj.cells chgV 161):=⟨_,rfl⟩
 obtain ⟨p5,hp5⟩:∃ p5,p5=w1.heap.size:=⟨_,rfl⟩
 have hb2:Below w1.heap.size w1 w2:=by rw[hw2];exact (Below.refl _ _).alloc (Nat.le_refl _) _
 have B2:Blk w2 p5 chgV 161:=by rw[hw2,hp5];exact Blk.made _ _ _
 have hb02:Below w0.heap.size w0 w2:=hb1.trans (hb2.mono hb1.size)
 have HB02:=hidE hb02;have HB2:=hidE B2
 have B:=Blk.made w1 #[.nilFunc,.nilFunc,.nilFunc] 161
 have n0:=B.cell 0;have n1:=B.cell 1;have n2:=B.cell 2;have nf:=B.free;have nz:=B.lt
 simp at n0 n1 n2
 clear hb1 hb2 hb02 B2 B
 go_upto_region 2 with fail
 rw[←hw2,←hp5]
 clear hw2 hp5 n0 n1 n2 nf nz
 have hBX:=HB0.out.past HB02.out
 have b0:=hBX.cell 0;have b1:=hBX.cell 1;have b2:=hBX.cell 2;have b3:=hBX.cell 3;have b4:=hBX.cell 4;have b5:=hBX.cell 5;have b6:=hBX.cell 6;have b7:=hBX.cell 7;have b8:=hBX.cell 8;have bz:=hBX.lt
 simp at b0 b1 b2 b3 b4 b5 b6 b7 b8
 have HZ:=hidE (two_below (d:=d) (m:=m) (HBB.out.trans (HB02.out.mono HBB.out.size)))
 clear hBX
 go_wp2
 go_ret
 rw[HPN.out]
 exact ⟨HZ.out,rfl,fun h=>absurd h (by decide:¬ ((2:Int)=0))⟩
set_option maxRecDepth 100000 in
set_option maxHeartbeats 8000000 in
theorem change_0 {d m:Nat} {a n c} {L:List Rv} {kd:Int} {x:Rw} {r:Rv} (w:World) (hD:Dr w d m (.slice a n c) L) (hx:RwF w x r) (hs:r.small) (hk:kd=0) :
  Calls Tryz.prog 55 #[.pointer (some ⟨d,0,none⟩),chV kd x] w (OneIs w d m (.slice a n c) (oneS L 0 r)):=by
 subst hk
 have hxf:=hx.fit (by have:=hs.2.2.2;unfold maxLen;omega)
 obtain ⟨xi,xq,xu,xf,xt,xT,xW,xA⟩:=x
 obtain ⟨⟨a5,n5,c5,q5⟩,⟨a6,n6,c6,q6⟩,⟨a7,n7,c7,q7⟩,_⟩:=hxf
 simp only at q5 q6 q7
 subst q5 q6 q7
 obtain ⟨w0,hw0⟩:∃ w0,w0=w.alloc (Obj.cells #[.int .u8 0,.int .u32 xi,.int .u32 xq,nmV xu,.int .i64 xf,.int .i64 xt,.slice a5 n5 c5,.slice a6 n6 c6,.slice a7 n7 c7] 52):=⟨_,rfl⟩
 obtain ⟨pb,hpb⟩:∃ pb,pb=w.heap.size:=⟨_,rfl⟩
 have hb0:Below w.heap.size w w0:=by rw[hw0];(repeat (first | exact Below.refl _ _ | assumption | refine balloc ?_ _ | refine below_drewN ?_ _ | refine bstep (by assumption) ?_ | refine bstep (Past.prop _) ?_ | refine Below.setCell ?_ (by first | exact Nat.le_refl _ | (simp;done) | (simp;omega)) _))
 have B0:Blk w0 pb #[.int .u8 0,.int .u32 xi,.int .u32 xq,nmV xu,.int .i64 xf,.int .i64 xt,.slice a5 n5 c5,.slice a6 n6 c6,.slice a7 n7 c7] 52:=by rw[hw0,hpb];exact Blk.made _ _ _
 have HB0:=hidE B0;have HBB:=hidE hb0
 have HDR:=hidE (hD.past hb0);have HX:=hidE (hx.past hb0);have HS:=hidE hs
 have HCH:=hidE (changes_c w0)
 go_enter Tryz.func55,Tryz.ntmps55
 go_upto_region 1 with fail
 rw[←hw0,←hpb]
 clear hw0 hD hx hb0 hpb B0 hs
 go_wp2_with fail
 ((with_reducible refine (HCH.out).mono ?_);rintro e w1 ⟨rfl,hb1⟩)
 obtain ⟨w2,hw2⟩:∃ w2,w2=w1.alloc (Obj.cells chgV 161):=⟨_,rfl⟩
 obtain ⟨p5,hp5⟩:∃ p5,p5=w1.heap.size:=⟨_,rfl⟩
 have hb2:Below w1.heap.size w1 w2:=by rw[hw2];exact (Below.refl _ _).alloc (Nat.le_refl _) _
 have B2:Blk w2 p5 chgV 161:=by rw[hw2,hp5];exact Blk.made _ _ _
 have hb02:Below w0.heap.size w0 w2:=hb1.trans (hb2.mono hb1.size)
 have HB02:=hidE hb02;have HB2:=hidE B2
 have B:=Blk.made w1 #[.nilFunc,.nilFunc,.nilFunc] 161
 have n0:=B.cell 0;have n1:=B.cell 1;have n2:=B.cell 2;have nf:=B.free;have nz:=B.lt
 simp at n0 n1 n2
 clear hb1 hb2 hb02 B2 B
 go_upto_region 2 with fail
 rw[←hw2,←hp5]
 clear hw2 hp5 n0 n1 n2 nf nz
 have hBX:=HB0.out.past HB02.out
 have b0:=hBX.cell 0;have b1:=hBX.cell 1;have b2:=hBX.cell 2;have b3:=hBX.cell 3;have b4:=hBX.cell 4;have b5:=hBX.cell 5;have b6:=hBX.cell 6;have b7:=hBX.cell 7;have b8:=hBX.cell 8;have bz:=hBX.lt
 simp at b0 b1 b2 b3 b4 b5 b6 b7 b8
 have c0:=HB2.out.cell 0;have cz:=HB2.out.lt
 simp at c0
 have HZ:=hidE (two_below (d:=d) (m:=m) (HBB.out.trans (HB02.out.mono HBB.out.size)))
 clear hBX
 go_upto_region 4 with fail
 refine wp_region_J 7 [] (nthR [detR (.pointer (some ⟨pb,0,none⟩)),detR (.int .u8 0),detR (.pointer (some ⟨p5,0,none⟩)),detR (.func (.func 126) #[] #[]),detR (.pointer (some ⟨d,0,none⟩)),detR (.pointer (some ⟨pb,1,none⟩)),detR (rwV ⟨xi,xq,xu,xf,xt,.slice a5 n5 c5,.slice a6 n6 c6,.slice a7 n7 c7⟩)]) (fun _=>false) (by kernel_rfl) (by decide) (by kernel_rfl) (stab_nth (by intro r hr;simp only[List.mem_cons,List.not_mem_nil,or_false] at hr;rcases hr with rfl | rfl | rfl | rfl | rfl | rfl | rfl<;>first | exact stab_det _)) ?_ ?_ ?_
 ·intro i o hi ho
  match i,hi with
  | 0, _ =>
   obtain rfl:=Option.some.inj ho
   intro u x hd
   have hc:=Past.cell x
   simp[go_sem,gives,frm,Act.put,nthR,detR,Region.wanted,Below.refl]
  | 1, _ =>
   obtain rfl:=Option.some.inj ho
   intro u x hd
   have hc:=Past.cell x
   have d0:=hd 0 (by decide) (by kernel_rfl)
   simp only[nthR,detR,List.getD_cons_zero] at d0
   simp[go_sem,gives,frm,Act.put,nthR,detR,Region.wanted,Below.refl,hc,d0,b0,bz]
  | 2, _ =>
   obtain rfl:=Option.some.inj ho
   intro u x hd
   have hc:=Past.cell x
   have d1:=hd 1 (by decide) (by kernel_rfl)
   simp only[nthR,detR,List.getD_cons_zero,List.getD_cons_succ] at d1
   simp[go_sem,gives,frm,Act.put,nthR,detR,Region.wanted,Below.refl,d1]
  | 3, _ =>
   obtain rfl:=Option.some.inj ho
   intro u x hd
   have hc:=Past.cell x
   have d2:=hd 2 (by decide) (by kernel_rfl)
   simp only[nthR,detR,List.getD_cons_zero,List.getD_cons_succ] at d2
   simp[go_sem,gives,frm,Act.put,nthR,detR,Region.wanted,Below.refl,hc,d2,c0,cz]
  | 4, _ =>
   obtain rfl:=Option.some.inj ho
   intro u x hd
   have hc:=Past.cell x
   simp[go_sem,gives,frm,Act.put,nthR,detR,Region.wanted,Below.refl]
  | 5, _ =>
   obtain rfl:=Option.some.inj ho
   intro u x hd
   have hc:=Past.cell x
   simp[go_sem,gives,frm,Act.put,nthR,detR,Region.wanted,Below.refl]
  | 6, _ =>
   obtain rfl:=Option.some.inj ho
   intro u x hd
   have hc:=Past.cell x
   have d5:=hd 5 (by decide) (by kernel_rfl)
   simp only[nthR,detR,List.getD_cons_zero,List.getD_cons_succ] at d5
   simp[go_sem,gives,frm,Act.put,nthR,detR,Region.wanted,Below.refl,hc,d5,b1,b2,b3,b4,b5,b6,b7,b8,bz]
  | i+7,h=>exact absurd h (by omega)
 ·intro i o hx ho
  simp at hx
 ·intro u x9 hu hne
  have e3:u 3 = .func (.func 126) #[] #[]:=hu 3 (by decide)
  have e4:u 4 = .pointer (some ⟨d,0,none⟩):=hu 4 (by decide)
  have e6:u 6=rwV ⟨xi,xq,xu,xf,xt,.slice a5 n5 c5,.slice a6 n6 c6,.slice a7 n7 c7⟩:=hu 6 (by decide)
  simp only[frm,List.take,Act.put,e3,e4,e6]
  have hb9:=x9.2
  have HON:=hidE (add_c x9.1 ((HDR.out.past HB02.out).past hb9) ((HX.out.past HB02.out).past hb9) HS.out)
  have HZ9:=hidE (HZ.out.trans (two_below (d:=d) (m:=m) hb9))
  clear hu hne e3 e4 e6 hb9 b0 b1 b2 b3 b4 b5 b6 b7 b8 bz c0 cz
  generalize x9.1=w9 at *
  go_wp2_with fail
  ((with_reducible refine (HON.out).mono ?_);rintro e w10 ⟨hb10,rfl,hd10⟩)
  have HZ10:=hidE (HZ9.out.trans hb10)
  have HD10:=hidE hd10
  clear hb10 hd10
  go_wp2
  go_ret
  exact ⟨HZ10.out,rfl,HD10.out⟩
set_option maxRecDepth 100000 in
set_option maxHeartbeats 8000000 in
theorem change_1 {d m:Nat} {a n c} {L:List Rv} {kd:Int} {x:Rw} {r:Rv} (w:World) (hD:Dr w d m (.slice a n c) L) (hx:RwF w x r) (hs:r.small) (hk:kd=1) :
  Calls Tryz.prog 55 #[.pointer (some ⟨d,0,none⟩),chV kd x] w (OneIs w d m (.slice a n c) (oneS L 1 r)):=by
 subst hk
 have hxf:=hx.fit (by have:=hs.2.2.2;unfold maxLen;omega)
 obtain ⟨xi,xq,xu,xf,xt,xT,xW,xA⟩:=x
 obtain ⟨⟨a5,n5,c5,q5⟩,⟨a6,n6,c6,q6⟩,⟨a7,n7,c7,q7⟩,_⟩:=hxf
 simp only at q5 q6 q7
 subst q5 q6 q7
 obtain ⟨w0,hw0⟩:∃ w0,w0=w.alloc (Obj.cells #[.int .u8 1,.int .u32 xi,.int .u32 xq,nmV xu,.int .i64 xf,.int .i64 xt,.slice a5 n5 c5,.slice a6 n6 c6,.slice a7 n7 c7] 52):=⟨_,rfl⟩
 obtain ⟨pb,hpb⟩:∃ pb,pb=w.heap.size:=⟨_,rfl⟩
 have hb0:Below w.heap.size w w0:=by rw[hw0];(repeat (first | exact Below.refl _ _ | assumption | refine balloc ?_ _ | refine below_drewN ?_ _ | refine bstep (by assumption) ?_ | refine bstep (Past.prop _) ?_ | refine Below.setCell ?_ (by first | exact Nat.le_refl _ | (simp;done) | (simp;omega)) _))
 have B0:Blk w0 pb #[.int .u8 1,.int .u32 xi,.int .u32 xq,nmV xu,.int .i64 xf,.int .i64 xt,.slice a5 n5 c5,.slice a6 n6 c6,.slice a7 n7 c7] 52:=by rw[hw0,hpb];exact Blk.made _ _ _
 have HB0:=hidE B0;have HBB:=hidE hb0
 have HDR:=hidE (hD.past hb0);have HX:=hidE (hx.past hb0);have HS:=hidE hs
 have HCH:=hidE (changes_c w0)
 go_enter Tryz.func55,Tryz.ntmps55
 go_upto_region 1 with fail
 rw[←hw0,←hpb]
 clear hw0 hD hx hb0 hpb B0 hs
 go_wp2_with fail
 ((with_reducible refine (HCH.out).mono ?_);rintro e w1 ⟨rfl,hb1⟩)
 obtain ⟨w2,hw2⟩:∃ w2,w2=w1.alloc (Obj.cells chgV 161):=⟨_,rfl⟩
 obtain ⟨p5,hp5⟩:∃ p5,p5=w1.heap.size:=⟨_,rfl⟩
 have hb2:Below w1.heap.size w1 w2:=by rw[hw2];exact (Below.refl _ _).alloc (Nat.le_refl _) _
 have B2:Blk w2 p5 chgV 161:=by rw[hw2,hp5];exact Blk.made _ _ _
 have hb02:Below w0.heap.size w0 w2:=hb1.trans (hb2.mono hb1.size)
 have HB02:=hidE hb02;have HB2:=hidE B2
 have B:=Blk.made w1 #[.nilFunc,.nilFunc,.nilFunc] 161
 have n0:=B.cell 0;have n1:=B.cell 1;have n2:=B.cell 2;have nf:=B.free;have nz:=B.lt
 simp at n0 n1 n2
 clear hb1 hb2 hb02 B2 B
 go_upto_region 2 with fail
 rw[←hw2,←hp5]
 clear hw2 hp5 n0 n1 n2 nf nz
 have hBX:=HB0.out.past HB02.out
 have b0:=hBX.cell 0;have b1:=hBX.cell 1;have b2:=hBX.cell 2;have b3:=hBX.cell 3;have b4:=hBX.cell 4;have b5:=hBX.cell 5;have b6:=hBX.cell 6;have b7:=hBX.cell 7;have b8:=hBX.cell 8;have bz:=hBX.lt
 simp at b0 b1 b2 b3 b4 b5 b6 b7 b8
 have c0:=HB2.out.cell 1;have cz:=HB2.out.lt
 simp at c0
 have HZ:=hidE (two_below (d:=d) (m:=m) (HBB.out.trans (HB02.out.mono HBB.out.size)))
 clear hBX
 go_upto_region 4 with fail
 refine wp_region_J 7 [] (nthR [detR (.pointer (some ⟨pb,0,none⟩)),detR (.int .u8 1),detR (.pointer (some ⟨p5,1,none⟩)),detR (.func (.func 127) #[] #[]),detR (.pointer (some ⟨d,0,none⟩)),detR (.pointer (some ⟨pb,1,none⟩)),detR (rwV ⟨xi,xq,xu,xf,xt,.slice a5 n5 c5,.slice a6 n6 c6,.slice a7 n7 c7⟩)]) (fun _=>false) (by kernel_rfl) (by decide) (by kernel_rfl) (stab_nth (by intro r hr;simp only[List.mem_cons,List.not_mem_nil,or_false] at hr;rcases hr with rfl | rfl | rfl | rfl | rfl | rfl | rfl<;>first | exact stab_det _)) ?_ ?_ ?_
 ·intro i o hi ho
  match i,hi with
  | 0, _ =>
   obtain rfl:=Option.some.inj ho
   intro u x hd
   have hc:=Past.cell x
   simp[go_sem,gives,frm,Act.put,nthR,detR,Region.wanted,Below.refl]
  | 1, _ =>
   obtain rfl:=Option.some.inj ho
   intro u x hd
   have hc:=Past.cell x
   have d0:=hd 0 (by decide) (by kernel_rfl)
   simp only[nthR,detR,List.getD_cons_zero] at d0
   simp[go_sem,gives,frm,Act.put,nthR,detR,Region.wanted,Below.refl,hc,d0,b0,bz]
  | 2, _ =>
   obtain rfl:=Option.some.inj ho
   intro u x hd
   have hc:=Past.cell x
   have d1:=hd 1 (by decide) (by kernel_rfl)
   simp only[nthR,detR,List.getD_cons_zero,List.getD_cons_succ] at d1
   simp[go_sem,gives,frm,Act.put,nthR,detR,Region.wanted,Below.refl,d1]
  | 3, _ =>
   obtain rfl:=Option.some.inj ho
   intro u x hd
   have hc:=Past.cell x
   have d2:=hd 2 (by decide) (by kernel_rfl)
   simp only[nthR,detR,List.getD_cons_zero,List.getD_cons_succ] at d2
   simp[go_sem,gives,frm,Act.put,nthR,detR,Region.wanted,Below.refl,hc,d2,c0,cz]
  | 4, _ =>
   obtain rfl:=Option.some.inj ho
   intro u x hd
   have hc:=Past.cell x
   simp[go_sem,gives,frm,Act.put,nthR,detR,Region.wanted,Below.refl]
  | 5, _ =>
   obtain rfl:=Option.some.inj ho
   intro u x hd
   have hc:=Past.cell x
   simp[go_sem,gives,frm,Act.put,nthR,detR,Region.wanted,Below.refl]
  | 6, _ =>
   obtain rfl:=Option.some.inj ho
   intro u x hd
   have hc:=Past.cell x
   have d5:=hd 5 (by decide) (by kernel_rfl)
   simp only[nthR,detR,List.getD_cons_zero,List.getD_cons_succ] at d5
   simp[go_sem,gives,frm,Act.put,nthR,detR,Region.wanted,Below.refl,hc,d5,b1,b2,b3,b4,b5,b6,b7,b8,bz]
  | i+7,h=>exact absurd h (by omega)
 ·intro i o hx ho
  simp at hx
 ·intro u x9 hu hne
  have e3:u 3 = .func (.func 127) #[] #[]:=hu 3 (by decide)
  have e4:u 4 = .pointer (some ⟨d,0,none⟩):=hu 4 (by decide)
  have e6:u 6=rwV ⟨xi,xq,xu,xf,xt,.slice a5 n5 c5,.slice a6 n6 c6,.slice a7 n7 c7⟩:=hu 6 (by decide)
  simp only[frm,List.take,Act.put,e3,e4,e6]
  have hb9:=x9.2
  have HON:=hidE (put_c x9.1 ((HDR.out.past HB02.out).past hb9) ((HX.out.past HB02.out).past hb9) HS.out)
  have HZ9:=hidE (HZ.out.trans (two_below (d:=d) (m:=m) hb9))
  clear hu hne e3 e4 e6 hb9 b0 b1 b2 b3 b4 b5 b6 b7 b8 bz c0 cz
  generalize x9.1=w9 at *
  go_wp2_with fail
  ((with_reducible refine (HON.out).mono ?_);rintro e w10 ⟨hb10,rfl,hd10⟩)
  have HZ10:=hidE (HZ9.out.trans hb10)
  have HD10:=hidE hd10
  clear hb10 hd10
  go_wp2
  go_ret
  exact ⟨HZ10.out,rfl,HD10.out⟩
set_option maxRecDepth 100000 in
set_option maxHeartbeats 8000000 in
theorem change_2 {d m:Nat} {a n c} {L:List Rv} {kd:Int} {x:Rw} {r:Rv} (w:World) (hD:Dr w d m (.slice a n c) L) (hx:RwF w x r) (hs:r.small) (hk:kd=2) :
  Calls Tryz.prog 55 #[.pointer (some ⟨d,0,none⟩),chV kd x] w (OneIs w d m (.slice a n c) (oneS L 2 r)):=by
 subst hk
 have hxf:=hx.fit (by have:=hs.2.2.2;unfold maxLen;omega)
 obtain ⟨xi,xq,xu,xf,xt,xT,xW,xA⟩:=x
 obtain ⟨⟨a5,n5,c5,q5⟩,⟨a6,n6,c6,q6⟩,⟨a7,n7,c7,q7⟩,_⟩:=hxf
 simp only at q5 q6 q7
 subst q5 q6 q7
 obtain ⟨w0,hw0⟩:∃ w0,w0=w.alloc (Obj.cells #[.int .u8 2,.int .u32 xi,.int .u32 xq,nmV xu,.int .i64 xf,.int .i64 xt,.slice a5 n5 c5,.slice a6 n6 c6,.slice a7 n7 c7] 52):=⟨_,rfl⟩
 obtain ⟨pb,hpb⟩:∃ pb,pb=w.heap.size:=⟨_,rfl⟩
 have hb0:Below w.heap.size w w0:=by rw[hw0];(repeat (first | exact Below.refl _ _ | assumption | refine balloc ?_ _ | refine below_drewN ?_ _ | refine bstep (by assumption) ?_ | refine bstep (Past.prop _) ?_ | refine Below.setCell ?_ (by first | exact Nat.le_refl _ | (simp;done) | (simp;omega)) _))
 have B0:Blk w0 pb #[.int .u8 2,.int .u32 xi,.int .u32 xq,nmV xu,.int .i64 xf,.int .i64 xt,.slice a5 n5 c5,.slice a6 n6 c6,.slice a7 n7 c7] 52:=by rw[hw0,hpb];exact Blk.made _ _ _
 have HB0:=hidE B0;have HBB:=hidE hb0
 have HDR:=hidE (hD.past hb0);have HX:=hidE (hx.past hb0);have HS:=hidE hs
 have HCH:=hidE (changes_c w0)
 go_enter Tryz.func55,Tryz.ntmps55
 go_upto_region 1 with fail
 rw[←hw0,←hpb]
 clear hw0 hD hx hb0 hpb B0 hs
 go_wp2_with fail
 ((with_reducible refine (HCH.out).mono ?_);rintro e w1 ⟨rfl,hb1⟩)
 obtain ⟨w2,hw2⟩:∃ w2,w2=w1.alloc (Obj.cells chgV 161):=⟨_,rfl⟩
 obtain ⟨p5,hp5⟩:∃ p5,p5=w1.heap.size:=⟨_,rfl⟩
 have hb2:Below w1.heap.size w1 w2:=by rw[hw2];exact (Below.refl _ _).alloc (Nat.le_refl _) _
 have B2:Blk w2 p5 chgV 161:=by rw[hw2,hp5];exact Blk.made _ _ _
 have hb02:Below w0.heap.size w0 w2:=hb1.trans (hb2.mono hb1.size)
 have HB02:=hidE hb02;have HB2:=hidE B2
 have B:=Blk.made w1 #[.nilFunc,.nilFunc,.nilFunc] 161
 have n0:=B.cell 0;have n1:=B.cell 1;have n2:=B.cell 2;have nf:=B.free;have nz:=B.lt
 simp at n0 n1 n2
 clear hb1 hb2 hb02 B2 B
 go_upto_region 2 with fail
 rw[←hw2,←hp5]
 clear hw2 hp5 n0 n1 n2 nf nz
 have hBX:=HB0.out.past HB02.out
 have b0:=hBX.cell 0;have b1:=hBX.cell 1;have b2:=hBX.cell 2;have b3:=hBX.cell 3;have b4:=hBX.cell 4;have b5:=hBX.cell 5;have b6:=hBX.cell 6;have b7:=hBX.cell 7;have b8:=hBX.cell 8;have bz:=hBX.lt
 simp at b0 b1 b2 b3 b4 b5 b6 b7 b8
 have c0:=HB2.out.cell 2;have cz:=HB2.out.lt
 simp at c0
 have HZ:=hidE (two_below (d:=d) (m:=m) (HBB.out.trans (HB02.out.mono HBB.out.size)))
 clear hBX
 go_upto_region 4 with fail
 refine wp_region_J 7 [] (nthR [detR (.pointer (some ⟨pb,0,none⟩)),detR (.int .u8 2),detR (.pointer (some ⟨p5,2,none⟩)),detR (.func (.func 128) #[] #[]),detR (.pointer (some ⟨d,0,none⟩)),detR (.pointer (some ⟨pb,1,none⟩)),detR (rwV ⟨xi,xq,xu,xf,xt,.slice a5 n5 c5,.slice a6 n6 c6,.slice a7 n7 c7⟩)]) (fun _=>false) (by kernel_rfl) (by decide) (by kernel_rfl) (stab_nth (by intro r hr;simp only[List.mem_cons,List.not_mem_nil,or_false] at hr;rcases hr with rfl | rfl | rfl | rfl | rfl | rfl | rfl<;>first | exact stab_det _)) ?_ ?_ ?_
 ·intro i o hi ho
  match i,hi with
  | 0, _ =>
   obtain rfl:=Option.some.inj ho
   intro u x hd
   have hc:=Past.cell x
   simp[go_sem,gives,frm,Act.put,nthR,detR,Region.wanted,Below.refl]
  | 1, _ =>
   obtain rfl:=Option.some.inj ho
   intro u x hd
   have hc:=Past.cell x
   have d0:=hd 0 (by decide) (by kernel_rfl)
   simp only[nthR,detR,List.getD_cons_zero] at d0
   simp[go_sem,gives,frm,Act.put,nthR,detR,Region.wanted,Below.refl,hc,d0,b0,bz]
  | 2, _ =>
   obtain rfl:=Option.some.inj ho
   intro u x hd
   have hc:=Past.cell x
   have d1:=hd 1 (by decide) (by kernel_rfl)
   simp only[nthR,detR,List.getD_cons_zero,List.getD_cons_succ] at d1
   simp[go_sem,gives,frm,Act.put,nthR,detR,Region.wanted,Below.refl,d1]
  | 3, _ =>
   obtain rfl:=Option.some.inj ho
   intro u x hd
   have hc:=Past.cell x
   have d2:=hd 2 (by decide) (by kernel_rfl)
   simp only[nthR,detR,List.getD_cons_zero,List.getD_cons_succ] at d2
   simp[go_sem,gives,frm,Act.put,nthR,detR,Region.wanted,Below.refl,hc,d2,c0,cz]
  | 4, _ =>
   obtain rfl:=Option.some.inj ho
   intro u x hd
   have hc:=Past.cell x
   simp[go_sem,gives,frm,Act.put,nthR,detR,Region.wanted,Below.refl]
  | 5, _ =>
   obtain rfl:=Option.some.inj ho
   intro u x hd
   have hc:=Past.cell x
   simp[go_sem,gives,frm,Act.put,nthR,detR,Region.wanted,Below.refl]
  | 6, _ =>
   obtain rfl:=Option.some.inj ho
   intro u x hd
   have hc:=Past.cell x
   have d5:=hd 5 (by decide) (by kernel_rfl)
   simp only[nthR,detR,List.getD_cons_zero,List.getD_cons_succ] at d5
   simp[go_sem,gives,frm,Act.put,nthR,detR,Region.wanted,Below.refl,hc,d5,b1,b2,b3,b4,b5,b6,b7,b8,bz]
  | i+7,h=>exact absurd h (by omega)
 ·intro i o hx ho
  simp at hx
 ·intro u x9 hu hne
  have e3:u 3 = .func (.func 128) #[] #[]:=hu 3 (by decide)
  have e4:u 4 = .pointer (some ⟨d,0,none⟩):=hu 4 (by decide)
  have e6:u 6=rwV ⟨xi,xq,xu,xf,xt,.slice a5 n5 c5,.slice a6 n6 c6,.slice a7 n7 c7⟩:=hu 6 (by decide)
  simp only[frm,List.take,Act.put,e3,e4,e6]
  have hb9:=x9.2
  have HON:=hidE (drop_f x9.1 ((HDR.out.past HB02.out).past hb9) ((HX.out.past HB02.out).past hb9) HS.out)
  have HZ9:=hidE (HZ.out.trans (two_below (d:=d) (m:=m) hb9))
  clear hu hne e3 e4 e6 hb9 b0 b1 b2 b3 b4 b5 b6 b7 b8 bz c0 cz
  generalize x9.1=w9 at *
  go_wp2_with fail
  ((with_reducible refine (HON.out).mono ?_);rintro e w10 ⟨hb10,rfl,hd10⟩)
  have HZ10:=hidE (HZ9.out.trans hb10)
  have HD10:=hidE hd10
  clear hb10 hd10
  go_wp2
  go_ret
  exact ⟨HZ10.out,rfl,HD10.out⟩
theorem change_c {d m:Nat} {a n c} {L:List Rv} {kd:Int} {x:Rw} {r:Rv} (w:World) (hD:Dr w d m (.slice a n c) L) (hx:RwF w x r) (hs:r.small) (hk:0≤kd) (hk2:kd≤255) :
  Calls Tryz.prog 55 #[.pointer (some ⟨d,0,none⟩),chV kd x] w (OneIs w d m (.slice a n c) (oneS L kd r)):=by
 rcases (show kd=0∨kd=1∨kd=2∨2<kd from by omega) with rfl | rfl | rfl | h
 ·exact change_0 w hD hx hs rfl
 ·exact change_1 w hD hx hs rfl
 ·exact change_2 w hD hx hs rfl
 ·exact change_bad w hD hx hs h hk2
end
end Go.Proofs.YtcmponckjkalaaaGreat
