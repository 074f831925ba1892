/- Reservations, by what they say: what lies in memory reads as it; a copy in new memory. No conditions but the sizes. Package plan: reservations, all in new memory. No conditions but the sizes. Package plan: all reservations, in new memory, in their order. No conditions but the sizes. Plans, by values: reservations in a row, in order; what changes do, one by one and at once. .. -/
import Derived.Test.YtcmponckjkalaaaGreatPUGO
import Derived.Shelf.SlMaps.Clone
namespace Go.Proofs.YtcmponckjkalaaaGreat
section
open Go.ChangeShapes Go.WideShapes Go.ChangeAt Go.RowKit
attribute [local irreducible] Go.Calls
structure Rv where
 id:Int
 seq:Int
 u:List UInt8
 fr:Int
 to':Int
 T:List Prt
 W:List (Int × Int)
 A:List Sg
def rv0:Rv:=⟨0,0,[],0,0,[],[],[]⟩
theorem cellsOfP_one:∀ l:List Prt,∀ v∈cellsOfP l,v.oneCell'=true
 | [],v,h=>by simp[cellsOfP] at h
 | s :: r, v, h => by
   simp only[cellsOfP,List.mem_cons] at h
   rcases h with rfl | rfl | rfl | rfl | rfl | h
   ·rfl
   ·rfl
   ·rfl
   ·rfl
   ·rfl
   ·exact cellsOfP_one r v h
theorem cellsOfV_one:∀ l:List (Int × Int),∀ v∈cellsOfV l,v.oneCell'=true
 | [],v,h=>by simp[cellsOfV] at h
 | s :: r, v, h => by
   simp only[cellsOfV,List.mem_cons] at h
   rcases h with rfl | rfl | h
   ·rfl
   ·rfl
   ·exact cellsOfV_one r v h
structure RwF (w:World) (x:Rw) (r:Rv):Prop where
 id:x.id=r.id
 seq:x.seq=r.seq
 u:x.u=r.u
 fr:x.fr=r.fr
 to':x.to'=r.to'
 t:SliP w x.vT r.T
 ts:SrcV w 5 x.vT r.T.length (cellsOfP r.T)
 w':SliVs w x.vW r.W
 ws:SrcV w 2 x.vW r.W.length (cellsOfV r.W)
 a:RwA w x r.A
theorem RwF.past {w w':World} {x:Rw} {r:Rv} (h:RwF w x r) (hb:Below w.heap.size w w'):RwF w' x r :=
 ⟨h.id,h.seq,h.u,h.fr,h.to',h.t.past hb,srcV_below h.ts hb,h.w'.past hb,srcV_below h.ws hb,h.a.past hb⟩
theorem RwF.fit {w:World} {x:Rw} {r:Rv} (h:RwF w x r) (hu:r.u.length≤maxLen):x.fit:=by
 obtain ⟨a1,c1,e1,_⟩:=h.t
 obtain ⟨a2,c2,e2,_⟩:=h.w'
 obtain ⟨a3,c3,e3,_⟩:=h.a.1
 exact ⟨⟨_,_,_,e1⟩,⟨_,_,_,e2⟩,⟨_,_,_,e3⟩,by rw[h.u];exact hu⟩
def Rv.small (r:Rv):Prop:=r.T.length≤1000000000∧r.W.length≤1000000000∧r.A.length≤1000000000∧r.u.length≤1000000
def NotRow (w:World) (v:Value):Prop:=∀ a n c,v = .slice (some a) n c→∃ cs e fz,w.heap[a.block]? = some (.cells cs e fz)∧e≠50
theorem NotRow.past {w w':World} {v:Value} (h:NotRow w v) (hb:Below w.heap.size w w'):NotRow w' v:=fun a n c e=>by
 obtain ⟨cs,t,fz,h1,h2⟩:=h a n c e
 exact ⟨cs,t,fz,(hb.block _ (Nat.lt_of_not_le fun hge=>by rw[Array.getElem?_eq_none hge] at h1;cases h1)).trans h1,h2⟩
theorem notRow_own {w:World} {B sz n:Nat} {e:TypeId} {v:Value} {xs:List Value} (h:w.ownsRow B e sz v n xs) (he:e≠50):NotRow w v:=fun a m c ev=>by
 obtain ⟨_,h2 | ⟨g,cap,cur,h3,_,h5,_⟩⟩:=h
 ·rw[h2.1] at ev;cases ev
 ·rw[h3] at ev;cases ev
  exact ⟨_,_,_,h5,he⟩
def RwN (w:World) (x:Rw):Prop:=NotRow w x.vT∧NotRow w x.vW∧NotRow w x.vA
theorem RwN.past {w w':World} {x:Rw} (h:RwN w x) (hb:Below w.heap.size w w'):RwN w' x:=⟨h.1.past hb,h.2.1.past hb,h.2.2.past hb⟩
theorem apart_f {w:World} {x:Rw} {r:Rv} (h:RwF w x r) (hs:r.small):Calls Tryz.prog 65 #[rwV x] w fun e w'=>∃ x',e = .returned (rwV x')∧RwF w' x' r∧RwN w' x'∧Below w.heap.size w w':=by
 refine (apart_c x r.T.length r.W.length r.A.length _ _ _ w h.ts h.ws h.a.2 (by have:=hs.1;omega) (by have:=hs.2.1;omega) (by have:=hs.2.2.1;omega)).mono ?_
 rintro e w' ⟨vT,vW,vA,rfl,hb,h1,h2,h3⟩
 exact ⟨_,rfl,⟨h.id,h.seq,h.u,h.fr,h.to',sliP_own h1,own_src h1 (cellsOfP_one _),sliVs_own h2,own_src h2 (cellsOfV_one _),sliS_own h3,own_src h3 (cellsOfS_one _)⟩,⟨notRow_own h1 (by decide),notRow_own h2 (by decide),notRow_own h3 (by decide)⟩,hb⟩
theorem cell_block {w w':World} {b:Nat} (h:w'.heap[b]? = w.heap[b]?) (o:Nat):w'.cell? ⟨b,o,none⟩=w.cell? ⟨b,o,none⟩:=by
 unfold World.cell?
 simp only[h]
theorem NotRow.keep {w w':World} {g:Nat} {v:Value} (hv:NotRow w v) (hg:w.grownBy w' (some g)) {cs:Array Value} {fz:Nat × Nat} (hrow:w.heap[g]? = some (.cells cs 50 fz)):NotRow w' v∧∀ a n c,v = .slice (some a) n c→w'.heap[a.block]? = w.heap[a.block]? := by
 have key:∀ a n c,v = .slice (some a) n c→w'.heap[a.block]? = w.heap[a.block]? := fun a n c e=>by
  obtain ⟨cs',t,fz',h1,h2⟩:=hv a n c e
  refine hg.block _ (Nat.lt_of_not_le fun hge=>by rw[Array.getElem?_eq_none hge] at h1;cases h1) (fun e2 => ?_)
  cases e2
  rw[h1] at hrow
  cases hrow
  exact h2 rfl
 refine ⟨fun a n c e => ?_,key⟩
 obtain ⟨cs',t,fz',h1,h2⟩:=hv a n c e
 exact ⟨cs',t,fz',(key a n c e).trans h1,h2⟩
theorem srcV_keep {w w':World} {sz n:Nat} {v:Value} {ys:List Value} (h:SrcV w sz v n ys) (hk:∀ a n c,v = .slice (some a) n c→w'.heap[a.block]? = w.heap[a.block]?):SrcV w' sz v n ys:=by
 obtain ⟨a,cap,e,h0,h1,h2,h3⟩:=h
 refine ⟨a,cap,e,h0,h1,h2,fun ad ha j u hu => ?_⟩
 have hc:=h3 ad ha j u hu
 subst ha
 have hb:=hk ad n cap e
 have:(ad.add j).block=ad.block:=by unfold Addr.add;split<;>rfl
 unfold World.cell? at hc ⊢
 rw[this] at hc ⊢
 rw[hb]
 exact hc
theorem RwF.keep {w w':World} {g:Nat} {x:Rw} {r:Rv} (h:RwF w x r) (hn:RwN w x) (hg:w.grownBy w' (some g)) {cs:Array Value} {fz:Nat × Nat} (hrow:w.heap[g]? = some (.cells cs 50 fz)):RwF w' x r∧RwN w' x:=by
 obtain ⟨n1,k1⟩:=hn.1.keep hg hrow
 obtain ⟨n2,k2⟩:=hn.2.1.keep hg hrow
 obtain ⟨n3,k3⟩:=hn.2.2.keep hg hrow
 refine ⟨⟨h.id,h.seq,h.u,h.fr,h.to', ?_,srcV_keep h.ts k1, ?_,srcV_keep h.ws k2, ?_,srcV_keep h.a.2 k3⟩,n1,n2,n3⟩
 ·obtain ⟨a,cap,e,q1,q2,q3⟩:=h.t
  refine ⟨a,cap,e,q1,q2,fun hl => ?_⟩
  obtain ⟨b,off,rfl,q4,q5⟩:=q3 hl
  have hb:=k1 _ _ _ e
  exact ⟨b,off,rfl,Nat.lt_of_lt_of_le q4 hg.size,fun i hi=>by simp only[cell_block hb];exact q5 i hi⟩
 ·obtain ⟨a,cap,e,q1,q2,q3⟩:=h.w'
  refine ⟨a,cap,e,q1,q2,fun hl => ?_⟩
  obtain ⟨b,off,rfl,q4,q5⟩:=q3 hl
  have hb:=k2 _ _ _ e
  exact ⟨b,off,rfl,Nat.lt_of_lt_of_le q4 hg.size,fun i hi=>by simp only[cell_block hb];exact q5 i hi⟩
 ·obtain ⟨a,cap,e,q1,q2,q3⟩:=h.a.1
  refine ⟨a,cap,e,q1,q2,fun hl => ?_⟩
  obtain ⟨b,off,rfl,q4,q5⟩:=q3 hl
  have hb:=k3 _ _ _ e
  exact ⟨b,off,rfl,Nat.lt_of_lt_of_le q4 hg.size,fun i hi=>by simp only[cell_block hb];exact q5 i hi⟩
def RwsF (w:World) (l:List Rw) (R:List Rv):Prop:=R.length=l.length∧∀ i,i<l.length→RwF w (l.getD i rw0) (R.getD i rv0)
theorem RwsF.past {w w':World} {l:List Rw} {R:List Rv} (h:RwsF w l R) (hb:Below w.heap.size w w'):RwsF w' l R:=⟨h.1,fun i hi=>(h.2 i hi).past hb⟩
theorem RwsF.fns {w:World} {l:List Rw} {R:List Rv} (h:RwsF w l R):RwsA w l (R.map (·.A)):=⟨by simp[h.1],fun i hi=>by
 have e:(R.map (·.A)).getD i []=(R.getD i rv0).A:=by
  rw[List.getD_eq_getElem?_getD,List.getD_eq_getElem?_getD,List.getElem?_map,List.getElem?_eq_getElem (by rw[h.1];exact hi)];rfl
 rw[e]
 exact (h.2 i hi).a⟩
theorem rwsF_nil (w:World):RwsF w [] []:=⟨rfl,fun i hi=>by simp at hi⟩
theorem rwsF_snoc {w:World} {l:List Rw} {R:List Rv} {x:Rw} {r:Rv} (h:RwsF w l R) (hx:RwF w x r):RwsF w (l++[x]) (R++[r]):=⟨by simp[h.1],fun i hi=>by
 simp only[List.length_append,List.length_singleton] at hi
 by_cases hl:i<l.length
 ·have:=h.2 i hl
  rw[List.getD_eq_getElem?_getD,List.getElem?_append_left hl,←List.getD_eq_getElem?_getD,List.getD_eq_getElem?_getD (l:=R++[r]),List.getElem?_append_left (by rw[h.1];exact hl),←List.getD_eq_getElem?_getD]
  exact this
 ·have e:i=l.length:=by omega
  subst e
  rw[List.getD_eq_getElem?_getD,List.getElem?_append_right (Nat.le_refl _),List.getD_eq_getElem?_getD (l:=R++[r]),List.getElem?_append_right (by rw[h.1];exact Nat.le_refl _),h.1,Nat.sub_self]
  exact hx⟩
theorem RwF.append {w w':World} {B n m:Nat} {v:Value} {xs:List Value} {x:Rw} {r:Rv} (h:RwF w x r) (hn:RwN w x) (ho:w.ownsRow B 50 m v n xs) (hg:w.grownBy w' v.ownBlock):RwF w' x r∧RwN w' x:=by
 obtain ⟨_,h2 | ⟨g,cap,cur,h3,_,h5,_⟩⟩:=ho
 ·rw[h2.1] at hg
  have hb:Below w.heap.size w w':=Below.grown (Below.refl _ _) hg (Nat.le_refl _) (fun k e=>by cases e)
  exact ⟨h.past hb,hn.past hb⟩
 ·rw[h3] at hg
  exact h.keep hn hg h5
theorem RwsF.append {w w':World} {B n m:Nat} {v:Value} {xs:List Value} {l:List Rw} {R:List Rv} (h:RwsF w l R) (hn:∀ x∈l,RwN w x) (ho:w.ownsRow B 50 m v n xs) (hg:w.grownBy w' v.ownBlock):RwsF w' l R∧∀ x∈l,RwN w' x:=by
 have key:∀ i,i<l.length→RwF w' (l.getD i rw0) (R.getD i rv0)∧RwN w' (l.getD i rw0):=fun i hi=>(h.2 i hi).append (hn _ (getD_memRw hi)) ho hg
 refine ⟨⟨h.1,fun i hi=>(key i hi).1⟩,fun x hx => ?_⟩
 obtain ⟨i,hi,rfl⟩:=List.getElem_of_mem hx
 have:=(key i hi).2
 rwa [List.getD_eq_getElem?_getD,List.getElem?_eq_getElem hi] at this
theorem rvs_take {R:List Rv} {k:Nat} (h:k<R.length):R.take (k+1)=R.take k++[R.getD k rv0]:=by
 rw[List.take_succ_eq_append_getElem h,List.getD_eq_getElem?_getD,List.getElem?_eq_getElem h];rfl
def AllIs (w:World) (R:List Rv) (e:Ending) (w':World):Prop:=∃ v l,e = .returned v∧w'.ownsRow w.heap.size 50 8 v l.length (cellsRw l)∧RwsF w' l R∧(∀ x∈l,RwN w' x)∧(∀ x∈l,x.fit)∧Below w.heap.size w w'
set_option maxRecDepth 100000 in
set_option maxHeartbeats 4000000 in
theorem allApart_f {l:List Rw} {R:List Rv} {v:Value} (w:World) (hv:SliRw w v l) (hR:RwsF w l R) (hs:∀ r∈R,r.small) (hl:l.length≤1000000):Calls Tryz.prog 63 #[v] w (AllIs w R):=by
 obtain ⟨a,cap,rfl,hc1,hc2,hc3,hc4,hc5⟩:=hv
 obtain ⟨ix,hix,hx0,hx1,hx2⟩:=info_parts Tryz.infoRsv
 have HI:=hidE hix;have HZ0:=hidE hx0;have HZ1:=hidE hx1;have HZ2:=hidE hx2
 have HR:=hidE hR;have HS:=hidE hs;have HC4:=hidE hc4;have HFIT:=hidE hc5
 have hRl:=hR.1
 have HMEM:=hidE (fun k (h:k<l.length)=>getD_memRw h)
 clear hR hs hc3 hc4 hc5 hix hx0 hx1 hx2
 go_enter Tryz.func63,Tryz.ntmps63
 go_wp2
 go_loopw [3,8] (fun sv s wr=>∃ (k:Nat) (l':List Rw),s = .int .i64 k∧k≤l.length∧wr.ownsRow w.heap.size 50 8 sv l'.length (cellsRw l')∧l'.length=k∧RwsF wr l' (R.take k)∧(∀ x∈l',RwN wr x)∧(∀ x∈l',x.fit)∧Below w.heap.size w wr) (fun _ s _=>l.length - (intOf s).toNat)
 case atStart=>exact ⟨0,[],rfl,Nat.zero_le _,own_nil _ _ _,rfl,rwsF_nil _,fun x h=>by simp at h,fun x h=>by simp at h,Below.refl _ _⟩
 case round =>
  obtain ⟨k,l',rfl,hk,ho,hlk,hF,hN,hff,hb⟩:=hrel
  obtain ⟨av,cv,rfl⟩:=own_sli ho
  have HO:=hidE ho;have HF:=hidE hF;have HB:=hidE hb;have HN:=hidE hN;have HFF:=hidE hff
  have HLK:=hidE hlk
  clear hN hff hlk
  by_cases hlt:k<l.length
  ·obtain ⟨b,off,rfl,hbz,hcc⟩:=HC4.out (by omega)
   have hbr:b<wr.heap.size:=Nat.lt_of_lt_of_le hbz hb.size
   obtain ⟨e0,e1,e2,e3,e4,e5,e6,e7⟩:=hcc.get hlt
   rw[←hb.cell hbz] at e0 e1 e2 e3 e4 e5 e6 e7
   have hft:=HFIT.out _ (HMEM.out k hlt)
   have HX:=hidE ((HR.out.2 k hlt).past hb)
   have HSM:=hidE (HS.out (R.getD k rv0) (by rw[List.getD_eq_getElem?_getD,List.getElem?_eq_getElem (by omega)];exact List.getElem_mem _))
   have HTK:=hidE (rvs_take (R:=R) (k:=k) (by omega))
   clear hcc HMEM HC4 HFIT HS HR ho hF
   generalize l.getD k rw0=x at *
   generalize R.getD k rv0=r at *
   obtain ⟨xi,xq,xu,xf,xt,xT,xW,xA⟩:=x
   obtain ⟨⟨a5,n5,c5,q5⟩,⟨a6,n6,c6,q6⟩,⟨a7,n7,c7,q7⟩,hxu⟩:=hft
   simp only at q5 q6 q7 e0 e1 e2 e3 e4 e5 e6 e7 hxu
   subst q5 q6 q7
   obtain ⟨w4,hw4⟩:∃ w4,w4=wr.alloc (Obj.cells #[.int .u32 xi,.int .u32 xq,nmV xu,.int .i64 xf,.int .i64 xt,.slice a5 n5 c5,.slice a6 n6 c6,.slice a7 n7 c7] 50):=⟨_,rfl⟩
   have B4:Blk w4 wr.heap.size #[.int .u32 xi,.int .u32 xq,nmV xu,.int .i64 xf,.int .i64 xt,.slice a5 n5 c5,.slice a6 n6 c6,.slice a7 n7 c7] 50:=by rw[hw4];exact Blk.made _ _ _
   have hb4:Below wr.heap.size wr w4:=by rw[hw4];exact (Below.refl _ _).alloc (Nat.le_refl _) _
   go_upto_region 5 with fail
   rw[←hw4]
   clear hw4
   have b0:=B4.cell 0;have b1:=B4.cell 1;have b2:=B4.cell 2;have b3:=B4.cell 3;have b4:=B4.cell 4;have b5:=B4.cell 5;have b6:=B4.cell 6;have b7:=B4.cell 7;have bz:=B4.lt
   simp at b0 b1 b2 b3 b4 b5 b6 b7
   have HAP:=hidE (apart_f (HX.out.past hb4) HSM.out)
   have HB4:=hidE (hb.trans (hb4.mono hb.size))
   have HO4:=hidE (own_below HO.out hb4)
   have HF4:=hidE (HF.out.past hb4);have HN4:=hidE (fun x hx=>(HN.out x hx).past hb4)
   have hz4:=hb.size
   have hz5:=hb4.size
   clear e0 e1 e2 e3 e4 e5 e6 e7 B4 hb4 HX HO HF HB hb HN
   go_wp2_with fail
   ((with_reducible refine (HAP.out).mono ?_);rintro e w5 ⟨x',rfl,hx',hxn,hb5⟩)
   have HXN:=hidE hxn;have HFX:=hidE (hx'.fit (by have:=HSM.out.2.2.2;unfold maxLen;omega))
   have hfit':=hx'.fit (by have:=HSM.out.2.2.2;unfold maxLen;omega)
   have HX5:=hidE hx'
   obtain ⟨yi,yq,yu,yf,yt,yT,yW,yA⟩:=x'
   obtain ⟨⟨d5,m5,g5,q5⟩,⟨d6,m6,g6,q6⟩,⟨d7,m7,g7,q7⟩,hyu⟩:=hfit'
   simp only at q5 q6 q7 hyu
   subst q5 q6 q7
   have HO5:=hidE (own_below HO4.out hb5);have HF5:=hidE (HF4.out.past hb5);have HN5:=hidE (fun x hx=>(HN4.out x hx).past hb5)
   have HB5:=hidE (HB4.out.trans (hb5.mono HB4.out.size))
   have hz6:=hb5.size
   have hll:l'.length≤1000000:=by have:=HLK.out;omega
   clear hx' hxn hb5 HO4 HF4 HN4 HB4 HAP
   go_wp2_with (at_builtin;go_loud (refine list_appW rfl (.tmp 12) (.tmp 15) 31 rfl w.heap.size 50 ix _ 8 112 Tryz.underlying31 HI.out HZ0.out HZ1.out HZ2.out rfl (by decide) (.slice av l'.length cv) l'.length (cellsRw l') rfl (own_below HO5.out (by (repeat (first | exact Below.refl _ _ | assumption | refine balloc ?_ _ | refine below_drewN ?_ _ | refine bstep (by assumption) ?_ | refine bstep (Past.prop _) ?_ | refine Below.setCell ?_ (by first | exact Nat.le_refl _ | (simp;done) | (simp;omega)) _)))) _ 1 [.int .u32 yi,.int .u32 yq,nmV yu,.int .i64 yf,.int .i64 yt,.slice d5 m5 g5,.slice d6 m6 g6,.slice d7 m7 g7] rfl (srcV_new (Blk.made_at _ _ _ _ (by first | rfl | (simp;done))) rfl (by intro y hy;simp at hy;rcases hy with rfl | rfl | rfl | rfl | rfl | rfl | rfl | rfl<;>rfl)) (by omega) (by omega) (by simp;omega) ?_);intro v' w7 own' hg')
   obtain ⟨w6,hw6⟩:∃ w6,w6=w5.alloc (Obj.cells #[.int .u32 yi,.int .u32 yq,nmV yu,.int .i64 yf,.int .i64 yt,.slice d5 m5 g5,.slice d6 m6 g6,.slice d7 m7 g7] 50):=⟨_,rfl⟩
   rw[←hw6] at hg'
   have hb6:Below w5.heap.size w5 w6:=by rw[hw6];exact (Below.refl _ _).alloc (Nat.le_refl _) _
   have ho6:=own_below HO5.out hb6
   obtain ⟨hF7,hN7⟩:=(HF5.out.past hb6).append (fun x hx=>(HN5.out x hx).past hb6) ho6 hg'
   obtain ⟨hX7,hXN7⟩:=(HX5.out.past hb6).append (HXN.out.past hb6) ho6 hg'
   have hb7:Below w.heap.size w w7:=Below.grown (HB5.out.trans (hb6.mono HB5.out.size)) hg' (by have:=hb6.size;omega) (fun k e=>own_block ho6 e)
   have hF8:=rwsF_snoc hF7 hX7
   rw[←HTK.out] at hF8
   have ho8:w7.ownsRow w.heap.size 50 8 v' (l'++[(⟨yi,yq,yu,yf,yt,.slice d5 m5 g5,.slice d6 m6 g6,.slice d7 m7 g7⟩:Rw)]).length (cellsRw (l'++[(⟨yi,yq,yu,yf,yt,.slice d5 m5 g5,.slice d6 m6 g6,.slice d7 m7 g7⟩:Rw)])):=by rw[List.length_append,List.length_singleton,cellsRw_app];exact own'
   have HF8:=hidE hF8;have HO8:=hidE ho8;have HB7:=hidE hb7
   have HN8:=hidE (show ∀ x∈l'++[(⟨yi,yq,yu,yf,yt,.slice d5 m5 g5,.slice d6 m6 g6,.slice d7 m7 g7⟩:Rw)],RwN w7 x from fun x hx=>by
    rcases List.mem_append.1 hx with hx | hx
    ·exact hN7 x hx
    ·simp only[List.mem_singleton] at hx;subst hx;exact hXN7)
   have HFF8:=hidE (show ∀ x∈l'++[(⟨yi,yq,yu,yf,yt,.slice d5 m5 g5,.slice d6 m6 g6,.slice d7 m7 g7⟩:Rw)],x.fit from fun x hx=>by
    rcases List.mem_append.1 hx with hx | hx
    ·exact HFF.out x hx
    ·simp only[List.mem_singleton] at hx;subst hx;exact HFX.out)
   obtain ⟨a8,c8,rfl⟩:=own_sli own'
   clear own' hg' hb6 ho6 hF7 hN7 hX7 hXN7 hb7 hF8 ho8 hw6 HO5 HF5 HN5 HB5
   go_wp2
   exact ⟨⟨k+1,_,by go_num,by omega,HO8.out,by rw[List.length_append,HLK.out];rfl,HF8.out,HN8.out,HFF8.out,HB7.out⟩,by simp[intOf];omega⟩
  ·have hkl:k=l.length:=by omega
   have hF9:=HF.out
   rw[List.take_of_length_le (by rw[hRl];omega)] at hF9
   have HF9:=hidE hF9
   clear hkl hF9
   go_wp2
   go_ret
   exact ⟨_,l',rfl,HO.out,HF9.out,HN.out,HFF.out,HB.out⟩
theorem rwsF_cons {w:World} {x:Rw} {l:List Rw} {R:List Rv}:RwsF w (x :: l) R↔∃ r M,R=r :: M∧RwF w x r∧RwsF w l M:=by
 constructor
 ·intro h
  cases R with
  | nil=>have:=h.1;simp at this
  | cons r M =>
   refine ⟨r,M,rfl,h.2 0 (by simp),by have:=h.1;simpa using this,fun i hi => ?_⟩
   have:=h.2 (i+1) (by simpa using hi)
   simpa using this
 ·rintro ⟨r,M,rfl,h1,h2⟩
  refine ⟨by simp[h2.1],fun i hi => ?_⟩
  cases i with
  | zero=>exact h1
  | succ i=>have:=h2.2 i (by simpa using hi);simpa using this
theorem rwsF_app {w:World} {A B:List Rw} {L M:List Rv} (h1:RwsF w A L) (h2:RwsF w B M):RwsF w (A++B) (L++M):=by
 induction A generalizing L with
 | nil =>
  have:L=[]:=List.eq_nil_of_length_eq_zero h1.1
  subst this
  exact h2
 | cons x A ih =>
  obtain ⟨F,N,rfl,h3,h4⟩:=rwsF_cons.1 h1
  exact rwsF_cons.2 ⟨F,N++M,rfl,h3,ih h4⟩
theorem rwsF_perm {w:World} {l l':List Rw} (h:l.Perm l'):∀ L,RwsF w l L→∃ L',L'.Perm L∧RwsF w l' L':=by
 induction h with
 | nil=>exact fun L hL=>⟨L,List.Perm.refl _,hL⟩
 | cons x _ ih =>
  intro L hL
  obtain ⟨F,M,rfl,h1,h2⟩:=rwsF_cons.1 hL
  obtain ⟨M',hp,hM⟩:=ih M h2
  exact ⟨F :: M',hp.cons F,rwsF_cons.2 ⟨F,M',rfl,h1,hM⟩⟩
 | swap x y l =>
  intro L hL
  obtain ⟨F,M,rfl,h1,h2⟩:=rwsF_cons.1 hL
  obtain ⟨G,N,rfl,h3,h4⟩:=rwsF_cons.1 h2
  exact ⟨G :: F :: N,List.Perm.swap _ _ _,rwsF_cons.2 ⟨G,F :: N,rfl,h3,rwsF_cons.2 ⟨F,N,rfl,h1,h4⟩⟩⟩
 | trans _ _ ih1 ih2 =>
  intro L hL
  obtain ⟨M,hp,hM⟩:=ih1 L hL
  obtain ⟨N,hq,hN⟩:=ih2 M hM
  exact ⟨N,hq.trans hp,hN⟩
def allRv (rvs:List UInt8→List Rv) (U:List Ent):List Rv:=U.flatMap fun p=>rvs p.1
theorem rwsF_all {w:World} {rows:List UInt8→List Rw} {rvs:List UInt8→List Rv} (h:∀ s,RwsF w (rows s) (rvs s)):∀ U:List Ent,RwsF w (allRw rows U) (allRv rvs U)
 | []=>rwsF_nil w
 | p :: U => by
   unfold allRw allRv
   rw[List.flatMap_cons,List.flatMap_cons]
   exact rwsF_app (h p.1) (rwsF_all h U)
def ordV (x y:Rv):Prop:=x.seq<y.seq∨(x.seq=y.seq∧x.id≤y.id)
theorem rwsF_sorted {w:World} {l:List Rw} {R:List Rv} (h:RwsF w l R) (hs:l.Pairwise ordW):R.Pairwise ordV:=by
 rw[List.pairwise_iff_getElem] at *
 intro i j hi hj hij
 have hi':i<l.length:=by rw[←h.1];exact hi
 have hj':j<l.length:=by rw[←h.1];exact hj
 have h1:=h.2 i hi'
 have h2:=h.2 j hj'
 have h3:=hs i j hi' hj' hij
 rw[List.getD_eq_getElem?_getD,List.getElem?_eq_getElem hi',List.getD_eq_getElem?_getD,List.getElem?_eq_getElem hi] at h1
 rw[List.getD_eq_getElem?_getD,List.getElem?_eq_getElem hj',List.getD_eq_getElem?_getD,List.getElem?_eq_getElem hj] at h2
 simp only[Option.getD_some] at h1 h2
 unfold ordW at h3
 unfold ordV
 rw[←h1.seq,←h1.id,←h2.seq,←h2.id]
 exact h3
def PlistIs (w:World) (U:List Ent) (rvs:List UInt8→List Rv) (e:Ending) (w':World):Prop:=∃ R,R.Perm (allRv rvs U)∧R.Pairwise ordV∧AllIs w R e w'
theorem planList_c {p m:Nat} {vc:Value} {U:List Ent} {rows:List UInt8→List Rw} {rvs:List UInt8→List Rv} (w:World) (hB:Blk w p #[vc,.map (some m)] 106) (hM:MapU w m U) (hR:RowsOk w U rows) (hF:∀ s,RwsF w (rows s) (rvs s)) (hs:∀ r∈allRv rvs U,r.small) (hl:(allRw rows U).length≤1000000) :
  Calls Tryz.prog 42 #[.pointer (some ⟨p,0,none⟩)] w (PlistIs w U rvs):=by
 have HM:=hidE (made_c w hB)
 have HB:=hidE hB;have HMU:=hidE hM;have HR:=hidE hR;have HF:=hidE hF;have HS:=hidE hs
 clear hB hM hR hF hs
 go_enter Tryz.func42,Tryz.ntmps42
 go_wp2_with fail
 ((with_reducible refine (HM.out).mono ?_);rintro e w1 ⟨rfl,hb1⟩)
 have hB1:=HB.out.past hb1
 have b0:=hB1.cell 0;have b1:=hB1.cell 1;have bz:=hB1.lt
 simp at b0 b1
 have HLI:=hidE (list_c sortC vc w1 (HMU.out.past hb1) (HR.out.past hb1) (by omega))
 have HB1:=hidE hb1
 clear hB1 hb1 HM HB
 go_wp2_with fail
 ((with_reducible refine (HLI.out).mono ?_);rintro e w2 ⟨vl,l,rfl,hb2,hpm,hso,how⟩)
 have hbb:=bstep hb2 HB1.out
 obtain ⟨R,hRp,hRF⟩:=rwsF_perm hpm.symm _ (rwsF_all (fun s=>(HF.out s).past hbb) U)
 have hfit:∀ x∈l,x.fit:=fun x hx=>HR.out.fits x (hpm.mem_iff.1 hx)
 have HAA:=hidE (allApart_f w2 (sliRw_own how hfit) hRF (fun r hr=>HS.out r (hRp.mem_iff.1 hr)) (by rw[hpm.length_eq];exact hl))
 have HRP:=hidE (And.intro hRp (rwsF_sorted hRF hso))
 have HBB:=hidE hbb
 clear hb2 hpm hso how hbb hRp hRF hfit HLI HR HF HS HMU
 go_wp2_with fail
 ((with_reducible refine (HAA.out).mono ?_);rintro e w3 ⟨v,l3,rfl,ho3,hF3,hN3,hf3,hb3⟩)
 have HO3:=hidE (own_base ho3 HBB.out.size);have HF3:=hidE hF3;have HN3:=hidE hN3;have HF3':=hidE hf3
 have HB3:=hidE (bstep hb3 HBB.out)
 clear ho3 hF3 hN3 hf3 hb3
 go_wp2
 go_ret
 exact ⟨R,HRP.out.1,HRP.out.2,v,l3,rfl,HO3.out,HF3.out,HN3.out,HF3'.out,HB3.out⟩
end
section
def Rv.ok (r:Rv):Bool:=mayR r.id r.u r.A
def ltV (x r:Rv):Bool:=decide (x.seq<r.seq) || (decide (x.seq=r.seq) && decide (x.id<r.id))
def atS (L:List Rv) (id:Int):Option Nat:=L.findIdx? fun r=>r.id == id
def insS (L:List Rv) (r:Rv):List Rv:=L.takeWhile (fun x=>ltV x r)++r :: L.dropWhile (fun x=>ltV x r)
def fnsS (L:List Rv):List (List Sg):=L.map (·.A)
def sumOk (L:List Rv):Bool:=decide ((sumS (fnsS L)).2=0)
def finS (L N:List Rv):List Rv × Int:=if 128<N.length then (L,6) else if sumOk N then (N,0) else (L,10)
def oneS (L:List Rv) (k:Int) (r:Rv):List Rv × Int :=
 if 2<k then (L,2) else if k≠2∧r.ok=false then (L,5) else
 match atS L r.id with
 | some i=>if k=0 then (L,8) else finS L (if k=2 then L.eraseIdx i else insS (L.eraseIdx i) r)
 | none=>if k≠0 then (L,7) else finS L (insS L r)
def runS:List Rv→List (Int × Rv)→List Rv × Int
 | L,[]=>(L,0)
 | L,c :: r=>if (oneS L c.1 c.2).2=0 then runS (oneS L c.1 c.2).1 r else (L,(oneS L c.1 c.2).2)
def doP (L:List Rv) (cs:List (Int × Rv)):List Rv × Int:=if (runS L cs).2=0 then runS L cs else (L,(runS L cs).2)
theorem runS_snoc:∀ (cs:List (Int × Rv)) (L:List Rv) (c:Int × Rv),(runS L cs).2=0→runS L (cs++[c])=if (oneS (runS L cs).1 c.1 c.2).2=0 then oneS (runS L cs).1 c.1 c.2 else ((runS L cs).1,(oneS (runS L cs).1 c.1 c.2).2)
 | [], L, c, _ => by
   unfold runS
   simp only[List.nil_append,runS]
   split
   ·rename_i h;exact Prod.ext rfl h.symm
   ·rfl
 | x :: r, L, c, h => by
   unfold runS at h ⊢
   by_cases e:(oneS L x.1 x.2).2=0
   ·rw[if_pos e] at h
    rw[if_pos e]
    simp only[List.cons_append,e,if_true]
    exact runS_snoc r _ c h
   ·rw[if_neg e] at h;exact absurd h e
theorem runS_bad:∀ (cs ds:List (Int × Rv)) (L:List Rv),(runS L cs).2≠0→(runS L (cs++ds)).2=(runS L cs).2
 | [],ds,L,h=>by simp[runS] at h
 | x :: r, ds, L, h => by
   unfold runS at h ⊢
   by_cases e:(oneS L x.1 x.2).2=0
   ·rw[if_pos e] at h
    rw[if_pos e]
    simp only[List.cons_append,e,if_true]
    exact runS_bad r ds _ h
   ·rw[if_neg e]
    simp only[List.cons_append,e,if_false]
theorem addS_bad {a b c d:Int} (h:(addS a b c d).2.2=0):okV (a+c) (b+d)=true:=by
 unfold addS at h
 have:=gate_ok h
 simp only[Bool.and_eq_true] at this
 exact this.2
theorem doS_ten {F G:List Sg} (h1:mayB F=true) (h2:mayB G=true) (h:opOk 0 F G=false):doS 0 F G=([],10):=by
 unfold doS
 rw[h1,h2,if_neg (by decide),if_neg (by rw[h];decide)]
theorem add_inR {L M:List (List Sg)} {A B:List Sg} (hA:Loads L A) (hB:Loads M B) (h:opOk 0 A B=true):InR (L++M):=fun t=>by
 have:=opOk_iff.1 h t
 unfold opT at this
 rw[hA.2.1 t,hB.2.1 t,opV_0] at this
 have:=okV_iff.1 (addS_bad this)
 rw[sA_app,sB_app]
 omega
theorem loads_two {L M:List (List Sg)} {A B:List Sg} (hp:∀ F∈L++M,posB F=true) (hA:Loads L A) (hB:Loads M B) :
  (InR (L++M)∧∃ C,sumS [A,B]=(C,0)∧Loads (L++M) C)∨(¬ InR (L++M)∧sumS [A,B]=([],10)):=by
 by_cases hr:InR (L++M)
 ·exact .inl ⟨hr,loads_add hp hr hA hB⟩
 ·refine .inr ⟨hr, ?_⟩
  rw[sumS_twoP hA.1 hB.1]
  cases ho:opOk 0 A B
  ·exact doS_ten hA.1 hB.1 ho
  ·exact absurd (add_inR hA hB ho) hr
theorem inR_nil:InR []:=fun t=>by simp[sA,sB]
theorem sumE_pos {L:List (List Sg)} (hp:∀ F∈L,posB F=true):∀ n,n≤L.length→(InR (L.take n)∧(sumE (L.take n)).2=0∧Loads (L.take n) (sumE (L.take n)).1)∨(¬ InR (L.take n)∧(sumE (L.take n)).2=10)
 | 0,_ => .inl ⟨inR_nil,rfl,loads_nil⟩
 | n + 1, h => by
   have hlt:n<L.length:=h
   have et:L.take (n+1)=L.take n++[L.getD n []]:=by rw[List.take_succ_eq_append_getElem hlt,getD_get _ _ _ hlt]
   have hpa:∀ F∈L.take n++[L.getD n []],posB F=true:=fun F hF=>hp F (by rw[←et] at hF;exact List.mem_of_mem_take hF)
   rcases sumE_pos hp n (by omega) with ⟨h1,h2,h3⟩ | ⟨h1,h2⟩
   ·rw[sumE_step hlt h2]
    have hone:=loads_one (hpa _ (List.mem_append_right _ (List.mem_singleton.2 rfl)))
    rw[et]
    rcases loads_two hpa h3 hone with ⟨g1,C,g2,g3⟩ | ⟨g1,g2⟩
    ·rw[sumS_twoP h3.1 hone.1] at g2
     rw[g2]
     exact .inl ⟨g1,rfl,g3⟩
    ·rw[sumS_twoP h3.1 hone.1] at g2
     rw[g2]
     exact .inr ⟨g1,rfl⟩
   ·refine .inr ⟨fun hr=>h1 ?_, ?_⟩
    ·rw[et] at hr;exact inR_left hpa hr
    ·have e:sumE (L.take (n+1))=if (sumE (L.take n)).2=0 then doS 0 (sumE (L.take n)).1 (L.getD n []) else sumE (L.take n):=by
      unfold sumE
      rw[List.take_succ_eq_append_getElem hlt,List.foldl_append,getD_get _ _ _ hlt];rfl
     rw[e,if_neg (by omega)]
     exact h2
theorem posB_may {F:List Sg} (h:posB F=true):mayB F=true:=by
 unfold posB at h
 rw[Bool.and_eq_true] at h
 exact h.1
theorem sumS_pos {L:List (List Sg)} (hp:∀ F∈L,posB F=true):(InR L∧(sumS L).2=0∧Loads L (sumS L).1)∨(¬ InR L∧(sumS L).2=10):=by
 have e:sumS L=sumE L:=by
  unfold sumS
  rw[if_pos (List.all_eq_true.2 fun F hF=>posB_may (hp F hF))]
 rw[e]
 have:=sumE_pos hp L.length (Nat.le_refl _)
 rwa [List.take_length] at this
theorem rok_pos {r:Rv} (h:r.ok=true):posB r.A=true:=by
 unfold Rv.ok mayR at h
 simp only[Bool.and_eq_true] at h
 exact h.1.1.1.2
theorem rok_len {r:Rv} (h:r.ok=true):r.A.length≤1024:=by
 unfold Rv.ok mayR at h
 simp only[Bool.and_eq_true,decide_eq_true_eq] at h
 exact h.1.1.1.1.2
theorem rok_name {r:Rv} (h:r.ok=true):nameB r.u=true:=by
 unfold Rv.ok mayR at h
 simp only[Bool.and_eq_true] at h
 exact h.1.1.1.1.1.2
theorem fns_pos {L:List Rv} (h:∀ r∈L,r.ok=true):∀ F∈fnsS L,posB F=true:=fun F hF=>by
 obtain ⟨r,hr,rfl⟩:=List.mem_map.1 hF
 exact rok_pos (h r hr)
theorem sumOk_iff {L:List Rv} (h:∀ r∈L,r.ok=true):sumOk L=true↔InR (fnsS L):=by
 unfold sumOk
 rw[decide_eq_true_eq]
 rcases sumS_pos (fns_pos h) with ⟨h1,h2,_⟩ | ⟨h1,h2⟩
 ·exact ⟨fun _=>h1,fun _=>h2⟩
 ·exact ⟨fun e=>by omega,fun e=>absurd e h1⟩
theorem inR_perm {L M:List (List Sg)} (h:L.Perm M) (hL:InR L):InR M:=fun t=>by
 have:=hL t
 rw[(sA_perm h t).1,(sA_perm h t).2] at this
 exact this
structure GoodL (L:List Rv):Prop where
 ord:L.Pairwise fun x y=>ltV x y=true
 ids:(L.map (·.id)).Nodup
 ok:∀ r∈L,r.ok=true
 few:L.length≤128
 inR:InR (fnsS L)
theorem good_nil:GoodL []:=⟨List.Pairwise.nil,List.nodup_nil,fun r h=>by simp at h,by simp,inR_nil⟩
theorem ltV_iff {x y:Rv}:ltV x y=true↔x.seq<y.seq∨(x.seq=y.seq∧x.id<y.id):=by
 unfold ltV
 simp
theorem ltV_trans {x y z:Rv} (h1:ltV x y=true) (h2:ltV y z=true):ltV x z=true:=by
 rw[ltV_iff] at *;omega
theorem ltV_not {x y:Rv} (h:¬ ltV x y=true) (hid:x.id≠y.id):ltV y x=true:=by
 rw[ltV_iff] at *;omega
theorem insS_perm (L:List Rv) (r:Rv):(insS L r).Perm (r :: L):=by
 unfold insS
 refine (List.perm_middle).trans ?_
 rw[List.takeWhile_append_dropWhile]
theorem insS_ord:∀ (L:List Rv) (r:Rv),L.Pairwise (fun x y=>ltV x y=true)→(∀ x∈L,x.id≠r.id)→(insS L r).Pairwise fun x y=>ltV x y=true
 | [],r,_,_=>by simp[insS]
 | x :: L, r, h, hid => by
   obtain ⟨h1,h2⟩:=List.pairwise_cons.1 h
   have ih:=insS_ord L r h2 (fun y hy=>hid y (List.mem_cons_of_mem _ hy))
   by_cases c:ltV x r=true
   ·have e:insS (x :: L) r=x :: insS L r:=by
     unfold insS
     rw[List.takeWhile_cons_of_pos (p:=fun x=>ltV x r) c,List.dropWhile_cons_of_pos (p:=fun x=>ltV x r) c];rfl
    rw[e]
    refine List.pairwise_cons.2 ⟨fun y hy => ?_,ih⟩
    rcases List.mem_cons.1 ((insS_perm L r).mem_iff.1 hy) with rfl | hy
    ·exact c
    ·exact h1 y hy
   ·have e:insS (x :: L) r=r :: x :: L:=by
     unfold insS
     rw[List.takeWhile_cons_of_neg (p:=fun x=>ltV x r) c,List.dropWhile_cons_of_neg (p:=fun x=>ltV x r) c];rfl
    rw[e]
    have hrx:=ltV_not c (hid x (List.mem_cons_self ..))
    refine List.pairwise_cons.2 ⟨fun y hy => ?_,h⟩
    rcases List.mem_cons.1 hy with rfl | hy
    ·exact hrx
    ·exact ltV_trans hrx (h1 y hy)
theorem atS_none {L:List Rv} {id:Int}:atS L id=none↔∀ r∈L,r.id≠id:=by
 unfold atS
 rw[List.findIdx?_eq_none_iff]
 simp
theorem atS_some {L:List Rv} {id:Int} {i:Nat} (h:atS L id=some i):∃ hi:i<L.length,L[i].id=id∧∀ j,(hj:j<i)→L[j].id≠id:=by
 unfold atS at h
 rw[List.findIdx?_eq_some_iff_getElem] at h
 obtain ⟨hi,h1,h2⟩:=h
 exact ⟨hi,by simpa using h1,fun j hj=>by simpa using h2 j hj⟩
theorem ids_erase {L:List Rv} {id:Int} {i:Nat} (hn:(L.map (·.id)).Nodup) (h:atS L id=some i):∀ r∈L.eraseIdx i,r.id≠id:=fun r hr e=>by
 obtain ⟨hi,h1,_⟩:=atS_some h
 obtain ⟨j,hj,hji,rfl⟩:∃ j,∃ hj:j<L.length,j≠i∧L[j]=r:=by
  rw[List.mem_eraseIdx_iff_getElem] at hr
  obtain ⟨j,hj,h2,h3⟩:=hr
  exact ⟨j,hj,h2,h3⟩
 have h3:(L.map (·.id))[j]'(by simpa using hj)=(L.map (·.id))[i]'(by simpa using hi):=by simp[h1,e]
 exact hji ((List.getElem_inj hn).1 h3)
theorem sA_sub {L M:List Rv} (hok:∀ r∈M,r.ok=true) (h:L.Sublist M):∀ t,sA (fnsS L) t≤sA (fnsS M) t∧sB (fnsS L) t≤sB (fnsS M) t:=by
 induction h with
 | slnil=>intro t;exact ⟨Int.le_refl _,Int.le_refl _⟩
 | cons a h ih =>
  intro t
  have:=ih (fun r hr=>hok r (List.mem_cons_of_mem _ hr)) t
  have hp:=hok a (List.mem_cons_self ..)
  have hv:=sAB_pos (L:=[a.A]) (fun F hF=>by rw[List.mem_singleton.1 hF];exact rok_pos hp) t
  unfold fnsS sA sB at *
  simp only[List.map_cons,List.sum_cons,List.map_nil,List.sum_nil] at *
  omega
 | cons_cons a h ih =>
  intro t
  have:=ih (fun r hr=>hok r (List.mem_cons_of_mem _ hr)) t
  unfold fnsS sA sB at *
  simp only[List.map_cons,List.sum_cons] at *
  omega
theorem inR_sub {L M:List Rv} (hok:∀ r∈M,r.ok=true) (h:L.Sublist M) (hr:InR (fnsS M)):InR (fnsS L):=fun t=>by
 have:=sA_sub hok h t
 have:=hr t
 omega
theorem good_erase {L:List Rv} (h:GoodL L) (i:Nat):GoodL (L.eraseIdx i):=by
 have hs:=List.eraseIdx_sublist L i
 exact ⟨h.ord.sublist hs,h.ids.sublist (hs.map _),fun r hr=>h.ok r (hs.subset hr),Nat.le_trans hs.length_le h.few,inR_sub h.ok hs h.inR⟩
theorem good_ins {L:List Rv} {r:Rv} (h:GoodL L) (hr:r.ok=true) (hid:∀ x∈L,x.id≠r.id) (hl:(insS L r).length≤128) (hi:InR (fnsS (insS L r))):GoodL (insS L r):=by
 have hp:=insS_perm L r
 refine ⟨insS_ord L r h.ord hid, ?_,fun x hx => ?_,hl,hi⟩
 ·refine ((hp.map (·.id)).nodup_iff).2 ?_
  rw[List.map_cons,List.nodup_cons]
  refine ⟨fun hm => ?_,h.ids⟩
  obtain ⟨x,hx,e⟩:=List.mem_map.1 hm
  exact hid x hx e
 ·rcases List.mem_cons.1 (hp.mem_iff.1 hx) with rfl | hx
  ·exact hr
  ·exact h.ok x hx
theorem insS_len (L:List Rv) (r:Rv):(insS L r).length=L.length+1:=by rw[(insS_perm L r).length_eq];rfl
theorem erase_len {L:List Rv} {i:Nat} {id:Int} (h:atS L id=some i):(L.eraseIdx i).length+1=L.length:=by
 obtain ⟨hi,_⟩:=atS_some h
 rw[List.length_eraseIdx,if_pos hi];omega
theorem insS_ok {L:List Rv} {r:Rv} (h:GoodL L) (hr:r.ok=true):∀ x∈insS L r,x.ok=true:=fun x hx=>by
 rcases List.mem_cons.1 ((insS_perm L r).mem_iff.1 hx) with rfl | hx
 ·exact hr
 ·exact h.ok x hx
theorem finS_ins {L N:List Rv} {r:Rv} (h:GoodL N) (hr:r.ok=true) (hid:∀ x∈N,x.id≠r.id) (h0:(finS L (insS N r)).2=0):GoodL (finS L (insS N r)).1:=by
 unfold finS at h0 ⊢
 by_cases c:128<(insS N r).length
 ·rw[if_pos c] at h0;simp at h0
 ·rw[if_neg c] at h0 ⊢
  cases hs:sumOk (insS N r)
  ·rw[hs] at h0;simp at h0
  ·rw[if_pos rfl]
   exact good_ins h hr hid (by omega) ((sumOk_iff (insS_ok h hr)).1 hs)
theorem finS_del {L N:List Rv} (h:GoodL N):finS L N=(N,0):=by
 unfold finS
 have:=h.few
 rw[if_neg (by omega),if_pos ((sumOk_iff h.ok).2 h.inR)]
theorem one_good {L:List Rv} {k:Int} {r:Rv} (h:GoodL L) (h0:(oneS L k r).2=0):GoodL (oneS L k r).1:=by
 unfold oneS at h0 ⊢
 by_cases c1:2<k
 ·rw[if_pos c1] at h0;simp at h0
 rw[if_neg c1] at h0 ⊢
 by_cases c2:k≠2∧r.ok=false
 ·rw[if_pos c2] at h0;simp at h0
 rw[if_neg c2] at h0 ⊢
 cases ha:atS L r.id with
 | none =>
  rw[ha] at h0
  simp only at h0 ⊢
  by_cases c3:k≠0
  ·rw[if_pos c3] at h0;simp at h0
  rw[if_neg c3] at h0 ⊢
  have hr:r.ok=true:=by
   cases e:r.ok
   ·exact absurd ⟨by omega,e⟩ c2
   ·rfl
  exact finS_ins h hr (atS_none.1 ha) h0
 | some i =>
  rw[ha] at h0
  simp only at h0 ⊢
  by_cases c3:k=0
  ·rw[if_pos c3] at h0;simp at h0
  rw[if_neg c3] at h0 ⊢
  by_cases c4:k=2
  ·rw[if_pos c4,finS_del (good_erase h i)]
   exact good_erase h i
  ·rw[if_neg c4] at h0 ⊢
   have hr:r.ok=true:=by
    cases e:r.ok
    ·exact absurd ⟨c4,e⟩ c2
    ·rfl
   exact finS_ins (good_erase h i) hr (ids_erase h.ids ha) h0
theorem run_good:∀ (cs:List (Int × Rv)) {L:List Rv},GoodL L→GoodL (runS L cs).1
 | [],L,h=>h
 | c :: r, L, h => by
   unfold runS
   split
   ·rename_i e;exact run_good r (one_good h e)
   ·exact h
end
section
open Go.ChangeShapes Go.WideShapes Go.ChangeAt Go.RowKit
attribute [local irreducible] Go.Calls
def GetIs (w:World) (U:List Ent) (rvs:List UInt8→List Rv) (id:Int) (e:Ending) (w':World):Prop:=Below w.heap.size w w' ∧
 ((∃ p∈U,∃ r∈rvs p.1,r.id=id∧∃ x',e = .returned (.tuple #[rwV x',.int .i64 0])∧RwF w' x' r)∨((∀ p∈U,∀ r∈rvs p.1,r.id≠id)∧e = .returned (.tuple #[rvZ,.int .i64 7])))
theorem rwsF_mem {w:World} {l:List Rw} {R:List Rv} (h:RwsF w l R) {x:Rw} (hx:x∈l):∃ r∈R,RwF w x r:=by
 obtain ⟨i,hi,rfl⟩:=List.getElem_of_mem hx
 have:=h.2 i hi
 rw[List.getD_eq_getElem?_getD,List.getElem?_eq_getElem hi,List.getD_eq_getElem?_getD,List.getElem?_eq_getElem (by rw[h.1];exact hi)] at this
 exact ⟨_,List.getElem_mem _,this⟩
theorem rwsF_mem' {w:World} {l:List Rw} {R:List Rv} (h:RwsF w l R) {r:Rv} (hr:r∈R):∃ x∈l,RwF w x r:=by
 obtain ⟨i,hi,rfl⟩:=List.getElem_of_mem hr
 have hi':i<l.length:=by rw[←h.1];exact hi
 have:=h.2 i hi'
 rw[List.getD_eq_getElem?_getD,List.getElem?_eq_getElem hi',List.getD_eq_getElem?_getD,List.getElem?_eq_getElem hi] at this
 exact ⟨_,List.getElem_mem _,this⟩
theorem grown8 (w:World) (p:Nat) (u0 u1 u2 u3 u4 u5 u6 u7:Value):w.grownBy ((((((((w.setCell ⟨p,0,none⟩ u0).setCell ⟨p,1,none⟩ u1).setCell ⟨p,2,none⟩ u2).setCell ⟨p,3,none⟩ u3).setCell ⟨p,4,none⟩ u4).setCell ⟨p,5,none⟩ u5).setCell ⟨p,6,none⟩ u6).setCell ⟨p,7,none⟩ u7) (some p) :=
 grown_trans (grown_trans (grown_trans (grown_trans (grown_trans (grown_trans (grown_trans (grown_set _ _ _ _) (grown_set _ _ _ _)) (grown_set _ _ _ _)) (grown_set _ _ _ _)) (grown_set _ _ _ _)) (grown_set _ _ _ _)) (grown_set _ _ _ _)) (grown_set _ _ _ _)
set_option maxRecDepth 100000 in
set_option maxHeartbeats 4000000 in
theorem get_c {p m:Nat} {vc:Value} {U:List Ent} {rows:List UInt8→List Rw} {rvs:List UInt8→List Rv} (id:Int) (w:World) (hB:Blk w p #[vc,.map (some m)] 106) (hM:MapU w m U) (hR:RowsOk w U rows) (hF:∀ s,RwsF w (rows s) (rvs s)) (hs:∀ s,∀ r∈rvs s,r.small) (hl:∀ p∈U,(rows p.1).length≤1000000) :
  Calls Tryz.prog 21 #[.pointer (some ⟨p,0,none⟩),.int .u32 id] w (GetIs w U rvs id):=by
 obtain ⟨w0,hw0⟩:∃ w0,w0=w.alloc (Obj.cells #[.int .u32 0,.int .u32 0,.string ⟨#[]⟩,.int .i64 0,.int .i64 0,.slice none 0 0,.slice none 0 0,.slice none 0 0] 50):=⟨_,rfl⟩
 have B0:Blk w0 w.heap.size #[.int .u32 0,.int .u32 0,.string ⟨#[]⟩,.int .i64 0,.int .i64 0,.slice none 0 0,.slice none 0 0,.slice none 0 0] 50:=by rw[hw0];exact Blk.made _ _ _
 have hb0:Below w.heap.size w w0:=by rw[hw0];(repeat (first | exact Below.refl _ _ | assumption | refine balloc ?_ _ | refine below_drewN ?_ _ | refine bstep (by assumption) ?_ | refine bstep (Past.prop _) ?_ | refine Below.setCell ?_ (by first | exact Nat.le_refl _ | (simp;done) | (simp;omega)) _))
 have HM:=hidE (made_c w0 (hB.past hb0))
 have HB:=hidE (hB.past hb0);have HB0:=hidE B0;have HBL:=hidE hb0
 have HMU:=hidE hM;have HR:=hidE hR;have HF:=hidE hF;have HS:=hidE hs;have HL:=hidE hl
 clear hB hM hR hF hs hl B0 hb0
 go_enter Tryz.func21,Tryz.ntmps21
 go_upto_region 1 with fail
 rw[←hw0]
 clear hw0
 go_wp2_with fail
 ((with_reducible refine (HM.out).mono ?_);rintro e w1 ⟨rfl,hb1⟩)
 have hB1:=HB.out.past hb1
 have b0:=hB1.cell 0;have b1:=hB1.cell 1;have bz:=hB1.lt
 simp at b0 b1
 have hbw:=bstep hb1 HBL.out
 have HFI:=hidE (find_c vc id w1 (HMU.out.past hbw) (HR.out.past hbw) HL.out)
 have HB1:=hidE (HB0.out.past hb1)
 have HBW:=hidE hbw
 clear hB1 hb1 hbw HM HB HB0 HBL
 go_wp2_with fail
 ((with_reducible refine (HFI.out).mono ?_);rintro e w2 ⟨hb2,hres⟩)
 have HB2:=hidE (HB1.out.past hb2)
 have HBW2:=hidE (bstep hb2 HBW.out)
 have hz2:=(HB1.out.past hb2).lt
 clear hb2 HB1 HBW HFI b0 b1 bz
 rcases hres with ⟨q,hq,x,hx,hid,rfl⟩ | ⟨hno,rfl⟩
 ·obtain ⟨r,hr,hxr⟩:=rwsF_mem ((HF.out q.1).past HBW2.out) hx
  have hsm:=HS.out q.1 r hr
  have hft:=hxr.fit (by have:=hsm.2.2.2;unfold maxLen;omega)
  have HX:=hidE hxr;have HSM:=hidE hsm
  have HQ:=hidE (show ∃ p∈U,∃ s∈rvs p.1,s.id=id∧s=r from ⟨q,hq,r,hr,by rw[←hxr.id];exact hid,rfl⟩)
  clear hq hx hid hr hxr hsm HR HF HS HL HMU
  obtain ⟨xi,xq,xu,xf,xt,xT,xW,xA⟩:=x
  obtain ⟨⟨a5,n5,c5,q5⟩,⟨a6,n6,c6,q6⟩,⟨a7,n7,c7,q7⟩,hxu⟩:=hft
  simp only at q5 q6 q7
  subst q5 q6 q7
  obtain ⟨w4,hw4⟩:∃ w4,w4=w2.alloc (Obj.cells #[.int .u32 xi,.int .u32 xq,nmV xu,.int .i64 xf,.int .i64 xt,.slice a5 n5 c5,.slice a6 n6 c6,.slice a7 n7 c7] 50):=⟨_,rfl⟩
  have B4:Blk w4 w2.heap.size #[.int .u32 xi,.int .u32 xq,nmV xu,.int .i64 xf,.int .i64 xt,.slice a5 n5 c5,.slice a6 n6 c6,.slice a7 n7 c7] 50:=by rw[hw4];exact Blk.made _ _ _
  have hb4:Below w2.heap.size w2 w4:=by rw[hw4];exact (Below.refl _ _).alloc (Nat.le_refl _) _
  have HAP:=hidE (apart_f (HX.out.past hb4) HSM.out)
  have HB4:=hidE (HB2.out.past hb4);have HBW4:=hidE (bstep hb4 HBW2.out)
  go_upto_region 4 with fail
  rw[←hw4]
  clear hw4
  have b0:=B4.cell 0;have b1:=B4.cell 1;have b2:=B4.cell 2;have b3:=B4.cell 3;have b4:=B4.cell 4;have b5:=B4.cell 5;have b6:=B4.cell 6;have b7:=B4.cell 7;have bf:=B4.free;have bz:=B4.lt
  simp at b0 b1 b2 b3 b4 b5 b6 b7
  clear B4 hb4 HX HB2 HBW2
  go_wp2_with fail
  ((with_reducible refine (HAP.out).mono ?_);rintro e w5 ⟨x',rfl,hx',hxn,hb5⟩)
  have HFX:=hidE (hx'.fit (by have:=HSM.out.2.2.2;unfold maxLen;omega))
  have hB5:=HB4.out.past hb5
  have HBW5:=hidE (bstep hb5 HBW4.out)
  have HX5:=hidE hx';have HXN:=hidE hxn;have HBB:=hidE hB5
  obtain ⟨yi,yq,yu,yf,yt,yT,yW,yA⟩:=x'
  obtain ⟨⟨d5,m5,g5,q5⟩,⟨d6,m6,g6,q6⟩,⟨d7,m7,g7,q7⟩,hyu⟩:=HFX.out
  simp only at q5 q6 q7
  subst q5 q6 q7
  have r0:=hB5.cell 0;have r1:=hB5.cell 1;have r2:=hB5.cell 2;have r3:=hB5.cell 3;have r4:=hB5.cell 4;have r5:=hB5.cell 5;have r6:=hB5.cell 6;have r7:=hB5.cell 7;have rf:=hB5.free;have rz:=hB5.lt
  simp at r0 r1 r2 r3 r4 r5 r6 r7
  clear hx' hxn hb5 hB5 HAP HFX HB4 HBW4
  go_wp2
  refine bodyPost_ret (v := .tuple #[.agg #[.int .u32 yi,.int .u32 yq,nmV yu,.int .i64 yf,.int .i64 yt,.slice d5 m5 g5,.slice d6 m6 g6,.slice d7 m7 g7],.int .i64 0]) (by simp[results,Tryz.results21,go_sem,r0,r1,r2,r3,r4,r5,r6,r7]) rfl ?_
  obtain ⟨p',hp',s',hs',he,rfl⟩:=HQ.out
  have hg:=grown8 w5 w.heap.size (.int .u32 yi) (.int .u32 yq) (nmV yu) (.int .i64 yf) (.int .i64 yt) (.slice d5 m5 g5) (.slice d6 m6 g6) (.slice d7 m7 g7)
  exact ⟨below_eight HBW5.out (Nat.le_refl _) _ _ _ _ _ _ _ _,.inl ⟨p',hp',s',hs',he,_,rfl,(HX5.out.keep HXN.out hg HBB.out).1⟩⟩
 ·have HNO:=hidE (show ∀ p∈U,∀ r∈rvs p.1,r.id≠id from fun q hq r hr=>by
   obtain ⟨x,hx,hxr⟩:=rwsF_mem' (HF.out q.1) hr
   have:=hno q hq x hx
   rwa [hxr.id] at this)
  obtain ⟨w4,hw4⟩:∃ w4,w4=w2.alloc (Obj.cells #[.int .u32 0,.int .u32 0,.string ⟨#[]⟩,.int .i64 0,.int .i64 0,.slice none 0 0,.slice none 0 0,.slice none 0 0] 50):=⟨_,rfl⟩
  have hb4:Below w2.heap.size w2 w4:=by rw[hw4];exact (Below.refl _ _).alloc (Nat.le_refl _) _
  have hB2:=HB2.out.past hb4
  have HBW4:=hidE (bstep hb4 HBW2.out)
  clear hno HR HF HS HL HMU HB2 HBW2
  go_upto_region 4 with fail
  rw[←hw4]
  clear hw4 hb4
  have r0:=hB2.cell 0;have r1:=hB2.cell 1;have r2:=hB2.cell 2;have r3:=hB2.cell 3;have r4:=hB2.cell 4;have r5:=hB2.cell 5;have r6:=hB2.cell 6;have r7:=hB2.cell 7;have rf:=hB2.free;have rz:=hB2.lt
  simp at r0 r1 r2 r3 r4 r5 r6 r7
  clear hB2
  go_wp2
  refine bodyPost_ret (v := .tuple #[rvZ,.int .i64 7]) (by simp[results,Tryz.results21,go_sem,r0,r1,r2,r3,r4,r5,r6,r7]) rfl ⟨?_,.inr ⟨HNO.out,rfl⟩⟩
  exact below_eight HBW4.out (Nat.le_refl _) _ _ _ _ _ _ _ _
set_option maxRecDepth 100000 in
set_option maxHeartbeats 2000000 in
theorem clone_c {m:Nat} {U:List Ent} (w:World) (hU:MapU w m U):Calls Tryz.prog 92 #[.map (some m)] w fun e w'=>e = .returned (.map (some w.heap.size))∧MapU w' w.heap.size U∧MapU w' m U∧Below w.heap.size w w'∧w.heap.size<w'.heap.size:=by
 have hlt:=hU.lt
 obtain ⟨es,clock,hb,h2,h3,h4,h5,h6⟩:=hU
 have HF:=hidE (And.intro h2 (And.intro h3 (And.intro h4 (And.intro h5 h6))))
 have hq:=fun w=>run_eql_map_nil_sl (P:=Tryz.prog) w 102 _ _ (some m) Tryz.underlying102
 clear h2 h3 h4 h5 h6
 go_enter Tryz.func92,Tryz.ntmps92
 go_wp2
 rw[run_callFunc_extern Tryz.func118 (by kernel_rfl) (by kernel_rfl) (by kernel_rfl) (e:=Extern.MapsClone.clone) (by kernel_rfl),run_maps_clone_sl w 102 hb]
 simp only[Result.andThen]
 rw[Oper.upon_value]
 go_wp2
 rw[run_typeAssert_map_sl _ 102 20 _ _ _ Tryz.underlying102]
 simp only[Result.andThen]
 rw[Oper.upon_value]
 go_wp2
 go_ret
 obtain ⟨h2,h3,h4,h5,h6⟩:=HF.out
 exact ⟨rfl,⟨es,clock,(MapKept.heap_alloc w _).1,h2,h3,h4,h5,h6⟩,⟨es,clock,(Below.heap_alloc _ _ m hlt).trans hb,h2,h3,h4,h5,h6⟩,(Below.refl _ w).alloc (Nat.le_refl _) _,by simp⟩
def mpR (B:Nat) (U:List Ent):Value→World→Prop:=fun v w=>∃ m,v = .map (some m)∧B≤m∧MapU w m U
theorem stab_mp (B:Nat) (U:List Ent):Stab (mpR B U):=fun _ _ _ ⟨m,e,h1,h2⟩ hb=>⟨m,e,h1,h2.past hb⟩
def ctR (vc:Value) (B:Nat) (U:List Ent):Value→World→Prop:=fun v w=>∃ m,v=ctV vc m∧B≤m∧MapU w m U
theorem stab_ct (vc:Value) (B:Nat) (U:List Ent):Stab (ctR vc B U):=fun _ _ _ ⟨m,e,h1,h2⟩ hb=>⟨m,e,h1,h2.past hb⟩
set_option maxRecDepth 100000 in
set_option maxHeartbeats 4000000 in
theorem shared_c {m:Nat} {U:List Ent} (a:Option Addr) (n c:Nat) (w:World) (hU:MapU w m U) :
  Calls Tryz.prog 52 #[ctV (.slice a n c) m] w fun e w'=>∃ m',e = .returned (ctV (.slice a n c) m')∧MapU w' m' U∧w.heap.size≤m'∧Below w.heap.size w w':=by
 obtain ⟨w0,hw0⟩:∃ w0,w0=(w.alloc (Obj.cells #[.slice a n c,.map (some m)] 104)).alloc (Obj.cells #[.slice none 0 0,.map none] 104):=⟨_,rfl⟩
 obtain ⟨pb,hpb⟩:∃ pb,pb=w.heap.size:=⟨_,rfl⟩
 have B1:Blk w0 pb #[.slice a n c,.map (some m)] 104:=by rw[hw0,hpb];exact (Blk.made _ _ _).alloc _
 have B2:Blk w0 (pb+1) #[.slice none 0 0,.map none] 104:=by rw[hw0,hpb];exact Blk.made_at _ _ _ _ (by simp)
 have hb0:Below w.heap.size w w0:=by rw[hw0];(repeat (first | exact Below.refl _ _ | assumption | refine balloc ?_ _ | refine below_drewN ?_ _ | refine bstep (by assumption) ?_ | refine bstep (Past.prop _) ?_ | refine Below.setCell ?_ (by first | exact Nat.le_refl _ | (simp;done) | (simp;omega)) _))
 have hz0:w0.heap.size=pb+1+1:=by rw[hw0,hpb];simp
 have HU:=hidE (show MapU w0 m U by rw[hw0];exact (hU.alloc _).alloc _)
 have HB0:=hidE hb0;have HB1:=hidE B1;have HB2:=hidE B2
 go_enter Tryz.func52,Tryz.ntmps52
 go_upto_region 1 with fail
 rw[←hw0,←hpb]
 have b0:=B1.cell 0;have b1:=B1.cell 1;have bz:=B1.lt
 simp at b0 b1
 have HPB:=hidE hpb;have HZ0:=hidE hz0
 clear hw0 B1 B2 hb0 hU hpb hz0
 refine wp_region_J 6 [] (nthR [detR (.pointer (some ⟨pb,0,none⟩)),detR (.slice a n c),detR (.pointer (some ⟨pb,1,none⟩)),detR (.map (some m)),mpR w0.heap.size U,ctR (.slice a n c) w0.heap.size U]) (fun _=>false) (by kernel_rfl) (by decide) (by kernel_rfl) (stab_nth (by intro r hr;simp only[List.mem_cons,List.not_mem_nil,or_false] at hr;rcases hr with rfl | rfl | rfl | rfl | rfl | rfl<;>first | exact stab_det _ | exact stab_mp _ _ | exact stab_ct _ _ _)) ?_ ?_ ?_
 ·intro i o hi ho
  match i,hi with
  | 0, _ =>
   obtain rfl:=Option.some.inj ho
   intro u x hd
   have hc:=Past.cell x
   simp[go_sem,gives,frm,Act.put,nthR,detR,Region.wanted,Below.refl]
  | 1, _ =>
   obtain rfl:=Option.some.inj ho
   intro u x hd
   have hc:=Past.cell x
   have d0:=hd 0 (by decide) (by kernel_rfl)
   simp only[nthR,detR,List.getD_cons_zero] at d0
   simp[go_sem,gives,frm,Act.put,nthR,detR,Region.wanted,Below.refl,hc,d0,b0,bz]
  | 2, _ =>
   obtain rfl:=Option.some.inj ho
   intro u x hd
   have hc:=Past.cell x
   simp[go_sem,gives,frm,Act.put,nthR,detR,Region.wanted,Below.refl]
  | 3, _ =>
   obtain rfl:=Option.some.inj ho
   intro u x hd
   have hc:=Past.cell x
   have d2:=hd 2 (by decide) (by kernel_rfl)
   simp only[nthR,detR,List.getD_cons_zero,List.getD_cons_succ] at d2
   simp[go_sem,gives,frm,Act.put,nthR,detR,Region.wanted,Below.refl,hc,d2,b1,bz]
  | 4, _ =>
   obtain rfl:=Option.some.inj ho
   intro u x hd
   have hc:=Past.cell x
   have d3:=hd 3 (by decide) (by kernel_rfl)
   simp only[nthR,detR,List.getD_cons_zero,List.getD_cons_succ] at d3
   simp[go_sem,gives,frm,Act.put,nthR,Region.wanted,d3]
   (with_reducible refine (clone_c _ (HU.out.past (Past.prop x))).mono ?_);rintro e w3 ⟨rfl,h1,h2,hb3,h4⟩;exact ⟨_,rfl,hb3,⟨_,rfl,(Past.prop x).size,h1⟩⟩
  | 5, _ =>
   obtain rfl:=Option.some.inj ho
   intro u x hd
   have hc:=Past.cell x
   have d1:=hd 1 (by decide) (by kernel_rfl)
   simp only[nthR,detR,List.getD_cons_zero,List.getD_cons_succ] at d1
   have h4:∃ m',u 4 = .map (some m')∧w0.heap.size≤m'∧MapU x.1 m' U:=hd 4 (by decide) (by kernel_rfl)
   have e4:=h4.choose_spec.1;have hm1:=h4.choose_spec.2;generalize h4.choose=m' at *
   simp[go_sem,gives,frm,Act.put,nthR,Region.wanted,Below.refl,d1,e4]
   exact ⟨m',rfl,hm1⟩
  | i+6,h=>exact absurd h (by omega)
 ·intro i o hx ho
  simp at hx
 ·intro u x9 hu hne
  have h5:∃ m',u 5=ctV (.slice a n c) m'∧w0.heap.size≤m'∧MapU x9.1 m' U:=hu 5 (by decide)
  obtain ⟨m',e5,hm1,hm2⟩:=h5
  simp only[frm,List.take,Act.put,e5]
  have hB9:=HB0.out.trans (x9.2.mono HB0.out.size)
  have B29:=HB2.out.past x9.2
  have r0:=B29.cell 0;have r1:=B29.cell 1;have rf:=B29.free;have rz:=B29.lt
  simp at r0 r1
  have HB9:=hidE hB9;have HM1:=hidE hm1;have HM2:=hidE hm2
  clear hu hne e5 hB9 hm1 hm2 B29 HB0 HB1 HB2 HU b0 b1 bz
  generalize x9.1=w9 at *
  go_wp2
  refine bodyPost_ret (v:=ctV (.slice a n c) m') (by simp[results,Tryz.results52,go_sem,r0,r1]) rfl ?_
  have hp:=HPB.out
  have hz:=HZ0.out
  have hm:=HM1.out
  exact ⟨m',rfl,(HM2.out.other (by omega) _).other (by omega) _,by omega,(HB9.out.setCell (show w.heap.size≤pb+1 from by omega) _).setCell (show w.heap.size≤pb+1 from by omega) _⟩
end
section
open Go.ChangeShapes Go.WideShapes Go.ChangeAt Go.RowKit
attribute [local irreducible] Go.Calls
theorem run_store_fnZ {P:Program} {w:World} {a:Addr} {m:Mode} {f:Fn} {l r:Array Value}:(store a (.func f l r) m).run P w=stored P w a (.func f l r) m:=run_store P w a _ m rfl
attribute [local go_sem] run_store_fnZ
abbrev chgV:Array Value:=#[.func (.func 126) #[] #[],.func (.func 127) #[] #[],.func (.func 128) #[] #[]]
set_option maxRecDepth 100000 in
theorem changes_c (w:World):Calls Tryz.prog 96 #[] w fun e w'=>e = .returned (.agg chgV)∧Below w.heap.size w w':=by
 have B:=Blk.made w #[.nilFunc,.nilFunc,.nilFunc] 161
 have b0:=B.cell 0;have b1:=B.cell 1;have b2:=B.cell 2;have bf:=B.free;have bz:=B.lt
 simp at b0 b1 b2
 go_enter Tryz.func96,Tryz.ntmps96
 go_wp2
 refine bodyPost_ret (v := .agg chgV) (by simp[results,Tryz.results96,go_sem]) rfl ⟨rfl,by (repeat (first | exact Below.refl _ _ | assumption | refine balloc ?_ _ | refine below_drewN ?_ _ | refine bstep (by assumption) ?_ | refine bstep (Past.prop _) ?_ | refine Below.setCell ?_ (by first | exact Nat.le_refl _ | (simp;done) | (simp;omega)) _))⟩
end
end Go.Proofs.YtcmponckjkalaaaGreat
