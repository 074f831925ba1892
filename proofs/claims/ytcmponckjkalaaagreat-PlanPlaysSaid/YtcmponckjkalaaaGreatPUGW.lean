/- The document's plans, by the program. No conditions. -/
import Derived.Test.YtcmponckjkalaaaGreatPUGU
import Derived.Test.YtcmponckjkalaaaGreatPUGV
namespace Go.Proofs.YtcmponckjkalaaaGreat
section
open Go.ChangeShapes Go.WideShapes Go.ChangeAt Go.RowKit
attribute [local irreducible] Go.Calls
theorem seg11_c (x m c:Int) (w:World):Calls Tryz.prog 48 #[.int .i64 x,.int .i64 m,.int .i64 c] w fun e w'=>e = .returned (S x m c)∧Below w.heap.size w w':=by
 go_enter Tryz.func48,Tryz.ntmps48
 go_wp2
 exact bodyPost_ret (v:=S x m c) (by simp[results,Tryz.results48,go_sem]) rfl ⟨rfl,by (repeat (first | exact Below.refl _ _ | assumption | refine balloc ?_ _ | refine below_drewN ?_ _ | refine bstep (by assumption) ?_ | refine bstep (Past.prop _) ?_ | refine Below.setCell ?_ (by first | exact Nat.le_refl _ | (simp;done) | (simp;omega)) _))⟩
abbrev annB:List UInt8:=[97,110,110]
abbrev bobB:List UInt8:=[98,111,98]
abbrev AnnB:List UInt8:=[65,110,110]
abbrev rA11:List Sg:=[(5,(2,2)),(9,(0,0))]
abbrev qA11:List Sg:=[(7,(1,0)),(8,(0,0))]
abbrev r11:Rv:=⟨1,0,annB,0,0,[],[],rA11⟩
abbrev q11:Rv:=⟨2,0,bobB,0,0,[],[],qA11⟩
abbrev c11:Rv:=⟨3,0,bobB,0,0,[],[],qA11⟩
abbrev odd11:Rv:=⟨1,0,AnnB,0,0,[],[],rA11⟩
abbrev open11:Rv:=⟨1,0,annB,0,0,[],[],[(5,(2,2))]⟩
set_option maxRecDepth 100000 in
theorem hd11_1:doP [] [(0,r11),(0,q11)]=([r11,q11],0):=by kernel_rfl
set_option maxRecDepth 100000 in
theorem hd11_2:doP [r11,q11] [(2,q11),(0,r11)]=([r11,q11],8):=by kernel_rfl
set_option maxRecDepth 100000 in
theorem hd11_3:doP [r11,q11] [(1,c11)]=([r11,q11],7):=by kernel_rfl
set_option maxRecDepth 100000 in
theorem hd11_4:doP [r11,q11] [(2,c11)]=([r11,q11],7):=by kernel_rfl
theorem hd11_5:sumS (fnsS [r11,q11])=([(5,(2,2)),(7,(3,2)),(8,(2,2)),(9,(0,0))],0):=by decide +kernel
theorem hd11_6:sumS (fnsS (ofU [r11,q11] annB))=(rA11,0):=by decide +kernel
theorem hd11_7:usersS [r11,q11]=[annB,bobB]:=by decide +kernel
theorem hd11_8:r11.ok=true∧q11.ok=true∧odd11.ok=false∧open11.ok=false:=by decide +kernel
theorem hd11_9:posB [(0,(9,9))]=true∧posB [(0,(-1,0))]=false:=by decide +kernel
theorem sliF3_blk {w:World} {p n:Nat} {cs:Array Value} {F:List Sg} {t:TypeId} (h:Blk w p cs t) (hc:cs=(cellsOfS F).toArray) (hn:n=F.length) (h2:n≤1000000):SliF3 w (.slice (some ⟨p,0,none⟩) n n) F:=by
 subst hn
 exact ⟨sliS_new h hc rfl h2,srcV_new (by rw[←hc];exact h) (cellsOfS_len F) (cellsOfS_one F)⟩
theorem sliF3_take {w:World} {p n cap:Nat} {cs:Array Value} {F:List Sg} {t:TypeId} (h:Blk w p cs t) (hc:cs=(cellsOfS F).toArray) (hn:n≤F.length) (hcap:F.length≤cap) (h2:cap≤1000000):SliF3 w (.slice (some ⟨p,0,none⟩) n cap) (F.take n):=by
 have h0:=(sliS_new (n:=F.length) h hc rfl (by omega))
 obtain ⟨a,c,e,_,_,hA⟩:=h0
 simp only[Value.slice.injEq] at e
 obtain ⟨rfl,_,_⟩:=e
 have hl:(F.take n).length=n:=by rw[List.length_take];omega
 refine ⟨⟨_,cap,by rw[hl],by rw[hl];omega,by omega,fun hp => ?_⟩, ?_⟩
 ·obtain ⟨b,off,e2,hb,hcl⟩:=hA (by rw[hl] at hp;omega)
  refine ⟨b,off,e2,hb,fun i hi => ?_⟩
  rw[hl] at hi
  have:=hcl i (by omega)
  rw[List.getD_eq_getElem?_getD,List.getElem?_take,if_pos hi,←List.getD_eq_getElem?_getD]
  exact this
 ·rw[hl]
  refine ⟨_,cap,rfl,(fun e=>by cases e),by rw[cellsOfS_len,hl],cellsOfS_one _,fun ad ha j u hu => ?_⟩
  cases ha
  have hj:j<n * 3:=by
   obtain ⟨hlt,_⟩:=List.getElem?_eq_some_iff.1 hu
   rw[cellsOfS_len,hl] at hlt;exact hlt
  have hsp:cellsOfS F=cellsOfS (F.take n)++cellsOfS (F.drop n):=by rw[←cellsOfS_app,List.take_append_drop]
  have hu2:(cellsOfS F)[j]? = some u:=by rw[hsp,List.getElem?_append_left (by rw[cellsOfS_len,hl];exact hj)];exact hu
  have e:((⟨p,0,none⟩:Addr).add j)=⟨p,j,none⟩:=by
   unfold Addr.add
   by_cases c:j=0
   ·subst c;simp
   ·simp[c]
  rw[e,h.cell j,hc,List.getElem?_toArray]
  exact hu2
theorem rwF_bare {w:World} {id:Int} {u:List UInt8} {v:Value} {A:List Sg} (h:SliF3 w v A):RwF w ⟨id,0,u,0,0,.slice none 0 0,.slice none 0 0,v⟩ ⟨id,0,u,0,0,[],[],A⟩ :=
 ⟨rfl,rfl,rfl,rfl,rfl,sliP_nil w,srcV_nil w 5,⟨none,0,rfl,Nat.le_refl _,by omega,fun h=>by simp at h⟩,srcV_nil w 2,h⟩
def chCells:List Cw→List Value
 | []=>[]
 | q :: l=>cwCells q++chCells l
theorem chCells_get:∀ (l:List Cw) (i j:Nat),i<l.length→j<9→(chCells l)[i * 9+j]? = (cwCells (l.getD i cw0))[j]?
 | [],i,j,h,_=>by simp at h
 | q :: l, 0, j, _, hj => by
   simp only[chCells,Nat.zero_mul,Nat.zero_add,List.getD_cons_zero]
   rw[List.getElem?_append_left (by simpa using hj)]
 | q :: l, i + 1, j, h, hj => by
   simp only[chCells,List.getD_cons_succ]
   rw[List.getElem?_append_right (by simp;omega)]
   have:=chCells_get l i j (by simpa using h) hj
   rw[←this]
   congr 1
   simp
   omega
theorem sliCh_blk {w:World} {p n:Nat} {cs:Array Value} {l:List Cw} {t:TypeId} (h:Blk w p cs t) (hc:cs=(chCells l).toArray) (hn:n=l.length) (h2:n≤1000000):SliCh w (.slice (some ⟨p,0,none⟩) n n) l:=by
 subst hn
 refine ⟨_,_,rfl,Nat.le_refl _,by omega,fun _=>⟨p,0,rfl,h.lt,fun i j hi hj => ?_⟩⟩
 rw[Nat.zero_add,h.cell,hc,List.getElem?_toArray,chCells_get l i j hi hj]
theorem chsF_nil (w:World):ChsF w [] []:=⟨rfl,fun i h=>by simp at h,fun i h=>by simp at h,fun i h=>by simp at h⟩
theorem chsF_cons {w:World} {q:Cw} {c:Int × Rv} {l:List Cw} {cs:List (Int × Rv)} (h:ChsF w l cs) (h1:q.1=c.1) (h2:0≤q.1∧q.1≤255) (h3:RwF w q.2 c.2) (h4:c.2.small):ChsF w (q :: l) (c :: cs) :=
 ⟨by simp[h.len],fun i hi=>by
  cases i with
  | zero=>exact ⟨h1,h2⟩
  | succ i=>exact h.kd i (by simpa using hi),fun i hi=>by
  cases i with
  | zero=>exact h3
  | succ i=>exact h.rv i (by simpa using hi),fun i hi=>by
  cases i with
  | zero=>exact h4
  | succ i=>exact h.small i (by simpa using hi)⟩
theorem do_f {p:Nat} {L L':List Rv} {C:List Sg} {v:Value} {l:List Cw} {cs:List (Int × Rv)} {k:Int} (w:World) (hP:Pl w p L C) (hv:SliCh w v l) (hc:ChsF w l cs) (hl:l.length≤1000000) (he:doP L cs=(L',k)) :
  Calls Tryz.prog 15 #[.pointer (some ⟨p,0,none⟩),v] w fun e w'=>e = .returned (.int .i64 k)∧w.grownBy w' (some p)∧Pl w' p L' C∧(k≠0→Below w.heap.size w w'):=by
 refine (do_c w hP hv hc hl).mono ?_
 unfold DoIs
 rw[he]
 exact fun e w' h=>h
def chR (q:Cw):Value→World→Prop:=fun v w=>∃ b,v = .slice (some ⟨b,0,none⟩) 1 1∧Blk w b (chCells [q]).toArray 52
theorem stab_chR (q:Cw):Stab (chR q):=fun _ _ _ ⟨b,e,h⟩ hb=>⟨b,e,h.past hb⟩
structure Hd0 (w wx:World) (p1 p2 pa pb:Nat):Prop where
 b1:Blk wx p1 #[.int .u32 1,.int .u32 0,nmV annB,.int .i64 0,.int .i64 0,.slice none 0 0,.slice none 0 0,.slice (some ⟨pa,0,none⟩) 2 2] 50
 b2:Blk wx p2 #[.int .u32 2,.int .u32 0,nmV bobB,.int .i64 0,.int .i64 0,.slice none 0 0,.slice none 0 0,.slice (some ⟨pb,0,none⟩) 2 2] 50
 ba:Blk wx pa (cellsOfS rA11).toArray 100
 bb:Blk wx pb (cellsOfS qA11).toArray 100
 base:Below w.heap.size w wx
theorem Hd0.past {w wx w':World} {p1 p2 pa pb:Nat} (h:Hd0 w wx p1 p2 pa pb) (hb:Below wx.heap.size wx w'):Hd0 w w' p1 p2 pa pb:=⟨h.b1.past hb,h.b2.past hb,h.ba.past hb,h.bb.past hb,h.base.trans (hb.mono h.base.size)⟩
theorem Hd0.keep {w wx w':World} {p1 p2 pa pb p:Nat} {L:List Rv} {C:List Sg} (h:Hd0 w wx p1 p2 pa pb) (hP:Pl wx p L C) (hg:wx.grownBy w' (some p)) (hp:w.heap.size≤p):Hd0 w w' p1 p2 pa pb:=by
 have hn:=hP.noInt
 have ne:∀ {k:Nat} {cs:Array Value} {t:TypeId} (hb:Blk wx k cs t) (o:Nat) (kk:IntKind) (i:Int),cs[o]? = some (.int kk i)→some k≠some p:=fun {k} {cs} {t} hb o kk i hc e=>by
  cases e
  exact hn o kk i ((hb.cell o).trans hc)
 exact ⟨h.b1.grown hg (ne h.b1 0 _ _ rfl),h.b2.grown hg (ne h.b2 0 _ _ rfl),h.ba.grown hg (ne h.ba 0 _ _ rfl),h.bb.grown hg (ne h.bb 0 _ _ rfl),Below.grown h.base hg h.base.size (fun k e=>by cases e;exact hp)⟩
theorem Hd0.r {w wx:World} {p1 p2 pa pb:Nat} (h:Hd0 w wx p1 p2 pa pb):RwF wx (⟨1,0,annB,0,0,.slice none 0 0,.slice none 0 0,.slice (some ⟨pa,0,none⟩) 2 2⟩:Rw) r11:=rwF_bare (sliF3_blk h.ba rfl rfl (by omega))
theorem Hd0.q {w wx:World} {p1 p2 pa pb:Nat} (id:Int) (h:Hd0 w wx p1 p2 pa pb):RwF wx ⟨id,0,bobB,0,0,.slice none 0 0,.slice none 0 0,.slice (some ⟨pb,0,none⟩) 2 2⟩ ⟨id,0,bobB,0,0,[],[],qA11⟩:=rwF_bare (sliF3_blk h.bb rfl rfl (by omega))
theorem small11 (id:Int) (u:List UInt8) (A:List Sg) (hu:u.length≤1000000) (hA:A.length≤1000000000):(⟨id,0,u,0,0,[],[],A⟩:Rv).small:=⟨by simp,by simp,hA,hu⟩
set_option maxRecDepth 100000 in
set_option maxHeartbeats 32000000 in
theorem plhead_c (w:World):Calls Tryz.prog 11 #[] w fun e w'=>e = .returned (.bool true)∧Below w.heap.size w w':=by
 go_enter Tryz.func11,Tryz.ntmps11
 go_upto_region 1 with fail
 go_cut [1] (fun s1 wx=>∃ p1 pa,s1 = .pointer (some ⟨p1,0,none⟩)∧Blk wx p1 #[.int .u32 1,.int .u32 0,nmV annB,.int .i64 0,.int .i64 0,.slice none 0 0,.slice none 0 0,.slice (some ⟨pa,0,none⟩) 2 2] 50∧Blk wx pa (cellsOfS rA11).toArray 100∧Below w.heap.size w wx)
 case first =>
  go_wp2_with (go_at_call 48;((with_reducible refine (seg11_c _ _ _ _).mono ?_);rintro e w1 ⟨rfl,hb1⟩))
  go_meet
  case rel=>exact ⟨_,_,rfl,Blk.made_at _ _ _ _ (by simp),(Blk.made _ _ _).alloc _,by (repeat (first | exact Below.refl _ _ | assumption | refine balloc ?_ _ | refine below_drewN ?_ _ | refine bstep (by assumption) ?_ | refine bstep (Past.prop _) ?_ | refine Below.setCell ?_ (by first | exact Nat.le_refl _ | (simp;done) | (simp;omega)) _))⟩
 obtain ⟨p1,pa,rfl,hB1,hBa,hb⟩:=hcut
 go_upto_region 2 with fail
 go_cut [2] (fun s2 wx=>∃ p2 pb,s2 = .pointer (some ⟨p2,0,none⟩)∧Hd0 w wx p1 p2 pa pb)
 case first =>
  go_wp2_with (go_at_call 48;((with_reducible refine (seg11_c _ _ _ _).mono ?_);rintro e w1 ⟨rfl,hb1⟩))
  go_meet
  case rel=>exact ⟨_,_,rfl,⟨by (repeat (first | assumption | refine Blk.past ?_ (by assumption) | refine Blk.past ?_ (Past.prop _) | refine Blk.alloc ?_ _ | refine Blk.other ?_ (by omega) _ | refine Blk.drew ?_ _)),Blk.made_at _ _ _ _ (by simp),by (repeat (first | assumption | refine Blk.past ?_ (by assumption) | refine Blk.past ?_ (Past.prop _) | refine Blk.alloc ?_ _ | refine Blk.other ?_ (by omega) _ | refine Blk.drew ?_ _)),(Blk.made _ _ _).alloc _,by (repeat (first | exact Below.refl _ _ | assumption | refine balloc ?_ _ | refine below_drewN ?_ _ | refine bstep (by assumption) ?_ | refine bstep (Past.prop _) ?_ | refine Below.setCell ?_ (by first | exact Nat.le_refl _ | (simp;done) | (simp;omega)) _))⟩⟩
 clear hB1 hBa hb
 obtain ⟨p2,pb,rfl,hH⟩:=hcut
 have HH:=hidE hH
 clear hH
 go_upto_region 3 with fail
 have HN:=hidE (fun (w':World) (p:Nat) (t:TypeId) (hB:Blk w' p #[.int .i64 0,.int .i64 9,.int .i64 9] t)=>new_f w' (sliF3_blk (n:=1) (F:=[(0,(9,9))]) hB rfl rfl (by omega)) (by simp))
 go_cut [3,4] (fun s3 s4 wx=>∃ p,s3 = .pointer (some ⟨p,0,none⟩)∧s4 = .int .i64 0∧Hd0 w wx p1 p2 pa pb∧Pl wx p [] [(0,(9,9))]∧w.heap.size≤p)
 case first =>
  go_wp2_with (go_at_call 48;((with_reducible refine (seg11_c _ _ _ _).mono ?_);rintro e w1 ⟨rfl,hb1⟩))
  ((with_reducible refine (HN.out _ _ _ (Blk.made _ _ _)).mono ?_);rintro e w2 ⟨hb2,⟨hf,_⟩ | ⟨_,p,rfl,hP,hp⟩⟩)
  ·exact absurd hf (by rw[hd11_9.1];decide)
  ·have hb3:=Below.trans (hb1.trans ((Below.alloc (Below.refl _ w1) (Nat.le_refl _) (Obj.cells #[.int .i64 0,.int .i64 9,.int .i64 9] 100)).mono hb1.size)) (hb2.mono (by have:=hb1.size;simp;omega))
   have HQ:=hidE (And.intro (HH.out.past hb3) (And.intro hP (show w.heap.size≤p from by have h1:=HH.out.base.size;have h2:=hb1.size;simp at hp;omega)))
   clear hb1 hb2 hb3 hP hp
   go_wp2
   go_meet
   case rel=>exact ⟨p,rfl,rfl,HQ.out⟩
 clear HN HH
 obtain ⟨p,rfl,rfl,hH,hP,hpz⟩:=hcut
 have HH:=hidE hH;have HP:=hidE hP;have HPZ:=hidE hpz
 have HD1:=hidE (fun (w':World) (b:Nat) (t:TypeId) (hb:Below wc.heap.size wc w') (hB:Blk w' b (chCells [(0,(⟨1,0,annB,0,0,.slice none 0 0,.slice none 0 0,.slice (some ⟨pa,0,none⟩) 2 2⟩:Rw)),(0,(⟨2,0,bobB,0,0,.slice none 0 0,.slice none 0 0,.slice (some ⟨pb,0,none⟩) 2 2⟩:Rw))]).toArray t)=>do_f w' (HP.out.past hb) (sliCh_blk (n:=2) hB rfl rfl (by omega)) (chsF_cons (chsF_cons (chsF_nil w') (c:=(0,q11)) rfl ⟨by simp,by simp⟩ ((HH.out.past hb).q 2) (small11 _ _ _ (by simp) (by simp))) (c:=(0,r11)) rfl ⟨by simp,by simp⟩ (HH.out.past hb).r (small11 _ _ _ (by simp) (by simp))) (by simp) hd11_1)
 have f0:=hH.b1.cell 0;have f1:=hH.b1.cell 1;have f2:=hH.b1.cell 2;have f3:=hH.b1.cell 3;have f4:=hH.b1.cell 4;have f5:=hH.b1.cell 5;have f6:=hH.b1.cell 6;have f7:=hH.b1.cell 7;have fz:=hH.b1.lt
 have g0:=hH.b2.cell 0;have g1:=hH.b2.cell 1;have g2:=hH.b2.cell 2;have g3:=hH.b2.cell 3;have g4:=hH.b2.cell 4;have g5:=hH.b2.cell 5;have g6:=hH.b2.cell 6;have g7:=hH.b2.cell 7;have gz:=hH.b2.lt
 simp at f0 f1 f2 f3 f4 f5 f6 f7 g0 g1 g2 g3 g4 g5 g6 g7
 go_upto_region 6 with fail
 go_cut [5] (fun s5 wx=>s5 = .int .i64 0∧Hd0 w wx p1 p2 pa pb∧Pl wx p [r11,q11] [(0,(9,9))])
 case first =>
  go_wp2_with fail
  (refine (HD1.out _ _ _ (Below.alloc (Below.refl _ _) (Nat.le_refl _) _) (Blk.made _ _ _)).mono ?_;rintro e w2 ⟨rfl,hg2,hP2,_⟩)
  have hbn:=Below.alloc (Below.refl wc.heap.size wc) (Nat.le_refl _) (Obj.cells (chCells [(0,(⟨1,0,annB,0,0,.slice none 0 0,.slice none 0 0,.slice (some ⟨pa,0,none⟩) 2 2⟩:Rw)),(0,(⟨2,0,bobB,0,0,.slice none 0 0,.slice none 0 0,.slice (some ⟨pb,0,none⟩) 2 2⟩:Rw))]).toArray 52)
  have HQ:=hidE (And.intro ((HH.out.past hbn).keep (HP.out.past hbn) hg2 HPZ.out) hP2)
  clear hbn hg2 hP2
  go_wp2
  go_meet
  case rel=>exact ⟨rfl,HQ.out.1,HQ.out.2⟩
 clear f0 f1 f2 f3 f4 f5 f6 f7 fz g0 g1 g2 g3 g4 g5 g6 g7 gz hH hP
 clear HD1 HH HP
 obtain ⟨rfl,hH,hP⟩:=hcut
 have HH:=hidE hH;have HP:=hidE hP
 have f0:=hH.b1.cell 0;have f1:=hH.b1.cell 1;have f2:=hH.b1.cell 2;have f3:=hH.b1.cell 3;have f4:=hH.b1.cell 4;have f5:=hH.b1.cell 5;have f6:=hH.b1.cell 6;have f7:=hH.b1.cell 7;have fz:=hH.b1.lt
 have g0:=hH.b2.cell 0;have g1:=hH.b2.cell 1;have g2:=hH.b2.cell 2;have g3:=hH.b2.cell 3;have g4:=hH.b2.cell 4;have g5:=hH.b2.cell 5;have g6:=hH.b2.cell 6;have g7:=hH.b2.cell 7;have gz:=hH.b2.lt
 simp at f0 f1 f2 f3 f4 f5 f6 f7 g0 g1 g2 g3 g4 g5 g6 g7
 have HD2:=hidE (fun (w':World) (b:Nat) (t:TypeId) (hb:Below wc.heap.size wc w') (hB:Blk w' b (chCells [(2,(⟨2,0,bobB,0,0,.slice none 0 0,.slice none 0 0,.slice (some ⟨pb,0,none⟩) 2 2⟩:Rw)),(0,(⟨1,0,annB,0,0,.slice none 0 0,.slice none 0 0,.slice (some ⟨pa,0,none⟩) 2 2⟩:Rw))]).toArray t)=>do_f w' (HP.out.past hb) (sliCh_blk (n:=2) hB rfl rfl (by omega)) (chsF_cons (chsF_cons (chsF_nil w') (c:=(0,r11)) rfl ⟨by simp,by simp⟩ (HH.out.past hb).r (small11 _ _ _ (by simp) (by simp))) (c:=(2,q11)) rfl ⟨by simp,by simp⟩ ((HH.out.past hb).q 2) (small11 _ _ _ (by simp) (by simp))) (by simp) hd11_2)
 go_upto_region 7 with fail
 go_cut [6] (fun s5 wx=>s5 = .int .i64 8∧Hd0 w wx p1 p2 pa pb∧Pl wx p [r11,q11] [(0,(9,9))])
 case first =>
  go_wp2_with fail
  (refine (HD2.out _ _ _ (Below.alloc (Below.refl _ _) (Nat.le_refl _) _) (Blk.made _ _ _)).mono ?_;rintro e w2 ⟨rfl,hg2,hP2,_⟩)
  have hbn:=Below.alloc (Below.refl wc.heap.size wc) (Nat.le_refl _) (Obj.cells (chCells [(2,(⟨2,0,bobB,0,0,.slice none 0 0,.slice none 0 0,.slice (some ⟨pb,0,none⟩) 2 2⟩:Rw)),(0,(⟨1,0,annB,0,0,.slice none 0 0,.slice none 0 0,.slice (some ⟨pa,0,none⟩) 2 2⟩:Rw))]).toArray 52)
  have HQ:=hidE (And.intro ((HH.out.past hbn).keep (HP.out.past hbn) hg2 HPZ.out) hP2)
  clear hbn hg2 hP2
  go_wp2
  go_meet
  case rel=>exact ⟨rfl,HQ.out.1,HQ.out.2⟩
 clear f0 f1 f2 f3 f4 f5 f6 f7 fz g0 g1 g2 g3 g4 g5 g6 g7 gz hH hP
 clear HD2 HH HP
 obtain ⟨rfl,hH,hP⟩:=hcut
 have HH:=hidE hH;have HP:=hidE hP
 have f0:=hH.b1.cell 0;have f1:=hH.b1.cell 1;have f2:=hH.b1.cell 2;have f3:=hH.b1.cell 3;have f4:=hH.b1.cell 4;have f5:=hH.b1.cell 5;have f6:=hH.b1.cell 6;have f7:=hH.b1.cell 7;have fz:=hH.b1.lt
 have g0:=hH.b2.cell 0;have g1:=hH.b2.cell 1;have g2:=hH.b2.cell 2;have g3:=hH.b2.cell 3;have g4:=hH.b2.cell 4;have g5:=hH.b2.cell 5;have g6:=hH.b2.cell 6;have g7:=hH.b2.cell 7;have gz:=hH.b2.lt
 simp at f0 f1 f2 f3 f4 f5 f6 f7 g0 g1 g2 g3 g4 g5 g6 g7
 obtain ⟨wa,hwa⟩:∃ wa,wa=wc:=⟨_,rfl⟩
 subst hwa
 go_upto_region 8 with fail
 go_cut [7] (fun s7 wx=>∃ p7,s7 = .pointer (some ⟨p7,0,none⟩)∧Blk wx p7 #[.int .u32 2,.int .u32 0,nmV bobB,.int .i64 0,.int .i64 0,.slice none 0 0,.slice none 0 0,.slice (some ⟨pb,0,none⟩) 2 2] 50∧wa.heap.size≤p7∧Below wa.heap.size wa wx)
 case first =>
  go_wp2
  go_meet
  case rel=>exact ⟨_,rfl,Blk.made _ _ _,Nat.le_refl _,Below.alloc (Below.refl wa.heap.size wa) (Nat.le_refl _) _⟩
 clear f0 f1 f2 f3 f4 f5 f6 f7 fz g0 g1 g2 g3 g4 g5 g6 g7 gz hH hP
 obtain ⟨p7,rfl,hB7,hz7,hb7⟩:=hcut
 obtain ⟨w9,hw9⟩:∃ w9,w9=wc.setCell ⟨p7,0,none⟩ (.int .u32 3):=⟨_,rfl⟩
 have hB9:Blk w9 p7 #[.int .u32 3,.int .u32 0,nmV bobB,.int .i64 0,.int .i64 0,.slice none 0 0,.slice none 0 0,.slice (some ⟨pb,0,none⟩) 2 2] 50:=by rw[hw9];simpa using hB7.set 0 (.int .u32 3)
 have hb9:Below wa.heap.size wa w9:=by rw[hw9];exact hb7.setCell hz7 _
 have hH9:=HH.out.past hb9;have hP9:=HP.out.past hb9
 have HH9:=hidE hH9;have HP9:=hidE hP9;have HB9:=hidE hB9
 have h0:=hB7.cell 0;have hf:=hB7.free 0;have hz:=hB7.lt
 simp at h0
 clear hB7 hz7 hb7 hb9 hH9 hP9 HH HP
 go_upto_region 10 with fail
 rw[←hw9]
 clear hw9 h0 hf hz
 have h0:=hB9.cell 0;have h1:=hB9.cell 1;have h2:=hB9.cell 2;have h3:=hB9.cell 3;have h4:=hB9.cell 4;have h5:=hB9.cell 5;have h6:=hB9.cell 6;have h7:=hB9.cell 7;have hz:=hB9.lt
 simp at h0 h1 h2 h3 h4 h5 h6 h7
 clear hB9
 have HD3:=hidE (fun (w':World) (b:Nat) (t:TypeId) (hb:Below w9.heap.size w9 w') (hB:Blk w' b (chCells [(1,(⟨3,0,bobB,0,0,.slice none 0 0,.slice none 0 0,.slice (some ⟨pb,0,none⟩) 2 2⟩:Rw))]).toArray t)=>do_f w' (HP9.out.past hb) (sliCh_blk (n:=1) hB rfl rfl (by omega)) (chsF_cons (chsF_nil w') (c:=(1,c11)) rfl ⟨by simp,by simp⟩ ((HH9.out.past hb).q 3) (small11 _ _ _ (by simp) (by simp))) (by simp) hd11_3)
 have HD4:=hidE (fun (w':World) (b:Nat) (t:TypeId) (hb:Below w9.heap.size w9 w') (hB:Blk w' b (chCells [(2,(⟨3,0,bobB,0,0,.slice none 0 0,.slice none 0 0,.slice (some ⟨pb,0,none⟩) 2 2⟩:Rw))]).toArray t)=>do_f w' (HP9.out.past hb) (sliCh_blk (n:=1) hB rfl rfl (by omega)) (chsF_cons (chsF_nil w') (c:=(2,c11)) rfl ⟨by simp,by simp⟩ ((HH9.out.past hb).q 3) (small11 _ _ _ (by simp) (by simp))) (by simp) hd11_4)
 refine wp_region_J 12 [] (nthR [detR (.pointer (some ⟨p,0,none⟩)),detR (rwV (⟨3,0,bobB,0,0,.slice none 0 0,.slice none 0 0,.slice (some ⟨pb,0,none⟩) 2 2⟩:Rw)),detR (chV 1 (⟨3,0,bobB,0,0,.slice none 0 0,.slice none 0 0,.slice (some ⟨pb,0,none⟩) 2 2⟩:Rw)),chR (1,(⟨3,0,bobB,0,0,.slice none 0 0,.slice none 0 0,.slice (some ⟨pb,0,none⟩) 2 2⟩:Rw)),detR (.int .i64 7),detR (.pointer (some ⟨p,0,none⟩)),detR (rwV (⟨3,0,bobB,0,0,.slice none 0 0,.slice none 0 0,.slice (some ⟨pb,0,none⟩) 2 2⟩:Rw)),detR (chV 2 (⟨3,0,bobB,0,0,.slice none 0 0,.slice none 0 0,.slice (some ⟨pb,0,none⟩) 2 2⟩:Rw)),chR (2,(⟨3,0,bobB,0,0,.slice none 0 0,.slice none 0 0,.slice (some ⟨pb,0,none⟩) 2 2⟩:Rw)),detR (.int .i64 7),detR (.int .i64 7),detR (.int .i64 7)]) (fun _=>false) (by kernel_rfl) (by decide) (by kernel_rfl) (stab_nth (by intro r hr;simp only[List.mem_cons,List.not_mem_nil,or_false] at hr;rcases hr with rfl | rfl | rfl | rfl | rfl | rfl | rfl | rfl | rfl | rfl | rfl | rfl<;>first | exact stab_det _ | exact stab_chR _)) ?_ ?_ ?_
 ·intro i o hi ho
  match i,hi with
  | 0, _ =>
   obtain rfl:=Option.some.inj ho
   intro u x hd
   have hc:=Past.cell x
   simp[go_sem,gives,frm,Act.put,nthR,detR,Region.wanted,Below.refl]
  | 1, _ =>
   obtain rfl:=Option.some.inj ho
   intro u x hd
   have hc:=Past.cell x
   simp[go_sem,gives,frm,Act.put,nthR,detR,Region.wanted,Below.refl,hc,h0,h1,h2,h3,h4,h5,h6,h7,hz]
  | 2, _ =>
   obtain rfl:=Option.some.inj ho
   intro u x hd
   have hc:=Past.cell x
   have d1:=hd 1 (by decide) (by kernel_rfl)
   simp only[nthR,detR,List.getD_cons_zero,List.getD_cons_succ] at d1
   simp[go_sem,gives,frm,Act.put,nthR,detR,Region.wanted,Below.refl,d1]
  | 3, _ =>
   obtain rfl:=Option.some.inj ho
   intro u x hd
   have hc:=Past.cell x
   have d2:=hd 2 (by decide) (by kernel_rfl)
   simp only[nthR,detR,List.getD_cons_zero,List.getD_cons_succ] at d2
   simp[go_sem,gives,frm,Act.put,nthR,Region.wanted,d2]
   exact ⟨by (repeat (first | exact Below.refl _ _ | assumption | refine balloc ?_ _ | refine below_drewN ?_ _ | refine bstep (by assumption) ?_ | refine bstep (Past.prop _) ?_ | refine Below.setCell ?_ (by first | exact Nat.le_refl _ | (simp;done) | (simp;omega)) _)),_,rfl,Blk.made _ _ _⟩
  | 4, _ =>
   obtain rfl:=Option.some.inj ho
   intro u x hd
   have hc:=Past.cell x
   have d0:=hd 0 (by decide) (by kernel_rfl)
   simp only[nthR,detR,List.getD_cons_zero] at d0
   obtain ⟨b,e3,hBk⟩:chR (1,(⟨3,0,bobB,0,0,.slice none 0 0,.slice none 0 0,.slice (some ⟨pb,0,none⟩) 2 2⟩:Rw)) (u 3) x.1:=hd 3 (by decide) (by kernel_rfl)
   simp[go_sem,gives,frm,Act.put,nthR,Region.wanted,d0,e3]
   (refine (HD3.out _ _ _ (Past.prop x) hBk).mono ?_);rintro e w3 ⟨rfl,_,_,hb3⟩;exact ⟨_,rfl,hb3 (by decide),rfl⟩
  | 5, _ =>
   obtain rfl:=Option.some.inj ho
   intro u x hd
   have hc:=Past.cell x
   simp[go_sem,gives,frm,Act.put,nthR,detR,Region.wanted,Below.refl]
  | 6, _ =>
   obtain rfl:=Option.some.inj ho
   intro u x hd
   have hc:=Past.cell x
   simp[go_sem,gives,frm,Act.put,nthR,detR,Region.wanted,Below.refl,hc,h0,h1,h2,h3,h4,h5,h6,h7,hz]
  | 7, _ =>
   obtain rfl:=Option.some.inj ho
   intro u x hd
   have hc:=Past.cell x
   have d6:=hd 6 (by decide) (by kernel_rfl)
   simp only[nthR,detR,List.getD_cons_zero,List.getD_cons_succ] at d6
   simp[go_sem,gives,frm,Act.put,nthR,detR,Region.wanted,Below.refl,d6]
  | 8, _ =>
   obtain rfl:=Option.some.inj ho
   intro u x hd
   have hc:=Past.cell x
   have d7:=hd 7 (by decide) (by kernel_rfl)
   simp only[nthR,detR,List.getD_cons_zero,List.getD_cons_succ] at d7
   simp[go_sem,gives,frm,Act.put,nthR,Region.wanted,d7]
   exact ⟨by (repeat (first | exact Below.refl _ _ | assumption | refine balloc ?_ _ | refine below_drewN ?_ _ | refine bstep (by assumption) ?_ | refine bstep (Past.prop _) ?_ | refine Below.setCell ?_ (by first | exact Nat.le_refl _ | (simp;done) | (simp;omega)) _)),_,rfl,Blk.made _ _ _⟩
  | 9, _ =>
   obtain rfl:=Option.some.inj ho
   intro u x hd
   have hc:=Past.cell x
   have d5:=hd 5 (by decide) (by kernel_rfl)
   simp only[nthR,detR,List.getD_cons_zero,List.getD_cons_succ] at d5
   obtain ⟨b,e8,hBk⟩:chR (2,(⟨3,0,bobB,0,0,.slice none 0 0,.slice none 0 0,.slice (some ⟨pb,0,none⟩) 2 2⟩:Rw)) (u 8) x.1:=hd 8 (by decide) (by kernel_rfl)
   simp[go_sem,gives,frm,Act.put,nthR,Region.wanted,d5,e8]
   (refine (HD4.out _ _ _ (Past.prop x) hBk).mono ?_);rintro e w3 ⟨rfl,_,_,hb3⟩;exact ⟨_,rfl,hb3 (by decide),rfl⟩
  | 10, _ =>
   obtain rfl:=Option.some.inj ho
   intro u x hd
   have hc:=Past.cell x
   have e4:u 4 = .int .i64 7:=hd 4 (by decide) (by kernel_rfl)
   simp[go_sem,gives,frm,Act.put,nthR,Region.wanted,Below.refl,detR,e4]
  | 11, _ =>
   obtain rfl:=Option.some.inj ho
   intro u x hd
   have hc:=Past.cell x
   have e9:u 9 = .int .i64 7:=hd 9 (by decide) (by kernel_rfl)
   simp[go_sem,gives,frm,Act.put,nthR,Region.wanted,Below.refl,detR,e9]
  | i+12,h=>exact absurd h (by omega)
 ·intro i o hx ho
  simp at hx
 ·intro u x9 hu hne
  have e10:u 10 = .int .i64 7:=hu 10 (by decide)
  have e11:u 11 = .int .i64 7:=hu 11 (by decide)
  simp only[frm,List.take,Act.put,e10,e11]
  have HH:=hidE (HH9.out.past x9.2);have HP:=hidE (HP9.out.past x9.2)
  clear hu hne e10 e11 h0 h1 h2 h3 h4 h5 h6 h7 hz HD3 HD4 HH9 HP9 HB9
  generalize x9.1=wd at *
  have HUS:=hidE (users_f wd HP.out)
  refine wpList_nil ?_
  go_upto_region 11 with fail
  go_frame
  go_cut [10] (fun s10 wx=>∃ pu cu,s10 = .slice (some ⟨pu,0,none⟩) 2 cu∧wx.cell? ⟨pu,0,none⟩=some (nmV annB)∧wx.cell? ⟨pu,1,none⟩=some (nmV bobB)∧pu<wx.heap.size∧Hd0 w wx p1 p2 pa pb∧Pl wx p [r11,q11] [(0,(9,9))])
  case first =>
   go_wp2_with fail
   ((with_reducible refine (HUS.out).mono ?_);rintro e w2 ⟨v,rfl,ho,hb2⟩)
   rw[hd11_7] at ho
   have ho':=ho
   obtain ⟨_,h2 | ⟨g,cap,cur,rfl,_,_⟩⟩:=ho'
   ·exact absurd h2.2 (by decide)
   ·have c0:=ho.cellAt 0 (by decide);have c1:=ho.cellAt 1 (by decide)
    have HQ:=hidE (And.intro c0 (And.intro c1 (And.intro (own_lt ho rfl) (And.intro (HH.out.past hb2) (HP.out.past hb2)))))
    clear ho hb2 c0 c1
    go_wp2
    go_meet
    case rel=>exact ⟨g,cap,rfl,HQ.out⟩
  clear HUS HH HP
  obtain ⟨pu,cu,rfl,hu0,hu1,huz,hH,hP⟩:=hcut
  have HH:=hidE hH;have HP:=hidE hP;have HU:=hidE (And.intro hu0 (And.intro hu1 huz))
  clear hu0 hu1 huz hH hP
  have HN:=hidE (fun (w':World) (p:Nat) (t:TypeId) (hB:Blk w' p #[.int .i64 0,.int .i64 (-1),.int .i64 0] t)=>new_f w' (sliF3_blk (n:=1) (F:=[(0,(-1,0))]) hB rfl rfl (by omega)) (by simp))
  go_upto_region 12 with fail
  go_cut [11,12] (fun s11 s12 wx=>s11 = .pointer none∧s12 = .int .i64 5∧Hd0 w wx p1 p2 pa pb∧Pl wx p [r11,q11] [(0,(9,9))]∧wx.cell? ⟨pu,0,none⟩=some (nmV annB)∧wx.cell? ⟨pu,1,none⟩=some (nmV bobB)∧pu<wx.heap.size)
  case first =>
   go_wp2_with (go_at_call 48;((with_reducible refine (seg11_c _ _ _ _).mono ?_);rintro e w1 ⟨rfl,hb1⟩))
   ((with_reducible refine (HN.out _ _ _ (Blk.made _ _ _)).mono ?_);rintro e w2 ⟨hb2,⟨_,rfl⟩ | ⟨hf,_⟩⟩)
   ·have hb3:=Below.trans (hb1.trans ((Below.alloc (Below.refl _ w1) (Nat.le_refl _) (Obj.cells #[.int .i64 0,.int .i64 (-1),.int .i64 0] 100)).mono hb1.size)) (hb2.mono (by have:=hb1.size;simp;omega))
    have HQ:=hidE (And.intro (HH.out.past hb3) (And.intro (HP.out.past hb3) (And.intro ((hb3.cell (p:=⟨pu,0,none⟩) HU.out.2.2).trans HU.out.1) (And.intro ((hb3.cell (p:=⟨pu,1,none⟩) HU.out.2.2).trans HU.out.2.1) (Nat.lt_of_lt_of_le HU.out.2.2 hb3.size)))))
    clear hb1 hb2 hb3
    go_wp2
    go_meet
    case rel=>exact ⟨rfl,rfl,HQ.out⟩
   ·exact absurd hf (by rw[hd11_9.2];decide)
  clear HN HH HP HU
  obtain ⟨rfl,rfl,hH,hP,hu0,hu1,huz⟩:=hcut
  have HH:=hidE hH;have HP:=hidE hP;have HU:=hidE (And.intro hu0 (And.intro hu1 huz))
  have f0:=hH.b1.cell 0;have f1:=hH.b1.cell 1;have f2:=hH.b1.cell 2;have f3:=hH.b1.cell 3;have f4:=hH.b1.cell 4;have f5:=hH.b1.cell 5;have f6:=hH.b1.cell 6;have f7:=hH.b1.cell 7;have fz:=hH.b1.lt
  simp at f0 f1 f2 f3 f4 f5 f6 f7
  clear hu0 hu1 huz hP
  obtain ⟨we,hwe⟩:∃ we,we=wc:=⟨_,rfl⟩
  subst hwe
  go_upto_region 13 with fail
  go_cut [13,14] from 69 to 70 (fun s13 s14 wx=>∃ p13 p14,s13 = .pointer (some ⟨p13,0,none⟩)∧s14 = .pointer (some ⟨p14,0,none⟩)∧p13≠p14∧we.heap.size≤p13∧we.heap.size≤p14∧Blk wx p13 #[.int .u32 1,.int .u32 0,nmV annB,.int .i64 0,.int .i64 0,.slice none 0 0,.slice none 0 0,.slice (some ⟨pa,0,none⟩) 2 2] 50∧Blk wx p14 #[.int .u32 1,.int .u32 0,nmV annB,.int .i64 0,.int .i64 0,.slice none 0 0,.slice none 0 0,.slice (some ⟨pa,0,none⟩) 2 2] 50∧Below we.heap.size we wx)
  case first =>
   go_region
   all_goals
    go_wp2_with fail
    go_meet
    case rel=>first
     | exact ⟨_,_,rfl,rfl,by omega,by omega,by omega,((Blk.made _ _ _).alloc _).drew _,(Blk.made_at _ _ _ _ (by simp)).drew _,by (repeat (first | exact Below.refl _ _ | assumption | refine balloc ?_ _ | refine below_drewN ?_ _ | refine bstep (by assumption) ?_ | refine bstep (Past.prop _) ?_ | refine Below.setCell ?_ (by first | exact Nat.le_refl _ | (simp;done) | (simp;omega)) _))⟩
     | exact ⟨_,_,rfl,rfl,by omega,by omega,by omega,(Blk.made_at _ _ _ _ (by simp)).drew _,((Blk.made _ _ _).alloc _).drew _,by (repeat (first | exact Below.refl _ _ | assumption | refine balloc ?_ _ | refine below_drewN ?_ _ | refine bstep (by assumption) ?_ | refine bstep (Past.prop _) ?_ | refine Below.setCell ?_ (by first | exact Nat.le_refl _ | (simp;done) | (simp;omega)) _))⟩
  clear f0 f1 f2 f3 f4 f5 f6 f7 fz hH
  obtain ⟨p13,p14,rfl,rfl,hpp,z13,z14,hK13,hK14,hbf⟩:=hcut
  have HZ:=hidE (And.intro z13 z14);have HBF:=hidE hbf;have HPPn:=hidE hpp
  have HK13:=hidE hK13;have HK14:=hidE hK14
  clear hpp z13 z14 hbf hK13 hK14
  obtain ⟨wf,hwf⟩:∃ wf,wf=wc:=⟨_,rfl⟩
  subst hwf
  go_upto_region 14 with fail
  have hK13:=HK13.out;have hK14:=HK14.out
  obtain ⟨wh,hwh⟩:∃ wh,wh=wf.setCell ⟨p13,2,none⟩ (nmV AnnB):=⟨_,rfl⟩
  have N13:Blk wh p13 #[.int .u32 1,.int .u32 0,nmV AnnB,.int .i64 0,.int .i64 0,.slice none 0 0,.slice none 0 0,.slice (some ⟨pa,0,none⟩) 2 2] 50:=by rw[hwh];simpa using hK13.set 2 (nmV AnnB)
  have N14:Blk wh p14 #[.int .u32 1,.int .u32 0,nmV annB,.int .i64 0,.int .i64 0,.slice none 0 0,.slice none 0 0,.slice (some ⟨pa,0,none⟩) 2 2] 50:=by rw[hwh];exact hK14.other (fun e=>HPPn.out e.symm) _
  have hbh:Below we.heap.size we wh:=by rw[hwh];exact HBF.out.setCell HZ.out.1 _
  have k2:=hK13.cell 2;have kf:=hK13.free 2;have kz:=hK13.lt
  simp at k2
  have HN13:=hidE N13;have HN14:=hidE N14;have HBH:=hidE hbh
  clear hK13 hK14 N13 N14 hbh
  go_upto_region 15 with fail
  rw[show (wf.setCell ⟨p13,2,none⟩ (.string ⟨#[65,110,110]⟩))=wh from hwh.symm]
  clear hwh k2 kf kz
  obtain ⟨wi,hwi⟩:∃ wi,wi=wh.setCell ⟨p14,7,none⟩ (.slice (some ⟨pa,0,none⟩) 1 2):=⟨_,rfl⟩
  have hM14:=HN14.out
  have M13:Blk wi p13 #[.int .u32 1,.int .u32 0,nmV AnnB,.int .i64 0,.int .i64 0,.slice none 0 0,.slice none 0 0,.slice (some ⟨pa,0,none⟩) 2 2] 50:=by rw[hwi];exact HN13.out.other HPPn.out _
  have M14:Blk wi p14 #[.int .u32 1,.int .u32 0,nmV annB,.int .i64 0,.int .i64 0,.slice none 0 0,.slice none 0 0,.slice (some ⟨pa,0,none⟩) 1 2] 50:=by rw[hwi];simpa using hM14.set 7 (.slice (some ⟨pa,0,none⟩) 1 2)
  have hbi:Below we.heap.size we wi:=by rw[hwi];exact HBH.out.setCell HZ.out.2 _
  have HI:=hidE (HH.out.past hbi);have HPI:=hidE (HP.out.past hbi);have HM13:=hidE M13;have HM14:=hidE M14
  have HUI:=hidE (show wi.cell? ⟨pu,0,none⟩=some (nmV annB)∧wi.cell? ⟨pu,1,none⟩=some (nmV bobB)∧pu<wi.heap.size from ⟨(hbi.cell (p:=⟨pu,0,none⟩) HU.out.2.2).trans HU.out.1,(hbi.cell (p:=⟨pu,1,none⟩) HU.out.2.2).trans HU.out.2.1,Nat.lt_of_lt_of_le HU.out.2.2 hbi.size⟩)
  have hHh:=HH.out.past HBH.out
  have f7:=hHh.b1.cell 7;have fz:=hHh.b1.lt
  have k7:=hM14.cell 7;have kf:=hM14.free 7;have kz:=hM14.lt
  simp at f7 k7
  clear hM14 M13 M14 hbi hHh HBF HK13 HK14 HH HP HU HN13 HN14 HBH
  go_upto_region 16 with fail
  rw[←hwi]
  clear hwi f7 fz k7 kf kz
  have f0:=HI.out.b1.cell 0;have f1:=HI.out.b1.cell 1;have f2:=HI.out.b1.cell 2;have f3:=HI.out.b1.cell 3;have f4:=HI.out.b1.cell 4;have f5:=HI.out.b1.cell 5;have f6:=HI.out.b1.cell 6;have f7:=HI.out.b1.cell 7;have fz:=HI.out.b1.lt
  have k0:=HM13.out.cell 0;have k1:=HM13.out.cell 1;have k2:=HM13.out.cell 2;have k3:=HM13.out.cell 3;have k4:=HM13.out.cell 4;have k5:=HM13.out.cell 5;have k6:=HM13.out.cell 6;have k7:=HM13.out.cell 7;have kz:=HM13.out.lt
  have l0:=HM14.out.cell 0;have l1:=HM14.out.cell 1;have l2:=HM14.out.cell 2;have l3:=HM14.out.cell 3;have l4:=HM14.out.cell 4;have l5:=HM14.out.cell 5;have l6:=HM14.out.cell 6;have l7:=HM14.out.cell 7;have lz:=HM14.out.lt
  simp at f0 f1 f2 f3 f4 f5 f6 f7 k0 k1 k2 k3 k4 k5 k6 k7 l0 l1 l2 l3 l4 l5 l6 l7
  obtain ⟨hu0,hu1,huz⟩:=HUI.out
  simp only[List.append_eq,List.cons_append,List.nil_append]
  refine wp_region_J 66 [] (nthR [detR (.int .i64 0),detR (.bool true),detR (.bool true),detR (.pointer (some ⟨p,0,none⟩)),sliF [(5,(2,2)),(7,(3,2)),(8,(2,2)),(9,(0,0))],detR (S 5 2 2),detR (S 7 3 2),detR (S 8 2 2),detR (S 9 0 0),sliF [(5,(2,2)),(7,(3,2)),(8,(2,2)),(9,(0,0))],detR (.bool true),detR (.bool true),detR (.bool true),detR (.pointer (some ⟨p,0,none⟩)),sliF rA11,detR (.pointer (some ⟨p1,7,none⟩)),detR (.slice (some ⟨pa,0,none⟩) 2 2),detR (.bool true),detR (.bool true),detR (.bool true),detR (.int .i64 8),detR (.bool true),detR (.bool true),detR (.bool true),detR (.int .i64 7),detR (.bool true),detR (.bool true),detR (.bool true),detR (.int .i64 7),detR (.bool true),detR (.bool true),detR (.bool true),detR (.slice (some ⟨pu,0,none⟩) 2 cu),detR (.int .i64 2),detR (.bool true),detR (.bool true),detR (.bool true),detR (.slice (some ⟨pu,0,none⟩) 2 cu),detR (.pointer (some ⟨pu,0,none⟩)),detR (nmV annB),detR (.bool true),detR (.bool true),detR (.bool true),detR (.slice (some ⟨pu,0,none⟩) 2 cu),detR (.pointer (some ⟨pu,1,none⟩)),detR (nmV bobB),detR (.bool true),detR (.bool true),detR (.bool true),detR (.int .i64 5),detR (.bool true),detR (.bool true),detR (.bool true),detR (rwV (⟨1,0,annB,0,0,.slice none 0 0,.slice none 0 0,.slice (some ⟨pa,0,none⟩) 2 2⟩:Rw)),detR (.bool true),detR (.bool true),detR (.bool true),detR (rwV (⟨1,0,AnnB,0,0,.slice none 0 0,.slice none 0 0,.slice (some ⟨pa,0,none⟩) 2 2⟩:Rw)),detR (.bool false),detR (.bool true),detR (.bool true),detR (.bool true),detR (rwV (⟨1,0,annB,0,0,.slice none 0 0,.slice none 0 0,.slice (some ⟨pa,0,none⟩) 1 2⟩:Rw)),detR (.bool false),detR (.bool true),detR (.bool true)]) (fun _=>false) (by kernel_rfl) (by decide) (by kernel_rfl) (stab_nth (by intro r hr;simp only[List.mem_cons,List.not_mem_nil,or_false] at hr;rcases hr with rfl | rfl | rfl | rfl | rfl | rfl | rfl | rfl | rfl | rfl | rfl | rfl | rfl | rfl | rfl | rfl | rfl | rfl | rfl | rfl | rfl | rfl | rfl | rfl | rfl | rfl | rfl | rfl | rfl | rfl | rfl | rfl | rfl | rfl | rfl | rfl | rfl | rfl | rfl | rfl | rfl | rfl | rfl | rfl | rfl | rfl | rfl | rfl | rfl | rfl | rfl | rfl | rfl | rfl | rfl | rfl | rfl | rfl | rfl | rfl | rfl | rfl | rfl | rfl | rfl | rfl<;>first | exact stab_det _ | exact stab_sliF _)) ?_ ?_ ?_
  ·intro i o hi ho
   match i,hi with
   | 0, _ =>
    have eo:=Option.some.inj ho
    clear ho
    have hg:o.guard=none:=by rw[←eo]
    refine jstep_ev hg ?_
    subst eo
    intro E u x hE hd
    have a5:E (.tmp 5) = .int .i64 0:=(hE.rest 5 (by kernel_rfl)).trans rfl
    have hk:=hE.const
    have hfn:=hE.fn
    have hc:=Past.cell x
    clear hE hd
    simp[go_sem,gives,nthR,detR,Below.refl,a5]
   | 1, _ =>
    have eo:=Option.some.inj ho
    clear ho
    have hg:o.guard=none:=by rw[←eo]
    refine jstep_ev hg ?_
    subst eo
    intro E u x hE hd
    have e76:u 0 = .int .i64 0:=hd 0 (by decide) (by kernel_rfl)
    have a76:=(hE.mine 76 0 (by kernel_rfl) (show 76<142 by decide)).trans e76
    have hk:=hE.const
    have hfn:=hE.fn
    have hc:=Past.cell x
    clear hE hd
    simp[go_sem,gives,nthR,detR,Below.refl,hk,a76]
   | 2, _ =>
    have eo:=Option.some.inj ho
    clear ho
    have hg:o.guard=none:=by rw[←eo]
    refine jstep_ev hg ?_
    subst eo
    intro E u x hE hd
    have e77:u 1 = .bool true:=hd 1 (by decide) (by kernel_rfl)
    have a77:=(hE.mine 77 1 (by kernel_rfl) (show 77<142 by decide)).trans e77
    have hk:=hE.const
    have hfn:=hE.fn
    have hc:=Past.cell x
    clear hE hd
    simp[go_sem,gives,nthR,detR,Below.refl,a77]
   | 3, _ =>
    have eo:=Option.some.inj ho
    clear ho
    have hg:o.guard=some (2,true):=by rw[←eo]
    refine jstep_guard (o:=o) 2 78 true hg (by kernel_rfl) (by kernel_rfl) (show 78<142 by decide) (fun u x hd=>by have e:u 2 = .bool true:=hd 2 (by decide) (by kernel_rfl);exact e) ?_
    subst eo
    intro E u x hE hd
    have a3:E (.tmp 3) = .pointer (some ⟨p,0,none⟩):=(hE.rest 3 (by kernel_rfl)).trans rfl
    have hk:=hE.const
    have hfn:=hE.fn
    have hc:=Past.cell x
    clear hE hd
    simp[go_sem,gives,nthR,detR,Below.refl,a3]
   | 4, _ =>
    have eo:=Option.some.inj ho
    clear ho
    have hg:o.guard=some (2,true):=by rw[←eo]
    refine jstep_guard (o:=o) 2 78 true hg (by kernel_rfl) (by kernel_rfl) (show 78<142 by decide) (fun u x hd=>by have e:u 2 = .bool true:=hd 2 (by decide) (by kernel_rfl);exact e) ?_
    subst eo
    intro E u x hE hd
    have e79:u 3 = .pointer (some ⟨p,0,none⟩):=hd 3 (by decide) (by kernel_rfl)
    have a79:=(hE.mine 79 3 (by kernel_rfl) (show 79<142 by decide)).trans e79
    have hk:=hE.const
    have hfn:=hE.fn
    have hc:=Past.cell x
    clear hE hd
    simp[go_sem,gives,nthR,hfn,a79]
    (with_reducible refine (load_f _ (HPI.out.past (Past.prop x))).mono ?_);rintro e w3 ⟨v,rfl,hl,hb3⟩;exact ⟨_,rfl,hb3,ldR_is hl (fns_pos HPI.out.good.ok) hd11_5⟩
   | 5, _ =>
    have eo:=Option.some.inj ho
    clear ho
    have hg:o.guard=some (2,true):=by rw[←eo]
    refine jstep_guard (o:=o) 2 78 true hg (by kernel_rfl) (by kernel_rfl) (show 78<142 by decide) (fun u x hd=>by have e:u 2 = .bool true:=hd 2 (by decide) (by kernel_rfl);exact e) ?_
    subst eo
    intro E u x hE hd
    have hk:=hE.const
    have hfn:=hE.fn
    have hc:=Past.cell x
    clear hE hd
    simp[go_sem,gives,nthR,hk,hfn]
    (with_reducible refine (seg11_c _ _ _ _).mono ?_);rintro e w3 ⟨rfl,hb3⟩;exact ⟨_,rfl,hb3,rfl⟩
   | 6, _ =>
    have eo:=Option.some.inj ho
    clear ho
    have hg:o.guard=some (2,true):=by rw[←eo]
    refine jstep_guard (o:=o) 2 78 true hg (by kernel_rfl) (by kernel_rfl) (show 78<142 by decide) (fun u x hd=>by have e:u 2 = .bool true:=hd 2 (by decide) (by kernel_rfl);exact e) ?_
    subst eo
    intro E u x hE hd
    have hk:=hE.const
    have hfn:=hE.fn
    have hc:=Past.cell x
    clear hE hd
    simp[go_sem,gives,nthR,hk,hfn]
    (with_reducible refine (seg11_c _ _ _ _).mono ?_);rintro e w3 ⟨rfl,hb3⟩;exact ⟨_,rfl,hb3,rfl⟩
   | 7, _ =>
    have eo:=Option.some.inj ho
    clear ho
    have hg:o.guard=some (2,true):=by rw[←eo]
    refine jstep_guard (o:=o) 2 78 true hg (by kernel_rfl) (by kernel_rfl) (show 78<142 by decide) (fun u x hd=>by have e:u 2 = .bool true:=hd 2 (by decide) (by kernel_rfl);exact e) ?_
    subst eo
    intro E u x hE hd
    have hk:=hE.const
    have hfn:=hE.fn
    have hc:=Past.cell x
    clear hE hd
    simp[go_sem,gives,nthR,hk,hfn]
    (with_reducible refine (seg11_c _ _ _ _).mono ?_);rintro e w3 ⟨rfl,hb3⟩;exact ⟨_,rfl,hb3,rfl⟩
   | 8, _ =>
    have eo:=Option.some.inj ho
    clear ho
    have hg:o.guard=some (2,true):=by rw[←eo]
    refine jstep_guard (o:=o) 2 78 true hg (by kernel_rfl) (by kernel_rfl) (show 78<142 by decide) (fun u x hd=>by have e:u 2 = .bool true:=hd 2 (by decide) (by kernel_rfl);exact e) ?_
    subst eo
    intro E u x hE hd
    have hk:=hE.const
    have hfn:=hE.fn
    have hc:=Past.cell x
    clear hE hd
    simp[go_sem,gives,nthR,hk,hfn]
    (with_reducible refine (seg11_c _ _ _ _).mono ?_);rintro e w3 ⟨rfl,hb3⟩;exact ⟨_,rfl,hb3,rfl⟩
   | 9, _ =>
    have eo:=Option.some.inj ho
    clear ho
    have hg:o.guard=some (2,true):=by rw[←eo]
    refine jstep_guard (o:=o) 2 78 true hg (by kernel_rfl) (by kernel_rfl) (show 78<142 by decide) (fun u x hd=>by have e:u 2 = .bool true:=hd 2 (by decide) (by kernel_rfl);exact e) ?_
    subst eo
    intro E u x hE hd
    have e81:u 5=S 5 2 2:=hd 5 (by decide) (by kernel_rfl)
    have a81:=(hE.mine 81 5 (by kernel_rfl) (show 81<142 by decide)).trans e81
    have e82:u 6=S 7 3 2:=hd 6 (by decide) (by kernel_rfl)
    have a82:=(hE.mine 82 6 (by kernel_rfl) (show 82<142 by decide)).trans e82
    have e83:u 7=S 8 2 2:=hd 7 (by decide) (by kernel_rfl)
    have a83:=(hE.mine 83 7 (by kernel_rfl) (show 83<142 by decide)).trans e83
    have e84:u 8=S 9 0 0:=hd 8 (by decide) (by kernel_rfl)
    have a84:=(hE.mine 84 8 (by kernel_rfl) (show 84<142 by decide)).trans e84
    have e81:u 5=S 5 2 2:=hd 5 (by decide) (by kernel_rfl)
    have e82:u 6=S 7 3 2:=hd 6 (by decide) (by kernel_rfl)
    have e83:u 7=S 8 2 2:=hd 7 (by decide) (by kernel_rfl)
    have e84:u 8=S 9 0 0:=hd 8 (by decide) (by kernel_rfl)
    have hk:=hE.const
    have hfn:=hE.fn
    have hc:=Past.cell x
    clear hE hd
    simp[go_sem,gives,nthR,a81,a82,a83,a84]
    exact ⟨by (repeat (first | exact Below.refl _ _ | assumption | refine balloc ?_ _ | refine below_drewN ?_ _ | refine bstep (by assumption) ?_ | refine bstep (Past.prop _) ?_ | refine Below.setCell ?_ (by first | exact Nat.le_refl _ | (simp;done) | (simp;omega)) _)),sliS_new (Blk.made _ _ _) rfl rfl (by decide)⟩
   | 10, _ =>
    have eo:=Option.some.inj ho
    clear ho
    have hg:o.guard=some (2,true):=by rw[←eo]
    refine jstep_guard (o:=o) 2 78 true hg (by kernel_rfl) (by kernel_rfl) (show 78<142 by decide) (fun u x hd=>by have e:u 2 = .bool true:=hd 2 (by decide) (by kernel_rfl);exact e) ?_
    subst eo
    intro E u x hE hd
    have m80:=hE.mine 80 4 (by kernel_rfl) (show 80<142 by decide)
    have m85:=hE.mine 85 9 (by kernel_rfl) (show 85<142 by decide)
    have s80:SliS x.1 (u 4) [(5,(2,2)),(7,(3,2)),(8,(2,2)),(9,(0,0))]:=hd 4 (by decide) (by kernel_rfl)
    obtain ⟨g80,y80,z80,_⟩:=id s80
    rw[z80] at s80
    have s85:SliS x.1 (u 9) [(5,(2,2)),(7,(3,2)),(8,(2,2)),(9,(0,0))]:=hd 9 (by decide) (by kernel_rfl)
    obtain ⟨g85,y85,z85,_⟩:=id s85
    rw[z85] at s85
    have hk:=hE.const
    have hfn:=hE.fn
    have hc:=Past.cell x
    clear hE hd
    simp[go_sem,gives,nthR,hfn,m80,m85,z80,z85]
    (refine (rsame_s (F:=[(5,(2,2)),(7,(3,2)),(8,(2,2)),(9,(0,0))]) (G:=[(5,(2,2)),(7,(3,2)),(8,(2,2)),(9,(0,0))]) (b:=true) s80 s85 (by decide)).mono ?_);rintro e w3 ⟨rfl,hb3⟩;exact ⟨_,rfl,hb3,rfl⟩
   | 11, _ =>
    have eo:=Option.some.inj ho
    clear ho
    have hg:o.guard=none:=by rw[←eo]
    refine jstep_ev hg ?_
    subst eo
    intro E u x hE hd
    have e78:u 2 = .bool true:=hd 2 (by decide) (by kernel_rfl)
    have a78:=(hE.mine 78 2 (by kernel_rfl) (show 78<142 by decide)).trans e78
    have e86:u 10 = .bool true:=hd 10 (by decide) (by kernel_rfl)
    have a86:=(hE.mine 86 10 (by kernel_rfl) (show 86<142 by decide)).trans e86
    have hk:=hE.const
    have hfn:=hE.fn
    have hc:=Past.cell x
    clear hE hd
    simp[go_sem,gives,nthR,detR,Below.refl,hk,a78,a86]
   | 12, _ =>
    have eo:=Option.some.inj ho
    clear ho
    have hg:o.guard=none:=by rw[←eo]
    refine jstep_ev hg ?_
    subst eo
    intro E u x hE hd
    have e87:u 11 = .bool true:=hd 11 (by decide) (by kernel_rfl)
    have a87:=(hE.mine 87 11 (by kernel_rfl) (show 87<142 by decide)).trans e87
    have hk:=hE.const
    have hfn:=hE.fn
    have hc:=Past.cell x
    clear hE hd
    simp[go_sem,gives,nthR,detR,Below.refl,a87]
   | 13, _ =>
    have eo:=Option.some.inj ho
    clear ho
    have hg:o.guard=some (12,true):=by rw[←eo]
    refine jstep_guard (o:=o) 12 88 true hg (by kernel_rfl) (by kernel_rfl) (show 88<142 by decide) (fun u x hd=>by have e:u 12 = .bool true:=hd 12 (by decide) (by kernel_rfl);exact e) ?_
    subst eo
    intro E u x hE hd
    have a3:E (.tmp 3) = .pointer (some ⟨p,0,none⟩):=(hE.rest 3 (by kernel_rfl)).trans rfl
    have hk:=hE.const
    have hfn:=hE.fn
    have hc:=Past.cell x
    clear hE hd
    simp[go_sem,gives,nthR,detR,Below.refl,a3]
   | 14, _ =>
    have eo:=Option.some.inj ho
    clear ho
    have hg:o.guard=some (12,true):=by rw[←eo]
    refine jstep_guard (o:=o) 12 88 true hg (by kernel_rfl) (by kernel_rfl) (show 88<142 by decide) (fun u x hd=>by have e:u 12 = .bool true:=hd 12 (by decide) (by kernel_rfl);exact e) ?_
    subst eo
    intro E u x hE hd
    have e89:u 13 = .pointer (some ⟨p,0,none⟩):=hd 13 (by decide) (by kernel_rfl)
    have a89:=(hE.mine 89 13 (by kernel_rfl) (show 89<142 by decide)).trans e89
    have hk:=hE.const
    have hfn:=hE.fn
    have hc:=Past.cell x
    clear hE hd
    simp[go_sem,gives,nthR,hk,hfn,a89]
    (refine (user_f annB _ (HPI.out.past (Past.prop x)) (by decide)).mono ?_);rintro e w3 ⟨v,rfl,hl,hb3⟩;exact ⟨_,rfl,hb3,ldR_is hl (fns_pos fun r hr=>HPI.out.good.ok r (List.mem_filter.1 hr).1) hd11_6⟩
   | 15, _ =>
    have eo:=Option.some.inj ho
    clear ho
    have hg:o.guard=some (12,true):=by rw[←eo]
    refine jstep_guard (o:=o) 12 88 true hg (by kernel_rfl) (by kernel_rfl) (show 88<142 by decide) (fun u x hd=>by have e:u 12 = .bool true:=hd 12 (by decide) (by kernel_rfl);exact e) ?_
    subst eo
    intro E u x hE hd
    have a1:E (.tmp 1) = .pointer (some ⟨p1,0,none⟩):=(hE.rest 1 (by kernel_rfl)).trans rfl
    have hk:=hE.const
    have hfn:=hE.fn
    have hc:=Past.cell x
    clear hE hd
    simp[go_sem,gives,nthR,detR,Below.refl,a1]
   | 16, _ =>
    have eo:=Option.some.inj ho
    clear ho
    have hg:o.guard=some (12,true):=by rw[←eo]
    refine jstep_guard (o:=o) 12 88 true hg (by kernel_rfl) (by kernel_rfl) (show 88<142 by decide) (fun u x hd=>by have e:u 12 = .bool true:=hd 12 (by decide) (by kernel_rfl);exact e) ?_
    subst eo
    intro E u x hE hd
    have e91:u 15 = .pointer (some ⟨p1,7,none⟩):=hd 15 (by decide) (by kernel_rfl)
    have a91:=(hE.mine 91 15 (by kernel_rfl) (show 91<142 by decide)).trans e91
    have hk:=hE.const
    have hfn:=hE.fn
    have hc:=Past.cell x
    clear hE hd
    simp[go_sem,gives,nthR,detR,Below.refl,hc,a91,f7,fz]
   | 17, _ =>
    have eo:=Option.some.inj ho
    clear ho
    have hg:o.guard=some (12,true):=by rw[←eo]
    refine jstep_guard (o:=o) 12 88 true hg (by kernel_rfl) (by kernel_rfl) (show 88<142 by decide) (fun u x hd=>by have e:u 12 = .bool true:=hd 12 (by decide) (by kernel_rfl);exact e) ?_
    subst eo
    intro E u x hE hd
    have m90:=hE.mine 90 14 (by kernel_rfl) (show 90<142 by decide)
    have e92:u 16 = .slice (some ⟨pa,0,none⟩) 2 2:=hd 16 (by decide) (by kernel_rfl)
    have a92:=(hE.mine 92 16 (by kernel_rfl) (show 92<142 by decide)).trans e92
    have s90:SliS x.1 (u 14) rA11:=hd 14 (by decide) (by kernel_rfl)
    obtain ⟨g90,y90,z90,_⟩:=id s90
    rw[z90] at s90
    have hk:=hE.const
    have hfn:=hE.fn
    have hc:=Past.cell x
    clear hE hd
    simp[go_sem,gives,nthR,hfn,m90,a92,z90]
    (refine (rsame_s (F:=rA11) (G:=rA11) (b:=true) s90 (sliS_new (n:=2) ((HI.out.past (Past.prop x)).ba) rfl rfl (by decide)) (by decide)).mono ?_);rintro e w3 ⟨rfl,hb3⟩;exact ⟨_,rfl,hb3,rfl⟩
   | 18, _ =>
    have eo:=Option.some.inj ho
    clear ho
    have hg:o.guard=none:=by rw[←eo]
    refine jstep_ev hg ?_
    subst eo
    intro E u x hE hd
    have e88:u 12 = .bool true:=hd 12 (by decide) (by kernel_rfl)
    have a88:=(hE.mine 88 12 (by kernel_rfl) (show 88<142 by decide)).trans e88
    have e93:u 17 = .bool true:=hd 17 (by decide) (by kernel_rfl)
    have a93:=(hE.mine 93 17 (by kernel_rfl) (show 93<142 by decide)).trans e93
    have hk:=hE.const
    have hfn:=hE.fn
    have hc:=Past.cell x
    clear hE hd
    simp[go_sem,gives,nthR,detR,Below.refl,hk,a88,a93]
   | 19, _ =>
    have eo:=Option.some.inj ho
    clear ho
    have hg:o.guard=none:=by rw[←eo]
    refine jstep_ev hg ?_
    subst eo
    intro E u x hE hd
    have e94:u 18 = .bool true:=hd 18 (by decide) (by kernel_rfl)
    have a94:=(hE.mine 94 18 (by kernel_rfl) (show 94<142 by decide)).trans e94
    have hk:=hE.const
    have hfn:=hE.fn
    have hc:=Past.cell x
    clear hE hd
    simp[go_sem,gives,nthR,detR,Below.refl,a94]
   | 20, _ =>
    have eo:=Option.some.inj ho
    clear ho
    have hg:o.guard=some (19,true):=by rw[←eo]
    refine jstep_guard (o:=o) 19 95 true hg (by kernel_rfl) (by kernel_rfl) (show 95<142 by decide) (fun u x hd=>by have e:u 19 = .bool true:=hd 19 (by decide) (by kernel_rfl);exact e) ?_
    subst eo
    intro E u x hE hd
    have a6:E (.tmp 6) = .int .i64 8:=(hE.rest 6 (by kernel_rfl)).trans rfl
    have hk:=hE.const
    have hfn:=hE.fn
    have hc:=Past.cell x
    clear hE hd
    simp[go_sem,gives,nthR,detR,Below.refl,a6]
   | 21, _ =>
    have eo:=Option.some.inj ho
    clear ho
    have hg:o.guard=some (19,true):=by rw[←eo]
    refine jstep_guard (o:=o) 19 95 true hg (by kernel_rfl) (by kernel_rfl) (show 95<142 by decide) (fun u x hd=>by have e:u 19 = .bool true:=hd 19 (by decide) (by kernel_rfl);exact e) ?_
    subst eo
    intro E u x hE hd
    have e96:u 20 = .int .i64 8:=hd 20 (by decide) (by kernel_rfl)
    have a96:=(hE.mine 96 20 (by kernel_rfl) (show 96<142 by decide)).trans e96
    have hk:=hE.const
    have hfn:=hE.fn
    have hc:=Past.cell x
    clear hE hd
    simp[go_sem,gives,nthR,detR,Below.refl,hk,a96]
   | 22, _ =>
    have eo:=Option.some.inj ho
    clear ho
    have hg:o.guard=none:=by rw[←eo]
    refine jstep_ev hg ?_
    subst eo
    intro E u x hE hd
    have e95:u 19 = .bool true:=hd 19 (by decide) (by kernel_rfl)
    have a95:=(hE.mine 95 19 (by kernel_rfl) (show 95<142 by decide)).trans e95
    have e97:u 21 = .bool true:=hd 21 (by decide) (by kernel_rfl)
    have a97:=(hE.mine 97 21 (by kernel_rfl) (show 97<142 by decide)).trans e97
    have hk:=hE.const
    have hfn:=hE.fn
    have hc:=Past.cell x
    clear hE hd
    simp[go_sem,gives,nthR,detR,Below.refl,hk,a95,a97]
   | 23, _ =>
    have eo:=Option.some.inj ho
    clear ho
    have hg:o.guard=none:=by rw[←eo]
    refine jstep_ev hg ?_
    subst eo
    intro E u x hE hd
    have e98:u 22 = .bool true:=hd 22 (by decide) (by kernel_rfl)
    have a98:=(hE.mine 98 22 (by kernel_rfl) (show 98<142 by decide)).trans e98
    have hk:=hE.const
    have hfn:=hE.fn
    have hc:=Past.cell x
    clear hE hd
    simp[go_sem,gives,nthR,detR,Below.refl,a98]
   | 24, _ =>
    have eo:=Option.some.inj ho
    clear ho
    have hg:o.guard=some (23,true):=by rw[←eo]
    refine jstep_guard (o:=o) 23 99 true hg (by kernel_rfl) (by kernel_rfl) (show 99<142 by decide) (fun u x hd=>by have e:u 23 = .bool true:=hd 23 (by decide) (by kernel_rfl);exact e) ?_
    subst eo
    intro E u x hE hd
    have a8:E (.tmp 8) = .int .i64 7:=(hE.rest 8 (by kernel_rfl)).trans rfl
    have hk:=hE.const
    have hfn:=hE.fn
    have hc:=Past.cell x
    clear hE hd
    simp[go_sem,gives,nthR,detR,Below.refl,a8]
   | 25, _ =>
    have eo:=Option.some.inj ho
    clear ho
    have hg:o.guard=some (23,true):=by rw[←eo]
    refine jstep_guard (o:=o) 23 99 true hg (by kernel_rfl) (by kernel_rfl) (show 99<142 by decide) (fun u x hd=>by have e:u 23 = .bool true:=hd 23 (by decide) (by kernel_rfl);exact e) ?_
    subst eo
    intro E u x hE hd
    have e100:u 24 = .int .i64 7:=hd 24 (by decide) (by kernel_rfl)
    have a100:=(hE.mine 100 24 (by kernel_rfl) (show 100<142 by decide)).trans e100
    have hk:=hE.const
    have hfn:=hE.fn
    have hc:=Past.cell x
    clear hE hd
    simp[go_sem,gives,nthR,detR,Below.refl,hk,a100]
   | 26, _ =>
    have eo:=Option.some.inj ho
    clear ho
    have hg:o.guard=none:=by rw[←eo]
    refine jstep_ev hg ?_
    subst eo
    intro E u x hE hd
    have e99:u 23 = .bool true:=hd 23 (by decide) (by kernel_rfl)
    have a99:=(hE.mine 99 23 (by kernel_rfl) (show 99<142 by decide)).trans e99
    have e101:u 25 = .bool true:=hd 25 (by decide) (by kernel_rfl)
    have a101:=(hE.mine 101 25 (by kernel_rfl) (show 101<142 by decide)).trans e101
    have hk:=hE.const
    have hfn:=hE.fn
    have hc:=Past.cell x
    clear hE hd
    simp[go_sem,gives,nthR,detR,Below.refl,hk,a99,a101]
   | 27, _ =>
    have eo:=Option.some.inj ho
    clear ho
    have hg:o.guard=none:=by rw[←eo]
    refine jstep_ev hg ?_
    subst eo
    intro E u x hE hd
    have e102:u 26 = .bool true:=hd 26 (by decide) (by kernel_rfl)
    have a102:=(hE.mine 102 26 (by kernel_rfl) (show 102<142 by decide)).trans e102
    have hk:=hE.const
    have hfn:=hE.fn
    have hc:=Past.cell x
    clear hE hd
    simp[go_sem,gives,nthR,detR,Below.refl,a102]
   | 28, _ =>
    have eo:=Option.some.inj ho
    clear ho
    have hg:o.guard=some (27,true):=by rw[←eo]
    refine jstep_guard (o:=o) 27 103 true hg (by kernel_rfl) (by kernel_rfl) (show 103<142 by decide) (fun u x hd=>by have e:u 27 = .bool true:=hd 27 (by decide) (by kernel_rfl);exact e) ?_
    subst eo
    intro E u x hE hd
    have a9:E (.tmp 9) = .int .i64 7:=(hE.rest 9 (by kernel_rfl)).trans rfl
    have hk:=hE.const
    have hfn:=hE.fn
    have hc:=Past.cell x
    clear hE hd
    simp[go_sem,gives,nthR,detR,Below.refl,a9]
   | 29, _ =>
    have eo:=Option.some.inj ho
    clear ho
    have hg:o.guard=some (27,true):=by rw[←eo]
    refine jstep_guard (o:=o) 27 103 true hg (by kernel_rfl) (by kernel_rfl) (show 103<142 by decide) (fun u x hd=>by have e:u 27 = .bool true:=hd 27 (by decide) (by kernel_rfl);exact e) ?_
    subst eo
    intro E u x hE hd
    have e104:u 28 = .int .i64 7:=hd 28 (by decide) (by kernel_rfl)
    have a104:=(hE.mine 104 28 (by kernel_rfl) (show 104<142 by decide)).trans e104
    have hk:=hE.const
    have hfn:=hE.fn
    have hc:=Past.cell x
    clear hE hd
    simp[go_sem,gives,nthR,detR,Below.refl,hk,a104]
   | 30, _ =>
    have eo:=Option.some.inj ho
    clear ho
    have hg:o.guard=none:=by rw[←eo]
    refine jstep_ev hg ?_
    subst eo
    intro E u x hE hd
    have e103:u 27 = .bool true:=hd 27 (by decide) (by kernel_rfl)
    have a103:=(hE.mine 103 27 (by kernel_rfl) (show 103<142 by decide)).trans e103
    have e105:u 29 = .bool true:=hd 29 (by decide) (by kernel_rfl)
    have a105:=(hE.mine 105 29 (by kernel_rfl) (show 105<142 by decide)).trans e105
    have hk:=hE.const
    have hfn:=hE.fn
    have hc:=Past.cell x
    clear hE hd
    simp[go_sem,gives,nthR,detR,Below.refl,hk,a103,a105]
   | 31, _ =>
    have eo:=Option.some.inj ho
    clear ho
    have hg:o.guard=none:=by rw[←eo]
    refine jstep_ev hg ?_
    subst eo
    intro E u x hE hd
    have e106:u 30 = .bool true:=hd 30 (by decide) (by kernel_rfl)
    have a106:=(hE.mine 106 30 (by kernel_rfl) (show 106<142 by decide)).trans e106
    have hk:=hE.const
    have hfn:=hE.fn
    have hc:=Past.cell x
    clear hE hd
    simp[go_sem,gives,nthR,detR,Below.refl,a106]
   | 32, _ =>
    have eo:=Option.some.inj ho
    clear ho
    have hg:o.guard=some (31,true):=by rw[←eo]
    refine jstep_guard (o:=o) 31 107 true hg (by kernel_rfl) (by kernel_rfl) (show 107<142 by decide) (fun u x hd=>by have e:u 31 = .bool true:=hd 31 (by decide) (by kernel_rfl);exact e) ?_
    subst eo
    intro E u x hE hd
    have a10:E (.tmp 10) = .slice (some ⟨pu,0,none⟩) 2 cu:=(hE.rest 10 (by kernel_rfl)).trans rfl
    have hk:=hE.const
    have hfn:=hE.fn
    have hc:=Past.cell x
    clear hE hd
    simp[go_sem,gives,nthR,detR,Below.refl,a10]
   | 33, _ =>
    have eo:=Option.some.inj ho
    clear ho
    have hg:o.guard=some (31,true):=by rw[←eo]
    refine jstep_guard (o:=o) 31 107 true hg (by kernel_rfl) (by kernel_rfl) (show 107<142 by decide) (fun u x hd=>by have e:u 31 = .bool true:=hd 31 (by decide) (by kernel_rfl);exact e) ?_
    subst eo
    intro E u x hE hd
    have e108:u 32 = .slice (some ⟨pu,0,none⟩) 2 cu:=hd 32 (by decide) (by kernel_rfl)
    have a108:=(hE.mine 108 32 (by kernel_rfl) (show 108<142 by decide)).trans e108
    have hk:=hE.const
    have hfn:=hE.fn
    have hc:=Past.cell x
    clear hE hd
    simp[go_sem,gives,nthR,detR,Below.refl,a108]
   | 34, _ =>
    have eo:=Option.some.inj ho
    clear ho
    have hg:o.guard=some (31,true):=by rw[←eo]
    refine jstep_guard (o:=o) 31 107 true hg (by kernel_rfl) (by kernel_rfl) (show 107<142 by decide) (fun u x hd=>by have e:u 31 = .bool true:=hd 31 (by decide) (by kernel_rfl);exact e) ?_
    subst eo
    intro E u x hE hd
    have e109:u 33 = .int .i64 2:=hd 33 (by decide) (by kernel_rfl)
    have a109:=(hE.mine 109 33 (by kernel_rfl) (show 109<142 by decide)).trans e109
    have hk:=hE.const
    have hfn:=hE.fn
    have hc:=Past.cell x
    clear hE hd
    simp[go_sem,gives,nthR,detR,Below.refl,hk,a109]
   | 35, _ =>
    have eo:=Option.some.inj ho
    clear ho
    have hg:o.guard=none:=by rw[←eo]
    refine jstep_ev hg ?_
    subst eo
    intro E u x hE hd
    have e107:u 31 = .bool true:=hd 31 (by decide) (by kernel_rfl)
    have a107:=(hE.mine 107 31 (by kernel_rfl) (show 107<142 by decide)).trans e107
    have e110:u 34 = .bool true:=hd 34 (by decide) (by kernel_rfl)
    have a110:=(hE.mine 110 34 (by kernel_rfl) (show 110<142 by decide)).trans e110
    have hk:=hE.const
    have hfn:=hE.fn
    have hc:=Past.cell x
    clear hE hd
    simp[go_sem,gives,nthR,detR,Below.refl,hk,a107,a110]
   | 36, _ =>
    have eo:=Option.some.inj ho
    clear ho
    have hg:o.guard=none:=by rw[←eo]
    refine jstep_ev hg ?_
    subst eo
    intro E u x hE hd
    have e111:u 35 = .bool true:=hd 35 (by decide) (by kernel_rfl)
    have a111:=(hE.mine 111 35 (by kernel_rfl) (show 111<142 by decide)).trans e111
    have hk:=hE.const
    have hfn:=hE.fn
    have hc:=Past.cell x
    clear hE hd
    simp[go_sem,gives,nthR,detR,Below.refl,a111]
   | 37, _ =>
    have eo:=Option.some.inj ho
    clear ho
    have hg:o.guard=some (36,true):=by rw[←eo]
    refine jstep_guard (o:=o) 36 112 true hg (by kernel_rfl) (by kernel_rfl) (show 112<142 by decide) (fun u x hd=>by have e:u 36 = .bool true:=hd 36 (by decide) (by kernel_rfl);exact e) ?_
    subst eo
    intro E u x hE hd
    have a10:E (.tmp 10) = .slice (some ⟨pu,0,none⟩) 2 cu:=(hE.rest 10 (by kernel_rfl)).trans rfl
    have hk:=hE.const
    have hfn:=hE.fn
    have hc:=Past.cell x
    clear hE hd
    simp[go_sem,gives,nthR,detR,Below.refl,a10]
   | 38, _ =>
    have eo:=Option.some.inj ho
    clear ho
    have hg:o.guard=some (36,true):=by rw[←eo]
    refine jstep_guard (o:=o) 36 112 true hg (by kernel_rfl) (by kernel_rfl) (show 112<142 by decide) (fun u x hd=>by have e:u 36 = .bool true:=hd 36 (by decide) (by kernel_rfl);exact e) ?_
    subst eo
    intro E u x hE hd
    have e113:u 37 = .slice (some ⟨pu,0,none⟩) 2 cu:=hd 37 (by decide) (by kernel_rfl)
    have a113:=(hE.mine 113 37 (by kernel_rfl) (show 113<142 by decide)).trans e113
    have hk:=hE.const
    have hfn:=hE.fn
    have hc:=Past.cell x
    clear hE hd
    simp[go_sem,gives,nthR,detR,Below.refl,hk,a113]
   | 39, _ =>
    have eo:=Option.some.inj ho
    clear ho
    have hg:o.guard=some (36,true):=by rw[←eo]
    refine jstep_guard (o:=o) 36 112 true hg (by kernel_rfl) (by kernel_rfl) (show 112<142 by decide) (fun u x hd=>by have e:u 36 = .bool true:=hd 36 (by decide) (by kernel_rfl);exact e) ?_
    subst eo
    intro E u x hE hd
    have e114:u 38 = .pointer (some ⟨pu,0,none⟩):=hd 38 (by decide) (by kernel_rfl)
    have a114:=(hE.mine 114 38 (by kernel_rfl) (show 114<142 by decide)).trans e114
    have hk:=hE.const
    have hfn:=hE.fn
    have hc:=Past.cell x
    clear hE hd
    simp[go_sem,gives,nthR,detR,Below.refl,hc,a114,hu0,huz]
   | 40, _ =>
    have eo:=Option.some.inj ho
    clear ho
    have hg:o.guard=some (36,true):=by rw[←eo]
    refine jstep_guard (o:=o) 36 112 true hg (by kernel_rfl) (by kernel_rfl) (show 112<142 by decide) (fun u x hd=>by have e:u 36 = .bool true:=hd 36 (by decide) (by kernel_rfl);exact e) ?_
    subst eo
    intro E u x hE hd
    have e115:u 39=nmV annB:=hd 39 (by decide) (by kernel_rfl)
    have a115:=(hE.mine 115 39 (by kernel_rfl) (show 115<142 by decide)).trans e115
    have hk:=hE.const
    have hfn:=hE.fn
    have hc:=Past.cell x
    clear hE hd
    simp[go_sem,gives,nthR,detR,Below.refl,hk,a115]
   | 41, _ =>
    have eo:=Option.some.inj ho
    clear ho
    have hg:o.guard=none:=by rw[←eo]
    refine jstep_ev hg ?_
    subst eo
    intro E u x hE hd
    have e112:u 36 = .bool true:=hd 36 (by decide) (by kernel_rfl)
    have a112:=(hE.mine 112 36 (by kernel_rfl) (show 112<142 by decide)).trans e112
    have e116:u 40 = .bool true:=hd 40 (by decide) (by kernel_rfl)
    have a116:=(hE.mine 116 40 (by kernel_rfl) (show 116<142 by decide)).trans e116
    have hk:=hE.const
    have hfn:=hE.fn
    have hc:=Past.cell x
    clear hE hd
    simp[go_sem,gives,nthR,detR,Below.refl,hk,a112,a116]
   | 42, _ =>
    have eo:=Option.some.inj ho
    clear ho
    have hg:o.guard=none:=by rw[←eo]
    refine jstep_ev hg ?_
    subst eo
    intro E u x hE hd
    have e117:u 41 = .bool true:=hd 41 (by decide) (by kernel_rfl)
    have a117:=(hE.mine 117 41 (by kernel_rfl) (show 117<142 by decide)).trans e117
    have hk:=hE.const
    have hfn:=hE.fn
    have hc:=Past.cell x
    clear hE hd
    simp[go_sem,gives,nthR,detR,Below.refl,a117]
   | 43, _ =>
    have eo:=Option.some.inj ho
    clear ho
    have hg:o.guard=some (42,true):=by rw[←eo]
    refine jstep_guard (o:=o) 42 118 true hg (by kernel_rfl) (by kernel_rfl) (show 118<142 by decide) (fun u x hd=>by have e:u 42 = .bool true:=hd 42 (by decide) (by kernel_rfl);exact e) ?_
    subst eo
    intro E u x hE hd
    have a10:E (.tmp 10) = .slice (some ⟨pu,0,none⟩) 2 cu:=(hE.rest 10 (by kernel_rfl)).trans rfl
    have hk:=hE.const
    have hfn:=hE.fn
    have hc:=Past.cell x
    clear hE hd
    simp[go_sem,gives,nthR,detR,Below.refl,a10]
   | 44, _ =>
    have eo:=Option.some.inj ho
    clear ho
    have hg:o.guard=some (42,true):=by rw[←eo]
    refine jstep_guard (o:=o) 42 118 true hg (by kernel_rfl) (by kernel_rfl) (show 118<142 by decide) (fun u x hd=>by have e:u 42 = .bool true:=hd 42 (by decide) (by kernel_rfl);exact e) ?_
    subst eo
    intro E u x hE hd
    have e119:u 43 = .slice (some ⟨pu,0,none⟩) 2 cu:=hd 43 (by decide) (by kernel_rfl)
    have a119:=(hE.mine 119 43 (by kernel_rfl) (show 119<142 by decide)).trans e119
    have hk:=hE.const
    have hfn:=hE.fn
    have hc:=Past.cell x
    clear hE hd
    simp[go_sem,gives,nthR,detR,Below.refl,hk,a119]
   | 45, _ =>
    have eo:=Option.some.inj ho
    clear ho
    have hg:o.guard=some (42,true):=by rw[←eo]
    refine jstep_guard (o:=o) 42 118 true hg (by kernel_rfl) (by kernel_rfl) (show 118<142 by decide) (fun u x hd=>by have e:u 42 = .bool true:=hd 42 (by decide) (by kernel_rfl);exact e) ?_
    subst eo
    intro E u x hE hd
    have e120:u 44 = .pointer (some ⟨pu,1,none⟩):=hd 44 (by decide) (by kernel_rfl)
    have a120:=(hE.mine 120 44 (by kernel_rfl) (show 120<142 by decide)).trans e120
    have hk:=hE.const
    have hfn:=hE.fn
    have hc:=Past.cell x
    clear hE hd
    simp[go_sem,gives,nthR,detR,Below.refl,hc,a120,hu1,huz]
   | 46, _ =>
    have eo:=Option.some.inj ho
    clear ho
    have hg:o.guard=some (42,true):=by rw[←eo]
    refine jstep_guard (o:=o) 42 118 true hg (by kernel_rfl) (by kernel_rfl) (show 118<142 by decide) (fun u x hd=>by have e:u 42 = .bool true:=hd 42 (by decide) (by kernel_rfl);exact e) ?_
    subst eo
    intro E u x hE hd
    have e121:u 45=nmV bobB:=hd 45 (by decide) (by kernel_rfl)
    have a121:=(hE.mine 121 45 (by kernel_rfl) (show 121<142 by decide)).trans e121
    have hk:=hE.const
    have hfn:=hE.fn
    have hc:=Past.cell x
    clear hE hd
    simp[go_sem,gives,nthR,detR,Below.refl,hk,a121]
   | 47, _ =>
    have eo:=Option.some.inj ho
    clear ho
    have hg:o.guard=none:=by rw[←eo]
    refine jstep_ev hg ?_
    subst eo
    intro E u x hE hd
    have e118:u 42 = .bool true:=hd 42 (by decide) (by kernel_rfl)
    have a118:=(hE.mine 118 42 (by kernel_rfl) (show 118<142 by decide)).trans e118
    have e122:u 46 = .bool true:=hd 46 (by decide) (by kernel_rfl)
    have a122:=(hE.mine 122 46 (by kernel_rfl) (show 122<142 by decide)).trans e122
    have hk:=hE.const
    have hfn:=hE.fn
    have hc:=Past.cell x
    clear hE hd
    simp[go_sem,gives,nthR,detR,Below.refl,hk,a118,a122]
   | 48, _ =>
    have eo:=Option.some.inj ho
    clear ho
    have hg:o.guard=none:=by rw[←eo]
    refine jstep_ev hg ?_
    subst eo
    intro E u x hE hd
    have e123:u 47 = .bool true:=hd 47 (by decide) (by kernel_rfl)
    have a123:=(hE.mine 123 47 (by kernel_rfl) (show 123<142 by decide)).trans e123
    have hk:=hE.const
    have hfn:=hE.fn
    have hc:=Past.cell x
    clear hE hd
    simp[go_sem,gives,nthR,detR,Below.refl,a123]
   | 49, _ =>
    have eo:=Option.some.inj ho
    clear ho
    have hg:o.guard=some (48,true):=by rw[←eo]
    refine jstep_guard (o:=o) 48 124 true hg (by kernel_rfl) (by kernel_rfl) (show 124<142 by decide) (fun u x hd=>by have e:u 48 = .bool true:=hd 48 (by decide) (by kernel_rfl);exact e) ?_
    subst eo
    intro E u x hE hd
    have a12:E (.tmp 12) = .int .i64 5:=(hE.rest 12 (by kernel_rfl)).trans rfl
    have hk:=hE.const
    have hfn:=hE.fn
    have hc:=Past.cell x
    clear hE hd
    simp[go_sem,gives,nthR,detR,Below.refl,a12]
   | 50, _ =>
    have eo:=Option.some.inj ho
    clear ho
    have hg:o.guard=some (48,true):=by rw[←eo]
    refine jstep_guard (o:=o) 48 124 true hg (by kernel_rfl) (by kernel_rfl) (show 124<142 by decide) (fun u x hd=>by have e:u 48 = .bool true:=hd 48 (by decide) (by kernel_rfl);exact e) ?_
    subst eo
    intro E u x hE hd
    have e125:u 49 = .int .i64 5:=hd 49 (by decide) (by kernel_rfl)
    have a125:=(hE.mine 125 49 (by kernel_rfl) (show 125<142 by decide)).trans e125
    have hk:=hE.const
    have hfn:=hE.fn
    have hc:=Past.cell x
    clear hE hd
    simp[go_sem,gives,nthR,detR,Below.refl,hk,a125]
   | 51, _ =>
    have eo:=Option.some.inj ho
    clear ho
    have hg:o.guard=none:=by rw[←eo]
    refine jstep_ev hg ?_
    subst eo
    intro E u x hE hd
    have e124:u 48 = .bool true:=hd 48 (by decide) (by kernel_rfl)
    have a124:=(hE.mine 124 48 (by kernel_rfl) (show 124<142 by decide)).trans e124
    have e126:u 50 = .bool true:=hd 50 (by decide) (by kernel_rfl)
    have a126:=(hE.mine 126 50 (by kernel_rfl) (show 126<142 by decide)).trans e126
    have hk:=hE.const
    have hfn:=hE.fn
    have hc:=Past.cell x
    clear hE hd
    simp[go_sem,gives,nthR,detR,Below.refl,hk,a124,a126]
   | 52, _ =>
    have eo:=Option.some.inj ho
    clear ho
    have hg:o.guard=none:=by rw[←eo]
    refine jstep_ev hg ?_
    subst eo
    intro E u x hE hd
    have e127:u 51 = .bool true:=hd 51 (by decide) (by kernel_rfl)
    have a127:=(hE.mine 127 51 (by kernel_rfl) (show 127<142 by decide)).trans e127
    have hk:=hE.const
    have hfn:=hE.fn
    have hc:=Past.cell x
    clear hE hd
    simp[go_sem,gives,nthR,detR,Below.refl,a127]
   | 53, _ =>
    have eo:=Option.some.inj ho
    clear ho
    have hg:o.guard=some (52,true):=by rw[←eo]
    refine jstep_guard (o:=o) 52 128 true hg (by kernel_rfl) (by kernel_rfl) (show 128<142 by decide) (fun u x hd=>by have e:u 52 = .bool true:=hd 52 (by decide) (by kernel_rfl);exact e) ?_
    subst eo
    intro E u x hE hd
    have a1:E (.tmp 1) = .pointer (some ⟨p1,0,none⟩):=(hE.rest 1 (by kernel_rfl)).trans rfl
    have hk:=hE.const
    have hfn:=hE.fn
    have hc:=Past.cell x
    clear hE hd
    simp[go_sem,gives,nthR,detR,Below.refl,hc,a1,f0,f1,f2,f3,f4,f5,f6,f7,fz]
   | 54, _ =>
    have eo:=Option.some.inj ho
    clear ho
    have hg:o.guard=some (52,true):=by rw[←eo]
    refine jstep_guard (o:=o) 52 128 true hg (by kernel_rfl) (by kernel_rfl) (show 128<142 by decide) (fun u x hd=>by have e:u 52 = .bool true:=hd 52 (by decide) (by kernel_rfl);exact e) ?_
    subst eo
    intro E u x hE hd
    have e129:u 53=rwV (⟨1,0,annB,0,0,.slice none 0 0,.slice none 0 0,.slice (some ⟨pa,0,none⟩) 2 2⟩:Rw):=hd 53 (by decide) (by kernel_rfl)
    have a129:=(hE.mine 129 53 (by kernel_rfl) (show 129<142 by decide)).trans e129
    have hk:=hE.const
    have hfn:=hE.fn
    have hc:=Past.cell x
    clear hE hd
    simp[go_sem,gives,nthR,hfn,a129]
    (refine (may_f (r:=r11) ((HI.out.past (Past.prop x)).r) (small11 _ _ _ (by decide) (by decide))).mono ?_);rintro e w3 ⟨rfl,hb3⟩;exact ⟨_,rfl,hb3,congrArg Value.bool hd11_8.1⟩
   | 55, _ =>
    have eo:=Option.some.inj ho
    clear ho
    have hg:o.guard=none:=by rw[←eo]
    refine jstep_ev hg ?_
    subst eo
    intro E u x hE hd
    have e128:u 52 = .bool true:=hd 52 (by decide) (by kernel_rfl)
    have a128:=(hE.mine 128 52 (by kernel_rfl) (show 128<142 by decide)).trans e128
    have e130:u 54 = .bool true:=hd 54 (by decide) (by kernel_rfl)
    have a130:=(hE.mine 130 54 (by kernel_rfl) (show 130<142 by decide)).trans e130
    have hk:=hE.const
    have hfn:=hE.fn
    have hc:=Past.cell x
    clear hE hd
    simp[go_sem,gives,nthR,detR,Below.refl,hk,a128,a130]
   | 56, _ =>
    have eo:=Option.some.inj ho
    clear ho
    have hg:o.guard=none:=by rw[←eo]
    refine jstep_ev hg ?_
    subst eo
    intro E u x hE hd
    have e131:u 55 = .bool true:=hd 55 (by decide) (by kernel_rfl)
    have a131:=(hE.mine 131 55 (by kernel_rfl) (show 131<142 by decide)).trans e131
    have hk:=hE.const
    have hfn:=hE.fn
    have hc:=Past.cell x
    clear hE hd
    simp[go_sem,gives,nthR,detR,Below.refl,a131]
   | 57, _ =>
    have eo:=Option.some.inj ho
    clear ho
    have hg:o.guard=some (56,true):=by rw[←eo]
    refine jstep_guard (o:=o) 56 132 true hg (by kernel_rfl) (by kernel_rfl) (show 132<142 by decide) (fun u x hd=>by have e:u 56 = .bool true:=hd 56 (by decide) (by kernel_rfl);exact e) ?_
    subst eo
    intro E u x hE hd
    have a13:E (.tmp 13) = .pointer (some ⟨p13,0,none⟩):=(hE.rest 13 (by kernel_rfl)).trans rfl
    have hk:=hE.const
    have hfn:=hE.fn
    have hc:=Past.cell x
    clear hE hd
    simp[go_sem,gives,nthR,detR,Below.refl,hc,a13,k0,k1,k2,k3,k4,k5,k6,k7,kz]
   | 58, _ =>
    have eo:=Option.some.inj ho
    clear ho
    have hg:o.guard=some (56,true):=by rw[←eo]
    refine jstep_guard (o:=o) 56 132 true hg (by kernel_rfl) (by kernel_rfl) (show 132<142 by decide) (fun u x hd=>by have e:u 56 = .bool true:=hd 56 (by decide) (by kernel_rfl);exact e) ?_
    subst eo
    intro E u x hE hd
    have e133:u 57=rwV (⟨1,0,AnnB,0,0,.slice none 0 0,.slice none 0 0,.slice (some ⟨pa,0,none⟩) 2 2⟩:Rw):=hd 57 (by decide) (by kernel_rfl)
    have a133:=(hE.mine 133 57 (by kernel_rfl) (show 133<142 by decide)).trans e133
    have hk:=hE.const
    have hfn:=hE.fn
    have hc:=Past.cell x
    clear hE hd
    simp[go_sem,gives,nthR,hfn,a133]
    (refine (may_f (r:=odd11) (rwF_bare (sliF3_blk (n:=2) (HI.out.past (Past.prop x)).ba rfl rfl (by omega))) (small11 _ _ _ (by decide) (by decide))).mono ?_);rintro e w3 ⟨rfl,hb3⟩;exact ⟨_,rfl,hb3,congrArg Value.bool hd11_8.2.2.1⟩
   | 59, _ =>
    have eo:=Option.some.inj ho
    clear ho
    have hg:o.guard=some (56,true):=by rw[←eo]
    refine jstep_guard (o:=o) 56 132 true hg (by kernel_rfl) (by kernel_rfl) (show 132<142 by decide) (fun u x hd=>by have e:u 56 = .bool true:=hd 56 (by decide) (by kernel_rfl);exact e) ?_
    subst eo
    intro E u x hE hd
    have e134:u 58 = .bool false:=hd 58 (by decide) (by kernel_rfl)
    have a134:=(hE.mine 134 58 (by kernel_rfl) (show 134<142 by decide)).trans e134
    have hk:=hE.const
    have hfn:=hE.fn
    have hc:=Past.cell x
    clear hE hd
    simp[go_sem,gives,nthR,detR,Below.refl,a134]
   | 60, _ =>
    have eo:=Option.some.inj ho
    clear ho
    have hg:o.guard=none:=by rw[←eo]
    refine jstep_ev hg ?_
    subst eo
    intro E u x hE hd
    have e132:u 56 = .bool true:=hd 56 (by decide) (by kernel_rfl)
    have a132:=(hE.mine 132 56 (by kernel_rfl) (show 132<142 by decide)).trans e132
    have e135:u 59 = .bool true:=hd 59 (by decide) (by kernel_rfl)
    have a135:=(hE.mine 135 59 (by kernel_rfl) (show 135<142 by decide)).trans e135
    have hk:=hE.const
    have hfn:=hE.fn
    have hc:=Past.cell x
    clear hE hd
    simp[go_sem,gives,nthR,detR,Below.refl,hk,a132,a135]
   | 61, _ =>
    have eo:=Option.some.inj ho
    clear ho
    have hg:o.guard=none:=by rw[←eo]
    refine jstep_ev hg ?_
    subst eo
    intro E u x hE hd
    have e136:u 60 = .bool true:=hd 60 (by decide) (by kernel_rfl)
    have a136:=(hE.mine 136 60 (by kernel_rfl) (show 136<142 by decide)).trans e136
    have hk:=hE.const
    have hfn:=hE.fn
    have hc:=Past.cell x
    clear hE hd
    simp[go_sem,gives,nthR,detR,Below.refl,a136]
   | 62, _ =>
    have eo:=Option.some.inj ho
    clear ho
    have hg:o.guard=some (61,true):=by rw[←eo]
    refine jstep_guard (o:=o) 61 137 true hg (by kernel_rfl) (by kernel_rfl) (show 137<142 by decide) (fun u x hd=>by have e:u 61 = .bool true:=hd 61 (by decide) (by kernel_rfl);exact e) ?_
    subst eo
    intro E u x hE hd
    have a14:E (.tmp 14) = .pointer (some ⟨p14,0,none⟩):=(hE.rest 14 (by kernel_rfl)).trans rfl
    have hk:=hE.const
    have hfn:=hE.fn
    have hc:=Past.cell x
    clear hE hd
    simp[go_sem,gives,nthR,detR,Below.refl,hc,a14,l0,l1,l2,l3,l4,l5,l6,l7,lz]
   | 63, _ =>
    have eo:=Option.some.inj ho
    clear ho
    have hg:o.guard=some (61,true):=by rw[←eo]
    refine jstep_guard (o:=o) 61 137 true hg (by kernel_rfl) (by kernel_rfl) (show 137<142 by decide) (fun u x hd=>by have e:u 61 = .bool true:=hd 61 (by decide) (by kernel_rfl);exact e) ?_
    subst eo
    intro E u x hE hd
    have e138:u 62=rwV (⟨1,0,annB,0,0,.slice none 0 0,.slice none 0 0,.slice (some ⟨pa,0,none⟩) 1 2⟩:Rw):=hd 62 (by decide) (by kernel_rfl)
    have a138:=(hE.mine 138 62 (by kernel_rfl) (show 138<142 by decide)).trans e138
    have hk:=hE.const
    have hfn:=hE.fn
    have hc:=Past.cell x
    clear hE hd
    simp[go_sem,gives,nthR,hfn,a138]
    (refine (may_f (r:=open11) (rwF_bare (sliF3_take (n:=1) (cap:=2) (F:=rA11) (HI.out.past (Past.prop x)).ba rfl (by decide) (by decide) (by omega))) (small11 _ _ _ (by decide) (by decide))).mono ?_);rintro e w3 ⟨rfl,hb3⟩;exact ⟨_,rfl,hb3,congrArg Value.bool hd11_8.2.2.2⟩
   | 64, _ =>
    have eo:=Option.some.inj ho
    clear ho
    have hg:o.guard=some (61,true):=by rw[←eo]
    refine jstep_guard (o:=o) 61 137 true hg (by kernel_rfl) (by kernel_rfl) (show 137<142 by decide) (fun u x hd=>by have e:u 61 = .bool true:=hd 61 (by decide) (by kernel_rfl);exact e) ?_
    subst eo
    intro E u x hE hd
    have e139:u 63 = .bool false:=hd 63 (by decide) (by kernel_rfl)
    have a139:=(hE.mine 139 63 (by kernel_rfl) (show 139<142 by decide)).trans e139
    have hk:=hE.const
    have hfn:=hE.fn
    have hc:=Past.cell x
    clear hE hd
    simp[go_sem,gives,nthR,detR,Below.refl,a139]
   | 65, _ =>
    have eo:=Option.some.inj ho
    clear ho
    have hg:o.guard=none:=by rw[←eo]
    refine jstep_ev hg ?_
    subst eo
    intro E u x hE hd
    have e137:u 61 = .bool true:=hd 61 (by decide) (by kernel_rfl)
    have a137:=(hE.mine 137 61 (by kernel_rfl) (show 137<142 by decide)).trans e137
    have e140:u 64 = .bool true:=hd 64 (by decide) (by kernel_rfl)
    have a140:=(hE.mine 140 64 (by kernel_rfl) (show 140<142 by decide)).trans e140
    have hk:=hE.const
    have hfn:=hE.fn
    have hc:=Past.cell x
    clear hE hd
    simp[go_sem,gives,nthR,detR,Below.refl,hk,a137,a140]
   | i+66,h=>exact absurd h (by omega)
  ·intro i o hx ho
   simp at hx
  ·intro u x9 hu hne
   have e65:u 65 = .bool true:=hu 65 (by decide)
   simp only[frm,List.take,Act.put,e65]
   have HQ:=hidE ((HI.out.past x9.2).base)
   clear hu hne e65 f0 f1 f2 f3 f4 f5 f6 f7 fz k0 k1 k2 k3 k4 k5 k6 k7 kz l0 l1 l2 l3 l4 l5 l6 l7 lz hu0 hu1 huz
   generalize x9.1=wz at *
   go_wp2
   go_ret
   exact ⟨rfl,HQ.out⟩
end
end Go.Proofs.YtcmponckjkalaaaGreat
