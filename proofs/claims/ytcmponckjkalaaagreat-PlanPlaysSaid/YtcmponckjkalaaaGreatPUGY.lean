/- The document's own answers of layer 11: a plan without a place, a plan with one more in order. No conditions but the sizes. -/
import Derived.Test.YtcmponckjkalaaaGreatPUGX
import Derived.BigQuiet
namespace Go.Proofs.YtcmponckjkalaaaGreat
section
open Go.ChangeShapes Go.WideShapes Go.ChangeAt Go.RowKit
attribute [local irreducible] Go.Calls
theorem gives_appD {P:Program} {o:Oper} {E:Operand→Value} {w:World} {G:Value→World→Prop} (s x:Operand) (t:TypeId)
  (hop:o.op=Op.call { callee:=Callee.builtin Builtin.append,args:=#[s,x],argTypes:=#[t,t] })
  (base:Nat) (e:TypeId) (i:TypeInfo) (z:Value) (sz by':Nat) (ht:P.underlying t=some (.slice e)) (hi:P.info? e=some i) (hz:i.zero=some z) (hsize:i.size=sz) (hby:i.bytes=by') (hzs:z.cells.size=sz) (hs0:0<sz)
  (n:Nat) (xs:List Value) (hown:w.ownsRow base e sz (E s) n xs)
  (m:Nat) (ys:List Value) (hsrc:SrcV w sz (E x) m ys)
  (h63:n+m≤100000000000) (hb':by'≤1000) (hbase:base≤w.heap.size)
  (h:∀ v' w',w'.ownsRow base e sz v' (n+m) (xs++ys)→w.grownBy w' (E s).ownBlock→(v'.ownBlock=(E s).ownBlock∨v'.ownBlock=some w.heap.size)→G v' w'):gives P G ((execOp E o).run P w):=by
 obtain ⟨a,cap,hx,h0,hl,h1,hc⟩:=hsrc
 cases a with
 | none =>
  obtain ⟨rfl,rfl⟩:=h0 rfl
  have hy:ys=[]:=List.eq_nil_of_length_eq_zero (by omega)
  subst hy
  have hrun:=run_append_owned_none (P:=P) (w:=w) base t o.type e i sz ht hi (E s) n xs hown
  have hK:=h (E s) w (by simpa using hown) ⟨rfl,rfl,rfl,Nat.le_refl _,fun _ _ _=>rfl⟩ (.inl rfl)
  unfold execOp
  simp[hop,resolve,invoke,builtin,hx,hrun,Result.andThen,gives]
  exact hK
 | some ad =>
  have hbb:(n+m) * by'≤(n+m) * 1000:=Nat.mul_le_mul_left _ hb'
  obtain ⟨v',w',hr,h2,h3,h4,h5⟩:=run_append_own_at (P:=P) w base t o.type e i z sz by' ht hi hz hsize hby hzs hs0 (E s) n xs hown ad m cap ys hl (hc ad rfl) h1 (by unfold maxLen;omega) (by omega) hbase
  unfold execOp
  simp only[hop,resolve,invoke,builtin,Sem.run_bind,Sem.run_pure,Result.andThen_ok,List.map_toArray,List.map_cons,List.map_nil,hx,hr]
  exact h v' w' h2 h3 h5
def SliRd (w:World) (v:Value) (l:List Rw):Prop:=SliRw w v l∧∀ ad n c,v = .slice (some ad) n c→∃ b off,ad=⟨b,off,none⟩∧b<w.heap.size
theorem SliRd.past {w w':World} {v:Value} {l:List Rw} (h:SliRd w v l) (hb:Below w.heap.size w w'):SliRd w' v l:=⟨h.1.past hb,fun ad n c e=>by
 obtain ⟨b,off,h1,h2⟩:=h.2 ad n c e
 exact ⟨b,off,h1,Nat.lt_of_lt_of_le h2 hb.size⟩⟩
theorem SliRd.keepI {w w':World} {v:Value} {l:List Rw} (h:SliRd w v l) (hk:KeepI w w'):SliRd w' v l:=⟨h.1.keepI hk,fun ad n c e=>by
 obtain ⟨b,off,h1,h2⟩:=h.2 ad n c e
 exact ⟨b,off,h1,Nat.lt_of_lt_of_le h2 hk.1⟩⟩
theorem sliRd_nil (w:World):SliRd w (.slice none 0 0) []:=⟨sliRw_nil w,fun ad n c e=>by cases e⟩
theorem sliRd_own {w:World} {B:Nat} {e:TypeId} {v:Value} {l:List Rw} (h:w.ownsRow B e 8 v l.length (cellsRw l)) (hf:∀ x∈l,x.fit):SliRd w v l:=⟨sliRw_own h hf,fun ad n c ev=>by
 obtain ⟨h1,h2 | ⟨g,cap,cur,h3,h4,h5,_⟩⟩:=h
 ·rw[h2.1] at ev;cases ev
 ·rw[h3] at ev;cases ev
  exact ⟨g,0,rfl,lt_of_block h5⟩⟩
def RowIs (w:World) (B:Nat) (v:Value) (l:List Rw):Prop:=w.ownsRow B 50 8 v l.length (cellsRw l)∧∀ x∈l,x.fit
theorem RowIs.rd {w:World} {B:Nat} {v:Value} {l:List Rw} (h:RowIs w B v l):SliRd w v l:=sliRd_own h.1 h.2
theorem RowIs.past {w w':World} {B:Nat} {v:Value} {l:List Rw} (h:RowIs w B v l) (hb:Below w.heap.size w w'):RowIs w' B v l:=⟨own_below h.1 hb,h.2⟩
theorem RowIs.set {w:World} {B p i:Nat} {v:Value} {l:List Rw} (h:RowIs w B v l) (hp:p<B) (u:Value):RowIs (w.setCell ⟨p,i,none⟩ u) B v l:=⟨own_kept h.1 (fun k hk=>by have:=own_block h.1 hk;rw[keptS (by omega)]),h.2⟩
theorem RowIs.low {w:World} {B B':Nat} {v:Value} {l:List Rw} (h:RowIs w B v l) (hb:B'≤B):RowIs w B' v l:=⟨own_base h.1 hb,h.2⟩
theorem SliRd.open_ {w:World} {v:Value} {l:List Rw} (h:SliRd w v l):(v = .slice none 0 0∧l=[])∨∃ b off cap,v = .slice (some ⟨b,off,none⟩) l.length cap∧l.length≤cap∧cap≤9223372036854775807∧b<w.heap.size∧CellsRw w b off l∧∀ x∈l,x.fit:=by
 obtain ⟨⟨a,cap,rfl,h1,h2,h3,h4,h5⟩,h6⟩:=h
 cases a with
 | none =>
  obtain ⟨e1,e2⟩:=h3 rfl
  refine .inl ⟨by rw[e1,e2],List.eq_nil_of_length_eq_zero e1⟩
 | some ad =>
  obtain ⟨b,off,rfl,hb⟩:=h6 _ _ _ rfl
  refine .inr ⟨b,off,cap,rfl,h1,h2,hb,fun i j hi hj => ?_,h5⟩
  obtain ⟨b',off',e,_,hc⟩:=h4 (by omega)
  cases e
  exact hc i j hi hj
theorem srcRw {w:World} {b off n cap:Nat} {l:List Rw} (hn:n=l.length) (hc:CellsRw w b off l) (hf:∀ x∈l,x.fit):SrcV w 8 (.slice (some ⟨b,off,none⟩) n cap) n (cellsRw l):=by
 subst hn
 refine ⟨_,cap,rfl,(fun e=>by cases e),cellsRw_len l,cellsRw_one l hf, ?_⟩
 rintro ad ⟨⟩ k u hk
 have hkl:k<l.length * 8:=by
  obtain ⟨hlt,_⟩:=List.getElem?_eq_some_iff.1 hk
  rw[cellsRw_len] at hlt;exact hlt
 have:=hc (k / 8) (k % 8) (by omega) (by omega)
 rw[show off+k / 8 * 8+k % 8=off+k from by omega,←cellsRw_get l _ _ (by omega) (by omega),show k / 8 * 8+k % 8=k from by omega,hk] at this
 rw[←this]
 unfold Addr.add
 by_cases c:k=0
 ·subst c;simp
 ·simp[c]
theorem CellsRw.below {w w':World} {b off B:Nat} {l:List Rw} (h:CellsRw w b off l) (hb:Below B w w') (hz:b<B):CellsRw w' b off l:=fun i j hi hj=>(hb.cell (p:=⟨b,_,none⟩) hz).trans (h i j hi hj)
theorem CellsRw.take {w:World} {b off:Nat} {l:List Rw} (h:CellsRw w b off l) (k:Nat):CellsRw w b off (l.take k):=fun i j hi hj=>by
 rw[List.length_take] at hi
 rw[List.getD_eq_getElem?_getD,List.getElem?_take_of_lt (by omega),←List.getD_eq_getElem?_getD]
 exact h i j (by omega) hj
theorem CellsRw.drop {w:World} {b off:Nat} {l:List Rw} (h:CellsRw w b off l) (k:Nat):CellsRw w b (off+k * 8) (l.drop k):=fun i j hi hj=>by
 rw[List.length_drop] at hi
 rw[List.getD_eq_getElem?_getD,List.getElem?_drop,←List.getD_eq_getElem?_getD,show off+k * 8+i * 8+j=off+(k+i) * 8+j by omega]
 exact h (k+i) j (by omega) hj
theorem fit_take {l:List Rw} (h:∀ x∈l,x.fit) (k:Nat):∀ x∈l.take k,x.fit:=fun x hx=>h x (List.mem_of_mem_take hx)
theorem fit_drop {l:List Rw} (h:∀ x∈l,x.fit) (k:Nat):∀ x∈l.drop k,x.fit:=fun x hx=>h x (List.mem_of_mem_drop hx)
theorem src_from {w0:World} {b off n cap k:Nat} {l:List Rw} (hn:n=l.length) (hk:k≤n) (hz:b<w0.heap.size) (hc:CellsRw w0 b off l) (hf:∀ x∈l,x.fit) :
  ∃ ad:Addr,(if cap=k then some (⟨b,off,none⟩:Addr) else some ⟨b,off+k * 8,none⟩)=some ad∧∀ w9,Below w0.heap.size w0 w9→n≤cap→SrcV w9 8 (.slice (some ad) (n - k) (cap - k)) (n - k) (cellsRw (l.drop k)):=by
 by_cases hcp:cap=k
 ·refine ⟨⟨b,off,none⟩,by rw[if_pos hcp],fun w9 hb9 hnc => ?_⟩
  have e:l.drop k=[]:=List.drop_eq_nil_of_le (by omega)
  have e0:n - k=0:=by omega
  rw[e,e0]
  exact srcRw (l:=[]) rfl (fun i j hi=>by simp at hi) (fun x hx=>by simp at hx)
 ·refine ⟨⟨b,off+k * 8,none⟩,by rw[if_neg hcp],fun w9 hb9 _=>srcRw (by rw[List.length_drop,hn]) ((hc.below hb9 hz).drop k) (fit_drop hf k)⟩
set_option maxRecDepth 100000 in
set_option maxHeartbeats 8000000 in
theorem without11_c {v:Value} {l:List Rw} (vc:Value) (pl:Nat) (w:World) (hS:SliRd w v l) (hi:pl<l.length) (hlm:l.length≤1000000) (hvc:∃ a n c,vc = .slice a n c) :
  Calls Tryz.prog 90 #[.agg #[vc,v],.int .i64 pl] w fun e w'=>∃ v',e = .returned (.agg #[vc,v'])∧RowIs w' w.heap.size v' (l.take pl++l.drop (pl+1))∧Below w.heap.size w w':=by
 obtain ⟨ix,hix,hz0,hz1,hz2⟩:=info_parts Tryz.infoRsv
 have IX:=hidE hix;have IZ0:=hidE hz0;have IZ1:=hidE hz1;have IZ2:=hidE hz2
 clear hix hz0 hz1 hz2
 obtain ⟨a0,m0,c0,rfl⟩:=hvc
 rcases hS.open_ with ⟨_,h⟩ | ⟨b,off,cap,rfl,hnc,hcap,hbz,hc,hf⟩
 ·subst h;simp at hi
 obtain ⟨w0,hw0⟩:∃ w0,w0=(w.alloc (Obj.cells #[.slice a0 m0 c0,.slice (some ⟨b,off,none⟩) l.length cap] 33)).alloc (Obj.cells #[.slice none 0 0,.slice none 0 0] 33):=⟨_,rfl⟩
 have hb0:Below w.heap.size w w0:=by rw[hw0];(repeat (first | exact Below.refl _ _ | assumption | refine balloc ?_ _ | refine below_drewN ?_ _ | refine bstep (by assumption) ?_ | refine bstep (Past.prop _) ?_ | refine Below.setCell ?_ (by first | exact Nat.le_refl _ | (simp;done) | (simp;omega)) _))
 have HB0:=hidE hb0
 have HZZ:=hidE (show w0.heap.size=w.heap.size+2 by rw[hw0];simp)
 have B1:Blk w0 w.heap.size #[.slice a0 m0 c0,.slice (some ⟨b,off,none⟩) l.length cap] 33:=by rw[hw0];exact (Blk.made _ _ _).alloc _
 have B2:Blk w0 (w.heap.size+1) #[.slice none 0 0,.slice none 0 0] 33:=by
  rw[hw0]
  have:=Blk.made (w.alloc (Obj.cells #[.slice a0 m0 c0,.slice (some ⟨b,off,none⟩) l.length cap] 33)) #[.slice none 0 0,.slice none 0 0] 33
  simpa using this
 have hbz0:b<w0.heap.size:=Nat.lt_of_lt_of_le hbz hb0.size
 have hc0:CellsRw w0 b off l:=hc.below hb0 hbz
 have HF:=hidE hf
 obtain ⟨n,hn⟩:∃ n,n=l.length:=⟨_,rfl⟩
 have HN:=hidE hn
 rw[←hn] at hi hlm hnc B1 ⊢
 rw[←hn] at hw0
 have HB1:=hidE B1;have HB2:=hidE B2
 have q0:=B1.cell 0;have q1:=B1.cell 1;have qz:=B1.lt
 simp at q0 q1
 obtain ⟨ad3,had3,h3⟩:=src_from (cap:=cap) hn (show pl+1≤n from hi) hbz0 hc0 hf
 have SRC3:=hidE h3
 have SRC1:=hidE (show ∀ w9,Below w0.heap.size w0 w9→SrcV w9 8 (.slice (some ⟨b,off,none⟩) pl cap) pl (cellsRw (l.take pl)) from fun w9 hb9=>srcRw (by rw[List.length_take];omega) ((hc0.below hb9 hbz0).take pl) (fit_take hf pl))
 have hwi:IntKind.i64.wrap ((pl:Int)+1)=(pl:Int)+1:=IntWalk.i64_in _ (by omega)
 have hin2:pl+1≤n:=hi
 have hin:pl<n:=hi
 have hic:pl≤cap:=by omega
 have hic1:pl+1≤cap:=by omega
 have hi0:(0:Int)≤(pl:Int)+1:=by omega
 have hiI:(pl:Int)+1≤(n:Int):=by omega
 clear hS hb0 B1 B2 hc hc0 hf hn h3 hi hbz0 hbz
 go_enter Tryz.func90,Tryz.ntmps90
 go_upto_region 1 with fail
 rw[←hw0]
 clear hw0
 have HOK:ChOk (fun i=>([none,some (.pointer (some ⟨w.heap.size,1,none⟩)),some (.slice (some ⟨b,off,none⟩) n cap),some (.int .i64 (pl:Int)),some (.slice (some ⟨b,off,none⟩) pl cap),none,some (.pointer (some ⟨w.heap.size,1,none⟩)),some (.slice (some ⟨b,off,none⟩) n cap),some (.int .i64 (pl:Int)),some (.int .i64 ((pl:Int)+1)),some (.slice (some ad3) (n - (pl+1)) (cap - (pl+1))),none,some (.pointer (some ⟨w.heap.size,1,none⟩))]:List (Option Value)).getD i none) (fun i=>[0,5,11].getD i 900) (fun j=>[901,902,903].getD j 990) 2:=by
  refine ⟨fun i hi => ?_,fun j => ?_,fun i k hi hk e => ?_,fun i j hi e => ?_⟩
  ·match i,hi with
   | 0,_=>rfl
   | 1,_=>rfl
   | 2,_=>rfl
  ·match j with
   | 0=>rfl
   | 1=>rfl
   | 2=>rfl
   | j+3=>rfl
  ·match i,k,hi,hk with
   | 0,0,_,_=>first | rfl | (simp at e)
   | 0,1,_,_=>first | rfl | (simp at e)
   | 0,2,_,_=>first | rfl | (simp at e)
   | 1,0,_,_=>first | rfl | (simp at e)
   | 1,1,_,_=>first | rfl | (simp at e)
   | 1,2,_,_=>first | rfl | (simp at e)
   | 2,0,_,_=>first | rfl | (simp at e)
   | 2,1,_,_=>first | rfl | (simp at e)
   | 2,2,_,_=>first | rfl | (simp at e)
  ·match i,j,hi with
   | 0,0,_=>simp at e
   | 0,1,_=>simp at e
   | 0,2,_=>simp at e
   | 0,j+3,_=>simp at e
   | 1,0,_=>simp at e
   | 1,1,_=>simp at e
   | 1,2,_=>simp at e
   | 1,j+3,_=>simp at e
   | 2,0,_=>simp at e
   | 2,1,_=>simp at e
   | 2,2,_=>simp at e
   | 2,j+3,_=>simp at e
 refine wp_region_C 13 (ChI 50 8 w0 (fun i=>([none,some (.pointer (some ⟨w.heap.size,1,none⟩)),some (.slice (some ⟨b,off,none⟩) n cap),some (.int .i64 (pl:Int)),some (.slice (some ⟨b,off,none⟩) pl cap),none,some (.pointer (some ⟨w.heap.size,1,none⟩)),some (.slice (some ⟨b,off,none⟩) n cap),some (.int .i64 (pl:Int)),some (.int .i64 ((pl:Int)+1)),some (.slice (some ad3) (n - (pl+1)) (cap - (pl+1))),none,some (.pointer (some ⟨w.heap.size,1,none⟩))]:List (Option Value)).getD i none) (fun i=>[0,5,11].getD i 900) (fun j=>[901,902,903].getD j 990) 2 (fun i=>[0,0+pl,0+pl+(n - (pl+1))].getD i 0) (fun j=>[0,pl,(n - (pl+1))].getD j 0) (fun i=>[[],[]++cellsRw (l.take pl),[]++cellsRw (l.take pl)++cellsRw (l.drop (pl+1))].getD i []) (fun j=>[[],cellsRw (l.take pl),cellsRw (l.drop (pl+1))].getD j [])) (by kernel_rfl) (by decide) (by kernel_rfl) (chI_start (Below.refl _ _).drew) ?_ ?_
 ·intro i o hi ho
  match i,hi with
  | 0, _ =>
   have eo:=Option.some.inj ho
   have hg:o.guard=none:=by rw[←eo]
   refine cstep_evF hg ?_
   intro E L u w9 E1 E0 EC EF hl hw hI
   subst eo
   refine gives_ok (v := .slice (some ⟨w9.heap.size,0,none⟩) 0 0) (w':=w9.alloc (.cells #[] 50)) (by simp[execOp,go_sem]) ?_
   exact hI.nbase HOK hl (show World.ownsRow _ w0.heap.size 50 8 (.slice (some ⟨w9.heap.size,0,none⟩) 0 0) 0 [] from World.ownsRow_lit (e:=50) (size:=8) (base:=w0.heap.size) w9 #[] 0 hI.bel.size (by unfold maxLen;omega) rfl) ((Below.refl _ w9).alloc (Nat.le_refl _) _) (fun b hb=>by simp[Value.ownBlock] at hb;omega)
  | 1, _ =>
   have eo:=Option.some.inj ho
   have hg:o.guard=none:=by rw[←eo]
   refine cstep_evF hg ?_
   intro E L u w9 E1 E0 EC EF hl hw hI
   subst eo
   have a2:=(E0 2 (by kernel_rfl)).trans (show _=Value.pointer (some ⟨w.heap.size,0,none⟩) from rfl)
   refine gives_ok (v := .pointer (some ⟨w.heap.size,1,none⟩)) (w':=w9) (by simp[execOp,go_sem,a2]) ?_
   exact hI.ndet HOK rfl (Below.refl _ _)
  | 2, _ =>
   have eo:=Option.some.inj ho
   have hg:o.guard=none:=by rw[←eo]
   refine cstep_evF hg ?_
   intro E L u w9 E1 E0 EC EF hl hw hI
   subst eo
   have a6:=(E1 6 1 (by kernel_rfl) (by simp)).trans (hI.det 1 _ rfl (hw 1 (by decide) (by kernel_rfl)))
   have q0:=(hI.bel.cell (p:=⟨w.heap.size,_,none⟩) qz).trans q0;have q1:=(hI.bel.cell (p:=⟨w.heap.size,_,none⟩) qz).trans q1;have qz:=Nat.lt_of_lt_of_le qz hI.bel.size
   refine gives_ok (v := .slice (some ⟨b,off,none⟩) n cap) (w':=w9) (by simp[execOp,go_sem,a6,q1]) ?_
   exact hI.ndet HOK rfl (Below.refl _ _)
  | 3, _ =>
   have eo:=Option.some.inj ho
   have hg:o.guard=none:=by rw[←eo]
   refine cstep_evF hg ?_
   intro E L u w9 E1 E0 EC EF hl hw hI
   subst eo
   have a1:=(E0 1 (by kernel_rfl)).trans (show _=Value.int .i64 (pl:Int) from rfl)
   refine gives_ok (v := .int .i64 (pl:Int)) (w':=w9) (by simp[execOp,go_sem,a1]) ?_
   exact hI.ndet HOK rfl (Below.refl _ _)
  | 4, _ =>
   have eo:=Option.some.inj ho
   have hg:o.guard=none:=by rw[←eo]
   refine cstep_evF hg ?_
   intro E L u w9 E1 E0 EC EF hl hw hI
   subst eo
   have a7:=(E1 7 2 (by kernel_rfl) (by simp)).trans (hI.det 2 _ rfl (hw 2 (by decide) (by kernel_rfl)))
   have a8:=(E1 8 3 (by kernel_rfl) (by simp)).trans (hI.det 3 _ rfl (hw 3 (by decide) (by kernel_rfl)))
   refine gives_ok (v := .slice (some ⟨b,off,none⟩) pl cap) (w':=w9) (by simp[execOp,go_sem,a7,a8,hic]) ?_
   exact hI.ndet HOK rfl (Below.refl _ _)
  | 5, _ =>
   have eo:=Option.some.inj ho
   have hg:o.guard=none:=by rw[←eo]
   refine cstep_evF hg ?_
   intro E L u w9 E1 E0 EC EF hl hw hI
   subst eo
   have a5:=E1 5 0 (by kernel_rfl) (by simp)
   have a9:=(E1 9 4 (by kernel_rfl) (by simp)).trans (hI.det 4 _ rfl (hw 4 (by decide) (by kernel_rfl)))
   have hpw:=hw 0 (by decide) (by kernel_rfl)
   refine gives_appD (.tmp 5) (.tmp 9) 31 rfl w0.heap.size 50 ix _ 8 112 Tryz.underlying31 IX.out IZ0.out IZ1.out IZ2.out rfl (by decide) _ _ (by rw[a5];exact hI.row 0 (by decide) hpw (fun _=>hl)) pl (cellsRw (l.take pl)) (by rw[a9];exact SRC1.out w9 hI.bel) (by first | (simp;done) | (simp;omega)) (by omega) hI.bel.size ?_
   intro v' w' ho hg hat
   rw[a5] at hg hat
   exact hI.napp (i:=0) HOK (by decide) hl hpw ho hg hat
  | 6, _ =>
   have eo:=Option.some.inj ho
   have hg:o.guard=none:=by rw[←eo]
   refine cstep_evF hg ?_
   intro E L u w9 E1 E0 EC EF hl hw hI
   subst eo
   have a2:=(E0 2 (by kernel_rfl)).trans (show _=Value.pointer (some ⟨w.heap.size,0,none⟩) from rfl)
   refine gives_ok (v := .pointer (some ⟨w.heap.size,1,none⟩)) (w':=w9) (by simp[execOp,go_sem,a2]) ?_
   exact hI.ndet HOK rfl (Below.refl _ _)
  | 7, _ =>
   have eo:=Option.some.inj ho
   have hg:o.guard=none:=by rw[←eo]
   refine cstep_evF hg ?_
   intro E L u w9 E1 E0 EC EF hl hw hI
   subst eo
   have a11:=(E1 11 6 (by kernel_rfl) (by simp)).trans (hI.det 6 _ rfl (hw 6 (by decide) (by kernel_rfl)))
   have q0:=(hI.bel.cell (p:=⟨w.heap.size,_,none⟩) qz).trans q0;have q1:=(hI.bel.cell (p:=⟨w.heap.size,_,none⟩) qz).trans q1;have qz:=Nat.lt_of_lt_of_le qz hI.bel.size
   refine gives_ok (v := .slice (some ⟨b,off,none⟩) n cap) (w':=w9) (by simp[execOp,go_sem,a11,q1]) ?_
   exact hI.ndet HOK rfl (Below.refl _ _)
  | 8, _ =>
   have eo:=Option.some.inj ho
   have hg:o.guard=none:=by rw[←eo]
   refine cstep_evF hg ?_
   intro E L u w9 E1 E0 EC EF hl hw hI
   subst eo
   have a1:=(E0 1 (by kernel_rfl)).trans (show _=Value.int .i64 (pl:Int) from rfl)
   refine gives_ok (v := .int .i64 (pl:Int)) (w':=w9) (by simp[execOp,go_sem,a1]) ?_
   exact hI.ndet HOK rfl (Below.refl _ _)
  | 9, _ =>
   have eo:=Option.some.inj ho
   have hg:o.guard=none:=by rw[←eo]
   refine cstep_evF hg ?_
   intro E L u w9 E1 E0 EC EF hl hw hI
   subst eo
   have a13:=(E1 13 8 (by kernel_rfl) (by simp)).trans (hI.det 8 _ rfl (hw 8 (by decide) (by kernel_rfl)))
   refine gives_ok (v := .int .i64 ((pl:Int)+1)) (w':=w9) (by simp[execOp,go_sem,EC,a13,hwi]) ?_
   exact hI.ndet HOK rfl (Below.refl _ _)
  | 10, _ =>
   have eo:=Option.some.inj ho
   have hg:o.guard=none:=by rw[←eo]
   refine cstep_evF hg ?_
   intro E L u w9 E1 E0 EC EF hl hw hI
   subst eo
   have a12:=(E1 12 7 (by kernel_rfl) (by simp)).trans (hI.det 7 _ rfl (hw 7 (by decide) (by kernel_rfl)))
   have a14:=(E1 14 9 (by kernel_rfl) (by simp)).trans (hI.det 9 _ rfl (hw 9 (by decide) (by kernel_rfl)))
   refine gives_ok (v := .slice (some ad3) (n - (pl+1)) (cap - (pl+1))) (w':=w9) (by simp[execOp,go_sem,a12,a14,hi0,hiI,had3]) ?_
   exact hI.ndet HOK rfl (Below.refl _ _)
  | 11, _ =>
   have eo:=Option.some.inj ho
   have hg:o.guard=none:=by rw[←eo]
   refine cstep_evF hg ?_
   intro E L u w9 E1 E0 EC EF hl hw hI
   subst eo
   have a10:=E1 10 5 (by kernel_rfl) (by simp)
   have a15:=(E1 15 10 (by kernel_rfl) (by simp)).trans (hI.det 10 _ rfl (hw 10 (by decide) (by kernel_rfl)))
   have hpw:=hw 5 (by decide) (by kernel_rfl)
   refine gives_appD (.tmp 10) (.tmp 15) 31 rfl w0.heap.size 50 ix _ 8 112 Tryz.underlying31 IX.out IZ0.out IZ1.out IZ2.out rfl (by decide) _ _ (by rw[a10];exact hI.row 1 (by decide) hpw (fun _=>hl)) (n - (pl+1)) (cellsRw (l.drop (pl+1))) (by rw[a15];exact SRC3.out w9 hI.bel hnc) (by first | (simp;done) | (simp;omega)) (by omega) hI.bel.size ?_
   intro v' w' ho hg hat
   rw[a10] at hg hat
   exact hI.napp (i:=1) HOK (by decide) hl hpw ho hg hat
  | 12, _ =>
   have eo:=Option.some.inj ho
   have hg:o.guard=none:=by rw[←eo]
   refine cstep_evF hg ?_
   intro E L u w9 E1 E0 EC EF hl hw hI
   subst eo
   have a2:=(E0 2 (by kernel_rfl)).trans (show _=Value.pointer (some ⟨w.heap.size,0,none⟩) from rfl)
   refine gives_ok (v := .pointer (some ⟨w.heap.size,1,none⟩)) (w':=w9) (by simp[execOp,go_sem,a2]) ?_
   exact hI.ndet HOK rfl (Below.refl _ _)
  | i+13,h=>exact absurd h (by omega)
 ·intro L u w9 hall hI
  have e1:u 1 = .pointer (some ⟨w.heap.size,1,none⟩):=hI.det 1 _ rfl (hall 1 (by decide))
  have e2:u 2 = .slice (some ⟨b,off,none⟩) n cap:=hI.det 2 _ rfl (hall 2 (by decide))
  have e3:u 3 = .int .i64 (pl:Int):=hI.det 3 _ rfl (hall 3 (by decide))
  have e4:u 4 = .slice (some ⟨b,off,none⟩) pl cap:=hI.det 4 _ rfl (hall 4 (by decide))
  have e6:u 6 = .pointer (some ⟨w.heap.size,1,none⟩):=hI.det 6 _ rfl (hall 6 (by decide))
  have e7:u 7 = .slice (some ⟨b,off,none⟩) n cap:=hI.det 7 _ rfl (hall 7 (by decide))
  have e8:u 8 = .int .i64 (pl:Int):=hI.det 8 _ rfl (hall 8 (by decide))
  have e9:u 9 = .int .i64 ((pl:Int)+1):=hI.det 9 _ rfl (hall 9 (by decide))
  have e10:u 10 = .slice (some ad3) (n - (pl+1)) (cap - (pl+1)):=hI.det 10 _ rfl (hall 10 (by decide))
  have e12:u 12 = .pointer (some ⟨w.heap.size,1,none⟩):=hI.det 12 _ rfl (hall 12 (by decide))
  have hrow:=hI.row 2 (by decide) (hall 11 (by decide)) (fun h=>absurd h (by decide))
  rw[show u ((fun i=>[0,5,11].getD i 900) 2)=u 11 from rfl] at hrow
  obtain ⟨aT,cT,e11⟩:∃ aT cT,u 11 = .slice aT (0+pl+(n - (pl+1))) cT:=own_sli hrow
  rw[e11] at hrow
  have hlen:0+pl+(n - (pl+1))=(l.take pl++l.drop (pl+1)).length:=by rw[List.length_append,List.length_take,List.length_drop];have:=HN.out;omega
  rw[hlen] at e11 hrow
  have hbX:=hI.bel
  have HB9:=hidE (bstep hbX HB0.out);have HB1:=hidE (HB1.out.past hbX);have HB2:=hidE (HB2.out.past hbX)
  simp only[frm,List.take,Act.put,e1,e2,e3,e4,e6,e7,e8,e9,e10,e12,e11]
  clear hI hall hlen e1 e2 e3 e4 e6 e7 e8 e9 e10 e12 e11 HOK hbX SRC1 SRC3 q0 q1 qz had3 hwi hin hin2 hic hic1 hi0 hiI HN IX IZ0 IZ1 IZ2 HB0 hnc
  generalize u 0=z0 at *;generalize u 5=z5 at *
  obtain ⟨lx,hlx⟩:∃ lx,lx=l.take pl++l.drop (pl+1):=⟨_,rfl⟩
  have HLX:=hidE hlx
  rw[←hlx] at hrow ⊢
  rw[show ([]++cellsRw (l.take pl)++cellsRw (l.drop (pl+1)):List Value)=cellsRw lx from by rw[hlx,cellsRw_app];rfl] at hrow
  have HRW:=hidE hrow
  have HFT:=hidE (show ∀ x∈lx,x.fit from fun x hx=>by
   rw[hlx] at hx
   rcases List.mem_append.1 hx with h | h
   ·exact HF.out x (List.mem_of_mem_take h)
   ·exact HF.out x (List.mem_of_mem_drop h))
  clear hlx hrow HF
  have x0:=HB1.out.cell 0;have x1:=HB1.out.cell 1;have xz:=HB1.out.lt
  have y0:=HB2.out.cell 0;have y1:=HB2.out.cell 1;have yz:=HB2.out.lt
  simp at x0 x1 y0 y1
  have fx0:=HB1.out.free 0;have fx1:=HB1.out.free 1;have fy0:=HB2.out.free 0;have fy1:=HB2.out.free 1
  go_wp2
  refine bodyPost_ret (v := .agg #[.slice a0 m0 c0,.slice aT lx.length cT]) (by simp[results,Tryz.results90,go_sem,y0,y1]) rfl ⟨_,rfl, ?_, ?_⟩
  ·rw[←HLX.out]
   have hz:=HZZ.out
   exact ⟨own_base (own_kept HRW.out (fun kk hk=>by have:=own_block HRW.out hk;rw[keptS (by omega),keptS (by omega),keptS (by omega)])) (by omega),HFT.out⟩
  ·have hz:=HZZ.out;have hb9:=HB9.out;(repeat (first | exact Below.refl _ _ | assumption | refine balloc ?_ _ | refine below_drewN ?_ _ | refine bstep (by assumption) ?_ | refine bstep (Past.prop _) ?_ | refine Below.setCell ?_ (by first | exact Nat.le_refl _ | (simp;done) | (simp;omega)) _))
set_option maxRecDepth 100000 in
set_option maxHeartbeats 16000000 in
theorem with11_nil {r:Rv} {xi xs xf xt:Int} {xu:List UInt8} {aT aW aA:Option Addr} {nT cT nW cW nA cA:Nat} (vc:Value) (w:World) (hfit:Rw.fit (⟨xi,xs,xu,xf,xt,.slice aT nT cT,.slice aW nW cW,.slice aA nA cA⟩:Rw)) (hvc:∃ a n c,vc = .slice a n c) :
  Calls Tryz.prog 91 #[.agg #[vc,.slice none 0 0],rwV (⟨xi,xs,xu,xf,xt,.slice aT nT cT,.slice aW nW cW,.slice aA nA cA⟩:Rw)] w fun e w'=>∃ v',e = .returned (.agg #[vc,v'])∧RowIs w' w.heap.size v' (([]:List Rw).take (cntA [] r)++([(⟨xi,xs,xu,xf,xt,.slice aT nT cT,.slice aW nW cW,.slice aA nA cA⟩:Rw)]++([]:List Rw).drop (cntA [] r)))∧Below w.heap.size w w':=by
 obtain ⟨ix,hix,hz0,hz1,hz2⟩:=info_parts Tryz.infoRsv
 have IX:=hidE hix;have IZ0:=hidE hz0;have IZ1:=hidE hz1;have IZ2:=hidE hz2
 clear hix hz0 hz1 hz2
 obtain ⟨a0,m0,c0,rfl⟩:=hvc
 have HXF:=hidE hfit
 clear hfit
 obtain ⟨w0,hw0⟩:∃ w0,w0=((w.alloc (Obj.cells #[.slice a0 m0 c0,.slice none 0 0] 33)).alloc (Obj.cells #[.int .u32 xi,.int .u32 xs,nmV xu,.int .i64 xf,.int .i64 xt,.slice aT nT cT,.slice aW nW cW,.slice aA nA cA] 50)).alloc (Obj.cells #[.slice none 0 0,.slice none 0 0] 33):=⟨_,rfl⟩
 have hb0:Below w.heap.size w w0:=by rw[hw0];(repeat (first | exact Below.refl _ _ | assumption | refine balloc ?_ _ | refine below_drewN ?_ _ | refine bstep (by assumption) ?_ | refine bstep (Past.prop _) ?_ | refine Below.setCell ?_ (by first | exact Nat.le_refl _ | (simp;done) | (simp;omega)) _))
 have HB0:=hidE hb0
 have HZ0:=hidE (show w0.heap.size=w.heap.size+3 by rw[hw0];simp)
 have HB1:=hidE (show Blk w0 w.heap.size #[.slice a0 m0 c0,.slice none 0 0] 33 by rw[hw0];exact ((Blk.made _ _ _).alloc _).alloc _)
 have HB2:=hidE (show Blk w0 (w.heap.size+1) #[.int .u32 xi,.int .u32 xs,nmV xu,.int .i64 xf,.int .i64 xt,.slice aT nT cT,.slice aW nW cW,.slice aA nA cA] 50 by
  rw[hw0]
  refine Blk.alloc ?_ _
  have:=Blk.made (w.alloc (Obj.cells #[.slice a0 m0 c0,.slice none 0 0] 33)) #[.int .u32 xi,.int .u32 xs,nmV xu,.int .i64 xf,.int .i64 xt,.slice aT nT cT,.slice aW nW cW,.slice aA nA cA] 50
  simpa using this)
 have HB3:=hidE (show Blk w0 (w.heap.size+2) #[.slice none 0 0,.slice none 0 0] 33 by
  rw[hw0]
  have:=Blk.made ((w.alloc (Obj.cells #[.slice a0 m0 c0,.slice none 0 0] 33)).alloc (Obj.cells #[.int .u32 xi,.int .u32 xs,nmV xu,.int .i64 xf,.int .i64 xt,.slice aT nT cT,.slice aW nW cW,.slice aA nA cA] 50)) #[.slice none 0 0,.slice none 0 0] 33
  simpa using this)
 clear hb0
 go_enter Tryz.func91,Tryz.ntmps91
 go_upto_region 1 with fail
 rw[←hw0]
 clear hw0
 have q0:=HB1.out.cell 0;have q1:=HB1.out.cell 1;have qz:=HB1.out.lt
 have s0:=HB2.out.cell 0;have s1:=HB2.out.cell 1;have s2:=HB2.out.cell 2;have s3:=HB2.out.cell 3;have s4:=HB2.out.cell 4;have s5:=HB2.out.cell 5;have s6:=HB2.out.cell 6;have s7:=HB2.out.cell 7;have sz:=HB2.out.lt
 simp at q0 q1 s0 s1 s2 s3 s4 s5 s6 s7
 go_wp2
 go_loopg [5] 1 (fun g v5 wr=>v5 = .int .i64 0∧Blk wr w.heap.size #[.slice a0 m0 c0,.slice none 0 0] 33∧Blk wr (w.heap.size+1) #[.int .u32 xi,.int .u32 xs,nmV xu,.int .i64 xf,.int .i64 xt,.slice aT nT cT,.slice aW nW cW,.slice aA nA cA] 50∧Blk wr (w.heap.size+2) #[.slice none 0 0,.slice none 0 0] 33∧Below w.heap.size w wr)
 case atStart=>exact ⟨rfl,HB1.out,HB2.out,HB3.out,HB0.out⟩
 case round =>
  clear q0 q1 qz s0 s1 s2 s3 s4 s5 s6 s7 sz HB1 HB2 HB3 HB0
  obtain ⟨rfl,h1,h2,h3,hb⟩:=hrel
  have HB1:=hidE h1;have HB2:=hidE h2;have HB3:=hidE h3;have HB:=hidE hb
  clear h1 h2 h3 hb
  have q0:=HB1.out.cell 0;have q1:=HB1.out.cell 1;have qz:=HB1.out.lt
  have s0:=HB2.out.cell 0;have s1:=HB2.out.cell 1;have s2:=HB2.out.cell 2;have s3:=HB2.out.cell 3;have s4:=HB2.out.cell 4;have s5:=HB2.out.cell 5;have s6:=HB2.out.cell 6;have s7:=HB2.out.cell 7;have sz:=HB2.out.lt
  simp at q0 q1 s0 s1 s2 s3 s4 s5 s6 s7
  go_upto_region 2 with fail
  go_quiet (fail)
  have hq:Below wr.heap.size wr (wr.drewN nq):=below_drewN (Below.refl _ _) _
  have HB1:=hidE (HB1.out.past hq);have HB2:=hidE (HB2.out.past hq);have HB3:=hidE (HB3.out.past hq);have HB:=hidE (bstep hq HB.out)
  clear q0 q1 qz s0 s1 s2 s3 s4 s5 s6 s7 sz hq
  generalize wr.drewN nq=wq at *
  have q0:=HB1.out.cell 0;have q1:=HB1.out.cell 1;have qz:=HB1.out.lt
  have s0:=HB2.out.cell 0;have s1:=HB2.out.cell 1;have s2:=HB2.out.cell 2;have s3:=HB2.out.cell 3;have s4:=HB2.out.cell 4;have s5:=HB2.out.cell 5;have s6:=HB2.out.cell 6;have s7:=HB2.out.cell 7;have sz:=HB2.out.lt
  simp at q0 q1 s0 s1 s2 s3 s4 s5 s6 s7
  have HZZ:=hidE (show w.heap.size+3≤wq.heap.size from by have:=HB3.out.lt;omega)
  go_upto_region 4 with fail
  have HOK:ChOk (fun i=>([none,some (.pointer (some ⟨w.heap.size,1,none⟩)),some (.slice none 0 0),some (.int .i64 0),some (.slice none 0 0),none,some (rwV (⟨xi,xs,xu,xf,xt,.slice aT nT cT,.slice aW nW cW,.slice aA nA cA⟩:Rw)),none,none,some (.pointer (some ⟨w.heap.size,1,none⟩)),some (.slice none 0 0),some (.int .i64 0),some (.slice none 0 0),none,some (.pointer (some ⟨w.heap.size,1,none⟩))]:List (Option Value)).getD i none) (fun i=>[0,5,8,13].getD i 900) (fun j=>[901,902,7,903].getD j 990) 3:=by
   refine ⟨fun i hi => ?_,fun j => ?_,fun i k hi hk e => ?_,fun i j hi e => ?_⟩
   ·match i,hi with
    | 0,_=>rfl
    | 1,_=>rfl
    | 2,_=>rfl
    | 3,_=>rfl
   ·match j with
    | 0=>rfl
    | 1=>rfl
    | 2=>rfl
    | 3=>rfl
    | j+4=>rfl
   ·match i,k,hi,hk with
    | 0,0,_,_=>first | rfl | (simp at e)
    | 0,1,_,_=>first | rfl | (simp at e)
    | 0,2,_,_=>first | rfl | (simp at e)
    | 0,3,_,_=>first | rfl | (simp at e)
    | 1,0,_,_=>first | rfl | (simp at e)
    | 1,1,_,_=>first | rfl | (simp at e)
    | 1,2,_,_=>first | rfl | (simp at e)
    | 1,3,_,_=>first | rfl | (simp at e)
    | 2,0,_,_=>first | rfl | (simp at e)
    | 2,1,_,_=>first | rfl | (simp at e)
    | 2,2,_,_=>first | rfl | (simp at e)
    | 2,3,_,_=>first | rfl | (simp at e)
    | 3,0,_,_=>first | rfl | (simp at e)
    | 3,1,_,_=>first | rfl | (simp at e)
    | 3,2,_,_=>first | rfl | (simp at e)
    | 3,3,_,_=>first | rfl | (simp at e)
   ·match i,j,hi with
    | 0,0,_=>simp at e
    | 0,1,_=>simp at e
    | 0,2,_=>simp at e
    | 0,3,_=>simp at e
    | 0,j+4,_=>simp at e
    | 1,0,_=>simp at e
    | 1,1,_=>simp at e
    | 1,2,_=>simp at e
    | 1,3,_=>simp at e
    | 1,j+4,_=>simp at e
    | 2,0,_=>simp at e
    | 2,1,_=>simp at e
    | 2,2,_=>simp at e
    | 2,3,_=>simp at e
    | 2,j+4,_=>simp at e
    | 3,0,_=>simp at e
    | 3,1,_=>simp at e
    | 3,2,_=>simp at e
    | 3,3,_=>simp at e
    | 3,j+4,_=>simp at e
  have HINJ2:∀ q,q≤3→(fun j=>[901,902,7,903].getD j 990) q=(fun j=>[901,902,7,903].getD j 990) 2→q=2:=fun q hq e=>by
   match q,hq with
   | 0,_=>first | rfl | (simp at e)
   | 1,_=>first | rfl | (simp at e)
   | 2,_=>first | rfl | (simp at e)
   | 3,_=>first | rfl | (simp at e)
  refine wp_region_C 15 (ChI 50 8 wq (fun i=>([none,some (.pointer (some ⟨w.heap.size,1,none⟩)),some (.slice none 0 0),some (.int .i64 0),some (.slice none 0 0),none,some (rwV (⟨xi,xs,xu,xf,xt,.slice aT nT cT,.slice aW nW cW,.slice aA nA cA⟩:Rw)),none,none,some (.pointer (some ⟨w.heap.size,1,none⟩)),some (.slice none 0 0),some (.int .i64 0),some (.slice none 0 0),none,some (.pointer (some ⟨w.heap.size,1,none⟩))]:List (Option Value)).getD i none) (fun i=>[0,5,8,13].getD i 900) (fun j=>[901,902,7,903].getD j 990) 3 (fun i=>[0,0+0,0+0+1,0+0+1+0].getD i 0) (fun j=>[0,0,1,0].getD j 0) (fun i=>[[],[]++[],[]++[]++[.int .u32 xi,.int .u32 xs,nmV xu,.int .i64 xf,.int .i64 xt,.slice aT nT cT,.slice aW nW cW,.slice aA nA cA],[]++[]++[.int .u32 xi,.int .u32 xs,nmV xu,.int .i64 xf,.int .i64 xt,.slice aT nT cT,.slice aW nW cW,.slice aA nA cA]++[]].getD i []) (fun j=>[[],[],[.int .u32 xi,.int .u32 xs,nmV xu,.int .i64 xf,.int .i64 xt,.slice aT nT cT,.slice aW nW cW,.slice aA nA cA],[]].getD j [])) (by kernel_rfl) (by decide) (by kernel_rfl) (chI_start (Below.refl _ _).drew) ?_ ?_
  ·intro i o hi ho
   match i,hi with
   | 0, _ =>
    have eo:=Option.some.inj ho
    have hg:o.guard=none:=by rw[←eo]
    refine cstep_evF hg ?_
    intro E L u w9 E1 E0 EC EF hl hw hI
    subst eo
    refine gives_ok (v := .slice (some ⟨w9.heap.size,0,none⟩) 0 0) (w':=w9.alloc (.cells #[] 50)) (by simp[execOp,go_sem]) ?_
    exact hI.nbase HOK hl (show World.ownsRow _ wq.heap.size 50 8 (.slice (some ⟨w9.heap.size,0,none⟩) 0 0) 0 [] from World.ownsRow_lit (e:=50) (size:=8) (base:=wq.heap.size) w9 #[] 0 hI.bel.size (by unfold maxLen;omega) rfl) ((Below.refl _ w9).alloc (Nat.le_refl _) _) (fun b hb=>by simp[Value.ownBlock] at hb;omega)
   | 1, _ =>
    have eo:=Option.some.inj ho
    have hg:o.guard=none:=by rw[←eo]
    refine cstep_evF hg ?_
    intro E L u w9 E1 E0 EC EF hl hw hI
    subst eo
    have a2:=(E0 2 (by kernel_rfl)).trans (show _=Value.pointer (some ⟨w.heap.size,0,none⟩) from rfl)
    refine gives_ok (v := .pointer (some ⟨w.heap.size,1,none⟩)) (w':=w9) (by simp[execOp,go_sem,a2]) ?_
    exact hI.ndet HOK rfl (Below.refl _ _)
   | 2, _ =>
    have eo:=Option.some.inj ho
    have hg:o.guard=none:=by rw[←eo]
    refine cstep_evF hg ?_
    intro E L u w9 E1 E0 EC EF hl hw hI
    subst eo
    have a47:=(E1 47 1 (by kernel_rfl) (by simp)).trans (hI.det 1 _ rfl (hw 1 (by decide) (by kernel_rfl)))
    have q0:=(hI.bel.cell (p:=⟨w.heap.size,_,none⟩) qz).trans q0;have q1:=(hI.bel.cell (p:=⟨w.heap.size,_,none⟩) qz).trans q1;have qz:=Nat.lt_of_lt_of_le qz hI.bel.size
    refine gives_ok (v := .slice none 0 0) (w':=w9) (by simp[execOp,go_sem,a47,q1]) ?_
    exact hI.ndet HOK rfl (Below.refl _ _)
   | 3, _ =>
    have eo:=Option.some.inj ho
    have hg:o.guard=none:=by rw[←eo]
    refine cstep_evF hg ?_
    intro E L u w9 E1 E0 EC EF hl hw hI
    subst eo
    have a5:=(E0 5 (by kernel_rfl)).trans (show _=Value.int .i64 0 from rfl)
    refine gives_ok (v := .int .i64 0) (w':=w9) (by simp[execOp,go_sem,a5]) ?_
    exact hI.ndet HOK rfl (Below.refl _ _)
   | 4, _ =>
    have eo:=Option.some.inj ho
    have hg:o.guard=none:=by rw[←eo]
    refine cstep_evF hg ?_
    intro E L u w9 E1 E0 EC EF hl hw hI
    subst eo
    have a48:=(E1 48 2 (by kernel_rfl) (by simp)).trans (hI.det 2 _ rfl (hw 2 (by decide) (by kernel_rfl)))
    have a49:=(E1 49 3 (by kernel_rfl) (by simp)).trans (hI.det 3 _ rfl (hw 3 (by decide) (by kernel_rfl)))
    refine gives_ok (v := .slice none 0 0) (w':=w9) (by simp[execOp,go_sem,a48,a49]) ?_
    exact hI.ndet HOK rfl (Below.refl _ _)
   | 5, _ =>
    have eo:=Option.some.inj ho
    have hg:o.guard=none:=by rw[←eo]
    refine cstep_evF hg ?_
    intro E L u w9 E1 E0 EC EF hl hw hI
    subst eo
    have a46:=E1 46 0 (by kernel_rfl) (by simp)
    have a50:=(E1 50 4 (by kernel_rfl) (by simp)).trans (hI.det 4 _ rfl (hw 4 (by decide) (by kernel_rfl)))
    have hpw:=hw 0 (by decide) (by kernel_rfl)
    refine gives_appD (.tmp 46) (.tmp 50) 31 rfl wq.heap.size 50 ix _ 8 112 Tryz.underlying31 IX.out IZ0.out IZ1.out IZ2.out rfl (by decide) _ _ (by rw[a46];exact hI.row 0 (by decide) hpw (fun _=>hl)) 0 [] (by rw[a50];exact srcV_nil _ _) (by first | (simp;done) | (simp;omega)) (by omega) hI.bel.size ?_
    intro v' w' ho hg hat
    rw[a46] at hg hat
    exact hI.napp (i:=0) HOK (by decide) hl hpw ho hg hat
   | 6, _ =>
    have eo:=Option.some.inj ho
    have hg:o.guard=none:=by rw[←eo]
    refine cstep_evF hg ?_
    intro E L u w9 E1 E0 EC EF hl hw hI
    subst eo
    have a3:=(E0 3 (by kernel_rfl)).trans (show _=Value.pointer (some ⟨w.heap.size+1,0,none⟩) from rfl)
    have s0:=(hI.bel.cell (p:=⟨w.heap.size+1,_,none⟩) sz).trans s0;have s1:=(hI.bel.cell (p:=⟨w.heap.size+1,_,none⟩) sz).trans s1;have s2:=(hI.bel.cell (p:=⟨w.heap.size+1,_,none⟩) sz).trans s2;have s3:=(hI.bel.cell (p:=⟨w.heap.size+1,_,none⟩) sz).trans s3;have s4:=(hI.bel.cell (p:=⟨w.heap.size+1,_,none⟩) sz).trans s4;have s5:=(hI.bel.cell (p:=⟨w.heap.size+1,_,none⟩) sz).trans s5;have s6:=(hI.bel.cell (p:=⟨w.heap.size+1,_,none⟩) sz).trans s6;have s7:=(hI.bel.cell (p:=⟨w.heap.size+1,_,none⟩) sz).trans s7;have sz:=Nat.lt_of_lt_of_le sz hI.bel.size
    refine gives_ok (v:=rwV (⟨xi,xs,xu,xf,xt,.slice aT nT cT,.slice aW nW cW,.slice aA nA cA⟩:Rw)) (w':=w9) (by simp[execOp,go_sem,a3,s0,s1,s2,s3,s4,s5,s6,s7]) ?_
    exact hI.ndet HOK rfl (Below.refl _ _)
   | 7, _ =>
    have eo:=Option.some.inj ho
    have hg:o.guard=none:=by rw[←eo]
    refine cstep_evF hg ?_
    intro E L u w9 E1 E0 EC EF hl hw hI
    subst eo
    have a52:=(E1 52 6 (by kernel_rfl) (by simp)).trans (hI.det 6 _ rfl (hw 6 (by decide) (by kernel_rfl)))
    refine gives_ok (v := .slice (some ⟨w9.heap.size,0,none⟩) 1 1) (w':=w9.alloc (.cells #[.int .u32 xi,.int .u32 xs,nmV xu,.int .i64 xf,.int .i64 xt,.slice aT nT cT,.slice aW nW cW,.slice aA nA cA] 50)) (by simp[execOp,go_sem,a52]) ?_
    exact hI.nsrc (j:=2) HOK HINJ2 (srcV_new (ys:=[.int .u32 xi,.int .u32 xs,nmV xu,.int .i64 xf,.int .i64 xt,.slice aT nT cT,.slice aW nW cW,.slice aA nA cA]) (Blk.made _ _ _) rfl (by intro u hu;simp at hu;rcases hu with rfl | rfl | rfl | rfl | rfl | rfl | rfl | rfl<;>rfl)) (fun kk hk=>by simp[Value.ownBlock] at hk;subst hk;simp) ((Below.refl _ w9).alloc (Nat.le_refl _) _)
   | 8, _ =>
    have eo:=Option.some.inj ho
    have hg:o.guard=none:=by rw[←eo]
    refine cstep_evF hg ?_
    intro E L u w9 E1 E0 EC EF hl hw hI
    subst eo
    have a51:=E1 51 5 (by kernel_rfl) (by simp)
    have a53:=E1 53 7 (by kernel_rfl) (by simp)
    have hpw:=hw 5 (by decide) (by kernel_rfl)
    have hxw:=hw 7 (by decide) (by kernel_rfl)
    refine gives_appD (.tmp 51) (.tmp 53) 31 rfl wq.heap.size 50 ix _ 8 112 Tryz.underlying31 IX.out IZ0.out IZ1.out IZ2.out rfl (by decide) _ _ (by rw[a51];exact hI.row 1 (by decide) hpw (fun _=>hl)) 1 [.int .u32 xi,.int .u32 xs,nmV xu,.int .i64 xf,.int .i64 xt,.slice aT nT cT,.slice aW nW cW,.slice aA nA cA] (by rw[a53];exact (hI.src 2 (by decide) hxw hl).1) (by first | (simp;done) | (simp;omega)) (by omega) hI.bel.size ?_
    intro v' w' ho hg hat
    rw[a51] at hg hat
    exact hI.napp (i:=1) HOK (by decide) hl hpw ho hg hat
   | 9, _ =>
    have eo:=Option.some.inj ho
    have hg:o.guard=none:=by rw[←eo]
    refine cstep_evF hg ?_
    intro E L u w9 E1 E0 EC EF hl hw hI
    subst eo
    have a2:=(E0 2 (by kernel_rfl)).trans (show _=Value.pointer (some ⟨w.heap.size,0,none⟩) from rfl)
    refine gives_ok (v := .pointer (some ⟨w.heap.size,1,none⟩)) (w':=w9) (by simp[execOp,go_sem,a2]) ?_
    exact hI.ndet HOK rfl (Below.refl _ _)
   | 10, _ =>
    have eo:=Option.some.inj ho
    have hg:o.guard=none:=by rw[←eo]
    refine cstep_evF hg ?_
    intro E L u w9 E1 E0 EC EF hl hw hI
    subst eo
    have a55:=(E1 55 9 (by kernel_rfl) (by simp)).trans (hI.det 9 _ rfl (hw 9 (by decide) (by kernel_rfl)))
    have q0:=(hI.bel.cell (p:=⟨w.heap.size,_,none⟩) qz).trans q0;have q1:=(hI.bel.cell (p:=⟨w.heap.size,_,none⟩) qz).trans q1;have qz:=Nat.lt_of_lt_of_le qz hI.bel.size
    refine gives_ok (v := .slice none 0 0) (w':=w9) (by simp[execOp,go_sem,a55,q1]) ?_
    exact hI.ndet HOK rfl (Below.refl _ _)
   | 11, _ =>
    have eo:=Option.some.inj ho
    have hg:o.guard=none:=by rw[←eo]
    refine cstep_evF hg ?_
    intro E L u w9 E1 E0 EC EF hl hw hI
    subst eo
    have a5:=(E0 5 (by kernel_rfl)).trans (show _=Value.int .i64 0 from rfl)
    refine gives_ok (v := .int .i64 0) (w':=w9) (by simp[execOp,go_sem,a5]) ?_
    exact hI.ndet HOK rfl (Below.refl _ _)
   | 12, _ =>
    have eo:=Option.some.inj ho
    have hg:o.guard=none:=by rw[←eo]
    refine cstep_evF hg ?_
    intro E L u w9 E1 E0 EC EF hl hw hI
    subst eo
    have a56:=(E1 56 10 (by kernel_rfl) (by simp)).trans (hI.det 10 _ rfl (hw 10 (by decide) (by kernel_rfl)))
    have a57:=(E1 57 11 (by kernel_rfl) (by simp)).trans (hI.det 11 _ rfl (hw 11 (by decide) (by kernel_rfl)))
    refine gives_ok (v := .slice none 0 0) (w':=w9) (by simp[execOp,go_sem,a56,a57]) ?_
    exact hI.ndet HOK rfl (Below.refl _ _)
   | 13, _ =>
    have eo:=Option.some.inj ho
    have hg:o.guard=none:=by rw[←eo]
    refine cstep_evF hg ?_
    intro E L u w9 E1 E0 EC EF hl hw hI
    subst eo
    have a54:=E1 54 8 (by kernel_rfl) (by simp)
    have a58:=(E1 58 12 (by kernel_rfl) (by simp)).trans (hI.det 12 _ rfl (hw 12 (by decide) (by kernel_rfl)))
    have hpw:=hw 8 (by decide) (by kernel_rfl)
    refine gives_appD (.tmp 54) (.tmp 58) 31 rfl wq.heap.size 50 ix _ 8 112 Tryz.underlying31 IX.out IZ0.out IZ1.out IZ2.out rfl (by decide) _ _ (by rw[a54];exact hI.row 2 (by decide) hpw (fun _=>hl)) 0 [] (by rw[a58];exact srcV_nil _ _) (by first | (simp;done) | (simp;omega)) (by omega) hI.bel.size ?_
    intro v' w' ho hg hat
    rw[a54] at hg hat
    exact hI.napp (i:=2) HOK (by decide) hl hpw ho hg hat
   | 14, _ =>
    have eo:=Option.some.inj ho
    have hg:o.guard=none:=by rw[←eo]
    refine cstep_evF hg ?_
    intro E L u w9 E1 E0 EC EF hl hw hI
    subst eo
    have a2:=(E0 2 (by kernel_rfl)).trans (show _=Value.pointer (some ⟨w.heap.size,0,none⟩) from rfl)
    refine gives_ok (v := .pointer (some ⟨w.heap.size,1,none⟩)) (w':=w9) (by simp[execOp,go_sem,a2]) ?_
    exact hI.ndet HOK rfl (Below.refl _ _)
   | i+15,h=>exact absurd h (by omega)
  ·intro L u w9 hall hI
   have e1:u 1 = .pointer (some ⟨w.heap.size,1,none⟩):=hI.det 1 _ rfl (hall 1 (by decide))
   have e2:u 2 = .slice none 0 0:=hI.det 2 _ rfl (hall 2 (by decide))
   have e3:u 3 = .int .i64 0:=hI.det 3 _ rfl (hall 3 (by decide))
   have e4:u 4 = .slice none 0 0:=hI.det 4 _ rfl (hall 4 (by decide))
   have e6:u 6=rwV (⟨xi,xs,xu,xf,xt,.slice aT nT cT,.slice aW nW cW,.slice aA nA cA⟩:Rw):=hI.det 6 _ rfl (hall 6 (by decide))
   have e9:u 9 = .pointer (some ⟨w.heap.size,1,none⟩):=hI.det 9 _ rfl (hall 9 (by decide))
   have e10:u 10 = .slice none 0 0:=hI.det 10 _ rfl (hall 10 (by decide))
   have e11:u 11 = .int .i64 0:=hI.det 11 _ rfl (hall 11 (by decide))
   have e12:u 12 = .slice none 0 0:=hI.det 12 _ rfl (hall 12 (by decide))
   have e14:u 14 = .pointer (some ⟨w.heap.size,1,none⟩):=hI.det 14 _ rfl (hall 14 (by decide))
   have hrow:=hI.row 3 (by decide) (hall 13 (by decide)) (fun h=>absurd h (by decide))
   rw[show u ((fun i=>[0,5,8,13].getD i 900) 3)=u 13 from rfl] at hrow
   obtain ⟨aZ,cZ,e13⟩:∃ aT cT,u 13 = .slice aT (0+0+1+0) cT:=own_sli hrow
   rw[e13] at hrow
   have hlen:0+0+1+0=([]++([(⟨xi,xs,xu,xf,xt,.slice aT nT cT,.slice aW nW cW,.slice aA nA cA⟩:Rw)]++[])).length:=by rfl
   rw[hlen] at e13 hrow
   have hbX:=hI.bel
   have HB9:=hidE (bstep hbX HB.out);have HB1:=hidE (HB1.out.past hbX);have HB3:=hidE (HB3.out.past hbX)
   simp only[frm,List.take,Act.put,e1,e2,e3,e4,e6,e9,e10,e11,e12,e14,e13]
   clear hI hall hlen e1 e2 e3 e4 e6 e9 e10 e11 e12 e14 e13 HOK HINJ2 hbX q0 q1 qz s0 s1 s2 s3 s4 s5 s6 s7 sz HB HB2 IX IZ0 IZ1 IZ2
   generalize u 0=z0 at *;generalize u 5=z5 at *;generalize u 7=z7 at *;generalize u 8=z8 at *
   obtain ⟨lx,hlx⟩:∃ lx,lx=([]++([(⟨xi,xs,xu,xf,xt,.slice aT nT cT,.slice aW nW cW,.slice aA nA cA⟩:Rw)]++[])):=⟨_,rfl⟩
   have HLX:=hidE hlx
   rw[←hlx] at hrow ⊢
   rw[show ([]++[]++[.int .u32 xi,.int .u32 xs,nmV xu,.int .i64 xf,.int .i64 xt,.slice aT nT cT,.slice aW nW cW,.slice aA nA cA]++[]:List Value)=cellsRw lx from by rw[hlx];rfl] at hrow
   have HRW:=hidE hrow
   have HFT:=hidE (show ∀ x∈lx,x.fit from fun y hy=>by
    rw[hlx] at hy
    rw[List.mem_singleton.1 hy];exact HXF.out)
   clear hlx hrow HXF
   have x0:=HB1.out.cell 0;have x1:=HB1.out.cell 1;have xz:=HB1.out.lt
   have y0:=HB3.out.cell 0;have y1:=HB3.out.cell 1;have yz:=HB3.out.lt
   simp at x0 x1 y0 y1
   have fx0:=HB1.out.free 0;have fx1:=HB1.out.free 1;have fy0:=HB3.out.free 0;have fy1:=HB3.out.free 1
   go_wp2
   refine bodyPost_ret (v := .agg #[.slice a0 m0 c0,.slice aZ lx.length cZ]) (by simp[results,Tryz.results91,go_sem,y0,y1]) rfl ⟨_,rfl, ?_, ?_⟩
   ·have hz:=HZZ.out
    refine cast (congrArg (RowIs _ _ _) ?_) ⟨own_base (own_kept HRW.out (fun kk hk=>by have:=own_block HRW.out hk;rw[keptS (by omega),keptS (by omega),keptS (by omega)])) (by omega),HFT.out⟩
    rw[HLX.out];simp
   ·have hz:=HZZ.out;have hb9:=HB9.out;(repeat (first | exact Below.refl _ _ | assumption | refine balloc ?_ _ | refine below_drewN ?_ _ | refine bstep (by assumption) ?_ | refine bstep (Past.prop _) ?_ | refine Below.setCell ?_ (by first | exact Nat.le_refl _ | (simp;done) | (simp;omega)) _))
set_option maxRecDepth 100000 in
set_option maxHeartbeats 16000000 in
theorem with11_some {b off cap:Nat} {l:List Rw} {L:List Rv} {r:Rv} {xi xs xf xt:Int} {xu:List UInt8} {aT aW aA:Option Addr} {nT cT nW cW nA cA:Nat} (vc:Value) (w:World) (hnc:l.length≤cap) (hbz:b<w.heap.size) (hc:CellsRw w b off l) (hf:∀ y∈l,y.fit) (hlen:L.length=l.length)
  (hid:∀ i,i<l.length→(l.getD i rw0).id=(L.getD i rv0).id) (hsq:∀ i,i<l.length→(l.getD i rw0).seq=(L.getD i rv0).seq) (hxi:xi=r.id) (hxs:xs=r.seq) (hlm:l.length≤1000000) (hfit:Rw.fit (⟨xi,xs,xu,xf,xt,.slice aT nT cT,.slice aW nW cW,.slice aA nA cA⟩:Rw)) (hvc:∃ a n c,vc = .slice a n c) :
  Calls Tryz.prog 91 #[.agg #[vc,.slice (some ⟨b,off,none⟩) l.length cap],rwV (⟨xi,xs,xu,xf,xt,.slice aT nT cT,.slice aW nW cW,.slice aA nA cA⟩:Rw)] w fun e w'=>∃ v',e = .returned (.agg #[vc,v'])∧RowIs w' w.heap.size v' (l.take (cntA L r)++([(⟨xi,xs,xu,xf,xt,.slice aT nT cT,.slice aW nW cW,.slice aA nA cA⟩:Rw)]++l.drop (cntA L r)))∧Below w.heap.size w w':=by
 obtain ⟨ix,hix,hz0,hz1,hz2⟩:=info_parts Tryz.infoRsv
 have IX:=hidE hix;have IZ0:=hidE hz0;have IZ1:=hidE hz1;have IZ2:=hidE hz2
 clear hix hz0 hz1 hz2
 obtain ⟨a0,m0,c0,rfl⟩:=hvc
 have HXF:=hidE hfit;have HF:=hidE hf;have HXI:=hidE hxi;have HXS:=hidE hxs
 obtain ⟨n,hn⟩:∃ n,n=l.length:=⟨_,rfl⟩
 have HN:=hidE hn
 have HLN:=hidE hlen;have HID:=hidE hid;have HSQ:=hidE hsq
 rw[←hn] at hlm hnc ⊢
 clear hfit hf hxi hxs hlen hid hsq hn
 obtain ⟨w0,hw0⟩:∃ w0,w0=((w.alloc (Obj.cells #[.slice a0 m0 c0,.slice (some ⟨b,off,none⟩) n cap] 33)).alloc (Obj.cells #[.int .u32 xi,.int .u32 xs,nmV xu,.int .i64 xf,.int .i64 xt,.slice aT nT cT,.slice aW nW cW,.slice aA nA cA] 50)).alloc (Obj.cells #[.slice none 0 0,.slice none 0 0] 33):=⟨_,rfl⟩
 have hb0:Below w.heap.size w w0:=by rw[hw0];(repeat (first | exact Below.refl _ _ | assumption | refine balloc ?_ _ | refine below_drewN ?_ _ | refine bstep (by assumption) ?_ | refine bstep (Past.prop _) ?_ | refine Below.setCell ?_ (by first | exact Nat.le_refl _ | (simp;done) | (simp;omega)) _))
 have HB0:=hidE hb0
 have HZ0:=hidE (show w0.heap.size=w.heap.size+3 by rw[hw0];simp)
 have HB1:=hidE (show Blk w0 w.heap.size #[.slice a0 m0 c0,.slice (some ⟨b,off,none⟩) n cap] 33 by rw[hw0];exact ((Blk.made _ _ _).alloc _).alloc _)
 have HB2:=hidE (show Blk w0 (w.heap.size+1) #[.int .u32 xi,.int .u32 xs,nmV xu,.int .i64 xf,.int .i64 xt,.slice aT nT cT,.slice aW nW cW,.slice aA nA cA] 50 by
  rw[hw0]
  refine Blk.alloc ?_ _
  have:=Blk.made (w.alloc (Obj.cells #[.slice a0 m0 c0,.slice (some ⟨b,off,none⟩) n cap] 33)) #[.int .u32 xi,.int .u32 xs,nmV xu,.int .i64 xf,.int .i64 xt,.slice aT nT cT,.slice aW nW cW,.slice aA nA cA] 50
  simpa using this)
 have HB3:=hidE (show Blk w0 (w.heap.size+2) #[.slice none 0 0,.slice none 0 0] 33 by
  rw[hw0]
  have:=Blk.made ((w.alloc (Obj.cells #[.slice a0 m0 c0,.slice (some ⟨b,off,none⟩) n cap] 33)).alloc (Obj.cells #[.int .u32 xi,.int .u32 xs,nmV xu,.int .i64 xf,.int .i64 xt,.slice aT nT cT,.slice aW nW cW,.slice aA nA cA] 50)) #[.slice none 0 0,.slice none 0 0] 33
  simpa using this)
 have hbz0:b<w0.heap.size:=Nat.lt_of_lt_of_le hbz hb0.size
 have HC:=hidE (hc.below hb0 hbz)
 clear hb0 hbz hc
 go_enter Tryz.func91,Tryz.ntmps91
 go_upto_region 1 with fail
 rw[←hw0]
 clear hw0
 have q0:=HB1.out.cell 0;have q1:=HB1.out.cell 1;have qz:=HB1.out.lt
 have s0:=HB2.out.cell 0;have s1:=HB2.out.cell 1;have s2:=HB2.out.cell 2;have s3:=HB2.out.cell 3;have s4:=HB2.out.cell 4;have s5:=HB2.out.cell 5;have s6:=HB2.out.cell 6;have s7:=HB2.out.cell 7;have sz:=HB2.out.lt
 simp at q0 q1 s0 s1 s2 s3 s4 s5 s6 s7
 go_wp2
 have HN0:=hidE hnc;have HL:=hidE hlm
 clear hnc hlm
 go_loopg [5] n (fun g v5 wr=>∃ k:Nat,v5 = .int .i64 k∧k≤n∧n - k≤g∧(∀ i,i<k→ltV (L.getD i rv0) r=true)∧Blk wr w.heap.size #[.slice a0 m0 c0,.slice (some ⟨b,off,none⟩) n cap] 33∧Blk wr (w.heap.size+1) #[.int .u32 xi,.int .u32 xs,nmV xu,.int .i64 xf,.int .i64 xt,.slice aT nT cT,.slice aW nW cW,.slice aA nA cA] 50∧Blk wr (w.heap.size+2) #[.slice none 0 0,.slice none 0 0] 33∧Below w.heap.size w wr∧b<wr.heap.size∧CellsRw wr b off l)
 case atStart=>exact ⟨0,rfl,Nat.zero_le _,Nat.le_refl _,fun i hi=>by omega,HB1.out,HB2.out,HB3.out,HB0.out,hbz0,HC.out⟩
 case round =>
  clear q0 q1 qz s0 s1 s2 s3 s4 s5 s6 s7 sz HB1 HB2 HB3 HB0 hbz0 HC
  obtain ⟨k,rfl,hk,hg,hp,h1,h2,h3,hb,hbz,hc⟩:=hrel
  have HB1:=hidE h1;have HB2:=hidE h2;have HB3:=hidE h3;have HB:=hidE hb;have HP:=hidE hp;have HG:=hidE hg;have HC:=hidE hc
  have hkm:k≤1000000:=by have:=HL.out;omega
  clear h1 h2 h3 hb hp hg
  have q0:=HB1.out.cell 0;have q1:=HB1.out.cell 1;have qz:=HB1.out.lt
  have s0:=HB2.out.cell 0;have s1:=HB2.out.cell 1;have s2:=HB2.out.cell 2;have s3:=HB2.out.cell 3;have s4:=HB2.out.cell 4;have s5:=HB2.out.cell 5;have s6:=HB2.out.cell 6;have s7:=HB2.out.cell 7;have sz:=HB2.out.lt
  simp at q0 q1 s0 s1 s2 s3 s4 s5 s6 s7
  have HEND:=hidE (fun (he:k=n∨ltV (L.getD k rv0) r=false)=>show cntA L r=k from cntA_at (by have:=HN.out;have:=HLN.out;omega) HP.out (by rcases he with he | he;(exact .inl (by have:=HN.out;have:=HLN.out;omega));exact .inr he))
  by_cases hlt:k<n
  ·have hkl:k<l.length:=by have:=HN.out;omega
   have cc:=hc.get hkl
   have c0':=cc.1;have c1':=cc.2.1
   clear cc hc
   have ei:=HID.out k hkl;have es:=HSQ.out k hkl
   rw[ei] at c0';rw[es] at c1'
   clear ei es hkl
   have HNX:=hidE (fun (h:ltV (L.getD k rv0) r=true)=>show ∀ i,i<k+1→ltV (L.getD i rv0) r=true from fun i hi=>by
    by_cases c:i<k
    ·exact HP.out i c
    ·have e:i=k:=by omega
     rw[e];exact h)
   have HK1:=hidE (show k+1≤n from hlt)
   generalize L.getD k rv0=y at *
   have dlt:decide ((k:Int)<(n:Int))=true:=decide_eq_true (by omega)
   have hk0:(0:Int)≤(k:Int):=by omega
   have hkI:(k:Int)<(n:Int):=by omega
   have hnc:=HN0.out
   cases hlv:ltV y r
   ·have HNO:=hidE (HEND.out (.inr hlv))
    have d1:decide (y.seq<xs)=false:=decide_eq_false (by rw[HXS.out];intro h;rw[show ltV y r=true from ltV_iff.2 (.inl h)] at hlv;cases hlv)
    by_cases hq:y.seq=xs
    ·have d2:(y.seq == xs)=true:=beq_iff_eq.2 hq
     have d3:decide (y.id<xi)=false:=decide_eq_false (by rw[HXI.out];intro h;rw[show ltV y r=true from ltV_iff.2 (.inr ⟨by rw[←HXS.out];exact hq,h⟩)] at hlv;cases hlv)
     clear hq hlv HEND HNX
     go_upto_region 2 with fail
     go_quiet (fail)
     have hq:Below wr.heap.size wr (wr.drewN nq):=below_drewN (Below.refl _ _) _
     have HB1:=hidE (HB1.out.past hq);have HB2:=hidE (HB2.out.past hq);have HB3:=hidE (HB3.out.past hq);have HB:=hidE (bstep hq HB.out)
     have HC:=hidE (HC.out.below hq hbz)
     have hbz:=Nat.lt_of_lt_of_le hbz hq.size
     clear q0 q1 qz s0 s1 s2 s3 s4 s5 s6 s7 sz hq
     generalize wr.drewN nq=wq at *
     have q0:=HB1.out.cell 0;have q1:=HB1.out.cell 1;have qz:=HB1.out.lt
     have s0:=HB2.out.cell 0;have s1:=HB2.out.cell 1;have s2:=HB2.out.cell 2;have s3:=HB2.out.cell 3;have s4:=HB2.out.cell 4;have s5:=HB2.out.cell 5;have s6:=HB2.out.cell 6;have s7:=HB2.out.cell 7;have sz:=HB2.out.lt
     simp at q0 q1 s0 s1 s2 s3 s4 s5 s6 s7
     have HZZ:=hidE (show w.heap.size+3≤wq.heap.size from by have:=HB3.out.lt;omega)
     obtain ⟨ad3,had3,h3⟩:=src_from (cap:=cap) HN.out (show k≤n from hk) hbz HC.out HF.out
     have SRC3:=hidE h3
     have SRC1:=hidE (show ∀ w9,Below wq.heap.size wq w9→SrcV w9 8 (.slice (some ⟨b,off,none⟩) k cap) k (cellsRw (l.take k)) from fun w9 hb9=>srcRw (by rw[List.length_take];have:=HN.out;omega) ((HC.out.below hb9 hbz).take k) (fit_take HF.out k))
     have HCN:=hidE HNO.out
     have hnc:=HN0.out
     have hkn:k≤n:=hk
     have hkc:k≤cap:=by omega
     have hk0:(0:Int)≤(k:Int):=by omega
     have hkI:(k:Int)≤(n:Int):=by omega
     have hlm:=HL.out
     clear h3
     go_upto_region 4 with fail
     have HOK:ChOk (fun i=>([none,some (.pointer (some ⟨w.heap.size,1,none⟩)),some (.slice (some ⟨b,off,none⟩) n cap),some (.int .i64 (k:Int)),some (.slice (some ⟨b,off,none⟩) k cap),none,some (rwV (⟨xi,xs,xu,xf,xt,.slice aT nT cT,.slice aW nW cW,.slice aA nA cA⟩:Rw)),none,none,some (.pointer (some ⟨w.heap.size,1,none⟩)),some (.slice (some ⟨b,off,none⟩) n cap),some (.int .i64 (k:Int)),some (.slice (some ad3) (n - k) (cap - k)),none,some (.pointer (some ⟨w.heap.size,1,none⟩))]:List (Option Value)).getD i none) (fun i=>[0,5,8,13].getD i 900) (fun j=>[901,902,7,903].getD j 990) 3:=by
      refine ⟨fun i hi => ?_,fun j => ?_,fun i k hi hk e => ?_,fun i j hi e => ?_⟩
      ·match i,hi with
       | 0,_=>rfl
       | 1,_=>rfl
       | 2,_=>rfl
       | 3,_=>rfl
      ·match j with
       | 0=>rfl
       | 1=>rfl
       | 2=>rfl
       | 3=>rfl
       | j+4=>rfl
      ·match i,k,hi,hk with
       | 0,0,_,_=>first | rfl | (simp at e)
       | 0,1,_,_=>first | rfl | (simp at e)
       | 0,2,_,_=>first | rfl | (simp at e)
       | 0,3,_,_=>first | rfl | (simp at e)
       | 1,0,_,_=>first | rfl | (simp at e)
       | 1,1,_,_=>first | rfl | (simp at e)
       | 1,2,_,_=>first | rfl | (simp at e)
       | 1,3,_,_=>first | rfl | (simp at e)
       | 2,0,_,_=>first | rfl | (simp at e)
       | 2,1,_,_=>first | rfl | (simp at e)
       | 2,2,_,_=>first | rfl | (simp at e)
       | 2,3,_,_=>first | rfl | (simp at e)
       | 3,0,_,_=>first | rfl | (simp at e)
       | 3,1,_,_=>first | rfl | (simp at e)
       | 3,2,_,_=>first | rfl | (simp at e)
       | 3,3,_,_=>first | rfl | (simp at e)
      ·match i,j,hi with
       | 0,0,_=>simp at e
       | 0,1,_=>simp at e
       | 0,2,_=>simp at e
       | 0,3,_=>simp at e
       | 0,j+4,_=>simp at e
       | 1,0,_=>simp at e
       | 1,1,_=>simp at e
       | 1,2,_=>simp at e
       | 1,3,_=>simp at e
       | 1,j+4,_=>simp at e
       | 2,0,_=>simp at e
       | 2,1,_=>simp at e
       | 2,2,_=>simp at e
       | 2,3,_=>simp at e
       | 2,j+4,_=>simp at e
       | 3,0,_=>simp at e
       | 3,1,_=>simp at e
       | 3,2,_=>simp at e
       | 3,3,_=>simp at e
       | 3,j+4,_=>simp at e
     have HINJ2:∀ q,q≤3→(fun j=>[901,902,7,903].getD j 990) q=(fun j=>[901,902,7,903].getD j 990) 2→q=2:=fun q hq e=>by
      match q,hq with
      | 0,_=>first | rfl | (simp at e)
      | 1,_=>first | rfl | (simp at e)
      | 2,_=>first | rfl | (simp at e)
      | 3,_=>first | rfl | (simp at e)
     refine wp_region_C 15 (ChI 50 8 wq (fun i=>([none,some (.pointer (some ⟨w.heap.size,1,none⟩)),some (.slice (some ⟨b,off,none⟩) n cap),some (.int .i64 (k:Int)),some (.slice (some ⟨b,off,none⟩) k cap),none,some (rwV (⟨xi,xs,xu,xf,xt,.slice aT nT cT,.slice aW nW cW,.slice aA nA cA⟩:Rw)),none,none,some (.pointer (some ⟨w.heap.size,1,none⟩)),some (.slice (some ⟨b,off,none⟩) n cap),some (.int .i64 (k:Int)),some (.slice (some ad3) (n - k) (cap - k)),none,some (.pointer (some ⟨w.heap.size,1,none⟩))]:List (Option Value)).getD i none) (fun i=>[0,5,8,13].getD i 900) (fun j=>[901,902,7,903].getD j 990) 3 (fun i=>[0,0+k,0+k+1,0+k+1+(n - k)].getD i 0) (fun j=>[0,k,1,(n - k)].getD j 0) (fun i=>[[],[]++(cellsRw (l.take k)),[]++(cellsRw (l.take k))++[.int .u32 xi,.int .u32 xs,nmV xu,.int .i64 xf,.int .i64 xt,.slice aT nT cT,.slice aW nW cW,.slice aA nA cA],[]++(cellsRw (l.take k))++[.int .u32 xi,.int .u32 xs,nmV xu,.int .i64 xf,.int .i64 xt,.slice aT nT cT,.slice aW nW cW,.slice aA nA cA]++(cellsRw (l.drop k))].getD i []) (fun j=>[[],(cellsRw (l.take k)),[.int .u32 xi,.int .u32 xs,nmV xu,.int .i64 xf,.int .i64 xt,.slice aT nT cT,.slice aW nW cW,.slice aA nA cA],(cellsRw (l.drop k))].getD j [])) (by kernel_rfl) (by decide) (by kernel_rfl) (chI_start (Below.refl _ _).drew) ?_ ?_
     ·intro i o hi ho
      match i,hi with
      | 0, _ =>
       have eo:=Option.some.inj ho
       have hg:o.guard=none:=by rw[←eo]
       refine cstep_evF hg ?_
       intro E L u w9 E1 E0 EC EF hl hw hI
       subst eo
       refine gives_ok (v := .slice (some ⟨w9.heap.size,0,none⟩) 0 0) (w':=w9.alloc (.cells #[] 50)) (by simp[execOp,go_sem]) ?_
       exact hI.nbase HOK hl (show World.ownsRow _ wq.heap.size 50 8 (.slice (some ⟨w9.heap.size,0,none⟩) 0 0) 0 [] from World.ownsRow_lit (e:=50) (size:=8) (base:=wq.heap.size) w9 #[] 0 hI.bel.size (by unfold maxLen;omega) rfl) ((Below.refl _ w9).alloc (Nat.le_refl _) _) (fun b hb=>by simp[Value.ownBlock] at hb;omega)
      | 1, _ =>
       have eo:=Option.some.inj ho
       have hg:o.guard=none:=by rw[←eo]
       refine cstep_evF hg ?_
       intro E L u w9 E1 E0 EC EF hl hw hI
       subst eo
       have a2:=(E0 2 (by kernel_rfl)).trans (show _=Value.pointer (some ⟨w.heap.size,0,none⟩) from rfl)
       refine gives_ok (v := .pointer (some ⟨w.heap.size,1,none⟩)) (w':=w9) (by simp[execOp,go_sem,a2]) ?_
       exact hI.ndet HOK rfl (Below.refl _ _)
      | 2, _ =>
       have eo:=Option.some.inj ho
       have hg:o.guard=none:=by rw[←eo]
       refine cstep_evF hg ?_
       intro E L u w9 E1 E0 EC EF hl hw hI
       subst eo
       have a47:=(E1 47 1 (by kernel_rfl) (by simp)).trans (hI.det 1 _ rfl (hw 1 (by decide) (by kernel_rfl)))
       have q0:=(hI.bel.cell (p:=⟨w.heap.size,_,none⟩) qz).trans q0;have q1:=(hI.bel.cell (p:=⟨w.heap.size,_,none⟩) qz).trans q1;have qz:=Nat.lt_of_lt_of_le qz hI.bel.size
       refine gives_ok (v := .slice (some ⟨b,off,none⟩) n cap) (w':=w9) (by simp[execOp,go_sem,a47,q1]) ?_
       exact hI.ndet HOK rfl (Below.refl _ _)
      | 3, _ =>
       have eo:=Option.some.inj ho
       have hg:o.guard=none:=by rw[←eo]
       refine cstep_evF hg ?_
       intro E L u w9 E1 E0 EC EF hl hw hI
       subst eo
       have a5:=(E0 5 (by kernel_rfl)).trans (show _=Value.int .i64 (k:Int) from rfl)
       refine gives_ok (v := .int .i64 (k:Int)) (w':=w9) (by simp[execOp,go_sem,a5]) ?_
       exact hI.ndet HOK rfl (Below.refl _ _)
      | 4, _ =>
       have eo:=Option.some.inj ho
       have hg:o.guard=none:=by rw[←eo]
       refine cstep_evF hg ?_
       intro E L u w9 E1 E0 EC EF hl hw hI
       subst eo
       have a48:=(E1 48 2 (by kernel_rfl) (by simp)).trans (hI.det 2 _ rfl (hw 2 (by decide) (by kernel_rfl)))
       have a49:=(E1 49 3 (by kernel_rfl) (by simp)).trans (hI.det 3 _ rfl (hw 3 (by decide) (by kernel_rfl)))
       refine gives_ok (v := .slice (some ⟨b,off,none⟩) k cap) (w':=w9) (by simp[execOp,go_sem,a48,a49,hkc,hk0]) ?_
       exact hI.ndet HOK rfl (Below.refl _ _)
      | 5, _ =>
       have eo:=Option.some.inj ho
       have hg:o.guard=none:=by rw[←eo]
       refine cstep_evF hg ?_
       intro E L u w9 E1 E0 EC EF hl hw hI
       subst eo
       have a46:=E1 46 0 (by kernel_rfl) (by simp)
       have a50:=(E1 50 4 (by kernel_rfl) (by simp)).trans (hI.det 4 _ rfl (hw 4 (by decide) (by kernel_rfl)))
       have hpw:=hw 0 (by decide) (by kernel_rfl)
       refine gives_appD (.tmp 46) (.tmp 50) 31 rfl wq.heap.size 50 ix _ 8 112 Tryz.underlying31 IX.out IZ0.out IZ1.out IZ2.out rfl (by decide) _ _ (by rw[a46];exact hI.row 0 (by decide) hpw (fun _=>hl)) k (cellsRw (l.take k)) (by rw[a50];exact SRC1.out w9 hI.bel) (by first | (simp;done) | (simp;omega)) (by omega) hI.bel.size ?_
       intro v' w' ho hg hat
       rw[a46] at hg hat
       exact hI.napp (i:=0) HOK (by decide) hl hpw ho hg hat
      | 6, _ =>
       have eo:=Option.some.inj ho
       have hg:o.guard=none:=by rw[←eo]
       refine cstep_evF hg ?_
       intro E L u w9 E1 E0 EC EF hl hw hI
       subst eo
       have a3:=(E0 3 (by kernel_rfl)).trans (show _=Value.pointer (some ⟨w.heap.size+1,0,none⟩) from rfl)
       have s0:=(hI.bel.cell (p:=⟨w.heap.size+1,_,none⟩) sz).trans s0;have s1:=(hI.bel.cell (p:=⟨w.heap.size+1,_,none⟩) sz).trans s1;have s2:=(hI.bel.cell (p:=⟨w.heap.size+1,_,none⟩) sz).trans s2;have s3:=(hI.bel.cell (p:=⟨w.heap.size+1,_,none⟩) sz).trans s3;have s4:=(hI.bel.cell (p:=⟨w.heap.size+1,_,none⟩) sz).trans s4;have s5:=(hI.bel.cell (p:=⟨w.heap.size+1,_,none⟩) sz).trans s5;have s6:=(hI.bel.cell (p:=⟨w.heap.size+1,_,none⟩) sz).trans s6;have s7:=(hI.bel.cell (p:=⟨w.heap.size+1,_,none⟩) sz).trans s7;have sz:=Nat.lt_of_lt_of_le sz hI.bel.size
       refine gives_ok (v:=rwV (⟨xi,xs,xu,xf,xt,.slice aT nT cT,.slice aW nW cW,.slice aA nA cA⟩:Rw)) (w':=w9) (by simp[execOp,go_sem,a3,s0,s1,s2,s3,s4,s5,s6,s7]) ?_
       exact hI.ndet HOK rfl (Below.refl _ _)
      | 7, _ =>
       have eo:=Option.some.inj ho
       have hg:o.guard=none:=by rw[←eo]
       refine cstep_evF hg ?_
       intro E L u w9 E1 E0 EC EF hl hw hI
       subst eo
       have a52:=(E1 52 6 (by kernel_rfl) (by simp)).trans (hI.det 6 _ rfl (hw 6 (by decide) (by kernel_rfl)))
       refine gives_ok (v := .slice (some ⟨w9.heap.size,0,none⟩) 1 1) (w':=w9.alloc (.cells #[.int .u32 xi,.int .u32 xs,nmV xu,.int .i64 xf,.int .i64 xt,.slice aT nT cT,.slice aW nW cW,.slice aA nA cA] 50)) (by simp[execOp,go_sem,a52]) ?_
       exact hI.nsrc (j:=2) HOK HINJ2 (srcV_new (ys:=[.int .u32 xi,.int .u32 xs,nmV xu,.int .i64 xf,.int .i64 xt,.slice aT nT cT,.slice aW nW cW,.slice aA nA cA]) (Blk.made _ _ _) rfl (by intro u hu;simp at hu;rcases hu with rfl | rfl | rfl | rfl | rfl | rfl | rfl | rfl<;>rfl)) (fun kk hk=>by simp[Value.ownBlock] at hk;subst hk;simp) ((Below.refl _ w9).alloc (Nat.le_refl _) _)
      | 8, _ =>
       have eo:=Option.some.inj ho
       have hg:o.guard=none:=by rw[←eo]
       refine cstep_evF hg ?_
       intro E L u w9 E1 E0 EC EF hl hw hI
       subst eo
       have a51:=E1 51 5 (by kernel_rfl) (by simp)
       have a53:=E1 53 7 (by kernel_rfl) (by simp)
       have hpw:=hw 5 (by decide) (by kernel_rfl)
       have hxw:=hw 7 (by decide) (by kernel_rfl)
       refine gives_appD (.tmp 51) (.tmp 53) 31 rfl wq.heap.size 50 ix _ 8 112 Tryz.underlying31 IX.out IZ0.out IZ1.out IZ2.out rfl (by decide) _ _ (by rw[a51];exact hI.row 1 (by decide) hpw (fun _=>hl)) 1 [.int .u32 xi,.int .u32 xs,nmV xu,.int .i64 xf,.int .i64 xt,.slice aT nT cT,.slice aW nW cW,.slice aA nA cA] (by rw[a53];exact (hI.src 2 (by decide) hxw hl).1) (by first | (simp;done) | (simp;omega)) (by omega) hI.bel.size ?_
       intro v' w' ho hg hat
       rw[a51] at hg hat
       exact hI.napp (i:=1) HOK (by decide) hl hpw ho hg hat
      | 9, _ =>
       have eo:=Option.some.inj ho
       have hg:o.guard=none:=by rw[←eo]
       refine cstep_evF hg ?_
       intro E L u w9 E1 E0 EC EF hl hw hI
       subst eo
       have a2:=(E0 2 (by kernel_rfl)).trans (show _=Value.pointer (some ⟨w.heap.size,0,none⟩) from rfl)
       refine gives_ok (v := .pointer (some ⟨w.heap.size,1,none⟩)) (w':=w9) (by simp[execOp,go_sem,a2]) ?_
       exact hI.ndet HOK rfl (Below.refl _ _)
      | 10, _ =>
       have eo:=Option.some.inj ho
       have hg:o.guard=none:=by rw[←eo]
       refine cstep_evF hg ?_
       intro E L u w9 E1 E0 EC EF hl hw hI
       subst eo
       have a55:=(E1 55 9 (by kernel_rfl) (by simp)).trans (hI.det 9 _ rfl (hw 9 (by decide) (by kernel_rfl)))
       have q0:=(hI.bel.cell (p:=⟨w.heap.size,_,none⟩) qz).trans q0;have q1:=(hI.bel.cell (p:=⟨w.heap.size,_,none⟩) qz).trans q1;have qz:=Nat.lt_of_lt_of_le qz hI.bel.size
       refine gives_ok (v := .slice (some ⟨b,off,none⟩) n cap) (w':=w9) (by simp[execOp,go_sem,a55,q1]) ?_
       exact hI.ndet HOK rfl (Below.refl _ _)
      | 11, _ =>
       have eo:=Option.some.inj ho
       have hg:o.guard=none:=by rw[←eo]
       refine cstep_evF hg ?_
       intro E L u w9 E1 E0 EC EF hl hw hI
       subst eo
       have a5:=(E0 5 (by kernel_rfl)).trans (show _=Value.int .i64 (k:Int) from rfl)
       refine gives_ok (v := .int .i64 (k:Int)) (w':=w9) (by simp[execOp,go_sem,a5]) ?_
       exact hI.ndet HOK rfl (Below.refl _ _)
      | 12, _ =>
       have eo:=Option.some.inj ho
       have hg:o.guard=none:=by rw[←eo]
       refine cstep_evF hg ?_
       intro E L u w9 E1 E0 EC EF hl hw hI
       subst eo
       have a56:=(E1 56 10 (by kernel_rfl) (by simp)).trans (hI.det 10 _ rfl (hw 10 (by decide) (by kernel_rfl)))
       have a57:=(E1 57 11 (by kernel_rfl) (by simp)).trans (hI.det 11 _ rfl (hw 11 (by decide) (by kernel_rfl)))
       refine gives_ok (v := .slice (some ad3) (n - k) (cap - k)) (w':=w9) (by simp[execOp,go_sem,a56,a57,hk0,hkI,had3]) ?_
       exact hI.ndet HOK rfl (Below.refl _ _)
      | 13, _ =>
       have eo:=Option.some.inj ho
       have hg:o.guard=none:=by rw[←eo]
       refine cstep_evF hg ?_
       intro E L u w9 E1 E0 EC EF hl hw hI
       subst eo
       have a54:=E1 54 8 (by kernel_rfl) (by simp)
       have a58:=(E1 58 12 (by kernel_rfl) (by simp)).trans (hI.det 12 _ rfl (hw 12 (by decide) (by kernel_rfl)))
       have hpw:=hw 8 (by decide) (by kernel_rfl)
       refine gives_appD (.tmp 54) (.tmp 58) 31 rfl wq.heap.size 50 ix _ 8 112 Tryz.underlying31 IX.out IZ0.out IZ1.out IZ2.out rfl (by decide) _ _ (by rw[a54];exact hI.row 2 (by decide) hpw (fun _=>hl)) (n - k) (cellsRw (l.drop k)) (by rw[a58];exact SRC3.out w9 hI.bel hnc) (by first | (simp;done) | (simp;omega)) (by omega) hI.bel.size ?_
       intro v' w' ho hg hat
       rw[a54] at hg hat
       exact hI.napp (i:=2) HOK (by decide) hl hpw ho hg hat
      | 14, _ =>
       have eo:=Option.some.inj ho
       have hg:o.guard=none:=by rw[←eo]
       refine cstep_evF hg ?_
       intro E L u w9 E1 E0 EC EF hl hw hI
       subst eo
       have a2:=(E0 2 (by kernel_rfl)).trans (show _=Value.pointer (some ⟨w.heap.size,0,none⟩) from rfl)
       refine gives_ok (v := .pointer (some ⟨w.heap.size,1,none⟩)) (w':=w9) (by simp[execOp,go_sem,a2]) ?_
       exact hI.ndet HOK rfl (Below.refl _ _)
      | i+15,h=>exact absurd h (by omega)
     ·intro L u w9 hall hI
      have e1:u 1 = .pointer (some ⟨w.heap.size,1,none⟩):=hI.det 1 _ rfl (hall 1 (by decide))
      have e2:u 2 = .slice (some ⟨b,off,none⟩) n cap:=hI.det 2 _ rfl (hall 2 (by decide))
      have e3:u 3 = .int .i64 (k:Int):=hI.det 3 _ rfl (hall 3 (by decide))
      have e4:u 4 = .slice (some ⟨b,off,none⟩) k cap:=hI.det 4 _ rfl (hall 4 (by decide))
      have e6:u 6=rwV (⟨xi,xs,xu,xf,xt,.slice aT nT cT,.slice aW nW cW,.slice aA nA cA⟩:Rw):=hI.det 6 _ rfl (hall 6 (by decide))
      have e9:u 9 = .pointer (some ⟨w.heap.size,1,none⟩):=hI.det 9 _ rfl (hall 9 (by decide))
      have e10:u 10 = .slice (some ⟨b,off,none⟩) n cap:=hI.det 10 _ rfl (hall 10 (by decide))
      have e11:u 11 = .int .i64 (k:Int):=hI.det 11 _ rfl (hall 11 (by decide))
      have e12:u 12 = .slice (some ad3) (n - k) (cap - k):=hI.det 12 _ rfl (hall 12 (by decide))
      have e14:u 14 = .pointer (some ⟨w.heap.size,1,none⟩):=hI.det 14 _ rfl (hall 14 (by decide))
      have hrow:=hI.row 3 (by decide) (hall 13 (by decide)) (fun h=>absurd h (by decide))
      rw[show u ((fun i=>[0,5,8,13].getD i 900) 3)=u 13 from rfl] at hrow
      obtain ⟨aZ,cZ,e13⟩:∃ aT cT,u 13 = .slice aT (0+k+1+(n - k)) cT:=own_sli hrow
      rw[e13] at hrow
      have hlen:0+k+1+(n - k)=(l.take k++([(⟨xi,xs,xu,xf,xt,.slice aT nT cT,.slice aW nW cW,.slice aA nA cA⟩:Rw)]++l.drop k)).length:=by simp only[List.length_append,List.length_take,List.length_drop,List.length_singleton];have:=HN.out;omega
      rw[hlen] at e13 hrow
      have hbX:=hI.bel
      have HB9:=hidE (bstep hbX HB.out);have HB1:=hidE (HB1.out.past hbX);have HB3:=hidE (HB3.out.past hbX)
      simp only[frm,List.take,Act.put,e1,e2,e3,e4,e6,e9,e10,e11,e12,e14,e13]
      clear hI hall hlen e1 e2 e3 e4 e6 e9 e10 e11 e12 e14 e13 HOK HINJ2 hbX q0 q1 qz s0 s1 s2 s3 s4 s5 s6 s7 sz HB HB2 SRC1 SRC3 had3 hkn hnc hkc hk0 hkI IX IZ0 IZ1 IZ2
      generalize u 0=z0 at *;generalize u 5=z5 at *;generalize u 7=z7 at *;generalize u 8=z8 at *
      obtain ⟨lx,hlx⟩:∃ lx,lx=(l.take k++([(⟨xi,xs,xu,xf,xt,.slice aT nT cT,.slice aW nW cW,.slice aA nA cA⟩:Rw)]++l.drop k)):=⟨_,rfl⟩
      have HLX:=hidE hlx
      rw[←hlx] at hrow ⊢
      rw[show ([]++(cellsRw (l.take k))++[.int .u32 xi,.int .u32 xs,nmV xu,.int .i64 xf,.int .i64 xt,.slice aT nT cT,.slice aW nW cW,.slice aA nA cA]++(cellsRw (l.drop k)):List Value)=cellsRw lx from by rw[hlx];rw[cellsRw_app,cellsRw_app];simp[cellsRw]] at hrow
      have HRW:=hidE hrow
      have HFT:=hidE (show ∀ x∈lx,x.fit from fun y hy=>by
       rw[hlx] at hy
       rcases List.mem_append.1 hy with h | h
       ·exact HF.out y (List.mem_of_mem_take h)
       ·rcases List.mem_append.1 h with h | h
        ·rw[List.mem_singleton.1 h];exact HXF.out
        ·exact HF.out y (List.mem_of_mem_drop h))
      clear hlx hrow HXF HF
      have x0:=HB1.out.cell 0;have x1:=HB1.out.cell 1;have xz:=HB1.out.lt
      have y0:=HB3.out.cell 0;have y1:=HB3.out.cell 1;have yz:=HB3.out.lt
      simp at x0 x1 y0 y1
      have fx0:=HB1.out.free 0;have fx1:=HB1.out.free 1;have fy0:=HB3.out.free 0;have fy1:=HB3.out.free 1
      go_wp2
      refine bodyPost_ret (v := .agg #[.slice a0 m0 c0,.slice aZ lx.length cZ]) (by simp[results,Tryz.results91,go_sem,y0,y1]) rfl ⟨_,rfl, ?_, ?_⟩
      ·have hz:=HZZ.out
       refine cast (congrArg (RowIs _ _ _) ?_) ⟨own_base (own_kept HRW.out (fun kk hk=>by have:=own_block HRW.out hk;rw[keptS (by omega),keptS (by omega),keptS (by omega)])) (by omega),HFT.out⟩
       rw[HLX.out,HCN.out];simp
      ·have hz:=HZZ.out;have hb9:=HB9.out;(repeat (first | exact Below.refl _ _ | assumption | refine balloc ?_ _ | refine below_drewN ?_ _ | refine bstep (by assumption) ?_ | refine bstep (Past.prop _) ?_ | refine Below.setCell ?_ (by first | exact Nat.le_refl _ | (simp;done) | (simp;omega)) _))
    ·have d2:(y.seq == xs)=false:=beq_eq_false_iff_ne.2 hq
     clear hq hlv HEND HNX
     go_upto_region 2 with fail
     go_quiet (fail)
     have hq:Below wr.heap.size wr (wr.drewN nq):=below_drewN (Below.refl _ _) _
     have HB1:=hidE (HB1.out.past hq);have HB2:=hidE (HB2.out.past hq);have HB3:=hidE (HB3.out.past hq);have HB:=hidE (bstep hq HB.out)
     have HC:=hidE (HC.out.below hq hbz)
     have hbz:=Nat.lt_of_lt_of_le hbz hq.size
     clear q0 q1 qz s0 s1 s2 s3 s4 s5 s6 s7 sz hq
     generalize wr.drewN nq=wq at *
     have q0:=HB1.out.cell 0;have q1:=HB1.out.cell 1;have qz:=HB1.out.lt
     have s0:=HB2.out.cell 0;have s1:=HB2.out.cell 1;have s2:=HB2.out.cell 2;have s3:=HB2.out.cell 3;have s4:=HB2.out.cell 4;have s5:=HB2.out.cell 5;have s6:=HB2.out.cell 6;have s7:=HB2.out.cell 7;have sz:=HB2.out.lt
     simp at q0 q1 s0 s1 s2 s3 s4 s5 s6 s7
     have HZZ:=hidE (show w.heap.size+3≤wq.heap.size from by have:=HB3.out.lt;omega)
     obtain ⟨ad3,had3,h3⟩:=src_from (cap:=cap) HN.out (show k≤n from hk) hbz HC.out HF.out
     have SRC3:=hidE h3
     have SRC1:=hidE (show ∀ w9,Below wq.heap.size wq w9→SrcV w9 8 (.slice (some ⟨b,off,none⟩) k cap) k (cellsRw (l.take k)) from fun w9 hb9=>srcRw (by rw[List.length_take];have:=HN.out;omega) ((HC.out.below hb9 hbz).take k) (fit_take HF.out k))
     have HCN:=hidE HNO.out
     have hnc:=HN0.out
     have hkn:k≤n:=hk
     have hkc:k≤cap:=by omega
     have hk0:(0:Int)≤(k:Int):=by omega
     have hkI:(k:Int)≤(n:Int):=by omega
     have hlm:=HL.out
     clear h3
     go_upto_region 4 with fail
     have HOK:ChOk (fun i=>([none,some (.pointer (some ⟨w.heap.size,1,none⟩)),some (.slice (some ⟨b,off,none⟩) n cap),some (.int .i64 (k:Int)),some (.slice (some ⟨b,off,none⟩) k cap),none,some (rwV (⟨xi,xs,xu,xf,xt,.slice aT nT cT,.slice aW nW cW,.slice aA nA cA⟩:Rw)),none,none,some (.pointer (some ⟨w.heap.size,1,none⟩)),some (.slice (some ⟨b,off,none⟩) n cap),some (.int .i64 (k:Int)),some (.slice (some ad3) (n - k) (cap - k)),none,some (.pointer (some ⟨w.heap.size,1,none⟩))]:List (Option Value)).getD i none) (fun i=>[0,5,8,13].getD i 900) (fun j=>[901,902,7,903].getD j 990) 3:=by
      refine ⟨fun i hi => ?_,fun j => ?_,fun i k hi hk e => ?_,fun i j hi e => ?_⟩
      ·match i,hi with
       | 0,_=>rfl
       | 1,_=>rfl
       | 2,_=>rfl
       | 3,_=>rfl
      ·match j with
       | 0=>rfl
       | 1=>rfl
       | 2=>rfl
       | 3=>rfl
       | j+4=>rfl
      ·match i,k,hi,hk with
       | 0,0,_,_=>first | rfl | (simp at e)
       | 0,1,_,_=>first | rfl | (simp at e)
       | 0,2,_,_=>first | rfl | (simp at e)
       | 0,3,_,_=>first | rfl | (simp at e)
       | 1,0,_,_=>first | rfl | (simp at e)
       | 1,1,_,_=>first | rfl | (simp at e)
       | 1,2,_,_=>first | rfl | (simp at e)
       | 1,3,_,_=>first | rfl | (simp at e)
       | 2,0,_,_=>first | rfl | (simp at e)
       | 2,1,_,_=>first | rfl | (simp at e)
       | 2,2,_,_=>first | rfl | (simp at e)
       | 2,3,_,_=>first | rfl | (simp at e)
       | 3,0,_,_=>first | rfl | (simp at e)
       | 3,1,_,_=>first | rfl | (simp at e)
       | 3,2,_,_=>first | rfl | (simp at e)
       | 3,3,_,_=>first | rfl | (simp at e)
      ·match i,j,hi with
       | 0,0,_=>simp at e
       | 0,1,_=>simp at e
       | 0,2,_=>simp at e
       | 0,3,_=>simp at e
       | 0,j+4,_=>simp at e
       | 1,0,_=>simp at e
       | 1,1,_=>simp at e
       | 1,2,_=>simp at e
       | 1,3,_=>simp at e
       | 1,j+4,_=>simp at e
       | 2,0,_=>simp at e
       | 2,1,_=>simp at e
       | 2,2,_=>simp at e
       | 2,3,_=>simp at e
       | 2,j+4,_=>simp at e
       | 3,0,_=>simp at e
       | 3,1,_=>simp at e
       | 3,2,_=>simp at e
       | 3,3,_=>simp at e
       | 3,j+4,_=>simp at e
     have HINJ2:∀ q,q≤3→(fun j=>[901,902,7,903].getD j 990) q=(fun j=>[901,902,7,903].getD j 990) 2→q=2:=fun q hq e=>by
      match q,hq with
      | 0,_=>first | rfl | (simp at e)
      | 1,_=>first | rfl | (simp at e)
      | 2,_=>first | rfl | (simp at e)
      | 3,_=>first | rfl | (simp at e)
     refine wp_region_C 15 (ChI 50 8 wq (fun i=>([none,some (.pointer (some ⟨w.heap.size,1,none⟩)),some (.slice (some ⟨b,off,none⟩) n cap),some (.int .i64 (k:Int)),some (.slice (some ⟨b,off,none⟩) k cap),none,some (rwV (⟨xi,xs,xu,xf,xt,.slice aT nT cT,.slice aW nW cW,.slice aA nA cA⟩:Rw)),none,none,some (.pointer (some ⟨w.heap.size,1,none⟩)),some (.slice (some ⟨b,off,none⟩) n cap),some (.int .i64 (k:Int)),some (.slice (some ad3) (n - k) (cap - k)),none,some (.pointer (some ⟨w.heap.size,1,none⟩))]:List (Option Value)).getD i none) (fun i=>[0,5,8,13].getD i 900) (fun j=>[901,902,7,903].getD j 990) 3 (fun i=>[0,0+k,0+k+1,0+k+1+(n - k)].getD i 0) (fun j=>[0,k,1,(n - k)].getD j 0) (fun i=>[[],[]++(cellsRw (l.take k)),[]++(cellsRw (l.take k))++[.int .u32 xi,.int .u32 xs,nmV xu,.int .i64 xf,.int .i64 xt,.slice aT nT cT,.slice aW nW cW,.slice aA nA cA],[]++(cellsRw (l.take k))++[.int .u32 xi,.int .u32 xs,nmV xu,.int .i64 xf,.int .i64 xt,.slice aT nT cT,.slice aW nW cW,.slice aA nA cA]++(cellsRw (l.drop k))].getD i []) (fun j=>[[],(cellsRw (l.take k)),[.int .u32 xi,.int .u32 xs,nmV xu,.int .i64 xf,.int .i64 xt,.slice aT nT cT,.slice aW nW cW,.slice aA nA cA],(cellsRw (l.drop k))].getD j [])) (by kernel_rfl) (by decide) (by kernel_rfl) (chI_start (Below.refl _ _).drew) ?_ ?_
     ·intro i o hi ho
      match i,hi with
      | 0, _ =>
       have eo:=Option.some.inj ho
       have hg:o.guard=none:=by rw[←eo]
       refine cstep_evF hg ?_
       intro E L u w9 E1 E0 EC EF hl hw hI
       subst eo
       refine gives_ok (v := .slice (some ⟨w9.heap.size,0,none⟩) 0 0) (w':=w9.alloc (.cells #[] 50)) (by simp[execOp,go_sem]) ?_
       exact hI.nbase HOK hl (show World.ownsRow _ wq.heap.size 50 8 (.slice (some ⟨w9.heap.size,0,none⟩) 0 0) 0 [] from World.ownsRow_lit (e:=50) (size:=8) (base:=wq.heap.size) w9 #[] 0 hI.bel.size (by unfold maxLen;omega) rfl) ((Below.refl _ w9).alloc (Nat.le_refl _) _) (fun b hb=>by simp[Value.ownBlock] at hb;omega)
      | 1, _ =>
       have eo:=Option.some.inj ho
       have hg:o.guard=none:=by rw[←eo]
       refine cstep_evF hg ?_
       intro E L u w9 E1 E0 EC EF hl hw hI
       subst eo
       have a2:=(E0 2 (by kernel_rfl)).trans (show _=Value.pointer (some ⟨w.heap.size,0,none⟩) from rfl)
       refine gives_ok (v := .pointer (some ⟨w.heap.size,1,none⟩)) (w':=w9) (by simp[execOp,go_sem,a2]) ?_
       exact hI.ndet HOK rfl (Below.refl _ _)
      | 2, _ =>
       have eo:=Option.some.inj ho
       have hg:o.guard=none:=by rw[←eo]
       refine cstep_evF hg ?_
       intro E L u w9 E1 E0 EC EF hl hw hI
       subst eo
       have a47:=(E1 47 1 (by kernel_rfl) (by simp)).trans (hI.det 1 _ rfl (hw 1 (by decide) (by kernel_rfl)))
       have q0:=(hI.bel.cell (p:=⟨w.heap.size,_,none⟩) qz).trans q0;have q1:=(hI.bel.cell (p:=⟨w.heap.size,_,none⟩) qz).trans q1;have qz:=Nat.lt_of_lt_of_le qz hI.bel.size
       refine gives_ok (v := .slice (some ⟨b,off,none⟩) n cap) (w':=w9) (by simp[execOp,go_sem,a47,q1]) ?_
       exact hI.ndet HOK rfl (Below.refl _ _)
      | 3, _ =>
       have eo:=Option.some.inj ho
       have hg:o.guard=none:=by rw[←eo]
       refine cstep_evF hg ?_
       intro E L u w9 E1 E0 EC EF hl hw hI
       subst eo
       have a5:=(E0 5 (by kernel_rfl)).trans (show _=Value.int .i64 (k:Int) from rfl)
       refine gives_ok (v := .int .i64 (k:Int)) (w':=w9) (by simp[execOp,go_sem,a5]) ?_
       exact hI.ndet HOK rfl (Below.refl _ _)
      | 4, _ =>
       have eo:=Option.some.inj ho
       have hg:o.guard=none:=by rw[←eo]
       refine cstep_evF hg ?_
       intro E L u w9 E1 E0 EC EF hl hw hI
       subst eo
       have a48:=(E1 48 2 (by kernel_rfl) (by simp)).trans (hI.det 2 _ rfl (hw 2 (by decide) (by kernel_rfl)))
       have a49:=(E1 49 3 (by kernel_rfl) (by simp)).trans (hI.det 3 _ rfl (hw 3 (by decide) (by kernel_rfl)))
       refine gives_ok (v := .slice (some ⟨b,off,none⟩) k cap) (w':=w9) (by simp[execOp,go_sem,a48,a49,hkc,hk0]) ?_
       exact hI.ndet HOK rfl (Below.refl _ _)
      | 5, _ =>
       have eo:=Option.some.inj ho
       have hg:o.guard=none:=by rw[←eo]
       refine cstep_evF hg ?_
       intro E L u w9 E1 E0 EC EF hl hw hI
       subst eo
       have a46:=E1 46 0 (by kernel_rfl) (by simp)
       have a50:=(E1 50 4 (by kernel_rfl) (by simp)).trans (hI.det 4 _ rfl (hw 4 (by decide) (by kernel_rfl)))
       have hpw:=hw 0 (by decide) (by kernel_rfl)
       refine gives_appD (.tmp 46) (.tmp 50) 31 rfl wq.heap.size 50 ix _ 8 112 Tryz.underlying31 IX.out IZ0.out IZ1.out IZ2.out rfl (by decide) _ _ (by rw[a46];exact hI.row 0 (by decide) hpw (fun _=>hl)) k (cellsRw (l.take k)) (by rw[a50];exact SRC1.out w9 hI.bel) (by first | (simp;done) | (simp;omega)) (by omega) hI.bel.size ?_
       intro v' w' ho hg hat
       rw[a46] at hg hat
       exact hI.napp (i:=0) HOK (by decide) hl hpw ho hg hat
      | 6, _ =>
       have eo:=Option.some.inj ho
       have hg:o.guard=none:=by rw[←eo]
       refine cstep_evF hg ?_
       intro E L u w9 E1 E0 EC EF hl hw hI
       subst eo
       have a3:=(E0 3 (by kernel_rfl)).trans (show _=Value.pointer (some ⟨w.heap.size+1,0,none⟩) from rfl)
       have s0:=(hI.bel.cell (p:=⟨w.heap.size+1,_,none⟩) sz).trans s0;have s1:=(hI.bel.cell (p:=⟨w.heap.size+1,_,none⟩) sz).trans s1;have s2:=(hI.bel.cell (p:=⟨w.heap.size+1,_,none⟩) sz).trans s2;have s3:=(hI.bel.cell (p:=⟨w.heap.size+1,_,none⟩) sz).trans s3;have s4:=(hI.bel.cell (p:=⟨w.heap.size+1,_,none⟩) sz).trans s4;have s5:=(hI.bel.cell (p:=⟨w.heap.size+1,_,none⟩) sz).trans s5;have s6:=(hI.bel.cell (p:=⟨w.heap.size+1,_,none⟩) sz).trans s6;have s7:=(hI.bel.cell (p:=⟨w.heap.size+1,_,none⟩) sz).trans s7;have sz:=Nat.lt_of_lt_of_le sz hI.bel.size
       refine gives_ok (v:=rwV (⟨xi,xs,xu,xf,xt,.slice aT nT cT,.slice aW nW cW,.slice aA nA cA⟩:Rw)) (w':=w9) (by simp[execOp,go_sem,a3,s0,s1,s2,s3,s4,s5,s6,s7]) ?_
       exact hI.ndet HOK rfl (Below.refl _ _)
      | 7, _ =>
       have eo:=Option.some.inj ho
       have hg:o.guard=none:=by rw[←eo]
       refine cstep_evF hg ?_
       intro E L u w9 E1 E0 EC EF hl hw hI
       subst eo
       have a52:=(E1 52 6 (by kernel_rfl) (by simp)).trans (hI.det 6 _ rfl (hw 6 (by decide) (by kernel_rfl)))
       refine gives_ok (v := .slice (some ⟨w9.heap.size,0,none⟩) 1 1) (w':=w9.alloc (.cells #[.int .u32 xi,.int .u32 xs,nmV xu,.int .i64 xf,.int .i64 xt,.slice aT nT cT,.slice aW nW cW,.slice aA nA cA] 50)) (by simp[execOp,go_sem,a52]) ?_
       exact hI.nsrc (j:=2) HOK HINJ2 (srcV_new (ys:=[.int .u32 xi,.int .u32 xs,nmV xu,.int .i64 xf,.int .i64 xt,.slice aT nT cT,.slice aW nW cW,.slice aA nA cA]) (Blk.made _ _ _) rfl (by intro u hu;simp at hu;rcases hu with rfl | rfl | rfl | rfl | rfl | rfl | rfl | rfl<;>rfl)) (fun kk hk=>by simp[Value.ownBlock] at hk;subst hk;simp) ((Below.refl _ w9).alloc (Nat.le_refl _) _)
      | 8, _ =>
       have eo:=Option.some.inj ho
       have hg:o.guard=none:=by rw[←eo]
       refine cstep_evF hg ?_
       intro E L u w9 E1 E0 EC EF hl hw hI
       subst eo
       have a51:=E1 51 5 (by kernel_rfl) (by simp)
       have a53:=E1 53 7 (by kernel_rfl) (by simp)
       have hpw:=hw 5 (by decide) (by kernel_rfl)
       have hxw:=hw 7 (by decide) (by kernel_rfl)
       refine gives_appD (.tmp 51) (.tmp 53) 31 rfl wq.heap.size 50 ix _ 8 112 Tryz.underlying31 IX.out IZ0.out IZ1.out IZ2.out rfl (by decide) _ _ (by rw[a51];exact hI.row 1 (by decide) hpw (fun _=>hl)) 1 [.int .u32 xi,.int .u32 xs,nmV xu,.int .i64 xf,.int .i64 xt,.slice aT nT cT,.slice aW nW cW,.slice aA nA cA] (by rw[a53];exact (hI.src 2 (by decide) hxw hl).1) (by first | (simp;done) | (simp;omega)) (by omega) hI.bel.size ?_
       intro v' w' ho hg hat
       rw[a51] at hg hat
       exact hI.napp (i:=1) HOK (by decide) hl hpw ho hg hat
      | 9, _ =>
       have eo:=Option.some.inj ho
       have hg:o.guard=none:=by rw[←eo]
       refine cstep_evF hg ?_
       intro E L u w9 E1 E0 EC EF hl hw hI
       subst eo
       have a2:=(E0 2 (by kernel_rfl)).trans (show _=Value.pointer (some ⟨w.heap.size,0,none⟩) from rfl)
       refine gives_ok (v := .pointer (some ⟨w.heap.size,1,none⟩)) (w':=w9) (by simp[execOp,go_sem,a2]) ?_
       exact hI.ndet HOK rfl (Below.refl _ _)
      | 10, _ =>
       have eo:=Option.some.inj ho
       have hg:o.guard=none:=by rw[←eo]
       refine cstep_evF hg ?_
       intro E L u w9 E1 E0 EC EF hl hw hI
       subst eo
       have a55:=(E1 55 9 (by kernel_rfl) (by simp)).trans (hI.det 9 _ rfl (hw 9 (by decide) (by kernel_rfl)))
       have q0:=(hI.bel.cell (p:=⟨w.heap.size,_,none⟩) qz).trans q0;have q1:=(hI.bel.cell (p:=⟨w.heap.size,_,none⟩) qz).trans q1;have qz:=Nat.lt_of_lt_of_le qz hI.bel.size
       refine gives_ok (v := .slice (some ⟨b,off,none⟩) n cap) (w':=w9) (by simp[execOp,go_sem,a55,q1]) ?_
       exact hI.ndet HOK rfl (Below.refl _ _)
      | 11, _ =>
       have eo:=Option.some.inj ho
       have hg:o.guard=none:=by rw[←eo]
       refine cstep_evF hg ?_
       intro E L u w9 E1 E0 EC EF hl hw hI
       subst eo
       have a5:=(E0 5 (by kernel_rfl)).trans (show _=Value.int .i64 (k:Int) from rfl)
       refine gives_ok (v := .int .i64 (k:Int)) (w':=w9) (by simp[execOp,go_sem,a5]) ?_
       exact hI.ndet HOK rfl (Below.refl _ _)
      | 12, _ =>
       have eo:=Option.some.inj ho
       have hg:o.guard=none:=by rw[←eo]
       refine cstep_evF hg ?_
       intro E L u w9 E1 E0 EC EF hl hw hI
       subst eo
       have a56:=(E1 56 10 (by kernel_rfl) (by simp)).trans (hI.det 10 _ rfl (hw 10 (by decide) (by kernel_rfl)))
       have a57:=(E1 57 11 (by kernel_rfl) (by simp)).trans (hI.det 11 _ rfl (hw 11 (by decide) (by kernel_rfl)))
       refine gives_ok (v := .slice (some ad3) (n - k) (cap - k)) (w':=w9) (by simp[execOp,go_sem,a56,a57,hk0,hkI,had3]) ?_
       exact hI.ndet HOK rfl (Below.refl _ _)
      | 13, _ =>
       have eo:=Option.some.inj ho
       have hg:o.guard=none:=by rw[←eo]
       refine cstep_evF hg ?_
       intro E L u w9 E1 E0 EC EF hl hw hI
       subst eo
       have a54:=E1 54 8 (by kernel_rfl) (by simp)
       have a58:=(E1 58 12 (by kernel_rfl) (by simp)).trans (hI.det 12 _ rfl (hw 12 (by decide) (by kernel_rfl)))
       have hpw:=hw 8 (by decide) (by kernel_rfl)
       refine gives_appD (.tmp 54) (.tmp 58) 31 rfl wq.heap.size 50 ix _ 8 112 Tryz.underlying31 IX.out IZ0.out IZ1.out IZ2.out rfl (by decide) _ _ (by rw[a54];exact hI.row 2 (by decide) hpw (fun _=>hl)) (n - k) (cellsRw (l.drop k)) (by rw[a58];exact SRC3.out w9 hI.bel hnc) (by first | (simp;done) | (simp;omega)) (by omega) hI.bel.size ?_
       intro v' w' ho hg hat
       rw[a54] at hg hat
       exact hI.napp (i:=2) HOK (by decide) hl hpw ho hg hat
      | 14, _ =>
       have eo:=Option.some.inj ho
       have hg:o.guard=none:=by rw[←eo]
       refine cstep_evF hg ?_
       intro E L u w9 E1 E0 EC EF hl hw hI
       subst eo
       have a2:=(E0 2 (by kernel_rfl)).trans (show _=Value.pointer (some ⟨w.heap.size,0,none⟩) from rfl)
       refine gives_ok (v := .pointer (some ⟨w.heap.size,1,none⟩)) (w':=w9) (by simp[execOp,go_sem,a2]) ?_
       exact hI.ndet HOK rfl (Below.refl _ _)
      | i+15,h=>exact absurd h (by omega)
     ·intro L u w9 hall hI
      have e1:u 1 = .pointer (some ⟨w.heap.size,1,none⟩):=hI.det 1 _ rfl (hall 1 (by decide))
      have e2:u 2 = .slice (some ⟨b,off,none⟩) n cap:=hI.det 2 _ rfl (hall 2 (by decide))
      have e3:u 3 = .int .i64 (k:Int):=hI.det 3 _ rfl (hall 3 (by decide))
      have e4:u 4 = .slice (some ⟨b,off,none⟩) k cap:=hI.det 4 _ rfl (hall 4 (by decide))
      have e6:u 6=rwV (⟨xi,xs,xu,xf,xt,.slice aT nT cT,.slice aW nW cW,.slice aA nA cA⟩:Rw):=hI.det 6 _ rfl (hall 6 (by decide))
      have e9:u 9 = .pointer (some ⟨w.heap.size,1,none⟩):=hI.det 9 _ rfl (hall 9 (by decide))
      have e10:u 10 = .slice (some ⟨b,off,none⟩) n cap:=hI.det 10 _ rfl (hall 10 (by decide))
      have e11:u 11 = .int .i64 (k:Int):=hI.det 11 _ rfl (hall 11 (by decide))
      have e12:u 12 = .slice (some ad3) (n - k) (cap - k):=hI.det 12 _ rfl (hall 12 (by decide))
      have e14:u 14 = .pointer (some ⟨w.heap.size,1,none⟩):=hI.det 14 _ rfl (hall 14 (by decide))
      have hrow:=hI.row 3 (by decide) (hall 13 (by decide)) (fun h=>absurd h (by decide))
      rw[show u ((fun i=>[0,5,8,13].getD i 900) 3)=u 13 from rfl] at hrow
      obtain ⟨aZ,cZ,e13⟩:∃ aT cT,u 13 = .slice aT (0+k+1+(n - k)) cT:=own_sli hrow
      rw[e13] at hrow
      have hlen:0+k+1+(n - k)=(l.take k++([(⟨xi,xs,xu,xf,xt,.slice aT nT cT,.slice aW nW cW,.slice aA nA cA⟩:Rw)]++l.drop k)).length:=by simp only[List.length_append,List.length_take,List.length_drop,List.length_singleton];have:=HN.out;omega
      rw[hlen] at e13 hrow
      have hbX:=hI.bel
      have HB9:=hidE (bstep hbX HB.out);have HB1:=hidE (HB1.out.past hbX);have HB3:=hidE (HB3.out.past hbX)
      simp only[frm,List.take,Act.put,e1,e2,e3,e4,e6,e9,e10,e11,e12,e14,e13]
      clear hI hall hlen e1 e2 e3 e4 e6 e9 e10 e11 e12 e14 e13 HOK HINJ2 hbX q0 q1 qz s0 s1 s2 s3 s4 s5 s6 s7 sz HB HB2 SRC1 SRC3 had3 hkn hnc hkc hk0 hkI IX IZ0 IZ1 IZ2
      generalize u 0=z0 at *;generalize u 5=z5 at *;generalize u 7=z7 at *;generalize u 8=z8 at *
      obtain ⟨lx,hlx⟩:∃ lx,lx=(l.take k++([(⟨xi,xs,xu,xf,xt,.slice aT nT cT,.slice aW nW cW,.slice aA nA cA⟩:Rw)]++l.drop k)):=⟨_,rfl⟩
      have HLX:=hidE hlx
      rw[←hlx] at hrow ⊢
      rw[show ([]++(cellsRw (l.take k))++[.int .u32 xi,.int .u32 xs,nmV xu,.int .i64 xf,.int .i64 xt,.slice aT nT cT,.slice aW nW cW,.slice aA nA cA]++(cellsRw (l.drop k)):List Value)=cellsRw lx from by rw[hlx];rw[cellsRw_app,cellsRw_app];simp[cellsRw]] at hrow
      have HRW:=hidE hrow
      have HFT:=hidE (show ∀ x∈lx,x.fit from fun y hy=>by
       rw[hlx] at hy
       rcases List.mem_append.1 hy with h | h
       ·exact HF.out y (List.mem_of_mem_take h)
       ·rcases List.mem_append.1 h with h | h
        ·rw[List.mem_singleton.1 h];exact HXF.out
        ·exact HF.out y (List.mem_of_mem_drop h))
      clear hlx hrow HXF HF
      have x0:=HB1.out.cell 0;have x1:=HB1.out.cell 1;have xz:=HB1.out.lt
      have y0:=HB3.out.cell 0;have y1:=HB3.out.cell 1;have yz:=HB3.out.lt
      simp at x0 x1 y0 y1
      have fx0:=HB1.out.free 0;have fx1:=HB1.out.free 1;have fy0:=HB3.out.free 0;have fy1:=HB3.out.free 1
      go_wp2
      refine bodyPost_ret (v := .agg #[.slice a0 m0 c0,.slice aZ lx.length cZ]) (by simp[results,Tryz.results91,go_sem,y0,y1]) rfl ⟨_,rfl, ?_, ?_⟩
      ·have hz:=HZZ.out
       refine cast (congrArg (RowIs _ _ _) ?_) ⟨own_base (own_kept HRW.out (fun kk hk=>by have:=own_block HRW.out hk;rw[keptS (by omega),keptS (by omega),keptS (by omega)])) (by omega),HFT.out⟩
       rw[HLX.out,HCN.out];simp
      ·have hz:=HZZ.out;have hb9:=HB9.out;(repeat (first | exact Below.refl _ _ | assumption | refine balloc ?_ _ | refine below_drewN ?_ _ | refine bstep (by assumption) ?_ | refine bstep (Past.prop _) ?_ | refine Below.setCell ?_ (by first | exact Nat.le_refl _ | (simp;done) | (simp;omega)) _))
   ·have HNY:=hidE (HNX.out hlv)
    have hor:=ltV_iff.1 hlv
    by_cases hq:y.seq<xs
    ·have d1:decide (y.seq<xs)=true:=decide_eq_true hq
     clear hq hlv HEND HNX hor
     go_upto_region 2 with fail
     go_quiet (fail)
     have hq:Below wr.heap.size wr (wr.drewN nq):=below_drewN (Below.refl _ _) _
     have HB1:=hidE (HB1.out.past hq);have HB2:=hidE (HB2.out.past hq);have HB3:=hidE (HB3.out.past hq);have HB:=hidE (bstep hq HB.out)
     have HC:=hidE (HC.out.below hq hbz)
     have hbz:=Nat.lt_of_lt_of_le hbz hq.size
     clear q0 q1 qz s0 s1 s2 s3 s4 s5 s6 s7 sz hq
     generalize wr.drewN nq=wq at *
     have q0:=HB1.out.cell 0;have q1:=HB1.out.cell 1;have qz:=HB1.out.lt
     have s0:=HB2.out.cell 0;have s1:=HB2.out.cell 1;have s2:=HB2.out.cell 2;have s3:=HB2.out.cell 3;have s4:=HB2.out.cell 4;have s5:=HB2.out.cell 5;have s6:=HB2.out.cell 6;have s7:=HB2.out.cell 7;have sz:=HB2.out.lt
     simp at q0 q1 s0 s1 s2 s3 s4 s5 s6 s7
     have HZZ:=hidE (show w.heap.size+3≤wq.heap.size from by have:=HB3.out.lt;omega)
     clear q0 q1 qz s0 s1 s2 s3 s4 s5 s6 s7 sz
     go_wp2
     go_roundg (n - (k+1))
     case measure=>have:=HG.out;have:=HK1.out;omega
     case rel=>exact ⟨k+1,by go_num,HK1.out,Nat.le_refl _,HNY.out,HB1.out,HB2.out,HB3.out,HB.out,hbz,HC.out⟩
    ·have d1:decide (y.seq<xs)=false:=decide_eq_false hq
     have d2:(y.seq == xs)=true:=beq_iff_eq.2 (by rw[HXS.out] at hq ⊢;rcases hor with h | h;(exact absurd h hq);exact h.1)
     have d3:decide (y.id<xi)=true:=decide_eq_true (by rw[HXS.out] at hq;rw[HXI.out];rcases hor with h | h;(exact absurd h hq);exact h.2)
     clear hq hlv HEND HNX hor
     go_upto_region 2 with fail
     go_quiet (fail)
     have hq:Below wr.heap.size wr (wr.drewN nq):=below_drewN (Below.refl _ _) _
     have HB1:=hidE (HB1.out.past hq);have HB2:=hidE (HB2.out.past hq);have HB3:=hidE (HB3.out.past hq);have HB:=hidE (bstep hq HB.out)
     have HC:=hidE (HC.out.below hq hbz)
     have hbz:=Nat.lt_of_lt_of_le hbz hq.size
     clear q0 q1 qz s0 s1 s2 s3 s4 s5 s6 s7 sz hq
     generalize wr.drewN nq=wq at *
     have q0:=HB1.out.cell 0;have q1:=HB1.out.cell 1;have qz:=HB1.out.lt
     have s0:=HB2.out.cell 0;have s1:=HB2.out.cell 1;have s2:=HB2.out.cell 2;have s3:=HB2.out.cell 3;have s4:=HB2.out.cell 4;have s5:=HB2.out.cell 5;have s6:=HB2.out.cell 6;have s7:=HB2.out.cell 7;have sz:=HB2.out.lt
     simp at q0 q1 s0 s1 s2 s3 s4 s5 s6 s7
     have HZZ:=hidE (show w.heap.size+3≤wq.heap.size from by have:=HB3.out.lt;omega)
     clear q0 q1 qz s0 s1 s2 s3 s4 s5 s6 s7 sz
     go_wp2
     go_roundg (n - (k+1))
     case measure=>have:=HG.out;have:=HK1.out;omega
     case rel=>exact ⟨k+1,by go_num,HK1.out,Nat.le_refl _,HNY.out,HB1.out,HB2.out,HB3.out,HB.out,hbz,HC.out⟩
  ·have HNO:=hidE (HEND.out (.inl (by omega)))
   clear HEND hc
   have dlt:decide ((k:Int)<(n:Int))=false:=decide_eq_false (by omega)
   go_upto_region 2 with fail
   go_quiet (fail)
   have hq:Below wr.heap.size wr (wr.drewN nq):=below_drewN (Below.refl _ _) _
   have HB1:=hidE (HB1.out.past hq);have HB2:=hidE (HB2.out.past hq);have HB3:=hidE (HB3.out.past hq);have HB:=hidE (bstep hq HB.out)
   have HC:=hidE (HC.out.below hq hbz)
   have hbz:=Nat.lt_of_lt_of_le hbz hq.size
   clear q0 q1 qz s0 s1 s2 s3 s4 s5 s6 s7 sz hq
   generalize wr.drewN nq=wq at *
   have q0:=HB1.out.cell 0;have q1:=HB1.out.cell 1;have qz:=HB1.out.lt
   have s0:=HB2.out.cell 0;have s1:=HB2.out.cell 1;have s2:=HB2.out.cell 2;have s3:=HB2.out.cell 3;have s4:=HB2.out.cell 4;have s5:=HB2.out.cell 5;have s6:=HB2.out.cell 6;have s7:=HB2.out.cell 7;have sz:=HB2.out.lt
   simp at q0 q1 s0 s1 s2 s3 s4 s5 s6 s7
   have HZZ:=hidE (show w.heap.size+3≤wq.heap.size from by have:=HB3.out.lt;omega)
   obtain ⟨ad3,had3,h3⟩:=src_from (cap:=cap) HN.out (show k≤n from hk) hbz HC.out HF.out
   have SRC3:=hidE h3
   have SRC1:=hidE (show ∀ w9,Below wq.heap.size wq w9→SrcV w9 8 (.slice (some ⟨b,off,none⟩) k cap) k (cellsRw (l.take k)) from fun w9 hb9=>srcRw (by rw[List.length_take];have:=HN.out;omega) ((HC.out.below hb9 hbz).take k) (fit_take HF.out k))
   have HCN:=hidE HNO.out
   have hnc:=HN0.out
   have hkn:k≤n:=hk
   have hkc:k≤cap:=by omega
   have hk0:(0:Int)≤(k:Int):=by omega
   have hkI:(k:Int)≤(n:Int):=by omega
   have hlm:=HL.out
   clear h3
   go_upto_region 4 with fail
   have HOK:ChOk (fun i=>([none,some (.pointer (some ⟨w.heap.size,1,none⟩)),some (.slice (some ⟨b,off,none⟩) n cap),some (.int .i64 (k:Int)),some (.slice (some ⟨b,off,none⟩) k cap),none,some (rwV (⟨xi,xs,xu,xf,xt,.slice aT nT cT,.slice aW nW cW,.slice aA nA cA⟩:Rw)),none,none,some (.pointer (some ⟨w.heap.size,1,none⟩)),some (.slice (some ⟨b,off,none⟩) n cap),some (.int .i64 (k:Int)),some (.slice (some ad3) (n - k) (cap - k)),none,some (.pointer (some ⟨w.heap.size,1,none⟩))]:List (Option Value)).getD i none) (fun i=>[0,5,8,13].getD i 900) (fun j=>[901,902,7,903].getD j 990) 3:=by
    refine ⟨fun i hi => ?_,fun j => ?_,fun i k hi hk e => ?_,fun i j hi e => ?_⟩
    ·match i,hi with
     | 0,_=>rfl
     | 1,_=>rfl
     | 2,_=>rfl
     | 3,_=>rfl
    ·match j with
     | 0=>rfl
     | 1=>rfl
     | 2=>rfl
     | 3=>rfl
     | j+4=>rfl
    ·match i,k,hi,hk with
     | 0,0,_,_=>first | rfl | (simp at e)
     | 0,1,_,_=>first | rfl | (simp at e)
     | 0,2,_,_=>first | rfl | (simp at e)
     | 0,3,_,_=>first | rfl | (simp at e)
     | 1,0,_,_=>first | rfl | (simp at e)
     | 1,1,_,_=>first | rfl | (simp at e)
     | 1,2,_,_=>first | rfl | (simp at e)
     | 1,3,_,_=>first | rfl | (simp at e)
     | 2,0,_,_=>first | rfl | (simp at e)
     | 2,1,_,_=>first | rfl | (simp at e)
     | 2,2,_,_=>first | rfl | (simp at e)
     | 2,3,_,_=>first | rfl | (simp at e)
     | 3,0,_,_=>first | rfl | (simp at e)
     | 3,1,_,_=>first | rfl | (simp at e)
     | 3,2,_,_=>first | rfl | (simp at e)
     | 3,3,_,_=>first | rfl | (simp at e)
    ·match i,j,hi with
     | 0,0,_=>simp at e
     | 0,1,_=>simp at e
     | 0,2,_=>simp at e
     | 0,3,_=>simp at e
     | 0,j+4,_=>simp at e
     | 1,0,_=>simp at e
     | 1,1,_=>simp at e
     | 1,2,_=>simp at e
     | 1,3,_=>simp at e
     | 1,j+4,_=>simp at e
     | 2,0,_=>simp at e
     | 2,1,_=>simp at e
     | 2,2,_=>simp at e
     | 2,3,_=>simp at e
     | 2,j+4,_=>simp at e
     | 3,0,_=>simp at e
     | 3,1,_=>simp at e
     | 3,2,_=>simp at e
     | 3,3,_=>simp at e
     | 3,j+4,_=>simp at e
   have HINJ2:∀ q,q≤3→(fun j=>[901,902,7,903].getD j 990) q=(fun j=>[901,902,7,903].getD j 990) 2→q=2:=fun q hq e=>by
    match q,hq with
    | 0,_=>first | rfl | (simp at e)
    | 1,_=>first | rfl | (simp at e)
    | 2,_=>first | rfl | (simp at e)
    | 3,_=>first | rfl | (simp at e)
   refine wp_region_C 15 (ChI 50 8 wq (fun i=>([none,some (.pointer (some ⟨w.heap.size,1,none⟩)),some (.slice (some ⟨b,off,none⟩) n cap),some (.int .i64 (k:Int)),some (.slice (some ⟨b,off,none⟩) k cap),none,some (rwV (⟨xi,xs,xu,xf,xt,.slice aT nT cT,.slice aW nW cW,.slice aA nA cA⟩:Rw)),none,none,some (.pointer (some ⟨w.heap.size,1,none⟩)),some (.slice (some ⟨b,off,none⟩) n cap),some (.int .i64 (k:Int)),some (.slice (some ad3) (n - k) (cap - k)),none,some (.pointer (some ⟨w.heap.size,1,none⟩))]:List (Option Value)).getD i none) (fun i=>[0,5,8,13].getD i 900) (fun j=>[901,902,7,903].getD j 990) 3 (fun i=>[0,0+k,0+k+1,0+k+1+(n - k)].getD i 0) (fun j=>[0,k,1,(n - k)].getD j 0) (fun i=>[[],[]++(cellsRw (l.take k)),[]++(cellsRw (l.take k))++[.int .u32 xi,.int .u32 xs,nmV xu,.int .i64 xf,.int .i64 xt,.slice aT nT cT,.slice aW nW cW,.slice aA nA cA],[]++(cellsRw (l.take k))++[.int .u32 xi,.int .u32 xs,nmV xu,.int .i64 xf,.int .i64 xt,.slice aT nT cT,.slice aW nW cW,.slice aA nA cA]++(cellsRw (l.drop k))].getD i []) (fun j=>[[],(cellsRw (l.take k)),[.int .u32 xi,.int .u32 xs,nmV xu,.int .i64 xf,.int .i64 xt,.slice aT nT cT,.slice aW nW cW,.slice aA nA cA],(cellsRw (l.drop k))].getD j [])) (by kernel_rfl) (by decide) (by kernel_rfl) (chI_start (Below.refl _ _).drew) ?_ ?_
   ·intro i o hi ho
    match i,hi with
    | 0, _ =>
     have eo:=Option.some.inj ho
     have hg:o.guard=none:=by rw[←eo]
     refine cstep_evF hg ?_
     intro E L u w9 E1 E0 EC EF hl hw hI
     subst eo
     refine gives_ok (v := .slice (some ⟨w9.heap.size,0,none⟩) 0 0) (w':=w9.alloc (.cells #[] 50)) (by simp[execOp,go_sem]) ?_
     exact hI.nbase HOK hl (show World.ownsRow _ wq.heap.size 50 8 (.slice (some ⟨w9.heap.size,0,none⟩) 0 0) 0 [] from World.ownsRow_lit (e:=50) (size:=8) (base:=wq.heap.size) w9 #[] 0 hI.bel.size (by unfold maxLen;omega) rfl) ((Below.refl _ w9).alloc (Nat.le_refl _) _) (fun b hb=>by simp[Value.ownBlock] at hb;omega)
    | 1, _ =>
     have eo:=Option.some.inj ho
     have hg:o.guard=none:=by rw[←eo]
     refine cstep_evF hg ?_
     intro E L u w9 E1 E0 EC EF hl hw hI
     subst eo
     have a2:=(E0 2 (by kernel_rfl)).trans (show _=Value.pointer (some ⟨w.heap.size,0,none⟩) from rfl)
     refine gives_ok (v := .pointer (some ⟨w.heap.size,1,none⟩)) (w':=w9) (by simp[execOp,go_sem,a2]) ?_
     exact hI.ndet HOK rfl (Below.refl _ _)
    | 2, _ =>
     have eo:=Option.some.inj ho
     have hg:o.guard=none:=by rw[←eo]
     refine cstep_evF hg ?_
     intro E L u w9 E1 E0 EC EF hl hw hI
     subst eo
     have a47:=(E1 47 1 (by kernel_rfl) (by simp)).trans (hI.det 1 _ rfl (hw 1 (by decide) (by kernel_rfl)))
     have q0:=(hI.bel.cell (p:=⟨w.heap.size,_,none⟩) qz).trans q0;have q1:=(hI.bel.cell (p:=⟨w.heap.size,_,none⟩) qz).trans q1;have qz:=Nat.lt_of_lt_of_le qz hI.bel.size
     refine gives_ok (v := .slice (some ⟨b,off,none⟩) n cap) (w':=w9) (by simp[execOp,go_sem,a47,q1]) ?_
     exact hI.ndet HOK rfl (Below.refl _ _)
    | 3, _ =>
     have eo:=Option.some.inj ho
     have hg:o.guard=none:=by rw[←eo]
     refine cstep_evF hg ?_
     intro E L u w9 E1 E0 EC EF hl hw hI
     subst eo
     have a5:=(E0 5 (by kernel_rfl)).trans (show _=Value.int .i64 (k:Int) from rfl)
     refine gives_ok (v := .int .i64 (k:Int)) (w':=w9) (by simp[execOp,go_sem,a5]) ?_
     exact hI.ndet HOK rfl (Below.refl _ _)
    | 4, _ =>
     have eo:=Option.some.inj ho
     have hg:o.guard=none:=by rw[←eo]
     refine cstep_evF hg ?_
     intro E L u w9 E1 E0 EC EF hl hw hI
     subst eo
     have a48:=(E1 48 2 (by kernel_rfl) (by simp)).trans (hI.det 2 _ rfl (hw 2 (by decide) (by kernel_rfl)))
     have a49:=(E1 49 3 (by kernel_rfl) (by simp)).trans (hI.det 3 _ rfl (hw 3 (by decide) (by kernel_rfl)))
     refine gives_ok (v := .slice (some ⟨b,off,none⟩) k cap) (w':=w9) (by simp[execOp,go_sem,a48,a49,hkc,hk0]) ?_
     exact hI.ndet HOK rfl (Below.refl _ _)
    | 5, _ =>
     have eo:=Option.some.inj ho
     have hg:o.guard=none:=by rw[←eo]
     refine cstep_evF hg ?_
     intro E L u w9 E1 E0 EC EF hl hw hI
     subst eo
     have a46:=E1 46 0 (by kernel_rfl) (by simp)
     have a50:=(E1 50 4 (by kernel_rfl) (by simp)).trans (hI.det 4 _ rfl (hw 4 (by decide) (by kernel_rfl)))
     have hpw:=hw 0 (by decide) (by kernel_rfl)
     refine gives_appD (.tmp 46) (.tmp 50) 31 rfl wq.heap.size 50 ix _ 8 112 Tryz.underlying31 IX.out IZ0.out IZ1.out IZ2.out rfl (by decide) _ _ (by rw[a46];exact hI.row 0 (by decide) hpw (fun _=>hl)) k (cellsRw (l.take k)) (by rw[a50];exact SRC1.out w9 hI.bel) (by first | (simp;done) | (simp;omega)) (by omega) hI.bel.size ?_
     intro v' w' ho hg hat
     rw[a46] at hg hat
     exact hI.napp (i:=0) HOK (by decide) hl hpw ho hg hat
    | 6, _ =>
     have eo:=Option.some.inj ho
     have hg:o.guard=none:=by rw[←eo]
     refine cstep_evF hg ?_
     intro E L u w9 E1 E0 EC EF hl hw hI
     subst eo
     have a3:=(E0 3 (by kernel_rfl)).trans (show _=Value.pointer (some ⟨w.heap.size+1,0,none⟩) from rfl)
     have s0:=(hI.bel.cell (p:=⟨w.heap.size+1,_,none⟩) sz).trans s0;have s1:=(hI.bel.cell (p:=⟨w.heap.size+1,_,none⟩) sz).trans s1;have s2:=(hI.bel.cell (p:=⟨w.heap.size+1,_,none⟩) sz).trans s2;have s3:=(hI.bel.cell (p:=⟨w.heap.size+1,_,none⟩) sz).trans s3;have s4:=(hI.bel.cell (p:=⟨w.heap.size+1,_,none⟩) sz).trans s4;have s5:=(hI.bel.cell (p:=⟨w.heap.size+1,_,none⟩) sz).trans s5;have s6:=(hI.bel.cell (p:=⟨w.heap.size+1,_,none⟩) sz).trans s6;have s7:=(hI.bel.cell (p:=⟨w.heap.size+1,_,none⟩) sz).trans s7;have sz:=Nat.lt_of_lt_of_le sz hI.bel.size
     refine gives_ok (v:=rwV (⟨xi,xs,xu,xf,xt,.slice aT nT cT,.slice aW nW cW,.slice aA nA cA⟩:Rw)) (w':=w9) (by simp[execOp,go_sem,a3,s0,s1,s2,s3,s4,s5,s6,s7]) ?_
     exact hI.ndet HOK rfl (Below.refl _ _)
    | 7, _ =>
     have eo:=Option.some.inj ho
     have hg:o.guard=none:=by rw[←eo]
     refine cstep_evF hg ?_
     intro E L u w9 E1 E0 EC EF hl hw hI
     subst eo
     have a52:=(E1 52 6 (by kernel_rfl) (by simp)).trans (hI.det 6 _ rfl (hw 6 (by decide) (by kernel_rfl)))
     refine gives_ok (v := .slice (some ⟨w9.heap.size,0,none⟩) 1 1) (w':=w9.alloc (.cells #[.int .u32 xi,.int .u32 xs,nmV xu,.int .i64 xf,.int .i64 xt,.slice aT nT cT,.slice aW nW cW,.slice aA nA cA] 50)) (by simp[execOp,go_sem,a52]) ?_
     exact hI.nsrc (j:=2) HOK HINJ2 (srcV_new (ys:=[.int .u32 xi,.int .u32 xs,nmV xu,.int .i64 xf,.int .i64 xt,.slice aT nT cT,.slice aW nW cW,.slice aA nA cA]) (Blk.made _ _ _) rfl (by intro u hu;simp at hu;rcases hu with rfl | rfl | rfl | rfl | rfl | rfl | rfl | rfl<;>rfl)) (fun kk hk=>by simp[Value.ownBlock] at hk;subst hk;simp) ((Below.refl _ w9).alloc (Nat.le_refl _) _)
    | 8, _ =>
     have eo:=Option.some.inj ho
     have hg:o.guard=none:=by rw[←eo]
     refine cstep_evF hg ?_
     intro E L u w9 E1 E0 EC EF hl hw hI
     subst eo
     have a51:=E1 51 5 (by kernel_rfl) (by simp)
     have a53:=E1 53 7 (by kernel_rfl) (by simp)
     have hpw:=hw 5 (by decide) (by kernel_rfl)
     have hxw:=hw 7 (by decide) (by kernel_rfl)
     refine gives_appD (.tmp 51) (.tmp 53) 31 rfl wq.heap.size 50 ix _ 8 112 Tryz.underlying31 IX.out IZ0.out IZ1.out IZ2.out rfl (by decide) _ _ (by rw[a51];exact hI.row 1 (by decide) hpw (fun _=>hl)) 1 [.int .u32 xi,.int .u32 xs,nmV xu,.int .i64 xf,.int .i64 xt,.slice aT nT cT,.slice aW nW cW,.slice aA nA cA] (by rw[a53];exact (hI.src 2 (by decide) hxw hl).1) (by first | (simp;done) | (simp;omega)) (by omega) hI.bel.size ?_
     intro v' w' ho hg hat
     rw[a51] at hg hat
     exact hI.napp (i:=1) HOK (by decide) hl hpw ho hg hat
    | 9, _ =>
     have eo:=Option.some.inj ho
     have hg:o.guard=none:=by rw[←eo]
     refine cstep_evF hg ?_
     intro E L u w9 E1 E0 EC EF hl hw hI
     subst eo
     have a2:=(E0 2 (by kernel_rfl)).trans (show _=Value.pointer (some ⟨w.heap.size,0,none⟩) from rfl)
     refine gives_ok (v := .pointer (some ⟨w.heap.size,1,none⟩)) (w':=w9) (by simp[execOp,go_sem,a2]) ?_
     exact hI.ndet HOK rfl (Below.refl _ _)
    | 10, _ =>
     have eo:=Option.some.inj ho
     have hg:o.guard=none:=by rw[←eo]
     refine cstep_evF hg ?_
     intro E L u w9 E1 E0 EC EF hl hw hI
     subst eo
     have a55:=(E1 55 9 (by kernel_rfl) (by simp)).trans (hI.det 9 _ rfl (hw 9 (by decide) (by kernel_rfl)))
     have q0:=(hI.bel.cell (p:=⟨w.heap.size,_,none⟩) qz).trans q0;have q1:=(hI.bel.cell (p:=⟨w.heap.size,_,none⟩) qz).trans q1;have qz:=Nat.lt_of_lt_of_le qz hI.bel.size
     refine gives_ok (v := .slice (some ⟨b,off,none⟩) n cap) (w':=w9) (by simp[execOp,go_sem,a55,q1]) ?_
     exact hI.ndet HOK rfl (Below.refl _ _)
    | 11, _ =>
     have eo:=Option.some.inj ho
     have hg:o.guard=none:=by rw[←eo]
     refine cstep_evF hg ?_
     intro E L u w9 E1 E0 EC EF hl hw hI
     subst eo
     have a5:=(E0 5 (by kernel_rfl)).trans (show _=Value.int .i64 (k:Int) from rfl)
     refine gives_ok (v := .int .i64 (k:Int)) (w':=w9) (by simp[execOp,go_sem,a5]) ?_
     exact hI.ndet HOK rfl (Below.refl _ _)
    | 12, _ =>
     have eo:=Option.some.inj ho
     have hg:o.guard=none:=by rw[←eo]
     refine cstep_evF hg ?_
     intro E L u w9 E1 E0 EC EF hl hw hI
     subst eo
     have a56:=(E1 56 10 (by kernel_rfl) (by simp)).trans (hI.det 10 _ rfl (hw 10 (by decide) (by kernel_rfl)))
     have a57:=(E1 57 11 (by kernel_rfl) (by simp)).trans (hI.det 11 _ rfl (hw 11 (by decide) (by kernel_rfl)))
     refine gives_ok (v := .slice (some ad3) (n - k) (cap - k)) (w':=w9) (by simp[execOp,go_sem,a56,a57,hk0,hkI,had3]) ?_
     exact hI.ndet HOK rfl (Below.refl _ _)
    | 13, _ =>
     have eo:=Option.some.inj ho
     have hg:o.guard=none:=by rw[←eo]
     refine cstep_evF hg ?_
     intro E L u w9 E1 E0 EC EF hl hw hI
     subst eo
     have a54:=E1 54 8 (by kernel_rfl) (by simp)
     have a58:=(E1 58 12 (by kernel_rfl) (by simp)).trans (hI.det 12 _ rfl (hw 12 (by decide) (by kernel_rfl)))
     have hpw:=hw 8 (by decide) (by kernel_rfl)
     refine gives_appD (.tmp 54) (.tmp 58) 31 rfl wq.heap.size 50 ix _ 8 112 Tryz.underlying31 IX.out IZ0.out IZ1.out IZ2.out rfl (by decide) _ _ (by rw[a54];exact hI.row 2 (by decide) hpw (fun _=>hl)) (n - k) (cellsRw (l.drop k)) (by rw[a58];exact SRC3.out w9 hI.bel hnc) (by first | (simp;done) | (simp;omega)) (by omega) hI.bel.size ?_
     intro v' w' ho hg hat
     rw[a54] at hg hat
     exact hI.napp (i:=2) HOK (by decide) hl hpw ho hg hat
    | 14, _ =>
     have eo:=Option.some.inj ho
     have hg:o.guard=none:=by rw[←eo]
     refine cstep_evF hg ?_
     intro E L u w9 E1 E0 EC EF hl hw hI
     subst eo
     have a2:=(E0 2 (by kernel_rfl)).trans (show _=Value.pointer (some ⟨w.heap.size,0,none⟩) from rfl)
     refine gives_ok (v := .pointer (some ⟨w.heap.size,1,none⟩)) (w':=w9) (by simp[execOp,go_sem,a2]) ?_
     exact hI.ndet HOK rfl (Below.refl _ _)
    | i+15,h=>exact absurd h (by omega)
   ·intro L u w9 hall hI
    have e1:u 1 = .pointer (some ⟨w.heap.size,1,none⟩):=hI.det 1 _ rfl (hall 1 (by decide))
    have e2:u 2 = .slice (some ⟨b,off,none⟩) n cap:=hI.det 2 _ rfl (hall 2 (by decide))
    have e3:u 3 = .int .i64 (k:Int):=hI.det 3 _ rfl (hall 3 (by decide))
    have e4:u 4 = .slice (some ⟨b,off,none⟩) k cap:=hI.det 4 _ rfl (hall 4 (by decide))
    have e6:u 6=rwV (⟨xi,xs,xu,xf,xt,.slice aT nT cT,.slice aW nW cW,.slice aA nA cA⟩:Rw):=hI.det 6 _ rfl (hall 6 (by decide))
    have e9:u 9 = .pointer (some ⟨w.heap.size,1,none⟩):=hI.det 9 _ rfl (hall 9 (by decide))
    have e10:u 10 = .slice (some ⟨b,off,none⟩) n cap:=hI.det 10 _ rfl (hall 10 (by decide))
    have e11:u 11 = .int .i64 (k:Int):=hI.det 11 _ rfl (hall 11 (by decide))
    have e12:u 12 = .slice (some ad3) (n - k) (cap - k):=hI.det 12 _ rfl (hall 12 (by decide))
    have e14:u 14 = .pointer (some ⟨w.heap.size,1,none⟩):=hI.det 14 _ rfl (hall 14 (by decide))
    have hrow:=hI.row 3 (by decide) (hall 13 (by decide)) (fun h=>absurd h (by decide))
    rw[show u ((fun i=>[0,5,8,13].getD i 900) 3)=u 13 from rfl] at hrow
    obtain ⟨aZ,cZ,e13⟩:∃ aT cT,u 13 = .slice aT (0+k+1+(n - k)) cT:=own_sli hrow
    rw[e13] at hrow
    have hlen:0+k+1+(n - k)=(l.take k++([(⟨xi,xs,xu,xf,xt,.slice aT nT cT,.slice aW nW cW,.slice aA nA cA⟩:Rw)]++l.drop k)).length:=by simp only[List.length_append,List.length_take,List.length_drop,List.length_singleton];have:=HN.out;omega
    rw[hlen] at e13 hrow
    have hbX:=hI.bel
    have HB9:=hidE (bstep hbX HB.out);have HB1:=hidE (HB1.out.past hbX);have HB3:=hidE (HB3.out.past hbX)
    simp only[frm,List.take,Act.put,e1,e2,e3,e4,e6,e9,e10,e11,e12,e14,e13]
    clear hI hall hlen e1 e2 e3 e4 e6 e9 e10 e11 e12 e14 e13 HOK HINJ2 hbX q0 q1 qz s0 s1 s2 s3 s4 s5 s6 s7 sz HB HB2 SRC1 SRC3 had3 hkn hnc hkc hk0 hkI IX IZ0 IZ1 IZ2
    generalize u 0=z0 at *;generalize u 5=z5 at *;generalize u 7=z7 at *;generalize u 8=z8 at *
    obtain ⟨lx,hlx⟩:∃ lx,lx=(l.take k++([(⟨xi,xs,xu,xf,xt,.slice aT nT cT,.slice aW nW cW,.slice aA nA cA⟩:Rw)]++l.drop k)):=⟨_,rfl⟩
    have HLX:=hidE hlx
    rw[←hlx] at hrow ⊢
    rw[show ([]++(cellsRw (l.take k))++[.int .u32 xi,.int .u32 xs,nmV xu,.int .i64 xf,.int .i64 xt,.slice aT nT cT,.slice aW nW cW,.slice aA nA cA]++(cellsRw (l.drop k)):List Value)=cellsRw lx from by rw[hlx];rw[cellsRw_app,cellsRw_app];simp[cellsRw]] at hrow
    have HRW:=hidE hrow
    have HFT:=hidE (show ∀ x∈lx,x.fit from fun y hy=>by
     rw[hlx] at hy
     rcases List.mem_append.1 hy with h | h
     ·exact HF.out y (List.mem_of_mem_take h)
     ·rcases List.mem_append.1 h with h | h
      ·rw[List.mem_singleton.1 h];exact HXF.out
      ·exact HF.out y (List.mem_of_mem_drop h))
    clear hlx hrow HXF HF
    have x0:=HB1.out.cell 0;have x1:=HB1.out.cell 1;have xz:=HB1.out.lt
    have y0:=HB3.out.cell 0;have y1:=HB3.out.cell 1;have yz:=HB3.out.lt
    simp at x0 x1 y0 y1
    have fx0:=HB1.out.free 0;have fx1:=HB1.out.free 1;have fy0:=HB3.out.free 0;have fy1:=HB3.out.free 1
    go_wp2
    refine bodyPost_ret (v := .agg #[.slice a0 m0 c0,.slice aZ lx.length cZ]) (by simp[results,Tryz.results91,go_sem,y0,y1]) rfl ⟨_,rfl, ?_, ?_⟩
    ·have hz:=HZZ.out
     refine cast (congrArg (RowIs _ _ _) ?_) ⟨own_base (own_kept HRW.out (fun kk hk=>by have:=own_block HRW.out hk;rw[keptS (by omega),keptS (by omega),keptS (by omega)])) (by omega),HFT.out⟩
     rw[HLX.out,HCN.out];simp
    ·have hz:=HZZ.out;have hb9:=HB9.out;(repeat (first | exact Below.refl _ _ | assumption | refine balloc ?_ _ | refine below_drewN ?_ _ | refine bstep (by assumption) ?_ | refine bstep (Past.prop _) ?_ | refine Below.setCell ?_ (by first | exact Nat.le_refl _ | (simp;done) | (simp;omega)) _))
end
end Go.Proofs.YtcmponckjkalaaaGreat
