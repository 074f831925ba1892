/- Appends to a row of the call's own, of a slice whose cells are known, elements of any size. No function of the program. No conditions. Terms of package sat in memory: eleven cells each; a row of them. No function of the program. No conditions. What a term takes in: the begin and the end of pieces, a child, an atom's piece. Conditions: the block reads as a term, its row lies .. -/
import Derived.Test.YthlepbbdjmmelaaGreatDoorPWGA
import Derived.Test.YthlepbbdjmmelaaGreatDoorPWGC
import Derived.Deep.LoopGhost
import Derived.Deep.RegionLaw
import Derived.Deep.DeepCutAuto
import Derived.RegionTactic
import Derived.ChangeAlike
import Derived.BigRegion
import Derived.RangeFuncRecord
import Derived.RangeFuncSeq
import Derived.Test.YthlepbbdjmmelaaGreatDoorPWMA
import Derived.Deep.MidRow
namespace Go.Proofs.YthlepbbdjmmelaaGreatDoor
section
open Go.ChangeShapes Go.WideShapes Go.ChangeAt Go.RowKit
def SrcV (w:World) (sz:Nat) (v:Value) (n:Nat) (ys:List Value):Prop :=
  ∃ (a:Option Addr) (cap:Nat),v = .slice a n cap∧(a = none→n = 0∧cap = 0)∧ys.length = n * sz∧(∀ u ∈ ys,u.oneCell' = true)∧∀ ad,a = some ad→∀ j u,ys[j]? = some u→w.cell? (ad.add j) = some u
theorem srcV_new {w:World} {p sz n cap:Nat} {ys:List Value} {t:TypeId} (h:Blk w p ys.toArray t) (hl:ys.length = n * sz) (h1:∀ u ∈ ys,u.oneCell' = true):SrcV w sz (.slice (some ⟨p,0,none⟩) n cap) n ys:=by
  refine ⟨_,cap,rfl,fun h => by simp at h,hl,h1, ?_⟩
  rintro ad ⟨⟩ j u hu
  have e:((⟨p,0,none⟩:Addr).add j) = ⟨p,j,none⟩:=by
    unfold Addr.add
    by_cases c:j = 0
    · subst c;simp
    · simp [c]
  rw [e,h.cell j,← hu]
  simp
theorem wp_appV {P:Program} {o:Oper} {a:Act} {w:World} {K:Act→World→Prop} {Q:Exit→Act→World→Prop}
    (s x:Operand) (t:TypeId) (hop:o.op = Op.call { callee:=Callee.builtin Builtin.append,args:=#[s,x],argTypes:=#[t,t] })
    (base:Nat) (e:TypeId) (i:TypeInfo) (z:Value) (sz by':Nat) (ht:P.underlying t = some (.slice e)) (hi:P.info? e = some i) (hz:i.zero = some z) (hsize:i.size = sz) (hby:i.bytes = by') (hzs:z.cells.size = sz) (hs0:0 < sz)
    (v:Value) (n:Nat) (xs:List Value) (hs:a.eval s = v) (hown:w.ownsRow base e sz v n xs)
    (vx:Value) (m:Nat) (ys:List Value) (hx:a.eval x = vx) (hsrc:SrcV w sz vx m ys)
    (h63:n + m≤1099511627776) (hb':by'≤100) (hbase:base≤w.heap.size)
    (h:∀ v' w',w'.ownsRow base e sz v' (n + m) (xs ++ ys)→w.grownBy w' v.ownBlock→K (a.put o.dst v') w'):Oper.wp P o a w K Q:=by
  obtain ⟨ad,cap,rfl,hn,hl,h1,hc⟩:=hsrc
  cases ad with
  | none =>
    obtain ⟨rfl,rfl⟩:=hn rfl
    have hy:ys = []:=List.eq_nil_of_length_eq_zero (by omega)
    subst hy
    have hrun:=run_append_owned_none (P:=P) (w:=w) base t o.type e i sz ht hi v n xs hown
    have hK:=h v w (by simpa using hown) ⟨rfl,rfl,rfl,Nat.le_refl _,fun _ _ _ => rfl⟩
    unfold Oper.wp
    simp [execOp,hop,resolve,invoke,builtin,hs,hx,hrun,Result.andThen]
    exact hK
  | some ad =>
    have hbb:(n + m) * by'≤(n + m) * 100:=Nat.mul_le_mul_left _ hb'
    exact wp_append_own w s x t hop base e i z sz by' ht hi hz hsize hby hzs hs0 v n xs hs hown ad m cap ys hx hl (hc ad rfl) h1 (by unfold maxLen;omega) (by omega) hbase fun v' w' h1 h2 _ => h v' w' h1 h2
theorem list_appV {P:Program} {ops:Array Oper} {rest:List Oper} {o:Oper} {a:Act} {w:World} {Q:Exit→Act→World→Prop} (hgd:o.guard = none) (s x:Operand) (t:TypeId)
    (ho:o.op = .call { callee := .builtin .append,args:=#[s,x],argTypes:=#[t,t] })
    (base:Nat) (e:TypeId) (i:TypeInfo) (z:Value) (sz by':Nat) (ht:P.underlying t = some (.slice e)) (hi:P.info? e = some i) (hz:i.zero = some z) (hsize:i.size = sz) (hby:i.bytes = by') (hzs:z.cells.size = sz) (hs0:0 < sz)
    (v:Value) (n:Nat) (xs:List Value) (hs:a.eval s = v) (hown:w.ownsRow base e sz v n xs)
    (vx:Value) (m:Nat) (ys:List Value) (hx:a.eval x = vx) (hsrc:SrcV w sz vx m ys)
    (h63:n + m≤1099511627776) (hb':by'≤100) (hbase:base≤w.heap.size)
    (h:∀ v' w',w'.ownsRow base e sz v' (n + m) (xs ++ ys)→w.grownBy w' v.ownBlock→wpList P ops Q rest (a.put o.dst v') w'):wpList P ops Q (o :: rest) a w :=
  wpList_plain hgd fun _ hK => wp_appV s x t ho base e i z sz by' ht hi hz hsize hby hzs hs0 v n xs hs hown vx m ys hx hsrc h63 hb' hbase fun v' w' h2 h3 => hK _ _ (h v' w' h2 h3)
theorem step_appV {P:Program} {ops:Array Oper} {o:Oper} {a:Act} {w:World} {K:Act→World→Prop} {Q:Exit→Act→World→Prop} {E:Prop}
    (hg:o.guard = none) (s x:Operand) (t:TypeId) (hop:o.op = Op.call { callee:=Callee.builtin Builtin.append,args:=#[s,x],argTypes:=#[t,t] })
    (base:Nat) (e:TypeId) (i:TypeInfo) (z:Value) (sz by':Nat) (ht:P.underlying t = some (.slice e)) (hi:P.info? e = some i) (hz:i.zero = some z) (hsize:i.size = sz) (hby:i.bytes = by') (hzs:z.cells.size = sz) (hs0:0 < sz)
    (v:Value) (n:Nat) (xs:List Value) (hs:a.eval s = v) (hown:w.ownsRow base e sz v n xs)
    (vx:Value) (m:Nat) (ys:List Value) (hx:a.eval x = vx) (hsrc:SrcV w sz vx m ys)
    (h63:n + m≤1099511627776) (hb':by'≤100) (hbase:base≤w.heap.size)
    (h:∀ v' w',w'.ownsRow base e sz v' (n + m) (xs ++ ys)→w.grownBy w' v.ownBlock→K (a.put o.dst v') w') :
    if Region.wanted o (yielded ops a.tmps) = true then Oper.wp P o a w K Q else E:=by
  have hw:Region.wanted o (yielded ops a.tmps) = true:=by simp [Region.wanted,hg]
  rw [if_pos hw]
  exact wp_appV s x t hop base e i z sz by' ht hi hz hsize hby hzs hs0 v n xs hs hown vx m ys hx hsrc h63 hb' hbase h
end
section
open Go.ChangeShapes Go.WideShapes Go.ChangeAt Go.RowKit
attribute [local irreducible] Go.Calls
abbrev tiV (x:Prt) (v:Value) (n:Int) (s:Se) (b:Bool):List Value:=[.int .u8 x.kind,.int .u32 x.n,.int .u32 x.g,.int .i64 x.d,.int .i64 x.kids,v,.int .i64 n,.bool s.isSome,.int .i64 (seB s),.int .i64 (seE s),.bool b]
abbrev tiA (x:Prt) (v:Value) (n:Int) (s:Se) (b:Bool):Array Value:=#[.int .u8 x.kind,.int .u32 x.n,.int .u32 x.g,.int .i64 x.d,.int .i64 x.kids,v,.int .i64 n,.bool s.isSome,.int .i64 (seB s),.int .i64 (seE s),.bool b]
structure TV where
  t:TI
  a:Option Addr
  m:Nat
  c:Nat
abbrev TV.v (k:TV):Value := .slice k.a k.m k.c
abbrev TV.cells (k:TV):List Value:=tiV k.t.x k.v k.t.len k.t.se k.t.ok
abbrev TV.arr (k:TV):Array Value:=tiA k.t.x k.v k.t.len k.t.se k.t.ok
def cellsT:List TV→List Value
  | [] => []
  | k :: r => k.cells ++ cellsT r
theorem cellsT_len:∀ l,(cellsT l).length = l.length * 11
  | [] => rfl
  | k :: r => by simp only [cellsT,List.length_append,List.length_cons,List.length_nil,cellsT_len r];omega
theorem cellsT_app:∀ l r,cellsT (l ++ r) = cellsT l ++ cellsT r
  | [],_ => rfl
  | k :: l,r => by simp only [List.cons_append,cellsT,cellsT_app l r,List.append_assoc]
theorem cellsT_snoc (l:List TV) (k:TV):cellsT (l ++ [k]) = cellsT l ++ k.cells:=by rw [cellsT_app];simp [cellsT]
theorem cellsT_get:∀ (l:List TV) (i:Nat) (k:TV),l[i]? = some k→∀ (j:Nat) (u:Value),k.cells[j]? = some u→(cellsT l)[i * 11 + j]? = some u
  | [],i,k,h,_,_,_ => by simp at h
  | x :: l, 0, k, h, j, u, hu => by
    simp at h
    subst h
    have hj:=(List.getElem?_eq_some_iff.1 hu).1
    rw [cellsT,Nat.zero_mul,Nat.zero_add,List.getElem?_append_left hj];exact hu
  | x :: l, i + 1, k, h, j, u, hu => by
    rw [cellsT,List.getElem?_append_right (by simp;omega)]
    have:=cellsT_get l i k (by simpa using h) j u hu
    rw [← this]
    congr 1
    simp;omega
def KidsAt (w:World) (p:Nat) (x:Prt) (n:Int) (s:Se) (b:Bool) (l:List TV):Prop :=
  ∃ g cap,Blk w p (tiA x (.slice (some ⟨g,0,none⟩) l.length cap) n s b) 78∧g < w.heap.size∧l.length≤cap∧cap≤9223372036854775807∧(∀ j u,(cellsT l)[j]? = some u→w.cell? ⟨g,j,none⟩ = some u)∧g ≠ p
theorem kidsAt_own {w:World} {p:Nat} {x:Prt} {n:Int} {s:Se} {b:Bool} {l:List TV} {v:Value} {B m:Nat} {T:TypeId} (h:Blk w p (tiA x v n s b) 78) (ho:w.ownsRow B T 11 v l.length (cellsT l)) (hl:l.length = m + 1) (hpB:p < B):KidsAt w p x n s b l:=by
  obtain ⟨g,cap,e,h1,h2,h3,h4⟩:=ownP_pos (n:=m) (by rw [← hl];exact ho)
  rw [← hl] at e h3
  subst e
  exact ⟨g,cap,h,h2,h3,h4,fun j u hu => ownP_cell ho hu,by omega⟩
theorem KidsAt.past {w w':World} {p:Nat} {x:Prt} {n:Int} {s:Se} {b:Bool} {l:List TV} (h:KidsAt w p x n s b l) (hb:Below w.heap.size w w'):KidsAt w' p x n s b l:=by
  obtain ⟨g,cap,h1,h2,h3,h4,h5,h6⟩:=h
  exact ⟨g,cap,h1.past hb,Nat.lt_of_lt_of_le h2 hb.size,h3,h4,fun j u hu => (hb.cell (p:=⟨g,_,none⟩) h2).trans (h5 j u hu),h6⟩
theorem tiA_len {w:World} {p:Nat} {x:Prt} {v:Value} {n:Int} {s:Se} {b:Bool} {T:TypeId} (h:Blk w p (tiA x v n s b) T) (z:Int):Blk (w.setCell ⟨p,6,none⟩ (.int .i64 z)) p (tiA x v z s b) T:=by
  have h6:=h.set 6 (.int .i64 z)
  simp only [tiA,List.setIfInBounds_toArray,List.set_cons_zero,List.set_cons_succ] at h6
  exact h6
theorem KidsAt.len {w:World} {p:Nat} {x:Prt} {n:Int} {s:Se} {b:Bool} {l:List TV} (h:KidsAt w p x n s b l) (z:Int):KidsAt (w.setCell ⟨p,6,none⟩ (.int .i64 z)) p x z s b l:=by
  obtain ⟨g,cap,h1,h2,h3,h4,h5,h6⟩:=h
  exact ⟨g,cap,tiA_len h1 z,by simpa [World.setCell] using h2,h3,h4,fun j u hu => (World.cell?_of_block (a:=⟨g,j,none⟩) (Below.heap_setCell _ _ _ _ h6)).trans (h5 j u hu),h6⟩
theorem kid_cells {w:World} {g:Nat} {l:List TV} (h:∀ j u,(cellsT l)[j]? = some u→w.cell? ⟨g,j,none⟩ = some u) {i:Nat} {k:TV} (hi:l[i]? = some k) :
    w.cell? ⟨g,i * 11,none⟩ = some (.int .u8 k.t.x.kind)∧w.cell? ⟨g,i * 11 + 1,none⟩ = some (.int .u32 k.t.x.n)∧w.cell? ⟨g,i * 11 + 2,none⟩ = some (.int .u32 k.t.x.g)∧w.cell? ⟨g,i * 11 + 3,none⟩ = some (.int .i64 k.t.x.d)∧w.cell? ⟨g,i * 11 + 4,none⟩ = some (.int .i64 k.t.x.kids)∧w.cell? ⟨g,i * 11 + 5,none⟩ = some k.v ∧
    w.cell? ⟨g,i * 11 + 6,none⟩ = some (.int .i64 k.t.len)∧w.cell? ⟨g,i * 11 + 7,none⟩ = some (.bool k.t.se.isSome)∧w.cell? ⟨g,i * 11 + 8,none⟩ = some (.int .i64 (seB k.t.se))∧w.cell? ⟨g,i * 11 + 9,none⟩ = some (.int .i64 (seE k.t.se))∧w.cell? ⟨g,i * 11 + 10,none⟩ = some (.bool k.t.ok):=by
  have q:∀ (j:Nat) (u:Value),k.cells[j]? = some u→w.cell? ⟨g,i * 11 + j,none⟩ = some u:=fun j u hu => h _ _ (cellsT_get l i k hi j u hu)
  exact ⟨q 0 _ rfl,q 1 _ rfl,q 2 _ rfl,q 3 _ rfl,q 4 _ rfl,q 5 _ rfl,q 6 _ rfl,q 7 _ rfl,q 8 _ rfl,q 9 _ rfl,q 10 _ rfl⟩
theorem Tryz.infoTermS:(Tryz.prog.info? 78).map (fun i => (i.zero,i.size,i.bytes)) = some (some (.agg #[.int .u8 0,.int .u32 0,.int .u32 0,.int .i64 0,.int .i64 0,.slice none 0 0,.int .i64 0,.bool false,.int .i64 0,.int .i64 0,.bool false]),11,96):=by kernel_rfl
end
section
open Go.ChangeShapes Go.WideShapes Go.ChangeAt Go.RowKit
attribute [local irreducible] Go.Calls
theorem grown_drew (w:World) (r:Option Nat):w.grownBy w.drew r:=grown_any ((Below.refl _ w).drew)
theorem put_se {w:World} {p:Nat} {x:Prt} {v:Value} {n:Int} {q1:Bool} {q2 q3:Int} {ok:Bool} {T:TypeId} (h:Blk w p #[.int .u8 x.kind,.int .u32 x.n,.int .u32 x.g,.int .i64 x.d,.int .i64 x.kids,v,.int .i64 n,.bool q1,.int .i64 q2,.int .i64 q3,.bool ok] T) :
    (∀ z:Bool,Blk (w.setCell ⟨p,7,none⟩ (.bool z)) p #[.int .u8 x.kind,.int .u32 x.n,.int .u32 x.g,.int .i64 x.d,.int .i64 x.kids,v,.int .i64 n,.bool z,.int .i64 q2,.int .i64 q3,.bool ok] T)∧(∀ z:Int,Blk (w.setCell ⟨p,8,none⟩ (.int .i64 z)) p #[.int .u8 x.kind,.int .u32 x.n,.int .u32 x.g,.int .i64 x.d,.int .i64 x.kids,v,.int .i64 n,.bool q1,.int .i64 z,.int .i64 q3,.bool ok] T) ∧
    ∀ z:Int,Blk (w.setCell ⟨p,9,none⟩ (.int .i64 z)) p #[.int .u8 x.kind,.int .u32 x.n,.int .u32 x.g,.int .i64 x.d,.int .i64 x.kids,v,.int .i64 n,.bool q1,.int .i64 q2,.int .i64 z,.bool ok] T:=by
  refine ⟨fun z => ?_,fun z => ?_,fun z => ?_⟩
  · have:=h.set 7 (.bool z)
    simpa using this
  · have:=h.set 8 (.int .i64 z)
    simpa using this
  · have:=h.set 9 (.int .i64 z)
    simpa using this
set_option maxHeartbeats 2000000 in
set_option maxRecDepth 100000 in
theorem cover_c (w:World) (p:Nat) (x:Prt) (v:Value) (n:Int) (s:Se) (ok:Bool) (b e:Int) (h:Blk w p (tiA x v n s ok) 78) :
    Calls Tryz.prog 84 #[.pointer (some ⟨p,0,none⟩),.int .i64 b,.int .i64 e] w fun en w' => en = .returned (.tuple #[])∧Blk w' p (tiA x v n (jn s (some (b,e))) ok) 78∧w.grownBy w' (some p):=by
  have c7:=h.cell 7;have c8:=h.cell 8;have c9:=h.cell 9;have f7:=h.free 7;have f8:=h.free 8;have f9:=h.free 9;have pz:=h.lt
  simp at c7 c8 c9
  have HB:=hidE h
  clear h
  cases s with
  | none =>
    have h1:=((put_se HB.out).1 true)
    have h2:=((put_se h1).2.1 b)
    have h3:=((put_se h2).2.2 e)
    have H3:=hidE h3
    clear h1 h2 h3
    go_enter Tryz.func84,Tryz.ntmps84
    go_upto_region 2 with fail
    obtain ⟨w3,hw3⟩:∃ w3,w3 = ((w.setCell ⟨p,7,none⟩ (.bool true)).setCell ⟨p,8,none⟩ (.int .i64 b)).setCell ⟨p,9,none⟩ (.int .i64 e):=⟨_,rfl⟩
    rw [← hw3]
    have hB3:Blk w3 p #[.int .u8 x.kind,.int .u32 x.n,.int .u32 x.g,.int .i64 x.d,.int .i64 x.kids,v,.int .i64 n,.bool true,.int .i64 b,.int .i64 e,.bool ok] 78:=by rw [hw3];exact H3.out
    have hG3:w.grownBy w3 (some p):=by rw [hw3];exact grown_trans (grown_trans (grown_set _ _ _ _) (grown_set _ _ _ _)) (grown_set _ _ _ _)
    have d8:=hB3.cell 8;have d9:=hB3.cell 9;have g8:=hB3.free 8;have g9:=hB3.free 9;have qz:=hB3.lt
    simp at d8 d9
    have HB3:=hidE hB3;have HG3:=hidE hG3
    clear hw3 hB3 hG3 H3 c7 c8 c9 f7 f8 f9 pz HB
    go_region
    go_end0
    refine ⟨rfl, ?_, ?_⟩
    · exact ((put_se ((put_se HB3.out).2.1 b)).2.2 e)
    · exact grown_trans HG3.out (grown_trans (grown_trans (grown_set _ _ _ _) (grown_set _ _ _ _)) (grown_drew _ _))
  | some q =>
    obtain ⟨q1,q2⟩:=q
    change w.cell? ⟨p,7,none⟩ = some (.bool true) at c7
    change w.cell? ⟨p,8,none⟩ = some (.int .i64 q1) at c8
    change w.cell? ⟨p,9,none⟩ = some (.int .i64 q2) at c9
    obtain ⟨mb,hmb⟩:∃ m,m = min q1 b:=⟨_,rfl⟩
    obtain ⟨me,hme⟩:∃ m,m = max q2 e:=⟨_,rfl⟩
    have HF:=hidE (show Blk ((w.setCell ⟨p,8,none⟩ (.int .i64 mb)).setCell ⟨p,9,none⟩ (.int .i64 me)) p (tiA x v n (jn (some (q1,q2)) (some (b,e))) ok) 78 by
      have:=((put_se ((put_se HB.out).2.1 mb)).2.2 me)
      rw [hmb,hme] at this ⊢
      exact this)
    have hg:w.grownBy (((w.setCell ⟨p,8,none⟩ (.int .i64 mb)).setCell ⟨p,9,none⟩ (.int .i64 me)).drew) (some p):=grown_trans (grown_trans (grown_set _ _ _ _) (grown_set _ _ _ _)) (grown_drew _ _)
    have HG:=hidE hg
    clear hg HB
    have hc:(b < q1∧q2 < e) ∨ (b < q1∧¬ q2 < e) ∨ (¬ b < q1∧q2 < e) ∨ (¬ b < q1∧¬ q2 < e):=by omega
    rcases hc with hc | hc | hc | hc
    · obtain ⟨hb,he⟩:=hc
      have hm1:mb = b:=by rw [hmb];omega
      have hm2:me = e:=by rw [hme];omega
      rw [hm1,hm2] at HF HG
      clear hmb hme hm1 hm2
      go_enter Tryz.func84,Tryz.ntmps84
      go_upto_region 2 with fail
      go_region
      go_end0
      first | exact ⟨rfl,HF.out,HG.out⟩ | (rw [show min q1 b = b by omega,show max q2 e = e by omega];exact ⟨rfl,HF.out,HG.out⟩)
    · obtain ⟨hb,he⟩:=hc
      have hm1:mb = b:=by rw [hmb];omega
      have hm2:me = q2:=by rw [hme];omega
      rw [hm1,hm2] at HF HG
      clear hmb hme hm1 hm2
      go_enter Tryz.func84,Tryz.ntmps84
      go_upto_region 2 with fail
      go_region
      go_end0
      first | exact ⟨rfl,HF.out,HG.out⟩ | (rw [show min q1 b = b by omega,show max q2 e = q2 by omega];exact ⟨rfl,HF.out,HG.out⟩)
    · obtain ⟨hb,he⟩:=hc
      have hm1:mb = q1:=by rw [hmb];omega
      have hm2:me = e:=by rw [hme];omega
      rw [hm1,hm2] at HF HG
      clear hmb hme hm1 hm2
      go_enter Tryz.func84,Tryz.ntmps84
      go_upto_region 2 with fail
      go_region
      go_end0
      first | exact ⟨rfl,HF.out,HG.out⟩ | (rw [show min q1 b = q1 by omega,show max q2 e = e by omega];exact ⟨rfl,HF.out,HG.out⟩)
    · obtain ⟨hb,he⟩:=hc
      have hm1:mb = q1:=by rw [hmb];omega
      have hm2:me = q2:=by rw [hme];omega
      rw [hm1,hm2] at HF HG
      clear hmb hme hm1 hm2
      go_enter Tryz.func84,Tryz.ntmps84
      go_upto_region 2 with fail
      go_region
      go_end0
      first | exact ⟨rfl,HF.out,HG.out⟩ | (rw [show min q1 b = q1 by omega,show max q2 e = q2 by omega];exact ⟨rfl,HF.out,HG.out⟩)
abbrev putT (w:World) (g n:Nat) (k:TV):World :=
  ((((((((((w.setCell ⟨g,n * 11,none⟩ (.int .u8 k.t.x.kind)).setCell ⟨g,n * 11 + 1,none⟩ (.int .u32 k.t.x.n)).setCell ⟨g,n * 11 + 2,none⟩ (.int .u32 k.t.x.g)).setCell ⟨g,n * 11 + 3,none⟩ (.int .i64 k.t.x.d)).setCell ⟨g,n * 11 + 4,none⟩ (.int .i64 k.t.x.kids)).setCell ⟨g,n * 11 + 5,none⟩ k.v).setCell ⟨g,n * 11 + 6,none⟩ (.int .i64 k.t.len)).setCell ⟨g,n * 11 + 7,none⟩ (.bool k.t.se.isSome)).setCell ⟨g,n * 11 + 8,none⟩ (.int .i64 (seB k.t.se))).setCell ⟨g,n * 11 + 9,none⟩ (.int .i64 (seE k.t.se))).setCell ⟨g,n * 11 + 10,none⟩ (.bool k.t.ok)
theorem grown_below {a wb w':World} {r:Option Nat} (_:wb.grownBy w' r) (h:Below a.heap.size a wb):Below a.heap.size a wb:=h
theorem setT_at {xs ys:List Value} {n j:Nat} (hx:xs.length = n * 11) (u:Value):(xs ++ ys).set (n * 11 + j) u = xs ++ ys.set j u:=by
  rw [List.set_append_right _ _ (by omega)]
  congr 2;omega
theorem putT_own {w:World} {B g n cap:Nat} {T:TypeId} {xs:List Value} {a0 a1 a2 a3 a4 a5 a6 a7 a8 a9 a10:Value} (h:w.ownsRow B T 11 (.slice (some ⟨g,0,none⟩) (n + 1) cap) (n + 1) (xs ++ [a0,a1,a2,a3,a4,a5,a6,a7,a8,a9,a10])) (hx:xs.length = n * 11) (k:TV) :
    (putT w g n k).ownsRow B T 11 (.slice (some ⟨g,0,none⟩) (n + 1) cap) (n + 1) (xs ++ k.cells)∧w.grownBy (putT w g n k) (some g):=by
  have s0:=h.stored (n * 11) (.int .u8 k.t.x.kind)
  rw [show n * 11 = n * 11 + 0 from rfl,setT_at hx] at s0
  simp only [Nat.add_zero,List.set_cons_zero] at s0
  have s1:=s0.1.stored (n * 11 + 1) (.int .u32 k.t.x.n)
  rw [setT_at hx] at s1
  have s2:=s1.1.stored (n * 11 + 2) (.int .u32 k.t.x.g)
  rw [setT_at hx] at s2
  have s3:=s2.1.stored (n * 11 + 3) (.int .i64 k.t.x.d)
  rw [setT_at hx] at s3
  have s4:=s3.1.stored (n * 11 + 4) (.int .i64 k.t.x.kids)
  rw [setT_at hx] at s4
  have s5:=s4.1.stored (n * 11 + 5) (k.v)
  rw [setT_at hx] at s5
  have s6:=s5.1.stored (n * 11 + 6) (.int .i64 k.t.len)
  rw [setT_at hx] at s6
  have s7:=s6.1.stored (n * 11 + 7) (.bool k.t.se.isSome)
  rw [setT_at hx] at s7
  have s8:=s7.1.stored (n * 11 + 8) (.int .i64 (seB k.t.se))
  rw [setT_at hx] at s8
  have s9:=s8.1.stored (n * 11 + 9) (.int .i64 (seE k.t.se))
  rw [setT_at hx] at s9
  have s10:=s9.1.stored (n * 11 + 10) (.bool k.t.ok)
  rw [setT_at hx] at s10
  simp only [List.set_cons_succ,List.set_cons_zero] at s10
  exact ⟨s10.1,(grown_trans (grown_trans (grown_trans (grown_trans (grown_trans (grown_trans (grown_trans (grown_trans (grown_trans (grown_trans s0.2 s1.2) s2.2) s3.2) s4.2) s5.2) s6.2) s7.2) s8.2) s9.2) s10.2)⟩
def TakeR (B p:Nat) (x:Prt) (s:Se) (va:Value) (l:List TV) (k:TV) (w W:World):Prop :=
  ∃ v',Blk W p (tiA x v' 0 s false) 78∧W.ownsRow B 78 11 v' (l.length + 1) (cellsT l ++ k.cells)∧Tw p va.ownBlock w W∧Blk W w.heap.size k.arr 78∧(v'.ownBlock = va.ownBlock ∨ ∃ j,v'.ownBlock = some j∧w.heap.size≤j)
theorem take_both {B p g' cp':Nat} {x:Prt} {s:Se} {va:Value} {l:List TV} {k:TV} {w w1 wb w':World} {a0 a1 a2 a3 a4 a5 a6 a7 a8 a9 a10:Value} (hb:Blk w p (tiA x va 0 s false) 78) (ho:w.ownsRow B 78 11 va l.length (cellsT l)) (hpB:p < B) (h1:Below w.heap.size w w1) (hk:Blk w1 w.heap.size k.arr 78) (hbw:Below w1.heap.size w1 wb) (hg:wb.grownBy w' va.ownBlock)
    (own':w'.ownsRow B 78 11 (.slice (some ⟨g',0,none⟩) (l.length + 1) cp') (l.length + 1) (cellsT l ++ [a0,a1,a2,a3,a4,a5,a6,a7,a8,a9,a10])) (hgB:B≤g') (hat:(Value.slice (some ⟨g',0,none⟩) (l.length + 1) cp').ownBlock = va.ownBlock ∨ (Value.slice (some ⟨g',0,none⟩) (l.length + 1) cp').ownBlock = some wb.heap.size) :
    TakeR B p x s va l k w ((putT w' g' l.length k).setCell ⟨p,5,none⟩ (.slice (some ⟨g',0,none⟩) (l.length + 1) cp'))∧TakeR B p x s va l k w (putT (w'.setCell ⟨p,5,none⟩ (.slice (some ⟨g',0,none⟩) (l.length + 1) cp')) g' l.length k):=by
  have hxl:=cellsT_len l
  have s1:=h1.size;have sb:=hbw.size;have kz:=hk.lt;have pz:=hb.lt
  have hlt:∀ j,va.ownBlock = some j→j < w.heap.size∧B≤j:=fun j e => ⟨own_lt ho e,own_block ho e⟩
  have hgk:g' ≠ w.heap.size:=by
    rcases hat with c | c
    · have:=hlt g' c.symm;omega
    · have c:g' = wb.heap.size:=Option.some.inj c;omega
  have hq:Blk w' p (tiA x va 0 s false) 78:=((hb.below h1 pz).past hbw).grown hg fun e => by have:=hlt p e.symm;omega
  have hkk:Blk w' w.heap.size k.arr 78:=(hk.past hbw).grown hg fun e => by have:=hlt _ e.symm;omega
  have t0:Tw p va.ownBlock w w':=(Tw.past h1).trans ((Tw.past (r:=va.ownBlock) hbw).trans (Tw.row hg)) |>.trans (Tw.past (Below.refl _ _))
  have hgn:∀ j,j < w.heap.size→some j ≠ va.ownBlock→j ≠ g':=fun j hj hne e => by
    rcases hat with c | c
    · exact hne (by rw [e];exact c)
    · have c:g' = wb.heap.size:=Option.some.inj c;omega
  have tw2:∀ {W:World},Tw p (some g') w' W→Tw p va.ownBlock w W:=fun h => ⟨h.os.trans t0.os,h.tape.trans t0.tape,h.output.trans t0.output,Nat.le_trans t0.size h.size,fun j a b c => (h.block j (Nat.lt_of_lt_of_le a t0.size) b (fun e => hgn j a c (Option.some.inj e))).trans (t0.block j a b c)⟩
  have hnew:(Value.slice (some ⟨g',0,none⟩) (l.length + 1) cp').ownBlock = va.ownBlock ∨ ∃ j,(Value.slice (some ⟨g',0,none⟩) (l.length + 1) cp').ownBlock = some j∧w.heap.size≤j:=by
    rcases hat with c | c
    · exact .inl c
    · exact .inr ⟨_,c,by omega⟩
  constructor
  · have hp:=putT_own own' hxl k
    have hq2:Blk (putT w' g' l.length k) p (tiA x va 0 s false) 78:=hq.grown hp.2 (by simp;omega)
    have h5:=hq2.set 5 (.slice (some ⟨g',0,none⟩) (l.length + 1) cp')
    simp only [tiA,List.setIfInBounds_toArray,List.set_cons_zero,List.set_cons_succ] at h5
    refine ⟨_,h5,ownsRow_setCell_below hp.1 (by show p < B;omega) _,tw2 ((Tw.row hp.2).trans (Tw.put _ _ _ _ _)),(hkk.grown hp.2 (by simp;omega)).other (by omega) _,hnew⟩
  · have hp:=putT_own (ownsRow_setCell_below own' (a:=⟨p,5,none⟩) (by show p < B;omega) (.slice (some ⟨g',0,none⟩) (l.length + 1) cp')) hxl k
    have h5:=hq.set 5 (.slice (some ⟨g',0,none⟩) (l.length + 1) cp')
    simp only [tiA,List.setIfInBounds_toArray,List.set_cons_zero,List.set_cons_succ] at h5
    refine ⟨_,Blk.grown (cs:=tiA x (.slice (some ⟨g',0,none⟩) (l.length + 1) cp') 0 s false) h5 hp.2 (by simp;omega),hp.1,tw2 ((Tw.put _ _ _ _ _).trans (Tw.row hp.2)),(hkk.other (by omega) _).grown hp.2 (by simp;omega),hnew⟩
set_option maxHeartbeats 4000000 in
set_option maxRecDepth 100000 in
theorem take_se (B p:Nat) (x:Prt) (va:Value) (s:Se) (l:List TV) (k:TV) (se:Se) (hse:k.t.se = se) (w:World) (hb:Blk w p (tiA x va 0 s false) 78) (ho:w.ownsRow B 78 11 va l.length (cellsT l)) (hpB:p < B) (hB:B≤w.heap.size) (hl:l.length≤100) :
    Calls Tryz.prog 61 #[.pointer (some ⟨p,0,none⟩),.agg k.arr] w fun e w' => e = .returned (.tuple #[])∧∃ v',Blk w' p (tiA x v' 0 (jn s se) false) 78∧w'.ownsRow B 78 11 v' (l.length + 1) (cellsT l ++ k.cells)∧Tw p va.ownBlock w w'∧(v'.ownBlock = va.ownBlock ∨ ∃ j,v'.ownBlock = some j∧w.heap.size≤j):=by
  have HSE:=hidE hse
  clear hse
  obtain ⟨aa,ca,rfl⟩:=own_sli ho
  obtain ⟨ix,hix,hz0,hzz,hz4⟩:=info_parts Tryz.infoTermS
  have HIX:=hidE hix;have HZ0:=hidE hz0;have HY1:=hidE hzz;have HY2:=hidE hz4
  have HB:=hidE hb;have HO:=hidE ho
  have hxl:=cellsT_len l
  have pz:=hb.lt
  have HKT:=hidE (rfl:k.arr = k.arr)
  clear hix hz0 hzz hz4 hb ho
  go_enter Tryz.func61,Tryz.ntmps61
  go_upto_region 1 with fail
  obtain ⟨w1,hw1⟩:∃ w1,w1 = w.alloc (.cells (tiA k.t.x k.v k.t.len k.t.se k.t.ok) 78):=⟨_,rfl⟩
  rw [← hw1]
  have hb1:Below w.heap.size w w1:=by rw [hw1];(repeat (first | exact Below.refl _ _ | assumption | refine balloc ?_ _ | refine below_drewN ?_ _ | refine bstep (by assumption) ?_ | refine bstep (Past.prop _) ?_ | refine Below.setCell ?_ (by first | exact Nat.le_refl _ | (simp;done) | (simp;omega)) _))
  have hk1:Blk w1 w.heap.size k.arr 78:=by rw [hw1];exact Blk.made _ _ _
  have HP1:=hidE (HB.out.below hb1 pz);have HO1:=hidE (own_below HO.out hb1)
  have HK1:=hidE hk1;have HB1:=hidE hb1
  have p5:=HP1.out.cell 5;have pf:=HP1.out.free 5;have pz1:=HP1.out.lt
  have k0:=hk1.cell 0;have k1:=hk1.cell 1;have k2:=hk1.cell 2;have k3:=hk1.cell 3;have k4:=hk1.cell 4;have k5:=hk1.cell 5;have k6:=hk1.cell 6;have k7:=hk1.cell 7;have k8:=hk1.cell 8;have k9:=hk1.cell 9;have k10:=hk1.cell 10;have kz:=hk1.lt
  simp at p5 k0 k1 k2 k3 k4 k5 k6 k7 k8 k9 k10
  have hrl:∀ j,(Value.slice aa l.length ca).ownBlock = some j→B≤j∧j < w.heap.size:=fun j hj => ⟨own_block HO.out hj,own_lt HO.out hj⟩
  have HRL:=hidE hrl
  have HBOTH:=hidE (fun wb w' g' cp' a0 a1 a2 a3 a4 a5 a6 a7 a8 a9 a10 hbw hg own' hgB hat => take_both (w':=w') (wb:=wb) (g':=g') (cp':=cp') (a0:=a0) (a1:=a1) (a2:=a2) (a3:=a3) (a4:=a4) (a5:=a5) (a6:=a6) (a7:=a7) (a8:=a8) (a9:=a9) (a10:=a10) HB.out HO.out hpB HB1.out HK1.out hbw hg own' hgB hat)
  clear hw1 hb1 hk1 hrl
  go_cut [] (fun wx => TakeR B p x s (.slice aa l.length ca) l k w wx)
  case first =>
    go_region_law ((refine step_appT rfl (.tmp 7) (.tmp 10) 76 rfl B 78 ix _ 11 96 Tryz.underlying76 HIX.out HZ0.out HY1.out HY2.out rfl (by decide) (.slice aa l.length ca) l.length (cellsT l) rfl (own_below HO1.out (by (repeat (first | exact Below.refl _ _ | assumption | refine balloc ?_ _ | refine below_drewN ?_ _ | refine bstep (by assumption) ?_ | refine bstep (Past.prop _) ?_ | refine Below.setCell ?_ (by first | exact Nat.le_refl _ | (simp;done) | (simp;omega)) _)))) _ 1 1 [.int .u8 0,.int .u32 0,.int .u32 0,.int .i64 0,.int .i64 0,.slice none 0 0,.int .i64 0,.bool false,.int .i64 0,.int .i64 0,.bool false] rfl rfl (blkT_news (Blk.made_at _ _ _ _ (by first | rfl | (simp;done)))) (by intro y hy;simp at hy;rcases hy with rfl | rfl | rfl | rfl | rfl | rfl | rfl | rfl | rfl | rfl | rfl <;> rfl) (by omega) (by omega) (by simp;omega) ?_;intro v' w' own' hg' hat';obtain ⟨g',cp',rfl,hgB,hgz,hcp,hcp2⟩:=ownP_pos own';have hne5:some w.heap.size ≠ (Value.slice aa l.length ca).ownBlock:=(fun e => (by have:=HRL.out _ e.symm;omega));have hnep:some p ≠ (Value.slice aa l.length ca).ownBlock:=(fun e => (by have:=HRL.out _ e.symm;omega));have xk:=(HK1.out.past (show Below w1.heap.size w1 _ from by (repeat (first | exact Below.refl _ _ | assumption | refine balloc ?_ _ | refine below_drewN ?_ _ | refine bstep (by assumption) ?_ | refine bstep (Past.prop _) ?_ | refine Below.setCell ?_ (by first | exact Nat.le_refl _ | (simp;done) | (simp;omega)) _)))).grown hg' hne5;have xp:=(HP1.out.past (show Below w1.heap.size w1 _ from by (repeat (first | exact Below.refl _ _ | assumption | refine balloc ?_ _ | refine below_drewN ?_ _ | refine bstep (by assumption) ?_ | refine bstep (Past.prop _) ?_ | refine Below.setCell ?_ (by first | exact Nat.le_refl _ | (simp;done) | (simp;omega)) _)))).grown hg' hnep;have x0:=xk.cell 0;have x1:=xk.cell 1;have x2:=xk.cell 2;have x3:=xk.cell 3;have x4:=xk.cell 4;have x5:=xk.cell 5;have x6:=xk.cell 6;have x7:=xk.cell 7;have x8:=xk.cell 8;have x9:=xk.cell 9;have x10:=xk.cell 10;have xz:=xk.lt;have xp5:=xp.cell 5;have xpf:=xp.free 5;have xpz:=xp.lt;have r0:=ownP_cell (j:=l.length * 11 + 0) own' (by rw [List.getElem?_append_right (by omega),hxl,Nat.add_sub_cancel_left];rfl);have r1:=ownP_cell (j:=l.length * 11 + 1) own' (by rw [List.getElem?_append_right (by omega),hxl,Nat.add_sub_cancel_left];rfl);have r2:=ownP_cell (j:=l.length * 11 + 2) own' (by rw [List.getElem?_append_right (by omega),hxl,Nat.add_sub_cancel_left];rfl);have r3:=ownP_cell (j:=l.length * 11 + 3) own' (by rw [List.getElem?_append_right (by omega),hxl,Nat.add_sub_cancel_left];rfl);have r4:=ownP_cell (j:=l.length * 11 + 4) own' (by rw [List.getElem?_append_right (by omega),hxl,Nat.add_sub_cancel_left];rfl);have r5:=ownP_cell (j:=l.length * 11 + 5) own' (by rw [List.getElem?_append_right (by omega),hxl,Nat.add_sub_cancel_left];rfl);have r6:=ownP_cell (j:=l.length * 11 + 6) own' (by rw [List.getElem?_append_right (by omega),hxl,Nat.add_sub_cancel_left];rfl);have r7:=ownP_cell (j:=l.length * 11 + 7) own' (by rw [List.getElem?_append_right (by omega),hxl,Nat.add_sub_cancel_left];rfl);have r8:=ownP_cell (j:=l.length * 11 + 8) own' (by rw [List.getElem?_append_right (by omega),hxl,Nat.add_sub_cancel_left];rfl);have r9:=ownP_cell (j:=l.length * 11 + 9) own' (by rw [List.getElem?_append_right (by omega),hxl,Nat.add_sub_cancel_left];rfl);have r10:=ownP_cell (j:=l.length * 11 + 10) own' (by rw [List.getElem?_append_right (by omega),hxl,Nat.add_sub_cancel_left];rfl);have e0:=own'.frozenAt (l.length * 11);have e1:=own'.frozenAt (l.length * 11 + 1);have e2:=own'.frozenAt (l.length * 11 + 2);have e3:=own'.frozenAt (l.length * 11 + 3);have e4:=own'.frozenAt (l.length * 11 + 4);have e5:=own'.frozenAt (l.length * 11 + 5);have e6:=own'.frozenAt (l.length * 11 + 6);have e7:=own'.frozenAt (l.length * 11 + 7);have e8:=own'.frozenAt (l.length * 11 + 8);have e9:=own'.frozenAt (l.length * 11 + 9);have e10:=own'.frozenAt (l.length * 11 + 10);simp at x0 x1 x2 x3 x4 x5 x6 x7 x8 x9 x10 xp5 r0 r1 r2 r3 r4 r5 r6 r7 r8 r9 r10;have hDl:(l.length:Int) < (l.length:Int) + 1:=(by omega);have XP:=hidE xp;clear xk xp))
    all_goals
      go_wp2
      go_meet
      case rel =>
        have hbw:=grown_below (a:=w1) hg' (by (repeat (first | exact Below.refl _ _ | assumption | refine balloc ?_ _ | refine below_drewN ?_ _ | refine bstep (by assumption) ?_ | refine bstep (Past.prop _) ?_ | refine Below.setCell ?_ (by first | exact Nat.le_refl _ | (simp;done) | (simp;omega)) _)))
        have h:=HBOTH.out _ _ _ _ _ _ _ _ _ _ _ _ _ _ _ hbw hg' own' hgB hat'
        first
          | with_reducible exact h.1
          | with_reducible exact h.2
  case rest =>
    obtain ⟨v',r1,r2,r3,r4,r5⟩:=hcut
    have d7:=r4.cell 7;have d8:=r4.cell 8;have d9:=r4.cell 9;have dz:=r4.lt;have qz:=r1.lt
    have R1:=hidE r1;have R2:=hidE r2;have R3:=hidE r3;have R5:=hidE r5
    clear p5 pf pz1 k0 k1 k2 k3 k4 k5 k6 k7 k8 k9 k10 kz HBOTH HP1 HO1 HK1 HB1 HB HO HRL r1 r2 r3 r4 r5
    change wc.cell? ⟨w.heap.size,7,none⟩ = some (.bool k.t.se.isSome) at d7
    change wc.cell? ⟨w.heap.size,8,none⟩ = some (.int .i64 (seB k.t.se)) at d8
    change wc.cell? ⟨w.heap.size,9,none⟩ = some (.int .i64 (seE k.t.se)) at d9
    rw [HSE.out] at d7 d8 d9
    clear HSE
    cases se with
    | none =>
      change wc.cell? ⟨w.heap.size,7,none⟩ = some (.bool false) at d7
      go_wp2
      go_end0
      exact ⟨rfl,v',R1.out,R2.out,R3.out,R5.out⟩
    | some q =>
      obtain ⟨b,e⟩:=q
      change wc.cell? ⟨w.heap.size,7,none⟩ = some (.bool true) at d7
      change wc.cell? ⟨w.heap.size,8,none⟩ = some (.int .i64 b) at d8
      change wc.cell? ⟨w.heap.size,9,none⟩ = some (.int .i64 e) at d9
      have HC:=hidE (cover_c wc p x v' 0 s false b e R1.out)
      go_wp2_with (go_at_call 84;((with_reducible refine HC.out.mono ?_);rintro e w2 ⟨rfl,hb2,hg2⟩))
      go_end0
      exact ⟨rfl,v',hb2,own_grown R2.out hg2 hpB,R3.out.trans (Tw.one hg2),R5.out⟩
theorem take_c (B p:Nat) (x:Prt) (va:Value) (s:Se) (l:List TV) (k:TV) (w:World) (hb:Blk w p (tiA x va 0 s false) 78) (ho:w.ownsRow B 78 11 va l.length (cellsT l)) (hpB:p < B) (hB:B≤w.heap.size) (hl:l.length≤100) :
    Calls Tryz.prog 61 #[.pointer (some ⟨p,0,none⟩),.agg k.arr] w fun e w' => e = .returned (.tuple #[])∧∃ v',Blk w' p (tiA x v' 0 (jn s k.t.se) false) 78∧w'.ownsRow B 78 11 v' (l.length + 1) (cellsT l ++ k.cells)∧Tw p va.ownBlock w w'∧(v'.ownBlock = va.ownBlock ∨ ∃ j,v'.ownBlock = some j∧w.heap.size≤j) :=
  take_se B p x va s l k k.t.se rfl w hb ho hpB hB hl
end
section
open Go.ChangeShapes Go.WideShapes Go.ChangeAt Go.RowKit
attribute [local irreducible] Go.Calls
def PcOk (W:List Pc):Prop:=∀ p ∈ W, -1099511627776≤p.2∧p.2≤1099511627776
theorem place_take {W:List Pc} {k:Nat} {q:Pc} (h:W[k]? = some q) (o:Nat) (d:Int):placeI (W.take (k + 1)) o d = if q.1 = (o:Int) then jn (placeI (W.take k) o d) (some (q.2,q.2 + d)) else placeI (W.take k) o d:=by
  unfold placeI
  rw [List.take_add_one,h,List.foldl_append]
  rfl
abbrev witV (pa:Option Addr) (n cap:Nat) (wa:Option Addr) (m wcap:Nat):Value := .agg #[.slice pa n cap,.slice wa m wcap]
set_option maxHeartbeats 2000000 in
set_option maxRecDepth 100000 in
theorem place_c (w:World) (p:Nat) (x:Prt) (v:Value) (n:Int) (ok:Bool) (pa wa:Option Addr) (ln cap wcap o:Nat) (W:List Pc) (h:Blk w p (tiA x v n none ok) 78) (hW:ArgVs w wa W) (hp:0 < W.length→∀ b off,wa = some ⟨b,off,none⟩→b ≠ p) (hWl:W.length≤100000) (hPc:PcOk W) (hd:0≤x.d∧x.d≤4096) (_ho:o≤100000) :
    Calls Tryz.prog 59 #[witV pa ln cap wa W.length wcap,.pointer (some ⟨p,0,none⟩),.int .i64 o] w fun e w' => e = .returned (.tuple #[])∧Blk w' p (tiA x v n (placeI W o x.d) ok) 78∧w.grownBy w' (some p):=by
  have HB:=hidE h;have HW:=hidE hW;have HP:=hidE hp;have HPC:=hidE hPc
  have pz:=h.lt
  have d1:=hd.1;have d2:=hd.2
  clear h hW hp hPc hd
  go_enter Tryz.func59,Tryz.ntmps59
  go_wp2_with fail
  obtain ⟨w1,hw1⟩:∃ w1,w1 = w.alloc (.cells #[.slice pa ln cap,.slice wa W.length wcap] 100):=⟨_,rfl⟩
  have hb1:Below w.heap.size w w1:=by rw [hw1];(repeat (first | exact Below.refl _ _ | assumption | refine balloc ?_ _ | refine below_drewN ?_ _ | refine bstep (by assumption) ?_ | refine bstep (Past.prop _) ?_ | refine Below.setCell ?_ (by first | exact Nat.le_refl _ | (simp;done) | (simp;omega)) _))
  have HB1:=hidE hb1
  rw [← hw1]
  clear hw1
  go_loopg [11] W.length (fun gh v11 wr => ∃ k:Nat,v11 = .int .i64 k∧k≤W.length∧W.length - k≤gh∧Blk wr p (tiA x v n (placeI (W.take k) o x.d) ok) 78∧w.grownBy wr (some p))
  case atStart => exact ⟨0,rfl,Nat.zero_le _,Nat.le_refl _,HB.out.below hb1 pz,grown_any hb1⟩
  case round =>
    obtain ⟨k,rfl,hk,hgh,hb,hg⟩:=hrel
    have HGH:=hidE hgh;have HBR:=hidE hb;have HG:=hidE hg
    clear hgh hb hg hb1
    by_cases hlt:k < W.length
    · have q1:decide ((k:Int) < (W.length:Int)) = true:=decide_eq_true (by omega)
      have q2:decide (k < W.length) = true:=decide_eq_true hlt
      obtain ⟨q,hq⟩:∃ q,W[k]? = some q:=⟨W[k],by rw [List.getElem?_eq_getElem hlt]⟩
      have hgd:W.getD k (0,0) = q:=by rw [List.getD_eq_getElem?_getD,hq];rfl
      obtain ⟨b,off,rfl,hbz,hc⟩:=HW.out (by omega)
      have hne:=HP.out (by omega) b off rfl
      have hblk:=HG.out.block b hbz (fun e => hne (Option.some.inj e))
      obtain ⟨m0,m1⟩:=hc k hlt
      rw [hgd] at m0 m1
      have k0:=(World.cell?_of_block (a:=⟨b,off + k * 2,none⟩) hblk).trans m0
      have k1:=(World.cell?_of_block (a:=⟨b,off + k * 2 + 1,none⟩) hblk).trans m1
      have bz:=Nat.lt_of_lt_of_le hbz HG.out.size
      have hpc:=HPC.out q (List.mem_of_getElem? hq)
      have pc1:=hpc.1;have pc2:=hpc.2
      have HT:=hidE (place_take hq o x.d)
      clear hgd hblk hc m0 m1 hpc hq
      obtain ⟨q1',q2'⟩:=q
      simp only at k0 k1 pc1 pc2
      have d3:=HBR.out.cell 3;have pz2:=HBR.out.lt
      simp at d3
      by_cases hqo:q1' = (o:Int)
      · have r1:(q1' == (o:Int)) = true:=by simpa using hqo
        have HN:=hidE (show placeI (W.take (k + 1)) o x.d = jn (placeI (W.take k) o x.d) (some (q2',q2' + x.d)) by rw [HT.out,if_pos hqo])
        clear hqo
        generalize placeI (W.take k) o x.d = s at *
        have HCV:=hidE (fun (w':World) (hb:Blk w' p (tiA x v n s ok) 78) => cover_c w' p x v n s ok q2' (q2' + x.d) hb)
        have z1:IntKind.i64.wrap (q2' + x.d) = q2' + x.d:=IntWalk.i64_in _ (by omega)
        go_upto_region 5 with fail
        go_region_with (go_at_call 84;(with_reducible refine (HCV.out _ (HBR.out.past (((Below.refl _ _).alloc (Nat.le_refl _) _).drew))).mono ?_);rintro e w2 ⟨rfl,hb2,hg2⟩)
        all_goals
          have H2:=hidE hb2;have G2:=hidE hg2
          clear hb2 hg2
          go_wp2
          go_roundg (W.length - (k + 1))
          case measure => have:=HGH.out;omega
          case rel => exact ⟨k + 1,by go_num,by omega,Nat.le_refl _,by rw [HN.out];exact H2.out,grown_trans HG.out (grown_trans (grown_any (((Below.refl _ _).alloc (Nat.le_refl _) _).drew)) G2.out)⟩
      · have r1:(q1' == (o:Int)) = false:=by simpa using hqo
        have HN:=hidE (show placeI (W.take (k + 1)) o x.d = placeI (W.take k) o x.d by rw [HT.out,if_neg hqo])
        clear hqo
        go_wp2
        go_roundg (W.length - (k + 1))
        case measure => have:=HGH.out;omega
        case rel => exact ⟨k + 1,by go_num,by omega,Nat.le_refl _,by rw [HN.out];exact HBR.out.past (by (repeat (first | exact Below.refl _ _ | assumption | refine balloc ?_ _ | refine below_drewN ?_ _ | refine bstep (by assumption) ?_ | refine bstep (Past.prop _) ?_ | refine Below.setCell ?_ (by first | exact Nat.le_refl _ | (simp;done) | (simp;omega)) _))),grown_trans HG.out (grown_any (by (repeat (first | exact Below.refl _ _ | assumption | refine balloc ?_ _ | refine below_drewN ?_ _ | refine bstep (by assumption) ?_ | refine bstep (Past.prop _) ?_ | refine Below.setCell ?_ (by first | exact Nat.le_refl _ | (simp;done) | (simp;omega)) _))))⟩
    · obtain rfl:k = W.length:=by omega
      have q1:decide ((W.length:Int) < (W.length:Int)) = false:=decide_eq_false (by omega)
      have q2:decide (W.length < W.length) = false:=decide_eq_false (by omega)
      rw [List.take_length] at HBR
      go_wp2
      go_end0
      exact ⟨rfl,HBR.out,HG.out⟩
end
section
open Go.ChangeShapes Go.WideShapes Go.ChangeAt Go.RowKit
attribute [local irreducible] Go.Calls
theorem run_store_fnK {P:Program} {w:World} {a:Addr} {m:Mode} {f:Fn} {l r:Array Value}:(store a (.func f l r) m).run P w = stored P w a (.func f l r) m:=run_store P w a _ m rfl
attribute [local go_sem] run_store_fnK
abbrev fnV (n:Nat):Value := .func (.func n) #[] #[]
abbrev kindsV:Array Value:=#[fnV 86,fnV 87,fnV 88,fnV 89,fnV 90,fnV 89,fnV 91,fnV 92,fnV 93,fnV 94]
set_option maxRecDepth 100000 in
set_option maxHeartbeats 2000000 in
theorem kinds_c (w:World):Calls Tryz.prog 62 #[] w fun e w' => e = .returned (.agg kindsV)∧Below w.heap.size w w':=by
  go_enter Tryz.func62,Tryz.ntmps62
  go_wp2
  exact bodyPost_ret (v := .agg kindsV) (by simp [results,Tryz.results62,go_sem]) rfl ⟨rfl,by (repeat (first | exact Below.refl _ _ | assumption | refine balloc ?_ _ | refine below_drewN ?_ _ | refine bstep (by assumption) ?_ | refine bstep (Past.prop _) ?_ | refine Below.setCell ?_ (by first | exact Nat.le_refl _ | (simp;done) | (simp;omega)) _))⟩
theorem wchildren_c (pa wa:Option Addr) (n cap m wcap o:Nat) (w:World):Calls Tryz.prog 60 #[witV pa n cap wa m wcap,.int .i64 o] w fun e w' => e = .returned (.func (.func 85) #[] #[.pointer (some ⟨w.heap.size,0,none⟩),.pointer (some ⟨w.heap.size + 1,0,none⟩)])∧Blk w' w.heap.size #[.slice pa n cap,.slice wa m wcap] 100∧Blk w' (w.heap.size + 1) #[.int .i64 o] 3∧Below w.heap.size w w':=by
  go_enter Tryz.func60,Tryz.ntmps60
  go_wp2
  go_ret
  exact ⟨rfl,(Blk.made _ _ _).alloc _,Blk.made_at _ _ _ _ (by simp),by (repeat (first | exact Below.refl _ _ | assumption | refine balloc ?_ _ | refine below_drewN ?_ _ | refine bstep (by assumption) ?_ | refine bstep (Past.prop _) ?_ | refine Below.setCell ?_ (by first | exact Nat.le_refl _ | (simp;done) | (simp;omega)) _))⟩
end
section
open Go.RowKit
structure Outside (n₀ n₁:Nat) (W W':World):Prop where
  below:Below n₀ W W'
  beyond:∀ k,n₁≤k→k < W.heap.size→W'.heap[k]? = W.heap[k]?
theorem Outside.trans {n₀ n₁:Nat} {A B C:World} (h:Outside n₀ n₁ A B) (k:Outside n₀ n₁ B C):Outside n₀ n₁ A C :=
  ⟨h.below.trans k.below,fun i hi hl => (k.beyond i hi (Nat.lt_of_lt_of_le hl h.below.size)).trans (h.beyond i hi hl)⟩
theorem Outside.of_below {n₀ n₁:Nat} {A B:World} (h:Below A.heap.size A B) (hn:n₀≤A.heap.size):Outside n₀ n₁ A B:=⟨h.mono hn,fun k _ hl => h.block k hl⟩
theorem Outside.weak {n₀ n₁ n₁':Nat} {A B:World} (h:Outside n₀ n₁ A B) (hn:n₁≤n₁'):Outside n₀ n₁' A B:=⟨h.below,fun k hk hl => h.beyond k (by omega) hl⟩
theorem Outside.of_grown {n₀ n₁ p:Nat} {A B:World} (h:A.grownBy B (some p)) (h0:n₀≤p) (h1:p < n₁) (h2:n₀≤A.heap.size):Outside n₀ n₁ A B :=
  ⟨⟨h.os,h.tape,h.output,h.size,fun k hk => h.block k (by omega) (fun e => by cases e;omega)⟩,fun k hk hl => h.block k hl (fun e => by cases e;omega)⟩
def SeqT {α:Type} (P:Program) (gf:Nat) (rb lb:Array Value) (encs:α→Array Value) (n₀:Nat) (S:List α) (w:World):Prop :=
  ∀ (l : Nat) (J Jx : List α → World → Prop) (W : World), Below w.heap.size w W →
    (∀ s A B,J s A→Below W.heap.size A B→J s B)→(∀ s A B,Jx s A→Below W.heap.size A B→Jx s B) →
    (∀ pre x W1,J pre W1→pre ++ [x] <+: S→YieldAt Fence.wide 0 P l (encs x) W1 fun e W' =>
      (e = .returned (.bool true)∧J (pre ++ [x]) W'∧Outside n₀ W.heap.size W1 W') ∨ (e = .returned (.bool false)∧Jx (pre ++ [x]) W')) →
    J [] W →
    Calls P gf (rb ++ #[.func (.yield l) #[] #[]] ++ lb) W fun e W' => (∃ v,e = .returned v)∧(J S W' ∨ ∃ pre,pre <+: S∧Jx pre W')
def postT {α:Type} (n₀ n₁:Nat) (I:List α→World→Prop) (Ix:Code→List α→World→Prop) (xs:List α) (W:World):Exit→Act→World→Prop
  | .normal,_,W' => Outside n₀ n₁ W W'∧I xs W'
  | .ret,_,W' => Outside n₀ n₁ W W'∧Ix .ret xs W'
  | .exit id,_,W' => Outside n₀ n₁ W W'∧Ix (.exit id) xs W'
  | .goto t,_,W' => Outside n₀ n₁ W W'∧Ix (.goto t) xs W'
  | .panic _,_,_ => False
  | .outgrown,_,_ => False
theorem below_putObj {B:Nat} (W:World) (l:Nat) (o:Obj) (h:B≤l):Below B W (W.putObj l o) :=
  ⟨rfl,rfl,rfl,by simp,fun k hk => World.putObj_heap_other (by omega)⟩
theorem grown_putObj (W:World) (l:Nat) (o:Obj):W.grownBy (W.putObj l o) (some l) :=
  ⟨rfl,rfl,rfl,by simp,fun k _ hk => World.putObj_heap_other (fun e => hk (by rw [e]))⟩
theorem wp_rangeFunc_T {α:Type} {P:Program} {g:Operand} {ps:Array Tmp} {assign body:Code} {Q:Exit→Act→World→Prop} {a:Act} {w:World}
    {gf:Nat} {rb lb:Array Value} (hg:a.eval g = .func (.func gf) rb lb) (eg:∀ args w,(callFunc gf args).run P w = .ok (.enter gf args) w)
    {encs:α→Array Value} {n₀:Nat} (hn₀:n₀≤w.heap.size) {S:List α} (hseq:SeqT P gf rb lb encs n₀ S w) (hps:∀ x,(encs x).size = ps.size)
    (I:List α→World→Prop) (Ix:Code→List α→World→Prop) (hI:∀ s A B,I s A→Below w.heap.size A B→I s B) (hIx:∀ c s A B,Ix c s A→Below w.heap.size A B→Ix c s B) (h0:I [] w)
    (Ax:α→Act→World→Prop) (hAx:∀ x a' A l r o,Ax x a' A→A.heap[l]? = some (.loop r)→Ax x a' (A.putObj l o))
    (hassign:∀ (l:Nat) (pre:List α) (x:α) (W:World) (K:Act→World→Prop),w.heap.size≤W.heap.size→I pre W→(∀ a' W',Outside n₀ w.heap.size W W'→I pre W'→Ax x a' W'→K a' W') →
      assign.wpIn (Fence.wide.inRound l) 0 P (Exit.then K (fun _ _ _ => False)) { tmps:=(ps.zip (encs x)).foldl (fun t (p,v) => t.setIfInBounds p v) a.tmps,defers:=[] } W)
    (hbody:∀ (l:Nat) (pre:List α) (x:α) (a':Act) (W:World),w.heap.size≤W.heap.size→I pre W→Ax x a' W→pre ++ [x] <+: S→body.wpIn (Fence.wide.inRound l) 0 P (postT n₀ w.heap.size I Ix (pre ++ [x]) W) a' W)
    (hdone:∀ (D:Nat) (W:World),w.heap.size≤D→I S W→W.heap[D]? = some (.deferred (some []))→Q .normal { a with defers:={ target := .collected D,args:=#[] } :: a.defers } W)
    (hstop:∀ (D:Nat) (c:Code) (pre:List α) (W:World),w.heap.size≤D→pre <+: S→Ix c pre W→W.heap[D]? = some (.deferred (some []))→c.wp P Q { a with defers:={ target := .collected D,args:=#[] } :: a.defers } W) :
    (Code.rangeFunc g ps assign body).wp P Q a w:=by
  refine (wpIn_wide (n:=0)).1 (wpIn_rangeFunc ?_)
  intro fn hfn
  obtain ⟨rec,hrec⟩:∃ rec:LoopState→Option Code→Loop,rec = fun st pe => { state:=st,pending:=pe,fn,tmps:=a.tmps,params:=ps,assign,body,defers:=w.heap.size }:=⟨_,rfl⟩
  obtain ⟨W1,hW1⟩:∃ W1,(w.alloc (.deferred (some []))).alloc (.loop (rec .ready none)) = W1:=⟨_,rfl⟩
  have hL1:W1.heap[w.heap.size + 1]? = some (.loop (rec .ready none)):=by
    rw [← hW1];have:=World.alloc_heap_new (w.alloc (.deferred (some []))) (.loop (rec .ready none));rwa [World.size_alloc] at this
  have hK1:W1.heap[w.heap.size]? = some (.deferred (some [])):=by
    rw [← hW1];exact (Below.heap_alloc _ _ _ (by simp)).trans (World.alloc_heap_new w _)
  have hb1:Below w.heap.size w W1:=by
    rw [← hW1];exact ((Below.refl _ w).alloc (Nat.le_refl _) _).alloc (by simp) _
  have hs1:W1.heap.size = w.heap.size + 2:=by rw [← hW1];simp
  have hI1:I [] W1:=hI _ _ _ h0 hb1
  refine ⟨w.heap.size + 1,[{ target := .collected w.heap.size,args:=#[] }],W1,{ target := .fn (.func gf) lb,args:=rb ++ #[.func (.yield (w.heap.size + 1)) #[] #[]] },W1,gf,
    rb ++ #[.func (.yield (w.heap.size + 1)) #[] #[]] ++ lb,W1, ?_, ?_, ?_, ?_,fun h => by simp [Fence.wide] at h, ?_⟩
  · rw [← hW1,hrec];exact run_enterLoop_outer _ _ _ _ _
  · simp only [resolve,hg]
    simp [go_sem,Deferred.ofValue]
  · intro f' hf';trivial
  · simp [invoke,go_sem,eg]
  · refine callsIn_wide.2 ?_
    refine (hseq (w.heap.size + 1)
      (fun pre W => I pre W∧W.heap[w.heap.size + 1]? = some (.loop (rec .ready none))∧W.heap[w.heap.size]? = some (.deferred (some []))∧w.heap.size≤W.heap.size)
      (fun pre W => ∃ c,Ix c pre W∧W.heap[w.heap.size + 1]? = some (.loop (rec .done (some c)))∧W.heap[w.heap.size]? = some (.deferred (some [])))
      W1 hb1
      (fun s A B hs hg' => ⟨hI s A B hs.1 (hg'.mono (by omega)),(hg'.block _ (by omega)).trans hs.2.1,(hg'.block _ (by omega)).trans hs.2.2.1,Nat.le_trans hs.2.2.2 hg'.size⟩)
      (fun s A B hs hg' => by
        obtain ⟨c,hc,hl,hk⟩:=hs
        exact ⟨c,hIx c s A B hc (hg'.mono (by omega)),(hg'.block _ (by omega)).trans hl,(hg'.block _ (by omega)).trans hk⟩)
      ?_ ⟨hI1,hL1,hK1,hb1.size⟩).mono ?_
    · -- one round
      rintro pre x W ⟨hi,hl,hk,hsz⟩ hpre
      have hlt:w.heap.size + 1 < W.heap.size:=(Array.getElem?_eq_some_iff.1 hl).1
      have hy:=run_yield (P:=P) (args:=encs x) hl (by rw [hrec];exact hps x)
      rw [hrec] at hy
      refine ⟨fn,_,assign,body,hy,roundIn_of_wpIn trivial (hassign _ pre x W _ hsz hi ?_)⟩
      clear hy
      intro a' Wa hoa hia hax
      have hla:=(hoa.beyond _ (by omega) hlt).trans hl
      have hka:=(hoa.beyond _ (Nat.le_refl _) (by omega)).trans hk
      have hlta:w.heap.size + 1 < Wa.heap.size:=Nat.lt_of_lt_of_le hlt hoa.below.size
      refine ⟨_,run_beginRound hla (by rw [hrec]), ?_⟩
      have hl2:(Wa.putObj (w.heap.size + 1) (.loop { rec .ready none with state := .busy })).heap[w.heap.size + 1]? = some (.loop { rec .ready none with state := .busy }):=World.putObj_heap_same hlta
      have hk2:(Wa.putObj (w.heap.size + 1) (.loop { rec .ready none with state := .busy })).heap[w.heap.size]? = some (.deferred (some [])):=(World.putObj_heap_other (by omega)).trans hka
      have hb2:Below w.heap.size Wa (Wa.putObj (w.heap.size + 1) (.loop { rec .ready none with state := .busy })):=below_putObj _ _ _ (by omega)
      refine wpIn_mono (hbody _ pre x a' _ (by simp;omega) (hI _ _ _ hia hb2) (hAx _ _ _ _ _ _ hax hla) hpre) ?_
      have fin:∀ (jump:Option Code) (W3:World),Outside n₀ w.heap.size (Wa.putObj (w.heap.size + 1) (.loop { rec .ready none with state := .busy })) W3 →
          (Instr.endRound (w.heap.size + 1) jump).run P W3 = .ok (.bool jump.isNone) (W3.putObj (w.heap.size + 1) (.loop (rec (if jump.isNone then .ready else .done) jump))) ∧
          (W3.putObj (w.heap.size + 1) (.loop (rec (if jump.isNone then .ready else .done) jump))).heap[w.heap.size + 1]? = some (.loop (rec (if jump.isNone then .ready else .done) jump)) ∧
          (W3.putObj (w.heap.size + 1) (.loop (rec (if jump.isNone then .ready else .done) jump))).heap[w.heap.size]? = some (.deferred (some [])) ∧
          Below w.heap.size W3 (W3.putObj (w.heap.size + 1) (.loop (rec (if jump.isNone then .ready else .done) jump))) ∧
          Outside n₀ W1.heap.size W (W3.putObj (w.heap.size + 1) (.loop (rec (if jump.isNone then .ready else .done) jump))):=fun jump W3 ho3 => by
        have hl3:=(ho3.beyond (w.heap.size + 1) (by omega) (by simp;omega)).trans hl2
        have hk3:=(ho3.beyond w.heap.size (Nat.le_refl _) (by simp;omega)).trans hk2
        have hr:=run_endRound (P:=P) jump hl3
        have hsz3:w.heap.size + 1 < W3.heap.size:=(Array.getElem?_eq_some_iff.1 hl3).1
        refine ⟨?_,World.putObj_heap_same hsz3,(World.putObj_heap_other (by omega)).trans hk3,below_putObj _ _ _ (by omega), ?_⟩
        · rw [hrec] at hr ⊢;exact hr
        · have e1:Outside n₀ W1.heap.size Wa (Wa.putObj (w.heap.size + 1) (.loop { rec .ready none with state := .busy })):=Outside.of_grown (grown_putObj _ _ _) (by omega) (by omega) (by omega)
          have e2:Outside n₀ W1.heap.size W3 (W3.putObj (w.heap.size + 1) (.loop (rec (if jump.isNone then .ready else .done) jump))):=Outside.of_grown (grown_putObj _ _ _) (by omega) (by omega) (by omega)
          exact (((hoa.weak (by omega)).trans e1).trans (ho3.weak (by omega))).trans e2
      rintro e a3 W3 hp
      cases e with
      | normal =>
        obtain ⟨hk3,hi3⟩:=hp
        obtain ⟨hr,hl4,hk4,hb4,ho4⟩:=fin none W3 hk3
        exact ⟨_,_,hr,.inl ⟨rfl,⟨hI _ _ _ hi3 hb4,hl4,hk4,Nat.le_trans (by have:=hk3.below.size;simp at this;omega) hb4.size⟩,ho4⟩⟩
      | ret =>
        obtain ⟨hk3,hi3⟩:=hp
        obtain ⟨hr,hl4,hk4,hb4,ho4⟩:=fin (some .ret) W3 hk3
        exact ⟨_,_,hr,.inr ⟨rfl,.ret,hIx _ _ _ _ hi3 hb4,hl4,hk4⟩⟩
      | exit id =>
        obtain ⟨hk3,hi3⟩:=hp
        obtain ⟨hr,hl4,hk4,hb4,ho4⟩:=fin (some (.exit id)) W3 hk3
        exact ⟨_,_,hr,.inr ⟨rfl,.exit id,hIx _ _ _ _ hi3 hb4,hl4,hk4⟩⟩
      | goto t =>
        obtain ⟨hk3,hi3⟩:=hp
        obtain ⟨hr,hl4,hk4,hb4,ho4⟩:=fin (some (.goto t)) W3 hk3
        exact ⟨_,_,hr,.inr ⟨rfl,.goto t,hIx _ _ _ _ hi3 hb4,hl4,hk4⟩⟩
      | panic ch => exact hp.elim
      | outgrown => exact hp.elim
    · -- behind the iterator
      rintro e W2 ⟨⟨v,rfl⟩,(⟨hi,hl,hk,_⟩ | ⟨pre,hSp,c,hi,hl,hk⟩)⟩
      · exact ⟨none,_,by have:=run_endLoop (P:=P) hl (by rw [hrec];simp);rw [hrec] at this;exact this,hdone _ _ (Nat.le_refl _) (hI _ _ _ hi (below_putObj _ _ _ (by omega))) ((World.putObj_heap_other (by omega)).trans hk)⟩
      · exact ⟨some c,_,by have:=run_endLoop (P:=P) hl (by rw [hrec];simp);rw [hrec] at this;exact this,(wpIn_wide (n:=0)).2 (hstop _ c pre _ (Nat.le_refl _) hSp (hIx _ _ _ _ hi (below_putObj _ _ _ (by omega))) ((World.putObj_heap_other (by omega)).trans hk))⟩
end
section
open Go.RowKit
def SeqX {α:Type} (P:Program) (gf:Nat) (rb lb:Array Value) (encs:α→Array Value) (n₀:Nat) (K:World→Prop) (S:List α) (w:World):Prop :=
  ∀ (l : Nat) (J : List α → Option (Nat × Nat) → World → Prop) (Jx : List α → World → Prop) (W : World), Below w.heap.size w W →
    (∀ s g A B,J s g A→Below W.heap.size A B→(∀ b k,g = some (b,k)→B.heap[k]? = A.heap[k]?)→J s g B)→(∀ s g A,J s g A→∀ b k,g = some (b,k)→b≤k∧k < A.heap.size)→(∀ s g A,J s g A→K A)→(∀ s A B,Jx s A→Below W.heap.size A B→Jx s B) →
    (∀ pre x g W1,J pre g W1→W.heap.size≤W1.heap.size→pre ++ [x] <+: S→YieldAt Fence.wide 0 P l (encs x) W1 fun e W' =>
      (e = .returned (.bool true)∧∃ g',J (pre ++ [x]) g' W'∧Below n₀ W1 W'∧(∀ k,W.heap.size≤k→k < W1.heap.size→(∀ b,g ≠ some (b,k))→W'.heap[k]? = W1.heap[k]?)∧(∀ b k,g' = some (b,k)→W1.heap.size≤b ∨ ∃ j,g = some (b,j))) ∨ (e = .returned (.bool false)∧Jx (pre ++ [x]) W')) →
    J [] none W →
    Calls P gf (rb ++ #[.func (.yield l) #[] #[]] ++ lb) W fun e W' => (∃ v,e = .returned v)∧((∃ g,J S g W') ∨ ∃ pre,pre <+: S∧Jx pre W')
def postX {α:Type} (n₀ n₁:Nat) (I:List α→Option (Nat × Nat)→World→Prop) (Ix:List α→World→Prop) (xs:List α) (g:Option (Nat × Nat)) (W:World):Exit→Act→World→Prop
  | .normal,_,W' => ∃ g',I xs g' W'∧Below n₀ W W'∧(∀ k,n₁≤k→k < W.heap.size→(∀ b,g ≠ some (b,k))→W'.heap[k]? = W.heap[k]?)∧(∀ b k,g' = some (b,k)→W.heap.size≤b ∨ ∃ j,g = some (b,j))
  | .ret,_,W' => Ix xs W'∧(∀ k,n₁≤k→k < n₁ + 2→k < W.heap.size→W'.heap[k]? = W.heap[k]?)
  | _,_,_ => False
theorem wp_rangeFunc_X {α:Type} {P:Program} {gop:Operand} {ps:Array Tmp} {assign body:Code} {Q:Exit→Act→World→Prop} {a:Act} {w:World}
    {gf:Nat} {rb lb:Array Value} (hg:a.eval gop = .func (.func gf) rb lb) (eg:∀ args w,(callFunc gf args).run P w = .ok (.enter gf args) w)
    {encs:α→Array Value} {n₀:Nat} (hn₀:n₀≤w.heap.size) {S:List α} {K:World→Prop} (hseq:SeqX P gf rb lb encs n₀ K S w) (hps:∀ x,(encs x).size = ps.size)
    (I:List α→Option (Nat × Nat)→World→Prop) (hI:∀ s g A B,I s g A→Below w.heap.size A B→(∀ b k,g = some (b,k)→B.heap[k]? = A.heap[k]?)→I s g B) (hIg:∀ s g A,I s g A→∀ b k,g = some (b,k)→b≤k∧k < A.heap.size) (hIK:∀ s g A,I s g A→K A) (h0:I [] none w)
    (Ix:List α→World→Prop) (hIx:∀ s A B,Ix s A→Below w.heap.size A B→Ix s B)
    (Ax:α→Act→World→Prop) (hAx:∀ x a' A l r o,Ax x a' A→A.heap[l]? = some (.loop r)→Ax x a' (A.putObj l o))
    (hassign:∀ (l:Nat) (pre:List α) (x:α) (g:Option (Nat × Nat)) (W:World) (K':Act→World→Prop),w.heap.size≤W.heap.size→I pre g W→(∀ a' W',Below W.heap.size W W'→I pre g W'→Ax x a' W'→K' a' W') →
      assign.wpIn (Fence.wide.inRound l) 0 P (Exit.then K' (fun _ _ _ => False)) { tmps:=(ps.zip (encs x)).foldl (fun t (p,v) => t.setIfInBounds p v) a.tmps,defers:=[] } W)
    (hbody:∀ (l:Nat) (pre:List α) (x:α) (g:Option (Nat × Nat)) (a':Act) (W:World),w.heap.size≤W.heap.size→I pre g W→Ax x a' W→pre ++ [x] <+: S→body.wpIn (Fence.wide.inRound l) 0 P (postX n₀ w.heap.size I Ix (pre ++ [x]) g W) a' W)
    (hdone:∀ (D:Nat) (g:Option (Nat × Nat)) (W:World),D = w.heap.size→I S g W→(∀ b k,g = some (b,k)→w.heap.size + 2≤b)→W.heap[D]? = some (.deferred (some []))→Q .normal { a with defers:={ target := .collected D,args:=#[] } :: a.defers } W)
    (hstop:∀ (D:Nat) (pre:List α) (W:World),D = w.heap.size→pre <+: S→Ix pre W→W.heap[D]? = some (.deferred (some []))→Code.ret.wp P Q { a with defers:={ target := .collected D,args:=#[] } :: a.defers } W) :
    (Code.rangeFunc gop ps assign body).wp P Q a w:=by
  refine (wpIn_wide (n:=0)).1 (wpIn_rangeFunc ?_)
  intro fn hfn
  obtain ⟨rec,hrec⟩:∃ rec:LoopState→Option Code→Loop,rec = fun st pe => { state:=st,pending:=pe,fn,tmps:=a.tmps,params:=ps,assign,body,defers:=w.heap.size }:=⟨_,rfl⟩
  obtain ⟨W1,hW1⟩:∃ W1,(w.alloc (.deferred (some []))).alloc (.loop (rec .ready none)) = W1:=⟨_,rfl⟩
  have hL1:W1.heap[w.heap.size + 1]? = some (.loop (rec .ready none)):=by
    rw [← hW1];have:=World.alloc_heap_new (w.alloc (.deferred (some []))) (.loop (rec .ready none));rwa [World.size_alloc] at this
  have hK1:W1.heap[w.heap.size]? = some (.deferred (some [])):=by
    rw [← hW1];exact (Below.heap_alloc _ _ _ (by simp)).trans (World.alloc_heap_new w _)
  have hb1:Below w.heap.size w W1:=by
    rw [← hW1];exact ((Below.refl _ w).alloc (Nat.le_refl _) _).alloc (by simp) _
  have hs1:W1.heap.size = w.heap.size + 2:=by rw [← hW1];simp
  have hI1:I [] none W1:=hI _ _ _ _ h0 hb1 (fun b k hk => by cases hk)
  refine ⟨w.heap.size + 1,[{ target := .collected w.heap.size,args:=#[] }],W1,{ target := .fn (.func gf) lb,args:=rb ++ #[.func (.yield (w.heap.size + 1)) #[] #[]] },W1,gf,
    rb ++ #[.func (.yield (w.heap.size + 1)) #[] #[]] ++ lb,W1, ?_, ?_, ?_, ?_,fun h => by simp [Fence.wide] at h, ?_⟩
  · rw [← hW1,hrec];exact run_enterLoop_outer _ _ _ _ _
  · simp only [resolve,hg]
    simp [go_sem,Deferred.ofValue]
  · intro f' hf';trivial
  · simp [invoke,go_sem,eg]
  · refine callsIn_wide.2 ?_
    refine (hseq (w.heap.size + 1)
      (fun pre g W => I pre g W∧W.heap[w.heap.size + 1]? = some (.loop (rec .ready none))∧W.heap[w.heap.size]? = some (.deferred (some []))∧w.heap.size≤W.heap.size∧∀ b k,g = some (b,k)→w.heap.size + 2≤b)
      (fun pre W => Ix pre W∧W.heap[w.heap.size + 1]? = some (.loop (rec .done (some .ret)))∧W.heap[w.heap.size]? = some (.deferred (some [])))
      W1 hb1
      (fun s g A B hs hb hk => ⟨hI s g A B hs.1 (hb.mono (by omega)) hk,(hb.block _ (by omega)).trans hs.2.1,(hb.block _ (by omega)).trans hs.2.2.1,Nat.le_trans hs.2.2.2.1 hb.size,hs.2.2.2.2⟩)
      (fun s g A hs b k hk => hIg s g A hs.1 b k hk)
      (fun s g A hs => hIK s g A hs.1)
      (fun s A B hs hb => ⟨hIx s A B hs.1 (hb.mono (by omega)),(hb.block _ (by omega)).trans hs.2.1,(hb.block _ (by omega)).trans hs.2.2⟩)
      ?_ ⟨hI1,hL1,hK1,hb1.size,fun b k hk => by cases hk⟩).mono ?_
    · -- one round
      rintro pre x g W ⟨hi,hl,hk,hsz,hg0⟩ hW1z hpre
      have hlt:w.heap.size + 1 < W.heap.size:=(Array.getElem?_eq_some_iff.1 hl).1
      have hy:=run_yield (P:=P) (args:=encs x) hl (by rw [hrec];exact hps x)
      rw [hrec] at hy
      refine ⟨fn,_,assign,body,hy,roundIn_of_wpIn trivial (hassign _ pre x g W _ hsz hi ?_)⟩
      clear hy
      intro a' Wa hoa hia hax
      have hla:=(hoa.block (w.heap.size + 1) hlt).trans hl
      have hka:=(hoa.block w.heap.size (by omega)).trans hk
      have hlta:w.heap.size + 1 < Wa.heap.size:=Nat.lt_of_lt_of_le hlt hoa.size
      refine ⟨_,run_beginRound hla (by rw [hrec]), ?_⟩
      have hl2:(Wa.putObj (w.heap.size + 1) (.loop { rec .ready none with state := .busy })).heap[w.heap.size + 1]? = some (.loop { rec .ready none with state := .busy }):=World.putObj_heap_same hlta
      have hk2:(Wa.putObj (w.heap.size + 1) (.loop { rec .ready none with state := .busy })).heap[w.heap.size]? = some (.deferred (some [])):=(World.putObj_heap_other (by omega)).trans hka
      have hb2:Below w.heap.size Wa (Wa.putObj (w.heap.size + 1) (.loop { rec .ready none with state := .busy })):=below_putObj _ _ _ (by omega)
      refine wpIn_mono (hbody _ pre x g a' _ (by have:=hoa.size;simp;omega) (hI _ _ _ _ hia hb2 (fun b k hk => World.putObj_heap_other (fun e => by have:=hg0 b k hk;have:=(hIg _ _ _ hi b k hk).1;omega))) (hAx _ _ _ _ _ _ hax hla) hpre) ?_
      rintro e a3 W3 hp
      cases e with
      | normal =>
        obtain ⟨g',hi3,hb3,hk3,hg3⟩:=hp
        have hz3:=hb3.size
        have hl3:=(hk3 (w.heap.size + 1) (by omega) (by simp;omega) (fun b e => by have:=hg0 b _ e;have:=(hIg _ _ _ hi b _ e).1;omega)).trans hl2
        have hd3:=(hk3 w.heap.size (Nat.le_refl _) (by simp;omega) (fun b e => by have:=hg0 b _ e;have:=(hIg _ _ _ hi b _ e).1;omega)).trans hk2
        have hr:=run_endRound (P:=P) (none:Option Code) hl3
        have hsz3:w.heap.size + 1 < W3.heap.size:=(Array.getElem?_eq_some_iff.1 hl3).1
        have hzz:W.heap.size≤W3.heap.size:=by have:=hoa.size;simp at hz3;omega
        have hg0':∀ b k,g' = some (b,k)→w.heap.size + 2≤b:=fun b k e => by
          rcases hg3 b k e with h | ⟨j,h⟩
          · simp at h
            have:=hoa.size
            omega
          · exact hg0 b j h
        have hb4:Below w.heap.size W3 (W3.putObj (w.heap.size + 1) (.loop (rec .ready none))):=below_putObj _ _ _ (by omega)
        refine ⟨.bool true,W3.putObj (w.heap.size + 1) (.loop (rec .ready none)), ?_,.inl ⟨rfl,g',⟨hI _ _ _ _ hi3 hb4 (fun b k hk => World.putObj_heap_other (fun e => by have:=hg0' b k hk;have:=(hIg _ _ _ hi3 b k hk).1;omega)),World.putObj_heap_same hsz3,(World.putObj_heap_other (by omega)).trans hd3,by simp;omega,hg0'⟩, ?_, ?_, ?_⟩⟩
        · rw [hrec] at hr ⊢;exact hr
        · exact ((hoa.mono (by omega)).trans (hb2.mono hn₀)).trans (hb3.trans (hb4.mono hn₀))
        · intro k h1 h2 h3
          have h4:k ≠ w.heap.size + 1:=by omega
          exact (World.putObj_heap_other h4).trans ((hk3 k (by omega) (by have:=hoa.size;simp;omega) h3).trans ((World.putObj_heap_other h4).trans (hoa.block k h2)))
        · intro b k e
          rcases hg3 b k e with h | h
          · exact .inl (by have:=hoa.size;simp at h;omega)
          · exact .inr h
      | ret =>
        obtain ⟨hi3,hk3⟩:=hp
        have hl3:=(hk3 (w.heap.size + 1) (by omega) (by omega) (by simp;omega)).trans hl2
        have hd3:=(hk3 w.heap.size (Nat.le_refl _) (by omega) (by simp;omega)).trans hk2
        have hr:=run_endRound (P:=P) (some Code.ret) hl3
        have hsz3:w.heap.size + 1 < W3.heap.size:=(Array.getElem?_eq_some_iff.1 hl3).1
        refine ⟨.bool false,W3.putObj (w.heap.size + 1) (.loop (rec .done (some .ret))), ?_,.inr ⟨rfl,hIx _ _ _ hi3 (below_putObj _ _ _ (by omega)),World.putObj_heap_same hsz3,(World.putObj_heap_other (by omega)).trans hd3⟩⟩
        rw [hrec] at hr ⊢;exact hr
      | exit id => exact hp.elim
      | goto t => exact hp.elim
      | panic ch => exact hp.elim
      | outgrown => exact hp.elim
    · -- behind the iterator
      rintro e W2 ⟨⟨v,rfl⟩,(⟨g,hi,hl,hk,hz,hg0⟩ | ⟨pre,hSp,hi,hl,hk⟩)⟩
      · exact ⟨none,_,by have:=run_endLoop (P:=P) hl (by rw [hrec];simp);rw [hrec] at this;exact this,hdone _ g _ rfl (hI _ _ _ _ hi (below_putObj _ _ _ (by omega)) (fun b k hk => World.putObj_heap_other (fun e => by have:=hg0 b k hk;have:=(hIg _ _ _ hi b k hk).1;omega))) hg0 ((World.putObj_heap_other (by omega)).trans hk)⟩
      · exact ⟨some .ret,_,by have:=run_endLoop (P:=P) hl (by rw [hrec];simp);rw [hrec] at this;exact this,(wpIn_wide (n:=0)).2 (hstop _ pre _ rfl hSp (hIx _ _ _ hi (below_putObj _ _ _ (by omega))) ((World.putObj_heap_other (by omega)).trans hk))⟩
end
section
open Go.RowKit
def SeqV {α β:Type} (P:Program) (gf:Nat) (rb lb:Array Value) (encs:β→Array Value) (key:β→α) (n₀:Nat) (K:World→Prop) (S:List α) (w:World):Prop :=
  ∀ (l : Nat) (J : List β → Option (Nat × Nat) → World → Prop) (Jx : List β → World → Prop) (W : World), Below w.heap.size w W →
    (∀ s g A B,J s g A→Below W.heap.size A B→(∀ b k,g = some (b,k)→B.heap[k]? = A.heap[k]?)→J s g B)→(∀ s g A,J s g A→∀ b k,g = some (b,k)→b≤k∧k < A.heap.size)→(∀ s g A,J s g A→K A)→(∀ s A B,Jx s A→Below W.heap.size A B→Jx s B) →
    (∀ pre x g W1,J pre g W1→W.heap.size≤W1.heap.size→(pre ++ [x]).map key <+: S→YieldAt Fence.wide 0 P l (encs x) W1 fun e W' =>
      (e = .returned (.bool true)∧∃ g',J (pre ++ [x]) g' W'∧Below n₀ W1 W'∧(∀ k,W.heap.size≤k→k < W1.heap.size→(∀ b,g ≠ some (b,k))→W'.heap[k]? = W1.heap[k]?)∧(∀ b k,g' = some (b,k)→W1.heap.size≤b ∨ ∃ j,g = some (b,j))) ∨ (e = .returned (.bool false)∧Jx (pre ++ [x]) W')) →
    J [] none W →
    Calls P gf (rb ++ #[.func (.yield l) #[] #[]] ++ lb) W fun e W' => (∃ v,e = .returned v)∧((∃ full g,full.map key = S∧J full g W') ∨ ∃ pre:List β,pre.map key <+: S∧Jx pre W')
theorem wp_rangeFunc_V {α β:Type} {P:Program} {gop:Operand} {ps:Array Tmp} {assign body:Code} {Q:Exit→Act→World→Prop} {a:Act} {w:World}
    {gf:Nat} {rb lb:Array Value} (hg:a.eval gop = .func (.func gf) rb lb) (eg:∀ args w,(callFunc gf args).run P w = .ok (.enter gf args) w)
    {encs:β→Array Value} {key:β→α} {n₀:Nat} (hn₀:n₀≤w.heap.size) {S:List α} {K:World→Prop} (hseq:SeqV P gf rb lb encs key n₀ K S w) (hps:∀ x,(encs x).size = ps.size)
    (I:List β→Option (Nat × Nat)→World→Prop) (hI:∀ s g A B,I s g A→Below w.heap.size A B→(∀ b k,g = some (b,k)→B.heap[k]? = A.heap[k]?)→I s g B) (hIg:∀ s g A,I s g A→∀ b k,g = some (b,k)→b≤k∧k < A.heap.size) (hIK:∀ s g A,I s g A→K A) (h0:I [] none w)
    (Ix:List β→World→Prop) (hIx:∀ s A B,Ix s A→Below w.heap.size A B→Ix s B)
    (Ax:β→Act→World→Prop) (hAx:∀ x a' A l r o,Ax x a' A→A.heap[l]? = some (.loop r)→Ax x a' (A.putObj l o))
    (hassign:∀ (l:Nat) (pre:List β) (x:β) (g:Option (Nat × Nat)) (W:World) (K':Act→World→Prop),w.heap.size≤W.heap.size→I pre g W→(∀ a' W',Below W.heap.size W W'→I pre g W'→Ax x a' W'→K' a' W') →
      assign.wpIn (Fence.wide.inRound l) 0 P (Exit.then K' (fun _ _ _ => False)) { tmps:=(ps.zip (encs x)).foldl (fun t (p,v) => t.setIfInBounds p v) a.tmps,defers:=[] } W)
    (hbody:∀ (l:Nat) (pre:List β) (x:β) (g:Option (Nat × Nat)) (a':Act) (W:World),w.heap.size≤W.heap.size→I pre g W→Ax x a' W→(pre ++ [x]).map key <+: S→body.wpIn (Fence.wide.inRound l) 0 P (postX n₀ w.heap.size I Ix (pre ++ [x]) g W) a' W)
    (hdone:∀ (D:Nat) (full:List β) (g:Option (Nat × Nat)) (W:World),D = w.heap.size→full.map key = S→I full g W→(∀ b k,g = some (b,k)→w.heap.size + 2≤b)→W.heap[D]? = some (.deferred (some []))→Q .normal { a with defers:={ target := .collected D,args:=#[] } :: a.defers } W)
    (hstop:∀ (D:Nat) (pre:List β) (W:World),D = w.heap.size→pre.map key <+: S→Ix pre W→W.heap[D]? = some (.deferred (some []))→Code.ret.wp P Q { a with defers:={ target := .collected D,args:=#[] } :: a.defers } W) :
    (Code.rangeFunc gop ps assign body).wp P Q a w:=by
  refine (wpIn_wide (n:=0)).1 (wpIn_rangeFunc ?_)
  intro fn hfn
  obtain ⟨rec,hrec⟩:∃ rec:LoopState→Option Code→Loop,rec = fun st pe => { state:=st,pending:=pe,fn,tmps:=a.tmps,params:=ps,assign,body,defers:=w.heap.size }:=⟨_,rfl⟩
  obtain ⟨W1,hW1⟩:∃ W1,(w.alloc (.deferred (some []))).alloc (.loop (rec .ready none)) = W1:=⟨_,rfl⟩
  have hL1:W1.heap[w.heap.size + 1]? = some (.loop (rec .ready none)):=by
    rw [← hW1];have:=World.alloc_heap_new (w.alloc (.deferred (some []))) (.loop (rec .ready none));rwa [World.size_alloc] at this
  have hK1:W1.heap[w.heap.size]? = some (.deferred (some [])):=by
    rw [← hW1];exact (Below.heap_alloc _ _ _ (by simp)).trans (World.alloc_heap_new w _)
  have hb1:Below w.heap.size w W1:=by
    rw [← hW1];exact ((Below.refl _ w).alloc (Nat.le_refl _) _).alloc (by simp) _
  have hs1:W1.heap.size = w.heap.size + 2:=by rw [← hW1];simp
  have hI1:I [] none W1:=hI _ _ _ _ h0 hb1 (fun b k hk => by cases hk)
  refine ⟨w.heap.size + 1,[{ target := .collected w.heap.size,args:=#[] }],W1,{ target := .fn (.func gf) lb,args:=rb ++ #[.func (.yield (w.heap.size + 1)) #[] #[]] },W1,gf,
    rb ++ #[.func (.yield (w.heap.size + 1)) #[] #[]] ++ lb,W1, ?_, ?_, ?_, ?_,fun h => by simp [Fence.wide] at h, ?_⟩
  · rw [← hW1,hrec];exact run_enterLoop_outer _ _ _ _ _
  · simp only [resolve,hg]
    simp [go_sem,Deferred.ofValue]
  · intro f' hf';trivial
  · simp [invoke,go_sem,eg]
  · refine callsIn_wide.2 ?_
    refine (hseq (w.heap.size + 1)
      (fun pre g W => I pre g W∧W.heap[w.heap.size + 1]? = some (.loop (rec .ready none))∧W.heap[w.heap.size]? = some (.deferred (some []))∧w.heap.size≤W.heap.size∧∀ b k,g = some (b,k)→w.heap.size + 2≤b)
      (fun pre W => Ix pre W∧W.heap[w.heap.size + 1]? = some (.loop (rec .done (some .ret)))∧W.heap[w.heap.size]? = some (.deferred (some [])))
      W1 hb1
      (fun s g A B hs hb hk => ⟨hI s g A B hs.1 (hb.mono (by omega)) hk,(hb.block _ (by omega)).trans hs.2.1,(hb.block _ (by omega)).trans hs.2.2.1,Nat.le_trans hs.2.2.2.1 hb.size,hs.2.2.2.2⟩)
      (fun s g A hs b k hk => hIg s g A hs.1 b k hk)
      (fun s g A hs => hIK s g A hs.1)
      (fun s A B hs hb => ⟨hIx s A B hs.1 (hb.mono (by omega)),(hb.block _ (by omega)).trans hs.2.1,(hb.block _ (by omega)).trans hs.2.2⟩)
      ?_ ⟨hI1,hL1,hK1,hb1.size,fun b k hk => by cases hk⟩).mono ?_
    · -- one round
      rintro pre x g W ⟨hi,hl,hk,hsz,hg0⟩ hW1z hpre
      have hlt:w.heap.size + 1 < W.heap.size:=(Array.getElem?_eq_some_iff.1 hl).1
      have hy:=run_yield (P:=P) (args:=encs x) hl (by rw [hrec];exact hps x)
      rw [hrec] at hy
      refine ⟨fn,_,assign,body,hy,roundIn_of_wpIn trivial (hassign _ pre x g W _ hsz hi ?_)⟩
      clear hy
      intro a' Wa hoa hia hax
      have hla:=(hoa.block (w.heap.size + 1) hlt).trans hl
      have hka:=(hoa.block w.heap.size (by omega)).trans hk
      have hlta:w.heap.size + 1 < Wa.heap.size:=Nat.lt_of_lt_of_le hlt hoa.size
      refine ⟨_,run_beginRound hla (by rw [hrec]), ?_⟩
      have hl2:(Wa.putObj (w.heap.size + 1) (.loop { rec .ready none with state := .busy })).heap[w.heap.size + 1]? = some (.loop { rec .ready none with state := .busy }):=World.putObj_heap_same hlta
      have hk2:(Wa.putObj (w.heap.size + 1) (.loop { rec .ready none with state := .busy })).heap[w.heap.size]? = some (.deferred (some [])):=(World.putObj_heap_other (by omega)).trans hka
      have hb2:Below w.heap.size Wa (Wa.putObj (w.heap.size + 1) (.loop { rec .ready none with state := .busy })):=below_putObj _ _ _ (by omega)
      refine wpIn_mono (hbody _ pre x g a' _ (by have:=hoa.size;simp;omega) (hI _ _ _ _ hia hb2 (fun b k hk => World.putObj_heap_other (fun e => by have:=hg0 b k hk;have:=(hIg _ _ _ hi b k hk).1;omega))) (hAx _ _ _ _ _ _ hax hla) hpre) ?_
      rintro e a3 W3 hp
      cases e with
      | normal =>
        obtain ⟨g',hi3,hb3,hk3,hg3⟩:=hp
        have hz3:=hb3.size
        have hl3:=(hk3 (w.heap.size + 1) (by omega) (by simp;omega) (fun b e => by have:=hg0 b _ e;have:=(hIg _ _ _ hi b _ e).1;omega)).trans hl2
        have hd3:=(hk3 w.heap.size (Nat.le_refl _) (by simp;omega) (fun b e => by have:=hg0 b _ e;have:=(hIg _ _ _ hi b _ e).1;omega)).trans hk2
        have hr:=run_endRound (P:=P) (none:Option Code) hl3
        have hsz3:w.heap.size + 1 < W3.heap.size:=(Array.getElem?_eq_some_iff.1 hl3).1
        have hzz:W.heap.size≤W3.heap.size:=by have:=hoa.size;simp at hz3;omega
        have hg0':∀ b k,g' = some (b,k)→w.heap.size + 2≤b:=fun b k e => by
          rcases hg3 b k e with h | ⟨j,h⟩
          · simp at h
            have:=hoa.size
            omega
          · exact hg0 b j h
        have hb4:Below w.heap.size W3 (W3.putObj (w.heap.size + 1) (.loop (rec .ready none))):=below_putObj _ _ _ (by omega)
        refine ⟨.bool true,W3.putObj (w.heap.size + 1) (.loop (rec .ready none)), ?_,.inl ⟨rfl,g',⟨hI _ _ _ _ hi3 hb4 (fun b k hk => World.putObj_heap_other (fun e => by have:=hg0' b k hk;have:=(hIg _ _ _ hi3 b k hk).1;omega)),World.putObj_heap_same hsz3,(World.putObj_heap_other (by omega)).trans hd3,by simp;omega,hg0'⟩, ?_, ?_, ?_⟩⟩
        · rw [hrec] at hr ⊢;exact hr
        · exact ((hoa.mono (by omega)).trans (hb2.mono hn₀)).trans (hb3.trans (hb4.mono hn₀))
        · intro k h1 h2 h3
          have h4:k ≠ w.heap.size + 1:=by omega
          exact (World.putObj_heap_other h4).trans ((hk3 k (by omega) (by have:=hoa.size;simp;omega) h3).trans ((World.putObj_heap_other h4).trans (hoa.block k h2)))
        · intro b k e
          rcases hg3 b k e with h | h
          · exact .inl (by have:=hoa.size;simp at h;omega)
          · exact .inr h
      | ret =>
        obtain ⟨hi3,hk3⟩:=hp
        have hl3:=(hk3 (w.heap.size + 1) (by omega) (by omega) (by simp;omega)).trans hl2
        have hd3:=(hk3 w.heap.size (Nat.le_refl _) (by omega) (by simp;omega)).trans hk2
        have hr:=run_endRound (P:=P) (some Code.ret) hl3
        have hsz3:w.heap.size + 1 < W3.heap.size:=(Array.getElem?_eq_some_iff.1 hl3).1
        refine ⟨.bool false,W3.putObj (w.heap.size + 1) (.loop (rec .done (some .ret))), ?_,.inr ⟨rfl,hIx _ _ _ hi3 (below_putObj _ _ _ (by omega)),World.putObj_heap_same hsz3,(World.putObj_heap_other (by omega)).trans hd3⟩⟩
        rw [hrec] at hr ⊢;exact hr
      | exit id => exact hp.elim
      | goto t => exact hp.elim
      | panic ch => exact hp.elim
      | outgrown => exact hp.elim
    · -- behind the iterator
      rintro e W2 ⟨⟨v,rfl⟩,(⟨full,g,hfull,hi,hl,hk,hz,hg0⟩ | ⟨pre,hSp,hi,hl,hk⟩)⟩
      · exact ⟨none,_,by have:=run_endLoop (P:=P) hl (by rw [hrec];simp);rw [hrec] at this;exact this,hdone _ full g _ rfl hfull (hI _ _ _ _ hi (below_putObj _ _ _ (by omega)) (fun b k hk => World.putObj_heap_other (fun e => by have:=hg0 b k hk;have:=(hIg _ _ _ hi b k hk).1;omega))) hg0 ((World.putObj_heap_other (by omega)).trans hk)⟩
      · exact ⟨some .ret,_,by have:=run_endLoop (P:=P) hl (by rw [hrec];simp);rw [hrec] at this;exact this,(wpIn_wide (n:=0)).2 (hstop _ pre _ rfl hSp (hIx _ _ _ hi (below_putObj _ _ _ (by omega))) ((World.putObj_heap_other (by omega)).trans hk))⟩
end
section
open Go.ChangeShapes Go.WideShapes Go.ChangeAt Go.RowKit
attribute [local irreducible] Go.Calls
abbrev spC (p d:Nat) (O:Nat→Nat × Nat):Array Value:=#[.int .i64 p,.int .i64 d,.int .u8 (O 0).1,.int .i64 (O 0).2,.int .u8 (O 1).1,.int .i64 (O 1).2,.int .u8 (O 2).1,.int .i64 (O 2).2,.int .u8 (O 3).1,.int .i64 (O 3).2,.int .u8 (O 4).1,.int .i64 (O 4).2,.int .u8 (O 5).1,.int .i64 (O 5).2,.int .u8 (O 6).1,.int .i64 (O 6).2,.int .u8 (O 7).1,.int .i64 (O 7).2]
abbrev spV (p d:Nat) (O:Nat→Nat × Nat):Value := .agg (spC p d O)
set_option maxHeartbeats 1000000 in
theorem rea0_c (p d:Nat) (O:Nat→Nat × Nat) (x:Prt) (w:World):Calls Tryz.prog 63 #[spV p d O,prtV x] w fun e w' => e = .returned (.bool (reasS p d O x 0))∧Below w.heap.size w w':=by
  obtain ⟨kd,n,g,dd,ks⟩:=x
  show Calls _ _ _ _ fun e w' => e = .returned (.bool (decide (0 < p) && decide (d = 0)))∧Below w.heap.size w w'
  simp only [spV,spC]
  generalize O 0 = o0;generalize O 1 = o1;generalize O 2 = o2;generalize O 3 = o3;generalize O 4 = o4;generalize O 5 = o5;generalize O 6 = o6;generalize O 7 = o7
  go_enter Tryz.func63,Tryz.ntmps63
  go_wp2
  all_goals
    go_ret
    refine ⟨ret_bool ?_,by (repeat (first | exact Below.refl _ _ | assumption | refine balloc ?_ _ | refine below_drewN ?_ _ | refine bstep (by assumption) ?_ | refine bstep (Past.prop _) ?_ | refine Below.setCell ?_ (by first | exact Nat.le_refl _ | (simp;done) | (simp;omega)) _))⟩
    first | (symm;apply decide_eq_true;omega) | (symm;apply decide_eq_false;omega) | (rw [Bool.eq_iff_iff];simp only [Bool.and_eq_true,decide_eq_true_eq,beq_iff_eq];omega) | (simp_all;done) | (rw [Bool.eq_iff_iff];simp_all;omega)
theorem rea1_c (p d:Nat) (O:Nat→Nat × Nat) (x:Prt) (w:World):Calls Tryz.prog 64 #[spV p d O,prtV x] w fun e w' => e = .returned (.bool (reasS p d O x 1))∧Below w.heap.size w w':=by
  obtain ⟨kd,n,g,dd,ks⟩:=x
  show Calls _ _ _ _ fun e w' => e = .returned (.bool (decide (64≤p)))∧Below w.heap.size w w'
  simp only [spV,spC]
  generalize O 0 = o0;generalize O 1 = o1;generalize O 2 = o2;generalize O 3 = o3;generalize O 4 = o4;generalize O 5 = o5;generalize O 6 = o6;generalize O 7 = o7
  go_enter Tryz.func64,Tryz.ntmps64
  go_wp2
  all_goals
    go_ret
    refine ⟨ret_bool ?_,by (repeat (first | exact Below.refl _ _ | assumption | refine balloc ?_ _ | refine below_drewN ?_ _ | refine bstep (by assumption) ?_ | refine bstep (Past.prop _) ?_ | refine Below.setCell ?_ (by first | exact Nat.le_refl _ | (simp;done) | (simp;omega)) _))⟩
    first | (symm;apply decide_eq_true;omega) | (symm;apply decide_eq_false;omega) | (rw [Bool.eq_iff_iff];simp only [decide_eq_true_eq];omega) | (simp_all;done) | (rw [Bool.eq_iff_iff];simp_all;omega)
theorem rea4_c (p d:Nat) (O:Nat→Nat × Nat) (x:Prt) (w:World):Calls Tryz.prog 67 #[spV p d O,prtV x] w fun e w' => e = .returned (.bool (reasS p d O x 4))∧Below w.heap.size w w':=by
  obtain ⟨kd,n,g,dd,ks⟩:=x
  show Calls _ _ _ _ fun e w' => e = .returned (.bool (decide (8≤d)))∧Below w.heap.size w w'
  simp only [spV,spC]
  generalize O 0 = o0;generalize O 1 = o1;generalize O 2 = o2;generalize O 3 = o3;generalize O 4 = o4;generalize O 5 = o5;generalize O 6 = o6;generalize O 7 = o7
  go_enter Tryz.func67,Tryz.ntmps67
  go_wp2
  all_goals
    go_ret
    refine ⟨ret_bool ?_,by (repeat (first | exact Below.refl _ _ | assumption | refine balloc ?_ _ | refine below_drewN ?_ _ | refine bstep (by assumption) ?_ | refine bstep (Past.prop _) ?_ | refine Below.setCell ?_ (by first | exact Nat.le_refl _ | (simp;done) | (simp;omega)) _))⟩
    first | (symm;apply decide_eq_true;omega) | (symm;apply decide_eq_false;omega) | (rw [Bool.eq_iff_iff];simp only [decide_eq_true_eq];omega) | (simp_all;done) | (rw [Bool.eq_iff_iff];simp_all;omega)
set_option maxHeartbeats 2000000 in
theorem rea2_c (p d:Nat) (O:Nat→Nat × Nat) (x:Prt) (w:World):Calls Tryz.prog 65 #[spV p d O,prtV x] w fun e w' => e = .returned (.bool (reasS p d O x 2))∧Below w.heap.size w w':=by
  obtain ⟨kd,n,g,dd,ks⟩:=x
  show Calls _ _ _ _ fun e w' => e = .returned (.bool (badP ⟨kd,n,g,dd,ks⟩))∧Below w.heap.size w w'
  simp only [spV,spC]
  generalize O 0 = o0;generalize O 1 = o1;generalize O 2 = o2;generalize O 3 = o3;generalize O 4 = o4;generalize O 5 = o5;generalize O 6 = o6;generalize O 7 = o7
  by_cases hk:kd = 0
  · have HE:=hidE (show badP ⟨kd,n,g,dd,ks⟩ = decide (ks ≠ 0 ∨ n = 0 ∨ 4096 < n ∨ g = 0 ∨ n < g ∨ n % g ≠ 0 ∨ dd < 1 ∨ 4096 < dd) by unfold badP;rw [if_pos hk])
    rw [HE.out]
    have k1:((kd:Int) == 0) = true:=by simp [hk]
    have k0:decide ((kd:Int) > 4) = false:=decide_eq_false (by omega)
    have k2:decide (4 < kd) = false:=decide_eq_false (by omega)
    have hmod:(n:Int).tmod (g:Int) = ((n % g:Nat):Int):=by rw [Int.tmod_eq_emod_of_nonneg (by omega)];omega
    clear HE hk
    go_enter Tryz.func65,Tryz.ntmps65
    go_wp2
    all_goals
      go_ret
      refine ⟨ret_bool ?_,by (repeat (first | exact Below.refl _ _ | assumption | refine balloc ?_ _ | refine below_drewN ?_ _ | refine bstep (by assumption) ?_ | refine bstep (Past.prop _) ?_ | refine Below.setCell ?_ (by first | exact Nat.le_refl _ | (simp;done) | (simp;omega)) _))⟩
      first | (symm;apply decide_eq_true;omega) | (symm;apply decide_eq_false;omega) | (rw [Bool.eq_iff_iff];simp only [decide_eq_true_eq,ne_eq];omega) | (simp_all;done) | (rw [Bool.eq_iff_iff];simp_all;omega)
  · have HE:=hidE (show badP ⟨kd,n,g,dd,ks⟩ = decide (4 < kd ∨ ks < 1 ∨ 16 < ks ∨ n ≠ 0 ∨ g ≠ 0 ∨ dd ≠ 0) by unfold badP;rw [if_neg hk])
    rw [HE.out]
    have k1:((kd:Int) == 0) = false:=by simp;omega
    clear HE hk
    go_enter Tryz.func65,Tryz.ntmps65
    go_wp2
    all_goals
      go_ret
      refine ⟨ret_bool ?_,by (repeat (first | exact Below.refl _ _ | assumption | refine balloc ?_ _ | refine below_drewN ?_ _ | refine bstep (by assumption) ?_ | refine bstep (Past.prop _) ?_ | refine Below.setCell ?_ (by first | exact Nat.le_refl _ | (simp;done) | (simp;omega)) _))⟩
      first | (symm;apply decide_eq_true;omega) | (symm;apply decide_eq_false;omega) | (rw [Bool.eq_iff_iff];simp only [decide_eq_true_eq,ne_eq];omega) | (simp_all;done) | (rw [Bool.eq_iff_iff];simp_all;omega)
set_option maxHeartbeats 2000000 in
theorem rea3_c (p d:Nat) (O:Nat→Nat × Nat) (x:Prt) (w:World) (hd:d≤8):Calls Tryz.prog 66 #[spV p d O,prtV x] w fun e w' => e = .returned (.bool (reasS p d O x 3))∧Below w.heap.size w w':=by
  obtain ⟨kd,n,g,dd,ks⟩:=x
  show Calls _ _ _ _ fun e w' => e = .returned (.bool (decide (0 < d) && (decide ((O (d - 1)).1 = 2) && decide (kd ≠ 0))))∧Below w.heap.size w w'
  rcases (show d = 0 ∨ d = 1 ∨ d = 2 ∨ d = 3 ∨ d = 4 ∨ d = 5 ∨ d = 6 ∨ d = 7 ∨ d = 8 by omega) with rfl | rfl | rfl | rfl | rfl | rfl | rfl | rfl | rfl
  all_goals
    simp only [Nat.reduceSub]
    simp only [spV,spC]
    generalize O 0 = o0;generalize O 1 = o1;generalize O 2 = o2;generalize O 3 = o3;generalize O 4 = o4;generalize O 5 = o5;generalize O 6 = o6;generalize O 7 = o7
    go_enter Tryz.func66,Tryz.ntmps66
    go_wp2
    all_goals
      go_ret
      refine ⟨ret_bool ?_,by (repeat (first | exact Below.refl _ _ | assumption | refine balloc ?_ _ | refine below_drewN ?_ _ | refine bstep (by assumption) ?_ | refine bstep (Past.prop _) ?_ | refine Below.setCell ?_ (by first | exact Nat.le_refl _ | (simp;done) | (simp;omega)) _))⟩
      first | (symm;apply decide_eq_true;omega) | (symm;apply decide_eq_false;omega) | (rw [Bool.eq_iff_iff];simp only [Bool.and_eq_true,decide_eq_true_eq,bne_iff_ne,ne_eq];omega) | (simp_all;done) | (rw [Bool.eq_iff_iff];simp_all;omega)
end
section
open Go.ChangeShapes Go.WideShapes Go.ChangeAt Go.RowKit
theorem Blk.range {w:World} {k:Nat} {cs:Array Value} {t:TypeId} (h:Blk w k cs t):w.rangeAt k 0 cs.toList:=fun j v hv => by
  rw [Nat.zero_add,h.cell j]
  simpa using hv
theorem Blk.there {w:World} {k:Nat} {cs:Array Value} {t:TypeId} (h:Blk w k cs t):w.there k 0 cs.size:=fun j hj => by
  rw [Nat.zero_add,h.cell j]
  exact ⟨by simp [hj],h.free j⟩
theorem Blk.setCells_other {w:World} {k b:Nat} {cs:Array Value} {t:TypeId} (h:Blk w k cs t) (hb:k ≠ b):∀ (vs:List Value) (o:Nat),Blk (w.setCells b o vs) k cs t:=by
  intro vs
  induction vs generalizing w with
  | nil => intro o;exact h
  | cons v r ih => intro o;exact ih (h.other hb v) (o + 1)
def setAll (cs:Array Value):Nat→List Value→Array Value
  | _,[] => cs
  | o,v :: r => setAll (cs.setIfInBounds o v) (o + 1) r
theorem Blk.setCells {w:World} {k:Nat} {cs:Array Value} {t:TypeId} (h:Blk w k cs t):∀ (vs:List Value) (o:Nat),Blk (w.setCells k o vs) k (setAll cs o vs) t:=by
  intro vs
  induction vs generalizing w cs with
  | nil => intro o;exact h
  | cons v r ih => intro o;exact ih (h.set o v) (o + 1)
theorem below_setCells {B k:Nat} {w w':World} (h:Below B w w') (hk:B≤k):∀ (vs:List Value) (o:Nat),Below B w (w'.setCells k o vs):=by
  intro vs
  induction vs generalizing w' with
  | nil => intro o;exact h
  | cons v r ih => intro o;exact ih (h.setCell (p:=⟨k,o,none⟩) hk v) (o + 1)
theorem results_cell {P:Program} {fn:Func} {tmps:Array Value} {w:World} {a:Nat} {t:TypeId} {x:Addr} {v:Value} (hr:fn.results = #[.cell a t]) (ha:tmps.getD a undef = .pointer (some x)) (h:(loadVar t x).run P w = .ok v w):(results fn tmps).run P w = .ok v w:=by
  unfold results
  rw [hr]
  have ha':tmps[a]?.getD undef = .pointer (some x):=by simpa using ha
  simp [ha',asAddr,h]
end
section
open Go.ChangeShapes Go.WideShapes Go.ChangeAt Go.RowKit
attribute [local irreducible] Go.Calls
abbrev spZ:Array Value:=#[.int .i64 0,.int .i64 0,.int .u8 0,.int .i64 0,.int .u8 0,.int .i64 0,.int .u8 0,.int .i64 0,.int .u8 0,.int .i64 0,.int .u8 0,.int .i64 0,.int .u8 0,.int .i64 0,.int .u8 0,.int .i64 0,.int .u8 0,.int .i64 0]
theorem Tryz.infoSpot:(Tryz.prog.info? 108).map (·.size) = some 18:=by kernel_rfl
theorem Tryz.undSpot:∃ d,Tryz.prog.underlying 108 = some d∧d.isRow = true:=⟨_,Tryz.underlying108,rfl⟩
theorem spC_all (p d q e:Nat) (O O':Nat→Nat × Nat):setAll (spC p d O) 0 (spC q e O').toList = spC q e O':=by simp [setAll,spC]
theorem spC_allZ (q e:Nat) (O':Nat→Nat × Nat):setAll spZ 0 (spC q e O').toList = spC q e O':=by simp [setAll,spC,spZ]
theorem spC_one (p d:Nat) (O:Nat→Nat × Nat):(spC p d O).all (·.oneCell') = true:=by simp [Value.oneCell']
theorem spC_at (p d:Nat) (O:Nat→Nat × Nat) {m:Nat} (h:m < 8):(spC p d O)[2 + m * 2]? = some (.int .u8 (O m).1)∧(spC p d O)[2 + m * 2 + 1]? = some (.int .i64 (O m).2):=by
  rcases (show m = 0 ∨ m = 1 ∨ m = 2 ∨ m = 3 ∨ m = 4 ∨ m = 5 ∨ m = 6 ∨ m = 7 by omega) with rfl | rfl | rfl | rfl | rfl | rfl | rfl | rfl <;> exact ⟨rfl,rfl⟩
theorem spC_set0 (p d:Nat) (O:Nat→Nat × Nat) (z:Int) (q:Nat) (h:z = q):(spC p d O).setIfInBounds 0 (.int .i64 z) = spC q d O:=by subst h;rfl
theorem spC_set1 (p d:Nat) (O:Nat→Nat × Nat) (z:Int) (q:Nat) (h:z = q):(spC p d O).setIfInBounds 1 (.int .i64 z) = spC p q O:=by subst h;rfl
theorem spC_left (p d:Nat) (O:Nat→Nat × Nat) {m:Nat} (hm:m < 8) (z:Int) (q:Nat) (h:z = q):(spC p d O).setIfInBounds (2 + m * 2 + 1) (.int .i64 z) = spC p d (putO O m ((O m).1,q)):=by
  subst h
  rcases (show m = 0 ∨ m = 1 ∨ m = 2 ∨ m = 3 ∨ m = 4 ∨ m = 5 ∨ m = 6 ∨ m = 7 by omega) with rfl | rfl | rfl | rfl | rfl | rfl | rfl | rfl <;> rfl
theorem spC_put (p d:Nat) (O:Nat→Nat × Nat) {m:Nat} (hm:m < 8) (k:Nat) (z:Int) (q:Nat) (h:z = q):((spC p d O).setIfInBounds (2 + m * 2) (.int .u8 k)).setIfInBounds (2 + m * 2 + 1) (.int .i64 z) = spC p d (putO O m (k,q)):=by
  subst h
  rcases (show m = 0 ∨ m = 1 ∨ m = 2 ∨ m = 3 ∨ m = 4 ∨ m = 5 ∨ m = 6 ∨ m = 7 by omega) with rfl | rfl | rfl | rfl | rfl | rfl | rfl | rfl <;> rfl
theorem popN_stop {O:Nat→Nat × Nat} {d:Nat} (h:(O d).2 ≠ 0):popN O (d + 1) = d + 1:=if_neg h
theorem popN_go {O:Nat→Nat × Nat} {d:Nat} (h:(O d).2 = 0):popN O (d + 1) = popN O d:=if_pos h
set_option maxRecDepth 100000 in
set_option maxHeartbeats 4000000 in
theorem beh8_c (p d:Nat) (O:Nat→Nat × Nat) (x:Prt) (w:World) (hp:p < 4611686018427387904) (hd:d≤8) (hd2:x.kind ≠ 0→d < 8) (ht:d = 0 ∨ (O (d - 1)).2 ≠ 0) (hn:∀ i,(O i).2≤16) (hk:0≤x.kids∧x.kids≤16) :
    Calls Tryz.prog 45 #[spV p d O,prtV x] w fun e w' => e = .returned (spV (p + 1) (popN (nextO d O x) (nextD d x)) (nextO d O x))∧Below w.heap.size w w':=by
  obtain ⟨O2,hO2⟩:∃ O2,O2 = nextO d O x:=⟨_,rfl⟩
  obtain ⟨D2,hD2⟩:∃ D2,D2 = nextD d x:=⟨_,rfl⟩
  have hD8:D2≤8:=by
    rw [hD2];unfold nextD
    split
    · exact hd
    · have:=hd2 (by assumption);omega
  have hO16:∀ i,(O2 i).2≤16:=by
    intro i
    have hr:∀ i,(rowO d O i).2≤16:=fun i => by
      unfold rowO
      split
      · exact hn i
      · unfold putO
        split
        · have:=hn (d - 1);simp only;omega
        · exact hn i
    rw [hO2];unfold nextO
    split
    · exact hr i
    · unfold putO
      split
      · simp only;omega
      · exact hr i
  rw [← hO2,← hD2]
  obtain ⟨kd,n,g,dd,ks⟩:=x
  simp only at hk hd2
  obtain ⟨K,rfl⟩:∃ K:Nat,ks = (K:Int):=⟨ks.toNat,by omega⟩
  go_enter Tryz.func45,Tryz.ntmps45
  go_upto_region 1 with fail
  obtain ⟨w1,hw1⟩:∃ w1,w1 = ((w.alloc (.cells (spC p d O) 108)).alloc (.cells #[.int .u8 kd,.int .u32 n,.int .u32 g,.int .i64 dd,.int .i64 K] 59)).alloc (.cells spZ 108):=⟨_,rfl⟩
  have HB:Blk w1 w.heap.size (spC p d O) 108:=hw1 ▸ ((Blk.made w _ _).alloc _).alloc _
  have HP:Blk w1 (w.heap.size + 1) #[.int .u8 kd,.int .u32 n,.int .u32 g,.int .i64 dd,.int .i64 K] 59:=hw1 ▸ (Blk.made_at (w.alloc (.cells (spC p d O) 108)) _ _ (w.heap.size + 1) (by simp)).alloc _
  have HR:Blk w1 (w.heap.size + 1 + 1) spZ 108:=hw1 ▸ Blk.made_at _ _ _ (w.heap.size + 1 + 1) (by simp)
  have hb:Below w.heap.size w w1:=hw1 ▸ (by (repeat (first | exact Below.refl _ _ | assumption | refine balloc ?_ _ | refine below_drewN ?_ _ | refine bstep (by assumption) ?_ | refine bstep (Past.prop _) ?_ | refine Below.setCell ?_ (by first | exact Nat.le_refl _ | (simp;done) | (simp;omega)) _)))
  rw [← hw1]
  clear hw1
  have c0:w1.cell? ⟨w.heap.size,0,none⟩ = some (.int .i64 p):=HB.cell 0
  have f0:=HB.free;have z0:=HB.lt
  have p64:IntKind.i64.wrap ((p:Int) + 1) = (p:Int) + 1:=IntWalk.i64_in _ (by omega)
  have H:=hidE (And.intro HB (And.intro HP (And.intro HR hb)))
  clear HB HP HR hb
  go_upto_region 2 with fail
  obtain ⟨HB,HP,HR,hb⟩:=H.out
  obtain ⟨w2,hw2⟩:∃ w2,w2 = w1.setCell ⟨w.heap.size,0,none⟩ (.int .i64 ((p:Int) + 1)):=⟨_,rfl⟩
  replace HB:Blk w2 w.heap.size (spC (p + 1) d O) 108:=hw2 ▸ spC_set0 p d O ((p:Int) + 1) (p + 1) (by omega) ▸ HB.set 0 _
  replace HP:Blk w2 (w.heap.size + 1) #[.int .u8 kd,.int .u32 n,.int .u32 g,.int .i64 dd,.int .i64 K] 59:=hw2 ▸ HP.other (by omega) _
  replace HR:Blk w2 (w.heap.size + 1 + 1) spZ 108:=hw2 ▸ HR.other (by omega) _
  replace hb:Below w.heap.size w w2:=hw2 ▸ hb.setCell (p:=⟨w.heap.size,0,none⟩) (Nat.le_refl _) _
  rw [← hw2]
  clear hw2 H c0 f0 z0 p64 w1
  by_cases hd0:d = 0
  · have hO:rowO d O = O:=if_pos hd0
    have c1:w2.cell? ⟨w.heap.size,1,none⟩ = some (.int .i64 d):=HB.cell 1
    have z0:=HB.lt
    have q1:decide ((d:Int) > 0) = false:=decide_eq_false (by omega)
    have q1':decide (0 < d) = false:=decide_eq_false (by omega)
    clear hd0
    have H:=hidE (And.intro HB (And.intro HP (And.intro HR hb)))
    clear HB HP HR hb
    go_upto_region 4 with fail
    obtain ⟨HB,HP,HR,hb⟩:=H.out
    clear H c1 z0 q1 q1'
    rw [← hO] at HB
    clear hO
    obtain ⟨w3,hw3⟩:∃ w3,w3 = w2:=⟨_,rfl⟩
    rw [← hw3] at HB HP HR hb
    rw [← hw3]
    clear hw3 w2
    have k0:w3.cell? ⟨w.heap.size + 1,0,none⟩ = some (.int .u8 kd):=HP.cell 0
    have z0:=HB.lt;have z1:=HP.lt
    by_cases hkd:kd = 0
    · have hO2':=hidE (show O2 = rowO d O from hO2.trans (if_pos hkd))
      have hD2':=hidE (show D2 = d from hD2.trans (if_pos hkd))
      have r1:((kd:Int) != 0) = false:=by rw [hkd];rfl
      clear hO2 hD2 hkd
      have H:=hidE (And.intro HB (And.intro HP (And.intro HR hb)))
      clear HB HP HR hb
      go_wp2_with fail
      go_loopg [] D2 (fun gh wr => ∃ D':Nat,D'≤D2∧D'≤gh∧popN O2 D' = popN O2 D2∧Blk wr w.heap.size (spC (p + 1) D' O2) 108∧Blk wr (w.heap.size + 1 + 1) spZ 108∧Below w.heap.size w wr)
      case atStart =>
        obtain ⟨HB,HP,HR,hb⟩:=H.out
        exact ⟨D2,Nat.le_refl _,Nat.le_refl _,rfl,by rw [hO2'.out,hD2'.out];exact HB,HR,hb⟩
      case round =>
        obtain ⟨D',hDD,hgh,hpop,HB,HR,hb⟩:=hrel
        by_cases h0:D' = 0
        · subst h0
          have HPE:=hidE (show popN O2 D2 = 0 from hpop.symm)
          have z0:=HB.lt
          have H:=hidE (And.intro HB (And.intro HR hb))
          have c1:wr.cell? ⟨w.heap.size,1,none⟩ = some (.int .i64 0):=HB.cell 1
          clear HB HR hb hpop
          go_upto_region 9 with fail
          obtain ⟨HB,HR,hb⟩:=H.out
          obtain ⟨ds,hu,hd⟩:=Tryz.undSpot
          refine wp_region_lit (wpList_load_mid rfl 108 (.tmp 2) rfl w.heap.size 0 rfl (spC (p + 1) (0) O2).toList ds HB.range hu hd Tryz.infoSpot ?_)
          refine wpList_store_mid rfl 108 (.tmp 4) (.tmp 56) rfl (w.heap.size + 1 + 1) 0 (spC (p + 1) (0) O2) rfl rfl HR.there Tryz.infoSpot (spC_one _ _ _) ?_
          have HF:=spC_allZ (p + 1) (0) O2 ▸ HR.setCells (spC (p + 1) (0) O2).toList 0
          have hbF:=below_setCells hb (show w.heap.size≤w.heap.size + 1 + 1 by omega) (spC (p + 1) (0) O2).toList 0
          generalize World.setCells wr _ _ _ = wz at *
          clear H HB HR hb
          go_wp2
          refine bodyPost_ret (v:=spV (p + 1) (0) O2) ?_ rfl ⟨by rw [HPE.out],hbF⟩
          exact results_cell (fn:=Tryz.f45) Tryz.results45 rfl (run_loadVar_mid wz (w.heap.size + 1 + 1) 0 108 (spC (p + 1) (0) O2).toList ds HF.range hu hd Tryz.infoSpot)
        · obtain ⟨m',rfl⟩:∃ m',D' = m' + 1:=⟨D' - 1,by omega⟩
          have hm8:m' < 8:=by omega
          have hn':=hO16 m'
          have c1:wr.cell? ⟨w.heap.size,1,none⟩ = some (.int .i64 ((m':Int) + 1)):=(HB.cell 1).trans (by simp)
          have cL:wr.cell? ⟨w.heap.size,2 + m' * 2 + 1,none⟩ = some (.int .i64 (O2 m').2):=(HB.cell _).trans (spC_at _ _ _ hm8).2
          have f0:=HB.free;have z0:=HB.lt
          have q1:decide ((m':Int) + 1 > 0) = true:=decide_eq_true (by omega)
          have q2:IntKind.i64.wrap ((m':Int) + 1 - 1) = (m':Int):=by rw [Int.add_sub_cancel];exact IntWalk.i64_in _ (by omega)
          by_cases hz:(O2 m').2 = 0
          · have q3:(((O2 m').2:Int) == 0) = true:=by rw [hz];rfl
            have HG:=hidE hgh
            have HPO:=hidE ((popN_go hz).symm.trans hpop)
            have H:=hidE (And.intro HB (And.intro HR hb))
            clear HB HR hb hgh hpop hz
            go_wp2
            go_roundg m'
            case measure => have:=HG.out;omega
            case rel =>
              obtain ⟨HB,HR,hb⟩:=H.out
              exact ⟨m',by omega,Nat.le_refl _,HPO.out,spC_set1 (p + 1) (m' + 1) O2 (m':Int) m' rfl ▸ HB.set 1 _,HR.other (by omega) _,hb.setCell (p:=⟨w.heap.size,1,none⟩) (Nat.le_refl _) _⟩
          · have q3:(((O2 m').2:Int) == 0) = false:=beq_eq_false_iff_ne.2 (by omega)
            have hst:=popN_stop hz
            have HPE:=hidE (show popN O2 D2 = m' + 1 from hpop.symm.trans hst)
            have z0:=HB.lt
            have H:=hidE (And.intro HB (And.intro HR hb))
            clear HB HR hb hpop
            go_upto_region 9 with fail
            obtain ⟨HB,HR,hb⟩:=H.out
            obtain ⟨ds,hu,hd⟩:=Tryz.undSpot
            refine wp_region_lit (wpList_load_mid rfl 108 (.tmp 2) rfl w.heap.size 0 rfl (spC (p + 1) (m' + 1) O2).toList ds HB.range hu hd Tryz.infoSpot ?_)
            refine wpList_store_mid rfl 108 (.tmp 4) (.tmp 56) rfl (w.heap.size + 1 + 1) 0 (spC (p + 1) (m' + 1) O2) rfl rfl HR.there Tryz.infoSpot (spC_one _ _ _) ?_
            have HF:=spC_allZ (p + 1) (m' + 1) O2 ▸ HR.setCells (spC (p + 1) (m' + 1) O2).toList 0
            have hbF:=below_setCells hb (show w.heap.size≤w.heap.size + 1 + 1 by omega) (spC (p + 1) (m' + 1) O2).toList 0
            generalize World.setCells wr _ _ _ = wz at *
            clear H HB HR hb
            go_wp2
            refine bodyPost_ret (v:=spV (p + 1) (m' + 1) O2) ?_ rfl ⟨by rw [HPE.out],hbF⟩
            exact results_cell (fn:=Tryz.f45) Tryz.results45 rfl (run_loadVar_mid wz (w.heap.size + 1 + 1) 0 108 (spC (p + 1) (m' + 1) O2).toList ds HF.range hu hd Tryz.infoSpot)
    · have hd8:=hd2 hkd
      have hO2':=hidE (show O2 = putO (rowO d O) d (kd,K) from hO2.trans (if_neg hkd))
      have hD2':=hidE (show D2 = d + 1 from hD2.trans (if_neg hkd))
      have r1:((kd:Int) != 0) = true:=bne_iff_ne.2 (by omega)
      have c1:w3.cell? ⟨w.heap.size,1,none⟩ = some (.int .i64 d):=HB.cell 1
      have k4:w3.cell? ⟨w.heap.size + 1,4,none⟩ = some (.int .i64 K):=HP.cell 4
      have f0:=HB.free
      have cA:w3.cell? ⟨w.heap.size,2 + d * 2,none⟩ = some (.int .u8 (rowO d O d).1):=(HB.cell _).trans (spC_at _ _ _ hd8).1
      have cB:w3.cell? ⟨w.heap.size,2 + d * 2 + 1,none⟩ = some (.int .i64 (rowO d O d).2):=(HB.cell _).trans (spC_at _ _ _ hd8).2
      have q4:IntKind.i64.wrap ((d:Int) + 1) = (d:Int) + 1:=IntWalk.i64_in _ (by omega)
      clear hO2 hD2 hkd
      have H:=hidE (And.intro HB (And.intro HP (And.intro HR hb)))
      clear HB HP HR hb
      go_upto_region 6 with fail
      obtain ⟨HB,HP,HR,hb⟩:=H.out
      obtain ⟨w4,hw4⟩:∃ w4,w4 = (w3.setCell ⟨w.heap.size,2 + d * 2,none⟩ (.int .u8 kd)).setCell ⟨w.heap.size,2 + d * 2 + 1,none⟩ (.int .i64 K):=⟨_,rfl⟩
      replace HB:Blk w4 w.heap.size (spC (p + 1) d O2) 108:=hw4 ▸ hO2'.out ▸ spC_put (p + 1) d (rowO d O) hd8 kd K K rfl ▸ (HB.set _ _).set _ _
      replace HR:Blk w4 (w.heap.size + 1 + 1) spZ 108:=hw4 ▸ (HR.other (by omega) _).other (by omega) _
      replace hb:Below w.heap.size w w4:=hw4 ▸ (hb.setCell (p:=⟨w.heap.size,_,none⟩) (Nat.le_refl _) _).setCell (p:=⟨w.heap.size,_,none⟩) (Nat.le_refl _) _
      rw [← hw4]
      clear hw4 H c1 cA cB f0 z0 k0 k4 z1 HP w3
      have c1:w4.cell? ⟨w.heap.size,1,none⟩ = some (.int .i64 d):=HB.cell 1
      have f0:=HB.free;have z0:=HB.lt
      have H:=hidE (And.intro HB (And.intro HR hb))
      clear HB HR hb
      go_wp2_with fail
      go_loopg [] D2 (fun gh wr => ∃ D':Nat,D'≤D2∧D'≤gh∧popN O2 D' = popN O2 D2∧Blk wr w.heap.size (spC (p + 1) D' O2) 108∧Blk wr (w.heap.size + 1 + 1) spZ 108∧Below w.heap.size w wr)
      case atStart =>
        obtain ⟨HB,HR,hb⟩:=H.out
        exact ⟨D2,Nat.le_refl _,Nat.le_refl _,rfl,spC_set1 (p + 1) d O2 ((d:Int) + 1) D2 (by rw [hD2'.out];omega) ▸ HB.set 1 _,HR.other (by omega) _,hb.setCell (p:=⟨w.heap.size,1,none⟩) (Nat.le_refl _) _⟩
      case round =>
        obtain ⟨D',hDD,hgh,hpop,HB,HR,hb⟩:=hrel
        by_cases h0:D' = 0
        · subst h0
          have HPE:=hidE (show popN O2 D2 = 0 from hpop.symm)
          have z0:=HB.lt
          have H:=hidE (And.intro HB (And.intro HR hb))
          have c1:wr.cell? ⟨w.heap.size,1,none⟩ = some (.int .i64 0):=HB.cell 1
          clear HB HR hb hpop
          go_upto_region 9 with fail
          obtain ⟨HB,HR,hb⟩:=H.out
          obtain ⟨ds,hu,hd⟩:=Tryz.undSpot
          refine wp_region_lit (wpList_load_mid rfl 108 (.tmp 2) rfl w.heap.size 0 rfl (spC (p + 1) (0) O2).toList ds HB.range hu hd Tryz.infoSpot ?_)
          refine wpList_store_mid rfl 108 (.tmp 4) (.tmp 56) rfl (w.heap.size + 1 + 1) 0 (spC (p + 1) (0) O2) rfl rfl HR.there Tryz.infoSpot (spC_one _ _ _) ?_
          have HF:=spC_allZ (p + 1) (0) O2 ▸ HR.setCells (spC (p + 1) (0) O2).toList 0
          have hbF:=below_setCells hb (show w.heap.size≤w.heap.size + 1 + 1 by omega) (spC (p + 1) (0) O2).toList 0
          generalize World.setCells wr _ _ _ = wz at *
          clear H HB HR hb
          go_wp2
          refine bodyPost_ret (v:=spV (p + 1) (0) O2) ?_ rfl ⟨by rw [HPE.out],hbF⟩
          exact results_cell (fn:=Tryz.f45) Tryz.results45 rfl (run_loadVar_mid wz (w.heap.size + 1 + 1) 0 108 (spC (p + 1) (0) O2).toList ds HF.range hu hd Tryz.infoSpot)
        · obtain ⟨m',rfl⟩:∃ m',D' = m' + 1:=⟨D' - 1,by omega⟩
          have hm8:m' < 8:=by omega
          have hn':=hO16 m'
          have c1:wr.cell? ⟨w.heap.size,1,none⟩ = some (.int .i64 ((m':Int) + 1)):=(HB.cell 1).trans (by simp)
          have cL:wr.cell? ⟨w.heap.size,2 + m' * 2 + 1,none⟩ = some (.int .i64 (O2 m').2):=(HB.cell _).trans (spC_at _ _ _ hm8).2
          have f0:=HB.free;have z0:=HB.lt
          have q1:decide ((m':Int) + 1 > 0) = true:=decide_eq_true (by omega)
          have q2:IntKind.i64.wrap ((m':Int) + 1 - 1) = (m':Int):=by rw [Int.add_sub_cancel];exact IntWalk.i64_in _ (by omega)
          by_cases hz:(O2 m').2 = 0
          · have q3:(((O2 m').2:Int) == 0) = true:=by rw [hz];rfl
            have HG:=hidE hgh
            have HPO:=hidE ((popN_go hz).symm.trans hpop)
            have H:=hidE (And.intro HB (And.intro HR hb))
            clear HB HR hb hgh hpop hz
            go_wp2
            go_roundg m'
            case measure => have:=HG.out;omega
            case rel =>
              obtain ⟨HB,HR,hb⟩:=H.out
              exact ⟨m',by omega,Nat.le_refl _,HPO.out,spC_set1 (p + 1) (m' + 1) O2 (m':Int) m' rfl ▸ HB.set 1 _,HR.other (by omega) _,hb.setCell (p:=⟨w.heap.size,1,none⟩) (Nat.le_refl _) _⟩
          · have q3:(((O2 m').2:Int) == 0) = false:=beq_eq_false_iff_ne.2 (by omega)
            have hst:=popN_stop hz
            have HPE:=hidE (show popN O2 D2 = m' + 1 from hpop.symm.trans hst)
            have z0:=HB.lt
            have H:=hidE (And.intro HB (And.intro HR hb))
            clear HB HR hb hpop
            go_upto_region 9 with fail
            obtain ⟨HB,HR,hb⟩:=H.out
            obtain ⟨ds,hu,hd⟩:=Tryz.undSpot
            refine wp_region_lit (wpList_load_mid rfl 108 (.tmp 2) rfl w.heap.size 0 rfl (spC (p + 1) (m' + 1) O2).toList ds HB.range hu hd Tryz.infoSpot ?_)
            refine wpList_store_mid rfl 108 (.tmp 4) (.tmp 56) rfl (w.heap.size + 1 + 1) 0 (spC (p + 1) (m' + 1) O2) rfl rfl HR.there Tryz.infoSpot (spC_one _ _ _) ?_
            have HF:=spC_allZ (p + 1) (m' + 1) O2 ▸ HR.setCells (spC (p + 1) (m' + 1) O2).toList 0
            have hbF:=below_setCells hb (show w.heap.size≤w.heap.size + 1 + 1 by omega) (spC (p + 1) (m' + 1) O2).toList 0
            generalize World.setCells wr _ _ _ = wz at *
            clear H HB HR hb
            go_wp2
            refine bodyPost_ret (v:=spV (p + 1) (m' + 1) O2) ?_ rfl ⟨by rw [HPE.out],hbF⟩
            exact results_cell (fn:=Tryz.f45) Tryz.results45 rfl (run_loadVar_mid wz (w.heap.size + 1 + 1) 0 108 (spC (p + 1) (m' + 1) O2).toList ds HF.range hu hd Tryz.infoSpot)
  · obtain ⟨m,hm⟩:∃ m,d = m + 1:=⟨d - 1,by omega⟩
    have hm8:m < 8:=by omega
    have hnm:=hn m
    have htm:(O m).2 ≠ 0:=by
      rcases ht with h | h
      · omega
      · rwa [hm,Nat.add_sub_cancel] at h
    have hO:rowO d O = putO O m ((O m).1,(O m).2 - 1):=by unfold rowO;rw [if_neg hd0,hm,Nat.add_sub_cancel]
    have c1:w2.cell? ⟨w.heap.size,1,none⟩ = some (.int .i64 d):=HB.cell 1
    have cL:w2.cell? ⟨w.heap.size,2 + m * 2 + 1,none⟩ = some (.int .i64 (O m).2):=(HB.cell _).trans (spC_at _ _ _ hm8).2
    have f0:=HB.free;have z0:=HB.lt
    have q1:decide ((d:Int) > 0) = true:=decide_eq_true (by omega)
    have q1':decide (0 < d) = true:=decide_eq_true (by omega)
    have q2:IntKind.i64.wrap ((d:Int) - 1) = (m:Int):=by rw [show (d:Int) - 1 = (m:Int) by omega];exact IntWalk.i64_in _ (by omega)
    have q3:IntKind.i64.wrap ((O m).2 - 1:Int) = ((O m).2 - 1:Int):=IntWalk.i64_in _ (by omega)
    clear hd0 ht hm
    have H:=hidE (And.intro HB (And.intro HP (And.intro HR hb)))
    clear HB HP HR hb
    go_upto_region 4 with fail
    obtain ⟨HB,HP,HR,hb⟩:=H.out
    obtain ⟨w3,hw3⟩:∃ w3,w3 = w2.setCell ⟨w.heap.size,2 + m * 2 + 1,none⟩ (.int .i64 ((O m).2 - 1:Int)):=⟨_,rfl⟩
    replace HB:Blk w3 w.heap.size (spC (p + 1) d (rowO d O)) 108:=hw3 ▸ hO ▸ spC_left (p + 1) d O hm8 ((O m).2 - 1:Int) ((O m).2 - 1) (by omega) ▸ HB.set _ _
    replace HP:Blk w3 (w.heap.size + 1) #[.int .u8 kd,.int .u32 n,.int .u32 g,.int .i64 dd,.int .i64 K] 59:=hw3 ▸ HP.other (by omega) _
    replace HR:Blk w3 (w.heap.size + 1 + 1) spZ 108:=hw3 ▸ HR.other (by omega) _
    replace hb:Below w.heap.size w w3:=hw3 ▸ hb.setCell (p:=⟨w.heap.size,_,none⟩) (Nat.le_refl _) _
    rw [← hw3]
    clear hw3 H c1 cL f0 z0 q1 q1' q2 q3 hO htm hnm hm8 w2
    have k0:w3.cell? ⟨w.heap.size + 1,0,none⟩ = some (.int .u8 kd):=HP.cell 0
    have z0:=HB.lt;have z1:=HP.lt
    by_cases hkd:kd = 0
    · have hO2':=hidE (show O2 = rowO d O from hO2.trans (if_pos hkd))
      have hD2':=hidE (show D2 = d from hD2.trans (if_pos hkd))
      have r1:((kd:Int) != 0) = false:=by rw [hkd];rfl
      clear hO2 hD2 hkd
      have H:=hidE (And.intro HB (And.intro HP (And.intro HR hb)))
      clear HB HP HR hb
      go_wp2_with fail
      go_loopg [] D2 (fun gh wr => ∃ D':Nat,D'≤D2∧D'≤gh∧popN O2 D' = popN O2 D2∧Blk wr w.heap.size (spC (p + 1) D' O2) 108∧Blk wr (w.heap.size + 1 + 1) spZ 108∧Below w.heap.size w wr)
      case atStart =>
        obtain ⟨HB,HP,HR,hb⟩:=H.out
        exact ⟨D2,Nat.le_refl _,Nat.le_refl _,rfl,by rw [hO2'.out,hD2'.out];exact HB,HR,hb⟩
      case round =>
        obtain ⟨D',hDD,hgh,hpop,HB,HR,hb⟩:=hrel
        by_cases h0:D' = 0
        · subst h0
          have HPE:=hidE (show popN O2 D2 = 0 from hpop.symm)
          have z0:=HB.lt
          have H:=hidE (And.intro HB (And.intro HR hb))
          have c1:wr.cell? ⟨w.heap.size,1,none⟩ = some (.int .i64 0):=HB.cell 1
          clear HB HR hb hpop
          go_upto_region 9 with fail
          obtain ⟨HB,HR,hb⟩:=H.out
          obtain ⟨ds,hu,hd⟩:=Tryz.undSpot
          refine wp_region_lit (wpList_load_mid rfl 108 (.tmp 2) rfl w.heap.size 0 rfl (spC (p + 1) (0) O2).toList ds HB.range hu hd Tryz.infoSpot ?_)
          refine wpList_store_mid rfl 108 (.tmp 4) (.tmp 56) rfl (w.heap.size + 1 + 1) 0 (spC (p + 1) (0) O2) rfl rfl HR.there Tryz.infoSpot (spC_one _ _ _) ?_
          have HF:=spC_allZ (p + 1) (0) O2 ▸ HR.setCells (spC (p + 1) (0) O2).toList 0
          have hbF:=below_setCells hb (show w.heap.size≤w.heap.size + 1 + 1 by omega) (spC (p + 1) (0) O2).toList 0
          generalize World.setCells wr _ _ _ = wz at *
          clear H HB HR hb
          go_wp2
          refine bodyPost_ret (v:=spV (p + 1) (0) O2) ?_ rfl ⟨by rw [HPE.out],hbF⟩
          exact results_cell (fn:=Tryz.f45) Tryz.results45 rfl (run_loadVar_mid wz (w.heap.size + 1 + 1) 0 108 (spC (p + 1) (0) O2).toList ds HF.range hu hd Tryz.infoSpot)
        · obtain ⟨m',rfl⟩:∃ m',D' = m' + 1:=⟨D' - 1,by omega⟩
          have hm8:m' < 8:=by omega
          have hn':=hO16 m'
          have c1:wr.cell? ⟨w.heap.size,1,none⟩ = some (.int .i64 ((m':Int) + 1)):=(HB.cell 1).trans (by simp)
          have cL:wr.cell? ⟨w.heap.size,2 + m' * 2 + 1,none⟩ = some (.int .i64 (O2 m').2):=(HB.cell _).trans (spC_at _ _ _ hm8).2
          have f0:=HB.free;have z0:=HB.lt
          have q1:decide ((m':Int) + 1 > 0) = true:=decide_eq_true (by omega)
          have q2:IntKind.i64.wrap ((m':Int) + 1 - 1) = (m':Int):=by rw [Int.add_sub_cancel];exact IntWalk.i64_in _ (by omega)
          by_cases hz:(O2 m').2 = 0
          · have q3:(((O2 m').2:Int) == 0) = true:=by rw [hz];rfl
            have HG:=hidE hgh
            have HPO:=hidE ((popN_go hz).symm.trans hpop)
            have H:=hidE (And.intro HB (And.intro HR hb))
            clear HB HR hb hgh hpop hz
            go_wp2
            go_roundg m'
            case measure => have:=HG.out;omega
            case rel =>
              obtain ⟨HB,HR,hb⟩:=H.out
              exact ⟨m',by omega,Nat.le_refl _,HPO.out,spC_set1 (p + 1) (m' + 1) O2 (m':Int) m' rfl ▸ HB.set 1 _,HR.other (by omega) _,hb.setCell (p:=⟨w.heap.size,1,none⟩) (Nat.le_refl _) _⟩
          · have q3:(((O2 m').2:Int) == 0) = false:=beq_eq_false_iff_ne.2 (by omega)
            have hst:=popN_stop hz
            have HPE:=hidE (show popN O2 D2 = m' + 1 from hpop.symm.trans hst)
            have z0:=HB.lt
            have H:=hidE (And.intro HB (And.intro HR hb))
            clear HB HR hb hpop
            go_upto_region 9 with fail
            obtain ⟨HB,HR,hb⟩:=H.out
            obtain ⟨ds,hu,hd⟩:=Tryz.undSpot
            refine wp_region_lit (wpList_load_mid rfl 108 (.tmp 2) rfl w.heap.size 0 rfl (spC (p + 1) (m' + 1) O2).toList ds HB.range hu hd Tryz.infoSpot ?_)
            refine wpList_store_mid rfl 108 (.tmp 4) (.tmp 56) rfl (w.heap.size + 1 + 1) 0 (spC (p + 1) (m' + 1) O2) rfl rfl HR.there Tryz.infoSpot (spC_one _ _ _) ?_
            have HF:=spC_allZ (p + 1) (m' + 1) O2 ▸ HR.setCells (spC (p + 1) (m' + 1) O2).toList 0
            have hbF:=below_setCells hb (show w.heap.size≤w.heap.size + 1 + 1 by omega) (spC (p + 1) (m' + 1) O2).toList 0
            generalize World.setCells wr _ _ _ = wz at *
            clear H HB HR hb
            go_wp2
            refine bodyPost_ret (v:=spV (p + 1) (m' + 1) O2) ?_ rfl ⟨by rw [HPE.out],hbF⟩
            exact results_cell (fn:=Tryz.f45) Tryz.results45 rfl (run_loadVar_mid wz (w.heap.size + 1 + 1) 0 108 (spC (p + 1) (m' + 1) O2).toList ds HF.range hu hd Tryz.infoSpot)
    · have hd8:=hd2 hkd
      have hO2':=hidE (show O2 = putO (rowO d O) d (kd,K) from hO2.trans (if_neg hkd))
      have hD2':=hidE (show D2 = d + 1 from hD2.trans (if_neg hkd))
      have r1:((kd:Int) != 0) = true:=bne_iff_ne.2 (by omega)
      have c1:w3.cell? ⟨w.heap.size,1,none⟩ = some (.int .i64 d):=HB.cell 1
      have k4:w3.cell? ⟨w.heap.size + 1,4,none⟩ = some (.int .i64 K):=HP.cell 4
      have f0:=HB.free
      have cA:w3.cell? ⟨w.heap.size,2 + d * 2,none⟩ = some (.int .u8 (rowO d O d).1):=(HB.cell _).trans (spC_at _ _ _ hd8).1
      have cB:w3.cell? ⟨w.heap.size,2 + d * 2 + 1,none⟩ = some (.int .i64 (rowO d O d).2):=(HB.cell _).trans (spC_at _ _ _ hd8).2
      have q4:IntKind.i64.wrap ((d:Int) + 1) = (d:Int) + 1:=IntWalk.i64_in _ (by omega)
      clear hO2 hD2 hkd
      have H:=hidE (And.intro HB (And.intro HP (And.intro HR hb)))
      clear HB HP HR hb
      go_upto_region 6 with fail
      obtain ⟨HB,HP,HR,hb⟩:=H.out
      obtain ⟨w4,hw4⟩:∃ w4,w4 = (w3.setCell ⟨w.heap.size,2 + d * 2,none⟩ (.int .u8 kd)).setCell ⟨w.heap.size,2 + d * 2 + 1,none⟩ (.int .i64 K):=⟨_,rfl⟩
      replace HB:Blk w4 w.heap.size (spC (p + 1) d O2) 108:=hw4 ▸ hO2'.out ▸ spC_put (p + 1) d (rowO d O) hd8 kd K K rfl ▸ (HB.set _ _).set _ _
      replace HR:Blk w4 (w.heap.size + 1 + 1) spZ 108:=hw4 ▸ (HR.other (by omega) _).other (by omega) _
      replace hb:Below w.heap.size w w4:=hw4 ▸ (hb.setCell (p:=⟨w.heap.size,_,none⟩) (Nat.le_refl _) _).setCell (p:=⟨w.heap.size,_,none⟩) (Nat.le_refl _) _
      rw [← hw4]
      clear hw4 H c1 cA cB f0 z0 k0 k4 z1 HP w3
      have c1:w4.cell? ⟨w.heap.size,1,none⟩ = some (.int .i64 d):=HB.cell 1
      have f0:=HB.free;have z0:=HB.lt
      have H:=hidE (And.intro HB (And.intro HR hb))
      clear HB HR hb
      go_wp2_with fail
      go_loopg [] D2 (fun gh wr => ∃ D':Nat,D'≤D2∧D'≤gh∧popN O2 D' = popN O2 D2∧Blk wr w.heap.size (spC (p + 1) D' O2) 108∧Blk wr (w.heap.size + 1 + 1) spZ 108∧Below w.heap.size w wr)
      case atStart =>
        obtain ⟨HB,HR,hb⟩:=H.out
        exact ⟨D2,Nat.le_refl _,Nat.le_refl _,rfl,spC_set1 (p + 1) d O2 ((d:Int) + 1) D2 (by rw [hD2'.out];omega) ▸ HB.set 1 _,HR.other (by omega) _,hb.setCell (p:=⟨w.heap.size,1,none⟩) (Nat.le_refl _) _⟩
      case round =>
        obtain ⟨D',hDD,hgh,hpop,HB,HR,hb⟩:=hrel
        by_cases h0:D' = 0
        · subst h0
          have HPE:=hidE (show popN O2 D2 = 0 from hpop.symm)
          have z0:=HB.lt
          have H:=hidE (And.intro HB (And.intro HR hb))
          have c1:wr.cell? ⟨w.heap.size,1,none⟩ = some (.int .i64 0):=HB.cell 1
          clear HB HR hb hpop
          go_upto_region 9 with fail
          obtain ⟨HB,HR,hb⟩:=H.out
          obtain ⟨ds,hu,hd⟩:=Tryz.undSpot
          refine wp_region_lit (wpList_load_mid rfl 108 (.tmp 2) rfl w.heap.size 0 rfl (spC (p + 1) (0) O2).toList ds HB.range hu hd Tryz.infoSpot ?_)
          refine wpList_store_mid rfl 108 (.tmp 4) (.tmp 56) rfl (w.heap.size + 1 + 1) 0 (spC (p + 1) (0) O2) rfl rfl HR.there Tryz.infoSpot (spC_one _ _ _) ?_
          have HF:=spC_allZ (p + 1) (0) O2 ▸ HR.setCells (spC (p + 1) (0) O2).toList 0
          have hbF:=below_setCells hb (show w.heap.size≤w.heap.size + 1 + 1 by omega) (spC (p + 1) (0) O2).toList 0
          generalize World.setCells wr _ _ _ = wz at *
          clear H HB HR hb
          go_wp2
          refine bodyPost_ret (v:=spV (p + 1) (0) O2) ?_ rfl ⟨by rw [HPE.out],hbF⟩
          exact results_cell (fn:=Tryz.f45) Tryz.results45 rfl (run_loadVar_mid wz (w.heap.size + 1 + 1) 0 108 (spC (p + 1) (0) O2).toList ds HF.range hu hd Tryz.infoSpot)
        · obtain ⟨m',rfl⟩:∃ m',D' = m' + 1:=⟨D' - 1,by omega⟩
          have hm8:m' < 8:=by omega
          have hn':=hO16 m'
          have c1:wr.cell? ⟨w.heap.size,1,none⟩ = some (.int .i64 ((m':Int) + 1)):=(HB.cell 1).trans (by simp)
          have cL:wr.cell? ⟨w.heap.size,2 + m' * 2 + 1,none⟩ = some (.int .i64 (O2 m').2):=(HB.cell _).trans (spC_at _ _ _ hm8).2
          have f0:=HB.free;have z0:=HB.lt
          have q1:decide ((m':Int) + 1 > 0) = true:=decide_eq_true (by omega)
          have q2:IntKind.i64.wrap ((m':Int) + 1 - 1) = (m':Int):=by rw [Int.add_sub_cancel];exact IntWalk.i64_in _ (by omega)
          by_cases hz:(O2 m').2 = 0
          · have q3:(((O2 m').2:Int) == 0) = true:=by rw [hz];rfl
            have HG:=hidE hgh
            have HPO:=hidE ((popN_go hz).symm.trans hpop)
            have H:=hidE (And.intro HB (And.intro HR hb))
            clear HB HR hb hgh hpop hz
            go_wp2
            go_roundg m'
            case measure => have:=HG.out;omega
            case rel =>
              obtain ⟨HB,HR,hb⟩:=H.out
              exact ⟨m',by omega,Nat.le_refl _,HPO.out,spC_set1 (p + 1) (m' + 1) O2 (m':Int) m' rfl ▸ HB.set 1 _,HR.other (by omega) _,hb.setCell (p:=⟨w.heap.size,1,none⟩) (Nat.le_refl _) _⟩
          · have q3:(((O2 m').2:Int) == 0) = false:=beq_eq_false_iff_ne.2 (by omega)
            have hst:=popN_stop hz
            have HPE:=hidE (show popN O2 D2 = m' + 1 from hpop.symm.trans hst)
            have z0:=HB.lt
            have H:=hidE (And.intro HB (And.intro HR hb))
            clear HB HR hb hpop
            go_upto_region 9 with fail
            obtain ⟨HB,HR,hb⟩:=H.out
            obtain ⟨ds,hu,hd⟩:=Tryz.undSpot
            refine wp_region_lit (wpList_load_mid rfl 108 (.tmp 2) rfl w.heap.size 0 rfl (spC (p + 1) (m' + 1) O2).toList ds HB.range hu hd Tryz.infoSpot ?_)
            refine wpList_store_mid rfl 108 (.tmp 4) (.tmp 56) rfl (w.heap.size + 1 + 1) 0 (spC (p + 1) (m' + 1) O2) rfl rfl HR.there Tryz.infoSpot (spC_one _ _ _) ?_
            have HF:=spC_allZ (p + 1) (m' + 1) O2 ▸ HR.setCells (spC (p + 1) (m' + 1) O2).toList 0
            have hbF:=below_setCells hb (show w.heap.size≤w.heap.size + 1 + 1 by omega) (spC (p + 1) (m' + 1) O2).toList 0
            generalize World.setCells wr _ _ _ = wz at *
            clear H HB HR hb
            go_wp2
            refine bodyPost_ret (v:=spV (p + 1) (m' + 1) O2) ?_ rfl ⟨by rw [HPE.out],hbF⟩
            exact results_cell (fn:=Tryz.f45) Tryz.results45 rfl (run_loadVar_mid wz (w.heap.size + 1 + 1) 0 108 (spC (p + 1) (m' + 1) O2).toList ds HF.range hu hd Tryz.infoSpot)
end
end Go.Proofs.YthlepbbdjmmelaaGreatDoor
