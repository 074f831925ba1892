/- The parts of a term, one behind the other: (*list).add. Conditions: the list's rows lie apart from the term, sizes. The rule of a single child: (*term).unwrap. No conditions but that the block reads as a term. The rule of children of the kind: (*term).flatten. Conditions: the block reads as a term of at most 16 children. The contracts of strings.Builder's WriteByte, .. -/
import Derived.Test.YthlepbbdjmmelaaGreatDoorPWGK
import Derived.Test.YthlepbbdjmmelaaGreatDoorPWGB
import Derived.Deep.RegionLaw
import Derived.Deep.DeepCutAuto
import Derived.Shelf.Strings.BuilderK
import Derived.Test.YthlepbbdjmmelaaGreatDoorProg
import Derived.Test.YthlepbbdjmmelaaGreatDoorPWGA
import Derived.Shelf.LaysM
import Derived.Shelf.Strconv.Itoa4
import Derived.Test.YthlepbbdjmmelaaGreatDoorPWGI
import Derived.Maps.AppendAt
import Derived.Deep.RegionHeld3
namespace Go.Proofs.YthlepbbdjmmelaaGreatDoor
section
open Go.ChangeShapes Go.WideShapes Go.ChangeAt Go.RowKit
attribute [local irreducible] Go.Calls
def frI (t:Tm):List Int:=t.1.kids :: (prsF t.2).map (·.kids)
theorem ofL_flat:∀ l r:List Tm,(ofL (l ++ r)).flat = (ofL l).flat ++ (ofL r).flat
  | [],_ => rfl
  | t :: l,r => by simp only [List.cons_append,ofL,Fst.flat,ofL_flat l r,List.append_assoc,List.cons_append]
theorem ofL_prs:∀ l r:List Tm,prsF (ofL (l ++ r)) = prsF (ofL l) ++ prsF (ofL r)
  | [],_ => rfl
  | t :: l,r => by simp only [List.cons_append,ofL,prsF,ofL_prs l r,List.append_assoc,List.cons_append]
theorem flT_snoc (A:List Tm) (u:Tm):(ofL (A ++ [u])).flat = (ofL A).flat ++ flT u:=by rw [ofL_flat];rfl
theorem frI_snoc (A:List Tm) (u:Tm):(prsF (ofL (A ++ [u]))).map (·.kids) = (prsF (ofL A)).map (·.kids) ++ frI u:=by
  rw [ofL_prs,List.map_append]
  simp [ofL,prsF,frI]
theorem flT_eq (t:Tm):flT t = { t.1 with kids:=(t.2.len:Int) } :: t.2.flat:=by simp [flT,Fst.flat]
structure Bar (B g:Nat) (w w':World):Prop where
  os:w'.os = w.os
  tape:w'.tape = w.tape
  output:w'.output = w.output
  size:w.heap.size≤w'.heap.size
  block:∀ k,k < B→k ≠ g→w'.heap[k]? = w.heap[k]?
section
variable {B g:Nat} {w w' w2:World}
theorem Bar.refl (B g:Nat) (w:World):Bar B g w w:=⟨rfl,rfl,rfl,Nat.le_refl _,fun _ _ _ => rfl⟩
theorem Bar.trans (h:Bar B g w w') (h2:Bar B g w' w2):Bar B g w w2:=⟨h2.os.trans h.os,h2.tape.trans h.tape,h2.output.trans h.output,Nat.le_trans h.size h2.size,fun k a b => (h2.block k a b).trans (h.block k a b)⟩
theorem Bar.of (h:Below B w w'):Bar B g w w':=⟨h.os,h.tape,h.output,h.size,fun k a _ => h.block k a⟩
theorem Bar.put (w:World) (g i:Nat) (v:Value):Bar B g w (w.setCell ⟨g,i,none⟩ v):=⟨rfl,rfl,rfl,by simp [World.setCell],fun k _ hk => Below.heap_setCell _ _ _ _ hk⟩
theorem Bar.sam {S:Nat→Prop} (h:Bar B g w w') (hS:∀ k,S k→k < B∧k ≠ g):Sam S w w':=⟨h.size,fun k q _ => h.block k (hS k q).1 (hS k q).2⟩
theorem Bar.below (h:Bar B g w w') (hg:g≤B):Below g w w':=⟨h.os,h.tape,h.output,h.size,fun k hk => h.block k (by omega) (by omega)⟩
end
theorem Tryz.infoIntN:(Tryz.prog.info? 3).map (fun i => (i.zero,i.size,i.bytes)) = some (some (.int .i64 0),1,8):=by kernel_rfl
def ListAt (B g:Nat) (w:World) (P:List Prt) (R:List Int):Prop :=
  ∃ vp vf,Blk w g #[vp,vf] 55∧w.ownsRow B 59 5 vp P.length (cellsOfP P)∧w.ownsRow B 3 1 vf R.length (cellsK .i64 R)
theorem own_apart {w:World} {B sz sz':Nat} {e e':TypeId} {v v':Value} {n n':Nat} {xs ys:List Value} (h:w.ownsRow B e sz v n xs) (h':w.ownsRow B e' sz' v' n' ys) (hne:e ≠ e') {k:Nat} (hk:v.ownBlock = some k):v'.ownBlock ≠ some k:=by
  obtain ⟨_,h2 | ⟨g,cap,cur,rfl,_,h4,_⟩⟩:=h
  · rw [h2.1] at hk;simp [Value.ownBlock] at hk
  · obtain ⟨_,h2 | ⟨g',cap',cur',rfl,_,h4',_⟩⟩:=h'
    · rw [h2.1];simp [Value.ownBlock]
    · simp only [Value.ownBlock,Option.some.injEq] at hk ⊢
      subst hk
      intro e
      obtain rfl:=Option.some.inj e
      rw [h4] at h4'
      simp only [Option.some.injEq,Obj.cells.injEq] at h4'
      exact hne h4'.2.1
theorem ListAt.past {B g:Nat} {w w':World} {P:List Prt} {R:List Int} (h:ListAt B g w P R) (hb:Below w.heap.size w w'):ListAt B g w' P R:=by
  obtain ⟨vp,vf,h1,h2,h3⟩:=h
  exact ⟨vp,vf,h1.past hb,own_below h2 hb,own_below h3 hb⟩
def AddI (B g:Nat) (w:World) (x:Prt) (z:Int) (v:Value) (P:List Prt) (R:List Int) (W:World):Prop:=ListAt B g W P R∧Bar B g w W∧Blk W w.heap.size (tcA x z v) 62
theorem AddI.grown {B g:Nat} {w W w':World} {x:Prt} {z:Int} {v:Value} {P:List Prt} {R:List Int} {vp vf:Value} (hgB:g < B) (hBw:B≤w.heap.size) (hB:Blk W g #[vp,vf] 55) (hop:W.ownsRow B 59 5 vp P.length (cellsOfP P)) (hof:W.ownsRow B 3 1 vf R.length (cellsK .i64 R)) (hbar:Bar B g w W) (hx:Blk W w.heap.size (tcA x z v) 62)
    (w1:World) (h1:Below W.heap.size W w1) :
    (∀ (v':Value) (y:Prt),w'.ownsRow B 59 5 v' (P.length + 1) (cellsOfP P ++ [.int .u8 y.kind,.int .u32 y.n,.int .u32 y.g,.int .i64 y.d,.int .i64 y.kids])→w1.grownBy w' vp.ownBlock→AddI B g w x z v (P ++ [y]) R (w'.setCell ⟨g,0,none⟩ v')) ∧
    (∀ (v':Value) (y:Int),w'.ownsRow B 3 1 v' (R.length + 1) (cellsK .i64 R ++ [.int .i64 y])→w1.grownBy w' vf.ownBlock→AddI B g w x z v P (R ++ [y]) (w'.setCell ⟨g,1,none⟩ v')):=by
  have hsz:=h1.size
  have ne:∀ {sz n:Nat} {e:TypeId} {v':Value} {xs:List Value},w'.ownsRow B e sz v' n xs→∀ k,v'.ownBlock = some k→k ≠ g:=fun h k hk => by have:=own_block h hk;omega
  have ltw:Bar B g w w1:=hbar.trans (Bar.of (h1.mono (Nat.le_trans hBw hbar.size)))
  have bar:∀ {r:Option Nat},(∀ k,r = some k→B≤k)→w1.grownBy w' r→Bar B g w w':=fun hr hg => ltw.trans ⟨hg.os,hg.tape,hg.output,hg.size,fun k hk _ => hg.block k (by have:=ltw.size;omega) (fun e => by have:=hr k e.symm;omega)⟩
  have box:∀ {sz n:Nat} {e:TypeId} {v':Value} {xs:List Value},W.ownsRow B e sz v' n xs→e ≠ 62→w1.grownBy w' v'.ownBlock→Blk w' w.heap.size (tcA x z v) 62:=fun ho he hg => by
    refine (hx.past h1).grown hg fun e => ?_
    obtain ⟨_,h2 | ⟨q,cap,cur,rfl,_,h4,_⟩⟩:=ho
    · rw [h2.1] at e;simp [Value.ownBlock] at e
    · simp only [Value.ownBlock,Option.some.injEq] at e
      subst e
      unfold Blk at hx
      rw [hx] at h4
      simp only [Option.some.injEq,Obj.cells.injEq] at h4
      exact he h4.2.1.symm
  have lst:∀ {r:Option Nat},(∀ k,r = some k→B≤k)→w1.grownBy w' r→Blk w' g #[vp,vf] 55:=fun hr hg => (hB.past h1).grown hg fun e => by have:=hr g e.symm;omega
  have oth:∀ {sz n:Nat} {e:TypeId} {v':Value} {xs:List Value} {r:Option Nat},W.ownsRow B e sz v' n xs→(∀ k,r = some k→v'.ownBlock ≠ some k)→w1.grownBy w' r→w'.ownsRow B e sz v' n xs:=fun ho hr hg => (own_below ho h1).kept hg (by
    cases hv:Value.ownBlock _ with
    | none => exact .inl rfl
    | some k => exact .inr fun e => (hr k e.symm) hv)
  constructor
  · intro v' y ho hg
    have hb:=lst (fun k e => own_block hop e) hg
    have hs:=hb.set 0 v'
    simp only [List.setIfInBounds_toArray,List.set_cons_zero] at hs
    refine ⟨⟨v',vf,hs, ?_, ?_⟩,(bar (fun k e => own_block hop e) hg).trans (Bar.put _ _ _ _),(box hop (by decide) hg).other (by omega) _⟩
    · refine own_kept ?_ (fun k e => keptS (ne ho k e) _)
      rw [List.length_append,cellsOfP_app];exact ho
    · have:=oth hof (fun k e => own_apart hop hof (by decide) e) hg
      exact own_kept this (fun k e => keptS (ne this k e) _)
  · intro v' y ho hg
    have hb:=lst (fun k e => own_block hof e) hg
    have hs:=hb.set 1 v'
    simp only [List.setIfInBounds_toArray,List.set_cons_zero,List.set_cons_succ] at hs
    refine ⟨⟨vp,v',hs, ?_, ?_⟩,(bar (fun k e => own_block hof e) hg).trans (Bar.put _ _ _ _),(box hof (by decide) hg).other (by omega) _⟩
    · have:=oth hop (fun k e => own_apart hof hop (by decide) e) hg
      exact own_kept this (fun k e => keptS (ne this k e) _)
    · refine own_kept ?_ (fun k e => keptS (ne ho k e) _)
      rw [List.length_append,cellsK_app];exact ho
set_option maxHeartbeats 4000000 in
set_option maxRecDepth 100000 in
theorem add_c (Sn:Nat→Prop) (B g:Nat) (hgB:g < B) (hSn:∀ k,Sn k→k < B∧k ≠ g):∀ (m:Nat) (t:Tm) (z:Int) (v:Value) (P:List Prt) (R:List Int) (w:World),sizT t≤m→B≤w.heap.size→ListAt B g w P R→SliF Sn w v t.2→P.length + sizT t≤100000→R.length = P.length →
    Calls Tryz.prog 16 #[.pointer (some ⟨g,0,none⟩),trV t.1 z v] w fun e w' => e = .returned (.tuple #[])∧ListAt B g w' (P ++ flT t) (R ++ frI t)∧Bar B g w w':=by
  intro m
  induction m with
  | zero => intro t z v P R w h;simp only [sizT] at h;omega
  | succ m ih =>
    intro t z v P R w hm hBw hL hv hsz hRP
    obtain ⟨av,cap,rfl,hc1,hc2⟩:=hv.shape
    obtain ⟨vp,vf,hb,hop,hof⟩:=hL
    have HB:=hidE hb;have HOP:=hidE hop;have HOF:=hidE hof;have HV:=hidE hv;have IH:=hidE ih
    obtain ⟨ap,cp,rfl⟩:=own_sli hop
    obtain ⟨af,cf,rfl⟩:=own_sli hof
    obtain ⟨ip,hip,hpz0,hpz1,hpz2⟩:=info_parts Tryz.infoPart
    obtain ⟨ii,hii,hiz0,hiz1,hiz2⟩:=info_parts Tryz.infoIntN
    have HI:=hidE hip;have HZ0:=hidE hpz0;have HZ1:=hidE hpz1;have HZ2:=hidE hpz2
    have JI:=hidE hii;have JZ0:=hidE hiz0;have JZ1:=hidE hiz1;have JZ2:=hidE hiz2
    have c0:=hb.cell 0;have c1:=hb.cell 1;have gz:=hb.lt;have f0:=hb.free 0;have f1:=hb.free 1
    simp at c0 c1
    have HRP:=hidE hRP
    have hrz:R.length + sizT t≤100000:=by omega
    clear hb hop hof hv hRP hip hpz0 hpz1 hpz2 hii hiz0 hiz1 hiz2 ih
    obtain ⟨part,hpart⟩:∃ part:Prt,part = { t.1 with kids:=(t.2.len:Int) }:=⟨_,rfl⟩
    have HPART:=hidE hpart
    clear hpart
    go_enter Tryz.func16,Tryz.ntmps16
    go_upto_region 3 with fail
    obtain ⟨w1,hw1⟩:∃ w1,w1 = (w.alloc (.cells (tcA t.1 z (.slice av t.2.len cap)) 62)).alloc (.cells #[.int .u8 t.1.kind,.int .u32 t.1.n,.int .u32 t.1.g,.int .i64 t.1.d,.int .i64 t.2.len] 59):=⟨_,rfl⟩
    rw [← hw1]
    have hb1:Below w.heap.size w w1:=by rw [hw1];(repeat (first | exact Below.refl _ _ | assumption | refine balloc ?_ _ | refine below_drewN ?_ _ | refine bstep (by assumption) ?_ | refine bstep (Past.prop _) ?_ | refine Below.setCell ?_ (by first | exact Nat.le_refl _ | (simp;done) | (simp;omega)) _))
    have hbox:Blk w1 w.heap.size (tcA t.1 z (.slice av t.2.len cap)) 62:=by
      rw [hw1];exact (Blk.made w _ _).alloc _
    have hprt:Blk w1 (w.heap.size + 1) #[.int .u8 part.kind,.int .u32 part.n,.int .u32 part.g,.int .i64 part.d,.int .i64 part.kids] 59:=by
      rw [hw1,HPART.out]
      exact Blk.made_at _ _ _ _ (by simp)
    have HB1:=hidE hb1;have HBOX:=hidE hbox
    have L1:=hidE (HB.out.past hb1);have P1:=hidE (own_below HOP.out hb1);have F1:=hidE (own_below HOF.out hb1)
    have p0:=hprt.cell 0;have p1:=hprt.cell 1;have p2:=hprt.cell 2;have p3:=hprt.cell 3;have p4:=hprt.cell 4;have pz:=hprt.lt
    simp at p0 p1 p2 p3 p4
    have c0:=L1.out.cell 0;have gz:=L1.out.lt
    simp at c0
    have hB1:B≤w1.heap.size:=Nat.le_trans hBw hb1.size
    clear hw1 hb1 hbox hprt c1 f0 f1
    go_cut [] (fun wx => AddI B g w t.1 z (.slice av t.2.len cap) (P ++ [part]) R wx)
    case first =>
      go_region_law ((refine step_appV rfl (.tmp 17) (.tmp 19) 22 rfl B 59 ip _ 5 32 Tryz.underlying22 HI.out HZ0.out HZ1.out HZ2.out rfl (by decide) (.slice ap P.length cp) P.length (cellsOfP P) rfl (own_below P1.out (by (repeat (first | exact Below.refl _ _ | assumption | refine balloc ?_ _ | refine below_drewN ?_ _ | refine bstep (by assumption) ?_ | refine bstep (Past.prop _) ?_ | refine Below.setCell ?_ (by first | exact Nat.le_refl _ | (simp;done) | (simp;omega)) _)))) _ 1 [.int .u8 part.kind,.int .u32 part.n,.int .u32 part.g,.int .i64 part.d,.int .i64 part.kids] rfl (srcV_new (Blk.made_at _ _ _ _ (by first | rfl | (simp;done))) rfl (by intro y hy;simp at hy;rcases hy with rfl | rfl | rfl | rfl | rfl <;> rfl)) (by simp only [sizT] at hsz;omega) (by omega) (by simp;omega) ?_;intro v' w' own' hg';obtain ⟨av',cp',rfl⟩:=own_sli own';have hB2:=(L1.out.past (show Below w1.heap.size w1 _ from by (repeat (first | exact Below.refl _ _ | assumption | refine balloc ?_ _ | refine below_drewN ?_ _ | refine bstep (by assumption) ?_ | refine bstep (Past.prop _) ?_ | refine Below.setCell ?_ (by first | exact Nat.le_refl _ | (simp;done) | (simp;omega)) _)))).grown hg' (fun e => by have:=own_block P1.out e.symm;omega);have e0:=hB2.cell 0;have ef:=hB2.free 0;have ez:=hB2.lt;simp at e0;clear hB2))
      all_goals
        go_wp2
        go_meet
        case rel =>
          exact (AddI.grown (w':=w') hgB hBw L1.out P1.out F1.out (Bar.of (HB1.out.mono hBw)) HBOX.out _ (by (repeat (first | exact Below.refl _ _ | assumption | refine balloc ?_ _ | refine below_drewN ?_ _ | refine bstep (by assumption) ?_ | refine bstep (Past.prop _) ?_ | refine Below.setCell ?_ (by first | exact Nat.le_refl _ | (simp;done) | (simp;omega)) _)))).1 _ part own' hg'
    case rest =>
      obtain ⟨⟨vp,vf,hl2,hp2,hf2⟩,hbar2,hbox2⟩:=hcut
      clear P1 F1 L1 HBOX HB1 c0 gz p0 p1 p2 p3 p4 pz hB1
      obtain ⟨ap2,cp2,rfl⟩:=own_sli hp2
      obtain ⟨af2,cf2,rfl⟩:=own_sli hf2
      have L2:=hidE hl2;have P2:=hidE hp2;have F2:=hidE hf2;have HBAR:=hidE hbar2;have HBOX:=hidE hbox2
      have c1:=hl2.cell 1;have gz:=hl2.lt
      have p5:=hbox2.cell 5;have pz:=hbox2.lt
      simp at c1 p5
      have hB1:B≤wc.heap.size:=Nat.le_trans hBw hbar2.size
      obtain ⟨w2,hw2⟩:∃ w2,w2 = wc:=⟨_,rfl⟩
      subst hw2
      clear hl2 hp2 hf2 hbar2 hbox2
      go_upto_region 4 with fail
      go_cut [] (fun wx => AddI B g w t.1 z (.slice av t.2.len cap) (P ++ [part]) (R ++ [t.1.kids]) wx)
      case first =>
        go_region_law ((refine step_appV rfl (.tmp 27) (.tmp 30) 27 rfl B 3 ii _ 1 8 Tryz.underlying27 JI.out JZ0.out JZ1.out JZ2.out rfl (by decide) (.slice af2 R.length cf2) R.length (cellsK .i64 R) rfl (own_below F2.out (by (repeat (first | exact Below.refl _ _ | assumption | refine balloc ?_ _ | refine below_drewN ?_ _ | refine bstep (by assumption) ?_ | refine bstep (Past.prop _) ?_ | refine Below.setCell ?_ (by first | exact Nat.le_refl _ | (simp;done) | (simp;omega)) _)))) _ 1 [.int .i64 t.1.kids] rfl (srcV_new (Blk.made_at _ _ _ _ (by first | rfl | (simp;done))) rfl (by intro y hy;simp at hy;subst hy;rfl)) (by simp only [sizT] at hrz;omega) (by omega) (by simp;omega) ?_;intro v' w' own' hg';obtain ⟨av',cp',rfl⟩:=own_sli own';have hB2:=(L2.out.past (show Below w2.heap.size w2 _ from by (repeat (first | exact Below.refl _ _ | assumption | refine balloc ?_ _ | refine below_drewN ?_ _ | refine bstep (by assumption) ?_ | refine bstep (Past.prop _) ?_ | refine Below.setCell ?_ (by first | exact Nat.le_refl _ | (simp;done) | (simp;omega)) _)))).grown hg' (fun e => by have:=own_block F2.out e.symm;omega);have e0:=hB2.cell 1;have ef:=hB2.free 1;have ez:=hB2.lt;simp at e0;clear hB2))
        all_goals
          go_wp2
          go_meet
          case rel =>
            exact (AddI.grown (w':=w') hgB hBw L2.out P2.out F2.out HBAR.out HBOX.out _ (by (repeat (first | exact Below.refl _ _ | assumption | refine balloc ?_ _ | refine below_drewN ?_ _ | refine bstep (by assumption) ?_ | refine bstep (Past.prop _) ?_ | refine Below.setCell ?_ (by first | exact Nat.le_refl _ | (simp;done) | (simp;omega)) _)))).2 _ t.1.kids own' hg'
      case rest =>
        obtain ⟨hl3,hbar3,hbox3⟩:=hcut
        clear P2 F2 L2 HBOX c1 gz p5 pz hB1
        have L3:=hidE hl3;have HBAR3:=hidE hbar3
        have p6:=hbox3.cell 6;have pz:=hbox3.lt
        simp at p6
        have HN:=hidE (rfl:t.2.len = t.2.len)
        clear hl3 hbar3 hbox3 HBAR
        go_wp2_with fail
        go_loopg [37] t.2.len (fun gh v37 wr => ∃ (A C:List Tm),v37 = .int .i64 A.length∧A ++ C = toL t.2∧C.length≤gh∧ListAt B g wr (P ++ part :: (ofL A).flat) (R ++ t.1.kids :: (prsF (ofL A)).map (·.kids))∧Bar B g w wr)
        case atStart => exact ⟨[],toL t.2,rfl,rfl,by rw [toL_len];exact Nat.le_refl _,L3.out,HBAR3.out⟩
        case round =>
          obtain ⟨A,C,rfl,hAC,hgh,hla,hba⟩:=hrel
          have HAC:=hidE hAC;have HGH:=hidE hgh;have HLA:=hidE hla;have HBA:=hidE hba
          have hAn:A.length + C.length = t.2.len:=by rw [← toL_len,← hAC,List.length_append]
          clear hgh hla hba
          cases C with
          | nil =>
            have q1:decide ((A.length:Int) < (t.2.len:Int)) = false:=decide_eq_false (by simp at hAn;omega)
            have q2:¬ A.length < t.2.len:=by simp at hAn;omega
            have hA:A = toL t.2:=by simpa using hAC
            have hfin:ListAt B g wr (P ++ flT t) (R ++ frI t):=by
              have h:=HLA.out
              rw [hA,of_to] at h
              rw [flT_eq,← HPART.out];exact h
            have HF:=hidE hfin
            clear hAC hA hfin
            go_wp2
            go_end0
            exact ⟨rfl,HF.out,HBA.out⟩
          | cons u C =>
            have q1:decide ((A.length:Int) < (t.2.len:Int)) = true:=decide_eq_true (by simp at hAn;omega)
            have q2:A.length < t.2.len:=by simp at hAn;omega
            obtain ⟨b,off,cap',z',vk,e,_,hbz,hSb,hk,d0,d1,d2,d3,d4,d5,d6⟩:=(HV.out.sam (HBA.out.sam hSn)).get (i:=A.length) q2
            cases e
            have hu:u ∈ toL t.2:=by rw [← hAC];simp
            have hsu:=siz_kid hu
            have hsA:sizL A + sizT u + 1≤sizT t:=by
              have:=sizL_to t.2
              rw [← hAC,sizL_app] at this
              simp only [sizL] at this
              simp only [sizT] at this ⊢;omega
            have hge:(toL t.2).getD A.length tm0 = u:=by rw [← hAC,List.getD_eq_getElem?_getD,List.getElem?_append_right (Nat.le_refl _),Nat.sub_self];rfl
            rw [hge] at d0 d1 d2 d3 d5 hk
            obtain ⟨ak,ck,rfl,hk1,hk2⟩:=hk.shape
            have HK:=hidE hk;have HSA:=hidE hsA
            have hBr:B≤wr.heap.size:=Nat.le_trans hBw HBA.out.size
            have HCALL:=hidE (fun (w':World) (hb:Below wr.heap.size wr w') => IH.out u z' (.slice ak u.2.len ck) _ _ w' (by omega) (Nat.le_trans hBr hb.size) (HLA.out.past hb) (HK.out.sam (Sam.past hb)) (by
              rw [List.length_append,List.length_cons,flat_len,sizL_of];omega) (by
              simp only [List.length_append,List.length_cons,List.length_map,prsF_len,flat_len];have:=HRP.out;omega))
            clear hk hAC hge hsA hsu hu
            go_wp2_with (go_at_call 16;((with_reducible refine (HCALL.out _ ?below).mono ?_);(case below => (repeat (first | exact Below.refl _ _ | assumption | refine balloc ?_ _ | refine below_drewN ?_ _ | refine bstep (by assumption) ?_ | refine bstep (Past.prop _) ?_ | refine Below.setCell ?_ (by first | exact Nat.le_refl _ | (simp;done) | (simp;omega)) _)));rintro e w4 ⟨rfl,hla4,hba4⟩;have HLA4:=hidE hla4;have HBA4:=hidE hba4;clear hla4 hba4))
            go_roundg C.length
            case measure => have:=HGH.out;simp only [List.length_cons] at this;omega
            case rel =>
              refine ⟨A ++ [u],C,by simp,by rw [← HAC.out];simp,Nat.le_refl _, ?_,(HBA.out.trans (Bar.of ((show Below wr.heap.size wr _ from by (repeat (first | exact Below.refl _ _ | assumption | refine balloc ?_ _ | refine below_drewN ?_ _ | refine bstep (by assumption) ?_ | refine bstep (Past.prop _) ?_ | refine Below.setCell ?_ (by first | exact Nat.le_refl _ | (simp;done) | (simp;omega)) _))).mono hBr))).trans HBA4.out⟩
              have h:=HLA4.out
              simp only [List.append_assoc,List.cons_append] at h
              rw [flT_snoc,frI_snoc];exact h
end
section
open Go.ChangeShapes Go.WideShapes Go.ChangeAt Go.RowKit
attribute [local irreducible] Go.Calls
def RuleTo (S:Nat→Prop) (p:Nat) (r:Option Tm) (t:Tm) (w:World) (e:Ending) (w':World):Prop :=
  e = .returned (.bool r.isSome)∧TermB S w' p (r.getD t)∧w.grownBy w' (some p)
set_option maxHeartbeats 2000000 in
set_option maxRecDepth 100000 in
theorem unwrap_c (S:Nat→Prop) (p:Nat) (t:Tm) (w:World) (hS:¬ S p) (hT:TermB S w p t) :
    Calls Tryz.prog 70 #[.pointer (some ⟨p,0,none⟩)] w (RuleTo S p (oneR t) t w):=by
  obtain ⟨z,v,hb,hv⟩:=hT
  obtain ⟨av,cap,rfl,hc1,hc2⟩:=hv.shape
  have c0:=hb.cell 0;have c1:=hb.cell 1;have c2:=hb.cell 2;have c3:=hb.cell 3;have c4:=hb.cell 4;have c5:=hb.cell 5;have c6:=hb.cell 6
  have pz:=hb.lt
  simp at c0 c1 c2 c3 c4 c5 c6
  by_cases h1:t.2.len = 1
  · obtain ⟨b,off,cap',z',vk,e,_,hbz,hSb,hk,d0,d1,d2,d3,d4,d5,d6⟩:=hv.get (i:=0) (by omega)
    cases e
    obtain ⟨ak,ck,rfl,_,_⟩:=hk.shape
    simp only [Nat.zero_mul,Nat.add_zero] at d0 d1 d2 d3 d4 d5 d6
    have q1:decide ((t.2.len:Int) ≠ 1) = false:=decide_eq_false (by omega)
    have f0:=hb.free 0;have f1:=hb.free 1;have f2:=hb.free 2;have f3:=hb.free 3;have f4:=hb.free 4;have f5:=hb.free 5;have f6:=hb.free 6
    have ho:oneR t = some ((toL t.2).getD 0 tm0):=by
      unfold oneR
      rw [if_pos (by rw [toL_len];exact h1)]
      match h:toL t.2,(toL_len t.2).trans h1 with
      | [u],_ => rfl
    generalize (toL t.2).getD 0 tm0 = u at *
    have HB:=hidE hb;have HK:=hidE hk;have HO:=hidE ho
    clear hb hv hk ho
    go_enter Tryz.func70,Tryz.ntmps70
    go_wp2
    go_ret
    refine ⟨by rw [HO.out];rfl, ?_,put7_grown w p u.1 z' _⟩
    rw [HO.out]
    exact ⟨z',_,put7_blk HB.out u.1 z' _,HK.out.off hS (put7_grown w p u.1 z' _)⟩
  · have q1:decide ((t.2.len:Int) ≠ 1) = true:=decide_eq_true (by omega)
    have HB:=hidE hb;have HV:=hidE hv
    have HO:=hidE (show oneR t = none from by unfold oneR;rw [if_neg (by rw [toL_len];exact h1)])
    clear hb hv
    go_enter Tryz.func70,Tryz.ntmps70
    go_wp2
    go_ret
    exact ⟨by rw [HO.out];rfl,by rw [HO.out];exact ⟨z,_,HB.out,HV.out⟩,grown_refl _ _⟩
end
section
open Go.ChangeShapes Go.WideShapes Go.ChangeAt Go.RowKit
attribute [local irreducible] Go.Calls
theorem getD_toL {F:Fst} {A R:List Tm} {u:Tm} (h:A ++ u :: R = toL F):(toL F).getD A.length tm0 = u:=by
  rw [← h,List.getD_eq_getElem?_getD,List.getElem?_append_right (Nat.le_refl _),Nat.sub_self];rfl
theorem srcV_past {w w':World} {sz:Nat} {v:Value} {n:Nat} {ys:List Value} (h:SrcV w sz v n ys) (hb:Below w.heap.size w w'):SrcV w' sz v n ys:=by
  obtain ⟨a,cap,e,h1,h2,h3,h4⟩:=h
  refine ⟨a,cap,e,h1,h2,h3,fun ad ha j u hu => ?_⟩
  have:=h4 ad ha j u hu
  exact (hb.cell (World.block_lt_of_cell? w _ this)).trans this
theorem flat_fin {t:Tm} {n kd:Nat} {c:Bool} {D:List Tm} (hn:(toL t.2).length = n) (hk:t.1.kind = kd) (hc:c = flatC kd n (toL t.2)) (hD:D = flatG kd n (toL t.2)):(flatR t).isSome = c∧(flatR t).getD t = (t.1,ofL D):=by
  subst hn hk hc hD
  unfold flatR
  by_cases h:flatC t.1.kind (toL t.2).length (toL t.2) = true
  · rw [if_pos h];exact ⟨h.symm,rfl⟩
  · rw [if_neg h]
    refine ⟨(by simpa using h:_ = false).symm, ?_⟩
    rw [flatC_id _ _ _ (by simpa using h),of_to];rfl
set_option maxHeartbeats 4000000 in
set_option maxRecDepth 100000 in
theorem flatten_c (S:Nat→Prop) (p:Nat) (t:Tm) (w:World) (hS:¬ S p) (hS2:∀ k,w.heap.size≤k→S k) (hT:TermB S w p t) (hl:t.2.len≤16) (hlk:∀ u ∈ toL t.2,u.2.len≤16) :
    Calls Tryz.prog 71 #[.pointer (some ⟨p,0,none⟩)] w (RuleTo S p (flatR t) t w):=by
  obtain ⟨z,v,hb,hv⟩:=hT
  obtain ⟨av,cap,rfl,hc1,hc2⟩:=hv.shape
  obtain ⟨kd,hkd⟩:∃ kd,t.1.kind = kd:=⟨_,rfl⟩
  have pz:=hb.lt
  have HB:=hidE hb;have HV:=hidE hv;have HL:=hidE hl;have HLK:=hidE hlk;have HKD:=hidE hkd
  obtain ⟨ix,hix,hz0,hzz,hz4⟩:=info_parts Tryz.infoTermN
  have HI:=hidE hix;have HZ0:=hidE hz0;have HZ1:=hidE hzz;have HZ2:=hidE hz4
  have c6:=hb.cell 6;have c0:=hb.cell 0
  simp at c6 c0
  clear hix hz0 hzz hz4 hb hv hl hlk
  obtain ⟨n,hn⟩:∃ n,t.2.len = n:=⟨_,rfl⟩
  rw [hn] at c6 HL hc1
  rw [hkd] at c0
  have HN:=hidE hn;clear hn hkd
  go_enter Tryz.func71,Tryz.ntmps71
  go_wp2
  go_loopg [3,4,5,19] n (fun gh v3 v4 v5 v19 wr => ∃ (A D R:List Tm) (m:Nat) (c:Bool),v4 = .int .i64 m∧v5 = .bool c∧v19 = .int .i64 A.length∧A ++ R = toL t.2∧R.length≤gh∧D.length + R.length = m∧m≤16∧D ++ flatG kd m R = flatG kd n (toL t.2)∧(c || flatC kd m R) = flatC kd n (toL t.2)∧OwnN w.heap.size (Old S w) wr v3 D∧Below w.heap.size w wr)
  case atStart => exact ⟨[],[],toL t.2,n,false,rfl,rfl,rfl,rfl,by rw [toL_len,HN.out];exact Nat.le_refl _,by rw [toL_len,HN.out];simp,HL.out,rfl,by simp,ownN_nil _ _ _,Below.refl _ _⟩
  case round =>
    obtain ⟨A,D,R,m,c,rfl,rfl,rfl,hAR,hgh,hDR,hm,hG,hC,hO,hbl⟩:=hrel
    have HBL:=hidE hbl;have HG:=hidE hG;have HC:=hidE hC;have HO:=hidE hO;have HAR:=hidE hAR;have HGH:=hidE hgh;have HDR:=hidE hDR
    have e6:=(hbl.cell (p:=⟨p,6,none⟩) pz).trans c6
    have e0:=(hbl.cell (p:=⟨p,0,none⟩) pz).trans c0
    have ez:=Nat.lt_of_lt_of_le pz hbl.size
    have hAn:A.length + R.length = n:=by rw [← HN.out,← toL_len,← hAR,List.length_append]
    clear hG hC hO hbl hgh hDR
    cases R with
    | nil =>
      have q1:decide ((A.length:Int) < (n:Int)) = false:=decide_eq_false (by simp at hAn;omega)
      have q2:¬ A.length < n:=by simp at hAn;omega
      have hcc:c = flatC kd n (toL t.2):=by have:=HC.out;simpa [flatC] using this
      have hDD:D = flatG kd n (toL t.2):=by have:=HG.out;simpa [flatG] using this
      have hfin:=flat_fin (t:=t) (n:=n) (by rw [toL_len];exact HN.out) HKD.out hcc hDD
      have pf:=(HB.out.past HBL.out).free 6
      obtain ⟨a3,c3,hv3⟩:∃ a3 c3,u3 = .slice a3 D.length c3:=by obtain ⟨xs,ho,_⟩:=HO.out;exact own_sli ho
      subst hv3
      have HF:=hidE hfin
      clear hcc hDD hfin
      go_wp2
      go_ret
      refine ⟨by rw [HF.out.1];rfl, ?_,grown_trans (grown_any HBL.out) (grown_set _ _ _ _)⟩
      rw [HF.out.2]
      have hs:=(HB.out.past HBL.out).set 6 (.slice a3 D.length c3)
      simp only [tcA,List.setIfInBounds_toArray,List.set_cons_zero,List.set_cons_succ] at hs
      exact ⟨z,_,hs,(HO.out.sli hS2 (fun k q => q.1)).off hS (grown_set _ _ _ _)⟩
    | cons u R =>
      have q1:decide ((A.length:Int) < (n:Int)) = true:=decide_eq_true (by simp at hAn;omega)
      have q2:A.length < n:=by simp at hAn;omega
      obtain ⟨b,off,cap',z',vk,e,_,hbz,hSb,hk,d0,d1,d2,d3,d4,d5,d6⟩:=(HV.out.old.sam (Sam.old HBL.out)).get (i:=A.length) (by rw [HN.out];simp at hAn;omega)
      cases e
      rw [getD_toL hAR] at d0 d1 d2 d3 d5 hk
      obtain ⟨ak,ck,rfl,hk1,hk2⟩:=hk.shape
      have HK:=hidE hk
      have hul:=HLK.out u (by rw [← hAR];simp)
      clear hk hAR
      have r3:wrap64 ((m:Int) - 1 + u.2.len) = (m:Int) - 1 + u.2.len:=by unfold wrap64;omega
      obtain ⟨xs,ho,hrx⟩:=HO.out
      obtain ⟨a3,c3,hv3⟩:∃ a3 c3,u3 = .slice a3 D.length c3:=own_sli ho
      subst hv3
      have hob:∀ j,(Value.slice a3 D.length c3).ownBlock = some j→w.heap.size≤j:=fun j hj => own_block ho hj
      have HOB:=hidE hob;have HOW:=hidE ho;have HRX:=hidE hrx
      have hws:=HBL.out.size
      have hd16:D.length≤16:=by have:=HDR.out;omega
      clear HO ho hrx hob
      by_cases hgo:u.1.kind = kd∧m + u.2.len≤17
      · have hG2:flatG kd m (u :: R) = toL u.2 ++ flatG kd (m + u.2.len - 1) R:=by rw [flatG,if_pos hgo]
        have hC2:flatC kd m (u :: R) = true:=by rw [flatC,if_pos hgo]
        have HG2:=hidE hG2;have HC2:=hidE hC2
        have r1:((u.1.kind:Int) != (kd:Int)) = false:=by simp;omega
        have r2:decide ((16:Int) < (m:Int) - 1 + u.2.len) = false:=by simp;omega
        have hm2:=hgo.2
        clear hG2 hC2 hgo
        go_wp2
        go_quiet (fail)
        obtain ⟨ys,hsrc,hys⟩:=HK.out.src
        have HSRC:=hidE hsrc;have HYS:=hidE hys
        clear hsrc hys
        go_wp2_with (at_builtin;go_loud (refine list_appV rfl (.tmp 46) (.tmp 48) 60 rfl w.heap.size 62 ix _ 7 64 Tryz.underlying60 HI.out HZ0.out HZ1.out HZ2.out rfl (by decide) (.slice a3 D.length c3) D.length xs rfl (own_below HOW.out (by (repeat (first | exact Below.refl _ _ | assumption | refine balloc ?_ _ | refine below_drewN ?_ _ | refine bstep (by assumption) ?_ | refine bstep (Past.prop _) ?_ | refine Below.setCell ?_ (by first | exact Nat.le_refl _ | (simp;done) | (simp;omega)) _)))) _ u.2.len ys rfl (srcV_past HSRC.out (by (repeat (first | exact Below.refl _ _ | assumption | refine balloc ?_ _ | refine below_drewN ?_ _ | refine bstep (by assumption) ?_ | refine bstep (Past.prop _) ?_ | refine Below.setCell ?_ (by first | exact Nat.le_refl _ | (simp;done) | (simp;omega)) _)))) (by omega) (by omega) (by simp;omega) ?_);intro v' w2 own' hg';obtain ⟨av',cp',rfl⟩:=own_sli own')
        go_roundg R.length
        case measure => have:=HGH.out;simp only [List.length_cons] at this;omega
        case rel =>
          have hbl3:=(show Below w.heap.size wr w2 from Below.grown ((show Below wr.heap.size wr _ from by (repeat (first | exact Below.refl _ _ | assumption | refine balloc ?_ _ | refine below_drewN ?_ _ | refine bstep (by assumption) ?_ | refine bstep (Past.prop _) ?_ | refine Below.setCell ?_ (by first | exact Nat.le_refl _ | (simp;done) | (simp;omega)) _))).mono hws) hg' (by simp;omega) (fun j hj => HOB.out j hj))
          have hsm:=Sam.old (S:=S) hbl3
          have hdr:=HDR.out
          simp only [List.length_cons] at hdr
          refine ⟨A ++ [u],D ++ toL u.2,R,m + u.2.len - 1,true,by congr 1;omega,rfl,by simp,by rw [← HAR.out];simp,Nat.le_refl _,by rw [List.length_append,toL_len];omega,by omega,by rw [← HG.out,HG2.out];simp,by rw [← HC.out,HC2.out];simp,⟨_,by rw [List.length_append,toL_len];exact own',CelF.app (by rw [of_to];exact HYS.out.sam hsm) (HRX.out.sam hsm)⟩,HBL.out.trans hbl3⟩
      · have hG2:flatG kd m (u :: R) = u :: flatG kd m R:=by rw [flatG,if_neg hgo]
        have hC2:flatC kd m (u :: R) = flatC kd m R:=by rw [flatC,if_neg hgo]
        have HG2:=hidE hG2;have HC2:=hidE hC2
        clear hG2 hC2
        have hcase:(((u.1.kind:Int) != (kd:Int)) = true∧(u.1.kind != kd) = true) ∨ (((u.1.kind:Int) != (kd:Int)) = false∧decide ((16:Int) < (m:Int) - 1 + u.2.len) = true):=by
          by_cases hkk:u.1.kind = kd
          · exact .inr ⟨by simp;omega,by simp;omega⟩
          · exact .inl ⟨by simp;omega,by simpa using hkk⟩
        clear hgo
        rcases hcase with ⟨r1,r2⟩ | ⟨r1,r2⟩
        all_goals
          go_wp2
          go_quiet (fail)
          go_wp2_with (at_builtin;go_loud (refine list_appV rfl (.tmp 42) (.tmp 44) 60 rfl w.heap.size 62 ix _ 7 64 Tryz.underlying60 HI.out HZ0.out HZ1.out HZ2.out rfl (by decide) (.slice a3 D.length c3) D.length xs rfl (own_below HOW.out (by (repeat (first | exact Below.refl _ _ | assumption | refine balloc ?_ _ | refine below_drewN ?_ _ | refine bstep (by assumption) ?_ | refine bstep (Past.prop _) ?_ | refine Below.setCell ?_ (by first | exact Nat.le_refl _ | (simp;done) | (simp;omega)) _)))) _ 1 (tcV u.1 z' _) rfl (srcV_new (Blk.made_at _ _ _ _ (by first | rfl | (simp;done) | (simp [World.drewN];done))) rfl (by intro y hy;simp at hy;rcases hy with rfl | rfl | rfl | rfl | rfl | rfl | rfl <;> rfl)) (by omega) (by omega) (by simp;omega) ?_);intro v' w2 own' hg';obtain ⟨av',cp',rfl⟩:=own_sli own')
          go_roundg R.length
          case measure => have:=HGH.out;simp only [List.length_cons] at this;omega
          case rel =>
            have hbl2:=HBL.out.trans (Below.grown ((show Below wr.heap.size wr _ from by (repeat (first | exact Below.refl _ _ | assumption | refine balloc ?_ _ | refine below_drewN ?_ _ | refine bstep (by assumption) ?_ | refine bstep (Past.prop _) ?_ | refine Below.setCell ?_ (by first | exact Nat.le_refl _ | (simp;done) | (simp;omega)) _))).mono hws) hg' (by simp;omega) (fun j hj => HOB.out j hj))
            have hsm:=Sam.old (S:=S) ((show Below w.heap.size wr w2 from Below.grown ((show Below wr.heap.size wr _ from by (repeat (first | exact Below.refl _ _ | assumption | refine balloc ?_ _ | refine below_drewN ?_ _ | refine bstep (by assumption) ?_ | refine bstep (Past.prop _) ?_ | refine Below.setCell ?_ (by first | exact Nat.le_refl _ | (simp;done) | (simp;omega)) _))).mono hws) hg' (by simp;omega) (fun j hj => HOB.out j hj)))
            refine ⟨A ++ [u],D ++ [u],R,m,c,rfl,rfl,by simp,by rw [← HAR.out];simp,Nat.le_refl _,by have:=HDR.out;simp only [List.length_append,List.length_cons,List.length_nil] at this ⊢;omega,hm,by rw [← HG.out,HG2.out];simp,by rw [← HC.out,HC2.out],⟨_,by rw [List.length_append];exact own',CelF.app ((celF_one HK.out).sam hsm) (HRX.out.sam hsm)⟩,hbl2⟩
end
section
open Go.ChangeShapes Go.WideShapes Go.ChangeAt Go.RowKit Go.Shelf
attribute [local irreducible] Go.Calls
theorem Tryz.infoU8:(Tryz.prog.info? 5).map (fun i => (i.zero,i.size,i.bytes)) = some (some (.int .u8 0),1,1):=by kernel_rfl
theorem ownF_sli {A:World} {β sz n:Nat} {e:TypeId} {v:Value} {xs:List Value} (h:A.ownsRowF β e sz v n xs):∃ a cap,v = .slice a n cap:=by
  rcases h.2 with ⟨hv,h0⟩ | ⟨g,cap,cur,fz,hv,_⟩
  · exact ⟨none,0,by rw [hv,h0]⟩
  · exact ⟨_,cap,hv⟩
end
section
open Go.ChangeShapes Go.WideShapes Go.ChangeAt Go.RowKit Go.Shelf
attribute [local irreducible] Go.Calls
def WrAt (B b:Nat) (pv:Value) (l:List UInt8) (o:Value) (w:World):Prop:=B≤b∧∃ v,Blk w b #[pv,v,o] 186∧w.ownsRowF B 5 1 v l.length (Lib.byteCells l)
def Wr (B b:Nat) (l:List UInt8) (o:Value) (w:World):Prop:=WrAt B b (.pointer none) l o w ∨ WrAt B b (.pointer (some ⟨b,0,none⟩)) l o w
theorem Tryz.infoWr:(Tryz.prog.info? 184).map (·.size) = some 2:=by kernel_rfl
theorem Tryz.liesWr:liesAt Tryz.prog Tryz.prog.depth 186 (3 / Tryz.prog.cellsOf 186) 0 184 1 = true:=by kernel_rfl
theorem Tryz.cellsByte:Tryz.prog.cellsOf 5 = 1:=by kernel_rfl
theorem wr_out {B b:Nat} {pv:Value} {l:List UInt8} {o:Value} {w:World} (h:WrAt B b pv l o w):∃ v,Blk w b #[pv,v,o] 186∧w.ownsRowF B 5 1 v l.length (Lib.byteCells l)∧v.ownBlock ≠ some b∧b < w.heap.size∧B≤b:=by
  obtain ⟨hB,v,hb,ho⟩:=h
  exact ⟨v,hb,ho,Lib.ownBlock_neF ho hb (by decide),hb.lt,hB⟩
theorem wr_set0 {B b:Nat} {pv q:Value} {l:List UInt8} {o:Value} {w:World} (h:WrAt B b pv l o w):WrAt B b q l o (w.setCell ⟨b,0,none⟩ q):=by
  obtain ⟨v,hb,ho,hne,hlt,hB⟩:=wr_out h
  have hs:=hb.set 0 q
  exact ⟨hB,v,by simpa using hs,ho.kept (grown_set w b 0 q) (.inr hne)⟩
theorem wr_set1 {B b:Nat} {pv v v':Value} {l:List UInt8} {o:Value} {w:World} (hB:B≤b) (hb:Blk w b #[pv,v,o] 186) (ho:w.ownsRowF B 5 1 v' l.length (Lib.byteCells l)):WrAt B b pv l o (w.setCell ⟨b,1,none⟩ v'):=by
  have hs:=hb.set 1 v'
  exact ⟨hB,v',by simpa using hs,ho.kept (grown_set w b 1 v') (.inr (Lib.ownBlock_neF ho hb (by decide)))⟩
set_option maxHeartbeats 1000000 in
set_option maxRecDepth 100000 in
theorem wr_check (B b:Nat) (l:List UInt8) (o:Value) (w:World) (h:Wr B b l o w) :
    Calls Tryz.prog 123 #[.pointer (some ⟨b,0,none⟩)] w fun e w' => e = .returned (.tuple #[])∧WrAt B b (.pointer (some ⟨b,0,none⟩)) l o w'∧Below B w w'∧Lib.OthersKept 5 (some b) w w':=by
  obtain ⟨j,hj,hjs⟩:=Option.map_eq_some_iff.1 Tryz.infoWr
  rcases h with h | h
  · obtain ⟨v,hb,ho,hne,hlt,hB⟩:=wr_out h
    have h0:=hb.cell 0;have hz:=hb.free 0
    have hsh:w.shape? b = some (186,3):=by
      have:w.heap[b]? = some (.cells #[.pointer none,v,o] 186 (0,0)):=hb
      simp [World.shape?,this]
    simp at h0
    have HW:=hidE h;have HLT:=hidE hlt;have HBB:=hidE hB
    clear h hb ho hne
    have e1:=fun w hsh => Lib.run_to_unsafe (P:=Tryz.prog) (e:=186) (cells:=3) w ⟨b,0,none⟩ Tryz.underlying181 Tryz.underlying200 hj (by rw [hjs];decide) hsh (Nat.zero_lt_succ 2)
    have e2:=fun w hsh => Lib.run_from_unsafe (P:=Tryz.prog) (e:=186) (cells:=3) w ⟨b,0,none⟩ Tryz.underlying200 Tryz.underlying181 hj hsh Tryz.liesWr
    go_enter Tryz.func123,Tryz.ntmps123
    go_wp2
    rw [run_callFunc_extern Tryz.func127 (by kernel_rfl) (by kernel_rfl) (by kernel_rfl) (e:=Extern.AbiNoEscape.same) (by kernel_rfl)]
    rw [Lib.run_noEscape]
    simp only [Result.andThen]
    rw [Oper.upon_value]
    go_wp2
    go_end0
    exact ⟨rfl,wr_set0 HW.out,(Below.refl B w).setCell (p:=⟨b,0,none⟩) HBB.out _,(Lib.OthersKept.refl _ _ w).setCell ⟨b,0,none⟩ rfl _⟩
  · obtain ⟨v,hb,ho,hne,hlt,hB⟩:=wr_out h
    have h0:=hb.cell 0
    simp at h0
    have HW:=hidE h
    clear h hb ho hne
    have e1:=fun w => Lib.run_neq_ptr_same (P:=Tryz.prog) w ⟨b,0,none⟩ Tryz.underlying181 hj
    go_enter Tryz.func123,Tryz.ntmps123
    go_wp2
    go_end0
    exact ⟨rfl,HW.out,Below.refl B _,Lib.OthersKept.refl _ _ _⟩
def WroteW (B b:Nat) (l:List UInt8) (o:Value) (w w':World):Prop:=Wr B b l o w'∧Below B w w'∧Lib.OthersKept 5 (some b) w w'
set_option maxHeartbeats 2000000 in
set_option maxRecDepth 100000 in
theorem wr_byte (B b:Nat) (l:List UInt8) (o:Value) (c:UInt8) (w:World) (h:Wr B b l o w) (hl:l.length + 1≤140737488355328) (hBw:B≤w.heap.size) (z:Int) (hz:z = c.toNat) :
    Calls Tryz.prog 125 #[.pointer (some ⟨b,0,none⟩),.int .u8 z] w fun e w' => e = .returned .nilIface∧WroteW B b (l ++ [c]) o w w':=by
  obtain ⟨i0,hi,hz0,hz1,hz2⟩:=info_parts Tryz.infoU8
  have HI:=hidE hi;have HZ0:=hidE hz0;have HZ1:=hidE hz1;have HZ2:=hidE hz2
  have HC:=hidE (wr_check B b l o w h)
  have hbl:=Lib.byteCells_length l
  have HZ:=hidE (show Lib.byteCells l ++ [.int .u8 z] = Lib.byteCells (l ++ [c]) by rw [Lib.byteCells_append,hz];rfl)
  clear h hi hz0 hz1 hz2 hz
  go_enter Tryz.func125,Tryz.ntmps125
  go_wp2_with (go_at_call 123;(with_reducible refine HC.out.mono ?_))
  rintro e w1 ⟨rfl,h1,hb1,hk1⟩
  obtain ⟨v,hbk,hown,hne,hlt,hBb⟩:=wr_out h1
  have c0:=hbk.cell 0;have c1:=hbk.cell 1;have c2:=hbk.cell 2
  simp at c0 c1 c2
  have hw1:=hb1.size
  have HO:=hidE hown;have HB1:=hidE hb1;have HK1:=hidE hk1;have HBK:=hidE hbk
  clear h1 hown hb1 hk1 hbk
  go_wp2_with (at_builtin;refine wpList_append_ownF _ rfl _ _ 182 rfl B 5 i0 (.int .u8 0) 1 1 Tryz.underlying182 HI.out HZ0.out HZ1.out HZ2.out rfl (by decide) _ _ _ rfl (HO.out.alloc _) ⟨w1.heap.size,0,none⟩ 1 1 [.int .u8 z] rfl rfl (new_cellsT _ #[.int .u8 z] 5) (by intro y hy;simp at hy;subst hy;rfl) (by unfold maxLen;omega) (by omega) (by simp;omega) ?_;intro v' w2 hown' hgrow _;have hb2:Blk w2 b #[.pointer (some ⟨b,0,none⟩),v,o] 186:=(by refine (hgrow.block b (by simp;omega) (fun e => hne e.symm)).trans ?_;exact HBK.out.alloc _);have d0:=hb2.cell 0;have d1:=hb2.cell 1;have d2:=hb2.cell 2;have f1:=hb2.free 1;have z2:=hb2.lt;simp at d0 d1 d2;obtain ⟨ao,cap,rfl⟩:=ownF_sli hown';have HG:=hidE hgrow;have HO2:=hidE hown';have HB2:=hidE hb2;clear hgrow hown' hb2)
  go_ret
  refine ⟨rfl,.inr ?_, ?_,((HK1.out.alloc _).grown HG.out (Lib.ownsRowF_kind (HO.out.alloc _))).setCell ⟨b,1,none⟩ rfl _⟩
  · refine wr_set1 hBb HB2.out ?_
    rw [← HZ.out,List.length_append]
    exact HO2.out
  · exact ((HB1.out.alloc (by omega) _).grown HG.out (by simp;omega) (fun k hk => (HO.out.lt k hk).1)).setCell (p:=⟨b,1,none⟩) hBb _
set_option maxHeartbeats 2000000 in
set_option maxRecDepth 100000 in
theorem wr_str (B b:Nat) (l t:List UInt8) (o:Value) (w:World) (h:Wr B b l o w) (hl:l.length + t.length≤140737488355328) (hBw:B≤w.heap.size) :
    Calls Tryz.prog 115 #[.pointer (some ⟨b,0,none⟩),strV t] w fun e w' => e = .returned (.tuple #[.int .i64 t.length,.nilIface])∧WroteW B b (l ++ t) o w w':=by
  obtain ⟨i0,hi,hz0,hz1,hz2⟩:=info_parts Tryz.infoU8
  have HI:=hidE hi;have HZ0:=hidE hz0;have HZ1:=hidE hz1;have HZ2:=hidE hz2
  have HC:=hidE (wr_check B b l o w h)
  have hbl:=Lib.byteCells_length l
  have slen:(⟨t.toArray⟩:ByteArray).size = t.length:=by simp [ByteArray.size]
  have HZ:=hidE (show Lib.byteCells l ++ Lib.strCells ⟨t.toArray⟩ = Lib.byteCells (l ++ t) by rw [Lib.byteCells_append];rfl)
  clear h hi hz0 hz1 hz2
  go_enter Tryz.func115,Tryz.ntmps115
  go_wp2_with (go_at_call 123;(with_reducible refine HC.out.mono ?_))
  rintro e w1 ⟨rfl,h1,hb1,hk1⟩
  obtain ⟨v,hbk,hown,hne,hlt,hBb⟩:=wr_out h1
  have c0:=hbk.cell 0;have c1:=hbk.cell 1;have c2:=hbk.cell 2
  simp at c0 c1 c2
  have hw1:=hb1.size
  have HO:=hidE hown;have HB1:=hidE hb1;have HK1:=hidE hk1;have HBK:=hidE hbk
  clear h1 hown hb1 hk1 hbk
  go_wp2_with (at_builtin;refine Lib.wpList_append_own_stringF _ rfl _ _ 182 9 rfl B 5 i0 Tryz.underlying182 Tryz.underlying9 HI.out HZ0.out HZ1.out HZ2.out _ _ _ rfl HO.out ⟨t.toArray⟩ rfl (by unfold maxLen;rw [slen];omega) (by rw [slen];omega) (by omega) ?_;intro v' w2 hown' hgrow _;have hb2:Blk w2 b #[.pointer (some ⟨b,0,none⟩),v,o] 186:=(hgrow.block b hlt (fun e => hne e.symm)).trans HBK.out;have d0:=hb2.cell 0;have d1:=hb2.cell 1;have d2:=hb2.cell 2;have f1:=hb2.free 1;have z2:=hb2.lt;simp at d0 d1 d2;obtain ⟨ao,cap,rfl⟩:=ownF_sli hown';have HG:=hidE hgrow;have HO2:=hidE hown';have HB2:=hidE hb2;clear hgrow hown' hb2)
  go_ret2
  refine ⟨by simp,.inr ?_, ?_,(HK1.out.grown HG.out (Lib.ownsRowF_kind HO.out)).setCell ⟨b,1,none⟩ rfl _⟩
  · refine wr_set1 hBb HB2.out ?_
    rw [← HZ.out,List.length_append,← slen]
    exact HO2.out
  · exact (HB1.out.grown HG.out (by omega) (fun k hk => (HO.out.lt k hk).1)).setCell (p:=⟨b,1,none⟩) hBb _
set_option maxHeartbeats 2000000 in
set_option maxRecDepth 100000 in
theorem wr_string (B b:Nat) (l:List UInt8) (o:Value) (w:World) (h:Wr B b l o w) (h0:l ≠ []) (hl:l.length≤140737488355328) :
    Calls Tryz.prog 118 #[.pointer (some ⟨b,0,none⟩)] w fun e w' => e = .returned (strV l)∧Below B w w':=by
  obtain ⟨pv,h⟩:∃ pv,WrAt B b pv l o w:=by rcases h with h | h <;> exact ⟨_,h⟩
  obtain ⟨v,hbk,hown,hne,hlt,hBb⟩:=wr_out h
  have hl0:l.length ≠ 0:=by simpa using h0
  obtain ⟨g,cap,cur,fz,rfl,hbg,hg,hfz,hnc,hcm,hcs,htake⟩:∃ g cap cur fz,v = .slice (some ⟨g,0,none⟩) l.length cap∧B≤g∧w.heap[g]? = some (.cells cur 5 fz)∧fz.2≤l.length * 1∧l.length≤cap∧cap≤maxLen∧cur.size = cap * 1∧cur.toList.take (l.length * 1) = Lib.byteCells l:=by
    rcases hown.2 with ⟨_,hz⟩ | ⟨g,cap,cur,fz,hv,r⟩
    · exact absurd hz hl0
    · exact ⟨g,cap,cur,fz,hv,r⟩
  have c1:w.drew.cell? ⟨b,1,none⟩ = some (.slice (some ⟨g,0,none⟩) l.length cap):=by
    have:Blk w.drew b #[pv,.slice (some ⟨g,0,none⟩) l.length cap,o] 186:=hbk
    simpa using this.cell 1
  have hSD:(Builtin.unsafeSliceData_ #[182] 199 #[.slice (some ⟨g,0,none⟩) l.length cap]).run Tryz.prog w.drew = .ok (.pointer (some ⟨g,0,none⟩)) w.drew :=
    Lib.run_unsafeSliceData_row _ _ _ _ _ _ (by omega)
  have hUS:(Builtin.unsafeString_ #[199,3] 9 #[.pointer (some ⟨g,0,none⟩),.int .i64 l.length]).run Tryz.prog w.drew = .ok (.string ⟨l.toArray⟩) (w.drew.freeze ⟨g,0,none⟩ l.length):=by
    refine Lib.run_unsafeString_row w.drew 199 3 9 5 Tryz.underlying199 Tryz.cellsByte g cur.size (by have hg':w.drew.heap[g]? = some (.cells cur 5 fz):=hg;simp [World.shape?,hg']) l h0 (by omega) (by omega) ?_
    intro j x hx
    have:=hown.cells (g:=g) rfl j (.int .u8 x.toNat) (by simp [Lib.byteCells,hx])
    exact this
  have HBG:=hidE hbg
  clear h hbk hown hne hg htake hcs hfz
  go_enter Tryz.func118,Tryz.ntmps118
  go_wp2
  go_region
  all_goals (go_wp2;go_ret;exact ⟨rfl,Lib.below_freeze (Below.drew (Below.refl B w)) (p:=⟨g,0,none⟩) HBG.out _⟩)
end
section
def numsS (x:Prt):List UInt8:=if x.kind = 0 then 32 :: (decS x.n ++ 32 :: (decS x.g ++ 32 :: decS x.d)) else []
def headS (x:Prt):List UInt8:=32 :: 40 :: wordK x.kind
def closeW:List UInt8→List Int→List UInt8 × List Int
  | s,[] => (s,[])
  | s,c :: st => if c = 0 then closeW (s ++ [41]) st else (s,c :: st)
def decTop:List Int→List Int
  | [] => []
  | c :: st => (c - 1) :: st
def partW (a:List UInt8 × List Int) (x:Prt):List UInt8 × List Int:=closeW (a.1 ++ headS x ++ numsS x) (x.kids :: decTop a.2)
def partsW (a:List UInt8 × List Int) (l:List Prt):List UInt8 × List Int:=l.foldl partW a
theorem closeW_zero (s:List UInt8) (st:List Int):closeW s (0 :: st) = closeW (s ++ [41]) st:=by rw [closeW];simp
theorem closeW_pos (s:List UInt8) (c:Int) (st:List Int) (h:c ≠ 0):closeW s (c :: st) = (s,c :: st):=by rw [closeW,if_neg h]
theorem textF_cons (x:Prt) (K N:Fst):textF (.cons x K N) = headS x ++ (numsS x ++ (textF K ++ 41 :: textF N)):=by
  rw [textF];rfl
theorem partsW_app (a:List UInt8 × List Int) (l r:List Prt):partsW a (l ++ r) = partsW (partsW a l) r:=List.foldl_append
theorem len_pos {F:Fst} (h:F ≠ .nil):1≤F.len:=by
  cases F with
  | nil => exact absurd rfl h
  | cons x K N => simp [Fst.len]
theorem partsW_fst:∀ (F:Fst) (s:List UInt8) (c:Int) (st:List Int),F ≠ .nil→(F.len:Int)≤c→partsW (s,c :: st) F.flat = closeW (s ++ textF F) ((c - F.len) :: st)
  | .nil,_,_,_,h,_ => absurd rfl h
  | .cons x K N, s, c, st, _, hc => by
    have rest:∀ (s1:List UInt8),partsW (closeW (s1 ++ [41]) ((c - 1) :: st)) N.flat = closeW (s1 ++ 41 :: textF N) ((c - (Fst.cons x K N).len) :: st):=by
      intro s1
      by_cases hN:N = .nil
      · subst hN
        show closeW _ _ = closeW _ _
        simp [textF,Fst.len]
      · have h1:=len_pos hN
        simp only [Fst.len] at hc ⊢
        rw [closeW_pos _ _ _ (by omega),partsW_fst N (s1 ++ [41]) (c - 1) st hN (by omega)]
        simp only [List.append_assoc,List.singleton_append]
        rw [show c - 1 - (N.len:Int) = c - ((N.len + 1:Nat):Int) by omega]
    rw [Fst.flat,textF_cons]
    show partsW (partW (s,c :: st) { x with kids:=(K.len:Int) }) (K.flat ++ N.flat) = _
    have e:partW (s,c :: st) { x with kids:=(K.len:Int) } = closeW (s ++ headS x ++ numsS x) ((K.len:Int) :: (c - 1) :: st):=rfl
    rw [e,partsW_app]
    by_cases hK:K = .nil
    · subst hK
      rw [show ((Fst.nil.len:Nat):Int) = 0 from rfl,closeW_zero]
      show partsW (closeW _ _) N.flat = _
      rw [rest]
      simp [textF]
    · have h1:=len_pos hK
      rw [closeW_pos _ _ _ (by omega),partsW_fst K _ _ _ hK (Int.le_refl _),Int.sub_self,closeW_zero,rest]
      simp [List.append_assoc]
theorem partsW_one {F:Fst} (h:F.len = 1) (s:List UInt8):partsW (s,[]) F.flat = (s ++ textF F,[]):=by
  cases F with
  | nil => simp [Fst.len] at h
  | cons x K N =>
    have hN:N = .nil:=by
      cases N with
      | nil => rfl
      | cons y a b => simp [Fst.len] at h
    subst hN
    rw [Fst.flat,textF_cons]
    show partsW (closeW (s ++ headS x ++ numsS x) [(K.len:Int)]) (K.flat ++ []) = _
    rw [List.append_nil]
    by_cases hK:K = .nil
    · subst hK
      rw [show ((Fst.nil.len:Nat):Int) = 0 from rfl,closeW_zero]
      show (_,_) = _
      simp [textF]
    · have h1:=len_pos hK
      rw [closeW_pos _ _ _ (by omega),partsW_fst K _ _ _ hK (Int.le_refl _),Int.sub_self,closeW_zero]
      simp [closeW,textF,List.append_assoc]
theorem closeW_len:∀ (s:List UInt8) (st:List Int),(closeW s st).1.length + (closeW s st).2.length = s.length + st.length
  | s,[] => rfl
  | s, c :: st => by
    rw [closeW]
    by_cases h:c = 0
    · rw [if_pos h,closeW_len];simp;omega
    · rw [if_neg h]
theorem digG_len (k:Nat):∀ n,n < 10 ^ (k + 1)→(digG n).length≤k + 1:=by
  induction k with
  | zero => intro n h;rw [digG,if_pos (by simpa using h)];simp
  | succ k ih =>
    intro n h
    rw [digG]
    by_cases c:n < 10
    · rw [if_pos c];simp
    · rw [if_neg c,List.length_append]
      have:=ih (n / 10) (by rw [Nat.div_lt_iff_lt_mul (by decide)];rw [Nat.pow_succ] at h;exact h)
      simp;omega
theorem decS_len {n:Int} (h : -9223372036854775808≤n∧n≤9223372036854775807):(decS n).length≤21:=by
  unfold decS
  by_cases c:n < 0
  · rw [if_pos c]
    have:=digG_len 19 (-n).toNat (by omega)
    simp;omega
  · rw [if_neg c]
    have:=digG_len 19 n.toNat (by omega)
    omega
theorem wordK_len (k:Nat):(wordK k).length≤5:=by
  match k with
  | 0 => decide
  | 1 => decide
  | 2 => decide
  | 3 => decide
  | k + 4 => show ([97,108,108]:List UInt8).length≤5;decide
theorem numsS_len {x:Prt} (h:PrtW x):(numsS x).length≤66:=by
  unfold numsS
  by_cases c:x.kind = 0
  · rw [if_pos c]
    have h1:=decS_len (n:=x.n) (by obtain ⟨_,a,_⟩:=h;omega)
    have h2:=decS_len (n:=x.g) (by obtain ⟨_,_,a,_⟩:=h;omega)
    have h3:=decS_len (n:=x.d) h.2.2.2.1
    simp only [List.length_cons,List.length_append];omega
  · rw [if_neg c];simp
def StOk (st:List Int):Prop:=(∀ y ∈ st,0≤y∧y≤1000000)∧∀ c r,st = c :: r→c ≠ 0
theorem closeW_ok:∀ (s:List UInt8) (st:List Int),(∀ y ∈ st,0≤y∧y≤1000000)→StOk (closeW s st).2
  | s,[],h => ⟨h,fun c r e => by cases e⟩
  | s, c :: st, h => by
    rw [closeW]
    by_cases e:c = 0
    · rw [if_pos e];exact closeW_ok _ st (fun y hy => h y (List.mem_cons_of_mem _ hy))
    · rw [if_neg e];exact ⟨h,fun c' r e' => by cases e';exact e⟩
theorem decTop_ok {st:List Int} (h:StOk st):∀ y ∈ decTop st,0≤y∧y≤1000000:=by
  cases st with
  | nil => intro y hy;cases hy
  | cons c r =>
    intro y hy
    simp only [decTop,List.mem_cons] at hy
    rcases hy with rfl | hy
    · have h1:=h.1 c (by simp);have h2:=h.2 c r rfl;omega
    · exact h.1 y (List.mem_cons_of_mem _ hy)
theorem decTop_len (st:List Int):(decTop st).length = st.length:=by cases st <;> rfl
theorem partW_ok {a:List UInt8 × List Int} {x:Prt} (h:StOk a.2) (hx:0≤x.kids∧x.kids≤1000000):StOk (partW a x).2:=by
  refine closeW_ok _ _ (fun y hy => ?_)
  simp only [List.mem_cons] at hy
  rcases hy with rfl | hy
  · exact hx
  · exact decTop_ok h y hy
theorem partW_len {a:List UInt8 × List Int} {x:Prt} (hx:PrtW x):(partW a x).1.length + (partW a x).2.length≤a.1.length + a.2.length + 100:=by
  unfold partW
  rw [closeW_len]
  have h1:=numsS_len hx
  have h2:=wordK_len x.kind
  simp only [List.length_append,List.length_cons,headS,decTop_len];omega
theorem partsW_ok:∀ (l:List Prt) (a:List UInt8 × List Int),StOk a.2→(∀ x ∈ l,PrtW x∧0≤x.kids∧x.kids≤1000000)→StOk (partsW a l).2∧(partsW a l).1.length + (partsW a l).2.length≤a.1.length + a.2.length + 100 * l.length
  | [],a,h,_ => ⟨h,by simp [partsW]⟩
  | x :: l, a, h, hx => by
    have h1:=hx x (by simp)
    have:=partsW_ok l (partW a x) (partW_ok h h1.2) (fun y hy => hx y (List.mem_cons_of_mem _ hy))
    have h2:=partW_len (a:=a) h1.1
    refine ⟨this.1, ?_⟩
    have h3:=this.2
    simp only [List.length_cons]
    show (partsW (partW a x) l).1.length + (partsW (partW a x) l).2.length≤_
    omega
theorem partsW_succ (a:List UInt8 × List Int) (l:List Prt) (k:Nat) (h:k < l.length):partsW a (l.take (k + 1)) = partW (partsW a (l.take k)) (l.getD k ⟨0,0,0,0,0⟩):=by
  rw [List.take_add_one,partsW_app,List.getElem?_eq_getElem h,List.getD_eq_getElem?_getD,List.getElem?_eq_getElem h]
  rfl
end
section
open Go.RowKit Go.Shelf
def Tryz.iren:Go.Shelf.Ren:=⟨fun | 173 => 124 | 246 => 128 | 283 => 129 | 284 => 130 | 285 => 131 | 286 => 132 | 129 => 134 | 317 => 133 | 318 => 135 | 319 => 136 | 320 => 137 | 337 => 138 | 338 => 139 | n => n,fun | 2 => 2 | 3 => 3 | 9 => 9 | 4 => 4 | 171 => 203 | 0 => 0 | 53 => 204 | 37 => 182 | 5 => 5 | 173 => 207 | 212 => 211 | 51 => 57 | 20 => 20 | 213 => 212 | 46 => 146 | 232 => 215 | 233 => 216 | n => n,fun | 17 => 2 | 18 => 3 | 19 => 4 | n => n⟩
theorem Tryz.ilays:Go.Proofs.LaysM.n173 Tryz.prog Tryz.iren:={
  mixed:=by kernel_rfl
  f129:=Tryz.func134.trans (congrArg some (by kernel_rfl))
  f173:=Tryz.func124.trans (congrArg some (by kernel_rfl))
  f246:=Tryz.func128.trans (congrArg some (by kernel_rfl))
  f283:=Tryz.func129.trans (congrArg some (by kernel_rfl))
  f284:=Tryz.func130.trans (congrArg some (by kernel_rfl))
  f285:=Tryz.func131.trans (congrArg some (by kernel_rfl))
  f286:=Tryz.func132.trans (congrArg some (by kernel_rfl))
  f317:=Tryz.func133.trans (congrArg some (by kernel_rfl))
  f318:=Tryz.func135.trans (congrArg some (by kernel_rfl))
  f319:=Tryz.func136.trans (congrArg some (by kernel_rfl))
  f320:=Tryz.func137.trans (congrArg some (by kernel_rfl))
  f337:=Tryz.func138.trans (congrArg some (by kernel_rfl))
  f338:=Tryz.func139.trans (congrArg some (by kernel_rfl))
  t0:=Tryz.underlying0
  a0:=Tryz.isAgg0
  z0:=Tryz.sizeOf0
  v0:=Tryz.zeroValue0
  t2:=Tryz.underlying2
  a2:=Tryz.isAgg2
  z2:=Tryz.sizeOf2
  v2:=Tryz.zeroValue2
  t3:=Tryz.underlying3
  a3:=Tryz.isAgg3
  z3:=Tryz.sizeOf3
  v3:=Tryz.zeroValue3
  t4:=Tryz.underlying4
  a4:=Tryz.isAgg4
  z4:=Tryz.sizeOf4
  v4:=Tryz.zeroValue4
  t5:=Tryz.underlying5
  a5:=Tryz.isAgg5
  z5:=Tryz.sizeOf5
  v5:=Tryz.zeroValue5
  t9:=Tryz.underlying9
  a9:=Tryz.isAgg9
  z9:=Tryz.sizeOf9
  v9:=Tryz.zeroValue9
  t20:=Tryz.underlying20
  a20:=Tryz.isAgg20
  z20:=Tryz.sizeOf20
  v20:=Tryz.zeroValue20
  t37:=Tryz.underlying182
  a37:=Tryz.isAgg182
  z37:=Tryz.sizeOf182
  v37:=Tryz.zeroValue182
  t46:=Tryz.underlying146
  a46:=Tryz.isAgg146
  z46:=Tryz.sizeOf146
  v46:=Tryz.zeroValue146
  t51:=Tryz.underlying57
  a51:=Tryz.isAgg57
  z51:=Tryz.sizeOf57
  v51:=Tryz.zeroValue57
  t53:=Tryz.underlying204
  a53:=Tryz.isAgg204
  z53:=Tryz.sizeOf204
  v53:=Tryz.zeroValue204
  t171:=Tryz.underlying203
  a171:=Tryz.isAgg203
  z171:=Tryz.sizeOf203
  v171:=Tryz.zeroValue203
  t173:=Tryz.underlying207
  a173:=Tryz.isAgg207
  z173:=Tryz.sizeOf207
  v173:=Tryz.zeroValue207
  t212:=Tryz.underlying211
  a212:=Tryz.isAgg211
  z212:=Tryz.sizeOf211
  v212:=Tryz.zeroValue211
  t213:=Tryz.underlying212
  a213:=Tryz.isAgg212
  z213:=Tryz.sizeOf212
  t232:=Tryz.underlying215
  a232:=Tryz.isAgg215
  z232:=Tryz.sizeOf215
  v232:=Tryz.zeroValue215
  t233:=Tryz.underlying216
  a233:=Tryz.isAgg216
  z233:=Tryz.sizeOf216
  v233:=Tryz.zeroValue216
  g17:=by kernel_rfl
  g18:=by kernel_rfl
  g19:=by kernel_rfl
  i0:=by kernel_rfl
  i2:=by kernel_rfl
  i3:=by kernel_rfl
  i4:=by kernel_rfl
  i5:=by kernel_rfl
  i9:=by kernel_rfl
  i20:=by kernel_rfl
  i37:=by kernel_rfl
  i46:=by kernel_rfl
  i51:=by kernel_rfl
  i53:=by kernel_rfl
  i171:=by kernel_rfl
  i173:=by kernel_rfl
  i212:=by kernel_rfl
  i232:=by kernel_rfl
  i233:=by kernel_rfl
  m17:=by kernel_rfl
  m18:=by kernel_rfl
  m19:=by kernel_rfl }
theorem decDigits_eq (m:Nat):∀ u,u≤m→Lib.decDigits u = digG u:=by
  induction m with
  | zero => intro u hu;rw [Lib.decDigits,digG];simp [show u < 10 by omega]
  | succ m ih =>
    intro u hu
    rw [Lib.decDigits,digG]
    by_cases c:u < 10
    · simp [c]
    · rw [dif_neg c,if_neg c,ih (u / 10) (by omega)]
theorem itoa_eq (n:Int):Lib.itoa n = decS n:=by
  unfold Lib.itoa decS
  by_cases c:n < 0
  · rw [if_pos c,if_pos c,decDigits_eq _ _ (Nat.le_refl _),show n.natAbs = (-n).toNat by omega]
  · rw [if_neg c,if_neg c,decDigits_eq _ _ (Nat.le_refl _)]
theorem itoa_c (n:Int) (h0 : -9223372036854775808≤n) (h1:n≤9223372036854775807) (w:World) (hT:PowTab w) :
    Calls Tryz.prog 124 #[.int .i64 n,.int .i64 10] w fun e w' => e = .returned (strV (decS n))∧Below w.heap.size w w':=by
  refine (Any.strconv_FormatInt_10 Tryz.ilays n h0 h1 w hT).mono ?_
  rintro e w' ⟨rfl,k,os,rfl⟩
  refine ⟨by rw [itoa_eq], ?_⟩
  exact ⟨rfl,rfl,rfl,by show w.heap.size≤(w.heap ++ os).size;simp,fun k hk => by show (w.heap ++ os)[k]? = _;rw [Array.getElem?_append_left hk]⟩
end
section
open Go.ChangeShapes Go.WideShapes Go.ChangeAt Go.RowKit Go.Shelf
attribute [local irreducible] Go.Calls
structure Tb (B:Nat) (w:World):Prop where
  pow:PowTab w
  words:WordsAre w
  plt:2 < B
  wlt:1 < B
theorem Tb.below {B:Nat} {w w':World} (h:Tb B w) (hb:Below B w w'):Tb B w' :=
  ⟨var_below (g:=2) (by kernel_rfl) h.pow hb h.plt,h.words.below hb h.wlt,h.plt,h.wlt⟩
theorem Tb.of {w:World} (h:Tab w) {B:Nat} (hB:w.heap.size≤B):Tb B w :=
  ⟨h.1,h.2,Nat.lt_of_lt_of_le (var_lt (by kernel_rfl) h.1) hB,Nat.lt_of_lt_of_le h.2.lt hB⟩
theorem dec_c (n:Int) (h : -9223372036854775808≤n∧n≤9223372036854775807) (w:World) (hT:PowTab w) :
    Calls Tryz.prog 116 #[.int .i64 n] w fun e w' => e = .returned (strV (decS n))∧Below w.heap.size w w':=by
  have HC:=hidE (itoa_c n h.1 h.2 w hT)
  clear hT
  go_enter Tryz.func116,Tryz.ntmps116
  go_wp2_with fail
  ((with_reducible refine HC.out.mono ?_);rintro e w1 ⟨rfl,hb⟩)
  go_wp2
  go_ret
  exact ⟨rfl,hb⟩
theorem word_cell {B:Nat} {w:World} (h:Tb B w) {k:Nat} (hk:k≤4):w.cell? ⟨1,k,none⟩ = some (strV (wordK k)):=by
  have b:k = 0 ∨ k = 1 ∨ k = 2 ∨ k = 3 ∨ k = 4:=by omega
  rcases b with rfl | rfl | rfl | rfl | rfl
  · exact h.words.cell (i:=0) rfl
  · exact h.words.cell (i:=1) rfl
  · exact h.words.cell (i:=2) rfl
  · exact h.words.cell (i:=3) rfl
  · exact h.words.cell (i:=4) rfl
def intsV (l:List Int):List Value:=l.map fun x => .int .i64 x
def WrI (B b:Nat) (s:List UInt8) (st:List Int) (w:World):Prop:=∃ o,Wr B b s o w∧w.ownsRow B 3 1 o st.length (intsV st.reverse)
theorem Wr.past {B b:Nat} {l:List UInt8} {o:Value} {w w':World} (h:Wr B b l o w) (hb:Below w.heap.size w w'):Wr B b l o w':=by
  have key:∀ pv,WrAt B b pv l o w→WrAt B b pv l o w':=fun pv h => by
    obtain ⟨v,hbk,ho,hne,hlt,hB⟩:=wr_out h
    exact ⟨hB,v,hbk.past hb,ho.kept (grown_any (r:=none) hb) (by cases v.ownBlock <;> simp)⟩
  rcases h with h | h
  · exact .inl (key _ h)
  · exact .inr (key _ h)
theorem own_others {B b n sz:Nat} {o:Value} {xs:List Value} {w w':World} {e:TypeId} (he:e ≠ 5) (h:w.ownsRow B e sz o n xs) (hne:o.ownBlock ≠ some b) (hk:Lib.OthersKept 5 (some b) w w'):w'.ownsRow B e sz o n xs:=by
  obtain ⟨h1,h2 | ⟨g,cap,cur,h3,h4,h5,h6⟩⟩:=h
  · exact ⟨h1,.inl h2⟩
  · refine ⟨h1,.inr ⟨g,cap,cur,h3,h4,hk g _ h5 (fun e => hne (by rw [h3];simp [Value.ownBlock];simpa using e)) (fun c fz e => ?_),h6⟩⟩
    cases e
    exact he rfl
theorem row_ne {B b n:Nat} {o:Value} {xs:List Value} {w:World} {cs:Array Value} (h:w.ownsRow B 3 1 o n xs) (hb:Blk w b cs 186):o.ownBlock ≠ some b:=by
  intro e
  obtain ⟨_,h2 | ⟨g,cap,cur,h3,h4,h5,_⟩⟩:=h
  · rw [h2.1] at e;simp [Value.ownBlock] at e
  · rw [h3] at e
    simp only [Value.ownBlock,Option.some.injEq] at e
    subst e
    have:=h5.symm.trans hb
    simp at this
theorem wr_blk {B b:Nat} {l:List UInt8} {o:Value} {w:World} (h:Wr B b l o w):∃ pv v,Blk w b #[pv,v,o] 186∧B≤b:=by
  rcases h with h | h
  · obtain ⟨v,hb,_,_,_,hB⟩:=wr_out h;exact ⟨_,v,hb,hB⟩
  · obtain ⟨v,hb,_,_,_,hB⟩:=wr_out h;exact ⟨_,v,hb,hB⟩
structure PtSt (B b pb:Nat) (s:List UInt8) (o:Value) (st:List Int) (x:Prt) (w0 w:World):Prop where
  wr:Wr B b s o w
  row:w.ownsRow B 3 1 o st.length (intsV st.reverse)
  box:Blk w pb #[.int .u8 x.kind,.int .u32 x.n,.int .u32 x.g,.int .i64 x.d,.int .i64 x.kids] 59
  bel:Below B w0 w
  tb:Tb B w
  ne:pb ≠ b
  sz:B≤w0.heap.size
theorem PtSt.past {B b pb:Nat} {s:List UInt8} {o:Value} {st:List Int} {x:Prt} {w0 w w':World} (h:PtSt B b pb s o st x w0 w) (hb:Below w.heap.size w w'):PtSt B b pb s o st x w0 w' :=
  have hB:=Nat.le_trans h.sz h.bel.size
  ⟨h.wr.past hb,own_below h.row hb,h.box.past hb,h.bel.trans (hb.mono hB),h.tb.below (hb.mono hB),h.ne,h.sz⟩
theorem PtSt.wrote {B b pb:Nat} {s s':List UInt8} {o:Value} {st:List Int} {x:Prt} {w0 w w':World} (h:PtSt B b pb s o st x w0 w) (hw:WroteW B b s' o w w'):PtSt B b pb s' o st x w0 w':=by
  obtain ⟨pv,v,hb,hB⟩:=wr_blk h.wr
  refine ⟨hw.1,own_others (by decide) h.row (row_ne h.row hb) hw.2.2,hw.2.2 pb _ h.box (fun e => h.ne (by simpa using e)) (fun c fz e => ?_),h.bel.trans hw.2.1,h.tb.below hw.2.1,h.ne,h.sz⟩
  cases e
theorem others_past {e:TypeId} {bo:Option Nat} {w w':World} (hb:Below w.heap.size w w'):Lib.OthersKept e bo w w':=fun k _x hk _ _ => (hb.block k (Array.getElem?_eq_some_iff.1 hk).1).trans hk
theorem str_cat (a b:List UInt8):(⟨a.toArray⟩:ByteArray) ++ ⟨b.toArray⟩ = ⟨(a ++ b).toArray⟩:=by
  rw [ByteArray.ext_iff,ByteArray.data_append]
  simp
theorem rows_ne {B n m:Nat} {o v:Value} {xs ys:List Value} {w:World} (h:w.ownsRow B 3 1 o n xs) (h2:w.ownsRowF B 5 1 v m ys) {g:Nat} (hg:o.ownBlock = some g):v.ownBlock ≠ some g:=by
  obtain ⟨_,h3 | ⟨g',cap,cur,h3,_,h5,_⟩⟩:=h
  · rw [h3.1] at hg;simp [Value.ownBlock] at hg
  · rw [h3] at hg
    simp only [Value.ownBlock,Option.some.injEq] at hg
    subst hg
    exact Lib.ownBlock_neF h2 h5 (by decide)
theorem Wr.row {B b n g i:Nat} {l:List UInt8} {o:Value} {xs:List Value} {w:World} (h:Wr B b l o w) (ho:w.ownsRow B 3 1 o n xs) (hg:o.ownBlock = some g) (x:Value):Wr B b l o (w.setCell ⟨g,i,none⟩ x):=by
  have key:∀ pv,WrAt B b pv l o w→WrAt B b pv l o (w.setCell ⟨g,i,none⟩ x):=fun pv h => by
    obtain ⟨v,hbk,hv,hne,hlt,hB⟩:=wr_out h
    exact ⟨hB,v,hbk.other (fun e => row_ne ho hbk (by rw [hg,e])) x,hv.kept (grown_set w g i x) (.inr (rows_ne ho hv hg))⟩
  rcases h with h | h
  · exact .inl (key _ h)
  · exact .inr (key _ h)
theorem intsV_len (l:List Int):(intsV l).length = l.length:=List.length_map ..
theorem row_top {B g n cap:Nat} {c:Int} {r:List Int} {w:World} (h:w.ownsRow B 3 1 (.slice (some ⟨g,0,none⟩) n cap) n (intsV (c :: r).reverse)) (hn:n = r.length + 1):w.cell? ⟨g,r.length,none⟩ = some (.int .i64 c):=by
  rw [h.cellAt r.length (by omega)]
  simp [intsV]
theorem row_set {B g n cap:Nat} {c d:Int} {r:List Int} {w:World} (h:w.ownsRow B 3 1 (.slice (some ⟨g,0,none⟩) n cap) n (intsV (c :: r).reverse)):(w.setCell ⟨g,r.length,none⟩ (.int .i64 d)).ownsRow B 3 1 (.slice (some ⟨g,0,none⟩) n cap) n (intsV (d :: r).reverse):=by
  have h2:=(h.stored r.length (.int .i64 d)).1
  have e:(intsV (c :: r).reverse).set r.length (.int .i64 d) = intsV (d :: r).reverse:=by
    simp only [intsV,List.reverse_cons,List.map_append,List.map_cons,List.map_nil]
    rw [List.set_append_right _ _ (by simp)]
    simp
  rwa [e] at h2
theorem row_pop {B g n cap:Nat} {c:Int} {r:List Int} {w:World} (h:w.ownsRow B 3 1 (.slice (some ⟨g,0,none⟩) n cap) n (intsV (c :: r).reverse)) (hn:n = r.length + 1):w.ownsRow B 3 1 (.slice (some ⟨g,0,none⟩) r.length cap) r.length (intsV r.reverse):=by
  subst hn
  obtain ⟨h1,h2 | ⟨g',cap',cur,h3,h4,h5,h6,h7,h8,h9⟩⟩:=h
  · simp at h2
  · cases h3
    refine ⟨by rw [intsV_len];simp,.inr ⟨g,cap,cur,rfl,h4,h5,by omega,h7,h8, ?_⟩⟩
    have:=congrArg (List.take (r.length * 1)) h9
    rw [List.take_take,Nat.min_eq_left (by omega)] at this
    rw [this]
    simp only [intsV,List.reverse_cons,List.map_append]
    rw [List.take_append_of_le_length (by simp),List.take_of_length_le (by simp)]
theorem row_push {l:List Int} {x:Int}:intsV l.reverse ++ [.int .i64 x] = intsV (x :: l).reverse:=by simp [intsV]
theorem row_at {B n:Nat} {o:Value} {xs:List Value} {w:World} (h:w.ownsRow B 3 1 o n xs) (hn:0 < n):∃ g cap,o = .slice (some ⟨g,0,none⟩) n cap∧B≤g∧g < w.heap.size∧n≤cap∧cap≤9223372036854775807:=by
  obtain ⟨_,h2 | ⟨g,cap,cur,h3,h4,h5,h6,h7,_⟩⟩:=h
  · omega
  · exact ⟨g,cap,h3,h4,lt_of_block h5,h6,by unfold maxLen at h7;omega⟩
theorem step_appI {P:Program} {ops:Array Oper} {o:Oper} {a:Act} {w:World} {K:Act→World→Prop} {Q:Exit→Act→World→Prop} {E:Prop}
    (hg:o.guard = none) (s x:Operand) (t:TypeId) (hop:o.op = Op.call { callee:=Callee.builtin Builtin.append,args:=#[s,x],argTypes:=#[t,t] })
    (B:Nat) (e:TypeId) (i:TypeInfo) (z:Value) (ht:P.underlying t = some (.slice e)) (hi:P.info? e = some i) (hz:i.zero = some z) (hsize:i.size = 1) (hby:i.bytes = 8) (hzs:z.cells.size = 1)
    (v:Value) (n:Nat) (xs:List Value) (hs:a.eval s = v) (hown:w.ownsRow B e 1 v n xs)
    (p:Nat) (y:Int) (hx:a.eval x = .slice (some ⟨p,0,none⟩) 1 1) (hc:w.cell? ⟨p,0,none⟩ = some (.int .i64 y))
    (h63:n≤1000000000) (hB:B≤w.heap.size)
    (h:∀ v' w',w'.ownsRow B e 1 v' (n + 1) (xs ++ [.int .i64 y])→w.grownBy w' v.ownBlock→K (a.put o.dst v') w') :
    if Region.wanted o (yielded ops a.tmps) = true then Oper.wp P o a w K Q else E:=by
  have hw:Region.wanted o (yielded ops a.tmps) = true:=by simp [Region.wanted,hg]
  rw [if_pos hw]
  refine wp_append_own w s x t hop B e i z 1 8 ht hi hz hsize hby hzs (by decide) v n xs hs hown ⟨p,0,none⟩ 1 1 [.int .i64 y] hx rfl ?_ (by intro u hu;simp at hu;subst hu;rfl) (by unfold maxLen;omega) (by omega) hB fun v' w' h1 h2 _ => h v' w' h1 h2
  intro j u hj
  have hj0:j = 0:=by have:=(List.getElem?_eq_some_iff.1 hj).1;simpa using this
  subst hj0
  simp at hj
  subst hj
  simpa [Addr.add] using hc
theorem Tryz.infoI64:(Tryz.prog.info? 3).map (fun i => (i.zero,i.size,i.bytes)) = some (some (.int .i64 0),1,8):=by kernel_rfl
theorem Wr.push {B b n:Nat} {l:List UInt8} {o o':Value} {xs:List Value} {w w':World} (h:Wr B b l o w) (ho:w.ownsRow B 3 1 o n xs) (ob:Obj) (hg:(w.drew.alloc ob).grownBy w' o.ownBlock):Wr B b l o' (w'.setCell ⟨b,2,none⟩ o'):=by
  have key:∀ pv,WrAt B b pv l o w→WrAt B b pv l o' (w'.setCell ⟨b,2,none⟩ o'):=fun pv h => by
    obtain ⟨v,hbk,hv,hne,hlt,hB⟩:=wr_out h
    have hd:Below w.heap.size w (w.drew.alloc ob):=balloc (Below.drew (Below.refl _ _)) ob
    have hb2:Blk w' b #[pv,v,o] 186:=(hbk.past hd).grown hg (fun e => row_ne ho hbk e.symm)
    have hv2:w'.ownsRowF B 5 1 v l.length (Lib.byteCells l):=by
      have h1:(w.drew.alloc ob).ownsRowF B 5 1 v l.length (Lib.byteCells l):=hv.kept (grown_any (r:=none) hd) (by cases v.ownBlock <;> simp)
      refine h1.kept hg ?_
      cases e:o.ownBlock with
      | none =>
        cases v.ownBlock with
        | none => exact .inl rfl
        | some k => exact .inr (by simp)
      | some g => exact .inr (rows_ne ho hv e)
    have hs:=hb2.set 2 o'
    exact ⟨hB,v,by simpa using hs,hv2.kept (grown_set w' b 2 o') (.inr hne)⟩
  rcases h with h | h
  · exact .inl (key _ h)
  · exact .inr (key _ h)
theorem Wr.stack {B b:Nat} {l:List UInt8} {o o':Value} {w:World} (h:Wr B b l o w):Wr B b l o' (w.setCell ⟨b,2,none⟩ o'):=by
  have key:∀ pv,WrAt B b pv l o w→WrAt B b pv l o' (w.setCell ⟨b,2,none⟩ o'):=fun pv h => by
    obtain ⟨v,hbk,hv,hne,hlt,hB⟩:=wr_out h
    have hs:=hbk.set 2 o'
    exact ⟨hB,v,by simpa using hs,hv.kept (grown_set w b 2 o') (.inr hne)⟩
  rcases h with h | h
  · exact .inl (key _ h)
  · exact .inr (key _ h)
set_option maxRecDepth 100000 in
set_option maxHeartbeats 2000000 in
theorem part_c (B b:Nat) (s:List UInt8) (st:List Int) (x:Prt) (w:World) (hB:B≤w.heap.size) (hw:WrI B b s st w) (hst:StOk st) (hs:s.length + st.length≤100000000) (hx:PrtW x) (hk:x.kind≤4) (hkids:0≤x.kids∧x.kids≤1000000) (hT:Tb B w) :
    Calls Tryz.prog 117 #[.pointer (some ⟨b,0,none⟩),prtV x] w fun e w' => e = .returned (.tuple #[])∧WrI B b (partW (s,st) x).1 (partW (s,st) x).2 w'∧Below B w w':=by
  obtain ⟨o,hwr,hro⟩:=hw
  have hS:PtSt B b w.heap.size s o st x w (w.alloc (.cells #[.int .u8 x.kind,.int .u32 x.n,.int .u32 x.g,.int .i64 x.d,.int .i64 x.kids] 59)):=by
    obtain ⟨pv,v,hb,_⟩:=wr_blk hwr
    have hba:Below w.heap.size w (w.alloc (.cells #[.int .u8 x.kind,.int .u32 x.n,.int .u32 x.g,.int .i64 x.d,.int .i64 x.kids] 59)):=balloc (Below.refl _ _) _
    exact ⟨hwr.past hba,own_below hro hba,Blk.made _ _ _,hba.mono hB,hT.below (hba.mono hB),by have:=hb.lt;omega,hB⟩
  have HS:=hidE hS
  clear hS hwr hro hT
  have hkl:(x.kind:Int) < 5:=by omega
  have hwl:=wordK_len x.kind
  go_enter Tryz.func117,Tryz.ntmps117
  go_wp2_with fail
  generalize w.alloc (.cells #[.int .u8 x.kind,.int .u32 x.n,.int .u32 x.g,.int .i64 x.d,.int .i64 x.kids] 59) = w1 at *
  generalize w.heap.size = pb at *
  have hwc:=word_cell HS.out.tb hk
  have hgl:=HS.out.tb.words.lt
  have c0:=HS.out.box.cell 0;have z:=HS.out.box.lt
  simp at c0
  have hcp:=Past.cell (W:=w1)
  refine wp_region_bar 8 _ (by kernel_rfl) rfl (by kernel_rfl) (fun v w'' => v = .tuple #[.int .i64 (headS x).length,.nilIface]∧WroteW B b (s ++ headS x) o w1 w'') ?_
  simp only [List.take_succ_cons,List.take_zero,List.drop_succ_cons,List.drop_zero]
  repeat (go_big_quiet_step (fail))
  refine wpQuiet_nil ?_
  intro y
  refine ⟨rfl, ?_, ?_⟩
  · simp [go_sem,gives]
    rw [show (⟨#[32,40]⟩:ByteArray) ++ ⟨(wordK x.kind).toArray⟩ = ⟨(headS x).toArray⟩ from str_cat [32,40] (wordK x.kind)]
    refine (wr_str B b s (headS x) o y.1 (HS.out.wr.past y.2) (by simp only [headS,List.length_cons];omega) (by have:=HS.out.sz;have:=HS.out.bel.size;have:=y.2.size;omega)).mono ?_
    rintro e w'' ⟨rfl,h1,h2,h3⟩
    have hy:=y.2
    exact ⟨_,rfl,rfl,h1,(hy.mono (Nat.le_trans HS.out.sz HS.out.bel.size)).trans h2,Lib.OthersKept.trans (others_past hy) h3⟩
  · rintro v w2 ⟨rfl,hw2⟩
    have HS2:=hidE (HS.out.wrote hw2)
    clear hw2 c0 z hwc hgl hcp
    refine wpQuiet_nil ?_
    rintro _ ⟨y,rfl⟩
    have HS3:=hidE (HS2.out.past y.2)
    clear HS2 HS
    generalize y.1 = w3 at *
    clear y
    have c0:=HS3.out.box.cell 0;have c1:=HS3.out.box.cell 1;have c2:=HS3.out.box.cell 2;have c3:=HS3.out.box.cell 3;have z:=HS3.out.box.lt
    simp at c0 c1 c2 c3
    simp only [Act.put,List.setIfInBounds_toArray,List.set_cons_succ,List.set_cons_zero]
    go_upto_if 15 with fail
    go_cut [] (fun wx => PtSt B b pb (s ++ headS x ++ numsS x) o st x w wx)
    case first =>
      by_cases e0:x.kind = 0
      · have q:((x.kind:Int) == 0) = true:=beq_iff_eq.2 (by omega)
        have hn:numsS x = 32 :: (decS x.n ++ 32 :: (decS x.g ++ 32 :: decS x.d)):=by unfold numsS;rw [if_pos e0]
        have hnl:=numsS_len hx
        have wn:IntKind.i64.wrap (x.n:Int) = x.n:=IntWalk.i64_in _ (by have:=hx.2.1;omega)
        have wg:IntKind.i64.wrap (x.g:Int) = x.g:=IntWalk.i64_in _ (by have:=hx.2.2.1;omega)
        have HD1:=hidE (fun (y:Past w3) => dec_c x.n (by have:=hx.2.1;omega) y.1 (HS3.out.past y.2).tb.pow)
        have HD2:=hidE (fun (y:Past w3) => dec_c x.g (by have:=hx.2.2.1;omega) y.1 (HS3.out.past y.2).tb.pow)
        have HD3:=hidE (fun (y:Past w3) => dec_c x.d hx.2.2.2.1 y.1 (HS3.out.past y.2).tb.pow)
        have HN:=hidE hn;clear hn
        have hl1:=decS_len (n:=(x.n:Int)) (by have:=hx.2.1;omega)
        have hl2:=decS_len (n:=(x.g:Int)) (by have:=hx.2.2.1;omega)
        have hl3:=decS_len (n:=x.d) hx.2.2.2.1
        go_upto_region 3 with fail
        have hcp:=Past.cell (W:=w3)
        refine wp_region_bar 19 _ (by kernel_rfl) rfl (by kernel_rfl) (fun v w'' => v = .tuple #[.int .i64 (numsS x).length,.nilIface]∧WroteW B b (s ++ headS x ++ numsS x) o w3 w'') ?_
        simp only [List.take_succ_cons,List.take_zero,List.drop_succ_cons,List.drop_zero]
        repeat (go_big_quiet_step ((go_at_call 116;first | exact Past.call _ (HD1.out _) | exact Past.call _ (HD2.out _) | exact Past.call _ (HD3.out _))))
        refine wpQuiet_nil ?_
        intro y
        refine ⟨rfl, ?_, ?_⟩
        · simp [go_sem,gives]
          rw [show (⟨#[32]⟩:ByteArray) ++ ⟨(decS x.n).toArray⟩ ++ ⟨#[32]⟩ ++ ⟨(decS x.g).toArray⟩ ++ ⟨#[32]⟩ ++ ⟨(decS x.d).toArray⟩ = ⟨(numsS x).toArray⟩ from by
            rw [show (⟨#[32]⟩:ByteArray) = ⟨([32]:List UInt8).toArray⟩ from rfl,str_cat,str_cat,str_cat,str_cat,str_cat,HN.out]
            simp]
          have hlen2:(s ++ headS x).length + (numsS x).length≤140737488355328:=by simp only [headS,List.length_cons,List.length_append];omega
          refine (wr_str B b (s ++ headS x) (numsS x) o y.1 (HS3.out.wr.past y.2) hlen2 (by have:=HS3.out.sz;have:=HS3.out.bel.size;have:=y.2.size;omega)).mono ?_
          rintro e w'' ⟨rfl,h1,h2,h3⟩
          have hy:=y.2
          rw [← List.append_assoc]
          exact ⟨_,rfl,rfl,h1,(hy.mono (Nat.le_trans HS3.out.sz HS3.out.bel.size)).trans h2,Lib.OthersKept.trans (others_past hy) h3⟩
        · rintro v w4 ⟨rfl,hw4⟩
          have HS4:=hidE (HS3.out.wrote hw4)
          clear hw4 c0 c1 c2 c3 z hcp HD1 HD2 HD3
          refine wpQuiet_nil ?_
          rintro _ ⟨y,rfl⟩
          have HS5:=hidE (HS4.out.past y.2)
          clear HS4
          generalize y.1 = w5 at *
          clear y
          simp only [Act.put,List.setIfInBounds_toArray,List.set_cons_succ,List.set_cons_zero]
          go_wp2
          go_meet
          case rel => exact HS5.out
      · have q:((x.kind:Int) == 0) = false:=beq_eq_false_iff_ne.2 (by omega)
        have hn:numsS x = []:=by unfold numsS;rw [if_neg e0]
        go_wp2
        go_meet
        case rel => rw [hn,List.append_nil];exact HS3.out
    case rest =>
      have hcut2:=hcut
      obtain ⟨s2,hs2⟩:∃ s2,s2 = s ++ headS x ++ numsS x:=⟨_,rfl⟩
      rw [← hs2] at hcut2
      have hl2:s2.length + st.length≤100000100:=by
        rw [hs2]
        have:=numsS_len hx
        simp only [headS,List.length_cons,List.length_append];omega
      have HPW:=hidE (show partW (s,st) x = closeW s2 (x.kids :: decTop st) by rw [hs2];rfl)
      have HS4:=hidE hcut2
      clear hcut hcut2 hs2 HS3 c0 c1 c2 c3 z hkl hwl
      have hro:=HS4.out.row
      obtain ⟨ao,co,rfl⟩:=own_sli hro
      obtain ⟨pv,v,hbk,hBb⟩:=wr_blk HS4.out.wr
      obtain ⟨n,hn⟩:∃ n,n = st.length:=⟨_,rfl⟩
      rw [← hn] at HS4 hbk hro
      have d2:=hbk.cell 2;have z2:=hbk.lt
      simp at d2
      have HBK:=hidE hbk;have HRO:=hidE hro;have HN:=hidE hn;have HST:=hidE hst;have HL2:=hidE hl2
      clear hbk hro hn hst hl2
      go_upto_if 41 with fail
      go_cut [] (fun wx => PtSt B b pb s2 (.slice ao n co) (decTop st) x w wx)
      case first =>
        by_cases hz:n = 0
        · have hd:decTop st = st:=by
            have:=HN.out
            cases st with
            | nil => rfl
            | cons c r => simp at this;omega
          clear HPW
          subst hz
          go_wp2
          go_meet
          case rel => rw [hd];exact HS4.out
        · obtain ⟨m,rfl⟩:∃ m,n = m + 1:=⟨n - 1,by omega⟩
          obtain ⟨c,r,hcr,hrm⟩:∃ c r,st = c :: r∧r.length = m:=by
            have:=HN.out
            cases st with
            | nil => simp at this
            | cons c r => simp at this;exact ⟨c,r,rfl,by omega⟩
          have hm2:m < 100000200:=by have:=HL2.out;have:=HN.out;omega
          have HCR:=hidE hcr;have HRM:=hidE hrm
          obtain ⟨g,cg,hg1,hg2,hg3,hg4,hg5⟩:=row_at HRO.out (by omega)
          cases hg1
          have t1:wc.cell? ⟨g,m,none⟩ = some (.int .i64 c):=by
            have h0:=HRO.out
            rw [HCR.out] at h0
            have:=row_top h0 (by rw [HRM.out])
            rwa [HRM.out] at this
          have q:decide ((0:Int) < (m:Int) + 1) = true:=decide_eq_true (by omega)
          have q':decide ((m:Int) + 1 > 0) = true:=decide_eq_true (by omega)
          have hc1:=HST.out.1 c (by rw [HCR.out];simp)
          have w1:IntKind.i64.wrap (c - 1) = c - 1:=IntWalk.i64_in _ (by omega)
          have hf:=HRO.out.frozenAt
          have hof:=hf m
          have HB3:=hidE hBb
          clear HPW hf hcr hrm hz
          go_wp2
          go_region
          go_wp2
          go_meet
          case rel =>
            have hgB:B≤g:=hg2
            have hne:g ≠ b:=fun e => row_ne HRO.out HBK.out (by rw [e];rfl)
            have hpb:g ≠ pb:=fun e => by
              have h1:=HS4.out.box
              obtain ⟨_,h2 | ⟨g',cap,cur,h3,h4,h5,_⟩⟩:=HRO.out
              · simp at h2
              · cases h3
                have:=h5.symm.trans (e ▸ h1)
                simp at this
            have hd:Below wc.heap.size wc wc.drew:=Below.drew (Below.refl _ _)
            have hS:=HS4.out.past hd
            have hwr:=hS.wr.row hS.row rfl (i:=m) (.int .i64 (c - 1))
            have hro2:=hS.row
            rw [HCR.out,show (c :: r).length = m + 1 by simp [HRM.out]] at hro2
            have hrow:=row_set (d:=c - 1) hro2
            rw [HRM.out] at hrow
            exact ⟨hwr,by rw [HCR.out];show World.ownsRow _ _ _ _ _ (r.length + 1) _;rw [HRM.out];exact hrow,hS.box.other (fun e => hpb e.symm) _,hS.bel.setCell (p:=⟨g,m,none⟩) hgB _,hS.tb.below ((Below.refl B _).setCell (p:=⟨g,m,none⟩) hgB _),hS.ne,hS.sz⟩
      case rest =>
        have hnd:n = (decTop st).length:=HN.out.trans (decTop_len st).symm
        subst hnd
        have HS5:=hidE hcut
        clear hcut HS4 d2 z2 HBK HRO
        have HSD:=hidE (decTop_ok HST.out)
        have hs2l:s2.length + (decTop st).length≤100000100:=by rw [decTop_len];exact HL2.out
        clear HST HL2 HN
        generalize decTop st = dt at *
        have hro:=HS5.out.row
        obtain ⟨pv,v,hbk,hBb⟩:=wr_blk HS5.out.wr
        have d2:=hbk.cell 2;have z2:=hbk.lt;have f2:=hbk.free 2
        have k4:=HS5.out.box.cell 4;have zk:=HS5.out.box.lt
        simp at d2 k4
        have HBK:=hidE hbk;have HRO:=hidE hro
        obtain ⟨i0,hi,hz0,hz1,hz2⟩:=info_parts Tryz.infoI64
        have HI:=hidE hi;have HZ0:=hidE hz0;have HZ1:=hidE hz1;have HZ2:=hidE hz2
        have hsB:B≤wc.heap.size:=Nat.le_trans HS5.out.sz HS5.out.bel.size
        clear hbk hro hi hz0 hz1 hz2
        have HRD:=hidE (show wc.drew.ownsRow B 3 1 (.slice ao dt.length co) dt.length (intsV dt.reverse) from HRO.out)
        have hcell:(wc.drew.alloc (.cells #[.int .i64 x.kids] 3)).cell? ⟨wc.heap.size,0,none⟩ = some (.int .i64 x.kids):=by
          have:=(Blk.made wc.drew #[.int .i64 x.kids] 3).cell 0
          simpa using this
        have HCL:=hidE hcell;clear hcell
        go_upto_region 6 with fail
        go_cut [] (fun wx => ∃ o',Wr B b s2 o' wx∧wx.ownsRow B 3 1 o' (dt.length + 1) (intsV (x.kids :: dt).reverse)∧Below B w wx)
        case first =>
          go_region_law ((refine step_appI rfl (.tmp 60) (.tmp 63) 27 rfl B 3 i0 _ Tryz.underlying27 HI.out HZ0.out HZ1.out HZ2.out rfl _ _ _ rfl (World.ownsRow.alloc HRD.out _) _ _ rfl HCL.out (by omega) (by simp;omega) ?_;intro v' w' own' hg';obtain ⟨ao',co',rfl⟩:=own_sli own';have hb':Blk w' b #[pv,v,.slice ao dt.length co] 186:=(HBK.out.past (balloc (Below.drew (Below.refl _ _)) _)).grown hg' (fun e => row_ne HRO.out HBK.out e.symm);have e2:=hb'.cell 2;have ez:=hb'.lt;have ef:=hb'.free 2;simp at e2;have HB':=hidE hb';clear hb'))
          all_goals
            go_wp2
            go_meet
            case rel =>
              have hne:=row_ne own' HB'.out
              have hba:Below B wc (wc.drew.alloc (.cells #[.int .i64 x.kids] 3)):=(Below.drew (Below.refl B wc)).alloc hsB _
              rw [row_push] at own'
              exact ⟨_,HS5.out.wr.push HRO.out _ hg',own_kept own' (fun k e => keptS (fun e2 => hne (by rw [e,e2])) _),((HS5.out.bel.trans hba).grown hg' (by simp;omega) (fun k hk => own_block HRO.out hk)).setCell (p:=⟨b,2,none⟩) hBb _⟩
        case rest =>
          obtain ⟨o1,hw1,hr1,hb1⟩:=hcut
          have HW1:=hidE hw1;have HR1:=hidE hr1;have HB1:=hidE hb1
          have HSZ:=hidE HS5.out.sz
          clear hw1 hr1 hb1 HS5 HBK HRO HRD HCL d2 z2 f2 k4 zk HI HZ0 HZ1 HZ2 hsB
          go_wp2_with fail
          go_loopg [] (dt.length + 1) (fun gh wr => ∃ (s':List UInt8) (st':List Int) (o':Value),st'.length≤gh∧closeW s2 (x.kids :: dt) = closeW s' st'∧s'.length + st'.length≤100000101∧(∀ y ∈ st',0≤y∧y≤1000000)∧Wr B b s' o' wr∧wr.ownsRow B 3 1 o' st'.length (intsV st'.reverse)∧Below B w wr)
          case atStart => exact ⟨s2,x.kids :: dt,o1,by simp,rfl,by simp only [List.length_cons];omega,fun y hy => by
            simp only [List.mem_cons] at hy
            rcases hy with rfl | hy
            · exact hkids
            · exact HSD.out y hy,HW1.out,HR1.out,HB1.out⟩
          case round =>
            obtain ⟨s',st',o',hgh,hcl,hlen,hall,hwr,hrow,hbel⟩:=hrel
            have HGH:=hidE hgh;have HCLW:=hidE hcl;have HLEN:=hidE hlen;have HALL:=hidE hall;have HWR:=hidE hwr;have HROW:=hidE hrow;have HBEL:=hidE hbel
            clear HW1 HR1 HB1
            obtain ⟨ao',co',rfl⟩:=own_sli hrow
            obtain ⟨pv',v',hbk',hBb'⟩:=wr_blk hwr
            obtain ⟨n,hn⟩:∃ n,n = st'.length:=⟨_,rfl⟩
            rw [← hn] at HWR HROW hbk'
            have d2:=hbk'.cell 2;have z2:=hbk'.lt;have f2:=hbk'.free 2
            simp at d2
            have HBK:=hidE hbk';have HN:=hidE hn
            have hsB:B≤wr.heap.size:=Nat.le_trans HSZ.out hbel.size
            clear hgh hcl hlen hall hwr hrow hbel hbk' hn
            by_cases hz:n = 0
            · have hst0:st' = []:=List.eq_nil_of_length_eq_zero (by have:=HN.out;omega)
              have HZ:=hidE (show partW (s,st) x = (s',[]) by rw [HPW.out,HCLW.out,hst0];rfl)
              have HZR:=hidE hst0
              subst hz
              clear hst0
              go_wp2_with fail
              refine wp_region_past_lit (by kernel_rfl) (by kernel_rfl) ?_
              have hcp:=Past.cell (W:=wr)
              repeat (go_big_quiet_step (fail))
              refine wpQuiet_nil ?_
              rintro _ ⟨y,rfl⟩
              have hy:=y.2
              have hfw:=HWR.out.past hy
              have hfr:=own_below HROW.out hy
              have hfb:=HBEL.out.trans (hy.mono hsB)
              have F:=hidE (And.intro hfw (And.intro hfr hfb))
              clear hfw hfr hfb hcp d2 z2 f2
              generalize y.1 = w9 at *
              clear y hy
              go_wp2
              go_end0
              refine ⟨rfl, ?_,F.out.2.2⟩
              rw [HZ.out]
              have hfin:=F.out.2.1
              rw [HZR.out] at hfin
              exact ⟨_,F.out.1,hfin⟩
            · obtain ⟨m,rfl⟩:∃ m,n = m + 1:=⟨n - 1,by omega⟩
              obtain ⟨c,r,hcr,hrm⟩:∃ c r,st' = c :: r∧r.length = m:=by
                have:=HN.out
                cases st' with
                | nil => simp at this
                | cons c r => simp at this;exact ⟨c,r,rfl,by omega⟩
              have hm2:m < 100000200:=by have:=HLEN.out;have:=HN.out;omega
              have HCR:=hidE hcr;have HRM:=hidE hrm
              obtain ⟨g,cg,hg1,hg2,hg3,hg4,hg5⟩:=row_at HROW.out (by omega)
              cases hg1
              have t1:wr.cell? ⟨g,m,none⟩ = some (.int .i64 c):=by
                have h0:=HROW.out
                rw [HCR.out] at h0
                have:=row_top h0 (by rw [HRM.out])
                rwa [HRM.out] at this
              have q:decide ((0:Int) < (m:Int) + 1) = true:=decide_eq_true (by omega)
              have q':decide ((m:Int) + 1 > 0) = true:=decide_eq_true (by omega)
              clear hcr hrm hz
              by_cases hc0:c = 0
              · subst hc0
                have HCL2:=hidE (show closeW s2 (x.kids :: dt) = closeW (s' ++ [41]) r by rw [HCLW.out,HCR.out,closeW_zero])
                go_wp2_with fail
                refine wp_region_past_lit (by kernel_rfl) (by kernel_rfl) ?_
                have hcp:=Past.cell (W:=wr)
                repeat (go_big_quiet_step (fail))
                refine wpQuiet_nil ?_
                rintro _ ⟨y,rfl⟩
                have hy:=y.2
                have HW9:=hidE (HWR.out.past hy)
                have HR9:=hidE (own_below HROW.out hy)
                have HB9:=hidE (HBEL.out.trans (hy.mono hsB))
                have hs9:B≤y.1.heap.size:=Nat.le_trans hsB hy.size
                clear hcp d2 z2 f2 t1 q q' HCLW
                generalize y.1 = w9 at *
                clear y hy
                have HWB:=hidE (wr_byte B b s' _ 41 w9 HW9.out (by have:=HLEN.out;have:=HN.out;omega) hs9 41 rfl)
                go_wp2_with fail
                ((with_reducible refine HWB.out.mono ?_);rintro e w10 ⟨rfl,hw10⟩)
                have hne:=row_ne HR9.out (wr_blk HW9.out).choose_spec.choose_spec.1
                have HR10:=hidE (own_others (by decide) HR9.out hne hw10.2.2)
                have HW10:=hidE hw10.1
                have HB10:=hidE (HB9.out.trans hw10.2.1)
                obtain ⟨pv2,v2,hbk2,_⟩:=wr_blk hw10.1
                have e2:=hbk2.cell 2;have ez:=hbk2.lt;have ef:=hbk2.free 2
                simp at e2
                have wm:IntKind.i64.wrap ((m:Int) + 1 - 1) = (m:Int):=(IntWalk.i64_in _ (by omega)).trans (by omega)
                have hmc:m≤co':=by omega
                have hmc2:(m:Int)≤(co':Int):=by omega
                clear hw10 hbk2 hne HWB
                go_wp2_with fail
                go_region
                go_wp2
                go_roundg r.length
                case measure => have:=HGH.out;have:=HN.out;have:=HRM.out;omega
                case rel =>
                  have hd:Below w10.heap.size w10 w10.drew:=Below.drew (Below.refl _ _)
                  have hro:=HR10.out
                  rw [HCR.out] at hro
                  have hro2:=row_pop hro (by rw [HRM.out])
                  rw [HRM.out] at hro2
                  have hk:∀ k,(Value.slice (some ⟨g,0,none⟩) m co').ownBlock = some k→(w10.setCell ⟨b,2,none⟩ (.slice (some ⟨g,0,none⟩) m co')).heap[k]? = w10.heap[k]? := fun k e => by
                    cases e
                    obtain ⟨pv3,v3,hb3,_⟩:=wr_blk HW10.out
                    exact keptS (fun e => row_ne HR10.out hb3 (show some g = some b from congrArg some e)) _
                  refine ⟨s' ++ [41],r,.slice (some ⟨g,0,none⟩) m co',Nat.le_refl _,HCL2.out,by have:=HLEN.out;have:=HN.out;simp only [List.length_append,List.length_cons,List.length_nil];have:=HRM.out;omega,fun y hy => HALL.out y (by rw [HCR.out];exact List.mem_cons_of_mem _ hy),HW10.out.stack.past (Below.drew (Below.refl _ _)), ?_,(HB10.out.setCell (p:=⟨b,2,none⟩) hBb _).drew⟩
                  rw [HRM.out]
                  exact own_below (own_kept hro2 hk) (Below.drew (Below.refl _ _))
              · have q2:(c == 0) = false:=beq_eq_false_iff_ne.2 hc0
                have HZ:=hidE (show partW (s,st) x = (s',c :: r) by rw [HPW.out,HCLW.out,HCR.out,closeW_pos _ _ _ hc0])
                clear hc0
                go_wp2_with fail
                refine wp_region_past_lit (by kernel_rfl) (by kernel_rfl) ?_
                have hcp:=Past.cell (W:=wr)
                repeat (go_big_quiet_step (fail))
                refine wpQuiet_nil ?_
                rintro _ ⟨y,rfl⟩
                have hy:=y.2
                have hfw:=HWR.out.past hy
                have hfr:=own_below HROW.out hy
                have hfb:=HBEL.out.trans (hy.mono hsB)
                have F:=hidE (And.intro hfw (And.intro hfr hfb))
                clear hfw hfr hfb hcp d2 z2 f2 t1 q q'
                generalize y.1 = w9 at *
                clear y hy
                go_wp2
                go_end0
                refine ⟨rfl, ?_,F.out.2.2⟩
                rw [HZ.out]
                have hfin:=F.out
                rw [HCR.out] at hfin
                refine ⟨_,hfin.1, ?_⟩
                rw [show (c :: r).length = m + 1 by simp [HRM.out]]
                exact hfin.2.1
end
section
end
section
open Go.ChangeShapes Go.WideShapes Go.ChangeAt Go.RowKit
attribute [local irreducible] Go.Calls
end
section
open Go.ChangeShapes Go.WideShapes Go.ChangeAt Go.RowKit
attribute [local irreducible] Go.Calls
theorem endF_big:∀ (l:List Prt) (n:Nat),l.length < n→endF l n = none
  | [],n + 1,_ => rfl
  | x :: l, n + 1, h => by
    rw [endF_cons]
    by_cases c:4 < x.kind ∨ x.kids < 0
    · rw [if_pos c]
    · rw [if_neg c,endF_big l _ (by simp only [List.length_cons] at h;omega)]
theorem treeB_end (l:List Prt):treeB l = decide (endF l 1 = some []):=by
  unfold treeB
  cases l with
  | nil => rfl
  | cons x l => rw [decide_eq_true (by simp:x :: l ≠ []),Bool.true_and]
set_option maxHeartbeats 1000000 in
theorem tree_c (T:List Prt) (hW:∀ x ∈ T,x.kind≤255) (a:Option Addr) (cap:Nat) (w:World) (hl:T.length≤100000) (hA:ArgP w a T):Calls Tryz.prog 114 #[.slice a T.length cap] w fun e w' => e = .returned (.bool (treeB T))∧Below w.heap.size w w':=by
  have HA:=hidE hA;have HW:=hidE hW
  have HT:=hidE (treeB_end T)
  clear hA hW
  obtain ⟨b0,hb0⟩:∃ b0,b0 = treeB T:=⟨_,rfl⟩
  rw [← hb0] at HT ⊢
  clear hb0
  go_enter Tryz.func114,Tryz.ntmps114
  go_wp2
  go_loopg [3,9] T.length (fun g v3 v9 wr => ∃ (k D:Nat),k≤T.length∧T.length - k≤g∧v3 = .int .i64 D∧v9 = .int .i64 k∧(D≤T.length - k ∨ (k = 0∧D = 1))∧b0 = decide (endF (T.drop k) D = some [])∧Below w.heap.size w wr)
  case atStart => exact ⟨0,1,Nat.zero_le _,Nat.le_refl _,rfl,rfl,.inr ⟨rfl,rfl⟩,HT.out,Below.refl _ _⟩
  case round =>
    obtain ⟨k,D,hk,hg,rfl,rfl,hD,he,hb⟩:=hrel
    have HG:=hidE hg;have HE:=hidE he;have HB:=hidE hb
    clear hg he hb HT
    by_cases hlt:k < T.length
    · obtain ⟨p,off,rfl,hp,hc⟩:=(HA.out.past HB.out) (by omega)
      obtain ⟨c0,c1,c2,c3,c4⟩:=hc.get hlt
      have hdr:T.drop k = T.getD k pr0 :: T.drop (k + 1):=by
        rw [List.drop_eq_getElem_cons hlt,pgetD _ _ hlt]
      have hkd:(T.getD k pr0).kind≤255:=HW.out _ (by rw [pgetD _ _ hlt];exact List.getElem_mem hlt)
      have hdl:(T.drop (k + 1)).length = T.length - (k + 1):=by simp
      rw [hdr] at HE
      clear hdr hc
      generalize T.getD k pr0 = x at *
      generalize hTL:T.drop (k + 1) = R at *
      have q1:decide ((k:Int) < (T.length:Int)) = true:=decide_eq_true (by omega)
      have q2:decide (k < T.length) = true:=decide_eq_true hlt
      have w1:IntKind.i64.wrap ((T.length:Int) - (k:Int)) = (T.length:Int) - (k:Int):=IntWalk.i64_in _ (by omega)
      have w2:IntKind.i64.wrap ((T.length:Int) - (k:Int) - 1) = (T.length:Int) - (k:Int) - 1:=IntWalk.i64_in _ (by omega)
      have w3:IntKind.i64.wrap ((D:Int) - 1) = (D:Int) - 1:=IntWalk.i64_in _ (by omega)
      have w4:IntKind.i64.wrap ((T.length:Int) - (k:Int) - 1 - ((D:Int) - 1)) = (T.length:Int) - (k:Int) - 1 - ((D:Int) - 1):=IntWalk.i64_in _ (by omega)
      by_cases n0:D = 0
      · have HX:=hidE (show b0 = false by rw [HE.out,n0];exact decide_eq_false (by intro h;cases h))
        have q3:((D:Int) == 0) = true:=beq_iff_eq.2 (by omega)
        clear n0 hD w3 w4
        go_wp2
        go_ret
        exact ⟨ret_bool HX.out.symm,by have:=HB.out;(repeat (first | exact Below.refl _ _ | assumption | refine balloc ?_ _ | refine below_drewN ?_ _ | refine bstep (by assumption) ?_ | refine bstep (Past.prop _) ?_ | refine Below.setCell ?_ (by first | exact Nat.le_refl _ | (simp;done) | (simp;omega)) _))⟩
      · have q3:((D:Int) == 0) = false:=beq_eq_false_iff_ne.2 (by omega)
        obtain ⟨n,rfl⟩:∃ n,D = n + 1:=⟨D - 1,by omega⟩
        have hn':n≤100000:=by omega
        have q3':((n:Int) + 1 == 0) = false:=beq_eq_false_iff_ne.2 (by omega)
        have w4':IntKind.i64.wrap ((T.length:Int) - (k:Int) - 1 - (n:Int)) = (T.length:Int) - (k:Int) - 1 - (n:Int):=IntWalk.i64_in _ (by omega)
        have HE2:=hidE (by have:=HE.out;rw [endF_cons] at this;exact this)
        clear HE n0
        by_cases n1:4 < x.kind
        · have HX:=hidE (show b0 = false by rw [HE2.out,if_pos (.inl n1)];rfl)
          have q4:decide ((x.kind:Int) ≥ 5) = true:=decide_eq_true (by omega)
          have q5:decide ((5:Int)≤(x.kind:Int)) = true:=decide_eq_true (by omega)
          have q6:decide (5≤x.kind) = true:=decide_eq_true (by omega)
          have q7:decide (x.kind ≥ 5) = true:=decide_eq_true (by omega)
          clear hD w3 w4 HE2
          go_wp2
          go_ret
          exact ⟨ret_bool HX.out.symm,by have:=HB.out;(repeat (first | exact Below.refl _ _ | assumption | refine balloc ?_ _ | refine below_drewN ?_ _ | refine bstep (by assumption) ?_ | refine bstep (Past.prop _) ?_ | refine Below.setCell ?_ (by first | exact Nat.le_refl _ | (simp;done) | (simp;omega)) _))⟩
        · have q4:decide ((x.kind:Int) ≥ 5) = false:=decide_eq_false (by omega)
          have q5:decide ((5:Int)≤(x.kind:Int)) = false:=decide_eq_false (by omega)
          have q6:decide (5≤x.kind) = false:=decide_eq_false (by omega)
          have q7:decide (x.kind ≥ 5) = false:=decide_eq_false (by omega)
          by_cases n2:x.kids < 0
          · have HX:=hidE (show b0 = false by rw [HE2.out,if_pos (.inr n2)];rfl)
            have q8:decide (x.kids < 0) = true:=decide_eq_true n2
            clear hD w3 w4 HE2 n2
            go_wp2
            go_ret
            exact ⟨ret_bool HX.out.symm,by have:=HB.out;(repeat (first | exact Below.refl _ _ | assumption | refine balloc ?_ _ | refine below_drewN ?_ _ | refine bstep (by assumption) ?_ | refine bstep (Past.prop _) ?_ | refine Below.setCell ?_ (by first | exact Nat.le_refl _ | (simp;done) | (simp;omega)) _))⟩
          · have q8:decide (x.kids < 0) = false:=decide_eq_false n2
            by_cases n3:x.kids > (T.length:Int) - (k:Int) - 1 - (n:Int)
            · have HX:=hidE (show b0 = false by
                rw [HE2.out,if_neg (by omega),endF_big R _ (by rw [hdl];omega)];rfl)
              have q9:=decide_eq_true n3
              have q10:decide ((T.length:Int) - (k:Int) - 1 - (n:Int) < x.kids) = true:=decide_eq_true n3
              clear hD HE2
              go_wp2
              go_ret
              exact ⟨ret_bool HX.out.symm,by have:=HB.out;(repeat (first | exact Below.refl _ _ | assumption | refine balloc ?_ _ | refine below_drewN ?_ _ | refine bstep (by assumption) ?_ | refine bstep (Past.prop _) ?_ | refine Below.setCell ?_ (by first | exact Nat.le_refl _ | (simp;done) | (simp;omega)) _))⟩
            · have q9:=decide_eq_false n3
              have q10:decide ((T.length:Int) - (k:Int) - 1 - (n:Int) < x.kids) = false:=decide_eq_false n3
              have HX:=hidE (show b0 = decide (endF R (n + x.kids.toNat) = some []) by rw [HE2.out,if_neg (by omega)])
              have w5:IntKind.i64.wrap (x.kids - 1) = x.kids - 1:=IntWalk.i64_in _ (by omega)
              have w6:IntKind.i64.wrap ((n:Int) + 1 + (x.kids - 1)) = (n:Int) + 1 + (x.kids - 1):=IntWalk.i64_in _ (by omega)
              clear HE2
              go_wp2
              go_roundg (T.length - (k + 1))
              case measure => have:=HG.out;omega
              case rel =>
                refine ⟨k + 1,n + x.kids.toNat,by omega,Nat.le_refl _, ?_,rfl,.inl (by omega),by rw [hTL];exact HX.out,by have:=HB.out;(repeat (first | exact Below.refl _ _ | assumption | refine balloc ?_ _ | refine below_drewN ?_ _ | refine bstep (by assumption) ?_ | refine bstep (Past.prop _) ?_ | refine Below.setCell ?_ (by first | exact Nat.le_refl _ | (simp;done) | (simp;omega)) _))⟩
                congr 1
                omega
    · have q1:decide ((k:Int) < (T.length:Int)) = false:=decide_eq_false (by omega)
      have q2:decide (k < T.length) = false:=decide_eq_false hlt
      have HX:=hidE (show b0 = ((D:Int) == 0) by
        rw [HE.out,List.drop_eq_nil_of_le (by omega)]
        cases D with
        | zero => rfl
        | succ n => rw [show endF [] (n + 1) = none from rfl];simp;omega)
      go_wp2
      go_ret
      exact ⟨ret_bool HX.out.symm,HB.out⟩
end
end Go.Proofs.YthlepbbdjmmelaaGreatDoor
