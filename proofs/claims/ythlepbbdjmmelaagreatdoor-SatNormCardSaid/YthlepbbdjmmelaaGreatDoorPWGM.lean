/- The contract of Print. Conditions: the definition's numbers are of their fields' kinds, the list's length, the tables. What the document's example texts are parsed to, by steps that are counted. No program. No conditions. The children's texts: (*term).texts. Conditions: the block reads as a term that may be, its size, the tables. Texts compared: cmp.Less, strings.Compare, .. -/
import Derived.Test.YthlepbbdjmmelaaGreatDoorPWGL
import Derived.Test.YthlepbbdjmmelaaGreatDoorPWMB
import Derived.Test.YthlepbbdjmmelaaGreatDoorPWGB
import Derived.Lib.Bytealg
import Derived.Test.YthlepbbdjmmelaaGreatDoorPWGK
import Derived.LoopTactic
import Derived.BigRegion
import Derived.Outline
import Derived.Deep.LoopGhost
import Derived.Test.YthlepbbdjmmelaaGreatDoorPWGJ
import Derived.Maps.OwnOps
import Derived.Maps.Views
import Derived.Maps.AppendAt
import Derived.Test.YthlepbbdjmmelaaGreatDoorPWGC
import Derived.Test.YthlepbbdjmmelaaGreatDoorPWGE
namespace Go.Proofs.YthlepbbdjmmelaaGreatDoor
section
open Go.ChangeShapes Go.WideShapes Go.ChangeAt Go.RowKit Go.Shelf
attribute [local irreducible] Go.Calls
def PrintPost (w:World) (fr to':Int) (T:List Prt) (e:Ending) (w':World):Prop :=
  ∃ (t:List UInt8) (er:Int),e = .returned (.tuple #[strV t,.int .i64 er])∧Below w.heap.size w w'∧t.length≤1000000000∧((treeB T = false∧er = 81∧t = []) ∨ (er = 0∧∃ F:Fst,F.kok∧F.len = 1∧T = F.flat∧t = printF fr to' F))
def headW (fr to':Int):List UInt8:=[102,114,111,109,32] ++ decS fr ++ [32,116,111,32] ++ decS to' ++ [58]
theorem headW_print (fr to':Int) (F:Fst):headW fr to' ++ textF F = printF fr to' F:=by
  simp [headW,printF,wFrom,wTo]
structure PrSt (b:Nat) (a:List UInt8 × List Int) (fr to':Int) (ad:Option Addr) (T:List Prt) (cap:Nat) (p:Nat) (w0 w:World):Prop where
  wr:WrI b b a.1 a.2 w
  bel:Below b w0 w
  d:Blk w p #[.int .i64 fr,.int .i64 to',.slice ad T.length cap] 24
  arg:ArgP w ad T
  tb:Tb b w
  sz:b≤w.heap.size
theorem PrSt.next {b:Nat} {a a':List UInt8 × List Int} {fr to':Int} {ad:Option Addr} {T:List Prt} {cap p:Nat} {w0 w w':World} (h:PrSt b a fr to' ad T cap p w0 w) (hp:p < b) (hw0:w0.heap.size = b) (hA0:ArgP w0 ad T) (hb:Below b w w') (hw:WrI b b a'.1 a'.2 w'):PrSt b a' fr to' ad T cap p w0 w' :=
  ⟨hw,h.bel.trans hb,h.d.below hb hp,hA0.past (by rw [hw0];exact h.bel.trans hb),h.tb.below hb,Nat.le_trans h.sz hb.size⟩
theorem stOk_nil:StOk []:=⟨fun y hy => (by cases hy),fun c r e => (by cases e)⟩
theorem WrI.past {B b:Nat} {s:List UInt8} {st:List Int} {w w':World} (h:WrI B b s st w) (hb:Below w.heap.size w w'):WrI B b s st w':=by
  obtain ⟨o,h1,h2⟩:=h
  exact ⟨o,h1.past hb,own_below h2 hb⟩
theorem WrI.wrote {B b:Nat} {s s':List UInt8} {st:List Int} {o:Value} {w w':World} (h1:Wr B b s o w) (h2:w.ownsRow B 3 1 o st.length (intsV st.reverse)) (hw:WroteW B b s' o w w'):WrI B b s' st w':=by
  obtain ⟨pv,v,hb,hB⟩:=wr_blk h1
  exact ⟨o,hw.1,own_others (by decide) h2 (row_ne h2 hb) hw.2.2⟩
set_option maxRecDepth 100000 in
set_option maxHeartbeats 2000000 in
theorem print_c (fr to':Int) (hf : -9223372036854775808≤fr∧fr≤9223372036854775807) (ht : -9223372036854775808≤to'∧to'≤9223372036854775807) (T:List Prt) (hW:∀ x ∈ T,PrtW x) (a:Option Addr) (cap:Nat) (w:World) (hl:T.length≤100000) (hA:ArgP w a T) (hT:Tab w) :
    Calls Tryz.prog 106 #[defV fr to' a T.length cap] w (PrintPost w fr to' T):=by
  have HC:=hidE (fun w' (hb:Below w.heap.size w w') => tree_c T (fun x hx => (hW x hx).1) a cap w' hl (hA.past hb))
  have HA:=hidE hA;have HT:=hidE hT;have HW:=hidE hW
  clear hA hT hW
  cases htr:treeB T with
  | false =>
    rw [htr] at HC
    have HTR:=hidE htr;clear htr
    go_enter Tryz.func106,Tryz.ntmps106
    go_wp2_with fail
    ((with_reducible refine (HC.out _ (by (repeat (first | exact Below.refl _ _ | assumption | refine balloc ?_ _ | refine below_drewN ?_ _ | refine bstep (by assumption) ?_ | refine bstep (Past.prop _) ?_ | refine Below.setCell ?_ (by first | exact Nat.le_refl _ | (simp;done) | (simp;omega)) _)))).mono ?_);rintro e w1 ⟨rfl,hb⟩)
    have HB:=hidE (show Below w.heap.size w w1 by (repeat (first | exact Below.refl _ _ | assumption | refine balloc ?_ _ | refine below_drewN ?_ _ | refine bstep (by assumption) ?_ | refine bstep (Past.prop _) ?_ | refine Below.setCell ?_ (by first | exact Nat.le_refl _ | (simp;done) | (simp;omega)) _)))
    clear hb
    go_wp2
    refine bodyPost_ret (v := .tuple #[strV [],.int .i64 81]) (by simp [results,Tryz.results106,go_sem]) rfl ⟨[],81,rfl,HB.out,by simp,.inl ⟨HTR.out,rfl,rfl⟩⟩
  | true =>
    rw [htr] at HC
    obtain ⟨F,k1,k2,k3⟩:=tree_iff.1 htr
    have HK1:=hidE k1;have HK2:=hidE k2;have HK3:=hidE k3
    have hlf:=decS_len hf;have hlt:=decS_len ht
    clear htr k1 k2 k3
    go_enter Tryz.func106,Tryz.ntmps106
    go_wp2_with fail
    ((with_reducible refine (HC.out _ (by (repeat (first | exact Below.refl _ _ | assumption | refine balloc ?_ _ | refine below_drewN ?_ _ | refine bstep (by assumption) ?_ | refine bstep (Past.prop _) ?_ | refine Below.setCell ?_ (by first | exact Nat.le_refl _ | (simp;done) | (simp;omega)) _)))).mono ?_);rintro e w1 ⟨rfl,hb⟩)
    have hb0:=(Blk.made w #[.int .i64 fr,.int .i64 to',.slice a T.length cap] 24).past hb
    have hbw:Below w.heap.size w w1:=by (repeat (first | exact Below.refl _ _ | assumption | refine balloc ?_ _ | refine below_drewN ?_ _ | refine bstep (by assumption) ?_ | refine bstep (Past.prop _) ?_ | refine Below.setCell ?_ (by first | exact Nat.le_refl _ | (simp;done) | (simp;omega)) _))
    have hS:PrSt w1.heap.size ([],[]) fr to' a T cap w.heap.size w1 (w1.alloc (.cells #[.pointer none,.slice none 0 0,.slice none 0 0] 186)):=by
      have hba:Below w1.heap.size w1 (w1.alloc (.cells #[.pointer none,.slice none 0 0,.slice none 0 0] 186)):=balloc (Below.refl _ _) _
      exact ⟨⟨.slice none 0 0,.inl ⟨Nat.le_refl _,.slice none 0 0,Blk.made _ _ _,World.ownsRowF_nil _ _ _ _⟩,World.ownsRow_nil _ _ _ _⟩,hba,hb0.past hba,(HA.out.past hbw).past hba,(Tb.of (HT.out.past hbw) (Nat.le_refl _)).below hba,by simp⟩
    have HS:=hidE hS;have HBW:=hidE hbw
    have hpb:w.heap.size < w1.heap.size:=hb0.lt
    have hA0:=HA.out.past hbw
    clear hS hbw hb hb0 HA HC
    have HA0:=hidE hA0
    clear hA0
    go_wp2_with fail
    generalize w1.alloc (.cells #[.pointer none,.slice none 0 0,.slice none 0 0] 186) = w2 at *
    obtain ⟨b,hbe⟩:∃ b,b = w1.heap.size:=⟨_,rfl⟩
    obtain ⟨p,hpe⟩:∃ p,p = w.heap.size:=⟨_,rfl⟩
    rw [← hbe] at HS hpb ⊢
    rw [← hpe] at HS hpb ⊢
    have HBE:=hidE hbe;have HPE:=hidE hpe
    clear hbe hpe
    obtain ⟨o,ho1,ho2⟩:=HS.out.wr
    have HO1:=hidE ho1;have HO2:=hidE ho2
    have c0:=HS.out.d.cell 0;have c1:=HS.out.d.cell 1;have z:=HS.out.d.lt
    simp at c0 c1
    have HD1:=hidE (fun (y:Past w2) => dec_c fr hf y.1 (HS.out.tb.below (y.2.mono HS.out.sz)).pow)
    have HD2:=hidE (fun (y:Past w2) => dec_c to' ht y.1 (HS.out.tb.below (y.2.mono HS.out.sz)).pow)
    have hcp:=Past.cell (W:=w2)
    clear ho1 ho2
    refine wp_region_bar 13 _ (by kernel_rfl) rfl (by kernel_rfl) (fun v w'' => v = .tuple #[.int .i64 (headW fr to').length,.nilIface]∧WroteW b b (headW fr to') o w2 w'') ?_
    simp only [List.take_succ_cons,List.take_zero,List.drop_succ_cons,List.drop_zero]
    repeat (go_big_quiet_step ((go_at_call 116;first | exact Past.call _ (HD1.out _) | exact Past.call _ (HD2.out _))))
    refine wpQuiet_nil ?_
    intro y
    refine ⟨rfl, ?_, ?_⟩
    · simp [go_sem,gives]
      rw [show (⟨#[102,114,111,109,32]⟩:ByteArray) ++ ⟨(decS fr).toArray⟩ ++ ⟨#[32,116,111,32]⟩ ++ ⟨(decS to').toArray⟩ ++ ⟨#[58]⟩ = ⟨(headW fr to').toArray⟩ from by
        rw [show (⟨#[102,114,111,109,32]⟩:ByteArray) = ⟨([102,114,111,109,32]:List UInt8).toArray⟩ from rfl,show (⟨#[32,116,111,32]⟩:ByteArray) = ⟨([32,116,111,32]:List UInt8).toArray⟩ from rfl,show (⟨#[58]⟩:ByteArray) = ⟨([58]:List UInt8).toArray⟩ from rfl,str_cat,str_cat,str_cat,str_cat]
        rfl]
      have hhl:(headW fr to').length≤60:=by simp only [headW,List.length_append,List.length_cons,List.length_nil];omega
      refine (wr_str b b [] (headW fr to') o y.1 (HO1.out.past y.2) (by simp only [List.length_nil];omega) (Nat.le_trans HS.out.sz y.2.size)).mono ?_
      rintro e w'' ⟨rfl,h1,h2,h3⟩
      have hy:=y.2
      exact ⟨_,rfl,rfl,h1,(hy.mono HS.out.sz).trans h2,Lib.OthersKept.trans (others_past hy) h3⟩
    · rintro v w3 ⟨rfl,hw3⟩
      have HS3:=hidE (HS.out.next (a':=(headW fr to',[])) hpb HBE.out.symm HA0.out hw3.2.1 (WrI.wrote HO1.out HO2.out hw3))
      clear hw3 c0 c1 z hcp HD1 HD2
      refine wpQuiet_nil ?_
      rintro _ ⟨y,rfl⟩
      have HS4:=hidE (HS3.out.next (a':=(headW fr to',[])) hpb HBE.out.symm HA0.out (y.2.mono HS3.out.sz) (HS3.out.wr.past y.2))
      clear HS3 HS HO1 HO2
      generalize y.1 = w4 at *
      clear y
      have c2:=HS4.out.d.cell 2;have z:=HS4.out.d.lt
      simp at c2
      simp only [Act.put,List.setIfInBounds_toArray,List.set_cons_succ,List.set_cons_zero]
      have hhl:(headW fr to').length≤60:=by simp only [headW,List.length_append,List.length_cons,List.length_nil];omega
      have HPART:=hidE (fun (k:Nat) (hk:k≤T.length) => partsW_ok (T.take k) (headW fr to',[]) stOk_nil (fun x hx => ⟨HW.out x (List.mem_of_mem_take hx),by
        have h1:=List.mem_of_mem_take hx
        rw [HK3.out] at h1
        have:=kok_kids F HK1.out x h1
        have h2:=flat_len F
        rw [← HK3.out] at h2
        omega⟩))
      go_wp2_with fail
      go_loopg [30] T.length (fun gh v30 wr => ∃ k:Nat,k≤T.length∧T.length - k≤gh∧v30 = .int .i64 k∧PrSt b (partsW (headW fr to',[]) (T.take k)) fr to' a T cap p w1 wr)
      case atStart => exact ⟨0,Nat.zero_le _,Nat.le_refl _,rfl,HS4.out⟩
      case round =>
        obtain ⟨k,hk,hgh,rfl,hp⟩:=hrel
        have HG:=hidE hgh;have HP:=hidE hp
        clear hgh hp
        by_cases hlt:k < T.length
        · obtain ⟨bb,off,rfl,hbb,hc⟩:=HP.out.arg (by omega)
          obtain ⟨e0,e1,e2,e3,e4⟩:=hc.get hlt
          have q1:decide ((k:Int) < (T.length:Int)) = true:=decide_eq_true (by omega)
          have q2:decide (k < T.length) = true:=decide_eq_true hlt
          have hx:=HW.out (T.getD k pr0) (by rw [pgetD _ _ hlt];exact List.getElem_mem hlt)
          have hmem:T.getD k pr0 ∈ F.flat:=by rw [← HK3.out,pgetD _ _ hlt];exact List.getElem_mem hlt
          have hkk:=kok_kind F HK1.out _ hmem
          have hki:=kok_kids F HK1.out _ hmem
          have hfs:F.size≤100000:=by rw [← flat_len,← HK3.out];exact hl
          have hok:=HPART.out k (by omega)
          have htk:(T.take k).length = k:=by rw [List.length_take];omega
          rw [htk] at hok
          have HNX:=hidE (partsW_succ (headW fr to',[]) T k hlt)
          have HPT:=hidE (fun w' (hb:Below wr.heap.size wr w') => part_c b b (partsW (headW fr to',[]) (T.take k)).1 (partsW (headW fr to',[]) (T.take k)).2 (T.getD k pr0) w' (Nat.le_trans HP.out.sz hb.size) (HP.out.wr.past hb) hok.1 (by have:=hok.2;simp only [List.length_nil] at this;omega) hx hkk ⟨hki.1,by omega⟩ (HP.out.tb.below (hb.mono HP.out.sz)))
          clear hc hx hmem hkk hki hok htk
          rw [show (⟨0,0,0,0,0⟩:Prt) = pr0 from rfl] at HNX
          generalize T.getD k pr0 = x at *
          go_wp2_with fail
          have hba:Below wr.heap.size wr (wr.alloc (.cells #[.int .u8 x.kind,.int .u32 x.n,.int .u32 x.g,.int .i64 x.d,.int .i64 x.kids] 59)):=balloc (Below.refl _ _) _
          ((with_reducible refine (HPT.out _ hba).mono ?_);rintro e w6 ⟨rfl,hwi,hb6⟩)
          have HB6:=hidE ((hba.mono HP.out.sz).trans hb6);have HWI:=hidE hwi
          clear hba hwi hb6
          go_wp2
          go_roundg (T.length - (k + 1))
          case measure => have:=HG.out;omega
          case rel => exact ⟨k + 1,by omega,Nat.le_refl _,by go_num,HP.out.next hpb HBE.out.symm HA0.out HB6.out (by rw [HNX.out];exact HWI.out)⟩
        · have q1:decide ((k:Int) < (T.length:Int)) = false:=decide_eq_false (by omega)
          have q2:decide (k < T.length) = false:=decide_eq_false hlt
          have hkT:T.take k = F.flat:=by rw [List.take_of_length_le (by omega),HK3.out]
          have hfin:=HP.out
          have hlen2:=(HPART.out k hk).2
          rw [hkT,partsW_one HK2.out,headW_print] at hfin
          rw [hkT,partsW_one HK2.out,headW_print] at hlen2
          have htl:(printF fr to' F).length≤1000000000:=by
            simp only [List.length_nil] at hlen2
            rw [← HK3.out] at hlen2
            omega
          obtain ⟨o2,g1,_⟩:=hfin.wr
          have hne:printF fr to' F ≠ []:=by simp [printF,wFrom]
          have HSTR:=hidE (wr_string b b (printF fr to' F) o2 wr g1 hne (by omega))
          have HBF:=hidE (hfin.bel)
          clear hkT hfin hlen2 g1 hne
          go_wp2_with fail
          ((with_reducible refine HSTR.out.mono ?_);rintro e w5 ⟨rfl,hb5⟩)
          have HB5:=hidE (HBW.out.trans (((HBF.out.trans hb5)).mono (by rw [HBE.out];exact HBW.out.size)))
          clear hb5
          go_wp2
          refine bodyPost_ret (v := .tuple #[strV (printF fr to' F),.int .i64 0]) (by simp [results,Tryz.results106,go_sem]) rfl ⟨printF fr to' F,0,rfl,HB5.out,htl,.inr ⟨rfl,F,HK1.out,HK2.out,HK3.out,rfl⟩⟩
end
section
theorem flat_inj:∀ (F G:Fst) (r r':List Prt),F.kok→G.kok→F.len = G.len→F.flat ++ r = G.flat ++ r'→F = G∧r = r'
  | .nil,.nil,r,r',_,_,_,h => ⟨rfl,h⟩
  | .nil,.cons _ _ _,_,_,_,_,h,_ => by simp [Fst.len] at h
  | .cons _ _ _,.nil,_,_,_,_,h,_ => by simp [Fst.len] at h
  | .cons x k n, .cons y k' n', r, r', ⟨_, x0, f1, f2⟩, ⟨_, y0, g1, g2⟩, hl, h => by
    simp only [Fst.flat,List.cons_append,List.append_assoc,List.cons.injEq] at h
    obtain ⟨h1,h2⟩:=h
    obtain ⟨x1,x2,x3,x4,x5⟩:=x
    obtain ⟨y1,y2,y3,y4,y5⟩:=y
    simp only [Prt.mk.injEq] at h1 x0 y0
    obtain ⟨rfl,rfl,rfl,rfl,h3⟩:=h1
    obtain ⟨rfl,h4⟩:=flat_inj k k' _ _ f1 g1 (by omega) h2
    obtain ⟨rfl,h5⟩:=flat_inj n n' _ _ f2 g2 (by simp only [Fst.len] at hl;omega) h4
    exact ⟨by rw [x0,y0],h5⟩
end
section
open Go.ChangeShapes Go.WideShapes Go.ChangeAt Go.RowKit
attribute [local irreducible] Go.Calls
def txN (t:Tm):List UInt8:=headW 0 0 ++ txT t
def cellsZ (l:List (List UInt8)):List Value:=l.map strV
theorem Tryz.infoStrN:(Tryz.prog.info? 9).map (fun i => (i.zero,i.size,i.bytes)) = some (some (strV []),1,16):=by kernel_rfl
theorem print_txN {t:Tm} {deep ink:Nat} (hf:FitT t deep ink) {T:List Prt} (hT:T = flT t) {w w':World} {e:Ending} (h:PrintPost w 0 0 T e w'):e = .returned (.tuple #[strV (txN t),.int .i64 0])∧Below w.heap.size w w'∧(txN t).length≤1000000000:=by
  subst hT
  have hk:=fitT_kok hf
  have hfl:flT t = (bare (.cons t.1 t.2 .nil)).flat:=by rw [bare_flat];rfl
  have hlen:(bare (.cons t.1 t.2 .nil)).len = 1:=(bare_len _).1
  obtain ⟨s,er,rfl,hb,hsl,h2⟩:=h
  rcases h2 with ⟨c,_⟩ | ⟨rfl,F,k1,k2,k3,rfl⟩
  · rw [tree_iff.2 ⟨_,hk,hlen,hfl⟩] at c;cases c
  · have:F = bare (.cons t.1 t.2 .nil):=(flat_inj F _ [] [] k1 hk (k2.trans hlen.symm) (by rw [← k3,← hfl])).1
    have e:printF 0 0 F = txN t:=by rw [this,← headW_print,bare_text];rfl
    exact ⟨by rw [e],hb,by rw [← e];exact hsl⟩
def SliZ (w:World) (v:Value) (l:List (List UInt8)):Prop:=∃ (a:Option Addr) (cap:Nat),v = .slice a l.length cap∧l.length≤cap∧cap≤9223372036854775807∧(0 < l.length→∃ b off,a = some ⟨b,off,none⟩∧b < w.heap.size∧∀ i,i < l.length→w.cell? ⟨b,off + i,none⟩ = some (strV (l.getD i [])))
theorem SliZ.past {w w':World} {v:Value} {l:List (List UInt8)} (h:SliZ w v l) (hb:Below w.heap.size w w'):SliZ w' v l:=by
  obtain ⟨a,cap,e,h1,h2,h3⟩:=h
  refine ⟨a,cap,e,h1,h2,fun hl => ?_⟩
  obtain ⟨b,off,e2,g1,g2⟩:=h3 hl
  exact ⟨b,off,e2,Nat.lt_of_lt_of_le g1 hb.size,fun i hi => (hb.cell (p:=⟨b,_,none⟩) g1).trans (g2 i hi)⟩
theorem sliZ_own {w:World} {B:Nat} {e:TypeId} {v:Value} {l:List (List UInt8)} (h:w.ownsRow B e 1 v l.length (cellsZ l)):SliZ w v l:=by
  obtain ⟨h1,h2 | ⟨g,cap,cur,rfl,h3,h4,h5,h6,h7,h8⟩⟩:=h
  · obtain ⟨rfl,h2⟩:=h2
    have:l = []:=List.eq_nil_of_length_eq_zero h2
    subst this
    exact ⟨none,0,rfl,Nat.le_refl _,by omega,fun h => by simp at h⟩
  · refine ⟨some ⟨g,0,none⟩,cap,rfl,h5,by unfold maxLen at h6;omega,fun _ => ⟨g,0,rfl,lt_of_block h4,fun i hi => ?_⟩⟩
    have e:w.cell? ⟨g,0 + i,none⟩ = cur[i]? := by simp [World.cell?,h4]
    have hx:(cellsZ l)[i]? = some (strV (l.getD i [])):=by
      unfold cellsZ
      rw [List.getElem?_map,List.getD_eq_getElem?_getD,List.getElem?_eq_getElem hi];rfl
    rw [e,← Array.getElem?_toList]
    rw [← h8,List.getElem?_take,if_pos (by omega)] at hx
    exact hx
def TxtPost (w:World) (t:Tm) (e:Ending) (w':World):Prop:=∃ v,e = .returned v∧SliZ w' v ((toL t.2).map txN)∧Below w.heap.size w w'∧(∀ k,v.ownBlock = some k→w.heap.size≤k)∧∀ u ∈ toL t.2,(txN u).length≤1000000000
set_option maxHeartbeats 4000000 in
set_option maxRecDepth 100000 in
theorem texts_c (S:Nat→Prop) (p:Nat) (t:Tm) (w:World) (deep ink:Nat) (hT:TermB S w p t) (hf:FitT t deep ink) (hs:sizT t≤64) (hTab:Tab w) :
    Calls Tryz.prog 95 #[.pointer (some ⟨p,0,none⟩)] w (TxtPost w t):=by
  obtain ⟨z,v,hb,hv⟩:=hT
  obtain ⟨av,cap,rfl,hc1,hc2⟩:=hv.shape
  have hlen:=fitT_len hf
  have pz:=hb.lt
  have HV:=hidE hv.old;have HF:=hidE hf;have HTAB:=hidE hTab
  obtain ⟨ix,hix,hz0,hzz,hz4⟩:=info_parts Tryz.infoStrN
  have HI:=hidE hix;have HZ0:=hidE hz0;have HZ1:=hidE hzz;have HZ2:=hidE hz4
  have c6:=hb.cell 6
  simp at c6
  clear hix hz0 hzz hz4 hb hv hf hTab
  go_enter Tryz.func95,Tryz.ntmps95
  go_wp2
  go_loopg [3,14] t.2.len (fun gh v3 v14 wr => ∃ (A C:List Tm),v14 = .int .i64 A.length∧A ++ C = toL t.2∧C.length≤gh∧wr.ownsRow w.heap.size 9 1 v3 A.length (cellsZ (A.map txN))∧Below w.heap.size w wr∧∀ u ∈ A,(txN u).length≤1000000000)
  case atStart => exact ⟨[],toL t.2,rfl,rfl,by rw [toL_len];exact Nat.le_refl _,own_nil _ _ _,Below.refl _ _,fun u h => by cases h⟩
  case round =>
    obtain ⟨A,C,rfl,hAC,hgh,hown,hbl,hsl⟩:=hrel
    have HSL:=hidE hsl
    clear hsl
    have HAC:=hidE hAC;have HGH:=hidE hgh;have HOW:=hidE hown;have HBL:=hidE hbl
    have hAn:A.length + C.length = t.2.len:=by rw [← toL_len,← hAC,List.length_append]
    obtain ⟨a3,c3,rfl⟩:=own_sli hown
    have e6:=(hbl.cell (p:=⟨p,6,none⟩) pz).trans c6
    have ez:=Nat.lt_of_lt_of_le pz hbl.size
    clear hgh hown hbl
    cases C with
    | nil =>
      have q1:decide ((A.length:Int) < (t.2.len:Int)) = false:=decide_eq_false (by simp at hAn;omega)
      have q2:¬ A.length < t.2.len:=by simp at hAn;omega
      have hA:A = toL t.2:=by simpa using hAC
      have hfin:SliZ wr (.slice a3 A.length c3) ((toL t.2).map txN):=by
        have h:=HOW.out
        have:=sliZ_own (l:=A.map txN) (by rw [List.length_map];exact h)
        rw [← hA];exact this
      have HFI:=hidE hfin
      have hsa:=HSL.out
      rw [hA] at hsa
      have HSA:=hidE hsa
      clear hAC hA hfin hsa
      go_wp2
      go_ret
      exact ⟨_,rfl,HFI.out,HBL.out,fun k e => own_block HOW.out e,HSA.out⟩
    | cons u C =>
      have q1:decide ((A.length:Int) < (t.2.len:Int)) = true:=decide_eq_true (by simp at hAn;omega)
      have q2:A.length < t.2.len:=by simp at hAn;omega
      obtain ⟨b,off,cap',z',vk,e,_,hbz,hSb,hk,d0,d1,d2,d3,d4,d5,d6⟩:=(HV.out.sam (Sam.old HBL.out)).get (i:=A.length) q2
      cases e
      rw [getD_toL hAC] at d0 d1 d2 d3 d5 hk
      obtain ⟨ak,ck,rfl,hk1,hk2⟩:=hk.shape
      have hu:u ∈ toL t.2:=by rw [← hAC];simp
      have hsu:=siz_kid hu
      have HK:=hidE hk
      have HFU:=hidE (fitT_kid HF.out hu)
      have hws:=HBL.out.size
      have hAl:A.length≤16:=by omega
      have HPR:=hidE (fun (a:Option Addr) (cap:Nat) (n:Nat) (hn:n = (flT u).length) (w':World) (hA:ArgP w' a (flT u)) (hT:Tab w') => (by subst hn;exact print_c 0 0 (by omega) (by omega) (flT u) (fitT_flat HFU.out) a cap w' (by rw [flT_len];omega) hA hT:Calls Tryz.prog 106 #[defV 0 0 a n cap] w' (PrintPost w' 0 0 (flT u))))
      clear hk hAC hu
      go_wp2_with fail
      obtain ⟨w1,hw1⟩:∃ w1,w1 = (wr.alloc (.cells (tcA u.1 z' (.slice ak u.2.len ck)) 62)).alloc (.cells #[.slice none 0 0,.slice none 0 0] 55):=⟨_,rfl⟩
      rw [← hw1]
      have hb1:Below wr.heap.size wr w1:=by rw [hw1];(repeat (first | exact Below.refl _ _ | assumption | refine balloc ?_ _ | refine below_drewN ?_ _ | refine bstep (by assumption) ?_ | refine bstep (Past.prop _) ?_ | refine Below.setCell ?_ (by first | exact Nat.le_refl _ | (simp;done) | (simp;omega)) _))
      have hsz1:w1.heap.size = wr.heap.size + 1 + 1:=by rw [hw1];simp
      have hls:ListAt (wr.heap.size + 1 + 1) (wr.heap.size + 1) w1 [] []:=⟨_,_,by rw [hw1];exact Blk.made_at _ _ _ _ (by simp),own_nil _ _ _,own_nil _ _ _⟩
      have hK1:SliF (Old S w) w1 (.slice ak u.2.len ck) u.2:=HK.out.sam (Sam.past hb1)
      have hSn:∀ k,Old S w k→k < wr.heap.size + 1 + 1∧k ≠ wr.heap.size + 1:=fun k q => by have:=q.2;omega
      clear hw1 d0 d1 d2 d3 d4 d5 d6 e6 ez
      ((with_reducible refine (add_c (Old S w) (wr.heap.size + 1 + 1) (wr.heap.size + 1) (Nat.lt_succ_self _) hSn (sizT u) u z' _ [] [] w1 (Nat.le_refl _) (Nat.le_of_eq hsz1.symm) hls hK1 (by simp only [List.length_nil];omega) rfl).mono ?_);rintro e w2 ⟨rfl,hl2,hbar2⟩)
      have hb2:Below wr.heap.size wr w2:=hb1.trans ((hbar2.below (Nat.le_succ _)).mono (Nat.le_succ _))
      obtain ⟨vp,vf,hl3,hp3,_⟩:=hl2
      obtain ⟨ap,cp,rfl⟩:=own_sli hp3
      have hp4:=sliP_own hp3
      simp only [List.nil_append] at hp4 hl3
      obtain ⟨_,_,e,hp5,hp6,hA2⟩:=hp4
      cases e
      have g0:=hl3.cell 0;have gz:=hl3.lt
      simp at g0
      have HA2:=hidE hA2;have HB2:=hidE hb2
      have hfl:(flT u).length = sizT u:=flT_len u
      rw [hfl] at g0 hp5
      have HFL:=hidE hfl
      clear hl3 hp3 hA2 hb2 hbar2 hb1 hls hK1 hsz1 hfl
      go_wp2_with fail
      ((with_reducible refine (HPR.out _ _ _ HFL.out.symm _ HA2.out (HTAB.out.past (HBL.out.trans (HB2.out.mono hws)))).mono ?_);intro e w3 hpp)
      obtain ⟨rfl,hb3,hl3⟩:=print_txN HFU.out rfl hpp
      have HL3:=hidE hl3
      clear hl3
      have HB3:=hidE (HB2.out.trans (hb3.mono HB2.out.size))
      clear hpp hb3 g0 gz HA2 HPR
      go_wp2_with (at_builtin;go_loud (refine list_appV rfl (.tmp 27) (.tmp 29) 160 rfl w.heap.size 9 ix _ 1 16 Tryz.underlying160 HI.out HZ0.out HZ1.out HZ2.out rfl (by decide) (.slice a3 A.length c3) A.length (cellsZ (A.map txN)) rfl (own_below (own_below HOW.out HB3.out) (by (repeat (first | exact Below.refl _ _ | assumption | refine balloc ?_ _ | refine below_drewN ?_ _ | refine bstep (by assumption) ?_ | refine bstep (Past.prop _) ?_ | refine Below.setCell ?_ (by first | exact Nat.le_refl _ | (simp;done) | (simp;omega)) _)))) _ 1 [strV (txN u)] rfl (srcV_new (Blk.made_at _ _ _ _ (by first | rfl | (simp;done))) rfl (by intro y hy;simp at hy;subst hy;rfl)) (by omega) (by omega) (by have:=HB3.out.size;simp;omega) ?_);intro v' w' own' hg';obtain ⟨av',cp',rfl⟩:=own_sli own')
      go_roundg C.length
      case measure => have:=HGH.out;simp only [List.length_cons] at this;omega
      case rel =>
        refine ⟨A ++ [u],C,by simp,by rw [← HAC.out];simp,Nat.le_refl _, ?_, ?_,fun y hy => by
          rcases List.mem_append.1 hy with hy | hy
          · exact HSL.out y hy
          · obtain rfl:=List.mem_singleton.1 hy;exact HL3.out⟩
        · rw [List.length_append,List.map_append,cellsZ,List.map_append];exact own'
        · have hb4:=HBL.out.trans (HB3.out.mono hws)
          exact Below.grown (hb4.trans ((show Below w3.heap.size w3 _ from by (repeat (first | exact Below.refl _ _ | assumption | refine balloc ?_ _ | refine below_drewN ?_ _ | refine bstep (by assumption) ?_ | refine bstep (Past.prop _) ?_ | refine Below.setCell ?_ (by first | exact Nat.le_refl _ | (simp;done) | (simp;omega)) _))).mono hb4.size)) hg' (by have:=hb4.size;simp;omega) (fun j hj => own_block HOW.out hj)
end
section
open Go.ChangeShapes Go.WideShapes Go.ChangeAt Go.RowKit
attribute [local irreducible] Go.Calls
theorem less_ltB:∀ a b:List UInt8,Op.bytesLess a b = ltB a b
  | [],[] => rfl
  | _ :: _,[] => rfl
  | [],_ :: _ => rfl
  | a :: r, b :: s => by
    rw [Op.bytesLess,ltB,less_ltB r s]
    congr 1
set_option maxRecDepth 100000 in
theorem isNaNs_c (a:List UInt8) (w:World):Calls Tryz.prog 119 #[strV a] w fun e w' => e = .returned (.bool false)∧w' = w:=by
  go_enter Tryz.func119,Tryz.ntmps119
  go_wp2
  go_ret
  exact ⟨by simp,rfl⟩
set_option maxRecDepth 100000 in
theorem lessS_c (a b:List UInt8) (w:World):Calls Tryz.prog 107 #[strV a,strV b] w fun e w' => e = .returned (.bool (ltB a b))∧w' = w:=by
  go_enter Tryz.func107,Tryz.ntmps107
  go_wp2_with (go_at_call 119;refine (isNaNs_c _ _).mono ?_;rintro e w' ⟨rfl,rfl⟩)
  go_ret
  exact ⟨by simp [less_ltB],rfl⟩
def cmpB (a b:List UInt8):Int:=Lib.compareBytes a b
theorem cmpB_ltB:∀ a b:List UInt8,(cmpB a b < 0 ↔ ltB a b = true)∧(cmpB a b = 0 ↔ a = b)
  | [],[] => by simp [cmpB,Lib.compareBytes,ltB]
  | _ :: _,[] => by simp [cmpB,Lib.compareBytes,ltB]
  | [],_ :: _ => by simp [cmpB,Lib.compareBytes,ltB]
  | a :: r, b :: s => by
    have ih:=cmpB_ltB r s
    unfold cmpB at ih ⊢
    rw [Lib.compareBytes,ltB]
    by_cases h1:a < b
    · rw [if_pos h1]
      have:a ≠ b:=fun e => by subst e;exact absurd h1 (by simp)
      exact ⟨by simp [h1],by simp [this]⟩
    · by_cases h2:b < a
      · have:a ≠ b:=fun e => by subst e;exact absurd h2 (by simp)
        rw [if_neg h1,if_pos h2]
        exact ⟨by simp [h1,this],by simp [this]⟩
      · have e:a = b:=UInt8.toNat_inj.1 (by rw [UInt8.lt_iff_toNat_lt] at h1 h2;omega)
        subst e
        rw [if_neg h1,if_neg h2]
        exact ⟨by simp [ih.1],by simp [ih.2]⟩
set_option maxRecDepth 100000 in
theorem compareS_c (a b:List UInt8) (w:World):Calls Tryz.prog 98 #[strV a,strV b] w fun e w' => e = .returned (.int .i64 (cmpB a b))∧w' = w:=by
  have hC:∀ (w:World),Calls Tryz.prog 108 #[strV a,strV b] w fun e w' => e = .returned (.int .i64 (cmpB a b))∧w' = w:=fun w => by
    go_enter Tryz.func108,Tryz.ntmps108
    go_wp2
    rw [run_callFunc_extern Tryz.func120 (by kernel_rfl) (by kernel_rfl) (by kernel_rfl) (e:=Extern.BytealgCompare.compare) (by kernel_rfl),Lib.run_compareString]
    simp only [Result.andThen]
    rw [Oper.upon_value]
    go_wp2
    go_ret
    exact ⟨rfl,rfl⟩
  go_enter Tryz.func98,Tryz.ntmps98
  go_wp2_with (go_at_call 108;refine (hC _).mono ?_;rintro e w' ⟨rfl,rfl⟩)
  go_ret
  exact ⟨rfl,rfl⟩
def SortedZ (l:List (List UInt8)):Prop:=∀ i,0 < i→i < l.length→ltB (l.getD i []) (l.getD (i - 1) []) = false
def SrtAns (w:World) (l:List (List UInt8)) (e:Ending) (w':World):Prop:=∃ r:Bool,e = .returned (.bool r)∧(r = true ↔ SortedZ l)∧Below w.heap.size w w'
set_option maxHeartbeats 4000000 in
set_option maxRecDepth 100000 in
theorem isSorted_c (l:List (List UInt8)) (v:Value) (w:World) (hl:l.length≤100000) (h:SliZ w v l) :
    Calls Tryz.prog 96 #[v] w (SrtAns w l):=by
  obtain ⟨a,cap,rfl,h1,h2,h3⟩:=h
  have HC:=hidE h3
  clear h3
  go_enter Tryz.func96,Tryz.ntmps96
  go_wp2
  go_loopg [3] l.length (fun gh v3 wr => ∃ i:Int,v3 = .int .i64 i ∧ -1≤i∧i < l.length∧i.toNat≤gh∧(∀ j:Nat,i < (j:Int)→0 < j→j < l.length→ltB (l.getD j []) (l.getD (j - 1) []) = false)∧Below w.heap.size w wr)
  case atStart => exact ⟨(l.length:Int) - 1,rfl,by omega,by omega,by omega,fun j a b c => by omega,Below.refl _ _⟩
  case round =>
    obtain ⟨i,rfl,hi1,hi2,hgh,hall,hbl⟩:=hrel
    have HALL:=hidE hall;have HBL:=hidE hbl;have HGH:=hidE hgh
    clear hall hbl hgh
    by_cases hp:0 < i
    · obtain ⟨k,rfl⟩:∃ k:Nat,i = (k:Int) + 1:=⟨(i - 1).toNat,by omega⟩
      obtain ⟨b,off,rfl,hb,hc⟩:=HC.out (by omega)
      have zb:=Nat.lt_of_lt_of_le hb HBL.out.size
      have c1:=(HBL.out.cell (p:=⟨b,off + (k + 1),none⟩) hb).trans (hc (k + 1) (by omega))
      have c0:=(HBL.out.cell (p:=⟨b,off + k,none⟩) hb).trans (hc k (by omega))
      generalize hx:l.getD (k + 1) [] = x at *
      generalize hy:l.getD k [] = y at *
      have HX:=hidE hx;have HY:=hidE hy
      have q0:(k:Int) + 1 < l.length:=hi2
      have q1:k + 1 < l.length:=by omega
      clear hc hx hy
      go_wp2
      refine wp_region_past_lit (by kernel_rfl) (by kernel_rfl) ?_
      have hcp:=Past.cell (W:=wr)
      repeat (go_big_quiet_step ((go_at_call 107;exact Past.same _ (lessS_c _ _ _))))
      refine wpQuiet_nil ?_
      rintro _ ⟨x',rfl⟩
      have HB2:=hidE (HBL.out.trans (x'.2.mono HBL.out.size))
      clear hcp c0 c1
      generalize x'.1 = w2 at *
      cases hlt:ltB x y with
      | true =>
        have hf:¬ SortedZ l:=fun h => by
          have:=h (k + 1) (by omega) q1
          rw [Nat.add_sub_cancel,HX.out,HY.out,hlt] at this;cases this
        have HF:=hidE hf
        clear hf
        go_wp2
        go_ret
        exact ⟨false,rfl,by simp only [Bool.false_eq_true,false_iff];exact HF.out,HB2.out⟩
      | false =>
        have HLT:=hidE hlt
        go_wp2
        go_roundg k
        case measure => have:=HGH.out;omega
        case rel =>
          refine ⟨(k:Int),by go_num,by omega,by omega,by omega,fun j h1 h2 h3 => ?_,HB2.out⟩
          by_cases c:j = k + 1
          · subst c;rw [Nat.add_sub_cancel,HX.out,HY.out];exact HLT.out
          · exact HALL.out j (by omega) h2 h3
    · have q1:decide (0 < i) = false:=decide_eq_false hp
      go_wp2
      go_ret
      exact ⟨true,rfl,by simp only [true_iff];exact fun j h1 h2 => HALL.out j (by omega) h1 h2,HBL.out⟩
end
section
open Go.ChangeShapes Go.WideShapes Go.ChangeAt Go.RowKit
attribute [local irreducible] Go.Calls
def cmpIN (a b:Int):Int:=if a < b then -1 else if b < a then 1 else 0
theorem cmpI_negN {a b:Int}:decide (cmpIN a b < 0) = decide (a < b):=by unfold cmpIN;split <;> simp_all;split <;> simp_all
def CmpsN (w0:World) (blk n:Nat) (recv:Value) (K:Nat→Int):Prop :=
  ∀ w,Below blk w0 w→∀ x y:Nat,x < n→y < n→Calls Tryz.prog 97 #[.int .i64 x,.int .i64 y,recv] w fun e w' => e = .returned (.int .i64 (cmpIN (K x) (K y)))∧Below w.heap.size w w'
def OkdN (n:Nat) (d:Nat→Nat):Prop:=∀ k,k < n→d k < n
theorem OkdN.mv {n a b:Nat} {d d':Nat→Nat} (h:OkdN n d) (hm:Mv a b d d') (hb:b≤n):OkdN n d':=fun k hk => by
  by_cases c:a≤k∧k < b
  · obtain ⟨k',h1,h2,e⟩:=hm.inn k c.1 c.2
    rw [e];exact h _ (by omega)
  · rw [hm.out k (by omega)];exact h _ hk
def SrtX (w0:World) (blk n:Nat) (t:TypeId) (K:Nat→Int) (a b:Nat) (d:Nat→Nat) (e:Ending) (w':World):Prop :=
  e = .returned (.tuple #[])∧∃ d',RowX w0 blk n t d' w'∧Mv a b d d'∧Inv K n d'∧Srt K a b d'
theorem cmp_tN {K:Nat→Int} {x y:Nat} (h:K x < K y):decide (cmpIN (K x) (K y) < 0) = true:=by rw [cmpI_negN];exact decide_eq_true h
theorem cmp_fN {K:Nat→Int} {x y:Nat} (h:¬ K x < K y):decide (cmpIN (K x) (K y) < 0) = false:=by rw [cmpI_negN];exact decide_eq_false h
set_option maxRecDepth 100000 in
set_option maxHeartbeats 4000000 in
theorem insertion_cN (w0 w:World) (blk n cap a b:Nat) (t:TypeId) (K:Nat→Int) (recv:Value) (d:Nat→Nat) (h:RowX w0 blk n t d w) (hC:CmpsN w0 blk n recv K) (hI:Inv K n d) (hO:OkdN n d) (hab:a≤b) (hb:b≤n) (hn:n≤4611686018427387904) :
    Calls Tryz.prog 111 #[.slice (some ⟨blk,0,none⟩) n cap,.int .i64 a,.int .i64 b,.func (.func 97) #[] #[recv]] w (SrtX w0 blk n t K a b d):=by
  have H:=hidE h;have HC:=hidE hC;have HI:=hidE hI;have HO:=hidE hO
  clear h hC hI hO
  go_enter Tryz.func111,Tryz.ntmps111
  go_wp2
  go_loopg [8] (b - a) (fun g1 vi wr => ∃ (i:Nat) (dk:Nat→Nat),vi = .int .i64 i∧a < i∧b - i≤g1∧(i≤b ∨ i = a + 1)∧RowX w0 blk n t dk wr∧Mv a b d dk∧Inv K n dk∧Srt K a i dk)
  case atStart => exact ⟨a + 1,d,by go_num,by omega,by omega,by omega,H.out,Mv.refl _ _ _,HI.out,srt_one _ _ _ (by omega)⟩
  case round =>
    obtain ⟨i,dk,rfl,hai,hg1,hib,hr,hm,hi,hs⟩:=hrel
    have HR:=hidE hr;have HM:=hidE hm;have HJ:=hidE hi;have HS:=hidE hs
    clear hr hm hi hs
    by_cases hlt:i < b
    · have hltz:(i:Int) < (b:Int):=by omega
      obtain ⟨wo,rfl⟩:∃ wo:World,wo = wr:=⟨_,rfl⟩
      go_wp2
      go_loopg [9] i (fun g2 vj wr2 => ∃ (j:Nat) (dj:Nat→Nat),vj = .int .i64 j∧a≤j∧j≤i∧j≤g2∧RowX w0 blk n t dj wr2∧Mv a b d dj∧Inv K n dj∧InsR K a i j dj)
      case atStart => exact ⟨i,dk,rfl,by omega,Nat.le_refl _,Nat.le_refl _,HR.out,HM.out,HJ.out,InsR.start HS.out⟩
      case round =>
        clear HR HM HJ HS
        obtain ⟨j,dj,rfl,haj,hji,hg2,hr,hm,hi,hs⟩:=hrel
        have HR:=hidE hr;have HM:=hidE hm;have HJ:=hidE hi;have HS:=hidE hs
        have hok:=HO.out.mv hm hb
        clear hr hm hi hs
        by_cases hja:a < j
        · obtain ⟨jp,rfl⟩:∃ q,j = q + 1:=⟨j - 1,by omega⟩
          have hjd:decide ((a:Int) < (jp:Int) + 1) = true:=decide_eq_true (by omega)
          have c1:=HR.out.cell (i:=jp + 1) (by omega)
          have c2:=HR.out.cell (i:=jp) (by omega)
          have z:=HR.out.lt
          have k1:=hok (jp + 1) (by omega)
          have k2:=hok jp (by omega)
          have HCM:=hidE (fun w hw => HC.out w hw (dj (jp + 1)) (dj jp) k1 k2)
          clear hok
          by_cases hkey:K (dj (jp + 1)) < K (dj jp)
          · have hd:=cmp_tN hkey
            have HX:=hidE (⟨(HJ.out.swap' jp (by omega) hkey),(HM.out.trans (Mv.swap dj (jp + 1) jp (by omega) (by omega))),(HS.out.step (by omega) (by omega) hkey)⟩:Inv K n (sw dj (jp + 1) jp)∧Mv a b d (sw dj (jp + 1) jp)∧InsR K a i jp (sw dj (jp + 1) jp))
            clear hkey HM HJ HS
            have HE:=hidE (fun (w:World) (h:RowX w0 blk n t dj w) => (h.swap (jp + 1) jp).drew)
            have HF:=hidE (fun (w:World) (h:RowX w0 blk n t dj w) => h.c2 (jp + 1) jp (by omega) (dj jp))
            generalize hx:dj (jp + 1) = x at *
            generalize hy:dj jp = y at *
            go_wp2_with fail
            refine wp_region_past_lit (by kernel_rfl) (by kernel_rfl) ?_
            have hc:=Past.cell (W:=wr)
            repeat (go_big_quiet_step ((go_at_call 97;exact Past.call _ (HCM.out _ (HR.out.low.trans ((Past.prop _).mono (Nat.le_of_lt z)))))))
            refine wpQuiet_nil ?_
            rintro _ ⟨x',rfl⟩
            have hr2:=HR.out.past x'.2
            clear c1 c2 hc
            generalize x'.1 = w2 at hr2 ⊢
            have g1:=hr2.cell (i:=jp + 1) (by omega)
            have g2:=hr2.cell (i:=jp) (by omega)
            have g3:=HF.out _ hr2
            have f1:=hr2.free (jp + 1)
            have f2:=hr2.free jp
            have hE:=HE.out _ hr2
            rw [if_neg (by omega)] at g3
            rw [hx] at g1
            rw [hy] at g2
            have HE2:=hidE hE;have Hx:=hidE hx;have Hy:=hidE hy
            clear hE hr2 hx hy
            go_wp2_with fail
            go_region
            go_wp2
            go_roundg jp
            case measure => omega
            case rel => exact ⟨jp,_,by go_num,by omega,by omega,Nat.le_refl _,HE2.out,HX.out.2.1,HX.out.1,HX.out.2.2⟩
          · have hd:=cmp_fN hkey
            have HX:=hidE (HS.out.done HJ.out (by omega) haj hji (.inr hkey))
            clear hkey
            generalize hx:dj (jp + 1) = x at *
            generalize hy:dj jp = y at *
            have Hx:=hidE hx;have Hy:=hidE hy
            clear hx hy
            go_wp2_with fail
            refine wp_region_past_lit (by kernel_rfl) (by kernel_rfl) ?_
            have hc:=Past.cell (W:=wr)
            repeat (go_big_quiet_step ((go_at_call 97;exact Past.call _ (HCM.out _ (HR.out.low.trans ((Past.prop _).mono (Nat.le_of_lt z)))))))
            refine wpQuiet_nil ?_
            rintro _ ⟨x',rfl⟩
            have hr2:=HR.out.past x'.2
            clear c1 c2 hc
            generalize x'.1 = w2 at hr2 ⊢
            have HR2:=hidE hr2;clear hr2
            go_wp2
            go_roundg (b - (i + 1))
            case measure => omega
            case rel => exact ⟨i + 1,_,by go_num,by omega,by omega,by omega,HR2.out,HM.out,HJ.out,HX.out⟩
        · have hja':j = a:=by omega
          subst hja'
          have HX:=hidE (HS.out.done HJ.out (by omega) haj hji (.inl rfl))
          have hd:¬ (j:Int) < (j:Int):=by omega
          go_wp2_with fail
          refine wp_region_past_lit (by kernel_rfl) (by kernel_rfl) ?_
          repeat (go_big_quiet_step (fail))
          refine wpQuiet_nil ?_
          rintro _ ⟨x',rfl⟩
          have hr2:=HR.out.past x'.2
          generalize x'.1 = w2 at hr2 ⊢
          have HR2:=hidE hr2;clear hr2
          go_wp2
          go_roundg (b - (i + 1))
          case measure => omega
          case rel => exact ⟨i + 1,_,by go_num,by omega,by omega,by omega,HR2.out,HM.out,HJ.out,HX.out⟩
    · go_wp2
      go_end0
      exact ⟨rfl,dk,HR.out,HM.out,HJ.out,HS.out.mono (Nat.le_refl _) (by omega)⟩
set_option maxRecDepth 100000 in
theorem insertion_eqN {w0 w:World} {blk n cap a b:Nat} {x y:Int} {t:TypeId} {K:Nat→Int} {recv:Value} {d:Nat→Nat} (h:RowX w0 blk n t d w) (hC:CmpsN w0 blk n recv K) (hI:Inv K n d) (hO:OkdN n d) (hx:x = a) (hy:y = b) (hab:a≤b) (hb:b≤n) (hn:n≤4611686018427387904) :
    Calls Tryz.prog 111 #[.slice (some ⟨blk,0,none⟩) n cap,.int .i64 x,.int .i64 y,.func (.func 97) #[] #[recv]] w (SrtX w0 blk n t K a b d):=by
  subst hx hy;exact insertion_cN w0 w blk n cap a b t K recv d h hC hI hO hab hb hn
set_option maxRecDepth 100000 in
set_option maxHeartbeats 8000000 in
theorem stable_cN (w0 w:World) (blk n cap:Nat) (t:TypeId) (K:Nat→Int) (recv:Value) (d:Nat→Nat) (h:RowX w0 blk n t d w) (hC:CmpsN w0 blk n recv K) (hI:Inv K n d) (hO:OkdN n d) (hn:n < 20) :
    Calls Tryz.prog 102 #[.slice (some ⟨blk,0,none⟩) n cap,.int .i64 n,.func (.func 97) #[] #[recv]] w (SrtX w0 blk n t K 0 n d):=by
  have H:=hidE h;have HC:=hidE hC;have HI:=hidE hI;have HO:=hidE hO
  clear h hC hI hO
  go_enter Tryz.func102,Tryz.ntmps102
  go_wp2
  go_loopg [7,8] 0 (fun g1 va vb wr => va = .int .i64 0∧vb = .int .i64 20∧wr = w)
  case atStart => exact ⟨rfl,rfl,rfl⟩
  case round =>
    obtain ⟨rfl,rfl,rfl⟩:=hrel
    have hltz:¬ (20:Int)≤(n:Int):=by omega
    go_wp2_with (go_at_call 111;((with_reducible refine (insertion_eqN (a:=0) (b:=n) H.out HC.out HI.out HO.out Int.natCast_zero.symm rfl (by omega) (by omega) (by omega)).mono ?_);rintro e w1 ⟨rfl,d1,hr1,hm1,hi1,hs1⟩))
    have R1:=hidE hr1;have M1:=hidE hm1;have I1:=hidE hi1;have S1:=hidE hs1
    clear hr1 hm1 hi1 hs1
    go_loopg [6] 0 (fun g2 vs wr2 => vs = .int .i64 20∧wr2 = w1)
    case atStart => exact ⟨rfl,rfl⟩
    case round =>
      obtain ⟨rfl,rfl⟩:=hrel
      have hltz:¬ (20:Int) < (n:Int):=by omega
      go_wp2
      go_end0
      exact ⟨rfl,d1,R1.out,M1.out,I1.out,S1.out⟩
set_option maxRecDepth 100000 in
theorem sortStable_cN (w0 w:World) (blk n cap:Nat) (t:TypeId) (K:Nat→Int) (recv:Value) (d:Nat→Nat) (h:RowX w0 blk n t d w) (hC:CmpsN w0 blk n recv K) (hI:Inv K n d) (hO:OkdN n d) (hn:n < 20) :
    Calls Tryz.prog 78 #[.slice (some ⟨blk,0,none⟩) n cap,.func (.func 97) #[] #[recv]] w (SrtX w0 blk n t K 0 n d):=by
  have HK:=hidE (stable_cN w0 w blk n cap t K recv d h hC hI hO hn)
  clear h hC hI hO
  go_enter Tryz.func78,Tryz.ntmps78
  go_wp2_with (go_at_call 102;((with_reducible refine (HK.out).mono ?_);rintro e w1 ⟨rfl,hx⟩))
  go_end0
  exact ⟨rfl,hx⟩
end
section
open Go.ChangeShapes Go.WideShapes Go.ChangeAt Go.RowKit
attribute [local irreducible] Go.Calls
set_option maxHeartbeats 2000000 in
set_option maxRecDepth 100000 in
theorem scmp_c (l:List (List UInt8)) (v:Value) (q x y:Nat) (w:World) (h:SliZ w v l) (hl:l.length≤100000) (hq:w.cell? ⟨q,0,none⟩ = some v) (hqz:q < w.heap.size) (hx:x < l.length) (hy:y < l.length) :
    Calls Tryz.prog 97 #[.int .i64 x,.int .i64 y,.pointer (some ⟨q,0,none⟩)] w fun e w' => e = .returned (.int .i64 (cmpB (l.getD x []) (l.getD y [])))∧Below w.heap.size w w':=by
  obtain ⟨a,cap,rfl,h1,h2,h3⟩:=h
  obtain ⟨b,off,rfl,hb,hc⟩:=h3 (by omega)
  have c1:=hc x hx;have c2:=hc y hy
  generalize l.getD x [] = s at *
  generalize l.getD y [] = s' at *
  have hxz:(x:Int) < l.length:=by omega
  have hyz:(y:Int) < l.length:=by omega
  clear hc h3
  go_enter Tryz.func97,Tryz.ntmps97
  go_wp2
  refine wp_region_past_lit (by kernel_rfl) (by kernel_rfl) ?_
  have hcp:=Past.cell (W:=w)
  repeat (go_big_quiet_step ((go_at_call 98;exact Past.same _ (compareS_c _ _ _))))
  refine wpQuiet_nil ?_
  rintro _ ⟨x',rfl⟩
  have hb2:=x'.2
  generalize x'.1 = w2 at *
  go_wp2
  go_ret
  exact ⟨rfl,hb2⟩
def keyK (L:List Tm) (i:Nat):Int:=rk (L.map txN) (txN (L.getD i tm0))
theorem getD_txN {L:List Tm} {i:Nat} (h:i < L.length):(L.map txN).getD i [] = txN (L.getD i tm0)∧txN (L.getD i tm0) ∈ L.map txN:=by
  have e:(L.map txN).getD i [] = txN (L.getD i tm0):=by
    rw [List.getD_eq_getElem?_getD,List.getD_eq_getElem?_getD,List.getElem?_map,List.getElem?_eq_getElem h];rfl
  refine ⟨e,List.mem_map.2 ⟨L.getD i tm0, ?_,rfl⟩⟩
  rw [List.getD_eq_getElem?_getD,List.getElem?_eq_getElem h];exact List.getElem_mem h
theorem txN_lt (u v:Tm):ltB (txN u) (txN v) = ltB (txT u) (txT v):=ltB_pre _ _ _
theorem txN_eq {u v:Tm}:txN u = txN v ↔ txT u = txT v:=⟨fun h => List.append_cancel_left h,fun h => by unfold txN;rw [h]⟩
theorem keyK_iff {L:List Tm} {i j:Nat} (hi:i < L.length) (hj:j < L.length):(keyK L i < keyK L j ↔ ltB (txT (L.getD i tm0)) (txT (L.getD j tm0)) = true)∧(keyK L i = keyK L j ↔ txT (L.getD i tm0) = txT (L.getD j tm0)):=by
  obtain ⟨a,b⟩:=rk_iff (getD_txN hi).2 (getD_txN hj).2
  unfold keyK
  exact ⟨by rw [← txN_lt,← a];omega,by rw [← txN_eq,← b];omega⟩
theorem keyK_cmp {L:List Tm} {i j:Nat} (hi:i < L.length) (hj:j < L.length):cmpB ((L.map txN).getD i []) ((L.map txN).getD j []) = cmpIN (keyK L i) (keyK L j):=by
  obtain ⟨a,b⟩:=keyK_iff hi hj
  rw [(getD_txN hi).1,(getD_txN hj).1]
  obtain ⟨c,d⟩:=cmpB_ltB (txN (L.getD i tm0)) (txN (L.getD j tm0))
  obtain ⟨c',d'⟩:=cmpB_ltB (txN (L.getD j tm0)) (txN (L.getD i tm0))
  have a':=(keyK_iff hj hi).1
  rw [txN_lt,← a] at c
  rw [txN_eq,← b] at d
  have hr:cmpB (txN (L.getD i tm0)) (txN (L.getD j tm0)) = -1 ∨ cmpB (txN (L.getD i tm0)) (txN (L.getD j tm0)) = 0 ∨ cmpB (txN (L.getD i tm0)) (txN (L.getD j tm0)) = 1:=by
    generalize txN (L.getD i tm0) = s
    generalize txN (L.getD j tm0) = s'
    unfold cmpB
    induction s generalizing s' with
    | nil => cases s' <;> simp [Lib.compareBytes]
    | cons a s ih =>
      cases s' with
      | nil => simp [Lib.compareBytes]
      | cons b s' =>
        rw [Lib.compareBytes]
        split
        · simp
        · split
          · simp
          · exact ih s'
  unfold cmpIN
  by_cases h1:keyK L i < keyK L j
  · rw [if_pos h1];have:=c.2 h1;omega
  · rw [if_neg h1]
    by_cases h2:keyK L j < keyK L i
    · rw [if_pos h2]
      have n1:¬ cmpB (txN (L.getD i tm0)) (txN (L.getD j tm0)) < 0:=fun q => h1 (c.1 q)
      have n2:¬ cmpB (txN (L.getD i tm0)) (txN (L.getD j tm0)) = 0:=fun q => by have:=d.1 q;omega
      omega
    · rw [if_neg h2]
      exact d.2 (by omega)
theorem sort_srt {t:Tm} {r:Bool} (h:r = true ↔ SortedZ ((toL t.2).map txN)):r = srtB (toL t.2):=by
  have h2:=srt_iff (toL t.2)
  have h3:SortedZ ((toL t.2).map txN) ↔ ∀ i,0 < i→i < (toL t.2).length→ltB (txT ((toL t.2).getD i tm0)) (txT ((toL t.2).getD (i - 1) tm0)) = false:=by
    unfold SortedZ
    rw [List.length_map]
    constructor
    · intro h i a b
      have:=h i a b
      rw [(getD_txN b).1,(getD_txN (show i - 1 < (toL t.2).length by omega)).1,txN_lt] at this;exact this
    · intro h i a b
      rw [(getD_txN b).1,(getD_txN (show i - 1 < (toL t.2).length by omega)).1,txN_lt];exact h i a b
  rw [h3,h2] at h
  cases r <;> cases hs:srtB (toL t.2) <;> simp_all
theorem rowX_own {w:World} {B n:Nat} {e:TypeId} {v:Value} (h:w.ownsRow B e 1 v n (cellsK .i64 (natsI (List.range n)))) (hn:0 < n):∃ g cap,v = .slice (some ⟨g,0,none⟩) n cap∧B≤g∧RowX w g n e id w:=by
  obtain ⟨_,h2 | ⟨g,cap,cur,rfl,h3,h4,h5,h6,h7,h8⟩⟩:=h
  · omega
  · refine ⟨g,cap,rfl,h3,⟨(cur.toList.drop n).toArray, ?_⟩,Below.refl _ _⟩
    have e1:rowC n id = (cellsK .i64 (natsI (List.range n))).toArray:=by
      unfold rowC cellsK natsI
      rw [List.map_map];rfl
    unfold Blk
    rw [h4,e1,← h8,Nat.mul_one]
    congr 2
    apply Array.toList_inj.1
    simp
end
section
open Go.ChangeShapes Go.WideShapes Go.ChangeAt Go.RowKit
attribute [local irreducible] Go.Calls
set_option maxHeartbeats 8000000 in
set_option maxRecDepth 100000 in
theorem sort_c (S:Nat→Prop) (p:Nat) (t:Tm) (w:World) (deep ink:Nat) (hS:¬ S p) (hS2:∀ k,w.heap.size≤k→S k) (hT:TermB S w p t) (hf:FitT t deep ink) (hs:sizT t≤64) (hTab:Tab w) :
    Calls Tryz.prog 73 #[.pointer (some ⟨p,0,none⟩)] w (RuleTo S p (sortR t) t w):=by
  have HTX:=hidE (texts_c S p t w deep ink hT hf hs hTab)
  have hkk:=badP_kids hf.1
  have hlen:=fitT_len hf
  obtain ⟨z,v,hb,hv⟩:=hT
  obtain ⟨av,cap,rfl,hc1,hc2⟩:=hv.shape
  obtain ⟨kd,hkd⟩:∃ kd,t.1.kind = kd:=⟨_,rfl⟩
  obtain ⟨n,hn⟩:∃ n,t.2.len = n:=⟨_,rfl⟩
  have pz:=hb.lt
  have hn16:n≤16:=by omega
  have HB:=hidE hb;have HV:=hidE hv.old;have HKD:=hidE hkd;have HN:=hidE hn
  have c0:=hb.cell 0
  simp at c0
  rw [hkd] at c0
  by_cases h34:kd = 3 ∨ kd = 4
  · have k1:((kd:Int) != 3) = true∧((kd:Int) != 4) = false ∨ ((kd:Int) != 3) = false:=by
      rcases h34 with e | e
      · subst e;right;rfl
      · subst e;left;exact ⟨rfl,rfl⟩
    have H34:=hidE h34
    clear hv hb hf hTab hkd hn hkk
    go_enter Tryz.func73,Tryz.ntmps73
    go_upto_region 1 with fail
    go_cut [22] (fun v22 wx => v22 = .bool false∧wx = w)
    case first =>
      rcases k1 with ⟨k1,k2⟩ | k1
      all_goals
        go_wp2
        go_meet
        case rel => exact ⟨rfl,rfl⟩
    case rest =>
      obtain ⟨rfl,rfl⟩:=hcut
      clear k1 h34
      go_wp2_with fail
      ((with_reducible refine HTX.out.mono ?_);rintro e w1 ⟨vt,rfl,hz1,hb1,_,_⟩)
      have hll:((toL t.2).map txN).length = n:=by rw [List.length_map,toL_len];exact HN.out
      obtain ⟨l,hl⟩:∃ l,l = (toL t.2).map txN:=⟨_,rfl⟩
      rw [← hl] at hz1 hll
      have HL:=hidE hl
      obtain ⟨at1,ct1,rfl,ht1,ht2,_⟩:=id hz1
      rw [hll] at hz1 ht1 ⊢
      have hq1:=hb1.size
      go_wp2_with fail
      obtain ⟨w2,hw2⟩:∃ w2,w2 = w1.alloc (.cells #[.slice at1 n ct1] 160):=⟨_,rfl⟩
      rw [← hw2]
      have hQ:Below wc.heap.size wc w2:=by rw [hw2];(repeat (first | exact Below.refl _ _ | assumption | refine balloc ?_ _ | refine below_drewN ?_ _ | refine bstep (by assumption) ?_ | refine bstep (Past.prop _) ?_ | refine Below.setCell ?_ (by first | exact Nat.le_refl _ | (simp;done) | (simp;omega)) _))
      have hQ1:Blk w2 w1.heap.size #[.slice at1 n ct1] 160:=by rw [hw2];exact Blk.made _ _ _
      have hZ1:SliZ w2 (.slice at1 n ct1) l:=hz1.past (by rw [hw2];(repeat (first | exact Below.refl _ _ | assumption | refine balloc ?_ _ | refine below_drewN ?_ _ | refine bstep (by assumption) ?_ | refine bstep (Past.prop _) ?_ | refine Below.setCell ?_ (by first | exact Nat.le_refl _ | (simp;done) | (simp;omega)) _)))
      have hsz2:w2.heap.size = w1.heap.size + 1:=by rw [hw2];simp
      have HQ:=hidE hQ;have HQ1:=hidE hQ1;have HZ1:=hidE hZ1
      clear hw2 hQ hQ1 hZ1 hz1 hb1 hl
      have HIS:=hidE (isSorted_c l (.slice at1 n ct1) w2 (by omega) HZ1.out)
      ((with_reducible refine HIS.out.mono ?_);rintro e w3 ⟨r,rfl,hr,hb3⟩)
      have hrs:r = srtB (toL t.2):=sort_srt (by rw [← HL.out];exact hr)
      have HQ3:=hidE (HQ.out.trans (hb3.mono HQ.out.size));have HZ3:=hidE (HZ1.out.past hb3);have HQ4:=hidE (HQ1.out.past hb3)
      have h3:=hb3.size
      cases r with
      | true =>
        have hR:sortR t = none:=by unfold sortR;rw [if_neg (by rw [← hrs];exact fun q => by cases q.2)]
        have HR:=hidE hR
        clear hr hrs hR HQ HZ1 HQ1 HIS hb3
        go_wp2
        go_ret
        rw [RuleTo,HR.out]
        exact ⟨rfl,TermB.past ⟨z,_,HB.out,HV.out.mono fun k a _ => a.1⟩ HQ3.out,grown_any HQ3.out⟩
      | false =>
        have hR:sortR t = some (t.1,ofL (sortG (toL t.2))):=by unfold sortR;rw [if_pos ⟨by rw [HKD.out];exact H34.out,hrs.symm⟩]
        have HR:=hidE hR
        have hn0:0 < n:=by
          rcases Nat.eq_zero_or_pos n with e | e
          · exfalso
            have:toL t.2 = []:=List.eq_nil_of_length_eq_zero (by rw [toL_len,HN.out];exact e)
            rw [this] at hrs;simp [srtB,sortG] at hrs
          · exact e
        have e0:=HQ4.out.cell 0;have ez:=HQ4.out.lt
        simp at e0
        clear hr hrs hR HQ HZ1 HQ1 HIS hb3
        obtain ⟨ix,hix,hz0,hzz,hz4⟩:=info_parts Tryz.infoIntN
        have HI:=hidE hix;have HZ0:=hidE hz0;have HY1:=hidE hzz;have HY2:=hidE hz4
        clear hix hz0 hzz hz4
        go_wp2
        go_loopg [4,29] n (fun gh v4 v29 wr => ∃ k:Nat,k≤n∧n - k≤gh∧v29 = .int .i64 k∧wr.ownsRow w3.heap.size 3 1 v4 k (cellsK .i64 (natsI (List.range k)))∧Below w3.heap.size w3 wr)
        case atStart => exact ⟨0,Nat.zero_le _,Nat.le_refl _,rfl,own_nil _ _ _,Below.refl _ _⟩
        case round =>
          obtain ⟨k,hkn,hgh,rfl,hown,hbl⟩:=hrel
          have HOW:=hidE hown;have HBL:=hidE hbl;have HGH:=hidE hgh
          have hws:=hbl.size
          obtain ⟨a4,c4,rfl⟩:=own_sli hown
          clear hown hbl hgh e0 ez
          by_cases hk:k < n
          · have q1:decide ((k:Int) < (n:Int)) = true:=decide_eq_true (by omega)
            have q2:decide (k < n) = true:=decide_eq_true hk
            go_wp2_with (at_builtin;go_loud (refine list_appV rfl (.tmp 32) (.tmp 34) 27 rfl w3.heap.size 3 ix _ 1 8 Tryz.underlying27 HI.out HZ0.out HY1.out HY2.out rfl (by decide) (.slice a4 k c4) k (cellsK .i64 (natsI (List.range k))) rfl (own_below HOW.out (by (repeat (first | exact Below.refl _ _ | assumption | refine balloc ?_ _ | refine below_drewN ?_ _ | refine bstep (by assumption) ?_ | refine bstep (Past.prop _) ?_ | refine Below.setCell ?_ (by first | exact Nat.le_refl _ | (simp;done) | (simp;omega)) _)))) _ 1 [.int .i64 k] rfl (srcV_new (Blk.made_at _ _ _ _ (by first | rfl | (simp;done))) rfl (by intro y hy;simp at hy;subst hy;rfl)) (by omega) (by omega) (by simp;omega) ?_);intro v' w' own' hg';obtain ⟨av',cp',rfl⟩:=own_sli own')
            go_roundg (n - (k + 1))
            case measure => have:=HGH.out;omega
            case rel =>
              refine ⟨k + 1,hk,Nat.le_refl _,by go_num, ?_,Below.grown (HBL.out.trans ((show Below wr.heap.size wr _ from by (repeat (first | exact Below.refl _ _ | assumption | refine balloc ?_ _ | refine below_drewN ?_ _ | refine bstep (by assumption) ?_ | refine bstep (Past.prop _) ?_ | refine Below.setCell ?_ (by first | exact Nat.le_refl _ | (simp;done) | (simp;omega)) _))).mono hws)) hg' (by simp;omega) (fun j hj => own_block HOW.out hj)⟩
              rw [List.range_succ,natsI_app,cellsK_app];exact own'
          · have hkn':k = n:=by omega
            subst hkn'
            have q1:decide ((k:Int) < (k:Int)) = false:=decide_eq_false (by omega)
            have q2:decide (k < k) = false:=decide_eq_false (by omega)
            obtain ⟨g,cg,hv4,hgB,hrow⟩:=rowX_own HOW.out hn0
            cases hv4
            have HROW:=hidE hrow
            have HCM:=hidE (show CmpsN wr g k (.pointer (some ⟨w1.heap.size,0,none⟩)) (keyK (toL t.2)) from fun w' hb' x y hx hy => by
              have h6:Below w3.heap.size w3 w':=HBL.out.trans (hb'.mono hgB)
              have hq6:=(HQ4.out.past h6).cell 0
              have hln:(toL t.2).length = k:=by rw [toL_len];exact HN.out
              have:=scmp_c l (.slice at1 k ct1) w1.heap.size x y w' (HZ3.out.past h6) (by omega) (by simpa using hq6) (HQ4.out.past h6).lt (by omega) (by omega)
              rw [HL.out,keyK_cmp (by omega) (by omega)] at this
              exact this)
            have HSS:=hidE (sortStable_cN wr wr g k c4 3 (keyK (toL t.2)) (.pointer (some ⟨w1.heap.size,0,none⟩)) id HROW.out HCM.out (fun a b h _ => .inr h) (fun a h => h) (by omega))
            clear hrow HOW
            go_wp2_with fail
            ((with_reducible refine HSS.out.mono ?_);rintro e w5 ⟨rfl,d,hrow5,hmv,_,hsr⟩)
            have hb5:Below w3.heap.size w3 w5:=HBL.out.trans (hrow5.low.mono hgB)
            have hbw:Below wc.heap.size wc w5:=HQ3.out.trans (hb5.mono HQ3.out.size)
            have hfin:=sort_is (L:=toL t.2) (n:=k) (by rw [toL_len];exact HN.out) hmv (fun i j hi hj => keyK_iff (by rw [toL_len,HN.out];exact hi) (by rw [toL_len,HN.out];exact hj)) hsr
            have hok:=(show OkdN k id from fun a h => h).mv hmv (Nat.le_refl _)
            have HR5:=hidE hrow5;have HBW:=hidE hbw;have HFIN:=hidE hfin;have HOKD:=hidE hok
            have hw5:=hbw.size
            clear hrow5 hmv hsr hb5 hbw hfin hok HSS HCM HROW HBL
            obtain ⟨iy,hiy,hz0,hzz,hz4⟩:=info_parts Tryz.infoTermN
            have JI:=hidE hiy;have JZ0:=hidE hz0;have JY1:=hidE hzz;have JY2:=hidE hz4
            clear hiy hz0 hzz hz4
            go_wp2
            go_loopg [6,42] k (fun gh v6 v42 wr2 => ∃ m:Nat,m≤k∧k - m≤gh∧v42 = .int .i64 m∧OwnN w5.heap.size (Old S wc) wr2 v6 ((List.range m).map fun j => (toL t.2).getD (d j) tm0)∧Below w5.heap.size w5 wr2)
            case atStart => exact ⟨0,Nat.zero_le _,Nat.le_refl _,rfl,ownN_nil _ _ _,Below.refl _ _⟩
            case round =>
              obtain ⟨m,hmk,hgh,rfl,hown,hbl⟩:=hrel
              have HBL:=hidE hbl;have HGH:=hidE hgh
              have hws:=hbl.size
              obtain ⟨xs,ho,hrx⟩:=hown
              rw [List.length_map,List.length_range] at ho
              obtain ⟨a6,c6,rfl⟩:=own_sli ho
              have HOW:=hidE ho;have HRX:=hidE hrx
              have hbw2:=HBW.out.trans (hbl.mono hw5)
              have HBW2:=hidE hbw2
              have b6:=(HB.out.past hbw2).cell 6
              have bz:=(HB.out.past hbw2).lt
              simp at b6
              rw [HN.out] at b6
              clear hbl hgh ho hrx hbw2
              by_cases hk:m < k
              · have q1:decide ((m:Int) < (k:Int)) = true:=decide_eq_true (by omega)
                have q2:decide (m < k) = true:=decide_eq_true hk
                have r0:=(HR5.out.past HBL.out).cell (i:=m) hk
                have rz:=(HR5.out.past HBL.out).lt
                have hdm:=HOKD.out m hk
                obtain ⟨b,off,cap',z',vk,e,_,hbz,hSb,hkv,d0,d1,d2,d3,d4,d5,d6⟩:=(HV.out.sam (Sam.old (HBW2.out))).get (i:=d m) (by rw [HN.out];exact hdm)
                cases e
                obtain ⟨u,hu⟩:∃ u,(toL t.2).getD (d m) tm0 = u:=⟨_,rfl⟩
                rw [hu] at d0 d1 d2 d3 d5 hkv
                obtain ⟨ak,ck,rfl,hk1,hk2⟩:=hkv.shape
                have HK:=hidE hkv;have HU:=hidE hu
                have hdz:(d m:Int) < (k:Int):=by omega
                obtain ⟨dm,hdme⟩:∃ dm,d m = dm:=⟨_,rfl⟩
                rw [hdme] at r0 hdm hdz d0 d1 d2 d3 d4 d5 d6
                clear hkv hu hdme
                go_wp2_with (at_builtin;go_loud (refine list_appV rfl (.tmp 46) (.tmp 54) 60 rfl w5.heap.size 62 iy _ 7 64 Tryz.underlying60 JI.out JZ0.out JY1.out JY2.out rfl (by decide) (.slice a6 m c6) m xs rfl (own_below HOW.out (by (repeat (first | exact Below.refl _ _ | assumption | refine balloc ?_ _ | refine below_drewN ?_ _ | refine bstep (by assumption) ?_ | refine bstep (Past.prop _) ?_ | refine Below.setCell ?_ (by first | exact Nat.le_refl _ | (simp;done) | (simp;omega)) _)))) _ 1 (tcV u.1 z' _) rfl (srcV_new (Blk.made_at _ _ _ _ (by first | rfl | (simp;done))) rfl (by intro y hy;simp at hy;rcases hy with rfl | rfl | rfl | rfl | rfl | rfl | rfl <;> rfl)) (by omega) (by omega) (by simp;omega) ?_);intro v' w' own' hg';obtain ⟨av',cp',rfl⟩:=own_sli own')
                go_roundg (k - (m + 1))
                case measure => have:=HGH.out;omega
                case rel =>
                  have hbl3:=(show Below w5.heap.size wr w' from Below.grown ((show Below wr.heap.size wr _ from by (repeat (first | exact Below.refl _ _ | assumption | refine balloc ?_ _ | refine below_drewN ?_ _ | refine bstep (by assumption) ?_ | refine bstep (Past.prop _) ?_ | refine Below.setCell ?_ (by first | exact Nat.le_refl _ | (simp;done) | (simp;omega)) _))).mono hws) hg' (by simp;omega) (fun j hj => own_block HOW.out hj))
                  have hsm:Sam (Old S wc) wr w':=Sam.old (hbl3.mono hw5)
                  refine ⟨m + 1,hk,Nat.le_refl _,by go_num,⟨xs ++ tcV u.1 z' (.slice ak u.2.len ck), ?_, ?_⟩,HBL.out.trans hbl3⟩
                  · rw [List.length_map,List.length_range];exact own'
                  · rw [List.range_succ,List.map_append]
                    refine CelF.app ?_ (HRX.out.sam hsm)
                    rw [List.map_cons,List.map_nil,HU.out]
                    exact (celF_one HK.out).sam hsm
              · have hkm:m = k:=by omega
                subst hkm
                have q1:decide ((m:Int) < (m:Int)) = false:=decide_eq_false (by omega)
                have q2:decide (m < m) = false:=decide_eq_false (by omega)
                have pf:=(HB.out.past HBW2.out).free 6
                go_wp2
                go_ret
                refine ⟨by rw [HR.out];rfl, ?_,grown_trans (grown_any HBW2.out) (grown_set _ _ _ _)⟩
                rw [HR.out]
                have hs:=(HB.out.past HBW2.out).set 6 (.slice a6 m c6)
                simp only [tcA,List.setIfInBounds_toArray,List.set_cons_zero,List.set_cons_succ] at hs
                have hown:OwnN w5.heap.size (Old S wc) wr (.slice a6 m c6) (sortG (toL t.2)):=by
                  rw [← HFIN.out]
                  exact ⟨xs,by rw [List.length_map,List.length_range];exact HOW.out,HRX.out⟩
                exact ⟨z,_,hs,(hown.sli (fun k hk => hS2 k (by omega)) (fun k q => q.1)).off hS (grown_set _ _ _ _)⟩
  · have k1:((kd:Int) != 3) = true:=by simp;omega
    have k2:((kd:Int) != 4) = true:=by simp;omega
    have hR:sortR t = none:=by unfold sortR;rw [if_neg (by rw [HKD.out];exact fun q => h34 q.1)]
    have HR:=hidE hR
    clear hv hb hf hTab hkd hn hkk HTX hR
    go_enter Tryz.func73,Tryz.ntmps73
    go_wp2
    go_ret
    rw [RuleTo,HR.out]
    exact ⟨rfl,⟨z,_,HB.out,HV.out.mono fun k a _ => a.1⟩,grown_refl _ _⟩
end
section
open Go.ChangeShapes Go.WideShapes Go.ChangeAt Go.RowKit Go.Maps
attribute [local irreducible] Go.Calls
theorem Tryz.keyS:Keyed Tryz.prog 9:=string_keyed Tryz.underlying9
theorem Tryz.zeroI (w:World):(zeroValue 3).run Tryz.prog w = .ok (.int .i64 0) w:=by kernel_rfl
theorem key_strV {l:List UInt8} (h:l.length≤1000000000):keyOf Tryz.prog 9 (strV l) = some (.string l):=by
  have:=WideMaps.keyOf_string_mk (P:=Tryz.prog) (k:=9) Tryz.underlying9 (s:=⟨l.toArray⟩) (by unfold maxLen;simp [ByteArray.size];omega)
  simpa using this
def CntM (D:DataW Unit) (l:List (List UInt8)):Prop:=IsMap D∧∀ s,D.atKey (.string s) (.lit (.int .i64 0)) = .lit (.int .i64 (l.count s:Nat))
theorem cntM_nil:CntM (.map []) []:=⟨isMap_empty,fun _s => rfl⟩
theorem CntM.put {D:DataW Unit} {l:List (List UInt8)} (h:CntM D l) (s:List UInt8) {c:Int} (hc:D.atKey (.string s) (.lit (.int .i64 0)) = .lit (.int .i64 c)) (hl:l.length≤1000):CntM (D.put (.string s) (.lit (.int .i64 (wrap64 (c + 1))))) (l ++ [s])∧c = (l.count s:Nat):=by
  have e:=h.2 s
  rw [hc] at e
  have e2:c = (l.count s:Nat):=by simpa using e
  have hle:=List.count_le_length (a:=s) (l:=l)
  refine ⟨⟨h.1.put _ _,fun s' => ?_⟩,e2⟩
  by_cases hs:s' = s
  · subst hs
    rw [atKey_put_same h.1 (by trivial),e2]
    congr 2
    rw [List.count_append,List.count_singleton_self]
    unfold wrap64;omega
  · rw [atKey_put_other (by simpa using hs),h.2 s']
    congr 3
    rw [List.count_append,List.count_eq_zero_of_not_mem (l:=[s]) (by simpa using hs),Nat.add_zero]
theorem SliZ.bar {w w':World} {v:Value} {l:List (List UInt8)} {B g:Nat} (h:SliZ w v l) (hb:Bar B g w w') (hB:w.heap.size≤B) (hg:∀ k,v.ownBlock = some k→k ≠ g):SliZ w' v l:=by
  obtain ⟨a,cap,rfl,h1,h2,h3⟩:=h
  refine ⟨a,cap,rfl,h1,h2,fun hl => ?_⟩
  obtain ⟨b,off,rfl,g1,g2⟩:=h3 hl
  exact ⟨b,off,rfl,Nat.lt_of_lt_of_le g1 hb.size,fun i hi => (World.cell?_of_block (w:=w) (a:=⟨b,_,none⟩) (hb.block b (by omega) (hg b rfl))).trans (g2 i hi)⟩
theorem getD_map_txN {A C:List Tm} {u:Tm} {l:List Tm} (h:A ++ u :: C = l):(l.map txN).getD A.length [] = txN u:=by
  rw [← h,List.getD_eq_getElem?_getD,List.getElem?_map,List.getElem?_append_right (Nat.le_refl _),Nat.sub_self];rfl
theorem count_txN (A:List Tm) (u:Tm):((A.map txN).count (txN u) = 0) ↔ txT u ∉ A.map txT:=by
  rw [List.count_eq_zero]
  constructor
  · intro h c
    obtain ⟨v,hv,e⟩:=List.mem_map.1 c
    exact h (List.mem_map.2 ⟨v,hv,by unfold txN;rw [e]⟩)
  · intro h c
    obtain ⟨v,hv,e⟩:=List.mem_map.1 c
    exact h (List.mem_map.2 ⟨v,hv,List.append_cancel_left e⟩)
theorem cnt_once {dm:DataW Unit} {A:List Tm} {u:Tm} {sn:List (List UInt8)} {c c2:Int} (hC:CntM dm (A.map txN)) (hA:A.length≤16) (hat:dm.atKey (.string (txN u)) (.lit (.int .i64 0)) = .lit (.int .i64 c))
    (hat2:(dm.put (.string (txN u)) (.lit (.int .i64 (wrap64 (c + 1))))).atKey (.string (txN u)) (.lit (.int .i64 0)) = .lit (.int .i64 c2)) (hsn:∀ x,x ∈ sn ↔ x ∈ A.map txT) :
    CntM (dm.put (.string (txN u)) (.lit (.int .i64 (wrap64 (c + 1))))) ((A ++ [u]).map txN)∧(c2 == 1) = !sn.contains (txT u):=by
  obtain ⟨h1,h2⟩:=hC.put (txN u) hat (by rw [List.length_map];omega)
  have e:=h1.2 (txN u)
  rw [hat2] at e
  have e2:c2 = (((A.map txN) ++ [txN u]).count (txN u):Nat):=by simpa using e
  rw [List.count_append,List.count_singleton_self] at e2
  refine ⟨by rw [List.map_append];exact h1, ?_⟩
  have hc:=count_txN A u
  rw [← hsn] at hc
  cases hcon:sn.contains (txT u) with
  | true =>
    have hm:txT u ∈ sn:=by simpa using hcon
    have:(A.map txN).count (txN u) ≠ 0:=fun q => hc.1 q hm
    simp;omega
  | false =>
    have hm:txT u ∉ sn:=by simpa using hcon
    have:=hc.2 hm
    simp;omega
theorem once_fin {t:Tm} (hk:t.1.kind = 3) {D:List Tm} (hD:D = onceG [] (toL t.2)) {b:Bool} (hb:b = decide (D.length < t.2.len)):(onceR t).isSome = b∧(onceR t).getD t = (t.1,ofL D):=by
  subst hD hb
  unfold onceR
  rw [toL_len]
  by_cases h:(onceG [] (toL t.2)).length < t.2.len
  · rw [if_pos ⟨hk,h⟩,decide_eq_true h];exact ⟨rfl,rfl⟩
  · rw [if_neg (fun q => h q.2),decide_eq_false h]
    refine ⟨rfl, ?_⟩
    have hs:=onceG_sub (toL t.2) []
    have e:=hs.eq_of_length (by have:=hs.length_le;rw [toL_len] at this ⊢;omega)
    rw [e,of_to];rfl
set_option maxHeartbeats 8000000 in
set_option maxRecDepth 100000 in
theorem unique_c (S:Nat→Prop) (p:Nat) (t:Tm) (w:World) (deep ink:Nat) (hS:¬ S p) (hS2:∀ k,w.heap.size≤k→S k) (hT:TermB S w p t) (hf:FitT t deep ink) (hs:sizT t≤64) (hTab:Tab w) :
    Calls Tryz.prog 72 #[.pointer (some ⟨p,0,none⟩)] w (RuleTo S p (onceR t) t w):=by
  have hmm:=@run_makeMap Tryz.prog
  have hlen:=fitT_len hf
  have HTX:=hidE (fun (w':World) (hb:Below w.heap.size w w') => texts_c S p t w' deep ink (hT.past hb) hf hs (hTab.past hb))
  obtain ⟨z,v,hb,hv⟩:=hT
  obtain ⟨av,cap,rfl,hc1,hc2⟩:=hv.shape
  obtain ⟨kd,hkd⟩:∃ kd,t.1.kind = kd:=⟨_,rfl⟩
  obtain ⟨n,hn⟩:∃ n,t.2.len = n:=⟨_,rfl⟩
  have pz:=hb.lt
  have hn16:n≤16:=by omega
  have HB:=hidE hb;have HV:=hidE hv.old;have HKD:=hidE hkd;have HN:=hidE hn
  have c0:=hb.cell 0
  simp at c0
  rw [hkd] at c0
  by_cases h3:kd = 3
  · subst h3
    have k1:((3:Int) != 3) = false:=rfl
    clear hv hb hf hTab hkd hn
    obtain ⟨ix,hix,hz0,hzz,hz4⟩:=info_parts Tryz.infoTermN
    have HI:=hidE hix;have HZ0:=hidE hz0;have HY1:=hidE hzz;have HY2:=hidE hz4
    clear hix hz0 hzz hz4
    go_enter Tryz.func72,Tryz.ntmps72
    go_wp2_with fail
    obtain ⟨w1,hw1⟩:∃ w1,w1 = w.alloc (.map #[] 0):=⟨_,rfl⟩
    rw [← hw1]
    have hm1:w1.ownsMap Tryz.prog 9 (plainElem (H:=Unit) Tryz.prog 3) w.heap.size 0 (.map []):=by rw [hw1];exact World.ownsMap_made _ _ _ _
    have hb1:Below w.heap.size w w1:=by rw [hw1];(repeat (first | exact Below.refl _ _ | assumption | refine balloc ?_ _ | refine below_drewN ?_ _ | refine bstep (by assumption) ?_ | refine bstep (Past.prop _) ?_ | refine Below.setCell ?_ (by first | exact Nat.le_refl _ | (simp;done) | (simp;omega)) _))
    have hz1:w1.heap.size = w.heap.size + 1:=by rw [hw1];simp
    clear hw1
    ((with_reducible refine (HTX.out _ hb1).mono ?_);rintro e w2 ⟨vt,rfl,hz2,hb2,hfr,hsl⟩)
    obtain ⟨L,hL⟩:∃ L,L = toL t.2:=⟨_,rfl⟩
    rw [← hL] at hz2 hsl
    have hLn:L.length = n:=by rw [hL,toL_len];exact HN.out
    obtain ⟨at1,ct1,rfl,ht1,ht2,_⟩:=id hz2
    rw [List.length_map,hLn] at hz2 ht1 hfr ⊢
    have hm2:=hm1.kept (grown_any (r:=none) hb2) (by simp)
    have HM2:=hidE hm2;have HZ2:=hidE hz2;have HSL:=hidE hsl;have HL:=hidE hL
    have HBW:=hidE (hb1.trans (hb2.mono hb1.size))
    have hws:=hb2.size
    have HFR:=hidE (fun k e => show k ≠ w.heap.size from by have:=hfr k e;omega)
    clear hm1 hb1 hb2 hm2 hz2 hsl hL hfr HTX
    go_wp2
    go_loopg [4,18] n (fun gh v4 v18 wr => ∃ (A C D:List Tm) (sn:List (List UInt8)) (dm:DataW Unit),v18 = .int .i64 A.length∧A ++ C = L∧C.length≤gh∧OwnN w2.heap.size (Old S w) wr v4 D∧D.length≤A.length∧D ++ onceG sn C = onceG [] L∧(∀ x,x ∈ sn ↔ x ∈ A.map txT) ∧
      wr.ownsMap Tryz.prog 9 (plainElem Tryz.prog 3) w.heap.size (2 * A.length) dm∧CntM dm (A.map txN)∧Bar w2.heap.size w.heap.size w2 wr)
    case atStart => exact ⟨[],L,[],[],.map [],rfl,rfl,by omega,ownN_nil _ _ _,Nat.le_refl _,rfl,fun x => by simp,HM2.out,cntM_nil,Bar.refl _ _ _⟩
    case round =>
      obtain ⟨A,C,D,sn,dm,rfl,hAC,hgh,hown,hDA,hD,hsn,hmap,hcnt,hbar⟩:=hrel
      have HAC:=hidE hAC;have HGH:=hidE hgh;have HD:=hidE hD;have HSN:=hidE hsn;have HM:=hidE hmap;have HC:=hidE hcnt;have HBAR:=hidE hbar
      have hAn:A.length + C.length = n:=by rw [← hLn,← hAC,List.length_append]
      have hwr:=hbar.size
      have hbw:=HBW.out.trans (hbar.below (by omega))
      have HBW2:=hidE hbw
      obtain ⟨xs,ho,hrx⟩:=hown
      obtain ⟨a4,c4,rfl⟩:=own_sli ho
      have HOW:=hidE ho;have HRX:=hidE hrx
      have b6:=(HB.out.past hbw).cell 6;have bz:=(HB.out.past hbw).lt
      simp at b6
      rw [HN.out] at b6
      clear hgh hD hsn hmap hcnt hbar hbw ho hrx
      cases C with
      | nil =>
        have q1:decide ((A.length:Int) < (n:Int)) = false:=decide_eq_false (by simp at hAn;omega)
        have q2:¬ A.length < n:=by simp at hAn;omega
        have hDD:D = onceG [] (toL t.2):=by have:=HD.out;rw [← HL.out];simpa [onceG] using this
        obtain ⟨bb,hbb⟩:∃ bb,bb = decide (D.length < n):=⟨_,rfl⟩
        have HF:=hidE (once_fin HKD.out hDD (b:=bb) (by rw [hbb,HN.out]))
        have pf:=(HB.out.past HBW2.out).free 6
        have hbb2:decide ((D.length:Int) < (n:Int)) = bb:=by rw [hbb];simp
        have HBB:=hidE hbb
        clear hDD hbb
        go_wp2
        go_ret
        refine ⟨by rw [HF.out.1,HBB.out];rfl, ?_,grown_trans (grown_any HBW2.out) (grown_set _ _ _ _)⟩
        rw [HF.out.2]
        have hs:=(HB.out.past HBW2.out).set 6 (.slice a4 D.length c4)
        simp only [tcA,List.setIfInBounds_toArray,List.set_cons_zero,List.set_cons_succ] at hs
        have hown:OwnN w2.heap.size (Old S w) wr (.slice a4 D.length c4) D:=⟨xs,HOW.out,HRX.out⟩
        exact ⟨z,_,hs,(hown.sli (fun k hk => hS2 k (by omega)) (fun k q => q.1)).off hS (grown_set _ _ _ _)⟩
      | cons u C =>
        have q1:decide ((A.length:Int) < (n:Int)) = true:=decide_eq_true (by simp at hAn;omega)
        have q2:A.length < n:=by simp at hAn;omega
        have hzr:=HZ2.out.bar HBAR.out (Nat.le_refl _) HFR.out
        obtain ⟨a9,c9,e, -, -,hzc⟩:=hzr
        simp only [Value.slice.injEq] at e
        obtain ⟨e, -, -⟩:=e
        subst e
        rw [List.length_map,hLn] at hzc
        obtain ⟨b,off,rfl,hbz,hbc⟩:=hzc (by omega)
        have t0:=hbc A.length q2
        rw [getD_map_txN hAC] at t0
        have hu:u ∈ L:=by rw [← hAC];simp
        have hkey:=key_strV (HSL.out u hu)
        obtain ⟨bk,ok,capk,z',vk,ek,_,hbkz,hSb,hkv,d0,d1,d2,d3,d4,d5,d6⟩:=(HV.out.sam (Sam.old HBW2.out)).get (i:=A.length) (by rw [HN.out];exact q2)
        cases ek
        rw [getD_toL (hAC.trans HL.out)] at d0 d1 d2 d3 d5 hkv
        obtain ⟨ak,ck,rfl,hk1,hk2⟩:=hkv.shape
        have HK:=hidE hkv;have HKEY:=hidE hkey
        obtain ⟨s,hse⟩:∃ s,s = txN u:=⟨_,rfl⟩
        rw [← hse] at t0
        have HSE:=hidE hse
        clear hkv hAC hu hkey hse hzc hbc
        have HNE:=hidE (show p ≠ w.heap.size∧bk ≠ w.heap.size from ⟨by omega,by have:=hSb.2;omega⟩)
        have hd16:D.length≤16:=by omega
        have HOB:=hidE (fun j (hj:(Value.slice a4 D.length c4).ownBlock = some j) => own_block HOW.out hj)
        cases hcon:sn.contains (txT u)
        all_goals
          have HCON:=hidE hcon
          clear hcon
          go_wp2_with (first
            | (at_lookup;refine wpList_lookup_own_int _ rfl _ _ 159 rfl 9 3 .i64 Tryz.keyS Tryz.underlying159 Tryz.underlying3 (Tryz.zeroI _) w.heap.size (2 * A.length) dm rfl HM.out _ _ rfl (by rw [HSE.out];exact HKEY.out) ?_;intro c hat hwc;have HAT:=hidE hat;clear hat)
            | (at_lookup;refine wpList_lookup_own_int _ rfl _ _ 159 rfl 9 3 .i64 Tryz.keyS Tryz.underlying159 Tryz.underlying3 (Tryz.zeroI _) w.heap.size (2 * A.length + 1) _ rfl HM5.out _ _ rfl (by rw [HSE.out];exact HKEY.out) ?_;intro c2 hat2 hwc2;have HCO:=hidE (cnt_once HC.out (by omega) HAT.out hat2 HSN.out);have hcc:=HCO.out.2;rw [HCON.out] at hcc;simp only [Bool.not_true,Bool.not_false] at hcc;clear hat2)
            | (at_mapUpdate; refine wpList_mapUpdate_own _ rfl _ _ _ 159 rfl 9 3 Tryz.keyS Tryz.underlying159 _ w.heap.size (2 * A.length) dm rfl HM.out (by unfold maxLen; omega) _ _ _ rfl rfl (by rw [HSE.out]; exact HKEY.out) _ [] (plainElem_int Tryz.underlying3 (wrap64_wf _)) ?_; intro w5 hown5 hgrow5; have HM5 := hidE hown5; have HG5 := hidE hgrow5
               have e6:=hgrow5.cell b6 (by have:=HNE.out.1;simpa using this)
               have x0:=hgrow5.cell d0 (by have:=HNE.out.2;simpa using this);have x1:=hgrow5.cell d1 (by have:=HNE.out.2;simpa using this);have x2:=hgrow5.cell d2 (by have:=HNE.out.2;simpa using this);have x3:=hgrow5.cell d3 (by have:=HNE.out.2;simpa using this);have x4:=hgrow5.cell d4 (by have:=HNE.out.2;simpa using this);have x5:=hgrow5.cell d5 (by have:=HNE.out.2;simpa using this);have x6:=hgrow5.cell d6 (by have:=HNE.out.2;simpa using this)
               have ez:=Nat.lt_of_lt_of_le bz hgrow5.size;have xz:=Nat.lt_of_lt_of_le hbkz hgrow5.size
               clear hown5 hgrow5)
            | (at_builtin;go_loud (refine list_appV rfl (.tmp 31) (.tmp 39) 60 rfl w2.heap.size 62 ix _ 7 64 Tryz.underlying60 HI.out HZ0.out HY1.out HY2.out rfl (by decide) (.slice a4 D.length c4) D.length xs rfl (own_below (own_grown HOW.out HG5.out (by omega)) (by (repeat (first | exact Below.refl _ _ | assumption | refine balloc ?_ _ | refine below_drewN ?_ _ | refine bstep (by assumption) ?_ | refine bstep (Past.prop _) ?_ | refine Below.setCell ?_ (by first | exact Nat.le_refl _ | (simp;done) | (simp;omega)) _)))) _ 1 (tcV u.1 z' _) rfl (srcV_new (Blk.made_at _ _ _ _ (by first | rfl | (simp;done))) rfl (by intro y hy;simp at hy;rcases hy with rfl | rfl | rfl | rfl | rfl | rfl | rfl <;> rfl)) (by omega) (by omega) (by have:=HG5.out.size;simp;omega) ?_);intro v' w' own' hg';obtain ⟨av',cp',rfl⟩:=own_sli own'))
          go_roundg C.length
          case measure => have:=HGH.out;simp only [List.length_cons] at this;omega
          case rel =>
            have h15:Below w.heap.size wr w5:=Below.grown (Below.refl _ _) HG5.out (by omega) (fun k e => by cases e;exact Nat.le_refl _)
            have bar15:Bar w2.heap.size w.heap.size wr w5:=⟨HG5.out.os,HG5.out.tape,HG5.out.output,HG5.out.size,fun k a b => HG5.out.block k (by omega) (by simpa using b)⟩
            have hw5:=HG5.out.size
            have hone:onceG sn (u :: C) = if sn.contains (txT u) then onceG sn C else u :: onceG (txT u :: sn) C:=by rw [onceG]
            rw [HCON.out] at hone
            first
              | (have h56 : Below w2.heap.size w5 w' := Below.grown ((show Below w5.heap.size w5 _ from by (repeat (first | exact Below.refl _ _ | assumption | refine balloc ?_ _ | refine below_drewN ?_ _ | refine bstep (by assumption) ?_ | refine bstep (Past.prop _) ?_ | refine Below.setCell ?_ (by first | exact Nat.le_refl _ | (simp; done) | (simp; omega)) _))).mono (by omega)) hg' (by simp; omega) (fun j hj => HOB.out j hj)
                 have hsm:Sam (Old S w) wr w':=Sam.old (h15.trans (h56.mono (by omega)))
                 simp only [Bool.false_eq_true,if_false] at hone
                 refine ⟨A ++ [u],C,D ++ [u],txT u :: sn,_,by simp,by rw [← HAC.out];simp,Nat.le_refl _,⟨xs ++ tcV u.1 z' (.slice ak u.2.len ck),by rw [List.length_append];exact own',CelF.app ((celF_one HK.out).sam hsm) (HRX.out.sam hsm)⟩,by simp;omega,by rw [← HD.out,hone];simp,fun x => by simp [HSN.out x,or_comm],((HM5.out.alloc _).kept hg' (fun e => by have:=HOB.out _ e.symm;omega)).mono (by simp;omega),HCO.out.1,HBAR.out.trans (bar15.trans (Bar.of h56))⟩)
              | (have hsm : Sam (Old S w) wr w5 := Sam.old h15
                 simp only [if_true] at hone
                 have hin:txT u ∈ sn:=by simpa using HCON.out
                 refine ⟨A ++ [u],C,D,sn,_,by simp,by rw [← HAC.out];simp,Nat.le_refl _,⟨xs,own_grown HOW.out HG5.out (by omega),HRX.out.sam hsm⟩,by simp;omega,by rw [← HD.out,hone],fun x => ?_,HM5.out.mono (by simp;omega),HCO.out.1,HBAR.out.trans bar15⟩
                 rw [List.map_append,List.mem_append,← HSN.out x]
                 simp only [List.map_cons,List.map_nil,List.mem_singleton]
                 exact ⟨fun q => .inl q,fun q => q.elim id fun e => by rw [e];exact hin⟩)
  · have k1:((kd:Int) != 3) = true:=by simp;omega
    have hR:onceR t = none:=by unfold onceR;rw [if_neg (by rw [HKD.out];exact fun q => h3 q.1)]
    have HR:=hidE hR
    clear hv hb hf hTab hkd hn HTX hR
    go_enter Tryz.func72,Tryz.ntmps72
    go_wp2
    go_ret
    rw [RuleTo,HR.out]
    exact ⟨rfl,⟨z,_,HB.out,HV.out.mono fun k a _ => a.1⟩,grown_refl _ _⟩
end
section
open Go.ChangeShapes Go.WideShapes Go.ChangeAt Go.RowKit
attribute [local irreducible] Go.Calls
abbrev rulC:Array Value:=#[.func (.func 70) #[] #[],.func (.func 71) #[] #[],.func (.func 72) #[] #[],.func (.func 73) #[] #[]]
set_option maxRecDepth 100000 in
theorem rulesN_c (w:World):Calls Tryz.prog 48 #[] w fun e w' => e = .returned (.slice (some ⟨w.heap.size,0,none⟩) 4 4)∧Blk w' w.heap.size rulC 119∧Below w.heap.size w w':=by
  go_enter Tryz.func48,Tryz.ntmps48
  go_wp2
  go_ret
  exact ⟨rfl,Blk.made _ _ _,by (repeat (first | exact Below.refl _ _ | assumption | refine balloc ?_ _ | refine below_drewN ?_ _ | refine bstep (by assumption) ?_ | refine bstep (Past.prop _) ?_ | refine Below.setCell ?_ (by first | exact Nat.le_refl _ | (simp;done) | (simp;omega)) _))⟩
structure SetI (S:Nat→Prop) (p deep ink:Nat) (t:Tm) (w:World) (tj:Tm) (wr:World):Prop where
  nf:nfT tj = nfT t
  fit:FitT tj deep ink
  nrm:Nrm tj.2
  siz:sizT tj≤64
  tm:TermB S wr p tj
  gr:w.grownBy wr (some p)
  ru:Blk wr w.heap.size rulC 119
theorem SetI.step {S:Nat→Prop} {p deep ink:Nat} {t tj u:Tm} {w wr w':World} (h:SetI S p deep ink t w tj wr) (hp:p < w.heap.size) {r:Option Tm} (hr:r = some u) (ho:oneT tj = some u) (hT:TermB S w' p (r.getD tj)) (hg:wr.grownBy w' (some p)):SetI S p deep ink t w u w'∧mu u < mu tj:=by
  subst hr
  have hz:=oneT_siz ho
  exact ⟨⟨(nf_some ho).symm.trans h.nf,oneT_fit ho h.fit,oneT_nrm ho h.nrm,Nat.le_trans hz.1 h.siz,hT,grown_trans h.gr hg,h.ru.grown hg (by simp;omega)⟩,hz.2⟩
theorem SetI.stay {S:Nat→Prop} {p deep ink:Nat} {t tj:Tm} {w wr w':World} (h:SetI S p deep ink t w tj wr) (hp:p < w.heap.size) {r:Option Tm} (hr:r = none) (hT:TermB S w' p (r.getD tj)) (hg:wr.grownBy w' (some p)):SetI S p deep ink t w tj w':=by
  subst hr
  exact ⟨h.nf,h.fit,h.nrm,h.siz,hT,grown_trans h.gr hg,h.ru.grown hg (by simp;omega)⟩
theorem below_of_grown {w w':World} {p:Nat} (h:w.grownBy w' (some p)) (hp:p≤w.heap.size):Below p w w':=⟨h.os,h.tape,h.output,h.size,fun k hk => h.block k (by omega) (by simp;omega)⟩
set_option maxHeartbeats 4000000 in
set_option maxRecDepth 100000 in
theorem settle_c (S:Nat→Prop) (p:Nat) (t:Tm) (w:World) (deep ink:Nat) (hS:¬ S p) (hS2:∀ k,w.heap.size≤k→S k) (hT:TermB S w p t) (hf:FitT t deep ink) (hn:Nrm t.2) (hs:sizT t≤64) (hTb:Tb p w) :
    Calls Tryz.prog 32 #[.pointer (some ⟨p,0,none⟩)] w fun e w' => e = .returned (.tuple #[])∧TermB S w' p (nfT t)∧w.grownBy w' (some p):=by
  have pz:=hT.lt
  have HT:=hidE hT;have HTB:=hidE hTb
  have HI0:=hidE (fun (w1:World) (hb:Below w.heap.size w w1) (hB:Blk w1 w.heap.size rulC 119) => (⟨rfl,hf,hn,hs,hT.past hb,grown_any hb,hB⟩:SetI S p deep ink t w t w1))
  clear hT hf hn hs hTb
  go_enter Tryz.func32,Tryz.ntmps32
  go_wp2
  go_step3
  go_wp2_with (go_at_call 48;(with_reducible refine (rulesN_c _).mono ?_);rintro e w1 ⟨rfl,hB0,hb1⟩;have HI:=hidE (HI0.out _ hb1 hB0);clear hB0 hb1 HI0)
  go_step3
  go_wp2
  go_loopg [] (mu t) (fun gh wr => ∃ tj,mu tj≤gh∧SetI S p deep ink t w tj wr)
  case atStart => exact ⟨t,Nat.le_refl _,HI.out⟩
  case round =>
    clear HI
    obtain ⟨tj,hgh,hsi⟩:=hrel
    have HGH:=hidE hgh;have HSI:=hidE hsi
    clear hgh hsi
    go_wp2
    go_loopg [8] 4 (fun g2 v8 wi => ∃ k:Nat,k≤4∧4 - k≤g2∧v8 = .int .i64 k∧SetI S p deep ink t w tj wi∧(1≤k→oneR tj = none)∧(2≤k→flatR tj = none)∧(3≤k→onceR tj = none)∧(4≤k→sortR tj = none))
    case atStart => exact ⟨0,by omega,by omega,rfl,HSI.out,fun h => by omega,fun h => by omega,fun h => by omega,fun h => by omega⟩
    case round =>
      clear HSI
      obtain ⟨k,hk4,hg2,rfl,hsi,hno⟩:=hrel
      have HG2:=hidE hg2;have HSI:=hidE hsi;have HNO:=hidE hno
      have HOR:=hidE (oneT_rules hsi.fit hsi.nrm)
      have HTM:=hidE hsi.tm
      have hbp:=below_of_grown hsi.gr (Nat.le_of_lt pz)
      have tb:=HTB.out.below hbp
      have HTAB:=hidE (show Tab wr from ⟨tb.pow,tb.words⟩)
      have rz:=hsi.ru.lt
      clear hg2 hsi hno hbp tb
      by_cases hk:k < 4
      · rcases (show k = 0 ∨ k = 1 ∨ k = 2 ∨ k = 3 by omega) with rfl | rfl | rfl | rfl
        · have g0:wr.cell? ⟨w.heap.size,0,none⟩ = some (.func (.func 70) #[] #[]):=HSI.out.ru.cell 0
          have HC:=hidE (unwrap_c S p tj _ hS HTM.out)
          go_wp2_with fail
          ((with_reducible refine HC.out.mono ?_);rintro e w5 ⟨rfl,hT5,hg5⟩)
          cases hsome:oneR tj with
          | some u =>
            have ho:oneT tj = some u:=by rw [HOR.out];simp only [hsome]
            have HST:=hidE (HSI.out.step pz hsome ho hT5 hg5)
            rw [hsome] at *
            clear hT5 hg5 HC g0
            go_wp2
            go_roundg (mu u)
            case measure => have:=HST.out.2;have:=HGH.out;omega
            case rel => exact ⟨u,Nat.le_refl _,HST.out.1⟩
          | none =>
            have HST:=hidE (HSI.out.stay pz hsome hT5 hg5)
            have HNN:=hidE hsome
            clear hT5 hg5 HC g0
            go_wp2
            go_roundg (4 - 1)
            case measure => have:=HG2.out;omega
            case rel => exact ⟨1,by omega,Nat.le_refl _,by go_num,HST.out,fun _ => HNN.out,fun h => by omega,fun h => by omega,fun h => by omega⟩
        · have g0:wr.cell? ⟨w.heap.size,1,none⟩ = some (.func (.func 71) #[] #[]):=HSI.out.ru.cell 1
          have HC:=hidE (flatten_c S p tj _ hS (fun k hk => hS2 k (by have:=HSI.out.gr.size;omega)) HTM.out (fitT_len HSI.out.fit) (fun u hu => fitT_len (fitT_kid HSI.out.fit hu)))
          go_wp2_with fail
          ((with_reducible refine HC.out.mono ?_);rintro e w5 ⟨rfl,hT5,hg5⟩)
          have hn0:=HNO.out.1 (by omega)
          cases hsome:flatR tj with
          | some u =>
            have ho:oneT tj = some u:=by rw [HOR.out];simp only [hn0,hsome]
            have HST:=hidE (HSI.out.step pz hsome ho hT5 hg5)
            rw [hsome] at *
            clear hT5 hg5 HC g0
            go_wp2
            go_roundg (mu u)
            case measure => have:=HST.out.2;have:=HGH.out;omega
            case rel => exact ⟨u,Nat.le_refl _,HST.out.1⟩
          | none =>
            have HST:=hidE (HSI.out.stay pz hsome hT5 hg5)
            have HNN:=hidE hsome
            clear hT5 hg5 HC g0
            go_wp2
            go_roundg (4 - 2)
            case measure => have:=HG2.out;omega
            case rel => exact ⟨2,by omega,Nat.le_refl _,by go_num,HST.out,fun _ => HNO.out.1 (by omega),fun _ => HNN.out,fun h => by omega,fun h => by omega⟩
        · have g0:wr.cell? ⟨w.heap.size,2,none⟩ = some (.func (.func 72) #[] #[]):=HSI.out.ru.cell 2
          have HC:=hidE (unique_c S p tj _ deep ink hS (fun k hk => hS2 k (by have:=HSI.out.gr.size;omega)) HTM.out HSI.out.fit HSI.out.siz HTAB.out)
          go_wp2_with fail
          ((with_reducible refine HC.out.mono ?_);rintro e w5 ⟨rfl,hT5,hg5⟩)
          have hn0:=HNO.out.1 (by omega)
          have hn1:=HNO.out.2.1 (by omega)
          cases hsome:onceR tj with
          | some u =>
            have ho:oneT tj = some u:=by rw [HOR.out];simp only [hn0,hn1,hsome]
            have HST:=hidE (HSI.out.step pz hsome ho hT5 hg5)
            rw [hsome] at *
            clear hT5 hg5 HC g0
            go_wp2
            go_roundg (mu u)
            case measure => have:=HST.out.2;have:=HGH.out;omega
            case rel => exact ⟨u,Nat.le_refl _,HST.out.1⟩
          | none =>
            have HST:=hidE (HSI.out.stay pz hsome hT5 hg5)
            have HNN:=hidE hsome
            clear hT5 hg5 HC g0
            go_wp2
            go_roundg (4 - 3)
            case measure => have:=HG2.out;omega
            case rel => exact ⟨3,by omega,Nat.le_refl _,by go_num,HST.out,fun _ => HNO.out.1 (by omega),fun _ => HNO.out.2.1 (by omega),fun _ => HNN.out,fun h => by omega⟩
        · have g0:wr.cell? ⟨w.heap.size,3,none⟩ = some (.func (.func 73) #[] #[]):=HSI.out.ru.cell 3
          have HC:=hidE (sort_c S p tj _ deep ink hS (fun k hk => hS2 k (by have:=HSI.out.gr.size;omega)) HTM.out HSI.out.fit HSI.out.siz HTAB.out)
          go_wp2_with fail
          ((with_reducible refine HC.out.mono ?_);rintro e w5 ⟨rfl,hT5,hg5⟩)
          have hn0:=HNO.out.1 (by omega)
          have hn1:=HNO.out.2.1 (by omega)
          have hn2:=HNO.out.2.2.1 (by omega)
          cases hsome:sortR tj with
          | some u =>
            have ho:oneT tj = some u:=by rw [HOR.out];simp only [hn0,hn1,hn2];exact hsome
            have HST:=hidE (HSI.out.step pz hsome ho hT5 hg5)
            rw [hsome] at *
            clear hT5 hg5 HC g0
            go_wp2
            go_roundg (mu u)
            case measure => have:=HST.out.2;have:=HGH.out;omega
            case rel => exact ⟨u,Nat.le_refl _,HST.out.1⟩
          | none =>
            have HST:=hidE (HSI.out.stay pz hsome hT5 hg5)
            have HNN:=hidE hsome
            clear hT5 hg5 HC g0
            go_wp2
            go_roundg (4 - 4)
            case measure => have:=HG2.out;omega
            case rel => exact ⟨4,by omega,Nat.le_refl _,by go_num,HST.out,fun _ => HNO.out.1 (by omega),fun _ => HNO.out.2.1 (by omega),fun _ => HNO.out.2.2.1 (by omega),fun _ => HNN.out⟩
      · have hk':k = 4:=by omega
        subst hk'
        have hnone:oneT tj = none:=by
          rw [HOR.out,HNO.out.1 (by omega),HNO.out.2.1 (by omega),HNO.out.2.2.1 (by omega)]
          exact HNO.out.2.2.2 (by omega)
        have hnf:nfT t = tj:=by rw [← HSI.out.nf,nf_none hnone]
        have HNF:=hidE hnf
        clear hnone hnf
        go_wp2
        rw [Exit.noGoto_ret]
        refine bodyPost_ret (results_none rfl _ _ _) rfl ?_
        exact ⟨rfl,by rw [HNF.out];exact HSI.out.tm,HSI.out.gr⟩
end
section
open Go.ChangeShapes Go.WideShapes Go.ChangeAt Go.RowKit
attribute [local irreducible] Go.Calls
theorem step_appAt {P:Program} {ops:Array Oper} {o:Oper} {a:Act} {w:World} {K:Act→World→Prop} {Q:Exit→Act→World→Prop} {E:Prop}
    (hg:o.guard = none) (s x:Operand) (t:TypeId) (hop:o.op = Op.call { callee:=Callee.builtin Builtin.append,args:=#[s,x],argTypes:=#[t,t] })
    (base:Nat) (e:TypeId) (i:TypeInfo) (z:Value) (sz by':Nat) (ht:P.underlying t = some (.slice e)) (hi:P.info? e = some i) (hz:i.zero = some z) (hsize:i.size = sz) (hby:i.bytes = by') (hzs:z.cells.size = sz) (hs0:0 < sz)
    (v:Value) (n:Nat) (xs:List Value) (hs:a.eval s = v) (hown:w.ownsRow base e sz v n xs)
    (ad:Addr) (m c:Nat) (ys:List Value) (hx:a.eval x = .slice (some ad) m c) (hl:ys.length = m * sz) (hnews:∀ j u,ys[j]? = some u→w.cell? (ad.add j) = some u) (h1:∀ u ∈ ys,u.oneCell' = true)
    (h63:n + m≤1099511627776) (hb':by'≤100) (hbase:base≤w.heap.size)
    (h:∀ v' w',w'.ownsRow base e sz v' (n + m) (xs ++ ys)→w.grownBy w' v.ownBlock→(v'.ownBlock = v.ownBlock ∨ v'.ownBlock = some w.heap.size)→K (a.put o.dst v') w') :
    if Region.wanted o (yielded ops a.tmps) = true then Oper.wp P o a w K Q else E:=by
  have hw:Region.wanted o (yielded ops a.tmps) = true:=by simp [Region.wanted,hg]
  rw [if_pos hw]
  have hbb:(n + m) * by'≤(n + m) * 100:=Nat.mul_le_mul_left _ hb'
  obtain ⟨v',w',hr,h2,h3,h4,h5⟩:=run_append_own_at (P:=P) w base t o.type e i z sz by' ht hi hz hsize hby hzs hs0 v n xs hown ad m c ys hl hnews h1 (by unfold maxLen;omega) (by omega) hbase
  unfold Oper.wp execOp
  simp only [hop,resolve,invoke,builtin,Sem.run_bind,Sem.run_pure,Result.andThen_ok,List.map_toArray,List.map_cons,List.map_nil,hs,hx,hr]
  exact h v' w' h2 h3 h5
theorem blk_news {w:World} {p:Nat} {ys:List Value} {t:TypeId} (h:Blk w p ys.toArray t):∀ j u,ys[j]? = some u→w.cell? ((⟨p,0,none⟩:Addr).add j) = some u:=by
  intro j u hu
  have e:((⟨p,0,none⟩:Addr).add j) = ⟨p,j,none⟩:=by
    unfold Addr.add
    by_cases c:j = 0
    · subst c;simp
    · simp [c]
  rw [e,h.cell j,← hu]
  simp
theorem own_pos {w:World} {B sz n:Nat} {e:TypeId} {v:Value} {xs:List Value} (h:w.ownsRow B e sz v (n + 1) xs):∃ g cap,v = .slice (some ⟨g,0,none⟩) (n + 1) cap∧B≤g∧g < w.heap.size∧n + 1≤cap:=by
  obtain ⟨_,h2 | ⟨g,cap,cur,rfl,h3,h4,h5,_⟩⟩:=h
  · exact absurd h2.2 (by omega)
  · exact ⟨g,cap,rfl,h3,lt_of_block h4,h5⟩
theorem own_cell {w:World} {B g n cap:Nat} {e:TypeId} {sz:Nat} {xs:List Value} (h:w.ownsRow B e sz (.slice (some ⟨g,0,none⟩) n cap) n xs) {j:Nat} {u:Value} (hu:xs[j]? = some u):w.cell? ⟨g,j,none⟩ = some u:=by
  have:=h.cells (g:=g) rfl j u hu
  have e:((⟨g,0,none⟩:Addr).add j) = ⟨g,j,none⟩:=by
    unfold Addr.add
    by_cases c:j = 0
    · subst c;simp
    · simp [c]
  rwa [e] at this
abbrev putR (w:World) (g n:Nat) (x:Prt) (z:Int) (v:Value):World :=
  ((((((w.setCell ⟨g,n * 7,none⟩ (.int .u8 x.kind)).setCell ⟨g,n * 7 + 1,none⟩ (.int .u32 x.n)).setCell ⟨g,n * 7 + 2,none⟩ (.int .u32 x.g)).setCell ⟨g,n * 7 + 3,none⟩ (.int .i64 x.d)).setCell ⟨g,n * 7 + 4,none⟩ (.int .i64 z)).setCell ⟨g,n * 7 + 5,none⟩ (.int .i64 x.kids)).setCell ⟨g,n * 7 + 6,none⟩ v
theorem set_at {xs ys:List Value} {n j:Nat} (hx:xs.length = n * 7) (u:Value):(xs ++ ys).set (n * 7 + j) u = xs ++ ys.set j u:=by
  rw [List.set_append_right _ _ (by omega)]
  congr 2;omega
theorem putR_own {w:World} {B g n cap:Nat} {T:TypeId} {xs:List Value} {a0 a1 a2 a3 a4 a5 a6:Value} (h:w.ownsRow B T 7 (.slice (some ⟨g,0,none⟩) (n + 1) cap) (n + 1) (xs ++ [a0,a1,a2,a3,a4,a5,a6])) (hx:xs.length = n * 7) (x:Prt) (z:Int) (v:Value) :
    (putR w g n x z v).ownsRow B T 7 (.slice (some ⟨g,0,none⟩) (n + 1) cap) (n + 1) (xs ++ tcV x z v)∧w.grownBy (putR w g n x z v) (some g):=by
  have s0:=h.stored (n * 7) (.int .u8 x.kind)
  rw [show n * 7 = n * 7 + 0 from rfl,set_at hx] at s0
  simp only [Nat.add_zero,List.set_cons_zero] at s0
  have s1:=s0.1.stored (n * 7 + 1) (.int .u32 x.n)
  rw [set_at hx] at s1
  have s2:=s1.1.stored (n * 7 + 2) (.int .u32 x.g)
  rw [set_at hx] at s2
  have s3:=s2.1.stored (n * 7 + 3) (.int .i64 x.d)
  rw [set_at hx] at s3
  have s4:=s3.1.stored (n * 7 + 4) (.int .i64 z)
  rw [set_at hx] at s4
  have s5:=s4.1.stored (n * 7 + 5) (.int .i64 x.kids)
  rw [set_at hx] at s5
  have s6:=s5.1.stored (n * 7 + 6) v
  rw [set_at hx] at s6
  simp only [List.set_cons_succ,List.set_cons_zero] at s6
  exact ⟨s6.1,grown_trans (grown_trans (grown_trans (grown_trans (grown_trans (grown_trans s0.2 s1.2) s2.2) s3.2) s4.2) s5.2) s6.2⟩
def OwnE (B:Nat) (w:World) (v:Value) (l:List Tm):Prop:=∃ xs,w.ownsRow B 62 7 v l.length xs∧CelF (fun k => B≤k∧some k ≠ v.ownBlock) w (ofL l) xs
end
section
open Go.ChangeShapes Go.WideShapes Go.ChangeAt Go.RowKit
attribute [local irreducible] Go.Calls
def NzPost (w:World) (t:Tm) (e:Ending) (w':World):Prop:=∃ z v,e = .returned (trV t.1 z v)∧SliF (fun k => w.heap.size≤k) w' v t.2∧Below w.heap.size w w'
structure NzI (w:World) (q:Nat) (y:Prt) (K:Fst) (o:Nat) (D:List Tm) (C:Fst) (oo:Nat) (l:List Prt) (wr:World):Prop where
  tot:toL (plainF (lab K (o + 1))) = D ++ toL (plainF (lab C oo))
  pos:∃ pre,posF K (o + 1) = pre ++ posF C oo∧pre.length = D.length
  atf:AtF l oo C
  fit:∃ deep ink,C.fit deep ink
  siz:C.size≤K.size
  own:∃ z v,Blk wr q (tcA { y with kids:=(o:Int) } z v) 62∧OwnE (q + 1) wr v D
  bel:Below q w wr
structure Two (g q:Nat) (w W:World):Prop where
  os:W.os = w.os
  tape:W.tape = w.tape
  output:W.output = w.output
  size:w.heap.size≤W.heap.size
  block:∀ k,k < w.heap.size→k ≠ g→k ≠ q→W.heap[k]? = w.heap[k]?
theorem two_a {w W V:World} {g q:Nat} (h:w.grownBy W (some g)) (h2:W.grownBy V (some q)):Two g q w V :=
  ⟨h2.os.trans h.os,h2.tape.trans h.tape,h2.output.trans h.output,Nat.le_trans h.size h2.size,fun k hk a b => (h2.block k (Nat.lt_of_lt_of_le hk h.size) (by simpa using b)).trans (h.block k hk (by simpa using a))⟩
theorem two_b {w W V:World} {g q:Nat} (h:w.grownBy W (some q)) (h2:W.grownBy V (some g)):Two g q w V :=
  ⟨h2.os.trans h.os,h2.tape.trans h.tape,h2.output.trans h.output,Nat.le_trans h.size h2.size,fun k hk a b => (h2.block k (Nat.lt_of_lt_of_le hk h.size) (by simpa using a)).trans (h.block k hk (by simpa using b))⟩
theorem NzI.step {w2 wr w6 wb w' W:World} {q:Nat} {y x:Prt} {K Kx N:Fst} {o oo:Nat} {D:List Tm} {l:List Prt} {u:Tm} {z z':Int} {va vu:Value} {g' cp':Nat} {xs:List Value}
    (hI:NzI w2 q y K o D (.cons x Kx N) oo l wr) (hu:u = nzT x Kx oo) (hbk:Blk wr q (tcA { y with kids:=(o:Int) } z va) 62) (how:wr.ownsRow (q + 1) 62 7 va D.length xs) (hrx:CelF (fun k => q + 1≤k∧some k ≠ va.ownBlock) wr (ofL D) xs)
    (h6:Below wr.heap.size wr w6) (hs6:SliF (fun k => wr.heap.size≤k) w6 vu u.2) (hb:Below w6.heap.size w6 wb) (hg:wb.grownBy w' va.ownBlock) (hgB:q + 1≤g') (hat:some g' = va.ownBlock ∨ some g' = some wb.heap.size)
    (hW:Two g' q w' W) (hown:W.ownsRow (q + 1) 62 7 (.slice (some ⟨g',0,none⟩) (D.length + 1) cp') (D.length + 1) (xs ++ tcV u.1 z' vu)) (hbW:Blk W q (tcA { y with kids:=(o:Int) } z (.slice (some ⟨g',0,none⟩) (D.length + 1) cp')) 62) :
    NzI w2 q y K o (D ++ [u]) N (oo + 1 + Kx.size) l W:=by
  have qz:=hbk.lt
  have s6:=h6.size;have sb:=hb.size;have sg:=hg.size
  have hlt:∀ k,va.ownBlock = some k→k < wr.heap.size:=fun k e => own_lt how e
  obtain ⟨deep,ink,hf⟩:=hI.fit
  obtain ⟨pre,hp,hpl⟩:=hI.pos
  refine ⟨?_,⟨pre ++ [oo],by rw [hp,posF];simp,by simp [hpl]⟩,hI.atf.next,⟨deep,ink,hf.2.2.2.2⟩,by have:=hI.siz;simp only [Fst.size] at this;omega,⟨z,_,hbW,xs ++ tcV u.1 z' vu,by rw [List.length_append];exact hown, ?_⟩, ?_⟩
  · rw [hI.tot,toL_plain_cons,← hu];simp
  · refine CelF.app (celF_one ?_) ?_
    · refine SlcT.imp hs6 (by have:=hW.size;omega) (fun k a b => ⟨⟨by omega, ?_⟩, ?_⟩) (fun ys hy => CelF.imp (by have:=hW.size;omega) (fun k a b => ⟨⟨by omega, ?_⟩, ?_⟩) _ _ hy)
      all_goals first
        | (refine fun e => ?_
           have e:k = g':=Option.some.inj e
           rcases hat with c | c
           · have:=hlt g' c.symm;omega
           · have c:=Option.some.inj c;omega)
        | (rw [hW.block k (by omega) (by
             rintro rfl
             rcases hat with c | c
             · have:=hlt _ c.symm;omega
             · have c:=Option.some.inj c;omega) (by omega),hg.block k (by omega) (fun e => by have:=hlt k e.symm;omega),hb.block k b])
    · refine CelF.imp (by have:=hW.size;omega) (fun k a b => ⟨⟨a.1, ?_⟩, ?_⟩) _ _ hrx
      all_goals first
        | (refine fun e => ?_
           have e:k = g':=Option.some.inj e
           rcases hat with c | c
           · exact a.2 (by rw [e];exact c)
           · have c:=Option.some.inj c;omega)
        | (rw [hW.block k (by omega) (by
             rintro rfl
             rcases hat with c | c
             · exact a.2 c
             · have c:=Option.some.inj c;omega) (by have:=a.1;omega),hg.block k (by omega) a.2,hb.block k (by omega),h6.block k b])
  · refine hI.bel.trans ⟨?_, ?_, ?_,by have:=hW.size;omega,fun k hk => ?_⟩
    · rw [hW.os,hg.os,hb.os,h6.os]
    · rw [hW.tape,hg.tape,hb.tape,h6.tape]
    · rw [hW.output,hg.output,hb.output,h6.output]
    · rw [hW.block k (by omega) (by omega) (by omega),hg.block k (by omega) (fun e => by have:=own_block how e.symm;omega),hb.block k (by omega),h6.block k (by omega)]
theorem NzI.both {w2 wr w6:World} {q:Nat} {y x:Prt} {K Kx N:Fst} {o oo:Nat} {D:List Tm} {l:List Prt} {u:Tm} {z z':Int} {va vu:Value} {xs:List Value}
    (hI:NzI w2 q y K o D (.cons x Kx N) oo l wr) (hu:u = nzT x Kx oo) (hbk:Blk wr q (tcA { y with kids:=(o:Int) } z va) 62) (how:wr.ownsRow (q + 1) 62 7 va D.length xs) (hrx:CelF (fun k => q + 1≤k∧some k ≠ va.ownBlock) wr (ofL D) xs)
    (h6:Below wr.heap.size wr w6) (hs6:SliF (fun k => wr.heap.size≤k) w6 vu u.2) (wb w':World) (g' cp':Nat) (a0 a1 a2 a3 a4 a5 a6:Value) (hb:Below w6.heap.size w6 wb)
    (own':w'.ownsRow (q + 1) 62 7 (.slice (some ⟨g',0,none⟩) (D.length + 1) cp') (D.length + 1) (xs ++ [a0,a1,a2,a3,a4,a5,a6])) (hg:wb.grownBy w' va.ownBlock) (hgB:q + 1≤g') (hat:(Value.slice (some ⟨g',0,none⟩) (D.length + 1) cp').ownBlock = va.ownBlock ∨ (Value.slice (some ⟨g',0,none⟩) (D.length + 1) cp').ownBlock = some wb.heap.size) :
    NzI w2 q y K o (D ++ [u]) N (oo + 1 + Kx.size) l ((putR w' g' D.length u.1 z' vu).setCell ⟨q,6,none⟩ (.slice (some ⟨g',0,none⟩) (D.length + 1) cp')) ∧
    NzI w2 q y K o (D ++ [u]) N (oo + 1 + Kx.size) l (putR (w'.setCell ⟨q,6,none⟩ (.slice (some ⟨g',0,none⟩) (D.length + 1) cp')) g' D.length u.1 z' vu):=by
  have hxl:xs.length = D.length * 7:=how.1
  have s6:=h6.size;have sb:=hb.size;have qz:=hbk.lt
  have hq:Blk w' q (tcA { y with kids:=(o:Int) } z va) 62:=((hbk.past h6).past hb).grown hg fun e => by have:=own_block how e.symm;omega
  constructor
  · have hp:=putR_own own' hxl u.1 z' vu
    refine hI.step hu hbk how hrx h6 hs6 hb hg hgB hat (two_a hp.2 (grown_set _ _ _ _)) (ownsRow_setCell_below hp.1 (by show q < q + 1;omega) _) ?_
    have hq2:Blk (putR w' g' D.length u.1 z' vu) q (tcA { y with kids:=(o:Int) } z va) 62:=hq.grown hp.2 (by simp;omega)
    have:=hq2.set 6 (.slice (some ⟨g',0,none⟩) (D.length + 1) cp')
    simp only [tcA,List.setIfInBounds_toArray,List.set_cons_zero,List.set_cons_succ] at this
    exact this
  · have hp:=putR_own (ownsRow_setCell_below own' (a:=⟨q,6,none⟩) (by show q < q + 1;omega) (.slice (some ⟨g',0,none⟩) (D.length + 1) cp')) hxl u.1 z' vu
    refine hI.step hu hbk how hrx h6 hs6 hb hg hgB hat (two_b (grown_set _ _ _ _) hp.2) hp.1 ?_
    have:=hq.set 6 (.slice (some ⟨g',0,none⟩) (D.length + 1) cp')
    simp only [tcA,List.setIfInBounds_toArray,List.set_cons_zero,List.set_cons_succ] at this
    exact this.grown hp.2 (by simp;omega)
end
section
open Go.ChangeShapes Go.WideShapes Go.ChangeAt Go.RowKit
attribute [local irreducible] Go.Calls
theorem same_grown {a wb w':World} {r:Option Nat} (_:wb.grownBy w' r) (h:Below a.heap.size a wb):Below a.heap.size a wb:=h
set_option maxHeartbeats 8000000 in
set_option maxRecDepth 100000 in
theorem normalized_c (l:List Prt) (cap:Nat) (a:Option Addr) (hl:l.length≤64) (ht:(treeS l).2 = 0):∀ (m:Nat) (y:Prt) (K:Fst) (o deep ink:Nat) (w:World),K.size < m→AtF l o (.cons y K .nil)→(Fst.cons y K .nil).fit deep ink→ArgP w a l→Tab w →
    Calls Tryz.prog 17 #[.slice a l.length cap,.int .i64 o] w (NzPost w (nzT y K o)):=by
  intro m
  induction m with
  | zero => intro y K o deep ink w h;omega
  | succ m ih =>
    intro y K o deep ink w hm hat hfit hA hTab
    have hol:=hat.lt
    have HSK:=hidE (fun (w':World) (hA':ArgP w' a l) => shkids_c l (o:Int) a cap w' (by omega) hA' (by omega))
    have hmay:mayS l (o:Int) = 0:=by unfold mayS;rw [if_neg (by simpa using ht),if_neg (by omega)]
    have hks:=kidsS_pos hat
    obtain ⟨b,off,rfl,hbb,hc⟩:=hA (by omega)
    have hhead:=hat.head
    have hg0:l.getD o pr0 = { y with kids:=(K.len:Int) }:=by rw [List.getD_eq_getElem?_getD,hhead];rfl
    have hc0:=hc.get hol
    rw [hg0] at hc0
    obtain ⟨p0,p1,p2,p3,p4⟩:=hc0
    simp only at p0 p1 p2 p3 p4
    rw [hmay,if_pos rfl,Int.toNat_natCast,hks] at HSK
    have HAT:=hidE hat;have HFIT:=hidE hfit;have HA:=hidE hA;have HTAB:=hidE hTab;have IH:=hidE ih
    have hsz:o + K.size < l.length:=by
      have:=hat.1 K.size (by simp only [Fst.size];omega)
      have h2:((Fst.cons y K .nil).flat)[K.size]? ≠ none:=by rw [ne_eq,List.getElem?_eq_none_iff,flat_len];simp only [Fst.size];omega
      rw [← this] at h2
      exact (List.getElem?_eq_some_iff.1 (Option.ne_none_iff_exists'.1 h2).choose_spec).1
    have hp16:K.len≤16:=fitT_len (t:=(y,K)) (deep:=deep) (ink:=ink) ⟨hfit.1,hfit.2.1,hfit.2.2.1,hfit.2.2.2.1⟩
    clear hat hfit hA hTab ih hhead hg0 hc hks hmay
    go_enter Tryz.func17,Tryz.ntmps17
    go_wp2_with fail
    obtain ⟨w1,hw1⟩:∃ w1,w1 = w.alloc (.cells #[.int .u8 0,.int .u32 0,.int .u32 0,.int .i64 0,.int .i64 0,.int .i64 0,.slice none 0 0] 62):=⟨_,rfl⟩
    rw [← hw1]
    have hb1:Below w.heap.size w w1:=by rw [hw1];(repeat (first | exact Below.refl _ _ | assumption | refine balloc ?_ _ | refine below_drewN ?_ _ | refine bstep (by assumption) ?_ | refine bstep (Past.prop _) ?_ | refine Below.setCell ?_ (by first | exact Nat.le_refl _ | (simp;done) | (simp;omega)) _))
    have hres:Blk w1 w.heap.size #[.int .u8 0,.int .u32 0,.int .u32 0,.int .i64 0,.int .i64 0,.int .i64 0,.slice none 0 0] 62:=by rw [hw1];exact Blk.made _ _ _
    have hs1:w1.heap.size = w.heap.size + 1:=by rw [hw1];simp
    clear hw1
    ((with_reducible refine (HSK.out w1 (HA.out.past hb1)).mono ?_);rintro e w2 ⟨vk,rfl,hsn,hb2, -⟩)
    obtain ⟨ak,ck,rfl,hk1,hk2,hK⟩:=hsn
    rw [posF_len] at hk1 ⊢
    have hbw2:Below w.heap.size w w2:=hb1.trans (hb2.mono hb1.size)
    have hws:=hbw2.size
    have hres2:=hres.past hb2
    have P0:=(hbw2.cell (p:=⟨b,_,none⟩) hbb).trans p0;have P1:=(hbw2.cell (p:=⟨b,_,none⟩) hbb).trans p1;have P2:=(hbw2.cell (p:=⟨b,_,none⟩) hbb).trans p2;have P3:=(hbw2.cell (p:=⟨b,_,none⟩) hbb).trans p3;have P4:=(hbw2.cell (p:=⟨b,_,none⟩) hbb).trans p4
    have pz:=Nat.lt_of_lt_of_le hbb hws
    have hoz:(o:Int) < (l.length:Int):=by omega
    have HRES:=hidE hres2;have HK:=hidE hK;have HBW2:=hidE hbw2
    have rz:=hres2.lt
    clear hb1 hres hs1 hb2 hbw2 hres2 hK p0 p1 p2 p3 p4 HSK
    go_wp2_with fail
    obtain ⟨w3,hw3⟩:∃ w3,w3 = w2.alloc (.cells (tcA { y with kids:=(o:Int) } K.len (.slice none 0 0)) 62):=⟨_,rfl⟩
    have hb3:Below w2.heap.size w2 w3:=by rw [hw3];(repeat (first | exact Below.refl _ _ | assumption | refine balloc ?_ _ | refine below_drewN ?_ _ | refine bstep (by assumption) ?_ | refine bstep (Past.prop _) ?_ | refine Below.setCell ?_ (by first | exact Nat.le_refl _ | (simp;done) | (simp;omega)) _))
    have hI0:NzI w2 w2.heap.size y K o [] K (o + 1) l w3:=⟨rfl,⟨[],rfl,rfl⟩,HAT.out.kids,⟨_,_,HFIT.out.2.2.2.1⟩,Nat.le_refl _,⟨(K.len:Int),.slice none 0 0,by rw [hw3];exact Blk.made _ _ _,[],own_nil _ _ _,rfl⟩,hb3⟩
    have HI0:=hidE hI0
    rw [← hw3]
    clear hw3 hb3 hI0
    go_loopg [25] K.len (fun gh v25 wr => ∃ (D:List Tm) (C:Fst) (oo:Nat),v25 = .int .i64 D.length∧C.len≤gh∧D.length + C.len = K.len∧NzI w2 w2.heap.size y K o D C oo l wr)
    case atStart => exact ⟨[],K,o + 1,rfl,Nat.le_refl _,by simp,HI0.out⟩
    case round =>
      clear HI0
      obtain ⟨D,C,oo,rfl,hgh,hDC,hI⟩:=hrel
      have HGH:=hidE hgh;have HI:=hidE hI
      obtain ⟨z,va,hbk,hown⟩:=hI.own
      obtain ⟨xs,ho,hrx⟩:=hown
      obtain ⟨aa,ca,rfl⟩:=own_sli ho
      have HBK:=hidE hbk;have HOW:=hidE ho;have HRX:=hidE hrx
      have hwr:=hI.bel.size
      clear hgh hI ho hrx hbk
      cases C with
      | nil =>
        have hDn:D.length = K.len:=by simpa [Fst.len] using hDC
        have q1:decide ((D.length:Int) < (K.len:Int)) = false:=decide_eq_false (by omega)
        have q2:decide (D.length < K.len) = false:=decide_eq_false (by omega)
        have hS:SliF (fun k => w2.heap.size + 1≤k) wr (.slice aa D.length ca) (ofL D):=(show OwnN (w2.heap.size + 1) (fun k => w2.heap.size + 1≤k∧some k ≠ (Value.slice aa D.length ca).ownBlock) wr (.slice aa D.length ca) D from ⟨xs,HOW.out,HRX.out⟩).sli (fun k h => h) (fun k h => h.1)
        have htot:plainF (lab K (o + 1)) = ofL D:=by
          have:=HI.out.tot
          rw [← of_to (plainF (lab K (o + 1))),this];simp [lab,plainF,toL]
        have hTB:TermB (fun k => w2.heap.size + 1≤k) wr w2.heap.size ({ y with kids:=(o:Int) },plainF (lab K (o + 1))):=⟨z,_,HBK.out,by simp only [htot];exact hS⟩
        have tb:Tb w2.heap.size wr:=(Tb.of (HTAB.out.past HBW2.out) (Nat.le_refl _)).below HI.out.bel
        have HSET:=hidE (settle_c (fun k => w2.heap.size + 1≤k) w2.heap.size _ wr deep ink (by simp) (fun k hk => by have:=HBK.out.lt;omega) hTB (nz_fit HFIT.out) (plain_nrm _) (nz_siz (by omega)) tb)
        have HR2:=hidE (HRES.out.below HI.out.bel (by have:=HRES.out.lt;exact this))
        have hbl:=HI.out.bel
        have HBL:=hidE hbl
        clear hS htot hTB tb hbl HI HBK HOW HRX
        go_wp2_with fail
        ((with_reducible refine HSET.out.mono ?_);rintro e w7 ⟨rfl,hT7,hg7⟩)
        obtain ⟨t',ht'⟩:∃ t',t' = nzT y K o:=⟨_,rfl⟩
        have hT8:TermB (fun k => w2.heap.size + 1≤k) w7 w2.heap.size t':=by rw [ht'];exact hT7
        rw [← ht']
        obtain ⟨z7,v7,hb7,hv7⟩:=hT8
        obtain ⟨a7,c7,rfl,_,_⟩:=hv7.shape
        have hr7:Blk w7 w.heap.size #[.int .u8 0,.int .u32 0,.int .u32 0,.int .i64 0,.int .i64 0,.int .i64 0,.slice none 0 0] 62:=HR2.out.grown hg7 (by have:=HRES.out.lt;simp;omega)
        have g0:=hb7.cell 0;have g1:=hb7.cell 1;have g2:=hb7.cell 2;have g3:=hb7.cell 3;have g4:=hb7.cell 4;have g5:=hb7.cell 5;have g6:=hb7.cell 6;have gz:=hb7.lt
        have s0:=hr7.cell 0;have s1:=hr7.cell 1;have s2:=hr7.cell 2;have s3:=hr7.cell 3;have s4:=hr7.cell 4;have s5:=hr7.cell 5;have s6:=hr7.cell 6;have sz:=hr7.lt
        have f0:=hr7.free 0;have f1:=hr7.free 1;have f2:=hr7.free 2;have f3:=hr7.free 3;have f4:=hr7.free 4;have f5:=hr7.free 5;have f6:=hr7.free 6
        simp at g0 g1 g2 g3 g4 g5 g6 s0 s1 s2 s3 s4 s5 s6
        have hfin:Blk (put7 w7 w.heap.size t'.1 z7 (.slice a7 t'.2.len c7)) w.heap.size (tcA t'.1 z7 (.slice a7 t'.2.len c7)) 62:=put7_blk (y:=⟨0,0,0,0,0⟩) (q:=0) (u := .slice none 0 0) hr7 _ _ _
        have HFIN:=hidE hfin;have HG7:=hidE hg7;have HV7:=hidE hv7;have HB7:=hidE hb7
        have HTE:=hidE ht'
        clear hT7 hg7 hb7 hv7 hr7 hfin HSET ht'
        go_wp2
        have c0:=HFIN.out.cell 0;have c1:=HFIN.out.cell 1;have c2:=HFIN.out.cell 2;have c3:=HFIN.out.cell 3;have c4:=HFIN.out.cell 4;have c5:=HFIN.out.cell 5;have c6:=HFIN.out.cell 6
        simp at c0 c1 c2 c3 c4 c5 c6
        have hrq:¬ (w2.heap.size + 1≤w.heap.size):=by have:=HBW2.out.size;omega
        have hsl:SliF (fun k => w.heap.size≤k) (put7 w7 w.heap.size t'.1 z7 (.slice a7 t'.2.len c7)) (.slice a7 t'.2.len c7) t'.2 :=
          (HV7.out.off (p:=w.heap.size) hrq (put7_grown w7 w.heap.size t'.1 z7 (.slice a7 t'.2.len c7))).mono fun k a _ => by have:=HBW2.out.size;omega
        have hbf:Below w.heap.size w (put7 w7 w.heap.size t'.1 z7 (.slice a7 t'.2.len c7)):=by
          have h1:=HBW2.out.trans (HBL.out.mono HBW2.out.size)
          have h2:=Below.grown h1 HG7.out h1.size (fun k e => by cases e;exact HBW2.out.size)
          exact Below.grown h2 (put7_grown w7 w.heap.size t'.1 z7 (.slice a7 t'.2.len c7)) h2.size (fun k e => by cases e;exact Nat.le_refl _)
        change bodyPost _ _ _ _ _ (put7 w7 w.heap.size t'.1 z7 (.slice a7 t'.2.len c7))
        clear HFIN HG7 HV7 HB7 HBL HR2 HRES
        generalize put7 w7 w.heap.size t'.1 z7 (.slice a7 t'.2.len c7) = w8 at *
        refine bodyPost_ret (v:=trV t'.1 z7 (.slice a7 t'.2.len c7)) (by simp [results,Tryz.results17,go_sem,c0,c1,c2,c3,c4,c5,c6]) rfl (by rw [← HTE.out];exact ⟨z7,_,rfl,hsl,hbf⟩)
      | cons x Kx N =>
        have q1:decide ((D.length:Int) < (K.len:Int)) = true:=decide_eq_true (by simp only [Fst.len] at hDC;omega)
        have q2:D.length < K.len:=by simp only [Fst.len] at hDC;omega
        obtain ⟨pre,hpre,hprel⟩:=HI.out.pos
        obtain ⟨bk,ok,rfl,hbkz,hkc⟩:=HK.out (by rw [natsI_len,posF_len];omega)
        have k0:=(HI.out.bel.cell (p:=⟨bk,ok + D.length,none⟩) hbkz).trans (hkc D.length (by rw [natsI_len,posF_len];exact q2))
        have hge:(natsI (posF K (o + 1))).getD D.length 0 = (oo:Int):=by
          rw [hpre,posF,natsI_app,List.getD_eq_getElem?_getD,List.getElem?_append_right (by rw [natsI_len];omega),natsI_len,hprel,Nat.sub_self];rfl
        rw [hge] at k0
        have kz:=Nat.lt_of_lt_of_le hbkz HI.out.bel.size
        obtain ⟨deep',ink',hfc⟩:=HI.out.fit
        have hsz:=HI.out.siz
        simp only [Fst.size] at hsz
        have HCALL:=hidE (IH.out x Kx oo deep' ink' wr (by omega) HI.out.atf.one ⟨hfc.1,hfc.2.1,hfc.2.2.1,hfc.2.2.2.1,trivial⟩ (HA.out.past (HBW2.out.trans (HI.out.bel.mono HBW2.out.size))) (HTAB.out.past (HBW2.out.trans (HI.out.bel.mono HBW2.out.size))))
        clear hpre hprel hge hkc hsz
        go_wp2_with fail
        ((with_reducible refine HCALL.out.mono ?_);rintro e w5 ⟨z',vk',rfl,hs5,hb5⟩)
        obtain ⟨u,hu⟩:∃ u,u = nzT x Kx oo:=⟨_,rfl⟩
        rw [← hu] at hs5 ⊢
        obtain ⟨ak',ck',rfl,_,_⟩:=hs5.shape
        have HU:=hidE hu
        obtain ⟨w6,hw6⟩:∃ w6,w6 = w5.alloc (.cells (tcA u.1 z' (.slice ak' u.2.len ck')) 62):=⟨_,rfl⟩
        have hb56:Below w5.heap.size w5 w6:=by rw [hw6];(repeat (first | exact Below.refl _ _ | assumption | refine balloc ?_ _ | refine below_drewN ?_ _ | refine bstep (by assumption) ?_ | refine bstep (Past.prop _) ?_ | refine Below.setCell ?_ (by first | exact Nat.le_refl _ | (simp;done) | (simp;omega)) _))
        have hb6:Below wr.heap.size wr w6:=hb5.trans (hb56.mono hb5.size)
        have hkb:Blk w6 w5.heap.size (tcA u.1 z' (.slice ak' u.2.len ck')) 62:=by rw [hw6];exact Blk.made _ _ _
        have h5s:=hb5.size;have h6s:=hb56.size
        have HS6:=hidE (hs5.sam (Sam.past hb56));have HKB:=hidE hkb;have HB6:=hidE hb6
        have HBK6:=hidE (HBK.out.past hb6);have HOW6:=hidE (own_below HOW.out hb6)
        have HRX6:=hidE (HRX.out.sam (Sam.past hb6))
        have t6:=HBK6.out.cell 6;have tz:=HBK6.out.lt
        have kz0:=hkb.cell 0;have kz1:=hkb.cell 1;have kz2:=hkb.cell 2;have kz3:=hkb.cell 3;have kz4:=hkb.cell 4;have kz5:=hkb.cell 5;have kz6:=hkb.cell 6;have kzz:=hkb.lt
        simp at t6 kz0 kz1 kz2 kz3 kz4 kz5 kz6
        obtain ⟨ix,hix,hz0,hzz,hz4⟩:=info_parts Tryz.infoTermN
        have HIX:=hidE hix;have HZ0:=hidE hz0;have HY1:=hidE hzz;have HY2:=hidE hz4
        have hrowlt:∀ j,(Value.slice aa D.length ca).ownBlock = some j→w2.heap.size + 1≤j∧j < wr.heap.size:=fun j hj => ⟨own_block HOW.out hj,own_lt HOW.out hj⟩
        have HRL:=hidE hrowlt
        have hxl:xs.length = D.length * 7:=HOW.out.1
        clear hix hz0 hzz hz4 hu hs5 hb5 hb56 hb6 hkb HCALL k0 hrowlt hfc
        have HSTEP:=hidE (fun wb w' g' cp' a0 a1 a2 a3 a4 a5 a6 hb own' hg hgB hat => HI.out.both HU.out HBK.out HOW.out HRX.out HB6.out HS6.out (z':=z') wb w' g' cp' a0 a1 a2 a3 a4 a5 a6 hb own' hg hgB hat)
        go_upto_region 7 with fail
        rw [← hw6]
        clear hw6
        have hlen:(D ++ [u]).length + N.len = K.len:=by simp only [Fst.len] at hDC;simp;omega
        have HLEN:=hidE hlen
        clear hlen
        go_region_law ((refine step_appAt rfl (.tmp 33) (.tmp 36) 60 rfl (w2.heap.size + 1) 62 ix _ 7 64 Tryz.underlying60 HIX.out HZ0.out HY1.out HY2.out rfl (by decide) (.slice aa D.length ca) D.length xs rfl (own_below HOW6.out (by (repeat (first | exact Below.refl _ _ | assumption | refine balloc ?_ _ | refine below_drewN ?_ _ | refine bstep (by assumption) ?_ | refine bstep (Past.prop _) ?_ | refine Below.setCell ?_ (by first | exact Nat.le_refl _ | (simp;done) | (simp;omega)) _)))) _ 1 1 [.int .u8 0,.int .u32 0,.int .u32 0,.int .i64 0,.int .i64 0,.int .i64 0,.slice none 0 0] rfl rfl (blk_news (Blk.made_at _ _ _ _ (by first | rfl | (simp;done)))) (by intro y hy;simp at hy;rcases hy with rfl | rfl | rfl | rfl | rfl | rfl | rfl <;> rfl) (by omega) (by omega) (by simp;omega) ?_;intro v' w' own' hg' hat';obtain ⟨g',cp',rfl,hgB,hgz,hcp⟩:=own_pos own';have hne5:some w5.heap.size ≠ (Value.slice aa D.length ca).ownBlock:=(fun e => (by have:=HRL.out _ e.symm;omega));have hneq:some w2.heap.size ≠ (Value.slice aa D.length ca).ownBlock:=(fun e => (by have:=HRL.out _ e.symm;omega));have x5:=(HKB.out.past (show Below w6.heap.size w6 _ from by (repeat (first | exact Below.refl _ _ | assumption | refine balloc ?_ _ | refine below_drewN ?_ _ | refine bstep (by assumption) ?_ | refine bstep (Past.prop _) ?_ | refine Below.setCell ?_ (by first | exact Nat.le_refl _ | (simp;done) | (simp;omega)) _)))).grown hg' hne5;have xq:=(HBK6.out.past (show Below w6.heap.size w6 _ from by (repeat (first | exact Below.refl _ _ | assumption | refine balloc ?_ _ | refine below_drewN ?_ _ | refine bstep (by assumption) ?_ | refine bstep (Past.prop _) ?_ | refine Below.setCell ?_ (by first | exact Nat.le_refl _ | (simp;done) | (simp;omega)) _)))).grown hg' hneq;have x0:=x5.cell 0;have x1:=x5.cell 1;have x2:=x5.cell 2;have x3:=x5.cell 3;have x4:=x5.cell 4;have x6:=x5.cell 5;have x7:=x5.cell 6;have xz:=x5.lt;have xq6:=xq.cell 6;have xqf:=xq.free 6;have xqz:=xq.lt;have r0:=own_cell (j:=D.length * 7 + 0) own' (by rw [List.getElem?_append_right (by omega),hxl,Nat.add_sub_cancel_left];rfl);have r1:=own_cell (j:=D.length * 7 + 1) own' (by rw [List.getElem?_append_right (by omega),hxl,Nat.add_sub_cancel_left];rfl);have r2:=own_cell (j:=D.length * 7 + 2) own' (by rw [List.getElem?_append_right (by omega),hxl,Nat.add_sub_cancel_left];rfl);have r3:=own_cell (j:=D.length * 7 + 3) own' (by rw [List.getElem?_append_right (by omega),hxl,Nat.add_sub_cancel_left];rfl);have r4:=own_cell (j:=D.length * 7 + 4) own' (by rw [List.getElem?_append_right (by omega),hxl,Nat.add_sub_cancel_left];rfl);have r5:=own_cell (j:=D.length * 7 + 5) own' (by rw [List.getElem?_append_right (by omega),hxl,Nat.add_sub_cancel_left];rfl);have r6:=own_cell (j:=D.length * 7 + 6) own' (by rw [List.getElem?_append_right (by omega),hxl,Nat.add_sub_cancel_left];rfl);have e0:=own'.frozenAt (D.length * 7);have e1:=own'.frozenAt (D.length * 7 + 1);have e2:=own'.frozenAt (D.length * 7 + 2);have e3:=own'.frozenAt (D.length * 7 + 3);have e4:=own'.frozenAt (D.length * 7 + 4);have e5:=own'.frozenAt (D.length * 7 + 5);have e6:=own'.frozenAt (D.length * 7 + 6);simp at x0 x1 x2 x3 x4 x6 x7 xq6 r0 r1 r2 r3 r4 r5 r6;have hDl:(D.length:Int) < (D.length:Int) + 1:=(by omega);have XQ:=hidE xq;clear x5 xq))
        all_goals
          clear t6 kz0 kz1 kz2 kz3 kz4 kz5 kz6 kzz x0 x1 x2 x3 x4 x6 x7 xz xq6 xqf xqz r0 r1 r2 r3 r4 r5 r6 e0 e1 e2 e3 e4 e5 e6 XQ
          go_wp2
          go_roundg N.len
          case measure => have:=HGH.out;simp only [Fst.len] at this;omega
          case rel =>
            refine ⟨D ++ [u],N,oo + 1 + Kx.size,by simp,Nat.le_refl _,HLEN.out, ?_⟩
            have hbw:=same_grown hg' (a:=w6) (by (repeat (first | exact Below.refl _ _ | assumption | refine balloc ?_ _ | refine below_drewN ?_ _ | refine bstep (by assumption) ?_ | refine bstep (Past.prop _) ?_ | refine Below.setCell ?_ (by first | exact Nat.le_refl _ | (simp;done) | (simp;omega)) _)))
            obtain ⟨hA,hB⟩:=HSTEP.out _ _ _ _ _ _ _ _ _ _ _ hbw own' hg' hgB hat'
            first
              | with_reducible exact hA
              | with_reducible exact hB
end
end Go.Proofs.YthlepbbdjmmelaaGreatDoor
