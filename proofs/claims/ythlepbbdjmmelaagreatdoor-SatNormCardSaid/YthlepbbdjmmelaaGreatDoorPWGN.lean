/- The contract of package norm's Norm. Conditions: the slice reads as parts, the tables; for the normal form: the parts are those of a definition that may be. The walk of the statement on normal forms and witnesses mapped back. Conditions: sizes, that the slices read as parts, as pieces; the tables. -/
import Derived.Test.YthlepbbdjmmelaaGreatDoorPWGM
import Derived.Test.YthlepbbdjmmelaaGreatDoorPWGC
import Derived.Test.YthlepbbdjmmelaaGreatDoorPWGJ
import Derived.Test.YthlepbbdjmmelaaGreatDoorPWGK
import Derived.Test.YthlepbbdjmmelaaGreatDoorPWGG
namespace Go.Proofs.YthlepbbdjmmelaaGreatDoor
section
open Go.ChangeShapes Go.WideShapes Go.ChangeAt Go.RowKit
attribute [local irreducible] Go.Calls
def NormIs (w:World) (fr to':Int) (l:List Prt) (k:List Nat) (e:Ending) (w':World):Prop :=
  ∃ (a a2:Option Addr) (c c2:Nat),e = .returned (.tuple #[defV fr to' a l.length c,.slice a2 k.length c2,.int .i64 0])∧l.length≤c∧c≤9223372036854775807∧ArgP w' a l∧ArgK .i64 w' a2 (natsI k)∧Below w.heap.size w w'
theorem frI_nat {F:Fst} {y:Prt} {K:Fst} (hF:F = .cons y K .nil):frI (nzT y K 0) = natsI (fromF (plainF (lab F 0))):=by
  subst hF
  have e:plainF (lab (.cons y K .nil) 0) = .cons (nzT y K 0).1 (nzT y K 0).2 .nil:=by rw [plain_lab];rfl
  have h:∀ x ∈ prsF (plainF (lab (Fst.cons y K .nil) 0)),0≤x.kids:=fun x hx => by
    have h1:=plain_cnt x (lab (.cons y K .nil) 0)
    have h2:=List.count_pos_iff.2 hx
    have hm:x ∈ prsF (lab (Fst.cons y K .nil) 0):=List.count_pos_iff.1 (by omega)
    obtain ⟨i,hi⟩:=List.getElem?_of_mem hm
    have hil:i < (Fst.cons y K .nil).size:=by have:=(List.getElem?_eq_some_iff.1 hi).1;rw [prsF_len,(lab_len _ 0).2] at this;exact this
    obtain ⟨x',h3,h4⟩:=lab_prs (.cons y K .nil) 0 i hil
    rw [hi] at h3;cases h3
    rw [h4];omega
  have e2:frI (nzT y K 0) = (prsF (plainF (lab (Fst.cons y K .nil) 0))).map (·.kids):=by rw [e];simp [frI,prsF]
  rw [e2]
  unfold natsI fromF
  rw [List.map_map]
  refine List.map_congr_left fun x hx => ?_
  have:=h x hx
  simp only [Function.comp];omega
theorem flat_nz {F:Fst} {y:Prt} {K:Fst} (hF:F = .cons y K .nil):flT (nzT y K 0) = (plainF (lab F 0)).flat∧sizT (nzT y K 0) = (plainF (lab F 0)).size:=by
  subst hF
  have e:plainF (lab (.cons y K .nil) 0) = .cons (nzT y K 0).1 (nzT y K 0).2 .nil:=by rw [plain_lab];rfl
  exact ⟨by rw [e];rfl,by rw [e];simp [sizT,Fst.size]⟩
theorem one_cons {F:Fst} (h:F.len = 1):∃ y K,F = .cons y K .nil:=by
  match F,h with
  | .cons y K .nil,_ => exact ⟨y,K,rfl⟩
  | .cons y K (.cons _ _ _),h => simp only [Fst.len] at h;omega
theorem argP_of {w:World} {B:Nat} {e:TypeId} {a:Option Addr} {c:Nat} {l:List Prt} (h:w.ownsRow B e 5 (.slice a l.length c) l.length (cellsOfP l)):ArgP w a l∧l.length≤c∧c≤9223372036854775807:=by
  obtain ⟨_,_,e,h1,h2,h⟩:=sliP_own h
  cases e;exact ⟨h,h1,h2⟩
theorem argK_of {w:World} {B:Nat} {e:TypeId} {a:Option Addr} {c:Nat} {l:List Int} (h:w.ownsRow B e 1 (.slice a l.length c) l.length (cellsK .i64 l)):ArgK .i64 w a l:=by
  obtain ⟨_,_,e,h⟩:=argK_own h
  cases e;exact h
set_option maxHeartbeats 4000000 in
set_option maxRecDepth 100000 in
theorem norm_c (fr to':Int) (F:Fst) (a:Option Addr) (cap n:Nat) (hn:n = F.flat.length) (w:World) (hA:ArgP w a F.flat) (h:chkS fr to' F.flat = (0,0)) (_hk:F.kok) (hl:F.len = 1) (hf:F.fit 1 0) (hs:F.size≤64) (hT:Tab w) (hfr : -9223372036854775808≤fr∧fr≤9223372036854775807) (hto : -9223372036854775808≤to'∧to'≤9223372036854775807) :
    Calls Tryz.prog 5 #[defV fr to' a n cap] w (NormIs w fr to' (plainF (lab F 0)).flat (fromF (plainF (lab F 0)))):=by
  subst hn
  have htr:(treeS F.flat).2 = 0:=by rw [tree_fit hl hs hf]
  have hlen:F.flat.length≤64:=by rw [flat_len];exact hs
  have HCK:=hidE (fun w' (hA':ArgP w' a F.flat) => shchk_c fr to' F.flat a cap w' (by omega) hA' hfr hto)
  rw [h] at HCK
  obtain ⟨y,K,hF⟩:=one_cons hl
  have HFR:=hidE (frI_nat hF);have HFL:=hidE (flat_nz hF)
  have HNZ:=hidE (fun w' (hA':ArgP w' a F.flat) (hT':Tab w') => show Calls Tryz.prog 17 #[.slice a F.flat.length cap,.int .i64 0] w' (NzPost w' (nzT y K 0)) from normalized_c F.flat cap a hlen htr (K.size + 1) y K 0 1 0 w' (Nat.lt_succ_self _) (by have:=atF_whole hs hf;rw [hF] at this ⊢;exact this) (by rw [hF] at hf;exact hf) hA' hT')
  have hsz:(plainF (lab F 0)).size≤64:=by have:=(plain_siz (lab F 0)).1;rw [(lab_len F 0).2] at this;omega
  have HA:=hidE hA;have HTB:=hidE hT
  clear hA hT htr hf hF h
  go_enter Tryz.func5,Tryz.ntmps5
  go_wp2_with fail
  obtain ⟨w1,hw1⟩:∃ w1,w1 = (w.alloc (.cells #[.int .i64 fr,.int .i64 to',.slice a F.flat.length cap] 24)).alloc (.cells #[.int .i64 0,.int .i64 0,.slice none 0 0] 24):=⟨_,rfl⟩
  rw [← hw1]
  have hb1:Below w.heap.size w w1:=by rw [hw1];(repeat (first | exact Below.refl _ _ | assumption | refine balloc ?_ _ | refine below_drewN ?_ _ | refine bstep (by assumption) ?_ | refine bstep (Past.prop _) ?_ | refine Below.setCell ?_ (by first | exact Nat.le_refl _ | (simp;done) | (simp;omega)) _))
  have hbox:Blk w1 w.heap.size #[.int .i64 fr,.int .i64 to',.slice a F.flat.length cap] 24:=by rw [hw1];exact (Blk.made _ _ _).alloc _
  have hres:Blk w1 (w.heap.size + 1) #[.int .i64 0,.int .i64 0,.slice none 0 0] 24:=by rw [hw1];exact Blk.made_at _ _ _ _ (by simp)
  clear hw1
  ((with_reducible refine (HCK.out w1 (HA.out.past hb1)).mono ?_);rintro e w2 ⟨rfl,hb2⟩)
  have hb12:Below w.heap.size w w2:=hb1.trans (hb2.mono hb1.size)
  have HBOX:=hidE (hbox.past hb2);have HRES:=hidE (hres.past hb2);have HB2:=hidE hb12
  have b2:=HBOX.out.cell 2;have bz:=HBOX.out.lt;have rz:=HRES.out.lt
  simp at b2
  clear hb1 hb2 hbox hres hb12 HCK
  go_wp2_with fail
  obtain ⟨w3,hw3⟩:∃ w3,w3 = w2.alloc (.cells #[.slice none 0 0,.slice none 0 0] 55):=⟨_,rfl⟩
  rw [← hw3]
  have hb3:Below w2.heap.size w2 w3:=by rw [hw3];(repeat (first | exact Below.refl _ _ | assumption | refine balloc ?_ _ | refine below_drewN ?_ _ | refine bstep (by assumption) ?_ | refine bstep (Past.prop _) ?_ | refine Below.setCell ?_ (by first | exact Nat.le_refl _ | (simp;done) | (simp;omega)) _))
  have hls:Blk w3 w2.heap.size #[.slice none 0 0,.slice none 0 0] 55:=by rw [hw3];exact Blk.made _ _ _
  have hz3:w3.heap.size = w2.heap.size + 1:=by rw [hw3];simp
  have hw13:=HB2.out.trans (hb3.mono HB2.out.size)
  clear hw3 b2
  ((with_reducible refine (HNZ.out w3 (HA.out.past hw13) (HTB.out.past hw13)).mono ?_);rintro e w4 ⟨z4,v4,rfl,hs4,hb4⟩)
  have h4s:=hb4.size
  obtain ⟨t,ht⟩:∃ t,t = nzT y K 0:=⟨_,rfl⟩
  rw [← ht] at hs4 ⊢
  have hsT:sizT t≤64:=by rw [ht,HFL.out.2];exact hsz
  have hl4:ListAt w4.heap.size w2.heap.size w4 [] []:=⟨_,_,hls.past hb4,own_nil _ _ _,own_nil _ _ _⟩
  have hsn:∀ k,Old (fun k => w3.heap.size≤k) w4 k→k < w4.heap.size∧k ≠ w2.heap.size:=fun k q => by have h1:=q.1;have h2:=q.2;omega
  have HADD:=hidE (add_c (Old (fun k => w3.heap.size≤k) w4) w4.heap.size w2.heap.size (by omega) hsn (sizT t) t z4 v4 [] [] w4 (Nat.le_refl _) (Nat.le_refl _) hl4 hs4.old (by simp only [List.length_nil];omega) rfl)
  have HB4:=hidE (hw13.trans (hb4.mono hw13.size));have HBOX4:=hidE ((HBOX.out.past hb3).past hb4);have HRES4:=hidE ((HRES.out.past hb3).past hb4)
  have HT:=hidE ht
  clear hs4 hb4 hls hb3 hw13 hl4 hsn ht HNZ HBOX HRES HTB HA
  go_wp2_with fail
  ((with_reducible refine HADD.out.mono ?_);rintro e w5 ⟨rfl,hl5,hbar5⟩)
  obtain ⟨vp,vf,hb5,hp5,hf5⟩:=hl5
  obtain ⟨ap,cp,rfl⟩:=own_sli hp5
  obtain ⟨af,cf,rfl⟩:=own_sli hf5
  simp only [List.nil_append] at hp5 hb5 hf5
  have k5:Blk w5 w.heap.size #[.int .i64 fr,.int .i64 to',.slice a F.flat.length cap] 24:=(hbar5.block _ (by omega) (by omega)).trans HBOX4.out
  have r5:Blk w5 (w.heap.size + 1) #[.int .i64 0,.int .i64 0,.slice none 0 0] 24:=(hbar5.block _ (by omega) (by omega)).trans HRES4.out
  have g0:=hb5.cell 0;have g1:=hb5.cell 1;have gz:=hb5.lt
  have q0:=k5.cell 0;have q1:=k5.cell 1;have qz:=k5.lt
  have s0:=r5.cell 0;have s1:=r5.cell 1;have s2:=r5.cell 2;have sz:=r5.lt
  have f0:=r5.free 0;have f1:=r5.free 1;have f2:=r5.free 2
  simp at g0 g1 q0 q1 s0 s1 s2
  have hfin:Blk (((w5.setCell ⟨w.heap.size + 1,0,none⟩ (.int .i64 fr)).setCell ⟨w.heap.size + 1,1,none⟩ (.int .i64 to')).setCell ⟨w.heap.size + 1,2,none⟩ (.slice ap (flT t).length cp)) (w.heap.size + 1) #[.int .i64 fr,.int .i64 to',.slice ap (flT t).length cp] 24:=by
    have h0:=r5.set 0 (.int .i64 fr)
    simp only [List.setIfInBounds_toArray,List.set_cons_zero] at h0
    have h1:=h0.set 1 (.int .i64 to')
    simp only [List.setIfInBounds_toArray,List.set_cons_zero,List.set_cons_succ] at h1
    have h2:=h1.set 2 (.slice ap (flT t).length cp)
    simp only [List.setIfInBounds_toArray,List.set_cons_zero,List.set_cons_succ] at h2
    exact h2
  have hgr:w5.grownBy (((w5.setCell ⟨w.heap.size + 1,0,none⟩ (.int .i64 fr)).setCell ⟨w.heap.size + 1,1,none⟩ (.int .i64 to')).setCell ⟨w.heap.size + 1,2,none⟩ (.slice ap (flT t).length cp)) (some (w.heap.size + 1)):=grown_trans (grown_trans (grown_set _ _ _ _) (grown_set _ _ _ _)) (grown_set _ _ _ _)
  have HP2:=hidE (argP_of (own_grown hp5 hgr (by omega)))
  have HF2:=hidE (argK_of (own_grown hf5 hgr (by omega)))
  have HFIN:=hidE hfin
  have hbel:Below w.heap.size w w5:=HB4.out.trans ⟨hbar5.os,hbar5.tape,hbar5.output,hbar5.size,fun k hk => hbar5.block k (by omega) (by omega)⟩
  have HBF:=hidE (Below.grown hbel hgr hbel.size (fun k e => by cases e;omega))
  have HNL:=hidE (show (flT t).length = (plainF (lab F 0)).flat.length∧(frI t).length = (fromF (plainF (lab F 0))).length from by
    rw [HT.out,HFL.out.1,HFR.out,natsI_len];exact ⟨rfl,rfl⟩)
  obtain ⟨np,hnp⟩:∃ np,np = (flT t).length:=⟨_,rfl⟩
  obtain ⟨nf,hnf⟩:∃ nf,nf = (frI t).length:=⟨_,rfl⟩
  rw [← hnp] at g0 HFIN HBF HP2 HF2
  rw [← hnf] at g1
  have HNP:=hidE hnp;have HNF:=hidE hnf
  clear hfin hgr hbel hp5 hf5 hb5 hbar5 k5 r5 hnp hnf HADD HB4 HBOX4 HRES4
  go_upto_region 6 with fail
  go_region
  all_goals
    go_wp2
    have c0:=HFIN.out.cell 0;have c1:=HFIN.out.cell 1;have c2:=HFIN.out.cell 2
    simp at c0 c1 c2
    generalize ((w5.setCell ⟨w.heap.size + 1,0,none⟩ (.int .i64 fr)).setCell ⟨w.heap.size + 1,1,none⟩ (.int .i64 to')).setCell ⟨w.heap.size + 1,2,none⟩ (.slice ap np cp) = W at *
    refine bodyPost_ret (v := .tuple #[defV fr to' ap np cp,.slice af nf cf,.int .i64 0]) (by simp [results,Tryz.results5,go_sem,c0,c1,c2]) rfl ⟨ap,af,cp,cf, ?_, ?_,HP2.out.2.2, ?_, ?_,by first | exact HBF.out | exact HBF.out.drew⟩
    · rw [← HNL.out.1,← HNL.out.2,← HNP.out,← HNF.out]
    · rw [← HNL.out.1,← HNP.out];exact HP2.out.2.1
    · rw [← HFL.out.1,← HT.out];exact HP2.out.1
    · rw [← HFR.out,← HT.out];exact HF2.out
set_option maxHeartbeats 4000000 in
set_option maxRecDepth 100000 in
theorem norm_e (fr to':Int) (l:List Prt) (a:Option Addr) (cap:Nat) (w:World) (hl:l.length≤9223372036854775807) (hA:ArgP w a l) (hf : -9223372036854775808≤fr∧fr≤9223372036854775807) (ht : -9223372036854775808≤to'∧to'≤9223372036854775807) (h:(chkS fr to' l).2 ≠ 0) :
    Calls Tryz.prog 5 #[defV fr to' a l.length cap] w fun e w' => e = .returned (.tuple #[defV 0 0 none 0 0,.slice none 0 0,.int .i64 81])∧Below w.heap.size w w':=by
  have HCK:=hidE (fun w' (hA':ArgP w' a l) => shchk_c fr to' l a cap w' hl hA' hf ht)
  obtain ⟨z1,z2,hz⟩:∃ z1 z2,chkS fr to' l = (z1,z2):=⟨_,_,rfl⟩
  rw [hz] at HCK h
  have hne:(z2 != 0) = true:=by simpa using h
  have HA:=hidE hA
  clear hA hz h
  go_enter Tryz.func5,Tryz.ntmps5
  go_wp2_with fail
  obtain ⟨w1,hw1⟩:∃ w1,w1 = (w.alloc (.cells #[.int .i64 fr,.int .i64 to',.slice a l.length cap] 24)).alloc (.cells #[.int .i64 0,.int .i64 0,.slice none 0 0] 24):=⟨_,rfl⟩
  rw [← hw1]
  have hb1:Below w.heap.size w w1:=by rw [hw1];(repeat (first | exact Below.refl _ _ | assumption | refine balloc ?_ _ | refine below_drewN ?_ _ | refine bstep (by assumption) ?_ | refine bstep (Past.prop _) ?_ | refine Below.setCell ?_ (by first | exact Nat.le_refl _ | (simp;done) | (simp;omega)) _))
  have hres:Blk w1 (w.heap.size + 1) #[.int .i64 0,.int .i64 0,.slice none 0 0] 24:=by rw [hw1];exact Blk.made_at _ _ _ _ (by simp)
  clear hw1
  ((with_reducible refine (HCK.out w1 (HA.out.past hb1)).mono ?_);rintro e w2 ⟨rfl,hb2⟩)
  have r5:=hres.past hb2
  have HB2:=hidE (hb1.trans (hb2.mono hb1.size))
  have s0:=r5.cell 0;have s1:=r5.cell 1;have s2:=r5.cell 2;have sz:=r5.lt
  have f0:=r5.free 0;have f1:=r5.free 1;have f2:=r5.free 2
  simp at s0 s1 s2
  have hfin:Blk (((w2.setCell ⟨w.heap.size + 1,0,none⟩ (.int .i64 0)).setCell ⟨w.heap.size + 1,1,none⟩ (.int .i64 0)).setCell ⟨w.heap.size + 1,2,none⟩ (.slice none 0 0)) (w.heap.size + 1) #[.int .i64 0,.int .i64 0,.slice none 0 0] 24:=by
    have h0:=r5.set 0 (.int .i64 0)
    simp only [List.setIfInBounds_toArray,List.set_cons_zero] at h0
    have h1:=h0.set 1 (.int .i64 0)
    simp only [List.setIfInBounds_toArray,List.set_cons_zero,List.set_cons_succ] at h1
    have h2:=h1.set 2 (.slice none 0 0)
    simp only [List.setIfInBounds_toArray,List.set_cons_zero,List.set_cons_succ] at h2
    exact h2
  have hgr:w2.grownBy (((w2.setCell ⟨w.heap.size + 1,0,none⟩ (.int .i64 0)).setCell ⟨w.heap.size + 1,1,none⟩ (.int .i64 0)).setCell ⟨w.heap.size + 1,2,none⟩ (.slice none 0 0)) (some (w.heap.size + 1)):=grown_trans (grown_trans (grown_set _ _ _ _) (grown_set _ _ _ _)) (grown_set _ _ _ _)
  have HFIN:=hidE hfin
  have HBF:=hidE (Below.grown HB2.out hgr HB2.out.size (fun k e => by cases e;omega))
  clear hb1 hb2 hres r5 hfin hgr HCK HA
  go_wp2
  have c0:=HFIN.out.cell 0;have c1:=HFIN.out.cell 1;have c2:=HFIN.out.cell 2
  simp at c0 c1 c2
  generalize ((w2.setCell ⟨w.heap.size + 1,0,none⟩ (.int .i64 0)).setCell ⟨w.heap.size + 1,1,none⟩ (.int .i64 0)).setCell ⟨w.heap.size + 1,2,none⟩ (.slice none 0 0) = W at *
  refine bodyPost_ret (v := .tuple #[defV 0 0 none 0 0,.slice none 0 0,.int .i64 81]) (by simp [results,Tryz.results5,go_sem,c0,c1,c2]) rfl ⟨rfl,HBF.out⟩
end
section
open Go.ChangeShapes Go.WideShapes Go.ChangeAt Go.RowKit
attribute [local irreducible] Go.Calls
theorem lookN_zero (t:TI):lookT 0 t = t:=by unfold lookT;exact if_pos rfl
structure NL (W0:World) (fr to':Int) (a:Option Addr) (l:List Prt) (cap:Nat) (wa:Option Addr) (W:List Pc) (w:World):Prop where
  bel:Below W0.heap.size W0 w
  d:Blk w W0.heap.size #[.int .i64 fr,.int .i64 to',.slice a l.length cap] 24
  T:ArgP w a l
  P:ArgVs w wa W
  B:Tab w
theorem NL.past {W0:World} {fr to':Int} {a:Option Addr} {l:List Prt} {cap:Nat} {wa:Option Addr} {W:List Pc} {w w':World} (h:NL W0 fr to' a l cap wa W w) (hb:Below w.heap.size w w'):NL W0 fr to' a l cap wa W w':=⟨h.bel.trans (hb.mono h.bel.size),h.d.past hb,h.T.past hb,h.P.past hb,h.B.past hb⟩
structure NQ (W0:World) (fr to':Int) (a:Option Addr) (l:List Prt) (cap:Nat) (wa:Option Addr) (W:List Pc) (p:Nat) (ap:Option Addr) (Q:List Prt) (cp:Nat) (ab:Option Addr) (B:List Pc) (w:World):Prop where
  n:NL W0 fr to' a l cap wa W w
  c:Blk w p #[.int .i64 fr,.int .i64 to',.slice ap Q.length cp] 24
  Q:ArgP w ap Q
  K:ArgVs w ab B
theorem NQ.past {W0:World} {fr to':Int} {a:Option Addr} {l:List Prt} {cap:Nat} {wa:Option Addr} {W:List Pc} {p:Nat} {ap:Option Addr} {Q:List Prt} {cp:Nat} {ab:Option Addr} {B:List Pc} {w w':World} (h:NQ W0 fr to' a l cap wa W p ap Q cp ab B w) (hb:Below w.heap.size w w'):NQ W0 fr to' a l cap wa W p ap Q cp ab B w':=⟨h.n.past hb,h.c.past hb,h.Q.past hb,h.K.past hb⟩
theorem rsame_twoN {w:World} {n m c1 c2:Nat} {a1 a2:Option Addr} {F:List Sg} (h1:SliS w (.slice a1 n c1) F) (h2:SliS w (.slice a2 m c2) F) :
    Calls Tryz.prog 11 #[.slice a1 n c1,.slice a2 m c2] w fun e w' => e = .returned (.bool true)∧Below w.heap.size w w' :=
  rsame_10 h1 h2 (by unfold sameB;simp)
set_option maxRecDepth 100000 in
set_option maxHeartbeats 8000000 in
theorem satnorm_walk (fr to':Int) (l:List Prt) (W:List Pc) (a wa:Option Addr) (cap wcap:Nat) (W0:World) (hl:l.length≤9223372036854775807) (hWl:W.length≤9223372036854775807) (hA:ArgP W0 a l) (hP:ArgVs W0 wa W) (hf : -9223372036854775808≤fr∧fr≤9223372036854775807) (ht : -9223372036854775808≤to'∧to'≤9223372036854775807) (hTab:Tab W0) :
    Calls Tryz.prog 3 #[def8 fr to' a l.length cap,.slice wa W.length wcap] W0 fun e w' => e = .returned (.bool true)∧Below W0.heap.size W0 w':=by
  have HB0:=hidE (show Below W0.heap.size W0 (W0.alloc (.cells #[.int .i64 fr,.int .i64 to',.slice a l.length cap] 24)) from by (repeat (first | exact Below.refl _ _ | assumption | refine balloc ?_ _ | refine below_drewN ?_ _ | refine bstep (by assumption) ?_ | refine bstep (Past.prop _) ?_ | refine Below.setCell ?_ (by first | exact Nat.le_refl _ | (simp;done) | (simp;omega)) _)))
  have HT0:=hidE (show NL W0 fr to' a l cap wa W (W0.alloc (.cells #[.int .i64 fr,.int .i64 to',.slice a l.length cap] 24)) from ⟨HB0.out,Blk.made _ _ _,hA.past HB0.out,hP.past HB0.out,hTab.past HB0.out⟩)
  have HH:=hidE head10_c
  by_cases hg:100 < l.length ∨ 100 < W.length
  · by_cases h1:100 < l.length
    · have d1:decide ((100:Int) < (l.length:Int)) = true:=decide_eq_true (by omega)
      have d1':decide (100 < l.length) = true:=decide_eq_true (by omega)
      clear hg h1 hl hWl hA hP hf ht hTab
      go_enter Tryz.func3,Tryz.ntmps3
      go_wp2_with (go_at_call 4;(with_reducible refine (HH.out _).mono ?_);rintro e w1 ⟨rfl,hb1⟩)
      go_ret
      exact ⟨rfl,HB0.out.trans (hb1.mono HB0.out.size)⟩
    · have d1:decide ((100:Int) < (l.length:Int)) = false:=decide_eq_false (by omega)
      have d1':decide (100 < l.length) = false:=decide_eq_false (by omega)
      have d2:decide ((100:Int) < (W.length:Int)) = true:=decide_eq_true (by omega)
      have d2':decide (100 < W.length) = true:=decide_eq_true (by omega)
      clear hg h1 hl hWl hA hP hf ht hTab
      go_enter Tryz.func3,Tryz.ntmps3
      go_wp2_with (go_at_call 4;(with_reducible refine (HH.out _).mono ?_);rintro e w1 ⟨rfl,hb1⟩)
      go_ret
      exact ⟨rfl,HB0.out.trans (hb1.mono HB0.out.size)⟩
  have hl1:l.length≤100:=by omega
  have hW1:W.length≤100:=by omega
  have d1:decide ((100:Int) < (l.length:Int)) = false:=decide_eq_false (by omega)
  have d1':decide (100 < l.length) = false:=decide_eq_false (by omega)
  have d2:decide ((100:Int) < (W.length:Int)) = false:=decide_eq_false (by omega)
  have d2':decide (100 < W.length) = false:=decide_eq_false (by omega)
  by_cases hck:(chkS fr to' l).2 = 0
  · obtain ⟨hok,_,htr,_,_⟩:=chk_ok hck
    obtain ⟨F,hkF,hlF,hFl,hfF,hsF⟩:=fit_tree htr
    have hchk:chkS fr to' F.flat = (0,0):=by rw [← hFl];exact hok
    have NO:=hidE (fun (w:World) (h:NL W0 fr to' a l cap wa W w) => norm_c fr to' F a cap l.length (by rw [hFl]) w (by have:=h.T;rw [hFl] at this;exact this) hchk hkF hlF hfF hsF h.B hf ht)
    obtain ⟨Q,hQ⟩:∃ Q,(plainF (lab F 0)).flat = Q:=⟨_,rfl⟩
    obtain ⟨k,hk⟩:∃ k,fromF (plainF (lab F 0)) = k:=⟨_,rfl⟩
    have hQ64:Q.length≤64:=by rw [← hQ,flat_len];have:=(plain_siz (lab F 0)).1;rw [(lab_len F 0).2] at this;omega
    have hk64:k.length≤64:=by rw [← hk,fromF_len];have:=(plain_siz (lab F 0)).1;rw [(lab_len F 0).2] at this;omega
    rw [hQ,hk] at NO
    have HNR:=hidE (show ∀ B,(chkS fr to' Q).2 = 0→pcsB Q (-1) W = true→farB W = false→BackOk k W B→NrB fr to' F W B from fun B h1 h2 h3 h4 => ⟨hlF,hsF,hfF,hchk,by rw [hQ];exact h1,by rw [hQ];exact h2,h3,by rw [hk];exact h4⟩)
    have HFQ:=hidE hQ;have HFK:=hidE hk;have HFL:=hidE hFl
    have HA0:=hidE hA;have HP0:=hidE hP
    clear hkF hlF hfF hsF hQ hk hFl hchk hok htr hck hA hP hTab hg
    go_enter Tryz.func3,Tryz.ntmps3
    go_wp2_with fail
    generalize World.alloc _ _ = w1 at *
    have p0:=HT0.out.d.cell 0;have p1:=HT0.out.d.cell 1;have p2:=HT0.out.d.cell 2;have pz:=HT0.out.d.lt
    simp at p0 p1 p2
    ((with_reducible refine (NO.out _ HT0.out).mono ?_);rintro e w2 ⟨ap,af,cp,cf,rfl,hcp1,hcp2,hQ2,hK2,hb2⟩)
    go_wp2_with fail
    obtain ⟨w3,hw3⟩:∃ w3,w3 = w2.alloc (.cells #[.int .i64 fr,.int .i64 to',.slice ap Q.length cp] 24):=⟨_,rfl⟩
    rw [← hw3]
    have hb3:Below w2.heap.size w2 w3:=by rw [hw3];(repeat (first | exact Below.refl _ _ | assumption | refine balloc ?_ _ | refine below_drewN ?_ _ | refine bstep (by assumption) ?_ | refine bstep (Past.prop _) ?_ | refine Below.setCell ?_ (by first | exact Nat.le_refl _ | (simp;done) | (simp;omega)) _))
    have HC:=hidE (show Blk w3 w2.heap.size #[.int .i64 fr,.int .i64 to',.slice ap Q.length cp] 24 from by rw [hw3];exact Blk.made _ _ _)
    have HT:=hidE ((HT0.out.past hb2).past hb3)
    have HQA:=hidE (hQ2.past hb3)
    have HKA:=hidE (hK2.past hb3)
    clear HT0 hb2 hb3 hw3 hQ2 hK2 p0 p1 p2 pz NO hcp1 hcp2 HB0
    generalize w2.heap.size = p at *
    ((with_reducible refine (back_c k W af wa cf wcap w3 hk64 hW1 HKA.out HT.out.P).mono ?_);rintro e w4 ⟨vb,er,rfl,hb4,hdis⟩)
    replace HT:=hidE (HT.out.past hb4)
    replace HC:=hidE (HC.out.past hb4)
    replace HQA:=hidE (HQA.out.past hb4)
    clear hb4 HKA
    have c0:=HC.out.cell 0;have c1:=HC.out.cell 1;have c2:=HC.out.cell 2;have cz:=HC.out.lt
    simp at c0 c1 c2
    by_cases hz:er = 0
    · obtain ⟨_,B,hSB,hBK⟩:er = 0∧∃ B,SliVs w4 vb B∧BackOk k W B:=hdis.resolve_left (fun h => h hz)
      subst hz
      obtain ⟨ab,cb,rfl,hcb1,hcb2,hBA⟩:=hSB
      have hBl:B.length≤100:=by have:=hBK.prm.length_eq;rw [List.length_map] at this;omega
      have HQ:=hidE (show NQ W0 fr to' a l cap wa W p ap Q cp ab B w4 from ⟨HT.out,HC.out,HQA.out,hBA⟩)
      have CK:=hidE (rcheck_c fr to' Q W ap wa cp wcap 0 w4 (by omega) (by omega) HQ.out.Q HQ.out.n.P hf ht)
      obtain ⟨E,hE⟩:∃ E,wrongS fr to' Q (decide ((0:Int)≤0∧0 < (Q.length:Int))) W = E:=⟨_,rfl⟩
      rw [hE] at CK
      have HE:=hidE hE;have HBK:=hidE hBK
      clear hdis hBA hE hBK HT HC HQA hcb1 hcb2
      go_wp2_with fail
      ((with_reducible refine (CK.out).mono ?_);rintro e w5 ⟨rfl,hb5⟩)
      replace HQ:=hidE (HQ.out.past hb5)
      clear hb5 CK c0 c1 c2 cz
      have c0:=HQ.out.c.cell 0;have c1:=HQ.out.c.cell 1;have c2:=HQ.out.c.cell 2;have cz:=HQ.out.c.lt
      have p0:=HQ.out.n.d.cell 0;have p1:=HQ.out.n.d.cell 1;have p2:=HQ.out.n.d.cell 2;have pz:=HQ.out.n.d.lt
      simp at p0 p1 p2 c0 c1 c2
      by_cases hE0:E = 0
      · subst hE0
        obtain ⟨h1,h2,h3,h4⟩:=wrong_zero HE.out
        have hN:=HNR.out B h1 h3 h4 HBK.out
        obtain ⟨t,t',hh1,hh2,_,e2,e3⟩:=hN.here
        obtain ⟨s,s',gs1,gs2,f1,_,_⟩:=hN.bare
        have hl0:decide ((0:Int)≤0∧0 < (l.length:Int)) = true:=decide_eq_true ⟨by omega,by have h0:=(chk_ok (by rw [hN.chk]:(chkS fr to' F.flat).2 = 0)).2.2.2.1;rw [← HFL.out] at h0;omega⟩
        have u1:=hN.plain (fits:=unitB 3 2) (by decide)
        have u2:=hN.back (fits:=unitB 3 2) (by decide)
        have u3:=(hN.none h2).1
        have u4:=(hN.none hl0).2
        have u5:=hN.plain h2
        have u6:=hN.back hl0
        have u7:=hN.use (m:=3) (c:=2) (by decide)
        rw [HFQ.out] at u1 u3 u5 u7 hh1 gs1
        rw [← HFL.out] at u2 u4 u6 u7 hh2 gs2
        obtain ⟨LU,hLU⟩:∃ LU,useL Q 3 2 W = LU:=⟨_,rfl⟩
        obtain ⟨bl,hbl⟩:∃ bl,s.len = bl:=⟨_,rfl⟩
        obtain ⟨r,hr⟩:∃ r,(t.ok && (decide (fr≤seB t.se) && decide (seE t.se≤to'))) = r:=⟨_,rfl⟩
        have UC:=hidE (fun (w:World) (h:NQ W0 fr to' a l cap wa W p ap Q cp ab B w) => by
          have:=satUse_c fr to' 3 2 Q W ap wa cp wcap 0 w (by omega) (by omega) h.Q h.n.P hf ht u1
          rw [if_pos rfl,hLU] at this;exact this)
        have UD:=hidE (fun (w:World) (h:NQ W0 fr to' a l cap wa W p ap Q cp ab B w) => by
          have:=satUse_c fr to' 3 2 l B a ab cap cb 0 w (by omega) (by omega) h.n.T h.K hf ht u2
          rw [if_pos rfl,← u7,hLU] at this;exact this)
        have NC:=hidE (fun (w:World) (h:NQ W0 fr to' a l cap wa W p ap Q cp ab B w) => by
          have:=satShort_c fr to' Q ap cp 0 0 s w (by omega) h.Q hf ht (by omega) u3 (fun _ => gs1)
          rw [lookN_zero,hbl] at this;exact this)
        have ND:=hidE (fun (w:World) (h:NQ W0 fr to' a l cap wa W p ap Q cp ab B w) => by
          have:=satShort_c fr to' l a cap 0 0 s' w (by omega) h.n.T hf ht (by omega) u4 (fun _ => gs2)
          rw [lookN_zero,← f1,hbl] at this;exact this)
        have SC:=hidE (fun (w:World) (h:NQ W0 fr to' a l cap wa W p ap Q cp ab B w) => by
          have:=satSat_c fr to' Q W ap wa cp wcap 0 t w (by omega) (by omega) h.Q h.n.P hf ht u5 (fun _ => hh1)
          rw [lookN_zero,hr] at this;exact this)
        have SD:=hidE (fun (w:World) (h:NQ W0 fr to' a l cap wa W p ap Q cp ab B w) => by
          have:=satSat_c fr to' l B a ab cap cb 0 t' w (by omega) (by omega) h.n.T h.K hf ht u6 (fun _ => hh2)
          rw [lookN_zero,← e2,← e3,hr] at this;exact this)
        have q1:(r == r) = true:=beq_self_eq_true r
        have q2:(bl == bl) = true:=beq_self_eq_true bl
        clear HE HBK h1 h2 h3 h4 hN hh1 hh2 e2 e3 gs1 gs2 f1 hl0 u1 u2 u3 u4 u5 u6 u7 hLU hbl hr HNR HFQ HFK HFL HA0 HP0 hl hWl hl1 hW1 hBl hQ64 hk64 hf ht
        go_wp2_with fail
        ((with_reducible refine (UC.out _ HQ.out).mono ?_);rintro e w6 ⟨v6,rfl,hs6,hb6⟩)
        obtain ⟨sa,sc,rfl,_⟩:=id hs6
        have HS1:=hidE hs6
        replace HQ:=hidE (HQ.out.past hb6)
        clear hs6 hb6 c0 c1 c2 cz p0 p1 p2 pz
        have c0:=HQ.out.c.cell 0;have c1:=HQ.out.c.cell 1;have c2:=HQ.out.c.cell 2;have cz:=HQ.out.c.lt
        have p0:=HQ.out.n.d.cell 0;have p1:=HQ.out.n.d.cell 1;have p2:=HQ.out.n.d.cell 2;have pz:=HQ.out.n.d.lt
        simp at p0 p1 p2 c0 c1 c2
        go_wp2_with fail
        ((with_reducible refine (UD.out _ HQ.out).mono ?_);rintro e w7 ⟨v7,rfl,hs7,hb7⟩)
        obtain ⟨sa2,sc2,rfl,_⟩:=id hs7
        have HS2:=hidE hs7
        replace HQ:=hidE (HQ.out.past hb7)
        replace HS1:=hidE (HS1.out.past hb7)
        clear hs7 hb7 c0 c1 c2 cz p0 p1 p2 pz
        have c0:=HQ.out.c.cell 0;have c1:=HQ.out.c.cell 1;have c2:=HQ.out.c.cell 2;have cz:=HQ.out.c.lt
        have p0:=HQ.out.n.d.cell 0;have p1:=HQ.out.n.d.cell 1;have p2:=HQ.out.n.d.cell 2;have pz:=HQ.out.n.d.lt
        simp at p0 p1 p2 c0 c1 c2
        go_wp2_with fail
        ((with_reducible refine (NC.out _ HQ.out).mono ?_);rintro e w8 ⟨rfl,hb8⟩)
        replace HQ:=hidE (HQ.out.past hb8)
        replace HS1:=hidE (HS1.out.past hb8)
        replace HS2:=hidE (HS2.out.past hb8)
        clear hb8 c0 c1 c2 cz p0 p1 p2 pz
        have c0:=HQ.out.c.cell 0;have c1:=HQ.out.c.cell 1;have c2:=HQ.out.c.cell 2;have cz:=HQ.out.c.lt
        have p0:=HQ.out.n.d.cell 0;have p1:=HQ.out.n.d.cell 1;have p2:=HQ.out.n.d.cell 2;have pz:=HQ.out.n.d.lt
        simp at p0 p1 p2 c0 c1 c2
        go_wp2_with fail
        ((with_reducible refine (ND.out _ HQ.out).mono ?_);rintro e w9 ⟨rfl,hb9⟩)
        replace HQ:=hidE (HQ.out.past hb9)
        replace HS1:=hidE (HS1.out.past hb9)
        replace HS2:=hidE (HS2.out.past hb9)
        clear hb9 c0 c1 c2 cz p0 p1 p2 pz UC UD NC ND
        have c0:=HQ.out.c.cell 0;have c1:=HQ.out.c.cell 1;have c2:=HQ.out.c.cell 2;have cz:=HQ.out.c.lt
        have p0:=HQ.out.n.d.cell 0;have p1:=HQ.out.n.d.cell 1;have p2:=HQ.out.n.d.cell 2;have pz:=HQ.out.n.d.lt
        simp at p0 p1 p2 c0 c1 c2
        go_upto_region 11 with fail
        refine wp_region_past_lit (by kernel_rfl) (by kernel_rfl) ?_
        have hcp:=Past.cell (W:=w9)
        repeat (go_big_quiet_step (first | (go_at_call 11;exact Past.call _ (rsame_twoN (HS1.out.past (Past.prop _)) (HS2.out.past (Past.prop _)))) | (go_at_call 4;exact Past.call _ (HH.out _)) | (go_at_call 10;first | exact Past.call _ (SC.out _ (HQ.out.past (Past.prop _))) | exact Past.call _ (SD.out _ (HQ.out.past (Past.prop _))))))
        refine wpQuiet_nil ?_
        rintro _ ⟨xq,rfl⟩
        have HBF:=hidE (HQ.out.past xq.2).n.bel
        clear hcp c0 c1 c2 cz p0 p1 p2 pz
        generalize xq.1 = w10 at *
        go_wp2
        go_ret
        exact ⟨rfl,HBF.out⟩
      · have hne:(E != 0) = true:=by simpa using hE0
        have HBF:=hidE HQ.out.n.bel
        clear hE0 p0 p1 p2 pz c0 c1 c2 cz
        go_wp2_with (go_at_call 4;(with_reducible refine (HH.out _).mono ?_);rintro e w6 ⟨rfl,hb6⟩)
        go_ret
        exact ⟨rfl,HBF.out.trans (hb6.mono HBF.out.size)⟩
    · have hne:(er != 0) = true:=by simpa using hz
      have HBF:=hidE HT.out.bel
      clear hdis hz c0 c1 c2 cz
      go_wp2_with (go_at_call 4;(with_reducible refine (HH.out _).mono ?_);rintro e w6 ⟨rfl,hb6⟩)
      go_ret
      exact ⟨rfl,HBF.out.trans (hb6.mono HBF.out.size)⟩
  · have NO:=hidE (fun (w:World) (h:NL W0 fr to' a l cap wa W w) => norm_e fr to' l a cap w hl h.T hf ht hck)
    have BK0:=hidE (fun (w:World) (h:NL W0 fr to' a l cap wa W w) => show Calls Tryz.prog 6 #[.slice none 0 0,.slice wa W.length wcap] w fun e w' => ∃ (v:Value) (er:Int),e = .returned (.tuple #[v,.int .i64 er])∧Below w.heap.size w w' from (back_c [] W none wa 0 wcap w (by simp) hW1 (fun h => absurd h (by simp [natsI])) h.P).mono fun e w' ⟨v,er,h1,h2,_⟩ => ⟨v,er,h1,h2⟩)
    clear hck hl hWl hA hP hf ht hTab hg hl1 hW1
    go_enter Tryz.func3,Tryz.ntmps3
    go_wp2_with fail
    generalize World.alloc _ _ = w1 at *
    have p0:=HT0.out.d.cell 0;have p1:=HT0.out.d.cell 1;have p2:=HT0.out.d.cell 2;have pz:=HT0.out.d.lt
    simp at p0 p1 p2
    ((with_reducible refine (NO.out _ HT0.out).mono ?_);rintro e w2 ⟨rfl,hb2⟩)
    go_wp2_with fail
    obtain ⟨w3,hw3⟩:∃ w3,w3 = w2.alloc (.cells #[.int .i64 0,.int .i64 0,.slice none 0 0] 24):=⟨_,rfl⟩
    rw [← hw3]
    have hb3:Below w2.heap.size w2 w3:=by rw [hw3];(repeat (first | exact Below.refl _ _ | assumption | refine balloc ?_ _ | refine below_drewN ?_ _ | refine bstep (by assumption) ?_ | refine bstep (Past.prop _) ?_ | refine Below.setCell ?_ (by first | exact Nat.le_refl _ | (simp;done) | (simp;omega)) _))
    have HT:=hidE ((HT0.out.past hb2).past hb3)
    clear HT0 hb2 hb3 hw3 p0 p1 p2 pz NO HB0
    generalize w2.heap.size = p at *
    ((with_reducible refine (BK0.out _ HT.out).mono ?_);rintro e w4 ⟨vb,er,rfl,hb4⟩)
    have HBF:=hidE (HT.out.past hb4).bel
    clear hb4 HT BK0
    go_wp2_with (go_at_call 4;(with_reducible refine (HH.out _).mono ?_);rintro e w6 ⟨rfl,hb6⟩)
    go_ret
    exact ⟨rfl,HBF.out.trans (hb6.mono HBF.out.size)⟩
end
end Go.Proofs.YthlepbbdjmmelaaGreatDoor
