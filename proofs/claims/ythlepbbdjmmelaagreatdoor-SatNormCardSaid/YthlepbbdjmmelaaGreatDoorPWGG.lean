/- A term with children, of one kind. Conditions: the parts may be, the pieces are within bounds. What is known of a term: (witness).term. Conditions: the parts may be, the pieces are within bounds. Why a witness can't be looked at: arePieces, isFar, wrong. Conditions: the slices read as parts, as pieces; sizes. Package sat's look, Sat, Term, Ends, Short. Conditions: the .. -/
import Derived.Test.YthlepbbdjmmelaaGreatDoorPWGF
import Derived.Test.YthlepbbdjmmelaaGreatDoorPWGE
import Derived.Test.YthlepbbdjmmelaaGreatDoorPWMB
import Derived.Test.YthlepbbdjmmelaaGreatDoorPWGA
import Derived.Test.YthlepbbdjmmelaaGreatDoorPWGD
import Derived.OwnWalkIn
import Derived.Test.YthlepbbdjmmelaaGreatDoorRows
import Derived.Test.YthlepbbdjmmelaaGreatDoorPWMA
import Derived.Outline
import Derived.LoopTactic
import Derived.BigRegion
namespace Go.Proofs.YthlepbbdjmmelaaGreatDoor
section
open Go.ChangeShapes Go.WideShapes Go.ChangeAt Go.RowKit Go.Shelf
attribute [local irreducible] Go.Calls
attribute [local go_sem] Oper.semAt_some run_store_fnK
set_option maxHeartbeats 8000000 in
set_option maxRecDepth 100000 in
theorem term_4 (l:List Prt) (W:List Pc) (pa wa:Option Addr) (cap wcap:Nat) (y:Prt) (K:Fst) (o deep ink:Nat) (w:World) (hl:l.length≤64) (ht:(treeS l).2 = 0) (hat:AtF l o (.cons y K .nil)) (hfit:(Fst.cons y K .nil).fit deep ink) (hA:ArgP w pa l) (hW:ArgVs w wa W) (_hWl:W.length≤100000) (hPc:PcOk W) (hk:y.kind = 4) (IH:∀ (x:Prt) (Kx:Fst) (oo deep ink:Nat) (w:World),Kx.size < K.size→AtF l oo (.cons x Kx .nil)→(Fst.cons x Kx .nil).fit deep ink→ArgP w pa l→ArgVs w wa W→Calls Tryz.prog 43 #[witV pa l.length cap wa W.length wcap,.int .i64 oo] w (TmPost w (satI W x Kx oo))) :
    Calls Tryz.prog 43 #[witV pa l.length cap wa W.length wcap,.int .i64 o] w (TmPost w (satI W y K o)):=by
  have hol:=hat.lt
  obtain ⟨b,off,rfl,hbb,hc⟩:=hA (by omega)
  have hg0:l.getD o pr0 = { y with kids:=(K.len:Int) }:=by rw [List.getD_eq_getElem?_getD,hat.head];rfl
  have hc0:=hc.get hol
  rw [hg0] at hc0
  obtain ⟨p0,p1,p2,p3,p4⟩:=hc0
  simp only at p0 p1 p2 p3 p4
  have hoz:(o:Int) < (l.length:Int):=by omega
  have HA:=hidE hA;have HW:=hidE hW;have HPC:=hidE hPc;have HAT:=hidE hat;have HFIT:=hidE hfit
  have HBD:=hidE (badP_num hfit.1)
  rw [hk] at p0
  have HKD:=hidE hk
  have hK0:0 < K.len:=by have:=(badP_kids hfit.1).2 (by omega);omega
  have hK16:K.len≤16:=by have:=(badP_kids hfit.1).2 (by omega);omega
  have hKs:K.size≤64:=by
    have:=hat.1 K.size (by simp only [Fst.size];omega)
    have h2:((Fst.cons y K .nil).flat)[K.size]? ≠ none:=by rw [ne_eq,List.getElem?_eq_none_iff,flat_len];simp only [Fst.size];omega
    rw [← this] at h2
    have:=(List.getElem?_eq_some_iff.1 (Option.ne_none_iff_exists'.1 h2).choose_spec).1
    omega
  have HLB:=hidE (len_bd W K (o + 1) _ _ hfit.2.2.2.1)
  have HSEQ:=hidE (fun bw ba n0 w' => satkids_it l W (some ⟨b,off,none⟩) wa cap wcap bw ba n0 y K o deep ink w' hl ht hat hfit hK0 IH)
  clear hat hfit hA hW hPc hc hg0 hk ht IH
  have i0:∀ w,(Instr.index 143 (.agg kindsV) (.int .u8 4)).run Tryz.prog w = .ok (.agg #[fnV 93,fnV 94]) w:=fun _ => by kernel_rfl
  refine (callsIn_wide (n:=0)).1 (callsIn_of_wp_marks Tryz.func43 rfl trivial ((wpIn_wide (n:=0)).2 ?_))
  simp only [Tryz.ntmps43,List.size_toArray,List.length_cons,List.length_nil,Nat.reduceAdd,Nat.reduceSub,Array.replicate_succ,Array.replicate_zero,List.push_toArray,List.append_toArray,List.nil_append,List.cons_append]
  go_upto_region 2 with fail
  obtain ⟨w1,hw1⟩:∃ w1,w1 = ((w.alloc (.cells #[.slice (some ⟨b,off,none⟩) l.length cap,.slice wa W.length wcap] 100)).alloc (.cells ti0 78)).alloc (.cells #[.int .u8 4,.int .u32 y.n,.int .u32 y.g,.int .i64 y.d,.int .i64 K.len,.slice none 0 0,.int .i64 0,.bool false,.int .i64 0,.int .i64 0,.bool false] 78):=⟨_,rfl⟩
  obtain ⟨p,hp⟩:∃ p,p = w.heap.size + 1 + 1:=⟨_,rfl⟩
  obtain ⟨rb,hr⟩:∃ r,r = w.heap.size + 1:=⟨_,rfl⟩
  rw [← hw1,← hp,← hr]
  have hb1:Below w.heap.size w w1:=by rw [hw1];(repeat (first | exact Below.refl _ _ | assumption | refine balloc ?_ _ | refine below_drewN ?_ _ | refine bstep (by assumption) ?_ | refine bstep (Past.prop _) ?_ | refine Below.setCell ?_ (by first | exact Nat.le_refl _ | (simp;done) | (simp;omega)) _))
  have hs1:w.heap.size < w1.heap.size:=by rw [hw1];simp;omega
  have hwb:Blk w1 w.heap.size #[.slice (some ⟨b,off,none⟩) l.length cap,.slice wa W.length wcap] 100:=by rw [hw1];exact ((Blk.made _ _ _).alloc _).alloc _
  have hrb:Blk w1 rb (tiA p00 (.slice none 0 0) 0 none false) 78:=by rw [hw1,hr];exact (Blk.made_at _ _ _ _ (by simp)).alloc _
  have htb:Blk w1 p (tiA { y with kids:=(K.len:Int) } (.slice none 0 0) 0 none false) 78:=by
    rw [hw1,hp];rw [show ({ y with kids:=(K.len:Int) }:Prt).kind = 4 from HKD.out];exact Blk.made_at _ _ _ _ (by simp)
  have hpw:w.heap.size + 1 < p:=by omega
  have hrw:w.heap.size < rb:=by omega
  have hrp:rb < p:=by omega
  clear hp hr
  have HR1:=hidE hrb;have HT1:=hidE htb;have HB1:=hidE hb1
  have c0:=htb.cell 0;have wz0:=hwb.cell 0;have wz1:=hwb.cell 1;have wz:=hwb.lt;have tz:=htb.lt
  simp at c0 wz0 wz1
  rw [HKD.out] at c0
  have hpz1:=htb.lt
  clear hw1 hb1 hrb htb hwb p0 p1 p2 p3 p4
  go_wp2_with fail
  ((with_reducible refine (wchildren_c _ _ _ _ _ _ _ _).mono ?_);rintro e w3 ⟨rfl,hbw,hba,hb3⟩)
  have hz3:=hba.lt
  have hs3:=hb3.size
  have hJ0:SatJ w1 p w3.heap.size { y with kids:=(K.len:Int) } #[.slice (some ⟨b,off,none⟩) l.length cap,.slice wa W.length wcap] o w1.heap.size (w1.heap.size + 1) [] none w3 :=
    ⟨⟨.slice none 0 0,w3.heap.size,HT1.out.past hb3,own_nil _ _ _,Nat.le_refl _,Nat.le_refl _,.inl ⟨rfl,rfl⟩⟩,hbw,hba,hb3.mono (by omega)⟩
  have HJ0:=hidE hJ0
  have HB3:=hidE hb3
  clear hbw hba hb3 c0 wz0 wz1 wz tz hJ0
  go_wp2
  refine wp_rangeFunc_V (n₀:=p) (S:=satF W K (o + 1)) (key:=TV.t) (encs:=encTm) rfl (enters_of Tryz.func85 (by kernel_rfl) rfl) (by omega) (HSEQ.out w1.heap.size (w1.heap.size + 1) p w3) (fun _ => rfl)
    (SatJ w1 p w3.heap.size { y with kids:=(K.len:Int) } #[.slice (some ⟨b,off,none⟩) l.length cap,.slice wa W.length wcap] o w1.heap.size (w1.heap.size + 1)) (fun s g A B h hb hk => h.keep (by omega) (by omega) (by omega) hb hk) (fun s g A h => h.lies)
    (fun s g A h => ⟨h.wit,h.here,HA.out.past (HB1.out.trans (h.bel.mono (by omega))),HW.out.past (HB1.out.trans (h.bel.mono (by omega)))⟩) HJ0.out
    (fun _ _ => False) (fun s A B h hb => h)
    (fun k a1 W => ∃ (kb:Nat) (u0 u1 u2 u3 u4 u7 u8 u9 u10 u11 u12 u13 u14 u15 u16 u17 u18 u19 u20 u21 u22 u23 u24 u25 u26 u27 u28 u29 u30 u31 u32 u33 u34 u35 u36 u37 u38 u39 u40:Value),Blk W kb k.arr 78∧a1 = { tmps:=#[u0,u1,u2,u3,u4,.pointer (some ⟨p,0,none⟩),.pointer (some ⟨kb,0,none⟩),u7,u8,u9,u10,u11,u12,u13,u14,u15,u16,u17,u18,u19,u20,u21,u22,u23,u24,u25,u26,u27,u28,u29,u30,u31,u32,u33,u34,u35,u36,u37,u38,u39,u40],defers:=[] })
    ?hax ?assign ?body ?done ?stop
  case hax =>
    rintro k a1 A l2 r o2 ⟨kb,u0,u1,u2,u3,u4,u7,u8,u9,u10,u11,u12,u13,u14,u15,u16,u17,u18,u19,u20,u21,u22,u23,u24,u25,u26,u27,u28,u29,u30,u31,u32,u33,u34,u35,u36,u37,u38,u39,u40,h2,h3⟩ hlr
    refine ⟨kb,_,_,_,_,_,_,_,_,_,_,_,_,_,_,_,_,_,_,_,_,_,_,_,_,_,_,_,_,_,_,_,_,_,_,_,_,_,_,_, ?_,h3⟩
    exact (World.putObj_heap_other (fun e => by unfold Blk at h2;rw [← e,h2] at hlr;cases hlr)).trans h2
  case assign =>
    intro l2 pre k g W2 K' hsz hi hK
    dsimp only [encTm]
    gi_wp2
    exact hK _ _ ((Below.refl _ _).alloc (Nat.le_refl _) _) (hi.keep (by omega) (by omega) (by omega) (((Below.refl _ _).alloc (Nat.le_refl _) _).mono hsz) (fun b k e => keptA (hi.lies b k e).2 _)) ⟨W2.heap.size,_,_,_,_,_,_,_,_,_,_,_,_,_,_,_,_,_,_,_,_,_,_,_,_,_,_,_,_,_,_,_,_,_,_,_,_,_,_,_,Blk.made _ _ _,rfl⟩
  case body =>
    rintro l2 pre k g a1 W2 hsz hi ⟨kb,u0,u1,u2,u3,u4,u7,u8,u9,u10,u11,u12,u13,u14,u15,u16,u17,u18,u19,u20,u21,u22,u23,u24,u25,u26,u27,u28,u29,u30,u31,u32,u33,u34,u35,u36,u37,u38,u39,u40,hkb,rfl⟩ hpre
    have hlen:pre.length < 17:=by
      have:=hpre.length_le
      rw [satF_len] at this
      simp only [List.length_map,List.length_append,List.length_cons,List.length_nil] at this
      omega
    obtain ⟨av,cp,γ,i1,i2,i3,i4,i5,i6⟩:=hi.base hsz
    have HTK:=hidE (take_c γ p { y with kids:=(K.len:Int) } (.slice av pre.length cp) (endsI (pre.map TV.t)) pre k W2 i1 i2 (by omega) i4 (by omega))
    have HI:=hidE hi;have HI5:=hidE i5;have HI6:=hidE i6
    have k0:=hkb.cell 0;have k1:=hkb.cell 1;have k2:=hkb.cell 2;have k3:=hkb.cell 3;have k4:=hkb.cell 4;have k5:=hkb.cell 5;have k6:=hkb.cell 6;have k7:=hkb.cell 7;have k8:=hkb.cell 8;have k9:=hkb.cell 9;have k10:=hkb.cell 10;have kz:=hkb.lt
    simp at k0 k1 k2 k3 k4 k5 k6 k7 k8 k9 k10
    clear hpre hi hkb i1 i2 i5 i6
    gi_wp2_with fail
    refine ⟨trivial,rfl,(CallsIn.inRound l2 (callsIn_wide.2 HTK.out)).mono ?_⟩
    rintro e w' ⟨rfl,v',t1,t2,t3, -⟩
    have T1:=hidE t1;have T2:=hidE t2;have T3:=hidE t3
    clear t1 t2 t3 k0 k1 k2 k3 k4 k5 k6 k7 k8 k9 k10 kz HTK
    gi_wp2
    exact HI.out.took hsz (by omega) (by omega) (by omega) (by omega) (by omega) (Below.refl _ _) HI5.out HI6.out i3 i4 T1.out T2.out T3.out
  case done =>
    rintro D full g Wd hD hfull hi hgd hK
    subst hD
    have hDz:w3.heap.size < Wd.heap.size:=(Array.getElem?_eq_some_iff.1 hK).1
    obtain ⟨av,cp,γ,i1,i2,i3,i4,i5,i6⟩:=hi.base (by omega)
    have hfl:full.length = K.len:=by
      have:=congrArg List.length hfull
      rwa [List.length_map,satF_len] at this
    have HFL:=hidE hfl
    have hka:=kidsAt_own i1 i2 (m:=K.len - 1) (by omega) (by omega)
    obtain ⟨gq,cq,eq1,_⟩:=ownP_pos (n:=K.len - 1) (by rw [show K.len - 1 + 1 = full.length by omega];exact i2)
    simp only [Value.slice.injEq] at eq1
    obtain ⟨eq2,eqm,eq3⟩:=eq1
    clear eqm
    subst eq2 eq3
    rw [hfull] at i1 hka
    obtain ⟨S,hS⟩:∃ S,endsI (satF W K (o + 1)) = S:=⟨_,rfl⟩
    rw [hS] at i1 hka
    have HSE:=hidE hS
    have HKA:=hidE hka;have HFU:=hidE hfull
    have HLO:=hidE (show LenOk 1099511627776 full from fun t ht => by
      have:=HLB.out.2.2 t.t (by rw [← HFU.out];exact List.mem_map_of_mem ht)
      omega)
    have HT:=hidE i1;have HR:=hidE (HR1.out.below hi.bel hrp);have HB:=hidE (HB1.out.trans (hi.bel.mono (by omega)))
    have HL:=hidE (fun (w':World) (h:Below Wd.heap.size Wd w') => by
      have:=longest_c w' p { y with kids:=(K.len:Int) } 0 S false full (HKA.out.past h) (by rw [HFL.out];omega) (by rw [HFL.out];omega)
      rw [HFU.out] at this
      exact this)
    have HQ:=hidE (fun (w':World) (h:Below Wd.heap.size Wd w') => by
      have:=isAll_c (w'.setCell ⟨p,6,none⟩ (.int .i64 (maxI (satF W K (o + 1))))) p { y with kids:=(K.len:Int) } (maxI (satF W K (o + 1))) S false full ((HKA.out.past h).len (maxI (satF W K (o + 1)))) 
      rw [HFU.out] at this
      exact this)
    have HD:=hidE hK
    clear i1 i2 i5 i6 hka hfull hi hgd hK hS hfl HKA HFU HLO HFL HR1 HT1 HJ0 HSEQ
    have d0:=HT.out.cell 0;have tz:=HT.out.lt
    simp at d0
    rw [HKD.out] at d0
    go_upto_region 7 with fail
    refine wp_region_J 6 [] (nthR [detR (.agg kindsV),detR (.pointer (some ⟨p,0,none⟩)),detR (.pointer (some ⟨p,0,none⟩)),detR (.int .u8 4),detR (.agg #[.func (.func 93) #[] #[],.func (.func 94) #[] #[]]),newR Wd.heap.size #[.nilFunc,.nilFunc] 142]) (fun _ => false) (by kernel_rfl) (by simp) (by kernel_rfl) (stab_nth (by simp [stab_det,stab_new])) ?_ ?_ ?_
    · intro i o hi ho
      match i,hi with
      | 0, _ =>
        obtain rfl:=Option.some.inj ho
        intro u x hd
        have hc:=Past.cell x
        simp [go_sem,gives,frm,Act.put,nthR,detR,Region.wanted]
        exact kinds_c _
      | 1, _ =>
        obtain rfl:=Option.some.inj ho
        intro u x hd
        have hc:=Past.cell x
        simp [go_sem,gives,frm,Act.put,nthR,detR,Region.wanted,Below.refl]
      | 2, _ =>
        obtain rfl:=Option.some.inj ho
        intro u x hd
        have hc:=Past.cell x
        have d1:=hd 1 (by decide) (by kernel_rfl)
        simp only [nthR,detR,List.getD_cons_zero,List.getD_cons_succ] at d1
        simp [go_sem,gives,frm,Act.put,nthR,detR,Region.wanted,Below.refl,d1]
      | 3, _ =>
        obtain rfl:=Option.some.inj ho
        intro u x hd
        have hc:=Past.cell x
        have d2:=hd 2 (by decide) (by kernel_rfl)
        simp only [nthR,detR,List.getD_cons_zero,List.getD_cons_succ] at d2
        simp [go_sem,gives,frm,Act.put,nthR,detR,Region.wanted,Below.refl,hc,d2,d0,tz]
      | 4, _ =>
        obtain rfl:=Option.some.inj ho
        intro u x hd
        have hc:=Past.cell x
        have d0:=hd 0 (by decide) (by kernel_rfl)
        have d3:=hd 3 (by decide) (by kernel_rfl)
        simp only [nthR,detR,List.getD_cons_zero,List.getD_cons_succ] at d0 d3
        simp [go_sem,gives,frm,Act.put,nthR,detR,Region.wanted,Below.refl,d0,d3,i0]
      | 5, _ =>
        obtain rfl:=Option.some.inj ho
        intro u x hd
        have hc:=Past.cell x
        simp [go_sem,gives,nthR,Region.wanted]
        exact ⟨by (repeat (first | exact Below.refl _ _ | assumption | refine balloc ?_ _ | refine below_drewN ?_ _ | refine bstep (by assumption) ?_ | refine bstep (Past.prop _) ?_ | refine Below.setCell ?_ (by first | exact Nat.le_refl _ | (simp;done) | (simp;omega)) _)),⟨_,rfl,by simpa using x.2.size,Blk.made _ _ _⟩⟩
      | i + 6,h => exact absurd h (by omega)
    · intro i o h;cases h
    · intro u x9 hu hne
      have e4:u 4 = .agg #[.func (.func 93) #[] #[],.func (.func 94) #[] #[]]:=hu 4 (by decide)
      obtain ⟨kb,e5,hkz,hkB⟩:newR Wd.heap.size #[.nilFunc,.nilFunc] 142 (u 5) x9.1:=hu 5 (by decide)
      simp only [frm,List.take,Act.put,e4,e5]
      have HX9:=hidE x9.2;have HKB:=hidE hkB
      have g0:=hkB.cell 0;have g1:=hkB.cell 1;have gf0:=hkB.free 0;have gf1:=hkB.free 1;have gz:=hkB.lt
      simp at g0 g1
      clear hu hne e4 e5 hkB d0 i0
      generalize x9.1 = w9 at *
      go_upto_region 8 with fail
      obtain ⟨w6,hw6⟩:∃ w6,w6 = (w9.setCell ⟨kb,0,none⟩ (.func (.func 93) #[] #[])).setCell ⟨kb,1,none⟩ (.func (.func 94) #[] #[]):=⟨_,rfl⟩
      rw [← hw6]
      have hk6:Blk w6 kb #[.func (.func 93) #[] #[],.func (.func 94) #[] #[]] 142:=by rw [hw6];simpa using (HKB.out.set 0 (.func (.func 93) #[] #[])).set 1 (.func (.func 94) #[] #[])
      have hb6:Below Wd.heap.size Wd w6:=by rw [hw6];exact (HX9.out.setCell (p:=⟨kb,0,none⟩) hkz _).setCell (p:=⟨kb,1,none⟩) hkz _
      have HB6:=hidE hb6;have HK6:=hidE hk6
      have g0:=hk6.cell 0;have g1:=hk6.cell 1;have gz:=hk6.lt
      simp at g0 g1
      clear hw6 HKB gf0 gf1 HX9 hb6 hk6
      go_wp2_with fail
      ((with_reducible refine (HL.out w6 HB6.out).mono ?_);rintro e w7 ⟨rfl,hb7⟩)
      have hb27:Below Wd.heap.size Wd w7:=HB6.out.trans (hb7.mono HB6.out.size)
      have hT7:=HT.out.past hb27;have hk7:=HK6.out.past hb7
      have HB7:=hidE hb27;have HK7:=hidE hk7
      have g0:=hk7.cell 0;have g1:=hk7.cell 1;have gz:=hk7.lt;have c6:=hT7.cell 6;have f6:=hT7.free 6;have tz7:=hT7.lt
      simp at g0 g1 c6
      have hkp:¬ kb = p:=by omega
      have hpk:¬ p = kb:=by omega
      clear hb7 hb27 hT7 hk7 HK6 HB6 HL
      go_wp2_with fail
      ((with_reducible refine (HQ.out w7 HB7.out).mono ?_);rintro e w8 ⟨rfl,hb8⟩)
      have hT8:=(tiA_len (HT.out.past HB7.out) (maxI (satF W K (o + 1)))).past hb8
      have hR8:=((HR.out.past HB7.out).other (by omega) (.int .i64 (maxI (satF W K (o + 1))))).past hb8
      have HB8:=hidE (show Below w.heap.size w w8 from (HB.out.trans (HB7.out.mono HB.out.size)).setCell (p:=⟨p,6,none⟩) (by show w.heap.size≤p;omega) (.int .i64 (maxI (satF W K (o + 1)))) |>.trans (hb8.mono (by have:=HB.out.size;have:=HB7.out.size;simp [World.setCell];omega)))
      have HT8:=hidE hT8;have HR8:=hidE hR8;have HW8:=hidE hb8
      have hrp':¬ rb = p:=by omega
      have hpr':¬ p = rb:=by omega
      have q0:=hT8.cell 0;have q1:=hT8.cell 1;have q2:=hT8.cell 2;have q3:=hT8.cell 3;have q4:=hT8.cell 4;have q5:=hT8.cell 5;have q6:=hT8.cell 6;have q7:=hT8.cell 7;have q8:=hT8.cell 8;have q9:=hT8.cell 9;have q10:=hT8.cell 10;have qf:=hT8.free 10;have qz:=hT8.lt
      have r0:=hR8.cell 0;have r1:=hR8.cell 1;have r2:=hR8.cell 2;have r3:=hR8.cell 3;have r4:=hR8.cell 4;have r5:=hR8.cell 5;have r6:=hR8.cell 6;have r7:=hR8.cell 7;have r8:=hR8.cell 8;have r9:=hR8.cell 9;have r10:=hR8.cell 10;have rz:=hR8.lt
      have s0:=hR8.free 0;have s1:=hR8.free 1;have s2:=hR8.free 2;have s3:=hR8.free 3;have s4:=hR8.free 4;have s5:=hR8.free 5;have s6:=hR8.free 6;have s7:=hR8.free 7;have s8:=hR8.free 8;have s9:=hR8.free 9;have s10:=hR8.free 10
      simp at q0 r0 q1 r1 q2 r2 q3 r3 q4 r4 q5 r5 q6 r6 q7 r7 q8 r8 q9 r9 q10 r10
      clear hb8 hT8 hR8 HQ g0 g1 gz c6 f6 tz7 tz HK7
      go_wp2
      have hfin:Blk (put11 (w8.setCell ⟨p,10,none⟩ (.bool (allI (satF W K (o + 1))))) rb (⟨⟨{ y with kids:=(K.len:Int) },maxI (satF W K (o + 1)),S,allI (satF W K (o + 1))⟩,(some ⟨gq,0,none⟩),full.length,cp⟩:TV)) rb (⟨⟨{ y with kids:=(K.len:Int) },maxI (satF W K (o + 1)),S,allI (satF W K (o + 1))⟩,(some ⟨gq,0,none⟩),full.length,cp⟩:TV).arr 78:=put11_blk (HR8.out.other (by omega) _) (⟨⟨{ y with kids:=(K.len:Int) },maxI (satF W K (o + 1)),S,allI (satF W K (o + 1))⟩,(some ⟨gq,0,none⟩),full.length,cp⟩:TV)
      have HBF:=hidE (show Below w.heap.size w (put11 (w8.setCell ⟨p,10,none⟩ (.bool (allI (satF W K (o + 1))))) rb (⟨⟨{ y with kids:=(K.len:Int) },maxI (satF W K (o + 1)),S,allI (satF W K (o + 1))⟩,(some ⟨gq,0,none⟩),full.length,cp⟩:TV)) from Below.grown (HB8.out.setCell (p:=⟨p,10,none⟩) (by show w.heap.size≤p;omega) _) (put11_grown _ _ _) (by have:=HB8.out.size;simpa [World.setCell] using this) (fun k e => by cases e;omega))
      have HGF:=hidE (put11_grown (w8.setCell ⟨p,10,none⟩ (.bool (allI (satF W K (o + 1))))) rb (⟨⟨{ y with kids:=(K.len:Int) },maxI (satF W K (o + 1)),S,allI (satF W K (o + 1))⟩,(some ⟨gq,0,none⟩),full.length,cp⟩:TV))
      have x0:=hfin.cell 0;have x1:=hfin.cell 1;have x2:=hfin.cell 2;have x3:=hfin.cell 3;have x4:=hfin.cell 4;have x5:=hfin.cell 5;have x6:=hfin.cell 6;have x7:=hfin.cell 7;have x8:=hfin.cell 8;have x9:=hfin.cell 9;have x10:=hfin.cell 10
      simp at x0 x1 x2 x3 x4 x5 x6 x7 x8 x9 x10
      have z7:=HB7.out.size
      have z8:=HW8.out.size
      simp [World.setCell] at z8
      have HKF:=hidE (show (put11 (w8.setCell ⟨p,10,none⟩ (.bool (allI (satF W K (o + 1))))) rb (⟨⟨{ y with kids:=(K.len:Int) },maxI (satF W K (o + 1)),S,allI (satF W K (o + 1))⟩,(some ⟨gq,0,none⟩),full.length,cp⟩:TV)).heap[w3.heap.size]? = some (.deferred (some [])) from by
        rw [HGF.out.block w3.heap.size (by simp [World.setCell];omega) (by simp;omega),keptS (by omega),HW8.out.block w3.heap.size (by simp [World.setCell];omega),keptS (by omega),HB7.out.block w3.heap.size hDz];exact HD.out)
      change bodyPostM _ _ _ _ _ _ _ (put11 (w8.setCell ⟨p,10,none⟩ (.bool (allI (satF W K (o + 1))))) rb (⟨⟨{ y with kids:=(K.len:Int) },maxI (satF W K (o + 1)),S,allI (satF W K (o + 1))⟩,(some ⟨gq,0,none⟩),full.length,cp⟩:TV))
      clear HT8 HR8 HW8 HB8 q0 r0 s0 q1 r1 s1 q2 r2 s2 q3 r3 s3 q4 r4 s4 q5 r5 s5 q6 r6 s6 q7 r7 s7 q8 r8 s8 q9 r9 s9 q10 r10 s10 qf qz rz
      generalize put11 (w8.setCell ⟨p,10,none⟩ (.bool (allI (satF W K (o + 1))))) rb (⟨⟨{ y with kids:=(K.len:Int) },maxI (satF W K (o + 1)),S,allI (satF W K (o + 1))⟩,(some ⟨gq,0,none⟩),full.length,cp⟩:TV) = wf at *
      have hfin2:Blk (wf.putObj w3.heap.size (.deferred none)) rb (⟨⟨{ y with kids:=(K.len:Int) },maxI (satF W K (o + 1)),S,allI (satF W K (o + 1))⟩,(some ⟨gq,0,none⟩),full.length,cp⟩:TV).arr 78:=(World.putObj_heap_other (by omega)).trans hfin
      clear hfin
      have x0:=hfin2.cell 0;have x1:=hfin2.cell 1;have x2:=hfin2.cell 2;have x3:=hfin2.cell 3;have x4:=hfin2.cell 4;have x5:=hfin2.cell 5;have x6:=hfin2.cell 6;have x7:=hfin2.cell 7;have x8:=hfin2.cell 8;have x9:=hfin2.cell 9;have x10:=hfin2.cell 10
      simp at x0 x1 x2 x3 x4 x5 x6 x7 x8 x9 x10
      clear hfin2
      refine ⟨by simp,.inl ⟨_,_,rfl,run_takeDeferred HKF.out, ?_⟩⟩
      refine ⟨.agg (⟨⟨{ y with kids:=(K.len:Int) },maxI (satF W K (o + 1)),S,allI (satF W K (o + 1))⟩,(some ⟨gq,0,none⟩),full.length,cp⟩:TV).arr,by simp [results,Tryz.results43,go_sem,x0,x1,x2,x3,x4,x5,x6,x7,x8,x9,x10], ?_⟩
      refine ⟨(⟨⟨{ y with kids:=(K.len:Int) },maxI (satF W K (o + 1)),S,allI (satF W K (o + 1))⟩,(some ⟨gq,0,none⟩),full.length,cp⟩:TV), ?_,rfl,HBF.out.trans (below_putObj _ _ _ (by omega))⟩
      unfold satI mkI lenI okI
      simp only [HKD.out,HSE.out]
      simp
  case stop =>
    rintro D pre W2 hD hpre h hK
    exact h.elim
end
section
open Go.ChangeShapes Go.WideShapes Go.ChangeAt Go.RowKit
attribute [local irreducible] Go.Calls
theorem term_c (l:List Prt) (W:List Pc) (pa wa:Option Addr) (cap wcap:Nat) (hl:l.length≤64) (ht:(treeS l).2 = 0) (hWl:W.length≤100000) (hPc:PcOk W):∀ (m:Nat) (y:Prt) (K:Fst) (o deep ink:Nat) (w:World),K.size < m→AtF l o (.cons y K .nil)→(Fst.cons y K .nil).fit deep ink→ArgP w pa l→ArgVs w wa W →
    Calls Tryz.prog 43 #[witV pa l.length cap wa W.length wcap,.int .i64 o] w (TmPost w (satI W y K o)):=by
  intro m
  induction m with
  | zero => intro y K o deep ink w h;omega
  | succ m ih =>
    intro y K o deep ink w hm hat hfit hA hW
    have IH:∀ (x:Prt) (Kx:Fst) (oo deep ink:Nat) (w:World),Kx.size < K.size→AtF l oo (.cons x Kx .nil)→(Fst.cons x Kx .nil).fit deep ink→ArgP w pa l→ArgVs w wa W→Calls Tryz.prog 43 #[witV pa l.length cap wa W.length wcap,.int .i64 oo] w (TmPost w (satI W x Kx oo)) :=
      fun x Kx oo d i w' h h1 h2 h3 h4 => ih x Kx oo d i w' (by omega) h1 h2 h3 h4
    have hk:=(badP_num hfit.1).1
    have hc:y.kind = 0 ∨ y.kind = 1 ∨ y.kind = 2 ∨ y.kind = 3 ∨ y.kind = 4:=by simp only at hk;omega
    rcases hc with c | c | c | c | c
    · exact term_0 l W pa wa cap wcap y K o deep ink w hl ht hat hfit hA hW hWl hPc c
    · exact term_1 l W pa wa cap wcap y K o deep ink w hl ht hat hfit hA hW hWl hPc c IH
    · exact term_2 l W pa wa cap wcap y K o deep ink w hl ht hat hfit hA hW hWl hPc c IH
    · exact term_3 l W pa wa cap wcap y K o deep ink w hl ht hat hfit hA hW hWl hPc c IH
    · exact term_4 l W pa wa cap wcap y K o deep ink w hl ht hat hfit hA hW hWl hPc c IH
end
section
open Go.ChangeShapes Go.WideShapes Go.ChangeAt Go.RowKit
attribute [local irreducible] Go.Calls
def pcsB (l:List Prt):Int→List Pc→Bool
  | _,[] => true
  | last,p :: r => decide (last < p.1) && (decide (p.1 < (l.length:Int)) && (decide ((l.getD p.1.toNat pr0).kind = 0) && pcsB l p.1 r))
def isFarB (p:Pc):Bool:=decide (p.2 < -1099511627776) || decide (1099511627776 < p.2)
def farB (W:List Pc):Bool:=W.any isFarB
def wrongS (fr to':Int) (l:List Prt) (fits:Bool) (W:List Pc):Int:=if (chkS fr to' l).2 ≠ 0 then 81 else if fits = false ∨ pcsB l (-1) W = false then 2 else if farB W = true then 10 else 0
set_option maxHeartbeats 2000000 in
set_option maxRecDepth 100000 in
theorem arePieces_c (l:List Prt) (W:List Pc) (a wa:Option Addr) (cap wcap:Nat) (w:World) (hl:l.length≤9223372036854775807) (hWl:W.length≤9223372036854775807) (hA:ArgP w a l) (hW:ArgVs w wa W) :
    Calls Tryz.prog 36 #[.slice a l.length cap,.slice wa W.length wcap] w fun e w' => e = .returned (.bool (pcsB l (-1) W))∧Below w.heap.size w w':=by
  have HA:=hidE hA;have HW:=hidE hW
  clear hA hW
  go_enter Tryz.func36,Tryz.ntmps36
  go_wp2
  go_loopg [5,10] W.length (fun gh v5 v10 wr => ∃ (k:Nat) (last:Int),v10 = .int .i64 k∧v5 = .int .i64 last∧k≤W.length∧W.length - k≤gh ∧ -1≤last∧pcsB l (-1) W = pcsB l last (W.drop k)∧Below w.heap.size w wr)
  case atStart => exact ⟨0, -1,rfl,rfl,Nat.zero_le _,Nat.le_refl _,by omega,rfl,Below.refl _ _⟩
  case round =>
    obtain ⟨k,last,rfl,rfl,hk,hgh,hlast,hpc,hbw⟩:=hrel
    have HGH:=hidE hgh;have HPC:=hidE hpc;have HBW:=hidE hbw
    clear hgh hpc
    by_cases hlt:k < W.length
    · have q1:decide ((k:Int) < (W.length:Int)) = true:=decide_eq_true (by omega)
      have q2:decide (k < W.length) = true:=decide_eq_true hlt
      obtain ⟨q,hq⟩:∃ q,W[k]? = some q:=⟨W[k],by rw [List.getElem?_eq_getElem hlt]⟩
      have hgd:W.getD k (0,0) = q:=by rw [List.getD_eq_getElem?_getD,hq];rfl
      have hdr:W.drop k = q :: W.drop (k + 1):=by
        rw [List.drop_eq_getElem_cons hlt];congr 1
        rw [List.getElem?_eq_getElem hlt] at hq;exact Option.some.inj hq
      obtain ⟨b,off,rfl,hbz,hc⟩:=HW.out (by omega)
      obtain ⟨m0,m1⟩:=hc k hlt
      rw [hgd] at m0 m1
      have k0:=(hbw.cell (p:=⟨b,off + k * 2,none⟩) hbz).trans m0
      have k1:=(hbw.cell (p:=⟨b,off + k * 2 + 1,none⟩) hbz).trans m1
      have bz:=Nat.lt_of_lt_of_le hbz hbw.size
      rw [hdr] at HPC
      obtain ⟨z,z2⟩:=q
      simp only at k0 k1
      have HP2:=hidE (show pcsB l (-1) W = (decide (last < z) && (decide (z < (l.length:Int)) && (decide ((l.getD z.toNat pr0).kind = 0) && pcsB l z (W.drop (k + 1))))) from HPC.out)
      clear HPC hgd hdr hc m0 m1 hq hbw
      by_cases c1:z≤last
      · have r1:decide (z≤last) = true:=decide_eq_true c1
        have HN:=hidE (show pcsB l (-1) W = false by rw [HP2.out,decide_eq_false (show ¬ last < z by omega)];rfl)
        clear c1
        go_wp2
        go_ret
        exact ⟨by rw [HN.out];rfl,HBW.out.trans ((show Below wr.heap.size wr _ from by (repeat (first | exact Below.refl _ _ | assumption | refine balloc ?_ _ | refine below_drewN ?_ _ | refine bstep (by assumption) ?_ | refine bstep (Past.prop _) ?_ | refine Below.setCell ?_ (by first | exact Nat.le_refl _ | (simp;done) | (simp;omega)) _))).mono HBW.out.size)⟩
      · have r1:decide (z≤last) = false:=decide_eq_false c1
        have hz0:0≤z:=by omega
        by_cases c2:(l.length:Int)≤z
        · have r2:decide ((l.length:Int)≤z) = true:=decide_eq_true c2
          have HN:=hidE (show pcsB l (-1) W = false by rw [HP2.out,decide_eq_false (show ¬ z < (l.length:Int) by omega)];simp)
          clear c1 c2
          go_wp2
          go_ret
          exact ⟨by rw [HN.out];rfl,HBW.out.trans ((show Below wr.heap.size wr _ from by (repeat (first | exact Below.refl _ _ | assumption | refine balloc ?_ _ | refine below_drewN ?_ _ | refine bstep (by assumption) ?_ | refine bstep (Past.prop _) ?_ | refine Below.setCell ?_ (by first | exact Nat.le_refl _ | (simp;done) | (simp;omega)) _))).mono HBW.out.size)⟩
        · have r2:decide ((l.length:Int)≤z) = false:=decide_eq_false c2
          obtain ⟨j,rfl⟩:∃ j:Nat,z = (j:Int):=⟨z.toNat,by omega⟩
          have hj:j < l.length:=by omega
          have r3:decide ((l.length:Int)≤(j:Int)) = false:=r2
          have r4:decide (l.length≤j) = false:=decide_eq_false (by omega)
          have hjz:(j:Int) < (l.length:Int):=by omega
          obtain ⟨ba,offa,rfl,hba,hca⟩:=HA.out (by omega)
          have p0:=(HBW.out.cell (p:=⟨ba,_,none⟩) hba).trans (hca.get hj).1
          have az:=Nat.lt_of_lt_of_le hba HBW.out.size
          rw [Int.toNat_natCast] at HP2
          by_cases c3:(l.getD j pr0).kind = 0
          · rw [c3] at p0
            have HN:=hidE (show pcsB l (-1) W = pcsB l (j:Int) (W.drop (k + 1)) by rw [HP2.out,decide_eq_true (show last < (j:Int) by omega),decide_eq_true hjz,decide_eq_true c3];rfl)
            clear c1 c2 c3 r2 hca
            go_wp2
            go_roundg (W.length - (k + 1))
            case measure => have:=HGH.out;omega
            case rel => exact ⟨k + 1,(j:Int),by go_num,rfl,by omega,Nat.le_refl _,by omega,HN.out,HBW.out.trans ((show Below wr.heap.size wr _ from by (repeat (first | exact Below.refl _ _ | assumption | refine balloc ?_ _ | refine below_drewN ?_ _ | refine bstep (by assumption) ?_ | refine bstep (Past.prop _) ?_ | refine Below.setCell ?_ (by first | exact Nat.le_refl _ | (simp;done) | (simp;omega)) _))).mono HBW.out.size)⟩
          · obtain ⟨kd,hkd⟩:∃ kd,(l.getD j pr0).kind = kd:=⟨_,rfl⟩
            rw [hkd] at p0
            have r5:((kd:Int) != 0) = true:=by simp;omega
            have r6:(kd != 0) = true:=by simp;omega
            have HN:=hidE (show pcsB l (-1) W = false by rw [HP2.out,decide_eq_false c3];simp)
            clear c1 c2 c3 r2 hca hkd
            go_wp2
            go_ret
            exact ⟨by rw [HN.out];rfl,HBW.out.trans ((show Below wr.heap.size wr _ from by (repeat (first | exact Below.refl _ _ | assumption | refine balloc ?_ _ | refine below_drewN ?_ _ | refine bstep (by assumption) ?_ | refine bstep (Past.prop _) ?_ | refine Below.setCell ?_ (by first | exact Nat.le_refl _ | (simp;done) | (simp;omega)) _))).mono HBW.out.size)⟩
    · obtain rfl:k = W.length:=by omega
      have q1:decide ((W.length:Int) < (W.length:Int)) = false:=decide_eq_false (by omega)
      have q2:decide (W.length < W.length) = false:=decide_eq_false (by omega)
      have HN:=hidE (show pcsB l (-1) W = true by have:=HPC.out;rw [List.drop_length] at this;exact this)
      clear hbw
      go_wp2
      go_ret
      exact ⟨by rw [HN.out];rfl,HBW.out⟩
set_option maxRecDepth 100000 in
theorem isFar_c (p:Pc) (w:World):Calls Tryz.prog 38 #[.agg #[.int .i64 p.1,.int .i64 p.2]] w fun e w' => e = .returned (.bool (isFarB p))∧Below w.heap.size w w':=by
  obtain ⟨z,z2⟩:=p
  by_cases c1:z2 < -1099511627776
  · have r1:decide (z2 < -1099511627776) = true:=decide_eq_true c1
    have HN:=hidE (show isFarB (z,z2) = true by unfold isFarB;rw [r1];rfl)
    clear c1
    go_enter Tryz.func38,Tryz.ntmps38
    go_wp2
    go_ret
    exact ⟨by rw [HN.out];rfl,by (repeat (first | exact Below.refl _ _ | assumption | refine balloc ?_ _ | refine below_drewN ?_ _ | refine bstep (by assumption) ?_ | refine bstep (Past.prop _) ?_ | refine Below.setCell ?_ (by first | exact Nat.le_refl _ | (simp;done) | (simp;omega)) _))⟩
  · have r1:decide (z2 < -1099511627776) = false:=decide_eq_false c1
    by_cases c2:1099511627776 < z2
    · have r2:decide (1099511627776 < z2) = true:=decide_eq_true c2
      have HN:=hidE (show isFarB (z,z2) = true by unfold isFarB;simp only;rw [r1,r2];rfl)
      clear c1 c2
      go_enter Tryz.func38,Tryz.ntmps38
      go_wp2
      go_ret
      exact ⟨by rw [HN.out];rfl,by (repeat (first | exact Below.refl _ _ | assumption | refine balloc ?_ _ | refine below_drewN ?_ _ | refine bstep (by assumption) ?_ | refine bstep (Past.prop _) ?_ | refine Below.setCell ?_ (by first | exact Nat.le_refl _ | (simp;done) | (simp;omega)) _))⟩
    · have r2:decide (1099511627776 < z2) = false:=decide_eq_false c2
      have HN:=hidE (show isFarB (z,z2) = false by unfold isFarB;simp only;rw [r1,r2];rfl)
      clear c1 c2
      go_enter Tryz.func38,Tryz.ntmps38
      go_wp2
      go_ret
      exact ⟨by rw [HN.out];rfl,by (repeat (first | exact Below.refl _ _ | assumption | refine balloc ?_ _ | refine below_drewN ?_ _ | refine bstep (by assumption) ?_ | refine bstep (Past.prop _) ?_ | refine Below.setCell ?_ (by first | exact Nat.le_refl _ | (simp;done) | (simp;omega)) _))⟩
def farAt (W:List Pc):Int:=match W.findIdx? isFarB with
  | some i => i
  | none => -1
theorem farAt_iff (W:List Pc):decide (0≤farAt W) = farB W:=by
  unfold farAt farB
  cases h:W.findIdx? isFarB with
  | none =>
    rw [List.findIdx?_eq_none_iff] at h
    simp only
    rw [show decide ((0:Int) ≤ -1) = false from rfl]
    symm
    rw [List.any_eq_false]
    intro x hx
    simpa using h x hx
  | some i =>
    simp only
    rw [decide_eq_true (by omega)]
    symm
    rw [List.findIdx?_eq_some_iff_getElem] at h
    obtain ⟨hi,h1,_⟩:=h
    exact List.any_eq_true.2 ⟨_,List.getElem_mem hi,h1⟩
set_option maxHeartbeats 2000000 in
set_option maxRecDepth 100000 in
theorem indexFar_c (W:List Pc) (wa:Option Addr) (wcap:Nat) (w:World) (hWl:W.length≤9223372036854775807) (hW:ArgVs w wa W) :
    Calls Tryz.prog 52 #[.slice wa W.length wcap,.func (.func 38) #[] #[]] w fun e w' => e = .returned (.int .i64 (farAt W))∧Below w.heap.size w w':=by
  have HW:=hidE hW
  clear hW
  go_enter Tryz.func52,Tryz.ntmps52
  go_wp2
  go_loopg [8] W.length (fun gh v8 wr => ∃ k:Nat,v8 = .int .i64 k∧k≤W.length∧W.length - k≤gh∧(∀ i,i < k→isFarB (W.getD i (0,0)) = false)∧Below w.heap.size w wr)
  case atStart => exact ⟨0,rfl,Nat.zero_le _,Nat.le_refl _,fun i hi => by omega,Below.refl _ _⟩
  case round =>
    obtain ⟨k,rfl,hk,hgh,hno,hbw⟩:=hrel
    have HGH:=hidE hgh;have HNO:=hidE hno;have HBW:=hidE hbw
    clear hgh hno
    by_cases hlt:k < W.length
    · have q1:decide ((k:Int) < (W.length:Int)) = true:=decide_eq_true (by omega)
      have q2:decide (k < W.length) = true:=decide_eq_true hlt
      obtain ⟨b,off,rfl,hbz,hc⟩:=HW.out (by omega)
      obtain ⟨m0,m1⟩:=hc k hlt
      have hgk:W.getD k (0,0) = W[k]:=by rw [List.getD_eq_getElem?_getD,List.getElem?_eq_getElem hlt];rfl
      obtain ⟨q,hq⟩:∃ q,W.getD k (0,0) = q:=⟨_,rfl⟩
      rw [hq] at m0 m1 hgk
      have k0:=(hbw.cell (p:=⟨b,off + k * 2,none⟩) hbz).trans m0
      have k1:=(hbw.cell (p:=⟨b,off + k * 2 + 1,none⟩) hbz).trans m1
      have bz:=Nat.lt_of_lt_of_le hbz hbw.size
      have HQ:=hidE hq;have HGK:=hidE hgk
      have HF:=hidE (fun w => isFar_c q w)
      clear hc m0 m1 hbw hq hgk
      cases hf:isFarB q with
      | true =>
        rw [hf] at HF
        have HN:=hidE (show farAt W = (k:Int) by
          unfold farAt
          rw [List.findIdx?_eq_some_iff_getElem.2 ⟨hlt,by rw [← HGK.out];exact hf,fun j hj => by
            have:=HNO.out j hj
            rw [List.getD_eq_getElem?_getD,List.getElem?_eq_getElem (by omega)] at this
            simpa using this⟩])
        clear hf
        go_wp2_with (go_at_call 38;((with_reducible refine (HF.out _).mono ?_);rintro e w1 ⟨rfl,hb1⟩))
        go_ret
        exact ⟨by rw [HN.out];rfl,HBW.out.trans (hb1.mono HBW.out.size)⟩
      | false =>
        rw [hf] at HF
        have HN:=hidE (show ∀ i,i < k + 1→isFarB (W.getD i (0,0)) = false from fun i hi => by
          by_cases e:i = k
          · rw [e,HQ.out];exact hf
          · exact HNO.out i (by omega))
        clear hf
        go_wp2_with (go_at_call 38;((with_reducible refine (HF.out _).mono ?_);rintro e w1 ⟨rfl,hb1⟩))
        go_roundg (W.length - (k + 1))
        case measure => have:=HGH.out;omega
        case rel => exact ⟨k + 1,by go_num,by omega,Nat.le_refl _,HN.out,HBW.out.trans (hb1.mono HBW.out.size)⟩
    · obtain rfl:k = W.length:=by omega
      have q1:decide ((W.length:Int) < (W.length:Int)) = false:=decide_eq_false (by omega)
      have q2:decide (W.length < W.length) = false:=decide_eq_false (by omega)
      have HN:=hidE (show farAt W = -1 by
        unfold farAt
        rw [List.findIdx?_eq_none_iff.2 fun x hx => by
          obtain ⟨i,hi,rfl⟩:=List.mem_iff_getElem.1 hx
          have:=HNO.out i hi
          rwa [List.getD_eq_getElem?_getD,List.getElem?_eq_getElem hi] at this])
      clear hbw
      go_wp2
      go_ret
      exact ⟨by rw [HN.out];rfl,HBW.out⟩
theorem containsFar_c (W:List Pc) (wa:Option Addr) (wcap:Nat) (w:World) (hWl:W.length≤9223372036854775807) (hW:ArgVs w wa W) :
    Calls Tryz.prog 37 #[.slice wa W.length wcap,.func (.func 38) #[] #[]] w fun e w' => e = .returned (.bool (farB W))∧Below w.heap.size w w':=by
  have HC:=hidE (indexFar_c W wa wcap w hWl hW)
  have HN:=hidE (farAt_iff W)
  clear hW
  generalize farAt W = z at *
  go_enter Tryz.func37,Tryz.ntmps37
  go_wp2_with (go_at_call 52;((with_reducible refine HC.out.mono ?_);rintro e w1 ⟨rfl,hb1⟩))
  go_ret
  exact ⟨by rw [← HN.out];rfl,hb1⟩
set_option maxHeartbeats 2000000 in
set_option maxRecDepth 100000 in
theorem wrong_c (fr to':Int) (l:List Prt) (W:List Pc) (a wa:Option Addr) (cap wcap:Nat) (fits:Bool) (w:World) (hl:l.length≤9223372036854775807) (hWl:W.length≤9223372036854775807) (hA:ArgP w a l) (hW:ArgVs w wa W) (hf : -9223372036854775808≤fr∧fr≤9223372036854775807) (ht : -9223372036854775808≤to'∧to'≤9223372036854775807) :
    Calls Tryz.prog 22 #[def8 fr to' a l.length cap,.slice wa W.length wcap,.bool fits] w fun e w' => e = .returned (.int .i64 (wrongS fr to' l fits W))∧Below w.heap.size w w':=by
  have HCH:=hidE (fun (w':World) (h:Below w.heap.size w w') => shchk_c fr to' l a cap w' hl (hA.past h) hf ht)
  have HAR:=hidE (fun (w':World) (h:Below w.heap.size w w') => arePieces_c l W a wa cap wcap w' hl hWl (hA.past h) (hW.past h))
  have HFA:=hidE (fun (w':World) (h:Below w.heap.size w w') => containsFar_c W wa wcap w' hWl (hW.past h))
  have HS:=hidE (show wrongS fr to' l fits W = if (chkS fr to' l).2 ≠ 0 then 81 else if fits = false ∨ pcsB l (-1) W = false then 2 else if farB W = true then 10 else 0 from rfl)
  clear hA hW
  generalize pcsB l (-1) W = pb at *
  generalize farB W = fb at *
  obtain ⟨c,hc⟩:∃ c,chkS fr to' l = c:=⟨_,rfl⟩
  obtain ⟨c1,c2⟩:=c
  rw [hc] at HCH HS
  clear hc
  by_cases h0:c2 = 0
  · subst h0
    cases fits with
    | false =>
      have HN:=hidE (show wrongS fr to' l false W = 2 by rw [HS.out];rfl)
      go_enter Tryz.func22,Tryz.ntmps22
      go_wp2_with (go_at_call 15;((with_reducible refine (HCH.out _ (by (repeat (first | exact Below.refl _ _ | assumption | refine balloc ?_ _ | refine below_drewN ?_ _ | refine bstep (by assumption) ?_ | refine bstep (Past.prop _) ?_ | refine Below.setCell ?_ (by first | exact Nat.le_refl _ | (simp;done) | (simp;omega)) _)))).mono ?_);rintro e w1 ⟨rfl,hb1⟩))
      go_ret
      exact ⟨by rw [HN.out];rfl,by (repeat (first | exact Below.refl _ _ | assumption | refine balloc ?_ _ | refine below_drewN ?_ _ | refine bstep (by assumption) ?_ | refine bstep (Past.prop _) ?_ | refine Below.setCell ?_ (by first | exact Nat.le_refl _ | (simp;done) | (simp;omega)) _))⟩
    | true =>
      cases pb with
      | false =>
        have HN:=hidE (show wrongS fr to' l true W = 2 by rw [HS.out];rfl)
        go_enter Tryz.func22,Tryz.ntmps22
        go_wp2_with fail
        ((with_reducible refine (HCH.out _ (by (repeat (first | exact Below.refl _ _ | assumption | refine balloc ?_ _ | refine below_drewN ?_ _ | refine bstep (by assumption) ?_ | refine bstep (Past.prop _) ?_ | refine Below.setCell ?_ (by first | exact Nat.le_refl _ | (simp;done) | (simp;omega)) _)))).mono ?_);rintro e w1 ⟨rfl,hb1⟩)
        have hb:=(show Below w.heap.size w (w.alloc (.cells #[.int .i64 fr,.int .i64 to',.slice a l.length cap] 24)) from by (repeat (first | exact Below.refl _ _ | assumption | refine balloc ?_ _ | refine below_drewN ?_ _ | refine bstep (by assumption) ?_ | refine bstep (Past.prop _) ?_ | refine Below.setCell ?_ (by first | exact Nat.le_refl _ | (simp;done) | (simp;omega)) _))).trans (hb1.mono (by simp))
        have hd:=(Blk.made w #[.int .i64 fr,.int .i64 to',.slice a l.length cap] 24).past hb1
        have e2:=hd.cell 2;have z:=hd.lt
        simp at e2
        have HB:=hidE hb
        clear hb1 hb hd
        go_wp2_with fail
        ((with_reducible refine (HAR.out _ HB.out).mono ?_);rintro e w2 ⟨rfl,hb2⟩)
        go_wp2
        go_ret
        exact ⟨by rw [HN.out];rfl,HB.out.trans (hb2.mono HB.out.size)⟩
      | true =>
        go_enter Tryz.func22,Tryz.ntmps22
        go_wp2_with fail
        ((with_reducible refine (HCH.out _ (by (repeat (first | exact Below.refl _ _ | assumption | refine balloc ?_ _ | refine below_drewN ?_ _ | refine bstep (by assumption) ?_ | refine bstep (Past.prop _) ?_ | refine Below.setCell ?_ (by first | exact Nat.le_refl _ | (simp;done) | (simp;omega)) _)))).mono ?_);rintro e w1 ⟨rfl,hb1⟩)
        have hb:=(show Below w.heap.size w (w.alloc (.cells #[.int .i64 fr,.int .i64 to',.slice a l.length cap] 24)) from by (repeat (first | exact Below.refl _ _ | assumption | refine balloc ?_ _ | refine below_drewN ?_ _ | refine bstep (by assumption) ?_ | refine bstep (Past.prop _) ?_ | refine Below.setCell ?_ (by first | exact Nat.le_refl _ | (simp;done) | (simp;omega)) _))).trans (hb1.mono (by simp))
        have hd:=(Blk.made w #[.int .i64 fr,.int .i64 to',.slice a l.length cap] 24).past hb1
        have e2:=hd.cell 2;have z:=hd.lt
        simp at e2
        have HB:=hidE hb
        clear hb1 hb hd
        go_wp2_with fail
        ((with_reducible refine (HAR.out _ HB.out).mono ?_);rintro e w2 ⟨rfl,hb2⟩)
        have HB2:=hidE (HB.out.trans (hb2.mono HB.out.size))
        clear hb2 e2 z
        go_wp2_with fail
        ((with_reducible refine (HFA.out _ HB2.out).mono ?_);rintro e w3 ⟨rfl,hb3⟩)
        have HB3:=hidE (HB2.out.trans (hb3.mono HB2.out.size))
        clear hb3
        cases fb with
        | true =>
          have HN:=hidE (show wrongS fr to' l true W = 10 by rw [HS.out];rfl)
          go_wp2
          go_ret
          exact ⟨by rw [HN.out];rfl,HB3.out⟩
        | false =>
          have HN:=hidE (show wrongS fr to' l true W = 0 by rw [HS.out];rfl)
          go_wp2
          go_ret
          exact ⟨by rw [HN.out];rfl,HB3.out⟩
  · have r1:(c2 != 0) = true:=bne_iff_ne.2 h0
    have HN:=hidE (show wrongS fr to' l fits W = 81 by rw [HS.out];exact if_pos h0)
    clear h0
    go_enter Tryz.func22,Tryz.ntmps22
    go_wp2_with (go_at_call 15;((with_reducible refine (HCH.out _ (by (repeat (first | exact Below.refl _ _ | assumption | refine balloc ?_ _ | refine below_drewN ?_ _ | refine bstep (by assumption) ?_ | refine bstep (Past.prop _) ?_ | refine Below.setCell ?_ (by first | exact Nat.le_refl _ | (simp;done) | (simp;omega)) _)))).mono ?_);rintro e w1 ⟨rfl,hb1⟩))
    go_ret
    exact ⟨by rw [HN.out];rfl,by (repeat (first | exact Below.refl _ _ | assumption | refine balloc ?_ _ | refine below_drewN ?_ _ | refine bstep (by assumption) ?_ | refine bstep (Past.prop _) ?_ | refine Below.setCell ?_ (by first | exact Nat.le_refl _ | (simp;done) | (simp;omega)) _))⟩
end
section
open Go.ChangeShapes Go.WideShapes Go.ChangeAt Go.RowKit
attribute [local irreducible] Go.Calls
def tiZ:TI:=⟨p00,0,none,false⟩
def lookT (er:Int) (t:TI):TI:=if er = 0 then t else tiZ
def LkPost (w:World) (t:TI) (er:Int) (e:Ending) (w':World):Prop:=∃ k:TV,k.t = t∧e = .returned (.tuple #[.agg k.arr,.int .i64 er])∧Below w.heap.size w w'
def Here (l:List Prt) (W:List Pc) (z:Int) (t:TI):Prop:=∃ (y:Prt) (K:Fst) (deep ink o:Nat),AtF l o (.cons y K .nil)∧(Fst.cons y K .nil).fit deep ink∧t = satI W y K o∧z = (o:Int)
theorem wrong_zero {fr to':Int} {l:List Prt} {fits:Bool} {W:List Pc} (h:wrongS fr to' l fits W = 0):(chkS fr to' l).2 = 0∧fits = true∧pcsB l (-1) W = true∧farB W = false:=by
  unfold wrongS at h
  split at h
  · cases h
  · rename_i h1
    split at h
    · cases h
    · rename_i h2
      split at h
      · cases h
      · rename_i h3
        refine ⟨by omega, ?_, ?_,by simpa using h3⟩
        · cases fits
          · exact absurd (.inl rfl) h2
          · rfl
        · cases hp:pcsB l (-1) W
          · exact absurd (.inr hp) h2
          · rfl
theorem far_ok {W:List Pc} (h:farB W = false):PcOk W:=by
  intro p hp
  unfold farB at h
  rw [List.any_eq_false] at h
  have:=h p hp
  unfold isFarB at this
  simp at this
  omega
set_option maxHeartbeats 4000000 in
set_option maxRecDepth 100000 in
theorem look_c (fr to':Int) (l:List Prt) (W:List Pc) (a wa:Option Addr) (cap wcap:Nat) (z:Int) (t:TI) (w:World) (hl:l.length≤9223372036854775807) (hWl:W.length≤100000) (hA:ArgP w a l) (hW:ArgVs w wa W) (hf : -9223372036854775808≤fr∧fr≤9223372036854775807) (ht : -9223372036854775808≤to'∧to'≤9223372036854775807) (hz : -9223372036854775808≤z∧z≤9223372036854775807) (hh:wrongS fr to' l (decide (0≤z∧z < (l.length:Int))) W = 0→Here l W z t) :
    Calls Tryz.prog 28 #[def8 fr to' a l.length cap,.slice wa W.length wcap,.int .i64 z] w (LkPost w (lookT (wrongS fr to' l (decide (0≤z∧z < (l.length:Int))) W) t) (wrongS fr to' l (decide (0≤z∧z < (l.length:Int))) W)):=by
  obtain ⟨E,hE⟩:∃ E,wrongS fr to' l (decide (0≤z∧z < (l.length:Int))) W = E:=⟨_,rfl⟩
  have HER:=hidE hE
  rw [hE] at hh ⊢
  have HH:=hidE hh
  clear hE hh
  by_cases z0:0≤z
  · have q0:decide (0≤z) = true:=decide_eq_true z0
    by_cases z1:z < (l.length:Int)
    · have q1:decide (z < (l.length:Int)) = true:=decide_eq_true z1
      have hfit:decide (0≤z∧z < (l.length:Int)) = true:=decide_eq_true ⟨z0,z1⟩
      have HWR:=hidE (fun (w':World) (h:Below w.heap.size w w') => wrong_c fr to' l W a wa cap wcap true w' hl (by omega) (hA.past h) (hW.past h) hf ht)
      rw [hfit] at HER
      clear hfit
      obtain ⟨er,her⟩:∃ er,wrongS fr to' l true W = er:=⟨_,rfl⟩
      rw [her] at HWR HER
      have HE2:=hidE her
      have HA:=hidE hA;have HW:=hidE hW
      obtain rfl:er = E:=HER.out
      clear her hA hW
      go_enter Tryz.func28,Tryz.ntmps28
      go_wp2_with fail
      ((with_reducible refine (HWR.out _ (by (repeat (first | exact Below.refl _ _ | assumption | refine balloc ?_ _ | refine below_drewN ?_ _ | refine bstep (by assumption) ?_ | refine bstep (Past.prop _) ?_ | refine Below.setCell ?_ (by first | exact Nat.le_refl _ | (simp;done) | (simp;omega)) _)))).mono ?_);rintro e w1 ⟨rfl,hb1⟩)
      have hd:=((Blk.made w #[.int .i64 fr,.int .i64 to',.slice a l.length cap] 24).alloc (.cells ti0 78)).past hb1
      have hr:=(Blk.made_at (w.alloc (.cells #[.int .i64 fr,.int .i64 to',.slice a l.length cap] 24)) ti0 78 (w.heap.size + 1) (by simp)).past hb1
      have hb:=(show Below w.heap.size w ((w.alloc (.cells #[.int .i64 fr,.int .i64 to',.slice a l.length cap] 24)).alloc (.cells ti0 78)) from by (repeat (first | exact Below.refl _ _ | assumption | refine balloc ?_ _ | refine below_drewN ?_ _ | refine bstep (by assumption) ?_ | refine bstep (Past.prop _) ?_ | refine Below.setCell ?_ (by first | exact Nat.le_refl _ | (simp;done) | (simp;omega)) _))).trans (hb1.mono (by simp;omega))
      obtain ⟨rb,hrb⟩:∃ r,r = w.heap.size + 1:=⟨_,rfl⟩
      rw [← hrb] at hr ⊢
      have hrz:w.heap.size < rb:=by omega
      have e2:=hd.cell 2;have dz:=hd.lt
      simp at e2
      have HB:=hidE hb;have HR:=hidE hr
      clear hb1 hd hb hr hrb
      by_cases h0:er = 0
      · subst h0
        obtain ⟨y,K,deep,ink,o,hat,hfit,rfl,hzo⟩:=HH.out rfl
        subst hzo
        have hwz:=wrong_zero HE2.out
        have hck:=chk_ok hwz.1
        have HT:=hidE (term_c l W a wa cap wcap hck.2.2.2.2 hck.2.2.1 hWl (far_ok hwz.2.2.2) (K.size + 1) y K o deep ink w1 (Nat.lt_succ_self _) hat hfit (HA.out.past HB.out) (HW.out.past HB.out))
        clear hat hfit hwz hck
        go_wp2_with fail
        ((with_reducible refine HT.out.mono ?_);rintro e w2 ⟨k,hk,rfl,hb2⟩)
        have HK:=hidE hk
        have hr2:=HR.out.past hb2
        have s0:=hr2.free 0;have s1:=hr2.free 1;have s2:=hr2.free 2;have s3:=hr2.free 3;have s4:=hr2.free 4;have s5:=hr2.free 5;have s6:=hr2.free 6;have s7:=hr2.free 7;have s8:=hr2.free 8;have s9:=hr2.free 9;have s10:=hr2.free 10
        have r0:=hr2.cell 0;have r1:=hr2.cell 1;have r2:=hr2.cell 2;have r3:=hr2.cell 3;have r4:=hr2.cell 4;have r5:=hr2.cell 5;have r6:=hr2.cell 6;have r7:=hr2.cell 7;have r8:=hr2.cell 8;have r9:=hr2.cell 9;have r10:=hr2.cell 10;have rz:=hr2.lt
        simp at r0 r1 r2 r3 r4 r5 r6 r7 r8 r9 r10
        have HR2:=hidE hr2;have HB2:=hidE (HB.out.trans (hb2.mono HB.out.size))
        clear hk hr2 hb2 HT e2 dz
        go_wp2
        have hfin:Blk (put11 w2 rb k) rb k.arr 78:=put11_blk (x:=p00) (v := .slice none 0 0) (n:=0) (s:=none) (b:=false) HR2.out k
        have HBF:=hidE (Below.grown HB2.out (put11_grown w2 rb k) HB2.out.size (fun q e => by cases e;omega))
        have x0:=hfin.cell 0;have x1:=hfin.cell 1;have x2:=hfin.cell 2;have x3:=hfin.cell 3;have x4:=hfin.cell 4;have x5:=hfin.cell 5;have x6:=hfin.cell 6;have x7:=hfin.cell 7;have x8:=hfin.cell 8;have x9:=hfin.cell 9;have x10:=hfin.cell 10
        simp at x0 x1 x2 x3 x4 x5 x6 x7 x8 x9 x10
        change bodyPost _ _ _ _ _ (put11 w2 rb k)
        clear hfin HR2 HB2 r0 s0 r1 s1 r2 s2 r3 s3 r4 s4 r5 s5 r6 s6 r7 s7 r8 s8 r9 s9 r10 s10 rz
        generalize put11 w2 rb k = wf at *
        exact bodyPost_ret (v := .tuple #[.agg k.arr,.int .i64 0]) (by simp [results,Tryz.results28,go_sem,x0,x1,x2,x3,x4,x5,x6,x7,x8,x9,x10]) rfl ⟨k,by unfold lookT;rw [if_pos rfl];exact HK.out,rfl,HBF.out⟩
      · have r0:(er != 0) = true:=bne_iff_ne.2 h0
        have HN:=hidE (show lookT er t = tiZ by unfold lookT;rw [if_neg h0])
        have s0:=HR.out.free 0;have s1:=HR.out.free 1;have s2:=HR.out.free 2;have s3:=HR.out.free 3;have s4:=HR.out.free 4;have s5:=HR.out.free 5;have s6:=HR.out.free 6;have s7:=HR.out.free 7;have s8:=HR.out.free 8;have s9:=HR.out.free 9;have s10:=HR.out.free 10
        have r0:=HR.out.cell 0;have r1:=HR.out.cell 1;have r2:=HR.out.cell 2;have r3:=HR.out.cell 3;have r4:=HR.out.cell 4;have r5:=HR.out.cell 5;have r6:=HR.out.cell 6;have r7:=HR.out.cell 7;have r8:=HR.out.cell 8;have r9:=HR.out.cell 9;have r10:=HR.out.cell 10;have rz:=HR.out.lt
        simp at r0 r1 r2 r3 r4 r5 r6 r7 r8 r9 r10
        clear h0 e2 dz
        go_wp2
        have hfin:Blk (put11 w1 rb (⟨tiZ,none,0,0⟩:TV)) rb (⟨tiZ,none,0,0⟩:TV).arr 78:=put11_blk (x:=p00) (v := .slice none 0 0) (n:=0) (s:=none) (b:=false) HR.out (⟨tiZ,none,0,0⟩:TV)
        have HBF:=hidE (Below.grown HB.out (put11_grown w1 rb (⟨tiZ,none,0,0⟩:TV)) HB.out.size (fun q e => by cases e;omega))
        have x0:=hfin.cell 0;have x1:=hfin.cell 1;have x2:=hfin.cell 2;have x3:=hfin.cell 3;have x4:=hfin.cell 4;have x5:=hfin.cell 5;have x6:=hfin.cell 6;have x7:=hfin.cell 7;have x8:=hfin.cell 8;have x9:=hfin.cell 9;have x10:=hfin.cell 10
        simp at x0 x1 x2 x3 x4 x5 x6 x7 x8 x9 x10
        change bodyPost _ _ _ _ _ (put11 w1 rb (⟨tiZ,none,0,0⟩:TV))
        clear hfin HR HB r0 s0 r1 s1 r2 s2 r3 s3 r4 s4 r5 s5 r6 s6 r7 s7 r8 s8 r9 s9 r10 s10 rz
        generalize put11 w1 rb (⟨tiZ,none,0,0⟩:TV) = wf at *
        exact bodyPost_ret (v := .tuple #[.agg (⟨tiZ,none,0,0⟩:TV).arr,.int .i64 er]) (by simp [results,Tryz.results28,go_sem,x0,x1,x2,x3,x4,x5,x6,x7,x8,x9,x10]) rfl ⟨(⟨tiZ,none,0,0⟩:TV),by rw [HN.out],rfl,HBF.out⟩
    · have q1:decide (z < (l.length:Int)) = false:=decide_eq_false z1
      have hfit:decide (0≤z∧z < (l.length:Int)) = false:=decide_eq_false fun h => z1 h.2
      have HWR:=hidE (fun (w':World) (h:Below w.heap.size w w') => wrong_c fr to' l W a wa cap wcap false w' hl (by omega) (hA.past h) (hW.past h) hf ht)
      rw [hfit] at HER
      clear hfit
      obtain ⟨er,her⟩:∃ er,wrongS fr to' l false W = er:=⟨_,rfl⟩
      rw [her] at HWR HER
      have HE2:=hidE her
      have HA:=hidE hA;have HW:=hidE hW
      obtain rfl:er = E:=HER.out
      clear her hA hW
      go_enter Tryz.func28,Tryz.ntmps28
      go_wp2_with fail
      ((with_reducible refine (HWR.out _ (by (repeat (first | exact Below.refl _ _ | assumption | refine balloc ?_ _ | refine below_drewN ?_ _ | refine bstep (by assumption) ?_ | refine bstep (Past.prop _) ?_ | refine Below.setCell ?_ (by first | exact Nat.le_refl _ | (simp;done) | (simp;omega)) _)))).mono ?_);rintro e w1 ⟨rfl,hb1⟩)
      have hd:=((Blk.made w #[.int .i64 fr,.int .i64 to',.slice a l.length cap] 24).alloc (.cells ti0 78)).past hb1
      have hr:=(Blk.made_at (w.alloc (.cells #[.int .i64 fr,.int .i64 to',.slice a l.length cap] 24)) ti0 78 (w.heap.size + 1) (by simp)).past hb1
      have hb:=(show Below w.heap.size w ((w.alloc (.cells #[.int .i64 fr,.int .i64 to',.slice a l.length cap] 24)).alloc (.cells ti0 78)) from by (repeat (first | exact Below.refl _ _ | assumption | refine balloc ?_ _ | refine below_drewN ?_ _ | refine bstep (by assumption) ?_ | refine bstep (Past.prop _) ?_ | refine Below.setCell ?_ (by first | exact Nat.le_refl _ | (simp;done) | (simp;omega)) _))).trans (hb1.mono (by simp;omega))
      obtain ⟨rb,hrb⟩:∃ r,r = w.heap.size + 1:=⟨_,rfl⟩
      rw [← hrb] at hr ⊢
      have hrz:w.heap.size < rb:=by omega
      have e2:=hd.cell 2;have dz:=hd.lt
      simp at e2
      have HB:=hidE hb;have HR:=hidE hr
      clear hb1 hd hb hr hrb
      by_cases h0:er = 0
      · subst h0
        exact absurd (wrong_zero HE2.out).2.1 (by decide)
      · have r0:(er != 0) = true:=bne_iff_ne.2 h0
        have HN:=hidE (show lookT er t = tiZ by unfold lookT;rw [if_neg h0])
        have s0:=HR.out.free 0;have s1:=HR.out.free 1;have s2:=HR.out.free 2;have s3:=HR.out.free 3;have s4:=HR.out.free 4;have s5:=HR.out.free 5;have s6:=HR.out.free 6;have s7:=HR.out.free 7;have s8:=HR.out.free 8;have s9:=HR.out.free 9;have s10:=HR.out.free 10
        have r0:=HR.out.cell 0;have r1:=HR.out.cell 1;have r2:=HR.out.cell 2;have r3:=HR.out.cell 3;have r4:=HR.out.cell 4;have r5:=HR.out.cell 5;have r6:=HR.out.cell 6;have r7:=HR.out.cell 7;have r8:=HR.out.cell 8;have r9:=HR.out.cell 9;have r10:=HR.out.cell 10;have rz:=HR.out.lt
        simp at r0 r1 r2 r3 r4 r5 r6 r7 r8 r9 r10
        clear h0 e2 dz
        go_wp2
        have hfin:Blk (put11 w1 rb (⟨tiZ,none,0,0⟩:TV)) rb (⟨tiZ,none,0,0⟩:TV).arr 78:=put11_blk (x:=p00) (v := .slice none 0 0) (n:=0) (s:=none) (b:=false) HR.out (⟨tiZ,none,0,0⟩:TV)
        have HBF:=hidE (Below.grown HB.out (put11_grown w1 rb (⟨tiZ,none,0,0⟩:TV)) HB.out.size (fun q e => by cases e;omega))
        have x0:=hfin.cell 0;have x1:=hfin.cell 1;have x2:=hfin.cell 2;have x3:=hfin.cell 3;have x4:=hfin.cell 4;have x5:=hfin.cell 5;have x6:=hfin.cell 6;have x7:=hfin.cell 7;have x8:=hfin.cell 8;have x9:=hfin.cell 9;have x10:=hfin.cell 10
        simp at x0 x1 x2 x3 x4 x5 x6 x7 x8 x9 x10
        change bodyPost _ _ _ _ _ (put11 w1 rb (⟨tiZ,none,0,0⟩:TV))
        clear hfin HR HB r0 s0 r1 s1 r2 s2 r3 s3 r4 s4 r5 s5 r6 s6 r7 s7 r8 s8 r9 s9 r10 s10 rz
        generalize put11 w1 rb (⟨tiZ,none,0,0⟩:TV) = wf at *
        exact bodyPost_ret (v := .tuple #[.agg (⟨tiZ,none,0,0⟩:TV).arr,.int .i64 er]) (by simp [results,Tryz.results28,go_sem,x0,x1,x2,x3,x4,x5,x6,x7,x8,x9,x10]) rfl ⟨(⟨tiZ,none,0,0⟩:TV),by rw [HN.out],rfl,HBF.out⟩
  · have q0:decide (0≤z) = false:=decide_eq_false z0
    have hfit:decide (0≤z∧z < (l.length:Int)) = false:=decide_eq_false fun h => z0 h.1
    have HWR:=hidE (fun (w':World) (h:Below w.heap.size w w') => wrong_c fr to' l W a wa cap wcap false w' hl (by omega) (hA.past h) (hW.past h) hf ht)
    rw [hfit] at HER
    clear hfit
    obtain ⟨er,her⟩:∃ er,wrongS fr to' l false W = er:=⟨_,rfl⟩
    rw [her] at HWR HER
    have HE2:=hidE her
    have HA:=hidE hA;have HW:=hidE hW
    obtain rfl:er = E:=HER.out
    clear her hA hW
    go_enter Tryz.func28,Tryz.ntmps28
    go_wp2_with fail
    ((with_reducible refine (HWR.out _ (by (repeat (first | exact Below.refl _ _ | assumption | refine balloc ?_ _ | refine below_drewN ?_ _ | refine bstep (by assumption) ?_ | refine bstep (Past.prop _) ?_ | refine Below.setCell ?_ (by first | exact Nat.le_refl _ | (simp;done) | (simp;omega)) _)))).mono ?_);rintro e w1 ⟨rfl,hb1⟩)
    have hd:=((Blk.made w #[.int .i64 fr,.int .i64 to',.slice a l.length cap] 24).alloc (.cells ti0 78)).past hb1
    have hr:=(Blk.made_at (w.alloc (.cells #[.int .i64 fr,.int .i64 to',.slice a l.length cap] 24)) ti0 78 (w.heap.size + 1) (by simp)).past hb1
    have hb:=(show Below w.heap.size w ((w.alloc (.cells #[.int .i64 fr,.int .i64 to',.slice a l.length cap] 24)).alloc (.cells ti0 78)) from by (repeat (first | exact Below.refl _ _ | assumption | refine balloc ?_ _ | refine below_drewN ?_ _ | refine bstep (by assumption) ?_ | refine bstep (Past.prop _) ?_ | refine Below.setCell ?_ (by first | exact Nat.le_refl _ | (simp;done) | (simp;omega)) _))).trans (hb1.mono (by simp;omega))
    obtain ⟨rb,hrb⟩:∃ r,r = w.heap.size + 1:=⟨_,rfl⟩
    rw [← hrb] at hr ⊢
    have hrz:w.heap.size < rb:=by omega
    have e2:=hd.cell 2;have dz:=hd.lt
    simp at e2
    have HB:=hidE hb;have HR:=hidE hr
    clear hb1 hd hb hr hrb
    by_cases h0:er = 0
    · subst h0
      exact absurd (wrong_zero HE2.out).2.1 (by decide)
    · have r0:(er != 0) = true:=bne_iff_ne.2 h0
      have HN:=hidE (show lookT er t = tiZ by unfold lookT;rw [if_neg h0])
      have s0:=HR.out.free 0;have s1:=HR.out.free 1;have s2:=HR.out.free 2;have s3:=HR.out.free 3;have s4:=HR.out.free 4;have s5:=HR.out.free 5;have s6:=HR.out.free 6;have s7:=HR.out.free 7;have s8:=HR.out.free 8;have s9:=HR.out.free 9;have s10:=HR.out.free 10
      have r0:=HR.out.cell 0;have r1:=HR.out.cell 1;have r2:=HR.out.cell 2;have r3:=HR.out.cell 3;have r4:=HR.out.cell 4;have r5:=HR.out.cell 5;have r6:=HR.out.cell 6;have r7:=HR.out.cell 7;have r8:=HR.out.cell 8;have r9:=HR.out.cell 9;have r10:=HR.out.cell 10;have rz:=HR.out.lt
      simp at r0 r1 r2 r3 r4 r5 r6 r7 r8 r9 r10
      clear h0 e2 dz
      go_wp2
      have hfin:Blk (put11 w1 rb (⟨tiZ,none,0,0⟩:TV)) rb (⟨tiZ,none,0,0⟩:TV).arr 78:=put11_blk (x:=p00) (v := .slice none 0 0) (n:=0) (s:=none) (b:=false) HR.out (⟨tiZ,none,0,0⟩:TV)
      have HBF:=hidE (Below.grown HB.out (put11_grown w1 rb (⟨tiZ,none,0,0⟩:TV)) HB.out.size (fun q e => by cases e;omega))
      have x0:=hfin.cell 0;have x1:=hfin.cell 1;have x2:=hfin.cell 2;have x3:=hfin.cell 3;have x4:=hfin.cell 4;have x5:=hfin.cell 5;have x6:=hfin.cell 6;have x7:=hfin.cell 7;have x8:=hfin.cell 8;have x9:=hfin.cell 9;have x10:=hfin.cell 10
      simp at x0 x1 x2 x3 x4 x5 x6 x7 x8 x9 x10
      change bodyPost _ _ _ _ _ (put11 w1 rb (⟨tiZ,none,0,0⟩:TV))
      clear hfin HR HB r0 s0 r1 s1 r2 s2 r3 s3 r4 s4 r5 s5 r6 s6 r7 s7 r8 s8 r9 s9 r10 s10 rz
      generalize put11 w1 rb (⟨tiZ,none,0,0⟩:TV) = wf at *
      exact bodyPost_ret (v := .tuple #[.agg (⟨tiZ,none,0,0⟩:TV).arr,.int .i64 er]) (by simp [results,Tryz.results28,go_sem,x0,x1,x2,x3,x4,x5,x6,x7,x8,x9,x10]) rfl ⟨(⟨tiZ,none,0,0⟩:TV),by rw [HN.out],rfl,HBF.out⟩
end
section
open Go.ChangeShapes Go.WideShapes Go.ChangeAt Go.RowKit
attribute [local irreducible] Go.Calls
set_option maxHeartbeats 2000000 in
set_option maxRecDepth 100000 in
theorem satTerm_c (fr to':Int) (l:List Prt) (W:List Pc) (a wa:Option Addr) (cap wcap:Nat) (z er:Int) (t:TI) (w:World) (hl:l.length≤9223372036854775807) (hWl:W.length≤100000) (hA:ArgP w a l) (hW:ArgVs w wa W) (hf : -9223372036854775808≤fr∧fr≤9223372036854775807) (ht : -9223372036854775808≤to'∧to'≤9223372036854775807) (hz : -9223372036854775808≤z∧z≤9223372036854775807) (her:wrongS fr to' l (decide (0≤z∧z < (l.length:Int))) W = er) (hh:er = 0→Here l W z t):Calls Tryz.prog 13 #[def8 fr to' a l.length cap,.slice wa W.length wcap,.int .i64 z] w fun e w' => e = .returned (.tuple #[.bool (lookT er t).ok,.int .i64 er])∧Below w.heap.size w w':=by
  have HLK:=hidE (fun (w':World) (h:Below w.heap.size w w') => by
    have:=look_c fr to' l W a wa cap wcap z t w' hl hWl (hA.past h) (hW.past h) hf ht hz (by rw [her];exact hh)
    rw [her] at this
    exact this)
  clear hA hW her hh
  generalize lookT er t = t2 at *
  go_enter Tryz.func13,Tryz.ntmps13
  go_wp2_with fail
  ((with_reducible refine (HLK.out _ (by (repeat (first | exact Below.refl _ _ | assumption | refine balloc ?_ _ | refine below_drewN ?_ _ | refine bstep (by assumption) ?_ | refine bstep (Past.prop _) ?_ | refine Below.setCell ?_ (by first | exact Nat.le_refl _ | (simp;done) | (simp;omega)) _)))).mono ?_);rintro e w1 ⟨k,hk,rfl,hb1⟩)
  have HK:=hidE hk
  have hb:=(show Below w.heap.size w (w.alloc (.cells #[.int .i64 fr,.int .i64 to',.slice a l.length cap] 24)) from by (repeat (first | exact Below.refl _ _ | assumption | refine balloc ?_ _ | refine below_drewN ?_ _ | refine bstep (by assumption) ?_ | refine bstep (Past.prop _) ?_ | refine Below.setCell ?_ (by first | exact Nat.le_refl _ | (simp;done) | (simp;omega)) _))).trans (hb1.mono (by simp))
  have hd:=(Blk.made w #[.int .i64 fr,.int .i64 to',.slice a l.length cap] 24).past hb1
  have e0:=hd.cell 0;have e1:=hd.cell 1;have dz:=hd.lt
  simp at e0 e1
  have HB:=hidE hb
  clear hb1 hd hb hk
  go_wp2
  go_ret2
  exact ⟨by rw [← HK.out];rfl,HB.out.trans ((show Below w1.heap.size w1 _ from by (repeat (first | exact Below.refl _ _ | assumption | refine balloc ?_ _ | refine below_drewN ?_ _ | refine bstep (by assumption) ?_ | refine bstep (Past.prop _) ?_ | refine Below.setCell ?_ (by first | exact Nat.le_refl _ | (simp;done) | (simp;omega)) _))).mono HB.out.size)⟩
set_option maxHeartbeats 2000000 in
set_option maxRecDepth 100000 in
theorem satEnds_c (fr to':Int) (l:List Prt) (W:List Pc) (a wa:Option Addr) (cap wcap:Nat) (z er:Int) (t:TI) (w:World) (hl:l.length≤9223372036854775807) (hWl:W.length≤100000) (hA:ArgP w a l) (hW:ArgVs w wa W) (hf : -9223372036854775808≤fr∧fr≤9223372036854775807) (ht : -9223372036854775808≤to'∧to'≤9223372036854775807) (hz : -9223372036854775808≤z∧z≤9223372036854775807) (her:wrongS fr to' l (decide (0≤z∧z < (l.length:Int))) W = er) (hh:er = 0→Here l W z t):Calls Tryz.prog 14 #[def8 fr to' a l.length cap,.slice wa W.length wcap,.int .i64 z] w fun e w' => e = .returned (.tuple #[.int .i64 (seB (lookT er t).se),.int .i64 (seE (lookT er t).se),.bool (lookT er t).se.isSome,.int .i64 er])∧Below w.heap.size w w':=by
  have HLK:=hidE (fun (w':World) (h:Below w.heap.size w w') => by
    have:=look_c fr to' l W a wa cap wcap z t w' hl hWl (hA.past h) (hW.past h) hf ht hz (by rw [her];exact hh)
    rw [her] at this
    exact this)
  clear hA hW her hh
  generalize lookT er t = t2 at *
  go_enter Tryz.func14,Tryz.ntmps14
  go_wp2_with fail
  ((with_reducible refine (HLK.out _ (by (repeat (first | exact Below.refl _ _ | assumption | refine balloc ?_ _ | refine below_drewN ?_ _ | refine bstep (by assumption) ?_ | refine bstep (Past.prop _) ?_ | refine Below.setCell ?_ (by first | exact Nat.le_refl _ | (simp;done) | (simp;omega)) _)))).mono ?_);rintro e w1 ⟨k,hk,rfl,hb1⟩)
  have HK:=hidE hk
  have hb:=(show Below w.heap.size w (w.alloc (.cells #[.int .i64 fr,.int .i64 to',.slice a l.length cap] 24)) from by (repeat (first | exact Below.refl _ _ | assumption | refine balloc ?_ _ | refine below_drewN ?_ _ | refine bstep (by assumption) ?_ | refine bstep (Past.prop _) ?_ | refine Below.setCell ?_ (by first | exact Nat.le_refl _ | (simp;done) | (simp;omega)) _))).trans (hb1.mono (by simp))
  have hd:=(Blk.made w #[.int .i64 fr,.int .i64 to',.slice a l.length cap] 24).past hb1
  have e0:=hd.cell 0;have e1:=hd.cell 1;have dz:=hd.lt
  simp at e0 e1
  have HB:=hidE hb
  clear hb1 hd hb hk
  go_wp2
  go_quiet (fail)
  go_wp2
  refine bodyPost_ret (v := .tuple #[.int .i64 (seB k.t.se),.int .i64 (seE k.t.se),.bool k.t.se.isSome,.int .i64 er]) (by simp [results,Tryz.results14,go_sem]) rfl ?_
  exact ⟨by rw [← HK.out],HB.out.trans ((show Below w1.heap.size w1 _ from by (repeat (first | exact Below.refl _ _ | assumption | refine balloc ?_ _ | refine below_drewN ?_ _ | refine bstep (by assumption) ?_ | refine bstep (Past.prop _) ?_ | refine Below.setCell ?_ (by first | exact Nat.le_refl _ | (simp;done) | (simp;omega)) _))).mono HB.out.size)⟩
set_option maxHeartbeats 2000000 in
set_option maxRecDepth 100000 in
theorem satShort_c (fr to':Int) (l:List Prt) (a:Option Addr) (cap:Nat) (z er:Int) (t:TI) (w:World) (hl:l.length≤9223372036854775807) (hA:ArgP w a l) (hf : -9223372036854775808≤fr∧fr≤9223372036854775807) (ht : -9223372036854775808≤to'∧to'≤9223372036854775807) (hz : -9223372036854775808≤z∧z≤9223372036854775807) (her:wrongS fr to' l (decide (0≤z∧z < (l.length:Int))) [] = er) (hh:er = 0→Here l [] z t) :
    Calls Tryz.prog 9 #[def8 fr to' a l.length cap,.int .i64 z] w fun e w' => e = .returned (.tuple #[.int .i64 (lookT er t).len,.int .i64 er])∧Below w.heap.size w w':=by
  have HLK:=hidE (fun (w':World) (h:Below w.heap.size w w') => by
    have:=look_c fr to' l [] a none cap 0 z t w' hl (by simp) (hA.past h) (fun h => by simp at h) hf ht hz (by rw [her];exact hh)
    rw [her,List.length_nil] at this
    exact this)
  clear hA her hh
  generalize lookT er t = t2 at *
  go_enter Tryz.func9,Tryz.ntmps9
  go_wp2_with fail
  ((with_reducible refine (HLK.out _ (by (repeat (first | exact Below.refl _ _ | assumption | refine balloc ?_ _ | refine below_drewN ?_ _ | refine bstep (by assumption) ?_ | refine bstep (Past.prop _) ?_ | refine Below.setCell ?_ (by first | exact Nat.le_refl _ | (simp;done) | (simp;omega)) _)))).mono ?_);rintro e w1 ⟨k,hk,rfl,hb1⟩)
  have HK:=hidE hk
  have hb:=(show Below w.heap.size w (w.alloc (.cells #[.int .i64 fr,.int .i64 to',.slice a l.length cap] 24)) from by (repeat (first | exact Below.refl _ _ | assumption | refine balloc ?_ _ | refine below_drewN ?_ _ | refine bstep (by assumption) ?_ | refine bstep (Past.prop _) ?_ | refine Below.setCell ?_ (by first | exact Nat.le_refl _ | (simp;done) | (simp;omega)) _))).trans (hb1.mono (by simp))
  have hd:=(Blk.made w #[.int .i64 fr,.int .i64 to',.slice a l.length cap] 24).past hb1
  have e0:=hd.cell 0;have e1:=hd.cell 1;have dz:=hd.lt
  simp at e0 e1
  have HB:=hidE hb
  clear hb1 hd hb hk
  go_wp2
  go_ret2
  exact ⟨by rw [← HK.out];rfl,HB.out.trans ((show Below w1.heap.size w1 _ from by (repeat (first | exact Below.refl _ _ | assumption | refine balloc ?_ _ | refine below_drewN ?_ _ | refine bstep (by assumption) ?_ | refine bstep (Past.prop _) ?_ | refine Below.setCell ?_ (by first | exact Nat.le_refl _ | (simp;done) | (simp;omega)) _))).mono HB.out.size)⟩
set_option maxHeartbeats 2000000 in
set_option maxRecDepth 100000 in
theorem satSat_c (fr to':Int) (l:List Prt) (W:List Pc) (a wa:Option Addr) (cap wcap:Nat) (er:Int) (t:TI) (w:World) (hl:l.length≤9223372036854775807) (hWl:W.length≤100000) (hA:ArgP w a l) (hW:ArgVs w wa W) (hf : -9223372036854775808≤fr∧fr≤9223372036854775807) (ht : -9223372036854775808≤to'∧to'≤9223372036854775807) (her:wrongS fr to' l (decide ((0:Int)≤0∧0 < (l.length:Int))) W = er) (hh:er = 0→Here l W 0 t) :
    Calls Tryz.prog 10 #[def8 fr to' a l.length cap,.slice wa W.length wcap] w fun e w' => e = .returned (.bool ((lookT er t).ok && (decide (fr≤seB (lookT er t).se) && decide (seE (lookT er t).se≤to'))))∧Below w.heap.size w w':=by
  have HLK:=hidE (fun (w':World) (h:Below w.heap.size w w') => by
    have:=look_c fr to' l W a wa cap wcap 0 t w' hl hWl (hA.past h) (hW.past h) hf ht (by omega) (by rw [her];exact hh)
    rw [her] at this
    exact this)
  clear hA hW her hh
  generalize lookT er t = t2 at *
  go_enter Tryz.func10,Tryz.ntmps10
  go_wp2_with fail
  ((with_reducible refine (HLK.out _ (by (repeat (first | exact Below.refl _ _ | assumption | refine balloc ?_ _ | refine below_drewN ?_ _ | refine bstep (by assumption) ?_ | refine bstep (Past.prop _) ?_ | refine Below.setCell ?_ (by first | exact Nat.le_refl _ | (simp;done) | (simp;omega)) _)))).mono ?_);rintro e w1 ⟨k,hk,rfl,hb1⟩)
  have HK:=hidE hk
  have hb:=(show Below w.heap.size w (w.alloc (.cells #[.int .i64 fr,.int .i64 to',.slice a l.length cap] 24)) from by (repeat (first | exact Below.refl _ _ | assumption | refine balloc ?_ _ | refine below_drewN ?_ _ | refine bstep (by assumption) ?_ | refine bstep (Past.prop _) ?_ | refine Below.setCell ?_ (by first | exact Nat.le_refl _ | (simp;done) | (simp;omega)) _))).trans (hb1.mono (by simp))
  have hd:=(Blk.made w #[.int .i64 fr,.int .i64 to',.slice a l.length cap] 24).past hb1
  have e0:=hd.cell 0;have e1:=hd.cell 1;have dz:=hd.lt
  simp at e0 e1
  have HB:=hidE hb
  clear hb1 hd hb hk
  obtain ⟨v,hv⟩:∃ v,v = (k.t.ok && (decide (fr≤seB k.t.se) && decide (seE k.t.se≤to'))):=⟨_,rfl⟩
  have HV:=hidE (show (t2.ok && (decide (fr≤seB t2.se) && decide (seE t2.se≤to'))) = v by rw [← HK.out,hv])
  obtain ⟨ok,hok⟩:∃ ok,k.t.ok = ok:=⟨_,rfl⟩
  obtain ⟨b1,hb1⟩:∃ b1,decide (fr≤seB k.t.se) = b1:=⟨_,rfl⟩
  obtain ⟨b2,hb2⟩:∃ b2,decide (seE k.t.se≤to') = b2:=⟨_,rfl⟩
  rw [hok,hb1,hb2] at hv
  have HVV:=hidE hv
  clear hv
  cases ok with
  | false =>
    go_wp2
    go_ret
    exact ⟨by rw [HV.out,HVV.out];rfl,HB.out.trans ((show Below w1.heap.size w1 _ from by (repeat (first | exact Below.refl _ _ | assumption | refine balloc ?_ _ | refine below_drewN ?_ _ | refine bstep (by assumption) ?_ | refine bstep (Past.prop _) ?_ | refine Below.setCell ?_ (by first | exact Nat.le_refl _ | (simp;done) | (simp;omega)) _))).mono HB.out.size)⟩
  | true =>
    cases b1 with
    | false =>
      go_wp2
      go_ret
      exact ⟨by rw [HV.out,HVV.out];rfl,HB.out.trans ((show Below w1.heap.size w1 _ from by (repeat (first | exact Below.refl _ _ | assumption | refine balloc ?_ _ | refine below_drewN ?_ _ | refine bstep (by assumption) ?_ | refine bstep (Past.prop _) ?_ | refine Below.setCell ?_ (by first | exact Nat.le_refl _ | (simp;done) | (simp;omega)) _))).mono HB.out.size)⟩
    | true =>
      go_wp2
      go_ret
      exact ⟨by rw [HV.out,HVV.out,← hb2];rfl,HB.out.trans ((show Below w1.heap.size w1 _ from by (repeat (first | exact Below.refl _ _ | assumption | refine balloc ?_ _ | refine below_drewN ?_ _ | refine bstep (by assumption) ?_ | refine bstep (Past.prop _) ?_ | refine Below.setCell ?_ (by first | exact Nat.le_refl _ | (simp;done) | (simp;omega)) _))).mono HB.out.size)⟩
end
section
open Go.ChangeShapes Go.WideShapes Go.ChangeAt Go.RowKit
attribute [local irreducible] Go.Calls
set_option maxRecDepth 100000 in
theorem next_c (f g:List Sg) (a a':Option Addr) (cap cap':Nat) (w:World) (hl:f.length≤1000000000) (hl':g.length≤1000000000) (hne:¬ (f.length = 0∧g.length = 0)) (hA:ArgS w a f) (hA':ArgS w a' g) :
    Calls Tryz.prog 82 #[.slice a f.length cap,.slice a' g.length cap'] w fun e w' => e = .returned (.int .i64 (nextT f g))∧Below w.heap.size w w':=by
  by_cases hg:g.length = 0
  · have hf:0 < f.length:=by omega
    have HE:=hidE (show nextT f g = ats f 0 by unfold nextT;rw [if_pos (.inl hg)])
    obtain ⟨b,off,rfl,hb,hc⟩:=hA hf
    obtain ⟨c0,_,_⟩:=hc.get (i:=0) hf
    simp at c0
    have dg:((g.length:Int) == 0) = true:=beq_iff_eq.2 (by omega)
    clear hA hA' hc hne hg
    rw [HE.out]
    generalize ats f 0 = u at *
    generalize f.length = k at *
    generalize g.length = k' at *
    go_enter Tryz.func82,Tryz.ntmps82
    go_wp2
    go_quiet (fail)
    go_wp2
    go_ret
    exact ⟨rfl,by (repeat (first | exact Below.refl _ _ | assumption | refine balloc ?_ _ | refine below_drewN ?_ _ | refine bstep (by assumption) ?_ | refine bstep (Past.prop _) ?_ | refine Below.setCell ?_ (by first | exact Nat.le_refl _ | (simp;done) | (simp;omega)) _))⟩
  · have hg0:0 < g.length:=by omega
    obtain ⟨b',off',rfl,hb',hc'⟩:=hA' hg0
    obtain ⟨d0,_,_⟩:=hc'.get (i:=0) hg0
    simp at d0
    have dg:((g.length:Int) == 0) = false:=beq_eq_false_iff_ne.2 (by omega)
    by_cases hf:f.length = 0
    · have HE:=hidE (show nextT f g = ats g 0 by unfold nextT;rw [if_neg (by omega)])
      have df:decide (0 < f.length) = false:=decide_eq_false (by omega)
      clear hA hA' hc' hne hg hf
      rw [HE.out]
      generalize ats g 0 = u at *
      generalize g.length = k at *
      generalize f.length = k' at *
      go_enter Tryz.func82,Tryz.ntmps82
      go_wp2
      go_quiet (fail)
      go_wp2
      go_ret
      exact ⟨rfl,by (repeat (first | exact Below.refl _ _ | assumption | refine balloc ?_ _ | refine below_drewN ?_ _ | refine bstep (by assumption) ?_ | refine bstep (Past.prop _) ?_ | refine Below.setCell ?_ (by first | exact Nat.le_refl _ | (simp;done) | (simp;omega)) _))⟩
    · have hf0:0 < f.length:=by omega
      obtain ⟨b,off,rfl,hb,hc⟩:=hA hf0
      obtain ⟨c0,_,_⟩:=hc.get (i:=0) hf0
      simp at c0
      have df:decide (0 < f.length) = true:=decide_eq_true hf0
      by_cases hlt:ats f 0 < ats g 0
      · have HE:=hidE (show nextT f g = ats f 0 by unfold nextT;rw [if_pos (.inr ⟨hf0,hlt⟩)])
        have dl:decide (ats f 0 < ats g 0) = true:=decide_eq_true hlt
        clear hA hA' hc hc' hne hg hf hlt
        rw [HE.out]
        generalize ats g 0 = u at *
        generalize ats f 0 = u' at *
        generalize g.length = k at *
        generalize f.length = k' at *
        go_enter Tryz.func82,Tryz.ntmps82
        go_wp2
        go_quiet (fail)
        go_wp2
        go_ret
        exact ⟨rfl,by (repeat (first | exact Below.refl _ _ | assumption | refine balloc ?_ _ | refine below_drewN ?_ _ | refine bstep (by assumption) ?_ | refine bstep (Past.prop _) ?_ | refine Below.setCell ?_ (by first | exact Nat.le_refl _ | (simp;done) | (simp;omega)) _))⟩
      · have HE:=hidE (show nextT f g = ats g 0 by unfold nextT;rw [if_neg (by omega)])
        have dl:decide (ats f 0 < ats g 0) = false:=decide_eq_false hlt
        clear hA hA' hc hc' hne hg hf hlt
        rw [HE.out]
        generalize ats g 0 = u at *
        generalize ats f 0 = u' at *
        generalize g.length = k at *
        generalize f.length = k' at *
        go_enter Tryz.func82,Tryz.ntmps82
        go_wp2
        go_quiet (fail)
        go_wp2
        go_ret
        exact ⟨rfl,by (repeat (first | exact Below.refl _ _ | assumption | refine balloc ?_ _ | refine below_drewN ?_ _ | refine bstep (by assumption) ?_ | refine bstep (Past.prop _) ?_ | refine Below.setCell ?_ (by first | exact Nat.le_refl _ | (simp;done) | (simp;omega)) _))⟩
def SliAll (a:Option Addr) (f:List Sg) (v:Value) (r:List Sg):Prop :=
  ∃ (a2:Option Addr) (cap2:Nat),v = .slice a2 r.length cap2∧r.length≤cap2∧cap2≤9223372036854775807∧∀ w0,ArgS w0 a f→ArgS w0 a2 r
theorem sliAll_refl (a:Option Addr) (f:List Sg) (cap:Nat) (h:f.length≤cap) (h2:cap≤9223372036854775807):SliAll a f (.slice a f.length cap) f:=⟨a,cap,rfl,h,h2,fun _ h => h⟩
theorem argS_tail {b off:Nat} {f:List Sg} (w0:World) (h:ArgS w0 (some ⟨b,off,none⟩) f):ArgS w0 (some ⟨b,off + 3,none⟩) (f.drop 1):=fun hl => by
  rw [List.length_drop] at hl
  obtain ⟨b',off',e,hb,hc⟩:=h (by omega)
  cases e
  refine ⟨b,off + 3,rfl,hb,fun i hi => ?_⟩
  rw [List.length_drop] at hi
  obtain ⟨h1,h2,h3⟩:=hc (i + 1) (by omega)
  have e:(f.drop 1).getD i (0,0,0) = f.getD (i + 1) (0,0,0):=by simp [List.getD_eq_getElem?_getD]
  rw [e,show off + 3 + i * 3 = off + (i + 1) * 3 by omega]
  exact ⟨h1,h2,h3⟩
set_option maxRecDepth 100000 in
theorem pass_c (f:List Sg) (t x y:Int) (a:Option Addr) (cap:Nat) (w:World) (hl:f.length≤cap) (hl':cap≤9223372036854775807) (hA:ArgS w a f) :
    Calls Tryz.prog 83 #[.slice a f.length cap,.int .i64 t,V x y] w fun e w' => (∃ sv,e = .returned (.tuple #[V (passV f t (x,y)).1 (passV f t (x,y)).2,sv])∧SliAll a f sv (passF f t))∧Below w.heap.size w w':=by
  by_cases hf:f.length = 0
  · have HE:=hidE (show passV f t (x,y) = (x,y) by unfold passV hit;rw [if_neg (by rw [hf];simp)])
    have HF:=hidE (show passF f t = f by unfold passF hit;rw [if_neg (by rw [hf];simp)])
    have HS:=hidE (sliAll_refl a f cap hl hl')
    have df:decide (0 < f.length) = false:=decide_eq_false (by omega)
    clear hA hf hl hl'
    rw [HE.out,HF.out]
    generalize f.length = k at *
    go_enter Tryz.func83,Tryz.ntmps83
    go_wp2
    refine bodyPost_ret (v := .tuple #[V x y,.slice a k cap]) (by simp [results,Tryz.results83,go_sem, *]) rfl ⟨⟨_,rfl,HS.out⟩, ?_⟩
    (repeat (first | exact Below.refl _ _ | assumption | refine balloc ?_ _ | refine below_drewN ?_ _ | refine bstep (by assumption) ?_ | refine bstep (Past.prop _) ?_ | refine Below.setCell ?_ (by first | exact Nat.le_refl _ | (simp;done) | (simp;omega)) _))
  · have hf0:0 < f.length:=by omega
    obtain ⟨b,off,rfl,hb,hc⟩:=hA hf0
    obtain ⟨c0,c1,c2⟩:=hc.get (i:=0) hf0
    simp at c0 c1 c2
    have df:decide (0 < f.length) = true:=decide_eq_true hf0
    by_cases ht:ats f 0 = t
    · have HE:=hidE (show passV f t (x,y) = vls f 0 by unfold passV hit;rw [if_pos (by simp [hf0,ht])])
      have HF:=hidE (show passF f t = f.drop 1 by unfold passF hit;rw [if_pos (by simp [hf0,ht])])
      have HS:=hidE (argS_tail (b:=b) (off:=off) (f:=f))
      have dt:(ats f 0 == t) = true:=beq_iff_eq.2 ht
      have HL:=hidE (show (f.drop 1).length = f.length - 1 by rw [List.length_drop])
      clear hA hc hf ht
      rw [HE.out,HF.out]
      generalize f.drop 1 = r at *
      generalize ats f 0 = u at *
      generalize vls f 0 = v at *
      go_enter Tryz.func83,Tryz.ntmps83
      go_upto_region 2 with fail
      go_region
      have hB:Below w.heap.size w ((w.alloc (Obj.cells #[Value.int IntKind.i64 x,Value.int IntKind.i64 y] 38)).alloc (Obj.cells #[Value.int IntKind.i64 v.fst,Value.int IntKind.i64 v.snd] 38)).drew :=
        Below.trans (b:=(w.alloc (Obj.cells #[Value.int IntKind.i64 x,Value.int IntKind.i64 y] 38)).alloc (Obj.cells #[Value.int IntKind.i64 v.fst,Value.int IntKind.i64 v.snd] 38)) (by (repeat (first | exact Below.refl _ _ | assumption | refine balloc ?_ _ | refine below_drewN ?_ _ | refine bstep (by assumption) ?_ | refine bstep (Past.prop _) ?_ | refine Below.setCell ?_ (by first | exact Nat.le_refl _ | (simp;done) | (simp;omega)) _))) (Below.refl _ _).drew
      have HB:=hidE hB
      clear hB
      go_wp2
      · refine bodyPost_ret (v := .tuple #[V v.1 v.2,.slice (if cap = 1 then some ⟨b,off,none⟩ else some ⟨b,off + 3,none⟩) (f.length - 1) (cap - 1)]) (by simp [results,Tryz.results83,go_sem, *]) rfl ⟨⟨_,rfl,_,_,by rw [HL.out],by rw [HL.out];omega,by omega,fun w0 h0 hl0 => ?_⟩,HB.out⟩
        rw [HL.out] at hl0
        omega
      · refine bodyPost_ret (v := .tuple #[V v.1 v.2,.slice (if cap = 1 then some ⟨b,off,none⟩ else some ⟨b,off + 3,none⟩) (f.length - 1) (cap - 1)]) (by simp [results,Tryz.results83,go_sem, *]) rfl ⟨⟨_,rfl,_,_,by rw [HL.out],by rw [HL.out];omega,by omega,fun w0 h0 => ?_⟩,HB.out⟩
        rw [if_neg (by assumption)]
        exact HS.out w0 h0
    · have HE:=hidE (show passV f t (x,y) = (x,y) by unfold passV hit;rw [if_neg (by simp [ht])])
      have HF:=hidE (show passF f t = f by unfold passF hit;rw [if_neg (by simp [ht])])
      have HS:=hidE (sliAll_refl (some ⟨b,off,none⟩) f cap hl hl')
      have dt:(ats f 0 == t) = false:=beq_eq_false_iff_ne.2 ht
      clear hA hc hf hl hl' ht c1 c2
      rw [HE.out,HF.out]
      generalize ats f 0 = u at *
      generalize f.length = k at *
      go_enter Tryz.func83,Tryz.ntmps83
      go_wp2
      refine bodyPost_ret (v := .tuple #[V x y,.slice (some ⟨b,off,none⟩) k cap]) (by simp [results,Tryz.results83,go_sem, *]) rfl ⟨⟨_,rfl,HS.out⟩, ?_⟩
      (repeat (first | exact Below.refl _ _ | assumption | refine balloc ?_ _ | refine below_drewN ?_ _ | refine bstep (by assumption) ?_ | refine bstep (Past.prop _) ?_ | refine Below.setCell ?_ (by first | exact Nat.le_refl _ | (simp;done) | (simp;omega)) _))
end
section
open Go.ChangeShapes Go.WideShapes Go.ChangeAt Go.RowKit
attribute [local irreducible] Go.Calls
def encT (p:Tg):Array Value:=#[.int .i64 p.1,.agg #[.int .i64 p.2.1.1,.int .i64 p.2.1.2,.int .i64 p.2.2.1,.int .i64 p.2.2.2]]
def TogAt (F G:List Sg) (w0 W:World) (J:List Tg→World→Prop) (gh:Nat) (v4 v5:Value) (wr:World):Prop :=
  ∃ (f g : List Sg) (x y : Int × Int) (pre : List Tg) (a1 a2 : Option Addr) (c1 c2 : Nat), v4 = .slice a1 f.length c1 ∧ v5 = .slice a2 g.length c2 ∧
    f.length≤c1∧c1≤9223372036854775807∧g.length≤c2∧c2≤9223372036854775807∧ArgS w0 a1 f∧ArgS w0 a2 g∧f.length + g.length≤gh∧f.length + g.length≤1000000000 ∧
    pre ++ tog gh f g x y = togL F G∧J pre wr∧Below w0.heap.size w0 wr∧W.heap.size≤wr.heap.size∧Blk wr (W.heap.size + 1) #[.int .i64 x.1,.int .i64 x.2,.int .i64 y.1,.int .i64 y.2] 133
set_option maxRecDepth 100000 in
set_option maxHeartbeats 2000000 in
theorem tog_c (F G:List Sg) (a a':Option Addr) (cap cap':Nat) (fv:Value) (w0 w:World) (hF:F.length≤cap) (hc:cap≤9223372036854775807) (hG:G.length≤cap') (hc':cap'≤9223372036854775807)
    (hl:F.length + G.length≤1000000000) (hA:ArgS w0 a F) (hA':ArgS w0 a' G) (hb:Below w0.heap.size w0 w) :
    SeqT Tryz.prog 58 #[.agg #[.slice a F.length cap,.slice a' G.length cap',fv]] #[] encT w0.heap.size (togL F G) w:=by
  intro l J Jx W hW hJ hJx hY h0
  have H0:=hidE h0;have HJ:=hidE hJ;have HJX:=hidE hJx;have HY:=hidE hY
  have HA:=hidE hA;have HA':=hidE hA'
  have hbW:Below w0.heap.size w0 W:=hb.trans (hW.mono hb.size)
  have HBW:=hidE hbW
  have HL:=hidE (And.intro (And.intro hF hc) (And.intro hG hc'))
  clear hA hA' hJ hJx hY h0 hF hG hc hc' hb hW hbW
  show Calls Tryz.prog 58 #[.agg #[.slice a F.length cap,.slice a' G.length cap',fv],.func (.yield l) #[] #[]] W _
  go_enter Tryz.func58,Tryz.ntmps58
  go_wp2
  go_quiet (fail)
  go_wp2
  go_loopg [4,5,7] (F.length + G.length) (fun gh v4 v5 _ wr => TogAt F G w0 W J gh v4 v5 wr)
  case atStart =>
    obtain ⟨⟨e1,e2⟩,e3,e4⟩:=HL.out
    refine ⟨F,G,(0,0),(0,0),[],a,a',cap,cap',rfl,rfl,e1,e2,e3,e4,HA.out,HA'.out,Nat.le_refl _,hl,rfl,HJ.out _ _ _ H0.out ?_,HBW.out.trans (Below.mono ?_ HBW.out.size), ?_, ?_⟩
    · (repeat (first | exact Below.refl _ _ | assumption | refine balloc ?_ _ | refine below_drewN ?_ _ | refine bstep (by assumption) ?_ | refine bstep (Past.prop _) ?_ | refine Below.setCell ?_ (by first | exact Nat.le_refl _ | (simp;done) | (simp;omega)) _))
    · (repeat (first | exact Below.refl _ _ | assumption | refine balloc ?_ _ | refine below_drewN ?_ _ | refine bstep (by assumption) ?_ | refine bstep (Past.prop _) ?_ | refine Below.setCell ?_ (by first | exact Nat.le_refl _ | (simp;done) | (simp;omega)) _))
    · simp;omega
    · exact Blk.made_at _ _ _ _ (by simp)
  case round =>
    obtain ⟨f,g,x,y,pre,a1,a2,c1,c2,rfl,rfl,l1,m1,l2,m2,k1,k2,hgh,hlen,hpre,hJ1,hB1,hsz,blk⟩:=hrel
    clear HA HA' HL
    have K1:=hidE k1;have K2:=hidE k2;have HJ1:=hidE hJ1;have HB1:=hidE hB1;have HPRE:=hidE hpre
    have HM:=hidE (And.intro (And.intro l1 m1) (And.intro l2 m2))
    have HG:=hidE (And.intro hgh hlen)
    have HSZ:=hidE hsz
    clear k1 k2 hJ1 hB1 hpre l1 m1 l2 m2 hgh hlen hsz
    obtain ⟨wo,hwo⟩:∃ wo:World,wo = wr:=⟨_,rfl⟩
    by_cases hne:f.length = 0∧g.length = 0
    · have df:decide (0 < f.length) = false:=decide_eq_false (by omega)
      have dg:decide (0 < g.length) = false:=decide_eq_false (by omega)
      have HE:=hidE (tog_nil (n:=gk) (x:=x) (y:=y) hne.1 hne.2)
      clear hne
      generalize f.length = kf at *
      generalize g.length = kg at *
      go_wp2
      go_end0
      exact ⟨⟨_,rfl⟩,.inl (by have:=HPRE.out;rw [HE.out,List.append_nil] at this;rw [← this];exact HJ1.out)⟩
    · obtain ⟨gk',rfl⟩:∃ gk',gk = gk' + 1:=⟨gk - 1,by have:=HG.out.1;omega⟩
      have HPRE':=HPRE.out
      rw [tog_cons hne] at HPRE'
      have HP:=hidE HPRE'
      have HLESS:=hidE (pass_less hne)
      have HNE:=hidE hne
      clear HPRE' HPRE
      have HNX:=hidE (fun w h1 h2 => next_c f g a1 a2 c1 c2 w (by have:=HG.out.2;omega) (by have:=HG.out.2;omega) HNE.out h1 h2)
      have HPF:=hidE (fun w h1 => pass_c f (nextT f g) x.1 x.2 a1 c1 w HM.out.1.1 HM.out.1.2 h1)
      have HPG:=hidE (fun w h1 => pass_c g (nextT f g) y.1 y.2 a2 c2 w HM.out.2.1 HM.out.2.2 h1)
      have hd:decide (0 < f.length) = true ∨ (decide (0 < f.length) = false∧decide (0 < g.length) = true):=by
        by_cases c:0 < f.length
        · exact .inl (decide_eq_true c)
        · exact .inr ⟨decide_eq_false c,decide_eq_true (by omega)⟩
      have HFL:=hidE (passF_len f (nextT f g));have HGL:=hidE (passF_len g (nextT f g))
      generalize hxv:passV f (nextT f g) x = x' at *
      generalize hyv:passV g (nextT f g) y = y' at *
      have hxv':passV f (nextT f g) (x.1,x.2) = x':=hxv
      have hyv':passV g (nextT f g) (y.1,y.2) = y':=hyv
      try simp only [hxv'] at HPF
      try simp only [hyv'] at HPG
      clear hxv hyv hxv' hyv' hne
      generalize passF f (nextT f g) = f' at *
      generalize passF g (nextT f g) = g' at *
      generalize nextT f g = t at *
      have p0:=blk.cell 0;have p1:=blk.cell 1;have p2:=blk.cell 2;have p3:=blk.cell 3;have pf:=blk.free;have pz:=blk.lt
      simp at p0 p1 p2 p3
      rcases hd with hd | ⟨hd,hd'⟩
      all_goals
        have hw0:=HBW.out.size
        go_wp2_with fail
        ((with_reducible refine (HNX.out _ (K1.out.past HB1.out) (K2.out.past HB1.out)).mono ?_);rintro e w1 ⟨rfl,hb1⟩)
        have q1:=blk.past hb1
        have bb1:Below W.heap.size wr w1:=hb1.mono HSZ.out
        have s1:=hb1.size
        clear hb1 p0 p1 p2 p3 pf pz
        have p0:=q1.cell 0;have p1:=q1.cell 1;have p2:=q1.cell 2;have p3:=q1.cell 3;have pf:=q1.free;have pz:=q1.lt
        simp at p0 p1 p2 p3
        go_wp2_with fail
        ((with_reducible refine (HPF.out _ (K1.out.past (HB1.out.trans (bb1.mono hw0)))).mono ?_);rintro e w2 ⟨⟨sv,rfl,hsv⟩,hb2⟩)
        obtain ⟨a3,c3,rfl,l3,m3,k3⟩:=hsv
        have K3:=hidE (k3 _ K1.out);have M3:=hidE (And.intro l3 m3)
        have q2:=q1.past hb2
        have bb2:Below W.heap.size wr w2:=bb1.trans (hb2.mono (Nat.le_trans HSZ.out s1))
        have s2:=hb2.size
        clear hb2 p0 p1 p2 p3 pf pz bb1 l3 m3 k3
        have q3:=(q2.set 0 (.int .i64 x'.1)).set 1 (.int .i64 x'.2)
        have bb3:Below W.heap.size wr ((w2.setCell ⟨W.heap.size + 1,0,none⟩ (.int .i64 x'.1)).setCell ⟨W.heap.size + 1,1,none⟩ (.int .i64 x'.2)):=by (repeat (first | exact Below.refl _ _ | assumption | refine balloc ?_ _ | refine below_drewN ?_ _ | refine bstep (by assumption) ?_ | refine bstep (Past.prop _) ?_ | refine Below.setCell ?_ (by first | exact Nat.le_refl _ | (simp;done) | (simp;omega)) _))
        have p0:=q2.cell 0;have p1:=q2.cell 1;have p2:=q2.cell 2;have p3:=q2.cell 3;have pf:=q2.free;have pz:=q2.lt
        simp at p0 p1 p2 p3 q3
        go_wp2_with fail
        ((with_reducible refine (HPG.out _ (K2.out.past (HB1.out.trans (bb3.mono hw0)))).mono ?_);rintro e w3 ⟨⟨sv,rfl,hsv⟩,hb3⟩)
        obtain ⟨a4,c4,rfl,l4,m4,k4⟩:=hsv
        have K4:=hidE (k4 _ K2.out);have M4:=hidE (And.intro l4 m4)
        have q4:=q3.past hb3
        have bb4:Below W.heap.size wr w3:=bb3.trans (hb3.mono (by simp [World.setCell];omega))
        have s4:wr.heap.size≤w3.heap.size:=by have:=hb3.size;simp [World.setCell] at this;omega
        clear hb3 p0 p1 p2 p3 pf pz bb2 bb3 l4 m4 k4
        have q5:=(q4.set 2 (.int .i64 y'.1)).set 3 (.int .i64 y'.2)
        have bb5:Below W.heap.size wr ((w3.setCell ⟨W.heap.size + 1,2,none⟩ (.int .i64 y'.1)).setCell ⟨W.heap.size + 1,3,none⟩ (.int .i64 y'.2)):=by (repeat (first | exact Below.refl _ _ | assumption | refine balloc ?_ _ | refine below_drewN ?_ _ | refine bstep (by assumption) ?_ | refine bstep (Past.prop _) ?_ | refine Below.setCell ?_ (by first | exact Nat.le_refl _ | (simp;done) | (simp;omega)) _))
        have p0:=q4.cell 0;have p1:=q4.cell 1;have p2:=q4.cell 2;have p3:=q4.cell 3;have pf:=q4.free;have pz:=q4.lt
        simp at p0 p1 p2 p3 q5
        obtain ⟨fn,tmps,assign,body,hy,hR⟩:=HY.out pre (t,x',y') _ (HJ.out _ _ _ HJ1.out bb5) ⟨tog gk' f' g' x' y',by rw [← HP.out];simp⟩
        dsimp only [encT] at hy
        go_upto_region 7 with fail
        refine (wpIn_wide (n:=0)).1 ?_
        gi_wp2
        refine ⟨rfl,hR.mono ?_⟩
        clear hy hR
        rintro e W' (⟨rfl,hJ',hO⟩ | ⟨rfl,hJx'⟩)
        · gi_wp2
          go_wp2
          go_roundg gk'
          case measure => omega
          case rel =>
            have hz:W.heap.size + 1 < ((w3.setCell ⟨W.heap.size + 1,2,none⟩ (.int .i64 y'.1)).setCell ⟨W.heap.size + 1,3,none⟩ (.int .i64 y'.2)).heap.size:=q5.lt
            exact ⟨f',g',x',y',pre ++ [(t,x',y')],a3,a4,c3,c4,rfl,rfl,M3.out.1,M3.out.2,M4.out.1,M4.out.2,K3.out,K4.out,by have:=HLESS.out;have:=HG.out.1;omega,by have:=HLESS.out;have:=HG.out.2;omega,
              by rw [← HP.out];simp,hJ',(HB1.out.trans (bb5.mono hw0)).trans hO.below,Nat.le_trans (Nat.le_trans HSZ.out bb5.size) hO.below.size,(hO.beyond _ (by omega) hz).trans q5⟩
        · gi_wp2
          go_wp2
          refine bodyPost_ret (results_none rfl _ _ _) rfl ?_
          exact ⟨⟨_,rfl⟩,.inr ⟨pre ++ [(t,x',y')],⟨tog gk' f' g' x' y',by rw [← HP.out];simp⟩,hJx'⟩⟩
end
section
open Go.ChangeShapes Go.WideShapes Go.ChangeAt Go.RowKit
theorem lec (x y:Int) (w:World):Calls Tryz.prog 110 #[.int .i64 x,.int .i64 y] w fun e w' => e = .returned (.bool (decide (x≤y)))∧w' = w:=by
  go_enter Tryz.func110,Tryz.ntmps110
  go_wp2
  go_ret
  exact ⟨rfl,rfl⟩
theorem bothLE (a b c d:Int) (w:World):Calls Tryz.prog 109 #[V a b,V c d,.func (.func 110) #[] #[]] w fun e w' => e = .returned (.tuple #[.bool (decide (a≤c)),.bool (decide (b≤d))])∧Below w.heap.size w w':=by
  go_enter Tryz.func109,Tryz.ntmps109
  go_wp2
  go_quiet ((go_at_call 110;exact Calls.quiet_of_same (lec _ _ _)))
  go_wp2
  go_ret2
  exact ⟨rfl,below_drewN (((Below.refl _ _).alloc (Nat.le_refl _) _).alloc (by simp) _) _⟩
theorem le (a b c d:Int) (w:World):Calls Tryz.prog 100 #[V a b,V c d] w fun e w' => e = .returned (.bool (leB a b c d))∧Below w.heap.size w w':=by
  go_enter Tryz.func100,Tryz.ntmps100
  go_wp2_with (go_at_call 109;refine (bothLE _ _ _ _ _).mono ?_;rintro e w' ⟨rfl,hb⟩)
  all_goals
    go_ret
    refine ⟨ret_bool ?_,(((Below.refl _ _).alloc (Nat.le_refl _) _).alloc (by simp) _).trans (hb.mono (by simp;omega))⟩
  · simp [leB];omega
  · simp [leB];omega
theorem le_eq {a b c d:Int} {r:Bool} {w:World} (h:leB a b c d = r):Calls Tryz.prog 100 #[V a b,V c d] w fun e w' => e = .returned (.bool r)∧Below w.heap.size w w':=h ▸ le a b c d w
theorem of_ (m n:Int) (w:World):Calls Tryz.prog 104 #[.int .i64 m,.int .i64 n] w fun e w' => e = .returned (V m n)∧Below w.heap.size w w':=by
  go_enter Tryz.func104,Tryz.ntmps104
  go_wp2
  exact bodyPost_ret (v:=V m n) (by simp [results,Tryz.results104,go_sem]) rfl ⟨rfl,(Below.refl _ _).alloc (by simp) _⟩
theorem alike (n:Int) (w:World):Calls Tryz.prog 101 #[.int .i64 n] w fun e w' => e = .returned (V n n)∧Below w.heap.size w w':=by
  go_enter Tryz.func101,Tryz.ntmps101
  go_wp2_with (go_at_call 104;refine (of_ _ _ _).mono ?_;rintro e w' ⟨rfl,hb⟩;obtain ⟨hc,hf⟩:=bcell hb;have hz:=bsz hb w.heap.size (by simp))
  refine bodyPost_ret (v:=V n n) (by simp [results,Tryz.results101,go_sem,hc]) rfl ⟨rfl, ?_⟩
  exact ((((Below.refl _ _).alloc (Nat.le_refl _) _).trans (hb.mono (by simp))).setCell (Nat.le_refl _) _).setCell (Nat.le_refl _) _
theorem may (a b:Int) (w:World):Calls Tryz.prog 76 #[V a b] w fun e w' => e = .returned (.bool (okV a b))∧Below w.heap.size w w':=by
  rw [← okV_parts]
  cases h1:leB (-1125899906842624) (-1125899906842624) a b
  all_goals
    go_enter Tryz.func76,Tryz.ntmps76
    go_wp2
    refine wp_region_past_lit (by kernel_rfl) (by kernel_rfl) ?_
    have hc:=Past.cell (W:=w.alloc (Obj.cells #[Value.int IntKind.i64 a,Value.int IntKind.i64 b] 38))
    repeat (go_big_quiet_step ((first | (go_at_call 101;exact Past.call _ (alike _ _)) | (go_at_call 100;exact Past.call _ (le_eq h1)) | (go_at_call 100;exact Past.call _ (le _ _ _ _ _)))))
    refine wpQuiet_nil ?_
    rintro _ ⟨x,rfl⟩
    go_wp2
    go_ret
    exact ⟨rfl,((Below.refl _ _).alloc (Nat.le_refl _) _).trans (x.2.mono (by simp))⟩
theorem may_eq {a b:Int} {r:Bool} {w:World} (h:okV a b = r):Calls Tryz.prog 76 #[V a b] w fun e w' => e = .returned (.bool r)∧Below w.heap.size w w':=h ▸ may a b w
end
section
open Go.ChangeShapes Go.WideShapes Go.ChangeAt Go.RowKit
end
section
open Go.ChangeShapes Go.WideShapes Go.ChangeAt Go.RowKit
theorem cl_add (x y:Int) (w:World) (hx : -1125899906842624≤x∧x≤1125899906842624) (hy : -1125899906842624≤y∧y≤1125899906842624):Calls Tryz.prog 81 #[.int .i64 x,.int .i64 y] w fun e w' => e = .returned (.int .i64 (x + y))∧w' = w:=by
  go_enter Tryz.func81,Tryz.ntmps81
  go_wp2
  go_ret
  exact ⟨rfl,rfl⟩
theorem both_add (a b c d:Int) (w:World) (h1:okV a b = true) (h2:okV c d = true) :
    Calls Tryz.prog 105 #[V a b,V c d,.func (.func 81) #[] #[]] w fun e w' => e = .returned (.tuple #[.int .i64 (a + c),.int .i64 (b + d)])∧Below w.heap.size w w':=by
  have g1:=h1;have g2:=h2
  simp only [okV_iff] at g1 g2
  have G1:=hidE g1;have G2:=hidE g2
  clear g1 g2 h1 h2
  go_enter Tryz.func105,Tryz.ntmps105
  go_wp2
  go_quiet ((go_at_call 81;exact Calls.quiet_of_same (cl_add _ _ _ (by have:=G1.out;have:=G2.out;omega) (by have:=G1.out;have:=G2.out;omega))))
  go_wp2
  go_ret2
  exact ⟨rfl,below_drewN (((Below.refl _ _).alloc (Nat.le_refl _) _).alloc (by simp) _) _⟩
theorem valid_no (fv:Value) (a b c d:Int) (w:World) (h:(okV a b && okV c d) = false) :
    Calls Tryz.prog 80 #[V a b,V c d,fv] w fun e w' => e = .returned (VE (0,0,10))∧Below w.heap.size w w':=by
  cases h1:okV a b
  · clear h
    go_enter Tryz.func80,Tryz.ntmps80
    go_wp2_with (go_at_call 76;((with_reducible refine (may_eq h1).mono ?_);rintro e w' ⟨rfl,hb⟩;obtain ⟨hc,hf⟩:=bcell hb;have hz0:=bsz hb (w.heap.size) (by first | assumption | (simp;done) | (simp;omega));have hz1:=bsz hb (w.heap.size + 1) (by first | assumption | (simp;done) | (simp;omega));have hz2:=bsz hb (w.heap.size + 1 + 1) (by first | assumption | (simp;done) | (simp;omega))))
    refine bodyPost_ret (v:=VE (0,0,10)) (by simp [results,Tryz.results80,go_sem, *]) rfl ⟨rfl, ?_⟩
    (repeat (first | exact Below.refl _ _ | assumption | refine balloc ?_ _ | refine below_drewN ?_ _ | refine bstep (by assumption) ?_ | refine bstep (Past.prop _) ?_ | refine Below.setCell ?_ (by first | exact Nat.le_refl _ | (simp;done) | (simp;omega)) _))
  · have h2:okV c d = false:=by rw [h1] at h;simpa using h
    clear h
    go_enter Tryz.func80,Tryz.ntmps80
    go_wp2_with (first | (go_at_call 76;((with_reducible refine (may_eq h1).mono ?_);rintro e w' ⟨rfl,hb⟩;obtain ⟨hc,hf⟩:=bcell hb;have hz0:=bsz hb (w.heap.size) (by first | assumption | (simp;done) | (simp;omega));have hz1:=bsz hb (w.heap.size + 1) (by first | assumption | (simp;done) | (simp;omega));have hz2:=bsz hb (w.heap.size + 1 + 1) (by first | assumption | (simp;done) | (simp;omega)))) | (go_at_call 76;((with_reducible refine (may_eq h2).mono ?_);rintro e w' ⟨rfl,hb⟩;obtain ⟨hc,hf⟩:=bcell hb;have hz0:=bsz hb (w.heap.size) (by first | assumption | (simp;done) | (simp;omega));have hz1:=bsz hb (w.heap.size + 1) (by first | assumption | (simp;done) | (simp;omega));have hz2:=bsz hb (w.heap.size + 1 + 1) (by first | assumption | (simp;done) | (simp;omega)))))
    refine bodyPost_ret (v:=VE (0,0,10)) (by simp [results,Tryz.results80,go_sem, *]) rfl ⟨rfl, ?_⟩
    (repeat (first | exact Below.refl _ _ | assumption | refine balloc ?_ _ | refine below_drewN ?_ _ | refine bstep (by assumption) ?_ | refine bstep (Past.prop _) ?_ | refine Below.setCell ?_ (by first | exact Nat.le_refl _ | (simp;done) | (simp;omega)) _))
theorem valid_yes (fv:Value) (a b c d x y:Int) (w:World) (h1:okV a b = true) (h2:okV c d = true)
    (HB:∀ w',Below w.heap.size w w'→Calls Tryz.prog 105 #[V a b,V c d,fv] w' fun e w'' => e = .returned (.tuple #[.int .i64 x,.int .i64 y])∧Below w'.heap.size w' w'') :
    Calls Tryz.prog 80 #[V a b,V c d,fv] w fun e w' => e = .returned (VE (gate (okV x y) x y))∧Below w.heap.size w w':=by
  have HB':=hidE HB;clear HB
  cases h3:okV x y
  · rw [gate_false rfl]
    go_enter Tryz.func80,Tryz.ntmps80
    go_wp2_with (first | (go_at_call 76;((with_reducible refine (may_eq h1).mono ?_);rintro e w' ⟨rfl,hb⟩;obtain ⟨hc,hf⟩:=bcell hb;have hz0:=bsz hb (w.heap.size) (by first | assumption | (simp;done) | (simp;omega));have hz1:=bsz hb (w.heap.size + 1) (by first | assumption | (simp;done) | (simp;omega));have hz2:=bsz hb (w.heap.size + 1 + 1) (by first | assumption | (simp;done) | (simp;omega)))) | (go_at_call 76;((with_reducible refine (may_eq h2).mono ?_);rintro e w' ⟨rfl,hb⟩;obtain ⟨hc,hf⟩:=bcell hb;have hz0:=bsz hb (w.heap.size) (by first | assumption | (simp;done) | (simp;omega));have hz1:=bsz hb (w.heap.size + 1) (by first | assumption | (simp;done) | (simp;omega));have hz2:=bsz hb (w.heap.size + 1 + 1) (by first | assumption | (simp;done) | (simp;omega)))) | (go_at_call 105;((with_reducible refine (HB'.out _ (by (repeat (first | exact Below.refl _ _ | assumption | refine balloc ?_ _ | refine below_drewN ?_ _ | refine bstep (by assumption) ?_ | refine bstep (Past.prop _) ?_ | refine Below.setCell ?_ (by first | exact Nat.le_refl _ | (simp;done) | (simp;omega)) _)))).mono ?_);rintro e w' ⟨rfl,hb⟩;obtain ⟨hc,hf⟩:=bcell hb;have hz0:=bsz hb (w.heap.size) (by first | assumption | (simp;done) | (simp;omega));have hz1:=bsz hb (w.heap.size + 1) (by first | assumption | (simp;done) | (simp;omega));have hz2:=bsz hb (w.heap.size + 1 + 1) (by first | assumption | (simp;done) | (simp;omega)))) | (go_at_call 104;((with_reducible refine (of_ _ _ _).mono ?_);rintro e w' ⟨rfl,hb⟩;obtain ⟨hc,hf⟩:=bcell hb;have hz0:=bsz hb (w.heap.size) (by first | assumption | (simp;done) | (simp;omega));have hz1:=bsz hb (w.heap.size + 1) (by first | assumption | (simp;done) | (simp;omega));have hz2:=bsz hb (w.heap.size + 1 + 1) (by first | assumption | (simp;done) | (simp;omega)))) | (go_at_call 76;((with_reducible refine (may_eq h3).mono ?_);rintro e w' ⟨rfl,hb⟩;obtain ⟨hc,hf⟩:=bcell hb;have hz0:=bsz hb (w.heap.size) (by first | assumption | (simp;done) | (simp;omega));have hz1:=bsz hb (w.heap.size + 1) (by first | assumption | (simp;done) | (simp;omega));have hz2:=bsz hb (w.heap.size + 1 + 1) (by first | assumption | (simp;done) | (simp;omega)))))
    refine bodyPost_ret (v:=VE (0,0,10)) (by simp [results,Tryz.results80,go_sem, *]) rfl ⟨rfl, ?_⟩
    (repeat (first | exact Below.refl _ _ | assumption | refine balloc ?_ _ | refine below_drewN ?_ _ | refine bstep (by assumption) ?_ | refine bstep (Past.prop _) ?_ | refine Below.setCell ?_ (by first | exact Nat.le_refl _ | (simp;done) | (simp;omega)) _))
  · rw [gate_true rfl]
    go_enter Tryz.func80,Tryz.ntmps80
    go_wp2_with (first | (go_at_call 76;((with_reducible refine (may_eq h1).mono ?_);rintro e w' ⟨rfl,hb⟩;obtain ⟨hc,hf⟩:=bcell hb;have hz0:=bsz hb (w.heap.size) (by first | assumption | (simp;done) | (simp;omega));have hz1:=bsz hb (w.heap.size + 1) (by first | assumption | (simp;done) | (simp;omega));have hz2:=bsz hb (w.heap.size + 1 + 1) (by first | assumption | (simp;done) | (simp;omega)))) | (go_at_call 76;((with_reducible refine (may_eq h2).mono ?_);rintro e w' ⟨rfl,hb⟩;obtain ⟨hc,hf⟩:=bcell hb;have hz0:=bsz hb (w.heap.size) (by first | assumption | (simp;done) | (simp;omega));have hz1:=bsz hb (w.heap.size + 1) (by first | assumption | (simp;done) | (simp;omega));have hz2:=bsz hb (w.heap.size + 1 + 1) (by first | assumption | (simp;done) | (simp;omega)))) | (go_at_call 105;((with_reducible refine (HB'.out _ (by (repeat (first | exact Below.refl _ _ | assumption | refine balloc ?_ _ | refine below_drewN ?_ _ | refine bstep (by assumption) ?_ | refine bstep (Past.prop _) ?_ | refine Below.setCell ?_ (by first | exact Nat.le_refl _ | (simp;done) | (simp;omega)) _)))).mono ?_);rintro e w' ⟨rfl,hb⟩;obtain ⟨hc,hf⟩:=bcell hb;have hz0:=bsz hb (w.heap.size) (by first | assumption | (simp;done) | (simp;omega));have hz1:=bsz hb (w.heap.size + 1) (by first | assumption | (simp;done) | (simp;omega));have hz2:=bsz hb (w.heap.size + 1 + 1) (by first | assumption | (simp;done) | (simp;omega)))) | (go_at_call 104;((with_reducible refine (of_ _ _ _).mono ?_);rintro e w' ⟨rfl,hb⟩;obtain ⟨hc,hf⟩:=bcell hb;have hz0:=bsz hb (w.heap.size) (by first | assumption | (simp;done) | (simp;omega));have hz1:=bsz hb (w.heap.size + 1) (by first | assumption | (simp;done) | (simp;omega));have hz2:=bsz hb (w.heap.size + 1 + 1) (by first | assumption | (simp;done) | (simp;omega)))) | (go_at_call 76;((with_reducible refine (may_eq h3).mono ?_);rintro e w' ⟨rfl,hb⟩;obtain ⟨hc,hf⟩:=bcell hb;have hz0:=bsz hb (w.heap.size) (by first | assumption | (simp;done) | (simp;omega));have hz1:=bsz hb (w.heap.size + 1) (by first | assumption | (simp;done) | (simp;omega));have hz2:=bsz hb (w.heap.size + 1 + 1) (by first | assumption | (simp;done) | (simp;omega)))))
    refine bodyPost_ret (v:=VE (x,y,0)) (by simp [results,Tryz.results80,go_sem, *]) rfl ⟨rfl, ?_⟩
    (repeat (first | exact Below.refl _ _ | assumption | refine balloc ?_ _ | refine below_drewN ?_ _ | refine bstep (by assumption) ?_ | refine bstep (Past.prop _) ?_ | refine Below.setCell ?_ (by first | exact Nat.le_refl _ | (simp;done) | (simp;omega)) _))
theorem vadd (a b c d:Int) (w:World):Calls Tryz.prog 80 #[V a b,V c d,.func (.func 81) #[] #[]] w fun e w' => e = .returned (VE (addS a b c d))∧Below w.heap.size w w':=by
  cases h:(okV a b && okV c d)
  · have e:addS a b c d = (0,0,10):=by unfold addS;exact gate_no h
    rw [e];exact valid_no _ a b c d w h
  · have e:addS a b c d = gate (okV (a + c) (b + d)) (a + c) (b + d):=by unfold addS;rw [h];rfl
    obtain ⟨h1,h2⟩:okV a b = true∧okV c d = true:=by simpa using h
    rw [e];exact valid_yes _ a b c d _ _ w h1 h2 (fun w' _ => both_add _ _ _ _ _ h1 h2)
def addFrom (x y:Int):List (Int × Int)→Int × Int × Int
  | [] => (x,y,0)
  | v :: r => if (addS x y v.1 v.2).2.2 = 0 then addFrom (addS x y v.1 v.2).1 (addS x y v.1 v.2).2.1 r else (0,0,(addS x y v.1 v.2).2.2)
def addL (l:List (Int × Int)):Int × Int × Int:=addFrom 0 0 l
def CellsV (w:World) (b off:Nat) (l:List (Int × Int)):Prop :=
  ∀ i,i < l.length→w.cell? ⟨b,off + i * 2,none⟩ = some (.int .i64 (l.getD i (0,0)).1)∧w.cell? ⟨b,off + i * 2 + 1,none⟩ = some (.int .i64 (l.getD i (0,0)).2)
theorem drop_getD (l:List (Int × Int)) (k:Nat) (h:k < l.length):l.drop k = l.getD k (0,0) :: l.drop (k + 1):=by
  rw [List.drop_eq_getElem_cons h,List.getD_eq_getElem?_getD,List.getElem?_eq_getElem h];rfl
theorem add_some (l:List (Int × Int)) (b off cap:Nat) (w:World) (hb0:b < w.heap.size) (hl:l.length≤9223372036854775807) (hc0:CellsV w b off l) :
    Calls Tryz.prog 57 #[.slice (some ⟨b,off,none⟩) l.length cap] w fun e w' => e = .returned (VE (addL l))∧Below w.heap.size w w':=by
  have HC:=hidE hc0;clear hc0
  go_enter Tryz.func57,Tryz.ntmps57
  go_wp2
  go_loopw [10] (fun i wr => ∃ k:Nat,∃ x y:Int,k≤l.length∧i = .int .i64 k∧addFrom x y (l.drop k) = addL l∧Below w.heap.size w wr∧Blk wr (w.heap.size + 1) #[.int .i64 x,.int .i64 y] 38∧Blk wr w.heap.size #[.int .i64 0,.int .i64 0] 38) (fun i _ => l.length - (intOf i).toNat)
  case atStart => exact ⟨0,0,0,Nat.zero_le _,rfl,rfl,by (repeat (first | exact Below.refl _ _ | assumption | refine balloc ?_ _ | refine below_drewN ?_ _ | refine bstep (by assumption) ?_ | refine bstep (Past.prop _) ?_ | refine Below.setCell ?_ (by first | exact Nat.le_refl _ | (simp;done) | (simp;omega)) _)),Blk.made_at _ _ _ _ (by simp),(Blk.made _ _ _).alloc _⟩
  case round =>
    obtain ⟨k,x,y,hk,rfl,hs,hb,s1,s0⟩:=hrel
    have HS:=hidE hs;clear hs
    have c10:=s1.cell 0;have c11:=s1.cell 1;have f1:=s1.free;have c00:=s0.cell 0;have c01:=s0.cell 1;have f0:=s0.free
    simp at c10 c11 c00 c01
    have z1:=s1.lt;have z0:=s0.lt
    by_cases hlt:k < l.length
    · have e0:=(HC.out k hlt).1;have e1:=(HC.out k hlt).2
      rw [← hb.cell hb0] at e0 e1
      have HD:=hidE (drop_getD l k hlt)
      generalize l.getD k (0,0) = v at *
      have HG:=hidE (vadd x y v.1 v.2)
      have HS':=HS.out
      rw [HD.out] at HS'
      unfold addFrom at HS'
      generalize hg:addS x y v.1 v.2 = g at *
      clear HS hg
      by_cases hg0:g.2.2 = 0
      · rw [if_pos hg0] at HS'
        have HT:=hidE HS';clear HS'
        have g1:(g.2.2 == 0) = true:=beq_iff_eq.2 hg0
        have g2:(g.2.2 != 0) = false:=by rw [bne_eq_false_iff_eq];exact hg0
        clear hg0
        go_wp2_with (go_at_call 80;((with_reducible refine (HG.out _).mono ?_);rintro e w' ⟨rfl,hb2⟩;obtain ⟨hc,hf⟩:=bcell hb2;have y1:=bsz hb2 (w.heap.size + 1) (by simp;omega);have y0:=bsz hb2 (w.heap.size) (by simp;omega)))
        exact ⟨⟨k + 1,g.1,g.2.1,by omega,by go_num,HT.out,by (repeat (first | exact Below.refl _ _ | assumption | refine balloc ?_ _ | refine below_drewN ?_ _ | refine bstep (by assumption) ?_ | refine bstep (Past.prop _) ?_ | refine Below.setCell ?_ (by first | exact Nat.le_refl _ | (simp;done) | (simp;omega)) _)),(((s1.alloc _).past hb2).set 0 _).set 1 _,(((s0.alloc _).past hb2).other (by omega) _).other (by omega) _⟩,by simp [intOf];omega⟩
      · rw [if_neg hg0] at HS'
        have HT:=hidE HS';clear HS'
        have g1:(g.2.2 == 0) = false:=beq_eq_false_iff_ne.2 hg0
        have g2:(g.2.2 != 0) = true:=bne_iff_ne.2 hg0
        clear hg0
        go_wp2_with (go_at_call 80;((with_reducible refine (HG.out _).mono ?_);rintro e w' ⟨rfl,hb2⟩;obtain ⟨hc,hf⟩:=bcell hb2;have y1:=bsz hb2 (w.heap.size + 1) (by simp;omega);have y0:=bsz hb2 (w.heap.size) (by simp;omega)))
        have B0:=(((((s0.alloc _).past hb2).other (b:=w.heap.size + 1) (i:=0) (by omega) (.int .i64 g.1)).other (b:=w.heap.size + 1) (i:=1) (by omega) (.int .i64 g.2.1)).set 0 (.int .i64 0)).set 1 (.int .i64 0)
        have d0:=B0.cell 0;have d1:=B0.cell 1
        simp at d0 d1
        refine bodyPost_ret (v:=VE (0,0,g.2.2)) (by simp [results,Tryz.results57,go_sem,d0,d1]) rfl ⟨by rw [← HT.out], ?_⟩
        (repeat (first | exact Below.refl _ _ | assumption | refine balloc ?_ _ | refine below_drewN ?_ _ | refine bstep (by assumption) ?_ | refine bstep (Past.prop _) ?_ | refine Below.setCell ?_ (by first | exact Nat.le_refl _ | (simp;done) | (simp;omega)) _))
    · go_wp2
      have:k = l.length:=by omega
      subst this
      have e:=HS.out
      rw [List.drop_length] at e
      refine bodyPost_ret (v:=VE (x,y,0)) (by simp [results,Tryz.results57,go_sem, *]) rfl ⟨by rw [← e];rfl, ?_⟩
      (repeat (first | exact Below.refl _ _ | assumption | refine balloc ?_ _ | refine below_drewN ?_ _ | refine bstep (by assumption) ?_ | refine bstep (Past.prop _) ?_ | refine Below.setCell ?_ (by first | exact Nat.le_refl _ | (simp;done) | (simp;omega)) _))
end
section
open Go.ChangeShapes Go.WideShapes Go.ChangeAt Go.RowKit
attribute [local irreducible] Go.Calls
theorem addL_two (a b c d:Int):addL [(a,b),(c,d)] = addS a b c d:=by
  unfold addL addFrom addFrom addFrom
  simp only
  cases h1:okV a b
  · have e1:addS 0 0 a b = (0,0,10):=by unfold addS;rw [h1];simp [gate]
    have e2:addS a b c d = (0,0,10):=by unfold addS;rw [h1];simp [gate]
    rw [e1,e2];simp
  · have e0:okV 0 0 = true:=by decide
    have e1:addS 0 0 a b = (a,b,0):=by unfold addS;rw [h1,e0];simp [gate,h1]
    rw [e1]
    simp only [if_true]
    by_cases h:(addS a b c d).2.2 = 0
    · rw [if_pos h];exact Prod.ext rfl (Prod.ext rfl h.symm)
    · rw [if_neg h]
      unfold addS gate at h ⊢
      split
      · rename_i hh;rw [if_pos hh] at h;exact absurd rfl h
      · rfl
theorem plus_c (a b c d:Int) (w:World):Calls Tryz.prog 41 #[V a b,V c d] w fun e w' => e = .returned (VE (opV 0 (a,b) (c,d)))∧Below w.heap.size w w':=by
  rw [opV_0,← addL_two]
  generalize hg:addL [(a,b),(c,d)] = g
  have Hg:=hidE hg;clear hg
  have HK:=hidE (fun w b' hb hc => show Calls Tryz.prog 57 #[.slice (some ⟨b',0,none⟩) 2 2] w _ from add_some [(a,b),(c,d)] b' 0 2 w hb (by simp) hc)
  go_enter Tryz.func41,Tryz.ntmps41
  go_wp2_with fail
  have B3:Blk ((((w.alloc (Obj.cells #[Value.int IntKind.i64 a,Value.int IntKind.i64 b] 38)).alloc (Obj.cells #[Value.int IntKind.i64 c,Value.int IntKind.i64 d] 38)).alloc (Obj.cells #[Value.int IntKind.i64 0,Value.int IntKind.i64 0] 38)).alloc (Obj.cells #[Value.int IntKind.i64 a,Value.int IntKind.i64 b,Value.int IntKind.i64 c,Value.int IntKind.i64 d] 38)) (w.heap.size + 1 + 1 + 1) #[.int .i64 a,.int .i64 b,.int .i64 c,.int .i64 d] 38:=Blk.made_at _ _ _ _ (by simp)
  have B2:Blk ((((w.alloc (Obj.cells #[Value.int IntKind.i64 a,Value.int IntKind.i64 b] 38)).alloc (Obj.cells #[Value.int IntKind.i64 c,Value.int IntKind.i64 d] 38)).alloc (Obj.cells #[Value.int IntKind.i64 0,Value.int IntKind.i64 0] 38)).alloc (Obj.cells #[Value.int IntKind.i64 a,Value.int IntKind.i64 b,Value.int IntKind.i64 c,Value.int IntKind.i64 d] 38)) (w.heap.size + 1 + 1) #[.int .i64 0,.int .i64 0] 38:=(Blk.made_at _ _ _ _ (by simp)).alloc _
  have hcv:CellsV ((((w.alloc (Obj.cells #[Value.int IntKind.i64 a,Value.int IntKind.i64 b] 38)).alloc (Obj.cells #[Value.int IntKind.i64 c,Value.int IntKind.i64 d] 38)).alloc (Obj.cells #[Value.int IntKind.i64 0,Value.int IntKind.i64 0] 38)).alloc (Obj.cells #[Value.int IntKind.i64 a,Value.int IntKind.i64 b,Value.int IntKind.i64 c,Value.int IntKind.i64 d] 38)) (w.heap.size + 1 + 1 + 1) 0 [(a,b),(c,d)]:=by
    intro i hi
    simp only [List.length_cons,List.length_nil] at hi
    match i,hi with
    | 0,_ => exact ⟨B3.cell 0,B3.cell 1⟩
    | 1,_ => exact ⟨B3.cell 2,B3.cell 3⟩
  ((with_reducible refine (HK.out _ _ B3.lt hcv).mono ?_);rintro e w1 ⟨rfl,hb⟩)
  rw [Hg.out]
  have B2':=B2.past hb
  have hB:Below w.heap.size w w1:=by (repeat (first | exact Below.refl _ _ | assumption | refine balloc ?_ _ | refine below_drewN ?_ _ | refine bstep (by assumption) ?_ | refine bstep (Past.prop _) ?_ | refine Below.setCell ?_ (by first | exact Nat.le_refl _ | (simp;done) | (simp;omega)) _))
  have p0:=B2'.cell 0;have p1:=B2'.cell 1;have pf:=B2'.free;have pz:=B2'.lt
  simp at p0 p1
  clear hb B3 B2
  go_wp2
  refine bodyPost_ret (v:=VE g) (by simp [results,Tryz.results41,go_sem, *]) rfl ⟨rfl, ?_⟩
  (repeat (first | exact Below.refl _ _ | assumption | refine balloc ?_ _ | refine below_drewN ?_ _ | refine bstep (by assumption) ?_ | refine bstep (Past.prop _) ?_ | refine Below.setCell ?_ (by first | exact Nat.le_refl _ | (simp;done) | (simp;omega)) _))
end
section
open Go.ChangeShapes Go.WideShapes Go.ChangeAt Go.RowKit
def rowC (n:Nat) (d:Nat→Nat):Array Value:=((List.range n).map fun i => Value.int .i64 (d i)).toArray
theorem rowC_get {n:Nat} {d:Nat→Nat} {i:Nat} (h:i < n):(rowC n d)[i]? = some (.int .i64 (d i)):=by
  simp [rowC,List.getElem?_range h]
theorem rowC_size (n:Nat) (d:Nat→Nat):(rowC n d).size = n:=by simp [rowC]
theorem rowC_ext {n:Nat} {d d':Nat→Nat} (h:∀ i,i < n→d i = d' i):rowC n d = rowC n d':=by
  unfold rowC
  congr 1
  exact List.map_congr_left fun i hi => by rw [h i (by simpa using hi)]
theorem rowC_set {n:Nat} {d:Nat→Nat} {i:Nat} (v:Nat):(rowC n d).setIfInBounds i (.int .i64 v) = rowC n (fun k => if k = i then v else d k):=by
  apply Array.ext_getElem?
  intro k
  rw [Array.getElem?_setIfInBounds,rowC_size]
  by_cases c:i = k
  · subst c
    rw [if_pos rfl]
    by_cases h:i < n
    · rw [if_pos h,rowC_get h,if_pos rfl]
    · rw [if_neg h,Array.getElem?_eq_none (by rw [rowC_size];omega)]
  · rw [if_neg c]
    by_cases h:k < n
    · rw [rowC_get h,rowC_get h,if_neg (by omega)]
    · rw [Array.getElem?_eq_none (by rw [rowC_size];omega),Array.getElem?_eq_none (by rw [rowC_size];omega)]
theorem rowC_swap {n:Nat} {d:Nat→Nat} {i j:Nat}:((rowC n d).setIfInBounds i (.int .i64 (d j))).setIfInBounds j (.int .i64 (d i)) = rowC n (sw d i j):=by
  rw [rowC_set,rowC_set]
  refine rowC_ext fun k _ => ?_
  unfold sw
  by_cases c1:k = j
  · by_cases c2:k = i
    · rw [if_pos c1,if_pos c2,← c1,← c2]
    · rw [if_pos c1,if_neg c2,if_pos c1]
  · rw [if_neg c1,if_neg c1]
structure RowW (w0:World) (blk n:Nat) (t:TypeId) (d:Nat→Nat) (w:World):Prop where
  here:Blk w blk (rowC n d) t
  low:Below blk w0 w
variable {w0 w w':World} {blk n:Nat} {t:TypeId} {d:Nat→Nat}
theorem RowW.lt (h:RowW w0 blk n t d w):blk < w.heap.size:=h.here.lt
theorem RowW.cell (h:RowW w0 blk n t d w) {i:Nat} (hi:i < n):w.cell? ⟨blk,i,none⟩ = some (.int .i64 (d i)):=(h.here.cell i).trans (rowC_get hi)
theorem RowW.free (h:RowW w0 blk n t d w) (i:Nat):w.frozen? ⟨blk,i,none⟩ = false:=h.here.free i
theorem RowW.past (h:RowW w0 blk n t d w) (hb:Below w.heap.size w w'):RowW w0 blk n t d w':=⟨h.here.past hb,h.low.trans (hb.mono (Nat.le_of_lt h.lt))⟩
theorem RowW.set (h:RowW w0 blk n t d w) (i v:Nat):RowW w0 blk n t (fun k => if k = i then v else d k) (w.setCell ⟨blk,i,none⟩ (.int .i64 v)) :=
  ⟨by rw [← rowC_set];exact h.here.set i _,h.low.setCell (Nat.le_refl _) _⟩
theorem RowW.swap (h:RowW w0 blk n t d w) (i j:Nat):RowW w0 blk n t (sw d i j) ((w.setCell ⟨blk,i,none⟩ (.int .i64 (d j))).setCell ⟨blk,j,none⟩ (.int .i64 (d i))) :=
  ⟨by rw [← rowC_swap];exact (h.here.set i _).set j _,(h.low.setCell (Nat.le_refl _) _).setCell (Nat.le_refl _) _⟩
theorem RowW.drew (h:RowW w0 blk n t d w):RowW w0 blk n t d w.drew:=⟨h.here.drew 1,h.low.drew⟩
theorem RowW.ext (h:RowW w0 blk n t d w) {d':Nat→Nat} (e:d = d'):RowW w0 blk n t d' w:=e ▸ h
theorem RowW.c2 (h:RowW w0 blk n t d w) (i j:Nat) (hj:j < n) (v:Nat):(w.setCell ⟨blk,i,none⟩ (.int .i64 v)).cell? ⟨blk,j,none⟩ = some (.int .i64 ((if j = i then v else d j:Nat))) :=
  (h.set i v).cell hj
end
section
open Go.ChangeShapes Go.WideShapes Go.ChangeAt Go.RowKit
attribute [local irreducible] Go.Calls
set_option maxHeartbeats 1000000 in
theorem swapRange_c (w0 w:World) (blk n cap a b m:Nat) (t:TypeId) (d:Nat→Nat) (fv:Value) (h:RowW w0 blk n t d w) (hab:a + m≤b) (hb:b + m≤n) (hn:n≤4611686018427387904) :
    Calls Tryz.prog 126 #[.slice (some ⟨blk,0,none⟩) n cap,.int .i64 a,.int .i64 b,.int .i64 m,fv] w fun e w' => e = .returned (.tuple #[])∧RowW w0 blk n t (swr d a b m) w':=by
  have H:=hidE h;clear h
  go_enter Tryz.func126,Tryz.ntmps126
  go_wp2
  go_loopw [10] (fun i wr => ∃ k:Nat,k≤m∧i = .int .i64 k∧RowW w0 blk n t (swr d a b k) wr) (fun i _ => m - (intOf i).toNat)
  case atStart => exact ⟨0,Nat.zero_le _,rfl,H.out.ext (swr_zero _ _ _).symm⟩
  case round =>
    obtain ⟨k,hk,rfl,hr⟩:=hrel
    by_cases hlt:k < m
    · have c1:=hr.cell (i:=a + k) (by omega)
      have c2:=hr.cell (i:=b + k) (by omega)
      have c3:=hr.c2 (a + k) (b + k) (by omega) (swr d a b k (b + k))
      have f1:=hr.free (a + k)
      have f2:=hr.free (b + k)
      have hS:=hidE ((hr.swap (a + k) (b + k)).drew.ext (swr_step d a b k (by omega)))
      rw [if_neg (by omega)] at c3
      clear hr
      generalize swr d a b k (b + k) = y at *
      generalize swr d a b k (a + k) = x at *
      go_wp2
      go_region
      go_wp2
      go_roundw
      case rel => exact ⟨k + 1,by omega,by go_num,hS.out⟩
      case measure => simp [intOf];omega
    · go_wp2
      have:k = m:=by omega
      subst this
      go_end0
      exact ⟨rfl,hr⟩
end
section
open Go.ChangeShapes Go.WideShapes Go.ChangeAt Go.RowKit
attribute [local irreducible] Go.Calls
theorem swapRange_eq {w0 w:World} {blk n cap a b m:Nat} {x y z:Int} {t:TypeId} {d d':Nat→Nat} {fv:Value} (h:RowW w0 blk n t d w) (hx:x = a) (hy:y = b) (hz:z = m) (hab:a + m≤b) (hb:b + m≤n) (hn:n≤4611686018427387904) (hd:swr d a b m = d') :
    Calls Tryz.prog 126 #[.slice (some ⟨blk,0,none⟩) n cap,.int .i64 x,.int .i64 y,.int .i64 z,fv] w fun e w' => e = .returned (.tuple #[])∧RowW w0 blk n t d' w':=by
  subst hx;subst hy;subst hz;subst hd
  exact swapRange_c w0 w blk n cap a b m t d fv h hab hb hn
set_option maxHeartbeats 1000000 in
theorem rotate_c (w0 w:World) (blk n cap a m b:Nat) (t:TypeId) (d:Nat→Nat) (fv:Value) (h:RowW w0 blk n t d w) (ham:a < m) (hmb:m < b) (hb:b≤n) (hn:n≤4611686018427387904) :
    Calls Tryz.prog 121 #[.slice (some ⟨blk,0,none⟩) n cap,.int .i64 a,.int .i64 m,.int .i64 b,fv] w fun e w' => e = .returned (.tuple #[])∧RowW w0 blk n t (rot d a m b) w':=by
  have H:=hidE h;clear h
  go_enter Tryz.func121,Tryz.ntmps121
  go_wp2
  go_loopw [10,11] (fun vi vj wr => ∃ (i j:Nat) (dk:Nat→Nat),vi = .int .i64 i∧vj = .int .i64 j∧0 < i∧i≤m∧0 < j∧m + j≤n∧rot dk (m - i) m (m + j) = rot d a m b∧RowW w0 blk n t dk wr) (fun vi vj _ => (intOf vi).toNat + (intOf vj).toNat)
  case atStart => exact ⟨m - a,b - m,d,by go_num,by go_num,by omega,by omega,by omega,by omega,by rw [show m - (m - a) = a by omega,show m + (b - m) = b by omega],H.out⟩
  case round =>
    obtain ⟨i,j,dk,rfl,rfl,hi0,him,hj0,hjn,hrot,hr⟩:=hrel
    have HR:=hidE hrot;have HW:=hidE hr
    clear hrot hr
    rcases Nat.lt_trichotomy i j with c | c | c
    · have e1:((i:Int) == (j:Int)) = false:=beq_eq_false_iff_ne.2 (by omega)
      have e2:((i:Int) != (j:Int)) = true:=bne_iff_ne.2 (by omega)
      have e3:¬ (j:Int) < (i:Int):=by omega
      go_wp2_with (go_at_call 126;((with_reducible refine (swapRange_eq (a:=m - i) (b:=m + j - i) (m:=i) HW.out (by omega) (by omega) rfl (by omega) (by omega) hn rfl).mono ?_);rintro e w' ⟨rfl,hr2⟩))
      go_roundw
      case rel => exact ⟨i,j - i,_,rfl,by go_num,hi0,him,by omega,by omega,(rot_lt dk m i j him c).trans HR.out,hr2⟩
      case measure => simp [intOf];omega
    · subst c
      go_wp2_with (go_at_call 126;((with_reducible refine (swapRange_eq (a:=m - i) (b:=m) (m:=i) HW.out (by omega) rfl rfl (by omega) (by omega) hn rfl).mono ?_);rintro e w' ⟨rfl,hr2⟩))
      go_end0
      exact ⟨rfl,hr2.ext ((rot_eq dk m i him).trans HR.out)⟩
    · have e1:((i:Int) == (j:Int)) = false:=beq_eq_false_iff_ne.2 (by omega)
      have e2:((i:Int) != (j:Int)) = true:=bne_iff_ne.2 (by omega)
      have e3:(j:Int) < (i:Int):=by omega
      go_wp2_with (go_at_call 126;((with_reducible refine (swapRange_eq (a:=m - i) (b:=m) (m:=j) HW.out (by omega) rfl rfl (by omega) (by omega) hn rfl).mono ?_);rintro e w' ⟨rfl,hr2⟩))
      go_roundw
      case rel => exact ⟨i - j,j,_,by go_num,rfl,by omega,by omega,hj0,hjn,(rot_gt dk m i j him c).trans HR.out,hr2⟩
      case measure => simp [intOf];omega
end
section
open Go.ChangeShapes Go.WideShapes Go.ChangeAt Go.RowKit
attribute [local irreducible] Go.Calls
def cmpI (a b:Int):Int:=if a < b then -1 else if b < a then 1 else 0
theorem cmpI_lt {a b:Int} (h:a < b):cmpI a b = -1:=by unfold cmpI;rw [if_pos h]
theorem cmpI_neg {a b:Int}:decide (cmpI a b < 0) = decide (a < b):=by unfold cmpI;split <;> simp_all;split <;> simp_all
theorem isNaN_c (x:Int) (w:World):Calls Tryz.prog 122 #[.int .i64 x] w fun e w' => e = .returned (.bool false)∧w' = w:=by
  go_enter Tryz.func122,Tryz.ntmps122
  go_wp2
  go_ret
  exact ⟨rfl,rfl⟩
theorem compare64 (a b:Int) (w:World):Calls Tryz.prog 113 #[.int .i64 a,.int .i64 b] w fun e w' => e = .returned (.int .i64 (cmpI a b))∧w' = w:=by
  rcases Int.lt_trichotomy a b with c | c | c
  · have hv:cmpI a b = -1:=cmpI_lt c
    have HV:=hidE hv;clear hv
    go_enter Tryz.func113,Tryz.ntmps113
    go_wp2_with (go_at_call 122;((with_reducible refine (isNaN_c _ _).mono ?_);rintro e w' ⟨rfl,rfl⟩))
    go_ret
    exact ⟨ret_int HV.out.symm,rfl⟩
  · have hv:cmpI a b = 0:=by unfold cmpI;rw [if_neg (by omega),if_neg (by omega)]
    have HV:=hidE hv;clear hv
    subst c
    go_enter Tryz.func113,Tryz.ntmps113
    go_wp2_with (go_at_call 122;((with_reducible refine (isNaN_c _ _).mono ?_);rintro e w' ⟨rfl,rfl⟩))
    go_ret
    exact ⟨ret_int HV.out.symm,rfl⟩
  · have hv:cmpI a b = 1:=by unfold cmpI;rw [if_neg (by omega),if_pos (by omega)]
    have HV:=hidE hv;clear hv
    have c':¬ a < b:=by omega
    go_enter Tryz.func113,Tryz.ntmps113
    go_wp2_with (go_at_call 122;((with_reducible refine (isNaN_c _ _).mono ?_);rintro e w' ⟨rfl,rfl⟩))
    go_ret
    exact ⟨ret_int HV.out.symm,rfl⟩
theorem byAt_c (a m c a' m' c':Int) (w:World):Calls Tryz.prog 103 #[S a m c,S a' m' c'] w fun e w' => e = .returned (.int .i64 (cmpI a a'))∧Below w.heap.size w w':=by
  go_enter Tryz.func103,Tryz.ntmps103
  go_wp2_with (go_at_call 113;((with_reducible refine (compare64 _ _ _).mono ?_);rintro e w' ⟨rfl,rfl⟩))
  go_ret
  exact ⟨rfl,by (repeat (first | exact Below.refl _ _ | assumption | refine balloc ?_ _ | refine below_drewN ?_ _ | refine bstep (by assumption) ?_ | refine bstep (Past.prop _) ?_ | refine Below.setCell ?_ (by first | exact Nat.le_refl _ | (simp;done) | (simp;omega)) _))⟩
theorem cmpRuns_c (l:List Sg) (b off cap x y:Nat) (w:World) (hb0:b < w.heap.size) (_hl:l.length≤9223372036854775807) (hc0:CellsS w b off l) (hx:x < l.length) (hy:y < l.length) :
    Calls Tryz.prog 79 #[.slice (some ⟨b,off,none⟩) l.length cap,.int .i64 x,.int .i64 y] w fun e w' => e = .returned (.int .i64 (cmpI (ats l x) (ats l y)))∧Below w.heap.size w w':=by
  obtain ⟨x0,x1,x2⟩:=hc0.get hx
  obtain ⟨y0,y1,y2⟩:=hc0.get hy
  clear hc0
  generalize ats l x = u0 at *
  generalize vls l x = u at *
  generalize ats l y = v0 at *
  generalize vls l y = v at *
  go_enter Tryz.func79,Tryz.ntmps79
  go_wp2
  refine wp_region_past_lit (by kernel_rfl) (by kernel_rfl) ?_
  have hc:=Past.cell (W:=w)
  repeat (go_big_quiet_step ((go_at_call 103;exact Past.call _ (byAt_c _ _ _ _ _ _ _))))
  refine wpQuiet_nil ?_
  rintro _ ⟨x',rfl⟩
  go_wp2
  go_ret
  exact ⟨rfl,x'.2⟩
end
end Go.Proofs.YthlepbbdjmmelaaGreatDoor
