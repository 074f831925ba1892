/- A term with children, of one kind. Conditions: the parts may be, the pieces are within bounds. A term with children, of one kind. Conditions: the parts may be, the pieces are within bounds. A term with children, of one kind. Conditions: the parts may be, the pieces are within bounds. What is known of a term: (witness).term. Conditions: the parts may be, the pieces are within bounds. Why a witness can't be looked at: arePieces, isFar, wrong. Conditions: the slices read as parts, as pieces; sizes. Check of the document's own layer 8, of a slice of any length. No conditions but the machine's bounds. The document's own answer of layer 10: Check. Conditions: the slices read as parts, as pieces; sizes. -/
import Derived.Test.YtlhokgcamcaonaaPYGE
import Derived.Test.YtlhokgcamcaonaaPYGD
import Derived.Test.YtlhokgcamcaonaaPYGB
import Derived.Test.YtlhokgcamcaonaaPYMA
namespace Go.Proofs.Ytlhokgcamcaonaa
open Go.ChangeShapes Go.WideShapes Go.ChangeAt Go.RowKit Go.Shelf
attribute [local irreducible] Go.Calls
attribute [local go_sem] Oper.semAt_some run_store_fnK

set_option maxHeartbeats 8000000 in
set_option maxRecDepth 100000 in
theorem term_2 (l : List Prt) (W : List Pc) (pa wa : Option Addr) (cap wcap : Nat) (y : Prt) (K : Fst) (o deep ink : Nat) (w : World) (hl : l.length ≤ 64) (ht : (treeS l).2 = 0) (hat : AtF l o (.cons y K .nil)) (hfit : (Fst.cons y K .nil).fit deep ink) (hA : ArgP w pa l) (hW : ArgVs w wa W) (_hWl : W.length ≤ 100000) (hPc : PcOk W) (hk : y.kind = 2) (IH : ∀ (x : Prt) (Kx : Fst) (oo deep ink : Nat) (w : World), Kx.size < K.size → AtF l oo (.cons x Kx .nil) → (Fst.cons x Kx .nil).fit deep ink → ArgP w pa l → ArgVs w wa W → Calls Try.prog 40 #[witV pa l.length cap wa W.length wcap, .int .i64 oo] w (TmPost w (satI W x Kx oo))) :
    Calls Try.prog 40 #[witV pa l.length cap wa W.length wcap, .int .i64 o] w (TmPost w (satI W y K o)) := by
  have hol := hat.lt
  obtain ⟨b, off, rfl, hbb, hc⟩ := hA (by omega)
  have hg0 : l.getD o pr0 = { y with kids := (K.len : Int) } := by rw [List.getD_eq_getElem?_getD, hat.head]; rfl
  have hc0 := hc.get hol
  rw [hg0] at hc0
  obtain ⟨p0, p1, p2, p3, p4⟩ := hc0
  simp only at p0 p1 p2 p3 p4
  have hoz : (o : Int) < (l.length : Int) := by omega
  have HA := hidE hA; have HW := hidE hW; have HPC := hidE hPc; have HAT := hidE hat; have HFIT := hidE hfit
  have HBD := hidE (badP_num hfit.1)
  rw [hk] at p0
  have HKD := hidE hk
  have hK0 : 0 < K.len := by have := (badP_kids hfit.1).2 (by omega); omega
  have hK16 : K.len ≤ 16 := by have := (badP_kids hfit.1).2 (by omega); omega
  have hKs : K.size ≤ 64 := by
    have := hat.1 K.size (by simp only [Fst.size]; omega)
    have h2 : ((Fst.cons y K .nil).flat)[K.size]? ≠ none := by rw [ne_eq, List.getElem?_eq_none_iff, flat_len]; simp only [Fst.size]; omega
    rw [← this] at h2
    have := (List.getElem?_eq_some_iff.1 (Option.ne_none_iff_exists'.1 h2).choose_spec).1
    omega
  have HLB := hidE (len_bd W K (o + 1) _ _ hfit.2.2.2.1)
  have HSEQ := hidE (fun bw ba n0 w' => satkids_it l W (some ⟨b, off, none⟩) wa cap wcap bw ba n0 y K o deep ink w' hl ht hat hfit hK0 IH)
  clear hat hfit hA hW hPc hc hg0 hk ht IH
  have i0 : ∀ w, (Instr.index 121 (.agg kindsV) (.int .u8 2)).run Try.prog w = .ok (.agg #[fnV 72, fnV 71]) w := fun _ => by kernel_rfl
  refine (callsIn_wide (n := 0)).1 (callsIn_of_wp_marks Try.func40 rfl trivial ((wpIn_wide (n := 0)).2 ?_))
  simp only [Try.ntmps40, List.size_toArray, List.length_cons, List.length_nil, Nat.reduceAdd, Nat.reduceSub, Array.replicate_succ, Array.replicate_zero, List.push_toArray, List.append_toArray, List.nil_append, List.cons_append]
  go_upto_region 2 with fail
  obtain ⟨w1, hw1⟩ : ∃ w1, w1 = ((w.alloc (.cells #[.slice (some ⟨b, off, none⟩) l.length cap, .slice wa W.length wcap] 94)).alloc (.cells ti0 69)).alloc (.cells #[.int .u8 2, .int .u32 y.n, .int .u32 y.g, .int .i64 y.d, .int .i64 K.len, .slice none 0 0, .int .i64 0, .bool false, .int .i64 0, .int .i64 0, .bool false] 69) := ⟨_, rfl⟩
  obtain ⟨p, hp⟩ : ∃ p, p = w.heap.size + 1 + 1 := ⟨_, rfl⟩
  obtain ⟨rb, hr⟩ : ∃ r, r = w.heap.size + 1 := ⟨_, rfl⟩
  rw [← hw1, ← hp, ← hr]
  have hb1 : Below w.heap.size w w1 := by rw [hw1]; (repeat (first | exact Below.refl _ _ | assumption | refine balloc ?_ _ | refine below_drewN ?_ _ | refine bstep (by assumption) ?_ | refine bstep (Past.prop _) ?_ | refine Below.setCell ?_ (by first | exact Nat.le_refl _ | (simp; done) | (simp; omega)) _))
  have hs1 : w.heap.size < w1.heap.size := by rw [hw1]; simp; omega
  have hwb : Blk w1 w.heap.size #[.slice (some ⟨b, off, none⟩) l.length cap, .slice wa W.length wcap] 94 := by rw [hw1]; exact ((Blk.made _ _ _).alloc _).alloc _
  have hrb : Blk w1 rb (tiA p00 (.slice none 0 0) 0 none false) 69 := by rw [hw1, hr]; exact (Blk.made_at _ _ _ _ (by simp)).alloc _
  have htb : Blk w1 p (tiA { y with kids := (K.len : Int) } (.slice none 0 0) 0 none false) 69 := by
    rw [hw1, hp]; rw [show ({ y with kids := (K.len : Int) } : Prt).kind = 2 from HKD.out]; exact Blk.made_at _ _ _ _ (by simp)
  have hpw : w.heap.size + 1 < p := by omega
  have hrw : w.heap.size < rb := by omega
  have hrp : rb < p := by omega
  clear hp hr
  have HR1 := hidE hrb; have HT1 := hidE htb; have HB1 := hidE hb1
  have c0 := htb.cell 0; have wz0 := hwb.cell 0; have wz1 := hwb.cell 1; have wz := hwb.lt; have tz := htb.lt
  simp at c0 wz0 wz1
  rw [HKD.out] at c0
  have hpz1 := htb.lt
  clear hw1 hb1 hrb htb hwb p0 p1 p2 p3 p4
  go_wp2_with fail
  ((with_reducible refine (wchildren_c _ _ _ _ _ _ _ _).mono ?_); rintro e w3 ⟨rfl, hbw, hba, hb3⟩)
  have hz3 := hba.lt
  have hs3 := hb3.size
  have hJ0 : SatJ w1 p w3.heap.size { y with kids := (K.len : Int) } #[.slice (some ⟨b, off, none⟩) l.length cap, .slice wa W.length wcap] o w1.heap.size (w1.heap.size + 1) [] none w3 :=
    ⟨⟨.slice none 0 0, w3.heap.size, HT1.out.past hb3, own_nil _ _ _, Nat.le_refl _, Nat.le_refl _, .inl ⟨rfl, rfl⟩⟩, hbw, hba, hb3.mono (by omega)⟩
  have HJ0 := hidE hJ0
  have HB3 := hidE hb3
  clear hbw hba hb3 c0 wz0 wz1 wz tz hJ0
  go_wp2
  refine wp_rangeFunc_V (n₀ := p) (S := satF W K (o + 1)) (key := TV.t) (encs := encTm) rfl (enters_of Try.func66 (by kernel_rfl) rfl) (by omega) (HSEQ.out w1.heap.size (w1.heap.size + 1) p w3) (fun _ => rfl)
    (SatJ w1 p w3.heap.size { y with kids := (K.len : Int) } #[.slice (some ⟨b, off, none⟩) l.length cap, .slice wa W.length wcap] o w1.heap.size (w1.heap.size + 1)) (fun s g A B h hb hk => h.keep (by omega) (by omega) (by omega) hb hk) (fun s g A h => h.lies)
    (fun s g A h => ⟨h.wit, h.here, HA.out.past (HB1.out.trans (h.bel.mono (by omega))), HW.out.past (HB1.out.trans (h.bel.mono (by omega)))⟩) HJ0.out
    (fun _ _ => False) (fun s A B h hb => h)
    (fun k a1 W => ∃ (kb : Nat) (u0 u1 u2 u3 u4 u7 u8 u9 u10 u11 u12 u13 u14 u15 u16 u17 u18 u19 u20 u21 u22 u23 u24 u25 u26 u27 u28 u29 u30 u31 u32 u33 u34 u35 u36 u37 u38 u39 u40 : Value), Blk W kb k.arr 69 ∧ a1 = { tmps := #[u0, u1, u2, u3, u4, .pointer (some ⟨p, 0, none⟩), .pointer (some ⟨kb, 0, none⟩), u7, u8, u9, u10, u11, u12, u13, u14, u15, u16, u17, u18, u19, u20, u21, u22, u23, u24, u25, u26, u27, u28, u29, u30, u31, u32, u33, u34, u35, u36, u37, u38, u39, u40], defers := [] })
    ?hax ?assign ?body ?done ?stop
  case hax =>
    rintro k a1 A l2 r o2 ⟨kb, u0, u1, u2, u3, u4, u7, u8, u9, u10, u11, u12, u13, u14, u15, u16, u17, u18, u19, u20, u21, u22, u23, u24, u25, u26, u27, u28, u29, u30, u31, u32, u33, u34, u35, u36, u37, u38, u39, u40, h2, h3⟩ hlr
    refine ⟨kb, _, _, _, _, _, _, _, _, _, _, _, _, _, _, _, _, _, _, _, _, _, _, _, _, _, _, _, _, _, _, _, _, _, _, _, _, _, _, _, ?_, h3⟩
    exact (World.putObj_heap_other (fun e => by unfold Blk at h2; rw [← e, h2] at hlr; cases hlr)).trans h2
  case assign =>
    intro l2 pre k g W2 K' hsz hi hK
    dsimp only [encTm]
    gi_wp2
    exact hK _ _ ((Below.refl _ _).alloc (Nat.le_refl _) _) (hi.keep (by omega) (by omega) (by omega) (((Below.refl _ _).alloc (Nat.le_refl _) _).mono hsz) (fun b k e => keptA (hi.lies b k e).2 _)) ⟨W2.heap.size, _, _, _, _, _, _, _, _, _, _, _, _, _, _, _, _, _, _, _, _, _, _, _, _, _, _, _, _, _, _, _, _, _, _, _, _, _, _, _, Blk.made _ _ _, rfl⟩
  case body =>
    rintro l2 pre k g a1 W2 hsz hi ⟨kb, u0, u1, u2, u3, u4, u7, u8, u9, u10, u11, u12, u13, u14, u15, u16, u17, u18, u19, u20, u21, u22, u23, u24, u25, u26, u27, u28, u29, u30, u31, u32, u33, u34, u35, u36, u37, u38, u39, u40, hkb, rfl⟩ hpre
    have hlen : pre.length < 17 := by
      have := hpre.length_le
      rw [satF_len] at this
      simp only [List.length_map, List.length_append, List.length_cons, List.length_nil] at this
      omega
    obtain ⟨av, cp, γ, i1, i2, i3, i4, i5, i6⟩ := hi.base hsz
    have HTK := hidE (take_c γ p { y with kids := (K.len : Int) } (.slice av pre.length cp) (endsI (pre.map TV.t)) pre k W2 i1 i2 (by omega) i4 (by omega))
    have HI := hidE hi; have HI5 := hidE i5; have HI6 := hidE i6
    have k0 := hkb.cell 0; have k1 := hkb.cell 1; have k2 := hkb.cell 2; have k3 := hkb.cell 3; have k4 := hkb.cell 4; have k5 := hkb.cell 5; have k6 := hkb.cell 6; have k7 := hkb.cell 7; have k8 := hkb.cell 8; have k9 := hkb.cell 9; have k10 := hkb.cell 10; have kz := hkb.lt
    simp at k0 k1 k2 k3 k4 k5 k6 k7 k8 k9 k10
    clear hpre hi hkb i1 i2 i5 i6
    gi_wp2_with fail
    refine ⟨trivial, rfl, (CallsIn.inRound l2 (callsIn_wide.2 HTK.out)).mono ?_⟩
    rintro e w' ⟨rfl, v', t1, t2, t3, -⟩
    have T1 := hidE t1; have T2 := hidE t2; have T3 := hidE t3
    clear t1 t2 t3 k0 k1 k2 k3 k4 k5 k6 k7 k8 k9 k10 kz HTK
    gi_wp2
    exact HI.out.took hsz (by omega) (by omega) (by omega) (by omega) (by omega) (Below.refl _ _) HI5.out HI6.out i3 i4 T1.out T2.out T3.out
  case done =>
    rintro D full g Wd hD hfull hi hgd hK
    subst hD
    have hDz : w3.heap.size < Wd.heap.size := (Array.getElem?_eq_some_iff.1 hK).1
    obtain ⟨av, cp, γ, i1, i2, i3, i4, i5, i6⟩ := hi.base (by omega)
    have hfl : full.length = K.len := by
      have := congrArg List.length hfull
      rwa [List.length_map, satF_len] at this
    have HFL := hidE hfl
    have hka := kidsAt_own i1 i2 (m := K.len - 1) (by omega) (by omega)
    obtain ⟨gq, cq, eq1, _⟩ := ownP_pos (n := K.len - 1) (by rw [show K.len - 1 + 1 = full.length by omega]; exact i2)
    simp only [Value.slice.injEq] at eq1
    obtain ⟨eq2, eqm, eq3⟩ := eq1
    clear eqm
    subst eq2 eq3
    rw [hfull] at i1 hka
    obtain ⟨S, hS⟩ : ∃ S, endsI (satF W K (o + 1)) = S := ⟨_, rfl⟩
    rw [hS] at i1 hka
    have HSE := hidE hS
    have HKA := hidE hka; have HFU := hidE hfull
    have HLO := hidE (show LenOk 1099511627776 full from fun t ht => by
      have := HLB.out.2.2 t.t (by rw [← HFU.out]; exact List.mem_map_of_mem ht)
      omega)
    have HT := hidE i1; have HR := hidE (HR1.out.below hi.bel hrp); have HB := hidE (HB1.out.trans (hi.bel.mono (by omega)))
    have HL := hidE (fun (w' : World) (h : Below Wd.heap.size Wd w') => by
      have := total_c w' p { y with kids := (K.len : Int) } 0 S false full (HKA.out.past h) (by rw [HFL.out]; omega) HLO.out
      rw [HFU.out] at this
      exact this)
    have HQ := hidE (fun (w' : World) (h : Below Wd.heap.size Wd w') => by
      have := isNext_c (w'.setCell ⟨p, 6, none⟩ (.int .i64 (sumI (satF W K (o + 1))))) p { y with kids := (K.len : Int) } (sumI (satF W K (o + 1))) S false full ((HKA.out.past h).len (sumI (satF W K (o + 1)))) (by rw [HFL.out]; omega) (by rw [HFL.out]; omega)
      rw [HFU.out] at this
      exact this)
    have HD := hidE hK
    clear i1 i2 i5 i6 hka hfull hi hgd hK hS hfl HKA HFU HLO HFL HR1 HT1 HJ0 HSEQ
    have d0 := HT.out.cell 0; have tz := HT.out.lt
    simp at d0
    rw [HKD.out] at d0
    go_upto_region 7 with fail
    refine wp_region_J 6 [] (nthR [detR (.agg kindsV), detR (.pointer (some ⟨p, 0, none⟩)), detR (.pointer (some ⟨p, 0, none⟩)), detR (.int .u8 2), detR (.agg #[.func (.func 72) #[] #[], .func (.func 71) #[] #[]]), newR Wd.heap.size #[.nilFunc, .nilFunc] 120]) (fun _ => false) (by kernel_rfl) (by simp) (by kernel_rfl) (stab_nth (by simp [stab_det, stab_new])) ?_ ?_ ?_
    · intro i o hi ho
      match i, hi with
      | 0, _ =>
        obtain rfl := Option.some.inj ho
        intro u x hd
        have hc := Past.cell x
        simp [go_sem, gives, frm, Act.put, nthR, detR, Region.wanted]
        exact kinds_c _
      | 1, _ =>
        obtain rfl := Option.some.inj ho
        intro u x hd
        have hc := Past.cell x
        simp [go_sem, gives, frm, Act.put, nthR, detR, Region.wanted, Below.refl]
      | 2, _ =>
        obtain rfl := Option.some.inj ho
        intro u x hd
        have hc := Past.cell x
        have d1 := hd 1 (by decide) (by kernel_rfl)
        simp only [nthR, detR, List.getD_cons_zero, List.getD_cons_succ] at d1
        simp [go_sem, gives, frm, Act.put, nthR, detR, Region.wanted, Below.refl, d1]
      | 3, _ =>
        obtain rfl := Option.some.inj ho
        intro u x hd
        have hc := Past.cell x
        have d2 := hd 2 (by decide) (by kernel_rfl)
        simp only [nthR, detR, List.getD_cons_zero, List.getD_cons_succ] at d2
        simp [go_sem, gives, frm, Act.put, nthR, detR, Region.wanted, Below.refl, hc, d2, d0, tz]
      | 4, _ =>
        obtain rfl := Option.some.inj ho
        intro u x hd
        have hc := Past.cell x
        have d0 := hd 0 (by decide) (by kernel_rfl)
        have d3 := hd 3 (by decide) (by kernel_rfl)
        simp only [nthR, detR, List.getD_cons_zero, List.getD_cons_succ] at d0 d3
        simp [go_sem, gives, frm, Act.put, nthR, detR, Region.wanted, Below.refl, d0, d3, i0]
      | 5, _ =>
        obtain rfl := Option.some.inj ho
        intro u x hd
        have hc := Past.cell x
        simp [go_sem, gives, nthR, Region.wanted]
        exact ⟨by (repeat (first | exact Below.refl _ _ | assumption | refine balloc ?_ _ | refine below_drewN ?_ _ | refine bstep (by assumption) ?_ | refine bstep (Past.prop _) ?_ | refine Below.setCell ?_ (by first | exact Nat.le_refl _ | (simp; done) | (simp; omega)) _)), ⟨_, rfl, by simpa using x.2.size, Blk.made _ _ _⟩⟩
      | i + 6, h => exact absurd h (by omega)
    · intro i o h; cases h
    · intro u x9 hu hne
      have e4 : u 4 = .agg #[.func (.func 72) #[] #[], .func (.func 71) #[] #[]] := hu 4 (by decide)
      obtain ⟨kb, e5, hkz, hkB⟩ : newR Wd.heap.size #[.nilFunc, .nilFunc] 120 (u 5) x9.1 := hu 5 (by decide)
      simp only [frm, List.take, Act.put, e4, e5]
      have HX9 := hidE x9.2; have HKB := hidE hkB
      have g0 := hkB.cell 0; have g1 := hkB.cell 1; have gf0 := hkB.free 0; have gf1 := hkB.free 1; have gz := hkB.lt
      simp at g0 g1
      clear hu hne e4 e5 hkB d0 i0
      generalize x9.1 = w9 at *
      go_upto_region 8 with fail
      obtain ⟨w6, hw6⟩ : ∃ w6, w6 = (w9.setCell ⟨kb, 0, none⟩ (.func (.func 72) #[] #[])).setCell ⟨kb, 1, none⟩ (.func (.func 71) #[] #[]) := ⟨_, rfl⟩
      rw [← hw6]
      have hk6 : Blk w6 kb #[.func (.func 72) #[] #[], .func (.func 71) #[] #[]] 120 := by rw [hw6]; simpa using (HKB.out.set 0 (.func (.func 72) #[] #[])).set 1 (.func (.func 71) #[] #[])
      have hb6 : Below Wd.heap.size Wd w6 := by rw [hw6]; exact (HX9.out.setCell (p := ⟨kb, 0, none⟩) hkz _).setCell (p := ⟨kb, 1, none⟩) hkz _
      have HB6 := hidE hb6; have HK6 := hidE hk6
      have g0 := hk6.cell 0; have g1 := hk6.cell 1; have gz := hk6.lt
      simp at g0 g1
      clear hw6 HKB gf0 gf1 HX9 hb6 hk6
      go_wp2_with fail
      ((with_reducible refine (HL.out w6 HB6.out).mono ?_); rintro e w7 ⟨rfl, hb7⟩)
      have hb27 : Below Wd.heap.size Wd w7 := HB6.out.trans (hb7.mono HB6.out.size)
      have hT7 := HT.out.past hb27; have hk7 := HK6.out.past hb7
      have HB7 := hidE hb27; have HK7 := hidE hk7
      have g0 := hk7.cell 0; have g1 := hk7.cell 1; have gz := hk7.lt; have c6 := hT7.cell 6; have f6 := hT7.free 6; have tz7 := hT7.lt
      simp at g0 g1 c6
      have hkp : ¬ kb = p := by omega
      have hpk : ¬ p = kb := by omega
      clear hb7 hb27 hT7 hk7 HK6 HB6 HL
      go_wp2_with fail
      ((with_reducible refine (HQ.out w7 HB7.out).mono ?_); rintro e w8 ⟨rfl, hb8⟩)
      have hT8 := (tiA_len (HT.out.past HB7.out) (sumI (satF W K (o + 1)))).past hb8
      have hR8 := ((HR.out.past HB7.out).other (by omega) (.int .i64 (sumI (satF W K (o + 1))))).past hb8
      have HB8 := hidE (show Below w.heap.size w w8 from (HB.out.trans (HB7.out.mono HB.out.size)).setCell (p := ⟨p, 6, none⟩) (by show w.heap.size ≤ p; omega) (.int .i64 (sumI (satF W K (o + 1)))) |>.trans (hb8.mono (by have := HB.out.size; have := HB7.out.size; simp [World.setCell]; omega)))
      have HT8 := hidE hT8; have HR8 := hidE hR8; have HW8 := hidE hb8
      have hrp' : ¬ rb = p := by omega
      have hpr' : ¬ p = rb := by omega
      have q0 := hT8.cell 0; have q1 := hT8.cell 1; have q2 := hT8.cell 2; have q3 := hT8.cell 3; have q4 := hT8.cell 4; have q5 := hT8.cell 5; have q6 := hT8.cell 6; have q7 := hT8.cell 7; have q8 := hT8.cell 8; have q9 := hT8.cell 9; have q10 := hT8.cell 10; have qf := hT8.free 10; have qz := hT8.lt
      have r0 := hR8.cell 0; have r1 := hR8.cell 1; have r2 := hR8.cell 2; have r3 := hR8.cell 3; have r4 := hR8.cell 4; have r5 := hR8.cell 5; have r6 := hR8.cell 6; have r7 := hR8.cell 7; have r8 := hR8.cell 8; have r9 := hR8.cell 9; have r10 := hR8.cell 10; have rz := hR8.lt
      have s0 := hR8.free 0; have s1 := hR8.free 1; have s2 := hR8.free 2; have s3 := hR8.free 3; have s4 := hR8.free 4; have s5 := hR8.free 5; have s6 := hR8.free 6; have s7 := hR8.free 7; have s8 := hR8.free 8; have s9 := hR8.free 9; have s10 := hR8.free 10
      simp at q0 r0 q1 r1 q2 r2 q3 r3 q4 r4 q5 r5 q6 r6 q7 r7 q8 r8 q9 r9 q10 r10
      clear hb8 hT8 hR8 HQ g0 g1 gz c6 f6 tz7 tz HK7
      go_wp2
      have hfin : Blk (put11 (w8.setCell ⟨p, 10, none⟩ (.bool (adjI (fun e b => decide (e = b)) (satF W K (o + 1)) && allI (satF W K (o + 1))))) rb (⟨⟨{ y with kids := (K.len : Int) }, sumI (satF W K (o + 1)), S, adjI (fun e b => decide (e = b)) (satF W K (o + 1)) && allI (satF W K (o + 1))⟩, (some ⟨gq, 0, none⟩), full.length, cp⟩ : TV)) rb (⟨⟨{ y with kids := (K.len : Int) }, sumI (satF W K (o + 1)), S, adjI (fun e b => decide (e = b)) (satF W K (o + 1)) && allI (satF W K (o + 1))⟩, (some ⟨gq, 0, none⟩), full.length, cp⟩ : TV).arr 69 := put11_blk (HR8.out.other (by omega) _) (⟨⟨{ y with kids := (K.len : Int) }, sumI (satF W K (o + 1)), S, adjI (fun e b => decide (e = b)) (satF W K (o + 1)) && allI (satF W K (o + 1))⟩, (some ⟨gq, 0, none⟩), full.length, cp⟩ : TV)
      have HBF := hidE (show Below w.heap.size w (put11 (w8.setCell ⟨p, 10, none⟩ (.bool (adjI (fun e b => decide (e = b)) (satF W K (o + 1)) && allI (satF W K (o + 1))))) rb (⟨⟨{ y with kids := (K.len : Int) }, sumI (satF W K (o + 1)), S, adjI (fun e b => decide (e = b)) (satF W K (o + 1)) && allI (satF W K (o + 1))⟩, (some ⟨gq, 0, none⟩), full.length, cp⟩ : TV)) from Below.grown (HB8.out.setCell (p := ⟨p, 10, none⟩) (by show w.heap.size ≤ p; omega) _) (put11_grown _ _ _) (by have := HB8.out.size; simpa [World.setCell] using this) (fun k e => by cases e; omega))
      have HGF := hidE (put11_grown (w8.setCell ⟨p, 10, none⟩ (.bool (adjI (fun e b => decide (e = b)) (satF W K (o + 1)) && allI (satF W K (o + 1))))) rb (⟨⟨{ y with kids := (K.len : Int) }, sumI (satF W K (o + 1)), S, adjI (fun e b => decide (e = b)) (satF W K (o + 1)) && allI (satF W K (o + 1))⟩, (some ⟨gq, 0, none⟩), full.length, cp⟩ : TV))
      have x0 := hfin.cell 0; have x1 := hfin.cell 1; have x2 := hfin.cell 2; have x3 := hfin.cell 3; have x4 := hfin.cell 4; have x5 := hfin.cell 5; have x6 := hfin.cell 6; have x7 := hfin.cell 7; have x8 := hfin.cell 8; have x9 := hfin.cell 9; have x10 := hfin.cell 10
      simp at x0 x1 x2 x3 x4 x5 x6 x7 x8 x9 x10
      have z7 := HB7.out.size
      have z8 := HW8.out.size
      simp [World.setCell] at z8
      have HKF := hidE (show (put11 (w8.setCell ⟨p, 10, none⟩ (.bool (adjI (fun e b => decide (e = b)) (satF W K (o + 1)) && allI (satF W K (o + 1))))) rb (⟨⟨{ y with kids := (K.len : Int) }, sumI (satF W K (o + 1)), S, adjI (fun e b => decide (e = b)) (satF W K (o + 1)) && allI (satF W K (o + 1))⟩, (some ⟨gq, 0, none⟩), full.length, cp⟩ : TV)).heap[w3.heap.size]? = some (.deferred (some [])) from by
        rw [HGF.out.block w3.heap.size (by simp [World.setCell]; omega) (by simp; omega), keptS (by omega), HW8.out.block w3.heap.size (by simp [World.setCell]; omega), keptS (by omega), HB7.out.block w3.heap.size hDz]; exact HD.out)
      change bodyPostM _ _ _ _ _ _ _ (put11 (w8.setCell ⟨p, 10, none⟩ (.bool (adjI (fun e b => decide (e = b)) (satF W K (o + 1)) && allI (satF W K (o + 1))))) rb (⟨⟨{ y with kids := (K.len : Int) }, sumI (satF W K (o + 1)), S, adjI (fun e b => decide (e = b)) (satF W K (o + 1)) && allI (satF W K (o + 1))⟩, (some ⟨gq, 0, none⟩), full.length, cp⟩ : TV))
      clear HT8 HR8 HW8 HB8 q0 r0 s0 q1 r1 s1 q2 r2 s2 q3 r3 s3 q4 r4 s4 q5 r5 s5 q6 r6 s6 q7 r7 s7 q8 r8 s8 q9 r9 s9 q10 r10 s10 qf qz rz
      generalize put11 (w8.setCell ⟨p, 10, none⟩ (.bool (adjI (fun e b => decide (e = b)) (satF W K (o + 1)) && allI (satF W K (o + 1))))) rb (⟨⟨{ y with kids := (K.len : Int) }, sumI (satF W K (o + 1)), S, adjI (fun e b => decide (e = b)) (satF W K (o + 1)) && allI (satF W K (o + 1))⟩, (some ⟨gq, 0, none⟩), full.length, cp⟩ : TV) = wf at *
      have hfin2 : Blk (wf.putObj w3.heap.size (.deferred none)) rb (⟨⟨{ y with kids := (K.len : Int) }, sumI (satF W K (o + 1)), S, adjI (fun e b => decide (e = b)) (satF W K (o + 1)) && allI (satF W K (o + 1))⟩, (some ⟨gq, 0, none⟩), full.length, cp⟩ : TV).arr 69 := (World.putObj_heap_other (by omega)).trans hfin
      clear hfin
      have x0 := hfin2.cell 0; have x1 := hfin2.cell 1; have x2 := hfin2.cell 2; have x3 := hfin2.cell 3; have x4 := hfin2.cell 4; have x5 := hfin2.cell 5; have x6 := hfin2.cell 6; have x7 := hfin2.cell 7; have x8 := hfin2.cell 8; have x9 := hfin2.cell 9; have x10 := hfin2.cell 10
      simp at x0 x1 x2 x3 x4 x5 x6 x7 x8 x9 x10
      clear hfin2
      refine ⟨by simp, .inl ⟨_, _, rfl, run_takeDeferred HKF.out, ?_⟩⟩
      refine ⟨.agg (⟨⟨{ y with kids := (K.len : Int) }, sumI (satF W K (o + 1)), S, adjI (fun e b => decide (e = b)) (satF W K (o + 1)) && allI (satF W K (o + 1))⟩, (some ⟨gq, 0, none⟩), full.length, cp⟩ : TV).arr, by simp [results, Try.results40, go_sem, x0, x1, x2, x3, x4, x5, x6, x7, x8, x9, x10], ?_⟩
      refine ⟨(⟨⟨{ y with kids := (K.len : Int) }, sumI (satF W K (o + 1)), S, adjI (fun e b => decide (e = b)) (satF W K (o + 1)) && allI (satF W K (o + 1))⟩, (some ⟨gq, 0, none⟩), full.length, cp⟩ : TV), ?_, rfl, HBF.out.trans (below_putObj _ _ _ (by omega))⟩
      unfold satI mkI lenI okI
      simp only [HKD.out, HSE.out]
      simp
  case stop =>
    rintro D pre W2 hD hpre h hK
    exact h.elim
end Go.Proofs.Ytlhokgcamcaonaa

namespace Go.Proofs.Ytlhokgcamcaonaa
open Go.ChangeShapes Go.WideShapes Go.ChangeAt Go.RowKit Go.Shelf
attribute [local irreducible] Go.Calls
attribute [local go_sem] Oper.semAt_some run_store_fnK

set_option maxHeartbeats 8000000 in
set_option maxRecDepth 100000 in
theorem term_3 (l : List Prt) (W : List Pc) (pa wa : Option Addr) (cap wcap : Nat) (y : Prt) (K : Fst) (o deep ink : Nat) (w : World) (hl : l.length ≤ 64) (ht : (treeS l).2 = 0) (hat : AtF l o (.cons y K .nil)) (hfit : (Fst.cons y K .nil).fit deep ink) (hA : ArgP w pa l) (hW : ArgVs w wa W) (_hWl : W.length ≤ 100000) (hPc : PcOk W) (hk : y.kind = 3) (IH : ∀ (x : Prt) (Kx : Fst) (oo deep ink : Nat) (w : World), Kx.size < K.size → AtF l oo (.cons x Kx .nil) → (Fst.cons x Kx .nil).fit deep ink → ArgP w pa l → ArgVs w wa W → Calls Try.prog 40 #[witV pa l.length cap wa W.length wcap, .int .i64 oo] w (TmPost w (satI W x Kx oo))) :
    Calls Try.prog 40 #[witV pa l.length cap wa W.length wcap, .int .i64 o] w (TmPost w (satI W y K o)) := by
  have hol := hat.lt
  obtain ⟨b, off, rfl, hbb, hc⟩ := hA (by omega)
  have hg0 : l.getD o pr0 = { y with kids := (K.len : Int) } := by rw [List.getD_eq_getElem?_getD, hat.head]; rfl
  have hc0 := hc.get hol
  rw [hg0] at hc0
  obtain ⟨p0, p1, p2, p3, p4⟩ := hc0
  simp only at p0 p1 p2 p3 p4
  have hoz : (o : Int) < (l.length : Int) := by omega
  have HA := hidE hA; have HW := hidE hW; have HPC := hidE hPc; have HAT := hidE hat; have HFIT := hidE hfit
  have HBD := hidE (badP_num hfit.1)
  rw [hk] at p0
  have HKD := hidE hk
  have hK0 : 0 < K.len := by have := (badP_kids hfit.1).2 (by omega); omega
  have hK16 : K.len ≤ 16 := by have := (badP_kids hfit.1).2 (by omega); omega
  have hKs : K.size ≤ 64 := by
    have := hat.1 K.size (by simp only [Fst.size]; omega)
    have h2 : ((Fst.cons y K .nil).flat)[K.size]? ≠ none := by rw [ne_eq, List.getElem?_eq_none_iff, flat_len]; simp only [Fst.size]; omega
    rw [← this] at h2
    have := (List.getElem?_eq_some_iff.1 (Option.ne_none_iff_exists'.1 h2).choose_spec).1
    omega
  have HLB := hidE (len_bd W K (o + 1) _ _ hfit.2.2.2.1)
  have HSEQ := hidE (fun bw ba n0 w' => satkids_it l W (some ⟨b, off, none⟩) wa cap wcap bw ba n0 y K o deep ink w' hl ht hat hfit hK0 IH)
  clear hat hfit hA hW hPc hc hg0 hk ht IH
  have i0 : ∀ w, (Instr.index 121 (.agg kindsV) (.int .u8 3)).run Try.prog w = .ok (.agg #[fnV 73, fnV 74]) w := fun _ => by kernel_rfl
  refine (callsIn_wide (n := 0)).1 (callsIn_of_wp_marks Try.func40 rfl trivial ((wpIn_wide (n := 0)).2 ?_))
  simp only [Try.ntmps40, List.size_toArray, List.length_cons, List.length_nil, Nat.reduceAdd, Nat.reduceSub, Array.replicate_succ, Array.replicate_zero, List.push_toArray, List.append_toArray, List.nil_append, List.cons_append]
  go_upto_region 2 with fail
  obtain ⟨w1, hw1⟩ : ∃ w1, w1 = ((w.alloc (.cells #[.slice (some ⟨b, off, none⟩) l.length cap, .slice wa W.length wcap] 94)).alloc (.cells ti0 69)).alloc (.cells #[.int .u8 3, .int .u32 y.n, .int .u32 y.g, .int .i64 y.d, .int .i64 K.len, .slice none 0 0, .int .i64 0, .bool false, .int .i64 0, .int .i64 0, .bool false] 69) := ⟨_, rfl⟩
  obtain ⟨p, hp⟩ : ∃ p, p = w.heap.size + 1 + 1 := ⟨_, rfl⟩
  obtain ⟨rb, hr⟩ : ∃ r, r = w.heap.size + 1 := ⟨_, rfl⟩
  rw [← hw1, ← hp, ← hr]
  have hb1 : Below w.heap.size w w1 := by rw [hw1]; (repeat (first | exact Below.refl _ _ | assumption | refine balloc ?_ _ | refine below_drewN ?_ _ | refine bstep (by assumption) ?_ | refine bstep (Past.prop _) ?_ | refine Below.setCell ?_ (by first | exact Nat.le_refl _ | (simp; done) | (simp; omega)) _))
  have hs1 : w.heap.size < w1.heap.size := by rw [hw1]; simp; omega
  have hwb : Blk w1 w.heap.size #[.slice (some ⟨b, off, none⟩) l.length cap, .slice wa W.length wcap] 94 := by rw [hw1]; exact ((Blk.made _ _ _).alloc _).alloc _
  have hrb : Blk w1 rb (tiA p00 (.slice none 0 0) 0 none false) 69 := by rw [hw1, hr]; exact (Blk.made_at _ _ _ _ (by simp)).alloc _
  have htb : Blk w1 p (tiA { y with kids := (K.len : Int) } (.slice none 0 0) 0 none false) 69 := by
    rw [hw1, hp]; rw [show ({ y with kids := (K.len : Int) } : Prt).kind = 3 from HKD.out]; exact Blk.made_at _ _ _ _ (by simp)
  have hpw : w.heap.size + 1 < p := by omega
  have hrw : w.heap.size < rb := by omega
  have hrp : rb < p := by omega
  clear hp hr
  have HR1 := hidE hrb; have HT1 := hidE htb; have HB1 := hidE hb1
  have c0 := htb.cell 0; have wz0 := hwb.cell 0; have wz1 := hwb.cell 1; have wz := hwb.lt; have tz := htb.lt
  simp at c0 wz0 wz1
  rw [HKD.out] at c0
  have hpz1 := htb.lt
  clear hw1 hb1 hrb htb hwb p0 p1 p2 p3 p4
  go_wp2_with fail
  ((with_reducible refine (wchildren_c _ _ _ _ _ _ _ _).mono ?_); rintro e w3 ⟨rfl, hbw, hba, hb3⟩)
  have hz3 := hba.lt
  have hs3 := hb3.size
  have hJ0 : SatJ w1 p w3.heap.size { y with kids := (K.len : Int) } #[.slice (some ⟨b, off, none⟩) l.length cap, .slice wa W.length wcap] o w1.heap.size (w1.heap.size + 1) [] none w3 :=
    ⟨⟨.slice none 0 0, w3.heap.size, HT1.out.past hb3, own_nil _ _ _, Nat.le_refl _, Nat.le_refl _, .inl ⟨rfl, rfl⟩⟩, hbw, hba, hb3.mono (by omega)⟩
  have HJ0 := hidE hJ0
  have HB3 := hidE hb3
  clear hbw hba hb3 c0 wz0 wz1 wz tz hJ0
  go_wp2
  refine wp_rangeFunc_V (n₀ := p) (S := satF W K (o + 1)) (key := TV.t) (encs := encTm) rfl (enters_of Try.func66 (by kernel_rfl) rfl) (by omega) (HSEQ.out w1.heap.size (w1.heap.size + 1) p w3) (fun _ => rfl)
    (SatJ w1 p w3.heap.size { y with kids := (K.len : Int) } #[.slice (some ⟨b, off, none⟩) l.length cap, .slice wa W.length wcap] o w1.heap.size (w1.heap.size + 1)) (fun s g A B h hb hk => h.keep (by omega) (by omega) (by omega) hb hk) (fun s g A h => h.lies)
    (fun s g A h => ⟨h.wit, h.here, HA.out.past (HB1.out.trans (h.bel.mono (by omega))), HW.out.past (HB1.out.trans (h.bel.mono (by omega)))⟩) HJ0.out
    (fun _ _ => False) (fun s A B h hb => h)
    (fun k a1 W => ∃ (kb : Nat) (u0 u1 u2 u3 u4 u7 u8 u9 u10 u11 u12 u13 u14 u15 u16 u17 u18 u19 u20 u21 u22 u23 u24 u25 u26 u27 u28 u29 u30 u31 u32 u33 u34 u35 u36 u37 u38 u39 u40 : Value), Blk W kb k.arr 69 ∧ a1 = { tmps := #[u0, u1, u2, u3, u4, .pointer (some ⟨p, 0, none⟩), .pointer (some ⟨kb, 0, none⟩), u7, u8, u9, u10, u11, u12, u13, u14, u15, u16, u17, u18, u19, u20, u21, u22, u23, u24, u25, u26, u27, u28, u29, u30, u31, u32, u33, u34, u35, u36, u37, u38, u39, u40], defers := [] })
    ?hax ?assign ?body ?done ?stop
  case hax =>
    rintro k a1 A l2 r o2 ⟨kb, u0, u1, u2, u3, u4, u7, u8, u9, u10, u11, u12, u13, u14, u15, u16, u17, u18, u19, u20, u21, u22, u23, u24, u25, u26, u27, u28, u29, u30, u31, u32, u33, u34, u35, u36, u37, u38, u39, u40, h2, h3⟩ hlr
    refine ⟨kb, _, _, _, _, _, _, _, _, _, _, _, _, _, _, _, _, _, _, _, _, _, _, _, _, _, _, _, _, _, _, _, _, _, _, _, _, _, _, _, ?_, h3⟩
    exact (World.putObj_heap_other (fun e => by unfold Blk at h2; rw [← e, h2] at hlr; cases hlr)).trans h2
  case assign =>
    intro l2 pre k g W2 K' hsz hi hK
    dsimp only [encTm]
    gi_wp2
    exact hK _ _ ((Below.refl _ _).alloc (Nat.le_refl _) _) (hi.keep (by omega) (by omega) (by omega) (((Below.refl _ _).alloc (Nat.le_refl _) _).mono hsz) (fun b k e => keptA (hi.lies b k e).2 _)) ⟨W2.heap.size, _, _, _, _, _, _, _, _, _, _, _, _, _, _, _, _, _, _, _, _, _, _, _, _, _, _, _, _, _, _, _, _, _, _, _, _, _, _, _, Blk.made _ _ _, rfl⟩
  case body =>
    rintro l2 pre k g a1 W2 hsz hi ⟨kb, u0, u1, u2, u3, u4, u7, u8, u9, u10, u11, u12, u13, u14, u15, u16, u17, u18, u19, u20, u21, u22, u23, u24, u25, u26, u27, u28, u29, u30, u31, u32, u33, u34, u35, u36, u37, u38, u39, u40, hkb, rfl⟩ hpre
    have hlen : pre.length < 17 := by
      have := hpre.length_le
      rw [satF_len] at this
      simp only [List.length_map, List.length_append, List.length_cons, List.length_nil] at this
      omega
    obtain ⟨av, cp, γ, i1, i2, i3, i4, i5, i6⟩ := hi.base hsz
    have HTK := hidE (take_c γ p { y with kids := (K.len : Int) } (.slice av pre.length cp) (endsI (pre.map TV.t)) pre k W2 i1 i2 (by omega) i4 (by omega))
    have HI := hidE hi; have HI5 := hidE i5; have HI6 := hidE i6
    have k0 := hkb.cell 0; have k1 := hkb.cell 1; have k2 := hkb.cell 2; have k3 := hkb.cell 3; have k4 := hkb.cell 4; have k5 := hkb.cell 5; have k6 := hkb.cell 6; have k7 := hkb.cell 7; have k8 := hkb.cell 8; have k9 := hkb.cell 9; have k10 := hkb.cell 10; have kz := hkb.lt
    simp at k0 k1 k2 k3 k4 k5 k6 k7 k8 k9 k10
    clear hpre hi hkb i1 i2 i5 i6
    gi_wp2_with fail
    refine ⟨trivial, rfl, (CallsIn.inRound l2 (callsIn_wide.2 HTK.out)).mono ?_⟩
    rintro e w' ⟨rfl, v', t1, t2, t3, -⟩
    have T1 := hidE t1; have T2 := hidE t2; have T3 := hidE t3
    clear t1 t2 t3 k0 k1 k2 k3 k4 k5 k6 k7 k8 k9 k10 kz HTK
    gi_wp2
    exact HI.out.took hsz (by omega) (by omega) (by omega) (by omega) (by omega) (Below.refl _ _) HI5.out HI6.out i3 i4 T1.out T2.out T3.out
  case done =>
    rintro D full g Wd hD hfull hi hgd hK
    subst hD
    have hDz : w3.heap.size < Wd.heap.size := (Array.getElem?_eq_some_iff.1 hK).1
    obtain ⟨av, cp, γ, i1, i2, i3, i4, i5, i6⟩ := hi.base (by omega)
    have hfl : full.length = K.len := by
      have := congrArg List.length hfull
      rwa [List.length_map, satF_len] at this
    have HFL := hidE hfl
    have hka := kidsAt_own i1 i2 (m := K.len - 1) (by omega) (by omega)
    obtain ⟨gq, cq, eq1, _⟩ := ownP_pos (n := K.len - 1) (by rw [show K.len - 1 + 1 = full.length by omega]; exact i2)
    simp only [Value.slice.injEq] at eq1
    obtain ⟨eq2, eqm, eq3⟩ := eq1
    clear eqm
    subst eq2 eq3
    rw [hfull] at i1 hka
    obtain ⟨S, hS⟩ : ∃ S, endsI (satF W K (o + 1)) = S := ⟨_, rfl⟩
    rw [hS] at i1 hka
    have HSE := hidE hS
    have HKA := hidE hka; have HFU := hidE hfull
    have HLO := hidE (show LenOk 1099511627776 full from fun t ht => by
      have := HLB.out.2.2 t.t (by rw [← HFU.out]; exact List.mem_map_of_mem ht)
      omega)
    have HT := hidE i1; have HR := hidE (HR1.out.below hi.bel hrp); have HB := hidE (HB1.out.trans (hi.bel.mono (by omega)))
    have HL := hidE (fun (w' : World) (h : Below Wd.heap.size Wd w') => by
      have := shortest_c w' p { y with kids := (K.len : Int) } 0 S false full (HKA.out.past h) (by rw [HFL.out]; omega) (by rw [HFL.out]; omega)
      rw [HFU.out] at this
      exact this)
    have HQ := hidE (fun (w' : World) (h : Below Wd.heap.size Wd w') => by
      have := isOne_c (w'.setCell ⟨p, 6, none⟩ (.int .i64 (minI (satF W K (o + 1))))) p { y with kids := (K.len : Int) } (minI (satF W K (o + 1))) S false full ((HKA.out.past h).len (minI (satF W K (o + 1)))) (by rw [HFL.out]; omega)
      rw [HFU.out] at this
      exact this)
    have HD := hidE hK
    clear i1 i2 i5 i6 hka hfull hi hgd hK hS hfl HKA HFU HLO HFL HR1 HT1 HJ0 HSEQ
    have d0 := HT.out.cell 0; have tz := HT.out.lt
    simp at d0
    rw [HKD.out] at d0
    go_upto_region 7 with fail
    refine wp_region_J 6 [] (nthR [detR (.agg kindsV), detR (.pointer (some ⟨p, 0, none⟩)), detR (.pointer (some ⟨p, 0, none⟩)), detR (.int .u8 3), detR (.agg #[.func (.func 73) #[] #[], .func (.func 74) #[] #[]]), newR Wd.heap.size #[.nilFunc, .nilFunc] 120]) (fun _ => false) (by kernel_rfl) (by simp) (by kernel_rfl) (stab_nth (by simp [stab_det, stab_new])) ?_ ?_ ?_
    · intro i o hi ho
      match i, hi with
      | 0, _ =>
        obtain rfl := Option.some.inj ho
        intro u x hd
        have hc := Past.cell x
        simp [go_sem, gives, frm, Act.put, nthR, detR, Region.wanted]
        exact kinds_c _
      | 1, _ =>
        obtain rfl := Option.some.inj ho
        intro u x hd
        have hc := Past.cell x
        simp [go_sem, gives, frm, Act.put, nthR, detR, Region.wanted, Below.refl]
      | 2, _ =>
        obtain rfl := Option.some.inj ho
        intro u x hd
        have hc := Past.cell x
        have d1 := hd 1 (by decide) (by kernel_rfl)
        simp only [nthR, detR, List.getD_cons_zero, List.getD_cons_succ] at d1
        simp [go_sem, gives, frm, Act.put, nthR, detR, Region.wanted, Below.refl, d1]
      | 3, _ =>
        obtain rfl := Option.some.inj ho
        intro u x hd
        have hc := Past.cell x
        have d2 := hd 2 (by decide) (by kernel_rfl)
        simp only [nthR, detR, List.getD_cons_zero, List.getD_cons_succ] at d2
        simp [go_sem, gives, frm, Act.put, nthR, detR, Region.wanted, Below.refl, hc, d2, d0, tz]
      | 4, _ =>
        obtain rfl := Option.some.inj ho
        intro u x hd
        have hc := Past.cell x
        have d0 := hd 0 (by decide) (by kernel_rfl)
        have d3 := hd 3 (by decide) (by kernel_rfl)
        simp only [nthR, detR, List.getD_cons_zero, List.getD_cons_succ] at d0 d3
        simp [go_sem, gives, frm, Act.put, nthR, detR, Region.wanted, Below.refl, d0, d3, i0]
      | 5, _ =>
        obtain rfl := Option.some.inj ho
        intro u x hd
        have hc := Past.cell x
        simp [go_sem, gives, nthR, Region.wanted]
        exact ⟨by (repeat (first | exact Below.refl _ _ | assumption | refine balloc ?_ _ | refine below_drewN ?_ _ | refine bstep (by assumption) ?_ | refine bstep (Past.prop _) ?_ | refine Below.setCell ?_ (by first | exact Nat.le_refl _ | (simp; done) | (simp; omega)) _)), ⟨_, rfl, by simpa using x.2.size, Blk.made _ _ _⟩⟩
      | i + 6, h => exact absurd h (by omega)
    · intro i o h; cases h
    · intro u x9 hu hne
      have e4 : u 4 = .agg #[.func (.func 73) #[] #[], .func (.func 74) #[] #[]] := hu 4 (by decide)
      obtain ⟨kb, e5, hkz, hkB⟩ : newR Wd.heap.size #[.nilFunc, .nilFunc] 120 (u 5) x9.1 := hu 5 (by decide)
      simp only [frm, List.take, Act.put, e4, e5]
      have HX9 := hidE x9.2; have HKB := hidE hkB
      have g0 := hkB.cell 0; have g1 := hkB.cell 1; have gf0 := hkB.free 0; have gf1 := hkB.free 1; have gz := hkB.lt
      simp at g0 g1
      clear hu hne e4 e5 hkB d0 i0
      generalize x9.1 = w9 at *
      go_upto_region 8 with fail
      obtain ⟨w6, hw6⟩ : ∃ w6, w6 = (w9.setCell ⟨kb, 0, none⟩ (.func (.func 73) #[] #[])).setCell ⟨kb, 1, none⟩ (.func (.func 74) #[] #[]) := ⟨_, rfl⟩
      rw [← hw6]
      have hk6 : Blk w6 kb #[.func (.func 73) #[] #[], .func (.func 74) #[] #[]] 120 := by rw [hw6]; simpa using (HKB.out.set 0 (.func (.func 73) #[] #[])).set 1 (.func (.func 74) #[] #[])
      have hb6 : Below Wd.heap.size Wd w6 := by rw [hw6]; exact (HX9.out.setCell (p := ⟨kb, 0, none⟩) hkz _).setCell (p := ⟨kb, 1, none⟩) hkz _
      have HB6 := hidE hb6; have HK6 := hidE hk6
      have g0 := hk6.cell 0; have g1 := hk6.cell 1; have gz := hk6.lt
      simp at g0 g1
      clear hw6 HKB gf0 gf1 HX9 hb6 hk6
      go_wp2_with fail
      ((with_reducible refine (HL.out w6 HB6.out).mono ?_); rintro e w7 ⟨rfl, hb7⟩)
      have hb27 : Below Wd.heap.size Wd w7 := HB6.out.trans (hb7.mono HB6.out.size)
      have hT7 := HT.out.past hb27; have hk7 := HK6.out.past hb7
      have HB7 := hidE hb27; have HK7 := hidE hk7
      have g0 := hk7.cell 0; have g1 := hk7.cell 1; have gz := hk7.lt; have c6 := hT7.cell 6; have f6 := hT7.free 6; have tz7 := hT7.lt
      simp at g0 g1 c6
      have hkp : ¬ kb = p := by omega
      have hpk : ¬ p = kb := by omega
      clear hb7 hb27 hT7 hk7 HK6 HB6 HL
      go_wp2_with fail
      ((with_reducible refine (HQ.out w7 HB7.out).mono ?_); rintro e w8 ⟨rfl, hb8⟩)
      have hT8 := (tiA_len (HT.out.past HB7.out) (minI (satF W K (o + 1)))).past hb8
      have hR8 := ((HR.out.past HB7.out).other (by omega) (.int .i64 (minI (satF W K (o + 1))))).past hb8
      have HB8 := hidE (show Below w.heap.size w w8 from (HB.out.trans (HB7.out.mono HB.out.size)).setCell (p := ⟨p, 6, none⟩) (by show w.heap.size ≤ p; omega) (.int .i64 (minI (satF W K (o + 1)))) |>.trans (hb8.mono (by have := HB.out.size; have := HB7.out.size; simp [World.setCell]; omega)))
      have HT8 := hidE hT8; have HR8 := hidE hR8; have HW8 := hidE hb8
      have hrp' : ¬ rb = p := by omega
      have hpr' : ¬ p = rb := by omega
      have q0 := hT8.cell 0; have q1 := hT8.cell 1; have q2 := hT8.cell 2; have q3 := hT8.cell 3; have q4 := hT8.cell 4; have q5 := hT8.cell 5; have q6 := hT8.cell 6; have q7 := hT8.cell 7; have q8 := hT8.cell 8; have q9 := hT8.cell 9; have q10 := hT8.cell 10; have qf := hT8.free 10; have qz := hT8.lt
      have r0 := hR8.cell 0; have r1 := hR8.cell 1; have r2 := hR8.cell 2; have r3 := hR8.cell 3; have r4 := hR8.cell 4; have r5 := hR8.cell 5; have r6 := hR8.cell 6; have r7 := hR8.cell 7; have r8 := hR8.cell 8; have r9 := hR8.cell 9; have r10 := hR8.cell 10; have rz := hR8.lt
      have s0 := hR8.free 0; have s1 := hR8.free 1; have s2 := hR8.free 2; have s3 := hR8.free 3; have s4 := hR8.free 4; have s5 := hR8.free 5; have s6 := hR8.free 6; have s7 := hR8.free 7; have s8 := hR8.free 8; have s9 := hR8.free 9; have s10 := hR8.free 10
      simp at q0 r0 q1 r1 q2 r2 q3 r3 q4 r4 q5 r5 q6 r6 q7 r7 q8 r8 q9 r9 q10 r10
      clear hb8 hT8 hR8 HQ g0 g1 gz c6 f6 tz7 tz HK7
      go_wp2
      have hfin : Blk (put11 (w8.setCell ⟨p, 10, none⟩ (.bool (anyI (satF W K (o + 1))))) rb (⟨⟨{ y with kids := (K.len : Int) }, minI (satF W K (o + 1)), S, anyI (satF W K (o + 1))⟩, (some ⟨gq, 0, none⟩), full.length, cp⟩ : TV)) rb (⟨⟨{ y with kids := (K.len : Int) }, minI (satF W K (o + 1)), S, anyI (satF W K (o + 1))⟩, (some ⟨gq, 0, none⟩), full.length, cp⟩ : TV).arr 69 := put11_blk (HR8.out.other (by omega) _) (⟨⟨{ y with kids := (K.len : Int) }, minI (satF W K (o + 1)), S, anyI (satF W K (o + 1))⟩, (some ⟨gq, 0, none⟩), full.length, cp⟩ : TV)
      have HBF := hidE (show Below w.heap.size w (put11 (w8.setCell ⟨p, 10, none⟩ (.bool (anyI (satF W K (o + 1))))) rb (⟨⟨{ y with kids := (K.len : Int) }, minI (satF W K (o + 1)), S, anyI (satF W K (o + 1))⟩, (some ⟨gq, 0, none⟩), full.length, cp⟩ : TV)) from Below.grown (HB8.out.setCell (p := ⟨p, 10, none⟩) (by show w.heap.size ≤ p; omega) _) (put11_grown _ _ _) (by have := HB8.out.size; simpa [World.setCell] using this) (fun k e => by cases e; omega))
      have HGF := hidE (put11_grown (w8.setCell ⟨p, 10, none⟩ (.bool (anyI (satF W K (o + 1))))) rb (⟨⟨{ y with kids := (K.len : Int) }, minI (satF W K (o + 1)), S, anyI (satF W K (o + 1))⟩, (some ⟨gq, 0, none⟩), full.length, cp⟩ : TV))
      have x0 := hfin.cell 0; have x1 := hfin.cell 1; have x2 := hfin.cell 2; have x3 := hfin.cell 3; have x4 := hfin.cell 4; have x5 := hfin.cell 5; have x6 := hfin.cell 6; have x7 := hfin.cell 7; have x8 := hfin.cell 8; have x9 := hfin.cell 9; have x10 := hfin.cell 10
      simp at x0 x1 x2 x3 x4 x5 x6 x7 x8 x9 x10
      have z7 := HB7.out.size
      have z8 := HW8.out.size
      simp [World.setCell] at z8
      have HKF := hidE (show (put11 (w8.setCell ⟨p, 10, none⟩ (.bool (anyI (satF W K (o + 1))))) rb (⟨⟨{ y with kids := (K.len : Int) }, minI (satF W K (o + 1)), S, anyI (satF W K (o + 1))⟩, (some ⟨gq, 0, none⟩), full.length, cp⟩ : TV)).heap[w3.heap.size]? = some (.deferred (some [])) from by
        rw [HGF.out.block w3.heap.size (by simp [World.setCell]; omega) (by simp; omega), keptS (by omega), HW8.out.block w3.heap.size (by simp [World.setCell]; omega), keptS (by omega), HB7.out.block w3.heap.size hDz]; exact HD.out)
      change bodyPostM _ _ _ _ _ _ _ (put11 (w8.setCell ⟨p, 10, none⟩ (.bool (anyI (satF W K (o + 1))))) rb (⟨⟨{ y with kids := (K.len : Int) }, minI (satF W K (o + 1)), S, anyI (satF W K (o + 1))⟩, (some ⟨gq, 0, none⟩), full.length, cp⟩ : TV))
      clear HT8 HR8 HW8 HB8 q0 r0 s0 q1 r1 s1 q2 r2 s2 q3 r3 s3 q4 r4 s4 q5 r5 s5 q6 r6 s6 q7 r7 s7 q8 r8 s8 q9 r9 s9 q10 r10 s10 qf qz rz
      generalize put11 (w8.setCell ⟨p, 10, none⟩ (.bool (anyI (satF W K (o + 1))))) rb (⟨⟨{ y with kids := (K.len : Int) }, minI (satF W K (o + 1)), S, anyI (satF W K (o + 1))⟩, (some ⟨gq, 0, none⟩), full.length, cp⟩ : TV) = wf at *
      have hfin2 : Blk (wf.putObj w3.heap.size (.deferred none)) rb (⟨⟨{ y with kids := (K.len : Int) }, minI (satF W K (o + 1)), S, anyI (satF W K (o + 1))⟩, (some ⟨gq, 0, none⟩), full.length, cp⟩ : TV).arr 69 := (World.putObj_heap_other (by omega)).trans hfin
      clear hfin
      have x0 := hfin2.cell 0; have x1 := hfin2.cell 1; have x2 := hfin2.cell 2; have x3 := hfin2.cell 3; have x4 := hfin2.cell 4; have x5 := hfin2.cell 5; have x6 := hfin2.cell 6; have x7 := hfin2.cell 7; have x8 := hfin2.cell 8; have x9 := hfin2.cell 9; have x10 := hfin2.cell 10
      simp at x0 x1 x2 x3 x4 x5 x6 x7 x8 x9 x10
      clear hfin2
      refine ⟨by simp, .inl ⟨_, _, rfl, run_takeDeferred HKF.out, ?_⟩⟩
      refine ⟨.agg (⟨⟨{ y with kids := (K.len : Int) }, minI (satF W K (o + 1)), S, anyI (satF W K (o + 1))⟩, (some ⟨gq, 0, none⟩), full.length, cp⟩ : TV).arr, by simp [results, Try.results40, go_sem, x0, x1, x2, x3, x4, x5, x6, x7, x8, x9, x10], ?_⟩
      refine ⟨(⟨⟨{ y with kids := (K.len : Int) }, minI (satF W K (o + 1)), S, anyI (satF W K (o + 1))⟩, (some ⟨gq, 0, none⟩), full.length, cp⟩ : TV), ?_, rfl, HBF.out.trans (below_putObj _ _ _ (by omega))⟩
      unfold satI mkI lenI okI
      simp only [HKD.out, HSE.out]
      simp
  case stop =>
    rintro D pre W2 hD hpre h hK
    exact h.elim
end Go.Proofs.Ytlhokgcamcaonaa

namespace Go.Proofs.Ytlhokgcamcaonaa
open Go.ChangeShapes Go.WideShapes Go.ChangeAt Go.RowKit Go.Shelf
attribute [local irreducible] Go.Calls
attribute [local go_sem] Oper.semAt_some run_store_fnK

set_option maxHeartbeats 8000000 in
set_option maxRecDepth 100000 in
theorem term_4 (l : List Prt) (W : List Pc) (pa wa : Option Addr) (cap wcap : Nat) (y : Prt) (K : Fst) (o deep ink : Nat) (w : World) (hl : l.length ≤ 64) (ht : (treeS l).2 = 0) (hat : AtF l o (.cons y K .nil)) (hfit : (Fst.cons y K .nil).fit deep ink) (hA : ArgP w pa l) (hW : ArgVs w wa W) (_hWl : W.length ≤ 100000) (hPc : PcOk W) (hk : y.kind = 4) (IH : ∀ (x : Prt) (Kx : Fst) (oo deep ink : Nat) (w : World), Kx.size < K.size → AtF l oo (.cons x Kx .nil) → (Fst.cons x Kx .nil).fit deep ink → ArgP w pa l → ArgVs w wa W → Calls Try.prog 40 #[witV pa l.length cap wa W.length wcap, .int .i64 oo] w (TmPost w (satI W x Kx oo))) :
    Calls Try.prog 40 #[witV pa l.length cap wa W.length wcap, .int .i64 o] w (TmPost w (satI W y K o)) := by
  have hol := hat.lt
  obtain ⟨b, off, rfl, hbb, hc⟩ := hA (by omega)
  have hg0 : l.getD o pr0 = { y with kids := (K.len : Int) } := by rw [List.getD_eq_getElem?_getD, hat.head]; rfl
  have hc0 := hc.get hol
  rw [hg0] at hc0
  obtain ⟨p0, p1, p2, p3, p4⟩ := hc0
  simp only at p0 p1 p2 p3 p4
  have hoz : (o : Int) < (l.length : Int) := by omega
  have HA := hidE hA; have HW := hidE hW; have HPC := hidE hPc; have HAT := hidE hat; have HFIT := hidE hfit
  have HBD := hidE (badP_num hfit.1)
  rw [hk] at p0
  have HKD := hidE hk
  have hK0 : 0 < K.len := by have := (badP_kids hfit.1).2 (by omega); omega
  have hK16 : K.len ≤ 16 := by have := (badP_kids hfit.1).2 (by omega); omega
  have hKs : K.size ≤ 64 := by
    have := hat.1 K.size (by simp only [Fst.size]; omega)
    have h2 : ((Fst.cons y K .nil).flat)[K.size]? ≠ none := by rw [ne_eq, List.getElem?_eq_none_iff, flat_len]; simp only [Fst.size]; omega
    rw [← this] at h2
    have := (List.getElem?_eq_some_iff.1 (Option.ne_none_iff_exists'.1 h2).choose_spec).1
    omega
  have HLB := hidE (len_bd W K (o + 1) _ _ hfit.2.2.2.1)
  have HSEQ := hidE (fun bw ba n0 w' => satkids_it l W (some ⟨b, off, none⟩) wa cap wcap bw ba n0 y K o deep ink w' hl ht hat hfit hK0 IH)
  clear hat hfit hA hW hPc hc hg0 hk ht IH
  have i0 : ∀ w, (Instr.index 121 (.agg kindsV) (.int .u8 4)).run Try.prog w = .ok (.agg #[fnV 75, fnV 76]) w := fun _ => by kernel_rfl
  refine (callsIn_wide (n := 0)).1 (callsIn_of_wp_marks Try.func40 rfl trivial ((wpIn_wide (n := 0)).2 ?_))
  simp only [Try.ntmps40, List.size_toArray, List.length_cons, List.length_nil, Nat.reduceAdd, Nat.reduceSub, Array.replicate_succ, Array.replicate_zero, List.push_toArray, List.append_toArray, List.nil_append, List.cons_append]
  go_upto_region 2 with fail
  obtain ⟨w1, hw1⟩ : ∃ w1, w1 = ((w.alloc (.cells #[.slice (some ⟨b, off, none⟩) l.length cap, .slice wa W.length wcap] 94)).alloc (.cells ti0 69)).alloc (.cells #[.int .u8 4, .int .u32 y.n, .int .u32 y.g, .int .i64 y.d, .int .i64 K.len, .slice none 0 0, .int .i64 0, .bool false, .int .i64 0, .int .i64 0, .bool false] 69) := ⟨_, rfl⟩
  obtain ⟨p, hp⟩ : ∃ p, p = w.heap.size + 1 + 1 := ⟨_, rfl⟩
  obtain ⟨rb, hr⟩ : ∃ r, r = w.heap.size + 1 := ⟨_, rfl⟩
  rw [← hw1, ← hp, ← hr]
  have hb1 : Below w.heap.size w w1 := by rw [hw1]; (repeat (first | exact Below.refl _ _ | assumption | refine balloc ?_ _ | refine below_drewN ?_ _ | refine bstep (by assumption) ?_ | refine bstep (Past.prop _) ?_ | refine Below.setCell ?_ (by first | exact Nat.le_refl _ | (simp; done) | (simp; omega)) _))
  have hs1 : w.heap.size < w1.heap.size := by rw [hw1]; simp; omega
  have hwb : Blk w1 w.heap.size #[.slice (some ⟨b, off, none⟩) l.length cap, .slice wa W.length wcap] 94 := by rw [hw1]; exact ((Blk.made _ _ _).alloc _).alloc _
  have hrb : Blk w1 rb (tiA p00 (.slice none 0 0) 0 none false) 69 := by rw [hw1, hr]; exact (Blk.made_at _ _ _ _ (by simp)).alloc _
  have htb : Blk w1 p (tiA { y with kids := (K.len : Int) } (.slice none 0 0) 0 none false) 69 := by
    rw [hw1, hp]; rw [show ({ y with kids := (K.len : Int) } : Prt).kind = 4 from HKD.out]; exact Blk.made_at _ _ _ _ (by simp)
  have hpw : w.heap.size + 1 < p := by omega
  have hrw : w.heap.size < rb := by omega
  have hrp : rb < p := by omega
  clear hp hr
  have HR1 := hidE hrb; have HT1 := hidE htb; have HB1 := hidE hb1
  have c0 := htb.cell 0; have wz0 := hwb.cell 0; have wz1 := hwb.cell 1; have wz := hwb.lt; have tz := htb.lt
  simp at c0 wz0 wz1
  rw [HKD.out] at c0
  have hpz1 := htb.lt
  clear hw1 hb1 hrb htb hwb p0 p1 p2 p3 p4
  go_wp2_with fail
  ((with_reducible refine (wchildren_c _ _ _ _ _ _ _ _).mono ?_); rintro e w3 ⟨rfl, hbw, hba, hb3⟩)
  have hz3 := hba.lt
  have hs3 := hb3.size
  have hJ0 : SatJ w1 p w3.heap.size { y with kids := (K.len : Int) } #[.slice (some ⟨b, off, none⟩) l.length cap, .slice wa W.length wcap] o w1.heap.size (w1.heap.size + 1) [] none w3 :=
    ⟨⟨.slice none 0 0, w3.heap.size, HT1.out.past hb3, own_nil _ _ _, Nat.le_refl _, Nat.le_refl _, .inl ⟨rfl, rfl⟩⟩, hbw, hba, hb3.mono (by omega)⟩
  have HJ0 := hidE hJ0
  have HB3 := hidE hb3
  clear hbw hba hb3 c0 wz0 wz1 wz tz hJ0
  go_wp2
  refine wp_rangeFunc_V (n₀ := p) (S := satF W K (o + 1)) (key := TV.t) (encs := encTm) rfl (enters_of Try.func66 (by kernel_rfl) rfl) (by omega) (HSEQ.out w1.heap.size (w1.heap.size + 1) p w3) (fun _ => rfl)
    (SatJ w1 p w3.heap.size { y with kids := (K.len : Int) } #[.slice (some ⟨b, off, none⟩) l.length cap, .slice wa W.length wcap] o w1.heap.size (w1.heap.size + 1)) (fun s g A B h hb hk => h.keep (by omega) (by omega) (by omega) hb hk) (fun s g A h => h.lies)
    (fun s g A h => ⟨h.wit, h.here, HA.out.past (HB1.out.trans (h.bel.mono (by omega))), HW.out.past (HB1.out.trans (h.bel.mono (by omega)))⟩) HJ0.out
    (fun _ _ => False) (fun s A B h hb => h)
    (fun k a1 W => ∃ (kb : Nat) (u0 u1 u2 u3 u4 u7 u8 u9 u10 u11 u12 u13 u14 u15 u16 u17 u18 u19 u20 u21 u22 u23 u24 u25 u26 u27 u28 u29 u30 u31 u32 u33 u34 u35 u36 u37 u38 u39 u40 : Value), Blk W kb k.arr 69 ∧ a1 = { tmps := #[u0, u1, u2, u3, u4, .pointer (some ⟨p, 0, none⟩), .pointer (some ⟨kb, 0, none⟩), u7, u8, u9, u10, u11, u12, u13, u14, u15, u16, u17, u18, u19, u20, u21, u22, u23, u24, u25, u26, u27, u28, u29, u30, u31, u32, u33, u34, u35, u36, u37, u38, u39, u40], defers := [] })
    ?hax ?assign ?body ?done ?stop
  case hax =>
    rintro k a1 A l2 r o2 ⟨kb, u0, u1, u2, u3, u4, u7, u8, u9, u10, u11, u12, u13, u14, u15, u16, u17, u18, u19, u20, u21, u22, u23, u24, u25, u26, u27, u28, u29, u30, u31, u32, u33, u34, u35, u36, u37, u38, u39, u40, h2, h3⟩ hlr
    refine ⟨kb, _, _, _, _, _, _, _, _, _, _, _, _, _, _, _, _, _, _, _, _, _, _, _, _, _, _, _, _, _, _, _, _, _, _, _, _, _, _, _, ?_, h3⟩
    exact (World.putObj_heap_other (fun e => by unfold Blk at h2; rw [← e, h2] at hlr; cases hlr)).trans h2
  case assign =>
    intro l2 pre k g W2 K' hsz hi hK
    dsimp only [encTm]
    gi_wp2
    exact hK _ _ ((Below.refl _ _).alloc (Nat.le_refl _) _) (hi.keep (by omega) (by omega) (by omega) (((Below.refl _ _).alloc (Nat.le_refl _) _).mono hsz) (fun b k e => keptA (hi.lies b k e).2 _)) ⟨W2.heap.size, _, _, _, _, _, _, _, _, _, _, _, _, _, _, _, _, _, _, _, _, _, _, _, _, _, _, _, _, _, _, _, _, _, _, _, _, _, _, _, Blk.made _ _ _, rfl⟩
  case body =>
    rintro l2 pre k g a1 W2 hsz hi ⟨kb, u0, u1, u2, u3, u4, u7, u8, u9, u10, u11, u12, u13, u14, u15, u16, u17, u18, u19, u20, u21, u22, u23, u24, u25, u26, u27, u28, u29, u30, u31, u32, u33, u34, u35, u36, u37, u38, u39, u40, hkb, rfl⟩ hpre
    have hlen : pre.length < 17 := by
      have := hpre.length_le
      rw [satF_len] at this
      simp only [List.length_map, List.length_append, List.length_cons, List.length_nil] at this
      omega
    obtain ⟨av, cp, γ, i1, i2, i3, i4, i5, i6⟩ := hi.base hsz
    have HTK := hidE (take_c γ p { y with kids := (K.len : Int) } (.slice av pre.length cp) (endsI (pre.map TV.t)) pre k W2 i1 i2 (by omega) i4 (by omega))
    have HI := hidE hi; have HI5 := hidE i5; have HI6 := hidE i6
    have k0 := hkb.cell 0; have k1 := hkb.cell 1; have k2 := hkb.cell 2; have k3 := hkb.cell 3; have k4 := hkb.cell 4; have k5 := hkb.cell 5; have k6 := hkb.cell 6; have k7 := hkb.cell 7; have k8 := hkb.cell 8; have k9 := hkb.cell 9; have k10 := hkb.cell 10; have kz := hkb.lt
    simp at k0 k1 k2 k3 k4 k5 k6 k7 k8 k9 k10
    clear hpre hi hkb i1 i2 i5 i6
    gi_wp2_with fail
    refine ⟨trivial, rfl, (CallsIn.inRound l2 (callsIn_wide.2 HTK.out)).mono ?_⟩
    rintro e w' ⟨rfl, v', t1, t2, t3, -⟩
    have T1 := hidE t1; have T2 := hidE t2; have T3 := hidE t3
    clear t1 t2 t3 k0 k1 k2 k3 k4 k5 k6 k7 k8 k9 k10 kz HTK
    gi_wp2
    exact HI.out.took hsz (by omega) (by omega) (by omega) (by omega) (by omega) (Below.refl _ _) HI5.out HI6.out i3 i4 T1.out T2.out T3.out
  case done =>
    rintro D full g Wd hD hfull hi hgd hK
    subst hD
    have hDz : w3.heap.size < Wd.heap.size := (Array.getElem?_eq_some_iff.1 hK).1
    obtain ⟨av, cp, γ, i1, i2, i3, i4, i5, i6⟩ := hi.base (by omega)
    have hfl : full.length = K.len := by
      have := congrArg List.length hfull
      rwa [List.length_map, satF_len] at this
    have HFL := hidE hfl
    have hka := kidsAt_own i1 i2 (m := K.len - 1) (by omega) (by omega)
    obtain ⟨gq, cq, eq1, _⟩ := ownP_pos (n := K.len - 1) (by rw [show K.len - 1 + 1 = full.length by omega]; exact i2)
    simp only [Value.slice.injEq] at eq1
    obtain ⟨eq2, eqm, eq3⟩ := eq1
    clear eqm
    subst eq2 eq3
    rw [hfull] at i1 hka
    obtain ⟨S, hS⟩ : ∃ S, endsI (satF W K (o + 1)) = S := ⟨_, rfl⟩
    rw [hS] at i1 hka
    have HSE := hidE hS
    have HKA := hidE hka; have HFU := hidE hfull
    have HLO := hidE (show LenOk 1099511627776 full from fun t ht => by
      have := HLB.out.2.2 t.t (by rw [← HFU.out]; exact List.mem_map_of_mem ht)
      omega)
    have HT := hidE i1; have HR := hidE (HR1.out.below hi.bel hrp); have HB := hidE (HB1.out.trans (hi.bel.mono (by omega)))
    have HL := hidE (fun (w' : World) (h : Below Wd.heap.size Wd w') => by
      have := longest_c w' p { y with kids := (K.len : Int) } 0 S false full (HKA.out.past h) (by rw [HFL.out]; omega) (by rw [HFL.out]; omega)
      rw [HFU.out] at this
      exact this)
    have HQ := hidE (fun (w' : World) (h : Below Wd.heap.size Wd w') => by
      have := isAll_c (w'.setCell ⟨p, 6, none⟩ (.int .i64 (maxI (satF W K (o + 1))))) p { y with kids := (K.len : Int) } (maxI (satF W K (o + 1))) S false full ((HKA.out.past h).len (maxI (satF W K (o + 1)))) 
      rw [HFU.out] at this
      exact this)
    have HD := hidE hK
    clear i1 i2 i5 i6 hka hfull hi hgd hK hS hfl HKA HFU HLO HFL HR1 HT1 HJ0 HSEQ
    have d0 := HT.out.cell 0; have tz := HT.out.lt
    simp at d0
    rw [HKD.out] at d0
    go_upto_region 7 with fail
    refine wp_region_J 6 [] (nthR [detR (.agg kindsV), detR (.pointer (some ⟨p, 0, none⟩)), detR (.pointer (some ⟨p, 0, none⟩)), detR (.int .u8 4), detR (.agg #[.func (.func 75) #[] #[], .func (.func 76) #[] #[]]), newR Wd.heap.size #[.nilFunc, .nilFunc] 120]) (fun _ => false) (by kernel_rfl) (by simp) (by kernel_rfl) (stab_nth (by simp [stab_det, stab_new])) ?_ ?_ ?_
    · intro i o hi ho
      match i, hi with
      | 0, _ =>
        obtain rfl := Option.some.inj ho
        intro u x hd
        have hc := Past.cell x
        simp [go_sem, gives, frm, Act.put, nthR, detR, Region.wanted]
        exact kinds_c _
      | 1, _ =>
        obtain rfl := Option.some.inj ho
        intro u x hd
        have hc := Past.cell x
        simp [go_sem, gives, frm, Act.put, nthR, detR, Region.wanted, Below.refl]
      | 2, _ =>
        obtain rfl := Option.some.inj ho
        intro u x hd
        have hc := Past.cell x
        have d1 := hd 1 (by decide) (by kernel_rfl)
        simp only [nthR, detR, List.getD_cons_zero, List.getD_cons_succ] at d1
        simp [go_sem, gives, frm, Act.put, nthR, detR, Region.wanted, Below.refl, d1]
      | 3, _ =>
        obtain rfl := Option.some.inj ho
        intro u x hd
        have hc := Past.cell x
        have d2 := hd 2 (by decide) (by kernel_rfl)
        simp only [nthR, detR, List.getD_cons_zero, List.getD_cons_succ] at d2
        simp [go_sem, gives, frm, Act.put, nthR, detR, Region.wanted, Below.refl, hc, d2, d0, tz]
      | 4, _ =>
        obtain rfl := Option.some.inj ho
        intro u x hd
        have hc := Past.cell x
        have d0 := hd 0 (by decide) (by kernel_rfl)
        have d3 := hd 3 (by decide) (by kernel_rfl)
        simp only [nthR, detR, List.getD_cons_zero, List.getD_cons_succ] at d0 d3
        simp [go_sem, gives, frm, Act.put, nthR, detR, Region.wanted, Below.refl, d0, d3, i0]
      | 5, _ =>
        obtain rfl := Option.some.inj ho
        intro u x hd
        have hc := Past.cell x
        simp [go_sem, gives, nthR, Region.wanted]
        exact ⟨by (repeat (first | exact Below.refl _ _ | assumption | refine balloc ?_ _ | refine below_drewN ?_ _ | refine bstep (by assumption) ?_ | refine bstep (Past.prop _) ?_ | refine Below.setCell ?_ (by first | exact Nat.le_refl _ | (simp; done) | (simp; omega)) _)), ⟨_, rfl, by simpa using x.2.size, Blk.made _ _ _⟩⟩
      | i + 6, h => exact absurd h (by omega)
    · intro i o h; cases h
    · intro u x9 hu hne
      have e4 : u 4 = .agg #[.func (.func 75) #[] #[], .func (.func 76) #[] #[]] := hu 4 (by decide)
      obtain ⟨kb, e5, hkz, hkB⟩ : newR Wd.heap.size #[.nilFunc, .nilFunc] 120 (u 5) x9.1 := hu 5 (by decide)
      simp only [frm, List.take, Act.put, e4, e5]
      have HX9 := hidE x9.2; have HKB := hidE hkB
      have g0 := hkB.cell 0; have g1 := hkB.cell 1; have gf0 := hkB.free 0; have gf1 := hkB.free 1; have gz := hkB.lt
      simp at g0 g1
      clear hu hne e4 e5 hkB d0 i0
      generalize x9.1 = w9 at *
      go_upto_region 8 with fail
      obtain ⟨w6, hw6⟩ : ∃ w6, w6 = (w9.setCell ⟨kb, 0, none⟩ (.func (.func 75) #[] #[])).setCell ⟨kb, 1, none⟩ (.func (.func 76) #[] #[]) := ⟨_, rfl⟩
      rw [← hw6]
      have hk6 : Blk w6 kb #[.func (.func 75) #[] #[], .func (.func 76) #[] #[]] 120 := by rw [hw6]; simpa using (HKB.out.set 0 (.func (.func 75) #[] #[])).set 1 (.func (.func 76) #[] #[])
      have hb6 : Below Wd.heap.size Wd w6 := by rw [hw6]; exact (HX9.out.setCell (p := ⟨kb, 0, none⟩) hkz _).setCell (p := ⟨kb, 1, none⟩) hkz _
      have HB6 := hidE hb6; have HK6 := hidE hk6
      have g0 := hk6.cell 0; have g1 := hk6.cell 1; have gz := hk6.lt
      simp at g0 g1
      clear hw6 HKB gf0 gf1 HX9 hb6 hk6
      go_wp2_with fail
      ((with_reducible refine (HL.out w6 HB6.out).mono ?_); rintro e w7 ⟨rfl, hb7⟩)
      have hb27 : Below Wd.heap.size Wd w7 := HB6.out.trans (hb7.mono HB6.out.size)
      have hT7 := HT.out.past hb27; have hk7 := HK6.out.past hb7
      have HB7 := hidE hb27; have HK7 := hidE hk7
      have g0 := hk7.cell 0; have g1 := hk7.cell 1; have gz := hk7.lt; have c6 := hT7.cell 6; have f6 := hT7.free 6; have tz7 := hT7.lt
      simp at g0 g1 c6
      have hkp : ¬ kb = p := by omega
      have hpk : ¬ p = kb := by omega
      clear hb7 hb27 hT7 hk7 HK6 HB6 HL
      go_wp2_with fail
      ((with_reducible refine (HQ.out w7 HB7.out).mono ?_); rintro e w8 ⟨rfl, hb8⟩)
      have hT8 := (tiA_len (HT.out.past HB7.out) (maxI (satF W K (o + 1)))).past hb8
      have hR8 := ((HR.out.past HB7.out).other (by omega) (.int .i64 (maxI (satF W K (o + 1))))).past hb8
      have HB8 := hidE (show Below w.heap.size w w8 from (HB.out.trans (HB7.out.mono HB.out.size)).setCell (p := ⟨p, 6, none⟩) (by show w.heap.size ≤ p; omega) (.int .i64 (maxI (satF W K (o + 1)))) |>.trans (hb8.mono (by have := HB.out.size; have := HB7.out.size; simp [World.setCell]; omega)))
      have HT8 := hidE hT8; have HR8 := hidE hR8; have HW8 := hidE hb8
      have hrp' : ¬ rb = p := by omega
      have hpr' : ¬ p = rb := by omega
      have q0 := hT8.cell 0; have q1 := hT8.cell 1; have q2 := hT8.cell 2; have q3 := hT8.cell 3; have q4 := hT8.cell 4; have q5 := hT8.cell 5; have q6 := hT8.cell 6; have q7 := hT8.cell 7; have q8 := hT8.cell 8; have q9 := hT8.cell 9; have q10 := hT8.cell 10; have qf := hT8.free 10; have qz := hT8.lt
      have r0 := hR8.cell 0; have r1 := hR8.cell 1; have r2 := hR8.cell 2; have r3 := hR8.cell 3; have r4 := hR8.cell 4; have r5 := hR8.cell 5; have r6 := hR8.cell 6; have r7 := hR8.cell 7; have r8 := hR8.cell 8; have r9 := hR8.cell 9; have r10 := hR8.cell 10; have rz := hR8.lt
      have s0 := hR8.free 0; have s1 := hR8.free 1; have s2 := hR8.free 2; have s3 := hR8.free 3; have s4 := hR8.free 4; have s5 := hR8.free 5; have s6 := hR8.free 6; have s7 := hR8.free 7; have s8 := hR8.free 8; have s9 := hR8.free 9; have s10 := hR8.free 10
      simp at q0 r0 q1 r1 q2 r2 q3 r3 q4 r4 q5 r5 q6 r6 q7 r7 q8 r8 q9 r9 q10 r10
      clear hb8 hT8 hR8 HQ g0 g1 gz c6 f6 tz7 tz HK7
      go_wp2
      have hfin : Blk (put11 (w8.setCell ⟨p, 10, none⟩ (.bool (allI (satF W K (o + 1))))) rb (⟨⟨{ y with kids := (K.len : Int) }, maxI (satF W K (o + 1)), S, allI (satF W K (o + 1))⟩, (some ⟨gq, 0, none⟩), full.length, cp⟩ : TV)) rb (⟨⟨{ y with kids := (K.len : Int) }, maxI (satF W K (o + 1)), S, allI (satF W K (o + 1))⟩, (some ⟨gq, 0, none⟩), full.length, cp⟩ : TV).arr 69 := put11_blk (HR8.out.other (by omega) _) (⟨⟨{ y with kids := (K.len : Int) }, maxI (satF W K (o + 1)), S, allI (satF W K (o + 1))⟩, (some ⟨gq, 0, none⟩), full.length, cp⟩ : TV)
      have HBF := hidE (show Below w.heap.size w (put11 (w8.setCell ⟨p, 10, none⟩ (.bool (allI (satF W K (o + 1))))) rb (⟨⟨{ y with kids := (K.len : Int) }, maxI (satF W K (o + 1)), S, allI (satF W K (o + 1))⟩, (some ⟨gq, 0, none⟩), full.length, cp⟩ : TV)) from Below.grown (HB8.out.setCell (p := ⟨p, 10, none⟩) (by show w.heap.size ≤ p; omega) _) (put11_grown _ _ _) (by have := HB8.out.size; simpa [World.setCell] using this) (fun k e => by cases e; omega))
      have HGF := hidE (put11_grown (w8.setCell ⟨p, 10, none⟩ (.bool (allI (satF W K (o + 1))))) rb (⟨⟨{ y with kids := (K.len : Int) }, maxI (satF W K (o + 1)), S, allI (satF W K (o + 1))⟩, (some ⟨gq, 0, none⟩), full.length, cp⟩ : TV))
      have x0 := hfin.cell 0; have x1 := hfin.cell 1; have x2 := hfin.cell 2; have x3 := hfin.cell 3; have x4 := hfin.cell 4; have x5 := hfin.cell 5; have x6 := hfin.cell 6; have x7 := hfin.cell 7; have x8 := hfin.cell 8; have x9 := hfin.cell 9; have x10 := hfin.cell 10
      simp at x0 x1 x2 x3 x4 x5 x6 x7 x8 x9 x10
      have z7 := HB7.out.size
      have z8 := HW8.out.size
      simp [World.setCell] at z8
      have HKF := hidE (show (put11 (w8.setCell ⟨p, 10, none⟩ (.bool (allI (satF W K (o + 1))))) rb (⟨⟨{ y with kids := (K.len : Int) }, maxI (satF W K (o + 1)), S, allI (satF W K (o + 1))⟩, (some ⟨gq, 0, none⟩), full.length, cp⟩ : TV)).heap[w3.heap.size]? = some (.deferred (some [])) from by
        rw [HGF.out.block w3.heap.size (by simp [World.setCell]; omega) (by simp; omega), keptS (by omega), HW8.out.block w3.heap.size (by simp [World.setCell]; omega), keptS (by omega), HB7.out.block w3.heap.size hDz]; exact HD.out)
      change bodyPostM _ _ _ _ _ _ _ (put11 (w8.setCell ⟨p, 10, none⟩ (.bool (allI (satF W K (o + 1))))) rb (⟨⟨{ y with kids := (K.len : Int) }, maxI (satF W K (o + 1)), S, allI (satF W K (o + 1))⟩, (some ⟨gq, 0, none⟩), full.length, cp⟩ : TV))
      clear HT8 HR8 HW8 HB8 q0 r0 s0 q1 r1 s1 q2 r2 s2 q3 r3 s3 q4 r4 s4 q5 r5 s5 q6 r6 s6 q7 r7 s7 q8 r8 s8 q9 r9 s9 q10 r10 s10 qf qz rz
      generalize put11 (w8.setCell ⟨p, 10, none⟩ (.bool (allI (satF W K (o + 1))))) rb (⟨⟨{ y with kids := (K.len : Int) }, maxI (satF W K (o + 1)), S, allI (satF W K (o + 1))⟩, (some ⟨gq, 0, none⟩), full.length, cp⟩ : TV) = wf at *
      have hfin2 : Blk (wf.putObj w3.heap.size (.deferred none)) rb (⟨⟨{ y with kids := (K.len : Int) }, maxI (satF W K (o + 1)), S, allI (satF W K (o + 1))⟩, (some ⟨gq, 0, none⟩), full.length, cp⟩ : TV).arr 69 := (World.putObj_heap_other (by omega)).trans hfin
      clear hfin
      have x0 := hfin2.cell 0; have x1 := hfin2.cell 1; have x2 := hfin2.cell 2; have x3 := hfin2.cell 3; have x4 := hfin2.cell 4; have x5 := hfin2.cell 5; have x6 := hfin2.cell 6; have x7 := hfin2.cell 7; have x8 := hfin2.cell 8; have x9 := hfin2.cell 9; have x10 := hfin2.cell 10
      simp at x0 x1 x2 x3 x4 x5 x6 x7 x8 x9 x10
      clear hfin2
      refine ⟨by simp, .inl ⟨_, _, rfl, run_takeDeferred HKF.out, ?_⟩⟩
      refine ⟨.agg (⟨⟨{ y with kids := (K.len : Int) }, maxI (satF W K (o + 1)), S, allI (satF W K (o + 1))⟩, (some ⟨gq, 0, none⟩), full.length, cp⟩ : TV).arr, by simp [results, Try.results40, go_sem, x0, x1, x2, x3, x4, x5, x6, x7, x8, x9, x10], ?_⟩
      refine ⟨(⟨⟨{ y with kids := (K.len : Int) }, maxI (satF W K (o + 1)), S, allI (satF W K (o + 1))⟩, (some ⟨gq, 0, none⟩), full.length, cp⟩ : TV), ?_, rfl, HBF.out.trans (below_putObj _ _ _ (by omega))⟩
      unfold satI mkI lenI okI
      simp only [HKD.out, HSE.out]
      simp
  case stop =>
    rintro D pre W2 hD hpre h hK
    exact h.elim
end Go.Proofs.Ytlhokgcamcaonaa

namespace Go.Proofs.Ytlhokgcamcaonaa
open Go.ChangeShapes Go.WideShapes Go.ChangeAt Go.RowKit
attribute [local irreducible] Go.Calls

theorem term_c (l : List Prt) (W : List Pc) (pa wa : Option Addr) (cap wcap : Nat) (hl : l.length ≤ 64) (ht : (treeS l).2 = 0) (hWl : W.length ≤ 100000) (hPc : PcOk W) : ∀ (m : Nat) (y : Prt) (K : Fst) (o deep ink : Nat) (w : World), K.size < m → AtF l o (.cons y K .nil) → (Fst.cons y K .nil).fit deep ink → ArgP w pa l → ArgVs w wa W →
    Calls Try.prog 40 #[witV pa l.length cap wa W.length wcap, .int .i64 o] w (TmPost w (satI W y K o)) := by
  intro m
  induction m with
  | zero => intro y K o deep ink w h; omega
  | succ m ih =>
    intro y K o deep ink w hm hat hfit hA hW
    have IH : ∀ (x : Prt) (Kx : Fst) (oo deep ink : Nat) (w : World), Kx.size < K.size → AtF l oo (.cons x Kx .nil) → (Fst.cons x Kx .nil).fit deep ink → ArgP w pa l → ArgVs w wa W → Calls Try.prog 40 #[witV pa l.length cap wa W.length wcap, .int .i64 oo] w (TmPost w (satI W x Kx oo)) :=
      fun x Kx oo d i w' h h1 h2 h3 h4 => ih x Kx oo d i w' (by omega) h1 h2 h3 h4
    have hk := (badP_num hfit.1).1
    have hc : y.kind = 0 ∨ y.kind = 1 ∨ y.kind = 2 ∨ y.kind = 3 ∨ y.kind = 4 := by simp only at hk; omega
    rcases hc with c | c | c | c | c
    · exact term_0 l W pa wa cap wcap y K o deep ink w hl ht hat hfit hA hW hWl hPc c
    · exact term_1 l W pa wa cap wcap y K o deep ink w hl ht hat hfit hA hW hWl hPc c IH
    · exact term_2 l W pa wa cap wcap y K o deep ink w hl ht hat hfit hA hW hWl hPc c IH
    · exact term_3 l W pa wa cap wcap y K o deep ink w hl ht hat hfit hA hW hWl hPc c IH
    · exact term_4 l W pa wa cap wcap y K o deep ink w hl ht hat hfit hA hW hWl hPc c IH
end Go.Proofs.Ytlhokgcamcaonaa

namespace Go.Proofs.Ytlhokgcamcaonaa
open Go.ChangeShapes Go.WideShapes Go.ChangeAt Go.RowKit
attribute [local irreducible] Go.Calls

/-- Do pieces place atoms among the parts, one behind the other? -/
def pcsB (l : List Prt) : Int → List Pc → Bool
  | _, [] => true
  | last, p :: r => decide (last < p.1) && (decide (p.1 < (l.length : Int)) && (decide ((l.getD p.1.toNat pr0).kind = 0) && pcsB l p.1 r))
def isFarB (p : Pc) : Bool := decide (p.2 < -1099511627776) || decide (1099511627776 < p.2)
def farB (W : List Pc) : Bool := W.any isFarB
/-- Why a witness can't be looked at. -/
def wrongS (fr to' : Int) (l : List Prt) (fits : Bool) (W : List Pc) : Int := if (chkS fr to' l).2 ≠ 0 then 81 else if fits = false ∨ pcsB l (-1) W = false then 2 else if farB W = true then 10 else 0
set_option maxHeartbeats 2000000 in
set_option maxRecDepth 100000 in
theorem arePieces_c (l : List Prt) (W : List Pc) (a wa : Option Addr) (cap wcap : Nat) (w : World) (hl : l.length ≤ 9223372036854775807) (hWl : W.length ≤ 9223372036854775807) (hA : ArgP w a l) (hW : ArgVs w wa W) :
    Calls Try.prog 42 #[.slice a l.length cap, .slice wa W.length wcap] w fun e w' => e = .returned (.bool (pcsB l (-1) W)) ∧ Below w.heap.size w w' := by
  have HA := hidE hA; have HW := hidE hW
  clear hA hW
  go_enter Try.func42, Try.ntmps42
  go_wp2
  go_loopg [5, 10] W.length (fun gh v5 v10 wr => ∃ (k : Nat) (last : Int), v10 = .int .i64 k ∧ v5 = .int .i64 last ∧ k ≤ W.length ∧ W.length - k ≤ gh ∧ -1 ≤ last ∧ pcsB l (-1) W = pcsB l last (W.drop k) ∧ Below w.heap.size w wr)
  case atStart => exact ⟨0, -1, rfl, rfl, Nat.zero_le _, Nat.le_refl _, by omega, rfl, Below.refl _ _⟩
  case round =>
    obtain ⟨k, last, rfl, rfl, hk, hgh, hlast, hpc, hbw⟩ := hrel
    have HGH := hidE hgh; have HPC := hidE hpc; have HBW := hidE hbw
    clear hgh hpc
    by_cases hlt : k < W.length
    · have q1 : decide ((k : Int) < (W.length : Int)) = true := decide_eq_true (by omega)
      have q2 : decide (k < W.length) = true := decide_eq_true hlt
      obtain ⟨q, hq⟩ : ∃ q, W[k]? = some q := ⟨W[k], by rw [List.getElem?_eq_getElem hlt]⟩
      have hgd : W.getD k (0, 0) = q := by rw [List.getD_eq_getElem?_getD, hq]; rfl
      have hdr : W.drop k = q :: W.drop (k + 1) := by
        rw [List.drop_eq_getElem_cons hlt]; congr 1
        rw [List.getElem?_eq_getElem hlt] at hq; exact Option.some.inj hq
      obtain ⟨b, off, rfl, hbz, hc⟩ := HW.out (by omega)
      obtain ⟨m0, m1⟩ := hc k hlt
      rw [hgd] at m0 m1
      have k0 := (hbw.cell (p := ⟨b, off + k * 2, none⟩) hbz).trans m0
      have k1 := (hbw.cell (p := ⟨b, off + k * 2 + 1, none⟩) hbz).trans m1
      have bz := Nat.lt_of_lt_of_le hbz hbw.size
      rw [hdr] at HPC
      obtain ⟨z, z2⟩ := q
      simp only at k0 k1
      have HP2 := hidE (show pcsB l (-1) W = (decide (last < z) && (decide (z < (l.length : Int)) && (decide ((l.getD z.toNat pr0).kind = 0) && pcsB l z (W.drop (k + 1))))) from HPC.out)
      clear HPC hgd hdr hc m0 m1 hq hbw
      by_cases c1 : z ≤ last
      · have r1 : decide (z ≤ last) = true := decide_eq_true c1
        have HN := hidE (show pcsB l (-1) W = false by rw [HP2.out, decide_eq_false (show ¬ last < z by omega)]; rfl)
        clear c1
        go_wp2
        go_ret
        exact ⟨by rw [HN.out]; rfl, HBW.out.trans ((show Below wr.heap.size wr _ from by (repeat (first | exact Below.refl _ _ | assumption | refine balloc ?_ _ | refine below_drewN ?_ _ | refine bstep (by assumption) ?_ | refine bstep (Past.prop _) ?_ | refine Below.setCell ?_ (by first | exact Nat.le_refl _ | (simp; done) | (simp; omega)) _))).mono HBW.out.size)⟩
      · have r1 : decide (z ≤ last) = false := decide_eq_false c1
        have hz0 : 0 ≤ z := by omega
        by_cases c2 : (l.length : Int) ≤ z
        · have r2 : decide ((l.length : Int) ≤ z) = true := decide_eq_true c2
          have HN := hidE (show pcsB l (-1) W = false by rw [HP2.out, decide_eq_false (show ¬ z < (l.length : Int) by omega)]; simp)
          clear c1 c2
          go_wp2
          go_ret
          exact ⟨by rw [HN.out]; rfl, HBW.out.trans ((show Below wr.heap.size wr _ from by (repeat (first | exact Below.refl _ _ | assumption | refine balloc ?_ _ | refine below_drewN ?_ _ | refine bstep (by assumption) ?_ | refine bstep (Past.prop _) ?_ | refine Below.setCell ?_ (by first | exact Nat.le_refl _ | (simp; done) | (simp; omega)) _))).mono HBW.out.size)⟩
        · have r2 : decide ((l.length : Int) ≤ z) = false := decide_eq_false c2
          obtain ⟨j, rfl⟩ : ∃ j : Nat, z = (j : Int) := ⟨z.toNat, by omega⟩
          have hj : j < l.length := by omega
          have r3 : decide ((l.length : Int) ≤ (j : Int)) = false := r2
          have r4 : decide (l.length ≤ j) = false := decide_eq_false (by omega)
          have hjz : (j : Int) < (l.length : Int) := by omega
          obtain ⟨ba, offa, rfl, hba, hca⟩ := HA.out (by omega)
          have p0 := (HBW.out.cell (p := ⟨ba, _, none⟩) hba).trans (hca.get hj).1
          have az := Nat.lt_of_lt_of_le hba HBW.out.size
          rw [Int.toNat_natCast] at HP2
          by_cases c3 : (l.getD j pr0).kind = 0
          · rw [c3] at p0
            have HN := hidE (show pcsB l (-1) W = pcsB l (j : Int) (W.drop (k + 1)) by rw [HP2.out, decide_eq_true (show last < (j : Int) by omega), decide_eq_true hjz, decide_eq_true c3]; rfl)
            clear c1 c2 c3 r2 hca
            go_wp2
            go_roundg (W.length - (k + 1))
            case measure => have := HGH.out; omega
            case rel => exact ⟨k + 1, (j : Int), by go_num, rfl, by omega, Nat.le_refl _, by omega, HN.out, HBW.out.trans ((show Below wr.heap.size wr _ from by (repeat (first | exact Below.refl _ _ | assumption | refine balloc ?_ _ | refine below_drewN ?_ _ | refine bstep (by assumption) ?_ | refine bstep (Past.prop _) ?_ | refine Below.setCell ?_ (by first | exact Nat.le_refl _ | (simp; done) | (simp; omega)) _))).mono HBW.out.size)⟩
          · obtain ⟨kd, hkd⟩ : ∃ kd, (l.getD j pr0).kind = kd := ⟨_, rfl⟩
            rw [hkd] at p0
            have r5 : ((kd : Int) != 0) = true := by simp; omega
            have r6 : (kd != 0) = true := by simp; omega
            have HN := hidE (show pcsB l (-1) W = false by rw [HP2.out, decide_eq_false c3]; simp)
            clear c1 c2 c3 r2 hca hkd
            go_wp2
            go_ret
            exact ⟨by rw [HN.out]; rfl, HBW.out.trans ((show Below wr.heap.size wr _ from by (repeat (first | exact Below.refl _ _ | assumption | refine balloc ?_ _ | refine below_drewN ?_ _ | refine bstep (by assumption) ?_ | refine bstep (Past.prop _) ?_ | refine Below.setCell ?_ (by first | exact Nat.le_refl _ | (simp; done) | (simp; omega)) _))).mono HBW.out.size)⟩
    · obtain rfl : k = W.length := by omega
      have q1 : decide ((W.length : Int) < (W.length : Int)) = false := decide_eq_false (by omega)
      have q2 : decide (W.length < W.length) = false := decide_eq_false (by omega)
      have HN := hidE (show pcsB l (-1) W = true by have := HPC.out; rw [List.drop_length] at this; exact this)
      clear hbw
      go_wp2
      go_ret
      exact ⟨by rw [HN.out]; rfl, HBW.out⟩
set_option maxRecDepth 100000 in
theorem isFar_c (p : Pc) (w : World) : Calls Try.prog 44 #[.agg #[.int .i64 p.1, .int .i64 p.2]] w fun e w' => e = .returned (.bool (isFarB p)) ∧ Below w.heap.size w w' := by
  obtain ⟨z, z2⟩ := p
  by_cases c1 : z2 < -1099511627776
  · have r1 : decide (z2 < -1099511627776) = true := decide_eq_true c1
    have HN := hidE (show isFarB (z, z2) = true by unfold isFarB; rw [r1]; rfl)
    clear c1
    go_enter Try.func44, Try.ntmps44
    go_wp2
    go_ret
    exact ⟨by rw [HN.out]; rfl, by (repeat (first | exact Below.refl _ _ | assumption | refine balloc ?_ _ | refine below_drewN ?_ _ | refine bstep (by assumption) ?_ | refine bstep (Past.prop _) ?_ | refine Below.setCell ?_ (by first | exact Nat.le_refl _ | (simp; done) | (simp; omega)) _))⟩
  · have r1 : decide (z2 < -1099511627776) = false := decide_eq_false c1
    by_cases c2 : 1099511627776 < z2
    · have r2 : decide (1099511627776 < z2) = true := decide_eq_true c2
      have HN := hidE (show isFarB (z, z2) = true by unfold isFarB; simp only; rw [r1, r2]; rfl)
      clear c1 c2
      go_enter Try.func44, Try.ntmps44
      go_wp2
      go_ret
      exact ⟨by rw [HN.out]; rfl, by (repeat (first | exact Below.refl _ _ | assumption | refine balloc ?_ _ | refine below_drewN ?_ _ | refine bstep (by assumption) ?_ | refine bstep (Past.prop _) ?_ | refine Below.setCell ?_ (by first | exact Nat.le_refl _ | (simp; done) | (simp; omega)) _))⟩
    · have r2 : decide (1099511627776 < z2) = false := decide_eq_false c2
      have HN := hidE (show isFarB (z, z2) = false by unfold isFarB; simp only; rw [r1, r2]; rfl)
      clear c1 c2
      go_enter Try.func44, Try.ntmps44
      go_wp2
      go_ret
      exact ⟨by rw [HN.out]; rfl, by (repeat (first | exact Below.refl _ _ | assumption | refine balloc ?_ _ | refine below_drewN ?_ _ | refine bstep (by assumption) ?_ | refine bstep (Past.prop _) ?_ | refine Below.setCell ?_ (by first | exact Nat.le_refl _ | (simp; done) | (simp; omega)) _))⟩
/-- Where the first far piece stands. -/
def farAt (W : List Pc) : Int := match W.findIdx? isFarB with
  | some i => i
  | none => -1
theorem farAt_iff (W : List Pc) : decide (0 ≤ farAt W) = farB W := by
  unfold farAt farB
  cases h : W.findIdx? isFarB with
  | none =>
    rw [List.findIdx?_eq_none_iff] at h
    simp only
    rw [show decide ((0 : Int) ≤ -1) = false from rfl]
    symm
    rw [List.any_eq_false]
    intro x hx
    simpa using h x hx
  | some i =>
    simp only
    rw [decide_eq_true (by omega)]
    symm
    rw [List.findIdx?_eq_some_iff_getElem] at h
    obtain ⟨hi, h1, _⟩ := h
    exact List.any_eq_true.2 ⟨_, List.getElem_mem hi, h1⟩
set_option maxHeartbeats 2000000 in
set_option maxRecDepth 100000 in
theorem indexFar_c (W : List Pc) (wa : Option Addr) (wcap : Nat) (w : World) (hWl : W.length ≤ 9223372036854775807) (hW : ArgVs w wa W) :
    Calls Try.prog 58 #[.slice wa W.length wcap, .func (.func 44) #[] #[]] w fun e w' => e = .returned (.int .i64 (farAt W)) ∧ Below w.heap.size w w' := by
  have HW := hidE hW
  clear hW
  go_enter Try.func58, Try.ntmps58
  go_wp2
  go_loopg [8] W.length (fun gh v8 wr => ∃ k : Nat, v8 = .int .i64 k ∧ k ≤ W.length ∧ W.length - k ≤ gh ∧ (∀ i, i < k → isFarB (W.getD i (0, 0)) = false) ∧ Below w.heap.size w wr)
  case atStart => exact ⟨0, rfl, Nat.zero_le _, Nat.le_refl _, fun i hi => by omega, Below.refl _ _⟩
  case round =>
    obtain ⟨k, rfl, hk, hgh, hno, hbw⟩ := hrel
    have HGH := hidE hgh; have HNO := hidE hno; have HBW := hidE hbw
    clear hgh hno
    by_cases hlt : k < W.length
    · have q1 : decide ((k : Int) < (W.length : Int)) = true := decide_eq_true (by omega)
      have q2 : decide (k < W.length) = true := decide_eq_true hlt
      obtain ⟨b, off, rfl, hbz, hc⟩ := HW.out (by omega)
      obtain ⟨m0, m1⟩ := hc k hlt
      have hgk : W.getD k (0, 0) = W[k] := by rw [List.getD_eq_getElem?_getD, List.getElem?_eq_getElem hlt]; rfl
      obtain ⟨q, hq⟩ : ∃ q, W.getD k (0, 0) = q := ⟨_, rfl⟩
      rw [hq] at m0 m1 hgk
      have k0 := (hbw.cell (p := ⟨b, off + k * 2, none⟩) hbz).trans m0
      have k1 := (hbw.cell (p := ⟨b, off + k * 2 + 1, none⟩) hbz).trans m1
      have bz := Nat.lt_of_lt_of_le hbz hbw.size
      have HQ := hidE hq; have HGK := hidE hgk
      have HF := hidE (fun w => isFar_c q w)
      clear hc m0 m1 hbw hq hgk
      cases hf : isFarB q with
      | true =>
        rw [hf] at HF
        have HN := hidE (show farAt W = (k : Int) by
          unfold farAt
          rw [List.findIdx?_eq_some_iff_getElem.2 ⟨hlt, by rw [← HGK.out]; exact hf, fun j hj => by
            have := HNO.out j hj
            rw [List.getD_eq_getElem?_getD, List.getElem?_eq_getElem (by omega)] at this
            simpa using this⟩])
        clear hf
        go_wp2_with (go_at_call 44; ((with_reducible refine (HF.out _).mono ?_); rintro e w1 ⟨rfl, hb1⟩))
        go_ret
        exact ⟨by rw [HN.out]; rfl, HBW.out.trans (hb1.mono HBW.out.size)⟩
      | false =>
        rw [hf] at HF
        have HN := hidE (show ∀ i, i < k + 1 → isFarB (W.getD i (0, 0)) = false from fun i hi => by
          by_cases e : i = k
          · rw [e, HQ.out]; exact hf
          · exact HNO.out i (by omega))
        clear hf
        go_wp2_with (go_at_call 44; ((with_reducible refine (HF.out _).mono ?_); rintro e w1 ⟨rfl, hb1⟩))
        go_roundg (W.length - (k + 1))
        case measure => have := HGH.out; omega
        case rel => exact ⟨k + 1, by go_num, by omega, Nat.le_refl _, HN.out, HBW.out.trans (hb1.mono HBW.out.size)⟩
    · obtain rfl : k = W.length := by omega
      have q1 : decide ((W.length : Int) < (W.length : Int)) = false := decide_eq_false (by omega)
      have q2 : decide (W.length < W.length) = false := decide_eq_false (by omega)
      have HN := hidE (show farAt W = -1 by
        unfold farAt
        rw [List.findIdx?_eq_none_iff.2 fun x hx => by
          obtain ⟨i, hi, rfl⟩ := List.mem_iff_getElem.1 hx
          have := HNO.out i hi
          rwa [List.getD_eq_getElem?_getD, List.getElem?_eq_getElem hi] at this])
      clear hbw
      go_wp2
      go_ret
      exact ⟨by rw [HN.out]; rfl, HBW.out⟩
theorem containsFar_c (W : List Pc) (wa : Option Addr) (wcap : Nat) (w : World) (hWl : W.length ≤ 9223372036854775807) (hW : ArgVs w wa W) :
    Calls Try.prog 43 #[.slice wa W.length wcap, .func (.func 44) #[] #[]] w fun e w' => e = .returned (.bool (farB W)) ∧ Below w.heap.size w w' := by
  have HC := hidE (indexFar_c W wa wcap w hWl hW)
  have HN := hidE (farAt_iff W)
  clear hW
  generalize farAt W = z at *
  go_enter Try.func43, Try.ntmps43
  go_wp2_with (go_at_call 58; ((with_reducible refine HC.out.mono ?_); rintro e w1 ⟨rfl, hb1⟩))
  go_ret
  exact ⟨by rw [← HN.out]; rfl, hb1⟩
set_option maxHeartbeats 2000000 in
set_option maxRecDepth 100000 in
theorem wrong_c (fr to' : Int) (l : List Prt) (W : List Pc) (a wa : Option Addr) (cap wcap : Nat) (fits : Bool) (w : World) (hl : l.length ≤ 9223372036854775807) (hWl : W.length ≤ 9223372036854775807) (hA : ArgP w a l) (hW : ArgVs w wa W) (hf : -9223372036854775808 ≤ fr ∧ fr ≤ 9223372036854775807) (ht : -9223372036854775808 ≤ to' ∧ to' ≤ 9223372036854775807) :
    Calls Try.prog 25 #[def8 fr to' a l.length cap, .slice wa W.length wcap, .bool fits] w fun e w' => e = .returned (.int .i64 (wrongS fr to' l fits W)) ∧ Below w.heap.size w w' := by
  have HCH := hidE (fun (w' : World) (h : Below w.heap.size w w') => shchk_c fr to' l a cap w' hl (hA.past h) hf ht)
  have HAR := hidE (fun (w' : World) (h : Below w.heap.size w w') => arePieces_c l W a wa cap wcap w' hl hWl (hA.past h) (hW.past h))
  have HFA := hidE (fun (w' : World) (h : Below w.heap.size w w') => containsFar_c W wa wcap w' hWl (hW.past h))
  have HS := hidE (show wrongS fr to' l fits W = if (chkS fr to' l).2 ≠ 0 then 81 else if fits = false ∨ pcsB l (-1) W = false then 2 else if farB W = true then 10 else 0 from rfl)
  clear hA hW
  generalize pcsB l (-1) W = pb at *
  generalize farB W = fb at *
  obtain ⟨c, hc⟩ : ∃ c, chkS fr to' l = c := ⟨_, rfl⟩
  obtain ⟨c1, c2⟩ := c
  rw [hc] at HCH HS
  clear hc
  by_cases h0 : c2 = 0
  · subst h0
    cases fits with
    | false =>
      have HN := hidE (show wrongS fr to' l false W = 2 by rw [HS.out]; rfl)
      go_enter Try.func25, Try.ntmps25
      go_wp2_with (go_at_call 41; ((with_reducible refine (HCH.out _ (by (repeat (first | exact Below.refl _ _ | assumption | refine balloc ?_ _ | refine below_drewN ?_ _ | refine bstep (by assumption) ?_ | refine bstep (Past.prop _) ?_ | refine Below.setCell ?_ (by first | exact Nat.le_refl _ | (simp; done) | (simp; omega)) _)))).mono ?_); rintro e w1 ⟨rfl, hb1⟩))
      go_ret
      exact ⟨by rw [HN.out]; rfl, by (repeat (first | exact Below.refl _ _ | assumption | refine balloc ?_ _ | refine below_drewN ?_ _ | refine bstep (by assumption) ?_ | refine bstep (Past.prop _) ?_ | refine Below.setCell ?_ (by first | exact Nat.le_refl _ | (simp; done) | (simp; omega)) _))⟩
    | true =>
      cases pb with
      | false =>
        have HN := hidE (show wrongS fr to' l true W = 2 by rw [HS.out]; rfl)
        go_enter Try.func25, Try.ntmps25
        go_wp2_with fail
        ((with_reducible refine (HCH.out _ (by (repeat (first | exact Below.refl _ _ | assumption | refine balloc ?_ _ | refine below_drewN ?_ _ | refine bstep (by assumption) ?_ | refine bstep (Past.prop _) ?_ | refine Below.setCell ?_ (by first | exact Nat.le_refl _ | (simp; done) | (simp; omega)) _)))).mono ?_); rintro e w1 ⟨rfl, hb1⟩)
        have hb := (show Below w.heap.size w (w.alloc (.cells #[.int .i64 fr, .int .i64 to', .slice a l.length cap] 24)) from by (repeat (first | exact Below.refl _ _ | assumption | refine balloc ?_ _ | refine below_drewN ?_ _ | refine bstep (by assumption) ?_ | refine bstep (Past.prop _) ?_ | refine Below.setCell ?_ (by first | exact Nat.le_refl _ | (simp; done) | (simp; omega)) _))).trans (hb1.mono (by simp))
        have hd := (Blk.made w #[.int .i64 fr, .int .i64 to', .slice a l.length cap] 24).past hb1
        have e2 := hd.cell 2; have z := hd.lt
        simp at e2
        have HB := hidE hb
        clear hb1 hb hd
        go_wp2_with fail
        ((with_reducible refine (HAR.out _ HB.out).mono ?_); rintro e w2 ⟨rfl, hb2⟩)
        go_wp2
        go_ret
        exact ⟨by rw [HN.out]; rfl, HB.out.trans (hb2.mono HB.out.size)⟩
      | true =>
        go_enter Try.func25, Try.ntmps25
        go_wp2_with fail
        ((with_reducible refine (HCH.out _ (by (repeat (first | exact Below.refl _ _ | assumption | refine balloc ?_ _ | refine below_drewN ?_ _ | refine bstep (by assumption) ?_ | refine bstep (Past.prop _) ?_ | refine Below.setCell ?_ (by first | exact Nat.le_refl _ | (simp; done) | (simp; omega)) _)))).mono ?_); rintro e w1 ⟨rfl, hb1⟩)
        have hb := (show Below w.heap.size w (w.alloc (.cells #[.int .i64 fr, .int .i64 to', .slice a l.length cap] 24)) from by (repeat (first | exact Below.refl _ _ | assumption | refine balloc ?_ _ | refine below_drewN ?_ _ | refine bstep (by assumption) ?_ | refine bstep (Past.prop _) ?_ | refine Below.setCell ?_ (by first | exact Nat.le_refl _ | (simp; done) | (simp; omega)) _))).trans (hb1.mono (by simp))
        have hd := (Blk.made w #[.int .i64 fr, .int .i64 to', .slice a l.length cap] 24).past hb1
        have e2 := hd.cell 2; have z := hd.lt
        simp at e2
        have HB := hidE hb
        clear hb1 hb hd
        go_wp2_with fail
        ((with_reducible refine (HAR.out _ HB.out).mono ?_); rintro e w2 ⟨rfl, hb2⟩)
        have HB2 := hidE (HB.out.trans (hb2.mono HB.out.size))
        clear hb2 e2 z
        go_wp2_with fail
        ((with_reducible refine (HFA.out _ HB2.out).mono ?_); rintro e w3 ⟨rfl, hb3⟩)
        have HB3 := hidE (HB2.out.trans (hb3.mono HB2.out.size))
        clear hb3
        cases fb with
        | true =>
          have HN := hidE (show wrongS fr to' l true W = 10 by rw [HS.out]; rfl)
          go_wp2
          go_ret
          exact ⟨by rw [HN.out]; rfl, HB3.out⟩
        | false =>
          have HN := hidE (show wrongS fr to' l true W = 0 by rw [HS.out]; rfl)
          go_wp2
          go_ret
          exact ⟨by rw [HN.out]; rfl, HB3.out⟩
  · have r1 : (c2 != 0) = true := bne_iff_ne.2 h0
    have HN := hidE (show wrongS fr to' l fits W = 81 by rw [HS.out]; exact if_pos h0)
    clear h0
    go_enter Try.func25, Try.ntmps25
    go_wp2_with (go_at_call 41; ((with_reducible refine (HCH.out _ (by (repeat (first | exact Below.refl _ _ | assumption | refine balloc ?_ _ | refine below_drewN ?_ _ | refine bstep (by assumption) ?_ | refine bstep (Past.prop _) ?_ | refine Below.setCell ?_ (by first | exact Nat.le_refl _ | (simp; done) | (simp; omega)) _)))).mono ?_); rintro e w1 ⟨rfl, hb1⟩))
    go_ret
    exact ⟨by rw [HN.out]; rfl, by (repeat (first | exact Below.refl _ _ | assumption | refine balloc ?_ _ | refine below_drewN ?_ _ | refine bstep (by assumption) ?_ | refine bstep (Past.prop _) ?_ | refine Below.setCell ?_ (by first | exact Nat.le_refl _ | (simp; done) | (simp; omega)) _))⟩
end Go.Proofs.Ytlhokgcamcaonaa

namespace Go.Proofs.Ytlhokgcamcaonaa
open Go.ChangeShapes Go.WideShapes Go.ChangeAt Go.RowKit
attribute [local irreducible] Go.Calls

set_option maxRecDepth 100000 in
set_option maxHeartbeats 4000000 in
theorem rreadL_c (l : List Prt) (a : Option Addr) (cap : Nat) (hl : l.length ≤ 9223372036854775807) : ∀ (m p deep ink : Nat) (w : World), l.length + 1 - p ≤ m → ArgP w a l → deep ≤ 1000000000 → p ≤ 1000000000 →
    Calls Try.prog 49 #[.slice a l.length cap, .int .i64 p, .int .i64 deep, .int .u8 ink] w fun e w' => e = .returned (I3 (rdT (rdS (l.length + 1) l p deep ink 1))) ∧ Below w.heap.size w w' := by
  intro m
  induction m with
  | zero =>
    intro p deep ink w hm hA hd hp
    have HE := hidE (rd_stop (stop_out (deep := deep) (ink := ink) (show l.length ≤ p by omega)))
    rw [HE.out]
    have q1 : decide ((p : Int) ≥ (l.length : Int)) = true := decide_eq_true (by omega)
    have q2 : decide (l.length ≤ p) = true := decide_eq_true (by omega)
    clear HE
    go_enter Try.func49, Try.ntmps49
    go_wp2
    refine bodyPost_ret (v := .tuple #[.int .i64 0, .int .i64 p, .int .i64 81]) (by simp [results, Try.results49, go_sem]) rfl ⟨rfl, Below.refl _ _⟩
  | succ m ih =>
    intro p deep ink w hm hA hd hp
    by_cases hlt : p < l.length
    · obtain ⟨b, off, rfl, hbb, hc⟩ := hA (by omega)
      obtain ⟨c0, c1, c2, c3, c4⟩ := hc.get hlt
      have q1 : decide ((p : Int) ≥ (l.length : Int)) = false := decide_eq_false (by omega)
      have q2 : decide (l.length ≤ p) = false := decide_eq_false (by omega)
      have HBAD := hidE (fun w => rbad_c (l.getD p ⟨0, 0, 0, 0, 0⟩) w)
      have HC := hidE hc
      have hHd := hd
      have HPR := hidE (show l.getD p pr0 = l.getD p ⟨0, 0, 0, 0, 0⟩ from rfl)
      rw [HPR.out] at c0 c1 c2 c3 c4
      by_cases h64 : 64 ≤ p
      · have HE := hidE (rd_stop (stop_shape (deep := deep) (ink := ink) hlt (.inl h64)))
        rw [HE.out]
        have q3 : decide ((p : Int) ≥ 64) = true := decide_eq_true (by omega)
        have q4 : decide (64 ≤ p) = true := decide_eq_true h64
        clear HE hc c0 c1 c2 c3 c4 ih
        go_enter Try.func49, Try.ntmps49
        go_wp2
        refine bodyPost_ret (v := .tuple #[.int .i64 0, .int .i64 p, .int .i64 81]) (by simp [results, Try.results49, go_sem]) rfl ⟨rfl, Below.refl _ _⟩
      · have q3 : decide ((p : Int) ≥ 64) = false := decide_eq_false (by omega)
        have q4 : decide (64 ≤ p) = false := decide_eq_false h64
        cases hbad : badP (l.getD p ⟨0, 0, 0, 0, 0⟩)
        · rw [hbad] at HBAD
          by_cases hin : ink = 2 ∧ (l.getD p ⟨0, 0, 0, 0, 0⟩).kind ≠ 0
          · have HE := hidE (rd_stop (stop_shape (deep := deep) (ink := ink) hlt (.inr (.inr hin))))
            rw [HE.out]
            have i1 : ((ink : Int) == 2) = true := by simp [hin.1]
            have i2 : (((l.getD p ⟨0, 0, 0, 0, 0⟩).kind : Int) != 0) = true := bne_iff_ne.2 (by have := hin.2; omega)
            clear HE hc ih hbad HPR hin
            generalize (l.getD p ⟨0, 0, 0, 0, 0⟩) = x at *
            obtain ⟨kd, n, g, d, ks⟩ := x
            simp only at c0 c1 c2 c3 c4 i2
            go_enter Try.func49, Try.ntmps49
            go_wp2_with (go_at_call 64; (with_reducible refine (HBAD.out _).mono ?_); rintro e w1 ⟨rfl, hb1⟩; have c5 := (hb1.cell (p := ⟨b, off + p * 5, none⟩) hbb).trans c0)
            refine bodyPost_ret (v := .tuple #[.int .i64 0, .int .i64 p, .int .i64 81]) (by simp [results, Try.results49, go_sem]) rfl ⟨rfl, hb1⟩
          · have hst := stop_deep (deep := deep) (ink := ink) hlt (fun h => by
              rcases h with h | h | h
              · exact h64 h
              · rw [hbad] at h; cases h
              · exact hin h)
            have hin2 : ((ink : Int) == 2) = false ∨ (((ink : Int) == 2) = true ∧ (((l.getD p ⟨0, 0, 0, 0, 0⟩).kind : Int) != 0) = false) := by
              by_cases c : ink = 2
              · refine .inr ⟨by simp [c], ?_⟩
                have : (l.getD p ⟨0, 0, 0, 0, 0⟩).kind = 0 := by
                  by_cases c2 : (l.getD p ⟨0, 0, 0, 0, 0⟩).kind = 0
                  · exact c2
                  · exact absurd ⟨c, c2⟩ hin
                rw [this]; rfl
              · exact .inl (by simp; omega)
            by_cases h8 : 8 < deep
            · rw [if_pos h8] at hst
              have HE := hidE (rd_stop hst)
              rw [HE.out]
              have d1 : decide ((deep : Int) > 8) = true := decide_eq_true (by omega)
              have d2 : decide (8 < deep) = true := decide_eq_true h8
              clear HE hc ih hbad HPR hin hst
              generalize (l.getD p ⟨0, 0, 0, 0, 0⟩) = x at *
              obtain ⟨kd, n, g, d, ks⟩ := x
              simp only at c0 c1 c2 c3 c4 hin2
              rcases hin2 with i1 | ⟨i1, i2⟩
              all_goals
                go_enter Try.func49, Try.ntmps49
                go_wp2_with (go_at_call 64; (with_reducible refine (HBAD.out _).mono ?_); rintro e w1 ⟨rfl, hb1⟩; have c5 := (hb1.cell (p := ⟨b, off + p * 5, none⟩) hbb).trans c0)
                refine bodyPost_ret (v := .tuple #[.int .i64 0, .int .i64 p, .int .i64 80]) (by simp [results, Try.results49, go_sem]) rfl ⟨rfl, hb1⟩
            · rw [if_neg h8] at hst
              have HOP := hidE (rd_open hst)
              have hks := bad_kids hbad
              have d1 : decide ((deep : Int) > 8) = false := decide_eq_false (by omega)
              have d2 : decide (8 < deep) = false := decide_eq_false h8
              have w1 : IntKind.i64.wrap ((p : Int) + 1) = (p : Int) + 1 := IntWalk.i64_in _ (by omega)
              have w2 : IntKind.i64.wrap ((deep : Int) + 1) = (deep : Int) + 1 := IntWalk.i64_in _ (by omega)
              clear hbad HPR hin hst hA
              generalize (l.getD p ⟨0, 0, 0, 0, 0⟩) = x at *
              obtain ⟨kd, n, g, d, ks⟩ := x
              simp only at c0 c1 c2 c3 c4 hin2 hks HOP
              obtain ⟨K, rfl⟩ : ∃ K : Nat, ks = (K : Int) := ⟨ks.toNat, by omega⟩
              rw [Int.toNat_natCast] at HOP
              have HA := hidE (show ArgP w (some ⟨b, off, none⟩) l from fun _ => ⟨b, off, rfl, hbb, HC.out⟩)
              have HI := hidE ih
              have HM := hidE (And.intro hm hHd)
              clear ih hc hm hHd hd
              rcases hin2 with i1 | ⟨i1, i2⟩
              all_goals
                go_enter Try.func49, Try.ntmps49
                go_wp2_with (go_at_call 64; (with_reducible refine (HBAD.out _).mono ?_); rintro e w1 ⟨rfl, hb1⟩; have c5 := (hb1.cell (p := ⟨b, off + p * 5, none⟩) hbb).trans c0)
                go_loopg [11, 12] K (fun gh v11 v12 wr => ∃ k q : Nat, k ≤ K ∧ K - k ≤ gh ∧ v12 = .int .i64 k ∧ v11 = .int .i64 q ∧ p < q ∧ (q ≤ l.length ∧ q ≤ 64) ∧ rdS (l.length + 1) l q (deep + 1) kd (K - k) = rdS (l.length + 1) l (p + 1) (deep + 1) kd K ∧ Below w.heap.size w wr)
                case atStart => exact ⟨0, p + 1, Nat.zero_le _, Nat.le_refl _, rfl, by simp, by omega, ⟨by omega, by omega⟩, rfl, hb1⟩
                case round =>
                  obtain ⟨k, q, hkk, hgh, rfl, rfl, hq1, ⟨hq2, hq3⟩, hR, hb⟩ := hrel
                  have HB := hidE hb; have HR := hidE hR; have HG := hidE hgh
                  have f0 := (hb.cell (p := ⟨b, off + p * 5, none⟩) hbb).trans c0
                  have f4 := (hb.cell (p := ⟨b, off + p * 5 + 4, none⟩) hbb).trans c4
                  have fz := Nat.lt_of_lt_of_le hbb hb.size
                  clear hb hR hgh c5 hb1 c1 c2 c3
                  by_cases hk : k < K
                  · have r1 : decide ((k : Int) < (K : Int)) = true := decide_eq_true (by omega)
                    have r2 : decide (k < K) = true := decide_eq_true hk
                    have HCALL := hidE (fun w' (hb' : Below w.heap.size w w') => show Calls Try.prog 49 #[.slice (some ⟨b, off, none⟩) l.length cap, .int .i64 q, .int .i64 ((deep : Int) + 1), .int .u8 kd] w' fun e w'' => e = .returned (I3 (rdT (rdS (l.length + 1) l q (deep + 1) kd 1))) ∧ Below w'.heap.size w' w'' from by
                      have := HI.out q (deep + 1) kd w' (by have := HM.out.1; omega) (HA.out.past hb') (by omega) (by omega)
                      rw [show ((deep + 1 : Nat) : Int) = (deep : Int) + 1 by omega] at this
                      exact this)
                    have HONE := hidE (rd_one (m := l.length + 1) (l := l) (p := q) (deep := deep + 1) (ink := kd) (n := K - k - 1) (by omega) (by omega))
                    cases hone : rdS (l.length + 1) l q (deep + 1) kd 1 with
                    | error e =>
                      rw [hone] at HCALL HONE
                      have he : (e.2 == 0) = false ∧ (e.2 != 0) = true := by
                        rcases rd_err _ _ _ _ _ _ _ hone with h | h <;> rw [h] <;> decide
                      obtain ⟨he1, he2⟩ := he
                      have HF := hidE (show rdS (l.length + 1) l p deep ink 1 = .error e by
                        rw [HOP.out, ← HR.out, show K - k = K - k - 1 + 1 by omega, HONE.out])
                      rw [show rdT (.error e) = (0, e.1, e.2) from rfl] at HCALL
                      clear hone
                      obtain ⟨ea, eb⟩ := e
                      simp only at he1 he2
                      go_wp2_with (go_at_call 49; (with_reducible refine (HCALL.out _ HB.out).mono ?_); rintro e w2 ⟨rfl, hb2⟩)
                      refine bodyPost_ret (v := .tuple #[.int .i64 0, .int .i64 ea, .int .i64 eb]) (by simp [results, Try.results49, go_sem]) rfl ⟨by rw [HF.out]; rfl, HB.out.trans (hb2.mono HB.out.size)⟩
                    | ok q' =>
                      rw [hone] at HCALL HONE
                      have hgt := rd_gt _ _ _ _ _ _ _ hone
                      have hfn := (rd_fine _ _ _ _ _ _ _ hone (q' - 1) (by omega) (by omega)).2
                      rw [show rdT (.ok q') = (q', 0, 0) from rfl] at HCALL
                      clear hone
                      go_wp2_with (go_at_call 49; (with_reducible refine (HCALL.out _ HB.out).mono ?_); rintro e w2 ⟨rfl, hb2⟩)
                      go_roundg (K - (k + 1))
                      case measure => have := HG.out; omega
                      case rel => exact ⟨k + 1, q', by omega, Nat.le_refl _, by go_num, rfl, by omega, ⟨by omega, by omega⟩, by rw [← HR.out, show K - k = K - k - 1 + 1 by omega, HONE.out]; rfl, HB.out.trans (hb2.mono HB.out.size)⟩
                  · obtain rfl : k = K := by omega
                    have r1 : decide ((k : Int) < (k : Int)) = false := decide_eq_false (by omega)
                    have r2 : decide (k < k) = false := decide_eq_false (by omega)
                    have HF := hidE (show rdS (l.length + 1) l p deep ink 1 = .ok q by rw [HOP.out, ← HR.out, Nat.sub_self, rd_zero])
                    go_wp2
                    refine bodyPost_ret (v := .tuple #[.int .i64 q, .int .i64 0, .int .i64 0]) (by simp [results, Try.results49, go_sem]) rfl ⟨by rw [HF.out]; rfl, HB.out⟩
        · have HE := hidE (rd_stop (stop_shape (deep := deep) (ink := ink) hlt (.inr (.inl hbad))))
          rw [HE.out]
          rw [hbad] at HBAD
          clear HE hc ih hbad HPR
          generalize (l.getD p ⟨0, 0, 0, 0, 0⟩) = x at *
          obtain ⟨kd, n, g, d, ks⟩ := x
          simp only at c0 c1 c2 c3 c4
          go_enter Try.func49, Try.ntmps49
          go_wp2_with (go_at_call 64; (with_reducible refine (HBAD.out _).mono ?_); rintro e w1 ⟨rfl, hb1⟩)
          refine bodyPost_ret (v := .tuple #[.int .i64 0, .int .i64 p, .int .i64 81]) (by simp [results, Try.results49, go_sem]) rfl ⟨rfl, hb1⟩
    · have HE := hidE (rd_stop (stop_out (deep := deep) (ink := ink) (show l.length ≤ p by omega)))
      rw [HE.out]
      have q1 : decide ((p : Int) ≥ (l.length : Int)) = true := decide_eq_true (by omega)
      have q2 : decide (l.length ≤ p) = true := decide_eq_true (by omega)
      clear HE ih
      go_enter Try.func49, Try.ntmps49
      go_wp2
      refine bodyPost_ret (v := .tuple #[.int .i64 0, .int .i64 p, .int .i64 81]) (by simp [results, Try.results49, go_sem]) rfl ⟨rfl, Below.refl _ _⟩
theorem rtreeL_c (l : List Prt) (a : Option Addr) (cap : Nat) (w : World) (hl : l.length ≤ 9223372036854775807) (hA : ArgP w a l) :
    Calls Try.prog 39 #[.slice a l.length cap] w fun e w' => e = .returned (.tuple #[.int .i64 (treeS l).1, .int .i64 (treeS l).2]) ∧ Below w.heap.size w w' := by
  have HR := hidE (show Calls Try.prog 49 #[.slice a l.length cap, .int .i64 0, .int .i64 1, .int .u8 0] w _ from rreadL_c l a cap hl (l.length + 1) 0 1 0 w (by omega) hA (by omega) (by omega))
  have HT := hidE (show treeS l = (match rdS (l.length + 1) l 0 1 0 1 with | .error x => x | .ok e => if e < l.length then (e, 81) else (0, 0)) from rfl)
  cases hrd : rdS (l.length + 1) l 0 1 0 1 with
  | error x =>
    rw [hrd] at HR HT
    have he : (x.2 == 0) = false ∧ (x.2 != 0) = true := by
      rcases rd_err _ _ _ _ _ _ _ hrd with h | h <;> rw [h] <;> decide
    obtain ⟨he1, he2⟩ := he
    obtain ⟨xa, xb⟩ := x
    simp only [rdT] at HR HT he1 he2
    clear hrd hA
    go_enter Try.func39, Try.ntmps39
    go_wp2_with (go_at_call 49; (with_reducible refine HR.out.mono ?_); rintro e w2 ⟨rfl, hb2⟩)
    go_ret2
    exact ⟨by rw [HT.out]; rfl, hb2⟩
  | ok q =>
    rw [hrd] at HR HT
    simp only [rdT] at HR HT
    by_cases hq : q < l.length
    · rw [if_pos hq] at HT
      have r1 : decide ((q : Int) < (l.length : Int)) = true := decide_eq_true (by omega)
      have r2 : decide (q < l.length) = true := decide_eq_true hq
      clear hrd hA
      go_enter Try.func39, Try.ntmps39
      go_wp2_with (go_at_call 49; (with_reducible refine HR.out.mono ?_); rintro e w2 ⟨rfl, hb2⟩)
      go_ret2
      exact ⟨by rw [HT.out]; rfl, hb2⟩
    · rw [if_neg hq] at HT
      have r1 : decide ((q : Int) < (l.length : Int)) = false := decide_eq_false (by omega)
      have r2 : decide (q < l.length) = false := decide_eq_false hq
      clear hrd hA
      go_enter Try.func39, Try.ntmps39
      go_wp2_with (go_at_call 49; (with_reducible refine HR.out.mono ?_); rintro e w2 ⟨rfl, hb2⟩)
      go_ret2
      exact ⟨by rw [HT.out]; rfl, hb2⟩
set_option maxHeartbeats 1000000 in
theorem rchkL_c (fr to' : Int) (l : List Prt) (a : Option Addr) (cap : Nat) (w : World) (hl : l.length ≤ 9223372036854775807) (hA : ArgP w a l) (hf : -9223372036854775808 ≤ fr ∧ fr ≤ 9223372036854775807) (ht : -9223372036854775808 ≤ to' ∧ to' ≤ 9223372036854775807) :
    Calls Try.prog 22 #[def8 fr to' a l.length cap] w fun e w' => e = .returned (.tuple #[.int .i64 (chkS fr to' l).1, .int .i64 (chkS fr to' l).2]) ∧ Below w.heap.size w w' := by
  have HR := hidE (fun w hA => rtreeL_c l a cap w hl hA)
  have HC := hidE (show chkS fr to' l = if fr < 0 ∨ to' ≤ fr ∨ 1099511627776 < to' ∨ 4096 < to' - fr then ((-1, 82) : Int × Int) else ((((treeS l).1 : Nat) : Int), (treeS l).2) from rfl)
  have HA := hidE hA
  clear hA
  generalize treeS l = T at *
  by_cases c1 : fr < 0
  · have q1 : decide (fr < 0) = true := decide_eq_true c1
    rw [if_pos (.inl c1)] at HC
    clear c1
    go_enter Try.func22, Try.ntmps22
    go_wp2
    go_ret2
    exact ⟨by rw [HC.out]; rfl, by (repeat (first | exact Below.refl _ _ | assumption | refine balloc ?_ _ | refine below_drewN ?_ _ | refine bstep (by assumption) ?_ | refine bstep (Past.prop _) ?_ | refine Below.setCell ?_ (by first | exact Nat.le_refl _ | (simp; done) | (simp; omega)) _))⟩
  have q1 : decide (fr < 0) = false := decide_eq_false c1
  by_cases c2 : to' ≤ fr
  · have q2 : decide (to' ≤ fr) = true := decide_eq_true c2
    rw [if_pos (.inr (.inl c2))] at HC
    clear c1 c2
    go_enter Try.func22, Try.ntmps22
    go_wp2
    go_ret2
    exact ⟨by rw [HC.out]; rfl, by (repeat (first | exact Below.refl _ _ | assumption | refine balloc ?_ _ | refine below_drewN ?_ _ | refine bstep (by assumption) ?_ | refine bstep (Past.prop _) ?_ | refine Below.setCell ?_ (by first | exact Nat.le_refl _ | (simp; done) | (simp; omega)) _))⟩
  have q2 : decide (to' ≤ fr) = false := decide_eq_false c2
  by_cases c3 : 1099511627776 < to'
  · have q3 : decide (to' > 1099511627776) = true := decide_eq_true c3
    have q3' : decide (1099511627776 < to') = true := decide_eq_true c3
    rw [if_pos (.inr (.inr (.inl c3)))] at HC
    clear c1 c2 c3
    go_enter Try.func22, Try.ntmps22
    go_wp2
    go_ret2
    exact ⟨by rw [HC.out]; rfl, by (repeat (first | exact Below.refl _ _ | assumption | refine balloc ?_ _ | refine below_drewN ?_ _ | refine bstep (by assumption) ?_ | refine bstep (Past.prop _) ?_ | refine Below.setCell ?_ (by first | exact Nat.le_refl _ | (simp; done) | (simp; omega)) _))⟩
  have q3 : decide (to' > 1099511627776) = false := decide_eq_false c3
  have q3' : decide (1099511627776 < to') = false := decide_eq_false c3
  have wr : IntKind.i64.wrap (to' - fr) = to' - fr := IntWalk.i64_in _ (by omega)
  by_cases c4 : 4096 < to' - fr
  · have q4 : decide (to' - fr > 4096) = true := decide_eq_true c4
    have q4' : decide (4096 < to' - fr) = true := decide_eq_true c4
    rw [if_pos (.inr (.inr (.inr c4)))] at HC
    clear c1 c2 c3 c4
    go_enter Try.func22, Try.ntmps22
    go_wp2
    go_ret2
    exact ⟨by rw [HC.out]; rfl, by (repeat (first | exact Below.refl _ _ | assumption | refine balloc ?_ _ | refine below_drewN ?_ _ | refine bstep (by assumption) ?_ | refine bstep (Past.prop _) ?_ | refine Below.setCell ?_ (by first | exact Nat.le_refl _ | (simp; done) | (simp; omega)) _))⟩
  have q4 : decide (to' - fr > 4096) = false := decide_eq_false c4
  have q4' : decide (4096 < to' - fr) = false := decide_eq_false c4
  rw [if_neg (by omega)] at HC
  clear c1 c2 c3 c4
  go_enter Try.func22, Try.ntmps22
  go_wp2_with (go_at_call 39; (with_reducible refine (HR.out _ (HA.out.past (by (repeat (first | exact Below.refl _ _ | assumption | refine balloc ?_ _ | refine below_drewN ?_ _ | refine bstep (by assumption) ?_ | refine bstep (Past.prop _) ?_ | refine Below.setCell ?_ (by first | exact Nat.le_refl _ | (simp; done) | (simp; omega)) _))))).mono ?_); rintro e w2 ⟨rfl, hb2⟩)
  go_ret2
  exact ⟨by rw [HC.out]; rfl, by (repeat (first | exact Below.refl _ _ | assumption | refine balloc ?_ _ | refine below_drewN ?_ _ | refine bstep (by assumption) ?_ | refine bstep (Past.prop _) ?_ | refine Below.setCell ?_ (by first | exact Nat.le_refl _ | (simp; done) | (simp; omega)) _))⟩
end Go.Proofs.Ytlhokgcamcaonaa

namespace Go.Proofs.Ytlhokgcamcaonaa
open Go.ChangeShapes Go.WideShapes Go.ChangeAt Go.RowKit
attribute [local irreducible] Go.Calls

/-- The part of the piece ahead of a place. -/
def lastOf (W : List Pc) : Nat → Int
  | 0 => -1
  | k + 1 => (W.getD k (0, 0)).1
theorem pcs_step {l : List Prt} {W : List Pc} {k : Nat} {last : Int} (hk : k < W.length) : pcsB l last (W.drop k) = (decide (last < (W.getD k (0, 0)).1) && (decide ((W.getD k (0, 0)).1 < (l.length : Int)) && (decide ((l.getD (W.getD k (0, 0)).1.toNat pr0).kind = 0) && pcsB l (lastOf W (k + 1)) (W.drop (k + 1))))) := by
  have hdr : W.drop k = W.getD k (0, 0) :: W.drop (k + 1) := by
    rw [List.drop_eq_getElem_cons hk]; congr 1
    rw [List.getD_eq_getElem?_getD, List.getElem?_eq_getElem hk]; rfl
  rw [hdr, pcsB]
  rfl
set_option maxHeartbeats 8000000 in
set_option maxRecDepth 100000 in
theorem rcheck_c (fr to' : Int) (l : List Prt) (W : List Pc) (a wa : Option Addr) (cap wcap : Nat) (z : Int) (w : World) (hl : l.length ≤ 9223372036854775807) (hWl : W.length ≤ 9223372036854775807) (hA : ArgP w a l) (hW : ArgVs w wa W) (hf : -9223372036854775808 ≤ fr ∧ fr ≤ 9223372036854775807) (ht : -9223372036854775808 ≤ to' ∧ to' ≤ 9223372036854775807) :
    Calls Try.prog 8 #[def8 fr to' a l.length cap, .slice wa W.length wcap, .int .i64 z] w fun e w' => e = .returned (.int .i64 (wrongS fr to' l (decide (0 ≤ z ∧ z < (l.length : Int))) W)) ∧ Below w.heap.size w w' := by
  have HCH := hidE (fun (w' : World) (h : Below w.heap.size w w') => rchkL_c fr to' l a cap w' hl (hA.past h) hf ht)
  have HS := hidE (show wrongS fr to' l (decide (0 ≤ z ∧ z < (l.length : Int))) W = if (chkS fr to' l).2 ≠ 0 then 81 else if decide (0 ≤ z ∧ z < (l.length : Int)) = false ∨ pcsB l (-1) W = false then 2 else if farB W = true then 10 else 0 from rfl)
  have HA := hidE hA; have HW := hidE hW
  clear hA hW
  obtain ⟨c, hc⟩ : ∃ c, chkS fr to' l = c := ⟨_, rfl⟩
  obtain ⟨c1, c2⟩ := c
  rw [hc] at HCH HS
  clear hc
  obtain ⟨E, hE⟩ : ∃ E, wrongS fr to' l (decide (0 ≤ z ∧ z < (l.length : Int))) W = E := ⟨_, rfl⟩
  rw [hE] at HS ⊢
  clear hE
  by_cases h0 : c2 = 0
  · subst h0
    by_cases hz : 0 ≤ z ∧ z < (l.length : Int)
    · obtain ⟨z0, z1⟩ := hz
      have q0 : decide (z < 0) = false := decide_eq_false (by omega)
      have q1 : decide ((l.length : Int) ≤ z) = false := decide_eq_false (by omega)
      have HS2 := hidE (show E = if pcsB l (-1) W = false then 2 else if farB W = true then 10 else 0 by
        rw [HS.out, decide_eq_true (⟨z0, z1⟩ : 0 ≤ z ∧ z < (l.length : Int))]; simp)
      clear z0 z1 HS
      go_enter Try.func8, Try.ntmps8
      go_wp2_with fail
      ((with_reducible refine (HCH.out _ (by (repeat (first | exact Below.refl _ _ | assumption | refine balloc ?_ _ | refine below_drewN ?_ _ | refine bstep (by assumption) ?_ | refine bstep (Past.prop _) ?_ | refine Below.setCell ?_ (by first | exact Nat.le_refl _ | (simp; done) | (simp; omega)) _)))).mono ?_); rintro e w1 ⟨rfl, hb1⟩)
      have hb := (show Below w.heap.size w (w.alloc (.cells #[.int .i64 fr, .int .i64 to', .slice a l.length cap] 24)) from by (repeat (first | exact Below.refl _ _ | assumption | refine balloc ?_ _ | refine below_drewN ?_ _ | refine bstep (by assumption) ?_ | refine bstep (Past.prop _) ?_ | refine Below.setCell ?_ (by first | exact Nat.le_refl _ | (simp; done) | (simp; omega)) _))).trans (hb1.mono (by simp))
      have hd := (Blk.made w #[.int .i64 fr, .int .i64 to', .slice a l.length cap] 24).past hb1
      have e2 := hd.cell 2; have dz := hd.lt
      simp at e2
      have HB := hidE hb; have HD := hidE hd
      clear hb1 hb hd HCH
      go_wp2_with fail
      go_loopg [9] W.length (fun gh v9 wr => ∃ k : Nat, v9 = .int .i64 k ∧ k ≤ W.length ∧ W.length - k ≤ gh ∧ -1 ≤ lastOf W k ∧ pcsB l (-1) W = pcsB l (lastOf W k) (W.drop k) ∧ Below w1.heap.size w1 wr)
      case atStart => exact ⟨0, rfl, Nat.zero_le _, Nat.le_refl _, by simp [lastOf], rfl, Below.refl _ _⟩
      case round =>
        obtain ⟨k, rfl, hk, hgh, hlast, hpc, hbw⟩ := hrel
        have HGH := hidE hgh; have HPC := hidE hpc; have HBW := hidE hbw
        have HB2 := hidE (HB.out.trans (hbw.mono HB.out.size))
        have HD2 := hidE (HD.out.past hbw)
        clear hgh hpc e2 dz
        have e2 := HD2.out.cell 2; have dz := HD2.out.lt
        simp at e2
        by_cases hlt : k < W.length
        · have q2 : decide ((k : Int) < (W.length : Int)) = true := decide_eq_true (by omega)
          have q3 : decide (k < W.length) = true := decide_eq_true hlt
          obtain ⟨b, off, rfl, hbz, hc⟩ := HW.out (by omega)
          obtain ⟨m0, m1⟩ := hc k hlt
          have HPS := hidE (HPC.out.trans (pcs_step hlt))
          have HLS := hidE (show lastOf W (k + 1) = (W.getD k (0, 0)).1 from rfl)
          obtain ⟨q, hq⟩ : ∃ q, W.getD k (0, 0) = q := ⟨_, rfl⟩
          rw [hq] at m0 m1 HPS HLS
          obtain ⟨j, j2⟩ := q
          have k0 := (HB2.out.cell (p := ⟨b, off + k * 2, none⟩) hbz).trans m0
          have k1 := (HB2.out.cell (p := ⟨b, off + k * 2 + 1, none⟩) hbz).trans m1
          have bz := Nat.lt_of_lt_of_le hbz HB2.out.size
          simp only at k0 k1 HPS HLS
          have HC := hidE hc
          clear m0 m1 hc hq hbw
          by_cases c1 : j < 0
          · have r1 : decide (j < 0) = true := decide_eq_true c1
            have HN := hidE (show E = 2 by rw [HS2.out, HPS.out, decide_eq_false (show ¬ lastOf W k < j by omega)]; rfl)
            clear c1
            go_wp2
            go_quiet (fail)
            go_wp2
            go_ret
            exact ⟨by rw [HN.out]; rfl, HB2.out.trans ((show Below wr.heap.size wr _ from by (repeat (first | exact Below.refl _ _ | assumption | refine balloc ?_ _ | refine below_drewN ?_ _ | refine bstep (by assumption) ?_ | refine bstep (Past.prop _) ?_ | refine Below.setCell ?_ (by first | exact Nat.le_refl _ | (simp; done) | (simp; omega)) _))).mono HB2.out.size)⟩
          · have r1 : decide (j < 0) = false := decide_eq_false c1
            by_cases c2 : (l.length : Int) ≤ j
            · have r2 : decide ((l.length : Int) ≤ j) = true := decide_eq_true c2
              have HN := hidE (show E = 2 by rw [HS2.out, HPS.out, decide_eq_false (show ¬ j < (l.length : Int) by omega)]; simp)
              clear c1 c2
              go_wp2
              go_quiet (fail)
              go_wp2
              go_ret
              exact ⟨by rw [HN.out]; rfl, HB2.out.trans ((show Below wr.heap.size wr _ from by (repeat (first | exact Below.refl _ _ | assumption | refine balloc ?_ _ | refine below_drewN ?_ _ | refine bstep (by assumption) ?_ | refine bstep (Past.prop _) ?_ | refine Below.setCell ?_ (by first | exact Nat.le_refl _ | (simp; done) | (simp; omega)) _))).mono HB2.out.size)⟩
            · obtain ⟨j, rfl⟩ : ∃ i : Nat, j = (i : Int) := ⟨j.toNat, by omega⟩
              have hj : j < l.length := by omega
              have r2 : decide ((l.length : Int) ≤ (j : Int)) = false := decide_eq_false c2
              have r3 : decide (l.length ≤ j) = false := decide_eq_false (by omega)
              have hjz : (j : Int) < (l.length : Int) := by omega
              have hj0 : (0 : Int) ≤ (j : Int) := by omega
              obtain ⟨ba, offa, rfl, hba, hca⟩ := HA.out (by omega)
              have p0 := (HB2.out.cell (p := ⟨ba, _, none⟩) hba).trans (hca.get hj).1
              have az := Nat.lt_of_lt_of_le hba HB2.out.size
              rw [Int.toNat_natCast] at HPS
              by_cases c3 : (l.getD j pr0).kind = 0
              · rw [c3] at p0
                have HP2 := hidE (show pcsB l (-1) W = (decide (lastOf W k < (j : Int)) && pcsB l (lastOf W (k + 1)) (W.drop (k + 1))) by rw [HPS.out, decide_eq_true hjz, decide_eq_true c3]; rfl)
                have hkw : k < W.length := hlt
                clear c1 c2 c3 hca HPS
                by_cases hk0 : k = 0
                · subst hk0
                  have HN := hidE (show pcsB l (-1) W = pcsB l (lastOf W 1) (W.drop 1) by rw [HP2.out, decide_eq_true (show lastOf W 0 < (j : Int) by show (-1 : Int) < j; omega)]; rfl)
                  rw [Nat.zero_mul, Nat.add_zero] at k0
                  rw [Nat.zero_mul, Nat.add_zero] at k1
                  have q4 : decide ((0 : Int) < (W.length : Int)) = true := decide_eq_true (by omega)
                  have q5 : decide (0 < W.length) = true := decide_eq_true hlt
                  clear hlast
                  go_wp2
                  go_quiet (fail)
                  go_wp2
                  go_roundg (W.length - 1)
                  case measure => have := HGH.out; omega
                  case rel => exact ⟨1, rfl, by omega, Nat.le_refl _, by rw [HLS.out]; omega, HN.out, HBW.out.trans ((show Below wr.heap.size wr _ from by (repeat (first | exact Below.refl _ _ | assumption | refine balloc ?_ _ | refine below_drewN ?_ _ | refine bstep (by assumption) ?_ | refine bstep (Past.prop _) ?_ | refine Below.setCell ?_ (by first | exact Nat.le_refl _ | (simp; done) | (simp; omega)) _))).mono HBW.out.size)⟩
                · obtain ⟨i, rfl⟩ : ∃ i, k = i + 1 := ⟨k - 1, by omega⟩
                  obtain ⟨m0, _⟩ := HC.out i (by omega)
                  have HLI := hidE (show lastOf W (i + 1) = (W.getD i (0, 0)).1 from rfl)
                  obtain ⟨q, hq⟩ : ∃ q, (W.getD i (0, 0)).1 = q := ⟨_, rfl⟩
                  rw [hq] at m0 HLI
                  rw [HLI.out] at HP2 hlast
                  have n0 := (HB2.out.cell (p := ⟨b, off + i * 2, none⟩) hbz).trans m0
                  have r4 : decide ((0 : Int) < ((i + 1 : Nat) : Int)) = true := decide_eq_true (by omega)
                  have r5 : decide ((0 : Int) < (i : Int) + 1) = true := decide_eq_true (by omega)
                  have r6 : decide (0 < i + 1) = true := decide_eq_true (by omega)
                  have z1 : IntKind.i64.wrap ((i : Int) + 1 - 1) = (i : Int) := by rw [IntWalk.i64_in _ (by omega)]; omega
                  have z2 : (0 : Int) ≤ (i : Int) + 1 := by omega
                  have z3 : ((i : Int) + 1).toNat = i + 1 := by omega
                  have z4 : (i : Int) + 1 < (W.length : Int) := by omega
                  have z5 : (i : Int) < (W.length : Int) := by omega
                  clear m0 hq
                  by_cases c4 : (j : Int) ≤ q
                  · have r7 : decide ((j : Int) ≤ q) = true := decide_eq_true c4
                    have HN := hidE (show E = 2 by rw [HS2.out, HP2.out, decide_eq_false (show ¬ q < (j : Int) by omega)]; rfl)
                    clear c4
                    go_wp2
                    go_quiet (fail)
                    go_wp2
                    go_ret
                    exact ⟨by rw [HN.out]; rfl, HB2.out.trans ((show Below wr.heap.size wr _ from by (repeat (first | exact Below.refl _ _ | assumption | refine balloc ?_ _ | refine below_drewN ?_ _ | refine bstep (by assumption) ?_ | refine bstep (Past.prop _) ?_ | refine Below.setCell ?_ (by first | exact Nat.le_refl _ | (simp; done) | (simp; omega)) _))).mono HB2.out.size)⟩
                  · have r7 : decide ((j : Int) ≤ q) = false := decide_eq_false c4
                    have HN := hidE (show pcsB l (-1) W = pcsB l (lastOf W (i + 1 + 1)) (W.drop (i + 1 + 1)) by rw [HP2.out, decide_eq_true (show q < (j : Int) by omega)]; rfl)
                    clear c4
                    go_wp2
                    go_quiet (fail)
                    go_wp2
                    go_roundg (W.length - (i + 1 + 1))
                    case measure => have := HGH.out; omega
                    case rel => exact ⟨i + 1 + 1, by go_num, by omega, Nat.le_refl _, by rw [HLS.out]; omega, HN.out, HBW.out.trans ((show Below wr.heap.size wr _ from by (repeat (first | exact Below.refl _ _ | assumption | refine balloc ?_ _ | refine below_drewN ?_ _ | refine bstep (by assumption) ?_ | refine bstep (Past.prop _) ?_ | refine Below.setCell ?_ (by first | exact Nat.le_refl _ | (simp; done) | (simp; omega)) _))).mono HBW.out.size)⟩
              · obtain ⟨kd, hkd⟩ : ∃ kd, (l.getD j pr0).kind = kd := ⟨_, rfl⟩
                rw [hkd] at p0
                have r5 : ((kd : Int) != 0) = true := by simp; omega
                have r6 : (kd != 0) = true := by simp; omega
                have HN := hidE (show E = 2 by rw [HS2.out, HPS.out, decide_eq_false c3]; simp)
                clear c1 c2 c3 hca hkd
                go_wp2
                go_quiet (fail)
                go_wp2
                go_ret
                exact ⟨by rw [HN.out]; rfl, HB2.out.trans ((show Below wr.heap.size wr _ from by (repeat (first | exact Below.refl _ _ | assumption | refine balloc ?_ _ | refine below_drewN ?_ _ | refine bstep (by assumption) ?_ | refine bstep (Past.prop _) ?_ | refine Below.setCell ?_ (by first | exact Nat.le_refl _ | (simp; done) | (simp; omega)) _))).mono HB2.out.size)⟩
        · obtain rfl : k = W.length := by omega
          have q2 : decide ((W.length : Int) < (W.length : Int)) = false := decide_eq_false (by omega)
          have q3 : decide (W.length < W.length) = false := decide_eq_false (by omega)
          have HPT := hidE (show pcsB l (-1) W = true by have := HPC.out; rw [List.drop_length] at this; rw [this]; cases lastOf W W.length <;> rfl)
          have HS3 := hidE (show E = if farB W = true then 10 else 0 by rw [HS2.out, HPT.out]; rfl)
          clear hbw hlast HPC e2 dz
          obtain ⟨wo, rfl⟩ : ∃ wo : World, wo = wr := ⟨_, rfl⟩
          go_wp2
          go_loopg [11] W.length (fun gh v11 wr => ∃ k : Nat, v11 = .int .i64 k ∧ k ≤ W.length ∧ W.length - k ≤ gh ∧ (∀ i, i < k → isFarB (W.getD i (0, 0)) = false) ∧ Below w.heap.size w wr)
          case atStart => exact ⟨0, rfl, Nat.zero_le _, Nat.le_refl _, fun i hi => by omega, HB2.out⟩
          case round =>
            obtain ⟨k, rfl, hk2, hgh, hno, hbw⟩ := hrel
            have HG2 := hidE hgh; have HNO := hidE hno; have HBX := hidE hbw
            clear hgh hno q2 q3
            by_cases hlt : k < W.length
            · have q2 : decide ((k : Int) < (W.length : Int)) = true := decide_eq_true (by omega)
              have q3 : decide (k < W.length) = true := decide_eq_true hlt
              obtain ⟨b, off, rfl, hbz, hc⟩ := HW.out (by omega)
              obtain ⟨m0, m1⟩ := hc k hlt
              have hgk : W.getD k (0, 0) = W[k] := by rw [List.getD_eq_getElem?_getD, List.getElem?_eq_getElem hlt]; rfl
              obtain ⟨q, hq⟩ : ∃ q, W.getD k (0, 0) = q := ⟨_, rfl⟩
              rw [hq] at m0 m1 hgk
              obtain ⟨j, j2⟩ := q
              have k1 := (hbw.cell (p := ⟨b, off + k * 2 + 1, none⟩) hbz).trans m1
              have bz := Nat.lt_of_lt_of_le hbz hbw.size
              simp only at k1
              have HQ := hidE hq; have HGK := hidE hgk
              clear hc m0 m1 hbw hq hgk
              have HYES := hidE (fun (h : isFarB (j, j2) = true) => show E = 10 by
                rw [HS3.out, if_pos]
                unfold farB
                exact List.any_eq_true.2 ⟨_, List.getElem_mem hlt, by rw [← HGK.out]; exact h⟩)
              by_cases c1 : j2 < -1099511627776
              · have r1 : decide (j2 < -1099511627776) = true := decide_eq_true c1
                have HN := hidE (HYES.out (by unfold isFarB; simp only; rw [r1]; rfl))
                clear c1 HYES
                go_wp2
                go_ret
                exact ⟨by rw [HN.out]; rfl, HBX.out⟩
              · have r1 : decide (j2 < -1099511627776) = false := decide_eq_false c1
                by_cases c2 : 1099511627776 < j2
                · have r2 : decide (1099511627776 < j2) = true := decide_eq_true c2
                  have HN := hidE (HYES.out (by unfold isFarB; simp only; rw [r1, r2]; rfl))
                  clear c1 c2 HYES
                  go_wp2
                  go_ret
                  exact ⟨by rw [HN.out]; rfl, HBX.out⟩
                · have r2 : decide (1099511627776 < j2) = false := decide_eq_false c2
                  have HN := hidE (show ∀ i, i < k + 1 → isFarB (W.getD i (0, 0)) = false from fun i hi => by
                    by_cases e : i = k
                    · rw [e, HQ.out]; unfold isFarB; simp only; rw [r1, r2]; rfl
                    · exact HNO.out i (by omega))
                  clear c1 c2 HYES
                  go_wp2
                  go_roundg (W.length - (k + 1))
                  case measure => have := HG2.out; omega
                  case rel => exact ⟨k + 1, by go_num, by omega, Nat.le_refl _, HN.out, HBX.out⟩
            · obtain rfl : k = W.length := by omega
              have q2 : decide ((W.length : Int) < (W.length : Int)) = false := decide_eq_false (by omega)
              have q3 : decide (W.length < W.length) = false := decide_eq_false (by omega)
              have HN := hidE (show E = 0 by
                rw [HS3.out, if_neg]
                intro h
                unfold farB at h
                obtain ⟨x, hx, hxf⟩ := List.any_eq_true.1 h
                obtain ⟨i, hi, rfl⟩ := List.mem_iff_getElem.1 hx
                have := HNO.out i hi
                rw [List.getD_eq_getElem?_getD, List.getElem?_eq_getElem hi] at this
                rw [show (some W[i]).getD (0, 0) = W[i] from rfl] at this
                rw [this] at hxf; cases hxf)
              clear hbw
              go_wp2
              go_ret
              exact ⟨by rw [HN.out]; rfl, HBX.out⟩
    · have HN := hidE (show E = 2 by rw [HS.out, decide_eq_false hz]; rfl)
      by_cases z0 : z < 0
      · have q0 : decide (z < 0) = true := decide_eq_true z0
        clear hz z0 HS
        go_enter Try.func8, Try.ntmps8
        go_wp2_with (go_at_call 22; ((with_reducible refine (HCH.out _ (by (repeat (first | exact Below.refl _ _ | assumption | refine balloc ?_ _ | refine below_drewN ?_ _ | refine bstep (by assumption) ?_ | refine bstep (Past.prop _) ?_ | refine Below.setCell ?_ (by first | exact Nat.le_refl _ | (simp; done) | (simp; omega)) _)))).mono ?_); rintro e w1 ⟨rfl, hb1⟩))
        go_ret
        exact ⟨by rw [HN.out]; rfl, by (repeat (first | exact Below.refl _ _ | assumption | refine balloc ?_ _ | refine below_drewN ?_ _ | refine bstep (by assumption) ?_ | refine bstep (Past.prop _) ?_ | refine Below.setCell ?_ (by first | exact Nat.le_refl _ | (simp; done) | (simp; omega)) _))⟩
      · have q0 : decide (z < 0) = false := decide_eq_false z0
        have q1 : decide ((l.length : Int) ≤ z) = true := decide_eq_true (by omega)
        clear hz z0 HS
        go_enter Try.func8, Try.ntmps8
        go_wp2_with fail
        ((with_reducible refine (HCH.out _ (by (repeat (first | exact Below.refl _ _ | assumption | refine balloc ?_ _ | refine below_drewN ?_ _ | refine bstep (by assumption) ?_ | refine bstep (Past.prop _) ?_ | refine Below.setCell ?_ (by first | exact Nat.le_refl _ | (simp; done) | (simp; omega)) _)))).mono ?_); rintro e w1 ⟨rfl, hb1⟩)
        have hd := (Blk.made w #[.int .i64 fr, .int .i64 to', .slice a l.length cap] 24).past hb1
        have e2 := hd.cell 2; have dz := hd.lt
        simp at e2
        clear hd
        go_wp2
        go_ret
        exact ⟨by rw [HN.out]; rfl, by (repeat (first | exact Below.refl _ _ | assumption | refine balloc ?_ _ | refine below_drewN ?_ _ | refine bstep (by assumption) ?_ | refine bstep (Past.prop _) ?_ | refine Below.setCell ?_ (by first | exact Nat.le_refl _ | (simp; done) | (simp; omega)) _))⟩
  · have r1 : (c2 != 0) = true := bne_iff_ne.2 h0
    have HN := hidE (show E = 81 by rw [HS.out]; exact if_pos h0)
    clear h0 HS
    go_enter Try.func8, Try.ntmps8
    go_wp2_with (go_at_call 22; ((with_reducible refine (HCH.out _ (by (repeat (first | exact Below.refl _ _ | assumption | refine balloc ?_ _ | refine below_drewN ?_ _ | refine bstep (by assumption) ?_ | refine bstep (Past.prop _) ?_ | refine Below.setCell ?_ (by first | exact Nat.le_refl _ | (simp; done) | (simp; omega)) _)))).mono ?_); rintro e w1 ⟨rfl, hb1⟩))
    go_ret
    exact ⟨by rw [HN.out]; rfl, by (repeat (first | exact Below.refl _ _ | assumption | refine balloc ?_ _ | refine below_drewN ?_ _ | refine bstep (by assumption) ?_ | refine bstep (Past.prop _) ?_ | refine Below.setCell ?_ (by first | exact Nat.le_refl _ | (simp; done) | (simp; omega)) _))⟩
end Go.Proofs.Ytlhokgcamcaonaa
