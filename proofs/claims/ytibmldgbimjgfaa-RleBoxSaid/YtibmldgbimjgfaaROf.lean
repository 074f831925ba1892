/- The contract of the document's own canonical function. No conditions but the list's size. -/
import Derived.Test.YtibmldgbimjgfaaTimes
import Derived.Test.YtibmldgbimjgfaaJ
namespace Go.Proofs.Ytibmldgbimjgfaa
open Go.ChangeShapes Go.WideShapes Go.ChangeAt Go.RowKit
attribute [local irreducible] Go.Calls

theorem buildL_step {g : Int → Int × Int} {ts : List Int} {k : Nat} (h : k < ts.length) : buildL g (ts.take (k + 1)) = withL (buildL g (ts.take k)) (ts.getD k 0) (g (ts.getD k 0)) := by
  rw [List.take_succ_eq_append_getElem h, buildL_snoc, getD_get _ _ _ h]
theorem withL_len (f : List Sg) (t : Int) (v : Int × Int) : (withL f t v).length ≤ f.length + 1 := by unfold withL; split <;> simp
theorem buildL_len (g : Int → Int × Int) (ts : List Int) : ∀ k, k ≤ ts.length → (buildL g (ts.take k)).length ≤ k
  | 0, _ => by simp [buildL]
  | k + 1, h => by
    rw [buildL_step (by omega)]
    have := withL_len (buildL g (ts.take k)) (ts.getD k 0) (g (ts.getD k 0))
    have := buildL_len g ts k (by omega)
    omega

set_option maxRecDepth 100000 in
set_option maxHeartbeats 4000000 in
theorem rof_c (l : List Sg) (a : Option Addr) (cap : Nat) (w : World) (hl : l.length ≤ 1000000000) (hA : ArgS w a l) :
    Calls Try.prog 24 #[.slice a l.length cap] w (OfPost w l) := by
  have HA := hidE hA; clear hA
  go_enter Try.func24, Try.ntmps24
  go_wp2
  go_loopg [4] l.length (fun g vi wr => ∃ k : Nat, k ≤ l.length ∧ l.length - k ≤ g ∧ vi = .int .i64 k ∧ (∀ i, i < k → okS (l.getD i (0, 0, 0)) = true) ∧ Below w.heap.size w wr)
  case atStart => exact ⟨0, Nat.zero_le _, by omega, rfl, fun i hi => by omega, Below.refl _ _⟩
  case round =>
    obtain ⟨k, hk, hg, rfl, hs, hb⟩ := hrel
    have HS := hidE hs; have HB := hidE hb; clear hs hb
    by_cases hlt : k < l.length
    · obtain ⟨b, off, rfl, hb, hc⟩ := (HA.out.past HB.out) (by omega)
      obtain ⟨c0, c1, c2⟩ := hc.get hlt
      clear hc
      cases hok : okS (l.getD k (0, 0, 0))
      · have HX := hidE (all_bad hlt hok)
        have HV := hidE (fun w => rin_c (l.getD k (0, 0, 0)) w)
        rw [hok] at HV
        change Hid (∀ w, Calls _ _ #[S (ats l k) (vls l k).1 (vls l k).2] _ _) at HV
        generalize ats l k = u at *
        generalize vls l k = v at *
        go_wp2_with (go_at_call 30; ((with_reducible refine (HV.out _).mono ?_); rintro e w1 ⟨rfl, hb1⟩))
        go_ret2
        exact ⟨_, [], 10, rfl, sliS_nil _, .inr ⟨HX.out, rfl, rfl⟩, by have := HB.out; (repeat (first | exact Below.refl _ _ | assumption | refine balloc ?_ _ | refine below_drewN ?_ _ | refine bstep (by assumption) ?_ | refine bstep (Past.prop _) ?_ | refine Below.setCell ?_ (by first | exact Nat.le_refl _ | (simp; done) | (simp; omega)) _))⟩
      · have HX := hidE (show ∀ i, i < k + 1 → okS (l.getD i (0, 0, 0)) = true from fun i hi => by
          by_cases e : i = k
          · rw [e]; exact hok
          · exact HS.out i (by omega))
        have HV := hidE (fun w => rin_c (l.getD k (0, 0, 0)) w)
        rw [hok] at HV
        change Hid (∀ w, Calls _ _ #[S (ats l k) (vls l k).1 (vls l k).2] _ _) at HV
        generalize ats l k = u at *
        generalize vls l k = v at *
        go_wp2_with (go_at_call 30; ((with_reducible refine (HV.out _).mono ?_); rintro e w1 ⟨rfl, hb1⟩))
        go_roundg (l.length - (k + 1))
        case measure => omega
        case rel => exact ⟨k + 1, by omega, Nat.le_refl _, by go_num, HX.out, by have := HB.out; (repeat (first | exact Below.refl _ _ | assumption | refine balloc ?_ _ | refine below_drewN ?_ _ | refine bstep (by assumption) ?_ | refine bstep (Past.prop _) ?_ | refine Below.setCell ?_ (by first | exact Nat.le_refl _ | (simp; done) | (simp; omega)) _))⟩
    · have hk' : k = l.length := by omega
      subst hk'
      have HX := hidE (all_good HS.out)
      clear HS
      go_wp2_with fail
      ((with_reducible refine (rwhen_c l a cap _ (by omega) (HA.out.past HB.out)).mono ?_); rintro e w1 ⟨v1, rfl, ho1, hb1⟩)
      have hb1' := bstep hb1 HB.out
      have ho1' : w1.ownsRow wr.heap.size 2 1 v1 (l.map (·.1)).length (cellsI (l.map (·.1))) := by rw [List.length_map]; exact ho1
      obtain ⟨a1, c1, rfl, _, _, hA1⟩ := sliI_own ho1'
      have HB1 := hidE hb1'; have HA1 := hidE hA1
      clear ho1 ho1' hb1 hb1' HB hA1
      have hrt := rtimes_c (l.map (·.1)) a1 c1 w1 (by rw [List.length_map]; exact hl) HA1.out
      rw [List.length_map] at hrt
      have HRT := hidE hrt; clear hrt
      go_wp2_with fail
      ((with_reducible refine (HRT.out).mono ?_); rintro e w2 ⟨v2, rfl, ho2, hb2⟩)
      have hb2' := bstep hb2 HB1.out
      obtain ⟨a2, c2, rfl, _, _, hA2⟩ := sliI_own ho2
      have hts := timesL_len (l.map (·.1))
      rw [List.length_map] at hts
      have HI := hidE (isOf_build (l := l) (fun x hx => List.all_eq_true.1 HX.out x hx))
      have HB2 := hidE hb2'; have HA2 := hidE hA2
      clear ho2 hb2 hb2' HA1 HB1 hA2
      generalize timesL (l.map (·.1)) = ts at *
      go_wp2_with fail
      go_loopg [6, 7] ts.length (fun g vf vi wr2 => ∃ (k : Nat) (v : Value), v = vf ∧ vi = .int .i64 k ∧ k ≤ ts.length ∧ ts.length - k ≤ g ∧ Below w2.heap.size w2 wr2 ∧ wr2.ownsRow w2.heap.size 30 3 v (buildL (rawAt l) (ts.take k)).length (cellsOfS (buildL (rawAt l) (ts.take k))))
      case atStart => exact ⟨0, .slice none 0 0, rfl, rfl, by omega, by omega, Below.refl _ _, ⟨rfl, .inl ⟨rfl, rfl⟩⟩⟩
      case round =>
        obtain ⟨k, v, rfl, rfl, hk, hg, hbr, ho⟩ := hrel
        have HBR := hidE hbr; have HO := hidE ho
        clear ho
        by_cases hlt : k < ts.length
        · obtain ⟨b, off, rfl, hb, hc⟩ := (HA2.out.past hbr) (by omega)
          have d0 := hc k hlt
          have HST := hidE (buildL_step (g := rawAt l) hlt)
          have hfl := buildL_len (rawAt l) ts k hk
          have HAL : ArgS wr a l := (HA.out.past HB2.out).past hbr
          have HALL := hidE HAL
          have HRW := hidE (fun w hA => rraw_c l a cap (ts.getD k 0) w (by omega) hA)
          clear hc hbr HAL
          generalize buildL (rawAt l) (ts.take k) = f at *
          generalize rawAt l (ts.getD k 0) = y at *
          generalize ts.getD k 0 = t at *
          have HWI := hidE (fun (w : World) (hB : w2.heap.size ≤ w.heap.size) (ho : w.ownsRow w2.heap.size 30 3 v f.length (cellsOfS f)) => rwith_c f v w2.heap.size t y.1 y.2 w hB (by omega) ho)
          have hwr : w2.heap.size ≤ wr.heap.size := HBR.out.size
          obtain ⟨wo, rfl⟩ : ∃ wo : World, wo = wr := ⟨_, rfl⟩
          go_wp2_with fail
          refine wp_region_J 11 [] (nthR [detR v, detR (.slice (some ⟨b, off, none⟩) ts.length c2), detR (.int .i64 k), detR (.pointer (some ⟨b, off + k, none⟩)), detR (.int .i64 t), detR (.slice a l.length cap), detR (.slice (some ⟨b, off, none⟩) ts.length c2), detR (.int .i64 k), detR (.pointer (some ⟨b, off + k, none⟩)), detR (.int .i64 t), detR (V y.1 y.2)]) (fun _ => false) (by kernel_rfl) (by simp) (by kernel_rfl) (stab_nth (by simp [stab_det, stab_new, stab_sli])) ?_ ?_ ?_
          · intro i o hi ho
            match i, hi with
            | 0, _ =>
              obtain rfl := Option.some.inj ho
              intro u x hd
              have hc := Past.cell x
              simp [go_sem, gives, frm, Act.put, nthR, detR, Region.wanted, Below.refl, hc]
            | 1, _ =>
              obtain rfl := Option.some.inj ho
              intro u x hd
              have hc := Past.cell x
              simp [go_sem, gives, frm, Act.put, nthR, detR, Region.wanted, Below.refl, hc]
            | 2, _ =>
              obtain rfl := Option.some.inj ho
              intro u x hd
              have hc := Past.cell x
              simp [go_sem, gives, frm, Act.put, nthR, detR, Region.wanted, Below.refl, hc]
            | 3, _ =>
              obtain rfl := Option.some.inj ho
              intro u x hd
              have hc := Past.cell x
              have d1 := hd 1 (by decide) (by kernel_rfl)
              have d2 := hd 2 (by decide) (by kernel_rfl)
              simp only [nthR, detR, List.getD_cons_zero, List.getD_cons_succ] at d1 d2
              simp [go_sem, gives, frm, Act.put, nthR, detR, Region.wanted, Below.refl, hc, d1, d2, hlt]
            | 4, _ =>
              obtain rfl := Option.some.inj ho
              intro u x hd
              have hc := Past.cell x
              have d3 := hd 3 (by decide) (by kernel_rfl)
              simp only [nthR, detR, List.getD_cons_zero, List.getD_cons_succ] at d3
              simp [go_sem, gives, frm, Act.put, nthR, detR, Region.wanted, Below.refl, hc, d3, d0, hb]
            | 5, _ =>
              obtain rfl := Option.some.inj ho
              intro u x hd
              have hc := Past.cell x
              simp [go_sem, gives, frm, Act.put, nthR, detR, Region.wanted, Below.refl, hc]
            | 6, _ =>
              obtain rfl := Option.some.inj ho
              intro u x hd
              have hc := Past.cell x
              simp [go_sem, gives, frm, Act.put, nthR, detR, Region.wanted, Below.refl, hc]
            | 7, _ =>
              obtain rfl := Option.some.inj ho
              intro u x hd
              have hc := Past.cell x
              simp [go_sem, gives, frm, Act.put, nthR, detR, Region.wanted, Below.refl, hc]
            | 8, _ =>
              obtain rfl := Option.some.inj ho
              intro u x hd
              have hc := Past.cell x
              have d6 := hd 6 (by decide) (by kernel_rfl)
              have d7 := hd 7 (by decide) (by kernel_rfl)
              simp only [nthR, detR, List.getD_cons_zero, List.getD_cons_succ] at d6 d7
              simp [go_sem, gives, frm, Act.put, nthR, detR, Region.wanted, Below.refl, hc, d6, d7, hlt]
            | 9, _ =>
              obtain rfl := Option.some.inj ho
              intro u x hd
              have hc := Past.cell x
              have d8 := hd 8 (by decide) (by kernel_rfl)
              simp only [nthR, detR, List.getD_cons_zero, List.getD_cons_succ] at d8
              simp [go_sem, gives, frm, Act.put, nthR, detR, Region.wanted, Below.refl, hc, d8, d0, hb]
            | 10, _ =>
              obtain rfl := Option.some.inj ho
              intro u x hd
              have hc := Past.cell x
              have d5 := hd 5 (by decide) (by kernel_rfl)
              have d9 := hd 9 (by decide) (by kernel_rfl)
              simp only [nthR, detR, List.getD_cons_zero, List.getD_cons_succ] at d5 d9
              simp [go_sem, gives, frm, Act.put, nthR, detR, Region.wanted, Below.refl, hc, d5, d9]
              exact HRW.out _ (HALL.out.past x.2)
            | i + 11, h => exact absurd h (by omega)
          · intro i o h; cases h
          · intro u x hu hne
            have d0 := hu 0 (by decide); have d4 := hu 4 (by decide); have d10 := hu 10 (by decide)
            simp only [nthR, detR, List.getD_cons_zero, List.getD_cons_succ] at d0 d4 d10
            have hx := x.2
            have HXX := hidE hx
            clear hx hu hne
            simp only [frm, List.take, Act.put, d0, d4, d10]
            clear d0 d4 d10
            generalize x.1 = w5 at *
            go_wp2_with (go_at_call 33; ((with_reducible refine (HWI.out _ (Nat.le_trans hwr HXX.out.size) (own_below HO.out HXX.out)).mono ?_); rintro e w6 ⟨v', rfl, ho6, hg6⟩))
            have hb6 : Below w2.heap.size w2 w6 := (HBR.out.trans (HXX.out.mono hwr)).grown hg6 (Nat.le_trans hwr HXX.out.size) (fun k hk => own_block HO.out hk)
            have hlen := withL_len f t y
            rw [← HST.out] at ho6
            have HB6 := hidE hb6; have HO6 := hidE ho6
            clear hb6 ho6 hg6
            go_wp2
            go_roundg (ts.length - (k + 1))
            case measure => omega
            case rel => exact ⟨k + 1, v', rfl, by go_num, by omega, Nat.le_refl _, HB6.out, HO6.out⟩
        · have hk' : k = ts.length := by omega
          subst hk'
          have ho := HO.out
          rw [List.take_length] at ho
          have HO2 := hidE ho; clear ho HO
          go_wp2
          go_ret2
          exact ⟨_, _, 0, rfl, sliS_own HO2.out, .inl ⟨HX.out, rfl, HI.out⟩, HB2.out.trans (HBR.out.mono HB2.out.size)⟩
end Go.Proofs.Ytibmldgbimjgfaa
