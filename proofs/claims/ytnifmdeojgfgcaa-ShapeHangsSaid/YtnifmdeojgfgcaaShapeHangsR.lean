/- The walk of the statement on how parts hang together. No conditions but sizes, and that the slice reads as parts. ShapeHangs: for every definition the statement's function answers true and leaves its argument alone. No conditions. -/
import Derived.Test.YtnifmdeojgfgcaaP8GC
import Derived.Test.YtnifmdeojgfgcaaP8GB
import Derived.Laws.MakeOwn
import Derived.Test.YtnifmdeojgfgcaaP8GA
namespace Go.Proofs.Ytnifmdeojgfgcaa
open Go.ChangeShapes Go.WideShapes Go.ChangeAt Go.RowKit
attribute [local irreducible] Go.Calls

theorem make_ints (n : Nat) (hn : n ≤ 1000000000) : ∀ w, (Instr.makeSlice 32 (.int .i64 (n : Int)) (.int .i64 (n : Int))).run Try.prog w = .ok (.slice (some ⟨w.heap.size, 0, none⟩) n n) (w.alloc (.cells (madeCells #[.int .i64 0] (n * 1)) 3)) := by
  intro w
  obtain ⟨i0, hi, hz0, hz1, hz2⟩ := info_parts Try.infoIntL
  have h := run_make (P := Try.prog) w 32 3 i0 (.int .i64 0) Try.underlying32 hi hz0 .i64 .i64 n n (by omega) (by omega) (by rw [hz2]; omega) (by omega)
  rw [h]
  simp only [Int.toNat_natCast, hz1, Value.cells]
theorem kidsGo_get (l : List Prt) : ∀ (n p k : Nat), k < n → (kidsGo l n p).getD k 0 = kidAt l p k
  | 0, p, k, h => by omega
  | n + 1, p, 0, _ => rfl
  | n + 1, p, k + 1, h => by
    rw [kidAt_next, ← kidsGo_get l n (endS l p) k (by omega)]
    rfl
/-- What the walk keeps: the definition, its parts, and how often each part has been met as a child. -/
def HG8 (W : World) (fr to' : Int) (a : Option Addr) (l : List Prt) (cap pb : Nat) (f : Nat → Nat) (w : World) : Prop :=
  TS W fr to' a l cap w ∧ W.heap.size < pb ∧ ∃ cs : Array Value, Blk w pb cs 3 ∧ cs.size = l.length ∧ ∀ c, c < l.length → cs[c]? = some (.int .i64 (f c : Nat))
section
variable {W : World} {fr to' : Int} {a : Option Addr} {l : List Prt} {cap pb : Nat} {f : Nat → Nat} {w w' : World}
theorem HG8.past (h : HG8 W fr to' a l cap pb f w) (hb : Below w.heap.size w w') : HG8 W fr to' a l cap pb f w' := by
  obtain ⟨h1, h2, cs, h3, h4⟩ := h
  exact ⟨h1.past hb, h2, cs, h3.past hb, h4⟩
theorem HG8.bel (h : HG8 W fr to' a l cap pb f w) : Below W.heap.size W w := h.1.bel
theorem HG8.d (h : HG8 W fr to' a l cap pb f w) : Blk w W.heap.size #[.int .i64 fr, .int .i64 to', .slice a l.length cap] 24 := h.1.d
theorem HG8.T (h : HG8 W fr to' a l cap pb f w) : ArgP w a l := h.1.T
theorem HG8.lt (h : HG8 W fr to' a l cap pb f w) : pb < w.heap.size := by
  obtain ⟨_, _, cs, h3, _⟩ := h; exact h3.lt
theorem HG8.free (h : HG8 W fr to' a l cap pb f w) (i : Nat) : w.frozen? ⟨pb, i, none⟩ = false := by
  obtain ⟨_, _, cs, h3, _⟩ := h; exact h3.free i
theorem HG8.cell (h : HG8 W fr to' a l cap pb f w) {c : Nat} (hc : c < l.length) : w.cell? ⟨pb, c, none⟩ = some (.int .i64 (f c : Nat)) := by
  obtain ⟨_, _, cs, h3, _, h5⟩ := h; rw [h3.cell c]; exact h5 c hc
theorem HG8.same {f' : Nat → Nat} (h : HG8 W fr to' a l cap pb f w) (hf : ∀ c, c < l.length → f c = f' c) : HG8 W fr to' a l cap pb f' w := by
  obtain ⟨h1, h2, cs, h3, h4, h5⟩ := h
  exact ⟨h1, h2, cs, h3, h4, fun c hc => by rw [← hf c hc]; exact h5 c hc⟩
theorem HG8.set (h : HG8 W fr to' a l cap pb f w) (hA : ArgP W a l) {c : Nat} (v : Nat) : HG8 W fr to' a l cap pb (fun x => if x = c then v else f x) (w.setCell ⟨pb, c, none⟩ (.int .i64 (v : Nat))) := by
  obtain ⟨h1, h2, cs, h3, h4, h5⟩ := h
  have hb : Below W.heap.size W (w.setCell ⟨pb, c, none⟩ (.int .i64 (v : Nat))) := h1.bel.setCell (p := ⟨pb, c, none⟩) (by show W.heap.size ≤ pb; omega) _
  refine ⟨⟨hb, h1.d.other (by omega) _, hA.past hb⟩, h2, _, h3.set c _, by simp [h4], fun x hx => ?_⟩
  simp only [Array.getElem?_setIfInBounds]
  by_cases e : c = x
  · subst e; rw [if_pos rfl, if_pos (by omega), if_pos rfl]
  · rw [if_neg e, if_neg (fun c => e c.symm)]; exact h5 x hx
end
set_option maxRecDepth 100000 in
set_option maxHeartbeats 4000000 in
theorem shhangs_walk (fr to' : Int) (l : List Prt) (a : Option Addr) (cap : Nat) (W : World) (hl : l.length ≤ 9223372036854775807) (hA : ArgP W a l) (hf : -9223372036854775808 ≤ fr ∧ fr ≤ 9223372036854775807) (ht : -9223372036854775808 ≤ to' ∧ to' ≤ 9223372036854775807) :
    Calls Try.prog 4 #[def8 fr to' a l.length cap] W fun e w' => e = .returned (.bool true) ∧ Below W.heap.size W w' := by
  have HS0 := hidE (show TS W fr to' a l cap (W.alloc (.cells #[.int .i64 fr, .int .i64 to', .slice a l.length cap] 24)) from ⟨by (repeat (first | exact Below.refl _ _ | assumption | refine balloc ?_ _ | refine below_drewN ?_ _ | refine bstep (by assumption) ?_ | refine bstep (Past.prop _) ?_ | refine Below.setCell ?_ (by first | exact Nat.le_refl _ | (simp; done) | (simp; omega)) _)), Blk.made _ _ _, hA.past (by (repeat (first | exact Below.refl _ _ | assumption | refine balloc ?_ _ | refine below_drewN ?_ _ | refine bstep (by assumption) ?_ | refine bstep (Past.prop _) ?_ | refine Below.setCell ?_ (by first | exact Nat.le_refl _ | (simp; done) | (simp; omega)) _)))⟩)
  have CH := hidE (fun w hA => shchk_c fr to' l a cap w hl hA hf ht)
  by_cases he : (chkS fr to' l).2 = 0
  · have hok := chk_ok he
    rw [hok.1] at CH
    have htr := hok.2.2.1
    have h64 := hok.2.2.2
    have HH := hidE (tree_hang htr)
    have q1 : decide ((l.length : Int) > 200) = false := decide_eq_false (by omega)
    have q2 : decide (200 < l.length) = false := decide_eq_false (by omega)
    have HL := hidE h64
    have HA0 := hidE hA
    have hmay : ∀ i : Nat, i < l.length → mayS l (i : Int) = 0 := fun i hi => by
      unfold mayS
      rw [if_neg (by rw [htr]; simp), if_neg (by omega)]
    have HKD := hidE (fun (i : Nat) (hi : i < l.length) => tree_kids htr hi)
    have KS := hidE (fun (i : Nat) (hi : i < l.length) w hA => h8_kids l (i : Int) (kidsS l i) (hmay i hi) (by rw [Int.toNat_natCast]) l.length rfl a cap w (by omega) hA (by omega))
    have EN := hidE (fun (i : Nat) (hi : i < l.length) w hA => h8_end l (i : Int) (endS l i) 0 (hmay i hi) (by rw [Int.toNat_natCast, if_pos rfl]) l.length rfl a cap w (by omega) hA (by omega))
    have DP := hidE (fun (i : Nat) (hi : i < l.length) w hA => h8_depth l (i : Int) (depthS l i) 0 (hmay i hi) (by rw [Int.toNat_natCast, if_pos rfl]) l.length rfl a cap w (by omega) hA (by omega))
    have MK := hidE (make_ints l.length (by omega))
    clear hok he h64 hf ht hA htr hmay
    go_enter Try.func4, Try.ntmps4
    go_wp2_with fail
    ((with_reducible refine (CH.out _ HS0.out.T).mono ?_); rintro e w1 ⟨rfl, hb1⟩)
    have HS := hidE (HS0.out.past hb1); clear HS0 hb1
    have p2 := HS.out.d.cell 2; have pz := HS.out.d.lt
    simp at p2
    have hmk := MK.out
    go_wp2_with fail
    clear hmk
    obtain ⟨pb, hpb⟩ : ∃ pb, pb = w1.heap.size := ⟨_, rfl⟩
    have HG0 := hidE (show HG8 W fr to' a l cap pb (fun c => parS8 l c 0) (w1.alloc (.cells (madeCells #[.int .i64 0] l.length) 3)) from by
      refine ⟨HS.out.past (by (repeat (first | exact Below.refl _ _ | assumption | refine balloc ?_ _ | refine below_drewN ?_ _ | refine bstep (by assumption) ?_ | refine bstep (Past.prop _) ?_ | refine Below.setCell ?_ (by first | exact Nat.le_refl _ | (simp; done) | (simp; omega)) _))), by have := HS.out.d.lt; omega, _, Blk.made_at _ _ _ _ hpb, by simp [madeCells], fun c hc => ?_⟩
      simp [madeCells, parS8, hc, Nat.mod_one])
    rw [← hpb]
    generalize World.alloc _ _ = w2 at *
    clear p2 pz HS hpb
    go_loopg [6] l.length (fun gh v6 wr => ∃ i : Nat, i ≤ l.length ∧ l.length - i ≤ gh ∧ v6 = .int .i64 i ∧ HG8 W fr to' a l cap pb (fun c => parS8 l c i) wr)
    case atStart => exact ⟨0, Nat.zero_le _, Nat.le_refl _, rfl, HG0.out⟩
    case round =>
      obtain ⟨i, hi, hgh, rfl, hst⟩ := hrel
      have HG := hidE hst; have HGH := hidE hgh
      clear hst hgh
      by_cases hlt : i < l.length
      · have r1 : decide ((i : Int) < (l.length : Int)) = true := decide_eq_true (by omega)
        have r2 : decide (i < l.length) = true := decide_eq_true hlt
        have p2 := HG.out.d.cell 2; have pz := HG.out.d.lt
        simp at p2
        go_wp2_with fail
        ((with_reducible refine (KS.out i hlt _ HG.out.T).mono ?_); rintro e w3 ⟨ka, kc, rfl, hK, hb3, hfr⟩)
        have HFR := hidE (fun b2 o2 (e : ka = some ⟨b2, o2, none⟩) => show b2 ≠ pb from by have := hfr b2 o2 e; have := HG.out.lt; omega)
        clear hfr
        have HK := hidE hK; replace HG := hidE (HG.out.past hb3); clear hb3 hK p2 pz
        have p2 := HG.out.d.cell 2; have pz := HG.out.d.lt
        simp at p2
        go_wp2_with fail
        ((with_reducible refine (EN.out i hlt _ HG.out.T).mono ?_); rintro e w4 ⟨rfl, hb4⟩)
        replace HK := hidE (HK.out.past hb4); replace HG := hidE (HG.out.past hb4); clear hb4 p2 pz
        have p2 := HG.out.d.cell 2; have pz := HG.out.d.lt
        simp at p2
        go_wp2_with fail
        ((with_reducible refine (DP.out i hlt _ HG.out.T).mono ?_); rintro e w5 ⟨rfl, hb5⟩)
        replace HK := hidE (HK.out.past hb5); replace HG := hidE (HG.out.past hb5); clear hb5 p2 pz
        have p2 := HG.out.d.cell 2; have pz := HG.out.d.lt
        simp at p2
        obtain ⟨b, off, rfl, hbb, hcc⟩ := HG.out.T (by omega)
        obtain ⟨_, _, _, _, c4⟩ := hcc.get hlt
        rw [show l.getD i pr0 = prN l i from rfl] at c4
        have hks : 0 ≤ (prN l i).kids ∧ (prN l i).kids ≤ 16 := HKD.out i hlt
        obtain ⟨K, hK⟩ : ∃ K : Nat, (prN l i).kids = (K : Int) := ⟨(prN l i).kids.toNat, (Int.toNat_of_nonneg hks.1).symm⟩
        have HKN := hidE (show (prN l i).kids.toNat = K from by rw [hK]; exact Int.toNat_natCast K)
        have hKl : (kidsS l i).length = K := by unfold kidsS; rw [kidsGo_len]; exact HKN.out
        rw [hK] at c4
        rw [hKl]
        have hup := HH.out.up i hlt
        have hdp := depth_le HH.out hlt
        have e1 : decide ((endS l i : Int) ≤ (i : Int)) = false := decide_eq_false (by omega)
        have e1' : decide (endS l i ≤ i) = false := decide_eq_false (by omega)
        have e2 : decide ((endS l i : Int) > (l.length : Int)) = false := decide_eq_false (by omega)
        have e2' : decide (l.length < endS l i) = false := decide_eq_false (by omega)
        have e3 : decide ((depthS l i : Int) < 1) = false := decide_eq_false (by omega)
        have e3' : decide (depthS l i < 1) = false := decide_eq_false (by omega)
        have e4 : decide ((depthS l i : Int) > 8) = false := decide_eq_false (by omega)
        have e4' : decide (8 < depthS l i) = false := decide_eq_false (by omega)
        have HI := hidE (And.intro hi hlt)
        have HEI := hidE hup; have HDI := hidE hdp
        have HKI := hidE (fun k (hk : k < K) => kid_is (k := k) HH.out hlt (by rw [HKN.out]; exact hk))
        have HKG := hidE (fun k (hk : k < K) => show (kidsS l i).getD k 0 = kidAt l (i + 1) k from kidsGo_get l _ _ k (by rw [HKN.out]; exact hk))
        have HDK := hidE (fun k (hk : k < K) => depth_kid HH.out hlt (HKI.out k hk))
        have HCH := hidE (show kidAt l (i + 1) K = endS l i from by rw [← HKN.out]; exact HH.out.chain i hlt)
        have hk16 : K ≤ 16 := by have := hks.2; rw [hK] at this; omega
        clear hks hcc hup hi hK
        have hi64 : i ≤ 64 := by have := HL.out; omega
        go_wp2_with fail
        clear p2 pz c4 e1 e1' e2 e2' e3 e3' e4 e4' r1 r2
        go_loopg [13, 14] K (fun g2 v13 v14 wx => ∃ k : Nat, k ≤ K ∧ K - k ≤ g2 ∧ v14 = .int .i64 k ∧ v13 = .int .i64 (kidAt l (i + 1) k) ∧ HG8 W fr to' (some ⟨b, off, none⟩) l cap pb (fun c => parS8 l c i + kcS l i c k) wx ∧ ArgK .i64 wx ka (natsI (kidsS l i)))
        case atStart => exact ⟨0, Nat.zero_le _, Nat.le_refl _, rfl, by simp [kidAt], HG.out, HK.out⟩
        case round =>
          obtain ⟨k, hk, hg2, rfl, rfl, hst, hKK⟩ := hrel
          replace HG := hidE hst; replace HK := hidE hKK; have HG2 := hidE hg2
          clear hst hKK hg2
          by_cases hkt : k < K
          · have s1 : decide ((k : Int) < (K : Int)) = true := decide_eq_true (by omega)
            have s2 : decide (k < K) = true := decide_eq_true hkt
            have hkid := HKI.out k hkt
            have hcl : kidAt l (i + 1) k < l.length := Nat.lt_of_lt_of_le hkid.2.1 HEI.out.2
            obtain ⟨b2, off2, rfl, hbb2, hc2⟩ := HK.out (by rw [natsI_len, hKl]; omega)
            have c0 := hc2 k (by rw [natsI_len, hKl]; exact hkt)
            rw [natsI_get (by rw [hKl]; exact hkt), HKG.out k hkt] at c0
            have HDE := hidE (HDK.out k hkt)
            have HNX := hidE (show kidAt l (i + 1) (k + 1) = endS l (kidAt l (i + 1) k) from rfl)
            have HKC := hidE (show ∀ c, kcS l i c (k + 1) = kcS l i c k + (if kidAt l (i + 1) k = c then 1 else 0) from fun c => rfl)
            have HEB := hidE ((HH.out.up _ hcl).2)
            have HHI := hidE hkid
            clear hkid hc2
            generalize kidAt l (i + 1) k = c at *
            have s3 : ((c : Int) != (c : Int)) = false := by simp
            have s4 : decide ((c : Int) ≥ (l.length : Int)) = false := decide_eq_false (by omega)
            have s4' : decide (l.length ≤ c) = false := decide_eq_false (by omega)
            have p2 := HG.out.d.cell 2; have pz := HG.out.d.lt
            simp at p2
            have hsm : c ≤ 64 ∧ K ≤ 100 := by have := HL.out; omega
            have hle := par_le HH.out hcl hlt (k := k) (by rw [HKN.out]; exact hk)
            go_upto_region 17 with fail
            refine wp_region_past_lit (by kernel_rfl) (by kernel_rfl) ?_
            have hcp := Past.cell (W := wr)
            repeat (go_big_quiet_step (fail))
            refine wpQuiet_nil ?_
            rintro _ ⟨x', rfl⟩
            replace HG := hidE (HG.out.past x'.2); replace HK := hidE (HK.out.past x'.2)
            replace c0 := (x'.2.cell (p := ⟨b2, off2 + k, none⟩) hbb2).trans c0
            replace hbb2 := Nat.lt_of_lt_of_le hbb2 x'.2.size
            clear hcp p2 pz
            generalize x'.1 = w6 at *
            have pc := HG.out.cell hcl; have pf := HG.out.free c; have pl := HG.out.lt
            obtain ⟨m0, hm0⟩ : ∃ m0, parS8 l c i + kcS l i c k = m0 := ⟨_, rfl⟩
            rw [hm0] at pc hle
            have HM0 := hidE hm0; clear hm0
            go_upto_region 20 with fail
            have hne := HFR.out b2 off2 rfl
            have h1 := HG.out.set HA0.out (c := c) (m0 + 1)
            rw [show ((m0 + 1 : Nat) : Int) = (m0 : Int) + 1 from by omega] at h1
            have h1' := h1.same (f' := fun y => parS8 l y i + kcS l i y (k + 1)) (fun y hy => by
              show (if y = c then m0 + 1 else _) = _
              rw [HKC.out y]
              by_cases e : y = c
              · subst e; rw [if_pos rfl, if_pos rfl, ← HM0.out]; omega
              · rw [if_neg e, if_neg (fun d => e d.symm)]; omega)
            have hc0' : (w6.setCell ⟨pb, c, none⟩ (.int .i64 ((m0 : Int) + 1))).cell? ⟨b2, off2 + k, none⟩ = some (.int .i64 (c : Int)) := by
              unfold World.cell?
              rw [show (w6.setCell ⟨pb, c, none⟩ (.int .i64 ((m0 : Int) + 1))).heap[b2]? = w6.heap[b2]? from keptS hne _]
              exact c0
            have hK' : ArgK .i64 (w6.setCell ⟨pb, c, none⟩ (.int .i64 ((m0 : Int) + 1))) (some ⟨b2, off2, none⟩) (natsI (kidsS l i)) := fun hl' => by
              obtain ⟨b3, o3, e3, h2, h3⟩ := HK.out hl'
              cases e3
              refine ⟨b2, off2, rfl, by simpa [World.setCell] using h2, fun y hy => ?_⟩
              unfold World.cell?
              rw [show (w6.setCell ⟨pb, c, none⟩ (.int .i64 ((m0 : Int) + 1))).heap[b2]? = w6.heap[b2]? from keptS hne _]
              exact h3 y hy
            have hz' : b2 < (w6.setCell ⟨pb, c, none⟩ (.int .i64 ((m0 : Int) + 1))).heap.size := by simpa [World.setCell] using hbb2
            clear c0 hbb2 pc pf pl h1
            replace HG := hidE h1'; replace HK := hidE hK'
            clear h1' hK'
            generalize World.setCell _ _ _ = w7 at *
            have p2 := HG.out.d.cell 2; have pz := HG.out.d.lt
            simp at p2
            refine wp_region_past_lit (by kernel_rfl) (by kernel_rfl) ?_
            have hcp := Past.cell (W := w7)
            repeat (go_big_quiet_step ((go_at_call 14; exact Past.call _ (EN.out c hcl _ (HG.out.T.past (Past.prop _))))))
            refine wpQuiet_nil ?_
            rintro _ ⟨x', rfl⟩
            replace HG := hidE (HG.out.past x'.2); replace HK := hidE (HK.out.past x'.2)
            replace hc0' := (x'.2.cell (p := ⟨b2, off2 + k, none⟩) hz').trans hc0'
            replace hz' := Nat.lt_of_lt_of_le hz' x'.2.size
            clear hcp p2 pz
            generalize x'.1 = w8 at *
            have p2 := HG.out.d.cell 2; have pz := HG.out.d.lt
            simp at p2
            go_upto_region 21 with fail
            refine wp_region_past_lit (by kernel_rfl) (by kernel_rfl) ?_
            have hcp := Past.cell (W := w8)
            repeat (go_big_quiet_step ((go_at_call 15; exact Past.call _ (DP.out c hcl _ (HG.out.T.past (Past.prop _))))))
            refine wpQuiet_nil ?_
            rintro _ ⟨x', rfl⟩
            replace HG := hidE (HG.out.past x'.2); replace HK := hidE (HK.out.past x'.2)
            clear hcp p2 pz hz' hc0'
            generalize x'.1 = w9 at *
            have hd8 := HDI.out.2
            have s5 : ((depthS l c : Int) != (depthS l i : Int) + 1) = false := by rw [bne_eq_false_iff_eq, HDE.out]; omega
            generalize depthS l c = dc at *
            generalize endS l c = ec at *
            go_wp2_with fail
            go_roundg (K - (k + 1))
            case measure => have := HG2.out; omega
            case rel => exact ⟨k + 1, by omega, Nat.le_refl _, by go_num, by rw [HNX.out], HG.out, HK.out⟩
          · obtain rfl : k = K := by omega
            have s1 : decide ((k : Int) < (k : Int)) = false := decide_eq_false (by omega)
            have s2 : decide (k < k) = false := decide_eq_false (by omega)
            have s3 : ((kidAt l (i + 1) k : Int) != (endS l i : Int)) = false := by rw [bne_eq_false_iff_eq, HCH.out]
            have HNP := hidE (show ∀ y, parS8 l y (i + 1) = parS8 l y i + kcS l i y k from fun y => by rw [parS8, HKN.out])
            generalize kidAt l (i + 1) k = c at *
            generalize endS l i = ei at *
            go_wp2_with fail
            go_roundg (l.length - (i + 1))
            case measure => have := HGH.out; omega
            case rel => exact ⟨i + 1, by omega, Nat.le_refl _, by go_num, HG.out.same (fun y _ => (HNP.out y).symm)⟩
      · obtain rfl : i = l.length := by omega
        have r1 : decide ((l.length : Int) < (l.length : Int)) = false := decide_eq_false (by omega)
        have r2 : decide (l.length < l.length) = false := decide_eq_false (by omega)
        have p2 := HG.out.d.cell 2; have pz := HG.out.d.lt
        simp at p2
        have HGF := hidE (HG.out.same (f' := fun y => min y 1) (fun y hy => par_all HH.out hy))
        clear HG
        go_wp2_with fail
        clear p2 pz r1 r2
        go_loopg [19] l.length (fun g3 v19 wx => ∃ j : Nat, j ≤ l.length ∧ l.length - j ≤ g3 ∧ v19 = .int .i64 j ∧ HG8 W fr to' a l cap pb (fun y => min y 1) wx)
        case atStart => exact ⟨0, Nat.zero_le _, Nat.le_refl _, rfl, HGF.out⟩
        case round =>
          obtain ⟨j, hj, hg3, rfl, hst⟩ := hrel
          have HG3 := hidE hg3; have HGJ := hidE hst
          clear hg3 hst
          by_cases hjt : j < l.length
          · have s1 : decide ((j : Int) < (l.length : Int)) = true := decide_eq_true (by omega)
            have s2 : decide (j < l.length) = true := decide_eq_true hjt
            have pc := HGJ.out.cell hjt; have pl := HGJ.out.lt
            obtain ⟨v, hv⟩ : ∃ v : Nat, min j 1 = v := ⟨_, rfl⟩
            simp only [hv] at pc
            have s3 : ((v : Int) != (if (1 : Int) < (j : Int) then 1 else (j : Int))) = false := by
              rw [bne_eq_false_iff_eq, ← hv]
              by_cases c : (1 : Int) < (j : Int)
              · rw [if_pos c]; omega
              · rw [if_neg c]; omega
            clear hv
            have hj64 : j ≤ 64 := by have := HL.out; omega
            go_wp2_with fail
            all_goals
              go_roundg (l.length - (j + 1))
              case measure => have := HG3.out; omega
              case rel => exact ⟨j + 1, by omega, Nat.le_refl _, by go_num, HGJ.out⟩
          · obtain rfl : j = l.length := by omega
            have s1 : decide ((l.length : Int) < (l.length : Int)) = false := decide_eq_false (by omega)
            have s2 : decide (l.length < l.length) = false := decide_eq_false (by omega)
            go_wp2_with fail
            ((with_reducible refine (head8_c _).mono ?_); rintro e w9 ⟨rfl, hb9⟩)
            have HB := hidE (HGJ.out.past hb9).bel
            clear hb9
            go_wp2
            go_ret
            exact ⟨rfl, HB.out⟩
  · have m1 : ((chkS fr to' l).2 != 0) = true := bne_iff_ne.2 he
    clear he hf ht hA
    generalize chkS fr to' l = C at *
    obtain ⟨cx, cy⟩ := C
    simp only at m1
    go_enter Try.func4, Try.ntmps4
    go_wp2_with fail
    ((with_reducible refine (CH.out _ HS0.out.T).mono ?_); rintro e w1 ⟨rfl, hb1⟩)
    have HS := hidE (HS0.out.past hb1); clear HS0 hb1
    go_wp2_with fail
    ((with_reducible refine (head8_c _).mono ?_); rintro e w2 ⟨rfl, hb2⟩)
    replace HS := hidE (HS.out.past hb2); clear hb2
    go_wp2
    go_ret
    exact ⟨rfl, HS.out.bel⟩
end Go.Proofs.Ytnifmdeojgfgcaa

namespace Go.Proofs.Ytnifmdeojgfgcaa
open Go.ChangeShapes Go.WideShapes Go.ChangeAt Go.RowKit
set_option maxRecDepth 100000 in
theorem shapeHangs_lifted (os : Os) (started : os.Started) (H : Type) (enc : TypeId × Value → H) :
    ReturnsInHanded {} Try.checked os 4 .any (Rows.shapeHangsSpec.pre6 enc Try.prog Try.f4 Rows.shapeHangsRow.domain false) (Rows.shapeHangsSpec.post enc Try.prog Try.f4 false true false false) := by
  refine returnsInHanded_of_change (C := Try.checked) own started (by kernel_rfl) Try.func4
    (ChangeSpec.witness6 (enc := enc) (C := Try.checked) false ⟨#[], #[.agg #[.int .i64 0, .int .i64 0, .slice none 0 0]], []⟩ 8 (by kernel_rfl) (by kernel_rfl) (by kernel_rfl) (by kernel_rfl)) ?_
  intro W base args ds gs before hval0 hW _ _
  have hval : ∀ (j : Nat) t v, Try.f4.params[j]? = some t → args[j]? = some v → Value.okWide Try.prog W .any base t v := hval0
  have hW' := hW
  obtain ⟨p, q, hA0, hV, rfl, hfz, hnd⟩ := hW
  have hA : DataW.TrodAll enc Try.prog W 0 (fun _ => true) true Try.f4.params.toList args.toList ds p := hA0
  rw [Try.params4] at hA hval
  obtain ⟨v0, vs0, d0, ds0, p0, q0, hargs, rfl, rfl, h0, r0⟩ := trodAll_cons hA
  obtain ⟨rfl, rfl, rfl⟩ := trodAll_nil r0
  obtain rfl : args = #[v0] := by cases args; simp_all
  obtain ⟨f0, t0, l0, o0, c0, rfl, hf0, ht0, hl0, hc0, hA0', hP0⟩ := open_defP (hval 0 24 v0 rfl rfl) h0
  clear hA0 hval0
  refine (shhangs_walk f0 t0 l0 o0 c0 W (by omega) hA0' hf0 ht0).mono fun e W' ⟨he, hb⟩ => ?_
  subst he
  exact ⟨_, rfl, law_post laidOut (readOk_spec (by kernel_rfl)) rfl Try.underlying4 rfl ⟨rfl, rfl, rfl⟩ hW' hb⟩

theorem shapeHangs_holds : Rows.ShapeHangsSaid :=
  OpenClaim.holds_of_wide 4 Try.f4 rfl rfl rfl rfl rfl rfl rfl ⟨rfl, rfl, rfl, rfl, rfl⟩ rfl rfl rfl rfl rfl (by kernel_rfl) Try.func4 (by kernel_rfl)
    (of_decide_eq_true (by kernel_rfl)) (by unfold Func.isWrapper; first | (rw [if_pos (by decide +kernel)]; kernel_rfl) | (rw [if_neg (by decide +kernel)]; exact ⟨rfl, rfl⟩))
    (fun os started H enc _ => shapeHangs_lifted os started H enc)
end Go.Proofs.Ytnifmdeojgfgcaa
