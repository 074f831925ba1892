/- VecSums answers true for every slice of vectors. No conditions but that the slice's cells read as integers. -/
import Derived.Test.YtnhegohhffecpaaVecSum
namespace Go.Proofs.Ytnhegohhffecpaa
open Go.ChangeShapes Go.WideShapes Go.ChangeAt Go.RowKit
attribute [local irreducible] Go.Calls

theorem CellsV.past {w w' : World} {b off : Nat} {l : List (Int × Int)} (h : CellsV w b off l) (hb : Below w.heap.size w w') (hlt : b < w.heap.size) : CellsV w' b off l := fun i hi => by
  obtain ⟨h1, h2⟩ := h i hi
  exact ⟨by rw [hb.cell hlt]; exact h1, by rw [hb.cell hlt]; exact h2⟩
theorem CellsV.init {w : World} {b off : Nat} {l : List (Int × Int)} {v : Int × Int} (h : CellsV w b off (l ++ [v])) : CellsV w b off l := fun i hi => by
  have := h i (by simp; omega)
  rw [List.getD_eq_getElem?_getD, List.getElem?_append_left hi, ← List.getD_eq_getElem?_getD] at this
  exact this
theorem CellsV.last {w : World} {b off : Nat} {l : List (Int × Int)} {v : Int × Int} (h : CellsV w b off (l ++ [v])) :
    w.cell? ⟨b, off + l.length * 2, none⟩ = some (.int .i64 v.1) ∧ w.cell? ⟨b, off + l.length * 2 + 1, none⟩ = some (.int .i64 v.2) := by
  have := h l.length (by simp)
  simpa using this

theorem addS_back {a b c d : Int} (h : (addS a b c d).2.2 = 0) : subS (addS a b c d).1 (addS a b c d).2.1 c d = (a, b, 0) := by
  unfold addS at h ⊢
  cases hk : (okV a b && okV c d && okV (a + c) (b + d)) with
  | false => rw [hk] at h; simp [gate] at h
  | true =>
    simp only [Bool.and_eq_true] at hk
    obtain ⟨⟨h1, h2⟩, h3⟩ := hk
    have e1 : a + c - c = a := by omega
    have e2 : b + d - d = b := by omega
    simp only [gate, if_true]
    unfold subS
    rw [e1, e2, h3, h2, h1]; rfl
theorem addFrom_snoc (v : Int × Int) : ∀ (l : List (Int × Int)) (x y : Int), (addFrom x y (l ++ [v])).2.2 = 0 →
    (addFrom x y l).2.2 = 0 ∧ addFrom x y (l ++ [v]) = addS (addFrom x y l).1 (addFrom x y l).2.1 v.1 v.2 := by
  intro l
  induction l with
  | nil =>
    intro x y h
    simp only [List.nil_append, addFrom] at h ⊢
    by_cases hz : (addS x y v.1 v.2).2.2 = 0
    · rw [if_pos hz] at h ⊢
      refine ⟨by simp, ?_⟩
      generalize addS x y v.1 v.2 = g at *
      obtain ⟨g1, g2, g3⟩ := g
      simp at hz ⊢; exact hz.symm
    · rw [if_neg hz] at h; exact absurd h hz
  | cons u r ih =>
    intro x y h
    simp only [List.cons_append, addFrom] at h ⊢
    by_cases hz : (addS x y u.1 u.2).2.2 = 0
    · rw [if_pos hz] at h ⊢
      rw [if_pos hz]
      exact ih _ _ h
    · rw [if_neg hz] at h; exact absurd h hz

set_option maxRecDepth 100000 in
set_option maxHeartbeats 4000000 in
theorem sums_pos (l : List (Int × Int)) (v : Int × Int) (b off cap : Nat) (w : World) (hb0 : b < w.heap.size) (hcap : l.length + 1 ≤ cap) (hl : cap ≤ 9223372036854775807) (hc0 : CellsV w b off (l ++ [v])) :
    Calls Try.prog 4 #[.slice (some ⟨b, off, none⟩) (l.length + 1) cap] w fun e w' => e = .returned (.bool true) ∧ Below w.heap.size w w' := by
  by_cases hbig : 100 < l.length + 1
  · clear hc0
    go_enter Try.func4, Try.ntmps4
    go_wp2_with (go_at_call 21; ((with_reducible refine (head_c _).mono ?_); rintro e w' ⟨rfl, hb⟩))
    go_ret
    exact ⟨rfl, hb⟩
  have hlen : (l ++ [v]).length = l.length + 1 := by simp
  obtain ⟨g, hg⟩ : ∃ g, addL (l ++ [v]) = g := ⟨_, rfl⟩
  obtain ⟨h, hh⟩ : ∃ h, addL l = h := ⟨_, rfl⟩
  have HA : ∀ w', Below w.heap.size w w' → Calls Try.prog 22 #[.slice (some ⟨b, off, none⟩) (l.length + 1) cap] w' fun e w'' => e = .returned (VE g) ∧ Below w'.heap.size w' w'' := fun w' hb => by
    have := add_some (l ++ [v]) b off cap w' (Nat.lt_of_lt_of_le hb0 hb.size) (by omega) (hc0.past hb hb0)
    rw [hlen, hg] at this; exact this
  have HS : ∀ w', Below w.heap.size w w' → Calls Try.prog 23 #[.slice (some ⟨b, off, none⟩) (l.length + 1) cap] w' fun e w'' => e = .returned (VE g) ∧ Below w'.heap.size w' w'' := fun w' hb => by
    have := sum_some (l ++ [v]) b off cap w' (Nat.lt_of_lt_of_le hb0 hb.size) (by omega) (hc0.past hb hb0)
    rw [hlen, hg] at this; exact this
  have HI : ∀ w', Below w.heap.size w w' → Calls Try.prog 22 #[.slice (some ⟨b, off, none⟩) l.length cap] w' fun e w'' => e = .returned (VE h) ∧ Below w'.heap.size w' w'' := fun w' hb => by
    have := add_some l b off cap w' (Nat.lt_of_lt_of_le hb0 hb.size) (by omega) (hc0.init.past hb hb0)
    rw [hh] at this; exact this
  have HM : g.2.2 = 0 → h.2.2 = 0 ∧ subS g.1 g.2.1 v.1 v.2 = (h.1, h.2.1, 0) := fun hz => by
    have h1 := addFrom_snoc v l 0 0 (by have := hg; unfold addL at this; rw [this]; exact hz)
    unfold addL at hg hh
    rw [hg, hh] at h1
    refine ⟨h1.1, ?_⟩
    have h2 := addS_back (a := h.1) (b := h.2.1) (c := v.1) (d := v.2) (by rw [← h1.2]; exact hz)
    rw [← h1.2] at h2
    exact h2
  have hk100 : (l.length : Int) + 1 ≤ 100 := by omega
  have hk1 : (l.length : Int) < (l.length : Int) + 1 := by omega
  have HL := hc0.last
  clear hc0 hg hh hlen hbig
  generalize l.length = k at *
  have HA' := hidE HA; have HS' := hidE HS; have HI' := hidE HI; have HM' := hidE HM; have HL' := hidE HL
  clear HA HS HI HM HL
  go_enter Try.func4, Try.ntmps4
  go_upto_region 3 with fail
  go_cut [3, 4] (fun s3 s4 wx => ∃ p : Nat, s3 = .pointer (some ⟨p, 0, none⟩) ∧ s4 = .int .i64 g.2.2 ∧ w.heap.size ≤ p ∧ Blk wx p #[.int .i64 g.1, .int .i64 g.2.1] 23 ∧ Below w.heap.size w wx)
  case first =>
    go_wp2_with (go_at_call 22; refine (HA'.out _ ?hbb).mono ?_; (case hbb => (repeat (first | exact Below.refl _ _ | assumption | refine balloc ?_ _ | refine below_drewN ?_ _ | refine bstep (by assumption) ?_ | refine bstep (Past.prop _) ?_ | refine Below.setCell ?_ (by first | exact Nat.le_refl _ | (simp; done) | (simp; omega)) _))); rintro e w' ⟨rfl, hb⟩)
    go_meet
    case rel => exact ⟨_, rfl, rfl, hb.size, Blk.made _ _ _, by (repeat (first | exact Below.refl _ _ | assumption | refine balloc ?_ _ | refine below_drewN ?_ _ | refine bstep (by assumption) ?_ | refine bstep (Past.prop _) ?_ | refine Below.setCell ?_ (by first | exact Nat.le_refl _ | (simp; done) | (simp; omega)) _))⟩
  obtain ⟨p3, rfl, rfl, l3, B3, hb⟩ := hcut
  go_upto_region 4 with fail
  go_cut [5, 6] (fun s5 s6 wx => ∃ p : Nat, s5 = .pointer (some ⟨p, 0, none⟩) ∧ s6 = .int .i64 g.2.2 ∧ Blk wx p #[.int .i64 g.1, .int .i64 g.2.1] 23 ∧ Blk wx p3 #[.int .i64 g.1, .int .i64 g.2.1] 23 ∧ Below w.heap.size w wx)
  case first =>
    go_wp2_with (go_at_call 23; refine (HS'.out _ ?hbb).mono ?_; (case hbb => (repeat (first | exact Below.refl _ _ | assumption | refine balloc ?_ _ | refine below_drewN ?_ _ | refine bstep (by assumption) ?_ | refine bstep (Past.prop _) ?_ | refine Below.setCell ?_ (by first | exact Nat.le_refl _ | (simp; done) | (simp; omega)) _))); rintro e w' ⟨rfl, hb⟩)
    go_meet
    case rel => exact ⟨_, rfl, rfl, Blk.made _ _ _, by (repeat (first | assumption | refine Blk.past ?_ (by assumption) | refine Blk.past ?_ (Past.prop _) | refine Blk.alloc ?_ _ | refine Blk.other ?_ (by omega) _ | refine Blk.drew ?_ _)), by (repeat (first | exact Below.refl _ _ | assumption | refine balloc ?_ _ | refine below_drewN ?_ _ | refine bstep (by assumption) ?_ | refine bstep (Past.prop _) ?_ | refine Below.setCell ?_ (by first | exact Nat.le_refl _ | (simp; done) | (simp; omega)) _))⟩
  obtain ⟨p5, rfl, rfl, B5, B3, hb⟩ := hcut
  have C3 := B3.cell 0; have C3' := B3.cell 1; have L3 := B3.lt; have C5 := B5.cell 0; have C5' := B5.cell 1; have L5 := B5.lt
  simp at C3 C3' C5 C5'
  rename World => w1
  by_cases hz : g.2.2 = 0
  · obtain ⟨m1, m2⟩ := HM'.out hz
    have M1 := hidE m1; have M2 := hidE m2
    have g1 : (g.2.2 == 0) = true := beq_iff_eq.2 hz
    have g2 : (g.2.2 != 0) = false := by rw [bne_eq_false_iff_eq]; exact hz
    have k0 : ((k : Int) + 1 == 0) = false := beq_eq_false_iff_ne.2 (by omega)
    clear hz m1 m2
    go_upto_region 9 with fail
    go_cut [7, 8] (fun s7 s8 wx => ∃ p : Nat, s7 = .pointer (some ⟨p, 0, none⟩) ∧ s8 = .int .i64 h.2.2 ∧ Blk wx p #[.int .i64 h.1, .int .i64 h.2.1] 23 ∧ Blk wx p3 #[.int .i64 g.1, .int .i64 g.2.1] 23 ∧ Below w.heap.size w wx)
    case first =>
      go_wp2_with (go_at_call 22; refine (HI'.out _ ?hbb).mono ?_; (case hbb => (repeat (first | exact Below.refl _ _ | assumption | refine balloc ?_ _ | refine below_drewN ?_ _ | refine bstep (by assumption) ?_ | refine bstep (Past.prop _) ?_ | refine Below.setCell ?_ (by first | exact Nat.le_refl _ | (simp; done) | (simp; omega)) _))); rintro e w' ⟨rfl, hb⟩)
      go_meet
      case rel => exact ⟨_, rfl, rfl, Blk.made _ _ _, by (repeat (first | assumption | refine Blk.past ?_ (by assumption) | refine Blk.past ?_ (Past.prop _) | refine Blk.alloc ?_ _ | refine Blk.other ?_ (by omega) _ | refine Blk.drew ?_ _)), by (repeat (first | exact Below.refl _ _ | assumption | refine balloc ?_ _ | refine below_drewN ?_ _ | refine bstep (by assumption) ?_ | refine bstep (Past.prop _) ?_ | refine Below.setCell ?_ (by first | exact Nat.le_refl _ | (simp; done) | (simp; omega)) _))⟩
    obtain ⟨p7, rfl, rfl, B7, B3, hb⟩ := hcut
    have C3 := B3.cell 0; have C3' := B3.cell 1; have L3 := B3.lt
    simp at C3 C3'
    have e0 := HL'.out.1; have e1 := HL'.out.2
    rw [← hb.cell hb0] at e0 e1
    rename World => w2
    have hbr : b < w2.heap.size := Nat.lt_of_lt_of_le hb0 hb.size
    go_upto_region 10 with fail
    go_cut [9, 10] (fun s9 s10 wx => ∃ p : Nat, s9 = .pointer (some ⟨p, 0, none⟩) ∧ s10 = .int .i64 0 ∧ Blk wx p #[.int .i64 h.1, .int .i64 h.2.1] 23 ∧ Blk wx p7 #[.int .i64 h.1, .int .i64 h.2.1] 23 ∧ Below w.heap.size w wx)
    case first =>
      refine wp_region_J 12 [10] (nthR [detR (V g.1 g.2.1), detR (.slice (some ⟨b, off, none⟩) (k + 1) cap), detR (.slice (some ⟨b, off, none⟩) (k + 1) cap), detR (.int .i64 ((k : Int) + 1)), detR (.int .i64 k), detR (.pointer (some ⟨b, off + k * 2, none⟩)), detR (V v.1 v.2), detR (VE (h.1, h.2.1, 0)), detR (VE (h.1, h.2.1, 0)), detR (V h.1 h.2.1), detR (.int .i64 0), newR w2.heap.size #[.int .i64 0, .int .i64 0] 23]) (fun _ => false) (by kernel_rfl) (by simp) (by kernel_rfl) (stab_nth (by simp [stab_det, stab_new, stab_sli])) ?_ ?_ ?_
      · intro i o hi ho
        match i, hi with
        | 0, _ =>
          obtain rfl := Option.some.inj ho
          intro u x hd
          have hc := Past.cell x
          simp [go_sem, gives, frm, Act.put, nthR, detR, Region.wanted, Below.refl, hc, C3, C3', L3]
        | 1, _ =>
          obtain rfl := Option.some.inj ho
          intro u x hd
          have hc := Past.cell x
          simp [go_sem, gives, frm, Act.put, nthR, detR, Region.wanted, Below.refl, hc]
        | 2, _ =>
          obtain rfl := Option.some.inj ho
          intro u x hd
          have hc := Past.cell x
          simp [go_sem, gives, frm, Act.put, nthR, detR, Region.wanted, Below.refl, hc]
        | 3, _ =>
          obtain rfl := Option.some.inj ho
          intro u x hd
          have hc := Past.cell x
          have d2 := hd 2 (by decide) (by kernel_rfl)
          simp only [nthR, detR, List.getD_cons_zero, List.getD_cons_succ] at d2
          simp [go_sem, gives, frm, Act.put, nthR, detR, Region.wanted, Below.refl, hc, d2]
        | 4, _ =>
          obtain rfl := Option.some.inj ho
          intro u x hd
          have hc := Past.cell x
          have d3 := hd 3 (by decide) (by kernel_rfl)
          simp only [nthR, detR, List.getD_cons_zero, List.getD_cons_succ] at d3
          simp [go_sem, gives, frm, Act.put, nthR, detR, Region.wanted, Below.refl, hc, d3]
          exact IntWalk.i64_in _ (by omega)
        | 5, _ =>
          obtain rfl := Option.some.inj ho
          intro u x hd
          have hc := Past.cell x
          have d1 := hd 1 (by decide) (by kernel_rfl)
          have d4 := hd 4 (by decide) (by kernel_rfl)
          simp only [nthR, detR, List.getD_cons_zero, List.getD_cons_succ] at d1 d4
          simp [go_sem, gives, frm, Act.put, nthR, detR, Region.wanted, Below.refl, hc, d1, d4, hk1]
        | 6, _ =>
          obtain rfl := Option.some.inj ho
          intro u x hd
          have hc := Past.cell x
          have d5 := hd 5 (by decide) (by kernel_rfl)
          simp only [nthR, detR, List.getD_cons_zero, List.getD_cons_succ] at d5
          simp [go_sem, gives, frm, Act.put, nthR, detR, Region.wanted, Below.refl, hc, d5, e0, e1, hbr]
        | 7, _ =>
          obtain rfl := Option.some.inj ho
          intro u x hd
          have hc := Past.cell x
          have d0 := hd 0 (by decide) (by kernel_rfl)
          have d6 := hd 6 (by decide) (by kernel_rfl)
          simp only [nthR, detR, List.getD_cons_zero, List.getD_cons_succ] at d0 d6
          simp [go_sem, gives, frm, Act.put, nthR, detR, Region.wanted, Below.refl, hc, d0, d6]
          exact sub_eq M2.out
        | 8, _ =>
          obtain rfl := Option.some.inj ho
          intro u x hd
          have hc := Past.cell x
          have d7 := hd 7 (by decide) (by kernel_rfl)
          simp only [nthR, detR, List.getD_cons_zero, List.getD_cons_succ] at d7
          simp [go_sem, gives, frm, Act.put, nthR, detR, Region.wanted, Below.refl, hc, d7]
        | 9, _ =>
          obtain rfl := Option.some.inj ho
          intro u x hd
          have hc := Past.cell x
          have d8 := hd 8 (by decide) (by kernel_rfl)
          simp only [nthR, detR, List.getD_cons_zero, List.getD_cons_succ] at d8
          simp [go_sem, gives, frm, Act.put, nthR, detR, Region.wanted, Below.refl, hc, d8]
        | 10, _ =>
          obtain rfl := Option.some.inj ho
          intro u x hd
          have hc := Past.cell x
          have d8 := hd 8 (by decide) (by kernel_rfl)
          simp only [nthR, detR, List.getD_cons_zero, List.getD_cons_succ] at d8
          simp [go_sem, gives, frm, Act.put, nthR, detR, Region.wanted, Below.refl, hc, d8]
        | 11, _ =>
          obtain rfl := Option.some.inj ho
          intro u x hd
          have hc := Past.cell x
          simp [go_sem, gives, frm, Act.put, nthR, detR, Region.wanted, Below.refl, hc]
          exact ⟨by (repeat (first | exact Below.refl _ _ | assumption | refine balloc ?_ _ | refine below_drewN ?_ _ | refine bstep (by assumption) ?_ | refine bstep (Past.prop _) ?_ | refine Below.setCell ?_ (by first | exact Nat.le_refl _ | (simp; done) | (simp; omega)) _)), ⟨_, rfl, by simpa using x.2.size, Blk.made _ _ _⟩⟩
        | i + 12, h => exact absurd h (by omega)
      · intro i o hx ho
        simp only [List.mem_cons, List.not_mem_nil, or_false] at hx
        rcases hx with rfl
        · obtain rfl := Option.some.inj ho
          refine ⟨rfl, fun _ _ _ _ h => h, fun u x hd => ?_⟩
          have d8 := hd 8 (by decide) (by kernel_rfl)
          simp only [nthR, detR, List.getD_cons_zero, List.getD_cons_succ] at d8
          refine ⟨rfl, .int .i64 0, rfl, fun w' => ?_⟩
          simp [go_sem, frm, Act.put, d8]
      · intro u x hu hne
        have d9 := hu 9 (by decide); have d10 := hu 10 (by decide)
        obtain ⟨p, h11, l11, B11⟩ : newR _ _ _ _ _ := hu 11 (by decide)
        simp only [nthR, detR, List.getD_cons_zero, List.getD_cons_succ] at d9 d10
        have q0 := B11.cell 0; have q1 := B11.cell 1; have f11 := B11.free
        have L7 := B7.lt
        have B7 := B7.past x.2
        simp at q0 q1
        simp only [frm, List.take, Act.put, d9, d10, h11]
        clear d9 d10 hu hne
        go_wp2
        go_meet
        case rel => exact ⟨p, rfl, rfl, (B11.set 0 _).set 1 _, (B7.other (by omega) _).other (by omega) _, by (repeat (first | exact Below.refl _ _ | assumption | refine balloc ?_ _ | refine below_drewN ?_ _ | refine bstep (by assumption) ?_ | refine bstep (Past.prop _) ?_ | refine Below.setCell ?_ (by first | exact Nat.le_refl _ | (simp; done) | (simp; omega)) _))⟩
    obtain ⟨p9, rfl, rfl, B9, B7, hb⟩ := hcut
    have C7 := B7.cell 0; have C7' := B7.cell 1; have L7 := B7.lt; have C9 := B9.cell 0; have C9' := B9.cell 1; have L9 := B9.lt
    simp at C7 C7' C9 C9'
    have n1 : (h.2.2 == 0) = true := beq_iff_eq.2 M1.out
    rename World => w3
    have hc := Past.cell (W := w3)
    go_upto_region 11 with fail
    refine wp_region_past_seq ?_
    repeat (go_big_quiet_step ((go_at_call 21; exact Past.call _ (head_c _))))
    refine wpQuiet_nil ?_
    rintro _ ⟨x, rfl⟩
    go_wp2
    go_ret
    refine ⟨rfl, ?_⟩
    (repeat (first | exact Below.refl _ _ | assumption | refine balloc ?_ _ | refine below_drewN ?_ _ | refine bstep (by assumption) ?_ | refine bstep (Past.prop _) ?_ | refine Below.setCell ?_ (by first | exact Nat.le_refl _ | (simp; done) | (simp; omega)) _))
  · have g1 : (g.2.2 == 0) = false := beq_eq_false_iff_ne.2 hz
    have g2 : (g.2.2 != 0) = true := bne_iff_ne.2 hz
    clear hz
    go_wp2_with (go_at_call 21; ((with_reducible refine (head_c _).mono ?_); rintro e w' ⟨rfl, hb9⟩))
    go_ret
    refine ⟨rfl, ?_⟩
    (repeat (first | exact Below.refl _ _ | assumption | refine balloc ?_ _ | refine below_drewN ?_ _ | refine bstep (by assumption) ?_ | refine bstep (Past.prop _) ?_ | refine Below.setCell ?_ (by first | exact Nat.le_refl _ | (simp; done) | (simp; omega)) _))

end Go.Proofs.Ytnhegohhffecpaa
