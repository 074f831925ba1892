/- Package plan: what reservations have together. No conditions but the sizes, and that the sum is in range. Package plan: the capacity of a plan. No conditions but the sizes. Package plan: what a user has. No conditions but the sizes, and that the sums are in range. Package plan: a new plan. No conditions but the sizes. Appends of wider elements (up to 1000 bytes). No function of the program. No conditions. Package plan: all reservations, in their order. The sort is a hypothesis (SortC). slices.SortFunc over reservations, where the row is the call's own. No conditions but its size. slices.SortFunc over reservations: the row behind it; the sort's contract (SortC) but for a slice that is nil. No conditions. slices.SortFunc over reservations: the sort's contract. No conditions. Package plan: what all reservations have together. No conditions but the sizes, and that the sum is in range. Slices that read as lists of vectors. No function of the program. No conditions. The cells of a list of pairs of numbers, appended to a row. No function of the program. No conditions. Reservations, by what they say: what lies in memory reads as it; a copy in new memory. No conditions but the sizes. Package plan: reservations, all in new memory. No conditions but the sizes. Package plan: all reservations, in new memory, in their order. No conditions but the sizes. Plans, by values: reservations in a row, in order; what changes do, one by one and at once. No program. No conditions. Package plan: the reservation that has a number, in new memory. No conditions but the sizes. Package plan: a plan's users, in a map of their own. No conditions. Package plan: a content with users of its own. No conditions. Package plan: what the changes do, by their kinds. No conditions. Package plan: what a plan has in memory, and what it says; blocks with a number stay where a plan is written. No conditions. Maps with strings as keys: what a store and a removal leave of the entries, and of what hangs on the keys. No function of the program. No conditions. -/
import Derived.Test.YtjhhcljbmnomlaaGreatPRGG
import Derived.Test.YtjhhcljbmnomlaaGreatPRGA
import Derived.Deep.LoopGhost
import Derived.Shelf.SlMaps.Clone
namespace Go.Proofs.YtjhhcljbmnomlaaGreat
open Go.ChangeShapes Go.WideShapes Go.ChangeAt Go.RowKit
attribute [local irreducible] Go.Calls

theorem argQ_twoP {w : World} {p : Nat} {F G : List Sg} {v1 v2 : Value} {t : TypeId} (h : Blk w p #[v1, v2] t) (h1 : SliS w v1 F) (h2 : SliS w v2 G) : ArgQ w (some ⟨p, 0, none⟩) [F, G] := fun _ =>
  ⟨p, 0, rfl, h.lt, fun i hi => by
    simp only [List.length_cons, List.length_nil] at hi
    match i, hi with
    | 0, _ => exact ⟨v1, h.cell 0, h1⟩
    | 1, _ => exact ⟨v2, h.cell 1, h2⟩⟩
/-- A row's function. -/
def RwA (w : World) (x : Rw) (F : List Sg) : Prop := SliS w x.vA F ∧ SrcV w 3 x.vA F.length (cellsOfS F)
theorem RwA.past {w w' : World} {x : Rw} {F : List Sg} (h : RwA w x F) (hb : Below w.heap.size w w') : RwA w' x F := ⟨h.1.past hb, srcV_below h.2 hb⟩
/-- The rows' functions. -/
def RwsA (w : World) (l : List Rw) (L : List (List Sg)) : Prop := L.length = l.length ∧ ∀ i, i < l.length → RwA w (l.getD i rw0) (L.getD i [])
theorem RwsA.past {w w' : World} {l : List Rw} {L : List (List Sg)} (h : RwsA w l L) (hb : Below w.heap.size w w') : RwsA w' l L := ⟨h.1, fun i hi => (h.2 i hi).past hb⟩
theorem RwsA.take {w : World} {l : List Rw} {L : List (List Sg)} (h : RwsA w l L) (k : Nat) : RwsA w (l.take k) (L.take k) := ⟨by simp [h.1], fun i hi => by
  simp at hi
  have := h.2 i (by omega)
  rw [List.getD_eq_getElem?_getD, List.getElem?_take, if_pos (by omega), ← List.getD_eq_getElem?_getD, List.getD_eq_getElem?_getD (l := L.take k), List.getElem?_take, if_pos (by omega), ← List.getD_eq_getElem?_getD]
  exact this⟩
theorem RwsA.drop {w : World} {l : List Rw} {L : List (List Sg)} (h : RwsA w l L) (k : Nat) : RwsA w (l.drop k) (L.drop k) := ⟨by simp [h.1], fun i hi => by
  simp at hi
  have := h.2 (k + i) (by omega)
  rw [List.getD_eq_getElem?_getD, List.getElem?_drop, ← List.getD_eq_getElem?_getD, List.getD_eq_getElem?_getD (l := L.drop k), List.getElem?_drop, ← List.getD_eq_getElem?_getD]
  exact this⟩
theorem SliRw.take {w : World} {b off cap k : Nat} {l : List Rw} (h : SliRw w (.slice (some ⟨b, off, none⟩) l.length cap) l) (hk : k ≤ l.length) : SliRw w (.slice (some ⟨b, off, none⟩) k cap) (l.take k) := by
  obtain ⟨a, c, e, h1, h2, h3, h4, h5⟩ := h
  cases e
  have hl : (l.take k).length = k := by simp [hk]
  refine ⟨_, cap, by rw [hl], by rw [hl]; omega, h2, (fun e => by cases e), fun hp => ?_, fun x hx => h5 x (List.mem_of_mem_take hx)⟩
  obtain ⟨b', o', e, h6, h7⟩ := h4 (by rw [hl] at hp; omega)
  cases e
  refine ⟨b, off, rfl, h6, fun i j hi hj => ?_⟩
  rw [hl] at hi
  have := h7 i j (by omega) hj
  rw [List.getD_eq_getElem?_getD, List.getElem?_take, if_pos hi, ← List.getD_eq_getElem?_getD]
  exact this
theorem SliRw.drop {w : World} {b off cap k : Nat} {l : List Rw} (h : SliRw w (.slice (some ⟨b, off, none⟩) l.length cap) l) (hk : k < l.length) : SliRw w (.slice (some ⟨b, off + k * 8, none⟩) (l.length - k) (cap - k)) (l.drop k) := by
  obtain ⟨a, c, e, h1, h2, h3, h4, h5⟩ := h
  cases e
  have hl : (l.drop k).length = l.length - k := by simp
  refine ⟨_, cap - k, by rw [hl], by rw [hl]; omega, by omega, (fun e => by cases e), fun hp => ?_, fun x hx => h5 x (List.mem_of_mem_drop hx)⟩
  obtain ⟨b', o', e, h6, h7⟩ := h4 (by omega)
  cases e
  refine ⟨b, off + k * 8, rfl, h6, fun i j hi hj => ?_⟩
  rw [hl] at hi
  have := h7 (k + i) j (by omega) hj
  rw [List.getD_eq_getElem?_getD, List.getElem?_drop, ← List.getD_eq_getElem?_getD, ← this]
  congr 2
  omega
theorem lenR_app (A B : List (List Sg)) : lenR (A ++ B) = lenR A + lenR B := by unfold lenR; rw [List.map_append, List.sum_append]
/-- Reads as what the functions have together. -/
def ldR (M : List (List Sg)) : Value → World → Prop := fun v w => ∃ A, SliS w v A ∧ Loads M A
theorem stab_ld (M : List (List Sg)) : Stab (ldR M) := fun _ _ _ ⟨A, h1, h2⟩ hb => ⟨A, h1.past hb, h2⟩
def ld2R (t : TypeId) (M N : List (List Sg)) : Value → World → Prop := fun v w => ∃ p v1 v2, v = .slice (some ⟨p, 0, none⟩) 2 2 ∧ Blk w p #[v1, v2] t ∧ ldR M v1 w ∧ ldR N v2 w
theorem stab_ld2 (t : TypeId) (M N : List (List Sg)) : Stab (ld2R t M N) := fun _ _ _ ⟨p, v1, v2, e, h1, h2, h3⟩ hb => ⟨p, v1, v2, e, h1.past hb, stab_ld M _ _ _ h2 hb, stab_ld N _ _ _ h3 hb⟩
def ldtR (M : List (List Sg)) : Value → World → Prop := fun v w => ∃ sv, v = .tuple #[sv, .int .i64 0] ∧ ldR M sv w
theorem stab_ldt (M : List (List Sg)) : Stab (ldtR M) := fun _ _ _ ⟨sv, e, h1⟩ hb => ⟨sv, e, stab_ld M _ _ _ h1 hb⟩
/-- What load says. -/
def LoadIs (w : World) (L : List (List Sg)) (e : Ending) (w' : World) : Prop := ∃ v, e = .returned v ∧ ldR L v w' ∧ Below w.heap.size w w'
theorem cadd_ld {w : World} {p : Nat} {v1 v2 : Value} {M N : List (List Sg)} {t : TypeId} (h : Blk w p #[v1, v2] t) (h1 : ldR M v1 w) (h2 : ldR N v2 w) (hp : ∀ F ∈ M ++ N, posB F = true) (hr : InR (M ++ N)) (hl : lenR (M ++ N) ≤ 999999990) :
    Calls Tryz.prog 98 #[.slice (some ⟨p, 0, none⟩) 2 2] w fun e w' => ∃ sv, e = .returned (.tuple #[sv, .int .i64 0]) ∧ ldR (M ++ N) sv w' ∧ Below w.heap.size w w' := by
  obtain ⟨A, hA, hMA⟩ := h1
  obtain ⟨B, hB, hNB⟩ := h2
  obtain ⟨C, hC, hMC⟩ := loads_add hp hr hMA hNB
  have hlen : lenR [A, B] ≤ 999999990 := by
    have := hMA.2.2; have := hNB.2.2
    rw [lenR_app] at hl
    simp [lenR] at *
    omega
  have hc := cadd_c [A, B] (some ⟨p, 0, none⟩) 2 w (by simp) hlen (argQ_twoP h hA hB)
  rw [hC] at hc
  refine hc.mono ?_
  rintro e w' ⟨v, rfl, hv, hb⟩
  exact ⟨v, rfl, ⟨C, hv, hMC⟩, hb⟩
set_option maxRecDepth 100000 in
set_option maxHeartbeats 20000000 in
theorem load_c : ∀ (n : Nat) (l : List Rw) (L : List (List Sg)) (v : Value) (w : World), l.length ≤ n → SliRw w v l → RwsA w l L → (∀ F ∈ L, posB F = true) → InR L → lenR L ≤ 999999990 → l.length ≤ 1000000 →
    Calls Tryz.prog 51 #[v] w (LoadIs w L) := by
  intro n
  induction n with
  | zero =>
    intro l L v w hn hv hL hp hr hlr hs
    obtain ⟨a, cap, rfl, _⟩ := hv
    have hl0 : l.length = 0 := by omega
    have hL0 : L = [] := List.eq_nil_of_length_eq_zero (hL.1.trans hl0)
    subst hL0
    rw [hl0]
    go_enter Tryz.func51, Tryz.ntmps51
    go_wp2
    go_ret
    exact ⟨_, rfl, ⟨[], sliS_nil _, loads_nil⟩, by (repeat (first | exact Below.refl _ _ | assumption | refine balloc ?_ _ | refine below_drewN ?_ _ | refine bstep (by assumption) ?_ | refine bstep (Past.prop _) ?_ | refine Below.setCell ?_ (by first | exact Nat.le_refl _ | (simp; done) | (simp; omega)) _))⟩
  | succ n ih =>
    intro l L v w hn hv hL hp hr hlr hs
    have HV := hidE hv; have HL := hidE hL; have HP := hidE hp; have HR := hidE hr
    obtain ⟨a, cap, rfl, hc1, hc2, hc3, hc4, hc5⟩ := hv
    by_cases h0 : l.length = 0
    · have hL0 : L = [] := List.eq_nil_of_length_eq_zero (hL.1.trans h0)
      subst hL0
      clear HV HL HP HR ih hc1 hc2 hc3 hc4 hc5 hL hp hr
      rw [h0]
      clear hs hn h0
      go_enter Tryz.func51, Tryz.ntmps51
      go_wp2
      go_ret
      exact ⟨_, rfl, ⟨[], sliS_nil _, loads_nil⟩, by (repeat (first | exact Below.refl _ _ | assumption | refine balloc ?_ _ | refine below_drewN ?_ _ | refine bstep (by assumption) ?_ | refine bstep (Past.prop _) ?_ | refine Below.setCell ?_ (by first | exact Nat.le_refl _ | (simp; done) | (simp; omega)) _))⟩
    by_cases h1 : l.length = 1
    · obtain ⟨b, off, rfl, hbz, hcc⟩ := hc4 (by omega)
      obtain ⟨e0, e1, e2, e3, e4, e5, e6, e7⟩ := hcc.get (i := 0) (by omega)
      simp only [Nat.zero_mul, Nat.add_zero] at e0 e1 e2 e3 e4 e5 e6 e7
      obtain ⟨F, rfl⟩ : ∃ F, L = [F] := List.length_eq_one_iff.1 (hL.1.trans h1)
      have hA := hL.2 0 (by omega)
      have hF := hp F (by simp)
      have HF := hidE (loads_one hF)
      rw [show [F].getD 0 [] = F from rfl] at hA
      have hlF : F.length ≤ 999999990 := by simpa [lenR] using hlr
      have HC := hidE (copiedSeg_c hA.2 (by omega))
      have hfit := hc5 _ (getD_memRw (k := 0) (by omega))
      obtain ⟨_, _, ⟨a7, n7, c7, q7⟩, _⟩ := hfit
      rw [q7] at e7 HC
      clear HV HL HP HR ih hc1 hc2 hc3 hc4 hc5 hL hp hr hcc hA hF e0 e1 e2 e3 e4 e5 e6
      rw [h1]
      clear hs hn h0 h1
      go_enter Tryz.func51, Tryz.ntmps51
      go_wp2_with fail
      ((with_reducible refine (HC.out).mono ?_); rintro e w1 ⟨v1, rfl, ho, hb1⟩)
      have HO := hidE ho; have HB1 := hidE hb1
      clear ho hb1
      go_wp2
      go_ret
      exact ⟨_, rfl, ⟨F, sliS_own HO.out, HF.out⟩, HB1.out⟩
    · obtain ⟨b, off, rfl, hbz, hcc⟩ := hc4 (by omega)
      have d0 : decide ((l.length : Int) = 0) = false := decide_eq_false (by omega)
      have d1 : decide ((l.length : Int) = 1) = false := decide_eq_false (by omega)
      have d2 : ((l.length : Int) == 0) = false := beq_eq_false_iff_ne.2 (by omega)
      have d3 : ((l.length : Int) == 1) = false := beq_eq_false_iff_ne.2 (by omega)
      obtain ⟨h, hh⟩ : ∃ h : Nat, h = l.length / 2 := ⟨_, rfl⟩
      have hh1 : 0 < h := by omega
      have hh2 : h < l.length := by omega
      have eq1 : (l.length : Int) / 2 = (h : Int) := by omega
      have eq2 : Int.tdiv (l.length : Int) 2 = (h : Int) := by rw [Int.tdiv_eq_ediv_of_nonneg (by omega)]; exact eq1
      have E1 := hidE eq1; have E2 := hidE eq2
      have hhc : h ≤ cap := by omega
      have hhm : h ≤ l.length := by omega
      have hcne : ¬ cap = h := by omega
      have hsplit : L.take h ++ L.drop h = L := List.take_append_drop h L
      have HX1 := hidE (fun w' (hb : Below w.heap.size w w') => ih (l.take h) (L.take h) (.slice (some ⟨b, off, none⟩) h cap) w' (by simp; omega) ((HV.out.past hb).take (by omega)) ((HL.out.past hb).take h) (fun F hF => HP.out F (List.mem_of_mem_take hF)) (by have := HR.out; rw [← hsplit] at this; exact inR_left (by rw [hsplit]; exact HP.out) this) (by have := lenR_app (L.take h) (L.drop h); rw [hsplit] at this; omega) (by simp; omega))
      have HX2 := hidE (fun w' (hb : Below w.heap.size w w') => ih (l.drop h) (L.drop h) (.slice (some ⟨b, off + h * 8, none⟩) (l.length - h) (cap - h)) w' (by simp; omega) ((HV.out.past hb).drop (by omega)) ((HL.out.past hb).drop h) (fun F hF => HP.out F (List.mem_of_mem_drop hF)) (by have := HR.out; rw [← hsplit] at this; exact inR_right (by rw [hsplit]; exact HP.out) this) (by have := lenR_app (L.take h) (L.drop h); rw [hsplit] at this; omega) (by simp; omega))
      have HAD := hidE (fun (w' : World) (p : Nat) (v1 v2 : Value) (t : TypeId) (hB : Blk w' p #[v1, v2] t) (h1 : ldR (L.take h) v1 w') (h2 : ldR (L.drop h) v2 w') => by
        have := cadd_ld hB h1 h2 (by rw [hsplit]; exact HP.out) (by rw [hsplit]; exact HR.out) (by rw [hsplit]; exact hlr)
        rw [hsplit] at this
        exact this)
      clear HV HL HP HR ih hc3 hc4 hc5 hL hp hr hcc hsplit hh eq1 eq2 hlr hn
      go_enter Tryz.func51, Tryz.ntmps51
      go_upto_region 7 with fail
      simp only [E1.out]
      clear E1 E2 d0 d1 d2 d3
      generalize l.length = m at *
      refine wp_region_J 13 [12] (nthR [detR (.slice (some ⟨b, off, none⟩) m cap), detR (.int .i64 h), detR (.slice (some ⟨b, off, none⟩) h cap), ldR (L.take h), detR (.slice (some ⟨b, off, none⟩) m cap), detR (.int .i64 h), detR (.slice (some ⟨b, off + h * 8, none⟩) (m - h) (cap - h)), ldR (L.drop h), ld2R 22 (L.take h) (L.drop h), ldtR L, ldtR L, ldR L, detR (.int .i64 0)]) (fun _ => false) (by kernel_rfl) (by decide) (by kernel_rfl) (stab_nth (by intro r hr; simp only [List.mem_cons, List.not_mem_nil, or_false] at hr; rcases hr with rfl | rfl | rfl | rfl | rfl | rfl | rfl | rfl | rfl | rfl | rfl | rfl | rfl <;> first | exact stab_det _ | exact stab_ld _ | exact stab_ld2 _ _ _ | exact stab_ldt _)) ?_ ?_ ?_
      · intro i o hi ho
        match i, hi with
        | 0, _ =>
          obtain rfl := Option.some.inj ho
          intro u x hd
          have hc := Past.cell x
          simp [go_sem, gives, frm, Act.put, nthR, detR, Region.wanted, Below.refl]
        | 1, _ =>
          obtain rfl := Option.some.inj ho
          intro u x hd
          have hc := Past.cell x
          simp [go_sem, gives, frm, Act.put, nthR, detR, Region.wanted, Below.refl]
        | 2, _ =>
          obtain rfl := Option.some.inj ho
          intro u x hd
          have hc := Past.cell x
          have d0 := hd 0 (by decide) (by kernel_rfl)
          have d1 := hd 1 (by decide) (by kernel_rfl)
          simp only [nthR, detR, List.getD_cons_zero, List.getD_cons_succ] at d0 d1
          simp [go_sem, gives, frm, Act.put, nthR, detR, Region.wanted, Below.refl, d0, d1, hhc]
        | 3, _ =>
          obtain rfl := Option.some.inj ho
          intro u x hd
          have hc := Past.cell x
          have d2 := hd 2 (by decide) (by kernel_rfl)
          simp only [nthR, detR, List.getD_cons_zero, List.getD_cons_succ] at d2
          simp [go_sem, gives, frm, Act.put, nthR, Region.wanted, d2]
          (with_reducible refine (HX1.out _ (Past.prop x)).mono ?_); rintro e w3 ⟨v, rfl, hv3, hb3⟩; exact ⟨_, rfl, hb3, hv3⟩
        | 4, _ =>
          obtain rfl := Option.some.inj ho
          intro u x hd
          have hc := Past.cell x
          simp [go_sem, gives, frm, Act.put, nthR, detR, Region.wanted, Below.refl]
        | 5, _ =>
          obtain rfl := Option.some.inj ho
          intro u x hd
          have hc := Past.cell x
          simp [go_sem, gives, frm, Act.put, nthR, detR, Region.wanted, Below.refl]
        | 6, _ =>
          obtain rfl := Option.some.inj ho
          intro u x hd
          have hc := Past.cell x
          have d4 := hd 4 (by decide) (by kernel_rfl)
          have d5 := hd 5 (by decide) (by kernel_rfl)
          simp only [nthR, detR, List.getD_cons_zero, List.getD_cons_succ] at d4 d5
          simp [go_sem, gives, frm, Act.put, nthR, detR, Region.wanted, Below.refl, d4, d5, hhm, hcne]
        | 7, _ =>
          obtain rfl := Option.some.inj ho
          intro u x hd
          have hc := Past.cell x
          have d6 := hd 6 (by decide) (by kernel_rfl)
          simp only [nthR, detR, List.getD_cons_zero, List.getD_cons_succ] at d6
          simp [go_sem, gives, frm, Act.put, nthR, Region.wanted, d6]
          (with_reducible refine (HX2.out _ (Past.prop x)).mono ?_); rintro e w3 ⟨v, rfl, hv3, hb3⟩; exact ⟨_, rfl, hb3, hv3⟩
        | 8, _ =>
          obtain rfl := Option.some.inj ho
          intro u x hd
          have hc := Past.cell x
          have h3 : ldR (L.take h) (u 3) x.1 := hd 3 (by decide) (by kernel_rfl)
          have h7 : ldR (L.drop h) (u 7) x.1 := hd 7 (by decide) (by kernel_rfl)
          obtain ⟨A3, ⟨a3, c3, e3, _⟩, _⟩ := id h3
          obtain ⟨A7, ⟨a7, c7, e7, _⟩, _⟩ := id h7
          rw [e3] at h3; rw [e7] at h7
          simp [go_sem, gives, frm, Act.put, nthR, Region.wanted, e3, e7]
          exact ⟨by (repeat (first | exact Below.refl _ _ | assumption | refine balloc ?_ _ | refine below_drewN ?_ _ | refine bstep (by assumption) ?_ | refine bstep (Past.prop _) ?_ | refine Below.setCell ?_ (by first | exact Nat.le_refl _ | (simp; done) | (simp; omega)) _)), ⟨_, _, _, rfl, Blk.made _ _ _, stab_ld _ _ _ _ h3 (by (repeat (first | exact Below.refl _ _ | assumption | refine balloc ?_ _ | refine below_drewN ?_ _ | refine bstep (by assumption) ?_ | refine bstep (Past.prop _) ?_ | refine Below.setCell ?_ (by first | exact Nat.le_refl _ | (simp; done) | (simp; omega)) _))), stab_ld _ _ _ _ h7 (by (repeat (first | exact Below.refl _ _ | assumption | refine balloc ?_ _ | refine below_drewN ?_ _ | refine bstep (by assumption) ?_ | refine bstep (Past.prop _) ?_ | refine Below.setCell ?_ (by first | exact Nat.le_refl _ | (simp; done) | (simp; omega)) _)))⟩⟩
        | 9, _ =>
          obtain rfl := Option.some.inj ho
          intro u x hd
          have hc := Past.cell x
          have h8 : ld2R 22 (L.take h) (L.drop h) (u 8) x.1 := hd 8 (by decide) (by kernel_rfl)
          obtain ⟨p, v1, v2, e8, hB, h1, h2⟩ := h8
          simp [go_sem, gives, frm, Act.put, nthR, Region.wanted, e8]
          (with_reducible refine (HAD.out _ _ _ _ _ hB h1 h2).mono ?_); rintro e w3 ⟨sv, rfl, hv3, hb3⟩; exact ⟨_, rfl, hb3, ⟨sv, rfl, hv3⟩⟩
        | 10, _ =>
          obtain rfl := Option.some.inj ho
          intro u x hd
          have hc := Past.cell x
          have h9 : ldtR L (u 9) x.1 := hd 9 (by decide) (by kernel_rfl)
          obtain ⟨sv, e9, hs1⟩ := h9
          simp [go_sem, gives, frm, Act.put, nthR, Region.wanted, Below.refl, e9]
          exact ⟨sv, rfl, hs1⟩
        | 11, _ =>
          obtain rfl := Option.some.inj ho
          intro u x hd
          have hc := Past.cell x
          have h10 : ∃ sv, u 10 = .tuple #[sv, .int .i64 0] ∧ ldR L sv x.1 := hd 10 (by decide) (by kernel_rfl)
          have e10 := h10.choose_spec.1; have hs1 := h10.choose_spec.2; generalize h10.choose = sv at *
          simp [go_sem, gives, frm, Act.put, nthR, Region.wanted, Below.refl, e10]
          exact hs1
        | 12, _ =>
          obtain rfl := Option.some.inj ho
          intro u x hd
          have hc := Past.cell x
          have h10 : ∃ sv, u 10 = .tuple #[sv, .int .i64 0] ∧ ldR L sv x.1 := hd 10 (by decide) (by kernel_rfl)
          have e10 := h10.choose_spec.1; have hs1 := h10.choose_spec.2; generalize h10.choose = sv at *
          simp [go_sem, gives, frm, Act.put, nthR, detR, Region.wanted, Below.refl, e10]
        | i + 13, h => exact absurd h (by omega)
      · intro i o hx ho
        simp only [List.mem_cons, List.not_mem_nil, or_false] at hx
        rcases hx with rfl
        · obtain rfl := Option.some.inj ho
          refine ⟨rfl, fun _ _ _ _ h => h, fun u x hd => ?_⟩
          have h10 : ∃ sv, u 10 = .tuple #[sv, .int .i64 0] ∧ ldR L sv x.1 := hd 10 (by decide) (by kernel_rfl)
          have e10 := h10.choose_spec.1; have hs1 := h10.choose_spec.2; generalize h10.choose = sv at *
          refine ⟨rfl, .int .i64 0, rfl, fun w' => ?_⟩
          simp [go_sem, frm, Act.put, e10]
      · intro u x9 hu hne
        have h11 : ldR L (u 11) x9.1 := hu 11 (by decide)
        have e12 : u 12 = .int .i64 0 := hu 12 (by decide)
        obtain ⟨vb, e11⟩ : ∃ vb, u 11 = vb := ⟨_, rfl⟩
        rw [e11] at h11
        simp only [frm, List.take, Act.put, e11, e12]
        have HB9 := hidE x9.2
        have H11 := hidE h11
        obtain ⟨A, ⟨aA, cA, eA, _⟩, _⟩ := id h11
        subst eA
        clear hu hne e12 e11 h11 HX1 HX2 HAD
        generalize x9.1 = w9 at *
        go_wp2
        go_ret
        exact ⟨_, rfl, H11.out, HB9.out⟩
end Go.Proofs.YtjhhcljbmnomlaaGreat

namespace Go.Proofs.YtjhhcljbmnomlaaGreat
open Go.ChangeShapes Go.WideShapes Go.ChangeAt Go.RowKit
attribute [local irreducible] Go.Calls

/-- A slice that reads as a function, and can be copied. -/
def SliF3 (w : World) (v : Value) (F : List Sg) : Prop := SliS w v F ∧ SrcV w 3 v F.length (cellsOfS F)
theorem SliF3.past {w w' : World} {v : Value} {F : List Sg} (h : SliF3 w v F) (hb : Below w.heap.size w w') : SliF3 w' v F := ⟨h.1.past hb, srcV_below h.2 hb⟩
theorem cellsOfS_one : ∀ l : List Sg, ∀ v ∈ cellsOfS l, v.oneCell' = true
  | [], v, h => by simp [cellsOfS] at h
  | s :: r, v, h => by
    simp only [cellsOfS, List.mem_cons] at h
    rcases h with rfl | rfl | rfl | h
    · rfl
    · rfl
    · rfl
    · exact cellsOfS_one r v h
theorem sliF3_own {w : World} {B : Nat} {e : TypeId} {v : Value} {F : List Sg} (h : w.ownsRow B e 3 v F.length (cellsOfS F)) : SliF3 w v F := ⟨sliS_own h, own_src h (cellsOfS_one F)⟩
theorem setcap_no {p m : Nat} {vc va : Value} {F : List Sg} (w : World) (hB : Blk w p #[vc, .map (some m)] 111) (hF : SliF3 w va F) (hl : F.length ≤ 1000000000) (hp : posB F = false) :
    Calls Tryz.prog 15 #[.pointer (some ⟨p, 0, none⟩), va] w fun e w' => e = .returned (.int .i64 5) ∧ Below w.heap.size w w' := by
  have HM := hidE (made_c w hB)
  have HF := hidE hF
  obtain ⟨a, cp, rfl, _, _, hA⟩ := hF.1
  have HP := hidE (fun w1 (hb : Below w.heap.size w w1) => isPos_c F a cp w1 hl (hA.past hb))
  rw [hp] at HP
  clear hB hF hA hp
  go_enter Tryz.func15, Tryz.ntmps15
  go_wp2_with fail
  ((with_reducible refine (HM.out).mono ?_); rintro e w1 ⟨rfl, hb1⟩)
  go_wp2_with fail
  ((with_reducible refine (HP.out _ hb1).mono ?_); rintro e w2 ⟨rfl, hb2⟩)
  go_wp2
  go_ret
  exact ⟨rfl, by (repeat (first | exact Below.refl _ _ | assumption | refine balloc ?_ _ | refine below_drewN ?_ _ | refine bstep (by assumption) ?_ | refine bstep (Past.prop _) ?_ | refine Below.setCell ?_ (by first | exact Nat.le_refl _ | (simp; done) | (simp; omega)) _))⟩
set_option maxRecDepth 100000 in
theorem setcap_ok {p m : Nat} {vc va : Value} {F : List Sg} (w : World) (hB : Blk w p #[vc, .map (some m)] 111) (hF : SliF3 w va F) (hl : F.length ≤ 1000000000) (hp : posB F = true) :
    Calls Tryz.prog 15 #[.pointer (some ⟨p, 0, none⟩), va] w fun e w' => e = .returned (.int .i64 0) ∧ w.grownBy w' (some p) ∧ ∃ v, Blk w' p #[v, .map (some m)] 111 ∧ SliF3 w' v F := by
  have HM := hidE (made_c w hB)
  have HF := hidE hF; have HB := hidE hB
  obtain ⟨a, cp, rfl, _, _, hA⟩ := hF.1
  have HP := hidE (fun w1 (hb : Below w.heap.size w w1) => isPos_c F a cp w1 hl (hA.past hb))
  rw [hp] at HP
  clear hB hF hA hp
  go_enter Tryz.func15, Tryz.ntmps15
  go_wp2_with fail
  ((with_reducible refine (HM.out).mono ?_); rintro e w1 ⟨rfl, hb1⟩)
  go_wp2_with fail
  ((with_reducible refine (HP.out _ hb1).mono ?_); rintro e w2 ⟨rfl, hb2⟩)
  have HB2 := hidE (bstep hb2 hb1)
  have HCP := hidE (copiedSeg_c (HF.out.past HB2.out).2 (by omega))
  clear hb1 hb2 HM HP HF
  go_wp2_with fail
  ((with_reducible refine (HCP.out).mono ?_); rintro e w3 ⟨v, rfl, ho, hb3⟩)
  have HB3 := hidE (bstep hb3 HB2.out)
  have hB3 := HB.out.past HB3.out
  have hz := (HB.out.past HB2.out).lt
  have HBB := hidE hB3
  have b0 := hB3.cell 0; have bf := hB3.free 0; have bz := hB3.lt
  simp at b0
  obtain ⟨aV, cV, rfl⟩ := own_sli ho
  have HO := hidE ho
  clear ho hb3 hB3 HB HCP
  go_wp2
  go_ret
  refine ⟨rfl, grown_trans (grown_any HB3.out) (grown_set _ _ _ _), _, ?_, sliF3_own (own_kept HO.out (fun k ek => keptS (by have := own_block HO.out ek; omega) _))⟩
  simpa using HBB.out.set 0 (.slice aV F.length cV)
end Go.Proofs.YtjhhcljbmnomlaaGreat

namespace Go.Proofs.YtjhhcljbmnomlaaGreat
open Go.ChangeShapes Go.WideShapes Go.ChangeAt Go.RowKit
attribute [local irreducible] Go.Calls

/-- A plan's users: the map, each one's rows, and the rows' functions. -/
structure PlanC (w : World) (m : Nat) (U : List Ent) (rows : List UInt8 → List Rw) (fs : List UInt8 → List (List Sg)) : Prop where
  map : MapU w m U
  ok : RowsOk w U rows
  none : ∀ s, (∀ p ∈ U, p.1 ≠ s) → rows s = []
  fns : ∀ s, RwsA w (rows s) (fs s)
  pos : ∀ s, ∀ F ∈ fs s, posB F = true
  inR : ∀ s, InR (fs s)
  few : ∀ s, (rows s).length ≤ 1000000
  short : ∀ s, lenR (fs s) ≤ 100000000
theorem PlanC.past {w w' : World} {m : Nat} {U : List Ent} {rows : List UInt8 → List Rw} {fs : List UInt8 → List (List Sg)} (h : PlanC w m U rows fs) (hb : Below w.heap.size w w') : PlanC w' m U rows fs :=
  ⟨h.map.past hb, h.ok.past hb, h.none, fun s => (h.fns s).past hb, h.pos, h.inR, h.few, h.short⟩
theorem look_rows {w : World} {m : Nat} {U : List Ent} {rows : List UInt8 → List Rw} {fs : List UInt8 → List (List Sg)} (h : PlanC w m U rows fs) (s : List UInt8) : SliRw w (lookU U s (.slice none 0 0)) (rows s) := by
  unfold lookU
  cases hi : idxU U s with
  | none =>
    have : ∀ p ∈ U, p.1 ≠ s := fun p hp e => by
      unfold idxU at hi
      rw [List.findIdx?_eq_none_iff] at hi
      have := hi p hp
      simp [e] at this
    rw [h.none s this]
    exact sliRw_nil w
  | some j =>
    unfold idxU at hi
    rw [List.findIdx?_eq_some_iff_getElem] at hi
    obtain ⟨hj, he, _⟩ := hi
    have e1 : U[j].1 = s := by simpa using he
    have := h.ok _ (List.getElem_mem hj)
    rw [e1] at this
    simpa [List.getD_eq_getElem?_getD, List.getElem?_eq_getElem hj] using this
theorem Tryz.zeroRows (w : World) : (zeroValue 31).run Tryz.prog w = .ok (.slice none 0 0) w := by kernel_rfl
theorem user_c {p m : Nat} {vc : Value} {U : List Ent} {rows : List UInt8 → List Rw} {fs : List UInt8 → List (List Sg)} (s : List UInt8) (w : World) (hB : Blk w p #[vc, .map (some m)] 111) (hP : PlanC w m U rows fs) (hs : s.length ≤ maxLen) :
    Calls Tryz.prog 28 #[.pointer (some ⟨p, 0, none⟩), nmV s] w (LoadIs w (fs s)) := by
  have HM := hidE (made_c w hB)
  have HB := hidE hB; have HPC := hidE hP
  clear hB hP
  go_enter Tryz.func28, Tryz.ntmps28
  go_wp2_with fail
  ((with_reducible refine (HM.out).mono ?_); rintro e w1 ⟨rfl, hb1⟩)
  have hB1 := HB.out.past hb1
  have b1 := hB1.cell 1; have bz := hB1.lt
  simp at b1
  have hP1 := HPC.out.past hb1
  have hlk := hP1.map.lookup (P := Tryz.prog) (t := 107) (k := 9) (e := 31) Tryz.underlying9 Tryz.underlying107 (Tryz.zeroRows w1) hs
  have hsl := look_rows hP1 s
  have HLD := hidE (load_c (rows s).length (rows s) (fs s) _ w1 (Nat.le_refl _) hsl (hP1.fns s) (hP1.pos s) (hP1.inR s) (Nat.le_trans (hP1.short s) (by decide)) (hP1.few s))
  generalize lookU U s (.slice none 0 0) = vr at *
  have HB1 := hidE hb1
  clear hB1 hb1 HM HB HPC hP1 hsl hs
  go_wp2_with fail
  ((with_reducible refine (HLD.out).mono ?_); rintro e w2 ⟨v, rfl, hl, hb2⟩)
  have HL := hidE hl
  have HB2 := hidE (bstep hb2 HB1.out)
  clear hl hb2
  go_wp2
  go_ret
  exact ⟨v, rfl, HL.out, HB2.out⟩
end Go.Proofs.YtjhhcljbmnomlaaGreat

namespace Go.Proofs.YtjhhcljbmnomlaaGreat
open Go.ChangeShapes Go.WideShapes Go.ChangeAt Go.RowKit
attribute [local irreducible] Go.Calls

theorem Tryz.makeRows (w : World) : (Instr.makeMap 107 none).run Tryz.prog w = .ok (.map (some w.heap.size)) (w.alloc (.map #[] 0)) := by kernel_rfl
/-- What New says. -/
def NewIs (w : World) (F : List Sg) (e : Ending) (w' : World) : Prop := Below w.heap.size w w' ∧
  ((posB F = false ∧ e = .returned (.tuple #[.pointer none, .int .i64 5])) ∨ (posB F = true ∧ ∃ p m v, e = .returned (.tuple #[.pointer (some ⟨p, 0, none⟩), .int .i64 0]) ∧ Blk w' p #[v, .map (some m)] 111 ∧ SliF3 w' v F ∧ MapU w' m [] ∧ w.heap.size ≤ p ∧ w.heap.size ≤ m))
set_option maxRecDepth 100000 in
theorem new_c {va : Value} {F : List Sg} (w : World) (hF : SliF3 w va F) (hl : F.length ≤ 1000000000) : Calls Tryz.prog 11 #[va] w (NewIs w F) := by
  obtain ⟨w0, hw0⟩ : ∃ w0, w0 = (w.alloc (.map #[] 0)).alloc (Obj.cells #[.slice none 0 0, .map (some w.heap.size)] 111) := ⟨_, rfl⟩
  have hB : Blk w0 (w.heap.size + 1) #[.slice none 0 0, .map (some w.heap.size)] 111 := by rw [hw0]; exact Blk.made_at _ _ _ _ (by simp)
  have hM : MapU w0 w.heap.size [] := by rw [hw0]; exact (MapU.made w).alloc _
  have hb0 : Below w.heap.size w w0 := by rw [hw0]; (repeat (first | exact Below.refl _ _ | assumption | refine balloc ?_ _ | refine below_drewN ?_ _ | refine bstep (by assumption) ?_ | refine bstep (Past.prop _) ?_ | refine Below.setCell ?_ (by first | exact Nat.le_refl _ | (simp; done) | (simp; omega)) _))
  have hF0 := hF.past hb0
  cases hp : posB F
  · have HC := hidE (setcap_no w0 hB hF0 hl hp)
    have HB0 := hidE hb0; have HPO := hidE hp
    obtain ⟨a, cp, rfl, _⟩ := hF.1
    clear hB hM hb0 hF0 hF hp
    have hmk := Tryz.makeRows w
    go_enter Tryz.func11, Tryz.ntmps11
    go_upto_region 2 with fail
    rw [← hw0]
    clear hw0
    go_wp2_with fail
    ((with_reducible refine (HC.out).mono ?_); rintro e w1 ⟨rfl, hb1⟩)
    have HB1 := hidE (bstep hb1 HB0.out)
    clear hb1
    go_wp2
    go_ret2
    exact ⟨HB1.out, .inl ⟨HPO.out, rfl⟩⟩
  · have HC := hidE (setcap_ok w0 hB hF0 hl hp)
    have HB0 := hidE hb0; have HM := hidE hM
    have HPO := hidE hp
    have hz0 : w0.heap.size = w.heap.size + 1 + 1 := by rw [hw0]; simp
    obtain ⟨a, cp, rfl, _⟩ := hF.1
    have HZ0 := hidE hz0
    clear hB hM hb0 hF0 hF hp hz0
    have hmk := Tryz.makeRows w
    go_enter Tryz.func11, Tryz.ntmps11
    go_upto_region 2 with fail
    rw [← hw0]
    clear hw0
    go_wp2_with fail
    ((with_reducible refine (HC.out).mono ?_); rintro e w1 ⟨rfl, hg1, v, hB1, hv1⟩)
    have HB1 := hidE (Below.grown HB0.out hg1 HB0.out.size (fun k e => by cases e; omega))
    have HM1 := hidE (HM.out.keep (hg1.block _ HM.out.lt (by simp)))
    have HBL := hidE hB1; have HV := hidE hv1
    clear hg1 hB1 hv1
    go_wp2
    go_ret2
    exact ⟨HB1.out, .inr ⟨HPO.out, _, _, v, rfl, HBL.out, HV.out, HM1.out, by omega, Nat.le_refl _⟩⟩
end Go.Proofs.YtjhhcljbmnomlaaGreat

namespace Go.Proofs.YtjhhcljbmnomlaaGreat
open Go.ChangeShapes Go.WideShapes Go.ChangeAt Go.RowKit

theorem wp_appW {P : Program} {o : Oper} {a : Act} {w : World} {K : Act → World → Prop} {Q : Exit → Act → World → Prop}
    (s x : Operand) (t : TypeId) (hop : o.op = Op.call { callee := Callee.builtin Builtin.append, args := #[s, x], argTypes := #[t, t] })
    (base : Nat) (e : TypeId) (i : TypeInfo) (z : Value) (sz by' : Nat) (ht : P.underlying t = some (.slice e)) (hi : P.info? e = some i) (hz : i.zero = some z) (hsize : i.size = sz) (hby : i.bytes = by') (hzs : z.cells.size = sz) (hs0 : 0 < sz)
    (v : Value) (n : Nat) (xs : List Value) (hs : a.eval s = v) (hown : w.ownsRow base e sz v n xs)
    (vx : Value) (m : Nat) (ys : List Value) (hx : a.eval x = vx) (hsrc : SrcV w sz vx m ys)
    (h63 : n + m ≤ 100000000000) (hb' : by' ≤ 1000) (hbase : base ≤ w.heap.size)
    (h : ∀ v' w', w'.ownsRow base e sz v' (n + m) (xs ++ ys) → w.grownBy w' v.ownBlock → K (a.put o.dst v') w') : Oper.wp P o a w K Q := by
  obtain ⟨ad, cap, rfl, hn, hl, h1, hc⟩ := hsrc
  cases ad with
  | none =>
    obtain ⟨rfl, rfl⟩ := hn rfl
    have hy : ys = [] := List.eq_nil_of_length_eq_zero (by omega)
    subst hy
    have hrun := run_append_owned_none (P := P) (w := w) base t o.type e i sz ht hi v n xs hown
    have hK := h v w (by simpa using hown) ⟨rfl, rfl, rfl, Nat.le_refl _, fun _ _ _ => rfl⟩
    unfold Oper.wp
    simp [execOp, hop, resolve, invoke, builtin, hs, hx, hrun, Result.andThen]
    exact hK
  | some ad =>
    have hbb : (n + m) * by' ≤ (n + m) * 1000 := Nat.mul_le_mul_left _ hb'
    exact wp_append_own w s x t hop base e i z sz by' ht hi hz hsize hby hzs hs0 v n xs hs hown ad m cap ys hx hl (hc ad rfl) h1 (by unfold maxLen; omega) (by omega) hbase fun v' w' h1 h2 _ => h v' w' h1 h2
/-- For a region in the text's order. -/
theorem list_appW {P : Program} {ops : Array Oper} {rest : List Oper} {o : Oper} {a : Act} {w : World} {Q : Exit → Act → World → Prop} (hgd : o.guard = none) (s x : Operand) (t : TypeId)
    (ho : o.op = .call { callee := .builtin .append, args := #[s, x], argTypes := #[t, t] })
    (base : Nat) (e : TypeId) (i : TypeInfo) (z : Value) (sz by' : Nat) (ht : P.underlying t = some (.slice e)) (hi : P.info? e = some i) (hz : i.zero = some z) (hsize : i.size = sz) (hby : i.bytes = by') (hzs : z.cells.size = sz) (hs0 : 0 < sz)
    (v : Value) (n : Nat) (xs : List Value) (hs : a.eval s = v) (hown : w.ownsRow base e sz v n xs)
    (vx : Value) (m : Nat) (ys : List Value) (hx : a.eval x = vx) (hsrc : SrcV w sz vx m ys)
    (h63 : n + m ≤ 100000000000) (hb' : by' ≤ 1000) (hbase : base ≤ w.heap.size)
    (h : ∀ v' w', w'.ownsRow base e sz v' (n + m) (xs ++ ys) → w.grownBy w' v.ownBlock → wpList P ops Q rest (a.put o.dst v') w') : wpList P ops Q (o :: rest) a w :=
  wpList_plain hgd fun _ hK => wp_appW s x t ho base e i z sz by' ht hi hz hsize hby hzs hs0 v n xs hs hown vx m ys hx hsrc h63 hb' hbase fun v' w' h2 h3 => hK _ _ (h v' w' h2 h3)
end Go.Proofs.YtjhhcljbmnomlaaGreat

namespace Go.Proofs.YtjhhcljbmnomlaaGreat
open Go.ChangeShapes Go.WideShapes Go.ChangeAt Go.RowKit
attribute [local irreducible] Go.Calls

theorem Tryz.infoRsv : (Tryz.prog.info? 50).map (fun i => (i.zero, i.size, i.bytes)) = some (some (.agg #[.int .u32 0, .int .u32 0, .string ⟨#[]⟩, .int .i64 0, .int .i64 0, .slice none 0 0, .slice none 0 0, .slice none 0 0]), 8, 112) := by kernel_rfl
/-- In order: by Seq, then by Id. -/
def ordW (x y : Rw) : Prop := x.seq < y.seq ∨ (x.seq = y.seq ∧ x.id ≤ y.id)
/-- What the sort is asked for: a row that is the call's own comes out as a permutation of it, in order. -/
def SortC : Prop := ∀ (w : World) (B : Nat) (v : Value) (l : List Rw), w.ownsRow B 50 8 v l.length (cellsRw l) → (∀ x ∈ l, x.fit) → B ≤ w.heap.size → l.length ≤ 100000000 →
  Calls Tryz.prog 99 #[v, .func (.func 100) #[] #[]] w fun e w' => e = .returned (.tuple #[]) ∧ Below B w w' ∧ ∃ l', l'.Perm l ∧ l'.Pairwise ordW ∧ w'.ownsRow B 50 8 v l'.length (cellsRw l')
/-- All rows of the entries, in the entries' order. -/
def allRw (rows : List UInt8 → List Rw) (U : List Ent) : List Rw := U.flatMap fun p => rows p.1
/-- What list says. -/
def ListIs (w : World) (U : List Ent) (rows : List UInt8 → List Rw) (e : Ending) (w' : World) : Prop := ∃ v l, e = .returned v ∧ Below w.heap.size w w' ∧ l.Perm (allRw rows U) ∧ l.Pairwise ordW ∧ w'.ownsRow w.heap.size 50 8 v l.length (cellsRw l)
theorem all_app (rows : List UInt8 → List Rw) (A B : List Ent) : allRw rows (A ++ B) = allRw rows A ++ allRw rows B := by unfold allRw; rw [List.flatMap_append]
theorem all_perm (rows : List UInt8 → List Rw) {A B : List Ent} (h : A.Perm B) : (allRw rows A).Perm (allRw rows B) := List.Perm.flatMap_right _ h
theorem RngU.all_le {w : World} {it m : Nat} {U done : List Ent} (h : RngU w it m U done) (rows : List UInt8 → List Rw) : (allRw rows done).length ≤ (allRw rows U).length := by
  obtain ⟨C, hC⟩ := h.part
  have := (all_perm rows hC).length_eq
  rw [all_app, List.length_append] at this
  omega
theorem RowsOk.fits {w : World} {U : List Ent} {rows : List UInt8 → List Rw} (h : RowsOk w U rows) : ∀ x ∈ allRw rows U, x.fit := fun x hx => by
  unfold allRw at hx
  rw [List.mem_flatMap] at hx
  obtain ⟨p, hp, hx⟩ := hx
  obtain ⟨_, _, _, _, _, _, _, h5⟩ := h p hp
  exact h5 x hx
set_option maxRecDepth 100000 in
set_option maxHeartbeats 4000000 in
theorem list_c (hSort : SortC) {m : Nat} {U : List Ent} {rows : List UInt8 → List Rw} (vc : Value) (w : World) (hU : MapU w m U) (hR : RowsOk w U rows) (hl : (allRw rows U).length ≤ 100000000) :
    Calls Tryz.prog 52 #[ctV vc m] w (ListIs w U rows) := by
  obtain ⟨w0, hw0⟩ : ∃ w0, w0 = w.alloc (Obj.cells #[vc, .map (some m)] 109) := ⟨_, rfl⟩
  have B1 : Blk w0 w.heap.size #[vc, .map (some m)] 109 := by rw [hw0]; exact Blk.made _ _ _
  have hb0 : Below w.heap.size w w0 := by rw [hw0]; (repeat (first | exact Below.refl _ _ | assumption | refine balloc ?_ _ | refine below_drewN ?_ _ | refine bstep (by assumption) ?_ | refine bstep (Past.prop _) ?_ | refine Below.setCell ?_ (by first | exact Nat.le_refl _ | (simp; done) | (simp; omega)) _))
  have hU0 : MapU w0 m U := by rw [hw0]; exact hU.alloc _
  have hz0 : w0.heap.size = w.heap.size + 1 := by rw [hw0]; simp
  obtain ⟨ix, hix, hx0, hx1, hx2⟩ := info_parts Tryz.infoRsv
  have HI := hidE hix; have HZ0 := hidE hx0; have HZ1 := hidE hx1; have HZ2 := hidE hx2
  have HMZ := hidE hU.lt
  have HR := hidE hR; have HU := hidE hU0; have HL := hidE hl; have HSO := hidE hSort
  clear hU hR hU0 hl hix hx0 hx1 hx2 hSort
  go_enter Tryz.func52, Tryz.ntmps52
  go_upto_region 1 with fail
  rw [← hw0]
  clear hw0
  have b1 := B1.cell 1; have bz := B1.lt
  simp at b1
  clear B1
  go_upto_region 2 with fail
  go_wp2_with (at_range; refine list_range_U rfl _ 107 9 31 rfl Tryz.underlying107 rfl HU.out ?_; intro w1 hr1 hg1 hz1)
  go_frame
  have hb1 : Below w.heap.size w w1 := Below.grown hb0 hg1 hb0.size (fun k e => by cases e)
  rw [hz0] at hr1 hz1
  rw [hz0]
  clear hb0 hg1 HU b1 bz hz0 w0
  go_loopw [3] (fun s wr => ∃ done, RngU wr (w.heap.size + 1) m U done ∧ Below w.heap.size w wr ∧ wr.ownsRow (w.heap.size + 2) 50 8 s (allRw rows done).length (cellsRw (allRw rows done)) ∧ w.heap.size + 2 ≤ wr.heap.size) (fun _ wr => U.length - seenN wr (w.heap.size + 1))
  case atStart => exact ⟨[], hr1, hb1, own_nil _ _ _, by omega⟩
  case round =>
    obtain ⟨done, hrg, hb, ho, hz⟩ := hrel
    obtain ⟨a1, c1, rfl⟩ := own_sli ho
    have HO := hidE ho
    clear ho hr1 hb1 hz1
    go_wp2_with (at_next; refine list_next_U rfl _ rfl rfl hrg ?_ ?_)
    · intro hp
      have hpm := all_perm rows hp
      have HFIT := hidE (fun x (hx : x ∈ allRw rows done) => HR.out.fits x (hpm.mem_iff.1 hx))
      have HPM := hidE hpm
      have hln : (allRw rows done).length ≤ 100000000 := by rw [hpm.length_eq]; exact HL.out
      have HC := hidE (HSO.out wr (w.heap.size + 2) _ _ HO.out HFIT.out hz hln)
      have HB := hidE hb
      clear hp hpm hrg hb
      go_wp2_with fail
      ((with_reducible refine (HC.out).mono ?_); rintro e w3 ⟨rfl, hb3, l', hp3, hs3, ho3⟩)
      have HB3 := hidE (HB.out.trans (hb3.mono (by omega)))
      have HP3 := hidE (hp3.trans HPM.out); have HS3 := hidE hs3
      have HO3 := hidE (own_base ho3 (show w.heap.size ≤ w.heap.size + 2 from by omega))
      have hle := hp3.length_eq
      clear hb3 hp3 hs3 ho3
      go_wp2
      go_ret
      exact ⟨_, l', rfl, HB3.out, HP3.out, HS3.out, HO3.out⟩
    · intro pk pv w2 hpU hlt hrg2 hg2 hz2 hen
      have hb2 : Below w.heap.size w w2 := Below.grown hb hg2 hb.size (fun k e => by cases e; omega)
      have hS := HR.out.past hb2 (pk, pv) hpU
      have HSRC := hidE hS.src
      obtain ⟨av, cv, ev, _⟩ := hS
      simp only at ev HSRC
      subst ev
      have hle := hrg2.all_le rows
      have hal : allRw rows (done ++ [(pk, Value.slice av (rows pk).length cv)]) = allRw rows done ++ rows pk := by rw [all_app]; simp [allRw]
      rw [hal, List.length_append] at hle
      have HAL := hidE hal
      have HO2 := hidE (own_kept HO.out (fun k ek => hg2.block k (own_lt HO.out ek) (fun e => by cases e; have := own_block HO.out ek; omega)))
      have hm1 := hrg.seen
      have hm2 := hrg2.seen
      rw [List.length_append, List.length_singleton] at hm2
      have HMS := hidE (show U.length - seenN w2 (w.heap.size + 1) < U.length - seenN wr (w.heap.size + 1) from by rw [hm1, hm2]; omega)
      have hz3 : w.heap.size + 2 ≤ w2.heap.size := by omega
      have HRG := hidE hrg2; have HB2 := hidE hb2
      have hll := HL.out
      have hn : (allRw rows done).length + (rows pk).length ≤ 100000000 := by omega
      clear hg2 hb hrg hm1 hm2 hlt hle hal HO hpU hrg2 hb2
      go_wp2_with (at_builtin; go_loud (refine list_appW rfl (.tmp 13) (.tmp 14) 31 rfl (w.heap.size + 2) 50 ix _ 8 112 Tryz.underlying31 HI.out HZ0.out HZ1.out HZ2.out rfl (by decide) (.slice a1 (allRw rows done).length c1) (allRw rows done).length (cellsRw (allRw rows done)) rfl HO2.out _ (rows pk).length (cellsRw (rows pk)) rfl HSRC.out (by omega) (by omega) hz3 ?_); intro v' w4 own' hg')
      have hb4 := Below.grown HB2.out hg' HB2.out.size (fun k e => by have := own_block HO2.out e; omega)
      have hr4 := HRG.out.keep (hg'.block m HRG.out.map.lt (fun e => by have := own_block HO2.out e.symm; have := HMZ.out; omega)) (hg'.block (w.heap.size + 1) HRG.out.lt (fun e => by have := own_block HO2.out e.symm; omega))
      have hsn : seenN w4 (w.heap.size + 1) = seenN w2 (w.heap.size + 1) := by rw [hr4.seen, HRG.out.seen]
      have hms := HMS.out
      rw [← hsn] at hms
      have ho4 : w4.ownsRow (w.heap.size + 2) 50 8 v' (allRw rows (done ++ [(pk, Value.slice av (rows pk).length cv)])).length (cellsRw (allRw rows (done ++ [(pk, Value.slice av (rows pk).length cv)]))) := by rw [HAL.out, List.length_append, cellsRw_app]; exact own'
      have HO4 := hidE ho4
      have hz5 := Nat.le_trans hz3 hg'.size
      have HMS4 := hidE hms
      obtain ⟨a5, c5, rfl⟩ := own_sli own'
      clear own' hg' ho4 HO2 HMS hms hsn HRG
      go_wp2
      exact ⟨⟨_, hr4, hb4, HO4.out, hz5⟩, HMS4.out⟩
end Go.Proofs.YtjhhcljbmnomlaaGreat

namespace Go.Proofs.YtjhhcljbmnomlaaGreat
open Go.ChangeShapes Go.WideShapes Go.ChangeAt Go.RowKit Go.Sort Go.Shelf
attribute [local irreducible] Go.Calls

theorem rowsF_of {l : List Rw} (h : ∀ x ∈ l, x.fit) : ∃ d : Array FRw, rowsF d = l := by
  refine ⟨(l.attach.map fun x => (⟨x.1, h x.1 x.2⟩ : FRw)).toArray, ?_⟩
  unfold rowsF
  simp [List.map_map, Function.comp_def]
theorem cmpLaysF (blk off size : Nat) (w : World) : CmpLays Tryz.prog 100 #[] encF 8 cmpF blk off size w := fun _ _ _ _ x y => inOrderW_c x.1 y.1 _
theorem sort_some (w : World) (B g cap : Nat) (d : Array FRw) (h : w.ownsRow B 50 8 (.slice (some ⟨g, 0, none⟩) d.size cap) d.size (cellsRw (rowsF d))) (hs : d.size ≤ 100000000) :
    Calls Tryz.prog 99 #[.slice (some ⟨g, 0, none⟩) d.size cap, .func (.func 100) #[] #[]] w fun e w' => e = .returned (.tuple #[]) ∧ ∃ (d' : Array FRw) (n : Nat) (os : Array Obj), PermIn 0 d.size d d' ∧ SortedIn (ltOf cmpF) 0 d.size d' ∧ w' = sortWorldK encF 8 w g 0 n d' os := by
  have hg : g < w.heap.size := own_lt h rfl
  have hH : HoldsK encF 8 w g 0 d := fun j hj => by
    rw [size_flatK] at hj
    rw [Nat.zero_add, h.cellAt j hj, flat_cells d hj]
    exact ⟨rfl, h.frozenAt j⟩
  exact AnyQ.slices_SortFunc Tryz.sortLays 8 Tryz.isAgg50 Tryz.sizeOf50 encF (fun _ => rfl) encF_one cmpF swoF 100 #[] g 0 cap d w (enters_of Tryz.func100 (by kernel_rfl) rfl) (cmpLaysF _ _ _ _) hH hg (by omega)
end Go.Proofs.YtjhhcljbmnomlaaGreat

namespace Go.Proofs.YtjhhcljbmnomlaaGreat
open Go.ChangeShapes Go.WideShapes Go.ChangeAt Go.RowKit Go.Sort Go.Shelf
attribute [local irreducible] Go.Calls

theorem sort_heap {w : World} {g n : Nat} {d' : Array FRw} {os : Array Obj} {cur : Array Value} {e : TypeId} (h : w.heap[g]? = some (.cells cur e (0, 0))) :
    (sortWorldK encF 8 w g 0 n d' os).heap[g]? = some (.cells (putCells id 0 (flatK encF 8 d') cur) e (0, 0)) := by
  have hg : g < w.heap.size := lt_of_block h
  show ((w.heap.modify g (onCells (putCells id 0 (flatK encF 8 d')))) ++ os)[g]? = _
  rw [Array.getElem?_append_left (by simpa using hg), Array.getElem?_modify, if_pos rfl, h]
  rfl
theorem sort_other {w : World} {g n k : Nat} {d' : Array FRw} {os : Array Obj} (hk : k < w.heap.size) (hne : k ≠ g) : (sortWorldK encF 8 w g 0 n d' os).heap[k]? = w.heap[k]? := by
  show ((w.heap.modify g (onCells (putCells id 0 (flatK encF 8 d')))) ++ os)[k]? = _
  rw [Array.getElem?_append_left (by simpa using hk), Array.getElem?_modify, if_neg (Ne.symm hne)]
theorem sort_size {w : World} {g n : Nat} {d' : Array FRw} {os : Array Obj} : w.heap.size ≤ (sortWorldK encF 8 w g 0 n d' os).heap.size := by
  show _ ≤ ((w.heap.modify g (onCells (putCells id 0 (flatK encF 8 d')))) ++ os).size
  simp
theorem sort_own {w : World} {B g cap n : Nat} {d d' : Array FRw} {os : Array Obj} (h : w.ownsRow B 50 8 (.slice (some ⟨g, 0, none⟩) d.size cap) d.size (cellsRw (rowsF d))) (hs : d'.size = d.size) :
    (sortWorldK encF 8 w g 0 n d' os).ownsRow B 50 8 (.slice (some ⟨g, 0, none⟩) d.size cap) d.size (cellsRw (rowsF d')) := by
  obtain ⟨h1, h2 | ⟨g', cap', cur, h3, h4, h5, h6, h7, h8, h9⟩⟩ := h
  · cases h2.1
  · cases h3
    refine ⟨by rw [cellsRw_len, rowsF_len, hs], .inr ⟨g, cap, _, rfl, h4, sort_heap h5, h6, h7, by simp [putCells, h8], ?_⟩⟩
    apply List.ext_getElem?
    intro j
    have hcs : d.size * 8 ≤ cur.size := by rw [h8]; exact Nat.mul_le_mul_right _ h6
    by_cases hj : j < d.size * 8
    · rw [List.getElem?_take, if_pos hj, Array.getElem?_toList, flat_cells d' (by rw [hs]; exact hj)]
      unfold putCells
      rw [Array.getElem?_mapIdx, Array.getElem?_eq_getElem (by omega), Option.map_some, if_pos ⟨Nat.zero_le _, by rw [size_flatK, hs]; omega⟩]
      rfl
    · rw [List.getElem?_eq_none (by simp; omega), List.getElem?_eq_none (by rw [cellsRw_len, rowsF_len, hs]; omega)]
theorem sort_perm {d d' : Array FRw} (h : PermIn 0 d.size d d') : (rowsF d').Perm (rowsF d) := by
  obtain ⟨h1, _, h3⟩ := h
  unfold rowsF
  have e1 : (d.extract 0 d.size).toList = d.toList := by simp
  have e2 : (d'.extract 0 d.size).toList = d'.toList := by rw [← h1]; simp
  rw [e1, e2] at h3
  exact h3.map _
theorem sort_sorted {d d' : Array FRw} (h1 : d'.size = d.size) (h : SortedIn (ltOf cmpF) 0 d.size d') : (rowsF d').Pairwise ordW := by
  rw [List.pairwise_iff_getElem]
  intro i j hi hj hij
  have hi' : i < d'.size := by rw [rowsF_len] at hi; exact hi
  have hj' : j < d'.size := by rw [rowsF_len] at hj; exact hj
  have := h i j (Nat.zero_le _) hij (by omega)
  unfold ltOf cmpF at this
  rw [decide_eq_false_iff_not, cmpW_neg] at this
  have e1 := rowsF_get d' hi'
  have e2 := rowsF_get d' hj'
  rw [getD_get _ _ _ hi] at e1
  rw [getD_get _ _ _ hj] at e2
  rw [e1, e2]
  unfold ordW
  omega
theorem sortC_some (w : World) (B g cap : Nat) (l : List Rw) (h : w.ownsRow B 50 8 (.slice (some ⟨g, 0, none⟩) l.length cap) l.length (cellsRw l)) (hf : ∀ x ∈ l, x.fit) (hB : B ≤ w.heap.size) (hs : l.length ≤ 100000000) :
    Calls Tryz.prog 99 #[.slice (some ⟨g, 0, none⟩) l.length cap, .func (.func 100) #[] #[]] w fun e w' => e = .returned (.tuple #[]) ∧ Below B w w' ∧ ∃ l', l'.Perm l ∧ l'.Pairwise ordW ∧ w'.ownsRow B 50 8 (.slice (some ⟨g, 0, none⟩) l.length cap) l'.length (cellsRw l') := by
  obtain ⟨d, rfl⟩ := rowsF_of hf
  rw [rowsF_len] at *
  refine (sort_some w B g cap d h hs).mono ?_
  rintro e w' ⟨rfl, d', n, os, hp, hso, rfl⟩
  have hBg : B ≤ g := own_block h rfl
  refine ⟨rfl, ⟨rfl, rfl, rfl, sort_size, fun k hk => sort_other (by omega) (by omega)⟩, rowsF d', sort_perm hp, sort_sorted hp.1 hso, ?_⟩
  rw [rowsF_len, hp.1]
  exact sort_own h hp.1
end Go.Proofs.YtjhhcljbmnomlaaGreat

namespace Go.Proofs.YtjhhcljbmnomlaaGreat
open Go.ChangeShapes Go.WideShapes Go.ChangeAt Go.RowKit Go.Sort Go.Shelf
attribute [local irreducible] Go.Calls

theorem len_none (w : World) : Calls Tryz.prog 148 #[.int .u64 0] w fun e w' => e = .returned (.int .i64 0) ∧ w' = w := by
  have h := Any.bits_Len (SlLaysF0.n15.bits (P := Tryz.prog) (ρ := Tryz.sortRen) { Tryz.sortLays with }) 0 w (by omega) (by omega)
  exact h
theorem ins_none (f : Value) (w : World) : Calls Tryz.prog 185 #[.slice none 0 0, .int .i64 0, .int .i64 0, f] w fun e w' => e = .returned (.tuple #[]) ∧ w' = w := by
  go_enter Tryz.func185, Tryz.ntmps185
  go_wp2
  refine wp_loop_rounds 1 ?_
  rw [rounds_succ]
  go_wp2
  go_end0
  exact ⟨rfl, rfl⟩
theorem pdq_none (f : Value) (w : World) : Calls Tryz.prog 147 #[.slice none 0 0, .int .i64 0, .int .i64 0, .int .i64 0, f] w fun e w' => e = .returned (.tuple #[]) ∧ w' = w := by
  have HI := hidE (fun w => ins_none f w)
  go_enter Tryz.func147, Tryz.ntmps147
  go_wp2
  refine wp_loop_rounds 1 ?_
  rw [rounds_succ]
  go_wp2_with fail
  ((with_reducible refine (HI.out _).mono ?_); rintro e w1 ⟨rfl, rfl⟩)
  go_wp2
  refine bodyPost_ret (v := .tuple #[]) (by simp [results, Tryz.results147, go_sem]) rfl ⟨rfl, rfl⟩
theorem sort_none (f : Value) (w : World) : Calls Tryz.prog 99 #[.slice none 0 0, f] w fun e w' => e = .returned (.tuple #[]) ∧ w' = w := by
  have HL := hidE (fun w => len_none w); have HP := hidE (fun w => pdq_none f w)
  go_enter Tryz.func99, Tryz.ntmps99
  go_wp2_with fail
  ((with_reducible refine (HL.out _).mono ?_); rintro e w1 ⟨rfl, rfl⟩)
  go_wp2_with fail
  ((with_reducible refine (HP.out _).mono ?_); rintro e w1 ⟨rfl, rfl⟩)
  go_wp2
  go_end0
  exact ⟨rfl, rfl⟩
theorem sortC : SortC := fun w B v l h hf hB hl => by
  obtain ⟨h1, h2 | ⟨g, cap, cur, h3, h4⟩⟩ := id h
  · obtain ⟨rfl, h0⟩ := h2
    have e : l = [] := List.eq_nil_of_length_eq_zero h0
    subst e
    refine (sort_none _ w).mono ?_
    rintro e w' ⟨rfl, rfl⟩
    exact ⟨rfl, Below.refl _ _, [], List.Perm.refl _, List.Pairwise.nil, own_nil _ _ _⟩
  · subst h3
    exact sortC_some w B g cap l h hf hB hl
end Go.Proofs.YtjhhcljbmnomlaaGreat

namespace Go.Proofs.YtjhhcljbmnomlaaGreat
open Go.ChangeShapes Go.WideShapes Go.ChangeAt Go.RowKit
attribute [local irreducible] Go.Calls

theorem rwsA_nil (w : World) : RwsA w [] [] := ⟨rfl, fun i hi => by simp at hi⟩
theorem rwsA_cons {w : World} {x : Rw} {l : List Rw} {L : List (List Sg)} : RwsA w (x :: l) L ↔ ∃ F M, L = F :: M ∧ RwA w x F ∧ RwsA w l M := by
  constructor
  · intro h
    cases L with
    | nil => have := h.1; simp at this
    | cons F M =>
      refine ⟨F, M, rfl, h.2 0 (by simp), by have := h.1; simpa using this, fun i hi => ?_⟩
      have := h.2 (i + 1) (by simpa using hi)
      simpa using this
  · rintro ⟨F, M, rfl, h1, h2⟩
    refine ⟨by simp [h2.1], fun i hi => ?_⟩
    cases i with
    | zero => exact h1
    | succ i => have := h2.2 i (by simpa using hi); simpa using this
theorem rwsA_app {w : World} {A B : List Rw} {L M : List (List Sg)} (h1 : RwsA w A L) (h2 : RwsA w B M) : RwsA w (A ++ B) (L ++ M) := by
  induction A generalizing L with
  | nil =>
    have : L = [] := List.eq_nil_of_length_eq_zero h1.1
    subst this
    exact h2
  | cons x A ih =>
    obtain ⟨F, N, rfl, h3, h4⟩ := rwsA_cons.1 h1
    exact rwsA_cons.2 ⟨F, N ++ M, rfl, h3, ih h4⟩
theorem rwsA_perm {w : World} {l l' : List Rw} (h : l.Perm l') : ∀ L, RwsA w l L → ∃ L', L'.Perm L ∧ RwsA w l' L' := by
  induction h with
  | nil => exact fun L hL => ⟨L, List.Perm.refl _, hL⟩
  | cons x _ ih =>
    intro L hL
    obtain ⟨F, M, rfl, h1, h2⟩ := rwsA_cons.1 hL
    obtain ⟨M', hp, hM⟩ := ih M h2
    exact ⟨F :: M', hp.cons F, rwsA_cons.2 ⟨F, M', rfl, h1, hM⟩⟩
  | swap x y l =>
    intro L hL
    obtain ⟨F, M, rfl, h1, h2⟩ := rwsA_cons.1 hL
    obtain ⟨G, N, rfl, h3, h4⟩ := rwsA_cons.1 h2
    exact ⟨G :: F :: N, List.Perm.swap _ _ _, rwsA_cons.2 ⟨G, F :: N, rfl, h3, rwsA_cons.2 ⟨F, N, rfl, h1, h4⟩⟩⟩
  | trans _ _ ih1 ih2 =>
    intro L hL
    obtain ⟨M, hp, hM⟩ := ih1 L hL
    obtain ⟨N, hq, hN⟩ := ih2 M hM
    exact ⟨N, hq.trans hp, hN⟩
def allFs (fs : List UInt8 → List (List Sg)) (U : List Ent) : List (List Sg) := U.flatMap fun p => fs p.1
theorem rwsA_all {w : World} {rows : List UInt8 → List Rw} {fs : List UInt8 → List (List Sg)} (h : ∀ s, RwsA w (rows s) (fs s)) : ∀ U : List Ent, RwsA w (allRw rows U) (allFs fs U)
  | [] => rwsA_nil w
  | p :: U => by
    unfold allRw allFs
    rw [List.flatMap_cons, List.flatMap_cons]
    exact rwsA_app (h p.1) (rwsA_all h U)
theorem sA_perm {L M : List (List Sg)} (h : L.Perm M) (t : Int) : sA L t = sA M t ∧ sB L t = sB M t := by
  induction h with
  | nil => exact ⟨rfl, rfl⟩
  | cons x _ ih => unfold sA sB at *; simp only [List.map_cons, List.sum_cons]; omega
  | swap x y l => unfold sA sB; simp only [List.map_cons, List.sum_cons]; omega
  | trans _ _ h1 h2 => exact ⟨h1.1.trans h2.1, h1.2.trans h2.2⟩
theorem lenR_perm {L M : List (List Sg)} (h : L.Perm M) : lenR L = lenR M := by
  induction h with
  | nil => rfl
  | cons x _ ih => unfold lenR at *; simp only [List.map_cons, List.sum_cons]; omega
  | swap x y l => unfold lenR; simp only [List.map_cons, List.sum_cons]; omega
  | trans _ _ h1 h2 => exact h1.trans h2
theorem loads_perm {L M : List (List Sg)} {A : List Sg} (h : L.Perm M) (hA : Loads L A) : Loads M A := ⟨hA.1, fun t => by rw [hA.2.1 t, (sA_perm h t).1, (sA_perm h t).2], by rw [← lenR_perm h]; exact hA.2.2⟩
theorem ldR_perm {L M : List (List Sg)} (h : L.Perm M) {v : Value} {w : World} (hv : ldR L v w) : ldR M v w := by
  obtain ⟨A, h1, h2⟩ := hv
  exact ⟨A, h1, loads_perm h h2⟩
theorem planLoad_c {p m : Nat} {vc : Value} {U : List Ent} {rows : List UInt8 → List Rw} {fs : List UInt8 → List (List Sg)} (w : World) (hB : Blk w p #[vc, .map (some m)] 111) (hP : PlanC w m U rows fs) (hA : InR (allFs fs U)) (hl : (allRw rows U).length ≤ 1000000) (hr : lenR (allFs fs U) ≤ 999999990) :
    Calls Tryz.prog 24 #[.pointer (some ⟨p, 0, none⟩)] w (LoadIs w (allFs fs U)) := by
  have HM := hidE (made_c w hB)
  have HB := hidE hB; have HPC := hidE hP; have HA := hidE hA
  clear hB hP hA
  go_enter Tryz.func24, Tryz.ntmps24
  go_wp2_with fail
  ((with_reducible refine (HM.out).mono ?_); rintro e w1 ⟨rfl, hb1⟩)
  have hB1 := HB.out.past hb1
  have b0 := hB1.cell 0; have b1 := hB1.cell 1; have bz := hB1.lt
  simp at b0 b1
  have hP1 := HPC.out.past hb1
  have HLI := hidE (list_c sortC vc w1 hP1.map hP1.ok (by omega))
  have HB1 := hidE hb1; have HP1 := hidE hP1
  clear hB1 hb1 HM HB HPC hP1
  go_wp2_with fail
  ((with_reducible refine (HLI.out).mono ?_); rintro e w2 ⟨vl, l, rfl, hb2, hpm, hso, how⟩)
  have hP2 := HP1.out.past hb2
  obtain ⟨L, hLp, hLR⟩ := rwsA_perm hpm.symm _ (rwsA_all hP2.fns U)
  have hpos : ∀ F ∈ L, posB F = true := fun F hF => by
    have := hLp.mem_iff.1 hF
    unfold allFs at this
    rw [List.mem_flatMap] at this
    obtain ⟨q, _, hq⟩ := this
    exact hP2.pos _ F hq
  have hin : InR L := fun t => by rw [(sA_perm hLp t).1, (sA_perm hLp t).2]; exact HA.out t
  have hfit : ∀ x ∈ l, x.fit := fun x hx => hP2.ok.fits x (hpm.mem_iff.1 hx)
  have HLD := hidE (load_c l.length l L vl w2 (Nat.le_refl _) (sliRw_own how hfit) hLR hpos hin (by rw [lenR_perm hLp]; exact hr) (by rw [hpm.length_eq]; exact hl))
  have HLP := hidE hLp
  have HB2 := hidE (bstep hb2 HB1.out)
  clear hb2 hpm hso how hP2 hLp hLR hpos hin hfit HLI HP1 HA
  go_wp2_with fail
  ((with_reducible refine (HLD.out).mono ?_); rintro e w3 ⟨v, rfl, hv, hb3⟩)
  have HV := hidE hv
  have HB3 := hidE (bstep hb3 HB2.out)
  clear hv hb3
  go_wp2
  go_ret
  exact ⟨v, rfl, ldR_perm HLP.out HV.out, HB3.out⟩
end Go.Proofs.YtjhhcljbmnomlaaGreat

namespace Go.Proofs.YtjhhcljbmnomlaaGreat
open Go.ChangeShapes Go.WideShapes Go.ChangeAt Go.RowKit
attribute [local irreducible] Go.Calls

/-- The vectors that a slice's cells hold. -/
def VCells (w : World) (b off : Nat) (l : List (Int × Int)) : Prop :=
  ∀ i, i < l.length → w.cell? ⟨b, off + i * 2, none⟩ = some (.int .i64 (l.getD i (0, 0)).1) ∧ w.cell? ⟨b, off + i * 2 + 1, none⟩ = some (.int .i64 (l.getD i (0, 0)).2)
def ArgVs (w : World) (a : Option Addr) (l : List (Int × Int)) : Prop := 0 < l.length → ∃ b off, a = some ⟨b, off, none⟩ ∧ b < w.heap.size ∧ VCells w b off l
theorem VCells.below {w w' : World} {b off B : Nat} {l : List (Int × Int)} (h : VCells w b off l) (hb : Below B w w') (hB : b < B) : VCells w' b off l := fun i hi => by
  obtain ⟨h1, h2⟩ := h i hi
  exact ⟨(hb.cell (p := ⟨b, _, none⟩) hB).trans h1, (hb.cell (p := ⟨b, _, none⟩) hB).trans h2⟩
theorem ArgVs.past {w w' : World} {a : Option Addr} {l : List (Int × Int)} (h : ArgVs w a l) (hb : Below w.heap.size w w') : ArgVs w' a l := fun hl => by
  obtain ⟨b, off, e, h1, h2⟩ := h hl
  exact ⟨b, off, e, Nat.lt_of_lt_of_le h1 hb.size, h2.below hb h1⟩
/-- A slice value that reads as the list of vectors. -/
def SliVs (w : World) (v : Value) (l : List (Int × Int)) : Prop := ∃ (a : Option Addr) (cap : Nat), v = .slice a l.length cap ∧ l.length ≤ cap ∧ cap ≤ 9223372036854775807 ∧ ArgVs w a l
theorem SliVs.past {w w' : World} {v : Value} {l : List (Int × Int)} (h : SliVs w v l) (hb : Below w.heap.size w w') : SliVs w' v l := by
  obtain ⟨a, cap, h1, h2, h3, h4⟩ := h
  exact ⟨a, cap, h1, h2, h3, h4.past hb⟩
end Go.Proofs.YtjhhcljbmnomlaaGreat

namespace Go.Proofs.YtjhhcljbmnomlaaGreat
open Go.ChangeShapes Go.WideShapes Go.ChangeAt Go.RowKit
attribute [local irreducible] Go.Calls

/-- The cells of a list of vectors. -/
def cellsOfV : List (Int × Int) → List Value
  | [] => []
  | s :: r => .int .i64 s.1 :: .int .i64 s.2 :: cellsOfV r
theorem cellsOfV_len : ∀ l, (cellsOfV l).length = l.length * 2
  | [] => rfl
  | s :: r => by simp only [cellsOfV, List.length_cons, cellsOfV_len r]; omega
theorem cellsOfV_get : ∀ (l : List (Int × Int)) (i : Nat), i < l.length → (cellsOfV l)[i * 2]? = some (.int .i64 (l.getD i (0, 0)).1) ∧ (cellsOfV l)[i * 2 + 1]? = some (.int .i64 (l.getD i (0, 0)).2)
  | [], i, h => by simp at h
  | s :: l, 0, _ => ⟨rfl, rfl⟩
  | s :: l, i + 1, h => by
    obtain ⟨h1, h2⟩ := cellsOfV_get l i (by simp at h; omega)
    have e : ∀ j, (cellsOfV (s :: l))[(i + 1) * 2 + j]? = (cellsOfV l)[i * 2 + j]? := fun j => by
      simp only [cellsOfV]
      rw [show (i + 1) * 2 + j = i * 2 + j + 1 + 1 by omega]
      simp only [List.getElem?_cons_succ]
    exact ⟨(e 0).trans h1, (e 1).trans h2⟩
/-- What a call has appended to reads as a slice of vectors. -/
theorem sliVs_own {w : World} {base : Nat} {e : TypeId} {v : Value} {l : List (Int × Int)} (h : w.ownsRow base e 2 v l.length (cellsOfV l)) : SliVs w v l := by
  obtain ⟨h1, h2 | ⟨g, cap, cur, rfl, h3, h4, h5, h6, h7, h8⟩⟩ := h
  · obtain ⟨rfl, h2⟩ := h2
    have : l = [] := List.eq_nil_of_length_eq_zero h2
    subst this
    exact ⟨none, 0, rfl, Nat.le_refl _, by omega, fun h => by simp at h⟩
  · refine ⟨some ⟨g, 0, none⟩, cap, rfl, h5, by unfold maxLen at h6; omega, fun _ => ⟨g, 0, rfl, lt_of_block h4, fun i hi => ?_⟩⟩
    have hg := cellsOfV_get l i hi
    have hc : ∀ j x, j < l.length * 2 → (cellsOfV l)[j]? = some x → w.cell? ⟨g, j, none⟩ = some x := fun j x hj hx => by
      have e : w.cell? ⟨g, j, none⟩ = cur[j]? := by simp [World.cell?, h4]
      rw [e, ← Array.getElem?_toList]
      rw [← h8, List.getElem?_take, if_pos hj] at hx
      exact hx
    simp only [Nat.zero_add]
    exact ⟨hc _ _ (by omega) hg.1, hc _ _ (by omega) hg.2⟩
end Go.Proofs.YtjhhcljbmnomlaaGreat

namespace Go.Proofs.YtjhhcljbmnomlaaGreat
open Go.ChangeShapes Go.WideShapes Go.ChangeAt Go.RowKit
attribute [local irreducible] Go.Calls

/-- A reservation. -/
structure Rv where
  id : Int
  seq : Int
  u : List UInt8
  fr : Int
  to' : Int
  T : List Prt
  W : List (Int × Int)
  A : List Sg
def rv0 : Rv := ⟨0, 0, [], 0, 0, [], [], []⟩
theorem cellsOfP_one : ∀ l : List Prt, ∀ v ∈ cellsOfP l, v.oneCell' = true
  | [], v, h => by simp [cellsOfP] at h
  | s :: r, v, h => by
    simp only [cellsOfP, List.mem_cons] at h
    rcases h with rfl | rfl | rfl | rfl | rfl | h
    · rfl
    · rfl
    · rfl
    · rfl
    · rfl
    · exact cellsOfP_one r v h
theorem cellsOfV_one : ∀ l : List (Int × Int), ∀ v ∈ cellsOfV l, v.oneCell' = true
  | [], v, h => by simp [cellsOfV] at h
  | s :: r, v, h => by
    simp only [cellsOfV, List.mem_cons] at h
    rcases h with rfl | rfl | h
    · rfl
    · rfl
    · exact cellsOfV_one r v h
/-- What lies in memory reads as the reservation, and can be copied. -/
structure RwF (w : World) (x : Rw) (r : Rv) : Prop where
  id : x.id = r.id
  seq : x.seq = r.seq
  u : x.u = r.u
  fr : x.fr = r.fr
  to' : x.to' = r.to'
  t : SliP w x.vT r.T
  ts : SrcV w 5 x.vT r.T.length (cellsOfP r.T)
  w' : SliVs w x.vW r.W
  ws : SrcV w 2 x.vW r.W.length (cellsOfV r.W)
  a : RwA w x r.A
theorem RwF.past {w w' : World} {x : Rw} {r : Rv} (h : RwF w x r) (hb : Below w.heap.size w w') : RwF w' x r :=
  ⟨h.id, h.seq, h.u, h.fr, h.to', h.t.past hb, srcV_below h.ts hb, h.w'.past hb, srcV_below h.ws hb, h.a.past hb⟩
theorem RwF.fit {w : World} {x : Rw} {r : Rv} (h : RwF w x r) (hu : r.u.length ≤ maxLen) : x.fit := by
  obtain ⟨a1, c1, e1, _⟩ := h.t
  obtain ⟨a2, c2, e2, _⟩ := h.w'
  obtain ⟨a3, c3, e3, _⟩ := h.a.1
  exact ⟨⟨_, _, _, e1⟩, ⟨_, _, _, e2⟩, ⟨_, _, _, e3⟩, by rw [h.u]; exact hu⟩
/-- A reservation isn't too long. -/
def Rv.small (r : Rv) : Prop := r.T.length ≤ 1000000000 ∧ r.W.length ≤ 1000000000 ∧ r.A.length ≤ 1000000000 ∧ r.u.length ≤ 1000000
/-- A slice that lies in no row of reservations. -/
def NotRow (w : World) (v : Value) : Prop := ∀ a n c, v = .slice (some a) n c → ∃ cs e fz, w.heap[a.block]? = some (.cells cs e fz) ∧ e ≠ 50
theorem NotRow.past {w w' : World} {v : Value} (h : NotRow w v) (hb : Below w.heap.size w w') : NotRow w' v := fun a n c e => by
  obtain ⟨cs, t, fz, h1, h2⟩ := h a n c e
  exact ⟨cs, t, fz, (hb.block _ (Nat.lt_of_not_le fun hge => by rw [Array.getElem?_eq_none hge] at h1; cases h1)).trans h1, h2⟩
theorem notRow_own {w : World} {B sz n : Nat} {e : TypeId} {v : Value} {xs : List Value} (h : w.ownsRow B e sz v n xs) (he : e ≠ 50) : NotRow w v := fun a m c ev => by
  obtain ⟨_, h2 | ⟨g, cap, cur, h3, _, h5, _⟩⟩ := h
  · rw [h2.1] at ev; cases ev
  · rw [h3] at ev; cases ev
    exact ⟨_, _, _, h5, he⟩
def RwN (w : World) (x : Rw) : Prop := NotRow w x.vT ∧ NotRow w x.vW ∧ NotRow w x.vA
theorem RwN.past {w w' : World} {x : Rw} (h : RwN w x) (hb : Below w.heap.size w w') : RwN w' x := ⟨h.1.past hb, h.2.1.past hb, h.2.2.past hb⟩
theorem apart_f {w : World} {x : Rw} {r : Rv} (h : RwF w x r) (hs : r.small) : Calls Tryz.prog 63 #[rwV x] w fun e w' => ∃ x', e = .returned (rwV x') ∧ RwF w' x' r ∧ RwN w' x' ∧ Below w.heap.size w w' := by
  refine (apart_c x r.T.length r.W.length r.A.length _ _ _ w h.ts h.ws h.a.2 (by have := hs.1; omega) (by have := hs.2.1; omega) (by have := hs.2.2.1; omega)).mono ?_
  rintro e w' ⟨vT, vW, vA, rfl, hb, h1, h2, h3⟩
  exact ⟨_, rfl, ⟨h.id, h.seq, h.u, h.fr, h.to', sliP_own h1, own_src h1 (cellsOfP_one _), sliVs_own h2, own_src h2 (cellsOfV_one _), sliS_own h3, own_src h3 (cellsOfS_one _)⟩, ⟨notRow_own h1 (by decide), notRow_own h2 (by decide), notRow_own h3 (by decide)⟩, hb⟩
theorem cell_block {w w' : World} {b : Nat} (h : w'.heap[b]? = w.heap[b]?) (o : Nat) : w'.cell? ⟨b, o, none⟩ = w.cell? ⟨b, o, none⟩ := by
  unfold World.cell?
  simp only [h]
/-- What stays where a row of reservations is appended to. -/
theorem NotRow.keep {w w' : World} {g : Nat} {v : Value} (hv : NotRow w v) (hg : w.grownBy w' (some g)) {cs : Array Value} {fz : Nat × Nat} (hrow : w.heap[g]? = some (.cells cs 50 fz)) : NotRow w' v ∧ ∀ a n c, v = .slice (some a) n c → w'.heap[a.block]? = w.heap[a.block]? := by
  have key : ∀ a n c, v = .slice (some a) n c → w'.heap[a.block]? = w.heap[a.block]? := fun a n c e => by
    obtain ⟨cs', t, fz', h1, h2⟩ := hv a n c e
    refine hg.block _ (Nat.lt_of_not_le fun hge => by rw [Array.getElem?_eq_none hge] at h1; cases h1) (fun e2 => ?_)
    cases e2
    rw [h1] at hrow
    cases hrow
    exact h2 rfl
  refine ⟨fun a n c e => ?_, key⟩
  obtain ⟨cs', t, fz', h1, h2⟩ := hv a n c e
  exact ⟨cs', t, fz', (key a n c e).trans h1, h2⟩
theorem srcV_keep {w w' : World} {sz n : Nat} {v : Value} {ys : List Value} (h : SrcV w sz v n ys) (hk : ∀ a n c, v = .slice (some a) n c → w'.heap[a.block]? = w.heap[a.block]?) : SrcV w' sz v n ys := by
  obtain ⟨a, cap, e, h0, h1, h2, h3⟩ := h
  refine ⟨a, cap, e, h0, h1, h2, fun ad ha j u hu => ?_⟩
  have hc := h3 ad ha j u hu
  subst ha
  have hb := hk ad n cap e
  have : (ad.add j).block = ad.block := by unfold Addr.add; split <;> rfl
  unfold World.cell? at hc ⊢
  rw [this] at hc ⊢
  rw [hb]
  exact hc
theorem RwF.keep {w w' : World} {g : Nat} {x : Rw} {r : Rv} (h : RwF w x r) (hn : RwN w x) (hg : w.grownBy w' (some g)) {cs : Array Value} {fz : Nat × Nat} (hrow : w.heap[g]? = some (.cells cs 50 fz)) : RwF w' x r ∧ RwN w' x := by
  obtain ⟨n1, k1⟩ := hn.1.keep hg hrow
  obtain ⟨n2, k2⟩ := hn.2.1.keep hg hrow
  obtain ⟨n3, k3⟩ := hn.2.2.keep hg hrow
  refine ⟨⟨h.id, h.seq, h.u, h.fr, h.to', ?_, srcV_keep h.ts k1, ?_, srcV_keep h.ws k2, ?_, srcV_keep h.a.2 k3⟩, n1, n2, n3⟩
  · obtain ⟨a, cap, e, q1, q2, q3⟩ := h.t
    refine ⟨a, cap, e, q1, q2, fun hl => ?_⟩
    obtain ⟨b, off, rfl, q4, q5⟩ := q3 hl
    have hb := k1 _ _ _ e
    exact ⟨b, off, rfl, Nat.lt_of_lt_of_le q4 hg.size, fun i hi => by simp only [cell_block hb]; exact q5 i hi⟩
  · obtain ⟨a, cap, e, q1, q2, q3⟩ := h.w'
    refine ⟨a, cap, e, q1, q2, fun hl => ?_⟩
    obtain ⟨b, off, rfl, q4, q5⟩ := q3 hl
    have hb := k2 _ _ _ e
    exact ⟨b, off, rfl, Nat.lt_of_lt_of_le q4 hg.size, fun i hi => by simp only [cell_block hb]; exact q5 i hi⟩
  · obtain ⟨a, cap, e, q1, q2, q3⟩ := h.a.1
    refine ⟨a, cap, e, q1, q2, fun hl => ?_⟩
    obtain ⟨b, off, rfl, q4, q5⟩ := q3 hl
    have hb := k3 _ _ _ e
    exact ⟨b, off, rfl, Nat.lt_of_lt_of_le q4 hg.size, fun i hi => by simp only [cell_block hb]; exact q5 i hi⟩
/-- The rows read as the reservations. -/
def RwsF (w : World) (l : List Rw) (R : List Rv) : Prop := R.length = l.length ∧ ∀ i, i < l.length → RwF w (l.getD i rw0) (R.getD i rv0)
theorem RwsF.past {w w' : World} {l : List Rw} {R : List Rv} (h : RwsF w l R) (hb : Below w.heap.size w w') : RwsF w' l R := ⟨h.1, fun i hi => (h.2 i hi).past hb⟩
theorem RwsF.fns {w : World} {l : List Rw} {R : List Rv} (h : RwsF w l R) : RwsA w l (R.map (·.A)) := ⟨by simp [h.1], fun i hi => by
  have e : (R.map (·.A)).getD i [] = (R.getD i rv0).A := by
    rw [List.getD_eq_getElem?_getD, List.getD_eq_getElem?_getD, List.getElem?_map, List.getElem?_eq_getElem (by rw [h.1]; exact hi)]; rfl
  rw [e]
  exact (h.2 i hi).a⟩
theorem rwsF_nil (w : World) : RwsF w [] [] := ⟨rfl, fun i hi => by simp at hi⟩
theorem rwsF_snoc {w : World} {l : List Rw} {R : List Rv} {x : Rw} {r : Rv} (h : RwsF w l R) (hx : RwF w x r) : RwsF w (l ++ [x]) (R ++ [r]) := ⟨by simp [h.1], fun i hi => by
  simp only [List.length_append, List.length_singleton] at hi
  by_cases hl : i < l.length
  · have := h.2 i hl
    rw [List.getD_eq_getElem?_getD, List.getElem?_append_left hl, ← List.getD_eq_getElem?_getD, List.getD_eq_getElem?_getD (l := R ++ [r]), List.getElem?_append_left (by rw [h.1]; exact hl), ← List.getD_eq_getElem?_getD]
    exact this
  · have e : i = l.length := by omega
    subst e
    rw [List.getD_eq_getElem?_getD, List.getElem?_append_right (Nat.le_refl _), List.getD_eq_getElem?_getD (l := R ++ [r]), List.getElem?_append_right (by rw [h.1]; exact Nat.le_refl _), h.1, Nat.sub_self]
    exact hx⟩
/-- What stays where the call's own row of reservations is appended to. -/
theorem RwF.append {w w' : World} {B n m : Nat} {v : Value} {xs : List Value} {x : Rw} {r : Rv} (h : RwF w x r) (hn : RwN w x) (ho : w.ownsRow B 50 m v n xs) (hg : w.grownBy w' v.ownBlock) : RwF w' x r ∧ RwN w' x := by
  obtain ⟨_, h2 | ⟨g, cap, cur, h3, _, h5, _⟩⟩ := ho
  · rw [h2.1] at hg
    have hb : Below w.heap.size w w' := Below.grown (Below.refl _ _) hg (Nat.le_refl _) (fun k e => by cases e)
    exact ⟨h.past hb, hn.past hb⟩
  · rw [h3] at hg
    exact h.keep hn hg h5
theorem RwsF.append {w w' : World} {B n m : Nat} {v : Value} {xs : List Value} {l : List Rw} {R : List Rv} (h : RwsF w l R) (hn : ∀ x ∈ l, RwN w x) (ho : w.ownsRow B 50 m v n xs) (hg : w.grownBy w' v.ownBlock) : RwsF w' l R ∧ ∀ x ∈ l, RwN w' x := by
  have key : ∀ i, i < l.length → RwF w' (l.getD i rw0) (R.getD i rv0) ∧ RwN w' (l.getD i rw0) := fun i hi => (h.2 i hi).append (hn _ (getD_memRw hi)) ho hg
  refine ⟨⟨h.1, fun i hi => (key i hi).1⟩, fun x hx => ?_⟩
  obtain ⟨i, hi, rfl⟩ := List.getElem_of_mem hx
  have := (key i hi).2
  rwa [List.getD_eq_getElem?_getD, List.getElem?_eq_getElem hi] at this
theorem rvs_take {R : List Rv} {k : Nat} (h : k < R.length) : R.take (k + 1) = R.take k ++ [R.getD k rv0] := by
  rw [List.take_succ_eq_append_getElem h, List.getD_eq_getElem?_getD, List.getElem?_eq_getElem h]; rfl
end Go.Proofs.YtjhhcljbmnomlaaGreat

namespace Go.Proofs.YtjhhcljbmnomlaaGreat
open Go.ChangeShapes Go.WideShapes Go.ChangeAt Go.RowKit
attribute [local irreducible] Go.Calls

/-- What allApart says. -/
def AllIs (w : World) (R : List Rv) (e : Ending) (w' : World) : Prop := ∃ v l, e = .returned v ∧ w'.ownsRow w.heap.size 50 8 v l.length (cellsRw l) ∧ RwsF w' l R ∧ (∀ x ∈ l, RwN w' x) ∧ (∀ x ∈ l, x.fit) ∧ Below w.heap.size w w'
set_option maxRecDepth 100000 in
set_option maxHeartbeats 4000000 in
theorem allApart_f {l : List Rw} {R : List Rv} {v : Value} (w : World) (hv : SliRw w v l) (hR : RwsF w l R) (hs : ∀ r ∈ R, r.small) (hl : l.length ≤ 1000000) : Calls Tryz.prog 61 #[v] w (AllIs w R) := by
  obtain ⟨a, cap, rfl, hc1, hc2, hc3, hc4, hc5⟩ := hv
  obtain ⟨ix, hix, hx0, hx1, hx2⟩ := info_parts Tryz.infoRsv
  have HI := hidE hix; have HZ0 := hidE hx0; have HZ1 := hidE hx1; have HZ2 := hidE hx2
  have HR := hidE hR; have HS := hidE hs; have HC4 := hidE hc4; have HFIT := hidE hc5
  have hRl := hR.1
  have HMEM := hidE (fun k (h : k < l.length) => getD_memRw h)
  clear hR hs hc3 hc4 hc5 hix hx0 hx1 hx2
  go_enter Tryz.func61, Tryz.ntmps61
  go_wp2
  go_loopw [3, 8] (fun sv s wr => ∃ (k : Nat) (l' : List Rw), s = .int .i64 k ∧ k ≤ l.length ∧ wr.ownsRow w.heap.size 50 8 sv l'.length (cellsRw l') ∧ l'.length = k ∧ RwsF wr l' (R.take k) ∧ (∀ x ∈ l', RwN wr x) ∧ (∀ x ∈ l', x.fit) ∧ Below w.heap.size w wr) (fun _ s _ => l.length - (intOf s).toNat)
  case atStart => exact ⟨0, [], rfl, Nat.zero_le _, own_nil _ _ _, rfl, rwsF_nil _, fun x h => by simp at h, fun x h => by simp at h, Below.refl _ _⟩
  case round =>
    obtain ⟨k, l', rfl, hk, ho, hlk, hF, hN, hff, hb⟩ := hrel
    obtain ⟨av, cv, rfl⟩ := own_sli ho
    have HO := hidE ho; have HF := hidE hF; have HB := hidE hb; have HN := hidE hN; have HFF := hidE hff
    have HLK := hidE hlk
    clear hN hff hlk
    by_cases hlt : k < l.length
    · obtain ⟨b, off, rfl, hbz, hcc⟩ := HC4.out (by omega)
      have hbr : b < wr.heap.size := Nat.lt_of_lt_of_le hbz hb.size
      obtain ⟨e0, e1, e2, e3, e4, e5, e6, e7⟩ := hcc.get hlt
      rw [← hb.cell hbz] at e0 e1 e2 e3 e4 e5 e6 e7
      have hft := HFIT.out _ (HMEM.out k hlt)
      have HX := hidE ((HR.out.2 k hlt).past hb)
      have HSM := hidE (HS.out (R.getD k rv0) (by rw [List.getD_eq_getElem?_getD, List.getElem?_eq_getElem (by omega)]; exact List.getElem_mem _))
      have HTK := hidE (rvs_take (R := R) (k := k) (by omega))
      clear hcc HMEM HC4 HFIT HS HR ho hF
      generalize l.getD k rw0 = x at *
      generalize R.getD k rv0 = r at *
      obtain ⟨xi, xq, xu, xf, xt, xT, xW, xA⟩ := x
      obtain ⟨⟨a5, n5, c5, q5⟩, ⟨a6, n6, c6, q6⟩, ⟨a7, n7, c7, q7⟩, hxu⟩ := hft
      simp only at q5 q6 q7 e0 e1 e2 e3 e4 e5 e6 e7 hxu
      subst q5 q6 q7
      obtain ⟨w4, hw4⟩ : ∃ w4, w4 = wr.alloc (Obj.cells #[.int .u32 xi, .int .u32 xq, nmV xu, .int .i64 xf, .int .i64 xt, .slice a5 n5 c5, .slice a6 n6 c6, .slice a7 n7 c7] 50) := ⟨_, rfl⟩
      have B4 : Blk w4 wr.heap.size #[.int .u32 xi, .int .u32 xq, nmV xu, .int .i64 xf, .int .i64 xt, .slice a5 n5 c5, .slice a6 n6 c6, .slice a7 n7 c7] 50 := by rw [hw4]; exact Blk.made _ _ _
      have hb4 : Below wr.heap.size wr w4 := by rw [hw4]; exact (Below.refl _ _).alloc (Nat.le_refl _) _
      go_upto_region 5 with fail
      rw [← hw4]
      clear hw4
      have b0 := B4.cell 0; have b1 := B4.cell 1; have b2 := B4.cell 2; have b3 := B4.cell 3; have b4 := B4.cell 4; have b5 := B4.cell 5; have b6 := B4.cell 6; have b7 := B4.cell 7; have bz := B4.lt
      simp at b0 b1 b2 b3 b4 b5 b6 b7
      have HAP := hidE (apart_f (HX.out.past hb4) HSM.out)
      have HB4 := hidE (hb.trans (hb4.mono hb.size))
      have HO4 := hidE (own_below HO.out hb4)
      have HF4 := hidE (HF.out.past hb4); have HN4 := hidE (fun x hx => (HN.out x hx).past hb4)
      have hz4 := hb.size
      have hz5 := hb4.size
      clear e0 e1 e2 e3 e4 e5 e6 e7 B4 hb4 HX HO HF HB hb HN
      go_wp2_with fail
      ((with_reducible refine (HAP.out).mono ?_); rintro e w5 ⟨x', rfl, hx', hxn, hb5⟩)
      have HXN := hidE hxn; have HFX := hidE (hx'.fit (by have := HSM.out.2.2.2; unfold maxLen; omega))
      have hfit' := hx'.fit (by have := HSM.out.2.2.2; unfold maxLen; omega)
      have HX5 := hidE hx'
      obtain ⟨yi, yq, yu, yf, yt, yT, yW, yA⟩ := x'
      obtain ⟨⟨d5, m5, g5, q5⟩, ⟨d6, m6, g6, q6⟩, ⟨d7, m7, g7, q7⟩, hyu⟩ := hfit'
      simp only at q5 q6 q7 hyu
      subst q5 q6 q7
      have HO5 := hidE (own_below HO4.out hb5); have HF5 := hidE (HF4.out.past hb5); have HN5 := hidE (fun x hx => (HN4.out x hx).past hb5)
      have HB5 := hidE (HB4.out.trans (hb5.mono HB4.out.size))
      have hz6 := hb5.size
      have hll : l'.length ≤ 1000000 := by have := HLK.out; omega
      clear hx' hxn hb5 HO4 HF4 HN4 HB4 HAP
      go_wp2_with (at_builtin; go_loud (refine list_appW rfl (.tmp 12) (.tmp 15) 31 rfl w.heap.size 50 ix _ 8 112 Tryz.underlying31 HI.out HZ0.out HZ1.out HZ2.out rfl (by decide) (.slice av l'.length cv) l'.length (cellsRw l') rfl (own_below HO5.out (by (repeat (first | exact Below.refl _ _ | assumption | refine balloc ?_ _ | refine below_drewN ?_ _ | refine bstep (by assumption) ?_ | refine bstep (Past.prop _) ?_ | refine Below.setCell ?_ (by first | exact Nat.le_refl _ | (simp; done) | (simp; omega)) _)))) _ 1 [.int .u32 yi, .int .u32 yq, nmV yu, .int .i64 yf, .int .i64 yt, .slice d5 m5 g5, .slice d6 m6 g6, .slice d7 m7 g7] rfl (srcV_new (Blk.made_at _ _ _ _ (by first | rfl | (simp; done))) rfl (by intro y hy; simp at hy; rcases hy with rfl | rfl | rfl | rfl | rfl | rfl | rfl | rfl <;> rfl)) (by omega) (by omega) (by simp; omega) ?_); intro v' w7 own' hg')
      obtain ⟨w6, hw6⟩ : ∃ w6, w6 = w5.alloc (Obj.cells #[.int .u32 yi, .int .u32 yq, nmV yu, .int .i64 yf, .int .i64 yt, .slice d5 m5 g5, .slice d6 m6 g6, .slice d7 m7 g7] 50) := ⟨_, rfl⟩
      rw [← hw6] at hg'
      have hb6 : Below w5.heap.size w5 w6 := by rw [hw6]; exact (Below.refl _ _).alloc (Nat.le_refl _) _
      have ho6 := own_below HO5.out hb6
      obtain ⟨hF7, hN7⟩ := (HF5.out.past hb6).append (fun x hx => (HN5.out x hx).past hb6) ho6 hg'
      obtain ⟨hX7, hXN7⟩ := (HX5.out.past hb6).append (HXN.out.past hb6) ho6 hg'
      have hb7 : Below w.heap.size w w7 := Below.grown (HB5.out.trans (hb6.mono HB5.out.size)) hg' (by have := hb6.size; omega) (fun k e => own_block ho6 e)
      have hF8 := rwsF_snoc hF7 hX7
      rw [← HTK.out] at hF8
      have ho8 : w7.ownsRow w.heap.size 50 8 v' (l' ++ [(⟨yi, yq, yu, yf, yt, .slice d5 m5 g5, .slice d6 m6 g6, .slice d7 m7 g7⟩ : Rw)]).length (cellsRw (l' ++ [(⟨yi, yq, yu, yf, yt, .slice d5 m5 g5, .slice d6 m6 g6, .slice d7 m7 g7⟩ : Rw)])) := by rw [List.length_append, List.length_singleton, cellsRw_app]; exact own'
      have HF8 := hidE hF8; have HO8 := hidE ho8; have HB7 := hidE hb7
      have HN8 := hidE (show ∀ x ∈ l' ++ [(⟨yi, yq, yu, yf, yt, .slice d5 m5 g5, .slice d6 m6 g6, .slice d7 m7 g7⟩ : Rw)], RwN w7 x from fun x hx => by
        rcases List.mem_append.1 hx with hx | hx
        · exact hN7 x hx
        · simp only [List.mem_singleton] at hx; subst hx; exact hXN7)
      have HFF8 := hidE (show ∀ x ∈ l' ++ [(⟨yi, yq, yu, yf, yt, .slice d5 m5 g5, .slice d6 m6 g6, .slice d7 m7 g7⟩ : Rw)], x.fit from fun x hx => by
        rcases List.mem_append.1 hx with hx | hx
        · exact HFF.out x hx
        · simp only [List.mem_singleton] at hx; subst hx; exact HFX.out)
      obtain ⟨a8, c8, rfl⟩ := own_sli own'
      clear own' hg' hb6 ho6 hF7 hN7 hX7 hXN7 hb7 hF8 ho8 hw6 HO5 HF5 HN5 HB5
      go_wp2
      exact ⟨⟨k + 1, _, by go_num, by omega, HO8.out, by rw [List.length_append, HLK.out]; rfl, HF8.out, HN8.out, HFF8.out, HB7.out⟩, by simp [intOf]; omega⟩
    · have hkl : k = l.length := by omega
      have hF9 := HF.out
      rw [List.take_of_length_le (by rw [hRl]; omega)] at hF9
      have HF9 := hidE hF9
      clear hkl hF9
      go_wp2
      go_ret
      exact ⟨_, l', rfl, HO.out, HF9.out, HN.out, HFF.out, HB.out⟩
end Go.Proofs.YtjhhcljbmnomlaaGreat

namespace Go.Proofs.YtjhhcljbmnomlaaGreat
open Go.ChangeShapes Go.WideShapes Go.ChangeAt Go.RowKit
attribute [local irreducible] Go.Calls

theorem rwsF_cons {w : World} {x : Rw} {l : List Rw} {R : List Rv} : RwsF w (x :: l) R ↔ ∃ r M, R = r :: M ∧ RwF w x r ∧ RwsF w l M := by
  constructor
  · intro h
    cases R with
    | nil => have := h.1; simp at this
    | cons r M =>
      refine ⟨r, M, rfl, h.2 0 (by simp), by have := h.1; simpa using this, fun i hi => ?_⟩
      have := h.2 (i + 1) (by simpa using hi)
      simpa using this
  · rintro ⟨r, M, rfl, h1, h2⟩
    refine ⟨by simp [h2.1], fun i hi => ?_⟩
    cases i with
    | zero => exact h1
    | succ i => have := h2.2 i (by simpa using hi); simpa using this
theorem rwsF_app {w : World} {A B : List Rw} {L M : List Rv} (h1 : RwsF w A L) (h2 : RwsF w B M) : RwsF w (A ++ B) (L ++ M) := by
  induction A generalizing L with
  | nil =>
    have : L = [] := List.eq_nil_of_length_eq_zero h1.1
    subst this
    exact h2
  | cons x A ih =>
    obtain ⟨F, N, rfl, h3, h4⟩ := rwsF_cons.1 h1
    exact rwsF_cons.2 ⟨F, N ++ M, rfl, h3, ih h4⟩
theorem rwsF_perm {w : World} {l l' : List Rw} (h : l.Perm l') : ∀ L, RwsF w l L → ∃ L', L'.Perm L ∧ RwsF w l' L' := by
  induction h with
  | nil => exact fun L hL => ⟨L, List.Perm.refl _, hL⟩
  | cons x _ ih =>
    intro L hL
    obtain ⟨F, M, rfl, h1, h2⟩ := rwsF_cons.1 hL
    obtain ⟨M', hp, hM⟩ := ih M h2
    exact ⟨F :: M', hp.cons F, rwsF_cons.2 ⟨F, M', rfl, h1, hM⟩⟩
  | swap x y l =>
    intro L hL
    obtain ⟨F, M, rfl, h1, h2⟩ := rwsF_cons.1 hL
    obtain ⟨G, N, rfl, h3, h4⟩ := rwsF_cons.1 h2
    exact ⟨G :: F :: N, List.Perm.swap _ _ _, rwsF_cons.2 ⟨G, F :: N, rfl, h3, rwsF_cons.2 ⟨F, N, rfl, h1, h4⟩⟩⟩
  | trans _ _ ih1 ih2 =>
    intro L hL
    obtain ⟨M, hp, hM⟩ := ih1 L hL
    obtain ⟨N, hq, hN⟩ := ih2 M hM
    exact ⟨N, hq.trans hp, hN⟩
/-- All reservations of the entries. -/
def allRv (rvs : List UInt8 → List Rv) (U : List Ent) : List Rv := U.flatMap fun p => rvs p.1
theorem rwsF_all {w : World} {rows : List UInt8 → List Rw} {rvs : List UInt8 → List Rv} (h : ∀ s, RwsF w (rows s) (rvs s)) : ∀ U : List Ent, RwsF w (allRw rows U) (allRv rvs U)
  | [] => rwsF_nil w
  | p :: U => by
    unfold allRw allRv
    rw [List.flatMap_cons, List.flatMap_cons]
    exact rwsF_app (h p.1) (rwsF_all h U)
/-- In order: by Seq, then by Id. -/
def ordV (x y : Rv) : Prop := x.seq < y.seq ∨ (x.seq = y.seq ∧ x.id ≤ y.id)
theorem rwsF_sorted {w : World} {l : List Rw} {R : List Rv} (h : RwsF w l R) (hs : l.Pairwise ordW) : R.Pairwise ordV := by
  rw [List.pairwise_iff_getElem] at *
  intro i j hi hj hij
  have hi' : i < l.length := by rw [← h.1]; exact hi
  have hj' : j < l.length := by rw [← h.1]; exact hj
  have h1 := h.2 i hi'
  have h2 := h.2 j hj'
  have h3 := hs i j hi' hj' hij
  rw [List.getD_eq_getElem?_getD, List.getElem?_eq_getElem hi', List.getD_eq_getElem?_getD, List.getElem?_eq_getElem hi] at h1
  rw [List.getD_eq_getElem?_getD, List.getElem?_eq_getElem hj', List.getD_eq_getElem?_getD, List.getElem?_eq_getElem hj] at h2
  simp only [Option.getD_some] at h1 h2
  unfold ordW at h3
  unfold ordV
  rw [← h1.seq, ← h1.id, ← h2.seq, ← h2.id]
  exact h3
/-- What List says. -/
def PlistIs (w : World) (U : List Ent) (rvs : List UInt8 → List Rv) (e : Ending) (w' : World) : Prop := ∃ R, R.Perm (allRv rvs U) ∧ R.Pairwise ordV ∧ AllIs w R e w'
theorem planList_c {p m : Nat} {vc : Value} {U : List Ent} {rows : List UInt8 → List Rw} {rvs : List UInt8 → List Rv} (w : World) (hB : Blk w p #[vc, .map (some m)] 111) (hM : MapU w m U) (hR : RowsOk w U rows) (hF : ∀ s, RwsF w (rows s) (rvs s)) (hs : ∀ r ∈ allRv rvs U, r.small) (hl : (allRw rows U).length ≤ 1000000) :
    Calls Tryz.prog 23 #[.pointer (some ⟨p, 0, none⟩)] w (PlistIs w U rvs) := by
  have HM := hidE (made_c w hB)
  have HB := hidE hB; have HMU := hidE hM; have HR := hidE hR; have HF := hidE hF; have HS := hidE hs
  clear hB hM hR hF hs
  go_enter Tryz.func23, Tryz.ntmps23
  go_wp2_with fail
  ((with_reducible refine (HM.out).mono ?_); rintro e w1 ⟨rfl, hb1⟩)
  have hB1 := HB.out.past hb1
  have b0 := hB1.cell 0; have b1 := hB1.cell 1; have bz := hB1.lt
  simp at b0 b1
  have HLI := hidE (list_c sortC vc w1 (HMU.out.past hb1) (HR.out.past hb1) (by omega))
  have HB1 := hidE hb1
  clear hB1 hb1 HM HB
  go_wp2_with fail
  ((with_reducible refine (HLI.out).mono ?_); rintro e w2 ⟨vl, l, rfl, hb2, hpm, hso, how⟩)
  have hbb := bstep hb2 HB1.out
  obtain ⟨R, hRp, hRF⟩ := rwsF_perm hpm.symm _ (rwsF_all (fun s => (HF.out s).past hbb) U)
  have hfit : ∀ x ∈ l, x.fit := fun x hx => HR.out.fits x (hpm.mem_iff.1 hx)
  have HAA := hidE (allApart_f w2 (sliRw_own how hfit) hRF (fun r hr => HS.out r (hRp.mem_iff.1 hr)) (by rw [hpm.length_eq]; exact hl))
  have HRP := hidE (And.intro hRp (rwsF_sorted hRF hso))
  have HBB := hidE hbb
  clear hb2 hpm hso how hbb hRp hRF hfit HLI HR HF HS HMU
  go_wp2_with fail
  ((with_reducible refine (HAA.out).mono ?_); rintro e w3 ⟨v, l3, rfl, ho3, hF3, hN3, hf3, hb3⟩)
  have HO3 := hidE (own_base ho3 HBB.out.size); have HF3 := hidE hF3; have HN3 := hidE hN3; have HF3' := hidE hf3
  have HB3 := hidE (bstep hb3 HBB.out)
  clear ho3 hF3 hN3 hf3 hb3
  go_wp2
  go_ret
  exact ⟨R, HRP.out.1, HRP.out.2, v, l3, rfl, HO3.out, HF3.out, HN3.out, HF3'.out, HB3.out⟩
end Go.Proofs.YtjhhcljbmnomlaaGreat

namespace Go.Proofs.YtjhhcljbmnomlaaGreat

def Rv.ok (r : Rv) : Bool := mayR r.id r.u r.A
/-- Which of two stands first. -/
def ltV (x r : Rv) : Bool := decide (x.seq < r.seq) || (decide (x.seq = r.seq) && decide (x.id < r.id))
def atS (L : List Rv) (id : Int) : Option Nat := L.findIdx? fun r => r.id == id
def insS (L : List Rv) (r : Rv) : List Rv := L.takeWhile (fun x => ltV x r) ++ r :: L.dropWhile (fun x => ltV x r)
def fnsS (L : List Rv) : List (List Sg) := L.map (·.A)
def sumOk (L : List Rv) : Bool := decide ((sumS (fnsS L)).2 = 0)
def finS (L N : List Rv) : List Rv × Int := if 128 < N.length then (L, 6) else if sumOk N then (N, 0) else (L, 10)
/-- One change. -/
def oneS (L : List Rv) (k : Int) (r : Rv) : List Rv × Int :=
  if 2 < k then (L, 2) else if k ≠ 2 ∧ r.ok = false then (L, 5) else
  match atS L r.id with
  | some i => if k = 0 then (L, 8) else finS L (if k = 2 then L.eraseIdx i else insS (L.eraseIdx i) r)
  | none => if k ≠ 0 then (L, 7) else finS L (insS L r)
/-- One by one, up to the first error. -/
def runS : List Rv → List (Int × Rv) → List Rv × Int
  | L, [] => (L, 0)
  | L, c :: r => if (oneS L c.1 c.2).2 = 0 then runS (oneS L c.1 c.2).1 r else (L, (oneS L c.1 c.2).2)
/-- All at once: all or none. -/
def doP (L : List Rv) (cs : List (Int × Rv)) : List Rv × Int := if (runS L cs).2 = 0 then runS L cs else (L, (runS L cs).2)
theorem runS_snoc : ∀ (cs : List (Int × Rv)) (L : List Rv) (c : Int × Rv), (runS L cs).2 = 0 → runS L (cs ++ [c]) = if (oneS (runS L cs).1 c.1 c.2).2 = 0 then oneS (runS L cs).1 c.1 c.2 else ((runS L cs).1, (oneS (runS L cs).1 c.1 c.2).2)
  | [], L, c, _ => by
    unfold runS
    simp only [List.nil_append, runS]
    split
    · rename_i h; exact Prod.ext rfl h.symm
    · rfl
  | x :: r, L, c, h => by
    unfold runS at h ⊢
    by_cases e : (oneS L x.1 x.2).2 = 0
    · rw [if_pos e] at h
      rw [if_pos e]
      simp only [List.cons_append, e, if_true]
      exact runS_snoc r _ c h
    · rw [if_neg e] at h; exact absurd h e
theorem runS_bad : ∀ (cs ds : List (Int × Rv)) (L : List Rv), (runS L cs).2 ≠ 0 → (runS L (cs ++ ds)).2 = (runS L cs).2
  | [], ds, L, h => by simp [runS] at h
  | x :: r, ds, L, h => by
    unfold runS at h ⊢
    by_cases e : (oneS L x.1 x.2).2 = 0
    · rw [if_pos e] at h
      rw [if_pos e]
      simp only [List.cons_append, e, if_true]
      exact runS_bad r ds _ h
    · rw [if_neg e]
      simp only [List.cons_append, e, if_false]
theorem addS_bad {a b c d : Int} (h : (addS a b c d).2.2 = 0) : okV (a + c) (b + d) = true := by
  unfold addS at h
  have := gate_ok h
  simp only [Bool.and_eq_true] at this
  exact this.2
theorem doS_ten {F G : List Sg} (h1 : mayB F = true) (h2 : mayB G = true) (h : opOk 0 F G = false) : doS 0 F G = ([], 10) := by
  unfold doS
  rw [h1, h2, if_neg (by decide), if_neg (by rw [h]; decide)]
theorem add_inR {L M : List (List Sg)} {A B : List Sg} (hA : Loads L A) (hB : Loads M B) (h : opOk 0 A B = true) : InR (L ++ M) := fun t => by
  have := opOk_iff.1 h t
  unfold opT at this
  rw [hA.2.1 t, hB.2.1 t, opV_0] at this
  have := okV_iff.1 (addS_bad this)
  rw [sA_app, sB_app]
  omega
/-- The sum of two, and whether it is in range. -/
theorem loads_two {L M : List (List Sg)} {A B : List Sg} (hp : ∀ F ∈ L ++ M, posB F = true) (hA : Loads L A) (hB : Loads M B) :
    (InR (L ++ M) ∧ ∃ C, sumS [A, B] = (C, 0) ∧ Loads (L ++ M) C) ∨ (¬ InR (L ++ M) ∧ sumS [A, B] = ([], 10)) := by
  by_cases hr : InR (L ++ M)
  · exact .inl ⟨hr, loads_add hp hr hA hB⟩
  · refine .inr ⟨hr, ?_⟩
    rw [sumS_twoP hA.1 hB.1]
    cases ho : opOk 0 A B
    · exact doS_ten hA.1 hB.1 ho
    · exact absurd (add_inR hA hB ho) hr
theorem inR_nil : InR [] := fun t => by simp [sA, sB]
theorem sumE_pos {L : List (List Sg)} (hp : ∀ F ∈ L, posB F = true) : ∀ n, n ≤ L.length → (InR (L.take n) ∧ (sumE (L.take n)).2 = 0 ∧ Loads (L.take n) (sumE (L.take n)).1) ∨ (¬ InR (L.take n) ∧ (sumE (L.take n)).2 = 10)
  | 0, _ => .inl ⟨inR_nil, rfl, loads_nil⟩
  | n + 1, h => by
    have hlt : n < L.length := h
    have et : L.take (n + 1) = L.take n ++ [L.getD n []] := by rw [List.take_succ_eq_append_getElem hlt, getD_get _ _ _ hlt]
    have hpa : ∀ F ∈ L.take n ++ [L.getD n []], posB F = true := fun F hF => hp F (by rw [← et] at hF; exact List.mem_of_mem_take hF)
    rcases sumE_pos hp n (by omega) with ⟨h1, h2, h3⟩ | ⟨h1, h2⟩
    · rw [sumE_step hlt h2]
      have hone := loads_one (hpa _ (List.mem_append_right _ (List.mem_singleton.2 rfl)))
      rw [et]
      rcases loads_two hpa h3 hone with ⟨g1, C, g2, g3⟩ | ⟨g1, g2⟩
      · rw [sumS_twoP h3.1 hone.1] at g2
        rw [g2]
        exact .inl ⟨g1, rfl, g3⟩
      · rw [sumS_twoP h3.1 hone.1] at g2
        rw [g2]
        exact .inr ⟨g1, rfl⟩
    · refine .inr ⟨fun hr => h1 ?_, ?_⟩
      · rw [et] at hr; exact inR_left hpa hr
      · have e : sumE (L.take (n + 1)) = if (sumE (L.take n)).2 = 0 then doS 0 (sumE (L.take n)).1 (L.getD n []) else sumE (L.take n) := by
          unfold sumE
          rw [List.take_succ_eq_append_getElem hlt, List.foldl_append, getD_get _ _ _ hlt]; rfl
        rw [e, if_neg (by omega)]
        exact h2
theorem posB_may {F : List Sg} (h : posB F = true) : mayB F = true := by
  unfold posB at h
  rw [Bool.and_eq_true] at h
  exact h.1
/-- The sum of all: in range, or not. -/
theorem sumS_pos {L : List (List Sg)} (hp : ∀ F ∈ L, posB F = true) : (InR L ∧ (sumS L).2 = 0 ∧ Loads L (sumS L).1) ∨ (¬ InR L ∧ (sumS L).2 = 10) := by
  have e : sumS L = sumE L := by
    unfold sumS
    rw [if_pos (List.all_eq_true.2 fun F hF => posB_may (hp F hF))]
  rw [e]
  have := sumE_pos hp L.length (Nat.le_refl _)
  rwa [List.take_length] at this
theorem rok_pos {r : Rv} (h : r.ok = true) : posB r.A = true := by
  unfold Rv.ok mayR at h
  simp only [Bool.and_eq_true] at h
  exact h.1.1.1.2
theorem rok_len {r : Rv} (h : r.ok = true) : r.A.length ≤ 1024 := by
  unfold Rv.ok mayR at h
  simp only [Bool.and_eq_true, decide_eq_true_eq] at h
  exact h.1.1.1.1.2
theorem rok_name {r : Rv} (h : r.ok = true) : nameB r.u = true := by
  unfold Rv.ok mayR at h
  simp only [Bool.and_eq_true] at h
  exact h.1.1.1.1.1.2
theorem fns_pos {L : List Rv} (h : ∀ r ∈ L, r.ok = true) : ∀ F ∈ fnsS L, posB F = true := fun F hF => by
  obtain ⟨r, hr, rfl⟩ := List.mem_map.1 hF
  exact rok_pos (h r hr)
theorem sumOk_iff {L : List Rv} (h : ∀ r ∈ L, r.ok = true) : sumOk L = true ↔ InR (fnsS L) := by
  unfold sumOk
  rw [decide_eq_true_eq]
  rcases sumS_pos (fns_pos h) with ⟨h1, h2, _⟩ | ⟨h1, h2⟩
  · exact ⟨fun _ => h1, fun _ => h2⟩
  · exact ⟨fun e => by omega, fun e => absurd e h1⟩
theorem inR_perm {L M : List (List Sg)} (h : L.Perm M) (hL : InR L) : InR M := fun t => by
  have := hL t
  rw [(sA_perm h t).1, (sA_perm h t).2] at this
  exact this
/-- What a plan's reservations are. -/
structure GoodL (L : List Rv) : Prop where
  ord : L.Pairwise fun x y => ltV x y = true
  ids : (L.map (·.id)).Nodup
  ok : ∀ r ∈ L, r.ok = true
  few : L.length ≤ 128
  inR : InR (fnsS L)
theorem good_nil : GoodL [] := ⟨List.Pairwise.nil, List.nodup_nil, fun r h => by simp at h, by simp, inR_nil⟩
theorem ltV_iff {x y : Rv} : ltV x y = true ↔ x.seq < y.seq ∨ (x.seq = y.seq ∧ x.id < y.id) := by
  unfold ltV
  simp
theorem ltV_trans {x y z : Rv} (h1 : ltV x y = true) (h2 : ltV y z = true) : ltV x z = true := by
  rw [ltV_iff] at *; omega
theorem ltV_not {x y : Rv} (h : ¬ ltV x y = true) (hid : x.id ≠ y.id) : ltV y x = true := by
  rw [ltV_iff] at *; omega
theorem insS_perm (L : List Rv) (r : Rv) : (insS L r).Perm (r :: L) := by
  unfold insS
  refine (List.perm_middle).trans ?_
  rw [List.takeWhile_append_dropWhile]
theorem insS_ord : ∀ (L : List Rv) (r : Rv), L.Pairwise (fun x y => ltV x y = true) → (∀ x ∈ L, x.id ≠ r.id) → (insS L r).Pairwise fun x y => ltV x y = true
  | [], r, _, _ => by simp [insS]
  | x :: L, r, h, hid => by
    obtain ⟨h1, h2⟩ := List.pairwise_cons.1 h
    have ih := insS_ord L r h2 (fun y hy => hid y (List.mem_cons_of_mem _ hy))
    by_cases c : ltV x r = true
    · have e : insS (x :: L) r = x :: insS L r := by
        unfold insS
        rw [List.takeWhile_cons_of_pos (p := fun x => ltV x r) c, List.dropWhile_cons_of_pos (p := fun x => ltV x r) c]; rfl
      rw [e]
      refine List.pairwise_cons.2 ⟨fun y hy => ?_, ih⟩
      rcases List.mem_cons.1 ((insS_perm L r).mem_iff.1 hy) with rfl | hy
      · exact c
      · exact h1 y hy
    · have e : insS (x :: L) r = r :: x :: L := by
        unfold insS
        rw [List.takeWhile_cons_of_neg (p := fun x => ltV x r) c, List.dropWhile_cons_of_neg (p := fun x => ltV x r) c]; rfl
      rw [e]
      have hrx := ltV_not c (hid x (List.mem_cons_self ..))
      refine List.pairwise_cons.2 ⟨fun y hy => ?_, h⟩
      rcases List.mem_cons.1 hy with rfl | hy
      · exact hrx
      · exact ltV_trans hrx (h1 y hy)
theorem atS_none {L : List Rv} {id : Int} : atS L id = none ↔ ∀ r ∈ L, r.id ≠ id := by
  unfold atS
  rw [List.findIdx?_eq_none_iff]
  simp
theorem atS_some {L : List Rv} {id : Int} {i : Nat} (h : atS L id = some i) : ∃ hi : i < L.length, L[i].id = id ∧ ∀ j, (hj : j < i) → L[j].id ≠ id := by
  unfold atS at h
  rw [List.findIdx?_eq_some_iff_getElem] at h
  obtain ⟨hi, h1, h2⟩ := h
  exact ⟨hi, by simpa using h1, fun j hj => by simpa using h2 j hj⟩
theorem ids_erase {L : List Rv} {id : Int} {i : Nat} (hn : (L.map (·.id)).Nodup) (h : atS L id = some i) : ∀ r ∈ L.eraseIdx i, r.id ≠ id := fun r hr e => by
  obtain ⟨hi, h1, _⟩ := atS_some h
  obtain ⟨j, hj, hji, rfl⟩ : ∃ j, ∃ hj : j < L.length, j ≠ i ∧ L[j] = r := by
    rw [List.mem_eraseIdx_iff_getElem] at hr
    obtain ⟨j, hj, h2, h3⟩ := hr
    exact ⟨j, hj, h2, h3⟩
  have h3 : (L.map (·.id))[j]'(by simpa using hj) = (L.map (·.id))[i]'(by simpa using hi) := by simp [h1, e]
  exact hji ((List.getElem_inj hn).1 h3)
theorem sA_sub {L M : List Rv} (hok : ∀ r ∈ M, r.ok = true) (h : L.Sublist M) : ∀ t, sA (fnsS L) t ≤ sA (fnsS M) t ∧ sB (fnsS L) t ≤ sB (fnsS M) t := by
  induction h with
  | slnil => intro t; exact ⟨Int.le_refl _, Int.le_refl _⟩
  | cons a h ih =>
    intro t
    have := ih (fun r hr => hok r (List.mem_cons_of_mem _ hr)) t
    have hp := hok a (List.mem_cons_self ..)
    have hv := sAB_pos (L := [a.A]) (fun F hF => by rw [List.mem_singleton.1 hF]; exact rok_pos hp) t
    unfold fnsS sA sB at *
    simp only [List.map_cons, List.sum_cons, List.map_nil, List.sum_nil] at *
    omega
  | cons_cons a h ih =>
    intro t
    have := ih (fun r hr => hok r (List.mem_cons_of_mem _ hr)) t
    unfold fnsS sA sB at *
    simp only [List.map_cons, List.sum_cons] at *
    omega
theorem inR_sub {L M : List Rv} (hok : ∀ r ∈ M, r.ok = true) (h : L.Sublist M) (hr : InR (fnsS M)) : InR (fnsS L) := fun t => by
  have := sA_sub hok h t
  have := hr t
  omega
theorem good_erase {L : List Rv} (h : GoodL L) (i : Nat) : GoodL (L.eraseIdx i) := by
  have hs := List.eraseIdx_sublist L i
  exact ⟨h.ord.sublist hs, h.ids.sublist (hs.map _), fun r hr => h.ok r (hs.subset hr), Nat.le_trans hs.length_le h.few, inR_sub h.ok hs h.inR⟩
/-- One more, in its place. -/
theorem good_ins {L : List Rv} {r : Rv} (h : GoodL L) (hr : r.ok = true) (hid : ∀ x ∈ L, x.id ≠ r.id) (hl : (insS L r).length ≤ 128) (hi : InR (fnsS (insS L r))) : GoodL (insS L r) := by
  have hp := insS_perm L r
  refine ⟨insS_ord L r h.ord hid, ?_, fun x hx => ?_, hl, hi⟩
  · refine ((hp.map (·.id)).nodup_iff).2 ?_
    rw [List.map_cons, List.nodup_cons]
    refine ⟨fun hm => ?_, h.ids⟩
    obtain ⟨x, hx, e⟩ := List.mem_map.1 hm
    exact hid x hx e
  · rcases List.mem_cons.1 (hp.mem_iff.1 hx) with rfl | hx
    · exact hr
    · exact h.ok x hx
theorem insS_len (L : List Rv) (r : Rv) : (insS L r).length = L.length + 1 := by rw [(insS_perm L r).length_eq]; rfl
theorem erase_len {L : List Rv} {i : Nat} {id : Int} (h : atS L id = some i) : (L.eraseIdx i).length + 1 = L.length := by
  obtain ⟨hi, _⟩ := atS_some h
  rw [List.length_eraseIdx, if_pos hi]; omega
theorem insS_ok {L : List Rv} {r : Rv} (h : GoodL L) (hr : r.ok = true) : ∀ x ∈ insS L r, x.ok = true := fun x hx => by
  rcases List.mem_cons.1 ((insS_perm L r).mem_iff.1 hx) with rfl | hx
  · exact hr
  · exact h.ok x hx
theorem finS_ins {L N : List Rv} {r : Rv} (h : GoodL N) (hr : r.ok = true) (hid : ∀ x ∈ N, x.id ≠ r.id) (h0 : (finS L (insS N r)).2 = 0) : GoodL (finS L (insS N r)).1 := by
  unfold finS at h0 ⊢
  by_cases c : 128 < (insS N r).length
  · rw [if_pos c] at h0; simp at h0
  · rw [if_neg c] at h0 ⊢
    cases hs : sumOk (insS N r)
    · rw [hs] at h0; simp at h0
    · rw [if_pos rfl]
      exact good_ins h hr hid (by omega) ((sumOk_iff (insS_ok h hr)).1 hs)
theorem finS_del {L N : List Rv} (h : GoodL N) : finS L N = (N, 0) := by
  unfold finS
  have := h.few
  rw [if_neg (by omega), if_pos ((sumOk_iff h.ok).2 h.inR)]
theorem one_good {L : List Rv} {k : Int} {r : Rv} (h : GoodL L) (h0 : (oneS L k r).2 = 0) : GoodL (oneS L k r).1 := by
  unfold oneS at h0 ⊢
  by_cases c1 : 2 < k
  · rw [if_pos c1] at h0; simp at h0
  rw [if_neg c1] at h0 ⊢
  by_cases c2 : k ≠ 2 ∧ r.ok = false
  · rw [if_pos c2] at h0; simp at h0
  rw [if_neg c2] at h0 ⊢
  cases ha : atS L r.id with
  | none =>
    rw [ha] at h0
    simp only at h0 ⊢
    by_cases c3 : k ≠ 0
    · rw [if_pos c3] at h0; simp at h0
    rw [if_neg c3] at h0 ⊢
    have hr : r.ok = true := by
      cases e : r.ok
      · exact absurd ⟨by omega, e⟩ c2
      · rfl
    exact finS_ins h hr (atS_none.1 ha) h0
  | some i =>
    rw [ha] at h0
    simp only at h0 ⊢
    by_cases c3 : k = 0
    · rw [if_pos c3] at h0; simp at h0
    rw [if_neg c3] at h0 ⊢
    by_cases c4 : k = 2
    · rw [if_pos c4, finS_del (good_erase h i)]
      exact good_erase h i
    · rw [if_neg c4] at h0 ⊢
      have hr : r.ok = true := by
        cases e : r.ok
        · exact absurd ⟨c4, e⟩ c2
        · rfl
      exact finS_ins (good_erase h i) hr (ids_erase h.ids ha) h0
theorem run_good : ∀ (cs : List (Int × Rv)) {L : List Rv}, GoodL L → GoodL (runS L cs).1
  | [], L, h => h
  | c :: r, L, h => by
    unfold runS
    split
    · rename_i e; exact run_good r (one_good h e)
    · exact h
theorem doP_good {L : List Rv} (cs : List (Int × Rv)) (h : GoodL L) : GoodL (doP L cs).1 := by
  unfold doP
  split
  · exact run_good cs h
  · exact h
end Go.Proofs.YtjhhcljbmnomlaaGreat

namespace Go.Proofs.YtjhhcljbmnomlaaGreat
open Go.ChangeShapes Go.WideShapes Go.ChangeAt Go.RowKit
attribute [local irreducible] Go.Calls

theorem rwsF_mem {w : World} {l : List Rw} {R : List Rv} (h : RwsF w l R) {x : Rw} (hx : x ∈ l) : ∃ r ∈ R, RwF w x r := by
  obtain ⟨i, hi, rfl⟩ := List.getElem_of_mem hx
  have := h.2 i hi
  rw [List.getD_eq_getElem?_getD, List.getElem?_eq_getElem hi, List.getD_eq_getElem?_getD, List.getElem?_eq_getElem (by rw [h.1]; exact hi)] at this
  exact ⟨_, List.getElem_mem _, this⟩
theorem rwsF_mem' {w : World} {l : List Rw} {R : List Rv} (h : RwsF w l R) {r : Rv} (hr : r ∈ R) : ∃ x ∈ l, RwF w x r := by
  obtain ⟨i, hi, rfl⟩ := List.getElem_of_mem hr
  have hi' : i < l.length := by rw [← h.1]; exact hi
  have := h.2 i hi'
  rw [List.getD_eq_getElem?_getD, List.getElem?_eq_getElem hi', List.getD_eq_getElem?_getD, List.getElem?_eq_getElem hi] at this
  exact ⟨_, List.getElem_mem _, this⟩
end Go.Proofs.YtjhhcljbmnomlaaGreat

namespace Go.Proofs.YtjhhcljbmnomlaaGreat
open Go.ChangeShapes Go.WideShapes Go.ChangeAt Go.RowKit
attribute [local irreducible] Go.Calls

set_option maxRecDepth 100000 in
set_option maxHeartbeats 2000000 in
theorem clone_c {m : Nat} {U : List Ent} (w : World) (hU : MapU w m U) : Calls Tryz.prog 97 #[.map (some m)] w fun e w' => e = .returned (.map (some w.heap.size)) ∧ MapU w' w.heap.size U ∧ MapU w' m U ∧ Below w.heap.size w w' ∧ w.heap.size < w'.heap.size := by
  have hlt := hU.lt
  obtain ⟨es, clock, hb, h2, h3, h4, h5, h6⟩ := hU
  have HF := hidE (And.intro h2 (And.intro h3 (And.intro h4 (And.intro h5 h6))))
  have hq := fun w => run_eql_map_nil_sl (P := Tryz.prog) w 107 _ _ (some m) Tryz.underlying107
  clear h2 h3 h4 h5 h6
  go_enter Tryz.func97, Tryz.ntmps97
  go_wp2
  rw [run_callFunc_extern Tryz.func146 (by kernel_rfl) (by kernel_rfl) (by kernel_rfl) (e := Extern.MapsClone.clone) (by kernel_rfl), run_maps_clone_sl w 107 hb]
  simp only [Result.andThen]
  rw [Oper.upon_value]
  go_wp2
  rw [run_typeAssert_map_sl _ 107 20 _ _ _ Tryz.underlying107]
  simp only [Result.andThen]
  rw [Oper.upon_value]
  go_wp2
  go_ret
  obtain ⟨h2, h3, h4, h5, h6⟩ := HF.out
  exact ⟨rfl, ⟨es, clock, (MapKept.heap_alloc w _).1, h2, h3, h4, h5, h6⟩, ⟨es, clock, (Below.heap_alloc _ _ m hlt).trans hb, h2, h3, h4, h5, h6⟩, (Below.refl _ w).alloc (Nat.le_refl _) _, by simp⟩
end Go.Proofs.YtjhhcljbmnomlaaGreat

namespace Go.Proofs.YtjhhcljbmnomlaaGreat
open Go.ChangeShapes Go.WideShapes Go.ChangeAt Go.RowKit
attribute [local irreducible] Go.Calls

/-- A map that the call has made. -/
def mpR (B : Nat) (U : List Ent) : Value → World → Prop := fun v w => ∃ m, v = .map (some m) ∧ B ≤ m ∧ MapU w m U
theorem stab_mp (B : Nat) (U : List Ent) : Stab (mpR B U) := fun _ _ _ ⟨m, e, h1, h2⟩ hb => ⟨m, e, h1, h2.past hb⟩
def ctR (vc : Value) (B : Nat) (U : List Ent) : Value → World → Prop := fun v w => ∃ m, v = ctV vc m ∧ B ≤ m ∧ MapU w m U
theorem stab_ct (vc : Value) (B : Nat) (U : List Ent) : Stab (ctR vc B U) := fun _ _ _ ⟨m, e, h1, h2⟩ hb => ⟨m, e, h1, h2.past hb⟩
set_option maxRecDepth 100000 in
set_option maxHeartbeats 4000000 in
theorem shared_c {m : Nat} {U : List Ent} (a : Option Addr) (n c : Nat) (w : World) (hU : MapU w m U) :
    Calls Tryz.prog 50 #[ctV (.slice a n c) m] w fun e w' => ∃ m', e = .returned (ctV (.slice a n c) m') ∧ MapU w' m' U ∧ w.heap.size ≤ m' ∧ Below w.heap.size w w' := by
  obtain ⟨w0, hw0⟩ : ∃ w0, w0 = (w.alloc (Obj.cells #[.slice a n c, .map (some m)] 109)).alloc (Obj.cells #[.slice none 0 0, .map none] 109) := ⟨_, rfl⟩
  obtain ⟨pb, hpb⟩ : ∃ pb, pb = w.heap.size := ⟨_, rfl⟩
  have B1 : Blk w0 pb #[.slice a n c, .map (some m)] 109 := by rw [hw0, hpb]; exact (Blk.made _ _ _).alloc _
  have B2 : Blk w0 (pb + 1) #[.slice none 0 0, .map none] 109 := by rw [hw0, hpb]; exact Blk.made_at _ _ _ _ (by simp)
  have hb0 : Below w.heap.size w w0 := by rw [hw0]; (repeat (first | exact Below.refl _ _ | assumption | refine balloc ?_ _ | refine below_drewN ?_ _ | refine bstep (by assumption) ?_ | refine bstep (Past.prop _) ?_ | refine Below.setCell ?_ (by first | exact Nat.le_refl _ | (simp; done) | (simp; omega)) _))
  have hz0 : w0.heap.size = pb + 1 + 1 := by rw [hw0, hpb]; simp
  have HU := hidE (show MapU w0 m U by rw [hw0]; exact (hU.alloc _).alloc _)
  have HB0 := hidE hb0; have HB1 := hidE B1; have HB2 := hidE B2
  go_enter Tryz.func50, Tryz.ntmps50
  go_upto_region 1 with fail
  rw [← hw0, ← hpb]
  have b0 := B1.cell 0; have b1 := B1.cell 1; have bz := B1.lt
  simp at b0 b1
  have HPB := hidE hpb; have HZ0 := hidE hz0
  clear hw0 B1 B2 hb0 hU hpb hz0
  refine wp_region_J 6 [] (nthR [detR (.pointer (some ⟨pb, 0, none⟩)), detR (.slice a n c), detR (.pointer (some ⟨pb, 1, none⟩)), detR (.map (some m)), mpR w0.heap.size U, ctR (.slice a n c) w0.heap.size U]) (fun _ => false) (by kernel_rfl) (by decide) (by kernel_rfl) (stab_nth (by intro r hr; simp only [List.mem_cons, List.not_mem_nil, or_false] at hr; rcases hr with rfl | rfl | rfl | rfl | rfl | rfl <;> first | exact stab_det _ | exact stab_mp _ _ | exact stab_ct _ _ _)) ?_ ?_ ?_
  · intro i o hi ho
    match i, hi with
    | 0, _ =>
      obtain rfl := Option.some.inj ho
      intro u x hd
      have hc := Past.cell x
      simp [go_sem, gives, frm, Act.put, nthR, detR, Region.wanted, Below.refl]
    | 1, _ =>
      obtain rfl := Option.some.inj ho
      intro u x hd
      have hc := Past.cell x
      have d0 := hd 0 (by decide) (by kernel_rfl)
      simp only [nthR, detR, List.getD_cons_zero] at d0
      simp [go_sem, gives, frm, Act.put, nthR, detR, Region.wanted, Below.refl, hc, d0, b0, bz]
    | 2, _ =>
      obtain rfl := Option.some.inj ho
      intro u x hd
      have hc := Past.cell x
      simp [go_sem, gives, frm, Act.put, nthR, detR, Region.wanted, Below.refl]
    | 3, _ =>
      obtain rfl := Option.some.inj ho
      intro u x hd
      have hc := Past.cell x
      have d2 := hd 2 (by decide) (by kernel_rfl)
      simp only [nthR, detR, List.getD_cons_zero, List.getD_cons_succ] at d2
      simp [go_sem, gives, frm, Act.put, nthR, detR, Region.wanted, Below.refl, hc, d2, b1, bz]
    | 4, _ =>
      obtain rfl := Option.some.inj ho
      intro u x hd
      have hc := Past.cell x
      have d3 := hd 3 (by decide) (by kernel_rfl)
      simp only [nthR, detR, List.getD_cons_zero, List.getD_cons_succ] at d3
      simp [go_sem, gives, frm, Act.put, nthR, Region.wanted, d3]
      (with_reducible refine (clone_c _ (HU.out.past (Past.prop x))).mono ?_); rintro e w3 ⟨rfl, h1, h2, hb3, h4⟩; exact ⟨_, rfl, hb3, ⟨_, rfl, (Past.prop x).size, h1⟩⟩
    | 5, _ =>
      obtain rfl := Option.some.inj ho
      intro u x hd
      have hc := Past.cell x
      have d1 := hd 1 (by decide) (by kernel_rfl)
      simp only [nthR, detR, List.getD_cons_zero, List.getD_cons_succ] at d1
      have h4 : ∃ m', u 4 = .map (some m') ∧ w0.heap.size ≤ m' ∧ MapU x.1 m' U := hd 4 (by decide) (by kernel_rfl)
      have e4 := h4.choose_spec.1; have hm1 := h4.choose_spec.2; generalize h4.choose = m' at *
      simp [go_sem, gives, frm, Act.put, nthR, Region.wanted, Below.refl, d1, e4]
      exact ⟨m', rfl, hm1⟩
    | i + 6, h => exact absurd h (by omega)
  · intro i o hx ho
    simp at hx
  · intro u x9 hu hne
    have h5 : ∃ m', u 5 = ctV (.slice a n c) m' ∧ w0.heap.size ≤ m' ∧ MapU x9.1 m' U := hu 5 (by decide)
    obtain ⟨m', e5, hm1, hm2⟩ := h5
    simp only [frm, List.take, Act.put, e5]
    have hB9 := HB0.out.trans (x9.2.mono HB0.out.size)
    have B29 := HB2.out.past x9.2
    have r0 := B29.cell 0; have r1 := B29.cell 1; have rf := B29.free; have rz := B29.lt
    simp at r0 r1
    have HB9 := hidE hB9; have HM1 := hidE hm1; have HM2 := hidE hm2
    clear hu hne e5 hB9 hm1 hm2 B29 HB0 HB1 HB2 HU b0 b1 bz
    generalize x9.1 = w9 at *
    go_wp2
    refine bodyPost_ret (v := ctV (.slice a n c) m') (by simp [results, Tryz.results50, go_sem, r0, r1]) rfl ?_
    have hp := HPB.out
    have hz := HZ0.out
    have hm := HM1.out
    exact ⟨m', rfl, (HM2.out.other (by omega) _).other (by omega) _, by omega, (HB9.out.setCell (show w.heap.size ≤ pb + 1 from by omega) _).setCell (show w.heap.size ≤ pb + 1 from by omega) _⟩
end Go.Proofs.YtjhhcljbmnomlaaGreat

namespace Go.Proofs.YtjhhcljbmnomlaaGreat
open Go.ChangeShapes Go.WideShapes Go.ChangeAt Go.RowKit
attribute [local irreducible] Go.Calls

theorem run_store_fnZ {P : Program} {w : World} {a : Addr} {m : Mode} {f : Fn} {l r : Array Value} : (store a (.func f l r) m).run P w = stored P w a (.func f l r) m := run_store P w a _ m rfl
attribute [local go_sem] run_store_fnZ
abbrev chgV : Array Value := #[.func (.func 151) #[] #[], .func (.func 152) #[] #[], .func (.func 153) #[] #[]]
set_option maxRecDepth 100000 in
theorem changes_c (w : World) : Calls Tryz.prog 101 #[] w fun e w' => e = .returned (.agg chgV) ∧ Below w.heap.size w w' := by
  have B := Blk.made w #[.nilFunc, .nilFunc, .nilFunc] 170
  have b0 := B.cell 0; have b1 := B.cell 1; have b2 := B.cell 2; have bf := B.free; have bz := B.lt
  simp at b0 b1 b2
  go_enter Tryz.func101, Tryz.ntmps101
  go_wp2
  refine bodyPost_ret (v := .agg chgV) (by simp [results, Tryz.results101, go_sem]) rfl ⟨rfl, by (repeat (first | exact Below.refl _ _ | assumption | refine balloc ?_ _ | refine below_drewN ?_ _ | refine bstep (by assumption) ?_ | refine bstep (Past.prop _) ?_ | refine Below.setCell ?_ (by first | exact Nat.le_refl _ | (simp; done) | (simp; omega)) _))⟩
end Go.Proofs.YtjhhcljbmnomlaaGreat

namespace Go.Proofs.YtjhhcljbmnomlaaGreat
open Go.ChangeShapes Go.WideShapes Go.ChangeAt Go.RowKit
attribute [local irreducible] Go.Calls

/-- Each block in which a number stands is as it was. -/
def KeepI (w w' : World) : Prop := w.heap.size ≤ w'.heap.size ∧ ∀ (b o : Nat) (k : IntKind) (i : Int), w.cell? ⟨b, o, none⟩ = some (.int k i) → w'.heap[b]? = w.heap[b]?
theorem KeepI.cell {w w' : World} (h : KeepI w w') {b o : Nat} {k : IntKind} {i : Int} (hc : w.cell? ⟨b, o, none⟩ = some (.int k i)) (o' : Nat) : w'.cell? ⟨b, o', none⟩ = w.cell? ⟨b, o', none⟩ := cell_block (h.2 b o k i hc) o'
/-- No number stands in a block. -/
def NoInt (w : World) (q : Nat) : Prop := ∀ (o : Nat) (k : IntKind) (i : Int), w.cell? ⟨q, o, none⟩ ≠ some (.int k i)
theorem keepI_grown {w w' : World} {q : Nat} (h : w.grownBy w' (some q)) (hn : NoInt w q) : KeepI w w' := ⟨h.size, fun b o k i hc => h.block b (World.block_lt_of_cell? w _ hc) (fun e => by
  cases e
  exact hn o k i hc)⟩
theorem noInt_two {w : World} {q : Nat} {a : Option Addr} {n c : Nat} {m : Option Nat} {t : TypeId} (h : Blk w q #[.slice a n c, .map m] t) : NoInt w q := fun o k i e => by
  rw [h.cell o] at e
  match o, e with
  | 0, e => simp at e
  | 1, e => simp at e
  | o + 2, e => simp at e
theorem noInt_three {w : World} {q : Nat} {a a' : Option Addr} {n c n' c' : Nat} {m : Option Nat} {t : TypeId} (h : Blk w q #[.slice a n c, .map m, .slice a' n' c'] t) : NoInt w q := fun o k i e => by
  rw [h.cell o] at e
  match o, e with
  | 0, e => simp at e
  | 1, e => simp at e
  | 2, e => simp at e
  | o + 3, e => simp at e
theorem SliS.keepI {w w' : World} {v : Value} {l : List Sg} (h : SliS w v l) (hk : KeepI w w') : SliS w' v l := by
  obtain ⟨a, cap, e, h1, h2, h3⟩ := h
  refine ⟨a, cap, e, h1, h2, fun hl => ?_⟩
  obtain ⟨b, off, e2, hb, hc⟩ := h3 hl
  refine ⟨b, off, e2, Nat.lt_of_lt_of_le hb hk.1, fun i hi => ?_⟩
  obtain ⟨c1, c2, c3⟩ := hc i hi
  exact ⟨(hk.cell c1 _).trans c1, (hk.cell c1 _).trans c2, (hk.cell c1 _).trans c3⟩
theorem SliP.keepI {w w' : World} {v : Value} {l : List Prt} (h : SliP w v l) (hk : KeepI w w') : SliP w' v l := by
  obtain ⟨a, cap, e, h1, h2, h3⟩ := h
  refine ⟨a, cap, e, h1, h2, fun hl => ?_⟩
  obtain ⟨b, off, e2, hb, hc⟩ := h3 hl
  refine ⟨b, off, e2, Nat.lt_of_lt_of_le hb hk.1, fun i hi => ?_⟩
  obtain ⟨c1, c2, c3, c4, c5⟩ := hc i hi
  exact ⟨(hk.cell c1 _).trans c1, (hk.cell c1 _).trans c2, (hk.cell c1 _).trans c3, (hk.cell c1 _).trans c4, (hk.cell c1 _).trans c5⟩
theorem SliVs.keepI {w w' : World} {v : Value} {l : List (Int × Int)} (h : SliVs w v l) (hk : KeepI w w') : SliVs w' v l := by
  obtain ⟨a, cap, e, h1, h2, h3⟩ := h
  refine ⟨a, cap, e, h1, h2, fun hl => ?_⟩
  obtain ⟨b, off, e2, hb, hc⟩ := h3 hl
  refine ⟨b, off, e2, Nat.lt_of_lt_of_le hb hk.1, fun i hi => ?_⟩
  obtain ⟨c1, c2⟩ := hc i hi
  exact ⟨(hk.cell c1 _).trans c1, (hk.cell c1 _).trans c2⟩
theorem SliRw.keepI {w w' : World} {v : Value} {l : List Rw} (h : SliRw w v l) (hk : KeepI w w') : SliRw w' v l := by
  obtain ⟨a, cap, e, h1, h2, h3, h4, h5⟩ := h
  refine ⟨a, cap, e, h1, h2, h3, fun hl => ?_, h5⟩
  obtain ⟨b, off, e2, hb, hc⟩ := h4 hl
  refine ⟨b, off, e2, Nat.lt_of_lt_of_le hb hk.1, fun i j hi hj => ?_⟩
  exact (hk.cell (hc.get hi).1 _).trans (hc i j hi hj)
theorem add_block (ad : Addr) (j : Nat) : (ad.add j).block = ad.block := by unfold Addr.add; split <;> rfl
theorem srcV_keepI {w w' : World} {sz n : Nat} {v : Value} {ys : List Value} (h : SrcV w sz v n ys) (hi : ∀ u ∈ ys, ∃ k i, u = .int k i) (hk : KeepI w w') : SrcV w' sz v n ys := by
  obtain ⟨a, cap, e, h0, h1, h2, h3⟩ := h
  refine ⟨a, cap, e, h0, h1, h2, fun ad ha j u hu => ?_⟩
  have hc := h3 ad ha j u hu
  obtain ⟨hlt, hg⟩ := List.getElem?_eq_some_iff.1 hu
  obtain ⟨k, i, rfl⟩ := hi u (by rw [← hg]; exact List.getElem_mem hlt)
  unfold World.cell? at hc ⊢
  rw [add_block] at hc ⊢
  have hh : w'.heap[ad.block]? = w.heap[ad.block]? := by
    by_cases c : ∃ o k i, w.cell? ⟨ad.block, o, none⟩ = some (.int k i)
    · obtain ⟨o, k', i', c⟩ := c
      exact hk.2 _ _ _ _ c
    · refine absurd ⟨(ad.add j).off, k, i, ?_⟩ c
      unfold World.cell?
      cases hsp : (ad.add j).spot with
      | none =>
        rw [hsp] at hc
        exact hc
      | some s =>
        rw [hsp] at hc
        exfalso
        split at hc
        · simp at hc
        · simp at hc
  rw [hh]
  exact hc
theorem cellsOfS_int : ∀ l : List Sg, ∀ u ∈ cellsOfS l, ∃ k i, u = .int k i
  | [], u, h => by simp [cellsOfS] at h
  | s :: r, u, h => by
    simp only [cellsOfS, List.mem_cons] at h
    rcases h with rfl | rfl | rfl | h
    · exact ⟨_, _, rfl⟩
    · exact ⟨_, _, rfl⟩
    · exact ⟨_, _, rfl⟩
    · exact cellsOfS_int r u h
theorem cellsOfP_int : ∀ l : List Prt, ∀ u ∈ cellsOfP l, ∃ k i, u = .int k i
  | [], u, h => by simp [cellsOfP] at h
  | s :: r, u, h => by
    simp only [cellsOfP, List.mem_cons] at h
    rcases h with rfl | rfl | rfl | rfl | rfl | h
    · exact ⟨_, _, rfl⟩
    · exact ⟨_, _, rfl⟩
    · exact ⟨_, _, rfl⟩
    · exact ⟨_, _, rfl⟩
    · exact ⟨_, _, rfl⟩
    · exact cellsOfP_int r u h
theorem cellsOfV_int : ∀ l : List (Int × Int), ∀ u ∈ cellsOfV l, ∃ k i, u = .int k i
  | [], u, h => by simp [cellsOfV] at h
  | s :: r, u, h => by
    simp only [cellsOfV, List.mem_cons] at h
    rcases h with rfl | rfl | h
    · exact ⟨_, _, rfl⟩
    · exact ⟨_, _, rfl⟩
    · exact cellsOfV_int r u h
theorem SliF3.keepI {w w' : World} {v : Value} {F : List Sg} (h : SliF3 w v F) (hk : KeepI w w') : SliF3 w' v F := ⟨h.1.keepI hk, srcV_keepI h.2 (cellsOfS_int F) hk⟩
theorem RwF.keepI {w w' : World} {x : Rw} {r : Rv} (h : RwF w x r) (hk : KeepI w w') : RwF w' x r :=
  ⟨h.id, h.seq, h.u, h.fr, h.to', h.t.keepI hk, srcV_keepI h.ts (cellsOfP_int _) hk, h.w'.keepI hk, srcV_keepI h.ws (cellsOfV_int _) hk, ⟨h.a.1.keepI hk, srcV_keepI h.a.2 (cellsOfS_int _) hk⟩⟩
theorem RwsF.keepI {w w' : World} {l : List Rw} {R : List Rv} (h : RwsF w l R) (hk : KeepI w w') : RwsF w' l R := ⟨h.1, fun i hi => (h.2 i hi).keepI hk⟩
/-- What a map of users' rows says. -/
structure Body (w : World) (m : Nat) (U : List Ent) (rows : List UInt8 → List Rw) (rvs : List UInt8 → List Rv) (L : List Rv) : Prop where
  map : MapU w m U
  ok : RowsOk w U rows
  gone : ∀ s, (∀ p ∈ U, p.1 ≠ s) → rvs s = []
  full : ∀ p ∈ U, rvs p.1 ≠ []
  vals : ∀ s, RwsF w (rows s) (rvs s)
  user : ∀ s, ∀ r ∈ rvs s, r.u = s
  perm : (allRv rvs U).Perm L
  good : GoodL L
  small : ∀ r ∈ L, r.small
theorem Body.past {w w' : World} {m : Nat} {U : List Ent} {rows : List UInt8 → List Rw} {rvs : List UInt8 → List Rv} {L : List Rv} (h : Body w m U rows rvs L) (hb : Below w.heap.size w w') : Body w' m U rows rvs L :=
  ⟨h.map.past hb, h.ok.past hb, h.gone, h.full, fun s => (h.vals s).past hb, h.user, h.perm, h.good, h.small⟩
/-- A block of cells is no map. -/
theorem MapU.ne_blk {w : World} {m q : Nat} {U : List Ent} {cs : Array Value} {t : TypeId} (h : MapU w m U) (hb : Blk w q cs t) : m ≠ q := fun e => by
  subst e
  obtain ⟨es, clock, h1, _⟩ := h
  obtain ⟨fz, h2⟩ : ∃ fz, w.heap[m]? = some (.cells cs t fz) := ⟨_, hb⟩
  rw [h1] at h2; cases h2
theorem Body.keepI {w w' : World} {m q : Nat} {U : List Ent} {rows : List UInt8 → List Rw} {rvs : List UInt8 → List Rv} {L : List Rv} (h : Body w m U rows rvs L) (hg : w.grownBy w' (some q)) (hn : NoInt w q) (hm : m ≠ q) : Body w' m U rows rvs L := by
  have hk := keepI_grown hg hn
  exact ⟨h.map.keep (hg.block m h.map.lt (fun e => hm (by cases e; rfl))), fun p hp => (h.ok p hp).keepI hk, h.gone, h.full, fun s => (h.vals s).keepI hk, h.user, h.perm, h.good, h.small⟩
theorem Body.rows_none {w : World} {m : Nat} {U : List Ent} {rows : List UInt8 → List Rw} {rvs : List UInt8 → List Rv} {L : List Rv} (h : Body w m U rows rvs L) (s : List UInt8) (hs : ∀ p ∈ U, p.1 ≠ s) : rows s = [] :=
  List.eq_nil_of_length_eq_zero (by rw [← (h.vals s).1, h.gone s hs]; rfl)
theorem allRv_mem {rvs : List UInt8 → List Rv} {U : List Ent} {r : Rv} : r ∈ allRv rvs U ↔ ∃ p ∈ U, r ∈ rvs p.1 := by
  unfold allRv; rw [List.mem_flatMap]
theorem Body.key {w : World} {m : Nat} {U : List Ent} {rows : List UInt8 → List Rw} {rvs : List UInt8 → List Rv} {L : List Rv} (h : Body w m U rows rvs L) {s : List UInt8} {r : Rv} (hr : r ∈ rvs s) : ∃ p ∈ U, p.1 = s := by
  by_cases c : ∃ p ∈ U, p.1 = s
  · exact c
  · have := h.gone s (fun p hp e => c ⟨p, hp, e⟩)
    rw [this] at hr; simp at hr
theorem Body.mem {w : World} {m : Nat} {U : List Ent} {rows : List UInt8 → List Rw} {rvs : List UInt8 → List Rv} {L : List Rv} (h : Body w m U rows rvs L) {s : List UInt8} {r : Rv} (hr : r ∈ rvs s) : r ∈ L := by
  obtain ⟨p, hp, rfl⟩ := h.key hr
  exact h.perm.mem_iff.1 (allRv_mem.2 ⟨p, hp, hr⟩)
theorem sub_all {α : Type} {f : List UInt8 → List α} : ∀ {U : List Ent} {p : Ent}, p ∈ U → (f p.1).Sublist (U.flatMap fun q => f q.1)
  | q :: U, p, h => by
    rw [List.flatMap_cons]
    rcases List.mem_cons.1 h with rfl | h
    · exact List.sublist_append_left _ _
    · exact (sub_all h).trans (List.sublist_append_right _ _)
theorem fns_all (rvs : List UInt8 → List Rv) (U : List Ent) : allFs (fun s => fnsS (rvs s)) U = fnsS (allRv rvs U) := by
  unfold allFs allRv fnsS
  rw [List.map_flatMap]
theorem lenR_le {L : List Rv} (h : ∀ r ∈ L, r.ok = true) : lenR (fnsS L) ≤ L.length * 1024 := by
  induction L with
  | nil => simp [lenR, fnsS]
  | cons r L ih =>
    have := ih (fun x hx => h x (List.mem_cons_of_mem _ hx))
    have := rok_len (h r (List.mem_cons_self ..))
    unfold lenR fnsS at *
    simp only [List.map_cons, List.sum_cons, List.length_cons]
    omega
theorem Body.all_len {w : World} {m : Nat} {U : List Ent} {rows : List UInt8 → List Rw} {rvs : List UInt8 → List Rv} {L : List Rv} (h : Body w m U rows rvs L) : (allRw rows U).length = L.length := by
  rw [← h.perm.length_eq]
  exact (rwsF_all h.vals U).1.symm
theorem Body.okv {w : World} {m : Nat} {U : List Ent} {rows : List UInt8 → List Rw} {rvs : List UInt8 → List Rv} {L : List Rv} (h : Body w m U rows rvs L) (s : List UInt8) : ∀ r ∈ rvs s, r.ok = true := fun r hr => h.good.ok r (h.mem hr)
theorem Body.inR {w : World} {m : Nat} {U : List Ent} {rows : List UInt8 → List Rw} {rvs : List UInt8 → List Rv} {L : List Rv} (h : Body w m U rows rvs L) : InR (fnsS (allRv rvs U)) := inR_perm ((h.perm.map _).symm) h.good.inR
theorem Body.sub {w : World} {m : Nat} {U : List Ent} {rows : List UInt8 → List Rw} {rvs : List UInt8 → List Rv} {L : List Rv} (h : Body w m U rows rvs L) (s : List UInt8) : (rvs s).Sublist (allRv rvs U) := by
  by_cases c : ∃ p ∈ U, p.1 = s
  · obtain ⟨p, hp, rfl⟩ := c
    exact sub_all hp
  · rw [h.gone s (fun p hp e => c ⟨p, hp, e⟩)]
    exact List.nil_sublist _
theorem Body.few {w : World} {m : Nat} {U : List Ent} {rows : List UInt8 → List Rw} {rvs : List UInt8 → List Rv} {L : List Rv} (h : Body w m U rows rvs L) (s : List UInt8) : (rvs s).length ≤ 128 := by
  have := (h.sub s).length_le
  have h2 := h.perm.length_eq
  have := h.good.few
  omega
theorem Body.planC {w : World} {m : Nat} {U : List Ent} {rows : List UInt8 → List Rw} {rvs : List UInt8 → List Rv} {L : List Rv} (h : Body w m U rows rvs L) : PlanC w m U rows (fun s => fnsS (rvs s)) where
  map := h.map
  ok := h.ok
  none := h.rows_none
  fns := fun s => (h.vals s).fns
  pos := fun s => fns_pos (h.okv s)
  inR := fun s => inR_sub (fun r hr => h.good.ok r (h.perm.mem_iff.1 hr)) (h.sub s) h.inR
  few := fun s => by have := h.few s; have := (h.vals s).1; omega
  short := fun s => by have := h.few s; have := lenR_le (h.okv s); omega
theorem Body.lenAll {w : World} {m : Nat} {U : List Ent} {rows : List UInt8 → List Rw} {rvs : List UInt8 → List Rv} {L : List Rv} (h : Body w m U rows rvs L) : lenR (allFs (fun s => fnsS (rvs s)) U) ≤ 131072 := by
  rw [fns_all, lenR_perm (L := fnsS (allRv rvs U)) (M := fnsS L) (h.perm.map _)]
  have := lenR_le h.good.ok
  have := h.good.few
  unfold fnsS at *
  omega
theorem Body.smalls {w : World} {m : Nat} {U : List Ent} {rows : List UInt8 → List Rw} {rvs : List UInt8 → List Rv} {L : List Rv} (h : Body w m U rows rvs L) : ∀ r ∈ allRv rvs U, r.small := fun r hr => h.small r (h.perm.mem_iff.1 hr)
/-- Two rows in order with the same reservations are the same. -/
theorem ord_eq {L R : List Rv} (hL : GoodL L) (hp : R.Perm L) (hs : R.Pairwise ordV) : R = L := by
  have hs2 : L.Pairwise ordV := hL.ord.imp (fun h => by
    rw [ltV_iff] at h; unfold ordV; omega)
  refine hp.eq_of_pairwise (fun a b ha hb h1 h2 => ?_) hs hs2
  have e : a.id = b.id := by unfold ordV at h1 h2; omega
  have hb' := hb
  have ha' := hp.mem_iff.1 ha
  obtain ⟨i, hi, rfl⟩ := List.getElem_of_mem ha'
  obtain ⟨j, hj, rfl⟩ := List.getElem_of_mem hb'
  have h3 : (L.map (·.id))[i]'(by simpa using hi) = (L.map (·.id))[j]'(by simpa using hj) := by simpa using e
  have := (List.getElem_inj hL.ids).1 h3
  subst this; rfl
end Go.Proofs.YtjhhcljbmnomlaaGreat

namespace Go.Proofs.YtjhhcljbmnomlaaGreat

theorem idx_get {U : List Ent} {k : List UInt8} {j : Nat} (h : idxU U k = some j) : ∃ hj : j < U.length, U[j].1 = k := by
  unfold idxU at h
  rw [List.findIdx?_eq_some_iff_getElem] at h
  obtain ⟨hj, h1, _⟩ := h
  exact ⟨hj, by simpa using h1⟩
theorem idx_no {U : List Ent} {k : List UInt8} (h : idxU U k = none) : ∀ p ∈ U, p.1 ≠ k := by
  unfold idxU at h
  rw [List.findIdx?_eq_none_iff] at h
  intro p hp e
  have := h p hp
  simp [e] at this
theorem put_keys (U : List Ent) (k : List UInt8) (v : Value) : (putU U k v).map (·.1) = if (idxU U k).isSome then U.map (·.1) else U.map (·.1) ++ [k] := by
  unfold putU
  cases h : idxU U k with
  | none => simp
  | some j =>
    obtain ⟨hj, he⟩ := idx_get h
    simp only [Option.isSome_some, if_true, List.map_set]
    have : (U.map (·.1))[j]'(by simpa using hj) = k := by simpa using he
    conv => lhs; rw [← this]
    rw [List.set_getElem_self]
theorem mem_put {U : List Ent} {k : List UInt8} {v : Value} (hn : (U.map (·.1)).Nodup) {p : Ent} (hp : p ∈ putU U k v) : p = (k, v) ∨ (p ∈ U ∧ p.1 ≠ k) := by
  unfold putU at hp
  cases h : idxU U k with
  | none =>
    rw [h] at hp
    simp only [List.mem_append, List.mem_singleton] at hp
    rcases hp with hp | hp
    · exact .inr ⟨hp, idx_no h p hp⟩
    · exact .inl hp
  | some j =>
    rw [h] at hp
    obtain ⟨hj, he⟩ := idx_get h
    simp only at hp
    obtain ⟨i, hi, e⟩ := List.getElem_of_mem hp
    rw [List.getElem_set] at e
    by_cases c : j = i
    · rw [if_pos c] at e; exact .inl e.symm
    · rw [if_neg c] at e
      have hi' : i < U.length := by simpa using hi
      refine .inr ⟨e ▸ List.getElem_mem hi', fun e2 => c ?_⟩
      have h3 : (U.map (·.1))[j]'(by simpa using hj) = (U.map (·.1))[i]'(by simpa using hi') := by simp [he, e, e2]
      exact (List.getElem_inj hn).1 h3
theorem mem_put_self (U : List Ent) (k : List UInt8) (v : Value) : (k, v) ∈ putU U k v := by
  unfold putU
  cases h : idxU U k with
  | none => simp
  | some j =>
    obtain ⟨hj, _⟩ := idx_get h
    exact List.mem_iff_getElem.2 ⟨j, by simpa using hj, by simp⟩
theorem mem_put_old {U : List Ent} {k : List UInt8} {v : Value} {p : Ent} (hp : p ∈ U) (hk : p.1 ≠ k) : p ∈ putU U k v := by
  unfold putU
  cases h : idxU U k with
  | none => exact List.mem_append_left _ hp
  | some j =>
    obtain ⟨hj, he⟩ := idx_get h
    obtain ⟨i, hi, e⟩ := List.getElem_of_mem hp
    refine List.mem_iff_getElem.2 ⟨i, by simpa using hi, ?_⟩
    simp only [List.getElem_set]
    rw [if_neg (fun c => by subst c; rw [e] at he; exact hk he)]
    exact e
theorem mem_del {U : List Ent} {k : List UInt8} (hn : (U.map (·.1)).Nodup) {p : Ent} : p ∈ delU U k ↔ p ∈ U ∧ p.1 ≠ k := by
  unfold delU
  cases h : idxU U k with
  | none => exact ⟨fun hp => ⟨hp, idx_no h p hp⟩, fun hp => hp.1⟩
  | some j =>
    obtain ⟨hj, he⟩ := idx_get h
    simp only [List.mem_eraseIdx_iff_getElem]
    constructor
    · rintro ⟨i, hi, hij, rfl⟩
      refine ⟨List.getElem_mem hi, fun e2 => hij ?_⟩
      have h3 : (U.map (·.1))[i]'(by simpa using hi) = (U.map (·.1))[j]'(by simpa using hj) := by simp [he, e2]
      exact (List.getElem_inj hn).1 h3
    · rintro ⟨hp, hk⟩
      obtain ⟨i, hi, rfl⟩ := List.getElem_of_mem hp
      exact ⟨i, hi, fun c => by subst c; exact hk he, rfl⟩
theorem erase_filter : ∀ (K : List (List UInt8)) (j : Nat) (hj : j < K.length), K.Nodup → K.eraseIdx j = K.filter (fun s => decide (s ≠ K[j]))
  | [], j, hj, _ => by simp at hj
  | k :: K, 0, _, hn => by
    obtain ⟨hk, _⟩ := List.nodup_cons.1 hn
    rw [List.eraseIdx_cons_zero, List.getElem_cons_zero, List.filter_cons_of_neg (by simp)]
    symm
    rw [List.filter_eq_self]
    intro s hs
    simp only [decide_eq_true_eq]
    intro e; subst e; exact hk hs
  | k :: K, j + 1, hj, hn => by
    obtain ⟨hk, hn⟩ := List.nodup_cons.1 hn
    have hj' : j < K.length := by simpa using hj
    rw [List.eraseIdx_cons_succ, List.getElem_cons_succ, List.filter_cons_of_pos, erase_filter K j hj' hn]
    simp only [decide_eq_true_eq]
    intro e; exact hk (e ▸ List.getElem_mem hj')
theorem del_keys (U : List Ent) (k : List UInt8) (hn : (U.map (·.1)).Nodup) : (delU U k).map (·.1) = (U.map (·.1)).filter (fun s => decide (s ≠ k)) := by
  unfold delU
  cases h : idxU U k with
  | none =>
    simp only
    rw [List.filter_eq_self.2]
    intro s hs
    obtain ⟨p, hp, rfl⟩ := List.mem_map.1 hs
    simpa using idx_no h p hp
  | some j =>
    obtain ⟨hj, he⟩ := idx_get h
    simp only
    have hjj : j < (U.map (·.1)).length := by simpa using hj
    have e2 : (U.map (·.1))[j] = k := by simpa using he
    rw [Go.ChangeMaps.map_eraseIdx, erase_filter _ j hjj hn, e2]
theorem put_filter (U : List Ent) (k : List UInt8) (v : Value) : ((putU U k v).map (·.1)).filter (fun s => decide (s ≠ k)) = (U.map (·.1)).filter (fun s => decide (s ≠ k)) := by
  rw [put_keys]
  split
  · rfl
  · simp
/-- What hangs on the keys: what hangs on one, and the rest. -/
theorem keys_split {α : Type} (f : List UInt8 → List α) (u : List UInt8) : ∀ K : List (List UInt8), K.Nodup → (u ∈ K ∨ f u = []) → (K.flatMap f).Perm (f u ++ (K.filter fun s => decide (s ≠ u)).flatMap f)
  | [], _, h => by
    rcases h with h | h
    · cases h
    · simp [h]
  | k :: K, hn, h => by
    obtain ⟨hk, hn⟩ := List.nodup_cons.1 hn
    by_cases c : k = u
    · subst c
      have e : (k :: K).filter (fun s => decide (s ≠ k)) = K := by
        rw [List.filter_cons_of_neg (by simp)]
        rw [List.filter_eq_self]
        intro s hs
        simp only [decide_eq_true_eq]
        intro e; subst e; exact hk hs
      rw [e, List.flatMap_cons]
    · have ih := keys_split f u K hn (by
        rcases h with h | h
        · rcases List.mem_cons.1 h with h | h
          · exact absurd h.symm c
          · exact .inl h
        · exact .inr h)
      rw [List.filter_cons_of_pos (by simpa using c), List.flatMap_cons, List.flatMap_cons]
      refine (ih.append_left (f k)).trans ?_
      rw [← List.append_assoc, ← List.append_assoc]
      exact (List.perm_append_comm).append_right _
/-- One key's row is another one. -/
def updF {α : Type} (f : List UInt8 → α) (u : List UInt8) (x : α) : List UInt8 → α := fun s => if s = u then x else f s
theorem updF_same {α : Type} (f : List UInt8 → α) (u : List UInt8) (x : α) : updF f u x u = x := if_pos rfl
theorem updF_other {α : Type} (f : List UInt8 → α) {u s : List UInt8} (x : α) (h : s ≠ u) : updF f u x s = f s := if_neg h
theorem flat_upd {α : Type} (f : List UInt8 → List α) (u : List UInt8) (x : List α) (K : List (List UInt8)) : (K.filter fun s => decide (s ≠ u)).flatMap (updF f u x) = (K.filter fun s => decide (s ≠ u)).flatMap f := by
  rw [List.flatMap_def, List.flatMap_def]
  congr 1
  apply List.map_congr_left
  intro s hs
  have := (List.mem_filter.1 hs).2
  exact updF_other f x (by simpa using this)
end Go.Proofs.YtjhhcljbmnomlaaGreat
