/- The contract of rle.Of: the canonical function of raw runs, or an error. No conditions but the list's size. -/
import Derived.Test.YtibmldgbimjgfaaOrd
import Derived.Test.YtibmldgbimjgfaaEq
import Derived.Deep.DeepCutAuto
import Derived.Laws.AppendOwn
namespace Go.Proofs.Ytibmldgbimjgfaa
open Go.ChangeShapes Go.WideShapes Go.ChangeAt Go.RowKit
attribute [local irreducible] Go.Calls

theorem Try.infoSeg : (Try.prog.info? 30).map (fun i => (i.zero, i.size, i.bytes)) = some (some (.agg #[.int .i64 0, .int .i64 0, .int .i64 0]), 3, 24) := by kernel_rfl

/-- The cells of a list of runs. -/
def cellsOfS : List Sg → List Value
  | [] => []
  | s :: r => .int .i64 s.1 :: .int .i64 s.2.1 :: .int .i64 s.2.2 :: cellsOfS r
theorem cellsOfS_len : ∀ l, (cellsOfS l).length = l.length * 3
  | [] => rfl
  | s :: r => by simp only [cellsOfS, List.length_cons, cellsOfS_len r]; omega
theorem cellsOfS_app : ∀ l r, cellsOfS (l ++ r) = cellsOfS l ++ cellsOfS r
  | [], _ => rfl
  | s :: l, r => by simp only [cellsOfS, List.cons_append, cellsOfS_app l r]
theorem cellsOfS_get : ∀ (l : List Sg) (i : Nat), i < l.length → (cellsOfS l)[i * 3]? = some (.int .i64 (ats l i)) ∧ (cellsOfS l)[i * 3 + 1]? = some (.int .i64 (vls l i).1) ∧ (cellsOfS l)[i * 3 + 2]? = some (.int .i64 (vls l i).2)
  | [], i, h => by simp at h
  | s :: l, 0, _ => ⟨rfl, rfl, rfl⟩
  | s :: l, i + 1, h => by
    obtain ⟨h1, h2, h3⟩ := cellsOfS_get l i (by simp at h; omega)
    have e : ∀ j, (cellsOfS (s :: l))[(i + 1) * 3 + j]? = (cellsOfS l)[i * 3 + j]? := fun j => by
      simp only [cellsOfS]
      rw [show (i + 1) * 3 + j = i * 3 + j + 1 + 1 + 1 by omega]
      simp only [List.getElem?_cons_succ]
    exact ⟨(e 0).trans h1, (e 1).trans h2, (e 2).trans h3⟩

/-- A slice value that reads as the list of runs. -/
def SliS (w : World) (v : Value) (l : List Sg) : Prop := ∃ (a : Option Addr) (cap : Nat), v = .slice a l.length cap ∧ l.length ≤ cap ∧ cap ≤ 9223372036854775807 ∧ ArgS w a l
theorem SliS.past {w w' : World} {v : Value} {l : List Sg} (h : SliS w v l) (hb : Below w.heap.size w w') : SliS w' v l := by
  obtain ⟨a, cap, h1, h2, h3, h4⟩ := h
  exact ⟨a, cap, h1, h2, h3, h4.past hb⟩
theorem sliS_nil (w : World) : SliS w (.slice none 0 0) [] := ⟨none, 0, rfl, Nat.le_refl _, by omega, fun h => by simp at h⟩
/-- What a call has appended to reads as a slice. -/
theorem sliS_own {w : World} {base : Nat} {e : TypeId} {v : Value} {l : List Sg} (h : w.ownsRow base e 3 v l.length (cellsOfS l)) : SliS w v l := by
  obtain ⟨h1, h2 | ⟨g, cap, cur, rfl, h3, h4, h5, h6, h7, h8⟩⟩ := h
  · obtain ⟨rfl, h2⟩ := h2
    have : l = [] := List.eq_nil_of_length_eq_zero h2
    subst this
    exact sliS_nil w
  · refine ⟨some ⟨g, 0, none⟩, cap, rfl, h5, by unfold maxLen at h6; omega, fun _ => ⟨g, 0, rfl, lt_of_block h4, fun i hi => ?_⟩⟩
    have hg := cellsOfS_get l i hi
    have hc : ∀ j x, j < l.length * 3 → (cellsOfS l)[j]? = some x → w.cell? ⟨g, j, none⟩ = some x := fun j x hj hx => by
      have e : w.cell? ⟨g, j, none⟩ = cur[j]? := by simp [World.cell?, h4]
      rw [e, ← Array.getElem?_toList]
      rw [← h8, List.getElem?_take, if_pos hj] at hx
      exact hx
    simp only [Nat.zero_add]
    exact ⟨hc _ _ (by omega) hg.1, hc _ _ (by omega) hg.2.1, hc _ _ (by omega) hg.2.2⟩

theorem own_below {w w' : World} {B : Nat} {e : TypeId} {sz : Nat} {v : Value} {n : Nat} {xs : List Value} (h : w.ownsRow B e sz v n xs) (hb : Below w.heap.size w w') : w'.ownsRow B e sz v n xs := by
  obtain ⟨h1, h2 | ⟨g, cap, cur, h3, h4, h5, h6⟩⟩ := h
  · exact ⟨h1, .inl h2⟩
  · exact ⟨h1, .inr ⟨g, cap, cur, h3, h4, (hb.block g (lt_of_block h5)).trans h5, h6⟩⟩
theorem own_grown {w w' : World} {B p : Nat} {e : TypeId} {sz : Nat} {v : Value} {n : Nat} {xs : List Value} (h : w.ownsRow B e sz v n xs) (hg : w.grownBy w' (some p)) (hp : p < B) : w'.ownsRow B e sz v n xs := by
  obtain ⟨h1, h2 | ⟨g, cap, cur, h3, h4, h5, h6⟩⟩ := h
  · exact ⟨h1, .inl h2⟩
  · exact ⟨h1, .inr ⟨g, cap, cur, h3, h4, (hg.block g (lt_of_block h5) (fun e => by simp at e; omega)).trans h5, h6⟩⟩
/-- The block that an append may write lies from the base on. -/
theorem own_block {w : World} {B : Nat} {e : TypeId} {sz : Nat} {v : Value} {n : Nat} {xs : List Value} (h : w.ownsRow B e sz v n xs) {k : Nat} (hk : v.ownBlock = some k) : B ≤ k := by
  obtain ⟨h1, h2 | ⟨g, cap, cur, h3, h4, h5, h6⟩⟩ := h
  · rw [h2.1] at hk; simp [Value.ownBlock] at hk
  · rw [h3] at hk; simp [Value.ownBlock] at hk; omega

theorem new_cells (w : World) (cs : Array Value) (t : TypeId) : ∀ j u, cs.toList[j]? = some u → (w.alloc (.cells cs t)).cell? ((⟨w.heap.size, 0, none⟩ : Addr).add j) = some u := by
  intro j u h
  have e : ((⟨w.heap.size, 0, none⟩ : Addr).add j) = ⟨w.heap.size, j, none⟩ := by
    unfold Addr.add
    by_cases c : j = 0
    · subst c; simp
    · simp [c]
  rw [e, (Blk.made w cs t).cell j, ← h, Array.getElem?_toList]

/-- What Of hands back. -/
def OfPost (w : World) (l : List Sg) (e : Ending) (w' : World) : Prop :=
  ∃ (v : Value) (f : List Sg) (er : Int), e = .returned (.tuple #[v, .int .i64 er]) ∧ SliS w' v f ∧ ((l.all okS = true ∧ er = 0 ∧ IsOf l f) ∨ (l.all okS = false ∧ er = 10 ∧ f = [])) ∧ Below w.heap.size w w'
theorem drop_cons {l : List Sg} {k : Nat} (h : k < l.length) : l.drop k = l.getD k (0, 0, 0) :: l.drop (k + 1) := by
  rw [List.drop_eq_getElem_cons h, getD_get _ _ _ h]
theorem all_bad {l : List Sg} {k : Nat} (h : k < l.length) (hb : okS (l.getD k (0, 0, 0)) = false) : l.all okS = false := by
  rw [getD_get _ _ _ h] at hb
  rw [List.all_eq_false]
  exact ⟨_, List.getElem_mem h, by rw [hb]; exact Bool.false_ne_true⟩
theorem all_good {l : List Sg} (h : ∀ k, k < l.length → okS (l.getD k (0, 0, 0)) = true) : l.all okS = true := by
  rw [List.all_eq_true]
  intro x hx
  obtain ⟨i, hi, rfl⟩ := List.getElem_of_mem hx
  have := h i hi
  rw [getD_get _ _ _ hi] at this; exact this

theorem cmpr_nil (last : Int × Int) : cmpr last [] = [] := rfl
/-- One step of the compressing, at the place k of the order. -/
theorem cmpr_skip {s : List Sg} {k : Nat} {last : Int × Int} (h : k + 1 < s.length) (e : ats s (k + 1) = ats s k) : cmpr last (s.drop k) = cmpr last (s.drop (k + 1)) := by
  unfold ats at e
  rw [drop_cons (k := k) (by omega), drop_cons h]
  conv => lhs; unfold cmpr
  rw [if_pos e]
theorem cmpr_same {s : List Sg} {k : Nat} {last : Int × Int} (h : k < s.length) (e : k + 1 < s.length → ats s (k + 1) ≠ ats s k) (e2 : vls s k = last) : cmpr last (s.drop k) = cmpr (vls s k) (s.drop (k + 1)) := by
  rw [e2]
  unfold ats at e; unfold vls at e2
  by_cases c : k + 1 < s.length
  · rw [drop_cons (k := k) h, drop_cons c]
    conv => lhs; unfold cmpr
    rw [if_neg (e c), if_pos e2]
  · rw [drop_cons (k := k) h, List.drop_eq_nil_of_le (by omega : s.length ≤ k + 1)]
    unfold cmpr
    rw [if_pos e2]
theorem cmpr_new {s : List Sg} {k : Nat} {last : Int × Int} (h : k < s.length) (e : k + 1 < s.length → ats s (k + 1) ≠ ats s k) (e2 : vls s k ≠ last) : cmpr last (s.drop k) = s.getD k (0, 0, 0)   :: cmpr (vls s k) (s.drop (k + 1)) := by
  unfold ats at e; unfold vls at e2 ⊢
  by_cases c : k + 1 < s.length
  · rw [drop_cons (k := k) h, drop_cons c]
    conv => lhs; unfold cmpr
    rw [if_neg (e c), if_neg e2]
  · rw [drop_cons (k := k) h, List.drop_eq_nil_of_le (by omega : s.length ≤ k + 1)]
    unfold cmpr
    rw [if_neg e2]

set_option maxRecDepth 100000 in
set_option maxHeartbeats 4000000 in
theorem of_c (l : List Sg) (a : Option Addr) (cap : Nat) (w : World) (hl : l.length ≤ 1099511627776) (hA : ArgS w a l) :
    Calls Try.prog 7 #[.slice a l.length cap] w (OfPost w l) := by
  have HA := hidE hA; clear hA
  go_enter Try.func7, Try.ntmps7
  go_wp2
  go_loopg [13] l.length (fun g vi wr => ∃ k : Nat, k ≤ l.length ∧ l.length - k ≤ g ∧ vi = .int .i64 k ∧ (∀ i, i < k → okS (l.getD i (0, 0, 0)) = true) ∧ Below w.heap.size w wr)
  case atStart => exact ⟨0, Nat.zero_le _, by omega, rfl, fun i hi => by omega, Below.refl _ _⟩
  case round =>
    obtain ⟨k, hk, hg, rfl, hs, hb⟩ := hrel
    have HS := hidE hs; have HB := hidE hb; clear hs hb
    by_cases hlt : k < l.length
    · obtain ⟨b, off, rfl, hb, hc⟩ := (HA.out.past HB.out) (by omega)
      obtain ⟨c0, c1, c2⟩ := hc.get hlt
      clear hc
      cases hok : okS (l.getD k (0, 0, 0))
      · have HX := hidE (all_bad hlt hok)
        have HV := hidE (fun w => valid_c (l.getD k (0, 0, 0)) w)
        rw [hok] at HV
        change Hid (∀ w, Calls _ _ #[S (ats l k) (vls l k).1 (vls l k).2] _ _) at HV
        generalize ats l k = u at *
        generalize vls l k = v at *
        go_wp2_with (go_at_call 16; ((with_reducible refine (HV.out _).mono ?_); rintro e w1 ⟨rfl, hb1⟩))
        go_ret2
        exact ⟨_, [], 10, rfl, sliS_nil _, .inr ⟨HX.out, rfl, rfl⟩, by have := HB.out; (repeat (first | exact Below.refl _ _ | assumption | refine balloc ?_ _ | refine below_drewN ?_ _ | refine bstep (by assumption) ?_ | refine bstep (Past.prop _) ?_ | refine Below.setCell ?_ (by first | exact Nat.le_refl _ | (simp; done) | (simp; omega)) _))⟩
      · have HX := hidE (show ∀ i, i < k + 1 → okS (l.getD i (0, 0, 0)) = true from fun i hi => by
          by_cases e : i = k
          · rw [e]; exact hok
          · exact HS.out i (by omega))
        have HV := hidE (fun w => valid_c (l.getD k (0, 0, 0)) w)
        rw [hok] at HV
        change Hid (∀ w, Calls _ _ #[S (ats l k) (vls l k).1 (vls l k).2] _ _) at HV
        generalize ats l k = u at *
        generalize vls l k = v at *
        go_wp2_with (go_at_call 16; ((with_reducible refine (HV.out _).mono ?_); rintro e w1 ⟨rfl, hb1⟩))
        go_roundg (l.length - (k + 1))
        case measure => omega
        case rel => exact ⟨k + 1, by omega, Nat.le_refl _, by go_num, HX.out, by have := HB.out; (repeat (first | exact Below.refl _ _ | assumption | refine balloc ?_ _ | refine below_drewN ?_ _ | refine bstep (by assumption) ?_ | refine bstep (Past.prop _) ?_ | refine Below.setCell ?_ (by first | exact Nat.le_refl _ | (simp; done) | (simp; omega)) _))⟩
    · have hk' : k = l.length := by omega
      subst hk'
      have HX := hidE (all_good HS.out)
      clear HS
      go_wp2_with fail
      ((with_reducible refine (changing_c _).mono ?_); rintro e w1 ⟨rfl, rfl⟩)
      have hb0 : Below w.heap.size w (wr.alloc (.cells #[.int .i64 0, .int .i64 0] 28)) := by have := HB.out; (repeat (first | exact Below.refl _ _ | assumption | refine balloc ?_ _ | refine below_drewN ?_ _ | refine bstep (by assumption) ?_ | refine bstep (Past.prop _) ?_ | refine Below.setCell ?_ (by first | exact Nat.le_refl _ | (simp; done) | (simp; omega)) _))
      have hp0 : w.heap.size ≤ wr.heap.size := HB.out.size
      have B0 : Blk (wr.alloc (.cells #[.int .i64 0, .int .i64 0] 28)) wr.heap.size #[.int .i64 0, .int .i64 0] 28 := Blk.made _ _ _
      have HB0 := hidE hb0; have HBL := hidE B0
      clear hb0 B0 HB hg
      obtain ⟨p, hp⟩ : ∃ p, p = wr.heap.size := ⟨_, rfl⟩
      rw [← hp] at hp0 HBL ⊢
      generalize wr.alloc (.cells #[.int .i64 0, .int .i64 0] 28) = w1 at *
      clear hp
      go_wp2_with fail
      ((with_reducible refine (inOrder_c l a cap _ hl (HA.out.past HB0.out)).mono ?_); rintro e w2 ⟨q, d, rfl, hq, hbq, hb2, hm, hs⟩)
      have HIS := hidE (isOf_cmpr hm hs (fun x hx => List.all_eq_true.1 HX.out x hx))
      have HOD := hidE (show Okd l.length d from fun k hk => by
        obtain ⟨k', _, q2, e⟩ := hm.inn k (Nat.zero_le _) hk
        rw [e]; exact q2)
      have hpl := HBL.out.lt
      have HB2 := hidE (show Below w.heap.size w w2 by have := HB0.out; (repeat (first | exact Below.refl _ _ | assumption | refine balloc ?_ _ | refine below_drewN ?_ _ | refine bstep (by assumption) ?_ | refine bstep (Past.prop _) ?_ | refine Below.setCell ?_ (by first | exact Nat.le_refl _ | (simp; done) | (simp; omega)) _)))
      have HBP := hidE (HBL.out.past hb2)
      have HBQ := hidE hbq
      have hq2 := hbq.lt
      have hp2 : p < w2.heap.size := Nat.lt_of_lt_of_le hpl hb2.size
      have hpq : p ≠ q := by omega
      have hqw : w.heap.size ≤ q := Nat.le_trans HB0.out.size hq
      have hlo : w.heap.size ≤ w2.heap.size := by omega
      clear hm hs HBL HB0 hbq hb2 hpl hq
      generalize hB : w2.heap.size = B at hq2 hp2 hlo
      have HBE := hidE hB; clear hB
      go_wp2_with fail
      go_loopg [26, 6, 9, 10] l.length (fun g vi vf _ _ wr2 => ∃ (k : Nat) (fk : List Sg) (last : Int × Int) (v6 : Value), vi = .int .i64 k ∧ v6 = vf ∧ k ≤ l.length ∧ l.length - k ≤ g ∧ fk.length ≤ k ∧ wr2.ownsRow B 30 3 v6 fk.length (cellsOfS fk) ∧ Blk wr2 p #[.int .i64 last.1, .int .i64 last.2] 28 ∧ Blk wr2 q (rowC l.length d) 3 ∧ Below w.heap.size w wr2 ∧ B ≤ wr2.heap.size ∧ Hid (fk ++ cmpr last ((ordL l d).drop k) = cmpr (0, 0) (ordL l d)))
      case atStart => exact ⟨0, [], (0, 0), .slice none 0 0, rfl, rfl, by omega, by omega, Nat.le_refl _, ⟨rfl, .inl ⟨rfl, rfl⟩⟩, HBP.out, HBQ.out, HB2.out, Nat.le_of_eq HBE.out.symm, rfl⟩
      case round =>
        clear HBP HBQ HB2 HBE
        obtain ⟨k, fk, last, s6, rfl, rfl, hk, hg, hfk, hown, hbp, hbq, hb, hB, HF⟩ := hrel
        have HOW := hidE hown; have HBP := hidE hbp; have HBQ := hidE hbq; have HB := hidE hb
        clear hown hbp hbq hb
        by_cases hlt : k < l.length
        · obtain ⟨b, off, rfl, hb, hc⟩ := (HA.out.past HB.out) (by omega)
          have hbw : b < w.heap.size := by
            obtain ⟨b', off', e, hb', _⟩ := HA.out (by omega)
            simp at e; omega
          obtain ⟨c0, c1, c2⟩ := hc.get (i := d k) (HOD.out k hlt)
          have r0 := (HBQ.out.cell k).trans (rowC_get hlt)
          have hdk := HOD.out k hlt
          have hbz : b < wr.heap.size := hb
          have hqz := HBQ.out.lt
          have HEA := hidE (ordL_ats (l := l) (d := d) hlt)
          have HEV := hidE (ordL_vls (l := l) (d := d) hlt)
          by_cases hskip : k + 1 < l.length ∧ ats l (d (k + 1)) = ats l (d k)
          · obtain ⟨hk1, hsame⟩ := hskip
            have HF2 := hidE (show fk ++ cmpr last ((ordL l d).drop (k + 1)) = cmpr (0, 0) (ordL l d) by
              rw [← HF.out, cmpr_skip (k := k) (by rw [ordL_len]; exact hk1) (by rw [ordL_ats hk1, ordL_ats hlt]; exact hsame)])
            obtain ⟨d0, d1, d2⟩ := hc.get (i := d (k + 1)) (HOD.out _ hk1)
            have r1 := (HBQ.out.cell (k + 1)).trans (rowC_get hk1)
            have hdk1 := HOD.out _ hk1
            rw [hsame] at d0
            clear hc hsame c1 c2 d1 d2 HF HEA HEV
            have HCE := hidE (show ∀ x : Past wr, wr.heap.size ≤ x.1.heap.size from fun x => x.2.size)
            generalize ats l (d k) = u at *
            generalize d k = i0 at *
            generalize d (k + 1) = i1 at *
            have g1 : decide ((k : Int) + 1 < (l.length : Int)) = true := decide_eq_true (by omega)
            go_wp2
            refine wp_region_past_lit (by kernel_rfl) (by kernel_rfl) ?_
            have hcp := Past.cell (W := wr)
            repeat (go_big_quiet_step (fail))
            refine wpQuiet_nil ?_
            rintro _ ⟨x', rfl⟩
            have o1 := own_below HOW.out x'.2
            have o2 := HBP.out.past x'.2
            have o3 := HBQ.out.past x'.2
            have o4 : Below w.heap.size w x'.1 := by have := HB.out; (repeat (first | exact Below.refl _ _ | assumption | refine balloc ?_ _ | refine below_drewN ?_ _ | refine bstep (by assumption) ?_ | refine bstep (Past.prop _) ?_ | refine Below.setCell ?_ (by first | exact Nat.le_refl _ | (simp; done) | (simp; omega)) _))
            have o5 := Nat.le_trans hB x'.2.size
            clear hcp c0 d0 r0 r1
            generalize x'.1 = w3 at o1 o2 o3 o4 o5 ⊢
            go_wp2
            go_roundg (l.length - (k + 1))
            case measure => omega
            case rel => exact ⟨k + 1, fk, last, s6, by go_num, rfl, by omega, Nat.le_refl _, by omega, o1, o2, o3, o4, o5, HF2.out⟩
          · have HNE := hidE (show k + 1 < (ordL l d).length → ats (ordL l d) (k + 1) ≠ ats (ordL l d) k from fun h => by
              rw [ordL_len] at h
              rw [ordL_ats h, ordL_ats hlt]
              exact fun e => hskip ⟨h, e⟩)
            have HOL := hidE (show k < (ordL l d).length by rw [ordL_len]; exact hlt)
            generalize hdk0 : d k = dk at r0 c0 c1 c2 hdk HEA HEV hskip
            clear hdk0
            go_wp2
            go_cut [52] (fun s52 wx => s52 = .bool false ∧ wx.ownsRow B 30 3 s6 fk.length (cellsOfS fk) ∧ Blk wx p #[.int .i64 last.1, .int .i64 last.2] 28 ∧ Blk wx q (rowC l.length d) 3 ∧ Below w.heap.size w wx ∧ B ≤ wx.heap.size)
            case first =>
              by_cases hk1 : k + 1 < l.length
              · have hdf : (ats l (d (k + 1)) == ats l dk) = false := beq_eq_false_iff_ne.2 fun e => hskip ⟨hk1, e⟩
                obtain ⟨d0, d1, d2⟩ := hc.get (i := d (k + 1)) (HOD.out _ hk1)
                have r1 := (HBQ.out.cell (k + 1)).trans (rowC_get hk1)
                have hdk1 := HOD.out _ hk1
                clear hc hskip c1 c2 d1 d2 HF HEA HEV HNE
                generalize ats l dk = u at *
                generalize ats l (d (k + 1)) = u1 at *
                generalize d (k + 1) = i1 at *
                have g1 : decide ((k : Int) + 1 < (l.length : Int)) = true := decide_eq_true (by omega)
                refine wp_region_past_lit (by kernel_rfl) (by kernel_rfl) ?_
                have hcp := Past.cell (W := wr)
                repeat (go_big_quiet_step (fail))
                refine wpQuiet_nil ?_
                rintro _ ⟨x', rfl⟩
                go_wp2
                go_meet
                case rel => exact ⟨rfl, own_below HOW.out x'.2, HBP.out.past x'.2, HBQ.out.past x'.2, by have := HB.out; (repeat (first | exact Below.refl _ _ | assumption | refine balloc ?_ _ | refine below_drewN ?_ _ | refine bstep (by assumption) ?_ | refine bstep (Past.prop _) ?_ | refine Below.setCell ?_ (by first | exact Nat.le_refl _ | (simp; done) | (simp; omega)) _)), Nat.le_trans hB x'.2.size⟩
              · clear hc hskip c1 c2 HF HEA HEV HNE
                have g1 : decide ((k : Int) + 1 < (l.length : Int)) = false := decide_eq_false (by omega)
                refine wp_region_past_lit (by kernel_rfl) (by kernel_rfl) ?_
                have hcp := Past.cell (W := wr)
                repeat (go_big_quiet_step (fail))
                refine wpQuiet_nil ?_
                rintro _ ⟨x', rfl⟩
                go_wp2
                go_meet
                case rel => exact ⟨rfl, own_below HOW.out x'.2, HBP.out.past x'.2, HBQ.out.past x'.2, by have := HB.out; (repeat (first | exact Below.refl _ _ | assumption | refine balloc ?_ _ | refine below_drewN ?_ _ | refine bstep (by assumption) ?_ | refine bstep (Past.prop _) ?_ | refine Below.setCell ?_ (by first | exact Nat.le_refl _ | (simp; done) | (simp; omega)) _)), Nat.le_trans hB x'.2.size⟩
            obtain ⟨rfl, o1, o2, o3, o4, o5⟩ := hcut
            have hc2 : CellsS wc b off l := by
              obtain ⟨b', off', e, hb', hcc⟩ := HA.out.past o4 (by omega)
              simp at e
              obtain ⟨rfl, rfl⟩ := e
              exact hcc
            have hbc : b < wc.heap.size := by have := o4.size; omega
            obtain ⟨c0, c1, c2⟩ := hc2.get (i := dk) hdk
            have O1 := hidE o1; have O2 := hidE o2; have O3 := hidE o3; have O4 := hidE o4; have O5 := hidE o5
            clear o1 o2 o3 o4 hc hc2 r0 HOW HBP HBQ HB hskip
            by_cases hsv : vls l dk = last
            · have HF2 := hidE (show fk ++ cmpr (vls l dk) ((ordL l d).drop (k + 1)) = cmpr (0, 0) (ordL l d) by
                rw [← HF.out, cmpr_same (k := k) HOL.out HNE.out (by rw [HEV.out]; exact hsv), HEV.out])
              have hbb : (!(((vls l dk).1, (vls l dk).2) == (last.1, last.2))) = false := by rw [hsv]; simp
              clear HF HEA HEV HNE hsv
              generalize ats l dk = u at *
              generalize vls l dk = v at *
              go_wp2_with fail
              ((with_reducible refine (chg_c p last.1 last.2 v.1 v.2 _ O2.out).mono ?_); rintro e w3 ⟨rfl, q1, q2⟩)
              have n1 := own_grown O1.out q2 hp2
              have n3 := O3.out.grown q2 (by intro e; simp at e; omega)
              have n4 : Below w.heap.size w w3 := O4.out.grown q2 (by omega) (fun k hk => by simp at hk; omega)
              have n5 : B ≤ w3.heap.size := Nat.le_trans O5.out q2.size
              clear q2 c0 c1 c2
              go_wp2
              go_roundg (l.length - (k + 1))
              case measure => omega
              case rel => exact ⟨k + 1, fk, v, s6, by go_num, rfl, by omega, Nat.le_refl _, by omega, n1, q1, n3, n4, n5, HF2.out⟩
            · have HF2 := hidE (show (fk ++ [(ordL l d).getD k (0, 0, 0)]) ++ cmpr (vls l dk) ((ordL l d).drop (k + 1)) = cmpr (0, 0) (ordL l d) by
                rw [← HF.out, cmpr_new (k := k) HOL.out HNE.out (by rw [HEV.out]; exact hsv), HEV.out, List.append_assoc]; rfl)
              have hbb : (!(((vls l dk).1, (vls l dk).2) == (last.1, last.2))) = true := by
                rw [Bool.not_eq_true']; exact beq_eq_false_iff_ne.2 hsv
              have HSK := hidE (show cellsOfS (fk ++ [(ordL l d).getD k (0, 0, 0)]) = cellsOfS fk ++ [.int .i64 (ats l dk), .int .i64 (vls l dk).1, .int .i64 (vls l dk).2] by
                rw [cellsOfS_app]
                have e1 := HEA.out; have e2 := HEV.out
                unfold ats at e1 ⊢; unfold vls at e2 ⊢
                rw [← e1, ← e2]; rfl)
              clear HF HEA HEV HNE hsv
              generalize ats l dk = u at *
              generalize vls l dk = v at *
              obtain ⟨i0, hi, hz0, hz1, hz2⟩ := info_parts Try.infoSeg
              have HI := hidE hi; have HZ0 := hidE hz0; have HZ1 := hidE hz1; have HZ2 := hidE hz2
              clear hi hz0 hz1 hz2
              go_wp2_with fail
              ((with_reducible refine (chg_c p last.1 last.2 v.1 v.2 _ O2.out).mono ?_); rintro e w3 ⟨rfl, q1, q2⟩)
              have hc3 : b < w3.heap.size := Nat.lt_of_lt_of_le hbc q2.size
              have hbp : some b ≠ some p := by intro e; simp at e; omega
              have hblk := q2.block b hbc hbp
              have t0 : w3.cell? ⟨b, off + dk * 3, none⟩ = some (.int .i64 u) := (World.cell?_of_block (w := wc) (a := ⟨b, off + dk * 3, none⟩) hblk).trans c0
              have t1 : w3.cell? ⟨b, off + dk * 3 + 1, none⟩ = some (.int .i64 v.1) := (World.cell?_of_block (w := wc) (a := ⟨b, off + dk * 3 + 1, none⟩) hblk).trans c1
              have t2 : w3.cell? ⟨b, off + dk * 3 + 2, none⟩ = some (.int .i64 v.2) := (World.cell?_of_block (w := wc) (a := ⟨b, off + dk * 3 + 2, none⟩) hblk).trans c2
              have n1 := own_grown O1.out q2 hp2
              have n3 := O3.out.grown q2 (by intro e; simp at e; omega)
              have n4 : Below w.heap.size w w3 := O4.out.grown q2 (by omega) (fun k hk => by simp at hk; omega)
              have n5 : B ≤ w3.heap.size := Nat.le_trans O5.out q2.size
              have N1 := hidE n1; have N3 := hidE n3; have N4 := hidE n4; have Q1 := hidE q1
              clear q2 c0 c1 c2 n1 n3 n4 q1 hblk hbp
              go_wp2_with (at_builtin; refine wpList_append_own _ rfl (.tmp 60) (.tmp 65) 22 rfl B 30 i0 (.agg #[.int .i64 0, .int .i64 0, .int .i64 0]) 3 24 Try.underlying22 HI.out HZ0.out HZ1.out HZ2.out rfl (by decide) _ _ _ rfl (N1.out.alloc _) ⟨w3.heap.size, 0, none⟩ 1 1 [.int .i64 u, .int .i64 v.1, .int .i64 v.2] rfl rfl (new_cells w3 #[.int .i64 u, .int .i64 v.1, .int .i64 v.2] 30) (by intro x hx; simp at hx; rcases hx with rfl | rfl | rfl <;> rfl) (by unfold maxLen; omega) (by omega) (by simp; omega) ?_; intro v' w4 hown4 hgrow4 _)
              have p1 := (Blk.alloc Q1.out (.cells #[.int .i64 u, .int .i64 v.1, .int .i64 v.2] 30)).grown hgrow4 (fun e => by have := own_block N1.out e.symm; omega)
              have p3 := (Blk.alloc N3.out (.cells #[.int .i64 u, .int .i64 v.1, .int .i64 v.2] 30)).grown hgrow4 (fun e => by have := own_block N1.out e.symm; omega)
              have p4 : Below w.heap.size w w4 := Below.grown (N4.out.alloc (by omega) (.cells #[.int .i64 u, .int .i64 v.1, .int .i64 v.2] 30)) hgrow4 (by simp; omega) (fun k hk => by have := own_block N1.out hk; omega)
              have p5 : B ≤ w4.heap.size := Nat.le_trans n5 (Nat.le_trans (by simp) hgrow4.size)
              rw [← HSK.out] at hown4
              have P1 := hidE p1; have P3 := hidE p3; have P4 := hidE p4; have PO := hidE hown4
              clear p1 p3 p4 hown4 hgrow4 t0 t1 t2
              go_wp2
              go_roundg (l.length - (k + 1))
              case measure => omega
              case rel => exact ⟨k + 1, fk ++ [(ordL l d).getD k (0, 0, 0)], v, v', by go_num, rfl, by omega, Nat.le_refl _, by simp; omega, by rw [List.length_append]; exact PO.out, P1.out, P3.out, P4.out, p5, HF2.out⟩
        · have hk' : k = l.length := by omega
          subst hk'
          have e := HF.out
          rw [List.drop_eq_nil_of_le (by rw [ordL_len]; exact Nat.le_refl _)] at e
          rw [cmpr_nil, List.append_nil] at e
          have HE := hidE e; clear e
          go_wp2
          go_ret2
          exact ⟨_, fk, 0, rfl, sliS_own HOW.out, .inl ⟨HX.out, rfl, by rw [HE.out]; exact HIS.out⟩, HB.out⟩
end Go.Proofs.Ytibmldgbimjgfaa
