/- The contracts of the document's own small answers for rle. No conditions but that the lists' cells read as integers. The contracts of the document's own lists of times, and of its canonical function. No conditions but the lists' sizes. The contract of the document's own list of times. No conditions but the list's size. Appending a slice of numbers to a row that a call owns. No function of the program. No conditions. The contract of the document's own canonical function. No conditions but the list's size. The contracts of the document's own At and May. No conditions but the lists' sizes. The contract of the document's own May of functions. No conditions but the list's size. The contracts of the document's own windows: may, bad, Low, High, Total, Sum. No conditions but the list's size. The contracts of the document's own low and high of a window. No conditions but the list's size. The contracts of the document's own sum of a window. No conditions but the list's size. The contracts of the document's own last, Near and Over. No conditions but the list's size. The contract of the document's own function cut to a window. No conditions but the list's size. The contract of the document's own function shifted. No conditions but the list's size. -/
import Derived.Test.YthgenmejjflceaaKA
import Derived.Test.YthgenmejjflceaaKM
import Derived.Laws.AppendOwnNone
import Derived.Deep.RegionLaw
import Derived.Deep.DeepCutAuto
namespace Go.Proofs.Ythgenmejjflceaa
open Go.ChangeShapes Go.WideShapes Go.ChangeAt Go.RowKit
attribute [local irreducible] Go.Calls

theorem rin_c (s : Sg) (w : World) : Calls Try.prog 45 #[S s.1 s.2.1 s.2.2] w fun e w' => e = .returned (.bool (okS s)) ∧ Below w.heap.size w w' := by
  obtain ⟨x, m, c⟩ := s
  show Calls _ _ #[S x m c] _ _
  by_cases h1 : -1125899906842624 ≤ x
  · by_cases h2 : x ≤ 1125899906842624
    · have e : okS (x, m, c) = okV m c := by
        have : okT x = true := okT_iff.2 ⟨h1, h2⟩
        unfold okS; simp only [this, Bool.true_and]
      rw [e]
      have d1 : decide (-1125899906842624 ≤ x) = true := decide_eq_true h1
      have d2 : decide (x ≤ 1125899906842624) = true := decide_eq_true h2
      clear e
      go_enter Try.func45, Try.ntmps45
      go_wp2_with (go_at_call 48; ((with_reducible refine (rmay m c _).mono ?_); rintro e w' ⟨rfl, hb⟩; obtain ⟨hc, hf⟩ := bcell hb))
      go_ret
      exact ⟨rfl, by (repeat (first | exact Below.refl _ _ | assumption | refine balloc ?_ _ | refine below_drewN ?_ _ | refine bstep (by assumption) ?_ | refine bstep (Past.prop _) ?_ | refine Below.setCell ?_ (by first | exact Nat.le_refl _ | (simp; done) | (simp; omega)) _))⟩
    · have e : okS (x, m, c) = false := by
        have : okT x = false := decide_eq_false (by omega)
        unfold okS; simp only [this, Bool.false_and]
      rw [e]
      have d1 : decide (-1125899906842624 ≤ x) = true := decide_eq_true h1
      have d2 : decide (x ≤ 1125899906842624) = false := decide_eq_false h2
      clear e
      go_enter Try.func45, Try.ntmps45
      go_wp2
      go_ret
      exact ⟨rfl, by (repeat (first | exact Below.refl _ _ | assumption | refine balloc ?_ _ | refine below_drewN ?_ _ | refine bstep (by assumption) ?_ | refine bstep (Past.prop _) ?_ | refine Below.setCell ?_ (by first | exact Nat.le_refl _ | (simp; done) | (simp; omega)) _))⟩
  · have e : okS (x, m, c) = false := by
      have : okT x = false := decide_eq_false (by omega)
      unfold okS; simp only [this, Bool.false_and]
    rw [e]
    have d1 : decide (-1125899906842624 ≤ x) = false := decide_eq_false h1
    clear e
    go_enter Try.func45, Try.ntmps45
    go_wp2
    go_ret
    exact ⟨rfl, by (repeat (first | exact Below.refl _ _ | assumption | refine balloc ?_ _ | refine below_drewN ?_ _ | refine bstep (by assumption) ?_ | refine bstep (Past.prop _) ?_ | refine Below.setCell ?_ (by first | exact Nat.le_refl _ | (simp; done) | (simp; omega)) _))⟩

set_option maxHeartbeats 1000000 in
theorem rsame_c (l r : List Sg) (a a' : Option Addr) (cap cap' : Nat) (w : World) (hl : l.length ≤ 9223372036854775807) (hr : r.length ≤ 9223372036854775807) (hA : ArgS w a l) (hA' : ArgS w a' r) :
    Calls Try.prog 20 #[.slice a l.length cap, .slice a' r.length cap'] w fun e w' => e = .returned (.bool (sameB l r)) ∧ Below w.heap.size w w' := by
  have HA := hidE hA; have HA' := hidE hA'; clear hA hA'
  by_cases hlen : l.length = r.length
  · have e1 : ((l.length : Int) != (r.length : Int)) = false := by rw [bne_eq_false_iff_eq]; omega
    have e2 : ((l.length : Int) == (r.length : Int)) = true := beq_iff_eq.2 (by omega)
    have HL := hidE hlen
    have le1 : l.length ≤ r.length := by omega
    clear hlen
    go_enter Try.func20, Try.ntmps20
    go_wp2
    go_loopg [5] l.length (fun g vi wr => ∃ k : Nat, k ≤ l.length ∧ l.length - k ≤ g ∧ vi = .int .i64 k ∧ (∀ i, i < k → ats l i = ats r i ∧ vls l i = vls r i) ∧ Below w.heap.size w wr)
    case atStart => exact ⟨0, Nat.zero_le _, by omega, rfl, fun i hi => by omega, Below.refl _ _⟩
    case round =>
      obtain ⟨k, hk, hg, rfl, hs, hb⟩ := hrel
      have HS := hidE hs; have HB := hidE hb; clear hs hb
      by_cases hlt : k < l.length
      · obtain ⟨b, off, rfl, hb, hc⟩ := (HA.out.past HB.out) (by omega)
        obtain ⟨c0, c1, c2⟩ := hc.get hlt
        obtain ⟨b', off', rfl, hb', hc'⟩ := (HA'.out.past HB.out) (by omega)
        obtain ⟨d0, d1, d2⟩ := hc'.get (i := k) (by omega)
        clear hc hc'
        by_cases hne : ats l k = ats r k ∧ (vls l k).1 = (vls r k).1 ∧ (vls l k).2 = (vls r k).2
        · have HX := hidE (show ∀ i, i < k + 1 → ats l i = ats r i ∧ vls l i = vls r i from fun i hi => by
            by_cases e : i = k
            · rw [e]; exact ⟨hne.1, Prod.ext hne.2.1 hne.2.2⟩
            · exact HS.out i (by omega))
          obtain ⟨n1, n2, n3⟩ := hne
          rw [← n1] at d0; rw [← n2] at d1; rw [← n3] at d2
          clear n1 n2 n3
          generalize ats l k = u at *
          generalize vls l k = v at *
          go_wp2
          go_quiet (fail)
          go_wp2
          go_roundg (l.length - (k + 1))
          case measure => omega
          case rel => exact ⟨k + 1, by omega, Nat.le_refl _, by go_num, HX.out, by have := HB.out; (repeat (first | exact Below.refl _ _ | assumption | refine balloc ?_ _ | refine below_drewN ?_ _ | refine bstep (by assumption) ?_ | refine bstep (Past.prop _) ?_ | refine Below.setCell ?_ (by first | exact Nat.le_refl _ | (simp; done) | (simp; omega)) _))⟩
        · have HX := hidE (show sameB l r = false from same_f (i := k) (by
            by_cases e : ats l k = ats r k
            · right; intro h; exact hne ⟨e, by rw [h], by rw [h]⟩
            · exact .inl e))
          by_cases n1 : ats l k = ats r k
          · by_cases n2 : (vls l k).1 = (vls r k).1
            · have n3 : ((vls l k).2 == (vls r k).2) = false := beq_eq_false_iff_ne.2 fun h => hne ⟨n1, n2, h⟩
              rw [← n1] at d0; rw [← n2] at d1
              clear n1 n2 hne
              generalize ats l k = u at *
              generalize vls l k = v at *
              generalize vls r k = v' at *
              go_wp2
              go_quiet (fail)
              go_wp2
              go_ret
              exact ⟨ret_bool (by rw [HX.out]), by have := HB.out; (repeat (first | exact Below.refl _ _ | assumption | refine balloc ?_ _ | refine below_drewN ?_ _ | refine bstep (by assumption) ?_ | refine bstep (Past.prop _) ?_ | refine Below.setCell ?_ (by first | exact Nat.le_refl _ | (simp; done) | (simp; omega)) _))⟩
            · have n3 : ((vls l k).1 == (vls r k).1) = false := beq_eq_false_iff_ne.2 n2
              rw [← n1] at d0
              clear n1 n2 hne
              generalize ats l k = u at *
              generalize vls l k = v at *
              generalize vls r k = v' at *
              go_wp2
              go_quiet (fail)
              go_wp2
              go_ret
              exact ⟨ret_bool (by rw [HX.out]), by have := HB.out; (repeat (first | exact Below.refl _ _ | assumption | refine balloc ?_ _ | refine below_drewN ?_ _ | refine bstep (by assumption) ?_ | refine bstep (Past.prop _) ?_ | refine Below.setCell ?_ (by first | exact Nat.le_refl _ | (simp; done) | (simp; omega)) _))⟩
          · have n3 : (ats l k == ats r k) = false := beq_eq_false_iff_ne.2 n1
            clear n1 hne
            generalize ats l k = u at *
            generalize vls l k = v at *
            generalize ats r k = u' at *
            generalize vls r k = v' at *
            go_wp2
            go_quiet (fail)
            go_wp2
            go_ret
            exact ⟨ret_bool (by rw [HX.out]), by have := HB.out; (repeat (first | exact Below.refl _ _ | assumption | refine balloc ?_ _ | refine below_drewN ?_ _ | refine bstep (by assumption) ?_ | refine bstep (Past.prop _) ?_ | refine Below.setCell ?_ (by first | exact Nat.le_refl _ | (simp; done) | (simp; omega)) _))⟩
      · have hk' : k = l.length := by omega
        subst hk'
        have HX := hidE (same_t HL.out HS.out)
        go_wp2
        go_ret
        exact ⟨ret_bool (by rw [HX.out]), HB.out⟩
  · have e1 : ((l.length : Int) != (r.length : Int)) = true := bne_iff_ne.2 (by omega)
    have e2 : ((l.length : Int) == (r.length : Int)) = false := beq_eq_false_iff_ne.2 (by omega)
    have HX := hidE (show sameB l r = false from decide_eq_false (fun e => hlen (by rw [e])))
    clear hlen
    go_enter Try.func20, Try.ntmps20
    go_wp2
    go_ret
    exact ⟨ret_bool (by rw [HX.out]), Below.refl _ _⟩

set_option maxHeartbeats 1000000 in
theorem rraw_c (l : List Sg) (a : Option Addr) (cap : Nat) (t : Int) (w : World) (hl : l.length ≤ 9223372036854775807) (hA : ArgS w a l) :
    Calls Try.prog 59 #[.slice a l.length cap, .int .i64 t] w fun e w' => e = .returned (V (rawAt l t).1 (rawAt l t).2) ∧ Below w.heap.size w w' := by
  have HA := hidE hA; clear hA
  go_enter Try.func59, Try.ntmps59
  go_wp2
  go_loopg [6] l.length (fun g vi wr => ∃ k : Nat, k ≤ l.length ∧ l.length - k ≤ g ∧ vi = .int .i64 k ∧ Below w.heap.size w wr ∧ Blk wr (w.heap.size + 1) #[.int .i64 (rawAt (l.take k) t).1, .int .i64 (rawAt (l.take k) t).2] 26 ∧ Blk wr w.heap.size #[.int .i64 0, .int .i64 0] 26)
  case atStart => exact ⟨0, Nat.zero_le _, by omega, rfl, by (repeat (first | exact Below.refl _ _ | assumption | refine balloc ?_ _ | refine below_drewN ?_ _ | refine bstep (by assumption) ?_ | refine bstep (Past.prop _) ?_ | refine Below.setCell ?_ (by first | exact Nat.le_refl _ | (simp; done) | (simp; omega)) _)), Blk.made_at _ _ _ _ (by simp), (Blk.made _ _ _).alloc _⟩
  case round =>
    obtain ⟨k, hk, hg, rfl, hb, h1, h0⟩ := hrel
    have c10 := h1.cell 0; have c11 := h1.cell 1; have f1 := h1.free; have c00 := h0.cell 0; have c01 := h0.cell 1; have f0 := h0.free; have z1 := h1.lt; have z0 := h0.lt
    simp at c10 c11 c00 c01
    by_cases hlt : k < l.length
    · have HST := hidE (rawAt_step (t := t) hlt)
      obtain ⟨b, off, rfl, hbb, hc⟩ := (HA.out.past hb) (by omega)
      have hbw : b < w.heap.size := by
        obtain ⟨b', off', e, hb', _⟩ := HA.out (by omega)
        simp at e; omega
      obtain ⟨d0, d1, d2⟩ := hc.get hlt
      clear hc
      by_cases hq : ats l k = t
      · have HS := hidE (show rawAt (l.take (k + 1)) t = vls l k by rw [HST.out, if_pos hq])
        have d3 : (ats l k == t) = true := beq_iff_eq.2 hq
        have hn1 : b ≠ w.heap.size := by omega
        have hn2 : b ≠ w.heap.size + 1 := by omega
        clear hq HST c00 c01
        generalize ats l k = u at *
        generalize vls l k = v at *
        generalize rawAt (l.take k) t = q at *
        go_wp2
        go_roundg (l.length - (k + 1))
        case measure => omega
        case rel => exact ⟨k + 1, by omega, Nat.le_refl _, by go_num, by (repeat (first | exact Below.refl _ _ | assumption | refine balloc ?_ _ | refine below_drewN ?_ _ | refine bstep (by assumption) ?_ | refine bstep (Past.prop _) ?_ | refine Below.setCell ?_ (by first | exact Nat.le_refl _ | (simp; done) | (simp; omega)) _)), by rw [HS.out]; exact (h1.set 0 _).set 1 _, (h0.other (by omega) _).other (by omega) _⟩
      · have HS := hidE (show rawAt (l.take (k + 1)) t = rawAt (l.take k) t by rw [HST.out, if_neg hq])
        have d3 : (ats l k == t) = false := beq_eq_false_iff_ne.2 hq
        clear hq HST
        generalize ats l k = u at *
        go_wp2
        go_roundg (l.length - (k + 1))
        case measure => omega
        case rel => exact ⟨k + 1, by omega, Nat.le_refl _, by go_num, hb, by rw [HS.out]; exact h1, h0⟩
    · have hk' : k = l.length := by omega
      subst hk'
      have e : rawAt (l.take l.length) t = rawAt l t := by rw [List.take_length]
      rw [e] at c10 c11
      clear e
      generalize hq : rawAt l t = q at *
      have HQ := hidE hq; clear hq
      go_wp2
      have B0 := (h0.set 0 (.int .i64 q.1)).set 1 (.int .i64 q.2)
      have g0 := B0.cell 0; have g1 := B0.cell 1
      simp at g0 g1
      refine bodyPost_ret (v := V q.1 q.2) (by simp [results, Try.results59, go_sem, g0, g1]) rfl ⟨by rw [HQ.out], ?_⟩
      (repeat (first | exact Below.refl _ _ | assumption | refine balloc ?_ _ | refine below_drewN ?_ _ | refine bstep (by assumption) ?_ | refine bstep (Past.prop _) ?_ | refine Below.setCell ?_ (by first | exact Nat.le_refl _ | (simp; done) | (simp; omega)) _))
end Go.Proofs.Ythgenmejjflceaa

namespace Go.Proofs.Ythgenmejjflceaa
open Go.ChangeShapes Go.WideShapes Go.ChangeAt Go.RowKit
attribute [local irreducible] Go.Calls

theorem Try.infoI64 : (Try.prog.info? 2).map (fun i => (i.zero, i.size, i.bytes)) = some (some (.int .i64 0), 1, 8) := by kernel_rfl

/-- The cells of a list of numbers. -/
def cellsI (l : List Int) : List Value := l.map (.int .i64)
theorem cellsI_get {l : List Int} {i : Nat} (h : i < l.length) : (cellsI l)[i]? = some (.int .i64 (l.getD i 0)) := by
  unfold cellsI
  rw [List.getElem?_map, List.getElem?_eq_getElem h, getD_get _ _ _ h]; rfl
theorem cellsI_one (l : List Int) : ∀ u ∈ cellsI l, u.oneCell' = true := fun u hu => by
  unfold cellsI at hu
  rw [List.mem_map] at hu
  obtain ⟨x, _, rfl⟩ := hu
  rfl
/-- The numbers that a slice's cells hold. -/
def CellsI (w : World) (b off : Nat) (l : List Int) : Prop := ∀ i, i < l.length → w.cell? ⟨b, off + i, none⟩ = some (.int .i64 (l.getD i 0))
def ArgI (w : World) (a : Option Addr) (l : List Int) : Prop := 0 < l.length → ∃ b off, a = some ⟨b, off, none⟩ ∧ b < w.heap.size ∧ CellsI w b off l
theorem CellsI.below {w w' : World} {b off B : Nat} {l : List Int} (h : CellsI w b off l) (hb : Below B w w') (hB : b < B) : CellsI w' b off l := fun i hi => (hb.cell (p := ⟨b, _, none⟩) hB).trans (h i hi)
theorem ArgI.past {w w' : World} {a : Option Addr} {l : List Int} (h : ArgI w a l) (hb : Below w.heap.size w w') : ArgI w' a l := fun hl => by
  obtain ⟨b, off, e, h1, h2⟩ := h hl
  exact ⟨b, off, e, Nat.lt_of_lt_of_le h1 hb.size, h2.below hb h1⟩
def SliI (w : World) (v : Value) (l : List Int) : Prop := ∃ (a : Option Addr) (cap : Nat), v = .slice a l.length cap ∧ l.length ≤ cap ∧ cap ≤ 9223372036854775807 ∧ ArgI w a l
theorem sliI_own {w : World} {base : Nat} {e : TypeId} {v : Value} {l : List Int} (h : w.ownsRow base e 1 v l.length (cellsI l)) : SliI w v l := by
  obtain ⟨h1, h2 | ⟨g, cap, cur, rfl, h3, h4, h5, h6, h7, h8⟩⟩ := h
  · obtain ⟨rfl, h2⟩ := h2
    have : l = [] := List.eq_nil_of_length_eq_zero h2
    subst this
    exact ⟨none, 0, rfl, Nat.le_refl _, by omega, fun h => by simp at h⟩
  · refine ⟨some ⟨g, 0, none⟩, cap, rfl, h5, by unfold maxLen at h6; omega, fun _ => ⟨g, 0, rfl, lt_of_block h4, fun i hi => ?_⟩⟩
    have hg := cellsI_get hi
    have e : w.cell? ⟨g, 0 + i, none⟩ = cur[i]? := by simp [World.cell?, h4]
    rw [e, ← Array.getElem?_toList]
    rw [← h8, List.getElem?_take, if_pos (by omega)] at hg
    exact hg

set_option maxHeartbeats 1000000 in
theorem rwhen_c (l : List Sg) (a : Option Addr) (cap : Nat) (w : World) (hl : l.length ≤ 1099511627776) (hA : ArgS w a l) :
    Calls Try.prog 42 #[.slice a l.length cap] w (RetV w fun v w' => w'.ownsRow w.heap.size 2 1 v l.length (cellsI (l.map (·.1)))) := by
  have HA := hidE hA; clear hA
  obtain ⟨i0, hi, hz0, hz1, hz2⟩ := info_parts Try.infoI64
  have HI := hidE hi; have HZ0 := hidE hz0; have HZ1 := hidE hz1; have HZ2 := hidE hz2
  clear hi hz0 hz1 hz2
  go_enter Try.func42, Try.ntmps42
  go_wp2
  go_loopg [3, 4] l.length (fun g vf vi wr => ∃ (k : Nat) (v : Value), v = vf ∧ k ≤ l.length ∧ l.length - k ≤ g ∧ vi = .int .i64 k ∧ Below w.heap.size w wr ∧ wr.ownsRow w.heap.size 2 1 v k (cellsI ((l.take k).map (·.1))))
  case atStart => exact ⟨0, .slice none 0 0, rfl, Nat.zero_le _, by omega, rfl, Below.refl _ _, ⟨rfl, .inl ⟨rfl, rfl⟩⟩⟩
  case round =>
    obtain ⟨k, v, rfl, hk, hg, rfl, hb, ho⟩ := hrel
    have HB := hidE hb; have HO := hidE ho; clear hb ho
    by_cases hlt : k < l.length
    · obtain ⟨b, off, rfl, hbb, hc⟩ := (HA.out.past HB.out) (by omega)
      obtain ⟨d0, d1, d2⟩ := hc.get hlt
      have HS := hidE (show cellsI ((l.take (k + 1)).map (·.1)) = cellsI ((l.take k).map (·.1)) ++ [.int .i64 (ats l k)] by
        rw [List.take_succ_eq_append_getElem hlt]
        unfold cellsI ats
        rw [getD_get _ _ _ hlt, List.map_append, List.map_append]; rfl)
      have hsz := HB.out.size
      clear hc d1 d2
      generalize ats l k = u at *
      go_wp2_with (at_builtin; refine wpList_append_own _ rfl (.tmp 11) (.tmp 17) 70 rfl w.heap.size 2 i0 (.int .i64 0) 1 8 Try.underlying70 HI.out HZ0.out HZ1.out HZ2.out rfl (by decide) _ _ _ rfl (HO.out.alloc _) ⟨wr.heap.size, 0, none⟩ 1 1 [.int .i64 u] rfl rfl (new_cells wr #[.int .i64 u] 2) (by intro x hx; simp at hx; rcases hx with rfl; rfl) (by unfold maxLen; omega) (by omega) (by simp; omega) ?_; intro v' w4 hown4 hgrow4 _)
      have p4 : Below w.heap.size w w4 := Below.grown (HB.out.alloc hsz (.cells #[.int .i64 u] 2)) hgrow4 (by simp; omega) (fun k hk => own_block HO.out hk)
      rw [← HS.out] at hown4
      have P4 := hidE p4; have PO := hidE hown4
      clear p4 hown4 hgrow4 d0
      go_wp2
      go_roundg (l.length - (k + 1))
      case measure => omega
      case rel => exact ⟨k + 1, v', rfl, by omega, Nat.le_refl _, by go_num, P4.out, PO.out⟩
    · have hk' : k = l.length := by omega
      subst hk'
      have ho := HO.out
      rw [List.take_length] at ho
      have HO2 := hidE ho; clear ho HO
      go_wp2
      go_ret
      exact ⟨_, rfl, HO2.out, HB.out⟩

theorem new_cells_at (w : World) (cs : Array Value) (t : TypeId) (k : Nat) (h : k = w.heap.size) : ∀ j u, cs.toList[j]? = some u → (w.alloc (.cells cs t)).cell? ((⟨k, 0, none⟩ : Addr).add j) = some u := by
  subst h; exact new_cells w cs t
def WithPost (w : World) (B : Nat) (v0 : Value) (f : List Sg) (e : Ending) (w' : World) : Prop :=
  ∃ v' : Value, e = .returned v' ∧ w'.ownsRow B 54 3 v' f.length (cellsOfS f) ∧ w.grownBy w' v0.ownBlock
theorem own_past {w w' : World} {B : Nat} {e : TypeId} {sz : Nat} {v : Value} {n : Nat} {xs : List Value} (h : w.ownsRow B e sz v n xs) (hb : Below w.heap.size w w') : w'.ownsRow B e sz v n xs := own_below h hb

set_option maxHeartbeats 1000000 in
set_option maxRecDepth 100000 in
theorem rwith_c (f : List Sg) (v0 : Value) (B : Nat) (t m c : Int) (w : World) (hB : B ≤ w.heap.size) (hl : f.length ≤ 1099511627776) (ho : w.ownsRow B 54 3 v0 f.length (cellsOfS f)) :
    Calls Try.prog 43 #[v0, .int .i64 t, V m c] w (WithPost w B v0 (withL f t (m, c))) := by
  obtain ⟨a, cap, rfl, hlc, hcap, hA⟩ := sliS_own ho
  have HO := hidE ho; have HA := hidE hA
  clear ho hA
  obtain ⟨i0, hi, hz0, hz1, hz2⟩ := info_parts Try.infoSeg
  have HI := hidE hi; have HZ0 := hidE hz0; have HZ1 := hidE hz1; have HZ2 := hidE hz2
  clear hi hz0 hz1 hz2
  have app : ∀ (wx : World), Below w.heap.size w wx → Hid (wx.ownsRow B 54 3 (.slice a f.length cap) f.length (cellsOfS f) ∧ B ≤ wx.heap.size) := fun wx hb => ⟨own_past HO.out hb, Nat.le_trans hB hb.size⟩
  have APP := hidE app; clear app
  have HCS := hidE (show cellsOfS (f ++ [(t, (m, c))]) = cellsOfS f ++ [.int .i64 t, .int .i64 m, .int .i64 c] from cellsOfS_app _ _)
  have hlen1 : (f ++ [(t, (m, c))]).length = f.length + 1 := by simp
  have HL1 := hidE hlen1; clear hlen1
  by_cases h0 : f.length = 0
  · have hlast : lastV f = (0, 0) := by unfold lastV; rw [if_pos h0]
    have hd : decide ((0 : Int) < (f.length : Int)) = false := decide_eq_false (by omega)
    have hd' : ¬ (0 : Int) < (f.length : Int) := by omega
    have hd2 : ¬ 0 < f.length := by omega
    by_cases hv : (m, c) = ((0, 0) : Int × Int)
    · have HF := hidE (show withL f t (m, c) = f by unfold withL; rw [hlast, if_pos hv])
      obtain ⟨rfl, rfl⟩ : m = 0 ∧ c = 0 := by simpa using hv
      clear hv hlast h0
      go_enter Try.func43, Try.ntmps43
      go_wp2
      go_ret
      exact ⟨_, rfl, by rw [HF.out]; exact own_past HO.out (by (repeat (first | exact Below.refl _ _ | assumption | refine balloc ?_ _ | refine below_drewN ?_ _ | refine bstep (by assumption) ?_ | refine bstep (Past.prop _) ?_ | refine Below.setCell ?_ (by first | exact Nat.le_refl _ | (simp; done) | (simp; omega)) _))), grown_any (by (repeat (first | exact Below.refl _ _ | assumption | refine balloc ?_ _ | refine below_drewN ?_ _ | refine bstep (by assumption) ?_ | refine bstep (Past.prop _) ?_ | refine Below.setCell ?_ (by first | exact Nat.le_refl _ | (simp; done) | (simp; omega)) _)))⟩
    · have HF := hidE (show withL f t (m, c) = f ++ [(t, (m, c))] by unfold withL; rw [hlast, if_neg hv])
      have hmc : ((m == 0) && (c == 0)) = false := by
        rw [Bool.eq_false_iff]; intro h; simp at h; exact hv (by rw [h.1, h.2])
      clear hv hlast h0
      cases hm : (m == 0)
      rotate_left
      · have hc : (c == 0) = false := by rw [hm] at hmc; simpa using hmc
        clear hmc
        go_enter Try.func43, Try.ntmps43
        go_wp2_with (at_builtin; go_loud (refine wpList_append_own _ rfl (.tmp 23) (.tmp 27) 22 rfl B 54 i0 (.agg #[.int .i64 0, .int .i64 0, .int .i64 0]) 3 24 Try.underlying22 HI.out HZ0.out HZ1.out HZ2.out rfl (by decide) _ _ _ rfl (APP.out _ (by (repeat (first | exact Below.refl _ _ | assumption | refine balloc ?_ _ | refine below_drewN ?_ _ | refine bstep (by assumption) ?_ | refine bstep (Past.prop _) ?_ | refine Below.setCell ?_ (by first | exact Nat.le_refl _ | (simp; done) | (simp; omega)) _)))).out.1 ⟨_, 0, none⟩ 1 1 [.int .i64 t, .int .i64 m, .int .i64 c] rfl rfl (new_cells_at _ #[.int .i64 t, .int .i64 m, .int .i64 c] 54 _ (by simp)) (by intro x hx; simp at hx; rcases hx with rfl | rfl | rfl <;> rfl) (by unfold maxLen; omega) (by omega) (by simp; omega) ?_; intro v' w4 hown4 hgrow4 _))
        rw [← HCS.out, ← HL1.out] at hown4
        have HO4 := hidE hown4; have HG4 := hidE (grown_trans (grown_any (show Below w.heap.size w _ by (repeat (first | exact Below.refl _ _ | assumption | refine balloc ?_ _ | refine below_drewN ?_ _ | refine bstep (by assumption) ?_ | refine bstep (Past.prop _) ?_ | refine Below.setCell ?_ (by first | exact Nat.le_refl _ | (simp; done) | (simp; omega)) _)))) hgrow4)
        clear hown4 hgrow4
        go_wp2
        go_ret
        exact ⟨_, rfl, by rw [HF.out]; exact HO4.out, HG4.out⟩
      · clear hmc
        go_enter Try.func43, Try.ntmps43
        go_wp2_with (at_builtin; refine wpList_append_own _ rfl (.tmp 23) (.tmp 27) 22 rfl B 54 i0 (.agg #[.int .i64 0, .int .i64 0, .int .i64 0]) 3 24 Try.underlying22 HI.out HZ0.out HZ1.out HZ2.out rfl (by decide) _ _ _ rfl (APP.out _ (by (repeat (first | exact Below.refl _ _ | assumption | refine balloc ?_ _ | refine below_drewN ?_ _ | refine bstep (by assumption) ?_ | refine bstep (Past.prop _) ?_ | refine Below.setCell ?_ (by first | exact Nat.le_refl _ | (simp; done) | (simp; omega)) _)))).out.1 ⟨_, 0, none⟩ 1 1 [.int .i64 t, .int .i64 m, .int .i64 c] rfl rfl (new_cells_at _ #[.int .i64 t, .int .i64 m, .int .i64 c] 54 _ (by simp)) (by intro x hx; simp at hx; rcases hx with rfl | rfl | rfl <;> rfl) (by unfold maxLen; omega) (by omega) (by simp; omega) ?_; intro v' w4 hown4 hgrow4 _)
        rw [← HCS.out, ← HL1.out] at hown4
        have HO4 := hidE hown4; have HG4 := hidE (grown_trans (grown_any (show Below w.heap.size w _ by (repeat (first | exact Below.refl _ _ | assumption | refine balloc ?_ _ | refine below_drewN ?_ _ | refine bstep (by assumption) ?_ | refine bstep (Past.prop _) ?_ | refine Below.setCell ?_ (by first | exact Nat.le_refl _ | (simp; done) | (simp; omega)) _)))) hgrow4)
        clear hown4 hgrow4
        go_wp2
        go_ret
        exact ⟨_, rfl, by rw [HF.out]; exact HO4.out, HG4.out⟩
  · obtain ⟨k, hk⟩ : ∃ k, f.length = k + 1 := ⟨f.length - 1, by omega⟩
    have hlast : lastV f = vls f k := by unfold lastV; rw [if_neg h0, hk, Nat.add_sub_cancel]
    obtain ⟨b, off, rfl, hb, hc⟩ := HA.out (by omega)
    obtain ⟨d0, d1, d2⟩ := hc.get (i := k) (by omega)
    have hd : decide ((0 : Int) < (f.length : Int)) = true := decide_eq_true (by omega)
    have hkz : (f.length : Int) - 1 = (k : Int) := by omega
    have hkl : k < f.length := by omega
    have HKZ := hidE hkz
    have hn1 : b ≠ w.heap.size := by omega
    have hn2 : b ≠ w.heap.size + 1 := by omega
    clear hc hk h0 hkz d0
    by_cases hv : (m, c) = vls f k
    · have HF := hidE (show withL f t (m, c) = f by unfold withL; rw [hlast, if_pos hv])
      rw [← hv] at d1 d2
      clear hv hlast
      go_enter Try.func43, Try.ntmps43
      go_upto_region 3 with fail
      have hkz := HKZ.out
      go_wp2
      go_ret
      exact ⟨_, rfl, by rw [HF.out]; exact own_past HO.out (by (repeat (first | exact Below.refl _ _ | assumption | refine balloc ?_ _ | refine below_drewN ?_ _ | refine bstep (by assumption) ?_ | refine bstep (Past.prop _) ?_ | refine Below.setCell ?_ (by first | exact Nat.le_refl _ | (simp; done) | (simp; omega)) _))), grown_any (by (repeat (first | exact Below.refl _ _ | assumption | refine balloc ?_ _ | refine below_drewN ?_ _ | refine bstep (by assumption) ?_ | refine bstep (Past.prop _) ?_ | refine Below.setCell ?_ (by first | exact Nat.le_refl _ | (simp; done) | (simp; omega)) _)))⟩
    · have HF := hidE (show withL f t (m, c) = f ++ [(t, (m, c))] by unfold withL; rw [hlast, if_neg hv])
      have hmc : ((m == (vls f k).1) && (c == (vls f k).2)) = false := by
        rw [Bool.eq_false_iff]; intro h; simp at h; exact hv (Prod.ext h.1 h.2)
      clear hv hlast
      generalize vls f k = q at *
      cases hm : (m == q.1)
      rotate_left
      · have hc : (c == q.2) = false := by rw [hm] at hmc; simpa using hmc
        clear hmc
        go_enter Try.func43, Try.ntmps43
        go_upto_region 3 with fail
        have hkz := HKZ.out
        go_wp2_with (at_builtin; refine wpList_append_own _ rfl (.tmp 23) (.tmp 27) 22 rfl B 54 i0 (.agg #[.int .i64 0, .int .i64 0, .int .i64 0]) 3 24 Try.underlying22 HI.out HZ0.out HZ1.out HZ2.out rfl (by decide) _ _ _ rfl (APP.out _ (by (repeat (first | exact Below.refl _ _ | assumption | refine balloc ?_ _ | refine below_drewN ?_ _ | refine bstep (by assumption) ?_ | refine bstep (Past.prop _) ?_ | refine Below.setCell ?_ (by first | exact Nat.le_refl _ | (simp; done) | (simp; omega)) _)))).out.1 ⟨_, 0, none⟩ 1 1 [.int .i64 t, .int .i64 m, .int .i64 c] rfl rfl (new_cells_at _ #[.int .i64 t, .int .i64 m, .int .i64 c] 54 _ (by simp)) (by intro x hx; simp at hx; rcases hx with rfl | rfl | rfl <;> rfl) (by unfold maxLen; omega) (by omega) (by simp; omega) ?_; intro v' w4 hown4 hgrow4 _)
        rw [← HCS.out, ← HL1.out] at hown4
        have HO4 := hidE hown4; have HG4 := hidE (grown_trans (grown_any (show Below w.heap.size w _ by (repeat (first | exact Below.refl _ _ | assumption | refine balloc ?_ _ | refine below_drewN ?_ _ | refine bstep (by assumption) ?_ | refine bstep (Past.prop _) ?_ | refine Below.setCell ?_ (by first | exact Nat.le_refl _ | (simp; done) | (simp; omega)) _)))) hgrow4)
        clear hown4 hgrow4
        go_wp2
        go_ret
        exact ⟨_, rfl, by rw [HF.out]; exact HO4.out, HG4.out⟩
      · clear hmc
        go_enter Try.func43, Try.ntmps43
        go_upto_region 3 with fail
        have hkz := HKZ.out
        go_wp2_with (at_builtin; refine wpList_append_own _ rfl (.tmp 23) (.tmp 27) 22 rfl B 54 i0 (.agg #[.int .i64 0, .int .i64 0, .int .i64 0]) 3 24 Try.underlying22 HI.out HZ0.out HZ1.out HZ2.out rfl (by decide) _ _ _ rfl (APP.out _ (by (repeat (first | exact Below.refl _ _ | assumption | refine balloc ?_ _ | refine below_drewN ?_ _ | refine bstep (by assumption) ?_ | refine bstep (Past.prop _) ?_ | refine Below.setCell ?_ (by first | exact Nat.le_refl _ | (simp; done) | (simp; omega)) _)))).out.1 ⟨_, 0, none⟩ 1 1 [.int .i64 t, .int .i64 m, .int .i64 c] rfl rfl (new_cells_at _ #[.int .i64 t, .int .i64 m, .int .i64 c] 54 _ (by simp)) (by intro x hx; simp at hx; rcases hx with rfl | rfl | rfl <;> rfl) (by unfold maxLen; omega) (by omega) (by simp; omega) ?_; intro v' w4 hown4 hgrow4 _)
        rw [← HCS.out, ← HL1.out] at hown4
        have HO4 := hidE hown4; have HG4 := hidE (grown_trans (grown_any (show Below w.heap.size w _ by (repeat (first | exact Below.refl _ _ | assumption | refine balloc ?_ _ | refine below_drewN ?_ _ | refine bstep (by assumption) ?_ | refine bstep (Past.prop _) ?_ | refine Below.setCell ?_ (by first | exact Nat.le_refl _ | (simp; done) | (simp; omega)) _)))) hgrow4)
        clear hown4 hgrow4
        go_wp2
        go_ret
        exact ⟨_, rfl, by rw [HF.out]; exact HO4.out, HG4.out⟩
end Go.Proofs.Ythgenmejjflceaa

namespace Go.Proofs.Ythgenmejjflceaa
open Go.ChangeShapes Go.WideShapes Go.ChangeAt Go.RowKit
attribute [local irreducible] Go.Calls

/-- A slice whose cells are the list's, nil too. -/
def SrcI (w : World) (v : Value) (l : List Int) : Prop := ∃ (a : Option Addr) (cap : Nat), v = .slice a l.length cap ∧ (a = none → l = [] ∧ cap = 0) ∧ ∀ ad, a = some ad → ∀ j u, (cellsI l)[j]? = some u → w.cell? (ad.add j) = some u
theorem step_append_src {P : Program} {ops : Array Oper} {o : Oper} {a : Act} {w : World} {K : Act → World → Prop} {Q : Exit → Act → World → Prop} {E : Prop}
    (hg : o.guard = none) (s x : Operand) (t : TypeId) (hop : o.op = Op.call { callee := Callee.builtin Builtin.append, args := #[s, x], argTypes := #[t, t] })
    (base : Nat) (e : TypeId) (i : TypeInfo) (ht : P.underlying t = some (.slice e)) (hi : P.info? e = some i) (hz : i.zero = some (.int .i64 0)) (hsize : i.size = 1) (hby : i.bytes = 8)
    (v : Value) (n : Nat) (xs : List Value) (hs : a.eval s = v) (hown : w.ownsRow base e 1 v n xs)
    (vx : Value) (news : List Int) (hx : a.eval x = vx) (hsrc : SrcI w vx news)
    (h63 : n + news.length ≤ 1099511627776) (hbase : base ≤ w.heap.size)
    (h : ∀ v' w', w'.ownsRow base e 1 v' (n + news.length) (xs ++ cellsI news) → w.grownBy w' v.ownBlock → K (a.put o.dst v') w') :
    if Region.wanted o (yielded ops a.tmps) = true then Oper.wp P o a w K Q else E := by
  have hw : Region.wanted o (yielded ops a.tmps) = true := by simp [Region.wanted, hg]
  rw [if_pos hw]
  obtain ⟨ad, cap, rfl, hn, hc⟩ := hsrc
  cases ad with
  | none =>
    obtain ⟨rfl, rfl⟩ := hn rfl
    have hrun := run_append_owned_none (P := P) (w := w) base t o.type e i 1 ht hi v n xs hown
    have hK := h v w (by simpa [cellsI] using hown) ⟨rfl, rfl, rfl, Nat.le_refl _, fun _ _ _ => rfl⟩
    unfold Oper.wp
    simp [execOp, hop, resolve, invoke, builtin, hs, hx, hrun, Result.andThen]
    exact hK
  | some ad =>
    exact wp_append_own w s x t hop base e i (.int .i64 0) 1 8 ht hi hz hsize hby rfl (by decide) v n xs hs hown ad news.length cap (cellsI news) hx (by simp [cellsI]) (hc ad rfl) (cellsI_one news) (by unfold maxLen; omega) (by omega) hbase fun v' w' h1 h2 _ => h v' w' h1 h2

/-- The same, told for rows that lie from a world's end on. -/
theorem step_app {P : Program} {ops : Array Oper} {o : Oper} {a : Act} {w : World} {K : Act → World → Prop} {Q : Exit → Act → World → Prop} {E : Prop}
    (hg : o.guard = none) (s x : Operand) (t : TypeId) (hop : o.op = Op.call { callee := Callee.builtin Builtin.append, args := #[s, x], argTypes := #[t, t] })
    (W0 : World) (e : TypeId) (i : TypeInfo) (ht : P.underlying t = some (.slice e)) (hi : P.info? e = some i) (hz : i.zero = some (.int .i64 0)) (hsize : i.size = 1) (hby : i.bytes = 8)
    (v : Value) (n : Nat) (xs : List Value) (hs : a.eval s = v) (hown : w.ownsRow W0.heap.size e 1 v n xs)
    (vx : Value) (news : List Int) (hx : a.eval x = vx) (hsrc : SrcI w vx news)
    (h63 : n + news.length ≤ 1099511627776) (hb : Below W0.heap.size W0 w)
    (h : ∀ v' w', w'.ownsRow W0.heap.size e 1 v' (n + news.length) (xs ++ cellsI news) → Below W0.heap.size W0 w' → (∀ k cs t, Blk w k cs t → v.ownBlock ≠ some k → Blk w' k cs t) → K (a.put o.dst v') w') :
    if Region.wanted o (yielded ops a.tmps) = true then Oper.wp P o a w K Q else E :=
  step_append_src hg s x t hop W0.heap.size e i ht hi hz hsize hby v n xs hs hown vx news hx hsrc h63 hb.size fun v' w' h1 h2 =>
    h v' w' h1 (hb.grown h2 hb.size (fun _k hk => own_block hown hk)) (fun _k _cs _t hB hne => hB.grown h2 (fun e => hne e.symm))
theorem own_empty {w : World} {p base : Nat} {e : TypeId} (hB : Blk w p #[] e) (hp : base ≤ p) : w.ownsRow base e 1 (.slice (some ⟨p, 0, none⟩) 0 0) 0 [] :=
  ⟨rfl, .inr ⟨p, 0, #[], rfl, hp, hB, Nat.le_refl _, Nat.zero_le _, rfl, rfl⟩⟩
theorem own_low {w : World} {B B' : Nat} {e : TypeId} {sz : Nat} {v : Value} {n : Nat} {xs : List Value} (h : w.ownsRow B e sz v n xs) (hB : B' ≤ B) : w.ownsRow B' e sz v n xs := by
  obtain ⟨h1, h2 | ⟨g, cap, cur, h3, h4, h5⟩⟩ := h
  · exact ⟨h1, .inl h2⟩
  · exact ⟨h1, .inr ⟨g, cap, cur, h3, Nat.le_trans hB h4, h5⟩⟩
theorem src_one {w : World} {p : Nat} {x : Int} {t : TypeId} (hB : Blk w p #[.int .i64 x] t) : SrcI w (.slice (some ⟨p, 0, none⟩) 1 1) [x] := by
  refine ⟨some ⟨p, 0, none⟩, 1, rfl, (fun h => by cases h), fun ad had j u hj => ?_⟩
  cases had
  have hj0 : j = 0 := by
    have := (List.getElem?_eq_some_iff.1 hj).1
    simp [cellsI] at this; exact this
  subst hj0
  have e : ((⟨p, 0, none⟩ : Addr).add 0) = ⟨p, 0, none⟩ := by simp [Addr.add]
  rw [e, hB.cell 0, ← hj]; rfl
theorem src_nil (w : World) : SrcI w (.slice none 0 0) [] := ⟨none, 0, rfl, fun _ => ⟨rfl, rfl⟩, fun _ h => by cases h⟩
theorem cellsI_app (l r : List Int) : cellsI (l ++ r) = cellsI l ++ cellsI r := by unfold cellsI; rw [List.map_append]

theorem own_fin {w : World} {B : Nat} {e : TypeId} {v : Value} {o : List Int} {x : Int} {j : Nat} (h : w.ownsRow B e 1 v (0 + (o.take j).length + [x].length + (o.drop j).length) ([] ++ cellsI (o.take j) ++ cellsI [x] ++ cellsI (o.drop j))) (hins : insT x o = o.take j ++ x :: o.drop j) :
    w.ownsRow B e 1 v (insT x o).length (cellsI (insT x o)) := by
  have e1 : (insT x o).length = 0 + (o.take j).length + [x].length + (o.drop j).length := by rw [hins]; simp; omega
  have e2 : cellsI (insT x o) = [] ++ cellsI (o.take j) ++ cellsI [x] ++ cellsI (o.drop j) := by
    rw [hins, show o.take j ++ x :: o.drop j = o.take j ++ ([x] ++ o.drop j) from rfl, cellsI_app, cellsI_app, List.nil_append, List.append_assoc]
  rw [e1, e2]; exact h
/-- Pieces of a row read as slices. -/
theorem src_take {w : World} {g cap j n : Nat} {o : List Int} (hc : ∀ i, i < o.length → w.cell? ⟨g, i, none⟩ = some (.int .i64 (o.getD i 0))) (hj : j ≤ o.length) (hn : n = j) : SrcI w (.slice (some ⟨g, 0, none⟩) n cap) (o.take j) := by
  subst hn
  refine ⟨some ⟨g, 0, none⟩, cap, by simp [Nat.min_eq_left hj], (fun h => by cases h), fun ad had i u hu => ?_⟩
  cases had
  have hi := (List.getElem?_eq_some_iff.1 hu).1
  simp [cellsI] at hi
  have e : ((⟨g, 0, none⟩ : Addr).add i) = ⟨g, i, none⟩ := by
    unfold Addr.add
    by_cases c : i = 0
    · subst c; simp
    · simp [c]
  rw [e, hc i (by omega), ← hu]
  unfold cellsI
  rw [List.getElem?_map, List.getElem?_take, if_pos (by omega), List.getElem?_eq_getElem (by omega), getD_get _ _ _ (by omega)]; rfl
theorem src_drop {w : World} {g cap j n p : Nat} {o : List Int} (hc : ∀ i, i < o.length → w.cell? ⟨g, i, none⟩ = some (.int .i64 (o.getD i 0))) (hj : j ≤ o.length) (hn : n = o.length - j) (hp : p = j ∨ j = o.length) : SrcI w (.slice (some ⟨g, p, none⟩) n cap) (o.drop j) := by
  subst hn
  refine ⟨some ⟨g, p, none⟩, cap, by simp, (fun h => by cases h), fun ad had i u hu => ?_⟩
  cases had
  have hi := (List.getElem?_eq_some_iff.1 hu).1
  simp [cellsI] at hi
  have hpj : p = j := by omega
  subst hpj
  have e : ((⟨g, p, none⟩ : Addr).add i) = ⟨g, p + i, none⟩ := by
    unfold Addr.add
    by_cases c : i = 0
    · subst c; simp
    · simp [c]
  rw [e, hc (p + i) (by omega), ← hu]
  unfold cellsI
  rw [List.getElem?_map, List.getElem?_drop, List.getElem?_eq_getElem (by omega), getD_get _ _ _ (by omega)]; rfl
theorem own_cells {w : World} {g : Nat} {e : TypeId} {cur : Array Value} {o : List Int} (h : w.heap[g]? = some (.cells cur e (0, 0))) (ht : cur.toList.take (o.length * 1) = cellsI o) : ∀ i, i < o.length → w.cell? ⟨g, i, none⟩ = some (.int .i64 (o.getD i 0)) := fun i hi => by
  have hg := cellsI_get hi
  have e : w.cell? ⟨g, i, none⟩ = cur[i]? := by simp [World.cell?, h]
  rw [e, ← Array.getElem?_toList]
  rw [← ht, List.getElem?_take, if_pos (by omega)] at hg
  exact hg

set_option maxRecDepth 100000 in
set_option maxHeartbeats 8000000 in
theorem rtimes_c (l : List Int) (a : Option Addr) (cap : Nat) (w : World) (hl : l.length ≤ 1000000000) (hA : ArgI w a l) :
    Calls Try.prog 41 #[.slice a l.length cap] w (RetV w fun v w' => w'.ownsRow w.heap.size 2 1 v (timesL l).length (cellsI (timesL l))) := by
  have HA := hidE hA; clear hA
  obtain ⟨i0, hi, hz0, hz1, hz2⟩ := info_parts Try.infoI64
  have HI := hidE hi; have HZ0 := hidE hz0; have HZ1 := hidE hz1; have HZ2 := hidE hz2
  clear hi hz0 hz1 hz2
  go_enter Try.func41, Try.ntmps41
  go_wp2
  go_loopg [3, 4, 5] l.length (fun g vf vi _ wr => ∃ (k : Nat) (v : Value), v = vf ∧ k ≤ l.length ∧ l.length - k ≤ g ∧ vi = .int .i64 k ∧ Below w.heap.size w wr ∧ wr.ownsRow w.heap.size 2 1 v (timesL (l.take k)).length (cellsI (timesL (l.take k))))
  case atStart => exact ⟨0, .slice none 0 0, rfl, Nat.zero_le _, by omega, rfl, Below.refl _ _, ⟨rfl, .inl ⟨rfl, rfl⟩⟩⟩
  case round =>
    obtain ⟨k, v, rfl, hk, hg, rfl, hb, ho⟩ := hrel
    have HB := hidE hb; have HO := hidE ho; clear hb ho
    by_cases hlt : k < l.length
    · obtain ⟨b, off, rfl, hbb, hc⟩ := (HA.out.past HB.out) (by omega)
      have d0 := hc k hlt
      have HT := hidE (timesL_step hlt)
      have htl := timesL_len (l.take k)
      rw [List.length_take] at htl
      generalize timesL (l.take k) = o at *
      generalize l.getD k 0 = x at *
      have hsz := HB.out.size
      have hho := HO.out
      obtain ⟨hol, ⟨rfl, ho0⟩ | ⟨g, co, cur, rfl, hgB, hgh, hlc, hcm, hcs, hct⟩⟩ := hho
      · have : o = [] := List.eq_nil_of_length_eq_zero ho0
        subst this
        have HR := hidE (show insT x [] = [x] from rfl)
        clear hc hol ho0
        obtain ⟨wo, rfl⟩ : ∃ wo : World, wo = wr := ⟨_, rfl⟩
        go_wp2_with fail
        go_loopg [5] 0 (fun g2 vj wr2 => vj = .int .i64 0 ∧ wr2 = wo)
        case atStart => exact ⟨rfl, rfl⟩
        case round =>
          obtain ⟨rfl, rfl⟩ := hrel
          go_wp2_with fail
          refine wp_region_past_lit (by kernel_rfl) (by kernel_rfl) ?_
          repeat (go_big_quiet_step (fail))
          refine wpQuiet_nil ?_
          rintro _ ⟨x', rfl⟩
          have o1 := own_below HO.out x'.2
          have o2 : Below w.heap.size w x'.1 := by have := HB.out; (repeat (first | exact Below.refl _ _ | assumption | refine balloc ?_ _ | refine below_drewN ?_ _ | refine bstep (by assumption) ?_ | refine bstep (Past.prop _) ?_ | refine Below.setCell ?_ (by first | exact Nat.le_refl _ | (simp; done) | (simp; omega)) _))
          have o3 : b < x'.1.heap.size := Nat.lt_of_lt_of_le hbb x'.2.size
          have o4 := (x'.2.cell (p := ⟨b, off + k, none⟩) hbb).trans d0
          clear HO HB d0 hbb
          generalize x'.1 = w5 at *
          go_wp2_with fail
          refine wp_region_past_lit (by kernel_rfl) (by kernel_rfl) ?_
          repeat (go_big_quiet_step (fail))
          refine wpQuiet_nil ?_
          rintro _ ⟨x', rfl⟩
          have o1 := own_below o1 x'.2
          have o2' : Below w.heap.size w x'.1 := by (repeat (first | exact Below.refl _ _ | assumption | refine balloc ?_ _ | refine below_drewN ?_ _ | refine bstep (by assumption) ?_ | refine bstep (Past.prop _) ?_ | refine Below.setCell ?_ (by first | exact Nat.le_refl _ | (simp; done) | (simp; omega)) _))
          have o4 := (x'.2.cell (p := ⟨b, off + k, none⟩) o3).trans o4
          have o3 : b < x'.1.heap.size := Nat.lt_of_lt_of_le o3 x'.2.size
          clear o2
          generalize x'.1 = w6 at *
          go_wp2_with fail
          have HS3 := hidE (fun (w' : World) (_ : Below w6.heap.size w6 w') => src_nil w')
          have HS1 := hidE (fun (w' : World) (_ : Below w6.heap.size w6 w') => src_nil w')
          have ho2 := hidE o2'
          go_region_law (first | (refine step_app rfl (.tmp 44) (.tmp 47) 70 rfl w6 2 i0 Try.underlying70 HI.out HZ0.out HZ1.out HZ2.out (.slice (some ⟨w6.heap.size, 0, none⟩) 0 0) 0 [] rfl (own_empty (p := w6.heap.size) ((Blk.made _ _ _).drew 1) (by omega)) _ _ rfl (HS1.out _ (by (repeat (first | exact Below.refl _ _ | assumption | refine balloc ?_ _ | refine below_drewN ?_ _ | refine bstep (by assumption) ?_ | refine bstep (Past.prop _) ?_ | refine Below.setCell ?_ (by first | exact Nat.le_refl _ | (simp; done) | (simp; omega)) _)))) (by (try simp only [List.length_nil]); omega) (by (repeat (first | exact Below.refl _ _ | assumption | refine balloc ?_ _ | refine below_drewN ?_ _ | refine bstep (by assumption) ?_ | refine bstep (Past.prop _) ?_ | refine Below.setCell ?_ (by first | exact Nat.le_refl _ | (simp; done) | (simp; omega)) _))) ?_; intro v1 w1 own1 hb1 keep1; have hcell1 := (hb1.cell (p := ⟨b, off + k, none⟩) o3).trans o4; have hsz1 := hb1.size) | (refine step_app rfl (.tmp 44) (.tmp 47) 70 rfl w6 2 i0 Try.underlying70 HI.out HZ0.out HZ1.out HZ2.out (.slice (some ⟨w6.heap.size, 0, none⟩) 0 0) 0 [] rfl (own_empty (p := w6.heap.size) (((Blk.made _ _ _).alloc _).drew 1) (by omega)) _ _ rfl (HS1.out _ (by (repeat (first | exact Below.refl _ _ | assumption | refine balloc ?_ _ | refine below_drewN ?_ _ | refine bstep (by assumption) ?_ | refine bstep (Past.prop _) ?_ | refine Below.setCell ?_ (by first | exact Nat.le_refl _ | (simp; done) | (simp; omega)) _)))) (by (try simp only [List.length_nil]); omega) (by (repeat (first | exact Below.refl _ _ | assumption | refine balloc ?_ _ | refine below_drewN ?_ _ | refine bstep (by assumption) ?_ | refine bstep (Past.prop _) ?_ | refine Below.setCell ?_ (by first | exact Nat.le_refl _ | (simp; done) | (simp; omega)) _))) ?_; intro v1 w1 own1 hb1 keep1; have hcell1 := (hb1.cell (p := ⟨b, off + k, none⟩) o3).trans o4; have hsz1 := hb1.size) | (refine step_app rfl (.tmp 44) (.tmp 47) 70 rfl w6 2 i0 Try.underlying70 HI.out HZ0.out HZ1.out HZ2.out (.slice (some ⟨w6.heap.size + 1, 0, none⟩) 0 0) 0 [] rfl (own_empty (p := w6.heap.size + 1) ((Blk.made_at _ _ _ _ (by simp)).drew 1) (by omega)) _ _ rfl (HS1.out _ (by (repeat (first | exact Below.refl _ _ | assumption | refine balloc ?_ _ | refine below_drewN ?_ _ | refine bstep (by assumption) ?_ | refine bstep (Past.prop _) ?_ | refine Below.setCell ?_ (by first | exact Nat.le_refl _ | (simp; done) | (simp; omega)) _)))) (by (try simp only [List.length_nil]); omega) (by (repeat (first | exact Below.refl _ _ | assumption | refine balloc ?_ _ | refine below_drewN ?_ _ | refine bstep (by assumption) ?_ | refine bstep (Past.prop _) ?_ | refine Below.setCell ?_ (by first | exact Nat.le_refl _ | (simp; done) | (simp; omega)) _))) ?_; intro v1 w1 own1 hb1 keep1; have hcell1 := (hb1.cell (p := ⟨b, off + k, none⟩) o3).trans o4; have hsz1 := hb1.size) | (refine step_app rfl (.tmp 48) (.tmp 53) 70 rfl w6 2 i0 Try.underlying70 HI.out HZ0.out HZ1.out HZ2.out _ _ _ rfl (own1.alloc _) _ [x] rfl (src_one (Blk.made _ _ _)) (by (try simp only [List.length_cons, List.length_nil]); omega) (by (repeat (first | exact Below.refl _ _ | assumption | refine balloc ?_ _ | refine below_drewN ?_ _ | refine bstep (by assumption) ?_ | refine bstep (Past.prop _) ?_ | refine Below.setCell ?_ (by first | exact Nat.le_refl _ | (simp; done) | (simp; omega)) _))) ?_; intro v2 w2 own2 hb2 keep2) | (refine step_app rfl (.tmp 48) (.tmp 53) 70 rfl w6 2 i0 Try.underlying70 HI.out HZ0.out HZ1.out HZ2.out _ _ _ rfl (own1) _ [x] rfl (src_one (keep1 w6.heap.size _ _ (((Blk.made _ _ _).alloc _).drew 1) (by simp [Value.ownBlock]))) (by (try simp only [List.length_cons, List.length_nil]); omega) (by (repeat (first | exact Below.refl _ _ | assumption | refine balloc ?_ _ | refine below_drewN ?_ _ | refine bstep (by assumption) ?_ | refine bstep (Past.prop _) ?_ | refine Below.setCell ?_ (by first | exact Nat.le_refl _ | (simp; done) | (simp; omega)) _))) ?_; intro v2 w2 own2 hb2 keep2) | (refine step_app rfl (.tmp 48) (.tmp 53) 70 rfl w6 2 i0 Try.underlying70 HI.out HZ0.out HZ1.out HZ2.out _ _ _ rfl (own1) _ [x] rfl (src_one (keep1 (w6.heap.size + 1) _ _ ((Blk.made_at _ _ _ _ (by simp)).drew 1) (by simp [Value.ownBlock]))) (by (try simp only [List.length_cons, List.length_nil]); omega) (by (repeat (first | exact Below.refl _ _ | assumption | refine balloc ?_ _ | refine below_drewN ?_ _ | refine bstep (by assumption) ?_ | refine bstep (Past.prop _) ?_ | refine Below.setCell ?_ (by first | exact Nat.le_refl _ | (simp; done) | (simp; omega)) _))) ?_; intro v2 w2 own2 hb2 keep2) | (refine step_app rfl (.tmp 54) (.tmp 57) 70 rfl w6 2 i0 Try.underlying70 HI.out HZ0.out HZ1.out HZ2.out _ _ _ rfl own2 _ _ rfl (HS3.out _ (by (repeat (first | exact Below.refl _ _ | assumption | refine balloc ?_ _ | refine below_drewN ?_ _ | refine bstep (by assumption) ?_ | refine bstep (Past.prop _) ?_ | refine Below.setCell ?_ (by first | exact Nat.le_refl _ | (simp; done) | (simp; omega)) _)))) (by (try simp only [List.length_cons, List.length_nil]); omega) (by (repeat (first | exact Below.refl _ _ | assumption | refine balloc ?_ _ | refine below_drewN ?_ _ | refine bstep (by assumption) ?_ | refine bstep (Past.prop _) ?_ | refine Below.setCell ?_ (by first | exact Nat.le_refl _ | (simp; done) | (simp; omega)) _))) ?_; intro v3 w3 own3 hb3 keep3))
          all_goals
            go_wp2
            have hown3 := own_fin (o := []) (j := 0) own3 rfl
            rw [← HT.out] at hown3
            have HO3 := hidE (own_low hown3 o2'.size); have HB3 := hidE (o2'.trans (hb3.mono o2'.size))
            clear hown3
            go_roundg (l.length - (k + 1))
            case measure => omega
            case rel => exact ⟨k + 1, v3, rfl, by omega, Nat.le_refl _, by go_num, HB3.out, HO3.out⟩
      · have hcells := own_cells hgh hct
        have hglt : g < wr.heap.size := lt_of_block hgh
        have HC := hidE hcells
        clear hc hol hgh hct hcs hcells
        have hcm' : co ≤ 9223372036854775807 := hcm
        obtain ⟨wo, rfl⟩ : ∃ wo : World, wo = wr := ⟨_, rfl⟩
        go_wp2_with fail
        go_loopg [5] o.length (fun g2 vj wr2 => ∃ j : Nat, vj = .int .i64 j ∧ j ≤ o.length ∧ o.length - j ≤ g2 ∧ (∀ i, i < j → o.getD i 0 < x) ∧ Below wo.heap.size wo wr2)
        case atStart => exact ⟨0, rfl, Nat.zero_le _, by omega, fun i hi => by omega, Below.refl _ _⟩
        case round =>
          obtain ⟨j, rfl, hj, hg2, hj2, hbr⟩ := hrel
          have HJ := hidE hj2; have HBR := hidE hbr
          have d1 := (hbr.cell (p := ⟨b, off + k, none⟩) hbb).trans d0
          have hbb2 := Nat.lt_of_lt_of_le hbb hbr.size
          have hgl2 := Nat.lt_of_lt_of_le hglt hbr.size
          clear hj2 hbr
          by_cases hjl : j < o.length
          · have c0 := (HBR.out.cell (p := ⟨g, j, none⟩) hglt).trans (HC.out j hjl)
            have hjd : decide ((j : Int) < (o.length : Int)) = true := decide_eq_true (by omega)
            by_cases hjx : o.getD j 0 < x
            · have HJ2 := hidE (show ∀ i, i < j + 1 → o.getD i 0 < x from fun i hi => by
                by_cases e : i = j
                · rw [e]; exact hjx
                · exact HJ.out i (by omega))
              have hd : decide (o.getD j 0 < x) = true := decide_eq_true hjx
              clear hjx
              generalize o.getD j 0 = y at *
              go_wp2_with fail
              refine wp_region_past_lit (by kernel_rfl) (by kernel_rfl) ?_
              have hcp := Past.cell (W := wr)
              repeat (go_big_quiet_step (fail))
              refine wpQuiet_nil ?_
              rintro _ ⟨x', rfl⟩
              have o1 := bstep x'.2 HBR.out
              clear hcp d1 c0
              generalize x'.1 = w5 at *
              go_wp2
              go_roundg (o.length - (j + 1))
              case measure => omega
              case rel => exact ⟨j + 1, by go_num, by omega, Nat.le_refl _, HJ2.out, o1⟩
            · have hd : decide (o.getD j 0 < x) = false := decide_eq_false hjx
              have HI2 := hidE (insT_at (x := x) (o := o) (k := j) hj HJ.out (fun _ => hjx))
              by_cases hjq : o.getD j 0 = x
              · have HS := hidE (show insT x o = o by rw [HI2.out, if_pos ⟨hjl, hjq⟩])
                have hde : (o.getD j 0 == x) = true := beq_iff_eq.2 hjq
                clear hjx hjq HI2
                generalize o.getD j 0 = y at *
                go_wp2_with fail
                refine wp_region_past_lit (by kernel_rfl) (by kernel_rfl) ?_
                have hcp := Past.cell (W := wr)
                repeat (go_big_quiet_step (fail))
                refine wpQuiet_nil ?_
                rintro _ ⟨x', rfl⟩
                have o1 := bstep x'.2 HBR.out
                have e1 := (x'.2.cell (p := ⟨b, off + k, none⟩) hbb2).trans d1
                have e2 := (x'.2.cell (p := ⟨g, j, none⟩) hgl2).trans c0
                have hb5 := Nat.lt_of_lt_of_le hbb2 x'.2.size
                have hg5 := Nat.lt_of_lt_of_le hgl2 x'.2.size
                clear hcp d1 c0 HBR
                generalize x'.1 = w5 at *
                go_wp2_with fail
                refine wp_region_past_lit (by kernel_rfl) (by kernel_rfl) ?_
                have hcp := Past.cell (W := w5)
                repeat (go_big_quiet_step (fail))
                refine wpQuiet_nil ?_
                rintro _ ⟨x', rfl⟩
                have o1 := bstep x'.2 o1
                clear hcp e1 e2
                generalize x'.1 = w6 at *
                have HB6 := hidE (HB.out.trans (o1.mono hsz))
                have HO6 := hidE (show w6.ownsRow w.heap.size 2 1 (.slice (some ⟨g, 0, none⟩) o.length co) (timesL (l.take (k + 1))).length (cellsI (timesL (l.take (k + 1)))) by rw [HT.out, HS.out]; exact own_below HO.out o1)
                clear o1
                go_wp2
                go_roundg (l.length - (k + 1))
                case measure => omega
                case rel => exact ⟨k + 1, _, rfl, by omega, Nat.le_refl _, by go_num, HB6.out, HO6.out⟩
              · have HI3 := hidE (show insT x o = o.take j ++ x :: o.drop j by rw [HI2.out, if_neg (fun q => hjq q.2)])
                have hde : (o.getD j 0 == x) = false := beq_eq_false_iff_ne.2 hjq
                clear hjx hjq HI2 HJ
                generalize o.getD j 0 = y at *
                go_wp2_with fail
                refine wp_region_past_lit (by kernel_rfl) (by kernel_rfl) ?_
                have hcp := Past.cell (W := wr)
                repeat (go_big_quiet_step (fail))
                refine wpQuiet_nil ?_
                rintro _ ⟨x', rfl⟩
                have o1 := bstep x'.2 HBR.out
                have e1 := (x'.2.cell (p := ⟨b, off + k, none⟩) hbb2).trans d1
                have e2 := (x'.2.cell (p := ⟨g, j, none⟩) hgl2).trans c0
                have hb5 := Nat.lt_of_lt_of_le hbb2 x'.2.size
                have hg5 := Nat.lt_of_lt_of_le hgl2 x'.2.size
                clear hcp d1 HBR c0
                generalize x'.1 = w5 at *
                go_wp2_with fail
                refine wp_region_past_lit (by kernel_rfl) (by kernel_rfl) ?_
                have hcp := Past.cell (W := w5)
                repeat (go_big_quiet_step (fail))
                refine wpQuiet_nil ?_
                rintro _ ⟨x', rfl⟩
                have o1 := bstep x'.2 o1
                have o4 := (x'.2.cell (p := ⟨b, off + k, none⟩) hb5).trans e1
                have o3 := Nat.lt_of_lt_of_le hb5 x'.2.size
                have hg6 := Nat.lt_of_lt_of_le hg5 x'.2.size
                clear hcp e1 hb5 hg5 e2
                generalize x'.1 = w6 at *
                have o2' := HB.out.trans (o1.mono hsz)
                have HCW := hidE (fun (w' : World) (hw' : Below w6.heap.size w6 w') (i : Nat) (hi : i < o.length) => ((bstep hw' o1).cell (p := ⟨g, i, none⟩) hglt).trans (HC.out i hi))
                have HS1 := hidE (fun (n : Nat) (hn : n = j) (w' : World) (hw' : Below w6.heap.size w6 w') => src_take (cap := co) (n := n) (HCW.out w' hw') hj hn)
                have HS3 := hidE (fun (n p c : Nat) (hn : n = o.length - j) (hp : p = j ∨ j = o.length) (w' : World) (hw' : Below w6.heap.size w6 w') => src_drop (cap := c) (n := n) (p := p) (HCW.out w' hw') hj hn hp)
                clear HC HO HB d0 o1
                have hjco : j ≤ co := by omega
                have hjcz : (j : Int) ≤ (co : Int) := by omega
                by_cases hjc : j = co
                · subst hjc
                  go_wp2_with fail
                  go_region_law (first | (refine step_app rfl (.tmp 44) (.tmp 47) 70 rfl w6 2 i0 Try.underlying70 HI.out HZ0.out HZ1.out HZ2.out (.slice (some ⟨w6.heap.size, 0, none⟩) 0 0) 0 [] rfl (own_empty (p := w6.heap.size) ((Blk.made _ _ _).drew 1) (by omega)) _ _ rfl (HS1.out _ (by omega) _ (by (repeat (first | exact Below.refl _ _ | assumption | refine balloc ?_ _ | refine below_drewN ?_ _ | refine bstep (by assumption) ?_ | refine bstep (Past.prop _) ?_ | refine Below.setCell ?_ (by first | exact Nat.le_refl _ | (simp; done) | (simp; omega)) _)))) (by (try simp only [List.length_take]); omega) (by (repeat (first | exact Below.refl _ _ | assumption | refine balloc ?_ _ | refine below_drewN ?_ _ | refine bstep (by assumption) ?_ | refine bstep (Past.prop _) ?_ | refine Below.setCell ?_ (by first | exact Nat.le_refl _ | (simp; done) | (simp; omega)) _))) ?_; intro v1 w1 own1 hb1 keep1; have hcell1 := (hb1.cell (p := ⟨b, off + k, none⟩) o3).trans o4; have hsz1 := hb1.size) | (refine step_app rfl (.tmp 44) (.tmp 47) 70 rfl w6 2 i0 Try.underlying70 HI.out HZ0.out HZ1.out HZ2.out (.slice (some ⟨w6.heap.size, 0, none⟩) 0 0) 0 [] rfl (own_empty (p := w6.heap.size) (((Blk.made _ _ _).alloc _).drew 1) (by omega)) _ _ rfl (HS1.out _ (by omega) _ (by (repeat (first | exact Below.refl _ _ | assumption | refine balloc ?_ _ | refine below_drewN ?_ _ | refine bstep (by assumption) ?_ | refine bstep (Past.prop _) ?_ | refine Below.setCell ?_ (by first | exact Nat.le_refl _ | (simp; done) | (simp; omega)) _)))) (by (try simp only [List.length_take]); omega) (by (repeat (first | exact Below.refl _ _ | assumption | refine balloc ?_ _ | refine below_drewN ?_ _ | refine bstep (by assumption) ?_ | refine bstep (Past.prop _) ?_ | refine Below.setCell ?_ (by first | exact Nat.le_refl _ | (simp; done) | (simp; omega)) _))) ?_; intro v1 w1 own1 hb1 keep1; have hcell1 := (hb1.cell (p := ⟨b, off + k, none⟩) o3).trans o4; have hsz1 := hb1.size) | (refine step_app rfl (.tmp 44) (.tmp 47) 70 rfl w6 2 i0 Try.underlying70 HI.out HZ0.out HZ1.out HZ2.out (.slice (some ⟨w6.heap.size + 1, 0, none⟩) 0 0) 0 [] rfl (own_empty (p := w6.heap.size + 1) ((Blk.made_at _ _ _ _ (by simp)).drew 1) (by omega)) _ _ rfl (HS1.out _ (by omega) _ (by (repeat (first | exact Below.refl _ _ | assumption | refine balloc ?_ _ | refine below_drewN ?_ _ | refine bstep (by assumption) ?_ | refine bstep (Past.prop _) ?_ | refine Below.setCell ?_ (by first | exact Nat.le_refl _ | (simp; done) | (simp; omega)) _)))) (by (try simp only [List.length_take]); omega) (by (repeat (first | exact Below.refl _ _ | assumption | refine balloc ?_ _ | refine below_drewN ?_ _ | refine bstep (by assumption) ?_ | refine bstep (Past.prop _) ?_ | refine Below.setCell ?_ (by first | exact Nat.le_refl _ | (simp; done) | (simp; omega)) _))) ?_; intro v1 w1 own1 hb1 keep1; have hcell1 := (hb1.cell (p := ⟨b, off + k, none⟩) o3).trans o4; have hsz1 := hb1.size) | (refine step_app rfl (.tmp 48) (.tmp 53) 70 rfl w6 2 i0 Try.underlying70 HI.out HZ0.out HZ1.out HZ2.out _ _ _ rfl (own1.alloc _) _ [x] rfl (src_one (Blk.made _ _ _)) (by (try simp only [List.length_cons, List.length_nil, List.length_take]); omega) (by (repeat (first | exact Below.refl _ _ | assumption | refine balloc ?_ _ | refine below_drewN ?_ _ | refine bstep (by assumption) ?_ | refine bstep (Past.prop _) ?_ | refine Below.setCell ?_ (by first | exact Nat.le_refl _ | (simp; done) | (simp; omega)) _))) ?_; intro v2 w2 own2 hb2 keep2) | (refine step_app rfl (.tmp 48) (.tmp 53) 70 rfl w6 2 i0 Try.underlying70 HI.out HZ0.out HZ1.out HZ2.out _ _ _ rfl (own1) _ [x] rfl (src_one (keep1 w6.heap.size _ _ (((Blk.made _ _ _).alloc _).drew 1) (by simp [Value.ownBlock]))) (by (try simp only [List.length_cons, List.length_nil, List.length_take]); omega) (by (repeat (first | exact Below.refl _ _ | assumption | refine balloc ?_ _ | refine below_drewN ?_ _ | refine bstep (by assumption) ?_ | refine bstep (Past.prop _) ?_ | refine Below.setCell ?_ (by first | exact Nat.le_refl _ | (simp; done) | (simp; omega)) _))) ?_; intro v2 w2 own2 hb2 keep2) | (refine step_app rfl (.tmp 48) (.tmp 53) 70 rfl w6 2 i0 Try.underlying70 HI.out HZ0.out HZ1.out HZ2.out _ _ _ rfl (own1) _ [x] rfl (src_one (keep1 (w6.heap.size + 1) _ _ ((Blk.made_at _ _ _ _ (by simp)).drew 1) (by simp [Value.ownBlock]))) (by (try simp only [List.length_cons, List.length_nil, List.length_take]); omega) (by (repeat (first | exact Below.refl _ _ | assumption | refine balloc ?_ _ | refine below_drewN ?_ _ | refine bstep (by assumption) ?_ | refine bstep (Past.prop _) ?_ | refine Below.setCell ?_ (by first | exact Nat.le_refl _ | (simp; done) | (simp; omega)) _))) ?_; intro v2 w2 own2 hb2 keep2) | (refine step_app rfl (.tmp 54) (.tmp 57) 70 rfl w6 2 i0 Try.underlying70 HI.out HZ0.out HZ1.out HZ2.out _ _ _ rfl own2 _ _ rfl (HS3.out _ _ _ (by omega) (by omega) _ (by (repeat (first | exact Below.refl _ _ | assumption | refine balloc ?_ _ | refine below_drewN ?_ _ | refine bstep (by assumption) ?_ | refine bstep (Past.prop _) ?_ | refine Below.setCell ?_ (by first | exact Nat.le_refl _ | (simp; done) | (simp; omega)) _)))) (by (try simp only [List.length_cons, List.length_nil, List.length_take, List.length_drop]); omega) (by (repeat (first | exact Below.refl _ _ | assumption | refine balloc ?_ _ | refine below_drewN ?_ _ | refine bstep (by assumption) ?_ | refine bstep (Past.prop _) ?_ | refine Below.setCell ?_ (by first | exact Nat.le_refl _ | (simp; done) | (simp; omega)) _))) ?_; intro v3 w3 own3 hb3 keep3))
                  all_goals
                    go_wp2
                    have hown3 := own_fin own3 HI3.out
                    rw [← HT.out] at hown3
                    have HO3 := hidE (own_low hown3 o2'.size); have HB3 := hidE (o2'.trans (hb3.mono o2'.size))
                    clear hown3
                    go_roundg (l.length - (k + 1))
                    case measure => omega
                    case rel => exact ⟨k + 1, v3, rfl, by omega, Nat.le_refl _, by go_num, HB3.out, HO3.out⟩
                · have hjce : ¬ co = j := fun h => hjc h.symm
                  go_wp2_with fail
                  go_region_law (first | (refine step_app rfl (.tmp 44) (.tmp 47) 70 rfl w6 2 i0 Try.underlying70 HI.out HZ0.out HZ1.out HZ2.out (.slice (some ⟨w6.heap.size, 0, none⟩) 0 0) 0 [] rfl (own_empty (p := w6.heap.size) ((Blk.made _ _ _).drew 1) (by omega)) _ _ rfl (HS1.out _ (by omega) _ (by (repeat (first | exact Below.refl _ _ | assumption | refine balloc ?_ _ | refine below_drewN ?_ _ | refine bstep (by assumption) ?_ | refine bstep (Past.prop _) ?_ | refine Below.setCell ?_ (by first | exact Nat.le_refl _ | (simp; done) | (simp; omega)) _)))) (by (try simp only [List.length_take]); omega) (by (repeat (first | exact Below.refl _ _ | assumption | refine balloc ?_ _ | refine below_drewN ?_ _ | refine bstep (by assumption) ?_ | refine bstep (Past.prop _) ?_ | refine Below.setCell ?_ (by first | exact Nat.le_refl _ | (simp; done) | (simp; omega)) _))) ?_; intro v1 w1 own1 hb1 keep1; have hcell1 := (hb1.cell (p := ⟨b, off + k, none⟩) o3).trans o4; have hsz1 := hb1.size) | (refine step_app rfl (.tmp 44) (.tmp 47) 70 rfl w6 2 i0 Try.underlying70 HI.out HZ0.out HZ1.out HZ2.out (.slice (some ⟨w6.heap.size, 0, none⟩) 0 0) 0 [] rfl (own_empty (p := w6.heap.size) (((Blk.made _ _ _).alloc _).drew 1) (by omega)) _ _ rfl (HS1.out _ (by omega) _ (by (repeat (first | exact Below.refl _ _ | assumption | refine balloc ?_ _ | refine below_drewN ?_ _ | refine bstep (by assumption) ?_ | refine bstep (Past.prop _) ?_ | refine Below.setCell ?_ (by first | exact Nat.le_refl _ | (simp; done) | (simp; omega)) _)))) (by (try simp only [List.length_take]); omega) (by (repeat (first | exact Below.refl _ _ | assumption | refine balloc ?_ _ | refine below_drewN ?_ _ | refine bstep (by assumption) ?_ | refine bstep (Past.prop _) ?_ | refine Below.setCell ?_ (by first | exact Nat.le_refl _ | (simp; done) | (simp; omega)) _))) ?_; intro v1 w1 own1 hb1 keep1; have hcell1 := (hb1.cell (p := ⟨b, off + k, none⟩) o3).trans o4; have hsz1 := hb1.size) | (refine step_app rfl (.tmp 44) (.tmp 47) 70 rfl w6 2 i0 Try.underlying70 HI.out HZ0.out HZ1.out HZ2.out (.slice (some ⟨w6.heap.size + 1, 0, none⟩) 0 0) 0 [] rfl (own_empty (p := w6.heap.size + 1) ((Blk.made_at _ _ _ _ (by simp)).drew 1) (by omega)) _ _ rfl (HS1.out _ (by omega) _ (by (repeat (first | exact Below.refl _ _ | assumption | refine balloc ?_ _ | refine below_drewN ?_ _ | refine bstep (by assumption) ?_ | refine bstep (Past.prop _) ?_ | refine Below.setCell ?_ (by first | exact Nat.le_refl _ | (simp; done) | (simp; omega)) _)))) (by (try simp only [List.length_take]); omega) (by (repeat (first | exact Below.refl _ _ | assumption | refine balloc ?_ _ | refine below_drewN ?_ _ | refine bstep (by assumption) ?_ | refine bstep (Past.prop _) ?_ | refine Below.setCell ?_ (by first | exact Nat.le_refl _ | (simp; done) | (simp; omega)) _))) ?_; intro v1 w1 own1 hb1 keep1; have hcell1 := (hb1.cell (p := ⟨b, off + k, none⟩) o3).trans o4; have hsz1 := hb1.size) | (refine step_app rfl (.tmp 48) (.tmp 53) 70 rfl w6 2 i0 Try.underlying70 HI.out HZ0.out HZ1.out HZ2.out _ _ _ rfl (own1.alloc _) _ [x] rfl (src_one (Blk.made _ _ _)) (by (try simp only [List.length_cons, List.length_nil, List.length_take]); omega) (by (repeat (first | exact Below.refl _ _ | assumption | refine balloc ?_ _ | refine below_drewN ?_ _ | refine bstep (by assumption) ?_ | refine bstep (Past.prop _) ?_ | refine Below.setCell ?_ (by first | exact Nat.le_refl _ | (simp; done) | (simp; omega)) _))) ?_; intro v2 w2 own2 hb2 keep2) | (refine step_app rfl (.tmp 48) (.tmp 53) 70 rfl w6 2 i0 Try.underlying70 HI.out HZ0.out HZ1.out HZ2.out _ _ _ rfl (own1) _ [x] rfl (src_one (keep1 w6.heap.size _ _ (((Blk.made _ _ _).alloc _).drew 1) (by simp [Value.ownBlock]))) (by (try simp only [List.length_cons, List.length_nil, List.length_take]); omega) (by (repeat (first | exact Below.refl _ _ | assumption | refine balloc ?_ _ | refine below_drewN ?_ _ | refine bstep (by assumption) ?_ | refine bstep (Past.prop _) ?_ | refine Below.setCell ?_ (by first | exact Nat.le_refl _ | (simp; done) | (simp; omega)) _))) ?_; intro v2 w2 own2 hb2 keep2) | (refine step_app rfl (.tmp 48) (.tmp 53) 70 rfl w6 2 i0 Try.underlying70 HI.out HZ0.out HZ1.out HZ2.out _ _ _ rfl (own1) _ [x] rfl (src_one (keep1 (w6.heap.size + 1) _ _ ((Blk.made_at _ _ _ _ (by simp)).drew 1) (by simp [Value.ownBlock]))) (by (try simp only [List.length_cons, List.length_nil, List.length_take]); omega) (by (repeat (first | exact Below.refl _ _ | assumption | refine balloc ?_ _ | refine below_drewN ?_ _ | refine bstep (by assumption) ?_ | refine bstep (Past.prop _) ?_ | refine Below.setCell ?_ (by first | exact Nat.le_refl _ | (simp; done) | (simp; omega)) _))) ?_; intro v2 w2 own2 hb2 keep2) | (refine step_app rfl (.tmp 54) (.tmp 57) 70 rfl w6 2 i0 Try.underlying70 HI.out HZ0.out HZ1.out HZ2.out _ _ _ rfl own2 _ _ rfl (HS3.out _ _ _ (by omega) (by omega) _ (by (repeat (first | exact Below.refl _ _ | assumption | refine balloc ?_ _ | refine below_drewN ?_ _ | refine bstep (by assumption) ?_ | refine bstep (Past.prop _) ?_ | refine Below.setCell ?_ (by first | exact Nat.le_refl _ | (simp; done) | (simp; omega)) _)))) (by (try simp only [List.length_cons, List.length_nil, List.length_take, List.length_drop]); omega) (by (repeat (first | exact Below.refl _ _ | assumption | refine balloc ?_ _ | refine below_drewN ?_ _ | refine bstep (by assumption) ?_ | refine bstep (Past.prop _) ?_ | refine Below.setCell ?_ (by first | exact Nat.le_refl _ | (simp; done) | (simp; omega)) _))) ?_; intro v3 w3 own3 hb3 keep3))
                  all_goals
                    go_wp2
                    have hown3 := own_fin own3 HI3.out
                    rw [← HT.out] at hown3
                    have HO3 := hidE (own_low hown3 o2'.size); have HB3 := hidE (o2'.trans (hb3.mono o2'.size))
                    clear hown3
                    go_roundg (l.length - (k + 1))
                    case measure => omega
                    case rel => exact ⟨k + 1, v3, rfl, by omega, Nat.le_refl _, by go_num, HB3.out, HO3.out⟩
          · have hje : j = o.length := by omega
            have HI3 := hidE (show insT x o = o.take j ++ x :: o.drop j by rw [insT_at (x := x) (o := o) (k := j) hj HJ.out (fun h => absurd h hjl), if_neg (fun q => hjl q.1)])
            have hjd : decide ((j : Int) < (o.length : Int)) = false := decide_eq_false (by omega)
            have hje1 : j ≤ o.length := by omega
            have hje2 : o.length ≤ j := by omega
            clear hje HJ
            go_wp2_with fail
            refine wp_region_past_lit (by kernel_rfl) (by kernel_rfl) ?_
            have hcp := Past.cell (W := wr)
            repeat (go_big_quiet_step (fail))
            refine wpQuiet_nil ?_
            rintro _ ⟨x', rfl⟩
            have o1 := bstep x'.2 HBR.out
            have e1 := (x'.2.cell (p := ⟨b, off + k, none⟩) hbb2).trans d1
            have hb5 := Nat.lt_of_lt_of_le hbb2 x'.2.size
            have hg5 := Nat.lt_of_lt_of_le hgl2 x'.2.size
            clear hcp d1 HBR
            generalize x'.1 = w5 at *
            go_wp2_with fail
            refine wp_region_past_lit (by kernel_rfl) (by kernel_rfl) ?_
            have hcp := Past.cell (W := w5)
            repeat (go_big_quiet_step (fail))
            refine wpQuiet_nil ?_
            rintro _ ⟨x', rfl⟩
            have o1 := bstep x'.2 o1
            have o4 := (x'.2.cell (p := ⟨b, off + k, none⟩) hb5).trans e1
            have o3 := Nat.lt_of_lt_of_le hb5 x'.2.size
            have hg6 := Nat.lt_of_lt_of_le hg5 x'.2.size
            clear hcp e1 hb5 hg5
            generalize x'.1 = w6 at *
            have o2' := HB.out.trans (o1.mono hsz)
            have HCW := hidE (fun (w' : World) (hw' : Below w6.heap.size w6 w') (i : Nat) (hi : i < o.length) => ((bstep hw' o1).cell (p := ⟨g, i, none⟩) hglt).trans (HC.out i hi))
            have HS1 := hidE (fun (n : Nat) (hn : n = j) (w' : World) (hw' : Below w6.heap.size w6 w') => src_take (cap := co) (n := n) (HCW.out w' hw') hj hn)
            have HS3 := hidE (fun (n p c : Nat) (hn : n = o.length - j) (hp : p = j ∨ j = o.length) (w' : World) (hw' : Below w6.heap.size w6 w') => src_drop (cap := c) (n := n) (p := p) (HCW.out w' hw') hj hn hp)
            clear HC HO HB d0 o1
            have hjco : j ≤ co := by omega
            have hjcz : (j : Int) ≤ (co : Int) := by omega
            by_cases hjc : j = co
            · subst hjc
              go_wp2_with fail
              go_region_law (first | (refine step_app rfl (.tmp 44) (.tmp 47) 70 rfl w6 2 i0 Try.underlying70 HI.out HZ0.out HZ1.out HZ2.out (.slice (some ⟨w6.heap.size, 0, none⟩) 0 0) 0 [] rfl (own_empty (p := w6.heap.size) ((Blk.made _ _ _).drew 1) (by omega)) _ _ rfl (HS1.out _ (by omega) _ (by (repeat (first | exact Below.refl _ _ | assumption | refine balloc ?_ _ | refine below_drewN ?_ _ | refine bstep (by assumption) ?_ | refine bstep (Past.prop _) ?_ | refine Below.setCell ?_ (by first | exact Nat.le_refl _ | (simp; done) | (simp; omega)) _)))) (by (try simp only [List.length_take]); omega) (by (repeat (first | exact Below.refl _ _ | assumption | refine balloc ?_ _ | refine below_drewN ?_ _ | refine bstep (by assumption) ?_ | refine bstep (Past.prop _) ?_ | refine Below.setCell ?_ (by first | exact Nat.le_refl _ | (simp; done) | (simp; omega)) _))) ?_; intro v1 w1 own1 hb1 keep1; have hcell1 := (hb1.cell (p := ⟨b, off + k, none⟩) o3).trans o4; have hsz1 := hb1.size) | (refine step_app rfl (.tmp 44) (.tmp 47) 70 rfl w6 2 i0 Try.underlying70 HI.out HZ0.out HZ1.out HZ2.out (.slice (some ⟨w6.heap.size, 0, none⟩) 0 0) 0 [] rfl (own_empty (p := w6.heap.size) (((Blk.made _ _ _).alloc _).drew 1) (by omega)) _ _ rfl (HS1.out _ (by omega) _ (by (repeat (first | exact Below.refl _ _ | assumption | refine balloc ?_ _ | refine below_drewN ?_ _ | refine bstep (by assumption) ?_ | refine bstep (Past.prop _) ?_ | refine Below.setCell ?_ (by first | exact Nat.le_refl _ | (simp; done) | (simp; omega)) _)))) (by (try simp only [List.length_take]); omega) (by (repeat (first | exact Below.refl _ _ | assumption | refine balloc ?_ _ | refine below_drewN ?_ _ | refine bstep (by assumption) ?_ | refine bstep (Past.prop _) ?_ | refine Below.setCell ?_ (by first | exact Nat.le_refl _ | (simp; done) | (simp; omega)) _))) ?_; intro v1 w1 own1 hb1 keep1; have hcell1 := (hb1.cell (p := ⟨b, off + k, none⟩) o3).trans o4; have hsz1 := hb1.size) | (refine step_app rfl (.tmp 44) (.tmp 47) 70 rfl w6 2 i0 Try.underlying70 HI.out HZ0.out HZ1.out HZ2.out (.slice (some ⟨w6.heap.size + 1, 0, none⟩) 0 0) 0 [] rfl (own_empty (p := w6.heap.size + 1) ((Blk.made_at _ _ _ _ (by simp)).drew 1) (by omega)) _ _ rfl (HS1.out _ (by omega) _ (by (repeat (first | exact Below.refl _ _ | assumption | refine balloc ?_ _ | refine below_drewN ?_ _ | refine bstep (by assumption) ?_ | refine bstep (Past.prop _) ?_ | refine Below.setCell ?_ (by first | exact Nat.le_refl _ | (simp; done) | (simp; omega)) _)))) (by (try simp only [List.length_take]); omega) (by (repeat (first | exact Below.refl _ _ | assumption | refine balloc ?_ _ | refine below_drewN ?_ _ | refine bstep (by assumption) ?_ | refine bstep (Past.prop _) ?_ | refine Below.setCell ?_ (by first | exact Nat.le_refl _ | (simp; done) | (simp; omega)) _))) ?_; intro v1 w1 own1 hb1 keep1; have hcell1 := (hb1.cell (p := ⟨b, off + k, none⟩) o3).trans o4; have hsz1 := hb1.size) | (refine step_app rfl (.tmp 48) (.tmp 53) 70 rfl w6 2 i0 Try.underlying70 HI.out HZ0.out HZ1.out HZ2.out _ _ _ rfl (own1.alloc _) _ [x] rfl (src_one (Blk.made _ _ _)) (by (try simp only [List.length_cons, List.length_nil, List.length_take]); omega) (by (repeat (first | exact Below.refl _ _ | assumption | refine balloc ?_ _ | refine below_drewN ?_ _ | refine bstep (by assumption) ?_ | refine bstep (Past.prop _) ?_ | refine Below.setCell ?_ (by first | exact Nat.le_refl _ | (simp; done) | (simp; omega)) _))) ?_; intro v2 w2 own2 hb2 keep2) | (refine step_app rfl (.tmp 48) (.tmp 53) 70 rfl w6 2 i0 Try.underlying70 HI.out HZ0.out HZ1.out HZ2.out _ _ _ rfl (own1) _ [x] rfl (src_one (keep1 w6.heap.size _ _ (((Blk.made _ _ _).alloc _).drew 1) (by simp [Value.ownBlock]))) (by (try simp only [List.length_cons, List.length_nil, List.length_take]); omega) (by (repeat (first | exact Below.refl _ _ | assumption | refine balloc ?_ _ | refine below_drewN ?_ _ | refine bstep (by assumption) ?_ | refine bstep (Past.prop _) ?_ | refine Below.setCell ?_ (by first | exact Nat.le_refl _ | (simp; done) | (simp; omega)) _))) ?_; intro v2 w2 own2 hb2 keep2) | (refine step_app rfl (.tmp 48) (.tmp 53) 70 rfl w6 2 i0 Try.underlying70 HI.out HZ0.out HZ1.out HZ2.out _ _ _ rfl (own1) _ [x] rfl (src_one (keep1 (w6.heap.size + 1) _ _ ((Blk.made_at _ _ _ _ (by simp)).drew 1) (by simp [Value.ownBlock]))) (by (try simp only [List.length_cons, List.length_nil, List.length_take]); omega) (by (repeat (first | exact Below.refl _ _ | assumption | refine balloc ?_ _ | refine below_drewN ?_ _ | refine bstep (by assumption) ?_ | refine bstep (Past.prop _) ?_ | refine Below.setCell ?_ (by first | exact Nat.le_refl _ | (simp; done) | (simp; omega)) _))) ?_; intro v2 w2 own2 hb2 keep2) | (refine step_app rfl (.tmp 54) (.tmp 57) 70 rfl w6 2 i0 Try.underlying70 HI.out HZ0.out HZ1.out HZ2.out _ _ _ rfl own2 _ _ rfl (HS3.out _ _ _ (by omega) (by omega) _ (by (repeat (first | exact Below.refl _ _ | assumption | refine balloc ?_ _ | refine below_drewN ?_ _ | refine bstep (by assumption) ?_ | refine bstep (Past.prop _) ?_ | refine Below.setCell ?_ (by first | exact Nat.le_refl _ | (simp; done) | (simp; omega)) _)))) (by (try simp only [List.length_cons, List.length_nil, List.length_take, List.length_drop]); omega) (by (repeat (first | exact Below.refl _ _ | assumption | refine balloc ?_ _ | refine below_drewN ?_ _ | refine bstep (by assumption) ?_ | refine bstep (Past.prop _) ?_ | refine Below.setCell ?_ (by first | exact Nat.le_refl _ | (simp; done) | (simp; omega)) _))) ?_; intro v3 w3 own3 hb3 keep3))
              all_goals
                go_wp2
                have hown3 := own_fin own3 HI3.out
                rw [← HT.out] at hown3
                have HO3 := hidE (own_low hown3 o2'.size); have HB3 := hidE (o2'.trans (hb3.mono o2'.size))
                clear hown3
                go_roundg (l.length - (k + 1))
                case measure => omega
                case rel => exact ⟨k + 1, v3, rfl, by omega, Nat.le_refl _, by go_num, HB3.out, HO3.out⟩
            · have hjce : ¬ co = j := fun h => hjc h.symm
              go_wp2_with fail
              go_region_law (first | (refine step_app rfl (.tmp 44) (.tmp 47) 70 rfl w6 2 i0 Try.underlying70 HI.out HZ0.out HZ1.out HZ2.out (.slice (some ⟨w6.heap.size, 0, none⟩) 0 0) 0 [] rfl (own_empty (p := w6.heap.size) ((Blk.made _ _ _).drew 1) (by omega)) _ _ rfl (HS1.out _ (by omega) _ (by (repeat (first | exact Below.refl _ _ | assumption | refine balloc ?_ _ | refine below_drewN ?_ _ | refine bstep (by assumption) ?_ | refine bstep (Past.prop _) ?_ | refine Below.setCell ?_ (by first | exact Nat.le_refl _ | (simp; done) | (simp; omega)) _)))) (by (try simp only [List.length_take]); omega) (by (repeat (first | exact Below.refl _ _ | assumption | refine balloc ?_ _ | refine below_drewN ?_ _ | refine bstep (by assumption) ?_ | refine bstep (Past.prop _) ?_ | refine Below.setCell ?_ (by first | exact Nat.le_refl _ | (simp; done) | (simp; omega)) _))) ?_; intro v1 w1 own1 hb1 keep1; have hcell1 := (hb1.cell (p := ⟨b, off + k, none⟩) o3).trans o4; have hsz1 := hb1.size) | (refine step_app rfl (.tmp 44) (.tmp 47) 70 rfl w6 2 i0 Try.underlying70 HI.out HZ0.out HZ1.out HZ2.out (.slice (some ⟨w6.heap.size, 0, none⟩) 0 0) 0 [] rfl (own_empty (p := w6.heap.size) (((Blk.made _ _ _).alloc _).drew 1) (by omega)) _ _ rfl (HS1.out _ (by omega) _ (by (repeat (first | exact Below.refl _ _ | assumption | refine balloc ?_ _ | refine below_drewN ?_ _ | refine bstep (by assumption) ?_ | refine bstep (Past.prop _) ?_ | refine Below.setCell ?_ (by first | exact Nat.le_refl _ | (simp; done) | (simp; omega)) _)))) (by (try simp only [List.length_take]); omega) (by (repeat (first | exact Below.refl _ _ | assumption | refine balloc ?_ _ | refine below_drewN ?_ _ | refine bstep (by assumption) ?_ | refine bstep (Past.prop _) ?_ | refine Below.setCell ?_ (by first | exact Nat.le_refl _ | (simp; done) | (simp; omega)) _))) ?_; intro v1 w1 own1 hb1 keep1; have hcell1 := (hb1.cell (p := ⟨b, off + k, none⟩) o3).trans o4; have hsz1 := hb1.size) | (refine step_app rfl (.tmp 44) (.tmp 47) 70 rfl w6 2 i0 Try.underlying70 HI.out HZ0.out HZ1.out HZ2.out (.slice (some ⟨w6.heap.size + 1, 0, none⟩) 0 0) 0 [] rfl (own_empty (p := w6.heap.size + 1) ((Blk.made_at _ _ _ _ (by simp)).drew 1) (by omega)) _ _ rfl (HS1.out _ (by omega) _ (by (repeat (first | exact Below.refl _ _ | assumption | refine balloc ?_ _ | refine below_drewN ?_ _ | refine bstep (by assumption) ?_ | refine bstep (Past.prop _) ?_ | refine Below.setCell ?_ (by first | exact Nat.le_refl _ | (simp; done) | (simp; omega)) _)))) (by (try simp only [List.length_take]); omega) (by (repeat (first | exact Below.refl _ _ | assumption | refine balloc ?_ _ | refine below_drewN ?_ _ | refine bstep (by assumption) ?_ | refine bstep (Past.prop _) ?_ | refine Below.setCell ?_ (by first | exact Nat.le_refl _ | (simp; done) | (simp; omega)) _))) ?_; intro v1 w1 own1 hb1 keep1; have hcell1 := (hb1.cell (p := ⟨b, off + k, none⟩) o3).trans o4; have hsz1 := hb1.size) | (refine step_app rfl (.tmp 48) (.tmp 53) 70 rfl w6 2 i0 Try.underlying70 HI.out HZ0.out HZ1.out HZ2.out _ _ _ rfl (own1.alloc _) _ [x] rfl (src_one (Blk.made _ _ _)) (by (try simp only [List.length_cons, List.length_nil, List.length_take]); omega) (by (repeat (first | exact Below.refl _ _ | assumption | refine balloc ?_ _ | refine below_drewN ?_ _ | refine bstep (by assumption) ?_ | refine bstep (Past.prop _) ?_ | refine Below.setCell ?_ (by first | exact Nat.le_refl _ | (simp; done) | (simp; omega)) _))) ?_; intro v2 w2 own2 hb2 keep2) | (refine step_app rfl (.tmp 48) (.tmp 53) 70 rfl w6 2 i0 Try.underlying70 HI.out HZ0.out HZ1.out HZ2.out _ _ _ rfl (own1) _ [x] rfl (src_one (keep1 w6.heap.size _ _ (((Blk.made _ _ _).alloc _).drew 1) (by simp [Value.ownBlock]))) (by (try simp only [List.length_cons, List.length_nil, List.length_take]); omega) (by (repeat (first | exact Below.refl _ _ | assumption | refine balloc ?_ _ | refine below_drewN ?_ _ | refine bstep (by assumption) ?_ | refine bstep (Past.prop _) ?_ | refine Below.setCell ?_ (by first | exact Nat.le_refl _ | (simp; done) | (simp; omega)) _))) ?_; intro v2 w2 own2 hb2 keep2) | (refine step_app rfl (.tmp 48) (.tmp 53) 70 rfl w6 2 i0 Try.underlying70 HI.out HZ0.out HZ1.out HZ2.out _ _ _ rfl (own1) _ [x] rfl (src_one (keep1 (w6.heap.size + 1) _ _ ((Blk.made_at _ _ _ _ (by simp)).drew 1) (by simp [Value.ownBlock]))) (by (try simp only [List.length_cons, List.length_nil, List.length_take]); omega) (by (repeat (first | exact Below.refl _ _ | assumption | refine balloc ?_ _ | refine below_drewN ?_ _ | refine bstep (by assumption) ?_ | refine bstep (Past.prop _) ?_ | refine Below.setCell ?_ (by first | exact Nat.le_refl _ | (simp; done) | (simp; omega)) _))) ?_; intro v2 w2 own2 hb2 keep2) | (refine step_app rfl (.tmp 54) (.tmp 57) 70 rfl w6 2 i0 Try.underlying70 HI.out HZ0.out HZ1.out HZ2.out _ _ _ rfl own2 _ _ rfl (HS3.out _ _ _ (by omega) (by omega) _ (by (repeat (first | exact Below.refl _ _ | assumption | refine balloc ?_ _ | refine below_drewN ?_ _ | refine bstep (by assumption) ?_ | refine bstep (Past.prop _) ?_ | refine Below.setCell ?_ (by first | exact Nat.le_refl _ | (simp; done) | (simp; omega)) _)))) (by (try simp only [List.length_cons, List.length_nil, List.length_take, List.length_drop]); omega) (by (repeat (first | exact Below.refl _ _ | assumption | refine balloc ?_ _ | refine below_drewN ?_ _ | refine bstep (by assumption) ?_ | refine bstep (Past.prop _) ?_ | refine Below.setCell ?_ (by first | exact Nat.le_refl _ | (simp; done) | (simp; omega)) _))) ?_; intro v3 w3 own3 hb3 keep3))
              all_goals
                go_wp2
                have hown3 := own_fin own3 HI3.out
                rw [← HT.out] at hown3
                have HO3 := hidE (own_low hown3 o2'.size); have HB3 := hidE (o2'.trans (hb3.mono o2'.size))
                clear hown3
                go_roundg (l.length - (k + 1))
                case measure => omega
                case rel => exact ⟨k + 1, v3, rfl, by omega, Nat.le_refl _, by go_num, HB3.out, HO3.out⟩
    · have hk' : k = l.length := by omega
      subst hk'
      have ho := HO.out
      rw [List.take_length] at ho
      have HO2 := hidE ho; clear ho HO
      go_wp2
      go_ret
      exact ⟨_, rfl, HO2.out, HB.out⟩
end Go.Proofs.Ythgenmejjflceaa

namespace Go.Proofs.Ythgenmejjflceaa
open Go.ChangeShapes Go.WideShapes Go.ChangeAt Go.RowKit
attribute [local irreducible] Go.Calls

/-- A row of numbers made by calls: a slice to append from. -/
theorem src_own {w : World} {B : Nat} {e : TypeId} {v : Value} {l : List Int} (h : w.ownsRow B e 1 v l.length (cellsI l)) : SrcI w v l := by
  obtain ⟨h1, h2 | ⟨g, cap, cur, rfl, h3, h4, h5, h6, h7, h8⟩⟩ := h
  · obtain ⟨rfl, h2⟩ := h2
    have : l = [] := List.eq_nil_of_length_eq_zero h2
    subst this
    exact src_nil w
  · refine ⟨some ⟨g, 0, none⟩, cap, rfl, (fun h => by cases h), fun ad had j u hj => ?_⟩
    cases had
    have hjl : j < l.length := by
      have := (List.getElem?_eq_some_iff.1 hj).1
      simpa [cellsI] using this
    have e2 : w.cell? ⟨g, j, none⟩ = cur[j]? := by simp [World.cell?, h4]
    have e3 : ((⟨g, 0, none⟩ : Addr).add j) = ⟨g, j, none⟩ := by
      unfold Addr.add
      by_cases c : j = 0
      · subst c; simp
      · simp [c]
    rw [e3, e2, ← Array.getElem?_toList]
    rw [← h8, List.getElem?_take, if_pos (by omega)] at hj
    exact hj
theorem wpList_append_src {P : Program} {ops : Array Oper} {rest : List Oper} {o : Oper} {a : Act} {w : World} {Q : Exit → Act → World → Prop} (hgd : o.guard = none) (s x : Operand) (t : TypeId)
    (hop : o.op = .call { callee := .builtin .append, args := #[s, x], argTypes := #[t, t] })
    (base : Nat) (e : TypeId) (i : TypeInfo) (ht : P.underlying t = some (.slice e)) (hi : P.info? e = some i) (hz : i.zero = some (.int .i64 0)) (hsize : i.size = 1) (hby : i.bytes = 8)
    (v : Value) (n : Nat) (xs : List Value) (hs : a.eval s = v) (hown : w.ownsRow base e 1 v n xs)
    (vx : Value) (news : List Int) (hx : a.eval x = vx) (hsrc : SrcI w vx news)
    (h63 : n + news.length ≤ 1099511627776) (hbase : base ≤ w.heap.size)
    (h : ∀ v' w', w'.ownsRow base e 1 v' (n + news.length) (xs ++ cellsI news) → w.grownBy w' v.ownBlock → wpList P ops Q rest (a.put o.dst v') w') : wpList P ops Q (o :: rest) a w := by
  obtain ⟨ad, cap, rfl, hn, hc⟩ := hsrc
  cases ad with
  | none =>
    obtain ⟨rfl, rfl⟩ := hn rfl
    exact wpList_append_own_none hgd s x t hop base e i 1 ht hi v n xs hs hown hx (h v w (by simpa [cellsI] using hown) ⟨rfl, rfl, rfl, Nat.le_refl _, fun _ _ _ => rfl⟩)
  | some ad =>
    exact wpList_append_own w hgd s x t hop base e i (.int .i64 0) 1 8 ht hi hz hsize hby rfl (by decide) v n xs hs hown ad news.length cap (cellsI news) hx (by simp [cellsI]) (hc ad rfl) (cellsI_one news) (by unfold maxLen; omega) (by omega) hbase fun v' w' h1 h2 _ => h v' w' h1 h2
theorem own_two {w : World} {p base : Nat} {e : TypeId} {x y : Int} (hB : Blk w p #[.int .i64 x, .int .i64 y] e) (hp : base ≤ p) : w.ownsRow base e 1 (.slice (some ⟨p, 0, none⟩) 2 2) 2 (cellsI [x, y]) :=
  ⟨rfl, .inr ⟨p, 2, #[.int .i64 x, .int .i64 y], rfl, hp, hB, Nat.le_refl _, by unfold maxLen; omega, rfl, rfl⟩⟩
end Go.Proofs.Ythgenmejjflceaa

namespace Go.Proofs.Ythgenmejjflceaa
open Go.ChangeShapes Go.WideShapes Go.ChangeAt Go.RowKit
attribute [local irreducible] Go.Calls

theorem buildL_step {g : Int → Int × Int} {ts : List Int} {k : Nat} (h : k < ts.length) : buildL g (ts.take (k + 1)) = withL (buildL g (ts.take k)) (ts.getD k 0) (g (ts.getD k 0)) := by
  rw [List.take_succ_eq_append_getElem h, buildL_snoc, getD_get _ _ _ h]
theorem withL_len (f : List Sg) (t : Int) (v : Int × Int) : (withL f t v).length ≤ f.length + 1 := by unfold withL; split <;> simp
theorem buildL_len (g : Int → Int × Int) (ts : List Int) : ∀ k, k ≤ ts.length → (buildL g (ts.take k)).length ≤ k
  | 0, _ => by simp [buildL]
  | k + 1, h => by
    rw [buildL_step (by omega)]
    have := withL_len (buildL g (ts.take k)) (ts.getD k 0) (g (ts.getD k 0))
    have := buildL_len g ts k (by omega)
    omega

set_option maxRecDepth 100000 in
set_option maxHeartbeats 4000000 in
theorem rof_c (l : List Sg) (a : Option Addr) (cap : Nat) (w : World) (hl : l.length ≤ 1000000000) (hA : ArgS w a l) :
    Calls Try.prog 44 #[.slice a l.length cap] w (OfPost w l) := by
  have HA := hidE hA; clear hA
  go_enter Try.func44, Try.ntmps44
  go_wp2
  go_loopg [4] l.length (fun g vi wr => ∃ k : Nat, k ≤ l.length ∧ l.length - k ≤ g ∧ vi = .int .i64 k ∧ (∀ i, i < k → okS (l.getD i (0, 0, 0)) = true) ∧ Below w.heap.size w wr)
  case atStart => exact ⟨0, Nat.zero_le _, by omega, rfl, fun i hi => by omega, Below.refl _ _⟩
  case round =>
    obtain ⟨k, hk, hg, rfl, hs, hb⟩ := hrel
    have HS := hidE hs; have HB := hidE hb; clear hs hb
    by_cases hlt : k < l.length
    · obtain ⟨b, off, rfl, hb, hc⟩ := (HA.out.past HB.out) (by omega)
      obtain ⟨c0, c1, c2⟩ := hc.get hlt
      clear hc
      cases hok : okS (l.getD k (0, 0, 0))
      · have HX := hidE (all_bad hlt hok)
        have HV := hidE (fun w => rin_c (l.getD k (0, 0, 0)) w)
        rw [hok] at HV
        change Hid (∀ w, Calls _ _ #[S (ats l k) (vls l k).1 (vls l k).2] _ _) at HV
        generalize ats l k = u at *
        generalize vls l k = v at *
        go_wp2_with (go_at_call 45; ((with_reducible refine (HV.out _).mono ?_); rintro e w1 ⟨rfl, hb1⟩))
        go_ret2
        exact ⟨_, [], 10, rfl, sliS_nil _, .inr ⟨HX.out, rfl, rfl⟩, by have := HB.out; (repeat (first | exact Below.refl _ _ | assumption | refine balloc ?_ _ | refine below_drewN ?_ _ | refine bstep (by assumption) ?_ | refine bstep (Past.prop _) ?_ | refine Below.setCell ?_ (by first | exact Nat.le_refl _ | (simp; done) | (simp; omega)) _))⟩
      · have HX := hidE (show ∀ i, i < k + 1 → okS (l.getD i (0, 0, 0)) = true from fun i hi => by
          by_cases e : i = k
          · rw [e]; exact hok
          · exact HS.out i (by omega))
        have HV := hidE (fun w => rin_c (l.getD k (0, 0, 0)) w)
        rw [hok] at HV
        change Hid (∀ w, Calls _ _ #[S (ats l k) (vls l k).1 (vls l k).2] _ _) at HV
        generalize ats l k = u at *
        generalize vls l k = v at *
        go_wp2_with (go_at_call 45; ((with_reducible refine (HV.out _).mono ?_); rintro e w1 ⟨rfl, hb1⟩))
        go_roundg (l.length - (k + 1))
        case measure => omega
        case rel => exact ⟨k + 1, by omega, Nat.le_refl _, by go_num, HX.out, by have := HB.out; (repeat (first | exact Below.refl _ _ | assumption | refine balloc ?_ _ | refine below_drewN ?_ _ | refine bstep (by assumption) ?_ | refine bstep (Past.prop _) ?_ | refine Below.setCell ?_ (by first | exact Nat.le_refl _ | (simp; done) | (simp; omega)) _))⟩
    · have hk' : k = l.length := by omega
      subst hk'
      have HX := hidE (all_good HS.out)
      clear HS
      go_wp2_with fail
      ((with_reducible refine (rwhen_c l a cap _ (by omega) (HA.out.past HB.out)).mono ?_); rintro e w1 ⟨v1, rfl, ho1, hb1⟩)
      have hb1' := bstep hb1 HB.out
      have ho1' : w1.ownsRow wr.heap.size 2 1 v1 (l.map (·.1)).length (cellsI (l.map (·.1))) := by rw [List.length_map]; exact ho1
      obtain ⟨a1, c1, rfl, _, _, hA1⟩ := sliI_own ho1'
      have HB1 := hidE hb1'; have HA1 := hidE hA1
      clear ho1 ho1' hb1 hb1' HB hA1
      have hrt := rtimes_c (l.map (·.1)) a1 c1 w1 (by rw [List.length_map]; exact hl) HA1.out
      rw [List.length_map] at hrt
      have HRT := hidE hrt; clear hrt
      go_wp2_with fail
      ((with_reducible refine (HRT.out).mono ?_); rintro e w2 ⟨v2, rfl, ho2, hb2⟩)
      have hb2' := bstep hb2 HB1.out
      obtain ⟨a2, c2, rfl, _, _, hA2⟩ := sliI_own ho2
      have hts := timesL_len (l.map (·.1))
      rw [List.length_map] at hts
      have HI := hidE (isOf_build (l := l) (fun x hx => List.all_eq_true.1 HX.out x hx))
      have HB2 := hidE hb2'; have HA2 := hidE hA2
      clear ho2 hb2 hb2' HA1 HB1 hA2
      generalize timesL (l.map (·.1)) = ts at *
      go_wp2_with fail
      go_loopg [6, 7] ts.length (fun g vf vi wr2 => ∃ (k : Nat) (v : Value), v = vf ∧ vi = .int .i64 k ∧ k ≤ ts.length ∧ ts.length - k ≤ g ∧ Below w2.heap.size w2 wr2 ∧ wr2.ownsRow w2.heap.size 54 3 v (buildL (rawAt l) (ts.take k)).length (cellsOfS (buildL (rawAt l) (ts.take k))))
      case atStart => exact ⟨0, .slice none 0 0, rfl, rfl, by omega, by omega, Below.refl _ _, ⟨rfl, .inl ⟨rfl, rfl⟩⟩⟩
      case round =>
        obtain ⟨k, v, rfl, rfl, hk, hg, hbr, ho⟩ := hrel
        have HBR := hidE hbr; have HO := hidE ho
        clear ho
        by_cases hlt : k < ts.length
        · obtain ⟨b, off, rfl, hb, hc⟩ := (HA2.out.past hbr) (by omega)
          have d0 := hc k hlt
          have HST := hidE (buildL_step (g := rawAt l) hlt)
          have hfl := buildL_len (rawAt l) ts k hk
          have HAL : ArgS wr a l := (HA.out.past HB2.out).past hbr
          have HALL := hidE HAL
          have HRW := hidE (fun w hA => rraw_c l a cap (ts.getD k 0) w (by omega) hA)
          clear hc hbr HAL
          generalize buildL (rawAt l) (ts.take k) = f at *
          generalize rawAt l (ts.getD k 0) = y at *
          generalize ts.getD k 0 = t at *
          have HWI := hidE (fun (w : World) (hB : w2.heap.size ≤ w.heap.size) (ho : w.ownsRow w2.heap.size 54 3 v f.length (cellsOfS f)) => rwith_c f v w2.heap.size t y.1 y.2 w hB (by omega) ho)
          have hwr : w2.heap.size ≤ wr.heap.size := HBR.out.size
          obtain ⟨wo, rfl⟩ : ∃ wo : World, wo = wr := ⟨_, rfl⟩
          go_wp2_with fail
          refine wp_region_J 11 [] (nthR [detR v, detR (.slice (some ⟨b, off, none⟩) ts.length c2), detR (.int .i64 k), detR (.pointer (some ⟨b, off + k, none⟩)), detR (.int .i64 t), detR (.slice a l.length cap), detR (.slice (some ⟨b, off, none⟩) ts.length c2), detR (.int .i64 k), detR (.pointer (some ⟨b, off + k, none⟩)), detR (.int .i64 t), detR (V y.1 y.2)]) (fun _ => false) (by kernel_rfl) (by simp) (by kernel_rfl) (stab_nth (by simp [stab_det])) ?_ ?_ ?_
          · intro i o hi ho
            match i, hi with
            | 0, _ =>
              obtain rfl := Option.some.inj ho
              intro u x hd
              have hc := Past.cell x
              simp [go_sem, gives, frm, Act.put, nthR, detR, Region.wanted, Below.refl]
            | 1, _ =>
              obtain rfl := Option.some.inj ho
              intro u x hd
              have hc := Past.cell x
              simp [go_sem, gives, frm, Act.put, nthR, detR, Region.wanted, Below.refl]
            | 2, _ =>
              obtain rfl := Option.some.inj ho
              intro u x hd
              have hc := Past.cell x
              simp [go_sem, gives, frm, Act.put, nthR, detR, Region.wanted, Below.refl]
            | 3, _ =>
              obtain rfl := Option.some.inj ho
              intro u x hd
              have hc := Past.cell x
              have d1 := hd 1 (by decide) (by kernel_rfl)
              have d2 := hd 2 (by decide) (by kernel_rfl)
              simp only [nthR, detR, List.getD_cons_zero, List.getD_cons_succ] at d1 d2
              simp [go_sem, gives, frm, Act.put, nthR, detR, Region.wanted, Below.refl, d1, d2, hlt]
            | 4, _ =>
              obtain rfl := Option.some.inj ho
              intro u x hd
              have hc := Past.cell x
              have d3 := hd 3 (by decide) (by kernel_rfl)
              simp only [nthR, detR, List.getD_cons_zero, List.getD_cons_succ] at d3
              simp [go_sem, gives, frm, Act.put, nthR, detR, Region.wanted, Below.refl, hc, d3, d0, hb]
            | 5, _ =>
              obtain rfl := Option.some.inj ho
              intro u x hd
              have hc := Past.cell x
              simp [go_sem, gives, frm, Act.put, nthR, detR, Region.wanted, Below.refl]
            | 6, _ =>
              obtain rfl := Option.some.inj ho
              intro u x hd
              have hc := Past.cell x
              simp [go_sem, gives, frm, Act.put, nthR, detR, Region.wanted, Below.refl]
            | 7, _ =>
              obtain rfl := Option.some.inj ho
              intro u x hd
              have hc := Past.cell x
              simp [go_sem, gives, frm, Act.put, nthR, detR, Region.wanted, Below.refl]
            | 8, _ =>
              obtain rfl := Option.some.inj ho
              intro u x hd
              have hc := Past.cell x
              have d6 := hd 6 (by decide) (by kernel_rfl)
              have d7 := hd 7 (by decide) (by kernel_rfl)
              simp only [nthR, detR, List.getD_cons_zero, List.getD_cons_succ] at d6 d7
              simp [go_sem, gives, frm, Act.put, nthR, detR, Region.wanted, Below.refl, d6, d7, hlt]
            | 9, _ =>
              obtain rfl := Option.some.inj ho
              intro u x hd
              have hc := Past.cell x
              have d8 := hd 8 (by decide) (by kernel_rfl)
              simp only [nthR, detR, List.getD_cons_zero, List.getD_cons_succ] at d8
              simp [go_sem, gives, frm, Act.put, nthR, detR, Region.wanted, Below.refl, hc, d8, d0, hb]
            | 10, _ =>
              obtain rfl := Option.some.inj ho
              intro u x hd
              have hc := Past.cell x
              have d5 := hd 5 (by decide) (by kernel_rfl)
              have d9 := hd 9 (by decide) (by kernel_rfl)
              simp only [nthR, detR, List.getD_cons_zero, List.getD_cons_succ] at d5 d9
              simp [go_sem, gives, frm, Act.put, nthR, detR, Region.wanted, d5, d9]
              exact HRW.out _ (HALL.out.past x.2)
            | i + 11, h => exact absurd h (by omega)
          · intro i o h; cases h
          · intro u x hu hne
            have d0 := hu 0 (by decide); have d4 := hu 4 (by decide); have d10 := hu 10 (by decide)
            simp only [nthR, detR, List.getD_cons_zero, List.getD_cons_succ] at d0 d4 d10
            have hx := x.2
            have HXX := hidE hx
            clear hx hu hne
            simp only [frm, List.take, Act.put, d0, d4, d10]
            clear d0 d4 d10
            generalize x.1 = w5 at *
            go_wp2_with (go_at_call 43; ((with_reducible refine (HWI.out _ (Nat.le_trans hwr HXX.out.size) (own_below HO.out HXX.out)).mono ?_); rintro e w6 ⟨v', rfl, ho6, hg6⟩))
            have hb6 : Below w2.heap.size w2 w6 := (HBR.out.trans (HXX.out.mono hwr)).grown hg6 (Nat.le_trans hwr HXX.out.size) (fun k hk => own_block HO.out hk)
            have hlen := withL_len f t y
            rw [← HST.out] at ho6
            have HB6 := hidE hb6; have HO6 := hidE ho6
            clear hb6 ho6 hg6
            go_wp2
            go_roundg (ts.length - (k + 1))
            case measure => omega
            case rel => exact ⟨k + 1, v', rfl, by go_num, by omega, Nat.le_refl _, HB6.out, HO6.out⟩
        · have hk' : k = ts.length := by omega
          subst hk'
          have ho := HO.out
          rw [List.take_length] at ho
          have HO2 := hidE ho; clear ho HO
          go_wp2
          go_ret2
          exact ⟨_, _, 0, rfl, sliS_own HO2.out, .inl ⟨HX.out, rfl, HI.out⟩, HB2.out.trans (HBR.out.mono HB2.out.size)⟩
theorem rof_ok {l F : List Sg} {a : Option Addr} {cap : Nat} {w : World} (hl : l.length ≤ 1000000000) (hA : ArgS w a l) (ho : l.all okS = true) (hF : IsOf l F) :
    Calls Try.prog 44 #[.slice a l.length cap] w (OfIs w F 0) :=
  (rof_c l a cap w hl hA).mono fun e w' ⟨v, f, er, h1, h2, h3, h4⟩ => by
    rcases h3 with ⟨_, rfl, h5⟩ | ⟨h5, _⟩
    · exact ⟨v, h1, by rw [hF.unique h5]; exact h2, h4⟩
    · rw [ho] at h5; cases h5
theorem rof_bad {l : List Sg} {a : Option Addr} {cap : Nat} {w : World} (hl : l.length ≤ 1000000000) (hA : ArgS w a l) (ho : l.all okS = false) :
    Calls Try.prog 44 #[.slice a l.length cap] w (OfIs w [] 10) :=
  (rof_c l a cap w hl hA).mono fun e w' ⟨v, f, er, h1, h2, h3, h4⟩ => by
    rcases h3 with ⟨h5, _⟩ | ⟨_, rfl, rfl⟩
    · rw [ho] at h5; cases h5
    · exact ⟨v, h1, h2, h4⟩
end Go.Proofs.Ythgenmejjflceaa

namespace Go.Proofs.Ythgenmejjflceaa
open Go.ChangeShapes Go.WideShapes Go.ChangeAt Go.RowKit
attribute [local irreducible] Go.Calls

set_option maxHeartbeats 1000000 in
theorem rat_c (l : List Sg) (a : Option Addr) (cap : Nat) (t : Int) (w : World) (hl : l.length ≤ 9223372036854775807) (hA : ArgS w a l) :
    Calls Try.prog 22 #[.slice a l.length cap, .int .i64 t] w fun e w' => e = .returned (V (vat l t).1 (vat l t).2) ∧ Below w.heap.size w w' := by
  have HA := hidE hA; clear hA
  go_enter Try.func22, Try.ntmps22
  go_wp2
  go_loopg [6] l.length (fun g vi wr => ∃ k : Nat, k ≤ l.length ∧ l.length - k ≤ g ∧ vi = .int .i64 k ∧ Below w.heap.size w wr ∧ Blk wr (w.heap.size + 1) #[.int .i64 (vat (l.take k) t).1, .int .i64 (vat (l.take k) t).2] 26 ∧ Blk wr w.heap.size #[.int .i64 0, .int .i64 0] 26)
  case atStart => exact ⟨0, Nat.zero_le _, by omega, rfl, by (repeat (first | exact Below.refl _ _ | assumption | refine balloc ?_ _ | refine below_drewN ?_ _ | refine bstep (by assumption) ?_ | refine bstep (Past.prop _) ?_ | refine Below.setCell ?_ (by first | exact Nat.le_refl _ | (simp; done) | (simp; omega)) _)), Blk.made_at _ _ _ _ (by simp), (Blk.made _ _ _).alloc _⟩
  case round =>
    obtain ⟨k, hk, hg, rfl, hb, h1, h0⟩ := hrel
    have c10 := h1.cell 0; have c11 := h1.cell 1; have f1 := h1.free; have c00 := h0.cell 0; have c01 := h0.cell 1; have f0 := h0.free; have z1 := h1.lt; have z0 := h0.lt
    simp at c10 c11 c00 c01
    by_cases hlt : k < l.length
    · have HST := hidE (vat_step (t := t) hlt)
      obtain ⟨b, off, rfl, hbb, hc⟩ := (HA.out.past hb) (by omega)
      have hbw : b < w.heap.size := by
        obtain ⟨b', off', e, hb', _⟩ := HA.out (by omega)
        simp at e; omega
      obtain ⟨d0, d1, d2⟩ := hc.get hlt
      clear hc
      by_cases hq : ats l k ≤ t
      · have HS := hidE (show vat (l.take (k + 1)) t = vls l k by rw [HST.out, if_pos hq])
        have d3 : decide (ats l k ≤ t) = true := decide_eq_true hq
        have hn1 : b ≠ w.heap.size := by omega
        have hn2 : b ≠ w.heap.size + 1 := by omega
        clear HST c00 c01
        generalize ats l k = u at *
        generalize vls l k = v at *
        generalize vat (l.take k) t = q at *
        go_wp2
        go_roundg (l.length - (k + 1))
        case measure => omega
        case rel => exact ⟨k + 1, by omega, Nat.le_refl _, by go_num, by (repeat (first | exact Below.refl _ _ | assumption | refine balloc ?_ _ | refine below_drewN ?_ _ | refine bstep (by assumption) ?_ | refine bstep (Past.prop _) ?_ | refine Below.setCell ?_ (by first | exact Nat.le_refl _ | (simp; done) | (simp; omega)) _)), by rw [HS.out]; exact (h1.set 0 _).set 1 _, (h0.other (by omega) _).other (by omega) _⟩
      · have HS := hidE (show vat (l.take (k + 1)) t = vat (l.take k) t by rw [HST.out, if_neg hq])
        have d3 : decide (ats l k ≤ t) = false := decide_eq_false hq
        clear HST
        generalize ats l k = u at *
        go_wp2
        go_roundg (l.length - (k + 1))
        case measure => omega
        case rel => exact ⟨k + 1, by omega, Nat.le_refl _, by go_num, hb, by rw [HS.out]; exact h1, h0⟩
    · have hk' : k = l.length := by omega
      subst hk'
      have e : vat (l.take l.length) t = vat l t := by rw [List.take_length]
      rw [e] at c10 c11
      clear e
      generalize hq : vat l t = q at *
      have HQ := hidE hq; clear hq
      go_wp2
      have B0 := (h0.set 0 (.int .i64 q.1)).set 1 (.int .i64 q.2)
      have g0 := B0.cell 0; have g1 := B0.cell 1
      simp at g0 g1
      refine bodyPost_ret (v := V q.1 q.2) (by simp [results, Try.results22, go_sem, g0, g1]) rfl ⟨by rw [HQ.out], ?_⟩
      (repeat (first | exact Below.refl _ _ | assumption | refine balloc ?_ _ | refine below_drewN ?_ _ | refine bstep (by assumption) ?_ | refine bstep (Past.prop _) ?_ | refine Below.setCell ?_ (by first | exact Nat.le_refl _ | (simp; done) | (simp; omega)) _))
end Go.Proofs.Ythgenmejjflceaa

namespace Go.Proofs.Ythgenmejjflceaa
open Go.ChangeShapes Go.WideShapes Go.ChangeAt Go.RowKit
attribute [local irreducible] Go.Calls

set_option maxRecDepth 100000 in
set_option maxHeartbeats 4000000 in
theorem rmayf_c (l : List Sg) (a : Option Addr) (cap : Nat) (w : World) (hl : l.length ≤ 1099511627776) (hA : ArgS w a l) :
    Calls Try.prog 21 #[.slice a l.length cap] w fun e w' => e = .returned (.bool (mayB l)) ∧ Below w.heap.size w w' := by
  have HA := hidE hA; clear hA
  obtain ⟨p, hp⟩ : ∃ p, p = w.heap.size := ⟨_, rfl⟩
  have HPP := hidE hp
  go_enter Try.func21, Try.ntmps21
  go_wp2
  go_loopg [4] l.length (fun g vi wr => ∃ k : Nat, k ≤ l.length ∧ l.length - k ≤ g ∧ vi = .int .i64 k ∧ (∀ i, i < k → okAt (0, 0) l i = true) ∧ Below w.heap.size w wr ∧ Blk wr w.heap.size #[.int .i64 (prevV l k).1, .int .i64 (prevV l k).2] 26)
  case atStart => exact ⟨0, Nat.zero_le _, by omega, rfl, fun i hi => by omega, by (repeat (first | exact Below.refl _ _ | assumption | refine balloc ?_ _ | refine below_drewN ?_ _ | refine bstep (by assumption) ?_ | refine bstep (Past.prop _) ?_ | refine Below.setCell ?_ (by first | exact Nat.le_refl _ | (simp; done) | (simp; omega)) _)), Blk.made_at _ _ _ _ (by simp)⟩
  case round =>
    obtain ⟨k, hk, hg, rfl, hs, hb, hB⟩ := hrel
    have HS := hidE hs; have HB := hidE hb; have HBP := hidE hB
    have q0 := hB.cell 0; have q1 := hB.cell 1; have qf := hB.free; have qz := hB.lt
    simp at q0 q1
    clear hs hb hB
    by_cases hlt : k < l.length
    · obtain ⟨b, off, rfl, hbb, hc⟩ := (HA.out.past HB.out) (by omega)
      have hbw : b < w.heap.size := by
        obtain ⟨b', off', e, hb', _⟩ := HA.out (by omega)
        simp at e; omega
      have hn1 : b ≠ w.heap.size := by omega
      obtain ⟨c0, c1, c2⟩ := hc.get hlt
      have HV := hidE (fun w => rin_c (l.getD k (0, 0, 0)) w)
      change Hid (∀ w, Calls _ _ #[S (ats l k) (vls l k).1 (vls l k).2] _ _) at HV
      have HPS := hidE (prevV_succ l k)
      obtain ⟨wo, rfl⟩ : ∃ wo : World, wo = wr := ⟨_, rfl⟩
      cases hok : okS (l.getD k (0, 0, 0))
      · have HX := hidE (mayB_bad hlt (show okAt (0, 0) l k = false by unfold okAt; rw [hok]; rfl))
        rw [hok] at HV
        clear hc HPP hp
        generalize ats l k = u at *
        generalize vls l k = v at *
        generalize prevV l k = q at *
        go_wp2_with fail
        refine wp_region_past_lit (by kernel_rfl) (by kernel_rfl) ?_
        have hcp := Past.cell (W := wo)
        repeat (go_big_quiet_step ((go_at_call 45; exact Past.call _ (HV.out _))))
        refine wpQuiet_nil ?_
        rintro _ ⟨x', rfl⟩
        have o1 : Below w.heap.size w x'.1 := bstep x'.2 HB.out
        clear hcp
        generalize x'.1 = w5 at *
        go_wp2
        go_ret
        exact ⟨ret_bool (by rw [HX.out]), o1⟩
      · rw [hok] at HV
        have HOK := hidE hok
        have HPV := hidE (show okAt (0, 0) l k = (!(vls l k == prevV l k) && (decide (k = 0) || decide (ats l (k - 1) < ats l k))) by unfold okAt; rw [HOK.out, Bool.true_and]; rfl)
        by_cases hv : vls l k = prevV l k
        · have HX := hidE (mayB_bad hlt (show okAt (0, 0) l k = false by rw [HPV.out, hv]; simp))
          rw [← hv] at q0 q1
          clear hc HPP hp hv HPV HBP HOK hok
          generalize ats l k = u at *
          generalize vls l k = v at *
          go_wp2_with fail
          refine wp_region_past_lit (by kernel_rfl) (by kernel_rfl) ?_
          have hcp := Past.cell (W := wo)
          repeat (go_big_quiet_step ((go_at_call 45; exact Past.call _ (HV.out _))))
          refine wpQuiet_nil ?_
          rintro _ ⟨x', rfl⟩
          have o1 : Below w.heap.size w x'.1 := bstep x'.2 HB.out
          clear hcp
          generalize x'.1 = w5 at *
          go_wp2
          go_ret
          exact ⟨ret_bool (by rw [HX.out]), o1⟩
        · have hne : ((vls l k).1 == (prevV l k).1) = true → ((vls l k).2 == (prevV l k).2) = false := fun h => by
            rw [Bool.eq_false_iff]; intro h2
            exact hv (Prod.ext (beq_iff_eq.1 h) (beq_iff_eq.1 h2))
          have HNE := hidE hne
          have HR := hidE (show okAt (0, 0) l k = (decide (k = 0) || decide (ats l (k - 1) < ats l k)) by rw [HPV.out, beq_eq_false_iff_ne.2 hv]; rfl)
          clear hne hv HPV HOK hok
          by_cases hk0 : k = 0
          · have HX := hidE (show ∀ i, i < k + 1 → okAt (0, 0) l i = true from fun i hi => by
              by_cases e : i = k
              · rw [e, HR.out, decide_eq_true hk0]; rfl
              · exact HS.out i (by omega))
            have hd : decide (0 < k) = false := decide_eq_false (by omega)
            clear hc HPP hp HR hk0
            generalize ats l k = u at *
            generalize vls l k = v at *
            generalize prevV l k = q at *
            cases hm : (v.1 == q.1)
            rotate_left
            · have hm2 := HNE.out hm
              go_wp2_with fail
              refine wp_region_past_lit (by kernel_rfl) (by kernel_rfl) ?_
              have hcp := Past.cell (W := wo)
              repeat (go_big_quiet_step ((go_at_call 45; exact Past.call _ (HV.out _))))
              refine wpQuiet_nil ?_
              rintro _ ⟨x', rfl⟩
              have o1 : Below w.heap.size w x'.1 := bstep x'.2 HB.out
              have oB := HBP.out.past x'.2
              have r0 := (hcp x' b (off + k * 3 + 1) hbb).trans c1
              have r1 := (hcp x' b (off + k * 3 + 2) hbb).trans c2
              have of' := oB.free
              have y0 := oB.cell 0
              have y1 := oB.cell 1
              simp at y0 y1
              have oz := oB.lt
              have obz : b < x'.1.heap.size := Nat.lt_of_lt_of_le hbb x'.2.size
              clear hcp c0 c1 c2 q0 q1 qf qz hbb
              generalize x'.1 = w5 at *
              go_wp2
              go_roundg (l.length - (k + 1))
              case measure => omega
              case rel => exact ⟨k + 1, by omega, Nat.le_refl _, by go_num, HX.out, by (repeat (first | exact Below.refl _ _ | assumption | refine balloc ?_ _ | refine below_drewN ?_ _ | refine bstep (by assumption) ?_ | refine bstep (Past.prop _) ?_ | refine Below.setCell ?_ (by first | exact Nat.le_refl _ | (simp; done) | (simp; omega)) _)), by rw [HPS.out]; exact (oB.set 0 _).set 1 _⟩
            · clear HNE
              go_wp2_with fail
              refine wp_region_past_lit (by kernel_rfl) (by kernel_rfl) ?_
              have hcp := Past.cell (W := wo)
              repeat (go_big_quiet_step ((go_at_call 45; exact Past.call _ (HV.out _))))
              refine wpQuiet_nil ?_
              rintro _ ⟨x', rfl⟩
              have o1 : Below w.heap.size w x'.1 := bstep x'.2 HB.out
              have oB := HBP.out.past x'.2
              have r0 := (hcp x' b (off + k * 3 + 1) hbb).trans c1
              have r1 := (hcp x' b (off + k * 3 + 2) hbb).trans c2
              have of' := oB.free
              have y0 := oB.cell 0
              have y1 := oB.cell 1
              simp at y0 y1
              have oz := oB.lt
              have obz : b < x'.1.heap.size := Nat.lt_of_lt_of_le hbb x'.2.size
              clear hcp c0 c1 c2 q0 q1 qf qz hbb
              generalize x'.1 = w5 at *
              go_wp2
              go_roundg (l.length - (k + 1))
              case measure => omega
              case rel => exact ⟨k + 1, by omega, Nat.le_refl _, by go_num, HX.out, by (repeat (first | exact Below.refl _ _ | assumption | refine balloc ?_ _ | refine below_drewN ?_ _ | refine bstep (by assumption) ?_ | refine bstep (Past.prop _) ?_ | refine Below.setCell ?_ (by first | exact Nat.le_refl _ | (simp; done) | (simp; omega)) _)), by rw [HPS.out]; exact (oB.set 0 _).set 1 _⟩
          · obtain ⟨j, hj⟩ : ∃ j, k = j + 1 := ⟨k - 1, by omega⟩
            have hd : decide (0 < k) = true := decide_eq_true (by omega)
            have hkj : (k : Int) - 1 = (j : Int) := by omega
            have HKJ := hidE hkj
            have hjl : j < l.length := by omega
            obtain ⟨e0, _, _⟩ := hc.get hjl
            by_cases hlt2 : ats l j < ats l k
            · have HX := hidE (show ∀ i, i < k + 1 → okAt (0, 0) l i = true from fun i hi => by
                by_cases e : i = k
                · rw [e, HR.out, hj, Nat.add_sub_cancel, ← hj, decide_eq_true hlt2, Bool.or_true]
                · exact HS.out i (by omega))
              have hd2 : decide (ats l k ≤ ats l j) = false := decide_eq_false (by omega)
              have HHJ := hidE hj
              clear hc HPP hp HR hlt2 hj hkj
              generalize ats l j = u' at *
              generalize ats l k = u at *
              generalize vls l k = v at *
              generalize prevV l k = q at *
              cases hm : (v.1 == q.1)
              rotate_left
              · have hm2 := HNE.out hm
                go_wp2_with fail
                refine wp_region_past_lit (by kernel_rfl) (by kernel_rfl) ?_
                have hcp := Past.cell (W := wo)
                have hkj := HKJ.out
                repeat (go_big_quiet_step ((go_at_call 45; exact Past.call _ (HV.out _))))
                refine wpQuiet_nil ?_
                rintro _ ⟨x', rfl⟩
                have o1 : Below w.heap.size w x'.1 := bstep x'.2 HB.out
                have oB := HBP.out.past x'.2
                have r0 := (hcp x' b (off + k * 3 + 1) hbb).trans c1
                have r1 := (hcp x' b (off + k * 3 + 2) hbb).trans c2
                have of' := oB.free
                have y0 := oB.cell 0
                have y1 := oB.cell 1
                simp at y0 y1
                have oz := oB.lt
                have obz : b < x'.1.heap.size := Nat.lt_of_lt_of_le hbb x'.2.size
                clear hcp c0 c1 c2 q0 q1 qf qz hbb
                generalize x'.1 = w5 at *
                go_wp2
                go_roundg (l.length - (k + 1))
                case measure => omega
                case rel => exact ⟨k + 1, by omega, Nat.le_refl _, by go_num, HX.out, by (repeat (first | exact Below.refl _ _ | assumption | refine balloc ?_ _ | refine below_drewN ?_ _ | refine bstep (by assumption) ?_ | refine bstep (Past.prop _) ?_ | refine Below.setCell ?_ (by first | exact Nat.le_refl _ | (simp; done) | (simp; omega)) _)), by rw [HPS.out]; exact (oB.set 0 _).set 1 _⟩
              · clear HNE
                go_wp2_with fail
                refine wp_region_past_lit (by kernel_rfl) (by kernel_rfl) ?_
                have hcp := Past.cell (W := wo)
                have hkj := HKJ.out
                repeat (go_big_quiet_step ((go_at_call 45; exact Past.call _ (HV.out _))))
                refine wpQuiet_nil ?_
                rintro _ ⟨x', rfl⟩
                have o1 : Below w.heap.size w x'.1 := bstep x'.2 HB.out
                have oB := HBP.out.past x'.2
                have r0 := (hcp x' b (off + k * 3 + 1) hbb).trans c1
                have r1 := (hcp x' b (off + k * 3 + 2) hbb).trans c2
                have of' := oB.free
                have y0 := oB.cell 0
                have y1 := oB.cell 1
                simp at y0 y1
                have oz := oB.lt
                have obz : b < x'.1.heap.size := Nat.lt_of_lt_of_le hbb x'.2.size
                clear hcp c0 c1 c2 q0 q1 qf qz hbb
                generalize x'.1 = w5 at *
                go_wp2
                go_roundg (l.length - (k + 1))
                case measure => omega
                case rel => exact ⟨k + 1, by omega, Nat.le_refl _, by go_num, HX.out, by (repeat (first | exact Below.refl _ _ | assumption | refine balloc ?_ _ | refine below_drewN ?_ _ | refine bstep (by assumption) ?_ | refine bstep (Past.prop _) ?_ | refine Below.setCell ?_ (by first | exact Nat.le_refl _ | (simp; done) | (simp; omega)) _)), by rw [HPS.out]; exact (oB.set 0 _).set 1 _⟩
            · have HX := hidE (mayB_bad hlt (show okAt (0, 0) l k = false by
                rw [HR.out, decide_eq_false hk0, Bool.false_or, hj, Nat.add_sub_cancel, ← hj]; exact decide_eq_false hlt2))
              have hd2 : decide (ats l k ≤ ats l j) = true := decide_eq_true (by omega)
              have HHJ := hidE hj
              clear hc HPP hp HR hlt2 hj hkj
              generalize ats l j = u' at *
              generalize ats l k = u at *
              generalize vls l k = v at *
              generalize prevV l k = q at *
              cases hm : (v.1 == q.1)
              rotate_left
              · have hm2 := HNE.out hm
                go_wp2_with fail
                refine wp_region_past_lit (by kernel_rfl) (by kernel_rfl) ?_
                have hcp := Past.cell (W := wo)
                have hkj := HKJ.out
                repeat (go_big_quiet_step ((go_at_call 45; exact Past.call _ (HV.out _))))
                refine wpQuiet_nil ?_
                rintro _ ⟨x', rfl⟩
                have o1 : Below w.heap.size w x'.1 := bstep x'.2 HB.out
                clear hcp
                generalize x'.1 = w5 at *
                go_wp2
                go_ret
                exact ⟨ret_bool (by rw [HX.out]), o1⟩
              · clear HNE
                go_wp2_with fail
                refine wp_region_past_lit (by kernel_rfl) (by kernel_rfl) ?_
                have hcp := Past.cell (W := wo)
                have hkj := HKJ.out
                repeat (go_big_quiet_step ((go_at_call 45; exact Past.call _ (HV.out _))))
                refine wpQuiet_nil ?_
                rintro _ ⟨x', rfl⟩
                have o1 : Below w.heap.size w x'.1 := bstep x'.2 HB.out
                clear hcp
                generalize x'.1 = w5 at *
                go_wp2
                go_ret
                exact ⟨ret_bool (by rw [HX.out]), o1⟩
    · have hk' : k = l.length := by omega
      subst hk'
      have HX := hidE (mayB_good HS.out)
      go_wp2
      go_ret
      exact ⟨ret_bool (by rw [HX.out]), by have := HB.out; (repeat (first | exact Below.refl _ _ | assumption | refine balloc ?_ _ | refine below_drewN ?_ _ | refine bstep (by assumption) ?_ | refine bstep (Past.prop _) ?_ | refine Below.setCell ?_ (by first | exact Nat.le_refl _ | (simp; done) | (simp; omega)) _))⟩
end Go.Proofs.Ythgenmejjflceaa

namespace Go.Proofs.Ythgenmejjflceaa
open Go.ChangeShapes Go.WideShapes Go.ChangeAt Go.RowKit
attribute [local irreducible] Go.Calls

set_option maxHeartbeats 1000000 in
theorem rwnd_c (x y : Int) (w : World) : Calls Try.prog 54 #[.int .i64 x, .int .i64 y] w fun e w' => e = .returned (.bool (wndB x y)) ∧ Below w.heap.size w w' := by
  go_enter Try.func54, Try.ntmps54
  go_wp2
  all_goals
    go_ret
    refine ⟨ret_bool (by unfold wndB; rw [Bool.eq_iff_iff]; simp; omega), ?_⟩
    (repeat (first | exact Below.refl _ _ | assumption | refine balloc ?_ _ | refine below_drewN ?_ _ | refine bstep (by assumption) ?_ | refine bstep (Past.prop _) ?_ | refine Below.setCell ?_ (by first | exact Nat.le_refl _ | (simp; done) | (simp; omega)) _))
theorem rbad_c (F : List Sg) (x y : Int) (a : Option Addr) (cap : Nat) (w : World) (hl : F.length ≤ 1099511627776) (hA : ArgS w a F) :
    Calls Try.prog 31 #[.slice a F.length cap, .int .i64 x, .int .i64 y] w fun e w' => e = .returned (.int .i64 (badW F x y)) ∧ Below w.heap.size w w' := by
  have HA := hidE hA; clear hA
  have HV := hidE (fun w hA => rmayf_c F a cap w (by omega) hA)
  have HW := hidE (fun w => rwnd_c x y w)
  cases h1 : mayB F
  · rw [badW_form h1]
    rw [h1] at HV
    clear h1
    go_enter Try.func31, Try.ntmps31
    go_wp2_with fail
    ((with_reducible refine (HV.out _ HA.out).mono ?_); rintro e w1 ⟨rfl, hb1⟩)
    go_wp2
    go_ret
    exact ⟨rfl, hb1⟩
  cases h2 : wndB x y
  · rw [badW_arg h1 h2]
    rw [h1] at HV; rw [h2] at HW
    clear h1 h2
    go_enter Try.func31, Try.ntmps31
    go_wp2_with fail
    ((with_reducible refine (HV.out _ HA.out).mono ?_); rintro e w1 ⟨rfl, hb1⟩)
    have HB1 := hidE hb1; clear hb1
    go_wp2_with fail
    ((with_reducible refine (HW.out _).mono ?_); rintro e w2 ⟨rfl, hb2⟩)
    go_wp2
    go_ret
    exact ⟨rfl, bstep hb2 HB1.out⟩
  · rw [badW_ok h1 h2]
    rw [h1] at HV; rw [h2] at HW
    clear h1 h2
    go_enter Try.func31, Try.ntmps31
    go_wp2_with fail
    ((with_reducible refine (HV.out _ HA.out).mono ?_); rintro e w1 ⟨rfl, hb1⟩)
    have HB1 := hidE hb1; clear hb1
    go_wp2_with fail
    ((with_reducible refine (HW.out _).mono ?_); rintro e w2 ⟨rfl, hb2⟩)
    go_wp2
    go_ret
    exact ⟨rfl, bstep hb2 HB1.out⟩
end Go.Proofs.Ythgenmejjflceaa

namespace Go.Proofs.Ythgenmejjflceaa
open Go.ChangeShapes Go.WideShapes Go.ChangeAt Go.RowKit
attribute [local irreducible] Go.Calls

set_option maxHeartbeats 2000000 in
theorem rlowS_c (F : List Sg) (x y : Int) (a : Option Addr) (cap : Nat) (w : World) (hl : F.length ≤ 1099511627776) (hA : ArgS w a F) :
    Calls Try.prog 11 #[.slice a F.length cap, .int .i64 x, .int .i64 y] w fun e w' => e = .returned (VE (lowS F x y)) ∧ Below w.heap.size w w' := by
  have HA := hidE hA; clear hA
  have HW := hidE (fun w hA => rbad_c F x y a cap w hl hA)
  by_cases hq : badW F x y = 0
  · have HE := hidE (lowS_ok hq)
    obtain ⟨hm, hwn⟩ := badW_zero.1 hq
    rw [wndB_iff] at hwn
    rw [hq] at HW
    obtain ⟨m, hmm⟩ : ∃ m : Nat, y = x + m := ⟨(y - x).toNat, by omega⟩
    have hym : (y - x).toNat = m := by omega
    rw [hym] at HE
    rw [HE.out]
    clear hq hm HE hym
    subst hmm
    have HAT0 := hidE (fun w hA => rat_c F a cap x w (by omega) hA)
    go_enter Try.func11, Try.ntmps11
    go_wp2_with fail
    ((with_reducible refine (HW.out _ (HA.out.past (by (repeat (first | exact Below.refl _ _ | assumption | refine balloc ?_ _ | refine below_drewN ?_ _ | refine bstep (by assumption) ?_ | refine bstep (Past.prop _) ?_ | refine Below.setCell ?_ (by first | exact Nat.le_refl _ | (simp; done) | (simp; omega)) _))))).mono ?_); rintro e w1 ⟨rfl, hb1⟩)
    have HB1 := hidE (show Below w.heap.size w w1 by (repeat (first | exact Below.refl _ _ | assumption | refine balloc ?_ _ | refine below_drewN ?_ _ | refine bstep (by assumption) ?_ | refine bstep (Past.prop _) ?_ | refine Below.setCell ?_ (by first | exact Nat.le_refl _ | (simp; done) | (simp; omega)) _)))
    have B1 : Blk w1 w.heap.size #[.int .i64 0, .int .i64 0] 26 := (Blk.made _ _ _).past hb1
    clear hb1
    go_wp2_with fail
    ((with_reducible refine (HAT0.out _ (HA.out.past HB1.out)).mono ?_); rintro e w2 ⟨rfl, hb2⟩)
    have HB2 := hidE (bstep hb2 HB1.out)
    have B2 := B1.past hb2
    have hw2 : w.heap.size < w2.heap.size := B2.lt
    clear hb2 B1 HB1 HAT0
    go_wp2_with fail
    go_loopg [10] m (fun g vi wr => ∃ k : Nat, k ≤ m ∧ m - k ≤ g ∧ vi = .int .i64 (x + k) ∧ Below w.heap.size w wr ∧ Blk wr w2.heap.size #[.int .i64 (lowN F x k).1, .int .i64 (lowN F x k).2] 26 ∧ Blk wr w.heap.size #[.int .i64 0, .int .i64 0] 26)
    case atStart => exact ⟨0, Nat.zero_le _, by omega, by go_num, balloc HB2.out _, Blk.made _ _ _, B2.alloc _⟩
    case round =>
      obtain ⟨k, hk, hg, rfl, hb, h1, h0⟩ := hrel
      have c0 := h1.cell 0; have c1 := h1.cell 1; have f1 := h1.free; have hp := h1.lt
      have c00 := h0.cell 0; have c01 := h0.cell 1; have f0 := h0.free; have hp0 := h0.lt
      simp at c0 c1 c00 c01
      by_cases hlt : k < m
      · have HAR := hidE (show ArgS wr a F from HA.out.past hb)
        have HAT := hidE (fun w hA => rat_c F a cap (x + k) w (by omega) hA)
        have HST := hidE (lowN_step F x k)
        have H1 := hidE h1; have H0 := hidE h0; have HB := hidE hb
        clear c00 c01 f0 f1 h1 h0 hb
        generalize lowN F x k = q at *
        generalize vat F (x + k) = y at *
        obtain ⟨wo, rfl⟩ : ∃ wo : World, wo = wr := ⟨_, rfl⟩
        go_wp2_with fail
        refine wp_region_J 5 [] (nthR [detR (V q.1 q.2), detR (.slice a F.length cap), detR (.int .i64 (x + k)), detR (V y.1 y.2), detR (V (mn q.1 y.1) (mn q.2 y.2))]) (fun _ => false) (by kernel_rfl) (by simp) (by kernel_rfl) (stab_nth (by simp [stab_det])) ?_ ?_ ?_
        · intro i o hi ho
          match i, hi with
          | 0, _ =>
            obtain rfl := Option.some.inj ho
            intro u x hd
            have hc := Past.cell x
            simp [go_sem, gives, frm, Act.put, nthR, detR, Region.wanted, Below.refl, hc, c0, c1, hp]
          | 1, _ =>
            obtain rfl := Option.some.inj ho
            intro u x hd
            have hc := Past.cell x
            simp [go_sem, gives, frm, Act.put, nthR, detR, Region.wanted, Below.refl]
          | 2, _ =>
            obtain rfl := Option.some.inj ho
            intro u x hd
            have hc := Past.cell x
            simp [go_sem, gives, frm, Act.put, nthR, detR, Region.wanted, Below.refl]
          | 3, _ =>
            obtain rfl := Option.some.inj ho
            intro u x hd
            have hc := Past.cell x
            have d1 := hd 1 (by decide) (by kernel_rfl)
            have d2 := hd 2 (by decide) (by kernel_rfl)
            simp only [nthR, detR, List.getD_cons_zero, List.getD_cons_succ] at d1 d2
            simp [go_sem, gives, frm, Act.put, nthR, detR, Region.wanted, d1, d2]
            exact HAT.out _ (HAR.out.past x.2)
          | 4, _ =>
            obtain rfl := Option.some.inj ho
            intro u x hd
            have hc := Past.cell x
            have d0 := hd 0 (by decide) (by kernel_rfl)
            have d3 := hd 3 (by decide) (by kernel_rfl)
            simp only [nthR, detR, List.getD_cons_zero, List.getD_cons_succ] at d0 d3
            simp [go_sem, gives, frm, Act.put, nthR, detR, Region.wanted, d0, d3]
            exact rmn _ _ _ _ _
          | i + 5, h => exact absurd h (by omega)
        · intro i o h; cases h
        · intro u x' hu hne
          have d4 := hu 4 (by decide)
          simp only [nthR, detR, List.getD_cons_zero, List.getD_cons_succ] at d4
          have hx := x'.2
          have HXX := hidE hx
          clear hx hu hne
          simp only [frm, List.take, Act.put, d4]
          clear d4
          generalize x'.1 = w5 at *
          have B5 := H1.out.past HXX.out
          have c0 := B5.cell 0; have c1 := B5.cell 1; have f1 := B5.free; have hp5 := B5.lt
          simp at c0 c1
          go_wp2
          go_roundg (m - (k + 1))
          case measure => omega
          case rel => exact ⟨k + 1, by omega, Nat.le_refl _, by go_num, by have := HXX.out; have := HB.out; (repeat (first | exact Below.refl _ _ | assumption | refine balloc ?_ _ | refine below_drewN ?_ _ | refine bstep (by assumption) ?_ | refine bstep (Past.prop _) ?_ | refine Below.setCell ?_ (by first | exact Nat.le_refl _ | (simp; done) | (simp; omega)) _)), by rw [HST.out]; exact (B5.set 0 _).set 1 _, ((H0.out.past HXX.out).other (by omega) _).other (by omega) _⟩
      · have hk' : k = m := by omega
        subst hk'
        generalize hqq : lowN F x k = q at *
        have HQQ := hidE hqq; clear hqq
        go_wp2
        have B0 := (h0.set 0 (.int .i64 q.1)).set 1 (.int .i64 q.2)
        have g0 := B0.cell 0; have g1 := B0.cell 1
        simp at g0 g1
        refine bodyPost_ret (v := VE (q.1, q.2, 0)) (by simp [results, Try.results11, go_sem, g0, g1]) rfl ⟨by rw [HQQ.out], ?_⟩
        (repeat (first | exact Below.refl _ _ | assumption | refine balloc ?_ _ | refine below_drewN ?_ _ | refine bstep (by assumption) ?_ | refine bstep (Past.prop _) ?_ | refine Below.setCell ?_ (by first | exact Nat.le_refl _ | (simp; done) | (simp; omega)) _))
  · have HE := hidE (lowS_no hq)
    have hd : (badW F x y != 0) = true := bne_iff_ne.2 hq
    rw [HE.out]
    clear HE hq
    generalize badW F x y = z at *
    go_enter Try.func11, Try.ntmps11
    go_wp2_with fail
    ((with_reducible refine (HW.out _ (HA.out.past (by (repeat (first | exact Below.refl _ _ | assumption | refine balloc ?_ _ | refine below_drewN ?_ _ | refine bstep (by assumption) ?_ | refine bstep (Past.prop _) ?_ | refine Below.setCell ?_ (by first | exact Nat.le_refl _ | (simp; done) | (simp; omega)) _))))).mono ?_); rintro e w1 ⟨rfl, hb1⟩)
    have B1 : Blk w1 w.heap.size #[.int .i64 0, .int .i64 0] 26 := (Blk.made _ _ _).past hb1
    have z1 := B1.lt
    have f1 := B1.free
    have c10 := B1.cell 0; have c11 := B1.cell 1
    simp at c10 c11
    have B2 := (B1.set 0 (.int .i64 0)).set 1 (.int .i64 0)
    have g0 := B2.cell 0; have g1 := B2.cell 1
    simp at g0 g1
    go_wp2
    refine bodyPost_ret (v := VE (0, 0, z)) (by simp [results, Try.results11, go_sem, g0, g1]) rfl ⟨rfl, ?_⟩
    (repeat (first | exact Below.refl _ _ | assumption | refine balloc ?_ _ | refine below_drewN ?_ _ | refine bstep (by assumption) ?_ | refine bstep (Past.prop _) ?_ | refine Below.setCell ?_ (by first | exact Nat.le_refl _ | (simp; done) | (simp; omega)) _))
set_option maxHeartbeats 2000000 in
theorem rhighS_c (F : List Sg) (x y : Int) (a : Option Addr) (cap : Nat) (w : World) (hl : F.length ≤ 1099511627776) (hA : ArgS w a F) :
    Calls Try.prog 13 #[.slice a F.length cap, .int .i64 x, .int .i64 y] w fun e w' => e = .returned (VE (highS F x y)) ∧ Below w.heap.size w w' := by
  have HA := hidE hA; clear hA
  have HW := hidE (fun w hA => rbad_c F x y a cap w hl hA)
  by_cases hq : badW F x y = 0
  · have HE := hidE (highS_ok hq)
    obtain ⟨hm, hwn⟩ := badW_zero.1 hq
    rw [wndB_iff] at hwn
    rw [hq] at HW
    obtain ⟨m, hmm⟩ : ∃ m : Nat, y = x + m := ⟨(y - x).toNat, by omega⟩
    have hym : (y - x).toNat = m := by omega
    rw [hym] at HE
    rw [HE.out]
    clear hq hm HE hym
    subst hmm
    have HAT0 := hidE (fun w hA => rat_c F a cap x w (by omega) hA)
    go_enter Try.func13, Try.ntmps13
    go_wp2_with fail
    ((with_reducible refine (HW.out _ (HA.out.past (by (repeat (first | exact Below.refl _ _ | assumption | refine balloc ?_ _ | refine below_drewN ?_ _ | refine bstep (by assumption) ?_ | refine bstep (Past.prop _) ?_ | refine Below.setCell ?_ (by first | exact Nat.le_refl _ | (simp; done) | (simp; omega)) _))))).mono ?_); rintro e w1 ⟨rfl, hb1⟩)
    have HB1 := hidE (show Below w.heap.size w w1 by (repeat (first | exact Below.refl _ _ | assumption | refine balloc ?_ _ | refine below_drewN ?_ _ | refine bstep (by assumption) ?_ | refine bstep (Past.prop _) ?_ | refine Below.setCell ?_ (by first | exact Nat.le_refl _ | (simp; done) | (simp; omega)) _)))
    have B1 : Blk w1 w.heap.size #[.int .i64 0, .int .i64 0] 26 := (Blk.made _ _ _).past hb1
    clear hb1
    go_wp2_with fail
    ((with_reducible refine (HAT0.out _ (HA.out.past HB1.out)).mono ?_); rintro e w2 ⟨rfl, hb2⟩)
    have HB2 := hidE (bstep hb2 HB1.out)
    have B2 := B1.past hb2
    have hw2 : w.heap.size < w2.heap.size := B2.lt
    clear hb2 B1 HB1 HAT0
    go_wp2_with fail
    go_loopg [10] m (fun g vi wr => ∃ k : Nat, k ≤ m ∧ m - k ≤ g ∧ vi = .int .i64 (x + k) ∧ Below w.heap.size w wr ∧ Blk wr w2.heap.size #[.int .i64 (highN F x k).1, .int .i64 (highN F x k).2] 26 ∧ Blk wr w.heap.size #[.int .i64 0, .int .i64 0] 26)
    case atStart => exact ⟨0, Nat.zero_le _, by omega, by go_num, balloc HB2.out _, Blk.made _ _ _, B2.alloc _⟩
    case round =>
      obtain ⟨k, hk, hg, rfl, hb, h1, h0⟩ := hrel
      have c0 := h1.cell 0; have c1 := h1.cell 1; have f1 := h1.free; have hp := h1.lt
      have c00 := h0.cell 0; have c01 := h0.cell 1; have f0 := h0.free; have hp0 := h0.lt
      simp at c0 c1 c00 c01
      by_cases hlt : k < m
      · have HAR := hidE (show ArgS wr a F from HA.out.past hb)
        have HAT := hidE (fun w hA => rat_c F a cap (x + k) w (by omega) hA)
        have HST := hidE (highN_step F x k)
        have H1 := hidE h1; have H0 := hidE h0; have HB := hidE hb
        clear c00 c01 f0 f1 h1 h0 hb
        generalize highN F x k = q at *
        generalize vat F (x + k) = y at *
        obtain ⟨wo, rfl⟩ : ∃ wo : World, wo = wr := ⟨_, rfl⟩
        go_wp2_with fail
        refine wp_region_J 5 [] (nthR [detR (V q.1 q.2), detR (.slice a F.length cap), detR (.int .i64 (x + k)), detR (V y.1 y.2), detR (V (mx q.1 y.1) (mx q.2 y.2))]) (fun _ => false) (by kernel_rfl) (by simp) (by kernel_rfl) (stab_nth (by simp [stab_det])) ?_ ?_ ?_
        · intro i o hi ho
          match i, hi with
          | 0, _ =>
            obtain rfl := Option.some.inj ho
            intro u x hd
            have hc := Past.cell x
            simp [go_sem, gives, frm, Act.put, nthR, detR, Region.wanted, Below.refl, hc, c0, c1, hp]
          | 1, _ =>
            obtain rfl := Option.some.inj ho
            intro u x hd
            have hc := Past.cell x
            simp [go_sem, gives, frm, Act.put, nthR, detR, Region.wanted, Below.refl]
          | 2, _ =>
            obtain rfl := Option.some.inj ho
            intro u x hd
            have hc := Past.cell x
            simp [go_sem, gives, frm, Act.put, nthR, detR, Region.wanted, Below.refl]
          | 3, _ =>
            obtain rfl := Option.some.inj ho
            intro u x hd
            have hc := Past.cell x
            have d1 := hd 1 (by decide) (by kernel_rfl)
            have d2 := hd 2 (by decide) (by kernel_rfl)
            simp only [nthR, detR, List.getD_cons_zero, List.getD_cons_succ] at d1 d2
            simp [go_sem, gives, frm, Act.put, nthR, detR, Region.wanted, d1, d2]
            exact HAT.out _ (HAR.out.past x.2)
          | 4, _ =>
            obtain rfl := Option.some.inj ho
            intro u x hd
            have hc := Past.cell x
            have d0 := hd 0 (by decide) (by kernel_rfl)
            have d3 := hd 3 (by decide) (by kernel_rfl)
            simp only [nthR, detR, List.getD_cons_zero, List.getD_cons_succ] at d0 d3
            simp [go_sem, gives, frm, Act.put, nthR, detR, Region.wanted, d0, d3]
            exact rmx _ _ _ _ _
          | i + 5, h => exact absurd h (by omega)
        · intro i o h; cases h
        · intro u x' hu hne
          have d4 := hu 4 (by decide)
          simp only [nthR, detR, List.getD_cons_zero, List.getD_cons_succ] at d4
          have hx := x'.2
          have HXX := hidE hx
          clear hx hu hne
          simp only [frm, List.take, Act.put, d4]
          clear d4
          generalize x'.1 = w5 at *
          have B5 := H1.out.past HXX.out
          have c0 := B5.cell 0; have c1 := B5.cell 1; have f1 := B5.free; have hp5 := B5.lt
          simp at c0 c1
          go_wp2
          go_roundg (m - (k + 1))
          case measure => omega
          case rel => exact ⟨k + 1, by omega, Nat.le_refl _, by go_num, by have := HXX.out; have := HB.out; (repeat (first | exact Below.refl _ _ | assumption | refine balloc ?_ _ | refine below_drewN ?_ _ | refine bstep (by assumption) ?_ | refine bstep (Past.prop _) ?_ | refine Below.setCell ?_ (by first | exact Nat.le_refl _ | (simp; done) | (simp; omega)) _)), by rw [HST.out]; exact (B5.set 0 _).set 1 _, ((H0.out.past HXX.out).other (by omega) _).other (by omega) _⟩
      · have hk' : k = m := by omega
        subst hk'
        generalize hqq : highN F x k = q at *
        have HQQ := hidE hqq; clear hqq
        go_wp2
        have B0 := (h0.set 0 (.int .i64 q.1)).set 1 (.int .i64 q.2)
        have g0 := B0.cell 0; have g1 := B0.cell 1
        simp at g0 g1
        refine bodyPost_ret (v := VE (q.1, q.2, 0)) (by simp [results, Try.results13, go_sem, g0, g1]) rfl ⟨by rw [HQQ.out], ?_⟩
        (repeat (first | exact Below.refl _ _ | assumption | refine balloc ?_ _ | refine below_drewN ?_ _ | refine bstep (by assumption) ?_ | refine bstep (Past.prop _) ?_ | refine Below.setCell ?_ (by first | exact Nat.le_refl _ | (simp; done) | (simp; omega)) _))
  · have HE := hidE (highS_no hq)
    have hd : (badW F x y != 0) = true := bne_iff_ne.2 hq
    rw [HE.out]
    clear HE hq
    generalize badW F x y = z at *
    go_enter Try.func13, Try.ntmps13
    go_wp2_with fail
    ((with_reducible refine (HW.out _ (HA.out.past (by (repeat (first | exact Below.refl _ _ | assumption | refine balloc ?_ _ | refine below_drewN ?_ _ | refine bstep (by assumption) ?_ | refine bstep (Past.prop _) ?_ | refine Below.setCell ?_ (by first | exact Nat.le_refl _ | (simp; done) | (simp; omega)) _))))).mono ?_); rintro e w1 ⟨rfl, hb1⟩)
    have B1 : Blk w1 w.heap.size #[.int .i64 0, .int .i64 0] 26 := (Blk.made _ _ _).past hb1
    have z1 := B1.lt
    have f1 := B1.free
    have c10 := B1.cell 0; have c11 := B1.cell 1
    simp at c10 c11
    have B2 := (B1.set 0 (.int .i64 0)).set 1 (.int .i64 0)
    have g0 := B2.cell 0; have g1 := B2.cell 1
    simp at g0 g1
    go_wp2
    refine bodyPost_ret (v := VE (0, 0, z)) (by simp [results, Try.results13, go_sem, g0, g1]) rfl ⟨rfl, ?_⟩
    (repeat (first | exact Below.refl _ _ | assumption | refine balloc ?_ _ | refine below_drewN ?_ _ | refine bstep (by assumption) ?_ | refine bstep (Past.prop _) ?_ | refine Below.setCell ?_ (by first | exact Nat.le_refl _ | (simp; done) | (simp; omega)) _))
end Go.Proofs.Ythgenmejjflceaa

namespace Go.Proofs.Ythgenmejjflceaa
open Go.ChangeShapes Go.WideShapes Go.ChangeAt Go.RowKit
attribute [local irreducible] Go.Calls

theorem may_ok {F : List Sg} (h : mayB F = true) : ∀ s ∈ F, okS s = true := CF.ok (mayB_iff.1 h)

set_option maxHeartbeats 2000000 in
theorem rtot_c (F : List Sg) (x : Int) (m : Nat) (a : Option Addr) (cap : Nat) (w : World) (hl : F.length ≤ 1099511627776) (ho : ∀ s ∈ F, okS s = true) (hm : m ≤ 8191) (hx : -4611686018427387904 ≤ x) (hx' : x ≤ 4611686018427387904) (hA : ArgS w a F) :
    Calls Try.prog 37 #[.slice a F.length cap, .int .i64 x, .int .i64 (x + m)] w fun e w' => e = .returned (V (sumN F x m).1 (sumN F x m).2) ∧ Below w.heap.size w w' := by
  have HA := hidE hA; clear hA
  have HS := hidE (fun k => sumN_le ho x k)
  have HO := hidE (fun t => okV_iff.1 (vat_ok ho t))
  clear ho
  go_enter Try.func37, Try.ntmps37
  go_wp2
  go_loopg [8, 9] m (fun g vi _ wr => ∃ k : Nat, k ≤ m ∧ m - k ≤ g ∧ vi = .int .i64 (x + k) ∧ Below w.heap.size w wr ∧ Blk wr (w.heap.size + 1) #[.int .i64 (sumN F x k).1, .int .i64 (sumN F x k).2] 26 ∧ Blk wr w.heap.size #[.int .i64 0, .int .i64 0] 26)
  case atStart => exact ⟨0, Nat.zero_le _, by omega, by go_num, by (repeat (first | exact Below.refl _ _ | assumption | refine balloc ?_ _ | refine below_drewN ?_ _ | refine bstep (by assumption) ?_ | refine bstep (Past.prop _) ?_ | refine Below.setCell ?_ (by first | exact Nat.le_refl _ | (simp; done) | (simp; omega)) _)), Blk.made_at _ _ _ _ (by simp), (Blk.made _ _ _).alloc _⟩
  case round =>
    obtain ⟨k, hk, hg, rfl, hb, h1, h0⟩ := hrel
    have H1 := hidE h1; have H0 := hidE h0; have HB := hidE hb
    by_cases hlt : k < m
    · have HAR := hidE (show ArgS wr a F from HA.out.past hb)
      have HAT := hidE (fun w hA => rat_c F a cap (x + k) w (by omega) hA)
      have HST := hidE (sumN_step F x k)
      have s1 := HS.out k
      have o1 := HO.out (x + k)
      clear h1 h0 hb
      generalize sumN F x k = q at *
      generalize vat F (x + k) = y at *
      obtain ⟨p1, p2, p3, p4⟩ := s1
      obtain ⟨q1, q2, q3, q4⟩ := o1
      have r1 : -9222246136947933184 ≤ q.1 := by omega
      have r2 : q.1 ≤ 9222246136947933184 := by omega
      have r3 : -9222246136947933184 ≤ q.2 := by omega
      have r4 : q.2 ≤ 9222246136947933184 := by omega
      have r5 : -9223372036854775808 ≤ q.1 + y.1 := by omega
      have r6 : q.1 + y.1 ≤ 9223372036854775807 := by omega
      have r7 : -9223372036854775808 ≤ q.2 + y.2 := by omega
      have r8 : q.2 + y.2 ≤ 9223372036854775807 := by omega
      clear p1 p2 p3 p4 q1 q2 q3 q4 r1 r2 r3 r4
      go_wp2_with fail
      ((with_reducible refine (HAT.out _ HAR.out).mono ?_); rintro e w1 ⟨rfl, hb1⟩)
      have B1 := H1.out.past hb1
      have B0 := H0.out.past hb1
      have HB1 := hidE (bstep hb1 HB.out)
      have c0 := B1.cell 0; have c1 := B1.cell 1; have f1 := B1.free; have z1 := B1.lt; have z0 := B0.lt
      simp at c0 c1
      have HB0 := hidE B0; have HBB1 := hidE B1
      clear hb1 B0 B1
      go_wp2
      go_roundg (m - (k + 1))
      case measure => omega
      case rel => exact ⟨k + 1, by omega, Nat.le_refl _, by go_num, by have := HB1.out; (repeat (first | exact Below.refl _ _ | assumption | refine balloc ?_ _ | refine below_drewN ?_ _ | refine bstep (by assumption) ?_ | refine bstep (Past.prop _) ?_ | refine Below.setCell ?_ (by first | exact Nat.le_refl _ | (simp; done) | (simp; omega)) _)), by rw [HST.out]; exact ((HBB1.out.set 0 _).set 1 _).alloc _, ((HB0.out.other (by omega) _).other (by omega) _).alloc _⟩
    · have hk' : k = m := by omega
      subst hk'
      have c0 := h1.cell 0; have c1 := h1.cell 1; have f1 := h1.free; have hp := h1.lt
      have c00 := h0.cell 0; have c01 := h0.cell 1; have f0 := h0.free; have hp0 := h0.lt
      simp at c0 c1 c00 c01
      generalize hqq : sumN F x k = q at *
      have HQQ := hidE hqq; clear hqq
      go_wp2
      have B0 := (h0.set 0 (.int .i64 q.1)).set 1 (.int .i64 q.2)
      have g0 := B0.cell 0; have g1 := B0.cell 1
      simp at g0 g1
      refine bodyPost_ret (v := V q.1 q.2) (by simp [results, Try.results37, go_sem, g0, g1]) rfl ⟨by rw [HQQ.out], ?_⟩
      (repeat (first | exact Below.refl _ _ | assumption | refine balloc ?_ _ | refine below_drewN ?_ _ | refine bstep (by assumption) ?_ | refine bstep (Past.prop _) ?_ | refine Below.setCell ?_ (by first | exact Nat.le_refl _ | (simp; done) | (simp; omega)) _))

set_option maxHeartbeats 1000000 in
theorem rtotS_c (F : List Sg) (x y : Int) (a : Option Addr) (cap : Nat) (w : World) (hl : F.length ≤ 1099511627776) (hA : ArgS w a F) :
    Calls Try.prog 15 #[.slice a F.length cap, .int .i64 x, .int .i64 y] w fun e w' => e = .returned (VE (totS F x y)) ∧ Below w.heap.size w w' := by
  have HA := hidE hA; clear hA
  have HW := hidE (fun w hA => rbad_c F x y a cap w hl hA)
  by_cases hq : badW F x y = 0
  · have HE := hidE (totS_ok hq)
    obtain ⟨hm, hwn⟩ := badW_zero.1 hq
    rw [wndB_iff] at hwn
    rw [hq] at HW
    obtain ⟨m, hmm⟩ : ∃ m : Nat, y = x + m := ⟨(y - x).toNat, by omega⟩
    have hym : (y - x).toNat = m := by omega
    rw [hym] at HE
    rw [HE.out]
    have HT := hidE (fun w hA => rtot_c F x m a cap w hl (may_ok hm) (by omega) (by omega) (by omega) hA)
    clear hq hm HE hym
    subst hmm
    clear hwn
    generalize sumN F x m = q at *
    go_enter Try.func15, Try.ntmps15
    go_wp2_with fail
    ((with_reducible refine (HW.out _ (HA.out.past (by (repeat (first | exact Below.refl _ _ | assumption | refine balloc ?_ _ | refine below_drewN ?_ _ | refine bstep (by assumption) ?_ | refine bstep (Past.prop _) ?_ | refine Below.setCell ?_ (by first | exact Nat.le_refl _ | (simp; done) | (simp; omega)) _))))).mono ?_); rintro e w1 ⟨rfl, hb1⟩)
    have HB1 := hidE (show Below w.heap.size w w1 by (repeat (first | exact Below.refl _ _ | assumption | refine balloc ?_ _ | refine below_drewN ?_ _ | refine bstep (by assumption) ?_ | refine bstep (Past.prop _) ?_ | refine Below.setCell ?_ (by first | exact Nat.le_refl _ | (simp; done) | (simp; omega)) _)))
    have B1 : Blk w1 w.heap.size #[.int .i64 0, .int .i64 0] 26 := (Blk.made _ _ _).past hb1
    clear hb1
    go_wp2_with fail
    ((with_reducible refine (HT.out _ (HA.out.past HB1.out)).mono ?_); rintro e w2 ⟨rfl, hb2⟩)
    have HB2 := hidE (bstep hb2 HB1.out)
    have B2 := B1.past hb2
    have c0 := B2.cell 0; have c1 := B2.cell 1; have f1 := B2.free; have hp := B2.lt
    simp at c0 c1
    have B3 := (B2.set 0 (.int .i64 q.1)).set 1 (.int .i64 q.2)
    have g0 := B3.cell 0; have g1 := B3.cell 1
    simp at g0 g1
    clear hb2 B1 B2 B3
    go_wp2
    refine bodyPost_ret (v := VE (q.1, q.2, 0)) (by simp [results, Try.results15, go_sem, g0, g1]) rfl ⟨rfl, ?_⟩
    have := HB2.out
    (repeat (first | exact Below.refl _ _ | assumption | refine balloc ?_ _ | refine below_drewN ?_ _ | refine bstep (by assumption) ?_ | refine bstep (Past.prop _) ?_ | refine Below.setCell ?_ (by first | exact Nat.le_refl _ | (simp; done) | (simp; omega)) _))
  · have HE := hidE (totS_no hq)
    have hd : (badW F x y != 0) = true := bne_iff_ne.2 hq
    rw [HE.out]
    clear HE hq
    generalize badW F x y = z at *
    go_enter Try.func15, Try.ntmps15
    go_wp2_with fail
    ((with_reducible refine (HW.out _ (HA.out.past (by (repeat (first | exact Below.refl _ _ | assumption | refine balloc ?_ _ | refine below_drewN ?_ _ | refine bstep (by assumption) ?_ | refine bstep (Past.prop _) ?_ | refine Below.setCell ?_ (by first | exact Nat.le_refl _ | (simp; done) | (simp; omega)) _))))).mono ?_); rintro e w1 ⟨rfl, hb1⟩)
    have B1 : Blk w1 w.heap.size #[.int .i64 0, .int .i64 0] 26 := (Blk.made _ _ _).past hb1
    have z1 := B1.lt
    have f1 := B1.free
    have c10 := B1.cell 0; have c11 := B1.cell 1
    simp at c10 c11
    have B2 := (B1.set 0 (.int .i64 0)).set 1 (.int .i64 0)
    have g0 := B2.cell 0; have g1 := B2.cell 1
    simp at g0 g1
    go_wp2
    refine bodyPost_ret (v := VE (0, 0, z)) (by simp [results, Try.results15, go_sem, g0, g1]) rfl ⟨rfl, ?_⟩
    (repeat (first | exact Below.refl _ _ | assumption | refine balloc ?_ _ | refine below_drewN ?_ _ | refine bstep (by assumption) ?_ | refine bstep (Past.prop _) ?_ | refine Below.setCell ?_ (by first | exact Nat.le_refl _ | (simp; done) | (simp; omega)) _))
end Go.Proofs.Ythgenmejjflceaa

namespace Go.Proofs.Ythgenmejjflceaa
open Go.ChangeShapes Go.WideShapes Go.ChangeAt Go.RowKit
attribute [local irreducible] Go.Calls

theorem rlast_c (F : List Sg) (x : Int) (a : Option Addr) (cap : Nat) (w : World) (hl : F.length ≤ 1099511627776) (hA : ArgS w a F) :
    Calls Try.prog 49 #[.slice a F.length cap, .int .i64 x] w fun e w' => e = .returned (.int .i64 (lastF F x)) ∧ Below w.heap.size w w' := by
  have HA := hidE hA; clear hA
  by_cases h0 : F.length = 0
  · have HE := hidE (show lastF F x = x by unfold lastF; rw [if_pos h0])
    have hd : decide ((0 : Int) < (F.length : Int)) = false := decide_eq_false (by omega)
    have hd' : ¬ (0 : Int) < (F.length : Int) := by omega
    have hd2 : ¬ 0 < F.length := by omega
    rw [HE.out]
    clear h0 HE
    go_enter Try.func49, Try.ntmps49
    go_wp2
    go_ret
    exact ⟨rfl, Below.refl _ _⟩
  · obtain ⟨k, hk⟩ : ∃ k, F.length = k + 1 := ⟨F.length - 1, by omega⟩
    have HE := hidE (show lastF F x = mx x (ats F k) by unfold lastF; rw [if_neg h0, hk, Nat.add_sub_cancel])
    obtain ⟨b, off, rfl, hb, hc⟩ := HA.out (by omega)
    obtain ⟨d0, d1, d2⟩ := hc.get (i := k) (by omega)
    have hd : decide ((0 : Int) < (F.length : Int)) = true := decide_eq_true (by omega)
    have HKZ := hidE (show (F.length : Int) - 1 = (k : Int) by omega)
    have hkl : k < F.length := by omega
    rw [HE.out]
    clear hc hk h0 d1 d2 HE
    generalize ats F k = u at *
    go_enter Try.func49, Try.ntmps49
    go_upto_region 3 with fail
    have hkz := HKZ.out
    go_wp2
    all_goals exact bodyPost_ret (v := .int .i64 (mx x u)) (by unfold mx; simp [results, Try.results49, go_sem, *]; try omega) rfl ⟨rfl, Below.refl _ _⟩

set_option maxHeartbeats 1000000 in
theorem rnear_c (F : List Sg) (x : Int) (a : Option Addr) (cap : Nat) (w : World) (hl : F.length ≤ 1099511627776) (hx : -562949953421312 ≤ x) (hx' : x ≤ 562949953421312) (hA : ArgS w a F) :
    Calls Try.prog 24 #[.slice a F.length cap, .int .i64 x, .int .i64 200] w fun e w' => e = .returned (.bool (nearB F x)) ∧ Below w.heap.size w w' := by
  have HA := hidE hA; clear hA
  have e2 : decide (x < -562949953421312) = false := decide_eq_false (by omega)
  have HT := hidE (fun h => nearB_t (F := F) (x := x) h)
  have HF := hidE (fun i hi h => nearB_f (F := F) (x := x) (i := i) hi h)
  generalize nearB F x = D at *
  go_enter Try.func24, Try.ntmps24
  go_wp2
  go_loopg [7] F.length (fun g vi wr => ∃ k : Nat, k ≤ F.length ∧ F.length - k ≤ g ∧ vi = .int .i64 k ∧ (∀ i, i < k → ats F i ≤ x + 200) ∧ Below w.heap.size w wr)
  case atStart => exact ⟨0, Nat.zero_le _, by omega, rfl, fun i hi => by omega, Below.refl _ _⟩
  case round =>
    obtain ⟨k, hk, hg, rfl, hs, hb⟩ := hrel
    have HS := hidE hs; have HB := hidE hb
    clear hs
    by_cases hlt : k < F.length
    · obtain ⟨b, off, rfl, hbb, hc⟩ := (HA.out.past hb) (by omega)
      obtain ⟨d0, d1, d2⟩ := hc.get hlt
      have HNO := hidE (fun h => HF.out k hlt h)
      have HNS := hidE (fun (he : ats F k ≤ x + 200) => show ∀ i, i < k + 1 → ats F i ≤ x + 200 from fun i hi => by
        by_cases e : i = k
        · rw [e]; exact he
        · exact HS.out i (by omega))
      clear hc d1 d2 hb
      generalize ats F k = u at *
      by_cases hq : u ≤ x + 200
      · have HN := hidE (HNS.out hq)
        clear HNO HNS
        have e3 : decide (x + 200 < u) = false := decide_eq_false (by omega)
        by_cases hq2 : x < u
        · have e1 : decide (x < u) = true := decide_eq_true hq2
          go_wp2
          go_roundg (F.length - (k + 1))
          case measure => omega
          case rel => exact ⟨k + 1, by omega, Nat.le_refl _, by go_num, HN.out, HB.out⟩
        · have e1 : decide (x < u) = false := decide_eq_false hq2
          go_wp2
          go_roundg (F.length - (k + 1))
          case measure => omega
          case rel => exact ⟨k + 1, by omega, Nat.le_refl _, by go_num, HN.out, HB.out⟩
      · have HD := hidE (HNO.out (by omega))
        have e3 : decide (x + 200 < u) = true := decide_eq_true (by omega)
        have e1 : decide (x < u) = true := decide_eq_true (by omega)
        clear HNO HNS
        go_wp2
        exact bodyPost_ret (v := .bool false) (by simp [results, Try.results24, go_sem]) rfl ⟨by rw [HD.out], HB.out⟩
    · have hk' : k = F.length := by omega
      subst hk'
      have HD := hidE (HT.out HS.out)
      go_wp2
      exact bodyPost_ret (v := .bool true) (by simp [results, Try.results24, go_sem]) rfl ⟨by rw [HD.out], HB.out⟩

set_option maxRecDepth 100000 in
set_option maxHeartbeats 2000000 in
theorem rover_c (F : List Sg) (x n l1 l2 : Int) (a : Option Addr) (cap : Nat) (w : World) (hl : F.length ≤ 1099511627776) (hA : ArgS w a F) :
    Calls Try.prog 26 #[.slice a F.length cap, .int .i64 x, .int .i64 n, V l1 l2] w fun e w' => e = .returned (T3 (overS F x n (l1, l2))) ∧ Below w.heap.size w w' := by
  have HA := hidE hA; clear hA
  have HV := hidE (fun w hA => rmayf_c F a cap w (by omega) hA)
  cases hm : mayB F
  · rw [overS_form hm]
    rw [hm] at HV
    clear hm
    go_enter Try.func26, Try.ntmps26
    go_wp2_with fail
    ((with_reducible refine (HV.out _ (HA.out.past (by (repeat (first | exact Below.refl _ _ | assumption | refine balloc ?_ _ | refine below_drewN ?_ _ | refine bstep (by assumption) ?_ | refine bstep (Past.prop _) ?_ | refine Below.setCell ?_ (by first | exact Nat.le_refl _ | (simp; done) | (simp; omega)) _))))).mono ?_); rintro e w1 ⟨rfl, hb1⟩)
    go_wp2
    refine bodyPost_ret (v := T3 (0, false, 5)) (by simp [results, Try.results26, go_sem]) rfl ⟨rfl, ?_⟩
    (repeat (first | exact Below.refl _ _ | assumption | refine balloc ?_ _ | refine below_drewN ?_ _ | refine bstep (by assumption) ?_ | refine bstep (Past.prop _) ?_ | refine Below.setCell ?_ (by first | exact Nat.le_refl _ | (simp; done) | (simp; omega)) _))
  rw [hm] at HV
  cases hg : overArg x n
  · rw [overS_arg hm hg]
    have hq := overArg_not hg
    clear hm hg
    rcases hq with h | ⟨h, h2⟩ | ⟨h, h2, h3⟩ | ⟨h, h2, h3, h4⟩
    · have e1 : decide (n < 1) = true := decide_eq_true h
      go_enter Try.func26, Try.ntmps26
      go_wp2_with fail
      ((with_reducible refine (HV.out _ (HA.out.past (by (repeat (first | exact Below.refl _ _ | assumption | refine balloc ?_ _ | refine below_drewN ?_ _ | refine bstep (by assumption) ?_ | refine bstep (Past.prop _) ?_ | refine Below.setCell ?_ (by first | exact Nat.le_refl _ | (simp; done) | (simp; omega)) _))))).mono ?_); rintro e w1 ⟨rfl, hb1⟩)
      go_wp2
      refine bodyPost_ret (v := T3 (0, false, 2)) (by simp [results, Try.results26, go_sem]) rfl ⟨rfl, ?_⟩
      (repeat (first | exact Below.refl _ _ | assumption | refine balloc ?_ _ | refine below_drewN ?_ _ | refine bstep (by assumption) ?_ | refine bstep (Past.prop _) ?_ | refine Below.setCell ?_ (by first | exact Nat.le_refl _ | (simp; done) | (simp; omega)) _))
    · have e1 : decide (n < 1) = false := decide_eq_false (by omega)
      have e2 : decide (4096 < n) = true := decide_eq_true h2
      go_enter Try.func26, Try.ntmps26
      go_wp2_with fail
      ((with_reducible refine (HV.out _ (HA.out.past (by (repeat (first | exact Below.refl _ _ | assumption | refine balloc ?_ _ | refine below_drewN ?_ _ | refine bstep (by assumption) ?_ | refine bstep (Past.prop _) ?_ | refine Below.setCell ?_ (by first | exact Nat.le_refl _ | (simp; done) | (simp; omega)) _))))).mono ?_); rintro e w1 ⟨rfl, hb1⟩)
      go_wp2
      refine bodyPost_ret (v := T3 (0, false, 2)) (by simp [results, Try.results26, go_sem]) rfl ⟨rfl, ?_⟩
      (repeat (first | exact Below.refl _ _ | assumption | refine balloc ?_ _ | refine below_drewN ?_ _ | refine bstep (by assumption) ?_ | refine bstep (Past.prop _) ?_ | refine Below.setCell ?_ (by first | exact Nat.le_refl _ | (simp; done) | (simp; omega)) _))
    · have e1 : decide (n < 1) = false := decide_eq_false (by omega)
      have e2 : decide (4096 < n) = false := decide_eq_false (by omega)
      have e3 : decide (x < -562949953421312) = true := decide_eq_true h3
      go_enter Try.func26, Try.ntmps26
      go_wp2_with fail
      ((with_reducible refine (HV.out _ (HA.out.past (by (repeat (first | exact Below.refl _ _ | assumption | refine balloc ?_ _ | refine below_drewN ?_ _ | refine bstep (by assumption) ?_ | refine bstep (Past.prop _) ?_ | refine Below.setCell ?_ (by first | exact Nat.le_refl _ | (simp; done) | (simp; omega)) _))))).mono ?_); rintro e w1 ⟨rfl, hb1⟩)
      go_wp2
      refine bodyPost_ret (v := T3 (0, false, 2)) (by simp [results, Try.results26, go_sem]) rfl ⟨rfl, ?_⟩
      (repeat (first | exact Below.refl _ _ | assumption | refine balloc ?_ _ | refine below_drewN ?_ _ | refine bstep (by assumption) ?_ | refine bstep (Past.prop _) ?_ | refine Below.setCell ?_ (by first | exact Nat.le_refl _ | (simp; done) | (simp; omega)) _))
    · have e1 : decide (n < 1) = false := decide_eq_false (by omega)
      have e2 : decide (4096 < n) = false := decide_eq_false (by omega)
      have e3 : decide (x < -562949953421312) = false := decide_eq_false (by omega)
      have e4 : decide (562949953421312 < x) = true := decide_eq_true h4
      go_enter Try.func26, Try.ntmps26
      go_wp2_with fail
      ((with_reducible refine (HV.out _ (HA.out.past (by (repeat (first | exact Below.refl _ _ | assumption | refine balloc ?_ _ | refine below_drewN ?_ _ | refine bstep (by assumption) ?_ | refine bstep (Past.prop _) ?_ | refine Below.setCell ?_ (by first | exact Nat.le_refl _ | (simp; done) | (simp; omega)) _))))).mono ?_); rintro e w1 ⟨rfl, hb1⟩)
      go_wp2
      refine bodyPost_ret (v := T3 (0, false, 2)) (by simp [results, Try.results26, go_sem]) rfl ⟨rfl, ?_⟩
      (repeat (first | exact Below.refl _ _ | assumption | refine balloc ?_ _ | refine below_drewN ?_ _ | refine bstep (by assumption) ?_ | refine bstep (Past.prop _) ?_ | refine Below.setCell ?_ (by first | exact Nat.le_refl _ | (simp; done) | (simp; omega)) _))
  have hg' := overArg_iff.1 hg
  obtain ⟨g1, g2, g3, g4⟩ := hg'
  have e1 : decide (n < 1) = false := decide_eq_false (by omega)
  have e2 : decide (4096 < n) = false := decide_eq_false (by omega)
  have e3 : decide (x < -562949953421312) = false := decide_eq_false (by omega)
  have e4 : decide (562949953421312 < x) = false := decide_eq_false (by omega)
  cases ho : okV l1 l2
  · rw [overS_range hm hg ho]
    clear hm hg
    go_enter Try.func26, Try.ntmps26
    go_wp2_with fail
    ((with_reducible refine (HV.out _ (HA.out.past (by (repeat (first | exact Below.refl _ _ | assumption | refine balloc ?_ _ | refine below_drewN ?_ _ | refine bstep (by assumption) ?_ | refine bstep (Past.prop _) ?_ | refine Below.setCell ?_ (by first | exact Nat.le_refl _ | (simp; done) | (simp; omega)) _))))).mono ?_); rintro e w1 ⟨rfl, hb1⟩)
    have B1 : Blk w1 w.heap.size #[.int .i64 l1, .int .i64 l2] 26 := (Blk.made _ _ _).past hb1
    have c0 := B1.cell 0; have c1 := B1.cell 1; have z1 := B1.lt
    simp at c0 c1
    go_wp2_with fail
    ((with_reducible refine (rmay_eq ho).mono ?_); rintro e w2 ⟨rfl, hb2⟩)
    go_wp2
    refine bodyPost_ret (v := T3 (0, false, 10)) (by simp [results, Try.results26, go_sem]) rfl ⟨rfl, ?_⟩
    (repeat (first | exact Below.refl _ _ | assumption | refine balloc ?_ _ | refine below_drewN ?_ _ | refine bstep (by assumption) ?_ | refine bstep (Past.prop _) ?_ | refine Below.setCell ?_ (by first | exact Nat.le_refl _ | (simp; done) | (simp; omega)) _))
  have HOK := hidE (may_ok hm)
  have HLL := hidE (lastF_le (x := x) (may_ok hm) (by omega))
  have HNO := hidE (fun h => overS_none (F := F) (x := x) (n := n) (l := (l1, l2)) hm hg ho h)
  have HSO := hidE (fun k hk hb h => overS_some (F := F) (x := x) (n := n) (l := (l1, l2)) (k := k) hm hg ho hk hb h)
  have HLG := hidE (lastF_ge F x)
  clear hm hg
  obtain ⟨m, rfl⟩ : ∃ m : Nat, n = m := ⟨n.toNat, by omega⟩
  rw [Int.toNat_natCast] at HNO HSO
  have HTT := hidE (fun (t : Int) w (h1 : -4611686018427387904 ≤ t) (h2 : t ≤ 4611686018427387904) hA => rtot_c F t m a cap w hl HOK.out (by omega) h1 h2 hA)
  have HLA := hidE (fun w hA => rlast_c F x a cap w hl hA)
  generalize overS F x m (l1, l2) = D at *
  generalize lastF F x = L at *
  obtain ⟨N, hN⟩ : ∃ N : Nat, L = x + N := ⟨(L - x).toNat, by have := HLG.out; omega⟩
  subst hN
  have hLL := HLL.out
  clear HLL HLG HOK
  go_enter Try.func26, Try.ntmps26
  go_wp2_with fail
  ((with_reducible refine (HV.out _ (HA.out.past (by (repeat (first | exact Below.refl _ _ | assumption | refine balloc ?_ _ | refine below_drewN ?_ _ | refine bstep (by assumption) ?_ | refine bstep (Past.prop _) ?_ | refine Below.setCell ?_ (by first | exact Nat.le_refl _ | (simp; done) | (simp; omega)) _))))).mono ?_); rintro e w1 ⟨rfl, hb1⟩)
  have B1 : Blk w1 w.heap.size #[.int .i64 l1, .int .i64 l2] 26 := (Blk.made _ _ _).past hb1
  have c0 := B1.cell 0; have c1 := B1.cell 1; have z1 := B1.lt
  simp at c0 c1
  have HB1 := hidE (show Below w.heap.size w w1 by (repeat (first | exact Below.refl _ _ | assumption | refine balloc ?_ _ | refine below_drewN ?_ _ | refine bstep (by assumption) ?_ | refine bstep (Past.prop _) ?_ | refine Below.setCell ?_ (by first | exact Nat.le_refl _ | (simp; done) | (simp; omega)) _)))
  have HBB := hidE B1
  clear hb1 B1 HV
  go_wp2_with fail
  ((with_reducible refine (rmay_eq ho).mono ?_); rintro e w2 ⟨rfl, hb2⟩)
  have HB2 := hidE (bstep hb2 HB1.out)
  have HBB2 := hidE (HBB.out.past hb2)
  clear hb2 HB1 HBB c0 c1 z1 ho
  go_wp2_with fail
  go_loopg [11] (N + 1) (fun g vi wr => ∃ k : Nat, k ≤ N + 1 ∧ N + 1 - k ≤ g ∧ vi = .int .i64 (x + k) ∧ (∀ j : Nat, j < k → overB F m (l1, l2) (x + j) = false) ∧ Blk wr w.heap.size #[.int .i64 l1, .int .i64 l2] 26 ∧ Below w.heap.size w wr)
  case atStart => exact ⟨0, Nat.zero_le _, by omega, by go_num, fun j hj => by omega, HBB2.out, HB2.out⟩
  case round =>
    obtain ⟨k, hk, hg, rfl, hs, hB, hb⟩ := hrel
    have HS := hidE hs; have HB := hidE hb; have HBK := hidE hB
    clear hs hb hB
    go_wp2_with fail
    ((with_reducible refine (HLA.out _ (HA.out.past HB.out)).mono ?_); rintro e w3 ⟨rfl, hb3⟩)
    have HB3 := hidE (bstep hb3 HB.out)
    have HBK3 := hidE (HBK.out.past hb3)
    clear hb3 HB HBK
    by_cases hlt : k ≤ N
    · have hd : decide (x + (k : Int) ≤ x + (N : Int)) = true := decide_eq_true (by omega)
      have HT2 := hidE (fun w hA => HTT.out (x + k) w (by omega) (by omega) hA)
      have HNS := hidE (fun (he : overB F m (l1, l2) (x + k) = false) => show ∀ j : Nat, j < k + 1 → overB F m (l1, l2) (x + j) = false from fun j hj => by
        by_cases e : j = k
        · rw [e]; exact he
        · exact HS.out j (by omega))
      have HSM := hidE (fun hb => HSO.out k (by omega) hb HS.out)
      have HQ1 := hidE (fun (h : leB (sumN F (x + k) m).1 (sumN F (x + k) m).2 l1 l2 = false) => show overB F m (l1, l2) (x + k) = true by unfold overB; rw [h]; rfl)
      have HQ2 := hidE (fun (h : leB (sumN F (x + k) m).1 (sumN F (x + k) m).2 l1 l2 = true) => show overB F m (l1, l2) (x + k) = false by unfold overB; rw [h]; rfl)
      generalize overB F m (l1, l2) (x + k) = bad at *
      generalize sumN F (x + k) m = q at *
      have hBK := HBK3.out
      have c0 := hBK.cell 0; have c1 := hBK.cell 1; have z1 := hBK.lt
      simp at c0 c1
      clear hBK
      obtain ⟨wo, rfl⟩ : ∃ wo : World, wo = w3 := ⟨_, rfl⟩
      have HAR := hidE (HA.out.past HB3.out)
      have HLE := hidE (fun w => rle q.1 q.2 l1 l2 w)
      cases hle : leB q.1 q.2 l1 l2
      · have HD := hidE (HSM.out (HQ1.out hle))
        rw [hle] at HLE
        clear HNS HQ1 HQ2 hle HSM HSO HNO HTT
        go_wp2_with fail
        refine wp_region_past_lit (by kernel_rfl) (by kernel_rfl) ?_
        have hcp := Past.cell (W := wo)
        repeat (go_big_quiet_step (first | (go_at_call 37; exact Past.call _ (HT2.out _ (HAR.out.past (Past.prop _)))) | (go_at_call 23; exact Past.call _ (HLE.out _))))
        refine wpQuiet_nil ?_
        rintro _ ⟨x', rfl⟩
        have o1 := bstep x'.2 HB3.out
        clear hcp
        generalize x'.1 = w6 at *
        go_wp2
        exact bodyPost_ret (v := T3 (x + k, true, 0)) (by simp [results, Try.results26, go_sem]) rfl ⟨by rw [HD.out], o1⟩
      · have HN := hidE (HNS.out (HQ2.out hle))
        rw [hle] at HLE
        clear HNS HQ1 HQ2 hle HSM HSO HNO HTT
        go_wp2_with fail
        refine wp_region_past_lit (by kernel_rfl) (by kernel_rfl) ?_
        have hcp := Past.cell (W := wo)
        repeat (go_big_quiet_step (first | (go_at_call 37; exact Past.call _ (HT2.out _ (HAR.out.past (Past.prop _)))) | (go_at_call 23; exact Past.call _ (HLE.out _))))
        refine wpQuiet_nil ?_
        rintro _ ⟨x', rfl⟩
        have o1 := bstep x'.2 HB3.out
        have o2 := HBK3.out.past x'.2
        clear hcp
        generalize x'.1 = w6 at *
        have HO1 := hidE o1; have HO2 := hidE o2
        clear o1 o2
        go_wp2
        go_roundg (N + 1 - (k + 1))
        case measure => omega
        case rel => exact ⟨k + 1, by omega, Nat.le_refl _, by go_num, HN.out, HO2.out, HO1.out⟩
    · have hd : decide (x + (k : Int) ≤ x + (N : Int)) = false := decide_eq_false (by omega)
      have HD := hidE (HNO.out fun j hj => HS.out j (by omega))
      go_wp2
      exact bodyPost_ret (v := T3 (0, false, 0)) (by simp [results, Try.results26, go_sem]) rfl ⟨by rw [HD.out], HB3.out⟩
end Go.Proofs.Ythgenmejjflceaa

namespace Go.Proofs.Ythgenmejjflceaa
open Go.ChangeShapes Go.WideShapes Go.ChangeAt Go.RowKit
attribute [local irreducible] Go.Calls

theorem cutS_range {F : List Sg} {x y : Int} (h : mayB F = true) (h2 : ¬ y < x) (h3 : farB x y = false) : cutS F x y = ([], 10) := by unfold cutS; rw [if_neg (by rw [h]; decide), if_neg h2, if_pos h3]
theorem farB_not {x y : Int} (h : farB x y = false) : x < -1125899906842624 ∨ (-1125899906842624 ≤ x ∧ 1125899906842624 < y) ∨ (-1125899906842624 ≤ x ∧ y ≤ 1125899906842624 ∧ 1125899906842624 < x) ∨ (-1125899906842624 ≤ x ∧ y ≤ 1125899906842624 ∧ x ≤ 1125899906842624 ∧ y < -1125899906842624) := by
  unfold farB at h
  have := of_decide_eq_false h
  omega
theorem farB_iff {x y : Int} : farB x y = true ↔ (-1125899906842624 ≤ x ∧ y ≤ 1125899906842624 ∧ x ≤ 1125899906842624 ∧ -1125899906842624 ≤ y) := by unfold farB; exact decide_eq_true_iff

set_option maxRecDepth 100000 in
set_option maxHeartbeats 4000000 in
theorem rcut_c (F : List Sg) (x y : Int) (a : Option Addr) (cap : Nat) (w : World) (hl : F.length ≤ 999999990) (hA : ArgS w a F) :
    Calls Try.prog 17 #[.slice a F.length cap, .int .i64 x, .int .i64 y] w (OfIs w (cutS F x y).1 (cutS F x y).2) := by
  have HA := hidE hA; clear hA
  have HV := hidE (fun w hA => rmayf_c F a cap w (by omega) hA)
  cases hm : mayB F
  · rw [cutS_form hm]
    rw [hm] at HV
    clear hm
    go_enter Try.func17, Try.ntmps17
    go_wp2_with fail
    ((with_reducible refine (HV.out _ HA.out).mono ?_); rintro e w1 ⟨rfl, hb1⟩)
    go_wp2
    go_ret2
    exact ⟨_, rfl, sliS_nil _, hb1⟩
  rw [hm] at HV
  by_cases hxy : y < x
  · rw [cutS_arg hm hxy]
    have e0 : decide (y < x) = true := decide_eq_true hxy
    clear hm hxy
    go_enter Try.func17, Try.ntmps17
    go_wp2_with fail
    ((with_reducible refine (HV.out _ HA.out).mono ?_); rintro e w1 ⟨rfl, hb1⟩)
    go_wp2
    go_ret2
    exact ⟨_, rfl, sliS_nil _, hb1⟩
  have e0 : decide (y < x) = false := decide_eq_false hxy
  cases hf : farB x y
  · rw [cutS_range hm hxy hf]
    have hq := farB_not hf
    clear hm hxy hf
    rcases hq with h | ⟨h, h2⟩ | ⟨h, h2, h3⟩ | ⟨h, h2, h3, h4⟩
    · have e1 : decide (x < -1125899906842624) = true := decide_eq_true h
      go_enter Try.func17, Try.ntmps17
      go_wp2_with fail
      ((with_reducible refine (HV.out _ HA.out).mono ?_); rintro e w1 ⟨rfl, hb1⟩)
      go_wp2
      go_ret2
      exact ⟨_, rfl, sliS_nil _, hb1⟩
    · have e1 : decide (x < -1125899906842624) = false := decide_eq_false (by omega)
      have e2 : decide (1125899906842624 < y) = true := decide_eq_true h2
      go_enter Try.func17, Try.ntmps17
      go_wp2_with fail
      ((with_reducible refine (HV.out _ HA.out).mono ?_); rintro e w1 ⟨rfl, hb1⟩)
      go_wp2
      go_ret2
      exact ⟨_, rfl, sliS_nil _, hb1⟩
    · have e1 : decide (x < -1125899906842624) = false := decide_eq_false (by omega)
      have e2 : decide (1125899906842624 < y) = false := decide_eq_false (by omega)
      have e3 : decide (1125899906842624 < x) = true := decide_eq_true h3
      go_enter Try.func17, Try.ntmps17
      go_wp2_with fail
      ((with_reducible refine (HV.out _ HA.out).mono ?_); rintro e w1 ⟨rfl, hb1⟩)
      go_wp2
      go_ret2
      exact ⟨_, rfl, sliS_nil _, hb1⟩
    · have e1 : decide (x < -1125899906842624) = false := decide_eq_false (by omega)
      have e2 : decide (1125899906842624 < y) = false := decide_eq_false (by omega)
      have e3 : decide (1125899906842624 < x) = false := decide_eq_false (by omega)
      have e4 : decide (y < -1125899906842624) = true := decide_eq_true h4
      go_enter Try.func17, Try.ntmps17
      go_wp2_with fail
      ((with_reducible refine (HV.out _ HA.out).mono ?_); rintro e w1 ⟨rfl, hb1⟩)
      go_wp2
      go_ret2
      exact ⟨_, rfl, sliS_nil _, hb1⟩
  rw [cutS_ok hm hxy hf]
  obtain ⟨f1, f2, f3, f4⟩ := farB_iff.1 hf
  have e1 : decide (x < -1125899906842624) = false := decide_eq_false (by omega)
  have e2 : decide (1125899906842624 < y) = false := decide_eq_false (by omega)
  have e3 : decide (1125899906842624 < x) = false := decide_eq_false (by omega)
  have e4 : decide (y < -1125899906842624) = false := decide_eq_false (by omega)
  have HCL := hidE (show cutL F x y = buildL (cutV F x y) (cutT F x y) from rfl)
  have HTL := hidE (cutT_len F x y)
  clear hm hxy hf f1 f2 f3 f4
  obtain ⟨i0, hi, hz0, hz1, hz2⟩ := info_parts Try.infoI64
  have HI := hidE hi; have HZ0 := hidE hz0; have HZ1 := hidE hz1; have HZ2 := hidE hz2
  clear hi hz0 hz1 hz2
  go_enter Try.func17, Try.ntmps17
  go_wp2_with fail
  ((with_reducible refine (HV.out _ HA.out).mono ?_); rintro e w1 ⟨rfl, hb1⟩)
  have HB1 := hidE hb1
  clear hb1 HV
  go_wp2_with fail
  ((with_reducible refine (rwhen_c F a cap _ (by omega) ((HA.out.past HB1.out).past (by (repeat (first | exact Below.refl _ _ | assumption | refine balloc ?_ _ | refine below_drewN ?_ _ | refine bstep (by assumption) ?_ | refine bstep (Past.prop _) ?_ | refine Below.setCell ?_ (by first | exact Nat.le_refl _ | (simp; done) | (simp; omega)) _))))).mono ?_); rintro e w2 ⟨v2, rfl, ho2, hb2⟩)
  have hlt1 : w.heap.size ≤ w1.heap.size := HB1.out.size
  have HO1 := hidE (own_two (base := w.heap.size) ((Blk.made w1 #[.int .i64 x, .int .i64 y] 2).past hb2) hlt1)
  have HB2 := hidE (bstep hb2 (balloc HB1.out _))
  have ho2' : w2.ownsRow (w1.alloc (.cells #[.int .i64 x, .int .i64 y] 2)).heap.size 2 1 v2 (F.map (·.1)).length (cellsI (F.map (·.1))) := by rw [List.length_map]; exact ho2
  have HS2 := hidE (src_own ho2')
  clear ho2 ho2' hb2 HB1
  go_wp2_with (at_builtin; refine wpList_append_src rfl (.tmp 34) (.tmp 36) 70 rfl w.heap.size 2 i0 Try.underlying70 HI.out HZ0.out HZ1.out HZ2.out _ _ _ rfl HO1.out _ _ rfl HS2.out (by simp; omega) HB2.out.size ?_; intro v3 w3 ho3 hg3)
  have hb3 : Below w.heap.size w w3 := Below.grown HB2.out hg3 HB2.out.size (fun k hk => own_block HO1.out hk)
  have ho3' : w3.ownsRow w.heap.size 2 1 v3 ([x, y] ++ F.map (·.1)).length (cellsI ([x, y] ++ F.map (·.1))) := by
    rw [cellsI_app, List.length_append, List.length_map]; simpa using ho3
  obtain ⟨a3, c3, rfl, _, _, hA3⟩ := sliI_own ho3'
  have hrt := rtimes_c ([x, y] ++ F.map (·.1)) a3 c3 w3 (by simp; omega) hA3
  have HRT := hidE hrt
  have HB3 := hidE hb3
  clear ho3 ho3' hg3 hb3 hA3 hrt HO1 HB2 HS2
  go_wp2_with fail
  ((with_reducible refine (HRT.out).mono ?_); rintro e w5 ⟨v5, rfl, ho5, hb5⟩)
  change w5.ownsRow w3.heap.size 2 1 v5 (cutT F x y).length (cellsI (cutT F x y)) at ho5
  obtain ⟨a5, c5, rfl, _, _, hA5⟩ := sliI_own ho5
  have HB5 := hidE (bstep hb5 HB3.out); have HA5 := hidE hA5
  clear hb5 hA5 ho5 HRT HB3
  clear e1 e2 e3 e4 e0
  generalize cutT F x y = ts at *
  go_wp2_with fail
  go_loopg [9, 10, 11] ts.length (fun gh vf vi _ wr => ∃ (k : Nat) (v : Value), v = vf ∧ vi = .int .i64 k ∧ k ≤ ts.length ∧ ts.length - k ≤ gh ∧ Below w5.heap.size w5 wr ∧ wr.ownsRow w5.heap.size 54 3 v (buildL (cutV F x y) (ts.take k)).length (cellsOfS (buildL (cutV F x y) (ts.take k))))
  case atStart => exact ⟨0, .slice none 0 0, rfl, rfl, Nat.zero_le _, by omega, Below.refl _ _, ⟨rfl, .inl ⟨rfl, rfl⟩⟩⟩
  case round =>
    obtain ⟨k, v, rfl, rfl, hk, hg, hbr, ho⟩ := hrel
    have HBR := hidE hbr; have HO := hidE ho
    clear ho
    by_cases hlt : k < ts.length
    · obtain ⟨b, off, rfl, hb, hc⟩ := (HA5.out.past hbr) (by omega)
      have d0 := hc k hlt
      have HC := hidE (fun (w7 : World) (h : Below wr.heap.size wr w7) => show w7.cell? ⟨b, off + k, none⟩ = some (.int .i64 (ts.getD k 0)) from (hc.below h hb) k hlt)
      have HST := hidE (buildL_step (g := cutV F x y) hlt)
      have HAR := hidE (show ArgS wr a F from (HA.out.past HB5.out).past hbr)
      have HAT := hidE (fun w hA => rat_c F a cap (ts.getD k 0) w (by omega) hA)
      have hfl := buildL_len (cutV F x y) ts k hk
      have HTL2 := HTL.out
      have HCV := hidE (show cutV F x y (ts.getD k 0) = if x ≤ ts.getD k 0 ∧ ts.getD k 0 < y then vat F (ts.getD k 0) else (0, 0) from rfl)
      have hwr : w5.heap.size ≤ wr.heap.size := HBR.out.size
      clear hc hbr
      generalize buildL (cutV F x y) (ts.take k) = f at *
      generalize cutV F x y (ts.getD k 0) = z at *
      generalize vat F (ts.getD k 0) = q at *
      generalize ts.getD k 0 = t at *
      have HWI := hidE (fun (w : World) (hB : w5.heap.size ≤ w.heap.size) (ho : w.ownsRow w5.heap.size 54 3 v f.length (cellsOfS f)) => rwith_c f v w5.heap.size t z.1 z.2 w hB (by omega) ho)
      obtain ⟨wo, rfl⟩ : ∃ wo : World, wo = wr := ⟨_, rfl⟩
      by_cases hq : x ≤ t ∧ t < y
      · have e1 : decide (x ≤ t) = true := decide_eq_true hq.1
        have e2 : decide (t < y) = true := decide_eq_true hq.2
        have hz : z = q := by rw [HCV.out, if_pos hq]
        subst hz
        clear HCV hq
        go_wp2_with fail
        ((with_reducible refine (HAT.out _ (HAR.out.past (by (repeat (first | exact Below.refl _ _ | assumption | refine balloc ?_ _ | refine below_drewN ?_ _ | refine bstep (by assumption) ?_ | refine bstep (Past.prop _) ?_ | refine Below.setCell ?_ (by first | exact Nat.le_refl _ | (simp; done) | (simp; omega)) _))))).mono ?_); rintro e w6 ⟨rfl, hb6⟩)
        have B6 := (Blk.made wo #[.int .i64 0, .int .i64 0] 26).past hb6
        have c0 := B6.cell 0; have c1 := B6.cell 1; have f6 := B6.free; have z6 := B6.lt
        simp at c0 c1
        have HBB6 := hidE B6
        have hbw6 : Below wo.heap.size wo w6 := bstep hb6 (balloc (Below.refl _ _) _)
        have HBW6 := hidE hbw6
        clear B6 hb6 hbw6 d0
        go_wp2_with fail
        have B7 := (HBB6.out.set 0 (.int .i64 z.1)).set 1 (.int .i64 z.2)
        have hb7 : Below wo.heap.size wo ((w6.setCell ⟨wo.heap.size, 0, none⟩ (.int .i64 z.1)).setCell ⟨wo.heap.size, 1, none⟩ (.int .i64 z.2)) := (HBW6.out.setCell (Nat.le_refl _) _).setCell (Nat.le_refl _) _
        clear c0 c1 f6 z6 HBB6 HBW6
        generalize ((w6.setCell ⟨wo.heap.size, 0, none⟩ (.int .i64 z.1)).setCell ⟨wo.heap.size, 1, none⟩ (.int .i64 z.2)) = w7 at *
        have d0 := HC.out _ hb7
        have g0 := B7.cell 0; have g1 := B7.cell 1; have hp7 := B7.lt
        simp at g0 g1
        have hbw : b < w7.heap.size := Nat.lt_of_lt_of_le hb hb7.size
        have HO7 := hidE (own_below HO.out hb7)
        have HB7 := hidE (bstep hb7 HBR.out)
        clear hb7 B7 HC hb
        refine wp_region_J 6 [] (nthR [detR v, detR (.slice (some ⟨b, off, none⟩) ts.length c5), detR (.int .i64 k), detR (.pointer (some ⟨b, off + k, none⟩)), detR (.int .i64 t), detR (V z.1 z.2)]) (fun _ => false) (by kernel_rfl) (by simp) (by kernel_rfl) (stab_nth (by simp [stab_det])) ?_ ?_ ?_
        · intro i o hi ho
          match i, hi with
          | 0, _ =>
            obtain rfl := Option.some.inj ho
            intro u x hd
            have hc := Past.cell x
            simp [go_sem, gives, frm, Act.put, nthR, detR, Region.wanted, Below.refl]
          | 1, _ =>
            obtain rfl := Option.some.inj ho
            intro u x hd
            have hc := Past.cell x
            simp [go_sem, gives, frm, Act.put, nthR, detR, Region.wanted, Below.refl]
          | 2, _ =>
            obtain rfl := Option.some.inj ho
            intro u x hd
            have hc := Past.cell x
            simp [go_sem, gives, frm, Act.put, nthR, detR, Region.wanted, Below.refl]
          | 3, _ =>
            obtain rfl := Option.some.inj ho
            intro u x hd
            have hc := Past.cell x
            have d1 := hd 1 (by decide) (by kernel_rfl)
            have d2 := hd 2 (by decide) (by kernel_rfl)
            simp only [nthR, detR, List.getD_cons_zero, List.getD_cons_succ] at d1 d2
            simp [go_sem, gives, frm, Act.put, nthR, detR, Region.wanted, Below.refl, d1, d2, hlt]
          | 4, _ =>
            obtain rfl := Option.some.inj ho
            intro u x hd
            have hc := Past.cell x
            have d3 := hd 3 (by decide) (by kernel_rfl)
            simp only [nthR, detR, List.getD_cons_zero, List.getD_cons_succ] at d3
            simp [go_sem, gives, frm, Act.put, nthR, detR, Region.wanted, Below.refl, hc, d3, d0, hbw]
          | 5, _ =>
            obtain rfl := Option.some.inj ho
            intro u x hd
            have hc := Past.cell x
            simp [go_sem, gives, frm, Act.put, nthR, detR, Region.wanted, Below.refl, hc, g0, g1, hp7]
          | i + 6, h => exact absurd h (by omega)
        · intro i o h; cases h
        · intro u x' hu hne
          have d0 := hu 0 (by decide); have d4 := hu 4 (by decide); have d5 := hu 5 (by decide)
          simp only [nthR, detR, List.getD_cons_zero, List.getD_cons_succ] at d0 d4 d5
          have HXX := hidE (x'.2)
          clear hu hne
          simp only [frm, List.take, Act.put, d0, d4, d5]
          clear d0 d4 d5 g0 g1
          generalize x'.1 = w8 at *
          have hb8 : Below w5.heap.size w5 w8 := bstep HXX.out HB7.out
          have HB8 := hidE hb8
          clear hb8
          go_wp2_with (go_at_call 43; ((with_reducible refine (HWI.out _ HB8.out.size (own_below HO7.out HXX.out)).mono ?_); rintro e w9 ⟨v', rfl, ho9, hg9⟩))
          have hb9 : Below w5.heap.size w5 w9 := HB8.out.grown hg9 HB8.out.size (fun k hk => own_block HO7.out hk)
          have hlen := withL_len f t z
          rw [← HST.out] at ho9
          have HB9 := hidE hb9; have HO9 := hidE ho9
          clear hb9 ho9 hg9
          go_wp2
          go_roundg (ts.length - (k + 1))
          case measure => omega
          case rel => exact ⟨k + 1, v', rfl, by go_num, by omega, Nat.le_refl _, HB9.out, HO9.out⟩
      · have hz : z = (0, 0) := by rw [HCV.out, if_neg hq]
        subst hz
        have hq' : (decide (x ≤ t) && decide (t < y)) = false := by
          rw [Bool.eq_false_iff]; intro h; simp at h; exact hq h
        clear HCV
        cases hx1 : decide (x ≤ t)
        · clear hq' hq
          go_wp2_with fail
          have B7 := Blk.made wo #[.int .i64 0, .int .i64 0] 26
          have hb7 : Below wo.heap.size wo (wo.alloc (.cells #[.int .i64 0, .int .i64 0] 26)) := balloc (Below.refl _ _) _
          clear d0
          generalize wo.alloc (.cells #[.int .i64 0, .int .i64 0] 26) = w7 at *
          have d0 := HC.out _ hb7
          have g0 := B7.cell 0; have g1 := B7.cell 1; have hp7 := B7.lt
          simp at g0 g1
          have hbw : b < w7.heap.size := Nat.lt_of_lt_of_le hb hb7.size
          have HO7 := hidE (own_below HO.out hb7)
          have HB7 := hidE (bstep hb7 HBR.out)
          clear hb7 B7 HC hb
          refine wp_region_J 6 [] (nthR [detR v, detR (.slice (some ⟨b, off, none⟩) ts.length c5), detR (.int .i64 k), detR (.pointer (some ⟨b, off + k, none⟩)), detR (.int .i64 t), detR (V 0 0)]) (fun _ => false) (by kernel_rfl) (by simp) (by kernel_rfl) (stab_nth (by simp [stab_det])) ?_ ?_ ?_
          · intro i o hi ho
            match i, hi with
            | 0, _ =>
              obtain rfl := Option.some.inj ho
              intro u x hd
              have hc := Past.cell x
              simp [go_sem, gives, frm, Act.put, nthR, detR, Region.wanted, Below.refl]
            | 1, _ =>
              obtain rfl := Option.some.inj ho
              intro u x hd
              have hc := Past.cell x
              simp [go_sem, gives, frm, Act.put, nthR, detR, Region.wanted, Below.refl]
            | 2, _ =>
              obtain rfl := Option.some.inj ho
              intro u x hd
              have hc := Past.cell x
              simp [go_sem, gives, frm, Act.put, nthR, detR, Region.wanted, Below.refl]
            | 3, _ =>
              obtain rfl := Option.some.inj ho
              intro u x hd
              have hc := Past.cell x
              have d1 := hd 1 (by decide) (by kernel_rfl)
              have d2 := hd 2 (by decide) (by kernel_rfl)
              simp only [nthR, detR, List.getD_cons_zero, List.getD_cons_succ] at d1 d2
              simp [go_sem, gives, frm, Act.put, nthR, detR, Region.wanted, Below.refl, d1, d2, hlt]
            | 4, _ =>
              obtain rfl := Option.some.inj ho
              intro u x hd
              have hc := Past.cell x
              have d3 := hd 3 (by decide) (by kernel_rfl)
              simp only [nthR, detR, List.getD_cons_zero, List.getD_cons_succ] at d3
              simp [go_sem, gives, frm, Act.put, nthR, detR, Region.wanted, Below.refl, hc, d3, d0, hbw]
            | 5, _ =>
              obtain rfl := Option.some.inj ho
              intro u x hd
              have hc := Past.cell x
              simp [go_sem, gives, frm, Act.put, nthR, detR, Region.wanted, Below.refl, hc, g0, g1, hp7]
            | i + 6, h => exact absurd h (by omega)
          · intro i o h; cases h
          · intro u x' hu hne
            have d0 := hu 0 (by decide); have d4 := hu 4 (by decide); have d5 := hu 5 (by decide)
            simp only [nthR, detR, List.getD_cons_zero, List.getD_cons_succ] at d0 d4 d5
            have HXX := hidE (x'.2)
            clear hu hne
            simp only [frm, List.take, Act.put, d0, d4, d5]
            clear d0 d4 d5 g0 g1
            generalize x'.1 = w8 at *
            have hb8 : Below w5.heap.size w5 w8 := bstep HXX.out HB7.out
            have HB8 := hidE hb8
            clear hb8
            go_wp2_with (go_at_call 43; ((with_reducible refine (HWI.out _ HB8.out.size (own_below HO7.out HXX.out)).mono ?_); rintro e w9 ⟨v', rfl, ho9, hg9⟩))
            have hb9 : Below w5.heap.size w5 w9 := HB8.out.grown hg9 HB8.out.size (fun k hk => own_block HO7.out hk)
            have hlen := withL_len f t (0, 0)
            rw [← HST.out] at ho9
            have HB9 := hidE hb9; have HO9 := hidE ho9
            clear hb9 ho9 hg9
            go_wp2
            go_roundg (ts.length - (k + 1))
            case measure => omega
            case rel => exact ⟨k + 1, v', rfl, by go_num, by omega, Nat.le_refl _, HB9.out, HO9.out⟩
        · have hx2 : decide (t < y) = false := by rw [hx1] at hq'; simpa using hq'
          clear hq' hq
          go_wp2_with fail
          have B7 := Blk.made wo #[.int .i64 0, .int .i64 0] 26
          have hb7 : Below wo.heap.size wo (wo.alloc (.cells #[.int .i64 0, .int .i64 0] 26)) := balloc (Below.refl _ _) _
          clear d0
          generalize wo.alloc (.cells #[.int .i64 0, .int .i64 0] 26) = w7 at *
          have d0 := HC.out _ hb7
          have g0 := B7.cell 0; have g1 := B7.cell 1; have hp7 := B7.lt
          simp at g0 g1
          have hbw : b < w7.heap.size := Nat.lt_of_lt_of_le hb hb7.size
          have HO7 := hidE (own_below HO.out hb7)
          have HB7 := hidE (bstep hb7 HBR.out)
          clear hb7 B7 HC hb
          refine wp_region_J 6 [] (nthR [detR v, detR (.slice (some ⟨b, off, none⟩) ts.length c5), detR (.int .i64 k), detR (.pointer (some ⟨b, off + k, none⟩)), detR (.int .i64 t), detR (V 0 0)]) (fun _ => false) (by kernel_rfl) (by simp) (by kernel_rfl) (stab_nth (by simp [stab_det])) ?_ ?_ ?_
          · intro i o hi ho
            match i, hi with
            | 0, _ =>
              obtain rfl := Option.some.inj ho
              intro u x hd
              have hc := Past.cell x
              simp [go_sem, gives, frm, Act.put, nthR, detR, Region.wanted, Below.refl]
            | 1, _ =>
              obtain rfl := Option.some.inj ho
              intro u x hd
              have hc := Past.cell x
              simp [go_sem, gives, frm, Act.put, nthR, detR, Region.wanted, Below.refl]
            | 2, _ =>
              obtain rfl := Option.some.inj ho
              intro u x hd
              have hc := Past.cell x
              simp [go_sem, gives, frm, Act.put, nthR, detR, Region.wanted, Below.refl]
            | 3, _ =>
              obtain rfl := Option.some.inj ho
              intro u x hd
              have hc := Past.cell x
              have d1 := hd 1 (by decide) (by kernel_rfl)
              have d2 := hd 2 (by decide) (by kernel_rfl)
              simp only [nthR, detR, List.getD_cons_zero, List.getD_cons_succ] at d1 d2
              simp [go_sem, gives, frm, Act.put, nthR, detR, Region.wanted, Below.refl, d1, d2, hlt]
            | 4, _ =>
              obtain rfl := Option.some.inj ho
              intro u x hd
              have hc := Past.cell x
              have d3 := hd 3 (by decide) (by kernel_rfl)
              simp only [nthR, detR, List.getD_cons_zero, List.getD_cons_succ] at d3
              simp [go_sem, gives, frm, Act.put, nthR, detR, Region.wanted, Below.refl, hc, d3, d0, hbw]
            | 5, _ =>
              obtain rfl := Option.some.inj ho
              intro u x hd
              have hc := Past.cell x
              simp [go_sem, gives, frm, Act.put, nthR, detR, Region.wanted, Below.refl, hc, g0, g1, hp7]
            | i + 6, h => exact absurd h (by omega)
          · intro i o h; cases h
          · intro u x' hu hne
            have d0 := hu 0 (by decide); have d4 := hu 4 (by decide); have d5 := hu 5 (by decide)
            simp only [nthR, detR, List.getD_cons_zero, List.getD_cons_succ] at d0 d4 d5
            have HXX := hidE (x'.2)
            clear hu hne
            simp only [frm, List.take, Act.put, d0, d4, d5]
            clear d0 d4 d5 g0 g1
            generalize x'.1 = w8 at *
            have hb8 : Below w5.heap.size w5 w8 := bstep HXX.out HB7.out
            have HB8 := hidE hb8
            clear hb8
            go_wp2_with (go_at_call 43; ((with_reducible refine (HWI.out _ HB8.out.size (own_below HO7.out HXX.out)).mono ?_); rintro e w9 ⟨v', rfl, ho9, hg9⟩))
            have hb9 : Below w5.heap.size w5 w9 := HB8.out.grown hg9 HB8.out.size (fun k hk => own_block HO7.out hk)
            have hlen := withL_len f t (0, 0)
            rw [← HST.out] at ho9
            have HB9 := hidE hb9; have HO9 := hidE ho9
            clear hb9 ho9 hg9
            go_wp2
            go_roundg (ts.length - (k + 1))
            case measure => omega
            case rel => exact ⟨k + 1, v', rfl, by go_num, by omega, Nat.le_refl _, HB9.out, HO9.out⟩
    · have hk' : k = ts.length := by omega
      subst hk'
      have ho := HO.out
      rw [List.take_length] at ho
      have HO2 := hidE ho; clear ho HO
      go_wp2
      go_ret2
      exact ⟨v, rfl, by rw [HCL.out]; exact sliS_own HO2.out, HB5.out.trans (HBR.out.mono HB5.out.size)⟩
end Go.Proofs.Ythgenmejjflceaa

namespace Go.Proofs.Ythgenmejjflceaa
open Go.ChangeShapes Go.WideShapes Go.ChangeAt Go.RowKit
attribute [local irreducible] Go.Calls

set_option maxRecDepth 100000 in
set_option maxHeartbeats 4000000 in
theorem rshift_c (F : List Sg) (d : Int) (a : Option Addr) (cap : Nat) (w : World) (hl : F.length ≤ 999999990) (hA : ArgS w a F) :
    Calls Try.prog 19 #[.slice a F.length cap, .int .i64 d] w (OfIs w (shiftS F d).1 (shiftS F d).2) := by
  have HA := hidE hA; clear hA
  have HV := hidE (fun w hA => rmayf_c F a cap w (by omega) hA)
  cases hm : mayB F
  · rw [shiftS_form hm]
    rw [hm] at HV
    clear hm
    go_enter Try.func19, Try.ntmps19
    go_wp2_with fail
    ((with_reducible refine (HV.out _ HA.out).mono ?_); rintro e w1 ⟨rfl, hb1⟩)
    go_wp2
    go_ret2
    exact ⟨_, rfl, sliS_nil _, hb1⟩
  rw [hm] at HV
  cases hd : okT d
  · rw [shiftS_far hm hd]
    have hq : d < -1125899906842624 ∨ (-1125899906842624 ≤ d ∧ 1125899906842624 < d) := by
      have : ¬ (-1125899906842624 ≤ d ∧ d ≤ 1125899906842624) := fun c => by rw [okT_iff.2 c] at hd; cases hd
      omega
    clear hm hd
    rcases hq with h | ⟨h, h2⟩
    · have e1 : decide (d < -1125899906842624) = true := decide_eq_true h
      go_enter Try.func19, Try.ntmps19
      go_wp2_with fail
      ((with_reducible refine (HV.out _ HA.out).mono ?_); rintro e w1 ⟨rfl, hb1⟩)
      go_wp2
      go_ret2
      exact ⟨_, rfl, sliS_nil _, hb1⟩
    · have e1 : decide (d < -1125899906842624) = false := decide_eq_false (by omega)
      have e2 : decide (1125899906842624 < d) = true := decide_eq_true h2
      go_enter Try.func19, Try.ntmps19
      go_wp2_with fail
      ((with_reducible refine (HV.out _ HA.out).mono ?_); rintro e w1 ⟨rfl, hb1⟩)
      go_wp2
      go_ret2
      exact ⟨_, rfl, sliS_nil _, hb1⟩
  have HOK := hidE (may_ok hm)
  have HOF := hidE (show ∀ (w : World) (a3 : Option Addr) (c3 : Nat), ArgS w a3 (shiftL F d) → Calls Try.prog 44 #[.slice a3 (shiftL F d).length c3] w (OfIs w (shiftS F d).1 (shiftS F d).2) from fun w a3 c3 hA3 => by
    cases ho : shiftOk F d
    · rw [shiftS_no hm hd ho]
      exact rof_bad (by rw [shiftL_len]; omega) hA3 ho
    · rw [shiftS_ok hm hd ho]
      exact rof_ok (by rw [shiftL_len]; omega) hA3 ho (isOf_self (shift_canon (mayB_iff.1 hm) ho)))
  obtain ⟨hd1, hd2⟩ := okT_iff.1 hd
  have e1 : decide (d < -1125899906842624) = false := decide_eq_false (by omega)
  have e2 : decide (1125899906842624 < d) = false := decide_eq_false (by omega)
  clear hm hd
  obtain ⟨i0, hi, hz0, hz1, hz2⟩ := info_parts Try.infoSeg
  have HI := hidE hi; have HZ0 := hidE hz0; have HZ1 := hidE hz1; have HZ2 := hidE hz2
  clear hi hz0 hz1 hz2
  generalize shiftS F d = D at *
  go_enter Try.func19, Try.ntmps19
  go_wp2_with fail
  ((with_reducible refine (HV.out _ HA.out).mono ?_); rintro e w1 ⟨rfl, hb1⟩)
  have HB1 := hidE hb1
  clear hb1 HV
  go_wp2_with fail
  go_loopg [6, 7] F.length (fun gh vf vi wr => ∃ (k : Nat) (v : Value), v = vf ∧ vi = .int .i64 k ∧ k ≤ F.length ∧ F.length - k ≤ gh ∧ Below w.heap.size w wr ∧ wr.ownsRow w.heap.size 54 3 v k (cellsOfS (shiftL (F.take k) d)))
  case atStart => exact ⟨0, .slice none 0 0, rfl, rfl, Nat.zero_le _, by omega, HB1.out, ⟨rfl, .inl ⟨rfl, rfl⟩⟩⟩
  case round =>
    obtain ⟨k, v, rfl, rfl, hk, hg, hbr, ho⟩ := hrel
    have HBR := hidE hbr; have HO := hidE ho
    clear ho
    by_cases hlt : k < F.length
    · obtain ⟨b, off, rfl, hbb, hc⟩ := (HA.out.past hbr) (by omega)
      obtain ⟨c0, c1, c2⟩ := hc.get hlt
      have HST := hidE (show cellsOfS (shiftL (F.take (k + 1)) d) = cellsOfS (shiftL (F.take k) d) ++ [.int .i64 (ats F k + d), .int .i64 (vls F k).1, .int .i64 (vls F k).2] by rw [shiftL_take hlt, cellsOfS_app]; rfl)
      have hu : -1125899906842624 ≤ ats F k ∧ ats F k ≤ 1125899906842624 := by
        have := HOK.out _ (List.getElem_mem hlt)
        unfold okS at this
        rw [Bool.and_eq_true, okT_iff] at this
        unfold ats
        rw [getD_get _ _ _ hlt]
        exact this.1
      have WR := hidE (show IntKind.i64.wrap (ats F k + d) = ats F k + d from IntWalk.i64_in _ (by omega))
      have hwr : w.heap.size ≤ wr.heap.size := HBR.out.size
      clear hc hbr hu
      generalize ats F k = u' at *
      generalize vls F k = z at *
      generalize cellsOfS (shiftL (F.take k) d) = cs at *
      obtain ⟨wo, rfl⟩ : ∃ wo : World, wo = wr := ⟨_, rfl⟩
      go_wp2_with fail
      refine wp_region_J 14 [0] (nthR [detR v, detR (.slice (some ⟨b, off, none⟩) F.length cap), detR (.int .i64 k), detR (.pointer (some ⟨b, off + k * 3, none⟩)), detR (.pointer (some ⟨b, off + k * 3, none⟩)), detR (.int .i64 u'), detR (.int .i64 d), detR (.int .i64 (u' + d)), detR (.slice (some ⟨b, off, none⟩) F.length cap), detR (.int .i64 k), detR (.pointer (some ⟨b, off + k * 3, none⟩)), detR (.pointer (some ⟨b, off + k * 3 + 1, none⟩)), detR (V z.1 z.2), detR (S (u' + d) z.1 z.2)]) (fun _ => false) (by kernel_rfl) (by simp) (by kernel_rfl) (stab_nth (by simp [stab_det])) ?_ ?_ ?_
      · intro i o hi ho
        match i, hi with
        | 0, _ =>
          obtain rfl := Option.some.inj ho
          intro u x hd
          have hc := Past.cell x
          simp [go_sem, gives, frm, Act.put, nthR, detR, Region.wanted, Below.refl]
        | 1, _ =>
          obtain rfl := Option.some.inj ho
          intro u x hd
          have hc := Past.cell x
          simp [go_sem, gives, frm, Act.put, nthR, detR, Region.wanted, Below.refl]
        | 2, _ =>
          obtain rfl := Option.some.inj ho
          intro u x hd
          have hc := Past.cell x
          simp [go_sem, gives, frm, Act.put, nthR, detR, Region.wanted, Below.refl]
        | 3, _ =>
          obtain rfl := Option.some.inj ho
          intro u x hd
          have hc := Past.cell x
          have d1 := hd 1 (by decide) (by kernel_rfl)
          have d2 := hd 2 (by decide) (by kernel_rfl)
          simp only [nthR, detR, List.getD_cons_zero, List.getD_cons_succ] at d1 d2
          simp [go_sem, gives, frm, Act.put, nthR, detR, Region.wanted, Below.refl, d1, d2, hlt]
        | 4, _ =>
          obtain rfl := Option.some.inj ho
          intro u x hd
          have hc := Past.cell x
          have d3 := hd 3 (by decide) (by kernel_rfl)
          simp only [nthR, detR, List.getD_cons_zero, List.getD_cons_succ] at d3
          simp [go_sem, gives, frm, Act.put, nthR, detR, Region.wanted, Below.refl, d3]
        | 5, _ =>
          obtain rfl := Option.some.inj ho
          intro u x hd
          have hc := Past.cell x
          have d4 := hd 4 (by decide) (by kernel_rfl)
          simp only [nthR, detR, List.getD_cons_zero, List.getD_cons_succ] at d4
          simp [go_sem, gives, frm, Act.put, nthR, detR, Region.wanted, Below.refl, hc, d4, c0, hbb]
        | 6, _ =>
          obtain rfl := Option.some.inj ho
          intro u x hd
          have hc := Past.cell x
          simp [go_sem, gives, frm, Act.put, nthR, detR, Region.wanted, Below.refl]
        | 7, _ =>
          obtain rfl := Option.some.inj ho
          intro u x hd
          have hc := Past.cell x
          have d5 := hd 5 (by decide) (by kernel_rfl)
          have d6 := hd 6 (by decide) (by kernel_rfl)
          simp only [nthR, detR, List.getD_cons_zero, List.getD_cons_succ] at d5 d6
          simp [go_sem, gives, frm, Act.put, nthR, detR, Region.wanted, Below.refl, d5, d6, WR.out]
        | 8, _ =>
          obtain rfl := Option.some.inj ho
          intro u x hd
          have hc := Past.cell x
          simp [go_sem, gives, frm, Act.put, nthR, detR, Region.wanted, Below.refl]
        | 9, _ =>
          obtain rfl := Option.some.inj ho
          intro u x hd
          have hc := Past.cell x
          simp [go_sem, gives, frm, Act.put, nthR, detR, Region.wanted, Below.refl]
        | 10, _ =>
          obtain rfl := Option.some.inj ho
          intro u x hd
          have hc := Past.cell x
          have d8 := hd 8 (by decide) (by kernel_rfl)
          have d9 := hd 9 (by decide) (by kernel_rfl)
          simp only [nthR, detR, List.getD_cons_zero, List.getD_cons_succ] at d8 d9
          simp [go_sem, gives, frm, Act.put, nthR, detR, Region.wanted, Below.refl, d8, d9, hlt]
        | 11, _ =>
          obtain rfl := Option.some.inj ho
          intro u x hd
          have hc := Past.cell x
          have d10 := hd 10 (by decide) (by kernel_rfl)
          simp only [nthR, detR, List.getD_cons_zero, List.getD_cons_succ] at d10
          simp [go_sem, gives, frm, Act.put, nthR, detR, Region.wanted, Below.refl, d10]
        | 12, _ =>
          obtain rfl := Option.some.inj ho
          intro u x hd
          have hc := Past.cell x
          have d11 := hd 11 (by decide) (by kernel_rfl)
          simp only [nthR, detR, List.getD_cons_zero, List.getD_cons_succ] at d11
          simp [go_sem, gives, frm, Act.put, nthR, detR, Region.wanted, Below.refl, hc, d11, c1, c2, hbb]
        | 13, _ =>
          obtain rfl := Option.some.inj ho
          intro u x hd
          have hc := Past.cell x
          have d7 := hd 7 (by decide) (by kernel_rfl)
          have d12 := hd 12 (by decide) (by kernel_rfl)
          simp only [nthR, detR, List.getD_cons_zero, List.getD_cons_succ] at d7 d12
          simp [go_sem, gives, frm, Act.put, nthR, detR, Region.wanted, Below.refl, d7, d12]
        | i + 14, h => exact absurd h (by omega)
      · intro i o hx ho
        simp only [List.mem_cons, List.not_mem_nil, or_false] at hx
        rcases hx with rfl
        · obtain rfl := Option.some.inj ho
          refine ⟨rfl, fun _ _ _ _ h => h, fun u x hd => ?_⟩
          refine ⟨rfl, v, rfl, fun w' => ?_⟩
          simp [go_sem, frm, Act.put]
      · intro u x' hu hne
        have d0 := hu 0 (by decide)
        have d13 := hu 13 (by decide)
        simp only [nthR, detR, List.getD_cons_zero, List.getD_cons_succ] at d0 d13
        have HXX := hidE (x'.2)
        clear hu hne c0 c1 c2
        simp only [frm, List.take, Act.put, d0, d13]
        clear d0 d13
        generalize x'.1 = w5 at *
        have HB5 := hidE (bstep HXX.out HBR.out)
        have HO5 := hidE (own_below HO.out HXX.out)
        have hsz := HB5.out.size
        go_wp2_with (at_builtin; refine wpList_append_own _ rfl (.tmp 23) (.tmp 37) 22 rfl w.heap.size 54 i0 (.agg #[.int .i64 0, .int .i64 0, .int .i64 0]) 3 24 Try.underlying22 HI.out HZ0.out HZ1.out HZ2.out rfl (by decide) _ _ _ rfl (HO5.out.alloc _) ⟨_, 0, none⟩ 1 1 [.int .i64 (u' + d), .int .i64 z.1, .int .i64 z.2] rfl rfl (new_cells_at _ #[.int .i64 (u' + d), .int .i64 z.1, .int .i64 z.2] 54 _ (by simp)) (by intro x hx; simp at hx; rcases hx with rfl | rfl | rfl <;> rfl) (by unfold maxLen; omega) (by omega) (by simp; omega) ?_; intro v' w6 hown6 hgrow6 _)
        have hb6 : Below w.heap.size w w6 := Below.grown (HB5.out.alloc hsz (.cells #[.int .i64 (u' + d), .int .i64 z.1, .int .i64 z.2] 54)) hgrow6 (by simp; omega) (fun k hk => own_block HO5.out hk)
        rw [← HST.out] at hown6
        have HB6 := hidE hb6; have HO6 := hidE hown6
        clear hb6 hown6 hgrow6
        go_wp2
        go_roundg (F.length - (k + 1))
        case measure => omega
        case rel => exact ⟨k + 1, v', rfl, by go_num, by omega, Nat.le_refl _, HB6.out, HO6.out⟩
    · have hk' : k = F.length := by omega
      subst hk'
      have ho := HO.out
      rw [List.take_length] at ho
      have ho' : wr.ownsRow w.heap.size 54 3 v (shiftL F d).length (cellsOfS (shiftL F d)) := by rw [shiftL_len]; exact ho
      obtain ⟨a3, c3, rfl, _, _, hA3⟩ := sliS_own ho'
      have HRT := hidE (HOF.out wr a3 c3 hA3)
      clear ho ho' HO
      go_wp2_with fail
      ((with_reducible refine (HRT.out).mono ?_); rintro e w6 ⟨v6, rfl, hv6, hb6⟩)
      go_wp2
      go_ret2
      exact ⟨v6, rfl, hv6, bstep hb6 HBR.out⟩
end Go.Proofs.Ythgenmejjflceaa
