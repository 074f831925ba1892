/- Package plan: which functions and names may be. No conditions but the sizes of the lists. Package plan: which names, and which reservations, may be. No conditions but the sizes of the lists. Package plan: which reservations may be. No conditions but the sizes of the lists. Package plan: copies of slices, in new memory. No conditions but the sizes of the lists. Slices that read as rows of reservations: eight cells each. No function of the program. No conditions. A region that draws its order, where each step leaves the world as it was but for draws and new blocks. No conditions. Package plan: which of two reservations comes first. No conditions. Package plan: which of two reservations comes first, the world told by an equation. No conditions. slices.SortFunc over reservations: its bodies and their types are the shelf's. No conditions. Sorting reservations: what order they are put in, and what a sorted row looks like. No conditions. Maps with strings as keys, whatever their elements: entries in the order of their coming. No function of the program. No conditions. Deleting from a map, and going through one, in whatever order. No function of the program. No conditions. Going through a map with strings as keys, at the operations; reading it, and writing it. No function of the program. No conditions. Package plan: how many reservations there are. No conditions but the sizes. Package plan: the reservation that has a number. No conditions but the sizes. Package plan: a plan that was made; a reservation in new memory. No conditions but the sizes. The contract of calc.Add. No conditions but the lists' sizes, and that the slices' cells read as integers. What functions have together, at each time: sums of functions never below 0. No program. No conditions. -/
import Derived.Test.YtjhhcljbmnomlaaGreatPRGA
import Derived.Test.YtjhhcljbmnomlaaGreatPRGF
import Derived.Test.YtjhhcljbmnomlaaGreatPRGB
import Derived.LoopTactic
import Derived.Lib.ConvBytes
import Derived.Test.YtjhhcljbmnomlaaGreatPRGD
import Derived.Sort.Grow
import Derived.Deep.LoopGhost
import Derived.Shelf.SlSortCmp.WholeK
import Derived.Shelf.SlLaysF0
import Derived.WalkKit
import Derived.Below
import Derived.Maps.Keyed
import Derived.Maps.RangeRun
import Derived.Carry
import Derived.MapKept
import Derived.Maps.RangeWalk
import Derived.Test.YtjhhcljbmnomlaaGreatPRGE
import Derived.Test.YtjhhcljbmnomlaaGreatPRMB
namespace Go.Proofs.YtjhhcljbmnomlaaGreat
open Go.ChangeShapes Go.WideShapes Go.ChangeAt Go.RowKit
attribute [local irreducible] Go.Calls

theorem isBelow_c (s : Sg) (w : World) : Calls Tryz.prog 103 #[S s.1 s.2.1 s.2.2] w fun e w' => e = .returned (.bool (!(nonneg s))) ∧ Below w.heap.size w w' := by
  obtain ⟨x, m, c⟩ := s
  by_cases h1 : m < 0
  · have e : nonneg (x, (m, c)) = false := nonneg_not.2 (.inl h1)
    have E := hidE e; clear e
    have d1 : decide (m < 0) = true := decide_eq_true h1
    clear h1
    go_enter Tryz.func103, Tryz.ntmps103
    go_wp2
    go_ret
    exact ⟨by rw [E.out]; rfl, by (repeat (first | exact Below.refl _ _ | assumption | refine balloc ?_ _ | refine below_drewN ?_ _ | refine bstep (by assumption) ?_ | refine bstep (Past.prop _) ?_ | refine Below.setCell ?_ (by first | exact Nat.le_refl _ | (simp; done) | (simp; omega)) _))⟩
  · have e : (!(nonneg (x, (m, c)))) = decide (c < 0) := by
      by_cases h2 : c < 0
      · rw [nonneg_not.2 (.inr h2), decide_eq_true h2]; rfl
      · have : nonneg (x, (m, c)) = true := by unfold nonneg; simp; omega
        rw [this, decide_eq_false h2]; rfl
    have E := hidE e; clear e
    have d1 : decide (m < 0) = false := decide_eq_false h1
    clear h1
    go_enter Tryz.func103, Tryz.ntmps103
    go_wp2
    go_ret
    exact ⟨by rw [E.out]; rfl, by (repeat (first | exact Below.refl _ _ | assumption | refine balloc ?_ _ | refine below_drewN ?_ _ | refine bstep (by assumption) ?_ | refine bstep (Past.prop _) ?_ | refine Below.setCell ?_ (by first | exact Nat.le_refl _ | (simp; done) | (simp; omega)) _))⟩
set_option maxRecDepth 100000 in
set_option maxHeartbeats 2000000 in
/-- Whether a run is below 0, by its index. -/
theorem index_c (F : List Sg) (a : Option Addr) (cap : Nat) (w : World) (hl : F.length ≤ 1000000000) (hA : ArgS w a F) :
    Calls Tryz.prog 154 #[.slice a F.length cap, .func (.func 103) #[] #[]] w fun e w' => ∃ n : Int, e = .returned (.int .i64 n) ∧ decide (0 ≤ n) = !(F.all nonneg) ∧ Below w.heap.size w w' := by
  have HA := hidE hA
  clear hA
  go_enter Tryz.func154, Tryz.ntmps154
  go_wp2
  go_loopw [8] (fun i wr => ∃ k : Nat, k ≤ F.length ∧ i = .int .i64 k ∧ (∀ j, j < k → nonneg (F.getD j (0, 0, 0)) = true) ∧ Below w.heap.size w wr) (fun i _ => F.length - (intOf i).toNat)
  case atStart => exact ⟨0, Nat.zero_le _, rfl, fun j hj => by omega, by (repeat (first | exact Below.refl _ _ | assumption | refine balloc ?_ _ | refine below_drewN ?_ _ | refine bstep (by assumption) ?_ | refine bstep (Past.prop _) ?_ | refine Below.setCell ?_ (by first | exact Nat.le_refl _ | (simp; done) | (simp; omega)) _))⟩
  case round =>
    obtain ⟨k, hk, rfl, hs, hb⟩ := hrel
    have HS := hidE hs; clear hs
    by_cases hlt : k < F.length
    · obtain ⟨b, off, rfl, hbz, hc⟩ := HA.out (by omega)
      have hbr : b < wr.heap.size := Nat.lt_of_lt_of_le hbz hb.size
      obtain ⟨e0, e1, e2⟩ := hc k hlt
      rw [← hb.cell hbz] at e0 e1 e2
      have HBI := hidE (fun w => isBelow_c (F.getD k (0, 0, 0)) w)
      have HN := hidE (fun h => below_some hlt h)
      have HQ := hidE (fun h j (hj : j < k + 1) => show nonneg (F.getD j (0, 0, 0)) = true from by
        by_cases e : j = k
        · subst e; exact h
        · exact HS.out j (by omega))
      generalize F.getD k (0, 0, 0) = s at *
      obtain ⟨x, m, c⟩ := s
      simp only at e0 e1 e2
      clear hc
      cases hn : nonneg (x, (m, c))
      · have HF := hidE (HN.out hn)
        rw [hn] at HBI
        clear HN HQ hn
        go_wp2_with fail
        ((with_reducible refine (HBI.out _).mono ?_); rintro e w2 ⟨rfl, hb2⟩)
        go_wp2
        go_ret
        exact ⟨_, rfl, by rw [HF.out]; simp, by (repeat (first | exact Below.refl _ _ | assumption | refine balloc ?_ _ | refine below_drewN ?_ _ | refine bstep (by assumption) ?_ | refine bstep (Past.prop _) ?_ | refine Below.setCell ?_ (by first | exact Nat.le_refl _ | (simp; done) | (simp; omega)) _))⟩
      · have HF := hidE (HQ.out hn)
        rw [hn] at HBI
        clear HN HQ hn
        go_wp2_with fail
        ((with_reducible refine (HBI.out _).mono ?_); rintro e w2 ⟨rfl, hb2⟩)
        go_wp2
        exact ⟨⟨k + 1, by omega, by go_num, HF.out, by (repeat (first | exact Below.refl _ _ | assumption | refine balloc ?_ _ | refine below_drewN ?_ _ | refine bstep (by assumption) ?_ | refine bstep (Past.prop _) ?_ | refine Below.setCell ?_ (by first | exact Nat.le_refl _ | (simp; done) | (simp; omega)) _))⟩, by simp [intOf]; omega⟩
    · have hkl : k = F.length := by omega
      have HF := hidE (below_none (F := F) (by rw [← hkl]; exact HS.out))
      clear hkl HS
      go_wp2
      go_ret
      exact ⟨_, rfl, by rw [HF.out]; simp, by (repeat (first | exact Below.refl _ _ | assumption | refine balloc ?_ _ | refine below_drewN ?_ _ | refine bstep (by assumption) ?_ | refine bstep (Past.prop _) ?_ | refine Below.setCell ?_ (by first | exact Nat.le_refl _ | (simp; done) | (simp; omega)) _))⟩
theorem contains_c (F : List Sg) (a : Option Addr) (cap : Nat) (w : World) (hl : F.length ≤ 1000000000) (hA : ArgS w a F) :
    Calls Tryz.prog 102 #[.slice a F.length cap, .func (.func 103) #[] #[]] w fun e w' => e = .returned (.bool (!(F.all nonneg))) ∧ Below w.heap.size w w' := by
  have HI := hidE (index_c F a cap w hl hA)
  clear hA
  go_enter Tryz.func102, Tryz.ntmps102
  go_wp2_with fail
  ((with_reducible refine (HI.out).mono ?_); rintro e w1 ⟨n, rfl, hn, hb1⟩)
  have HN := hidE hn
  clear hn
  go_wp2
  go_ret
  exact ⟨by rw [← HN.out]; rfl, by (repeat (first | exact Below.refl _ _ | assumption | refine balloc ?_ _ | refine below_drewN ?_ _ | refine bstep (by assumption) ?_ | refine bstep (Past.prop _) ?_ | refine Below.setCell ?_ (by first | exact Nat.le_refl _ | (simp; done) | (simp; omega)) _))⟩
theorem isPos_c (F : List Sg) (a : Option Addr) (cap : Nat) (w : World) (hl : F.length ≤ 1000000000) (hA : ArgS w a F) :
    Calls Tryz.prog 54 #[.slice a F.length cap] w fun e w' => e = .returned (.bool (posB F)) ∧ Below w.heap.size w w' := by
  have HM := hidE (pmay_c F a cap w (by omega) hA)
  have HA := hidE hA
  clear hA
  unfold posB
  cases hm : mayB F
  · rw [hm] at HM
    clear hm
    go_enter Tryz.func54, Tryz.ntmps54
    go_wp2_with fail
    ((with_reducible refine (HM.out).mono ?_); rintro e w1 ⟨rfl, hb1⟩)
    go_wp2
    go_ret
    exact ⟨rfl, by (repeat (first | exact Below.refl _ _ | assumption | refine balloc ?_ _ | refine below_drewN ?_ _ | refine bstep (by assumption) ?_ | refine bstep (Past.prop _) ?_ | refine Below.setCell ?_ (by first | exact Nat.le_refl _ | (simp; done) | (simp; omega)) _))⟩
  · rw [hm] at HM
    clear hm
    go_enter Tryz.func54, Tryz.ntmps54
    go_wp2_with fail
    ((with_reducible refine (HM.out).mono ?_); rintro e w1 ⟨rfl, hb1⟩)
    go_wp2_with fail
    ((with_reducible refine (contains_c F a cap _ hl (HA.out.past hb1)).mono ?_); rintro e w2 ⟨rfl, hb2⟩)
    go_wp2
    go_ret
    exact ⟨by simp, by (repeat (first | exact Below.refl _ _ | assumption | refine balloc ?_ _ | refine below_drewN ?_ _ | refine bstep (by assumption) ?_ | refine bstep (Past.prop _) ?_ | refine Below.setCell ?_ (by first | exact Nat.le_refl _ | (simp; done) | (simp; omega)) _))⟩
end Go.Proofs.YtjhhcljbmnomlaaGreat

namespace Go.Proofs.YtjhhcljbmnomlaaGreat
open Go.ChangeShapes Go.WideShapes Go.ChangeAt Go.RowKit
attribute [local irreducible] Go.Calls

abbrev nmV (l : List UInt8) : Value := .string ⟨l.toArray⟩
/-- A string's bytes, in new memory. -/
theorem conv_u (u : List UInt8) (w : World) : ∃ (cap : Nat) (w1 : World), (convert 9 174 (nmV u)).run Tryz.prog w = .ok (.slice (some ⟨w.heap.size, 0, none⟩) u.length cap) w1 ∧ Below w.heap.size w w1 ∧ w.heap.size < w1.heap.size ∧
    ∀ j, j < u.length → w1.cell? ⟨w.heap.size, j, none⟩ = some (.int .u8 (u.getD j 0).toNat) := by
  have slen : (⟨u.toArray⟩ : ByteArray).size = u.length := by simp [ByteArray.size]
  have hr := Lib.run_convert_string_bytes w 9 174 5 ⟨u.toArray⟩ Tryz.underlying9 Tryz.underlying174 Tryz.underlying5
  rw [slen] at hr
  refine ⟨_, _, hr, ⟨rfl, rfl, rfl, by rw [Lib.bytesWorld_size]; omega, fun k hk => Lib.bytesWorld_at_old w _ _ k hk⟩, by rw [Lib.bytesWorld_size]; omega, fun j hj => ?_⟩
  have := Lib.bytesWorld_cell w 5 ⟨u.toArray⟩ j (by rw [slen]; exact hj)
  simpa using this
theorem name_no {u : List UInt8} {k : Nat} (hk : k < u.length) (h : chrB (u.getD k 0) = false) : nameB u = false := by
  unfold nameB
  have : u.all chrB = false := by
    rw [List.all_eq_false]
    refine ⟨u.getD k 0, ?_, by rw [h]; decide⟩
    rw [List.getD_eq_getElem?_getD, List.getElem?_eq_getElem hk]; exact List.getElem_mem hk
  rw [this, Bool.and_false]
theorem name_yes {u : List UInt8} (h1 : 1 ≤ u.length) (h2 : u.length ≤ 16) (h : ∀ j, j < u.length → chrB (u.getD j 0) = true) : nameB u = true := by
  unfold nameB
  have : u.all chrB = true := by
    rw [List.all_eq_true]
    intro x hx
    obtain ⟨i, hi, rfl⟩ := List.getElem_of_mem hx
    have := h i hi
    rwa [List.getD_eq_getElem?_getD, List.getElem?_eq_getElem hi] at this
  rw [this, decide_eq_true ⟨h1, h2⟩]; rfl
set_option maxRecDepth 100000 in
set_option maxHeartbeats 2000000 in
theorem isName_c (u : List UInt8) (w : World) (hu : u.length ≤ 1000000) :
    Calls Tryz.prog 59 #[nmV u] w fun e w' => e = .returned (.bool (nameB u)) ∧ Below w.heap.size w w' := by
  have slen : (⟨u.toArray⟩ : ByteArray).size = u.length := by simp [ByteArray.size]
  by_cases h1 : u.length < 1
  · have e : nameB u = false := by unfold nameB; rw [decide_eq_false (by omega)]; rfl
    have E := hidE e; clear e slen
    have d1 : decide (u.length < 1) = true := decide_eq_true (by omega)
    have d1' : decide ((u.length : Int) < 1) = true := decide_eq_true (by omega)
    clear h1
    go_enter Tryz.func59, Tryz.ntmps59
    go_wp2
    go_ret
    exact ⟨by rw [E.out]; rfl, by (repeat (first | exact Below.refl _ _ | assumption | refine balloc ?_ _ | refine below_drewN ?_ _ | refine bstep (by assumption) ?_ | refine bstep (Past.prop _) ?_ | refine Below.setCell ?_ (by first | exact Nat.le_refl _ | (simp; done) | (simp; omega)) _))⟩
  by_cases h2 : 16 < u.length
  · have e : nameB u = false := by unfold nameB; rw [decide_eq_false (by omega)]; rfl
    have E := hidE e; clear e slen
    have d1 : decide ((u.length : Int) < 1) = false := decide_eq_false (by omega)
    have d2 : decide ((16 : Int) < (u.length : Int)) = true := decide_eq_true (by omega)
    clear h1 h2
    go_enter Tryz.func59, Tryz.ntmps59
    go_wp2
    go_ret
    exact ⟨by rw [E.out]; rfl, by (repeat (first | exact Below.refl _ _ | assumption | refine balloc ?_ _ | refine below_drewN ?_ _ | refine bstep (by assumption) ?_ | refine bstep (Past.prop _) ?_ | refine Below.setCell ?_ (by first | exact Nat.le_refl _ | (simp; done) | (simp; omega)) _))⟩
  have d1 : decide ((u.length : Int) < 1) = false := decide_eq_false (by omega)
  have d2 : decide ((16 : Int) < (u.length : Int)) = false := decide_eq_false (by omega)
  obtain ⟨cap, w1, hrun, hb1, hz1, hcel⟩ := conv_u u w
  have HC := hidE hcel
  have HL := hidE (And.intro h1 h2)
  clear hcel h1 h2 slen
  go_enter Tryz.func59, Tryz.ntmps59
  go_upto_region 3 with fail
  go_wp2
  have hb0 : Below w.heap.size w w1 := hb1
  clear hrun d1 d2
  go_loopw [16] (fun i wr => ∃ k : Nat, k ≤ u.length ∧ i = .int .i64 k ∧ (∀ j, j < k → chrB (u.getD j 0) = true) ∧ wr = w1) (fun i _ => u.length - (intOf i).toNat)
  case atStart => exact ⟨0, Nat.zero_le _, rfl, fun j hj => by omega, rfl⟩
  case round =>
    obtain ⟨k, hk, rfl, hs, rfl⟩ := hrel
    have HS := hidE hs; clear hs
    by_cases hlt : k < u.length
    · have e0 := HC.out k hlt
      have HN := hidE (fun h => name_no hlt h)
      have HQ := hidE (fun h j (hj : j < k + 1) => show chrB (u.getD j 0) = true from by
        by_cases e : j = k
        · subst e; exact h
        · exact HS.out j (by omega))
      have hbt : (u.getD k 0).toNat < 256 := (u.getD k 0).toNat_lt
      generalize u.getD k 0 = b at *
      have HCH := hidE (show chrB b = ((decide (97 ≤ b.toNat) && decide (b.toNat ≤ 122)) || (decide (48 ≤ b.toNat) && decide (b.toNat ≤ 57))) from rfl)
      generalize hbn : b.toNat = n at *
      clear hbn
      go_wp2
      all_goals first
        | (go_ret; exact ⟨by rw [HN.out (by rw [HCH.out]; simp; omega)]; rfl, hb0⟩)
        | exact ⟨⟨k + 1, by omega, by go_num, HQ.out (by rw [HCH.out]; simp; omega), by first | trivial | rfl⟩, by simp [intOf]; omega⟩
    · have hkl : k = u.length := by omega
      have h1 := HL.out.1; have h2 := HL.out.2
      have hall := HS.out
      rw [hkl] at hall
      have HF := hidE (name_yes (by omega) (by omega) hall)
      clear hkl HS h1 h2 hall
      go_wp2
      go_ret
      exact ⟨by rw [HF.out]; rfl, hb0⟩
end Go.Proofs.YtjhhcljbmnomlaaGreat

namespace Go.Proofs.YtjhhcljbmnomlaaGreat
open Go.ChangeShapes Go.WideShapes Go.ChangeAt Go.RowKit
attribute [local irreducible] Go.Calls

/-- A reservation's value. -/
abbrev rvV (id seq : Int) (u : List UInt8) (fr to' : Int) (vT vW vA : Value) : Value := .agg #[.int .u32 id, .int .u32 seq, nmV u, .int .i64 fr, .int .i64 to', vT, vW, vA]
set_option maxRecDepth 100000 in
set_option maxHeartbeats 2000000 in
theorem may_c (id seq : Int) (u : List UInt8) (fr to' : Int) (vT vW : Value) (a : Option Addr) (cap : Nat) (A : List Sg) (w : World) (hu : u.length ≤ 1000000) (hl : A.length ≤ 1000000000) (hA : ArgS w a A) :
    Calls Tryz.prog 17 #[rvV id seq u fr to' vT vW (.slice a A.length cap)] w fun e w' => e = .returned (.bool (mayR id u A)) ∧ Below w.heap.size w w' := by
  have HE := hidE (fun w (h : ArgS w a A) => ends_c A a cap w (by omega) h)
  have HN := hidE (fun w => isName_c u w hu)
  have HP := hidE (fun w (h : ArgS w a A) => isPos_c A a cap w hl h)
  have HA := hidE hA
  have HM := hidE (show mayR id u A = (decide (id ≠ 0) && nameB u && decide (A.length ≤ 1024) && posB A && (endsL A).2.2 && decide (0 ≤ (endsL A).1) && decide ((endsL A).2.1 ≤ 1099511627776)) from rfl)
  clear hA hu
  generalize mayR id u A = b at *
  generalize endsL A = g at *
  obtain ⟨g1, g2, g3⟩ := g
  simp only at HE HM
  obtain ⟨w0, hw0⟩ : ∃ w0, w0 = w.alloc (Obj.cells #[.int .u32 id, .int .u32 seq, nmV u, .int .i64 fr, .int .i64 to', vT, vW, .slice a A.length cap] 50) := ⟨_, rfl⟩
  have B1 : Blk w0 w.heap.size #[.int .u32 id, .int .u32 seq, nmV u, .int .i64 fr, .int .i64 to', vT, vW, .slice a A.length cap] 50 := by rw [hw0]; exact Blk.made _ _ _
  have hb0 : Below w.heap.size w w0 := by rw [hw0]; (repeat (first | exact Below.refl _ _ | assumption | refine balloc ?_ _ | refine below_drewN ?_ _ | refine bstep (by assumption) ?_ | refine bstep (Past.prop _) ?_ | refine Below.setCell ?_ (by first | exact Nat.le_refl _ | (simp; done) | (simp; omega)) _))
  have HB := hidE B1
  go_enter Tryz.func17, Tryz.ntmps17
  go_upto_region 1 with fail
  rw [← hw0]
  clear hw0
  have b7 := B1.cell 7; have bz := B1.lt
  simp at b7
  clear B1
  go_upto_region 2 with ((with_reducible refine (HE.out _ (HA.out.past hb0)).mono ?_); rintro e w1 ⟨rfl, hb1⟩)
  have B1 := HB.out.past hb1
  have hb01 : Below w.heap.size w w1 := by (repeat (first | exact Below.refl _ _ | assumption | refine balloc ?_ _ | refine below_drewN ?_ _ | refine bstep (by assumption) ?_ | refine bstep (Past.prop _) ?_ | refine Below.setCell ?_ (by first | exact Nat.le_refl _ | (simp; done) | (simp; omega)) _))
  have HA1 := hidE (HA.out.past hb01)
  clear b7 bz HE HB HA hb1 hb0
  have b0 := B1.cell 0; have b2 := B1.cell 2; have b7 := B1.cell 7; have bz := B1.lt
  simp at b0 b2 b7
  by_cases h0 : id = 0
  · have HF := hidE (show b = false by rw [HM.out, h0]; simp)
    subst h0
    clear HM HN HP
    go_wp2
    go_ret
    exact ⟨by rw [HF.out]; rfl, by (repeat (first | exact Below.refl _ _ | assumption | refine balloc ?_ _ | refine below_drewN ?_ _ | refine bstep (by assumption) ?_ | refine bstep (Past.prop _) ?_ | refine Below.setCell ?_ (by first | exact Nat.le_refl _ | (simp; done) | (simp; omega)) _))⟩
  have d0 : (id == 0) = false := beq_eq_false_iff_ne.2 h0
  rw [show decide (id ≠ 0) = true from decide_eq_true h0, Bool.true_and] at HM
  have d1 : decide (id = 0) = false := decide_eq_false h0
  cases hn : nameB u
  · rw [hn] at HN HM
    have HF := hidE (show b = false by rw [HM.out]; simp)
    clear HM HP hn
    go_wp2_with fail
    ((with_reducible refine (HN.out _).mono ?_); rintro e w2 ⟨rfl, hb2⟩)
    go_wp2
    go_ret
    exact ⟨by rw [HF.out]; rfl, by (repeat (first | exact Below.refl _ _ | assumption | refine balloc ?_ _ | refine below_drewN ?_ _ | refine bstep (by assumption) ?_ | refine bstep (Past.prop _) ?_ | refine Below.setCell ?_ (by first | exact Nat.le_refl _ | (simp; done) | (simp; omega)) _))⟩
  rw [hn] at HN HM
  clear hn
  have B2' := hidE B1
  have hA2 := HA1.out
  by_cases hlen : 1024 < A.length
  · have HF := hidE (show b = false by rw [HM.out, decide_eq_false (show ¬(A.length ≤ 1024) from by omega)]; simp)
    have d2 : decide ((A.length : Int) ≤ 1024) = false := decide_eq_false (by omega)
    clear HM HP hlen
    go_wp2_with fail
    ((with_reducible refine (HN.out _).mono ?_); rintro e w2 ⟨rfl, hb2⟩)
    have b7' := (B2'.out.past hb2).cell 7
    simp at b7'
    go_wp2
    go_ret
    exact ⟨by rw [HF.out]; rfl, by (repeat (first | exact Below.refl _ _ | assumption | refine balloc ?_ _ | refine below_drewN ?_ _ | refine bstep (by assumption) ?_ | refine bstep (Past.prop _) ?_ | refine Below.setCell ?_ (by first | exact Nat.le_refl _ | (simp; done) | (simp; omega)) _))⟩
  rw [decide_eq_true (show A.length ≤ 1024 from by omega)] at HM
  have d2 : decide ((A.length : Int) ≤ 1024) = true := decide_eq_true (by omega)
  cases hp : posB A
  · rw [hp] at HP HM
    have HF := hidE (show b = false by rw [HM.out]; simp)
    clear HM hp hlen
    go_wp2_with fail
    ((with_reducible refine (HN.out _).mono ?_); rintro e w2 ⟨rfl, hb2⟩)
    have b7' := (B2'.out.past hb2).cell 7
    simp at b7'
    go_wp2_with fail
    ((with_reducible refine (HP.out _ (HA1.out.past hb2)).mono ?_); rintro e w3 ⟨rfl, hb3⟩)
    go_wp2
    go_ret
    exact ⟨by rw [HF.out]; rfl, by (repeat (first | exact Below.refl _ _ | assumption | refine balloc ?_ _ | refine below_drewN ?_ _ | refine bstep (by assumption) ?_ | refine bstep (Past.prop _) ?_ | refine Below.setCell ?_ (by first | exact Nat.le_refl _ | (simp; done) | (simp; omega)) _))⟩
  rw [hp] at HP HM
  have HF := hidE (show b = (g3 && decide (0 ≤ g1) && decide (g2 ≤ 1099511627776)) by rw [HM.out]; simp)
  clear HM hp hlen
  go_wp2_with fail
  ((with_reducible refine (HN.out _).mono ?_); rintro e w2 ⟨rfl, hb2⟩)
  have b7' := (B2'.out.past hb2).cell 7
  simp at b7'
  go_wp2_with fail
  ((with_reducible refine (HP.out _ (HA1.out.past hb2)).mono ?_); rintro e w3 ⟨rfl, hb3⟩)
  go_wp2
  all_goals
    go_ret
    exact ⟨by rw [HF.out]; simp [*] <;> omega, by (repeat (first | exact Below.refl _ _ | assumption | refine balloc ?_ _ | refine below_drewN ?_ _ | refine bstep (by assumption) ?_ | refine bstep (Past.prop _) ?_ | refine Below.setCell ?_ (by first | exact Nat.le_refl _ | (simp; done) | (simp; omega)) _))⟩
end Go.Proofs.YtjhhcljbmnomlaaGreat

namespace Go.Proofs.YtjhhcljbmnomlaaGreat
open Go.ChangeShapes Go.WideShapes Go.ChangeAt Go.RowKit
attribute [local irreducible] Go.Calls

theorem srcV_below {w w' : World} {sz n : Nat} {v : Value} {ys : List Value} (h : SrcV w sz v n ys) (hb : Below w.heap.size w w') : SrcV w' sz v n ys := by
  obtain ⟨a, cap, e, h0, h1, h2, h3⟩ := h
  refine ⟨a, cap, e, h0, h1, h2, fun ad ha j u hu => ?_⟩
  have hc := h3 ad ha j u hu
  exact (hb.cell (World.block_lt_of_cell? w _ hc)).trans hc
theorem own_src {w : World} {B : Nat} {e : TypeId} {sz : Nat} {v : Value} {n : Nat} {xs : List Value} (h : w.ownsRow B e sz v n xs) (h1 : ∀ u ∈ xs, u.oneCell' = true) : SrcV w sz v n xs := by
  have hl := h.1
  obtain ⟨_, h2 | ⟨g, cap, cur, h3, h4, h5, h6⟩⟩ := id h
  · obtain ⟨rfl, rfl⟩ := h2
    exact ⟨none, 0, rfl, fun _ => ⟨rfl, rfl⟩, hl, h1, fun ad e => by cases e⟩
  · subst h3
    exact ⟨_, cap, rfl, (fun e => by cases e), hl, h1, fun ad e j u hu => by cases e; exact h.cells rfl j u hu⟩
/-- What comes back is a copy, in new memory. -/
def CopyIs (w : World) (e : TypeId) (sz n : Nat) (ys : List Value) (x : Ending) (w' : World) : Prop := ∃ v, x = .returned v ∧ w'.ownsRow w.heap.size e sz v n ys ∧ Below w.heap.size w w'
theorem copiedSeg_c {w : World} {v : Value} {n : Nat} {ys : List Value} (h : SrcV w 3 v n ys) (hn : n ≤ 1099511627776) :
    Calls Tryz.prog 55 #[v] w (CopyIs w 105 3 n ys) := by
  obtain ⟨ix, hix, hz0, hz1, hz2⟩ := info_parts Tryz.infoSeg
  have HI := hidE hix; have HZ0 := hidE hz0; have HZ1 := hidE hz1; have HZ2 := hidE hz2; have HS := hidE h
  obtain ⟨a, cap, rfl, _, _, _, _⟩ := h
  clear hix hz0 hz1 hz2
  go_enter Tryz.func55, Tryz.ntmps55
  go_wp2_with (at_builtin; go_loud (refine list_appV rfl (.const (.slice none 0 0)) (.tmp 3) 22 rfl w.heap.size 105 ix _ 3 24 Tryz.underlying22 HI.out HZ0.out HZ1.out HZ2.out rfl (by decide) (.slice none 0 0) 0 [] rfl (own_nil _ _ _) _ n ys rfl HS.out (by omega) (by omega) (Nat.le_refl _) ?_); intro v1 w5 own1 hg1; rw [Nat.zero_add, List.nil_append] at own1)
  go_ret
  exact ⟨v1, rfl, own1, Below.grown (Below.refl _ _) hg1 (Nat.le_refl _) (fun k e => by cases e)⟩
theorem copiedPart_c {w : World} {v : Value} {n : Nat} {ys : List Value} (h : SrcV w 5 v n ys) (hn : n ≤ 1099511627776) :
    Calls Tryz.prog 104 #[v] w (CopyIs w 177 5 n ys) := by
  obtain ⟨ix, hix, hz0, hz1, hz2⟩ := info_parts Tryz.infoPart
  have HI := hidE hix; have HZ0 := hidE hz0; have HZ1 := hidE hz1; have HZ2 := hidE hz2; have HS := hidE h
  obtain ⟨a, cap, rfl, _, _, _, _⟩ := h
  clear hix hz0 hz1 hz2
  go_enter Tryz.func104, Tryz.ntmps104
  go_wp2_with (at_builtin; go_loud (refine list_appV rfl (.const (.slice none 0 0)) (.tmp 3) 45 rfl w.heap.size 177 ix _ 5 32 Tryz.underlying45 HI.out HZ0.out HZ1.out HZ2.out rfl (by decide) (.slice none 0 0) 0 [] rfl (own_nil _ _ _) _ n ys rfl HS.out (by omega) (by omega) (Nat.le_refl _) ?_); intro v1 w5 own1 hg1; rw [Nat.zero_add, List.nil_append] at own1)
  go_ret
  exact ⟨v1, rfl, own1, Below.grown (Below.refl _ _) hg1 (Nat.le_refl _) (fun k e => by cases e)⟩
theorem Tryz.infoPcQ : (Tryz.prog.info? 180).map (fun i => (i.zero, i.size, i.bytes)) = some (some (.agg #[.int .i64 0, .int .i64 0]), 2, 16) := by kernel_rfl
theorem copiedPiece_c {w : World} {v : Value} {n : Nat} {ys : List Value} (h : SrcV w 2 v n ys) (hn : n ≤ 1099511627776) :
    Calls Tryz.prog 105 #[v] w (CopyIs w 180 2 n ys) := by
  obtain ⟨ix, hix, hz0, hz1, hz2⟩ := info_parts Tryz.infoPcQ
  have HI := hidE hix; have HZ0 := hidE hz0; have HZ1 := hidE hz1; have HZ2 := hidE hz2; have HS := hidE h
  obtain ⟨a, cap, rfl, _, _, _, _⟩ := h
  clear hix hz0 hz1 hz2
  go_enter Tryz.func105, Tryz.ntmps105
  go_wp2_with (at_builtin; go_loud (refine list_appV rfl (.const (.slice none 0 0)) (.tmp 3) 48 rfl w.heap.size 180 ix _ 2 16 Tryz.underlying48 HI.out HZ0.out HZ1.out HZ2.out rfl (by decide) (.slice none 0 0) 0 [] rfl (own_nil _ _ _) _ n ys rfl HS.out (by omega) (by omega) (Nat.le_refl _) ?_); intro v1 w5 own1 hg1; rw [Nat.zero_add, List.nil_append] at own1)
  go_ret
  exact ⟨v1, rfl, own1, Below.grown (Below.refl _ _) hg1 (Nat.le_refl _) (fun k e => by cases e)⟩
end Go.Proofs.YtjhhcljbmnomlaaGreat

namespace Go.Proofs.YtjhhcljbmnomlaaGreat
open Go.ChangeShapes Go.WideShapes Go.ChangeAt Go.RowKit

/-- A reservation, as it lies in memory. -/
structure Rw where
  id : Int
  seq : Int
  u : List UInt8
  fr : Int
  to' : Int
  vT : Value
  vW : Value
  vA : Value
def rw0 : Rw := ⟨0, 0, [], 0, 0, .slice none 0 0, .slice none 0 0, .slice none 0 0⟩
abbrev Rw.cells (x : Rw) : List Value := [.int .u32 x.id, .int .u32 x.seq, nmV x.u, .int .i64 x.fr, .int .i64 x.to', x.vT, x.vW, x.vA]
abbrev rwV (x : Rw) : Value := rvV x.id x.seq x.u x.fr x.to' x.vT x.vW x.vA
/-- Its slices are slices, and its name isn't longer than a string may be. -/
def Rw.fit (x : Rw) : Prop := (∃ a n c, x.vT = .slice a n c) ∧ (∃ a n c, x.vW = .slice a n c) ∧ (∃ a n c, x.vA = .slice a n c) ∧ x.u.length ≤ maxLen
def cellsRw : List Rw → List Value
  | [] => []
  | x :: r => .int .u32 x.id :: .int .u32 x.seq :: nmV x.u :: .int .i64 x.fr :: .int .i64 x.to' :: x.vT :: x.vW :: x.vA :: cellsRw r
theorem cellsRw_len : ∀ l, (cellsRw l).length = l.length * 8
  | [] => rfl
  | s :: r => by simp only [cellsRw, List.length_cons, cellsRw_len r]; omega
theorem cellsRw_app : ∀ l r, cellsRw (l ++ r) = cellsRw l ++ cellsRw r
  | [], _ => rfl
  | s :: l, r => by simp only [cellsRw, List.cons_append, cellsRw_app l r]
theorem cellsRw_one : ∀ l : List Rw, (∀ x ∈ l, x.fit) → ∀ v ∈ cellsRw l, v.oneCell' = true
  | [], _, v, h => by simp [cellsRw] at h
  | x :: l, hx, v, h => by
    obtain ⟨⟨a1, n1, c1, e1⟩, ⟨a2, n2, c2, e2⟩, ⟨a3, n3, c3, e3⟩, _⟩ := hx x (List.mem_cons_self ..)
    simp only [cellsRw, List.mem_cons] at h
    rcases h with rfl | rfl | rfl | rfl | rfl | rfl | rfl | rfl | h
    · rfl
    · rfl
    · rfl
    · rfl
    · rfl
    · rw [e1]; rfl
    · rw [e2]; rfl
    · rw [e3]; rfl
    · exact cellsRw_one l (fun y hy => hx y (List.mem_cons_of_mem _ hy)) v h
theorem cellsRw_get : ∀ (l : List Rw) (i j : Nat), i < l.length → j < 8 → (cellsRw l)[i * 8 + j]? = (l.getD i rw0).cells[j]?
  | [], i, j, h, _ => by simp at h
  | s :: l, 0, j, _, hj => by
    match j, hj with
    | 0, _ => rfl
    | 1, _ => rfl
    | 2, _ => rfl
    | 3, _ => rfl
    | 4, _ => rfl
    | 5, _ => rfl
    | 6, _ => rfl
    | 7, _ => rfl
  | s :: l, i + 1, j, h, hj => by
    have e : (i + 1) * 8 + j = (i * 8 + j) + 1 + 1 + 1 + 1 + 1 + 1 + 1 + 1 := by omega
    rw [e]
    simp only [cellsRw, List.getElem?_cons_succ, List.getD_cons_succ]
    exact cellsRw_get l i j (by simpa using h) hj
/-- The rows that a slice's cells hold. -/
def CellsRw (w : World) (b off : Nat) (l : List Rw) : Prop := ∀ i j, i < l.length → j < 8 → w.cell? ⟨b, off + i * 8 + j, none⟩ = (l.getD i rw0).cells[j]?
theorem CellsRw.get {w : World} {b off : Nat} {l : List Rw} (h : CellsRw w b off l) {i : Nat} (hi : i < l.length) :
    w.cell? ⟨b, off + i * 8, none⟩ = some (.int .u32 (l.getD i rw0).id) ∧ w.cell? ⟨b, off + i * 8 + 1, none⟩ = some (.int .u32 (l.getD i rw0).seq) ∧ w.cell? ⟨b, off + i * 8 + 2, none⟩ = some (nmV (l.getD i rw0).u) ∧
    w.cell? ⟨b, off + i * 8 + 3, none⟩ = some (.int .i64 (l.getD i rw0).fr) ∧ w.cell? ⟨b, off + i * 8 + 4, none⟩ = some (.int .i64 (l.getD i rw0).to') ∧ w.cell? ⟨b, off + i * 8 + 5, none⟩ = some (l.getD i rw0).vT ∧
    w.cell? ⟨b, off + i * 8 + 6, none⟩ = some (l.getD i rw0).vW ∧ w.cell? ⟨b, off + i * 8 + 7, none⟩ = some (l.getD i rw0).vA :=
  ⟨h i 0 hi (by omega), h i 1 hi (by omega), h i 2 hi (by omega), h i 3 hi (by omega), h i 4 hi (by omega), h i 5 hi (by omega), h i 6 hi (by omega), h i 7 hi (by omega)⟩
/-- A slice that reads as the rows. -/
def SliRw (w : World) (v : Value) (l : List Rw) : Prop := ∃ (a : Option Addr) (cap : Nat), v = .slice a l.length cap ∧ l.length ≤ cap ∧ cap ≤ 9223372036854775807 ∧ (a = none → l.length = 0 ∧ cap = 0) ∧
  (0 < l.length → ∃ b off, a = some ⟨b, off, none⟩ ∧ b < w.heap.size ∧ CellsRw w b off l) ∧ ∀ x ∈ l, x.fit
theorem SliRw.past {w w' : World} {v : Value} {l : List Rw} (h : SliRw w v l) (hb : Below w.heap.size w w') : SliRw w' v l := by
  obtain ⟨a, cap, e, h1, h2, h3, h4, h5⟩ := h
  refine ⟨a, cap, e, h1, h2, h3, fun hl => ?_, h5⟩
  obtain ⟨b, off, e2, h6, h7⟩ := h4 hl
  exact ⟨b, off, e2, Nat.lt_of_lt_of_le h6 hb.size, fun i j hi hj => (hb.cell (p := ⟨b, _, none⟩) h6).trans (h7 i j hi hj)⟩
theorem sliRw_nil (w : World) : SliRw w (.slice none 0 0) [] := ⟨none, 0, rfl, Nat.le_refl _, by omega, fun _ => ⟨rfl, rfl⟩, fun h => by simp at h, fun x h => by simp at h⟩
theorem sliRw_own {w : World} {B : Nat} {e : TypeId} {v : Value} {l : List Rw} (h : w.ownsRow B e 8 v l.length (cellsRw l)) (hf : ∀ x ∈ l, x.fit) : SliRw w v l := by
  have h' := h
  obtain ⟨h1, h2 | ⟨g, cap, cur, h3, h4, h5, h6, h7, h8, h9⟩⟩ := h
  · refine ⟨none, 0, by rw [h2.1, h2.2], by omega, by omega, fun _ => ⟨h2.2, rfl⟩, fun hl => by omega, hf⟩
  · subst h3
    refine ⟨_, cap, rfl, h6, (by unfold maxLen at h7; omega), (fun e => by cases e), fun hl => ⟨g, 0, rfl, lt_of_block h5, fun i j hi hj => ?_⟩, hf⟩
    rw [Nat.zero_add, h'.cellAt (i * 8 + j) (by omega), cellsRw_get l i j hi hj]
theorem SliRw.src {w : World} {v : Value} {l : List Rw} (h : SliRw w v l) : SrcV w 8 v l.length (cellsRw l) := by
  obtain ⟨a, cap, e, h1, h2, h3, h4, h5⟩ := h
  refine ⟨a, cap, e, h3, cellsRw_len l, cellsRw_one l h5, ?_⟩
  rintro ad rfl k u hk
  have hkl : k < l.length * 8 := by
    obtain ⟨hlt, _⟩ := List.getElem?_eq_some_iff.1 hk
    rw [cellsRw_len] at hlt; exact hlt
  obtain ⟨b, off, e2, _, hc⟩ := h4 (by omega)
  cases e2
  have := hc (k / 8) (k % 8) (by omega) (by omega)
  rw [show off + k / 8 * 8 + k % 8 = off + k from by omega, ← cellsRw_get l _ _ (by omega) (by omega), show k / 8 * 8 + k % 8 = k from by omega, hk] at this
  rw [← this]
  unfold Addr.add
  by_cases c : k = 0
  · subst c; simp
  · simp [c]
theorem own_base {w : World} {B B' : Nat} {e : TypeId} {sz : Nat} {v : Value} {n : Nat} {xs : List Value} (h : w.ownsRow B e sz v n xs) (hb : B' ≤ B) : w.ownsRow B' e sz v n xs := by
  obtain ⟨h1, h2 | ⟨g, cap, cur, h3, h4, h5, h6⟩⟩ := h
  · exact ⟨h1, .inl h2⟩
  · exact ⟨h1, .inr ⟨g, cap, cur, h3, Nat.le_trans hb h4, h5, h6⟩⟩
/-- Eight cells are written. -/
theorem blk_eight {W : World} {p : Nat} {v0 v1 v2 v3 v4 v5 v6 v7 : Value} {t : TypeId} (h : Blk W p #[v0, v1, v2, v3, v4, v5, v6, v7] t) (u0 u1 u2 u3 u4 u5 u6 u7 : Value) :
    Blk ((((((((W.setCell ⟨p, 0, none⟩ u0).setCell ⟨p, 1, none⟩ u1).setCell ⟨p, 2, none⟩ u2).setCell ⟨p, 3, none⟩ u3).setCell ⟨p, 4, none⟩ u4).setCell ⟨p, 5, none⟩ u5).setCell ⟨p, 6, none⟩ u6).setCell ⟨p, 7, none⟩ u7) p #[u0, u1, u2, u3, u4, u5, u6, u7] t := by
  simpa using (((((((h.set 0 u0).set 1 u1).set 2 u2).set 3 u3).set 4 u4).set 5 u5).set 6 u6).set 7 u7
theorem below_eight {B : Nat} {w W : World} {p : Nat} (h : Below B w W) (hp : B ≤ p) (u0 u1 u2 u3 u4 u5 u6 u7 : Value) :
    Below B w ((((((((W.setCell ⟨p, 0, none⟩ u0).setCell ⟨p, 1, none⟩ u1).setCell ⟨p, 2, none⟩ u2).setCell ⟨p, 3, none⟩ u3).setCell ⟨p, 4, none⟩ u4).setCell ⟨p, 5, none⟩ u5).setCell ⟨p, 6, none⟩ u6).setCell ⟨p, 7, none⟩ u7) :=
  (((((((h.setCell hp _).setCell hp _).setCell hp _).setCell hp _).setCell hp _).setCell hp _).setCell hp _).setCell hp _
theorem heap_eight {W : World} {p k : Nat} (hk : k ≠ p) (u0 u1 u2 u3 u4 u5 u6 u7 : Value) :
    ((((((((W.setCell ⟨p, 0, none⟩ u0).setCell ⟨p, 1, none⟩ u1).setCell ⟨p, 2, none⟩ u2).setCell ⟨p, 3, none⟩ u3).setCell ⟨p, 4, none⟩ u4).setCell ⟨p, 5, none⟩ u5).setCell ⟨p, 6, none⟩ u6).setCell ⟨p, 7, none⟩ u7).heap[k]? = W.heap[k]? :=
  (keptS hk _).trans ((keptS hk _).trans ((keptS hk _).trans ((keptS hk _).trans ((keptS hk _).trans ((keptS hk _).trans ((keptS hk _).trans (keptS hk _)))))))
end Go.Proofs.YtjhhcljbmnomlaaGreat

namespace Go.Proofs.YtjhhcljbmnomlaaGreat
open Go.RowKit Go.Sort

/-- The same world, some draws on, with new blocks behind. -/
def Grw (w w' : World) : Prop := ∃ (q : Nat) (os : Array Obj), w' = grow (w.drewN q) os
theorem Grw.refl (w : World) : Grw w w := ⟨0, #[], by simp [World.drewN_zero]⟩
theorem Grw.drew {w w' : World} (h : Grw w w') : Grw w w'.drew := by
  obtain ⟨q, os, rfl⟩ := h
  exact ⟨q + 1, os, by rw [drew_grow]; rfl⟩
theorem Grw.trans {a b c : World} (h : Grw a b) (k : Grw b c) : Grw a c := by
  obtain ⟨q, os, rfl⟩ := h
  obtain ⟨p, os', rfl⟩ := k
  refine ⟨q + p, os ++ os', ?_⟩
  rw [← grow_grow]
  unfold grow World.drewN
  simp [Nat.add_assoc]
theorem Grw.alloc {w w' : World} (h : Grw w w') (o : Obj) : Grw w (w'.alloc o) := h.trans ⟨0, #[o], by rw [World.drewN_zero, alloc_eq_grow]⟩
theorem Grw.size {w w' : World} (h : Grw w w') : w.heap.size ≤ w'.heap.size := by
  obtain ⟨q, os, rfl⟩ := h
  rw [size_grow]; exact Nat.le_add_right _ _
theorem Grw.below {w w' : World} (h : Grw w w') : Below w.heap.size w w' := by
  obtain ⟨q, os, rfl⟩ := h
  refine ⟨rfl, rfl, rfl, by rw [size_grow]; exact Nat.le_add_right _ _, fun k hk => ?_⟩
  show (w.heap ++ os)[k]? = _
  rw [Array.getElem?_append_left hk]
namespace JD
/-- What holds while the first n operations run, in whatever order. -/
structure JInv (l : List Oper) (n : Nat) (a0 : Act) (w0 : World) (R : Nat → Value → World → Prop) (fr : Nat → Bool) (u : Nat → Value) (listed : Array Bool) (a : Act) (w : World) : Prop where
  shut : Shut l.toArray listed
  notail : ∀ j, n ≤ j → j < l.length → listed.getD j false = false
  size : a.tmps.size = a0.tmps.size
  defers : a.defers = a0.defers
  mine : ∀ (j : Nat) (o : Oper) (t : Tmp), j < n → l[j]? = some o → listed.getD j false = true → o.dst = some t → t < a0.tmps.size → a.tmps[t]? = some (u j)
  rest : ∀ (t : Tmp), (∀ (j : Nat) (o : Oper), j < n → l[j]? = some o → listed.getD j false = true → o.dst ≠ some t) → a.tmps[t]? = a0.tmps[t]?
  past : Grw w0 w
  facts : ∀ j, j < n → listed.getD j false = true → R j (u j) w
  fresh : ∀ j, j < n → listed.getD j false = true → fr j = true → ∃ p, u j = .pointer (some ⟨p, 0, none⟩) ∧ p < w.heap.size
  apart : ∀ i j, i < n → j < n → i ≠ j → listed.getD i false = true → listed.getD j false = true → fr i = true → fr j = true → u i ≠ u j

/-- What is asked of operation i: in the frame in which all the first n have left u, in a world that has only grown, knowing what it waits for. -/
def JStep (P : Program) (l : List Oper) (n : Nat) (a0 : Act) (w0 : World) (R : Nat → Value → World → Prop) (fr : Nat → Bool) (i : Nat) (o : Oper) : Prop :=
  ∀ (u : Nat → Value) (x : {x : World // Grw w0 x}), (∀ j, j < n → waits l.toArray i j = true → R j (u j) x.1) →
    if Region.wanted o (yielded l.toArray (frm (l.take n) u 0 a0).tmps) then
      gives P (fun v w' => Grw x.1 w' ∧ R i v w' ∧ (fr i = true → ∃ p, v = .pointer (some ⟨p, 0, none⟩) ∧ x.1.heap.size ≤ p ∧ p < w'.heap.size)) ((execOp (frm (l.take n) u 0 a0).eval o).run P x.1)
    else R i undef x.1 ∧ fr i = false

section
variable {P : Program} {l : List Oper} {n : Nat} {lax : List Nat} {a0 : Act} {w0 : World} {R : Nat → Value → World → Prop} {fr : Nat → Bool}

/-- What an operation that is ready looks at is as it will be when all have run. -/
theorem look_same (_hn : n ≤ l.length) (hok : JOk l n lax) {u : Nat → Value} {listed : Array Bool} {a : Act} {w : World} (hI : JInv l n a0 w0 R fr u listed a w)
    {i : Nat} {o : Oper} (hi : i < n) (ho : l[i]? = some o) (hd : ∀ e ∈ o.after, Region.binds .any e = true → listed.getD e.on false = true) :
    ∀ t, t ∈ o.looksAt l.toArray → a.tmps[t]? = (frm (l.take n) u 0 a0).tmps[t]? := by
  intro t ht
  obtain ⟨f1, _, f3, f4⟩ := frm_spec u (l.take n) 0 a0
  by_cases h : ∃ (j : Nat) (p : Oper), j < n ∧ l[j]? = some p ∧ p.dst = some t
  · obtain ⟨j, p, hj, hp, hpt⟩ := h
    have hw := hok.own i o j p t hi hj ho hp hpt ht
    have hl := waits_listed (ops := l.toArray) (i := i) (by simpa using ho) hd hw
    rcases Nat.lt_or_ge t a0.tmps.size with hlt | hge
    · rw [hI.mine j p t hj hp hl hpt hlt, f4 j p t (by rw [List.getElem?_take, if_pos hj]; exact hp) hpt (fun k q hq hne => ?_) hlt]
      · simp
      · intro hqt
        rw [List.getElem?_take] at hq
        split at hq
        · rename_i hk; exact hne (hok.one k q j p t hk hj hq hp hpt hqt)
        · cases hq
    · rw [Array.getElem?_eq_none (by rw [hI.size]; exact hge), Array.getElem?_eq_none (by rw [f1]; exact hge)]
  · rw [hI.rest t (fun j p hj hp _ hpt => h ⟨j, p, hj, hp, hpt⟩), f3 t (fun j p hp hpt => ?_)]
    rw [List.getElem?_take] at hp
    split at hp
    · rename_i hk; exact h ⟨j, p, hk, hp, hpt⟩
    · cases hp

theorem exec_same {a a' : Act} {o : Oper} {ops : Array Oper} (hs : ∀ cs b, o.op ≠ .select cs b) (h : ∀ t, t ∈ o.looksAt ops → a.tmps[t]? = a'.tmps[t]?) : execOp a.eval o = execOp a'.eval o := by
  refine execOp_congr o hs fun x hx => ?_
  cases x with
  | tmp t =>
    have := h t (List.mem_append_left _ (List.mem_filterMap.2 ⟨.tmp t, by simpa using hx, rfl⟩))
    simp only [Act.eval, Array.getD_eq_getD_getElem?, this]
  | const v => rfl
  | global g => rfl
  | func f => rfl

theorem wanted_same {a a' : Act} {o : Oper} {ops : Array Oper} (h : ∀ t, t ∈ o.looksAt ops → a.tmps[t]? = a'.tmps[t]?) :
    Region.wanted o (yielded ops a.tmps) = Region.wanted o (yielded ops a'.tmps) := by
  unfold Region.wanted
  cases hg : o.guard with
  | none => rfl
  | some gw =>
    obtain ⟨g, want⟩ := gw
    have hy : yielded ops a.tmps g = yielded ops a'.tmps g := by
      unfold yielded
      cases ht : (ops[g]?).bind (·.dst) with
      | none => rfl
      | some t => simp only [Option.bind_some, h t (List.mem_append_right _ (by simp [hg, ht]))]
    simp only [hy]

/-- One operation has run: what holds then. -/
theorem JInv.next (hok : JOk l n lax) (hst : ∀ i v w w', R i v w → Grw w w' → R i v w') {u : Nat → Value} {listed : Array Bool} {a : Act} {w : World} (hI : JInv l n a0 w0 R fr u listed a w)
    {i : Nat} {o : Oper} (hi : i < n) (hn : n ≤ l.length) (ho : l[i]? = some o) (hun : listed.getD i false = false) (hd : ∀ e ∈ o.after, Region.binds .any e = true → listed.getD e.on false = true)
    {v : Value} {w' : World} (hb : Grw w w') (hR : R i v w') (hf : fr i = true → ∃ p, v = .pointer (some ⟨p, 0, none⟩) ∧ w.heap.size ≤ p ∧ p < w'.heap.size) :
    JInv l n a0 w0 R fr (fun j => if j = i then v else u j) (listed.setIfInBounds i true) (a.put o.dst v) w' := by
  have hsz : (a.put o.dst v).tmps.size = a.tmps.size := by cases o.dst <;> simp [Act.put]
  have hil : i < listed.size := by rw [hI.shut.size]; simp; omega
  have hne : ∀ j, j ≠ i → (listed.setIfInBounds i true).getD j false = listed.getD j false := fun j h => getD_set_ne false (Ne.symm h)
  refine ⟨⟨by simpa using hI.shut.size, ?_⟩, ?_, by rw [hsz]; exact hI.size, ?_, ?_, ?_, ?_, ?_, ?_, ?_⟩
  · intro k ok hk hkl e he hbd
    by_cases hki : k = i
    · subst hki
      have : ok = o := by have : l.toArray[k]? = some o := by simpa using ho
                          rw [this] at hk; exact (Option.some.inj hk).symm
      subst this
      exact getD_set_true (hd e he hbd)
    · rw [hne k hki] at hkl
      exact getD_set_true (hI.shut.deps k ok hk hkl e he hbd)
  · intro j hj hjl
    rw [hne j (by omega)]; exact hI.notail j hj hjl
  · have : (a.put o.dst v).defers = a.defers := by cases o.dst <;> rfl
    rw [this]; exact hI.defers
  · intro j p t hj hp hl hpt hlt
    by_cases hji : j = i
    · subst hji
      have : p = o := by rw [ho] at hp; exact (Option.some.inj hp).symm
      subst this
      simp [Act.put, hpt, hI.size, hlt]
    · rw [hne j hji] at hl
      have hdst : o.dst ≠ some t := fun h => hji (hok.one j p i o t hj hi hp ho h hpt)
      have : (a.put o.dst v).tmps[t]? = a.tmps[t]? := by
        cases hod : o.dst with
        | none => rfl
        | some d => have : d ≠ t := fun e => hdst (by rw [hod, e])
                    simp [Act.put, Array.getElem?_setIfInBounds_ne this]
      rw [this, if_neg hji]
      exact hI.mine j p t hj hp hl hpt hlt
  · intro t ht
    have hdst : o.dst ≠ some t := ht i o hi ho (by simp [hil])
    have : (a.put o.dst v).tmps[t]? = a.tmps[t]? := by
      cases hod : o.dst with
      | none => rfl
      | some d => have : d ≠ t := fun e => hdst (by rw [hod, e])
                  simp [Act.put, Array.getElem?_setIfInBounds_ne this]
    rw [this]
    exact hI.rest t fun j p hj hp hl => ht j p hj hp (getD_set_true hl)
  · exact hI.past.trans hb
  · intro j hj hl
    by_cases hji : j = i
    · subst hji; simpa using hR
    · rw [hne j hji] at hl
      simp only [if_neg hji]
      exact hst _ _ _ _ (hI.facts j hj hl) hb
  · intro j hj hl hfj
    by_cases hji : j = i
    · subst hji
      obtain ⟨p, h1, _, h3⟩ := hf hfj
      exact ⟨p, by simpa using h1, h3⟩
    · rw [hne j hji] at hl
      obtain ⟨p, h1, h2⟩ := hI.fresh j hj hl hfj
      exact ⟨p, by simpa [if_neg hji] using h1, Nat.lt_of_lt_of_le h2 hb.size⟩
  · intro j k hj hk hjk hjl hkl hfj hfk
    by_cases hji : j = i
    · subst hji
      rw [hne k (Ne.symm hjk)] at hkl
      obtain ⟨p, h1, h2, _⟩ := hf hfj
      obtain ⟨q, h3, h4⟩ := hI.fresh k hk hkl hfk
      simp only [if_true, if_neg (Ne.symm hjk), h1, h3]
      intro h; (simp at h <;> omega)
    · by_cases hki : k = i
      · subst hki
        rw [hne j hji] at hjl
        obtain ⟨p, h1, h2, _⟩ := hf hfk
        obtain ⟨q, h3, h4⟩ := hI.fresh j hj hjl hfj
        simp only [if_true, if_neg hji, h1, h3]
        intro h; (simp at h <;> omega)
      · rw [hne j hji] at hjl; rw [hne k hki] at hkl
        simp only [if_neg hji, if_neg hki]
        exact hI.apart j k hj hk hjk hjl hkl hfj hfk

/-- All of the first n operations have run: the frame is the whole one. -/
theorem JInv.whole (hok : JOk l n lax) {u : Nat → Value} {listed : Array Bool} {a : Act} {w : World} (hI : JInv l n a0 w0 R fr u listed a w) (_hn : n ≤ l.length)
    (hall : ∀ j, j < n → listed.getD j false = true) : a = frm (l.take n) u 0 a0 := by
  obtain ⟨f1, f2, f3, f4⟩ := frm_spec u (l.take n) 0 a0
  have htm : a.tmps = (frm (l.take n) u 0 a0).tmps := by
    apply Array.ext_getElem?
    intro t
    by_cases h : ∃ (j : Nat) (p : Oper), j < n ∧ l[j]? = some p ∧ p.dst = some t
    · obtain ⟨j, p, hj, hp, hpt⟩ := h
      rcases Nat.lt_or_ge t a0.tmps.size with hlt | hge
      · rw [hI.mine j p t hj hp (hall j hj) hpt hlt, f4 j p t (by rw [List.getElem?_take, if_pos hj]; exact hp) hpt (fun k q hq hne => ?_) hlt]
        · simp
        · intro hqt
          rw [List.getElem?_take] at hq
          split at hq
          · rename_i hk; exact hne (hok.one k q j p t hk hj hq hp hpt hqt)
          · cases hq
      · rw [Array.getElem?_eq_none (by rw [hI.size]; exact hge), Array.getElem?_eq_none (by rw [f1]; exact hge)]
    · rw [hI.rest t (fun j p hj hp _ hpt => h ⟨j, p, hj, hp, hpt⟩), f3 t (fun j p hp hpt => ?_)]
      rw [List.getElem?_take] at hp
      split at hp
      · rename_i hk; exact h ⟨j, p, hk, hp, hpt⟩
      · cases hp
  have hde : a.defers = (frm (l.take n) u 0 a0).defers := by rw [f2]; exact hI.defers
  cases a; cases hq : frm (l.take n) u 0 a0
  rw [hq] at htm hde
  simp only at htm hde
  rw [htm, hde]

def left (n : Nat) (listed : Array Bool) : Nat := ((List.range n).filter fun j => !listed.getD j false).length

theorem left_set {n i : Nat} {listed : Array Bool} (hi : i < n) (hil : i < listed.size) (hun : listed.getD i false = false) : left n (listed.setIfInBounds i true) + 1 ≤ left n listed := by
  unfold left
  have h1 : (List.range n).filter (fun j => !(listed.setIfInBounds i true).getD j false) = ((List.range n).filter fun j => !listed.getD j false).filter (fun j => j != i) := by
    rw [List.filter_filter]
    refine List.filter_congr fun j _ => ?_
    by_cases hji : j = i
    · subst hji; simp [hil]
    · rw [getD_set_ne false (Ne.symm hji)]; simp [hji]
  rw [h1]
  have hmem : i ∈ (List.range n).filter fun j => !listed.getD j false := by simp [List.mem_filter, hi]; simpa using hun
  have : (((List.range n).filter fun j => !listed.getD j false).filter (fun j => j != i)).length < ((List.range n).filter fun j => !listed.getD j false).length := by
    apply Nat.lt_of_not_le
    intro hle
    have := (List.filter_sublist (p := fun j => j != i) (l := (List.range n).filter fun j => !listed.getD j false)).eq_of_length_le hle
    rw [← this] at hmem
    simp at hmem
  omega

/-- What is asked besides of an operation that the tail need not wait for: it gives one value, in whatever world; and all that has not run is apart from it. -/
def JLax (P : Program) (l : List Oper) (n : Nat) (a0 : Act) (w0 : World) (R : Nat → Value → World → Prop) (fr : Nat → Bool) (Q : Exit → Act → World → Prop) (i : Nat) (o : Oper) : Prop :=
  fr i = false ∧
  (∀ c a w v, Q (.panic c) (a.put o.dst v) w → Q (.panic c) a w) ∧
  ∀ (u : Nat → Value) (x : {x : World // Grw w0 x}), (∀ j, j < n → waits l.toArray i j = true → R j (u j) x.1) →
    Region.wanted o (yielded l.toArray (frm (l.take n) u 0 a0).tmps) = true ∧ ∃ v, R i v x.1 ∧ ∀ w, (execOp (frm (l.take n) u 0 a0).eval o).run P w = .ok (.value v) w

theorem prefix_any {Q : Exit → Act → World → Prop} (hn : n ≤ l.length) (hok : JOk l n lax) (hst : ∀ i v w w', R i v w → Grw w w' → R i v w')
    (hstep : ∀ (i : Nat) (o : Oper), i < n → l[i]? = some o → JStep P l n a0 w0 R fr i o)
    (hlax : ∀ (i : Nat) (o : Oper), i ∈ lax → l[i]? = some o → JLax P l n a0 w0 R fr Q i o)
    (htail : ∀ (u : Nat → Value) (x : {x : World // Grw w0 x}), (∀ i, i < n → R i (u i) x.1) → (∀ i j, i < n → j < n → i ≠ j → fr i = true → fr j = true → u i ≠ u j) → wpList P l.toArray Q (l.drop n) (frm (l.take n) u 0 a0) x.1) :
    ∀ (m fuel : Nat) (u : Nat → Value) (listed : Array Bool) (a : Act) (w : World), left n listed ≤ m → m + (l.length - n) ≤ fuel → JInv l n a0 w0 R fr u listed a w → wpAny P .any l.toArray Q fuel listed a w := by
  have ending : ∀ (fuel : Nat) (u : Nat → Value) (listed : Array Bool) (a : Act) (w : World), (l.length - n) ≤ fuel → JInv l n a0 w0 R fr u listed a w → (∀ j, j < n → listed.getD j false = true) → wpAny P .any l.toArray Q fuel listed a w := by
    intro fuel u listed a w hf hI hall
    have ha := hI.whole hok hn hall
    refine tail_any (n := n) hok.back (fun i h1 h2 j h3 h4 => hok.tail i h1 h2 j h4 (fun hx => by have := hok.laxLt j hx; omega)) fuel n listed a w (Nat.le_refl _) hn (by omega) hI.shut (fun j hj => ?_) ?_
    · by_cases h : j < n
      · rw [hall j h]; simp [h]
      · rw [hI.notail j (by omega) hj]; simp [h]
    · rw [ha]
      exact htail u ⟨w, hI.past⟩ (fun i hi => hI.facts i hi (hall i hi)) (fun i j hi hj hij h1 h2 => hI.apart i j hi hj hij (hall i hi) (hall j hj) h1 h2)
  intro m
  induction m with
  | zero =>
    intro fuel u listed a w hm hf hI
    refine ending fuel u listed a w (by omega) hI (fun j hj => ?_)
    cases h : listed.getD j false with
    | true => rfl
    | false =>
      exfalso
      have hmem : j ∈ (List.range n).filter fun j => !listed.getD j false := by simp [List.mem_filter, hj]; simpa using h
      have : (List.range n).filter (fun j => !listed.getD j false) = [] := List.length_eq_zero_iff.1 (by unfold left at hm; omega)
      rw [this] at hmem; cases hmem
  | succ m ih =>
    intro fuel u listed a w hm hf hI
    have hlt : ∀ j, j < n → j < listed.size := fun j hj => by rw [hI.shut.size]; simp; omega
    by_cases hall : ∀ j, j < n → listed.getD j false = true
    · exact ending fuel u listed a w (by omega) hI hall
    obtain ⟨fuel, rfl⟩ : ∃ f, fuel = f + 1 := ⟨fuel - 1, by omega⟩
    -- the least operation that has not run is ready
    have hex : ∃ j, j < n ∧ listed.getD j false = false ∧ ∀ k, k < j → listed.getD k false = true := by
      apply Classical.byContradiction
      intro hno
      refine hall fun j => ?_
      induction j using Nat.strongRecOn with
      | ind j ihj =>
        intro hj
        cases h : listed.getD j false with
        | true => rfl
        | false => exact absurd ⟨j, hj, h, fun k hk => ihj k hk (by omega)⟩ hno
    obtain ⟨j0, hj0, hj0l, hj0k⟩ := hex
    have hj0o : l[j0]? = some (l[j0]'(by omega)) := List.getElem?_eq_getElem (by omega)
    have hd0 : ∀ e ∈ (l[j0]'(by omega)).after, Region.binds .any e = true → listed.getD e.on false = true := fun e he hb => hj0k _ (hok.back j0 _ hj0o e he hb)
    have hr0 : j0 ∈ Region.ready .any l.toArray listed := mem_ready.2 ⟨by rw [getD_flip (hlt j0 hj0) true false]; exact hj0l, _, by rw [List.getElem?_toArray]; exact hj0o, hd0⟩
    by_cases hnz : ∀ j, j < n → j ∉ lax → listed.getD j false = true
    · -- what is left of the first n need not be waited for: it may be taken first
      have hx : j0 ∈ lax := Classical.byContradiction fun h => by rw [hnz j0 hj0 h] at hj0l; cases hj0l
      obtain ⟨h1, h3, h4⟩ := hlax j0 _ hx hj0o
      obtain ⟨h5, v, h6, h7⟩ := h4 u ⟨w, hI.past⟩ (fun j hj hw => hI.facts j hj (waits_listed (by rw [List.getElem?_toArray]; exact hj0o) hd0 hw))
      have hlook := look_same hn hok hI hj0 hj0o hd0
      have hsel := fun cs b => Region.noSelect_spec hok.sel j0 _ cs b (by rw [List.getElem?_toArray]; exact hj0o)
      refine wpAny_first (i := j0) (v := v) (by rw [List.getElem?_toArray]; exact hj0o) (Region.noSelect_spec hok.sel) (fun c a w => h3 c a w v) fuel listed a w ?_ hr0 ?_ ?_
      · intro j oj hoj hne hun hno
        rw [List.getElem?_toArray] at hoj
        have hj : n ≤ j ∨ j ∈ lax := by
          rcases Nat.lt_or_ge j n with h | h
          · right
            exact Classical.byContradiction fun hx' => by
              have := hnz j h hx'
              rw [getD_flip (hlt j h) true false, this] at hun; cases hun
          · exact .inl h
        rcases hok.laxA j0 j _ oj hx hj0o hoj hne hj with h | h
        · exfalso
          unfold waits at h
          rw [List.getElem?_toArray, hoj] at h
          obtain ⟨e, he, hb⟩ := Array.any_eq_true'.1 h
          simp only [Bool.and_eq_true, beq_iff_eq] at hb
          exact hno e he hb.1 hb.2
        · exact h
      · refine .inl ⟨by rw [wanted_same hlook]; exact h5, fun w' => ?_⟩
        rw [exec_same hsel hlook]; exact h7 w'
      · exact ih fuel _ _ _ _ (by have := left_set hj0 (hlt j0 hj0) hj0l; omega) (by omega) (hI.next hok hst hj0 hn hj0o hj0l hd0 (Grw.refl _) h6 (fun h => by rw [h1] at h; cases h))
    · refine ⟨fun h0 => (by rw [h0] at hr0; cases hr0), fun i hi => ?_⟩
      obtain ⟨hun, o, ho, hd⟩ := mem_ready.1 hi
      have hil : i < l.length := by
        rcases Nat.lt_or_ge i l.length with h | h
        · exact h
        · simp [List.getElem?_eq_none h] at ho
      have hol : l[i]? = some o := by simpa using ho
      have hun' : listed.getD i false = false := by rw [← getD_flip (by rw [hI.shut.size]; simp; exact hil) true false]; exact hun
      have hin : i < n := by
        rcases Nat.lt_or_ge i n with h | h
        · exact h
        · exfalso
          exact hnz fun j hj hx => coverX_listed hI.shut i j o ho hd (hok.tail i h hil j (by omega) hx)
      have hlook := look_same hn hok hI hin hol hd
      have hs := hstep i o hin hol u ⟨w, hI.past⟩ (fun j hj hw => hI.facts j hj (waits_listed ho hd hw))
      have hsel := fun cs b => Region.noSelect_spec hok.sel i o cs b ho
      unfold wpOp
      simp only [ho]
      rw [wanted_same hlook]
      have go : ∀ v w', Grw w w' → R i v w' → (fr i = true → ∃ p, v = .pointer (some ⟨p, 0, none⟩) ∧ w.heap.size ≤ p ∧ p < w'.heap.size) →
          wpAny P .any l.toArray Q fuel (listed.setIfInBounds i true) (a.put o.dst v) w' := fun v w' h1 h2 h3 =>
        ih fuel _ _ _ _ (by have := left_set hin (hlt i hin) hun'; omega) (by omega) (hI.next hok hst hin hn hol hun' hd h1 h2 h3)
      split
      · rename_i hwant
        rw [if_pos hwant] at hs
        refine .inl ?_
        unfold Oper.wp
        rw [exec_same hsel hlook]
        exact upon_of_gives hs fun v w' ⟨h1, h2, h3⟩ => go v w' h1 h2 h3
      · rename_i hwant
        rw [if_neg hwant] at hs
        exact go undef w (Grw.refl _) hs.1 (fun h => by rw [hs.2] at h; cases h)

/-- A REGION THAT DRAWS ITS ORDER: the first n operations in whatever order, each by what it waits for; then the tail. -/
theorem wp_region_J {id : Nat} {Q : Exit → Act → World → Prop} (n : Nat) (lax : List Nat) (R : Nat → Value → World → Prop) (fr : Nat → Bool) (hm : P.follows .mixedOrders = true) (hn : n ≤ l.length) (hok : jOk l n lax = true)
    (hst : ∀ i v w w', R i v w → Grw w w' → R i v w')
    (hstep : ∀ (i : Nat) (o : Oper), i < n → l[i]? = some o → JStep P l n a0 w0 R fr i o)
    (hlax : ∀ (i : Nat) (o : Oper), i ∈ lax → l[i]? = some o → JLax P l n a0 w0 R fr Q i o)
    (htail : ∀ (u : Nat → Value) (x : {x : World // Grw w0 x}), (∀ i, i < n → R i (u i) x.1) → (∀ i j, i < n → j < n → i ≠ j → fr i = true → fr j = true → u i ≠ u j) → wpList P l.toArray Q (l.drop n) (frm (l.take n) u 0 a0) x.1) :
    (Code.region id l.toArray true).wp P Q a0 w0 := by
  have hok' := jOk_spec hok
  refine wp_region_any hm ?_
  have hun : ∀ j, (Array.replicate l.toArray.size false).getD j false = false := fun j => by
    simp only [Array.getD_eq_getD_getElem?, Array.getElem?_replicate]; split <;> rfl
  refine prefix_any hn hok' hst hstep hlax htail n l.toArray.size (fun _ => undef) _ a0 _ ?_ (by simp; omega) ?_
  · unfold left
    exact Nat.le_trans (List.length_filter_le _ _) (by simp)
  · have no : ∀ (j : Nat) (q : Prop), (Array.replicate l.toArray.size false).getD j false = true → q := fun j q h => by rw [hun] at h; cases h
    exact {
      shut := ⟨by simp, fun i o _ h => no i _ h⟩
      notail := fun j _ _ => hun j
      size := rfl
      defers := rfl
      mine := fun j o t _ _ h => no j _ h
      rest := fun _ _ => rfl
      past := (Grw.refl _).drew
      facts := fun j _ h => no j _ h
      fresh := fun j _ h => no j _ h
      apart := fun i j _ _ _ h => no i _ h }

end
end JD
end Go.Proofs.YtjhhcljbmnomlaaGreat

namespace Go.Proofs.YtjhhcljbmnomlaaGreat
open Go.ChangeShapes Go.WideShapes Go.ChangeAt Go.RowKit Go.Sort
attribute [local irreducible] Go.Calls

def cmpU (a b : Int) : Int := if a < b then -1 else if b < a then 1 else 0
def orI (a b : Int) : Int := if a ≠ 0 then a else b
def cmpW (x y : Rw) : Int := orI (cmpU x.seq y.seq) (cmpU x.id y.id)
theorem nan_c (a : Int) (w : World) : Calls Tryz.prog 195 #[.int .u32 a] w fun e w' => e = .returned (.bool false) ∧ w' = w := by
  go_enter Tryz.func195, Tryz.ntmps195
  go_wp2
  go_ret
  exact ⟨by simp, rfl⟩
theorem cmp32_c (a b : Int) (w : World) : Calls Tryz.prog 150 #[.int .u32 a, .int .u32 b] w fun e w' => e = .returned (.int .i64 (cmpU a b)) ∧ w' = w := by
  have HA := hidE (fun w => nan_c a w); have HB := hidE (fun w => nan_c b w)
  by_cases h1 : a < b
  · have E := hidE (show cmpU a b = -1 from if_pos h1)
    have d1 : decide (a < b) = true := decide_eq_true h1
    clear h1
    go_enter Tryz.func150, Tryz.ntmps150
    go_wp2_with fail
    ((with_reducible refine (HA.out _).mono ?_); rintro e w1 ⟨rfl, rfl⟩)
    go_wp2_with fail
    ((with_reducible refine (HB.out _).mono ?_); rintro e w2 ⟨rfl, rfl⟩)
    go_wp2
    go_ret
    exact ⟨by rw [E.out]; rfl, rfl⟩
  by_cases h2 : b < a
  · have E := hidE (show cmpU a b = 1 from by unfold cmpU; rw [if_neg h1, if_pos h2])
    have d1 : decide (a < b) = false := decide_eq_false h1
    have d2 : decide (b < a) = true := decide_eq_true h2
    clear h1 h2
    go_enter Tryz.func150, Tryz.ntmps150
    go_wp2_with fail
    ((with_reducible refine (HA.out _).mono ?_); rintro e w1 ⟨rfl, rfl⟩)
    go_wp2_with fail
    ((with_reducible refine (HB.out _).mono ?_); rintro e w2 ⟨rfl, rfl⟩)
    go_wp2
    go_ret
    exact ⟨by rw [E.out]; rfl, rfl⟩
  · have E := hidE (show cmpU a b = 0 from by unfold cmpU; rw [if_neg h1, if_neg h2])
    have d1 : decide (a < b) = false := decide_eq_false h1
    have d2 : decide (b < a) = false := decide_eq_false h2
    clear h1 h2
    go_enter Tryz.func150, Tryz.ntmps150
    go_wp2_with fail
    ((with_reducible refine (HA.out _).mono ?_); rintro e w1 ⟨rfl, rfl⟩)
    go_wp2_with fail
    ((with_reducible refine (HB.out _).mono ?_); rintro e w2 ⟨rfl, rfl⟩)
    go_wp2
    go_ret
    exact ⟨by rw [E.out]; rfl, rfl⟩
theorem or_c {p : Nat} {a b : Int} {t : TypeId} (w : World) (hB : Blk w p #[.int .i64 a, .int .i64 b] t) : Calls Tryz.prog 149 #[.slice (some ⟨p, 0, none⟩) 2 2] w fun e w' => e = .returned (.int .i64 (orI a b)) ∧ w' = w := by
  have c0 := hB.cell 0; have c1 := hB.cell 1; have bz := hB.lt
  simp at c0 c1
  clear hB
  by_cases h1 : a = 0
  · subst h1
    by_cases h2 : b = 0
    · subst h2
      go_enter Tryz.func149, Tryz.ntmps149
      go_wp2
      refine wp_loop_rounds 3 ?_
      rw [rounds_succ]
      go_wp2
      rw [rounds_succ]
      go_wp2
      rw [rounds_succ]
      go_wp2
      go_ret
      exact ⟨rfl, rfl⟩
    · have d2 : (b == 0) = false := beq_eq_false_iff_ne.2 h2
      have d3 : decide (b = 0) = false := decide_eq_false h2
      go_enter Tryz.func149, Tryz.ntmps149
      go_wp2
      refine wp_loop_rounds 2 ?_
      rw [rounds_succ]
      go_wp2
      rw [rounds_succ]
      go_wp2
      go_ret
      exact ⟨rfl, rfl⟩
  · have d2 : (a == 0) = false := beq_eq_false_iff_ne.2 h1
    have d3 : decide (a = 0) = false := decide_eq_false h1
    have E := hidE (show orI a b = a from if_pos h1)
    go_enter Tryz.func149, Tryz.ntmps149
    go_wp2
    refine wp_loop_rounds 1 ?_
    rw [rounds_succ]
    go_wp2
    go_ret
    exact ⟨by rw [E.out]; rfl, rfl⟩
end Go.Proofs.YtjhhcljbmnomlaaGreat

namespace Go.Proofs.YtjhhcljbmnomlaaGreat
open Go.ChangeShapes Go.WideShapes Go.ChangeAt Go.RowKit Go.Sort
attribute [local irreducible] Go.Calls

def nthV (vs : List Value) (i : Nat) : Value → World → Prop := fun v _ => v = vs.getD i undef
set_option maxRecDepth 100000 in
set_option maxHeartbeats 4000000 in
theorem inOrderW_c (x y : Rw) (w : World) : Calls Tryz.prog 100 #[rwV x, rwV y] w fun e w' => e = .returned (.int .i64 (cmpW x y)) ∧ Grw w w' := by
  obtain ⟨i1, q1, u1, f1, t1, a1, b1, c1⟩ := x
  obtain ⟨i2, q2, u2, f2, t2, a2, b2, c2⟩ := y
  obtain ⟨w0, hw0⟩ : ∃ w0, w0 = (w.alloc (Obj.cells #[.int .u32 i1, .int .u32 q1, nmV u1, .int .i64 f1, .int .i64 t1, a1, b1, c1] 50)).alloc (Obj.cells #[.int .u32 i2, .int .u32 q2, nmV u2, .int .i64 f2, .int .i64 t2, a2, b2, c2] 50) := ⟨_, rfl⟩
  obtain ⟨pb, hpb⟩ : ∃ pb, pb = w.heap.size := ⟨_, rfl⟩
  have B1 : Blk w0 pb #[.int .u32 i1, .int .u32 q1, nmV u1, .int .i64 f1, .int .i64 t1, a1, b1, c1] 50 := by rw [hw0, hpb]; exact (Blk.made _ _ _).alloc _
  have B2 : Blk w0 (pb + 1) #[.int .u32 i2, .int .u32 q2, nmV u2, .int .i64 f2, .int .i64 t2, a2, b2, c2] 50 := by rw [hw0, hpb]; exact Blk.made_at _ _ _ _ (by simp)
  have hG : Grw w w0 := by rw [hw0]; exact ((Grw.refl w).alloc _).alloc _
  have HG := hidE hG; have HB1 := hidE B1; have HB2 := hidE B2
  have HC1 := hidE (fun w => cmp32_c q1 q2 w); have HC2 := hidE (fun w => cmp32_c i1 i2 w)
  have HOR := hidE (fun (w : World) (p : Nat) (t : TypeId) (h : Blk w p #[.int .i64 (cmpU q1 q2), .int .i64 (cmpU i1 i2)] t) => or_c w h)
  have HW := hidE (show cmpW ⟨i1, q1, u1, f1, t1, a1, b1, c1⟩ ⟨i2, q2, u2, f2, t2, a2, b2, c2⟩ = orI (cmpU q1 q2) (cmpU i1 i2) from rfl)
  go_enter Tryz.func100, Tryz.ntmps100
  go_upto_region 1 with fail
  rw [← hw0, ← hpb]
  clear hw0 hpb hG B1 B2
  refine JD.wp_region_J 10 [] (nthV [.pointer (some ⟨pb, 1, none⟩), .int .u32 q1, .pointer (some ⟨pb + 1, 1, none⟩), .int .u32 q2, .int .i64 (cmpU q1 q2), .pointer (some ⟨pb, 0, none⟩), .int .u32 i1, .pointer (some ⟨pb + 1, 0, none⟩), .int .u32 i2, .int .i64 (cmpU i1 i2)]) (fun _ => false) (by kernel_rfl) (by decide) (by kernel_rfl) (fun _ _ _ _ h _ => h) ?_ ?_ ?_
  · intro i o hi ho
    match i, hi with
    | 0, _ =>
      obtain rfl := Option.some.inj ho
      intro u x hd
      have bz := (HB1.out.past x.2.below).lt
      simp [go_sem, gives, frm, Act.put, nthV, Region.wanted, Grw.refl]
    | 1, _ =>
      obtain rfl := Option.some.inj ho
      intro u x hd
      have d0 : u 0 = .pointer (some ⟨pb, 1, none⟩) := hd 0 (by decide) (by kernel_rfl)
      have hb := HB1.out.past x.2.below
      have b0 := hb.cell 1; have bz := hb.lt
      simp at b0
      simp [go_sem, gives, frm, Act.put, nthV, Region.wanted, Grw.refl, b0, d0]
    | 2, _ =>
      obtain rfl := Option.some.inj ho
      intro u x hd
      have bz := (HB2.out.past x.2.below).lt
      simp [go_sem, gives, frm, Act.put, nthV, Region.wanted, Grw.refl]
    | 3, _ =>
      obtain rfl := Option.some.inj ho
      intro u x hd
      have d2 : u 2 = .pointer (some ⟨pb + 1, 1, none⟩) := hd 2 (by decide) (by kernel_rfl)
      have hb := HB2.out.past x.2.below
      have b0 := hb.cell 1; have bz := hb.lt
      simp at b0
      simp [go_sem, gives, frm, Act.put, nthV, Region.wanted, Grw.refl, b0, d2]
    | 4, _ =>
      obtain rfl := Option.some.inj ho
      intro u x hd
      have d1 : u 1 = .int .u32 q1 := hd 1 (by decide) (by kernel_rfl)
      have d3 : u 3 = .int .u32 q2 := hd 3 (by decide) (by kernel_rfl)
      simp [go_sem, gives, frm, Act.put, nthV, Region.wanted, d1, d3]
      (with_reducible refine (HC1.out _).mono ?_); rintro e w3 ⟨rfl, rfl⟩; exact ⟨rfl, Grw.refl _⟩
    | 5, _ =>
      obtain rfl := Option.some.inj ho
      intro u x hd
      have bz := (HB1.out.past x.2.below).lt
      simp [go_sem, gives, frm, Act.put, nthV, Region.wanted, Grw.refl, bz]
    | 6, _ =>
      obtain rfl := Option.some.inj ho
      intro u x hd
      have d5 : u 5 = .pointer (some ⟨pb, 0, none⟩) := hd 5 (by decide) (by kernel_rfl)
      have hb := HB1.out.past x.2.below
      have b0 := hb.cell 0; have bz := hb.lt
      simp at b0
      simp [go_sem, gives, frm, Act.put, nthV, Region.wanted, Grw.refl, b0, d5]
    | 7, _ =>
      obtain rfl := Option.some.inj ho
      intro u x hd
      have bz := (HB2.out.past x.2.below).lt
      simp [go_sem, gives, frm, Act.put, nthV, Region.wanted, Grw.refl, bz]
    | 8, _ =>
      obtain rfl := Option.some.inj ho
      intro u x hd
      have d7 : u 7 = .pointer (some ⟨pb + 1, 0, none⟩) := hd 7 (by decide) (by kernel_rfl)
      have hb := HB2.out.past x.2.below
      have b0 := hb.cell 0; have bz := hb.lt
      simp at b0
      simp [go_sem, gives, frm, Act.put, nthV, Region.wanted, Grw.refl, b0, d7]
    | 9, _ =>
      obtain rfl := Option.some.inj ho
      intro u x hd
      have d6 : u 6 = .int .u32 i1 := hd 6 (by decide) (by kernel_rfl)
      have d8 : u 8 = .int .u32 i2 := hd 8 (by decide) (by kernel_rfl)
      simp [go_sem, gives, frm, Act.put, nthV, Region.wanted, d6, d8]
      (with_reducible refine (HC2.out _).mono ?_); rintro e w3 ⟨rfl, rfl⟩; exact ⟨rfl, Grw.refl _⟩
    | i + 10, h => exact absurd h (by omega)
  · intro i o hx ho
    simp at hx
  · intro u x9 hu hne
    have e4 : u 4 = .int .i64 (cmpU q1 q2) := hu 4 (by decide)
    have e9 : u 9 = .int .i64 (cmpU i1 i2) := hu 9 (by decide)
    simp only [frm, List.take, Act.put, e4, e9]
    have HG9 := hidE (HG.out.trans x9.2)
    clear hu hne e4 e9 HB1 HB2 HC1 HC2 HG
    generalize x9.1 = w9 at *
    generalize cmpU q1 q2 = k1 at *
    generalize cmpU i1 i2 = k2 at *
    go_wp2_with fail
    ((with_reducible refine (HOR.out _ _ _ (Blk.made _ _ _)).mono ?_); rintro e w10 ⟨rfl, rfl⟩)
    go_wp2
    go_ret
    exact ⟨by rw [HW.out]; rfl, HG9.out.alloc _⟩
end Go.Proofs.YtjhhcljbmnomlaaGreat

namespace Go.Proofs.YtjhhcljbmnomlaaGreat
open Go.ChangeShapes Go.WideShapes Go.ChangeAt Go.RowKit Go.Shelf
attribute [local irreducible] Go.Calls

def Tryz.sortRen : Go.Shelf.Ren := ⟨fun | 6 => 99 | 14 => 147 | 15 => 148 | 20 => 185 | 21 => 186 | 22 => 187 | 23 => 188 | 24 => 189 | 25 => 190 | 26 => 191 | 27 => 192 | 28 => 193 | 29 => 194 | 46 => 222 | 47 => 223 | 48 => 224 | 49 => 225 | 50 => 226 | 57 => 240 | n => n, fun | 0 => 0 | 3 => 3 | 4 => 4 | 5 => 5 | 9 => 9 | 22 => 31 | 24 => 50 | 25 => 167 | 39 => 225 | 45 => 253 | 46 => 254 | 50 => 258 | 53 => 44 | 55 => 262 | 66 => 286 | 70 => 290 | 76 => 304 | 77 => 305 | n => n, fun n => n⟩
set_option maxRecDepth 100000 in
theorem Tryz.sortLays : Go.Proofs.SlLaysF0.n6 Tryz.prog Tryz.sortRen := {
  mixed := by kernel_rfl
  f6 := ⟨"slices.SortFunc[[]livery/api.Rsv,livery/api.Rsv]", by decide, Tryz.func99.trans (congrArg some (by kernel_rfl))⟩
  f14 := ⟨"slices.pdqsortCmpFunc[livery/api.Rsv]", by decide, Tryz.func147.trans (congrArg some (by kernel_rfl))⟩
  f15 := Tryz.func148.trans (congrArg some (by kernel_rfl))
  f20 := ⟨"slices.insertionSortCmpFunc[livery/api.Rsv]", by decide, Tryz.func185.trans (congrArg some (by kernel_rfl))⟩
  f21 := ⟨"slices.heapSortCmpFunc[livery/api.Rsv]", by decide, Tryz.func186.trans (congrArg some (by kernel_rfl))⟩
  f22 := ⟨"slices.breakPatternsCmpFunc[livery/api.Rsv]", by decide, Tryz.func187.trans (congrArg some (by kernel_rfl))⟩
  f23 := ⟨"slices.choosePivotCmpFunc[livery/api.Rsv]", by decide, Tryz.func188.trans (congrArg some (by kernel_rfl))⟩
  f24 := ⟨"slices.reverseRangeCmpFunc[livery/api.Rsv]", by decide, Tryz.func189.trans (congrArg some (by kernel_rfl))⟩
  f25 := ⟨"slices.partialInsertionSortCmpFunc[livery/api.Rsv]", by decide, Tryz.func190.trans (congrArg some (by kernel_rfl))⟩
  f26 := ⟨"slices.partitionEqualCmpFunc[livery/api.Rsv]", by decide, Tryz.func191.trans (congrArg some (by kernel_rfl))⟩
  f27 := ⟨"slices.partitionCmpFunc[livery/api.Rsv]", by decide, Tryz.func192.trans (congrArg some (by kernel_rfl))⟩
  f28 := Tryz.func193.trans (congrArg some (by kernel_rfl))
  f29 := Tryz.func194.trans (congrArg some (by kernel_rfl))
  f46 := ⟨"slices.siftDownCmpFunc[livery/api.Rsv]", by decide, Tryz.func222.trans (congrArg some (by kernel_rfl))⟩
  f47 := Tryz.func223.trans (congrArg some (by kernel_rfl))
  f48 := Tryz.func224.trans (congrArg some (by kernel_rfl))
  f49 := ⟨"slices.medianAdjacentCmpFunc[livery/api.Rsv]", by decide, Tryz.func225.trans (congrArg some (by kernel_rfl))⟩
  f50 := ⟨"slices.medianCmpFunc[livery/api.Rsv]", by decide, Tryz.func226.trans (congrArg some (by kernel_rfl))⟩
  f57 := ⟨"slices.order2CmpFunc[livery/api.Rsv]", by decide, Tryz.func240.trans (congrArg some (by kernel_rfl))⟩
  t0 := Tryz.underlying0
  a0 := Tryz.isAgg0
  z0 := Tryz.sizeOf0
  v0 := Tryz.zeroValue0
  t3 := Tryz.underlying3
  a3 := Tryz.isAgg3
  z3 := Tryz.sizeOf3
  v3 := Tryz.zeroValue3
  t4 := Tryz.underlying4
  a4 := Tryz.isAgg4
  z4 := Tryz.sizeOf4
  v4 := Tryz.zeroValue4
  t5 := Tryz.underlying5
  a5 := Tryz.isAgg5
  z5 := Tryz.sizeOf5
  v5 := Tryz.zeroValue5
  t9 := Tryz.underlying9
  a9 := Tryz.isAgg9
  z9 := Tryz.sizeOf9
  v9 := Tryz.zeroValue9
  t22 := Tryz.underlying31
  a22 := Tryz.isAgg31
  z22 := Tryz.sizeOf31
  v22 := Tryz.zeroValue31
  t25 := Tryz.underlying167
  a25 := Tryz.isAgg167
  z25 := Tryz.sizeOf167
  v25 := Tryz.zeroValue167
  t39 := Tryz.underlying225
  a39 := Tryz.isAgg225
  z39 := Tryz.sizeOf225
  v39 := Tryz.zeroValue225
  t45 := Tryz.underlying253
  a45 := Tryz.isAgg253
  z45 := Tryz.sizeOf253
  v45 := Tryz.zeroValue253
  t46 := Tryz.underlying254
  a46 := Tryz.isAgg254
  z46 := Tryz.sizeOf254
  v46 := Tryz.zeroValue254
  t50 := Tryz.underlying258
  a50 := Tryz.isAgg258
  z50 := Tryz.sizeOf258
  v50 := Tryz.zeroValue258
  t53 := Tryz.underlying44
  a53 := Tryz.isAgg44
  z53 := Tryz.sizeOf44
  v53 := Tryz.zeroValue44
  t55 := Tryz.underlying262
  a55 := Tryz.isAgg262
  z55 := Tryz.sizeOf262
  v55 := Tryz.zeroValue262
  t66 := Tryz.underlying286
  a66 := Tryz.isAgg286
  z66 := Tryz.sizeOf286
  v66 := Tryz.zeroValue286
  t70 := Tryz.underlying290
  a70 := Tryz.isAgg290
  z70 := Tryz.sizeOf290
  v70 := Tryz.zeroValue290
  t76 := Tryz.underlying304
  a76 := Tryz.isAgg304
  z76 := Tryz.sizeOf304
  v76 := Tryz.zeroValue304
  t77 := Tryz.underlying305
  a77 := Tryz.isAgg305
  z77 := Tryz.sizeOf305
  v77 := Tryz.zeroValue305
  }
end Go.Proofs.YtjhhcljbmnomlaaGreat

namespace Go.Proofs.YtjhhcljbmnomlaaGreat
open Go.ChangeShapes Go.WideShapes Go.ChangeAt Go.RowKit Go.Sort
attribute [local irreducible] Go.Calls

theorem cmpU_neg {a b : Int} : cmpU a b < 0 ↔ a < b := by
  unfold cmpU
  split
  · simp; assumption
  · split <;> simp <;> omega
theorem cmpU_zero {a b : Int} : cmpU a b = 0 ↔ a = b := by
  unfold cmpU
  split
  · simp; omega
  · split <;> simp <;> omega
theorem cmpW_neg {x y : Rw} : cmpW x y < 0 ↔ x.seq < y.seq ∨ (x.seq = y.seq ∧ x.id < y.id) := by
  unfold cmpW orI
  by_cases h : cmpU x.seq y.seq = 0
  · rw [if_neg (by simpa using h), cmpU_neg]
    have := cmpU_zero.1 h
    omega
  · rw [if_pos h, cmpU_neg]
    have : x.seq ≠ y.seq := fun e => h (cmpU_zero.2 e)
    omega
/-- Rows that fit. -/
abbrev FRw := { x : Rw // x.fit }
theorem fit0 : rw0.fit := ⟨⟨none, 0, 0, rfl⟩, ⟨none, 0, 0, rfl⟩, ⟨none, 0, 0, rfl⟩, by simp [rw0, maxLen]⟩
instance : Inhabited FRw := ⟨⟨rw0, fit0⟩⟩
def encF (x : FRw) : List Value := x.1.cells
def cmpF (x y : FRw) : Int := cmpW x.1 y.1
theorem swoF : SWO (ltOf cmpF) := by
  refine ⟨fun x => ?_, fun x y z h1 h2 => ?_, fun x y z h1 h2 => ?_⟩
  · unfold ltOf cmpF
    rw [decide_eq_false_iff_not, cmpW_neg]; omega
  · unfold ltOf cmpF at *
    rw [decide_eq_true_eq, cmpW_neg] at *
    omega
  · unfold ltOf cmpF at *
    rw [decide_eq_false_iff_not, cmpW_neg] at *
    omega
theorem encF_one (x : FRw) : ∀ v ∈ encF x, v.oneCell' = true := fun v hv => by
  have := cellsRw_one [x.1] (by intro y hy; simp at hy; subst hy; exact x.2) v
  exact this (by simpa [encF, cellsRw] using hv)
/-- The rows of an array. -/
def rowsF (d : Array FRw) : List Rw := d.toList.map (·.1)
theorem rowsF_len (d : Array FRw) : (rowsF d).length = d.size := by simp [rowsF]
theorem rowsF_get (d : Array FRw) {i : Nat} (h : i < d.size) : (rowsF d).getD i rw0 = d[i]!.1 := by
  unfold rowsF
  rw [List.getD_eq_getElem?_getD, List.getElem?_map, Array.getElem?_toList, getElem!_pos d i h]
  simp [h]
theorem flat_cells (d : Array FRw) {j : Nat} (h : j < d.size * 8) : (cellsRw (rowsF d))[j]? = some ((flatK encF 8 d)[j]!) := by
  have h1 : j / 8 < d.size := by omega
  have e := cellsRw_get (rowsF d) (j / 8) (j % 8) (by rw [rowsF_len]; exact h1) (by omega)
  rw [show j / 8 * 8 + j % 8 = j from by omega, rowsF_get d h1] at e
  rw [e, get_flatK encF 8 d j h]
  unfold encF
  have : j % 8 < (d[j / 8]!).1.cells.length := by show j % 8 < 8; omega
  rw [List.getElem?_eq_getElem this, getElem!_pos (d[j / 8]!).1.cells (j % 8) this]
end Go.Proofs.YtjhhcljbmnomlaaGreat

namespace Go.Proofs.YtjhhcljbmnomlaaGreat
open Go.ChangeShapes Go.WideShapes Go.MapKept Go.RowKit
open Go.ChangeMaps (setBlock modify_eq_set map_eraseIdx)
open Go.Maps (Keyed)

/-- A key's value. -/
abbrev kyV (l : List UInt8) : Value := .string ⟨l.toArray⟩
abbrev Ent := List UInt8 × Value
/-- Block m is a map with these entries: no key twice; each stamped apart, ahead of the clock. -/
def MapU (w : World) (m : Nat) (U : List Ent) : Prop :=
  ∃ (es : Array MapEntry) (clock : Nat), w.heap[m]? = some (.map es clock) ∧ es.toList.map (fun e => (e.key, e.val)) = U.map (fun p => (kyV p.1, p.2)) ∧
    (U.map (·.1)).Nodup ∧ (es.toList.map (·.born)).Nodup ∧ (∀ e ∈ es.toList, e.born < clock) ∧ ∀ p ∈ U, p.1.length ≤ maxLen
theorem MapU.lt {w : World} {m : Nat} {U : List Ent} (h : MapU w m U) : m < w.heap.size := by
  obtain ⟨es, clock, h1, _⟩ := h
  exact Nat.lt_of_not_le fun hge => by rw [Array.getElem?_eq_none hge] at h1; cases h1
theorem MapU.keep {w w' : World} {m : Nat} {U : List Ent} (h : MapU w m U) (e : w'.heap[m]? = w.heap[m]?) : MapU w' m U := by
  obtain ⟨es, clock, h1, h2⟩ := h
  exact ⟨es, clock, e.trans h1, h2⟩
theorem MapU.below {w w' : World} {m B : Nat} {U : List Ent} (h : MapU w m U) (hb : Below B w w') (hm : m < B) : MapU w' m U := h.keep (hb.block m hm)
theorem MapU.past {w w' : World} {m : Nat} {U : List Ent} (h : MapU w m U) (hb : Below w.heap.size w w') : MapU w' m U := h.below hb h.lt
theorem MapU.alloc {w : World} {m : Nat} {U : List Ent} (h : MapU w m U) (o : Obj) : MapU (w.alloc o) m U := h.keep (Below.heap_alloc w o m h.lt)
theorem MapU.other {w : World} {m : Nat} {U : List Ent} (h : MapU w m U) {b i : Nat} (hb : m ≠ b) (v : Value) : MapU (w.setCell ⟨b, i, none⟩ v) m U := h.keep (Below.heap_setCell w ⟨b, i, none⟩ v m hb)
theorem MapU.made (w : World) : MapU (w.alloc (.map #[] 0)) w.heap.size [] :=
  ⟨#[], 0, by show (w.heap.push _)[w.heap.size]? = _; simp, rfl, List.nodup_nil, List.nodup_nil, fun e h => by simp at h, fun p h => by simp at h⟩
theorem MapU.nodup {w : World} {m : Nat} {U : List Ent} (h : MapU w m U) : (U.map (·.1)).Nodup := by
  obtain ⟨_, _, _, _, h3, _⟩ := h; exact h3
/-- Where a key stands. -/
def idxU (U : List Ent) (k : List UInt8) : Option Nat := U.findIdx? fun p => p.1 == k
def lookU (U : List Ent) (k : List UInt8) (z : Value) : Value := match idxU U k with
  | some j => (U.getD j (k, z)).2
  | none => z
def putU (U : List Ent) (k : List UInt8) (v : Value) : List Ent := match idxU U k with
  | some j => U.set j (k, v)
  | none => U ++ [(k, v)]
def delU (U : List Ent) (k : List UInt8) : List Ent := match idxU U k with
  | some j => U.eraseIdx j
  | none => U
theorem idx_none {U : List Ent} {k : List UInt8} (h : ∀ p ∈ U, p.1 ≠ k) : idxU U k = none := by
  unfold idxU
  rw [List.findIdx?_eq_none_iff]
  intro p hp
  simpa using h p hp
theorem idx_some {U : List Ent} {k : List UInt8} {j : Nat} {p : Ent} (hn : (U.map (·.1)).Nodup) (hj : U[j]? = some p) (hp : p.1 = k) : idxU U k = some j := by
  unfold idxU
  obtain ⟨hlt, he⟩ := List.getElem?_eq_some_iff.1 hj
  rw [List.findIdx?_eq_some_iff_getElem]
  refine ⟨hlt, by rw [he]; simpa using hp, fun i hi => ?_⟩
  have : (U.map (·.1))[i]'(by simp; omega) ≠ (U.map (·.1))[j]'(by simpa using hlt) := fun e => by
    have := (List.getElem_inj hn).1 e
    omega
  simp only [List.getElem_map, he, hp] at this
  simpa using this
section
variable {P : Program}
theorem ent_at {es : Array MapEntry} {U : List Ent} (h : es.toList.map (fun e => (e.key, e.val)) = U.map (fun p => (kyV p.1, p.2))) (j : Nat) : (es.toList[j]?).map (fun e => (e.key, e.val)) = (U[j]?).map (fun p => (kyV p.1, p.2)) := by
  have := congrArg (fun l => l[j]?) h
  simpa using this
theorem ent_get {es : Array MapEntry} {U : List Ent} (h : es.toList.map (fun e => (e.key, e.val)) = U.map (fun p => (kyV p.1, p.2))) {j : Nat} {e : MapEntry} (he : es.toList[j]? = some e) : ∃ p, U[j]? = some p ∧ e.key = kyV p.1 ∧ e.val = p.2 := by
  have := ent_at h j
  rw [he] at this
  simp only [Option.map_some] at this
  cases hu : U[j]? with
  | none => rw [hu] at this; cases this
  | some p =>
    rw [hu] at this
    simp only [Option.map_some, Option.some.injEq, Prod.mk.injEq] at this
    exact ⟨p, rfl, this.1, this.2⟩
theorem ent_mem {es : Array MapEntry} {U : List Ent} (h : es.toList.map (fun e => (e.key, e.val)) = U.map (fun p => (kyV p.1, p.2))) {e : MapEntry} (he : e ∈ es.toList) : ∃ p ∈ U, e.key = kyV p.1 ∧ e.val = p.2 := by
  have : (e.key, e.val) ∈ es.toList.map (fun e => (e.key, e.val)) := List.mem_map.2 ⟨e, he, rfl⟩
  rw [h, List.mem_map] at this
  obtain ⟨p, hp, e1⟩ := this
  simp only [Prod.mk.injEq] at e1
  exact ⟨p, hp, e1.1.symm, e1.2.symm⟩
theorem ent_of {es : Array MapEntry} {U : List Ent} (h : es.toList.map (fun e => (e.key, e.val)) = U.map (fun p => (kyV p.1, p.2))) {p : Ent} (hp : p ∈ U) : ∃ e ∈ es.toList, e.key = kyV p.1 ∧ e.val = p.2 := by
  have : (kyV p.1, p.2) ∈ U.map (fun p => (kyV p.1, p.2)) := List.mem_map.2 ⟨p, hp, rfl⟩
  rw [← h, List.mem_map] at this
  obtain ⟨e, he, e1⟩ := this
  simp only [Prod.mk.injEq] at e1
  exact ⟨e, he, e1.1, e1.2⟩
theorem ent_keys {k : TypeId} (hk : P.underlying k = some .string) {es : Array MapEntry} {U : List Ent} (h : es.toList.map (fun e => (e.key, e.val)) = U.map (fun p => (kyV p.1, p.2))) (hs : ∀ p ∈ U, p.1.length ≤ maxLen) : ∀ e ∈ es.toList, ∃ l, keyOf P k e.key = some l := fun e he => by
  obtain ⟨p, hp, e1, _⟩ := ent_mem h he
  rw [e1]
  exact ⟨_, WideMaps.keyOf_string_mk hk (s := ⟨p.1.toArray⟩) (by simpa [ByteArray.size] using hs p hp)⟩
/-- Where a key stands among the entries, or that it doesn't. -/
theorem find_ent {k : TypeId} (hk : P.underlying k = some .string) (w : World) {es : Array MapEntry} {U : List Ent} (h : es.toList.map (fun e => (e.key, e.val)) = U.map (fun p => (kyV p.1, p.2))) (hn : (U.map (·.1)).Nodup) (hs : ∀ p ∈ U, p.1.length ≤ maxLen) {s : List UInt8} (hsz : s.length ≤ maxLen) :
    ((Instr.findKey k (kyV s) es.toList).run P w = .ok none w ∧ idxU U s = none ∧ ∀ p ∈ U, p.1 ≠ s) ∨
    ∃ j e v, (Instr.findKey k (kyV s) es.toList).run P w = .ok (some (j, e.val)) w ∧ es.toList[j]? = some e ∧ e.key = kyV s ∧ idxU U s = some j ∧ U[j]? = some (s, v) ∧ e.val = v := by
  have K := Maps.string_keyed hk
  have hkey := WideMaps.keyOf_string_mk hk (s := ⟨s.toArray⟩) (by simpa [ByteArray.size] using hsz)
  rcases K.find w hkey es.toList (ent_keys hk h hs) with ⟨h1, h2⟩ | ⟨j, e, h1, h2, h3⟩
  · have hno : ∀ p ∈ U, p.1 ≠ s := fun p hp e0 => by
      obtain ⟨e, he, e1, _⟩ := ent_of h hp
      exact h2 e he (by rw [e1, e0])
    exact .inl ⟨h1, idx_none hno, hno⟩
  · obtain ⟨p, hp, e1, e2⟩ := ent_get h h2
    have e3 : p.1 = s := by rw [e1] at h3; simpa using h3
    exact .inr ⟨j, e, p.2, h1, h2, h3, idx_some hn hp e3, by rw [hp, ← e3], e2⟩
/-- m[k]. -/
theorem MapU.lookup {w : World} {m : Nat} {U : List Ent} (h : MapU w m U) {t k e : TypeId} (hk : P.underlying k = some .string) (ht : P.underlying t = some (.map k e)) {z : Value} (hz : (zeroValue e).run P w = .ok z w) {s : List UInt8} (hsz : s.length ≤ maxLen) :
    (Instr.lookup t (.map (some m)) (kyV s) false).run P w = .ok (lookU U s z) w := by
  have K := Maps.string_keyed hk
  have hkey := WideMaps.keyOf_string_mk hk (s := ⟨s.toArray⟩) (by simpa [ByteArray.size] using hsz)
  obtain ⟨es, clock, hb, he, hn, _, _, hs⟩ := h
  rcases find_ent hk w he hn hs hsz with ⟨h1, h2, _⟩ | ⟨j, e0, v, h1, _, _, h4, h5, h6⟩
  · simp [Instr.lookup, run_underlying ht, MapKept.run_getObj_map hb, K.check w _ hkey, h1, hz, Result.andThen, lookU, h2]
  · simp [Instr.lookup, run_underlying ht, MapKept.run_getObj_map hb, K.check w _ hkey, h1, Result.andThen, lookU, h4, List.getD_eq_getElem?_getD, h5, h6]
/-- m[k] = v. -/
theorem MapU.update {w : World} {m : Nat} {U : List Ent} (h : MapU w m U) {t k e : TypeId} (hk : P.underlying k = some .string) (ht : P.underlying t = some (.map k e)) {s : List UInt8} (hsz : s.length ≤ maxLen) (v : Value) :
    ∃ w', (Instr.mapUpdate t (.map (some m)) (kyV s) v).run P w = .ok () w' ∧ MapU w' m (putU U s v) ∧ w.grownBy w' (some m) ∧ w'.heap.size = w.heap.size := by
  have K := Maps.string_keyed hk
  have hkey := WideMaps.keyOf_string_mk hk (s := ⟨s.toArray⟩) (by simpa [ByteArray.size] using hsz)
  obtain ⟨es, clock, hb, he, hn, hst, hcl, hs⟩ := h
  have hgrow : ∀ es' clock', w.grownBy (setBlock w m (.map es' clock')) (some m) := fun es' clock' => ⟨rfl, rfl, rfl, by simp [setBlock], fun i _ hi => ChangeMaps.heap_setBlock_other hb _ (fun e => hi (by rw [e]))⟩
  rcases find_ent hk w he hn hs hsz with ⟨h1, h2, h3⟩ | ⟨j, e0, v0, h1, h2, h3, h4, h5, h6⟩
  · refine ⟨setBlock w m (.map (es.push ⟨kyV s, v, clock⟩) (clock + 1)), ?_, ⟨_, _, ChangeMaps.heap_setBlock_same hb _, ?_, ?_, ?_, ?_, ?_⟩, hgrow _ _, by simp [setBlock]⟩
    · simp [Instr.mapUpdate, run_underlying ht, MapKept.run_getObj_map hb, K.check w false hkey, h1, MapKept.run_setObj_map _ hb, Result.andThen, setBlock]
    · unfold putU; rw [h2]; simp [he]
    · unfold putU; rw [h2]
      simp only [List.map_append, List.map_cons, List.map_nil]
      rw [List.nodup_append]
      refine ⟨hn, by simp, fun a ha b hb' => ?_⟩
      obtain ⟨p, hp, rfl⟩ := List.mem_map.1 ha
      simp at hb'
      subst hb'
      exact h3 p hp
    · simp only [Array.toList_push, List.map_append, List.map_cons, List.map_nil]
      rw [List.nodup_append]
      refine ⟨hst, by simp, fun a ha b hb' => ?_⟩
      obtain ⟨x, hx, rfl⟩ := List.mem_map.1 ha
      simp at hb'
      subst hb'
      exact Nat.ne_of_lt (hcl x hx)
    · intro x hx
      simp only [Array.toList_push, List.mem_append, List.mem_singleton] at hx
      rcases hx with hx | rfl
      · have := hcl x hx; omega
      · simp
    · intro p hp
      unfold putU at hp; rw [h2] at hp
      simp only [List.mem_append, List.mem_singleton] at hp
      rcases hp with hp | rfl
      · exact hs p hp
      · exact hsz
  · have hj : es[j]? = some e0 := by simpa using h2
    have hlist : (es.modify j (fun e' => { e' with key := kyV s, val := v })).toList = es.toList.set j { e0 with key := kyV s, val := v } := by rw [Array.toList_modify, modify_eq_set _ _ _ _ h2]
    have hb1 : (es.toList.set j { e0 with key := kyV s, val := v }).map (·.born) = es.toList.map (·.born) := by
      rw [List.map_set]
      have : (es.toList.map (·.born))[j]? = some e0.born := by rw [List.getElem?_map, h2]; rfl
      obtain ⟨hlt, hg⟩ := List.getElem?_eq_some_iff.1 this
      show (es.toList.map (·.born)).set j e0.born = _
      rw [← hg, List.set_getElem_self]
    refine ⟨setBlock w m (.map (es.modify j (fun e' => { e' with key := kyV s, val := v })) clock), ?_, ⟨_, _, ChangeMaps.heap_setBlock_same hb _, ?_, ?_, ?_, ?_, ?_⟩, hgrow _ _, by simp [setBlock]⟩
    · simp [Instr.mapUpdate, run_underlying ht, MapKept.run_getObj_map hb, K.check w false hkey, h1, hj, h3, K.stays w hkey, MapKept.run_setObj_map _ hb, Result.andThen, setBlock]
    · unfold putU; rw [h4, hlist, List.map_set, List.map_set, he]
    · unfold putU; rw [h4, List.map_set]
      have : (U.map (·.1))[j]? = some s := by rw [List.getElem?_map, h5]; rfl
      obtain ⟨hlt, hg⟩ := List.getElem?_eq_some_iff.1 this
      show ((U.map (·.1)).set j s).Nodup
      rw [← hg, List.set_getElem_self]; exact hn
    · rw [hlist, hb1]; exact hst
    · intro x hx
      rw [hlist] at hx
      have : x.born ∈ es.toList.map (·.born) := by rw [← hb1]; exact List.mem_map.2 ⟨x, hx, rfl⟩
      obtain ⟨y, hy, ey⟩ := List.mem_map.1 this
      rw [← ey]; exact hcl y hy
    · intro p hp
      unfold putU at hp; rw [h4] at hp
      rcases List.mem_or_eq_of_mem_set hp with hp | rfl
      · exact hs p hp
      · exact hsz
end
end Go.Proofs.YtjhhcljbmnomlaaGreat

namespace Go.Proofs.YtjhhcljbmnomlaaGreat
open Go.ChangeShapes Go.WideShapes Go.MapKept Go.RowKit
open Go.ChangeMaps (setBlock modify_eq_set map_eraseIdx)
open Go.Maps (Keyed)
section
variable {P : Program}
/-- delete(m, k). -/
theorem MapU.delete {w : World} {m : Nat} {U : List Ent} (h : MapU w m U) {t k e : TypeId} (ty : TypeId) (hk : P.underlying k = some .string) (ht : P.underlying t = some (.map k e)) {s : List UInt8} (hsz : s.length ≤ maxLen) :
    ∃ w', (Builtin.delete_ #[t, k] ty #[.map (some m), kyV s]).run P w = .ok (.tuple #[]) w' ∧ MapU w' m (delU U s) ∧ w.grownBy w' (some m) ∧ w'.heap.size = w.heap.size := by
  have K := Maps.string_keyed hk
  have hkey := WideMaps.keyOf_string_mk hk (s := ⟨s.toArray⟩) (by simpa [ByteArray.size] using hsz)
  obtain ⟨es, clock, hb, he, hn, hst, hcl, hs⟩ := h
  have hgrow : ∀ es' clock', w.grownBy (setBlock w m (.map es' clock')) (some m) := fun es' clock' => ⟨rfl, rfl, rfl, by simp [setBlock], fun i _ hi => ChangeMaps.heap_setBlock_other hb _ (fun e => hi (by rw [e]))⟩
  rcases find_ent hk w he hn hs hsz with ⟨h1, h2, _⟩ | ⟨j, e0, v0, h1, h2, h3, h4, h5, h6⟩
  · refine ⟨setBlock w m (.map es clock), ?_, ⟨es, clock, ChangeMaps.heap_setBlock_same hb _, ?_, ?_, hst, hcl, ?_⟩, hgrow _ _, by simp [setBlock]⟩
    · simp [Builtin.delete_, run_underlying ht, MapKept.run_getObj_map hb, K.check w _ hkey, h1, MapKept.run_setObj_map _ hb, Result.andThen, setBlock]
    · unfold delU; rw [h2]; exact he
    · unfold delU; rw [h2]; exact hn
    · unfold delU; rw [h2]; exact hs
  · have hjl : j < es.toList.length := (List.getElem?_eq_some_iff.1 h2).1
    have hjs : j < es.size := by simpa using hjl
    have hsub : (es.eraseIdxIfInBounds j).toList = es.toList.eraseIdx j := by
      unfold Array.eraseIdxIfInBounds
      rw [dif_pos hjs]
      simp
    refine ⟨setBlock w m (.map (es.eraseIdxIfInBounds j) clock), ?_, ⟨_, clock, ChangeMaps.heap_setBlock_same hb _, ?_, ?_, ?_, ?_, ?_⟩, hgrow _ _, by simp [setBlock]⟩
    · simp [Builtin.delete_, run_underlying ht, MapKept.run_getObj_map hb, K.check w _ hkey, h1, MapKept.run_setObj_map _ hb, Result.andThen, setBlock]
    · unfold delU; rw [h4, hsub, map_eraseIdx, map_eraseIdx, he]
    · unfold delU; rw [h4, map_eraseIdx]; exact hn.sublist (List.eraseIdx_sublist _ _)
    · rw [hsub, map_eraseIdx]; exact hst.sublist (List.eraseIdx_sublist _ _)
    · intro x hx; rw [hsub] at hx; exact hcl x ((List.eraseIdx_sublist _ _).subset hx)
    · intro p hp; unfold delU at hp; rw [h4] at hp; exact hs p ((List.eraseIdx_sublist _ _).subset hp)
/-- Under way through a map: the entries that have come so far. -/
def RngU (w : World) (it m : Nat) (U done : List Ent) : Prop :=
  ∃ (es : Array MapEntry) (clock since : Nat) (seen : Array Nat) (c0 : Nat), w.heap[m]? = some (.map es clock) ∧ es.toList.map (fun e => (e.key, e.val)) = U.map (fun p => (kyV p.1, p.2)) ∧
    (U.map (·.1)).Nodup ∧ (es.toList.map (·.born)).Nodup ∧ (∀ e ∈ es.toList, e.born < clock) ∧ (∀ p ∈ U, p.1.length ≤ maxLen) ∧
    w.heap[it]? = some (.mapIter (some m) since seen c0) ∧ (∀ e ∈ es.toList, e.born < since) ∧ since ≤ c0 ∧ since ≤ clock ∧
    ∃ ds : List MapEntry, seen.toList = ds.map (·.born) ∧ (∀ d ∈ ds, d ∈ es.toList) ∧ ds.Nodup ∧ ds.map (fun e => (e.key, e.val)) = done.map (fun p => (kyV p.1, p.2))
theorem RngU.map {w : World} {it m : Nat} {U done : List Ent} (h : RngU w it m U done) : MapU w m U := by
  obtain ⟨es, clock, _, _, _, h1, h2, h3, h4, h5, h6, _⟩ := h
  exact ⟨es, clock, h1, h2, h3, h4, h5, h6⟩
theorem RngU.ne {w : World} {it m : Nat} {U done : List Ent} (h : RngU w it m U done) : it ≠ m := by
  obtain ⟨es, clock, _, _, _, h1, _, _, _, _, _, h2, _⟩ := h
  intro e
  rw [e, h1] at h2; cases h2
theorem RngU.lt {w : World} {it m : Nat} {U done : List Ent} (h : RngU w it m U done) : it < w.heap.size := by
  obtain ⟨es, clock, _, _, _, _, _, _, _, _, _, h2, _⟩ := h
  exact Nat.lt_of_not_le fun hge => by rw [Array.getElem?_eq_none hge] at h2; cases h2
theorem RngU.keep {w w' : World} {it m : Nat} {U done : List Ent} (h : RngU w it m U done) (e : w'.heap[m]? = w.heap[m]?) (e2 : w'.heap[it]? = w.heap[it]?) : RngU w' it m U done := by
  obtain ⟨es, clock, since, seen, c0, h1, h2, h3, h4, h5, h6, h7, h8⟩ := h
  exact ⟨es, clock, since, seen, c0, e.trans h1, h2, h3, h4, h5, h6, e2.trans h7, h8⟩
theorem RngU.past {w w' : World} {it m : Nat} {U done : List Ent} (h : RngU w it m U done) (hb : Below w.heap.size w w') : RngU w' it m U done := h.keep (hb.block m h.map.lt) (hb.block it h.lt)
theorem kyV_inj {a b : List UInt8} (h : kyV a = kyV b) : a = b := by simpa using h
theorem born_nodup {es : List MapEntry} (h : (es.map (·.born)).Nodup) : es.Nodup := List.Pairwise.of_map (S := fun a b => a ≠ b) MapEntry.born (fun a b h e => h (by rw [e])) h
theorem nodup_sub {α : Type} : ∀ {a b : List α}, a.Nodup → (∀ x ∈ a, x ∈ b) → ∃ c, (a ++ c).Perm b
  | [], b, _, _ => ⟨b, List.Perm.refl _⟩
  | x :: a, b, h, hs => by
    rw [List.nodup_cons] at h
    obtain ⟨s, t, rfl⟩ := List.append_of_mem (hs x (List.mem_cons_self ..))
    have hst : ∀ y ∈ a, y ∈ s ++ t := fun y hy => by
      have := hs y (List.mem_cons_of_mem _ hy)
      rcases List.mem_append.1 this with h1 | h1
      · exact List.mem_append_left _ h1
      · rcases List.mem_cons.1 h1 with h2 | h2
        · subst h2; exact absurd hy h.1
        · exact List.mem_append_right _ h2
    obtain ⟨c, hc⟩ := nodup_sub h.2 hst
    exact ⟨c, (hc.cons x).trans List.perm_middle.symm⟩
theorem nodup_len {α : Type} {a b : List α} (h : a.Nodup) (hs : ∀ x ∈ a, x ∈ b) : a.length ≤ b.length := by
  obtain ⟨c, hc⟩ := nodup_sub h hs
  have := hc.length_eq
  simp at this
  omega
theorem born_inj {es : List MapEntry} (h : (es.map (·.born)).Nodup) {x y : MapEntry} (hx : x ∈ es) (hy : y ∈ es) (e : x.born = y.born) : x = y := by
  obtain ⟨i, hi, rfl⟩ := List.getElem_of_mem hx
  obtain ⟨j, hj, rfl⟩ := List.getElem_of_mem hy
  have : (es.map (·.born))[i]'(by simpa using hi) = (es.map (·.born))[j]'(by simpa using hj) := by simpa using e
  have := (List.getElem_inj h).1 this
  subst this; rfl
/-- The step: nothing is left, and all have come; or one that has not come yet. -/
theorem RngU.next {w : World} {it m : Nat} {U done : List Ent} (h : RngU w it m U done) (ty : TypeId) :
    (done.Perm U ∧ (Instr.next (.pointer (some ⟨it, 0, none⟩)) false ty).run P w = .ok (.tuple #[.bool false]) w) ∨
    ∃ p w', p ∈ U ∧ done.length < U.length ∧ (Instr.next (.pointer (some ⟨it, 0, none⟩)) false ty).run P w = .ok (.tuple #[.bool true, kyV p.1, p.2]) w' ∧ RngU w' it m U (done ++ [p]) ∧ w.grownBy w' (some it) ∧ w'.heap.size = w.heap.size ∧
      (Instr.entry (.pointer (some ⟨it, 0, none⟩))).run P w' = .ok (.tuple #[kyV p.1, p.2]) w' := by
  have hne := h.ne
  obtain ⟨es, clock, since, seen, c0, hb, he, hn, hst, hcl, hs, hr, hold, hsc, hsk, ds, hseen, hds, hdn, hde⟩ := h
  have hsub : ds.length ≤ es.toList.length := nodup_len hdn hds
  have hlenU : es.toList.length = U.length := by have := congrArg List.length he; simpa using this
  have hlenD : ds.length = done.length := by have := congrArg List.length hde; simpa using this
  have hmem : ∀ x ∈ es.toList, seen.contains x.born = true → x ∈ ds := fun x hx hc => by
    have : x.born ∈ seen.toList := by simpa using hc
    rw [hseen] at this
    obtain ⟨d, hd, ed⟩ := List.mem_map.1 this
    rw [born_inj hst hx (hds d hd) ed.symm]; exact hd
  rcases run_next_at (P := P) w ty it m since c0 seen es clock hr hb hold hsc with ⟨h0, hrun⟩ | ⟨e, hel, w1, hal, hrun⟩
  · refine .inl ⟨?_, hrun⟩
    have hall : ∀ x ∈ es.toList, x ∈ ds := fun x hx => hmem x hx (by
      cases hc : seen.contains x.born
      · exfalso
        have : x ∈ (leftOf es seen).toList := by
          unfold leftOf
          rw [Array.mem_toList_iff, Array.mem_filter]
          exact ⟨by simpa using hx, by rw [hc]; rfl⟩
        have e0 : leftOf es seen = #[] := Array.eq_empty_of_size_eq_zero h0
        rw [e0] at this; simp at this
      · rfl)
    have hp : ds.Perm es.toList := by
      obtain ⟨c, hc⟩ := nodup_sub hdn hds
      have h1 := hc.length_eq
      have h2 := nodup_len (born_nodup hst) hall
      have : c = [] := List.eq_nil_of_length_eq_zero (by simp at h1; simp at h2; omega)
      rw [this, List.append_nil] at hc
      exact hc
    have hp2 := hp.map (fun e => (e.key, e.val))
    rw [he, hde] at hp2
    have key : ∀ (A B : List Ent), (A.map (fun p => (kyV p.1, p.2))).Perm (B.map (fun p => (kyV p.1, p.2))) → A.Perm B := fun A B hAB => by
      have hf : ∀ x y : Ent, (kyV x.1, x.2) = (kyV y.1, y.2) → x = y := fun x y e => by
        simp only [Prod.mk.injEq] at e
        exact Prod.ext (kyV_inj e.1) e.2
      let g : Value × Value → Ent := fun q => (match q.1 with | .string s => s.data.toList | _ => [], q.2)
      have hg : ∀ l : List Ent, (l.map (fun p => (kyV p.1, p.2))).map g = l := fun l => by
        rw [List.map_map]
        conv => rhs; rw [← List.map_id l]
        apply List.map_congr_left
        intro x _
        simp [g]
      have := hAB.map g
      rwa [hg, hg] at this
    exact key _ _ hp2
  · obtain ⟨hem, hes⟩ := mem_left hel
    obtain ⟨p, hp, ek, ev⟩ := ent_mem he hem
    have hr1 : w1.heap[it]? = some (.mapIter (some m) since seen c0) := by rcases hal with rfl | rfl <;> exact hr
    have hb1 : w1.heap[m]? = some (.map es clock) := by rcases hal with rfl | rfl <;> exact hb
    have hset : ∀ o', (setBlock w1 it o').heap[it]? = some o' ∧ ∀ i, i ≠ it → (setBlock w1 it o').heap[i]? = w1.heap[i]? := fun o' => by
      have hlt : it < w1.heap.size := Nat.lt_of_not_le fun hge => by rw [Array.getElem?_eq_none hge] at hr1; cases hr1
      unfold setBlock
      exact ⟨by simp [hlt], fun i hi => by simp [Ne.symm hi]⟩
    have hnd : e ∉ ds := fun hd => by
      have : e.born ∈ seen.toList := by rw [hseen]; exact List.mem_map.2 ⟨e, hd, rfl⟩
      have : seen.contains e.born = true := by simpa using this
      rw [this] at hes; cases hes
    have hds' : ∀ d ∈ ds ++ [e], d ∈ es.toList := fun d hd => by
      rcases List.mem_append.1 hd with hd | hd
      · exact hds d hd
      · simp at hd; subst hd; exact hem
    have hdn' : (ds ++ [e]).Nodup := by
      rw [List.nodup_append]
      exact ⟨hdn, by simp, fun a ha b hb' => by simp at hb'; subst hb'; intro e1; subst e1; exact hnd ha⟩
    have hlen := nodup_len hdn' hds'
    have hb' := ((hset (.mapIter (some m) since (seen.push e.born) clock)).2 m hne.symm).trans hb1
    refine .inr ⟨p, _, hp, by simp at hlen; simp at hlenU; omega, by rw [hrun, ek, ev], ⟨es, clock, since, seen.push e.born, clock, hb', he, hn, hst, hcl, hs, (hset _).1, hold, hsk, hsk, ds ++ [e], by simp [hseen], hds', hdn', by simp [hde, ek, ev]⟩, ?_, ?_, ?_⟩
    · rcases hal with rfl | rfl <;> exact ⟨rfl, rfl, rfl, by simp [setBlock], fun i _ hi => (hset _).2 i (fun e1 => hi (by rw [e1]))⟩
    · rcases hal with rfl | rfl <;> simp [setBlock]
    · rw [run_entry_at _ it m since seen es clock e (hset _).1 hb' hem hst, ek, ev]
end
end Go.Proofs.YtjhhcljbmnomlaaGreat

namespace Go.Proofs.YtjhhcljbmnomlaaGreat
open Go.ChangeShapes Go.WideShapes Go.MapKept Go.RowKit
section
variable {P : Program} {ops : Array Oper} {rest : List Oper} {o : Oper} {a : Act} {w : World} {Q : Exit → Act → World → Prop}
theorem MapU.begin {m : Nat} {U : List Ent} (h : MapU w m U) {t k e : TypeId} (ht : P.underlying t = some (.map k e)) :
    ∃ w', (Instr.range t (.map (some m))).run P w = .ok (.pointer (some ⟨w.heap.size, 0, none⟩)) w' ∧ RngU w' w.heap.size m U [] ∧ w.grownBy w' none ∧ w'.heap.size = w.heap.size + 1 := by
  have hlt := h.lt
  obtain ⟨es, clock, hb, h2, h3, h4, h5, h6⟩ := h
  exact ⟨_, run_range_map w t k e m es clock ht hb, ⟨es, clock, clock, #[], clock, ((MapKept.heap_alloc w _).2 m hlt).trans hb, h2, h3, h4, h5, h6, (MapKept.heap_alloc w _).1, h5, Nat.le_refl _, Nat.le_refl _, [], rfl, by simp, List.nodup_nil, rfl⟩, World.grownBy_alloc w _ none, by simp⟩
/-- 'range m'. -/
theorem list_range_U (hg : o.guard = none) (mo : Operand) (t k e : TypeId) (hop : o.op = Op.range t mo) (ht : P.underlying t = some (.map k e)) {m : Nat} {U : List Ent} (hm : a.eval mo = .map (some m)) (hU : MapU w m U)
    (hK : ∀ w', RngU w' w.heap.size m U [] → w.grownBy w' none → w'.heap.size = w.heap.size + 1 → wpList P ops Q rest (a.put o.dst (.pointer (some ⟨w.heap.size, 0, none⟩))) w') : wpList P ops Q (o :: rest) a w := by
  refine wpList_plain hg fun K' hK' => ?_
  obtain ⟨w', hrun, r1, r2, r3⟩ := hU.begin ht
  unfold Oper.wp
  simp [execOp, hop, hm, hrun, Result.andThen]
  exact hK' _ _ (hK w' r1 r2 r3)
/-- The step. -/
theorem list_next_U (hg : o.guard = none) (it : Operand) (hop : o.op = Op.next it false) {r m : Nat} {U done : List Ent} (hit : a.eval it = .pointer (some ⟨r, 0, none⟩)) (h : RngU w r m U done)
    (hDone : done.Perm U → wpList P ops Q rest (a.put o.dst (.tuple #[.bool false])) w)
    (hMore : ∀ (p : Ent) (w' : World), p ∈ U → done.length < U.length → RngU w' r m U (done ++ [p]) → w.grownBy w' (some r) → w'.heap.size = w.heap.size → (Instr.entry (.pointer (some ⟨r, 0, none⟩))).run P w' = .ok (.tuple #[kyV p.1, p.2]) w' →
      wpList P ops Q rest (a.put o.dst (.tuple #[.bool true, kyV p.1, p.2])) w') : wpList P ops Q (o :: rest) a w := by
  refine wpList_plain hg fun K' hK' => ?_
  unfold Oper.wp
  rcases h.next (P := P) o.type with ⟨hp, hrun⟩ | ⟨p, w', h1, h2, hrun, h3, h4, h5, h6⟩
  · simp [execOp, hop, hit, hrun, Result.andThen]
    exact hK' _ _ (hDone hp)
  · simp [execOp, hop, hit, hrun, Result.andThen]
    exact hK' _ _ (hMore p w' h1 h2 h3 h4 h5 h6)
end
/-- How many entries have come: as the iterator has it. -/
def seenN (w : World) (it : Nat) : Nat := match w.heap[it]? with
  | some (.mapIter _ _ seen _) => seen.size
  | _ => 0
theorem RngU.seen {w : World} {it m : Nat} {U done : List Ent} (h : RngU w it m U done) : seenN w it = done.length := by
  obtain ⟨es, clock, since, seen, c0, _, _, _, _, _, _, h7, _, _, _, ds, h8, _, _, h9⟩ := h
  unfold seenN
  rw [h7]
  show seen.size = _
  have e1 := congrArg List.length h8
  have e2 := congrArg List.length h9
  simp at e1 e2
  omega
/-- How many elements a slice's value has. -/
def vlen : Value → Nat
  | .slice _ n _ => n
  | _ => 0
def lenU : List Ent → Nat
  | [] => 0
  | p :: r => vlen p.2 + lenU r
theorem lenU_app : ∀ A B, lenU (A ++ B) = lenU A + lenU B
  | [], B => by simp [lenU]
  | p :: A, B => by simp only [List.cons_append, lenU, lenU_app A B]; omega
theorem lenU_perm {A B : List Ent} (h : A.Perm B) : lenU A = lenU B := by
  induction h with
  | nil => rfl
  | cons x _ ih => simp only [lenU, ih]
  | swap x y l => simp only [lenU]; omega
  | trans _ _ h1 h2 => exact h1.trans h2
/-- What has come is a part of what the map has. -/
theorem RngU.part {w : World} {it m : Nat} {U done : List Ent} (h : RngU w it m U done) : ∃ C, (done ++ C).Perm U := by
  obtain ⟨es, clock, since, seen, c0, _, he, _, _, _, _, _, _, _, _, ds, _, hds, hdn, hde⟩ := h
  obtain ⟨c, hc⟩ := nodup_sub hdn hds
  have hp := hc.map (fun e => (e.key, e.val))
  rw [he, List.map_append, hde] at hp
  let g : Value × Value → Ent := fun q => (match q.1 with | .string s => s.data.toList | _ => [], q.2)
  have hg : ∀ l : List Ent, (l.map (fun p => (kyV p.1, p.2))).map g = l := fun l => by
    rw [List.map_map]
    conv => rhs; rw [← List.map_id l]
    apply List.map_congr_left
    intro x _
    simp [g]
  have h2 := hp.map g
  rw [List.map_append, hg, hg] at h2
  exact ⟨_, h2⟩
theorem RngU.sum_le {w : World} {it m : Nat} {U done : List Ent} (h : RngU w it m U done) : lenU done ≤ lenU U := by
  obtain ⟨C, hC⟩ := h.part
  rw [← lenU_perm hC, lenU_app]; omega
end Go.Proofs.YtjhhcljbmnomlaaGreat

namespace Go.Proofs.YtjhhcljbmnomlaaGreat
open Go.ChangeShapes Go.WideShapes Go.ChangeAt Go.RowKit
attribute [local irreducible] Go.Calls

/-- A plan's content. -/
abbrev ctV (vc : Value) (m : Nat) : Value := .agg #[vc, .map (some m)]
set_option maxRecDepth 100000 in
theorem count_c {m : Nat} {U : List Ent} (vc : Value) (w : World) (hU : MapU w m U) (hs : ∀ p ∈ U, ∃ a n c, p.2 = .slice a n c) (hn : lenU U ≤ 1000000000000) :
    Calls Tryz.prog 196 #[ctV vc m] w fun e w' => e = .returned (.int .i64 (lenU U)) ∧ Below w.heap.size w w' := by
  obtain ⟨w0, hw0⟩ : ∃ w0, w0 = w.alloc (Obj.cells #[vc, .map (some m)] 109) := ⟨_, rfl⟩
  have B1 : Blk w0 w.heap.size #[vc, .map (some m)] 109 := by rw [hw0]; exact Blk.made _ _ _
  have hb0 : Below w.heap.size w w0 := by rw [hw0]; (repeat (first | exact Below.refl _ _ | assumption | refine balloc ?_ _ | refine below_drewN ?_ _ | refine bstep (by assumption) ?_ | refine bstep (Past.prop _) ?_ | refine Below.setCell ?_ (by first | exact Nat.le_refl _ | (simp; done) | (simp; omega)) _))
  have hU0 : MapU w0 m U := by rw [hw0]; exact hU.alloc _
  have hz0 : w0.heap.size = w.heap.size + 1 := by rw [hw0]; simp
  have HS := hidE hs; have HU := hidE hU0; have HN := hidE hn
  clear hU hs hU0 hn
  go_enter Tryz.func196, Tryz.ntmps196
  go_upto_region 1 with fail
  rw [← hw0]
  clear hw0
  have b1 := B1.cell 1; have bz := B1.lt
  simp at b1
  clear B1
  go_upto_region 2 with fail
  go_wp2_with (at_range; refine list_range_U rfl _ 107 9 31 rfl Tryz.underlying107 rfl HU.out ?_; intro w1 hr1 hg1 hz1)
  go_frame
  have hb1 : Below w.heap.size w w1 := Below.grown hb0 hg1 hb0.size (fun k e => by cases e)
  rw [hz0] at hr1
  have hge : w.heap.size ≤ w.heap.size + 1 := by omega
  rw [hz0]
  clear hb0 hg1 hz1 HU b1 bz hz0 w0
  go_loopw [3] (fun s wr => ∃ done, s = .int .i64 (lenU done) ∧ RngU wr (w.heap.size + 1) m U done ∧ Below w.heap.size w wr) (fun _ wr => U.length - seenN wr (w.heap.size + 1))
  case atStart => exact ⟨[], rfl, hr1, hb1⟩
  case round =>
    obtain ⟨done, rfl, hrg, hb⟩ := hrel
    go_wp2_with (at_next; refine list_next_U rfl _ rfl rfl hrg ?_ ?_)
    · intro hp
      have E := hidE (lenU_perm hp)
      clear hp
      go_wp2
      go_ret
      exact ⟨by rw [← E.out]; rfl, hb⟩
    · intro pk pv w2 hpU hlt hrg2 hg2 hz2 hen
      obtain ⟨a, n, c, e⟩ := HS.out (pk, pv) hpU
      simp only at e
      subst e
      have hl2 := hrg2.sum_le
      have hll : lenU (done ++ [(pk, Value.slice a n c)]) = lenU done + n := by rw [lenU_app]; rfl
      have hN := HN.out
      have hsm : lenU done + n ≤ 1000000000000 := by omega
      have hb2 : Below w.heap.size w w2 := Below.grown hb hg2 hb.size (fun k e => by cases e; omega)
      have hm1 := hrg.seen
      have hm2 := hrg2.seen
      rw [List.length_append, List.length_singleton] at hm2
      have HL := hidE hll
      clear hg2 hpU HS HN hb hrg hll
      go_wp2
      exact ⟨⟨_, by rw [HL.out]; go_num, hrg2, hb2⟩, by rw [hm1, hm2]; omega⟩
end Go.Proofs.YtjhhcljbmnomlaaGreat

namespace Go.Proofs.YtjhhcljbmnomlaaGreat
open Go.ChangeShapes Go.WideShapes Go.ChangeAt Go.RowKit
attribute [local irreducible] Go.Calls

/-- The rows that the entries read as. -/
def RowsOk (w : World) (U : List Ent) (rows : List UInt8 → List Rw) : Prop := ∀ p ∈ U, SliRw w p.2 (rows p.1)
theorem RowsOk.past {w w' : World} {U : List Ent} {rows : List UInt8 → List Rw} (h : RowsOk w U rows) (hb : Below w.heap.size w w') : RowsOk w' U rows := fun p hp => (h p hp).past hb
abbrev rvZ : Value := .agg #[.int .u32 0, .int .u32 0, .string ⟨#[]⟩, .int .i64 0, .int .i64 0, .slice none 0 0, .slice none 0 0, .slice none 0 0]
/-- What find says. -/
def FindIs (w : World) (U : List Ent) (rows : List UInt8 → List Rw) (id : Int) (e : Ending) (w' : World) : Prop := Below w.heap.size w w' ∧
  ((∃ p ∈ U, ∃ x ∈ rows p.1, x.id = id ∧ e = .returned (.tuple #[rwV x, .bool true])) ∨ ((∀ p ∈ U, ∀ x ∈ rows p.1, x.id ≠ id) ∧ e = .returned (.tuple #[rvZ, .bool false])))
theorem getD_memRw {l : List Rw} {k : Nat} (h : k < l.length) : l.getD k rw0 ∈ l := by
  rw [List.getD_eq_getElem?_getD, List.getElem?_eq_getElem h]; exact List.getElem_mem h
set_option maxRecDepth 100000 in
set_option maxHeartbeats 4000000 in
theorem find_c {m : Nat} {U : List Ent} {rows : List UInt8 → List Rw} (vc : Value) (id : Int) (w : World) (hU : MapU w m U) (hR : RowsOk w U rows) (hl : ∀ p ∈ U, (rows p.1).length ≤ 1000000) :
    Calls Tryz.prog 62 #[ctV vc m, .int .u32 id] w (FindIs w U rows id) := by
  obtain ⟨w0, hw0⟩ : ∃ w0, w0 = (w.alloc (Obj.cells #[vc, .map (some m)] 109)).alloc (Obj.cells #[.int .u32 0, .int .u32 0, .string ⟨#[]⟩, .int .i64 0, .int .i64 0, .slice none 0 0, .slice none 0 0, .slice none 0 0] 50) := ⟨_, rfl⟩
  have B1 : Blk w0 w.heap.size #[vc, .map (some m)] 109 := by rw [hw0]; exact (Blk.made _ _ _).alloc _
  have B2 : Blk w0 (w.heap.size + 1) #[.int .u32 0, .int .u32 0, .string ⟨#[]⟩, .int .i64 0, .int .i64 0, .slice none 0 0, .slice none 0 0, .slice none 0 0] 50 := by rw [hw0]; exact Blk.made_at _ _ _ _ (by simp)
  have hb0 : Below w.heap.size w w0 := by rw [hw0]; (repeat (first | exact Below.refl _ _ | assumption | refine balloc ?_ _ | refine below_drewN ?_ _ | refine bstep (by assumption) ?_ | refine bstep (Past.prop _) ?_ | refine Below.setCell ?_ (by first | exact Nat.le_refl _ | (simp; done) | (simp; omega)) _))
  have hU0 : MapU w0 m U := by rw [hw0]; exact (hU.alloc _).alloc _
  have hz0 : w0.heap.size = w.heap.size + 1 + 1 := by rw [hw0]; simp
  have HR := hidE hR; have HU := hidE hU0; have HL := hidE hl; have HB2 := hidE B2
  clear hU hR hU0 hl B2
  go_enter Tryz.func62, Tryz.ntmps62
  go_upto_region 1 with fail
  rw [← hw0]
  clear hw0
  have b1 := B1.cell 1; have bz := B1.lt
  simp at b1
  clear B1
  go_wp2_with (at_range; refine list_range_U rfl _ 107 9 31 rfl Tryz.underlying107 rfl HU.out ?_; intro w1 hr1 hg1 hz1)
  go_frame
  have hb1 : Below w.heap.size w w1 := Below.grown hb0 hg1 hb0.size (fun k e => by cases e)
  have HB3 := hidE (HB2.out.grown hg1 (by simp))
  rw [hz0] at hr1
  rw [hz0]
  clear hb0 hg1 hz1 HU b1 bz hz0 HB2 w0
  go_loopw [13] (fun _ wr => ∃ done, RngU wr (w.heap.size + 1 + 1) m U done ∧ Below w.heap.size w wr ∧ Blk wr (w.heap.size + 1) #[.int .u32 0, .int .u32 0, .string ⟨#[]⟩, .int .i64 0, .int .i64 0, .slice none 0 0, .slice none 0 0, .slice none 0 0] 50 ∧ ∀ p ∈ done, ∀ x ∈ rows p.1, x.id ≠ id) (fun _ wr => U.length - seenN wr (w.heap.size + 1 + 1))
  case atStart => exact ⟨[], hr1, hb1, HB3.out, fun p hp => by simp at hp⟩
  case round =>
    obtain ⟨done, hrg, hb, hB, hno⟩ := hrel
    have HB := hidE hB; have HNO := hidE hno
    clear hB hno HB3 hr1 hb1
    go_wp2_with (at_next; refine list_next_U rfl _ rfl rfl hrg ?_ ?_)
    · intro hp
      have hall : ∀ p ∈ U, ∀ x ∈ rows p.1, x.id ≠ id := fun p hpU => HNO.out p (hp.mem_iff.2 hpU)
      have HALL := hidE hall
      have hBr := HB.out
      have b0 := hBr.cell 0; have b1 := hBr.cell 1; have b2 := hBr.cell 2; have b3 := hBr.cell 3; have b4 := hBr.cell 4; have b5 := hBr.cell 5; have b6 := hBr.cell 6; have b7 := hBr.cell 7; have bf := hBr.free; have bz := hBr.lt
      simp at b0 b1 b2 b3 b4 b5 b6 b7
      clear hp hall HNO hBr
      go_wp2
      refine bodyPost_ret (v := .tuple #[rvZ, .bool false]) (by simp [results, Tryz.results62, go_sem, b0, b1, b2, b3, b4, b5, b6, b7]) rfl ⟨below_eight hb (by omega) _ _ _ _ _ _ _ _, .inr ⟨HALL.out, rfl⟩⟩
    · intro pk pv w2 hpU hlt hrg2 hg2 hz2 hen
      have hb2 : Below w.heap.size w w2 := Below.grown hb hg2 hb.size (fun k e => by cases e; omega)
      have HB2 := hidE (HB.out.grown hg2 (by simp))
      have HR2 := hidE (HR.out.past hb2 (pk, pv) hpU)
      have hln := HL.out (pk, pv) hpU
      have hm1 := hrg.seen
      have hm2 := hrg2.seen
      rw [List.length_append, List.length_singleton] at hm2
      simp only at hln
      have HPU := hidE hpU
      have HMS := hidE (show U.length - seenN w2 (w.heap.size + 1 + 1) < U.length - seenN wr (w.heap.size + 1 + 1) from by rw [hm1, hm2]; omega)
      obtain ⟨av, cp, ev, hc1, hc2, hc3, hc4, hc5⟩ := HR2.out
      simp only at ev hc1 hc3 hc4 hc5
      subst ev
      have HC4 := hidE hc4
      have HFIT := hidE hc5
      have HMEM := hidE (fun k (h : k < (rows pk).length) => getD_memRw h)
      have HEX := hidE (fun x (h : x ∈ rows pk) (e : x.id = id) => show ∃ p ∈ U, ∃ y ∈ rows p.1, y.id = id ∧ y = x from ⟨_, HPU.out, x, h, e, rfl⟩)
      have HFIN := hidE (fun (h : ∀ x ∈ rows pk, x.id ≠ id) => show ∀ p ∈ done ++ [(pk, Value.slice av (rows pk).length cp)], ∀ x ∈ rows p.1, x.id ≠ id from fun p hp => by
        rcases List.mem_append.1 hp with hp | hp
        · exact HNO.out p hp
        · simp only [List.mem_singleton] at hp
          subst hp; exact h)
      have HB2r := hidE hb2; have HRG := hidE hrg2
      have hz2 := HB2.out.lt
      clear hg2 hrg hb hm1 hm2 hlt hc3 hc4 hc5 HL HB HR2 hb2 hrg2 HNO HPU hpU HR
      generalize rows pk = l at *
      go_upto_region 5 with fail
      go_loopw [19] (fun s wr => ∃ k : Nat, s = .int .i64 k ∧ k ≤ l.length ∧ Below w2.heap.size w2 wr ∧ ∀ j, j < k → (l.getD j rw0).id ≠ id) (fun s _ => l.length - (intOf s).toNat)
      case atStart => exact ⟨0, rfl, Nat.zero_le _, Below.refl _ _, fun j hj => by omega⟩
      case round =>
        obtain ⟨k, rfl, hk, hbv, hs⟩ := hrel
        have HS := hidE hs; clear hs
        have HBV := hidE hbv
        have HBB := hidE (HB2.out.past hbv)
        have hzv := Nat.lt_of_lt_of_le hz2 hbv.size
        have hbw := HB2r.out.trans (hbv.mono HB2r.out.size)
        by_cases hlt : k < l.length
        · obtain ⟨b, off, rfl, hbz, hcc⟩ := HC4.out (by omega)
          have hbr : b < wr.heap.size := Nat.lt_of_lt_of_le hbz hbv.size
          obtain ⟨e0, e1, e2, e3, e4, e5, e6, e7⟩ := hcc.get hlt
          rw [← hbv.cell hbz] at e0 e1 e2 e3 e4 e5 e6 e7
          have HME := hidE (HMEM.out k hlt)
          have hft := HFIT.out _ HME.out
          have HQ := hidE (fun h j (hj : j < k + 1) => show (l.getD j rw0).id ≠ id from by
            by_cases e : j = k
            · subst e; exact h
            · exact HS.out j (by omega))
          clear hcc HS HMEM HC4 hbv HFIT
          generalize l.getD k rw0 = x at *
          obtain ⟨xi, xq, xu, xf, xt, xT, xW, xA⟩ := x
          obtain ⟨⟨a5, n5, c5, q5⟩, ⟨a6, n6, c6, q6⟩, ⟨a7, n7, c7, q7⟩, _⟩ := hft
          simp only at q5 q6 q7 e0 e1 e2 e3 e4 e5 e6 e7
          subst q5 q6 q7
          obtain ⟨w4, hw4⟩ : ∃ w4, w4 = wr.alloc (Obj.cells #[.int .u32 xi, .int .u32 xq, nmV xu, .int .i64 xf, .int .i64 xt, .slice a5 n5 c5, .slice a6 n6 c6, .slice a7 n7 c7] 50) := ⟨_, rfl⟩
          have B4 : Blk w4 wr.heap.size #[.int .u32 xi, .int .u32 xq, nmV xu, .int .i64 xf, .int .i64 xt, .slice a5 n5 c5, .slice a6 n6 c6, .slice a7 n7 c7] 50 := by rw [hw4]; exact Blk.made _ _ _
          have hb4 : Below wr.heap.size wr w4 := by rw [hw4]; exact (Below.refl _ _).alloc (Nat.le_refl _) _
          go_upto_region 7 with fail
          rw [← hw4]
          clear hw4
          have b0 := B4.cell 0; have b1 := B4.cell 1; have b2 := B4.cell 2; have b3 := B4.cell 3; have b4 := B4.cell 4; have b5 := B4.cell 5; have b6 := B4.cell 6; have b7 := B4.cell 7; have bz := B4.lt
          simp at b0 b1 b2 b3 b4 b5 b6 b7
          clear e0 e1 e2 e3 e4 e5 e6 e7 B4
          have hb5 : Below w.heap.size w w4 := hbw.trans (hb4.mono (Nat.le_trans HB2r.out.size HBV.out.size))
          have HB6 := hidE (HBB.out.past hb4)
          have hz4 := hb4.size
          by_cases hid : xi = id
          · have HX := hidE (HEX.out _ HME.out hid)
            have d0 : (xi == id) = true := beq_iff_eq.2 hid
            have d1 : decide (xi = id) = true := decide_eq_true hid
            have hBr := HB6.out
            have z0 := hBr.cell 0; have z1 := hBr.cell 1; have z2 := hBr.cell 2; have z3 := hBr.cell 3; have z4 := hBr.cell 4; have z5 := hBr.cell 5; have z6 := hBr.cell 6; have z7 := hBr.cell 7; have bf := hBr.free; have bzr := hBr.lt
            simp at z0 z1 z2 z3 z4 z5 z6 z7
            have HB5 := hidE hb5; have HBR := hidE hBr
            clear HEX HQ HFIN HMS HRG hBr hb5 hbw hb4 HBV HBB
            go_wp2
            refine bodyPost_ret (v := .tuple #[.agg #[.int .u32 xi, .int .u32 xq, nmV xu, .int .i64 xf, .int .i64 xt, .slice a5 n5 c5, .slice a6 n6 c6, .slice a7 n7 c7], .bool true]) (by simp [results, Tryz.results62, go_sem, z0, z1, z2, z3, z4, z5, z6, z7, hid]) rfl ?_
            obtain ⟨p, hp, y, hy, ey, eq⟩ := HX.out
            exact ⟨below_eight HB5.out (by omega) _ _ _ _ _ _ _ _, .inl ⟨p, hp, y, hy, ey, by rw [eq]⟩⟩
          · have d0 : decide (xi = id) = false := decide_eq_false hid
            have HF := hidE (HQ.out hid)
            have HB7 := hidE (HBV.out.trans (hb4.mono HBV.out.size))
            have d1 : (xi == id) = false := beq_eq_false_iff_ne.2 hid
            clear HEX HQ HFIN HMS HRG hb5 hbw hb4 HBV HBB HB6
            go_wp2
            exact ⟨⟨k + 1, by go_num, by omega, HB7.out, HF.out⟩, by simp [intOf]; omega⟩
        · have hkl : k = l.length := by omega
          have HF := hidE (HFIN.out (fun x hx => by
            obtain ⟨j, hj, rfl⟩ := List.getElem_of_mem hx
            have := HS.out j (by omega)
            rwa [List.getD_eq_getElem?_getD, List.getElem?_eq_getElem hj] at this))
          have hrg4 := HRG.out.past hbv
          have hsn : seenN wr (w.heap.size + 1 + 1) = seenN w2 (w.heap.size + 1 + 1) := by rw [hrg4.seen, HRG.out.seen]
          have hms := HMS.out
          rw [← hsn] at hms
          have HMS2 := hidE hms
          clear hkl HS HFIN HEX HC4 HMEM hms hsn HMS
          go_wp2
          exact ⟨⟨_, hrg4, hbw, HBB.out, HF.out⟩, HMS2.out⟩
end Go.Proofs.YtjhhcljbmnomlaaGreat

namespace Go.Proofs.YtjhhcljbmnomlaaGreat
open Go.ChangeShapes Go.WideShapes Go.ChangeAt Go.RowKit
attribute [local irreducible] Go.Calls

set_option maxRecDepth 100000 in
theorem made_c {p m : Nat} {vc : Value} (w : World) (hB : Blk w p #[vc, .map (some m)] 111) : Calls Tryz.prog 49 #[.pointer (some ⟨p, 0, none⟩)] w fun e w' => e = .returned (.bool true) ∧ Below w.heap.size w w' := by
  have b1 := hB.cell 1; have bz := hB.lt
  simp at b1
  clear hB
  have hne : ∀ w, (binOp BinOp.neq 107 (.map (some m)) (.map none)).run Tryz.prog w = .ok (.bool true) w := fun w => by kernel_rfl
  go_enter Tryz.func49, Tryz.ntmps49
  go_wp2
  go_ret
  exact ⟨rfl, by (repeat (first | exact Below.refl _ _ | assumption | refine balloc ?_ _ | refine below_drewN ?_ _ | refine bstep (by assumption) ?_ | refine bstep (Past.prop _) ?_ | refine Below.setCell ?_ (by first | exact Nat.le_refl _ | (simp; done) | (simp; omega)) _))⟩
/-- A slice that the call has made, over cells that are known. -/
def cpR (B : Nat) (e : TypeId) (sz n : Nat) (ys : List Value) : Value → World → Prop := fun v w => w.ownsRow B e sz v n ys
theorem stab_cp (B : Nat) (e : TypeId) (sz n : Nat) (ys : List Value) : Stab (cpR B e sz n ys) := fun _ _ _ h hb => own_below h hb
/-- What apart says. -/
def ApartIs (w : World) (x : Rw) (nT nW nA : Nat) (yT yW yA : List Value) (e : Ending) (w' : World) : Prop := ∃ vT vW vA, e = .returned (rwV { x with vT := vT, vW := vW, vA := vA }) ∧ Below w.heap.size w w' ∧
  w'.ownsRow w.heap.size 177 5 vT nT yT ∧ w'.ownsRow w.heap.size 180 2 vW nW yW ∧ w'.ownsRow w.heap.size 105 3 vA nA yA
set_option maxRecDepth 100000 in
set_option maxHeartbeats 4000000 in
theorem apart_c (x : Rw) (nT nW nA : Nat) (yT yW yA : List Value) (w : World) (hT : SrcV w 5 x.vT nT yT) (hW : SrcV w 2 x.vW nW yW) (hA : SrcV w 3 x.vA nA yA) (lT : nT ≤ 1099511627776) (lW : nW ≤ 1099511627776) (lA : nA ≤ 1099511627776) :
    Calls Tryz.prog 63 #[rwV x] w (ApartIs w x nT nW nA yT yW yA) := by
  obtain ⟨id, seq, u', fr, to', vT, vW, vA⟩ := x
  simp only at hT hW hA
  obtain ⟨w0, hw0⟩ : ∃ w0, w0 = (w.alloc (Obj.cells #[.int .u32 id, .int .u32 seq, nmV u', .int .i64 fr, .int .i64 to', vT, vW, vA] 50)).alloc (Obj.cells #[.int .u32 0, .int .u32 0, .string ⟨#[]⟩, .int .i64 0, .int .i64 0, .slice none 0 0, .slice none 0 0, .slice none 0 0] 50) := ⟨_, rfl⟩
  obtain ⟨pb, hpb⟩ : ∃ pb, pb = w.heap.size := ⟨_, rfl⟩
  have B1 : Blk w0 pb #[.int .u32 id, .int .u32 seq, nmV u', .int .i64 fr, .int .i64 to', vT, vW, vA] 50 := by rw [hw0, hpb]; exact (Blk.made _ _ _).alloc _
  have B2 : Blk w0 (pb + 1) #[.int .u32 0, .int .u32 0, .string ⟨#[]⟩, .int .i64 0, .int .i64 0, .slice none 0 0, .slice none 0 0, .slice none 0 0] 50 := by rw [hw0, hpb]; exact Blk.made_at _ _ _ _ (by simp)
  have hb0 : Below w.heap.size w w0 := by rw [hw0]; (repeat (first | exact Below.refl _ _ | assumption | refine balloc ?_ _ | refine below_drewN ?_ _ | refine bstep (by assumption) ?_ | refine bstep (Past.prop _) ?_ | refine Below.setCell ?_ (by first | exact Nat.le_refl _ | (simp; done) | (simp; omega)) _))
  have hz0 : w0.heap.size = pb + 1 + 1 := by rw [hw0, hpb]; simp
  have HT := hidE (srcV_below hT hb0); have HW := hidE (srcV_below hW hb0); have HA := hidE (srcV_below hA hb0)
  have HB0 := hidE hb0; have HB1 := hidE B1; have HB2 := hidE B2
  go_enter Tryz.func63, Tryz.ntmps63
  go_upto_region 1 with fail
  rw [← hw0, ← hpb]
  have b5 := B1.cell 5; have b6 := B1.cell 6; have b7 := B1.cell 7; have bz := B1.lt
  simp at b5 b6 b7
  have HPB := hidE hpb; have HZ0 := hidE hz0
  clear hw0 B1 B2 hb0 hT hW hA hpb hz0
  refine wp_region_J 12 [] (nthR [detR (.pointer (some ⟨pb, 3, none⟩)), detR (.pointer (some ⟨pb, 5, none⟩)), detR vT, cpR w0.heap.size 177 5 nT yT, detR (.pointer (some ⟨pb, 6, none⟩)), detR vW, cpR w0.heap.size 180 2 nW yW, detR (.pointer (some ⟨pb, 7, none⟩)), detR vA, cpR w0.heap.size 105 3 nA yA, detR (.pointer (some ⟨pb, 3, none⟩)), detR (.pointer (some ⟨pb, 5, none⟩))]) (fun _ => false) (by kernel_rfl) (by decide) (by kernel_rfl) (stab_nth (by intro r hr; simp only [List.mem_cons, List.not_mem_nil, or_false] at hr; rcases hr with rfl | rfl | rfl | rfl | rfl | rfl | rfl | rfl | rfl | rfl | rfl | rfl <;> first | exact stab_det _ | exact stab_cp _ _ _ _ _)) ?_ ?_ ?_
  · intro i o hi ho
    match i, hi with
    | 0, _ =>
      obtain rfl := Option.some.inj ho
      intro u x hd
      have hc := Past.cell x
      simp [go_sem, gives, frm, Act.put, nthR, detR, Region.wanted, Below.refl]
    | 1, _ =>
      obtain rfl := Option.some.inj ho
      intro u x hd
      have hc := Past.cell x
      have d0 := hd 0 (by decide) (by kernel_rfl)
      simp only [nthR, detR, List.getD_cons_zero] at d0
      simp [go_sem, gives, frm, Act.put, nthR, detR, Region.wanted, Below.refl, d0]
    | 2, _ =>
      obtain rfl := Option.some.inj ho
      intro u x hd
      have hc := Past.cell x
      have d1 := hd 1 (by decide) (by kernel_rfl)
      simp only [nthR, detR, List.getD_cons_zero, List.getD_cons_succ] at d1
      simp [go_sem, gives, frm, Act.put, nthR, detR, Region.wanted, Below.refl, hc, d1, b5, bz]
    | 3, _ =>
      obtain rfl := Option.some.inj ho
      intro u x hd
      have hc := Past.cell x
      have d2 := hd 2 (by decide) (by kernel_rfl)
      simp only [nthR, detR, List.getD_cons_zero, List.getD_cons_succ] at d2
      simp [go_sem, gives, frm, Act.put, nthR, Region.wanted, d2]
      (with_reducible refine (copiedPart_c (srcV_below HT.out (Past.prop x)) lT).mono ?_); rintro e w3 ⟨v, rfl, ho3, hb3⟩; exact ⟨_, rfl, hb3, own_base ho3 (Past.prop x).size⟩
    | 4, _ =>
      obtain rfl := Option.some.inj ho
      intro u x hd
      have hc := Past.cell x
      simp [go_sem, gives, frm, Act.put, nthR, detR, Region.wanted, Below.refl]
    | 5, _ =>
      obtain rfl := Option.some.inj ho
      intro u x hd
      have hc := Past.cell x
      have d4 := hd 4 (by decide) (by kernel_rfl)
      simp only [nthR, detR, List.getD_cons_zero, List.getD_cons_succ] at d4
      simp [go_sem, gives, frm, Act.put, nthR, detR, Region.wanted, Below.refl, hc, d4, b6, bz]
    | 6, _ =>
      obtain rfl := Option.some.inj ho
      intro u x hd
      have hc := Past.cell x
      have d5 := hd 5 (by decide) (by kernel_rfl)
      simp only [nthR, detR, List.getD_cons_zero, List.getD_cons_succ] at d5
      simp [go_sem, gives, frm, Act.put, nthR, Region.wanted, d5]
      (with_reducible refine (copiedPiece_c (srcV_below HW.out (Past.prop x)) lW).mono ?_); rintro e w3 ⟨v, rfl, ho3, hb3⟩; exact ⟨_, rfl, hb3, own_base ho3 (Past.prop x).size⟩
    | 7, _ =>
      obtain rfl := Option.some.inj ho
      intro u x hd
      have hc := Past.cell x
      simp [go_sem, gives, frm, Act.put, nthR, detR, Region.wanted, Below.refl]
    | 8, _ =>
      obtain rfl := Option.some.inj ho
      intro u x hd
      have hc := Past.cell x
      have d7 := hd 7 (by decide) (by kernel_rfl)
      simp only [nthR, detR, List.getD_cons_zero, List.getD_cons_succ] at d7
      simp [go_sem, gives, frm, Act.put, nthR, detR, Region.wanted, Below.refl, hc, d7, b7, bz]
    | 9, _ =>
      obtain rfl := Option.some.inj ho
      intro u x hd
      have hc := Past.cell x
      have d8 := hd 8 (by decide) (by kernel_rfl)
      simp only [nthR, detR, List.getD_cons_zero, List.getD_cons_succ] at d8
      simp [go_sem, gives, frm, Act.put, nthR, Region.wanted, d8]
      (with_reducible refine (copiedSeg_c (srcV_below HA.out (Past.prop x)) lA).mono ?_); rintro e w3 ⟨v, rfl, ho3, hb3⟩; exact ⟨_, rfl, hb3, own_base ho3 (Past.prop x).size⟩
    | 10, _ =>
      obtain rfl := Option.some.inj ho
      intro u x hd
      have hc := Past.cell x
      simp [go_sem, gives, frm, Act.put, nthR, detR, Region.wanted, Below.refl]
    | 11, _ =>
      obtain rfl := Option.some.inj ho
      intro u x hd
      have hc := Past.cell x
      have d10 := hd 10 (by decide) (by kernel_rfl)
      simp only [nthR, detR, List.getD_cons_zero, List.getD_cons_succ] at d10
      simp [go_sem, gives, frm, Act.put, nthR, detR, Region.wanted, Below.refl, d10]
    | i + 12, h => exact absurd h (by omega)
  · intro i o hx ho
    simp at hx
  · intro u x9 hu hne
    have h3 : cpR w0.heap.size 177 5 nT yT (u 3) x9.1 := hu 3 (by decide)
    have h6 : cpR w0.heap.size 180 2 nW yW (u 6) x9.1 := hu 6 (by decide)
    have h9 : cpR w0.heap.size 105 3 nA yA (u 9) x9.1 := hu 9 (by decide)
    have e0 : u 0 = .pointer (some ⟨pb, 3, none⟩) := hu 0 (by decide)
    have e10 : u 10 = .pointer (some ⟨pb, 3, none⟩) := hu 10 (by decide)
    have e11 : u 11 = .pointer (some ⟨pb, 5, none⟩) := hu 11 (by decide)
    obtain ⟨xT, e3⟩ : ∃ v, u 3 = v := ⟨_, rfl⟩
    obtain ⟨xW, e6⟩ : ∃ v, u 6 = v := ⟨_, rfl⟩
    obtain ⟨xA, e9⟩ : ∃ v, u 9 = v := ⟨_, rfl⟩
    rw [e3] at h3; rw [e6] at h6; rw [e9] at h9
    obtain ⟨aT, cT, rfl⟩ := own_sli h3
    obtain ⟨aW, cW, rfl⟩ := own_sli h6
    obtain ⟨aA, cA, rfl⟩ := own_sli h9
    simp only [frm, List.take, Act.put, e3, e6, e9, e10, e11]
    have hB9 := HB0.out.trans (x9.2.mono HB0.out.size)
    have B19 := HB1.out.past x9.2
    have B29 := HB2.out.past x9.2
    have HB19 := hidE B19; have HB29 := hidE B29; have HB9 := hidE hB9; have HO3 := hidE h3; have HO6 := hidE h6; have HO9 := hidE h9
    have c0 := B19.cell 0; have c1 := B19.cell 1; have c2 := B19.cell 2; have c3 := B19.cell 3; have c4 := B19.cell 4; have c5 := B19.cell 5; have c6 := B19.cell 6; have c7 := B19.cell 7; have cf := B19.free; have cz := B19.lt
    have r0 := B29.cell 0; have r1 := B29.cell 1; have r2 := B29.cell 2; have r3 := B29.cell 3; have r4 := B29.cell 4; have r5 := B29.cell 5; have r6 := B29.cell 6; have r7 := B29.cell 7; have rf := B29.free; have rz := B29.lt
    simp at c0 c1 c2 c3 c4 c5 c6 c7 r0 r1 r2 r3 r4 r5 r6 r7
    clear hu hne e0 e3 e6 e9 e10 e11 B19 B29 HB0 HB1 HB2 HT HW HA b5 b6 b7 bz hB9 h3 h6 h9
    generalize x9.1 = w9 at *
    go_wp2
    refine bodyPost_ret (v := .agg #[.int .u32 id, .int .u32 seq, nmV u', .int .i64 fr, .int .i64 to', .slice aT nT cT, .slice aW nW cW, .slice aA nA cA]) (by simp [results, Tryz.results63, go_sem, r0, r1, r2, r3, r4, r5, r6, r7]) rfl ?_
    have hp := HPB.out
    have hz := HZ0.out
    have hk : ∀ (e : TypeId) (sz n : Nat) (v : Value) (xs : List Value) (W : World), W.ownsRow w0.heap.size e sz v n xs → ∀ W' : World, (∀ k, pb + 1 < k → W'.heap[k]? = W.heap[k]?) → W'.ownsRow w.heap.size e sz v n xs := fun e sz n v xs W ho W' hkk => own_base (own_kept ho (fun k ek => hkk k (by have := own_block ho ek; omega))) (by omega)
    refine ⟨_, _, _, rfl, below_eight (((HB9.out.setCell (Nat.le_of_eq hp.symm) _).setCell (Nat.le_of_eq hp.symm) _).setCell (Nat.le_of_eq hp.symm) _) (by omega) _ _ _ _ _ _ _ _, hk _ _ _ _ _ _ HO3.out _ ?_, hk _ _ _ _ _ _ HO6.out _ ?_, hk _ _ _ _ _ _ HO9.out _ ?_⟩
    all_goals
      intro k hk
      exact (heap_eight (by omega) _ _ _ _ _ _ _ _).trans ((keptS (by omega) _).trans ((keptS (by omega) _).trans (keptS (by omega) _)))
end Go.Proofs.YtjhhcljbmnomlaaGreat

namespace Go.Proofs.YtjhhcljbmnomlaaGreat
open Go.ChangeShapes Go.WideShapes Go.ChangeAt Go.RowKit
attribute [local irreducible] Go.Calls

theorem doS_may {k : Int} {F G : List Sg} (h : (doS k F G).2 = 0) : mayB (doS k F G).1 = true := by
  unfold doS at h ⊢
  split
  · rename_i h1; rw [if_pos h1] at h; exact absurd h (by decide)
  · rename_i h1
    rw [if_neg h1] at h
    split
    · rename_i h2
      obtain ⟨a, b⟩ : mayB F = true ∧ mayB G = true := by simpa using h1
      exact mayB_iff.2 (opL_spec (mayB_iff.1 a) (mayB_iff.1 b) h2).1
    · rename_i h2; rw [if_neg h2] at h; exact absurd h (by decide)
/-- A slice of slices, each with its capacity. -/
def ArgQ (w : World) (a : Option Addr) (L : List (List Sg)) : Prop := 0 < L.length → ∃ b off, a = some ⟨b, off, none⟩ ∧ b < w.heap.size ∧ ∀ i, i < L.length → ∃ v, w.cell? ⟨b, off + i, none⟩ = some v ∧ SliS w v (L.getD i [])
theorem ArgQ.past {w w' : World} {a : Option Addr} {L : List (List Sg)} (h : ArgQ w a L) (hb : Below w.heap.size w w') : ArgQ w' a L := fun hl => by
  obtain ⟨b, off, e, h1, h2⟩ := h hl
  refine ⟨b, off, e, Nat.lt_of_lt_of_le h1 hb.size, fun i hi => ?_⟩
  obtain ⟨v, h3, h4⟩ := h2 i hi
  exact ⟨v, (hb.cell (p := ⟨b, _, none⟩) h1).trans h3, h4.past hb⟩
theorem ArgQ.row {w : World} {a : Option Addr} {L : List (List Sg)} (h : ArgQ w a L) : ArgR w a L := fun hl => by
  obtain ⟨b, off, e, h1, h2⟩ := h hl
  refine ⟨b, off, e, h1, fun i hi => ?_⟩
  obtain ⟨v, h3, a', c, rfl, _, _, h4⟩ := h2 i hi
  exact ⟨a', c, h3, h4⟩

set_option maxRecDepth 100000 in
set_option maxHeartbeats 2000000 in
theorem cadd_c (L : List (List Sg)) (a : Option Addr) (cap : Nat) (w : World) (hn : L.length ≤ 999999990) (hl : lenR L ≤ 999999990) (hA : ArgQ w a L) :
    Calls Tryz.prog 98 #[.slice a L.length cap] w (OfIs w (sumS L).1 (sumS L).2) := by
  have HA := hidE hA
  have HCN := hidE (canon_c L a cap w hn hl hA.row)
  clear hA
  cases hm : L.all mayB
  · have HE := hidE (show sumS L = ([], 5) by unfold sumS; rw [if_neg (by rw [hm]; decide)])
    rw [hm] at HCN
    rw [HE.out]
    go_enter Tryz.func98, Tryz.ntmps98
    go_wp2_with fail
    ((with_reducible refine (HCN.out).mono ?_); rintro e w1 ⟨rfl, hb1⟩)
    go_wp2
    go_ret2
    exact ⟨_, rfl, sliS_nil _, hb1⟩
  · have HE := hidE (show sumS L = sumE L by unfold sumS; rw [if_pos hm])
    have HM := hidE (fun i (hi : i < L.length) => show mayB (L.getD i []) = true from by
      rw [getD_get _ _ _ hi]; exact List.all_eq_true.1 hm _ (List.getElem_mem hi))
    rw [hm] at HCN
    rw [HE.out]
    clear hm HE
    go_enter Tryz.func98, Tryz.ntmps98
    go_wp2_with fail
    ((with_reducible refine (HCN.out).mono ?_); rintro e w1 ⟨rfl, hb1⟩)
    have HB1 := hidE hb1
    clear hb1 HCN
    go_wp2_with fail
    go_loopg [4, 13, 6, 7] L.length (fun gh vf vi _ _ wr2 => ∃ (n : Nat) (v : Value), v = vf ∧ vi = .int .i64 n ∧ n ≤ L.length ∧ L.length - n ≤ gh ∧ (sumE (L.take n)).2 = 0 ∧ mayB (sumE (L.take n)).1 = true ∧ (sumE (L.take n)).1.length ≤ lenR (L.take n) ∧ SliS wr2 v (sumE (L.take n)).1 ∧ Below w.heap.size w wr2)
    case atStart => exact ⟨0, .slice none 0 0, rfl, rfl, by omega, by omega, rfl, rfl, by simp [sumE], sliS_nil _, HB1.out⟩
    case round =>
      obtain ⟨n, v, rfl, rfl, hnl, hg2, h0, hmay, hlen, hv, hb2⟩ := hrel
      have HB2 := hidE hb2; have H0 := hidE h0
      by_cases hlt : n < L.length
      · obtain ⟨b, off, rfl, hb, hc⟩ := (HA.out.past hb2) (by omega)
        obtain ⟨vi, d0, ai, ci, rfl, hi1, hi2, hAi⟩ := hc n hlt
        obtain ⟨a1, c1, rfl, hv1, hv2, hA1⟩ := hv
        have HST := hidE (sumE_step hlt h0)
        have HBD := hidE (fun h => sumE_bad (L := L) (n := n + 1) h)
        have hls := lenR_step hlt
        have hlt2 := lenR_take L (n + 1)
        have hmi := HM.out n hlt
        have HDL := hidE (doS_len 0 (sumE (L.take n)).1 (L.getD n []))
        have HDE := hidE (fun h => doS_err (k := 0) (F := (sumE (L.take n)).1) (G := L.getD n []) h)
        have HDM := hidE (fun h => doS_may (k := 0) (F := (sumE (L.take n)).1) (G := L.getD n []) h)
        have HDO := hidE (comb_plus (sumE (L.take n)).1 (L.getD n []) a1 ai c1 ci wr hv1 hv2 hi1 hi2 (by omega) hA1 hAi hmay hmi)
        rw [← HST.out] at HDL HDE HDO HDM
        clear hc hAi hA1 hb2 h0 hmay hmi hi1 hi2 hv1 hv2
        generalize (sumE (L.take n)).1 = f at *
        generalize L.getD n [] = G at *
        generalize hqq : sumE (L.take (n + 1)) = q at *
        have HQQ := hidE hqq
        clear hqq
        by_cases hq : q.2 = 0
        · have hd : (q.2 != 0) = false := by rw [bne_eq_false_iff_eq]; exact hq
          have HQ := hidE hq
          have HQM := hidE (HDM.out hq)
          clear hq HBD HDE HDM
          go_wp2_with fail
          ((with_reducible refine (HDO.out).mono ?_); rintro e w3 ⟨v3, rfl, hv3, hb3⟩)
          have o1 := bstep hb3 HB2.out
          clear hb3 d0
          go_wp2
          go_roundg (L.length - (n + 1))
          case measure => omega
          case rel => exact ⟨n + 1, v3, rfl, by go_num, by omega, Nat.le_refl _, by rw [HQQ.out]; exact HQ.out, by rw [HQQ.out]; exact HQM.out, by rw [HQQ.out]; have := HDL.out; omega, by rw [HQQ.out]; exact hv3, o1⟩
        · have hd : (q.2 != 0) = true := bne_iff_ne.2 hq
          have HD := hidE (HBD.out hq)
          have HQ1 := hidE (HDE.out hq)
          clear hq HBD HDE HDM
          go_wp2_with fail
          ((with_reducible refine (HDO.out).mono ?_); rintro e w3 ⟨v3, rfl, hv3, hb3⟩)
          have o1 := bstep hb3 HB2.out
          clear hb3 d0
          go_wp2
          go_ret2
          rw [HD.out, HQ1.out]
          exact ⟨_, rfl, sliS_nil _, o1⟩
      · have hn' : n = L.length := by omega
        subst hn'
        have h0' := H0.out
        rw [List.take_length] at h0' hv
        have HH := hidE h0'; have HV2 := hidE hv
        clear h0' hv h0 H0 hlen hb2 hmay
        go_wp2
        go_ret2
        rw [HH.out]
        exact ⟨_, rfl, HV2.out, HB2.out⟩
end Go.Proofs.YtjhhcljbmnomlaaGreat

namespace Go.Proofs.YtjhhcljbmnomlaaGreat
def sA (L : List (List Sg)) (t : Int) : Int := (L.map fun f => (vat f t).1).sum
def sB (L : List (List Sg)) (t : Int) : Int := (L.map fun f => (vat f t).2).sum
theorem addS_okP {a b c d : Int} (h1 : okV a b = true) (h2 : okV c d = true) (h3 : okV (a + c) (b + d) = true) : addS a b c d = (a + c, b + d, 0) := by unfold addS; rw [h1, h2, h3]; rfl
theorem doS_nilP {F : List Sg} (h : mayB F = true) : doS 0 [] F = (F, 0) := doS_of rfl h h fun t => by
  show addS 0 0 (vat F t).1 (vat F t).2 = _
  have := vat_ok (CF.ok (mayB_iff.1 h)) t
  rw [addS_okP (by decide) this (by simpa using this)]
  simp
theorem sumS_twoP {F G : List Sg} (h1 : mayB F = true) (h2 : mayB G = true) : sumS [F, G] = doS 0 F G := by
  have e : [F, G].all mayB = true := by simp [h1, h2]
  unfold sumS
  rw [e, if_pos rfl]
  unfold sumE
  simp only [List.foldl_cons, List.foldl_nil, doS_nilP h1, if_true]

theorem vat_pos {F : List Sg} (h : F.all nonneg = true) (t : Int) : 0 ≤ (vat F t).1 ∧ 0 ≤ (vat F t).2 := by
  have key : ∀ (l : List Sg) (v : Int × Int), (∀ s ∈ l, nonneg s = true) → 0 ≤ v.1 ∧ 0 ≤ v.2 → 0 ≤ (l.foldl (stepV t) v).1 ∧ 0 ≤ (l.foldl (stepV t) v).2 := by
    intro l
    induction l with
    | nil => intro v _ hv; exact hv
    | cons s r ih =>
      intro v hl hv
      refine ih _ (fun s' hs => hl s' (List.mem_cons_of_mem _ hs)) ?_
      have := hl s (List.mem_cons_self ..)
      unfold nonneg at this
      simp only [Bool.and_eq_true, decide_eq_true_eq] at this
      unfold stepV; split
      · exact this
      · exact hv
  exact key F (0, 0) (fun s hs => List.all_eq_true.1 h s hs) (by simp)
theorem sA_app (A B : List (List Sg)) (t : Int) : sA (A ++ B) t = sA A t + sA B t := by unfold sA; rw [List.map_append, List.sum_append]
theorem sB_app (A B : List (List Sg)) (t : Int) : sB (A ++ B) t = sB A t + sB B t := by unfold sB; rw [List.map_append, List.sum_append]
theorem sAB_pos {L : List (List Sg)} (h : ∀ F ∈ L, posB F = true) (t : Int) : 0 ≤ sA L t ∧ 0 ≤ sB L t := by
  induction L with
  | nil => simp [sA, sB]
  | cons F L ih =>
    obtain ⟨a, b⟩ := ih fun G hG => h G (List.mem_cons_of_mem _ hG)
    have hp := h F (List.mem_cons_self ..)
    unfold posB at hp
    rw [Bool.and_eq_true] at hp
    obtain ⟨c, d⟩ := vat_pos hp.2 t
    unfold sA sB at *
    simp only [List.map_cons, List.sum_cons]
    omega
/-- What the functions have together, is A. -/
def Loads (L : List (List Sg)) (A : List Sg) : Prop := mayB A = true ∧ (∀ t, vat A t = (sA L t, sB L t)) ∧ A.length ≤ lenR L
/-- Their sum is in range at each time. -/
def InR (L : List (List Sg)) : Prop := ∀ t, sA L t ≤ 1125899906842624 ∧ sB L t ≤ 1125899906842624
theorem loads_nil : Loads [] [] := ⟨rfl, fun _ => rfl, Nat.le_refl _⟩
theorem loads_one {F : List Sg} (h : posB F = true) : Loads [F] F := by
  unfold posB at h
  rw [Bool.and_eq_true] at h
  exact ⟨h.1, fun t => by simp [sA, sB], by simp [lenR]⟩
theorem loads_unique {L L' : List (List Sg)} {A B : List Sg} (h : Loads L A) (h' : Loads L' B) (e : ∀ t, sA L t = sA L' t ∧ sB L t = sB L' t) : A = B := by
  have h1 := min_self h.1
  have h2 := doS_ext (k := 2) h.1 h.1 h'.1 h'.1 (fun t => by unfold opT; rw [h.2.1 t, h'.2.1 t, (e t).1, (e t).2])
  rw [h1, min_self h'.1] at h2
  exact (Prod.mk.inj h2).1
theorem inR_left {A B : List (List Sg)} (hp : ∀ F ∈ A ++ B, posB F = true) (h : InR (A ++ B)) : InR A := fun t => by
  have := h t
  rw [sA_app, sB_app] at this
  have := sAB_pos (L := B) (fun F hF => hp F (List.mem_append_right _ hF)) t
  omega
theorem inR_right {A B : List (List Sg)} (hp : ∀ F ∈ A ++ B, posB F = true) (h : InR (A ++ B)) : InR B := fun t => by
  have := h t
  rw [sA_app, sB_app] at this
  have := sAB_pos (L := A) (fun F hF => hp F (List.mem_append_left _ hF)) t
  omega
theorem loads_add {L M : List (List Sg)} {A B : List Sg} (hp : ∀ F ∈ L ++ M, posB F = true) (hr : InR (L ++ M)) (hA : Loads L A) (hB : Loads M B) : ∃ C, sumS [A, B] = (C, 0) ∧ Loads (L ++ M) C := by
  have hok : opOk 0 A B = true := opOk_iff.2 fun t => by
    unfold opT
    rw [hA.2.1 t, hB.2.1 t, opV_0]
    have h1 := hr t
    rw [sA_app, sB_app] at h1
    have h2 := sAB_pos (L := L) (fun F hF => hp F (List.mem_append_left _ hF)) t
    have h3 := sAB_pos (L := M) (fun F hF => hp F (List.mem_append_right _ hF)) t
    rw [addS_okP (okV_iff.2 (by omega)) (okV_iff.2 (by omega)) (okV_iff.2 (by omega))]
  refine ⟨opL 0 A B, ?_, ?_⟩
  · rw [sumS_twoP hA.1 hB.1]
    unfold doS
    rw [hA.1, hB.1, if_neg (by decide), if_pos hok]
  · obtain ⟨c1, c2⟩ := opL_spec (mayB_iff.1 hA.1) (mayB_iff.1 hB.1) hok
    refine ⟨mayB_iff.2 c1, fun t => ?_, ?_⟩
    · rw [c2 t]
      unfold opW opT
      rw [hA.2.1 t, hB.2.1 t, opV_0]
      have h1 := hr t
      rw [sA_app, sB_app] at h1
      have h2 := sAB_pos (L := L) (fun F hF => hp F (List.mem_append_left _ hF)) t
      have h3 := sAB_pos (L := M) (fun F hF => hp F (List.mem_append_right _ hF)) t
      rw [addS_okP (okV_iff.2 (by omega)) (okV_iff.2 (by omega)) (okV_iff.2 (by omega)), sA_app, sB_app]
    · have := opL_len 0 A B
      have h1 := hA.2.2
      have h2 := hB.2.2
      unfold lenR at *
      rw [List.map_append, List.sum_append]
      omega
end Go.Proofs.YtjhhcljbmnomlaaGreat
