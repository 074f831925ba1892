/- Package fit: which policies there are, their limits. No conditions but the lists' sizes, and that the slices' cells read as policies. Package fit: the smallest and the greatest of the limits. No conditions but the list's size, and that the slice's cells read as policies. Slices that read as lists of vectors. No function of the program. No conditions. Package fit: the row of bounds. No conditions but the list's size, and that the slice's cells read as policies. Package fit: the least of some functions. No conditions but the sizes, and that the slices' cells read as functions. The contracts of span.along, Sum, Low and High. No conditions but the lists' sizes, and that the slices' cells read as integers. The contracts of span.Low and High. No conditions but the lists' sizes, and that the slices' cells read as integers. The contract of vec.Units, parted from the rest of vec. No conditions. The contract of vec.Scale. No conditions but that n is an int64. Package fit: whether a window can be asked for, what fits, what is taken, how many units. No conditions but the lists' sizes, and that the slices' cells read as integers. An owned row in whose block no number stands takes an append: still none stands there. So what reads as numbers lies elsewhere, and stays. No function of the program. No conditions. -/
import Derived.Test.YtjhhcljbmnomlaaPFGA
import Derived.Test.YtjhhcljbmnomlaaPFGD
import Derived.Test.YtjhhcljbmnomlaaPFGC
import Derived.Laws.OwnMore
import Derived.LoopTactic
import Derived.Test.YtjhhcljbmnomlaaPFMB
import Derived.Laws.AppendOwn
namespace Go.Proofs.Ytjhhcljbmnomlaa
open Go.ChangeShapes Go.WideShapes Go.ChangeAt Go.RowKit
attribute [local irreducible] Go.Calls

def kindB (p : Pol) : Bool := decide (2 < p.1)
theorem kd_cl (p : Pol) (w : World) : Calls Try.prog 23 #[PV p] w fun e w' => e = .returned (.bool (kindB p)) ∧ Below w.heap.size w w' := by
  obtain ⟨k, ⟨m, c⟩, n⟩ := p
  go_enter Try.func23, Try.ntmps23
  go_wp2
  go_ret
  exact ⟨rfl, by (repeat (first | exact Below.refl _ _ | assumption | refine balloc ?_ _ | refine below_drewN ?_ _ | refine bstep (by assumption) ?_ | refine bstep (Past.prop _) ?_ | refine Below.setCell ?_ (by first | exact Nat.le_refl _ | (simp; done) | (simp; omega)) _))⟩
set_option maxRecDepth 100000 in
set_option maxHeartbeats 2000000 in
theorem kd_index (P : List Pol) (a : Option Addr) (cap : Nat) (w : World) (hl : P.length ≤ 1000000000) (hA : ArgPs w a P) :
    Calls Try.prog 47 #[.slice a P.length cap, .func (.func 23) #[] #[]] w fun e w' => ∃ n : Int, e = .returned (.int .i64 n) ∧ decide (0 ≤ n) = P.any kindB ∧ Below w.heap.size w w' := by
  have HA := hidE hA
  clear hA
  go_enter Try.func47, Try.ntmps47
  go_wp2
  go_loopw [8] (fun i wr => ∃ k : Nat, k ≤ P.length ∧ i = .int .i64 k ∧ (∀ j, j < k → kindB (P.getD j (0, (0, 0), 0)) = false) ∧ Below w.heap.size w wr) (fun i _ => P.length - (intOf i).toNat)
  case atStart => exact ⟨0, Nat.zero_le _, rfl, fun j hj => by omega, by (repeat (first | exact Below.refl _ _ | assumption | refine balloc ?_ _ | refine below_drewN ?_ _ | refine bstep (by assumption) ?_ | refine bstep (Past.prop _) ?_ | refine Below.setCell ?_ (by first | exact Nat.le_refl _ | (simp; done) | (simp; omega)) _))⟩
  case round =>
    obtain ⟨k, hk, rfl, hs, hb⟩ := hrel
    have HS := hidE hs; clear hs
    by_cases hlt : k < P.length
    · obtain ⟨b, off, rfl, hbz, hc⟩ := HA.out (by omega)
      have hbr : b < wr.heap.size := Nat.lt_of_lt_of_le hbz hb.size
      obtain ⟨e0, e1, e2, e3⟩ := hc k hlt
      rw [← hb.cell hbz] at e0 e1 e2 e3
      have HBI := hidE (fun w => kd_cl (P.getD k (0, (0, 0), 0)) w)
      have HN := hidE (fun (h : kindB (P.getD k (0, (0, 0), 0)) = true) => show P.any kindB = true from by
        rw [List.any_eq_true]
        rw [getD_get _ _ _ hlt] at h
        exact ⟨_, List.getElem_mem hlt, h⟩)
      have HQ := hidE (fun h j (hj : j < k + 1) => show kindB (P.getD j (0, (0, 0), 0)) = false from by
        by_cases e : j = k
        · subst e; exact h
        · exact HS.out j (by omega))
      generalize P.getD k (0, (0, 0), 0) = s at *
      obtain ⟨kd, ⟨m, c⟩, n⟩ := s
      simp only at e0 e1 e2 e3
      clear hc
      cases hn : kindB (kd, (m, c), n)
      · have HF := hidE (HQ.out hn)
        rw [hn] at HBI
        clear HN HQ hn
        go_wp2_with fail
        ((with_reducible refine (HBI.out _).mono ?_); rintro e w2 ⟨rfl, hb2⟩)
        go_wp2
        exact ⟨⟨k + 1, by omega, by go_num, HF.out, by (repeat (first | exact Below.refl _ _ | assumption | refine balloc ?_ _ | refine below_drewN ?_ _ | refine bstep (by assumption) ?_ | refine bstep (Past.prop _) ?_ | refine Below.setCell ?_ (by first | exact Nat.le_refl _ | (simp; done) | (simp; omega)) _))⟩, by simp [intOf]; omega⟩
      · have HF := hidE (HN.out hn)
        rw [hn] at HBI
        clear HN HQ hn
        go_wp2_with fail
        ((with_reducible refine (HBI.out _).mono ?_); rintro e w2 ⟨rfl, hb2⟩)
        go_wp2
        go_ret
        exact ⟨_, rfl, by rw [HF.out]; simp, by (repeat (first | exact Below.refl _ _ | assumption | refine balloc ?_ _ | refine below_drewN ?_ _ | refine bstep (by assumption) ?_ | refine bstep (Past.prop _) ?_ | refine Below.setCell ?_ (by first | exact Nat.le_refl _ | (simp; done) | (simp; omega)) _))⟩
    · have hkl : k = P.length := by omega
      have HF := hidE (show P.any kindB = false by
        rw [List.any_eq_false]
        intro x hx
        obtain ⟨i, hi, rfl⟩ := List.getElem_of_mem hx
        have := HS.out i (by omega)
        rw [getD_get _ _ _ hi] at this
        rw [this]; decide)
      clear hkl HS
      go_wp2
      go_ret
      exact ⟨_, rfl, by rw [HF.out]; simp, by (repeat (first | exact Below.refl _ _ | assumption | refine balloc ?_ _ | refine below_drewN ?_ _ | refine bstep (by assumption) ?_ | refine bstep (Past.prop _) ?_ | refine Below.setCell ?_ (by first | exact Nat.le_refl _ | (simp; done) | (simp; omega)) _))⟩
theorem kd_any (P : List Pol) (a : Option Addr) (cap : Nat) (w : World) (hl : P.length ≤ 1000000000) (hA : ArgPs w a P) :
    Calls Try.prog 22 #[.slice a P.length cap, .func (.func 23) #[] #[]] w fun e w' => e = .returned (.bool (P.any kindB)) ∧ Below w.heap.size w w' := by
  have HI := hidE (kd_index P a cap w hl hA)
  clear hA
  go_enter Try.func22, Try.ntmps22
  go_wp2_with fail
  ((with_reducible refine (HI.out).mono ?_); rintro e w1 ⟨n, rfl, hn, hb1⟩)
  have HN := hidE hn
  clear hn
  go_wp2
  go_ret
  exact ⟨by rw [← HN.out]; rfl, by (repeat (first | exact Below.refl _ _ | assumption | refine balloc ?_ _ | refine below_drewN ?_ _ | refine bstep (by assumption) ?_ | refine bstep (Past.prop _) ?_ | refine Below.setCell ?_ (by first | exact Nat.le_refl _ | (simp; done) | (simp; omega)) _))⟩
theorem kd_any_eq {P : List Pol} {a : Option Addr} {cap : Nat} {w : World} {r : Bool} (hl : P.length ≤ 1000000000) (hA : ArgPs w a P) (h : P.any kindB = r) :
    Calls Try.prog 22 #[.slice a P.length cap, .func (.func 23) #[] #[]] w fun e w' => e = .returned (.bool r) ∧ Below w.heap.size w w' := h ▸ kd_any P a cap w hl hA
def commB (p : Pol) : Bool := p.1 == 0
theorem cm_cl (p : Pol) (w : World) : Calls Try.prog 51 #[PV p] w fun e w' => e = .returned (.bool (commB p)) ∧ Below w.heap.size w w' := by
  obtain ⟨k, ⟨m, c⟩, n⟩ := p
  go_enter Try.func51, Try.ntmps51
  go_wp2
  go_ret
  exact ⟨rfl, by (repeat (first | exact Below.refl _ _ | assumption | refine balloc ?_ _ | refine below_drewN ?_ _ | refine bstep (by assumption) ?_ | refine bstep (Past.prop _) ?_ | refine Below.setCell ?_ (by first | exact Nat.le_refl _ | (simp; done) | (simp; omega)) _))⟩
set_option maxRecDepth 100000 in
set_option maxHeartbeats 2000000 in
theorem cm_index (P : List Pol) (a : Option Addr) (cap : Nat) (w : World) (hl : P.length ≤ 1000000000) (hA : ArgPs w a P) :
    Calls Try.prog 47 #[.slice a P.length cap, .func (.func 51) #[] #[]] w fun e w' => ∃ n : Int, e = .returned (.int .i64 n) ∧ decide (0 ≤ n) = P.any commB ∧ Below w.heap.size w w' := by
  have HA := hidE hA
  clear hA
  go_enter Try.func47, Try.ntmps47
  go_wp2
  go_loopw [8] (fun i wr => ∃ k : Nat, k ≤ P.length ∧ i = .int .i64 k ∧ (∀ j, j < k → commB (P.getD j (0, (0, 0), 0)) = false) ∧ Below w.heap.size w wr) (fun i _ => P.length - (intOf i).toNat)
  case atStart => exact ⟨0, Nat.zero_le _, rfl, fun j hj => by omega, by (repeat (first | exact Below.refl _ _ | assumption | refine balloc ?_ _ | refine below_drewN ?_ _ | refine bstep (by assumption) ?_ | refine bstep (Past.prop _) ?_ | refine Below.setCell ?_ (by first | exact Nat.le_refl _ | (simp; done) | (simp; omega)) _))⟩
  case round =>
    obtain ⟨k, hk, rfl, hs, hb⟩ := hrel
    have HS := hidE hs; clear hs
    by_cases hlt : k < P.length
    · obtain ⟨b, off, rfl, hbz, hc⟩ := HA.out (by omega)
      have hbr : b < wr.heap.size := Nat.lt_of_lt_of_le hbz hb.size
      obtain ⟨e0, e1, e2, e3⟩ := hc k hlt
      rw [← hb.cell hbz] at e0 e1 e2 e3
      have HBI := hidE (fun w => cm_cl (P.getD k (0, (0, 0), 0)) w)
      have HN := hidE (fun (h : commB (P.getD k (0, (0, 0), 0)) = true) => show P.any commB = true from by
        rw [List.any_eq_true]
        rw [getD_get _ _ _ hlt] at h
        exact ⟨_, List.getElem_mem hlt, h⟩)
      have HQ := hidE (fun h j (hj : j < k + 1) => show commB (P.getD j (0, (0, 0), 0)) = false from by
        by_cases e : j = k
        · subst e; exact h
        · exact HS.out j (by omega))
      generalize P.getD k (0, (0, 0), 0) = s at *
      obtain ⟨kd, ⟨m, c⟩, n⟩ := s
      simp only at e0 e1 e2 e3
      clear hc
      cases hn : commB (kd, (m, c), n)
      · have HF := hidE (HQ.out hn)
        rw [hn] at HBI
        clear HN HQ hn
        go_wp2_with fail
        ((with_reducible refine (HBI.out _).mono ?_); rintro e w2 ⟨rfl, hb2⟩)
        go_wp2
        exact ⟨⟨k + 1, by omega, by go_num, HF.out, by (repeat (first | exact Below.refl _ _ | assumption | refine balloc ?_ _ | refine below_drewN ?_ _ | refine bstep (by assumption) ?_ | refine bstep (Past.prop _) ?_ | refine Below.setCell ?_ (by first | exact Nat.le_refl _ | (simp; done) | (simp; omega)) _))⟩, by simp [intOf]; omega⟩
      · have HF := hidE (HN.out hn)
        rw [hn] at HBI
        clear HN HQ hn
        go_wp2_with fail
        ((with_reducible refine (HBI.out _).mono ?_); rintro e w2 ⟨rfl, hb2⟩)
        go_wp2
        go_ret
        exact ⟨_, rfl, by rw [HF.out]; simp, by (repeat (first | exact Below.refl _ _ | assumption | refine balloc ?_ _ | refine below_drewN ?_ _ | refine bstep (by assumption) ?_ | refine bstep (Past.prop _) ?_ | refine Below.setCell ?_ (by first | exact Nat.le_refl _ | (simp; done) | (simp; omega)) _))⟩
    · have hkl : k = P.length := by omega
      have HF := hidE (show P.any commB = false by
        rw [List.any_eq_false]
        intro x hx
        obtain ⟨i, hi, rfl⟩ := List.getElem_of_mem hx
        have := HS.out i (by omega)
        rw [getD_get _ _ _ hi] at this
        rw [this]; decide)
      clear hkl HS
      go_wp2
      go_ret
      exact ⟨_, rfl, by rw [HF.out]; simp, by (repeat (first | exact Below.refl _ _ | assumption | refine balloc ?_ _ | refine below_drewN ?_ _ | refine bstep (by assumption) ?_ | refine bstep (Past.prop _) ?_ | refine Below.setCell ?_ (by first | exact Nat.le_refl _ | (simp; done) | (simp; omega)) _))⟩
theorem cm_any (P : List Pol) (a : Option Addr) (cap : Nat) (w : World) (hl : P.length ≤ 1000000000) (hA : ArgPs w a P) :
    Calls Try.prog 22 #[.slice a P.length cap, .func (.func 51) #[] #[]] w fun e w' => e = .returned (.bool (P.any commB)) ∧ Below w.heap.size w w' := by
  have HI := hidE (cm_index P a cap w hl hA)
  clear hA
  go_enter Try.func22, Try.ntmps22
  go_wp2_with fail
  ((with_reducible refine (HI.out).mono ?_); rintro e w1 ⟨n, rfl, hn, hb1⟩)
  have HN := hidE hn
  clear hn
  go_wp2
  go_ret
  exact ⟨by rw [← HN.out]; rfl, by (repeat (first | exact Below.refl _ _ | assumption | refine balloc ?_ _ | refine below_drewN ?_ _ | refine bstep (by assumption) ?_ | refine bstep (Past.prop _) ?_ | refine Below.setCell ?_ (by first | exact Nat.le_refl _ | (simp; done) | (simp; omega)) _))⟩
theorem cm_any_eq {P : List Pol} {a : Option Addr} {cap : Nat} {w : World} {r : Bool} (hl : P.length ≤ 1000000000) (hA : ArgPs w a P) (h : P.any commB = r) :
    Calls Try.prog 22 #[.slice a P.length cap, .func (.func 51) #[] #[]] w fun e w' => e = .returned (.bool r) ∧ Below w.heap.size w w' := h ▸ cm_any P a cap w hl hA
/-- A row of limits: none, or two in a block of its own. -/
def LimV (w : World) (B : Nat) (v : Value) (l : List (Int × Int)) : Prop :=
  (l = [] ∧ v = .slice none 0 0) ∨ ∃ (q : Nat) (s t : Int × Int), l = [s, t] ∧ v = .slice (some ⟨q, 0, none⟩) 2 2 ∧ B ≤ q ∧ Blk w q #[.int .i64 s.1, .int .i64 s.2, .int .i64 t.1, .int .i64 t.2] 27
end Go.Proofs.Ytjhhcljbmnomlaa

namespace Go.Proofs.Ytjhhcljbmnomlaa
open Go.ChangeShapes Go.WideShapes Go.ChangeAt Go.RowKit
attribute [local irreducible] Go.Calls

set_option maxRecDepth 100000 in
set_option maxHeartbeats 2000000 in
theorem limits_c (P : List Pol) (a : Option Addr) (cap : Nat) (w : World) (hl : P.length ≤ 1000000) (hA : ArgPs w a P) :
    Calls Try.prog 53 #[.slice a P.length cap] w fun e w' => ∃ v, e = .returned v ∧ LimV w' w.heap.size v (limS P) ∧ Below w.heap.size w w' := by
  have HA := hidE hA
  clear hA
  go_enter Try.func53, Try.ntmps53
  go_wp2
  go_loopg [3, 8] P.length (fun g v3 v8 wr => ∃ (k : Nat) (v : Value), v = v3 ∧ v8 = .int .i64 k ∧ k ≤ P.length ∧ P.length - k ≤ g ∧ LimV wr w.heap.size v (limS (P.take k)) ∧ Below w.heap.size w wr)
  case atStart => exact ⟨0, _, rfl, rfl, Nat.zero_le _, Nat.le_refl _, .inl ⟨rfl, rfl⟩, by (repeat (first | exact Below.refl _ _ | assumption | refine balloc ?_ _ | refine below_drewN ?_ _ | refine bstep (by assumption) ?_ | refine bstep (Past.prop _) ?_ | refine Below.setCell ?_ (by first | exact Nat.le_refl _ | (simp; done) | (simp; omega)) _))⟩
  case round =>
    obtain ⟨k, v, rfl, rfl, hk, hg, hv, hb⟩ := hrel
    have HV := hidE hv; have HB := hidE hb; have HG := hidE hg
    clear hv hg
    by_cases hlt : k < P.length
    · obtain ⟨b, off, rfl, hbz, hc⟩ := HA.out (by omega)
      have hbr : b < wr.heap.size := Nat.lt_of_lt_of_le hbz hb.size
      obtain ⟨e0, e1, e2, e3⟩ := hc k hlt
      rw [← hb.cell hbz] at e0 e1 e2 e3
      have HS := hidE (limS_step hlt)
      generalize P.getD k (0, (0, 0), 0) = s at *
      obtain ⟨kd, ⟨m, c⟩, n⟩ := s
      simp only at e0 e1 e2 e3
      have hwz := hb.size
      clear hc hb
      by_cases h1 : kd = 1
      · subst h1
        rcases HV.out with ⟨he, rfl⟩ | ⟨q, s, t, he, rfl, hq, hB⟩
        · have HN := hidE (show limS (P.take (k + 1)) = [(mn m m, mn c c), (mx m m, mx c c)] by
            rw [HS.out, he]; unfold limT mn mx; simp)
          have hnn : ∀ w, (binOp BinOp.eql 94 (.slice none 0 0) (.slice none 0 0)).run Try.prog w = .ok (.bool true) w := fun w => by kernel_rfl
          clear HS he HV
          go_upto_region 8 with fail
          obtain ⟨W, hW⟩ : ∃ W, W = (wr.alloc (Obj.cells #[.int .u8 1, .int .i64 m, .int .i64 c, .int .i64 n] 41)).alloc (Obj.cells #[.int .i64 m, .int .i64 c, .int .i64 m, .int .i64 c] 27) := ⟨_, rfl⟩
          obtain ⟨p, hp⟩ : ∃ p, p = wr.heap.size := ⟨_, rfl⟩
          have HP : Blk W p #[.int .u8 1, .int .i64 m, .int .i64 c, .int .i64 n] 41 := by rw [hW, hp]; exact (Blk.made _ _ _).alloc _
          have HQ : Blk W (wr.heap.size + 1) #[.int .i64 m, .int .i64 c, .int .i64 m, .int .i64 c] 27 := by rw [hW]; exact Blk.made_at _ _ _ _ (by simp)
          have hbW : Below w.heap.size w W := by rw [hW]; have := HB.out; (repeat (first | exact Below.refl _ _ | assumption | refine balloc ?_ _ | refine below_drewN ?_ _ | refine bstep (by assumption) ?_ | refine bstep (Past.prop _) ?_ | refine Below.setCell ?_ (by first | exact Nat.le_refl _ | (simp; done) | (simp; omega)) _))
          have hpq : p ≠ (wr.heap.size + 1) := by omega
          have hqw : w.heap.size ≤ (wr.heap.size + 1) := by omega
          have HPQ := hidE hpq; have HQW := hidE hqw; have HBW := hidE hbW
          rw [← hW]
          obtain ⟨q, hq⟩ : ∃ q, q = wr.heap.size + 1 := ⟨_, rfl⟩
          rw [← hq] at HPQ HQW HQ
          rw [← hq]
          rw [← hp]
          clear hW hp hpq hqw hbW e0 e1 e2 e3 hwz hbr hbz hq
          have p1 := HP.cell 1; have p2 := HP.cell 2; have pz := HP.lt; have q0 := HQ.cell 0; have q1 := HQ.cell 1; have qz := HQ.lt
          simp at p1 p2 q0 q1
          have HP := hidE HP; have HQ := hidE HQ
          refine wp_region_J 8 [] (nthR [detR (.slice (some ⟨q, 0, none⟩) 2 2), detR (.slice (some ⟨q, 0, none⟩) 2 2), detR (.pointer (some ⟨q, 0, none⟩)), detR (V m c), detR (.pointer (some ⟨p, 1, none⟩)), detR (V m c), detR (V (mn m m) (mn c c)), detR (.pointer (some ⟨q, 0, none⟩))]) (fun _ => false) (by kernel_rfl) (by decide) (by kernel_rfl) (stab_nth (by intro r hr; simp only [List.mem_cons, List.not_mem_nil, or_false] at hr; rcases hr with rfl | rfl | rfl | rfl | rfl | rfl | rfl | rfl <;> first | exact stab_det _)) ?_ ?_ ?_
          · intro i o hi ho
            match i, hi with
            | 0, _ =>
              obtain rfl := Option.some.inj ho
              intro u x hd
              have hc := Past.cell x
              simp [go_sem, gives, frm, Act.put, nthR, detR, Region.wanted, Below.refl]
            | 1, _ =>
              obtain rfl := Option.some.inj ho
              intro u x hd
              have hc := Past.cell x
              simp [go_sem, gives, frm, Act.put, nthR, detR, Region.wanted, Below.refl]
            | 2, _ =>
              obtain rfl := Option.some.inj ho
              intro u x hd
              have hc := Past.cell x
              have d1 := hd 1 (by decide) (by kernel_rfl)
              simp only [nthR, detR, List.getD_cons_zero, List.getD_cons_succ] at d1
              simp [go_sem, gives, frm, Act.put, nthR, detR, Region.wanted, Below.refl, d1]
            | 3, _ =>
              obtain rfl := Option.some.inj ho
              intro u x hd
              have hc := Past.cell x
              have d2 := hd 2 (by decide) (by kernel_rfl)
              simp only [nthR, detR, List.getD_cons_zero, List.getD_cons_succ] at d2
              simp [go_sem, gives, frm, Act.put, nthR, detR, Region.wanted, Below.refl, hc, d2, q0, q1, qz]
            | 4, _ =>
              obtain rfl := Option.some.inj ho
              intro u x hd
              have hc := Past.cell x
              simp [go_sem, gives, frm, Act.put, nthR, detR, Region.wanted, Below.refl]
            | 5, _ =>
              obtain rfl := Option.some.inj ho
              intro u x hd
              have hc := Past.cell x
              have d4 := hd 4 (by decide) (by kernel_rfl)
              simp only [nthR, detR, List.getD_cons_zero, List.getD_cons_succ] at d4
              simp [go_sem, gives, frm, Act.put, nthR, detR, Region.wanted, Below.refl, hc, d4, p1, p2, pz]
            | 6, _ =>
              obtain rfl := Option.some.inj ho
              intro u x hd
              have hc := Past.cell x
              have d3 := hd 3 (by decide) (by kernel_rfl)
              have d5 := hd 5 (by decide) (by kernel_rfl)
              simp only [nthR, detR, List.getD_cons_zero, List.getD_cons_succ] at d3 d5
              simp [go_sem, gives, frm, Act.put, nthR, Region.wanted, d3, d5]
              (with_reducible refine (mn_c _ _ _ _ _).mono ?_); rintro e w3 ⟨rfl, hb3⟩; exact ⟨_, rfl, hb3, rfl⟩
            | 7, _ =>
              obtain rfl := Option.some.inj ho
              intro u x hd
              have hc := Past.cell x
              have d0 := hd 0 (by decide) (by kernel_rfl)
              simp only [nthR, detR, List.getD_cons_zero] at d0
              simp [go_sem, gives, frm, Act.put, nthR, detR, Region.wanted, Below.refl, d0]
            | i + 8, h => exact absurd h (by omega)
          · intro i o hx ho
            simp at hx
          · intro u x9 hu hne
            have e0 : u 0 = .slice (some ⟨q, 0, none⟩) 2 2 := hu 0 (by decide)
            have e1 : u 1 = .slice (some ⟨q, 0, none⟩) 2 2 := hu 1 (by decide)
            have e2 : u 2 = .pointer (some ⟨q, 0, none⟩) := hu 2 (by decide)
            have e3 : u 3 = V m c := hu 3 (by decide)
            have e4 : u 4 = .pointer (some ⟨p, 1, none⟩) := hu 4 (by decide)
            have e5 : u 5 = V m c := hu 5 (by decide)
            have e6 : u 6 = V (mn m m) (mn c c) := hu 6 (by decide)
            have e7 : u 7 = .pointer (some ⟨q, 0, none⟩) := hu 7 (by decide)
            simp only [frm, List.take, Act.put, e0, e1, e2, e3, e4, e5, e6, e7]
            have HP1 := hidE (HP.out.past x9.2); have B1 := HQ.out.past x9.2
            have HB1 := hidE (HBW.out.trans (x9.2.mono HBW.out.size))
            clear hu hne e0 e1 e2 e3 e4 e5 e6 e7 p1 p2 pz q0 q1 qz
            generalize x9.1 = W1 at *
            have HQ1 := hidE B1
            have qf := B1.free; have qz := B1.lt; have q0 := B1.cell 0; have q1 := B1.cell 1
            simp at q0 q1
            clear B1
            go_upto_region 9 with fail
            obtain ⟨W2, hW2⟩ : ∃ W2, W2 = (W1.setCell ⟨q, 0, none⟩ (.int .i64 (mn m m))).setCell ⟨q, 1, none⟩ (.int .i64 (mn c c)) := ⟨_, rfl⟩
            have HP2 : Blk W2 p #[.int .u8 1, .int .i64 m, .int .i64 c, .int .i64 n] 41 := by rw [hW2]; exact (HP1.out.other HPQ.out _).other HPQ.out _
            have HQ2 : Blk W2 q #[.int .i64 (mn m m), .int .i64 (mn c c), .int .i64 m, .int .i64 c] 27 := by rw [hW2]; simpa using (HQ1.out.set 0 (.int .i64 (mn m m))).set 1 (.int .i64 (mn c c))
            have HB2 := hidE (show Below w.heap.size w W2 by rw [hW2]; exact (HB1.out.setCell (p := ⟨q, 0, none⟩) HQW.out _).setCell (p := ⟨q, 1, none⟩) HQW.out _)
            rw [← hW2]
            clear hW2 q0 q1 qf qz HP1 HQ1 HB1
            have p1 := HP2.cell 1; have p2 := HP2.cell 2; have pz := HP2.lt; have q0 := HQ2.cell 2; have q1 := HQ2.cell 3; have qz := HQ2.lt
            simp at p1 p2 q0 q1
            have HP2 := hidE HP2; have HQ2 := hidE HQ2
            refine wp_region_J 8 [] (nthR [detR (.slice (some ⟨q, 0, none⟩) 2 2), detR (.slice (some ⟨q, 0, none⟩) 2 2), detR (.pointer (some ⟨q, 2, none⟩)), detR (V m c), detR (.pointer (some ⟨p, 1, none⟩)), detR (V m c), detR (V (mx m m) (mx c c)), detR (.pointer (some ⟨q, 2, none⟩))]) (fun _ => false) (by kernel_rfl) (by decide) (by kernel_rfl) (stab_nth (by intro r hr; simp only [List.mem_cons, List.not_mem_nil, or_false] at hr; rcases hr with rfl | rfl | rfl | rfl | rfl | rfl | rfl | rfl <;> first | exact stab_det _)) ?_ ?_ ?_
            · intro i o hi ho
              match i, hi with
              | 0, _ =>
                obtain rfl := Option.some.inj ho
                intro u x hd
                have hc := Past.cell x
                simp [go_sem, gives, frm, Act.put, nthR, detR, Region.wanted, Below.refl]
              | 1, _ =>
                obtain rfl := Option.some.inj ho
                intro u x hd
                have hc := Past.cell x
                simp [go_sem, gives, frm, Act.put, nthR, detR, Region.wanted, Below.refl]
              | 2, _ =>
                obtain rfl := Option.some.inj ho
                intro u x hd
                have hc := Past.cell x
                have d1 := hd 1 (by decide) (by kernel_rfl)
                simp only [nthR, detR, List.getD_cons_zero, List.getD_cons_succ] at d1
                simp [go_sem, gives, frm, Act.put, nthR, detR, Region.wanted, Below.refl, d1]
              | 3, _ =>
                obtain rfl := Option.some.inj ho
                intro u x hd
                have hc := Past.cell x
                have d2 := hd 2 (by decide) (by kernel_rfl)
                simp only [nthR, detR, List.getD_cons_zero, List.getD_cons_succ] at d2
                simp [go_sem, gives, frm, Act.put, nthR, detR, Region.wanted, Below.refl, hc, d2, q0, q1, qz]
              | 4, _ =>
                obtain rfl := Option.some.inj ho
                intro u x hd
                have hc := Past.cell x
                simp [go_sem, gives, frm, Act.put, nthR, detR, Region.wanted, Below.refl]
              | 5, _ =>
                obtain rfl := Option.some.inj ho
                intro u x hd
                have hc := Past.cell x
                have d4 := hd 4 (by decide) (by kernel_rfl)
                simp only [nthR, detR, List.getD_cons_zero, List.getD_cons_succ] at d4
                simp [go_sem, gives, frm, Act.put, nthR, detR, Region.wanted, Below.refl, hc, d4, p1, p2, pz]
              | 6, _ =>
                obtain rfl := Option.some.inj ho
                intro u x hd
                have hc := Past.cell x
                have d3 := hd 3 (by decide) (by kernel_rfl)
                have d5 := hd 5 (by decide) (by kernel_rfl)
                simp only [nthR, detR, List.getD_cons_zero, List.getD_cons_succ] at d3 d5
                simp [go_sem, gives, frm, Act.put, nthR, Region.wanted, d3, d5]
                (with_reducible refine (mx_c _ _ _ _ _).mono ?_); rintro e w3 ⟨rfl, hb3⟩; exact ⟨_, rfl, hb3, rfl⟩
              | 7, _ =>
                obtain rfl := Option.some.inj ho
                intro u x hd
                have hc := Past.cell x
                have d0 := hd 0 (by decide) (by kernel_rfl)
                simp only [nthR, detR, List.getD_cons_zero] at d0
                simp [go_sem, gives, frm, Act.put, nthR, detR, Region.wanted, Below.refl, d0]
              | i + 8, h => exact absurd h (by omega)
            · intro i o hx ho
              simp at hx
            · intro u x9 hu hne
              have e0 : u 0 = .slice (some ⟨q, 0, none⟩) 2 2 := hu 0 (by decide)
              have e1 : u 1 = .slice (some ⟨q, 0, none⟩) 2 2 := hu 1 (by decide)
              have e2 : u 2 = .pointer (some ⟨q, 2, none⟩) := hu 2 (by decide)
              have e3 : u 3 = V m c := hu 3 (by decide)
              have e4 : u 4 = .pointer (some ⟨p, 1, none⟩) := hu 4 (by decide)
              have e5 : u 5 = V m c := hu 5 (by decide)
              have e6 : u 6 = V (mx m m) (mx c c) := hu 6 (by decide)
              have e7 : u 7 = .pointer (some ⟨q, 2, none⟩) := hu 7 (by decide)
              simp only [frm, List.take, Act.put, e0, e1, e2, e3, e4, e5, e6, e7]
              have B3 := HQ2.out.past x9.2
              have HB3 := hidE (HB2.out.trans (x9.2.mono HB2.out.size))
              clear hu hne e0 e1 e2 e3 e4 e5 e6 e7 p1 p2 pz q0 q1 qz
              generalize x9.1 = W3 at *
              have HQ3 := hidE B3
              have qf := B3.free; have qz := B3.lt; have q0 := B3.cell 2; have q1 := B3.cell 3
              simp at q0 q1
              clear B3
              go_wp2
              go_roundg (P.length - (k + 1))
              case measure => have := HG.out; omega
              case rel =>
                refine ⟨k + 1, _, rfl, by go_num, by omega, Nat.le_refl _, .inr ⟨q, _, _, HN.out, rfl, HQW.out, ?_⟩, (HB3.out.setCell (p := ⟨q, 2, none⟩) HQW.out _).setCell (p := ⟨q, 3, none⟩) HQW.out _⟩
                simpa using (HQ3.out.set 2 (.int .i64 (mx m m))).set 3 (.int .i64 (mx c c))
        · have HN := hidE (show limS (P.take (k + 1)) = [(mn s.1 m, mn s.2 c), (mx t.1 m, mx t.2 c)] by
            rw [HS.out, he]; unfold limT; simp)
          have HQ0 := hidE hB
          have q0 := hB.cell 0; have q1 := hB.cell 1; have q2 := hB.cell 2; have q3 := hB.cell 3; have qz := hB.lt; have qf := hB.free
          simp at q0 q1 q2 q3
          have hne : ∀ w, (binOp BinOp.eql 94 (.slice (some ⟨q, 0, none⟩) 2 2) (.slice none 0 0)).run Try.prog w = .ok (.bool false) w := fun w => by kernel_rfl
          clear HS he HV
          go_upto_region 8 with fail
          obtain ⟨W, hW⟩ : ∃ W, W = wr.alloc (Obj.cells #[.int .u8 1, .int .i64 m, .int .i64 c, .int .i64 n] 41) := ⟨_, rfl⟩
          obtain ⟨p, hp⟩ : ∃ p, p = wr.heap.size := ⟨_, rfl⟩
          have HP : Blk W p #[.int .u8 1, .int .i64 m, .int .i64 c, .int .i64 n] 41 := by rw [hW, hp]; exact Blk.made _ _ _
          have HQ : Blk W q #[.int .i64 s.1, .int .i64 s.2, .int .i64 t.1, .int .i64 t.2] 27 := by rw [hW]; exact HQ0.out.alloc _
          have hbW : Below w.heap.size w W := by rw [hW]; have := HB.out; (repeat (first | exact Below.refl _ _ | assumption | refine balloc ?_ _ | refine below_drewN ?_ _ | refine bstep (by assumption) ?_ | refine bstep (Past.prop _) ?_ | refine Below.setCell ?_ (by first | exact Nat.le_refl _ | (simp; done) | (simp; omega)) _))
          have hpq : p ≠ q := by omega
          have hqw : w.heap.size ≤ q := by omega
          have HPQ := hidE hpq; have HQW := hidE hqw; have HBW := hidE hbW
          rw [← hW]
          rw [← hp]
          clear hW hp hpq hqw hbW e0 e1 e2 e3 hwz hbr hbz hne q0 q1 q2 q3 qz qf hB hq
          have p1 := HP.cell 1; have p2 := HP.cell 2; have pz := HP.lt; have q0 := HQ.cell 0; have q1 := HQ.cell 1; have qz := HQ.lt
          simp at p1 p2 q0 q1
          have HP := hidE HP; have HQ := hidE HQ
          refine wp_region_J 8 [] (nthR [detR (.slice (some ⟨q, 0, none⟩) 2 2), detR (.slice (some ⟨q, 0, none⟩) 2 2), detR (.pointer (some ⟨q, 0, none⟩)), detR (V s.1 s.2), detR (.pointer (some ⟨p, 1, none⟩)), detR (V m c), detR (V (mn s.1 m) (mn s.2 c)), detR (.pointer (some ⟨q, 0, none⟩))]) (fun _ => false) (by kernel_rfl) (by decide) (by kernel_rfl) (stab_nth (by intro r hr; simp only [List.mem_cons, List.not_mem_nil, or_false] at hr; rcases hr with rfl | rfl | rfl | rfl | rfl | rfl | rfl | rfl <;> first | exact stab_det _)) ?_ ?_ ?_
          · intro i o hi ho
            match i, hi with
            | 0, _ =>
              obtain rfl := Option.some.inj ho
              intro u x hd
              have hc := Past.cell x
              simp [go_sem, gives, frm, Act.put, nthR, detR, Region.wanted, Below.refl]
            | 1, _ =>
              obtain rfl := Option.some.inj ho
              intro u x hd
              have hc := Past.cell x
              simp [go_sem, gives, frm, Act.put, nthR, detR, Region.wanted, Below.refl]
            | 2, _ =>
              obtain rfl := Option.some.inj ho
              intro u x hd
              have hc := Past.cell x
              have d1 := hd 1 (by decide) (by kernel_rfl)
              simp only [nthR, detR, List.getD_cons_zero, List.getD_cons_succ] at d1
              simp [go_sem, gives, frm, Act.put, nthR, detR, Region.wanted, Below.refl, d1]
            | 3, _ =>
              obtain rfl := Option.some.inj ho
              intro u x hd
              have hc := Past.cell x
              have d2 := hd 2 (by decide) (by kernel_rfl)
              simp only [nthR, detR, List.getD_cons_zero, List.getD_cons_succ] at d2
              simp [go_sem, gives, frm, Act.put, nthR, detR, Region.wanted, Below.refl, hc, d2, q0, q1, qz]
            | 4, _ =>
              obtain rfl := Option.some.inj ho
              intro u x hd
              have hc := Past.cell x
              simp [go_sem, gives, frm, Act.put, nthR, detR, Region.wanted, Below.refl]
            | 5, _ =>
              obtain rfl := Option.some.inj ho
              intro u x hd
              have hc := Past.cell x
              have d4 := hd 4 (by decide) (by kernel_rfl)
              simp only [nthR, detR, List.getD_cons_zero, List.getD_cons_succ] at d4
              simp [go_sem, gives, frm, Act.put, nthR, detR, Region.wanted, Below.refl, hc, d4, p1, p2, pz]
            | 6, _ =>
              obtain rfl := Option.some.inj ho
              intro u x hd
              have hc := Past.cell x
              have d3 := hd 3 (by decide) (by kernel_rfl)
              have d5 := hd 5 (by decide) (by kernel_rfl)
              simp only [nthR, detR, List.getD_cons_zero, List.getD_cons_succ] at d3 d5
              simp [go_sem, gives, frm, Act.put, nthR, Region.wanted, d3, d5]
              (with_reducible refine (mn_c _ _ _ _ _).mono ?_); rintro e w3 ⟨rfl, hb3⟩; exact ⟨_, rfl, hb3, rfl⟩
            | 7, _ =>
              obtain rfl := Option.some.inj ho
              intro u x hd
              have hc := Past.cell x
              have d0 := hd 0 (by decide) (by kernel_rfl)
              simp only [nthR, detR, List.getD_cons_zero] at d0
              simp [go_sem, gives, frm, Act.put, nthR, detR, Region.wanted, Below.refl, d0]
            | i + 8, h => exact absurd h (by omega)
          · intro i o hx ho
            simp at hx
          · intro u x9 hu hne
            have e0 : u 0 = .slice (some ⟨q, 0, none⟩) 2 2 := hu 0 (by decide)
            have e1 : u 1 = .slice (some ⟨q, 0, none⟩) 2 2 := hu 1 (by decide)
            have e2 : u 2 = .pointer (some ⟨q, 0, none⟩) := hu 2 (by decide)
            have e3 : u 3 = V s.1 s.2 := hu 3 (by decide)
            have e4 : u 4 = .pointer (some ⟨p, 1, none⟩) := hu 4 (by decide)
            have e5 : u 5 = V m c := hu 5 (by decide)
            have e6 : u 6 = V (mn s.1 m) (mn s.2 c) := hu 6 (by decide)
            have e7 : u 7 = .pointer (some ⟨q, 0, none⟩) := hu 7 (by decide)
            simp only [frm, List.take, Act.put, e0, e1, e2, e3, e4, e5, e6, e7]
            have HP1 := hidE (HP.out.past x9.2); have B1 := HQ.out.past x9.2
            have HB1 := hidE (HBW.out.trans (x9.2.mono HBW.out.size))
            clear hu hne e0 e1 e2 e3 e4 e5 e6 e7 p1 p2 pz q0 q1 qz
            generalize x9.1 = W1 at *
            have HQ1 := hidE B1
            have qf := B1.free; have qz := B1.lt; have q0 := B1.cell 0; have q1 := B1.cell 1
            simp at q0 q1
            clear B1
            go_upto_region 9 with fail
            obtain ⟨W2, hW2⟩ : ∃ W2, W2 = (W1.setCell ⟨q, 0, none⟩ (.int .i64 (mn s.1 m))).setCell ⟨q, 1, none⟩ (.int .i64 (mn s.2 c)) := ⟨_, rfl⟩
            have HP2 : Blk W2 p #[.int .u8 1, .int .i64 m, .int .i64 c, .int .i64 n] 41 := by rw [hW2]; exact (HP1.out.other HPQ.out _).other HPQ.out _
            have HQ2 : Blk W2 q #[.int .i64 (mn s.1 m), .int .i64 (mn s.2 c), .int .i64 t.1, .int .i64 t.2] 27 := by rw [hW2]; simpa using (HQ1.out.set 0 (.int .i64 (mn s.1 m))).set 1 (.int .i64 (mn s.2 c))
            have HB2 := hidE (show Below w.heap.size w W2 by rw [hW2]; exact (HB1.out.setCell (p := ⟨q, 0, none⟩) HQW.out _).setCell (p := ⟨q, 1, none⟩) HQW.out _)
            rw [← hW2]
            clear hW2 q0 q1 qf qz HP1 HQ1 HB1
            have p1 := HP2.cell 1; have p2 := HP2.cell 2; have pz := HP2.lt; have q0 := HQ2.cell 2; have q1 := HQ2.cell 3; have qz := HQ2.lt
            simp at p1 p2 q0 q1
            have HP2 := hidE HP2; have HQ2 := hidE HQ2
            refine wp_region_J 8 [] (nthR [detR (.slice (some ⟨q, 0, none⟩) 2 2), detR (.slice (some ⟨q, 0, none⟩) 2 2), detR (.pointer (some ⟨q, 2, none⟩)), detR (V t.1 t.2), detR (.pointer (some ⟨p, 1, none⟩)), detR (V m c), detR (V (mx t.1 m) (mx t.2 c)), detR (.pointer (some ⟨q, 2, none⟩))]) (fun _ => false) (by kernel_rfl) (by decide) (by kernel_rfl) (stab_nth (by intro r hr; simp only [List.mem_cons, List.not_mem_nil, or_false] at hr; rcases hr with rfl | rfl | rfl | rfl | rfl | rfl | rfl | rfl <;> first | exact stab_det _)) ?_ ?_ ?_
            · intro i o hi ho
              match i, hi with
              | 0, _ =>
                obtain rfl := Option.some.inj ho
                intro u x hd
                have hc := Past.cell x
                simp [go_sem, gives, frm, Act.put, nthR, detR, Region.wanted, Below.refl]
              | 1, _ =>
                obtain rfl := Option.some.inj ho
                intro u x hd
                have hc := Past.cell x
                simp [go_sem, gives, frm, Act.put, nthR, detR, Region.wanted, Below.refl]
              | 2, _ =>
                obtain rfl := Option.some.inj ho
                intro u x hd
                have hc := Past.cell x
                have d1 := hd 1 (by decide) (by kernel_rfl)
                simp only [nthR, detR, List.getD_cons_zero, List.getD_cons_succ] at d1
                simp [go_sem, gives, frm, Act.put, nthR, detR, Region.wanted, Below.refl, d1]
              | 3, _ =>
                obtain rfl := Option.some.inj ho
                intro u x hd
                have hc := Past.cell x
                have d2 := hd 2 (by decide) (by kernel_rfl)
                simp only [nthR, detR, List.getD_cons_zero, List.getD_cons_succ] at d2
                simp [go_sem, gives, frm, Act.put, nthR, detR, Region.wanted, Below.refl, hc, d2, q0, q1, qz]
              | 4, _ =>
                obtain rfl := Option.some.inj ho
                intro u x hd
                have hc := Past.cell x
                simp [go_sem, gives, frm, Act.put, nthR, detR, Region.wanted, Below.refl]
              | 5, _ =>
                obtain rfl := Option.some.inj ho
                intro u x hd
                have hc := Past.cell x
                have d4 := hd 4 (by decide) (by kernel_rfl)
                simp only [nthR, detR, List.getD_cons_zero, List.getD_cons_succ] at d4
                simp [go_sem, gives, frm, Act.put, nthR, detR, Region.wanted, Below.refl, hc, d4, p1, p2, pz]
              | 6, _ =>
                obtain rfl := Option.some.inj ho
                intro u x hd
                have hc := Past.cell x
                have d3 := hd 3 (by decide) (by kernel_rfl)
                have d5 := hd 5 (by decide) (by kernel_rfl)
                simp only [nthR, detR, List.getD_cons_zero, List.getD_cons_succ] at d3 d5
                simp [go_sem, gives, frm, Act.put, nthR, Region.wanted, d3, d5]
                (with_reducible refine (mx_c _ _ _ _ _).mono ?_); rintro e w3 ⟨rfl, hb3⟩; exact ⟨_, rfl, hb3, rfl⟩
              | 7, _ =>
                obtain rfl := Option.some.inj ho
                intro u x hd
                have hc := Past.cell x
                have d0 := hd 0 (by decide) (by kernel_rfl)
                simp only [nthR, detR, List.getD_cons_zero] at d0
                simp [go_sem, gives, frm, Act.put, nthR, detR, Region.wanted, Below.refl, d0]
              | i + 8, h => exact absurd h (by omega)
            · intro i o hx ho
              simp at hx
            · intro u x9 hu hne
              have e0 : u 0 = .slice (some ⟨q, 0, none⟩) 2 2 := hu 0 (by decide)
              have e1 : u 1 = .slice (some ⟨q, 0, none⟩) 2 2 := hu 1 (by decide)
              have e2 : u 2 = .pointer (some ⟨q, 2, none⟩) := hu 2 (by decide)
              have e3 : u 3 = V t.1 t.2 := hu 3 (by decide)
              have e4 : u 4 = .pointer (some ⟨p, 1, none⟩) := hu 4 (by decide)
              have e5 : u 5 = V m c := hu 5 (by decide)
              have e6 : u 6 = V (mx t.1 m) (mx t.2 c) := hu 6 (by decide)
              have e7 : u 7 = .pointer (some ⟨q, 2, none⟩) := hu 7 (by decide)
              simp only [frm, List.take, Act.put, e0, e1, e2, e3, e4, e5, e6, e7]
              have B3 := HQ2.out.past x9.2
              have HB3 := hidE (HB2.out.trans (x9.2.mono HB2.out.size))
              clear hu hne e0 e1 e2 e3 e4 e5 e6 e7 p1 p2 pz q0 q1 qz
              generalize x9.1 = W3 at *
              have HQ3 := hidE B3
              have qf := B3.free; have qz := B3.lt; have q0 := B3.cell 2; have q1 := B3.cell 3
              simp at q0 q1
              clear B3
              go_wp2
              go_roundg (P.length - (k + 1))
              case measure => have := HG.out; omega
              case rel =>
                refine ⟨k + 1, _, rfl, by go_num, by omega, Nat.le_refl _, .inr ⟨q, _, _, HN.out, rfl, HQW.out, ?_⟩, (HB3.out.setCell (p := ⟨q, 2, none⟩) HQW.out _).setCell (p := ⟨q, 3, none⟩) HQW.out _⟩
                simpa using (HQ3.out.set 2 (.int .i64 (mx t.1 m))).set 3 (.int .i64 (mx t.2 c))
      · have HN := hidE (show limS (P.take (k + 1)) = limS (P.take k) by rw [HS.out]; unfold limT; rw [if_pos h1])
        have e1' : (kd != 1) = true := bne_iff_ne.2 h1
        have e1'' : (kd == 1) = false := beq_eq_false_iff_ne.2 h1
        have HL := hidE (show LimV (wr.alloc (Obj.cells #[.int .u8 kd, .int .i64 m, .int .i64 c, .int .i64 n] 41)) w.heap.size v (limS (P.take (k + 1))) by
          rw [HN.out]
          rcases HV.out with h | ⟨q, s, t, h2, h3, h4, h5⟩
          · exact .inl h
          · exact .inr ⟨q, s, t, h2, h3, h4, h5.alloc _⟩)
        clear HS h1 HV
        go_wp2
        go_roundg (P.length - (k + 1))
        case measure => have := HG.out; omega
        case rel => exact ⟨k + 1, _, rfl, by go_num, by omega, Nat.le_refl _, HL.out, by have := HB.out; (repeat (first | exact Below.refl _ _ | assumption | refine balloc ?_ _ | refine below_drewN ?_ _ | refine bstep (by assumption) ?_ | refine bstep (Past.prop _) ?_ | refine Below.setCell ?_ (by first | exact Nat.le_refl _ | (simp; done) | (simp; omega)) _))⟩
    · have hkl : k = P.length := by omega
      have HF := hidE HV.out
      rw [hkl, List.take_length] at HF
      clear hkl HV
      go_wp2
      go_ret
      exact ⟨_, rfl, HF.out, HB.out⟩
end Go.Proofs.Ytjhhcljbmnomlaa

namespace Go.Proofs.Ytjhhcljbmnomlaa
open Go.ChangeShapes Go.WideShapes Go.ChangeAt Go.RowKit
attribute [local irreducible] Go.Calls

/-- The vectors that a slice's cells hold. -/
def VCells (w : World) (b off : Nat) (l : List (Int × Int)) : Prop :=
  ∀ i, i < l.length → w.cell? ⟨b, off + i * 2, none⟩ = some (.int .i64 (l.getD i (0, 0)).1) ∧ w.cell? ⟨b, off + i * 2 + 1, none⟩ = some (.int .i64 (l.getD i (0, 0)).2)
def ArgVs (w : World) (a : Option Addr) (l : List (Int × Int)) : Prop := 0 < l.length → ∃ b off, a = some ⟨b, off, none⟩ ∧ b < w.heap.size ∧ VCells w b off l
theorem VCells.below {w w' : World} {b off B : Nat} {l : List (Int × Int)} (h : VCells w b off l) (hb : Below B w w') (hB : b < B) : VCells w' b off l := fun i hi => by
  obtain ⟨h1, h2⟩ := h i hi
  exact ⟨(hb.cell (p := ⟨b, _, none⟩) hB).trans h1, (hb.cell (p := ⟨b, _, none⟩) hB).trans h2⟩
theorem ArgVs.past {w w' : World} {a : Option Addr} {l : List (Int × Int)} (h : ArgVs w a l) (hb : Below w.heap.size w w') : ArgVs w' a l := fun hl => by
  obtain ⟨b, off, e, h1, h2⟩ := h hl
  exact ⟨b, off, e, Nat.lt_of_lt_of_le h1 hb.size, h2.below hb h1⟩
/-- A slice value that reads as the list of vectors. -/
def SliVs (w : World) (v : Value) (l : List (Int × Int)) : Prop := ∃ (a : Option Addr) (cap : Nat), v = .slice a l.length cap ∧ l.length ≤ cap ∧ cap ≤ 9223372036854775807 ∧ ArgVs w a l
theorem SliVs.past {w w' : World} {v : Value} {l : List (Int × Int)} (h : SliVs w v l) (hb : Below w.heap.size w w') : SliVs w' v l := by
  obtain ⟨a, cap, h1, h2, h3, h4⟩ := h
  exact ⟨a, cap, h1, h2, h3, h4.past hb⟩
/-- What a call hands back, where the answer is known: a slice of vectors, and an error. -/
def VsIs (w : World) (L : List (Int × Int)) (er : Int) (e : Ending) (w' : World) : Prop := ∃ (a : Option Addr) (cap : Nat), e = .returned (.tuple #[.slice a L.length cap, .int .i64 er]) ∧ SliVs w' (.slice a L.length cap) L ∧ Below w.heap.size w w'
theorem sliVs_len {w : World} {a : Option Addr} {n cap : Nat} {l : List (Int × Int)} (h : SliVs w (.slice a n cap) l) : n = l.length ∧ l.length ≤ cap ∧ cap ≤ 9223372036854775807 ∧ ArgVs w a l := by
  obtain ⟨a', c', e, h1, h2, h3⟩ := h
  cases e
  exact ⟨rfl, h1, h2, h3⟩
end Go.Proofs.Ytjhhcljbmnomlaa

namespace Go.Proofs.Ytjhhcljbmnomlaa
open Go.ChangeShapes Go.WideShapes Go.ChangeAt Go.RowKit
attribute [local irreducible] Go.Calls

theorem Try.infoBound : (Try.prog.info? 68).map (fun i => (i.zero, i.size, i.bytes)) = some (some (.agg #[.nilFunc]), 1, 8) := by kernel_rfl
/-- A function value that answers a bound. -/
def BdV (w : World) (v : Value) (b : Bd) : Prop :=
  match b with
  | .most => v = .func (.func 50) #[] #[]
  | .rest => v = .func (.func 52) #[] #[]
  | .lim u => ∃ p, v = .func (.func 54) #[] #[.pointer (some ⟨p, 0, none⟩)] ∧ Blk w p #[.int .i64 u.1, .int .i64 u.2] 27
theorem BdV.past {w w' : World} {v : Value} {b : Bd} (h : BdV w v b) (hb : Below w.heap.size w w') : BdV w' v b := by
  cases b with
  | most => exact h
  | rest => exact h
  | lim u => obtain ⟨p, h1, h2⟩ := h; exact ⟨p, h1, h2.past hb⟩
def BdX (w : World) (xs : List Value) (bs : List Bd) : Prop := xs.length = bs.length ∧ ∀ i, i < xs.length → BdV w (xs.getD i (.slice none 0 0)) (bs.getD i .most)
theorem BdX.past {w w' : World} {xs : List Value} {bs : List Bd} (h : BdX w xs bs) (hb : Below w.heap.size w w') : BdX w' xs bs := ⟨h.1, fun i hi => (h.2 i hi).past hb⟩
/-- The row begins with the bound that there always is. -/
def OwnB (w : World) (B : Nat) (v : Value) (xs : List Value) (bs : List Bd) : Prop := w.ownsRow B 68 1 v xs.length xs ∧ BdX w xs bs ∧ xs.head? = some (.func (.func 50) #[] #[])
theorem own_ne {w : World} {B p : Nat} {e t : TypeId} {v : Value} {n : Nat} {xs : List Value} {f : Fn} {r c cs : Array Value} {x : Int} (h : w.ownsRow B e 1 v n xs) (h0 : xs.head? = some (.func f r c)) (hB : Blk w p cs t) (hc : cs[0]? = some (.int .i64 x)) : v.ownBlock ≠ some p := by
  intro hk
  obtain ⟨h1, h2 | ⟨g, cap, cur, h3, h4, h5, h6, h7, h8, h9⟩⟩ := h
  · rw [h2.1] at hk; simp [Value.ownBlock] at hk
  · rw [h3] at hk; simp [Value.ownBlock] at hk; subst hk
    have e : some (Obj.cells cs t (0, 0)) = some (Obj.cells cur _ (0, 0)) := hB.symm.trans h5
    cases e
    have : xs[0]? = some (.func f r c) := by rw [← List.head?_eq_getElem?]; exact h0
    rw [← h9, List.getElem?_take] at this
    split at this
    · rw [Array.getElem?_toList, hc] at this; cases this
    · cases this
theorem OwnB.past {w w' : World} {B : Nat} {v : Value} {xs : List Value} {bs : List Bd} (h : OwnB w B v xs bs) (hb : Below w.heap.size w w') : OwnB w' B v xs bs := ⟨own_below h.1 hb, h.2.1.past hb, h.2.2⟩
theorem OwnB.app {w w' : World} {B : Nat} {v v' fv : Value} {xs : List Value} {bs : List Bd} {b : Bd} (h : OwnB w B v xs bs) (hg : w.grownBy w' v.ownBlock) (ho : w'.ownsRow B 68 1 v' (xs.length + 1) (xs ++ [fv])) (hv : BdV w fv b) : OwnB w' B v' (xs ++ [fv]) (bs ++ [b]) := by
  obtain ⟨h1, ⟨h2, h3⟩, h4⟩ := h
  have key : ∀ u c, BdV w u c → BdV w' u c := fun u c hc => by
    cases c with
    | most => exact hc
    | rest => exact hc
    | lim z =>
      obtain ⟨p, e, hB⟩ := hc
      exact ⟨p, e, hB.grown hg (fun e => own_ne h1 h4 hB rfl e.symm)⟩
  have hx : 0 < xs.length := by cases xs with
    | nil => simp at h4
    | cons => simp
  refine ⟨by simpa using ho, ⟨by simp [h2], fun i hi => ?_⟩, ?_⟩
  · rw [getD_snoc, getD_snoc, ← h2]
    simp at hi
    by_cases c : i < xs.length
    · rw [if_pos c, if_pos c]; exact key _ _ (h3 i c)
    · rw [if_neg c, if_neg c, if_pos (by omega), if_pos (by omega)]; exact key _ _ hv
  · cases xs with
    | nil => simp at hx
    | cons => exact h4
theorem new_cells_atF (w : World) (cs : Array Value) (t : TypeId) (k : Nat) (h : k = w.heap.size) : ∀ j u, cs.toList[j]? = some u → (w.alloc (.cells cs t)).cell? ((⟨k, 0, none⟩ : Addr).add j) = some u := by
  subst h; exact new_cells w cs t
/-- A row of bounds is handed back. -/
def BdsR (P : List Pol) (w : World) (e : Ending) (w' : World) : Prop := ∃ (v : Value) (xs : List Value), e = .returned v ∧ SliX w' v xs ∧ BdX w' xs (bds P) ∧ Below w.heap.size w w'
theorem limV_arg {w : World} {B : Nat} {v : Value} {l : List (Int × Int)} (h : LimV w B v l) : ∃ (a : Option Addr) (cap : Nat), v = .slice a l.length cap ∧ ArgVs w a l ∧ l.length ≤ 2 := by
  rcases h with ⟨rfl, rfl⟩ | ⟨q, s, t, rfl, rfl, _, hB⟩
  · exact ⟨none, 0, rfl, fun h => by simp at h, by simp⟩
  · refine ⟨some ⟨q, 0, none⟩, 2, rfl, fun _ => ⟨q, 0, rfl, hB.lt, fun i hi => ?_⟩, by simp⟩
    have c0 := hB.cell 0; have c1 := hB.cell 1; have c2 := hB.cell 2; have c3 := hB.cell 3
    simp at hi c0 c1 c2 c3
    match i, hi with
    | 0, _ => exact ⟨c0, c1⟩
    | 1, _ => exact ⟨c2, c3⟩
theorem LimV.past {w w' : World} {B : Nat} {v : Value} {l : List (Int × Int)} (h : LimV w B v l) (hb : Below w.heap.size w w') : LimV w' B v l := by
  rcases h with h | ⟨q, s, t, h1, h2, h3, h4⟩
  · exact .inl h
  · exact .inr ⟨q, s, t, h1, h2, h3, h4.past hb⟩
theorem LimV.grown {w w' : World} {B C : Nat} {v vo : Value} {l : List (Int × Int)} {xs : List Value} {bs : List Bd} (h : LimV w B v l) (ho : OwnB w C vo xs bs) (hg : w.grownBy w' vo.ownBlock) : LimV w' B v l := by
  rcases h with h | ⟨q, s, t, h1, h2, h3, h4⟩
  · exact .inl h
  · exact .inr ⟨q, s, t, h1, h2, h3, h4.grown hg (fun e => own_ne ho.1 ho.2.2 h4 rfl e.symm)⟩
set_option maxRecDepth 100000 in
set_option maxHeartbeats 2000000 in
theorem bounds_c (P : List Pol) (a : Option Addr) (cap : Nat) (w : World) (hl : P.length ≤ 1000000) (hA : ArgPs w a P) :
    Calls Try.prog 26 #[.slice a P.length cap] w (BdsR P w) := by
  have HLM := hidE (fun w hA => limits_c P a cap w hl hA)
  have HCM := hidE (fun w hA => cm_any P a cap w (by omega) hA)
  have HLL := hidE (bds_len P)
  obtain ⟨ix, hix, hz0, hz1, hz2⟩ := info_parts Try.infoBound
  have HI := hidE hix; have HZ0 := hidE hz0; have HZ1 := hidE hz1; have HZ2 := hidE hz2
  obtain ⟨w0, hw0⟩ : ∃ w0, w0 = w.alloc (Obj.cells #[.func (.func 50) #[] #[]] 68) := ⟨_, rfl⟩
  have hb0 : Below w.heap.size w w0 := by rw [hw0]; (repeat (first | exact Below.refl _ _ | assumption | refine balloc ?_ _ | refine below_drewN ?_ _ | refine bstep (by assumption) ?_ | refine bstep (Past.prop _) ?_ | refine Below.setCell ?_ (by first | exact Nat.le_refl _ | (simp; done) | (simp; omega)) _))
  have ho0 : OwnB w0 w.heap.size (.slice (some ⟨w.heap.size, 0, none⟩) 1 1) [.func (.func 50) #[] #[]] [.most] := by
    rw [hw0]
    refine ⟨by simpa using World.ownsRow_lit (e := 68) (size := 1) (base := w.heap.size) w #[.func (.func 50) #[] #[]] 1 (Nat.le_refl _) (by unfold maxLen; omega) rfl, ⟨rfl, fun i hi => ?_⟩, rfl⟩
    simp at hi; subst hi; rfl
  have HA := hidE hA; have HB0 := hidE hb0; have HO0 := hidE ho0
  clear hA hix hz0 hz1 hz2 hb0 ho0
  have HB : hasC P = P.any commB := rfl
  have HBD := hidE (show bds P = ([.most] ++ (if P.any commB then [.rest] else [])) ++ (limS P).map .lim from by unfold bds; rw [HB]; rfl)
  cases hcm : P.any commB
  · rw [hcm] at HCM HBD
    clear hcm HB
    go_enter Try.func26, Try.ntmps26
    go_upto_region 2 with fail
    rw [← hw0]
    clear hw0
    go_wp2_with fail
    ((with_reducible refine (HCM.out _ (HA.out.past HB0.out)).mono ?_); rintro e w1 ⟨rfl, hb1⟩)
    have HO1 := hidE (HO0.out.past hb1); have HB1 := hidE (bstep hb1 HB0.out)
    clear hb1
    go_wp2_with fail
    ((with_reducible refine (HLM.out _ (HA.out.past HB1.out)).mono ?_); rintro e w2 ⟨v2, rfl, hv2, hb2⟩)
    obtain ⟨a2, c2, rfl, hA2, hl2⟩ := limV_arg hv2
    have HO2 := hidE (HO1.out.past hb2); have HB2 := hidE (bstep hb2 HB1.out); have HA2 := hidE hv2; have HL2 := hidE hl2
    clear hb2 hv2 hA2 hl2
    have hsz2 := HB2.out.size
    go_wp2
    go_loopg [3, 17] (limS P).length (fun g v3 v17 wr => ∃ (k : Nat) (av : Option Addr) (cv : Nat) (xs : List Value), v3 = .slice av xs.length cv ∧ v17 = .int .i64 k ∧ k ≤ (limS P).length ∧ (limS P).length - k ≤ g ∧ OwnB wr w.heap.size (.slice av xs.length cv) xs ([.most] ++ ((limS P).take k).map .lim) ∧ Below w.heap.size w wr ∧ LimV wr w1.heap.size (.slice a2 (limS P).length c2) (limS P))
    case atStart => exact ⟨0, _, _, _, rfl, rfl, Nat.zero_le _, Nat.le_refl _, HO2.out, HB2.out, HA2.out⟩
    case round =>
      obtain ⟨k, av, cv, xs, rfl, rfl, hk, hg, ho, hb, hbb⟩ := hrel
      have HO := hidE ho; have HB := hidE hb; have HG := hidE hg; have HBB := hidE hbb
      have hxl := ho.2.1.1
      have HXL := hidE hxl
      have hL2 := HL2.out
      have hxn : xs.length ≤ 4 := by rw [hxl]; simp; omega
      have HXN := hidE hxn
      have hwz := hb.size
      clear ho hb hg hbb hxl hL2 hxn
      by_cases hlt : k < (limS P).length
      · obtain ⟨_, _, eL, hAL, _⟩ := limV_arg HBB.out
        cases eL
        obtain ⟨b, off, rfl, hbz, hc⟩ := hAL (by omega)
        obtain ⟨e0, e1⟩ := hc k hlt
        have HS := hidE (show ((limS P).take (k + 1)).map Bd.lim = ((limS P).take k).map Bd.lim ++ [.lim ((limS P).getD k (0, 0))] by
          rw [List.take_succ_eq_append_getElem hlt, getD_get _ _ _ hlt, List.map_append]; rfl)
        generalize (limS P).getD k (0, 0) = u at *
        obtain ⟨um, uc⟩ := u
        simp only at e0 e1
        clear hc hAL
        go_wp2_with (at_builtin; refine wpList_append_own _ rfl (.tmp 21) (.tmp 24) 64 rfl w.heap.size 68 ix (.agg #[.nilFunc]) 1 8 Try.underlying64 HI.out HZ0.out HZ1.out HZ2.out rfl (by decide) _ _ _ rfl ((HO.out.1.alloc _).alloc _) ⟨_, 0, none⟩ 1 1 [.func (.func 54) #[] #[.pointer (some ⟨wr.heap.size, 0, none⟩)]] rfl rfl (new_cells_atF _ #[.func (.func 54) #[] #[.pointer (some ⟨wr.heap.size, 0, none⟩)]] 68 _ (by simp)) (by intro x hx; simp at hx; rcases hx with rfl; rfl) (by unfold maxLen; have := HXN.out; omega) (by have := HXN.out; omega) (by simp; omega) ?_; intro v4 w4 hown4 hgrow4 _; obtain ⟨a4, c4, rfl⟩ := own_sli hown4)
        have HN4 := hidE (HO.out.past (w' := (wr.alloc (Obj.cells #[.int .i64 um, .int .i64 uc] 27)).alloc (Obj.cells #[.func (.func 54) #[] #[.pointer (some ⟨wr.heap.size, 0, none⟩)]] 68)) (by (repeat (first | exact Below.refl _ _ | assumption | refine balloc ?_ _ | refine below_drewN ?_ _ | refine bstep (by assumption) ?_ | refine bstep (Past.prop _) ?_ | refine Below.setCell ?_ (by first | exact Nat.le_refl _ | (simp; done) | (simp; omega)) _))) |>.app hgrow4 hown4 (b := .lim (um, uc)) ⟨wr.heap.size, rfl, (Blk.made _ _ _).alloc _⟩)
        have p4 : Below w.heap.size w w4 := Below.grown (by have := HB.out; (repeat (first | exact Below.refl _ _ | assumption | refine balloc ?_ _ | refine below_drewN ?_ _ | refine bstep (by assumption) ?_ | refine bstep (Past.prop _) ?_ | refine Below.setCell ?_ (by first | exact Nat.le_refl _ | (simp; done) | (simp; omega)) _))) hgrow4 (by simp; omega) (fun k hk => (HO.out.1.lt k hk).1)
        have HL4 := hidE ((HBB.out.past (w' := (wr.alloc (Obj.cells #[.int .i64 um, .int .i64 uc] 27)).alloc (Obj.cells #[.func (.func 54) #[] #[.pointer (some ⟨wr.heap.size, 0, none⟩)]] 68)) (by (repeat (first | exact Below.refl _ _ | assumption | refine balloc ?_ _ | refine below_drewN ?_ _ | refine bstep (by assumption) ?_ | refine bstep (Past.prop _) ?_ | refine Below.setCell ?_ (by first | exact Nat.le_refl _ | (simp; done) | (simp; omega)) _)))).grown (HO.out.past (by (repeat (first | exact Below.refl _ _ | assumption | refine balloc ?_ _ | refine below_drewN ?_ _ | refine bstep (by assumption) ?_ | refine bstep (Past.prop _) ?_ | refine Below.setCell ?_ (by first | exact Nat.le_refl _ | (simp; done) | (simp; omega)) _)))) hgrow4)
        have P4 := hidE p4
        have hxe : xs.length + 1 = (xs ++ [Value.func (.func 54) #[] #[.pointer (some ⟨wr.heap.size, 0, none⟩)]]).length := by simp
        clear hown4 hgrow4 p4 e0 e1
        go_wp2
        go_roundg ((limS P).length - (k + 1))
        case measure => have := HG.out; omega
        case rel =>
          refine ⟨k + 1, a4, c4, _, by rw [← hxe], by go_num, by omega, Nat.le_refl _, ?_, P4.out, HL4.out⟩
          have := HN4.out
          rw [hxe] at this
          rw [HS.out, ← List.append_assoc]
          exact this
      · have hkl : k = (limS P).length := by omega
        have HF := hidE HO.out
        rw [hkl, List.take_length] at HF
        have HE := hidE (show bds P = [.most] ++ (limS P).map .lim from HBD.out)
        clear hkl HO
        go_wp2
        go_ret
        exact ⟨_, xs, rfl, sliX_own HF.out.1, by rw [HE.out]; exact HF.out.2.1, HB.out⟩
  · rw [hcm] at HCM HBD
    clear hcm HB
    go_enter Try.func26, Try.ntmps26
    go_upto_region 2 with fail
    rw [← hw0]
    clear hw0
    go_wp2_with fail
    ((with_reducible refine (HCM.out _ (HA.out.past HB0.out)).mono ?_); rintro e w1 ⟨rfl, hb1⟩)
    have HO1 := hidE (HO0.out.past hb1); have HB1 := hidE (bstep hb1 HB0.out)
    have hsz1 := hb1.size; have hsz0 := HB1.out.size
    clear hb1
    go_upto_region 4 with (at_builtin; refine wpList_append_own _ rfl (.tmp 10) (.tmp 12) 64 rfl w.heap.size 68 ix (.agg #[.nilFunc]) 1 8 Try.underlying64 HI.out HZ0.out HZ1.out HZ2.out rfl (by decide) _ _ _ rfl (HO1.out.1.alloc _) ⟨_, 0, none⟩ 1 1 [.func (.func 52) #[] #[]] rfl rfl (new_cells_atF _ #[.func (.func 52) #[] #[]] 68 _ (by simp)) (by intro x hx; simp at hx; rcases hx with rfl; rfl) (by unfold maxLen; simp) (by simp) (by simp; omega) ?_; intro v4 w4 hown4 hgrow4 _; obtain ⟨a4, c4, rfl⟩ := own_sli hown4)
    have HO3 := hidE (HO1.out.past (w' := w1.alloc (Obj.cells #[.func (.func 52) #[] #[]] 68)) (by (repeat (first | exact Below.refl _ _ | assumption | refine balloc ?_ _ | refine below_drewN ?_ _ | refine bstep (by assumption) ?_ | refine bstep (Past.prop _) ?_ | refine Below.setCell ?_ (by first | exact Nat.le_refl _ | (simp; done) | (simp; omega)) _))) |>.app hgrow4 hown4 (b := .rest) rfl)
    have HB3 := hidE (Below.grown (by have := HB1.out; (repeat (first | exact Below.refl _ _ | assumption | refine balloc ?_ _ | refine below_drewN ?_ _ | refine bstep (by assumption) ?_ | refine bstep (Past.prop _) ?_ | refine Below.setCell ?_ (by first | exact Nat.le_refl _ | (simp; done) | (simp; omega)) _))) hgrow4 (by simp; omega) (fun k hk => (HO1.out.1.lt k hk).1) : Below w.heap.size w w4)
    clear hown4 hgrow4 hsz0 hsz1
    go_wp2_with fail
    ((with_reducible refine (HLM.out _ (HA.out.past HB3.out)).mono ?_); rintro e w2 ⟨v2, rfl, hv2, hb2⟩)
    obtain ⟨a2, c2, rfl, hA2, hl2⟩ := limV_arg hv2
    have HO2 := hidE (HO3.out.past hb2); have HB2 := hidE (bstep hb2 HB3.out); have HA2 := hidE hv2; have HL2 := hidE hl2
    clear hb2 hv2 hA2 hl2
    have hsz2 := HB2.out.size
    go_wp2
    go_loopg [3, 17] (limS P).length (fun g v3 v17 wr => ∃ (k : Nat) (av : Option Addr) (cv : Nat) (xs : List Value), v3 = .slice av xs.length cv ∧ v17 = .int .i64 k ∧ k ≤ (limS P).length ∧ (limS P).length - k ≤ g ∧ OwnB wr w.heap.size (.slice av xs.length cv) xs ([.most, .rest] ++ ((limS P).take k).map .lim) ∧ Below w.heap.size w wr ∧ LimV wr w4.heap.size (.slice a2 (limS P).length c2) (limS P))
    case atStart => exact ⟨0, _, _, _, rfl, rfl, Nat.zero_le _, Nat.le_refl _, HO2.out, HB2.out, HA2.out⟩
    case round =>
      obtain ⟨k, av, cv, xs, rfl, rfl, hk, hg, ho, hb, hbb⟩ := hrel
      have HO := hidE ho; have HB := hidE hb; have HG := hidE hg; have HBB := hidE hbb
      have hxl := ho.2.1.1
      have HXL := hidE hxl
      have hL2 := HL2.out
      have hxn : xs.length ≤ 4 := by rw [hxl]; simp; omega
      have HXN := hidE hxn
      have hwz := hb.size
      clear ho hb hg hbb hxl hL2 hxn
      by_cases hlt : k < (limS P).length
      · obtain ⟨_, _, eL, hAL, _⟩ := limV_arg HBB.out
        cases eL
        obtain ⟨b, off, rfl, hbz, hc⟩ := hAL (by omega)
        obtain ⟨e0, e1⟩ := hc k hlt
        have HS := hidE (show ((limS P).take (k + 1)).map Bd.lim = ((limS P).take k).map Bd.lim ++ [.lim ((limS P).getD k (0, 0))] by
          rw [List.take_succ_eq_append_getElem hlt, getD_get _ _ _ hlt, List.map_append]; rfl)
        generalize (limS P).getD k (0, 0) = u at *
        obtain ⟨um, uc⟩ := u
        simp only at e0 e1
        clear hc hAL
        go_wp2_with (at_builtin; refine wpList_append_own _ rfl (.tmp 21) (.tmp 24) 64 rfl w.heap.size 68 ix (.agg #[.nilFunc]) 1 8 Try.underlying64 HI.out HZ0.out HZ1.out HZ2.out rfl (by decide) _ _ _ rfl ((HO.out.1.alloc _).alloc _) ⟨_, 0, none⟩ 1 1 [.func (.func 54) #[] #[.pointer (some ⟨wr.heap.size, 0, none⟩)]] rfl rfl (new_cells_atF _ #[.func (.func 54) #[] #[.pointer (some ⟨wr.heap.size, 0, none⟩)]] 68 _ (by simp)) (by intro x hx; simp at hx; rcases hx with rfl; rfl) (by unfold maxLen; have := HXN.out; omega) (by have := HXN.out; omega) (by simp; omega) ?_; intro v5 w5 hown4 hgrow4 _; obtain ⟨a5, c5, rfl⟩ := own_sli hown4)
        have HN4 := hidE (HO.out.past (w' := (wr.alloc (Obj.cells #[.int .i64 um, .int .i64 uc] 27)).alloc (Obj.cells #[.func (.func 54) #[] #[.pointer (some ⟨wr.heap.size, 0, none⟩)]] 68)) (by (repeat (first | exact Below.refl _ _ | assumption | refine balloc ?_ _ | refine below_drewN ?_ _ | refine bstep (by assumption) ?_ | refine bstep (Past.prop _) ?_ | refine Below.setCell ?_ (by first | exact Nat.le_refl _ | (simp; done) | (simp; omega)) _))) |>.app hgrow4 hown4 (b := .lim (um, uc)) ⟨wr.heap.size, rfl, (Blk.made _ _ _).alloc _⟩)
        have p4 : Below w.heap.size w w5 := Below.grown (by have := HB.out; (repeat (first | exact Below.refl _ _ | assumption | refine balloc ?_ _ | refine below_drewN ?_ _ | refine bstep (by assumption) ?_ | refine bstep (Past.prop _) ?_ | refine Below.setCell ?_ (by first | exact Nat.le_refl _ | (simp; done) | (simp; omega)) _))) hgrow4 (by simp; omega) (fun k hk => (HO.out.1.lt k hk).1)
        have HL4 := hidE ((HBB.out.past (w' := (wr.alloc (Obj.cells #[.int .i64 um, .int .i64 uc] 27)).alloc (Obj.cells #[.func (.func 54) #[] #[.pointer (some ⟨wr.heap.size, 0, none⟩)]] 68)) (by (repeat (first | exact Below.refl _ _ | assumption | refine balloc ?_ _ | refine below_drewN ?_ _ | refine bstep (by assumption) ?_ | refine bstep (Past.prop _) ?_ | refine Below.setCell ?_ (by first | exact Nat.le_refl _ | (simp; done) | (simp; omega)) _)))).grown (HO.out.past (by (repeat (first | exact Below.refl _ _ | assumption | refine balloc ?_ _ | refine below_drewN ?_ _ | refine bstep (by assumption) ?_ | refine bstep (Past.prop _) ?_ | refine Below.setCell ?_ (by first | exact Nat.le_refl _ | (simp; done) | (simp; omega)) _)))) hgrow4)
        have P4 := hidE p4
        have hxe : xs.length + 1 = (xs ++ [Value.func (.func 54) #[] #[.pointer (some ⟨wr.heap.size, 0, none⟩)]]).length := by simp
        clear hown4 hgrow4 p4 e0 e1
        go_wp2
        go_roundg ((limS P).length - (k + 1))
        case measure => have := HG.out; omega
        case rel =>
          refine ⟨k + 1, a5, c5, _, by rw [← hxe], by go_num, by omega, Nat.le_refl _, ?_, P4.out, HL4.out⟩
          have := HN4.out
          rw [hxe] at this
          rw [HS.out, ← List.append_assoc]
          exact this
      · have hkl : k = (limS P).length := by omega
        have HF := hidE HO.out
        rw [hkl, List.take_length] at HF
        have HE := hidE (show bds P = [.most, .rest] ++ (limS P).map .lim from HBD.out)
        clear hkl HO
        go_wp2
        go_ret
        exact ⟨_, xs, rfl, sliX_own HF.out.1, by rw [HE.out]; exact HF.out.2.1, HB.out⟩
end Go.Proofs.Ytjhhcljbmnomlaa

namespace Go.Proofs.Ytjhhcljbmnomlaa
open Go.ChangeShapes Go.WideShapes Go.ChangeAt Go.RowKit
attribute [local irreducible] Go.Calls

theorem MinIs.one {F : List Sg} (h : mayB F = true) : MinIs [F] F := ⟨h, fun t a => by simp⟩
theorem MinIs.snoc {Fs : List (List Sg)} {F G : List Sg} (h : MinIs Fs F) (hG : mayB G = true) : doS 2 F G = (opL 2 F G, 0) ∧ MinIs (Fs ++ [G]) (opL 2 F G) ∧ (opL 2 F G).length ≤ F.length + G.length := by
  obtain ⟨L, e, hL, hv⟩ := low_is h.1 hG
  have e2 : doS 2 F G = (opL 2 F G, 0) := by
    have hok : opOk 2 F G = true := opOk_iff.2 fun t => rfl
    unfold doS; rw [h.1, hG, if_neg (by decide), if_pos hok]
  rw [e2] at e; cases e
  refine ⟨e2, ⟨hL, fun t a => ?_⟩, opL_len _ _ _⟩
  rw [hv t]
  have q := h.2 t a
  simp only [mn_min, List.mem_append, List.mem_singleton]
  constructor
  · rw [show a ≤ min (vat F t).1 (vat G t).1 ↔ a ≤ (vat F t).1 ∧ a ≤ (vat G t).1 by omega, q.1]
    exact ⟨fun ⟨a1, a2⟩ H hH => hH.elim (a1 H) (fun e => by rw [e]; exact a2), fun k => ⟨fun H hH => k H (.inl hH), k G (.inr rfl)⟩⟩
  · rw [show a ≤ min (vat F t).2 (vat G t).2 ↔ a ≤ (vat F t).2 ∧ a ≤ (vat G t).2 by omega, q.2]
    exact ⟨fun ⟨a1, a2⟩ H hH => hH.elim (a1 H) (fun e => by rw [e]; exact a2), fun k => ⟨fun H hH => k H (.inl hH), k G (.inr rfl)⟩⟩
/-- The least is handed back. -/
def LowR (Fs : List (List Sg)) (K : Nat) (w : World) (e : Ending) (w' : World) : Prop := ∃ (a : Option Addr) (n cap : Nat) (f : List Sg), e = .returned (.slice a n cap) ∧ SliS w' (.slice a n cap) f ∧ MinIs Fs f ∧ f.length ≤ 4 * K ∧ Below w.heap.size w w'
set_option maxRecDepth 100000 in
set_option maxHeartbeats 2000000 in
theorem lowest_c (Fs : List (List Sg)) (xs : List Value) (v : Value) (K : Nat) (w : World) (h0 : 0 < Fs.length) (h4 : Fs.length ≤ 4) (hS : SliX w v xs) (hR : RowX w xs Fs)
    (hm : ∀ i, i < Fs.length → mayB (Fs.getD i []) = true ∧ (Fs.getD i []).length ≤ K) (hK : K ≤ 1000000) :
    Calls Try.prog 27 #[v] w (LowR Fs K w) := by
  obtain ⟨a, cap, rfl, hc1, hc2, hc⟩ := hS
  obtain ⟨b, off, rfl, hbz, hcx⟩ := hc (by rw [hR.1]; exact h0)
  obtain ⟨m, hm1⟩ : ∃ m, xs.length = m + 1 := ⟨xs.length - 1, by have := hR.1; omega⟩
  have hFl : Fs.length = m + 1 := by rw [← hR.1]; exact hm1
  have HM := hidE hm
  have HR := hidE hR
  have hs0 := hR.2 0 (by omega)
  obtain ⟨a0, c0, e0, g1, g2, g3⟩ := hs0
  have k0 := hcx 0 (by omega)
  rw [e0, Nat.add_zero] at k0
  have HS0 := hidE (show SliS w (.slice a0 (Fs.getD 0 []).length c0) (Fs.getD 0 []) from ⟨a0, c0, rfl, g1, g2, g3⟩)
  have HM0 := hidE (show MinIs (Fs.take 1) (Fs.getD 0 []) by
    have : Fs.take 1 = [Fs.getD 0 []] := by
      cases Fs with
      | nil => simp at h0
      | cons => rfl
    rw [this]; exact MinIs.one (hm 0 h0).1)
  have HL0 := hidE (hm 0 h0).2
  have HCX := hidE hcx; have HFL := hidE hFl
  generalize Fs.getD 0 [] = F0 at *
  rw [hm1] at hc1
  rw [hm1]
  clear hR e0 g1 g2 g3 hc hcx hm hFl
  have hm3 : m ≤ 3 := by have := HFL.out; omega
  go_enter Try.func27, Try.ntmps27
  go_wp2
  · have hm0 : m = 0 := by omega
    subst hm0
    have HMF := hidE (show MinIs Fs F0 by have := HM0.out; rw [show (1 : Nat) = Fs.length from HFL.out.symm, List.take_length] at this; exact this)
    go_loopg [3, 12] 0 (fun g v3 v12 wr => v3 = .slice a0 F0.length c0 ∧ v12 = .int .i64 0 ∧ Below w.heap.size w wr)
    case atStart => exact ⟨rfl, rfl, by (repeat (first | exact Below.refl _ _ | assumption | refine balloc ?_ _ | refine below_drewN ?_ _ | refine bstep (by assumption) ?_ | refine bstep (Past.prop _) ?_ | refine Below.setCell ?_ (by first | exact Nat.le_refl _ | (simp; done) | (simp; omega)) _))⟩
    case round =>
      obtain ⟨rfl, rfl, hb⟩ := hrel
      have HB := hidE hb
      clear hb
      go_wp2
      go_ret
      exact ⟨_, _, _, F0, rfl, HS0.out.past HB.out, HMF.out, by have := HL0.out; omega, HB.out⟩
  · go_loopg [3, 12] m (fun g v3 v12 wr => ∃ (k : Nat) (a : Option Addr) (c : Nat) (F : List Sg), v3 = .slice a F.length c ∧ v12 = .int .i64 k ∧ k ≤ m ∧ m - k ≤ g ∧ SliS wr (.slice a F.length c) F ∧ MinIs (Fs.take (k + 1)) F ∧ F.length ≤ (k + 1) * K ∧ Below w.heap.size w wr)
    case atStart => exact ⟨0, a0, c0, F0, rfl, rfl, Nat.zero_le _, Nat.le_refl _, HS0.out, HM0.out, by have := HL0.out; omega, by (repeat (first | exact Below.refl _ _ | assumption | refine balloc ?_ _ | refine below_drewN ?_ _ | refine bstep (by assumption) ?_ | refine bstep (Past.prop _) ?_ | refine Below.setCell ?_ (by first | exact Nat.le_refl _ | (simp; done) | (simp; omega)) _))⟩
    case round =>
      obtain ⟨k, a, c, F, rfl, rfl, hk, hg, hs, hmi, hln, hb⟩ := hrel
      by_cases hlt : k < m
      · have k1 := HCX.out (k + 1) (by omega)
        have hs1 := HR.out.2 (k + 1) (by omega)
        obtain ⟨a1, c1, e1, g1, g2, g3⟩ := hs1
        rw [e1, show off + (k + 1) = off + 1 + k by omega, ← hb.cell hbz] at k1
        have hbr : b < wr.heap.size := Nat.lt_of_lt_of_le hbz hb.size
        obtain ⟨q1, q2⟩ := HM.out (k + 1) (by have := HFL.out; omega)
        obtain ⟨d1, d2, d3⟩ := hmi.snoc q1
        have HT := hidE (show Fs.take (k + 1 + 1) = Fs.take (k + 1) ++ [Fs.getD (k + 1) []] by
          have := HFL.out
          rw [List.take_succ_eq_append_getElem (by omega), getD_get _ _ _ (by omega)])
        have HG1 := hidE (show SliS wr (.slice a1 (Fs.getD (k + 1) []).length c1) (Fs.getD (k + 1) []) from SliS.past (w := w) ⟨a1, c1, rfl, g1, g2, g3⟩ hb)
        generalize Fs.getD (k + 1) [] = G at *
        obtain ⟨_, _, e2, g4, g5, g6⟩ := hs
        cases e2
        have hkk : (k + 1) * K ≤ 4 * K := Nat.mul_le_mul_right _ (by omega)
        have HC := hidE (fun w h1 h2 => cmn_c F G a a1 c c1 w g4 g5 g1 g2 (by omega) h1 h2)
        rw [d1] at HC
        have HF := hidE (g6.past (Below.refl _ _)); have HG := hidE (g3.past hb)
        have HMI := hidE d2; have HLN := hidE (show (opL 2 F G).length ≤ (k + 1 + 1) * K by rw [Nat.succ_mul]; omega)
        have HB := hidE hb; have HGK := hidE hg
        generalize opL 2 F G = R at *
        clear hg hmi hln hb q1 q2 d1 d2 d3 e1 g1 g2 g3 g4 g5 g6
        go_wp2_with fail
        ((with_reducible refine (HC.out _ HF.out HG.out).mono ?_); rintro e w2 ⟨v2, rfl, hv2, hb2⟩)
        obtain ⟨a5, c5, rfl, g7, g8, g9⟩ := hv2
        have HV := hidE (show SliS w2 (.slice a5 R.length c5) R from ⟨a5, c5, rfl, g7, g8, g9⟩); have HB2 := hidE (bstep hb2 HB.out)
        clear g7 g8 g9 hb2 k1 hbr
        go_wp2
        go_roundg (m - (k + 1))
        case measure => have := HGK.out; omega
        case rel => exact ⟨k + 1, a5, c5, R, rfl, by go_num, by omega, Nat.le_refl _, HV.out, by rw [HT.out]; exact HMI.out, HLN.out, HB2.out⟩
      · have hkm : k = m := by omega
        have HS := hidE hs; have HB := hidE hb
        have HMI := hidE (show MinIs Fs F by rw [hkm, ← HFL.out, List.take_length] at hmi; exact hmi)
        have HLN := hidE (show F.length ≤ 4 * K from Nat.le_trans hln (Nat.mul_le_mul_right _ (by omega)))
        clear hs hmi hln hb hg hkm
        go_wp2
        go_ret
        exact ⟨_, _, _, F, rfl, HS.out, HMI.out, HLN.out, HB.out⟩
end Go.Proofs.Ytjhhcljbmnomlaa

namespace Go.Proofs.Ytjhhcljbmnomlaa
open Go.ChangeShapes Go.WideShapes Go.ChangeAt Go.RowKit Go.Shelf
attribute [local irreducible] Go.Calls

theorem wrap_add {a b : Int} (h : -9223372036854775808 ≤ a + b) (h2 : a + b ≤ 9223372036854775807) : wrap64 (a + wrap64 b) = a + b := by unfold wrap64; omega
end Go.Proofs.Ytjhhcljbmnomlaa

namespace Go.Proofs.Ytjhhcljbmnomlaa
open Go.ChangeShapes Go.WideShapes Go.ChangeAt Go.RowKit Go.Shelf
attribute [local irreducible] Go.Calls

/-- What the closure keeps. -/
theorem lowcl_c (s : St) (p p0 p2 n cap : Nat) (a : Option Addr) (x y : Int) (v r : Int × Int) (w : World) (hB : Blk w p #[.int .i64 v.1, .int .i64 v.2] 27)
    (hW : Blk w p0 #[.slice a n cap, .int .i64 x, .int .i64 y] 117) (hP : Blk w p2 #[.func (.func 39) #[] #[]] 82) (_hp0 : p0 ≠ p) (hp2 : p2 ≠ p)
    (hr : r = if s.1 = x then (mn s.2.2.1 s.2.2.1, mn s.2.2.2 s.2.2.2) else (mn v.1 s.2.2.1, mn v.2 s.2.2.2)) :
    Calls Try.prog 91 (encS s ++ #[.pointer (some ⟨p0, 0, none⟩), .pointer (some ⟨p, 0, none⟩), .pointer (some ⟨p2, 0, none⟩)]) w fun e w' => (∃ v, e = .returned v) ∧ Blk w' p #[.int .i64 r.1, .int .i64 r.2] 27 ∧ w.grownBy w' (some p) := by
  have c0 := hB.cell 0; have c1 := hB.cell 1; have cf := hB.free; have cz := hB.lt; have d1 := hW.cell 1; have dz := hW.lt; have g0 := hP.cell 0; have gz := hP.lt
  simp at c0 c1 d1 g0
  have HB := hidE hB; have HP := hidE hP
  have HR := hidE hr
  clear hB hW hP hr
  show Calls _ _ #[.agg #[.int .i64 s.1, .int .i64 s.2.1, .int .i64 s.2.2.1, .int .i64 s.2.2.2], .pointer (some ⟨p0, 0, none⟩), .pointer (some ⟨p, 0, none⟩), .pointer (some ⟨p2, 0, none⟩)] _ _
  by_cases hx : s.1 = x
  · have hd : (s.1 == x) = true := beq_iff_eq.2 hx
    have HR2 := hidE (HR.out.trans (if_pos hx))
    have HC := hidE (fun w => mn_c s.2.2.1 s.2.2.2 s.2.2.1 s.2.2.2 w)
    rw [HR2.out]
    clear hx HR
    generalize mn s.2.2.1 s.2.2.1 = q1 at *
    generalize mn s.2.2.2 s.2.2.2 = q2 at *
    go_enter Try.func91, Try.ntmps91
    go_upto_region 3 with fail
    go_wp2_with fail
    ((with_reducible refine (HC.out _).mono ?_); rintro e w1 ⟨rfl, hb1⟩)
    have hg : w.grownBy w1 (some p) := grown_trans (grown_trans (grown_trans (grown_set _ _ _ _) (grown_set _ _ _ _)) (grown_alloc _ _ _)) (grown_any hb1)
    have B1 : Blk w1 p #[.int .i64 s.2.2.1, .int .i64 s.2.2.2] 27 := by
      have := ((((HB.out.set 0 (.int .i64 s.2.2.1)).set 1 (.int .i64 s.2.2.2)).alloc (Obj.cells #[.int .i64 s.1, .int .i64 s.2.1, .int .i64 s.2.2.1, .int .i64 s.2.2.2] 119))).past hb1
      simpa using this
    have hg' := hidE hg; have HB1 := hidE B1
    have e0 := B1.cell 0; have e1 := B1.cell 1; have ef := B1.free; have ez := B1.lt
    simp at e0 e1
    clear hg B1 hb1 c0 c1 cf cz d1 dz g0 gz
    go_wp2
    go_end0
    refine ⟨⟨_, rfl⟩, by simpa using (HB1.out.set 0 (.int .i64 q1)).set 1 (.int .i64 q2), ?_⟩
    exact grown_trans (grown_trans hg'.out (grown_set _ _ _ _)) (grown_set _ _ _ _)
  · have hd : (s.1 == x) = false := beq_eq_false_iff_ne.2 hx
    have HR2 := hidE (HR.out.trans (if_neg hx))
    have HC := hidE (fun w => mn_c v.1 v.2 s.2.2.1 s.2.2.2 w)
    rw [HR2.out]
    clear hx HR
    generalize mn v.1 s.2.2.1 = q1 at *
    generalize mn v.2 s.2.2.2 = q2 at *
    go_enter Try.func91, Try.ntmps91
    go_upto_region 3 with fail
    go_wp2_with fail
    ((with_reducible refine (HC.out _).mono ?_); rintro e w1 ⟨rfl, hb1⟩)
    have hg : w.grownBy w1 (some p) := grown_trans (grown_alloc _ _ _) (grown_any hb1)
    have B1 : Blk w1 p #[.int .i64 v.1, .int .i64 v.2] 27 := (HB.out.alloc (Obj.cells #[.int .i64 s.1, .int .i64 s.2.1, .int .i64 s.2.2.1, .int .i64 s.2.2.2] 119)).past hb1
    have hg' := hidE hg; have HB1 := hidE B1
    have e0 := B1.cell 0; have e1 := B1.cell 1; have ef := B1.free; have ez := B1.lt
    simp at e0 e1
    clear hg B1 hb1 c0 c1 cf cz d1 dz g0 gz
    go_wp2
    go_end0
    refine ⟨⟨_, rfl⟩, by simpa using (HB1.out.set 0 (.int .i64 q1)).set 1 (.int .i64 q2), ?_⟩
    exact grown_trans (grown_trans hg'.out (grown_set _ _ _ _)) (grown_set _ _ _ _)
/-- The value so far. -/
def lowV (F : List Sg) (x z : Int) : Int × Int := if z = x then (0, 0) else lowN F x (z - x).toNat
def lowJ (F : List Sg) (x : Int) (w : World) (wn pk : Array Value) (pre : List St) (W : World) : Prop :=
  Blk W (w.heap.size + 1 + 1 + 1) #[.int .i64 (lowV F x (endG x pre)).1, .int .i64 (lowV F x (endG x pre)).2] 27 ∧ Blk W w.heap.size wn 117 ∧ Blk W (w.heap.size + 1) pk 82
theorem lowV_step {F : List Sg} {x : Int} {s : St} (hx : x ≤ s.1) (h : s.1 < s.2.1) (hv : ∀ t, s.1 ≤ t → t < s.2.1 → vat F t = s.2.2) :
    lowV F x s.2.1 = if s.1 = x then (mn s.2.2.1 s.2.2.1, mn s.2.2.2 s.2.2.2) else (mn (lowV F x s.1).1 s.2.2.1, mn (lowV F x s.1).2 s.2.2.2) := by
  have e := low_str hx h hv
  unfold lowV
  rw [if_neg (by omega), e]
  by_cases c : s.1 = x
  · rw [if_pos c, c, Int.sub_self]
    have : lowN F x (Int.toNat 0) = s.2.2 := by
      show vat F x = s.2.2
      exact hv x (by omega) (by omega)
    rw [this]
  · rw [if_neg c, if_neg c]

set_option maxHeartbeats 1000000 in
theorem lowex_c (F : List Sg) (x y : Int) (a : Option Addr) (cap : Nat) (w : World) (hl : F.length ≤ 1000000000) (hA : ArgS w a F) :
    Calls Try.prog 81 #[WN a F.length cap x y, .func (.func 39) #[] #[]] w fun e w' => e = .returned (VE (lowS F x y)) ∧ Below w.heap.size w w' := by
  obtain ⟨w0, hw0⟩ : ∃ w0, w0 = ((w.alloc (Obj.cells #[.slice a F.length cap, .int .i64 x, .int .i64 y] 117)).alloc (Obj.cells #[.func (.func 39) #[] #[]] 82)).alloc (Obj.cells #[.int .i64 0, .int .i64 0] 27) := ⟨_, rfl⟩
  have hz0 : w0.heap.size = w.heap.size + 1 + 1 + 1 := by rw [hw0]; simp
  have hbw0 : Below w.heap.size w w0 := by rw [hw0]; (repeat (first | exact Below.refl _ _ | assumption | refine balloc ?_ _ | refine below_drewN ?_ _ | refine bstep (by assumption) ?_ | refine bstep (Past.prop _) ?_ | refine Below.setCell ?_ (by first | exact Nat.le_refl _ | (simp; done) | (simp; omega)) _))
  have hA0 : ArgS w0 a F := hA.past hbw0
  have HB0 := hidE (show Blk w0 w.heap.size #[.slice a F.length cap, .int .i64 x, .int .i64 y] 117 by rw [hw0]; exact ((Blk.made _ _ _).alloc _).alloc _)
  have HB1 := hidE (show Blk w0 (w.heap.size + 1) #[.func (.func 39) #[] #[]] 82 by rw [hw0]; exact (Blk.made_at _ _ _ _ (by simp)).alloc _)
  have HB2 := hidE (show Blk w0 (w.heap.size + 1 + 1) #[.int .i64 0, .int .i64 0] 27 by rw [hw0]; exact Blk.made_at _ _ _ _ (by simp))
  have HEV := hidE (fun (w' : World) (hb : Below w0.heap.size w0 w') (hB : Blk w' (w.heap.size + 1 + 1 + 1) #[.int .i64 0, .int .i64 0] 27) => ev_c F x y a cap 91 #[.pointer (some ⟨w.heap.size, 0, none⟩), .pointer (some ⟨w.heap.size + 1 + 1 + 1, 0, none⟩), .pointer (some ⟨w.heap.size + 1, 0, none⟩)] w0 w'
    (fun pre W => lowJ F x w #[.slice a F.length cap, .int .i64 x, .int .i64 y] #[.func (.func 39) #[] #[]] pre W) hl hA0 hb
    (enters_of Try.func91 (by kernel_rfl) rfl) (fun s A B h hb2 => ⟨h.1.below hb2 hB.lt, h.2.1.below hb2 (by have := hB.lt; omega), h.2.2.below hb2 (by have := hB.lt; omega)⟩)
    (fun hbad pre s W hz hJ hpre => by
      obtain ⟨hm, hwn⟩ := badW_zero.1 hbad
      obtain ⟨k1, k2, k3, k4, k5⟩ := str_at (mayB_iff.1 hm) hpre
      obtain ⟨j1, j2, j3⟩ := hJ
      rw [← k1] at j1
      refine (lowcl_c s (w.heap.size + 1 + 1 + 1) w.heap.size (w.heap.size + 1) F.length cap a x y (lowV F x s.1) (lowV F x s.2.1) W j1 j2 j3 (by omega) (by omega) (lowV_step k2 k3 k5)).mono ?_
      rintro e W' ⟨hv, hB2, hg⟩
      refine ⟨hv, ⟨?_, j2.grown hg (by simp; omega), j3.grown hg (by simp)⟩, Outside.of_grown hg (by omega) hB.lt (Nat.le_trans hb.size hz)⟩
      rw [endG_snoc]
      exact hB2)
    ⟨by rw [show lowV F x (endG x []) = (0, 0) from if_pos rfl]; exact hB, HB0.out.below hb (by omega), HB1.out.below hb (by omega)⟩)
  have HT := hidE (show lowS F x y = ((lowV F x (endG x (evS F x y))).1, (lowV F x (endG x (evS F x y))).2, badW F x y) from by
    by_cases hq : badW F x y = 0
    · obtain ⟨hm, hwn⟩ := badW_zero.1 hq
      rw [wndB_iff] at hwn
      rw [lowS_ok hq, show evS F x y = strL F x y from if_pos hq, str_end (mayB_iff.1 hm) (by omega), hq]
      unfold lowV
      rw [if_neg (by omega)]
    · rw [lowS_no hq, show evS F x y = [] from if_neg hq, show lowV F x (endG x []) = (0, 0) from if_pos rfl])
  clear hA hA0
  rw [HT.out]
  unfold lowJ at HEV
  generalize lowV F x (endG x (evS F x y)) = q at *
  generalize badW F x y = er at *
  have HBW := hidE hbw0
  clear hbw0
  have c0 := HB0.out.cell 0; have c1 := HB0.out.cell 1; have c2 := HB0.out.cell 2; have z0 := HB0.out.lt; have z2 := HB2.out.lt
  simp at c0 c1 c2
  go_enter Try.func81, Try.ntmps81
  go_wp2_with fail
  rw [← hw0]
  ((with_reducible refine (HEV.out _ ?hb0 ?hB0).mono ?_)); case hb0 => exact (Below.refl _ w0).alloc (Nat.le_refl _) _
  case hB0 => exact Blk.made_at _ _ _ _ (by omega)
  rintro e w1 ⟨rfl, ⟨hB1, _, _⟩, hb1⟩
  have B0 := HB2.out.below hb1 (by omega)
  clear c0 c1 c2 z0 z2
  have e0 := hB1.cell 0; have e1 := hB1.cell 1; have ez := hB1.lt; have d0 := B0.cell 0; have d1 := B0.cell 1; have df := B0.free; have dz := B0.lt
  simp at e0 e1 d0 d1
  have B2 := (B0.set 0 (.int .i64 q.1)).set 1 (.int .i64 q.2)
  have g0 := B2.cell 0; have g1 := B2.cell 1
  simp at g0 g1
  have HBB := hidE (HBW.out.trans (hb1.mono (by omega)))
  clear hB1 hb1 B0 B2
  go_wp2
  refine bodyPost_ret (v := VE (q.1, q.2, er)) (by simp [results, Try.results81, go_sem, g0, g1]) rfl ⟨rfl, ?_⟩
  exact (HBB.out.setCell (p := ⟨w.heap.size + 1 + 1, 0, none⟩) (by simp; omega) _).setCell (p := ⟨w.heap.size + 1 + 1, 1, none⟩) (by simp; omega) _

theorem low_c (F : List Sg) (x y : Int) (a : Option Addr) (cap : Nat) (w : World) (hl : F.length ≤ 1000000000) (hA : ArgS w a F) :
    Calls Try.prog 56 #[.slice a F.length cap, .int .i64 x, .int .i64 y] w fun e w' => e = .returned (VE (lowS F x y)) ∧ Below w.heap.size w w' := by
  have HA := hidE hA
  have HX := hidE (fun w' hA => lowex_c F x y a cap w' hl hA)
  clear hA
  generalize lowS F x y = q at *
  go_enter Try.func56, Try.ntmps56
  go_wp2_with fail
  ((with_reducible refine (HX.out _ (HA.out.past (by (repeat (first | exact Below.refl _ _ | assumption | refine balloc ?_ _ | refine below_drewN ?_ _ | refine bstep (by assumption) ?_ | refine bstep (Past.prop _) ?_ | refine Below.setCell ?_ (by first | exact Nat.le_refl _ | (simp; done) | (simp; omega)) _))))).mono ?_); rintro e w1 ⟨rfl, hb1⟩)
  have B0 := (Blk.made w #[.int .i64 0, .int .i64 0] 27).past hb1
  have d0 := B0.cell 0; have d1 := B0.cell 1; have df := B0.free; have dz := B0.lt
  simp at d0 d1
  have B2 := (B0.set 0 (.int .i64 q.1)).set 1 (.int .i64 q.2.1)
  have g0 := B2.cell 0; have g1 := B2.cell 1
  simp at g0 g1
  have hb : Below w.heap.size w w1 := by (repeat (first | exact Below.refl _ _ | assumption | refine balloc ?_ _ | refine below_drewN ?_ _ | refine bstep (by assumption) ?_ | refine bstep (Past.prop _) ?_ | refine Below.setCell ?_ (by first | exact Nat.le_refl _ | (simp; done) | (simp; omega)) _))
  have HBB := hidE hb
  clear B0 B2 hb hb1
  go_wp2
  refine bodyPost_ret (v := VE q) (by simp [results, Try.results56, go_sem, g0, g1]) rfl ⟨rfl, ?_⟩
  exact (HBB.out.setCell (p := ⟨w.heap.size, 0, none⟩) (Nat.le_refl _) _).setCell (p := ⟨w.heap.size, 1, none⟩) (Nat.le_refl _) _
end Go.Proofs.Ytjhhcljbmnomlaa

namespace Go.Proofs.Ytjhhcljbmnomlaa
open Go.ChangeShapes Go.WideShapes Go.ChangeAt Go.RowKit

theorem cl_quo (x y : Int) (w : World) (hx : -1125899906842624 ≤ x ∧ x ≤ 1125899906842624) (hy : 1 ≤ y ∧ y ≤ 1125899906842624) : Calls Try.prog 75 #[.int .i64 x, .int .i64 y] w fun e w' => e = .returned (.int .i64 (x.tdiv y)) ∧ w' = w := by
  by_cases h : 0 ≤ x
  all_goals
    go_enter Try.func75, Try.ntmps75
    go_wp2
    go_ret
    exact ⟨ret_int (by first | rfl | exact (Int.tdiv_eq_ediv_of_nonneg h).symm), rfl⟩
theorem both_quo (a b c d : Int) (w : World) (h1 : okV a b = true) (h2 : okV c d = true ∧ 1 ≤ c ∧ 1 ≤ d) :
    Calls Try.prog 67 #[V a b, V c d, .func (.func 75) #[] #[]] w fun e w' => e = .returned (.tuple #[.int .i64 (a.tdiv c), .int .i64 (b.tdiv d)]) ∧ Below w.heap.size w w' := by
  have g1 := h1; have g2 := h2
  simp only [okV_iff] at g1 g2
  have G1 := hidE g1; have G2 := hidE g2
  clear g1 g2 h1 h2
  go_enter Try.func67, Try.ntmps67
  go_wp2
  go_quiet ((go_at_call 75; exact Calls.quiet_of_same (cl_quo _ _ _ (by have := G1.out; have := G2.out; omega) (by have := G1.out; have := G2.out; omega))))
  go_wp2
  go_ret2
  exact ⟨rfl, below_drewN (((Below.refl _ _).alloc (Nat.le_refl _) _).alloc (by simp) _) _⟩
theorem quo_units {a b c d : Int} (_h1 : okV a b = true) (_h2 : okV c d = true) (hc : 1 ≤ c) (hd : 1 ≤ d) : mx 0 (mn (a.tdiv c) (b.tdiv d)) = if a < 0 ∨ b < 0 then 0 else mn (a / c) (b / d) := by
  have key : ∀ x y : Int, 1 ≤ y → x < 0 → x.tdiv y ≤ 0 := fun x y hy hx => by
    have : x.tdiv y = -((-x).tdiv y) := by rw [Int.neg_tdiv]; omega
    have h0 := Int.tdiv_nonneg (a := -x) (b := y) (by omega) (by omega)
    omega
  by_cases h : a < 0 ∨ b < 0
  · rw [if_pos h]
    have : mn (a.tdiv c) (b.tdiv d) ≤ 0 := by
      rcases h with h | h
      · have := key a c hc h; unfold mn; split <;> omega
      · have := key b d hd h; unfold mn; split <;> omega
    unfold mx; split <;> omega
  · rw [if_neg h, Int.tdiv_eq_ediv_of_nonneg (by omega), Int.tdiv_eq_ediv_of_nonneg (by omega)]
    have e1 : 0 ≤ a / c := Int.ediv_nonneg (by omega) (by omega)
    have e2 : 0 ≤ b / d := Int.ediv_nonneg (by omega) (by omega)
    have e3 : 0 ≤ mn (a / c) (b / d) := by unfold mn; split <;> omega
    unfold mx; rw [if_pos e3]
theorem un_c (a b c d : Int) (w : World) : Calls Try.prog 43 #[V a b, V c d] w fun e w' => e = .returned (IE (unS a b c d)) ∧ Below w.heap.size w w' := by
  cases h1 : leB 1 1 c d
  · have e : unS a b c d = (0, 2) := by rw [leB_not] at h1; unfold unS; rw [if_pos (by omega)]
    rw [e]; clear e
    go_enter Try.func43, Try.ntmps43
    go_wp2
    refine wp_region_past_lit (by kernel_rfl) (by kernel_rfl) ?_
    have hc := Past.cell (W := (w.alloc (Obj.cells #[Value.int IntKind.i64 a, Value.int IntKind.i64 b] 27)).alloc (Obj.cells #[Value.int IntKind.i64 c, Value.int IntKind.i64 d] 27))
    repeat (go_big_quiet_step ((first | (go_at_call 74; exact Past.call _ (alike _ _)) | (go_at_call 30; exact Past.call _ (le_eq h1)))))
    refine wpQuiet_nil ?_
    rintro _ ⟨x, rfl⟩
    go_wp2
    go_ret2
    refine ⟨rfl, ?_⟩
    (repeat (first | exact Below.refl _ _ | assumption | refine balloc ?_ _ | refine below_drewN ?_ _ | refine bstep (by assumption) ?_ | refine bstep (Past.prop _) ?_ | refine Below.setCell ?_ (by first | exact Nat.le_refl _ | (simp; done) | (simp; omega)) _))
  · have g1 := leB_iff.1 h1
    cases h2 : (okV a b && okV c d)
    · have e : unS a b c d = (0, 10) := by unfold unS; rw [if_neg (by omega), if_pos h2]
      rw [e]; clear e g1
      cases h3 : okV a b
      · clear h2
        go_enter Try.func43, Try.ntmps43
        go_wp2
        refine wp_region_past_lit (by kernel_rfl) (by kernel_rfl) ?_
        have hc := Past.cell (W := (w.alloc (Obj.cells #[Value.int IntKind.i64 a, Value.int IntKind.i64 b] 27)).alloc (Obj.cells #[Value.int IntKind.i64 c, Value.int IntKind.i64 d] 27))
        repeat (go_big_quiet_step ((first | (go_at_call 74; exact Past.call _ (alike _ _)) | (go_at_call 30; exact Past.call _ (le_eq h1)))))
        refine wpQuiet_nil ?_
        rintro _ ⟨x, rfl⟩
        have hz0 := bsz (Past.prop x) w.heap.size (by simp; omega); have hz1 := bsz (Past.prop x) (w.heap.size + 1) (by simp)
        go_wp2_with (go_at_call 70; ((with_reducible refine (may_eq h3).mono ?_); rintro e w' ⟨rfl, hb⟩; obtain ⟨hc, hf⟩ := bcell hb; have hz0 := bsz hb (w.heap.size) (by first | assumption | (simp; done) | (simp; omega)); have hz1 := bsz hb (w.heap.size + 1) (by first | assumption | (simp; done) | (simp; omega))))
        go_ret2
        refine ⟨rfl, ?_⟩
        (repeat (first | exact Below.refl _ _ | assumption | refine balloc ?_ _ | refine below_drewN ?_ _ | refine bstep (by assumption) ?_ | refine bstep (Past.prop _) ?_ | refine Below.setCell ?_ (by first | exact Nat.le_refl _ | (simp; done) | (simp; omega)) _))
      · have h4 : okV c d = false := by rw [h3] at h2; simpa using h2
        clear h2
        go_enter Try.func43, Try.ntmps43
        go_wp2
        refine wp_region_past_lit (by kernel_rfl) (by kernel_rfl) ?_
        have hc := Past.cell (W := (w.alloc (Obj.cells #[Value.int IntKind.i64 a, Value.int IntKind.i64 b] 27)).alloc (Obj.cells #[Value.int IntKind.i64 c, Value.int IntKind.i64 d] 27))
        repeat (go_big_quiet_step ((first | (go_at_call 74; exact Past.call _ (alike _ _)) | (go_at_call 30; exact Past.call _ (le_eq h1)))))
        refine wpQuiet_nil ?_
        rintro _ ⟨x, rfl⟩
        have hz0 := bsz (Past.prop x) w.heap.size (by simp; omega); have hz1 := bsz (Past.prop x) (w.heap.size + 1) (by simp)
        go_wp2_with (first | (go_at_call 70; ((with_reducible refine (may_eq h3).mono ?_); rintro e w' ⟨rfl, hb⟩; obtain ⟨hc, hf⟩ := bcell hb; have hz0 := bsz hb (w.heap.size) (by first | assumption | (simp; done) | (simp; omega)); have hz1 := bsz hb (w.heap.size + 1) (by first | assumption | (simp; done) | (simp; omega)))) | (go_at_call 70; ((with_reducible refine (may_eq h4).mono ?_); rintro e w' ⟨rfl, hb⟩; obtain ⟨hc, hf⟩ := bcell hb; have hz0 := bsz hb (w.heap.size) (by first | assumption | (simp; done) | (simp; omega)); have hz1 := bsz hb (w.heap.size + 1) (by first | assumption | (simp; done) | (simp; omega)))))
        go_ret2
        refine ⟨rfl, ?_⟩
        (repeat (first | exact Below.refl _ _ | assumption | refine balloc ?_ _ | refine below_drewN ?_ _ | refine bstep (by assumption) ?_ | refine bstep (Past.prop _) ?_ | refine Below.setCell ?_ (by first | exact Nat.le_refl _ | (simp; done) | (simp; omega)) _))
    · obtain ⟨h3, h4⟩ : okV a b = true ∧ okV c d = true := by simpa using h2
      have e : unS a b c d = (mx 0 (mn (a.tdiv c) (b.tdiv d)), 0) := by
        rw [quo_units h3 h4 g1.1 g1.2]; unfold unS; rw [if_neg (by omega), if_neg (by rw [h2]; decide)]; split <;> rfl
      rw [e]; clear e
      have h5 : okV c d = true ∧ 1 ≤ c ∧ 1 ≤ d := ⟨h4, g1⟩
      have H5 := hidE h5; clear h5 g1 h2
      go_enter Try.func43, Try.ntmps43
      go_wp2
      refine wp_region_past_lit (by kernel_rfl) (by kernel_rfl) ?_
      have hc := Past.cell (W := (w.alloc (Obj.cells #[Value.int IntKind.i64 a, Value.int IntKind.i64 b] 27)).alloc (Obj.cells #[Value.int IntKind.i64 c, Value.int IntKind.i64 d] 27))
      repeat (go_big_quiet_step ((first | (go_at_call 74; exact Past.call _ (alike _ _)) | (go_at_call 30; exact Past.call _ (le_eq h1)))))
      refine wpQuiet_nil ?_
      rintro _ ⟨x, rfl⟩
      have hz0 := bsz (Past.prop x) w.heap.size (by simp; omega); have hz1 := bsz (Past.prop x) (w.heap.size + 1) (by simp)
      go_wp2_with (first | (go_at_call 70; ((with_reducible refine (may_eq h3).mono ?_); rintro e w' ⟨rfl, hb⟩; obtain ⟨hc, hf⟩ := bcell hb; have hz0 := bsz hb (w.heap.size) (by first | assumption | (simp; done) | (simp; omega)); have hz1 := bsz hb (w.heap.size + 1) (by first | assumption | (simp; done) | (simp; omega)))) | (go_at_call 70; ((with_reducible refine (may_eq h4).mono ?_); rintro e w' ⟨rfl, hb⟩; obtain ⟨hc, hf⟩ := bcell hb; have hz0 := bsz hb (w.heap.size) (by first | assumption | (simp; done) | (simp; omega)); have hz1 := bsz hb (w.heap.size + 1) (by first | assumption | (simp; done) | (simp; omega)))) | (go_at_call 67; ((with_reducible refine (both_quo _ _ _ _ _ h3 H5.out).mono ?_); rintro e w' ⟨rfl, hb⟩; obtain ⟨hc, hf⟩ := bcell hb; have hz0 := bsz hb (w.heap.size) (by first | assumption | (simp; done) | (simp; omega)); have hz1 := bsz hb (w.heap.size + 1) (by first | assumption | (simp; done) | (simp; omega)))))
      all_goals
        go_ret2
        refine ⟨ret_tup ?_, ?_⟩
        · exact congrArg (fun z : Int => (#[.int .i64 z, .int .i64 0] : Array Value)) (by unfold mx mn; (repeat' split) <;> omega)
        · (repeat (first | exact Below.refl _ _ | assumption | refine balloc ?_ _ | refine below_drewN ?_ _ | refine bstep (by assumption) ?_ | refine bstep (Past.prop _) ?_ | refine Below.setCell ?_ (by first | exact Nat.le_refl _ | (simp; done) | (simp; omega)) _))

end Go.Proofs.Ytjhhcljbmnomlaa

namespace Go.Proofs.Ytjhhcljbmnomlaa
open Go.ChangeShapes Go.WideShapes Go.ChangeAt Go.RowKit

theorem tm (x n : Int) (w : World) (hx : -1125899906842624 ≤ x ∧ x ≤ 1125899906842624) (_hn : -9223372036854775808 ≤ n ∧ n ≤ 9223372036854775807) : Calls Try.prog 73 #[.int .i64 x, .int .i64 n] w fun e w' => e = .returned (.int .i64 (tmS x n)) ∧ w' = w := by
  have ht := tmS_ok (x := x) (n := n) (by omega) (by omega)
  rcases Int.lt_trichotomy x 0 with h | h | h
  · obtain ⟨m, rfl⟩ : ∃ m, x = -m := ⟨-x, by omega⟩
    have h0 : 0 < m := by omega
    have hm : mx (-m) (- -m) = m := by unfold mx; split <;> omega
    have hq : 0 ≤ 1125899906842624 / m ∧ 1125899906842624 / m ≤ 1125899906842624 := ⟨Int.ediv_nonneg (by omega) (by omega), Int.ediv_le_self _ (by omega)⟩
    have ht' : tmS (-m) n = if n < -(1125899906842624 / m) ∨ 1125899906842624 / m < n then 1125899906842625 else -m * n := by unfold tmS; rw [hm, if_neg (by omega)]
    have HT := hidE ht; have HT' := hidE ht'
    clear ht hm ht' h
    by_cases hl : n < -(1125899906842624 / m)
    · go_enter Try.func73, Try.ntmps73
      go_wp2
      go_ret
      exact ⟨ret_int (by rw [HT'.out, if_pos (.inl hl)]), rfl⟩
    by_cases hr : 1125899906842624 / m < n
    · go_enter Try.func73, Try.ntmps73
      go_wp2
      go_ret
      exact ⟨ret_int (by rw [HT'.out, if_pos (.inr hr)]), rfl⟩
    · go_enter Try.func73, Try.ntmps73
      go_wp2
      go_ret
      refine ⟨ret_int ?_, rfl⟩
      have e := HT'.out
      rw [if_neg (by omega)] at e
      rw [e]
      exact IntWalk.wrap64_in _ (by rcases HT.out with ⟨e1, e2⟩ | ⟨e1, e2⟩ <;> omega)
  · subst h
    go_enter Try.func73, Try.ntmps73
    go_wp2
    go_ret
    exact ⟨ret_int (by simp [tmS]), rfl⟩
  · have hm : mx x (-x) = x := by unfold mx; split <;> omega
    have hq : 0 ≤ 1125899906842624 / x ∧ 1125899906842624 / x ≤ 1125899906842624 := ⟨Int.ediv_nonneg (by omega) (by omega), Int.ediv_le_self _ (by omega)⟩
    have ht' : tmS x n = if n < -(1125899906842624 / x) ∨ 1125899906842624 / x < n then 1125899906842625 else x * n := by unfold tmS; rw [hm, if_neg (by omega)]
    have HT := hidE ht; have HT' := hidE ht'
    clear ht hm ht'
    by_cases hl : n < -(1125899906842624 / x)
    · go_enter Try.func73, Try.ntmps73
      go_wp2
      go_ret
      exact ⟨ret_int (by rw [HT'.out, if_pos (.inl hl)]), rfl⟩
    by_cases hr : 1125899906842624 / x < n
    · go_enter Try.func73, Try.ntmps73
      go_wp2
      go_ret
      exact ⟨ret_int (by rw [HT'.out, if_pos (.inr hr)]), rfl⟩
    · go_enter Try.func73, Try.ntmps73
      go_wp2
      go_ret
      refine ⟨ret_int ?_, rfl⟩
      have e := HT'.out
      rw [if_neg (by omega)] at e
      rw [e]
      exact IntWalk.wrap64_in _ (by rcases HT.out with ⟨e1, e2⟩ | ⟨e1, e2⟩ <;> omega)

theorem cl_scl (x y n : Int) (p : Addr) (w : World) (hx : -1125899906842624 ≤ x ∧ x ≤ 1125899906842624) (hn : -9223372036854775808 ≤ n ∧ n ≤ 9223372036854775807) (hp : w.cell? p = some (.int .i64 n)) :
    Calls Try.prog 72 #[.int .i64 x, .int .i64 y, .pointer (some p)] w fun e w' => e = .returned (.int .i64 (tmS x n)) ∧ w' = w := by
  have Hn := hidE hn; clear hn
  go_enter Try.func72, Try.ntmps72
  go_wp2_with (go_at_call 73; refine (tm _ _ _ hx Hn.out).mono ?_; rintro e w' ⟨rfl, rfl⟩)
  go_ret
  exact ⟨rfl, rfl⟩

theorem both_scl (a b c d n : Int) (k : Nat) (w : World) (h1 : okV a b = true) (hn : -9223372036854775808 ≤ n ∧ n ≤ 9223372036854775807) (hk : k < w.heap.size) (hp : w.cell? ⟨k, 0, none⟩ = some (.int .i64 n)) :
    Calls Try.prog 67 #[V a b, V c d, .func (.func 72) #[] #[.pointer (some ⟨k, 0, none⟩)]] w fun e w' => e = .returned (.tuple #[.int .i64 (tmS a n), .int .i64 (tmS b n)]) ∧ Below w.heap.size w w' := by
  have g1 := h1
  simp only [okV_iff] at g1
  have G1 := hidE g1; clear g1 h1
  have Hn := hidE hn; clear hn
  have hp2 : ∀ nq, (((w.alloc (Obj.cells #[Value.int IntKind.i64 a, Value.int IntKind.i64 b] 27)).alloc (Obj.cells #[Value.int IntKind.i64 c, Value.int IntKind.i64 d] 27)).drewN nq).cell? ⟨k, 0, none⟩ = some (.int .i64 n) := fun _ => by
    show ((w.alloc _).alloc _).cell? ⟨k, 0, none⟩ = _
    rw [World.cell?_alloc_past _ _ _ (by simp; omega), World.cell?_alloc_past _ _ _ hk]; exact hp
  have HP := hidE hp2; clear hp2 hp
  go_enter Try.func67, Try.ntmps67
  go_wp2
  go_quiet ((go_at_call 72; exact Calls.quiet_of_same (cl_scl _ _ _ _ _ (by have := G1.out; omega) Hn.out (HP.out _))))
  go_wp2
  go_ret2
  exact ⟨rfl, below_drewN (((Below.refl _ _).alloc (Nat.le_refl _) _).alloc (by simp) _) _⟩


theorem scl_c (a b n : Int) (w : World) (hn : -9223372036854775808 ≤ n ∧ n ≤ 9223372036854775807) : Calls Try.prog 41 #[V a b, .int .i64 n] w fun e w' => e = .returned (VE (sclS a b n)) ∧ Below w.heap.size w w' := by
  cases h : okV a b
  · have e : sclS a b n = (0, 0, 10) := by unfold sclS; rw [h]; rfl
    rw [e]; clear e
    have h' : (okV a b && okV a b) = false := by rw [h]; rfl
    clear hn h
    go_enter Try.func41, Try.ntmps41
    go_wp2_with (go_at_call 71; ((with_reducible refine (valid_no _ _ _ _ _ _ h').mono ?_); rintro e w' ⟨rfl, hb⟩; obtain ⟨hc, hf⟩ := bcell hb; have hz0 := bsz hb (w.heap.size) (by first | assumption | (simp; done) | (simp; omega)); have hz1 := bsz hb (w.heap.size + 1) (by first | assumption | (simp; done) | (simp; omega)); have hz2 := bsz hb (w.heap.size + 1 + 1) (by first | assumption | (simp; done) | (simp; omega))))
    refine bodyPost_ret (v := VE (0, 0, 10)) (by simp [results, Try.results41, go_sem, *]) rfl ⟨rfl, ?_⟩
    (repeat (first | exact Below.refl _ _ | assumption | refine balloc ?_ _ | refine below_drewN ?_ _ | refine bstep (by assumption) ?_ | refine bstep (Past.prop _) ?_ | refine Below.setCell ?_ (by first | exact Nat.le_refl _ | (simp; done) | (simp; omega)) _))
  · have e : sclS a b n = gate (okV (tmS a n) (tmS b n)) (tmS a n) (tmS b n) := by rw [← sclS_tm h, h]; rfl
    rw [e]; clear e
    generalize hg : gate (okV (tmS a n) (tmS b n)) (tmS a n) (tmS b n) = g
    have Hg := hidE hg; clear hg
    have HB : ∀ w', Below (((w.alloc (Obj.cells #[Value.int IntKind.i64 a, Value.int IntKind.i64 b] 27)).alloc (Obj.cells #[Value.int IntKind.i64 n] 2)).alloc (Obj.cells #[Value.int IntKind.i64 0, Value.int IntKind.i64 0] 27)).heap.size (((w.alloc (Obj.cells #[Value.int IntKind.i64 a, Value.int IntKind.i64 b] 27)).alloc (Obj.cells #[Value.int IntKind.i64 n] 2)).alloc (Obj.cells #[Value.int IntKind.i64 0, Value.int IntKind.i64 0] 27)) w' → Calls Try.prog 67 #[V a b, V a b, .func (.func 72) #[] #[.pointer (some ⟨w.heap.size + 1, 0, none⟩)]] w' fun e w'' => e = .returned (.tuple #[.int .i64 (tmS a n), .int .i64 (tmS b n)]) ∧ Below w'.heap.size w' w'' := fun w' hw' =>
      both_scl _ _ _ _ n _ _ h hn (Nat.lt_of_lt_of_le (by simp) hw'.size) (by rw [hw'.cell (by simp)]; simp [go_sem])
    have HB' := hidE HB; clear HB hn
    go_enter Try.func41, Try.ntmps41
    go_wp2_with (go_at_call 71; ((with_reducible refine (valid_yes _ _ _ _ _ (tmS a n) (tmS b n) _ h h HB'.out).mono ?_); rintro e w' ⟨rfl, hb⟩; rw [Hg.out]; obtain ⟨hc, hf⟩ := bcell hb; have hz2 := bsz hb (w.heap.size + 1 + 1) (by simp)))
    refine bodyPost_ret (v := VE g) (by simp [results, Try.results41, go_sem, *]) rfl ⟨rfl, ?_⟩
    (repeat (first | exact Below.refl _ _ | assumption | refine balloc ?_ _ | refine below_drewN ?_ _ | refine bstep (by assumption) ?_ | refine bstep (Past.prop _) ?_ | refine Below.setCell ?_ (by first | exact Nat.le_refl _ | (simp; done) | (simp; omega)) _))
end Go.Proofs.Ytjhhcljbmnomlaa

namespace Go.Proofs.Ytjhhcljbmnomlaa
open Go.ChangeShapes Go.WideShapes Go.ChangeAt Go.RowKit
attribute [local irreducible] Go.Calls

theorem fisTime_c (t : Int) (w : World) : Calls Try.prog 24 #[.int .i64 t] w fun e w' => e = .returned (.bool (nowB t)) ∧ Below w.heap.size w w' := by
  by_cases h1 : -1099511627776 ≤ t
  · have e : nowB t = decide (t ≤ 1099511627776) := by unfold nowB; rw [decide_eq_decide]; omega
    have E := hidE e; rw [E.out]; clear e
    have d1 : decide (-1099511627776 ≤ t) = true := decide_eq_true h1
    clear h1
    go_enter Try.func24, Try.ntmps24
    go_wp2
    go_ret
    exact ⟨rfl, by (repeat (first | exact Below.refl _ _ | assumption | refine balloc ?_ _ | refine below_drewN ?_ _ | refine bstep (by assumption) ?_ | refine bstep (Past.prop _) ?_ | refine Below.setCell ?_ (by first | exact Nat.le_refl _ | (simp; done) | (simp; omega)) _))⟩
  · have e : nowB t = false := by unfold nowB; exact decide_eq_false (by omega)
    have E := hidE e; rw [E.out]; clear e
    have d1 : decide (-1099511627776 ≤ t) = false := decide_eq_false h1
    clear h1
    go_enter Try.func24, Try.ntmps24
    go_wp2
    go_ret
    exact ⟨rfl, by (repeat (first | exact Below.refl _ _ | assumption | refine balloc ?_ _ | refine below_drewN ?_ _ | refine bstep (by assumption) ?_ | refine bstep (Past.prop _) ?_ | refine Below.setCell ?_ (by first | exact Nat.le_refl _ | (simp; done) | (simp; omega)) _))⟩
theorem fisTime_eq {t : Int} {r : Bool} {w : World} (h : nowB t = r) : Calls Try.prog 24 #[.int .i64 t] w fun e w' => e = .returned (.bool r) ∧ Below w.heap.size w w' := h ▸ fisTime_c t w
theorem ffault_c (F : List Sg) (x d m c : Int) (a : Option Addr) (cap : Nat) (w : World) (hl : F.length ≤ 1000000000) (hA : ArgS w a F) :
    Calls Try.prog 40 #[.slice a F.length cap, .int .i64 x, .int .i64 d, V m c] w fun e w' => e = .returned (.int .i64 (fitE F x d (m, c))) ∧ Below w.heap.size w w' := by
  have HM := hidE (fun w hA => pmay_c F a cap w (by omega) hA)
  have HA := hidE hA
  clear hA
  cases h1 : mayB F
  · have HE := hidE (fitE_form (x := x) (d := d) (v := (m, c)) h1)
    rw [h1] at HM
    rw [HE.out]
    clear h1
    go_enter Try.func40, Try.ntmps40
    go_wp2_with fail
    ((with_reducible refine (HM.out _ (HA.out.past (by (repeat (first | exact Below.refl _ _ | assumption | refine balloc ?_ _ | refine below_drewN ?_ _ | refine bstep (by assumption) ?_ | refine bstep (Past.prop _) ?_ | refine Below.setCell ?_ (by first | exact Nat.le_refl _ | (simp; done) | (simp; omega)) _))))).mono ?_); rintro e w1 ⟨rfl, hb1⟩)
    go_wp2
    go_ret
    exact ⟨rfl, by (repeat (first | exact Below.refl _ _ | assumption | refine balloc ?_ _ | refine below_drewN ?_ _ | refine bstep (by assumption) ?_ | refine bstep (Past.prop _) ?_ | refine Below.setCell ?_ (by first | exact Nat.le_refl _ | (simp; done) | (simp; omega)) _))⟩
  · by_cases h2 : d < 1 ∨ 4096 < d
    · have HE := hidE (fitE_arg (x := x) (v := (m, c)) h1 h2)
      rw [h1] at HM
      rw [HE.out]
      clear h1
      by_cases h3 : d < 1
      · have d1 : decide (d < 1) = true := decide_eq_true h3
        clear h2 h3
        go_enter Try.func40, Try.ntmps40
        go_wp2_with fail
        ((with_reducible refine (HM.out _ (HA.out.past (by (repeat (first | exact Below.refl _ _ | assumption | refine balloc ?_ _ | refine below_drewN ?_ _ | refine bstep (by assumption) ?_ | refine bstep (Past.prop _) ?_ | refine Below.setCell ?_ (by first | exact Nat.le_refl _ | (simp; done) | (simp; omega)) _))))).mono ?_); rintro e w1 ⟨rfl, hb1⟩)
        go_wp2
        go_ret
        exact ⟨rfl, by (repeat (first | exact Below.refl _ _ | assumption | refine balloc ?_ _ | refine below_drewN ?_ _ | refine bstep (by assumption) ?_ | refine bstep (Past.prop _) ?_ | refine Below.setCell ?_ (by first | exact Nat.le_refl _ | (simp; done) | (simp; omega)) _))⟩
      · have d1 : decide (d < 1) = false := decide_eq_false h3
        have d2 : decide (4096 < d) = true := decide_eq_true (by omega)
        clear h2 h3
        go_enter Try.func40, Try.ntmps40
        go_wp2_with fail
        ((with_reducible refine (HM.out _ (HA.out.past (by (repeat (first | exact Below.refl _ _ | assumption | refine balloc ?_ _ | refine below_drewN ?_ _ | refine bstep (by assumption) ?_ | refine bstep (Past.prop _) ?_ | refine Below.setCell ?_ (by first | exact Nat.le_refl _ | (simp; done) | (simp; omega)) _))))).mono ?_); rintro e w1 ⟨rfl, hb1⟩)
        go_wp2
        go_ret
        exact ⟨rfl, by (repeat (first | exact Below.refl _ _ | assumption | refine balloc ?_ _ | refine below_drewN ?_ _ | refine bstep (by assumption) ?_ | refine bstep (Past.prop _) ?_ | refine Below.setCell ?_ (by first | exact Nat.le_refl _ | (simp; done) | (simp; omega)) _))⟩
    · have d1 : decide (d < 1) = false := decide_eq_false (by omega)
      have d2 : decide (4096 < d) = false := decide_eq_false (by omega)
      have hdd : 1 ≤ d ∧ d ≤ 4096 := by omega
      cases h3 : nowB x
      · have HE := hidE (fitE_range (F := F) (x := x) (d := d) (v := (m, c)) h1 hdd (.inl h3))
        rw [h1] at HM
        rw [HE.out]
        clear h1 h2 hdd
        go_enter Try.func40, Try.ntmps40
        go_wp2_with fail
        ((with_reducible refine (HM.out _ (HA.out.past (by (repeat (first | exact Below.refl _ _ | assumption | refine balloc ?_ _ | refine below_drewN ?_ _ | refine bstep (by assumption) ?_ | refine bstep (Past.prop _) ?_ | refine Below.setCell ?_ (by first | exact Nat.le_refl _ | (simp; done) | (simp; omega)) _))))).mono ?_); rintro e w1 ⟨rfl, hb1⟩)
        go_wp2_with fail
        ((with_reducible refine (fisTime_eq h3).mono ?_); rintro e w2 ⟨rfl, hb2⟩)
        go_wp2
        go_ret
        exact ⟨rfl, by (repeat (first | exact Below.refl _ _ | assumption | refine balloc ?_ _ | refine below_drewN ?_ _ | refine bstep (by assumption) ?_ | refine bstep (Past.prop _) ?_ | refine Below.setCell ?_ (by first | exact Nat.le_refl _ | (simp; done) | (simp; omega)) _))⟩
      · have HE := hidE (show fitE F x d (m, c) = if okV m c then 0 else 10 by
          cases h4 : okV m c
          · exact fitE_range (F := F) (x := x) (d := d) (v := (m, c)) h1 hdd (.inr h4)
          · exact fitE_ok (F := F) (x := x) (d := d) (v := (m, c)) h1 hdd h3 h4)
        rw [h1] at HM
        rw [HE.out]
        clear h1 h2 hdd
        cases h4 : okV m c
        all_goals
          go_enter Try.func40, Try.ntmps40
          go_wp2_with fail
          ((with_reducible refine (HM.out _ (HA.out.past (by (repeat (first | exact Below.refl _ _ | assumption | refine balloc ?_ _ | refine below_drewN ?_ _ | refine bstep (by assumption) ?_ | refine bstep (Past.prop _) ?_ | refine Below.setCell ?_ (by first | exact Nat.le_refl _ | (simp; done) | (simp; omega)) _))))).mono ?_); rintro e w1 ⟨rfl, hb1⟩)
          have hb1' : Below w.heap.size w w1 := by (repeat (first | exact Below.refl _ _ | assumption | refine balloc ?_ _ | refine below_drewN ?_ _ | refine bstep (by assumption) ?_ | refine bstep (Past.prop _) ?_ | refine Below.setCell ?_ (by first | exact Nat.le_refl _ | (simp; done) | (simp; omega)) _))
          have B0 := (Blk.made w #[.int .i64 m, .int .i64 c] 27).past hb1
          have b0 := B0.cell 0; have b1 := B0.cell 1; have bz := B0.lt
          simp at b0 b1
          go_wp2_with fail
          ((with_reducible refine (fisTime_eq h3).mono ?_); rintro e w2 ⟨rfl, hb2⟩)
          have B2 := B0.past hb2
          have hb2' : Below w.heap.size w w2 := bstep hb2 hb1'
          clear b0 b1 bz hb1 hb2
          have b0 := B2.cell 0; have b1 := B2.cell 1; have bz := B2.lt
          simp at b0 b1
          go_wp2_with fail
          ((with_reducible refine (may_eq h4).mono ?_); rintro e w3 ⟨rfl, hb3⟩)
          go_wp2
          go_ret
          exact ⟨rfl, by (repeat (first | exact Below.refl _ _ | assumption | refine balloc ?_ _ | refine below_drewN ?_ _ | refine bstep (by assumption) ?_ | refine bstep (Past.prop _) ?_ | refine Below.setCell ?_ (by first | exact Nat.le_refl _ | (simp; done) | (simp; omega)) _))⟩
theorem ffault_eq {F : List Sg} {x d m c : Int} {a : Option Addr} {cap : Nat} {w : World} {r : Int} (hl : F.length ≤ 1000000000) (hA : ArgS w a F) (h : fitE F x d (m, c) = r) :
    Calls Try.prog 40 #[.slice a F.length cap, .int .i64 x, .int .i64 d, V m c] w fun e w' => e = .returned (.int .i64 r) ∧ Below w.heap.size w w' := h ▸ ffault_c F x d m c a cap w hl hA
/-- What the closure is handed: the low, where the window may be asked for. -/
theorem exam_fi (F : List Sg) (x d m c : Int) (a : Option Addr) (cap p q : Nat) (w : World) (R : World → Prop) (hl : F.length ≤ 1000000000) (hA : ArgS w a F)
    (hS : fitE F x d (m, c) = 0 → ∀ W, Below w.heap.size w W → Calls Try.prog 29 #[V (lowN F x d.toNat).1 (lowN F x d.toNat).2, .pointer (some ⟨p, 0, none⟩), .pointer (some ⟨q, 0, none⟩)] W fun e W' => (∃ v, e = .returned v) ∧ R W') :
    Calls Try.prog 28 #[.slice a F.length cap, .int .i64 x, .int .i64 d, V m c, .func (.func 29) #[] #[.pointer (some ⟨p, 0, none⟩), .pointer (some ⟨q, 0, none⟩)]] w fun e w' =>
      e = .returned (.int .i64 (fitE F x d (m, c))) ∧ (fitE F x d (m, c) = 0 → R w') ∧ (fitE F x d (m, c) ≠ 0 → Below w.heap.size w w') := by
  have HFA := hidE (fun w hA => ffault_c F x d m c a cap w hl hA)
  have HA := hidE hA
  have HS := hidE hS
  clear hA hS
  by_cases h0 : fitE F x d (m, c) = 0
  · obtain ⟨q1, q2, q3, q4⟩ := fitE_zero h0
    have q3 := nowB_iff.1 q3
    have HL := hidE (fun w hA => low_c F x (x + d) a cap w hl hA)
    rw [low_win h0] at HL
    have HS2 := hidE (HS.out h0)
    have wq : IntKind.i64.wrap (x + d) = x + d := IntWalk.i64_in _ (by omega)
    clear HS
    rw [h0] at HFA
    rw [h0]
    clear h0 q1 q2 q3 q4
    generalize lowN F x d.toNat = L at *
    go_enter Try.func28, Try.ntmps28
    go_wp2_with fail
    ((with_reducible refine (HFA.out _ (HA.out.past (by (repeat (first | exact Below.refl _ _ | assumption | refine balloc ?_ _ | refine below_drewN ?_ _ | refine bstep (by assumption) ?_ | refine bstep (Past.prop _) ?_ | refine Below.setCell ?_ (by first | exact Nat.le_refl _ | (simp; done) | (simp; omega)) _))))).mono ?_); rintro e w1 ⟨rfl, hb1⟩)
    have hB1 : Below w.heap.size w w1 := by (repeat (first | exact Below.refl _ _ | assumption | refine balloc ?_ _ | refine below_drewN ?_ _ | refine bstep (by assumption) ?_ | refine bstep (Past.prop _) ?_ | refine Below.setCell ?_ (by first | exact Nat.le_refl _ | (simp; done) | (simp; omega)) _))
    clear hb1
    go_wp2_with fail
    ((with_reducible refine (HL.out _ (HA.out.past hB1)).mono ?_); rintro e w2 ⟨rfl, hb2⟩)
    have hB2 : Below w.heap.size w w2 := bstep hb2 hB1
    clear hb2
    go_wp2_with fail
    ((with_reducible refine (HS2.out _ (by (repeat (first | exact Below.refl _ _ | assumption | refine balloc ?_ _ | refine below_drewN ?_ _ | refine bstep (by assumption) ?_ | refine bstep (Past.prop _) ?_ | refine Below.setCell ?_ (by first | exact Nat.le_refl _ | (simp; done) | (simp; omega)) _)))).mono ?_); rintro e w3 ⟨⟨v3, rfl⟩, hR⟩)
    go_wp2
    go_ret
    exact ⟨rfl, fun _ => hR, fun h => absurd rfl h⟩
  · have e0 : (fitE F x d (m, c) == 0) = false := beq_eq_false_iff_ne.2 h0
    have H0 := hidE h0
    clear h0 HS
    generalize fitE F x d (m, c) = k at *
    go_enter Try.func28, Try.ntmps28
    go_wp2_with fail
    ((with_reducible refine (HFA.out _ (HA.out.past (by (repeat (first | exact Below.refl _ _ | assumption | refine balloc ?_ _ | refine below_drewN ?_ _ | refine bstep (by assumption) ?_ | refine bstep (Past.prop _) ?_ | refine Below.setCell ?_ (by first | exact Nat.le_refl _ | (simp; done) | (simp; omega)) _))))).mono ?_); rintro e w1 ⟨rfl, hb1⟩)
    go_wp2
    go_ret
    exact ⟨rfl, fun h => absurd h H0.out, fun _ => by (repeat (first | exact Below.refl _ _ | assumption | refine balloc ?_ _ | refine below_drewN ?_ _ | refine bstep (by assumption) ?_ | refine bstep (Past.prop _) ?_ | refine Below.setCell ?_ (by first | exact Nat.le_refl _ | (simp; done) | (simp; omega)) _))⟩
/-- What the closure is handed: the low, where the window may be asked for. -/
theorem exam_mo (F : List Sg) (x d m c : Int) (a : Option Addr) (cap p q : Nat) (w : World) (R : World → Prop) (hl : F.length ≤ 1000000000) (hA : ArgS w a F)
    (hS : fitE F x d (m, c) = 0 → ∀ W, Below w.heap.size w W → Calls Try.prog 42 #[V (lowN F x d.toNat).1 (lowN F x d.toNat).2, .pointer (some ⟨p, 0, none⟩), .pointer (some ⟨q, 0, none⟩)] W fun e W' => (∃ v, e = .returned v) ∧ R W') :
    Calls Try.prog 28 #[.slice a F.length cap, .int .i64 x, .int .i64 d, V m c, .func (.func 42) #[] #[.pointer (some ⟨p, 0, none⟩), .pointer (some ⟨q, 0, none⟩)]] w fun e w' =>
      e = .returned (.int .i64 (fitE F x d (m, c))) ∧ (fitE F x d (m, c) = 0 → R w') ∧ (fitE F x d (m, c) ≠ 0 → Below w.heap.size w w') := by
  have HFA := hidE (fun w hA => ffault_c F x d m c a cap w hl hA)
  have HA := hidE hA
  have HS := hidE hS
  clear hA hS
  by_cases h0 : fitE F x d (m, c) = 0
  · obtain ⟨q1, q2, q3, q4⟩ := fitE_zero h0
    have q3 := nowB_iff.1 q3
    have HL := hidE (fun w hA => low_c F x (x + d) a cap w hl hA)
    rw [low_win h0] at HL
    have HS2 := hidE (HS.out h0)
    have wq : IntKind.i64.wrap (x + d) = x + d := IntWalk.i64_in _ (by omega)
    clear HS
    rw [h0] at HFA
    rw [h0]
    clear h0 q1 q2 q3 q4
    generalize lowN F x d.toNat = L at *
    go_enter Try.func28, Try.ntmps28
    go_wp2_with fail
    ((with_reducible refine (HFA.out _ (HA.out.past (by (repeat (first | exact Below.refl _ _ | assumption | refine balloc ?_ _ | refine below_drewN ?_ _ | refine bstep (by assumption) ?_ | refine bstep (Past.prop _) ?_ | refine Below.setCell ?_ (by first | exact Nat.le_refl _ | (simp; done) | (simp; omega)) _))))).mono ?_); rintro e w1 ⟨rfl, hb1⟩)
    have hB1 : Below w.heap.size w w1 := by (repeat (first | exact Below.refl _ _ | assumption | refine balloc ?_ _ | refine below_drewN ?_ _ | refine bstep (by assumption) ?_ | refine bstep (Past.prop _) ?_ | refine Below.setCell ?_ (by first | exact Nat.le_refl _ | (simp; done) | (simp; omega)) _))
    clear hb1
    go_wp2_with fail
    ((with_reducible refine (HL.out _ (HA.out.past hB1)).mono ?_); rintro e w2 ⟨rfl, hb2⟩)
    have hB2 : Below w.heap.size w w2 := bstep hb2 hB1
    clear hb2
    go_wp2_with fail
    ((with_reducible refine (HS2.out _ (by (repeat (first | exact Below.refl _ _ | assumption | refine balloc ?_ _ | refine below_drewN ?_ _ | refine bstep (by assumption) ?_ | refine bstep (Past.prop _) ?_ | refine Below.setCell ?_ (by first | exact Nat.le_refl _ | (simp; done) | (simp; omega)) _)))).mono ?_); rintro e w3 ⟨⟨v3, rfl⟩, hR⟩)
    go_wp2
    go_ret
    exact ⟨rfl, fun _ => hR, fun h => absurd rfl h⟩
  · have e0 : (fitE F x d (m, c) == 0) = false := beq_eq_false_iff_ne.2 h0
    have H0 := hidE h0
    clear h0 HS
    generalize fitE F x d (m, c) = k at *
    go_enter Try.func28, Try.ntmps28
    go_wp2_with fail
    ((with_reducible refine (HFA.out _ (HA.out.past (by (repeat (first | exact Below.refl _ _ | assumption | refine balloc ?_ _ | refine below_drewN ?_ _ | refine bstep (by assumption) ?_ | refine bstep (Past.prop _) ?_ | refine Below.setCell ?_ (by first | exact Nat.le_refl _ | (simp; done) | (simp; omega)) _))))).mono ?_); rintro e w1 ⟨rfl, hb1⟩)
    go_wp2
    go_ret
    exact ⟨rfl, fun h => absurd h H0.out, fun _ => by (repeat (first | exact Below.refl _ _ | assumption | refine balloc ?_ _ | refine below_drewN ?_ _ | refine bstep (by assumption) ?_ | refine bstep (Past.prop _) ?_ | refine Below.setCell ?_ (by first | exact Nat.le_refl _ | (simp; done) | (simp; omega)) _))⟩
/-- What the closure of Fits writes. -/
theorem fitcl_c (m c l1 l2 : Int) (p q : Nat) (b : Bool) (w : World) (hp : Blk w p #[.int .i64 m, .int .i64 c] 27) (hq : Blk w q #[.bool b] 4) :
    Calls Try.prog 29 #[V l1 l2, .pointer (some ⟨p, 0, none⟩), .pointer (some ⟨q, 0, none⟩)] w fun e w' => (∃ v, e = .returned v) ∧ (Blk w' q #[.bool (leB m c l1 l2)] 4 ∧ Below q w w') := by
  have p0 := hp.cell 0; have p1 := hp.cell 1; have pz := hp.lt; have qz := hq.lt
  simp at p0 p1
  have HQ := hidE hq; have HQZ := hidE (Nat.le_of_lt qz)
  clear hq
  go_enter Try.func29, Try.ntmps29
  go_wp2_with fail
  ((with_reducible refine (le _ _ _ _ _).mono ?_); rintro e w1 ⟨rfl, hb1⟩)
  have hB : Below w.heap.size w w1 := by (repeat (first | exact Below.refl _ _ | assumption | refine balloc ?_ _ | refine below_drewN ?_ _ | refine bstep (by assumption) ?_ | refine bstep (Past.prop _) ?_ | refine Below.setCell ?_ (by first | exact Nat.le_refl _ | (simp; done) | (simp; omega)) _))
  have B1 := HQ.out.past hB
  have q0 := B1.cell 0; have qf := B1.free; have qz1 := B1.lt
  simp at q0
  have HB := hidE hB
  clear p0 p1 pz hb1 hB
  go_wp2
  go_end0
  exact ⟨⟨_, rfl⟩, by simpa using B1.set 0 (.bool (leB m c l1 l2)), Below.setCell (p := ⟨q, 0, none⟩) (Below.mono HB.out HQZ.out) (Nat.le_refl _) _⟩
theorem fits_c (F : List Sg) (x d m c : Int) (a : Option Addr) (cap : Nat) (w : World) (hl : F.length ≤ 1000000000) (hA : ArgS w a F) :
    Calls Try.prog 9 #[.slice a F.length cap, .int .i64 x, .int .i64 d, V m c] w fun e w' => e = .returned (.tuple #[.bool (fitsS F x d (m, c)).1, .int .i64 (fitsS F x d (m, c)).2]) ∧ Below w.heap.size w w' := by
  obtain ⟨w0, hw0⟩ : ∃ w0, w0 = (w.alloc (Obj.cells #[.int .i64 m, .int .i64 c] 27)).alloc (Obj.cells #[.bool false] 4) := ⟨_, rfl⟩
  have hz0 : w0.heap.size = w.heap.size + 2 := by rw [hw0]; simp
  have hbw : Below w.heap.size w w0 := by rw [hw0]; (repeat (first | exact Below.refl _ _ | assumption | refine balloc ?_ _ | refine below_drewN ?_ _ | refine bstep (by assumption) ?_ | refine bstep (Past.prop _) ?_ | refine Below.setCell ?_ (by first | exact Nat.le_refl _ | (simp; done) | (simp; omega)) _))
  have B0 : Blk w0 w.heap.size #[.int .i64 m, .int .i64 c] 27 := by rw [hw0]; exact (Blk.made _ _ _).alloc _
  have B1 : Blk w0 (w.heap.size + 1) #[.bool false] 4 := by rw [hw0]; exact Blk.made_at _ _ _ _ (by simp)
  have HX := hidE (exam_fi F x d m c a cap w.heap.size (w.heap.size + 1) w0 (fun W' => Blk W' (w.heap.size + 1) #[.bool (fitB F x d (m, c))] 4 ∧ Below (w.heap.size + 1) w0 W') hl (hA.past hbw) (fun h W hb =>
    (fitcl_c m c (lowN F x d.toNat).1 (lowN F x d.toNat).2 w.heap.size (w.heap.size + 1) false W (B0.past hb) (B1.past hb)).mono fun e W' ⟨h1, h2, h3⟩ => ⟨h1, h2, (hb.mono (by omega)).trans h3⟩))
  have HBW := hidE hbw; have HB1 := hidE B1
  have HB0 := hidE B0
  have b0 := B0.cell 0; have b1 := B0.cell 1; have bz := B0.lt; have c0 := B1.cell 0; have cz := B1.lt
  simp at b0 b1 c0
  clear hA hbw
  by_cases h0 : fitE F x d (m, c) = 0
  · have HE := hidE (show fitsS F x d (m, c) = (fitB F x d (m, c), 0) by unfold fitsS; rw [if_pos h0])
    rw [h0] at HX
    rw [HE.out]
    clear h0
    generalize fitB F x d (m, c) = r at *
    go_enter Try.func9, Try.ntmps9
    go_upto_region 2 with fail
    rw [← hw0]
    clear hw0
    go_wp2_with fail
    ((with_reducible refine (HX.out).mono ?_); rintro e w1 ⟨rfl, hR, _⟩)
    obtain ⟨q1, q2⟩ := hR (by trivial)
    have HQ2 := hidE q2
    clear b0 b1 bz c0 cz hR B0 B1 q2
    have c0 := q1.cell 0; have cz := q1.lt
    simp at c0
    go_wp2
    go_ret2
    exact ⟨rfl, HBW.out.trans (HQ2.out.mono (by omega))⟩
  · have HE := hidE (show fitsS F x d (m, c) = (false, fitE F x d (m, c)) by unfold fitsS; rw [if_neg h0])
    rw [HE.out]
    have H0 := hidE h0
    clear h0
    generalize fitE F x d (m, c) = k at *
    go_enter Try.func9, Try.ntmps9
    go_upto_region 2 with fail
    rw [← hw0]
    clear hw0
    go_wp2_with fail
    ((with_reducible refine (HX.out).mono ?_); rintro e w1 ⟨rfl, _, hR⟩)
    have hb := hR H0.out
    have q1 := HB1.out.past hb
    have HQ2 := hidE hb
    clear b0 b1 bz c0 cz hR B0 B1 hb
    have c0 := q1.cell 0; have cz := q1.lt
    simp at c0
    go_wp2
    go_ret2
    exact ⟨rfl, HBW.out.trans (HQ2.out.mono (by omega))⟩
theorem fits_eq {F : List Sg} {x d m c : Int} {a : Option Addr} {n cap : Nat} {w : World} {r : Bool × Int} (h1 : SliS w (.slice a n cap) F) (hl : n ≤ 1000000) (he : fitsS F x d (m, c) = r) :
    Calls Try.prog 9 #[.slice a n cap, .int .i64 x, .int .i64 d, V m c] w fun e w' => e = .returned (.tuple #[.bool r.1, .int .i64 r.2]) ∧ Below w.heap.size w w' := by
  obtain ⟨a', c', e, h2, h3, h4⟩ := h1
  cases e; subst he
  exact fits_c F x d m c a cap w (by omega) h4
end Go.Proofs.Ytjhhcljbmnomlaa

namespace Go.Proofs.Ytjhhcljbmnomlaa
open Go.ChangeShapes Go.WideShapes Go.ChangeAt Go.RowKit

/-- A number. -/
def isI : Value → Bool
  | .int _ _ => true
  | _ => false
/-- No number stands in a block. -/
def NoI (w : World) (k : Nat) : Prop := ∀ (o : Nat) (u : Value), w.cell? ⟨k, o, none⟩ = some u → isI u = false
theorem noI_iff {w : World} {k : Nat} {cur : Array Value} {e : TypeId} (hg : w.heap[k]? = some (.cells cur e (0, 0))) : NoI w k ↔ ∀ u ∈ cur.toList, isI u = false := by
  have hc : ∀ o, w.cell? ⟨k, o, none⟩ = cur[o]? := fun o => by simp [World.cell?, hg]
  constructor
  · intro h u hu
    obtain ⟨i, hi, rfl⟩ := List.getElem_of_mem hu
    exact h i _ ((hc i).trans (by rw [← Array.getElem?_toList, List.getElem?_eq_getElem hi]))
  · intro h o u hu
    rw [hc o, ← Array.getElem?_toList] at hu
    exact h u (List.mem_of_getElem? hu)
/-- An owned row in whose block no number stands. -/
def OwnNI (w : World) (base : Nat) (e : TypeId) (size : Nat) (v : Value) (n : Nat) (xs : List Value) : Prop := w.ownsRow base e size v n xs ∧ ∀ k, v.ownBlock = some k → NoI w k
theorem OwnNI.nil (w : World) (base : Nat) (e : TypeId) (size : Nat) : OwnNI w base e size (.slice none 0 0) 0 [] := ⟨w.ownsRow_nil base e size, fun k h => by cases h⟩
theorem OwnNI.past {w w' : World} {base : Nat} {e : TypeId} {size : Nat} {v : Value} {n : Nat} {xs : List Value} (h : OwnNI w base e size v n xs) (hb : Below w.heap.size w w') : OwnNI w' base e size v n xs :=
  ⟨own_below h.1 hb, fun k hk o u hu => h.2 k hk o u (((hb.cell (p := ⟨k, o, none⟩) (own_lt h.1 hk)).symm).trans hu)⟩
/-- What reads as a function's runs lies elsewhere. -/
theorem SliS.apart {w w' : World} {v vo : Value} {l : List Sg} (h : SliS w v l) (hn : ∀ k, vo.ownBlock = some k → NoI w k) (hg : w.grownBy w' vo.ownBlock) : SliS w' v l := by
  obtain ⟨a, cap, e, h1, h2, h3⟩ := h
  refine ⟨a, cap, e, h1, h2, fun hl => ?_⟩
  obtain ⟨b, off, e2, hb, hc⟩ := h3 hl
  have hne : some b ≠ vo.ownBlock := fun e3 => by
    have := hn b e3.symm _ _ (hc 0 hl).1
    simp [isI] at this
  have hk : w'.heap[b]? = w.heap[b]? := hg.block b hb hne
  have hcell : ∀ o, w'.cell? ⟨b, o, none⟩ = w.cell? ⟨b, o, none⟩ := fun o => World.cell?_of_block (a := ⟨b, o, none⟩) hk
  refine ⟨b, off, e2, Nat.lt_of_lt_of_le hb hg.size, fun i hi => ?_⟩
  obtain ⟨c1, c2, c3⟩ := hc i hi
  exact ⟨(hcell _).trans c1, (hcell _).trans c2, (hcell _).trans c3⟩
theorem zero_mem {z : Array Value} {n : Nat} {u : Value} (h : u ∈ (Builtin.zeroCells z n).toList) : u ∈ z.toList := by
  unfold Builtin.zeroCells at h
  rw [Array.toList_map, List.mem_map] at h
  obtain ⟨i, hi, rfl⟩ := h
  have hz : 0 < z.size := by
    apply Nat.pos_of_ne_zero
    intro h0
    simp [h0] at hi
  have hlt : i % z.size < z.size := Nat.mod_lt _ hz
  rw [getElem!_pos z _ hlt]
  simp
section
variable {P : Program} (w : World)
theorem run_append_ni (base : Nat) (t ty e : TypeId) (i : TypeInfo) (z : Value) (size bytes : Nat) (ht : P.underlying t = some (.slice e)) (hi : P.info? e = some i) (hz : i.zero = some z)
    (hsize : i.size = size) (hby : i.bytes = bytes) (hzs : z.cells.size = size) (hsz : 0 < size)
    (v : Value) (n : Nat) (xs : List Value) (hown : OwnNI w base e size v n xs)
    (a : Addr) (m c : Nat) (news : List Value) (hl : news.length = m * size) (hnews : ∀ j u, news[j]? = some u → w.cell? (a.add j) = some u) (h1 : ∀ u ∈ news, u.oneCell' = true)
    (h63 : n + m ≤ maxLen) (hbytes : (n + m) * bytes ≤ 140737488355328) (hbase : base ≤ w.heap.size) (hzn : ∀ u ∈ z.cells.toList, isI u = false) (hnn : ∀ u ∈ news, isI u = false) :
    ∃ v' w', (Builtin.append_ #[t, t] ty #[v, .slice (some a) m c]).run P w = .ok v' w' ∧ OwnNI w' base e size v' (n + m) (xs ++ news) ∧ w.grownBy w' v.ownBlock := by
  subst hsize
  subst hby
  obtain ⟨hown, hno⟩ := hown
  have hsmall : n + m ≤ 9223372036854775807 := by simp only [maxLen] at h63; omega
  have hlen : (xs ++ news).length = (n + m) * i.size := by rw [List.length_append, hown.1, hl, Nat.add_mul]
  have grown : ∀ (old : Nat), old < n + m → ∀ (row : Option Nat), (∀ u ∈ xs, isI u = false) →
      OwnNI (w.drew.alloc (.cells (xs.toArray ++ news.toArray ++ Builtin.zeroCells z.cells (grownCap w (n + m) old e - (n + m))) e)) base e i.size
        (.slice (some ⟨w.heap.size, 0, none⟩) (n + m) (grownCap w (n + m) old e)) (n + m) (xs ++ news) ∧
      w.grownBy (w.drew.alloc (.cells (xs.toArray ++ news.toArray ++ Builtin.zeroCells z.cells (grownCap w (n + m) old e - (n + m))) e)) row := by
    intro old ho row hxn
    have hge := grownCap_ge w (n + m) old e
    have hcm : grownCap w (n + m) old e ≤ maxLen := grownCap_le_maxLen w (n + m) old e h63
    refine ⟨⟨⟨hlen, .inr ⟨w.heap.size, _, _, rfl, hbase, heap_alloc_new w.drew _, hge, hcm, ?_, ?_⟩⟩, ?_⟩, ⟨rfl, rfl, rfl, by simp, fun k hk _ => Below.heap_alloc w.drew _ k hk⟩⟩
    · simp only [Array.size_append, List.size_toArray, size_zeroCells, hzs, hown.1, hl, ← Nat.add_mul]
      congr 1
      omega
    · simp only [Array.toList_append, List.append_assoc]
      rw [← List.append_assoc, ← hlen]
      exact List.take_left
    · intro k hk
      simp [Value.ownBlock] at hk
      subst hk
      refine (noI_iff (heap_alloc_new w.drew _)).2 fun u hu => ?_
      simp only [Array.toList_append, List.mem_append] at hu
      rcases hu with (hu | hu) | hu
      · exact hxn u hu
      · exact hnn u hu
      · exact hzn u (zero_mem hu)
  rcases hown.2 with ⟨rfl, rfl⟩ | ⟨g, cap, cur, rfl, hbg, hg, hnc, hcm, hcs, htake⟩
  · have hx : xs = [] := List.eq_nil_of_length_eq_zero (by simpa using hown.1)
    subst hx
    by_cases hm : m = 0
    · subst hm
      have hn : news = [] := List.eq_nil_of_length_eq_zero (by simpa using hl)
      subst hn
      refine ⟨.slice none 0 0, w, ?_, OwnNI.nil w base e i.size, ⟨rfl, rfl, rfl, Nat.le_refl _, fun _ _ _ => rfl⟩⟩
      simp [Builtin.append_, run_underlying ht, sizeOf, typeInfo, hi, Builtin.lenOf, Builtin.firstCells, loadCells, loadCellsFrom]
    · have hr := run_append_nil (P := P) w t ty e i z ht hi hz a m c news hl hnews (by omega) (by omega) (by have hb := hbytes; simp only [Nat.zero_add] at hb; omega)
      have hgr := grown 0 (by omega) (Value.ownBlock (.slice none 0 0)) (fun u hu => by simp at hu)
      simp only [Nat.zero_add, List.nil_append, Array.empty_append] at hgr ⊢
      exact ⟨_, _, hr, hgr.1, hgr.2⟩
  · have hcur := (noI_iff hg).1 (hno g rfl)
    have hxn : ∀ u ∈ xs, isI u = false := fun u hu => hcur u (by rw [← htake] at hu; exact List.mem_of_mem_take hu)
    by_cases hroom : n + m ≤ cap
    · have hfit : n * i.size + news.length ≤ cur.size := by rw [hl, hcs, ← Nat.add_mul]; exact Nat.mul_le_mul_right _ hroom
      have hr := run_append_room (P := P) w t ty e i ht hi g n cap cur hg a m c news hl hnews h1 hroom hfit
      refine ⟨_, _, hr, ⟨⟨hlen, .inr ⟨g, cap, _, rfl, hbg, setRow_heap w g cur _ e _ hg, hroom, hcm, ?_, ?_⟩⟩, ?_⟩, ⟨rfl, rfl, rfl, by simp, fun k hk hk2 => setRow_other w g k _ (fun e => hk2 (by simp [Value.ownBlock, e]))⟩⟩
      · simp only [List.size_toArray, List.length_append, List.length_take, List.length_drop, Array.length_toList]
        omega
      · rw [htake, ← hlen]
        exact List.take_left
      · intro k hk
        simp [Value.ownBlock] at hk
        subst hk
        refine (noI_iff (setRow_heap w g cur _ e _ hg)).2 fun u hu => ?_
        simp only [List.mem_append] at hu
        rcases hu with (hu | hu) | hu
        · exact hcur u (List.mem_of_mem_take hu)
        · exact hnn u hu
        · exact hcur u (List.mem_of_mem_drop hu)
    · have holds : ∀ j u, xs[j]? = some u → w.cell? ((⟨g, 0, none⟩ : Addr).add j) = some u := hown.cells (g := g) rfl
      have hr := run_append_grow (P := P) w t ty e i z ht hi hz ⟨g, 0, none⟩ n cap xs hown.1 holds a m c news hl hnews (by omega) (by omega) (growslice_fits (by omega) hbytes)
      have hgr := grown cap (by omega) (Value.ownBlock (.slice (some ⟨g, 0, none⟩) n cap)) hxn
      exact ⟨_, _, hr, hgr.1, hgr.2⟩
/-- At the operation. -/
theorem list_app_ni {ops : Array Oper} {rest : List Oper} {o : Oper} {a : Act} {Q : Exit → Act → World → Prop} (hgd : o.guard = none) (s x : Operand) (t : TypeId)
    (ho : o.op = .call { callee := .builtin .append, args := #[s, x], argTypes := #[t, t] })
    (base : Nat) (e : TypeId) (i : TypeInfo) (z : Value) (size bytes : Nat) (ht : P.underlying t = some (.slice e)) (hi : P.info? e = some i) (hz : i.zero = some z)
    (hsize : i.size = size) (hby : i.bytes = bytes) (hzs : z.cells.size = size) (hsz : 0 < size)
    (v : Value) (n : Nat) (xs : List Value) (hs : a.eval s = v) (hown : OwnNI w base e size v n xs)
    (ad : Addr) (m c : Nat) (news : List Value) (hx : a.eval x = .slice (some ad) m c) (hl : news.length = m * size) (hnews : ∀ j u, news[j]? = some u → w.cell? (ad.add j) = some u) (h1 : ∀ u ∈ news, u.oneCell' = true)
    (h63 : n + m ≤ maxLen) (hbytes : (n + m) * bytes ≤ 140737488355328) (hbase : base ≤ w.heap.size) (hzn : ∀ u ∈ z.cells.toList, isI u = false) (hnn : ∀ u ∈ news, isI u = false)
    (h : ∀ v' w', OwnNI w' base e size v' (n + m) (xs ++ news) → w.grownBy w' v.ownBlock → wpList P ops Q rest (a.put o.dst v') w') : wpList P ops Q (o :: rest) a w := by
  refine wpList_plain hgd fun K hK => ?_
  obtain ⟨v', w', hr, h2, h3⟩ := run_append_ni (P := P) w base t o.type e i z size bytes ht hi hz hsize hby hzs hsz v n xs hown ad m c news hl hnews h1 h63 hbytes hbase hzn hnn
  unfold Oper.wp execOp
  simp only [ho, resolve, invoke, builtin, Sem.run_bind, Sem.run_pure, Result.andThen_ok, List.map_toArray, List.map_cons, List.map_nil, hs, hx, hr]
  exact hK _ _ (h v' w' h2 h3)
end
end Go.Proofs.Ytjhhcljbmnomlaa
