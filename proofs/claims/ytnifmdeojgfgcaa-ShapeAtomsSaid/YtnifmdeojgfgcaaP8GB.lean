/- The contracts of the document's own answers of layer 8: Depth, Atoms, Same. No conditions but sizes, and that the slices' cells read as parts, as places. How parts that may be hang together: ends, children, depths. No program. No conditions. Children, their depths, and that each part but the first is the child of just one. No program. No conditions. Check, wrong and end over the landed code. No conditions but the machine's bounds. end over the landed code, of parts that may be. No conditions but sizes. A range over a function: an iterator that keeps state of its own in cells, and the law for its caller. The caller's own variables lie below where the loop begins; the iterator's own, and the loop's book-keeping, at or beyond. Program-free. No conditions. A range over a function whose body keeps a block of its own, made in an earlier round (a slice that it appends to), and may leave the loop: an iterator's contract with that block named, and with what the iterator reads of the caller's, and the law for its caller. Program-free. No conditions. A range over a function that reads what the caller has (K), whose body may leave the loop in any way. Program-free. No conditions. The iterator that children hands back: it hands on the children's places, one after the other. No conditions but sizes, and that the parts may be. End and Atoms over the landed code. No conditions but sizes, and that the slices' cells read as parts. The contract of package shape's Kids. No conditions but sizes, and that the slice's cells read as parts. The contract of package shape's toward, and of Depth. No conditions but sizes, and that the slice's cells read as parts. The contracts of package shape: Check, Kids, End, Depth, Atoms. No conditions but sizes. The document's own definition of layer 8, walked: the statements' own head and plan. No conditions. -/
import Derived.Test.YtnifmdeojgfgcaaP8GA
import Derived.Test.YtnifmdeojgfgcaaP8MA
import Derived.RangeFuncRecord
import Derived.RangeFuncSeq
import Derived.Shelf.Abstract
import Derived.RangeFuncCalls
import Derived.OwnWalkIn
namespace Go.Proofs.Ytnifmdeojgfgcaa
open Go.ChangeShapes Go.WideShapes Go.ChangeAt Go.RowKit
attribute [local irreducible] Go.Calls

/-- Parts that hold a place, up to one of them. -/
def depN (l : List Prt) (p k : Nat) : Nat := ((List.range k).filter fun i => decide (p < endS l i)).length
theorem depN_succ (l : List Prt) (p k : Nat) : depN l p (k + 1) = depN l p k + (if p < endS l k then 1 else 0) := by
  unfold depN
  rw [List.range_succ, List.filter_append, List.length_append]
  by_cases h : p < endS l k
  · simp [h]
  · simp [h]
theorem depN_le (l : List Prt) (p k : Nat) : depN l p k ≤ k := by
  unfold depN
  exact Nat.le_trans (List.length_filter_le _ _) (by simp)
set_option maxHeartbeats 1000000 in
theorem rdepth_c (l : List Prt) (p : Nat) (a : Option Addr) (cap : Nat) (w : World) (hl : l.length ≤ 1000000000) (hp : p < l.length) (hA : ArgP w a l) :
    Calls Try.prog 19 #[.slice a l.length cap, .int .i64 p] w fun e w' => e = .returned (.int .i64 (depthS l p)) ∧ Below w.heap.size w w' := by
  have HA := hidE hA
  have HE := hidE (fun q w' hq hb => rend_c l q a cap w' hl hq (HA.out.past hb))
  clear hA
  go_enter Try.func19, Try.ntmps19
  go_wp2
  go_loopg [5, 6] (p + 1) (fun gh v5 v6 wr => ∃ k : Nat, k ≤ p + 1 ∧ p + 1 - k ≤ gh ∧ v6 = .int .i64 k ∧ v5 = .int .i64 (depN l p k) ∧ Below w.heap.size w wr)
  case atStart => exact ⟨0, Nat.zero_le _, Nat.le_refl _, rfl, rfl, Below.refl _ _⟩
  case round =>
    obtain ⟨k, hkk, hgh, rfl, rfl, hb⟩ := hrel
    have HB := hidE hb; have HG := hidE hgh
    clear hb hgh
    have hdl := depN_le l p k
    by_cases hlt : k ≤ p
    · have r1 : decide ((k : Int) ≤ (p : Int)) = true := decide_eq_true (by omega)
      have r2 : decide (k ≤ p) = true := decide_eq_true hlt
      have HD := hidE (depN_succ l p k)
      have HC := hidE (fun w' hb => HE.out k w' (by omega) hb)
      generalize depN l p k = n at *
      by_cases hpe : p < endS l k
      · rw [if_pos hpe] at HD
        have s1 : decide ((p : Int) < (endS l k : Int)) = true := decide_eq_true (by omega)
        have s2 : decide (p < endS l k) = true := decide_eq_true hpe
        generalize endS l k = q at *
        go_wp2_with (go_at_call 18; (with_reducible refine (HC.out _ HB.out).mono ?_); rintro e w2 ⟨rfl, hb2⟩)
        go_roundg (p + 1 - (k + 1))
        case measure => have := HG.out; omega
        case rel => exact ⟨k + 1, by omega, Nat.le_refl _, by go_num, by rw [HD.out]; go_num, HB.out.trans (hb2.mono HB.out.size)⟩
      · rw [if_neg hpe, Nat.add_zero] at HD
        have s1 : decide ((p : Int) < (endS l k : Int)) = false := decide_eq_false (by omega)
        have s2 : decide (p < endS l k) = false := decide_eq_false hpe
        generalize endS l k = q at *
        go_wp2_with (go_at_call 18; (with_reducible refine (HC.out _ HB.out).mono ?_); rintro e w2 ⟨rfl, hb2⟩)
        go_roundg (p + 1 - (k + 1))
        case measure => have := HG.out; omega
        case rel => exact ⟨k + 1, by omega, Nat.le_refl _, by go_num, by rw [HD.out]; rfl, HB.out.trans (hb2.mono HB.out.size)⟩
    · have r1 : decide ((k : Int) ≤ (p : Int)) = false := decide_eq_false (by omega)
      have r2 : decide (k ≤ p) = false := decide_eq_false hlt
      obtain rfl : k = p + 1 := by omega
      go_wp2
      go_ret
      exact ⟨rfl, HB.out⟩
/-- The atoms ahead of a place. -/
def atmN (l : List Prt) (k : Nat) : List Nat := (List.range k).filter fun i => decide ((l.getD i ⟨0, 0, 0, 0, 0⟩).kind = 0)
theorem atmN_succ (l : List Prt) (k : Nat) : atmN l (k + 1) = atmN l k ++ (if (l.getD k ⟨0, 0, 0, 0, 0⟩).kind = 0 then [k] else []) := by
  unfold atmN
  rw [List.range_succ, List.filter_append]
  by_cases h : (l.getD k ⟨0, 0, 0, 0, 0⟩).kind = 0
  · simp only [h, if_true, List.filter_cons, decide_true, List.filter_nil]
  · simp only [h, if_false, List.filter_cons, decide_false, List.filter_nil, Bool.false_eq_true]
theorem atmN_len (l : List Prt) (k : Nat) : (atmN l k).length ≤ k := by
  unfold atmN
  exact Nat.le_trans (List.length_filter_le _ _) (by simp)
set_option maxHeartbeats 1000000 in
theorem ratoms_c (l : List Prt) (a : Option Addr) (cap : Nat) (w : World) (hl : l.length ≤ 1000000000) (hA : ArgP w a l) :
    Calls Try.prog 12 #[.slice a l.length cap] w fun e w' => ∃ v, e = .returned v ∧ SliN w' v (atomsS8 l) ∧ Below w.heap.size w w' := by
  have HA := hidE hA
  clear hA
  obtain ⟨ix, hix, hz0, hzz, hz4⟩ := info_parts Try.infoIntL
  have HI := hidE hix; have HZ0 := hidE hz0; have HZ1 := hidE hzz; have HZ2 := hidE hz4
  clear hix hz0 hzz hz4
  go_enter Try.func12, Try.ntmps12
  go_wp2
  go_loopg [3, 4] l.length (fun gh v3 v4 wr => ∃ k : Nat, k ≤ l.length ∧ l.length - k ≤ gh ∧ v4 = .int .i64 k ∧ wr.ownsRow w.heap.size 3 1 v3 (atmN l k).length (cellsK .i64 (natsI (atmN l k))) ∧ Below w.heap.size w wr)
  case atStart => exact ⟨0, Nat.zero_le _, Nat.le_refl _, rfl, show w.ownsRow w.heap.size 3 1 _ 0 [] from own_nil _ _ _, Below.refl _ _⟩
  case round =>
    obtain ⟨k, hkk, hgh, rfl, hown, hb⟩ := hrel
    obtain ⟨av, cp, rfl⟩ := own_sli hown
    have HB := hidE hb; have HO := hidE hown; have HG := hidE hgh
    have hws := hb.size
    clear hown hb hgh
    have hal := atmN_len l k
    by_cases hlt : k < l.length
    · obtain ⟨b, off, rfl, hbb, hc⟩ := (HA.out.past HB.out) (by omega)
      obtain ⟨c0, _, _, _, _⟩ := hc.get hlt
      rw [show l.getD k pr0 = l.getD k ⟨0, 0, 0, 0, 0⟩ from rfl] at c0
      have r1 : decide ((k : Int) < (l.length : Int)) = true := decide_eq_true (by omega)
      have r2 : decide (k < l.length) = true := decide_eq_true hlt
      have HSN := hidE (atmN_succ l k)
      clear hc
      by_cases hk0 : (l.getD k ⟨0, 0, 0, 0, 0⟩).kind = 0
      · rw [if_pos hk0] at HSN
        have s1 : (((l.getD k ⟨0, 0, 0, 0, 0⟩).kind : Int) == 0) = true := by rw [hk0]; rfl
        clear hk0
        generalize (l.getD k ⟨0, 0, 0, 0, 0⟩).kind = kd at *
        generalize atmN l k = A0 at *
        go_wp2_with (first | (at_builtin; refine wpList_append_own _ rfl (.tmp 17) (.tmp 19) 32 rfl w.heap.size 3 ix (.int .i64 0) 1 8 Try.underlying32 HI.out HZ0.out HZ1.out HZ2.out rfl (by decide) _ _ _ rfl (own_below HO.out ((Below.refl _ _).alloc (Nat.le_refl _) _)) ⟨_, 0, none⟩ 1 1 [.int .i64 k] rfl rfl (new_cellsB _ #[.int .i64 k] 3) (by intro y hy; simp at hy; rcases hy with rfl; rfl) (by unfold maxLen; omega) (by omega) (by simp; omega) ?_; intro v4 w4 hown4 hgrow4 hnil4; obtain ⟨a4, c4', rfl⟩ := own_sli hown4; have HG4 := hidE hgrow4; have HO4 := hidE hown4; clear hgrow4 hown4 hnil4 c0) | fail)
        go_roundg (l.length - (k + 1))
        case measure => have := HG.out; omega
        case rel =>
          refine ⟨k + 1, by omega, Nat.le_refl _, by go_num, ?_, HB.out.trans (Below.grown ((Below.refl _ wr).alloc (by omega) _) HG4.out (by simp; omega) (fun k e => own_block HO.out (show (Value.slice av _ cp).ownBlock = some k from e)))⟩
          rw [HSN.out, List.length_append, natsI_app, cellsK_app]
          exact HO4.out
      · rw [if_neg hk0, List.append_nil] at HSN
        have s1 : (((l.getD k ⟨0, 0, 0, 0, 0⟩).kind : Int) == 0) = false := beq_eq_false_iff_ne.2 (by omega)
        clear hk0
        generalize (l.getD k ⟨0, 0, 0, 0, 0⟩).kind = kd at *
        generalize atmN l k = A0 at *
        go_wp2
        go_roundg (l.length - (k + 1))
        case measure => have := HG.out; omega
        case rel => exact ⟨k + 1, by omega, Nat.le_refl _, by go_num, by rw [HSN.out]; exact HO.out, HB.out⟩
    · have r1 : decide ((k : Int) < (l.length : Int)) = false := decide_eq_false (by omega)
      have r2 : decide (k < l.length) = false := decide_eq_false hlt
      obtain rfl : k = l.length := by omega
      go_wp2
      go_ret
      exact ⟨_, rfl, sliN_own HO.out, HB.out⟩
theorem natsI_get {l : List Nat} {i : Nat} (h : i < l.length) : (natsI l).getD i 0 = ((l.getD i 0 : Nat) : Int) := by
  unfold natsI
  rw [List.getD_eq_getElem?_getD, List.getElem?_map, List.getElem?_eq_getElem h, List.getD_eq_getElem?_getD, List.getElem?_eq_getElem h]
  rfl
/-- Are two lists of places the same? -/
def sameN (l r : List Nat) : Bool := decide (l = r)
theorem sameN_ext {l r : List Nat} (h : l.length = r.length) (h2 : ∀ i, i < l.length → l.getD i 0 = r.getD i 0) : sameN l r = true := by
  refine decide_eq_true (List.ext_getElem h fun i h3 h4 => ?_)
  have := h2 i h3
  rwa [List.getD_eq_getElem?_getD, List.getElem?_eq_getElem h3, List.getD_eq_getElem?_getD, List.getElem?_eq_getElem h4] at this
set_option maxHeartbeats 1000000 in
theorem rsame8_c (l r : List Nat) (a a2 : Option Addr) (cap cap2 : Nat) (w : World) (hl : l.length ≤ 1000000000) (_hr : r.length ≤ 1000000000) (hA : ArgK .i64 w a (natsI l)) (hA2 : ArgK .i64 w a2 (natsI r)) :
    Calls Try.prog 10 #[.slice a l.length cap, .slice a2 r.length cap2] w fun e w' => e = .returned (.bool (sameN l r)) ∧ Below w.heap.size w w' := by
  by_cases hlen : l.length = r.length
  · have q1 : ((l.length : Int) != (r.length : Int)) = false := by rw [bne_eq_false_iff_eq]; omega
    have HL := hidE hlen
    have HA := hidE hA; have HA2 := hidE hA2
    clear hA hA2
    go_enter Try.func10, Try.ntmps10
    go_wp2
    go_loopg [5] l.length (fun gh v5 wr => ∃ k : Nat, k ≤ l.length ∧ l.length - k ≤ gh ∧ v5 = .int .i64 k ∧ (∀ i, i < k → l.getD i 0 = r.getD i 0) ∧ Below w.heap.size w wr)
    case atStart => exact ⟨0, Nat.zero_le _, Nat.le_refl _, rfl, fun i h => by omega, Below.refl _ _⟩
    case round =>
      obtain ⟨k, hkk, hgh, rfl, hall, hb⟩ := hrel
      have HB := hidE hb; have HG := hidE hgh; have HALL := hidE hall
      clear hb hgh hall
      by_cases hlt : k < l.length
      · obtain ⟨b, off, rfl, hbb, hc⟩ := (HA.out.past HB.out) (by rw [natsI_len]; omega)
        obtain ⟨b2, off2, rfl, hbb2, hc2⟩ := (HA2.out.past HB.out) (by rw [natsI_len]; omega)
        have c0 := hc k (by rw [natsI_len]; exact hlt)
        have c1 := hc2 k (by rw [natsI_len]; omega)
        rw [natsI_get hlt] at c0
        rw [natsI_get (by omega)] at c1
        have r1 : decide ((k : Int) < (l.length : Int)) = true := decide_eq_true (by omega)
        have r2 : decide (k < l.length) = true := decide_eq_true hlt
        have r3 : (k : Int) < (r.length : Int) := by omega
        have r4 : k < r.length := by omega
        clear hc hc2
        by_cases he : l.getD k 0 = r.getD k 0
        · have HNX := hidE (show ∀ i, i < k + 1 → l.getD i 0 = r.getD i 0 from fun i hi => by
            by_cases c : i = k
            · rw [c]; exact he
            · exact HALL.out i (by omega))
          have s1 : (((l.getD k 0 : Nat) : Int) != ((r.getD k 0 : Nat) : Int)) = false := by rw [bne_eq_false_iff_eq, he]
          clear he
          generalize l.getD k 0 = x at *
          generalize r.getD k 0 = y at *
          go_wp2
          go_quiet (fail)
          go_wp2
          go_roundg (l.length - (k + 1))
          case measure => have := HG.out; omega
          case rel => exact ⟨k + 1, by omega, Nat.le_refl _, by go_num, HNX.out, by have := HB.out; (repeat (first | exact Below.refl _ _ | assumption | refine balloc ?_ _ | refine below_drewN ?_ _ | refine bstep (by assumption) ?_ | refine bstep (Past.prop _) ?_ | refine Below.setCell ?_ (by first | exact Nat.le_refl _ | (simp; done) | (simp; omega)) _))⟩
        · have s1 : (((l.getD k 0 : Nat) : Int) != ((r.getD k 0 : Nat) : Int)) = true := by rw [bne_iff_ne]; omega
          have HN := hidE (show sameN l r = false from decide_eq_false fun e => he (by rw [e]))
          clear he
          generalize l.getD k 0 = x at *
          generalize r.getD k 0 = y at *
          go_wp2
          go_quiet (fail)
          go_wp2
          go_ret
          exact ⟨by rw [HN.out]; rfl, by have := HB.out; (repeat (first | exact Below.refl _ _ | assumption | refine balloc ?_ _ | refine below_drewN ?_ _ | refine bstep (by assumption) ?_ | refine bstep (Past.prop _) ?_ | refine Below.setCell ?_ (by first | exact Nat.le_refl _ | (simp; done) | (simp; omega)) _))⟩
      · have r1 : decide ((k : Int) < (l.length : Int)) = false := decide_eq_false (by omega)
        have r2 : decide (k < l.length) = false := decide_eq_false hlt
        obtain rfl : k = l.length := by omega
        have HY := hidE (sameN_ext HL.out HALL.out)
        go_wp2
        go_ret
        exact ⟨by rw [HY.out]; rfl, HB.out⟩
  · have q1 : ((l.length : Int) != (r.length : Int)) = true := by rw [bne_iff_ne]; omega
    have HN := hidE (show sameN l r = false from decide_eq_false fun e => hlen (by rw [e]))
    rw [HN.out]
    clear HN hlen hA hA2
    go_enter Try.func10, Try.ntmps10
    go_wp2
    go_ret
    exact ⟨rfl, Below.refl _ _⟩
end Go.Proofs.Ytnifmdeojgfgcaa

namespace Go.Proofs.Ytnifmdeojgfgcaa

abbrev prN (l : List Prt) (i : Nat) : Prt := l.getD i ⟨0, 0, 0, 0, 0⟩
theorem stop_le {l : List Prt} {p deep deep' ink ink' : Nat} (h : stopS l p deep ink = none) (hd : deep' ≤ deep) (hi : ink' = 2 → ink = 2) : stopS l p deep' ink' = none := by
  obtain ⟨h1, h2, h3, h4, h5⟩ := stop_none h
  rw [stop_deep h1 (by
    rintro (c | c | ⟨c, c2⟩)
    · omega
    · rw [h3] at c; cases c
    · exact c2 (h4 (hi c)))]
  exact if_neg (by omega)
theorem rd_mono : ∀ (m : Nat) (l : List Prt) (p deep deep' ink ink' n e : Nat), rdS m l p deep ink n = .ok e → deep' ≤ deep → (ink' = 2 → ink = 2) → rdS m l p deep' ink' n = .ok e
  | m, l, p, deep, deep', ink, ink', 0, e, h, _, _ => by rw [rd_zero] at h ⊢; exact h
  | 0, l, p, deep, deep', ink, ink', n + 1, e, h, _, _ => by cases h
  | m + 1, l, p, deep, deep', ink, ink', n + 1, e, h, hd, hi => by
    rw [rd_cons] at h ⊢
    cases hst : stopS l p deep ink with
    | some x => rw [hst] at h; cases h
    | none =>
      rw [hst] at h
      rw [stop_le hst hd hi]
      simp only at h ⊢
      cases hk : rdS m l (p + 1) (deep + 1) (prN l p).kind (prN l p).kids.toNat with
      | error x => rw [hk] at h; cases h
      | ok q =>
        rw [hk] at h
        rw [rd_mono m l _ _ (deep' + 1) _ _ _ _ hk (by omega) id]
        exact rd_mono m l _ _ _ _ _ _ _ h hd hi
theorem end_of {m : Nat} {l : List Prt} {p deep ink e : Nat} (h : rdS m l p deep ink 1 = .ok e) (hd : 1 ≤ deep) : endS l p = e := by
  have h1 := rd_ext m (l.length + 1) l l p deep ink 1 e h (fun _ _ => rfl) (by omega) (by omega)
  unfold endS
  rw [rd_mono _ _ _ _ 1 _ 0 _ _ h1 hd (fun c => by cases c)]
  rfl
theorem kidAt_next (l : List Prt) (p : Nat) : ∀ k, kidAt l p (k + 1) = kidAt l (endS l p) k
  | 0 => rfl
  | k + 1 => by
    rw [kidAt, kidAt_next l p k]
    rfl
/-- The children's ends make a chain up to the end. -/
theorem chain_of : ∀ (n m : Nat) (l : List Prt) (p deep ink e : Nat), rdS m l p deep ink n = .ok e → 1 ≤ deep → kidAt l p n = e ∧ ∀ k, k < n → kidAt l p k < e
  | 0, m, l, p, deep, ink, e, h, _ => by rw [rd_zero] at h; cases h; exact ⟨rfl, fun k hk => by omega⟩
  | n + 1, m, l, p, deep, ink, e, h, hd => by
    have h' := rd_ext m (l.length + 1) l l p deep ink (n + 1) e h (fun _ _ => rfl) (by omega) (by omega)
    rw [rd_one (by omega) (by omega)] at h'
    cases h1 : rdS (l.length + 1) l p deep ink 1 with
    | error x => rw [h1] at h'; cases h'
    | ok q =>
      rw [h1] at h'
      simp only at h'
      have hq := end_of h1 hd
      have g1 := rd_gt _ _ _ _ _ _ _ h1
      have g2 := rd_gt _ _ _ _ _ _ _ h'
      obtain ⟨c1, c2⟩ := chain_of n _ l q deep ink e h' hd
      refine ⟨by rw [kidAt_next, hq]; exact c1, fun k hk => ?_⟩
      cases k with
      | zero => show p < e; omega
      | succ k => rw [kidAt_next, hq]; exact c2 k (by omega)
/-- So many parts from one place on, ahead of another one, hold it. -/
def ancS (l : List Prt) (i : Nat) : Nat → Nat → Nat
  | _, 0 => 0
  | p, n + 1 => (if i < endS l p then 1 else 0) + ancS l i (p + 1) n
theorem anc_none (l : List Prt) (i : Nat) : ∀ (n p : Nat), (∀ a, p ≤ a → a < p + n → endS l a ≤ i) → ancS l i p n = 0
  | 0, p, _ => rfl
  | n + 1, p, h => by
    rw [ancS, if_neg (by have := h p (Nat.le_refl _) (by omega); omega), anc_none l i n (p + 1) (fun a h1 h2 => h a (by omega) (by omega))]
theorem anc_add (l : List Prt) (i : Nat) : ∀ (n m p : Nat), ancS l i p (n + m) = ancS l i p n + ancS l i (p + n) m
  | 0, m, p => by simp [ancS]
  | n + 1, m, p => by
    rw [show n + 1 + m = (n + m) + 1 by omega, ancS, ancS, anc_add l i n m (p + 1), show p + 1 + n = p + (n + 1) by omega]
    omega
/-- How parts that are read hang together. -/
theorem rd_hang : ∀ (m : Nat) (l : List Prt) (p deep ink n e : Nat), rdS m l p deep ink n = .ok e → 1 ≤ deep → ∀ i, p ≤ i → i < e →
    i < endS l i ∧ endS l i ≤ e ∧ (∀ a, i ≤ a → a < endS l i → endS l a ≤ endS l i) ∧ kidAt l (i + 1) (prN l i).kids.toNat = endS l i ∧ (∀ k, k < (prN l i).kids.toNat → kidAt l (i + 1) k < endS l i) ∧ deep + ancS l i p (i - p) ≤ 8
  | m, l, p, deep, ink, 0, e, h, _, i, h1, h2 => by rw [rd_zero] at h; cases h; omega
  | 0, l, p, deep, ink, n + 1, e, h, _, i, h1, h2 => by cases h
  | m + 1, l, p, deep, ink, n + 1, e, h, hd, i, h1, h2 => by
    rw [rd_cons] at h
    cases hst : stopS l p deep ink with
    | some x => rw [hst] at h; cases h
    | none =>
      rw [hst] at h
      simp only at h
      cases hk : rdS m l (p + 1) (deep + 1) (prN l p).kind (prN l p).kids.toNat with
      | error x => rw [hk] at h; cases h
      | ok q =>
        rw [hk] at h
        simp only at h
        have gk := rd_gt _ _ _ _ _ _ _ hk
        have gn := rd_gt _ _ _ _ _ _ _ h
        have hEp : endS l p = q := end_of (m := m + 1) (deep := deep) (ink := ink) (by rw [rd_cons, hst]; simp only [hk, rd_zero]) hd
        have IHk := rd_hang m l _ _ _ _ _ hk (by omega)
        have IHn := rd_hang m l _ _ _ _ _ h hd
        by_cases c : i = p
        · subst c
          obtain ⟨c1, c2⟩ := chain_of _ _ _ _ _ _ _ hk (by omega)
          refine ⟨by omega, by omega, fun a ha1 ha2 => ?_, by rw [hEp]; exact c1, fun k hk2 => by rw [hEp]; exact c2 k hk2, ?_⟩
          · by_cases ca : a = i
            · rw [ca]; exact Nat.le_refl _
            · rw [hEp] at ha2 ⊢
              exact (IHk a (by omega) ha2).2.1
          · rw [Nat.sub_self]; exact (stop_none hst).2.2.2.2
        · by_cases c2 : i < q
          · obtain ⟨a1, a2, a3, a4, a5, a6⟩ := IHk i (by omega) c2
            refine ⟨a1, by omega, a3, a4, a5, ?_⟩
            rw [show i - p = (i - (p + 1)) + 1 by omega, ancS, if_pos (by omega)]
            omega
          · obtain ⟨a1, a2, a3, a4, a5, a6⟩ := IHn i (by omega) h2
            refine ⟨a1, a2, a3, a4, a5, ?_⟩
            rw [show i - p = (q - p) + (i - q) by omega, anc_add, show p + (q - p) = q by omega]
            have hz : ancS l i p (q - p) = 0 := anc_none l i _ _ (fun a ha1 ha2 => by
              by_cases ca : a = p
              · rw [ca, hEp]; omega
              · have := (IHk a (by omega) (by omega)).2.1; omega)
            omega
/-- What a definition that may be says of its parts. -/
structure Hang (l : List Prt) : Prop where
  up : ∀ i, i < l.length → i < endS l i ∧ endS l i ≤ l.length
  inn : ∀ i a, i < l.length → i ≤ a → a < endS l i → endS l a ≤ endS l i
  chain : ∀ i, i < l.length → kidAt l (i + 1) (prN l i).kids.toNat = endS l i
  kid : ∀ i k, i < l.length → k < (prN l i).kids.toNat → kidAt l (i + 1) k < endS l i
  deep : ∀ i, i < l.length → 1 + ancS l i 0 i ≤ 8
  all : endS l 0 = l.length
theorem tree_hang {l : List Prt} (h : (treeS l).2 = 0) : Hang l := by
  have hr := tree_fine h
  have hh := rd_hang _ _ _ _ _ _ _ hr (Nat.le_refl _)
  exact ⟨fun i hi => ⟨(hh i (Nat.zero_le _) hi).1, (hh i (Nat.zero_le _) hi).2.1⟩, fun i a hi => (hh i (Nat.zero_le _) hi).2.2.1 a, fun i hi => (hh i (Nat.zero_le _) hi).2.2.2.1, fun i k hi => (hh i (Nat.zero_le _) hi).2.2.2.2.1 k, fun i hi => by have := (hh i (Nat.zero_le _) hi).2.2.2.2.2; simpa using this, end_of hr (Nat.le_refl _)⟩
end Go.Proofs.Ytnifmdeojgfgcaa

namespace Go.Proofs.Ytnifmdeojgfgcaa

theorem depN_anc (l : List Prt) (p : Nat) : ∀ k, depN l p k = ancS l p 0 k
  | 0 => rfl
  | k + 1 => by rw [depN_succ, depN_anc l p k, anc_add l p k 1 0]; simp [ancS]
theorem depth_anc {l : List Prt} (h : Hang l) {p : Nat} (hp : p < l.length) : depthS l p = ancS l p 0 p + 1 := by
  have : depthS l p = depN l p (p + 1) := rfl
  rw [this, depN_anc, anc_add l p p 1 0]
  simp only [ancS, Nat.zero_add]
  rw [if_pos (h.up p hp).1]
theorem depth_le {l : List Prt} (h : Hang l) {p : Nat} (hp : p < l.length) : 1 ≤ depthS l p ∧ depthS l p ≤ 8 := by
  have := h.deep p hp
  rw [depth_anc h hp]; omega
theorem anc_congr (l : List Prt) (i j : Nat) : ∀ (n p : Nat), (∀ a, p ≤ a → a < p + n → (i < endS l a ↔ j < endS l a)) → ancS l i p n = ancS l j p n
  | 0, p, _ => rfl
  | n + 1, p, h => by
    rw [ancS, ancS, anc_congr l i j n (p + 1) (fun a h1 h2 => h a (by omega) (by omega))]
    have := h p (Nat.le_refl _) (by omega)
    by_cases c : i < endS l p
    · rw [if_pos c, if_pos (this.1 c)]
    · rw [if_neg c, if_neg (fun d => c (this.2 d))]
/-- A child: behind its part, within it, and in nothing between. -/
def IsKid (l : List Prt) (i c : Nat) : Prop := i < c ∧ c < endS l i ∧ ∀ a, i < a → a < c → endS l a ≤ c
theorem depth_kid {l : List Prt} (h : Hang l) {i c : Nat} (hi : i < l.length) (hk : IsKid l i c) : depthS l c = depthS l i + 1 := by
  have hc : c < l.length := Nat.lt_of_lt_of_le hk.2.1 (h.up i hi).2
  rw [depth_anc h hc, show depthS l i = depN l i (i + 1) from rfl, depN_anc, show ancS l c 0 c = ancS l c 0 ((i + 1) + (c - (i + 1))) by rw [show i + 1 + (c - (i + 1)) = c by have := hk.1; omega], anc_add]
  rw [anc_none l c (c - (i + 1)) (0 + (i + 1)) (fun a h1 h2 => hk.2.2 a (by omega) (by omega))]
  rw [anc_congr l c i (i + 1) 0 (fun a h1 h2 => ⟨fun h3 => by have := hk.1; omega, fun h3 => by
    have := h.inn a i (by omega) (by omega) h3
    have := hk.2.1; omega⟩)]
theorem kidAt_ge {l : List Prt} (h : Hang l) {i : Nat} (hi : i < l.length) : ∀ k, k ≤ (prN l i).kids.toNat → i + 1 + k ≤ kidAt l (i + 1) k
  | 0, _ => Nat.le_refl _
  | k + 1, hk => by
    have h1 := kidAt_ge h hi k (by omega)
    have h2 := h.kid i k hi (by omega)
    have h3 := (h.up i hi).2
    have h4 := (h.up (kidAt l (i + 1) k) (by omega)).1
    show i + 1 + (k + 1) ≤ endS l (kidAt l (i + 1) k)
    omega
theorem kid_between {l : List Prt} (h : Hang l) {i : Nat} (hi : i < l.length) : ∀ k, k ≤ (prN l i).kids.toNat → ∀ a, i < a → a < kidAt l (i + 1) k → endS l a ≤ kidAt l (i + 1) k
  | 0, _, a, h1, h2 => by simp only [kidAt] at h2; omega
  | k + 1, hk, a, h1, h2 => by
    have h3 := h.kid i k hi (by omega)
    have h4 := (h.up i hi).2
    have h5 := (h.up (kidAt l (i + 1) k) (by omega)).1
    show endS l a ≤ endS l (kidAt l (i + 1) k)
    by_cases c : a < kidAt l (i + 1) k
    · have := kid_between h hi k (by omega) a h1 c; omega
    · exact h.inn _ a (by omega) (by omega) h2
theorem kid_is {l : List Prt} (h : Hang l) {i k : Nat} (hi : i < l.length) (hk : k < (prN l i).kids.toNat) : IsKid l i (kidAt l (i + 1) k) :=
  ⟨by have := kidAt_ge h hi k (by omega); omega, h.kid i k hi hk, kid_between h hi k (by omega)⟩
/-- A child stands at one of the children's places. -/
theorem kid_at {l : List Prt} (h : Hang l) {i c : Nat} (hi : i < l.length) (hk : IsKid l i c) : ∃ k, k < (prN l i).kids.toNat ∧ kidAt l (i + 1) k = c := by
  have hch := h.chain i hi
  have key : ∀ n, n ≤ (prN l i).kids.toNat → c < kidAt l (i + 1) n → ∃ k, k < (prN l i).kids.toNat ∧ kidAt l (i + 1) k = c := by
    intro n
    induction n with
    | zero => intro _ h1; simp only [kidAt] at h1; have := hk.1; omega
    | succ n ih =>
      intro hn h1
      by_cases c1 : c < kidAt l (i + 1) n
      · exact ih (by omega) c1
      · by_cases c2 : kidAt l (i + 1) n = c
        · exact ⟨n, by omega, c2⟩
        · have hge := kidAt_ge h hi n (by omega)
          have := hk.2.2 (kidAt l (i + 1) n) (by omega) (by omega)
          exact absurd h1 (by show ¬ c < endS l (kidAt l (i + 1) n); omega)
  exact key _ (Nat.le_refl _) (by rw [hch]; exact hk.2.1)
theorem kidAt_mono {l : List Prt} (h : Hang l) {i : Nat} (hi : i < l.length) {j : Nat} : ∀ k, j < k → k ≤ (prN l i).kids.toNat → kidAt l (i + 1) j < kidAt l (i + 1) k
  | 0, hj, _ => by omega
  | k + 1, hj, hk => by
    have h3 := h.kid i k hi (by omega)
    have h4 := (h.up i hi).2
    have h5 : kidAt l (i + 1) k < kidAt l (i + 1) (k + 1) := (h.up (kidAt l (i + 1) k) (by omega)).1
    by_cases c : j = k
    · rw [c]; exact h5
    · exact Nat.lt_trans (kidAt_mono h hi k (by omega) (by omega)) h5
/-- How often a place is among the first children. -/
def kcS (l : List Prt) (i c : Nat) : Nat → Nat
  | 0 => 0
  | k + 1 => kcS l i c k + (if kidAt l (i + 1) k = c then 1 else 0)
/-- How often a place is a child, of the parts ahead of one. -/
def parS8 (l : List Prt) (c : Nat) : Nat → Nat
  | 0 => 0
  | i + 1 => parS8 l c i + kcS l i c (prN l i).kids.toNat
theorem kc_none {l : List Prt} {i c : Nat} : ∀ n, (∀ k, k < n → kidAt l (i + 1) k ≠ c) → kcS l i c n = 0
  | 0, _ => rfl
  | n + 1, h => by rw [kcS, if_neg (h n (by omega)), kc_none n (fun k hk => h k (by omega))]
theorem kc_one {l : List Prt} {i c j : Nat} : ∀ n, j < n → kidAt l (i + 1) j = c → (∀ k, k < n → k ≠ j → kidAt l (i + 1) k ≠ c) → kcS l i c n = 1
  | 0, hj, _, _ => by omega
  | n + 1, hj, he, h => by
    by_cases cj : j = n
    · subst cj
      rw [kcS, if_pos he, kc_none j (fun k hk => h k (by omega) (by omega))]
    · rw [kcS, if_neg (h n (by omega) (by omega)), kc_one n (by omega) he (fun k hk hne => h k (by omega) hne)]
theorem kc_kid {l : List Prt} (h : Hang l) {i c : Nat} (hi : i < l.length) (hk : IsKid l i c) : kcS l i c (prN l i).kids.toNat = 1 := by
  obtain ⟨j, hj, he⟩ := kid_at h hi hk
  refine kc_one _ hj he (fun k hk2 hne e => ?_)
  rcases Nat.lt_or_gt_of_ne hne with c1 | c1
  · have := kidAt_mono h hi (j := k) j c1 (by omega); omega
  · have := kidAt_mono h hi (j := j) k c1 (by omega); omega
theorem kc_nokid {l : List Prt} (h : Hang l) {i c : Nat} (hi : i < l.length) (hk : ¬ IsKid l i c) : kcS l i c (prN l i).kids.toNat = 0 :=
  kc_none _ (fun _k hk2 e => hk (e ▸ kid_is h hi hk2))
theorem kid_unique {l : List Prt} {i j c : Nat} (h1 : IsKid l i c) (h2 : IsKid l j c) : i = j := by
  rcases Nat.lt_trichotomy i j with c1 | c1 | c1
  · have := h1.2.2 j c1 h2.1; have := h2.2.1; omega
  · exact c1
  · have := h2.2.2 i c1 h1.1; have := h1.2.1; omega
/-- Each part but the first has one that it is the child of. -/
theorem kid_ex {l : List Prt} (h : Hang l) {c : Nat} (h0 : 0 < c) (hc : c < l.length) : ∃ i, i < c ∧ IsKid l i c := by
  have key : ∀ j, j < c → (∀ a, j < a → a < c → endS l a ≤ c) → ∃ i, i < c ∧ IsKid l i c := by
    intro j
    induction j with
    | zero => intro hj ha; exact ⟨0, h0, h0, by rw [h.all]; exact hc, ha⟩
    | succ j ih =>
      intro hj ha
      by_cases c1 : c < endS l (j + 1)
      · exact ⟨j + 1, hj, hj, c1, ha⟩
      · refine ih (by omega) (fun a h1 h2 => ?_)
        by_cases c2 : a = j + 1
        · rw [c2]; omega
        · exact ha a (by omega) h2
  exact key (c - 1) (by omega) (fun a h1 h2 => by omega)
theorem par_zero {l : List Prt} (h : Hang l) {c : Nat} : ∀ n, n ≤ l.length → (∀ i, i < n → ¬ IsKid l i c) → parS8 l c n = 0
  | 0, _, _ => rfl
  | n + 1, hn, hk => by rw [parS8, kc_nokid h (by omega) (hk n (by omega)), par_zero h n (by omega) (fun i hi => hk i (by omega))]
theorem par_one {l : List Prt} (h : Hang l) {c j : Nat} (hj : IsKid l j c) : ∀ n, n ≤ l.length → j < n → parS8 l c n = 1
  | 0, _, hjn => by omega
  | n + 1, hn, hjn => by
    by_cases cj : j = n
    · subst cj
      rw [parS8, kc_kid h (by omega) hj, par_zero h j (by omega) (fun i hi hk => by have := kid_unique hk hj; omega)]
    · rw [parS8, kc_nokid h (by omega) (fun hk => cj (kid_unique hj hk)), par_one h hj n (by omega) (by omega)]
/-- Each part but the first is the child of just one. -/
theorem par_all {l : List Prt} (h : Hang l) {c : Nat} (hc : c < l.length) : parS8 l c l.length = min c 1 := by
  by_cases c0 : c = 0
  · subst c0
    rw [par_zero h _ (Nat.le_refl _) (fun i _ hk => by have := hk.1; omega)]; rfl
  · obtain ⟨i, hi, hk⟩ := kid_ex h (by omega) hc
    rw [par_one h hk _ (Nat.le_refl _) (by omega)]
    omega
theorem kc_mono (l : List Prt) (i c : Nat) : ∀ (n j : Nat), j ≤ n → kcS l i c j ≤ kcS l i c n
  | 0, j, h => by rw [Nat.le_zero.1 h]; exact Nat.le_refl _
  | n + 1, j, h => by
    by_cases e : j = n + 1
    · rw [e]; exact Nat.le_refl _
    · exact Nat.le_trans (kc_mono l i c n j (by omega)) (by rw [kcS]; omega)
theorem par_mono (l : List Prt) (c : Nat) : ∀ (n j : Nat), j ≤ n → parS8 l c j ≤ parS8 l c n
  | 0, j, h => by rw [Nat.le_zero.1 h]; exact Nat.le_refl _
  | n + 1, j, h => by
    by_cases e : j = n + 1
    · rw [e]; exact Nat.le_refl _
    · exact Nat.le_trans (par_mono l c n j (by omega)) (by rw [parS8]; omega)
theorem par_le {l : List Prt} (h : Hang l) {c i k : Nat} (hc : c < l.length) (hi : i < l.length) (hk : k ≤ (prN l i).kids.toNat) : parS8 l c i + kcS l i c k ≤ 1 := by
  have h1 := kc_mono l i c _ k hk
  have h2 := par_mono l c l.length (i + 1) hi
  rw [par_all h hc, parS8] at h2
  omega
end Go.Proofs.Ytnifmdeojgfgcaa

namespace Go.Proofs.Ytnifmdeojgfgcaa
open Go.ChangeShapes Go.WideShapes Go.ChangeAt Go.RowKit
attribute [local irreducible] Go.Calls

def win8B (fr to' : Int) : Bool := decide (0 ≤ fr ∧ fr < to' ∧ to' ≤ 1099511627776 ∧ to' - fr ≤ 4096)
theorem window8_c (fr to' : Int) (w : World) (hf : -9223372036854775808 ≤ fr ∧ fr ≤ 9223372036854775807) (ht : -9223372036854775808 ≤ to' ∧ to' ≤ 9223372036854775807) :
    Calls Try.prog 21 #[.int .i64 fr, .int .i64 to'] w fun e w' => e = .returned (.bool (win8B fr to')) ∧ Below w.heap.size w w' := by
  by_cases h0 : 0 ≤ fr ∧ fr < to'
  · have q : IntKind.i64.wrap (to' - fr) = to' - fr := IntWalk.i64_in _ (by omega)
    have q0 : decide (0 ≤ fr) = true := decide_eq_true h0.1
    have q1 : decide (fr < to') = true := decide_eq_true h0.2
    have HE := hidE (show win8B fr to' = decide (to' ≤ 1099511627776 ∧ to' - fr ≤ 4096) by unfold win8B; simp [h0])
    rw [HE.out]
    clear HE h0
    go_enter Try.func21, Try.ntmps21
    go_wp2
    all_goals
      go_ret
      refine ⟨ret_bool ?_, by (repeat (first | exact Below.refl _ _ | assumption | refine balloc ?_ _ | refine below_drewN ?_ _ | refine bstep (by assumption) ?_ | refine bstep (Past.prop _) ?_ | refine Below.setCell ?_ (by first | exact Nat.le_refl _ | (simp; done) | (simp; omega)) _))⟩
      first | (symm; rw [Bool.and_eq_false_iff]; simp only [decide_eq_false_iff_not]; omega) | (symm; apply decide_eq_true; omega) | (symm; apply decide_eq_false; omega) | (rw [Bool.eq_iff_iff]; simp only [decide_eq_true_eq]; omega) | (simp_all; done)
  · have HE := hidE (show win8B fr to' = false by unfold win8B; exact decide_eq_false (by omega))
    rw [HE.out]
    clear HE
    go_enter Try.func21, Try.ntmps21
    go_wp2
    all_goals
      go_ret
      refine ⟨ret_bool ?_, by (repeat (first | exact Below.refl _ _ | assumption | refine balloc ?_ _ | refine below_drewN ?_ _ | refine bstep (by assumption) ?_ | refine bstep (Past.prop _) ?_ | refine Below.setCell ?_ (by first | exact Nat.le_refl _ | (simp; done) | (simp; omega)) _))⟩
      first | rfl | (apply decide_eq_false; omega) | (simp_all; done)
theorem shchk_c (fr to' : Int) (l : List Prt) (a : Option Addr) (cap : Nat) (w : World) (hl : l.length ≤ 9223372036854775807) (hA : ArgP w a l) (hf : -9223372036854775808 ≤ fr ∧ fr ≤ 9223372036854775807) (ht : -9223372036854775808 ≤ to' ∧ to' ≤ 9223372036854775807) :
    Calls Try.prog 8 #[def8 fr to' a l.length cap] w fun e w' => e = .returned (.tuple #[.int .i64 (chkS fr to' l).1, .int .i64 (chkS fr to' l).2]) ∧ Below w.heap.size w w' := by
  have HW := hidE (fun W => window8_c fr to' W hf ht)
  have HF := hidE (fun W (h : Below w.heap.size w W) => fault8_c l a cap W hl (hA.past h))
  clear hA
  cases hw : win8B fr to' with
  | true =>
    rw [hw] at HW
    have HE := hidE (show chkS fr to' l = (((treeS l).1 : Int), (treeS l).2) by
      unfold chkS
      exact if_neg (by unfold win8B at hw; have := of_decide_eq_true hw; omega))
    clear hw
    generalize hT : treeS l = T at *
    obtain ⟨t1, t2⟩ := T
    rw [HE.out]
    clear HE hT
    go_enter Try.func8, Try.ntmps8
    go_wp2_with fail
    ((with_reducible refine (HW.out _).mono ?_); rintro e w1 ⟨rfl, hb1⟩)
    have hb := (show Below w.heap.size w (w.alloc (.cells #[.int .i64 fr, .int .i64 to', .slice a l.length cap] 24)) from by (repeat (first | exact Below.refl _ _ | assumption | refine balloc ?_ _ | refine below_drewN ?_ _ | refine bstep (by assumption) ?_ | refine bstep (Past.prop _) ?_ | refine Below.setCell ?_ (by first | exact Nat.le_refl _ | (simp; done) | (simp; omega)) _))).trans (hb1.mono (by simp))
    have hc := (Blk.made w #[.int .i64 fr, .int .i64 to', .slice a l.length cap] 24).past hb1
    have c2 := hc.cell 2; have z := hc.lt
    simp at c2
    clear hc hb1
    have HB := hidE hb
    clear hb
    go_wp2_with fail
    ((with_reducible refine (HF.out _ HB.out).mono ?_); rintro e w2 ⟨rfl, hb2⟩)
    go_wp2
    refine bodyPost_ret (v := .tuple #[.int .i64 t1, .int .i64 t2]) (by simp [results, Try.results8, go_sem]) rfl ⟨rfl, HB.out.trans (hb2.mono HB.out.size)⟩
  | false =>
    rw [hw] at HW
    have HE := hidE (show chkS fr to' l = (-1, 82) by
      unfold chkS
      exact if_pos (by unfold win8B at hw; have := of_decide_eq_false hw; omega))
    rw [HE.out]
    clear hw HE HF
    go_enter Try.func8, Try.ntmps8
    go_wp2_with fail
    ((with_reducible refine (HW.out _).mono ?_); rintro e w1 ⟨rfl, hb1⟩)
    have hb := (show Below w.heap.size w (w.alloc (.cells #[.int .i64 fr, .int .i64 to', .slice a l.length cap] 24)) from by (repeat (first | exact Below.refl _ _ | assumption | refine balloc ?_ _ | refine below_drewN ?_ _ | refine bstep (by assumption) ?_ | refine bstep (Past.prop _) ?_ | refine Below.setCell ?_ (by first | exact Nat.le_refl _ | (simp; done) | (simp; omega)) _))).trans (hb1.mono (by simp))
    have HB := hidE hb
    clear hb hb1
    go_wp2
    refine bodyPost_ret (v := .tuple #[.int .i64 (-1), .int .i64 82]) (by simp [results, Try.results8, go_sem]) rfl ⟨rfl, HB.out⟩
theorem wrong8_c (l : List Prt) (z : Int) (a : Option Addr) (cap : Nat) (w : World) (hl : l.length ≤ 9223372036854775807) (hA : ArgP w a l) (hz : -9223372036854775808 ≤ z ∧ z ≤ 9223372036854775807) :
    Calls Try.prog 24 #[.slice a l.length cap, .int .i64 z] w fun e w' => e = .returned (.int .i64 (mayS l z)) ∧ Below w.heap.size w w' := by
  have HF := hidE (fault8_c l a cap w hl hA)
  clear hA
  by_cases ht : (treeS l).2 = 0
  · have hE : mayS l z = if z < 0 ∨ (l.length : Int) ≤ z then 2 else 0 := if_neg (by rw [ht]; exact fun h => h rfl)
    rw [ht] at HF
    clear ht
    generalize ((treeS l).1 : Nat) = t1 at *
    by_cases h : z < 0 ∨ (l.length : Int) ≤ z
    · rw [if_pos h] at hE
      rw [hE]
      clear hE
      by_cases h0 : z < 0
      · have q0 : decide (z < 0) = true := decide_eq_true h0
        clear h h0
        go_enter Try.func24, Try.ntmps24
        go_wp2_with (go_at_call 22; (with_reducible refine HF.out.mono ?_); rintro e w1 ⟨rfl, hb1⟩)
        go_ret
        exact ⟨rfl, hb1⟩
      · have q0 : decide (z < 0) = false := decide_eq_false h0
        have q1 : decide (z ≥ (l.length : Int)) = true := decide_eq_true (by omega)
        have q2 : decide ((l.length : Int) ≤ z) = true := decide_eq_true (by omega)
        clear h h0
        go_enter Try.func24, Try.ntmps24
        go_wp2_with (go_at_call 22; (with_reducible refine HF.out.mono ?_); rintro e w1 ⟨rfl, hb1⟩)
        go_ret
        exact ⟨rfl, hb1⟩
    · rw [if_neg h] at hE
      rw [hE]
      have q0 : decide (z < 0) = false := decide_eq_false (by omega)
      have q1 : decide (z ≥ (l.length : Int)) = false := decide_eq_false (by omega)
      have q2 : decide ((l.length : Int) ≤ z) = false := decide_eq_false (by omega)
      clear hE h
      go_enter Try.func24, Try.ntmps24
      go_wp2_with (go_at_call 22; (with_reducible refine HF.out.mono ?_); rintro e w1 ⟨rfl, hb1⟩)
      go_ret
      exact ⟨rfl, hb1⟩
  · have hE : mayS l z = 81 := if_pos ht
    rw [hE]
    have q : ((treeS l).2 != 0) = true := bne_iff_ne.2 ht
    clear hE ht
    generalize ((treeS l).1 : Nat) = t1 at *
    generalize (treeS l).2 = t2 at *
    go_enter Try.func24, Try.ntmps24
    go_wp2_with (go_at_call 22; (with_reducible refine HF.out.mono ?_); rintro e w1 ⟨rfl, hb1⟩)
    go_ret
    exact ⟨rfl, hb1⟩
end Go.Proofs.Ytnifmdeojgfgcaa

namespace Go.Proofs.Ytnifmdeojgfgcaa
open Go.ChangeShapes Go.WideShapes Go.ChangeAt Go.RowKit
attribute [local irreducible] Go.Calls

set_option maxHeartbeats 1000000 in
theorem end8_c (l : List Prt) (a : Option Addr) (cap : Nat) (hl : l.length ≤ 1000000) (ht : (treeS l).2 = 0) : ∀ (m p : Nat) (w : World), l.length - p ≤ m → p < l.length → ArgP w a l →
    Calls Try.prog 26 #[.slice a l.length cap, .int .i64 p] w fun e w' => e = .returned (.int .i64 (endS l p)) ∧ Below w.heap.size w w' := by
  intro m
  induction m with
  | zero => intro p w hm hp; omega
  | succ m ih =>
    intro p w hm hp hA
    have hH := tree_hang ht
    have hch := hidE (hH.chain p hp)
    have hkd := hidE (fun k hk => hH.kid p k hp hk)
    have hup := hidE (hH.up p hp).2
    have hge := hidE (fun k hk => kidAt_ge hH hp k hk)
    obtain ⟨b, off, rfl, hbb, hc⟩ := hA (by omega)
    have c4 := (hc.get hp).2.2.2.2
    rw [show l.getD p pr0 = prN l p from rfl] at c4
    have hks := tree_kids ht hp
    rw [show l.getD p ⟨0, 0, 0, 0, 0⟩ = prN l p from rfl] at hks
    have HA := hidE (show ArgP w (some ⟨b, off, none⟩) l from hA)
    have HM := hidE hm
    have HI := hidE ih
    have HL := hidE hl
    clear hA hc ih hH hm
    obtain ⟨K, hK⟩ : ∃ K : Nat, (prN l p).kids = (K : Int) := ⟨(prN l p).kids.toNat, by omega⟩
    rw [hK] at c4
    have hKN : (prN l p).kids.toNat = K := by omega
    rw [hKN] at hch hkd hge
    have hK16 : K ≤ 16 := by omega
    clear hK hKN hks
    have w1 : IntKind.i64.wrap ((p : Int) + 1) = (p : Int) + 1 := IntWalk.i64_in _ (by omega)
    clear hl
    go_enter Try.func26, Try.ntmps26
    go_wp2_with fail
    go_loopg [5, 13] K (fun gh v5 v13 wr => ∃ k : Nat, k ≤ K ∧ K - k ≤ gh ∧ v13 = .int .i64 k ∧ v5 = .int .i64 (kidAt l (p + 1) k) ∧ Below w.heap.size w wr)
    case atStart => exact ⟨0, Nat.zero_le _, Nat.le_refl _, rfl, by simp [kidAt], Below.refl _ _⟩
    case round =>
      obtain ⟨k, hkk, hgh, rfl, rfl, hb⟩ := hrel
      have HB := hidE hb; have HG := hidE hgh
      clear hb hgh c4
      by_cases hlt : k < K
      · have r1 : decide ((k : Int) < (K : Int)) = true := decide_eq_true (by omega)
        have r2 : decide (k < K) = true := decide_eq_true hlt
        have h1 := hkd.out k hlt
        have h2 := hge.out k (by omega)
        have h3 := hup.out
        have HC := hidE (HI.out (kidAt l (p + 1) k))
        have hlp : kidAt l (p + 1) k < l.length := by omega
        have hmp : l.length - kidAt l (p + 1) k ≤ m := by have := HM.out; omega
        have HK := hidE (show kidAt l (p + 1) (k + 1) = endS l (kidAt l (p + 1) k) from rfl)
        clear h1 h2 h3
        generalize kidAt l (p + 1) k = q at *
        generalize endS l q = q2 at *
        go_wp2_with (go_at_call 26; (with_reducible refine (HC.out _ (by assumption) (by assumption) (HA.out.past HB.out)).mono ?_); rintro e w2 ⟨rfl, hb2⟩)
        go_roundg (K - (k + 1))
        case measure => have := HG.out; omega
        case rel => exact ⟨k + 1, by omega, Nat.le_refl _, by go_num, by rw [HK.out], HB.out.trans (hb2.mono HB.out.size)⟩
      · obtain rfl : k = K := by omega
        have r1 : decide ((k : Int) < (k : Int)) = false := decide_eq_false (by omega)
        have r2 : decide (k < k) = false := decide_eq_false (by omega)
        go_wp2
        go_ret
        exact ⟨by rw [← hch.out]; rfl, HB.out⟩
end Go.Proofs.Ytnifmdeojgfgcaa

namespace Go.Proofs.Ytnifmdeojgfgcaa
open Go.RowKit

/-- What a body keeps: whatever lies below n₀, and whatever lay at or beyond n₁. -/
structure Outside (n₀ n₁ : Nat) (W W' : World) : Prop where
  below : Below n₀ W W'
  beyond : ∀ k, n₁ ≤ k → k < W.heap.size → W'.heap[k]? = W.heap[k]?
theorem Outside.refl (n₀ n₁ : Nat) (W : World) : Outside n₀ n₁ W W := ⟨Below.refl _ _, fun _ _ _ => rfl⟩
theorem Outside.trans {n₀ n₁ : Nat} {A B C : World} (h : Outside n₀ n₁ A B) (k : Outside n₀ n₁ B C) : Outside n₀ n₁ A C :=
  ⟨h.below.trans k.below, fun i hi hl => (k.beyond i hi (Nat.lt_of_lt_of_le hl h.below.size)).trans (h.beyond i hi hl)⟩
theorem Outside.of_below {n₀ n₁ : Nat} {A B : World} (h : Below A.heap.size A B) (hn : n₀ ≤ A.heap.size) : Outside n₀ n₁ A B := ⟨h.mono hn, fun k _ hl => h.block k hl⟩
theorem Outside.weak {n₀ n₁ n₁' : Nat} {A B : World} (h : Outside n₀ n₁ A B) (hn : n₁ ≤ n₁') : Outside n₀ n₁' A B := ⟨h.below, fun k hk hl => h.beyond k (by omega) hl⟩
/-- A turn of a block of the caller's own. -/
theorem Outside.of_grown {n₀ n₁ p : Nat} {A B : World} (h : A.grownBy B (some p)) (h0 : n₀ ≤ p) (h1 : p < n₁) (h2 : n₀ ≤ A.heap.size) : Outside n₀ n₁ A B :=
  ⟨⟨h.os, h.tape, h.output, h.size, fun k hk => h.block k (by omega) (fun e => by cases e; omega)⟩, fun k hk hl => h.block k hl (fun e => by cases e; omega)⟩

/-- The contract of an iterator value: it hands on the list S, one after the other, unless a round says 'no more'; whatever the caller's invariants are that speak only of what lay ahead of the iterator's call. -/
def SeqT {α : Type} (P : Program) (gf : Nat) (rb lb : Array Value) (encs : α → Array Value) (n₀ : Nat) (S : List α) (w : World) : Prop :=
  ∀ (l : Nat) (J Jx : List α → World → Prop) (W : World), Below w.heap.size w W →
    (∀ s A B, J s A → Below W.heap.size A B → J s B) → (∀ s A B, Jx s A → Below W.heap.size A B → Jx s B) →
    (∀ pre x W1, J pre W1 → pre ++ [x] <+: S → YieldAt Fence.wide 0 P l (encs x) W1 fun e W' =>
      (e = .returned (.bool true) ∧ J (pre ++ [x]) W' ∧ Outside n₀ W.heap.size W1 W') ∨ (e = .returned (.bool false) ∧ Jx (pre ++ [x]) W')) →
    J [] W →
    Calls P gf (rb ++ #[.func (.yield l) #[] #[]] ++ lb) W fun e W' => (∃ v, e = .returned v) ∧ (J S W' ∨ ∃ pre, pre <+: S ∧ Jx pre W')

/-- How the body of a round may be left. -/
def postT {α : Type} (n₀ n₁ : Nat) (I : List α → World → Prop) (Ix : Code → List α → World → Prop) (xs : List α) (W : World) : Exit → Act → World → Prop
  | .normal, _, W' => Outside n₀ n₁ W W' ∧ I xs W'
  | .ret, _, W' => Outside n₀ n₁ W W' ∧ Ix .ret xs W'
  | .exit id, _, W' => Outside n₀ n₁ W W' ∧ Ix (.exit id) xs W'
  | .goto t, _, W' => Outside n₀ n₁ W W' ∧ Ix (.goto t) xs W'
  | .panic _, _, _ => False
  | .outgrown, _, _ => False

theorem below_putObj {B : Nat} (W : World) (l : Nat) (o : Obj) (h : B ≤ l) : Below B W (W.putObj l o) :=
  ⟨rfl, rfl, rfl, by simp, fun k hk => World.putObj_heap_other (by omega)⟩

theorem grown_putObj (W : World) (l : Nat) (o : Obj) : W.grownBy (W.putObj l o) (some l) :=
  ⟨rfl, rfl, rfl, by simp, fun k _ hk => World.putObj_heap_other (fun e => hk (by rw [e]))⟩
/-- The statement. -/
theorem wp_rangeFunc_T {α : Type} {P : Program} {g : Operand} {ps : Array Tmp} {assign body : Code} {Q : Exit → Act → World → Prop} {a : Act} {w : World}
    {gf : Nat} {rb lb : Array Value} (hg : a.eval g = .func (.func gf) rb lb) (eg : ∀ args w, (callFunc gf args).run P w = .ok (.enter gf args) w)
    {encs : α → Array Value} {n₀ : Nat} (hn₀ : n₀ ≤ w.heap.size) {S : List α} (hseq : SeqT P gf rb lb encs n₀ S w) (hps : ∀ x, (encs x).size = ps.size)
    (I : List α → World → Prop) (Ix : Code → List α → World → Prop) (hI : ∀ s A B, I s A → Below w.heap.size A B → I s B) (hIx : ∀ c s A B, Ix c s A → Below w.heap.size A B → Ix c s B) (h0 : I [] w)
    (Ax : α → Act → World → Prop) (hAx : ∀ x a' A l r o, Ax x a' A → A.heap[l]? = some (.loop r) → Ax x a' (A.putObj l o))
    (hassign : ∀ (l : Nat) (pre : List α) (x : α) (W : World) (K : Act → World → Prop), w.heap.size ≤ W.heap.size → I pre W → (∀ a' W', Outside n₀ w.heap.size W W' → I pre W' → Ax x a' W' → K a' W') →
      assign.wpIn (Fence.wide.inRound l) 0 P (Exit.then K (fun _ _ _ => False)) { tmps := (ps.zip (encs x)).foldl (fun t (p, v) => t.setIfInBounds p v) a.tmps, defers := [] } W)
    (hbody : ∀ (l : Nat) (pre : List α) (x : α) (a' : Act) (W : World), w.heap.size ≤ W.heap.size → I pre W → Ax x a' W → pre ++ [x] <+: S → body.wpIn (Fence.wide.inRound l) 0 P (postT n₀ w.heap.size I Ix (pre ++ [x]) W) a' W)
    (hdone : ∀ (D : Nat) (W : World), w.heap.size ≤ D → I S W → W.heap[D]? = some (.deferred (some [])) → Q .normal { a with defers := { target := .collected D, args := #[] } :: a.defers } W)
    (hstop : ∀ (D : Nat) (c : Code) (pre : List α) (W : World), w.heap.size ≤ D → pre <+: S → Ix c pre W → W.heap[D]? = some (.deferred (some [])) → c.wp P Q { a with defers := { target := .collected D, args := #[] } :: a.defers } W) :
    (Code.rangeFunc g ps assign body).wp P Q a w := by
  refine (wpIn_wide (n := 0)).1 (wpIn_rangeFunc ?_)
  intro fn hfn
  obtain ⟨rec, hrec⟩ : ∃ rec : LoopState → Option Code → Loop, rec = fun st pe => { state := st, pending := pe, fn, tmps := a.tmps, params := ps, assign, body, defers := w.heap.size } := ⟨_, rfl⟩
  obtain ⟨W1, hW1⟩ : ∃ W1, (w.alloc (.deferred (some []))).alloc (.loop (rec .ready none)) = W1 := ⟨_, rfl⟩
  have hL1 : W1.heap[w.heap.size + 1]? = some (.loop (rec .ready none)) := by
    rw [← hW1]; have := World.alloc_heap_new (w.alloc (.deferred (some []))) (.loop (rec .ready none)); rwa [World.size_alloc] at this
  have hK1 : W1.heap[w.heap.size]? = some (.deferred (some [])) := by
    rw [← hW1]; exact (Below.heap_alloc _ _ _ (by simp)).trans (World.alloc_heap_new w _)
  have hb1 : Below w.heap.size w W1 := by
    rw [← hW1]; exact ((Below.refl _ w).alloc (Nat.le_refl _) _).alloc (by simp) _
  have hs1 : W1.heap.size = w.heap.size + 2 := by rw [← hW1]; simp
  have hI1 : I [] W1 := hI _ _ _ h0 hb1
  refine ⟨w.heap.size + 1, [{ target := .collected w.heap.size, args := #[] }], W1, { target := .fn (.func gf) lb, args := rb ++ #[.func (.yield (w.heap.size + 1)) #[] #[]] }, W1, gf,
    rb ++ #[.func (.yield (w.heap.size + 1)) #[] #[]] ++ lb, W1, ?_, ?_, ?_, ?_, fun h => by simp [Fence.wide] at h, ?_⟩
  · rw [← hW1, hrec]; exact run_enterLoop_outer _ _ _ _ _
  · simp only [resolve, hg]
    simp [go_sem, Deferred.ofValue]
  · intro f' hf'; trivial
  · simp [invoke, go_sem, eg]
  · refine callsIn_wide.2 ?_
    refine (hseq (w.heap.size + 1)
      (fun pre W => I pre W ∧ W.heap[w.heap.size + 1]? = some (.loop (rec .ready none)) ∧ W.heap[w.heap.size]? = some (.deferred (some [])) ∧ w.heap.size ≤ W.heap.size)
      (fun pre W => ∃ c, Ix c pre W ∧ W.heap[w.heap.size + 1]? = some (.loop (rec .done (some c))) ∧ W.heap[w.heap.size]? = some (.deferred (some [])))
      W1 hb1
      (fun s A B hs hg' => ⟨hI s A B hs.1 (hg'.mono (by omega)), (hg'.block _ (by omega)).trans hs.2.1, (hg'.block _ (by omega)).trans hs.2.2.1, Nat.le_trans hs.2.2.2 hg'.size⟩)
      (fun s A B hs hg' => by
        obtain ⟨c, hc, hl, hk⟩ := hs
        exact ⟨c, hIx c s A B hc (hg'.mono (by omega)), (hg'.block _ (by omega)).trans hl, (hg'.block _ (by omega)).trans hk⟩)
      ?_ ⟨hI1, hL1, hK1, hb1.size⟩).mono ?_
    · -- one round
      rintro pre x W ⟨hi, hl, hk, hsz⟩ hpre
      have hlt : w.heap.size + 1 < W.heap.size := (Array.getElem?_eq_some_iff.1 hl).1
      have hy := run_yield (P := P) (args := encs x) hl (by rw [hrec]; exact hps x)
      rw [hrec] at hy
      refine ⟨fn, _, assign, body, hy, roundIn_of_wpIn trivial (hassign _ pre x W _ hsz hi ?_)⟩
      clear hy
      intro a' Wa hoa hia hax
      have hla := (hoa.beyond _ (by omega) hlt).trans hl
      have hka := (hoa.beyond _ (Nat.le_refl _) (by omega)).trans hk
      have hlta : w.heap.size + 1 < Wa.heap.size := Nat.lt_of_lt_of_le hlt hoa.below.size
      refine ⟨_, run_beginRound hla (by rw [hrec]), ?_⟩
      have hl2 : (Wa.putObj (w.heap.size + 1) (.loop { rec .ready none with state := .busy })).heap[w.heap.size + 1]? = some (.loop { rec .ready none with state := .busy }) := World.putObj_heap_same hlta
      have hk2 : (Wa.putObj (w.heap.size + 1) (.loop { rec .ready none with state := .busy })).heap[w.heap.size]? = some (.deferred (some [])) := (World.putObj_heap_other (by omega)).trans hka
      have hb2 : Below w.heap.size Wa (Wa.putObj (w.heap.size + 1) (.loop { rec .ready none with state := .busy })) := below_putObj _ _ _ (by omega)
      refine wpIn_mono (hbody _ pre x a' _ (by simp; omega) (hI _ _ _ hia hb2) (hAx _ _ _ _ _ _ hax hla) hpre) ?_
      have fin : ∀ (jump : Option Code) (W3 : World), Outside n₀ w.heap.size (Wa.putObj (w.heap.size + 1) (.loop { rec .ready none with state := .busy })) W3 →
          (Instr.endRound (w.heap.size + 1) jump).run P W3 = .ok (.bool jump.isNone) (W3.putObj (w.heap.size + 1) (.loop (rec (if jump.isNone then .ready else .done) jump))) ∧
          (W3.putObj (w.heap.size + 1) (.loop (rec (if jump.isNone then .ready else .done) jump))).heap[w.heap.size + 1]? = some (.loop (rec (if jump.isNone then .ready else .done) jump)) ∧
          (W3.putObj (w.heap.size + 1) (.loop (rec (if jump.isNone then .ready else .done) jump))).heap[w.heap.size]? = some (.deferred (some [])) ∧
          Below w.heap.size W3 (W3.putObj (w.heap.size + 1) (.loop (rec (if jump.isNone then .ready else .done) jump))) ∧
          Outside n₀ W1.heap.size W (W3.putObj (w.heap.size + 1) (.loop (rec (if jump.isNone then .ready else .done) jump))) := fun jump W3 ho3 => by
        have hl3 := (ho3.beyond (w.heap.size + 1) (by omega) (by simp; omega)).trans hl2
        have hk3 := (ho3.beyond w.heap.size (Nat.le_refl _) (by simp; omega)).trans hk2
        have hr := run_endRound (P := P) jump hl3
        have hsz3 : w.heap.size + 1 < W3.heap.size := (Array.getElem?_eq_some_iff.1 hl3).1
        refine ⟨?_, World.putObj_heap_same hsz3, (World.putObj_heap_other (by omega)).trans hk3, below_putObj _ _ _ (by omega), ?_⟩
        · rw [hrec] at hr ⊢; exact hr
        · have e1 : Outside n₀ W1.heap.size Wa (Wa.putObj (w.heap.size + 1) (.loop { rec .ready none with state := .busy })) := Outside.of_grown (grown_putObj _ _ _) (by omega) (by omega) (by omega)
          have e2 : Outside n₀ W1.heap.size W3 (W3.putObj (w.heap.size + 1) (.loop (rec (if jump.isNone then .ready else .done) jump))) := Outside.of_grown (grown_putObj _ _ _) (by omega) (by omega) (by omega)
          exact (((hoa.weak (by omega)).trans e1).trans (ho3.weak (by omega))).trans e2
      rintro e a3 W3 hp
      cases e with
      | normal =>
        obtain ⟨hk3, hi3⟩ := hp
        obtain ⟨hr, hl4, hk4, hb4, ho4⟩ := fin none W3 hk3
        exact ⟨_, _, hr, .inl ⟨rfl, ⟨hI _ _ _ hi3 hb4, hl4, hk4, Nat.le_trans (by have := hk3.below.size; simp at this; omega) hb4.size⟩, ho4⟩⟩
      | ret =>
        obtain ⟨hk3, hi3⟩ := hp
        obtain ⟨hr, hl4, hk4, hb4, ho4⟩ := fin (some .ret) W3 hk3
        exact ⟨_, _, hr, .inr ⟨rfl, .ret, hIx _ _ _ _ hi3 hb4, hl4, hk4⟩⟩
      | exit id =>
        obtain ⟨hk3, hi3⟩ := hp
        obtain ⟨hr, hl4, hk4, hb4, ho4⟩ := fin (some (.exit id)) W3 hk3
        exact ⟨_, _, hr, .inr ⟨rfl, .exit id, hIx _ _ _ _ hi3 hb4, hl4, hk4⟩⟩
      | goto t =>
        obtain ⟨hk3, hi3⟩ := hp
        obtain ⟨hr, hl4, hk4, hb4, ho4⟩ := fin (some (.goto t)) W3 hk3
        exact ⟨_, _, hr, .inr ⟨rfl, .goto t, hIx _ _ _ _ hi3 hb4, hl4, hk4⟩⟩
      | panic ch => exact hp.elim
      | outgrown => exact hp.elim
    · -- behind the iterator
      rintro e W2 ⟨⟨v, rfl⟩, (⟨hi, hl, hk, _⟩ | ⟨pre, hSp, c, hi, hl, hk⟩)⟩
      · exact ⟨none, _, by have := run_endLoop (P := P) hl (by rw [hrec]; simp); rw [hrec] at this; exact this, hdone _ _ (Nat.le_refl _) (hI _ _ _ hi (below_putObj _ _ _ (by omega))) ((World.putObj_heap_other (by omega)).trans hk)⟩
      · exact ⟨some c, _, by have := run_endLoop (P := P) hl (by rw [hrec]; simp); rw [hrec] at this; exact this, (wpIn_wide (n := 0)).2 (hstop _ c pre _ (Nat.le_refl _) hSp (hIx _ _ _ _ hi (below_putObj _ _ _ (by omega))) ((World.putObj_heap_other (by omega)).trans hk))⟩
end Go.Proofs.Ytnifmdeojgfgcaa

namespace Go.Proofs.Ytnifmdeojgfgcaa
open Go.RowKit

/-- The contract of an iterator value, as SeqT, with the one block that the body made in an earlier round and may write again (g: from where on the body's blocks lie, and that block), and what it reads of the caller's (K). -/
def SeqX {α : Type} (P : Program) (gf : Nat) (rb lb : Array Value) (encs : α → Array Value) (n₀ : Nat) (K : World → Prop) (S : List α) (w : World) : Prop :=
  ∀ (l : Nat) (J : List α → Option (Nat × Nat) → World → Prop) (Jx : List α → World → Prop) (W : World), Below w.heap.size w W →
    (∀ s g A B, J s g A → Below W.heap.size A B → (∀ b k, g = some (b, k) → B.heap[k]? = A.heap[k]?) → J s g B) → (∀ s g A, J s g A → ∀ b k, g = some (b, k) → b ≤ k ∧ k < A.heap.size) → (∀ s g A, J s g A → K A) → (∀ s A B, Jx s A → Below W.heap.size A B → Jx s B) →
    (∀ pre x g W1, J pre g W1 → W.heap.size ≤ W1.heap.size → pre ++ [x] <+: S → YieldAt Fence.wide 0 P l (encs x) W1 fun e W' =>
      (e = .returned (.bool true) ∧ ∃ g', J (pre ++ [x]) g' W' ∧ Below n₀ W1 W' ∧ (∀ k, W.heap.size ≤ k → k < W1.heap.size → (∀ b, g ≠ some (b, k)) → W'.heap[k]? = W1.heap[k]?) ∧ (∀ b k, g' = some (b, k) → W1.heap.size ≤ b ∨ ∃ j, g = some (b, j))) ∨ (e = .returned (.bool false) ∧ Jx (pre ++ [x]) W')) →
    J [] none W →
    Calls P gf (rb ++ #[.func (.yield l) #[] #[]] ++ lb) W fun e W' => (∃ v, e = .returned v) ∧ ((∃ g, J S g W') ∨ ∃ pre, pre <+: S ∧ Jx pre W')

/-- How the body of a round may be left: by its end, or by a return. -/
def postX {α : Type} (n₀ n₁ : Nat) (I : List α → Option (Nat × Nat) → World → Prop) (Ix : List α → World → Prop) (xs : List α) (g : Option (Nat × Nat)) (W : World) : Exit → Act → World → Prop
  | .normal, _, W' => ∃ g', I xs g' W' ∧ Below n₀ W W' ∧ (∀ k, n₁ ≤ k → k < W.heap.size → (∀ b, g ≠ some (b, k)) → W'.heap[k]? = W.heap[k]?) ∧ (∀ b k, g' = some (b, k) → W.heap.size ≤ b ∨ ∃ j, g = some (b, j))
  | .ret, _, W' => Ix xs W' ∧ (∀ k, n₁ ≤ k → k < n₁ + 2 → k < W.heap.size → W'.heap[k]? = W.heap[k]?)
  | _, _, _ => False

/-- The statement. -/
theorem wp_rangeFunc_X {α : Type} {P : Program} {gop : Operand} {ps : Array Tmp} {assign body : Code} {Q : Exit → Act → World → Prop} {a : Act} {w : World}
    {gf : Nat} {rb lb : Array Value} (hg : a.eval gop = .func (.func gf) rb lb) (eg : ∀ args w, (callFunc gf args).run P w = .ok (.enter gf args) w)
    {encs : α → Array Value} {n₀ : Nat} (hn₀ : n₀ ≤ w.heap.size) {S : List α} {K : World → Prop} (hseq : SeqX P gf rb lb encs n₀ K S w) (hps : ∀ x, (encs x).size = ps.size)
    (I : List α → Option (Nat × Nat) → World → Prop) (hI : ∀ s g A B, I s g A → Below w.heap.size A B → (∀ b k, g = some (b, k) → B.heap[k]? = A.heap[k]?) → I s g B) (hIg : ∀ s g A, I s g A → ∀ b k, g = some (b, k) → b ≤ k ∧ k < A.heap.size) (hIK : ∀ s g A, I s g A → K A) (h0 : I [] none w)
    (Ix : List α → World → Prop) (hIx : ∀ s A B, Ix s A → Below w.heap.size A B → Ix s B)
    (Ax : α → Act → World → Prop) (hAx : ∀ x a' A l r o, Ax x a' A → A.heap[l]? = some (.loop r) → Ax x a' (A.putObj l o))
    (hassign : ∀ (l : Nat) (pre : List α) (x : α) (g : Option (Nat × Nat)) (W : World) (K' : Act → World → Prop), w.heap.size ≤ W.heap.size → I pre g W → (∀ a' W', Below W.heap.size W W' → I pre g W' → Ax x a' W' → K' a' W') →
      assign.wpIn (Fence.wide.inRound l) 0 P (Exit.then K' (fun _ _ _ => False)) { tmps := (ps.zip (encs x)).foldl (fun t (p, v) => t.setIfInBounds p v) a.tmps, defers := [] } W)
    (hbody : ∀ (l : Nat) (pre : List α) (x : α) (g : Option (Nat × Nat)) (a' : Act) (W : World), w.heap.size ≤ W.heap.size → I pre g W → Ax x a' W → pre ++ [x] <+: S → body.wpIn (Fence.wide.inRound l) 0 P (postX n₀ w.heap.size I Ix (pre ++ [x]) g W) a' W)
    (hdone : ∀ (D : Nat) (g : Option (Nat × Nat)) (W : World), D = w.heap.size → I S g W → (∀ b k, g = some (b, k) → w.heap.size + 2 ≤ b) → W.heap[D]? = some (.deferred (some [])) → Q .normal { a with defers := { target := .collected D, args := #[] } :: a.defers } W)
    (hstop : ∀ (D : Nat) (pre : List α) (W : World), D = w.heap.size → pre <+: S → Ix pre W → W.heap[D]? = some (.deferred (some [])) → Code.ret.wp P Q { a with defers := { target := .collected D, args := #[] } :: a.defers } W) :
    (Code.rangeFunc gop ps assign body).wp P Q a w := by
  refine (wpIn_wide (n := 0)).1 (wpIn_rangeFunc ?_)
  intro fn hfn
  obtain ⟨rec, hrec⟩ : ∃ rec : LoopState → Option Code → Loop, rec = fun st pe => { state := st, pending := pe, fn, tmps := a.tmps, params := ps, assign, body, defers := w.heap.size } := ⟨_, rfl⟩
  obtain ⟨W1, hW1⟩ : ∃ W1, (w.alloc (.deferred (some []))).alloc (.loop (rec .ready none)) = W1 := ⟨_, rfl⟩
  have hL1 : W1.heap[w.heap.size + 1]? = some (.loop (rec .ready none)) := by
    rw [← hW1]; have := World.alloc_heap_new (w.alloc (.deferred (some []))) (.loop (rec .ready none)); rwa [World.size_alloc] at this
  have hK1 : W1.heap[w.heap.size]? = some (.deferred (some [])) := by
    rw [← hW1]; exact (Below.heap_alloc _ _ _ (by simp)).trans (World.alloc_heap_new w _)
  have hb1 : Below w.heap.size w W1 := by
    rw [← hW1]; exact ((Below.refl _ w).alloc (Nat.le_refl _) _).alloc (by simp) _
  have hs1 : W1.heap.size = w.heap.size + 2 := by rw [← hW1]; simp
  have hI1 : I [] none W1 := hI _ _ _ _ h0 hb1 (fun b k hk => by cases hk)
  refine ⟨w.heap.size + 1, [{ target := .collected w.heap.size, args := #[] }], W1, { target := .fn (.func gf) lb, args := rb ++ #[.func (.yield (w.heap.size + 1)) #[] #[]] }, W1, gf,
    rb ++ #[.func (.yield (w.heap.size + 1)) #[] #[]] ++ lb, W1, ?_, ?_, ?_, ?_, fun h => by simp [Fence.wide] at h, ?_⟩
  · rw [← hW1, hrec]; exact run_enterLoop_outer _ _ _ _ _
  · simp only [resolve, hg]
    simp [go_sem, Deferred.ofValue]
  · intro f' hf'; trivial
  · simp [invoke, go_sem, eg]
  · refine callsIn_wide.2 ?_
    refine (hseq (w.heap.size + 1)
      (fun pre g W => I pre g W ∧ W.heap[w.heap.size + 1]? = some (.loop (rec .ready none)) ∧ W.heap[w.heap.size]? = some (.deferred (some [])) ∧ w.heap.size ≤ W.heap.size ∧ ∀ b k, g = some (b, k) → w.heap.size + 2 ≤ b)
      (fun pre W => Ix pre W ∧ W.heap[w.heap.size + 1]? = some (.loop (rec .done (some .ret))) ∧ W.heap[w.heap.size]? = some (.deferred (some [])))
      W1 hb1
      (fun s g A B hs hb hk => ⟨hI s g A B hs.1 (hb.mono (by omega)) hk, (hb.block _ (by omega)).trans hs.2.1, (hb.block _ (by omega)).trans hs.2.2.1, Nat.le_trans hs.2.2.2.1 hb.size, hs.2.2.2.2⟩)
      (fun s g A hs b k hk => hIg s g A hs.1 b k hk)
      (fun s g A hs => hIK s g A hs.1)
      (fun s A B hs hb => ⟨hIx s A B hs.1 (hb.mono (by omega)), (hb.block _ (by omega)).trans hs.2.1, (hb.block _ (by omega)).trans hs.2.2⟩)
      ?_ ⟨hI1, hL1, hK1, hb1.size, fun b k hk => by cases hk⟩).mono ?_
    · -- one round
      rintro pre x g W ⟨hi, hl, hk, hsz, hg0⟩ hW1z hpre
      have hlt : w.heap.size + 1 < W.heap.size := (Array.getElem?_eq_some_iff.1 hl).1
      have hy := run_yield (P := P) (args := encs x) hl (by rw [hrec]; exact hps x)
      rw [hrec] at hy
      refine ⟨fn, _, assign, body, hy, roundIn_of_wpIn trivial (hassign _ pre x g W _ hsz hi ?_)⟩
      clear hy
      intro a' Wa hoa hia hax
      have hla := (hoa.block (w.heap.size + 1) hlt).trans hl
      have hka := (hoa.block w.heap.size (by omega)).trans hk
      have hlta : w.heap.size + 1 < Wa.heap.size := Nat.lt_of_lt_of_le hlt hoa.size
      refine ⟨_, run_beginRound hla (by rw [hrec]), ?_⟩
      have hl2 : (Wa.putObj (w.heap.size + 1) (.loop { rec .ready none with state := .busy })).heap[w.heap.size + 1]? = some (.loop { rec .ready none with state := .busy }) := World.putObj_heap_same hlta
      have hk2 : (Wa.putObj (w.heap.size + 1) (.loop { rec .ready none with state := .busy })).heap[w.heap.size]? = some (.deferred (some [])) := (World.putObj_heap_other (by omega)).trans hka
      have hb2 : Below w.heap.size Wa (Wa.putObj (w.heap.size + 1) (.loop { rec .ready none with state := .busy })) := below_putObj _ _ _ (by omega)
      refine wpIn_mono (hbody _ pre x g a' _ (by have := hoa.size; simp; omega) (hI _ _ _ _ hia hb2 (fun b k hk => World.putObj_heap_other (fun e => by have := hg0 b k hk; have := (hIg _ _ _ hi b k hk).1; omega))) (hAx _ _ _ _ _ _ hax hla) hpre) ?_
      rintro e a3 W3 hp
      cases e with
      | normal =>
        obtain ⟨g', hi3, hb3, hk3, hg3⟩ := hp
        have hz3 := hb3.size
        have hl3 := (hk3 (w.heap.size + 1) (by omega) (by simp; omega) (fun b e => by have := hg0 b _ e; have := (hIg _ _ _ hi b _ e).1; omega)).trans hl2
        have hd3 := (hk3 w.heap.size (Nat.le_refl _) (by simp; omega) (fun b e => by have := hg0 b _ e; have := (hIg _ _ _ hi b _ e).1; omega)).trans hk2
        have hr := run_endRound (P := P) (none : Option Code) hl3
        have hsz3 : w.heap.size + 1 < W3.heap.size := (Array.getElem?_eq_some_iff.1 hl3).1
        have hzz : W.heap.size ≤ W3.heap.size := by have := hoa.size; simp at hz3; omega
        have hg0' : ∀ b k, g' = some (b, k) → w.heap.size + 2 ≤ b := fun b k e => by
          rcases hg3 b k e with h | ⟨j, h⟩
          · simp at h
            have := hoa.size
            omega
          · exact hg0 b j h
        have hb4 : Below w.heap.size W3 (W3.putObj (w.heap.size + 1) (.loop (rec .ready none))) := below_putObj _ _ _ (by omega)
        refine ⟨.bool true, W3.putObj (w.heap.size + 1) (.loop (rec .ready none)), ?_, .inl ⟨rfl, g', ⟨hI _ _ _ _ hi3 hb4 (fun b k hk => World.putObj_heap_other (fun e => by have := hg0' b k hk; have := (hIg _ _ _ hi3 b k hk).1; omega)), World.putObj_heap_same hsz3, (World.putObj_heap_other (by omega)).trans hd3, by simp; omega, hg0'⟩, ?_, ?_, ?_⟩⟩
        · rw [hrec] at hr ⊢; exact hr
        · exact ((hoa.mono (by omega)).trans (hb2.mono hn₀)).trans (hb3.trans (hb4.mono hn₀))
        · intro k h1 h2 h3
          have h4 : k ≠ w.heap.size + 1 := by omega
          exact (World.putObj_heap_other h4).trans ((hk3 k (by omega) (by have := hoa.size; simp; omega) h3).trans ((World.putObj_heap_other h4).trans (hoa.block k h2)))
        · intro b k e
          rcases hg3 b k e with h | h
          · exact .inl (by have := hoa.size; simp at h; omega)
          · exact .inr h
      | ret =>
        obtain ⟨hi3, hk3⟩ := hp
        have hl3 := (hk3 (w.heap.size + 1) (by omega) (by omega) (by simp; omega)).trans hl2
        have hd3 := (hk3 w.heap.size (Nat.le_refl _) (by omega) (by simp; omega)).trans hk2
        have hr := run_endRound (P := P) (some Code.ret) hl3
        have hsz3 : w.heap.size + 1 < W3.heap.size := (Array.getElem?_eq_some_iff.1 hl3).1
        refine ⟨.bool false, W3.putObj (w.heap.size + 1) (.loop (rec .done (some .ret))), ?_, .inr ⟨rfl, hIx _ _ _ hi3 (below_putObj _ _ _ (by omega)), World.putObj_heap_same hsz3, (World.putObj_heap_other (by omega)).trans hd3⟩⟩
        rw [hrec] at hr ⊢; exact hr
      | exit id => exact hp.elim
      | goto t => exact hp.elim
      | panic ch => exact hp.elim
      | outgrown => exact hp.elim
    · -- behind the iterator
      rintro e W2 ⟨⟨v, rfl⟩, (⟨g, hi, hl, hk, hz, hg0⟩ | ⟨pre, hSp, hi, hl, hk⟩)⟩
      · exact ⟨none, _, by have := run_endLoop (P := P) hl (by rw [hrec]; simp); rw [hrec] at this; exact this, hdone _ g _ rfl (hI _ _ _ _ hi (below_putObj _ _ _ (by omega)) (fun b k hk => World.putObj_heap_other (fun e => by have := hg0 b k hk; have := (hIg _ _ _ hi b k hk).1; omega))) hg0 ((World.putObj_heap_other (by omega)).trans hk)⟩
      · exact ⟨some .ret, _, by have := run_endLoop (P := P) hl (by rw [hrec]; simp); rw [hrec] at this; exact this, (wpIn_wide (n := 0)).2 (hstop _ pre _ rfl hSp (hIx _ _ _ hi (below_putObj _ _ _ (by omega))) ((World.putObj_heap_other (by omega)).trans hk))⟩
end Go.Proofs.Ytnifmdeojgfgcaa

namespace Go.Proofs.Ytnifmdeojgfgcaa
open Go.RowKit

/-- The contract of an iterator value: it hands on the list S, one after the other, unless a round says 'no more'; whatever the caller's invariants are that speak only of what lay ahead of the iterator's call, and tell what the iterator reads of the caller's (K). -/
def SeqK {α : Type} (P : Program) (gf : Nat) (rb lb : Array Value) (encs : α → Array Value) (n₀ : Nat) (K : World → Prop) (S : List α) (w : World) : Prop :=
  ∀ (l : Nat) (J Jx : List α → World → Prop) (W : World), Below w.heap.size w W →
    (∀ s A B, J s A → Below W.heap.size A B → J s B) → (∀ s A, J s A → K A) → (∀ s A B, Jx s A → Below W.heap.size A B → Jx s B) →
    (∀ pre x W1, J pre W1 → pre ++ [x] <+: S → YieldAt Fence.wide 0 P l (encs x) W1 fun e W' =>
      (e = .returned (.bool true) ∧ J (pre ++ [x]) W' ∧ Outside n₀ W.heap.size W1 W') ∨ (e = .returned (.bool false) ∧ Jx (pre ++ [x]) W')) →
    J [] W →
    Calls P gf (rb ++ #[.func (.yield l) #[] #[]] ++ lb) W fun e W' => (∃ v, e = .returned v) ∧ (J S W' ∨ ∃ pre, pre <+: S ∧ Jx pre W')

theorem SeqX.toK {α : Type} {P : Program} {gf : Nat} {rb lb : Array Value} {encs : α → Array Value} {n₀ : Nat} {K : World → Prop} {S : List α} {w : World} (h : SeqX P gf rb lb encs n₀ K S w) : SeqK P gf rb lb encs n₀ K S w := by
  intro l J Jx W hW hJ hK hJx hY h0
  refine (h l (fun s g A => g = none ∧ J s A) Jx W hW (fun s g A B q hb _ => ⟨q.1, hJ _ _ _ q.2 hb⟩) (fun s g A q b k hk => by rw [q.1] at hk; cases hk) (fun s g A q => hK _ _ q.2) hJx ?_ ⟨rfl, h0⟩).mono ?_
  · rintro pre x g W1 ⟨rfl, q⟩ hz hpre
    obtain ⟨fn, tmps, assign, body, hy, hR⟩ := hY pre x W1 q hpre
    refine ⟨fn, tmps, assign, body, hy, hR.mono ?_⟩
    rintro e W' (⟨rfl, k1, k2⟩ | ⟨rfl, k1⟩)
    · exact .inl ⟨rfl, none, ⟨rfl, k1⟩, k2.below, fun k hk hl _ => k2.beyond k hk hl, fun b k hk => by cases hk⟩
    · exact .inr ⟨rfl, k1⟩
  · rintro e W' ⟨hv, ⟨g, _, q⟩ | q⟩
    · exact ⟨hv, .inl q⟩
    · exact ⟨hv, .inr q⟩

/-- The statement. -/
theorem wp_rangeFunc_K {α : Type} {P : Program} {g : Operand} {ps : Array Tmp} {assign body : Code} {Q : Exit → Act → World → Prop} {a : Act} {w : World}
    {gf : Nat} {rb lb : Array Value} (hg : a.eval g = .func (.func gf) rb lb) (eg : ∀ args w, (callFunc gf args).run P w = .ok (.enter gf args) w)
    {encs : α → Array Value} {n₀ : Nat} (hn₀ : n₀ ≤ w.heap.size) {S : List α} {K : World → Prop} (hseq : SeqK P gf rb lb encs n₀ K S w) (hps : ∀ x, (encs x).size = ps.size)
    (I : List α → World → Prop) (Ix : Code → List α → World → Prop) (hI : ∀ s A B, I s A → Below w.heap.size A B → I s B) (hIK : ∀ s A, I s A → K A) (hIx : ∀ c s A B, Ix c s A → Below w.heap.size A B → Ix c s B) (h0 : I [] w)
    (Ax : α → Act → World → Prop) (hAx : ∀ x a' A l r o, Ax x a' A → A.heap[l]? = some (.loop r) → Ax x a' (A.putObj l o))
    (hassign : ∀ (l : Nat) (pre : List α) (x : α) (W : World) (K' : Act → World → Prop), w.heap.size ≤ W.heap.size → I pre W → (∀ a' W', Outside n₀ w.heap.size W W' → I pre W' → Ax x a' W' → K' a' W') →
      assign.wpIn (Fence.wide.inRound l) 0 P (Exit.then K' (fun _ _ _ => False)) { tmps := (ps.zip (encs x)).foldl (fun t (p, v) => t.setIfInBounds p v) a.tmps, defers := [] } W)
    (hbody : ∀ (l : Nat) (pre : List α) (x : α) (a' : Act) (W : World), w.heap.size ≤ W.heap.size → I pre W → Ax x a' W → pre ++ [x] <+: S → body.wpIn (Fence.wide.inRound l) 0 P (postT n₀ w.heap.size I Ix (pre ++ [x]) W) a' W)
    (hdone : ∀ (D : Nat) (W : World), w.heap.size ≤ D → I S W → W.heap[D]? = some (.deferred (some [])) → Q .normal { a with defers := { target := .collected D, args := #[] } :: a.defers } W)
    (hstop : ∀ (D : Nat) (c : Code) (pre : List α) (W : World), w.heap.size ≤ D → pre <+: S → Ix c pre W → W.heap[D]? = some (.deferred (some [])) → c.wp P Q { a with defers := { target := .collected D, args := #[] } :: a.defers } W) :
    (Code.rangeFunc g ps assign body).wp P Q a w := by
  refine (wpIn_wide (n := 0)).1 (wpIn_rangeFunc ?_)
  intro fn hfn
  obtain ⟨rec, hrec⟩ : ∃ rec : LoopState → Option Code → Loop, rec = fun st pe => { state := st, pending := pe, fn, tmps := a.tmps, params := ps, assign, body, defers := w.heap.size } := ⟨_, rfl⟩
  obtain ⟨W1, hW1⟩ : ∃ W1, (w.alloc (.deferred (some []))).alloc (.loop (rec .ready none)) = W1 := ⟨_, rfl⟩
  have hL1 : W1.heap[w.heap.size + 1]? = some (.loop (rec .ready none)) := by
    rw [← hW1]; have := World.alloc_heap_new (w.alloc (.deferred (some []))) (.loop (rec .ready none)); rwa [World.size_alloc] at this
  have hK1 : W1.heap[w.heap.size]? = some (.deferred (some [])) := by
    rw [← hW1]; exact (Below.heap_alloc _ _ _ (by simp)).trans (World.alloc_heap_new w _)
  have hb1 : Below w.heap.size w W1 := by
    rw [← hW1]; exact ((Below.refl _ w).alloc (Nat.le_refl _) _).alloc (by simp) _
  have hs1 : W1.heap.size = w.heap.size + 2 := by rw [← hW1]; simp
  have hI1 : I [] W1 := hI _ _ _ h0 hb1
  refine ⟨w.heap.size + 1, [{ target := .collected w.heap.size, args := #[] }], W1, { target := .fn (.func gf) lb, args := rb ++ #[.func (.yield (w.heap.size + 1)) #[] #[]] }, W1, gf,
    rb ++ #[.func (.yield (w.heap.size + 1)) #[] #[]] ++ lb, W1, ?_, ?_, ?_, ?_, fun h => by simp [Fence.wide] at h, ?_⟩
  · rw [← hW1, hrec]; exact run_enterLoop_outer _ _ _ _ _
  · simp only [resolve, hg]
    simp [go_sem, Deferred.ofValue]
  · intro f' hf'; trivial
  · simp [invoke, go_sem, eg]
  · refine callsIn_wide.2 ?_
    refine (hseq (w.heap.size + 1)
      (fun pre W => I pre W ∧ W.heap[w.heap.size + 1]? = some (.loop (rec .ready none)) ∧ W.heap[w.heap.size]? = some (.deferred (some [])) ∧ w.heap.size ≤ W.heap.size)
      (fun pre W => ∃ c, Ix c pre W ∧ W.heap[w.heap.size + 1]? = some (.loop (rec .done (some c))) ∧ W.heap[w.heap.size]? = some (.deferred (some [])))
      W1 hb1
      (fun s A B hs hg' => ⟨hI s A B hs.1 (hg'.mono (by omega)), (hg'.block _ (by omega)).trans hs.2.1, (hg'.block _ (by omega)).trans hs.2.2.1, Nat.le_trans hs.2.2.2 hg'.size⟩)
      (fun s A hs => hIK s A hs.1)
      (fun s A B hs hg' => by
        obtain ⟨c, hc, hl, hk⟩ := hs
        exact ⟨c, hIx c s A B hc (hg'.mono (by omega)), (hg'.block _ (by omega)).trans hl, (hg'.block _ (by omega)).trans hk⟩)
      ?_ ⟨hI1, hL1, hK1, hb1.size⟩).mono ?_
    · -- one round
      rintro pre x W ⟨hi, hl, hk, hsz⟩ hpre
      have hlt : w.heap.size + 1 < W.heap.size := (Array.getElem?_eq_some_iff.1 hl).1
      have hy := run_yield (P := P) (args := encs x) hl (by rw [hrec]; exact hps x)
      rw [hrec] at hy
      refine ⟨fn, _, assign, body, hy, roundIn_of_wpIn trivial (hassign _ pre x W _ hsz hi ?_)⟩
      clear hy
      intro a' Wa hoa hia hax
      have hla := (hoa.beyond _ (by omega) hlt).trans hl
      have hka := (hoa.beyond _ (Nat.le_refl _) (by omega)).trans hk
      have hlta : w.heap.size + 1 < Wa.heap.size := Nat.lt_of_lt_of_le hlt hoa.below.size
      refine ⟨_, run_beginRound hla (by rw [hrec]), ?_⟩
      have hl2 : (Wa.putObj (w.heap.size + 1) (.loop { rec .ready none with state := .busy })).heap[w.heap.size + 1]? = some (.loop { rec .ready none with state := .busy }) := World.putObj_heap_same hlta
      have hk2 : (Wa.putObj (w.heap.size + 1) (.loop { rec .ready none with state := .busy })).heap[w.heap.size]? = some (.deferred (some [])) := (World.putObj_heap_other (by omega)).trans hka
      have hb2 : Below w.heap.size Wa (Wa.putObj (w.heap.size + 1) (.loop { rec .ready none with state := .busy })) := below_putObj _ _ _ (by omega)
      refine wpIn_mono (hbody _ pre x a' _ (by simp; omega) (hI _ _ _ hia hb2) (hAx _ _ _ _ _ _ hax hla) hpre) ?_
      have fin : ∀ (jump : Option Code) (W3 : World), Outside n₀ w.heap.size (Wa.putObj (w.heap.size + 1) (.loop { rec .ready none with state := .busy })) W3 →
          (Instr.endRound (w.heap.size + 1) jump).run P W3 = .ok (.bool jump.isNone) (W3.putObj (w.heap.size + 1) (.loop (rec (if jump.isNone then .ready else .done) jump))) ∧
          (W3.putObj (w.heap.size + 1) (.loop (rec (if jump.isNone then .ready else .done) jump))).heap[w.heap.size + 1]? = some (.loop (rec (if jump.isNone then .ready else .done) jump)) ∧
          (W3.putObj (w.heap.size + 1) (.loop (rec (if jump.isNone then .ready else .done) jump))).heap[w.heap.size]? = some (.deferred (some [])) ∧
          Below w.heap.size W3 (W3.putObj (w.heap.size + 1) (.loop (rec (if jump.isNone then .ready else .done) jump))) ∧
          Outside n₀ W1.heap.size W (W3.putObj (w.heap.size + 1) (.loop (rec (if jump.isNone then .ready else .done) jump))) := fun jump W3 ho3 => by
        have hl3 := (ho3.beyond (w.heap.size + 1) (by omega) (by simp; omega)).trans hl2
        have hk3 := (ho3.beyond w.heap.size (Nat.le_refl _) (by simp; omega)).trans hk2
        have hr := run_endRound (P := P) jump hl3
        have hsz3 : w.heap.size + 1 < W3.heap.size := (Array.getElem?_eq_some_iff.1 hl3).1
        refine ⟨?_, World.putObj_heap_same hsz3, (World.putObj_heap_other (by omega)).trans hk3, below_putObj _ _ _ (by omega), ?_⟩
        · rw [hrec] at hr ⊢; exact hr
        · have e1 : Outside n₀ W1.heap.size Wa (Wa.putObj (w.heap.size + 1) (.loop { rec .ready none with state := .busy })) := Outside.of_grown (grown_putObj _ _ _) (by omega) (by omega) (by omega)
          have e2 : Outside n₀ W1.heap.size W3 (W3.putObj (w.heap.size + 1) (.loop (rec (if jump.isNone then .ready else .done) jump))) := Outside.of_grown (grown_putObj _ _ _) (by omega) (by omega) (by omega)
          exact (((hoa.weak (by omega)).trans e1).trans (ho3.weak (by omega))).trans e2
      rintro e a3 W3 hp
      cases e with
      | normal =>
        obtain ⟨hk3, hi3⟩ := hp
        obtain ⟨hr, hl4, hk4, hb4, ho4⟩ := fin none W3 hk3
        exact ⟨_, _, hr, .inl ⟨rfl, ⟨hI _ _ _ hi3 hb4, hl4, hk4, Nat.le_trans (by have := hk3.below.size; simp at this; omega) hb4.size⟩, ho4⟩⟩
      | ret =>
        obtain ⟨hk3, hi3⟩ := hp
        obtain ⟨hr, hl4, hk4, hb4, ho4⟩ := fin (some .ret) W3 hk3
        exact ⟨_, _, hr, .inr ⟨rfl, .ret, hIx _ _ _ _ hi3 hb4, hl4, hk4⟩⟩
      | exit id =>
        obtain ⟨hk3, hi3⟩ := hp
        obtain ⟨hr, hl4, hk4, hb4, ho4⟩ := fin (some (.exit id)) W3 hk3
        exact ⟨_, _, hr, .inr ⟨rfl, .exit id, hIx _ _ _ _ hi3 hb4, hl4, hk4⟩⟩
      | goto t =>
        obtain ⟨hk3, hi3⟩ := hp
        obtain ⟨hr, hl4, hk4, hb4, ho4⟩ := fin (some (.goto t)) W3 hk3
        exact ⟨_, _, hr, .inr ⟨rfl, .goto t, hIx _ _ _ _ hi3 hb4, hl4, hk4⟩⟩
      | panic ch => exact hp.elim
      | outgrown => exact hp.elim
    · -- behind the iterator
      rintro e W2 ⟨⟨v, rfl⟩, (⟨hi, hl, hk, _⟩ | ⟨pre, hSp, c, hi, hl, hk⟩)⟩
      · exact ⟨none, _, by have := run_endLoop (P := P) hl (by rw [hrec]; simp); rw [hrec] at this; exact this, hdone _ _ (Nat.le_refl _) (hI _ _ _ hi (below_putObj _ _ _ (by omega))) ((World.putObj_heap_other (by omega)).trans hk)⟩
      · exact ⟨some c, _, by have := run_endLoop (P := P) hl (by rw [hrec]; simp); rw [hrec] at this; exact this, (wpIn_wide (n := 0)).2 (hstop _ c pre _ (Nat.le_refl _) hSp (hIx _ _ _ _ hi (below_putObj _ _ _ (by omega))) ((World.putObj_heap_other (by omega)).trans hk))⟩
end Go.Proofs.Ytnifmdeojgfgcaa

namespace Go.Proofs.Ytnifmdeojgfgcaa
open Go.ChangeShapes Go.WideShapes Go.ChangeAt Go.RowKit Go.Shelf
attribute [local irreducible] Go.Calls
attribute [local go_sem] Oper.semAt_some

/-- What yield is handed. -/
def encK (x : Nat) : Array Value := #[.int .i64 x]
/-- What the iterator reads. -/
def ItK (l : List Prt) (a : Option Addr) (cap p ba bl : Nat) (W : World) : Prop := Blk W ba #[.int .i64 p] 3 ∧ Blk W bl #[.slice a l.length cap] 22 ∧ ArgP W a l
theorem children_c (a : Option Addr) (n cap p : Nat) (w : World) : Calls Try.prog 25 #[.slice a n cap, .int .i64 p] w fun e w' => e = .returned (.func (.func 31) #[] #[.pointer (some ⟨w.heap.size + 1, 0, none⟩), .pointer (some ⟨w.heap.size, 0, none⟩)]) ∧ Blk w' (w.heap.size + 1) #[.int .i64 p] 3 ∧ Blk w' w.heap.size #[.slice a n cap] 22 ∧ Below w.heap.size w w' := by
  go_enter Try.func25, Try.ntmps25
  go_wp2
  go_ret
  exact ⟨rfl, Blk.made_at _ _ _ _ (by simp), (Blk.made _ _ _).alloc _, by (repeat (first | exact Below.refl _ _ | assumption | refine balloc ?_ _ | refine below_drewN ?_ _ | refine bstep (by assumption) ?_ | refine bstep (Past.prop _) ?_ | refine Below.setCell ?_ (by first | exact Nat.le_refl _ | (simp; done) | (simp; omega)) _))⟩
set_option maxRecDepth 100000 in
set_option maxHeartbeats 2000000 in
theorem kids_it (l : List Prt) (a : Option Addr) (cap p ba bl n0 : Nat) (w : World) (hl : l.length ≤ 1000000) (ht : (treeS l).2 = 0) (hp : p < l.length) :
    SeqX Try.prog 31 #[] #[.pointer (some ⟨ba, 0, none⟩), .pointer (some ⟨bl, 0, none⟩)] encK n0 (ItK l a cap p ba bl) (kidsS l p) w := by
  intro l' J Jx W hW hJ hJg hK hJx hY h0
  have hH := tree_hang ht
  have hkd := hidE (fun k hk => hH.kid p k hp hk)
  have hup := hidE (hH.up p hp).2
  have hks := tree_kids ht hp
  rw [show l.getD p ⟨0, 0, 0, 0, 0⟩ = prN l p from rfl] at hks
  obtain ⟨k1, k2, k3⟩ := hK _ _ _ h0
  obtain ⟨b, off, rfl, hbb, hc⟩ := k3 (by omega)
  have c4 := (hc.get hp).2.2.2.2
  rw [show l.getD p pr0 = prN l p from rfl] at c4
  have b0 := k1.cell 0; have b1 := k2.cell 0; have z0 := k1.lt; have z1 := k2.lt
  simp at b0 b1
  obtain ⟨K, hKe⟩ : ∃ K : Nat, (prN l p).kids = (K : Int) := ⟨(prN l p).kids.toNat, by omega⟩
  have HKS := hidE (show kidsS l p = kidsGo l K (p + 1) by unfold kidsS; rw [show l.getD p ⟨0, 0, 0, 0, 0⟩ = prN l p from rfl, hKe]; rfl)
  rw [hKe] at c4
  have hKN : (prN l p).kids.toNat = K := by omega
  rw [hKN] at hkd
  have hK16 : K ≤ 16 := by omega
  have H0 := hidE h0; have HK := hidE hK; have HY := hidE hY; have HJ := hidE hJ; have HJG := hidE hJg
  clear hJ hJg hJx hY h0 hK hW hH hks hKe hKN k1 k2 k3 hc
  have w1 : IntKind.i64.wrap ((p : Int) + 1) = (p : Int) + 1 := IntWalk.i64_in _ (by omega)
  show Calls Try.prog 31 #[.func (.yield l') #[] #[], .pointer (some ⟨ba, 0, none⟩), .pointer (some ⟨bl, 0, none⟩)] W _
  go_enter Try.func31, Try.ntmps31
  go_wp2_with fail
  go_loopg [4, 12] K (fun gh v4 v12 wr => ∃ (k : Nat) (pre : List Nat) (g : Option (Nat × Nat)), k ≤ K ∧ K - k ≤ gh ∧ v12 = .int .i64 k ∧ v4 = .int .i64 (kidAt l (p + 1) k) ∧ pre ++ kidsGo l (K - k) (kidAt l (p + 1) k) = kidsS l p ∧ J pre g wr ∧ W.heap.size ≤ wr.heap.size)
  case atStart => exact ⟨0, [], none, Nat.zero_le _, Nat.le_refl _, rfl, by simp [kidAt], HKS.out.symm, H0.out, Nat.le_refl _⟩
  case round =>
    obtain ⟨k, pre, g, hkk, hgh, rfl, rfl, hpre, hJ1, hsz⟩ := hrel
    have HJ1 := hidE hJ1; have HPRE := hidE hpre; have HG := hidE hgh; have HSZ := hidE hsz
    clear hJ1 hpre hgh hsz c4 b0 b1 z0 z1
    obtain ⟨wo, hwo⟩ : ∃ wo : World, wo = wr := ⟨_, rfl⟩
    by_cases hlt : k < K
    · have d1 : decide ((k : Int) < (K : Int)) = true := decide_eq_true (by omega)
      have d1' : decide (k < K) = true := decide_eq_true hlt
      have HP2 := hidE (show pre ++ [kidAt l (p + 1) k] ++ kidsGo l (K - (k + 1)) (kidAt l (p + 1) (k + 1)) = kidsS l p by
        rw [← HPRE.out, show K - k = K - (k + 1) + 1 by omega, List.append_assoc]; rfl)
      have hpx : pre ++ [kidAt l (p + 1) k] <+: kidsS l p := ⟨_, HP2.out⟩
      obtain ⟨fn, tmps, assign, body, hy, hR⟩ := HY.out pre _ g _ HJ1.out HSZ.out hpx
      dsimp only [encK] at hy
      have HPX := hidE hpx
      have h1 := hkd.out k hlt
      have h3 := hup.out
      have hql : kidAt l (p + 1) k < l.length := by omega
      have HKN := hidE (show kidAt l (p + 1) (k + 1) = endS l (kidAt l (p + 1) k) from rfl)
      clear HPRE hpx h1 h3
      generalize kidAt l (p + 1) k = q at *
      have HE := hidE (fun w' hA' => end8_c l (some ⟨b, off, none⟩) cap hl ht _ q w' (Nat.le_refl _) hql hA')
      go_upto_region 3 with fail
      refine (wpIn_wide (n := 0)).1 ?_
      gi_wp2
      refine ⟨rfl, hR.mono ?_⟩
      clear hy hR
      rintro e W' (⟨rfl, g', hJ', hO, _, _⟩ | ⟨rfl, hJx'⟩)
      · obtain ⟨k1, k2, k3⟩ := HK.out _ _ _ hJ'
        have b1 := k2.cell 0; have z1 := k2.lt
        simp at b1
        have HJ' := hidE hJ'; have HO := hidE hO; have K3 := hidE k3
        clear k1 k2 k3 hJ' hO
        generalize endS l q = q2 at *
        gi_wp2
        go_wp2_with (go_at_call 26; (with_reducible refine (HE.out _ K3.out).mono ?_); rintro e w2 ⟨rfl, hb2⟩)
        go_roundg (K - (k + 1))
        case measure => have := HG.out; omega
        case rel =>
          have hs1 := HO.out.size
          have hs2 := HSZ.out
          exact ⟨k + 1, pre ++ [q], g', by omega, Nat.le_refl _, by go_num, by rw [HKN.out], HP2.out, HJ.out _ _ _ _ HJ'.out (hb2.mono (by omega)) (fun b k e => hb2.block k (HJG.out _ _ _ HJ'.out b k e).2), by have := hb2.size; omega⟩
      · gi_wp2
        go_wp2
        refine bodyPost_ret (results_none rfl _ _ _) rfl ?_
        exact ⟨⟨_, rfl⟩, .inr ⟨_, HPX.out, hJx'⟩⟩
    · obtain rfl : k = K := by omega
      have d1 : decide ((k : Int) < (k : Int)) = false := decide_eq_false (by omega)
      have d1' : decide (k < k) = false := decide_eq_false (by omega)
      have HP2 := hidE (show pre = kidsS l p by rw [← HPRE.out, Nat.sub_self]; simp [kidsGo])
      clear HPRE
      go_wp2
      go_end0
      exact ⟨⟨_, rfl⟩, .inl ⟨g, by rw [← HP2.out]; exact HJ1.out⟩⟩
end Go.Proofs.Ytnifmdeojgfgcaa

namespace Go.Proofs.Ytnifmdeojgfgcaa
open Go.ChangeShapes Go.WideShapes Go.ChangeAt Go.RowKit
attribute [local irreducible] Go.Calls

theorem new8_at (w : World) (cs : Array Value) (t : TypeId) (k : Nat) (h : k = w.heap.size) : ∀ j u, cs.toList[j]? = some u → (w.alloc (.cells cs t)).cell? ((⟨k, 0, none⟩ : Addr).add j) = some u := h ▸ new_cellsB w cs t
theorem may_zero {l : List Prt} {z : Int} (h : mayS l z = 0) : ∃ p : Nat, z = (p : Int) ∧ p < l.length ∧ (treeS l).2 = 0 := by
  obtain ⟨h1, h2, h3⟩ := may_tree h
  exact ⟨z.toNat, by omega, by omega, h1⟩
theorem shend_c (l : List Prt) (z : Int) (a : Option Addr) (cap : Nat) (w : World) (hl : l.length ≤ 100000) (hA : ArgP w a l) (hz : -9223372036854775808 ≤ z ∧ z ≤ 9223372036854775807) :
    Calls Try.prog 14 #[.slice a l.length cap, .int .i64 z] w fun e w' => e = .returned (.tuple #[.int .i64 (if mayS l z = 0 then endS l z.toNat else 0 : Nat), .int .i64 (mayS l z)]) ∧ Below w.heap.size w w' := by
  have HW := hidE (wrong8_c l z a cap w (by omega) hA hz)
  by_cases hm : mayS l z = 0
  · rw [if_pos hm]
    obtain ⟨p, rfl, hp, ht⟩ := may_zero hm
    have HE := hidE (fun w' (hb : Below w.heap.size w w') => end8_c l a cap (by omega) ht _ p w' (Nat.le_refl _) hp (hA.past hb))
    rw [hm] at HW ⊢
    rw [Int.toNat_natCast]
    clear hA hm
    generalize endS l p = q at *
    go_enter Try.func14, Try.ntmps14
    go_wp2_with fail
    ((with_reducible refine HW.out.mono ?_); rintro e w1 ⟨rfl, hb1⟩)
    go_wp2_with fail
    ((with_reducible refine (HE.out _ hb1).mono ?_); rintro e w2 ⟨rfl, hb2⟩)
    go_wp2
    go_ret2
    exact ⟨rfl, hb1.trans (hb2.mono hb1.size)⟩
  · rw [if_neg hm]
    have q : (mayS l z != 0) = true := bne_iff_ne.2 hm
    clear hA hm
    generalize mayS l z = y at *
    go_enter Try.func14, Try.ntmps14
    go_wp2_with fail
    ((with_reducible refine HW.out.mono ?_); rintro e w1 ⟨rfl, hb1⟩)
    go_wp2
    go_ret2
    exact ⟨rfl, hb1⟩
set_option maxHeartbeats 2000000 in
theorem shatoms_c (l : List Prt) (a : Option Addr) (cap : Nat) (w : World) (hl : l.length ≤ 100000) (hA : ArgP w a l) :
    Calls Try.prog 11 #[.slice a l.length cap] w fun e w' => ∃ v, e = .returned v ∧ SliN w' v (atomsS8 l) ∧ Below w.heap.size w w' := by
  have HA := hidE hA
  clear hA
  obtain ⟨ix, hix, hz0, hzz, hz4⟩ := info_parts Try.infoIntL
  have HI := hidE hix; have HZ0 := hidE hz0; have HZ1 := hidE hzz; have HZ2 := hidE hz4
  clear hix hz0 hzz hz4
  go_enter Try.func11, Try.ntmps11
  go_wp2
  go_loopg [3, 8] l.length (fun gh v3 v8 wr => ∃ k : Nat, k ≤ l.length ∧ l.length - k ≤ gh ∧ v8 = .int .i64 k ∧ wr.ownsRow w.heap.size 3 1 v3 (atmN l k).length (cellsK .i64 (natsI (atmN l k))) ∧ Below w.heap.size w wr)
  case atStart => exact ⟨0, Nat.zero_le _, Nat.le_refl _, rfl, show w.ownsRow w.heap.size 3 1 _ 0 [] from own_nil _ _ _, Below.refl _ _⟩
  case round =>
    obtain ⟨k, hkk, hgh, rfl, hown, hb⟩ := hrel
    obtain ⟨av, cp, rfl⟩ := own_sli hown
    have HB := hidE hb; have HO := hidE hown; have HG := hidE hgh
    have hws := hb.size
    clear hown hb hgh
    have hal := atmN_len l k
    by_cases hlt : k < l.length
    · obtain ⟨b, off, rfl, hbb, hc⟩ := (HA.out.past HB.out) (by omega)
      obtain ⟨c0, c1, c2, c3, c4⟩ := hc.get hlt
      rw [show l.getD k pr0 = l.getD k ⟨0, 0, 0, 0, 0⟩ from rfl] at c0 c1 c2 c3 c4
      have r1 : decide ((k : Int) < (l.length : Int)) = true := decide_eq_true (by omega)
      have r2 : decide (k < l.length) = true := decide_eq_true hlt
      have HSN := hidE (atmN_succ l k)
      clear hc
      generalize (l.getD k ⟨0, 0, 0, 0, 0⟩) = x at *
      obtain ⟨kd, n, g, d, ks⟩ := x
      simp only at c0 c1 c2 c3 c4 HSN
      by_cases hk0 : kd = 0
      · rw [if_pos hk0] at HSN
        have s1 : ((kd : Int) == 0) = true := by rw [hk0]; rfl
        clear hk0
        have HO' := hidE (own_below HO.out (((Below.refl _ _).alloc (Nat.le_refl _) (.cells #[.int .u8 kd, .int .u32 n, .int .u32 g, .int .i64 d, .int .i64 ks] 42)).alloc (by simp) (.cells #[.int .i64 k] 3)))
        generalize atmN l k = A0 at *
        go_wp2_with (first | (at_builtin; refine wpList_append_own _ rfl (.tmp 16) (.tmp 18) 32 rfl w.heap.size 3 ix (.int .i64 0) 1 8 Try.underlying32 HI.out HZ0.out HZ1.out HZ2.out rfl (by decide) _ _ _ rfl HO'.out ⟨wr.heap.size + 1, 0, none⟩ 1 1 [.int .i64 k] rfl rfl (new8_at _ #[.int .i64 k] 3 _ (by simp)) (by intro y hy; simp at hy; rcases hy with rfl; rfl) (by unfold maxLen; omega) (by omega) (by simp; omega) ?_; intro v4 w4 hown4 hgrow4 hnil4; obtain ⟨a4, c4', rfl⟩ := own_sli hown4; have HG4 := hidE hgrow4; have HO4 := hidE hown4; clear hgrow4 hown4 hnil4 c0 c1 c2 c3 c4) | fail)
        go_roundg (l.length - (k + 1))
        case measure => have := HG.out; omega
        case rel =>
          refine ⟨k + 1, by omega, Nat.le_refl _, by go_num, ?_, HB.out.trans (Below.grown (((Below.refl _ wr).alloc (by omega) _).alloc (by simp; omega) _) HG4.out (by simp; omega) (fun k e => own_block HO.out (show (Value.slice av _ cp).ownBlock = some k from e)))⟩
          rw [HSN.out, List.length_append, natsI_app, cellsK_app]
          exact HO4.out
      · rw [if_neg hk0, List.append_nil] at HSN
        have s1 : ((kd : Int) == 0) = false := beq_eq_false_iff_ne.2 (by omega)
        clear hk0
        have HO' := hidE (own_below HO.out ((Below.refl _ _).alloc (Nat.le_refl _) (.cells #[.int .u8 kd, .int .u32 n, .int .u32 g, .int .i64 d, .int .i64 ks] 42)))
        generalize atmN l k = A0 at *
        go_wp2
        go_roundg (l.length - (k + 1))
        case measure => have := HG.out; omega
        case rel => exact ⟨k + 1, by omega, Nat.le_refl _, by go_num, by rw [HSN.out]; exact HO'.out, HB.out.trans ((Below.refl _ wr).alloc (by omega) _)⟩
    · have r1 : decide ((k : Int) < (l.length : Int)) = false := decide_eq_false (by omega)
      have r2 : decide (k < l.length) = false := decide_eq_false hlt
      obtain rfl : k = l.length := by omega
      go_wp2
      go_ret
      refine ⟨_, rfl, ?_, HB.out⟩
      exact sliN_own HO.out
end Go.Proofs.Ytnifmdeojgfgcaa

namespace Go.Proofs.Ytnifmdeojgfgcaa
open Go.ChangeShapes Go.WideShapes Go.ChangeAt Go.RowKit Go.Shelf
attribute [local irreducible] Go.Calls
attribute [local go_sem] Oper.semAt_some

theorem kidsS_length {l : List Prt} (ht : (treeS l).2 = 0) {p : Nat} (hp : p < l.length) : (kidsS l p).length ≤ 16 := by
  unfold kidsS
  rw [kidsGo_len]
  have := tree_kids ht hp
  omega
theorem itK_keep {l : List Prt} {a : Option Addr} {cap p ba bl n : Nat} {A B : World} (h : ItK l a cap p ba bl A) (h1 : ba < n) (h2 : bl < n) (h3 : 0 < l.length → ∃ b, (∃ o, a = some ⟨b, o, none⟩) ∧ b < n) (hb : Below n A B) : ItK l a cap p ba bl B := by
  refine ⟨h.1.below hb h1, h.2.1.below hb h2, fun hl => ?_⟩
  obtain ⟨b, off, rfl, q1, q2⟩ := h.2.2 hl
  obtain ⟨b', ⟨o', e⟩, q⟩ := h3 hl
  cases e
  exact ⟨b, off, rfl, Nat.lt_of_lt_of_le q1 hb.size, q2.below hb q⟩
/-- Between two rounds. -/
structure KidI (w : World) (l : List Prt) (b off cap p ba bl P : Nat) (pre : List Nat) (g : Option (Nat × Nat)) (W : World) : Prop where
  own : OwnI w P 32 3 1 pre.length (cellsK .i64 (natsI pre)) g W
  it : ItK l (some ⟨b, off, none⟩) cap p ba bl W
  base : ∀ b k, g = some (b, k) → ba < b
set_option maxRecDepth 100000 in
set_option maxHeartbeats 2000000 in
theorem shkids_c (l : List Prt) (z : Int) (a : Option Addr) (cap : Nat) (w : World) (hl : l.length ≤ 100000) (hA : ArgP w a l) (hz : -9223372036854775808 ≤ z ∧ z ≤ 9223372036854775807) :
    Calls Try.prog 13 #[.slice a l.length cap, .int .i64 z] w fun e w' => ∃ v, e = .returned (.tuple #[v, .int .i64 (mayS l z)]) ∧ SliN w' v (if mayS l z = 0 then kidsS l z.toNat else []) ∧ Below w.heap.size w w' ∧ (∀ k, v.ownBlock = some k → w.heap.size ≤ k) := by
  have HW := hidE (wrong8_c l z a cap w (by omega) hA hz)
  by_cases hm : mayS l z = 0
  · rw [if_pos hm]
    obtain ⟨p, rfl, hp, ht⟩ := may_zero hm
    rw [hm] at HW ⊢
    rw [Int.toNat_natCast]
    obtain ⟨b, off, rfl, hbb, hc⟩ := hA (by omega)
    have HA := hidE (show ArgP w (some ⟨b, off, none⟩) l from hA)
    have HLN := hidE (kidsS_length ht hp)
    clear hA hm hc
    refine (callsIn_wide (n := 0)).1 (callsIn_of_wp_marks Try.func13 rfl trivial ((wpIn_wide (n := 0)).2 ?_))
    simp only [Try.ntmps13, List.size_toArray, List.length_cons, List.length_nil, Nat.reduceAdd, Nat.reduceSub, Array.replicate_succ, Array.replicate_zero, List.push_toArray, List.append_toArray, List.nil_append, List.cons_append]
    go_wp2_with fail
    ((with_reducible refine HW.out.mono ?_); rintro e w1 ⟨rfl, hb1⟩)
    go_wp2_with fail
    obtain ⟨w2, hw2⟩ : ∃ w2, w2 = w1.alloc (Obj.cells #[.slice none 0 0] 32) := ⟨_, rfl⟩
    have hz2 : w2.heap.size = w1.heap.size + 1 := by rw [hw2]; simp
    have hb2 : Below w.heap.size w w2 := by rw [hw2]; exact hb1.alloc hb1.size _
    have hB2 : Blk w2 w1.heap.size #[.slice none 0 0] 32 := by rw [hw2]; exact Blk.made _ _ _
    have hwp : w.heap.size ≤ w1.heap.size := hb1.size
    rw [← hw2]
    clear hw2 hb1
    ((with_reducible refine (children_c _ _ _ _ _).mono ?_); rintro e w3 ⟨rfl, hba, hbl, hb3⟩)
    have hb3z := hb3.size
    rw [hz2] at hba hbl hb3z
    have hz3 := hba.lt
    have hb13 := hb2.trans (hb3.mono hb2.size)
    have hI0 : KidI w l b off cap p (w1.heap.size + 1 + 1) (w1.heap.size + 1) w1.heap.size [] none w3 :=
      ⟨⟨.slice none 0 0, w3.heap.size, hB2.past hb3, hb13, own_nil _ _ _, by omega, Nat.le_refl _, .inl ⟨rfl, rfl⟩⟩, ⟨hba, hbl, HA.out.past hb13⟩, fun b k e => by cases e⟩
    have HBB := hidE hb13
    clear hba hbl hb3 hb2 hB2 hb13 HW
    go_wp2
    refine wp_rangeFunc_X (n₀ := w.heap.size) (S := kidsS l p) rfl (enters_of Try.func31 (by kernel_rfl) rfl) HBB.out.size (kids_it l (some ⟨b, off, none⟩) cap p (w1.heap.size + 1 + 1) (w1.heap.size + 1) w.heap.size w3 (by omega) ht hp) (fun _ => rfl)
      (KidI w l b off cap p (w1.heap.size + 1 + 1) (w1.heap.size + 1) w1.heap.size) (fun s g A B h hb hk => ⟨ownI_keep (m := w3.heap.size) (by omega) (by omega) h.own hb hk, itK_keep h.it (by omega) (by omega) (fun _ => ⟨b, ⟨off, rfl⟩, by omega⟩) hb, h.base⟩) (fun s g A h => ownI_own h.own) (fun s g A h => h.it) hI0
      (fun _ _ => False) (fun s A B h hb => h)
      (fun x a1 W => ∃ (u0 u1 u2 u3 u4 u5 u6 u9 u10 u11 u12 u13 u14 u15 u16 u17 u18 u19 u20 u21 u22 u23 : Value), a1 = { tmps := #[u0, u1, u2, u3, u4, u5, u6, .pointer (some ⟨w1.heap.size, 0, none⟩), .int .i64 x, u9, u10, u11, u12, u13, u14, u15, u16, u17, u18, u19, u20, u21, u22, u23], defers := [] })
      ?hax ?assign ?body ?done ?stop
    case hax =>
      rintro x a1 A l r o ⟨u0, u1, u2, u3, u4, u5, u6, u9, u10, u11, u12, u13, u14, u15, u16, u17, u18, u19, u20, u21, u22, u23, h3⟩ hlr
      exact ⟨_, _, _, _, _, _, _, _, _, _, _, _, _, _, _, _, _, _, _, _, _, _, h3⟩
    case assign =>
      intro l pre x g W K hsz hi hK
      dsimp only [encK]
      gi_wp2
      exact hK _ _ (Below.refl _ _) hi ⟨_, _, _, _, _, _, _, _, _, _, _, _, _, _, _, _, _, _, _, _, _, _, rfl⟩
    case body =>
      rintro l' pre x g a1 W hsz hi ⟨u0, u1, u2, u3, u4, u5, u6, u9, u10, u11, u12, u13, u14, u15, u16, u17, u18, u19, u20, u21, u22, u23, rfl⟩ hpre
      obtain ⟨pre0, hpre0⟩ := hpre
      have hlen : pre.length < 16 := by
        have := HLN.out
        have h3 := congrArg List.length hpre0
        simp only [List.length_append, List.length_cons, List.length_nil] at h3
        omega
      obtain ⟨av, cp, γ, i1, i2, i3, i4, i5, i6, i7⟩ := ownI_base hi.own
      have t0 := i1.cell 0; have t1 := i1.lt; have tf := i1.free
      simp at t0
      obtain ⟨ix, hix, hz0, hzz, hz4⟩ := info_parts Try.infoIntL
      have HI := hidE hix; have HZ0 := hidE hz0; have HZ1 := hidE hzz; have HZ2 := hidE hz4
      have I1 := hidE i1; have I2 := hidE i2; have I3 := hidE i3; have I6 := hidE i6; have I7 := hidE i7; have HLI := hidE hi
      clear hI0 HLN hpre0 hi hix hz0 hzz hz4 i1 i2 i3 i6 i7
      gi_wp2_with (gi_at_builtin; refine wpListIn_append_own _ rfl (.tmp 19) (.tmp 21) 32 rfl γ 3 ix (.int .i64 0) 1 8 Try.underlying32 HI.out HZ0.out HZ1.out HZ2.out rfl (by decide) _ _ _ rfl (own_kept I3.out (fun k e => keptA (own_lt I3.out e) _)) ⟨_, 0, none⟩ 1 1 [.int .i64 x] rfl rfl (new_cellsB _ #[.int .i64 x] 3) (by intro y hy; simp at hy; rcases hy with rfl; rfl) (by unfold maxLen; omega) (by omega) (by simp; omega) ?_; intro v4 w4 hown4 hgrow4 hnil4; obtain ⟨a4, c4, rfl⟩ := own_sli hown4; have HG4 := hidE hgrow4; have HO4 := hidE hown4; have HN4 := hidE hnil4; have BP4 : Blk w4 w1.heap.size #[.slice av pre.length cp] 32 := (I1.out.alloc _).grown HG4.out (fun e => by have := (I6.out _ e.symm).2; omega); have g4 := BP4.cell 0; have g5 := BP4.free; have g6 := BP4.lt; simp at g4; have HB4 := hidE BP4; clear hgrow4 hown4 hnil4 BP4 t0 t1 tf)
      have hv4 : (Value.slice a4 (pre.length + 1) c4) ≠ .slice none 0 0 := fun e => by have := (HN4.out.1 e).2; omega
      obtain ⟨k4, hk4⟩ := own_has HO4.out hv4
      have hγ : w1.heap.size + 1 + 1 < γ := by
        rcases I7.out with h | ⟨j, h⟩
        · omega
        · exact HLI.out.base _ _ h
      have HGA := hidE (show ∀ k, (Value.slice av pre.length cp).ownBlock = some k → γ ≤ k from fun k e => (I6.out k e).2)
      have hown : (w4.setCell ⟨w1.heap.size, 0, none⟩ (Value.slice a4 (pre.length + 1) c4)).ownsRow γ 3 1 (Value.slice a4 (pre.length + 1) c4) (pre ++ [x]).length (cellsK .i64 (natsI (pre ++ [x]))) := by
        rw [natsI_app, cellsK_app, List.length_append]
        exact own_kept HO4.out (fun k e => keptS (by have := own_block HO4.out e; omega) _)
      have hz4 : W.heap.size ≤ w4.heap.size := by have := HG4.out.size; simp at this; omega
      have hzw := I2.out.size
      have hb4 : Below w.heap.size W (w4.setCell ⟨w1.heap.size, 0, none⟩ (Value.slice a4 (pre.length + 1) c4)) :=
        (Below.grown ((Below.refl _ W).alloc (by omega) _) HG4.out (by simp; omega) (fun k e => by have := HGA.out k e; omega)).setCell (p := ⟨w1.heap.size, 0, none⟩) (by simp; omega) _
      have hq : ∀ {k : Nat} {cs : Array Value} {t : TypeId}, Blk W k cs t → k ≤ w1.heap.size + 1 + 1 → k ≠ w1.heap.size → Blk (w4.setCell ⟨w1.heap.size, 0, none⟩ (Value.slice a4 (pre.length + 1) c4)) k cs t := fun h h1 h2 =>
        ((h.alloc _).grown HG4.out (fun e => by have := HGA.out _ e.symm; omega)).other h2 _
      have hArg : ArgP (w4.setCell ⟨w1.heap.size, 0, none⟩ (Value.slice a4 (pre.length + 1) c4)) (some ⟨b, off, none⟩) l := HA.out.past (I2.out.trans hb4)
      refine ⟨some (γ, k4), ⟨⟨(Value.slice a4 (pre.length + 1) c4), γ, by simpa using HB4.out.set 0 (Value.slice a4 (pre.length + 1) c4), I2.out.trans hb4, hown, i4, by simp [World.setCell]; omega, .inr ⟨k4, rfl, hk4⟩⟩, ⟨hq HLI.out.it.1 (by omega) (by omega), hq HLI.out.it.2.1 (by omega) (by omega), hArg⟩, ?_⟩, hb4, fun k e1 e2 e3 => ?_, fun b k e => ?_⟩
      · intro b k e
        cases e
        exact hγ
      · refine (keptS (by omega) _).trans ((HG4.out.block k (by simp; omega) (fun e => ?_)).trans (keptA (by omega) _))
        exact e3 _ (I6.out k e.symm).1
      · cases e
        exact I7.out
    case done =>
      rintro D g W hD hi hgd hK
      obtain ⟨av, cp, γ, i1, i2, i3, i4, i5, i6, i7⟩ := ownI_base hi.own
      subst hD
      have hDz : w3.heap.size < W.heap.size := (Array.getElem?_eq_some_iff.1 hK).1
      have c0 := i1.cell 0; have z3' := i1.lt
      simp at c0
      have hgD : ∀ k, (Value.slice av (kidsS l p).length cp).ownBlock = some k → w3.heap.size + 2 ≤ k := fun k e => by
        obtain ⟨q1, q2⟩ := i6 k e
        have := hgd _ _ q1
        omega
      have HKF := hidE hK; have HO := hidE i3; have HB := hidE i2; have HGD := hidE hgD
      clear hI0 hi i1 i3 i2 i6 i7 hgd hK hgD
      go_wp2
      refine ⟨by simp, .inl ⟨_, _, rfl, run_takeDeferred HKF.out, ?_⟩⟩
      refine ⟨.tuple #[.slice av (kidsS l p).length cp, .int .i64 0], by simp [results, Try.results13, go_sem], ?_⟩
      have hO := own_kept (B := W.putObj w3.heap.size (.deferred none)) HO.out (fun k e => by
        have := HGD.out k e
        exact World.putObj_heap_other (by omega))
      refine ⟨_, rfl, sliN_own hO, HB.out.trans (below_putObj _ _ _ HBB.out.size), fun k e => ?_⟩
      have := HGD.out k e
      omega
    case stop =>
      rintro D pre W hD hpre h hK
      exact h.elim
  · rw [if_neg hm]
    have q : (mayS l z != 0) = true := bne_iff_ne.2 hm
    clear hA hm
    generalize mayS l z = y at *
    go_enter Try.func13, Try.ntmps13
    go_wp2_with fail
    ((with_reducible refine HW.out.mono ?_); rintro e w1 ⟨rfl, hb1⟩)
    go_wp2
    go_ret2
    exact ⟨_, rfl, sliN_own (own_nil (A := w1) w1.heap.size 1 3), hb1, fun k e => by cases e⟩
end Go.Proofs.Ytnifmdeojgfgcaa

namespace Go.Proofs.Ytnifmdeojgfgcaa
open Go.ChangeShapes Go.WideShapes Go.ChangeAt Go.RowKit Go.Shelf
attribute [local irreducible] Go.Calls
attribute [local go_sem] Oper.semAt_some

/-- The last of a row, or what was there ahead of it. -/
def lastD : Nat → List Nat → Nat
  | p, [] => p
  | _, x :: r => lastD x r
theorem lastD_snoc : ∀ (r : List Nat) (p x : Nat), lastD p (r ++ [x]) = x
  | [], _, _ => rfl
  | y :: r, _p, x => lastD_snoc r y x
theorem pre_go (l : List Prt) : ∀ (pre : List Nat) (n q : Nat), pre <+: kidsGo l n q → pre = kidsGo l pre.length q ∧ pre.length ≤ n
  | [], n, q, _ => ⟨rfl, Nat.zero_le _⟩
  | x :: r, 0, q, h => by simp [kidsGo] at h
  | x :: r, n + 1, q, h => by
    rw [kidsGo, List.cons_prefix_cons] at h
    obtain ⟨rfl, h2⟩ := h
    obtain ⟨h3, h4⟩ := pre_go l r n _ h2
    refine ⟨?_, by simp only [List.length_cons]; omega⟩
    rw [List.length_cons, kidsGo, ← h3]
theorem tow_kid {l : List Prt} (h : Hang l) {p q : Nat} (hp : p < l.length) (hpq : p < q) (hq : q < endS l p) {pre : List Nat} (hpre : pre <+: kidsS l p) (hle : ∀ y ∈ pre, y ≤ q) (hend : pre = kidsS l p ∨ ∃ x, pre ++ [x] <+: kidsS l p ∧ q < x) :
    IsKid l p (lastD p pre) ∧ lastD p pre ≤ q ∧ q < endS l (lastD p pre) := by
  have hK : kidsS l p = kidsGo l (prN l p).kids.toNat (p + 1) := rfl
  have hch := h.chain p hp
  rw [hK] at hpre hend
  obtain ⟨h1, h2⟩ := pre_go l pre _ _ hpre
  obtain ⟨j, hj⟩ : ∃ j, j = pre.length := ⟨_, rfl⟩
  rw [← hj] at h1 h2
  have hqj : q < kidAt l (p + 1) j ∧ j ≤ (prN l p).kids.toNat := by
    rcases hend with e | ⟨x, e, hx⟩
    · have := congrArg List.length e
      rw [kidsGo_len, ← hj] at this
      rw [this, hch]
      exact ⟨hq, Nat.le_refl _⟩
    · obtain ⟨h3, h4⟩ := pre_go l (pre ++ [x]) _ _ e
      rw [List.length_append, List.length_singleton, ← hj, kidsGo_snoc, ← h1] at h3
      have := List.append_cancel_left h3
      simp at this
      subst this
      exact ⟨hx, by rw [List.length_append, List.length_singleton] at h4; omega⟩
  cases j with
  | zero => have := hqj.1; simp only [kidAt] at this; omega
  | succ i =>
    have hl : lastD p pre = kidAt l (p + 1) i := by rw [h1, kidsGo_snoc, lastD_snoc]
    rw [hl]
    refine ⟨kid_is h hp (by omega), hle _ ?_, hqj.1⟩
    rw [h1, kidsGo_snoc]
    simp
/-- Between two rounds. -/
structure TowI (w : World) (l : List Prt) (b off cap p q : Nat) (pre : List Nat) (W : World) : Prop where
  bel : Below w.heap.size w W
  at' : Blk W w.heap.size #[.int .i64 q] 3
  child : Blk W (w.heap.size + 1) #[.int .i64 (lastD p pre)] 3
  it : ItK l (some ⟨b, off, none⟩) cap p (w.heap.size + 1 + 1 + 1) (w.heap.size + 1 + 1) W
  le : ∀ y ∈ pre, y ≤ q
/-- A round has left. -/
def TowX (w : World) (p q : Nat) (c : Code) (pre : List Nat) (W : World) : Prop :=
  c = .exit 0 ∧ ∃ pre' x, pre = pre' ++ [x] ∧ q < x ∧ (∀ y ∈ pre', y ≤ q) ∧ Below w.heap.size w W ∧ Blk W (w.heap.size + 1) #[.int .i64 (lastD p pre')] 3
set_option maxRecDepth 100000 in
set_option maxHeartbeats 2000000 in
theorem toward_c (l : List Prt) (p q : Nat) (a : Option Addr) (cap : Nat) (w : World) (hl : l.length ≤ 100000) (hA : ArgP w a l) (ht : (treeS l).2 = 0) (hp : p < l.length) (hpq : p < q) (hq : q < endS l p) :
    Calls Try.prog 27 #[.slice a l.length cap, .int .i64 p, .int .i64 q] w fun e w' => ∃ c : Nat, e = .returned (.int .i64 c) ∧ IsKid l p c ∧ c ≤ q ∧ q < endS l c ∧ Below w.heap.size w w' := by
  obtain ⟨b, off, rfl, hbb, hc⟩ := hA (by omega)
  have HA := hidE (show ArgP w (some ⟨b, off, none⟩) l from hA)
  have HT := hidE (fun pre h1 h2 h3 => tow_kid (tree_hang ht) hp hpq hq (pre := pre) h1 h2 h3)
  clear hA hc
  refine (callsIn_wide (n := 0)).1 (callsIn_of_wp_marks Try.func27 rfl trivial ((wpIn_wide (n := 0)).2 ?_))
  simp only [Try.ntmps27, List.size_toArray, List.length_cons, List.length_nil, Nat.reduceAdd, Nat.reduceSub, Array.replicate_succ, Array.replicate_zero, List.push_toArray, List.append_toArray, List.nil_append, List.cons_append]
  go_wp2_with fail
  obtain ⟨w2, hw2⟩ : ∃ w2, w2 = (w.alloc (Obj.cells #[.int .i64 q] 3)).alloc (Obj.cells #[.int .i64 p] 3) := ⟨_, rfl⟩
  have hz2 : w2.heap.size = w.heap.size + 1 + 1 := by rw [hw2]; simp
  have hb2 : Below w.heap.size w w2 := by rw [hw2]; (repeat (first | exact Below.refl _ _ | assumption | refine balloc ?_ _ | refine below_drewN ?_ _ | refine bstep (by assumption) ?_ | refine bstep (Past.prop _) ?_ | refine Below.setCell ?_ (by first | exact Nat.le_refl _ | (simp; done) | (simp; omega)) _))
  have hB2 : Blk w2 w.heap.size #[.int .i64 q] 3 := by rw [hw2]; exact (Blk.made _ _ _).alloc _
  have hC2 : Blk w2 (w.heap.size + 1) #[.int .i64 p] 3 := by rw [hw2]; exact Blk.made_at _ _ _ _ (by simp)
  rw [← hw2]
  clear hw2
  ((with_reducible refine (children_c _ _ _ _ _).mono ?_); rintro e w3 ⟨rfl, hba, hbl, hb3⟩)
  have hb3z := hb3.size
  rw [hz2] at hba hbl hb3z
  have hz3 := hba.lt
  have hb13 := hb2.trans (hb3.mono hb2.size)
  have hI0 : TowI w l b off cap p q [] w3 := ⟨hb13, hB2.past hb3, hC2.past hb3, ⟨hba, hbl, HA.out.past hb13⟩, fun y hy => by cases hy⟩
  have HBB := hidE hb13
  clear hba hbl hb3 hb2 hB2 hC2 hb13
  go_wp2
  refine wp_rangeFunc_K (n₀ := w.heap.size) (S := kidsS l p) rfl (enters_of Try.func31 (by kernel_rfl) rfl) HBB.out.size (kids_it l (some ⟨b, off, none⟩) cap p (w.heap.size + 1 + 1 + 1) (w.heap.size + 1 + 1) w.heap.size w3 (by omega) ht hp).toK (fun _ => rfl)
    (TowI w l b off cap p q) (TowX w p q) (fun s A B h hb => ⟨h.bel.trans (hb.mono (by omega)), h.at'.below hb (by omega), h.child.below hb (by omega), itK_keep h.it (by omega) (by omega) (fun _ => ⟨b, ⟨off, rfl⟩, by omega⟩) hb, h.le⟩) (fun s A h => h.it)
    (fun c s A B h hb => by
      obtain ⟨h1, pre', x, h2, h3, h4, h5, h6⟩ := h
      exact ⟨h1, pre', x, h2, h3, h4, h5.trans (hb.mono (by omega)), h6.below hb (by omega)⟩) hI0
    (fun x a1 W => ∃ (u0 u1 u2 u3 u4 u6 u9 u10 u11 u12 u13 u14 u15 u16 u17 u18 : Value), a1 = { tmps := #[u0, u1, u2, u3, u4, .pointer (some ⟨w.heap.size, 0, none⟩), u6, .pointer (some ⟨w.heap.size + 1, 0, none⟩), .int .i64 x, u9, u10, u11, u12, u13, u14, u15, u16, u17, u18], defers := [] })
    ?hax ?assign ?body ?done ?stop
  case hax =>
    rintro x a1 A l r o ⟨u0, u1, u2, u3, u4, u6, u9, u10, u11, u12, u13, u14, u15, u16, u17, u18, h3⟩ hlr
    exact ⟨_, _, _, _, _, _, _, _, _, _, _, _, _, _, _, _, h3⟩
  case assign =>
    intro l pre x W K hsz hi hK
    dsimp only [encK]
    gi_wp2
    exact hK _ _ (Outside.refl _ _ _) hi ⟨_, _, _, _, _, _, _, _, _, _, _, _, _, _, _, _, rfl⟩
  case body =>
    rintro l' pre x a1 W hsz hi ⟨u0, u1, u2, u3, u4, u6, u9, u10, u11, u12, u13, u14, u15, u16, u17, u18, rfl⟩ hpre
    have c0 := hi.at'.cell 0; have y0 := hi.child.cell 0; have yf := hi.child.free; have z0 := hi.at'.lt; have z1 := hi.child.lt
    simp at c0 y0
    have HLI := hidE hi
    clear hI0 hi hpre
    by_cases hx : q < x
    · have hd : decide ((x : Int) > (q : Int)) = true := decide_eq_true (by omega)
      have hd' : decide (q < x) = true := decide_eq_true hx
      gi_wp2
      exact ⟨Outside.refl _ _ _, rfl, pre, x, rfl, hx, HLI.out.le, HLI.out.bel, HLI.out.child⟩
    · have hd : decide ((x : Int) > (q : Int)) = false := decide_eq_false (by omega)
      have hd' : decide (q < x) = false := decide_eq_false hx
      gi_wp2
      have o4 : Outside w.heap.size w3.heap.size W _ := Outside.of_grown (grown_set W (w.heap.size + 1) 0 (.int .i64 x)) (by omega) (by omega) (by have := HLI.out.bel.size; omega)
      refine ⟨o4, HLI.out.bel.trans o4.below, HLI.out.at'.other (by omega) _, ?_, ⟨HLI.out.it.1.other (by omega) _, HLI.out.it.2.1.other (by omega) _, HA.out.past (HLI.out.bel.trans o4.below)⟩, fun y hy => ?_⟩
      · rw [lastD_snoc]
        simpa using HLI.out.child.set 0 (.int .i64 x)
      · rcases List.mem_append.1 hy with h | h
        · exact HLI.out.le y h
        · simp at h; omega
  case done =>
    rintro D W hD hi hK
    have HE := hidE (HT.out (kidsS l p) (List.prefix_refl _) hi.le (.inl rfl))
    have c0 := hi.child.cell 0; have z0 := hi.child.lt
    simp at c0
    have HB := hidE hi.bel; have HK := hidE hK
    clear hI0 hi hK
    go_wp2
    refine ⟨by simp, .inl ⟨_, _, rfl, run_takeDeferred HK.out, ?_⟩⟩
    refine ⟨.int .i64 (lastD p (kidsS l p)), by simp [results, Try.results27, go_sem], lastD p (kidsS l p), rfl, HE.out.1, HE.out.2.1, HE.out.2.2, HB.out.trans (below_putObj _ _ _ (by omega))⟩
  case stop =>
    rintro D c pre W hD hpre ⟨rfl, pre', x, rfl, hx, hle, hb, hc⟩ hK
    have HE := hidE (HT.out pre' (List.IsPrefix.trans ⟨[x], rfl⟩ hpre) hle (.inr ⟨x, hpre, hx⟩))
    have c0 := hc.cell 0; have z0 := hc.lt
    simp at c0
    have HB := hidE hb; have HK := hidE hK
    clear hI0 hb hK hc hpre
    go_wp2
    refine ⟨by simp, .inl ⟨_, _, rfl, run_takeDeferred HK.out, ?_⟩⟩
    refine ⟨.int .i64 (lastD p pre'), by simp [results, Try.results27, go_sem], lastD p pre', rfl, HE.out.1, HE.out.2.1, HE.out.2.2, HB.out.trans (below_putObj _ _ _ (by omega))⟩
set_option maxHeartbeats 2000000 in
theorem shdepth_c (l : List Prt) (z : Int) (a : Option Addr) (cap : Nat) (w : World) (hl : l.length ≤ 100000) (hA : ArgP w a l) (hz : -9223372036854775808 ≤ z ∧ z ≤ 9223372036854775807) :
    Calls Try.prog 15 #[.slice a l.length cap, .int .i64 z] w fun e w' => e = .returned (.tuple #[.int .i64 (if mayS l z = 0 then depthS l z.toNat else 0 : Nat), .int .i64 (mayS l z)]) ∧ Below w.heap.size w w' := by
  have HW := hidE (wrong8_c l z a cap w (by omega) hA hz)
  by_cases hm : mayS l z = 0
  · rw [if_pos hm]
    obtain ⟨q, rfl, hq, ht⟩ := may_zero hm
    rw [hm] at HW ⊢
    rw [Int.toNat_natCast]
    have hH := tree_hang ht
    have HTW := hidE (fun p w' (hb : Below w.heap.size w w') (h1 : p < q) (h2 : q < endS l p) => toward_c l p q a cap w' hl (hA.past hb) ht (by omega) h1 h2)
    have HDK := hidE (fun p c (h1 : p < l.length) (h2 : IsKid l p c) => depth_kid hH h1 h2)
    have HD0 := hidE (show depthS l 0 = 1 by rw [depth_anc hH (by omega)]; rfl)
    have HE0 := hidE hH.all
    have HDL := hidE (fun p (h1 : p < l.length) => (depth_le hH h1).2)
    clear hA hm hH
    go_enter Try.func15, Try.ntmps15
    go_wp2_with fail
    ((with_reducible refine HW.out.mono ?_); rintro e w1 ⟨rfl, hb1⟩)
    have HB1 := hidE hb1
    clear hb1 HW
    go_wp2_with fail
    go_loopg [7, 8] q (fun gh v7 v8 wr => ∃ p : Nat, p ≤ q ∧ q - p ≤ gh ∧ q < endS l p ∧ v8 = .int .i64 p ∧ v7 = .int .i64 (depthS l p) ∧ Below w.heap.size w wr)
    case atStart => exact ⟨0, Nat.zero_le _, Nat.le_refl _, by rw [HE0.out]; exact hq, rfl, by rw [HD0.out]; rfl, HB1.out⟩
    case round =>
      obtain ⟨p, hpq, hgh, hqe, rfl, rfl, hb⟩ := hrel
      have HB := hidE hb; have HG := hidE hgh
      clear hb hgh
      by_cases he : p = q
      · subst he
        have r1 : ((p : Int) != (p : Int)) = false := by simp
        go_wp2
        go_ret2
        exact ⟨rfl, HB.out⟩
      · have r1 : ((p : Int) != (q : Int)) = true := bne_iff_ne.2 (by omega)
        have hlt : p < q := by omega
        have hd8 := HDL.out p (by omega)
        go_wp2_with fail
        ((with_reducible refine (HTW.out p _ HB.out hlt hqe).mono ?_); rintro e w2 ⟨c, rfl, hk, hcq, hce, hb2⟩)
        have HDC := hidE (HDK.out p c (by omega) hk)
        have hpc := hk.1
        clear hk
        generalize depthS l p = dp at *
        go_wp2_with fail
        go_roundg (q - c)
        case measure => have := HG.out; omega
        case rel => exact ⟨c, hcq, Nat.le_refl _, hce, rfl, by rw [HDC.out]; go_num, HB.out.trans (hb2.mono HB.out.size)⟩
  · rw [if_neg hm]
    have q : (mayS l z != 0) = true := bne_iff_ne.2 hm
    clear hA hm
    generalize mayS l z = y at *
    go_enter Try.func15, Try.ntmps15
    go_wp2_with fail
    ((with_reducible refine HW.out.mono ?_); rintro e w1 ⟨rfl, hb1⟩)
    go_wp2
    go_ret2
    exact ⟨rfl, hb1⟩
end Go.Proofs.Ytnifmdeojgfgcaa



namespace Go.Proofs.Ytnifmdeojgfgcaa
open Go.ChangeShapes Go.WideShapes Go.ChangeAt Go.RowKit
attribute [local irreducible] Go.Calls

theorem plan_c (w : World) : Calls Try.prog 20 #[] w fun e w' => ∃ b, w.heap.size ≤ b ∧ e = .returned (def8 0 100 (some ⟨b, 0, none⟩) 5 5) ∧ Blk w' b (cellsOfP T8).toArray 42 ∧ Below w.heap.size w w' := by
  go_enter Try.func20, Try.ntmps20
  go_wp2
  refine bodyPost_ret (v := def8 0 100 (some ⟨w.heap.size + 1, 0, none⟩) 5 5) (by simp [results, Try.results20, go_sem]) rfl ⟨w.heap.size + 1, by omega, rfl, ?_, ?_⟩
  · exact Blk.made_at _ _ _ _ (by simp)
  · (repeat (first | exact Below.refl _ _ | assumption | refine balloc ?_ _ | refine below_drewN ?_ _ | refine bstep (by assumption) ?_ | refine bstep (Past.prop _) ?_ | refine Below.setCell ?_ (by first | exact Nat.le_refl _ | (simp; done) | (simp; omega)) _))
/-- What head keeps: its definition. -/
def H8 (w0 : World) (p b : Nat) (w : World) : Prop := Below w0.heap.size w0 w ∧ Blk w p #[.int .i64 0, .int .i64 100, .slice (some ⟨b, 0, none⟩) 5 5] 24 ∧ Blk w b (cellsOfP T8).toArray 42
theorem H8.past {w0 : World} {p b : Nat} {w w' : World} (h : H8 w0 p b w) (hb : Below w.heap.size w w') : H8 w0 p b w' := ⟨h.1.trans (hb.mono h.1.size), h.2.1.past hb, h.2.2.past hb⟩
theorem H8.bel {w0 : World} {p b : Nat} {w : World} (h : H8 w0 p b w) : Below w0.heap.size w0 w := h.1
theorem H8.d {w0 : World} {p b : Nat} {w : World} (h : H8 w0 p b w) : Blk w p #[.int .i64 0, .int .i64 100, .slice (some ⟨b, 0, none⟩) 5 5] 24 := h.2.1
theorem H8.T {w0 : World} {p b : Nat} {w : World} (h : H8 w0 p b w) : ArgP w (some ⟨b, 0, none⟩) T8 := argP_blk h.2.2
/-- What head keeps behind its copies: the copies, the first without a window, the second one with the parts T2, the third one with so many parts. -/
def G8 (v : World) (p b q b1 b2 b3 : Nat) (T2 : List Prt) (n3 : Nat) (w : World) : Prop := Below v.heap.size v w ∧ Blk w p #[.int .i64 0, .int .i64 100, .slice (some ⟨b, 0, none⟩) 5 5] 24 ∧ Blk w b (cellsOfP T8).toArray 42 ∧ Blk w q #[.int .i64 0, .int .i64 0, .slice (some ⟨b1, 0, none⟩) 5 5] 24 ∧ Blk w (q + 1) #[.int .i64 0, .int .i64 100, .slice (some ⟨b2, 0, none⟩) 5 5] 24 ∧ Blk w (q + 1 + 1) #[.int .i64 0, .int .i64 100, .slice (some ⟨b3, 0, none⟩) n3 5] 24 ∧ Blk w b1 (cellsOfP T8).toArray 42 ∧ Blk w b2 (cellsOfP T2).toArray 42 ∧ Blk w b3 (cellsOfP T8).toArray 42 ∧ p < v.heap.size ∧ b < v.heap.size ∧ v.heap.size ≤ b1 ∧ b1 < b2 ∧ b2 < b3 ∧ b3 < q
theorem G8.past {v : World} {p b q b1 b2 b3 : Nat} {T2 : List Prt} {n3 : Nat} {w w' : World} (h : G8 v p b q b1 b2 b3 T2 n3 w) (hb : Below w.heap.size w w') : G8 v p b q b1 b2 b3 T2 n3 w' := by
  obtain ⟨h1, h2, h3, h4, h5, h6, h7, h8, h9, h10⟩ := h
  exact ⟨h1.trans (hb.mono h1.size), h2.past hb, h3.past hb, h4.past hb, h5.past hb, h6.past hb, h7.past hb, h8.past hb, h9.past hb, h10⟩
theorem G8.bel {v : World} {p b q b1 b2 b3 : Nat} {T2 : List Prt} {n3 : Nat} {w : World} (h : G8 v p b q b1 b2 b3 T2 n3 w) : Below v.heap.size v w := h.1
theorem G8.d {v : World} {p b q b1 b2 b3 : Nat} {T2 : List Prt} {n3 : Nat} {w : World} (h : G8 v p b q b1 b2 b3 T2 n3 w) : Blk w p #[.int .i64 0, .int .i64 100, .slice (some ⟨b, 0, none⟩) 5 5] 24 := h.2.1
theorem G8.T {v : World} {p b q b1 b2 b3 : Nat} {T2 : List Prt} {n3 : Nat} {w : World} (h : G8 v p b q b1 b2 b3 T2 n3 w) : ArgP w (some ⟨b, 0, none⟩) T8 := argP_blk h.2.2.1
theorem G8.d1 {v : World} {p b q b1 b2 b3 : Nat} {T2 : List Prt} {n3 : Nat} {w : World} (h : G8 v p b q b1 b2 b3 T2 n3 w) : Blk w q #[.int .i64 0, .int .i64 0, .slice (some ⟨b1, 0, none⟩) 5 5] 24 := h.2.2.2.1
theorem G8.d2 {v : World} {p b q b1 b2 b3 : Nat} {T2 : List Prt} {n3 : Nat} {w : World} (h : G8 v p b q b1 b2 b3 T2 n3 w) : Blk w (q + 1) #[.int .i64 0, .int .i64 100, .slice (some ⟨b2, 0, none⟩) 5 5] 24 := h.2.2.2.2.1
theorem G8.d3 {v : World} {p b q b1 b2 b3 : Nat} {T2 : List Prt} {n3 : Nat} {w : World} (h : G8 v p b q b1 b2 b3 T2 n3 w) : Blk w (q + 1 + 1) #[.int .i64 0, .int .i64 100, .slice (some ⟨b3, 0, none⟩) n3 5] 24 := h.2.2.2.2.2.1
theorem G8.T1 {v : World} {p b q b1 b2 b3 : Nat} {T2 : List Prt} {n3 : Nat} {w : World} (h : G8 v p b q b1 b2 b3 T2 n3 w) : ArgP w (some ⟨b1, 0, none⟩) T8 := argP_blk h.2.2.2.2.2.2.1
theorem G8.B2 {v : World} {p b q b1 b2 b3 : Nat} {T2 : List Prt} {n3 : Nat} {w : World} (h : G8 v p b q b1 b2 b3 T2 n3 w) : Blk w b2 (cellsOfP T2).toArray 42 := h.2.2.2.2.2.2.2.1
theorem G8.T2 {v : World} {p b q b1 b2 b3 : Nat} {T2 : List Prt} {n3 : Nat} {w : World} (h : G8 v p b q b1 b2 b3 T2 n3 w) : ArgP w (some ⟨b2, 0, none⟩) T2 := argP_blk h.B2
theorem G8.T3 {v : World} {p b q b1 b2 b3 : Nat} {T2 : List Prt} {n3 : Nat} {w : World} (h : G8 v p b q b1 b2 b3 T2 n3 w) : ArgP w (some ⟨b3, 0, none⟩) T8 := argP_blk h.2.2.2.2.2.2.2.2.1
theorem G8.ord {v : World} {p b q b1 b2 b3 : Nat} {T2 : List Prt} {n3 : Nat} {w : World} (h : G8 v p b q b1 b2 b3 T2 n3 w) : p < v.heap.size ∧ b < v.heap.size ∧ v.heap.size ≤ b1 ∧ b1 < b2 ∧ b2 < b3 ∧ b3 < q := h.2.2.2.2.2.2.2.2.2
theorem G8.odd {v : World} {p b q b1 b2 b3 : Nat} {n3 : Nat} {w : World} (h : G8 v p b q b1 b2 b3 T8 n3 w) : G8 v p b q b1 b2 b3 T8o n3 (w.setCell ⟨b2, 7, none⟩ (.int .u32 3)) := by
  obtain ⟨h1, h2, h3, h4, h5, h6, h7, h8, h9, h10⟩ := h
  obtain ⟨o1, o2, o3, o4, o5, o6⟩ := h10
  have e : ((cellsOfP T8).toArray.setIfInBounds 7 (.int .u32 3)) = (cellsOfP T8o).toArray := by simp [cellsOfP, T8, T8o]
  exact ⟨by (repeat (first | exact Below.refl _ _ | assumption | refine balloc ?_ _ | refine below_drewN ?_ _ | refine bstep (by assumption) ?_ | refine bstep (Past.prop _) ?_ | refine Below.setCell ?_ (by first | exact Nat.le_refl _ | (simp; done) | (simp; omega)) _)), h2.other (by omega) _, h3.other (by omega) _, h4.other (by omega) _, h5.other (by omega) _, h6.other (by omega) _, h7.other (by omega) _, e ▸ h8.set 7 _, h9.other (by omega) _, o1, o2, o3, o4, o5, o6⟩
theorem G8.cut {v : World} {p b q b1 b2 b3 : Nat} {T2 : List Prt} {w : World} (h : G8 v p b q b1 b2 b3 T2 5 w) : G8 v p b q b1 b2 b3 T2 4 (w.setCell ⟨q + 1 + 1, 2, none⟩ (.slice (some ⟨b3, 0, none⟩) 4 5)) := by
  obtain ⟨h1, h2, h3, h4, h5, h6, h7, h8, h9, h10⟩ := h
  obtain ⟨o1, o2, o3, o4, o5, o6⟩ := h10
  have := h1.size
  exact ⟨by (repeat (first | exact Below.refl _ _ | assumption | refine balloc ?_ _ | refine below_drewN ?_ _ | refine bstep (by assumption) ?_ | refine bstep (Past.prop _) ?_ | refine Below.setCell ?_ (by first | exact Nat.le_refl _ | (simp; done) | (simp; omega)) _)), h2.other (by omega) _, h3.other (by omega) _, h4.other (by omega) _, h5.other (by omega) _, h6.set 2 _, h7.other (by omega) _, h8.other (by omega) _, h9.other (by omega) _, o1, o2, o3, o4, o5, o6⟩
theorem h8_chk (fr to' : Int) (l : List Prt) (x y : Int) (h : chkS fr to' l = (x, y)) (n : Nat) (hn : l.length = n) (a : Option Addr) (cap : Nat) (w : World) (hl : l.length ≤ 9223372036854775807) (hA : ArgP w a l) (hf : -9223372036854775808 ≤ fr ∧ fr ≤ 9223372036854775807) (ht : -9223372036854775808 ≤ to' ∧ to' ≤ 9223372036854775807) : Calls Try.prog 8 #[def8 fr to' a n cap] w fun e w' => e = .returned (.tuple #[.int .i64 x, .int .i64 y]) ∧ Below w.heap.size w w' := by
  have := shchk_c fr to' l a cap w hl hA hf ht
  rw [h, hn] at this
  exact this
theorem h8_kids (l : List Prt) (z : Int) (r : List Nat) (h : mayS l z = 0) (h2 : kidsS l z.toNat = r) (n : Nat) (hn : l.length = n) (a : Option Addr) (cap : Nat) (w : World) (hl : l.length ≤ 100000) (hA : ArgP w a l) (hz : -9223372036854775808 ≤ z ∧ z ≤ 9223372036854775807) : Calls Try.prog 13 #[.slice a n cap, .int .i64 z] w fun e w' => ∃ a' cap', e = .returned (.tuple #[.slice a' r.length cap', .int .i64 0]) ∧ ArgK .i64 w' a' (natsI r) ∧ Below w.heap.size w w' ∧ (∀ b o, a' = some ⟨b, o, none⟩ → w.heap.size ≤ b) := by
  have := shkids_c l z a cap w hl hA hz
  rw [h, if_pos rfl, h2, hn] at this
  refine this.mono ?_
  rintro e w' ⟨v, rfl, ⟨a', cap', rfl, _, _, hA'⟩, hb, hf⟩
  exact ⟨a', cap', rfl, hA', hb, fun b o e => hf b (by rw [e]; rfl)⟩
theorem h8_kidsE (l : List Prt) (z : Int) (y : Int) (h : mayS l z = y) (_hy : y ≠ 0) (n : Nat) (hn : l.length = n) (a : Option Addr) (cap : Nat) (w : World) (hl : l.length ≤ 100000) (hA : ArgP w a l) (hz : -9223372036854775808 ≤ z ∧ z ≤ 9223372036854775807) : Calls Try.prog 13 #[.slice a n cap, .int .i64 z] w fun e w' => ∃ v, e = .returned (.tuple #[v, .int .i64 y]) ∧ Below w.heap.size w w' := by
  have := shkids_c l z a cap w hl hA hz
  rw [h, hn] at this
  refine this.mono ?_
  rintro e w' ⟨v, rfl, _, hb, _⟩
  exact ⟨v, rfl, hb⟩
theorem h8_end (l : List Prt) (z : Int) (x : Nat) (y : Int) (h : mayS l z = y) (h2 : (if y = 0 then endS l z.toNat else 0 : Nat) = x) (n : Nat) (hn : l.length = n) (a : Option Addr) (cap : Nat) (w : World) (hl : l.length ≤ 100000) (hA : ArgP w a l) (hz : -9223372036854775808 ≤ z ∧ z ≤ 9223372036854775807) : Calls Try.prog 14 #[.slice a n cap, .int .i64 z] w fun e w' => e = .returned (.tuple #[.int .i64 x, .int .i64 y]) ∧ Below w.heap.size w w' := by
  have := shend_c l z a cap w hl hA hz
  rw [h, hn, h2] at this
  exact this
theorem h8_depth (l : List Prt) (z : Int) (x : Nat) (y : Int) (h : mayS l z = y) (h2 : (if y = 0 then depthS l z.toNat else 0 : Nat) = x) (n : Nat) (hn : l.length = n) (a : Option Addr) (cap : Nat) (w : World) (hl : l.length ≤ 100000) (hA : ArgP w a l) (hz : -9223372036854775808 ≤ z ∧ z ≤ 9223372036854775807) : Calls Try.prog 15 #[.slice a n cap, .int .i64 z] w fun e w' => e = .returned (.tuple #[.int .i64 x, .int .i64 y]) ∧ Below w.heap.size w w' := by
  have := shdepth_c l z a cap w hl hA hz
  rw [h, hn, h2] at this
  exact this
theorem h8_atoms (l : List Prt) (r : List Nat) (h2 : atomsS8 l = r) (n : Nat) (hn : l.length = n) (a : Option Addr) (cap : Nat) (w : World) (hl : l.length ≤ 100000) (hA : ArgP w a l) : Calls Try.prog 11 #[.slice a n cap] w fun e w' => ∃ a' cap', e = .returned (.slice a' r.length cap') ∧ ArgK .i64 w' a' (natsI r) ∧ Below w.heap.size w w' := by
  have := shatoms_c l a cap w hl hA
  rw [h2, hn] at this
  refine this.mono ?_
  rintro e w' ⟨v, rfl, ⟨a', cap', rfl, _, _, hA'⟩, hb⟩
  exact ⟨a', cap', rfl, hA', hb⟩
/-- A new block of places reads as a slice. -/
theorem argK_blk {k : IntKind} {w : World} {p : Nat} {l : List Int} {t : TypeId} (h : Blk w p (cellsK k l).toArray t) : ArgK k w (some ⟨p, 0, none⟩) l := fun _ =>
  ⟨p, 0, rfl, h.lt, fun i hi => by
    rw [h.cell (0 + i), Nat.zero_add]
    simp only [List.getElem?_toArray]
    exact cellsK_get hi⟩
theorem h8_same (r : List Nat) (n : Nat) (hn : r.length = n) (a a2 : Option Addr) (cap cap2 : Nat) (w : World) (hl : r.length ≤ 1000000000) (hA : ArgK .i64 w a (natsI r)) (hA2 : ArgK .i64 w a2 (natsI r)) : Calls Try.prog 10 #[.slice a n cap, .slice a2 n cap2] w fun e w' => e = .returned (.bool true) ∧ Below w.heap.size w w' := by
  have := rsame8_c r r a a2 cap cap2 w hl hl hA hA2
  rw [show sameN r r = true from decide_eq_true rfl, hn] at this
  exact this
set_option maxRecDepth 100000 in
set_option maxHeartbeats 4000000 in
theorem head8_c (w : World) : Calls Try.prog 7 #[] w fun e w' => e = .returned (.bool true) ∧ Below w.heap.size w w' := by
  go_enter Try.func7, Try.ntmps7
  go_wp2_with fail
  ((with_reducible refine (plan_c _).mono ?_); rintro e w1 ⟨b, hbz, rfl, hB, hb1⟩)
  go_wp2_with fail
  have HH : H8 w w1.heap.size b (w1.alloc (.cells #[.int .i64 0, .int .i64 100, .slice (some ⟨b, 0, none⟩) 5 5] 24)) := by
    exact ⟨by (repeat (first | exact Below.refl _ _ | assumption | refine balloc ?_ _ | refine below_drewN ?_ _ | refine bstep (by assumption) ?_ | refine bstep (Past.prop _) ?_ | refine Below.setCell ?_ (by first | exact Nat.le_refl _ | (simp; done) | (simp; omega)) _)), Blk.made _ _ _, hB.alloc _⟩
  have HS := hidE HH; clear HH hB hb1 hbz
  generalize World.alloc _ _ = w2 at *
  generalize w1.heap.size = p at *
  ((with_reducible refine (h8_chk 0 100 T8 0 0 t8_chk 5 rfl _ _ _ (by decide) HS.out.T (by decide) (by decide)).mono ?_); rintro e w3 ⟨rfl, hb3⟩)
  replace HS := hidE (HS.out.past hb3)
  have p0 := HS.out.d.cell 0; have p1 := HS.out.d.cell 1; have p2 := HS.out.d.cell 2; have pz := HS.out.d.lt
  simp at p0 p1 p2
  go_wp2_with fail
  clear p0 p1 p2 pz
  ((with_reducible refine (h8_kids T8 0 [1, 2] t8_may0 t8_kids0 5 rfl _ _ _ (by decide) HS.out.T (by decide)).mono ?_); rintro e w4 ⟨k1, kc1, rfl, hK1, hb4, _⟩)
  replace HS := hidE (HS.out.past hb4)
  have HK1 := hidE hK1; clear hK1
  have p0 := HS.out.d.cell 0; have p1 := HS.out.d.cell 1; have p2 := HS.out.d.cell 2; have pz := HS.out.d.lt
  simp at p0 p1 p2
  go_wp2_with fail
  clear p0 p1 p2 pz
  ((with_reducible refine (h8_kids T8 2 [3, 4] t8_may2 t8_kids2 5 rfl _ _ _ (by decide) HS.out.T (by decide)).mono ?_); rintro e w5 ⟨k2, kc2, rfl, hK2, hb5, _⟩)
  replace HS := hidE (HS.out.past hb5)
  have HK2 := hidE hK2; clear hK2; replace HK1 := hidE (HK1.out.past hb5)
  have p0 := HS.out.d.cell 0; have p1 := HS.out.d.cell 1; have p2 := HS.out.d.cell 2; have pz := HS.out.d.lt
  simp at p0 p1 p2
  go_wp2_with fail
  clear p0 p1 p2 pz
  ((with_reducible refine (h8_end T8 2 5 0 t8_may2 t8_end 5 rfl _ _ _ (by decide) HS.out.T (by decide)).mono ?_); rintro e w6 ⟨rfl, hb6⟩)
  replace HS := hidE (HS.out.past hb6)
  replace HK1 := hidE (HK1.out.past hb6); replace HK2 := hidE (HK2.out.past hb6)
  have p0 := HS.out.d.cell 0; have p1 := HS.out.d.cell 1; have p2 := HS.out.d.cell 2; have pz := HS.out.d.lt
  simp at p0 p1 p2
  go_wp2_with fail
  clear p0 p1 p2 pz
  ((with_reducible refine (h8_depth T8 4 3 0 t8_may4 t8_depth 5 rfl _ _ _ (by decide) HS.out.T (by decide)).mono ?_); rintro e w7 ⟨rfl, hb7⟩)
  replace HS := hidE (HS.out.past hb7)
  replace HK1 := hidE (HK1.out.past hb7); replace HK2 := hidE (HK2.out.past hb7)
  go_wp2_with fail
  ((with_reducible refine (plan_c _).mono ?_); rintro e w8 ⟨b1, hz1, rfl, hB1, hb8⟩)
  have l1 := hB1.lt
  go_wp2_with fail
  ((with_reducible refine (plan_c _).mono ?_); rintro e w9 ⟨b2, hz2, rfl, hB2, hb9⟩)
  replace hB1 := hB1.past hb9
  have l2 := hB2.lt
  go_wp2_with fail
  ((with_reducible refine (plan_c _).mono ?_); rintro e w10 ⟨b3, hz3, rfl, hB3, hb10⟩)
  have h79 : Below w7.heap.size w7 w10 := (hb8.trans (hb9.mono hb8.size)).trans (hb10.mono (Nat.le_trans hb8.size hb9.size))
  have HG := fun (A B C : Obj) (hA : A = .cells #[.int .i64 0, .int .i64 0, .slice (some ⟨b1, 0, none⟩) 5 5] 24) (hB : B = .cells #[.int .i64 0, .int .i64 100, .slice (some ⟨b2, 0, none⟩) 5 5] 24) (hC : C = .cells #[.int .i64 0, .int .i64 100, .slice (some ⟨b3, 0, none⟩) 5 5] 24) => hidE (show G8 w7 p b w10.heap.size b1 b2 b3 T8 5 (((w10.alloc A).alloc B).alloc C) from by
    subst hA hB hC
    have := hb8.size; have := hb9.size; have := hb10.size; have := hB3.lt; have := HS.out.2.1.lt; have := HS.out.2.2.lt
    have hs := HS.out.past h79
    exact ⟨by (repeat (first | exact Below.refl _ _ | assumption | refine balloc ?_ _ | refine below_drewN ?_ _ | refine bstep (by assumption) ?_ | refine bstep (Past.prop _) ?_ | refine Below.setCell ?_ (by first | exact Nat.le_refl _ | (simp; done) | (simp; omega)) _)), ((hs.2.1.alloc _).alloc _).alloc _, ((hs.2.2.alloc _).alloc _).alloc _, ((Blk.made _ _ _).alloc _).alloc _, (Blk.made_at _ _ _ _ (by simp)).alloc _, Blk.made_at _ _ _ _ (by simp), (((hB1.past hb10).alloc _).alloc _).alloc _, (((hB2.past hb10).alloc _).alloc _).alloc _, ((hB3.alloc _).alloc _).alloc _, by omega, by omega, by omega, by omega, by omega, by omega⟩)
  clear hB1 hB2 hB3 hb8 hb9 hb10 hz1 hz2 hz3 l1 l2 h79
  go_upto_region 9 with fail
  replace HG := HG _ _ _ rfl rfl rfl
  generalize World.alloc _ _ = w11 at *
  generalize w10.heap.size = q at *
  have p0 := HG.out.d2.cell 2; have pz := HG.out.d2.lt
  have c7 := HG.out.B2.cell 7; have f7 := HG.out.B2.free 7; have z7 := HG.out.B2.lt
  simp [T8, cellsOfP] at p0 c7
  go_upto_region 10 with fail
  replace HG := hidE HG.out.odd
  generalize World.setCell _ _ _ = w12 at *
  clear p0 pz c7 f7 z7
  have p0 := HG.out.d3.cell 2; have pz := HG.out.d3.lt; have f2 := HG.out.d3.free 2
  simp at p0
  go_upto_region 11 with fail
  replace HG := hidE HG.out.cut
  generalize World.setCell _ _ _ = w13 at *
  clear p0 pz f2
  have q0 := HG.out.d1.cell 0
  have q1 := HG.out.d1.cell 1
  have q2 := HG.out.d1.cell 2
  have q3 := HG.out.d1.lt
  simp at q0 q1 q2
  go_wp2_with fail
  clear q0 q1 q2 q3
  ((with_reducible refine (h8_chk 0 0 T8 (-1) 82 t8_none 5 rfl _ _ _ (by decide) HG.out.T1 (by decide) (by decide)).mono ?_); rintro e w14 ⟨rfl, hb14⟩)
  replace HG := hidE (HG.out.past hb14)
  have q0 := HG.out.d2.cell 0
  have q1 := HG.out.d2.cell 1
  have q2 := HG.out.d2.cell 2
  have q3 := HG.out.d2.lt
  simp at q0 q1 q2
  go_wp2_with fail
  clear q0 q1 q2 q3
  ((with_reducible refine (h8_chk 0 100 T8o 1 81 t8_odd 5 rfl _ _ _ (by decide) HG.out.T2 (by decide) (by decide)).mono ?_); rintro e w15 ⟨rfl, hb15⟩)
  replace HG := hidE (HG.out.past hb15)
  have q0 := HG.out.d3.cell 0
  have q1 := HG.out.d3.cell 1
  have q2 := HG.out.d3.cell 2
  have q3 := HG.out.d3.lt
  simp at q0 q1 q2
  go_wp2_with fail
  clear q0 q1 q2 q3
  ((with_reducible refine (h8_chk 0 100 T8c 4 81 t8_cut 4 rfl _ _ _ (by decide) (argP_take 4 HG.out.T3) (by decide) (by decide)).mono ?_); rintro e w16 ⟨rfl, hb16⟩)
  replace HG := hidE (HG.out.past hb16)
  have q0 := HG.out.d.cell 2
  have q1 := HG.out.d.lt
  simp at q0
  go_wp2_with fail
  clear q0 q1
  ((with_reducible refine (h8_kidsE T8 5 2 t8_may5 (by decide) 5 rfl _ _ _ (by decide) HG.out.T (by decide)).mono ?_); rintro e w17 ⟨k5, rfl, hb17⟩)
  replace HG := hidE (HG.out.past hb17)
  have q0 := HG.out.d3.cell 2
  have q1 := HG.out.d3.lt
  simp at q0
  go_wp2_with fail
  clear q0 q1
  ((with_reducible refine (h8_end T8c 0 0 81 t8_mayc rfl 4 rfl _ _ _ (by decide) (argP_take 4 HG.out.T3) (by decide)).mono ?_); rintro e w18 ⟨rfl, hb18⟩)
  replace HG := hidE (HG.out.past hb18)
  have HW := hidE HG.out.bel
  go_wp2_with fail
  ((with_reducible refine (h8_same [1, 2] 2 rfl _ _ _ _ _ (by decide) ?hA ?hB).mono ?_))
  case hA => exact HK1.out.past (by have := HW.out; (repeat (first | exact Below.refl _ _ | assumption | refine balloc ?_ _ | refine below_drewN ?_ _ | refine bstep (by assumption) ?_ | refine bstep (Past.prop _) ?_ | refine Below.setCell ?_ (by first | exact Nat.le_refl _ | (simp; done) | (simp; omega)) _)))
  case hB => exact argK_blk (l := natsI [1, 2]) (t := 3) (Blk.made_at _ _ _ _ rfl)
  rintro e w19 ⟨rfl, hb19⟩
  replace HG := hidE (HG.out.past (by (repeat (first | exact Below.refl _ _ | assumption | refine balloc ?_ _ | refine below_drewN ?_ _ | refine bstep (by assumption) ?_ | refine bstep (Past.prop _) ?_ | refine Below.setCell ?_ (by first | exact Nat.le_refl _ | (simp; done) | (simp; omega)) _)) : Below w18.heap.size w18 w19))
  clear hb19; replace HW := hidE HG.out.bel
  go_wp2_with fail
  ((with_reducible refine (h8_same [3, 4] 2 rfl _ _ _ _ _ (by decide) ?hA ?hB).mono ?_))
  case hA => exact HK2.out.past (by have := HW.out; (repeat (first | exact Below.refl _ _ | assumption | refine balloc ?_ _ | refine below_drewN ?_ _ | refine bstep (by assumption) ?_ | refine bstep (Past.prop _) ?_ | refine Below.setCell ?_ (by first | exact Nat.le_refl _ | (simp; done) | (simp; omega)) _)))
  case hB => exact argK_blk (l := natsI [3, 4]) (t := 3) (Blk.made_at _ _ _ _ rfl)
  rintro e w20 ⟨rfl, hb20⟩
  replace HG := hidE (HG.out.past (by (repeat (first | exact Below.refl _ _ | assumption | refine balloc ?_ _ | refine below_drewN ?_ _ | refine bstep (by assumption) ?_ | refine bstep (Past.prop _) ?_ | refine Below.setCell ?_ (by first | exact Nat.le_refl _ | (simp; done) | (simp; omega)) _)) : Below w19.heap.size w19 w20))
  clear hb20; replace HW := hidE HG.out.bel
  have q0 := HG.out.d.cell 2; have q1 := HG.out.d.lt
  simp at q0
  go_wp2_with fail
  ((with_reducible refine (h8_atoms T8 [1, 3, 4] t8_atoms 5 rfl _ _ _ (by decide) HG.out.T).mono ?_); rintro e w21 ⟨k6, kc6, rfl, hK6, hb21⟩)
  replace HG := hidE (HG.out.past hb21)
  have HK6 := hidE hK6
  clear hb21 hK6 q0 q1; replace HW := hidE HG.out.bel
  go_wp2_with fail
  ((with_reducible refine (h8_same [1, 3, 4] 3 rfl _ _ _ _ _ (by decide) ?hA ?hB).mono ?_))
  case hA => exact HK6.out.past (by have := HW.out; (repeat (first | exact Below.refl _ _ | assumption | refine balloc ?_ _ | refine below_drewN ?_ _ | refine bstep (by assumption) ?_ | refine bstep (Past.prop _) ?_ | refine Below.setCell ?_ (by first | exact Nat.le_refl _ | (simp; done) | (simp; omega)) _)))
  case hB => exact argK_blk (l := natsI [1, 3, 4]) (t := 3) (Blk.made_at _ _ _ _ rfl)
  rintro e w22 ⟨rfl, hb22⟩
  replace HG := hidE (HG.out.past (by (repeat (first | exact Below.refl _ _ | assumption | refine balloc ?_ _ | refine below_drewN ?_ _ | refine bstep (by assumption) ?_ | refine bstep (Past.prop _) ?_ | refine Below.setCell ?_ (by first | exact Nat.le_refl _ | (simp; done) | (simp; omega)) _)) : Below w21.heap.size w21 w22))
  clear hb22; replace HW := hidE HG.out.bel
  go_wp2
  go_ret
  exact ⟨rfl, HS.out.bel.trans (HW.out.mono HS.out.bel.size)⟩
end Go.Proofs.Ytnifmdeojgfgcaa
