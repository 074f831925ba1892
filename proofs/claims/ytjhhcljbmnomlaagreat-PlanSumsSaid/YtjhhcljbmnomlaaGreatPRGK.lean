/- The statements' own bound on rows of changes. No conditions. What few changes are: rows of changes that are short, and say what plan's contracts take. No function of the program. No conditions. Rows of changes that are handed in, and slices of them. No conditions. Rows of changes, and rows of such, as a statement of layer 11 is handed them. No conditions but the claim's own on sizes. Slices of int64 that are handed in. No conditions. slices.Sorted(maps.Keys(m)) over users' rows: its bodies and their types are the shelf's. No conditions. Package plan: the users of a plan, in order. No conditions but the sizes. Package plan: what is said of no plan: a nil pointer, a plan that was not made. No conditions. A region that draws its order, by an invariant of what has run: an operation may use up what another one made (an append its row). No conditions. A step of a region that draws its order, with the frame opaque: what each operand reads as is all that is known of it. No conditions. -/
import Derived.Test.YtjhhcljbmnomlaaGreatPRGJ
import Derived.Deep.RegionHeld3
import Derived.SizedLaws
import Derived.Test.YtjhhcljbmnomlaaGreatPRGA
import Derived.Test.YtjhhcljbmnomlaaGreatPRGC
import Derived.Shelf.SlIter.Nil
import Derived.Shelf.SortM.Plain
import Derived.Shelf.SortM.SortNone
import Derived.Test.YtjhhcljbmnomlaaGreatPRGD
namespace Go.Proofs.YtjhhcljbmnomlaaGreat
open Go.ChangeShapes Go.WideShapes Go.ChangeAt Go.RowKit
attribute [local irreducible] Go.Calls

/-- The changes that a row of them says, of any size. -/
structure ChF0 (w : World) (l : List Cw) (cs : List (Int × Rv)) : Prop where
  len : cs.length = l.length
  kd : ∀ i, i < l.length → (l.getD i cw0).1 = (cs.getD i (0, rv0)).1 ∧ 0 ≤ (l.getD i cw0).1 ∧ (l.getD i cw0).1 ≤ 255
  rv : ∀ i, i < l.length → RwF w (l.getD i cw0).2 (cs.getD i (0, rv0)).2
theorem ChF0.past {w w' : World} {l : List Cw} {cs : List (Int × Rv)} (h : ChF0 w l cs) (hb : Below w.heap.size w w') : ChF0 w' l cs := ⟨h.len, h.kd, fun i hi => (h.rv i hi).past hb⟩
/-- What great asks of a reservation. -/
def smR (r : Rv) : Prop := r.A.length ≤ 30 ∧ r.W.length ≤ 30 ∧ r.T.length ≤ 30 ∧ r.u.length ≤ 100
/-- A slice of rows of changes. -/
def SliSC (w : World) (v : Value) (ls : List (List Cw)) (css : List (List (Int × Rv))) : Prop := ∃ (a : Option Addr) (cap : Nat), v = .slice a ls.length cap ∧ ls.length ≤ cap ∧ cap ≤ 9223372036854775807 ∧ css.length = ls.length ∧
  (0 < ls.length → ∃ b off, a = some ⟨b, off, none⟩ ∧ b < w.heap.size ∧ ∀ i, i < ls.length → ∃ vi, w.cell? ⟨b, off + i, none⟩ = some vi ∧ SliCh w vi (ls.getD i []) ∧ ChF0 w (ls.getD i []) (css.getD i []) ∧ (ls.getD i []).length ≤ 100000000000000)
theorem SliSC.past {w w' : World} {v : Value} {ls : List (List Cw)} {css : List (List (Int × Rv))} (h : SliSC w v ls css) (hb : Below w.heap.size w w') : SliSC w' v ls css := by
  obtain ⟨a, cap, e, h1, h2, h3, h4⟩ := h
  refine ⟨a, cap, e, h1, h2, h3, fun hl => ?_⟩
  obtain ⟨b, off, e2, h6, h7⟩ := h4 hl
  refine ⟨b, off, e2, Nat.lt_of_lt_of_le h6 hb.size, fun i hi => ?_⟩
  obtain ⟨vi, g1, g2, g3, g4⟩ := h7 i hi
  exact ⟨vi, (hb.cell (p := ⟨b, _, none⟩) h6).trans g1, g2.past hb, g3.past hb, g4⟩
/-- The rows' lengths together. -/
def sumC (ls : List (List Cw)) (i : Nat) : Nat := ((ls.take i).map List.length).sum
theorem sumC_step {ls : List (List Cw)} {i : Nat} (h : i < ls.length) : sumC ls (i + 1) = sumC ls i + (ls.getD i []).length := by
  unfold sumC
  rw [List.take_succ_eq_append_getElem h, List.map_append, List.sum_append, List.getD_eq_getElem?_getD, List.getElem?_eq_getElem h]
  simp
theorem sumC_le {ls : List (List Cw)} (h : ∀ i, i < ls.length → (ls.getD i []).length ≤ 100000000000000) : ∀ i, i ≤ ls.length → sumC ls i ≤ i * 100000000000000
  | 0, _ => by simp [sumC]
  | i + 1, hi => by rw [sumC_step hi]; have := sumC_le h i (by omega); have := h i hi; omega
/-- What great says, where it says no. -/
def Few (ls : List (List Cw)) (css : List (List (Int × Rv))) : Prop := ls.length ≤ 40 ∧ sumC ls ls.length ≤ 80 ∧ ∀ i, i < ls.length → ∀ k, k < (ls.getD i []).length → k < 100 → smR ((css.getD i []).getD k (0, rv0)).2

set_option maxRecDepth 100000 in
set_option maxHeartbeats 4000000 in
theorem great_c {v : Value} {ls : List (List Cw)} {css : List (List (Int × Rv))} (w : World) (hv : SliSC w v ls css) : Calls Tryz.prog 9 #[v] w fun e w' => ∃ b, e = .returned (.bool b) ∧ Below w.heap.size w w' ∧ (b = false → Few ls css) := by
  obtain ⟨a, cap, rfl, p1, p2, p3, p4⟩ := hv
  have HA := hidE p4
  have hl : ls.length ≤ 9223372036854775807 := by omega
  have HBD := hidE (show ∀ i, i < ls.length → (ls.getD i []).length ≤ 100000000000000 from fun i hi => by
    obtain ⟨b, off, _, _, h⟩ := p4 (by omega)
    obtain ⟨_, _, _, _, h5⟩ := h i hi
    exact h5)
  clear p1 p2 p3 p4
  go_enter Tryz.func9, Tryz.ntmps9
  go_wp2
  go_loopg [3, 4] ls.length (fun g v3 v4 wr => ∃ (i : Nat) (m : Int), i ≤ ls.length ∧ ls.length - i ≤ g ∧ v4 = .int .i64 i ∧ v3 = .int .i64 m ∧ (i ≤ 41 → m = sumC ls i) ∧ (∀ j, j < i → ∀ k, k < (ls.getD j []).length → k < 100 → smR ((css.getD j []).getD k (0, rv0)).2) ∧ Below w.heap.size w wr)
  case atStart => exact ⟨0, 0, Nat.zero_le _, by omega, rfl, rfl, fun _ => rfl, fun j hj => by omega, Below.refl _ _⟩
  case round =>
    obtain ⟨i, m, hi, hg, rfl, rfl, hm, hs, hb⟩ := hrel
    have HB := hidE hb; have HM := hidE hm; have HS := hidE hs; have HG := hidE hg
    clear hb hm hs hg
    by_cases hlt : i < ls.length
    · obtain ⟨b, off, rfl, hbz, hc⟩ := HA.out (by omega)
      obtain ⟨vi, c0, hsl, hch, hln⟩ := hc i hlt
      have hd0 : decide ((i : Int) < (ls.length : Int)) = true := decide_eq_true (by omega)
      rw [← HB.out.cell (p := ⟨b, _, none⟩) hbz] at c0
      have hbz' : b < wr.heap.size := Nat.lt_of_lt_of_le hbz HB.out.size
      have HSL := hidE (hsl.past HB.out); have HCH := hidE (hch.past HB.out)
      obtain ⟨ai, ci, rfl, q1, q2, q3⟩ := id hsl
      have HST := hidE (sumC_step hlt)
      have HSU := hidE (sumC_le HBD.out i hi)
      generalize hLL : ls.getD i [] = LL at *
      generalize hCC : css.getD i [] = CC at *
      obtain ⟨M, hM⟩ : ∃ M, M = wrap64 (m + (LL.length : Int)) := ⟨_, rfl⟩
      have HMM := hidE (show i + 1 ≤ 41 → M = sumC ls (i + 1) from fun h => by
        have h1 := HSU.out
        have h2 : i * 100000000000000 ≤ 4000000000000000 := by omega
        rw [hM, HM.out (by omega), HST.out]
        unfold wrap64; omega)
      have HW := hidE hM
      have HLN := hidE hln
      clear hsl hch hc q3 q1 q2 hln
      go_upto_region 6 with fail
      rw [← HW.out]
      clear HW hM
      obtain ⟨w1, hw1⟩ : ∃ w1 : World, w1 = wr := ⟨_, rfl⟩
      rw [← hw1] at HB HSL HCH c0 hbz' ⊢
      clear hw1
      go_wp2
      go_loopg [5] LL.length (fun g v5 wx => ∃ k : Nat, k ≤ LL.length ∧ LL.length - k ≤ g ∧ v5 = .int .i64 k ∧ (∀ q, q < k → smR (CC.getD q (0, rv0)).2) ∧ Below w1.heap.size w1 wx)
      case atStart => exact ⟨0, Nat.zero_le _, by omega, rfl, fun q hq => by omega, Below.refl _ _⟩
      case round =>
        obtain ⟨k, hk, hg2, rfl, hs2, hb2⟩ := hrel
        have HB2 := hidE hb2; have HS2 := hidE hs2; have HG2 := hidE hg2
        have c1 := (hb2.cell (p := ⟨b, off + i, none⟩) hbz').trans c0
        have hbz2 : b < wr.heap.size := Nat.lt_of_lt_of_le hbz' hb2.size
        clear hb2 hs2 hg2 c0 hbz'
        by_cases hk1 : k < LL.length
        · have f1 : decide ((k : Int) < (LL.length : Int)) = true := decide_eq_true (by omega)
          by_cases hk2 : k < 100
          · have f2 : decide ((k : Int) < 100) = true := decide_eq_true (by omega)
            obtain ⟨_, _, e0, _, _, hcc0⟩ := HSL.out
            cases e0
            obtain ⟨b2, off2, rfl, hb2z, hcc⟩ := hcc0 (by omega)
            have hx := HCH.out.rv k hk1
            have e0 := hcc k 0 hk1 (by omega); have e1 := hcc k 1 hk1 (by omega); have e2 := hcc k 2 hk1 (by omega); have e3 := hcc k 3 hk1 (by omega); have e4 := hcc k 4 hk1 (by omega); have e5 := hcc k 5 hk1 (by omega); have e6 := hcc k 6 hk1 (by omega); have e7 := hcc k 7 hk1 (by omega); have e8 := hcc k 8 hk1 (by omega)
            rw [← HB2.out.cell hb2z] at e0 e1 e2 e3 e4 e5 e6 e7 e8
            have hb2z' : b2 < wr.heap.size := Nat.lt_of_lt_of_le hb2z HB2.out.size
            have HNX := hidE (fun (h : smR (CC.getD k (0, rv0)).2) => show ∀ q, q < k + 1 → smR (CC.getD q (0, rv0)).2 from fun q hq => by
              by_cases c : q = k
              · rw [c]; exact h
              · exact HS2.out q (by omega))
            clear hcc hcc0 hb2z
            generalize CC.getD k (0, rv0) = q at *
            generalize LL.getD k cw0 = y at *
            obtain ⟨kd, x⟩ := y
            obtain ⟨kq, r⟩ := q
            simp only [cwCells, Rw.cells] at e0 e1 e2 e3 e4 e5 e6 e7 e8
            simp at e0 e1 e2 e3 e4 e5 e6 e7 e8
            simp only at hx
            obtain ⟨a5, c5, q5, _⟩ := hx.t
            obtain ⟨a6, c6, q6, _⟩ := hx.w'
            obtain ⟨a7, c7, q7, _⟩ := hx.a.1
            have q8 := hx.u
            clear hx
            obtain ⟨xi, xq, xu, xf, xt, xT, xW, xA⟩ := x
            obtain ⟨ri, rq, ru, rf, rt, rT, rW, rA⟩ := r
            simp only at q5 q6 q7 q8 e0 e1 e2 e3 e4 e5 e6 e7 e8
            subst q5 q6 q7 q8
            by_cases h1 : rA.length ≤ 30
            · have n1 : decide ((30 : Int) < (rA.length : Int)) = false := decide_eq_false (by omega)
              by_cases h2 : rW.length ≤ 30
              · have n2 : decide ((30 : Int) < (rW.length : Int)) = false := decide_eq_false (by omega)
                by_cases h3 : rT.length ≤ 30
                · have n3 : decide ((30 : Int) < (rT.length : Int)) = false := decide_eq_false (by omega)
                  by_cases h4 : xu.length ≤ 100
                  · have n4 : decide ((100 : Int) < (xu.length : Int)) = false := decide_eq_false (by omega)
                    have HX := hidE (HNX.out ⟨h1, h2, h3, h4⟩)
                    clear HNX h1 h2 h3 h4
                    go_wp2
                    go_roundg (LL.length - (k + 1))
                    case measure => have := HG2.out; omega
                    case rel => exact ⟨k + 1, by omega, Nat.le_refl _, by go_num, HX.out, by have := HB2.out; (repeat (first | exact Below.refl _ _ | assumption | refine balloc ?_ _ | refine below_drewN ?_ _ | refine bstep (by assumption) ?_ | refine bstep (Past.prop _) ?_ | refine Below.setCell ?_ (by first | exact Nat.le_refl _ | (simp; done) | (simp; omega)) _))⟩
                  · have n4 : decide ((100 : Int) < (xu.length : Int)) = true := decide_eq_true (by omega)
                    clear HNX
                    go_wp2
                    go_ret
                    exact .inr ⟨rfl, by have h1 := HB.out.trans (HB2.out.mono HB.out.size); (repeat (first | exact Below.refl _ _ | assumption | refine balloc ?_ _ | refine below_drewN ?_ _ | refine bstep (by assumption) ?_ | refine bstep (Past.prop _) ?_ | refine Below.setCell ?_ (by first | exact Nat.le_refl _ | (simp; done) | (simp; omega)) _))⟩
                · have n3 : decide ((30 : Int) < (rT.length : Int)) = true := decide_eq_true (by omega)
                  clear HNX
                  go_wp2
                  go_ret
                  exact .inr ⟨rfl, by have h1 := HB.out.trans (HB2.out.mono HB.out.size); (repeat (first | exact Below.refl _ _ | assumption | refine balloc ?_ _ | refine below_drewN ?_ _ | refine bstep (by assumption) ?_ | refine bstep (Past.prop _) ?_ | refine Below.setCell ?_ (by first | exact Nat.le_refl _ | (simp; done) | (simp; omega)) _))⟩
              · have n2 : decide ((30 : Int) < (rW.length : Int)) = true := decide_eq_true (by omega)
                clear HNX
                go_wp2
                go_ret
                exact .inr ⟨rfl, by have h1 := HB.out.trans (HB2.out.mono HB.out.size); (repeat (first | exact Below.refl _ _ | assumption | refine balloc ?_ _ | refine below_drewN ?_ _ | refine bstep (by assumption) ?_ | refine bstep (Past.prop _) ?_ | refine Below.setCell ?_ (by first | exact Nat.le_refl _ | (simp; done) | (simp; omega)) _))⟩
            · have n1 : decide ((30 : Int) < (rA.length : Int)) = true := decide_eq_true (by omega)
              clear HNX
              go_wp2
              go_ret
              exact .inr ⟨rfl, by have h1 := HB.out.trans (HB2.out.mono HB.out.size); (repeat (first | exact Below.refl _ _ | assumption | refine balloc ?_ _ | refine below_drewN ?_ _ | refine bstep (by assumption) ?_ | refine bstep (Past.prop _) ?_ | refine Below.setCell ?_ (by first | exact Nat.le_refl _ | (simp; done) | (simp; omega)) _))⟩
          · have f2 : decide ((k : Int) < 100) = false := decide_eq_false (by omega)
            have HX := hidE (show ∀ j, j < i + 1 → ∀ q, q < (ls.getD j []).length → q < 100 → smR ((css.getD j []).getD q (0, rv0)).2 from fun j hj q hq hq2 => by
              by_cases c : j = i
              · subst c; rw [hCC]; exact HS2.out q (by omega)
              · exact HS.out j (by omega) q hq hq2)
            have HBN := hidE (HB.out.trans (HB2.out.mono HB.out.size))
            clear HS2 HB2
            go_wp2
            go_roundg (ls.length - (i + 1))
            case measure => have := HG.out; omega
            case rel => exact ⟨i + 1, M, by omega, Nat.le_refl _, by go_num, rfl, HMM.out, HX.out, HBN.out⟩
        · have f1 : decide ((k : Int) < (LL.length : Int)) = false := decide_eq_false (by omega)
          have HX := hidE (show ∀ j, j < i + 1 → ∀ q, q < (ls.getD j []).length → q < 100 → smR ((css.getD j []).getD q (0, rv0)).2 from fun j hj q hq hq2 => by
            by_cases c : j = i
            · subst c; rw [hCC]; rw [hLL] at hq; exact HS2.out q (by omega)
            · exact HS.out j (by omega) q hq hq2)
          have HBN := hidE (HB.out.trans (HB2.out.mono HB.out.size))
          clear HS2 HB2
          go_wp2
          go_roundg (ls.length - (i + 1))
          case measure => have := HG.out; omega
          case rel => exact ⟨i + 1, M, by omega, Nat.le_refl _, by go_num, rfl, HMM.out, HX.out, HBN.out⟩
    · obtain rfl : i = ls.length := by omega
      have hd0 : decide ((ls.length : Int) < (ls.length : Int)) = false := decide_eq_false (by omega)
      by_cases c4 : ls.length ≤ 40
      · have n1 : decide ((40 : Int) < (ls.length : Int)) = false := decide_eq_false (by omega)
        have hm := HM.out (by omega)
        subst hm
        by_cases c8 : sumC ls ls.length ≤ 80
        · have n2 : decide ((80 : Int) < (sumC ls ls.length : Int)) = false := decide_eq_false (by omega)
          have HF := hidE (show Few ls css from ⟨c4, c8, HS.out⟩)
          clear HS HM HBD HA c4 c8
          go_wp2
          go_ret
          exact ⟨false, rfl, HB.out, fun _ => HF.out⟩
        · have n2 : decide ((80 : Int) < (sumC ls ls.length : Int)) = true := decide_eq_true (by omega)
          clear HS HM HBD HA
          go_wp2
          go_ret
          exact ⟨true, rfl, HB.out, fun h => by cases h⟩
      · have n1 : decide ((40 : Int) < (ls.length : Int)) = true := decide_eq_true (by omega)
        clear HS HM HBD HA
        go_wp2
        go_ret
        exact ⟨true, rfl, HB.out, fun h => by cases h⟩
end Go.Proofs.YtjhhcljbmnomlaaGreat

namespace Go.Proofs.YtjhhcljbmnomlaaGreat
open Go.ChangeShapes Go.WideShapes Go.ChangeAt Go.RowKit
attribute [local irreducible] Go.Calls

theorem sumC_mono {ls : List (List Cw)} : ∀ {j : Nat}, j ≤ ls.length → ∀ i, i ≤ j → sumC ls i ≤ sumC ls j
  | 0, _, i, h => by obtain rfl : i = 0 := by omega
                     exact Nat.le_refl _
  | j + 1, hj, i, h => by
    by_cases c : i = j + 1
    · rw [c]; exact Nat.le_refl _
    · have := sumC_mono (ls := ls) (j := j) (by omega) i (by omega)
      rw [sumC_step (by omega)]; omega
theorem sumC_row {ls : List (List Cw)} {i : Nat} (h : i < ls.length) : (ls.getD i []).length ≤ sumC ls ls.length := by
  have h1 := sumC_mono (ls := ls) (Nat.le_refl _) (i + 1) h
  rw [sumC_step h] at h1
  omega
theorem smR.small {r : Rv} (h : smR r) : r.small := by
  obtain ⟨h1, h2, h3, h4⟩ := h
  exact ⟨by omega, by omega, by omega, by omega⟩
theorem Few.row {ls : List (List Cw)} {css : List (List (Int × Rv))} (h : Few ls css) {i : Nat} (hi : i < ls.length) : (ls.getD i []).length ≤ 80 := Nat.le_trans (sumC_row hi) h.2.1
theorem Few.sm {ls : List (List Cw)} {css : List (List (Int × Rv))} (h : Few ls css) {i k : Nat} (hi : i < ls.length) (hk : k < (ls.getD i []).length) : smR ((css.getD i []).getD k (0, rv0)).2 :=
  h.2.2 i hi k hk (by have := h.row hi; omega)
theorem Few.chs {w : World} {ls : List (List Cw)} {css : List (List (Int × Rv))} (h : Few ls css) {i : Nat} (hi : i < ls.length) (hc : ChF0 w (ls.getD i []) (css.getD i [])) : ChsF w (ls.getD i []) (css.getD i []) :=
  ⟨hc.len, hc.kd, hc.rv, fun _ hk => (h.sm hi hk).small⟩
end Go.Proofs.YtjhhcljbmnomlaaGreat

namespace Go.Proofs.YtjhhcljbmnomlaaGreat
open Go.ChangeShapes Go.WideShapes Go.ChangeAt Go.RowKit
section
variable {H : Type} {enc : TypeId × Value → H} {W : World}
theorem sliCh_of {cs : List Value} {k : Nat} {y : DataW H × List MemPlace} (h : Tr enc W k 37 cs y) :
    ∃ (v : Value) (l : List Cw) (c : List (Int × Rv)), cs = [v] ∧ SliCh W v l ∧ ChF0 W l c ∧ (l.length = 0 ∨ ∃ el sp, y.1 = .slice el sp ∧ el.length = l.length) := by
  obtain ⟨n, a, cap, g, D, rfl, h1, h2, h3, hd, h4, h5⟩ := trod_sliD (P := Tryz.prog) Tryz.underlying37 (sz := 9) (by kernel_rfl) (by omega) h
  have each : ∀ i, i < n → ∃ z : Cw × (Int × Rv), g i = cwCells z.1 ∧ z.1.1 = z.2.1 ∧ (0 ≤ z.1.1 ∧ z.1.1 ≤ 255) ∧ RwF W z.1.2 z.2.2 := fun i hi => by
    obtain ⟨hl, k', y', ht, _⟩ := h4 i hi
    obtain ⟨q, c, e1, e2, e3, e4, _⟩ := el_change ht hl
    exact ⟨(q, c), e1, e2, e3, e4⟩
  have : Inhabited (Cw × Int × Rv) := ⟨(cw0, 0, rv0)⟩
  obtain ⟨F, hF⟩ := Deep.choose_lt each
  have hget : ∀ i, i < n → ((List.range n).map fun i => (F i).1).getD i cw0 = (F i).1 := fun i hi => by simp [List.getD_eq_getElem?_getD, hi]
  have hget2 : ∀ i, i < n → ((List.range n).map fun i => (F i).2).getD i (0, rv0) = (F i).2 := fun i hi => by simp [List.getD_eq_getElem?_getD, hi]
  have hln : ((List.range n).map fun i => (F i).1).length = n := by simp
  refine ⟨.slice a n cap, (List.range n).map fun i => (F i).1, (List.range n).map fun i => (F i).2, rfl, ⟨a, cap, by rw [hln], by rw [hln]; exact h1, h2, fun hp => ?_⟩, ⟨by simp, fun i hi => ?_, fun i hi => ?_⟩, ?_⟩
  · rw [hln] at hp
    obtain ⟨b, off, e, hb, hc⟩ := h5 hp
    refine ⟨b, off, e, hb, fun i j hi hj => ?_⟩
    rw [hln] at hi
    rw [hget i hi, hc i j hi hj, (hF i hi).1]
  · rw [hln] at hi
    rw [hget i hi, hget2 i hi]
    exact ⟨(hF i hi).2.1, (hF i hi).2.2.1⟩
  · rw [hln] at hi
    rw [hget i hi, hget2 i hi]
    exact (hF i hi).2.2.2
  · rw [hln]
    rcases hd with hd | ⟨el, sp, e1, e2, _⟩
    · exact .inl hd
    · exact .inr ⟨el, sp, e1, e2⟩
theorem bytesCh : 100 ≤ Tryz.prog.bytesOf 52 := by
  have h : Tryz.prog.bytesOf 52 = 120 := by kernel_rfl
  omega
/-- A slice of rows of changes that is handed in. -/
theorem sliSC_of {ts : List TypeId} {ds : List (DataW H)} {j : Nat} {cs : List Value} {k : Nat} {y : DataW H × List MemPlace} (hsz : (DataW.weightsEach Tryz.prog ts ds).all (· ≤ reachBytes) = true) (ht : ts[j]? = some 23) (hd0 : ds[j]? = some y.1) (h : Tr enc W k 23 cs y) :
    ∃ (v : Value) (ls : List (List Cw)) (css : List (List (Int × Rv))), cs = [v] ∧ SliSC W v ls css := by
  obtain ⟨n, a, cap, g, D, rfl, h1, h2, h3, hd, h4, h5⟩ := trod_sliD (P := Tryz.prog) Tryz.underlying23 (sz := 1) (by kernel_rfl) (by omega) h
  have each : ∀ i, i < n → ∃ z : Value × List Cw × List (Int × Rv), g i = [z.1] ∧ SliCh W z.1 z.2.1 ∧ ChF0 W z.2.1 z.2.2 ∧ z.2.1.length ≤ 100000000000000 := fun i hi => by
    obtain ⟨hl, k', y', hy, hyD⟩ := h4 i hi
    obtain ⟨v, l, c, e1, e2, e3, e4⟩ := sliCh_of hy
    refine ⟨(v, l, c), e1, e2, e3, ?_⟩
    rcases e4 with e4 | ⟨el', sp', e5, e6⟩
    · show l.length ≤ _; omega
    · rcases hd with hd | ⟨el, sp, e7, e8, e9⟩
      · omega
      · have hm := e9 i hi
        rw [← hyD, e5] at hm
        rw [e7] at hd0
        have := reach_row hsz ht hd0 Tryz.underlying23 Tryz.underlying37 hm
        have hb := bytesCh
        have hr : reachBytes = 140737488351232 := rfl
        rw [hr] at this
        show l.length ≤ _
        have h9 : el'.length * 100 ≤ (el'.length + sp'.length) * Tryz.prog.bytesOf 52 := Nat.mul_le_mul (by omega) hb
        omega
  obtain ⟨F, hF⟩ := Deep.choose_lt each
  have hget : ∀ i, i < n → ((List.range n).map fun i => (F i).2.1).getD i [] = (F i).2.1 := fun i hi => by simp [List.getD_eq_getElem?_getD, hi]
  have hget2 : ∀ i, i < n → ((List.range n).map fun i => (F i).2.2).getD i [] = (F i).2.2 := fun i hi => by simp [List.getD_eq_getElem?_getD, hi]
  have hln : ((List.range n).map fun i => (F i).2.1).length = n := by simp
  refine ⟨.slice a n cap, (List.range n).map fun i => (F i).2.1, (List.range n).map fun i => (F i).2.2, rfl, a, cap, by rw [hln], by rw [hln]; exact h1, h2, by simp, fun hp => ?_⟩
  rw [hln] at hp
  obtain ⟨b, off, e, hb, hc⟩ := h5 hp
  refine ⟨b, off, e, hb, fun i hi => ?_⟩
  rw [hln] at hi
  rw [hget i hi, hget2 i hi]
  refine ⟨(F i).1, ?_, (hF i hi).2.1, (hF i hi).2.2.1, (hF i hi).2.2.2⟩
  have := hc i 0 hi (by omega)
  rw [(hF i hi).1] at this
  simpa using this
end
end Go.Proofs.YtjhhcljbmnomlaaGreat

namespace Go.Proofs.YtjhhcljbmnomlaaGreat
open Go.ChangeShapes Go.WideShapes Go.ChangeAt Go.RowKit
section
variable {H : Type} {enc : TypeId × Value → H} {W : World} {v : Value} {d : DataW H} {p : List MemPlace} {r : Reach} {b0 j : Nat} {ts : List TypeId} {ds : List (DataW H)}
set_option maxRecDepth 100000 in
theorem open_chssP (hsz : (DataW.weightsEach Tryz.prog ts ds).all (· ≤ reachBytes) = true) (ht : ts[j]? = some 23) (hd : ds[j]? = some d) (ho : Value.okWide Tryz.prog W r b0 23 v) (h : DataW.Trod enc Tryz.prog W 0 (fun _ => true) true 23 v d p) :
    ∃ (a : Option Addr) (cap : Nat) (ls : List (List Cw)) (css : List (List (Int × Rv))), v = .slice a ls.length cap ∧ SliSC W (.slice a ls.length cap) ls css := by
  obtain ⟨o, n, k, rfl⟩ := okWide_slice Tryz.underlying23 ho
  obtain ⟨fuel, h⟩ := h
  have h : Tr enc W fuel 23 [.slice o n k] (d, p) := h
  obtain ⟨v', ls, css, e, h1⟩ := sliSC_of hsz ht hd h
  obtain ⟨a, cap, e2, h4⟩ := id h1
  rw [e2] at e h1
  have e3 : Value.slice o n k = Value.slice a ls.length cap := by simpa using e
  exact ⟨a, cap, ls, css, e3, h1⟩
set_option maxRecDepth 100000 in
theorem open_rsvP (ho : Value.okWide Tryz.prog W r b0 50 v) (h : DataW.Trod enc Tryz.prog W 0 (fun _ => true) true 50 v d p) :
    ∃ (id sq fr to' : Int) (u : List UInt8) (aT aW aA : Option Addr) (nT cT nW cW nA cA : Nat) (rr : Rv), v = rwV (⟨id, sq, u, fr, to', .slice aT nT cT, .slice aW nW cW, .slice aA nA cA⟩ : Rw) ∧ RwF W (⟨id, sq, u, fr, to', .slice aT nT cT, .slice aW nW cW, .slice aA nA cA⟩ : Rw) rr := by
  have he := Tryz.underlying50
  simp only [Value.okWide, he] at ho
  obtain ⟨cs, rfl, hsz, _⟩ := ho
  obtain ⟨fuel, hf⟩ := h
  have hf : Tr enc W fuel 50 cs.toList (d, p) := hf
  have ce : Tryz.prog.cellsOf 50 = 8 := by kernel_rfl
  rw [ce] at hsz
  obtain ⟨x, rr, e, hF, hu⟩ := el_rsv hf (by simpa using hsz)
  obtain ⟨⟨aT, nT, cT, eT⟩, ⟨aW, nW, cW, eW⟩, ⟨aA, nA, cA, eA⟩, _⟩ := hF.fit hu
  obtain ⟨id, sq, u, fr, to', vT, vW, vA⟩ := x
  simp only at eT eW eA
  subst eT; subst eW; subst eA
  refine ⟨id, sq, fr, to', u, aT, aW, aA, nT, cT, nW, cW, nA, cA, rr, ?_, hF⟩
  obtain ⟨l⟩ := cs
  simp at e
  rw [e]
end
end Go.Proofs.YtjhhcljbmnomlaaGreat

namespace Go.Proofs.YtjhhcljbmnomlaaGreat
open Go.ChangeShapes Go.WideShapes Go.ChangeAt Go.RowKit
section
variable {H : Type} {enc : TypeId × Value → H} {P : Program}
theorem open_i64s {ts ti : TypeId} {W : World} {v : Value} {d : DataW H} {p : List MemPlace} (hs : P.underlying ts = some (.slice ti)) (ci : P.cellsOf ti = 1) (hi : P.underlying ti = some (.int .i64))
    {r : Reach} {b0 : Nat} (ho : Value.okWide P W r b0 ts v) (h : DataW.Trod enc P W 0 (fun _ => true) true ts v d p) :
    ∃ (l : List Int) (a : Option Addr) (cap : Nat), v = .slice a l.length cap ∧ l.length ≤ 9223372036854775807 ∧ ArgI W a l := by
  obtain ⟨a, len, cap, rfl⟩ := okWide_slice hs ho
  obtain ⟨fuel, hf⟩ := h
  rcases Deep.open_slice (cs := [.slice a len cap]) hs hf with ⟨hcs, _⟩ | ⟨a', len', cap', m, n, D, Pl, hcs, _, hlc, hcm, hm, _, hx⟩
  · simp at hcs
    obtain ⟨rfl, rfl, rfl⟩ := hcs
    exact ⟨[], none, 0, rfl, by simp, fun h => by simp at h⟩
  · simp at hcs
    obtain ⟨rfl, rfl, rfl⟩ := hcs
    have hlen : len ≤ m := by rw [hm]; simpa using hlc
    have each : ∀ i, i < len → ∃ z : Int, W.cell? (a'.add i) = some (.int .i64 z) := fun i hi' => by
      obtain ⟨cs', hc, ht⟩ := hx i (by omega)
      rw [ci] at hc
      obtain ⟨_, hcl, hat⟩ := World.cells?_some hc
      obtain ⟨z, ez, _, _⟩ := DataW.trod_int hi ht
      subst ez
      have a0 := hat 0 (by omega)
      simp at a0
      refine ⟨z, ?_⟩
      have ea : ((a'.add i).add 0) = a'.add i := by simp [Addr.add]
      first | exact a0 | (rw [ea] at a0; exact a0)
    obtain ⟨F, hF⟩ := Deep.choose_lt each
    refine ⟨(List.range len).map F, some a', cap, by simp, by simp; unfold maxLen at hcm; omega, fun hl => ?_⟩
    simp at hl
    have hc00 := hF 0 hl
    obtain ⟨b, off, spot⟩ := a'
    have hsp : spot = none := by
      cases spot with
      | none => rfl
      | some s => simp [Addr.add, World.cell?] at hc00; split at hc00 <;> simp at hc00
    subst hsp
    have hb : b < W.heap.size := by
      apply Nat.lt_of_not_le
      intro hge
      simp [Addr.add, World.cell?, Array.getElem?_eq_none hge] at hc00
    refine ⟨b, off, rfl, hb, fun i hi => ?_⟩
    have hi' : i < len := by simpa using hi
    have hg : ((List.range len).map F).getD i 0 = F i := by simp [List.getD_eq_getElem?_getD, hi']
    have h1 := hF i hi'
    have ad : (⟨b, off, none⟩ : Addr).add i = ⟨b, off + i, none⟩ := by
      unfold Addr.add
      by_cases c : i = 0
      · subst c; simp
      · simp [c]
    rw [ad] at h1
    rw [hg]
    exact h1
end
set_option maxRecDepth 100000 in
theorem open_i64sP {H : Type} {enc : TypeId × Value → H} {W : World} {v : Value} {d : DataW H} {p : List MemPlace} {r : Reach} {b0 : Nat} (ho : Value.okWide Tryz.prog W r b0 59 v) (h : DataW.Trod enc Tryz.prog W 0 (fun _ => true) true 59 v d p) :
    ∃ (l : List Int) (a : Option Addr) (cap : Nat), v = .slice a l.length cap ∧ l.length ≤ 9223372036854775807 ∧ ArgI W a l :=
  open_i64s (P := Tryz.prog) Tryz.underlying59 cellsI64 Tryz.underlying2 ho h
end Go.Proofs.YtjhhcljbmnomlaaGreat

namespace Go.Proofs.YtjhhcljbmnomlaaGreat
open Go.ChangeShapes Go.WideShapes Go.ChangeAt Go.RowKit Go.Shelf
attribute [local irreducible] Go.Calls

def Tryz.itRen : Go.Shelf.Ren := ⟨fun | 6 => 66 | 7 => 67 | 8 => 106 | 9 => 107 | 10 => 108 | 11 => 155 | n => n, fun | 0 => 0 | 3 => 31 | 4 => 4 | 23 => 107 | 24 => 62 | 26 => 9 | 27 => 132 | 28 => 133 | 33 => 124 | n => n, fun n => n⟩
def Tryz.soRen : Go.Shelf.Ren := ⟨fun | 6 => 107 | 8 => 148 | 9 => 156 | 19 => 193 | 20 => 194 | 21 => 198 | 22 => 199 | 23 => 200 | 24 => 201 | 25 => 202 | 26 => 203 | 27 => 204 | 28 => 205 | 29 => 206 | 31 => 223 | 32 => 224 | 36 => 228 | 37 => 229 | 38 => 230 | 39 => 231 | 41 => 242 | n => n, fun | 0 => 0 | 3 => 3 | 4 => 4 | 5 => 5 | 9 => 9 | 26 => 62 | 27 => 62 | 29 => 9 | 32 => 225 | 35 => 253 | 36 => 254 | 41 => 258 | 44 => 44 | 46 => 262 | 53 => 286 | 57 => 290 | 63 => 304 | 64 => 305 | n => n, fun n => n⟩
set_option maxRecDepth 100000 in
theorem Tryz.keysLay : Go.Proofs.SlLaysZ.n7 Tryz.prog Tryz.itRen := {
  mixed := by kernel_rfl
  f7 := ⟨"maps.Keys[map[string][]livery/api.Rsv,string,[]livery/api.Rsv]", by decide, Tryz.func67.trans (congrArg some (by kernel_rfl))⟩
  f10 := ⟨"maps.Keys[map[string][]livery/api.Rsv,string,[]livery/api.Rsv]$1", by decide, Tryz.func108.trans (congrArg some (by kernel_rfl))⟩
  t0 := Tryz.underlying0
  a0 := Tryz.isAgg0
  z0 := Tryz.sizeOf0
  v0 := Tryz.zeroValue0
  t4 := Tryz.underlying4
  a4 := Tryz.isAgg4
  z4 := Tryz.sizeOf4
  v4 := Tryz.zeroValue4
  t23 := Tryz.underlying107
  a23 := Tryz.isAgg107
  z23 := Tryz.sizeOf107
  v23 := Tryz.zeroValue107
  t26 := Tryz.underlying9
  a26 := Tryz.isAgg9
  z26 := Tryz.sizeOf9
  v26 := Tryz.zeroValue9
  t27 := Tryz.underlying132
  a27 := Tryz.isAgg132
  z27 := Tryz.sizeOf132
  v27 := Tryz.zeroValue132
  t28 := Tryz.underlying133
  a28 := Tryz.isAgg133
  z28 := Tryz.sizeOf133
  v28 := Tryz.zeroValue133
  t33 := Tryz.underlying124
  a33 := Tryz.isAgg124
  z33 := Tryz.sizeOf124
  v33 := Tryz.zeroValue124
  }
set_option maxRecDepth 100000 in
theorem Tryz.sortedLay : Go.Proofs.SlLaysZ.n6 Tryz.prog Tryz.itRen := {
  mixed := by kernel_rfl
  f6 := ⟨"slices.Sorted[string]", by decide, Tryz.func66.trans (congrArg some (by kernel_rfl))⟩
  f8 := ⟨"slices.Collect[string]", by decide, Tryz.func106.trans (congrArg some (by kernel_rfl))⟩
  f11 := ⟨"slices.AppendSeq[[]string,string]", by decide, Tryz.func155.trans (congrArg some (by kernel_rfl))⟩
  t0 := Tryz.underlying0
  a0 := Tryz.isAgg0
  z0 := Tryz.sizeOf0
  v0 := Tryz.zeroValue0
  t24 := Tryz.underlying62
  a24 := Tryz.isAgg62
  z24 := Tryz.sizeOf62
  v24 := Tryz.zeroValue62
  t26 := Tryz.underlying9
  a26 := Tryz.isAgg9
  z26 := Tryz.sizeOf9
  v26 := Tryz.zeroValue9
  t28 := Tryz.underlying133
  a28 := Tryz.isAgg133
  z28 := Tryz.sizeOf133
  v28 := Tryz.zeroValue133
  i26 := by kernel_rfl
  }
set_option maxRecDepth 100000 in
theorem Tryz.strSort : Go.Proofs.SlLaysM.n6 Tryz.prog Tryz.soRen := {
  mixed := by kernel_rfl
  f6 := ⟨"slices.Sort[[]string,string]", by decide, Tryz.func107.trans (congrArg some (by kernel_rfl))⟩
  f8 := Tryz.func148.trans (congrArg some (by kernel_rfl))
  f9 := ⟨"slices.pdqsortOrdered[string]", by decide, Tryz.func156.trans (congrArg some (by kernel_rfl))⟩
  f19 := Tryz.func193.trans (congrArg some (by kernel_rfl))
  f20 := Tryz.func194.trans (congrArg some (by kernel_rfl))
  f21 := ⟨"slices.insertionSortOrdered[string]", by decide, Tryz.func198.trans (congrArg some (by kernel_rfl))⟩
  f22 := ⟨"slices.heapSortOrdered[string]", by decide, Tryz.func199.trans (congrArg some (by kernel_rfl))⟩
  f23 := ⟨"slices.breakPatternsOrdered[string]", by decide, Tryz.func200.trans (congrArg some (by kernel_rfl))⟩
  f24 := ⟨"slices.choosePivotOrdered[string]", by decide, Tryz.func201.trans (congrArg some (by kernel_rfl))⟩
  f25 := ⟨"slices.reverseRangeOrdered[string]", by decide, Tryz.func202.trans (congrArg some (by kernel_rfl))⟩
  f26 := ⟨"slices.partialInsertionSortOrdered[string]", by decide, Tryz.func203.trans (congrArg some (by kernel_rfl))⟩
  f27 := ⟨"cmp.Less[string]", by decide, Tryz.func204.trans (congrArg some (by kernel_rfl))⟩
  f28 := ⟨"slices.partitionEqualOrdered[string]", by decide, Tryz.func205.trans (congrArg some (by kernel_rfl))⟩
  f29 := ⟨"slices.partitionOrdered[string]", by decide, Tryz.func206.trans (congrArg some (by kernel_rfl))⟩
  f31 := Tryz.func223.trans (congrArg some (by kernel_rfl))
  f32 := Tryz.func224.trans (congrArg some (by kernel_rfl))
  f36 := ⟨"slices.siftDownOrdered[string]", by decide, Tryz.func228.trans (congrArg some (by kernel_rfl))⟩
  f37 := ⟨"slices.medianAdjacentOrdered[string]", by decide, Tryz.func229.trans (congrArg some (by kernel_rfl))⟩
  f38 := ⟨"slices.medianOrdered[string]", by decide, Tryz.func230.trans (congrArg some (by kernel_rfl))⟩
  f39 := ⟨"cmp.isNaN[string]", by decide, Tryz.func231.trans (congrArg some (by kernel_rfl))⟩
  f41 := ⟨"slices.order2Ordered[string]", by decide, Tryz.func242.trans (congrArg some (by kernel_rfl))⟩
  t0 := Tryz.underlying0
  a0 := Tryz.isAgg0
  z0 := Tryz.sizeOf0
  v0 := Tryz.zeroValue0
  t3 := Tryz.underlying3
  a3 := Tryz.isAgg3
  z3 := Tryz.sizeOf3
  v3 := Tryz.zeroValue3
  t4 := Tryz.underlying4
  a4 := Tryz.isAgg4
  z4 := Tryz.sizeOf4
  v4 := Tryz.zeroValue4
  t5 := Tryz.underlying5
  a5 := Tryz.isAgg5
  z5 := Tryz.sizeOf5
  v5 := Tryz.zeroValue5
  t9 := Tryz.underlying9
  a9 := Tryz.isAgg9
  z9 := Tryz.sizeOf9
  v9 := Tryz.zeroValue9
  t26 := Tryz.underlying62
  a26 := Tryz.isAgg62
  z26 := Tryz.sizeOf62
  v26 := Tryz.zeroValue62
  t27 := Tryz.underlying62
  a27 := Tryz.isAgg62
  z27 := Tryz.sizeOf62
  v27 := Tryz.zeroValue62
  t29 := Tryz.underlying9
  a29 := Tryz.isAgg9
  z29 := Tryz.sizeOf9
  v29 := Tryz.zeroValue9
  t32 := Tryz.underlying225
  a32 := Tryz.isAgg225
  z32 := Tryz.sizeOf225
  v32 := Tryz.zeroValue225
  t35 := Tryz.underlying253
  a35 := Tryz.isAgg253
  z35 := Tryz.sizeOf253
  v35 := Tryz.zeroValue253
  t36 := Tryz.underlying254
  a36 := Tryz.isAgg254
  z36 := Tryz.sizeOf254
  v36 := Tryz.zeroValue254
  t41 := Tryz.underlying258
  a41 := Tryz.isAgg258
  z41 := Tryz.sizeOf258
  v41 := Tryz.zeroValue258
  t44 := Tryz.underlying44
  a44 := Tryz.isAgg44
  z44 := Tryz.sizeOf44
  v44 := Tryz.zeroValue44
  t46 := Tryz.underlying262
  a46 := Tryz.isAgg262
  z46 := Tryz.sizeOf262
  v46 := Tryz.zeroValue262
  t53 := Tryz.underlying286
  a53 := Tryz.isAgg286
  z53 := Tryz.sizeOf286
  v53 := Tryz.zeroValue286
  t57 := Tryz.underlying290
  a57 := Tryz.isAgg290
  z57 := Tryz.sizeOf290
  v57 := Tryz.zeroValue290
  t63 := Tryz.underlying304
  a63 := Tryz.isAgg304
  z63 := Tryz.sizeOf304
  v63 := Tryz.zeroValue304
  t64 := Tryz.underlying305
  a64 := Tryz.isAgg305
  z64 := Tryz.sizeOf305
  v64 := Tryz.zeroValue305
  }
end Go.Proofs.YtjhhcljbmnomlaaGreat

namespace Go.Proofs.YtjhhcljbmnomlaaGreat
open Go.ChangeShapes Go.WideShapes Go.ChangeAt Go.RowKit Go.Sort Go.Shelf Go.Maps
attribute [local irreducible] Go.Calls

/-- Users, in order, each once. -/
def insU (out : List (List UInt8)) (s : List UInt8) : List (List UInt8) := if s ∈ out then out else out.takeWhile (fun x => decide (x < s)) ++ s :: out.dropWhile (fun x => decide (x < s))
def usersS (L : List Rv) : List (List UInt8) := L.foldl (fun out r => insU out r.u) []
theorem insU_mem (out : List (List UInt8)) (s x : List UInt8) : x ∈ insU out s ↔ x = s ∨ x ∈ out := by
  unfold insU
  split
  · rename_i h
    constructor
    · exact .inr
    · rintro (rfl | h')
      · exact h
      · exact h'
  · have hp : (out.takeWhile (fun x => decide (x < s)) ++ s :: out.dropWhile (fun x => decide (x < s))).Perm (s :: out) := by
      refine (List.perm_middle).trans ?_
      rw [List.takeWhile_append_dropWhile]
    rw [hp.mem_iff, List.mem_cons]
theorem insU_ord : ∀ (out : List (List UInt8)) (s : List UInt8), out.Pairwise (· < ·) → (insU out s).Pairwise (· < ·)
  | [], s, _ => by simp [insU]
  | x :: out, s, h => by
    obtain ⟨h1, h2⟩ := List.pairwise_cons.1 h
    have ih := insU_ord out s h2
    unfold insU at ih ⊢
    by_cases c : s ∈ x :: out
    · rw [if_pos c]; exact h
    · rw [if_neg c]
      have hne : s ≠ x := fun e => c (by rw [e]; exact List.mem_cons_self ..)
      have hno : s ∉ out := fun e => c (List.mem_cons_of_mem _ e)
      rw [if_neg hno] at ih
      by_cases d : x < s
      · rw [List.takeWhile_cons_of_pos (p := fun x => decide (x < s)) (by simpa using d), List.dropWhile_cons_of_pos (p := fun x => decide (x < s)) (by simpa using d)]
        show (x :: (out.takeWhile (fun x => decide (x < s)) ++ s :: out.dropWhile (fun x => decide (x < s)))).Pairwise (· < ·)
        refine List.pairwise_cons.2 ⟨fun y hy => ?_, ih⟩
        have hp : (out.takeWhile (fun x => decide (x < s)) ++ s :: out.dropWhile (fun x => decide (x < s))).Perm (s :: out) := by
          refine (List.perm_middle).trans ?_
          rw [List.takeWhile_append_dropWhile]
        rcases List.mem_cons.1 (hp.mem_iff.1 hy) with rfl | hy
        · exact d
        · exact h1 y hy
      · rw [List.takeWhile_cons_of_neg (p := fun x => decide (x < s)) (by simpa using d), List.dropWhile_cons_of_neg (p := fun x => decide (x < s)) (by simpa using d)]
        have hsx : s < x := by
          have h' : s ≤ x := List.not_lt.1 d
          by_cases h2 : s < x
          · exact h2
          · exact absurd (List.le_antisymm h' (List.not_lt.1 h2)) hne
        show (s :: x :: out).Pairwise (· < ·)
        refine List.pairwise_cons.2 ⟨fun y hy => ?_, h⟩
        rcases List.mem_cons.1 hy with rfl | hy
        · exact hsx
        · exact List.lt_trans hsx (h1 y hy)
theorem usersS_aux : ∀ (L : List Rv) (out : List (List UInt8)), out.Pairwise (· < ·) → (L.foldl (fun out r => insU out r.u) out).Pairwise (· < ·) ∧ ∀ x, x ∈ L.foldl (fun out r => insU out r.u) out ↔ x ∈ out ∨ ∃ r ∈ L, r.u = x
  | [], out, h => ⟨h, fun x => by simp⟩
  | r :: L, out, h => by
    obtain ⟨h1, h2⟩ := usersS_aux L (insU out r.u) (insU_ord out r.u h)
    refine ⟨h1, fun x => ?_⟩
    rw [List.foldl_cons, h2 x, insU_mem]
    constructor
    · rintro ((rfl | h) | ⟨s, hs, rfl⟩)
      · exact .inr ⟨r, List.mem_cons_self .., rfl⟩
      · exact .inl h
      · exact .inr ⟨s, List.mem_cons_of_mem _ hs, rfl⟩
    · rintro (h | ⟨s, hs, rfl⟩)
      · exact .inl (.inr h)
      · rcases List.mem_cons.1 hs with rfl | hs
        · exact .inl (.inl rfl)
        · exact .inr ⟨s, hs, rfl⟩
theorem usersS_ord (L : List Rv) : (usersS L).Pairwise (· < ·) := (usersS_aux L [] List.Pairwise.nil).1
theorem usersS_mem (L : List Rv) (x : List UInt8) : x ∈ usersS L ↔ ∃ r ∈ L, r.u = x := by
  unfold usersS
  rw [(usersS_aux L [] List.Pairwise.nil).2 x]
  simp
theorem lt_nodup {l : List (List UInt8)} (h : l.Pairwise (· < ·)) : l.Nodup := h.imp (fun h e => by subst e; exact List.lt_irrefl _ h)
theorem sorted_users {L : List Rv} {ss : List (List UInt8)} (hn : ss.Nodup) (hm : ∀ x, x ∈ ss ↔ ∃ r ∈ L, r.u = x) : ss.mergeSort (fun x y => decide (x ≤ y)) = usersS L := by
  have tr : ∀ a b c : List UInt8, decide (a ≤ b) = true → decide (b ≤ c) = true → decide (a ≤ c) = true := fun a b c h1 h2 => by simp only [decide_eq_true_eq] at *; exact List.le_trans h1 h2
  have tot : ∀ a b : List UInt8, (decide (a ≤ b) || decide (b ≤ a)) = true := fun a b => by simp only [Bool.or_eq_true, decide_eq_true_eq]; exact List.le_total a b
  have hp : ss.Perm (usersS L) := (List.perm_ext_iff_of_nodup hn (lt_nodup (usersS_ord L))).2 fun x => by rw [hm x, usersS_mem]
  refine List.Perm.eq_of_pairwise (le := fun a b => decide (a ≤ b) = true) (fun a b _ _ h1 h2 => ?_) (List.pairwise_mergeSort tr tot ss) ((usersS_ord L).imp fun h => ?_) ((List.mergeSort_perm ss _).trans hp)
  · simp only [decide_eq_true_eq] at h1 h2
    exact List.le_antisymm h1 h2
  · simp only [decide_eq_true_eq]
    exact List.le_of_lt h
/-- A map of users' rows, as the shelf wants it. -/
def anyR : Value → Option (DataW Unit × List MemPlace) := fun _ => some (.lit (.bool true), [])
theorem own_map {P : Program} {k : TypeId} {w : World} {m : Nat} {U : List Ent} (h : MapU w m U) (hl : U.length ≤ 1000000) (hk : P.underlying k = some .string) :
    ∃ D : DataW Unit, w.ownsMap P k anyR m U.length D ∧ (strKeys D).Perm (U.map (·.1)) ∧ Maps.size D ≤ 1000000 := by
  obtain ⟨es, clock, hb, he, hn, hst, hcl, hs⟩ := h
  have hsz : es.size = U.length := by
    have := congrArg List.length he
    simpa using this
  have hkey : ∀ e ∈ es.toList, ∃ p ∈ U, e.key = kyV p.1 := fun e hx => by
    obtain ⟨p, hp, h1, _⟩ := ent_mem he hx
    exact ⟨p, hp, h1⟩
  have hko : ∀ e ∈ es.toList, ∃ p ∈ U, e.key = kyV p.1 ∧ keyOf P k e.key = some (.string p.1) := fun e hx => by
    obtain ⟨p, hp, h1⟩ := hkey e hx
    refine ⟨p, hp, h1, ?_⟩
    rw [h1]
    have := WideMaps.keyOf_string_mk hk (s := ⟨p.1.toArray⟩) (by simpa [ByteArray.size] using hs p hp)
    simpa using this
  have hrd : ∀ e ∈ es.toList, ∃ p ∈ U, e.key = kyV p.1 ∧ Go.WideElems.rd P k anyR e = some (.string p.1, .lit (.bool true)) := fun e hx => by
    obtain ⟨p, hp, h1, h2⟩ := hko e hx
    exact ⟨p, hp, h1, by unfold Go.WideElems.rd anyR; rw [h2]; rfl⟩
  have hkn : (es.toList.map (·.key)).Nodup := by
    have e1 : es.toList.map (·.key) = (U.map (·.1)).map kyV := by
      have := congrArg (List.map Prod.fst) he
      simpa [List.map_map, Function.comp_def] using this
    rw [e1]
    exact (List.pairwise_map.2 (hn.imp fun h e => h (kyV_inj e)))
  let g : Value → List UInt8 := fun v => match v with
    | .string s => s.data.toList
    | _ => []
  refine ⟨.map ((es.toList.map (Go.WideElems.rg P k anyR)).foldr DataW.insert []), ⟨es, clock, hb, ⟨by rw [hsz]; unfold maxLen; omega, ⟨hcl, hst, hkn⟩, fun e hx => ?_⟩, Nat.le_of_eq hsz, rfl⟩, ?_, ?_⟩
  · obtain ⟨p, _, _, h⟩ := hrd e hx
    exact ⟨_, h⟩
  · show (((es.toList.map (Go.WideElems.rg P k anyR)).foldr DataW.insert []).map fun p => strOf p.1).Perm _
    refine ((sorted_perm _).map _).trans ?_
    rw [List.map_map]
    have e2 : es.toList.map ((fun p : Lit × DataW Unit => strOf p.1) ∘ Go.WideElems.rg P k anyR) = es.toList.map (fun e => g e.key) := by
      apply List.map_congr_left
      intro e hx
      obtain ⟨p, _, h1, h2⟩ := hrd e hx
      refine (congrArg (fun q : Lit × DataW Unit => strOf q.1) (Go.WideElems.rg_of h2)).trans ?_
      rw [h1]
      simp [strOf, g]
    rw [e2]
    have e3 := congrArg (List.map fun q : Value × Value => g q.1) he
    rw [List.map_map, List.map_map] at e3
    have e4 : es.toList.map (fun e => g e.key) = U.map (·.1) := by
      refine Eq.trans e3 ?_
      apply List.map_congr_left
      intro p _
      simp [g]
    rw [e4]
  · show ((es.toList.map (Go.WideElems.rg P k anyR)).foldr DataW.insert []).length ≤ _
    rw [(sorted_perm _).length_eq, List.length_map]
    simp only [Array.length_toList]
    omega
theorem Tryz.sorts (m : Nat) : AnyZ.SortsIn Tryz.prog Tryz.itRen Fence.wide m :=
  ⟨fun blk off cap ss W hH hblk hsz => callsIn_wide.2 (AnyM.slices_Sort_string Tryz.strSort blk off cap ss W hH hblk hsz),
   fun p cap W => callsIn_wide.2 (AnyM.slices_Sort_string_none Tryz.strSort p cap W)⟩
theorem keys_c (mb : Option Nat) (W : World) : Calls Tryz.prog 67 #[.map mb] W fun e w' => e = .returned (.func (.func 108) #[] #[.pointer (some ⟨W.heap.size, 0, none⟩)]) ∧ w' = W.alloc (.cells #[.map mb] 107) :=
  callsIn_wide.1 (AnyZ.keys_in Tryz.keysLay Fence.wide 5 trivial rfl mb W)
set_option maxHeartbeats 1000000 in
theorem uskeys_c {b : Nat} {U : List Ent} (w : World) (h : MapU w b U) (hl : U.length ≤ 1000000) :
    Calls Tryz.prog 66 #[.func (.func 108) #[] #[.pointer (some ⟨w.heap.size, 0, none⟩)]] (w.alloc (.cells #[.map (some b)] 107)) fun e w' => ∃ (v : Value) (ss : List (List UInt8)), e = .returned v ∧ ss.Perm (U.map (·.1)) ∧
      w'.ownsRow (w.alloc (.cells #[.map (some b)] 107)).heap.size 9 1 v ss.length ((ss.mergeSort (fun x y => decide (x ≤ y))).map encStr) ∧ Below (w.alloc (.cells #[.map (some b)] 107)).heap.size (w.alloc (.cells #[.map (some b)] 107)) w' := by
  obtain ⟨D0, hown, hD, hsz⟩ := own_map h hl Tryz.underlying9
  have hbl := hown.lt
  have hseq : SeqGives Fence.wide 2 Tryz.prog 108 #[.pointer (some ⟨w.heap.size, 0, none⟩)] encStr (fun ss => ss.Perm (strKeys D0)) (Maps.size D0) (w.alloc (.cells #[.map (some b)] 107)) :=
    AnyZ.keys_gives (ρ := Tryz.itRen) { Tryz.keysLay with } Fence.wide _ trivial rfl (by omega) w.heap.size b U.length D0 _ (by simp) (by simp) (by
      obtain ⟨es, clock, hb, Ft, hs, hD⟩ := hown
      exact ⟨es, clock, (Below.heap_alloc _ _ b hbl).trans hb, Ft, hs, hD⟩)
  have := AnyZ.sorted_in Tryz.sortedLay Fence.wide 5 trivial trivial trivial trivial rfl (by omega) (Tryz.sorts _) (enters_of Tryz.func107 (by kernel_rfl) rfl) 108 #[.pointer (some ⟨w.heap.size, 0, none⟩)] trivial (enters_of Tryz.func108 (by kernel_rfl) rfl) _ _ (by unfold maxLen; omega) (by omega) _ hseq
  refine (callsIn_wide.1 this).mono ?_
  rintro e w' ⟨v, ss, rfl, hS, hrow, _, hb⟩
  exact ⟨v, ss, rfl, hS.trans hD, hrow, hb⟩
/-- What Users says. -/
def UsrP (w : World) (L : List Rv) (e : Ending) (w' : World) : Prop := ∃ v, e = .returned v ∧ w'.ownsRow w.heap.size 9 1 v (usersS L).length ((usersS L).map encStr) ∧ Below w.heap.size w w'
theorem users_f {p : Nat} {L : List Rv} {C : List Sg} (w : World) (hP : Pl w p L C) : Calls Tryz.prog 25 #[.pointer (some ⟨p, 0, none⟩)] w (UsrP w L) := by
  obtain ⟨m, vc, U, rows, rvs, hB, hC, hBd⟩ := hP.has
  have hUl : U.length ≤ 1000000 := by
    have h1 : U.length ≤ (allRv rvs U).length := by
      have : ∀ V : List Ent, (∀ p ∈ V, rvs p.1 ≠ []) → V.length ≤ (allRv rvs V).length := by
        intro V
        induction V with
        | nil => intro _; simp
        | cons q V ih =>
          intro h
          have h2 := ih fun p hp => h p (List.mem_cons_of_mem _ hp)
          have h3 : 0 < (rvs q.1).length := List.length_pos_iff.2 (h q (List.mem_cons_self ..))
          unfold allRv at h2 ⊢
          rw [List.flatMap_cons, List.length_append, List.length_cons]
          omega
      exact this U hBd.full
    rw [hBd.perm.length_eq] at h1
    have := hBd.good.few
    omega
  have hus : ∀ ss : List (List UInt8), ss.Perm (U.map (·.1)) → ss.length = (usersS L).length ∧ ss.mergeSort (fun x y => decide (x ≤ y)) = usersS L := fun ss hss => by
    have e := sorted_users (L := L) ((hss.nodup_iff).2 hBd.map.nodup) fun x => by
      rw [hss.mem_iff]
      constructor
      · intro hx
        obtain ⟨q, hq, rfl⟩ := List.mem_map.1 hx
        obtain ⟨r, hr⟩ := List.exists_mem_of_ne_nil _ (hBd.full q hq)
        exact ⟨r, hBd.mem hr, hBd.user q.1 r hr⟩
      · rintro ⟨r, hr, rfl⟩
        obtain ⟨q, hq, hr2⟩ := allRv_mem.1 (hBd.perm.mem_iff.2 hr)
        rw [hBd.user q.1 r hr2]
        exact List.mem_map.2 ⟨q, hq, rfl⟩
    exact ⟨by rw [← e, List.length_mergeSort], e⟩
  have HMD := hidE (made_c w hB)
  have HB := hidE hB; have HM := hidE hBd.map; have HUL := hidE hUl; have HUS := hidE hus
  obtain ⟨ac, cc, rfl, _⟩ := hC.1
  clear hP hB hC hBd hUl hus
  go_enter Tryz.func25, Tryz.ntmps25
  go_wp2_with fail
  ((with_reducible refine (HMD.out).mono ?_); rintro e w1 ⟨rfl, hb1⟩)
  have hB1 := HB.out.past hb1
  have q0 := hB1.cell 0; have q1 := hB1.cell 1; have qz := hB1.lt
  simp at q0 q1
  have HB1 := hidE hb1; have HSO := hidE (uskeys_c w1 (HM.out.past hb1) HUL.out)
  clear hB1 hb1 HMD
  go_wp2_with fail
  ((with_reducible refine (keys_c _ _).mono ?_); rintro e w2 ⟨rfl, rfl⟩)
  go_wp2_with fail
  ((with_reducible refine (HSO.out).mono ?_); rintro e w3 ⟨v, ss, rfl, hp, ho, hb3⟩)
  obtain ⟨av, cv, rfl⟩ := own_sli ho
  have HP := hidE hp; have HO := hidE ho; have HB3 := hidE hb3
  clear hp ho hb3 HSO
  go_wp2
  go_ret
  obtain ⟨h1, h2⟩ := HUS.out ss HP.out
  have ho := HO.out
  rw [h2, h1] at ho
  have hbn : Below w1.heap.size w1 (w1.alloc (.cells #[.map (some m)] 107)) := (Below.refl _ _).alloc (Nat.le_refl _) _
  have hb13 := hbn.trans (HB3.out.mono hbn.size)
  rw [h1]
  exact ⟨_, rfl, own_base ho (by have := HB1.out.size; have h9 := hbn.size; omega), HB1.out.trans (hb13.mono HB1.out.size)⟩
end Go.Proofs.YtjhhcljbmnomlaaGreat

namespace Go.Proofs.YtjhhcljbmnomlaaGreat
open Go.ChangeShapes Go.WideShapes Go.ChangeAt Go.RowKit
attribute [local irreducible] Go.Calls

end Go.Proofs.YtjhhcljbmnomlaaGreat

namespace Go.Proofs.YtjhhcljbmnomlaaGreat
open Go.RowKit

section
variable {P : Program} {l : List Oper} {n : Nat} {a0 : Act} {w0 : World}
/-- The one operation among those that writes a slot. -/
def dstOnly (l : List Oper) (t j : Nat) : Bool := (match l[j]? with
    | some o => o.dst == some t
    | none => false) && (List.range l.length).all fun i => i == j || match l[i]? with
    | some p => p.dst != some t
    | none => true
def dstNone (l : List Oper) (t : Nat) : Bool := l.all fun p => p.dst != some t
theorem ev_mine {u : Nat → Value} {a0 : Act} {l : List Oper} {t j : Nat} (h : dstOnly l t j = true) (ht : t < a0.tmps.size) : (frm l u 0 a0).eval (.tmp t) = u j := by
  unfold dstOnly at h
  rw [Bool.and_eq_true] at h
  obtain ⟨h1, h2⟩ := h
  cases hj : l[j]? with
  | none => rw [hj] at h1; cases h1
  | some o =>
    rw [hj] at h1
    have := (frm_spec u l 0 a0).2.2.2 j o t hj (beq_iff_eq.1 h1) (fun i p hi hne => by
      rw [List.all_eq_true] at h2
      have hlt : i < l.length := (List.getElem?_eq_some_iff.1 hi).1
      have := h2 i (List.mem_range.2 hlt)
      rw [hi] at this
      simp only [Bool.or_eq_true, beq_iff_eq, bne_iff_ne] at this
      rcases this with e | e
      · exact absurd e hne
      · exact e) ht
    rw [Nat.zero_add] at this
    show (frm l u 0 a0).tmps.getD t undef = u j
    rw [Array.getD_eq_getD_getElem?, this]
    rfl
theorem ev_rest {u : Nat → Value} {a0 : Act} {l : List Oper} {t : Nat} (h : dstNone l t = true) : (frm l u 0 a0).eval (.tmp t) = a0.eval (.tmp t) := by
  have := (frm_spec u l 0 a0).2.2.1 t (fun j o hj e => by
    unfold dstNone at h
    rw [List.all_eq_true] at h
    have h2 := h o (List.mem_of_getElem? hj)
    rw [e] at h2
    simp at h2)
  show (frm l u 0 a0).tmps.getD t undef = a0.tmps.getD t undef
  rw [Array.getD_eq_getD_getElem?, Array.getD_eq_getD_getElem?, this]
end
end Go.Proofs.YtjhhcljbmnomlaaGreat

namespace Go.Proofs.YtjhhcljbmnomlaaGreat
open Go.RowKit

section
variable {P : Program} {l : List Oper} {n : Nat} {a0 : Act} {w0 : World} {R : Nat → Value → World → Prop} {fr : Nat → Bool}
/-- What is known of a frame in which the first n operations have left u. -/
structure Ev (l : List Oper) (n : Nat) (a0 : Act) (u : Nat → Value) (E : Operand → Value) : Prop where
  mine : ∀ t j, dstOnly (l.take n) t j = true → t < a0.tmps.size → E (.tmp t) = u j
  rest : ∀ t, dstNone (l.take n) t = true → E (.tmp t) = a0.eval (.tmp t)
  const : ∀ v, E (.const v) = v
  fn : ∀ f, E (.func f) = .func (.func f) #[] #[]
theorem ev_of (u : Nat → Value) : Ev l n a0 u (frm (l.take n) u 0 a0).eval := ⟨fun _ _ hd ht => ev_mine hd ht, fun _ hd => ev_rest hd, fun _ => rfl, fun _ => rfl⟩
theorem jstep_ev {i : Nat} {o : Oper} (hg : o.guard = none)
    (h : ∀ (E : Operand → Value) (u : Nat → Value) (x : Past w0), Ev l n a0 u E → (∀ j, j < n → waits l.toArray i j = true → R j (u j) x.1) →
      gives P (fun v w' => Below x.1.heap.size x.1 w' ∧ R i v w' ∧ (fr i = true → ∃ p, v = .pointer (some ⟨p, 0, none⟩) ∧ x.1.heap.size ≤ p ∧ p < w'.heap.size)) ((execOp E o).run P x.1)) : JStep P l n a0 w0 R fr i o := by
  intro u x hd
  rw [if_pos (by unfold Region.wanted; rw [hg])]
  exact h _ u x (ev_of u) hd
/-- A guarded one that is wanted: the operation on which it hangs has yielded what it asks. -/
theorem jstep_guard {i : Nat} {o : Oper} (k t : Nat) (b : Bool) (hg : o.guard = some (k, b)) (ht : (match l[k]? with | some p => p.dst == some t | none => false) = true) (hdt : dstOnly (l.take n) t k = true) (hsz : t < a0.tmps.size)
    (hk : ∀ (u : Nat → Value) (x : Past w0), (∀ j, j < n → waits l.toArray i j = true → R j (u j) x.1) → u k = .bool b)
    (h : ∀ (E : Operand → Value) (u : Nat → Value) (x : Past w0), Ev l n a0 u E → (∀ j, j < n → waits l.toArray i j = true → R j (u j) x.1) →
      gives P (fun v w' => Below x.1.heap.size x.1 w' ∧ R i v w' ∧ (fr i = true → ∃ p, v = .pointer (some ⟨p, 0, none⟩) ∧ x.1.heap.size ≤ p ∧ p < w'.heap.size)) ((execOp E o).run P x.1)) : JStep P l n a0 w0 R fr i o := by
  intro u x hd
  have hE := ev_mine (u := u) hdt hsz
  rw [hk u x hd] at hE
  have hdst : ((l.toArray[k]?).bind (·.dst)) = some t := by
    rw [List.getElem?_toArray]
    cases hl : l[k]? with
    | none => rw [hl] at ht; cases ht
    | some p => rw [hl] at ht; simpa using ht
  have hread : (frm (l.take n) u 0 a0).tmps[t]? = some (.bool b) := by
    have e : (frm (l.take n) u 0 a0).tmps.getD t undef = .bool b := hE
    rw [Array.getD_eq_getD_getElem?] at e
    cases hq : (frm (l.take n) u 0 a0).tmps[t]? with
    | none => rw [hq] at e; cases e
    | some v => rw [hq] at e; exact congrArg some e
  rw [if_pos (by
    unfold Region.wanted
    rw [hg]
    simp only [yielded, hdst, Option.bind_some, hread]
    cases b <;> rfl)]
  exact h _ u x (ev_of u) hd
end
end Go.Proofs.YtjhhcljbmnomlaaGreat
