/- The pieces that the document's example carries back: Back of two pieces, and of one that is none. No conditions. The contracts of the document's own answers that layer 7's statements reach: Same, End; and of the statements' own plain. No conditions but sizes. The statements' own head: the document's examples. Condition: the tables. The statements' own head: the document's examples. Condition: the tables. Norm, and norm again: what the walk asks of both. No conditions but sizes. The walk of the statement on a normal form. No conditions but sizes, and that the slice reads as parts. -/
import Derived.Test.YtkjpmhmlakmglaaDoorP9GB
import Derived.Test.YtkjpmhmlakmglaaDoorP9GD
import Derived.Deep.RegionHeld3
import Derived.Test.YtkjpmhmlakmglaaDoorP9GC
import Derived.Test.YtkjpmhmlakmglaaDoorP9GF
import Derived.Test.YtkjpmhmlakmglaaDoorP9GE
namespace Go.Proofs.YtkjpmhmlakmglaaDoor
open Go.ChangeShapes Go.WideShapes Go.ChangeAt Go.RowKit
attribute [local irreducible] Go.Calls

theorem cmpI_lt' {a b : Int} (h : a < b) : cmpI a b = -1 := by unfold cmpI; rw [if_pos h]
theorem isNaNI_c (x : Int) (w : World) : Calls Tryd.prog 29 #[.int .i64 x] w fun e w' => e = .returned (.bool false) ∧ w' = w := by
  go_enter Tryd.func29, Tryd.ntmps29
  go_wp2
  go_ret
  exact ⟨rfl, rfl⟩
theorem compareI (a b : Int) (w : World) : Calls Tryd.prog 22 #[.int .i64 a, .int .i64 b] w fun e w' => e = .returned (.int .i64 (cmpI a b)) ∧ w' = w := by
  rcases Int.lt_trichotomy a b with c | c | c
  · have hv : cmpI a b = -1 := cmpI_lt' c
    have HV := hidE hv; clear hv
    go_enter Tryd.func22, Tryd.ntmps22
    go_wp2_with (go_at_call 29; ((with_reducible refine (isNaNI_c _ _).mono ?_); rintro e w' ⟨rfl, rfl⟩))
    go_ret
    exact ⟨ret_int HV.out.symm, rfl⟩
  · have hv : cmpI a b = 0 := by unfold cmpI; rw [if_neg (by omega), if_neg (by omega)]
    have HV := hidE hv; clear hv
    subst c
    go_enter Tryd.func22, Tryd.ntmps22
    go_wp2_with (go_at_call 29; ((with_reducible refine (isNaNI_c _ _).mono ?_); rintro e w' ⟨rfl, rfl⟩))
    go_ret
    exact ⟨ret_int HV.out.symm, rfl⟩
  · have hv : cmpI a b = 1 := by unfold cmpI; rw [if_neg (by omega), if_pos (by omega)]
    have HV := hidE hv; clear hv
    have c' : ¬ a < b := by omega
    go_enter Tryd.func22, Tryd.ntmps22
    go_wp2_with (go_at_call 29; ((with_reducible refine (isNaNI_c _ _).mono ?_); rintro e w' ⟨rfl, rfl⟩))
    go_ret
    exact ⟨ret_int HV.out.symm, rfl⟩
theorem bcmp_c (a m b n : Int) (w : World) : Calls Tryd.prog 21 #[.agg #[.int .i64 a, .int .i64 m], .agg #[.int .i64 b, .int .i64 n]] w fun e w' => e = .returned (.int .i64 (cmpI a b)) ∧ Below w.heap.size w w' := by
  go_enter Tryd.func21, Tryd.ntmps21
  go_wp2_with (go_at_call 22; ((with_reducible refine (compareI _ _ _).mono ?_); rintro e w' ⟨rfl, rfl⟩))
  go_ret
  exact ⟨rfl, by (repeat (first | exact Below.refl _ _ | assumption | refine balloc ?_ _ | refine below_drewN ?_ _ | refine bstep (by assumption) ?_ | refine bstep (Past.prop _) ?_ | refine Below.setCell ?_ (by first | exact Nat.le_refl _ | (simp; done) | (simp; omega)) _))⟩
/-- Two pieces in a row of the call's own, with room behind it. -/
structure Pc2 (w0 : World) (g : Nat) (p q r s : Int) (w : World) : Prop where
  here : ∃ tl : Array Value, Blk w g (#[.int .i64 p, .int .i64 q, .int .i64 r, .int .i64 s] ++ tl) 45
  low : Below g w0 w
section
variable {w0 w w' : World} {g : Nat} {p q r s : Int}
theorem Pc2.lt (h : Pc2 w0 g p q r s w) : g < w.heap.size := by obtain ⟨tl, e⟩ := h.here; exact e.lt
theorem Pc2.cells (h : Pc2 w0 g p q r s w) : w.cell? ⟨g, 0, none⟩ = some (.int .i64 p) ∧ w.cell? ⟨g, 1, none⟩ = some (.int .i64 q) ∧ w.cell? ⟨g, 2, none⟩ = some (.int .i64 r) ∧ w.cell? ⟨g, 3, none⟩ = some (.int .i64 s) := by
  obtain ⟨tl, e⟩ := h.here
  refine ⟨?_, ?_, ?_, ?_⟩
  all_goals
    rw [e.cell, Array.getElem?_append_left (by simp)]; rfl
theorem Pc2.free (h : Pc2 w0 g p q r s w) (i : Nat) : w.frozen? ⟨g, i, none⟩ = false := by obtain ⟨tl, e⟩ := h.here; exact e.free i
theorem Pc2.past (h : Pc2 w0 g p q r s w) (hb : Below w.heap.size w w') : Pc2 w0 g p q r s w' := by
  obtain ⟨tl, e⟩ := h.here
  exact ⟨⟨tl, e.past hb⟩, h.low.trans (hb.mono (Nat.le_of_lt e.lt))⟩
theorem Pc2.drew (h : Pc2 w0 g p q r s w) : Pc2 w0 g p q r s w.drew := by
  obtain ⟨tl, e⟩ := h.here
  exact ⟨⟨tl, e.drew 1⟩, h.low.drew⟩
theorem app_set4 (a b c d v : Value) (tl : Array Value) : ((#[a, b, c, d] ++ tl).setIfInBounds 0 v = #[v, b, c, d] ++ tl) ∧ ((#[a, b, c, d] ++ tl).setIfInBounds 1 v = #[a, v, c, d] ++ tl) ∧ ((#[a, b, c, d] ++ tl).setIfInBounds 2 v = #[a, b, v, d] ++ tl) ∧ ((#[a, b, c, d] ++ tl).setIfInBounds 3 v = #[a, b, c, v] ++ tl) := by
  obtain ⟨l⟩ := tl
  simp
theorem Pc2.put (h : Pc2 w0 g p q r s w) (z : Int) : Pc2 w0 g z q r s (w.setCell ⟨g, 0, none⟩ (.int .i64 z)) ∧ Pc2 w0 g p z r s (w.setCell ⟨g, 1, none⟩ (.int .i64 z)) ∧ Pc2 w0 g p q z s (w.setCell ⟨g, 2, none⟩ (.int .i64 z)) ∧ Pc2 w0 g p q r z (w.setCell ⟨g, 3, none⟩ (.int .i64 z)) := by
  obtain ⟨tl, e⟩ := h.here
  have t := app_set4 (.int .i64 p) (.int .i64 q) (.int .i64 r) (.int .i64 s) (.int .i64 z) tl
  exact ⟨⟨⟨tl, by rw [← t.1]; exact e.set 0 _⟩, h.low.setCell (Nat.le_refl _) _⟩, ⟨⟨tl, by rw [← t.2.1]; exact e.set 1 _⟩, h.low.setCell (Nat.le_refl _) _⟩, ⟨⟨tl, by rw [← t.2.2.1]; exact e.set 2 _⟩, h.low.setCell (Nat.le_refl _) _⟩, ⟨⟨tl, by rw [← t.2.2.2]; exact e.set 3 _⟩, h.low.setCell (Nat.le_refl _) _⟩⟩
end
set_option maxHeartbeats 4000000 in
set_option maxRecDepth 100000 in
theorem bins_c (w0 w : World) (g cap : Nat) (p q r s : Int) (h : Pc2 w0 g p q r s w) (hpr : r < p) :
    Calls Tryd.prog 36 #[.slice (some ⟨g, 0, none⟩) 2 cap, .int .i64 0, .int .i64 2, .func (.func 21) #[] #[]] w fun e w' => e = .returned (.tuple #[]) ∧ Pc2 w0 g r s p q w' := by
  have H := hidE h
  have HC := hidE (show ∀ w, Calls Tryd.prog 21 #[.agg #[.int .i64 r, .int .i64 s], .agg #[.int .i64 p, .int .i64 q]] w fun e w' => e = .returned (.int .i64 (-1)) ∧ Below w.heap.size w w' from fun w => by
    have := bcmp_c r s p q w; rw [cmpI_lt' hpr] at this; exact this)
  clear h
  go_enter Tryd.func36, Tryd.ntmps36
  go_wp2
  go_loopg [8] 1 (fun gh v8 wr => (v8 = .int .i64 1 ∧ 1 ≤ gh ∧ Pc2 w0 g p q r s wr) ∨ (v8 = .int .i64 2 ∧ Pc2 w0 g r s p q wr))
  case atStart => exact .inl ⟨rfl, Nat.le_refl _, H.out⟩
  case round =>
    clear H
    rcases hrel with ⟨rfl, hgh, hr⟩ | ⟨rfl, hr⟩
    · have HR := hidE hr
      have HGH := hidE hgh
      clear hr hgh
      obtain ⟨wo, rfl⟩ : ∃ wo : World, wo = wr := ⟨_, rfl⟩
      go_wp2
      go_loopg [9] 1 (fun g2 v9 wi => (v9 = .int .i64 1 ∧ 1 ≤ g2 ∧ Pc2 w0 g p q r s wi) ∨ (v9 = .int .i64 0 ∧ Pc2 w0 g r s p q wi))
      case atStart => exact .inl ⟨rfl, Nat.le_refl _, HR.out⟩
      case round =>
        clear HR
        rcases hrel with ⟨rfl, hg2, hr⟩ | ⟨rfl, hr⟩
        · obtain ⟨c0, c1, c2, c3⟩ := hr.cells
          have z := hr.lt
          have HR := hidE hr; have HG2 := hidE hg2
          have hd : decide ((1 : Int) > 0) = true := rfl
          clear hr hg2
          go_wp2_with fail
          refine wp_region_past_lit (by kernel_rfl) (by kernel_rfl) ?_
          have hc := Past.cell (W := wr)
          repeat (go_big_quiet_step ((go_at_call 21; exact Past.call _ (HC.out _))))
          refine wpQuiet_nil ?_
          rintro _ ⟨x', rfl⟩
          have hr2 := HR.out.past x'.2
          clear c0 c1 c2 c3 hc
          generalize x'.1 = w2 at hr2 ⊢
          obtain ⟨c0, c1, c2, c3⟩ := hr2.cells
          have z2 := hr2.lt
          have f0 := hr2.free 0; have f1 := hr2.free 1; have f2 := hr2.free 2; have f3 := hr2.free 3
          have HR2 := hidE hr2
          clear hr2
          go_wp2_with fail
          go_region
          all_goals
            have HF := hidE ((((HR2.out.put p).2.2.1.put q).2.2.2.put r).1.put s).2.1
            clear c0 c1 c2 c3 f0 f1 f2 f3 z2 HR2
            go_wp2
            go_roundg 0
            case measure => have := HG2.out; omega
            case rel => exact .inr ⟨rfl, by first | exact HF.out | exact HF.out.drew⟩
        · have HR := hidE hr
          have hd : decide ((0 : Int) > 0) = false := rfl
          clear hr
          go_wp2_with fail
          refine wp_region_past_lit (by kernel_rfl) (by kernel_rfl) ?_
          repeat (go_big_quiet_step (fail))
          refine wpQuiet_nil ?_
          rintro _ ⟨x', rfl⟩
          have hr2 := hidE (HR.out.past x'.2)
          generalize x'.1 = w2 at hr2 ⊢
          go_wp2
          go_roundg 0
          case measure => have := HGH.out; omega
          case rel => exact .inr ⟨rfl, hr2.out⟩
    · have HR := hidE hr
      clear hr
      go_wp2
      go_end0
      exact ⟨rfl, HR.out⟩
set_option maxRecDepth 100000 in
set_option maxHeartbeats 8000000 in
theorem stableP_c (w0 w : World) (g cap : Nat) (p q r s : Int) (h : Pc2 w0 g p q r s w) (hpr : r < p) :
    Calls Tryd.prog 28 #[.slice (some ⟨g, 0, none⟩) 2 cap, .int .i64 2, .func (.func 21) #[] #[]] w fun e w' => e = .returned (.tuple #[]) ∧ Pc2 w0 g r s p q w' := by
  have HB := hidE (bins_c w0 w g cap p q r s h hpr)
  clear h
  go_enter Tryd.func28, Tryd.ntmps28
  go_wp2
  go_loopg [7, 8] 0 (fun g1 va vb wr => va = .int .i64 0 ∧ vb = .int .i64 20 ∧ wr = w)
  case atStart => exact ⟨rfl, rfl, rfl⟩
  case round =>
    obtain ⟨rfl, rfl, rfl⟩ := hrel
    have hltz : decide ((20 : Int) ≤ 2) = false := rfl
    go_wp2_with (go_at_call 36; ((with_reducible refine HB.out.mono ?_); rintro e w1 ⟨rfl, hr1⟩))
    have R1 := hidE hr1
    clear hr1
    go_loopg [6] 0 (fun g2 vs wr2 => vs = .int .i64 20 ∧ wr2 = w1)
    case atStart => exact ⟨rfl, rfl⟩
    case round =>
      obtain ⟨rfl, rfl⟩ := hrel
      have hltz : decide ((20 : Int) < 2) = false := rfl
      go_wp2
      go_end0
      exact ⟨rfl, R1.out⟩
theorem sortP_c (w0 w : World) (g cap : Nat) (p q r s : Int) (h : Pc2 w0 g p q r s w) (hpr : r < p) :
    Calls Tryd.prog 20 #[.slice (some ⟨g, 0, none⟩) 2 cap, .func (.func 21) #[] #[]] w fun e w' => e = .returned (.tuple #[]) ∧ Pc2 w0 g r s p q w' := by
  have HB := hidE (stableP_c w0 w g cap p q r s h hpr)
  clear h
  go_enter Tryd.func20, Tryd.ntmps20
  go_wp2_with (go_at_call 28; ((with_reducible refine HB.out.mono ?_); rintro e w1 ⟨rfl, hx⟩))
  go_end0
  exact ⟨rfl, hx⟩
theorem Tryd.infoPc : (Tryd.prog.info? 45).map (fun i => (i.zero, i.size, i.bytes)) = some (some (.agg #[.int .i64 0, .int .i64 0]), 2, 16) := by kernel_rfl
theorem Tryd.infoBoolN : (Tryd.prog.info? 4).map (fun i => (i.zero, i.size, i.bytes)) = some (some (.bool false), 1, 1) := by kernel_rfl
theorem make3 (w : World) : (Instr.makeSlice 58 (.int .i64 3) (.int .i64 3)).run Tryd.prog w = .ok (.slice (some ⟨w.heap.size, 0, none⟩) 3 3) (w.alloc (.cells #[.bool false, .bool false, .bool false] 4)) := by
  obtain ⟨i0, hi, hz0, hz1, hz2⟩ := info_parts Tryd.infoBoolN
  have h := run_make (P := Tryd.prog) w 58 4 i0 (.bool false) Tryd.underlying58 hi hz0 .i64 .i64 3 3 (by omega) (by omega) (by rw [hz2]; omega) (by omega)
  have e : madeCells (Value.bool false).cells (Int.toNat 3 * 1) = #[.bool false, .bool false, .bool false] := by
    show madeCells #[.bool false] 3 = _
    apply Array.ext'
    rw [toList_madeCells_one]; rfl
  rw [h, hz1, e]
  rfl
theorem make1 (w : World) : (Instr.makeSlice 58 (.int .i64 1) (.int .i64 1)).run Tryd.prog w = .ok (.slice (some ⟨w.heap.size, 0, none⟩) 1 1) (w.alloc (.cells #[.bool false] 4)) := by
  obtain ⟨i0, hi, hz0, hz1, hz2⟩ := info_parts Tryd.infoBoolN
  have h := run_make (P := Tryd.prog) w 58 4 i0 (.bool false) Tryd.underlying58 hi hz0 .i64 .i64 1 1 (by omega) (by omega) (by rw [hz2]; omega) (by omega)
  have e : madeCells (Value.bool false).cells (Int.toNat 1 * 1) = #[.bool false] := by
    show madeCells #[.bool false] 1 = _
    apply Array.ext'
    rw [toList_madeCells_one]; rfl
  rw [h, hz1, e]
  rfl
def seenC : Nat → Array Value
  | 0 => #[.bool false, .bool false, .bool false]
  | 1 => #[.bool false, .bool true, .bool false]
  | _ => #[.bool false, .bool true, .bool true]
def rowPc : Nat → List Value
  | 0 => []
  | 1 => [.int .i64 3, .int .i64 5]
  | _ => [.int .i64 3, .int .i64 5, .int .i64 1, .int .i64 4]
theorem pc2_own {w : World} {B c : Nat} {e : TypeId} {a : Option Addr} (h : w.ownsRow B e 2 (.slice a 2 c) 2 (rowPc 2)) : ∃ g, a = some ⟨g, 0, none⟩ ∧ B ≤ g ∧ (e = 45 → Pc2 w g 3 5 1 4 w) := by
  obtain ⟨_, h2 | ⟨g, cap, cur, hv, h3, h4, h5, h6, h7, h8⟩⟩ := h
  · exact absurd h2.2 (by omega)
  · cases hv
    refine ⟨g, rfl, h3, fun he => ⟨⟨(cur.toList.drop 4).toArray, ?_⟩, Below.refl _ _⟩⟩
    subst he
    unfold Blk
    rw [h4]
    congr 2
    apply Array.toList_inj.1
    have := List.take_append_drop 4 cur.toList
    rw [← this, show cur.toList.take 4 = rowPc 2 from h8]
    simp [rowPc]
set_option maxRecDepth 100000 in
set_option maxHeartbeats 8000000 in
/-- Two pieces of the document's example are carried back. -/
theorem back2_c (w : World) (bf bw cf cw : Nat) (hF : Blk w bf #[.int .i64 0, .int .i64 3, .int .i64 1] 3) (hW : Blk w bw #[.int .i64 1, .int .i64 5, .int .i64 2, .int .i64 4] 45) :
    Calls Tryd.prog 12 #[.slice (some ⟨bf, 0, none⟩) 3 cf, .slice (some ⟨bw, 0, none⟩) 2 cw] w fun e w' => ∃ g c, e = .returned (.tuple #[.slice (some ⟨g, 0, none⟩) 2 c, .int .i64 0]) ∧ Pc2 w' g 1 4 3 5 w' ∧ Below w.heap.size w w' := by
  obtain ⟨ix, hix, hz0, hzz, hz4⟩ := info_parts Tryd.infoPc
  have HI := hidE hix; have HZ0 := hidE hz0; have HY1 := hidE hzz; have HY2 := hidE hz4
  have a0 := hF.cell 0; have a1 := hF.cell 1; have a2 := hF.cell 2; have az := hF.lt
  have b0 := hW.cell 0; have b1 := hW.cell 1; have b2 := hW.cell 2; have b3 := hW.cell 3; have bz := hW.lt
  simp at a0 a1 a2 b0 b1 b2 b3
  have HF := hidE hF; have HW := hidE hW
  have hmk := make3
  clear hix hz0 hzz hz4 hF hW
  go_enter Tryd.func12, Tryd.ntmps12
  go_wp2
  go_loopg [7, 15] 2 (fun gh v7 v15 wr => ∃ k : Nat, k ≤ 2 ∧ 2 - k ≤ gh ∧ v15 = .int .i64 k ∧ Blk wr w.heap.size (seenC k) 4 ∧ wr.ownsRow (w.heap.size + 1) 45 2 v7 k (rowPc k) ∧ Below w.heap.size w wr)
  case atStart => exact ⟨0, by omega, by omega, rfl, Blk.made _ _ _, own_nil _ _ _, by (repeat (first | exact Below.refl _ _ | assumption | refine balloc ?_ _ | refine below_drewN ?_ _ | refine bstep (by assumption) ?_ | refine bstep (Past.prop _) ?_ | refine Below.setCell ?_ (by first | exact Nat.le_refl _ | (simp; done) | (simp; omega)) _))⟩
  case round =>
    obtain ⟨k, hk, hgh, rfl, hsn, hown, hbl⟩ := hrel
    have HGH := hidE hgh; have HSN := hidE hsn; have HOW := hidE hown; have HBL := hidE hbl
    obtain ⟨a7, c7, rfl⟩ := own_sli hown
    have A0 := (hbl.cell (p := ⟨bf, 0, none⟩) az).trans a0; have A1 := (hbl.cell (p := ⟨bf, 1, none⟩) az).trans a1; have A2 := (hbl.cell (p := ⟨bf, 2, none⟩) az).trans a2
    have B0 := (hbl.cell (p := ⟨bw, 0, none⟩) bz).trans b0; have B1 := (hbl.cell (p := ⟨bw, 1, none⟩) bz).trans b1; have B2 := (hbl.cell (p := ⟨bw, 2, none⟩) bz).trans b2; have B3 := (hbl.cell (p := ⟨bw, 3, none⟩) bz).trans b3
    have Az := Nat.lt_of_lt_of_le az hbl.size; have Bz := Nat.lt_of_lt_of_le bz hbl.size
    have hws := hbl.size
    have sz := hsn.lt
    clear hgh hsn hown hbl a0 a1 a2 b0 b1 b2 b3
    rcases (show k = 0 ∨ k = 1 ∨ k = 2 by omega) with rfl | rfl | rfl
    · have s1 : wr.cell? ⟨w.heap.size, 1, none⟩ = some (.bool false) := HSN.out.cell 1
      have sf := HSN.out.free 1
      have hsn1 : Blk (wr.setCell ⟨w.heap.size, 1, none⟩ (.bool true)) w.heap.size (seenC 1) 4 := by
        have := HSN.out.set 1 (.bool true)
        simp only [seenC, List.setIfInBounds_toArray, List.set_cons_zero, List.set_cons_succ] at this
        exact this
      have hb1 : Below w.heap.size w (wr.setCell ⟨w.heap.size, 1, none⟩ (.bool true)) := HBL.out.setCell (p := ⟨w.heap.size, 1, none⟩) (Nat.le_refl _) _
      have ho1 := ownsRow_setCell_below HOW.out (a := ⟨w.heap.size, 1, none⟩) (by show w.heap.size < w.heap.size + 1; omega) (.bool true)
      have HS1 := hidE hsn1; have HB1 := hidE hb1; have HO1 := hidE ho1
      clear hsn1 hb1 ho1
      go_upto_region 9 with fail
      obtain ⟨w8, hw8⟩ : ∃ w8, w8 = (wr.setCell ⟨w.heap.size, 1, none⟩ (.bool true)).alloc (.cells #[.int .i64 1, .int .i64 5] 45) := ⟨_, rfl⟩
      rw [← hw8]
      have h18 : Below (wr.setCell ⟨w.heap.size, 1, none⟩ (.bool true)).heap.size (wr.setCell ⟨w.heap.size, 1, none⟩ (.bool true)) w8 := by rw [hw8]; (repeat (first | exact Below.refl _ _ | assumption | refine balloc ?_ _ | refine below_drewN ?_ _ | refine bstep (by assumption) ?_ | refine bstep (Past.prop _) ?_ | refine Below.setCell ?_ (by first | exact Nat.le_refl _ | (simp; done) | (simp; omega)) _))
      have hpc : Blk w8 wr.heap.size #[.int .i64 1, .int .i64 5] 45 := by rw [hw8]; exact Blk.made_at _ _ _ _ (by simp [World.setCell])
      have O8 := hidE (own_below HO1.out h18); have S8 := hidE (HS1.out.past h18); have B8 := hidE (HB1.out.trans (h18.mono HB1.out.size))
      have A1' := (B8.out.cell (p := ⟨bf, 1, none⟩) az).trans ((HBL.out.cell (p := ⟨bf, 1, none⟩) az).symm.trans A1)
      have p0 := hpc.cell 0; have p1 := hpc.cell 1; have pz := hpc.lt
      simp at p0 p1
      have hw8s : w.heap.size + 1 ≤ w8.heap.size := by have := S8.out.lt; omega
      have Az' := Nat.lt_of_lt_of_le az B8.out.size
      have hlt : (1 : Int) < 3 := by omega
      clear hw8 h18 hpc A0 A1 A2 B0 B1 B2 B3 s1 sf
      go_region_law ((refine step_appV rfl (.tmp 40) (.tmp 49) 41 rfl (w.heap.size + 1) 45 ix _ 2 16 Tryd.underlying41 HI.out HZ0.out HY1.out HY2.out rfl (by decide) (.slice a7 0 c7) 0 (rowPc 0) rfl (own_below O8.out (by (repeat (first | exact Below.refl _ _ | assumption | refine balloc ?_ _ | refine below_drewN ?_ _ | refine bstep (by assumption) ?_ | refine bstep (Past.prop _) ?_ | refine Below.setCell ?_ (by first | exact Nat.le_refl _ | (simp; done) | (simp; omega)) _)))) _ 1 [.int .i64 3, .int .i64 5] rfl (srcV_new (Blk.made_at _ _ _ _ (by first | rfl | (simp; done))) rfl (by intro y hy; simp at hy; rcases hy with rfl | rfl <;> rfl)) (by omega) (by omega) (by simp; omega) ?_; intro v' w' own' hg'; obtain ⟨av', cp', rfl⟩ := own_sli own'))
      all_goals
        go_wp2
        go_roundg 1
        case measure => have := HGH.out; omega
        case rel =>
          have hbb := (show Below w.heap.size w w' from Below.grown (B8.out.trans ((show Below w8.heap.size w8 _ from by (repeat (first | exact Below.refl _ _ | assumption | refine balloc ?_ _ | refine below_drewN ?_ _ | refine bstep (by assumption) ?_ | refine bstep (Past.prop _) ?_ | refine Below.setCell ?_ (by first | exact Nat.le_refl _ | (simp; done) | (simp; omega)) _))).mono B8.out.size)) hg' (by have := B8.out.size; simp; omega) (fun j hj => by have := own_block O8.out hj; omega))
          have hss := ((S8.out.past (show Below w8.heap.size w8 _ from by (repeat (first | exact Below.refl _ _ | assumption | refine balloc ?_ _ | refine below_drewN ?_ _ | refine bstep (by assumption) ?_ | refine bstep (Past.prop _) ?_ | refine Below.setCell ?_ (by first | exact Nat.le_refl _ | (simp; done) | (simp; omega)) _)))).grown hg' (fun e => by have := own_block O8.out e.symm; omega) : Blk w' w.heap.size (seenC 1) 4)
          exact ⟨1, by omega, by omega, rfl, hss, own', hbb⟩
    · have s1 : wr.cell? ⟨w.heap.size, 2, none⟩ = some (.bool false) := HSN.out.cell 2
      have sf := HSN.out.free 2
      have hsn1 : Blk (wr.setCell ⟨w.heap.size, 2, none⟩ (.bool true)) w.heap.size (seenC 2) 4 := by
        have := HSN.out.set 2 (.bool true)
        simp only [seenC, List.setIfInBounds_toArray, List.set_cons_zero, List.set_cons_succ] at this
        exact this
      have hb1 : Below w.heap.size w (wr.setCell ⟨w.heap.size, 2, none⟩ (.bool true)) := HBL.out.setCell (p := ⟨w.heap.size, 2, none⟩) (Nat.le_refl _) _
      have ho1 := ownsRow_setCell_below HOW.out (a := ⟨w.heap.size, 2, none⟩) (by show w.heap.size < w.heap.size + 1; omega) (.bool true)
      have HS1 := hidE hsn1; have HB1 := hidE hb1; have HO1 := hidE ho1
      clear hsn1 hb1 ho1
      go_upto_region 9 with fail
      obtain ⟨w8, hw8⟩ : ∃ w8, w8 = (wr.setCell ⟨w.heap.size, 2, none⟩ (.bool true)).alloc (.cells #[.int .i64 2, .int .i64 4] 45) := ⟨_, rfl⟩
      rw [← hw8]
      have h18 : Below (wr.setCell ⟨w.heap.size, 2, none⟩ (.bool true)).heap.size (wr.setCell ⟨w.heap.size, 2, none⟩ (.bool true)) w8 := by rw [hw8]; (repeat (first | exact Below.refl _ _ | assumption | refine balloc ?_ _ | refine below_drewN ?_ _ | refine bstep (by assumption) ?_ | refine bstep (Past.prop _) ?_ | refine Below.setCell ?_ (by first | exact Nat.le_refl _ | (simp; done) | (simp; omega)) _))
      have hpc : Blk w8 wr.heap.size #[.int .i64 2, .int .i64 4] 45 := by rw [hw8]; exact Blk.made_at _ _ _ _ (by simp [World.setCell])
      have O8 := hidE (own_below HO1.out h18); have S8 := hidE (HS1.out.past h18); have B8 := hidE (HB1.out.trans (h18.mono HB1.out.size))
      have A2' := (B8.out.cell (p := ⟨bf, 2, none⟩) az).trans ((HBL.out.cell (p := ⟨bf, 2, none⟩) az).symm.trans A2)
      have p0 := hpc.cell 0; have p1 := hpc.cell 1; have pz := hpc.lt
      simp at p0 p1
      have hw8s : w.heap.size + 1 ≤ w8.heap.size := by have := S8.out.lt; omega
      have Az' := Nat.lt_of_lt_of_le az B8.out.size
      have hlt : (2 : Int) < 3 := by omega
      clear hw8 h18 hpc A0 A1 A2 B0 B1 B2 B3 s1 sf
      go_region_law ((refine step_appV rfl (.tmp 40) (.tmp 49) 41 rfl (w.heap.size + 1) 45 ix _ 2 16 Tryd.underlying41 HI.out HZ0.out HY1.out HY2.out rfl (by decide) (.slice a7 1 c7) 1 (rowPc 1) rfl (own_below O8.out (by (repeat (first | exact Below.refl _ _ | assumption | refine balloc ?_ _ | refine below_drewN ?_ _ | refine bstep (by assumption) ?_ | refine bstep (Past.prop _) ?_ | refine Below.setCell ?_ (by first | exact Nat.le_refl _ | (simp; done) | (simp; omega)) _)))) _ 1 [.int .i64 1, .int .i64 4] rfl (srcV_new (Blk.made_at _ _ _ _ (by first | rfl | (simp; done))) rfl (by intro y hy; simp at hy; rcases hy with rfl | rfl <;> rfl)) (by omega) (by omega) (by simp; omega) ?_; intro v' w' own' hg'; obtain ⟨av', cp', rfl⟩ := own_sli own'))
      all_goals
        go_wp2
        go_roundg 0
        case measure => have := HGH.out; omega
        case rel =>
          have hbb := (show Below w.heap.size w w' from Below.grown (B8.out.trans ((show Below w8.heap.size w8 _ from by (repeat (first | exact Below.refl _ _ | assumption | refine balloc ?_ _ | refine below_drewN ?_ _ | refine bstep (by assumption) ?_ | refine bstep (Past.prop _) ?_ | refine Below.setCell ?_ (by first | exact Nat.le_refl _ | (simp; done) | (simp; omega)) _))).mono B8.out.size)) hg' (by have := B8.out.size; simp; omega) (fun j hj => by have := own_block O8.out hj; omega))
          have hss := ((S8.out.past (show Below w8.heap.size w8 _ from by (repeat (first | exact Below.refl _ _ | assumption | refine balloc ?_ _ | refine below_drewN ?_ _ | refine bstep (by assumption) ?_ | refine bstep (Past.prop _) ?_ | refine Below.setCell ?_ (by first | exact Nat.le_refl _ | (simp; done) | (simp; omega)) _)))).grown hg' (fun e => by have := own_block O8.out e.symm; omega) : Blk w' w.heap.size (seenC 2) 4)
          exact ⟨2, by omega, by omega, rfl, hss, own', hbb⟩
    · obtain ⟨g, hv, hgB, hpc⟩ := pc2_own HOW.out
      cases hv
      have HSO := hidE (sortP_c wr wr g c7 3 5 1 4 (hpc rfl) (by omega))
      clear hpc A0 A1 A2 B0 B1 B2 B3
      go_wp2_with (go_at_call 20; ((with_reducible refine HSO.out.mono ?_); rintro e w9 ⟨rfl, hp9⟩))
      have HP9 := hidE hp9
      clear hp9
      go_wp2
      refine bodyPost_ret (v := .tuple #[.slice (some ⟨g, 0, none⟩) 2 c7, .int .i64 0]) (by simp [results, Tryd.results12, go_sem]) rfl ⟨g, c7, rfl, ⟨HP9.out.here, Below.refl _ _⟩, HBL.out.trans (HP9.out.low.mono (by omega))⟩
set_option maxRecDepth 100000 in
set_option maxHeartbeats 8000000 in
/-- A piece of no part is refused. -/
theorem back1_c (w : World) (bf bw cf cw : Nat) (_hF : Blk w bf #[.int .i64 0] 3) (hW : Blk w bw #[.int .i64 1, .int .i64 0] 45) :
    Calls Tryd.prog 12 #[.slice (some ⟨bf, 0, none⟩) 1 cf, .slice (some ⟨bw, 0, none⟩) 1 cw] w fun e w' => e = .returned (.tuple #[.slice none 0 0, .int .i64 2]) ∧ Below w.heap.size w w' := by
  have b0 := hW.cell 0; have b1 := hW.cell 1; have bz := hW.lt
  simp at b0 b1
  have hmk := make1
  clear _hF hW
  go_enter Tryd.func12, Tryd.ntmps12
  go_wp2
  go_loopg [7, 15] 0 (fun gh v7 v15 wr => v15 = .int .i64 0 ∧ Below w.heap.size w wr)
  case atStart => exact ⟨rfl, by (repeat (first | exact Below.refl _ _ | assumption | refine balloc ?_ _ | refine below_drewN ?_ _ | refine bstep (by assumption) ?_ | refine bstep (Past.prop _) ?_ | refine Below.setCell ?_ (by first | exact Nat.le_refl _ | (simp; done) | (simp; omega)) _))⟩
  case round =>
    obtain ⟨rfl, hbl⟩ := hrel
    have HBL := hidE hbl
    have B0 := (hbl.cell (p := ⟨bw, 0, none⟩) bz).trans b0; have B1 := (hbl.cell (p := ⟨bw, 1, none⟩) bz).trans b1
    have Bz := Nat.lt_of_lt_of_le bz hbl.size
    clear hbl b0 b1
    go_wp2
    refine bodyPost_ret (v := .tuple #[.slice none 0 0, .int .i64 2]) (by simp [results, Tryd.results12, go_sem]) rfl ⟨rfl, ?_⟩
    exact HBL.out.trans ((show Below wr.heap.size wr _ from by (repeat (first | exact Below.refl _ _ | assumption | refine balloc ?_ _ | refine below_drewN ?_ _ | refine bstep (by assumption) ?_ | refine bstep (Past.prop _) ?_ | refine Below.setCell ?_ (by first | exact Nat.le_refl _ | (simp; done) | (simp; omega)) _))).mono HBL.out.size)
end Go.Proofs.YtkjpmhmlakmglaaDoor

namespace Go.Proofs.YtkjpmhmlakmglaaDoor
open Go.ChangeShapes Go.WideShapes Go.ChangeAt Go.RowKit
attribute [local irreducible] Go.Calls

set_option maxHeartbeats 1000000 in
theorem rsame7_c (d e : Df) (a a2 : Option Addr) (cap cap2 : Nat) (w : World) (hl : d.T.length ≤ 9223372036854775807) (hl2 : e.T.length ≤ 9223372036854775807) (hA : ArgP w a d.T) (hA2 : ArgP w a2 e.T) :
    Calls Tryd.prog 7 #[defV d.fr d.to' a d.T.length cap, defV e.fr e.to' a2 e.T.length cap2] w fun x w' => x = .returned (.bool (sameD d e)) ∧ Below w.heap.size w w' := by
  have HA := hidE hA; have HA2 := hidE hA2
  clear hA hA2
  obtain ⟨f1, t1, l⟩ := d
  obtain ⟨f2, t2, r⟩ := e
  simp only at HA HA2 hl hl2
  show Calls _ _ #[defV f1 t1 a l.length cap, defV f2 t2 a2 r.length cap2] _ _
  have hno : f1 ≠ f2 ∨ t1 ≠ t2 ∨ l.length ≠ r.length → sameD ⟨f1, t1, l⟩ ⟨f2, t2, r⟩ = false := fun h => decide_eq_false fun e => by
    rw [df_iff] at e
    obtain ⟨e1, e2, e3⟩ := e
    simp only at e1 e2 e3
    rcases h with h | h | h
    · exact h e1
    · exact h e2
    · exact h (congrArg List.length e3)
  by_cases c1 : f1 = f2
  · by_cases c2 : t1 = t2
    · by_cases c3 : l.length = r.length
      · have b1 : (f1 != f2) = false := by rw [bne_eq_false_iff_eq]; exact c1
        have b2 : (t1 != t2) = false := by rw [bne_eq_false_iff_eq]; exact c2
        have b3 : ((l.length : Int) != (r.length : Int)) = false := by rw [bne_eq_false_iff_eq]; omega
        have HS := hidE (fun (i : Nat) (hi : i < l.length) (h : l.getD i pr0 ≠ r.getD i pr0) => show sameD ⟨f1, t1, l⟩ ⟨f2, t2, r⟩ = false from decide_eq_false fun e => by
          rw [df_iff] at e
          have e3 : l = r := e.2.2
          exact h (by rw [e3]))
        have HT := hidE (fun (h : ∀ i, i < l.length → l.getD i pr0 = r.getD i pr0) => show sameD ⟨f1, t1, l⟩ ⟨f2, t2, r⟩ = true from decide_eq_true (df_iff.2 ⟨c1, c2, list_extP c3 h⟩))
        have HC := hidE c3
        clear hno c1 c2 c3
        generalize sameD ⟨f1, t1, l⟩ ⟨f2, t2, r⟩ = ans at *
        go_enter Tryd.func7, Tryd.ntmps7
        go_wp2
        go_loopg [5] l.length (fun g vi wr => ∃ k : Nat, k ≤ l.length ∧ l.length - k ≤ g ∧ vi = .int .i64 k ∧ (∀ i, i < k → l.getD i pr0 = r.getD i pr0) ∧ Below w.heap.size w wr ∧
          Blk wr w.heap.size #[.int .i64 f1, .int .i64 t1, .slice a l.length cap] 24 ∧ Blk wr (w.heap.size + 1) #[.int .i64 f2, .int .i64 t2, .slice a2 r.length cap2] 24)
        case atStart => exact ⟨0, Nat.zero_le _, Nat.le_refl _, rfl, fun i hi => by omega, by (repeat (first | exact Below.refl _ _ | assumption | refine balloc ?_ _ | refine below_drewN ?_ _ | refine bstep (by assumption) ?_ | refine bstep (Past.prop _) ?_ | refine Below.setCell ?_ (by first | exact Nat.le_refl _ | (simp; done) | (simp; omega)) _)), (Blk.made _ _ _).alloc _, Blk.made_at _ _ _ _ (by simp)⟩
        case round =>
          obtain ⟨k, hk, hg, rfl, hs, hb, hB1, hB2⟩ := hrel
          have HSS := hidE hs; have HB := hidE hb; have HB1 := hidE hB1; have HB2 := hidE hB2; have HG := hidE hg
          have p0 := hB1.cell 2; have pz := hB1.lt; have p1 := hB2.cell 2; have pz1 := hB2.lt
          simp at p0 p1
          clear hs hb hB1 hB2 hg
          obtain ⟨wo, hwo⟩ : ∃ wo : World, wo = wr := ⟨_, rfl⟩
          by_cases hlt : k < l.length
          · have hltr : k < r.length := by have := HC.out; omega
            obtain ⟨p, off, rfl, hpp, hc⟩ := (HA.out.past HB.out) (by omega)
            obtain ⟨c0, c1, c2, c3, c4⟩ := hc.get hlt
            obtain ⟨p', off', rfl, hpp', hc'⟩ := (HA2.out.past HB.out) (by omega)
            obtain ⟨d0, d1, d2, d3, d4⟩ := hc'.get hltr
            have q1 : decide ((k : Int) < (l.length : Int)) = true := decide_eq_true (by omega)
            have q2 : decide (k < l.length) = true := decide_eq_true hlt
            have q3 : (k : Int) < (r.length : Int) := by omega
            clear hc hc'
            by_cases hne0 : l.getD k pr0 = r.getD k pr0
            · rw [← hne0] at d0 d1 d2 d3 d4
              have HX := hidE (show ∀ i, i < k + 1 → l.getD i pr0 = r.getD i pr0 from fun i hi => by
                by_cases c : i = k
                · rw [c]; exact hne0
                · exact HSS.out i (by omega))
              clear hne0
              generalize l.getD k pr0 = x at *
              go_wp2
              go_quiet (fail)
              go_wp2
              go_roundg (l.length - (k + 1))
              case measure => have := HG.out; omega
              case rel => exact ⟨k + 1, by omega, Nat.le_refl _, by go_num, HX.out, by have := HB.out; (repeat (first | exact Below.refl _ _ | assumption | refine balloc ?_ _ | refine below_drewN ?_ _ | refine bstep (by assumption) ?_ | refine bstep (Past.prop _) ?_ | refine Below.setCell ?_ (by first | exact Nat.le_refl _ | (simp; done) | (simp; omega)) _)), HB1.out.drew _, HB2.out.drew _⟩
            · have HX := hidE (HS.out k hlt hne0)
              generalize l.getD k pr0 = x at *
              generalize r.getD k pr0 = y at *
              by_cases n0 : x.kind = y.kind
              · rw [← n0] at d0
                by_cases n1 : x.n = y.n
                · rw [← n1] at d1
                  by_cases n2 : x.g = y.g
                  · rw [← n2] at d2
                    by_cases n3 : x.d = y.d
                    · rw [← n3] at d3
                      by_cases n4 : x.kids = y.kids
                      · rw [← n4] at d4
                        exact absurd (prt_iff.2 ⟨n0, n1, n2, n3, n4⟩) hne0
                      · have b9 : (x.kids == y.kids) = false := beq_eq_false_iff_ne.2 (by omega)
                        clear hne0
                        go_wp2
                        go_quiet (fail)
                        go_wp2
                        go_ret
                        exact ⟨ret_bool HX.out.symm, by have := HB.out; (repeat (first | exact Below.refl _ _ | assumption | refine balloc ?_ _ | refine below_drewN ?_ _ | refine bstep (by assumption) ?_ | refine bstep (Past.prop _) ?_ | refine Below.setCell ?_ (by first | exact Nat.le_refl _ | (simp; done) | (simp; omega)) _))⟩
                    · have b8 : (x.d == y.d) = false := beq_eq_false_iff_ne.2 (by omega)
                      clear hne0
                      go_wp2
                      go_quiet (fail)
                      go_wp2
                      go_ret
                      exact ⟨ret_bool HX.out.symm, by have := HB.out; (repeat (first | exact Below.refl _ _ | assumption | refine balloc ?_ _ | refine below_drewN ?_ _ | refine bstep (by assumption) ?_ | refine bstep (Past.prop _) ?_ | refine Below.setCell ?_ (by first | exact Nat.le_refl _ | (simp; done) | (simp; omega)) _))⟩
                  · have b7 : (((x.g : Nat) : Int) == ((y.g : Nat) : Int)) = false := beq_eq_false_iff_ne.2 (by omega)
                    have b7' : (x.g == y.g) = false := beq_eq_false_iff_ne.2 (by omega)
                    clear hne0
                    go_wp2
                    go_quiet (fail)
                    go_wp2
                    go_ret
                    exact ⟨ret_bool HX.out.symm, by have := HB.out; (repeat (first | exact Below.refl _ _ | assumption | refine balloc ?_ _ | refine below_drewN ?_ _ | refine bstep (by assumption) ?_ | refine bstep (Past.prop _) ?_ | refine Below.setCell ?_ (by first | exact Nat.le_refl _ | (simp; done) | (simp; omega)) _))⟩
                · have b6 : (((x.n : Nat) : Int) == ((y.n : Nat) : Int)) = false := beq_eq_false_iff_ne.2 (by omega)
                  have b6' : (x.n == y.n) = false := beq_eq_false_iff_ne.2 (by omega)
                  clear hne0
                  go_wp2
                  go_quiet (fail)
                  go_wp2
                  go_ret
                  exact ⟨ret_bool HX.out.symm, by have := HB.out; (repeat (first | exact Below.refl _ _ | assumption | refine balloc ?_ _ | refine below_drewN ?_ _ | refine bstep (by assumption) ?_ | refine bstep (Past.prop _) ?_ | refine Below.setCell ?_ (by first | exact Nat.le_refl _ | (simp; done) | (simp; omega)) _))⟩
              · have b5 : (((x.kind : Nat) : Int) == ((y.kind : Nat) : Int)) = false := beq_eq_false_iff_ne.2 (by omega)
                have b5' : (x.kind == y.kind) = false := beq_eq_false_iff_ne.2 (by omega)
                clear hne0
                go_wp2
                go_quiet (fail)
                go_wp2
                go_ret
                exact ⟨ret_bool HX.out.symm, by have := HB.out; (repeat (first | exact Below.refl _ _ | assumption | refine balloc ?_ _ | refine below_drewN ?_ _ | refine bstep (by assumption) ?_ | refine bstep (Past.prop _) ?_ | refine Below.setCell ?_ (by first | exact Nat.le_refl _ | (simp; done) | (simp; omega)) _))⟩
          · have q1 : decide ((k : Int) < (l.length : Int)) = false := decide_eq_false (by omega)
            have q2 : decide (k < l.length) = false := decide_eq_false hlt
            have HX := hidE (HT.out (fun i hi => HSS.out i (by omega)))
            go_wp2
            go_ret
            exact ⟨ret_bool HX.out.symm, HB.out⟩
      · have HN := hidE (hno (.inr (.inr c3)))
        have b1 : (f1 != f2) = false := by rw [bne_eq_false_iff_eq]; exact c1
        have b2 : (t1 != t2) = false := by rw [bne_eq_false_iff_eq]; exact c2
        have b3 : ((l.length : Int) != (r.length : Int)) = true := bne_iff_ne.2 (by omega)
        clear hno c1 c2 c3
        rw [HN.out]
        go_enter Tryd.func7, Tryd.ntmps7
        go_wp2
        go_ret
        exact ⟨rfl, by (repeat (first | exact Below.refl _ _ | assumption | refine balloc ?_ _ | refine below_drewN ?_ _ | refine bstep (by assumption) ?_ | refine bstep (Past.prop _) ?_ | refine Below.setCell ?_ (by first | exact Nat.le_refl _ | (simp; done) | (simp; omega)) _))⟩
    · have HN := hidE (hno (.inr (.inl c2)))
      have b1 : (f1 != f2) = false := by rw [bne_eq_false_iff_eq]; exact c1
      have b2 : (t1 != t2) = true := bne_iff_ne.2 c2
      clear hno c1 c2
      rw [HN.out]
      go_enter Tryd.func7, Tryd.ntmps7
      go_wp2
      go_ret
      exact ⟨rfl, by (repeat (first | exact Below.refl _ _ | assumption | refine balloc ?_ _ | refine below_drewN ?_ _ | refine bstep (by assumption) ?_ | refine bstep (Past.prop _) ?_ | refine Below.setCell ?_ (by first | exact Nat.le_refl _ | (simp; done) | (simp; omega)) _))⟩
  · have HN := hidE (hno (.inl c1))
    have b1 : (f1 != f2) = true := bne_iff_ne.2 c1
    clear hno c1
    rw [HN.out]
    go_enter Tryd.func7, Tryd.ntmps7
    go_wp2
    go_ret
    exact ⟨rfl, by (repeat (first | exact Below.refl _ _ | assumption | refine balloc ?_ _ | refine below_drewN ?_ _ | refine bstep (by assumption) ?_ | refine bstep (Past.prop _) ?_ | refine Below.setCell ?_ (by first | exact Nat.le_refl _ | (simp; done) | (simp; omega)) _))⟩
end Go.Proofs.YtkjpmhmlakmglaaDoor

namespace Go.Proofs.YtkjpmhmlakmglaaDoor
open Go.ChangeShapes Go.WideShapes Go.ChangeAt Go.RowKit
attribute [local irreducible] Go.Calls

theorem atom9_c (d : Int) (w : World) : Calls Tryd.prog 9 #[.int .i64 d] w fun e w' => e = .returned (prtV ⟨0, 1, 1, d, 0⟩) ∧ Below w.heap.size w w' := by
  go_enter Tryd.func9, Tryd.ntmps9
  go_wp2
  refine bodyPost_ret (v := prtV ⟨0, 1, 1, d, 0⟩) (by simp [results, Tryd.results9, go_sem]) rfl ⟨rfl, by (repeat (first | exact Below.refl _ _ | assumption | refine balloc ?_ _ | refine below_drewN ?_ _ | refine bstep (by assumption) ?_ | refine bstep (Past.prop _) ?_ | refine Below.setCell ?_ (by first | exact Nat.le_refl _ | (simp; done) | (simp; omega)) _))⟩
theorem ofl9_c (k : Nat) (z : Int) (w : World) : Calls Tryd.prog 11 #[.int .u8 k, .int .i64 z] w fun e w' => e = .returned (prtV ⟨k, 0, 0, 0, z⟩) ∧ Below w.heap.size w w' := by
  go_enter Tryd.func11, Tryd.ntmps11
  go_wp2
  refine bodyPost_ret (v := prtV ⟨k, 0, 0, 0, z⟩) (by simp [results, Tryd.results11, go_sem]) rfl ⟨rfl, by (repeat (first | exact Below.refl _ _ | assumption | refine balloc ?_ _ | refine below_drewN ?_ _ | refine bstep (by assumption) ?_ | refine bstep (Past.prop _) ?_ | refine Below.setCell ?_ (by first | exact Nat.le_refl _ | (simp; done) | (simp; omega)) _))⟩
set_option maxHeartbeats 4000000 in
set_option maxRecDepth 100000 in
theorem becomes_c {F : Fst} {l want : List Prt} {k : List Nat} (h : Ex F l want k) (a1 a2 a3 : Option Addr) (c1 c2 c3 : Nat) (w : World) (hA1 : ArgP w a1 l) (hA2 : ArgP w a2 want) (hA3 : ArgK .i64 w a3 (natsI k)) (hT : Tab w) :
    Calls Tryd.prog 10 #[.slice a1 l.length c1, .slice a2 want.length c2, .slice a3 k.length c3] w fun e w' => e = .returned (.bool true) ∧ Below w.heap.size w w' := by
  have HN := hidE (norm_c 0 9 F a1 c1 l.length (by rw [h.flat]) w (by rw [h.flat]; exact hA1) h.chk h.kok h.len h.fit h.siz hT (by omega) (by omega))
  rw [h.nf, h.frm] at HN
  have hw64 : want.length ≤ 64 := by rw [← h.nf, flat_len]; have := (plain_siz (lab F 0)).1; rw [(lab_len F 0).2] at this; have := h.siz; omega
  have hk64 : k.length ≤ 64 := by rw [← h.frm, fromF_len]; have := (plain_siz (lab F 0)).1; rw [(lab_len F 0).2] at this; have := h.siz; omega
  have HA2 := hidE hA2; have HA3 := hidE hA3
  have HS7 := hidE (fun (a a' : Option Addr) (c c' : Nat) (w' : World) (h1 : ArgP w' a want) (h2 : ArgP w' a' want) => show Calls Tryd.prog 7 #[defV 0 9 a want.length c, defV 0 9 a' want.length c'] w' fun x w2 => x = .returned (.bool true) ∧ Below w'.heap.size w' w2 from by
    have := rsame7_c ⟨0, 9, want⟩ ⟨0, 9, want⟩ a a' c c' w' (by show want.length ≤ _; omega) (by show want.length ≤ _; omega) h1 h2
    rw [show sameD ⟨0, 9, want⟩ ⟨0, 9, want⟩ = true from decide_eq_true rfl] at this
    exact this)
  have HS8 := hidE (fun (a a' : Option Addr) (c c' : Nat) (w' : World) (h1 : ArgK .i64 w' a (natsI k)) (h2 : ArgK .i64 w' a' (natsI k)) => show Calls Tryd.prog 19 #[.slice a k.length c, .slice a' k.length c'] w' fun x w2 => x = .returned (.bool true) ∧ Below w'.heap.size w' w2 from by
    have := rsame8_c k k a a' c c' w' (by omega) (by omega) h1 h2
    rw [show sameN k k = true from by simp [sameN]] at this
    exact this)
  clear hA1 hA2 hA3 hT h
  go_enter Tryd.func10, Tryd.ntmps10
  go_wp2_with fail
  ((with_reducible refine HN.out.mono ?_); rintro e w1 ⟨b1, b2, d1, d2, rfl, hd1, hd2, hB1, hB2, hb1⟩)
  have HB1 := hidE (hB1.past (show Below w1.heap.size w1 (w1.alloc (.cells #[.int .i64 0, .int .i64 9, .slice b1 want.length d1] 24)) from by (repeat (first | exact Below.refl _ _ | assumption | refine balloc ?_ _ | refine below_drewN ?_ _ | refine bstep (by assumption) ?_ | refine bstep (Past.prop _) ?_ | refine Below.setCell ?_ (by first | exact Nat.le_refl _ | (simp; done) | (simp; omega)) _))))
  have HB2 := hidE (hB2.past (show Below w1.heap.size w1 (w1.alloc (.cells #[.int .i64 0, .int .i64 9, .slice b1 want.length d1] 24)) from by (repeat (first | exact Below.refl _ _ | assumption | refine balloc ?_ _ | refine below_drewN ?_ _ | refine bstep (by assumption) ?_ | refine bstep (Past.prop _) ?_ | refine Below.setCell ?_ (by first | exact Nat.le_refl _ | (simp; done) | (simp; omega)) _))))
  have HBL := hidE hb1
  clear hB1 hB2 hb1 HN
  go_wp2_with fail
  ((with_reducible refine (HS7.out _ _ _ _ _ HB1.out ?ha2).mono ?_); (case ha2 => exact (HA2.out.past HBL.out).past (by (repeat (first | exact Below.refl _ _ | assumption | refine balloc ?_ _ | refine below_drewN ?_ _ | refine bstep (by assumption) ?_ | refine bstep (Past.prop _) ?_ | refine Below.setCell ?_ (by first | exact Nat.le_refl _ | (simp; done) | (simp; omega)) _)))); rintro e w2 ⟨rfl, hb2⟩)
  have H2 := hidE hb2
  clear hb2
  go_wp2_with fail
  ((with_reducible refine (HS8.out _ _ _ _ _ ?hb ?ha3).mono ?_); (case hb => exact HB2.out.past H2.out); (case ha3 => exact ((HA3.out.past HBL.out).past (by (repeat (first | exact Below.refl _ _ | assumption | refine balloc ?_ _ | refine below_drewN ?_ _ | refine bstep (by assumption) ?_ | refine bstep (Past.prop _) ?_ | refine Below.setCell ?_ (by first | exact Nat.le_refl _ | (simp; done) | (simp; omega)) _)))).past H2.out); rintro e w3 ⟨rfl, hb3⟩)
  have H3 := hidE hb3
  clear hb3
  go_wp2
  go_ret
  exact ⟨rfl, ((HBL.out.trans ((show Below w1.heap.size w1 _ from by (repeat (first | exact Below.refl _ _ | assumption | refine balloc ?_ _ | refine below_drewN ?_ _ | refine bstep (by assumption) ?_ | refine bstep (Past.prop _) ?_ | refine Below.setCell ?_ (by first | exact Nat.le_refl _ | (simp; done) | (simp; omega)) _))).mono HBL.out.size)).trans (H2.out.mono (by have := HBL.out.size; simp; omega))).trans (H3.out.mono (by have := HBL.out.size; have := H2.out.size; simp at this; omega))⟩
/-- The pieces that the head asks are the example's. -/
theorem samep_c (g c bw cw : Nat) (w : World) (h : Pc2 w g 1 4 3 5 w) (hW : Blk w bw #[.int .i64 1, .int .i64 4, .int .i64 3, .int .i64 5] 45) :
    Calls Tryd.prog 13 #[.slice (some ⟨g, 0, none⟩) 2 c, .slice (some ⟨bw, 0, none⟩) 2 cw] w fun e w' => e = .returned (.bool true) ∧ Below w.heap.size w w' := by
  obtain ⟨a0, a1, a2, a3⟩ := h.cells
  have az := h.lt
  have b0 := hW.cell 0; have b1 := hW.cell 1; have b2 := hW.cell 2; have b3 := hW.cell 3; have bz := hW.lt
  simp at b0 b1 b2 b3
  clear h hW
  go_enter Tryd.func13, Tryd.ntmps13
  go_wp2
  go_loopg [5] 2 (fun gh v5 wr => ∃ k : Nat, k ≤ 2 ∧ 2 - k ≤ gh ∧ v5 = .int .i64 k ∧ Below w.heap.size w wr)
  case atStart => exact ⟨0, by omega, by omega, rfl, Below.refl _ _⟩
  case round =>
    obtain ⟨k, hk, hgh, rfl, hbl⟩ := hrel
    have A0 := (hbl.cell (p := ⟨g, 0, none⟩) az).trans a0; have A1 := (hbl.cell (p := ⟨g, 1, none⟩) az).trans a1; have A2 := (hbl.cell (p := ⟨g, 2, none⟩) az).trans a2; have A3 := (hbl.cell (p := ⟨g, 3, none⟩) az).trans a3
    have B0 := (hbl.cell (p := ⟨bw, 0, none⟩) bz).trans b0; have B1 := (hbl.cell (p := ⟨bw, 1, none⟩) bz).trans b1; have B2 := (hbl.cell (p := ⟨bw, 2, none⟩) bz).trans b2; have B3 := (hbl.cell (p := ⟨bw, 3, none⟩) bz).trans b3
    have Az := Nat.lt_of_lt_of_le az hbl.size; have Bz := Nat.lt_of_lt_of_le bz hbl.size
    have HBL := hidE hbl; have HGH := hidE hgh
    clear hbl hgh a0 a1 a2 a3 b0 b1 b2 b3
    rcases (show k = 0 ∨ k = 1 ∨ k = 2 by omega) with rfl | rfl | rfl
    · go_wp2
      go_quiet (fail)
      go_wp2
      go_roundg 1
      case measure => have := HGH.out; omega
      case rel => exact ⟨1, by omega, by omega, rfl, HBL.out.trans ((show Below wr.heap.size wr _ from by (repeat (first | exact Below.refl _ _ | assumption | refine balloc ?_ _ | refine below_drewN ?_ _ | refine bstep (by assumption) ?_ | refine bstep (Past.prop _) ?_ | refine Below.setCell ?_ (by first | exact Nat.le_refl _ | (simp; done) | (simp; omega)) _))).mono HBL.out.size)⟩
    · go_wp2
      go_quiet (fail)
      go_wp2
      go_roundg 0
      case measure => have := HGH.out; omega
      case rel => exact ⟨2, by omega, by omega, rfl, HBL.out.trans ((show Below wr.heap.size wr _ from by (repeat (first | exact Below.refl _ _ | assumption | refine balloc ?_ _ | refine below_drewN ?_ _ | refine bstep (by assumption) ?_ | refine bstep (Past.prop _) ?_ | refine Below.setCell ?_ (by first | exact Nat.le_refl _ | (simp; done) | (simp; omega)) _))).mono HBL.out.size)⟩
    · go_wp2
      go_ret
      exact ⟨rfl, HBL.out⟩
end Go.Proofs.YtkjpmhmlakmglaaDoor

namespace Go.Proofs.YtkjpmhmlakmglaaDoor
open Go.ChangeShapes Go.WideShapes Go.ChangeAt Go.RowKit
attribute [local irreducible] Go.Calls

theorem argK_blk {w : World} {p : Nat} {l : List Int} {t : TypeId} (h : Blk w p (cellsK .i64 l).toArray t) : ArgK .i64 w (some ⟨p, 0, none⟩) l := fun _ =>
  ⟨p, 0, rfl, h.lt, fun i hi => by
    rw [Nat.zero_add, h.cell i]
    simpa using cellsK_get (k := .i64) hi⟩
theorem ofl9_1_2 (w : World) : Calls Tryd.prog 11 #[.int .u8 1, .int .i64 2] w fun e w' => e = .returned (prtV ⟨1, 0, 0, 0, 2⟩) ∧ Below w.heap.size w w' := ofl9_c 1 2 w
theorem ofl9_1_3 (w : World) : Calls Tryd.prog 11 #[.int .u8 1, .int .i64 3] w fun e w' => e = .returned (prtV ⟨1, 0, 0, 0, 3⟩) ∧ Below w.heap.size w w' := ofl9_c 1 3 w
theorem ofl9_3_2 (w : World) : Calls Tryd.prog 11 #[.int .u8 3, .int .i64 2] w fun e w' => e = .returned (prtV ⟨3, 0, 0, 0, 2⟩) ∧ Below w.heap.size w w' := ofl9_c 3 2 w
theorem ofl9_4_2 (w : World) : Calls Tryd.prog 11 #[.int .u8 4, .int .i64 2] w fun e w' => e = .returned (prtV ⟨4, 0, 0, 0, 2⟩) ∧ Below w.heap.size w w' := ofl9_c 4 2 w
theorem ofl9_2_1 (w : World) : Calls Tryd.prog 11 #[.int .u8 2, .int .i64 1] w fun e w' => e = .returned (prtV ⟨2, 0, 0, 0, 1⟩) ∧ Below w.heap.size w w' := ofl9_c 2 1 w
theorem ofl9_1_1 (w : World) : Calls Tryd.prog 11 #[.int .u8 1, .int .i64 1] w fun e w' => e = .returned (prtV ⟨1, 0, 0, 0, 1⟩) ∧ Below w.heap.size w w' := ofl9_c 1 1 w
theorem ofl9_4_1 (w : World) : Calls Tryd.prog 11 #[.int .u8 4, .int .i64 1] w fun e w' => e = .returned (prtV ⟨4, 0, 0, 0, 1⟩) ∧ Below w.heap.size w w' := ofl9_c 4 1 w
/-- What the head keeps: the two atoms in their blocks. -/
def Hd9 (w : World) (p : Nat) (wx : World) : Prop := Blk wx p #[.int .u8 exA.kind, .int .u32 exA.n, .int .u32 exA.g, .int .i64 exA.d, .int .i64 exA.kids] 36 ∧ Blk wx (p + 1) #[.int .u8 exB.kind, .int .u32 exB.n, .int .u32 exB.g, .int .i64 exB.d, .int .i64 exB.kids] 36 ∧ Below w.heap.size w wx
set_option maxHeartbeats 8000000 in
set_option maxRecDepth 100000 in
theorem head9_c (w : World) (hT : Tab w) : Calls Tryd.prog 4 #[] w fun e w' => e = .returned (.bool true) ∧ Below w.heap.size w w' := by
  have HT := hidE hT
  clear hT
  go_enter Tryd.func4, Tryd.ntmps4
  go_wp2_with fail
  ((with_reducible refine (atom9_c _ _).mono ?_); rintro e w1 ⟨rfl, hb1⟩)
  have H1 := hidE hb1
  clear hb1
  go_wp2_with fail
  ((with_reducible refine (atom9_c _ _).mono ?_); rintro e w2 ⟨rfl, hb2⟩)
  have H2 := hidE (H1.out.trans (hb2.mono H1.out.size))
  clear hb2 H1
  go_wp2_with fail
  obtain ⟨w3, hw3⟩ : ∃ w3, w3 = (w2.alloc (.cells #[.int .u8 0, .int .u32 1, .int .u32 1, .int .i64 1, .int .i64 0] 36)).alloc (.cells #[.int .u8 0, .int .u32 1, .int .u32 1, .int .i64 2, .int .i64 0] 36) := ⟨_, rfl⟩
  have hd3 : Hd9 w w2.heap.size w3 := by
    rw [hw3]
    exact ⟨(Blk.made _ _ _).alloc _, Blk.made_at _ _ _ _ (by simp), by have := H2.out; (repeat (first | exact Below.refl _ _ | assumption | refine balloc ?_ _ | refine below_drewN ?_ _ | refine bstep (by assumption) ?_ | refine bstep (Past.prop _) ?_ | refine Below.setCell ?_ (by first | exact Nat.le_refl _ | (simp; done) | (simp; omega)) _))⟩
  rw [← hw3]
  clear hw3
  obtain ⟨p, hp⟩ : ∃ p, p = w2.heap.size := ⟨_, rfl⟩
  rw [← hp] at hd3 ⊢
  clear hp H2
  have HE := hidE (show Calls Tryd.prog 5 #[defV 0 0 none 0 0] w3 (fun e w' => e = .returned (.tuple #[defV 0 0 none 0 0, .slice none 0 0, .int .i64 81]) ∧ Below w3.heap.size w3 w') from norm_e 0 0 [] none 0 w3 (by simp) (by intro h; simp at h) (by omega) (by omega) (by decide))
  ((with_reducible refine HE.out.mono ?_); rintro e w4 ⟨rfl, hb4⟩)
  clear HE
  have hd4 : Hd9 w p (w4.alloc (.cells #[.int .i64 0, .int .i64 0, .slice none 0 0] 24)) := by
    have hb5 : Below w3.heap.size w3 (w4.alloc (.cells #[.int .i64 0, .int .i64 0, .slice none 0 0] 24)) := by (repeat (first | exact Below.refl _ _ | assumption | refine balloc ?_ _ | refine below_drewN ?_ _ | refine bstep (by assumption) ?_ | refine bstep (Past.prop _) ?_ | refine Below.setCell ?_ (by first | exact Nat.le_refl _ | (simp; done) | (simp; omega)) _))
    exact ⟨hd3.1.past hb5, hd3.2.1.past hb5, hd3.2.2.trans (hb5.mono hd3.2.2.size)⟩
  clear hb4 hd3
  obtain ⟨wx3, hwx⟩ : ∃ wx, wx = w4.alloc (.cells #[.int .i64 0, .int .i64 0, .slice none 0 0] 24) := ⟨_, rfl⟩
  have hd3 : Hd9 w p wx3 := by rw [hwx]; exact hd4
  clear hd4
  go_upto_region 3 with fail
  rw [← hwx]
  clear hwx
  obtain ⟨W, hWe⟩ : ∃ W, W = wx3 := ⟨_, rfl⟩
  subst hWe
  have HA := hidE hd3.1; have HB := hidE hd3.2.1; have HL := hidE hd3.2.2
  have a0 := HA.out.cell 0; have a1 := HA.out.cell 1; have a2 := HA.out.cell 2; have a3 := HA.out.cell 3; have a4 := HA.out.cell 4; have az := HA.out.lt
  have b0 := HB.out.cell 0; have b1 := HB.out.cell 1; have b2 := HB.out.cell 2; have b3 := HB.out.cell 3; have b4 := HB.out.cell 4; have bz := HB.out.lt
  simp [exA] at a0 a1 a2 a3 a4
  simp [exB] at b0 b1 b2 b3 b4
  clear hd3
  go_cut [6] (fun s wx => s = .bool true ∧ Hd9 w p wx)
  case first =>
    refine wp_region_J 12 [] (nthR [detR (prtV (exG 1 2)), detR (prtV (exA)), detR (prtV (exG 1 2)), detR (prtV (exB)), detR (prtV (exA)), sliR W.heap.size 5 (cellsOfP [exG 1 2, exA, exG 1 2, exB, exA]).toArray 36, detR (prtV (exG 1 3)), detR (prtV (exA)), detR (prtV (exB)), detR (prtV (exA)), sliR W.heap.size 4 (cellsOfP [exG 1 3, exA, exB, exA]).toArray 36, sliR W.heap.size 4 (cellsK .i64 (natsI [0, 1, 3, 4])).toArray 3]) (fun _ => false) (by kernel_rfl) (by simp) (by kernel_rfl) (stab_nth (by simp [stab_det, stab_sli])) ?_ ?_ ?_
    · intro i o hi ho
      match i, hi with
      | 0, _ =>
        obtain rfl := Option.some.inj ho
        intro u x hd
        have hc := Past.cell x
        simp [go_sem, gives, frm, Act.put, nthR, detR, Region.wanted, exG]
        (with_reducible refine (ofl9_1_2 _).mono ?_); rintro e w3 ⟨rfl, hb⟩; exact ⟨rfl, hb⟩
      | 1, _ =>
        obtain rfl := Option.some.inj ho
        intro u x hd
        have hc := Past.cell x
        simp [go_sem, gives, frm, Act.put, nthR, detR, Region.wanted, Below.refl, hc, a0, a1, a2, a3, a4, az, exA]
      | 2, _ =>
        obtain rfl := Option.some.inj ho
        intro u x hd
        have hc := Past.cell x
        simp [go_sem, gives, frm, Act.put, nthR, detR, Region.wanted, exG]
        (with_reducible refine (ofl9_1_2 _).mono ?_); rintro e w3 ⟨rfl, hb⟩; exact ⟨rfl, hb⟩
      | 3, _ =>
        obtain rfl := Option.some.inj ho
        intro u x hd
        have hc := Past.cell x
        simp [go_sem, gives, frm, Act.put, nthR, detR, Region.wanted, Below.refl, hc, b0, b1, b2, b3, b4, bz, exB]
      | 4, _ =>
        obtain rfl := Option.some.inj ho
        intro u x hd
        have hc := Past.cell x
        simp [go_sem, gives, frm, Act.put, nthR, detR, Region.wanted, Below.refl, hc, a0, a1, a2, a3, a4, az, exA]
      | 5, _ =>
        obtain rfl := Option.some.inj ho
        intro u x hd
        have hc := Past.cell x
        have d0 := hd 0 (by decide) (by kernel_rfl)
        have d1 := hd 1 (by decide) (by kernel_rfl)
        have d2 := hd 2 (by decide) (by kernel_rfl)
        have d3 := hd 3 (by decide) (by kernel_rfl)
        have d4 := hd 4 (by decide) (by kernel_rfl)
        simp only [nthR, detR, List.getD_cons_zero, List.getD_cons_succ] at d0 d1 d2 d3 d4
        simp [go_sem, gives, frm, Act.put, nthR, Region.wanted, d0, d1, d2, d3, d4, exA, exB, exG]
        exact ⟨by (repeat (first | exact Below.refl _ _ | assumption | refine balloc ?_ _ | refine below_drewN ?_ _ | refine bstep (by assumption) ?_ | refine bstep (Past.prop _) ?_ | refine Below.setCell ?_ (by first | exact Nat.le_refl _ | (simp; done) | (simp; omega)) _)), ⟨_, rfl, by simpa using x.2.size, Blk.made _ _ _⟩⟩
      | 6, _ =>
        obtain rfl := Option.some.inj ho
        intro u x hd
        have hc := Past.cell x
        simp [go_sem, gives, frm, Act.put, nthR, detR, Region.wanted, exG]
        (with_reducible refine (ofl9_1_3 _).mono ?_); rintro e w3 ⟨rfl, hb⟩; exact ⟨rfl, hb⟩
      | 7, _ =>
        obtain rfl := Option.some.inj ho
        intro u x hd
        have hc := Past.cell x
        simp [go_sem, gives, frm, Act.put, nthR, detR, Region.wanted, Below.refl, hc, a0, a1, a2, a3, a4, az, exA]
      | 8, _ =>
        obtain rfl := Option.some.inj ho
        intro u x hd
        have hc := Past.cell x
        simp [go_sem, gives, frm, Act.put, nthR, detR, Region.wanted, Below.refl, hc, b0, b1, b2, b3, b4, bz, exB]
      | 9, _ =>
        obtain rfl := Option.some.inj ho
        intro u x hd
        have hc := Past.cell x
        simp [go_sem, gives, frm, Act.put, nthR, detR, Region.wanted, Below.refl, hc, a0, a1, a2, a3, a4, az, exA]
      | 10, _ =>
        obtain rfl := Option.some.inj ho
        intro u x hd
        have hc := Past.cell x
        have d6 := hd 6 (by decide) (by kernel_rfl)
        have d7 := hd 7 (by decide) (by kernel_rfl)
        have d8 := hd 8 (by decide) (by kernel_rfl)
        have d9 := hd 9 (by decide) (by kernel_rfl)
        simp only [nthR, detR, List.getD_cons_zero, List.getD_cons_succ] at d6 d7 d8 d9
        simp [go_sem, gives, frm, Act.put, nthR, Region.wanted, d6, d7, d8, d9, exA, exB, exG]
        exact ⟨by (repeat (first | exact Below.refl _ _ | assumption | refine balloc ?_ _ | refine below_drewN ?_ _ | refine bstep (by assumption) ?_ | refine bstep (Past.prop _) ?_ | refine Below.setCell ?_ (by first | exact Nat.le_refl _ | (simp; done) | (simp; omega)) _)), ⟨_, rfl, by simpa using x.2.size, Blk.made _ _ _⟩⟩
      | 11, _ =>
        obtain rfl := Option.some.inj ho
        intro u x hd
        have hc := Past.cell x
        simp [go_sem, gives, frm, Act.put, nthR, Region.wanted, exA, exB, exG]
        exact ⟨by (repeat (first | exact Below.refl _ _ | assumption | refine balloc ?_ _ | refine below_drewN ?_ _ | refine bstep (by assumption) ?_ | refine bstep (Past.prop _) ?_ | refine Below.setCell ?_ (by first | exact Nat.le_refl _ | (simp; done) | (simp; omega)) _)), ⟨_, rfl, by simpa using x.2.size, Blk.made _ _ _⟩⟩
      | i + 12, h => exact absurd h (by omega)
    · intro i o h; cases h
    · intro u x hu hne
      obtain ⟨q1, e1, _, B1⟩ : sliR W.heap.size 5 (cellsOfP [exG 1 2, exA, exG 1 2, exB, exA]).toArray 36 (u 5) x.1 := hu 5 (by decide)
      obtain ⟨q2, e2, _, B2⟩ : sliR W.heap.size 4 (cellsOfP [exG 1 3, exA, exB, exA]).toArray 36 (u 10) x.1 := hu 10 (by decide)
      obtain ⟨q3, e3, _, B3⟩ : sliR W.heap.size 4 (cellsK .i64 (natsI [0, 1, 3, 4])).toArray 3 (u 11) x.1 := hu 11 (by decide)
      have HBE := hidE (show Calls Tryd.prog 10 #[.slice (some ⟨q1, 0, none⟩) 5 5, .slice (some ⟨q2, 0, none⟩) 4 4, .slice (some ⟨q3, 0, none⟩) 4 4] x.1 (fun e w' => e = .returned (.bool true) ∧ Below x.1.heap.size x.1 w') from becomes_c ex1 (some ⟨q1, 0, none⟩) (some ⟨q2, 0, none⟩) (some ⟨q3, 0, none⟩) 5 4 4 x.1 (argP_blk B1) (argP_blk B2) (argK_blk B3) ((HT.out.past HL.out).past x.2))
      have HX := hidE x.2
      simp only [frm, List.take, Act.put, e1, e2, e3]
      clear hu hne B1 B2 B3 e1 e2 e3 a0 a1 a2 a3 a4 az b0 b1 b2 b3 b4 bz
      go_wp2_with fail
      ((with_reducible refine HBE.out.mono ?_); rintro e w9 ⟨rfl, hb9⟩)
      have HB9 := hidE hb9
      clear hb9 HBE
      go_wp2
      go_meet
      case rel => exact ⟨rfl, (HA.out.past HX.out).past HB9.out, (HB.out.past HX.out).past HB9.out, (HL.out.trans (HX.out.mono HL.out.size)).trans (HB9.out.mono (Nat.le_trans HL.out.size HX.out.size))⟩
  case rest =>
    obtain ⟨rfl, hd4⟩ := hcut
    obtain ⟨wx4, hwx⟩ : ∃ wx, wx = wc := ⟨_, rfl⟩
    subst hwx
    clear HA HB HL a0 a1 a2 a3 a4 az b0 b1 b2 b3 b4 bz
    obtain ⟨W, hWe⟩ : ∃ W, W = wx4 := ⟨_, rfl⟩
    subst hWe
    have HA := hidE hd4.1; have HB := hidE hd4.2.1; have HL := hidE hd4.2.2
    have a0 := HA.out.cell 0; have a1 := HA.out.cell 1; have a2 := HA.out.cell 2; have a3 := HA.out.cell 3; have a4 := HA.out.cell 4; have az := HA.out.lt
    have b0 := HB.out.cell 0; have b1 := HB.out.cell 1; have b2 := HB.out.cell 2; have b3 := HB.out.cell 3; have b4 := HB.out.cell 4; have bz := HB.out.lt
    simp [exA] at a0 a1 a2 a3 a4
    simp [exB] at b0 b1 b2 b3 b4
    clear hd4
    go_upto_region 4 with fail
    go_cut [7] (fun s wx => s = .bool true ∧ Hd9 w p wx)
    case first =>
      refine wp_region_J 11 [] (nthR [detR (prtV (exG 3 2)), detR (prtV (exB)), detR (prtV (exG 3 2)), detR (prtV (exA)), detR (prtV (exB)), sliR W.heap.size 5 (cellsOfP [exG 3 2, exB, exG 3 2, exA, exB]).toArray 36, detR (prtV (exG 3 2)), detR (prtV (exA)), detR (prtV (exB)), sliR W.heap.size 3 (cellsOfP [exG 3 2, exA, exB]).toArray 36, sliR W.heap.size 3 (cellsK .i64 (natsI [0, 3, 1])).toArray 3]) (fun _ => false) (by kernel_rfl) (by simp) (by kernel_rfl) (stab_nth (by simp [stab_det, stab_sli])) ?_ ?_ ?_
      · intro i o hi ho
        match i, hi with
        | 0, _ =>
          obtain rfl := Option.some.inj ho
          intro u x hd
          have hc := Past.cell x
          simp [go_sem, gives, frm, Act.put, nthR, detR, Region.wanted, exG]
          (with_reducible refine (ofl9_3_2 _).mono ?_); rintro e w3 ⟨rfl, hb⟩; exact ⟨rfl, hb⟩
        | 1, _ =>
          obtain rfl := Option.some.inj ho
          intro u x hd
          have hc := Past.cell x
          simp [go_sem, gives, frm, Act.put, nthR, detR, Region.wanted, Below.refl, hc, b0, b1, b2, b3, b4, bz, exB]
        | 2, _ =>
          obtain rfl := Option.some.inj ho
          intro u x hd
          have hc := Past.cell x
          simp [go_sem, gives, frm, Act.put, nthR, detR, Region.wanted, exG]
          (with_reducible refine (ofl9_3_2 _).mono ?_); rintro e w3 ⟨rfl, hb⟩; exact ⟨rfl, hb⟩
        | 3, _ =>
          obtain rfl := Option.some.inj ho
          intro u x hd
          have hc := Past.cell x
          simp [go_sem, gives, frm, Act.put, nthR, detR, Region.wanted, Below.refl, hc, a0, a1, a2, a3, a4, az, exA]
        | 4, _ =>
          obtain rfl := Option.some.inj ho
          intro u x hd
          have hc := Past.cell x
          simp [go_sem, gives, frm, Act.put, nthR, detR, Region.wanted, Below.refl, hc, b0, b1, b2, b3, b4, bz, exB]
        | 5, _ =>
          obtain rfl := Option.some.inj ho
          intro u x hd
          have hc := Past.cell x
          have d0 := hd 0 (by decide) (by kernel_rfl)
          have d1 := hd 1 (by decide) (by kernel_rfl)
          have d2 := hd 2 (by decide) (by kernel_rfl)
          have d3 := hd 3 (by decide) (by kernel_rfl)
          have d4 := hd 4 (by decide) (by kernel_rfl)
          simp only [nthR, detR, List.getD_cons_zero, List.getD_cons_succ] at d0 d1 d2 d3 d4
          simp [go_sem, gives, frm, Act.put, nthR, Region.wanted, d0, d1, d2, d3, d4, exA, exB, exG]
          exact ⟨by (repeat (first | exact Below.refl _ _ | assumption | refine balloc ?_ _ | refine below_drewN ?_ _ | refine bstep (by assumption) ?_ | refine bstep (Past.prop _) ?_ | refine Below.setCell ?_ (by first | exact Nat.le_refl _ | (simp; done) | (simp; omega)) _)), ⟨_, rfl, by simpa using x.2.size, Blk.made _ _ _⟩⟩
        | 6, _ =>
          obtain rfl := Option.some.inj ho
          intro u x hd
          have hc := Past.cell x
          simp [go_sem, gives, frm, Act.put, nthR, detR, Region.wanted, exG]
          (with_reducible refine (ofl9_3_2 _).mono ?_); rintro e w3 ⟨rfl, hb⟩; exact ⟨rfl, hb⟩
        | 7, _ =>
          obtain rfl := Option.some.inj ho
          intro u x hd
          have hc := Past.cell x
          simp [go_sem, gives, frm, Act.put, nthR, detR, Region.wanted, Below.refl, hc, a0, a1, a2, a3, a4, az, exA]
        | 8, _ =>
          obtain rfl := Option.some.inj ho
          intro u x hd
          have hc := Past.cell x
          simp [go_sem, gives, frm, Act.put, nthR, detR, Region.wanted, Below.refl, hc, b0, b1, b2, b3, b4, bz, exB]
        | 9, _ =>
          obtain rfl := Option.some.inj ho
          intro u x hd
          have hc := Past.cell x
          have d6 := hd 6 (by decide) (by kernel_rfl)
          have d7 := hd 7 (by decide) (by kernel_rfl)
          have d8 := hd 8 (by decide) (by kernel_rfl)
          simp only [nthR, detR, List.getD_cons_zero, List.getD_cons_succ] at d6 d7 d8
          simp [go_sem, gives, frm, Act.put, nthR, Region.wanted, d6, d7, d8, exA, exB, exG]
          exact ⟨by (repeat (first | exact Below.refl _ _ | assumption | refine balloc ?_ _ | refine below_drewN ?_ _ | refine bstep (by assumption) ?_ | refine bstep (Past.prop _) ?_ | refine Below.setCell ?_ (by first | exact Nat.le_refl _ | (simp; done) | (simp; omega)) _)), ⟨_, rfl, by simpa using x.2.size, Blk.made _ _ _⟩⟩
        | 10, _ =>
          obtain rfl := Option.some.inj ho
          intro u x hd
          have hc := Past.cell x
          simp [go_sem, gives, frm, Act.put, nthR, Region.wanted, exA, exB, exG]
          exact ⟨by (repeat (first | exact Below.refl _ _ | assumption | refine balloc ?_ _ | refine below_drewN ?_ _ | refine bstep (by assumption) ?_ | refine bstep (Past.prop _) ?_ | refine Below.setCell ?_ (by first | exact Nat.le_refl _ | (simp; done) | (simp; omega)) _)), ⟨_, rfl, by simpa using x.2.size, Blk.made _ _ _⟩⟩
        | i + 11, h => exact absurd h (by omega)
      · intro i o h; cases h
      · intro u x hu hne
        obtain ⟨q1, e1, _, B1⟩ : sliR W.heap.size 5 (cellsOfP [exG 3 2, exB, exG 3 2, exA, exB]).toArray 36 (u 5) x.1 := hu 5 (by decide)
        obtain ⟨q2, e2, _, B2⟩ : sliR W.heap.size 3 (cellsOfP [exG 3 2, exA, exB]).toArray 36 (u 9) x.1 := hu 9 (by decide)
        obtain ⟨q3, e3, _, B3⟩ : sliR W.heap.size 3 (cellsK .i64 (natsI [0, 3, 1])).toArray 3 (u 10) x.1 := hu 10 (by decide)
        have HBE := hidE (show Calls Tryd.prog 10 #[.slice (some ⟨q1, 0, none⟩) 5 5, .slice (some ⟨q2, 0, none⟩) 3 3, .slice (some ⟨q3, 0, none⟩) 3 3] x.1 (fun e w' => e = .returned (.bool true) ∧ Below x.1.heap.size x.1 w') from becomes_c ex2 (some ⟨q1, 0, none⟩) (some ⟨q2, 0, none⟩) (some ⟨q3, 0, none⟩) 5 3 3 x.1 (argP_blk B1) (argP_blk B2) (argK_blk B3) ((HT.out.past HL.out).past x.2))
        have HX := hidE x.2
        simp only [frm, List.take, Act.put, e1, e2, e3]
        clear hu hne B1 B2 B3 e1 e2 e3 a0 a1 a2 a3 a4 az b0 b1 b2 b3 b4 bz
        go_wp2_with fail
        ((with_reducible refine HBE.out.mono ?_); rintro e w9 ⟨rfl, hb9⟩)
        have HB9 := hidE hb9
        clear hb9 HBE
        go_wp2
        go_meet
        case rel => exact ⟨rfl, (HA.out.past HX.out).past HB9.out, (HB.out.past HX.out).past HB9.out, (HL.out.trans (HX.out.mono HL.out.size)).trans (HB9.out.mono (Nat.le_trans HL.out.size HX.out.size))⟩
    case rest =>
      obtain ⟨rfl, hd5⟩ := hcut
      obtain ⟨wx5, hwx⟩ : ∃ wx, wx = wc := ⟨_, rfl⟩
      subst hwx
      clear HA HB HL a0 a1 a2 a3 a4 az b0 b1 b2 b3 b4 bz
      obtain ⟨W, hWe⟩ : ∃ W, W = wx5 := ⟨_, rfl⟩
      subst hWe
      have HA := hidE hd5.1; have HB := hidE hd5.2.1; have HL := hidE hd5.2.2
      have a0 := HA.out.cell 0; have a1 := HA.out.cell 1; have a2 := HA.out.cell 2; have a3 := HA.out.cell 3; have a4 := HA.out.cell 4; have az := HA.out.lt
      have b0 := HB.out.cell 0; have b1 := HB.out.cell 1; have b2 := HB.out.cell 2; have b3 := HB.out.cell 3; have b4 := HB.out.cell 4; have bz := HB.out.lt
      simp [exA] at a0 a1 a2 a3 a4
      simp [exB] at b0 b1 b2 b3 b4
      clear hd5
      go_upto_region 5 with fail
      go_cut [8] (fun s wx => s = .bool true ∧ Hd9 w p wx)
      case first =>
        refine wp_region_J 12 [] (nthR [detR (prtV (exG 4 2)), detR (prtV (exG 2 1)), detR (prtV (exB)), detR (prtV (exG 3 2)), detR (prtV (exA)), detR (prtV (exA)), sliR W.heap.size 6 (cellsOfP [exG 4 2, exG 2 1, exB, exG 3 2, exA, exA]).toArray 36, detR (prtV (exG 4 2)), detR (prtV (exA)), detR (prtV (exB)), sliR W.heap.size 3 (cellsOfP [exG 4 2, exA, exB]).toArray 36, sliR W.heap.size 3 (cellsK .i64 (natsI [0, 4, 2])).toArray 3]) (fun _ => false) (by kernel_rfl) (by simp) (by kernel_rfl) (stab_nth (by simp [stab_det, stab_sli])) ?_ ?_ ?_
        · intro i o hi ho
          match i, hi with
          | 0, _ =>
            obtain rfl := Option.some.inj ho
            intro u x hd
            have hc := Past.cell x
            simp [go_sem, gives, frm, Act.put, nthR, detR, Region.wanted, exG]
            (with_reducible refine (ofl9_4_2 _).mono ?_); rintro e w3 ⟨rfl, hb⟩; exact ⟨rfl, hb⟩
          | 1, _ =>
            obtain rfl := Option.some.inj ho
            intro u x hd
            have hc := Past.cell x
            simp [go_sem, gives, frm, Act.put, nthR, detR, Region.wanted, exG]
            (with_reducible refine (ofl9_2_1 _).mono ?_); rintro e w3 ⟨rfl, hb⟩; exact ⟨rfl, hb⟩
          | 2, _ =>
            obtain rfl := Option.some.inj ho
            intro u x hd
            have hc := Past.cell x
            simp [go_sem, gives, frm, Act.put, nthR, detR, Region.wanted, Below.refl, hc, b0, b1, b2, b3, b4, bz, exB]
          | 3, _ =>
            obtain rfl := Option.some.inj ho
            intro u x hd
            have hc := Past.cell x
            simp [go_sem, gives, frm, Act.put, nthR, detR, Region.wanted, exG]
            (with_reducible refine (ofl9_3_2 _).mono ?_); rintro e w3 ⟨rfl, hb⟩; exact ⟨rfl, hb⟩
          | 4, _ =>
            obtain rfl := Option.some.inj ho
            intro u x hd
            have hc := Past.cell x
            simp [go_sem, gives, frm, Act.put, nthR, detR, Region.wanted, Below.refl, hc, a0, a1, a2, a3, a4, az, exA]
          | 5, _ =>
            obtain rfl := Option.some.inj ho
            intro u x hd
            have hc := Past.cell x
            simp [go_sem, gives, frm, Act.put, nthR, detR, Region.wanted, Below.refl, hc, a0, a1, a2, a3, a4, az, exA]
          | 6, _ =>
            obtain rfl := Option.some.inj ho
            intro u x hd
            have hc := Past.cell x
            have d0 := hd 0 (by decide) (by kernel_rfl)
            have d1 := hd 1 (by decide) (by kernel_rfl)
            have d2 := hd 2 (by decide) (by kernel_rfl)
            have d3 := hd 3 (by decide) (by kernel_rfl)
            have d4 := hd 4 (by decide) (by kernel_rfl)
            have d5 := hd 5 (by decide) (by kernel_rfl)
            simp only [nthR, detR, List.getD_cons_zero, List.getD_cons_succ] at d0 d1 d2 d3 d4 d5
            simp [go_sem, gives, frm, Act.put, nthR, Region.wanted, d0, d1, d2, d3, d4, d5, exA, exB, exG]
            exact ⟨by (repeat (first | exact Below.refl _ _ | assumption | refine balloc ?_ _ | refine below_drewN ?_ _ | refine bstep (by assumption) ?_ | refine bstep (Past.prop _) ?_ | refine Below.setCell ?_ (by first | exact Nat.le_refl _ | (simp; done) | (simp; omega)) _)), ⟨_, rfl, by simpa using x.2.size, Blk.made _ _ _⟩⟩
          | 7, _ =>
            obtain rfl := Option.some.inj ho
            intro u x hd
            have hc := Past.cell x
            simp [go_sem, gives, frm, Act.put, nthR, detR, Region.wanted, exG]
            (with_reducible refine (ofl9_4_2 _).mono ?_); rintro e w3 ⟨rfl, hb⟩; exact ⟨rfl, hb⟩
          | 8, _ =>
            obtain rfl := Option.some.inj ho
            intro u x hd
            have hc := Past.cell x
            simp [go_sem, gives, frm, Act.put, nthR, detR, Region.wanted, Below.refl, hc, a0, a1, a2, a3, a4, az, exA]
          | 9, _ =>
            obtain rfl := Option.some.inj ho
            intro u x hd
            have hc := Past.cell x
            simp [go_sem, gives, frm, Act.put, nthR, detR, Region.wanted, Below.refl, hc, b0, b1, b2, b3, b4, bz, exB]
          | 10, _ =>
            obtain rfl := Option.some.inj ho
            intro u x hd
            have hc := Past.cell x
            have d7 := hd 7 (by decide) (by kernel_rfl)
            have d8 := hd 8 (by decide) (by kernel_rfl)
            have d9 := hd 9 (by decide) (by kernel_rfl)
            simp only [nthR, detR, List.getD_cons_zero, List.getD_cons_succ] at d7 d8 d9
            simp [go_sem, gives, frm, Act.put, nthR, Region.wanted, d7, d8, d9, exA, exB, exG]
            exact ⟨by (repeat (first | exact Below.refl _ _ | assumption | refine balloc ?_ _ | refine below_drewN ?_ _ | refine bstep (by assumption) ?_ | refine bstep (Past.prop _) ?_ | refine Below.setCell ?_ (by first | exact Nat.le_refl _ | (simp; done) | (simp; omega)) _)), ⟨_, rfl, by simpa using x.2.size, Blk.made _ _ _⟩⟩
          | 11, _ =>
            obtain rfl := Option.some.inj ho
            intro u x hd
            have hc := Past.cell x
            simp [go_sem, gives, frm, Act.put, nthR, Region.wanted, exA, exB, exG]
            exact ⟨by (repeat (first | exact Below.refl _ _ | assumption | refine balloc ?_ _ | refine below_drewN ?_ _ | refine bstep (by assumption) ?_ | refine bstep (Past.prop _) ?_ | refine Below.setCell ?_ (by first | exact Nat.le_refl _ | (simp; done) | (simp; omega)) _)), ⟨_, rfl, by simpa using x.2.size, Blk.made _ _ _⟩⟩
          | i + 12, h => exact absurd h (by omega)
        · intro i o h; cases h
        · intro u x hu hne
          obtain ⟨q1, e1, _, B1⟩ : sliR W.heap.size 6 (cellsOfP [exG 4 2, exG 2 1, exB, exG 3 2, exA, exA]).toArray 36 (u 6) x.1 := hu 6 (by decide)
          obtain ⟨q2, e2, _, B2⟩ : sliR W.heap.size 3 (cellsOfP [exG 4 2, exA, exB]).toArray 36 (u 10) x.1 := hu 10 (by decide)
          obtain ⟨q3, e3, _, B3⟩ : sliR W.heap.size 3 (cellsK .i64 (natsI [0, 4, 2])).toArray 3 (u 11) x.1 := hu 11 (by decide)
          have HBE := hidE (show Calls Tryd.prog 10 #[.slice (some ⟨q1, 0, none⟩) 6 6, .slice (some ⟨q2, 0, none⟩) 3 3, .slice (some ⟨q3, 0, none⟩) 3 3] x.1 (fun e w' => e = .returned (.bool true) ∧ Below x.1.heap.size x.1 w') from becomes_c ex3 (some ⟨q1, 0, none⟩) (some ⟨q2, 0, none⟩) (some ⟨q3, 0, none⟩) 6 3 3 x.1 (argP_blk B1) (argP_blk B2) (argK_blk B3) ((HT.out.past HL.out).past x.2))
          have HX := hidE x.2
          simp only [frm, List.take, Act.put, e1, e2, e3]
          clear hu hne B1 B2 B3 e1 e2 e3 a0 a1 a2 a3 a4 az b0 b1 b2 b3 b4 bz
          go_wp2_with fail
          ((with_reducible refine HBE.out.mono ?_); rintro e w9 ⟨rfl, hb9⟩)
          have HB9 := hidE hb9
          clear hb9 HBE
          go_wp2
          go_meet
          case rel => exact ⟨rfl, (HA.out.past HX.out).past HB9.out, (HB.out.past HX.out).past HB9.out, (HL.out.trans (HX.out.mono HL.out.size)).trans (HB9.out.mono (Nat.le_trans HL.out.size HX.out.size))⟩
      case rest =>
        obtain ⟨rfl, hd6⟩ := hcut
        obtain ⟨wx6, hwx⟩ : ∃ wx, wx = wc := ⟨_, rfl⟩
        subst hwx
        clear HA HB HL a0 a1 a2 a3 a4 az b0 b1 b2 b3 b4 bz
        obtain ⟨W, hWe⟩ : ∃ W, W = wx6 := ⟨_, rfl⟩
        subst hWe
        have HA := hidE hd6.1; have HB := hidE hd6.2.1; have HL := hidE hd6.2.2
        have a0 := HA.out.cell 0; have a1 := HA.out.cell 1; have a2 := HA.out.cell 2; have a3 := HA.out.cell 3; have a4 := HA.out.cell 4; have az := HA.out.lt
        have b0 := HB.out.cell 0; have b1 := HB.out.cell 1; have b2 := HB.out.cell 2; have b3 := HB.out.cell 3; have b4 := HB.out.cell 4; have bz := HB.out.lt
        simp [exA] at a0 a1 a2 a3 a4
        simp [exB] at b0 b1 b2 b3 b4
        clear hd6
        go_upto_region 6 with fail
        go_cut [9] (fun s wx => s = .bool true ∧ Hd9 w p wx)
        case first =>
          refine wp_region_J 7 [] (nthR [detR (prtV (exG 1 1)), detR (prtV (exG 4 1)), detR (prtV (exA)), sliR W.heap.size 3 (cellsOfP [exG 1 1, exG 4 1, exA]).toArray 36, detR (prtV (exA)), sliR W.heap.size 1 (cellsOfP [exA]).toArray 36, sliR W.heap.size 1 (cellsK .i64 (natsI [2])).toArray 3]) (fun _ => false) (by kernel_rfl) (by simp) (by kernel_rfl) (stab_nth (by simp [stab_det, stab_sli])) ?_ ?_ ?_
          · intro i o hi ho
            match i, hi with
            | 0, _ =>
              obtain rfl := Option.some.inj ho
              intro u x hd
              have hc := Past.cell x
              simp [go_sem, gives, frm, Act.put, nthR, detR, Region.wanted, exG]
              (with_reducible refine (ofl9_1_1 _).mono ?_); rintro e w3 ⟨rfl, hb⟩; exact ⟨rfl, hb⟩
            | 1, _ =>
              obtain rfl := Option.some.inj ho
              intro u x hd
              have hc := Past.cell x
              simp [go_sem, gives, frm, Act.put, nthR, detR, Region.wanted, exG]
              (with_reducible refine (ofl9_4_1 _).mono ?_); rintro e w3 ⟨rfl, hb⟩; exact ⟨rfl, hb⟩
            | 2, _ =>
              obtain rfl := Option.some.inj ho
              intro u x hd
              have hc := Past.cell x
              simp [go_sem, gives, frm, Act.put, nthR, detR, Region.wanted, Below.refl, hc, a0, a1, a2, a3, a4, az, exA]
            | 3, _ =>
              obtain rfl := Option.some.inj ho
              intro u x hd
              have hc := Past.cell x
              have d0 := hd 0 (by decide) (by kernel_rfl)
              have d1 := hd 1 (by decide) (by kernel_rfl)
              have d2 := hd 2 (by decide) (by kernel_rfl)
              simp only [nthR, detR, List.getD_cons_zero, List.getD_cons_succ] at d0 d1 d2
              simp [go_sem, gives, frm, Act.put, nthR, Region.wanted, d0, d1, d2, exA, exG]
              exact ⟨by (repeat (first | exact Below.refl _ _ | assumption | refine balloc ?_ _ | refine below_drewN ?_ _ | refine bstep (by assumption) ?_ | refine bstep (Past.prop _) ?_ | refine Below.setCell ?_ (by first | exact Nat.le_refl _ | (simp; done) | (simp; omega)) _)), ⟨_, rfl, by simpa using x.2.size, Blk.made _ _ _⟩⟩
            | 4, _ =>
              obtain rfl := Option.some.inj ho
              intro u x hd
              have hc := Past.cell x
              simp [go_sem, gives, frm, Act.put, nthR, detR, Region.wanted, Below.refl, hc, a0, a1, a2, a3, a4, az, exA]
            | 5, _ =>
              obtain rfl := Option.some.inj ho
              intro u x hd
              have hc := Past.cell x
              have d4 := hd 4 (by decide) (by kernel_rfl)
              simp only [nthR, detR, List.getD_cons_zero, List.getD_cons_succ] at d4
              simp [go_sem, gives, frm, Act.put, nthR, Region.wanted, d4, exA, exG]
              exact ⟨by (repeat (first | exact Below.refl _ _ | assumption | refine balloc ?_ _ | refine below_drewN ?_ _ | refine bstep (by assumption) ?_ | refine bstep (Past.prop _) ?_ | refine Below.setCell ?_ (by first | exact Nat.le_refl _ | (simp; done) | (simp; omega)) _)), ⟨_, rfl, by simpa using x.2.size, Blk.made _ _ _⟩⟩
            | 6, _ =>
              obtain rfl := Option.some.inj ho
              intro u x hd
              have hc := Past.cell x
              simp [go_sem, gives, frm, Act.put, nthR, Region.wanted, exA, exG]
              exact ⟨by (repeat (first | exact Below.refl _ _ | assumption | refine balloc ?_ _ | refine below_drewN ?_ _ | refine bstep (by assumption) ?_ | refine bstep (Past.prop _) ?_ | refine Below.setCell ?_ (by first | exact Nat.le_refl _ | (simp; done) | (simp; omega)) _)), ⟨_, rfl, by simpa using x.2.size, Blk.made _ _ _⟩⟩
            | i + 7, h => exact absurd h (by omega)
          · intro i o h; cases h
          · intro u x hu hne
            obtain ⟨q1, e1, _, B1⟩ : sliR W.heap.size 3 (cellsOfP [exG 1 1, exG 4 1, exA]).toArray 36 (u 3) x.1 := hu 3 (by decide)
            obtain ⟨q2, e2, _, B2⟩ : sliR W.heap.size 1 (cellsOfP [exA]).toArray 36 (u 5) x.1 := hu 5 (by decide)
            obtain ⟨q3, e3, _, B3⟩ : sliR W.heap.size 1 (cellsK .i64 (natsI [2])).toArray 3 (u 6) x.1 := hu 6 (by decide)
            have HBE := hidE (show Calls Tryd.prog 10 #[.slice (some ⟨q1, 0, none⟩) 3 3, .slice (some ⟨q2, 0, none⟩) 1 1, .slice (some ⟨q3, 0, none⟩) 1 1] x.1 (fun e w' => e = .returned (.bool true) ∧ Below x.1.heap.size x.1 w') from becomes_c ex4 (some ⟨q1, 0, none⟩) (some ⟨q2, 0, none⟩) (some ⟨q3, 0, none⟩) 3 1 1 x.1 (argP_blk B1) (argP_blk B2) (argK_blk B3) ((HT.out.past HL.out).past x.2))
            have HX := hidE x.2
            simp only [frm, List.take, Act.put, e1, e2, e3]
            clear hu hne B1 B2 B3 e1 e2 e3 a0 a1 a2 a3 a4 az b0 b1 b2 b3 b4 bz
            go_wp2_with fail
            ((with_reducible refine HBE.out.mono ?_); rintro e w9 ⟨rfl, hb9⟩)
            have HB9 := hidE hb9
            clear hb9 HBE
            go_wp2
            go_meet
            case rel => exact ⟨rfl, (HA.out.past HX.out).past HB9.out, (HB.out.past HX.out).past HB9.out, (HL.out.trans (HX.out.mono HL.out.size)).trans (HB9.out.mono (Nat.le_trans HL.out.size HX.out.size))⟩
        case rest =>
          obtain ⟨rfl, hd7⟩ := hcut
          obtain ⟨wx7, hwx⟩ : ∃ wx, wx = wc := ⟨_, rfl⟩
          subst hwx
          clear HA HB HL a0 a1 a2 a3 a4 az b0 b1 b2 b3 b4 bz
          have HL := hidE hd7.2.2
          clear hd7
          go_wp2_with fail
          obtain ⟨w8, hw8⟩ : ∃ w8, w8 = (wx7.alloc (.cells #[.int .i64 0, .int .i64 3, .int .i64 1] 3)).alloc (.cells #[.int .i64 1, .int .i64 5, .int .i64 2, .int .i64 4] 45) := ⟨_, rfl⟩
          rw [← hw8]
          have hf8 : Blk w8 wx7.heap.size #[.int .i64 0, .int .i64 3, .int .i64 1] 3 := by rw [hw8]; exact (Blk.made _ _ _).alloc _
          have hp8 : Blk w8 (wx7.heap.size + 1) #[.int .i64 1, .int .i64 5, .int .i64 2, .int .i64 4] 45 := by rw [hw8]; exact Blk.made_at _ _ _ _ (by simp)
          have hb8 : Below w.heap.size w w8 := by rw [hw8]; have := HL.out; (repeat (first | exact Below.refl _ _ | assumption | refine balloc ?_ _ | refine below_drewN ?_ _ | refine bstep (by assumption) ?_ | refine bstep (Past.prop _) ?_ | refine Below.setCell ?_ (by first | exact Nat.le_refl _ | (simp; done) | (simp; omega)) _))
          clear hw8
          ((with_reducible refine (back2_c w8 _ _ 3 2 hf8 hp8).mono ?_); rintro e w9 ⟨g, c, rfl, hpc, hb9⟩)
          have HPC := hidE hpc
          have HL9 := hidE (hb8.trans (hb9.mono hb8.size))
          clear hf8 hp8 hb8 hb9 hpc HL
          go_wp2_with fail
          obtain ⟨w10, hw10⟩ : ∃ w10, w10 = (w9.alloc (.cells #[.int .i64 0] 3)).alloc (.cells #[.int .i64 1, .int .i64 0] 45) := ⟨_, rfl⟩
          rw [← hw10]
          have hf10 : Blk w10 w9.heap.size #[.int .i64 0] 3 := by rw [hw10]; exact (Blk.made _ _ _).alloc _
          have hp10 : Blk w10 (w9.heap.size + 1) #[.int .i64 1, .int .i64 0] 45 := by rw [hw10]; exact Blk.made_at _ _ _ _ (by simp)
          have hb10 : Below w9.heap.size w9 w10 := by rw [hw10]; (repeat (first | exact Below.refl _ _ | assumption | refine balloc ?_ _ | refine below_drewN ?_ _ | refine bstep (by assumption) ?_ | refine bstep (Past.prop _) ?_ | refine Below.setCell ?_ (by first | exact Nat.le_refl _ | (simp; done) | (simp; omega)) _))
          clear hw10
          ((with_reducible refine (back1_c w10 _ _ 1 1 hf10 hp10).mono ?_); rintro e w11 ⟨rfl, hb11⟩)
          have hb911 := hb10.trans (hb11.mono hb10.size)
          have HP11 := hidE (HPC.out.past hb911)
          have HL11 := hidE (HL9.out.trans (hb911.mono HL9.out.size))
          clear hf10 hp10 hb10 hb11 hb911 HPC HL9
          go_wp2_with fail
          obtain ⟨w12, hw12⟩ : ∃ w12, w12 = w11.alloc (.cells #[.int .i64 1, .int .i64 4, .int .i64 3, .int .i64 5] 45) := ⟨_, rfl⟩
          rw [← hw12]
          have hp12 : Blk w12 w11.heap.size #[.int .i64 1, .int .i64 4, .int .i64 3, .int .i64 5] 45 := by rw [hw12]; exact Blk.made _ _ _
          have hb12 : Below w11.heap.size w11 w12 := by rw [hw12]; (repeat (first | exact Below.refl _ _ | assumption | refine balloc ?_ _ | refine below_drewN ?_ _ | refine bstep (by assumption) ?_ | refine bstep (Past.prop _) ?_ | refine Below.setCell ?_ (by first | exact Nat.le_refl _ | (simp; done) | (simp; omega)) _))
          clear hw12
          have hpg : Pc2 w12 g 1 4 3 5 w12 := ⟨(HP11.out.past hb12).here, Below.refl _ _⟩
          ((with_reducible refine (samep_c g c _ 2 w12 hpg hp12).mono ?_); rintro e w13 ⟨rfl, hb13⟩)
          have HL13 := hidE ((HL11.out.trans (hb12.mono HL11.out.size)).trans (hb13.mono (Nat.le_trans HL11.out.size hb12.size)))
          clear hp12 hb12 hpg hb13 HP11 HL11
          go_wp2
          go_ret
          exact ⟨rfl, HL13.out⟩
end Go.Proofs.YtkjpmhmlakmglaaDoor

namespace Go.Proofs.YtkjpmhmlakmglaaDoor
open Go.ChangeShapes Go.WideShapes Go.ChangeAt Go.RowKit
attribute [local irreducible] Go.Calls

/-- What a call of Norm hands back, its list of places as long as the parts. -/
def NormAt (w : World) (fr to' : Int) (l : List Prt) (k : List Nat) (e : Ending) (w' : World) : Prop :=
  ∃ (b o bk ok c ck : Nat), e = .returned (.tuple #[defV fr to' (some ⟨b, o, none⟩) l.length c, .slice (some ⟨bk, ok, none⟩) l.length ck, .int .i64 0]) ∧ ArgP w' (some ⟨b, o, none⟩) l ∧ ArgK .i64 w' (some ⟨bk, ok, none⟩) (natsI k) ∧ Below w.heap.size w w'
theorem NormIs.at {w : World} {fr to' : Int} {l : List Prt} {k : List Nat} {e : Ending} {w' : World} (h : NormIs w fr to' l k e w') (hk : k.length = l.length) (h0 : 0 < l.length) : NormAt w fr to' l k e w' := by
  obtain ⟨a, a2, c, c2, rfl, _, _, hA, hK, hb⟩ := h
  obtain ⟨b, o, rfl, _⟩ := id hA h0
  obtain ⟨bk, ok, rfl, _⟩ := id hK (by rw [natsI_len]; omega)
  exact ⟨b, o, bk, ok, c, c2, by rw [hk], hA, hK, hb⟩
structure Twice (fr to' : Int) (l l2 : List Prt) (k m : List Nat) : Prop where
  fst : ∀ (a : Option Addr) (cap : Nat) (w : World), ArgP w a l → Tab w → Calls Tryd.prog 5 #[defV fr to' a l.length cap] w (NormAt w fr to' l2 k)
  snd : ∀ (a : Option Addr) (cap : Nat) (w : World), ArgP w a l2 → Tab w → Calls Tryd.prog 5 #[defV fr to' a l2.length cap] w (NormAt w fr to' l2 m)
  chk : chkS fr to' l = (0, 0)
  chk2 : chkS fr to' l2 = (0, 0)
  len : l2.length ≤ l.length ∧ l.length ≤ 64 ∧ 0 < l2.length
  klen : k.length = l2.length
  mlen : m.length = l2.length
  frm : ∀ i, i < l2.length → k.getD i 0 < l.length ∧ (l2.getD i pr0).kind = (l.getD (k.getD i 0) pr0).kind ∧ (l2.getD i pr0).n = (l.getD (k.getD i 0) pr0).n ∧ (l2.getD i pr0).g = (l.getD (k.getD i 0) pr0).g ∧ (l2.getD i pr0).d = (l.getD (k.getD i 0) pr0).d
  one : ∀ i j, j < i → i < l2.length → k.getD j 0 ≠ k.getD i 0
  self : ∀ i, i < l2.length → m.getD i 0 = i
  deep : mxN (depthS l2) l2.length ≤ mxN (depthS l) l.length
theorem twice {fr to' : Int} {l : List Prt} (hf : -9223372036854775808 ≤ fr ∧ fr ≤ 9223372036854775807) (ht : -9223372036854775808 ≤ to' ∧ to' ≤ 9223372036854775807) (h : (chkS fr to' l).2 = 0) : ∃ l2 k m, Twice fr to' l l2 k m := by
  obtain ⟨hok, hw, htr, h0, h64⟩ := chk_ok h
  obtain ⟨F, hk, h1, rfl, h3, h2⟩ := fit_tree htr
  have O := once_of hk h1 h2 h3
  obtain ⟨H, g1, g2, g3, g4, g5, g6, g7, g8⟩ := O.again
  have hc2 : chkS fr to' (plainF (lab F 0)).flat = (0, 0) := chk_win (by rw [O.tree]) (by omega)
  refine ⟨(plainF (lab F 0)).flat, fromF (plainF (lab F 0)), fromF (plainF (lab H 0)), ⟨fun a cap w hA hT => ?_, fun a cap w hA hT => ?_, hok, hc2, ⟨O.size, h64, O.pos⟩, O.klen, g7, fun i hi => O.frm i (by rw [O.klen]; exact hi), fun i j hj hi => O.one i j hj (by rw [O.klen]; exact hi), g8, ?_⟩⟩
  · exact (norm_c fr to' F a cap _ rfl w hA hok hk h1 h3 h2 hT hf ht).mono fun e w' q => q.at O.klen O.pos
  · have := norm_c fr to' H a cap (plainF (lab F 0)).flat.length (by rw [g5]) w (by rw [g5]; exact hA) (by rw [g5]; exact hc2) g1 g2 g3 g4 hT hf ht
    rw [g6] at this
    exact this.mono fun e w' q => q.at g7 O.pos
  · have := once_deep O
    rw [O.klen] at this; exact this
end Go.Proofs.YtkjpmhmlakmglaaDoor

namespace Go.Proofs.YtkjpmhmlakmglaaDoor
open Go.ChangeShapes Go.WideShapes Go.ChangeAt Go.RowKit
attribute [local irreducible] Go.Calls

/-- What the walk keeps first: the definition in its block, and its parts. -/
def N1 (W : World) (fr to' : Int) (a : Option Addr) (l : List Prt) (cap : Nat) (w : World) : Prop := Below W.heap.size W w ∧ Blk w W.heap.size #[.int .i64 fr, .int .i64 to', .slice a l.length cap] 24 ∧ ArgP w a l
section
variable {W : World} {fr to' : Int} {a : Option Addr} {l : List Prt} {cap : Nat} {w w' : World}
theorem N1.past (h : N1 W fr to' a l cap w) (hb : Below w.heap.size w w') : N1 W fr to' a l cap w' := ⟨h.1.trans (hb.mono h.1.size), h.2.1.past hb, h.2.2.past hb⟩
theorem N1.bel (h : N1 W fr to' a l cap w) : Below W.heap.size W w := h.1
theorem N1.d (h : N1 W fr to' a l cap w) : Blk w W.heap.size #[.int .i64 fr, .int .i64 to', .slice a l.length cap] 24 := h.2.1
theorem N1.T (h : N1 W fr to' a l cap w) : ArgP w a l := h.2.2
end
/-- Then: the normal form too, and where its parts come from. -/
def N2 (W : World) (fr to' : Int) (a : Option Addr) (l : List Prt) (cap p : Nat) (a2 : Option Addr) (l2 : List Prt) (c2 : Nat) (ak : Option Addr) (k : List Nat) (w : World) : Prop :=
  N1 W fr to' a l cap w ∧ Blk w p #[.int .i64 fr, .int .i64 to', .slice a2 l2.length c2] 24 ∧ ArgP w a2 l2 ∧ ArgK .i64 w ak (natsI k)
section
variable {W : World} {fr to' : Int} {a a2 ak : Option Addr} {l l2 : List Prt} {cap p c2 : Nat} {k : List Nat} {w w' : World}
theorem N2.past (h : N2 W fr to' a l cap p a2 l2 c2 ak k w) (hb : Below w.heap.size w w') : N2 W fr to' a l cap p a2 l2 c2 ak k w' := ⟨h.1.past hb, h.2.1.past hb, h.2.2.1.past hb, h.2.2.2.past hb⟩
theorem N2.bel (h : N2 W fr to' a l cap p a2 l2 c2 ak k w) : Below W.heap.size W w := h.1.bel
theorem N2.d (h : N2 W fr to' a l cap p a2 l2 c2 ak k w) : Blk w W.heap.size #[.int .i64 fr, .int .i64 to', .slice a l.length cap] 24 := h.1.d
theorem N2.T (h : N2 W fr to' a l cap p a2 l2 c2 ak k w) : ArgP w a l := h.1.T
theorem N2.d2 (h : N2 W fr to' a l cap p a2 l2 c2 ak k w) : Blk w p #[.int .i64 fr, .int .i64 to', .slice a2 l2.length c2] 24 := h.2.1
theorem N2.T2 (h : N2 W fr to' a l cap p a2 l2 c2 ak k w) : ArgP w a2 l2 := h.2.2.1
theorem N2.K (h : N2 W fr to' a l cap p a2 l2 c2 ak k w) : ArgK .i64 w ak (natsI k) := h.2.2.2
end
theorem blk_drw {w : World} {k : Nat} {cs : Array Value} {t : TypeId} (h : Blk w k cs t) : Blk w.drew k cs t := h
set_option maxRecDepth 100000 in
set_option maxHeartbeats 4000000 in
theorem nonce_walk (fr to' : Int) (l : List Prt) (a : Option Addr) (cap : Nat) (W : World) (hl : l.length ≤ 9223372036854775807) (hA : ArgP W a l) (hf : -9223372036854775808 ≤ fr ∧ fr ≤ 9223372036854775807) (ht : -9223372036854775808 ≤ to' ∧ to' ≤ 9223372036854775807) (hTab : Tab W) :
    Calls Tryd.prog 3 #[defV fr to' a l.length cap] W fun e w' => e = .returned (.bool true) ∧ Below W.heap.size W w' := by
  have HS0 := hidE (show N1 W fr to' a l cap (W.alloc (.cells #[.int .i64 fr, .int .i64 to', .slice a l.length cap] 24)) from ⟨by (repeat (first | exact Below.refl _ _ | assumption | refine balloc ?_ _ | refine below_drewN ?_ _ | refine bstep (by assumption) ?_ | refine bstep (Past.prop _) ?_ | refine Below.setCell ?_ (by first | exact Nat.le_refl _ | (simp; done) | (simp; omega)) _)), Blk.made _ _ _, hA.past (by (repeat (first | exact Below.refl _ _ | assumption | refine balloc ?_ _ | refine below_drewN ?_ _ | refine bstep (by assumption) ?_ | refine bstep (Past.prop _) ?_ | refine Below.setCell ?_ (by first | exact Nat.le_refl _ | (simp; done) | (simp; omega)) _)))⟩)
  have HTAB := hidE hTab
  clear hTab
  by_cases h100 : l.length ≤ 100
  · have q1 : decide ((l.length : Int) > 100) = false := decide_eq_false (by omega)
    have q2 : decide (100 < l.length) = false := decide_eq_false (by omega)
    have CH := hidE (fun w hA => rchk_c fr to' l a cap w (by omega) hA hf ht)
    by_cases he : (chkS fr to' l).2 = 0
    · obtain ⟨l2, k, m, T⟩ := twice hf ht he
      rw [T.chk] at CH
      have CH2 := hidE (fun a2 c2 w hA => rchk_c fr to' l2 a2 c2 w (by have := T.len; omega) hA hf ht)
      rw [T.chk2] at CH2
      have NA := hidE T.fst; have NB := hidE T.snd
      have SM := hidE (fun a2 c2 a3 c3 w (h : ArgP w a2 l2) (h2 : ArgP w a3 l2) => show Calls Tryd.prog 7 #[defV fr to' a2 l2.length c2, defV fr to' a3 l2.length c3] w fun x w' => x = .returned (.bool true) ∧ Below w.heap.size w w' from by
        have := rsame7_c ⟨fr, to', l2⟩ ⟨fr, to', l2⟩ a2 a3 c2 c3 w (by show l2.length ≤ _; have := T.len; omega) (by show l2.length ≤ _; have := T.len; omega) h h2
        rw [show sameD ⟨fr, to', l2⟩ ⟨fr, to', l2⟩ = true from decide_eq_true rfl] at this
        exact this)
      have DP := hidE (fun i (hi : i < l.length) w hA => rdepth_c l i a cap w (by omega) hi hA)
      have DP2 := hidE (fun a2 c2 i (hi : i < l2.length) w hA => rdepth_c l2 i a2 c2 w (by have := T.len; omega) hi hA)
      have hlen := T.len
      have HT := hidE T
      clear T he hf ht
      obtain ⟨b, off, rfl, _⟩ := hA (by omega)
      clear hA
      go_enter Tryd.func3, Tryd.ntmps3
      go_wp2_with fail
      ((with_reducible refine (NA.out _ _ _ HS0.out.T (HTAB.out.past HS0.out.bel)).mono ?_); rintro e w1 ⟨b2, o2, bk, ok, c2, ck, rfl, hA2, hK, hb1⟩)
      have HS1 := HS0.out.past hb1
      have HN := fun (A : Obj) (h : A = .cells #[.int .i64 fr, .int .i64 to', .slice (some ⟨b2, o2, none⟩) l2.length c2] 24) => hidE (show N2 W fr to' (some ⟨b, off, none⟩) l cap w1.heap.size (some ⟨b2, o2, none⟩) l2 c2 (some ⟨bk, ok, none⟩) k (w1.alloc A) from by
        subst h
        exact ⟨HS1.past (by (repeat (first | exact Below.refl _ _ | assumption | refine balloc ?_ _ | refine below_drewN ?_ _ | refine bstep (by assumption) ?_ | refine bstep (Past.prop _) ?_ | refine Below.setCell ?_ (by first | exact Nat.le_refl _ | (simp; done) | (simp; omega)) _))), Blk.made _ _ _, hA2.past (by (repeat (first | exact Below.refl _ _ | assumption | refine balloc ?_ _ | refine below_drewN ?_ _ | refine bstep (by assumption) ?_ | refine bstep (Past.prop _) ?_ | refine Below.setCell ?_ (by first | exact Nat.le_refl _ | (simp; done) | (simp; omega)) _))), hK.past (by (repeat (first | exact Below.refl _ _ | assumption | refine balloc ?_ _ | refine below_drewN ?_ _ | refine bstep (by assumption) ?_ | refine bstep (Past.prop _) ?_ | refine Below.setCell ?_ (by first | exact Nat.le_refl _ | (simp; done) | (simp; omega)) _)))⟩)
      clear HS0 HS1 hA2 hK hb1
      go_upto_region 4 with fail
      replace HN := HN _ rfl
      generalize World.alloc _ _ = w2 at *
      generalize w1.heap.size = p at *
      have p0 := HN.out.d.cell 0; have p1 := HN.out.d.cell 1; have p2 := HN.out.d.cell 2; have pz := HN.out.d.lt
      simp at p0 p1 p2
      go_wp2_with fail
      clear p0 p1 p2 pz
      ((with_reducible refine (CH.out _ HN.out.T).mono ?_); rintro e w3 ⟨rfl, hb3⟩)
      replace HN := hidE (HN.out.past hb3); clear hb3
      have p0 := HN.out.d2.cell 0; have p1 := HN.out.d2.cell 1; have p2 := HN.out.d2.cell 2; have pz := HN.out.d2.lt
      simp at p0 p1 p2
      go_wp2_with fail
      clear p0 p1 p2 pz
      ((with_reducible refine (CH2.out _ _ _ HN.out.T2).mono ?_); rintro e w4 ⟨rfl, hb4⟩)
      replace HN := hidE (HN.out.past hb4); clear hb4
      have p0 := HN.out.d2.cell 0; have p1 := HN.out.d2.cell 1; have p2 := HN.out.d2.cell 2; have pz := HN.out.d2.lt
      simp at p0 p1 p2
      go_wp2_with fail
      clear p0 p1 p2 pz
      ((with_reducible refine (NB.out _ _ _ HN.out.T2 (HTAB.out.past HN.out.bel)).mono ?_); rintro e w5 ⟨b3, o3, bm, om, c3, cm, rfl, hA3, hM, hb5⟩)
      have HN5 := HN.out.past hb5
      have HQ := fun (A : Obj) (h : A = .cells #[.int .i64 fr, .int .i64 to', .slice (some ⟨b3, o3, none⟩) l2.length c3] 24) => hidE (show N2 W fr to' (some ⟨b, off, none⟩) l cap p (some ⟨b2, o2, none⟩) l2 c2 (some ⟨bk, ok, none⟩) k (w5.alloc A) ∧ N2 W fr to' (some ⟨b, off, none⟩) l cap w5.heap.size (some ⟨b3, o3, none⟩) l2 c3 (some ⟨bm, om, none⟩) m (w5.alloc A) from by
        subst h
        exact ⟨HN5.past (by (repeat (first | exact Below.refl _ _ | assumption | refine balloc ?_ _ | refine below_drewN ?_ _ | refine bstep (by assumption) ?_ | refine bstep (Past.prop _) ?_ | refine Below.setCell ?_ (by first | exact Nat.le_refl _ | (simp; done) | (simp; omega)) _))), HN5.1.past (by (repeat (first | exact Below.refl _ _ | assumption | refine balloc ?_ _ | refine below_drewN ?_ _ | refine bstep (by assumption) ?_ | refine bstep (Past.prop _) ?_ | refine Below.setCell ?_ (by first | exact Nat.le_refl _ | (simp; done) | (simp; omega)) _))), Blk.made _ _ _, hA3.past (by (repeat (first | exact Below.refl _ _ | assumption | refine balloc ?_ _ | refine below_drewN ?_ _ | refine bstep (by assumption) ?_ | refine bstep (Past.prop _) ?_ | refine Below.setCell ?_ (by first | exact Nat.le_refl _ | (simp; done) | (simp; omega)) _))), hM.past (by (repeat (first | exact Below.refl _ _ | assumption | refine balloc ?_ _ | refine below_drewN ?_ _ | refine bstep (by assumption) ?_ | refine bstep (Past.prop _) ?_ | refine Below.setCell ?_ (by first | exact Nat.le_refl _ | (simp; done) | (simp; omega)) _)))⟩)
      clear HN HN5 hA3 hM hb5
      go_upto_region 9 with fail
      replace HQ := HQ _ rfl
      generalize World.alloc _ _ = w6 at *
      generalize w5.heap.size = q at *
      have p0 := HQ.out.1.d.cell 0; have p1 := HQ.out.1.d.cell 1; have p2 := HQ.out.1.d.cell 2; have pz := HQ.out.1.d.lt
      have r0 := HQ.out.1.d2.cell 0; have r1 := HQ.out.1.d2.cell 1; have r2 := HQ.out.1.d2.cell 2; have rz := HQ.out.1.d2.lt
      have s0 := HQ.out.2.d2.cell 0; have s1 := HQ.out.2.d2.cell 1; have s2 := HQ.out.2.d2.cell 2; have sz := HQ.out.2.d2.lt
      simp at p0 p1 p2 r0 r1 r2 s0 s1 s2
      have x1 : decide ((l2.length : Int) > (l.length : Int)) = false := decide_eq_false (by omega)
      have x1' : decide (l.length < l2.length) = false := decide_eq_false (by omega)
      have x2 : ((l2.length : Int) != (l2.length : Int)) = false := by simp
      have x3 : (fr != fr) = false := by simp
      have x4 : (to' != to') = false := by simp
      go_wp2_with fail
      clear p0 p1 p2 pz r0 r1 r2 rz s0 s1 s2 sz x1 x1' x2 x3 x4
      ((with_reducible refine (SM.out _ _ _ _ _ HQ.out.2.T2 HQ.out.1.T2).mono ?_); rintro e w7 ⟨rfl, hb7⟩)
      replace HQ := hidE (And.intro (HQ.out.1.past hb7) (HQ.out.2.past hb7)); clear hb7
      go_wp2_with fail
      go_loopg [13, 15] l.length (fun gh v13 v15 wr => ∃ i : Nat, i ≤ l.length ∧ l.length - i ≤ gh ∧ v15 = .int .i64 i ∧ v13 = .int .i64 (mxN (depthS l) i) ∧ N2 W fr to' (some ⟨b, off, none⟩) l cap p (some ⟨b2, o2, none⟩) l2 c2 (some ⟨bk, ok, none⟩) k wr ∧ N2 W fr to' (some ⟨b, off, none⟩) l cap q (some ⟨b3, o3, none⟩) l2 c3 (some ⟨bm, om, none⟩) m wr)
      case atStart => exact ⟨0, Nat.zero_le _, Nat.le_refl _, rfl, rfl, HQ.out.1, HQ.out.2⟩
      case round =>
        obtain ⟨i, hi, hgh, rfl, rfl, hst⟩ := hrel
        replace HQ := hidE hst; have HGH := hidE hgh
        clear hst hgh
        by_cases hlt : i < l.length
        · have r1 : decide ((i : Int) < (l.length : Int)) = true := decide_eq_true (by omega)
          have r2 : decide (i < l.length) = true := decide_eq_true hlt
          have p2 := HQ.out.1.d.cell 2; have pz := HQ.out.1.d.lt
          simp at p2
          have hmx : mxN (depthS l) i ≤ 64 ∧ depthS l i ≤ 64 := by
            refine ⟨mxN_le _ _ _ fun j hj => ?_, ?_⟩
            · have := depthS_small l j; omega
            · have := depthS_small l i; omega
          have HMX := hidE (show mxN (depthS l) (i + 1) = max (mxN (depthS l) i) (depthS l i) from rfl)
          go_wp2_with fail
          clear p2 pz
          ((with_reducible refine (DP.out i hlt _ HQ.out.1.T).mono ?_); rintro e w8 ⟨rfl, hb8⟩)
          replace HQ := hidE (And.intro (HQ.out.1.past hb8) (HQ.out.2.past hb8)); clear hb8
          generalize mxN (depthS l) i = mx at *
          generalize depthS l i = dx at *
          go_wp2_with fail
          all_goals
            go_roundg (l.length - (i + 1))
            case measure => have := HGH.out; omega
            case rel => exact ⟨i + 1, by omega, Nat.le_refl _, by go_num, by rw [HMX.out]; first | rfl | exact congrArg (Value.int .i64) (by first | omega | (split <;> omega)), HQ.out.1, HQ.out.2⟩
        · obtain rfl : i = l.length := by omega
          have r1 : decide ((l.length : Int) < (l.length : Int)) = false := decide_eq_false (by omega)
          have r2 : decide (l.length < l.length) = false := decide_eq_false (by omega)
          have p2 := HQ.out.1.d.cell 2; have pz := HQ.out.1.d.lt
          simp at p2
          go_wp2_with fail
          clear p2 pz r1 r2
          clear HGH DP CH CH2 NA NB SM
          go_loopg [14, 16] l2.length (fun gh v14 v16 wr => ∃ i : Nat, i ≤ l2.length ∧ l2.length - i ≤ gh ∧ v16 = .int .i64 i ∧ v14 = .int .i64 (mxN (depthS l2) i) ∧ N2 W fr to' (some ⟨b, off, none⟩) l cap p (some ⟨b2, o2, none⟩) l2 c2 (some ⟨bk, ok, none⟩) k wr ∧ N2 W fr to' (some ⟨b, off, none⟩) l cap q (some ⟨b3, o3, none⟩) l2 c3 (some ⟨bm, om, none⟩) m wr)
          case atStart => exact ⟨0, Nat.zero_le _, Nat.le_refl _, rfl, rfl, HQ.out.1, HQ.out.2⟩
          case round =>
            obtain ⟨i, hi, hgh, rfl, rfl, hst⟩ := hrel
            replace HQ := hidE hst; have HGH := hidE hgh
            clear hst hgh
            by_cases hlt : i < l2.length
            · have r1 : decide ((i : Int) < (l2.length : Int)) = true := decide_eq_true (by omega)
              have r2 : decide (i < l2.length) = true := decide_eq_true hlt
              have p2 := HQ.out.1.d2.cell 2; have pz := HQ.out.1.d2.lt
              simp at p2
              have hmx : mxN (depthS l2) i ≤ 64 ∧ depthS l2 i ≤ 64 := by
                refine ⟨mxN_le _ _ _ fun j hj => ?_, ?_⟩
                · have := depthS_small l2 j; omega
                · have := depthS_small l2 i; omega
              have HMX := hidE (show mxN (depthS l2) (i + 1) = max (mxN (depthS l2) i) (depthS l2 i) from rfl)
              go_wp2_with fail
              clear p2 pz
              ((with_reducible refine (DP2.out _ _ i hlt _ HQ.out.1.T2).mono ?_); rintro e w8 ⟨rfl, hb8⟩)
              replace HQ := hidE (And.intro (HQ.out.1.past hb8) (HQ.out.2.past hb8)); clear hb8
              generalize mxN (depthS l2) i = mx at *
              generalize depthS l2 i = dx at *
              have HFR := hidE (HT.out.frm i hlt)
              obtain ⟨kb, koff, ek, kz, kc⟩ := HQ.out.1.K (by rw [natsI_len, HT.out.klen]; omega)
              cases ek
              have kc0 := kc i (by rw [natsI_len, HT.out.klen]; exact hlt)
              rw [natsI_get (by rw [HT.out.klen]; exact hlt)] at kc0
              obtain ⟨mb, moff, em, mz, mc⟩ := HQ.out.2.K (by rw [natsI_len, HT.out.mlen]; omega)
              cases em
              have mc0 := mc i (by rw [natsI_len, HT.out.mlen]; exact hlt)
              rw [natsI_get (by rw [HT.out.mlen]; exact hlt), HT.out.self i hlt] at mc0
              obtain ⟨ki, hki⟩ : ∃ ki, k.getD i 0 = ki := ⟨_, rfl⟩
              have HKI := hidE hki
              rw [hki] at kc0 HFR
              have hkl := HFR.out.1
              clear hki kc mc
              have x1 : decide ((ki : Int) < 0) = false := decide_eq_false (by omega)
              have x2 : decide ((ki : Int) ≥ (l.length : Int)) = false := decide_eq_false (by omega)
              have x2' : decide (l.length ≤ ki) = false := decide_eq_false (by omega)
              have x3 : ((i : Int) != (i : Int)) = false := by simp
              have hsm : i ≤ 64 ∧ ki ≤ 64 := by omega
              have p2 := HQ.out.1.d.cell 2; have pz := HQ.out.1.d.lt
              simp at p2
              go_upto_region 20 with fail
              generalize hmz : (if mx < dx then (dx : Int) else (mx : Int)) = mv at *
              have HMZ := hidE (show mv = ((max mx dx : Nat) : Int) from by rw [← hmz]; split <;> omega)
              clear hmz
              refine wp_region_past_lit (by kernel_rfl) (by kernel_rfl) ?_
              have hcp := Past.cell (W := w8)
              repeat (go_big_quiet_step (fail))
              refine wpQuiet_nil ?_
              rintro _ ⟨x', rfl⟩
              replace HQ := hidE (And.intro (HQ.out.1.past x'.2) (HQ.out.2.past x'.2))
              replace kc0 := (x'.2.cell (p := ⟨bk, ok + i, none⟩) kz).trans kc0
              replace kz := Nat.lt_of_lt_of_le kz x'.2.size
              clear hcp p2 pz mc0 mz x1 x2 x2' x3
              generalize x'.1 = w9 at *
              have p2 := HQ.out.1.d.cell 2; have pz := HQ.out.1.d.lt
              have s2 := HQ.out.1.d2.cell 2; have sz := HQ.out.1.d2.lt
              simp at p2 s2
              obtain ⟨_, _, ed, dz, dc⟩ := HQ.out.1.T2 (by omega)
              cases ed
              obtain ⟨d0, d1, d2, d3, d4⟩ := dc.get hlt
              obtain ⟨_, _, ea, az, ac⟩ := HQ.out.1.T (by omega)
              cases ea
              obtain ⟨a0, a1, a2, a3, a4⟩ := ac.get hkl
              rw [HFR.out.2.1] at d0
              rw [HFR.out.2.2.1] at d1
              rw [HFR.out.2.2.2.1] at d2
              rw [HFR.out.2.2.2.2] at d3
              clear dc ac
              generalize l.getD ki pr0 = y at *
              generalize l2.getD i pr0 = x at *
              obtain ⟨yk, yn, yg, yd, ykids⟩ := y
              obtain ⟨xk, xn, xg, xd, xkids⟩ := x
              simp only at a0 a1 a2 a3 a4 d0 d1 d2 d3 d4
              have HX := hidE (fun (A B : Obj) (z z' : Int) (hA : A = .cells #[.int .u8 yk, .int .u32 yn, .int .u32 yg, .int .i64 yd, .int .i64 z] 36) (hB : B = .cells #[.int .u8 yk, .int .u32 yn, .int .u32 yg, .int .i64 yd, .int .i64 z'] 36) => show (N2 W fr to' (some ⟨b, off, none⟩) l cap p (some ⟨b2, o2, none⟩) l2 c2 (some ⟨bk, ok, none⟩) k ((w9.alloc A).alloc B).drew ∧ N2 W fr to' (some ⟨b, off, none⟩) l cap q (some ⟨b3, o3, none⟩) l2 c3 (some ⟨bm, om, none⟩) m ((w9.alloc A).alloc B).drew) ∧ Blk ((w9.alloc A).alloc B).drew w9.heap.size #[.int .u8 yk, .int .u32 yn, .int .u32 yg, .int .i64 yd, .int .i64 z] 36 ∧ Blk ((w9.alloc A).alloc B).drew (w9.heap.size + 1) #[.int .u8 yk, .int .u32 yn, .int .u32 yg, .int .i64 yd, .int .i64 z'] 36 from by
                subst hA hB
                refine ⟨⟨HQ.out.1.past (by (repeat (first | exact Below.refl _ _ | assumption | refine balloc ?_ _ | refine below_drewN ?_ _ | refine bstep (by assumption) ?_ | refine bstep (Past.prop _) ?_ | refine Below.setCell ?_ (by first | exact Nat.le_refl _ | (simp; done) | (simp; omega)) _))), HQ.out.2.past (by (repeat (first | exact Below.refl _ _ | assumption | refine balloc ?_ _ | refine below_drewN ?_ _ | refine bstep (by assumption) ?_ | refine bstep (Past.prop _) ?_ | refine Below.setCell ?_ (by first | exact Nat.le_refl _ | (simp; done) | (simp; omega)) _)))⟩, ?_, ?_⟩
                · exact blk_drw ((Blk.made _ _ _).alloc _)
                · exact blk_drw (Blk.made_at _ _ _ _ (by simp)))
              go_upto_region 22 with fail
              go_cut [17, 18] from 161 to 173 (fun s17 s18 wx => ∃ (x1 x2 : Nat) (z z' : Int), s17 = .pointer (some ⟨x1, 0, none⟩) ∧ s18 = .pointer (some ⟨x2, 0, none⟩) ∧ Blk wx x1 #[.int .u8 yk, .int .u32 yn, .int .u32 yg, .int .i64 yd, .int .i64 z] 36 ∧ Blk wx x2 #[.int .u8 yk, .int .u32 yn, .int .u32 yg, .int .i64 yd, .int .i64 z'] 36 ∧ N2 W fr to' (some ⟨b, off, none⟩) l cap p (some ⟨b2, o2, none⟩) l2 c2 (some ⟨bk, ok, none⟩) k wx ∧ N2 W fr to' (some ⟨b, off, none⟩) l cap q (some ⟨b3, o3, none⟩) l2 c3 (some ⟨bm, om, none⟩) m wx)
              case first =>
                go_region
                all_goals
                  go_wp2_with fail
                  go_meet
                  case rel =>
                    first
                    | exact ⟨_, _, xkids, ykids, rfl, rfl, (HX.out _ _ _ _ rfl rfl).2.1, (HX.out _ _ _ _ rfl rfl).2.2, (HX.out _ _ _ _ rfl rfl).1⟩
                    | exact ⟨_, _, xkids, ykids, rfl, rfl, (HX.out _ _ _ _ rfl rfl).2.2, (HX.out _ _ _ _ rfl rfl).2.1, (HX.out _ _ _ _ rfl rfl).1⟩
              clear d0 d1 d2 d3 d4 a0 a1 a2 a3 a4 kc0 p2 pz s2 sz HQ dz az kz HX
              obtain ⟨x1, x2, z, z', rfl, rfl, hx, hy, HQ0⟩ := hcut
              have HQ := hidE HQ0
              clear HQ0
              have e0 := hx.cell 0; have e1 := hx.cell 1; have e2 := hx.cell 2; have e3 := hx.cell 3; have ez := hx.lt
              have f0 := hy.cell 0; have f1 := hy.cell 1; have f2 := hy.cell 2; have f3 := hy.cell 3; have fz := hy.lt
              simp at e0 e1 e2 e3 f0 f1 f2 f3
              clear hx hy
              have t1 : ((yk : Int) != (yk : Int)) = false := by simp
              have t2 : ((yn : Int) != (yn : Int)) = false := by simp
              have t3 : ((yg : Int) != (yg : Int)) = false := by simp
              have t4 : (yd != yd) = false := by simp
              go_upto_region 24 with fail
              clear e0 e1 e2 e3 f0 f1 f2 f3 t1 t2 t3 t4 ez fz
              go_loopg [19] i (fun g3 v19 wx => ∃ j : Nat, j ≤ i ∧ i - j ≤ g3 ∧ v19 = .int .i64 j ∧ N2 W fr to' (some ⟨b, off, none⟩) l cap p (some ⟨b2, o2, none⟩) l2 c2 (some ⟨bk, ok, none⟩) k wx ∧ N2 W fr to' (some ⟨b, off, none⟩) l cap q (some ⟨b3, o3, none⟩) l2 c3 (some ⟨bm, om, none⟩) m wx)
              case atStart => exact ⟨0, Nat.zero_le _, Nat.le_refl _, rfl, HQ.out.1, HQ.out.2⟩
              case round =>
                obtain ⟨j, hj, hg3, rfl, hst⟩ := hrel
                replace HQ := hidE hst; have HG3 := hidE hg3
                clear hst hg3
                by_cases hjt : j < i
                · have s1 : decide ((j : Int) < (i : Int)) = true := decide_eq_true (by omega)
                  have s2 : decide (j < i) = true := decide_eq_true hjt
                  obtain ⟨kb, koff, ek, kz, kc⟩ := HQ.out.1.K (by rw [natsI_len, HT.out.klen]; omega)
                  cases ek
                  have kc0 := kc i (by rw [natsI_len, HT.out.klen]; exact hlt)
                  have kc1 := kc j (by rw [natsI_len, HT.out.klen]; omega)
                  rw [natsI_get (by rw [HT.out.klen]; exact hlt), HKI.out] at kc0
                  rw [natsI_get (by rw [HT.out.klen]; omega)] at kc1
                  have hne := HT.out.one i j hjt hlt
                  rw [HKI.out] at hne
                  clear kc
                  generalize k.getD j 0 = kj at *
                  have s3 : decide ((kj : Int) = (ki : Int)) = false := decide_eq_false (by omega)
                  have s3' : ((kj : Int) == (ki : Int)) = false := by simp; omega
                  go_upto_region 28 with fail
                  refine wp_region_past_lit (by kernel_rfl) (by kernel_rfl) ?_
                  have hcp := Past.cell (W := wr)
                  repeat (go_big_quiet_step (fail))
                  refine wpQuiet_nil ?_
                  rintro _ ⟨x', rfl⟩
                  replace HQ := hidE (And.intro (HQ.out.1.past x'.2) (HQ.out.2.past x'.2))
                  clear hcp kc0 kc1 kz
                  generalize x'.1 = w11 at *
                  go_wp2_with fail
                  go_roundg (i - (j + 1))
                  case measure => have := HG3.out; omega
                  case rel => exact ⟨j + 1, by omega, Nat.le_refl _, by go_num, HQ.out.1, HQ.out.2⟩
                · obtain rfl : j = i := by omega
                  have s1 : decide ((j : Int) < (j : Int)) = false := decide_eq_false (by omega)
                  have s2 : decide (j < j) = false := decide_eq_false (by omega)
                  go_wp2_with fail
                  go_roundg (l2.length - (j + 1))
                  case measure => have := HGH.out; omega
                  case rel => exact ⟨j + 1, by omega, Nat.le_refl _, by go_num, by first | (rw [HMX.out, ← HMZ.out]; done) | (rw [HMX.out, ← HMZ.out]; exact congrArg (Value.int IntKind.i64) (by have h2 := HMZ.out; omega)), HQ.out.1, HQ.out.2⟩
            · obtain rfl : i = l2.length := by omega
              have r1 : decide ((l2.length : Int) < (l2.length : Int)) = false := decide_eq_false (by omega)
              have r2 : decide (l2.length < l2.length) = false := decide_eq_false (by omega)
              have hd := HT.out.deep
              have s1 : decide (((mxN (depthS l2) l2.length : Nat) : Int) ≤ ((mxN (depthS l) l.length : Nat) : Int)) = true := decide_eq_true (by omega)
              have s2 : decide (mxN (depthS l2) l2.length ≤ mxN (depthS l) l.length) = true := decide_eq_true hd
              clear hd
              go_wp2_with fail
              ((with_reducible refine (head9_c _ (HTAB.out.past HQ.out.1.bel)).mono ?_); rintro e w9 ⟨rfl, hb9⟩)
              have HB := hidE (HQ.out.1.past hb9).bel
              clear hb9
              go_wp2
              go_ret
              exact ⟨rfl, HB.out⟩
    · have m1 : ((chkS fr to' l).2 != 0) = true := bne_iff_ne.2 he
      have NE := hidE (fun w hA => (norm_e fr to' l a cap w hl hA hf ht he).mono (fun e w' q => (⟨0, 0, none, 0, 0, .slice none 0 0, q.1, q.2⟩ : ∃ f t a' n' c' v, e = .returned (.tuple #[defV f t a' n' c', v, .int .i64 81]) ∧ Below w.heap.size w w')))
      clear he hf ht hA
      generalize chkS fr to' l = C at *
      obtain ⟨cx, cy⟩ := C
      simp only at m1
      go_enter Tryd.func3, Tryd.ntmps3
      go_wp2_with fail
      ((with_reducible refine (NE.out _ HS0.out.T).mono ?_); rintro e w1 ⟨f1, t1, a1, n1, c1, v1, rfl, hb1⟩)
      have HS1 := HS0.out.past hb1
      have HN := fun (A : Obj) => hidE (show N1 W fr to' a l cap (w1.alloc A) from HS1.past (by (repeat (first | exact Below.refl _ _ | assumption | refine balloc ?_ _ | refine below_drewN ?_ _ | refine bstep (by assumption) ?_ | refine bstep (Past.prop _) ?_ | refine Below.setCell ?_ (by first | exact Nat.le_refl _ | (simp; done) | (simp; omega)) _))))
      clear HS0 HS1 hb1
      go_upto_region 4 with fail
      replace HN := HN (.cells #[.int .i64 f1, .int .i64 t1, .slice a1 n1 c1] 24)
      generalize World.alloc _ _ = w2 at *
      have p0 := HN.out.d.cell 0; have p1 := HN.out.d.cell 1; have p2 := HN.out.d.cell 2; have pz := HN.out.d.lt
      simp at p0 p1 p2
      go_wp2_with fail
      clear p0 p1 p2 pz
      ((with_reducible refine (CH.out _ HN.out.T).mono ?_); rintro e w3 ⟨rfl, hb3⟩)
      replace HN := hidE (HN.out.past hb3); clear hb3
      go_wp2_with fail
      ((with_reducible refine (head9_c _ (HTAB.out.past HN.out.bel)).mono ?_); rintro e w4 ⟨rfl, hb4⟩)
      replace HN := hidE (HN.out.past hb4); clear hb4
      go_wp2
      go_ret
      exact ⟨rfl, HN.out.bel⟩
  · have q1 : decide ((l.length : Int) > 100) = true := decide_eq_true (by omega)
    have q2 : decide (100 < l.length) = true := decide_eq_true (by omega)
    go_enter Tryd.func3, Tryd.ntmps3
    go_wp2_with fail
    ((with_reducible refine (head9_c _ (HTAB.out.past HS0.out.bel)).mono ?_); rintro e w1 ⟨rfl, hb1⟩)
    have HN := hidE (HS0.out.past hb1)
    go_wp2
    go_ret
    exact ⟨rfl, HN.out.bel⟩
end Go.Proofs.YtkjpmhmlakmglaaDoor
