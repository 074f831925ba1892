/- The first reason why parts may not be: the reasons, and fault. No conditions but the machine's bounds. Check, wrong and end over the landed code. No conditions but the machine's bounds. end over the landed code, of parts that may be. No conditions but sizes. A range over a function: an iterator that keeps state of its own in cells, and the law for its caller. The caller's own variables lie below where the loop begins; the iterator's own, and the loop's book-keeping, at or beyond. Program-free. No conditions. A range over a function whose body keeps a block of its own, made in an earlier round (a slice that it appends to), and may leave the loop: an iterator's contract with that block named, and with what the iterator reads of the caller's, and the law for its caller. Program-free. No conditions. A range over a function that reads what the caller has (K), whose body may leave the loop in any way. Program-free. No conditions. The iterator that children hands back: it hands on the children's places, one after the other. No conditions but sizes, and that the parts may be. End and Atoms over the landed code. No conditions but sizes, and that the slices' cells read as parts. The contract of package shape's Kids. No conditions but sizes, and that the slice's cells read as parts. The normal form of a part: normalized. Conditions: the parts are those of a definition that may be, the tables. What the statement on a normal form asks, of the terms. No program. No conditions. The contract of package norm's Norm. Conditions: the slice reads as parts, the tables; for the normal form: the parts are those of a definition that may be. -/
import Derived.Test.YtioalnncjahlnaaGreatDoorPAGG
import Derived.RangeFuncRecord
import Derived.RangeFuncSeq
import Derived.Shelf.Abstract
import Derived.RangeFuncCalls
import Derived.OwnWalkIn
import Derived.Test.YtioalnncjahlnaaGreatDoorPAGB
namespace Go.Proofs.YtioalnncjahlnaaGreatDoor
open Go.ChangeShapes Go.WideShapes Go.ChangeAt Go.RowKit
attribute [local irreducible] Go.Calls

theorem run_store_fnS {P : Program} {w : World} {a : Addr} {m : Mode} {f : Fn} {l r : Array Value} : (store a (.func f l r) m).run P w = stored P w a (.func f l r) m := run_store P w a _ m rfl
attribute [local go_sem] run_store_fnS
abbrev rsC : Array Value := #[.func (.func 89) #[] #[], .int .i64 81, .func (.func 90) #[] #[], .int .i64 81, .func (.func 91) #[] #[], .int .i64 81, .func (.func 92) #[] #[], .int .i64 81, .func (.func 93) #[] #[], .int .i64 80]
theorem reasons8_c (w : World) : Calls Tryz.prog 70 #[] w fun e w' => e = .returned (.slice (some ⟨w.heap.size, 0, none⟩) 5 5) ∧ Blk w' w.heap.size rsC 138 ∧ Below w.heap.size w w' := by
  go_enter Tryz.func70, Tryz.ntmps70
  go_wp2
  go_ret
  exact ⟨rfl, Blk.made _ _ _, by (repeat (first | exact Below.refl _ _ | assumption | refine balloc ?_ _ | refine below_drewN ?_ _ | refine bstep (by assumption) ?_ | refine bstep (Past.prop _) ?_ | refine Below.setCell ?_ (by first | exact Nat.le_refl _ | (simp; done) | (simp; omega)) _))⟩
def prC (x : Prt) : Array Value := #[.int .u8 x.kind, .int .u32 x.n, .int .u32 x.g, .int .i64 x.d, .int .i64 x.kids]
set_option maxRecDepth 100000 in
set_option maxHeartbeats 4000000 in
theorem fault8_c (l : List Prt) (a : Option Addr) (cap : Nat) (w : World) (hl : l.length ≤ 9223372036854775807) (hA : ArgP w a l) :
    Calls Tryz.prog 51 #[.slice a l.length cap] w fun e w' => e = .returned (.tuple #[.int .i64 (treeS l).1, .int .i64 (treeS l).2]) ∧ Below w.heap.size w w' := by
  have HA := hidE hA
  have HL := hidE hl
  clear hA
  go_enter Tryz.func51, Tryz.ntmps51
  go_wp2_with (go_at_call 70; (with_reducible refine (reasons8_c _).mono ?_); rintro e w1 ⟨rfl, hB0, hb1⟩; have HB0 := hidE hB0; have HB1 := hidE hb1; have hz1 := hB0.lt; clear hB0 hb1)
  have hS0 := Blk.made_at w1 spZ 135 w1.heap.size rfl
  have HR0 := hidE (HB0.out.alloc (.cells spZ 135))
  have HW0 := hidE (HB1.out.alloc HB1.out.size (.cells spZ 135))
  have HS0 := hidE (show Blk (w1.alloc (.cells spZ 135)) w1.heap.size (spC 0 0 fun _ => (0, 0)) 135 from hS0)
  clear hS0
  generalize w1.alloc (Obj.cells spZ 135) = w2 at *
  go_loopg [13] l.length (fun gh v13 wr => ∃ (k d : Nat) (O : Nat → Nat × Nat), k ≤ l.length ∧ l.length - k ≤ gh ∧ v13 = .int .i64 k ∧ AtS l k d O ∧ k ≤ 64 ∧ Blk wr w.heap.size rsC 138 ∧ Blk wr w1.heap.size (spC k d O) 135 ∧ Below w.heap.size w wr)
  case atStart => exact ⟨0, 0, _, Nat.zero_le _, Nat.le_refl _, rfl, at_start l, by omega, HR0.out, HS0.out, HW0.out⟩
  case round =>
    obtain ⟨k, d, O, hkk, hgh, rfl, hat, hk64, HR, HS, hb⟩ := hrel
    by_cases hlt : k < l.length
    · obtain ⟨b, off, rfl, hbb, hc⟩ := (HA.out.past hb) (by omega)
      obtain ⟨c0, c1, c2, c3, c4⟩ := hc.get hlt
      rw [show l.getD k pr0 = l.getD k ⟨0, 0, 0, 0, 0⟩ from rfl] at c0 c1 c2 c3 c4
      have r1 : decide ((k : Int) < (l.length : Int)) = true := decide_eq_true (by omega)
      have r2 : decide (k < l.length) = true := decide_eq_true hlt
      have hd8 := hat.le
      have HRE := hidE (at_reas hat hlt)
      have HNX := hidE (at_next hat hlt)
      have HAT := hidE hat
      have HG := hidE (And.intro hgh hkk)
      have z1 := HR.lt; have z2 := HS.lt
      have HM := hidE (And.intro HR (And.intro HS hb))
      clear hgh hkk hat hc HR HS hb HR0 HS0 HW0 HB0 HB1
      generalize (l.getD k ⟨0, 0, 0, 0, 0⟩) = x at *
      go_upto_region 6 with fail
      obtain ⟨HR, HS, hb⟩ := HM.out
      have HP := Blk.made wr (prC x) 35
      replace HR := HR.alloc (.cells (prC x) 35)
      replace HS := HS.alloc (.cells (prC x) 35)
      replace hb := hb.alloc hb.size (.cells (prC x) 35)
      have hzr := hbb
      change Blk (wr.alloc (.cells #[.int .u8 x.kind, .int .u32 x.n, .int .u32 x.g, .int .i64 x.d, .int .i64 x.kids] 35)) _ _ _ at HR
      change Blk (wr.alloc (.cells #[.int .u8 x.kind, .int .u32 x.n, .int .u32 x.g, .int .i64 x.d, .int .i64 x.kids] 35)) _ _ _ at HS
      change Blk (wr.alloc (.cells #[.int .u8 x.kind, .int .u32 x.n, .int .u32 x.g, .int .i64 x.d, .int .i64 x.kids] 35)) _ (prC x) _ at HP
      change Below _ _ (wr.alloc (.cells #[.int .u8 x.kind, .int .u32 x.n, .int .u32 x.g, .int .i64 x.d, .int .i64 x.kids] 35)) at hb
      generalize wr.alloc (.cells #[.int .u8 x.kind, .int .u32 x.n, .int .u32 x.g, .int .i64 x.d, .int .i64 x.kids] 35) = w3 at *
      have HM3 := hidE (And.intro HR (And.intro HS (And.intro HP hb)))
      clear HM HR HS HP hb c0 c1 c2 c3 c4
      generalize wr.heap.size = q at *
      go_wp2_with fail
      go_loopg [19] 5 (fun gh v19 wi => ∃ j : Nat, j ≤ 5 ∧ 5 - j ≤ gh ∧ v19 = .int .i64 j ∧ (∀ i, i < j → reasS k d O x i = false) ∧ Blk wi w.heap.size rsC 138 ∧ Blk wi w1.heap.size (spC k d O) 135 ∧ Blk wi q (prC x) 35 ∧ Below w.heap.size w wi)
      case atStart =>
        obtain ⟨HR, HS, HP, hb⟩ := HM3.out
        exact ⟨0, Nat.zero_le _, Nat.le_refl _, rfl, fun i h => by omega, HR, HS, HP, hb⟩
      case round =>
        obtain ⟨j, hj5, hgi, rfl, hfa, HR, HS, HP, hb⟩ := hrel
        clear HM3
        by_cases hj : j < 5
        · have HGI := hidE (And.intro hgi hfa)
          clear hgi hfa
          rcases (show j = 0 ∨ j = 1 ∨ j = 2 ∨ j = 3 ∨ j = 4 by omega) with rfl | rfl | rfl | rfl | rfl
          · have g0 : wr.cell? ⟨w.heap.size, 0, none⟩ = some (.func (.func 89) #[] #[]) := HR.cell 0
            have g1 : wr.cell? ⟨w.heap.size, 1, none⟩ = some (.int .i64 81) := HR.cell 1
            have p0 : wr.cell? ⟨q, 0, none⟩ = some (.int .u8 x.kind) := HP.cell 0; have p1 : wr.cell? ⟨q, 1, none⟩ = some (.int .u32 x.n) := HP.cell 1; have p2 : wr.cell? ⟨q, 2, none⟩ = some (.int .u32 x.g) := HP.cell 2; have p3 : wr.cell? ⟨q, 3, none⟩ = some (.int .i64 x.d) := HP.cell 3; have p4 : wr.cell? ⟨q, 4, none⟩ = some (.int .i64 x.kids) := HP.cell 4
            have z1 := HR.lt; have z2 := HS.lt; have z3 := HP.lt
            have HC := hidE (fun W => rea0_c k d O x W)
            have HN := hidE (Blk.made wr #[.func (.func 89) #[] #[], .int .i64 81] 138)
            have H := hidE (And.intro (HR.alloc (.cells #[.func (.func 89) #[] #[], .int .i64 81] 138)) (And.intro (HS.alloc (.cells #[.func (.func 89) #[] #[], .int .i64 81] 138)) (And.intro (HP.alloc (.cells #[.func (.func 89) #[] #[], .int .i64 81] 138)) (hb.alloc hb.size (.cells #[.func (.func 89) #[] #[], .int .i64 81] 138)))))
            clear HR HS HP hb
            go_upto_region 9 with fail
            obtain ⟨ds, hu, hd⟩ := Tryz.undSpot
            iterate 7 go_step
            refine wpList_load_mid rfl 135 (.tmp 5) rfl w1.heap.size 0 rfl (spC k d O).toList ds H.out.2.1.range hu hd Tryz.infoSpot ?_
            clear hu hd
            go_wp2_with fail
            ((with_reducible refine (HC.out _).mono ?_); rintro e wc ⟨rfl, hbc⟩)
            have y0 : wc.cell? ⟨w1.heap.size, 0, none⟩ = some (.int .i64 k) := (H.out.2.1.past hbc).cell 0
            have y1 : wc.cell? ⟨wr.heap.size, 1, none⟩ = some (.int .i64 81) := (HN.out.past hbc).cell 1
            have HF := hidE (And.intro (H.out.1.past hbc) (And.intro (H.out.2.1.past hbc) (And.intro (H.out.2.2.1.past hbc) (H.out.2.2.2.trans (hbc.mono H.out.2.2.2.size)))))
            have v1 := HF.out.1.lt; have v2 := HF.out.2.1.lt; have v3 := (HN.out.past hbc).lt
            clear H HN hbc g0 g1 p0 p1 p2 p3 p4 z1 z2 z3 HC
            cases hv : reasS k d O x 0 with
            | true =>
              have HRES := hidE (HRE.out 0 (by omega) HGI.out.2 hv)
              clear hv
              go_upto_region 10 with fail
              go_quiet (fail)
              go_wp2
              refine bodyPost_ret (v := .tuple #[.int .i64 k, .int .i64 81]) (by simp [results, Tryz.results51, go_sem]) rfl ⟨by rw [HRES.out]; rfl, below_drewN HF.out.2.2.2 _⟩
            | false =>
              go_wp2_with fail
              go_roundg (5 - 1)
              case measure => have := HGI.out.1; omega
              case rel => exact ⟨1, by omega, Nat.le_refl _, by go_num, fun i hi => by
                  by_cases c : i < 0
                  · exact HGI.out.2 i c
                  · rw [show i = 0 by omega]; exact hv, HF.out.1, HF.out.2.1, HF.out.2.2.1, HF.out.2.2.2⟩
          · have g0 : wr.cell? ⟨w.heap.size, 2, none⟩ = some (.func (.func 90) #[] #[]) := HR.cell 2
            have g1 : wr.cell? ⟨w.heap.size, 3, none⟩ = some (.int .i64 81) := HR.cell 3
            have p0 : wr.cell? ⟨q, 0, none⟩ = some (.int .u8 x.kind) := HP.cell 0; have p1 : wr.cell? ⟨q, 1, none⟩ = some (.int .u32 x.n) := HP.cell 1; have p2 : wr.cell? ⟨q, 2, none⟩ = some (.int .u32 x.g) := HP.cell 2; have p3 : wr.cell? ⟨q, 3, none⟩ = some (.int .i64 x.d) := HP.cell 3; have p4 : wr.cell? ⟨q, 4, none⟩ = some (.int .i64 x.kids) := HP.cell 4
            have z1 := HR.lt; have z2 := HS.lt; have z3 := HP.lt
            have HC := hidE (fun W => rea1_c k d O x W)
            have HN := hidE (Blk.made wr #[.func (.func 90) #[] #[], .int .i64 81] 138)
            have H := hidE (And.intro (HR.alloc (.cells #[.func (.func 90) #[] #[], .int .i64 81] 138)) (And.intro (HS.alloc (.cells #[.func (.func 90) #[] #[], .int .i64 81] 138)) (And.intro (HP.alloc (.cells #[.func (.func 90) #[] #[], .int .i64 81] 138)) (hb.alloc hb.size (.cells #[.func (.func 90) #[] #[], .int .i64 81] 138)))))
            clear HR HS HP hb
            go_upto_region 9 with fail
            obtain ⟨ds, hu, hd⟩ := Tryz.undSpot
            iterate 7 go_step
            refine wpList_load_mid rfl 135 (.tmp 5) rfl w1.heap.size 0 rfl (spC k d O).toList ds H.out.2.1.range hu hd Tryz.infoSpot ?_
            clear hu hd
            go_wp2_with fail
            ((with_reducible refine (HC.out _).mono ?_); rintro e wc ⟨rfl, hbc⟩)
            have y0 : wc.cell? ⟨w1.heap.size, 0, none⟩ = some (.int .i64 k) := (H.out.2.1.past hbc).cell 0
            have y1 : wc.cell? ⟨wr.heap.size, 1, none⟩ = some (.int .i64 81) := (HN.out.past hbc).cell 1
            have HF := hidE (And.intro (H.out.1.past hbc) (And.intro (H.out.2.1.past hbc) (And.intro (H.out.2.2.1.past hbc) (H.out.2.2.2.trans (hbc.mono H.out.2.2.2.size)))))
            have v1 := HF.out.1.lt; have v2 := HF.out.2.1.lt; have v3 := (HN.out.past hbc).lt
            clear H HN hbc g0 g1 p0 p1 p2 p3 p4 z1 z2 z3 HC
            cases hv : reasS k d O x 1 with
            | true =>
              have HRES := hidE (HRE.out 1 (by omega) HGI.out.2 hv)
              clear hv
              go_upto_region 10 with fail
              go_quiet (fail)
              go_wp2
              refine bodyPost_ret (v := .tuple #[.int .i64 k, .int .i64 81]) (by simp [results, Tryz.results51, go_sem]) rfl ⟨by rw [HRES.out]; rfl, below_drewN HF.out.2.2.2 _⟩
            | false =>
              go_wp2_with fail
              go_roundg (5 - 2)
              case measure => have := HGI.out.1; omega
              case rel => exact ⟨2, by omega, Nat.le_refl _, by go_num, fun i hi => by
                  by_cases c : i < 1
                  · exact HGI.out.2 i c
                  · rw [show i = 1 by omega]; exact hv, HF.out.1, HF.out.2.1, HF.out.2.2.1, HF.out.2.2.2⟩
          · have g0 : wr.cell? ⟨w.heap.size, 4, none⟩ = some (.func (.func 91) #[] #[]) := HR.cell 4
            have g1 : wr.cell? ⟨w.heap.size, 5, none⟩ = some (.int .i64 81) := HR.cell 5
            have p0 : wr.cell? ⟨q, 0, none⟩ = some (.int .u8 x.kind) := HP.cell 0; have p1 : wr.cell? ⟨q, 1, none⟩ = some (.int .u32 x.n) := HP.cell 1; have p2 : wr.cell? ⟨q, 2, none⟩ = some (.int .u32 x.g) := HP.cell 2; have p3 : wr.cell? ⟨q, 3, none⟩ = some (.int .i64 x.d) := HP.cell 3; have p4 : wr.cell? ⟨q, 4, none⟩ = some (.int .i64 x.kids) := HP.cell 4
            have z1 := HR.lt; have z2 := HS.lt; have z3 := HP.lt
            have HC := hidE (fun W => rea2_c k d O x W)
            have HN := hidE (Blk.made wr #[.func (.func 91) #[] #[], .int .i64 81] 138)
            have H := hidE (And.intro (HR.alloc (.cells #[.func (.func 91) #[] #[], .int .i64 81] 138)) (And.intro (HS.alloc (.cells #[.func (.func 91) #[] #[], .int .i64 81] 138)) (And.intro (HP.alloc (.cells #[.func (.func 91) #[] #[], .int .i64 81] 138)) (hb.alloc hb.size (.cells #[.func (.func 91) #[] #[], .int .i64 81] 138)))))
            clear HR HS HP hb
            go_upto_region 9 with fail
            obtain ⟨ds, hu, hd⟩ := Tryz.undSpot
            iterate 7 go_step
            refine wpList_load_mid rfl 135 (.tmp 5) rfl w1.heap.size 0 rfl (spC k d O).toList ds H.out.2.1.range hu hd Tryz.infoSpot ?_
            clear hu hd
            go_wp2_with fail
            ((with_reducible refine (HC.out _).mono ?_); rintro e wc ⟨rfl, hbc⟩)
            have y0 : wc.cell? ⟨w1.heap.size, 0, none⟩ = some (.int .i64 k) := (H.out.2.1.past hbc).cell 0
            have y1 : wc.cell? ⟨wr.heap.size, 1, none⟩ = some (.int .i64 81) := (HN.out.past hbc).cell 1
            have HF := hidE (And.intro (H.out.1.past hbc) (And.intro (H.out.2.1.past hbc) (And.intro (H.out.2.2.1.past hbc) (H.out.2.2.2.trans (hbc.mono H.out.2.2.2.size)))))
            have v1 := HF.out.1.lt; have v2 := HF.out.2.1.lt; have v3 := (HN.out.past hbc).lt
            clear H HN hbc g0 g1 p0 p1 p2 p3 p4 z1 z2 z3 HC
            cases hv : reasS k d O x 2 with
            | true =>
              have HRES := hidE (HRE.out 2 (by omega) HGI.out.2 hv)
              clear hv
              go_upto_region 10 with fail
              go_quiet (fail)
              go_wp2
              refine bodyPost_ret (v := .tuple #[.int .i64 k, .int .i64 81]) (by simp [results, Tryz.results51, go_sem]) rfl ⟨by rw [HRES.out]; rfl, below_drewN HF.out.2.2.2 _⟩
            | false =>
              go_wp2_with fail
              go_roundg (5 - 3)
              case measure => have := HGI.out.1; omega
              case rel => exact ⟨3, by omega, Nat.le_refl _, by go_num, fun i hi => by
                  by_cases c : i < 2
                  · exact HGI.out.2 i c
                  · rw [show i = 2 by omega]; exact hv, HF.out.1, HF.out.2.1, HF.out.2.2.1, HF.out.2.2.2⟩
          · have g0 : wr.cell? ⟨w.heap.size, 6, none⟩ = some (.func (.func 92) #[] #[]) := HR.cell 6
            have g1 : wr.cell? ⟨w.heap.size, 7, none⟩ = some (.int .i64 81) := HR.cell 7
            have p0 : wr.cell? ⟨q, 0, none⟩ = some (.int .u8 x.kind) := HP.cell 0; have p1 : wr.cell? ⟨q, 1, none⟩ = some (.int .u32 x.n) := HP.cell 1; have p2 : wr.cell? ⟨q, 2, none⟩ = some (.int .u32 x.g) := HP.cell 2; have p3 : wr.cell? ⟨q, 3, none⟩ = some (.int .i64 x.d) := HP.cell 3; have p4 : wr.cell? ⟨q, 4, none⟩ = some (.int .i64 x.kids) := HP.cell 4
            have z1 := HR.lt; have z2 := HS.lt; have z3 := HP.lt
            have HC := hidE (fun W => rea3_c k d O x W hd8)
            have HN := hidE (Blk.made wr #[.func (.func 92) #[] #[], .int .i64 81] 138)
            have H := hidE (And.intro (HR.alloc (.cells #[.func (.func 92) #[] #[], .int .i64 81] 138)) (And.intro (HS.alloc (.cells #[.func (.func 92) #[] #[], .int .i64 81] 138)) (And.intro (HP.alloc (.cells #[.func (.func 92) #[] #[], .int .i64 81] 138)) (hb.alloc hb.size (.cells #[.func (.func 92) #[] #[], .int .i64 81] 138)))))
            clear HR HS HP hb
            go_upto_region 9 with fail
            obtain ⟨ds, hu, hd⟩ := Tryz.undSpot
            iterate 7 go_step
            refine wpList_load_mid rfl 135 (.tmp 5) rfl w1.heap.size 0 rfl (spC k d O).toList ds H.out.2.1.range hu hd Tryz.infoSpot ?_
            clear hu hd
            go_wp2_with fail
            ((with_reducible refine (HC.out _).mono ?_); rintro e wc ⟨rfl, hbc⟩)
            have y0 : wc.cell? ⟨w1.heap.size, 0, none⟩ = some (.int .i64 k) := (H.out.2.1.past hbc).cell 0
            have y1 : wc.cell? ⟨wr.heap.size, 1, none⟩ = some (.int .i64 81) := (HN.out.past hbc).cell 1
            have HF := hidE (And.intro (H.out.1.past hbc) (And.intro (H.out.2.1.past hbc) (And.intro (H.out.2.2.1.past hbc) (H.out.2.2.2.trans (hbc.mono H.out.2.2.2.size)))))
            have v1 := HF.out.1.lt; have v2 := HF.out.2.1.lt; have v3 := (HN.out.past hbc).lt
            clear H HN hbc g0 g1 p0 p1 p2 p3 p4 z1 z2 z3 HC
            cases hv : reasS k d O x 3 with
            | true =>
              have HRES := hidE (HRE.out 3 (by omega) HGI.out.2 hv)
              clear hv
              go_upto_region 10 with fail
              go_quiet (fail)
              go_wp2
              refine bodyPost_ret (v := .tuple #[.int .i64 k, .int .i64 81]) (by simp [results, Tryz.results51, go_sem]) rfl ⟨by rw [HRES.out]; rfl, below_drewN HF.out.2.2.2 _⟩
            | false =>
              go_wp2_with fail
              go_roundg (5 - 4)
              case measure => have := HGI.out.1; omega
              case rel => exact ⟨4, by omega, Nat.le_refl _, by go_num, fun i hi => by
                  by_cases c : i < 3
                  · exact HGI.out.2 i c
                  · rw [show i = 3 by omega]; exact hv, HF.out.1, HF.out.2.1, HF.out.2.2.1, HF.out.2.2.2⟩
          · have g0 : wr.cell? ⟨w.heap.size, 8, none⟩ = some (.func (.func 93) #[] #[]) := HR.cell 8
            have g1 : wr.cell? ⟨w.heap.size, 9, none⟩ = some (.int .i64 80) := HR.cell 9
            have p0 : wr.cell? ⟨q, 0, none⟩ = some (.int .u8 x.kind) := HP.cell 0; have p1 : wr.cell? ⟨q, 1, none⟩ = some (.int .u32 x.n) := HP.cell 1; have p2 : wr.cell? ⟨q, 2, none⟩ = some (.int .u32 x.g) := HP.cell 2; have p3 : wr.cell? ⟨q, 3, none⟩ = some (.int .i64 x.d) := HP.cell 3; have p4 : wr.cell? ⟨q, 4, none⟩ = some (.int .i64 x.kids) := HP.cell 4
            have z1 := HR.lt; have z2 := HS.lt; have z3 := HP.lt
            have HC := hidE (fun W => rea4_c k d O x W)
            have HN := hidE (Blk.made wr #[.func (.func 93) #[] #[], .int .i64 80] 138)
            have H := hidE (And.intro (HR.alloc (.cells #[.func (.func 93) #[] #[], .int .i64 80] 138)) (And.intro (HS.alloc (.cells #[.func (.func 93) #[] #[], .int .i64 80] 138)) (And.intro (HP.alloc (.cells #[.func (.func 93) #[] #[], .int .i64 80] 138)) (hb.alloc hb.size (.cells #[.func (.func 93) #[] #[], .int .i64 80] 138)))))
            clear HR HS HP hb
            go_upto_region 9 with fail
            obtain ⟨ds, hu, hd⟩ := Tryz.undSpot
            iterate 7 go_step
            refine wpList_load_mid rfl 135 (.tmp 5) rfl w1.heap.size 0 rfl (spC k d O).toList ds H.out.2.1.range hu hd Tryz.infoSpot ?_
            clear hu hd
            go_wp2_with fail
            ((with_reducible refine (HC.out _).mono ?_); rintro e wc ⟨rfl, hbc⟩)
            have y0 : wc.cell? ⟨w1.heap.size, 0, none⟩ = some (.int .i64 k) := (H.out.2.1.past hbc).cell 0
            have y1 : wc.cell? ⟨wr.heap.size, 1, none⟩ = some (.int .i64 80) := (HN.out.past hbc).cell 1
            have HF := hidE (And.intro (H.out.1.past hbc) (And.intro (H.out.2.1.past hbc) (And.intro (H.out.2.2.1.past hbc) (H.out.2.2.2.trans (hbc.mono H.out.2.2.2.size)))))
            have v1 := HF.out.1.lt; have v2 := HF.out.2.1.lt; have v3 := (HN.out.past hbc).lt
            clear H HN hbc g0 g1 p0 p1 p2 p3 p4 z1 z2 z3 HC
            cases hv : reasS k d O x 4 with
            | true =>
              have HRES := hidE (HRE.out 4 (by omega) HGI.out.2 hv)
              clear hv
              go_upto_region 10 with fail
              go_quiet (fail)
              go_wp2
              refine bodyPost_ret (v := .tuple #[.int .i64 k, .int .i64 80]) (by simp [results, Tryz.results51, go_sem]) rfl ⟨by rw [HRES.out]; rfl, below_drewN HF.out.2.2.2 _⟩
            | false =>
              go_wp2_with fail
              go_roundg (5 - 5)
              case measure => have := HGI.out.1; omega
              case rel => exact ⟨5, by omega, Nat.le_refl _, by go_num, fun i hi => by
                  by_cases c : i < 4
                  · exact HGI.out.2 i c
                  · rw [show i = 4 by omega]; exact hv, HF.out.1, HF.out.2.1, HF.out.2.2.1, HF.out.2.2.2⟩
        · obtain rfl : j = 5 := by omega
          have hall := hfa
          obtain ⟨hk6, hd7, hnx⟩ := HNX.out hfa
          have p0 : wr.cell? ⟨q, 0, none⟩ = some (.int .u8 x.kind) := HP.cell 0; have p1 : wr.cell? ⟨q, 1, none⟩ = some (.int .u32 x.n) := HP.cell 1; have p2 : wr.cell? ⟨q, 2, none⟩ = some (.int .u32 x.g) := HP.cell 2; have p3 : wr.cell? ⟨q, 3, none⟩ = some (.int .i64 x.d) := HP.cell 3; have p4 : wr.cell? ⟨q, 4, none⟩ = some (.int .i64 x.kids) := HP.cell 4
          have z1 := HR.lt; have z2 := HS.lt; have z3 := HP.lt
          have hbad := hfa 2 (by omega)
          have HC := hidE (fun W => beh8_c k d O x W (by omega) hd8 (fun _ => hd7) HAT.out.top HAT.out.num (bad_kids hbad))
          have HNE := hidE hnx
          have H := hidE (And.intro HR (And.intro HS hb))
          clear HR HS HP hb hfa hall hnx hbad
          obtain ⟨ds, hu, hd⟩ := Tryz.undSpot
          go_upto_region 12 with fail
          go_step
          refine wpList_load_mid rfl 135 (.tmp 5) rfl w1.heap.size 0 rfl (spC k d O).toList ds H.out.2.1.range hu hd Tryz.infoSpot ?_
          clear hu hd
          go_wp2_with fail
          ((with_reducible refine (HC.out _).mono ?_); rintro e wc ⟨rfl, hbc⟩)
          dsimp only
          go_step
          have HS' := H.out.2.1.past hbc
          have HR' := (H.out.1.past hbc).setCells_other (b := w1.heap.size) (by omega) (spC (k + 1) (popN (nextO d O x) (nextD d x)) (nextO d O x)).toList 0
          have hb' := below_setCells (H.out.2.2.trans (hbc.mono H.out.2.2.size)) (show w.heap.size ≤ w1.heap.size by omega) (spC (k + 1) (popN (nextO d O x) (nextD d x)) (nextO d O x)).toList 0
          refine wpList_store_mid rfl 135 (.tmp 5) (.tmp 35) rfl w1.heap.size 0 (spC (k + 1) (popN (nextO d O x) (nextD d x)) (nextO d O x)) rfl rfl HS'.there Tryz.infoSpot (spC_one _ _ _) ?_
          replace HS' := spC_all k d (k + 1) (popN (nextO d O x) (nextD d x)) O (nextO d O x) ▸ HS'.setCells (spC (k + 1) (popN (nextO d O x) (nextD d x)) (nextO d O x)).toList 0
          generalize World.setCells wc _ _ _ = wn at *
          have HF := hidE (And.intro HR' (And.intro HS' hb'))
          clear HR' HS' hb' H hbc HC
          generalize popN (nextO d O x) (nextD d x) = d2 at *
          generalize nextO d O x = O2 at *
          go_wp2_with fail
          go_roundg (l.length - (k + 1))
          case measure => have := HG.out; omega
          case rel => exact ⟨k + 1, d2, O2, by omega, Nat.le_refl _, by go_num, HNE.out, by omega, HF.out.1, HF.out.2.1, HF.out.2.2⟩
    · obtain rfl : k = l.length := by omega
      have r1 : decide ((l.length : Int) < (l.length : Int)) = false := decide_eq_false (by omega)
      have r2 : decide (l.length < l.length) = false := decide_eq_false (by omega)
      have HE := hidE (at_end hat rfl)
      have s0 : wr.cell? ⟨w1.heap.size, 0, none⟩ = some (.int .i64 l.length) := HS.cell 0
      have s1 : wr.cell? ⟨w1.heap.size, 1, none⟩ = some (.int .i64 d) := HS.cell 1
      have z1 := HS.lt
      have HB := hidE hb
      clear hat HR HS hb hgh HR0 HS0 HW0 HB0 HB1
      by_cases c0 : l.length = 0
      · have q1 : ((l.length : Int) == 0) = true := by rw [c0]; rfl
        rw [if_pos (.inl c0)] at HE
        clear c0
        go_wp2
        refine bodyPost_ret (v := .tuple #[.int .i64 l.length, .int .i64 81]) (by simp [results, Tryz.results51, go_sem]) rfl ⟨by rw [HE.out], HB.out⟩
      · have q1 : ((l.length : Int) == 0) = false := beq_eq_false_iff_ne.2 (by omega)
        by_cases c1 : 0 < d
        · have q2 : decide ((d : Int) > 0) = true := decide_eq_true (by omega)
          have q3 : decide (0 < d) = true := decide_eq_true c1
          rw [if_pos (.inr c1)] at HE
          go_wp2
          refine bodyPost_ret (v := .tuple #[.int .i64 l.length, .int .i64 81]) (by simp [results, Tryz.results51, go_sem]) rfl ⟨by rw [HE.out], HB.out⟩
        · have q2 : decide ((d : Int) > 0) = false := decide_eq_false (by omega)
          have q3 : decide (0 < d) = false := decide_eq_false c1
          rw [if_neg (by omega)] at HE
          go_wp2
          refine bodyPost_ret (v := .tuple #[.int .i64 0, .int .i64 0]) (by simp [results, Tryz.results51, go_sem]) rfl ⟨by rw [HE.out]; rfl, HB.out⟩
end Go.Proofs.YtioalnncjahlnaaGreatDoor

namespace Go.Proofs.YtioalnncjahlnaaGreatDoor
open Go.ChangeShapes Go.WideShapes Go.ChangeAt Go.RowKit
attribute [local irreducible] Go.Calls

def win8B (fr to' : Int) : Bool := decide (0 ≤ fr ∧ fr < to' ∧ to' ≤ 1099511627776 ∧ to' - fr ≤ 4096)
theorem window8_c (fr to' : Int) (w : World) (hf : -9223372036854775808 ≤ fr ∧ fr ≤ 9223372036854775807) (ht : -9223372036854775808 ≤ to' ∧ to' ≤ 9223372036854775807) :
    Calls Tryz.prog 50 #[.int .i64 fr, .int .i64 to'] w fun e w' => e = .returned (.bool (win8B fr to')) ∧ Below w.heap.size w w' := by
  by_cases h0 : 0 ≤ fr ∧ fr < to'
  · have q : IntKind.i64.wrap (to' - fr) = to' - fr := IntWalk.i64_in _ (by omega)
    have q0 : decide (0 ≤ fr) = true := decide_eq_true h0.1
    have q1 : decide (fr < to') = true := decide_eq_true h0.2
    have HE := hidE (show win8B fr to' = decide (to' ≤ 1099511627776 ∧ to' - fr ≤ 4096) by unfold win8B; simp [h0])
    rw [HE.out]
    clear HE h0
    go_enter Tryz.func50, Tryz.ntmps50
    go_wp2
    all_goals
      go_ret
      refine ⟨ret_bool ?_, by (repeat (first | exact Below.refl _ _ | assumption | refine balloc ?_ _ | refine below_drewN ?_ _ | refine bstep (by assumption) ?_ | refine bstep (Past.prop _) ?_ | refine Below.setCell ?_ (by first | exact Nat.le_refl _ | (simp; done) | (simp; omega)) _))⟩
      first | (symm; rw [Bool.and_eq_false_iff]; simp only [decide_eq_false_iff_not]; omega) | (symm; apply decide_eq_true; omega) | (symm; apply decide_eq_false; omega) | (rw [Bool.eq_iff_iff]; simp only [decide_eq_true_eq]; omega) | (simp_all; done)
  · have HE := hidE (show win8B fr to' = false by unfold win8B; exact decide_eq_false (by omega))
    rw [HE.out]
    clear HE
    go_enter Tryz.func50, Tryz.ntmps50
    go_wp2
    all_goals
      go_ret
      refine ⟨ret_bool ?_, by (repeat (first | exact Below.refl _ _ | assumption | refine balloc ?_ _ | refine below_drewN ?_ _ | refine bstep (by assumption) ?_ | refine bstep (Past.prop _) ?_ | refine Below.setCell ?_ (by first | exact Nat.le_refl _ | (simp; done) | (simp; omega)) _))⟩
      first | rfl | (apply decide_eq_false; omega) | (simp_all; done)
theorem shchk_c (fr to' : Int) (l : List Prt) (a : Option Addr) (cap : Nat) (w : World) (hl : l.length ≤ 9223372036854775807) (hA : ArgP w a l) (hf : -9223372036854775808 ≤ fr ∧ fr ≤ 9223372036854775807) (ht : -9223372036854775808 ≤ to' ∧ to' ≤ 9223372036854775807) :
    Calls Tryz.prog 30 #[def8 fr to' a l.length cap] w fun e w' => e = .returned (.tuple #[.int .i64 (chkS fr to' l).1, .int .i64 (chkS fr to' l).2]) ∧ Below w.heap.size w w' := by
  have HW := hidE (fun W => window8_c fr to' W hf ht)
  have HF := hidE (fun W (h : Below w.heap.size w W) => fault8_c l a cap W hl (hA.past h))
  clear hA
  cases hw : win8B fr to' with
  | true =>
    rw [hw] at HW
    have HE := hidE (show chkS fr to' l = (((treeS l).1 : Int), (treeS l).2) by
      unfold chkS
      exact if_neg (by unfold win8B at hw; have := of_decide_eq_true hw; omega))
    clear hw
    generalize hT : treeS l = T at *
    obtain ⟨t1, t2⟩ := T
    rw [HE.out]
    clear HE hT
    go_enter Tryz.func30, Tryz.ntmps30
    go_wp2_with fail
    ((with_reducible refine (HW.out _).mono ?_); rintro e w1 ⟨rfl, hb1⟩)
    have hb := (show Below w.heap.size w (w.alloc (.cells #[.int .i64 fr, .int .i64 to', .slice a l.length cap] 24)) from by (repeat (first | exact Below.refl _ _ | assumption | refine balloc ?_ _ | refine below_drewN ?_ _ | refine bstep (by assumption) ?_ | refine bstep (Past.prop _) ?_ | refine Below.setCell ?_ (by first | exact Nat.le_refl _ | (simp; done) | (simp; omega)) _))).trans (hb1.mono (by simp))
    have hc := (Blk.made w #[.int .i64 fr, .int .i64 to', .slice a l.length cap] 24).past hb1
    have c2 := hc.cell 2; have z := hc.lt
    simp at c2
    clear hc hb1
    have HB := hidE hb
    clear hb
    go_wp2_with fail
    ((with_reducible refine (HF.out _ HB.out).mono ?_); rintro e w2 ⟨rfl, hb2⟩)
    go_wp2
    refine bodyPost_ret (v := .tuple #[.int .i64 t1, .int .i64 t2]) (by simp [results, Tryz.results30, go_sem]) rfl ⟨rfl, HB.out.trans (hb2.mono HB.out.size)⟩
  | false =>
    rw [hw] at HW
    have HE := hidE (show chkS fr to' l = (-1, 82) by
      unfold chkS
      exact if_pos (by unfold win8B at hw; have := of_decide_eq_false hw; omega))
    rw [HE.out]
    clear hw HE HF
    go_enter Tryz.func30, Tryz.ntmps30
    go_wp2_with fail
    ((with_reducible refine (HW.out _).mono ?_); rintro e w1 ⟨rfl, hb1⟩)
    have hb := (show Below w.heap.size w (w.alloc (.cells #[.int .i64 fr, .int .i64 to', .slice a l.length cap] 24)) from by (repeat (first | exact Below.refl _ _ | assumption | refine balloc ?_ _ | refine below_drewN ?_ _ | refine bstep (by assumption) ?_ | refine bstep (Past.prop _) ?_ | refine Below.setCell ?_ (by first | exact Nat.le_refl _ | (simp; done) | (simp; omega)) _))).trans (hb1.mono (by simp))
    have HB := hidE hb
    clear hb hb1
    go_wp2
    refine bodyPost_ret (v := .tuple #[.int .i64 (-1), .int .i64 82]) (by simp [results, Tryz.results30, go_sem]) rfl ⟨rfl, HB.out⟩
theorem wrong8_c (l : List Prt) (z : Int) (a : Option Addr) (cap : Nat) (w : World) (hl : l.length ≤ 9223372036854775807) (hA : ArgP w a l) (hz : -9223372036854775808 ≤ z ∧ z ≤ 9223372036854775807) :
    Calls Tryz.prog 72 #[.slice a l.length cap, .int .i64 z] w fun e w' => e = .returned (.int .i64 (mayS l z)) ∧ Below w.heap.size w w' := by
  have HF := hidE (fault8_c l a cap w hl hA)
  clear hA
  by_cases ht : (treeS l).2 = 0
  · have hE : mayS l z = if z < 0 ∨ (l.length : Int) ≤ z then 2 else 0 := if_neg (by rw [ht]; exact fun h => h rfl)
    rw [ht] at HF
    clear ht
    generalize ((treeS l).1 : Nat) = t1 at *
    by_cases h : z < 0 ∨ (l.length : Int) ≤ z
    · rw [if_pos h] at hE
      rw [hE]
      clear hE
      by_cases h0 : z < 0
      · have q0 : decide (z < 0) = true := decide_eq_true h0
        clear h h0
        go_enter Tryz.func72, Tryz.ntmps72
        go_wp2_with (go_at_call 51; (with_reducible refine HF.out.mono ?_); rintro e w1 ⟨rfl, hb1⟩)
        go_ret
        exact ⟨rfl, hb1⟩
      · have q0 : decide (z < 0) = false := decide_eq_false h0
        have q1 : decide (z ≥ (l.length : Int)) = true := decide_eq_true (by omega)
        have q2 : decide ((l.length : Int) ≤ z) = true := decide_eq_true (by omega)
        clear h h0
        go_enter Tryz.func72, Tryz.ntmps72
        go_wp2_with (go_at_call 51; (with_reducible refine HF.out.mono ?_); rintro e w1 ⟨rfl, hb1⟩)
        go_ret
        exact ⟨rfl, hb1⟩
    · rw [if_neg h] at hE
      rw [hE]
      have q0 : decide (z < 0) = false := decide_eq_false (by omega)
      have q1 : decide (z ≥ (l.length : Int)) = false := decide_eq_false (by omega)
      have q2 : decide ((l.length : Int) ≤ z) = false := decide_eq_false (by omega)
      clear hE h
      go_enter Tryz.func72, Tryz.ntmps72
      go_wp2_with (go_at_call 51; (with_reducible refine HF.out.mono ?_); rintro e w1 ⟨rfl, hb1⟩)
      go_ret
      exact ⟨rfl, hb1⟩
  · have hE : mayS l z = 81 := if_pos ht
    rw [hE]
    have q : ((treeS l).2 != 0) = true := bne_iff_ne.2 ht
    clear hE ht
    generalize ((treeS l).1 : Nat) = t1 at *
    generalize (treeS l).2 = t2 at *
    go_enter Tryz.func72, Tryz.ntmps72
    go_wp2_with (go_at_call 51; (with_reducible refine HF.out.mono ?_); rintro e w1 ⟨rfl, hb1⟩)
    go_ret
    exact ⟨rfl, hb1⟩
end Go.Proofs.YtioalnncjahlnaaGreatDoor

namespace Go.Proofs.YtioalnncjahlnaaGreatDoor
open Go.ChangeShapes Go.WideShapes Go.ChangeAt Go.RowKit
attribute [local irreducible] Go.Calls

set_option maxHeartbeats 1000000 in
theorem end8_c (l : List Prt) (a : Option Addr) (cap : Nat) (hl : l.length ≤ 1000000) (ht : (treeS l).2 = 0) : ∀ (m p : Nat) (w : World), l.length - p ≤ m → p < l.length → ArgP w a l →
    Calls Tryz.prog 95 #[.slice a l.length cap, .int .i64 p] w fun e w' => e = .returned (.int .i64 (endS l p)) ∧ Below w.heap.size w w' := by
  intro m
  induction m with
  | zero => intro p w hm hp; omega
  | succ m ih =>
    intro p w hm hp hA
    have hH := tree_hang ht
    have hch := hidE (hH.chain p hp)
    have hkd := hidE (fun k hk => hH.kid p k hp hk)
    have hup := hidE (hH.up p hp).2
    have hge := hidE (fun k hk => kidAt_ge hH hp k hk)
    obtain ⟨b, off, rfl, hbb, hc⟩ := hA (by omega)
    have c4 := (hc.get hp).2.2.2.2
    rw [show l.getD p pr0 = prN l p from rfl] at c4
    have hks := tree_kids ht hp
    rw [show l.getD p ⟨0, 0, 0, 0, 0⟩ = prN l p from rfl] at hks
    have HA := hidE (show ArgP w (some ⟨b, off, none⟩) l from hA)
    have HM := hidE hm
    have HI := hidE ih
    have HL := hidE hl
    clear hA hc ih hH hm
    obtain ⟨K, hK⟩ : ∃ K : Nat, (prN l p).kids = (K : Int) := ⟨(prN l p).kids.toNat, by omega⟩
    rw [hK] at c4
    have hKN : (prN l p).kids.toNat = K := by omega
    rw [hKN] at hch hkd hge
    have hK16 : K ≤ 16 := by omega
    clear hK hKN hks
    have w1 : IntKind.i64.wrap ((p : Int) + 1) = (p : Int) + 1 := IntWalk.i64_in _ (by omega)
    clear hl
    go_enter Tryz.func95, Tryz.ntmps95
    go_wp2_with fail
    go_loopg [5, 13] K (fun gh v5 v13 wr => ∃ k : Nat, k ≤ K ∧ K - k ≤ gh ∧ v13 = .int .i64 k ∧ v5 = .int .i64 (kidAt l (p + 1) k) ∧ Below w.heap.size w wr)
    case atStart => exact ⟨0, Nat.zero_le _, Nat.le_refl _, rfl, by simp [kidAt], Below.refl _ _⟩
    case round =>
      obtain ⟨k, hkk, hgh, rfl, rfl, hb⟩ := hrel
      have HB := hidE hb; have HG := hidE hgh
      clear hb hgh c4
      by_cases hlt : k < K
      · have r1 : decide ((k : Int) < (K : Int)) = true := decide_eq_true (by omega)
        have r2 : decide (k < K) = true := decide_eq_true hlt
        have h1 := hkd.out k hlt
        have h2 := hge.out k (by omega)
        have h3 := hup.out
        have HC := hidE (HI.out (kidAt l (p + 1) k))
        have hlp : kidAt l (p + 1) k < l.length := by omega
        have hmp : l.length - kidAt l (p + 1) k ≤ m := by have := HM.out; omega
        have HK := hidE (show kidAt l (p + 1) (k + 1) = endS l (kidAt l (p + 1) k) from rfl)
        clear h1 h2 h3
        generalize kidAt l (p + 1) k = q at *
        generalize endS l q = q2 at *
        go_wp2_with (go_at_call 95; (with_reducible refine (HC.out _ (by assumption) (by assumption) (HA.out.past HB.out)).mono ?_); rintro e w2 ⟨rfl, hb2⟩)
        go_roundg (K - (k + 1))
        case measure => have := HG.out; omega
        case rel => exact ⟨k + 1, by omega, Nat.le_refl _, by go_num, by rw [HK.out], HB.out.trans (hb2.mono HB.out.size)⟩
      · obtain rfl : k = K := by omega
        have r1 : decide ((k : Int) < (k : Int)) = false := decide_eq_false (by omega)
        have r2 : decide (k < k) = false := decide_eq_false (by omega)
        go_wp2
        go_ret
        exact ⟨by rw [← hch.out]; rfl, HB.out⟩
end Go.Proofs.YtioalnncjahlnaaGreatDoor

namespace Go.Proofs.YtioalnncjahlnaaGreatDoor
open Go.RowKit

/-- What a body keeps: whatever lies below n₀, and whatever lay at or beyond n₁. -/
structure Outside (n₀ n₁ : Nat) (W W' : World) : Prop where
  below : Below n₀ W W'
  beyond : ∀ k, n₁ ≤ k → k < W.heap.size → W'.heap[k]? = W.heap[k]?
theorem Outside.refl (n₀ n₁ : Nat) (W : World) : Outside n₀ n₁ W W := ⟨Below.refl _ _, fun _ _ _ => rfl⟩
theorem Outside.trans {n₀ n₁ : Nat} {A B C : World} (h : Outside n₀ n₁ A B) (k : Outside n₀ n₁ B C) : Outside n₀ n₁ A C :=
  ⟨h.below.trans k.below, fun i hi hl => (k.beyond i hi (Nat.lt_of_lt_of_le hl h.below.size)).trans (h.beyond i hi hl)⟩
theorem Outside.of_below {n₀ n₁ : Nat} {A B : World} (h : Below A.heap.size A B) (hn : n₀ ≤ A.heap.size) : Outside n₀ n₁ A B := ⟨h.mono hn, fun k _ hl => h.block k hl⟩
theorem Outside.weak {n₀ n₁ n₁' : Nat} {A B : World} (h : Outside n₀ n₁ A B) (hn : n₁ ≤ n₁') : Outside n₀ n₁' A B := ⟨h.below, fun k hk hl => h.beyond k (by omega) hl⟩
/-- A turn of a block of the caller's own. -/
theorem Outside.of_grown {n₀ n₁ p : Nat} {A B : World} (h : A.grownBy B (some p)) (h0 : n₀ ≤ p) (h1 : p < n₁) (h2 : n₀ ≤ A.heap.size) : Outside n₀ n₁ A B :=
  ⟨⟨h.os, h.tape, h.output, h.size, fun k hk => h.block k (by omega) (fun e => by cases e; omega)⟩, fun k hk hl => h.block k hl (fun e => by cases e; omega)⟩

/-- The contract of an iterator value: it hands on the list S, one after the other, unless a round says 'no more'; whatever the caller's invariants are that speak only of what lay ahead of the iterator's call. -/
def SeqT {α : Type} (P : Program) (gf : Nat) (rb lb : Array Value) (encs : α → Array Value) (n₀ : Nat) (S : List α) (w : World) : Prop :=
  ∀ (l : Nat) (J Jx : List α → World → Prop) (W : World), Below w.heap.size w W →
    (∀ s A B, J s A → Below W.heap.size A B → J s B) → (∀ s A B, Jx s A → Below W.heap.size A B → Jx s B) →
    (∀ pre x W1, J pre W1 → pre ++ [x] <+: S → YieldAt Fence.wide 0 P l (encs x) W1 fun e W' =>
      (e = .returned (.bool true) ∧ J (pre ++ [x]) W' ∧ Outside n₀ W.heap.size W1 W') ∨ (e = .returned (.bool false) ∧ Jx (pre ++ [x]) W')) →
    J [] W →
    Calls P gf (rb ++ #[.func (.yield l) #[] #[]] ++ lb) W fun e W' => (∃ v, e = .returned v) ∧ (J S W' ∨ ∃ pre, pre <+: S ∧ Jx pre W')

/-- How the body of a round may be left. -/
def postT {α : Type} (n₀ n₁ : Nat) (I : List α → World → Prop) (Ix : Code → List α → World → Prop) (xs : List α) (W : World) : Exit → Act → World → Prop
  | .normal, _, W' => Outside n₀ n₁ W W' ∧ I xs W'
  | .ret, _, W' => Outside n₀ n₁ W W' ∧ Ix .ret xs W'
  | .exit id, _, W' => Outside n₀ n₁ W W' ∧ Ix (.exit id) xs W'
  | .goto t, _, W' => Outside n₀ n₁ W W' ∧ Ix (.goto t) xs W'
  | .panic _, _, _ => False
  | .outgrown, _, _ => False

theorem below_putObj {B : Nat} (W : World) (l : Nat) (o : Obj) (h : B ≤ l) : Below B W (W.putObj l o) :=
  ⟨rfl, rfl, rfl, by simp, fun k hk => World.putObj_heap_other (by omega)⟩

theorem grown_putObj (W : World) (l : Nat) (o : Obj) : W.grownBy (W.putObj l o) (some l) :=
  ⟨rfl, rfl, rfl, by simp, fun k _ hk => World.putObj_heap_other (fun e => hk (by rw [e]))⟩
/-- The statement. -/
theorem wp_rangeFunc_T {α : Type} {P : Program} {g : Operand} {ps : Array Tmp} {assign body : Code} {Q : Exit → Act → World → Prop} {a : Act} {w : World}
    {gf : Nat} {rb lb : Array Value} (hg : a.eval g = .func (.func gf) rb lb) (eg : ∀ args w, (callFunc gf args).run P w = .ok (.enter gf args) w)
    {encs : α → Array Value} {n₀ : Nat} (hn₀ : n₀ ≤ w.heap.size) {S : List α} (hseq : SeqT P gf rb lb encs n₀ S w) (hps : ∀ x, (encs x).size = ps.size)
    (I : List α → World → Prop) (Ix : Code → List α → World → Prop) (hI : ∀ s A B, I s A → Below w.heap.size A B → I s B) (hIx : ∀ c s A B, Ix c s A → Below w.heap.size A B → Ix c s B) (h0 : I [] w)
    (Ax : α → Act → World → Prop) (hAx : ∀ x a' A l r o, Ax x a' A → A.heap[l]? = some (.loop r) → Ax x a' (A.putObj l o))
    (hassign : ∀ (l : Nat) (pre : List α) (x : α) (W : World) (K : Act → World → Prop), w.heap.size ≤ W.heap.size → I pre W → (∀ a' W', Outside n₀ w.heap.size W W' → I pre W' → Ax x a' W' → K a' W') →
      assign.wpIn (Fence.wide.inRound l) 0 P (Exit.then K (fun _ _ _ => False)) { tmps := (ps.zip (encs x)).foldl (fun t (p, v) => t.setIfInBounds p v) a.tmps, defers := [] } W)
    (hbody : ∀ (l : Nat) (pre : List α) (x : α) (a' : Act) (W : World), w.heap.size ≤ W.heap.size → I pre W → Ax x a' W → pre ++ [x] <+: S → body.wpIn (Fence.wide.inRound l) 0 P (postT n₀ w.heap.size I Ix (pre ++ [x]) W) a' W)
    (hdone : ∀ (D : Nat) (W : World), w.heap.size ≤ D → I S W → W.heap[D]? = some (.deferred (some [])) → Q .normal { a with defers := { target := .collected D, args := #[] } :: a.defers } W)
    (hstop : ∀ (D : Nat) (c : Code) (pre : List α) (W : World), w.heap.size ≤ D → pre <+: S → Ix c pre W → W.heap[D]? = some (.deferred (some [])) → c.wp P Q { a with defers := { target := .collected D, args := #[] } :: a.defers } W) :
    (Code.rangeFunc g ps assign body).wp P Q a w := by
  refine (wpIn_wide (n := 0)).1 (wpIn_rangeFunc ?_)
  intro fn hfn
  obtain ⟨rec, hrec⟩ : ∃ rec : LoopState → Option Code → Loop, rec = fun st pe => { state := st, pending := pe, fn, tmps := a.tmps, params := ps, assign, body, defers := w.heap.size } := ⟨_, rfl⟩
  obtain ⟨W1, hW1⟩ : ∃ W1, (w.alloc (.deferred (some []))).alloc (.loop (rec .ready none)) = W1 := ⟨_, rfl⟩
  have hL1 : W1.heap[w.heap.size + 1]? = some (.loop (rec .ready none)) := by
    rw [← hW1]; have := World.alloc_heap_new (w.alloc (.deferred (some []))) (.loop (rec .ready none)); rwa [World.size_alloc] at this
  have hK1 : W1.heap[w.heap.size]? = some (.deferred (some [])) := by
    rw [← hW1]; exact (Below.heap_alloc _ _ _ (by simp)).trans (World.alloc_heap_new w _)
  have hb1 : Below w.heap.size w W1 := by
    rw [← hW1]; exact ((Below.refl _ w).alloc (Nat.le_refl _) _).alloc (by simp) _
  have hs1 : W1.heap.size = w.heap.size + 2 := by rw [← hW1]; simp
  have hI1 : I [] W1 := hI _ _ _ h0 hb1
  refine ⟨w.heap.size + 1, [{ target := .collected w.heap.size, args := #[] }], W1, { target := .fn (.func gf) lb, args := rb ++ #[.func (.yield (w.heap.size + 1)) #[] #[]] }, W1, gf,
    rb ++ #[.func (.yield (w.heap.size + 1)) #[] #[]] ++ lb, W1, ?_, ?_, ?_, ?_, fun h => by simp [Fence.wide] at h, ?_⟩
  · rw [← hW1, hrec]; exact run_enterLoop_outer _ _ _ _ _
  · simp only [resolve, hg]
    simp [go_sem, Deferred.ofValue]
  · intro f' hf'; trivial
  · simp [invoke, go_sem, eg]
  · refine callsIn_wide.2 ?_
    refine (hseq (w.heap.size + 1)
      (fun pre W => I pre W ∧ W.heap[w.heap.size + 1]? = some (.loop (rec .ready none)) ∧ W.heap[w.heap.size]? = some (.deferred (some [])) ∧ w.heap.size ≤ W.heap.size)
      (fun pre W => ∃ c, Ix c pre W ∧ W.heap[w.heap.size + 1]? = some (.loop (rec .done (some c))) ∧ W.heap[w.heap.size]? = some (.deferred (some [])))
      W1 hb1
      (fun s A B hs hg' => ⟨hI s A B hs.1 (hg'.mono (by omega)), (hg'.block _ (by omega)).trans hs.2.1, (hg'.block _ (by omega)).trans hs.2.2.1, Nat.le_trans hs.2.2.2 hg'.size⟩)
      (fun s A B hs hg' => by
        obtain ⟨c, hc, hl, hk⟩ := hs
        exact ⟨c, hIx c s A B hc (hg'.mono (by omega)), (hg'.block _ (by omega)).trans hl, (hg'.block _ (by omega)).trans hk⟩)
      ?_ ⟨hI1, hL1, hK1, hb1.size⟩).mono ?_
    · -- one round
      rintro pre x W ⟨hi, hl, hk, hsz⟩ hpre
      have hlt : w.heap.size + 1 < W.heap.size := (Array.getElem?_eq_some_iff.1 hl).1
      have hy := run_yield (P := P) (args := encs x) hl (by rw [hrec]; exact hps x)
      rw [hrec] at hy
      refine ⟨fn, _, assign, body, hy, roundIn_of_wpIn trivial (hassign _ pre x W _ hsz hi ?_)⟩
      clear hy
      intro a' Wa hoa hia hax
      have hla := (hoa.beyond _ (by omega) hlt).trans hl
      have hka := (hoa.beyond _ (Nat.le_refl _) (by omega)).trans hk
      have hlta : w.heap.size + 1 < Wa.heap.size := Nat.lt_of_lt_of_le hlt hoa.below.size
      refine ⟨_, run_beginRound hla (by rw [hrec]), ?_⟩
      have hl2 : (Wa.putObj (w.heap.size + 1) (.loop { rec .ready none with state := .busy })).heap[w.heap.size + 1]? = some (.loop { rec .ready none with state := .busy }) := World.putObj_heap_same hlta
      have hk2 : (Wa.putObj (w.heap.size + 1) (.loop { rec .ready none with state := .busy })).heap[w.heap.size]? = some (.deferred (some [])) := (World.putObj_heap_other (by omega)).trans hka
      have hb2 : Below w.heap.size Wa (Wa.putObj (w.heap.size + 1) (.loop { rec .ready none with state := .busy })) := below_putObj _ _ _ (by omega)
      refine wpIn_mono (hbody _ pre x a' _ (by simp; omega) (hI _ _ _ hia hb2) (hAx _ _ _ _ _ _ hax hla) hpre) ?_
      have fin : ∀ (jump : Option Code) (W3 : World), Outside n₀ w.heap.size (Wa.putObj (w.heap.size + 1) (.loop { rec .ready none with state := .busy })) W3 →
          (Instr.endRound (w.heap.size + 1) jump).run P W3 = .ok (.bool jump.isNone) (W3.putObj (w.heap.size + 1) (.loop (rec (if jump.isNone then .ready else .done) jump))) ∧
          (W3.putObj (w.heap.size + 1) (.loop (rec (if jump.isNone then .ready else .done) jump))).heap[w.heap.size + 1]? = some (.loop (rec (if jump.isNone then .ready else .done) jump)) ∧
          (W3.putObj (w.heap.size + 1) (.loop (rec (if jump.isNone then .ready else .done) jump))).heap[w.heap.size]? = some (.deferred (some [])) ∧
          Below w.heap.size W3 (W3.putObj (w.heap.size + 1) (.loop (rec (if jump.isNone then .ready else .done) jump))) ∧
          Outside n₀ W1.heap.size W (W3.putObj (w.heap.size + 1) (.loop (rec (if jump.isNone then .ready else .done) jump))) := fun jump W3 ho3 => by
        have hl3 := (ho3.beyond (w.heap.size + 1) (by omega) (by simp; omega)).trans hl2
        have hk3 := (ho3.beyond w.heap.size (Nat.le_refl _) (by simp; omega)).trans hk2
        have hr := run_endRound (P := P) jump hl3
        have hsz3 : w.heap.size + 1 < W3.heap.size := (Array.getElem?_eq_some_iff.1 hl3).1
        refine ⟨?_, World.putObj_heap_same hsz3, (World.putObj_heap_other (by omega)).trans hk3, below_putObj _ _ _ (by omega), ?_⟩
        · rw [hrec] at hr ⊢; exact hr
        · have e1 : Outside n₀ W1.heap.size Wa (Wa.putObj (w.heap.size + 1) (.loop { rec .ready none with state := .busy })) := Outside.of_grown (grown_putObj _ _ _) (by omega) (by omega) (by omega)
          have e2 : Outside n₀ W1.heap.size W3 (W3.putObj (w.heap.size + 1) (.loop (rec (if jump.isNone then .ready else .done) jump))) := Outside.of_grown (grown_putObj _ _ _) (by omega) (by omega) (by omega)
          exact (((hoa.weak (by omega)).trans e1).trans (ho3.weak (by omega))).trans e2
      rintro e a3 W3 hp
      cases e with
      | normal =>
        obtain ⟨hk3, hi3⟩ := hp
        obtain ⟨hr, hl4, hk4, hb4, ho4⟩ := fin none W3 hk3
        exact ⟨_, _, hr, .inl ⟨rfl, ⟨hI _ _ _ hi3 hb4, hl4, hk4, Nat.le_trans (by have := hk3.below.size; simp at this; omega) hb4.size⟩, ho4⟩⟩
      | ret =>
        obtain ⟨hk3, hi3⟩ := hp
        obtain ⟨hr, hl4, hk4, hb4, ho4⟩ := fin (some .ret) W3 hk3
        exact ⟨_, _, hr, .inr ⟨rfl, .ret, hIx _ _ _ _ hi3 hb4, hl4, hk4⟩⟩
      | exit id =>
        obtain ⟨hk3, hi3⟩ := hp
        obtain ⟨hr, hl4, hk4, hb4, ho4⟩ := fin (some (.exit id)) W3 hk3
        exact ⟨_, _, hr, .inr ⟨rfl, .exit id, hIx _ _ _ _ hi3 hb4, hl4, hk4⟩⟩
      | goto t =>
        obtain ⟨hk3, hi3⟩ := hp
        obtain ⟨hr, hl4, hk4, hb4, ho4⟩ := fin (some (.goto t)) W3 hk3
        exact ⟨_, _, hr, .inr ⟨rfl, .goto t, hIx _ _ _ _ hi3 hb4, hl4, hk4⟩⟩
      | panic ch => exact hp.elim
      | outgrown => exact hp.elim
    · -- behind the iterator
      rintro e W2 ⟨⟨v, rfl⟩, (⟨hi, hl, hk, _⟩ | ⟨pre, hSp, c, hi, hl, hk⟩)⟩
      · exact ⟨none, _, by have := run_endLoop (P := P) hl (by rw [hrec]; simp); rw [hrec] at this; exact this, hdone _ _ (Nat.le_refl _) (hI _ _ _ hi (below_putObj _ _ _ (by omega))) ((World.putObj_heap_other (by omega)).trans hk)⟩
      · exact ⟨some c, _, by have := run_endLoop (P := P) hl (by rw [hrec]; simp); rw [hrec] at this; exact this, (wpIn_wide (n := 0)).2 (hstop _ c pre _ (Nat.le_refl _) hSp (hIx _ _ _ _ hi (below_putObj _ _ _ (by omega))) ((World.putObj_heap_other (by omega)).trans hk))⟩
end Go.Proofs.YtioalnncjahlnaaGreatDoor

namespace Go.Proofs.YtioalnncjahlnaaGreatDoor
open Go.RowKit

/-- The contract of an iterator value, as SeqT, with the one block that the body made in an earlier round and may write again (g: from where on the body's blocks lie, and that block), and what it reads of the caller's (K). -/
def SeqX {α : Type} (P : Program) (gf : Nat) (rb lb : Array Value) (encs : α → Array Value) (n₀ : Nat) (K : World → Prop) (S : List α) (w : World) : Prop :=
  ∀ (l : Nat) (J : List α → Option (Nat × Nat) → World → Prop) (Jx : List α → World → Prop) (W : World), Below w.heap.size w W →
    (∀ s g A B, J s g A → Below W.heap.size A B → (∀ b k, g = some (b, k) → B.heap[k]? = A.heap[k]?) → J s g B) → (∀ s g A, J s g A → ∀ b k, g = some (b, k) → b ≤ k ∧ k < A.heap.size) → (∀ s g A, J s g A → K A) → (∀ s A B, Jx s A → Below W.heap.size A B → Jx s B) →
    (∀ pre x g W1, J pre g W1 → W.heap.size ≤ W1.heap.size → pre ++ [x] <+: S → YieldAt Fence.wide 0 P l (encs x) W1 fun e W' =>
      (e = .returned (.bool true) ∧ ∃ g', J (pre ++ [x]) g' W' ∧ Below n₀ W1 W' ∧ (∀ k, W.heap.size ≤ k → k < W1.heap.size → (∀ b, g ≠ some (b, k)) → W'.heap[k]? = W1.heap[k]?) ∧ (∀ b k, g' = some (b, k) → W1.heap.size ≤ b ∨ ∃ j, g = some (b, j))) ∨ (e = .returned (.bool false) ∧ Jx (pre ++ [x]) W')) →
    J [] none W →
    Calls P gf (rb ++ #[.func (.yield l) #[] #[]] ++ lb) W fun e W' => (∃ v, e = .returned v) ∧ ((∃ g, J S g W') ∨ ∃ pre, pre <+: S ∧ Jx pre W')

/-- How the body of a round may be left: by its end, or by a return. -/
def postX {α : Type} (n₀ n₁ : Nat) (I : List α → Option (Nat × Nat) → World → Prop) (Ix : List α → World → Prop) (xs : List α) (g : Option (Nat × Nat)) (W : World) : Exit → Act → World → Prop
  | .normal, _, W' => ∃ g', I xs g' W' ∧ Below n₀ W W' ∧ (∀ k, n₁ ≤ k → k < W.heap.size → (∀ b, g ≠ some (b, k)) → W'.heap[k]? = W.heap[k]?) ∧ (∀ b k, g' = some (b, k) → W.heap.size ≤ b ∨ ∃ j, g = some (b, j))
  | .ret, _, W' => Ix xs W' ∧ (∀ k, n₁ ≤ k → k < n₁ + 2 → k < W.heap.size → W'.heap[k]? = W.heap[k]?)
  | _, _, _ => False

/-- The statement. -/
theorem wp_rangeFunc_X {α : Type} {P : Program} {gop : Operand} {ps : Array Tmp} {assign body : Code} {Q : Exit → Act → World → Prop} {a : Act} {w : World}
    {gf : Nat} {rb lb : Array Value} (hg : a.eval gop = .func (.func gf) rb lb) (eg : ∀ args w, (callFunc gf args).run P w = .ok (.enter gf args) w)
    {encs : α → Array Value} {n₀ : Nat} (hn₀ : n₀ ≤ w.heap.size) {S : List α} {K : World → Prop} (hseq : SeqX P gf rb lb encs n₀ K S w) (hps : ∀ x, (encs x).size = ps.size)
    (I : List α → Option (Nat × Nat) → World → Prop) (hI : ∀ s g A B, I s g A → Below w.heap.size A B → (∀ b k, g = some (b, k) → B.heap[k]? = A.heap[k]?) → I s g B) (hIg : ∀ s g A, I s g A → ∀ b k, g = some (b, k) → b ≤ k ∧ k < A.heap.size) (hIK : ∀ s g A, I s g A → K A) (h0 : I [] none w)
    (Ix : List α → World → Prop) (hIx : ∀ s A B, Ix s A → Below w.heap.size A B → Ix s B)
    (Ax : α → Act → World → Prop) (hAx : ∀ x a' A l r o, Ax x a' A → A.heap[l]? = some (.loop r) → Ax x a' (A.putObj l o))
    (hassign : ∀ (l : Nat) (pre : List α) (x : α) (g : Option (Nat × Nat)) (W : World) (K' : Act → World → Prop), w.heap.size ≤ W.heap.size → I pre g W → (∀ a' W', Below W.heap.size W W' → I pre g W' → Ax x a' W' → K' a' W') →
      assign.wpIn (Fence.wide.inRound l) 0 P (Exit.then K' (fun _ _ _ => False)) { tmps := (ps.zip (encs x)).foldl (fun t (p, v) => t.setIfInBounds p v) a.tmps, defers := [] } W)
    (hbody : ∀ (l : Nat) (pre : List α) (x : α) (g : Option (Nat × Nat)) (a' : Act) (W : World), w.heap.size ≤ W.heap.size → I pre g W → Ax x a' W → pre ++ [x] <+: S → body.wpIn (Fence.wide.inRound l) 0 P (postX n₀ w.heap.size I Ix (pre ++ [x]) g W) a' W)
    (hdone : ∀ (D : Nat) (g : Option (Nat × Nat)) (W : World), D = w.heap.size → I S g W → (∀ b k, g = some (b, k) → w.heap.size + 2 ≤ b) → W.heap[D]? = some (.deferred (some [])) → Q .normal { a with defers := { target := .collected D, args := #[] } :: a.defers } W)
    (hstop : ∀ (D : Nat) (pre : List α) (W : World), D = w.heap.size → pre <+: S → Ix pre W → W.heap[D]? = some (.deferred (some [])) → Code.ret.wp P Q { a with defers := { target := .collected D, args := #[] } :: a.defers } W) :
    (Code.rangeFunc gop ps assign body).wp P Q a w := by
  refine (wpIn_wide (n := 0)).1 (wpIn_rangeFunc ?_)
  intro fn hfn
  obtain ⟨rec, hrec⟩ : ∃ rec : LoopState → Option Code → Loop, rec = fun st pe => { state := st, pending := pe, fn, tmps := a.tmps, params := ps, assign, body, defers := w.heap.size } := ⟨_, rfl⟩
  obtain ⟨W1, hW1⟩ : ∃ W1, (w.alloc (.deferred (some []))).alloc (.loop (rec .ready none)) = W1 := ⟨_, rfl⟩
  have hL1 : W1.heap[w.heap.size + 1]? = some (.loop (rec .ready none)) := by
    rw [← hW1]; have := World.alloc_heap_new (w.alloc (.deferred (some []))) (.loop (rec .ready none)); rwa [World.size_alloc] at this
  have hK1 : W1.heap[w.heap.size]? = some (.deferred (some [])) := by
    rw [← hW1]; exact (Below.heap_alloc _ _ _ (by simp)).trans (World.alloc_heap_new w _)
  have hb1 : Below w.heap.size w W1 := by
    rw [← hW1]; exact ((Below.refl _ w).alloc (Nat.le_refl _) _).alloc (by simp) _
  have hs1 : W1.heap.size = w.heap.size + 2 := by rw [← hW1]; simp
  have hI1 : I [] none W1 := hI _ _ _ _ h0 hb1 (fun b k hk => by cases hk)
  refine ⟨w.heap.size + 1, [{ target := .collected w.heap.size, args := #[] }], W1, { target := .fn (.func gf) lb, args := rb ++ #[.func (.yield (w.heap.size + 1)) #[] #[]] }, W1, gf,
    rb ++ #[.func (.yield (w.heap.size + 1)) #[] #[]] ++ lb, W1, ?_, ?_, ?_, ?_, fun h => by simp [Fence.wide] at h, ?_⟩
  · rw [← hW1, hrec]; exact run_enterLoop_outer _ _ _ _ _
  · simp only [resolve, hg]
    simp [go_sem, Deferred.ofValue]
  · intro f' hf'; trivial
  · simp [invoke, go_sem, eg]
  · refine callsIn_wide.2 ?_
    refine (hseq (w.heap.size + 1)
      (fun pre g W => I pre g W ∧ W.heap[w.heap.size + 1]? = some (.loop (rec .ready none)) ∧ W.heap[w.heap.size]? = some (.deferred (some [])) ∧ w.heap.size ≤ W.heap.size ∧ ∀ b k, g = some (b, k) → w.heap.size + 2 ≤ b)
      (fun pre W => Ix pre W ∧ W.heap[w.heap.size + 1]? = some (.loop (rec .done (some .ret))) ∧ W.heap[w.heap.size]? = some (.deferred (some [])))
      W1 hb1
      (fun s g A B hs hb hk => ⟨hI s g A B hs.1 (hb.mono (by omega)) hk, (hb.block _ (by omega)).trans hs.2.1, (hb.block _ (by omega)).trans hs.2.2.1, Nat.le_trans hs.2.2.2.1 hb.size, hs.2.2.2.2⟩)
      (fun s g A hs b k hk => hIg s g A hs.1 b k hk)
      (fun s g A hs => hIK s g A hs.1)
      (fun s A B hs hb => ⟨hIx s A B hs.1 (hb.mono (by omega)), (hb.block _ (by omega)).trans hs.2.1, (hb.block _ (by omega)).trans hs.2.2⟩)
      ?_ ⟨hI1, hL1, hK1, hb1.size, fun b k hk => by cases hk⟩).mono ?_
    · -- one round
      rintro pre x g W ⟨hi, hl, hk, hsz, hg0⟩ hW1z hpre
      have hlt : w.heap.size + 1 < W.heap.size := (Array.getElem?_eq_some_iff.1 hl).1
      have hy := run_yield (P := P) (args := encs x) hl (by rw [hrec]; exact hps x)
      rw [hrec] at hy
      refine ⟨fn, _, assign, body, hy, roundIn_of_wpIn trivial (hassign _ pre x g W _ hsz hi ?_)⟩
      clear hy
      intro a' Wa hoa hia hax
      have hla := (hoa.block (w.heap.size + 1) hlt).trans hl
      have hka := (hoa.block w.heap.size (by omega)).trans hk
      have hlta : w.heap.size + 1 < Wa.heap.size := Nat.lt_of_lt_of_le hlt hoa.size
      refine ⟨_, run_beginRound hla (by rw [hrec]), ?_⟩
      have hl2 : (Wa.putObj (w.heap.size + 1) (.loop { rec .ready none with state := .busy })).heap[w.heap.size + 1]? = some (.loop { rec .ready none with state := .busy }) := World.putObj_heap_same hlta
      have hk2 : (Wa.putObj (w.heap.size + 1) (.loop { rec .ready none with state := .busy })).heap[w.heap.size]? = some (.deferred (some [])) := (World.putObj_heap_other (by omega)).trans hka
      have hb2 : Below w.heap.size Wa (Wa.putObj (w.heap.size + 1) (.loop { rec .ready none with state := .busy })) := below_putObj _ _ _ (by omega)
      refine wpIn_mono (hbody _ pre x g a' _ (by have := hoa.size; simp; omega) (hI _ _ _ _ hia hb2 (fun b k hk => World.putObj_heap_other (fun e => by have := hg0 b k hk; have := (hIg _ _ _ hi b k hk).1; omega))) (hAx _ _ _ _ _ _ hax hla) hpre) ?_
      rintro e a3 W3 hp
      cases e with
      | normal =>
        obtain ⟨g', hi3, hb3, hk3, hg3⟩ := hp
        have hz3 := hb3.size
        have hl3 := (hk3 (w.heap.size + 1) (by omega) (by simp; omega) (fun b e => by have := hg0 b _ e; have := (hIg _ _ _ hi b _ e).1; omega)).trans hl2
        have hd3 := (hk3 w.heap.size (Nat.le_refl _) (by simp; omega) (fun b e => by have := hg0 b _ e; have := (hIg _ _ _ hi b _ e).1; omega)).trans hk2
        have hr := run_endRound (P := P) (none : Option Code) hl3
        have hsz3 : w.heap.size + 1 < W3.heap.size := (Array.getElem?_eq_some_iff.1 hl3).1
        have hzz : W.heap.size ≤ W3.heap.size := by have := hoa.size; simp at hz3; omega
        have hg0' : ∀ b k, g' = some (b, k) → w.heap.size + 2 ≤ b := fun b k e => by
          rcases hg3 b k e with h | ⟨j, h⟩
          · simp at h
            have := hoa.size
            omega
          · exact hg0 b j h
        have hb4 : Below w.heap.size W3 (W3.putObj (w.heap.size + 1) (.loop (rec .ready none))) := below_putObj _ _ _ (by omega)
        refine ⟨.bool true, W3.putObj (w.heap.size + 1) (.loop (rec .ready none)), ?_, .inl ⟨rfl, g', ⟨hI _ _ _ _ hi3 hb4 (fun b k hk => World.putObj_heap_other (fun e => by have := hg0' b k hk; have := (hIg _ _ _ hi3 b k hk).1; omega)), World.putObj_heap_same hsz3, (World.putObj_heap_other (by omega)).trans hd3, by simp; omega, hg0'⟩, ?_, ?_, ?_⟩⟩
        · rw [hrec] at hr ⊢; exact hr
        · exact ((hoa.mono (by omega)).trans (hb2.mono hn₀)).trans (hb3.trans (hb4.mono hn₀))
        · intro k h1 h2 h3
          have h4 : k ≠ w.heap.size + 1 := by omega
          exact (World.putObj_heap_other h4).trans ((hk3 k (by omega) (by have := hoa.size; simp; omega) h3).trans ((World.putObj_heap_other h4).trans (hoa.block k h2)))
        · intro b k e
          rcases hg3 b k e with h | h
          · exact .inl (by have := hoa.size; simp at h; omega)
          · exact .inr h
      | ret =>
        obtain ⟨hi3, hk3⟩ := hp
        have hl3 := (hk3 (w.heap.size + 1) (by omega) (by omega) (by simp; omega)).trans hl2
        have hd3 := (hk3 w.heap.size (Nat.le_refl _) (by omega) (by simp; omega)).trans hk2
        have hr := run_endRound (P := P) (some Code.ret) hl3
        have hsz3 : w.heap.size + 1 < W3.heap.size := (Array.getElem?_eq_some_iff.1 hl3).1
        refine ⟨.bool false, W3.putObj (w.heap.size + 1) (.loop (rec .done (some .ret))), ?_, .inr ⟨rfl, hIx _ _ _ hi3 (below_putObj _ _ _ (by omega)), World.putObj_heap_same hsz3, (World.putObj_heap_other (by omega)).trans hd3⟩⟩
        rw [hrec] at hr ⊢; exact hr
      | exit id => exact hp.elim
      | goto t => exact hp.elim
      | panic ch => exact hp.elim
      | outgrown => exact hp.elim
    · -- behind the iterator
      rintro e W2 ⟨⟨v, rfl⟩, (⟨g, hi, hl, hk, hz, hg0⟩ | ⟨pre, hSp, hi, hl, hk⟩)⟩
      · exact ⟨none, _, by have := run_endLoop (P := P) hl (by rw [hrec]; simp); rw [hrec] at this; exact this, hdone _ g _ rfl (hI _ _ _ _ hi (below_putObj _ _ _ (by omega)) (fun b k hk => World.putObj_heap_other (fun e => by have := hg0 b k hk; have := (hIg _ _ _ hi b k hk).1; omega))) hg0 ((World.putObj_heap_other (by omega)).trans hk)⟩
      · exact ⟨some .ret, _, by have := run_endLoop (P := P) hl (by rw [hrec]; simp); rw [hrec] at this; exact this, (wpIn_wide (n := 0)).2 (hstop _ pre _ rfl hSp (hIx _ _ _ hi (below_putObj _ _ _ (by omega))) ((World.putObj_heap_other (by omega)).trans hk))⟩
end Go.Proofs.YtioalnncjahlnaaGreatDoor

namespace Go.Proofs.YtioalnncjahlnaaGreatDoor
open Go.RowKit

/-- The contract of an iterator value: it hands on the list S, one after the other, unless a round says 'no more'; whatever the caller's invariants are that speak only of what lay ahead of the iterator's call, and tell what the iterator reads of the caller's (K). -/
def SeqK {α : Type} (P : Program) (gf : Nat) (rb lb : Array Value) (encs : α → Array Value) (n₀ : Nat) (K : World → Prop) (S : List α) (w : World) : Prop :=
  ∀ (l : Nat) (J Jx : List α → World → Prop) (W : World), Below w.heap.size w W →
    (∀ s A B, J s A → Below W.heap.size A B → J s B) → (∀ s A, J s A → K A) → (∀ s A B, Jx s A → Below W.heap.size A B → Jx s B) →
    (∀ pre x W1, J pre W1 → pre ++ [x] <+: S → YieldAt Fence.wide 0 P l (encs x) W1 fun e W' =>
      (e = .returned (.bool true) ∧ J (pre ++ [x]) W' ∧ Outside n₀ W.heap.size W1 W') ∨ (e = .returned (.bool false) ∧ Jx (pre ++ [x]) W')) →
    J [] W →
    Calls P gf (rb ++ #[.func (.yield l) #[] #[]] ++ lb) W fun e W' => (∃ v, e = .returned v) ∧ (J S W' ∨ ∃ pre, pre <+: S ∧ Jx pre W')

theorem SeqX.toK {α : Type} {P : Program} {gf : Nat} {rb lb : Array Value} {encs : α → Array Value} {n₀ : Nat} {K : World → Prop} {S : List α} {w : World} (h : SeqX P gf rb lb encs n₀ K S w) : SeqK P gf rb lb encs n₀ K S w := by
  intro l J Jx W hW hJ hK hJx hY h0
  refine (h l (fun s g A => g = none ∧ J s A) Jx W hW (fun s g A B q hb _ => ⟨q.1, hJ _ _ _ q.2 hb⟩) (fun s g A q b k hk => by rw [q.1] at hk; cases hk) (fun s g A q => hK _ _ q.2) hJx ?_ ⟨rfl, h0⟩).mono ?_
  · rintro pre x g W1 ⟨rfl, q⟩ hz hpre
    obtain ⟨fn, tmps, assign, body, hy, hR⟩ := hY pre x W1 q hpre
    refine ⟨fn, tmps, assign, body, hy, hR.mono ?_⟩
    rintro e W' (⟨rfl, k1, k2⟩ | ⟨rfl, k1⟩)
    · exact .inl ⟨rfl, none, ⟨rfl, k1⟩, k2.below, fun k hk hl _ => k2.beyond k hk hl, fun b k hk => by cases hk⟩
    · exact .inr ⟨rfl, k1⟩
  · rintro e W' ⟨hv, ⟨g, _, q⟩ | q⟩
    · exact ⟨hv, .inl q⟩
    · exact ⟨hv, .inr q⟩

/-- The statement. -/
theorem wp_rangeFunc_K {α : Type} {P : Program} {g : Operand} {ps : Array Tmp} {assign body : Code} {Q : Exit → Act → World → Prop} {a : Act} {w : World}
    {gf : Nat} {rb lb : Array Value} (hg : a.eval g = .func (.func gf) rb lb) (eg : ∀ args w, (callFunc gf args).run P w = .ok (.enter gf args) w)
    {encs : α → Array Value} {n₀ : Nat} (hn₀ : n₀ ≤ w.heap.size) {S : List α} {K : World → Prop} (hseq : SeqK P gf rb lb encs n₀ K S w) (hps : ∀ x, (encs x).size = ps.size)
    (I : List α → World → Prop) (Ix : Code → List α → World → Prop) (hI : ∀ s A B, I s A → Below w.heap.size A B → I s B) (hIK : ∀ s A, I s A → K A) (hIx : ∀ c s A B, Ix c s A → Below w.heap.size A B → Ix c s B) (h0 : I [] w)
    (Ax : α → Act → World → Prop) (hAx : ∀ x a' A l r o, Ax x a' A → A.heap[l]? = some (.loop r) → Ax x a' (A.putObj l o))
    (hassign : ∀ (l : Nat) (pre : List α) (x : α) (W : World) (K' : Act → World → Prop), w.heap.size ≤ W.heap.size → I pre W → (∀ a' W', Outside n₀ w.heap.size W W' → I pre W' → Ax x a' W' → K' a' W') →
      assign.wpIn (Fence.wide.inRound l) 0 P (Exit.then K' (fun _ _ _ => False)) { tmps := (ps.zip (encs x)).foldl (fun t (p, v) => t.setIfInBounds p v) a.tmps, defers := [] } W)
    (hbody : ∀ (l : Nat) (pre : List α) (x : α) (a' : Act) (W : World), w.heap.size ≤ W.heap.size → I pre W → Ax x a' W → pre ++ [x] <+: S → body.wpIn (Fence.wide.inRound l) 0 P (postT n₀ w.heap.size I Ix (pre ++ [x]) W) a' W)
    (hdone : ∀ (D : Nat) (W : World), w.heap.size ≤ D → I S W → W.heap[D]? = some (.deferred (some [])) → Q .normal { a with defers := { target := .collected D, args := #[] } :: a.defers } W)
    (hstop : ∀ (D : Nat) (c : Code) (pre : List α) (W : World), w.heap.size ≤ D → pre <+: S → Ix c pre W → W.heap[D]? = some (.deferred (some [])) → c.wp P Q { a with defers := { target := .collected D, args := #[] } :: a.defers } W) :
    (Code.rangeFunc g ps assign body).wp P Q a w := by
  refine (wpIn_wide (n := 0)).1 (wpIn_rangeFunc ?_)
  intro fn hfn
  obtain ⟨rec, hrec⟩ : ∃ rec : LoopState → Option Code → Loop, rec = fun st pe => { state := st, pending := pe, fn, tmps := a.tmps, params := ps, assign, body, defers := w.heap.size } := ⟨_, rfl⟩
  obtain ⟨W1, hW1⟩ : ∃ W1, (w.alloc (.deferred (some []))).alloc (.loop (rec .ready none)) = W1 := ⟨_, rfl⟩
  have hL1 : W1.heap[w.heap.size + 1]? = some (.loop (rec .ready none)) := by
    rw [← hW1]; have := World.alloc_heap_new (w.alloc (.deferred (some []))) (.loop (rec .ready none)); rwa [World.size_alloc] at this
  have hK1 : W1.heap[w.heap.size]? = some (.deferred (some [])) := by
    rw [← hW1]; exact (Below.heap_alloc _ _ _ (by simp)).trans (World.alloc_heap_new w _)
  have hb1 : Below w.heap.size w W1 := by
    rw [← hW1]; exact ((Below.refl _ w).alloc (Nat.le_refl _) _).alloc (by simp) _
  have hs1 : W1.heap.size = w.heap.size + 2 := by rw [← hW1]; simp
  have hI1 : I [] W1 := hI _ _ _ h0 hb1
  refine ⟨w.heap.size + 1, [{ target := .collected w.heap.size, args := #[] }], W1, { target := .fn (.func gf) lb, args := rb ++ #[.func (.yield (w.heap.size + 1)) #[] #[]] }, W1, gf,
    rb ++ #[.func (.yield (w.heap.size + 1)) #[] #[]] ++ lb, W1, ?_, ?_, ?_, ?_, fun h => by simp [Fence.wide] at h, ?_⟩
  · rw [← hW1, hrec]; exact run_enterLoop_outer _ _ _ _ _
  · simp only [resolve, hg]
    simp [go_sem, Deferred.ofValue]
  · intro f' hf'; trivial
  · simp [invoke, go_sem, eg]
  · refine callsIn_wide.2 ?_
    refine (hseq (w.heap.size + 1)
      (fun pre W => I pre W ∧ W.heap[w.heap.size + 1]? = some (.loop (rec .ready none)) ∧ W.heap[w.heap.size]? = some (.deferred (some [])) ∧ w.heap.size ≤ W.heap.size)
      (fun pre W => ∃ c, Ix c pre W ∧ W.heap[w.heap.size + 1]? = some (.loop (rec .done (some c))) ∧ W.heap[w.heap.size]? = some (.deferred (some [])))
      W1 hb1
      (fun s A B hs hg' => ⟨hI s A B hs.1 (hg'.mono (by omega)), (hg'.block _ (by omega)).trans hs.2.1, (hg'.block _ (by omega)).trans hs.2.2.1, Nat.le_trans hs.2.2.2 hg'.size⟩)
      (fun s A hs => hIK s A hs.1)
      (fun s A B hs hg' => by
        obtain ⟨c, hc, hl, hk⟩ := hs
        exact ⟨c, hIx c s A B hc (hg'.mono (by omega)), (hg'.block _ (by omega)).trans hl, (hg'.block _ (by omega)).trans hk⟩)
      ?_ ⟨hI1, hL1, hK1, hb1.size⟩).mono ?_
    · -- one round
      rintro pre x W ⟨hi, hl, hk, hsz⟩ hpre
      have hlt : w.heap.size + 1 < W.heap.size := (Array.getElem?_eq_some_iff.1 hl).1
      have hy := run_yield (P := P) (args := encs x) hl (by rw [hrec]; exact hps x)
      rw [hrec] at hy
      refine ⟨fn, _, assign, body, hy, roundIn_of_wpIn trivial (hassign _ pre x W _ hsz hi ?_)⟩
      clear hy
      intro a' Wa hoa hia hax
      have hla := (hoa.beyond _ (by omega) hlt).trans hl
      have hka := (hoa.beyond _ (Nat.le_refl _) (by omega)).trans hk
      have hlta : w.heap.size + 1 < Wa.heap.size := Nat.lt_of_lt_of_le hlt hoa.below.size
      refine ⟨_, run_beginRound hla (by rw [hrec]), ?_⟩
      have hl2 : (Wa.putObj (w.heap.size + 1) (.loop { rec .ready none with state := .busy })).heap[w.heap.size + 1]? = some (.loop { rec .ready none with state := .busy }) := World.putObj_heap_same hlta
      have hk2 : (Wa.putObj (w.heap.size + 1) (.loop { rec .ready none with state := .busy })).heap[w.heap.size]? = some (.deferred (some [])) := (World.putObj_heap_other (by omega)).trans hka
      have hb2 : Below w.heap.size Wa (Wa.putObj (w.heap.size + 1) (.loop { rec .ready none with state := .busy })) := below_putObj _ _ _ (by omega)
      refine wpIn_mono (hbody _ pre x a' _ (by simp; omega) (hI _ _ _ hia hb2) (hAx _ _ _ _ _ _ hax hla) hpre) ?_
      have fin : ∀ (jump : Option Code) (W3 : World), Outside n₀ w.heap.size (Wa.putObj (w.heap.size + 1) (.loop { rec .ready none with state := .busy })) W3 →
          (Instr.endRound (w.heap.size + 1) jump).run P W3 = .ok (.bool jump.isNone) (W3.putObj (w.heap.size + 1) (.loop (rec (if jump.isNone then .ready else .done) jump))) ∧
          (W3.putObj (w.heap.size + 1) (.loop (rec (if jump.isNone then .ready else .done) jump))).heap[w.heap.size + 1]? = some (.loop (rec (if jump.isNone then .ready else .done) jump)) ∧
          (W3.putObj (w.heap.size + 1) (.loop (rec (if jump.isNone then .ready else .done) jump))).heap[w.heap.size]? = some (.deferred (some [])) ∧
          Below w.heap.size W3 (W3.putObj (w.heap.size + 1) (.loop (rec (if jump.isNone then .ready else .done) jump))) ∧
          Outside n₀ W1.heap.size W (W3.putObj (w.heap.size + 1) (.loop (rec (if jump.isNone then .ready else .done) jump))) := fun jump W3 ho3 => by
        have hl3 := (ho3.beyond (w.heap.size + 1) (by omega) (by simp; omega)).trans hl2
        have hk3 := (ho3.beyond w.heap.size (Nat.le_refl _) (by simp; omega)).trans hk2
        have hr := run_endRound (P := P) jump hl3
        have hsz3 : w.heap.size + 1 < W3.heap.size := (Array.getElem?_eq_some_iff.1 hl3).1
        refine ⟨?_, World.putObj_heap_same hsz3, (World.putObj_heap_other (by omega)).trans hk3, below_putObj _ _ _ (by omega), ?_⟩
        · rw [hrec] at hr ⊢; exact hr
        · have e1 : Outside n₀ W1.heap.size Wa (Wa.putObj (w.heap.size + 1) (.loop { rec .ready none with state := .busy })) := Outside.of_grown (grown_putObj _ _ _) (by omega) (by omega) (by omega)
          have e2 : Outside n₀ W1.heap.size W3 (W3.putObj (w.heap.size + 1) (.loop (rec (if jump.isNone then .ready else .done) jump))) := Outside.of_grown (grown_putObj _ _ _) (by omega) (by omega) (by omega)
          exact (((hoa.weak (by omega)).trans e1).trans (ho3.weak (by omega))).trans e2
      rintro e a3 W3 hp
      cases e with
      | normal =>
        obtain ⟨hk3, hi3⟩ := hp
        obtain ⟨hr, hl4, hk4, hb4, ho4⟩ := fin none W3 hk3
        exact ⟨_, _, hr, .inl ⟨rfl, ⟨hI _ _ _ hi3 hb4, hl4, hk4, Nat.le_trans (by have := hk3.below.size; simp at this; omega) hb4.size⟩, ho4⟩⟩
      | ret =>
        obtain ⟨hk3, hi3⟩ := hp
        obtain ⟨hr, hl4, hk4, hb4, ho4⟩ := fin (some .ret) W3 hk3
        exact ⟨_, _, hr, .inr ⟨rfl, .ret, hIx _ _ _ _ hi3 hb4, hl4, hk4⟩⟩
      | exit id =>
        obtain ⟨hk3, hi3⟩ := hp
        obtain ⟨hr, hl4, hk4, hb4, ho4⟩ := fin (some (.exit id)) W3 hk3
        exact ⟨_, _, hr, .inr ⟨rfl, .exit id, hIx _ _ _ _ hi3 hb4, hl4, hk4⟩⟩
      | goto t =>
        obtain ⟨hk3, hi3⟩ := hp
        obtain ⟨hr, hl4, hk4, hb4, ho4⟩ := fin (some (.goto t)) W3 hk3
        exact ⟨_, _, hr, .inr ⟨rfl, .goto t, hIx _ _ _ _ hi3 hb4, hl4, hk4⟩⟩
      | panic ch => exact hp.elim
      | outgrown => exact hp.elim
    · -- behind the iterator
      rintro e W2 ⟨⟨v, rfl⟩, (⟨hi, hl, hk, _⟩ | ⟨pre, hSp, c, hi, hl, hk⟩)⟩
      · exact ⟨none, _, by have := run_endLoop (P := P) hl (by rw [hrec]; simp); rw [hrec] at this; exact this, hdone _ _ (Nat.le_refl _) (hI _ _ _ hi (below_putObj _ _ _ (by omega))) ((World.putObj_heap_other (by omega)).trans hk)⟩
      · exact ⟨some c, _, by have := run_endLoop (P := P) hl (by rw [hrec]; simp); rw [hrec] at this; exact this, (wpIn_wide (n := 0)).2 (hstop _ c pre _ (Nat.le_refl _) hSp (hIx _ _ _ _ hi (below_putObj _ _ _ (by omega))) ((World.putObj_heap_other (by omega)).trans hk))⟩
end Go.Proofs.YtioalnncjahlnaaGreatDoor

namespace Go.Proofs.YtioalnncjahlnaaGreatDoor
open Go.ChangeShapes Go.WideShapes Go.ChangeAt Go.RowKit Go.Shelf
attribute [local irreducible] Go.Calls
attribute [local go_sem] Oper.semAt_some

/-- What yield is handed. -/
def encK (x : Nat) : Array Value := #[.int .i64 x]
/-- What the iterator reads. -/
def ItK (l : List Prt) (a : Option Addr) (cap p ba bl : Nat) (W : World) : Prop := Blk W ba #[.int .i64 p] 3 ∧ Blk W bl #[.slice a l.length cap] 22 ∧ ArgP W a l
theorem children_c (a : Option Addr) (n cap p : Nat) (w : World) : Calls Tryz.prog 73 #[.slice a n cap, .int .i64 p] w fun e w' => e = .returned (.func (.func 94) #[] #[.pointer (some ⟨w.heap.size + 1, 0, none⟩), .pointer (some ⟨w.heap.size, 0, none⟩)]) ∧ Blk w' (w.heap.size + 1) #[.int .i64 p] 3 ∧ Blk w' w.heap.size #[.slice a n cap] 22 ∧ Below w.heap.size w w' := by
  go_enter Tryz.func73, Tryz.ntmps73
  go_wp2
  go_ret
  exact ⟨rfl, Blk.made_at _ _ _ _ (by simp), (Blk.made _ _ _).alloc _, by (repeat (first | exact Below.refl _ _ | assumption | refine balloc ?_ _ | refine below_drewN ?_ _ | refine bstep (by assumption) ?_ | refine bstep (Past.prop _) ?_ | refine Below.setCell ?_ (by first | exact Nat.le_refl _ | (simp; done) | (simp; omega)) _))⟩
set_option maxRecDepth 100000 in
set_option maxHeartbeats 2000000 in
theorem kids_it (l : List Prt) (a : Option Addr) (cap p ba bl n0 : Nat) (w : World) (hl : l.length ≤ 1000000) (ht : (treeS l).2 = 0) (hp : p < l.length) :
    SeqX Tryz.prog 94 #[] #[.pointer (some ⟨ba, 0, none⟩), .pointer (some ⟨bl, 0, none⟩)] encK n0 (ItK l a cap p ba bl) (kidsS l p) w := by
  intro l' J Jx W hW hJ hJg hK hJx hY h0
  have hH := tree_hang ht
  have hkd := hidE (fun k hk => hH.kid p k hp hk)
  have hup := hidE (hH.up p hp).2
  have hks := tree_kids ht hp
  rw [show l.getD p ⟨0, 0, 0, 0, 0⟩ = prN l p from rfl] at hks
  obtain ⟨k1, k2, k3⟩ := hK _ _ _ h0
  obtain ⟨b, off, rfl, hbb, hc⟩ := k3 (by omega)
  have c4 := (hc.get hp).2.2.2.2
  rw [show l.getD p pr0 = prN l p from rfl] at c4
  have b0 := k1.cell 0; have b1 := k2.cell 0; have z0 := k1.lt; have z1 := k2.lt
  simp at b0 b1
  obtain ⟨K, hKe⟩ : ∃ K : Nat, (prN l p).kids = (K : Int) := ⟨(prN l p).kids.toNat, by omega⟩
  have HKS := hidE (show kidsS l p = kidsGo l K (p + 1) by unfold kidsS; rw [show l.getD p ⟨0, 0, 0, 0, 0⟩ = prN l p from rfl, hKe]; rfl)
  rw [hKe] at c4
  have hKN : (prN l p).kids.toNat = K := by omega
  rw [hKN] at hkd
  have hK16 : K ≤ 16 := by omega
  have H0 := hidE h0; have HK := hidE hK; have HY := hidE hY; have HJ := hidE hJ; have HJG := hidE hJg
  clear hJ hJg hJx hY h0 hK hW hH hks hKe hKN k1 k2 k3 hc
  have w1 : IntKind.i64.wrap ((p : Int) + 1) = (p : Int) + 1 := IntWalk.i64_in _ (by omega)
  show Calls Tryz.prog 94 #[.func (.yield l') #[] #[], .pointer (some ⟨ba, 0, none⟩), .pointer (some ⟨bl, 0, none⟩)] W _
  go_enter Tryz.func94, Tryz.ntmps94
  go_wp2_with fail
  go_loopg [4, 12] K (fun gh v4 v12 wr => ∃ (k : Nat) (pre : List Nat) (g : Option (Nat × Nat)), k ≤ K ∧ K - k ≤ gh ∧ v12 = .int .i64 k ∧ v4 = .int .i64 (kidAt l (p + 1) k) ∧ pre ++ kidsGo l (K - k) (kidAt l (p + 1) k) = kidsS l p ∧ J pre g wr ∧ W.heap.size ≤ wr.heap.size)
  case atStart => exact ⟨0, [], none, Nat.zero_le _, Nat.le_refl _, rfl, by simp [kidAt], HKS.out.symm, H0.out, Nat.le_refl _⟩
  case round =>
    obtain ⟨k, pre, g, hkk, hgh, rfl, rfl, hpre, hJ1, hsz⟩ := hrel
    have HJ1 := hidE hJ1; have HPRE := hidE hpre; have HG := hidE hgh; have HSZ := hidE hsz
    clear hJ1 hpre hgh hsz c4 b0 b1 z0 z1
    obtain ⟨wo, hwo⟩ : ∃ wo : World, wo = wr := ⟨_, rfl⟩
    by_cases hlt : k < K
    · have d1 : decide ((k : Int) < (K : Int)) = true := decide_eq_true (by omega)
      have d1' : decide (k < K) = true := decide_eq_true hlt
      have HP2 := hidE (show pre ++ [kidAt l (p + 1) k] ++ kidsGo l (K - (k + 1)) (kidAt l (p + 1) (k + 1)) = kidsS l p by
        rw [← HPRE.out, show K - k = K - (k + 1) + 1 by omega, List.append_assoc]; rfl)
      have hpx : pre ++ [kidAt l (p + 1) k] <+: kidsS l p := ⟨_, HP2.out⟩
      obtain ⟨fn, tmps, assign, body, hy, hR⟩ := HY.out pre _ g _ HJ1.out HSZ.out hpx
      dsimp only [encK] at hy
      have HPX := hidE hpx
      have h1 := hkd.out k hlt
      have h3 := hup.out
      have hql : kidAt l (p + 1) k < l.length := by omega
      have HKN := hidE (show kidAt l (p + 1) (k + 1) = endS l (kidAt l (p + 1) k) from rfl)
      clear HPRE hpx h1 h3
      generalize kidAt l (p + 1) k = q at *
      have HE := hidE (fun w' hA' => end8_c l (some ⟨b, off, none⟩) cap hl ht _ q w' (Nat.le_refl _) hql hA')
      go_upto_region 3 with fail
      refine (wpIn_wide (n := 0)).1 ?_
      gi_wp2
      refine ⟨rfl, hR.mono ?_⟩
      clear hy hR
      rintro e W' (⟨rfl, g', hJ', hO, _, _⟩ | ⟨rfl, hJx'⟩)
      · obtain ⟨k1, k2, k3⟩ := HK.out _ _ _ hJ'
        have b1 := k2.cell 0; have z1 := k2.lt
        simp at b1
        have HJ' := hidE hJ'; have HO := hidE hO; have K3 := hidE k3
        clear k1 k2 k3 hJ' hO
        generalize endS l q = q2 at *
        gi_wp2
        go_wp2_with (go_at_call 95; (with_reducible refine (HE.out _ K3.out).mono ?_); rintro e w2 ⟨rfl, hb2⟩)
        go_roundg (K - (k + 1))
        case measure => have := HG.out; omega
        case rel =>
          have hs1 := HO.out.size
          have hs2 := HSZ.out
          exact ⟨k + 1, pre ++ [q], g', by omega, Nat.le_refl _, by go_num, by rw [HKN.out], HP2.out, HJ.out _ _ _ _ HJ'.out (hb2.mono (by omega)) (fun b k e => hb2.block k (HJG.out _ _ _ HJ'.out b k e).2), by have := hb2.size; omega⟩
      · gi_wp2
        go_wp2
        refine bodyPost_ret (results_none rfl _ _ _) rfl ?_
        exact ⟨⟨_, rfl⟩, .inr ⟨_, HPX.out, hJx'⟩⟩
    · obtain rfl : k = K := by omega
      have d1 : decide ((k : Int) < (k : Int)) = false := decide_eq_false (by omega)
      have d1' : decide (k < k) = false := decide_eq_false (by omega)
      have HP2 := hidE (show pre = kidsS l p by rw [← HPRE.out, Nat.sub_self]; simp [kidsGo])
      clear HPRE
      go_wp2
      go_end0
      exact ⟨⟨_, rfl⟩, .inl ⟨g, by rw [← HP2.out]; exact HJ1.out⟩⟩
end Go.Proofs.YtioalnncjahlnaaGreatDoor

namespace Go.Proofs.YtioalnncjahlnaaGreatDoor
open Go.ChangeShapes Go.WideShapes Go.ChangeAt Go.RowKit
attribute [local irreducible] Go.Calls

theorem new8_at (w : World) (cs : Array Value) (t : TypeId) (k : Nat) (h : k = w.heap.size) : ∀ j u, cs.toList[j]? = some u → (w.alloc (.cells cs t)).cell? ((⟨k, 0, none⟩ : Addr).add j) = some u := h ▸ new_cellsB w cs t
theorem may_zero {l : List Prt} {z : Int} (h : mayS l z = 0) : ∃ p : Nat, z = (p : Int) ∧ p < l.length ∧ (treeS l).2 = 0 := by
  obtain ⟨h1, h2, h3⟩ := may_tree h
  exact ⟨z.toNat, by omega, by omega, h1⟩
end Go.Proofs.YtioalnncjahlnaaGreatDoor

namespace Go.Proofs.YtioalnncjahlnaaGreatDoor
open Go.ChangeShapes Go.WideShapes Go.ChangeAt Go.RowKit Go.Shelf
attribute [local irreducible] Go.Calls
attribute [local go_sem] Oper.semAt_some

theorem kidsS_length {l : List Prt} (ht : (treeS l).2 = 0) {p : Nat} (hp : p < l.length) : (kidsS l p).length ≤ 16 := by
  unfold kidsS
  rw [kidsGo_len]
  have := tree_kids ht hp
  omega
theorem itK_keep {l : List Prt} {a : Option Addr} {cap p ba bl n : Nat} {A B : World} (h : ItK l a cap p ba bl A) (h1 : ba < n) (h2 : bl < n) (h3 : 0 < l.length → ∃ b, (∃ o, a = some ⟨b, o, none⟩) ∧ b < n) (hb : Below n A B) : ItK l a cap p ba bl B := by
  refine ⟨h.1.below hb h1, h.2.1.below hb h2, fun hl => ?_⟩
  obtain ⟨b, off, rfl, q1, q2⟩ := h.2.2 hl
  obtain ⟨b', ⟨o', e⟩, q⟩ := h3 hl
  cases e
  exact ⟨b, off, rfl, Nat.lt_of_lt_of_le q1 hb.size, q2.below hb q⟩
/-- Between two rounds. -/
structure KidI (w : World) (l : List Prt) (b off cap p ba bl P : Nat) (pre : List Nat) (g : Option (Nat × Nat)) (W : World) : Prop where
  own : OwnI w P 29 3 1 pre.length (cellsK .i64 (natsI pre)) g W
  it : ItK l (some ⟨b, off, none⟩) cap p ba bl W
  base : ∀ b k, g = some (b, k) → ba < b
set_option maxRecDepth 100000 in
set_option maxHeartbeats 2000000 in
theorem shkids_c (l : List Prt) (z : Int) (a : Option Addr) (cap : Nat) (w : World) (hl : l.length ≤ 100000) (hA : ArgP w a l) (hz : -9223372036854775808 ≤ z ∧ z ≤ 9223372036854775807) :
    Calls Tryz.prog 52 #[.slice a l.length cap, .int .i64 z] w fun e w' => ∃ v, e = .returned (.tuple #[v, .int .i64 (mayS l z)]) ∧ SliN w' v (if mayS l z = 0 then kidsS l z.toNat else []) ∧ Below w.heap.size w w' ∧ (∀ k, v.ownBlock = some k → w.heap.size ≤ k) := by
  have HW := hidE (wrong8_c l z a cap w (by omega) hA hz)
  by_cases hm : mayS l z = 0
  · rw [if_pos hm]
    obtain ⟨p, rfl, hp, ht⟩ := may_zero hm
    rw [hm] at HW ⊢
    rw [Int.toNat_natCast]
    obtain ⟨b, off, rfl, hbb, hc⟩ := hA (by omega)
    have HA := hidE (show ArgP w (some ⟨b, off, none⟩) l from hA)
    have HLN := hidE (kidsS_length ht hp)
    clear hA hm hc
    refine (callsIn_wide (n := 0)).1 (callsIn_of_wp_marks Tryz.func52 rfl trivial ((wpIn_wide (n := 0)).2 ?_))
    simp only [Tryz.ntmps52, List.size_toArray, List.length_cons, List.length_nil, Nat.reduceAdd, Nat.reduceSub, Array.replicate_succ, Array.replicate_zero, List.push_toArray, List.append_toArray, List.nil_append, List.cons_append]
    go_wp2_with fail
    ((with_reducible refine HW.out.mono ?_); rintro e w1 ⟨rfl, hb1⟩)
    go_wp2_with fail
    obtain ⟨w2, hw2⟩ : ∃ w2, w2 = w1.alloc (Obj.cells #[.slice none 0 0] 29) := ⟨_, rfl⟩
    have hz2 : w2.heap.size = w1.heap.size + 1 := by rw [hw2]; simp
    have hb2 : Below w.heap.size w w2 := by rw [hw2]; exact hb1.alloc hb1.size _
    have hB2 : Blk w2 w1.heap.size #[.slice none 0 0] 29 := by rw [hw2]; exact Blk.made _ _ _
    have hwp : w.heap.size ≤ w1.heap.size := hb1.size
    rw [← hw2]
    clear hw2 hb1
    ((with_reducible refine (children_c _ _ _ _ _).mono ?_); rintro e w3 ⟨rfl, hba, hbl, hb3⟩)
    have hb3z := hb3.size
    rw [hz2] at hba hbl hb3z
    have hz3 := hba.lt
    have hb13 := hb2.trans (hb3.mono hb2.size)
    have hI0 : KidI w l b off cap p (w1.heap.size + 1 + 1) (w1.heap.size + 1) w1.heap.size [] none w3 :=
      ⟨⟨.slice none 0 0, w3.heap.size, hB2.past hb3, hb13, own_nil _ _ _, by omega, Nat.le_refl _, .inl ⟨rfl, rfl⟩⟩, ⟨hba, hbl, HA.out.past hb13⟩, fun b k e => by cases e⟩
    have HBB := hidE hb13
    clear hba hbl hb3 hb2 hB2 hb13 HW
    go_wp2
    refine wp_rangeFunc_X (n₀ := w.heap.size) (S := kidsS l p) rfl (enters_of Tryz.func94 (by kernel_rfl) rfl) HBB.out.size (kids_it l (some ⟨b, off, none⟩) cap p (w1.heap.size + 1 + 1) (w1.heap.size + 1) w.heap.size w3 (by omega) ht hp) (fun _ => rfl)
      (KidI w l b off cap p (w1.heap.size + 1 + 1) (w1.heap.size + 1) w1.heap.size) (fun s g A B h hb hk => ⟨ownI_keep (m := w3.heap.size) (by omega) (by omega) h.own hb hk, itK_keep h.it (by omega) (by omega) (fun _ => ⟨b, ⟨off, rfl⟩, by omega⟩) hb, h.base⟩) (fun s g A h => ownI_own h.own) (fun s g A h => h.it) hI0
      (fun _ _ => False) (fun s A B h hb => h)
      (fun x a1 W => ∃ (u0 u1 u2 u3 u4 u5 u6 u9 u10 u11 u12 u13 u14 u15 u16 u17 u18 u19 u20 u21 u22 u23 : Value), a1 = { tmps := #[u0, u1, u2, u3, u4, u5, u6, .pointer (some ⟨w1.heap.size, 0, none⟩), .int .i64 x, u9, u10, u11, u12, u13, u14, u15, u16, u17, u18, u19, u20, u21, u22, u23], defers := [] })
      ?hax ?assign ?body ?done ?stop
    case hax =>
      rintro x a1 A l r o ⟨u0, u1, u2, u3, u4, u5, u6, u9, u10, u11, u12, u13, u14, u15, u16, u17, u18, u19, u20, u21, u22, u23, h3⟩ hlr
      exact ⟨_, _, _, _, _, _, _, _, _, _, _, _, _, _, _, _, _, _, _, _, _, _, h3⟩
    case assign =>
      intro l pre x g W K hsz hi hK
      dsimp only [encK]
      gi_wp2
      exact hK _ _ (Below.refl _ _) hi ⟨_, _, _, _, _, _, _, _, _, _, _, _, _, _, _, _, _, _, _, _, _, _, rfl⟩
    case body =>
      rintro l' pre x g a1 W hsz hi ⟨u0, u1, u2, u3, u4, u5, u6, u9, u10, u11, u12, u13, u14, u15, u16, u17, u18, u19, u20, u21, u22, u23, rfl⟩ hpre
      obtain ⟨pre0, hpre0⟩ := hpre
      have hlen : pre.length < 16 := by
        have := HLN.out
        have h3 := congrArg List.length hpre0
        simp only [List.length_append, List.length_cons, List.length_nil] at h3
        omega
      obtain ⟨av, cp, γ, i1, i2, i3, i4, i5, i6, i7⟩ := ownI_base hi.own
      have t0 := i1.cell 0; have t1 := i1.lt; have tf := i1.free
      simp at t0
      obtain ⟨ix, hix, hz0, hzz, hz4⟩ := info_parts Tryz.infoIntL
      have HI := hidE hix; have HZ0 := hidE hz0; have HZ1 := hidE hzz; have HZ2 := hidE hz4
      have I1 := hidE i1; have I2 := hidE i2; have I3 := hidE i3; have I6 := hidE i6; have I7 := hidE i7; have HLI := hidE hi
      clear hI0 HLN hpre0 hi hix hz0 hzz hz4 i1 i2 i3 i6 i7
      gi_wp2_with (gi_at_builtin; refine wpListIn_append_own _ rfl (.tmp 19) (.tmp 21) 29 rfl γ 3 ix (.int .i64 0) 1 8 Tryz.underlying29 HI.out HZ0.out HZ1.out HZ2.out rfl (by decide) _ _ _ rfl (own_kept I3.out (fun k e => keptA (own_lt I3.out e) _)) ⟨_, 0, none⟩ 1 1 [.int .i64 x] rfl rfl (new_cellsB _ #[.int .i64 x] 3) (by intro y hy; simp at hy; rcases hy with rfl; rfl) (by unfold maxLen; omega) (by omega) (by simp; omega) ?_; intro v4 w4 hown4 hgrow4 hnil4; obtain ⟨a4, c4, rfl⟩ := own_sli hown4; have HG4 := hidE hgrow4; have HO4 := hidE hown4; have HN4 := hidE hnil4; have BP4 : Blk w4 w1.heap.size #[.slice av pre.length cp] 29 := (I1.out.alloc _).grown HG4.out (fun e => by have := (I6.out _ e.symm).2; omega); have g4 := BP4.cell 0; have g5 := BP4.free; have g6 := BP4.lt; simp at g4; have HB4 := hidE BP4; clear hgrow4 hown4 hnil4 BP4 t0 t1 tf)
      have hv4 : (Value.slice a4 (pre.length + 1) c4) ≠ .slice none 0 0 := fun e => by have := (HN4.out.1 e).2; omega
      obtain ⟨k4, hk4⟩ := own_has HO4.out hv4
      have hγ : w1.heap.size + 1 + 1 < γ := by
        rcases I7.out with h | ⟨j, h⟩
        · omega
        · exact HLI.out.base _ _ h
      have HGA := hidE (show ∀ k, (Value.slice av pre.length cp).ownBlock = some k → γ ≤ k from fun k e => (I6.out k e).2)
      have hown : (w4.setCell ⟨w1.heap.size, 0, none⟩ (Value.slice a4 (pre.length + 1) c4)).ownsRow γ 3 1 (Value.slice a4 (pre.length + 1) c4) (pre ++ [x]).length (cellsK .i64 (natsI (pre ++ [x]))) := by
        rw [natsI_app, cellsK_app, List.length_append]
        exact own_kept HO4.out (fun k e => keptS (by have := own_block HO4.out e; omega) _)
      have hz4 : W.heap.size ≤ w4.heap.size := by have := HG4.out.size; simp at this; omega
      have hzw := I2.out.size
      have hb4 : Below w.heap.size W (w4.setCell ⟨w1.heap.size, 0, none⟩ (Value.slice a4 (pre.length + 1) c4)) :=
        (Below.grown ((Below.refl _ W).alloc (by omega) _) HG4.out (by simp; omega) (fun k e => by have := HGA.out k e; omega)).setCell (p := ⟨w1.heap.size, 0, none⟩) (by simp; omega) _
      have hq : ∀ {k : Nat} {cs : Array Value} {t : TypeId}, Blk W k cs t → k ≤ w1.heap.size + 1 + 1 → k ≠ w1.heap.size → Blk (w4.setCell ⟨w1.heap.size, 0, none⟩ (Value.slice a4 (pre.length + 1) c4)) k cs t := fun h h1 h2 =>
        ((h.alloc _).grown HG4.out (fun e => by have := HGA.out _ e.symm; omega)).other h2 _
      have hArg : ArgP (w4.setCell ⟨w1.heap.size, 0, none⟩ (Value.slice a4 (pre.length + 1) c4)) (some ⟨b, off, none⟩) l := HA.out.past (I2.out.trans hb4)
      refine ⟨some (γ, k4), ⟨⟨(Value.slice a4 (pre.length + 1) c4), γ, by simpa using HB4.out.set 0 (Value.slice a4 (pre.length + 1) c4), I2.out.trans hb4, hown, i4, by simp [World.setCell]; omega, .inr ⟨k4, rfl, hk4⟩⟩, ⟨hq HLI.out.it.1 (by omega) (by omega), hq HLI.out.it.2.1 (by omega) (by omega), hArg⟩, ?_⟩, hb4, fun k e1 e2 e3 => ?_, fun b k e => ?_⟩
      · intro b k e
        cases e
        exact hγ
      · refine (keptS (by omega) _).trans ((HG4.out.block k (by simp; omega) (fun e => ?_)).trans (keptA (by omega) _))
        exact e3 _ (I6.out k e.symm).1
      · cases e
        exact I7.out
    case done =>
      rintro D g W hD hi hgd hK
      obtain ⟨av, cp, γ, i1, i2, i3, i4, i5, i6, i7⟩ := ownI_base hi.own
      subst hD
      have hDz : w3.heap.size < W.heap.size := (Array.getElem?_eq_some_iff.1 hK).1
      have c0 := i1.cell 0; have z3' := i1.lt
      simp at c0
      have hgD : ∀ k, (Value.slice av (kidsS l p).length cp).ownBlock = some k → w3.heap.size + 2 ≤ k := fun k e => by
        obtain ⟨q1, q2⟩ := i6 k e
        have := hgd _ _ q1
        omega
      have HKF := hidE hK; have HO := hidE i3; have HB := hidE i2; have HGD := hidE hgD
      clear hI0 hi i1 i3 i2 i6 i7 hgd hK hgD
      go_wp2
      refine ⟨by simp, .inl ⟨_, _, rfl, run_takeDeferred HKF.out, ?_⟩⟩
      refine ⟨.tuple #[.slice av (kidsS l p).length cp, .int .i64 0], by simp [results, Tryz.results52, go_sem], ?_⟩
      have hO := own_kept (B := W.putObj w3.heap.size (.deferred none)) HO.out (fun k e => by
        have := HGD.out k e
        exact World.putObj_heap_other (by omega))
      refine ⟨_, rfl, sliN_own hO, HB.out.trans (below_putObj _ _ _ HBB.out.size), fun k e => ?_⟩
      have := HGD.out k e
      omega
    case stop =>
      rintro D pre W hD hpre h hK
      exact h.elim
  · rw [if_neg hm]
    have q : (mayS l z != 0) = true := bne_iff_ne.2 hm
    clear hA hm
    generalize mayS l z = y at *
    go_enter Tryz.func52, Tryz.ntmps52
    go_wp2_with fail
    ((with_reducible refine HW.out.mono ?_); rintro e w1 ⟨rfl, hb1⟩)
    go_wp2
    go_ret2
    exact ⟨_, rfl, sliN_own (own_nil (A := w1) w1.heap.size 1 3), hb1, fun k e => by cases e⟩
end Go.Proofs.YtioalnncjahlnaaGreatDoor

namespace Go.Proofs.YtioalnncjahlnaaGreatDoor
open Go.ChangeShapes Go.WideShapes Go.ChangeAt Go.RowKit
attribute [local irreducible] Go.Calls

theorem same_grown {a wb w' : World} {r : Option Nat} (_ : wb.grownBy w' r) (h : Below a.heap.size a wb) : Below a.heap.size a wb := h
set_option maxHeartbeats 8000000 in
set_option maxRecDepth 100000 in
theorem normalized_c (l : List Prt) (cap : Nat) (a : Option Addr) (hl : l.length ≤ 64) (ht : (treeS l).2 = 0) : ∀ (m : Nat) (y : Prt) (K : Fst) (o deep ink : Nat) (w : World), K.size < m → AtF l o (.cons y K .nil) → (Fst.cons y K .nil).fit deep ink → ArgP w a l → Tab w →
    Calls Tryz.prog 32 #[.slice a l.length cap, .int .i64 o] w (NzPost w (nzT y K o)) := by
  intro m
  induction m with
  | zero => intro y K o deep ink w h; omega
  | succ m ih =>
    intro y K o deep ink w hm hat hfit hA hTab
    have hol := hat.lt
    have HSK := hidE (fun (w' : World) (hA' : ArgP w' a l) => shkids_c l (o : Int) a cap w' (by omega) hA' (by omega))
    have hmay : mayS l (o : Int) = 0 := by unfold mayS; rw [if_neg (by simpa using ht), if_neg (by omega)]
    have hks := kidsS_pos hat
    obtain ⟨b, off, rfl, hbb, hc⟩ := hA (by omega)
    have hhead := hat.head
    have hg0 : l.getD o pr0 = { y with kids := (K.len : Int) } := by rw [List.getD_eq_getElem?_getD, hhead]; rfl
    have hc0 := hc.get hol
    rw [hg0] at hc0
    obtain ⟨p0, p1, p2, p3, p4⟩ := hc0
    simp only at p0 p1 p2 p3 p4
    rw [hmay, if_pos rfl, Int.toNat_natCast, hks] at HSK
    have HAT := hidE hat; have HFIT := hidE hfit; have HA := hidE hA; have HTAB := hidE hTab; have IH := hidE ih
    have hsz : o + K.size < l.length := by
      have := hat.1 K.size (by simp only [Fst.size]; omega)
      have h2 : ((Fst.cons y K .nil).flat)[K.size]? ≠ none := by rw [ne_eq, List.getElem?_eq_none_iff, flat_len]; simp only [Fst.size]; omega
      rw [← this] at h2
      exact (List.getElem?_eq_some_iff.1 (Option.ne_none_iff_exists'.1 h2).choose_spec).1
    have hp16 : K.len ≤ 16 := fitT_len (t := (y, K)) (deep := deep) (ink := ink) ⟨hfit.1, hfit.2.1, hfit.2.2.1, hfit.2.2.2.1⟩
    clear hat hfit hA hTab ih hhead hg0 hc hks hmay
    go_enter Tryz.func32, Tryz.ntmps32
    go_wp2_with fail
    obtain ⟨w1, hw1⟩ : ∃ w1, w1 = w.alloc (.cells #[.int .u8 0, .int .u32 0, .int .u32 0, .int .i64 0, .int .i64 0, .int .i64 0, .slice none 0 0] 79) := ⟨_, rfl⟩
    rw [← hw1]
    have hb1 : Below w.heap.size w w1 := by rw [hw1]; (repeat (first | exact Below.refl _ _ | assumption | refine balloc ?_ _ | refine below_drewN ?_ _ | refine bstep (by assumption) ?_ | refine bstep (Past.prop _) ?_ | refine Below.setCell ?_ (by first | exact Nat.le_refl _ | (simp; done) | (simp; omega)) _))
    have hres : Blk w1 w.heap.size #[.int .u8 0, .int .u32 0, .int .u32 0, .int .i64 0, .int .i64 0, .int .i64 0, .slice none 0 0] 79 := by rw [hw1]; exact Blk.made _ _ _
    have hs1 : w1.heap.size = w.heap.size + 1 := by rw [hw1]; simp
    clear hw1
    ((with_reducible refine (HSK.out w1 (HA.out.past hb1)).mono ?_); rintro e w2 ⟨vk, rfl, hsn, hb2, -⟩)
    obtain ⟨ak, ck, rfl, hk1, hk2, hK⟩ := hsn
    rw [posF_len] at hk1 ⊢
    have hbw2 : Below w.heap.size w w2 := hb1.trans (hb2.mono hb1.size)
    have hws := hbw2.size
    have hres2 := hres.past hb2
    have P0 := (hbw2.cell (p := ⟨b, _, none⟩) hbb).trans p0; have P1 := (hbw2.cell (p := ⟨b, _, none⟩) hbb).trans p1; have P2 := (hbw2.cell (p := ⟨b, _, none⟩) hbb).trans p2; have P3 := (hbw2.cell (p := ⟨b, _, none⟩) hbb).trans p3; have P4 := (hbw2.cell (p := ⟨b, _, none⟩) hbb).trans p4
    have pz := Nat.lt_of_lt_of_le hbb hws
    have hoz : (o : Int) < (l.length : Int) := by omega
    have HRES := hidE hres2; have HK := hidE hK; have HBW2 := hidE hbw2
    have rz := hres2.lt
    clear hb1 hres hs1 hb2 hbw2 hres2 hK p0 p1 p2 p3 p4 HSK
    go_wp2_with fail
    obtain ⟨w3, hw3⟩ : ∃ w3, w3 = w2.alloc (.cells (tcA { y with kids := (o : Int) } K.len (.slice none 0 0)) 79) := ⟨_, rfl⟩
    have hb3 : Below w2.heap.size w2 w3 := by rw [hw3]; (repeat (first | exact Below.refl _ _ | assumption | refine balloc ?_ _ | refine below_drewN ?_ _ | refine bstep (by assumption) ?_ | refine bstep (Past.prop _) ?_ | refine Below.setCell ?_ (by first | exact Nat.le_refl _ | (simp; done) | (simp; omega)) _))
    have hI0 : NzI w2 w2.heap.size y K o [] K (o + 1) l w3 := ⟨rfl, ⟨[], rfl, rfl⟩, HAT.out.kids, ⟨_, _, HFIT.out.2.2.2.1⟩, Nat.le_refl _, ⟨(K.len : Int), .slice none 0 0, by rw [hw3]; exact Blk.made _ _ _, [], own_nil _ _ _, rfl⟩, hb3⟩
    have HI0 := hidE hI0
    rw [← hw3]
    clear hw3 hb3 hI0
    go_loopg [25] K.len (fun gh v25 wr => ∃ (D : List Tm) (C : Fst) (oo : Nat), v25 = .int .i64 D.length ∧ C.len ≤ gh ∧ D.length + C.len = K.len ∧ NzI w2 w2.heap.size y K o D C oo l wr)
    case atStart => exact ⟨[], K, o + 1, rfl, Nat.le_refl _, by simp, HI0.out⟩
    case round =>
      clear HI0
      obtain ⟨D, C, oo, rfl, hgh, hDC, hI⟩ := hrel
      have HGH := hidE hgh; have HI := hidE hI
      obtain ⟨z, va, hbk, hown⟩ := hI.own
      obtain ⟨xs, ho, hrx⟩ := hown
      obtain ⟨aa, ca, rfl⟩ := own_sli ho
      have HBK := hidE hbk; have HOW := hidE ho; have HRX := hidE hrx
      have hwr := hI.bel.size
      clear hgh hI ho hrx hbk
      cases C with
      | nil =>
        have hDn : D.length = K.len := by simpa [Fst.len] using hDC
        have q1 : decide ((D.length : Int) < (K.len : Int)) = false := decide_eq_false (by omega)
        have q2 : decide (D.length < K.len) = false := decide_eq_false (by omega)
        have hS : SliF (fun k => w2.heap.size + 1 ≤ k) wr (.slice aa D.length ca) (ofL D) := (show OwnN (w2.heap.size + 1) (fun k => w2.heap.size + 1 ≤ k ∧ some k ≠ (Value.slice aa D.length ca).ownBlock) wr (.slice aa D.length ca) D from ⟨xs, HOW.out, HRX.out⟩).sli (fun k h => h) (fun k h => h.1)
        have htot : plainF (lab K (o + 1)) = ofL D := by
          have := HI.out.tot
          rw [← of_to (plainF (lab K (o + 1))), this]; simp [lab, plainF, toL]
        have hTB : TermB (fun k => w2.heap.size + 1 ≤ k) wr w2.heap.size ({ y with kids := (o : Int) }, plainF (lab K (o + 1))) := ⟨z, _, HBK.out, by simp only [htot]; exact hS⟩
        have tb : Tb w2.heap.size wr := (Tb.of (HTAB.out.past HBW2.out) (Nat.le_refl _)).below HI.out.bel
        have HSET := hidE (settle_c (fun k => w2.heap.size + 1 ≤ k) w2.heap.size _ wr deep ink (by simp) (fun k hk => by have := HBK.out.lt; omega) hTB (nz_fit HFIT.out) (plain_nrm _) (nz_siz (by omega)) tb)
        have HR2 := hidE (HRES.out.below HI.out.bel (by have := HRES.out.lt; exact this))
        have hbl := HI.out.bel
        have HBL := hidE hbl
        clear hS htot hTB tb hbl HI HBK HOW HRX
        go_wp2_with fail
        ((with_reducible refine HSET.out.mono ?_); rintro e w7 ⟨rfl, hT7, hg7⟩)
        obtain ⟨t', ht'⟩ : ∃ t', t' = nzT y K o := ⟨_, rfl⟩
        have hT8 : TermB (fun k => w2.heap.size + 1 ≤ k) w7 w2.heap.size t' := by rw [ht']; exact hT7
        rw [← ht']
        obtain ⟨z7, v7, hb7, hv7⟩ := hT8
        obtain ⟨a7, c7, rfl, _, _⟩ := hv7.shape
        have hr7 : Blk w7 w.heap.size #[.int .u8 0, .int .u32 0, .int .u32 0, .int .i64 0, .int .i64 0, .int .i64 0, .slice none 0 0] 79 := HR2.out.grown hg7 (by have := HRES.out.lt; simp; omega)
        have g0 := hb7.cell 0; have g1 := hb7.cell 1; have g2 := hb7.cell 2; have g3 := hb7.cell 3; have g4 := hb7.cell 4; have g5 := hb7.cell 5; have g6 := hb7.cell 6; have gz := hb7.lt
        have s0 := hr7.cell 0; have s1 := hr7.cell 1; have s2 := hr7.cell 2; have s3 := hr7.cell 3; have s4 := hr7.cell 4; have s5 := hr7.cell 5; have s6 := hr7.cell 6; have sz := hr7.lt
        have f0 := hr7.free 0; have f1 := hr7.free 1; have f2 := hr7.free 2; have f3 := hr7.free 3; have f4 := hr7.free 4; have f5 := hr7.free 5; have f6 := hr7.free 6
        simp at g0 g1 g2 g3 g4 g5 g6 s0 s1 s2 s3 s4 s5 s6
        have hfin : Blk (put7 w7 w.heap.size t'.1 z7 (.slice a7 t'.2.len c7)) w.heap.size (tcA t'.1 z7 (.slice a7 t'.2.len c7)) 79 := put7_blk (y := ⟨0, 0, 0, 0, 0⟩) (q := 0) (u := .slice none 0 0) hr7 _ _ _
        have HFIN := hidE hfin; have HG7 := hidE hg7; have HV7 := hidE hv7; have HB7 := hidE hb7
        have HTE := hidE ht'
        clear hT7 hg7 hb7 hv7 hr7 hfin HSET ht'
        go_wp2
        have c0 := HFIN.out.cell 0; have c1 := HFIN.out.cell 1; have c2 := HFIN.out.cell 2; have c3 := HFIN.out.cell 3; have c4 := HFIN.out.cell 4; have c5 := HFIN.out.cell 5; have c6 := HFIN.out.cell 6
        simp at c0 c1 c2 c3 c4 c5 c6
        have hrq : ¬ (w2.heap.size + 1 ≤ w.heap.size) := by have := HBW2.out.size; omega
        have hsl : SliF (fun k => w.heap.size ≤ k) (put7 w7 w.heap.size t'.1 z7 (.slice a7 t'.2.len c7)) (.slice a7 t'.2.len c7) t'.2 :=
          (HV7.out.off (p := w.heap.size) hrq (put7_grown w7 w.heap.size t'.1 z7 (.slice a7 t'.2.len c7))).mono fun k a _ => by have := HBW2.out.size; omega
        have hbf : Below w.heap.size w (put7 w7 w.heap.size t'.1 z7 (.slice a7 t'.2.len c7)) := by
          have h1 := HBW2.out.trans (HBL.out.mono HBW2.out.size)
          have h2 := Below.grown h1 HG7.out h1.size (fun k e => by cases e; exact HBW2.out.size)
          exact Below.grown h2 (put7_grown w7 w.heap.size t'.1 z7 (.slice a7 t'.2.len c7)) h2.size (fun k e => by cases e; exact Nat.le_refl _)
        change bodyPost _ _ _ _ _ (put7 w7 w.heap.size t'.1 z7 (.slice a7 t'.2.len c7))
        clear HFIN HG7 HV7 HB7 HBL HR2 HRES
        generalize put7 w7 w.heap.size t'.1 z7 (.slice a7 t'.2.len c7) = w8 at *
        refine bodyPost_ret (v := trV t'.1 z7 (.slice a7 t'.2.len c7)) (by simp [results, Tryz.results32, go_sem, c0, c1, c2, c3, c4, c5, c6]) rfl (by rw [← HTE.out]; exact ⟨z7, _, rfl, hsl, hbf⟩)
      | cons x Kx N =>
        have q1 : decide ((D.length : Int) < (K.len : Int)) = true := decide_eq_true (by simp only [Fst.len] at hDC; omega)
        have q2 : D.length < K.len := by simp only [Fst.len] at hDC; omega
        obtain ⟨pre, hpre, hprel⟩ := HI.out.pos
        obtain ⟨bk, ok, rfl, hbkz, hkc⟩ := HK.out (by rw [natsI_len, posF_len]; omega)
        have k0 := (HI.out.bel.cell (p := ⟨bk, ok + D.length, none⟩) hbkz).trans (hkc D.length (by rw [natsI_len, posF_len]; exact q2))
        have hge : (natsI (posF K (o + 1))).getD D.length 0 = (oo : Int) := by
          rw [hpre, posF, natsI_app, List.getD_eq_getElem?_getD, List.getElem?_append_right (by rw [natsI_len]; omega), natsI_len, hprel, Nat.sub_self]; rfl
        rw [hge] at k0
        have kz := Nat.lt_of_lt_of_le hbkz HI.out.bel.size
        obtain ⟨deep', ink', hfc⟩ := HI.out.fit
        have hsz := HI.out.siz
        simp only [Fst.size] at hsz
        have HCALL := hidE (IH.out x Kx oo deep' ink' wr (by omega) HI.out.atf.one ⟨hfc.1, hfc.2.1, hfc.2.2.1, hfc.2.2.2.1, trivial⟩ (HA.out.past (HBW2.out.trans (HI.out.bel.mono HBW2.out.size))) (HTAB.out.past (HBW2.out.trans (HI.out.bel.mono HBW2.out.size))))
        clear hpre hprel hge hkc hsz
        go_wp2_with fail
        ((with_reducible refine HCALL.out.mono ?_); rintro e w5 ⟨z', vk', rfl, hs5, hb5⟩)
        obtain ⟨u, hu⟩ : ∃ u, u = nzT x Kx oo := ⟨_, rfl⟩
        rw [← hu] at hs5 ⊢
        obtain ⟨ak', ck', rfl, _, _⟩ := hs5.shape
        have HU := hidE hu
        obtain ⟨w6, hw6⟩ : ∃ w6, w6 = w5.alloc (.cells (tcA u.1 z' (.slice ak' u.2.len ck')) 79) := ⟨_, rfl⟩
        have hb56 : Below w5.heap.size w5 w6 := by rw [hw6]; (repeat (first | exact Below.refl _ _ | assumption | refine balloc ?_ _ | refine below_drewN ?_ _ | refine bstep (by assumption) ?_ | refine bstep (Past.prop _) ?_ | refine Below.setCell ?_ (by first | exact Nat.le_refl _ | (simp; done) | (simp; omega)) _))
        have hb6 : Below wr.heap.size wr w6 := hb5.trans (hb56.mono hb5.size)
        have hkb : Blk w6 w5.heap.size (tcA u.1 z' (.slice ak' u.2.len ck')) 79 := by rw [hw6]; exact Blk.made _ _ _
        have h5s := hb5.size; have h6s := hb56.size
        have HS6 := hidE (hs5.sam (Sam.past hb56)); have HKB := hidE hkb; have HB6 := hidE hb6
        have HBK6 := hidE (HBK.out.past hb6); have HOW6 := hidE (own_below HOW.out hb6)
        have HRX6 := hidE (HRX.out.sam (Sam.past hb6))
        have t6 := HBK6.out.cell 6; have tz := HBK6.out.lt
        have kz0 := hkb.cell 0; have kz1 := hkb.cell 1; have kz2 := hkb.cell 2; have kz3 := hkb.cell 3; have kz4 := hkb.cell 4; have kz5 := hkb.cell 5; have kz6 := hkb.cell 6; have kzz := hkb.lt
        simp at t6 kz0 kz1 kz2 kz3 kz4 kz5 kz6
        obtain ⟨ix, hix, hz0, hzz, hz4⟩ := info_parts Tryz.infoTermN
        have HIX := hidE hix; have HZ0 := hidE hz0; have HY1 := hidE hzz; have HY2 := hidE hz4
        have hrowlt : ∀ j, (Value.slice aa D.length ca).ownBlock = some j → w2.heap.size + 1 ≤ j ∧ j < wr.heap.size := fun j hj => ⟨own_block HOW.out hj, own_lt HOW.out hj⟩
        have HRL := hidE hrowlt
        have hxl : xs.length = D.length * 7 := HOW.out.1
        clear hix hz0 hzz hz4 hu hs5 hb5 hb56 hb6 hkb HCALL k0 hrowlt hfc
        have HSTEP := hidE (fun wb w' g' cp' a0 a1 a2 a3 a4 a5 a6 hb own' hg hgB hat => HI.out.both HU.out HBK.out HOW.out HRX.out HB6.out HS6.out (z' := z') wb w' g' cp' a0 a1 a2 a3 a4 a5 a6 hb own' hg hgB hat)
        go_upto_region 7 with fail
        rw [← hw6]
        clear hw6
        have hlen : (D ++ [u]).length + N.len = K.len := by simp only [Fst.len] at hDC; simp; omega
        have HLEN := hidE hlen
        clear hlen
        go_region_law ((refine step_appAt rfl (.tmp 33) (.tmp 36) 77 rfl (w2.heap.size + 1) 79 ix _ 7 64 Tryz.underlying77 HIX.out HZ0.out HY1.out HY2.out rfl (by decide) (.slice aa D.length ca) D.length xs rfl (own_below HOW6.out (by (repeat (first | exact Below.refl _ _ | assumption | refine balloc ?_ _ | refine below_drewN ?_ _ | refine bstep (by assumption) ?_ | refine bstep (Past.prop _) ?_ | refine Below.setCell ?_ (by first | exact Nat.le_refl _ | (simp; done) | (simp; omega)) _)))) _ 1 1 [.int .u8 0, .int .u32 0, .int .u32 0, .int .i64 0, .int .i64 0, .int .i64 0, .slice none 0 0] rfl rfl (blk_news (Blk.made_at _ _ _ _ (by first | rfl | (simp; done)))) (by intro y hy; simp at hy; rcases hy with rfl | rfl | rfl | rfl | rfl | rfl | rfl <;> rfl) (by omega) (by omega) (by simp; omega) ?_; intro v' w' own' hg' hat'; obtain ⟨g', cp', rfl, hgB, hgz, hcp⟩ := own_pos own'; have hne5 : some w5.heap.size ≠ (Value.slice aa D.length ca).ownBlock := (fun e => (by have := HRL.out _ e.symm; omega)); have hneq : some w2.heap.size ≠ (Value.slice aa D.length ca).ownBlock := (fun e => (by have := HRL.out _ e.symm; omega)); have x5 := (HKB.out.past (show Below w6.heap.size w6 _ from by (repeat (first | exact Below.refl _ _ | assumption | refine balloc ?_ _ | refine below_drewN ?_ _ | refine bstep (by assumption) ?_ | refine bstep (Past.prop _) ?_ | refine Below.setCell ?_ (by first | exact Nat.le_refl _ | (simp; done) | (simp; omega)) _)))).grown hg' hne5; have xq := (HBK6.out.past (show Below w6.heap.size w6 _ from by (repeat (first | exact Below.refl _ _ | assumption | refine balloc ?_ _ | refine below_drewN ?_ _ | refine bstep (by assumption) ?_ | refine bstep (Past.prop _) ?_ | refine Below.setCell ?_ (by first | exact Nat.le_refl _ | (simp; done) | (simp; omega)) _)))).grown hg' hneq; have x0 := x5.cell 0; have x1 := x5.cell 1; have x2 := x5.cell 2; have x3 := x5.cell 3; have x4 := x5.cell 4; have x6 := x5.cell 5; have x7 := x5.cell 6; have xz := x5.lt; have xq6 := xq.cell 6; have xqf := xq.free 6; have xqz := xq.lt; have r0 := own_cell (j := D.length * 7 + 0) own' (by rw [List.getElem?_append_right (by omega), hxl, Nat.add_sub_cancel_left]; rfl); have r1 := own_cell (j := D.length * 7 + 1) own' (by rw [List.getElem?_append_right (by omega), hxl, Nat.add_sub_cancel_left]; rfl); have r2 := own_cell (j := D.length * 7 + 2) own' (by rw [List.getElem?_append_right (by omega), hxl, Nat.add_sub_cancel_left]; rfl); have r3 := own_cell (j := D.length * 7 + 3) own' (by rw [List.getElem?_append_right (by omega), hxl, Nat.add_sub_cancel_left]; rfl); have r4 := own_cell (j := D.length * 7 + 4) own' (by rw [List.getElem?_append_right (by omega), hxl, Nat.add_sub_cancel_left]; rfl); have r5 := own_cell (j := D.length * 7 + 5) own' (by rw [List.getElem?_append_right (by omega), hxl, Nat.add_sub_cancel_left]; rfl); have r6 := own_cell (j := D.length * 7 + 6) own' (by rw [List.getElem?_append_right (by omega), hxl, Nat.add_sub_cancel_left]; rfl); have e0 := own'.frozenAt (D.length * 7); have e1 := own'.frozenAt (D.length * 7 + 1); have e2 := own'.frozenAt (D.length * 7 + 2); have e3 := own'.frozenAt (D.length * 7 + 3); have e4 := own'.frozenAt (D.length * 7 + 4); have e5 := own'.frozenAt (D.length * 7 + 5); have e6 := own'.frozenAt (D.length * 7 + 6); simp at x0 x1 x2 x3 x4 x6 x7 xq6 r0 r1 r2 r3 r4 r5 r6; have hDl : (D.length : Int) < (D.length : Int) + 1 := (by omega); have XQ := hidE xq; clear x5 xq))
        all_goals
          clear t6 kz0 kz1 kz2 kz3 kz4 kz5 kz6 kzz x0 x1 x2 x3 x4 x6 x7 xz xq6 xqf xqz r0 r1 r2 r3 r4 r5 r6 e0 e1 e2 e3 e4 e5 e6 XQ
          go_wp2
          go_roundg N.len
          case measure => have := HGH.out; simp only [Fst.len] at this; omega
          case rel =>
            refine ⟨D ++ [u], N, oo + 1 + Kx.size, by simp, Nat.le_refl _, HLEN.out, ?_⟩
            have hbw := same_grown hg' (a := w6) (by (repeat (first | exact Below.refl _ _ | assumption | refine balloc ?_ _ | refine below_drewN ?_ _ | refine bstep (by assumption) ?_ | refine bstep (Past.prop _) ?_ | refine Below.setCell ?_ (by first | exact Nat.le_refl _ | (simp; done) | (simp; omega)) _)))
            obtain ⟨hA, hB⟩ := HSTEP.out _ _ _ _ _ _ _ _ _ _ _ hbw own' hg' hgB hat'
            first
              | with_reducible exact hA
              | with_reducible exact hB
end Go.Proofs.YtioalnncjahlnaaGreatDoor

namespace Go.Proofs.YtioalnncjahlnaaGreatDoor

/-- All that the walk asks, of a definition that may be. -/
structure Once (F G : Fst) (k : List Nat) : Prop where
  size : G.flat.length ≤ F.flat.length
  klen : k.length = G.flat.length
  tree : treeS G.flat = (0, 0)
  pos : 0 < G.flat.length
  frm : ∀ i, i < k.length → k.getD i 0 < F.flat.length ∧ (G.flat.getD i ⟨0, 0, 0, 0, 0⟩).kind = (F.flat.getD (k.getD i 0) ⟨0, 0, 0, 0, 0⟩).kind ∧ (G.flat.getD i ⟨0, 0, 0, 0, 0⟩).n = (F.flat.getD (k.getD i 0) ⟨0, 0, 0, 0, 0⟩).n ∧
    (G.flat.getD i ⟨0, 0, 0, 0, 0⟩).g = (F.flat.getD (k.getD i 0) ⟨0, 0, 0, 0, 0⟩).g ∧ (G.flat.getD i ⟨0, 0, 0, 0, 0⟩).d = (F.flat.getD (k.getD i 0) ⟨0, 0, 0, 0, 0⟩).d
  one : ∀ i j, j < i → i < k.length → k.getD j 0 ≠ k.getD i 0
  deep : ∀ p, p < G.flat.length → ∃ q, q < F.flat.length ∧ depthS G.flat p ≤ depthS F.flat q
  again : ∃ H : Fst, H.kok ∧ H.len = 1 ∧ H.fit 1 0 ∧ H.size ≤ 64 ∧ H.flat = G.flat ∧ (plainF (lab H 0)).flat = G.flat ∧ (fromF (plainF (lab H 0))).length = G.flat.length ∧ ∀ i, i < G.flat.length → (fromF (plainF (lab H 0))).getD i 0 = i
theorem once_of {F : Fst} (hk : F.kok) (h1 : F.len = 1) (h2 : F.size ≤ 64) (h3 : F.fit 1 0) : Once F (plainF (lab F 0)) (fromF (plainF (lab F 0))) := by
  have e := lab_len F 0
  have hl := lab_fit F 0 1 0 h3
  have hs := plain_siz (lab F 0)
  obtain ⟨H, g1, g2, g3, g4, g5⟩ := again hk
  have hz : H.size = (plainF (lab F 0)).size := by rw [← flat_len, g2, flat_len]
  refine ⟨by rw [flat_len, flat_len]; omega, by rw [fromF_len, flat_len], plain_tree (e.1.trans h1) (by omega) hl, by have := len_size (plainF (lab F 0)); rw [flat_len]; omega, fun i hi => ?_, fun i j hj hi => ?_, fun p hp => ?_, H, g1, g4.trans h1, ?_, by omega, g2, by rw [g3, lab_flat, g2], by rw [fromF_len, g3, (lab_len H 0).2, hz, flat_len], fun i hi => ?_⟩
  · rw [fromF_len] at hi
    obtain ⟨a, y, hy, z, hz, c1, c2, c3, c4⟩ := from_plain F i hi
    have q1 : (plainF (lab F 0)).flat.getD i ⟨0, 0, 0, 0, 0⟩ = y := by rw [List.getD_eq_getElem?_getD, hy]; rfl
    have q2 : F.flat.getD ((fromF (plainF (lab F 0))).getD i 0) ⟨0, 0, 0, 0, 0⟩ = z := by rw [List.getD_eq_getElem?_getD, hz]; rfl
    rw [q1, q2]
    exact ⟨by rw [flat_len]; exact a, c1, c2, c3, c4⟩
  · rw [fromF_len] at hi
    exact fun c => from_once F hj hi c.symm
  · have := plain_deep (F := lab F 0) (e.1.trans h1) (by omega) hl hp
    rw [lab_flat] at this
    exact this
  · rw [g5]; exact plain_fit F 1 0 h3
  · rw [g3, from_lab H 0 i (by rw [hz, ← flat_len]; exact hi), Nat.zero_add]
/-- The greatest of the first so many. -/
def mxN (f : Nat → Nat) : Nat → Nat
  | 0 => 0
  | n + 1 => max (mxN f n) (f n)
theorem mxN_ge (f : Nat → Nat) : ∀ n i, i < n → f i ≤ mxN f n
  | 0, i, h => by omega
  | n + 1, i, h => by
    rw [mxN]
    by_cases c : i < n
    · have := mxN_ge f n i c; omega
    · obtain rfl : i = n := by omega
      omega
theorem mxN_le (f : Nat → Nat) (b : Nat) : ∀ n, (∀ i, i < n → f i ≤ b) → mxN f n ≤ b
  | 0, _ => Nat.zero_le _
  | n + 1, h => by
    rw [mxN]
    have := mxN_le f b n (fun i hi => h i (by omega))
    have := h n (by omega)
    omega
theorem once_deep {F G : Fst} {k : List Nat} (h : Once F G k) : mxN (depthS G.flat) k.length ≤ mxN (depthS F.flat) F.flat.length := by
  refine mxN_le _ _ _ fun i hi => ?_
  obtain ⟨q, hq, e⟩ := h.deep i (by rw [← h.klen]; exact hi)
  exact Nat.le_trans e (mxN_ge _ _ q hq)
theorem depthS_small (l : List Prt) (p : Nat) : depthS l p ≤ p + 1 := by
  unfold depthS
  exact Nat.le_trans (List.length_filter_le _ _) (by simp)
end Go.Proofs.YtioalnncjahlnaaGreatDoor

namespace Go.Proofs.YtioalnncjahlnaaGreatDoor
open Go.ChangeShapes Go.WideShapes Go.ChangeAt Go.RowKit
attribute [local irreducible] Go.Calls

/-- What Norm hands back of a definition that may be. -/
def NormIs (w : World) (fr to' : Int) (l : List Prt) (k : List Nat) (e : Ending) (w' : World) : Prop :=
  ∃ (a a2 : Option Addr) (c c2 : Nat), e = .returned (.tuple #[defV fr to' a l.length c, .slice a2 k.length c2, .int .i64 0]) ∧ l.length ≤ c ∧ c ≤ 9223372036854775807 ∧ ArgP w' a l ∧ ArgK .i64 w' a2 (natsI k) ∧ Below w.heap.size w w'
/-- The places as numbers: those of the normal form. -/
theorem frI_nat {F : Fst} {y : Prt} {K : Fst} (hF : F = .cons y K .nil) : frI (nzT y K 0) = natsI (fromF (plainF (lab F 0))) := by
  subst hF
  have e : plainF (lab (.cons y K .nil) 0) = .cons (nzT y K 0).1 (nzT y K 0).2 .nil := by rw [plain_lab]; rfl
  have h : ∀ x ∈ prsF (plainF (lab (Fst.cons y K .nil) 0)), 0 ≤ x.kids := fun x hx => by
    have h1 := plain_cnt x (lab (.cons y K .nil) 0)
    have h2 := List.count_pos_iff.2 hx
    have hm : x ∈ prsF (lab (Fst.cons y K .nil) 0) := List.count_pos_iff.1 (by omega)
    obtain ⟨i, hi⟩ := List.getElem?_of_mem hm
    have hil : i < (Fst.cons y K .nil).size := by have := (List.getElem?_eq_some_iff.1 hi).1; rw [prsF_len, (lab_len _ 0).2] at this; exact this
    obtain ⟨x', h3, h4⟩ := lab_prs (.cons y K .nil) 0 i hil
    rw [hi] at h3; cases h3
    rw [h4]; omega
  have e2 : frI (nzT y K 0) = (prsF (plainF (lab (Fst.cons y K .nil) 0))).map (·.kids) := by rw [e]; simp [frI, prsF]
  rw [e2]
  unfold natsI fromF
  rw [List.map_map]
  refine List.map_congr_left fun x hx => ?_
  have := h x hx
  simp only [Function.comp]; omega
theorem flat_nz {F : Fst} {y : Prt} {K : Fst} (hF : F = .cons y K .nil) : flT (nzT y K 0) = (plainF (lab F 0)).flat ∧ sizT (nzT y K 0) = (plainF (lab F 0)).size := by
  subst hF
  have e : plainF (lab (.cons y K .nil) 0) = .cons (nzT y K 0).1 (nzT y K 0).2 .nil := by rw [plain_lab]; rfl
  exact ⟨by rw [e]; rfl, by rw [e]; simp [sizT, Fst.size]⟩
theorem one_cons {F : Fst} (h : F.len = 1) : ∃ y K, F = .cons y K .nil := by
  match F, h with
  | .cons y K .nil, _ => exact ⟨y, K, rfl⟩
  | .cons y K (.cons _ _ _), h => simp only [Fst.len] at h; omega
theorem argP_of {w : World} {B : Nat} {e : TypeId} {a : Option Addr} {c : Nat} {l : List Prt} (h : w.ownsRow B e 5 (.slice a l.length c) l.length (cellsOfP l)) : ArgP w a l ∧ l.length ≤ c ∧ c ≤ 9223372036854775807 := by
  obtain ⟨_, _, e, h1, h2, h⟩ := sliP_own h
  cases e; exact ⟨h, h1, h2⟩
theorem argK_of {w : World} {B : Nat} {e : TypeId} {a : Option Addr} {c : Nat} {l : List Int} (h : w.ownsRow B e 1 (.slice a l.length c) l.length (cellsK .i64 l)) : ArgK .i64 w a l := by
  obtain ⟨_, _, e, h⟩ := argK_own h
  cases e; exact h
set_option maxHeartbeats 4000000 in
set_option maxRecDepth 100000 in
theorem norm_c (fr to' : Int) (F : Fst) (a : Option Addr) (cap n : Nat) (hn : n = F.flat.length) (w : World) (hA : ArgP w a F.flat) (h : chkS fr to' F.flat = (0, 0)) (_hk : F.kok) (hl : F.len = 1) (hf : F.fit 1 0) (hs : F.size ≤ 64) (hT : Tab w) (hfr : -9223372036854775808 ≤ fr ∧ fr ≤ 9223372036854775807) (hto : -9223372036854775808 ≤ to' ∧ to' ≤ 9223372036854775807) :
    Calls Tryz.prog 13 #[defV fr to' a n cap] w (NormIs w fr to' (plainF (lab F 0)).flat (fromF (plainF (lab F 0)))) := by
  subst hn
  have htr : (treeS F.flat).2 = 0 := by rw [tree_fit hl hs hf]
  have hlen : F.flat.length ≤ 64 := by rw [flat_len]; exact hs
  have HCK := hidE (fun w' (hA' : ArgP w' a F.flat) => shchk_c fr to' F.flat a cap w' (by omega) hA' hfr hto)
  rw [h] at HCK
  obtain ⟨y, K, hF⟩ := one_cons hl
  have HFR := hidE (frI_nat hF); have HFL := hidE (flat_nz hF)
  have HNZ := hidE (fun w' (hA' : ArgP w' a F.flat) (hT' : Tab w') => show Calls Tryz.prog 32 #[.slice a F.flat.length cap, .int .i64 0] w' (NzPost w' (nzT y K 0)) from normalized_c F.flat cap a hlen htr (K.size + 1) y K 0 1 0 w' (Nat.lt_succ_self _) (by have := atF_whole hs hf; rw [hF] at this ⊢; exact this) (by rw [hF] at hf; exact hf) hA' hT')
  have hsz : (plainF (lab F 0)).size ≤ 64 := by have := (plain_siz (lab F 0)).1; rw [(lab_len F 0).2] at this; omega
  have HA := hidE hA; have HTB := hidE hT
  clear hA hT htr hf hF h
  go_enter Tryz.func13, Tryz.ntmps13
  go_wp2_with fail
  obtain ⟨w1, hw1⟩ : ∃ w1, w1 = (w.alloc (.cells #[.int .i64 fr, .int .i64 to', .slice a F.flat.length cap] 24)).alloc (.cells #[.int .i64 0, .int .i64 0, .slice none 0 0] 24) := ⟨_, rfl⟩
  rw [← hw1]
  have hb1 : Below w.heap.size w w1 := by rw [hw1]; (repeat (first | exact Below.refl _ _ | assumption | refine balloc ?_ _ | refine below_drewN ?_ _ | refine bstep (by assumption) ?_ | refine bstep (Past.prop _) ?_ | refine Below.setCell ?_ (by first | exact Nat.le_refl _ | (simp; done) | (simp; omega)) _))
  have hbox : Blk w1 w.heap.size #[.int .i64 fr, .int .i64 to', .slice a F.flat.length cap] 24 := by rw [hw1]; exact (Blk.made _ _ _).alloc _
  have hres : Blk w1 (w.heap.size + 1) #[.int .i64 0, .int .i64 0, .slice none 0 0] 24 := by rw [hw1]; exact Blk.made_at _ _ _ _ (by simp)
  clear hw1
  ((with_reducible refine (HCK.out w1 (HA.out.past hb1)).mono ?_); rintro e w2 ⟨rfl, hb2⟩)
  have hb12 : Below w.heap.size w w2 := hb1.trans (hb2.mono hb1.size)
  have HBOX := hidE (hbox.past hb2); have HRES := hidE (hres.past hb2); have HB2 := hidE hb12
  have b2 := HBOX.out.cell 2; have bz := HBOX.out.lt; have rz := HRES.out.lt
  simp at b2
  clear hb1 hb2 hbox hres hb12 HCK
  go_wp2_with fail
  obtain ⟨w3, hw3⟩ : ∃ w3, w3 = w2.alloc (.cells #[.slice none 0 0, .slice none 0 0] 75) := ⟨_, rfl⟩
  rw [← hw3]
  have hb3 : Below w2.heap.size w2 w3 := by rw [hw3]; (repeat (first | exact Below.refl _ _ | assumption | refine balloc ?_ _ | refine below_drewN ?_ _ | refine bstep (by assumption) ?_ | refine bstep (Past.prop _) ?_ | refine Below.setCell ?_ (by first | exact Nat.le_refl _ | (simp; done) | (simp; omega)) _))
  have hls : Blk w3 w2.heap.size #[.slice none 0 0, .slice none 0 0] 75 := by rw [hw3]; exact Blk.made _ _ _
  have hz3 : w3.heap.size = w2.heap.size + 1 := by rw [hw3]; simp
  have hw13 := HB2.out.trans (hb3.mono HB2.out.size)
  clear hw3 b2
  ((with_reducible refine (HNZ.out w3 (HA.out.past hw13) (HTB.out.past hw13)).mono ?_); rintro e w4 ⟨z4, v4, rfl, hs4, hb4⟩)
  have h4s := hb4.size
  obtain ⟨t, ht⟩ : ∃ t, t = nzT y K 0 := ⟨_, rfl⟩
  rw [← ht] at hs4 ⊢
  have hsT : sizT t ≤ 64 := by rw [ht, HFL.out.2]; exact hsz
  have hl4 : ListAt w4.heap.size w2.heap.size w4 [] [] := ⟨_, _, hls.past hb4, own_nil _ _ _, own_nil _ _ _⟩
  have hsn : ∀ k, Old (fun k => w3.heap.size ≤ k) w4 k → k < w4.heap.size ∧ k ≠ w2.heap.size := fun k q => by have h1 := q.1; have h2 := q.2; omega
  have HADD := hidE (add_c (Old (fun k => w3.heap.size ≤ k) w4) w4.heap.size w2.heap.size (by omega) hsn (sizT t) t z4 v4 [] [] w4 (Nat.le_refl _) (Nat.le_refl _) hl4 hs4.old (by simp only [List.length_nil]; omega) rfl)
  have HB4 := hidE (hw13.trans (hb4.mono hw13.size)); have HBOX4 := hidE ((HBOX.out.past hb3).past hb4); have HRES4 := hidE ((HRES.out.past hb3).past hb4)
  have HT := hidE ht
  clear hs4 hb4 hls hb3 hw13 hl4 hsn ht HNZ HBOX HRES HTB HA
  go_wp2_with fail
  ((with_reducible refine HADD.out.mono ?_); rintro e w5 ⟨rfl, hl5, hbar5⟩)
  obtain ⟨vp, vf, hb5, hp5, hf5⟩ := hl5
  obtain ⟨ap, cp, rfl⟩ := own_sli hp5
  obtain ⟨af, cf, rfl⟩ := own_sli hf5
  simp only [List.nil_append] at hp5 hb5 hf5
  have k5 : Blk w5 w.heap.size #[.int .i64 fr, .int .i64 to', .slice a F.flat.length cap] 24 := (hbar5.block _ (by omega) (by omega)).trans HBOX4.out
  have r5 : Blk w5 (w.heap.size + 1) #[.int .i64 0, .int .i64 0, .slice none 0 0] 24 := (hbar5.block _ (by omega) (by omega)).trans HRES4.out
  have g0 := hb5.cell 0; have g1 := hb5.cell 1; have gz := hb5.lt
  have q0 := k5.cell 0; have q1 := k5.cell 1; have qz := k5.lt
  have s0 := r5.cell 0; have s1 := r5.cell 1; have s2 := r5.cell 2; have sz := r5.lt
  have f0 := r5.free 0; have f1 := r5.free 1; have f2 := r5.free 2
  simp at g0 g1 q0 q1 s0 s1 s2
  have hfin : Blk (((w5.setCell ⟨w.heap.size + 1, 0, none⟩ (.int .i64 fr)).setCell ⟨w.heap.size + 1, 1, none⟩ (.int .i64 to')).setCell ⟨w.heap.size + 1, 2, none⟩ (.slice ap (flT t).length cp)) (w.heap.size + 1) #[.int .i64 fr, .int .i64 to', .slice ap (flT t).length cp] 24 := by
    have h0 := r5.set 0 (.int .i64 fr)
    simp only [List.setIfInBounds_toArray, List.set_cons_zero] at h0
    have h1 := h0.set 1 (.int .i64 to')
    simp only [List.setIfInBounds_toArray, List.set_cons_zero, List.set_cons_succ] at h1
    have h2 := h1.set 2 (.slice ap (flT t).length cp)
    simp only [List.setIfInBounds_toArray, List.set_cons_zero, List.set_cons_succ] at h2
    exact h2
  have hgr : w5.grownBy (((w5.setCell ⟨w.heap.size + 1, 0, none⟩ (.int .i64 fr)).setCell ⟨w.heap.size + 1, 1, none⟩ (.int .i64 to')).setCell ⟨w.heap.size + 1, 2, none⟩ (.slice ap (flT t).length cp)) (some (w.heap.size + 1)) := grown_trans (grown_trans (grown_set _ _ _ _) (grown_set _ _ _ _)) (grown_set _ _ _ _)
  have HP2 := hidE (argP_of (own_grown hp5 hgr (by omega)))
  have HF2 := hidE (argK_of (own_grown hf5 hgr (by omega)))
  have HFIN := hidE hfin
  have hbel : Below w.heap.size w w5 := HB4.out.trans ⟨hbar5.os, hbar5.tape, hbar5.output, hbar5.size, fun k hk => hbar5.block k (by omega) (by omega)⟩
  have HBF := hidE (Below.grown hbel hgr hbel.size (fun k e => by cases e; omega))
  have HNL := hidE (show (flT t).length = (plainF (lab F 0)).flat.length ∧ (frI t).length = (fromF (plainF (lab F 0))).length from by
    rw [HT.out, HFL.out.1, HFR.out, natsI_len]; exact ⟨rfl, rfl⟩)
  obtain ⟨np, hnp⟩ : ∃ np, np = (flT t).length := ⟨_, rfl⟩
  obtain ⟨nf, hnf⟩ : ∃ nf, nf = (frI t).length := ⟨_, rfl⟩
  rw [← hnp] at g0 HFIN HBF HP2 HF2
  rw [← hnf] at g1
  have HNP := hidE hnp; have HNF := hidE hnf
  clear hfin hgr hbel hp5 hf5 hb5 hbar5 k5 r5 hnp hnf HADD HB4 HBOX4 HRES4
  go_upto_region 6 with fail
  go_region
  all_goals
    go_wp2
    have c0 := HFIN.out.cell 0; have c1 := HFIN.out.cell 1; have c2 := HFIN.out.cell 2
    simp at c0 c1 c2
    generalize ((w5.setCell ⟨w.heap.size + 1, 0, none⟩ (.int .i64 fr)).setCell ⟨w.heap.size + 1, 1, none⟩ (.int .i64 to')).setCell ⟨w.heap.size + 1, 2, none⟩ (.slice ap np cp) = W at *
    refine bodyPost_ret (v := .tuple #[defV fr to' ap np cp, .slice af nf cf, .int .i64 0]) (by simp [results, Tryz.results13, go_sem, c0, c1, c2]) rfl ⟨ap, af, cp, cf, ?_, ?_, HP2.out.2.2, ?_, ?_, by first | exact HBF.out | exact HBF.out.drew⟩
    · rw [← HNL.out.1, ← HNL.out.2, ← HNP.out, ← HNF.out]
    · rw [← HNL.out.1, ← HNP.out]; exact HP2.out.2.1
    · rw [← HFL.out.1, ← HT.out]; exact HP2.out.1
    · rw [← HFR.out, ← HT.out]; exact HF2.out
set_option maxHeartbeats 4000000 in
set_option maxRecDepth 100000 in
theorem norm_e (fr to' : Int) (l : List Prt) (a : Option Addr) (cap : Nat) (w : World) (hl : l.length ≤ 9223372036854775807) (hA : ArgP w a l) (hf : -9223372036854775808 ≤ fr ∧ fr ≤ 9223372036854775807) (ht : -9223372036854775808 ≤ to' ∧ to' ≤ 9223372036854775807) (h : (chkS fr to' l).2 ≠ 0) :
    Calls Tryz.prog 13 #[defV fr to' a l.length cap] w fun e w' => e = .returned (.tuple #[defV 0 0 none 0 0, .slice none 0 0, .int .i64 81]) ∧ Below w.heap.size w w' := by
  have HCK := hidE (fun w' (hA' : ArgP w' a l) => shchk_c fr to' l a cap w' hl hA' hf ht)
  obtain ⟨z1, z2, hz⟩ : ∃ z1 z2, chkS fr to' l = (z1, z2) := ⟨_, _, rfl⟩
  rw [hz] at HCK h
  have hne : (z2 != 0) = true := by simpa using h
  have HA := hidE hA
  clear hA hz h
  go_enter Tryz.func13, Tryz.ntmps13
  go_wp2_with fail
  obtain ⟨w1, hw1⟩ : ∃ w1, w1 = (w.alloc (.cells #[.int .i64 fr, .int .i64 to', .slice a l.length cap] 24)).alloc (.cells #[.int .i64 0, .int .i64 0, .slice none 0 0] 24) := ⟨_, rfl⟩
  rw [← hw1]
  have hb1 : Below w.heap.size w w1 := by rw [hw1]; (repeat (first | exact Below.refl _ _ | assumption | refine balloc ?_ _ | refine below_drewN ?_ _ | refine bstep (by assumption) ?_ | refine bstep (Past.prop _) ?_ | refine Below.setCell ?_ (by first | exact Nat.le_refl _ | (simp; done) | (simp; omega)) _))
  have hres : Blk w1 (w.heap.size + 1) #[.int .i64 0, .int .i64 0, .slice none 0 0] 24 := by rw [hw1]; exact Blk.made_at _ _ _ _ (by simp)
  clear hw1
  ((with_reducible refine (HCK.out w1 (HA.out.past hb1)).mono ?_); rintro e w2 ⟨rfl, hb2⟩)
  have r5 := hres.past hb2
  have HB2 := hidE (hb1.trans (hb2.mono hb1.size))
  have s0 := r5.cell 0; have s1 := r5.cell 1; have s2 := r5.cell 2; have sz := r5.lt
  have f0 := r5.free 0; have f1 := r5.free 1; have f2 := r5.free 2
  simp at s0 s1 s2
  have hfin : Blk (((w2.setCell ⟨w.heap.size + 1, 0, none⟩ (.int .i64 0)).setCell ⟨w.heap.size + 1, 1, none⟩ (.int .i64 0)).setCell ⟨w.heap.size + 1, 2, none⟩ (.slice none 0 0)) (w.heap.size + 1) #[.int .i64 0, .int .i64 0, .slice none 0 0] 24 := by
    have h0 := r5.set 0 (.int .i64 0)
    simp only [List.setIfInBounds_toArray, List.set_cons_zero] at h0
    have h1 := h0.set 1 (.int .i64 0)
    simp only [List.setIfInBounds_toArray, List.set_cons_zero, List.set_cons_succ] at h1
    have h2 := h1.set 2 (.slice none 0 0)
    simp only [List.setIfInBounds_toArray, List.set_cons_zero, List.set_cons_succ] at h2
    exact h2
  have hgr : w2.grownBy (((w2.setCell ⟨w.heap.size + 1, 0, none⟩ (.int .i64 0)).setCell ⟨w.heap.size + 1, 1, none⟩ (.int .i64 0)).setCell ⟨w.heap.size + 1, 2, none⟩ (.slice none 0 0)) (some (w.heap.size + 1)) := grown_trans (grown_trans (grown_set _ _ _ _) (grown_set _ _ _ _)) (grown_set _ _ _ _)
  have HFIN := hidE hfin
  have HBF := hidE (Below.grown HB2.out hgr HB2.out.size (fun k e => by cases e; omega))
  clear hb1 hb2 hres r5 hfin hgr HCK HA
  go_wp2
  have c0 := HFIN.out.cell 0; have c1 := HFIN.out.cell 1; have c2 := HFIN.out.cell 2
  simp at c0 c1 c2
  generalize ((w2.setCell ⟨w.heap.size + 1, 0, none⟩ (.int .i64 0)).setCell ⟨w.heap.size + 1, 1, none⟩ (.int .i64 0)).setCell ⟨w.heap.size + 1, 2, none⟩ (.slice none 0 0) = W at *
  refine bodyPost_ret (v := .tuple #[defV 0 0 none 0 0, .slice none 0 0, .int .i64 81]) (by simp [results, Tryz.results13, go_sem, c0, c1, c2]) rfl ⟨rfl, HBF.out⟩
end Go.Proofs.YtioalnncjahlnaaGreatDoor
