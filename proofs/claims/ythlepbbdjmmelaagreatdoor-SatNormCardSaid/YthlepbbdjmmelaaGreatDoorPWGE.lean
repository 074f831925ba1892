/- The first reason why parts may not be: the reasons, and fault. No conditions but the machine's bounds. Check, wrong and end over the landed code. No conditions but the machine's bounds. end over the landed code, of parts that may be. No conditions but sizes. A range over a function that reads what the caller has (K), whose body may leave the loop in any way. Program-free. .. -/
import Derived.Test.YthlepbbdjmmelaaGreatDoorPWGD
import Derived.Test.YthlepbbdjmmelaaGreatDoorPWGB
import Derived.Shelf.Abstract
import Derived.RangeFuncCalls
import Derived.OwnWalkIn
import Derived.Test.YthlepbbdjmmelaaGreatDoorPWGA
import Derived.Deep.LoopGhost
import Derived.Deep.DeepCutAuto
namespace Go.Proofs.YthlepbbdjmmelaaGreatDoor
section
open Go.ChangeShapes Go.WideShapes Go.ChangeAt Go.RowKit
attribute [local irreducible] Go.Calls
theorem run_store_fnS {P:Program} {w:World} {a:Addr} {m:Mode} {f:Fn} {l r:Array Value}:(store a (.func f l r) m).run P w = stored P w a (.func f l r) m:=run_store P w a _ m rfl
attribute [local go_sem] run_store_fnS
abbrev rsC:Array Value:=#[.func (.func 63) #[] #[],.int .i64 81,.func (.func 64) #[] #[],.int .i64 81,.func (.func 65) #[] #[],.int .i64 81,.func (.func 66) #[] #[],.int .i64 81,.func (.func 67) #[] #[],.int .i64 80]
theorem reasons8_c (w:World):Calls Tryz.prog 44 #[] w fun e w' => e = .returned (.slice (some ⟨w.heap.size,0,none⟩) 5 5)∧Blk w' w.heap.size rsC 111∧Below w.heap.size w w':=by
  go_enter Tryz.func44,Tryz.ntmps44
  go_wp2
  go_ret
  exact ⟨rfl,Blk.made _ _ _,by (repeat (first | exact Below.refl _ _ | assumption | refine balloc ?_ _ | refine below_drewN ?_ _ | refine bstep (by assumption) ?_ | refine bstep (Past.prop _) ?_ | refine Below.setCell ?_ (by first | exact Nat.le_refl _ | (simp;done) | (simp;omega)) _))⟩
def prC (x:Prt):Array Value:=#[.int .u8 x.kind,.int .u32 x.n,.int .u32 x.g,.int .i64 x.d,.int .i64 x.kids]
set_option maxRecDepth 100000 in
set_option maxHeartbeats 4000000 in
theorem fault8_c (l:List Prt) (a:Option Addr) (cap:Nat) (w:World) (hl:l.length≤9223372036854775807) (hA:ArgP w a l) :
    Calls Tryz.prog 30 #[.slice a l.length cap] w fun e w' => e = .returned (.tuple #[.int .i64 (treeS l).1,.int .i64 (treeS l).2])∧Below w.heap.size w w':=by
  have HA:=hidE hA
  have HL:=hidE hl
  clear hA
  go_enter Tryz.func30,Tryz.ntmps30
  go_wp2_with (go_at_call 44;(with_reducible refine (reasons8_c _).mono ?_);rintro e w1 ⟨rfl,hB0,hb1⟩;have HB0:=hidE hB0;have HB1:=hidE hb1;have hz1:=hB0.lt;clear hB0 hb1)
  have hS0:=Blk.made_at w1 spZ 108 w1.heap.size rfl
  have HR0:=hidE (HB0.out.alloc (.cells spZ 108))
  have HW0:=hidE (HB1.out.alloc HB1.out.size (.cells spZ 108))
  have HS0:=hidE (show Blk (w1.alloc (.cells spZ 108)) w1.heap.size (spC 0 0 fun _ => (0,0)) 108 from hS0)
  clear hS0
  generalize w1.alloc (Obj.cells spZ 108) = w2 at *
  go_loopg [13] l.length (fun gh v13 wr => ∃ (k d:Nat) (O:Nat→Nat × Nat),k≤l.length∧l.length - k≤gh∧v13 = .int .i64 k∧AtS l k d O∧k≤64∧Blk wr w.heap.size rsC 111∧Blk wr w1.heap.size (spC k d O) 108∧Below w.heap.size w wr)
  case atStart => exact ⟨0,0,_,Nat.zero_le _,Nat.le_refl _,rfl,at_start l,by omega,HR0.out,HS0.out,HW0.out⟩
  case round =>
    obtain ⟨k,d,O,hkk,hgh,rfl,hat,hk64,HR,HS,hb⟩:=hrel
    by_cases hlt:k < l.length
    · obtain ⟨b,off,rfl,hbb,hc⟩:=(HA.out.past hb) (by omega)
      obtain ⟨c0,c1,c2,c3,c4⟩:=hc.get hlt
      rw [show l.getD k pr0 = l.getD k ⟨0,0,0,0,0⟩ from rfl] at c0 c1 c2 c3 c4
      have r1:decide ((k:Int) < (l.length:Int)) = true:=decide_eq_true (by omega)
      have r2:decide (k < l.length) = true:=decide_eq_true hlt
      have hd8:=hat.le
      have HRE:=hidE (at_reas hat hlt)
      have HNX:=hidE (at_next hat hlt)
      have HAT:=hidE hat
      have HG:=hidE (And.intro hgh hkk)
      have z1:=HR.lt;have z2:=HS.lt
      have HM:=hidE (And.intro HR (And.intro HS hb))
      clear hgh hkk hat hc HR HS hb HR0 HS0 HW0 HB0 HB1
      generalize (l.getD k ⟨0,0,0,0,0⟩) = x at *
      go_upto_region 6 with fail
      obtain ⟨HR,HS,hb⟩:=HM.out
      have HP:=Blk.made wr (prC x) 59
      replace HR:=HR.alloc (.cells (prC x) 59)
      replace HS:=HS.alloc (.cells (prC x) 59)
      replace hb:=hb.alloc hb.size (.cells (prC x) 59)
      have hzr:=hbb
      change Blk (wr.alloc (.cells #[.int .u8 x.kind,.int .u32 x.n,.int .u32 x.g,.int .i64 x.d,.int .i64 x.kids] 59)) _ _ _ at HR
      change Blk (wr.alloc (.cells #[.int .u8 x.kind,.int .u32 x.n,.int .u32 x.g,.int .i64 x.d,.int .i64 x.kids] 59)) _ _ _ at HS
      change Blk (wr.alloc (.cells #[.int .u8 x.kind,.int .u32 x.n,.int .u32 x.g,.int .i64 x.d,.int .i64 x.kids] 59)) _ (prC x) _ at HP
      change Below _ _ (wr.alloc (.cells #[.int .u8 x.kind,.int .u32 x.n,.int .u32 x.g,.int .i64 x.d,.int .i64 x.kids] 59)) at hb
      generalize wr.alloc (.cells #[.int .u8 x.kind,.int .u32 x.n,.int .u32 x.g,.int .i64 x.d,.int .i64 x.kids] 59) = w3 at *
      have HM3:=hidE (And.intro HR (And.intro HS (And.intro HP hb)))
      clear HM HR HS HP hb c0 c1 c2 c3 c4
      generalize wr.heap.size = q at *
      go_wp2_with fail
      go_loopg [19] 5 (fun gh v19 wi => ∃ j:Nat,j≤5∧5 - j≤gh∧v19 = .int .i64 j∧(∀ i,i < j→reasS k d O x i = false)∧Blk wi w.heap.size rsC 111∧Blk wi w1.heap.size (spC k d O) 108∧Blk wi q (prC x) 59∧Below w.heap.size w wi)
      case atStart =>
        obtain ⟨HR,HS,HP,hb⟩:=HM3.out
        exact ⟨0,Nat.zero_le _,Nat.le_refl _,rfl,fun i h => by omega,HR,HS,HP,hb⟩
      case round =>
        obtain ⟨j,hj5,hgi,rfl,hfa,HR,HS,HP,hb⟩:=hrel
        clear HM3
        by_cases hj:j < 5
        · have HGI:=hidE (And.intro hgi hfa)
          clear hgi hfa
          rcases (show j = 0 ∨ j = 1 ∨ j = 2 ∨ j = 3 ∨ j = 4 by omega) with rfl | rfl | rfl | rfl | rfl
          · have g0:wr.cell? ⟨w.heap.size,0,none⟩ = some (.func (.func 63) #[] #[]):=HR.cell 0
            have g1:wr.cell? ⟨w.heap.size,1,none⟩ = some (.int .i64 81):=HR.cell 1
            have p0:wr.cell? ⟨q,0,none⟩ = some (.int .u8 x.kind):=HP.cell 0;have p1:wr.cell? ⟨q,1,none⟩ = some (.int .u32 x.n):=HP.cell 1;have p2:wr.cell? ⟨q,2,none⟩ = some (.int .u32 x.g):=HP.cell 2;have p3:wr.cell? ⟨q,3,none⟩ = some (.int .i64 x.d):=HP.cell 3;have p4:wr.cell? ⟨q,4,none⟩ = some (.int .i64 x.kids):=HP.cell 4
            have z1:=HR.lt;have z2:=HS.lt;have z3:=HP.lt
            have HC:=hidE (fun W => rea0_c k d O x W)
            have HN:=hidE (Blk.made wr #[.func (.func 63) #[] #[],.int .i64 81] 111)
            have H:=hidE (And.intro (HR.alloc (.cells #[.func (.func 63) #[] #[],.int .i64 81] 111)) (And.intro (HS.alloc (.cells #[.func (.func 63) #[] #[],.int .i64 81] 111)) (And.intro (HP.alloc (.cells #[.func (.func 63) #[] #[],.int .i64 81] 111)) (hb.alloc hb.size (.cells #[.func (.func 63) #[] #[],.int .i64 81] 111)))))
            clear HR HS HP hb
            go_upto_region 9 with fail
            obtain ⟨ds,hu,hd⟩:=Tryz.undSpot
            iterate 7 go_step
            refine wpList_load_mid rfl 108 (.tmp 5) rfl w1.heap.size 0 rfl (spC k d O).toList ds H.out.2.1.range hu hd Tryz.infoSpot ?_
            clear hu hd
            go_wp2_with fail
            ((with_reducible refine (HC.out _).mono ?_);rintro e wc ⟨rfl,hbc⟩)
            have y0:wc.cell? ⟨w1.heap.size,0,none⟩ = some (.int .i64 k):=(H.out.2.1.past hbc).cell 0
            have y1:wc.cell? ⟨wr.heap.size,1,none⟩ = some (.int .i64 81):=(HN.out.past hbc).cell 1
            have HF:=hidE (And.intro (H.out.1.past hbc) (And.intro (H.out.2.1.past hbc) (And.intro (H.out.2.2.1.past hbc) (H.out.2.2.2.trans (hbc.mono H.out.2.2.2.size)))))
            have v1:=HF.out.1.lt;have v2:=HF.out.2.1.lt;have v3:=(HN.out.past hbc).lt
            clear H HN hbc g0 g1 p0 p1 p2 p3 p4 z1 z2 z3 HC
            cases hv:reasS k d O x 0 with
            | true =>
              have HRES:=hidE (HRE.out 0 (by omega) HGI.out.2 hv)
              clear hv
              go_upto_region 10 with fail
              go_quiet (fail)
              go_wp2
              refine bodyPost_ret (v := .tuple #[.int .i64 k,.int .i64 81]) (by simp [results,Tryz.results30,go_sem]) rfl ⟨by rw [HRES.out];rfl,below_drewN HF.out.2.2.2 _⟩
            | false =>
              go_wp2_with fail
              go_roundg (5 - 1)
              case measure => have:=HGI.out.1;omega
              case rel => exact ⟨1,by omega,Nat.le_refl _,by go_num,fun i hi => by
                  by_cases c:i < 0
                  · exact HGI.out.2 i c
                  · rw [show i = 0 by omega];exact hv,HF.out.1,HF.out.2.1,HF.out.2.2.1,HF.out.2.2.2⟩
          · have g0:wr.cell? ⟨w.heap.size,2,none⟩ = some (.func (.func 64) #[] #[]):=HR.cell 2
            have g1:wr.cell? ⟨w.heap.size,3,none⟩ = some (.int .i64 81):=HR.cell 3
            have p0:wr.cell? ⟨q,0,none⟩ = some (.int .u8 x.kind):=HP.cell 0;have p1:wr.cell? ⟨q,1,none⟩ = some (.int .u32 x.n):=HP.cell 1;have p2:wr.cell? ⟨q,2,none⟩ = some (.int .u32 x.g):=HP.cell 2;have p3:wr.cell? ⟨q,3,none⟩ = some (.int .i64 x.d):=HP.cell 3;have p4:wr.cell? ⟨q,4,none⟩ = some (.int .i64 x.kids):=HP.cell 4
            have z1:=HR.lt;have z2:=HS.lt;have z3:=HP.lt
            have HC:=hidE (fun W => rea1_c k d O x W)
            have HN:=hidE (Blk.made wr #[.func (.func 64) #[] #[],.int .i64 81] 111)
            have H:=hidE (And.intro (HR.alloc (.cells #[.func (.func 64) #[] #[],.int .i64 81] 111)) (And.intro (HS.alloc (.cells #[.func (.func 64) #[] #[],.int .i64 81] 111)) (And.intro (HP.alloc (.cells #[.func (.func 64) #[] #[],.int .i64 81] 111)) (hb.alloc hb.size (.cells #[.func (.func 64) #[] #[],.int .i64 81] 111)))))
            clear HR HS HP hb
            go_upto_region 9 with fail
            obtain ⟨ds,hu,hd⟩:=Tryz.undSpot
            iterate 7 go_step
            refine wpList_load_mid rfl 108 (.tmp 5) rfl w1.heap.size 0 rfl (spC k d O).toList ds H.out.2.1.range hu hd Tryz.infoSpot ?_
            clear hu hd
            go_wp2_with fail
            ((with_reducible refine (HC.out _).mono ?_);rintro e wc ⟨rfl,hbc⟩)
            have y0:wc.cell? ⟨w1.heap.size,0,none⟩ = some (.int .i64 k):=(H.out.2.1.past hbc).cell 0
            have y1:wc.cell? ⟨wr.heap.size,1,none⟩ = some (.int .i64 81):=(HN.out.past hbc).cell 1
            have HF:=hidE (And.intro (H.out.1.past hbc) (And.intro (H.out.2.1.past hbc) (And.intro (H.out.2.2.1.past hbc) (H.out.2.2.2.trans (hbc.mono H.out.2.2.2.size)))))
            have v1:=HF.out.1.lt;have v2:=HF.out.2.1.lt;have v3:=(HN.out.past hbc).lt
            clear H HN hbc g0 g1 p0 p1 p2 p3 p4 z1 z2 z3 HC
            cases hv:reasS k d O x 1 with
            | true =>
              have HRES:=hidE (HRE.out 1 (by omega) HGI.out.2 hv)
              clear hv
              go_upto_region 10 with fail
              go_quiet (fail)
              go_wp2
              refine bodyPost_ret (v := .tuple #[.int .i64 k,.int .i64 81]) (by simp [results,Tryz.results30,go_sem]) rfl ⟨by rw [HRES.out];rfl,below_drewN HF.out.2.2.2 _⟩
            | false =>
              go_wp2_with fail
              go_roundg (5 - 2)
              case measure => have:=HGI.out.1;omega
              case rel => exact ⟨2,by omega,Nat.le_refl _,by go_num,fun i hi => by
                  by_cases c:i < 1
                  · exact HGI.out.2 i c
                  · rw [show i = 1 by omega];exact hv,HF.out.1,HF.out.2.1,HF.out.2.2.1,HF.out.2.2.2⟩
          · have g0:wr.cell? ⟨w.heap.size,4,none⟩ = some (.func (.func 65) #[] #[]):=HR.cell 4
            have g1:wr.cell? ⟨w.heap.size,5,none⟩ = some (.int .i64 81):=HR.cell 5
            have p0:wr.cell? ⟨q,0,none⟩ = some (.int .u8 x.kind):=HP.cell 0;have p1:wr.cell? ⟨q,1,none⟩ = some (.int .u32 x.n):=HP.cell 1;have p2:wr.cell? ⟨q,2,none⟩ = some (.int .u32 x.g):=HP.cell 2;have p3:wr.cell? ⟨q,3,none⟩ = some (.int .i64 x.d):=HP.cell 3;have p4:wr.cell? ⟨q,4,none⟩ = some (.int .i64 x.kids):=HP.cell 4
            have z1:=HR.lt;have z2:=HS.lt;have z3:=HP.lt
            have HC:=hidE (fun W => rea2_c k d O x W)
            have HN:=hidE (Blk.made wr #[.func (.func 65) #[] #[],.int .i64 81] 111)
            have H:=hidE (And.intro (HR.alloc (.cells #[.func (.func 65) #[] #[],.int .i64 81] 111)) (And.intro (HS.alloc (.cells #[.func (.func 65) #[] #[],.int .i64 81] 111)) (And.intro (HP.alloc (.cells #[.func (.func 65) #[] #[],.int .i64 81] 111)) (hb.alloc hb.size (.cells #[.func (.func 65) #[] #[],.int .i64 81] 111)))))
            clear HR HS HP hb
            go_upto_region 9 with fail
            obtain ⟨ds,hu,hd⟩:=Tryz.undSpot
            iterate 7 go_step
            refine wpList_load_mid rfl 108 (.tmp 5) rfl w1.heap.size 0 rfl (spC k d O).toList ds H.out.2.1.range hu hd Tryz.infoSpot ?_
            clear hu hd
            go_wp2_with fail
            ((with_reducible refine (HC.out _).mono ?_);rintro e wc ⟨rfl,hbc⟩)
            have y0:wc.cell? ⟨w1.heap.size,0,none⟩ = some (.int .i64 k):=(H.out.2.1.past hbc).cell 0
            have y1:wc.cell? ⟨wr.heap.size,1,none⟩ = some (.int .i64 81):=(HN.out.past hbc).cell 1
            have HF:=hidE (And.intro (H.out.1.past hbc) (And.intro (H.out.2.1.past hbc) (And.intro (H.out.2.2.1.past hbc) (H.out.2.2.2.trans (hbc.mono H.out.2.2.2.size)))))
            have v1:=HF.out.1.lt;have v2:=HF.out.2.1.lt;have v3:=(HN.out.past hbc).lt
            clear H HN hbc g0 g1 p0 p1 p2 p3 p4 z1 z2 z3 HC
            cases hv:reasS k d O x 2 with
            | true =>
              have HRES:=hidE (HRE.out 2 (by omega) HGI.out.2 hv)
              clear hv
              go_upto_region 10 with fail
              go_quiet (fail)
              go_wp2
              refine bodyPost_ret (v := .tuple #[.int .i64 k,.int .i64 81]) (by simp [results,Tryz.results30,go_sem]) rfl ⟨by rw [HRES.out];rfl,below_drewN HF.out.2.2.2 _⟩
            | false =>
              go_wp2_with fail
              go_roundg (5 - 3)
              case measure => have:=HGI.out.1;omega
              case rel => exact ⟨3,by omega,Nat.le_refl _,by go_num,fun i hi => by
                  by_cases c:i < 2
                  · exact HGI.out.2 i c
                  · rw [show i = 2 by omega];exact hv,HF.out.1,HF.out.2.1,HF.out.2.2.1,HF.out.2.2.2⟩
          · have g0:wr.cell? ⟨w.heap.size,6,none⟩ = some (.func (.func 66) #[] #[]):=HR.cell 6
            have g1:wr.cell? ⟨w.heap.size,7,none⟩ = some (.int .i64 81):=HR.cell 7
            have p0:wr.cell? ⟨q,0,none⟩ = some (.int .u8 x.kind):=HP.cell 0;have p1:wr.cell? ⟨q,1,none⟩ = some (.int .u32 x.n):=HP.cell 1;have p2:wr.cell? ⟨q,2,none⟩ = some (.int .u32 x.g):=HP.cell 2;have p3:wr.cell? ⟨q,3,none⟩ = some (.int .i64 x.d):=HP.cell 3;have p4:wr.cell? ⟨q,4,none⟩ = some (.int .i64 x.kids):=HP.cell 4
            have z1:=HR.lt;have z2:=HS.lt;have z3:=HP.lt
            have HC:=hidE (fun W => rea3_c k d O x W hd8)
            have HN:=hidE (Blk.made wr #[.func (.func 66) #[] #[],.int .i64 81] 111)
            have H:=hidE (And.intro (HR.alloc (.cells #[.func (.func 66) #[] #[],.int .i64 81] 111)) (And.intro (HS.alloc (.cells #[.func (.func 66) #[] #[],.int .i64 81] 111)) (And.intro (HP.alloc (.cells #[.func (.func 66) #[] #[],.int .i64 81] 111)) (hb.alloc hb.size (.cells #[.func (.func 66) #[] #[],.int .i64 81] 111)))))
            clear HR HS HP hb
            go_upto_region 9 with fail
            obtain ⟨ds,hu,hd⟩:=Tryz.undSpot
            iterate 7 go_step
            refine wpList_load_mid rfl 108 (.tmp 5) rfl w1.heap.size 0 rfl (spC k d O).toList ds H.out.2.1.range hu hd Tryz.infoSpot ?_
            clear hu hd
            go_wp2_with fail
            ((with_reducible refine (HC.out _).mono ?_);rintro e wc ⟨rfl,hbc⟩)
            have y0:wc.cell? ⟨w1.heap.size,0,none⟩ = some (.int .i64 k):=(H.out.2.1.past hbc).cell 0
            have y1:wc.cell? ⟨wr.heap.size,1,none⟩ = some (.int .i64 81):=(HN.out.past hbc).cell 1
            have HF:=hidE (And.intro (H.out.1.past hbc) (And.intro (H.out.2.1.past hbc) (And.intro (H.out.2.2.1.past hbc) (H.out.2.2.2.trans (hbc.mono H.out.2.2.2.size)))))
            have v1:=HF.out.1.lt;have v2:=HF.out.2.1.lt;have v3:=(HN.out.past hbc).lt
            clear H HN hbc g0 g1 p0 p1 p2 p3 p4 z1 z2 z3 HC
            cases hv:reasS k d O x 3 with
            | true =>
              have HRES:=hidE (HRE.out 3 (by omega) HGI.out.2 hv)
              clear hv
              go_upto_region 10 with fail
              go_quiet (fail)
              go_wp2
              refine bodyPost_ret (v := .tuple #[.int .i64 k,.int .i64 81]) (by simp [results,Tryz.results30,go_sem]) rfl ⟨by rw [HRES.out];rfl,below_drewN HF.out.2.2.2 _⟩
            | false =>
              go_wp2_with fail
              go_roundg (5 - 4)
              case measure => have:=HGI.out.1;omega
              case rel => exact ⟨4,by omega,Nat.le_refl _,by go_num,fun i hi => by
                  by_cases c:i < 3
                  · exact HGI.out.2 i c
                  · rw [show i = 3 by omega];exact hv,HF.out.1,HF.out.2.1,HF.out.2.2.1,HF.out.2.2.2⟩
          · have g0:wr.cell? ⟨w.heap.size,8,none⟩ = some (.func (.func 67) #[] #[]):=HR.cell 8
            have g1:wr.cell? ⟨w.heap.size,9,none⟩ = some (.int .i64 80):=HR.cell 9
            have p0:wr.cell? ⟨q,0,none⟩ = some (.int .u8 x.kind):=HP.cell 0;have p1:wr.cell? ⟨q,1,none⟩ = some (.int .u32 x.n):=HP.cell 1;have p2:wr.cell? ⟨q,2,none⟩ = some (.int .u32 x.g):=HP.cell 2;have p3:wr.cell? ⟨q,3,none⟩ = some (.int .i64 x.d):=HP.cell 3;have p4:wr.cell? ⟨q,4,none⟩ = some (.int .i64 x.kids):=HP.cell 4
            have z1:=HR.lt;have z2:=HS.lt;have z3:=HP.lt
            have HC:=hidE (fun W => rea4_c k d O x W)
            have HN:=hidE (Blk.made wr #[.func (.func 67) #[] #[],.int .i64 80] 111)
            have H:=hidE (And.intro (HR.alloc (.cells #[.func (.func 67) #[] #[],.int .i64 80] 111)) (And.intro (HS.alloc (.cells #[.func (.func 67) #[] #[],.int .i64 80] 111)) (And.intro (HP.alloc (.cells #[.func (.func 67) #[] #[],.int .i64 80] 111)) (hb.alloc hb.size (.cells #[.func (.func 67) #[] #[],.int .i64 80] 111)))))
            clear HR HS HP hb
            go_upto_region 9 with fail
            obtain ⟨ds,hu,hd⟩:=Tryz.undSpot
            iterate 7 go_step
            refine wpList_load_mid rfl 108 (.tmp 5) rfl w1.heap.size 0 rfl (spC k d O).toList ds H.out.2.1.range hu hd Tryz.infoSpot ?_
            clear hu hd
            go_wp2_with fail
            ((with_reducible refine (HC.out _).mono ?_);rintro e wc ⟨rfl,hbc⟩)
            have y0:wc.cell? ⟨w1.heap.size,0,none⟩ = some (.int .i64 k):=(H.out.2.1.past hbc).cell 0
            have y1:wc.cell? ⟨wr.heap.size,1,none⟩ = some (.int .i64 80):=(HN.out.past hbc).cell 1
            have HF:=hidE (And.intro (H.out.1.past hbc) (And.intro (H.out.2.1.past hbc) (And.intro (H.out.2.2.1.past hbc) (H.out.2.2.2.trans (hbc.mono H.out.2.2.2.size)))))
            have v1:=HF.out.1.lt;have v2:=HF.out.2.1.lt;have v3:=(HN.out.past hbc).lt
            clear H HN hbc g0 g1 p0 p1 p2 p3 p4 z1 z2 z3 HC
            cases hv:reasS k d O x 4 with
            | true =>
              have HRES:=hidE (HRE.out 4 (by omega) HGI.out.2 hv)
              clear hv
              go_upto_region 10 with fail
              go_quiet (fail)
              go_wp2
              refine bodyPost_ret (v := .tuple #[.int .i64 k,.int .i64 80]) (by simp [results,Tryz.results30,go_sem]) rfl ⟨by rw [HRES.out];rfl,below_drewN HF.out.2.2.2 _⟩
            | false =>
              go_wp2_with fail
              go_roundg (5 - 5)
              case measure => have:=HGI.out.1;omega
              case rel => exact ⟨5,by omega,Nat.le_refl _,by go_num,fun i hi => by
                  by_cases c:i < 4
                  · exact HGI.out.2 i c
                  · rw [show i = 4 by omega];exact hv,HF.out.1,HF.out.2.1,HF.out.2.2.1,HF.out.2.2.2⟩
        · obtain rfl:j = 5:=by omega
          have hall:=hfa
          obtain ⟨hk6,hd7,hnx⟩:=HNX.out hfa
          have p0:wr.cell? ⟨q,0,none⟩ = some (.int .u8 x.kind):=HP.cell 0;have p1:wr.cell? ⟨q,1,none⟩ = some (.int .u32 x.n):=HP.cell 1;have p2:wr.cell? ⟨q,2,none⟩ = some (.int .u32 x.g):=HP.cell 2;have p3:wr.cell? ⟨q,3,none⟩ = some (.int .i64 x.d):=HP.cell 3;have p4:wr.cell? ⟨q,4,none⟩ = some (.int .i64 x.kids):=HP.cell 4
          have z1:=HR.lt;have z2:=HS.lt;have z3:=HP.lt
          have hbad:=hfa 2 (by omega)
          have HC:=hidE (fun W => beh8_c k d O x W (by omega) hd8 (fun _ => hd7) HAT.out.top HAT.out.num (bad_kids hbad))
          have HNE:=hidE hnx
          have H:=hidE (And.intro HR (And.intro HS hb))
          clear HR HS HP hb hfa hall hnx hbad
          obtain ⟨ds,hu,hd⟩:=Tryz.undSpot
          go_upto_region 12 with fail
          go_step
          refine wpList_load_mid rfl 108 (.tmp 5) rfl w1.heap.size 0 rfl (spC k d O).toList ds H.out.2.1.range hu hd Tryz.infoSpot ?_
          clear hu hd
          go_wp2_with fail
          ((with_reducible refine (HC.out _).mono ?_);rintro e wc ⟨rfl,hbc⟩)
          dsimp only
          go_step
          have HS':=H.out.2.1.past hbc
          have HR':=(H.out.1.past hbc).setCells_other (b:=w1.heap.size) (by omega) (spC (k + 1) (popN (nextO d O x) (nextD d x)) (nextO d O x)).toList 0
          have hb':=below_setCells (H.out.2.2.trans (hbc.mono H.out.2.2.size)) (show w.heap.size≤w1.heap.size by omega) (spC (k + 1) (popN (nextO d O x) (nextD d x)) (nextO d O x)).toList 0
          refine wpList_store_mid rfl 108 (.tmp 5) (.tmp 35) rfl w1.heap.size 0 (spC (k + 1) (popN (nextO d O x) (nextD d x)) (nextO d O x)) rfl rfl HS'.there Tryz.infoSpot (spC_one _ _ _) ?_
          replace HS':=spC_all k d (k + 1) (popN (nextO d O x) (nextD d x)) O (nextO d O x) ▸ HS'.setCells (spC (k + 1) (popN (nextO d O x) (nextD d x)) (nextO d O x)).toList 0
          generalize World.setCells wc _ _ _ = wn at *
          have HF:=hidE (And.intro HR' (And.intro HS' hb'))
          clear HR' HS' hb' H hbc HC
          generalize popN (nextO d O x) (nextD d x) = d2 at *
          generalize nextO d O x = O2 at *
          go_wp2_with fail
          go_roundg (l.length - (k + 1))
          case measure => have:=HG.out;omega
          case rel => exact ⟨k + 1,d2,O2,by omega,Nat.le_refl _,by go_num,HNE.out,by omega,HF.out.1,HF.out.2.1,HF.out.2.2⟩
    · obtain rfl:k = l.length:=by omega
      have r1:decide ((l.length:Int) < (l.length:Int)) = false:=decide_eq_false (by omega)
      have r2:decide (l.length < l.length) = false:=decide_eq_false (by omega)
      have HE:=hidE (at_end hat rfl)
      have s0:wr.cell? ⟨w1.heap.size,0,none⟩ = some (.int .i64 l.length):=HS.cell 0
      have s1:wr.cell? ⟨w1.heap.size,1,none⟩ = some (.int .i64 d):=HS.cell 1
      have z1:=HS.lt
      have HB:=hidE hb
      clear hat HR HS hb hgh HR0 HS0 HW0 HB0 HB1
      by_cases c0:l.length = 0
      · have q1:((l.length:Int) == 0) = true:=by rw [c0];rfl
        rw [if_pos (.inl c0)] at HE
        clear c0
        go_wp2
        refine bodyPost_ret (v := .tuple #[.int .i64 l.length,.int .i64 81]) (by simp [results,Tryz.results30,go_sem]) rfl ⟨by rw [HE.out],HB.out⟩
      · have q1:((l.length:Int) == 0) = false:=beq_eq_false_iff_ne.2 (by omega)
        by_cases c1:0 < d
        · have q2:decide ((d:Int) > 0) = true:=decide_eq_true (by omega)
          have q3:decide (0 < d) = true:=decide_eq_true c1
          rw [if_pos (.inr c1)] at HE
          go_wp2
          refine bodyPost_ret (v := .tuple #[.int .i64 l.length,.int .i64 81]) (by simp [results,Tryz.results30,go_sem]) rfl ⟨by rw [HE.out],HB.out⟩
        · have q2:decide ((d:Int) > 0) = false:=decide_eq_false (by omega)
          have q3:decide (0 < d) = false:=decide_eq_false c1
          rw [if_neg (by omega)] at HE
          go_wp2
          refine bodyPost_ret (v := .tuple #[.int .i64 0,.int .i64 0]) (by simp [results,Tryz.results30,go_sem]) rfl ⟨by rw [HE.out];rfl,HB.out⟩
end
section
open Go.ChangeShapes Go.WideShapes Go.ChangeAt Go.RowKit
attribute [local irreducible] Go.Calls
def win8B (fr to':Int):Bool:=decide (0≤fr∧fr < to'∧to'≤1099511627776∧to' - fr≤4096)
theorem window8_c (fr to':Int) (w:World) (hf : -9223372036854775808≤fr∧fr≤9223372036854775807) (ht : -9223372036854775808≤to'∧to'≤9223372036854775807) :
    Calls Tryz.prog 29 #[.int .i64 fr,.int .i64 to'] w fun e w' => e = .returned (.bool (win8B fr to'))∧Below w.heap.size w w':=by
  by_cases h0:0≤fr∧fr < to'
  · have q:IntKind.i64.wrap (to' - fr) = to' - fr:=IntWalk.i64_in _ (by omega)
    have q0:decide (0≤fr) = true:=decide_eq_true h0.1
    have q1:decide (fr < to') = true:=decide_eq_true h0.2
    have HE:=hidE (show win8B fr to' = decide (to'≤1099511627776∧to' - fr≤4096) by unfold win8B;simp [h0])
    rw [HE.out]
    clear HE h0
    go_enter Tryz.func29,Tryz.ntmps29
    go_wp2
    all_goals
      go_ret
      refine ⟨ret_bool ?_,by (repeat (first | exact Below.refl _ _ | assumption | refine balloc ?_ _ | refine below_drewN ?_ _ | refine bstep (by assumption) ?_ | refine bstep (Past.prop _) ?_ | refine Below.setCell ?_ (by first | exact Nat.le_refl _ | (simp;done) | (simp;omega)) _))⟩
      first | (symm;rw [Bool.and_eq_false_iff];simp only [decide_eq_false_iff_not];omega) | (symm;apply decide_eq_true;omega) | (symm;apply decide_eq_false;omega) | (rw [Bool.eq_iff_iff];simp only [decide_eq_true_eq];omega) | (simp_all;done)
  · have HE:=hidE (show win8B fr to' = false by unfold win8B;exact decide_eq_false (by omega))
    rw [HE.out]
    clear HE
    go_enter Tryz.func29,Tryz.ntmps29
    go_wp2
    all_goals
      go_ret
      refine ⟨ret_bool ?_,by (repeat (first | exact Below.refl _ _ | assumption | refine balloc ?_ _ | refine below_drewN ?_ _ | refine bstep (by assumption) ?_ | refine bstep (Past.prop _) ?_ | refine Below.setCell ?_ (by first | exact Nat.le_refl _ | (simp;done) | (simp;omega)) _))⟩
      first | rfl | (apply decide_eq_false;omega) | (simp_all;done)
theorem shchk_c (fr to':Int) (l:List Prt) (a:Option Addr) (cap:Nat) (w:World) (hl:l.length≤9223372036854775807) (hA:ArgP w a l) (hf : -9223372036854775808≤fr∧fr≤9223372036854775807) (ht : -9223372036854775808≤to'∧to'≤9223372036854775807) :
    Calls Tryz.prog 15 #[def8 fr to' a l.length cap] w fun e w' => e = .returned (.tuple #[.int .i64 (chkS fr to' l).1,.int .i64 (chkS fr to' l).2])∧Below w.heap.size w w':=by
  have HW:=hidE (fun W => window8_c fr to' W hf ht)
  have HF:=hidE (fun W (h:Below w.heap.size w W) => fault8_c l a cap W hl (hA.past h))
  clear hA
  cases hw:win8B fr to' with
  | true =>
    rw [hw] at HW
    have HE:=hidE (show chkS fr to' l = (((treeS l).1:Int),(treeS l).2) by
      unfold chkS
      exact if_neg (by unfold win8B at hw;have:=of_decide_eq_true hw;omega))
    clear hw
    generalize hT:treeS l = T at *
    obtain ⟨t1,t2⟩:=T
    rw [HE.out]
    clear HE hT
    go_enter Tryz.func15,Tryz.ntmps15
    go_wp2_with fail
    ((with_reducible refine (HW.out _).mono ?_);rintro e w1 ⟨rfl,hb1⟩)
    have hb:=(show Below w.heap.size w (w.alloc (.cells #[.int .i64 fr,.int .i64 to',.slice a l.length cap] 24)) from by (repeat (first | exact Below.refl _ _ | assumption | refine balloc ?_ _ | refine below_drewN ?_ _ | refine bstep (by assumption) ?_ | refine bstep (Past.prop _) ?_ | refine Below.setCell ?_ (by first | exact Nat.le_refl _ | (simp;done) | (simp;omega)) _))).trans (hb1.mono (by simp))
    have hc:=(Blk.made w #[.int .i64 fr,.int .i64 to',.slice a l.length cap] 24).past hb1
    have c2:=hc.cell 2;have z:=hc.lt
    simp at c2
    clear hc hb1
    have HB:=hidE hb
    clear hb
    go_wp2_with fail
    ((with_reducible refine (HF.out _ HB.out).mono ?_);rintro e w2 ⟨rfl,hb2⟩)
    go_wp2
    refine bodyPost_ret (v := .tuple #[.int .i64 t1,.int .i64 t2]) (by simp [results,Tryz.results15,go_sem]) rfl ⟨rfl,HB.out.trans (hb2.mono HB.out.size)⟩
  | false =>
    rw [hw] at HW
    have HE:=hidE (show chkS fr to' l = (-1,82) by
      unfold chkS
      exact if_pos (by unfold win8B at hw;have:=of_decide_eq_false hw;omega))
    rw [HE.out]
    clear hw HE HF
    go_enter Tryz.func15,Tryz.ntmps15
    go_wp2_with fail
    ((with_reducible refine (HW.out _).mono ?_);rintro e w1 ⟨rfl,hb1⟩)
    have hb:=(show Below w.heap.size w (w.alloc (.cells #[.int .i64 fr,.int .i64 to',.slice a l.length cap] 24)) from by (repeat (first | exact Below.refl _ _ | assumption | refine balloc ?_ _ | refine below_drewN ?_ _ | refine bstep (by assumption) ?_ | refine bstep (Past.prop _) ?_ | refine Below.setCell ?_ (by first | exact Nat.le_refl _ | (simp;done) | (simp;omega)) _))).trans (hb1.mono (by simp))
    have HB:=hidE hb
    clear hb hb1
    go_wp2
    refine bodyPost_ret (v := .tuple #[.int .i64 (-1),.int .i64 82]) (by simp [results,Tryz.results15,go_sem]) rfl ⟨rfl,HB.out⟩
theorem wrong8_c (l:List Prt) (z:Int) (a:Option Addr) (cap:Nat) (w:World) (hl:l.length≤9223372036854775807) (hA:ArgP w a l) (hz : -9223372036854775808≤z∧z≤9223372036854775807) :
    Calls Tryz.prog 46 #[.slice a l.length cap,.int .i64 z] w fun e w' => e = .returned (.int .i64 (mayS l z))∧Below w.heap.size w w':=by
  have HF:=hidE (fault8_c l a cap w hl hA)
  clear hA
  by_cases ht:(treeS l).2 = 0
  · have hE:mayS l z = if z < 0 ∨ (l.length:Int)≤z then 2 else 0:=if_neg (by rw [ht];exact fun h => h rfl)
    rw [ht] at HF
    clear ht
    generalize ((treeS l).1:Nat) = t1 at *
    by_cases h:z < 0 ∨ (l.length:Int)≤z
    · rw [if_pos h] at hE
      rw [hE]
      clear hE
      by_cases h0:z < 0
      · have q0:decide (z < 0) = true:=decide_eq_true h0
        clear h h0
        go_enter Tryz.func46,Tryz.ntmps46
        go_wp2_with (go_at_call 30;(with_reducible refine HF.out.mono ?_);rintro e w1 ⟨rfl,hb1⟩)
        go_ret
        exact ⟨rfl,hb1⟩
      · have q0:decide (z < 0) = false:=decide_eq_false h0
        have q1:decide (z ≥ (l.length:Int)) = true:=decide_eq_true (by omega)
        have q2:decide ((l.length:Int)≤z) = true:=decide_eq_true (by omega)
        clear h h0
        go_enter Tryz.func46,Tryz.ntmps46
        go_wp2_with (go_at_call 30;(with_reducible refine HF.out.mono ?_);rintro e w1 ⟨rfl,hb1⟩)
        go_ret
        exact ⟨rfl,hb1⟩
    · rw [if_neg h] at hE
      rw [hE]
      have q0:decide (z < 0) = false:=decide_eq_false (by omega)
      have q1:decide (z ≥ (l.length:Int)) = false:=decide_eq_false (by omega)
      have q2:decide ((l.length:Int)≤z) = false:=decide_eq_false (by omega)
      clear hE h
      go_enter Tryz.func46,Tryz.ntmps46
      go_wp2_with (go_at_call 30;(with_reducible refine HF.out.mono ?_);rintro e w1 ⟨rfl,hb1⟩)
      go_ret
      exact ⟨rfl,hb1⟩
  · have hE:mayS l z = 81:=if_pos ht
    rw [hE]
    have q:((treeS l).2 != 0) = true:=bne_iff_ne.2 ht
    clear hE ht
    generalize ((treeS l).1:Nat) = t1 at *
    generalize (treeS l).2 = t2 at *
    go_enter Tryz.func46,Tryz.ntmps46
    go_wp2_with (go_at_call 30;(with_reducible refine HF.out.mono ?_);rintro e w1 ⟨rfl,hb1⟩)
    go_ret
    exact ⟨rfl,hb1⟩
end
section
open Go.ChangeShapes Go.WideShapes Go.ChangeAt Go.RowKit
attribute [local irreducible] Go.Calls
set_option maxHeartbeats 1000000 in
theorem end8_c (l:List Prt) (a:Option Addr) (cap:Nat) (hl:l.length≤1000000) (ht:(treeS l).2 = 0):∀ (m p:Nat) (w:World),l.length - p≤m→p < l.length→ArgP w a l →
    Calls Tryz.prog 69 #[.slice a l.length cap,.int .i64 p] w fun e w' => e = .returned (.int .i64 (endS l p))∧Below w.heap.size w w':=by
  intro m
  induction m with
  | zero => intro p w hm hp;omega
  | succ m ih =>
    intro p w hm hp hA
    have hH:=tree_hang ht
    have hch:=hidE (hH.chain p hp)
    have hkd:=hidE (fun k hk => hH.kid p k hp hk)
    have hup:=hidE (hH.up p hp).2
    have hge:=hidE (fun k hk => kidAt_ge hH hp k hk)
    obtain ⟨b,off,rfl,hbb,hc⟩:=hA (by omega)
    have c4:=(hc.get hp).2.2.2.2
    rw [show l.getD p pr0 = prN l p from rfl] at c4
    have hks:=tree_kids ht hp
    rw [show l.getD p ⟨0,0,0,0,0⟩ = prN l p from rfl] at hks
    have HA:=hidE (show ArgP w (some ⟨b,off,none⟩) l from hA)
    have HM:=hidE hm
    have HI:=hidE ih
    have HL:=hidE hl
    clear hA hc ih hH hm
    obtain ⟨K,hK⟩:∃ K:Nat,(prN l p).kids = (K:Int):=⟨(prN l p).kids.toNat,by omega⟩
    rw [hK] at c4
    have hKN:(prN l p).kids.toNat = K:=by omega
    rw [hKN] at hch hkd hge
    have hK16:K≤16:=by omega
    clear hK hKN hks
    have w1:IntKind.i64.wrap ((p:Int) + 1) = (p:Int) + 1:=IntWalk.i64_in _ (by omega)
    clear hl
    go_enter Tryz.func69,Tryz.ntmps69
    go_wp2_with fail
    go_loopg [5,13] K (fun gh v5 v13 wr => ∃ k:Nat,k≤K∧K - k≤gh∧v13 = .int .i64 k∧v5 = .int .i64 (kidAt l (p + 1) k)∧Below w.heap.size w wr)
    case atStart => exact ⟨0,Nat.zero_le _,Nat.le_refl _,rfl,by simp [kidAt],Below.refl _ _⟩
    case round =>
      obtain ⟨k,hkk,hgh,rfl,rfl,hb⟩:=hrel
      have HB:=hidE hb;have HG:=hidE hgh
      clear hb hgh c4
      by_cases hlt:k < K
      · have r1:decide ((k:Int) < (K:Int)) = true:=decide_eq_true (by omega)
        have r2:decide (k < K) = true:=decide_eq_true hlt
        have h1:=hkd.out k hlt
        have h2:=hge.out k (by omega)
        have h3:=hup.out
        have HC:=hidE (HI.out (kidAt l (p + 1) k))
        have hlp:kidAt l (p + 1) k < l.length:=by omega
        have hmp:l.length - kidAt l (p + 1) k≤m:=by have:=HM.out;omega
        have HK:=hidE (show kidAt l (p + 1) (k + 1) = endS l (kidAt l (p + 1) k) from rfl)
        clear h1 h2 h3
        generalize kidAt l (p + 1) k = q at *
        generalize endS l q = q2 at *
        go_wp2_with (go_at_call 69;(with_reducible refine (HC.out _ (by assumption) (by assumption) (HA.out.past HB.out)).mono ?_);rintro e w2 ⟨rfl,hb2⟩)
        go_roundg (K - (k + 1))
        case measure => have:=HG.out;omega
        case rel => exact ⟨k + 1,by omega,Nat.le_refl _,by go_num,by rw [HK.out],HB.out.trans (hb2.mono HB.out.size)⟩
      · obtain rfl:k = K:=by omega
        have r1:decide ((k:Int) < (k:Int)) = false:=decide_eq_false (by omega)
        have r2:decide (k < k) = false:=decide_eq_false (by omega)
        go_wp2
        go_ret
        exact ⟨by rw [← hch.out];rfl,HB.out⟩
end
section
open Go.RowKit
end
section
open Go.ChangeShapes Go.WideShapes Go.ChangeAt Go.RowKit Go.Shelf
attribute [local irreducible] Go.Calls
attribute [local go_sem] Oper.semAt_some
def encK (x:Nat):Array Value:=#[.int .i64 x]
def ItK (l:List Prt) (a:Option Addr) (cap p ba bl:Nat) (W:World):Prop:=Blk W ba #[.int .i64 p] 3∧Blk W bl #[.slice a l.length cap] 22∧ArgP W a l
theorem children_c (a:Option Addr) (n cap p:Nat) (w:World):Calls Tryz.prog 47 #[.slice a n cap,.int .i64 p] w fun e w' => e = .returned (.func (.func 68) #[] #[.pointer (some ⟨w.heap.size + 1,0,none⟩),.pointer (some ⟨w.heap.size,0,none⟩)])∧Blk w' (w.heap.size + 1) #[.int .i64 p] 3∧Blk w' w.heap.size #[.slice a n cap] 22∧Below w.heap.size w w':=by
  go_enter Tryz.func47,Tryz.ntmps47
  go_wp2
  go_ret
  exact ⟨rfl,Blk.made_at _ _ _ _ (by simp),(Blk.made _ _ _).alloc _,by (repeat (first | exact Below.refl _ _ | assumption | refine balloc ?_ _ | refine below_drewN ?_ _ | refine bstep (by assumption) ?_ | refine bstep (Past.prop _) ?_ | refine Below.setCell ?_ (by first | exact Nat.le_refl _ | (simp;done) | (simp;omega)) _))⟩
set_option maxRecDepth 100000 in
set_option maxHeartbeats 2000000 in
theorem kids_it (l:List Prt) (a:Option Addr) (cap p ba bl n0:Nat) (w:World) (hl:l.length≤1000000) (ht:(treeS l).2 = 0) (hp:p < l.length) :
    SeqX Tryz.prog 68 #[] #[.pointer (some ⟨ba,0,none⟩),.pointer (some ⟨bl,0,none⟩)] encK n0 (ItK l a cap p ba bl) (kidsS l p) w:=by
  intro l' J Jx W hW hJ hJg hK hJx hY h0
  have hH:=tree_hang ht
  have hkd:=hidE (fun k hk => hH.kid p k hp hk)
  have hup:=hidE (hH.up p hp).2
  have hks:=tree_kids ht hp
  rw [show l.getD p ⟨0,0,0,0,0⟩ = prN l p from rfl] at hks
  obtain ⟨k1,k2,k3⟩:=hK _ _ _ h0
  obtain ⟨b,off,rfl,hbb,hc⟩:=k3 (by omega)
  have c4:=(hc.get hp).2.2.2.2
  rw [show l.getD p pr0 = prN l p from rfl] at c4
  have b0:=k1.cell 0;have b1:=k2.cell 0;have z0:=k1.lt;have z1:=k2.lt
  simp at b0 b1
  obtain ⟨K,hKe⟩:∃ K:Nat,(prN l p).kids = (K:Int):=⟨(prN l p).kids.toNat,by omega⟩
  have HKS:=hidE (show kidsS l p = kidsGo l K (p + 1) by unfold kidsS;rw [show l.getD p ⟨0,0,0,0,0⟩ = prN l p from rfl,hKe];rfl)
  rw [hKe] at c4
  have hKN:(prN l p).kids.toNat = K:=by omega
  rw [hKN] at hkd
  have hK16:K≤16:=by omega
  have H0:=hidE h0;have HK:=hidE hK;have HY:=hidE hY;have HJ:=hidE hJ;have HJG:=hidE hJg
  clear hJ hJg hJx hY h0 hK hW hH hks hKe hKN k1 k2 k3 hc
  have w1:IntKind.i64.wrap ((p:Int) + 1) = (p:Int) + 1:=IntWalk.i64_in _ (by omega)
  show Calls Tryz.prog 68 #[.func (.yield l') #[] #[],.pointer (some ⟨ba,0,none⟩),.pointer (some ⟨bl,0,none⟩)] W _
  go_enter Tryz.func68,Tryz.ntmps68
  go_wp2_with fail
  go_loopg [4,12] K (fun gh v4 v12 wr => ∃ (k:Nat) (pre:List Nat) (g:Option (Nat × Nat)),k≤K∧K - k≤gh∧v12 = .int .i64 k∧v4 = .int .i64 (kidAt l (p + 1) k)∧pre ++ kidsGo l (K - k) (kidAt l (p + 1) k) = kidsS l p∧J pre g wr∧W.heap.size≤wr.heap.size)
  case atStart => exact ⟨0,[],none,Nat.zero_le _,Nat.le_refl _,rfl,by simp [kidAt],HKS.out.symm,H0.out,Nat.le_refl _⟩
  case round =>
    obtain ⟨k,pre,g,hkk,hgh,rfl,rfl,hpre,hJ1,hsz⟩:=hrel
    have HJ1:=hidE hJ1;have HPRE:=hidE hpre;have HG:=hidE hgh;have HSZ:=hidE hsz
    clear hJ1 hpre hgh hsz c4 b0 b1 z0 z1
    obtain ⟨wo,hwo⟩:∃ wo:World,wo = wr:=⟨_,rfl⟩
    by_cases hlt:k < K
    · have d1:decide ((k:Int) < (K:Int)) = true:=decide_eq_true (by omega)
      have d1':decide (k < K) = true:=decide_eq_true hlt
      have HP2:=hidE (show pre ++ [kidAt l (p + 1) k] ++ kidsGo l (K - (k + 1)) (kidAt l (p + 1) (k + 1)) = kidsS l p by
        rw [← HPRE.out,show K - k = K - (k + 1) + 1 by omega,List.append_assoc];rfl)
      have hpx:pre ++ [kidAt l (p + 1) k] <+: kidsS l p:=⟨_,HP2.out⟩
      obtain ⟨fn,tmps,assign,body,hy,hR⟩:=HY.out pre _ g _ HJ1.out HSZ.out hpx
      dsimp only [encK] at hy
      have HPX:=hidE hpx
      have h1:=hkd.out k hlt
      have h3:=hup.out
      have hql:kidAt l (p + 1) k < l.length:=by omega
      have HKN:=hidE (show kidAt l (p + 1) (k + 1) = endS l (kidAt l (p + 1) k) from rfl)
      clear HPRE hpx h1 h3
      generalize kidAt l (p + 1) k = q at *
      have HE:=hidE (fun w' hA' => end8_c l (some ⟨b,off,none⟩) cap hl ht _ q w' (Nat.le_refl _) hql hA')
      go_upto_region 3 with fail
      refine (wpIn_wide (n:=0)).1 ?_
      gi_wp2
      refine ⟨rfl,hR.mono ?_⟩
      clear hy hR
      rintro e W' (⟨rfl,g',hJ',hO,_,_⟩ | ⟨rfl,hJx'⟩)
      · obtain ⟨k1,k2,k3⟩:=HK.out _ _ _ hJ'
        have b1:=k2.cell 0;have z1:=k2.lt
        simp at b1
        have HJ':=hidE hJ';have HO:=hidE hO;have K3:=hidE k3
        clear k1 k2 k3 hJ' hO
        generalize endS l q = q2 at *
        gi_wp2
        go_wp2_with (go_at_call 69;(with_reducible refine (HE.out _ K3.out).mono ?_);rintro e w2 ⟨rfl,hb2⟩)
        go_roundg (K - (k + 1))
        case measure => have:=HG.out;omega
        case rel =>
          have hs1:=HO.out.size
          have hs2:=HSZ.out
          exact ⟨k + 1,pre ++ [q],g',by omega,Nat.le_refl _,by go_num,by rw [HKN.out],HP2.out,HJ.out _ _ _ _ HJ'.out (hb2.mono (by omega)) (fun b k e => hb2.block k (HJG.out _ _ _ HJ'.out b k e).2),by have:=hb2.size;omega⟩
      · gi_wp2
        go_wp2
        refine bodyPost_ret (results_none rfl _ _ _) rfl ?_
        exact ⟨⟨_,rfl⟩,.inr ⟨_,HPX.out,hJx'⟩⟩
    · obtain rfl:k = K:=by omega
      have d1:decide ((k:Int) < (k:Int)) = false:=decide_eq_false (by omega)
      have d1':decide (k < k) = false:=decide_eq_false (by omega)
      have HP2:=hidE (show pre = kidsS l p by rw [← HPRE.out,Nat.sub_self];simp [kidsGo])
      clear HPRE
      go_wp2
      go_end0
      exact ⟨⟨_,rfl⟩,.inl ⟨g,by rw [← HP2.out];exact HJ1.out⟩⟩
end
section
open Go.ChangeShapes Go.WideShapes Go.ChangeAt Go.RowKit
attribute [local irreducible] Go.Calls
theorem may_zero {l:List Prt} {z:Int} (h:mayS l z = 0):∃ p:Nat,z = (p:Int)∧p < l.length∧(treeS l).2 = 0:=by
  obtain ⟨h1,h2,h3⟩:=may_tree h
  exact ⟨z.toNat,by omega,by omega,h1⟩
end
section
open Go.ChangeShapes Go.WideShapes Go.ChangeAt Go.RowKit Go.Shelf
attribute [local irreducible] Go.Calls
attribute [local go_sem] Oper.semAt_some
theorem kidsS_length {l:List Prt} (ht:(treeS l).2 = 0) {p:Nat} (hp:p < l.length):(kidsS l p).length≤16:=by
  unfold kidsS
  rw [kidsGo_len]
  have:=tree_kids ht hp
  omega
theorem itK_keep {l:List Prt} {a:Option Addr} {cap p ba bl n:Nat} {A B:World} (h:ItK l a cap p ba bl A) (h1:ba < n) (h2:bl < n) (h3:0 < l.length→∃ b,(∃ o,a = some ⟨b,o,none⟩)∧b < n) (hb:Below n A B):ItK l a cap p ba bl B:=by
  refine ⟨h.1.below hb h1,h.2.1.below hb h2,fun hl => ?_⟩
  obtain ⟨b,off,rfl,q1,q2⟩:=h.2.2 hl
  obtain ⟨b',⟨o',e⟩,q⟩:=h3 hl
  cases e
  exact ⟨b,off,rfl,Nat.lt_of_lt_of_le q1 hb.size,q2.below hb q⟩
structure KidI (w:World) (l:List Prt) (b off cap p ba bl P:Nat) (pre:List Nat) (g:Option (Nat × Nat)) (W:World):Prop where
  own:OwnI w P 27 3 1 pre.length (cellsK .i64 (natsI pre)) g W
  it:ItK l (some ⟨b,off,none⟩) cap p ba bl W
  base:∀ b k,g = some (b,k)→ba < b
set_option maxRecDepth 100000 in
set_option maxHeartbeats 2000000 in
theorem shkids_c (l:List Prt) (z:Int) (a:Option Addr) (cap:Nat) (w:World) (hl:l.length≤100000) (hA:ArgP w a l) (hz : -9223372036854775808≤z∧z≤9223372036854775807) :
    Calls Tryz.prog 31 #[.slice a l.length cap,.int .i64 z] w fun e w' => ∃ v,e = .returned (.tuple #[v,.int .i64 (mayS l z)])∧SliN w' v (if mayS l z = 0 then kidsS l z.toNat else [])∧Below w.heap.size w w'∧(∀ k,v.ownBlock = some k→w.heap.size≤k):=by
  have HW:=hidE (wrong8_c l z a cap w (by omega) hA hz)
  by_cases hm:mayS l z = 0
  · rw [if_pos hm]
    obtain ⟨p,rfl,hp,ht⟩:=may_zero hm
    rw [hm] at HW ⊢
    rw [Int.toNat_natCast]
    obtain ⟨b,off,rfl,hbb,hc⟩:=hA (by omega)
    have HA:=hidE (show ArgP w (some ⟨b,off,none⟩) l from hA)
    have HLN:=hidE (kidsS_length ht hp)
    clear hA hm hc
    refine (callsIn_wide (n:=0)).1 (callsIn_of_wp_marks Tryz.func31 rfl trivial ((wpIn_wide (n:=0)).2 ?_))
    simp only [Tryz.ntmps31,List.size_toArray,List.length_cons,List.length_nil,Nat.reduceAdd,Nat.reduceSub,Array.replicate_succ,Array.replicate_zero,List.push_toArray,List.append_toArray,List.nil_append,List.cons_append]
    go_wp2_with fail
    ((with_reducible refine HW.out.mono ?_);rintro e w1 ⟨rfl,hb1⟩)
    go_wp2_with fail
    obtain ⟨w2,hw2⟩:∃ w2,w2 = w1.alloc (Obj.cells #[.slice none 0 0] 27):=⟨_,rfl⟩
    have hz2:w2.heap.size = w1.heap.size + 1:=by rw [hw2];simp
    have hb2:Below w.heap.size w w2:=by rw [hw2];exact hb1.alloc hb1.size _
    have hB2:Blk w2 w1.heap.size #[.slice none 0 0] 27:=by rw [hw2];exact Blk.made _ _ _
    have hwp:w.heap.size≤w1.heap.size:=hb1.size
    rw [← hw2]
    clear hw2 hb1
    ((with_reducible refine (children_c _ _ _ _ _).mono ?_);rintro e w3 ⟨rfl,hba,hbl,hb3⟩)
    have hb3z:=hb3.size
    rw [hz2] at hba hbl hb3z
    have hz3:=hba.lt
    have hb13:=hb2.trans (hb3.mono hb2.size)
    have hI0:KidI w l b off cap p (w1.heap.size + 1 + 1) (w1.heap.size + 1) w1.heap.size [] none w3 :=
      ⟨⟨.slice none 0 0,w3.heap.size,hB2.past hb3,hb13,own_nil _ _ _,by omega,Nat.le_refl _,.inl ⟨rfl,rfl⟩⟩,⟨hba,hbl,HA.out.past hb13⟩,fun b k e => by cases e⟩
    have HBB:=hidE hb13
    clear hba hbl hb3 hb2 hB2 hb13 HW
    go_wp2
    refine wp_rangeFunc_X (n₀:=w.heap.size) (S:=kidsS l p) rfl (enters_of Tryz.func68 (by kernel_rfl) rfl) HBB.out.size (kids_it l (some ⟨b,off,none⟩) cap p (w1.heap.size + 1 + 1) (w1.heap.size + 1) w.heap.size w3 (by omega) ht hp) (fun _ => rfl)
      (KidI w l b off cap p (w1.heap.size + 1 + 1) (w1.heap.size + 1) w1.heap.size) (fun s g A B h hb hk => ⟨ownI_keep (m:=w3.heap.size) (by omega) (by omega) h.own hb hk,itK_keep h.it (by omega) (by omega) (fun _ => ⟨b,⟨off,rfl⟩,by omega⟩) hb,h.base⟩) (fun s g A h => ownI_own h.own) (fun s g A h => h.it) hI0
      (fun _ _ => False) (fun s A B h hb => h)
      (fun x a1 W => ∃ (u0 u1 u2 u3 u4 u5 u6 u9 u10 u11 u12 u13 u14 u15 u16 u17 u18 u19 u20 u21 u22 u23:Value),a1 = { tmps:=#[u0,u1,u2,u3,u4,u5,u6,.pointer (some ⟨w1.heap.size,0,none⟩),.int .i64 x,u9,u10,u11,u12,u13,u14,u15,u16,u17,u18,u19,u20,u21,u22,u23],defers:=[] })
      ?hax ?assign ?body ?done ?stop
    case hax =>
      rintro x a1 A l r o ⟨u0,u1,u2,u3,u4,u5,u6,u9,u10,u11,u12,u13,u14,u15,u16,u17,u18,u19,u20,u21,u22,u23,h3⟩ hlr
      exact ⟨_,_,_,_,_,_,_,_,_,_,_,_,_,_,_,_,_,_,_,_,_,_,h3⟩
    case assign =>
      intro l pre x g W K hsz hi hK
      dsimp only [encK]
      gi_wp2
      exact hK _ _ (Below.refl _ _) hi ⟨_,_,_,_,_,_,_,_,_,_,_,_,_,_,_,_,_,_,_,_,_,_,rfl⟩
    case body =>
      rintro l' pre x g a1 W hsz hi ⟨u0,u1,u2,u3,u4,u5,u6,u9,u10,u11,u12,u13,u14,u15,u16,u17,u18,u19,u20,u21,u22,u23,rfl⟩ hpre
      obtain ⟨pre0,hpre0⟩:=hpre
      have hlen:pre.length < 16:=by
        have:=HLN.out
        have h3:=congrArg List.length hpre0
        simp only [List.length_append,List.length_cons,List.length_nil] at h3
        omega
      obtain ⟨av,cp,γ,i1,i2,i3,i4,i5,i6,i7⟩:=ownI_base hi.own
      have t0:=i1.cell 0;have t1:=i1.lt;have tf:=i1.free
      simp at t0
      obtain ⟨ix,hix,hz0,hzz,hz4⟩:=info_parts Tryz.infoIntL
      have HI:=hidE hix;have HZ0:=hidE hz0;have HZ1:=hidE hzz;have HZ2:=hidE hz4
      have I1:=hidE i1;have I2:=hidE i2;have I3:=hidE i3;have I6:=hidE i6;have I7:=hidE i7;have HLI:=hidE hi
      clear hI0 HLN hpre0 hi hix hz0 hzz hz4 i1 i2 i3 i6 i7
      gi_wp2_with (gi_at_builtin;refine wpListIn_append_own _ rfl (.tmp 19) (.tmp 21) 27 rfl γ 3 ix (.int .i64 0) 1 8 Tryz.underlying27 HI.out HZ0.out HZ1.out HZ2.out rfl (by decide) _ _ _ rfl (own_kept I3.out (fun k e => keptA (own_lt I3.out e) _)) ⟨_,0,none⟩ 1 1 [.int .i64 x] rfl rfl (new_cellsB _ #[.int .i64 x] 3) (by intro y hy;simp at hy;rcases hy with rfl;rfl) (by unfold maxLen;omega) (by omega) (by simp;omega) ?_;intro v4 w4 hown4 hgrow4 hnil4;obtain ⟨a4,c4,rfl⟩:=own_sli hown4;have HG4:=hidE hgrow4;have HO4:=hidE hown4;have HN4:=hidE hnil4;have BP4:Blk w4 w1.heap.size #[.slice av pre.length cp] 27:=(I1.out.alloc _).grown HG4.out (fun e => by have:=(I6.out _ e.symm).2;omega);have g4:=BP4.cell 0;have g5:=BP4.free;have g6:=BP4.lt;simp at g4;have HB4:=hidE BP4;clear hgrow4 hown4 hnil4 BP4 t0 t1 tf)
      have hv4:(Value.slice a4 (pre.length + 1) c4) ≠ .slice none 0 0:=fun e => by have:=(HN4.out.1 e).2;omega
      obtain ⟨k4,hk4⟩:=own_has HO4.out hv4
      have hγ:w1.heap.size + 1 + 1 < γ:=by
        rcases I7.out with h | ⟨j,h⟩
        · omega
        · exact HLI.out.base _ _ h
      have HGA:=hidE (show ∀ k,(Value.slice av pre.length cp).ownBlock = some k→γ≤k from fun k e => (I6.out k e).2)
      have hown:(w4.setCell ⟨w1.heap.size,0,none⟩ (Value.slice a4 (pre.length + 1) c4)).ownsRow γ 3 1 (Value.slice a4 (pre.length + 1) c4) (pre ++ [x]).length (cellsK .i64 (natsI (pre ++ [x]))):=by
        rw [natsI_app,cellsK_app,List.length_append]
        exact own_kept HO4.out (fun k e => keptS (by have:=own_block HO4.out e;omega) _)
      have hz4:W.heap.size≤w4.heap.size:=by have:=HG4.out.size;simp at this;omega
      have hzw:=I2.out.size
      have hb4:Below w.heap.size W (w4.setCell ⟨w1.heap.size,0,none⟩ (Value.slice a4 (pre.length + 1) c4)) :=
        (Below.grown ((Below.refl _ W).alloc (by omega) _) HG4.out (by simp;omega) (fun k e => by have:=HGA.out k e;omega)).setCell (p:=⟨w1.heap.size,0,none⟩) (by simp;omega) _
      have hq:∀ {k:Nat} {cs:Array Value} {t:TypeId},Blk W k cs t→k≤w1.heap.size + 1 + 1→k ≠ w1.heap.size→Blk (w4.setCell ⟨w1.heap.size,0,none⟩ (Value.slice a4 (pre.length + 1) c4)) k cs t:=fun h h1 h2 =>
        ((h.alloc _).grown HG4.out (fun e => by have:=HGA.out _ e.symm;omega)).other h2 _
      have hArg:ArgP (w4.setCell ⟨w1.heap.size,0,none⟩ (Value.slice a4 (pre.length + 1) c4)) (some ⟨b,off,none⟩) l:=HA.out.past (I2.out.trans hb4)
      refine ⟨some (γ,k4),⟨⟨(Value.slice a4 (pre.length + 1) c4),γ,by simpa using HB4.out.set 0 (Value.slice a4 (pre.length + 1) c4),I2.out.trans hb4,hown,i4,by simp [World.setCell];omega,.inr ⟨k4,rfl,hk4⟩⟩,⟨hq HLI.out.it.1 (by omega) (by omega),hq HLI.out.it.2.1 (by omega) (by omega),hArg⟩, ?_⟩,hb4,fun k e1 e2 e3 => ?_,fun b k e => ?_⟩
      · intro b k e
        cases e
        exact hγ
      · refine (keptS (by omega) _).trans ((HG4.out.block k (by simp;omega) (fun e => ?_)).trans (keptA (by omega) _))
        exact e3 _ (I6.out k e.symm).1
      · cases e
        exact I7.out
    case done =>
      rintro D g W hD hi hgd hK
      obtain ⟨av,cp,γ,i1,i2,i3,i4,i5,i6,i7⟩:=ownI_base hi.own
      subst hD
      have hDz:w3.heap.size < W.heap.size:=(Array.getElem?_eq_some_iff.1 hK).1
      have c0:=i1.cell 0;have z3':=i1.lt
      simp at c0
      have hgD:∀ k,(Value.slice av (kidsS l p).length cp).ownBlock = some k→w3.heap.size + 2≤k:=fun k e => by
        obtain ⟨q1,q2⟩:=i6 k e
        have:=hgd _ _ q1
        omega
      have HKF:=hidE hK;have HO:=hidE i3;have HB:=hidE i2;have HGD:=hidE hgD
      clear hI0 hi i1 i3 i2 i6 i7 hgd hK hgD
      go_wp2
      refine ⟨by simp,.inl ⟨_,_,rfl,run_takeDeferred HKF.out, ?_⟩⟩
      refine ⟨.tuple #[.slice av (kidsS l p).length cp,.int .i64 0],by simp [results,Tryz.results31,go_sem], ?_⟩
      have hO:=own_kept (B:=W.putObj w3.heap.size (.deferred none)) HO.out (fun k e => by
        have:=HGD.out k e
        exact World.putObj_heap_other (by omega))
      refine ⟨_,rfl,sliN_own hO,HB.out.trans (below_putObj _ _ _ HBB.out.size),fun k e => ?_⟩
      have:=HGD.out k e
      omega
    case stop =>
      rintro D pre W hD hpre h hK
      exact h.elim
  · rw [if_neg hm]
    have q:(mayS l z != 0) = true:=bne_iff_ne.2 hm
    clear hA hm
    generalize mayS l z = y at *
    go_enter Tryz.func31,Tryz.ntmps31
    go_wp2_with fail
    ((with_reducible refine HW.out.mono ?_);rintro e w1 ⟨rfl,hb1⟩)
    go_wp2
    go_ret2
    exact ⟨_,rfl,sliN_own (own_nil (A:=w1) w1.heap.size 1 3),hb1,fun k e => by cases e⟩
end
section
open Go.ChangeShapes Go.WideShapes Go.ChangeAt Go.RowKit Go.Shelf
attribute [local irreducible] Go.Calls
attribute [local go_sem] Oper.semAt_some
def encTm (k:TV):Array Value:=#[.agg k.arr]
structure ItS (l:List Prt) (W:List Pc) (pa wa:Option Addr) (cap wcap o bw ba:Nat) (w:World):Prop where
  wit:Blk w bw #[.slice pa l.length cap,.slice wa W.length wcap] 100
  here:Blk w ba #[.int .i64 o] 3
  parts:ArgP w pa l
  pcs:ArgVs w wa W
def TmPost (w:World) (t:TI) (e:Ending) (w':World):Prop:=∃ k:TV,k.t = t∧e = .returned (.agg k.arr)∧Below w.heap.size w w'
set_option maxRecDepth 100000 in
set_option maxHeartbeats 4000000 in
theorem satkids_it (l:List Prt) (W:List Pc) (pa wa:Option Addr) (cap wcap bw ba n0:Nat) (y:Prt) (K:Fst) (o deep ink:Nat) (w:World) (hl:l.length≤64) (ht:(treeS l).2 = 0) (hat:AtF l o (.cons y K .nil)) (hfit:(Fst.cons y K .nil).fit deep ink) (hK0:0 < K.len)
    (IH:∀ (x:Prt) (Kx:Fst) (oo deep ink:Nat) (w:World),Kx.size < K.size→AtF l oo (.cons x Kx .nil)→(Fst.cons x Kx .nil).fit deep ink→ArgP w pa l→ArgVs w wa W→Calls Tryz.prog 43 #[witV pa l.length cap wa W.length wcap,.int .i64 oo] w (TmPost w (satI W x Kx oo))) :
    SeqV Tryz.prog 85 #[] #[.pointer (some ⟨bw,0,none⟩),.pointer (some ⟨ba,0,none⟩)] encTm TV.t n0 (ItS l W pa wa cap wcap o bw ba) (satF W K (o + 1)) w:=by
  intro l' J Jx W0 hW hJ hJg hK hJx hY h0
  have hol:=hat.lt
  have hmay:mayS l (o:Int) = 0:=by unfold mayS;rw [if_neg (by simpa using ht),if_neg (by omega)]
  have hks:=kidsS_pos hat
  obtain ⟨s1,s2,s3,s4⟩:=hK _ _ _ h0
  have HSK:=hidE (shkids_c l (o:Int) pa cap W0 (by omega) s3 (by omega))
  rw [hmay,if_pos rfl,Int.toNat_natCast,hks] at HSK
  have b0:=s1.cell 0;have b1:=s1.cell 1;have a0:=s2.cell 0;have bz:=s1.lt;have az:=s2.lt
  simp at b0 b1 a0
  have hp16:K.len≤16:=fitT_len (t:=(y,K)) (deep:=deep) (ink:=ink) ⟨hfit.1,hfit.2.1,hfit.2.2.1,hfit.2.2.2.1⟩
  have H0:=hidE h0;have HK:=hidE hK;have HY:=hidE hY;have HJ:=hidE hJ;have HJG:=hidE hJg;have HAT:=hidE hat;have HFIT:=hidE hfit;have HIH:=hidE IH
  clear hJ hJg hJx hY h0 hK hW hat hfit hks hmay s1 s2 s3 s4 IH ht
  show Calls Tryz.prog 85 #[.func (.yield l') #[] #[],.pointer (some ⟨bw,0,none⟩),.pointer (some ⟨ba,0,none⟩)] W0 _
  go_enter Tryz.func85,Tryz.ntmps85
  go_wp2_with fail
  ((with_reducible refine HSK.out.mono ?_);rintro e w1 ⟨vk,rfl,hsn,hb1,hfr⟩)
  obtain ⟨ak,ck,rfl,hk1,hk2,hKc⟩:=hsn
  rw [posF_len] at hk1 ⊢
  obtain ⟨bk,ok,rfl,hbkz,hkc⟩:=hKc (by rw [natsI_len,posF_len];exact hK0)
  have hkb:W0.heap.size≤bk:=hfr bk rfl
  have HKC:=hidE (show ∀ j,j < K.len→w1.cell? ⟨bk,ok + j,none⟩ = some (.int .i64 ((natsI (posF K (o + 1))).getD j 0)) from fun j hj => hkc j (by rw [natsI_len,posF_len];exact hj))
  have HB1:=hidE hb1
  have hb1z:=hb1.size
  clear hkc hKc hfr HSK b0 b1 a0 bz az hb1
  go_wp2_with fail
  go_loopg [17] K.len (fun gh v17 wr => ∃ (D:List TV) (C:Fst) (oo:Nat) (g:Option (Nat × Nat)),v17 = .int .i64 D.length∧C.len≤gh∧D.length + C.len = K.len∧D.map TV.t ++ satF W C oo = satF W K (o + 1)∧(∃ pre,posF K (o + 1) = pre ++ posF C oo∧pre.length = D.length)∧AtF l oo C∧(∃ deep ink,C.fit deep ink)∧C.size≤K.size∧J D g wr∧W0.heap.size≤wr.heap.size∧wr.heap[bk]? = w1.heap[bk]? ∧ bk < wr.heap.size∧∀ b k,g = some (b,k)→bk < b)
  case atStart => exact ⟨[],K,o + 1,none,rfl,Nat.le_refl _,by simp,rfl,⟨[],rfl,rfl⟩,HAT.out.kids,⟨_,_,HFIT.out.2.2.2.1⟩,Nat.le_refl _,HJ.out _ _ _ _ H0.out HB1.out (fun b k e => by cases e),hb1z,rfl,hbkz,fun b k e => by cases e⟩
  case round =>
    obtain ⟨D,C,oo,g,rfl,hgh,hDC,htot,hpos,hatf,hft,hsz,hJ1,hwz,hbk,hbkz2,hgb⟩:=hrel
    have HGH:=hidE hgh;have HTOT:=hidE htot;have HJ1:=hidE hJ1;have HBK:=hidE hbk;have HGB:=hidE hgb
    clear hgh htot hJ1 hbk hgb
    cases C with
    | nil =>
      have hDn:D.length = K.len:=by simpa [Fst.len] using hDC
      have q1:decide ((D.length:Int) < (K.len:Int)) = false:=decide_eq_false (by omega)
      have q2:decide (D.length < K.len) = false:=decide_eq_false (by omega)
      have HF:=hidE (show D.map TV.t = satF W K (o + 1) by have:=HTOT.out;simpa [satF] using this)
      clear hDn hpos hatf hft
      go_wp2
      go_end0
      exact ⟨⟨_,rfl⟩,.inl ⟨D,g,HF.out,HJ1.out⟩⟩
    | cons x Kx N =>
      have q1:decide ((D.length:Int) < (K.len:Int)) = true:=decide_eq_true (by simp only [Fst.len] at hDC;omega)
      have q2:D.length < K.len:=by simp only [Fst.len] at hDC;omega
      have q3:decide (D.length < K.len) = true:=decide_eq_true q2
      obtain ⟨pre,hpre,hprel⟩:=hpos
      have k0:=(World.cell?_of_block (a:=⟨bk,ok + D.length,none⟩) HBK.out).trans (HKC.out D.length q2)
      have hge:(natsI (posF K (o + 1))).getD D.length 0 = (oo:Int):=by
        rw [hpre,posF,natsI_app,List.getD_eq_getElem?_getD,List.getElem?_append_right (by rw [natsI_len];omega),natsI_len,hprel,Nat.sub_self];rfl
      rw [hge] at k0
      obtain ⟨deep',ink',hfc⟩:=hft
      simp only [Fst.size] at hsz
      obtain ⟨s1,s2,s3,s4⟩:=HK.out _ _ _ HJ1.out
      have b0:=s1.cell 0;have b1:=s1.cell 1;have bz:=s1.lt
      simp at b0 b1
      have HCALL:=hidE (HIH.out x Kx oo deep' ink' wr (by omega) hatf.one ⟨hfc.1,hfc.2.1,hfc.2.2.1,hfc.2.2.2.1,trivial⟩ s3 s4)
      have HPOS:=hidE (show ∃ pre,posF K (o + 1) = pre ++ posF N (oo + 1 + Kx.size)∧pre.length = D.length + 1 from ⟨pre ++ [oo],by rw [hpre,posF];simp,by simp [hprel]⟩)
      have HATN:=hidE hatf.next
      have HFN:=hidE hfc.2.2.2.2
      have hszN:N.size≤K.size:=by omega
      have hlenN:D.length + 1 + N.len = K.len:=by simp only [Fst.len] at hDC;omega
      have HLN:=hidE hlenN
      clear hpre hprel hge hfc hatf s1 s2 s3 s4 hlenN hDC
      go_upto_region 4 with fail
      refine (wpIn_wide (n:=0)).1 ?_
      gi_wp2
      refine ⟨trivial,rfl,(callsIn_wide.2 HCALL.out).mono ?_⟩
      rintro e w5 ⟨k,hkt,rfl,hb5⟩
      have HKT:=hidE hkt;have HB5:=hidE hb5
      have HJ5:=hidE (HJ.out _ _ _ _ HJ1.out (hb5.mono hwz) (fun b q e => hb5.block q (HJG.out _ _ _ HJ1.out b q e).2))
      have h5z:=hb5.size
      have HTN:=hidE (show (D ++ [k]).map TV.t ++ satF W N (oo + 1 + Kx.size) = satF W K (o + 1) by
        rw [← HTOT.out,satF_cons,List.map_append,List.map_cons,List.map_nil,HKT.out,List.append_assoc];rfl)
      have HPX:=hidE (show (D ++ [k]).map TV.t <+: satF W K (o + 1) from ⟨_,HTN.out⟩)
      obtain ⟨fn,tmps,assign,body,hy,hR⟩:=HY.out D k g w5 HJ5.out (Nat.le_trans hwz h5z) HPX.out
      have HGJ:=hidE (fun b q e => (HJG.out _ _ _ HJ1.out b q e))
      clear hkt hb5 HCALL HTOT HJ1 b0 b1 bz k0
      dsimp only [encTm] at hy
      gi_wp2
      refine ⟨rfl,hR.mono ?_⟩
      clear hy hR
      rintro e W' (⟨rfl,g',hJ',hO,hk2',hg2⟩ | ⟨rfl,hJx'⟩)
      · have HJ':=hidE hJ'
        have hs1:=hO.size
        have HBK2:=hidE (show W'.heap[bk]? = w1.heap[bk]? from (hk2' bk hkb (by omega) (fun b e => by have:=HGB.out b bk e;have:=(HGJ.out b bk e).1;omega)).trans ((HB5.out.block bk hbkz2).trans HBK.out))
        have HGB2:=hidE (show ∀ b q,g' = some (b,q)→bk < b from fun b q e => by
          rcases hg2 b q e with h | ⟨j,h⟩
          · omega
          · exact HGB.out b j h)
        clear hJ' hO hk2' hg2 HB5 HJ5
        gi_wp2
        go_wp2
        go_roundg N.len
        case measure => have:=HGH.out;simp only [Fst.len] at this;omega
        case rel =>
          exact ⟨D ++ [k],N,oo + 1 + Kx.size,g',by simp,Nat.le_refl _,by rw [List.length_append];exact HLN.out,HTN.out,by obtain ⟨pre,q1,q2⟩:=HPOS.out;exact ⟨pre,q1,by rw [q2,List.length_append];rfl⟩,HATN.out,⟨_,_,HFN.out⟩,hszN,HJ'.out,by omega,HBK2.out,by omega,HGB2.out⟩
      · gi_wp2
        go_wp2
        refine bodyPost_ret (results_none rfl _ _ _) rfl ?_
        exact ⟨⟨_,rfl⟩,.inr ⟨_,HPX.out,hJx'⟩⟩
end
section
open Go.ChangeShapes Go.WideShapes Go.ChangeAt Go.RowKit
attribute [local irreducible] Go.Calls
theorem all_take {l:List TV} {k:Nat} {t:TV} (ht:l[k]? = some t):allI ((l.take (k + 1)).map TV.t) = (allI ((l.take k).map TV.t) && t.t.ok):=by
  rw [List.take_add_one,ht]
  simp [allI,List.all_append]
def sumK (l:List TV) (k:Nat):Int:=sumI ((l.take k).map TV.t)
theorem sum_take {l:List TV} {k:Nat} {t:TV} (ht:l[k]? = some t):sumK l (k + 1) = sumK l k + t.t.len:=by
  unfold sumK
  rw [List.take_add_one,ht]
  simp [sumI,List.foldl_append]
def LenOk (B:Int) (l:List TV):Prop:=∀ t ∈ l,0≤t.t.len∧t.t.len≤B
theorem sum_bd {B:Int} {l:List TV} (h:LenOk B l) (hB:0≤B):∀ k:Nat,0≤sumK l k∧sumK l k≤k * B:=by
  intro k
  induction k with
  | zero => simp [sumK,sumI]
  | succ k ih =>
    cases ht:l[k]? with
    | none =>
      have:sumK l (k + 1) = sumK l k:=by unfold sumK;rw [List.take_add_one,ht];simp
      rw [this]
      refine ⟨ih.1,Int.le_trans ih.2 ?_⟩
      have e:((k + 1:Nat):Int) * B = k * B + B:=by rw [Int.natCast_add,Int.add_mul];simp
      omega
    | some t =>
      rw [sum_take ht]
      have:=h t (List.mem_of_getElem? ht)
      have e:((k + 1:Nat):Int) * B = k * B + B:=by rw [Int.natCast_add,Int.add_mul];simp
      omega
def minTo (a:Int) (l:List TV):Int:=(l.map TV.t).foldl (fun n k => min n k.len) a
def maxTo (a:Int) (l:List TV):Int:=(l.map TV.t).foldl (fun n k => max n k.len) a
theorem min_take {a:Int} {l:List TV} {k:Nat} {t:TV} (ht:l[k]? = some t):minTo a (l.take (k + 1)) = min (minTo a (l.take k)) t.t.len:=by
  unfold minTo
  rw [List.take_add_one,ht]
  simp [List.foldl_append]
theorem max_take {a:Int} {l:List TV} {k:Nat} {t:TV} (ht:l[k]? = some t):maxTo a (l.take (k + 1)) = max (maxTo a (l.take k)) t.t.len:=by
  unfold maxTo
  rw [List.take_add_one,ht]
  simp [List.foldl_append]
set_option maxHeartbeats 2000000 in
set_option maxRecDepth 100000 in
theorem isPlaced_c (w:World) (p:Nat) (x:Prt) (n:Int) (s:Se) (b:Bool) (v:Value) (h:Blk w p (tiA x v n s b) 78):Calls Tryz.prog 86 #[.pointer (some ⟨p,0,none⟩)] w fun e w' => e = .returned (.bool s.isSome)∧Below w.heap.size w w':=by
  have c7:=h.cell 7;have pz:=h.lt
  simp at c7
  clear h
  go_enter Tryz.func86,Tryz.ntmps86
  go_wp2
  go_ret
  exact ⟨rfl,Below.refl _ _⟩
set_option maxHeartbeats 2000000 in
set_option maxRecDepth 100000 in
theorem itself_c (w:World) (p:Nat) (x:Prt) (n:Int) (s:Se) (b:Bool) (v:Value) (h:Blk w p (tiA x v n s b) 78):Calls Tryz.prog 87 #[.pointer (some ⟨p,0,none⟩)] w fun e w' => e = .returned (.int .i64 x.d)∧Below w.heap.size w w':=by
  have c3:=h.cell 3;have pz:=h.lt
  simp at c3
  clear h
  go_enter Tryz.func87,Tryz.ntmps87
  go_wp2
  go_ret
  exact ⟨rfl,Below.refl _ _⟩
set_option maxHeartbeats 2000000 in
set_option maxRecDepth 100000 in
theorem isAll_c (w:World) (p:Nat) (x:Prt) (n:Int) (s:Se) (b:Bool) (l:List TV) (hK:KidsAt w p x n s b l):Calls Tryz.prog 93 #[.pointer (some ⟨p,0,none⟩)] w fun e w' => e = .returned (.bool (allI (l.map TV.t)))∧Below w.heap.size w w':=by
  obtain ⟨g,cap,hb,hg,hlc,hcap,hc,_⟩:=hK
  have c5:=hb.cell 5;have pz:=hb.lt
  simp at c5
  have HC:=hidE hc
  clear hc hb
  go_enter Tryz.func93,Tryz.ntmps93
  go_wp2
  go_loopg [10] l.length (fun gh v10 wr => ∃ k:Nat,v10 = .int .i64 k∧k≤l.length∧l.length - k≤gh∧allI ((l.take k).map TV.t) = true∧Below w.heap.size w wr)
  case atStart => exact ⟨0,rfl,Nat.zero_le _,Nat.le_refl _,rfl,Below.refl _ _⟩
  case round =>
    obtain ⟨k,rfl,hk,hgh,hall,hbw⟩:=hrel
    have HALL:=hidE hall;have HGH:=hidE hgh
    clear hall hgh c5 pz
    by_cases hlt:k < l.length
    ·
      obtain ⟨t,ht⟩:∃ t,l[k]? = some t:=⟨l[k],by rw [List.getElem?_eq_getElem hlt]⟩
      obtain ⟨m0,m1,m2,m3,m4,m5,m6,m7,m8,m9,m10⟩:=kid_cells HC.out ht
      have k0:=(hbw.cell (p:=⟨g,_,none⟩) hg).trans m0;have k1:=(hbw.cell (p:=⟨g,_,none⟩) hg).trans m1;have k2:=(hbw.cell (p:=⟨g,_,none⟩) hg).trans m2;have k3:=(hbw.cell (p:=⟨g,_,none⟩) hg).trans m3;have k4:=(hbw.cell (p:=⟨g,_,none⟩) hg).trans m4;have k5:=(hbw.cell (p:=⟨g,_,none⟩) hg).trans m5;have k6:=(hbw.cell (p:=⟨g,_,none⟩) hg).trans m6;have k7:=(hbw.cell (p:=⟨g,_,none⟩) hg).trans m7;have k8:=(hbw.cell (p:=⟨g,_,none⟩) hg).trans m8;have k9:=(hbw.cell (p:=⟨g,_,none⟩) hg).trans m9;have k10:=(hbw.cell (p:=⟨g,_,none⟩) hg).trans m10
      have gz:=Nat.lt_of_lt_of_le hg hbw.size
      have q1:decide ((k:Int) < (l.length:Int)) = true:=decide_eq_true (by omega)
      have q2:decide (k < l.length) = true:=decide_eq_true hlt
      have HT:=hidE ht;have HBW:=hidE hbw
      clear m0 m1 m2 m3 m4 m5 m6 m7 m8 m9 m10 ht
      cases hok:t.t.ok
      · rw [hok] at k10
        have HN:=hidE (show allI (l.map TV.t) = false by
          unfold allI
          rw [List.all_eq_false]
          exact ⟨t.t,List.mem_map.2 ⟨t,List.mem_of_getElem? HT.out,rfl⟩,by rw [hok];simp⟩)
        clear hok
        go_wp2
        go_ret
        exact ⟨by rw [HN.out];rfl,HBW.out.trans ((show Below wr.heap.size wr _ from by (repeat (first | exact Below.refl _ _ | assumption | refine balloc ?_ _ | refine below_drewN ?_ _ | refine bstep (by assumption) ?_ | refine bstep (Past.prop _) ?_ | refine Below.setCell ?_ (by first | exact Nat.le_refl _ | (simp;done) | (simp;omega)) _))).mono HBW.out.size)⟩
      · rw [hok] at k10
        have HN:=hidE (show allI ((l.take (k + 1)).map TV.t) = true by rw [all_take HT.out,HALL.out,hok];rfl)
        clear hok
        go_wp2
        go_roundg (l.length - (k + 1))
        case measure => have:=HGH.out;omega
        case rel => exact ⟨k + 1,by go_num,by omega,Nat.le_refl _,HN.out,HBW.out.trans ((show Below wr.heap.size wr _ from by (repeat (first | exact Below.refl _ _ | assumption | refine balloc ?_ _ | refine below_drewN ?_ _ | refine bstep (by assumption) ?_ | refine bstep (Past.prop _) ?_ | refine Below.setCell ?_ (by first | exact Nat.le_refl _ | (simp;done) | (simp;omega)) _))).mono HBW.out.size)⟩
    ·
      obtain rfl:k = l.length:=by omega
      have q1:decide ((l.length:Int) < (l.length:Int)) = false:=decide_eq_false (by omega)
      have q2:decide (l.length < l.length) = false:=decide_eq_false (by omega)
      have HBW:=hidE hbw
      have HN:=hidE (show allI (l.map TV.t) = true by have:=HALL.out;rwa [List.take_length] at this)
      clear hbw
      go_wp2
      go_ret
      exact ⟨by rw [HN.out];rfl,HBW.out⟩
set_option maxHeartbeats 2000000 in
set_option maxRecDepth 100000 in
theorem total_c (w:World) (p:Nat) (x:Prt) (n:Int) (s:Se) (b:Bool) (l:List TV) (hK:KidsAt w p x n s b l) (hl:l.length≤100) (hL:LenOk 1099511627776 l):Calls Tryz.prog 89 #[.pointer (some ⟨p,0,none⟩)] w fun e w' => e = .returned (.int .i64 (sumI (l.map TV.t)))∧Below w.heap.size w w':=by
  obtain ⟨g,cap,hb,hg,hlc,hcap,hc,_⟩:=hK
  have c5:=hb.cell 5;have pz:=hb.lt
  simp at c5
  have HC:=hidE hc
  clear hc hb
  have HL:=hidE hL
  have HF:=hidE (show sumI (l.map TV.t) = sumK l l.length by unfold sumK;rw [List.take_length])
  clear hL
  go_enter Tryz.func89,Tryz.ntmps89
  go_wp2
  go_loopg [3,11] l.length (fun gh v3 v11 wr => ∃ k:Nat,v11 = .int .i64 k∧k≤l.length∧l.length - k≤gh∧v3 = .int .i64 (sumK l k)∧Below w.heap.size w wr)
  case atStart => exact ⟨0,rfl,Nat.zero_le _,Nat.le_refl _,rfl,Below.refl _ _⟩
  case round =>
    obtain ⟨k,rfl,hk,hgh,rfl,hbw⟩:=hrel
    have HGH:=hidE hgh
    clear hgh c5 pz
    by_cases hlt:k < l.length
    ·
      obtain ⟨t,ht⟩:∃ t,l[k]? = some t:=⟨l[k],by rw [List.getElem?_eq_getElem hlt]⟩
      obtain ⟨m0,m1,m2,m3,m4,m5,m6,m7,m8,m9,m10⟩:=kid_cells HC.out ht
      have k0:=(hbw.cell (p:=⟨g,_,none⟩) hg).trans m0;have k1:=(hbw.cell (p:=⟨g,_,none⟩) hg).trans m1;have k2:=(hbw.cell (p:=⟨g,_,none⟩) hg).trans m2;have k3:=(hbw.cell (p:=⟨g,_,none⟩) hg).trans m3;have k4:=(hbw.cell (p:=⟨g,_,none⟩) hg).trans m4;have k5:=(hbw.cell (p:=⟨g,_,none⟩) hg).trans m5;have k6:=(hbw.cell (p:=⟨g,_,none⟩) hg).trans m6;have k7:=(hbw.cell (p:=⟨g,_,none⟩) hg).trans m7;have k8:=(hbw.cell (p:=⟨g,_,none⟩) hg).trans m8;have k9:=(hbw.cell (p:=⟨g,_,none⟩) hg).trans m9;have k10:=(hbw.cell (p:=⟨g,_,none⟩) hg).trans m10
      have gz:=Nat.lt_of_lt_of_le hg hbw.size
      have q1:decide ((k:Int) < (l.length:Int)) = true:=decide_eq_true (by omega)
      have q2:decide (k < l.length) = true:=decide_eq_true hlt
      have HT:=hidE ht;have HBW:=hidE hbw
      clear m0 m1 m2 m3 m4 m5 m6 m7 m8 m9 m10 ht
      have hsb:=sum_bd HL.out (by omega) k
      have hkb:(k:Int) * 1099511627776≤100 * 1099511627776:=Int.mul_le_mul_of_nonneg_right (by omega) (by omega)
      have hs1:=hsb.1
      have hs2:=Int.le_trans hsb.2 hkb
      have ht1:=HL.out t (List.mem_of_getElem? HT.out)
      have ht2:=ht1.1;have ht3:=ht1.2
      have HN:=hidE (sum_take HT.out)
      clear hsb hkb ht1
      go_wp2
      go_roundg (l.length - (k + 1))
      case measure => have:=HGH.out;omega
      case rel => exact ⟨k + 1,by go_num,by omega,Nat.le_refl _,by rw [HN.out],HBW.out.trans ((show Below wr.heap.size wr _ from by (repeat (first | exact Below.refl _ _ | assumption | refine balloc ?_ _ | refine below_drewN ?_ _ | refine bstep (by assumption) ?_ | refine bstep (Past.prop _) ?_ | refine Below.setCell ?_ (by first | exact Nat.le_refl _ | (simp;done) | (simp;omega)) _))).mono HBW.out.size)⟩
    ·
      obtain rfl:k = l.length:=by omega
      have q1:decide ((l.length:Int) < (l.length:Int)) = false:=decide_eq_false (by omega)
      have q2:decide (l.length < l.length) = false:=decide_eq_false (by omega)
      have HBW:=hidE hbw
      clear hbw
      go_wp2
      go_ret
      exact ⟨by rw [HF.out];rfl,HBW.out⟩
set_option maxHeartbeats 2000000 in
set_option maxRecDepth 100000 in
theorem shortest_c (w:World) (p:Nat) (x:Prt) (n:Int) (s:Se) (b:Bool) (l:List TV) (hK:KidsAt w p x n s b l) (hl:l.length≤100) (h0:0 < l.length):Calls Tryz.prog 92 #[.pointer (some ⟨p,0,none⟩)] w fun e w' => e = .returned (.int .i64 (minI (l.map TV.t)))∧Below w.heap.size w w':=by
  obtain ⟨g,cap,hb,hg,hlc,hcap,hc,_⟩:=hK
  have c5:=hb.cell 5;have pz:=hb.lt
  simp at c5
  have HC:=hidE hc
  clear hc hb
  obtain ⟨t0,ht0⟩:∃ t,l[0]? = some t:=⟨l[0],by rw [List.getElem?_eq_getElem h0]⟩
  have f6:=(kid_cells HC.out ht0).2.2.2.2.2.2.1
  rw [Nat.zero_mul,Nat.zero_add] at f6
  have HF:=hidE (show minI (l.map TV.t) = minTo t0.t.len l by
    unfold minI minTo
    cases l with
    | nil => simp at h0
    | cons a r => simp at ht0;subst ht0;rfl)
  clear ht0
  go_enter Tryz.func92,Tryz.ntmps92
  go_wp2
  go_loopg [3,18] l.length (fun gh v3 v18 wr => ∃ k:Nat,v18 = .int .i64 k∧k≤l.length∧l.length - k≤gh∧v3 = .int .i64 (minTo t0.t.len (l.take k))∧Below w.heap.size w wr)
  case atStart => exact ⟨0,rfl,Nat.zero_le _,Nat.le_refl _,rfl,Below.refl _ _⟩
  case round =>
    obtain ⟨k,rfl,hk,hgh,rfl,hbw⟩:=hrel
    have HGH:=hidE hgh
    clear hgh c5 pz f6
    by_cases hlt:k < l.length
    ·
      obtain ⟨t,ht⟩:∃ t,l[k]? = some t:=⟨l[k],by rw [List.getElem?_eq_getElem hlt]⟩
      obtain ⟨m0,m1,m2,m3,m4,m5,m6,m7,m8,m9,m10⟩:=kid_cells HC.out ht
      have k0:=(hbw.cell (p:=⟨g,_,none⟩) hg).trans m0;have k1:=(hbw.cell (p:=⟨g,_,none⟩) hg).trans m1;have k2:=(hbw.cell (p:=⟨g,_,none⟩) hg).trans m2;have k3:=(hbw.cell (p:=⟨g,_,none⟩) hg).trans m3;have k4:=(hbw.cell (p:=⟨g,_,none⟩) hg).trans m4;have k5:=(hbw.cell (p:=⟨g,_,none⟩) hg).trans m5;have k6:=(hbw.cell (p:=⟨g,_,none⟩) hg).trans m6;have k7:=(hbw.cell (p:=⟨g,_,none⟩) hg).trans m7;have k8:=(hbw.cell (p:=⟨g,_,none⟩) hg).trans m8;have k9:=(hbw.cell (p:=⟨g,_,none⟩) hg).trans m9;have k10:=(hbw.cell (p:=⟨g,_,none⟩) hg).trans m10
      have gz:=Nat.lt_of_lt_of_le hg hbw.size
      have q1:decide ((k:Int) < (l.length:Int)) = true:=decide_eq_true (by omega)
      have q2:decide (k < l.length) = true:=decide_eq_true hlt
      have HT:=hidE ht;have HBW:=hidE hbw
      clear m0 m1 m2 m3 m4 m5 m6 m7 m8 m9 m10 ht
      have hn:=min_take (a:=t0.t.len) HT.out
      generalize minTo t0.t.len (l.take k) = r at *
      by_cases hm:t.t.len < r
      · have HN:=hidE (show minTo t0.t.len (l.take (k + 1)) = t.t.len by rw [hn];(first | rw [Int.min_def] | rw [Int.max_def]);split <;> omega)
        clear hn
        go_wp2
        go_roundg (l.length - (k + 1))
        case measure => have:=HGH.out;omega
        case rel => exact ⟨k + 1,by go_num,by omega,Nat.le_refl _,(by rw [HN.out];try (congr 1;omega)),HBW.out.trans ((show Below wr.heap.size wr _ from by (repeat (first | exact Below.refl _ _ | assumption | refine balloc ?_ _ | refine below_drewN ?_ _ | refine bstep (by assumption) ?_ | refine bstep (Past.prop _) ?_ | refine Below.setCell ?_ (by first | exact Nat.le_refl _ | (simp;done) | (simp;omega)) _))).mono HBW.out.size)⟩
      · have HN:=hidE (show minTo t0.t.len (l.take (k + 1)) = r by rw [hn];(first | rw [Int.min_def] | rw [Int.max_def]);split <;> omega)
        clear hn
        go_wp2
        go_roundg (l.length - (k + 1))
        case measure => have:=HGH.out;omega
        case rel => exact ⟨k + 1,by go_num,by omega,Nat.le_refl _,(by rw [HN.out];try (congr 1;omega)),HBW.out.trans ((show Below wr.heap.size wr _ from by (repeat (first | exact Below.refl _ _ | assumption | refine balloc ?_ _ | refine below_drewN ?_ _ | refine bstep (by assumption) ?_ | refine bstep (Past.prop _) ?_ | refine Below.setCell ?_ (by first | exact Nat.le_refl _ | (simp;done) | (simp;omega)) _))).mono HBW.out.size)⟩
    ·
      obtain rfl:k = l.length:=by omega
      have q1:decide ((l.length:Int) < (l.length:Int)) = false:=decide_eq_false (by omega)
      have q2:decide (l.length < l.length) = false:=decide_eq_false (by omega)
      have HBW:=hidE hbw
      clear hbw
      go_wp2
      go_ret
      exact ⟨by rw [HF.out,List.take_length];rfl,HBW.out⟩
set_option maxHeartbeats 2000000 in
set_option maxRecDepth 100000 in
theorem longest_c (w:World) (p:Nat) (x:Prt) (n:Int) (s:Se) (b:Bool) (l:List TV) (hK:KidsAt w p x n s b l) (hl:l.length≤100) (h0:0 < l.length):Calls Tryz.prog 94 #[.pointer (some ⟨p,0,none⟩)] w fun e w' => e = .returned (.int .i64 (maxI (l.map TV.t)))∧Below w.heap.size w w':=by
  obtain ⟨g,cap,hb,hg,hlc,hcap,hc,_⟩:=hK
  have c5:=hb.cell 5;have pz:=hb.lt
  simp at c5
  have HC:=hidE hc
  clear hc hb
  obtain ⟨t0,ht0⟩:∃ t,l[0]? = some t:=⟨l[0],by rw [List.getElem?_eq_getElem h0]⟩
  have f6:=(kid_cells HC.out ht0).2.2.2.2.2.2.1
  rw [Nat.zero_mul,Nat.zero_add] at f6
  have HF:=hidE (show maxI (l.map TV.t) = maxTo t0.t.len l by
    unfold maxI maxTo
    cases l with
    | nil => simp at h0
    | cons a r => simp at ht0;subst ht0;rfl)
  clear ht0
  go_enter Tryz.func94,Tryz.ntmps94
  go_wp2
  go_loopg [3,18] l.length (fun gh v3 v18 wr => ∃ k:Nat,v18 = .int .i64 k∧k≤l.length∧l.length - k≤gh∧v3 = .int .i64 (maxTo t0.t.len (l.take k))∧Below w.heap.size w wr)
  case atStart => exact ⟨0,rfl,Nat.zero_le _,Nat.le_refl _,rfl,Below.refl _ _⟩
  case round =>
    obtain ⟨k,rfl,hk,hgh,rfl,hbw⟩:=hrel
    have HGH:=hidE hgh
    clear hgh c5 pz f6
    by_cases hlt:k < l.length
    ·
      obtain ⟨t,ht⟩:∃ t,l[k]? = some t:=⟨l[k],by rw [List.getElem?_eq_getElem hlt]⟩
      obtain ⟨m0,m1,m2,m3,m4,m5,m6,m7,m8,m9,m10⟩:=kid_cells HC.out ht
      have k0:=(hbw.cell (p:=⟨g,_,none⟩) hg).trans m0;have k1:=(hbw.cell (p:=⟨g,_,none⟩) hg).trans m1;have k2:=(hbw.cell (p:=⟨g,_,none⟩) hg).trans m2;have k3:=(hbw.cell (p:=⟨g,_,none⟩) hg).trans m3;have k4:=(hbw.cell (p:=⟨g,_,none⟩) hg).trans m4;have k5:=(hbw.cell (p:=⟨g,_,none⟩) hg).trans m5;have k6:=(hbw.cell (p:=⟨g,_,none⟩) hg).trans m6;have k7:=(hbw.cell (p:=⟨g,_,none⟩) hg).trans m7;have k8:=(hbw.cell (p:=⟨g,_,none⟩) hg).trans m8;have k9:=(hbw.cell (p:=⟨g,_,none⟩) hg).trans m9;have k10:=(hbw.cell (p:=⟨g,_,none⟩) hg).trans m10
      have gz:=Nat.lt_of_lt_of_le hg hbw.size
      have q1:decide ((k:Int) < (l.length:Int)) = true:=decide_eq_true (by omega)
      have q2:decide (k < l.length) = true:=decide_eq_true hlt
      have HT:=hidE ht;have HBW:=hidE hbw
      clear m0 m1 m2 m3 m4 m5 m6 m7 m8 m9 m10 ht
      have hn:=max_take (a:=t0.t.len) HT.out
      generalize maxTo t0.t.len (l.take k) = r at *
      by_cases hm:r < t.t.len
      · have HN:=hidE (show maxTo t0.t.len (l.take (k + 1)) = t.t.len by rw [hn];(first | rw [Int.min_def] | rw [Int.max_def]);split <;> omega)
        clear hn
        go_wp2
        go_roundg (l.length - (k + 1))
        case measure => have:=HGH.out;omega
        case rel => exact ⟨k + 1,by go_num,by omega,Nat.le_refl _,(by rw [HN.out];try (congr 1;omega)),HBW.out.trans ((show Below wr.heap.size wr _ from by (repeat (first | exact Below.refl _ _ | assumption | refine balloc ?_ _ | refine below_drewN ?_ _ | refine bstep (by assumption) ?_ | refine bstep (Past.prop _) ?_ | refine Below.setCell ?_ (by first | exact Nat.le_refl _ | (simp;done) | (simp;omega)) _))).mono HBW.out.size)⟩
      · have HN:=hidE (show maxTo t0.t.len (l.take (k + 1)) = r by rw [hn];(first | rw [Int.min_def] | rw [Int.max_def]);split <;> omega)
        clear hn
        go_wp2
        go_roundg (l.length - (k + 1))
        case measure => have:=HGH.out;omega
        case rel => exact ⟨k + 1,by go_num,by omega,Nat.le_refl _,(by rw [HN.out];try (congr 1;omega)),HBW.out.trans ((show Below wr.heap.size wr _ from by (repeat (first | exact Below.refl _ _ | assumption | refine balloc ?_ _ | refine below_drewN ?_ _ | refine bstep (by assumption) ?_ | refine bstep (Past.prop _) ?_ | refine Below.setCell ?_ (by first | exact Nat.le_refl _ | (simp;done) | (simp;omega)) _))).mono HBW.out.size)⟩
    ·
      obtain rfl:k = l.length:=by omega
      have q1:decide ((l.length:Int) < (l.length:Int)) = false:=decide_eq_false (by omega)
      have q2:decide (l.length < l.length) = false:=decide_eq_false (by omega)
      have HBW:=hidE hbw
      clear hbw
      go_wp2
      go_ret
      exact ⟨by rw [HF.out,List.take_length];rfl,HBW.out⟩
theorem adj_snoc (f:Int→Int→Bool) (a b:TI):∀ ks:List TI,adjI f (ks ++ [a,b]) = (adjI f (ks ++ [a]) && f (seE a.se) (seB b.se))
  | [] => by simp [adjI]
  | [c] => by simp [adjI]
  | c :: d :: ks => by
    have:=adj_snoc f a b (d :: ks)
    simp only [List.cons_append] at this ⊢
    simp only [adjI,this,Bool.and_assoc]
theorem adj_pre (f:Int→Int→Bool):∀ (ks r:List TI),adjI f (ks ++ r) = true→adjI f ks = true
  | [],_,_ => rfl
  | [_],_,_ => rfl
  | c :: d :: ks, r, h => by
    simp only [List.cons_append,adjI,Bool.and_eq_true] at h
    simp only [adjI,Bool.and_eq_true]
    exact ⟨h.1,adj_pre f (d :: ks) r h.2⟩
theorem adj_take (f:Int→Int→Bool) {l:List TV} {j:Nat} {a b:TV} (ha:l[j]? = some a) (hb:l[j + 1]? = some b):adjI f ((l.take (j + 1 + 1)).map TV.t) = (adjI f ((l.take (j + 1)).map TV.t) && f (seE a.t.se) (seB b.t.se)):=by
  rw [List.take_add_one,hb,List.take_add_one,ha]
  simp only [Option.toList,List.append_assoc,List.cons_append,List.nil_append,List.map_append,List.map_cons,List.map_nil]
  exact adj_snoc f a.t b.t _
set_option maxHeartbeats 2000000 in
set_option maxRecDepth 100000 in
theorem isOrder_c (w:World) (p:Nat) (x:Prt) (n:Int) (s:Se) (b:Bool) (l:List TV) (hK:KidsAt w p x n s b l) (hl:l.length≤100) (h0:0 < l.length):Calls Tryz.prog 88 #[.pointer (some ⟨p,0,none⟩)] w fun e w' => e = .returned (.bool (adjI (fun e b => decide (e≤b)) (l.map TV.t) && allI (l.map TV.t)))∧Below w.heap.size w w':=by
  have HA:=hidE (fun w' (h:KidsAt w' p x n s b l) => isAll_c w' p x n s b l h)
  have HKK:=hidE hK
  obtain ⟨g,cap,hb,hg,hlc,hcap,hc,_⟩:=hK
  have c5:=hb.cell 5;have pz:=hb.lt
  simp at c5
  have HC:=hidE hc
  clear hc hb
  go_enter Tryz.func88,Tryz.ntmps88
  go_wp2
  go_loopg [3] l.length (fun gh v3 wr => ∃ j:Nat,v3 = .int .i64 ((j:Int) + 1)∧j + 1≤l.length∧l.length - j≤gh∧adjI (fun e b => decide (e≤b)) ((l.take (j + 1)).map TV.t) = true∧Below w.heap.size w wr)
  case atStart => exact ⟨0,rfl,h0,Nat.le_refl _,by cases l with
    | nil => simp at h0
    | cons a r => rfl,Below.refl _ _⟩
  case round =>
    obtain ⟨j,rfl,hk,hgh,hadj,hbw⟩:=hrel
    have HGH:=hidE hgh;have HADJ:=hidE hadj;have HBW:=hidE hbw
    have pz':=Nat.lt_of_lt_of_le pz hbw.size
    have c5':=(hbw.cell (p:=⟨p,5,none⟩) pz).trans c5
    have gz:=Nat.lt_of_lt_of_le hg hbw.size
    clear hgh hadj c5
    by_cases hlt:j + 1 < l.length
    · obtain ⟨a,ha⟩:∃ t,l[j]? = some t:=⟨l[j],by rw [List.getElem?_eq_getElem (by omega)]⟩
      obtain ⟨c,hc⟩:∃ t,l[j + 1]? = some t:=⟨l[j + 1],by rw [List.getElem?_eq_getElem hlt]⟩
      have k9:=(hbw.cell (p:=⟨g,_,none⟩) hg).trans (kid_cells HC.out ha).2.2.2.2.2.2.2.2.2.1
      have k8:=(hbw.cell (p:=⟨g,_,none⟩) hg).trans (kid_cells HC.out hc).2.2.2.2.2.2.2.2.1
      have q1:decide ((j:Int) + 1 < (l.length:Int)) = true:=decide_eq_true (by omega)
      have q2:decide (j + 1 < l.length) = true:=decide_eq_true hlt
      have HT:=hidE (adj_take (fun e b => decide (e≤b)) ha hc)
      clear ha hc hbw
      have z1:IntKind.i64.wrap ((j:Int) + 1 - 1) = (j:Int):=by rw [IntWalk.i64_in _ (by omega)];omega
      have z0:(0:Int)≤(j:Int) + 1:=by omega
      have z2:((j:Int) + 1).toNat = j + 1:=by omega
      by_cases hok:seE a.t.se≤seB c.t.se
      · have r1:decide (seB c.t.se < seE a.t.se) = false:=decide_eq_false (by omega)
        have HN:=hidE (show adjI (fun e b => decide (e≤b)) ((l.take (j + 1 + 1)).map TV.t) = true by rw [HT.out,HADJ.out];simpa using hok)
        clear hok
        go_wp2
        go_quiet (fail)
        go_wp2
        go_roundg (l.length - (j + 1))
        case measure => have:=HGH.out;omega
        case rel => exact ⟨j + 1,by go_num,by omega,Nat.le_refl _,HN.out,HBW.out.trans ((show Below wr.heap.size wr _ from by (repeat (first | exact Below.refl _ _ | assumption | refine balloc ?_ _ | refine below_drewN ?_ _ | refine bstep (by assumption) ?_ | refine bstep (Past.prop _) ?_ | refine Below.setCell ?_ (by first | exact Nat.le_refl _ | (simp;done) | (simp;omega)) _))).mono HBW.out.size)⟩
      · have r1:decide (seB c.t.se < seE a.t.se) = true:=decide_eq_true (by omega)
        have HN:=hidE (show adjI (fun e b => decide (e≤b)) (l.map TV.t) = false by
          cases hq:adjI (fun e b => decide (e≤b)) (l.map TV.t)
          · rfl
          · exfalso
            rw [← List.take_append_drop (j + 1 + 1) l,List.map_append] at hq
            have:=adj_pre _ _ _ hq
            rw [HT.out,HADJ.out] at this
            simp at this
            exact hok this)
        clear hok
        go_wp2
        go_quiet (fail)
        go_wp2
        go_ret
        exact ⟨by rw [HN.out];rfl,HBW.out.trans ((show Below wr.heap.size wr _ from by (repeat (first | exact Below.refl _ _ | assumption | refine balloc ?_ _ | refine below_drewN ?_ _ | refine bstep (by assumption) ?_ | refine bstep (Past.prop _) ?_ | refine Below.setCell ?_ (by first | exact Nat.le_refl _ | (simp;done) | (simp;omega)) _))).mono HBW.out.size)⟩
    · obtain ⟨m,hm⟩:∃ m,m = l.length:=⟨_,rfl⟩
      have hj:j + 1 = l.length:=by omega
      have q1:decide ((j:Int) + 1 < (l.length:Int)) = false:=decide_eq_false (by omega)
      have q2:decide (j + 1 < l.length) = false:=decide_eq_false (by omega)
      have HN:=hidE (show adjI (fun e b => decide (e≤b)) (l.map TV.t) = true by have:=HADJ.out;rwa [hj,List.take_length] at this)
      have HK2:=hidE (HKK.out.past hbw)
      clear hbw hj hm
      go_wp2_with (go_at_call 93;((with_reducible refine (HA.out _ HK2.out).mono ?_);rintro e w1 ⟨rfl,hb1⟩))
      go_ret
      exact ⟨by rw [HN.out];rfl,HBW.out.trans (hb1.mono HBW.out.size)⟩
set_option maxHeartbeats 2000000 in
set_option maxRecDepth 100000 in
theorem isNext_c (w:World) (p:Nat) (x:Prt) (n:Int) (s:Se) (b:Bool) (l:List TV) (hK:KidsAt w p x n s b l) (hl:l.length≤100) (h0:0 < l.length):Calls Tryz.prog 90 #[.pointer (some ⟨p,0,none⟩)] w fun e w' => e = .returned (.bool (adjI (fun e b => decide (e = b)) (l.map TV.t) && allI (l.map TV.t)))∧Below w.heap.size w w':=by
  have HA:=hidE (fun w' (h:KidsAt w' p x n s b l) => isAll_c w' p x n s b l h)
  have HKK:=hidE hK
  obtain ⟨g,cap,hb,hg,hlc,hcap,hc,_⟩:=hK
  have c5:=hb.cell 5;have pz:=hb.lt
  simp at c5
  have HC:=hidE hc
  clear hc hb
  go_enter Tryz.func90,Tryz.ntmps90
  go_wp2
  go_loopg [3] l.length (fun gh v3 wr => ∃ j:Nat,v3 = .int .i64 ((j:Int) + 1)∧j + 1≤l.length∧l.length - j≤gh∧adjI (fun e b => decide (e = b)) ((l.take (j + 1)).map TV.t) = true∧Below w.heap.size w wr)
  case atStart => exact ⟨0,rfl,h0,Nat.le_refl _,by cases l with
    | nil => simp at h0
    | cons a r => rfl,Below.refl _ _⟩
  case round =>
    obtain ⟨j,rfl,hk,hgh,hadj,hbw⟩:=hrel
    have HGH:=hidE hgh;have HADJ:=hidE hadj;have HBW:=hidE hbw
    have pz':=Nat.lt_of_lt_of_le pz hbw.size
    have c5':=(hbw.cell (p:=⟨p,5,none⟩) pz).trans c5
    have gz:=Nat.lt_of_lt_of_le hg hbw.size
    clear hgh hadj c5
    by_cases hlt:j + 1 < l.length
    · obtain ⟨a,ha⟩:∃ t,l[j]? = some t:=⟨l[j],by rw [List.getElem?_eq_getElem (by omega)]⟩
      obtain ⟨c,hc⟩:∃ t,l[j + 1]? = some t:=⟨l[j + 1],by rw [List.getElem?_eq_getElem hlt]⟩
      have k9:=(hbw.cell (p:=⟨g,_,none⟩) hg).trans (kid_cells HC.out ha).2.2.2.2.2.2.2.2.2.1
      have k8:=(hbw.cell (p:=⟨g,_,none⟩) hg).trans (kid_cells HC.out hc).2.2.2.2.2.2.2.2.1
      have q1:decide ((j:Int) + 1 < (l.length:Int)) = true:=decide_eq_true (by omega)
      have q2:decide (j + 1 < l.length) = true:=decide_eq_true hlt
      have HT:=hidE (adj_take (fun e b => decide (e = b)) ha hc)
      clear ha hc hbw
      have z1:IntKind.i64.wrap ((j:Int) + 1 - 1) = (j:Int):=by rw [IntWalk.i64_in _ (by omega)];omega
      have z0:(0:Int)≤(j:Int) + 1:=by omega
      have z2:((j:Int) + 1).toNat = j + 1:=by omega
      by_cases hok:seE a.t.se = seB c.t.se
      · have r1:(seE a.t.se != seB c.t.se) = false:=by simpa using hok
        have HN:=hidE (show adjI (fun e b => decide (e = b)) ((l.take (j + 1 + 1)).map TV.t) = true by rw [HT.out,HADJ.out];simpa using hok)
        clear hok
        go_wp2
        go_quiet (fail)
        go_wp2
        go_roundg (l.length - (j + 1))
        case measure => have:=HGH.out;omega
        case rel => exact ⟨j + 1,by go_num,by omega,Nat.le_refl _,HN.out,HBW.out.trans ((show Below wr.heap.size wr _ from by (repeat (first | exact Below.refl _ _ | assumption | refine balloc ?_ _ | refine below_drewN ?_ _ | refine bstep (by assumption) ?_ | refine bstep (Past.prop _) ?_ | refine Below.setCell ?_ (by first | exact Nat.le_refl _ | (simp;done) | (simp;omega)) _))).mono HBW.out.size)⟩
      · have r1:(seE a.t.se != seB c.t.se) = true:=by simpa using hok
        have HN:=hidE (show adjI (fun e b => decide (e = b)) (l.map TV.t) = false by
          cases hq:adjI (fun e b => decide (e = b)) (l.map TV.t)
          · rfl
          · exfalso
            rw [← List.take_append_drop (j + 1 + 1) l,List.map_append] at hq
            have:=adj_pre _ _ _ hq
            rw [HT.out,HADJ.out] at this
            simp at this
            exact hok this)
        clear hok
        go_wp2
        go_quiet (fail)
        go_wp2
        go_ret
        exact ⟨by rw [HN.out];rfl,HBW.out.trans ((show Below wr.heap.size wr _ from by (repeat (first | exact Below.refl _ _ | assumption | refine balloc ?_ _ | refine below_drewN ?_ _ | refine bstep (by assumption) ?_ | refine bstep (Past.prop _) ?_ | refine Below.setCell ?_ (by first | exact Nat.le_refl _ | (simp;done) | (simp;omega)) _))).mono HBW.out.size)⟩
    · obtain ⟨m,hm⟩:∃ m,m = l.length:=⟨_,rfl⟩
      have hj:j + 1 = l.length:=by omega
      have q1:decide ((j:Int) + 1 < (l.length:Int)) = false:=decide_eq_false (by omega)
      have q2:decide (j + 1 < l.length) = false:=decide_eq_false (by omega)
      have HN:=hidE (show adjI (fun e b => decide (e = b)) (l.map TV.t) = true by have:=HADJ.out;rwa [hj,List.take_length] at this)
      have HK2:=hidE (HKK.out.past hbw)
      clear hbw hj hm
      go_wp2_with (go_at_call 93;((with_reducible refine (HA.out _ HK2.out).mono ?_);rintro e w1 ⟨rfl,hb1⟩))
      go_ret
      exact ⟨by rw [HN.out];rfl,HBW.out.trans (hb1.mono HBW.out.size)⟩
def plT (l:List TV):List TV:=l.filter fun k => k.t.se.isSome
theorem pl_take {l:List TV} {k:Nat} {t:TV} (ht:l[k]? = some t):plT (l.take (k + 1)) = plT (l.take k) ++ if t.t.se.isSome then [t] else []:=by
  unfold plT
  rw [List.take_add_one,ht,List.filter_append]
  congr 1
  cases h:t.t.se.isSome <;> simp [h]
theorem pl_any (l:List TV):anyI (l.map TV.t) = match plT l with
    | [k] => k.t.ok
    | _ => false:=by
  unfold anyI plT
  rw [List.filter_map]
  have e:((fun k:TI => k.se.isSome) ∘ TV.t) = fun k:TV => k.t.se.isSome:=rfl
  rw [e]
  cases (l.filter fun k:TV => k.t.se.isSome) with
  | nil => rfl
  | cons a r => cases r <;> rfl
set_option maxHeartbeats 2000000 in
set_option maxRecDepth 100000 in
theorem isOne_c (w:World) (p:Nat) (x:Prt) (n:Int) (s:Se) (b:Bool) (l:List TV) (hK:KidsAt w p x n s b l) (hl:l.length≤100):Calls Tryz.prog 91 #[.pointer (some ⟨p,0,none⟩)] w fun e w' => e = .returned (.bool (anyI (l.map TV.t)))∧Below w.heap.size w w':=by
  obtain ⟨g,cap,hb,hg,hlc,hcap,hc,_⟩:=hK
  have c5:=hb.cell 5;have pz:=hb.lt
  simp at c5
  have HC:=hidE hc
  clear hc hb
  obtain ⟨ix,hix,hz0,hzz,hz4⟩:=info_parts Tryz.infoTermS
  have HI:=hidE hix;have HZ0:=hidE hz0;have HZ1:=hidE hzz;have HZ2:=hidE hz4
  clear hix hz0 hzz hz4
  go_enter Tryz.func91,Tryz.ntmps91
  go_wp2
  go_loopg [3,11] l.length (fun gh v3 v11 wr => ∃ k:Nat,v11 = .int .i64 k∧k≤l.length∧l.length - k≤gh∧wr.ownsRow w.heap.size 78 11 v3 (plT (l.take k)).length (cellsT (plT (l.take k)))∧(plT (l.take k)).length≤k∧Below w.heap.size w wr)
  case atStart => exact ⟨0,rfl,Nat.zero_le _,Nat.le_refl _,own_nil _ _ _,Nat.le_refl _,Below.refl _ _⟩
  case round =>
    obtain ⟨k,rfl,hk,hgh,hown,hpk,hbw⟩:=hrel
    have HGH:=hidE hgh
    clear hgh c5 pz
    obtain ⟨a3,c3,rfl⟩:=own_sli hown
    have HOW:=hidE hown
    clear hown
    by_cases hlt:k < l.length
    ·
      obtain ⟨t,ht⟩:∃ t,l[k]? = some t:=⟨l[k],by rw [List.getElem?_eq_getElem hlt]⟩
      obtain ⟨m0,m1,m2,m3,m4,m5,m6,m7,m8,m9,m10⟩:=kid_cells HC.out ht
      have k0:=(hbw.cell (p:=⟨g,_,none⟩) hg).trans m0;have k1:=(hbw.cell (p:=⟨g,_,none⟩) hg).trans m1;have k2:=(hbw.cell (p:=⟨g,_,none⟩) hg).trans m2;have k3:=(hbw.cell (p:=⟨g,_,none⟩) hg).trans m3;have k4:=(hbw.cell (p:=⟨g,_,none⟩) hg).trans m4;have k5:=(hbw.cell (p:=⟨g,_,none⟩) hg).trans m5;have k6:=(hbw.cell (p:=⟨g,_,none⟩) hg).trans m6;have k7:=(hbw.cell (p:=⟨g,_,none⟩) hg).trans m7;have k8:=(hbw.cell (p:=⟨g,_,none⟩) hg).trans m8;have k9:=(hbw.cell (p:=⟨g,_,none⟩) hg).trans m9;have k10:=(hbw.cell (p:=⟨g,_,none⟩) hg).trans m10
      have gz:=Nat.lt_of_lt_of_le hg hbw.size
      have q1:decide ((k:Int) < (l.length:Int)) = true:=decide_eq_true (by omega)
      have q2:decide (k < l.length) = true:=decide_eq_true hlt
      have HT:=hidE ht;have HBW:=hidE hbw
      clear m0 m1 m2 m3 m4 m5 m6 m7 m8 m9 m10 ht
      have hPL:=pl_take HT.out
      have HOB:=hidE (show ∀ j,(Value.slice a3 (plT (l.take k)).length c3).ownBlock = some j→w.heap.size≤j from fun j e => own_block HOW.out e)
      cases hok:t.t.se.isSome
      · rw [hok] at k7 hPL
        have HPL:=hidE hPL
        clear hok hPL
        go_wp2
        go_roundg (l.length - (k + 1))
        case measure => have:=HGH.out;omega
        case rel => exact ⟨k + 1,by go_num,by omega,Nat.le_refl _,by rw [HPL.out];simpa using own_below HOW.out (show Below wr.heap.size wr _ from by (repeat (first | exact Below.refl _ _ | assumption | refine balloc ?_ _ | refine below_drewN ?_ _ | refine bstep (by assumption) ?_ | refine bstep (Past.prop _) ?_ | refine Below.setCell ?_ (by first | exact Nat.le_refl _ | (simp;done) | (simp;omega)) _))),by rw [HPL.out];simp;omega,HBW.out.trans ((show Below wr.heap.size wr _ from by (repeat (first | exact Below.refl _ _ | assumption | refine balloc ?_ _ | refine below_drewN ?_ _ | refine bstep (by assumption) ?_ | refine bstep (Past.prop _) ?_ | refine Below.setCell ?_ (by first | exact Nat.le_refl _ | (simp;done) | (simp;omega)) _))).mono HBW.out.size)⟩
      · rw [hok] at hPL
        have HPL:=hidE hPL
        have HOK:=hidE hok
        rw [hok] at k7
        clear hok hPL
        have hws:=HBW.out.size
        go_wp2_with (at_builtin;go_loud (refine list_appV rfl (.tmp 17) (.tmp 19) 76 rfl w.heap.size 78 ix _ 11 96 Tryz.underlying76 HI.out HZ0.out HZ1.out HZ2.out rfl (by decide) (.slice a3 (plT (l.take k)).length c3) (plT (l.take k)).length (cellsT (plT (l.take k))) rfl (own_below HOW.out (by (repeat (first | exact Below.refl _ _ | assumption | refine balloc ?_ _ | refine below_drewN ?_ _ | refine bstep (by assumption) ?_ | refine bstep (Past.prop _) ?_ | refine Below.setCell ?_ (by first | exact Nat.le_refl _ | (simp;done) | (simp;omega)) _)))) _ 1 [.int .u8 t.t.x.kind,.int .u32 t.t.x.n,.int .u32 t.t.x.g,.int .i64 t.t.x.d,.int .i64 t.t.x.kids,t.v,.int .i64 t.t.len,.bool true,.int .i64 (seB t.t.se),.int .i64 (seE t.t.se),.bool t.t.ok] rfl (srcV_new (Blk.made_at _ _ _ _ (by first | rfl | (simp;done))) rfl (by intro y hy;simp at hy;rcases hy with rfl | rfl | rfl | rfl | rfl | rfl | rfl | rfl | rfl | rfl | rfl <;> rfl)) (by omega) (by omega) (by simp;omega) ?_);intro v' w2 own' hg';obtain ⟨av',cp',rfl⟩:=own_sli own')
        go_roundg (l.length - (k + 1))
        case measure => have:=HGH.out;omega
        case rel =>
          have hbl3:=(show Below w.heap.size wr w2 from Below.grown ((show Below wr.heap.size wr _ from by (repeat (first | exact Below.refl _ _ | assumption | refine balloc ?_ _ | refine below_drewN ?_ _ | refine bstep (by assumption) ?_ | refine bstep (Past.prop _) ?_ | refine Below.setCell ?_ (by first | exact Nat.le_refl _ | (simp;done) | (simp;omega)) _))).mono hws) hg' (by simp;omega) (fun j hj => HOB.out j hj))
          refine ⟨k + 1,by go_num,by omega,Nat.le_refl _, ?_,by rw [HPL.out];simp;omega,HBW.out.trans hbl3⟩
          have e:t.cells = [.int .u8 t.t.x.kind,.int .u32 t.t.x.n,.int .u32 t.t.x.g,.int .i64 t.t.x.d,.int .i64 t.t.x.kids,t.v,.int .i64 t.t.len,.bool true,.int .i64 (seB t.t.se),.int .i64 (seE t.t.se),.bool t.t.ok]:=by
            show tiV t.t.x t.v t.t.len t.t.se t.t.ok = _
            rw [← HOK.out]
          rw [HPL.out,if_pos trivial,cellsT_snoc,e,List.length_append]
          exact own'
    ·
      obtain rfl:k = l.length:=by omega
      have q1:decide ((l.length:Int) < (l.length:Int)) = false:=decide_eq_false (by omega)
      have q2:decide (l.length < l.length) = false:=decide_eq_false (by omega)
      have HBW:=hidE hbw
      clear hbw
      rw [List.take_length] at HOW ⊢
      rw [List.take_length] at hpk
      have HAN:=hidE (pl_any l)
      obtain ⟨D,hD⟩:∃ D,plT l = D:=⟨_,rfl⟩
      rw [hD] at HOW HAN hpk ⊢
      clear hD
      cases D with
      | nil =>
        go_wp2
        go_ret
        exact ⟨by rw [HAN.out];rfl,HBW.out⟩
      | cons t D =>
        cases D with
        | nil =>
          obtain ⟨g2,cp2,e,hg1,hg2,hcp1,hcp2⟩:=ownP_pos (n:=0) HOW.out
          cases e
          have d10:=ownP_cell HOW.out (j:=10) (u := .bool t.t.ok) (by simp [cellsT])
          go_wp2
          go_ret
          exact ⟨by rw [HAN.out];rfl,HBW.out⟩
        | cons t2 D =>
          have q3:(((D.length + 1 + 1:Nat):Int) == 1) = false:=by simp;omega
          have q4:(D.length + 1 + 1 == 1) = false:=by simp
          go_wp2
          go_ret
          exact ⟨by rw [HAN.out];rfl,HBW.out⟩
end
end Go.Proofs.YthlepbbdjmmelaaGreatDoor
