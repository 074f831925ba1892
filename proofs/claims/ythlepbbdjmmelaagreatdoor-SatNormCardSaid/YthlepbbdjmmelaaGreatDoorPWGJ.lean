/- slices.insertionSortCmpFunc over a row of indices of the call's own, by the comparison of the runs' times. No conditions but the row's size. slices.symMergeCmpFunc where the first row is one element. No conditions but the row's size. slices.symMergeCmpFunc where the second row is one element. No conditions but the row's size. slices.symMergeCmpFunc, its general case, and .. -/
import Derived.Test.YthlepbbdjmmelaaGreatDoorPWGI
import Derived.Deep.LoopGhost
import Derived.Deep.DeepCutAuto
import Derived.Test.YthlepbbdjmmelaaGreatDoorPWGB
import Derived.Test.YthlepbbdjmmelaaGreatDoorPWMA
import Derived.Test.YthlepbbdjmmelaaGreatDoorPWGA
import Derived.Test.YthlepbbdjmmelaaGreatDoorPWGF
import Derived.Laws.MakeOwn
import Derived.Laws.OwnMore
import Derived.Test.YthlepbbdjmmelaaGreatDoorPWGC
import Derived.Test.YthlepbbdjmmelaaGreatDoorRows
import Derived.Outline
namespace Go.Proofs.YthlepbbdjmmelaaGreatDoor.Pcs
open Go.ChangeShapes Go.WideShapes Go.ChangeAt Go.RowKit
variable {E:Nat→Int × Int}
attribute [local irreducible] Go.Calls
def Cmps (E:Nat→Int × Int) (w0:World) (blk n:Nat) (K:Nat→Int):Prop :=
  ∀ w,Below blk w0 w→∀ x y:Nat,x < n→y < n→Calls Tryz.prog 19 #[.agg #[.int .i64 (E x).1,.int .i64 (E x).2],.agg #[.int .i64 (E y).1,.int .i64 (E y).2]] w fun e w' => e = .returned (.int .i64 (cmpI (K x) (K y)))∧Below w.heap.size w w'
def Okd (n:Nat) (d:Nat→Nat):Prop:=∀ k,k < n→d k < n
theorem Okd.mv {n a b:Nat} {d d':Nat→Nat} (h:Okd n d) (hm:Mv a b d d') (hb:b≤n):Okd n d':=fun k hk => by
  by_cases c:a≤k∧k < b
  · obtain ⟨k',h1,h2,e⟩:=hm.inn k c.1 c.2
    rw [e];exact h _ (by omega)
  · rw [hm.out k (by omega)];exact h _ hk
def SrtTo (E:Nat→Int × Int) (w0:World) (blk n:Nat) (t:TypeId) (K:Nat→Int) (a b:Nat) (d:Nat→Nat) (e:Ending) (w':World):Prop :=
  e = .returned (.tuple #[])∧∃ d',RowW E w0 blk n t d' w'∧Mv a b d d'∧Inv K n d'∧Srt K a b d'
theorem cmp_t {K:Nat→Int} {x y:Nat} (h:K x < K y):decide (cmpI (K x) (K y) < 0) = true:=by rw [cmpI_neg];exact decide_eq_true h
theorem cmp_f {K:Nat→Int} {x y:Nat} (h:¬ K x < K y):decide (cmpI (K x) (K y) < 0) = false:=by rw [cmpI_neg];exact decide_eq_false h
set_option maxHeartbeats 4000000 in
theorem insertion_c (w0 w:World) (blk n cap a b:Nat) (t:TypeId) (K:Nat→Int) (d:Nat→Nat) (h:RowW E w0 blk n t d w) (hC:Cmps E w0 blk n K) (hI:Inv K n d) (hO:Okd n d) (hab:a≤b) (hb:b≤n) (hn:n≤4611686018427387904) :
    Calls Tryz.prog 49 #[.slice (some ⟨blk,0,none⟩) n cap,.int .i64 a,.int .i64 b,.func (.func 19) #[] #[]] w (SrtTo E w0 blk n t K a b d):=by
  have H:=hidE h;have HC:=hidE hC;have HI:=hidE hI;have HO:=hidE hO
  clear h hC hI hO
  go_enter Tryz.func49,Tryz.ntmps49
  go_wp2
  go_loopg [8] (b - a) (fun g1 vi wr => ∃ (i:Nat) (dk:Nat→Nat),vi = .int .i64 i∧a < i∧b - i≤g1∧(i≤b ∨ i = a + 1)∧RowW E w0 blk n t dk wr∧Mv a b d dk∧Inv K n dk∧Srt K a i dk)
  case atStart => exact ⟨a + 1,d,by go_num,by omega,by omega,by omega,H.out,Mv.refl _ _ _,HI.out,srt_one _ _ _ (by omega)⟩
  case round =>
    obtain ⟨i,dk,rfl,hai,hg1,hib,hr,hm,hi,hs⟩:=hrel
    have HR:=hidE hr;have HM:=hidE hm;have HJ:=hidE hi;have HS:=hidE hs
    clear hr hm hi hs
    by_cases hlt:i < b
    · have hltz:(i:Int) < (b:Int):=by omega
      obtain ⟨wo,rfl⟩:∃ wo:World,wo = wr:=⟨_,rfl⟩
      go_wp2
      go_loopg [9] i (fun g2 vj wr2 => ∃ (j:Nat) (dj:Nat→Nat),vj = .int .i64 j∧a≤j∧j≤i∧j≤g2∧RowW E w0 blk n t dj wr2∧Mv a b d dj∧Inv K n dj∧InsR K a i j dj)
      case atStart => exact ⟨i,dk,rfl,by omega,Nat.le_refl _,Nat.le_refl _,HR.out,HM.out,HJ.out,InsR.start HS.out⟩
      case round =>
        clear HR HM HJ HS
        obtain ⟨j,dj,rfl,haj,hji,hg2,hr,hm,hi,hs⟩:=hrel
        have HR:=hidE hr;have HM:=hidE hm;have HJ:=hidE hi;have HS:=hidE hs
        have hok:=HO.out.mv hm hb
        clear hr hm hi hs
        by_cases hja:a < j
        · obtain ⟨jp,rfl⟩:∃ q,j = q + 1:=⟨j - 1,by omega⟩
          have hjd:decide ((a:Int) < (jp:Int) + 1) = true:=decide_eq_true (by omega)
          have c1:=HR.out.cellA (i:=jp + 1) (by omega);have c1b:=HR.out.cellB (i:=jp + 1) (by omega)
          have c2:=HR.out.cellA (i:=jp) (by omega);have c2b:=HR.out.cellB (i:=jp) (by omega)
          have z:=HR.out.lt
          have k1:=hok (jp + 1) (by omega)
          have k2:=hok jp (by omega)
          have HCM:=hidE (fun w hw => HC.out w hw (dj (jp + 1)) (dj jp) k1 k2)
          clear hok
          by_cases hkey:K (dj (jp + 1)) < K (dj jp)
          · have hd:=cmp_t hkey
            have HX:=hidE (⟨(HJ.out.swap' jp (by omega) hkey),(HM.out.trans (Mv.swap dj (jp + 1) jp (by omega) (by omega))),(HS.out.step (by omega) (by omega) hkey)⟩:Inv K n (sw dj (jp + 1) jp)∧Mv a b d (sw dj (jp + 1) jp)∧InsR K a i jp (sw dj (jp + 1) jp))
            clear hkey HM HJ HS
            have HE:=hidE (fun (w:World) (h:RowW E w0 blk n t dj w) => (h.swap (jp + 1) jp).drew)
            have HF:=hidE (fun (w:World) (h:RowW E w0 blk n t dj w) => h.c2A (jp + 1) jp (by omega) (dj jp))
            have HFb:=hidE (fun (w:World) (h:RowW E w0 blk n t dj w) => h.c2B (jp + 1) jp (by omega) (dj jp))
            generalize hx:dj (jp + 1) = x at *
            generalize hy:dj jp = y at *
            go_wp2_with fail
            refine wp_region_past_lit (by kernel_rfl) (by kernel_rfl) ?_
            have hc:=Past.cell (W:=wr)
            repeat (go_big_quiet_step ((go_at_call 19;exact Past.call _ (HCM.out _ (HR.out.low.trans ((Past.prop _).mono (Nat.le_of_lt z)))))))
            refine wpQuiet_nil ?_
            rintro _ ⟨x',rfl⟩
            have hr2:=HR.out.past x'.2
            clear c1 c1b c2 c2b hc
            generalize x'.1 = w2 at hr2 ⊢
            have g1:=hr2.cellA (i:=jp + 1) (by omega);have g1b:=hr2.cellB (i:=jp + 1) (by omega)
            have g2:=hr2.cellA (i:=jp) (by omega);have g2b:=hr2.cellB (i:=jp) (by omega)
            have g3:=HF.out _ hr2;have g3b:=HFb.out _ hr2
            have f1:=hr2.freeA (jp + 1);have f1b:=hr2.freeB (jp + 1)
            have f2:=hr2.freeA jp;have f2b:=hr2.freeB jp
            have hE:=HE.out _ hr2
            rw [if_neg (by omega)] at g3 g3b
            rw [hx] at g1 g1b
            rw [hy] at g2 g2b
            have HE2:=hidE hE;have Hx:=hidE hx;have Hy:=hidE hy
            clear hE hr2 hx hy
            go_wp2_with fail
            go_region
            go_wp2
            go_roundg jp
            case measure => omega
            case rel => exact ⟨jp,_,by go_num,by omega,by omega,Nat.le_refl _,HE2.out,HX.out.2.1,HX.out.1,HX.out.2.2⟩
          · have hd:=cmp_f hkey
            have HX:=hidE (HS.out.done HJ.out (by omega) haj hji (.inr hkey))
            clear hkey
            generalize hx:dj (jp + 1) = x at *
            generalize hy:dj jp = y at *
            have Hx:=hidE hx;have Hy:=hidE hy
            clear hx hy
            go_wp2_with fail
            refine wp_region_past_lit (by kernel_rfl) (by kernel_rfl) ?_
            have hc:=Past.cell (W:=wr)
            repeat (go_big_quiet_step ((go_at_call 19;exact Past.call _ (HCM.out _ (HR.out.low.trans ((Past.prop _).mono (Nat.le_of_lt z)))))))
            refine wpQuiet_nil ?_
            rintro _ ⟨x',rfl⟩
            have hr2:=HR.out.past x'.2
            clear c1 c1b c2 c2b hc
            generalize x'.1 = w2 at hr2 ⊢
            have HR2:=hidE hr2;clear hr2
            go_wp2
            go_roundg (b - (i + 1))
            case measure => omega
            case rel => exact ⟨i + 1,_,by go_num,by omega,by omega,by omega,HR2.out,HM.out,HJ.out,HX.out⟩
        · have hja':j = a:=by omega
          subst hja'
          have HX:=hidE (HS.out.done HJ.out (by omega) haj hji (.inl rfl))
          have hd:¬ (j:Int) < (j:Int):=by omega
          go_wp2_with fail
          refine wp_region_past_lit (by kernel_rfl) (by kernel_rfl) ?_
          repeat (go_big_quiet_step (fail))
          refine wpQuiet_nil ?_
          rintro _ ⟨x',rfl⟩
          have hr2:=HR.out.past x'.2
          generalize x'.1 = w2 at hr2 ⊢
          have HR2:=hidE hr2;clear hr2
          go_wp2
          go_roundg (b - (i + 1))
          case measure => omega
          case rel => exact ⟨i + 1,_,by go_num,by omega,by omega,by omega,HR2.out,HM.out,HJ.out,HX.out⟩
    · go_wp2
      go_end0
      exact ⟨rfl,dk,HR.out,HM.out,HJ.out,HS.out.mono (Nat.le_refl _) (by omega)⟩
end Go.Proofs.YthlepbbdjmmelaaGreatDoor.Pcs
namespace Go.Proofs.YthlepbbdjmmelaaGreatDoor.Pcs
open Go.ChangeShapes Go.WideShapes Go.ChangeAt Go.RowKit
variable {E:Nat→Int × Int}
attribute [local irreducible] Go.Calls
theorem BubU.start' {K:Nat→Int} {n a m b i:Nat} {d:Nat→Nat} (hm1:a < m) (hm2:m≤a + 1) (hI:Inv K n d) (hbn:b≤n) (h:Srt K m b d) (hi:i≤b) (h1:∀ y,m≤y→y < i→K (d y) < K (d a)) (h2:∀ y,i≤y→y < b→¬ K (d y) < K (d a)):BubU K a b a i d:=by
  have e:m = a + 1:=by omega
  subst e
  exact BubU.start hI hbn h hi h1 h2
set_option maxRecDepth 100000 in
set_option maxHeartbeats 4000000 in
theorem symMerge_up (w0 w:World) (blk n cap a m b:Nat) (t:TypeId) (K:Nat→Int) (d:Nat→Nat) (h:RowW E w0 blk n t d w) (hC:Cmps E w0 blk n K) (hI:Inv K n d) (hO:Okd n d) (hm1:a < m) (hm2:m≤a + 1) (hmb:m < b) (hb:b≤n) (hn:n≤4611686018427387904) (hs:Srt K m b d) :
    Calls Tryz.prog 50 #[.slice (some ⟨blk,0,none⟩) n cap,.int .i64 a,.int .i64 m,.int .i64 b,.func (.func 19) #[] #[]] w (SrtTo E w0 blk n t K a b d):=by
  have H:=hidE h;have HC:=hidE hC;have HI:=hidE hI;have HO:=hidE hO;have HS:=hidE hs
  clear h hC hI hO hs
  have e1:((m:Int) - (a:Int) == 1) = true:=beq_iff_eq.2 (by omega)
  go_enter Tryz.func50,Tryz.ntmps50
  go_wp2
  go_loopg [10,11] b (fun g1 vi vj wr => ∃ (i j:Nat),vi = .int .i64 i∧vj = .int .i64 j∧m≤i∧i≤j∧j≤b∧j - i≤g1∧RowW E w0 blk n t d wr∧(∀ y,m≤y→y < i→K (d y) < K (d a))∧(∀ y,j≤y→y < b→¬ K (d y) < K (d a)))
  case atStart => exact ⟨m,b,rfl,rfl,by omega,by omega,by omega,by omega,H.out,fun y h1 h2 => by omega,fun y h1 h2 => by omega⟩
  case round =>
    obtain ⟨i,j,rfl,rfl,hai,hij,hjb,hg1,hr,hlo,hhi⟩:=hrel
    have HR:=hidE hr;have HL:=hidE hlo;have HH:=hidE hhi
    clear hr hlo hhi
    by_cases hlt:i < j
    · have hltz:(i:Int) < (j:Int):=by omega
      obtain ⟨h,eh⟩:∃ h:Nat,((i:Int) + (j:Int)) / 2 = (h:Int):=⟨(i + j) / 2,by omega⟩
      have hih:i≤h:=by omega
      have hhj:h < j:=by omega
      have EH:=hidE eh;clear eh
      have hok:=HO.out
      have c1:=HR.out.cellA (i:=h) (by omega);have c1b:=HR.out.cellB (i:=h) (by omega)
      have c2:=HR.out.cellA (i:=a) (by omega);have c2b:=HR.out.cellB (i:=a) (by omega)
      have z:=HR.out.lt
      have k1:=hok h (by omega)
      have k2:=hok a (by omega)
      have HCM:=hidE (fun w hw => HC.out w hw (d h) (d a) k1 k2)
      clear hok
      go_wp2_with fail
      simp only [EH.out]
      by_cases hkey:K (d h) < K (d a)
      · have hd:=cmp_t hkey
        have HX:=hidE (fun y (h1:m≤y) (h2:y < h + 1) => (by
          have:=HS.out.le (k:=y) (k':=h) h1 (by omega) (by omega)
          omega:K (d y) < K (d a)))
        clear hkey
        generalize hx:d h = x at *
        generalize hy:d a = y at *
        have Hx:=hidE hx;have Hy:=hidE hy
        clear hx hy
        refine wp_region_past_lit (by kernel_rfl) (by kernel_rfl) ?_
        have hc:=Past.cell (W:=wr)
        repeat (go_big_quiet_step ((go_at_call 19;exact Past.call _ (HCM.out _ (HR.out.low.trans ((Past.prop _).mono (Nat.le_of_lt z)))))))
        refine wpQuiet_nil ?_
        rintro _ ⟨x',rfl⟩
        have hr2:=HR.out.past x'.2
        clear c1 c1b c2 c2b hc
        generalize x'.1 = w2 at hr2 ⊢
        have HR2:=hidE hr2;clear hr2
        go_wp2
        go_roundg (j - (h + 1))
        case measure => omega
        case rel => exact ⟨h + 1,j,by go_num,rfl,by omega,by omega,hjb,by omega,HR2.out,by simpa only [Hy.out] using HX.out,by simpa only [Hy.out] using HH.out⟩
      · have hd:=cmp_f hkey
        have HX:=hidE (fun y (h1:h≤y) (h2:y < b) => (by
          have:=HS.out.le (k:=h) (k':=y) (by omega) h1 h2
          omega:¬ K (d y) < K (d a)))
        clear hkey
        generalize hx:d h = x at *
        generalize hy:d a = y at *
        have Hx:=hidE hx;have Hy:=hidE hy
        clear hx hy
        refine wp_region_past_lit (by kernel_rfl) (by kernel_rfl) ?_
        have hc:=Past.cell (W:=wr)
        repeat (go_big_quiet_step ((go_at_call 19;exact Past.call _ (HCM.out _ (HR.out.low.trans ((Past.prop _).mono (Nat.le_of_lt z)))))))
        refine wpQuiet_nil ?_
        rintro _ ⟨x',rfl⟩
        have hr2:=HR.out.past x'.2
        clear c1 c1b c2 c2b hc
        generalize x'.1 = w2 at hr2 ⊢
        have HR2:=hidE hr2;clear hr2
        go_wp2
        go_roundg (h - i)
        case measure => omega
        case rel => exact ⟨i,h,rfl,rfl,hai,by omega,by omega,by omega,HR2.out,by simpa only [Hy.out] using HL.out,by simpa only [Hy.out] using HX.out⟩
    · have:i = j:=by omega
      subst this
      have hltz:¬ (i:Int) < (i:Int):=by omega
      obtain ⟨ip,rfl⟩:∃ q,i = q + 1:=⟨i - 1,by omega⟩
      have HB:=hidE (BubU.start' hm1 hm2 HI.out hb HS.out hjb HL.out HH.out)
      clear HL HH
      obtain ⟨wo,rfl⟩:∃ wo:World,wo = wr:=⟨_,rfl⟩
      go_wp2
      go_loopg [13] (ip - a) (fun g2 vk wr2 => ∃ (k:Nat) (dk:Nat→Nat),vk = .int .i64 k∧a≤k∧k≤ip∧ip - k≤g2∧RowW E w0 blk n t dk wr2∧Mv a b d dk∧Inv K n dk∧BubU K a b k (ip + 1) dk)
      case atStart => exact ⟨a,d,rfl,by omega,by omega,by omega,HR.out,Mv.refl _ _ _,HI.out,HB.out⟩
      case round =>
        clear HR HB
        obtain ⟨k,dk,rfl,hak,hki,hg2,hr,hm,hi,hs⟩:=hrel
        have HR:=hidE hr;have HM:=hidE hm;have HJ:=hidE hi;have HB:=hidE hs
        clear hr hm hi hs
        by_cases hlt:k < ip
        · have hltz:(k:Int) < (ip:Int):=by omega
          have HX:=hidE (⟨HJ.out.swap k (by omega) (HB.out.mid _ (by omega) (by omega)),HM.out.trans (Mv.swap dk k (k + 1) (by omega) (by omega)),HB.out.step hak (by omega) hjb⟩:Inv K n (sw dk k (k + 1))∧Mv a b d (sw dk k (k + 1))∧BubU K a b (k + 1) (ip + 1) (sw dk k (k + 1)))
          have c1:=HR.out.cellA (i:=k) (by omega);have c1b:=HR.out.cellB (i:=k) (by omega)
          have c2:=HR.out.cellA (i:=k + 1) (by omega);have c2b:=HR.out.cellB (i:=k + 1) (by omega)
          have c3:=HR.out.c2A k (k + 1) (by omega) (dk (k + 1));have c3b:=HR.out.c2B k (k + 1) (by omega) (dk (k + 1))
          have f1:=HR.out.freeA k;have f1b:=HR.out.freeB k
          have f2:=HR.out.freeA (k + 1);have f2b:=HR.out.freeB (k + 1)
          have HE:=hidE (HR.out.swap k (k + 1)).drew
          rw [if_neg (by omega)] at c3 c3b
          generalize hx:dk (k + 1) = x at *
          generalize hy:dk k = y at *
          have Hx:=hidE hx;have Hy:=hidE hy
          clear hx hy
          go_wp2_with fail
          go_region
          go_wp2
          go_roundg (ip - (k + 1))
          case measure => omega
          case rel => exact ⟨k + 1,_,by go_num,by omega,by omega,Nat.le_refl _,HE.out,HX.out.2.1,HX.out.1,HX.out.2.2⟩
        · have hltz:¬ (k:Int) < (ip:Int):=by omega
          go_wp2
          go_end0
          exact ⟨rfl,dk,HR.out,HM.out,HJ.out,HB.out.done (by omega)⟩
end Go.Proofs.YthlepbbdjmmelaaGreatDoor.Pcs
namespace Go.Proofs.YthlepbbdjmmelaaGreatDoor.Pcs
open Go.ChangeShapes Go.WideShapes Go.ChangeAt Go.RowKit
variable {E:Nat→Int × Int}
attribute [local irreducible] Go.Calls
theorem BubD.start' {K:Nat→Int} {n a m b i:Nat} {d:Nat→Nat} (hm1:m < b) (hm2:b≤m + 1) (hI:Inv K n d) (hbn:b≤n) (h:Srt K a m d) (h1:∀ x,a≤x→x < i→¬ K (d m) < K (d x)) (h2:∀ x,i≤x→x < m→K (d m) < K (d x)):BubD K a b m i d:=by
  have e:b = m + 1:=by omega
  subst e
  exact BubD.start hI (by omega) h (fun x q1 q2 _ => h1 x q1 q2) h2
set_option maxRecDepth 100000 in
set_option maxHeartbeats 4000000 in
theorem symMerge_dn (w0 w:World) (blk n cap a m b:Nat) (t:TypeId) (K:Nat→Int) (d:Nat→Nat) (h:RowW E w0 blk n t d w) (hC:Cmps E w0 blk n K) (hI:Inv K n d) (hO:Okd n d) (ham:a + 1 < m) (hm1:m < b) (hm2:b≤m + 1) (hb:b≤n) (hn:n≤4611686018427387904) (hs:Srt K a m d) :
    Calls Tryz.prog 50 #[.slice (some ⟨blk,0,none⟩) n cap,.int .i64 a,.int .i64 m,.int .i64 b,.func (.func 19) #[] #[]] w (SrtTo E w0 blk n t K a b d):=by
  have H:=hidE h;have HC:=hidE hC;have HI:=hidE hI;have HO:=hidE hO;have HS:=hidE hs
  clear h hC hI hO hs
  have e0:((m:Int) - (a:Int) == 1) = false:=beq_eq_false_iff_ne.2 (by omega)
  have e1:((b:Int) - (m:Int) == 1) = true:=beq_iff_eq.2 (by omega)
  go_enter Tryz.func50,Tryz.ntmps50
  go_wp2
  go_loopg [14,15] m (fun g1 vi vj wr => ∃ (i j:Nat),vi = .int .i64 i∧vj = .int .i64 j∧a≤i∧i≤j∧j≤m∧j - i≤g1∧RowW E w0 blk n t d wr∧(∀ x,a≤x→x < i→¬ K (d m) < K (d x))∧(∀ x,j≤x→x < m→K (d m) < K (d x)))
  case atStart => exact ⟨a,m,rfl,rfl,by omega,by omega,by omega,by omega,H.out,fun y h1 h2 => by omega,fun y h1 h2 => by omega⟩
  case round =>
    obtain ⟨i,j,rfl,rfl,hai,hij,hjb,hg1,hr,hlo,hhi⟩:=hrel
    have HR:=hidE hr;have HL:=hidE hlo;have HH:=hidE hhi
    clear hr hlo hhi
    by_cases hlt:i < j
    · have hltz:(i:Int) < (j:Int):=by omega
      obtain ⟨h,eh⟩:∃ h:Nat,((i:Int) + (j:Int)) / 2 = (h:Int):=⟨(i + j) / 2,by omega⟩
      have hih:i≤h:=by omega
      have hhj:h < j:=by omega
      have EH:=hidE eh;clear eh
      have hok:=HO.out
      have c1:=HR.out.cellA (i:=h) (by omega);have c1b:=HR.out.cellB (i:=h) (by omega)
      have c2:=HR.out.cellA (i:=m) (by omega);have c2b:=HR.out.cellB (i:=m) (by omega)
      have z:=HR.out.lt
      have k1:=hok h (by omega)
      have k2:=hok m (by omega)
      have HCM:=hidE (fun w hw => HC.out w hw (d m) (d h) k2 k1)
      clear hok
      go_wp2_with fail
      simp only [EH.out]
      by_cases hkey:K (d m) < K (d h)
      · have hd:=cmp_t hkey
        have HX:=hidE (fun x (h1:h≤x) (h2:x < m) => (by
          have:=HS.out.le (k:=h) (k':=x) (by omega) h1 h2
          omega:K (d m) < K (d x)))
        clear hkey
        generalize hx:d h = x at *
        generalize hy:d m = y at *
        have Hx:=hidE hx;have Hy:=hidE hy
        clear hx hy
        refine wp_region_past_lit (by kernel_rfl) (by kernel_rfl) ?_
        have hc:=Past.cell (W:=wr)
        repeat (go_big_quiet_step ((go_at_call 19;exact Past.call _ (HCM.out _ (HR.out.low.trans ((Past.prop _).mono (Nat.le_of_lt z)))))))
        refine wpQuiet_nil ?_
        rintro _ ⟨x',rfl⟩
        have hr2:=HR.out.past x'.2
        clear c1 c1b c2 c2b hc
        generalize x'.1 = w2 at hr2 ⊢
        have HR2:=hidE hr2;clear hr2
        go_wp2
        go_roundg (h - i)
        case measure => omega
        case rel => exact ⟨i,h,rfl,rfl,hai,by omega,by omega,by omega,HR2.out,by simpa only [Hy.out] using HL.out,by simpa only [Hy.out] using HX.out⟩
      · have hd:=cmp_f hkey
        have HX:=hidE (fun x (h1:a≤x) (h2:x < h + 1) => (by
          have:=HS.out.le (k:=x) (k':=h) h1 (by omega) (by omega)
          omega:¬ K (d m) < K (d x)))
        clear hkey
        generalize hx:d h = x at *
        generalize hy:d m = y at *
        have Hx:=hidE hx;have Hy:=hidE hy
        clear hx hy
        refine wp_region_past_lit (by kernel_rfl) (by kernel_rfl) ?_
        have hc:=Past.cell (W:=wr)
        repeat (go_big_quiet_step ((go_at_call 19;exact Past.call _ (HCM.out _ (HR.out.low.trans ((Past.prop _).mono (Nat.le_of_lt z)))))))
        refine wpQuiet_nil ?_
        rintro _ ⟨x',rfl⟩
        have hr2:=HR.out.past x'.2
        clear c1 c1b c2 c2b hc
        generalize x'.1 = w2 at hr2 ⊢
        have HR2:=hidE hr2;clear hr2
        go_wp2
        go_roundg (j - (h + 1))
        case measure => omega
        case rel => exact ⟨h + 1,j,by go_num,rfl,by omega,by omega,hjb,by omega,HR2.out,by simpa only [Hy.out] using HX.out,by simpa only [Hy.out] using HH.out⟩
    · have:i = j:=by omega
      subst this
      have hltz:¬ (i:Int) < (i:Int):=by omega
      have HB:=hidE (BubD.start' hm1 hm2 HI.out hb HS.out HL.out HH.out)
      clear HL HH
      obtain ⟨wo,rfl⟩:∃ wo:World,wo = wr:=⟨_,rfl⟩
      go_wp2
      go_loopg [17] (m - i) (fun g2 vk wr2 => ∃ (k:Nat) (dk:Nat→Nat),vk = .int .i64 k∧i≤k∧k≤m∧k - i≤g2∧RowW E w0 blk n t dk wr2∧Mv a b d dk∧Inv K n dk∧BubD K a b k i dk)
      case atStart => exact ⟨m,d,rfl,by omega,by omega,by omega,HR.out,Mv.refl _ _ _,HI.out,HB.out⟩
      case round =>
        clear HR HB
        obtain ⟨k,dk,rfl,hak,hki,hg2,hr,hm,hi,hs⟩:=hrel
        have HR:=hidE hr;have HM:=hidE hm;have HJ:=hidE hi;have HB:=hidE hs
        clear hr hm hi hs
        by_cases hlt:i < k
        · obtain ⟨kp,rfl⟩:∃ q,k = q + 1:=⟨k - 1,by omega⟩
          have hltz:(i:Int) < (kp:Int) + 1:=by omega
          have HX:=hidE (⟨HJ.out.swap' kp (by omega) (HB.out.mid _ (by omega) (by omega)),HM.out.trans (Mv.swap dk (kp + 1) kp (by omega) (by omega)),HB.out.step hai (by omega) (by omega)⟩:Inv K n (sw dk (kp + 1) kp)∧Mv a b d (sw dk (kp + 1) kp)∧BubD K a b kp i (sw dk (kp + 1) kp))
          have c1:=HR.out.cellA (i:=kp) (by omega);have c1b:=HR.out.cellB (i:=kp) (by omega)
          have c2:=HR.out.cellA (i:=kp + 1) (by omega);have c2b:=HR.out.cellB (i:=kp + 1) (by omega)
          have c3:=HR.out.c2A (kp + 1) kp (by omega) (dk kp);have c3b:=HR.out.c2B (kp + 1) kp (by omega) (dk kp)
          have f1:=HR.out.freeA kp;have f1b:=HR.out.freeB kp
          have f2:=HR.out.freeA (kp + 1);have f2b:=HR.out.freeB (kp + 1)
          have HE:=hidE (HR.out.swap (kp + 1) kp).drew
          rw [if_neg (by omega)] at c3 c3b
          generalize hx:dk (kp + 1) = x at *
          generalize hy:dk kp = y at *
          have Hx:=hidE hx;have Hy:=hidE hy
          clear hx hy
          go_wp2_with fail
          go_region
          go_wp2
          go_roundg (kp - i)
          case measure => omega
          case rel => exact ⟨kp,_,by go_num,by omega,by omega,Nat.le_refl _,HE.out,HX.out.2.1,HX.out.1,HX.out.2.2⟩
        · have hltz:¬ (i:Int) < (k:Int):=by omega
          go_wp2
          go_end0
          exact ⟨rfl,dk,HR.out,HM.out,HJ.out,HB.out.done (by omega)⟩
end Go.Proofs.YthlepbbdjmmelaaGreatDoor.Pcs
namespace Go.Proofs.YthlepbbdjmmelaaGreatDoor.Pcs
open Go.ChangeShapes Go.WideShapes Go.ChangeAt Go.RowKit
variable {E:Nat→Int × Int}
attribute [local irreducible] Go.Calls
theorem sides_l {K:Nat→Int} {a s M:Nat} {d:Nat→Nat} (h1:Srt K a s d) (h2:Srt K s M d) (h3:a≤s) (sM:s≤M) (h:s = a ∨ s = M):Srt K a M d:=by
  rcases h with h | h
  · subst h;exact h2
  · subst h;exact h1
theorem fin_c {K:Nat→Int} {a M b:Nat} {dd d2 d3:Nat→Nat} (haM:a≤M) (hMb:M≤b) (m2:Mv a M dd d2) (m3:Mv M b d2 d3) (s2:Srt K a M d2) (s3:Srt K M b d3) (hx:∀ x y,a≤x→x < M→M≤y→y < b→Lx K (dd x) (dd y)):Mv a b dd d3∧Srt K a b d3 :=
  ⟨(m2.mono (Nat.le_refl _) hMb).trans (m3.mono haM (Nat.le_refl _)),srt_join (s2.congr fun k _ h2 => m3.out k (.inl h2)) s3 (cross_mv (cross_mv hx (.inl m2)) (.inr m3))⟩
def SymIH (E:Nat→Int × Int) (w0:World) (blk n cap:Nat) (t:TypeId) (K:Nat→Int) (N:Nat):Prop :=
  ∀ (w : World) (a m b : Nat) (d : Nat → Nat), b - a ≤ N → RowW E w0 blk n t d w → Inv K n d → Okd n d → a < m → m < b → b ≤ n → Srt K a m d → Srt K m b d →
    Calls Tryz.prog 50 #[.slice (some ⟨blk,0,none⟩) n cap,.int .i64 a,.int .i64 m,.int .i64 b,.func (.func 19) #[] #[]] w (SrtTo E w0 blk n t K a b d)
theorem SymIH.app {w0:World} {blk n cap:Nat} {t:TypeId} {K:Nat→Int} {N:Nat} (h:SymIH E w0 blk n cap t K N) {w:World} {a m b:Nat} {d:Nat→Nat} (h1:b - a≤N) (h2:RowW E w0 blk n t d w) (h3:Inv K n d) (h4:Okd n d) (h5:a < m) (h6:m < b) (h7:b≤n) (h8:Srt K a m d) (h9:Srt K m b d) :
    Calls Tryz.prog 50 #[.slice (some ⟨blk,0,none⟩) n cap,.int .i64 a,.int .i64 m,.int .i64 b,.func (.func 19) #[] #[]] w (SrtTo E w0 blk n t K a b d) :=
  h w a m b d h1 h2 h3 h4 h5 h6 h7 h8 h9
def Srch (K:Nat→Int) (d:Nat→Nat) (P s0 i j r0:Nat):Prop :=
  (∀ c,s0≤c→c < i→¬ K (d (P - c)) < K (d c))∧(∀ c,j≤c→c < r0→K (d (P - c)) < K (d c))
theorem Srch.start (K:Nat→Int) (d:Nat→Nat) (P s0 r0:Nat):Srch K d P s0 s0 r0 r0:=⟨fun c h1 h2 => by omega,fun c h1 h2 => by omega⟩
theorem Srch.up {K:Nat→Int} {d:Nat→Nat} {P s0 i j r0 h a m b:Nat} (hS:Srch K d P s0 i j r0) (h1:Srt K a m d) (h2:Srt K m b d) (q0:a≤s0) (q1:h < m) (q2:m≤P - h) (q3:P - s0 < b) (_q4:s0≤h) (hk:¬ K (d (P - h)) < K (d h)):Srch K d P s0 (h + 1) j r0 :=
  ⟨fun c g1 g2 => by
    have e1:=h1.le (k:=c) (k':=h) (by omega) (by omega) q1
    have e2:=h2.le (k:=P - h) (k':=P - c) q2 (by omega) (by omega)
    omega,hS.2⟩
theorem Srch.dn {K:Nat→Int} {d:Nat→Nat} {P s0 i j r0 h a m b:Nat} (hS:Srch K d P s0 i j r0) (h1:Srt K a m d) (h2:Srt K m b d) (q0:a≤h) (q1:r0≤m) (q2:m + r0≤P + 1) (q3:P - h < b) (hk:K (d (P - h)) < K (d h)):Srch K d P s0 i h r0 :=
  ⟨hS.1,fun c g1 g2 => by
    have e1:=h1.le (k:=h) (k':=c) q0 (by omega) (by omega)
    have e2:=h2.le (k:=P - c) (k':=P - h) (by omega) (by omega) (by omega)
    omega⟩
theorem Srch.cut {K:Nat→Int} {d:Nat→Nat} {s0 i r0 a m b M:Nat} (hS:Srch K d (M + m - 1) s0 i i r0) (hM:(a + b) / 2 = M) (hs:s0≤i) (hr:i≤r0) (am:a < m) (mb:m < b) (hc:(M < m∧s0 + b = M + m∧r0 = M) ∨ (m≤M∧s0 = a∧r0 = m)):Cut K a m b i d:=by
  obtain ⟨s1,s2⟩:=hS
  refine ⟨by omega,by omega,by omega,by omega,by omega, ?_, ?_⟩
  · intro h1 h2
    have:=s1 (i - 1) (by omega) (by omega)
    rw [show (a + b) / 2 + m - i = M + m - 1 - (i - 1) by omega]
    exact this
  · intro h1 h2
    have:=s2 i (by omega) (by omega)
    rw [show (a + b) / 2 + m - i - 1 = M + m - 1 - i by omega]
    exact this
set_option maxRecDepth 100000 in
set_option maxHeartbeats 16000000 in
theorem symMerge_mid (w0 w:World) (blk n cap a m b N M s0 r0:Nat) (t:TypeId) (K:Nat→Int) (d:Nat→Nat) (h:RowW E w0 blk n t d w) (hC:Cmps E w0 blk n K) (hI:Inv K n d) (hO:Okd n d) (ham:a + 1 < m) (hmb:m + 1 < b) (hb:b≤n) (hn:n≤4611686018427387904)
    (hs1:Srt K a m d) (hs2:Srt K m b d) (ih:SymIH E w0 blk n cap t K N) (hN:b - a≤N + 1) (hM:(a + b) / 2 = M) (hc:(M < m∧s0 + b = M + m∧r0 = M) ∨ (m≤M∧s0 = a∧r0 = m)) :
    Calls Tryz.prog 50 #[.slice (some ⟨blk,0,none⟩) n cap,.int .i64 a,.int .i64 m,.int .i64 b,.func (.func 19) #[] #[]] w (SrtTo E w0 blk n t K a b d):=by
  have H:=hidE h;have HC:=hidE hC;have HI:=hidE hI;have HO:=hidE hO;have HS1:=hidE hs1;have HS2:=hidE hs2;have IH:=hidE ih
  have hMa:a < M:=by omega
  have hMb:M < b:=by omega
  have hM2:2 * M≤a + b:=by omega
  have hM3:a + b≤2 * M + 1:=by omega
  have EM:=hidE (show ((a:Int) + (b:Int)) / 2 = (M:Int) by omega)
  have HM:=hidE hM
  have hP:∃ P,P = M + m - 1:=⟨_,rfl⟩
  obtain ⟨P,hP⟩:=hP
  have EP:=hidE (show (M:Int) + (m:Int) - 1 = (P:Int) by omega)
  have HP:=hidE hP
  have hPm:P + 1 = M + m:=by omega
  have HPM:=hidE hPm
  have b1:P + 1≤M + m:=by omega
  have b2:M + m≤P + 1:=by omega
  have hq1:a≤s0:=by omega
  have hq2:s0≤r0:=by omega
  have hq3:r0≤m:=by omega
  have hq4:m + r0≤P + 1:=by omega
  have hq5:P < b + s0:=by omega
  have HCC:=hidE hc
  clear h hC hI hO hs1 hs2 ih hM hP hPm
  have e0:((m:Int) - (a:Int) == 1) = false:=beq_eq_false_iff_ne.2 (by omega)
  have e1:((b:Int) - (m:Int) == 1) = false:=beq_eq_false_iff_ne.2 (by omega)
  rcases hc with hc | hc
  all_goals
    obtain ⟨hc1,hc2,hc3⟩:=hc
    have hct:((M:Int) < (m:Int)) ∨ ¬ ((M:Int) < (m:Int)):=by omega
    have HC2:=hidE hc2;have HC3:=hidE hc3
    clear hc2 hc3 hct
    go_enter Tryz.func50,Tryz.ntmps50
    go_upto_region 25 with fail
    simp only [EM.out]
    go_upto_region 33 with fail
    simp only [EP.out]
    go_loopg [20,21] b (fun g1 vi vj wr => ∃ (i j:Nat),vi = .int .i64 i∧vj = .int .i64 j∧s0≤i∧i≤j∧j≤r0∧j - i≤g1∧RowW E w0 blk n t d wr∧Srch K d P s0 i j r0)
    case atStart => exact ⟨s0,r0,by have:=HC2.out;go_num,by have:=HC3.out;go_num,by omega,by omega,by omega,by omega,H.out,Srch.start _ _ _ _ _⟩
    case round =>
      obtain ⟨i,j,rfl,rfl,hai,hij,hjb,hg1,hr,hlo⟩:=hrel
      have HR:=hidE hr;have HL:=hidE hlo
      clear hr hlo
      by_cases hlt:i < j
      · have hltz:(i:Int) < (j:Int):=by omega
        obtain ⟨h,eh⟩:∃ h:Nat,((i:Int) + (j:Int)) / 2 = (h:Int):=⟨(i + j) / 2,by omega⟩
        have hih:i≤h:=by omega
        have hhj:h < j:=by omega
        have EH:=hidE eh;clear eh
        obtain ⟨q,hq⟩:∃ q,q = P - h:=⟨_,rfl⟩
        have eq1:IntKind.i64.wrap ((P:Int) - (h:Int)) = (q:Int):=by rw [IntKind.wrap_i64];omega
        have hok:=HO.out
        have c1:=HR.out.cellA (i:=h) (by omega);have c1b:=HR.out.cellB (i:=h) (by omega)
        have c2:=HR.out.cellA (i:=q) (by omega);have c2b:=HR.out.cellB (i:=q) (by omega)
        have z:=HR.out.lt
        have k1:=hok h (by omega)
        have k2:=hok q (by omega)
        have HCM:=hidE (fun w hw => HC.out w hw (d q) (d h) k2 k1)
        have hqn:q < n:=by omega
        clear hok
        go_wp2_with fail
        simp only [EH.out]
        have EQ1:=hidE eq1;clear eq1
        by_cases hkey:K (d q) < K (d h)
        · have hd:=cmp_t hkey
          have HX:=hidE (HL.out.dn HS1.out HS2.out (h:=h) (by omega) hq3 hq4 (by omega) (by rw [← hq];exact hkey))
          have HQ:=hidE hq
          clear hkey hq
          generalize hx:d h = x at *
          generalize hy:d q = y at *
          have Hx:=hidE hx;have Hy:=hidE hy
          clear hx hy
          have eq1:=EQ1.out
          refine wp_region_past_lit (by kernel_rfl) (by kernel_rfl) ?_
          have hc:=Past.cell (W:=wr)
          repeat (go_big_quiet_step ((go_at_call 19;exact Past.call _ (HCM.out _ (HR.out.low.trans ((Past.prop _).mono (Nat.le_of_lt z)))))))
          refine wpQuiet_nil ?_
          rintro _ ⟨x',rfl⟩
          have hr2:=HR.out.past x'.2
          clear c1 c1b c2 c2b hc eq1
          generalize x'.1 = w2 at hr2 ⊢
          have HR2:=hidE hr2;clear hr2
          go_wp2
          go_roundg (h - i)
          case measure => omega
          case rel => exact ⟨i,h,rfl,rfl,hai,by omega,by omega,by omega,HR2.out,HX.out⟩
        · have hd:=cmp_f hkey
          have HX:=hidE (HL.out.up HS1.out HS2.out (h:=h) hq1 (by omega) (by omega) (by omega) (by omega) (by rw [← hq];exact hkey))
          have HQ:=hidE hq
          clear hkey hq
          generalize hx:d h = x at *
          generalize hy:d q = y at *
          have Hx:=hidE hx;have Hy:=hidE hy
          clear hx hy
          have eq1:=EQ1.out
          refine wp_region_past_lit (by kernel_rfl) (by kernel_rfl) ?_
          have hc:=Past.cell (W:=wr)
          repeat (go_big_quiet_step ((go_at_call 19;exact Past.call _ (HCM.out _ (HR.out.low.trans ((Past.prop _).mono (Nat.le_of_lt z)))))))
          refine wpQuiet_nil ?_
          rintro _ ⟨x',rfl⟩
          have hr2:=HR.out.past x'.2
          clear c1 c1b c2 c2b hc eq1
          generalize x'.1 = w2 at hr2 ⊢
          have HR2:=hidE hr2;clear hr2
          go_wp2
          go_roundg (j - (h + 1))
          case measure => omega
          case rel => exact ⟨h + 1,j,by go_num,rfl,by omega,by omega,hjb,by omega,HR2.out,HX.out⟩
      · have:i = j:=by omega
        subst this
        have hltz:¬ (i:Int) < (i:Int):=by omega
        have hl:=HL.out
        rw [HP.out] at hl
        have hcut:=hl.cut HM.out hai hjb (by omega) (by omega) HCC.out
        have hcu:=hcut.rotated HI.out hb HS1.out HS2.out
        have f1:=hcut.as;have f2:=hcut.sm;have f3:=hcut.smid;have f4:=hcut.me;have f5:=hcut.eb
        rw [HM.out] at hcu f3 f4 f5
        obtain ⟨E,hE⟩:∃ E,E = M + m - i:=⟨_,rfl⟩
        rw [← hE] at hcu f4 f5
        have EE:=hidE (show (M:Int) + (m:Int) - (i:Int) = (E:Int) by omega)
        have hE1:E + i≤M + m:=by omega
        have hE2:M + m≤E + i:=by omega
        obtain ⟨u0,u1,u2,u3,u4,u5⟩:=hcu
        have hmv:=Mv.rot d f2 f4
        have U0:=hidE u0;have U1:=hidE u1;have U2:=hidE u2;have U3:=hidE u3;have U4:=hidE u4;have U5:=hidE u5
        have UO:=hidE (HO.out.mv hmv (by omega))
        have UM:=hidE (hmv.mono f1 f5)
        clear u0 u1 u2 u3 u4 u5 hl hcut hE HL hmv
        go_upto_region 39 with fail
        simp only [EE.out]
        clear hltz
        by_cases hA:i < m
        · by_cases hB:m < E
          · by_cases hC:a < i
            · by_cases hD:E < b
              · have hE:i < M:=by omega
                have hF:M < E:=by omega
                have tA:((i:Int) < (m:Int)):=by omega
                have tB:((m:Int) < (E:Int)):=by omega
                have tC:((a:Int) < (i:Int)):=by omega
                have tD:((E:Int) < (b:Int)):=by omega
                have tE:((i:Int) < (M:Int)):=by omega
                have tF:((M:Int) < (E:Int)):=by omega
                go_wp2_with (go_at_call 74;((with_reducible refine (rotate_c w0 _ blk n cap i m E t d _ HR.out hA hB (by omega) hn).mono ?_);rintro e w1 ⟨rfl,hr1⟩))
                clear HR
                have R1:=hidE hr1;clear hr1
                try go_wp2_with fail
                ((with_reducible refine (IH.out.app (a:=a) (m:=i) (b:=M) (by omega) R1.out U0.out UO.out hC hE (by omega) U1.out U2.out).mono ?_);rintro e w2 ⟨rfl,d2,hr2,hm2,hi2,hs2⟩)
                have o2:=UO.out.mv hm2 (by omega)
                have R2:=hidE hr2;have M2:=hidE hm2;have I2:=hidE hi2;have S2:=hidE hs2;have O2:=hidE o2;clear hr2 hm2 hi2 hs2 o2
                go_wp2_with fail
                have x3:=U3.out.congr fun k (q1:M≤k) (q2:k < E) => M2.out.out k (.inr q1)
                have x4:=U4.out.congr fun k (q1:E≤k) (q2:k < b) => M2.out.out k (.inr (by omega))
                have X3:=hidE x3;have X4:=hidE x4;clear x3 x4
                ((with_reducible refine (IH.out.app (a:=M) (m:=E) (b:=b) (by omega) R2.out I2.out O2.out hF hD hb X3.out X4.out).mono ?_);rintro e w3 ⟨rfl,d3,hr3,hm3,hi3,hs3⟩)
                have R3:=hidE hr3;have M3:=hidE hm3;have I3:=hidE hi3;have S3:=hidE hs3;clear hr3 hm3 hi3 hs3
                go_wp2
                all_goals go_end0
                all_goals obtain ⟨y1,y2⟩:=fin_c (Nat.le_of_lt hMa) (Nat.le_of_lt hMb) M2.out M3.out S2.out S3.out U5.out
                all_goals exact ⟨rfl,_,R3.out,UM.out.trans y1,I3.out,y2⟩
              · have hE:i < M:=by omega
                have hF:M < E:=by omega
                have tA:((i:Int) < (m:Int)):=by omega
                have tB:((m:Int) < (E:Int)):=by omega
                have tC:((a:Int) < (i:Int)):=by omega
                have tD:¬ ((E:Int) < (b:Int)):=by omega
                have tE:((i:Int) < (M:Int)):=by omega
                have tF:((M:Int) < (E:Int)):=by omega
                go_wp2_with (go_at_call 74;((with_reducible refine (rotate_c w0 _ blk n cap i m E t d _ HR.out hA hB (by omega) hn).mono ?_);rintro e w1 ⟨rfl,hr1⟩))
                clear HR
                have R1:=hidE hr1;clear hr1
                try go_wp2_with fail
                ((with_reducible refine (IH.out.app (a:=a) (m:=i) (b:=M) (by omega) R1.out U0.out UO.out hC hE (by omega) U1.out U2.out).mono ?_);rintro e w2 ⟨rfl,d2,hr2,hm2,hi2,hs2⟩)
                have o2:=UO.out.mv hm2 (by omega)
                have R2:=hidE hr2;have M2:=hidE hm2;have I2:=hidE hi2;have S2:=hidE hs2;have O2:=hidE o2;clear hr2 hm2 hi2 hs2 o2
                go_wp2
                all_goals go_end0
                all_goals obtain ⟨y1,y2⟩:=fin_c (Nat.le_of_lt hMa) (Nat.le_of_lt hMb) M2.out (Mv.refl _ _ _) S2.out (sides_l (U3.out.congr fun k (q1:M≤k) (q2:k < E) => M2.out.out k (.inr q1)) (U4.out.congr fun k (q1:E≤k) (q2:k < b) => M2.out.out k (.inr (by omega))) (by omega) f5 (by omega)) U5.out
                all_goals exact ⟨rfl,_,R2.out,UM.out.trans y1,I2.out,y2⟩
            · by_cases hD:E < b
              · have hE:i < M:=by omega
                have hF:M < E:=by omega
                have tA:((i:Int) < (m:Int)):=by omega
                have tB:((m:Int) < (E:Int)):=by omega
                have tC:¬ ((a:Int) < (i:Int)):=by omega
                have tD:((E:Int) < (b:Int)):=by omega
                have tE:((i:Int) < (M:Int)):=by omega
                have tF:((M:Int) < (E:Int)):=by omega
                go_wp2_with (go_at_call 74;((with_reducible refine (rotate_c w0 _ blk n cap i m E t d _ HR.out hA hB (by omega) hn).mono ?_);rintro e w1 ⟨rfl,hr1⟩))
                clear HR
                have R1:=hidE hr1;clear hr1
                try go_wp2_with fail
                have x3:=U3.out;have x4:=U4.out
                have X3:=hidE x3;have X4:=hidE x4;clear x3 x4
                ((with_reducible refine (IH.out.app (a:=M) (m:=E) (b:=b) (by omega) R1.out U0.out UO.out hF hD hb X3.out X4.out).mono ?_);rintro e w3 ⟨rfl,d3,hr3,hm3,hi3,hs3⟩)
                have R3:=hidE hr3;have M3:=hidE hm3;have I3:=hidE hi3;have S3:=hidE hs3;clear hr3 hm3 hi3 hs3
                go_wp2
                all_goals go_end0
                all_goals obtain ⟨y1,y2⟩:=fin_c (Nat.le_of_lt hMa) (Nat.le_of_lt hMb) (Mv.refl _ _ _) M3.out (sides_l U1.out U2.out f1 f3 (by omega)) S3.out U5.out
                all_goals exact ⟨rfl,_,R3.out,UM.out.trans y1,I3.out,y2⟩
              · have hE:i < M:=by omega
                have hF:M < E:=by omega
                have tA:((i:Int) < (m:Int)):=by omega
                have tB:((m:Int) < (E:Int)):=by omega
                have tC:¬ ((a:Int) < (i:Int)):=by omega
                have tD:¬ ((E:Int) < (b:Int)):=by omega
                have tE:((i:Int) < (M:Int)):=by omega
                have tF:((M:Int) < (E:Int)):=by omega
                go_wp2_with (go_at_call 74;((with_reducible refine (rotate_c w0 _ blk n cap i m E t d _ HR.out hA hB (by omega) hn).mono ?_);rintro e w1 ⟨rfl,hr1⟩))
                clear HR
                have R1:=hidE hr1;clear hr1
                try go_wp2
                all_goals go_end0
                all_goals obtain ⟨y1,y2⟩:=fin_c (Nat.le_of_lt hMa) (Nat.le_of_lt hMb) (Mv.refl _ _ _) (Mv.refl _ _ _) (sides_l U1.out U2.out f1 f3 (by omega)) (sides_l U3.out U4.out (by omega) f5 (by omega)) U5.out
                all_goals exact ⟨rfl,_,R1.out,UM.out.trans y1,U0.out,y2⟩
          · by_cases hC:a < i
            · by_cases hD:E < b
              · have hF:M < E:=by omega
                have tA:((i:Int) < (m:Int)):=by omega
                have tB:¬ ((m:Int) < (E:Int)):=by omega
                have tC:((a:Int) < (i:Int)):=by omega
                have tD:((E:Int) < (b:Int)):=by omega
                have tE:¬ ((i:Int) < (M:Int)):=by omega
                have tF:((M:Int) < (E:Int)):=by omega
                have hr1:=HR.out.ext (rot_none f2 f4 (by omega)).symm
                clear HR
                have R1:=hidE hr1;clear hr1
                go_wp2_with fail
                have x3:=U3.out;have x4:=U4.out
                have X3:=hidE x3;have X4:=hidE x4;clear x3 x4
                ((with_reducible refine (IH.out.app (a:=M) (m:=E) (b:=b) (by omega) R1.out U0.out UO.out hF hD hb X3.out X4.out).mono ?_);rintro e w3 ⟨rfl,d3,hr3,hm3,hi3,hs3⟩)
                have R3:=hidE hr3;have M3:=hidE hm3;have I3:=hidE hi3;have S3:=hidE hs3;clear hr3 hm3 hi3 hs3
                go_wp2
                all_goals go_end0
                all_goals obtain ⟨y1,y2⟩:=fin_c (Nat.le_of_lt hMa) (Nat.le_of_lt hMb) (Mv.refl _ _ _) M3.out (sides_l U1.out U2.out f1 f3 (by omega)) S3.out U5.out
                all_goals exact ⟨rfl,_,R3.out,UM.out.trans y1,I3.out,y2⟩
              · have hF:M < E:=by omega
                have tA:((i:Int) < (m:Int)):=by omega
                have tB:¬ ((m:Int) < (E:Int)):=by omega
                have tC:((a:Int) < (i:Int)):=by omega
                have tD:¬ ((E:Int) < (b:Int)):=by omega
                have tE:¬ ((i:Int) < (M:Int)):=by omega
                have tF:((M:Int) < (E:Int)):=by omega
                have hr1:=HR.out.ext (rot_none f2 f4 (by omega)).symm
                clear HR
                have R1:=hidE hr1;clear hr1
                go_wp2
                all_goals go_end0
                all_goals obtain ⟨y1,y2⟩:=fin_c (Nat.le_of_lt hMa) (Nat.le_of_lt hMb) (Mv.refl _ _ _) (Mv.refl _ _ _) (sides_l U1.out U2.out f1 f3 (by omega)) (sides_l U3.out U4.out (by omega) f5 (by omega)) U5.out
                all_goals exact ⟨rfl,_,R1.out,UM.out.trans y1,U0.out,y2⟩
            · by_cases hD:E < b
              · have hF:M < E:=by omega
                have tA:((i:Int) < (m:Int)):=by omega
                have tB:¬ ((m:Int) < (E:Int)):=by omega
                have tC:¬ ((a:Int) < (i:Int)):=by omega
                have tD:((E:Int) < (b:Int)):=by omega
                have tE:¬ ((i:Int) < (M:Int)):=by omega
                have tF:((M:Int) < (E:Int)):=by omega
                have hr1:=HR.out.ext (rot_none f2 f4 (by omega)).symm
                clear HR
                have R1:=hidE hr1;clear hr1
                go_wp2_with fail
                have x3:=U3.out;have x4:=U4.out
                have X3:=hidE x3;have X4:=hidE x4;clear x3 x4
                ((with_reducible refine (IH.out.app (a:=M) (m:=E) (b:=b) (by omega) R1.out U0.out UO.out hF hD hb X3.out X4.out).mono ?_);rintro e w3 ⟨rfl,d3,hr3,hm3,hi3,hs3⟩)
                have R3:=hidE hr3;have M3:=hidE hm3;have I3:=hidE hi3;have S3:=hidE hs3;clear hr3 hm3 hi3 hs3
                go_wp2
                all_goals go_end0
                all_goals obtain ⟨y1,y2⟩:=fin_c (Nat.le_of_lt hMa) (Nat.le_of_lt hMb) (Mv.refl _ _ _) M3.out (sides_l U1.out U2.out f1 f3 (by omega)) S3.out U5.out
                all_goals exact ⟨rfl,_,R3.out,UM.out.trans y1,I3.out,y2⟩
              · have hF:M < E:=by omega
                have tA:((i:Int) < (m:Int)):=by omega
                have tB:¬ ((m:Int) < (E:Int)):=by omega
                have tC:¬ ((a:Int) < (i:Int)):=by omega
                have tD:¬ ((E:Int) < (b:Int)):=by omega
                have tE:¬ ((i:Int) < (M:Int)):=by omega
                have tF:((M:Int) < (E:Int)):=by omega
                have hr1:=HR.out.ext (rot_none f2 f4 (by omega)).symm
                clear HR
                have R1:=hidE hr1;clear hr1
                go_wp2
                all_goals go_end0
                all_goals obtain ⟨y1,y2⟩:=fin_c (Nat.le_of_lt hMa) (Nat.le_of_lt hMb) (Mv.refl _ _ _) (Mv.refl _ _ _) (sides_l U1.out U2.out f1 f3 (by omega)) (sides_l U3.out U4.out (by omega) f5 (by omega)) U5.out
                all_goals exact ⟨rfl,_,R1.out,UM.out.trans y1,U0.out,y2⟩
        · by_cases hB:m < E
          · by_cases hC:a < i
            · by_cases hD:E < b
              · have hE:i < M:=by omega
                have tA:¬ ((i:Int) < (m:Int)):=by omega
                have tB:((m:Int) < (E:Int)):=by omega
                have tC:((a:Int) < (i:Int)):=by omega
                have tD:((E:Int) < (b:Int)):=by omega
                have tE:((i:Int) < (M:Int)):=by omega
                have tF:¬ ((M:Int) < (E:Int)):=by omega
                have hr1:=HR.out.ext (rot_none f2 f4 (by omega)).symm
                clear HR
                have R1:=hidE hr1;clear hr1
                go_wp2_with fail
                ((with_reducible refine (IH.out.app (a:=a) (m:=i) (b:=M) (by omega) R1.out U0.out UO.out hC hE (by omega) U1.out U2.out).mono ?_);rintro e w2 ⟨rfl,d2,hr2,hm2,hi2,hs2⟩)
                have o2:=UO.out.mv hm2 (by omega)
                have R2:=hidE hr2;have M2:=hidE hm2;have I2:=hidE hi2;have S2:=hidE hs2;have O2:=hidE o2;clear hr2 hm2 hi2 hs2 o2
                go_wp2
                all_goals go_end0
                all_goals obtain ⟨y1,y2⟩:=fin_c (Nat.le_of_lt hMa) (Nat.le_of_lt hMb) M2.out (Mv.refl _ _ _) S2.out (sides_l (U3.out.congr fun k (q1:M≤k) (q2:k < E) => M2.out.out k (.inr q1)) (U4.out.congr fun k (q1:E≤k) (q2:k < b) => M2.out.out k (.inr (by omega))) (by omega) f5 (by omega)) U5.out
                all_goals exact ⟨rfl,_,R2.out,UM.out.trans y1,I2.out,y2⟩
              · have hE:i < M:=by omega
                have tA:¬ ((i:Int) < (m:Int)):=by omega
                have tB:((m:Int) < (E:Int)):=by omega
                have tC:((a:Int) < (i:Int)):=by omega
                have tD:¬ ((E:Int) < (b:Int)):=by omega
                have tE:((i:Int) < (M:Int)):=by omega
                have tF:¬ ((M:Int) < (E:Int)):=by omega
                have hr1:=HR.out.ext (rot_none f2 f4 (by omega)).symm
                clear HR
                have R1:=hidE hr1;clear hr1
                go_wp2_with fail
                ((with_reducible refine (IH.out.app (a:=a) (m:=i) (b:=M) (by omega) R1.out U0.out UO.out hC hE (by omega) U1.out U2.out).mono ?_);rintro e w2 ⟨rfl,d2,hr2,hm2,hi2,hs2⟩)
                have o2:=UO.out.mv hm2 (by omega)
                have R2:=hidE hr2;have M2:=hidE hm2;have I2:=hidE hi2;have S2:=hidE hs2;have O2:=hidE o2;clear hr2 hm2 hi2 hs2 o2
                go_wp2
                all_goals go_end0
                all_goals obtain ⟨y1,y2⟩:=fin_c (Nat.le_of_lt hMa) (Nat.le_of_lt hMb) M2.out (Mv.refl _ _ _) S2.out (sides_l (U3.out.congr fun k (q1:M≤k) (q2:k < E) => M2.out.out k (.inr q1)) (U4.out.congr fun k (q1:E≤k) (q2:k < b) => M2.out.out k (.inr (by omega))) (by omega) f5 (by omega)) U5.out
                all_goals exact ⟨rfl,_,R2.out,UM.out.trans y1,I2.out,y2⟩
            · by_cases hD:E < b
              · have hE:i < M:=by omega
                have tA:¬ ((i:Int) < (m:Int)):=by omega
                have tB:((m:Int) < (E:Int)):=by omega
                have tC:¬ ((a:Int) < (i:Int)):=by omega
                have tD:((E:Int) < (b:Int)):=by omega
                have tE:((i:Int) < (M:Int)):=by omega
                have tF:¬ ((M:Int) < (E:Int)):=by omega
                have hr1:=HR.out.ext (rot_none f2 f4 (by omega)).symm
                clear HR
                have R1:=hidE hr1;clear hr1
                go_wp2
                all_goals go_end0
                all_goals obtain ⟨y1,y2⟩:=fin_c (Nat.le_of_lt hMa) (Nat.le_of_lt hMb) (Mv.refl _ _ _) (Mv.refl _ _ _) (sides_l U1.out U2.out f1 f3 (by omega)) (sides_l U3.out U4.out (by omega) f5 (by omega)) U5.out
                all_goals exact ⟨rfl,_,R1.out,UM.out.trans y1,U0.out,y2⟩
              · have hE:i < M:=by omega
                have tA:¬ ((i:Int) < (m:Int)):=by omega
                have tB:((m:Int) < (E:Int)):=by omega
                have tC:¬ ((a:Int) < (i:Int)):=by omega
                have tD:¬ ((E:Int) < (b:Int)):=by omega
                have tE:((i:Int) < (M:Int)):=by omega
                have tF:¬ ((M:Int) < (E:Int)):=by omega
                have hr1:=HR.out.ext (rot_none f2 f4 (by omega)).symm
                clear HR
                have R1:=hidE hr1;clear hr1
                go_wp2
                all_goals go_end0
                all_goals obtain ⟨y1,y2⟩:=fin_c (Nat.le_of_lt hMa) (Nat.le_of_lt hMb) (Mv.refl _ _ _) (Mv.refl _ _ _) (sides_l U1.out U2.out f1 f3 (by omega)) (sides_l U3.out U4.out (by omega) f5 (by omega)) U5.out
                all_goals exact ⟨rfl,_,R1.out,UM.out.trans y1,U0.out,y2⟩
          · by_cases hC:a < i
            · by_cases hD:E < b
              · have tA:¬ ((i:Int) < (m:Int)):=by omega
                have tB:¬ ((m:Int) < (E:Int)):=by omega
                have tC:((a:Int) < (i:Int)):=by omega
                have tD:((E:Int) < (b:Int)):=by omega
                have tE:¬ ((i:Int) < (M:Int)):=by omega
                have tF:¬ ((M:Int) < (E:Int)):=by omega
                have hr1:=HR.out.ext (rot_none f2 f4 (by omega)).symm
                clear HR
                have R1:=hidE hr1;clear hr1
                go_wp2
                all_goals go_end0
                all_goals obtain ⟨y1,y2⟩:=fin_c (Nat.le_of_lt hMa) (Nat.le_of_lt hMb) (Mv.refl _ _ _) (Mv.refl _ _ _) (sides_l U1.out U2.out f1 f3 (by omega)) (sides_l U3.out U4.out (by omega) f5 (by omega)) U5.out
                all_goals exact ⟨rfl,_,R1.out,UM.out.trans y1,U0.out,y2⟩
              · have tA:¬ ((i:Int) < (m:Int)):=by omega
                have tB:¬ ((m:Int) < (E:Int)):=by omega
                have tC:((a:Int) < (i:Int)):=by omega
                have tD:¬ ((E:Int) < (b:Int)):=by omega
                have tE:¬ ((i:Int) < (M:Int)):=by omega
                have tF:¬ ((M:Int) < (E:Int)):=by omega
                have hr1:=HR.out.ext (rot_none f2 f4 (by omega)).symm
                clear HR
                have R1:=hidE hr1;clear hr1
                go_wp2
                all_goals go_end0
                all_goals obtain ⟨y1,y2⟩:=fin_c (Nat.le_of_lt hMa) (Nat.le_of_lt hMb) (Mv.refl _ _ _) (Mv.refl _ _ _) (sides_l U1.out U2.out f1 f3 (by omega)) (sides_l U3.out U4.out (by omega) f5 (by omega)) U5.out
                all_goals exact ⟨rfl,_,R1.out,UM.out.trans y1,U0.out,y2⟩
            · by_cases hD:E < b
              · have tA:¬ ((i:Int) < (m:Int)):=by omega
                have tB:¬ ((m:Int) < (E:Int)):=by omega
                have tC:¬ ((a:Int) < (i:Int)):=by omega
                have tD:((E:Int) < (b:Int)):=by omega
                have tE:¬ ((i:Int) < (M:Int)):=by omega
                have tF:¬ ((M:Int) < (E:Int)):=by omega
                have hr1:=HR.out.ext (rot_none f2 f4 (by omega)).symm
                clear HR
                have R1:=hidE hr1;clear hr1
                go_wp2
                all_goals go_end0
                all_goals obtain ⟨y1,y2⟩:=fin_c (Nat.le_of_lt hMa) (Nat.le_of_lt hMb) (Mv.refl _ _ _) (Mv.refl _ _ _) (sides_l U1.out U2.out f1 f3 (by omega)) (sides_l U3.out U4.out (by omega) f5 (by omega)) U5.out
                all_goals exact ⟨rfl,_,R1.out,UM.out.trans y1,U0.out,y2⟩
              · have tA:¬ ((i:Int) < (m:Int)):=by omega
                have tB:¬ ((m:Int) < (E:Int)):=by omega
                have tC:¬ ((a:Int) < (i:Int)):=by omega
                have tD:¬ ((E:Int) < (b:Int)):=by omega
                have tE:¬ ((i:Int) < (M:Int)):=by omega
                have tF:¬ ((M:Int) < (E:Int)):=by omega
                have hr1:=HR.out.ext (rot_none f2 f4 (by omega)).symm
                clear HR
                have R1:=hidE hr1;clear hr1
                go_wp2
                all_goals go_end0
                all_goals obtain ⟨y1,y2⟩:=fin_c (Nat.le_of_lt hMa) (Nat.le_of_lt hMb) (Mv.refl _ _ _) (Mv.refl _ _ _) (sides_l U1.out U2.out f1 f3 (by omega)) (sides_l U3.out U4.out (by omega) f5 (by omega)) U5.out
                all_goals exact ⟨rfl,_,R1.out,UM.out.trans y1,U0.out,y2⟩
theorem symMerge_c (w0:World) (blk n cap:Nat) (t:TypeId) (K:Nat→Int) (hC:Cmps E w0 blk n K) (hn:n≤4611686018427387904):∀ N,SymIH E w0 blk n cap t K N:=by
  intro N
  induction N with
  | zero => intro w a m b d hN _ _ _ h1 h2;omega
  | succ N ih =>
    intro w a m b d hN hR hI hO ham hmb hb hs1 hs2
    by_cases c1:m≤a + 1
    · exact symMerge_up w0 w blk n cap a m b t K d hR hC hI hO ham c1 hmb hb hn hs2
    · by_cases c2:b≤m + 1
      · exact symMerge_dn w0 w blk n cap a m b t K d hR hC hI hO (by omega) hmb c2 hb hn hs1
      · obtain ⟨M,hM⟩:∃ M,(a + b) / 2 = M:=⟨_,rfl⟩
        by_cases c3:M < m
        · exact symMerge_mid w0 w blk n cap a m b N M (M + m - b) M t K d hR hC hI hO (by omega) (by omega) hb hn hs1 hs2 ih hN hM (.inl ⟨c3,by omega,rfl⟩)
        · exact symMerge_mid w0 w blk n cap a m b N M a m t K d hR hC hI hO (by omega) (by omega) hb hn hs1 hs2 ih hN hM (.inr ⟨by omega,rfl,rfl⟩)
end Go.Proofs.YthlepbbdjmmelaaGreatDoor.Pcs
namespace Go.Proofs.YthlepbbdjmmelaaGreatDoor.Pcs
open Go.ChangeShapes Go.WideShapes Go.ChangeAt Go.RowKit
variable {E:Nat→Int × Int}
attribute [local irreducible] Go.Calls
section
variable {K:Nat→Int} {n bs a:Nat} {d d':Nat→Nat}
def Bl (K:Nat→Int) (n bs:Nat) (d:Nat→Nat):Prop:=∀ q,q * bs < n→Srt K (q * bs) (min (q * bs + bs) n) d
def Bi (K:Nat→Int) (n bs a:Nat) (d:Nat→Nat):Prop:=(∃ Q,a = Q * bs)∧∀ q,q * bs < a→Srt K (q * bs) (min (q * bs + bs) n) d
theorem lt_q {q Q x:Nat} (h:q * x < Q * x + x):q≤Q:=by
  rcases Nat.lt_or_ge Q q with c | c
  · have:=Nat.mul_le_mul_right x c
    rw [Nat.succ_mul] at this
    omega
  · exact c
theorem le_q {q Q x:Nat} (h:q < Q):q * x + x≤Q * x:=by
  have:=Nat.mul_le_mul_right x h
  rw [Nat.succ_mul] at this
  exact this
theorem bi_start (K:Nat→Int) (n bs:Nat) (d:Nat→Nat):Bi K n bs 0 d:=⟨⟨0,by simp⟩,fun q h => by omega⟩
theorem bi_step (h:Bi K n bs a d) (hn:a + bs≤n) (hm:Mv a (a + bs) d d') (hs:Srt K a (a + bs) d'):Bi K n bs (a + bs) d':=by
  obtain ⟨⟨Q,rfl⟩,h2⟩:=h
  refine ⟨⟨Q + 1,by rw [Nat.succ_mul]⟩,fun q hq => ?_⟩
  have hqQ:=lt_q hq
  rcases Nat.lt_or_ge q Q with c | c
  · have:=le_q (x:=bs) c
    by_cases z:bs = 0
    · subst z;exact srt_one _ _ _ (by omega)
    · exact (h2 q (by omega)).congr fun k q1 q2 => hm.out k (.inl (by omega))
  · have:q = Q:=by omega
    subst this
    rw [Nat.min_eq_left hn];exact hs
theorem bi_end (h:Bi K n bs a d) (hn:n < a + bs) (hm:Mv a n d d') (hs:Srt K a n d'):Bl K n bs d':=by
  obtain ⟨⟨Q,rfl⟩,h2⟩:=h
  intro q hq
  have hqQ:=lt_q (Nat.lt_trans hq hn)
  rcases Nat.lt_or_ge q Q with c | c
  · have:=le_q (x:=bs) c
    by_cases z:bs = 0
    · subst z;exact srt_one _ _ _ (by omega)
    · exact (h2 q (by omega)).congr fun k q1 q2 => hm.out k (.inl (by omega))
  · have:q = Q:=by omega
    subst this
    exact hs.mono (Nat.le_refl _) (Nat.min_le_right _ _)
def Bu (K:Nat→Int) (n bs a:Nat) (d:Nat→Nat):Prop:=Bi K n (2 * bs) a d∧∀ q,a≤q * bs→q * bs < n→Srt K (q * bs) (min (q * bs + bs) n) d
theorem bu_start (h:Bl K n bs d):Bu K n bs 0 d:=⟨bi_start K n _ d,fun q _ h2 => h q h2⟩
theorem dbl (Q bs:Nat):Q * (2 * bs) = (2 * Q) * bs:=by rw [← Nat.mul_assoc,Nat.mul_comm Q 2]
theorem bu_parts (h:Bu K n bs a d):(a < n→Srt K a (min (a + bs) n) d)∧(a + bs < n→Srt K (a + bs) (min (a + bs + bs) n) d):=by
  obtain ⟨⟨⟨Q,hQ⟩,h1⟩,h2⟩:=h
  rw [dbl] at hQ
  refine ⟨fun c => ?_,fun c => ?_⟩
  · have:=h2 (2 * Q) (by omega) (by omega)
    rw [← hQ] at this;exact this
  · have:=h2 (2 * Q + 1) (by rw [Nat.succ_mul];omega) (by rw [Nat.succ_mul];omega)
    rw [Nat.succ_mul,← hQ] at this;exact this
theorem bu_step (h:Bu K n bs a d) (hn:a + 2 * bs≤n) (hm:Mv a (a + 2 * bs) d d') (hs:Srt K a (a + 2 * bs) d'):Bu K n bs (a + 2 * bs) d' :=
  ⟨bi_step h.1 hn hm hs,fun q h1 h2 => (h.2 q (by omega) h2).congr fun k q1 q2 => hm.out k (.inr (by omega))⟩
theorem bu_end (h:Bu K n bs a d) (hn:n < a + 2 * bs) (hm:Mv a n d d') (hs:Srt K a n d'):Bl K n (2 * bs) d':=bi_end h.1 hn hm hs
theorem bu_end0 (h:Bu K n bs a d) (hn:n < a + 2 * bs) (h2:n≤a + bs):Bl K n (2 * bs) d:=by
  refine bi_end h.1 hn (Mv.refl _ _ _) ?_
  by_cases c:a < n
  · have:=(bu_parts h).1 c
    rw [Nat.min_eq_right h2] at this;exact this
  · exact srt_one _ _ _ (by omega)
theorem bl_whole (h:Bl K n bs d) (hn:n≤bs):Srt K 0 n d:=by
  by_cases c:0 < n
  · have:=h 0 (by omega)
    simp only [Nat.zero_mul,Nat.zero_add] at this
    rw [Nat.min_eq_right hn] at this;exact this
  · exact srt_one _ _ _ (by omega)
end
theorem insertion_eq {w0 w:World} {blk n cap a b:Nat} {x y:Int} {t:TypeId} {K:Nat→Int} {d:Nat→Nat} (h:RowW E w0 blk n t d w) (hC:Cmps E w0 blk n K) (hI:Inv K n d) (hO:Okd n d) (hx:x = a) (hy:y = b) (hab:a≤b) (hb:b≤n) (hn:n≤4611686018427387904) :
    Calls Tryz.prog 49 #[.slice (some ⟨blk,0,none⟩) n cap,.int .i64 x,.int .i64 y,.func (.func 19) #[] #[]] w (SrtTo E w0 blk n t K a b d):=by
  subst hx;subst hy;exact insertion_c w0 w blk n cap a b t K d h hC hI hO hab hb hn
theorem symMerge_eq {w0 w:World} {blk n cap a m b:Nat} {x y z:Int} {t:TypeId} {K:Nat→Int} {d:Nat→Nat} (h:RowW E w0 blk n t d w) (hC:Cmps E w0 blk n K) (hI:Inv K n d) (hO:Okd n d) (hx:x = a) (hy:y = m) (hz:z = b) (ham:a < m) (hmb:m < b) (hb:b≤n) (hn:n≤4611686018427387904) (h1:Srt K a m d) (h2:Srt K m b d) :
    Calls Tryz.prog 50 #[.slice (some ⟨blk,0,none⟩) n cap,.int .i64 x,.int .i64 y,.int .i64 z,.func (.func 19) #[] #[]] w (SrtTo E w0 blk n t K a b d):=by
  subst hx;subst hy;subst hz;exact symMerge_c w0 blk n cap t K hC hn (b - a) w a m b d (Nat.le_refl _) h hI hO ham hmb hb h1 h2
set_option maxRecDepth 100000 in
set_option maxHeartbeats 8000000 in
theorem stable_c (w0 w:World) (blk n cap:Nat) (t:TypeId) (K:Nat→Int) (d:Nat→Nat) (h:RowW E w0 blk n t d w) (hC:Cmps E w0 blk n K) (hI:Inv K n d) (hO:Okd n d) (hn:n≤2305843009213693952) :
    Calls Tryz.prog 33 #[.slice (some ⟨blk,0,none⟩) n cap,.int .i64 n,.func (.func 19) #[] #[]] w (SrtTo E w0 blk n t K 0 n d):=by
  have H:=hidE h;have HC:=hidE hC;have HI:=hidE hI;have HO:=hidE hO
  clear h hC hI hO
  go_enter Tryz.func33,Tryz.ntmps33
  go_wp2
  go_loopg [7,8] n (fun g1 va vb wr => ∃ (a:Nat) (dk:Nat→Nat),va = .int .i64 a∧vb = .int .i64 ((a:Int) + 20)∧a≤n∧n - a≤g1∧RowW E w0 blk n t dk wr∧Mv 0 n d dk∧Inv K n dk∧Bi K n 20 a dk)
  case atStart => exact ⟨0,d,rfl,rfl,by omega,by omega,H.out,Mv.refl _ _ _,HI.out,bi_start _ _ _ _⟩
  case round =>
    obtain ⟨a,dk,rfl,rfl,han,hg1,hr,hm,hi,hb⟩:=hrel
    have HR:=hidE hr;have HM:=hidE hm;have HJ:=hidE hi;have HB:=hidE hb
    have HOK:=hidE (HO.out.mv hm (Nat.le_refl _))
    clear hr hm hi hb
    by_cases hlt:a + 20≤n
    · have hltz:(a:Int) + 20≤(n:Int):=by omega
      go_wp2_with (go_at_call 49;((with_reducible refine (insertion_eq (a:=a) (b:=a + 20) HR.out HC.out HJ.out HOK.out rfl (by omega) (by omega) (by omega) (by omega)).mono ?_);rintro e w1 ⟨rfl,d1,hr1,hm1,hi1,hs1⟩))
      go_roundg (n - (a + 20))
      case measure => omega
      case rel => exact ⟨a + 20,d1,by go_num,by go_num,by omega,by omega,hr1,HM.out.trans (hm1.mono (by omega) (by omega)),hi1,bi_step HB.out hlt hm1 hs1⟩
    · have hltz:¬ (a:Int) + 20≤(n:Int):=by omega
      go_wp2_with (go_at_call 49;((with_reducible refine (insertion_eq (a:=a) (b:=n) HR.out HC.out HJ.out HOK.out rfl rfl (by omega) (by omega) (by omega)).mono ?_);rintro e w1 ⟨rfl,d1,hr1,hm1,hi1,hs1⟩))
      have R1:=hidE hr1;have M1:=hidE (HM.out.trans (hm1.mono (by omega) (by omega)));have I1:=hidE hi1;have B1:=hidE (bi_end HB.out (by omega) hm1 hs1)
      clear hr1 hm1 hi1 hs1 HR HM HJ HB HOK
      go_loopg [6,7,8,9] n (fun g2 vs va vb vm wr2 => ∃ (bs:Nat) (dk:Nat→Nat),vs = .int .i64 bs∧0 < bs∧bs≤2 * n + 20∧n - bs≤g2∧RowW E w0 blk n t dk wr2∧Mv 0 n d dk∧Inv K n dk∧Bl K n bs dk)
      case atStart => exact ⟨20,d1,rfl,by omega,by omega,by omega,R1.out,M1.out,I1.out,B1.out⟩
      case round =>
        clear R1 M1 I1 B1
        obtain ⟨bs,dk,rfl,hbs,hbn,hg2,hr,hm,hi,hb⟩:=hrel
        have HR:=hidE hr;have HM:=hidE hm;have HJ:=hidE hi;have HB:=hidE hb
        clear hr hm hi hb
        by_cases hlt:bs < n
        · have hltz:(bs:Int) < (n:Int):=by omega
          obtain ⟨wo,rfl⟩:∃ wo:World,wo = wr:=⟨_,rfl⟩
          go_wp2
          go_loopg [7,8] n (fun g3 va vb wr3 => ∃ (a:Nat) (dk:Nat→Nat),va = .int .i64 a∧vb = .int .i64 ((a:Int) + 2 * (bs:Int))∧a≤n∧n - a≤g3∧RowW E w0 blk n t dk wr3∧Mv 0 n d dk∧Inv K n dk∧Bu K n bs a dk)
          case atStart => exact ⟨0,dk,rfl,by go_num,by omega,by omega,HR.out,HM.out,HJ.out,bu_start HB.out⟩
          case round =>
            clear HR HM HJ HB
            obtain ⟨a,dk,rfl,rfl,han,hg3,hr,hm,hi,hb⟩:=hrel
            have HR:=hidE hr;have HM:=hidE hm;have HJ:=hidE hi;have HB:=hidE hb
            have HOK:=hidE (HO.out.mv hm (Nat.le_refl _))
            have hp:=bu_parts hb
            have HP:=hidE hp
            clear hr hm hi hb hp
            by_cases hle:a + 2 * bs≤n
            · have hlez:(a:Int) + 2 * (bs:Int)≤(n:Int):=by omega
              have x1:=HP.out.1 (by omega)
              have x2:=HP.out.2 (by omega)
              rw [Nat.min_eq_left (by omega)] at x1 x2
              have X1:=hidE x1;have X2:=hidE (x2.mono (Nat.le_refl _) (show a + 2 * bs≤a + bs + bs by omega));clear x1 x2
              go_wp2_with (go_at_call 50;((with_reducible refine (symMerge_eq (a:=a) (m:=a + bs) (b:=a + 2 * bs) HR.out HC.out HJ.out HOK.out rfl (by omega) (by omega) (by omega) (by omega) (by omega) (by omega) X1.out X2.out).mono ?_);rintro e w1 ⟨rfl,d1,hr1,hm1,hi1,hs1⟩))
              go_roundg (n - (a + 2 * bs))
              case measure => omega
              case rel => exact ⟨a + 2 * bs,d1,by go_num,by go_num,by omega,by omega,hr1,HM.out.trans (hm1.mono (by omega) (by omega)),hi1,bu_step HB.out hle hm1 hs1⟩
            · have hlez:¬ (a:Int) + 2 * (bs:Int)≤(n:Int):=by omega
              by_cases hmn:a + bs < n
              · have hmz:(a:Int) + (bs:Int) < (n:Int):=by omega
                have x1:=HP.out.1 (by omega)
                have x2:=HP.out.2 (by omega)
                rw [Nat.min_eq_left (by omega)] at x1
                rw [Nat.min_eq_right (by omega)] at x2
                have X1:=hidE x1;have X2:=hidE x2;clear x1 x2
                go_wp2_with (go_at_call 50;((with_reducible refine (symMerge_eq (a:=a) (m:=a + bs) (b:=n) HR.out HC.out HJ.out HOK.out rfl (by omega) rfl (by omega) (by omega) (by omega) (by omega) X1.out X2.out).mono ?_);rintro e w1 ⟨rfl,d1,hr1,hm1,hi1,hs1⟩))
                go_roundg (n - 2 * bs)
                case measure => omega
                case rel => exact ⟨2 * bs,d1,by go_num,by omega,by omega,by omega,hr1,HM.out.trans (hm1.mono (by omega) (by omega)),hi1,bu_end HB.out (by omega) hm1 hs1⟩
              · have hmz:¬ (a:Int) + (bs:Int) < (n:Int):=by omega
                have HZ:=hidE (bu_end0 HB.out (by omega) (by omega))
                go_wp2
                go_roundg (n - 2 * bs)
                case measure => omega
                case rel => exact ⟨2 * bs,dk,by go_num,by omega,by omega,by omega,HR.out,HM.out,HJ.out,HZ.out⟩
        · have hltz:¬ (bs:Int) < (n:Int):=by omega
          go_wp2
          go_end0
          exact ⟨rfl,dk,HR.out,HM.out,HJ.out,bl_whole HB.out (by omega)⟩
theorem sortStable_c (w0 w:World) (blk n cap:Nat) (t:TypeId) (K:Nat→Int) (d:Nat→Nat) (h:RowW E w0 blk n t d w) (hC:Cmps E w0 blk n K) (hI:Inv K n d) (hO:Okd n d) (hn:n≤2305843009213693952) :
    Calls Tryz.prog 18 #[.slice (some ⟨blk,0,none⟩) n cap,.func (.func 19) #[] #[]] w (SrtTo E w0 blk n t K 0 n d):=by
  have HK:=hidE (stable_c w0 w blk n cap t K d h hC hI hO hn)
  clear h hC hI hO
  go_enter Tryz.func18,Tryz.ntmps18
  go_wp2_with (go_at_call 33;((with_reducible refine (HK.out).mono ?_);rintro e w1 ⟨rfl,hx⟩))
  go_end0
  exact ⟨rfl,hx⟩
end Go.Proofs.YthlepbbdjmmelaaGreatDoor.Pcs
namespace Go.Proofs.YthlepbbdjmmelaaGreatDoor
section
theorem ltB_pre:∀ (h a b:List UInt8),ltB (h ++ a) (h ++ b) = ltB a b
  | [],_,_ => rfl
  | c :: h,a,b => by simp [ltB,ltB_pre h a b]
def rk (l:List (List UInt8)) (s:List UInt8):Nat:=l.countP fun u => ltB u s
theorem cnt_lt {α:Type} {p q:α→Bool}:∀ {l:List α},(∀ u ∈ l,p u = true→q u = true)→(∃ a ∈ l,q a = true∧p a = false)→l.countP p < l.countP q
  | [],_,⟨a,ha,_⟩ => by cases ha
  | u :: l, h, ⟨a, ha, h1, h2⟩ => by
    have hle:l.countP p≤l.countP q:=List.countP_mono_left fun x hx => h x (List.mem_cons_of_mem _ hx)
    rw [List.countP_cons,List.countP_cons]
    rcases List.mem_cons.1 ha with rfl | ha
    · rw [h1,h2];simp;omega
    · have ih:=cnt_lt (fun x hx => h x (List.mem_cons_of_mem _ hx)) ⟨a,ha,h1,h2⟩
      have:=h u (by simp)
      by_cases c:p u = true
      · rw [if_pos c,if_pos (this c)];omega
      · rw [if_neg c];split <;> omega
theorem rk_lt {l:List (List UInt8)} {a b:List UInt8} (ha:a ∈ l) (h:ltB a b = true):rk l a < rk l b :=
  cnt_lt (fun u _ hu => ltB_trans u a b hu h) ⟨a,ha,h,ltB_irr a⟩
theorem rk_iff {l:List (List UInt8)} {a b:List UInt8} (ha:a ∈ l) (hb:b ∈ l):(rk l a < rk l b ↔ ltB a b = true)∧(rk l a = rk l b ↔ a = b):=by
  cases h1:ltB a b with
  | true =>
    have:=rk_lt ha h1
    exact ⟨by simp [this],⟨fun e => by omega,fun e => by subst e;omega⟩⟩
  | false =>
    cases h2:ltB b a with
    | true =>
      have:=rk_lt hb h2
      exact ⟨by simp;omega,⟨fun e => by omega,fun e => by subst e;omega⟩⟩
    | false =>
      have:=ltB_total a b h1 h2
      subst this
      exact ⟨by simp,by simp⟩
def numL:Nat→List Tm→List (Tm × Nat)
  | _,[] => []
  | o,t :: l => (t,o) :: numL (o + 1) l
def insP (p:Tm × Nat):List (Tm × Nat)→List (Tm × Nat)
  | [] => [p]
  | u :: l => if ltB (txT p.1) (txT u.1) then p :: u :: l else u :: insP p l
theorem insP_fst (p:Tm × Nat):∀ l,(insP p l).map (·.1) = insG p.1 (l.map (·.1))
  | [] => rfl
  | u :: l => by
    simp only [insP,List.map_cons,insG]
    split
    · rfl
    · rw [List.map_cons,insP_fst p l]
theorem insP_mem (p q:Tm × Nat):∀ l,q ∈ insP p l→q = p ∨ q ∈ l
  | [],h => by simpa [insP] using h
  | u :: l, h => by
    rw [insP] at h
    split at h
    · simpa using h
    · rcases List.mem_cons.1 h with rfl | h
      · exact .inr (by simp)
      · rcases insP_mem p q l h with rfl | h
        · exact .inl rfl
        · exact .inr (List.mem_cons_of_mem _ h)
theorem insP_perm (p:Tm × Nat):∀ l,(insP p l).Perm (p :: l)
  | [] => List.Perm.refl _
  | u :: l => by
    rw [insP]
    split
    · exact List.Perm.refl _
    · exact ((insP_perm p l).cons u).trans (List.Perm.swap p u l)
def RP (p q:Tm × Nat):Prop:=ltB (txT p.1) (txT q.1) = true ∨ (txT p.1 = txT q.1∧p.2 < q.2)
theorem RP.anti {p q:Tm × Nat} (h:RP p q) (h2:RP q p):False:=by
  rcases h with h | ⟨h,a⟩
  · rcases h2 with h2 | ⟨h2,_⟩
    · have:=ltB_trans _ _ _ h h2;rw [ltB_irr] at this;cases this
    · rw [h2,ltB_irr] at h;cases h
  · rcases h2 with h2 | ⟨_,b⟩
    · rw [h,ltB_irr] at h2;cases h2
    · omega
theorem insP_srt (p:Tm × Nat):∀ l:List (Tm × Nat),l.Pairwise RP→(∀ q ∈ l,q.2 < p.2)→(insP p l).Pairwise RP
  | [],_,_ => List.pairwise_singleton _ _
  | u :: l, h, hp => by
    obtain ⟨h1,h2⟩:=List.pairwise_cons.1 h
    rw [insP]
    split
    · rename_i c
      refine List.pairwise_cons.2 ⟨fun q hq => ?_,h⟩
      rcases List.mem_cons.1 hq with rfl | hq
      · exact .inl c
      · rcases h1 q hq with g | ⟨g,_⟩
        · exact .inl (ltB_trans _ _ _ c g)
        · exact .inl (by rw [← g];exact c)
    · rename_i c
      refine List.pairwise_cons.2 ⟨fun q hq => ?_,insP_srt p l h2 fun q hq => hp q (List.mem_cons_of_mem _ hq)⟩
      rcases insP_mem p q l hq with rfl | hq
      · cases g:ltB (txT u.1) (txT q.1) with
        | true => exact .inl g
        | false => exact .inr ⟨ltB_total _ _ g (by simpa using c),hp u (by simp)⟩
      · exact h1 q hq
theorem foldP_fst:∀ (l a:List (Tm × Nat)),(l.foldl (fun a p => insP p a) a).map (·.1) = (l.map (·.1)).foldl (fun a t => insG t a) (a.map (·.1))
  | [],a => rfl
  | p :: l,a => by simp only [List.foldl_cons,List.map_cons,foldP_fst l,insP_fst]
theorem foldP_perm:∀ (l a:List (Tm × Nat)),(l.foldl (fun a p => insP p a) a).Perm (l ++ a)
  | [],a => List.Perm.refl _
  | p :: l, a => by
    rw [List.foldl_cons]
    exact (foldP_perm l (insP p a)).trans (((insP_perm p a).append_left l).trans List.perm_middle)
theorem foldP_srt:∀ (l:List Tm) (o:Nat) (a:List (Tm × Nat)),a.Pairwise RP→(∀ q ∈ a,q.2 < o)→((numL o l).foldl (fun a p => insP p a) a).Pairwise RP
  | [],_,a,h,_ => h
  | t :: l, o, a, h, hp => by
    refine foldP_srt l (o + 1) _ (insP_srt (t,o) a h hp) fun q hq => ?_
    rcases insP_mem _ _ _ hq with rfl | hq
    · exact Nat.lt_succ_self _
    · have:=hp q hq;omega
theorem numL_fst:∀ (l:List Tm) (o:Nat),(numL o l).map (·.1) = l
  | [],_ => rfl
  | t :: l,o => by simp only [numL,List.map_cons,numL_fst l]
theorem numL_range:∀ (l:List Tm) (o:Nat),numL o l = (List.range l.length).map fun i => (l.getD i tm0,o + i)
  | [],_ => rfl
  | t :: l, o => by
    rw [numL,numL_range l,List.length_cons,List.range_succ_eq_map,List.map_cons,List.map_map]
    congr 1
    refine List.map_congr_left fun i _ => ?_
    simp only [Function.comp,List.getD_cons_succ,Prod.mk.injEq,true_and];omega
theorem mv_perm {n:Nat} {d:Nat→Nat} (h:Mv 0 n id d):((List.range n).map d).Perm (List.range n):=by
  obtain ⟨p,q,h1,h2,h3,h4⟩:=h
  have hd:∀ k,d k = p k:=h1
  have hp:∀ k,k < n→p k < n:=fun k hk => by
    refine Nat.lt_of_not_le fun c => ?_
    have e:=h4 (p k) (.inr c)
    have:p k = k:=by rw [← h3 (p k),e,h3]
    omega
  have hq:∀ k,k < n→q k < n:=fun k hk => by
    refine Nat.lt_of_not_le fun c => ?_
    have e:=h4 (q k) (.inr c)
    rw [h2] at e;omega
  have hnd:((List.range n).map d).Nodup:=by
    refine List.Pairwise.map d (R:=(· ≠ ·)) (fun a b hab e => hab ?_) List.nodup_range
    rw [hd,hd] at e
    rw [← h3 a,e,h3]
  refine (List.perm_ext_iff_of_nodup hnd List.nodup_range).2 fun a => ?_
  simp only [List.mem_map,List.mem_range]
  exact ⟨fun ⟨k,hk,e⟩ => by rw [← e,hd];exact hp k hk,fun ha => ⟨q a,hq a ha,by rw [hd,h2]⟩⟩
theorem sort_is {L:List Tm} {n:Nat} (hn:L.length = n) {d:Nat→Nat} (hm:Mv 0 n id d) {K:Nat→Int}
    (hK:∀ i j,i < n→j < n→(K i < K j ↔ ltB (txT (L.getD i tm0)) (txT (L.getD j tm0)) = true)∧(K i = K j ↔ txT (L.getD i tm0) = txT (L.getD j tm0)))
    (hS:Srt K 0 n d):(List.range n).map (fun k => L.getD (d k) tm0) = sortG L:=by
  have hp:=mv_perm hm
  have hlt:∀ k,k < n→d k < n:=fun k hk => by
    have:=hp.mem_iff.1 (List.mem_map.2 ⟨k,List.mem_range.2 hk,rfl⟩)
    exact List.mem_range.1 this
  have e1:((numL 0 L).foldl (fun a p => insP p a) []).map (·.1) = sortG L:=by rw [foldP_fst,numL_fst];rfl
  have e2:((List.range n).map fun k => (L.getD (d k) tm0,d k)) = (numL 0 L).foldl (fun a p => insP p a) []:=by
    refine List.Perm.eq_of_pairwise (le:=RP) (fun a b _ _ h1 h2 => (h1.anti h2).elim) ?_ (foldP_srt L 0 [] List.Pairwise.nil (fun q h => by cases h)) ?_
    · rw [List.pairwise_map]
      refine List.Pairwise.imp_of_mem (R:=(· < ·)) (fun {a b} ha hb hab => ?_) List.pairwise_lt_range
      have ha:=List.mem_range.1 ha;have hb:=List.mem_range.1 hb
      obtain ⟨k1,k2⟩:=hK (d a) (d b) (hlt a ha) (hlt b hb)
      rcases hS a b (Nat.zero_le _) hab hb with h | ⟨h,h'⟩
      · exact .inl (k1.1 h)
      · exact .inr ⟨k2.1 h,h'⟩
    · refine List.Perm.trans ?_ (foldP_perm _ _).symm
      rw [List.append_nil,numL_range,hn]
      simp only [Nat.zero_add]
      have:=hp.map fun i => (L.getD i tm0,i)
      rw [List.map_map] at this
      exact this
  rw [← e1,← e2,List.map_map];rfl
theorem srt_iff (L:List Tm):(∀ i,0 < i→i < L.length→ltB (txT (L.getD i tm0)) (txT (L.getD (i - 1) tm0)) = false) ↔ srtB L = true:=by
  unfold srtB
  rw [decide_eq_true_iff]
  constructor
  · intro h
    have hs:SrtL L:=by
      have key:∀ (j i:Nat),i < j→j < L.length→ltB (txT (L.getD j tm0)) (txT (L.getD i tm0)) = false:=by
        intro j
        induction j with
        | zero => intro i h1;omega
        | succ j ih =>
          intro i h1 h2
          have h3:=h (j + 1) (by omega) h2
          rw [Nat.add_sub_cancel] at h3
          by_cases c:i = j
          · subst c;exact h3
          · exact leB_trans (ih i (by omega) (by omega)) h3
      refine List.pairwise_iff_getElem.2 fun i j hi hj hij => ?_
      have:=key j i hij hj
      rw [List.getD_eq_getElem?_getD,List.getD_eq_getElem?_getD,List.getElem?_eq_getElem hi,List.getElem?_eq_getElem hj] at this
      exact this
    rw [sortG_fix hs]
  · intro h i h1 h2
    have hs:=sortG_srt L
    have hl:=(sortG_siz L).2
    have:=List.pairwise_iff_getElem.1 hs (i - 1) i (by omega) (by omega) (by omega)
    have g:∀ j (hj:j < L.length),txT (L.getD j tm0) = txT ((sortG L)[j]'(by omega)):=fun j hj => by
      have:=congrArg (fun l => l[j]?) h
      simp only [List.getElem?_map,List.getElem?_eq_getElem hj,List.getElem?_eq_getElem (show j < (sortG L).length by omega),Option.map_some,Option.some.injEq] at this
      rw [List.getD_eq_getElem?_getD,List.getElem?_eq_getElem hj];exact this
    rw [g i h2,g (i - 1) (by omega)];exact this
end
section
open Go.ChangeShapes Go.WideShapes Go.ChangeAt Go.RowKit
attribute [local irreducible] Go.Calls
def cellsOfV:List (Int × Int)→List Value
  | [] => []
  | s :: r => .int .i64 s.1 :: .int .i64 s.2 :: cellsOfV r
theorem cellsOfV_app:∀ l r,cellsOfV (l ++ r) = cellsOfV l ++ cellsOfV r
  | [],_ => rfl
  | s :: l,r => by simp only [cellsOfV,List.cons_append,cellsOfV_app l r]
end
section
open Go.ChangeShapes Go.WideShapes Go.ChangeAt Go.RowKit
attribute [local irreducible] Go.Calls
theorem new_cellsP (w:World) (cs:Array Value) (t:TypeId) (k:Nat) (h:k = w.heap.size):∀ j u,cs.toList[j]? = some u→(w.alloc (.cells cs t)).cell? ((⟨k,0,none⟩:Addr).add j) = some u:=by
  subst h;exact new_cells w cs t
theorem ins_nil (w:World):Calls Tryz.prog 49 #[.slice none 0 0,.int .i64 0,.int .i64 0,.func (.func 19) #[] #[]] w fun e w' => e = .returned (.tuple #[])∧w' = w:=by
  go_enter Tryz.func49,Tryz.ntmps49
  go_wp2
  go_loopg [8] 0 (fun g vi wr => vi = .int .i64 1∧wr = w)
  case atStart => exact ⟨rfl,rfl⟩
  case round =>
    obtain ⟨rfl,rfl⟩:=hrel
    go_wp2
    go_end0
    exact ⟨rfl,rfl⟩
theorem stable_nil (w:World):Calls Tryz.prog 33 #[.slice none 0 0,.int .i64 0,.func (.func 19) #[] #[]] w fun e w' => e = .returned (.tuple #[])∧w' = w:=by
  have HI:=hidE ins_nil
  go_enter Tryz.func33,Tryz.ntmps33
  go_wp2
  go_loopg [7,8] 0 (fun g va vb wr => va = .int .i64 0∧vb = .int .i64 20∧wr = w)
  case atStart => exact ⟨rfl,rfl,rfl⟩
  case round =>
    obtain ⟨rfl,rfl,rfl⟩:=hrel
    go_wp2_with (go_at_call 49;((with_reducible refine (HI.out _).mono ?_);rintro e w1 ⟨rfl,rfl⟩))
    go_loopg [6] 0 (fun g va wr => va = .int .i64 20∧wr = w1)
    case atStart => exact ⟨rfl,rfl⟩
    case round =>
      obtain ⟨rfl,rfl⟩:=hrel
      go_wp2
      go_end0
      exact ⟨rfl,rfl⟩
theorem sort_nil (w:World):Calls Tryz.prog 18 #[.slice none 0 0,.func (.func 19) #[] #[]] w fun e w' => e = .returned (.tuple #[])∧w' = w:=by
  have HK:=hidE stable_nil
  go_enter Tryz.func18,Tryz.ntmps18
  go_wp2_with (go_at_call 33;((with_reducible refine (HK.out _).mono ?_);rintro e w1 ⟨rfl,rfl⟩))
  go_end0
  exact ⟨rfl,rfl⟩
theorem rowL_cells (L:List (Int × Int)):∀ k,k≤L.length→Pcs.rowL (fun j => L.getD j (0,0)) id k = cellsOfV (L.take k)
  | 0,_ => by simp [Pcs.rowL,cellsOfV]
  | k + 1, h => by
    rw [Pcs.rowL,rowL_cells L k (by omega),List.take_succ_eq_append_getElem (by omega),cellsOfV_app]
    congr 1
    simp only [id,cellsOfV]
    rw [List.getD_eq_getElem?_getD,List.getElem?_eq_getElem (by omega)]
    rfl
theorem sort_own (L:List (Int × Int)) (base g cap:Nat) (w:World) (hl:L.length≤1000) (h:w.ownsRow base 45 2 (.slice (some ⟨g,0,none⟩) L.length cap) L.length (cellsOfV L)) :
    Calls Tryz.prog 18 #[.slice (some ⟨g,0,none⟩) L.length cap,.func (.func 19) #[] #[]] w fun e w' => e = .returned (.tuple #[])∧Below base w w'∧∃ B:List (Int × Int),SliVs w' (.slice (some ⟨g,0,none⟩) L.length cap) B∧B.Perm L∧B.Pairwise fun a b => a.1≤b.1:=by
  obtain ⟨h1,h2 | ⟨g',cap',cur,e,h3,h4,h5,h6,h7,h8⟩⟩:=h
  · cases h2.1
  · simp only [Value.slice.injEq,Option.some.injEq,Addr.mk.injEq] at e
    obtain ⟨⟨rfl,_,_⟩,_,rfl⟩:=e
    have hcur:cur = Pcs.rowC (fun j => L.getD j (0,0)) L.length id ++ (cur.toList.drop (L.length * 2)).toArray:=by
      unfold Pcs.rowC
      rw [rowL_cells L _ (Nat.le_refl _),List.take_length]
      apply Array.ext'
      simp only [Array.toList_append]
      rw [← h8,List.take_append_drop]
    have hR:Pcs.RowW (fun j => L.getD j (0,0)) w g L.length 45 id w:=⟨⟨_,by rw [← hcur];exact h4⟩,Below.refl _ _⟩
    refine (Pcs.sortStable_c w w g L.length cap 45 (fun j => (L.getD j (0,0)).1) id hR (fun w' _ x y _ _ => Pcs.back1_c _ _ _ _ w') (fun k k' hk _ => .inr hk) (fun k hk => hk) (by omega)).mono ?_
    rintro e w' ⟨rfl,d',hr,hm,hi,hs⟩
    refine ⟨rfl,hr.low.mono h3,(List.range L.length).map fun i => L.getD (d' i) (0,0),⟨_,cap,by simp,by simpa using h5,by unfold maxLen at h6;omega,fun hl0 => ⟨g,0,rfl,hr.lt,fun i hi2 => ?_⟩⟩, ?_, ?_⟩
    · have hi3:i < L.length:=by simpa using hi2
      have hg:((List.range L.length).map fun i => L.getD (d' i) (0,0)).getD i (0,0) = L.getD (d' i) (0,0):=by simp [List.getD_eq_getElem?_getD,hi3]
      rw [hg]
      simp only [Nat.zero_add]
      exact ⟨hr.cellA hi3,hr.cellB hi3⟩
    · have hp:=(mv_perm hm).map fun j => L.getD j (0,0)
      rw [List.map_map] at hp
      refine hp.trans ?_
      have e:(List.range L.length).map (fun j => L.getD j (0,0)) = L:=by
        apply List.ext_getElem?
        intro i
        rw [List.getElem?_map]
        by_cases hi4:i < L.length
        · rw [List.getElem?_range hi4,List.getElem?_eq_getElem hi4]
          simp [List.getD_eq_getElem?_getD,hi4]
        · rw [List.getElem?_eq_none (by simpa using hi4),List.getElem?_eq_none (by omega)];rfl
      rw [e]
    · rw [List.pairwise_map]
      refine (List.pairwise_lt_range).imp_of_mem fun {a b} ha hb hab => ?_
      have:=hs.le (k:=a) (k':=b) (Nat.zero_le _) (by omega) (by simpa using hb)
      simpa using this
structure BackOk (k:List Nat) (W B:List (Int × Int)):Prop where
  ins:∀ p ∈ W,0≤p.1∧p.1 < (k.length:Int)
  prm:B.Perm (W.map fun p => (((k.getD p.1.toNat 0:Nat):Int),p.2))
  srt:B.Pairwise fun a b => a.1≤b.1
set_option maxRecDepth 100000 in
theorem Tryz.infoPcB:(Tryz.prog.info? 45).map (fun i => (i.zero,i.size,i.bytes)) = some (some (.agg #[.int .i64 0,.int .i64 0]),2,16):=by kernel_rfl
set_option maxRecDepth 100000 in
theorem Tryz.infoBool:(Tryz.prog.info? 4).map (fun i => (i.zero,i.size,i.bytes)) = some (some (.bool false),1,1):=by kernel_rfl
theorem made_bools (n:Nat):madeCells (Value.bool false).cells (n * 1) = ((List.replicate n false).map Value.bool).toArray:=by
  apply Array.ext'
  have:=toList_madeCells_one (Value.bool false) n
  rw [Nat.mul_one,show (Value.bool false).cells = #[.bool false] from rfl,this]
  simp
theorem bools_set (bs:List Bool) (j:Nat):((bs.map Value.bool).toArray).setIfInBounds j (.bool true) = ((bs.set j true).map Value.bool).toArray:=by
  rw [List.setIfInBounds_toArray,List.map_set]
set_option maxHeartbeats 8000000 in
set_option maxRecDepth 100000 in
theorem back_c (k:List Nat) (W:List (Int × Int)) (a wa:Option Addr) (c wcap:Nat) (w:World) (hk:k.length≤64) (hW:W.length≤100) (hA:ArgK .i64 w a (natsI k)) (hP:ArgVs w wa W) :
    Calls Tryz.prog 6 #[.slice a k.length c,.slice wa W.length wcap] w fun e w' => ∃ (v:Value) (er:Int),e = .returned (.tuple #[v,.int .i64 er])∧Below w.heap.size w w'∧(er ≠ 0 ∨ (er = 0∧∃ B,SliVs w' v B∧BackOk k W B)):=by
  have HA:=hidE hA;have HP:=hidE hP
  clear hA hP
  obtain ⟨ip,hip,hzp0,hzp1,hzp2⟩:=info_parts Tryz.infoPcB
  have HIP:=hidE hip;have HZ0:=hidE hzp0;have HZ1:=hidE hzp1;have HZ2:=hidE hzp2
  obtain ⟨ib,hib,hbz0,hbz1,hbz2⟩:=info_parts Tryz.infoBool
  have hmk:∀ w:World,(Instr.makeSlice 64 (.int .i64 k.length) (.int .i64 k.length)).run Tryz.prog w = .ok (.slice (some ⟨w.heap.size,0,none⟩) k.length k.length) (w.alloc (.cells ((List.replicate k.length false).map Value.bool).toArray 4)):=fun w => by
    have:=run_make (P:=Tryz.prog) w 64 4 ib _ Tryz.underlying64 hib hbz0 .i64 .i64 k.length k.length (by omega) (Int.le_refl _) (by rw [hbz2];omega) (by omega)
    rw [hbz1,Int.toNat_natCast,made_bools] at this
    exact this
  have HMK:=hidE hmk
  clear hip hzp0 hzp1 hzp2 hib hbz0 hbz1 hbz2
  go_enter Tryz.func6,Tryz.ntmps6
  go_wp2
  clear hmk
  obtain ⟨w1,hw1⟩:∃ w1,w1 = w.alloc (.cells (Array.replicate k.length (Value.bool false)) 4):=⟨_,rfl⟩
  rw [← hw1]
  have HB1:=hidE (show Below w.heap.size w w1 from by rw [hw1];(repeat (first | exact Below.refl _ _ | assumption | refine balloc ?_ _ | refine below_drewN ?_ _ | refine bstep (by assumption) ?_ | refine bstep (Past.prop _) ?_ | refine Below.setCell ?_ (by first | exact Nat.le_refl _ | (simp;done) | (simp;omega)) _)))
  have HS1:=hidE (show Blk w1 w.heap.size ((List.replicate k.length false).map Value.bool).toArray 4 from by rw [hw1,show ((List.replicate k.length false).map Value.bool).toArray = Array.replicate k.length (Value.bool false) from by simp];exact Blk.made _ _ _)
  have hz1:w.heap.size + 1 = w1.heap.size:=by rw [hw1];simp
  clear hw1
  go_loopg [7,9,15] W.length (fun gh v7 v9 v15 wr => ∃ (i:Nat) (z1 z2:Value) (bs:List Bool),z1 = v7∧z2 = v9∧v15 = .int .i64 i∧i≤W.length∧W.length - i≤gh∧bs.length = k.length∧(∀ p ∈ W.take i,0≤p.1∧p.1 < (k.length:Int))∧Below w.heap.size w wr∧Blk wr w.heap.size (bs.map Value.bool).toArray 4∧wr.ownsRow (w.heap.size + 1) 45 2 z1 i (cellsOfV ((W.take i).map fun p => (((k.getD p.1.toNat 0:Nat):Int),p.2))))
  case atStart => exact ⟨0,.slice none 0 0,undef,List.replicate k.length false,rfl,rfl,rfl,Nat.zero_le _,by omega,by simp,(fun p hp => by simp at hp),HB1.out,HS1.out,own_nil _ _ _⟩
  case round =>
    clear HS1
    obtain ⟨i,z1,z2,bs,rfl,rfl,rfl,hi,hgh,hbs,hin,hb,hS,ho⟩:=hrel
    have HB:=hidE hb;have HS:=hidE hS;have HO:=hidE ho;have HIN:=hidE hin
    have hzr:w.heap.size + 1≤wr.heap.size:=hS.lt
    clear hb hS ho hin
    by_cases hlt:i < W.length
    · obtain ⟨b,off,rfl,hbb,hcw⟩:=(HP.out.past HB.out) (by omega)
      obtain ⟨c0,c1⟩:=hcw i hlt
      have e:W[i]? = some (W.getD i (0,0)):=by rw [List.getD_eq_getElem?_getD,List.getElem?_eq_getElem hlt];rfl
      have HST:=hidE (show ∀ f:Int × Int→Int × Int,(W.take (i + 1)).map f = (W.take i).map f ++ [f (W.getD i (0,0))] from fun f => by rw [List.take_add_one,e,List.map_append];rfl)
      have HSI:=hidE (show ∀ p ∈ W.take (i + 1),p ∈ W.take i ∨ p = W.getD i (0,0) from fun p hp => by
        rw [List.take_add_one,e] at hp
        rcases List.mem_append.1 hp with h | h
        · exact .inl h
        · exact .inr (by simpa using h))
      clear hcw e
      generalize W.getD i (0,0) = q at *
      by_cases hneg:q.1 < 0
      · have s1:decide (q.1 < 0) = true:=decide_eq_true hneg
        go_wp2
        refine bodyPost_ret (v := .tuple #[.slice none 0 0,.int .i64 2]) (by simp [results,Tryz.results6,go_sem]) rfl ⟨_,2,rfl,by have:=HB.out;(repeat (first | exact Below.refl _ _ | assumption | refine balloc ?_ _ | refine below_drewN ?_ _ | refine bstep (by assumption) ?_ | refine bstep (Past.prop _) ?_ | refine Below.setCell ?_ (by first | exact Nat.le_refl _ | (simp;done) | (simp;omega)) _)),.inl (by omega)⟩
      have s1:decide (q.1 < 0) = false:=decide_eq_false hneg
      by_cases hbig:(k.length:Int)≤q.1
      · have s2:decide ((k.length:Int)≤q.1) = true:=decide_eq_true hbig
        go_wp2
        refine bodyPost_ret (v := .tuple #[.slice none 0 0,.int .i64 2]) (by simp [results,Tryz.results6,go_sem]) rfl ⟨_,2,rfl,by have:=HB.out;(repeat (first | exact Below.refl _ _ | assumption | refine balloc ?_ _ | refine below_drewN ?_ _ | refine bstep (by assumption) ?_ | refine bstep (Past.prop _) ?_ | refine Below.setCell ?_ (by first | exact Nat.le_refl _ | (simp;done) | (simp;omega)) _)),.inl (by omega)⟩
      have s2:decide ((k.length:Int)≤q.1) = false:=decide_eq_false hbig
      have s2':∀ j:Nat,q.1 = (j:Int)→decide (k.length≤j) = false:=fun j e => decide_eq_false (by omega)
      obtain ⟨j,hj⟩:∃ j:Nat,q.1 = (j:Int):=⟨q.1.toNat,by omega⟩
      have hjk:j < k.length:=by omega
      have sj:=HS.out.cell j
      have sz:=HS.out.lt
      have sf:=HS.out.free j
      rw [List.getElem?_toArray,List.getElem?_map,List.getElem?_eq_getElem (by omega:j < bs.length)] at sj
      simp only [Option.map_some] at sj
      replace s2':=s2' j hj
      rw [hj] at c0 s1 s2
      cases hbj:bs[j] with
      | true =>
        rw [hbj] at sj
        go_wp2
        refine bodyPost_ret (v := .tuple #[.slice none 0 0,.int .i64 2]) (by simp [results,Tryz.results6,go_sem]) rfl ⟨_,2,rfl,by have:=HB.out;(repeat (first | exact Below.refl _ _ | assumption | refine balloc ?_ _ | refine below_drewN ?_ _ | refine bstep (by assumption) ?_ | refine bstep (Past.prop _) ?_ | refine Below.setCell ?_ (by first | exact Nat.le_refl _ | (simp;done) | (simp;omega)) _)),.inl (by omega)⟩
      | false =>
        rw [hbj] at sj
        obtain ⟨ba,oa,rfl,hba,hca⟩:=HA.out (by rw [natsI_len];omega)
        obtain ⟨fv,hfv⟩:∃ fv,(natsI k).getD j 0 = fv:=⟨_,rfl⟩
        have hfv2:fv = ((k.getD j 0:Nat):Int):=by
          rw [← hfv]
          unfold natsI
          rw [List.getD_eq_getElem?_getD,List.getElem?_map,List.getElem?_eq_getElem hjk,List.getD_eq_getElem?_getD,List.getElem?_eq_getElem hjk];rfl
        have ca0:=hca j (by rw [natsI_len];exact hjk)
        rw [hfv] at ca0
        have HFV:=hidE hfv2
        clear hca hfv hfv2
        go_upto_region 9 with fail
        obtain ⟨wq,hwq⟩:∃ wq,wq = (wr.setCell ⟨w.heap.size,j,none⟩ (.bool true)).alloc (.cells #[.int .i64 j,.int .i64 q.2] 45):=⟨_,rfl⟩
        rw [← hwq]
        have HBq:=hidE (show Below w.heap.size w wq from by rw [hwq];exact (HB.out.setCell (Nat.le_refl _) _).alloc (by simp;omega) _)
        have HSq:=hidE (show Blk wq w.heap.size ((bs.set j true).map Value.bool).toArray 4 from by rw [hwq,← bools_set];exact (HS.out.set j _).alloc _)
        have HOq:=hidE (show wq.ownsRow (w.heap.size + 1) 45 2 z1 i (cellsOfV ((W.take i).map fun p => (((k.getD p.1.toNat 0:Nat):Int),p.2))) from by rw [hwq];exact (own_grown HO.out (grown_set wr w.heap.size j _) (Nat.lt_succ_self _)).alloc _)
        have hpq:Blk wq wr.heap.size #[.int .i64 j,.int .i64 q.2] 45:=by rw [hwq];exact Blk.made_at _ _ _ _ (by simp)
        have ca:=(HBq.out.cell (p:=⟨ba,oa + j,none⟩) hba).trans ca0
        have caz:=Nat.lt_of_lt_of_le hba HBq.out.size
        have g0:=hpq.cell 0;have g1:=hpq.cell 1;have gz:=hpq.lt
        simp at g0 g1
        have hzq:w.heap.size + 1≤wq.heap.size:=HSq.out.lt
        clear hwq HB HS HO c0 c1 sj sf sz hpq ca0 HP
        refine wp_region_J 9 [0] (nthR [detR z1,detR (.slice (some ⟨ba,oa,none⟩) k.length c),detR (.pointer (some ⟨wr.heap.size,0,none⟩)),detR (.int .i64 (j:Int)),detR (.pointer (some ⟨ba,oa + j,none⟩)),detR (.int .i64 fv),detR (.pointer (some ⟨wr.heap.size,1,none⟩)),detR (.int .i64 q.2),detR (.agg #[.int .i64 fv,.int .i64 q.2])]) (fun _ => false) (by kernel_rfl) (by simp) (by kernel_rfl) (stab_nth (by simp [stab_det])) ?_ ?_ ?_
        · intro i o hi ho
          match i,hi with
          | 0, _ =>
            obtain rfl:=Option.some.inj ho
            intro u x hd
            have hc:=Past.cell x
            simp [go_sem,gives,frm,Act.put,nthR,detR,Region.wanted,Below.refl]
          | 1, _ =>
            obtain rfl:=Option.some.inj ho
            intro u x hd
            have hc:=Past.cell x
            simp [go_sem,gives,frm,Act.put,nthR,detR,Region.wanted,Below.refl]
          | 2, _ =>
            obtain rfl:=Option.some.inj ho
            intro u x hd
            have hc:=Past.cell x
            simp [go_sem,gives,frm,Act.put,nthR,detR,Region.wanted,Below.refl]
          | 3, _ =>
            obtain rfl:=Option.some.inj ho
            intro u x hd
            have hc:=Past.cell x
            have d2:=hd 2 (by decide) (by kernel_rfl)
            simp only [nthR,detR,List.getD_cons_zero,List.getD_cons_succ] at d2
            simp [go_sem,gives,frm,Act.put,nthR,detR,Region.wanted,Below.refl,hc,d2,g0,gz]
          | 4, _ =>
            obtain rfl:=Option.some.inj ho
            intro u x hd
            have hc:=Past.cell x
            have d1:=hd 1 (by decide) (by kernel_rfl)
            have d3:=hd 3 (by decide) (by kernel_rfl)
            simp only [nthR,detR,List.getD_cons_zero,List.getD_cons_succ] at d1 d3
            simp [go_sem,gives,frm,Act.put,nthR,detR,Region.wanted,Below.refl,d1,d3,hjk]
          | 5, _ =>
            obtain rfl:=Option.some.inj ho
            intro u x hd
            have hc:=Past.cell x
            have d4:=hd 4 (by decide) (by kernel_rfl)
            simp only [nthR,detR,List.getD_cons_zero,List.getD_cons_succ] at d4
            simp [go_sem,gives,frm,Act.put,nthR,detR,Region.wanted,Below.refl,hc,d4,ca,caz]
          | 6, _ =>
            obtain rfl:=Option.some.inj ho
            intro u x hd
            have hc:=Past.cell x
            simp [go_sem,gives,frm,Act.put,nthR,detR,Region.wanted,Below.refl]
          | 7, _ =>
            obtain rfl:=Option.some.inj ho
            intro u x hd
            have hc:=Past.cell x
            have d6:=hd 6 (by decide) (by kernel_rfl)
            simp only [nthR,detR,List.getD_cons_zero,List.getD_cons_succ] at d6
            simp [go_sem,gives,frm,Act.put,nthR,detR,Region.wanted,Below.refl,hc,d6,g1,gz]
          | 8, _ =>
            obtain rfl:=Option.some.inj ho
            intro u x hd
            have hc:=Past.cell x
            have d5:=hd 5 (by decide) (by kernel_rfl)
            have d7:=hd 7 (by decide) (by kernel_rfl)
            simp only [nthR,detR,List.getD_cons_zero,List.getD_cons_succ] at d5 d7
            simp [go_sem,gives,frm,Act.put,nthR,detR,Region.wanted,Below.refl,d5,d7]
          | i + 9,h => exact absurd h (by omega)
        · intro i o hx ho
          simp only [List.mem_cons,List.not_mem_nil,or_false] at hx
          rcases hx with rfl
          · obtain rfl:=Option.some.inj ho
            refine ⟨rfl,fun _ _ _ _ h => h,fun u x hd => ?_⟩
            refine ⟨rfl,z1,rfl,fun w' => ?_⟩
            simp [go_sem,frm,Act.put]
        · intro u x' hu hne
          have d0:=hu 0 (by decide);have d8:=hu 8 (by decide)
          simp only [nthR,detR,List.getD_cons_zero,List.getD_cons_succ] at d0 d8
          have HY:=hidE (x'.2)
          clear hu hne g0 g1 gz ca caz
          simp only [frm,List.take,Act.put,d0,d8]
          clear d0 d8
          generalize x'.1 = w5 at *
          have HB5:=hidE (HBq.out.trans (HY.out.mono HBq.out.size))
          have HS5:=hidE (HSq.out.past HY.out)
          have HO5:=hidE (own_below HOq.out HY.out)
          have hz5:w.heap.size + 1≤w5.heap.size:=HS5.out.lt
          generalize hcs:cellsOfV ((W.take i).map fun p => (((k.getD p.1.toNat 0:Nat):Int),p.2)) = cs at *
          have HCS:=hidE hcs
          clear hcs
          go_wp2_with (at_builtin;refine wpList_append_own _ rfl (.tmp 40) (.tmp 49) 25 rfl (w.heap.size + 1) 45 ip (.agg #[.int .i64 0,.int .i64 0]) 2 16 Tryz.underlying25 HIP.out HZ0.out HZ1.out HZ2.out rfl (by decide) _ _ _ rfl (HO5.out.alloc _) ⟨_,0,none⟩ 1 1 [.int .i64 fv,.int .i64 q.2] rfl rfl (new_cellsP _ #[.int .i64 fv,.int .i64 q.2] 45 _ (by simp)) (by intro x hx;simp at hx;rcases hx with rfl | rfl <;> rfl) (by unfold maxLen;omega) (by omega) (by simp;omega) ?_;intro v' w6 hown6 hgrow6 _)
          have hb6:Below (w.heap.size + 1) wq w6:=Below.grown ((HY.out.mono hzq).alloc hz5 (.cells #[.int .i64 fv,.int .i64 q.2] 45)) hgrow6 (by simp;omega) (fun k hk => own_block HO5.out hk)
          have HB6:=hidE hb6
          have hst:=HST.out fun p => (((k.getD p.1.toNat 0:Nat):Int),p.2)
          have HO6:=hidE (show w6.ownsRow (w.heap.size + 1) 45 2 v' (i + 1) (cellsOfV ((W.take (i + 1)).map fun p => (((k.getD p.1.toNat 0:Nat):Int),p.2))) from by
            rw [hst,cellsOfV_app,HCS.out,hj,Int.toNat_natCast,← HFV.out]
            exact hown6)
          clear hb6 hown6 hgrow6 hst
          go_wp2
          go_roundg (W.length - (i + 1))
          case measure => omega
          case rel =>
            exact ⟨i + 1,v',_,bs.set j true,rfl,rfl,by go_num,by omega,Nat.le_refl _,by simpa using hbs,(fun p hp => by
              rcases HSI.out p hp with h | rfl
              · exact HIN.out p h
              · exact ⟨by omega,by omega⟩),HBq.out.trans (HB6.out.mono (Nat.le_succ _)),HSq.out.below HB6.out (Nat.lt_succ_self _),HO6.out⟩
    · have hii:i = W.length:=by omega
      subst hii
      have ho:=HO.out
      have hin:=HIN.out
      rw [List.take_length] at ho hin
      obtain ⟨g1,g2 | ⟨g,cap,cur,rfl,g3,g4,g5,g6,g7,g8⟩⟩:=id ho
      · obtain ⟨rfl,h0⟩:=g2
        have hW0:W = []:=List.eq_nil_of_length_eq_zero h0
        subst hW0
        go_wp2_with fail
        ((with_reducible refine (sort_nil _).mono ?_);rintro e w6 ⟨rfl,rfl⟩)
        go_wp2
        refine bodyPost_ret (v := .tuple #[.slice none 0 0,.int .i64 0]) (by simp [results,Tryz.results6,go_sem]) rfl ⟨_,0,rfl,HB.out,.inr ⟨rfl,[],⟨none,0,rfl,Nat.le_refl _,by omega,fun h => by simp at h⟩,⟨(fun p hp => by cases hp),List.Perm.refl _,List.Pairwise.nil⟩⟩⟩
      · have hs:=sort_own (W.map fun p => (((k.getD p.1.toNat 0:Nat):Int),p.2)) (w.heap.size + 1) g cap wr (by simp;omega) (by rw [List.length_map];exact ho)
        rw [List.length_map] at hs
        have HSO:=hidE hs
        clear ho g1 g3 g4 g5 g6 g7 g8 hs
        go_wp2_with fail
        ((with_reducible refine (HSO.out).mono ?_);rintro e w6 ⟨rfl,hb6,B,hB,hp6,hs6⟩)
        have HBF:=hidE (show Below w.heap.size w w6 from HB.out.trans (hb6.mono (Nat.le_succ _)))
        have HBB:=hidE hB
        clear hb6 hB
        go_wp2
        refine bodyPost_ret (v := .tuple #[.slice (some ⟨g,0,none⟩) W.length cap,.int .i64 0]) (by simp [results,Tryz.results6,go_sem]) rfl ⟨_,0,rfl,HBF.out,.inr ⟨rfl,B,HBB.out,⟨hin,hp6,hs6⟩⟩⟩
end
section
theorem pcs_up {l:List Prt}:∀ {W:List Pc} {last:Int},pcsB l last W = true→(∀ p ∈ W,last < p.1)∧W.Pairwise fun a b => a.1 < b.1
  | [],_,_ => ⟨(fun p hp => by cases hp),List.Pairwise.nil⟩
  | q :: W, last, h => by
    simp only [pcsB,Bool.and_eq_true,decide_eq_true_eq] at h
    obtain ⟨h1,h2,h3,h4⟩:=h
    obtain ⟨i1,i2⟩:=pcs_up h4
    refine ⟨fun p hp => ?_,List.pairwise_cons.2 ⟨i1,i2⟩⟩
    rcases List.mem_cons.1 hp with rfl | hp
    · exact h1
    · have:=i1 p hp;omega
theorem pcs_of {l:List Prt}:∀ {W:List Pc} {last:Int},(∀ p ∈ W,last < p.1)→(W.Pairwise fun a b => a.1 < b.1)→(∀ p ∈ W,p.1 < (l.length:Int)∧(l.getD p.1.toNat pr0).kind = 0)→pcsB l last W = true
  | [],_,_,_,_ => rfl
  | q :: W, last, h1, h2, h3 => by
    obtain ⟨i1,i2⟩:=List.pairwise_cons.1 h2
    have hq:=h3 q (by simp)
    simp only [pcsB,Bool.and_eq_true,decide_eq_true_eq]
    exact ⟨h1 q (by simp),hq.1,hq.2,pcs_of i1 i2 fun p hp => h3 p (List.mem_cons_of_mem _ hp)⟩
theorem far_no {W:List Pc} (h:PcOk W):farB W = false:=by
  unfold farB
  rw [List.any_eq_false]
  intro p hp
  have:=h p hp
  unfold isFarB
  simp
  omega
theorem wrong_fine {fr to':Int} {l:List Prt} {fits:Bool} {W:List Pc} (h1:(chkS fr to' l).2 = 0) (h2:fits = true) (h3:pcsB l (-1) W = true) (h4:farB W = false):wrongS fr to' l fits W = 0:=by
  unfold wrongS
  rw [if_neg (by rw [h1];simp),if_neg (by rw [h2,h3];simp),if_neg (by rw [h4];simp)]
theorem from_same {F:Fst} {i:Nat} (h:i < (plainF (lab F 0)).size):(fromF (plainF (lab F 0))).getD i 0 < F.flat.length∧(F.flat.getD ((fromF (plainF (lab F 0))).getD i 0) pr0).kind = ((plainF (lab F 0)).flat.getD i pr0).kind∧(F.flat.getD ((fromF (plainF (lab F 0))).getD i 0) pr0).n = ((plainF (lab F 0)).flat.getD i pr0).n∧(F.flat.getD ((fromF (plainF (lab F 0))).getD i 0) pr0).d = ((plainF (lab F 0)).flat.getD i pr0).d:=by
  obtain ⟨h1,y,hy,z,hz,e1,e2,e3,e4⟩:=from_plain F i h
  have hy':(plainF (lab F 0)).flat[i]? = some y:=hy
  have hz':F.flat[(fromF (plainF (lab F 0))).getD i 0]? = some z:=hz
  rw [List.getD_eq_getElem?_getD (l:=F.flat),hz',List.getD_eq_getElem?_getD (l:=(plainF (lab F 0)).flat),hy',flat_len]
  exact ⟨h1,e1.symm,e2.symm,e4.symm⟩
structure NrB (fr to':Int) (F:Fst) (w B:List Pc):Prop where
  len:F.len = 1
  siz:F.size≤64
  fit:F.fit 1 0
  chk:chkS fr to' F.flat = (0,0)
  chp:(chkS fr to' (plainF (lab F 0)).flat).2 = 0
  pcs:pcsB (plainF (lab F 0)).flat (-1) w = true
  far:farB w = false
  bck:BackOk (fromF (plainF (lab F 0))) w B
section
variable {fr to':Int} {F:Fst} {w B:List Pc}
theorem NrB.bk (h:NrB fr to' F w B):Bk (fromF (plainF (lab F 0))) w B :=
  ⟨h.bck.ins,(pcs_up h.pcs).2.imp (fun e => by omega),h.bck.prm⟩
theorem from_inj {i j:Nat} (hi:i < (plainF (lab F 0)).size) (hj:j < (plainF (lab F 0)).size) (e:(fromF (plainF (lab F 0))).getD i 0 = (fromF (plainF (lab F 0))).getD j 0):i = j:=by
  rcases Nat.lt_trichotomy i j with c | c | c
  · exact absurd e.symm (from_once F c hj)
  · exact c
  · exact absurd e (from_once F c hi)
theorem NrB.up (h:NrB fr to' F w B):B.Pairwise fun a b => a.1 < b.1:=by
  have hd:(w.map fun p => ((((fromF (plainF (lab F 0))).getD p.1.toNat 0:Nat):Int),p.2)).Pairwise (fun a b => a.1 ≠ b.1):=by
    rw [List.pairwise_map]
    refine (pcs_up h.pcs).2.imp_of_mem fun {a b} ha hb hne e => ?_
    have h1:=h.bck.ins a ha
    have h2:=h.bck.ins b hb
    rw [fromF_len] at h1 h2
    have:=from_inj (F:=F) (i:=a.1.toNat) (j:=b.1.toNat) (by omega) (by omega) (Int.ofNat.inj e)
    omega
  have hB:B.Pairwise (fun a b => a.1 ≠ b.1):=(h.bck.prm.pairwise_iff (fun {x y} (e:x.1 ≠ y.1) => e.symm)).2 hd
  exact (h.bck.srt.and hB).imp fun e => by omega
theorem NrB.mem (h:NrB fr to' F w B) {q:Pc} (hq:q ∈ B):∃ p ∈ w,q = ((((fromF (plainF (lab F 0))).getD p.1.toNat 0:Nat):Int),p.2)∧p.1.toNat < (plainF (lab F 0)).size:=by
  obtain ⟨p,hp,e⟩:=List.mem_map.1 (h.bck.prm.mem_iff.1 hq)
  have h1:=h.bck.ins p hp
  rw [fromF_len] at h1
  exact ⟨p,hp,e.symm,by omega⟩
theorem NrB.back (h:NrB fr to' F w B) {fits:Bool} (hf:fits = true):wrongS fr to' F.flat fits B = 0:=by
  have ha:=pcs_atoms (by omega) h.pcs
  refine wrong_fine (by rw [h.chk]) hf (pcs_of (fun q hq => ?_) h.up fun q hq => ?_) (far_no fun q hq => ?_)
  · obtain ⟨p,hp,rfl,_⟩:=h.mem hq
    show (-1:Int) < _
    simp only
    omega
  · obtain ⟨p,hp,rfl,hs⟩:=h.mem hq
    obtain ⟨g1,g2,_,_⟩:=from_same hs
    simp only [Int.toNat_natCast]
    exact ⟨by omega,g2.trans (ha p hp).2.2⟩
  · obtain ⟨p,hp,rfl,_⟩:=h.mem hq
    exact far_ok h.far p hp
theorem NrB.plain (h:NrB fr to' F w B) {fits:Bool} (hf:fits = true):wrongS fr to' (plainF (lab F 0)).flat fits w = 0:=wrong_fine h.chp hf h.pcs h.far
theorem NrB.none (h:NrB fr to' F w B) {fits:Bool} (hf:fits = true):wrongS fr to' (plainF (lab F 0)).flat fits [] = 0∧wrongS fr to' F.flat fits [] = 0 :=
  ⟨wrong_fine h.chp hf rfl rfl,wrong_fine (by rw [h.chk]) hf rfl rfl⟩
theorem box_map {l P:List Prt} {t:Int} {g:Pc→Pc}:∀ (W:List Pc) (n:Int),(∀ p ∈ W,onP l t (g p) = onP P t p∧nP l (g p) = nP P p)→(W.map g).foldl (fun n p => if onP l t p then n + nP l p else n) n = W.foldl (fun n p => if onP P t p then n + nP P p else n) n
  | [],_,_ => rfl
  | p :: W, n, h => by
    rw [List.map_cons,List.foldl_cons,List.foldl_cons,(h p (by simp)).1,(h p (by simp)).2]
    exact box_map W _ fun q hq => h q (List.mem_cons_of_mem _ hq)
theorem NrB.box (h:NrB fr to' F w B) (t:Int):boxN F.flat B t = boxN (plainF (lab F 0)).flat w t:=by
  unfold boxN
  rw [h.bck.prm.foldl_eq' (fun x _ y _ z => by (repeat' split) <;> omega)]
  refine box_map w 0 fun p hp => ?_
  have h1:=h.bck.ins p hp
  rw [fromF_len] at h1
  obtain ⟨g1,g2,g3,g4⟩:=from_same (F:=F) (i:=p.1.toNat) (by omega)
  have ed:dP F.flat ((((fromF (plainF (lab F 0))).getD p.1.toNat 0:Nat):Int),p.2) = dP (plainF (lab F 0)).flat p:=by
    unfold dP;rw [← g4];rfl
  have en:nP F.flat ((((fromF (plainF (lab F 0))).getD p.1.toNat 0:Nat):Int),p.2) = nP (plainF (lab F 0)).flat p:=by
    unfold nP;rw [← g3];rfl
  refine ⟨?_,en⟩
  unfold onP
  simp only [ed]
theorem NrB.use (h:NrB fr to' F w B) {m c:Int} (hu:unitB m c = true):useL (plainF (lab F 0)).flat m c w = useL F.flat m c B:=by
  obtain ⟨a1,a2,_⟩:=(useOk_of (h.plain hu)).spec
  obtain ⟨b1,b2,_⟩:=(useOk_of (h.back hu)).spec
  refine cf_ext (mayB_iff.1 a1) (mayB_iff.1 b1) fun t => ?_
  show vat _ t = vat _ t
  rw [a2,b2]
  unfold useV
  rw [h.box]
theorem at_flat {F:Fst} (h1:F.size≤64) (h2:F.fit 1 0):AtF F.flat 0 F :=
  ⟨fun i _ => by rw [Nat.zero_add],ends_fit F F.flat 0 1 0 (fun i _ => by rw [Nat.zero_add]) (by omega) (Nat.le_refl _) h2⟩
theorem cons_one {F:Fst} (h:F.len = 1):∃ y K,F = .cons y K .nil:=by
  match F,h with
  | .cons y K .nil,_ => exact ⟨y,K,rfl⟩
  | .cons y K (.cons _ _ _),h => simp only [Fst.len] at h;omega
theorem sem_here {w B:List Pc} (h1:F.len = 1) (h2:F.size≤64) (h3:F.fit 1 0) (h:(satF w (plainF (lab F 0)) 0).map nz = (satF B F 0).map nz) :
    ∃ t t':TI,Here (plainF (lab F 0)).flat w 0 t∧Here F.flat B 0 t'∧t.len = t'.len∧t.se = t'.se∧t.ok = t'.ok:=by
  have p1:(plainF (lab F 0)).len = 1:=(plain_siz _).2.trans ((lab_len F 0).1.trans h1)
  have p2:(plainF (lab F 0)).size≤64:=Nat.le_trans (plain_siz _).1 (by rw [(lab_len F 0).2];exact h2)
  have p3:(plainF (lab F 0)).fit 1 0:=plain_fit _ 1 0 (lab_fit F 0 1 0 h3)
  generalize plainF (lab F 0) = G at *
  obtain ⟨y,K,rfl⟩:=cons_one p1
  obtain ⟨x,L,rfl⟩:=cons_one h1
  refine ⟨satI w y K 0,satI B x L 0,⟨y,K,1,0,0,at_flat p2 p3,p3,rfl,rfl⟩,⟨x,L,1,0,0,at_flat h2 h3,h3,rfl,rfl⟩, ?_⟩
  have e:nz (satI w y K 0) = nz (satI B x L 0):=by
    have:[nz (satI w y K 0)] = [nz (satI B x L 0)]:=h
    exact (List.cons.inj this).1
  have e1:=congrArg TI.len e
  have e2:=congrArg TI.se e
  have e3:=congrArg TI.ok e
  exact ⟨e1,e2,e3⟩
theorem NrB.here (h:NrB fr to' F w B):∃ t t':TI,Here (plainF (lab F 0)).flat w 0 t∧Here F.flat B 0 t'∧t.len = t'.len∧t.se = t'.se∧t.ok = t'.ok :=
  sem_here h.len h.siz h.fit (norm_sem h.len h.siz h.fit h.bk)
theorem NrB.bare (h:NrB fr to' F w B):∃ t t':TI,Here (plainF (lab F 0)).flat [] 0 t∧Here F.flat [] 0 t'∧t.len = t'.len∧t.se = t'.se∧t.ok = t'.ok :=
  sem_here h.len h.siz h.fit (norm_sem h.len h.siz h.fit ⟨(fun p hp => by cases hp),List.Pairwise.nil,List.Perm.refl _⟩)
end
end
section
def T10:List Prt:=[⟨1,0,0,0,2⟩,⟨0,2,1,10,0⟩,⟨3,0,0,0,2⟩,⟨0,4,2,5,0⟩,⟨0,1,1,20,0⟩]
def y10:Prt:=⟨1,0,0,0,2⟩
def z10:Prt:=⟨3,0,0,0,2⟩
def J10:Fst := .cons ⟨0,4,2,5,0⟩ .nil (.cons ⟨0,1,1,20,0⟩ .nil .nil)
def K10:Fst := .cons ⟨0,2,1,10,0⟩ .nil (.cons z10 J10 .nil)
theorem fit10:(Fst.cons y10 K10 .nil).fit 1 0:=by
  unfold K10 J10
  exact ⟨by decide +kernel,(fun h => by cases h),by omega,⟨by decide +kernel,(fun h => by cases h),by omega,trivial,by decide +kernel,(fun h => by cases h),by omega,⟨by decide +kernel,(fun _ => rfl),by omega,trivial,by decide +kernel,(fun _ => rfl),by omega,trivial,trivial⟩,trivial⟩,trivial⟩
theorem flat10:(Fst.cons y10 K10 .nil).flat = T10:=by decide +kernel
theorem at10:AtF T10 0 (.cons y10 K10 .nil):=by
  rw [← flat10]
  exact ⟨fun i _ => by rw [Nat.zero_add],ends_fit _ _ 0 1 0 (fun i _ => by rw [Nat.zero_add]) (by decide +kernel) (Nat.le_refl _) fit10⟩
theorem here10 (W:List Pc):Here T10 W 0 (satI W y10 K10 0):=⟨y10,K10,1,0,0,at10,fit10,rfl,rfl⟩
theorem here10_2 (W:List Pc):Here T10 W 2 (satI W z10 J10 2):=⟨z10,J10,2,1,2,(at10.kids.next).one,⟨fit10.2.2.2.1.2.2.2.2.1,fit10.2.2.2.1.2.2.2.2.2.1,by omega,fit10.2.2.2.1.2.2.2.2.2.2.2.1,trivial⟩,rfl,rfl⟩
def good10:List Pc:=[(1,0),(3,10)]
def late10:List Pc:=[(1,80),(4,90)]
theorem w10_good:wrongS 0 100 T10 true good10 = 0:=by decide +kernel
theorem w10_late:wrongS 0 100 T10 true late10 = 0:=by decide +kernel
theorem w10_nine:wrongS 0 100 T10 true [(1,0),(3,9)] = 0:=by decide +kernel
theorem w10_both:wrongS 0 100 T10 true [(1,0),(3,10),(4,20)] = 0:=by decide +kernel
theorem w10_one:wrongS 0 100 T10 true [(1,0)] = 0:=by decide +kernel
theorem w10_none:wrongS 0 100 T10 true [] = 0:=by decide +kernel
theorem w10_unit:wrongS 0 100 T10 (unitB 1 0) good10 = 2:=by decide +kernel
theorem w10_use:wrongS 0 100 T10 (unitB 1 2) good10 = 0:=by decide +kernel
theorem w10_group:wrongS 0 100 T10 true [(0,0)] = 2:=by decide +kernel
theorem s10_good:(satI good10 y10 K10 0).ok = true∧seB (satI good10 y10 K10 0).se = 0∧seE (satI good10 y10 K10 0).se = 15:=by decide +kernel
theorem s10_late:(satI late10 y10 K10 0).ok = true∧seB (satI late10 y10 K10 0).se = 80∧seE (satI late10 y10 K10 0).se = 110∧(satI late10 y10 K10 0).se.isSome = true:=by decide +kernel
theorem s10_nine:(satI [(1,0),(3,9)] y10 K10 0).ok = false:=by decide +kernel
theorem s10_both:(satI [(1,0),(3,10),(4,20)] y10 K10 0).ok = false:=by decide +kernel
theorem s10_one:(satI [(1,0)] y10 K10 0).ok = false:=by decide +kernel
theorem s10_len:(satI [] y10 K10 0).len = 15∧(satI [] z10 J10 2).len = 5:=by decide +kernel
theorem u10:useL T10 1 2 good10 = [(0,(2,4)),(10,(4,8)),(15,(0,0))]:=by decide +kernel
end
section
open Go.ChangeShapes Go.WideShapes Go.ChangeAt Go.RowKit
attribute [local irreducible] Go.Calls
set_option maxHeartbeats 8000000 in
set_option maxRecDepth 100000 in
theorem satUse_c (fr to' m c:Int) (l:List Prt) (W:List Pc) (a wa:Option Addr) (cap wcap:Nat) (er:Int) (w:World) (hl:l.length≤9223372036854775807) (hWl:W.length≤100000) (hA:ArgP w a l) (hW:ArgVs w wa W) (hf : -9223372036854775808≤fr∧fr≤9223372036854775807) (ht : -9223372036854775808≤to'∧to'≤9223372036854775807) (her:wrongS fr to' l (unitB m c) W = er) :
    Calls Tryz.prog 8 #[def8 fr to' a l.length cap,.slice wa W.length wcap,V m c] w (OfIs w (if er = 0 then useL l m c W else []) er):=by
  have HWR:=hidE (fun (w':World) (h:Below w.heap.size w w') => wrong_c fr to' l W a wa cap wcap (unitB m c) w' hl (by omega) (hA.past h) (hW.past h) hf ht)
  have HIS:=hidE (fun w' => isUnit_c m c w')
  have HER:=hidE her
  rw [her] at HWR
  have HA:=hidE hA;have HW:=hidE hW
  clear hA hW her
  obtain ⟨R,hR⟩:∃ R,(if er = 0 then useL l m c W else []) = R:=⟨_,rfl⟩
  have HRR:=hidE hR
  rw [hR]
  clear hR
  generalize hub:unitB m c = ub at *
  have HUB:=hidE hub
  clear hub
  go_enter Tryz.func8,Tryz.ntmps8
  go_upto_region 1 with fail
  obtain ⟨w1,hw1⟩:∃ w1,w1 = (w.alloc (.cells #[.int .i64 fr,.int .i64 to',.slice a l.length cap] 24)).alloc (.cells #[.int .i64 m,.int .i64 c] 38):=⟨_,rfl⟩
  obtain ⟨db,hdb⟩:∃ db,db = w.heap.size:=⟨_,rfl⟩
  obtain ⟨vb,hvb⟩:∃ vb,vb = w.heap.size + 1:=⟨_,rfl⟩
  rw [← hw1,← hvb,← hdb]
  have hb1:Below w.heap.size w w1:=by rw [hw1];(repeat (first | exact Below.refl _ _ | assumption | refine balloc ?_ _ | refine below_drewN ?_ _ | refine bstep (by assumption) ?_ | refine bstep (Past.prop _) ?_ | refine Below.setCell ?_ (by first | exact Nat.le_refl _ | (simp;done) | (simp;omega)) _))
  have hD:Blk w1 db #[.int .i64 fr,.int .i64 to',.slice a l.length cap] 24:=by rw [hw1,hdb];exact (Blk.made _ _ _).alloc _
  have hV:Blk w1 vb #[.int .i64 m,.int .i64 c] 38:=by rw [hw1];exact Blk.made_at _ _ _ _ (by rw [hvb];simp)
  have d0:=hD.cell 0;have d1:=hD.cell 1;have d2:=hD.cell 2;have dz:=hD.lt;have u0:=hV.cell 0;have u1:=hV.cell 1;have uz:=hV.lt
  simp at d0 d1 d2 u0 u1
  have HB1:=hidE hb1;have HD:=hidE hD;have HV:=hidE hV
  have hdv:db ≠ vb:=by omega
  clear hw1 hb1 hD hV hdb hvb
  refine wp_region_J 5 [] (nthR [detR (.agg #[.int .i64 fr,.int .i64 to',.slice a l.length cap]),detR (.slice wa W.length wcap),detR (.agg #[.int .i64 m,.int .i64 c]),detR (.bool ub),detR (.int .i64 er)]) (fun _ => false) (by kernel_rfl) (by simp) (by kernel_rfl) (stab_nth (by simp [stab_det])) ?_ ?_ ?_
  · intro i o hi ho
    match i,hi with
    | 0, _ =>
      obtain rfl:=Option.some.inj ho
      intro u x hd
      have hc:=Past.cell x
      simp [go_sem,gives,frm,Act.put,nthR,detR,Region.wanted,Below.refl,hc,d0,d1,d2,dz]
    | 1, _ =>
      obtain rfl:=Option.some.inj ho
      intro u x hd
      have hc:=Past.cell x
      simp [go_sem,gives,frm,Act.put,nthR,detR,Region.wanted,Below.refl]
    | 2, _ =>
      obtain rfl:=Option.some.inj ho
      intro u x hd
      have hc:=Past.cell x
      simp [go_sem,gives,frm,Act.put,nthR,detR,Region.wanted,Below.refl,hc,u0,u1,uz]
    | 3, _ =>
      obtain rfl:=Option.some.inj ho
      intro u x hd
      have hc:=Past.cell x
      have d2:=hd 2 (by decide) (by kernel_rfl)
      simp only [nthR,detR,List.getD_cons_zero,List.getD_cons_succ] at d2
      simp [go_sem,gives,frm,Act.put,nthR,detR,Region.wanted,d2]
      exact HIS.out _
    | 4, _ =>
      obtain rfl:=Option.some.inj ho
      intro u x hd
      have hc:=Past.cell x
      have d0:=hd 0 (by decide) (by kernel_rfl)
      have d1:=hd 1 (by decide) (by kernel_rfl)
      have d3:=hd 3 (by decide) (by kernel_rfl)
      simp only [nthR,detR,List.getD_cons_zero,List.getD_cons_succ] at d0 d1 d3
      simp [go_sem,gives,frm,Act.put,nthR,detR,Region.wanted,d0,d1,d3]
      exact HWR.out _ (HB1.out.trans (x.2.mono HB1.out.size))
    | i + 5,h => exact absurd h (by omega)
  · intro i o h;cases h
  · intro u x9 hu hne
    have e4:u 4 = .int .i64 er:=hu 4 (by decide)
    simp only [frm,List.take,Act.put,e4]
    have hB9:=HB1.out.trans (x9.2.mono HB1.out.size)
    have hd9:=HD.out.past x9.2
    have hv9:=HV.out.past x9.2
    have HB9:=hidE hB9;have HD9:=hidE hd9;have HV9:=hidE hv9
    clear hu hne e4 hB9 hd9 hv9 d0 d1 d2 dz u0 u1 uz HB1 HD HV HWR HIS
    generalize x9.1 = w9 at *
    by_cases h0:er = 0
    · subst h0
      have HRU:=hidE (show useL l m c W = R by have:=HRR.out;rwa [if_pos rfl] at this)
      have HOK:=hidE (useOk_of (m:=m) (c:=c) (fr:=fr) (to':=to') (l:=l) (W:=W) (by rw [HUB.out];exact HER.out))
      go_wp2_with fail
      obtain ⟨w2,hw2⟩:∃ w2,w2 = w9.alloc (.cells #[.slice none 0 0] 34):=⟨_,rfl⟩
      obtain ⟨sb,hsb⟩:∃ sb,sb = w9.heap.size:=⟨_,rfl⟩
      rw [← hw2,← hsb]
      have hS0:Blk w2 sb #[.slice none 0 0] 34:=by rw [hw2,hsb];exact Blk.made _ _ _
      have hb2:Below sb w9 w2:=by rw [hw2,hsb];(repeat (first | exact Below.refl _ _ | assumption | refine balloc ?_ _ | refine below_drewN ?_ _ | refine bstep (by assumption) ?_ | refine bstep (Past.prop _) ?_ | refine Below.setCell ?_ (by first | exact Nat.le_refl _ | (simp;done) | (simp;omega)) _))
      have HSB:=hidE hsb
      have hdz:db < sb:=by rw [hsb];exact HD9.out.lt
      have hvz:vb < sb:=by rw [hsb];exact HV9.out.lt
      clear hw2 hsb
      go_loopg [24] W.length (fun gh v24 wr => ∃ (k:Nat) (sv:Value),v24 = .int .i64 k∧k≤W.length∧W.length - k≤gh∧Blk wr sb #[sv] 34∧SliS wr sv (useL l m c (W.take k))∧Below sb w9 wr)
      case atStart => exact ⟨0,.slice none 0 0,rfl,Nat.zero_le _,Nat.le_refl _,hS0,by rw [List.take_zero,useL_nil];exact sliS_nil _,hb2⟩
      case round =>
        obtain ⟨k,sv,rfl,hk,hgh,hbs,hsl,hbw⟩:=hrel
        have HGH:=hidE hgh
        have hdr:Blk wr db #[.int .i64 fr,.int .i64 to',.slice a l.length cap] 24:=HD9.out.below hbw hdz
        have hvr:Blk wr vb #[.int .i64 m,.int .i64 c] 38:=HV9.out.below hbw hvz
        have hbr:Below w.heap.size w wr:=HB9.out.trans (hbw.mono (by rw [HSB.out];exact HB9.out.size))
        clear hgh hS0 hb2
        by_cases hlt:k < W.length
        · have q1:decide ((k:Int) < (W.length:Int)) = true:=decide_eq_true (by omega)
          have q2:decide (k < W.length) = true:=decide_eq_true hlt
          obtain ⟨q,hq⟩:∃ q,W[k]? = some q:=⟨W[k],by rw [List.getElem?_eq_getElem hlt]⟩
          have hgd:W.getD k (0,0) = q:=by rw [List.getD_eq_getElem?_getD,hq];rfl
          obtain ⟨b,off,rfl,hbz,hc⟩:=HW.out (by omega)
          obtain ⟨m0,m1⟩:=hc k hlt
          rw [hgd] at m0 m1
          have k0:=(hbr.cell (p:=⟨b,off + k * 2,none⟩) hbz).trans m0
          have k1:=(hbr.cell (p:=⟨b,off + k * 2 + 1,none⟩) hbz).trans m1
          have bz:=Nat.lt_of_lt_of_le hbz hbr.size
          have hat:=HOK.out.atoms q (List.mem_of_getElem? hq)
          have HSN:=hidE (take_snoc hq);have HQ:=hidE hq
          have hUK:=HOK.out.take (k + 1)
          rw [HSN.out] at hUK
          have HUK:=hidE hUK
          have HBR:=hidE hbr;have HBS:=hidE hbs;have HSL:=hidE hsl;have HBW:=hidE hbw;have HDR:=hidE hdr;have HVR:=hidE hvr
          obtain ⟨j,hj⟩:∃ j:Nat,q.1 = (j:Int):=⟨q.1.toNat,by have:=hat.1;omega⟩
          have hjl:j < l.length:=by have:=hat.2.1;omega
          have HNP:=hidE (show ((l.getD j pr0).n:Int) = nP l q∧(l.getD j pr0).d = dP l q by unfold nP dP;rw [hj,Int.toNat_natCast];exact ⟨rfl,rfl⟩)
          obtain ⟨z,tq⟩:=q
          simp only at hj k0 k1
          subst hj
          obtain ⟨ba,offa,rfl,hba,hca⟩:=HA.out (by omega)
          have hg:=hca.get hjl
          have HX:=hidE hg
          have HBZ:=hidE hba
          clear hgd hc m0 m1 hq hUK hat hbr hbs hsl hbw hdr hvr hca hg hba HSN
          go_upto_region 9 with fail
          obtain ⟨w5,hw5⟩:∃ w5,w5 = wr.alloc (.cells #[.int .i64 (j:Int),.int .i64 tq] 45):=⟨_,rfl⟩
          obtain ⟨pb,hpb⟩:∃ pb,pb = wr.heap.size:=⟨_,rfl⟩
          rw [← hw5,← hpb]
          have hb5:Below wr.heap.size wr w5:=by rw [hw5];(repeat (first | exact Below.refl _ _ | assumption | refine balloc ?_ _ | refine below_drewN ?_ _ | refine bstep (by assumption) ?_ | refine bstep (Past.prop _) ?_ | refine Below.setCell ?_ (by first | exact Nat.le_refl _ | (simp;done) | (simp;omega)) _))
          have hP:Blk w5 pb #[.int .i64 (j:Int),.int .i64 tq] 45:=by rw [hw5,hpb];exact Blk.made _ _ _
          have hd5:=HDR.out.past hb5
          have hbw5:=HBR.out.trans (hb5.mono HBR.out.size)
          have p0:=hP.cell 0;have p1:=hP.cell 1;have pz:=hP.lt;have d2:=hd5.cell 2;have dz:=hd5.lt
          simp at p0 p1 d2
          have g0:=(hbw5.cell (p:=⟨ba,offa + j * 5,none⟩) HBZ.out).trans HX.out.1
          have g1:=(hbw5.cell (p:=⟨ba,offa + j * 5 + 1,none⟩) HBZ.out).trans HX.out.2.1
          have g2:=(hbw5.cell (p:=⟨ba,offa + j * 5 + 2,none⟩) HBZ.out).trans HX.out.2.2.1
          have g3:=(hbw5.cell (p:=⟨ba,offa + j * 5 + 3,none⟩) HBZ.out).trans HX.out.2.2.2.1
          have g4:=(hbw5.cell (p:=⟨ba,offa + j * 5 + 4,none⟩) HBZ.out).trans HX.out.2.2.2.2
          have gz:=Nat.lt_of_lt_of_le HBZ.out hbw5.size
          obtain ⟨x,hx⟩:∃ x,l.getD j pr0 = x:=⟨_,rfl⟩
          rw [hx] at g0 g1 g2 g3 g4 HNP
          have r3:decide ((l.length:Int)≤(j:Int)) = false:=decide_eq_false (by omega)
          have r4:decide (l.length≤j) = false:=decide_eq_false (by omega)
          have r5:¬ (l.length≤j):=by omega
          have hb6:Below sb w9 w5:=HBW.out.trans (hb5.mono (Nat.le_of_lt HBS.out.lt))
          have HB5:=hidE hb5;have HBW5:=hidE hb6
          clear hw5 hb5 hP hd5 hbw5 hpb HX hx hb6
          refine wp_region_J 9 [] (nthR [detR (.func (.func 24) #[] #[.pointer (some ⟨vb,0,none⟩),.pointer (some ⟨sb,0,none⟩)]),detR (.pointer (some ⟨db,2,none⟩)),detR (.slice (some ⟨ba,offa,none⟩) l.length cap),detR (.pointer (some ⟨pb,0,none⟩)),detR (.int .i64 (j:Int)),detR (.pointer (some ⟨ba,offa + j * 5,none⟩)),detR (prtV x),detR (.pointer (some ⟨pb,1,none⟩)),detR (.int .i64 tq)]) (fun _ => false) (by kernel_rfl) (by simp) (by kernel_rfl) (stab_nth (by simp [stab_det])) ?_ ?_ ?_
          · intro i o hi ho
            match i,hi with
            | 0, _ =>
              obtain rfl:=Option.some.inj ho
              intro u x hd
              have hc:=Past.cell x
              simp [go_sem,gives,frm,Act.put,nthR,detR,Region.wanted,Below.refl]
            | 1, _ =>
              obtain rfl:=Option.some.inj ho
              intro u x hd
              have hc:=Past.cell x
              simp [go_sem,gives,frm,Act.put,nthR,detR,Region.wanted,Below.refl]
            | 2, _ =>
              obtain rfl:=Option.some.inj ho
              intro u x hd
              have hc:=Past.cell x
              have d1:=hd 1 (by decide) (by kernel_rfl)
              simp only [nthR,detR,List.getD_cons_zero,List.getD_cons_succ] at d1
              simp [go_sem,gives,frm,Act.put,nthR,detR,Region.wanted,Below.refl,hc,d1,d2,dz]
            | 3, _ =>
              obtain rfl:=Option.some.inj ho
              intro u x hd
              have hc:=Past.cell x
              simp [go_sem,gives,frm,Act.put,nthR,detR,Region.wanted,Below.refl]
            | 4, _ =>
              obtain rfl:=Option.some.inj ho
              intro u x hd
              have hc:=Past.cell x
              have d3:=hd 3 (by decide) (by kernel_rfl)
              simp only [nthR,detR,List.getD_cons_zero,List.getD_cons_succ] at d3
              simp [go_sem,gives,frm,Act.put,nthR,detR,Region.wanted,Below.refl,hc,d3,p0,pz]
            | 5, _ =>
              obtain rfl:=Option.some.inj ho
              intro u x hd
              have hc:=Past.cell x
              have d2:=hd 2 (by decide) (by kernel_rfl)
              have d4:=hd 4 (by decide) (by kernel_rfl)
              simp only [nthR,detR,List.getD_cons_zero,List.getD_cons_succ] at d2 d4
              simp [go_sem,gives,frm,Act.put,nthR,detR,Region.wanted,Below.refl,d2,d4,hjl]
            | 6, _ =>
              obtain rfl:=Option.some.inj ho
              intro u x hd
              have hc:=Past.cell x
              have d5:=hd 5 (by decide) (by kernel_rfl)
              simp only [nthR,detR,List.getD_cons_zero,List.getD_cons_succ] at d5
              simp [go_sem,gives,frm,Act.put,nthR,detR,Region.wanted,Below.refl,hc,d5,g0,g1,g2,g3,g4,gz,prtV]
            | 7, _ =>
              obtain rfl:=Option.some.inj ho
              intro u x hd
              have hc:=Past.cell x
              simp [go_sem,gives,frm,Act.put,nthR,detR,Region.wanted,Below.refl]
            | 8, _ =>
              obtain rfl:=Option.some.inj ho
              intro u x hd
              have hc:=Past.cell x
              have d7:=hd 7 (by decide) (by kernel_rfl)
              simp only [nthR,detR,List.getD_cons_zero,List.getD_cons_succ] at d7
              simp [go_sem,gives,frm,Act.put,nthR,detR,Region.wanted,Below.refl,hc,d7,p1,pz]
            | i + 9,h => exact absurd h (by omega)
          · intro i o h;cases h
          · intro u2 x5 hu hne
            have e0:u2 0 = .func (.func 24) #[] #[.pointer (some ⟨vb,0,none⟩),.pointer (some ⟨sb,0,none⟩)]:=hu 0 (by decide)
            have e6:u2 6 = prtV x:=hu 6 (by decide)
            have e8:u2 8 = .int .i64 tq:=hu 8 (by decide)
            simp only [frm,List.take,Act.put,e0,e6,e8]
            have hB9:=HB5.out.trans (x5.2.mono HB5.out.size)
            have hv9:=HVR.out.past hB9
            have hs9:=HBS.out.past hB9
            have hl9:=HSL.out.past hB9
            have hw9:=HBW5.out.trans (x5.2.mono (Nat.le_of_lt (Nat.lt_of_lt_of_le HBS.out.lt HB5.out.size)))
            have HU1:=hidE (use1_c l m c (W.take k) ((j:Int),tq) x vb sb sv x5.1 HUK.out HNP.out hv9 hs9 hl9)
            have HW9:=hidE hw9
            clear hu hne e0 e6 e8 hB9 hv9 hs9 hl9 hw9 p0 p1 pz d2 dz g0 g1 g2 g3 g4 gz
            generalize x5.1 = w10 at *
            go_wp2_with fail
            ((with_reducible refine HU1.out.mono ?_);rintro e w11 ⟨rfl,⟨sv2,hsv,hsl2⟩,hgr⟩)
            have HG2:=hidE (Below.grown HW9.out hgr (by rw [HSB.out];exact HW9.out.size) (fun q e => by cases e;exact Nat.le_refl _))
            have HSV:=hidE hsv;have HSL2:=hidE hsl2
            clear hsv hsl2 hgr
            go_wp2
            go_roundg (W.length - (k + 1))
            case measure => have:=HGH.out;omega
            case rel => exact ⟨k + 1,sv2,by go_num,by omega,Nat.le_refl _,HSV.out,by rw [take_snoc (q:=((j:Int),tq)) HQ.out];exact HSL2.out,HG2.out⟩
        · obtain rfl:k = W.length:=by omega
          have q1:decide ((W.length:Int) < (W.length:Int)) = false:=decide_eq_false (by omega)
          have q2:decide (W.length < W.length) = false:=decide_eq_false (by omega)
          rw [List.take_length,HRU.out] at hsl
          have s0:=hbs.cell 0;have sz:=hbs.lt
          simp at s0
          have HSL:=hidE hsl;have HBR:=hidE hbr
          clear hbs hsl hbw hdr hvr hbr
          go_wp2
          exact bodyPost_ret (v := .tuple #[sv,.int .i64 0]) (by simp [results,Tryz.results8,go_sem]) rfl ⟨_,rfl,HSL.out,HBR.out⟩
    · have r0:(er != 0) = true:=bne_iff_ne.2 h0
      have r1:decide (er = 0) = false:=decide_eq_false h0
      obtain rfl:[] = R:=by have:=HRR.out;rwa [if_neg h0] at this
      clear HRR
      go_wp2
      exact bodyPost_ret (v := .tuple #[.slice none 0 0,.int .i64 er]) (by simp [results,Tryz.results8,go_sem]) rfl ⟨_,rfl,sliS_nil _,HB9.out⟩
end
section
open Go.ChangeShapes Go.WideShapes Go.ChangeAt Go.RowKit
attribute [local irreducible] Go.Calls
theorem sliS_new {w:World} {p n:Nat} {cs:Array Value} {l:List Sg} {t:TypeId} (h:Blk w p cs t) (hc:cs = (cellsOfS l).toArray) (hn:n = l.length) (h2:n≤1000000):SliS w (.slice (some ⟨p,0,none⟩) n n) l:=by
  subst hc;subst hn
  exact ⟨some ⟨p,0,none⟩,l.length,rfl,Nat.le_refl _,by omega,argS_blk h⟩
theorem SliS.len {w:World} {a:Option Addr} {n cap:Nat} {l:List Sg} (h:SliS w (.slice a n cap) l):n = l.length∧l.length≤cap∧cap≤9223372036854775807∧ArgS w a l:=by
  obtain ⟨a',c',e,h1,h2,h3⟩:=h
  cases e
  exact ⟨rfl,h1,h2,h3⟩
end
section
open Go.ChangeShapes Go.WideShapes Go.ChangeAt Go.RowKit
end
end Go.Proofs.YthlepbbdjmmelaaGreatDoor
