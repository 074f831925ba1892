/- slices.symMergeCmpFunc, its general case, and the whole. No conditions but the row's size. slices.SortStableFunc over a row of indices of the call's own, by the comparison of the runs' times. No conditions but the row's size. The statements' own runs. No conditions. The contracts of rle's small functions. No conditions but that the lists' cells read as integers. The .. -/
import Derived.Test.YtcmponckjkalaaaGreatPUGC
import Derived.Deep.DeepCutAuto
import Derived.Test.YtcmponckjkalaaaGreatPUGA
import Derived.LoopTactic
import Derived.Deep.LoopGhost
import Derived.WalkMore
import Derived.ScopeJumps
import Derived.Outline
import Derived.Test.YtcmponckjkalaaaGreatPUMA
import Derived.Laws.MakeOwn
import Derived.Laws.OwnMore
namespace Go.Proofs.YtcmponckjkalaaaGreat
section
open Go.ChangeShapes Go.WideShapes Go.ChangeAt Go.RowKit
attribute [local irreducible] Go.Calls
theorem sides_l {K:Nat→Int} {a s M:Nat} {d:Nat→Nat} (h1:Srt K a s d) (h2:Srt K s M d) (h3:a≤s) (sM:s≤M) (h:s=a∨s=M):Srt K a M d:=by
 rcases h with h | h
 ·subst h;exact h2
 ·subst h;exact h1
theorem fin_c {K:Nat→Int} {a M b:Nat} {dd d2 d3:Nat→Nat} (haM:a≤M) (hMb:M≤b) (m2:Mv a M dd d2) (m3:Mv M b d2 d3) (s2:Srt K a M d2) (s3:Srt K M b d3) (hx:∀ x y,a≤x→x<M→M≤y→y<b→Lx K (dd x) (dd y)):Mv a b dd d3∧Srt K a b d3 :=
 ⟨(m2.mono (Nat.le_refl _) hMb).trans (m3.mono haM (Nat.le_refl _)),srt_join (s2.congr fun k _ h2=>m3.out k (.inl h2)) s3 (cross_mv (cross_mv hx (.inl m2)) (.inr m3))⟩
def SymIH (w0:World) (blk n cap:Nat) (t:TypeId) (K:Nat→Int) (recv:Value) (N:Nat):Prop :=
 ∀ (w : World) (a m b : Nat) (d : Nat → Nat), b - a ≤ N → RowW w0 blk n t d w → Inv K n d → Okd n d → a < m → m < b → b ≤ n → Srt K a m d → Srt K m b d →
   Calls Tryz.prog 232 #[.slice (some ⟨blk,0,none⟩) n cap,.int .i64 a,.int .i64 m,.int .i64 b,.func (.func 212) #[recv] #[]] w (SrtTo w0 blk n t K a b d)
theorem SymIH.app {w0:World} {blk n cap:Nat} {t:TypeId} {K:Nat→Int} {recv:Value} {N:Nat} (h:SymIH w0 blk n cap t K recv N) {w:World} {a m b:Nat} {d:Nat→Nat} (h1:b - a≤N) (h2:RowW w0 blk n t d w) (h3:Inv K n d) (h4:Okd n d) (h5:a<m) (h6:m<b) (h7:b≤n) (h8:Srt K a m d) (h9:Srt K m b d) :
  Calls Tryz.prog 232 #[.slice (some ⟨blk,0,none⟩) n cap,.int .i64 a,.int .i64 m,.int .i64 b,.func (.func 212) #[recv] #[]] w (SrtTo w0 blk n t K a b d) :=
 h w a m b d h1 h2 h3 h4 h5 h6 h7 h8 h9
def Srch (K:Nat→Int) (d:Nat→Nat) (P s0 i j r0:Nat):Prop :=
 (∀ c,s0≤c→c<i→¬ K (d (P - c))<K (d c))∧(∀ c,j≤c→c<r0→K (d (P - c))<K (d c))
theorem Srch.start (K:Nat→Int) (d:Nat→Nat) (P s0 r0:Nat):Srch K d P s0 s0 r0 r0:=⟨fun c h1 h2=>by omega,fun c h1 h2=>by omega⟩
theorem Srch.up {K:Nat→Int} {d:Nat→Nat} {P s0 i j r0 h a m b:Nat} (hS:Srch K d P s0 i j r0) (h1:Srt K a m d) (h2:Srt K m b d) (q0:a≤s0) (q1:h<m) (q2:m≤P - h) (q3:P - s0<b) (_q4:s0≤h) (hk:¬ K (d (P - h))<K (d h)):Srch K d P s0 (h+1) j r0 :=
 ⟨fun c g1 g2=>by
  have e1:=h1.le (k:=c) (k':=h) (by omega) (by omega) q1
  have e2:=h2.le (k:=P - h) (k':=P - c) q2 (by omega) (by omega)
  omega,hS.2⟩
theorem Srch.dn {K:Nat→Int} {d:Nat→Nat} {P s0 i j r0 h a m b:Nat} (hS:Srch K d P s0 i j r0) (h1:Srt K a m d) (h2:Srt K m b d) (q0:a≤h) (q1:r0≤m) (q2:m+r0≤P+1) (q3:P - h<b) (hk:K (d (P - h))<K (d h)):Srch K d P s0 i h r0 :=
 ⟨hS.1,fun c g1 g2=>by
  have e1:=h1.le (k:=h) (k':=c) q0 (by omega) (by omega)
  have e2:=h2.le (k:=P - c) (k':=P - h) (by omega) (by omega) (by omega)
  omega⟩
theorem Srch.cut {K:Nat→Int} {d:Nat→Nat} {s0 i r0 a m b M:Nat} (hS:Srch K d (M+m - 1) s0 i i r0) (hM:(a+b) / 2=M) (hs:s0≤i) (hr:i≤r0) (am:a<m) (mb:m<b) (hc:(M<m∧s0+b=M+m∧r0=M)∨(m≤M∧s0=a∧r0=m)):Cut K a m b i d:=by
 obtain ⟨s1,s2⟩:=hS
 refine ⟨by omega,by omega,by omega,by omega,by omega, ?_, ?_⟩
 ·intro h1 h2
  have:=s1 (i - 1) (by omega) (by omega)
  rw[show (a+b) / 2+m - i=M+m - 1 - (i - 1) by omega]
  exact this
 ·intro h1 h2
  have:=s2 i (by omega) (by omega)
  rw[show (a+b) / 2+m - i - 1=M+m - 1 - i by omega]
  exact this
set_option maxRecDepth 100000 in
set_option maxHeartbeats 16000000 in
theorem symMerge_mid (w0 w:World) (blk n cap a m b N M s0 r0:Nat) (t:TypeId) (K:Nat→Int) (recv:Value) (d:Nat→Nat) (h:RowW w0 blk n t d w) (hC:Cmps w0 blk n recv K) (hI:Inv K n d) (hO:Okd n d) (ham:a+1<m) (hmb:m+1<b) (hb:b≤n) (hn:n≤4611686018427387904)
  (hs1:Srt K a m d) (hs2:Srt K m b d) (ih:SymIH w0 blk n cap t K recv N) (hN:b - a≤N+1) (hM:(a+b) / 2=M) (hc:(M<m∧s0+b=M+m∧r0=M)∨(m≤M∧s0=a∧r0=m)) :
  Calls Tryz.prog 232 #[.slice (some ⟨blk,0,none⟩) n cap,.int .i64 a,.int .i64 m,.int .i64 b,.func (.func 212) #[recv] #[]] w (SrtTo w0 blk n t K a b d):=by
 have H:=hidE h;have HC:=hidE hC;have HI:=hidE hI;have HO:=hidE hO;have HS1:=hidE hs1;have HS2:=hidE hs2;have IH:=hidE ih
 have hMa:a<M:=by omega
 have hMb:M<b:=by omega
 have hM2:2 * M≤a+b:=by omega
 have hM3:a+b≤2 * M+1:=by omega
 have EM:=hidE (show ((a:Int)+(b:Int)) / 2=(M:Int) by omega)
 have HM:=hidE hM
 have hP:∃ P,P=M+m - 1:=⟨_,rfl⟩
 obtain ⟨P,hP⟩:=hP
 have EP:=hidE (show (M:Int)+(m:Int) - 1=(P:Int) by omega)
 have HP:=hidE hP
 have hPm:P+1=M+m:=by omega
 have HPM:=hidE hPm
 have b1:P+1≤M+m:=by omega
 have b2:M+m≤P+1:=by omega
 have hq1:a≤s0:=by omega
 have hq2:s0≤r0:=by omega
 have hq3:r0≤m:=by omega
 have hq4:m+r0≤P+1:=by omega
 have hq5:P<b+s0:=by omega
 have HCC:=hidE hc
 clear h hC hI hO hs1 hs2 ih hM hP hPm
 have e0:((m:Int) - (a:Int) == 1)=false:=beq_eq_false_iff_ne.2 (by omega)
 have e1:((b:Int) - (m:Int) == 1)=false:=beq_eq_false_iff_ne.2 (by omega)
 rcases hc with hc | hc
 all_goals
  obtain ⟨hc1,hc2,hc3⟩:=hc
  have hct:((M:Int)<(m:Int))∨¬ ((M:Int)<(m:Int)):=by omega
  have HC2:=hidE hc2;have HC3:=hidE hc3
  clear hc2 hc3 hct
  go_enter Tryz.func232,Tryz.ntmps232
  go_upto_region 25 with fail
  simp only[EM.out]
  go_upto_region 33 with fail
  simp only[EP.out]
  go_loopg [20,21] b (fun g1 vi vj wr=>∃ (i j:Nat),vi = .int .i64 i∧vj = .int .i64 j∧s0≤i∧i≤j∧j≤r0∧j - i≤g1∧RowW w0 blk n t d wr∧Srch K d P s0 i j r0)
  case atStart=>exact ⟨s0,r0,by have:=HC2.out;go_num,by have:=HC3.out;go_num,by omega,by omega,by omega,by omega,H.out,Srch.start _ _ _ _ _⟩
  case round =>
   obtain ⟨i,j,rfl,rfl,hai,hij,hjb,hg1,hr,hlo⟩:=hrel
   have HR:=hidE hr;have HL:=hidE hlo
   clear hr hlo
   by_cases hlt:i<j
   ·have hltz:(i:Int)<(j:Int):=by omega
    obtain ⟨h,eh⟩:∃ h:Nat,((i:Int)+(j:Int)) / 2=(h:Int):=⟨(i+j) / 2,by omega⟩
    have hih:i≤h:=by omega
    have hhj:h<j:=by omega
    have EH:=hidE eh;clear eh
    obtain ⟨q,hq⟩:∃ q,q=P - h:=⟨_,rfl⟩
    have eq1:IntKind.i64.wrap ((P:Int) - (h:Int))=(q:Int):=by rw[IntKind.wrap_i64];omega
    have hok:=HO.out
    have c1:=HR.out.cell (i:=h) (by omega)
    have c2:=HR.out.cell (i:=q) (by omega)
    have z:=HR.out.lt
    have k1:=hok h (by omega)
    have k2:=hok q (by omega)
    have HCM:=hidE (fun w hw=>HC.out w hw (d q) (d h) k2 k1)
    have hqn:q<n:=by omega
    clear hok
    go_wp2_with fail
    simp only[EH.out]
    have EQ1:=hidE eq1;clear eq1
    by_cases hkey:K (d q)<K (d h)
    ·have hd:=cmp_t hkey
     have HX:=hidE (HL.out.dn HS1.out HS2.out (h:=h) (by omega) hq3 hq4 (by omega) (by rw[←hq];exact hkey))
     have HQ:=hidE hq
     clear hkey hq
     generalize hx:d h=x at *
     generalize hy:d q=y at *
     have Hx:=hidE hx;have Hy:=hidE hy
     clear hx hy
     have eq1:=EQ1.out
     refine wp_region_past_lit (by kernel_rfl) (by kernel_rfl) ?_
     have hc:=Past.cell (W:=wr)
     repeat (go_big_quiet_step ((go_at_call 212;exact Past.call _ (HCM.out _ (HR.out.low.trans ((Past.prop _).mono (Nat.le_of_lt z)))))))
     refine wpQuiet_nil ?_
     rintro _ ⟨x',rfl⟩
     have hr2:=HR.out.past x'.2
     clear c1 c2 hc eq1
     generalize x'.1=w2 at hr2 ⊢
     have HR2:=hidE hr2;clear hr2
     go_wp2
     go_roundg (h - i)
     case measure=>omega
     case rel=>exact ⟨i,h,rfl,rfl,hai,by omega,by omega,by omega,HR2.out,HX.out⟩
    ·have hd:=cmp_f hkey
     have HX:=hidE (HL.out.up HS1.out HS2.out (h:=h) hq1 (by omega) (by omega) (by omega) (by omega) (by rw[←hq];exact hkey))
     have HQ:=hidE hq
     clear hkey hq
     generalize hx:d h=x at *
     generalize hy:d q=y at *
     have Hx:=hidE hx;have Hy:=hidE hy
     clear hx hy
     have eq1:=EQ1.out
     refine wp_region_past_lit (by kernel_rfl) (by kernel_rfl) ?_
     have hc:=Past.cell (W:=wr)
     repeat (go_big_quiet_step ((go_at_call 212;exact Past.call _ (HCM.out _ (HR.out.low.trans ((Past.prop _).mono (Nat.le_of_lt z)))))))
     refine wpQuiet_nil ?_
     rintro _ ⟨x',rfl⟩
     have hr2:=HR.out.past x'.2
     clear c1 c2 hc eq1
     generalize x'.1=w2 at hr2 ⊢
     have HR2:=hidE hr2;clear hr2
     go_wp2
     go_roundg (j - (h+1))
     case measure=>omega
     case rel=>exact ⟨h+1,j,by go_num,rfl,by omega,by omega,hjb,by omega,HR2.out,HX.out⟩
   ·have:i=j:=by omega
    subst this
    have hltz:¬ (i:Int)<(i:Int):=by omega
    have hl:=HL.out
    rw[HP.out] at hl
    have hcut:=hl.cut HM.out hai hjb (by omega) (by omega) HCC.out
    have hcu:=hcut.rotated HI.out hb HS1.out HS2.out
    have f1:=hcut.as;have f2:=hcut.sm;have f3:=hcut.smid;have f4:=hcut.me;have f5:=hcut.eb
    rw[HM.out] at hcu f3 f4 f5
    obtain ⟨E,hE⟩:∃ E,E=M+m - i:=⟨_,rfl⟩
    rw[←hE] at hcu f4 f5
    have EE:=hidE (show (M:Int)+(m:Int) - (i:Int)=(E:Int) by omega)
    have hE1:E+i≤M+m:=by omega
    have hE2:M+m≤E+i:=by omega
    obtain ⟨u0,u1,u2,u3,u4,u5⟩:=hcu
    have hmv:=Mv.rot d f2 f4
    have U0:=hidE u0;have U1:=hidE u1;have U2:=hidE u2;have U3:=hidE u3;have U4:=hidE u4;have U5:=hidE u5
    have UO:=hidE (HO.out.mv hmv (by omega))
    have UM:=hidE (hmv.mono f1 f5)
    clear u0 u1 u2 u3 u4 u5 hl hcut hE HL hmv
    go_upto_region 39 with fail
    simp only[EE.out]
    clear hltz
    by_cases hA:i<m
    ·by_cases hB:m<E
     ·by_cases hC:a<i
      ·by_cases hD:E<b
       ·have hE:i<M:=by omega
        have hF:M<E:=by omega
        have tA:((i:Int)<(m:Int)):=by omega
        have tB:((m:Int)<(E:Int)):=by omega
        have tC:((a:Int)<(i:Int)):=by omega
        have tD:((E:Int)<(b:Int)):=by omega
        have tE:((i:Int)<(M:Int)):=by omega
        have tF:((M:Int)<(E:Int)):=by omega
        go_wp2_with (go_at_call 234;((with_reducible refine (rotate_c w0 _ blk n cap i m E t d _ HR.out hA hB (by omega) hn).mono ?_);rintro e w1 ⟨rfl,hr1⟩))
        clear HR
        have R1:=hidE hr1;clear hr1
        try go_wp2_with fail
        ((with_reducible refine (IH.out.app (a:=a) (m:=i) (b:=M) (by omega) R1.out U0.out UO.out hC hE (by omega) U1.out U2.out).mono ?_);rintro e w2 ⟨rfl,d2,hr2,hm2,hi2,hs2⟩)
        have o2:=UO.out.mv hm2 (by omega)
        have R2:=hidE hr2;have M2:=hidE hm2;have I2:=hidE hi2;have S2:=hidE hs2;have O2:=hidE o2;clear hr2 hm2 hi2 hs2 o2
        go_wp2_with fail
        have x3:=U3.out.congr fun k (q1:M≤k) (q2:k<E)=>M2.out.out k (.inr q1)
        have x4:=U4.out.congr fun k (q1:E≤k) (q2:k<b)=>M2.out.out k (.inr (by omega))
        have X3:=hidE x3;have X4:=hidE x4;clear x3 x4
        ((with_reducible refine (IH.out.app (a:=M) (m:=E) (b:=b) (by omega) R2.out I2.out O2.out hF hD hb X3.out X4.out).mono ?_);rintro e w3 ⟨rfl,d3,hr3,hm3,hi3,hs3⟩)
        have R3:=hidE hr3;have M3:=hidE hm3;have I3:=hidE hi3;have S3:=hidE hs3;clear hr3 hm3 hi3 hs3
        go_wp2
        all_goals go_end0
        all_goals obtain ⟨y1,y2⟩:=fin_c (Nat.le_of_lt hMa) (Nat.le_of_lt hMb) M2.out M3.out S2.out S3.out U5.out
        all_goals exact ⟨rfl,_,R3.out,UM.out.trans y1,I3.out,y2⟩
       ·have hE:i<M:=by omega
        have hF:M<E:=by omega
        have tA:((i:Int)<(m:Int)):=by omega
        have tB:((m:Int)<(E:Int)):=by omega
        have tC:((a:Int)<(i:Int)):=by omega
        have tD:¬ ((E:Int)<(b:Int)):=by omega
        have tE:((i:Int)<(M:Int)):=by omega
        have tF:((M:Int)<(E:Int)):=by omega
        go_wp2_with (go_at_call 234;((with_reducible refine (rotate_c w0 _ blk n cap i m E t d _ HR.out hA hB (by omega) hn).mono ?_);rintro e w1 ⟨rfl,hr1⟩))
        clear HR
        have R1:=hidE hr1;clear hr1
        try go_wp2_with fail
        ((with_reducible refine (IH.out.app (a:=a) (m:=i) (b:=M) (by omega) R1.out U0.out UO.out hC hE (by omega) U1.out U2.out).mono ?_);rintro e w2 ⟨rfl,d2,hr2,hm2,hi2,hs2⟩)
        have o2:=UO.out.mv hm2 (by omega)
        have R2:=hidE hr2;have M2:=hidE hm2;have I2:=hidE hi2;have S2:=hidE hs2;have O2:=hidE o2;clear hr2 hm2 hi2 hs2 o2
        go_wp2
        all_goals go_end0
        all_goals obtain ⟨y1,y2⟩:=fin_c (Nat.le_of_lt hMa) (Nat.le_of_lt hMb) M2.out (Mv.refl _ _ _) S2.out (sides_l (U3.out.congr fun k (q1:M≤k) (q2:k<E)=>M2.out.out k (.inr q1)) (U4.out.congr fun k (q1:E≤k) (q2:k<b)=>M2.out.out k (.inr (by omega))) (by omega) f5 (by omega)) U5.out
        all_goals exact ⟨rfl,_,R2.out,UM.out.trans y1,I2.out,y2⟩
      ·by_cases hD:E<b
       ·have hE:i<M:=by omega
        have hF:M<E:=by omega
        have tA:((i:Int)<(m:Int)):=by omega
        have tB:((m:Int)<(E:Int)):=by omega
        have tC:¬ ((a:Int)<(i:Int)):=by omega
        have tD:((E:Int)<(b:Int)):=by omega
        have tE:((i:Int)<(M:Int)):=by omega
        have tF:((M:Int)<(E:Int)):=by omega
        go_wp2_with (go_at_call 234;((with_reducible refine (rotate_c w0 _ blk n cap i m E t d _ HR.out hA hB (by omega) hn).mono ?_);rintro e w1 ⟨rfl,hr1⟩))
        clear HR
        have R1:=hidE hr1;clear hr1
        try go_wp2_with fail
        have x3:=U3.out;have x4:=U4.out
        have X3:=hidE x3;have X4:=hidE x4;clear x3 x4
        ((with_reducible refine (IH.out.app (a:=M) (m:=E) (b:=b) (by omega) R1.out U0.out UO.out hF hD hb X3.out X4.out).mono ?_);rintro e w3 ⟨rfl,d3,hr3,hm3,hi3,hs3⟩)
        have R3:=hidE hr3;have M3:=hidE hm3;have I3:=hidE hi3;have S3:=hidE hs3;clear hr3 hm3 hi3 hs3
        go_wp2
        all_goals go_end0
        all_goals obtain ⟨y1,y2⟩:=fin_c (Nat.le_of_lt hMa) (Nat.le_of_lt hMb) (Mv.refl _ _ _) M3.out (sides_l U1.out U2.out f1 f3 (by omega)) S3.out U5.out
        all_goals exact ⟨rfl,_,R3.out,UM.out.trans y1,I3.out,y2⟩
       ·have hE:i<M:=by omega
        have hF:M<E:=by omega
        have tA:((i:Int)<(m:Int)):=by omega
        have tB:((m:Int)<(E:Int)):=by omega
        have tC:¬ ((a:Int)<(i:Int)):=by omega
        have tD:¬ ((E:Int)<(b:Int)):=by omega
        have tE:((i:Int)<(M:Int)):=by omega
        have tF:((M:Int)<(E:Int)):=by omega
        go_wp2_with (go_at_call 234;((with_reducible refine (rotate_c w0 _ blk n cap i m E t d _ HR.out hA hB (by omega) hn).mono ?_);rintro e w1 ⟨rfl,hr1⟩))
        clear HR
        have R1:=hidE hr1;clear hr1
        try go_wp2
        all_goals go_end0
        all_goals obtain ⟨y1,y2⟩:=fin_c (Nat.le_of_lt hMa) (Nat.le_of_lt hMb) (Mv.refl _ _ _) (Mv.refl _ _ _) (sides_l U1.out U2.out f1 f3 (by omega)) (sides_l U3.out U4.out (by omega) f5 (by omega)) U5.out
        all_goals exact ⟨rfl,_,R1.out,UM.out.trans y1,U0.out,y2⟩
     ·by_cases hC:a<i
      ·by_cases hD:E<b
       ·have hF:M<E:=by omega
        have tA:((i:Int)<(m:Int)):=by omega
        have tB:¬ ((m:Int)<(E:Int)):=by omega
        have tC:((a:Int)<(i:Int)):=by omega
        have tD:((E:Int)<(b:Int)):=by omega
        have tE:¬ ((i:Int)<(M:Int)):=by omega
        have tF:((M:Int)<(E:Int)):=by omega
        have hr1:=HR.out.ext (rot_none f2 f4 (by omega)).symm
        clear HR
        have R1:=hidE hr1;clear hr1
        go_wp2_with fail
        have x3:=U3.out;have x4:=U4.out
        have X3:=hidE x3;have X4:=hidE x4;clear x3 x4
        ((with_reducible refine (IH.out.app (a:=M) (m:=E) (b:=b) (by omega) R1.out U0.out UO.out hF hD hb X3.out X4.out).mono ?_);rintro e w3 ⟨rfl,d3,hr3,hm3,hi3,hs3⟩)
        have R3:=hidE hr3;have M3:=hidE hm3;have I3:=hidE hi3;have S3:=hidE hs3;clear hr3 hm3 hi3 hs3
        go_wp2
        all_goals go_end0
        all_goals obtain ⟨y1,y2⟩:=fin_c (Nat.le_of_lt hMa) (Nat.le_of_lt hMb) (Mv.refl _ _ _) M3.out (sides_l U1.out U2.out f1 f3 (by omega)) S3.out U5.out
        all_goals exact ⟨rfl,_,R3.out,UM.out.trans y1,I3.out,y2⟩
       ·have hF:M<E:=by omega
        have tA:((i:Int)<(m:Int)):=by omega
        have tB:¬ ((m:Int)<(E:Int)):=by omega
        have tC:((a:Int)<(i:Int)):=by omega
        have tD:¬ ((E:Int)<(b:Int)):=by omega
        have tE:¬ ((i:Int)<(M:Int)):=by omega
        have tF:((M:Int)<(E:Int)):=by omega
        have hr1:=HR.out.ext (rot_none f2 f4 (by omega)).symm
        clear HR
        have R1:=hidE hr1;clear hr1
        go_wp2
        all_goals go_end0
        all_goals obtain ⟨y1,y2⟩:=fin_c (Nat.le_of_lt hMa) (Nat.le_of_lt hMb) (Mv.refl _ _ _) (Mv.refl _ _ _) (sides_l U1.out U2.out f1 f3 (by omega)) (sides_l U3.out U4.out (by omega) f5 (by omega)) U5.out
        all_goals exact ⟨rfl,_,R1.out,UM.out.trans y1,U0.out,y2⟩
      ·by_cases hD:E<b
       ·have hF:M<E:=by omega
        have tA:((i:Int)<(m:Int)):=by omega
        have tB:¬ ((m:Int)<(E:Int)):=by omega
        have tC:¬ ((a:Int)<(i:Int)):=by omega
        have tD:((E:Int)<(b:Int)):=by omega
        have tE:¬ ((i:Int)<(M:Int)):=by omega
        have tF:((M:Int)<(E:Int)):=by omega
        have hr1:=HR.out.ext (rot_none f2 f4 (by omega)).symm
        clear HR
        have R1:=hidE hr1;clear hr1
        go_wp2_with fail
        have x3:=U3.out;have x4:=U4.out
        have X3:=hidE x3;have X4:=hidE x4;clear x3 x4
        ((with_reducible refine (IH.out.app (a:=M) (m:=E) (b:=b) (by omega) R1.out U0.out UO.out hF hD hb X3.out X4.out).mono ?_);rintro e w3 ⟨rfl,d3,hr3,hm3,hi3,hs3⟩)
        have R3:=hidE hr3;have M3:=hidE hm3;have I3:=hidE hi3;have S3:=hidE hs3;clear hr3 hm3 hi3 hs3
        go_wp2
        all_goals go_end0
        all_goals obtain ⟨y1,y2⟩:=fin_c (Nat.le_of_lt hMa) (Nat.le_of_lt hMb) (Mv.refl _ _ _) M3.out (sides_l U1.out U2.out f1 f3 (by omega)) S3.out U5.out
        all_goals exact ⟨rfl,_,R3.out,UM.out.trans y1,I3.out,y2⟩
       ·have hF:M<E:=by omega
        have tA:((i:Int)<(m:Int)):=by omega
        have tB:¬ ((m:Int)<(E:Int)):=by omega
        have tC:¬ ((a:Int)<(i:Int)):=by omega
        have tD:¬ ((E:Int)<(b:Int)):=by omega
        have tE:¬ ((i:Int)<(M:Int)):=by omega
        have tF:((M:Int)<(E:Int)):=by omega
        have hr1:=HR.out.ext (rot_none f2 f4 (by omega)).symm
        clear HR
        have R1:=hidE hr1;clear hr1
        go_wp2
        all_goals go_end0
        all_goals obtain ⟨y1,y2⟩:=fin_c (Nat.le_of_lt hMa) (Nat.le_of_lt hMb) (Mv.refl _ _ _) (Mv.refl _ _ _) (sides_l U1.out U2.out f1 f3 (by omega)) (sides_l U3.out U4.out (by omega) f5 (by omega)) U5.out
        all_goals exact ⟨rfl,_,R1.out,UM.out.trans y1,U0.out,y2⟩
    ·by_cases hB:m<E
     ·by_cases hC:a<i
      ·by_cases hD:E<b
       ·have hE:i<M:=by omega
        have tA:¬ ((i:Int)<(m:Int)):=by omega
        have tB:((m:Int)<(E:Int)):=by omega
        have tC:((a:Int)<(i:Int)):=by omega
        have tD:((E:Int)<(b:Int)):=by omega
        have tE:((i:Int)<(M:Int)):=by omega
        have tF:¬ ((M:Int)<(E:Int)):=by omega
        have hr1:=HR.out.ext (rot_none f2 f4 (by omega)).symm
        clear HR
        have R1:=hidE hr1;clear hr1
        go_wp2_with fail
        ((with_reducible refine (IH.out.app (a:=a) (m:=i) (b:=M) (by omega) R1.out U0.out UO.out hC hE (by omega) U1.out U2.out).mono ?_);rintro e w2 ⟨rfl,d2,hr2,hm2,hi2,hs2⟩)
        have o2:=UO.out.mv hm2 (by omega)
        have R2:=hidE hr2;have M2:=hidE hm2;have I2:=hidE hi2;have S2:=hidE hs2;have O2:=hidE o2;clear hr2 hm2 hi2 hs2 o2
        go_wp2
        all_goals go_end0
        all_goals obtain ⟨y1,y2⟩:=fin_c (Nat.le_of_lt hMa) (Nat.le_of_lt hMb) M2.out (Mv.refl _ _ _) S2.out (sides_l (U3.out.congr fun k (q1:M≤k) (q2:k<E)=>M2.out.out k (.inr q1)) (U4.out.congr fun k (q1:E≤k) (q2:k<b)=>M2.out.out k (.inr (by omega))) (by omega) f5 (by omega)) U5.out
        all_goals exact ⟨rfl,_,R2.out,UM.out.trans y1,I2.out,y2⟩
       ·have hE:i<M:=by omega
        have tA:¬ ((i:Int)<(m:Int)):=by omega
        have tB:((m:Int)<(E:Int)):=by omega
        have tC:((a:Int)<(i:Int)):=by omega
        have tD:¬ ((E:Int)<(b:Int)):=by omega
        have tE:((i:Int)<(M:Int)):=by omega
        have tF:¬ ((M:Int)<(E:Int)):=by omega
        have hr1:=HR.out.ext (rot_none f2 f4 (by omega)).symm
        clear HR
        have R1:=hidE hr1;clear hr1
        go_wp2_with fail
        ((with_reducible refine (IH.out.app (a:=a) (m:=i) (b:=M) (by omega) R1.out U0.out UO.out hC hE (by omega) U1.out U2.out).mono ?_);rintro e w2 ⟨rfl,d2,hr2,hm2,hi2,hs2⟩)
        have o2:=UO.out.mv hm2 (by omega)
        have R2:=hidE hr2;have M2:=hidE hm2;have I2:=hidE hi2;have S2:=hidE hs2;have O2:=hidE o2;clear hr2 hm2 hi2 hs2 o2
        go_wp2
        all_goals go_end0
        all_goals obtain ⟨y1,y2⟩:=fin_c (Nat.le_of_lt hMa) (Nat.le_of_lt hMb) M2.out (Mv.refl _ _ _) S2.out (sides_l (U3.out.congr fun k (q1:M≤k) (q2:k<E)=>M2.out.out k (.inr q1)) (U4.out.congr fun k (q1:E≤k) (q2:k<b)=>M2.out.out k (.inr (by omega))) (by omega) f5 (by omega)) U5.out
        all_goals exact ⟨rfl,_,R2.out,UM.out.trans y1,I2.out,y2⟩
      ·by_cases hD:E<b
       ·have hE:i<M:=by omega
        have tA:¬ ((i:Int)<(m:Int)):=by omega
        have tB:((m:Int)<(E:Int)):=by omega
        have tC:¬ ((a:Int)<(i:Int)):=by omega
        have tD:((E:Int)<(b:Int)):=by omega
        have tE:((i:Int)<(M:Int)):=by omega
        have tF:¬ ((M:Int)<(E:Int)):=by omega
        have hr1:=HR.out.ext (rot_none f2 f4 (by omega)).symm
        clear HR
        have R1:=hidE hr1;clear hr1
        go_wp2
        all_goals go_end0
        all_goals obtain ⟨y1,y2⟩:=fin_c (Nat.le_of_lt hMa) (Nat.le_of_lt hMb) (Mv.refl _ _ _) (Mv.refl _ _ _) (sides_l U1.out U2.out f1 f3 (by omega)) (sides_l U3.out U4.out (by omega) f5 (by omega)) U5.out
        all_goals exact ⟨rfl,_,R1.out,UM.out.trans y1,U0.out,y2⟩
       ·have hE:i<M:=by omega
        have tA:¬ ((i:Int)<(m:Int)):=by omega
        have tB:((m:Int)<(E:Int)):=by omega
        have tC:¬ ((a:Int)<(i:Int)):=by omega
        have tD:¬ ((E:Int)<(b:Int)):=by omega
        have tE:((i:Int)<(M:Int)):=by omega
        have tF:¬ ((M:Int)<(E:Int)):=by omega
        have hr1:=HR.out.ext (rot_none f2 f4 (by omega)).symm
        clear HR
        have R1:=hidE hr1;clear hr1
        go_wp2
        all_goals go_end0
        all_goals obtain ⟨y1,y2⟩:=fin_c (Nat.le_of_lt hMa) (Nat.le_of_lt hMb) (Mv.refl _ _ _) (Mv.refl _ _ _) (sides_l U1.out U2.out f1 f3 (by omega)) (sides_l U3.out U4.out (by omega) f5 (by omega)) U5.out
        all_goals exact ⟨rfl,_,R1.out,UM.out.trans y1,U0.out,y2⟩
     ·by_cases hC:a<i
      ·by_cases hD:E<b
       ·have tA:¬ ((i:Int)<(m:Int)):=by omega
        have tB:¬ ((m:Int)<(E:Int)):=by omega
        have tC:((a:Int)<(i:Int)):=by omega
        have tD:((E:Int)<(b:Int)):=by omega
        have tE:¬ ((i:Int)<(M:Int)):=by omega
        have tF:¬ ((M:Int)<(E:Int)):=by omega
        have hr1:=HR.out.ext (rot_none f2 f4 (by omega)).symm
        clear HR
        have R1:=hidE hr1;clear hr1
        go_wp2
        all_goals go_end0
        all_goals obtain ⟨y1,y2⟩:=fin_c (Nat.le_of_lt hMa) (Nat.le_of_lt hMb) (Mv.refl _ _ _) (Mv.refl _ _ _) (sides_l U1.out U2.out f1 f3 (by omega)) (sides_l U3.out U4.out (by omega) f5 (by omega)) U5.out
        all_goals exact ⟨rfl,_,R1.out,UM.out.trans y1,U0.out,y2⟩
       ·have tA:¬ ((i:Int)<(m:Int)):=by omega
        have tB:¬ ((m:Int)<(E:Int)):=by omega
        have tC:((a:Int)<(i:Int)):=by omega
        have tD:¬ ((E:Int)<(b:Int)):=by omega
        have tE:¬ ((i:Int)<(M:Int)):=by omega
        have tF:¬ ((M:Int)<(E:Int)):=by omega
        have hr1:=HR.out.ext (rot_none f2 f4 (by omega)).symm
        clear HR
        have R1:=hidE hr1;clear hr1
        go_wp2
        all_goals go_end0
        all_goals obtain ⟨y1,y2⟩:=fin_c (Nat.le_of_lt hMa) (Nat.le_of_lt hMb) (Mv.refl _ _ _) (Mv.refl _ _ _) (sides_l U1.out U2.out f1 f3 (by omega)) (sides_l U3.out U4.out (by omega) f5 (by omega)) U5.out
        all_goals exact ⟨rfl,_,R1.out,UM.out.trans y1,U0.out,y2⟩
      ·by_cases hD:E<b
       ·have tA:¬ ((i:Int)<(m:Int)):=by omega
        have tB:¬ ((m:Int)<(E:Int)):=by omega
        have tC:¬ ((a:Int)<(i:Int)):=by omega
        have tD:((E:Int)<(b:Int)):=by omega
        have tE:¬ ((i:Int)<(M:Int)):=by omega
        have tF:¬ ((M:Int)<(E:Int)):=by omega
        have hr1:=HR.out.ext (rot_none f2 f4 (by omega)).symm
        clear HR
        have R1:=hidE hr1;clear hr1
        go_wp2
        all_goals go_end0
        all_goals obtain ⟨y1,y2⟩:=fin_c (Nat.le_of_lt hMa) (Nat.le_of_lt hMb) (Mv.refl _ _ _) (Mv.refl _ _ _) (sides_l U1.out U2.out f1 f3 (by omega)) (sides_l U3.out U4.out (by omega) f5 (by omega)) U5.out
        all_goals exact ⟨rfl,_,R1.out,UM.out.trans y1,U0.out,y2⟩
       ·have tA:¬ ((i:Int)<(m:Int)):=by omega
        have tB:¬ ((m:Int)<(E:Int)):=by omega
        have tC:¬ ((a:Int)<(i:Int)):=by omega
        have tD:¬ ((E:Int)<(b:Int)):=by omega
        have tE:¬ ((i:Int)<(M:Int)):=by omega
        have tF:¬ ((M:Int)<(E:Int)):=by omega
        have hr1:=HR.out.ext (rot_none f2 f4 (by omega)).symm
        clear HR
        have R1:=hidE hr1;clear hr1
        go_wp2
        all_goals go_end0
        all_goals obtain ⟨y1,y2⟩:=fin_c (Nat.le_of_lt hMa) (Nat.le_of_lt hMb) (Mv.refl _ _ _) (Mv.refl _ _ _) (sides_l U1.out U2.out f1 f3 (by omega)) (sides_l U3.out U4.out (by omega) f5 (by omega)) U5.out
        all_goals exact ⟨rfl,_,R1.out,UM.out.trans y1,U0.out,y2⟩
theorem symMerge_c (w0:World) (blk n cap:Nat) (t:TypeId) (K:Nat→Int) (recv:Value) (hC:Cmps w0 blk n recv K) (hn:n≤4611686018427387904):∀ N,SymIH w0 blk n cap t K recv N:=by
 intro N
 induction N with
 | zero=>intro w a m b d hN _ _ _ h1 h2;omega
 | succ N ih =>
  intro w a m b d hN hR hI hO ham hmb hb hs1 hs2
  by_cases c1:m≤a+1
  ·exact symMerge_up w0 w blk n cap a m b t K recv d hR hC hI hO ham c1 hmb hb hn hs2
  ·by_cases c2:b≤m+1
   ·exact symMerge_dn w0 w blk n cap a m b t K recv d hR hC hI hO (by omega) hmb c2 hb hn hs1
   ·obtain ⟨M,hM⟩:∃ M,(a+b) / 2=M:=⟨_,rfl⟩
    by_cases c3:M<m
    ·exact symMerge_mid w0 w blk n cap a m b N M (M+m - b) M t K recv d hR hC hI hO (by omega) (by omega) hb hn hs1 hs2 ih hN hM (.inl ⟨c3,by omega,rfl⟩)
    ·exact symMerge_mid w0 w blk n cap a m b N M a m t K recv d hR hC hI hO (by omega) (by omega) hb hn hs1 hs2 ih hN hM (.inr ⟨by omega,rfl,rfl⟩)
end
section
open Go.ChangeShapes Go.WideShapes Go.ChangeAt Go.RowKit
attribute [local irreducible] Go.Calls
section
variable {K:Nat→Int} {n bs a:Nat} {d d':Nat→Nat}
def Bl (K:Nat→Int) (n bs:Nat) (d:Nat→Nat):Prop:=∀ q,q * bs<n→Srt K (q * bs) (min (q * bs+bs) n) d
def Bi (K:Nat→Int) (n bs a:Nat) (d:Nat→Nat):Prop:=(∃ Q,a=Q * bs)∧∀ q,q * bs<a→Srt K (q * bs) (min (q * bs+bs) n) d
theorem lt_q {q Q x:Nat} (h:q * x<Q * x+x):q≤Q:=by
 rcases Nat.lt_or_ge Q q with c | c
 ·have:=Nat.mul_le_mul_right x c
  rw[Nat.succ_mul] at this
  omega
 ·exact c
theorem le_q {q Q x:Nat} (h:q<Q):q * x+x≤Q * x:=by
 have:=Nat.mul_le_mul_right x h
 rw[Nat.succ_mul] at this
 exact this
theorem bi_start (K:Nat→Int) (n bs:Nat) (d:Nat→Nat):Bi K n bs 0 d:=⟨⟨0,by simp⟩,fun q h=>by omega⟩
theorem bi_step (h:Bi K n bs a d) (hn:a+bs≤n) (hm:Mv a (a+bs) d d') (hs:Srt K a (a+bs) d'):Bi K n bs (a+bs) d':=by
 obtain ⟨⟨Q,rfl⟩,h2⟩:=h
 refine ⟨⟨Q+1,by rw[Nat.succ_mul]⟩,fun q hq => ?_⟩
 have hqQ:=lt_q hq
 rcases Nat.lt_or_ge q Q with c | c
 ·have:=le_q (x:=bs) c
  by_cases z:bs=0
  ·subst z;exact srt_one _ _ _ (by omega)
  ·exact (h2 q (by omega)).congr fun k q1 q2=>hm.out k (.inl (by omega))
 ·have:q=Q:=by omega
  subst this
  rw[Nat.min_eq_left hn];exact hs
theorem bi_end (h:Bi K n bs a d) (hn:n<a+bs) (hm:Mv a n d d') (hs:Srt K a n d'):Bl K n bs d':=by
 obtain ⟨⟨Q,rfl⟩,h2⟩:=h
 intro q hq
 have hqQ:=lt_q (Nat.lt_trans hq hn)
 rcases Nat.lt_or_ge q Q with c | c
 ·have:=le_q (x:=bs) c
  by_cases z:bs=0
  ·subst z;exact srt_one _ _ _ (by omega)
  ·exact (h2 q (by omega)).congr fun k q1 q2=>hm.out k (.inl (by omega))
 ·have:q=Q:=by omega
  subst this
  exact hs.mono (Nat.le_refl _) (Nat.min_le_right _ _)
def Bu (K:Nat→Int) (n bs a:Nat) (d:Nat→Nat):Prop:=Bi K n (2 * bs) a d∧∀ q,a≤q * bs→q * bs<n→Srt K (q * bs) (min (q * bs+bs) n) d
theorem bu_start (h:Bl K n bs d):Bu K n bs 0 d:=⟨bi_start K n _ d,fun q _ h2=>h q h2⟩
theorem dbl (Q bs:Nat):Q * (2 * bs)=(2 * Q) * bs:=by rw[←Nat.mul_assoc,Nat.mul_comm Q 2]
theorem bu_parts (h:Bu K n bs a d):(a<n→Srt K a (min (a+bs) n) d)∧(a+bs<n→Srt K (a+bs) (min (a+bs+bs) n) d):=by
 obtain ⟨⟨⟨Q,hQ⟩,h1⟩,h2⟩:=h
 rw[dbl] at hQ
 refine ⟨fun c => ?_,fun c => ?_⟩
 ·have:=h2 (2 * Q) (by omega) (by omega)
  rw[←hQ] at this;exact this
 ·have:=h2 (2 * Q+1) (by rw[Nat.succ_mul];omega) (by rw[Nat.succ_mul];omega)
  rw[Nat.succ_mul,←hQ] at this;exact this
theorem bu_step (h:Bu K n bs a d) (hn:a+2 * bs≤n) (hm:Mv a (a+2 * bs) d d') (hs:Srt K a (a+2 * bs) d'):Bu K n bs (a+2 * bs) d' :=
 ⟨bi_step h.1 hn hm hs,fun q h1 h2=>(h.2 q (by omega) h2).congr fun k q1 q2=>hm.out k (.inr (by omega))⟩
theorem bu_end (h:Bu K n bs a d) (hn:n<a+2 * bs) (hm:Mv a n d d') (hs:Srt K a n d'):Bl K n (2 * bs) d':=bi_end h.1 hn hm hs
theorem bu_end0 (h:Bu K n bs a d) (hn:n<a+2 * bs) (h2:n≤a+bs):Bl K n (2 * bs) d:=by
 refine bi_end h.1 hn (Mv.refl _ _ _) ?_
 by_cases c:a<n
 ·have:=(bu_parts h).1 c
  rw[Nat.min_eq_right h2] at this;exact this
 ·exact srt_one _ _ _ (by omega)
theorem bl_whole (h:Bl K n bs d) (hn:n≤bs):Srt K 0 n d:=by
 by_cases c:0<n
 ·have:=h 0 (by omega)
  simp only[Nat.zero_mul,Nat.zero_add] at this
  rw[Nat.min_eq_right hn] at this;exact this
 ·exact srt_one _ _ _ (by omega)
end
theorem insertion_eq {w0 w:World} {blk n cap a b:Nat} {x y:Int} {t:TypeId} {K:Nat→Int} {recv:Value} {d:Nat→Nat} (h:RowW w0 blk n t d w) (hC:Cmps w0 blk n recv K) (hI:Inv K n d) (hO:Okd n d) (hx:x=a) (hy:y=b) (hab:a≤b) (hb:b≤n) (hn:n≤4611686018427387904) :
  Calls Tryz.prog 231 #[.slice (some ⟨blk,0,none⟩) n cap,.int .i64 x,.int .i64 y,.func (.func 212) #[recv] #[]] w (SrtTo w0 blk n t K a b d):=by
 subst hx;subst hy;exact insertion_c w0 w blk n cap a b t K recv d h hC hI hO hab hb hn
theorem symMerge_eq {w0 w:World} {blk n cap a m b:Nat} {x y z:Int} {t:TypeId} {K:Nat→Int} {recv:Value} {d:Nat→Nat} (h:RowW w0 blk n t d w) (hC:Cmps w0 blk n recv K) (hI:Inv K n d) (hO:Okd n d) (hx:x=a) (hy:y=m) (hz:z=b) (ham:a<m) (hmb:m<b) (hb:b≤n) (hn:n≤4611686018427387904) (h1:Srt K a m d) (h2:Srt K m b d) :
  Calls Tryz.prog 232 #[.slice (some ⟨blk,0,none⟩) n cap,.int .i64 x,.int .i64 y,.int .i64 z,.func (.func 212) #[recv] #[]] w (SrtTo w0 blk n t K a b d):=by
 subst hx;subst hy;subst hz;exact symMerge_c w0 blk n cap t K recv hC hn (b - a) w a m b d (Nat.le_refl _) h hI hO ham hmb hb h1 h2
set_option maxRecDepth 100000 in
set_option maxHeartbeats 8000000 in
theorem stable_c (w0 w:World) (blk n cap:Nat) (t:TypeId) (K:Nat→Int) (recv:Value) (d:Nat→Nat) (h:RowW w0 blk n t d w) (hC:Cmps w0 blk n recv K) (hI:Inv K n d) (hO:Okd n d) (hn:n≤2305843009213693952) :
  Calls Tryz.prog 228 #[.slice (some ⟨blk,0,none⟩) n cap,.int .i64 n,.func (.func 212) #[recv] #[]] w (SrtTo w0 blk n t K 0 n d):=by
 have H:=hidE h;have HC:=hidE hC;have HI:=hidE hI;have HO:=hidE hO
 clear h hC hI hO
 go_enter Tryz.func228,Tryz.ntmps228
 go_wp2
 go_loopg [7,8] n (fun g1 va vb wr=>∃ (a:Nat) (dk:Nat→Nat),va = .int .i64 a∧vb = .int .i64 ((a:Int)+20)∧a≤n∧n - a≤g1∧RowW w0 blk n t dk wr∧Mv 0 n d dk∧Inv K n dk∧Bi K n 20 a dk)
 case atStart=>exact ⟨0,d,rfl,rfl,by omega,by omega,H.out,Mv.refl _ _ _,HI.out,bi_start _ _ _ _⟩
 case round =>
  obtain ⟨a,dk,rfl,rfl,han,hg1,hr,hm,hi,hb⟩:=hrel
  have HR:=hidE hr;have HM:=hidE hm;have HJ:=hidE hi;have HB:=hidE hb
  have HOK:=hidE (HO.out.mv hm (Nat.le_refl _))
  clear hr hm hi hb
  by_cases hlt:a+20≤n
  ·have hltz:(a:Int)+20≤(n:Int):=by omega
   go_wp2_with (go_at_call 231;((with_reducible refine (insertion_eq (a:=a) (b:=a+20) HR.out HC.out HJ.out HOK.out rfl (by omega) (by omega) (by omega) (by omega)).mono ?_);rintro e w1 ⟨rfl,d1,hr1,hm1,hi1,hs1⟩))
   go_roundg (n - (a+20))
   case measure=>omega
   case rel=>exact ⟨a+20,d1,by go_num,by go_num,by omega,by omega,hr1,HM.out.trans (hm1.mono (by omega) (by omega)),hi1,bi_step HB.out hlt hm1 hs1⟩
  ·have hltz:¬ (a:Int)+20≤(n:Int):=by omega
   go_wp2_with (go_at_call 231;((with_reducible refine (insertion_eq (a:=a) (b:=n) HR.out HC.out HJ.out HOK.out rfl rfl (by omega) (by omega) (by omega)).mono ?_);rintro e w1 ⟨rfl,d1,hr1,hm1,hi1,hs1⟩))
   have R1:=hidE hr1;have M1:=hidE (HM.out.trans (hm1.mono (by omega) (by omega)));have I1:=hidE hi1;have B1:=hidE (bi_end HB.out (by omega) hm1 hs1)
   clear hr1 hm1 hi1 hs1 HR HM HJ HB HOK
   go_loopg [6,7,8,9] n (fun g2 vs va vb vm wr2=>∃ (bs:Nat) (dk:Nat→Nat),vs = .int .i64 bs∧0<bs∧bs≤2 * n+20∧n - bs≤g2∧RowW w0 blk n t dk wr2∧Mv 0 n d dk∧Inv K n dk∧Bl K n bs dk)
   case atStart=>exact ⟨20,d1,rfl,by omega,by omega,by omega,R1.out,M1.out,I1.out,B1.out⟩
   case round =>
    clear R1 M1 I1 B1
    obtain ⟨bs,dk,rfl,hbs,hbn,hg2,hr,hm,hi,hb⟩:=hrel
    have HR:=hidE hr;have HM:=hidE hm;have HJ:=hidE hi;have HB:=hidE hb
    clear hr hm hi hb
    by_cases hlt:bs<n
    ·have hltz:(bs:Int)<(n:Int):=by omega
     obtain ⟨wo,rfl⟩:∃ wo:World,wo=wr:=⟨_,rfl⟩
     go_wp2
     go_loopg [7,8] n (fun g3 va vb wr3=>∃ (a:Nat) (dk:Nat→Nat),va = .int .i64 a∧vb = .int .i64 ((a:Int)+2 * (bs:Int))∧a≤n∧n - a≤g3∧RowW w0 blk n t dk wr3∧Mv 0 n d dk∧Inv K n dk∧Bu K n bs a dk)
     case atStart=>exact ⟨0,dk,rfl,by go_num,by omega,by omega,HR.out,HM.out,HJ.out,bu_start HB.out⟩
     case round =>
      clear HR HM HJ HB
      obtain ⟨a,dk,rfl,rfl,han,hg3,hr,hm,hi,hb⟩:=hrel
      have HR:=hidE hr;have HM:=hidE hm;have HJ:=hidE hi;have HB:=hidE hb
      have HOK:=hidE (HO.out.mv hm (Nat.le_refl _))
      have hp:=bu_parts hb
      have HP:=hidE hp
      clear hr hm hi hb hp
      by_cases hle:a+2 * bs≤n
      ·have hlez:(a:Int)+2 * (bs:Int)≤(n:Int):=by omega
       have x1:=HP.out.1 (by omega)
       have x2:=HP.out.2 (by omega)
       rw[Nat.min_eq_left (by omega)] at x1 x2
       have X1:=hidE x1;have X2:=hidE (x2.mono (Nat.le_refl _) (show a+2 * bs≤a+bs+bs by omega));clear x1 x2
       go_wp2_with (go_at_call 232;((with_reducible refine (symMerge_eq (a:=a) (m:=a+bs) (b:=a+2 * bs) HR.out HC.out HJ.out HOK.out rfl (by omega) (by omega) (by omega) (by omega) (by omega) (by omega) X1.out X2.out).mono ?_);rintro e w1 ⟨rfl,d1,hr1,hm1,hi1,hs1⟩))
       go_roundg (n - (a+2 * bs))
       case measure=>omega
       case rel=>exact ⟨a+2 * bs,d1,by go_num,by go_num,by omega,by omega,hr1,HM.out.trans (hm1.mono (by omega) (by omega)),hi1,bu_step HB.out hle hm1 hs1⟩
      ·have hlez:¬ (a:Int)+2 * (bs:Int)≤(n:Int):=by omega
       by_cases hmn:a+bs<n
       ·have hmz:(a:Int)+(bs:Int)<(n:Int):=by omega
        have x1:=HP.out.1 (by omega)
        have x2:=HP.out.2 (by omega)
        rw[Nat.min_eq_left (by omega)] at x1
        rw[Nat.min_eq_right (by omega)] at x2
        have X1:=hidE x1;have X2:=hidE x2;clear x1 x2
        go_wp2_with (go_at_call 232;((with_reducible refine (symMerge_eq (a:=a) (m:=a+bs) (b:=n) HR.out HC.out HJ.out HOK.out rfl (by omega) rfl (by omega) (by omega) (by omega) (by omega) X1.out X2.out).mono ?_);rintro e w1 ⟨rfl,d1,hr1,hm1,hi1,hs1⟩))
        go_roundg (n - 2 * bs)
        case measure=>omega
        case rel=>exact ⟨2 * bs,d1,by go_num,by omega,by omega,by omega,hr1,HM.out.trans (hm1.mono (by omega) (by omega)),hi1,bu_end HB.out (by omega) hm1 hs1⟩
       ·have hmz:¬ (a:Int)+(bs:Int)<(n:Int):=by omega
        have HZ:=hidE (bu_end0 HB.out (by omega) (by omega))
        go_wp2
        go_roundg (n - 2 * bs)
        case measure=>omega
        case rel=>exact ⟨2 * bs,dk,by go_num,by omega,by omega,by omega,HR.out,HM.out,HJ.out,HZ.out⟩
    ·have hltz:¬ (bs:Int)<(n:Int):=by omega
     go_wp2
     go_end0
     exact ⟨rfl,dk,HR.out,HM.out,HJ.out,bl_whole HB.out (by omega)⟩
theorem sortStable_c (w0 w:World) (blk n cap:Nat) (t:TypeId) (K:Nat→Int) (recv:Value) (d:Nat→Nat) (h:RowW w0 blk n t d w) (hC:Cmps w0 blk n recv K) (hI:Inv K n d) (hO:Okd n d) (hn:n≤2305843009213693952) :
  Calls Tryz.prog 211 #[.slice (some ⟨blk,0,none⟩) n cap,.func (.func 212) #[recv] #[]] w (SrtTo w0 blk n t K 0 n d):=by
 have HK:=hidE (stable_c w0 w blk n cap t K recv d h hC hI hO hn)
 clear h hC hI hO
 go_enter Tryz.func211,Tryz.ntmps211
 go_wp2_with (go_at_call 228;((with_reducible refine (HK.out).mono ?_);rintro e w1 ⟨rfl,hx⟩))
 go_end0
 exact ⟨rfl,hx⟩
end
section
open Go.ChangeShapes Go.WideShapes Go.ChangeAt Go.RowKit
attribute [local irreducible] Go.Calls
theorem valid_c (s:Sg) (w:World):Calls Tryz.prog 114 #[S s.1 s.2.1 s.2.2] w fun e w'=>e = .returned (.bool (okS s))∧Below w.heap.size w w':=by
 obtain ⟨x,m,c⟩:=s
 show Calls _ _ #[S x m c] _ _
 by_cases h1 : -1125899906842624≤x
 ·by_cases h2:x≤1125899906842624
  ·have e:okS (x,m,c)=okV m c:=by
    have:okT x=true:=okT_iff.2 ⟨h1,h2⟩
    unfold okS;simp only[this,Bool.true_and]
   rw[e]
   have d1:decide (-1125899906842624≤x)=true:=decide_eq_true h1
   have d2:decide (x≤1125899906842624)=true:=decide_eq_true h2
   clear e
   go_enter Tryz.func114,Tryz.ntmps114
   go_wp2_with (go_at_call 150;((with_reducible refine (may m c _).mono ?_);rintro e w' ⟨rfl,hb⟩;obtain ⟨hc,hf⟩:=bcell hb))
   go_ret
   exact ⟨rfl,by (repeat (first | exact Below.refl _ _ | assumption | refine balloc ?_ _ | refine below_drewN ?_ _ | refine bstep (by assumption) ?_ | refine bstep (Past.prop _) ?_ | refine Below.setCell ?_ (by first | exact Nat.le_refl _ | (simp;done) | (simp;omega)) _))⟩
  ·have e:okS (x,m,c)=false:=by
    have:okT x=false:=decide_eq_false (by omega)
    unfold okS;simp only[this,Bool.false_and]
   rw[e]
   have d1:decide (-1125899906842624≤x)=true:=decide_eq_true h1
   have d2:decide (x≤1125899906842624)=false:=decide_eq_false h2
   clear e
   go_enter Tryz.func114,Tryz.ntmps114
   go_wp2
   go_ret
   exact ⟨rfl,by (repeat (first | exact Below.refl _ _ | assumption | refine balloc ?_ _ | refine below_drewN ?_ _ | refine bstep (by assumption) ?_ | refine bstep (Past.prop _) ?_ | refine Below.setCell ?_ (by first | exact Nat.le_refl _ | (simp;done) | (simp;omega)) _))⟩
 ·have e:okS (x,m,c)=false:=by
   have:okT x=false:=decide_eq_false (by omega)
   unfold okS;simp only[this,Bool.false_and]
  rw[e]
  have d1:decide (-1125899906842624≤x)=false:=decide_eq_false h1
  clear e
  go_enter Tryz.func114,Tryz.ntmps114
  go_wp2
  go_ret
  exact ⟨rfl,by (repeat (first | exact Below.refl _ _ | assumption | refine balloc ?_ _ | refine below_drewN ?_ _ | refine bstep (by assumption) ?_ | refine bstep (Past.prop _) ?_ | refine Below.setCell ?_ (by first | exact Nat.le_refl _ | (simp;done) | (simp;omega)) _))⟩
def ChgPost (w:World) (p:Nat) (m0 c0 m c:Int) (e:Ending) (w':World):Prop :=
 e = .returned (.bool (!((m,c) == (m0,c0))))∧Blk w' p #[.int .i64 m,.int .i64 c] 60∧w.grownBy w' (some p)
theorem chg_c (p:Nat) (m0 c0 m c:Int) (w:World) (hB:Blk w p #[.int .i64 m0,.int .i64 c0] 60) :
  Calls Tryz.prog 149 #[V m c,.pointer (some ⟨p,0,none⟩)] w (ChgPost w p m0 c0 m c):=by
 have c1:=hB.cell 0;have c2:=hB.cell 1;have f:=hB.free;have z:=hB.lt
 simp at c1 c2
 have hp:p≠w.heap.size:=by omega
 by_cases e1:m=m0
 ·subst e1
  by_cases e2:c=c0
  ·subst e2
   go_enter Tryz.func149,Tryz.ntmps149
   go_wp2
   go_ret
   refine ⟨ret_bool (by simp), ?_, ?_⟩
   ·simpa using ((hB.set 0 (.int .i64 m)).set 1 (.int .i64 c)).alloc _
   ·exact grown_trans (grown_trans (grown_set _ _ _ _) (grown_set _ _ _ _)) (grown_alloc _ _ _)
  ·have d2:(c == c0)=false:=beq_eq_false_iff_ne.2 e2
   go_enter Tryz.func149,Tryz.ntmps149
   go_wp2
   go_ret
   refine ⟨ret_bool (by simp[e2]), ?_, ?_⟩
   ·simpa using ((hB.set 0 (.int .i64 m)).set 1 (.int .i64 c)).alloc _
   ·exact grown_trans (grown_trans (grown_set _ _ _ _) (grown_set _ _ _ _)) (grown_alloc _ _ _)
 ·have d1:(m == m0)=false:=beq_eq_false_iff_ne.2 e1
  go_enter Tryz.func149,Tryz.ntmps149
  go_wp2
  go_ret
  refine ⟨ret_bool (by simp[e1]), ?_, ?_⟩
  ·simpa using ((hB.set 0 (.int .i64 m)).set 1 (.int .i64 c)).alloc _
  ·exact grown_trans (grown_trans (grown_set _ _ _ _) (grown_set _ _ _ _)) (grown_alloc _ _ _)
theorem changing_c (w:World):Calls Tryz.prog 113 #[] w fun e w'=>e = .returned (.func (.func 149) #[] #[.pointer (some ⟨w.heap.size,0,none⟩)])∧w'=w.alloc (.cells #[.int .i64 0,.int .i64 0] 60):=by
 go_enter Tryz.func113,Tryz.ntmps113
 go_wp2
 go_ret
 exact ⟨rfl,rfl⟩
theorem ends_c (l:List Sg) (a:Option Addr) (cap:Nat) (w:World) (hl:l.length≤9223372036854775807) (hA:ArgS w a l) :
  Calls Tryz.prog 60 #[.slice a l.length cap] w fun e w'=>e = .returned (.tuple #[.int .i64 (endsL l).1,.int .i64 (endsL l).2.1,.bool (endsL l).2.2])∧Below w.heap.size w w':=by
 have HA:=hidE hA;clear hA
 by_cases h0:l.length=0
 ·have HE:=hidE (show endsL l=(0,0,true) by unfold endsL;rw[if_pos h0])
  obtain ⟨n,hn⟩:∃ n,n=l.length:=⟨_,rfl⟩
  rw[←hn] at h0 ⊢
  subst h0
  go_enter Tryz.func60,Tryz.ntmps60
  go_wp2
  go_ret3
  exact ⟨by rw[HE.out];rfl,Below.refl _ _⟩
 ·obtain ⟨k,hk⟩:∃ k,l.length=k+1:=⟨l.length - 1,by omega⟩
  have HE:=hidE (show endsL l=(ats l 0,ats l k,vls l k == (0,0)) by unfold endsL;rw[if_neg h0,hk,Nat.add_sub_cancel])
  obtain ⟨b,off,rfl,hb,hc⟩:=HA.out (by omega)
  obtain ⟨c0,c1,c2⟩:=hc.get (i:=k) (by omega)
  obtain ⟨d0,d1,d2⟩:=hc.get (i:=0) (by omega)
  simp at d0
  have hk1:k<9223372036854775807:=by omega
  rw[hk]
  clear hc hk HA h0 d1 d2 hl
  generalize ats l 0=u0 at *
  generalize ats l k=u at *
  generalize hv:vls l k=v at *
  obtain ⟨m,c⟩:=v
  clear hv
  dsimp only at c1 c2
  by_cases e1:m=0
  ·subst e1
   by_cases e2:c=0
   ·subst e2
    go_enter Tryz.func60,Tryz.ntmps60
    go_wp2
    go_quiet (fail)
    go_wp2
    go_ret3
    exact ⟨by rw[HE.out];rfl,by (repeat (first | exact Below.refl _ _ | assumption | refine balloc ?_ _ | refine below_drewN ?_ _ | refine bstep (by assumption) ?_ | refine bstep (Past.prop _) ?_ | refine Below.setCell ?_ (by first | exact Nat.le_refl _ | (simp;done) | (simp;omega)) _))⟩
   ·have e3:(c == 0)=false:=beq_eq_false_iff_ne.2 e2
    go_enter Tryz.func60,Tryz.ntmps60
    go_wp2
    go_quiet (fail)
    go_wp2
    go_ret3
    exact ⟨by rw[HE.out];simp[e2],by (repeat (first | exact Below.refl _ _ | assumption | refine balloc ?_ _ | refine below_drewN ?_ _ | refine bstep (by assumption) ?_ | refine bstep (Past.prop _) ?_ | refine Below.setCell ?_ (by first | exact Nat.le_refl _ | (simp;done) | (simp;omega)) _))⟩
  ·have e3:(m == 0)=false:=beq_eq_false_iff_ne.2 e1
   go_enter Tryz.func60,Tryz.ntmps60
   go_wp2
   go_quiet (fail)
   go_wp2
   go_ret3
   exact ⟨by rw[HE.out];simp[e1],by (repeat (first | exact Below.refl _ _ | assumption | refine balloc ?_ _ | refine below_drewN ?_ _ | refine bstep (by assumption) ?_ | refine bstep (Past.prop _) ?_ | refine Below.setCell ?_ (by first | exact Nat.le_refl _ | (simp;done) | (simp;omega)) _))⟩
theorem Tryz.infoInt:(Tryz.prog.info? 3).map (fun i=>(i.zero,i.size,i.bytes))=some (some (.int .i64 0),1,8):=by kernel_rfl
theorem madeInts (n:Nat):madeCells #[.int .i64 0] (n * 1)=rowC n (fun _=>0):=by
 apply Array.ext'
 rw[Nat.mul_one,toList_madeCells_one]
 apply List.ext_getElem
 ·simp[rowC]
 ·intro i h1 h2
  simp[rowC]
theorem make_ints (n:Nat) (hn:n≤1099511627776):∀ w,(Instr.makeSlice 234 (.int .i64 (n:Int)) (.int .i64 (n:Int))).run Tryz.prog w = .ok (.slice (some ⟨w.heap.size,0,none⟩) n n) (w.alloc (.cells (rowC n (fun _=>0)) 3)):=by
 intro w
 obtain ⟨i0,hi,hz0,hz1,hz2⟩:=info_parts Tryz.infoInt
 have h:=run_make (P:=Tryz.prog) w 234 3 i0 (.int .i64 0) Tryz.underlying234 hi hz0 .i64 .i64 n n (by omega) (by omega) (by rw[hz2];omega) (by omega)
 rw[h]
 simp only[Int.toNat_natCast,hz1,Value.cells]
 rw[madeInts]
def ordI (k:Nat):Nat→Nat:=fun j=>if j<k then j else 0
theorem ordI_step (k:Nat):(fun j=>if j=k then k else ordI k j)=ordI (k+1):=by
 funext j
 unfold ordI
 by_cases c:j=k
 ·subst c;rw[if_pos rfl,if_pos (by omega)]
 ·rw[if_neg c]
  by_cases c2:j<k
  ·rw[if_pos c2,if_pos (by omega)]
  ·rw[if_neg c2,if_neg (by omega)]
theorem cmps_runs {l:List Sg} {a:Option Addr} {cap:Nat} {w:World} (hl:l.length≤9223372036854775807) (hA:ArgS w a l):Cmps w w.heap.size l.length (.slice a l.length cap) (ats l):=by
 intro w1 hb x y hx hy
 obtain ⟨b,off,rfl,h1,h2⟩:=hA.past hb (by omega)
 exact cmpRuns_c l b off cap x y w1 h1 hl h2 hx hy
def OrdPost (w:World) (l:List Sg) (e:Ending) (w':World):Prop :=
 ∃ p d,e = .returned (.slice (some ⟨p,0,none⟩) l.length l.length)∧w.heap.size≤p∧Blk w' p (rowC l.length d) 3∧Below w.heap.size w w'∧Mv 0 l.length id d∧Srt (ats l) 0 l.length d
set_option maxHeartbeats 1000000 in
theorem inOrder_c (l:List Sg) (a:Option Addr) (cap:Nat) (w:World) (hl:l.length≤1099511627776) (hA:ArgS w a l) :
  Calls Tryz.prog 189 #[.slice a l.length cap] w (OrdPost w l):=by
 have HC:=hidE (cmps_runs (cap:=cap) (by omega) hA)
 obtain ⟨n,hn⟩:∃ n,n=l.length:=⟨_,rfl⟩
 have HN:=hidE hn
 rw[←hn] at hl HC ⊢
 have hmk:=make_ints n hl
 clear hA
 have HMK:=hidE hmk;clear hmk hn
 go_enter Tryz.func189,Tryz.ntmps189
 go_upto_region 1 with fail
 have hmk:=HMK.out w
 go_wp2_with fail
 clear hmk
 go_loopw [10,4] (fun i _ wr=>∃ k:Nat,k≤n∧i = .int .i64 k∧RowW w w.heap.size n 3 (ordI k) wr) (fun i _ _=>n - (intOf i).toNat)
 case atStart=>exact ⟨0,Nat.zero_le _,rfl,⟨Blk.made _ _ _,by (repeat (first | exact Below.refl _ _ | assumption | refine balloc ?_ _ | refine below_drewN ?_ _ | refine bstep (by assumption) ?_ | refine bstep (Past.prop _) ?_ | refine Below.setCell ?_ (by first | exact Nat.le_refl _ | (simp;done) | (simp;omega)) _))⟩⟩
 case round =>
  obtain ⟨k,hk,rfl,hr⟩:=hrel
  by_cases hlt:k<n
  ·have c1:=hr.cell (i:=k) hlt
   have f1:=hr.free k
   have HR:=hidE ((hr.set k k).ext (ordI_step k));clear hr
   go_wp2
   go_roundw
   case rel=>exact ⟨k+1,by omega,by go_num,HR.out⟩
   case measure=>simp[intOf];omega
  ·have hk':k=n:=by omega
   subst hk'
   have hrow:RowW w w.heap.size k 3 id wr:=⟨by
    have e:=rowC_ext (n:=k) (d:=ordI k) (d':=id) (fun i hi=>by unfold ordI;rw[if_pos hi];rfl)
    rw[←e];exact hr.here,hr.low⟩
   have HR:=hidE hrow;clear hr hrow
   have HI:=hidE (show Inv (ats l) k id from fun i j h1 h2 => .inr h1)
   have HO:=hidE (show Okd k id from fun i hi=>hi)
   go_wp2_with (go_at_call 211;((with_reducible refine (sortStable_c w _ w.heap.size k k 3 (ats l) (.slice a k cap) id HR.out HC.out HI.out HO.out (by omega)).mono ?_);rintro e w1 ⟨rfl,d1,hr1,hm1,hi1,hs1⟩))
   go_ret
   have e:=HN.out
   subst e
   exact ⟨_,d1,rfl,Nat.le_refl _,hr1.here,hr1.low,hm1,hs1⟩
end
end Go.Proofs.YtcmponckjkalaaaGreat
